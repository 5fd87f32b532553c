/-
  Contracts of the program's NameText. Contracts of the laws' names: a name is read, and written.
-/
import Derived.Test.YtaconefooicplaaFnNameTextsG24
import Derived.Test.YtaconefooicplaaFnNameTextsG16
import Derived.Test.YtaconefooicplaaFnNameTextsG18
import Derived.Lib.SlBytesConst
namespace Go.Proofs.Ytaconefooicplaa
open Go.RowKit
set_option linter.unusedVariables false

set_option maxHeartbeats 1000000 in
set_option maxRecDepth 100000 in
theorem implNameText_has {v : Value} {n : List (List Int)} {w : World} (h : HasL w v n) :
    Calls Try.prog 10 #[.agg #[v]] w fun e w' => ∃ v', e = .returned v' ∧ Own w.heap.size 5 w' v' (nameText n) ∧ Below w.heap.size w w' := by
  obtain ⟨a, cap, rfl, hl, hm⟩ := h.form
  unfold maxLen at hm
  have b0 := below_alloc (w := w) (.cells #[.slice a n.length cap] 25)
  have k0 := heap_alloc_new w (.cells #[.slice a n.length cap] 25)
  have h0 := hide (h.below b0)
  clear h
  cases hok : nameOk n with
  | false =>
    rw [nameText_no hok]
    have HOK := hide hok
    clear hok
    go_enter Try.func10, Try.ntmps10
    go_wp2_with fail
    generalize w.alloc (.cells #[.slice a n.length cap] 25) = W0 at *
    refine (implNameOk_has (unhide h0)).mono ?_
    rw [unhide HOK]
    rintro e w1 ⟨rfl, b1⟩
    have k1 := block_kept b1 k0
    have c1 := block_one k1
    have h1 := hide ((unhide h0).below b1)
    have bb1 := below_next b0 b1
    have z1 := block_lt k1
    clear b0 k0 h0 b1
    go_wp2_with fail
    go_ret
    exact ⟨_, rfl, World.ownsRow_nil _ _ _ _, bb1⟩
  | true =>
    have HOK := hide hok
    by_cases hn0 : n.length = 0
    · rw [nameText_root hok hn0]
      clear hok
      obtain rfl : n = [] := List.eq_nil_of_length_eq_zero hn0
      simp only [List.length_nil] at *
      clear hn0
      go_enter Try.func10, Try.ntmps10
      go_wp2_with fail
      generalize w.alloc (.cells #[.slice a 0 cap] 25) = W0 at *
      refine (implNameOk_has (unhide h0)).mono ?_
      rw [unhide HOK]
      rintro e w1 ⟨rfl, b1⟩
      have k1 := block_kept b1 k0
      have c1 := block_one k1
      have h1 := hide ((unhide h0).below b1)
      have bb1 := below_next b0 b1
      have z1 := block_lt k1
      clear b0 k0 h0 b1
      go_wp2
      go_ret
      exact ⟨_, rfl, own_lit w1 w.heap.size 5 [46] (by omega) (by simp [maxLen]), bb1.alloc bb1.size _⟩
    · have hdl := dots_length n hok
      have h6 := (nameOk_parts hok).1
      have HDS := hide (dots_succ n)
      have HD0 := hide (dots_zero n)
      have HLEN := hide (show ∀ k, k < n.length → (n.getD k []).length ≤ 15 from fun k hk => (labelOk_length ((nameOk_parts hok).2 k hk)).2)
      rw [nameText_some hok hn0]
      clear hok
      have hn1 : ((n.length : Int) == 0) = false := by rw [beq_eq_false_iff_ne]; omega
      have HDL := hide hdl
      clear hdl
      generalize dots n = D at *
      go_enter Try.func10, Try.ntmps10
      go_wp2_with fail
      generalize w.alloc (.cells #[.slice a n.length cap] 25) = W0 at *
      refine (implNameOk_has (unhide h0)).mono ?_
      rw [unhide HOK]
      rintro e w1 ⟨rfl, b1⟩
      have k1 := block_kept b1 k0
      have c1 := block_one k1
      have h1 := hide ((unhide h0).below b1)
      have bb1 := below_next b0 b1
      have z1 := block_lt k1
      clear b0 k0 h0 b1
      generalize hn : n.length = m at *
      have HN := hide hn
      clear hn
      have K1 := hide k1
      clear k1
      go_wp2
      go_loopw [3, 17] (fun o i wr => ∃ k : Nat, k ≤ m ∧ i = .int .i64 k ∧ Own w1.heap.size 5 wr o (D k) ∧ Below w1.heap.size w1 wr) (fun _ i _ => m - (intOf i).toNat)
      case atStart => exact ⟨0, Nat.zero_le _, rfl, by rw [unhide HD0]; exact World.ownsRow_nil _ _ _ _, Below.refl _ _⟩
      case round =>
        obtain ⟨k, hk, rfl, ho, hb⟩ := hrel
        by_cases hlt : k < m
        · obtain ⟨b, off, u, rfl, hbl, hc, hu⟩ := ((unhide h1).below hb).here (k := k) (by rw [unhide HN]; exact hlt)
          have hds := hide (unhide HDS k hlt)
          have hlk := unhide HLEN k hlt
          have hdk := unhide HDL k
          generalize n.getD k [] = lab at *
          have HU := hide hu
          obtain ⟨ua, uc, rfl, _⟩ := hu.form
          clear hu
          have zb := hb.size
          go_wp2_with (at_builtin; refine append_bytes rfl _ _ 22 5 rfl Try.underlying22 info_u8 w1.heap.size _ (.slice ua lab.length uc) (D k) lab rfl rfl ho (unhide HU).reads (by omega) zb ?_)
          intro v2 w2 o2 g2
          have z2 := g2.size
          have hb2 : Below w1.heap.size w1 w2 := hb.grown g2 zb (fun q hq => (ho.lt q hq).1)
          clear g2 ho hb
          go_wp2_with (at_builtin; refine append_bytes rfl _ _ 22 5 rfl Try.underlying22 info_u8 w1.heap.size v2 _ (D k ++ lab) [46] rfl rfl (o2.alloc _) (own_lit w2 0 5 [46] (Nat.zero_le _) (by simp [maxLen])).reads (by simp; omega) (by simp; omega) ?_)
          intro v3 w3 o3 g3
          have hb3 : Below w1.heap.size w1 w3 := (hb2.alloc hb2.size _).grown g3 (by simp; omega) (fun q hq => (o2.lt q hq).1)
          clear g3 o2 hb2
          go_wp2_with fail
          exact ⟨⟨k + 1, by omega, by go_num, by rw [unhide hds, List.append_assoc]; exact o3, hb3⟩, by simp [intOf]; omega⟩
        · obtain rfl : k = m := by omega
          go_wp2_with fail
          go_ret
          exact ⟨_, rfl, by rw [unhide HN]; exact ho.mono (Nat.le_of_lt z1), below_next bb1 hb⟩
end Go.Proofs.Ytaconefooicplaa

namespace Go.Proofs.Ytaconefooicplaa
open Go.RowKit
set_option linter.unusedVariables false

theorem nameRead_ab : nameRead [65, 46, 98] = ([[97], [98]], true) := by decide +kernel
theorem nameText_ab : nameText [[97], [98]] = [97, 46, 98, 46] := by decide +kernel
theorem bytes8_of {l : List Int} (h : ∀ x ∈ l, 0 ≤ x ∧ x ≤ 255) : Bytes8 l := fun k => by
  rw [List.getD_eq_getElem?_getD]
  cases hk : l[k]? with
  | none => simp
  | some y => exact h y (List.mem_of_getElem? hk)

set_option maxHeartbeats 1000000 in
set_option maxRecDepth 100000 in
theorem names_any (w : World) : Calls Try.prog 13 #[] w fun e w' => e = .returned (.bool true) ∧ Below w.heap.size w w' := by
  have hcid := fun (w : World) (C : Array Value) (n c : Nat) => Lib.run_convert_bytes_const (P := Try.prog) w 22 5 C n c Try.underlying22 Try.underlying5
  have b0 := below_alloc (w := w) (.cells #[.int .u8 65, .int .u8 46, .int .u8 98] 5 (3, 4))
  have HR := implNameRead_has (l := [65, 46, 98]) (has_const w 5 [65, 46, 98] (3, 4) (by simp [maxLen])) (by simp) (bytes8_of (by simp))
  rw [nameRead_ab] at HR
  have HR := hide HR
  have HT := hide (fun (w : World) (v : Value) (h : HasL w v [[97], [98]]) => implNameText_has h)
  have HTB := hide nameText_ab
  go_enter Try.func13, Try.ntmps13
  go_wp2_with fail
  refine (unhide HR).mono ?_
  rintro e w1 ⟨v1, rfl, o1, b1⟩
  obtain ⟨oa, oc, rfl, _⟩ := o1.hasL.form
  have bm := below_alloc (w := w1) (.cells #[.slice oa 2 oc] 25)
  have K2 := hide (heap_alloc_new w1 (.cells #[.slice oa 2 oc] 25))
  have O2 := hide (o1.below bm).hasL
  have bb2 := below_next (below_next b0 b1) bm
  clear o1 b1 bm b0 HR
  have c2 := block_one (unhide K2)
  go_wp2_with fail
  generalize w1.alloc (.cells #[.slice oa 2 oc] 25) = w2 at *
  refine (unhide HT _ _ (unhide O2)).mono ?_
  rw [unhide HTB]
  rintro e w3 ⟨v3, rfl, o3, b3⟩
  have bb3 := below_next bb2 b3
  clear c2 K2 O2 bb2 b3
  have b4 := below_alloc (w := w3) (.cells #[.int .u8 97, .int .u8 46, .int .u8 98, .int .u8 46] 5 (4, 5))
  have HS := same_has (o3.alloc (.cells #[.int .u8 97, .int .u8 46, .int .u8 98, .int .u8 46] 5 (4, 5))).has (has_const w3 5 [97, 46, 98, 46] (4, 5) (by simp [maxLen])) (by simp) (by simp)
  rw [decide_eq_true rfl] at HS
  have HS := hide HS
  obtain ⟨va, vc, rfl, _⟩ := o3.lies
  clear o3
  go_wp2_with fail
  refine (unhide HS).mono ?_
  rintro e w4 ⟨rfl, rfl⟩
  go_wp2_with fail
  go_ret
  exact ⟨rfl, below_next bb3 b4⟩
end Go.Proofs.Ytaconefooicplaa
