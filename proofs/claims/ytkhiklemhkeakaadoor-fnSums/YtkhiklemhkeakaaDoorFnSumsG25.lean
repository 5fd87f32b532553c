/-
  Contracts of the specification's l2put and NamePut. Contracts of the specification's NamePut.
-/
import Derived.Test.YtkhiklemhkeakaaDoorFnSumsG24
import Derived.Test.YtkhiklemhkeakaaDoorFnSumsG19
import Derived.Deep.RegionHeld3
import Derived.Test.YtkhiklemhkeakaaDoorFnSumsG04
namespace Go.Proofs.YtkhiklemhkeakaaDoor
open Go.RowKit
set_option linter.unusedVariables false

set_option maxHeartbeats 2000000 in
set_option maxRecDepth 100000 in
theorem l2put_own {B : Nat} {vb v : Value} {l : List Int} {n : List (List Int)} {w : World} (hvb : Own B 5 w vb l) (hB : B ≤ w.heap.size) (hl : l.length ≤ 1099511620000) (h : HasLAt B w v n) (h6 : n.length ≤ 6) (hlen : ∀ k, k < n.length → (n.getD k []).length ≤ 15) (hdl : ∀ k, (wires n k).length ≤ 16 * k) :
    Calls Tryd.prog 25 #[vb, .agg #[v]] w fun e w' => ∃ v', e = .returned v' ∧ Own B 5 w' v' (l ++ wire n) ∧ Below B w w' := by
  obtain ⟨a, cap, rfl, hcl, hm⟩ := h.hasL.form
  unfold maxLen at hm
  have HDS := hide (wires_succ n)
  have HD0 := hide (wires_zero n)
  have HLEN := hide hlen
  have HDL := hide hdl
  clear hdl hlen
  unfold wire
  generalize wires n = D at *
  have b0 := below_alloc (w := w) (.cells #[.slice a n.length cap] 27)
  have k0 := heap_alloc_new w (.cells #[.slice a n.length cap] 27)
  have h0 := hide (h.below b0)
  have v0 := hide (hvb.alloc (.cells #[.slice a n.length cap] 27))
  clear h hvb
  have z0 := block_lt k0
  generalize hn : n.length = m at *
  have HN := hide hn
  clear hn
  go_enter Tryd.func25, Tryd.ntmps25
  go_wp2
  generalize w.alloc (.cells #[.slice a m cap] 27) = w1 at *
  go_loopw [0, 5] (fun o i wr => ∃ k : Nat, k ≤ m ∧ i = .int .i64 k ∧ Own B 5 wr o (l ++ D k) ∧ Below B w1 wr ∧ wr.heap[w.heap.size]? = some (.cells #[.slice a m cap] 27)) (fun _ i _ => m - (intOf i).toNat)
  case atStart => exact ⟨0, Nat.zero_le _, rfl, by rw [unhide HD0, List.append_nil]; exact unhide v0, Below.refl _ _, k0⟩
  case round =>
    obtain ⟨k, hk, rfl, ho, hb, hk1⟩ := hrel
    have c1 := block_one hk1
    have zb : B ≤ wr.heap.size := by have := hb.size; omega
    have hdk := unhide HDL k
    have hdk2 : (l ++ D k).length ≤ 1099511620000 + 96 := by rw [List.length_append]; omega
    by_cases hlt : k < m
    · obtain ⟨b, off, u, rfl, hbl, hc, hu⟩ := ((unhide h0).low hb (Nat.le_refl _)).here (k := k) (by rw [unhide HN]; exact hlt)
      have hds := hide (unhide HDS k hlt)
      have hlk := unhide HLEN k hlt
      generalize n.getD k [] = lab at *
      have HU := hide hu
      obtain ⟨ua, uc, rfl, _⟩ := hu.form
      clear hu
      have hwrap := wrap_u8 lab.length (by omega)
      have hod := hide (ho.below (below_drew (w := wr)))
      have hbd := hide (hb.drew)
      have kd := block_kept (below_drew (w := wr)) hk1
      have hcd := block_one kd
      have hud : wr.drew.cell? ⟨b, off + k, none⟩ = some (.slice ua lab.length uc) := hc
      have HUAL := hide (show ∀ o, (wr.drew.alloc o).cell? ⟨b, off + k, none⟩ = some (.slice ua lab.length uc) from fun o => ((below_alloc o).cell (p := ⟨b, off + k, none⟩) (by show b < wr.heap.size; omega)).trans hud)
      have KAL := hide (show ∀ o, (wr.drew.alloc o).heap[w.heap.size]? = some (.cells #[.slice (some ⟨b, off, none⟩) m cap] 27) from fun o => block_kept (below_alloc o) kd)
      have BAL := hide (show ∀ o, Below B w1 (wr.drew.alloc o) from fun o => hb.drew.alloc zb o)
      have UAL := hide (show ∀ o, HasAt B (wr.drew.alloc o) (.slice ua lab.length uc) lab from fun o => (unhide HU).low ((Below.refl B wr).drew.alloc zb o) (Nat.le_refl _))
      have ZAL := hide (show ∀ o, B ≤ (wr.drew.alloc o).heap.size from fun o => Nat.le_trans zb (below_alloc (w := wr.drew) o).size)
      have KD := hide kd
      have HC := hide hc
      clear ho kd hud hcd hc
      go_wp2_with fail
      clear c1
      go_region_held3 (fun w' => w'.cell? ⟨w.heap.size, 0, none⟩ = some (.slice (some ⟨b, off, none⟩) m cap) ∧ w'.cell? ⟨b, off + k, none⟩ = some (.slice ua lab.length uc))
        (first | exact ⟨block_one (unhide KD), unhide HC⟩ | exact ⟨block_one (unhide KAL _), unhide HUAL _⟩ | exact ⟨block_one k2, u2⟩ | exact ⟨block_one k3, u3⟩)
        (first
        | (refine step_append_bytes rfl (.tmp 13) (.tmp 21) 22 5 rfl Tryd.underlying22 info_u8 B _ _ (l ++ D k) [(lab.length : Int)] (by simp [Act.eval]) (by simp [Act.eval]) ((unhide hod).alloc _) (own_lit wr.drew 0 5 [(lab.length : Int)] (Nat.zero_le _) (by simp [maxLen])).reads (by simp only [List.length_cons, List.length_nil]; omega) (unhide ZAL _) ?_; intro v2 w2 o2 g2; obtain ⟨k2, b2, z2, U2, u2⟩ := put_step g2 ((unhide hod).alloc _) (unhide ZAL _) (unhide KAL _) (by decide) (unhide BAL _) (unhide UAL _) (unhide HUAL _) hbl)
        | (refine step_append_bytes rfl (.tmp 22) (.tmp 27) 22 5 rfl Tryd.underlying22 info_u8 B _ _ ((l ++ D k) ++ [(lab.length : Int)]) lab (by simp [Act.eval]) (by simp [Act.eval]) o2 U2.has.reads (by rw [List.length_append, List.length_cons, List.length_nil]; omega) z2 ?_; intro v3 w3 o3 g3; obtain ⟨k3, b3, z3, U3, u3⟩ := put_step g3 o2 z2 k2 (by decide) b2 U2 u2 hbl))
      all_goals
        go_wp2_with fail
        exact ⟨⟨k + 1, by omega, by go_num, by rw [unhide hds]; simpa only [List.append_assoc, List.singleton_append] using o3, b3, k3⟩, by simp [intOf]; omega⟩
    · obtain rfl : k = m := by omega
      go_wp2_with (at_builtin; refine append_bytes rfl _ _ 22 5 rfl Tryd.underlying22 info_u8 B _ _ (l ++ D k) [0] rfl rfl (ho.alloc _) (own_lit wr 0 5 [0] (Nat.zero_le _) (by simp [maxLen])).reads (by simp only [List.length_cons, List.length_nil]; omega) (by simp; omega) ?_)
      intro v4 w4 o4 g4
      have b4 : Below B w1 w4 := (hb.alloc zb _).grown g4 (by simp; omega) (fun q hq => (ho.lt q hq).1)
      go_wp2_with fail
      go_ret
      exact ⟨v4, rfl, by simpa only [List.append_assoc] using o4, (b0.mono hB).trans b4⟩
end Go.Proofs.YtkhiklemhkeakaaDoor

namespace Go.Proofs.YtkhiklemhkeakaaDoor
open Go.RowKit
set_option linter.unusedVariables false

set_option maxHeartbeats 2000000 in
set_option maxRecDepth 100000 in
theorem specNamePut_has {vb v : Value} {l : List Int} {n : List (List Int)} {w : World} (hvb : Has w vb l) (hl : l.length ≤ 1048576) (h : HasL w v n) :
    Calls Tryd.prog 9 #[vb, .agg #[v]] w fun e w' => ∃ v', e = .returned (.tuple #[v', .bool (nameOk n)]) ∧ Own w.heap.size 5 w' v' (namePut l n) ∧ Below w.heap.size w w' := by
  obtain ⟨a, cap, rfl, hcl, hm⟩ := h.form
  unfold maxLen at hm
  have b0 := below_alloc (w := w) (.cells #[.slice a n.length cap] 27)
  have k0 := heap_alloc_new w (.cells #[.slice a n.length cap] 27)
  have h0 := hide (h.below b0)
  have v0 := hide (hvb.below b0)
  clear h hvb
  cases hok : nameOk n with
  | false =>
    rw [namePut_no hok]
    have HOK := hide hok
    clear hok
    go_enter Tryd.func9, Tryd.ntmps9
    go_wp2_with fail
    generalize w.alloc (.cells #[.slice a n.length cap] 27) = W0 at *
    refine (specNameOk_has (unhide h0)).mono ?_
    rw [unhide HOK]
    rintro e w1 ⟨rfl, b1⟩
    have bb1 := below_next b0 b1
    clear b0 k0 h0 b1
    go_wp2_with fail
    go_ret2
    exact ⟨_, rfl, World.ownsRow_nil _ _ _ _, bb1⟩
  | true =>
    have HOK := hide hok
    have h6 := (nameOk_parts hok).1
    have HLEN := hide (show ∀ k, k < n.length → (n.getD k []).length ≤ 15 from fun k hk => (labelOk_length ((nameOk_parts hok).2 k hk)).2)
    have HDL := hide (wires_length n hok)
    rw [namePut_yes hok]
    clear hok
    generalize hW : wire n = WI
    have HWI := hide hW
    clear hW
    go_enter Tryd.func9, Tryd.ntmps9
    go_wp2_with fail
    generalize w.alloc (.cells #[.slice a n.length cap] 27) = W0 at *
    refine (specNameOk_has (unhide h0)).mono ?_
    rw [unhide HOK]
    rintro e w1 ⟨rfl, b1⟩
    have k1 := block_kept b1 k0
    have H1 := hide ((unhide h0).below b1).at
    have v1 := (unhide v0).below b1
    have bb1 := below_next b0 b1
    have z1 := block_lt k1
    clear b0 k0 h0 b1 v0
    have VAL := hide (show ∀ o, Has (w1.drew.alloc o) vb l from fun o => (v1.below below_drew).below (below_alloc o))
    have kd := block_kept (below_drew (w := w1)) k1
    have KAL := hide (show ∀ o, (w1.drew.alloc o).heap[w.heap.size]? = some (.cells #[.slice a n.length cap] 27) from fun o => block_kept (below_alloc o) kd)
    have BAL := hide (show ∀ o, Below w1.heap.size w1 (w1.drew.alloc o) from fun o => (Below.refl _ _).drew.alloc (Nat.le_refl _) o)
    have ZAL := hide (show ∀ o, w1.heap.size ≤ (w1.drew.alloc o).heap.size from fun o => (below_alloc (w := w1.drew) o).size)
    have KD := hide kd
    clear kd v1 k1
    go_wp2_with fail
    go_region_held3 (fun w' => w'.cell? ⟨w.heap.size, 0, none⟩ = some (.slice a n.length cap))
      (first | exact block_one (unhide KD) | exact block_one (unhide KAL _) | exact block_one k2 | exact block_one k3)
      (first
      | (refine step_append_bytes rfl (.tmp 9) (.tmp 10) 22 5 rfl Tryd.underlying22 info_u8 w1.heap.size _ _ [] l (by simp [Act.eval]) (by simp [Act.eval]) (own_lit w1.drew w1.heap.size 5 [] (Nat.le_refl _) (by simp)) (unhide VAL _).reads (by simp only [List.length_nil]; omega) (unhide ZAL _) ?_; intro v2 w2 o2 g2; obtain ⟨k2, b2, z2⟩ := put_step0 g2 (own_lit w1.drew w1.heap.size 5 [] (Nat.le_refl _) (by simp)) (unhide ZAL _) (unhide KAL _) (by decide) (unhide BAL _))
      | (go_at_call 25; refine (l2put_own (l := l) o2 z2 (by omega) ((unhide H1).low b2 (Nat.le_refl _)) h6 (unhide HLEN) (unhide HDL)).mono ?_; rw [unhide HWI]; rintro e w3 ⟨v3, rfl, o3, b3⟩; have k3 := (b2.trans b3).block w.heap.size z1 |>.trans (unhide KD)))
    all_goals
      go_wp2_with fail
      go_ret2
      exact ⟨v3, rfl, o3.mono (Nat.le_of_lt z1), below_next bb1 (b2.trans b3)⟩
end Go.Proofs.YtkhiklemhkeakaaDoor
