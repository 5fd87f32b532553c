/-
  Contract of the specification's l7sum. Contracts of the program's and the specification's Sha256 at every text.
-/
import Derived.Test.YtkhiklemhkeakaaDoorFnSumsG19
import Derived.Test.YtkhiklemhkeakaaDoorFnSumsG15
import Derived.Test.YtkhiklemhkeakaaDoorFnSumsG16
import Derived.Test.YtkhiklemhkeakaaDoorFnSumsG17
import Derived.Test.YtkhiklemhkeakaaDoorFnSumsG18
namespace Go.Proofs.YtkhiklemhkeakaaDoor
open Go.RowKit
set_option linter.unusedVariables false
set_option linter.unusedSimpArgs false

theorem l7block_ex {v : Value} {bs : List Int} {s : S8} {w : World} (hv : Has w v bs) (hl : bs.length = 64) (h8 : Bytes8 bs) :
    Calls Tryd.prog 34 #[.agg (cellsU (l8 s)), v] w fun e w' => (∃ s', Hid (blockS s bs = s') ∧ e = .returned (.agg (cellsU (l8 s')))) ∧ Below w.heap.size w w' :=
  (l7block_is hv hl h8).mono (fun e w' ⟨he, hb⟩ => ⟨⟨_, hide rfl, he⟩, hb⟩)

set_option maxHeartbeats 2000000 in
set_option maxRecDepth 100000 in
theorem l7sum_any {v : Value} {l : List Int} {w : World} (h : Has w v l) (hl : l.length ≤ 4096) (h8 : Bytes8 l) :
    Calls Tryd.prog 15 #[v] w fun e w' => ∃ v', e = .returned v' ∧ Own w.heap.size 5 w' v' (shaOf l) ∧ Below w.heap.size w w' := by
  obtain ⟨la, lc, hlv, _⟩ := h.form
  generalize hln : l.length = n at *
  have HLN := hide hln
  clear hln
  subst hlv
  go_enter Tryd.func15, Tryd.ntmps15
  go_wp2_with (at_builtin; refine append_bytes rfl _ _ 22 5 rfl Tryd.underlying22 info_u8 w.heap.size _ (.slice la n lc) [] l rfl rfl (own_lit w w.heap.size 5 [] (Nat.le_refl _) (by simp)) (h.below (below_alloc _)).reads (by simp [unhide HLN]; omega) (by simp) ?_)
  intro v1 w1 o1 hgrow
  have b1 : Below w.heap.size w w1 := ((Below.refl _ _).alloc (Nat.le_refl _) _).grown hgrow (by simp) (fun k hk => by simp [Value.ownBlock] at hk; omega)
  clear hgrow
  have z1 := b1.size
  replace o1 : Own w.heap.size 5 w1 v1 l := o1
  go_wp2_with (at_builtin; refine append_bytes rfl _ _ 22 5 rfl Tryd.underlying22 info_u8 w.heap.size v1 _ l [128] rfl rfl (o1.alloc _) (own_byte1 w1 0 5 _ (Nat.zero_le _)).reads (by simp [unhide HLN]; omega) (by simp; omega) ?_)
  intro v2 w2 o2 hgrow
  have b2 : Below w.heap.size w w2 := (b1.alloc z1 _).grown hgrow (by simp; omega) (fun k hk => (o1.lt k hk).1)
  have z2 := b2.size
  have O2 : Hid (Own w.heap.size 5 w2 v2 (padK l 0)) := hide (by simpa [padK] using o2)
  have B2 := hide b2
  clear hgrow o1 b1 o2 b2
  have HZ := hide (fun j (hj : j < zerosN l.length) => zerosN_less hj)
  have HZ2 := hide (zerosN_is l.length)
  have HZ3 := hide (zerosN_lt l.length)
  rw [unhide HLN] at HZ HZ2 HZ3
  have HP := hide (show paddedOf l = padK l (zerosN n) ++ be8 (n * 8) 8 by rw [← unhide HLN]; rfl)
  go_wp2_with fail
  go_loopw [3] (fun a wr => ∃ (j : Nat), j ≤ zerosN n ∧ Hid (Own w.heap.size 5 wr a (padK l j)) ∧ Hid (Below w.heap.size w wr)) (fun a _ => 5000 - lenV a)
  case atStart => exact ⟨0, Nat.zero_le _, O2, B2⟩
  case round =>
    clear O2 B2
    obtain ⟨j, hj, ho, hb⟩ := hrel
    obtain ⟨a, cap, hv, _⟩ := (unhide ho).lies
    rw [padK_length, unhide HLN] at hv
    subst hv
    have zz := (unhide hb).size
    by_cases hlt : j < zerosN n
    · have hne := unhide HZ j hlt
      have hz3 := unhide HZ3
      have hm : ((n + 1 + j : Nat) : Int) % 64 ≠ 56 := by omega
      have hm2 : n + 1 + j < 5000 := by omega
      have hA : (padK l j).length + ([0] : List Int).length ≤ 1099511627776 := by rw [padK_length, unhide HLN]; simp only [List.length_cons, List.length_nil]; omega
      have HA := hide hA
      clear hA
      generalize hN : n + 1 + j = N at *
      have HN := hide hN
      clear hN hne hz3
      go_wp2_with (at_builtin; refine append_bytes rfl _ _ 22 5 rfl Tryd.underlying22 info_u8 w.heap.size (.slice a N cap) _ (padK l j) [0] rfl rfl ((unhide ho).alloc _) (own_byte1 wr 0 5 _ (Nat.zero_le _)).reads (unhide HA) (by simp; omega) ?_)
      intro v3 w3 o3 hgrow
      rw [padK_next] at o3
      have b3 : Below w.heap.size w w3 := ((unhide hb).alloc zz _).grown hgrow (by simp; omega) (fun k hk => ((unhide ho).lt k hk).1)
      have O3 := hide o3
      obtain ⟨a3, c3, hv3, _⟩ := o3.lies
      rw [padK_length, unhide HLN, show n + 1 + (j + 1) = N + 1 by have := unhide HN; omega] at hv3
      subst hv3
      have B3 := hide b3
      clear hgrow o3 b3
      go_wp2
      exact ⟨⟨j + 1, by omega, O3, B3⟩, by simp [lenV]; omega⟩
    · have hjz : j = zerosN n := by omega
      have hz2 := unhide HZ2
      rw [← hjz] at hz2
      have HO : Hid (Own w.heap.size 5 wr (.slice a (n + 1 + j) cap) (padK l (zerosN n) ++ be8 (n * 8) 0)) := hide (by rw [← hjz]; simpa [be8] using unhide ho)
      have hm : ((n + 1 + j : Nat) : Int) % 64 = 56 := by omega
      have e8 : IntKind.i64.wrap ((n : Int) * 8) = ((n * 8 : Nat) : Int) := wrap_small (n * 8) (by omega)
      have HL1 := hide (show (padK l (zerosN n)).length = n + 1 + j by rw [padK_length, unhide HLN, hjz])
      have hz3 := unhide HZ3
      have hN5 : n + 1 + j < 5000 := by omega
      clear hz2 hz3 ho hlt hj HZ hjz
      generalize hN : n + 1 + j = N at *
      have HN := hide hN
      clear hN
      go_wp2_with fail
      clear hm e8
      generalize hMI : (n : Int) * 8 = MI at *
      have HMI := hide (show MI = ((n * 8 : Nat) : Int) by omega)
      clear hMI
      generalize hM : n * 8 = M at *
      have HM := hide hM
      clear hM
      generalize hPP : padK l (zerosN n) = PP at *
      have HPP := hide hPP
      clear hPP
      go_loopw [3, 5] (fun a i wr => ∃ (j : Nat), j ≤ 8 ∧ i = .int .i64 (7 - j) ∧ Hid (Own w.heap.size 5 wr a (PP ++ be8 M j)) ∧ Hid (Below w.heap.size w wr)) (fun _ i _ => (intOf i + 1).toNat)
      case atStart => exact ⟨0, by omega, rfl, HO, hb⟩
      case round =>
        clear HO hb
        obtain ⟨j, hj, rfl, ho, hb⟩ := hrel
        have zz := (unhide hb).size
        by_cases hlt : j < 8
        · obtain ⟨a, cap, hv, _⟩ := (unhide ho).lies
          rw [List.length_append, be8_length, unhide HL1] at hv
          subst hv
          have hA := hide (show (PP ++ be8 M j).length + ([((M / 2 ^ (8 * (7 - j)) % 256 : Nat) : Int)] : List Int).length ≤ 1099511627776 by rw [List.length_append, be8_length, unhide HL1]; simp only [List.length_cons, List.length_nil]; omega)
          have HB := hide (show be8 M (j + 1) = be8 M j ++ [((M / 2 ^ (8 * (7 - j)) % 256 : Nat) : Int)] from rfl)
          have g0 : ¬ ((7 : Int) - j < 0) := by omega
          have g1 : (0 : Int) ≤ 7 - j := by omega
          have eS : IntKind.i64.wrap (8 * (7 - (j : Int))) = ((8 * (7 - j) : Nat) : Int) := by rw [show (8 : Int) * (7 - (j : Int)) = ((8 * (7 - j) : Nat) : Int) by omega]; exact wrap_small _ (by omega)
          have hmin : min (8 * (7 - j)) 64 = 8 * (7 - j) := by omega
          generalize 8 * (7 - j) = S at *
          have hdv : MI / 2 ^ S = ((M / 2 ^ S : Nat) : Int) := by rw [unhide HMI]; simp
          generalize M / 2 ^ S = D at *
          have hu8 : IntKind.u8.wrap (D : Int) = ((D % 256 : Nat) : Int) := by simp [IntKind.wrap, IntKind.bits, IntKind.signed]
          generalize D % 256 = d at *
          go_wp2_with (at_builtin; refine append_bytes rfl _ _ 22 5 rfl Tryd.underlying22 info_u8 w.heap.size (.slice a (N + j) cap) _ (PP ++ be8 M j) [(d : Int)] rfl rfl ((unhide ho).alloc _) (own_byte1 wr 0 5 _ (Nat.zero_le _)).reads (unhide hA) (by simp; omega) ?_)
          intro v3 w3 o3 hgrow
          rw [← unhide HB] at o3
          have b3 : Below w.heap.size w w3 := ((unhide hb).alloc zz _).grown hgrow (by simp; omega) (fun k hk => ((unhide ho).lt k hk).1)
          have O3 := hide o3
          have B3 := hide b3
          clear hgrow o3 b3
          go_wp2
          exact ⟨⟨j + 1, by omega, by go_num, O3, B3⟩, by simp [intOf]; omega⟩
        · have hj8 : j = 8 := by omega
          have HO : Hid (Own w.heap.size 5 wr u3 (paddedOf l)) := hide (by rw [unhide HP, ← hj8]; exact unhide ho)
          have hlen := blocksN_is l
          have hnb : 1 ≤ blocksN l ∧ blocksN l ≤ 80 := by
            have h1 := paddedOf_length l
            have h2 := zerosN_lt l.length
            have h3 := unhide HLN
            omega
          have HBY := hide (paddedOf_bytes (of_bytes8 h8))
          have HSH := hide (show shaOf l = outK (sumK (paddedOf l) (blocksN l)) 8 from rfl)
          obtain ⟨g, cap, rfl, hg0, hgl, hc1, hc2, hcell⟩ : ∃ g cap, u3 = .slice (some ⟨g, 0, none⟩) (64 * blocksN l) cap ∧ w.heap.size ≤ g ∧ g < wr.heap.size ∧ 64 * blocksN l ≤ cap ∧ cap ≤ maxLen ∧ ∀ i, i < 64 * blocksN l → wr.cell? ⟨g, i, none⟩ = some (.int .u8 ((paddedOf l).getD i 0)) := by
            rcases (unhide HO).form with ⟨_, h0⟩ | ⟨g, cap, h1, h2, h3, h4, h5, h6, _⟩
            · rw [h0] at hlen
              simp at hlen
              omega
            · rw [hlen] at h1 h4 h6
              exact ⟨g, cap, h1, h2, h3, h4, h5, h6⟩
          have HLEN := hide hlen
          generalize blocksN l = nb at *
          generalize paddedOf l = p at *
          have g0 : (7 : Int) - j < 0 := by omega
          have HC := hide hcell
          have HG := hide (And.intro hg0 (And.intro hgl (And.intro hc1 hc2)))
          clear hlen hcell ho hj hlt hj8 hg0 hgl hc1 hc2 HO
          go_wp2_with fail
          refine (l7first_is _).mono ?_
          rintro e w4 ⟨rfl, b4⟩
          have ka := heap_alloc_new w4 (.cells (cellsU (List.replicate 8 0)) 34)
          have ba := below_next b4 (below_alloc (w := w4) (.cells (cellsU (List.replicate 8 0)) 34))
          have HT := hide (block_there ka (n := (cellsU (l8 iv8)).size) (by rw [cellsU_size, cellsU_size]; rfl))
          have KV := hide (block_whole ka (cs := cellsU (l8 iv8)) (by rw [cellsU_size, cellsU_size]; rfl))
          have BV := hide ((outside_sets w4.heap.size (cellsU (l8 iv8)).toList 0 (w4.alloc (.cells (cellsU (List.replicate 8 0)) 34))).below ba b4.size)
          have zq := hide b4.size
          clear ka ba b4 g0
          go_wp2_with (first
            | (refine list_alloc (v := .pointer (some ⟨w4.heap.size, 0, none⟩)) (w' := w4.alloc (.cells (cellsU (List.replicate 8 0)) 34)) rfl rfl (by kernel_rfl) ?_)
            | (refine wpList_store_mid rfl 34 (.tmp 6) (.tmp 37) rfl w4.heap.size 0 (cellsU (l8 iv8)) rfl rfl (unhide HT) (sz8 _) (cellsU_one _) ?_; generalize (w4.alloc (.cells (cellsU (List.replicate 8 0)) 34)).setCells w4.heap.size 0 (cellsU (l8 iv8)).toList = W4 at *; generalize w4.heap.size = q at *))
          generalize wr = V0 at *
          go_loopw [7] (fun i w5 => ∃ (k : Nat), k ≤ nb ∧ i = .int .i64 ((64 * k : Nat) : Int) ∧ Hid (w5.heap[q]? = some (.cells (cellsU (l8 (sumK p k))) 34) ∧ Below V0.heap.size V0 w5)) (fun i _ => 64 * nb - (intOf i).toNat)
          case atStart => exact ⟨0, Nat.zero_le _, rfl, hide ⟨unhide KV, unhide BV⟩⟩
          case round =>
            clear KV BV HT
            obtain ⟨k, hk, rfl, H⟩ := hrel
            by_cases hlt : k < nb
            · have l1 : ((64 * k : Nat) : Int) < ((64 * nb : Nat) : Int) := by omega
              have l2 : 64 * k + 64 ≤ 64 * nb := by omega
              have HX := hide (show sumK p (k + 1) = blockS (sumK p k) (blockOf p k) from rfl)
              have hbl := hide (blockOf_length (unhide HLEN) hlt)
              have hb8 := hide (blockOf_bytes (unhide HBY) k)
              have hgd := hide (fun i (hi : i < 64) => blockOf_getD (unhide HLEN) hlt hi)
              generalize sumK p k = SS at *
              generalize blockOf p k = bk at *
              have e1 : IntKind.i64.wrap (((64 * k : Nat) : Int) + 64) = ((64 * k + 64 : Nat) : Int) := wrap_small (64 * k + 64) (by omega)
              have b1 := below_next (unhide H).2 (below_drew (w := wr))
              have k1 := block_kept (below_drew (w := wr)) (unhide H).1
              have HH := hide (fun (w' : World) (hb : Below V0.heap.size V0 w') => (show Has w' (.slice (some ⟨g, 64 * k, none⟩) 64 (cap - 64 * k)) bk from .inr ⟨g, 64 * k, cap - 64 * k, by rw [unhide hbl], Nat.lt_of_lt_of_le (unhide HG).2.1 hb.size, by have := (unhide HG).2.2.1; rw [unhide hbl]; omega, by have := (unhide HG).2.2.2; omega, fun i hi => by
                rw [unhide hbl] at hi
                rw [unhide hgd i hi]
                exact (hb.cell (p := ⟨g, 64 * k + i, none⟩) (unhide HG).2.1).trans (unhide HC _ (by omega))⟩))
              have hcap := (unhide HG).2.2.1
              have hcap2 := (unhide HG).2.2.2
              have l3 : ((64 * k : Nat) : Int) ≤ ((64 * k + 64 : Nat) : Int) := by omega
              have l4 : ((64 * k + 64 : Nat) : Int) ≤ (cap : Int) := by omega
              have l5 : (0 : Int) ≤ ((64 * k : Nat) : Int) := by omega
              have B1 := hide b1
              have K1 := hide k1
              have f1 : (0 : Int) ≤ ((64 * k : Nat) : Int) + 64 ∧ ((64 * k : Nat) : Int) + 64 ≤ (cap : Int) := by omega
              have f2 : 64 * k ≤ (((64 * k : Nat) : Int) + 64).toNat := by omega
              have f3 : ¬ cap = 64 * k := by omega
              have f4 : (((64 * k : Nat) : Int) + 64).toNat - 64 * k = 64 := by omega
              clear b1 k1 hk H l2 l3 l4 l5 hcap hcap2
              have HLT := hide hlt
              clear hlt
              generalize hm : 64 * k = m at *
              have HMM := hide hm
              clear hm
              go_wp2_with fail
              refine startF 8 (S := fun _ => True) (by kernel_rfl) rfl trivial (fun hHeld => ?_)
              simp only [List.replicate]
              refine tkI 1 ?_ rfl (by kernel_rfl) (by kernel_rfl) (fun _ _ _ h => h) ?_ hHeld ?_; rotate_left; (· (intro w hSw; (try dsimp only at hSw); go_simp <;> with_reducible rfl)); simp only [Act.put, List.setIfInBounds_toArray, List.set_cons_zero, List.set_cons_succ]
              refine tkI 2 ?_ rfl (by kernel_rfl) (by kernel_rfl) (fun _ _ _ h => h) ?_ hHeld ?_; rotate_left; (· (intro w hSw; (try dsimp only at hSw); go_simp <;> with_reducible rfl)); simp only [Act.put, List.setIfInBounds_toArray, List.set_cons_zero, List.set_cons_succ]
              refine tkI 3 ?_ rfl (by kernel_rfl) (by kernel_rfl) (fun _ _ _ h => h) ?_ hHeld ?_; rotate_left; (· (intro w hSw; (try dsimp only at hSw); go_simp <;> with_reducible rfl)); simp only [Act.put, List.setIfInBounds_toArray, List.set_cons_zero, List.set_cons_succ]
              refine tkI 4 ?_ rfl (by kernel_rfl) (by kernel_rfl) (fun _ _ _ h => h) ?_ hHeld ?_; rotate_left; (· (intro w hSw; (try dsimp only at hSw); go_simp <;> with_reducible rfl)); simp only [Act.put, List.setIfInBounds_toArray, List.set_cons_zero, List.set_cons_succ]
              refine tkI 5 ?_ rfl (by kernel_rfl) (by kernel_rfl) (fun _ _ _ h => h) ?_ hHeld ?_; rotate_left; (· (intro w hSw; (try dsimp only at hSw); go_simp <;> with_reducible rfl)); simp only [Act.put, List.setIfInBounds_toArray, List.set_cons_zero, List.set_cons_succ]
              refine runI 0 rfl (by kernel_rfl) (by kernel_rfl) (fun K hK => ?_)
              have HK := hide hK
              clear hK hHeld
              refine wp_loadU 34 (.tmp 6) rfl q rfl (l8 SS) (unhide K1) Tryd.underlying34 rfl size79 ?_
              refine (unhide HK).out _ _ trivial (fun hHeld => ?_)
              clear HK K
              simp only [Act.put, List.setIfInBounds_toArray, List.set_cons_zero, List.set_cons_succ]
              refine runI 6 rfl (by kernel_rfl) (by kernel_rfl) (fun K hK => ?_)
              have HK := hide hK
              clear hK hHeld
              go_simp
              refine (l7block_ex (unhide HH _ (unhide B1)) (unhide hbl) (unhide hb8)).mono ?_
              rintro e w6 ⟨⟨SB, hSB, rfl⟩, b6⟩
              replace B1 := hide (below_next (unhide B1) b6)
              replace K1 := hide (block_kept b6 (unhide K1))
              clear b6
              go_simp
              refine (unhide HK).out _ _ trivial (fun hHeld => ?_)
              clear HK K
              simp only [List.setIfInBounds_toArray, List.set_cons_zero, List.set_cons_succ]
              have HT7 := hide (block_there (unhide K1) (n := (cellsU (l8 SB)).size) (by rw [cellsU_size, cellsU_size]; rfl))
              have K7 := hide (block_whole (unhide K1) (cs := cellsU (l8 SB)) (by rw [cellsU_size, cellsU_size]; rfl))
              have B7 := hide ((outside_sets q (cellsU (l8 SB)).toList 0 w6).below (unhide B1) (unhide zq))
              refine runI 7 rfl (by kernel_rfl) (by kernel_rfl) (fun K hK => ?_)
              have HK := hide hK
              clear hK hHeld
              refine wp_store_mid 34 (.tmp 6) (.tmp 50) rfl q 0 (cellsU (l8 SB)) rfl rfl (unhide HT7) (sz8 _) (cellsU_one _) ?_
              refine (unhide HK).out _ _ trivial (fun hHeld => ?_)
              clear HK K
              simp only [Act.put, List.setIfInBounds_toArray, List.set_cons_zero, List.set_cons_succ]
              refine wpAnyH_done (by kernel_rfl) ?_ _
              clear hHeld
              generalize w6.setCells q 0 (cellsU (l8 SB)).toList = w7 at *
              rw [← unhide hSB, ← unhide HX] at K7
              clear f1 f2 f3 f4
              go_wp2
              have hlt := unhide HLT
              have hmm := unhide HMM
              exact ⟨⟨k + 1, by omega, by rw [show 64 * (k + 1) = m + 64 by omega]; go_num, hide ⟨unhide K7, unhide B7⟩⟩, by simp [intOf]; omega⟩
            · have hkn : k = nb := by omega
              have e : ¬ (((64 * k : Nat) : Int) < ((64 * nb : Nat) : Int)) := by omega
              have HF : Hid (wr.heap[q]? = some (.cells (cellsU (l8 (sumK p nb))) 34) ∧ Below V0.heap.size V0 wr) := by rw [← hkn]; exact H
              generalize sumK p nb = SS at *
              clear H hkn hlt hk
              go_wp2_with fail
              clear e
              go_loopw [8, 9] (fun o i wr => ∃ (j : Nat), j ≤ 8 ∧ i = .int .i64 j ∧ Hid (Own (q + 1) 5 wr o (outK SS j)) ∧ Hid (wr.heap[q]? = some (.cells (cellsU (l8 SS)) 34) ∧ Below V0.heap.size V0 wr)) (fun _ i _ => 8 - (intOf i).toNat)
              case atStart => exact ⟨0, by omega, rfl, hide (World.ownsRow_nil _ _ _ _), HF⟩
              case round =>
                clear HF
                obtain ⟨i, hi, rfl, ho, H⟩ := hrel
                by_cases hlt : i < 8
                · have HX := hide (show outK SS (i + 1) = outK SS i ++ bytesW ((l8 SS).getD i 0) from rfl)
                  have hA := hide (show (outK SS i).length + (bytesW ((l8 SS).getD i 0)).length ≤ 1099511627776 by rw [outK_length]; simp only [bytesW, List.length_cons, List.length_nil]; omega)
                  have CF := hide (fun (w' : World) (hb : w'.heap[q]? = some (.cells (cellsU (l8 SS)) 34)) => arr_cell hb (i := i) hlt)
                  generalize (l8 SS).getD i 0 = x at *
                  have li : (i : Int) < 8 := by omega
                  have HLT := hide hlt
                  have xl := wv_lt x
                  have h0 : IntKind.u8.wrap (wv x / (16777216 : Int)) = wv x / 16777216 := by simp only [IntKind.wrap, IntKind.bits, IntKind.signed]; simp; omega
                  have h1 : IntKind.u8.wrap (wv x / (65536 : Int)) = wv x / 65536 % 256 := by simp only [IntKind.wrap, IntKind.bits, IntKind.signed]; simp
                  have h2 : IntKind.u8.wrap (wv x / (256 : Int)) = wv x / 256 % 256 := by simp only [IntKind.wrap, IntKind.bits, IntKind.signed]; simp
                  have h3 : IntKind.u8.wrap (wv x) = wv x % 256 := by simp only [IntKind.wrap, IntKind.bits, IntKind.signed]; simp
                  clear xl hlt hi
                  have HBW := hide (show bytesW x = [wv x / 16777216, wv x / 65536 % 256, wv x / 256 % 256, wv x % 256] from rfl)
                  have K0 := hide (block_kept (below_drew (w := wr)) (unhide H).1)
                  have b1 := below_next (below_alloc (w := wr) (.cells #[.int .u8 (wv x / 16777216), .int .u8 (wv x / 65536 % 256), .int .u8 (wv x / 256 % 256), .int .u8 (wv x % 256)] 5)) below_drew
                  have K1 := hide (block_kept b1 (unhide H).1)
                  have O1 := hide ((unhide ho).below b1)
                  have R1 := hide ((own_lit wr 0 5 [wv x / 16777216, wv x / 65536 % 256, wv x / 256 % 256, wv x % 256] (Nat.zero_le _) (by simp [maxLen])).below below_drew).reads
                  have BB1 := hide (below_next (unhide H).2 b1)
                  have zz := block_lt (unhide K1)
                  rw [unhide HBW] at hA HX
                  clear b1
                  go_wp2_with fail
                  refine startF 23 (S := fun w' => w'.cell? ⟨q, i, none⟩ = some (.int .u32 (wv x))) (by kernel_rfl) rfl (unhide CF _ (unhide K0)) (fun hHeld => ?_)
                  simp only [List.replicate]
                  repeat ((first | (refine tkF ?_ rfl (by kernel_rfl) (by rfl) (fun _ _ _ h => h) ?_ hHeld ?_; rotate_left; · (intro w hSw; (try dsimp only at hSw); go_simp <;> with_reducible rfl)) | refine skF rfl (by kernel_rfl) (by rfl) (fun _ _ _ h => h) hHeld ?_); simp only [Act.put, setF, List.setIfInBounds_toArray, List.set_cons_zero, List.set_cons_succ])
                  refine runI 20 rfl (by kernel_rfl) (by kernel_rfl) (fun K hK => ?_)
                  have HK := hide hK
                  clear hK hHeld
                  go_simp
                  refine (unhide HK).out _ _ (unhide CF _ (unhide K1)) (fun hHeld => ?_)
                  clear HK K
                  simp only [Act.put, List.setIfInBounds_toArray, List.set_cons_zero, List.set_cons_succ]
                  refine wpAnyH_ready (rs := [21]) (by kernel_rfl) (by simp) (AllReadyH.cons (ops_drop rfl) (fun K hK => ?_) AllReadyH.nil)
                  have HK := hide hK
                  clear hK hHeld
                  refine step_append_bytes rfl (.tmp 55) (.tmp 75) 22 5 rfl Tryd.underlying22 info_u8 (q + 1) u8 (.slice (some ⟨wr.heap.size, 0, none⟩) 4 4) (outK SS i) [wv x / 16777216, wv x / 65536 % 256, wv x / 256 % 256, wv x % 256] rfl rfl (unhide O1) (unhide R1) (unhide hA) (by omega) ?_
                  intro v3 w3 o3 hgrow
                  have k3 := (hgrow.block q zz (fun e => by have := ((unhide O1).lt q e.symm).1; omega)).trans (unhide K1)
                  have b3 := (unhide BB1).grown hgrow (Nat.le_trans (unhide BB1).size (Nat.le_refl _)) (fun k hk => by have := ((unhide O1).lt k hk).1; have := unhide zq; omega)
                  rw [← unhide HX] at o3
                  have O3 := hide o3
                  have H3 := hide (And.intro k3 b3)
                  clear hgrow o3 k3 b3
                  refine (unhide HK).out _ _ (unhide CF _ (unhide H3).1) (fun hHeld => ?_)
                  clear HK K
                  simp only [Act.put, List.setIfInBounds_toArray, List.set_cons_zero, List.set_cons_succ]
                  refine tkI 22 ?_ rfl (by kernel_rfl) (by kernel_rfl) (fun _ _ _ h => h) ?_ hHeld ?_; rotate_left; (· (intro w hSw; (try dsimp only at hSw); go_simp <;> with_reducible rfl)); simp only [Act.put, List.setIfInBounds_toArray, List.set_cons_zero, List.set_cons_succ]
                  refine wpAnyH_done (by kernel_rfl) ?_ _
                  clear hHeld h0 h1 h2 h3
                  have hlt := unhide HLT
                  go_wp2
                  exact ⟨⟨i + 1, by omega, by go_num, O3, H3⟩, by simp [intOf]; omega⟩
                · have e : ¬ ((i : Int) < 8) := by omega
                  have HO : Hid (Own (q + 1) 5 wr u8 (outK SS 8)) := by rw [show (8 : Nat) = i by omega]; exact ho
                  clear ho hlt hi
                  go_wp2_with fail
                  go_ret
                  have hbw := unhide hb
                  exact ⟨_, rfl, by rw [unhide HSH]; exact (unhide HO).mono (by have := hbw.size; have := unhide zq; omega), below_next hbw (unhide H).2⟩
end Go.Proofs.YtkhiklemhkeakaaDoor

namespace Go.Proofs.YtkhiklemhkeakaaDoor
open Go.RowKit
set_option linter.unusedVariables false
set_option linter.unusedSimpArgs false

def shaAny (l : List Int) : List Int := if l.length ≤ 4096 then shaOf l else []
theorem shaAny_length (l : List Int) : (shaAny l).length ≤ 32 := by
  unfold shaAny
  split
  · unfold shaOf
    rw [outK_length]
    omega
  · simp
theorem implSha256_any {v : Value} {l : List Int} {w : World} (h : Has w v l) (h8 : Bytes8 l) (hF : TabW w 0 (l8 iv8)) (hG : TabW w 1 kW) :
    Calls Tryd.prog 4 #[v] w fun e w' => ∃ v', e = .returned v' ∧ Own w.heap.size 5 w' v' (shaAny l) ∧ Below w.heap.size w w' := by
  by_cases hl : l.length ≤ 4096
  · rw [show shaAny l = shaOf l by unfold shaAny; rw [if_pos hl]]
    exact sha_own h hl h8 hF hG
  · rw [show shaAny l = [] by unfold shaAny; rw [if_neg hl]]
    exact (sha_no h hl).mono (fun e w' ⟨he, hw⟩ => ⟨_, he, by rw [hw]; exact World.ownsRow_nil _ _ _ _, by rw [hw]; exact Below.refl _ _⟩)
set_option maxHeartbeats 400000 in
set_option maxRecDepth 100000 in
theorem specSha256_any {v : Value} {l : List Int} {w : World} (h : Has w v l) (h8 : Bytes8 l) (hlm : l.length ≤ 1048576) :
    Calls Tryd.prog 6 #[v] w fun e w' => ∃ v', e = .returned v' ∧ Own w.heap.size 5 w' v' (shaAny l) ∧ Below w.heap.size w w' := by
  obtain ⟨la, lc, hlv, _⟩ := h.form
  by_cases hl : l.length ≤ 4096
  · have hgt : ¬ (4096 < (l.length : Int)) := by omega
    have LS := hide (l7sum_any h hl h8)
    rw [show shaAny l = shaOf l by unfold shaAny; rw [if_pos hl]]
    clear h8 h
    generalize shaOf l = X at *
    generalize l.length = n at *
    subst hlv
    go_enter Tryd.func6, Tryd.ntmps6
    go_wp2_with fail
    refine (unhide LS).mono ?_
    rintro e w1 ⟨v1, rfl, o1, b1⟩
    go_wp2_with fail
    go_ret
    exact ⟨_, rfl, o1, b1⟩
  · have hgt : 4096 < (l.length : Int) := by omega
    rw [show shaAny l = [] by unfold shaAny; rw [if_neg hl]]
    clear h8 h hl
    subst hlv
    go_enter Tryd.func6, Tryd.ntmps6
    go_wp2
    go_ret
    exact ⟨_, rfl, World.ownsRow_nil _ _ _ _, Below.refl _ _⟩
end Go.Proofs.YtkhiklemhkeakaaDoor
