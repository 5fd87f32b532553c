/-
  Contract of the specification's l7block: a block of 64 bytes. Steps of a region that draws its order: an append to a row of the call's own. No program is named here.
-/
import Derived.Test.YtkhiklemhkeakaaDoorFnSumsG09
import Derived.Test.YtkhiklemhkeakaaDoorFnSumsG00
import Derived.Deep.RegionLaw
namespace Go.Proofs.YtkhiklemhkeakaaDoor
open Go.RowKit
set_option linter.unusedVariables false

set_option maxHeartbeats 4000000 in
set_option maxRecDepth 100000 in
theorem l7block_is {v : Value} {bs : List Int} {s : S8} {w : World} (hv : Has w v bs) (hl : bs.length = 64) (h8 : Bytes8 bs) :
    Calls Tryd.prog 34 #[.agg (cellsU (l8 s)), v] w fun e w' => e = .returned (.agg (cellsU (l8 (blockS s bs)))) ∧ Below w.heap.size w w' := by
  obtain ⟨g, off, cap, rfl, hg, hc1, hc2, hcell⟩ : ∃ g off cap, v = .slice (some ⟨g, off, none⟩) 64 cap ∧ g < w.heap.size ∧ 64 ≤ cap ∧ cap ≤ maxLen ∧ ∀ i, i < 64 → w.cell? ⟨g, off + i, none⟩ = some (.int .u8 (bs.getD i 0)) := by
    rcases hv with ⟨_, rfl⟩ | ⟨g, off, cap, h1, h2, h3, h4, h5⟩
    · simp at hl
    · rw [hl] at h1 h3 h5
      exact ⟨g, off, cap, h1, h2, h3, h4, h5⟩
  have HCELL := hide hcell
  clear hcell hl
  have b0 : Below w.heap.size w (((w.alloc (.cells (cellsU (l8 s)) 34)).alloc (.cells (cellsU (List.replicate 8 0)) 34)).alloc (.cells (cellsU (List.replicate 64 0)) 54)) := ((below_alloc _).alloc (below_alloc _).size _).alloc ((below_alloc _).alloc (below_alloc _).size _).size _
  obtain ⟨hsz, kr, kw⟩ := box3 w (.cells (cellsU (l8 s)) 34) (cellsU (List.replicate 8 0)) (cellsU (List.replicate 64 0)) 34 54
  have kh : (((w.alloc (.cells (cellsU (l8 s)) 34)).alloc (.cells (cellsU (List.replicate 8 0)) 34)).alloc (.cells (cellsU (List.replicate 64 0)) 54)).heap[w.heap.size]? = some (.cells (cellsU (l8 s)) 34) := block_kept (below_alloc _) (block_kept (below_alloc _) (heap_alloc_new w _))
  have I0 : Hid (In7 w.heap.size w (((w.alloc (.cells (cellsU (l8 s)) 34)).alloc (.cells (cellsU (List.replicate 8 0)) 34)).alloc (.cells (cellsU (List.replicate 64 0)) 54)) (l8 s) (fillW bs 0)) := hide ⟨kh, kr, kw, b0⟩
  clear b0 hsz kr kw kh hv
  go_enter Tryd.func34, Tryd.ntmps34
  go_wp2_with fail
  show Code.wp _ _ _ _ (((w.alloc (.cells (cellsU (l8 s)) 34)).alloc (.cells (cellsU (List.replicate 8 0)) 34)).alloc (.cells (cellsU (List.replicate 64 0)) 54))
  generalize (((w.alloc (.cells (cellsU (l8 s)) 34)).alloc (.cells (cellsU (List.replicate 8 0)) 34)).alloc (.cells (cellsU (List.replicate 64 0)) 54)) = W0 at *
  generalize hN : w.heap.size = N at *
  have HN := hide hN
  clear hN
  go_loopw [6] (fun i wr => ∃ (k : Nat), k ≤ 16 ∧ i = .int .i64 k ∧ Hid (In7 N w wr (l8 s) (fillW bs k))) (fun i _ => 16 - (intOf i).toNat)
  case atStart => exact ⟨0, Nat.zero_le _, rfl, I0⟩
  case round =>
    clear I0
    obtain ⟨k, hk, rfl, H⟩ := hrel
    by_cases hlt : k < 16
    · have H1 := hide ((unhide H).next (below_drew (w := wr)))
      go_wp2_with fail
      have hcc := hide (fun w' (hb : Below w.heap.size w w') j (hj : j < 4) => ((hb.cell (p := ⟨g, off + (4 * k + j), none⟩) (by rw [unhide HN]; exact hg)).trans (unhide HCELL _ (by omega)) : w'.cell? ⟨g, off + (4 * k + j), none⟩ = some (.int .u8 (bs.getD (4 * k + j) 0))))
      obtain ⟨y0, z0⟩ := Int.eq_ofNat_of_zero_le (h8 (4 * k)).1
      obtain ⟨y1, z1⟩ := Int.eq_ofNat_of_zero_le (h8 (4 * k + 1)).1
      obtain ⟨y2, z2⟩ := Int.eq_ofNat_of_zero_le (h8 (4 * k + 2)).1
      obtain ⟨y3, z3⟩ := Int.eq_ofNat_of_zero_le (h8 (4 * k + 3)).1
      have HF := hide (fillW_first bs hlt h8 z0 z1 z2 z3)
      have SF := hide (fun w' (hb : Below w.heap.size w w') => (⟨by have := unhide hcc w' hb 0 (by omega); rwa [Nat.add_zero, z0] at this, by have := unhide hcc w' hb 1 (by omega); rwa [z1] at this, by have := unhide hcc w' hb 2 (by omega); rwa [z2] at this, by have := unhide hcc w' hb 3 (by omega); rwa [z3] at this⟩ : w'.cell? ⟨g, off + (4 * k), none⟩ = some (.int .u8 (y0 : Int)) ∧ w'.cell? ⟨g, off + (4 * k + 1), none⟩ = some (.int .u8 (y1 : Int)) ∧ w'.cell? ⟨g, off + (4 * k + 2), none⟩ = some (.int .u8 (y2 : Int)) ∧ w'.cell? ⟨g, off + (4 * k + 3), none⟩ = some (.int .u8 (y3 : Int))))
      have e0 : IntKind.i64.wrap (4 * (k : Int)) = ((4 * k : Nat) : Int) := by rw [show (4 : Int) * k = ((4 * k : Nat) : Int) by omega]; exact wrap_small _ (by omega)
      have e1 : IntKind.i64.wrap (((4 * k : Nat) : Int) + 1) = ((4 * k + 1 : Nat) : Int) := wrap_small (4 * k + 1) (by omega)
      have e2 : IntKind.i64.wrap (((4 * k : Nat) : Int) + 2) = ((4 * k + 2 : Nat) : Int) := wrap_small (4 * k + 2) (by omega)
      have e3 : IntKind.i64.wrap (((4 * k : Nat) : Int) + 3) = ((4 * k + 3 : Nat) : Int) := wrap_small (4 * k + 3) (by omega)
      clear z0 z1 z2 z3 hcc
      have hm0 : ((4 * k : Nat) : Int) < 64 := by omega
      have hm1 : ((4 * k + 1 : Nat) : Int) < 64 := by omega
      have hm2 : ((4 * k + 2 : Nat) : Int) < 64 := by omega
      have hm3 : ((4 * k + 3 : Nat) : Int) < 64 := by omega
      have hki : (k : Int) < 64 := by omega
      generalize 4 * k = m at *
      generalize m + 1 = m1 at *
      generalize m + 2 = m2 at *
      generalize m + 3 = m3 at *
      have f0 := wd_wrap y0
      have f1 := wd_wrap y1
      have f2 := wd_wrap y2
      have f3 := wd_wrap y3
      generalize BitVec.ofNat 32 y0 = Y0 at *
      generalize BitVec.ofNat 32 y1 = Y1 at *
      generalize BitVec.ofNat 32 y2 = Y2 at *
      generalize BitVec.ofNat 32 y3 = Y3 at *
      have s0 : IntKind.u32.wrap (wv Y0 * 16777216) = wv (Y0 <<< 24) := wd_shl Y0 24
      have s1 : IntKind.u32.wrap (wv Y1 * 65536) = wv (Y1 <<< 16) := wd_shl Y1 16
      have s2 : IntKind.u32.wrap (wv Y2 * 256) = wv (Y2 <<< 8) := wd_shl Y2 8
      generalize Y0 <<< 24 = V0 at *
      generalize Y1 <<< 16 = V1 at *
      generalize Y2 <<< 8 = V2 at *
      have w0 := wd_or V0 V1
      have w1 := wd_or (V0 ||| V1) V2
      have w2 := wd_or (V0 ||| V1 ||| V2) Y3
      refine startF 36 (S := fun w' => w'.cell? ⟨g, off + m, none⟩ = some (.int .u8 (y0 : Int)) ∧ w'.cell? ⟨g, off + m1, none⟩ = some (.int .u8 (y1 : Int)) ∧ w'.cell? ⟨g, off + m2, none⟩ = some (.int .u8 (y2 : Int)) ∧ w'.cell? ⟨g, off + m3, none⟩ = some (.int .u8 (y3 : Int))) (by kernel_rfl) rfl (unhide SF _ (unhide H1).fb) (fun hHeld => ?_)
      simp only [List.replicate]
      repeat ((first | (refine tkF ?_ rfl (by kernel_rfl) (by rfl) (fun _ _ _ h => h) ?_ hHeld ?_; rotate_left; · (intro w hSw; (try dsimp only at hSw); go_simp <;> with_reducible rfl)) | refine skF rfl (by kernel_rfl) (by rfl) (fun _ _ _ h => h) hHeld ?_); simp only [Act.put, setF, List.setIfInBounds_toArray, List.set_cons_zero, List.set_cons_succ])
      have kc := arr_cell (unhide H1).fw (i := k) (by rw [fillW_length]; omega)
      have kf := block_frozen (unhide H1).fw k
      generalize (fillW bs k).getD k 0 = old at *
      have H2 := hide (((unhide H).setW (unhide HN) k (V0 ||| V1 ||| V2 ||| Y3)).next (below_drew (w := wr.setCell ⟨N + 1 + 1, k, none⟩ (.int .u32 (wv (V0 ||| V1 ||| V2 ||| Y3))))))
      rw [unhide HF] at H2
      refine runI 35 rfl (by kernel_rfl) (by kernel_rfl) (fun K hK => ?_)
      have HK := hide hK
      clear hK hHeld
      go_simp
      refine (unhide HK).out _ _ (unhide SF _ (unhide H2).fb) (fun hHeld => ?_)
      clear HK K
      simp only [List.setIfInBounds_toArray, List.set_cons_zero, List.set_cons_succ]
      refine wpAnyH_done (by kernel_rfl) ?_ _
      clear hHeld
      clear kc kf
      generalize (wr.setCell ⟨N + 1 + 1, k, none⟩ (.int .u32 (wv (V0 ||| V1 ||| V2 ||| Y3)))).drew = w3 at *
      clear H H1
      clear w0 w1 w2 f0 f1 f2 f3 s0 s1 s2 e0 e1 e2 e3 hm0 hm1 hm2 hm3
      go_wp2
      exact ⟨⟨k + 1, by omega, by go_num, H2⟩, by simp [intOf]; omega⟩

    · have HE : Hid (In7 N w wr (l8 s) (fillW bs 16)) := by
        have e : k = 16 := by omega
        rw [← e]
        exact H
      clear H
      go_wp2_with fail
      clear hk hlt
      go_loopw [7, 8, 9, 10, 11] (fun i _ _ _ _ wr => ∃ (k : Nat), 16 ≤ k ∧ k ≤ 64 ∧ i = .int .i64 k ∧ Hid (In7 N w wr (l8 s) (fillW bs k))) (fun i _ _ _ _ _ => 64 - (intOf i).toNat)
      case atStart => exact ⟨16, Nat.le_refl _, by omega, rfl, HE⟩
      case round =>
        clear HE
        obtain ⟨k, hk0, hk, rfl, H⟩ := hrel
        by_cases hlt : k < 64
        · go_wp2_with fail
          have H1 := hide ((unhide H).next (below_drew (w := wr)))
          clear H
          have e2 : IntKind.i64.wrap ((k : Int) - 2) = ((k - 2 : Nat) : Int) := by rw [show (k : Int) - 2 = ((k - 2 : Nat) : Int) by omega]; exact wrap_small _ (by omega)
          have e7 : IntKind.i64.wrap ((k : Int) - 7) = ((k - 7 : Nat) : Int) := by rw [show (k : Int) - 7 = ((k - 7 : Nat) : Int) by omega]; exact wrap_small _ (by omega)
          have e15 : IntKind.i64.wrap ((k : Int) - 15) = ((k - 15 : Nat) : Int) := by rw [show (k : Int) - 15 = ((k - 15 : Nat) : Int) by omega]; exact wrap_small _ (by omega)
          have e16 : IntKind.i64.wrap ((k : Int) - 16) = ((k - 16 : Nat) : Int) := by rw [show (k : Int) - 16 = ((k - 16 : Nat) : Int) by omega]; exact wrap_small _ (by omega)
          have l2 : ((k - 2 : Nat) : Int) < 64 := by omega
          have l7 : ((k - 7 : Nat) : Int) < 64 := by omega
          have l15 : ((k - 15 : Nat) : Int) < 64 := by omega
          have l16 : ((k - 16 : Nat) : Int) < 64 := by omega
          have lk : (k : Int) < 64 := by omega
          have HF := hide (fillW_next bs hk0)
          have SF := hide (fun (w' : World) (x : BitVec 32) (hb : w'.heap[N + 1 + 1]? = some (.cells (cellsU (fillW bs k)) 54) ∨ w'.heap[N + 1 + 1]? = some (.cells (cellsU ((fillW bs k).set k x)) 54)) => (⟨arr_or hb (by rw [fillW_length]; omega) (by omega), arr_or hb (by rw [fillW_length]; omega) (by omega), arr_or hb (by rw [fillW_length]; omega) (by omega), arr_or hb (by rw [fillW_length]; omega) (by omega)⟩ : w'.cell? ⟨N + 1 + 1, k - 2, none⟩ = some (.int .u32 (wv ((fillW bs k).getD (k - 2) 0))) ∧ w'.cell? ⟨N + 1 + 1, k - 7, none⟩ = some (.int .u32 (wv ((fillW bs k).getD (k - 7) 0))) ∧ w'.cell? ⟨N + 1 + 1, k - 15, none⟩ = some (.int .u32 (wv ((fillW bs k).getD (k - 15) 0))) ∧ w'.cell? ⟨N + 1 + 1, k - 16, none⟩ = some (.int .u32 (wv ((fillW bs k).getD (k - 16) 0)))))
          generalize (fillW bs k).getD (k - 2) 0 = X2 at *
          generalize (fillW bs k).getD (k - 7) 0 = X7 at *
          generalize (fillW bs k).getD (k - 15) 0 = X15 at *
          generalize (fillW bs k).getD (k - 16) 0 = X16 at *
          generalize k - 2 = p2 at *
          generalize k - 7 = p7 at *
          generalize k - 15 = p15 at *
          generalize k - 16 = p16 at *
          refine startF 10 (S := fun w' => w'.cell? ⟨N + 1 + 1, p2, none⟩ = some (.int .u32 (wv X2)) ∧ w'.cell? ⟨N + 1 + 1, p7, none⟩ = some (.int .u32 (wv X7)) ∧ w'.cell? ⟨N + 1 + 1, p15, none⟩ = some (.int .u32 (wv X15)) ∧ w'.cell? ⟨N + 1 + 1, p16, none⟩ = some (.int .u32 (wv X16))) (by kernel_rfl) rfl (unhide SF _ 0 (.inl (unhide H1).fw)) (fun hHeld => ?_)
          simp only [List.replicate]
          repeat ((first | (refine tkF ?_ rfl (by kernel_rfl) (by rfl) (fun _ _ _ h => h) ?_ hHeld ?_; rotate_left; · (intro w hSw; (try dsimp only at hSw); go_simp <;> with_reducible rfl)) | refine skF rfl (by kernel_rfl) (by rfl) (fun _ _ _ h => h) hHeld ?_); simp only [Act.put, setF, List.setIfInBounds_toArray, List.set_cons_zero, List.set_cons_succ])
          refine wpAnyH_done (by kernel_rfl) ?_ _
          clear hHeld
          generalize wr.drew = w1 at *
          go_wp2_with fail
          refine (l7turn_b X15 7 (by omega) _).mono ?_
          rintro e w2 ⟨rfl, b2⟩
          replace H1 := hide ((unhide H1).next b2)
          clear b2
          go_wp2_with fail
          refine (l7turn_b X15 18 (by omega) _).mono ?_
          rintro e w3 ⟨rfl, b3⟩
          replace H1 := hide ((unhide H1).next b3)
          clear b3
          have r1 := wd_xor (turnR X15 7) (turnR X15 18)
          go_wp2_with fail
          clear r1
          refine (l7turn_b X2 17 (by omega) _).mono ?_
          rintro e w4 ⟨rfl, b4⟩
          replace H1 := hide ((unhide H1).next b4)
          clear b4
          go_wp2_with fail
          refine (l7turn_b X2 19 (by omega) _).mono ?_
          rintro e w5 ⟨rfl, b5⟩
          replace H1 := hide ((unhide H1).next b5)
          clear b5
          have r1 := wd_xor (turnR X2 17) (turnR X2 19)
          have r2 : wv X2 / (1024 : Int) = wv (X2 >>> 10) := wd_div X2 10
          have r3 := wd_xor (turnR X2 17 ^^^ turnR X2 19) (X2 >>> 10)
          go_wp2_with fail
          rw [show wv X15 / (8 : Int) = wv (X15 >>> 3) from wd_div X15 3, wd_xor (turnR X15 7 ^^^ turnR X15 18) (X15 >>> 3)]
          clear r1 r2 r3
          have g0 : turnR X15 7 ^^^ turnR X15 18 ^^^ X15 >>> 3 = smallS0 X15 := rfl
          have g1 : turnR X2 17 ^^^ turnR X2 19 ^^^ X2 >>> 10 = smallS1 X2 := rfl
          rw [g0, g1]
          clear g0 g1
          generalize smallS0 X15 = A0 at *
          generalize smallS1 X2 = A1 at *
          have q1 := wd_add X16 A0
          have q2 := wd_add (X16 + A0) X7
          have q3 := wd_add (X16 + A0 + X7) A1
          generalize w5 = w6 at *
          have H2 := hide ((unhide H1).next (below_drew (w := w6)))
          have kc := arr_cell (unhide H2).fw (i := k) (by rw [fillW_length]; omega)
          have kf := block_frozen (unhide H2).fw k
          generalize (fillW bs k).getD k 0 = old at *
          have H3 := hide (((unhide H1).setW (unhide HN) k (X16 + A0 + X7 + A1)).next (below_drew (w := w6.setCell ⟨N + 1 + 1, k, none⟩ (.int .u32 (wv (X16 + A0 + X7 + A1))))))
          have SG := hide (unhide SF _ _ (.inr (unhide H3).fw))
          rw [← unhide HF] at H3
          refine startF 16 (S := fun w' => w'.cell? ⟨N + 1 + 1, p2, none⟩ = some (.int .u32 (wv X2)) ∧ w'.cell? ⟨N + 1 + 1, p7, none⟩ = some (.int .u32 (wv X7)) ∧ w'.cell? ⟨N + 1 + 1, p15, none⟩ = some (.int .u32 (wv X15)) ∧ w'.cell? ⟨N + 1 + 1, p16, none⟩ = some (.int .u32 (wv X16))) (by kernel_rfl) rfl (unhide SF _ 0 (.inl (unhide H2).fw)) (fun hHeld => ?_)
          simp only [List.replicate]
          repeat ((first | (refine tkF ?_ rfl (by kernel_rfl) (by rfl) (fun _ _ _ h => h) ?_ hHeld ?_; rotate_left; · (intro w hSw; (try dsimp only at hSw); go_simp <;> with_reducible rfl)) | refine skF rfl (by kernel_rfl) (by rfl) (fun _ _ _ h => h) hHeld ?_); simp only [Act.put, setF, List.setIfInBounds_toArray, List.set_cons_zero, List.set_cons_succ])
          refine runI 15 rfl (by kernel_rfl) (by kernel_rfl) (fun K hK => ?_)
          have HK := hide hK
          clear hK hHeld
          go_simp
          refine (unhide HK).out _ _ (unhide SG) (fun hHeld => ?_)
          clear HK K
          simp only [List.setIfInBounds_toArray, List.set_cons_zero, List.set_cons_succ]
          refine wpAnyH_done (by kernel_rfl) ?_ _
          clear hHeld
          clear kc kf q1 q2 q3 e2 e7 e15 e16 l2 l7 l15 l16 lk
          generalize (w6.setCell ⟨N + 1 + 1, k, none⟩ (.int .u32 (wv (X16 + A0 + X7 + A1)))).drew = w7 at *
          clear H1 H2 SF HF
          go_wp2
          exact ⟨⟨k + 1, by omega, by omega, by go_num, H3⟩, by simp [intOf]; omega⟩
        · have HK64 := hide (show k = 64 by omega)
          have e : ¬ ((k : Int) < 64) := by omega
          have HE := H
          clear H HCELL h8 hg hc1 hc2 hk hlt hk0
          obtain ⟨CW, HCW⟩ : ∃ CW, Hid (fillW bs k = CW) := ⟨_, hide rfl⟩
          rw [unhide HCW] at HE
          have hCL := hide (show CW.length = 64 by rw [← unhide HCW]; exact fillW_length bs k)
          have ka := heap_alloc_new wr (.cells (cellsU (List.replicate 8 0)) 34)
          have ba := below_alloc (w := wr) (.cells (cellsU (List.replicate 8 0)) 34)
          have HT := hide (block_there ka (n := (cellsU (l8 s)).size) (by rw [cellsU_size, cellsU_size]; rfl))
          have kv := block_whole ka (cs := cellsU (l8 s)) (by rw [cellsU_size, cellsU_size]; rfl)
          have zq : N + 1 + 1 < wr.heap.size := block_lt (unhide HE).fw
          have H3 := hide (((unhide HE).next ba).out (unhide HN) zq (outside_sets wr.heap.size (cellsU (l8 s)).toList 0 (wr.alloc (.cells (cellsU (List.replicate 8 0)) 34))))
          have KV := hide kv
          have ZQ := hide zq
          clear ka ba kv zq
          go_wp2_with (first
            | (refine list_loadU rfl 34 (.tmp 2) rfl N rfl (l8 s) (unhide HE).fh Tryd.underlying34 rfl size79 ?_)
            | (refine list_alloc (v := .pointer (some ⟨wr.heap.size, 0, none⟩)) (w' := wr.alloc (.cells (cellsU (List.replicate 8 0)) 34)) rfl rfl (by kernel_rfl) ?_)
            | (refine wpList_store_mid rfl 34 (.tmp 12) (.tmp 102) rfl wr.heap.size 0 (cellsU (l8 s)) rfl rfl (unhide HT) (sz8 s) (cellsU_one _) ?_; generalize (wr.alloc (.cells (cellsU (List.replicate 8 0)) 34)).setCells wr.heap.size 0 (cellsU (l8 s)).toList = W3 at *; generalize wr.heap.size = q at *))
          clear HT HE e
          go_loopw [13, 14, 15, 16, 17, 18] (fun i _ _ _ _ _ wr => ∃ (k : Nat), k ≤ 64 ∧ i = .int .i64 k ∧ Hid (In7 N w wr (l8 s) CW ∧ wr.heap[q]? = some (.cells (cellsU (l8 (mixS bs s k))) 34))) (fun i _ _ _ _ _ _ => 64 - (intOf i).toNat)
          case atStart => exact ⟨0, Nat.zero_le _, rfl, hide ⟨unhide H3, unhide KV⟩⟩
          case round =>
            clear H3 KV
            obtain ⟨n, hn, rfl, H⟩ := hrel
            by_cases hlt : n < 64
            · have lk : (n : Int) < 64 := by omega
              obtain ⟨M1, HM1⟩ : ∃ M1, Hid (mixS bs s (n + 1) = M1) := ⟨_, hide rfl⟩
              have HX := hide (show M1 = roundS (mixS bs s n) (kW.getD n 0) (CW.getD n 0) by rw [← unhide HM1, ← unhide HCW, unhide HK64]; rfl)
              have HRD := hide (fun (w0 : World) => l7round_is hlt w0)
              have hCn := hide (show n < CW.length by rw [unhide hCL]; exact hlt)
              generalize mixS bs s n = M at *
              generalize kW.getD n 0 = kk at *
              have HWn := hide (fun (w' : World) (hb : w'.heap[N + 1 + 1]? = some (.cells (cellsU CW) 54)) => arr_cell hb (unhide hCn))
              generalize CW.getD n 0 = ww at *
              have H1 := hide ((unhide H).1.next (below_drew (w := wr)))
              have K1 := hide (block_kept (below_drew (w := wr)) (unhide H).2)
              go_wp2_with fail
              have HLT := hide hlt
              clear hlt hn
              have x1 := wd_xor (turnR M.e 6) (turnR M.e 11)
              have x2 := wd_xor (turnR M.e 6 ^^^ turnR M.e 11) (turnR M.e 25)
              refine startF 12 (S := fun w' => w'.cell? ⟨q, 4, none⟩ = some (.int .u32 (wv M.e))) (by kernel_rfl) rfl (arr8 (unhide K1)).2.2.2.2.1 (fun hHeld => ?_)
              simp only [List.replicate]
              repeat ((first | (refine tkF ?_ rfl (by kernel_rfl) (by rfl) (fun _ _ _ h => h) ?_ hHeld ?_; rotate_left; · (intro w hSw; (try dsimp only at hSw); go_simp <;> with_reducible rfl)) | refine skF rfl (by kernel_rfl) (by rfl) (fun _ _ _ h => h) hHeld ?_); simp only [Act.put, setF, List.setIfInBounds_toArray, List.set_cons_zero, List.set_cons_succ])
              refine tkI 3 ?_ rfl (by kernel_rfl) (by kernel_rfl) (fun _ _ _ h => h) ?_ hHeld ?_; rotate_left; (· (intro w hSw; (try dsimp only at hSw); go_simp <;> with_reducible rfl)); simp only [Act.put, List.setIfInBounds_toArray, List.set_cons_zero, List.set_cons_succ]
              refine tkI 4 ?_ rfl (by kernel_rfl) (by kernel_rfl) (fun _ _ _ h => h) ?_ hHeld ?_; rotate_left; (· (intro w hSw; (try dsimp only at hSw); go_simp <;> with_reducible rfl)); simp only [Act.put, List.setIfInBounds_toArray, List.set_cons_zero, List.set_cons_succ]
              refine tkI 7 ?_ rfl (by kernel_rfl) (by kernel_rfl) (fun _ _ _ h => h) ?_ hHeld ?_; rotate_left; (· (intro w hSw; (try dsimp only at hSw); go_simp <;> with_reducible rfl)); simp only [Act.put, List.setIfInBounds_toArray, List.set_cons_zero, List.set_cons_succ]
              refine tkI 8 ?_ rfl (by kernel_rfl) (by kernel_rfl) (fun _ _ _ h => h) ?_ hHeld ?_; rotate_left; (· (intro w hSw; (try dsimp only at hSw); go_simp <;> with_reducible rfl)); simp only [Act.put, List.setIfInBounds_toArray, List.set_cons_zero, List.set_cons_succ]
              refine runI 2 rfl (by kernel_rfl) (by kernel_rfl) (fun K hK => ?_)
              have HK := hide hK
              clear hK hHeld
              go_simp
              refine (l7turn_b M.e 6 (by omega) _).mono ?_
              rintro e wa6 ⟨rfl, b2⟩
              replace H1 := hide ((unhide H1).next b2)
              replace K1 := hide (block_kept b2 (unhide K1))
              clear b2
              go_simp
              refine (unhide HK).out _ _ (arr8 (unhide K1)).2.2.2.2.1 (fun hHeld => ?_)
              clear HK K
              simp only [List.setIfInBounds_toArray, List.set_cons_zero, List.set_cons_succ]
              repeat ((first | (refine tkF ?_ rfl (by kernel_rfl) (by rfl) (fun _ _ _ h => h) ?_ hHeld ?_; rotate_left; · (intro w hSw; (try dsimp only at hSw); go_simp <;> with_reducible rfl)) | refine skF rfl (by kernel_rfl) (by rfl) (fun _ _ _ h => h) hHeld ?_); simp only [Act.put, setF, List.setIfInBounds_toArray, List.set_cons_zero, List.set_cons_succ])
              refine runI 5 rfl (by kernel_rfl) (by kernel_rfl) (fun K hK => ?_)
              have HK := hide hK
              clear hK hHeld
              go_simp
              refine (l7turn_b M.e 11 (by omega) _).mono ?_
              rintro e wa11 ⟨rfl, b2⟩
              replace H1 := hide ((unhide H1).next b2)
              replace K1 := hide (block_kept b2 (unhide K1))
              clear b2
              go_simp
              refine (unhide HK).out _ _ (arr8 (unhide K1)).2.2.2.2.1 (fun hHeld => ?_)
              clear HK K
              simp only [List.setIfInBounds_toArray, List.set_cons_zero, List.set_cons_succ]
              repeat ((first | (refine tkF ?_ rfl (by kernel_rfl) (by rfl) (fun _ _ _ h => h) ?_ hHeld ?_; rotate_left; · (intro w hSw; (try dsimp only at hSw); go_simp <;> with_reducible rfl)) | refine skF rfl (by kernel_rfl) (by rfl) (fun _ _ _ h => h) hHeld ?_); simp only [Act.put, setF, List.setIfInBounds_toArray, List.set_cons_zero, List.set_cons_succ])
              refine runI 9 rfl (by kernel_rfl) (by kernel_rfl) (fun K hK => ?_)
              have HK := hide hK
              clear hK hHeld
              go_simp
              refine (l7turn_b M.e 25 (by omega) _).mono ?_
              rintro e wa25 ⟨rfl, b2⟩
              replace H1 := hide ((unhide H1).next b2)
              replace K1 := hide (block_kept b2 (unhide K1))
              clear b2
              go_simp
              refine (unhide HK).out _ _ (arr8 (unhide K1)).2.2.2.2.1 (fun hHeld => ?_)
              clear HK K
              simp only [List.setIfInBounds_toArray, List.set_cons_zero, List.set_cons_succ]
              repeat ((first | (refine tkF ?_ rfl (by kernel_rfl) (by rfl) (fun _ _ _ h => h) ?_ hHeld ?_; rotate_left; · (intro w hSw; (try dsimp only at hSw); go_simp <;> with_reducible rfl)) | refine skF rfl (by kernel_rfl) (by rfl) (fun _ _ _ h => h) hHeld ?_); simp only [Act.put, setF, List.setIfInBounds_toArray, List.set_cons_zero, List.set_cons_succ])
              refine wpAnyH_done (by kernel_rfl) ?_ _
              clear hHeld
              clear x1 x2
              generalize hS1 : turnR M.e 6 ^^^ turnR M.e 11 ^^^ turnR M.e 25 = S1 at *
              have HS1 := hide hS1
              clear hS1
              obtain ⟨c0, c1, c2, c3, c4, c5, c6, c7⟩ := arr8 (unhide K1)
              have x1 := wd_and M.e M.f
              have x2 : bits .xor .u32 IntKind.u32.max (wv M.e) = wv (~~~M.e) := wd_not M.e
              have x3 := wd_and (~~~M.e) M.g
              have x4 := wd_xor (M.e &&& M.f) (~~~M.e &&& M.g)
              go_wp2_with fail
              clear x1 x2 x3 x4 c0 c1 c2 c3 c4 c5 c6 c7
              generalize hCH : (M.e &&& M.f) ^^^ (~~~M.e &&& M.g) = CH at *
              have HCH := hide hCH
              clear hCH
              replace H1 := hide ((unhide H1).next (below_drew (w := wa25)))
              replace K1 := hide (block_kept (below_drew (w := wa25)) (unhide K1))
              have x1 := wd_add M.h S1
              have x2 := wd_add (M.h + S1) CH
              have x3 := wd_add (M.h + S1 + CH) kk
              have x4 := wd_add (M.h + S1 + CH + kk) ww
              refine startF 14 (S := fun w' => w'.cell? ⟨q, 7, none⟩ = some (.int .u32 (wv M.h)) ∧ w'.cell? ⟨N + 1 + 1, n, none⟩ = some (.int .u32 (wv ww))) (by kernel_rfl) rfl ⟨(arr8 (unhide K1)).2.2.2.2.2.2.2, unhide HWn _ (unhide H1).fw⟩ (fun hHeld => ?_)
              simp only [List.replicate]
              repeat ((first | (refine tkF ?_ rfl (by kernel_rfl) (by rfl) (fun _ _ _ h => h) ?_ hHeld ?_; rotate_left; · (intro w hSw; (try dsimp only at hSw); go_simp <;> with_reducible rfl)) | refine skF rfl (by kernel_rfl) (by rfl) (fun _ _ _ h => h) hHeld ?_); simp only [Act.put, setF, List.setIfInBounds_toArray, List.set_cons_zero, List.set_cons_succ])
              refine tkI 9 ?_ rfl (by kernel_rfl) (by kernel_rfl) (fun _ _ _ h => h) ?_ hHeld ?_; rotate_left; (· (intro w hSw; (try dsimp only at hSw); go_simp <;> with_reducible rfl)); simp only [Act.put, List.setIfInBounds_toArray, List.set_cons_zero, List.set_cons_succ]
              refine tkI 10 ?_ rfl (by kernel_rfl) (by kernel_rfl) (fun _ _ _ h => h) ?_ hHeld ?_; rotate_left; (· (intro w hSw; (try dsimp only at hSw); go_simp <;> with_reducible rfl)); simp only [Act.put, List.setIfInBounds_toArray, List.set_cons_zero, List.set_cons_succ]
              refine tkI 11 ?_ rfl (by kernel_rfl) (by kernel_rfl) (fun _ _ _ h => h) ?_ hHeld ?_; rotate_left; (· (intro w hSw; (try dsimp only at hSw); go_simp <;> with_reducible rfl)); simp only [Act.put, List.setIfInBounds_toArray, List.set_cons_zero, List.set_cons_succ]
              refine runI 7 rfl (by kernel_rfl) (by kernel_rfl) (fun K hK => ?_)
              have HK := hide hK
              clear hK hHeld
              go_simp
              refine (unhide HRD _).mono ?_
              rintro e wb ⟨rfl, b2⟩
              replace H1 := hide ((unhide H1).next b2)
              replace K1 := hide (block_kept b2 (unhide K1))
              clear b2
              go_simp
              refine (unhide HK).out _ _ ⟨(arr8 (unhide K1)).2.2.2.2.2.2.2, unhide HWn _ (unhide H1).fw⟩ (fun hHeld => ?_)
              clear HK K
              simp only [List.setIfInBounds_toArray, List.set_cons_zero, List.set_cons_succ]
              repeat ((first | (refine tkF ?_ rfl (by kernel_rfl) (by rfl) (fun _ _ _ h => h) ?_ hHeld ?_; rotate_left; · (intro w hSw; (try dsimp only at hSw); go_simp <;> with_reducible rfl)) | refine skF rfl (by kernel_rfl) (by rfl) (fun _ _ _ h => h) hHeld ?_); simp only [Act.put, setF, List.setIfInBounds_toArray, List.set_cons_zero, List.set_cons_succ])
              refine wpAnyH_done (by kernel_rfl) ?_ _
              clear hHeld
              clear x1 x2 x3 x4
              generalize hT : M.h + S1 + CH + kk + ww = T at *
              have HT := hide hT
              clear hT
              go_wp2_with fail
              replace H1 := hide ((unhide H1).next (below_drew (w := wb)))
              replace K1 := hide (block_kept (below_drew (w := wb)) (unhide K1))
              have x1 := wd_xor (turnR M.a 2) (turnR M.a 13)
              have x2 := wd_xor (turnR M.a 2 ^^^ turnR M.a 13) (turnR M.a 22)
              refine startF 12 (S := fun w' => w'.cell? ⟨q, 0, none⟩ = some (.int .u32 (wv M.a))) (by kernel_rfl) rfl (arr8 (unhide K1)).1 (fun hHeld => ?_)
              simp only [List.replicate]
              repeat ((first | (refine tkF ?_ rfl (by kernel_rfl) (by rfl) (fun _ _ _ h => h) ?_ hHeld ?_; rotate_left; · (intro w hSw; (try dsimp only at hSw); go_simp <;> with_reducible rfl)) | refine skF rfl (by kernel_rfl) (by rfl) (fun _ _ _ h => h) hHeld ?_); simp only [Act.put, setF, List.setIfInBounds_toArray, List.set_cons_zero, List.set_cons_succ])
              refine tkI 3 ?_ rfl (by kernel_rfl) (by kernel_rfl) (fun _ _ _ h => h) ?_ hHeld ?_; rotate_left; (· (intro w hSw; (try dsimp only at hSw); go_simp <;> with_reducible rfl)); simp only [Act.put, List.setIfInBounds_toArray, List.set_cons_zero, List.set_cons_succ]
              refine tkI 4 ?_ rfl (by kernel_rfl) (by kernel_rfl) (fun _ _ _ h => h) ?_ hHeld ?_; rotate_left; (· (intro w hSw; (try dsimp only at hSw); go_simp <;> with_reducible rfl)); simp only [Act.put, List.setIfInBounds_toArray, List.set_cons_zero, List.set_cons_succ]
              refine tkI 7 ?_ rfl (by kernel_rfl) (by kernel_rfl) (fun _ _ _ h => h) ?_ hHeld ?_; rotate_left; (· (intro w hSw; (try dsimp only at hSw); go_simp <;> with_reducible rfl)); simp only [Act.put, List.setIfInBounds_toArray, List.set_cons_zero, List.set_cons_succ]
              refine tkI 8 ?_ rfl (by kernel_rfl) (by kernel_rfl) (fun _ _ _ h => h) ?_ hHeld ?_; rotate_left; (· (intro w hSw; (try dsimp only at hSw); go_simp <;> with_reducible rfl)); simp only [Act.put, List.setIfInBounds_toArray, List.set_cons_zero, List.set_cons_succ]
              refine runI 2 rfl (by kernel_rfl) (by kernel_rfl) (fun K hK => ?_)
              have HK := hide hK
              clear hK hHeld
              go_simp
              refine (l7turn_b M.a 2 (by omega) _).mono ?_
              rintro e wc2 ⟨rfl, b2⟩
              replace H1 := hide ((unhide H1).next b2)
              replace K1 := hide (block_kept b2 (unhide K1))
              clear b2
              go_simp
              refine (unhide HK).out _ _ (arr8 (unhide K1)).1 (fun hHeld => ?_)
              clear HK K
              simp only [List.setIfInBounds_toArray, List.set_cons_zero, List.set_cons_succ]
              repeat ((first | (refine tkF ?_ rfl (by kernel_rfl) (by rfl) (fun _ _ _ h => h) ?_ hHeld ?_; rotate_left; · (intro w hSw; (try dsimp only at hSw); go_simp <;> with_reducible rfl)) | refine skF rfl (by kernel_rfl) (by rfl) (fun _ _ _ h => h) hHeld ?_); simp only [Act.put, setF, List.setIfInBounds_toArray, List.set_cons_zero, List.set_cons_succ])
              refine runI 5 rfl (by kernel_rfl) (by kernel_rfl) (fun K hK => ?_)
              have HK := hide hK
              clear hK hHeld
              go_simp
              refine (l7turn_b M.a 13 (by omega) _).mono ?_
              rintro e wc13 ⟨rfl, b2⟩
              replace H1 := hide ((unhide H1).next b2)
              replace K1 := hide (block_kept b2 (unhide K1))
              clear b2
              go_simp
              refine (unhide HK).out _ _ (arr8 (unhide K1)).1 (fun hHeld => ?_)
              clear HK K
              simp only [List.setIfInBounds_toArray, List.set_cons_zero, List.set_cons_succ]
              repeat ((first | (refine tkF ?_ rfl (by kernel_rfl) (by rfl) (fun _ _ _ h => h) ?_ hHeld ?_; rotate_left; · (intro w hSw; (try dsimp only at hSw); go_simp <;> with_reducible rfl)) | refine skF rfl (by kernel_rfl) (by rfl) (fun _ _ _ h => h) hHeld ?_); simp only [Act.put, setF, List.setIfInBounds_toArray, List.set_cons_zero, List.set_cons_succ])
              refine runI 9 rfl (by kernel_rfl) (by kernel_rfl) (fun K hK => ?_)
              have HK := hide hK
              clear hK hHeld
              go_simp
              refine (l7turn_b M.a 22 (by omega) _).mono ?_
              rintro e wc22 ⟨rfl, b2⟩
              replace H1 := hide ((unhide H1).next b2)
              replace K1 := hide (block_kept b2 (unhide K1))
              clear b2
              go_simp
              refine (unhide HK).out _ _ (arr8 (unhide K1)).1 (fun hHeld => ?_)
              clear HK K
              simp only [List.setIfInBounds_toArray, List.set_cons_zero, List.set_cons_succ]
              repeat ((first | (refine tkF ?_ rfl (by kernel_rfl) (by rfl) (fun _ _ _ h => h) ?_ hHeld ?_; rotate_left; · (intro w hSw; (try dsimp only at hSw); go_simp <;> with_reducible rfl)) | refine skF rfl (by kernel_rfl) (by rfl) (fun _ _ _ h => h) hHeld ?_); simp only [Act.put, setF, List.setIfInBounds_toArray, List.set_cons_zero, List.set_cons_succ])
              refine wpAnyH_done (by kernel_rfl) ?_ _
              clear hHeld
              clear x1 x2
              generalize hR : turnR M.a 2 ^^^ turnR M.a 13 ^^^ turnR M.a 22 = R at *
              have HR := hide hR
              clear hR
              obtain ⟨c0, c1, c2, c3, c4, c5, c6, c7⟩ := arr8 (unhide K1)
              have x1 := wd_and M.a M.b
              have x2 := wd_and M.a M.c
              have x3 := wd_xor (M.a &&& M.b) (M.a &&& M.c)
              have x4 := wd_and M.b M.c
              have x5 := wd_xor (M.a &&& M.b ^^^ M.a &&& M.c) (M.b &&& M.c)
              have x6 := wd_add T R
              have x7 := wd_add (T + R) (M.a &&& M.b ^^^ M.a &&& M.c ^^^ M.b &&& M.c)
              have x8 := wd_add M.d T
              have KQ := hide (block_there (unhide K1) (n := (cellsU (l8 ⟨T + R + (M.a &&& M.b ^^^ M.a &&& M.c ^^^ M.b &&& M.c), M.a, M.b, M.c, M.d + T, M.e, M.f, M.g⟩)).size) (by rw [cellsU_size, cellsU_size]; rfl))
              have KW := hide (block_whole (unhide K1) (cs := cellsU (l8 ⟨T + R + (M.a &&& M.b ^^^ M.a &&& M.c ^^^ M.b &&& M.c), M.a, M.b, M.c, M.d + T, M.e, M.f, M.g⟩)) (by rw [cellsU_size, cellsU_size]; rfl))
              have H4 := hide ((unhide H1).out (unhide HN) (unhide ZQ) (outside_sets q (cellsU (l8 ⟨T + R + (M.a &&& M.b ^^^ M.a &&& M.c ^^^ M.b &&& M.c), M.a, M.b, M.c, M.d + T, M.e, M.f, M.g⟩)).toList 0 wc22))
              go_wp2_with (first
                | (refine list_build (v := .agg (cellsU (l8 ⟨T + R + (M.a &&& M.b ^^^ M.a &&& M.c ^^^ M.b &&& M.c), M.a, M.b, M.c, M.d + T, M.e, M.f, M.g⟩))) (w' := wc22) rfl rfl (by kernel_rfl) ?_)
                | (refine wpList_store_mid rfl 34 (.tmp 12) (.tmp 192) rfl q 0 (cellsU (l8 ⟨T + R + (M.a &&& M.b ^^^ M.a &&& M.c ^^^ M.b &&& M.c), M.a, M.b, M.c, M.d + T, M.e, M.f, M.g⟩)) rfl rfl (unhide KQ) (sz8 _) (cellsU_one _) ?_; generalize wc22.setCells q 0 (cellsU (l8 ⟨T + R + (M.a &&& M.b ^^^ M.a &&& M.c ^^^ M.b &&& M.c), M.a, M.b, M.c, M.d + T, M.e, M.f, M.g⟩)).toList = W4 at *))
              have hM1 : (⟨T + R + (M.a &&& M.b ^^^ M.a &&& M.c ^^^ M.b &&& M.c), M.a, M.b, M.c, M.d + T, M.e, M.f, M.g⟩ : S8) = M1 := by
                rw [unhide HX, ← unhide HT, ← unhide HR, ← unhide HS1, ← unhide HCH]
                rfl
              rw [hM1, ← unhide HM1] at KW
              have hlt := unhide HLT
              exact ⟨⟨n + 1, by omega, by go_num, hide ⟨unhide H4, unhide KW⟩⟩, by simp [intOf]; omega⟩
            · have HM := hide (show blockS s bs = addS s (mixS bs s n) by rw [show n = 64 by omega]; rfl)
              have e : ¬ ((n : Int) < 64) := by omega
              generalize mixS bs s n = M at *
              clear hlt hn
              go_wp2_with fail
              clear e
              go_loopw [19] (fun i wr => ∃ (k : Nat), k ≤ 8 ∧ i = .int .i64 k ∧ Hid (In7 N w wr (addK (l8 s) (l8 M) k) CW ∧ wr.heap[q]? = some (.cells (cellsU (l8 M)) 34))) (fun i _ => 8 - (intOf i).toNat)
              case atStart => exact ⟨0, Nat.zero_le _, rfl, by rw [addK_zero]; exact H⟩
              case round =>
                clear H
                obtain ⟨p, hp, rfl, H⟩ := hrel
                by_cases hlt : p < 8
                · have lp : (p : Int) < 8 := by omega
                  have HLT := hide hlt
                  have H1 := hide ((unhide H).1.next (below_drew (w := wr)))
                  have K1 := hide (block_kept (below_drew (w := wr)) (unhide H).2)
                  have cx := arr_cell (unhide H1).fh (i := p) (by rw [addK_length]; exact hlt)
                  rw [addK_at _ _ hlt] at cx
                  have cy := arr_cell (unhide K1) (i := p) hlt
                  have fx := block_frozen (unhide H1).fh p
                  have HS := hide (addK_set (l8 s) (l8 M) hlt)
                  have CY2 := hide (fun (z : Value) => arr_cell (block_kept (below_drew (w := wr.setCell ⟨N, p, none⟩ z)) ((outside_set wr N p z).kept (unhide H).2 (by have := unhide ZQ; omega))) (i := p) hlt)
                  generalize (l8 s).getD p 0 = x at *
                  generalize (l8 M).getD p 0 = y at *
                  have x1 := wd_add x y
                  have H2 := hide (((unhide H).1.setH (unhide HN) p (x + y)).next (below_drew (w := wr.setCell ⟨N, p, none⟩ (.int .u32 (wv (x + y))))))
                  have K2 := hide (block_kept (below_drew (w := wr.setCell ⟨N, p, none⟩ (.int .u32 (wv (x + y))))) ((outside_set wr N p (.int .u32 (wv (x + y)))).kept (unhide H).2 (by have := unhide ZQ; omega)))
                  rw [unhide HS] at H2
                  have CY := hide cy
                  clear hlt hp cy
                  go_wp2_with fail
                  refine startF 10 (S := fun w' => w'.cell? ⟨q, p, none⟩ = some (.int .u32 (wv y))) (by kernel_rfl) rfl (unhide CY) (fun hHeld => ?_)
                  simp only [List.replicate]
                  repeat ((first | (refine tkF ?_ rfl (by kernel_rfl) (by rfl) (fun _ _ _ h => h) ?_ hHeld ?_; rotate_left; · (intro w hSw; (try dsimp only at hSw); go_simp <;> with_reducible rfl)) | refine skF rfl (by kernel_rfl) (by rfl) (fun _ _ _ h => h) hHeld ?_); simp only [Act.put, setF, List.setIfInBounds_toArray, List.set_cons_zero, List.set_cons_succ])
                  refine tkI 4 ?_ rfl (by kernel_rfl) (by kernel_rfl) (fun _ _ _ h => h) ?_ hHeld ?_; rotate_left; (· (intro w hSw; (try dsimp only at hSw); go_simp <;> with_reducible rfl)); simp only [Act.put, List.setIfInBounds_toArray, List.set_cons_zero, List.set_cons_succ]
                  refine tkI 5 ?_ rfl (by kernel_rfl) (by kernel_rfl) (fun _ _ _ h => h) ?_ hHeld ?_; rotate_left; (· (intro w hSw; (try dsimp only at hSw); go_simp <;> with_reducible rfl)); simp only [Act.put, List.setIfInBounds_toArray, List.set_cons_zero, List.set_cons_succ]
                  refine tkI 6 ?_ rfl (by kernel_rfl) (by kernel_rfl) (fun _ _ _ h => h) ?_ hHeld ?_; rotate_left; (· (intro w hSw; (try dsimp only at hSw); go_simp <;> with_reducible rfl)); simp only [Act.put, List.setIfInBounds_toArray, List.set_cons_zero, List.set_cons_succ]
                  refine runI 3 rfl (by kernel_rfl) (by kernel_rfl) (fun K hK => ?_)
                  have HK := hide hK
                  clear hK hHeld
                  go_simp
                  refine (unhide HK).out _ _ (unhide CY) (fun hHeld => ?_)
                  clear HK K
                  simp only [List.setIfInBounds_toArray, List.set_cons_zero, List.set_cons_succ]
                  refine tkI 7 ?_ rfl (by kernel_rfl) (by kernel_rfl) (fun _ _ _ h => h) ?_ hHeld ?_; rotate_left; (· (intro w hSw; (try dsimp only at hSw); go_simp <;> with_reducible rfl)); simp only [Act.put, List.setIfInBounds_toArray, List.set_cons_zero, List.set_cons_succ]
                  refine tkI 8 ?_ rfl (by kernel_rfl) (by kernel_rfl) (fun _ _ _ h => h) ?_ hHeld ?_; rotate_left; (· (intro w hSw; (try dsimp only at hSw); go_simp <;> with_reducible rfl)); simp only [Act.put, List.setIfInBounds_toArray, List.set_cons_zero, List.set_cons_succ]
                  refine runI 9 rfl (by kernel_rfl) (by kernel_rfl) (fun K hK => ?_)
                  have HK := hide hK
                  clear hK hHeld
                  go_simp
                  refine (unhide HK).out _ _ (unhide CY2 _) (fun hHeld => ?_)
                  clear HK K
                  simp only [List.setIfInBounds_toArray, List.set_cons_zero, List.set_cons_succ]
                  refine wpAnyH_done (by kernel_rfl) ?_ _
                  clear hHeld
                  generalize (wr.setCell ⟨N, p, none⟩ (.int .u32 (wv (x + y)))).drew = w9 at *
                  clear cx fx x1 CY CY2 H1 K1
                  have hlt := unhide HLT
                  go_wp2
                  exact ⟨⟨p + 1, by omega, by go_num, hide ⟨unhide H2, unhide K2⟩⟩, by simp [intOf]; omega⟩
                · have HE : Hid (In7 N w wr (l8 (addS s M)) CW) := by
                    have h1 := (unhide H).1
                    rw [show p = 8 by omega, addK_all] at h1
                    exact hide h1
                  have e : ¬ ((p : Int) < 8) := by omega
                  have KR := hide (block_there (unhide HE).fr (n := (cellsU (l8 (addS s M))).size) (by rw [cellsU_size, cellsU_size]; rfl))
                  have KS := block_whole (unhide HE).fr (cs := cellsU (l8 (addS s M))) (by rw [cellsU_size, cellsU_size]; rfl)
                  have BS := hide ((outside_sets (N + 1) (cellsU (l8 (addS s M))).toList 0 wr).below (unhide HE).fb (by have := unhide HN; omega))
                  have HKS := hide KS
                  clear H hlt hp KS
                  go_wp2_with (first
                    | (refine list_loadU rfl 34 (.tmp 2) rfl N rfl (l8 (addS s M)) (unhide HE).fh Tryd.underlying34 rfl size79 ?_)
                    | (refine wpList_store_mid rfl 34 (.tmp 4) (.tmp 206) rfl (N + 1) 0 (cellsU (l8 (addS s M))) rfl rfl (unhide KR) (sz8 _) (cellsU_one _) ?_; generalize wr.setCells (N + 1) 0 (cellsU (l8 (addS s M))).toList = W9 at *))
                  refine bodyPost_ret (results_cell_row rfl _ _ (N + 1) 34 (cellsU (l8 (addS s M))) (0, 0) _ rfl (unhide HKS) Tryd.underlying34 rfl (by kernel_rfl)) rfl ?_
                  rw [unhide HM]
                  exact ⟨rfl, by have := unhide BS; rwa [unhide HN] at this⟩
end Go.Proofs.YtkhiklemhkeakaaDoor

namespace Go.Proofs.YtkhiklemhkeakaaDoor
open Go.RowKit

section
variable {P : Program} {w : World}

theorem run_append_bytes (t ty e : TypeId) (ht : P.underlying t = some (.slice e)) (hinfo : (P.info? e).map (fun i => (i.zero, i.size, i.bytes)) = some (some (.int .u8 0), 1, 1))
    (base : Nat) (v vx : Value) (l m : List Int) (hown : Own base e w v l) (hr : Reads w vx m) (hlen : l.length + m.length ≤ 1099511627776) (hbase : base ≤ w.heap.size) :
    ∃ v' w', (Builtin.append_ #[t, t] ty #[v, vx]).run P w = .ok v' w' ∧ Own base e w' v' (l ++ m) ∧ w.grownBy w' v.ownBlock := by
  obtain ⟨i0, hi, hz0, hz1, hz2⟩ := info_parts hinfo
  rcases hr with ⟨rfl, rfl⟩ | ⟨ad, cap, rfl, hc⟩
  · exact ⟨v, w, run_append_owned_none w base t ty e i0 1 ht hi v l.length (l.map (Value.int .u8)) hown, by simpa using hown, ⟨rfl, rfl, rfl, Nat.le_refl _, fun _ _ _ => rfl⟩⟩
  · obtain ⟨v', w', h1, h2, h3, _⟩ := run_append_own (P := P) w base t ty e i0 (.int .u8 0) 1 1 ht hi hz0 hz1 hz2 rfl (by decide) v l.length (l.map (Value.int .u8)) hown ad m.length cap (m.map (Value.int .u8)) (by simp) (news_of hc) (one_of m) (by unfold maxLen; omega) (by omega) hbase
    exact ⟨v', w', h1, by simpa [Own] using h2, h3⟩

/-- 'append(s, x...)' of bytes, as a step of a region. -/
theorem step_append_bytes {ops : Array Oper} {o : Oper} {a : Act} {K : Act → World → Prop} {Q : Exit → Act → World → Prop} {E : Prop} (hgd : o.guard = none) (s x : Operand) (t e : TypeId)
    (ho : o.op = .call { callee := .builtin .append, args := #[s, x], argTypes := #[t, t] }) (ht : P.underlying t = some (.slice e))
    (hinfo : (P.info? e).map (fun i => (i.zero, i.size, i.bytes)) = some (some (.int .u8 0), 1, 1))
    (base : Nat) (v vx : Value) (l m : List Int) (hs : a.eval s = v) (hx : a.eval x = vx) (hown : Own base e w v l) (hr : Reads w vx m) (hlen : l.length + m.length ≤ 1099511627776) (hbase : base ≤ w.heap.size)
    (h : ∀ v' w', Own base e w' v' (l ++ m) → w.grownBy w' v.ownBlock → K (a.put o.dst v') w') : if Region.wanted o (yielded ops a.tmps) = true then Oper.wp P o a w K Q else E := by
  have hw : Region.wanted o (yielded ops a.tmps) = true := by simp [Region.wanted, hgd]
  rw [if_pos hw]
  obtain ⟨v', w', hr', h2, h3⟩ := run_append_bytes (P := P) t o.type e ht hinfo base v vx l m hown hr hlen hbase
  unfold Oper.wp execOp
  simp only [ho, resolve, invoke, builtin, Sem.run_bind, Sem.run_pure, Result.andThen_ok, List.map_toArray, List.map_cons, List.map_nil, hs, hx, hr']
  exact h v' w' h2 h3

/-- Some values more behind an own row of values of one cell each. -/
theorem run_append_row (t ty e : TypeId) (ht : P.underlying t = some (.slice e)) (hinfo : (P.info? e).map (fun i => (i.zero, i.size, i.bytes)) = some (some (.slice none 0 0), 1, 24))
    (base : Nat) (v vx : Value) (xs us : List Value) (hown : w.ownsRow base e 1 v xs.length xs)
    (hr : (vx = .slice none 0 0 ∧ us = []) ∨ ∃ ad cap, vx = .slice (some ad) us.length cap ∧ ∀ j y, us[j]? = some y → w.cell? (ad.add j) = some y) (hu : ∀ y ∈ us, y.oneCell' = true)
    (hlen : xs.length + us.length ≤ 1099511627776) (hbase : base ≤ w.heap.size) :
    ∃ v' w', (Builtin.append_ #[t, t] ty #[v, vx]).run P w = .ok v' w' ∧ w'.ownsRow base e 1 v' (xs.length + us.length) (xs ++ us) ∧ w.grownBy w' v.ownBlock := by
  obtain ⟨i0, hi, hz0, hz1, hz2⟩ := info_parts hinfo
  rcases hr with ⟨rfl, rfl⟩ | ⟨ad, cap, rfl, hc⟩
  · exact ⟨v, w, run_append_owned_none w base t ty e i0 1 ht hi v xs.length xs hown, by simpa using hown, ⟨rfl, rfl, rfl, Nat.le_refl _, fun _ _ _ => rfl⟩⟩
  · obtain ⟨v', w', h1, h2, h3, _⟩ := run_append_own (P := P) w base t ty e i0 (.slice none 0 0) 1 24 ht hi hz0 hz1 hz2 rfl (by decide) v xs.length xs hown ad us.length cap us (by simp) hc hu (by unfold maxLen; omega) (by omega) hbase
    exact ⟨v', w', h1, h2, h3⟩

/-- 'append(s, x...)' of slices, as a step of a region. -/
theorem step_append_row {ops : Array Oper} {o : Oper} {a : Act} {K : Act → World → Prop} {Q : Exit → Act → World → Prop} {E : Prop} (hgd : o.guard = none) (s x : Operand) (t e : TypeId)
    (ho : o.op = .call { callee := .builtin .append, args := #[s, x], argTypes := #[t, t] }) (ht : P.underlying t = some (.slice e))
    (hinfo : (P.info? e).map (fun i => (i.zero, i.size, i.bytes)) = some (some (.slice none 0 0), 1, 24))
    (base : Nat) (v vx : Value) (xs us : List Value) (hs : a.eval s = v) (hx : a.eval x = vx) (hown : w.ownsRow base e 1 v xs.length xs)
    (hr : (vx = .slice none 0 0 ∧ us = []) ∨ ∃ ad cap, vx = .slice (some ad) us.length cap ∧ ∀ j y, us[j]? = some y → w.cell? (ad.add j) = some y) (hu : ∀ y ∈ us, y.oneCell' = true)
    (hlen : xs.length + us.length ≤ 1099511627776) (hbase : base ≤ w.heap.size)
    (h : ∀ v' w', w'.ownsRow base e 1 v' (xs.length + us.length) (xs ++ us) → w.grownBy w' v.ownBlock → K (a.put o.dst v') w') : if Region.wanted o (yielded ops a.tmps) = true then Oper.wp P o a w K Q else E := by
  have hw : Region.wanted o (yielded ops a.tmps) = true := by simp [Region.wanted, hgd]
  rw [if_pos hw]
  obtain ⟨v', w', hr', h2, h3⟩ := run_append_row (P := P) t o.type e ht hinfo base v vx xs us hown hr hu hlen hbase
  unfold Oper.wp execOp
  simp only [ho, resolve, invoke, builtin, Sem.run_bind, Sem.run_pure, Result.andThen_ok, List.map_toArray, List.map_cons, List.map_nil, hs, hx, hr']
  exact h v' w' h2 h3

/-- One value more: what the row of the append's second argument is, in a world that has just been given it. -/
theorem one_more (w : World) (e : TypeId) (u : Value) : (Value.slice (some ⟨w.heap.size, 0, none⟩) 1 1 = .slice none 0 0 ∧ [u] = []) ∨ ∃ ad cap, Value.slice (some ⟨w.heap.size, 0, none⟩) 1 1 = .slice (some ad) [u].length cap ∧ ∀ j y, [u][j]? = some y → (w.alloc (.cells #[u] e)).cell? (ad.add j) = some y := by
  refine .inr ⟨_, 1, rfl, fun j y hj => ?_⟩
  have hj0 : j = 0 := by
    have := (List.getElem?_eq_some_iff.1 hj).1
    simp at this
    exact this
  subst hj0
  have hh : (w.alloc (.cells #[u] e)).heap[w.heap.size]? = some (.cells #[u] e) := by
    show (w.heap.push _)[w.heap.size]? = _
    simp
  rw [Addr.add_lit]
  unfold World.cell?
  simp only [hh]
  simpa using hj
end
end Go.Proofs.YtkhiklemhkeakaaDoor
