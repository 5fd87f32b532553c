/-
  Contract of the specification's l7block: a block of 64 bytes.
-/
import Derived.Test.YtfneahdnpmamkaaGreatFnOwnersG28
namespace Go.Proofs.YtfneahdnpmamkaaGreat
open Go.RowKit
set_option linter.unusedVariables false

set_option maxHeartbeats 4000000 in
set_option maxRecDepth 100000 in
theorem T6 {v : Value} {bs : List Int} {s : S8} {w : World} (hv : Has w v bs) (hl : bs.length = 64) (h8 : Dd bs) :
  Calls Tryz.prog 64 #[.agg (Af (l8 s)), v] w fun e w' => e = .returned (.agg (Af (l8 (Mz s bs)))) ∧ Below w.heap.size w w' := by
 obtain ⟨g, off, cap, rfl, hg, hc1, hc2, hcell⟩ : ∃ g off cap, v = .slice (some ⟨g, off, none⟩) 64 cap ∧ g < w.heap.size ∧ 64 ≤ cap ∧ cap ≤ maxLen ∧ ∀ i, i < 64 → w.cell? ⟨g, off + i, none⟩ = some (.int .u8 (bs.getD i 0)) := by
  rcases hv with ⟨_, rfl⟩ | ⟨g, off, cap, h1, h2, h3, h4, h5⟩
  ·simp at hl
  ·rw [hl] at h1 h3 h5
   exact ⟨g, off, cap, h1, h2, h3, h4, h5⟩
 have HCELL := UC hcell
 clear hcell hl
 have b0 : Below w.heap.size w (((w.alloc (.cells (Af (l8 s)) 91)).alloc (.cells (Af (List.replicate 8 0)) 91)).alloc (.cells (Af (List.replicate 64 0)) 111)) := ((UI _).alloc (UI _).size _).alloc ((UI _).alloc (UI _).size _).size _
 obtain ⟨hsz, kr, kw⟩ := box3 w (.cells (Af (l8 s)) 91) (Af (List.replicate 8 0)) (Af (List.replicate 64 0)) 91 111
 have kh : (((w.alloc (.cells (Af (l8 s)) 91)).alloc (.cells (Af (List.replicate 8 0)) 91)).alloc (.cells (Af (List.replicate 64 0)) 111)).heap[w.heap.size]? = some (.cells (Af (l8 s)) 91) := UE (UI _) (UE (UI _) (heap_alloc_new w _))
 have I0 : Hid (In7 w.heap.size w (((w.alloc (.cells (Af (l8 s)) 91)).alloc (.cells (Af (List.replicate 8 0)) 91)).alloc (.cells (Af (List.replicate 64 0)) 111)) (l8 s) (B8 bs 0)) := UC ⟨kh, kr, kw, b0⟩
 clear b0 hsz kr kw kh hv
 go_enter Tryz.func64, Tryz.ntmps64
 go_wp2_with fail
 show Code.wp _ _ _ _ (((w.alloc (.cells (Af (l8 s)) 91)).alloc (.cells (Af (List.replicate 8 0)) 91)).alloc (.cells (Af (List.replicate 64 0)) 111))
 generalize (((w.alloc (.cells (Af (l8 s)) 91)).alloc (.cells (Af (List.replicate 8 0)) 91)).alloc (.cells (Af (List.replicate 64 0)) 111)) = W0 at *
 generalize hN : w.heap.size = N at *
 have HN := UC hN
 clear hN
 go_loopw [6] (fun i wr => ∃ (k : Nat), k ≤ 16 ∧ i = .int .i64 k ∧ Hid (In7 N w wr (l8 s) (B8 bs k))) (fun i _ => 16 - (intOf i).toNat)
 case atStart => exact ⟨0, Nat.zero_le _, rfl, I0⟩
 case round =>
  clear I0
  obtain ⟨k, hk, rfl, H⟩ := hrel
  by_cases hlt : k < 16
  ·have H1 := UC ((UB H).next (UX (w := wr)))
   go_wp2_with fail
   have hcc := UC (fun w' (hb : Below w.heap.size w w') j (hj : j < 4) => ((hb.cell (p := ⟨g, off + (4 * k + j), none⟩) (by rw [UB HN]; exact hg)).trans (UB HCELL _ (by omega)) : w'.cell? ⟨g, off + (4 * k + j), none⟩ = some (.int .u8 (bs.getD (4 * k + j) 0))))
   obtain ⟨y0, z0⟩ := Int.eq_ofNat_of_zero_le (h8 (4 * k)).1
   obtain ⟨y1, z1⟩ := Int.eq_ofNat_of_zero_le (h8 (4 * k + 1)).1
   obtain ⟨y2, z2⟩ := Int.eq_ofNat_of_zero_le (h8 (4 * k + 2)).1
   obtain ⟨y3, z3⟩ := Int.eq_ofNat_of_zero_le (h8 (4 * k + 3)).1
   have HF := UC (Re bs hlt h8 z0 z1 z2 z3)
   have SF := UC (fun w' (hb : Below w.heap.size w w') => (⟨by have := UB hcc w' hb 0 (by omega); rwa [Nat.add_zero, z0] at this, by have := UB hcc w' hb 1 (by omega); rwa [z1] at this, by have := UB hcc w' hb 2 (by omega); rwa [z2] at this, by have := UB hcc w' hb 3 (by omega); rwa [z3] at this⟩ : w'.cell? ⟨g, off + (4 * k), none⟩ = some (.int .u8 (y0 : Int)) ∧ w'.cell? ⟨g, off + (4 * k + 1), none⟩ = some (.int .u8 (y1 : Int)) ∧ w'.cell? ⟨g, off + (4 * k + 2), none⟩ = some (.int .u8 (y2 : Int)) ∧ w'.cell? ⟨g, off + (4 * k + 3), none⟩ = some (.int .u8 (y3 : Int))))
   have e0 : IntKind.i64.wrap (4 * (k : Int)) = ((4 * k : Nat) : Int) := by rw [show (4 : Int) * k = ((4 * k : Nat) : Int) by omega]; exact Az _ (by omega)
   have e1 : IntKind.i64.wrap (((4 * k : Nat) : Int) + 1) = ((4 * k + 1 : Nat) : Int) := Az (4 * k + 1) (by omega)
   have e2 : IntKind.i64.wrap (((4 * k : Nat) : Int) + 2) = ((4 * k + 2 : Nat) : Int) := Az (4 * k + 2) (by omega)
   have e3 : IntKind.i64.wrap (((4 * k : Nat) : Int) + 3) = ((4 * k + 3 : Nat) : Int) := Az (4 * k + 3) (by omega)
   clear z0 z1 z2 z3 hcc
   have hm0 : ((4 * k : Nat) : Int) < 64 := by omega
   have hm1 : ((4 * k + 1 : Nat) : Int) < 64 := by omega
   have hm2 : ((4 * k + 2 : Nat) : Int) < 64 := by omega
   have hm3 : ((4 * k + 3 : Nat) : Int) < 64 := by omega
   have hki : (k : Int) < 64 := by omega
   generalize 4 * k = m at *
   generalize m + 1 = m1 at *
   generalize m + 2 = m2 at *
   generalize m + 3 = m3 at *
   have f0 := Gu y0
   have f1 := Gu y1
   have f2 := Gu y2
   have f3 := Gu y3
   generalize BitVec.ofNat 32 y0 = Y0 at *
   generalize BitVec.ofNat 32 y1 = Y1 at *
   generalize BitVec.ofNat 32 y2 = Y2 at *
   generalize BitVec.ofNat 32 y3 = Y3 at *
   have s0 : IntKind.u32.wrap (wv Y0 * 16777216) = wv (Y0 <<< 24) := Qu Y0 24
   have s1 : IntKind.u32.wrap (wv Y1 * 65536) = wv (Y1 <<< 16) := Qu Y1 16
   have s2 : IntKind.u32.wrap (wv Y2 * 256) = wv (Y2 <<< 8) := Qu Y2 8
   generalize Y0 <<< 24 = V0 at *
   generalize Y1 <<< 16 = V1 at *
   generalize Y2 <<< 8 = V2 at *
   have w0 := Uu V0 V1
   have w1 := Uu (V0 ||| V1) V2
   have w2 := Uu (V0 ||| V1 ||| V2) Y3
   refine Fi 36 (S := fun w' => w'.cell? ⟨g, off + m, none⟩ = some (.int .u8 (y0 : Int)) ∧ w'.cell? ⟨g, off + m1, none⟩ = some (.int .u8 (y1 : Int)) ∧ w'.cell? ⟨g, off + m2, none⟩ = some (.int .u8 (y2 : Int)) ∧ w'.cell? ⟨g, off + m3, none⟩ = some (.int .u8 (y3 : Int))) (by kernel_rfl) rfl (UB SF _ (UB H1).fb) (fun hHeld => ?_)
   simp only [List.replicate]
   repeat ((first | (refine tkF ?_ rfl (by kernel_rfl) (by rfl) (fun _ _ _ h => h) ?_ hHeld ?_; rotate_left; · (intro w hSw; (try dsimp only at hSw); go_simp <;> with_reducible rfl)) | refine skF rfl (by kernel_rfl) (by rfl) (fun _ _ _ h => h) hHeld ?_); simp only [Act.put, setF, List.setIfInBounds_toArray, List.set_cons_zero, List.set_cons_succ])
   have kc := Dj (UB H1).fw (i := k) (by rw [Cu]; omega)
   have kf := VG (UB H1).fw k
   generalize (B8 bs k).getD k 0 = old at *
   have H2 := UC (((UB H).setW (UB HN) k (V0 ||| V1 ||| V2 ||| Y3)).next (UX (w := wr.setCell ⟨N + 1 + 1, k, none⟩ (.int .u32 (wv (V0 ||| V1 ||| V2 ||| Y3))))))
   rw [UB HF] at H2
   refine runI 35 rfl (by kernel_rfl) (by kernel_rfl) (fun K hK => ?_)
   have HK := UC hK
   clear hK hHeld
   go_simp
   refine (UB HK).out _ _ (UB SF _ (UB H2).fb) (fun hHeld => ?_)
   clear HK K
   simp only [List.setIfInBounds_toArray, List.set_cons_zero, List.set_cons_succ]
   refine wpAnyH_done (by kernel_rfl) ?_ _
   clear hHeld
   clear kc kf
   generalize (wr.setCell ⟨N + 1 + 1, k, none⟩ (.int .u32 (wv (V0 ||| V1 ||| V2 ||| Y3)))).drew = w3 at *
   clear H H1
   clear w0 w1 w2 f0 f1 f2 f3 s0 s1 s2 e0 e1 e2 e3 hm0 hm1 hm2 hm3
   go_wp2
   exact ⟨⟨k + 1, by omega, by go_num, H2⟩, by simp [intOf]; omega⟩

  ·have HE : Hid (In7 N w wr (l8 s) (B8 bs 16)) := by
    have e : k = 16 := by omega
    rw [← e]
    exact H
   clear H
   go_wp2_with fail
   clear hk hlt
   go_loopw [7, 8, 9, 10, 11] (fun i _ _ _ _ wr => ∃ (k : Nat), 16 ≤ k ∧ k ≤ 64 ∧ i = .int .i64 k ∧ Hid (In7 N w wr (l8 s) (B8 bs k))) (fun i _ _ _ _ _ => 64 - (intOf i).toNat)
   case atStart => exact ⟨16, Nat.le_refl _, by omega, rfl, HE⟩
   case round =>
    clear HE
    obtain ⟨k, hk0, hk, rfl, H⟩ := hrel
    by_cases hlt : k < 64
    ·go_wp2_with fail
     have H1 := UC ((UB H).next (UX (w := wr)))
     clear H
     have e2 : IntKind.i64.wrap ((k : Int) - 2) = ((k - 2 : Nat) : Int) := by rw [show (k : Int) - 2 = ((k - 2 : Nat) : Int) by omega]; exact Az _ (by omega)
     have e7 : IntKind.i64.wrap ((k : Int) - 7) = ((k - 7 : Nat) : Int) := by rw [show (k : Int) - 7 = ((k - 7 : Nat) : Int) by omega]; exact Az _ (by omega)
     have e15 : IntKind.i64.wrap ((k : Int) - 15) = ((k - 15 : Nat) : Int) := by rw [show (k : Int) - 15 = ((k - 15 : Nat) : Int) by omega]; exact Az _ (by omega)
     have e16 : IntKind.i64.wrap ((k : Int) - 16) = ((k - 16 : Nat) : Int) := by rw [show (k : Int) - 16 = ((k - 16 : Nat) : Int) by omega]; exact Az _ (by omega)
     have l2 : ((k - 2 : Nat) : Int) < 64 := by omega
     have l7 : ((k - 7 : Nat) : Int) < 64 := by omega
     have l15 : ((k - 15 : Nat) : Int) < 64 := by omega
     have l16 : ((k - 16 : Nat) : Int) < 64 := by omega
     have lk : (k : Int) < 64 := by omega
     have HF := UC (Uc bs hk0)
     have SF := UC (fun (w' : World) (x : BitVec 32) (hb : w'.heap[N + 1 + 1]? = some (.cells (Af (B8 bs k)) 111) ∨ w'.heap[N + 1 + 1]? = some (.cells (Af ((B8 bs k).set k x)) 111)) => (⟨Qo hb (by rw [Cu]; omega) (by omega), Qo hb (by rw [Cu]; omega) (by omega), Qo hb (by rw [Cu]; omega) (by omega), Qo hb (by rw [Cu]; omega) (by omega)⟩ : w'.cell? ⟨N + 1 + 1, k - 2, none⟩ = some (.int .u32 (wv ((B8 bs k).getD (k - 2) 0))) ∧ w'.cell? ⟨N + 1 + 1, k - 7, none⟩ = some (.int .u32 (wv ((B8 bs k).getD (k - 7) 0))) ∧ w'.cell? ⟨N + 1 + 1, k - 15, none⟩ = some (.int .u32 (wv ((B8 bs k).getD (k - 15) 0))) ∧ w'.cell? ⟨N + 1 + 1, k - 16, none⟩ = some (.int .u32 (wv ((B8 bs k).getD (k - 16) 0)))))
     generalize (B8 bs k).getD (k - 2) 0 = X2 at *
     generalize (B8 bs k).getD (k - 7) 0 = X7 at *
     generalize (B8 bs k).getD (k - 15) 0 = X15 at *
     generalize (B8 bs k).getD (k - 16) 0 = X16 at *
     generalize k - 2 = p2 at *
     generalize k - 7 = p7 at *
     generalize k - 15 = p15 at *
     generalize k - 16 = p16 at *
     refine Fi 10 (S := fun w' => w'.cell? ⟨N + 1 + 1, p2, none⟩ = some (.int .u32 (wv X2)) ∧ w'.cell? ⟨N + 1 + 1, p7, none⟩ = some (.int .u32 (wv X7)) ∧ w'.cell? ⟨N + 1 + 1, p15, none⟩ = some (.int .u32 (wv X15)) ∧ w'.cell? ⟨N + 1 + 1, p16, none⟩ = some (.int .u32 (wv X16))) (by kernel_rfl) rfl (UB SF _ 0 (.inl (UB H1).fw)) (fun hHeld => ?_)
     simp only [List.replicate]
     repeat ((first | (refine tkF ?_ rfl (by kernel_rfl) (by rfl) (fun _ _ _ h => h) ?_ hHeld ?_; rotate_left; · (intro w hSw; (try dsimp only at hSw); go_simp <;> with_reducible rfl)) | refine skF rfl (by kernel_rfl) (by rfl) (fun _ _ _ h => h) hHeld ?_); simp only [Act.put, setF, List.setIfInBounds_toArray, List.set_cons_zero, List.set_cons_succ])
     refine wpAnyH_done (by kernel_rfl) ?_ _
     clear hHeld
     generalize wr.drew = w1 at *
     go_wp2_with fail
     refine (Di X15 7 (by omega) _).mono ?_
     rintro e w2 ⟨rfl, b2⟩
     replace H1 := UC ((UB H1).next b2)
     clear b2
     go_wp2_with fail
     refine (Di X15 18 (by omega) _).mono ?_
     rintro e w3 ⟨rfl, b3⟩
     replace H1 := UC ((UB H1).next b3)
     clear b3
     have r1 := Fh (Bp X15 7) (Bp X15 18)
     go_wp2_with fail
     clear r1
     refine (Di X2 17 (by omega) _).mono ?_
     rintro e w4 ⟨rfl, b4⟩
     replace H1 := UC ((UB H1).next b4)
     clear b4
     go_wp2_with fail
     refine (Di X2 19 (by omega) _).mono ?_
     rintro e w5 ⟨rfl, b5⟩
     replace H1 := UC ((UB H1).next b5)
     clear b5
     have r1 := Fh (Bp X2 17) (Bp X2 19)
     have r2 : wv X2 / (1024 : Int) = wv (X2 >>> 10) := Uh X2 10
     have r3 := Fh (Bp X2 17 ^^^ Bp X2 19) (X2 >>> 10)
     go_wp2_with fail
     rw [show wv X15 / (8 : Int) = wv (X15 >>> 3) from Uh X15 3, Fh (Bp X15 7 ^^^ Bp X15 18) (X15 >>> 3)]
     clear r1 r2 r3
     have g0 : Bp X15 7 ^^^ Bp X15 18 ^^^ X15 >>> 3 = Mh X15 := rfl
     have g1 : Bp X2 17 ^^^ Bp X2 19 ^^^ X2 >>> 10 = Md X2 := rfl
     rw [g0, g1]
     clear g0 g1
     generalize Mh X15 = A0 at *
     generalize Md X2 = A1 at *
     have q1 := Fk X16 A0
     have q2 := Fk (X16 + A0) X7
     have q3 := Fk (X16 + A0 + X7) A1
     generalize w5 = w6 at *
     have H2 := UC ((UB H1).next (UX (w := w6)))
     have kc := Dj (UB H2).fw (i := k) (by rw [Cu]; omega)
     have kf := VG (UB H2).fw k
     generalize (B8 bs k).getD k 0 = old at *
     have H3 := UC (((UB H1).setW (UB HN) k (X16 + A0 + X7 + A1)).next (UX (w := w6.setCell ⟨N + 1 + 1, k, none⟩ (.int .u32 (wv (X16 + A0 + X7 + A1))))))
     have SG := UC (UB SF _ _ (.inr (UB H3).fw))
     rw [← UB HF] at H3
     refine Fi 16 (S := fun w' => w'.cell? ⟨N + 1 + 1, p2, none⟩ = some (.int .u32 (wv X2)) ∧ w'.cell? ⟨N + 1 + 1, p7, none⟩ = some (.int .u32 (wv X7)) ∧ w'.cell? ⟨N + 1 + 1, p15, none⟩ = some (.int .u32 (wv X15)) ∧ w'.cell? ⟨N + 1 + 1, p16, none⟩ = some (.int .u32 (wv X16))) (by kernel_rfl) rfl (UB SF _ 0 (.inl (UB H2).fw)) (fun hHeld => ?_)
     simp only [List.replicate]
     repeat ((first | (refine tkF ?_ rfl (by kernel_rfl) (by rfl) (fun _ _ _ h => h) ?_ hHeld ?_; rotate_left; · (intro w hSw; (try dsimp only at hSw); go_simp <;> with_reducible rfl)) | refine skF rfl (by kernel_rfl) (by rfl) (fun _ _ _ h => h) hHeld ?_); simp only [Act.put, setF, List.setIfInBounds_toArray, List.set_cons_zero, List.set_cons_succ])
     refine runI 15 rfl (by kernel_rfl) (by kernel_rfl) (fun K hK => ?_)
     have HK := UC hK
     clear hK hHeld
     go_simp
     refine (UB HK).out _ _ (UB SG) (fun hHeld => ?_)
     clear HK K
     simp only [List.setIfInBounds_toArray, List.set_cons_zero, List.set_cons_succ]
     refine wpAnyH_done (by kernel_rfl) ?_ _
     clear hHeld
     clear kc kf q1 q2 q3 e2 e7 e15 e16 l2 l7 l15 l16 lk
     generalize (w6.setCell ⟨N + 1 + 1, k, none⟩ (.int .u32 (wv (X16 + A0 + X7 + A1)))).drew = w7 at *
     clear H1 H2 SF HF
     go_wp2
     exact ⟨⟨k + 1, by omega, by omega, by go_num, H3⟩, by simp [intOf]; omega⟩
    ·have HK64 := UC (show k = 64 by omega)
     have e : ¬ ((k : Int) < 64) := by omega
     have HE := H
     clear H HCELL h8 hg hc1 hc2 hk hlt hk0
     obtain ⟨CW, HCW⟩ : ∃ CW, Hid (B8 bs k = CW) := ⟨_, UC rfl⟩
     rw [UB HCW] at HE
     have hCL := UC (show CW.length = 64 by rw [← UB HCW]; exact Cu bs k)
     have ka := heap_alloc_new wr (.cells (Af (List.replicate 8 0)) 91)
     have ba := UI (w := wr) (.cells (Af (List.replicate 8 0)) 91)
     have HT := UC (Dw ka (n := (Af (l8 s)).size) (by rw [Ao, Ao]; rfl))
     have kv := Dt ka (cs := Af (l8 s)) (by rw [Ao, Ao]; rfl)
     have zq : N + 1 + 1 < wr.heap.size := VC (UB HE).fw
     have H3 := UC (((UB HE).next ba).out (UB HN) zq (Bu wr.heap.size (Af (l8 s)).toList 0 (wr.alloc (.cells (Af (List.replicate 8 0)) 91))))
     have KV := UC kv
     have ZQ := UC zq
     clear ka ba kv zq
     go_wp2_with (first
      | (refine Nb rfl 91 (.tmp 2) rfl N rfl (l8 s) (UB HE).fh Tryz.underlying91 rfl P8 ?_)
      | (refine Jb (v := .pointer (some ⟨wr.heap.size, 0, none⟩)) (w' := wr.alloc (.cells (Af (List.replicate 8 0)) 91)) rfl rfl (by kernel_rfl) ?_)
      | (refine wpList_store_mid rfl 91 (.tmp 12) (.tmp 102) rfl wr.heap.size 0 (Af (l8 s)) rfl rfl (UB HT) (sz8 s) (Ek _) ?_; generalize (wr.alloc (.cells (Af (List.replicate 8 0)) 91)).setCells wr.heap.size 0 (Af (l8 s)).toList = W3 at *; generalize wr.heap.size = q at *))
     clear HT HE e
     go_loopw [13, 14, 15, 16, 17, 18] (fun i _ _ _ _ _ wr => ∃ (k : Nat), k ≤ 64 ∧ i = .int .i64 k ∧ Hid (In7 N w wr (l8 s) CW ∧ wr.heap[q]? = some (.cells (Af (l8 (mixS bs s k))) 91))) (fun i _ _ _ _ _ _ => 64 - (intOf i).toNat)
     case atStart => exact ⟨0, Nat.zero_le _, rfl, UC ⟨UB H3, UB KV⟩⟩
     case round =>
      clear H3 KV
      obtain ⟨n, hn, rfl, H⟩ := hrel
      by_cases hlt : n < 64
      ·have lk : (n : Int) < 64 := by omega
       obtain ⟨M1, HM1⟩ : ∃ M1, Hid (mixS bs s (n + 1) = M1) := ⟨_, UC rfl⟩
       have HX := UC (show M1 = Xk (mixS bs s n) (kW.getD n 0) (CW.getD n 0) by rw [← UB HM1, ← UB HCW, UB HK64]; rfl)
       have HRD := UC (fun (w0 : World) => T4 hlt w0)
       have hCn := UC (show n < CW.length by rw [UB hCL]; exact hlt)
       generalize mixS bs s n = M at *
       generalize kW.getD n 0 = kk at *
       have HWn := UC (fun (w' : World) (hb : w'.heap[N + 1 + 1]? = some (.cells (Af CW) 111)) => Dj hb (UB hCn))
       generalize CW.getD n 0 = ww at *
       have H1 := UC ((UB H).1.next (UX (w := wr)))
       have K1 := UC (UE (UX (w := wr)) (UB H).2)
       go_wp2_with fail
       have HLT := UC hlt
       clear hlt hn
       have x1 := Fh (Bp M.e 6) (Bp M.e 11)
       have x2 := Fh (Bp M.e 6 ^^^ Bp M.e 11) (Bp M.e 25)
       refine Fi 12 (S := fun w' => w'.cell? ⟨q, 4, none⟩ = some (.int .u32 (wv M.e))) (by kernel_rfl) rfl (arr8 (UB K1)).2.2.2.2.1 (fun hHeld => ?_)
       simp only [List.replicate]
       repeat ((first | (refine tkF ?_ rfl (by kernel_rfl) (by rfl) (fun _ _ _ h => h) ?_ hHeld ?_; rotate_left; · (intro w hSw; (try dsimp only at hSw); go_simp <;> with_reducible rfl)) | refine skF rfl (by kernel_rfl) (by rfl) (fun _ _ _ h => h) hHeld ?_); simp only [Act.put, setF, List.setIfInBounds_toArray, List.set_cons_zero, List.set_cons_succ])
       refine tkI 3 ?_ rfl (by kernel_rfl) (by kernel_rfl) (fun _ _ _ h => h) ?_ hHeld ?_; rotate_left; (· (intro w hSw; (try dsimp only at hSw); go_simp <;> with_reducible rfl)); simp only [Act.put, List.setIfInBounds_toArray, List.set_cons_zero, List.set_cons_succ]
       refine tkI 4 ?_ rfl (by kernel_rfl) (by kernel_rfl) (fun _ _ _ h => h) ?_ hHeld ?_; rotate_left; (· (intro w hSw; (try dsimp only at hSw); go_simp <;> with_reducible rfl)); simp only [Act.put, List.setIfInBounds_toArray, List.set_cons_zero, List.set_cons_succ]
       refine tkI 7 ?_ rfl (by kernel_rfl) (by kernel_rfl) (fun _ _ _ h => h) ?_ hHeld ?_; rotate_left; (· (intro w hSw; (try dsimp only at hSw); go_simp <;> with_reducible rfl)); simp only [Act.put, List.setIfInBounds_toArray, List.set_cons_zero, List.set_cons_succ]
       refine tkI 8 ?_ rfl (by kernel_rfl) (by kernel_rfl) (fun _ _ _ h => h) ?_ hHeld ?_; rotate_left; (· (intro w hSw; (try dsimp only at hSw); go_simp <;> with_reducible rfl)); simp only [Act.put, List.setIfInBounds_toArray, List.set_cons_zero, List.set_cons_succ]
       refine runI 2 rfl (by kernel_rfl) (by kernel_rfl) (fun K hK => ?_)
       have HK := UC hK
       clear hK hHeld
       go_simp
       refine (Di M.e 6 (by omega) _).mono ?_
       rintro e wa6 ⟨rfl, b2⟩
       replace H1 := UC ((UB H1).next b2)
       replace K1 := UC (UE b2 (UB K1))
       clear b2
       go_simp
       refine (UB HK).out _ _ (arr8 (UB K1)).2.2.2.2.1 (fun hHeld => ?_)
       clear HK K
       simp only [List.setIfInBounds_toArray, List.set_cons_zero, List.set_cons_succ]
       repeat ((first | (refine tkF ?_ rfl (by kernel_rfl) (by rfl) (fun _ _ _ h => h) ?_ hHeld ?_; rotate_left; · (intro w hSw; (try dsimp only at hSw); go_simp <;> with_reducible rfl)) | refine skF rfl (by kernel_rfl) (by rfl) (fun _ _ _ h => h) hHeld ?_); simp only [Act.put, setF, List.setIfInBounds_toArray, List.set_cons_zero, List.set_cons_succ])
       refine runI 5 rfl (by kernel_rfl) (by kernel_rfl) (fun K hK => ?_)
       have HK := UC hK
       clear hK hHeld
       go_simp
       refine (Di M.e 11 (by omega) _).mono ?_
       rintro e wa11 ⟨rfl, b2⟩
       replace H1 := UC ((UB H1).next b2)
       replace K1 := UC (UE b2 (UB K1))
       clear b2
       go_simp
       refine (UB HK).out _ _ (arr8 (UB K1)).2.2.2.2.1 (fun hHeld => ?_)
       clear HK K
       simp only [List.setIfInBounds_toArray, List.set_cons_zero, List.set_cons_succ]
       repeat ((first | (refine tkF ?_ rfl (by kernel_rfl) (by rfl) (fun _ _ _ h => h) ?_ hHeld ?_; rotate_left; · (intro w hSw; (try dsimp only at hSw); go_simp <;> with_reducible rfl)) | refine skF rfl (by kernel_rfl) (by rfl) (fun _ _ _ h => h) hHeld ?_); simp only [Act.put, setF, List.setIfInBounds_toArray, List.set_cons_zero, List.set_cons_succ])
       refine runI 9 rfl (by kernel_rfl) (by kernel_rfl) (fun K hK => ?_)
       have HK := UC hK
       clear hK hHeld
       go_simp
       refine (Di M.e 25 (by omega) _).mono ?_
       rintro e wa25 ⟨rfl, b2⟩
       replace H1 := UC ((UB H1).next b2)
       replace K1 := UC (UE b2 (UB K1))
       clear b2
       go_simp
       refine (UB HK).out _ _ (arr8 (UB K1)).2.2.2.2.1 (fun hHeld => ?_)
       clear HK K
       simp only [List.setIfInBounds_toArray, List.set_cons_zero, List.set_cons_succ]
       repeat ((first | (refine tkF ?_ rfl (by kernel_rfl) (by rfl) (fun _ _ _ h => h) ?_ hHeld ?_; rotate_left; · (intro w hSw; (try dsimp only at hSw); go_simp <;> with_reducible rfl)) | refine skF rfl (by kernel_rfl) (by rfl) (fun _ _ _ h => h) hHeld ?_); simp only [Act.put, setF, List.setIfInBounds_toArray, List.set_cons_zero, List.set_cons_succ])
       refine wpAnyH_done (by kernel_rfl) ?_ _
       clear hHeld
       clear x1 x2
       generalize hS1 : Bp M.e 6 ^^^ Bp M.e 11 ^^^ Bp M.e 25 = S1 at *
       have HS1 := UC hS1
       clear hS1
       obtain ⟨c0, c1, c2, c3, c4, c5, c6, c7⟩ := arr8 (UB K1)
       have x1 := Nr M.e M.f
       have x2 : bits .xor .u32 IntKind.u32.max (wv M.e) = wv (~~~M.e) := wd_not M.e
       have x3 := Nr (~~~M.e) M.g
       have x4 := Fh (M.e &&& M.f) (~~~M.e &&& M.g)
       go_wp2_with fail
       clear x1 x2 x3 x4 c0 c1 c2 c3 c4 c5 c6 c7
       generalize hCH : (M.e &&& M.f) ^^^ (~~~M.e &&& M.g) = CH at *
       have HCH := UC hCH
       clear hCH
       replace H1 := UC ((UB H1).next (UX (w := wa25)))
       replace K1 := UC (UE (UX (w := wa25)) (UB K1))
       have x1 := Fk M.h S1
       have x2 := Fk (M.h + S1) CH
       have x3 := Fk (M.h + S1 + CH) kk
       have x4 := Fk (M.h + S1 + CH + kk) ww
       refine Fi 14 (S := fun w' => w'.cell? ⟨q, 7, none⟩ = some (.int .u32 (wv M.h)) ∧ w'.cell? ⟨N + 1 + 1, n, none⟩ = some (.int .u32 (wv ww))) (by kernel_rfl) rfl ⟨(arr8 (UB K1)).2.2.2.2.2.2.2, UB HWn _ (UB H1).fw⟩ (fun hHeld => ?_)
       simp only [List.replicate]
       repeat ((first | (refine tkF ?_ rfl (by kernel_rfl) (by rfl) (fun _ _ _ h => h) ?_ hHeld ?_; rotate_left; · (intro w hSw; (try dsimp only at hSw); go_simp <;> with_reducible rfl)) | refine skF rfl (by kernel_rfl) (by rfl) (fun _ _ _ h => h) hHeld ?_); simp only [Act.put, setF, List.setIfInBounds_toArray, List.set_cons_zero, List.set_cons_succ])
       refine tkI 9 ?_ rfl (by kernel_rfl) (by kernel_rfl) (fun _ _ _ h => h) ?_ hHeld ?_; rotate_left; (· (intro w hSw; (try dsimp only at hSw); go_simp <;> with_reducible rfl)); simp only [Act.put, List.setIfInBounds_toArray, List.set_cons_zero, List.set_cons_succ]
       refine tkI 10 ?_ rfl (by kernel_rfl) (by kernel_rfl) (fun _ _ _ h => h) ?_ hHeld ?_; rotate_left; (· (intro w hSw; (try dsimp only at hSw); go_simp <;> with_reducible rfl)); simp only [Act.put, List.setIfInBounds_toArray, List.set_cons_zero, List.set_cons_succ]
       refine tkI 11 ?_ rfl (by kernel_rfl) (by kernel_rfl) (fun _ _ _ h => h) ?_ hHeld ?_; rotate_left; (· (intro w hSw; (try dsimp only at hSw); go_simp <;> with_reducible rfl)); simp only [Act.put, List.setIfInBounds_toArray, List.set_cons_zero, List.set_cons_succ]
       refine runI 7 rfl (by kernel_rfl) (by kernel_rfl) (fun K hK => ?_)
       have HK := UC hK
       clear hK hHeld
       go_simp
       refine (UB HRD _).mono ?_
       rintro e wb ⟨rfl, b2⟩
       replace H1 := UC ((UB H1).next b2)
       replace K1 := UC (UE b2 (UB K1))
       clear b2
       go_simp
       refine (UB HK).out _ _ ⟨(arr8 (UB K1)).2.2.2.2.2.2.2, UB HWn _ (UB H1).fw⟩ (fun hHeld => ?_)
       clear HK K
       simp only [List.setIfInBounds_toArray, List.set_cons_zero, List.set_cons_succ]
       repeat ((first | (refine tkF ?_ rfl (by kernel_rfl) (by rfl) (fun _ _ _ h => h) ?_ hHeld ?_; rotate_left; · (intro w hSw; (try dsimp only at hSw); go_simp <;> with_reducible rfl)) | refine skF rfl (by kernel_rfl) (by rfl) (fun _ _ _ h => h) hHeld ?_); simp only [Act.put, setF, List.setIfInBounds_toArray, List.set_cons_zero, List.set_cons_succ])
       refine wpAnyH_done (by kernel_rfl) ?_ _
       clear hHeld
       clear x1 x2 x3 x4
       generalize hT : M.h + S1 + CH + kk + ww = T at *
       have HT := UC hT
       clear hT
       go_wp2_with fail
       replace H1 := UC ((UB H1).next (UX (w := wb)))
       replace K1 := UC (UE (UX (w := wb)) (UB K1))
       have x1 := Fh (Bp M.a 2) (Bp M.a 13)
       have x2 := Fh (Bp M.a 2 ^^^ Bp M.a 13) (Bp M.a 22)
       refine Fi 12 (S := fun w' => w'.cell? ⟨q, 0, none⟩ = some (.int .u32 (wv M.a))) (by kernel_rfl) rfl (arr8 (UB K1)).1 (fun hHeld => ?_)
       simp only [List.replicate]
       repeat ((first | (refine tkF ?_ rfl (by kernel_rfl) (by rfl) (fun _ _ _ h => h) ?_ hHeld ?_; rotate_left; · (intro w hSw; (try dsimp only at hSw); go_simp <;> with_reducible rfl)) | refine skF rfl (by kernel_rfl) (by rfl) (fun _ _ _ h => h) hHeld ?_); simp only [Act.put, setF, List.setIfInBounds_toArray, List.set_cons_zero, List.set_cons_succ])
       refine tkI 3 ?_ rfl (by kernel_rfl) (by kernel_rfl) (fun _ _ _ h => h) ?_ hHeld ?_; rotate_left; (· (intro w hSw; (try dsimp only at hSw); go_simp <;> with_reducible rfl)); simp only [Act.put, List.setIfInBounds_toArray, List.set_cons_zero, List.set_cons_succ]
       refine tkI 4 ?_ rfl (by kernel_rfl) (by kernel_rfl) (fun _ _ _ h => h) ?_ hHeld ?_; rotate_left; (· (intro w hSw; (try dsimp only at hSw); go_simp <;> with_reducible rfl)); simp only [Act.put, List.setIfInBounds_toArray, List.set_cons_zero, List.set_cons_succ]
       refine tkI 7 ?_ rfl (by kernel_rfl) (by kernel_rfl) (fun _ _ _ h => h) ?_ hHeld ?_; rotate_left; (· (intro w hSw; (try dsimp only at hSw); go_simp <;> with_reducible rfl)); simp only [Act.put, List.setIfInBounds_toArray, List.set_cons_zero, List.set_cons_succ]
       refine tkI 8 ?_ rfl (by kernel_rfl) (by kernel_rfl) (fun _ _ _ h => h) ?_ hHeld ?_; rotate_left; (· (intro w hSw; (try dsimp only at hSw); go_simp <;> with_reducible rfl)); simp only [Act.put, List.setIfInBounds_toArray, List.set_cons_zero, List.set_cons_succ]
       refine runI 2 rfl (by kernel_rfl) (by kernel_rfl) (fun K hK => ?_)
       have HK := UC hK
       clear hK hHeld
       go_simp
       refine (Di M.a 2 (by omega) _).mono ?_
       rintro e wc2 ⟨rfl, b2⟩
       replace H1 := UC ((UB H1).next b2)
       replace K1 := UC (UE b2 (UB K1))
       clear b2
       go_simp
       refine (UB HK).out _ _ (arr8 (UB K1)).1 (fun hHeld => ?_)
       clear HK K
       simp only [List.setIfInBounds_toArray, List.set_cons_zero, List.set_cons_succ]
       repeat ((first | (refine tkF ?_ rfl (by kernel_rfl) (by rfl) (fun _ _ _ h => h) ?_ hHeld ?_; rotate_left; · (intro w hSw; (try dsimp only at hSw); go_simp <;> with_reducible rfl)) | refine skF rfl (by kernel_rfl) (by rfl) (fun _ _ _ h => h) hHeld ?_); simp only [Act.put, setF, List.setIfInBounds_toArray, List.set_cons_zero, List.set_cons_succ])
       refine runI 5 rfl (by kernel_rfl) (by kernel_rfl) (fun K hK => ?_)
       have HK := UC hK
       clear hK hHeld
       go_simp
       refine (Di M.a 13 (by omega) _).mono ?_
       rintro e wc13 ⟨rfl, b2⟩
       replace H1 := UC ((UB H1).next b2)
       replace K1 := UC (UE b2 (UB K1))
       clear b2
       go_simp
       refine (UB HK).out _ _ (arr8 (UB K1)).1 (fun hHeld => ?_)
       clear HK K
       simp only [List.setIfInBounds_toArray, List.set_cons_zero, List.set_cons_succ]
       repeat ((first | (refine tkF ?_ rfl (by kernel_rfl) (by rfl) (fun _ _ _ h => h) ?_ hHeld ?_; rotate_left; · (intro w hSw; (try dsimp only at hSw); go_simp <;> with_reducible rfl)) | refine skF rfl (by kernel_rfl) (by rfl) (fun _ _ _ h => h) hHeld ?_); simp only [Act.put, setF, List.setIfInBounds_toArray, List.set_cons_zero, List.set_cons_succ])
       refine runI 9 rfl (by kernel_rfl) (by kernel_rfl) (fun K hK => ?_)
       have HK := UC hK
       clear hK hHeld
       go_simp
       refine (Di M.a 22 (by omega) _).mono ?_
       rintro e wc22 ⟨rfl, b2⟩
       replace H1 := UC ((UB H1).next b2)
       replace K1 := UC (UE b2 (UB K1))
       clear b2
       go_simp
       refine (UB HK).out _ _ (arr8 (UB K1)).1 (fun hHeld => ?_)
       clear HK K
       simp only [List.setIfInBounds_toArray, List.set_cons_zero, List.set_cons_succ]
       repeat ((first | (refine tkF ?_ rfl (by kernel_rfl) (by rfl) (fun _ _ _ h => h) ?_ hHeld ?_; rotate_left; · (intro w hSw; (try dsimp only at hSw); go_simp <;> with_reducible rfl)) | refine skF rfl (by kernel_rfl) (by rfl) (fun _ _ _ h => h) hHeld ?_); simp only [Act.put, setF, List.setIfInBounds_toArray, List.set_cons_zero, List.set_cons_succ])
       refine wpAnyH_done (by kernel_rfl) ?_ _
       clear hHeld
       clear x1 x2
       generalize hR : Bp M.a 2 ^^^ Bp M.a 13 ^^^ Bp M.a 22 = R at *
       have HR := UC hR
       clear hR
       obtain ⟨c0, c1, c2, c3, c4, c5, c6, c7⟩ := arr8 (UB K1)
       have x1 := Nr M.a M.b
       have x2 := Nr M.a M.c
       have x3 := Fh (M.a &&& M.b) (M.a &&& M.c)
       have x4 := Nr M.b M.c
       have x5 := Fh (M.a &&& M.b ^^^ M.a &&& M.c) (M.b &&& M.c)
       have x6 := Fk T R
       have x7 := Fk (T + R) (M.a &&& M.b ^^^ M.a &&& M.c ^^^ M.b &&& M.c)
       have x8 := Fk M.d T
       have KQ := UC (Dw (UB K1) (n := (Af (l8 ⟨T + R + (M.a &&& M.b ^^^ M.a &&& M.c ^^^ M.b &&& M.c), M.a, M.b, M.c, M.d + T, M.e, M.f, M.g⟩)).size) (by rw [Ao, Ao]; rfl))
       have KW := UC (Dt (UB K1) (cs := Af (l8 ⟨T + R + (M.a &&& M.b ^^^ M.a &&& M.c ^^^ M.b &&& M.c), M.a, M.b, M.c, M.d + T, M.e, M.f, M.g⟩)) (by rw [Ao, Ao]; rfl))
       have H4 := UC ((UB H1).out (UB HN) (UB ZQ) (Bu q (Af (l8 ⟨T + R + (M.a &&& M.b ^^^ M.a &&& M.c ^^^ M.b &&& M.c), M.a, M.b, M.c, M.d + T, M.e, M.f, M.g⟩)).toList 0 wc22))
       go_wp2_with (first
        | (refine Nd (v := .agg (Af (l8 ⟨T + R + (M.a &&& M.b ^^^ M.a &&& M.c ^^^ M.b &&& M.c), M.a, M.b, M.c, M.d + T, M.e, M.f, M.g⟩))) (w' := wc22) rfl rfl (by kernel_rfl) ?_)
        | (refine wpList_store_mid rfl 91 (.tmp 12) (.tmp 192) rfl q 0 (Af (l8 ⟨T + R + (M.a &&& M.b ^^^ M.a &&& M.c ^^^ M.b &&& M.c), M.a, M.b, M.c, M.d + T, M.e, M.f, M.g⟩)) rfl rfl (UB KQ) (sz8 _) (Ek _) ?_; generalize wc22.setCells q 0 (Af (l8 ⟨T + R + (M.a &&& M.b ^^^ M.a &&& M.c ^^^ M.b &&& M.c), M.a, M.b, M.c, M.d + T, M.e, M.f, M.g⟩)).toList = W4 at *))
       have hM1 : (⟨T + R + (M.a &&& M.b ^^^ M.a &&& M.c ^^^ M.b &&& M.c), M.a, M.b, M.c, M.d + T, M.e, M.f, M.g⟩ : S8) = M1 := by
        rw [UB HX, ← UB HT, ← UB HR, ← UB HS1, ← UB HCH]
        rfl
       rw [hM1, ← UB HM1] at KW
       have hlt := UB HLT
       exact ⟨⟨n + 1, by omega, by go_num, UC ⟨UB H4, UB KW⟩⟩, by simp [intOf]; omega⟩
      ·have HM := UC (show Mz s bs = addS s (mixS bs s n) by rw [show n = 64 by omega]; rfl)
       have e : ¬ ((n : Int) < 64) := by omega
       generalize mixS bs s n = M at *
       clear hlt hn
       go_wp2_with fail
       clear e
       go_loopw [19] (fun i wr => ∃ (k : Nat), k ≤ 8 ∧ i = .int .i64 k ∧ Hid (In7 N w wr (Gj (l8 s) (l8 M) k) CW ∧ wr.heap[q]? = some (.cells (Af (l8 M)) 91))) (fun i _ => 8 - (intOf i).toNat)
       case atStart => exact ⟨0, Nat.zero_le _, rfl, by rw [T3]; exact H⟩
       case round =>
        clear H
        obtain ⟨p, hp, rfl, H⟩ := hrel
        by_cases hlt : p < 8
        ·have lp : (p : Int) < 8 := by omega
         have HLT := UC hlt
         have H1 := UC ((UB H).1.next (UX (w := wr)))
         have K1 := UC (UE (UX (w := wr)) (UB H).2)
         have cx := Dj (UB H1).fh (i := p) (by rw [Jk]; exact hlt)
         rw [Xn _ _ hlt] at cx
         have cy := Dj (UB K1) (i := p) hlt
         have fx := VG (UB H1).fh p
         have HS := UC (Wg (l8 s) (l8 M) hlt)
         have CY2 := UC (fun (z : Value) => Dj (UE (UX (w := wr.setCell ⟨N, p, none⟩ z)) ((UT wr N p z).kept (UB H).2 (by have := UB ZQ; omega))) (i := p) hlt)
         generalize (l8 s).getD p 0 = x at *
         generalize (l8 M).getD p 0 = y at *
         have x1 := Fk x y
         have H2 := UC (((UB H).1.setH (UB HN) p (x + y)).next (UX (w := wr.setCell ⟨N, p, none⟩ (.int .u32 (wv (x + y))))))
         have K2 := UC (UE (UX (w := wr.setCell ⟨N, p, none⟩ (.int .u32 (wv (x + y))))) ((UT wr N p (.int .u32 (wv (x + y)))).kept (UB H).2 (by have := UB ZQ; omega)))
         rw [UB HS] at H2
         have CY := UC cy
         clear hlt hp cy
         go_wp2_with fail
         refine Fi 10 (S := fun w' => w'.cell? ⟨q, p, none⟩ = some (.int .u32 (wv y))) (by kernel_rfl) rfl (UB CY) (fun hHeld => ?_)
         simp only [List.replicate]
         repeat ((first | (refine tkF ?_ rfl (by kernel_rfl) (by rfl) (fun _ _ _ h => h) ?_ hHeld ?_; rotate_left; · (intro w hSw; (try dsimp only at hSw); go_simp <;> with_reducible rfl)) | refine skF rfl (by kernel_rfl) (by rfl) (fun _ _ _ h => h) hHeld ?_); simp only [Act.put, setF, List.setIfInBounds_toArray, List.set_cons_zero, List.set_cons_succ])
         refine tkI 4 ?_ rfl (by kernel_rfl) (by kernel_rfl) (fun _ _ _ h => h) ?_ hHeld ?_; rotate_left; (· (intro w hSw; (try dsimp only at hSw); go_simp <;> with_reducible rfl)); simp only [Act.put, List.setIfInBounds_toArray, List.set_cons_zero, List.set_cons_succ]
         refine tkI 5 ?_ rfl (by kernel_rfl) (by kernel_rfl) (fun _ _ _ h => h) ?_ hHeld ?_; rotate_left; (· (intro w hSw; (try dsimp only at hSw); go_simp <;> with_reducible rfl)); simp only [Act.put, List.setIfInBounds_toArray, List.set_cons_zero, List.set_cons_succ]
         refine tkI 6 ?_ rfl (by kernel_rfl) (by kernel_rfl) (fun _ _ _ h => h) ?_ hHeld ?_; rotate_left; (· (intro w hSw; (try dsimp only at hSw); go_simp <;> with_reducible rfl)); simp only [Act.put, List.setIfInBounds_toArray, List.set_cons_zero, List.set_cons_succ]
         refine runI 3 rfl (by kernel_rfl) (by kernel_rfl) (fun K hK => ?_)
         have HK := UC hK
         clear hK hHeld
         go_simp
         refine (UB HK).out _ _ (UB CY) (fun hHeld => ?_)
         clear HK K
         simp only [List.setIfInBounds_toArray, List.set_cons_zero, List.set_cons_succ]
         refine tkI 7 ?_ rfl (by kernel_rfl) (by kernel_rfl) (fun _ _ _ h => h) ?_ hHeld ?_; rotate_left; (· (intro w hSw; (try dsimp only at hSw); go_simp <;> with_reducible rfl)); simp only [Act.put, List.setIfInBounds_toArray, List.set_cons_zero, List.set_cons_succ]
         refine tkI 8 ?_ rfl (by kernel_rfl) (by kernel_rfl) (fun _ _ _ h => h) ?_ hHeld ?_; rotate_left; (· (intro w hSw; (try dsimp only at hSw); go_simp <;> with_reducible rfl)); simp only [Act.put, List.setIfInBounds_toArray, List.set_cons_zero, List.set_cons_succ]
         refine runI 9 rfl (by kernel_rfl) (by kernel_rfl) (fun K hK => ?_)
         have HK := UC hK
         clear hK hHeld
         go_simp
         refine (UB HK).out _ _ (UB CY2 _) (fun hHeld => ?_)
         clear HK K
         simp only [List.setIfInBounds_toArray, List.set_cons_zero, List.set_cons_succ]
         refine wpAnyH_done (by kernel_rfl) ?_ _
         clear hHeld
         generalize (wr.setCell ⟨N, p, none⟩ (.int .u32 (wv (x + y)))).drew = w9 at *
         clear cx fx x1 CY CY2 H1 K1
         have hlt := UB HLT
         go_wp2
         exact ⟨⟨p + 1, by omega, by go_num, UC ⟨UB H2, UB K2⟩⟩, by simp [intOf]; omega⟩
        ·have HE : Hid (In7 N w wr (l8 (addS s M)) CW) := by
          have h1 := (UB H).1
          rw [show p = 8 by omega, Vr] at h1
          exact UC h1
         have e : ¬ ((p : Int) < 8) := by omega
         have KR := UC (Dw (UB HE).fr (n := (Af (l8 (addS s M))).size) (by rw [Ao, Ao]; rfl))
         have KS := Dt (UB HE).fr (cs := Af (l8 (addS s M))) (by rw [Ao, Ao]; rfl)
         have BS := UC ((Bu (N + 1) (Af (l8 (addS s M))).toList 0 wr).below (UB HE).fb (by have := UB HN; omega))
         have HKS := UC KS
         clear H hlt hp KS
         go_wp2_with (first
          | (refine Nb rfl 91 (.tmp 2) rfl N rfl (l8 (addS s M)) (UB HE).fh Tryz.underlying91 rfl P8 ?_)
          | (refine wpList_store_mid rfl 91 (.tmp 4) (.tmp 206) rfl (N + 1) 0 (Af (l8 (addS s M))) rfl rfl (UB KR) (sz8 _) (Ek _) ?_; generalize wr.setCells (N + 1) 0 (Af (l8 (addS s M))).toList = W9 at *))
         refine bodyPost_ret (results_cell_row rfl _ _ (N + 1) 91 (Af (l8 (addS s M))) (0, 0) _ rfl (UB HKS) Tryz.underlying91 rfl (by kernel_rfl)) rfl ?_
         rw [UB HM]
         exact ⟨rfl, by have := UB BS; rwa [UB HN] at this⟩
end Go.Proofs.YtfneahdnpmamkaaGreat
