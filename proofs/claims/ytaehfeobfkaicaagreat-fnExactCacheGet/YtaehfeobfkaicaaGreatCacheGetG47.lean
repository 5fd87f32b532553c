/-
  The walk of laws.FnExactCacheGet.
-/
import Derived.Test.YtaehfeobfkaicaaGreatCacheGetG10
import Derived.Test.YtaehfeobfkaicaaGreatCacheGetG32
import Derived.Test.YtaehfeobfkaicaaGreatCacheGetG43
import Derived.Test.YtaehfeobfkaicaaGreatCacheGetG45
import Derived.Test.YtaehfeobfkaicaaGreatCacheGetG46
import Derived.Test.YtaehfeobfkaicaaGreatCacheGetG44
import Derived.Test.YtaehfeobfkaicaaGreatCacheGetG09
import Derived.Test.YtaehfeobfkaicaaGreatCacheGetG02
import Derived.Test.YtaehfeobfkaicaaGreatCacheGetG24
import Derived.Test.YtaehfeobfkaicaaGreatCacheGetG26
import Derived.Deep.RegionHeld3
import Derived.Deep.RegionWith
namespace Go.Proofs.YtaehfeobfkaicaaGreat
open Go.RowKit
set_option linter.unusedVariables false

theorem keep_three {w : World} {g Z : Nat} {ob : Obj} {u v x : Value} (h : w.heap[g]? = some ob) (hne : g ≠ Z) : (((w.setCell ⟨Z, 0, none⟩ u).setCell ⟨Z, 1, none⟩ v).setCell ⟨Z, 2, none⟩ x).heap[g]? = some ob :=
 block_grown (grown_setCell _ ⟨Z, 2, none⟩ x) (block_grown (grown_setCell _ ⟨Z, 1, none⟩ v) (block_grown (grown_setCell w ⟨Z, 0, none⟩ u) h (fun e => hne (by simpa using e.symm))) (fun e => hne (by simpa using e.symm))) (fun e => hne (by simpa using e.symm))
theorem totR_shortG {l : List Slt} (h : ∀ j, j < l.length → ShortS (l.getD j VK)) : ∀ k, k ≤ l.length → totR l k ≤ k * 12
 | 0, _ => by simp [totR]
 | k + 1, hk => by
  have h1 := totR_shortG h k (by omega)
  have h2 := (h k (by omega)).2.1
  unfold totR
  omega
theorem getC_short (c : Ca) (n : List (List Int)) (t : Int) : (getC c n t).slots.length ≤ 8 ∧ ∀ j, j < (getC c n t).slots.length → ShortS ((getC c n t).slots.getD j VK) := by
 cases hg : getOk c n t with
 | false => rw [(getC_bad hg).1]; exact ⟨by simp, fun j hj => absurd hj (by simp)⟩
 | true =>
  have hok : cacheOk c = true := by unfold getOk at hg; simp only [Bool.and_eq_true] at hg; exact hg.1
  obtain ⟨h8, hs⟩ := cacheOk_short hok
  cases hf : findS n t c.slots with
  | none => rw [(getC_none hg hf).1]; exact ⟨h8, hs⟩
  | some i => rw [(getC_some hg hf).1]; exact ⟨by rw [List.length_set]; exact h8, set_short (findS_at hf).1 hs⟩
theorem getL_short (c : Ca) (n : List (List Int)) (t : Int) : (getL c n t).length ≤ 12 ∧ ∀ j, j < (getL c n t).length → SizeR 1048576 ((getL c n t).getD j recZ) := by
 cases hg : getOk c n t with
 | false => rw [(getC_bad hg).2.1]; exact ⟨by simp, fun j hj => absurd hj (by simp)⟩
 | true =>
  have hok : cacheOk c = true := by unfold getOk at hg; simp only [Bool.and_eq_true] at hg; exact hg.1
  obtain ⟨h8, hs⟩ := cacheOk_short hok
  cases hf : findS n t c.slots with
  | none => rw [(getC_none hg hf).2.1]; exact ⟨by simp, fun j hj => absurd hj (by simp)⟩
  | some i =>
   rw [(getC_some hg hf).2.1]
   have h1 := hs i (findS_at hf).1
   have h2 := h1.size
   refine ⟨by rw [agedK_length]; exact h1.2.1, fun j hj => ?_⟩
   rw [agedK_length] at hj
   rw [agedK_getD _ _ _ _ hj, if_pos hj]
   have h3 := h2.rrss j hj
   unfold agedR
   split
   ·exact ⟨h3.name, h3.names, h3.to, h3.tos, h3.text, h3.nums⟩
   ·exact h3
set_option maxHeartbeats 8000000 in
set_option maxRecDepth 100000 in
theorem lawCacheGet (a : Option Addr) (k : Nat) (c : Ca) (a1 : Option Addr) (cap1 : Nat) (n : List (List Int)) (t : Int) (w : World) (h : LiesSs w a c.slots) (hm : SizeCa maxLen c) (h1 : LiesL w a1 n) (hm1 : n.length ≤ maxLen) (hmm1 : ∀ i, i < n.length → (n.getD i []).length ≤ maxLen) :
  Calls Tryz.prog 5 #[.agg #[.int .i64 c.now, .int .i64 c.turn, .slice a c.slots.length k], .agg #[.slice a1 n.length cap1], .int .i64 t] w fun e w' => e = .returned (.bool true) ∧ Below w.heap.size w w' := by
 have bb := UI (w := w) (.cells #[.int .i64 c.now, .int .i64 c.turn, .slice a c.slots.length k] 24)
 have K0 := heap_alloc_new w (.cells #[.int .i64 c.now, .int .i64 c.turn, .slice a c.slots.length k] 24)
 have e1 : (w.alloc (.cells #[.int .i64 c.now, .int .i64 c.turn, .slice a c.slots.length k] 24)).heap.size = w.heap.size + 1 := by show (w.heap.push _).size = _; simp
 have b2 := UI (w := w.alloc (.cells #[.int .i64 c.now, .int .i64 c.turn, .slice a c.slots.length k] 24)) (.cells #[.slice a1 n.length cap1] 43)
 have KM := heap_alloc_new (w.alloc (.cells #[.int .i64 c.now, .int .i64 c.turn, .slice a c.slots.length k] 24)) (.cells #[.slice a1 n.length cap1] 43)
 replace K0 := UC (UE b2 K0)
 rw [e1] at KM
 replace KM := UC KM
 replace bb := UG bb b2
 have L0 := UC h
 have L1 := UC h1
 have HM := UC hm
 have HM1 := UC hmm1
 clear h hm h1 hmm1 b2 e1
 go_enter Tryz.func5, Tryz.ntmps5
 obtain ⟨dK00, dK01, dK02⟩ := UL (UB K0)
 have dKM := US (UB KM)
 go_wp2_with fail
 clear dK00 dK01 dK02
 clear dKM
 generalize (w.alloc (.cells #[.int .i64 c.now, .int .i64 c.turn, .slice a c.slots.length k] 24)).alloc (.cells #[.slice a1 n.length cap1] 43) = W at *
 have zk0 := VC (UB K0)
 have zkm := VC (UB KM)
 refine (szCache_tot a k c 1048576 _ (lowSs (UB L0) bb) (UB HM) (by omega) (by omega)).mono ?_
 rintro e w0 ⟨⟨y, rfl, hr0, hr1, hr2⟩, b0⟩
 replace bb := UG bb b0
 replace K0 := UC (UE b0 (UB K0))
 replace KM := UC (UE b0 (UB KM))
 have zb0 := b0.size
 clear b0
 by_cases hneg : y < 0
 ·clear hr2
  go_wp2_with fail
  go_ret
  exact ⟨rfl, bb⟩
 obtain ⟨htot, hsz⟩ := hr2 (by omega)
 have HS := UC (hsz.mono (m' := 1048576) (by omega))
 have HSS := UC ((UB HS).mono (m' := 2097152) (by omega))
 have HTOT := UC (show c.slots.length + totR c.slots c.slots.length ≤ 1048576 by omega)
 clear hr2 HM hsz htot
 obtain ⟨dK00, dK01, dK02⟩ := UL (UB K0)
 have dKM := US (UB KM)
 go_wp2_with fail
 clear dK00 dK01 dK02
 clear dKM
 refine (szName_any a1 cap1 n y _ ((UB L1).below bb) hm1 (UB HM1) (by omega) (by omega)).mono ?_
 rintro e w1 ⟨⟨y1, rfl, hr01, hr11, hr21⟩, bw1⟩
 replace bb := UG bb bw1
 replace K0 := UC (UE bw1 (UB K0))
 replace KM := UC (UE bw1 (UB KM))
 have zbw1 := bw1.size
 clear bw1
 by_cases hneg1 : y1 < 0
 ·clear hr21
  go_wp2_with fail
  go_ret
  exact ⟨rfl, bb⟩
 obtain ⟨hn1, hn2⟩ := hr21 (by omega)
 have hl1 : n.length ≤ 1048576 := by omega
 have HL1 := UC (show ∀ i, i < n.length → (n.getD i []).length ≤ 1048576 from fun i hi => by have := hn2 i hi; omega)
 have HLL1 := UC (show ∀ i, i < n.length → (n.getD i []).length ≤ 2097152 from fun i hi => by have := hn2 i hi; omega)
 clear hr21 hn1 hn2 hm1 HM1
 obtain ⟨T, G, tn, SP, IM, hT8, hTS, hG12, hGS⟩ : ∃ (T : Ca) (G : List Rec) (tn : Int), (∀ (w : World) (v vn : Value), HasSs w v c.slots → HasL w vn n → Calls Tryz.prog 23 #[.agg #[.int .i64 c.now, .int .i64 c.turn, v], .agg #[vn], .int .i64 t] w fun e w' => ∃ v' u B1, e = .returned (.tuple #[.agg #[.int .i64 T.now, .int .i64 T.turn, v'], u, .int .i64 tn]) ∧ RowX 7 (OwnSQ 67 56 5 3) VK w.heap.size w'.heap.size 71 w' v' T.slots ∧ w.heap.size ≤ B1 ∧ RowQ B1 67 56 5 3 w' u G ∧ Below w.heap.size w w') ∧ (∀ (w : World) (v vn : Value), HasSs w v c.slots → HasL w vn n → Calls Tryz.prog 24 #[.agg #[.int .i64 c.now, .int .i64 c.turn, v], .agg #[vn], .int .i64 t] w fun e w' => ∃ v' u s, e = .returned (.tuple #[.agg #[.int .i64 T.now, .int .i64 T.turn, v'], u, .int .i64 tn]) ∧ w.heap.size ≤ s ∧ s ≤ w'.heap.size ∧ RowX 7 (OwnSl 67 56 5 3) VK w.heap.size s 71 w' v' T.slots ∧ RowO s w'.heap.size 67 56 5 3 w' u G ∧ Below w.heap.size w w') ∧ T.slots.length ≤ 8 ∧ (∀ j, j < T.slots.length → ShortS (T.slots.getD j VK)) ∧ G.length ≤ 12 ∧ (∀ j, j < G.length → SizeR 1048576 (G.getD j recZ)) :=
  ⟨getC c n t, getL c n t, getK c n t, fun w v vn h hn => specCacheGet_own h hn (UB HS), fun w v vn h hn => implCacheGet_own h hn, (getC_short c n t).1, (getC_short c n t).2, (getL_short c n t).1, (getL_short c n t).2⟩
 have HT1 := UC (show SizeCa 1048576 T from ⟨by omega, fun i hi => (hTS i hi).size⟩)
 have HT2 := UC ((UB HT1).mono (m' := 2097152) (by omega))
 have HTT := UC (show T.slots.length + totR T.slots T.slots.length ≤ 1048576 by have := totR_shortG hTS T.slots.length (Nat.le_refl _); omega)
 have HG1 := UC hGS
 have HG2 := UC (fun i (hi : i < G.length) => (hGS i hi).mono (m' := 2097152) (by omega))
 have hgl : G.length ≤ 1048576 := by omega
 have hgg : (tn != tn) = false := by simp
 have hpc := posSs_bound (UB HS).each 1 c.slots.length (Nat.le_refl _)
 have htt := UB HTOT
 have MKC := fun (B E : Nat) (v : Value) (w : World) (h3 : E ≤ w.heap.size) (h : RowX 7 (OwnSl 67 56 5 3) VK B E 71 w v c.slots) => markCache_own (UB HS).each (UB HTOT) 1 (by omega) (by omega) c.now c.turn h3 h
 generalize posSs c.slots 1 c.slots.length = PC at *
 have hPC : 0 ≤ PC ∧ PC ≤ 3000000000000000000 := by omega
 have hpn := pos_bound' n PC hl1 (UB HL1)
 have MKN := fun (B E : Nat) (v : Value) (w : World) (h : OwnN B E 56 5 w v n) => markName_any PC h hl1 (UB HL1) (by omega) (by omega)
 generalize pos n PC n.length = PN at *
 have hPNn : ¬ PN < 0 := by omega
 have hpg := posSs_bound (UB HT1).each 1 T.slots.length (Nat.le_refl _)
 have htt2 := UB HTT
 have MKG := fun (B E : Nat) (v : Value) (w : World) (h3 : E ≤ w.heap.size) (h : RowX 7 (OwnSl 67 56 5 3) VK B E 71 w v T.slots) => markCache_own (UB HT1).each (UB HTT) 1 (by omega) (by omega) T.now T.turn h3 h
 have HDC := fun (v : Value) (w : World) (h : HasSs w v (markSs T.slots 1 T.slots.length)) => heldCache_has (UB HT1).each (UB HTT) 1 (by omega) (by omega) T.now T.turn h
 have hml : (markSs T.slots 1 T.slots.length).length = T.slots.length := markSs_length _ _ _
 generalize posSs T.slots 1 T.slots.length = PG at *
 generalize markSs T.slots 1 T.slots.length = MT at *
 have hPG : 0 ≤ PG ∧ PG ≤ 3000000000000000000 := by omega
 have hPGn : ¬ PG < 0 := by omega
 have hpm := posRs_bound' (UB HG1) hgl PG
 have MKR := fun (B E : Nat) (v : Value) (w : World) (h3 : E ≤ w.heap.size) (h : RowO B E 67 56 5 3 w v G) => markRrS_own (UB HG1) hgl PG (by omega) (by omega) h3 h
 have HDR := fun (v : Value) (w : World) (h : HasRs w v (markRs G PG G.length)) => heldRrS_has (UB HG1) hgl PG (by omega) (by omega) h
 have hmr : (markRs G PG G.length).length = G.length := markRs_length _ _ _
 generalize posRs G PG G.length = PM at *
 generalize markRs G PG G.length = MTR at *
 have hPMn : ¬ PM < 0 := by omega
 have hpp : (PM != PM) = false := by simp
 clear hTS hGS hT8 hG12 hpc htt hpg htt2
 replace SP := UC SP
 replace IM := UC IM
 replace MKC := UC MKC
 replace MKN := UC MKN
 replace MKG := UC MKG
 replace HDC := UC HDC
 replace MKR := UC MKR
 replace HDR := UC HDR
 obtain ⟨dK00, dK01, dK02⟩ := UL (UB K0)
 have dKM := US (UB KM)
 go_upto_region 8 with fail
 clear dK00 dK01 dK02
 clear dKM
 go_cut [8, 9, 10] from 22 (fun b l q wx => ∃ (A : Nat) (sx : Option Addr) (sy : Nat) (su : Option Addr) (sz : Nat), b = .pointer (some ⟨A, 0, none⟩) ∧ l = .slice su G.length sz ∧ q = .int .i64 tn ∧ w1.heap.size ≤ A ∧ wx.heap[A]? = some (.cells #[.int .i64 T.now, .int .i64 T.turn, .slice sx T.slots.length sy] 30) ∧ HasSs wx (.slice sx T.slots.length sy) T.slots ∧ HasRs wx (.slice su G.length sz) G ∧ Below w1.heap.size w1 wx)
 case first =>
  have bd := UX (w := w1)
  have zD : w1.drew.heap.size = w1.heap.size := rfl
  replace bb := UG bb bd
  replace K0 := UC (UE bd (UB K0))
  replace KM := UC (UE bd (UB KM))
  obtain ⟨dK00, dK01, dK02⟩ := UL (UB K0)
  have dKM := US (UB KM)
  try go_wp2_with fail
  clear dK00 dK01 dK02
  clear dKM
  go_region_held3 (fun w' => (w'.cell? ⟨w.heap.size, 0, none⟩ = some (.int .i64 c.now) ∧ w'.cell? ⟨w.heap.size, 1, none⟩ = some (.int .i64 c.turn) ∧ w'.cell? ⟨w.heap.size, 2, none⟩ = some (.slice a c.slots.length k)) ∧ (w'.cell? ⟨(w.heap.size + 1), 0, none⟩ = some (.slice a1 n.length cap1)))
   (first | exact ⟨UL (UB K0), US (UB KM)⟩ | exact ⟨UL (UE (UI _) (UB K0)), US (UE (UI _) (UB KM))⟩ | exact ⟨UL (UE qA (UB K0)), US (UE qA (UB KM))⟩ | exact ⟨UL (UE (UG qA (UI _)) (UB K0)), US (UE (UG qA (UI _)) (UB KM))⟩ | exact ⟨UL (UE qB (UB K0)), US (UE qB (UB KM))⟩ | exact ⟨UL (UE (UG qB (UI _)) (UB K0)), US (UE (UG qB (UI _)) (UB KM))⟩ | exact ⟨UL (UE qC (UB K0)), US (UE qC (UB KM))⟩ | exact ⟨UL (UE (UG qC (UI _)) (UB K0)), US (UE (UG qC (UI _)) (UB KM))⟩ | exact ⟨UL (keep_three (UE qC (UB K0)) (by omega)), US (keep_three (UE qC (UB KM)) (by omega))⟩ | exact ⟨UL (keep_three (UE (UG qC (UI _)) (UB K0)) (by omega)), US (keep_three (UE (UG qC (UI _)) (UB KM)) (by omega))⟩)
   (first
   | (go_at_call_of 9 (Value.slice a c.slots.length k); refine (toCache_own a k c _ (lowSs (UB L0) (by first | exact bb | exact UG bb (UI _))) (UB HS)).mono ?_; rintro e wA ⟨vA, rfl, oA, bA⟩; obtain ⟨xA, yA, rfl, _⟩ := oA.form; have cA : Below w1.drew.heap.size w1.drew wA := (by first | exact bA | exact UG (UI _) bA); have qA : Below w1.drew.heap.size w1.drew wA := cA; have zA := qA.size; have yAz := cA.size; (first | (have kaA : wA.heap[w1.heap.size]? = some (.cells #[.int .i64 0, .int .i64 0, .slice none 0 0] 30) := UE bA (heap_alloc_new w1.drew (.cells #[.int .i64 0, .int .i64 0, .slice none 0 0] 30))) | skip); (first | (have eA0 := (UL kaA).1; have eA1 := (UL kaA).2.1; have eA2 := (UL kaA).2.2; have fA0 := (frozen3 kaA).1; have fA1 := (frozen3 kaA).2.1; have fA2 := (frozen3 kaA).2.2) | skip))
   | (go_at_call_of 19 (Value.slice a1 n.length cap1); refine (toName_any a1 cap1 n _ ((UB L1).below (by first | exact UG bb qA | exact UG (UG bb qA) (UI _))) hl1 (UB HL1)).mono ?_; rintro e wB ⟨vB, rfl, oB, bB⟩; obtain ⟨xB, yB, rfl, _⟩ := oB.hasL.form; have cB : Below wA.heap.size wA wB := (by first | exact bB | exact UG (UI _) bB); have qB : Below w1.drew.heap.size w1.drew wB := UG qA cB; have zB := qB.size; have yBz := cB.size; (first | (have kaB : wB.heap[wA.heap.size]? = some (.cells #[.int .i64 0, .int .i64 0, .slice none 0 0] 30) := UE bB (heap_alloc_new wA (.cells #[.int .i64 0, .int .i64 0, .slice none 0 0] 30))) | skip); (first | (have kaB := UE bB kaA) | skip); (first | (have eB0 := (UL kaB).1; have eB1 := (UL kaB).2.1; have eB2 := (UL kaB).2.2; have fB0 := (frozen3 kaB).1; have fB1 := (frozen3 kaB).2.1; have fB2 := (frozen3 kaB).2.2) | skip))
   | (go_at_call 23; refine (UB SP _ _ _ (by first | exact VF (RowSl.hasS oA) cB | exact VF (VF (RowSl.hasS oA) cB) (UI _)) (by first | exact oB.hasL | exact (oB.below (UI _)).hasL)).mono ?_; rintro e wC ⟨vC, uC, sC, rfl, oC, hC1, pC, bC⟩; obtain ⟨sx, sy, rfl, _⟩ := oC.form; obtain ⟨su, sz, rfl, _⟩ := pC.form; have cC : Below wB.heap.size wB wC := (by first | exact bC | exact UG (UI _) bC); have qC : Below w1.drew.heap.size w1.drew wC := UG qB cC; have zC := qC.size; have yCz := cC.size; (first | (have kaC : wC.heap[wB.heap.size]? = some (.cells #[.int .i64 0, .int .i64 0, .slice none 0 0] 30) := UE bC (heap_alloc_new wB (.cells #[.int .i64 0, .int .i64 0, .slice none 0 0] 30))) | skip); (first | (have kaC := UE bC kaB) | skip); (first | (have eC0 := (UL kaC).1; have eC1 := (UL kaC).2.1; have eC2 := (UL kaC).2.2; have fC0 := (frozen3 kaC).1; have fC1 := (frozen3 kaC).2.1; have fC2 := (frozen3 kaC).2.2) | skip); have g0 := (UL (heap_alloc_new wC (.cells #[.int .i64 0, .int .i64 0, .slice none 0 0] 30))).1; have g1 := (UL (heap_alloc_new wC (.cells #[.int .i64 0, .int .i64 0, .slice none 0 0] 30))).2.1; have g2 := (UL (heap_alloc_new wC (.cells #[.int .i64 0, .int .i64 0, .slice none 0 0] 30))).2.2; have j0 := (frozen3 (heap_alloc_new wC (.cells #[.int .i64 0, .int .i64 0, .slice none 0 0] 30))).1; have j1 := (frozen3 (heap_alloc_new wC (.cells #[.int .i64 0, .int .i64 0, .slice none 0 0] 30))).2.1; have j2 := (frozen3 (heap_alloc_new wC (.cells #[.int .i64 0, .int .i64 0, .slice none 0 0] 30))).2.2))
  ·have VQ := heap_alloc_new wC (.cells #[.int .i64 T.now, .int .i64 T.turn, .slice sx T.slots.length sy] 30)
   have bX := UG qC (UI (w := wC) (.cells #[.int .i64 T.now, .int .i64 T.turn, .slice sx T.slots.length sy] 30))
   have FO := VF (RowX.has (ownsSQ 67 56 5 3) OwnSQ.has oC) (UI (w := wC) (.cells #[.int .i64 T.now, .int .i64 T.turn, .slice sx T.slots.length sy] 30))
   have FR := pC.has.below (UI (w := wC) (.cells #[.int .i64 T.now, .int .i64 T.turn, .slice sx T.slots.length sy] 30))
   have hA : w1.heap.size ≤ wC.heap.size := by omega
   generalize wC.alloc (.cells #[.int .i64 T.now, .int .i64 T.turn, .slice sx T.slots.length sy] 30) = wX at *
   go_wp2_with fail
   go_meet
   exact ⟨_, _, _, _, _, rfl, rfl, rfl, hA, VQ, FO, FR, UG (UX (w := w1)) bX⟩
  ·have kA : wC.heap[wB.heap.size]? = some (.cells #[.int .i64 0, .int .i64 0, .slice none 0 0] 30) := kaC
   have VQ : (((wC.setCell ⟨wB.heap.size, 0, none⟩ (.int .i64 T.now)).setCell ⟨wB.heap.size, 1, none⟩ (.int .i64 T.turn)).setCell ⟨wB.heap.size, 2, none⟩ (.slice sx T.slots.length sy)).heap[wB.heap.size]? = some (.cells #[.int .i64 T.now, .int .i64 T.turn, .slice sx T.slots.length sy] 30) := UV (UV (UV kA 0 _) 1 _) 2 _
   have bX : Below w1.drew.heap.size w1.drew (((wC.setCell ⟨wB.heap.size, 0, none⟩ (.int .i64 T.now)).setCell ⟨wB.heap.size, 1, none⟩ (.int .i64 T.turn)).setCell ⟨wB.heap.size, 2, none⟩ (.slice sx T.slots.length sy)) := ((qC.setCell (by show w1.drew.heap.size ≤ wB.heap.size; omega) _).setCell (by show w1.drew.heap.size ≤ wB.heap.size; omega) _).setCell (by show w1.drew.heap.size ≤ wB.heap.size; omega) _
   have uX := ((UT wC (wB.heap.size) 0 (.int .i64 T.now)).trans (UT _ (wB.heap.size) 1 (.int .i64 T.turn))).trans (UT _ (wB.heap.size) 2 (.slice sx T.slots.length sy))
   have lA := World.size_alloc wB (.cells #[.int .i64 0, .int .i64 0, .slice none 0 0] 30)
   have FO := RowX.has (ownsSQ 67 56 5 3) OwnSQ.has (RowX.outside (ownsSQ 67 56 5 3) oC uX (by omega))
   have FR := (RowQ.after pC ⟨uX.os, uX.tape, uX.output, uX.size, fun k hk hor => uX.block k hk (by omega)⟩).has
   have hA : w1.heap.size ≤ wB.heap.size := by omega
   clear uX lA kA
   generalize (((wC.setCell ⟨wB.heap.size, 0, none⟩ (.int .i64 T.now)).setCell ⟨wB.heap.size, 1, none⟩ (.int .i64 T.turn)).setCell ⟨wB.heap.size, 2, none⟩ (.slice sx T.slots.length sy)) = wX at *
   go_wp2_with fail
   go_meet
   exact ⟨_, _, _, _, _, rfl, rfl, rfl, hA, VQ, FO, FR, UG (UX (w := w1)) bX⟩
  ·have kA : wC.heap[wA.heap.size]? = some (.cells #[.int .i64 0, .int .i64 0, .slice none 0 0] 30) := kaC
   have VQ : (((wC.setCell ⟨wA.heap.size, 0, none⟩ (.int .i64 T.now)).setCell ⟨wA.heap.size, 1, none⟩ (.int .i64 T.turn)).setCell ⟨wA.heap.size, 2, none⟩ (.slice sx T.slots.length sy)).heap[wA.heap.size]? = some (.cells #[.int .i64 T.now, .int .i64 T.turn, .slice sx T.slots.length sy] 30) := UV (UV (UV kA 0 _) 1 _) 2 _
   have bX : Below w1.drew.heap.size w1.drew (((wC.setCell ⟨wA.heap.size, 0, none⟩ (.int .i64 T.now)).setCell ⟨wA.heap.size, 1, none⟩ (.int .i64 T.turn)).setCell ⟨wA.heap.size, 2, none⟩ (.slice sx T.slots.length sy)) := ((qC.setCell (by show w1.drew.heap.size ≤ wA.heap.size; omega) _).setCell (by show w1.drew.heap.size ≤ wA.heap.size; omega) _).setCell (by show w1.drew.heap.size ≤ wA.heap.size; omega) _
   have uX := ((UT wC (wA.heap.size) 0 (.int .i64 T.now)).trans (UT _ (wA.heap.size) 1 (.int .i64 T.turn))).trans (UT _ (wA.heap.size) 2 (.slice sx T.slots.length sy))
   have lA := VC kaB
   have FO := RowX.has (ownsSQ 67 56 5 3) OwnSQ.has (RowX.outside (ownsSQ 67 56 5 3) oC uX (by omega))
   have FR := (RowQ.after pC ⟨uX.os, uX.tape, uX.output, uX.size, fun k hk hor => uX.block k hk (by omega)⟩).has
   have hA : w1.heap.size ≤ wA.heap.size := by omega
   clear uX lA kA
   generalize (((wC.setCell ⟨wA.heap.size, 0, none⟩ (.int .i64 T.now)).setCell ⟨wA.heap.size, 1, none⟩ (.int .i64 T.turn)).setCell ⟨wA.heap.size, 2, none⟩ (.slice sx T.slots.length sy)) = wX at *
   go_wp2_with fail
   go_meet
   exact ⟨_, _, _, _, _, rfl, rfl, rfl, hA, VQ, FO, FR, UG (UX (w := w1)) bX⟩
  ·have kA : wC.heap[w1.heap.size]? = some (.cells #[.int .i64 0, .int .i64 0, .slice none 0 0] 30) := kaC
   have VQ : (((wC.setCell ⟨w1.heap.size, 0, none⟩ (.int .i64 T.now)).setCell ⟨w1.heap.size, 1, none⟩ (.int .i64 T.turn)).setCell ⟨w1.heap.size, 2, none⟩ (.slice sx T.slots.length sy)).heap[w1.heap.size]? = some (.cells #[.int .i64 T.now, .int .i64 T.turn, .slice sx T.slots.length sy] 30) := UV (UV (UV kA 0 _) 1 _) 2 _
   have bX : Below w1.drew.heap.size w1.drew (((wC.setCell ⟨w1.heap.size, 0, none⟩ (.int .i64 T.now)).setCell ⟨w1.heap.size, 1, none⟩ (.int .i64 T.turn)).setCell ⟨w1.heap.size, 2, none⟩ (.slice sx T.slots.length sy)) := ((qC.setCell (by show w1.drew.heap.size ≤ w1.heap.size; omega) _).setCell (by show w1.drew.heap.size ≤ w1.heap.size; omega) _).setCell (by show w1.drew.heap.size ≤ w1.heap.size; omega) _
   have uX := ((UT wC (w1.heap.size) 0 (.int .i64 T.now)).trans (UT _ (w1.heap.size) 1 (.int .i64 T.turn))).trans (UT _ (w1.heap.size) 2 (.slice sx T.slots.length sy))
   have lA := VC kaB
   have FO := RowX.has (ownsSQ 67 56 5 3) OwnSQ.has (RowX.outside (ownsSQ 67 56 5 3) oC uX (by omega))
   have FR := (RowQ.after pC ⟨uX.os, uX.tape, uX.output, uX.size, fun k hk hor => uX.block k hk (by omega)⟩).has
   have hA : w1.heap.size ≤ w1.heap.size := by omega
   clear uX lA kA
   generalize (((wC.setCell ⟨w1.heap.size, 0, none⟩ (.int .i64 T.now)).setCell ⟨w1.heap.size, 1, none⟩ (.int .i64 T.turn)).setCell ⟨w1.heap.size, 2, none⟩ (.slice sx T.slots.length sy)) = wX at *
   go_wp2_with fail
   go_meet
   exact ⟨_, _, _, _, _, rfl, rfl, rfl, hA, VQ, FO, FR, UG (UX (w := w1)) bX⟩
 case rest =>
  obtain ⟨As, sx, sy, su, sz, rfl, rfl, rfl, zAs, VQ, FO, FR, bcut⟩ := hcut
  generalize wc = w2 at *
  replace bb := UG bb bcut
  replace K0 := UC (UE bcut (UB K0))
  replace KM := UC (UE bcut (UB KM))
  have zbcut := bcut.size
  clear bcut
  have Vs := UC VQ
  have zVs := VC VQ
  have Hs := UC FO
  have Rs := UC FR
  clear VQ FO FR
  have BS := UC (Below.refl w2.heap.size w2)
  obtain ⟨dK00, dK01, dK02⟩ := UL (UB K0)
  have dKM := US (UB KM)
  obtain ⟨dVs0, dVs1, dVs2⟩ := UL (UB Vs)
  go_wp2_with fail
  clear dK00 dK01 dK02
  clear dKM
  clear dVs0 dVs1 dVs2
  refine (toCache_own a k c _ (lowSs (UB L0) bb) (UB HS)).mono ?_
  rintro e w3 ⟨vX, rfl, oX, bX⟩
  obtain ⟨xX, yX, rfl, _⟩ := oX.form
  have X0 := UC oX
  clear oX
  replace bb := UG bb bX
  replace K0 := UC (UE bX (UB K0))
  replace KM := UC (UE bX (UB KM))
  replace Vs := UC (UE bX (UB Vs))
  replace BS := UC ((UB BS).trans (bX.mono (UB BS).size))
  have zbX := bX.size
  clear bX
  have b6 := UI (w := w3) (.cells #[.int .i64 c.now, .int .i64 c.turn, .slice xX c.slots.length yX] 30)
  have KX := UC (heap_alloc_new w3 (.cells #[.int .i64 c.now, .int .i64 c.turn, .slice xX c.slots.length yX] 30))
  obtain ⟨dK00, dK01, dK02⟩ := UL (UE b6 (UB K0))
  have dKM := US (UE b6 (UB KM))
  obtain ⟨dVs0, dVs1, dVs2⟩ := UL (UE b6 (UB Vs))
  go_wp2_with fail
  clear dK00 dK01 dK02
  clear dKM
  clear dVs0 dVs1 dVs2
  generalize w3.alloc (.cells #[.int .i64 c.now, .int .i64 c.turn, .slice xX c.slots.length yX] 30) = w4 at *
  replace bb := UG bb b6
  replace K0 := UC (UE b6 (UB K0))
  replace KM := UC (UE b6 (UB KM))
  replace Vs := UC (UE b6 (UB Vs))
  replace BS := UC ((UB BS).trans (b6.mono (UB BS).size))
  replace X0 := UC (RowX.below (ownsSl 67 56 5 3) (UB X0) b6)
  have zb6 := b6.size
  clear b6
  generalize w3.heap.size = BX at *
  have zKX := VC (UB KX)
  obtain ⟨dK00, dK01, dK02⟩ := UL (UB K0)
  have dKM := US (UB KM)
  obtain ⟨dVs0, dVs1, dVs2⟩ := UL (UB Vs)
  obtain ⟨dKX0, dKX1, dKX2⟩ := UL (UB KX)
  go_wp2_with fail
  clear dK00 dK01 dK02
  clear dKM
  clear dVs0 dVs1 dVs2
  clear dKX0 dKX1 dKX2
  refine (toName_any a1 cap1 n _ ((UB L1).below bb) hl1 (UB HL1)).mono ?_
  rintro e w5 ⟨vN, rfl, oN, bN⟩
  obtain ⟨xN, yN, rfl, _⟩ := oN.hasL.form
  have X1 := UC oN.here
  clear oN
  replace bb := UG bb bN
  replace K0 := UC (UE bN (UB K0))
  replace KM := UC (UE bN (UB KM))
  replace Vs := UC (UE bN (UB Vs))
  replace BS := UC ((UB BS).trans (bN.mono (UB BS).size))
  replace X0 := UC (RowX.below (ownsSl 67 56 5 3) (UB X0) bN)
  replace KX := UC (UE bN (UB KX))
  have zbN := bN.size
  clear bN
  have b7 := UI (w := w5) (.cells #[.slice xN n.length yN] 46)
  have KY := UC (heap_alloc_new w5 (.cells #[.slice xN n.length yN] 46))
  obtain ⟨dK00, dK01, dK02⟩ := UL (UE b7 (UB K0))
  have dKM := US (UE b7 (UB KM))
  obtain ⟨dVs0, dVs1, dVs2⟩ := UL (UE b7 (UB Vs))
  obtain ⟨dKX0, dKX1, dKX2⟩ := UL (UE b7 (UB KX))
  go_wp2_with fail
  clear dK00 dK01 dK02
  clear dKM
  clear dVs0 dVs1 dVs2
  clear dKX0 dKX1 dKX2
  generalize w5.alloc (.cells #[.slice xN n.length yN] 46) = w6 at *
  replace bb := UG bb b7
  replace K0 := UC (UE b7 (UB K0))
  replace KM := UC (UE b7 (UB KM))
  replace Vs := UC (UE b7 (UB Vs))
  replace BS := UC ((UB BS).trans (b7.mono (UB BS).size))
  replace X0 := UC (RowX.below (ownsSl 67 56 5 3) (UB X0) b7)
  replace KX := UC (UE b7 (UB KX))
  replace X1 := UC ((UB X1).below b7)
  have zb7 := b7.size
  clear b7
  generalize w5.heap.size = BY at *
  have zKY := VC (UB KY)
  obtain ⟨dK00, dK01, dK02⟩ := UL (UB K0)
  have dKM := US (UB KM)
  obtain ⟨dVs0, dVs1, dVs2⟩ := UL (UB Vs)
  obtain ⟨dKX0, dKX1, dKX2⟩ := UL (UB KX)
  have dKY := US (UB KY)
  go_wp2_with fail
  clear dK00 dK01 dK02
  clear dKM
  clear dVs0 dVs1 dVs2
  clear dKX0 dKX1 dKX2
  clear dKY
  refine (UB IM _ _ _ (RowSl.hasS (UB X0)) (UB X1).ownL.hasL).mono ?_
  rintro e w7 ⟨vG, uG, sG, rfl, hG1, hG2, oG, pG, bG⟩
  obtain ⟨gx, gy, rfl, _⟩ := oG.form
  obtain ⟨gu, gz, rfl, _⟩ := pG.form
  have R7 := UC oG
  have Q7 := UC pG
  clear oG pG
  replace bb := UG bb bG
  replace K0 := UC (UE bG (UB K0))
  replace KM := UC (UE bG (UB KM))
  replace Vs := UC (UE bG (UB Vs))
  replace BS := UC ((UB BS).trans (bG.mono (UB BS).size))
  replace X0 := UC (RowX.below (ownsSl 67 56 5 3) (UB X0) bG)
  replace KX := UC (UE bG (UB KX))
  replace X1 := UC ((UB X1).below bG)
  replace KY := UC (UE bG (UB KY))
  have zbG := bG.size
  clear bG
  have b8 := UI (w := w7) (.cells #[.int .i64 T.now, .int .i64 T.turn, .slice gx T.slots.length gy] 30)
  have KG := UC (heap_alloc_new w7 (.cells #[.int .i64 T.now, .int .i64 T.turn, .slice gx T.slots.length gy] 30))
  obtain ⟨dK00, dK01, dK02⟩ := UL (UE b8 (UB K0))
  have dKM := US (UE b8 (UB KM))
  obtain ⟨dVs0, dVs1, dVs2⟩ := UL (UE b8 (UB Vs))
  obtain ⟨dKX0, dKX1, dKX2⟩ := UL (UE b8 (UB KX))
  have dKY := US (UE b8 (UB KY))
  go_wp2_with fail
  clear dK00 dK01 dK02
  clear dKM
  clear dVs0 dVs1 dVs2
  clear dKX0 dKX1 dKX2
  clear dKY
  generalize w7.alloc (.cells #[.int .i64 T.now, .int .i64 T.turn, .slice gx T.slots.length gy] 30) = w8 at *
  replace bb := UG bb b8
  replace K0 := UC (UE b8 (UB K0))
  replace KM := UC (UE b8 (UB KM))
  replace Vs := UC (UE b8 (UB Vs))
  replace BS := UC ((UB BS).trans (b8.mono (UB BS).size))
  replace X0 := UC (RowX.below (ownsSl 67 56 5 3) (UB X0) b8)
  replace KX := UC (UE b8 (UB KX))
  replace X1 := UC ((UB X1).below b8)
  replace KY := UC (UE b8 (UB KY))
  replace R7 := UC (RowX.below (ownsSl 67 56 5 3) (UB R7) b8)
  replace Q7 := UC ((UB Q7).below b8)
  have zb8 := b8.size
  clear b8
  have zKG := VC (UB KG)
  obtain ⟨dK00, dK01, dK02⟩ := UL (UB K0)
  have dKM := US (UB KM)
  obtain ⟨dVs0, dVs1, dVs2⟩ := UL (UB Vs)
  obtain ⟨dKX0, dKX1, dKX2⟩ := UL (UB KX)
  have dKY := US (UB KY)
  obtain ⟨dKG0, dKG1, dKG2⟩ := UL (UB KG)
  go_wp2_with fail
  clear dK00 dK01 dK02
  clear dKM
  clear dVs0 dVs1 dVs2
  clear dKX0 dKX1 dKX2
  clear dKY
  clear dKG0 dKG1 dKG2
  refine (eqCache_has (c := T) (RowSl.hasS (UB R7)) (VF (UB Hs) (UB BS)) (UB HT2)).mono ?_
  rintro e w9 ⟨rfl, bw9⟩
  replace bb := UG bb bw9
  replace K0 := UC (UE bw9 (UB K0))
  replace KM := UC (UE bw9 (UB KM))
  replace Vs := UC (UE bw9 (UB Vs))
  replace BS := UC ((UB BS).trans (bw9.mono (UB BS).size))
  replace X0 := UC (RowX.below (ownsSl 67 56 5 3) (UB X0) bw9)
  replace KX := UC (UE bw9 (UB KX))
  replace X1 := UC ((UB X1).below bw9)
  replace KY := UC (UE bw9 (UB KY))
  replace R7 := UC (RowX.below (ownsSl 67 56 5 3) (UB R7) bw9)
  replace Q7 := UC ((UB Q7).below bw9)
  replace KG := UC (UE bw9 (UB KG))
  have zbw9 := bw9.size
  clear bw9
  obtain ⟨dK00, dK01, dK02⟩ := UL (UB K0)
  have dKM := US (UB KM)
  obtain ⟨dVs0, dVs1, dVs2⟩ := UL (UB Vs)
  obtain ⟨dKX0, dKX1, dKX2⟩ := UL (UB KX)
  have dKY := US (UB KY)
  obtain ⟨dKG0, dKG1, dKG2⟩ := UL (UB KG)
  go_wp2_with fail
  clear dK00 dK01 dK02
  clear dKM
  clear dVs0 dVs1 dVs2
  clear dKX0 dKX1 dKX2
  clear dKY
  clear dKG0 dKG1 dKG2
  refine (eqRrS_has ((UB Q7).has) ((UB Rs).below (UB BS)) (UB HG2)).mono ?_
  rintro e w10 ⟨rfl, bw10⟩
  replace bb := UG bb bw10
  replace K0 := UC (UE bw10 (UB K0))
  replace KM := UC (UE bw10 (UB KM))
  replace Vs := UC (UE bw10 (UB Vs))
  replace BS := UC ((UB BS).trans (bw10.mono (UB BS).size))
  replace X0 := UC (RowX.below (ownsSl 67 56 5 3) (UB X0) bw10)
  replace KX := UC (UE bw10 (UB KX))
  replace X1 := UC ((UB X1).below bw10)
  replace KY := UC (UE bw10 (UB KY))
  replace R7 := UC (RowX.below (ownsSl 67 56 5 3) (UB R7) bw10)
  replace Q7 := UC ((UB Q7).below bw10)
  replace KG := UC (UE bw10 (UB KG))
  have zbw10 := bw10.size
  clear bw10
  obtain ⟨dK00, dK01, dK02⟩ := UL (UB K0)
  have dKM := US (UB KM)
  obtain ⟨dVs0, dVs1, dVs2⟩ := UL (UB Vs)
  obtain ⟨dKX0, dKX1, dKX2⟩ := UL (UB KX)
  have dKY := US (UB KY)
  obtain ⟨dKG0, dKG1, dKG2⟩ := UL (UB KG)
  go_wp2_with fail
  clear dK00 dK01 dK02
  clear dKM
  clear dVs0 dVs1 dVs2
  clear dKX0 dKX1 dKX2
  clear dKY
  clear dKG0 dKG1 dKG2
  have bd := UX (w := w10)
  have zdw10 : w10.drew.heap.size = w10.heap.size := rfl
  replace bb := UG bb bd
  replace K0 := UC (UE bd (UB K0))
  replace KM := UC (UE bd (UB KM))
  replace Vs := UC (UE bd (UB Vs))
  replace BS := UC ((UB BS).trans (bd.mono (UB BS).size))
  replace X0 := UC (RowX.below (ownsSl 67 56 5 3) (UB X0) bd)
  replace KX := UC (UE bd (UB KX))
  replace X1 := UC ((UB X1).below bd)
  replace KY := UC (UE bd (UB KY))
  replace R7 := UC (RowX.below (ownsSl 67 56 5 3) (UB R7) bd)
  replace Q7 := UC ((UB Q7).below bd)
  replace KG := UC (UE bd (UB KG))
  have zbd := bd.size
  clear bd
  refine startC [0, 1, 2, 3, 4] (by kernel_rfl) ⟨by kernel_rfl, by kernel_rfl, by kernel_rfl, by kernel_rfl⟩ 8 [(0, fun w' => (fun w' => w'.cell? ⟨BX, 0, none⟩ = some (.int .i64 c.now) ∧ w'.cell? ⟨BX, 1, none⟩ = some (.int .i64 c.turn) ∧ w'.cell? ⟨BX, 2, none⟩ = some (.slice xX c.slots.length yX)) w'), (1, fun w' => (fun w' => w'.cell? ⟨w.heap.size, 0, none⟩ = some (.int .i64 c.now) ∧ w'.cell? ⟨w.heap.size, 1, none⟩ = some (.int .i64 c.turn) ∧ w'.cell? ⟨w.heap.size, 2, none⟩ = some (.slice a c.slots.length k)) w')] (fun hA => ?_)
  replace hA := UC hA
  generalize hWD : w10.drew = Ew10 at *
  clear hWD
  repeat ((first | (refine VN ?_ (UB hA) rfl rfl rfl (by rfl) (fun _ _ _ h => h) ?_ ?_; rotate_left; · (intro w; go_simp <;> with_reducible rfl)) | refine VM (UB hA) rfl rfl (by rfl) (fun _ _ _ h => h) ?_); go_simp)
  refine takeC ?_ (UB hA) rfl rfl rfl (by rfl) (fun _ _ _ h => h) (.head _) (UL (UB KX)) ?_ ?_; rotate_left; (· (intro w hSw; (try dsimp only at hSw); go_simp <;> with_reducible rfl)); go_simp
  repeat ((first | (refine VN ?_ (UB hA) rfl rfl rfl (by rfl) (fun _ _ _ h => h) ?_ ?_; rotate_left; · (intro w; go_simp <;> with_reducible rfl)) | refine VM (UB hA) rfl rfl (by rfl) (fun _ _ _ h => h) ?_); go_simp)
  refine takeC ?_ (UB hA) rfl rfl rfl (by rfl) (fun _ _ _ h => h) (.tail _ (.head _)) (UL (UB K0)) ?_ ?_; rotate_left; (· (intro w hSw; (try dsimp only at hSw); go_simp <;> with_reducible rfl)); go_simp
  refine runC (UB hA) rfl rfl (by kernel_rfl) (by kernel_rfl) (fun K hK => ?_)
  have HK := UC hK
  clear hK
  go_simp
  refine (toCache_own a k c _ (lowSs (UB L0) bb) (UB HS)).mono ?_
  rintro e w11 ⟨vw11, rfl, ow11, bw11⟩
  obtain ⟨xw11, yw11, rfl, _⟩ := ow11.form
  refine (UB HK).out _ _ (keepC_yes (UL (UE bw11 (UB KX))) (VB (by kernel_rfl) VL)) ?_
  clear HK K
  go_simp
  refine runC (UB hA) rfl rfl (by kernel_rfl) (by kernel_rfl) (fun K hK => ?_)
  have HK := UC hK
  clear hK
  go_simp
  refine (eqCache_has (VF (RowSl.hasS (UB X0)) bw11) (RowSl.hasS ow11) (UB HSS)).mono ?_
  rintro e w12 ⟨rfl, bw12⟩
  have qw12 := UG bw11 bw12
  refine (UB HK).out _ _ (VB (by kernel_rfl) (VB (by kernel_rfl) VL)) ?_
  clear HK K
  go_simp
  repeat ((first | (refine VN ?_ (UB hA) rfl rfl rfl (by rfl) (fun _ _ _ h => h) ?_ ?_; rotate_left; · (intro w; go_simp <;> with_reducible rfl)) | refine VM (UB hA) rfl rfl (by rfl) (fun _ _ _ h => h) ?_); go_simp)
  refine doneC (UB hA) rfl ?_
  clear hA
  clear bw11 bw12 ow11
  replace bb := UG bb qw12
  replace K0 := UC (UE qw12 (UB K0))
  replace KM := UC (UE qw12 (UB KM))
  replace Vs := UC (UE qw12 (UB Vs))
  replace BS := UC ((UB BS).trans (qw12.mono (UB BS).size))
  replace X0 := UC (RowX.below (ownsSl 67 56 5 3) (UB X0) qw12)
  replace KX := UC (UE qw12 (UB KX))
  replace X1 := UC ((UB X1).below qw12)
  replace KY := UC (UE qw12 (UB KY))
  replace R7 := UC (RowX.below (ownsSl 67 56 5 3) (UB R7) qw12)
  replace Q7 := UC ((UB Q7).below qw12)
  replace KG := UC (UE qw12 (UB KG))
  have zqw12 := qw12.size
  clear qw12
  obtain ⟨dK00, dK01, dK02⟩ := UL (UB K0)
  have dKM := US (UB KM)
  obtain ⟨dVs0, dVs1, dVs2⟩ := UL (UB Vs)
  obtain ⟨dKX0, dKX1, dKX2⟩ := UL (UB KX)
  have dKY := US (UB KY)
  obtain ⟨dKG0, dKG1, dKG2⟩ := UL (UB KG)
  go_wp2_with fail
  clear dK00 dK01 dK02
  clear dKM
  clear dVs0 dVs1 dVs2
  clear dKX0 dKX1 dKX2
  clear dKY
  clear dKG0 dKG1 dKG2
  have bd := UX (w := w12)
  have zdw12 : w12.drew.heap.size = w12.heap.size := rfl
  replace bb := UG bb bd
  replace K0 := UC (UE bd (UB K0))
  replace KM := UC (UE bd (UB KM))
  replace Vs := UC (UE bd (UB Vs))
  replace BS := UC ((UB BS).trans (bd.mono (UB BS).size))
  replace X0 := UC (RowX.below (ownsSl 67 56 5 3) (UB X0) bd)
  replace KX := UC (UE bd (UB KX))
  replace X1 := UC ((UB X1).below bd)
  replace KY := UC (UE bd (UB KY))
  replace R7 := UC (RowX.below (ownsSl 67 56 5 3) (UB R7) bd)
  replace Q7 := UC ((UB Q7).below bd)
  replace KG := UC (UE bd (UB KG))
  have zbd := bd.size
  clear bd
  refine startC [0, 1, 2, 3, 4] (by kernel_rfl) ⟨by kernel_rfl, by kernel_rfl, by kernel_rfl, by kernel_rfl⟩ 8 [(0, fun w' => (fun w' => w'.cell? ⟨BY, 0, none⟩ = some (.slice xN n.length yN)) w'), (1, fun w' => (fun w' => w'.cell? ⟨(w.heap.size + 1), 0, none⟩ = some (.slice a1 n.length cap1)) w')] (fun hA => ?_)
  replace hA := UC hA
  generalize hWD : w12.drew = Ew12 at *
  clear hWD
  repeat ((first | (refine VN ?_ (UB hA) rfl rfl rfl (by rfl) (fun _ _ _ h => h) ?_ ?_; rotate_left; · (intro w; go_simp <;> with_reducible rfl)) | refine VM (UB hA) rfl rfl (by rfl) (fun _ _ _ h => h) ?_); go_simp)
  refine takeC ?_ (UB hA) rfl rfl rfl (by rfl) (fun _ _ _ h => h) (.head _) (US (UB KY)) ?_ ?_; rotate_left; (· (intro w hSw; (try dsimp only at hSw); go_simp <;> with_reducible rfl)); go_simp
  repeat ((first | (refine VN ?_ (UB hA) rfl rfl rfl (by rfl) (fun _ _ _ h => h) ?_ ?_; rotate_left; · (intro w; go_simp <;> with_reducible rfl)) | refine VM (UB hA) rfl rfl (by rfl) (fun _ _ _ h => h) ?_); go_simp)
  refine takeC ?_ (UB hA) rfl rfl rfl (by rfl) (fun _ _ _ h => h) (.tail _ (.head _)) (US (UB KM)) ?_ ?_; rotate_left; (· (intro w hSw; (try dsimp only at hSw); go_simp <;> with_reducible rfl)); go_simp
  refine runC (UB hA) rfl rfl (by kernel_rfl) (by kernel_rfl) (fun K hK => ?_)
  have HK := UC hK
  clear hK
  go_simp
  refine (toName_any a1 cap1 n _ ((UB L1).below bb) hl1 (UB HL1)).mono ?_
  rintro e w13 ⟨vw13, rfl, ow13, bw13⟩
  obtain ⟨xw13, yw13, rfl, _⟩ := ow13.hasL.form
  refine (UB HK).out _ _ (keepC_yes (US (UE bw13 (UB KY))) (VB (by kernel_rfl) VL)) ?_
  clear HK K
  go_simp
  refine runC (UB hA) rfl rfl (by kernel_rfl) (by kernel_rfl) (fun K hK => ?_)
  have HK := UC hK
  clear hK
  go_simp
  refine (eqName_has ((UB X1).below bw13).ownL.hasL ow13.hasL (UB HLL1)).mono ?_
  rintro e w14 ⟨rfl, bw14⟩
  have qw14 := UG bw13 bw14
  refine (UB HK).out _ _ (VB (by kernel_rfl) (VB (by kernel_rfl) VL)) ?_
  clear HK K
  go_simp
  repeat ((first | (refine VN ?_ (UB hA) rfl rfl rfl (by rfl) (fun _ _ _ h => h) ?_ ?_; rotate_left; · (intro w; go_simp <;> with_reducible rfl)) | refine VM (UB hA) rfl rfl (by rfl) (fun _ _ _ h => h) ?_); go_simp)
  refine doneC (UB hA) rfl ?_
  clear hA
  clear bw13 bw14 ow13
  replace bb := UG bb qw14
  replace K0 := UC (UE qw14 (UB K0))
  replace KM := UC (UE qw14 (UB KM))
  replace Vs := UC (UE qw14 (UB Vs))
  replace BS := UC ((UB BS).trans (qw14.mono (UB BS).size))
  replace X0 := UC (RowX.below (ownsSl 67 56 5 3) (UB X0) qw14)
  replace KX := UC (UE qw14 (UB KX))
  replace X1 := UC ((UB X1).below qw14)
  replace KY := UC (UE qw14 (UB KY))
  replace R7 := UC (RowX.below (ownsSl 67 56 5 3) (UB R7) qw14)
  replace Q7 := UC ((UB Q7).below qw14)
  replace KG := UC (UE qw14 (UB KG))
  have zqw14 := qw14.size
  clear qw14
  obtain ⟨dK00, dK01, dK02⟩ := UL (UB K0)
  have dKM := US (UB KM)
  obtain ⟨dVs0, dVs1, dVs2⟩ := UL (UB Vs)
  obtain ⟨dKX0, dKX1, dKX2⟩ := UL (UB KX)
  have dKY := US (UB KY)
  obtain ⟨dKG0, dKG1, dKG2⟩ := UL (UB KG)
  go_wp2_with fail
  clear dK00 dK01 dK02
  clear dKM
  clear dVs0 dVs1 dVs2
  clear dKX0 dKX1 dKX2
  clear dKY
  clear dKG0 dKG1 dKG2
  refine (UB MKC _ _ _ _ (by omega) (UB X0)).mono ?_
  rintro e w15 ⟨rfl, _, uw15⟩
  clear X0
  replace bb := uw15.below bb (by omega)
  replace K0 := UC (uw15.kept (UB K0) (by omega))
  replace KM := UC (uw15.kept (UB KM) (by omega))
  replace Vs := UC (uw15.kept (UB Vs) (by omega))
  replace BS := UC (uw15.belowAt (UB BS) (Nat.le_refl _) (by omega))
  replace KX := UC (uw15.kept (UB KX) (by omega))
  replace X1 := UC ((UB X1).outside uw15 (by omega))
  replace KY := UC (uw15.kept (UB KY) (by omega))
  replace R7 := UC (RowX.outside (ownsSl 67 56 5 3) (UB R7) uw15 (by omega))
  replace Q7 := UC ((UB Q7).outside uw15 (by omega))
  replace KG := UC (uw15.kept (UB KG) (by omega))
  have zuw15 := uw15.size
  clear uw15
  obtain ⟨dK00, dK01, dK02⟩ := UL (UB K0)
  have dKM := US (UB KM)
  obtain ⟨dVs0, dVs1, dVs2⟩ := UL (UB Vs)
  obtain ⟨dKX0, dKX1, dKX2⟩ := UL (UB KX)
  have dKY := US (UB KY)
  obtain ⟨dKG0, dKG1, dKG2⟩ := UL (UB KG)
  go_wp2_with fail
  clear dK00 dK01 dK02
  clear dKM
  clear dVs0 dVs1 dVs2
  clear dKX0 dKX1 dKX2
  clear dKY
  clear dKG0 dKG1 dKG2
  refine (UB MKN _ _ _ _ (UB X1)).mono ?_
  rintro e w16 ⟨rfl, _, uw16⟩
  clear X1
  replace bb := uw16.below bb (by omega)
  replace K0 := UC (uw16.kept (UB K0) (by omega))
  replace KM := UC (uw16.kept (UB KM) (by omega))
  replace Vs := UC (uw16.kept (UB Vs) (by omega))
  replace BS := UC (uw16.belowAt (UB BS) (Nat.le_refl _) (by omega))
  replace KX := UC (uw16.kept (UB KX) (by omega))
  replace KY := UC (uw16.kept (UB KY) (by omega))
  replace R7 := UC (RowX.outside (ownsSl 67 56 5 3) (UB R7) uw16 (by omega))
  replace Q7 := UC ((UB Q7).outside uw16 (by omega))
  replace KG := UC (uw16.kept (UB KG) (by omega))
  have zuw16 := uw16.size
  clear uw16
  obtain ⟨dK00, dK01, dK02⟩ := UL (UB K0)
  have dKM := US (UB KM)
  obtain ⟨dVs0, dVs1, dVs2⟩ := UL (UB Vs)
  obtain ⟨dKX0, dKX1, dKX2⟩ := UL (UB KX)
  have dKY := US (UB KY)
  obtain ⟨dKG0, dKG1, dKG2⟩ := UL (UB KG)
  go_wp2_with fail
  clear dK00 dK01 dK02
  clear dKM
  clear dVs0 dVs1 dVs2
  clear dKX0 dKX1 dKX2
  clear dKY
  clear dKG0 dKG1 dKG2
  refine (eqCache_has (c := T) (RowSl.hasS (UB R7)) (VF (UB Hs) (UB BS)) (UB HT2)).mono ?_
  rintro e w17 ⟨rfl, bw17⟩
  replace bb := UG bb bw17
  replace K0 := UC (UE bw17 (UB K0))
  replace KM := UC (UE bw17 (UB KM))
  replace Vs := UC (UE bw17 (UB Vs))
  replace BS := UC ((UB BS).trans (bw17.mono (UB BS).size))
  replace KX := UC (UE bw17 (UB KX))
  replace KY := UC (UE bw17 (UB KY))
  replace R7 := UC (RowX.below (ownsSl 67 56 5 3) (UB R7) bw17)
  replace Q7 := UC ((UB Q7).below bw17)
  replace KG := UC (UE bw17 (UB KG))
  have zbw17 := bw17.size
  clear bw17
  obtain ⟨dK00, dK01, dK02⟩ := UL (UB K0)
  have dKM := US (UB KM)
  obtain ⟨dVs0, dVs1, dVs2⟩ := UL (UB Vs)
  obtain ⟨dKX0, dKX1, dKX2⟩ := UL (UB KX)
  have dKY := US (UB KY)
  obtain ⟨dKG0, dKG1, dKG2⟩ := UL (UB KG)
  go_wp2_with fail
  clear dK00 dK01 dK02
  clear dKM
  clear dVs0 dVs1 dVs2
  clear dKX0 dKX1 dKX2
  clear dKY
  clear dKG0 dKG1 dKG2
  refine (eqRrS_has ((UB Q7).has) ((UB Rs).below (UB BS)) (UB HG2)).mono ?_
  rintro e w18 ⟨rfl, bw18⟩
  replace bb := UG bb bw18
  replace K0 := UC (UE bw18 (UB K0))
  replace KM := UC (UE bw18 (UB KM))
  replace Vs := UC (UE bw18 (UB Vs))
  replace BS := UC ((UB BS).trans (bw18.mono (UB BS).size))
  replace KX := UC (UE bw18 (UB KX))
  replace KY := UC (UE bw18 (UB KY))
  replace R7 := UC (RowX.below (ownsSl 67 56 5 3) (UB R7) bw18)
  replace Q7 := UC ((UB Q7).below bw18)
  replace KG := UC (UE bw18 (UB KG))
  have zbw18 := bw18.size
  clear bw18
  obtain ⟨dK00, dK01, dK02⟩ := UL (UB K0)
  have dKM := US (UB KM)
  obtain ⟨dVs0, dVs1, dVs2⟩ := UL (UB Vs)
  obtain ⟨dKX0, dKX1, dKX2⟩ := UL (UB KX)
  have dKY := US (UB KY)
  obtain ⟨dKG0, dKG1, dKG2⟩ := UL (UB KG)
  go_wp2_with fail
  clear dK00 dK01 dK02
  clear dKM
  clear dVs0 dVs1 dVs2
  clear dKX0 dKX1 dKX2
  clear dKY
  clear dKG0 dKG1 dKG2
  refine (UB MKG _ _ _ _ (by omega) (UB R7)).mono ?_
  rintro e w19 ⟨rfl, rw19, uw19⟩
  clear R7
  replace bb := uw19.below bb (by omega)
  replace K0 := UC (uw19.kept (UB K0) (by omega))
  replace KM := UC (uw19.kept (UB KM) (by omega))
  replace Vs := UC (uw19.kept (UB Vs) (by omega))
  replace BS := UC (uw19.belowAt (UB BS) (Nat.le_refl _) (by omega))
  replace KX := UC (uw19.kept (UB KX) (by omega))
  replace KY := UC (uw19.kept (UB KY) (by omega))
  replace Q7 := UC ((UB Q7).outside uw19 (by omega))
  replace KG := UC (uw19.kept (UB KG) (by omega))
  have zuw19 := uw19.size
  clear uw19
  have MC := UC rw19
  clear rw19
  obtain ⟨dK00, dK01, dK02⟩ := UL (UB K0)
  have dKM := US (UB KM)
  obtain ⟨dVs0, dVs1, dVs2⟩ := UL (UB Vs)
  obtain ⟨dKX0, dKX1, dKX2⟩ := UL (UB KX)
  have dKY := US (UB KY)
  obtain ⟨dKG0, dKG1, dKG2⟩ := UL (UB KG)
  go_wp2_with fail
  clear dK00 dK01 dK02
  clear dKM
  clear dVs0 dVs1 dVs2
  clear dKX0 dKX1 dKX2
  clear dKY
  clear dKG0 dKG1 dKG2
  refine (UB MKR _ _ _ _ (by omega) (UB Q7)).mono ?_
  rintro e w20 ⟨rfl, rw20, uw20⟩
  clear Q7
  replace bb := uw20.below bb (by omega)
  replace K0 := UC (uw20.kept (UB K0) (by omega))
  replace KM := UC (uw20.kept (UB KM) (by omega))
  replace Vs := UC (uw20.kept (UB Vs) (by omega))
  replace BS := UC (uw20.belowAt (UB BS) (Nat.le_refl _) (by omega))
  replace KX := UC (uw20.kept (UB KX) (by omega))
  replace KY := UC (uw20.kept (UB KY) (by omega))
  replace KG := UC (uw20.kept (UB KG) (by omega))
  replace MC := UC (RowX.outside (ownsSl 67 56 5 3) (UB MC) uw20 (by omega))
  have zuw20 := uw20.size
  clear uw20
  have MR := UC rw20
  clear rw20
  obtain ⟨dK00, dK01, dK02⟩ := UL (UB K0)
  have dKM := US (UB KM)
  obtain ⟨dVs0, dVs1, dVs2⟩ := UL (UB Vs)
  obtain ⟨dKX0, dKX1, dKX2⟩ := UL (UB KX)
  have dKY := US (UB KY)
  obtain ⟨dKG0, dKG1, dKG2⟩ := UL (UB KG)
  go_wp2_with fail
  clear dK00 dK01 dK02
  clear dKM
  clear dVs0 dVs1 dVs2
  clear dKX0 dKX1 dKX2
  clear dKY
  clear dKG0 dKG1 dKG2
  refine (UB HDC _ _ (RowSl.hasS (UB MC))).mono ?_
  rintro e w21 ⟨rfl, bw21⟩
  replace bb := UG bb bw21
  replace K0 := UC (UE bw21 (UB K0))
  replace KM := UC (UE bw21 (UB KM))
  replace Vs := UC (UE bw21 (UB Vs))
  replace BS := UC ((UB BS).trans (bw21.mono (UB BS).size))
  replace KX := UC (UE bw21 (UB KX))
  replace KY := UC (UE bw21 (UB KY))
  replace KG := UC (UE bw21 (UB KG))
  replace MC := UC (RowX.below (ownsSl 67 56 5 3) (UB MC) bw21)
  replace MR := UC ((UB MR).below bw21)
  have zbw21 := bw21.size
  clear bw21
  obtain ⟨dK00, dK01, dK02⟩ := UL (UB K0)
  have dKM := US (UB KM)
  obtain ⟨dVs0, dVs1, dVs2⟩ := UL (UB Vs)
  obtain ⟨dKX0, dKX1, dKX2⟩ := UL (UB KX)
  have dKY := US (UB KY)
  obtain ⟨dKG0, dKG1, dKG2⟩ := UL (UB KG)
  go_wp2_with fail
  clear dK00 dK01 dK02
  clear dKM
  clear dVs0 dVs1 dVs2
  clear dKX0 dKX1 dKX2
  clear dKY
  clear dKG0 dKG1 dKG2
  refine (UB HDR _ _ (UB MR).has).mono ?_
  rintro e wh ⟨rfl, rfl⟩
  obtain ⟨dK00, dK01, dK02⟩ := UL (UB K0)
  have dKM := US (UB KM)
  obtain ⟨dVs0, dVs1, dVs2⟩ := UL (UB Vs)
  obtain ⟨dKX0, dKX1, dKX2⟩ := UL (UB KX)
  have dKY := US (UB KY)
  obtain ⟨dKG0, dKG1, dKG2⟩ := UL (UB KG)
  go_upto_region 35 with fail
  clear dK00 dK01 dK02
  clear dKM
  clear dVs0 dVs1 dVs2
  clear dKX0 dKX1 dKX2
  clear dKY
  clear dKG0 dKG1 dKG2
  go_cut [19, 20, 21] from 22 (fun b l q wx => ∃ (A : Nat) (hx : Option Addr) (hy : Nat) (hu : Option Addr) (hz : Nat), b = .pointer (some ⟨A, 0, none⟩) ∧ l = .slice hu G.length hz ∧ q = .int .i64 tn ∧ w21.heap.size ≤ A ∧ wx.heap[A]? = some (.cells #[.int .i64 T.now, .int .i64 T.turn, .slice hx T.slots.length hy] 30) ∧ HasSs wx (.slice hx T.slots.length hy) T.slots ∧ HasRs wx (.slice hu G.length hz) G ∧ Below w21.heap.size w21 wx)
  case first =>
   have bd := UX (w := w21)
   have zD : w21.drew.heap.size = w21.heap.size := rfl
   replace bb := UG bb bd
   clear Vs BS KX KY KG MC MR
   replace K0 := UC (UE bd (UB K0))
   replace KM := UC (UE bd (UB KM))
   obtain ⟨dK00, dK01, dK02⟩ := UL (UB K0)
   have dKM := US (UB KM)
   try go_wp2_with fail
   clear dK00 dK01 dK02
   clear dKM
   go_region_held3 (fun w' => (w'.cell? ⟨w.heap.size, 0, none⟩ = some (.int .i64 c.now) ∧ w'.cell? ⟨w.heap.size, 1, none⟩ = some (.int .i64 c.turn) ∧ w'.cell? ⟨w.heap.size, 2, none⟩ = some (.slice a c.slots.length k)) ∧ (w'.cell? ⟨(w.heap.size + 1), 0, none⟩ = some (.slice a1 n.length cap1)))
    (first | exact ⟨UL (UB K0), US (UB KM)⟩ | exact ⟨UL (UE (UI _) (UB K0)), US (UE (UI _) (UB KM))⟩ | exact ⟨UL (UE qA (UB K0)), US (UE qA (UB KM))⟩ | exact ⟨UL (UE (UG qA (UI _)) (UB K0)), US (UE (UG qA (UI _)) (UB KM))⟩ | exact ⟨UL (UE qB (UB K0)), US (UE qB (UB KM))⟩ | exact ⟨UL (UE (UG qB (UI _)) (UB K0)), US (UE (UG qB (UI _)) (UB KM))⟩ | exact ⟨UL (UE qC (UB K0)), US (UE qC (UB KM))⟩ | exact ⟨UL (UE (UG qC (UI _)) (UB K0)), US (UE (UG qC (UI _)) (UB KM))⟩ | exact ⟨UL (keep_three (UE qC (UB K0)) (by omega)), US (keep_three (UE qC (UB KM)) (by omega))⟩ | exact ⟨UL (keep_three (UE (UG qC (UI _)) (UB K0)) (by omega)), US (keep_three (UE (UG qC (UI _)) (UB KM)) (by omega))⟩)
    (first
    | (go_at_call_of 9 (Value.slice a c.slots.length k); refine (toCache_own a k c _ (lowSs (UB L0) (by first | exact bb | exact UG bb (UI _))) (UB HS)).mono ?_; rintro e wA ⟨vA, rfl, oA, bA⟩; obtain ⟨xA, yA, rfl, _⟩ := oA.form; have cA : Below w21.drew.heap.size w21.drew wA := (by first | exact bA | exact UG (UI _) bA); have qA : Below w21.drew.heap.size w21.drew wA := cA; have zA := qA.size; have yAz := cA.size; (first | (have kaA : wA.heap[w21.heap.size]? = some (.cells #[.int .i64 0, .int .i64 0, .slice none 0 0] 30) := UE bA (heap_alloc_new w21.drew (.cells #[.int .i64 0, .int .i64 0, .slice none 0 0] 30))) | skip); (first | (have eA0 := (UL kaA).1; have eA1 := (UL kaA).2.1; have eA2 := (UL kaA).2.2; have fA0 := (frozen3 kaA).1; have fA1 := (frozen3 kaA).2.1; have fA2 := (frozen3 kaA).2.2) | skip))
    | (go_at_call_of 19 (Value.slice a1 n.length cap1); refine (toName_any a1 cap1 n _ ((UB L1).below (by first | exact UG bb qA | exact UG (UG bb qA) (UI _))) hl1 (UB HL1)).mono ?_; rintro e wB ⟨vB, rfl, oB, bB⟩; obtain ⟨xB, yB, rfl, _⟩ := oB.hasL.form; have cB : Below wA.heap.size wA wB := (by first | exact bB | exact UG (UI _) bB); have qB : Below w21.drew.heap.size w21.drew wB := UG qA cB; have zB := qB.size; have yBz := cB.size; (first | (have kaB : wB.heap[wA.heap.size]? = some (.cells #[.int .i64 0, .int .i64 0, .slice none 0 0] 30) := UE bB (heap_alloc_new wA (.cells #[.int .i64 0, .int .i64 0, .slice none 0 0] 30))) | skip); (first | (have kaB := UE bB kaA) | skip); (first | (have eB0 := (UL kaB).1; have eB1 := (UL kaB).2.1; have eB2 := (UL kaB).2.2; have fB0 := (frozen3 kaB).1; have fB1 := (frozen3 kaB).2.1; have fB2 := (frozen3 kaB).2.2) | skip))
    | (go_at_call 24; refine (UB IM _ _ _ (by first | exact VF (RowSl.hasS oA) cB | exact VF (VF (RowSl.hasS oA) cB) (UI _)) (by first | exact oB.hasL | exact (oB.below (UI _)).hasL)).mono ?_; rintro e wC ⟨vC, uC, sC, rfl, hC1, hC2, oC, pC, bC⟩; obtain ⟨hx, hy, rfl, _⟩ := oC.form; obtain ⟨hu, hz, rfl, _⟩ := pC.form; have cC : Below wB.heap.size wB wC := (by first | exact bC | exact UG (UI _) bC); have qC : Below w21.drew.heap.size w21.drew wC := UG qB cC; have zC := qC.size; have yCz := cC.size; (first | (have kaC : wC.heap[wB.heap.size]? = some (.cells #[.int .i64 0, .int .i64 0, .slice none 0 0] 30) := UE bC (heap_alloc_new wB (.cells #[.int .i64 0, .int .i64 0, .slice none 0 0] 30))) | skip); (first | (have kaC := UE bC kaB) | skip); (first | (have eC0 := (UL kaC).1; have eC1 := (UL kaC).2.1; have eC2 := (UL kaC).2.2; have fC0 := (frozen3 kaC).1; have fC1 := (frozen3 kaC).2.1; have fC2 := (frozen3 kaC).2.2) | skip); have g0 := (UL (heap_alloc_new wC (.cells #[.int .i64 0, .int .i64 0, .slice none 0 0] 30))).1; have g1 := (UL (heap_alloc_new wC (.cells #[.int .i64 0, .int .i64 0, .slice none 0 0] 30))).2.1; have g2 := (UL (heap_alloc_new wC (.cells #[.int .i64 0, .int .i64 0, .slice none 0 0] 30))).2.2; have j0 := (frozen3 (heap_alloc_new wC (.cells #[.int .i64 0, .int .i64 0, .slice none 0 0] 30))).1; have j1 := (frozen3 (heap_alloc_new wC (.cells #[.int .i64 0, .int .i64 0, .slice none 0 0] 30))).2.1; have j2 := (frozen3 (heap_alloc_new wC (.cells #[.int .i64 0, .int .i64 0, .slice none 0 0] 30))).2.2))
   ·have VQ := heap_alloc_new wC (.cells #[.int .i64 T.now, .int .i64 T.turn, .slice hx T.slots.length hy] 30)
    have bX := UG qC (UI (w := wC) (.cells #[.int .i64 T.now, .int .i64 T.turn, .slice hx T.slots.length hy] 30))
    have FO := VF (RowSl.hasS oC) (UI (w := wC) (.cells #[.int .i64 T.now, .int .i64 T.turn, .slice hx T.slots.length hy] 30))
    have FR := pC.has.below (UI (w := wC) (.cells #[.int .i64 T.now, .int .i64 T.turn, .slice hx T.slots.length hy] 30))
    have hA : w21.heap.size ≤ wC.heap.size := by omega
    generalize wC.alloc (.cells #[.int .i64 T.now, .int .i64 T.turn, .slice hx T.slots.length hy] 30) = wX at *
    go_wp2_with fail
    go_meet
    exact ⟨_, _, _, _, _, rfl, rfl, rfl, hA, VQ, FO, FR, UG (UX (w := w21)) bX⟩
   ·have kA : wC.heap[wB.heap.size]? = some (.cells #[.int .i64 0, .int .i64 0, .slice none 0 0] 30) := kaC
    have VQ : (((wC.setCell ⟨wB.heap.size, 0, none⟩ (.int .i64 T.now)).setCell ⟨wB.heap.size, 1, none⟩ (.int .i64 T.turn)).setCell ⟨wB.heap.size, 2, none⟩ (.slice hx T.slots.length hy)).heap[wB.heap.size]? = some (.cells #[.int .i64 T.now, .int .i64 T.turn, .slice hx T.slots.length hy] 30) := UV (UV (UV kA 0 _) 1 _) 2 _
    have bX : Below w21.drew.heap.size w21.drew (((wC.setCell ⟨wB.heap.size, 0, none⟩ (.int .i64 T.now)).setCell ⟨wB.heap.size, 1, none⟩ (.int .i64 T.turn)).setCell ⟨wB.heap.size, 2, none⟩ (.slice hx T.slots.length hy)) := ((qC.setCell (by show w21.drew.heap.size ≤ wB.heap.size; omega) _).setCell (by show w21.drew.heap.size ≤ wB.heap.size; omega) _).setCell (by show w21.drew.heap.size ≤ wB.heap.size; omega) _
    have uX := ((UT wC (wB.heap.size) 0 (.int .i64 T.now)).trans (UT _ (wB.heap.size) 1 (.int .i64 T.turn))).trans (UT _ (wB.heap.size) 2 (.slice hx T.slots.length hy))
    have lA := World.size_alloc wB (.cells #[.int .i64 0, .int .i64 0, .slice none 0 0] 30)
    have FO := RowSl.hasS (RowX.outside (ownsSl 67 56 5 3) oC uX (by omega))
    have FR := (RowO.outside pC uX (by omega)).has
    have hA : w21.heap.size ≤ wB.heap.size := by omega
    clear uX lA kA
    generalize (((wC.setCell ⟨wB.heap.size, 0, none⟩ (.int .i64 T.now)).setCell ⟨wB.heap.size, 1, none⟩ (.int .i64 T.turn)).setCell ⟨wB.heap.size, 2, none⟩ (.slice hx T.slots.length hy)) = wX at *
    go_wp2_with fail
    go_meet
    exact ⟨_, _, _, _, _, rfl, rfl, rfl, hA, VQ, FO, FR, UG (UX (w := w21)) bX⟩
   ·have kA : wC.heap[wA.heap.size]? = some (.cells #[.int .i64 0, .int .i64 0, .slice none 0 0] 30) := kaC
    have VQ : (((wC.setCell ⟨wA.heap.size, 0, none⟩ (.int .i64 T.now)).setCell ⟨wA.heap.size, 1, none⟩ (.int .i64 T.turn)).setCell ⟨wA.heap.size, 2, none⟩ (.slice hx T.slots.length hy)).heap[wA.heap.size]? = some (.cells #[.int .i64 T.now, .int .i64 T.turn, .slice hx T.slots.length hy] 30) := UV (UV (UV kA 0 _) 1 _) 2 _
    have bX : Below w21.drew.heap.size w21.drew (((wC.setCell ⟨wA.heap.size, 0, none⟩ (.int .i64 T.now)).setCell ⟨wA.heap.size, 1, none⟩ (.int .i64 T.turn)).setCell ⟨wA.heap.size, 2, none⟩ (.slice hx T.slots.length hy)) := ((qC.setCell (by show w21.drew.heap.size ≤ wA.heap.size; omega) _).setCell (by show w21.drew.heap.size ≤ wA.heap.size; omega) _).setCell (by show w21.drew.heap.size ≤ wA.heap.size; omega) _
    have uX := ((UT wC (wA.heap.size) 0 (.int .i64 T.now)).trans (UT _ (wA.heap.size) 1 (.int .i64 T.turn))).trans (UT _ (wA.heap.size) 2 (.slice hx T.slots.length hy))
    have lA := VC kaB
    have FO := RowSl.hasS (RowX.outside (ownsSl 67 56 5 3) oC uX (by omega))
    have FR := (RowO.outside pC uX (by omega)).has
    have hA : w21.heap.size ≤ wA.heap.size := by omega
    clear uX lA kA
    generalize (((wC.setCell ⟨wA.heap.size, 0, none⟩ (.int .i64 T.now)).setCell ⟨wA.heap.size, 1, none⟩ (.int .i64 T.turn)).setCell ⟨wA.heap.size, 2, none⟩ (.slice hx T.slots.length hy)) = wX at *
    go_wp2_with fail
    go_meet
    exact ⟨_, _, _, _, _, rfl, rfl, rfl, hA, VQ, FO, FR, UG (UX (w := w21)) bX⟩
   ·have kA : wC.heap[w21.heap.size]? = some (.cells #[.int .i64 0, .int .i64 0, .slice none 0 0] 30) := kaC
    have VQ : (((wC.setCell ⟨w21.heap.size, 0, none⟩ (.int .i64 T.now)).setCell ⟨w21.heap.size, 1, none⟩ (.int .i64 T.turn)).setCell ⟨w21.heap.size, 2, none⟩ (.slice hx T.slots.length hy)).heap[w21.heap.size]? = some (.cells #[.int .i64 T.now, .int .i64 T.turn, .slice hx T.slots.length hy] 30) := UV (UV (UV kA 0 _) 1 _) 2 _
    have bX : Below w21.drew.heap.size w21.drew (((wC.setCell ⟨w21.heap.size, 0, none⟩ (.int .i64 T.now)).setCell ⟨w21.heap.size, 1, none⟩ (.int .i64 T.turn)).setCell ⟨w21.heap.size, 2, none⟩ (.slice hx T.slots.length hy)) := ((qC.setCell (by show w21.drew.heap.size ≤ w21.heap.size; omega) _).setCell (by show w21.drew.heap.size ≤ w21.heap.size; omega) _).setCell (by show w21.drew.heap.size ≤ w21.heap.size; omega) _
    have uX := ((UT wC (w21.heap.size) 0 (.int .i64 T.now)).trans (UT _ (w21.heap.size) 1 (.int .i64 T.turn))).trans (UT _ (w21.heap.size) 2 (.slice hx T.slots.length hy))
    have lA := VC kaB
    have FO := RowSl.hasS (RowX.outside (ownsSl 67 56 5 3) oC uX (by omega))
    have FR := (RowO.outside pC uX (by omega)).has
    have hA : w21.heap.size ≤ w21.heap.size := by omega
    clear uX lA kA
    generalize (((wC.setCell ⟨w21.heap.size, 0, none⟩ (.int .i64 T.now)).setCell ⟨w21.heap.size, 1, none⟩ (.int .i64 T.turn)).setCell ⟨w21.heap.size, 2, none⟩ (.slice hx T.slots.length hy)) = wX at *
    go_wp2_with fail
    go_meet
    exact ⟨_, _, _, _, _, rfl, rfl, rfl, hA, VQ, FO, FR, UG (UX (w := w21)) bX⟩
  case rest =>
   obtain ⟨Ah, hx, hy, hu, hz, rfl, rfl, rfl, zAh, VQ, FO, FR, bcut⟩ := hcut
   generalize wc = w22 at *
   replace bb := UG bb bcut
   replace K0 := UC (UE bcut (UB K0))
   replace KM := UC (UE bcut (UB KM))
   replace Vs := UC (UE bcut (UB Vs))
   replace BS := UC ((UB BS).trans (bcut.mono (UB BS).size))
   replace KX := UC (UE bcut (UB KX))
   replace KY := UC (UE bcut (UB KY))
   replace KG := UC (UE bcut (UB KG))
   replace MC := UC (RowX.below (ownsSl 67 56 5 3) (UB MC) bcut)
   replace MR := UC ((UB MR).below bcut)
   have zbcut := bcut.size
   clear bcut
   have Vh := UC VQ
   have zVh := VC VQ
   have Hh := UC FO
   have Rh := UC FR
   clear VQ FO FR
   have Hh0 := Hh
   have Rh0 := Rh
   obtain ⟨dK00, dK01, dK02⟩ := UL (UB K0)
   have dKM := US (UB KM)
   obtain ⟨dVs0, dVs1, dVs2⟩ := UL (UB Vs)
   obtain ⟨dKX0, dKX1, dKX2⟩ := UL (UB KX)
   have dKY := US (UB KY)
   obtain ⟨dKG0, dKG1, dKG2⟩ := UL (UB KG)
   obtain ⟨dVh0, dVh1, dVh2⟩ := UL (UB Vh)
   go_wp2_with fail
   clear dK00 dK01 dK02
   clear dKM
   clear dVs0 dVs1 dVs2
   clear dKX0 dKX1 dKX2
   clear dKY
   clear dKG0 dKG1 dKG2
   clear dVh0 dVh1 dVh2
   refine (eqCache_has (c := T) (UB Hh) (VF (UB Hs) (UB BS)) (UB HT2)).mono ?_
   rintro e w23 ⟨rfl, bw23⟩
   replace bb := UG bb bw23
   replace K0 := UC (UE bw23 (UB K0))
   replace KM := UC (UE bw23 (UB KM))
   replace Vs := UC (UE bw23 (UB Vs))
   replace BS := UC ((UB BS).trans (bw23.mono (UB BS).size))
   replace KX := UC (UE bw23 (UB KX))
   replace KY := UC (UE bw23 (UB KY))
   replace KG := UC (UE bw23 (UB KG))
   replace MC := UC (RowX.below (ownsSl 67 56 5 3) (UB MC) bw23)
   replace MR := UC ((UB MR).below bw23)
   replace Vh := UC (UE bw23 (UB Vh))
   replace Hh := UC (VF (UB Hh) bw23)
   replace Rh := UC ((UB Rh).below bw23)
   have zbw23 := bw23.size
   clear bw23
   obtain ⟨dK00, dK01, dK02⟩ := UL (UB K0)
   have dKM := US (UB KM)
   obtain ⟨dVs0, dVs1, dVs2⟩ := UL (UB Vs)
   obtain ⟨dKX0, dKX1, dKX2⟩ := UL (UB KX)
   have dKY := US (UB KY)
   obtain ⟨dKG0, dKG1, dKG2⟩ := UL (UB KG)
   obtain ⟨dVh0, dVh1, dVh2⟩ := UL (UB Vh)
   go_wp2_with fail
   clear dK00 dK01 dK02
   clear dKM
   clear dVs0 dVs1 dVs2
   clear dKX0 dKX1 dKX2
   clear dKY
   clear dKG0 dKG1 dKG2
   clear dVh0 dVh1 dVh2
   refine (eqRrS_has (UB Rh) ((UB Rs).below (UB BS)) (UB HG2)).mono ?_
   rintro e w24 ⟨rfl, bw24⟩
   replace bb := UG bb bw24
   replace K0 := UC (UE bw24 (UB K0))
   replace KM := UC (UE bw24 (UB KM))
   replace Vs := UC (UE bw24 (UB Vs))
   replace BS := UC ((UB BS).trans (bw24.mono (UB BS).size))
   replace KX := UC (UE bw24 (UB KX))
   replace KY := UC (UE bw24 (UB KY))
   replace KG := UC (UE bw24 (UB KG))
   replace MC := UC (RowX.below (ownsSl 67 56 5 3) (UB MC) bw24)
   replace MR := UC ((UB MR).below bw24)
   replace Vh := UC (UE bw24 (UB Vh))
   replace Hh := UC (VF (UB Hh) bw24)
   replace Rh := UC ((UB Rh).below bw24)
   have zbw24 := bw24.size
   clear bw24
   obtain ⟨dK00, dK01, dK02⟩ := UL (UB K0)
   have dKM := US (UB KM)
   obtain ⟨dVs0, dVs1, dVs2⟩ := UL (UB Vs)
   obtain ⟨dKX0, dKX1, dKX2⟩ := UL (UB KX)
   have dKY := US (UB KY)
   obtain ⟨dKG0, dKG1, dKG2⟩ := UL (UB KG)
   obtain ⟨dVh0, dVh1, dVh2⟩ := UL (UB Vh)
   go_wp2_with fail
   clear dK00 dK01 dK02
   clear dKM
   clear dVs0 dVs1 dVs2
   clear dKX0 dKX1 dKX2
   clear dKY
   clear dKG0 dKG1 dKG2
   clear dVh0 dVh1 dVh2
   refine (UB HDC _ _ (RowSl.hasS (UB MC))).mono ?_
   rintro e w25 ⟨rfl, bw25⟩
   replace bb := UG bb bw25
   replace K0 := UC (UE bw25 (UB K0))
   replace KM := UC (UE bw25 (UB KM))
   replace Vs := UC (UE bw25 (UB Vs))
   replace BS := UC ((UB BS).trans (bw25.mono (UB BS).size))
   replace KX := UC (UE bw25 (UB KX))
   replace KY := UC (UE bw25 (UB KY))
   replace KG := UC (UE bw25 (UB KG))
   replace MC := UC (RowX.below (ownsSl 67 56 5 3) (UB MC) bw25)
   replace MR := UC ((UB MR).below bw25)
   replace Vh := UC (UE bw25 (UB Vh))
   replace Hh := UC (VF (UB Hh) bw25)
   replace Rh := UC ((UB Rh).below bw25)
   have zbw25 := bw25.size
   clear bw25
   obtain ⟨dK00, dK01, dK02⟩ := UL (UB K0)
   have dKM := US (UB KM)
   obtain ⟨dVs0, dVs1, dVs2⟩ := UL (UB Vs)
   obtain ⟨dKX0, dKX1, dKX2⟩ := UL (UB KX)
   have dKY := US (UB KY)
   obtain ⟨dKG0, dKG1, dKG2⟩ := UL (UB KG)
   obtain ⟨dVh0, dVh1, dVh2⟩ := UL (UB Vh)
   go_wp2_with fail
   clear dK00 dK01 dK02
   clear dKM
   clear dVs0 dVs1 dVs2
   clear dKX0 dKX1 dKX2
   clear dKY
   clear dKG0 dKG1 dKG2
   clear dVh0 dVh1 dVh2
   refine (UB HDR _ _ (UB MR).has).mono ?_
   rintro e wh ⟨rfl, rfl⟩
   go_wp2_with fail
   go_ret
   exact ⟨rfl, bb⟩
end Go.Proofs.YtaehfeobfkaicaaGreat
