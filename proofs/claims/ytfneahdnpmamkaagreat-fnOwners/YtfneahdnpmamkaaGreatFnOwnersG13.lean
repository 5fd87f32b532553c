/-
  Contracts of the specification's l2bent: a drawn name, perhaps with one label more that may not be.
-/
import Derived.Test.YtfneahdnpmamkaaGreatFnOwnersG12
import Derived.Lib.SlBytesConst
import Derived.RangeFuncBox
namespace Go.Proofs.YtfneahdnpmamkaaGreat
open Go.RowKit
set_option linter.unusedVariables false

theorem Fo : (Tryz.prog.info? 22).map (fun i => (i.zero, i.size, i.bytes)) = some (some (.slice none 0 0), 1, 24) := by kernel_rfl
theorem Um.bound {n : List (List Int)} (h : Um n) : n.length ≤ 6 ∧ ∀ i, i < n.length → (n.getD i []).length ≤ 15 := by
 obtain ⟨s, _, rfl⟩ := h
 exact Nc _
def Bent (w : World) (g : Nat) (a : Option Addr) (len cap : Nat) (e : Ending) (w' : World) : Prop :=
 ∃ v' n, e = .returned (.agg #[v']) ∧ n.length ≤ 7 ∧ (∀ i, i < n.length → (n.getD i []).length ≤ 16) ∧ OwnT w.heap.size 22 5 w' v' n ∧ Cur w' g a len cap ∧ w.grownBy w' (some g)

set_option maxHeartbeats 4000000 in
set_option maxRecDepth 100000 in
theorem I9 {g : Nat} {a : Option Addr} {len cap : Nat} {w : World} (hc : Cur w g a len cap) (hL : Code w g a len) (hm : len ≤ maxLen) :
  Calls Tryz.prog 33 #[.pointer (some ⟨g, 0, none⟩)] w (Bent w g a len cap) := by
 have hg := hc.lt
 have hcid := fun (w : World) (C : Array Value) (n c : Nat) => Lib.run_convert_bytes_const (P := Tryz.prog) w 22 5 C n c Tryz.underlying22 Tryz.underlying5
 have b0 := UI (w := w) (.cells #[.slice none 0 0] 25)
 have k0 := heap_alloc_new w (.cells #[.slice none 0 0] 25)
 have g0 : w.grownBy (w.alloc (.cells #[.slice none 0 0] 25)) (some g) := Au _ _ _
 have hc0 := hc.later (Au w (.cells #[.slice none 0 0] 25) none) (fun j e => by cases e)
 have hL0 := hL.later (Au w (.cells #[.slice none 0 0] 25) none) (fun j e => by cases e)
 have HD := UC (He hc0 hL0 hm)
 have HLL := UC hL
 have K0 := UC k0
 have G0 := UC g0
 have z0 := VC k0
 clear hc hL k0 g0 hc0 hL0 b0
 go_enter Tryz.func33, Tryz.ntmps33
 go_wp2_with fail
 generalize w.alloc (.cells #[.slice none 0 0] 25) = W at *
 refine (UB HD).mono ?_
 rintro e w1 ⟨v1, n, rfl, hn, o1, c1, g1⟩
 obtain ⟨hn6, hn15⟩ := hn.bound
 obtain ⟨oa, oc, rfl, _⟩ := o1.hasL.form
 have gA : w.grownBy w1 (some g) := ⟨g1.os.trans (UB G0).os, g1.tape.trans (UB G0).tape, g1.output.trans (UB G0).output, Nat.le_trans (UB G0).size g1.size, fun i hi hq => (g1.block i (Nat.lt_of_lt_of_le hi (UB G0).size) hq).trans ((UB G0).block i hi hq)⟩
 have k1 := Aa g1 (UB K0) (by simp; omega)
 have b2 := UI (w := w1) (.cells #[.slice oa n.length oc] 25)
 have K2 := UC (heap_alloc_new w1 (.cells #[.slice oa n.length oc] 25))
 have R2 := UC (UE b2 k1)
 have O2 := UC (o1.below b2)
 have G2 := UC (Ae gA (Au w1 (.cells #[.slice oa n.length oc] 25) none) (fun j e => by cases e))
 have c2 := c1.later (Au w1 (.cells #[.slice oa n.length oc] 25) none) (fun j e => by cases e)
 have L2 := (UB HLL).later (UB G2) (fun j e => by cases e; exact Nat.le_refl _)
 have HO := UC (Eg 9 c2 L2 hm (by omega) (by omega))
 have zW := VC (UB K0)
 have z1 := g1.size
 clear hn o1 c1 g1 k1 b2 c2 L2 HD K0 G0 gA
 go_wp2_with fail
 generalize w1.alloc (.cells #[.slice oa n.length oc] 25) = w2 at *
 refine (UB HO).mono ?_
 rintro e w3 ⟨x, rfl, c3, g3⟩
 have zk2 := VC (UB K2)
 have K3 := UC (Aa g3 (UB K2) (by simp; omega))
 have R3 := UC (Aa g3 (UB R2) (by simp; omega))
 have O3 := UC ((UB O2).kept g3 (by omega))
 have G3 : w.grownBy w3 (some g) := ⟨g3.os.trans (UB G2).os, g3.tape.trans (UB G2).tape, g3.output.trans (UB G2).output, Nat.le_trans (UB G2).size g3.size, fun i hi hq => (g3.block i (Nat.lt_of_lt_of_le hi (UB G2).size) hq).trans ((UB G2).block i hi hq)⟩
 have z3 := g3.size
 have GG3 := UC G3
 have C3 := UC c3
 clear HO K2 R2 O2 G2 g3 G3 c3
 cases x with
 | false =>
  have kn := US (UB K3)
  have kr := US (UB R3)
  have fr := VG (UB R3) 0
  have M3 := UC (Av (UB R3) (.slice oa n.length oc))
  go_wp2_with fail
  refine bodyPost_ret (results_cell_row rfl _ _ w.heap.size 25 #[.slice oa n.length oc] (0, 0) _ rfl (UB M3) Tryz.underlying25 rfl (by kernel_rfl)) rfl ?_
  have gs := Ab w3 ⟨w.heap.size, 0, none⟩ (.slice oa n.length oc)
  exact ⟨_, n, rfl, by omega, fun i hi => by have := hn15 i hi; omega, (((UB O3).kept gs (by omega)).mono (by omega)).ownT, (UB C3).later gs (fun j e => by cases e; exact hg), Ae (UB GG3) gs (fun j e => by cases e; exact Nat.le_refl _)⟩
 | true =>
  have L3 := (UB HLL).later (UB GG3) (fun j e => by cases e; exact Nat.le_refl _)
  have HB := UC (A9 4 (UB C3) L3 hm (by omega) (by omega))
  clear L3
  go_wp2_with fail
  refine (UB HB).mono ?_
  rintro e w4 ⟨x, rfl, hx0, hx1, c4, g4⟩
  have K4 := UC (Aa g4 (UB K3) (by simp; omega))
  have R4 := UC (Aa g4 (UB R3) (by simp; omega))
  have O4 := (UB O3).kept g4 (by omega)
  have G4 : w.grownBy w4 (some g) := ⟨g4.os.trans (UB GG3).os, g4.tape.trans (UB GG3).tape, g4.output.trans (UB GG3).output, Nat.le_trans (UB GG3).size g4.size, fun i hi hq => (g4.block i (Nat.lt_of_lt_of_le hi (UB GG3).size) hq).trans ((UB GG3).block i hi hq)⟩
  have z4 := g4.size
  have GG4 := UC G4
  have C4 := UC c4
  obtain ⟨vs, hvs, hva⟩ := O4.ownT
  have hvl : vs.length = n.length := by have := hvs.1; simpa using this
  have HVS := UC hvs
  have HVA := UC hva
  have HO4 := UC O4
  clear K3 R3 O3 GG3 C3 HB g4 G4 c4 O4 hvs hva
  have hx : x = 0 ∨ x = 1 ∨ x = 2 ∨ x = 3 := by omega
  have kn := US (UB K4)
  have kr := US (UB R4)
  have hn16 : ∀ i, i < n.length → (n.getD i []).length ≤ 16 := fun i hi => by have := hn15 i hi; omega
  rcases hx with rfl | rfl | rfl | rfl
  ·clear hx0 hx1
   go_wp2_with (at_builtin; refine Jc rfl _ _ 23 22 rfl Tryz.underlying23 Fo W.heap.size (.slice oa n.length oc) _ vs [.slice none 0 0] rfl rfl (by rw [hvl]; exact World.ownsRow.alloc (UB HVS) _) (Cn w4 22 _) (by intro y hy; simp at hy; subst hy; rfl) (by rw [hvl]; simp; omega) (by simp; omega) ?_)
   intro v5 w5 o5 g5
   obtain ⟨v5g, v5c, rfl⟩ := ownsRow_succ (k := n.length) o5
   obtain ⟨k5, o6, k6, r6, c6, g6⟩ := Eh (UB HVS) (UB HVA) (UI _) (.inl ⟨rfl, rfl⟩) (Ci.nil _ _) o5 (by simp) g5 (UB K4) (UB R4) (by omega) (UB C4) (by omega) (by omega) (UB GG4) (by omega) (by omega)
   have kn5 := US k5
   have fn5 := VG k5 0
   have kn6 := US k6
   have kr6 := US r6
   have fr6 := VG r6 0
   have M6 := UC (Av r6 (.slice (some ⟨v5g, 0, none⟩) (n.length + 1) v5c))
   have O6 := UC (OwnT.set (j := 0) o6 r6 (by decide) (by decide) (.slice (some ⟨v5g, 0, none⟩) (n.length + 1) v5c))
   have C6 := UC c6
   have GG6 := UC g6
   clear o6 r6 k6 c6 g6 o5 g5 k5
   go_wp2_with fail
   refine bodyPost_ret (results_cell_row rfl _ _ w.heap.size 25 #[.slice (some ⟨v5g, 0, none⟩) (n.length + 1) v5c] (0, 0) _ rfl (UB M6) Tryz.underlying25 rfl (by kernel_rfl)) rfl ?_
   have gs := Ab (w5.setCell ⟨w1.heap.size, 0, none⟩ (.slice (some ⟨v5g, 0, none⟩) (n.length + 1) v5c)) ⟨w.heap.size, 0, none⟩ (.slice (some ⟨v5g, 0, none⟩) (n.length + 1) v5c)
   exact ⟨_, n ++ [([] : List Int)], rfl, by simp; omega, Dp hn16 (by simp), (UB O6).mono (by omega), (UB C6).later gs (fun j e => by cases e; exact hg), Ae (UB GG6) gs (fun j e => by cases e; exact Nat.le_refl _)⟩
  ·clear hx0 hx1
   have B5 := UC (Bl w4 (.cells #[.int .u8 81] 5 (1, 2)) (.cells #[.slice (some ⟨w4.heap.size, 0, none⟩) 1 1] 22))
   have U5 := UC ((Ph w4 5 [81] (1, 2) (by decide)).below (UI (.cells #[.slice (some ⟨w4.heap.size, 0, none⟩) 1 1] 22)))
   have T5 := UC ((Dx w4 5 #[.int .u8 81] (1, 2) 1 1).below (UI (.cells #[.slice (some ⟨w4.heap.size, 0, none⟩) 1 1] 22)))
   have M5 := Cn (w4.alloc (.cells #[.int .u8 81] 5 (1, 2))) 22 (.slice (some ⟨w4.heap.size, 0, none⟩) 1 1)
   have e5 : (w4.alloc (.cells #[.int .u8 81] 5 (1, 2))).heap.size = w4.heap.size + 1 := by show (w4.heap.push _).size = _; simp
   rw [e5] at M5
   have HM5 := UC M5
   clear M5 e5
   go_wp2_with (at_builtin; refine Jc rfl _ _ 23 22 rfl Tryz.underlying23 Fo W.heap.size (.slice oa n.length oc) _ vs [.slice (some ⟨w4.heap.size, 0, none⟩) 1 1] rfl rfl (by rw [hvl]; exact Ay (UB HVS) (UB B5)) (UB HM5) (by intro y hy; simp at hy; subst hy; rfl) (by rw [hvl]; simp; omega) (by simp; omega) ?_)
   intro v5 w5 o5 g5
   obtain ⟨v5g, v5c, rfl⟩ := ownsRow_succ (k := n.length) o5
   obtain ⟨k5, o6, k6, r6, c6, g6⟩ := Eh (UB HVS) (UB HVA) (UB B5) (UB U5) (UB T5) o5 (by simp) g5 (UB K4) (UB R4) (by omega) (UB C4) (by omega) (by omega) (UB GG4) (by omega) (by omega)
   have kn5 := US k5
   have fn5 := VG k5 0
   have kn6 := US k6
   have kr6 := US r6
   have fr6 := VG r6 0
   have M6 := UC (Av r6 (.slice (some ⟨v5g, 0, none⟩) (n.length + 1) v5c))
   have O6 := UC (OwnT.set (j := 0) o6 r6 (by decide) (by decide) (.slice (some ⟨v5g, 0, none⟩) (n.length + 1) v5c))
   have C6 := UC c6
   have GG6 := UC g6
   clear o6 r6 k6 c6 g6 o5 g5 k5
   go_wp2_with fail
   refine bodyPost_ret (results_cell_row rfl _ _ w.heap.size 25 #[.slice (some ⟨v5g, 0, none⟩) (n.length + 1) v5c] (0, 0) _ rfl (UB M6) Tryz.underlying25 rfl (by kernel_rfl)) rfl ?_
   have gs := Ab (w5.setCell ⟨w1.heap.size, 0, none⟩ (.slice (some ⟨v5g, 0, none⟩) (n.length + 1) v5c)) ⟨w.heap.size, 0, none⟩ (.slice (some ⟨v5g, 0, none⟩) (n.length + 1) v5c)
   exact ⟨_, n ++ [([81] : List Int)], rfl, by simp; omega, Dp hn16 (by simp), (UB O6).mono (by omega), (UB C6).later gs (fun j e => by cases e; exact hg), Ae (UB GG6) gs (fun j e => by cases e; exact Nat.le_refl _)⟩
  ·clear hx0 hx1
   have bD := UX (w := w4)
   have KD := UC (UE bD (UB K4))
   have RD := UC (UE bD (UB R4))
   have OD := UC ((UB HO4).below bD)
   have gd : w4.grownBy w4.drew none := ⟨rfl, rfl, rfl, Nat.le_refl _, fun _ _ _ => rfl⟩
   have CD := UC ((UB C4).later gd (fun j e => by cases e))
   have GD : w.grownBy w4.drew (some g) := Ae (UB GG4) gd (fun j e => by cases e)
   have HGD := UC GD
   have cD := US (UB KD)
   have zD : w4.heap.size ≤ w4.drew.heap.size := Nat.le_refl _
   clear bD gd GD K4 R4 HVS HVA HO4 C4 GG4 hvl
   go_wp2_with fail
   refine wp_region_any (by kernel_rfl) ?_
   show wpAny _ _ _ _ _ _ _ w4.drew
   generalize w4.drew = D at *
   refine wpAny_take (i := 0) (oi := _) (v := .pointer (some ⟨w1.heap.size, 0, none⟩)) rfl (by kernel_rfl) (by kernel_rfl) (by kernel_rfl) (fun _ _ _ h => h) (Or.inl ⟨by rfl, fun w => by go_simp⟩) ?_
   try simp only [Act.put, List.setIfInBounds_toArray]
   refine wpAny_take (i := 3) (oi := _) (v := .pointer (some ⟨g, 0, none⟩)) rfl (by kernel_rfl) (by kernel_rfl) (by kernel_rfl) (fun _ _ _ h => h) (Or.inl ⟨by rfl, fun w => by go_simp⟩) ?_
   try simp only [Act.put]
   refine Gg (i := 1) (oi := _) (v := .slice oa n.length oc) (fun w' => w'.cell? ⟨w1.heap.size, 0, none⟩ = some (.slice oa n.length oc)) rfl (by kernel_rfl) (by kernel_rfl) (by kernel_rfl) (fun _ _ _ h => h) (Or.inl ⟨by rfl, fun w' hw' => by go_simp⟩) cD ?_
   try simp only [Act.put]
   refine Al (js := [2, 4]) (by kernel_rfl) (by simp) (AllT.cons (o := _) rfl (fun K hK => ?_) (AllT.cons (o := _) rfl (fun K hK => ?_) AllT.nil))
   ·have HK := UC hK
    clear hK
    have bE := UI (w := D) (.cells #[.string ⟨#[97, 98, 99, 100, 101, 102, 103, 104, 105, 106, 107, 108, 109, 110, 111]⟩, .string ⟨#[97, 98, 99, 100, 101, 102, 103, 104, 105, 106, 107, 108, 109, 110, 111, 112]⟩] 9)
    have SE := UC (heap_alloc_new D (.cells #[.string ⟨#[97, 98, 99, 100, 101, 102, 103, 104, 105, 106, 107, 108, 109, 110, 111]⟩, .string ⟨#[97, 98, 99, 100, 101, 102, 103, 104, 105, 106, 107, 108, 109, 110, 111, 112]⟩] 9))
    have KE := UC (UE bE (UB KD))
    have RE := UC (UE bE (UB RD))
    have OE := UC ((UB OD).below bE)
    have CE := (UB CD).later (Au D (.cells #[.string ⟨#[97, 98, 99, 100, 101, 102, 103, 104, 105, 106, 107, 108, 109, 110, 111]⟩, .string ⟨#[97, 98, 99, 100, 101, 102, 103, 104, 105, 106, 107, 108, 109, 110, 111, 112]⟩] 9) none) (fun j e => by cases e)
    have GE := Ae (UB HGD) (Au D (.cells #[.string ⟨#[97, 98, 99, 100, 101, 102, 103, 104, 105, 106, 107, 108, 109, 110, 111]⟩, .string ⟨#[97, 98, 99, 100, 101, 102, 103, 104, 105, 106, 107, 108, 109, 110, 111, 112]⟩] 9) none) (fun j e => by cases e)
    have LE := (UB HLL).later GE (fun j e => by cases e; exact Nat.le_refl _)
    have HB2 := UC (A9 2 CE LE hm (by omega) (by omega))
    have HGE := UC GE
    have cE := US (UB KE)
    have zE := bE.size
    have zs := VC (UB SE)
    clear bE CE GE LE
    go_simp
    refine UB HK _ _ cE ?_
    clear HK K
    try simp only [Act.put, List.setIfInBounds_toArray, List.set_cons_zero, List.set_cons_succ]
    generalize D.alloc (.cells #[.string ⟨#[97, 98, 99, 100, 101, 102, 103, 104, 105, 106, 107, 108, 109, 110, 111]⟩, .string ⟨#[97, 98, 99, 100, 101, 102, 103, 104, 105, 106, 107, 108, 109, 110, 111, 112]⟩] 9) = E at *
    refine Al (js := [4]) (by kernel_rfl) (by simp) (AllT.cons (o := _) rfl (fun K hK => ?_) AllT.nil)
    have HK := UC hK
    clear hK
    go_simp
    refine (UB HB2).mono ?_
    rintro e X ⟨x, rfl, hx0, hx1, cX0, gX⟩
    have KX := UC (Aa gX (UB KE) (by simp; omega))
    have RX := UC (Aa gX (UB RE) (by simp; omega))
    have OX := UC ((UB OE).kept gX (by omega))
    have SX := UC (Aa gX (UB SE) (by simp; omega))
    have GX : w.grownBy X (some g) := ⟨gX.os.trans (UB HGE).os, gX.tape.trans (UB HGE).tape, gX.output.trans (UB HGE).output, Nat.le_trans (UB HGE).size gX.size, fun i hi hq => (gX.block i (Nat.lt_of_lt_of_le hi (UB HGE).size) hq).trans ((UB HGE).block i hi hq)⟩
    have zX := gX.size
    have CX := UC cX0
    replace GX := UC GX
    clear gX cX0 HGE SE KE RE OE CD KD RD OD HGD HB2 cE cD
    obtain ⟨vx, hvx, hvxa⟩ := (UB OX).ownT
    have hxl : vx.length = n.length := by have := hvx.1; simpa using this
    have HVX := UC hvx
    have HVXA := UC hvxa
    have cX := US (UB KX)
    have s0 := VE (UB SX) 0
    have s1 := VE (UB SX) 1
    simp only [List.getElem?_toArray, List.getElem?_cons_zero, List.getElem?_cons_succ] at s0 s1
    clear hvx hvxa
    go_simp
    refine UB HK _ _ cX ?_
    clear HK K
    try simp only [Act.put, List.setIfInBounds_toArray, List.set_cons_zero, List.set_cons_succ]
    have hx : x = 0 ∨ x = 1 := by omega
    clear hx0 hx1
    rcases hx with rfl | rfl
    ·refine Al (js := [5]) (by kernel_rfl) (by simp) (AllT.cons (o := _) rfl (fun K hK => ?_) AllT.nil)
     have HK := UC hK
     clear hK
     go_simp
     refine UB HK _ _ cX ?_
     clear HK K
     try simp only [Act.put, List.setIfInBounds_toArray, List.set_cons_zero, List.set_cons_succ]
     refine Al (js := [6]) (by kernel_rfl) (by simp) (AllT.cons (o := _) rfl (fun K hK => ?_) AllT.nil)
     have HK := UC hK
     clear hK
     go_simp
     refine UB HK _ _ cX ?_
     clear HK K
     try simp only [Act.put, List.setIfInBounds_toArray, List.set_cons_zero, List.set_cons_succ]
     have hcv := run_bytes_of_string (P := Tryz.prog) X 9 22 5 ⟨#[97, 98, 99, 100, 101, 102, 103, 104, 105, 106, 107, 108, 109, 110, 111]⟩ Tryz.underlying9 Tryz.underlying22 Tryz.underlying5
     have hcap := grownCap_ge X (ByteArray.size ⟨#[97, 98, 99, 100, 101, 102, 103, 104, 105, 106, 107, 108, 109, 110, 111]⟩) 0 5
     have hcap2 := grownCap_le_maxLen X (ByteArray.size ⟨#[97, 98, 99, 100, 101, 102, 103, 104, 105, 106, 107, 108, 109, 110, 111]⟩) 0 5 (by decide)
     generalize grownCap X (ByteArray.size ⟨#[97, 98, 99, 100, 101, 102, 103, 104, 105, 106, 107, 108, 109, 110, 111]⟩) 0 5 = C at *
     have bq := UG (UI (w := X) (.cells (bytesRow ⟨#[97, 98, 99, 100, 101, 102, 103, 104, 105, 106, 107, 108, 109, 110, 111]⟩ C) 5 ((bytesRow ⟨#[97, 98, 99, 100, 101, 102, 103, 104, 105, 106, 107, 108, 109, 110, 111]⟩ C).size, (bytesRow ⟨#[97, 98, 99, 100, 101, 102, 103, 104, 105, 106, 107, 108, 109, 110, 111]⟩ C).size + 1))) (UX (w := X.alloc (.cells (bytesRow ⟨#[97, 98, 99, 100, 101, 102, 103, 104, 105, 106, 107, 108, 109, 110, 111]⟩ C) 5 ((bytesRow ⟨#[97, 98, 99, 100, 101, 102, 103, 104, 105, 106, 107, 108, 109, 110, 111]⟩ C).size, (bytesRow ⟨#[97, 98, 99, 100, 101, 102, 103, 104, 105, 106, 107, 108, 109, 110, 111]⟩ C).size + 1))))
     have HU := UC ((Hc X 5 ⟨#[97, 98, 99, 100, 101, 102, 103, 104, 105, 106, 107, 108, 109, 110, 111]⟩ C ((bytesRow ⟨#[97, 98, 99, 100, 101, 102, 103, 104, 105, 106, 107, 108, 109, 110, 111]⟩ C).size, (bytesRow ⟨#[97, 98, 99, 100, 101, 102, 103, 104, 105, 106, 107, 108, 109, 110, 111]⟩ C).size + 1) hcap hcap2).below (UX (w := X.alloc (.cells (bytesRow ⟨#[97, 98, 99, 100, 101, 102, 103, 104, 105, 106, 107, 108, 109, 110, 111]⟩ C) 5 ((bytesRow ⟨#[97, 98, 99, 100, 101, 102, 103, 104, 105, 106, 107, 108, 109, 110, 111]⟩ C).size, (bytesRow ⟨#[97, 98, 99, 100, 101, 102, 103, 104, 105, 106, 107, 108, 109, 110, 111]⟩ C).size + 1)))))
     have HTU := UC ((Dx X 5 (bytesRow ⟨#[97, 98, 99, 100, 101, 102, 103, 104, 105, 106, 107, 108, 109, 110, 111]⟩ C) ((bytesRow ⟨#[97, 98, 99, 100, 101, 102, 103, 104, 105, 106, 107, 108, 109, 110, 111]⟩ C).size, (bytesRow ⟨#[97, 98, 99, 100, 101, 102, 103, 104, 105, 106, 107, 108, 109, 110, 111]⟩ C).size + 1) 15 C).below (UX (w := X.alloc (.cells (bytesRow ⟨#[97, 98, 99, 100, 101, 102, 103, 104, 105, 106, 107, 108, 109, 110, 111]⟩ C) 5 ((bytesRow ⟨#[97, 98, 99, 100, 101, 102, 103, 104, 105, 106, 107, 108, 109, 110, 111]⟩ C).size, (bytesRow ⟨#[97, 98, 99, 100, 101, 102, 103, 104, 105, 106, 107, 108, 109, 110, 111]⟩ C).size + 1)))))
     have HBQ := UC bq
     have kQ := US (UE bq (UB KX))
     have kQ2 : ∀ o, ((X.alloc (.cells (bytesRow ⟨#[97, 98, 99, 100, 101, 102, 103, 104, 105, 106, 107, 108, 109, 110, 111]⟩ C) 5 ((bytesRow ⟨#[97, 98, 99, 100, 101, 102, 103, 104, 105, 106, 107, 108, 109, 110, 111]⟩ C).size, (bytesRow ⟨#[97, 98, 99, 100, 101, 102, 103, 104, 105, 106, 107, 108, 109, 110, 111]⟩ C).size + 1))).drew.alloc o).cell? ⟨w1.heap.size, 0, none⟩ = some (.slice oa n.length oc) := fun o => US (UE (UI o) (UE bq (UB KX)))
     have zq := bq.size
     clear bq hcap hcap2
     refine Al (js := [7]) (by kernel_rfl) (by simp) (AllT.cons (o := _) rfl (fun K hK => ?_) AllT.nil)
     have HK := UC hK
     clear hK
     go_simp
     refine UB HK _ _ kQ ?_
     clear HK K
     try simp only [Act.put, List.setIfInBounds_toArray, List.set_cons_zero, List.set_cons_succ]
     generalize (X.alloc (.cells (bytesRow ⟨#[97, 98, 99, 100, 101, 102, 103, 104, 105, 106, 107, 108, 109, 110, 111]⟩ C) 5 ((bytesRow ⟨#[97, 98, 99, 100, 101, 102, 103, 104, 105, 106, 107, 108, 109, 110, 111]⟩ C).size, (bytesRow ⟨#[97, 98, 99, 100, 101, 102, 103, 104, 105, 106, 107, 108, 109, 110, 111]⟩ C).size + 1))).drew = Y at *
     refine Al (js := [8]) (by kernel_rfl) (by simp) (AllT.cons (o := _) rfl (fun K hK => ?_) AllT.nil)
     have HK := UC hK
     clear hK
     go_simp
     refine UB HK _ _ (kQ2 _) ?_
     clear HK K
     try simp only [Act.put, List.setIfInBounds_toArray, List.set_cons_zero, List.set_cons_succ]
     refine AnyT.over _ _ _ _ (by kernel_rfl) ?_
     refine wpAny_ready (rs := [9]) (by kernel_rfl) (by simp) (AllReady.cons (o := _) rfl (fun K hK => ?_) AllReady.nil)
     have HK := UC hK
     clear hK
     refine Bj rfl (.tmp 40) (.tmp 47) 23 22 rfl Tryz.underlying23 Fo W.heap.size (.slice oa n.length oc) _ vx [.slice (some ⟨X.heap.size, 0, none⟩) 15 C] (by simp [Act.eval]) (by simp [Act.eval]) (by rw [hxl]; exact World.ownsRow.alloc (Ay (UB HVX) (UB HBQ)) _) (Cn Y 22 _) (by intro y hy; simp at hy; subst hy; rfl) (by rw [hxl]; simp; omega) (by simp; omega) ?_
     intro v6 w6 o6 g6
     replace o6 : w6.ownsRow W.heap.size 22 1 v6 (n.length + 1) (vx ++ [.slice (some ⟨X.heap.size, 0, none⟩) 15 C]) := by rw [← hxl]; exact o6
     obtain ⟨v6g, v6c, rfl⟩ := ownsRow_succ (k := n.length) o6
     obtain ⟨k6, p6, k7, r7, c7, g7⟩ := Eh (UB HVX) (UB HVXA) ((UB HBQ).alloc (UB HBQ).size _) ((UB HU).below (UI _)) ((UB HTU).below (UI _)) o6 (by simp) g6 (UB KX) (UB RX) (by omega) (UB CX) (by omega) (by omega) (UB GX) (by omega) (by omega)
     have cn6 := US k6
     have fn6 := VG k6 0
     have P6 := UC p6
     have K7 := UC k7
     have R7 := UC r7
     have C7 := UC c7
     have G7 := UC g7
     clear k6 p6 k7 r7 c7 g7 o6 g6
     refine UB HK _ _ ?_
     clear HK K
     try simp only [Act.put, List.setIfInBounds_toArray]
     refine wpAny_ready (rs := [10]) (by kernel_rfl) (by simp) (AllReady.cons (o := _) rfl (fun K hK => ?_) AllReady.nil)
     have HK := UC hK
     clear hK
     go_simp
     refine UB HK _ _ ?_
     clear HK K
     try simp only [Act.put, List.setIfInBounds_toArray, List.set_cons_zero, List.set_cons_succ]
     refine wpAny_ready (rs := [11]) (by kernel_rfl) (by simp) (AllReady.cons (o := _) rfl (fun K hK => ?_) AllReady.nil)
     have HK := UC hK
     clear hK
     go_simp
     refine UB HK _ _ ?_
     clear HK K
     try simp only [Act.put, List.setIfInBounds_toArray, List.set_cons_zero, List.set_cons_succ]
     refine wpAny_done (by kernel_rfl) ?_ _
     have cn7 := US (UB K7)
     have cr7 := US (UB R7)
     have fr7 := VG (UB R7) 0
     have M7 := UC (Av (UB R7) (.slice (some ⟨v6g, 0, none⟩) (n.length + 1) v6c))
     have O7 := UC (OwnT.set (j := 0) (UB P6) (UB R7) (by decide) (by decide) (.slice (some ⟨v6g, 0, none⟩) (n.length + 1) v6c))
     clear R7 K7 P6
     go_wp2_with fail
     refine bodyPost_ret (results_cell_row rfl _ _ w.heap.size 25 #[.slice (some ⟨v6g, 0, none⟩) (n.length + 1) v6c] (0, 0) _ rfl (UB M7) Tryz.underlying25 rfl (by kernel_rfl)) rfl ?_
     have gs := Ab (w6.setCell ⟨w1.heap.size, 0, none⟩ (.slice (some ⟨v6g, 0, none⟩) (n.length + 1) v6c)) ⟨w.heap.size, 0, none⟩ (.slice (some ⟨v6g, 0, none⟩) (n.length + 1) v6c)
     exact ⟨_, n ++ [Bz ⟨#[97, 98, 99, 100, 101, 102, 103, 104, 105, 106, 107, 108, 109, 110, 111]⟩], rfl, by simp; omega, Dp hn16 (by rw [Bq]; decide), (UB O7).mono (by omega), (UB C7).later gs (fun j e => by cases e; exact hg), Ae (UB G7) gs (fun j e => by cases e; exact Nat.le_refl _)⟩
    ·refine Al (js := [5]) (by kernel_rfl) (by simp) (AllT.cons (o := _) rfl (fun K hK => ?_) AllT.nil)
     have HK := UC hK
     clear hK
     go_simp
     refine UB HK _ _ cX ?_
     clear HK K
     try simp only [Act.put, List.setIfInBounds_toArray, List.set_cons_zero, List.set_cons_succ]
     refine Al (js := [6]) (by kernel_rfl) (by simp) (AllT.cons (o := _) rfl (fun K hK => ?_) AllT.nil)
     have HK := UC hK
     clear hK
     go_simp
     refine UB HK _ _ cX ?_
     clear HK K
     try simp only [Act.put, List.setIfInBounds_toArray, List.set_cons_zero, List.set_cons_succ]
     have hcv := run_bytes_of_string (P := Tryz.prog) X 9 22 5 ⟨#[97, 98, 99, 100, 101, 102, 103, 104, 105, 106, 107, 108, 109, 110, 111, 112]⟩ Tryz.underlying9 Tryz.underlying22 Tryz.underlying5
     have hcap := grownCap_ge X (ByteArray.size ⟨#[97, 98, 99, 100, 101, 102, 103, 104, 105, 106, 107, 108, 109, 110, 111, 112]⟩) 0 5
     have hcap2 := grownCap_le_maxLen X (ByteArray.size ⟨#[97, 98, 99, 100, 101, 102, 103, 104, 105, 106, 107, 108, 109, 110, 111, 112]⟩) 0 5 (by decide)
     generalize grownCap X (ByteArray.size ⟨#[97, 98, 99, 100, 101, 102, 103, 104, 105, 106, 107, 108, 109, 110, 111, 112]⟩) 0 5 = C at *
     have bq := UG (UI (w := X) (.cells (bytesRow ⟨#[97, 98, 99, 100, 101, 102, 103, 104, 105, 106, 107, 108, 109, 110, 111, 112]⟩ C) 5 ((bytesRow ⟨#[97, 98, 99, 100, 101, 102, 103, 104, 105, 106, 107, 108, 109, 110, 111, 112]⟩ C).size, (bytesRow ⟨#[97, 98, 99, 100, 101, 102, 103, 104, 105, 106, 107, 108, 109, 110, 111, 112]⟩ C).size + 1))) (UX (w := X.alloc (.cells (bytesRow ⟨#[97, 98, 99, 100, 101, 102, 103, 104, 105, 106, 107, 108, 109, 110, 111, 112]⟩ C) 5 ((bytesRow ⟨#[97, 98, 99, 100, 101, 102, 103, 104, 105, 106, 107, 108, 109, 110, 111, 112]⟩ C).size, (bytesRow ⟨#[97, 98, 99, 100, 101, 102, 103, 104, 105, 106, 107, 108, 109, 110, 111, 112]⟩ C).size + 1))))
     have HU := UC ((Hc X 5 ⟨#[97, 98, 99, 100, 101, 102, 103, 104, 105, 106, 107, 108, 109, 110, 111, 112]⟩ C ((bytesRow ⟨#[97, 98, 99, 100, 101, 102, 103, 104, 105, 106, 107, 108, 109, 110, 111, 112]⟩ C).size, (bytesRow ⟨#[97, 98, 99, 100, 101, 102, 103, 104, 105, 106, 107, 108, 109, 110, 111, 112]⟩ C).size + 1) hcap hcap2).below (UX (w := X.alloc (.cells (bytesRow ⟨#[97, 98, 99, 100, 101, 102, 103, 104, 105, 106, 107, 108, 109, 110, 111, 112]⟩ C) 5 ((bytesRow ⟨#[97, 98, 99, 100, 101, 102, 103, 104, 105, 106, 107, 108, 109, 110, 111, 112]⟩ C).size, (bytesRow ⟨#[97, 98, 99, 100, 101, 102, 103, 104, 105, 106, 107, 108, 109, 110, 111, 112]⟩ C).size + 1)))))
     have HTU := UC ((Dx X 5 (bytesRow ⟨#[97, 98, 99, 100, 101, 102, 103, 104, 105, 106, 107, 108, 109, 110, 111, 112]⟩ C) ((bytesRow ⟨#[97, 98, 99, 100, 101, 102, 103, 104, 105, 106, 107, 108, 109, 110, 111, 112]⟩ C).size, (bytesRow ⟨#[97, 98, 99, 100, 101, 102, 103, 104, 105, 106, 107, 108, 109, 110, 111, 112]⟩ C).size + 1) 16 C).below (UX (w := X.alloc (.cells (bytesRow ⟨#[97, 98, 99, 100, 101, 102, 103, 104, 105, 106, 107, 108, 109, 110, 111, 112]⟩ C) 5 ((bytesRow ⟨#[97, 98, 99, 100, 101, 102, 103, 104, 105, 106, 107, 108, 109, 110, 111, 112]⟩ C).size, (bytesRow ⟨#[97, 98, 99, 100, 101, 102, 103, 104, 105, 106, 107, 108, 109, 110, 111, 112]⟩ C).size + 1)))))
     have HBQ := UC bq
     have kQ := US (UE bq (UB KX))
     have kQ2 : ∀ o, ((X.alloc (.cells (bytesRow ⟨#[97, 98, 99, 100, 101, 102, 103, 104, 105, 106, 107, 108, 109, 110, 111, 112]⟩ C) 5 ((bytesRow ⟨#[97, 98, 99, 100, 101, 102, 103, 104, 105, 106, 107, 108, 109, 110, 111, 112]⟩ C).size, (bytesRow ⟨#[97, 98, 99, 100, 101, 102, 103, 104, 105, 106, 107, 108, 109, 110, 111, 112]⟩ C).size + 1))).drew.alloc o).cell? ⟨w1.heap.size, 0, none⟩ = some (.slice oa n.length oc) := fun o => US (UE (UI o) (UE bq (UB KX)))
     have zq := bq.size
     clear bq hcap hcap2
     refine Al (js := [7]) (by kernel_rfl) (by simp) (AllT.cons (o := _) rfl (fun K hK => ?_) AllT.nil)
     have HK := UC hK
     clear hK
     go_simp
     refine UB HK _ _ kQ ?_
     clear HK K
     try simp only [Act.put, List.setIfInBounds_toArray, List.set_cons_zero, List.set_cons_succ]
     generalize (X.alloc (.cells (bytesRow ⟨#[97, 98, 99, 100, 101, 102, 103, 104, 105, 106, 107, 108, 109, 110, 111, 112]⟩ C) 5 ((bytesRow ⟨#[97, 98, 99, 100, 101, 102, 103, 104, 105, 106, 107, 108, 109, 110, 111, 112]⟩ C).size, (bytesRow ⟨#[97, 98, 99, 100, 101, 102, 103, 104, 105, 106, 107, 108, 109, 110, 111, 112]⟩ C).size + 1))).drew = Y at *
     refine Al (js := [8]) (by kernel_rfl) (by simp) (AllT.cons (o := _) rfl (fun K hK => ?_) AllT.nil)
     have HK := UC hK
     clear hK
     go_simp
     refine UB HK _ _ (kQ2 _) ?_
     clear HK K
     try simp only [Act.put, List.setIfInBounds_toArray, List.set_cons_zero, List.set_cons_succ]
     refine AnyT.over _ _ _ _ (by kernel_rfl) ?_
     refine wpAny_ready (rs := [9]) (by kernel_rfl) (by simp) (AllReady.cons (o := _) rfl (fun K hK => ?_) AllReady.nil)
     have HK := UC hK
     clear hK
     refine Bj rfl (.tmp 40) (.tmp 47) 23 22 rfl Tryz.underlying23 Fo W.heap.size (.slice oa n.length oc) _ vx [.slice (some ⟨X.heap.size, 0, none⟩) 16 C] (by simp [Act.eval]) (by simp [Act.eval]) (by rw [hxl]; exact World.ownsRow.alloc (Ay (UB HVX) (UB HBQ)) _) (Cn Y 22 _) (by intro y hy; simp at hy; subst hy; rfl) (by rw [hxl]; simp; omega) (by simp; omega) ?_
     intro v6 w6 o6 g6
     replace o6 : w6.ownsRow W.heap.size 22 1 v6 (n.length + 1) (vx ++ [.slice (some ⟨X.heap.size, 0, none⟩) 16 C]) := by rw [← hxl]; exact o6
     obtain ⟨v6g, v6c, rfl⟩ := ownsRow_succ (k := n.length) o6
     obtain ⟨k6, p6, k7, r7, c7, g7⟩ := Eh (UB HVX) (UB HVXA) ((UB HBQ).alloc (UB HBQ).size _) ((UB HU).below (UI _)) ((UB HTU).below (UI _)) o6 (by simp) g6 (UB KX) (UB RX) (by omega) (UB CX) (by omega) (by omega) (UB GX) (by omega) (by omega)
     have cn6 := US k6
     have fn6 := VG k6 0
     have P6 := UC p6
     have K7 := UC k7
     have R7 := UC r7
     have C7 := UC c7
     have G7 := UC g7
     clear k6 p6 k7 r7 c7 g7 o6 g6
     refine UB HK _ _ ?_
     clear HK K
     try simp only [Act.put, List.setIfInBounds_toArray]
     refine wpAny_ready (rs := [10]) (by kernel_rfl) (by simp) (AllReady.cons (o := _) rfl (fun K hK => ?_) AllReady.nil)
     have HK := UC hK
     clear hK
     go_simp
     refine UB HK _ _ ?_
     clear HK K
     try simp only [Act.put, List.setIfInBounds_toArray, List.set_cons_zero, List.set_cons_succ]
     refine wpAny_ready (rs := [11]) (by kernel_rfl) (by simp) (AllReady.cons (o := _) rfl (fun K hK => ?_) AllReady.nil)
     have HK := UC hK
     clear hK
     go_simp
     refine UB HK _ _ ?_
     clear HK K
     try simp only [Act.put, List.setIfInBounds_toArray, List.set_cons_zero, List.set_cons_succ]
     refine wpAny_done (by kernel_rfl) ?_ _
     have cn7 := US (UB K7)
     have cr7 := US (UB R7)
     have fr7 := VG (UB R7) 0
     have M7 := UC (Av (UB R7) (.slice (some ⟨v6g, 0, none⟩) (n.length + 1) v6c))
     have O7 := UC (OwnT.set (j := 0) (UB P6) (UB R7) (by decide) (by decide) (.slice (some ⟨v6g, 0, none⟩) (n.length + 1) v6c))
     clear R7 K7 P6
     go_wp2_with fail
     refine bodyPost_ret (results_cell_row rfl _ _ w.heap.size 25 #[.slice (some ⟨v6g, 0, none⟩) (n.length + 1) v6c] (0, 0) _ rfl (UB M7) Tryz.underlying25 rfl (by kernel_rfl)) rfl ?_
     have gs := Ab (w6.setCell ⟨w1.heap.size, 0, none⟩ (.slice (some ⟨v6g, 0, none⟩) (n.length + 1) v6c)) ⟨w.heap.size, 0, none⟩ (.slice (some ⟨v6g, 0, none⟩) (n.length + 1) v6c)
     exact ⟨_, n ++ [Bz ⟨#[97, 98, 99, 100, 101, 102, 103, 104, 105, 106, 107, 108, 109, 110, 111, 112]⟩], rfl, by simp; omega, Dp hn16 (by rw [Bq]; decide), (UB O7).mono (by omega), (UB C7).later gs (fun j e => by cases e; exact hg), Ae (UB G7) gs (fun j e => by cases e; exact Nat.le_refl _)⟩
   ·have HK := UC hK
    clear hK
    have LD := (UB HLL).later (UB HGD) (fun j e => by cases e; exact Nat.le_refl _)
    have HB2 := UC (A9 2 (UB CD) LD hm (by omega) (by omega))
    clear LD
    go_simp
    refine (UB HB2).mono ?_
    rintro e E ⟨x, rfl, hx0, hx1, cE0, gE⟩
    have KE := UC (Aa gE (UB KD) (by simp; omega))
    have RE := UC (Aa gE (UB RD) (by simp; omega))
    have OE := UC ((UB OD).kept gE (by omega))
    have GE : w.grownBy E (some g) := ⟨gE.os.trans (UB HGD).os, gE.tape.trans (UB HGD).tape, gE.output.trans (UB HGD).output, Nat.le_trans (UB HGD).size gE.size, fun i hi hq => (gE.block i (Nat.lt_of_lt_of_le hi (UB HGD).size) hq).trans ((UB HGD).block i hi hq)⟩
    have zE := gE.size
    have cE := US (UB KE)
    have HGE := UC GE
    have HCE := UC cE0
    clear gE GE cE0 KD RD OD CD HGD HB2 cD
    go_simp
    refine UB HK _ _ cE ?_
    clear HK K
    try simp only [Act.put, List.setIfInBounds_toArray, List.set_cons_zero, List.set_cons_succ]
    have bX := UI (w := E) (.cells #[.string ⟨#[97, 98, 99, 100, 101, 102, 103, 104, 105, 106, 107, 108, 109, 110, 111]⟩, .string ⟨#[97, 98, 99, 100, 101, 102, 103, 104, 105, 106, 107, 108, 109, 110, 111, 112]⟩] 9)
    have SX := UC (heap_alloc_new E (.cells #[.string ⟨#[97, 98, 99, 100, 101, 102, 103, 104, 105, 106, 107, 108, 109, 110, 111]⟩, .string ⟨#[97, 98, 99, 100, 101, 102, 103, 104, 105, 106, 107, 108, 109, 110, 111, 112]⟩] 9))
    have KX := UC (UE bX (UB KE))
    have RX := UC (UE bX (UB RE))
    have OX := UC ((UB OE).below bX)
    have CX := UC ((UB HCE).later (Au E (.cells #[.string ⟨#[97, 98, 99, 100, 101, 102, 103, 104, 105, 106, 107, 108, 109, 110, 111]⟩, .string ⟨#[97, 98, 99, 100, 101, 102, 103, 104, 105, 106, 107, 108, 109, 110, 111, 112]⟩] 9) none) (fun j e => by cases e))
    have GX := UC (Ae (UB HGE) (Au E (.cells #[.string ⟨#[97, 98, 99, 100, 101, 102, 103, 104, 105, 106, 107, 108, 109, 110, 111]⟩, .string ⟨#[97, 98, 99, 100, 101, 102, 103, 104, 105, 106, 107, 108, 109, 110, 111, 112]⟩] 9) none) (fun j e => by cases e))
    have zX := bX.size
    obtain ⟨vx, hvx, hvxa⟩ := (UB OX).ownT
    have hxl : vx.length = n.length := by have := hvx.1; simpa using this
    have HVX := UC hvx
    have HVXA := UC hvxa
    have cX := US (UB KX)
    have s0 := VE (UB SX) 0
    have s1 := VE (UB SX) 1
    simp only [List.getElem?_toArray, List.getElem?_cons_zero, List.getElem?_cons_succ] at s0 s1
    clear hvx hvxa
    clear bX KE RE OE HGE HCE
    refine Al (js := [2]) (by kernel_rfl) (by simp) (AllT.cons (o := _) rfl (fun K hK => ?_) AllT.nil)
    have HK := UC hK
    clear hK
    go_simp
    refine UB HK _ _ cX ?_
    clear HK K
    try simp only [Act.put, List.setIfInBounds_toArray, List.set_cons_zero, List.set_cons_succ]
    generalize E.alloc (.cells #[.string ⟨#[97, 98, 99, 100, 101, 102, 103, 104, 105, 106, 107, 108, 109, 110, 111]⟩, .string ⟨#[97, 98, 99, 100, 101, 102, 103, 104, 105, 106, 107, 108, 109, 110, 111, 112]⟩] 9) = X at *
    have hx : x = 0 ∨ x = 1 := by omega
    clear hx0 hx1
    rcases hx with rfl | rfl
    ·refine Al (js := [5]) (by kernel_rfl) (by simp) (AllT.cons (o := _) rfl (fun K hK => ?_) AllT.nil)
     have HK := UC hK
     clear hK
     go_simp
     refine UB HK _ _ cX ?_
     clear HK K
     try simp only [Act.put, List.setIfInBounds_toArray, List.set_cons_zero, List.set_cons_succ]
     refine Al (js := [6]) (by kernel_rfl) (by simp) (AllT.cons (o := _) rfl (fun K hK => ?_) AllT.nil)
     have HK := UC hK
     clear hK
     go_simp
     refine UB HK _ _ cX ?_
     clear HK K
     try simp only [Act.put, List.setIfInBounds_toArray, List.set_cons_zero, List.set_cons_succ]
     have hcv := run_bytes_of_string (P := Tryz.prog) X 9 22 5 ⟨#[97, 98, 99, 100, 101, 102, 103, 104, 105, 106, 107, 108, 109, 110, 111]⟩ Tryz.underlying9 Tryz.underlying22 Tryz.underlying5
     have hcap := grownCap_ge X (ByteArray.size ⟨#[97, 98, 99, 100, 101, 102, 103, 104, 105, 106, 107, 108, 109, 110, 111]⟩) 0 5
     have hcap2 := grownCap_le_maxLen X (ByteArray.size ⟨#[97, 98, 99, 100, 101, 102, 103, 104, 105, 106, 107, 108, 109, 110, 111]⟩) 0 5 (by decide)
     generalize grownCap X (ByteArray.size ⟨#[97, 98, 99, 100, 101, 102, 103, 104, 105, 106, 107, 108, 109, 110, 111]⟩) 0 5 = C at *
     have bq := UG (UI (w := X) (.cells (bytesRow ⟨#[97, 98, 99, 100, 101, 102, 103, 104, 105, 106, 107, 108, 109, 110, 111]⟩ C) 5 ((bytesRow ⟨#[97, 98, 99, 100, 101, 102, 103, 104, 105, 106, 107, 108, 109, 110, 111]⟩ C).size, (bytesRow ⟨#[97, 98, 99, 100, 101, 102, 103, 104, 105, 106, 107, 108, 109, 110, 111]⟩ C).size + 1))) (UX (w := X.alloc (.cells (bytesRow ⟨#[97, 98, 99, 100, 101, 102, 103, 104, 105, 106, 107, 108, 109, 110, 111]⟩ C) 5 ((bytesRow ⟨#[97, 98, 99, 100, 101, 102, 103, 104, 105, 106, 107, 108, 109, 110, 111]⟩ C).size, (bytesRow ⟨#[97, 98, 99, 100, 101, 102, 103, 104, 105, 106, 107, 108, 109, 110, 111]⟩ C).size + 1))))
     have HU := UC ((Hc X 5 ⟨#[97, 98, 99, 100, 101, 102, 103, 104, 105, 106, 107, 108, 109, 110, 111]⟩ C ((bytesRow ⟨#[97, 98, 99, 100, 101, 102, 103, 104, 105, 106, 107, 108, 109, 110, 111]⟩ C).size, (bytesRow ⟨#[97, 98, 99, 100, 101, 102, 103, 104, 105, 106, 107, 108, 109, 110, 111]⟩ C).size + 1) hcap hcap2).below (UX (w := X.alloc (.cells (bytesRow ⟨#[97, 98, 99, 100, 101, 102, 103, 104, 105, 106, 107, 108, 109, 110, 111]⟩ C) 5 ((bytesRow ⟨#[97, 98, 99, 100, 101, 102, 103, 104, 105, 106, 107, 108, 109, 110, 111]⟩ C).size, (bytesRow ⟨#[97, 98, 99, 100, 101, 102, 103, 104, 105, 106, 107, 108, 109, 110, 111]⟩ C).size + 1)))))
     have HTU := UC ((Dx X 5 (bytesRow ⟨#[97, 98, 99, 100, 101, 102, 103, 104, 105, 106, 107, 108, 109, 110, 111]⟩ C) ((bytesRow ⟨#[97, 98, 99, 100, 101, 102, 103, 104, 105, 106, 107, 108, 109, 110, 111]⟩ C).size, (bytesRow ⟨#[97, 98, 99, 100, 101, 102, 103, 104, 105, 106, 107, 108, 109, 110, 111]⟩ C).size + 1) 15 C).below (UX (w := X.alloc (.cells (bytesRow ⟨#[97, 98, 99, 100, 101, 102, 103, 104, 105, 106, 107, 108, 109, 110, 111]⟩ C) 5 ((bytesRow ⟨#[97, 98, 99, 100, 101, 102, 103, 104, 105, 106, 107, 108, 109, 110, 111]⟩ C).size, (bytesRow ⟨#[97, 98, 99, 100, 101, 102, 103, 104, 105, 106, 107, 108, 109, 110, 111]⟩ C).size + 1)))))
     have HBQ := UC bq
     have kQ := US (UE bq (UB KX))
     have kQ2 : ∀ o, ((X.alloc (.cells (bytesRow ⟨#[97, 98, 99, 100, 101, 102, 103, 104, 105, 106, 107, 108, 109, 110, 111]⟩ C) 5 ((bytesRow ⟨#[97, 98, 99, 100, 101, 102, 103, 104, 105, 106, 107, 108, 109, 110, 111]⟩ C).size, (bytesRow ⟨#[97, 98, 99, 100, 101, 102, 103, 104, 105, 106, 107, 108, 109, 110, 111]⟩ C).size + 1))).drew.alloc o).cell? ⟨w1.heap.size, 0, none⟩ = some (.slice oa n.length oc) := fun o => US (UE (UI o) (UE bq (UB KX)))
     have zq := bq.size
     clear bq hcap hcap2
     refine Al (js := [7]) (by kernel_rfl) (by simp) (AllT.cons (o := _) rfl (fun K hK => ?_) AllT.nil)
     have HK := UC hK
     clear hK
     go_simp
     refine UB HK _ _ kQ ?_
     clear HK K
     try simp only [Act.put, List.setIfInBounds_toArray, List.set_cons_zero, List.set_cons_succ]
     generalize (X.alloc (.cells (bytesRow ⟨#[97, 98, 99, 100, 101, 102, 103, 104, 105, 106, 107, 108, 109, 110, 111]⟩ C) 5 ((bytesRow ⟨#[97, 98, 99, 100, 101, 102, 103, 104, 105, 106, 107, 108, 109, 110, 111]⟩ C).size, (bytesRow ⟨#[97, 98, 99, 100, 101, 102, 103, 104, 105, 106, 107, 108, 109, 110, 111]⟩ C).size + 1))).drew = Y at *
     refine Al (js := [8]) (by kernel_rfl) (by simp) (AllT.cons (o := _) rfl (fun K hK => ?_) AllT.nil)
     have HK := UC hK
     clear hK
     go_simp
     refine UB HK _ _ (kQ2 _) ?_
     clear HK K
     try simp only [Act.put, List.setIfInBounds_toArray, List.set_cons_zero, List.set_cons_succ]
     refine AnyT.over _ _ _ _ (by kernel_rfl) ?_
     refine wpAny_ready (rs := [9]) (by kernel_rfl) (by simp) (AllReady.cons (o := _) rfl (fun K hK => ?_) AllReady.nil)
     have HK := UC hK
     clear hK
     refine Bj rfl (.tmp 40) (.tmp 47) 23 22 rfl Tryz.underlying23 Fo W.heap.size (.slice oa n.length oc) _ vx [.slice (some ⟨X.heap.size, 0, none⟩) 15 C] (by simp [Act.eval]) (by simp [Act.eval]) (by rw [hxl]; exact World.ownsRow.alloc (Ay (UB HVX) (UB HBQ)) _) (Cn Y 22 _) (by intro y hy; simp at hy; subst hy; rfl) (by rw [hxl]; simp; omega) (by simp; omega) ?_
     intro v6 w6 o6 g6
     replace o6 : w6.ownsRow W.heap.size 22 1 v6 (n.length + 1) (vx ++ [.slice (some ⟨X.heap.size, 0, none⟩) 15 C]) := by rw [← hxl]; exact o6
     obtain ⟨v6g, v6c, rfl⟩ := ownsRow_succ (k := n.length) o6
     obtain ⟨k6, p6, k7, r7, c7, g7⟩ := Eh (UB HVX) (UB HVXA) ((UB HBQ).alloc (UB HBQ).size _) ((UB HU).below (UI _)) ((UB HTU).below (UI _)) o6 (by simp) g6 (UB KX) (UB RX) (by omega) (UB CX) (by omega) (by omega) (UB GX) (by omega) (by omega)
     have cn6 := US k6
     have fn6 := VG k6 0
     have P6 := UC p6
     have K7 := UC k7
     have R7 := UC r7
     have C7 := UC c7
     have G7 := UC g7
     clear k6 p6 k7 r7 c7 g7 o6 g6
     refine UB HK _ _ ?_
     clear HK K
     try simp only [Act.put, List.setIfInBounds_toArray]
     refine wpAny_ready (rs := [10]) (by kernel_rfl) (by simp) (AllReady.cons (o := _) rfl (fun K hK => ?_) AllReady.nil)
     have HK := UC hK
     clear hK
     go_simp
     refine UB HK _ _ ?_
     clear HK K
     try simp only [Act.put, List.setIfInBounds_toArray, List.set_cons_zero, List.set_cons_succ]
     refine wpAny_ready (rs := [11]) (by kernel_rfl) (by simp) (AllReady.cons (o := _) rfl (fun K hK => ?_) AllReady.nil)
     have HK := UC hK
     clear hK
     go_simp
     refine UB HK _ _ ?_
     clear HK K
     try simp only [Act.put, List.setIfInBounds_toArray, List.set_cons_zero, List.set_cons_succ]
     refine wpAny_done (by kernel_rfl) ?_ _
     have cn7 := US (UB K7)
     have cr7 := US (UB R7)
     have fr7 := VG (UB R7) 0
     have M7 := UC (Av (UB R7) (.slice (some ⟨v6g, 0, none⟩) (n.length + 1) v6c))
     have O7 := UC (OwnT.set (j := 0) (UB P6) (UB R7) (by decide) (by decide) (.slice (some ⟨v6g, 0, none⟩) (n.length + 1) v6c))
     clear R7 K7 P6
     go_wp2_with fail
     refine bodyPost_ret (results_cell_row rfl _ _ w.heap.size 25 #[.slice (some ⟨v6g, 0, none⟩) (n.length + 1) v6c] (0, 0) _ rfl (UB M7) Tryz.underlying25 rfl (by kernel_rfl)) rfl ?_
     have gs := Ab (w6.setCell ⟨w1.heap.size, 0, none⟩ (.slice (some ⟨v6g, 0, none⟩) (n.length + 1) v6c)) ⟨w.heap.size, 0, none⟩ (.slice (some ⟨v6g, 0, none⟩) (n.length + 1) v6c)
     exact ⟨_, n ++ [Bz ⟨#[97, 98, 99, 100, 101, 102, 103, 104, 105, 106, 107, 108, 109, 110, 111]⟩], rfl, by simp; omega, Dp hn16 (by rw [Bq]; decide), (UB O7).mono (by omega), (UB C7).later gs (fun j e => by cases e; exact hg), Ae (UB G7) gs (fun j e => by cases e; exact Nat.le_refl _)⟩
    ·refine Al (js := [5]) (by kernel_rfl) (by simp) (AllT.cons (o := _) rfl (fun K hK => ?_) AllT.nil)
     have HK := UC hK
     clear hK
     go_simp
     refine UB HK _ _ cX ?_
     clear HK K
     try simp only [Act.put, List.setIfInBounds_toArray, List.set_cons_zero, List.set_cons_succ]
     refine Al (js := [6]) (by kernel_rfl) (by simp) (AllT.cons (o := _) rfl (fun K hK => ?_) AllT.nil)
     have HK := UC hK
     clear hK
     go_simp
     refine UB HK _ _ cX ?_
     clear HK K
     try simp only [Act.put, List.setIfInBounds_toArray, List.set_cons_zero, List.set_cons_succ]
     have hcv := run_bytes_of_string (P := Tryz.prog) X 9 22 5 ⟨#[97, 98, 99, 100, 101, 102, 103, 104, 105, 106, 107, 108, 109, 110, 111, 112]⟩ Tryz.underlying9 Tryz.underlying22 Tryz.underlying5
     have hcap := grownCap_ge X (ByteArray.size ⟨#[97, 98, 99, 100, 101, 102, 103, 104, 105, 106, 107, 108, 109, 110, 111, 112]⟩) 0 5
     have hcap2 := grownCap_le_maxLen X (ByteArray.size ⟨#[97, 98, 99, 100, 101, 102, 103, 104, 105, 106, 107, 108, 109, 110, 111, 112]⟩) 0 5 (by decide)
     generalize grownCap X (ByteArray.size ⟨#[97, 98, 99, 100, 101, 102, 103, 104, 105, 106, 107, 108, 109, 110, 111, 112]⟩) 0 5 = C at *
     have bq := UG (UI (w := X) (.cells (bytesRow ⟨#[97, 98, 99, 100, 101, 102, 103, 104, 105, 106, 107, 108, 109, 110, 111, 112]⟩ C) 5 ((bytesRow ⟨#[97, 98, 99, 100, 101, 102, 103, 104, 105, 106, 107, 108, 109, 110, 111, 112]⟩ C).size, (bytesRow ⟨#[97, 98, 99, 100, 101, 102, 103, 104, 105, 106, 107, 108, 109, 110, 111, 112]⟩ C).size + 1))) (UX (w := X.alloc (.cells (bytesRow ⟨#[97, 98, 99, 100, 101, 102, 103, 104, 105, 106, 107, 108, 109, 110, 111, 112]⟩ C) 5 ((bytesRow ⟨#[97, 98, 99, 100, 101, 102, 103, 104, 105, 106, 107, 108, 109, 110, 111, 112]⟩ C).size, (bytesRow ⟨#[97, 98, 99, 100, 101, 102, 103, 104, 105, 106, 107, 108, 109, 110, 111, 112]⟩ C).size + 1))))
     have HU := UC ((Hc X 5 ⟨#[97, 98, 99, 100, 101, 102, 103, 104, 105, 106, 107, 108, 109, 110, 111, 112]⟩ C ((bytesRow ⟨#[97, 98, 99, 100, 101, 102, 103, 104, 105, 106, 107, 108, 109, 110, 111, 112]⟩ C).size, (bytesRow ⟨#[97, 98, 99, 100, 101, 102, 103, 104, 105, 106, 107, 108, 109, 110, 111, 112]⟩ C).size + 1) hcap hcap2).below (UX (w := X.alloc (.cells (bytesRow ⟨#[97, 98, 99, 100, 101, 102, 103, 104, 105, 106, 107, 108, 109, 110, 111, 112]⟩ C) 5 ((bytesRow ⟨#[97, 98, 99, 100, 101, 102, 103, 104, 105, 106, 107, 108, 109, 110, 111, 112]⟩ C).size, (bytesRow ⟨#[97, 98, 99, 100, 101, 102, 103, 104, 105, 106, 107, 108, 109, 110, 111, 112]⟩ C).size + 1)))))
     have HTU := UC ((Dx X 5 (bytesRow ⟨#[97, 98, 99, 100, 101, 102, 103, 104, 105, 106, 107, 108, 109, 110, 111, 112]⟩ C) ((bytesRow ⟨#[97, 98, 99, 100, 101, 102, 103, 104, 105, 106, 107, 108, 109, 110, 111, 112]⟩ C).size, (bytesRow ⟨#[97, 98, 99, 100, 101, 102, 103, 104, 105, 106, 107, 108, 109, 110, 111, 112]⟩ C).size + 1) 16 C).below (UX (w := X.alloc (.cells (bytesRow ⟨#[97, 98, 99, 100, 101, 102, 103, 104, 105, 106, 107, 108, 109, 110, 111, 112]⟩ C) 5 ((bytesRow ⟨#[97, 98, 99, 100, 101, 102, 103, 104, 105, 106, 107, 108, 109, 110, 111, 112]⟩ C).size, (bytesRow ⟨#[97, 98, 99, 100, 101, 102, 103, 104, 105, 106, 107, 108, 109, 110, 111, 112]⟩ C).size + 1)))))
     have HBQ := UC bq
     have kQ := US (UE bq (UB KX))
     have kQ2 : ∀ o, ((X.alloc (.cells (bytesRow ⟨#[97, 98, 99, 100, 101, 102, 103, 104, 105, 106, 107, 108, 109, 110, 111, 112]⟩ C) 5 ((bytesRow ⟨#[97, 98, 99, 100, 101, 102, 103, 104, 105, 106, 107, 108, 109, 110, 111, 112]⟩ C).size, (bytesRow ⟨#[97, 98, 99, 100, 101, 102, 103, 104, 105, 106, 107, 108, 109, 110, 111, 112]⟩ C).size + 1))).drew.alloc o).cell? ⟨w1.heap.size, 0, none⟩ = some (.slice oa n.length oc) := fun o => US (UE (UI o) (UE bq (UB KX)))
     have zq := bq.size
     clear bq hcap hcap2
     refine Al (js := [7]) (by kernel_rfl) (by simp) (AllT.cons (o := _) rfl (fun K hK => ?_) AllT.nil)
     have HK := UC hK
     clear hK
     go_simp
     refine UB HK _ _ kQ ?_
     clear HK K
     try simp only [Act.put, List.setIfInBounds_toArray, List.set_cons_zero, List.set_cons_succ]
     generalize (X.alloc (.cells (bytesRow ⟨#[97, 98, 99, 100, 101, 102, 103, 104, 105, 106, 107, 108, 109, 110, 111, 112]⟩ C) 5 ((bytesRow ⟨#[97, 98, 99, 100, 101, 102, 103, 104, 105, 106, 107, 108, 109, 110, 111, 112]⟩ C).size, (bytesRow ⟨#[97, 98, 99, 100, 101, 102, 103, 104, 105, 106, 107, 108, 109, 110, 111, 112]⟩ C).size + 1))).drew = Y at *
     refine Al (js := [8]) (by kernel_rfl) (by simp) (AllT.cons (o := _) rfl (fun K hK => ?_) AllT.nil)
     have HK := UC hK
     clear hK
     go_simp
     refine UB HK _ _ (kQ2 _) ?_
     clear HK K
     try simp only [Act.put, List.setIfInBounds_toArray, List.set_cons_zero, List.set_cons_succ]
     refine AnyT.over _ _ _ _ (by kernel_rfl) ?_
     refine wpAny_ready (rs := [9]) (by kernel_rfl) (by simp) (AllReady.cons (o := _) rfl (fun K hK => ?_) AllReady.nil)
     have HK := UC hK
     clear hK
     refine Bj rfl (.tmp 40) (.tmp 47) 23 22 rfl Tryz.underlying23 Fo W.heap.size (.slice oa n.length oc) _ vx [.slice (some ⟨X.heap.size, 0, none⟩) 16 C] (by simp [Act.eval]) (by simp [Act.eval]) (by rw [hxl]; exact World.ownsRow.alloc (Ay (UB HVX) (UB HBQ)) _) (Cn Y 22 _) (by intro y hy; simp at hy; subst hy; rfl) (by rw [hxl]; simp; omega) (by simp; omega) ?_
     intro v6 w6 o6 g6
     replace o6 : w6.ownsRow W.heap.size 22 1 v6 (n.length + 1) (vx ++ [.slice (some ⟨X.heap.size, 0, none⟩) 16 C]) := by rw [← hxl]; exact o6
     obtain ⟨v6g, v6c, rfl⟩ := ownsRow_succ (k := n.length) o6
     obtain ⟨k6, p6, k7, r7, c7, g7⟩ := Eh (UB HVX) (UB HVXA) ((UB HBQ).alloc (UB HBQ).size _) ((UB HU).below (UI _)) ((UB HTU).below (UI _)) o6 (by simp) g6 (UB KX) (UB RX) (by omega) (UB CX) (by omega) (by omega) (UB GX) (by omega) (by omega)
     have cn6 := US k6
     have fn6 := VG k6 0
     have P6 := UC p6
     have K7 := UC k7
     have R7 := UC r7
     have C7 := UC c7
     have G7 := UC g7
     clear k6 p6 k7 r7 c7 g7 o6 g6
     refine UB HK _ _ ?_
     clear HK K
     try simp only [Act.put, List.setIfInBounds_toArray]
     refine wpAny_ready (rs := [10]) (by kernel_rfl) (by simp) (AllReady.cons (o := _) rfl (fun K hK => ?_) AllReady.nil)
     have HK := UC hK
     clear hK
     go_simp
     refine UB HK _ _ ?_
     clear HK K
     try simp only [Act.put, List.setIfInBounds_toArray, List.set_cons_zero, List.set_cons_succ]
     refine wpAny_ready (rs := [11]) (by kernel_rfl) (by simp) (AllReady.cons (o := _) rfl (fun K hK => ?_) AllReady.nil)
     have HK := UC hK
     clear hK
     go_simp
     refine UB HK _ _ ?_
     clear HK K
     try simp only [Act.put, List.setIfInBounds_toArray, List.set_cons_zero, List.set_cons_succ]
     refine wpAny_done (by kernel_rfl) ?_ _
     have cn7 := US (UB K7)
     have cr7 := US (UB R7)
     have fr7 := VG (UB R7) 0
     have M7 := UC (Av (UB R7) (.slice (some ⟨v6g, 0, none⟩) (n.length + 1) v6c))
     have O7 := UC (OwnT.set (j := 0) (UB P6) (UB R7) (by decide) (by decide) (.slice (some ⟨v6g, 0, none⟩) (n.length + 1) v6c))
     clear R7 K7 P6
     go_wp2_with fail
     refine bodyPost_ret (results_cell_row rfl _ _ w.heap.size 25 #[.slice (some ⟨v6g, 0, none⟩) (n.length + 1) v6c] (0, 0) _ rfl (UB M7) Tryz.underlying25 rfl (by kernel_rfl)) rfl ?_
     have gs := Ab (w6.setCell ⟨w1.heap.size, 0, none⟩ (.slice (some ⟨v6g, 0, none⟩) (n.length + 1) v6c)) ⟨w.heap.size, 0, none⟩ (.slice (some ⟨v6g, 0, none⟩) (n.length + 1) v6c)
     exact ⟨_, n ++ [Bz ⟨#[97, 98, 99, 100, 101, 102, 103, 104, 105, 106, 107, 108, 109, 110, 111, 112]⟩], rfl, by simp; omega, Dp hn16 (by rw [Bq]; decide), (UB O7).mono (by omega), (UB C7).later gs (fun j e => by cases e; exact hg), Ae (UB G7) gs (fun j e => by cases e; exact Nat.le_refl _)⟩
  ·clear hx0 hx1
   have ST := UC (⟨n, _, by omega, hn16, UB K4, UB R4, ⟨vs, UB HVS, UB HVA⟩, UB C4, UB GG4⟩ : Xh w W w1 g a len cap (7 - n.length) w4)
   clear K4 R4 GG4 C4 HVS HVA kn kr hvl hn15 hn16
   go_wp2_with fail
   go_loopg [10] (7 - n.length) (fun k s wr => Xh w W w1 g a len cap k wr)
   case atStart => exact UB ST
   case round =>
    clear ST
    obtain ⟨n, v, hgk, hn16, K4, R4, O4, C4, GG4⟩ := hrel
    obtain ⟨oa, oc, rfl⟩ := O4.form
    have kn := US K4
    have kr := US R4
    have fr := VG R4 0
    have zr := GG4.size
    by_cases h7 : n.length = 7
    ·have h7' : ¬ ((n.length : Int) ≤ 6) := by omega
     have HN := UC hn16
     have HL := UC (Nat.le_of_eq h7)
     rw [h7] at K4 O4 kn
     have M6 := UC (Av R4 (.slice oa 7 oc))
     have O6 := UC (OwnT.set (j := 0) O4 R4 (by decide) (by decide) (.slice oa 7 oc))
     have C6 := UC C4
     have GG6 := UC GG4
     clear K4 R4 O4 C4 GG4 h7' h7 hn16
     go_wp2_with fail
     refine bodyPost_ret (results_cell_row rfl _ _ w.heap.size 25 #[.slice oa 7 oc] (0, 0) _ rfl (UB M6) Tryz.underlying25 rfl (by kernel_rfl)) rfl ?_
     have gs := Ab wr ⟨w.heap.size, 0, none⟩ (.slice oa 7 oc)
     exact ⟨_, n, rfl, UB HL, UB HN, (UB O6).mono (by omega), (UB C6).later gs (fun j e => by cases e; exact hg), Ae (UB GG6) gs (fun j e => by cases e; exact Nat.le_refl _)⟩
    ·have h6 : (n.length : Int) ≤ 6 := by omega
     obtain ⟨G, rfl⟩ : ∃ G, gk = G + 1 := ⟨gk - 1, by omega⟩
     obtain ⟨vs, hvs, hva⟩ := O4
     have hvl : vs.length = n.length := by have := hvs.1; simpa using this
     have zk1 := VC K4
     have HVS := UC hvs
     have HVA := UC hva
     have HK4 := UC K4
     have HR4 := UC R4
     have HC4 := UC C4
     have HG4 := UC GG4
     have HN := UC hn16
     clear hvs hva K4 R4 C4 GG4 hn16 h7
     have B5 := UC (Bl wr (.cells #[.int .u8 122] 5 (1, 2)) (.cells #[.slice (some ⟨wr.heap.size, 0, none⟩) 1 1] 22))
     have U5 := UC ((Ph wr 5 [122] (1, 2) (by decide)).below (UI (.cells #[.slice (some ⟨wr.heap.size, 0, none⟩) 1 1] 22)))
     have T5 := UC ((Dx wr 5 #[.int .u8 122] (1, 2) 1 1).below (UI (.cells #[.slice (some ⟨wr.heap.size, 0, none⟩) 1 1] 22)))
     have M5 := Cn (wr.alloc (.cells #[.int .u8 122] 5 (1, 2))) 22 (.slice (some ⟨wr.heap.size, 0, none⟩) 1 1)
     have e5 : (wr.alloc (.cells #[.int .u8 122] 5 (1, 2))).heap.size = wr.heap.size + 1 := by show (wr.heap.push _).size = _; simp
     rw [e5] at M5
     have HM5 := UC M5
     clear M5 e5
     go_wp2_with (at_builtin; refine Jc rfl _ _ 23 22 rfl Tryz.underlying23 Fo W.heap.size (.slice oa n.length oc) _ vs [.slice (some ⟨wr.heap.size, 0, none⟩) 1 1] rfl rfl (by rw [hvl]; exact Ay (UB HVS) (UB B5)) (UB HM5) (by intro y hy; simp at hy; subst hy; rfl) (by rw [hvl]; simp; omega) (by simp; omega) ?_)
     intro v5 w5 o5 g5
     obtain ⟨v5g, v5c, rfl⟩ := ownsRow_succ (k := n.length) o5
     obtain ⟨k5, o6, k6, r6, c6, g6⟩ := Eh (UB HVS) (UB HVA) (UB B5) (UB U5) (UB T5) o5 (by simp) g5 (UB HK4) (UB HR4) (by omega) (UB HC4) (by omega) (by omega) (UB HG4) (by omega) (by omega)
     have kn5 := US k5
     have fn5 := VG k5 0
     have END := UC (⟨n ++ [[122]], _, by simp; omega, Dp (UB HN) (by simp), k6, r6, o6, c6, g6⟩ : Xh w W w1 g a len cap G (w5.setCell ⟨w1.heap.size, 0, none⟩ (.slice (some ⟨v5g, 0, none⟩) (n.length + 1) v5c)))
     clear o6 r6 k6 c6 g6 o5 g5 k5
     go_wp2_with fail
     go_roundg G
     case rel => exact UB END
     all_goals omega
end Go.Proofs.YtfneahdnpmamkaaGreat
