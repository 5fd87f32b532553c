/-
  Contracts of the specification's l2bent: a drawn name, perhaps with one label more that may not be.
-/
import Derived.Test.YtjgfljndeolmoaaFnInsidesG14
import Derived.Test.YtjgfljndeolmoaaFnInsidesG09
import Derived.Test.YtjgfljndeolmoaaFnInsidesG04
import Derived.Test.YtjgfljndeolmoaaFnInsidesG15
import Derived.Test.YtjgfljndeolmoaaFnInsidesG02
import Derived.Lib.SlBytesConst
import Derived.RangeFuncBox
import Derived.Deep.LoopGhost
namespace Go.Proofs.Ytjgfljndeolmoaa
open Go.RowKit
set_option linter.unusedVariables false

theorem info_sl9 : (Try.prog.info? 22).map (fun i => (i.zero, i.size, i.bytes)) = some (some (.slice none 0 0), 1, 24) := by kernel_rfl
theorem Drawn.bound {n : List (List Int)} (h : Drawn n) : n.length ≤ 6 ∧ ∀ i, i < n.length → (n.getD i []).length ≤ 15 := by
 obtain ⟨s, _, rfl⟩ := h
 exact nameRead_bound _
/-- What l2bent answers. -/
def Bent (w : World) (g : Nat) (a : Option Addr) (len cap : Nat) (e : Ending) (w' : World) : Prop :=
 ∃ v' n, e = .returned (.agg #[v']) ∧ n.length ≤ 7 ∧ (∀ i, i < n.length → (n.getD i []).length ≤ 16) ∧ OwnT w.heap.size 22 5 w' v' n ∧ Cur w' g a len cap ∧ w.grownBy w' (some g)

set_option maxHeartbeats 4000000 in
set_option maxRecDepth 100000 in
theorem l2bent_any {g : Nat} {a : Option Addr} {len cap : Nat} {w : World} (hc : Cur w g a len cap) (hL : Code w g a len) (hm : len ≤ maxLen) :
  Calls Try.prog 43 #[.pointer (some ⟨g, 0, none⟩)] w (Bent w g a len cap) := by
 have hg := hc.lt
 have hcid := fun (w : World) (C : Array Value) (n c : Nat) => Lib.run_convert_bytes_const (P := Try.prog) w 22 5 C n c Try.underlying22 Try.underlying5
 have b0 := below_alloc (w := w) (.cells #[.slice none 0 0] 26)
 have k0 := heap_alloc_new w (.cells #[.slice none 0 0] 26)
 have g0 : w.grownBy (w.alloc (.cells #[.slice none 0 0] 26)) (some g) := grown_alloc _ _ _
 have hc0 := hc.later (grown_alloc w (.cells #[.slice none 0 0] 26) none) (fun j e => by cases e)
 have hL0 := hL.later (grown_alloc w (.cells #[.slice none 0 0] 26) none) (fun j e => by cases e)
 have HD := hide (l2draw_any hc0 hL0 hm)
 have HLL := hide hL
 have K0 := hide k0
 have G0 := hide g0
 have z0 := block_lt k0
 clear hc hL k0 g0 hc0 hL0 b0
 go_enter Try.func43, Try.ntmps43
 go_wp2_with fail
 generalize w.alloc (.cells #[.slice none 0 0] 26) = W at *
 refine (unhide HD).mono ?_
 rintro e w1 ⟨v1, n, rfl, hn, o1, c1, g1⟩
 obtain ⟨hn6, hn15⟩ := hn.bound
 obtain ⟨oa, oc, rfl, _⟩ := o1.hasL.form
 have gA : w.grownBy w1 (some g) := ⟨g1.os.trans (unhide G0).os, g1.tape.trans (unhide G0).tape, g1.output.trans (unhide G0).output, Nat.le_trans (unhide G0).size g1.size, fun i hi hq => (g1.block i (Nat.lt_of_lt_of_le hi (unhide G0).size) hq).trans ((unhide G0).block i hi hq)⟩
 have k1 := block_grown g1 (unhide K0) (by simp; omega)
 have b2 := below_alloc (w := w1) (.cells #[.slice oa n.length oc] 26)
 have K2 := hide (heap_alloc_new w1 (.cells #[.slice oa n.length oc] 26))
 have R2 := hide (block_kept b2 k1)
 have O2 := hide (o1.below b2)
 have G2 := hide (grown_own gA (grown_alloc w1 (.cells #[.slice oa n.length oc] 26) none) (fun j e => by cases e))
 have c2 := c1.later (grown_alloc w1 (.cells #[.slice oa n.length oc] 26) none) (fun j e => by cases e)
 have L2 := (unhide HLL).later (unhide G2) (fun j e => by cases e; exact Nat.le_refl _)
 have HO := hide (l1Once_any 9 c2 L2 hm (by omega) (by omega))
 have zW := block_lt (unhide K0)
 have z1 := g1.size
 clear hn o1 c1 g1 k1 b2 c2 L2 HD K0 G0 gA
 go_wp2_with fail
 generalize w1.alloc (.cells #[.slice oa n.length oc] 26) = w2 at *
 refine (unhide HO).mono ?_
 rintro e w3 ⟨x, rfl, c3, g3⟩
 have zk2 := block_lt (unhide K2)
 have K3 := hide (block_grown g3 (unhide K2) (by simp; omega))
 have R3 := hide (block_grown g3 (unhide R2) (by simp; omega))
 have O3 := hide ((unhide O2).kept g3 (by omega))
 have G3 : w.grownBy w3 (some g) := ⟨g3.os.trans (unhide G2).os, g3.tape.trans (unhide G2).tape, g3.output.trans (unhide G2).output, Nat.le_trans (unhide G2).size g3.size, fun i hi hq => (g3.block i (Nat.lt_of_lt_of_le hi (unhide G2).size) hq).trans ((unhide G2).block i hi hq)⟩
 have z3 := g3.size
 have GG3 := hide G3
 have C3 := hide c3
 clear HO K2 R2 O2 G2 g3 G3 c3
 cases x with
 | false =>
  have kn := block_one (unhide K3)
  have kr := block_one (unhide R3)
  have fr := block_frozen (unhide R3) 0
  have M3 := hide (block_set (unhide R3) (.slice oa n.length oc))
  go_wp2_with fail
  refine bodyPost_ret (results_cell_row rfl _ _ w.heap.size 26 #[.slice oa n.length oc] (0, 0) _ rfl (unhide M3) Try.underlying26 rfl (by kernel_rfl)) rfl ?_
  have gs := grown_setCell w3 ⟨w.heap.size, 0, none⟩ (.slice oa n.length oc)
  exact ⟨_, n, rfl, by omega, fun i hi => by have := hn15 i hi; omega, (((unhide O3).kept gs (by omega)).mono (by omega)).ownT, (unhide C3).later gs (fun j e => by cases e; exact hg), grown_own (unhide GG3) gs (fun j e => by cases e; exact Nat.le_refl _)⟩
 | true =>
  have L3 := (unhide HLL).later (unhide GG3) (fun j e => by cases e; exact Nat.le_refl _)
  have HB := hide (l1Below_any 4 (unhide C3) L3 hm (by omega) (by omega))
  clear L3
  go_wp2_with fail
  refine (unhide HB).mono ?_
  rintro e w4 ⟨x, rfl, hx0, hx1, c4, g4⟩
  have K4 := hide (block_grown g4 (unhide K3) (by simp; omega))
  have R4 := hide (block_grown g4 (unhide R3) (by simp; omega))
  have O4 := (unhide O3).kept g4 (by omega)
  have G4 : w.grownBy w4 (some g) := ⟨g4.os.trans (unhide GG3).os, g4.tape.trans (unhide GG3).tape, g4.output.trans (unhide GG3).output, Nat.le_trans (unhide GG3).size g4.size, fun i hi hq => (g4.block i (Nat.lt_of_lt_of_le hi (unhide GG3).size) hq).trans ((unhide GG3).block i hi hq)⟩
  have z4 := g4.size
  have GG4 := hide G4
  have C4 := hide c4
  obtain ⟨vs, hvs, hva⟩ := O4.ownT
  have hvl : vs.length = n.length := by have := hvs.1; simpa using this
  have HVS := hide hvs
  have HVA := hide hva
  have HO4 := hide O4
  clear K3 R3 O3 GG3 C3 HB g4 G4 c4 O4 hvs hva
  have hx : x = 0 ∨ x = 1 ∨ x = 2 ∨ x = 3 := by omega
  have kn := block_one (unhide K4)
  have kr := block_one (unhide R4)
  have hn16 : ∀ i, i < n.length → (n.getD i []).length ≤ 16 := fun i hi => by have := hn15 i hi; omega
  rcases hx with rfl | rfl | rfl | rfl
  ·clear hx0 hx1
   go_wp2_with (at_builtin; refine append_row rfl _ _ 24 22 rfl Try.underlying24 info_sl9 W.heap.size (.slice oa n.length oc) _ vs [.slice none 0 0] rfl rfl (by rw [hvl]; exact World.ownsRow.alloc (unhide HVS) _) (one_more w4 22 _) (by intro y hy; simp at hy; subst hy; rfl) (by rw [hvl]; simp; omega) (by simp; omega) ?_)
   intro v5 w5 o5 g5
   obtain ⟨v5g, v5c, rfl⟩ := ownsRow_succ (k := n.length) o5
   obtain ⟨k5, o6, k6, r6, c6, g6⟩ := bent_step (unhide HVS) (unhide HVA) (below_alloc _) (.inl ⟨rfl, rfl⟩) (Typed.nil _ _) o5 (by simp) g5 (unhide K4) (unhide R4) (by omega) (unhide C4) (by omega) (by omega) (unhide GG4) (by omega) (by omega)
   have kn5 := block_one k5
   have fn5 := block_frozen k5 0
   have kn6 := block_one k6
   have kr6 := block_one r6
   have fr6 := block_frozen r6 0
   have M6 := hide (block_set r6 (.slice (some ⟨v5g, 0, none⟩) (n.length + 1) v5c))
   have O6 := hide (OwnT.set (j := 0) o6 r6 (by decide) (by decide) (.slice (some ⟨v5g, 0, none⟩) (n.length + 1) v5c))
   have C6 := hide c6
   have GG6 := hide g6
   clear o6 r6 k6 c6 g6 o5 g5 k5
   go_wp2_with fail
   refine bodyPost_ret (results_cell_row rfl _ _ w.heap.size 26 #[.slice (some ⟨v5g, 0, none⟩) (n.length + 1) v5c] (0, 0) _ rfl (unhide M6) Try.underlying26 rfl (by kernel_rfl)) rfl ?_
   have gs := grown_setCell (w5.setCell ⟨w1.heap.size, 0, none⟩ (.slice (some ⟨v5g, 0, none⟩) (n.length + 1) v5c)) ⟨w.heap.size, 0, none⟩ (.slice (some ⟨v5g, 0, none⟩) (n.length + 1) v5c)
   exact ⟨_, n ++ [([] : List Int)], rfl, by simp; omega, snoc_bound hn16 (by simp), (unhide O6).mono (by omega), (unhide C6).later gs (fun j e => by cases e; exact hg), grown_own (unhide GG6) gs (fun j e => by cases e; exact Nat.le_refl _)⟩
  ·clear hx0 hx1
   have B5 := hide (below2 w4 (.cells #[.int .u8 81] 5 (1, 2)) (.cells #[.slice (some ⟨w4.heap.size, 0, none⟩) 1 1] 22))
   have U5 := hide ((has_const w4 5 [81] (1, 2) (by decide)).below (below_alloc (.cells #[.slice (some ⟨w4.heap.size, 0, none⟩) 1 1] 22)))
   have T5 := hide ((typed_const w4 5 #[.int .u8 81] (1, 2) 1 1).below (below_alloc (.cells #[.slice (some ⟨w4.heap.size, 0, none⟩) 1 1] 22)))
   have M5 := one_more (w4.alloc (.cells #[.int .u8 81] 5 (1, 2))) 22 (.slice (some ⟨w4.heap.size, 0, none⟩) 1 1)
   have e5 : (w4.alloc (.cells #[.int .u8 81] 5 (1, 2))).heap.size = w4.heap.size + 1 := by show (w4.heap.push _).size = _; simp
   rw [e5] at M5
   have HM5 := hide M5
   clear M5 e5
   go_wp2_with (at_builtin; refine append_row rfl _ _ 24 22 rfl Try.underlying24 info_sl9 W.heap.size (.slice oa n.length oc) _ vs [.slice (some ⟨w4.heap.size, 0, none⟩) 1 1] rfl rfl (by rw [hvl]; exact ownsRow_kept' (unhide HVS) (unhide B5)) (unhide HM5) (by intro y hy; simp at hy; subst hy; rfl) (by rw [hvl]; simp; omega) (by simp; omega) ?_)
   intro v5 w5 o5 g5
   obtain ⟨v5g, v5c, rfl⟩ := ownsRow_succ (k := n.length) o5
   obtain ⟨k5, o6, k6, r6, c6, g6⟩ := bent_step (unhide HVS) (unhide HVA) (unhide B5) (unhide U5) (unhide T5) o5 (by simp) g5 (unhide K4) (unhide R4) (by omega) (unhide C4) (by omega) (by omega) (unhide GG4) (by omega) (by omega)
   have kn5 := block_one k5
   have fn5 := block_frozen k5 0
   have kn6 := block_one k6
   have kr6 := block_one r6
   have fr6 := block_frozen r6 0
   have M6 := hide (block_set r6 (.slice (some ⟨v5g, 0, none⟩) (n.length + 1) v5c))
   have O6 := hide (OwnT.set (j := 0) o6 r6 (by decide) (by decide) (.slice (some ⟨v5g, 0, none⟩) (n.length + 1) v5c))
   have C6 := hide c6
   have GG6 := hide g6
   clear o6 r6 k6 c6 g6 o5 g5 k5
   go_wp2_with fail
   refine bodyPost_ret (results_cell_row rfl _ _ w.heap.size 26 #[.slice (some ⟨v5g, 0, none⟩) (n.length + 1) v5c] (0, 0) _ rfl (unhide M6) Try.underlying26 rfl (by kernel_rfl)) rfl ?_
   have gs := grown_setCell (w5.setCell ⟨w1.heap.size, 0, none⟩ (.slice (some ⟨v5g, 0, none⟩) (n.length + 1) v5c)) ⟨w.heap.size, 0, none⟩ (.slice (some ⟨v5g, 0, none⟩) (n.length + 1) v5c)
   exact ⟨_, n ++ [([81] : List Int)], rfl, by simp; omega, snoc_bound hn16 (by simp), (unhide O6).mono (by omega), (unhide C6).later gs (fun j e => by cases e; exact hg), grown_own (unhide GG6) gs (fun j e => by cases e; exact Nat.le_refl _)⟩
  ·clear hx0 hx1
   have bD := below_drew (w := w4)
   have KD := hide (block_kept bD (unhide K4))
   have RD := hide (block_kept bD (unhide R4))
   have OD := hide ((unhide HO4).below bD)
   have gd : w4.grownBy w4.drew none := ⟨rfl, rfl, rfl, Nat.le_refl _, fun _ _ _ => rfl⟩
   have CD := hide ((unhide C4).later gd (fun j e => by cases e))
   have GD : w.grownBy w4.drew (some g) := grown_own (unhide GG4) gd (fun j e => by cases e)
   have HGD := hide GD
   have cD := block_one (unhide KD)
   have zD : w4.heap.size ≤ w4.drew.heap.size := Nat.le_refl _
   clear bD gd GD K4 R4 HVS HVA HO4 C4 GG4 hvl
   go_wp2_with fail
   refine wp_region_any (by kernel_rfl) ?_
   show wpAny _ _ _ _ _ _ _ w4.drew
   generalize w4.drew = D at *
   refine wpAny_take (i := 0) (oi := _) (v := .pointer (some ⟨w1.heap.size, 0, none⟩)) rfl (by kernel_rfl) (by kernel_rfl) (by kernel_rfl) (fun _ _ _ h => h) (Or.inl ⟨by rfl, fun w => by go_simp⟩) ?_
   try simp only [Act.put, List.setIfInBounds_toArray]
   refine wpAny_take (i := 3) (oi := _) (v := .pointer (some ⟨g, 0, none⟩)) rfl (by kernel_rfl) (by kernel_rfl) (by kernel_rfl) (fun _ _ _ h => h) (Or.inl ⟨by rfl, fun w => by go_simp⟩) ?_
   try simp only [Act.put]
   refine any_takeT (i := 1) (oi := _) (v := .slice oa n.length oc) (fun w' => w'.cell? ⟨w1.heap.size, 0, none⟩ = some (.slice oa n.length oc)) rfl (by kernel_rfl) (by kernel_rfl) (by kernel_rfl) (fun _ _ _ h => h) (Or.inl ⟨by rfl, fun w' hw' => by go_simp⟩) cD ?_
   try simp only [Act.put]
   refine anyT_ready (js := [2, 4]) (by kernel_rfl) (by simp) (AllT.cons (o := _) rfl (fun K hK => ?_) (AllT.cons (o := _) rfl (fun K hK => ?_) AllT.nil))
   ·have HK := hide hK
    clear hK
    have bE := below_alloc (w := D) (.cells #[.string ⟨#[97, 98, 99, 100, 101, 102, 103, 104, 105, 106, 107, 108, 109, 110, 111]⟩, .string ⟨#[97, 98, 99, 100, 101, 102, 103, 104, 105, 106, 107, 108, 109, 110, 111, 112]⟩] 9)
    have SE := hide (heap_alloc_new D (.cells #[.string ⟨#[97, 98, 99, 100, 101, 102, 103, 104, 105, 106, 107, 108, 109, 110, 111]⟩, .string ⟨#[97, 98, 99, 100, 101, 102, 103, 104, 105, 106, 107, 108, 109, 110, 111, 112]⟩] 9))
    have KE := hide (block_kept bE (unhide KD))
    have RE := hide (block_kept bE (unhide RD))
    have OE := hide ((unhide OD).below bE)
    have CE := (unhide CD).later (grown_alloc D (.cells #[.string ⟨#[97, 98, 99, 100, 101, 102, 103, 104, 105, 106, 107, 108, 109, 110, 111]⟩, .string ⟨#[97, 98, 99, 100, 101, 102, 103, 104, 105, 106, 107, 108, 109, 110, 111, 112]⟩] 9) none) (fun j e => by cases e)
    have GE := grown_own (unhide HGD) (grown_alloc D (.cells #[.string ⟨#[97, 98, 99, 100, 101, 102, 103, 104, 105, 106, 107, 108, 109, 110, 111]⟩, .string ⟨#[97, 98, 99, 100, 101, 102, 103, 104, 105, 106, 107, 108, 109, 110, 111, 112]⟩] 9) none) (fun j e => by cases e)
    have LE := (unhide HLL).later GE (fun j e => by cases e; exact Nat.le_refl _)
    have HB2 := hide (l1Below_any 2 CE LE hm (by omega) (by omega))
    have HGE := hide GE
    have cE := block_one (unhide KE)
    have zE := bE.size
    have zs := block_lt (unhide SE)
    clear bE CE GE LE
    go_simp
    refine unhide HK _ _ cE ?_
    clear HK K
    try simp only [Act.put, List.setIfInBounds_toArray, List.set_cons_zero, List.set_cons_succ]
    generalize D.alloc (.cells #[.string ⟨#[97, 98, 99, 100, 101, 102, 103, 104, 105, 106, 107, 108, 109, 110, 111]⟩, .string ⟨#[97, 98, 99, 100, 101, 102, 103, 104, 105, 106, 107, 108, 109, 110, 111, 112]⟩] 9) = E at *
    refine anyT_ready (js := [4]) (by kernel_rfl) (by simp) (AllT.cons (o := _) rfl (fun K hK => ?_) AllT.nil)
    have HK := hide hK
    clear hK
    go_simp
    refine (unhide HB2).mono ?_
    rintro e X ⟨x, rfl, hx0, hx1, cX0, gX⟩
    have KX := hide (block_grown gX (unhide KE) (by simp; omega))
    have RX := hide (block_grown gX (unhide RE) (by simp; omega))
    have OX := hide ((unhide OE).kept gX (by omega))
    have SX := hide (block_grown gX (unhide SE) (by simp; omega))
    have GX : w.grownBy X (some g) := ⟨gX.os.trans (unhide HGE).os, gX.tape.trans (unhide HGE).tape, gX.output.trans (unhide HGE).output, Nat.le_trans (unhide HGE).size gX.size, fun i hi hq => (gX.block i (Nat.lt_of_lt_of_le hi (unhide HGE).size) hq).trans ((unhide HGE).block i hi hq)⟩
    have zX := gX.size
    have CX := hide cX0
    replace GX := hide GX
    clear gX cX0 HGE SE KE RE OE CD KD RD OD HGD HB2 cE cD
    obtain ⟨vx, hvx, hvxa⟩ := (unhide OX).ownT
    have hxl : vx.length = n.length := by have := hvx.1; simpa using this
    have HVX := hide hvx
    have HVXA := hide hvxa
    have cX := block_one (unhide KX)
    have s0 := block_cell (unhide SX) 0
    have s1 := block_cell (unhide SX) 1
    simp only [List.getElem?_toArray, List.getElem?_cons_zero, List.getElem?_cons_succ] at s0 s1
    clear hvx hvxa
    go_simp
    refine unhide HK _ _ cX ?_
    clear HK K
    try simp only [Act.put, List.setIfInBounds_toArray, List.set_cons_zero, List.set_cons_succ]
    have hx : x = 0 ∨ x = 1 := by omega
    clear hx0 hx1
    rcases hx with rfl | rfl
    ·refine anyT_ready (js := [5]) (by kernel_rfl) (by simp) (AllT.cons (o := _) rfl (fun K hK => ?_) AllT.nil)
     have HK := hide hK
     clear hK
     go_simp
     refine unhide HK _ _ cX ?_
     clear HK K
     try simp only [Act.put, List.setIfInBounds_toArray, List.set_cons_zero, List.set_cons_succ]
     refine anyT_ready (js := [6]) (by kernel_rfl) (by simp) (AllT.cons (o := _) rfl (fun K hK => ?_) AllT.nil)
     have HK := hide hK
     clear hK
     go_simp
     refine unhide HK _ _ cX ?_
     clear HK K
     try simp only [Act.put, List.setIfInBounds_toArray, List.set_cons_zero, List.set_cons_succ]
     have hcv := run_bytes_of_string (P := Try.prog) X 9 22 5 ⟨#[97, 98, 99, 100, 101, 102, 103, 104, 105, 106, 107, 108, 109, 110, 111]⟩ Try.underlying9 Try.underlying22 Try.underlying5
     have hcap := grownCap_ge X (ByteArray.size ⟨#[97, 98, 99, 100, 101, 102, 103, 104, 105, 106, 107, 108, 109, 110, 111]⟩) 0 5
     have hcap2 := grownCap_le_maxLen X (ByteArray.size ⟨#[97, 98, 99, 100, 101, 102, 103, 104, 105, 106, 107, 108, 109, 110, 111]⟩) 0 5 (by decide)
     generalize grownCap X (ByteArray.size ⟨#[97, 98, 99, 100, 101, 102, 103, 104, 105, 106, 107, 108, 109, 110, 111]⟩) 0 5 = C at *
     have bq := below_next (below_alloc (w := X) (.cells (bytesRow ⟨#[97, 98, 99, 100, 101, 102, 103, 104, 105, 106, 107, 108, 109, 110, 111]⟩ C) 5 ((bytesRow ⟨#[97, 98, 99, 100, 101, 102, 103, 104, 105, 106, 107, 108, 109, 110, 111]⟩ C).size, (bytesRow ⟨#[97, 98, 99, 100, 101, 102, 103, 104, 105, 106, 107, 108, 109, 110, 111]⟩ C).size + 1))) (below_drew (w := X.alloc (.cells (bytesRow ⟨#[97, 98, 99, 100, 101, 102, 103, 104, 105, 106, 107, 108, 109, 110, 111]⟩ C) 5 ((bytesRow ⟨#[97, 98, 99, 100, 101, 102, 103, 104, 105, 106, 107, 108, 109, 110, 111]⟩ C).size, (bytesRow ⟨#[97, 98, 99, 100, 101, 102, 103, 104, 105, 106, 107, 108, 109, 110, 111]⟩ C).size + 1))))
     have HU := hide ((has_str X 5 ⟨#[97, 98, 99, 100, 101, 102, 103, 104, 105, 106, 107, 108, 109, 110, 111]⟩ C ((bytesRow ⟨#[97, 98, 99, 100, 101, 102, 103, 104, 105, 106, 107, 108, 109, 110, 111]⟩ C).size, (bytesRow ⟨#[97, 98, 99, 100, 101, 102, 103, 104, 105, 106, 107, 108, 109, 110, 111]⟩ C).size + 1) hcap hcap2).below (below_drew (w := X.alloc (.cells (bytesRow ⟨#[97, 98, 99, 100, 101, 102, 103, 104, 105, 106, 107, 108, 109, 110, 111]⟩ C) 5 ((bytesRow ⟨#[97, 98, 99, 100, 101, 102, 103, 104, 105, 106, 107, 108, 109, 110, 111]⟩ C).size, (bytesRow ⟨#[97, 98, 99, 100, 101, 102, 103, 104, 105, 106, 107, 108, 109, 110, 111]⟩ C).size + 1)))))
     have HTU := hide ((typed_const X 5 (bytesRow ⟨#[97, 98, 99, 100, 101, 102, 103, 104, 105, 106, 107, 108, 109, 110, 111]⟩ C) ((bytesRow ⟨#[97, 98, 99, 100, 101, 102, 103, 104, 105, 106, 107, 108, 109, 110, 111]⟩ C).size, (bytesRow ⟨#[97, 98, 99, 100, 101, 102, 103, 104, 105, 106, 107, 108, 109, 110, 111]⟩ C).size + 1) 15 C).below (below_drew (w := X.alloc (.cells (bytesRow ⟨#[97, 98, 99, 100, 101, 102, 103, 104, 105, 106, 107, 108, 109, 110, 111]⟩ C) 5 ((bytesRow ⟨#[97, 98, 99, 100, 101, 102, 103, 104, 105, 106, 107, 108, 109, 110, 111]⟩ C).size, (bytesRow ⟨#[97, 98, 99, 100, 101, 102, 103, 104, 105, 106, 107, 108, 109, 110, 111]⟩ C).size + 1)))))
     have HBQ := hide bq
     have kQ := block_one (block_kept bq (unhide KX))
     have kQ2 : ∀ o, ((X.alloc (.cells (bytesRow ⟨#[97, 98, 99, 100, 101, 102, 103, 104, 105, 106, 107, 108, 109, 110, 111]⟩ C) 5 ((bytesRow ⟨#[97, 98, 99, 100, 101, 102, 103, 104, 105, 106, 107, 108, 109, 110, 111]⟩ C).size, (bytesRow ⟨#[97, 98, 99, 100, 101, 102, 103, 104, 105, 106, 107, 108, 109, 110, 111]⟩ C).size + 1))).drew.alloc o).cell? ⟨w1.heap.size, 0, none⟩ = some (.slice oa n.length oc) := fun o => block_one (block_kept (below_alloc o) (block_kept bq (unhide KX)))
     have zq := bq.size
     clear bq hcap hcap2
     refine anyT_ready (js := [7]) (by kernel_rfl) (by simp) (AllT.cons (o := _) rfl (fun K hK => ?_) AllT.nil)
     have HK := hide hK
     clear hK
     go_simp
     refine unhide HK _ _ kQ ?_
     clear HK K
     try simp only [Act.put, List.setIfInBounds_toArray, List.set_cons_zero, List.set_cons_succ]
     generalize (X.alloc (.cells (bytesRow ⟨#[97, 98, 99, 100, 101, 102, 103, 104, 105, 106, 107, 108, 109, 110, 111]⟩ C) 5 ((bytesRow ⟨#[97, 98, 99, 100, 101, 102, 103, 104, 105, 106, 107, 108, 109, 110, 111]⟩ C).size, (bytesRow ⟨#[97, 98, 99, 100, 101, 102, 103, 104, 105, 106, 107, 108, 109, 110, 111]⟩ C).size + 1))).drew = Y at *
     refine anyT_ready (js := [8]) (by kernel_rfl) (by simp) (AllT.cons (o := _) rfl (fun K hK => ?_) AllT.nil)
     have HK := hide hK
     clear hK
     go_simp
     refine unhide HK _ _ (kQ2 _) ?_
     clear HK K
     try simp only [Act.put, List.setIfInBounds_toArray, List.set_cons_zero, List.set_cons_succ]
     refine AnyT.over _ _ _ _ (by kernel_rfl) ?_
     refine wpAny_ready (rs := [9]) (by kernel_rfl) (by simp) (AllReady.cons (o := _) rfl (fun K hK => ?_) AllReady.nil)
     have HK := hide hK
     clear hK
     refine step_append_row rfl (.tmp 40) (.tmp 47) 24 22 rfl Try.underlying24 info_sl9 W.heap.size (.slice oa n.length oc) _ vx [.slice (some ⟨X.heap.size, 0, none⟩) 15 C] (by simp [Act.eval]) (by simp [Act.eval]) (by rw [hxl]; exact World.ownsRow.alloc (ownsRow_kept' (unhide HVX) (unhide HBQ)) _) (one_more Y 22 _) (by intro y hy; simp at hy; subst hy; rfl) (by rw [hxl]; simp; omega) (by simp; omega) ?_
     intro v6 w6 o6 g6
     replace o6 : w6.ownsRow W.heap.size 22 1 v6 (n.length + 1) (vx ++ [.slice (some ⟨X.heap.size, 0, none⟩) 15 C]) := by rw [← hxl]; exact o6
     obtain ⟨v6g, v6c, rfl⟩ := ownsRow_succ (k := n.length) o6
     obtain ⟨k6, p6, k7, r7, c7, g7⟩ := bent_step (unhide HVX) (unhide HVXA) ((unhide HBQ).alloc (unhide HBQ).size _) ((unhide HU).below (below_alloc _)) ((unhide HTU).below (below_alloc _)) o6 (by simp) g6 (unhide KX) (unhide RX) (by omega) (unhide CX) (by omega) (by omega) (unhide GX) (by omega) (by omega)
     have cn6 := block_one k6
     have fn6 := block_frozen k6 0
     have P6 := hide p6
     have K7 := hide k7
     have R7 := hide r7
     have C7 := hide c7
     have G7 := hide g7
     clear k6 p6 k7 r7 c7 g7 o6 g6
     refine unhide HK _ _ ?_
     clear HK K
     try simp only [Act.put, List.setIfInBounds_toArray]
     refine wpAny_ready (rs := [10]) (by kernel_rfl) (by simp) (AllReady.cons (o := _) rfl (fun K hK => ?_) AllReady.nil)
     have HK := hide hK
     clear hK
     go_simp
     refine unhide HK _ _ ?_
     clear HK K
     try simp only [Act.put, List.setIfInBounds_toArray, List.set_cons_zero, List.set_cons_succ]
     refine wpAny_ready (rs := [11]) (by kernel_rfl) (by simp) (AllReady.cons (o := _) rfl (fun K hK => ?_) AllReady.nil)
     have HK := hide hK
     clear hK
     go_simp
     refine unhide HK _ _ ?_
     clear HK K
     try simp only [Act.put, List.setIfInBounds_toArray, List.set_cons_zero, List.set_cons_succ]
     refine wpAny_done (by kernel_rfl) ?_ _
     have cn7 := block_one (unhide K7)
     have cr7 := block_one (unhide R7)
     have fr7 := block_frozen (unhide R7) 0
     have M7 := hide (block_set (unhide R7) (.slice (some ⟨v6g, 0, none⟩) (n.length + 1) v6c))
     have O7 := hide (OwnT.set (j := 0) (unhide P6) (unhide R7) (by decide) (by decide) (.slice (some ⟨v6g, 0, none⟩) (n.length + 1) v6c))
     clear R7 K7 P6
     go_wp2_with fail
     refine bodyPost_ret (results_cell_row rfl _ _ w.heap.size 26 #[.slice (some ⟨v6g, 0, none⟩) (n.length + 1) v6c] (0, 0) _ rfl (unhide M7) Try.underlying26 rfl (by kernel_rfl)) rfl ?_
     have gs := grown_setCell (w6.setCell ⟨w1.heap.size, 0, none⟩ (.slice (some ⟨v6g, 0, none⟩) (n.length + 1) v6c)) ⟨w.heap.size, 0, none⟩ (.slice (some ⟨v6g, 0, none⟩) (n.length + 1) v6c)
     exact ⟨_, n ++ [numsOf ⟨#[97, 98, 99, 100, 101, 102, 103, 104, 105, 106, 107, 108, 109, 110, 111]⟩], rfl, by simp; omega, snoc_bound hn16 (by rw [numsOf_length]; decide), (unhide O7).mono (by omega), (unhide C7).later gs (fun j e => by cases e; exact hg), grown_own (unhide G7) gs (fun j e => by cases e; exact Nat.le_refl _)⟩
    ·refine anyT_ready (js := [5]) (by kernel_rfl) (by simp) (AllT.cons (o := _) rfl (fun K hK => ?_) AllT.nil)
     have HK := hide hK
     clear hK
     go_simp
     refine unhide HK _ _ cX ?_
     clear HK K
     try simp only [Act.put, List.setIfInBounds_toArray, List.set_cons_zero, List.set_cons_succ]
     refine anyT_ready (js := [6]) (by kernel_rfl) (by simp) (AllT.cons (o := _) rfl (fun K hK => ?_) AllT.nil)
     have HK := hide hK
     clear hK
     go_simp
     refine unhide HK _ _ cX ?_
     clear HK K
     try simp only [Act.put, List.setIfInBounds_toArray, List.set_cons_zero, List.set_cons_succ]
     have hcv := run_bytes_of_string (P := Try.prog) X 9 22 5 ⟨#[97, 98, 99, 100, 101, 102, 103, 104, 105, 106, 107, 108, 109, 110, 111, 112]⟩ Try.underlying9 Try.underlying22 Try.underlying5
     have hcap := grownCap_ge X (ByteArray.size ⟨#[97, 98, 99, 100, 101, 102, 103, 104, 105, 106, 107, 108, 109, 110, 111, 112]⟩) 0 5
     have hcap2 := grownCap_le_maxLen X (ByteArray.size ⟨#[97, 98, 99, 100, 101, 102, 103, 104, 105, 106, 107, 108, 109, 110, 111, 112]⟩) 0 5 (by decide)
     generalize grownCap X (ByteArray.size ⟨#[97, 98, 99, 100, 101, 102, 103, 104, 105, 106, 107, 108, 109, 110, 111, 112]⟩) 0 5 = C at *
     have bq := below_next (below_alloc (w := X) (.cells (bytesRow ⟨#[97, 98, 99, 100, 101, 102, 103, 104, 105, 106, 107, 108, 109, 110, 111, 112]⟩ C) 5 ((bytesRow ⟨#[97, 98, 99, 100, 101, 102, 103, 104, 105, 106, 107, 108, 109, 110, 111, 112]⟩ C).size, (bytesRow ⟨#[97, 98, 99, 100, 101, 102, 103, 104, 105, 106, 107, 108, 109, 110, 111, 112]⟩ C).size + 1))) (below_drew (w := X.alloc (.cells (bytesRow ⟨#[97, 98, 99, 100, 101, 102, 103, 104, 105, 106, 107, 108, 109, 110, 111, 112]⟩ C) 5 ((bytesRow ⟨#[97, 98, 99, 100, 101, 102, 103, 104, 105, 106, 107, 108, 109, 110, 111, 112]⟩ C).size, (bytesRow ⟨#[97, 98, 99, 100, 101, 102, 103, 104, 105, 106, 107, 108, 109, 110, 111, 112]⟩ C).size + 1))))
     have HU := hide ((has_str X 5 ⟨#[97, 98, 99, 100, 101, 102, 103, 104, 105, 106, 107, 108, 109, 110, 111, 112]⟩ C ((bytesRow ⟨#[97, 98, 99, 100, 101, 102, 103, 104, 105, 106, 107, 108, 109, 110, 111, 112]⟩ C).size, (bytesRow ⟨#[97, 98, 99, 100, 101, 102, 103, 104, 105, 106, 107, 108, 109, 110, 111, 112]⟩ C).size + 1) hcap hcap2).below (below_drew (w := X.alloc (.cells (bytesRow ⟨#[97, 98, 99, 100, 101, 102, 103, 104, 105, 106, 107, 108, 109, 110, 111, 112]⟩ C) 5 ((bytesRow ⟨#[97, 98, 99, 100, 101, 102, 103, 104, 105, 106, 107, 108, 109, 110, 111, 112]⟩ C).size, (bytesRow ⟨#[97, 98, 99, 100, 101, 102, 103, 104, 105, 106, 107, 108, 109, 110, 111, 112]⟩ C).size + 1)))))
     have HTU := hide ((typed_const X 5 (bytesRow ⟨#[97, 98, 99, 100, 101, 102, 103, 104, 105, 106, 107, 108, 109, 110, 111, 112]⟩ C) ((bytesRow ⟨#[97, 98, 99, 100, 101, 102, 103, 104, 105, 106, 107, 108, 109, 110, 111, 112]⟩ C).size, (bytesRow ⟨#[97, 98, 99, 100, 101, 102, 103, 104, 105, 106, 107, 108, 109, 110, 111, 112]⟩ C).size + 1) 16 C).below (below_drew (w := X.alloc (.cells (bytesRow ⟨#[97, 98, 99, 100, 101, 102, 103, 104, 105, 106, 107, 108, 109, 110, 111, 112]⟩ C) 5 ((bytesRow ⟨#[97, 98, 99, 100, 101, 102, 103, 104, 105, 106, 107, 108, 109, 110, 111, 112]⟩ C).size, (bytesRow ⟨#[97, 98, 99, 100, 101, 102, 103, 104, 105, 106, 107, 108, 109, 110, 111, 112]⟩ C).size + 1)))))
     have HBQ := hide bq
     have kQ := block_one (block_kept bq (unhide KX))
     have kQ2 : ∀ o, ((X.alloc (.cells (bytesRow ⟨#[97, 98, 99, 100, 101, 102, 103, 104, 105, 106, 107, 108, 109, 110, 111, 112]⟩ C) 5 ((bytesRow ⟨#[97, 98, 99, 100, 101, 102, 103, 104, 105, 106, 107, 108, 109, 110, 111, 112]⟩ C).size, (bytesRow ⟨#[97, 98, 99, 100, 101, 102, 103, 104, 105, 106, 107, 108, 109, 110, 111, 112]⟩ C).size + 1))).drew.alloc o).cell? ⟨w1.heap.size, 0, none⟩ = some (.slice oa n.length oc) := fun o => block_one (block_kept (below_alloc o) (block_kept bq (unhide KX)))
     have zq := bq.size
     clear bq hcap hcap2
     refine anyT_ready (js := [7]) (by kernel_rfl) (by simp) (AllT.cons (o := _) rfl (fun K hK => ?_) AllT.nil)
     have HK := hide hK
     clear hK
     go_simp
     refine unhide HK _ _ kQ ?_
     clear HK K
     try simp only [Act.put, List.setIfInBounds_toArray, List.set_cons_zero, List.set_cons_succ]
     generalize (X.alloc (.cells (bytesRow ⟨#[97, 98, 99, 100, 101, 102, 103, 104, 105, 106, 107, 108, 109, 110, 111, 112]⟩ C) 5 ((bytesRow ⟨#[97, 98, 99, 100, 101, 102, 103, 104, 105, 106, 107, 108, 109, 110, 111, 112]⟩ C).size, (bytesRow ⟨#[97, 98, 99, 100, 101, 102, 103, 104, 105, 106, 107, 108, 109, 110, 111, 112]⟩ C).size + 1))).drew = Y at *
     refine anyT_ready (js := [8]) (by kernel_rfl) (by simp) (AllT.cons (o := _) rfl (fun K hK => ?_) AllT.nil)
     have HK := hide hK
     clear hK
     go_simp
     refine unhide HK _ _ (kQ2 _) ?_
     clear HK K
     try simp only [Act.put, List.setIfInBounds_toArray, List.set_cons_zero, List.set_cons_succ]
     refine AnyT.over _ _ _ _ (by kernel_rfl) ?_
     refine wpAny_ready (rs := [9]) (by kernel_rfl) (by simp) (AllReady.cons (o := _) rfl (fun K hK => ?_) AllReady.nil)
     have HK := hide hK
     clear hK
     refine step_append_row rfl (.tmp 40) (.tmp 47) 24 22 rfl Try.underlying24 info_sl9 W.heap.size (.slice oa n.length oc) _ vx [.slice (some ⟨X.heap.size, 0, none⟩) 16 C] (by simp [Act.eval]) (by simp [Act.eval]) (by rw [hxl]; exact World.ownsRow.alloc (ownsRow_kept' (unhide HVX) (unhide HBQ)) _) (one_more Y 22 _) (by intro y hy; simp at hy; subst hy; rfl) (by rw [hxl]; simp; omega) (by simp; omega) ?_
     intro v6 w6 o6 g6
     replace o6 : w6.ownsRow W.heap.size 22 1 v6 (n.length + 1) (vx ++ [.slice (some ⟨X.heap.size, 0, none⟩) 16 C]) := by rw [← hxl]; exact o6
     obtain ⟨v6g, v6c, rfl⟩ := ownsRow_succ (k := n.length) o6
     obtain ⟨k6, p6, k7, r7, c7, g7⟩ := bent_step (unhide HVX) (unhide HVXA) ((unhide HBQ).alloc (unhide HBQ).size _) ((unhide HU).below (below_alloc _)) ((unhide HTU).below (below_alloc _)) o6 (by simp) g6 (unhide KX) (unhide RX) (by omega) (unhide CX) (by omega) (by omega) (unhide GX) (by omega) (by omega)
     have cn6 := block_one k6
     have fn6 := block_frozen k6 0
     have P6 := hide p6
     have K7 := hide k7
     have R7 := hide r7
     have C7 := hide c7
     have G7 := hide g7
     clear k6 p6 k7 r7 c7 g7 o6 g6
     refine unhide HK _ _ ?_
     clear HK K
     try simp only [Act.put, List.setIfInBounds_toArray]
     refine wpAny_ready (rs := [10]) (by kernel_rfl) (by simp) (AllReady.cons (o := _) rfl (fun K hK => ?_) AllReady.nil)
     have HK := hide hK
     clear hK
     go_simp
     refine unhide HK _ _ ?_
     clear HK K
     try simp only [Act.put, List.setIfInBounds_toArray, List.set_cons_zero, List.set_cons_succ]
     refine wpAny_ready (rs := [11]) (by kernel_rfl) (by simp) (AllReady.cons (o := _) rfl (fun K hK => ?_) AllReady.nil)
     have HK := hide hK
     clear hK
     go_simp
     refine unhide HK _ _ ?_
     clear HK K
     try simp only [Act.put, List.setIfInBounds_toArray, List.set_cons_zero, List.set_cons_succ]
     refine wpAny_done (by kernel_rfl) ?_ _
     have cn7 := block_one (unhide K7)
     have cr7 := block_one (unhide R7)
     have fr7 := block_frozen (unhide R7) 0
     have M7 := hide (block_set (unhide R7) (.slice (some ⟨v6g, 0, none⟩) (n.length + 1) v6c))
     have O7 := hide (OwnT.set (j := 0) (unhide P6) (unhide R7) (by decide) (by decide) (.slice (some ⟨v6g, 0, none⟩) (n.length + 1) v6c))
     clear R7 K7 P6
     go_wp2_with fail
     refine bodyPost_ret (results_cell_row rfl _ _ w.heap.size 26 #[.slice (some ⟨v6g, 0, none⟩) (n.length + 1) v6c] (0, 0) _ rfl (unhide M7) Try.underlying26 rfl (by kernel_rfl)) rfl ?_
     have gs := grown_setCell (w6.setCell ⟨w1.heap.size, 0, none⟩ (.slice (some ⟨v6g, 0, none⟩) (n.length + 1) v6c)) ⟨w.heap.size, 0, none⟩ (.slice (some ⟨v6g, 0, none⟩) (n.length + 1) v6c)
     exact ⟨_, n ++ [numsOf ⟨#[97, 98, 99, 100, 101, 102, 103, 104, 105, 106, 107, 108, 109, 110, 111, 112]⟩], rfl, by simp; omega, snoc_bound hn16 (by rw [numsOf_length]; decide), (unhide O7).mono (by omega), (unhide C7).later gs (fun j e => by cases e; exact hg), grown_own (unhide G7) gs (fun j e => by cases e; exact Nat.le_refl _)⟩
   ·have HK := hide hK
    clear hK
    have LD := (unhide HLL).later (unhide HGD) (fun j e => by cases e; exact Nat.le_refl _)
    have HB2 := hide (l1Below_any 2 (unhide CD) LD hm (by omega) (by omega))
    clear LD
    go_simp
    refine (unhide HB2).mono ?_
    rintro e E ⟨x, rfl, hx0, hx1, cE0, gE⟩
    have KE := hide (block_grown gE (unhide KD) (by simp; omega))
    have RE := hide (block_grown gE (unhide RD) (by simp; omega))
    have OE := hide ((unhide OD).kept gE (by omega))
    have GE : w.grownBy E (some g) := ⟨gE.os.trans (unhide HGD).os, gE.tape.trans (unhide HGD).tape, gE.output.trans (unhide HGD).output, Nat.le_trans (unhide HGD).size gE.size, fun i hi hq => (gE.block i (Nat.lt_of_lt_of_le hi (unhide HGD).size) hq).trans ((unhide HGD).block i hi hq)⟩
    have zE := gE.size
    have cE := block_one (unhide KE)
    have HGE := hide GE
    have HCE := hide cE0
    clear gE GE cE0 KD RD OD CD HGD HB2 cD
    go_simp
    refine unhide HK _ _ cE ?_
    clear HK K
    try simp only [Act.put, List.setIfInBounds_toArray, List.set_cons_zero, List.set_cons_succ]
    have bX := below_alloc (w := E) (.cells #[.string ⟨#[97, 98, 99, 100, 101, 102, 103, 104, 105, 106, 107, 108, 109, 110, 111]⟩, .string ⟨#[97, 98, 99, 100, 101, 102, 103, 104, 105, 106, 107, 108, 109, 110, 111, 112]⟩] 9)
    have SX := hide (heap_alloc_new E (.cells #[.string ⟨#[97, 98, 99, 100, 101, 102, 103, 104, 105, 106, 107, 108, 109, 110, 111]⟩, .string ⟨#[97, 98, 99, 100, 101, 102, 103, 104, 105, 106, 107, 108, 109, 110, 111, 112]⟩] 9))
    have KX := hide (block_kept bX (unhide KE))
    have RX := hide (block_kept bX (unhide RE))
    have OX := hide ((unhide OE).below bX)
    have CX := hide ((unhide HCE).later (grown_alloc E (.cells #[.string ⟨#[97, 98, 99, 100, 101, 102, 103, 104, 105, 106, 107, 108, 109, 110, 111]⟩, .string ⟨#[97, 98, 99, 100, 101, 102, 103, 104, 105, 106, 107, 108, 109, 110, 111, 112]⟩] 9) none) (fun j e => by cases e))
    have GX := hide (grown_own (unhide HGE) (grown_alloc E (.cells #[.string ⟨#[97, 98, 99, 100, 101, 102, 103, 104, 105, 106, 107, 108, 109, 110, 111]⟩, .string ⟨#[97, 98, 99, 100, 101, 102, 103, 104, 105, 106, 107, 108, 109, 110, 111, 112]⟩] 9) none) (fun j e => by cases e))
    have zX := bX.size
    obtain ⟨vx, hvx, hvxa⟩ := (unhide OX).ownT
    have hxl : vx.length = n.length := by have := hvx.1; simpa using this
    have HVX := hide hvx
    have HVXA := hide hvxa
    have cX := block_one (unhide KX)
    have s0 := block_cell (unhide SX) 0
    have s1 := block_cell (unhide SX) 1
    simp only [List.getElem?_toArray, List.getElem?_cons_zero, List.getElem?_cons_succ] at s0 s1
    clear hvx hvxa
    clear bX KE RE OE HGE HCE
    refine anyT_ready (js := [2]) (by kernel_rfl) (by simp) (AllT.cons (o := _) rfl (fun K hK => ?_) AllT.nil)
    have HK := hide hK
    clear hK
    go_simp
    refine unhide HK _ _ cX ?_
    clear HK K
    try simp only [Act.put, List.setIfInBounds_toArray, List.set_cons_zero, List.set_cons_succ]
    generalize E.alloc (.cells #[.string ⟨#[97, 98, 99, 100, 101, 102, 103, 104, 105, 106, 107, 108, 109, 110, 111]⟩, .string ⟨#[97, 98, 99, 100, 101, 102, 103, 104, 105, 106, 107, 108, 109, 110, 111, 112]⟩] 9) = X at *
    have hx : x = 0 ∨ x = 1 := by omega
    clear hx0 hx1
    rcases hx with rfl | rfl
    ·refine anyT_ready (js := [5]) (by kernel_rfl) (by simp) (AllT.cons (o := _) rfl (fun K hK => ?_) AllT.nil)
     have HK := hide hK
     clear hK
     go_simp
     refine unhide HK _ _ cX ?_
     clear HK K
     try simp only [Act.put, List.setIfInBounds_toArray, List.set_cons_zero, List.set_cons_succ]
     refine anyT_ready (js := [6]) (by kernel_rfl) (by simp) (AllT.cons (o := _) rfl (fun K hK => ?_) AllT.nil)
     have HK := hide hK
     clear hK
     go_simp
     refine unhide HK _ _ cX ?_
     clear HK K
     try simp only [Act.put, List.setIfInBounds_toArray, List.set_cons_zero, List.set_cons_succ]
     have hcv := run_bytes_of_string (P := Try.prog) X 9 22 5 ⟨#[97, 98, 99, 100, 101, 102, 103, 104, 105, 106, 107, 108, 109, 110, 111]⟩ Try.underlying9 Try.underlying22 Try.underlying5
     have hcap := grownCap_ge X (ByteArray.size ⟨#[97, 98, 99, 100, 101, 102, 103, 104, 105, 106, 107, 108, 109, 110, 111]⟩) 0 5
     have hcap2 := grownCap_le_maxLen X (ByteArray.size ⟨#[97, 98, 99, 100, 101, 102, 103, 104, 105, 106, 107, 108, 109, 110, 111]⟩) 0 5 (by decide)
     generalize grownCap X (ByteArray.size ⟨#[97, 98, 99, 100, 101, 102, 103, 104, 105, 106, 107, 108, 109, 110, 111]⟩) 0 5 = C at *
     have bq := below_next (below_alloc (w := X) (.cells (bytesRow ⟨#[97, 98, 99, 100, 101, 102, 103, 104, 105, 106, 107, 108, 109, 110, 111]⟩ C) 5 ((bytesRow ⟨#[97, 98, 99, 100, 101, 102, 103, 104, 105, 106, 107, 108, 109, 110, 111]⟩ C).size, (bytesRow ⟨#[97, 98, 99, 100, 101, 102, 103, 104, 105, 106, 107, 108, 109, 110, 111]⟩ C).size + 1))) (below_drew (w := X.alloc (.cells (bytesRow ⟨#[97, 98, 99, 100, 101, 102, 103, 104, 105, 106, 107, 108, 109, 110, 111]⟩ C) 5 ((bytesRow ⟨#[97, 98, 99, 100, 101, 102, 103, 104, 105, 106, 107, 108, 109, 110, 111]⟩ C).size, (bytesRow ⟨#[97, 98, 99, 100, 101, 102, 103, 104, 105, 106, 107, 108, 109, 110, 111]⟩ C).size + 1))))
     have HU := hide ((has_str X 5 ⟨#[97, 98, 99, 100, 101, 102, 103, 104, 105, 106, 107, 108, 109, 110, 111]⟩ C ((bytesRow ⟨#[97, 98, 99, 100, 101, 102, 103, 104, 105, 106, 107, 108, 109, 110, 111]⟩ C).size, (bytesRow ⟨#[97, 98, 99, 100, 101, 102, 103, 104, 105, 106, 107, 108, 109, 110, 111]⟩ C).size + 1) hcap hcap2).below (below_drew (w := X.alloc (.cells (bytesRow ⟨#[97, 98, 99, 100, 101, 102, 103, 104, 105, 106, 107, 108, 109, 110, 111]⟩ C) 5 ((bytesRow ⟨#[97, 98, 99, 100, 101, 102, 103, 104, 105, 106, 107, 108, 109, 110, 111]⟩ C).size, (bytesRow ⟨#[97, 98, 99, 100, 101, 102, 103, 104, 105, 106, 107, 108, 109, 110, 111]⟩ C).size + 1)))))
     have HTU := hide ((typed_const X 5 (bytesRow ⟨#[97, 98, 99, 100, 101, 102, 103, 104, 105, 106, 107, 108, 109, 110, 111]⟩ C) ((bytesRow ⟨#[97, 98, 99, 100, 101, 102, 103, 104, 105, 106, 107, 108, 109, 110, 111]⟩ C).size, (bytesRow ⟨#[97, 98, 99, 100, 101, 102, 103, 104, 105, 106, 107, 108, 109, 110, 111]⟩ C).size + 1) 15 C).below (below_drew (w := X.alloc (.cells (bytesRow ⟨#[97, 98, 99, 100, 101, 102, 103, 104, 105, 106, 107, 108, 109, 110, 111]⟩ C) 5 ((bytesRow ⟨#[97, 98, 99, 100, 101, 102, 103, 104, 105, 106, 107, 108, 109, 110, 111]⟩ C).size, (bytesRow ⟨#[97, 98, 99, 100, 101, 102, 103, 104, 105, 106, 107, 108, 109, 110, 111]⟩ C).size + 1)))))
     have HBQ := hide bq
     have kQ := block_one (block_kept bq (unhide KX))
     have kQ2 : ∀ o, ((X.alloc (.cells (bytesRow ⟨#[97, 98, 99, 100, 101, 102, 103, 104, 105, 106, 107, 108, 109, 110, 111]⟩ C) 5 ((bytesRow ⟨#[97, 98, 99, 100, 101, 102, 103, 104, 105, 106, 107, 108, 109, 110, 111]⟩ C).size, (bytesRow ⟨#[97, 98, 99, 100, 101, 102, 103, 104, 105, 106, 107, 108, 109, 110, 111]⟩ C).size + 1))).drew.alloc o).cell? ⟨w1.heap.size, 0, none⟩ = some (.slice oa n.length oc) := fun o => block_one (block_kept (below_alloc o) (block_kept bq (unhide KX)))
     have zq := bq.size
     clear bq hcap hcap2
     refine anyT_ready (js := [7]) (by kernel_rfl) (by simp) (AllT.cons (o := _) rfl (fun K hK => ?_) AllT.nil)
     have HK := hide hK
     clear hK
     go_simp
     refine unhide HK _ _ kQ ?_
     clear HK K
     try simp only [Act.put, List.setIfInBounds_toArray, List.set_cons_zero, List.set_cons_succ]
     generalize (X.alloc (.cells (bytesRow ⟨#[97, 98, 99, 100, 101, 102, 103, 104, 105, 106, 107, 108, 109, 110, 111]⟩ C) 5 ((bytesRow ⟨#[97, 98, 99, 100, 101, 102, 103, 104, 105, 106, 107, 108, 109, 110, 111]⟩ C).size, (bytesRow ⟨#[97, 98, 99, 100, 101, 102, 103, 104, 105, 106, 107, 108, 109, 110, 111]⟩ C).size + 1))).drew = Y at *
     refine anyT_ready (js := [8]) (by kernel_rfl) (by simp) (AllT.cons (o := _) rfl (fun K hK => ?_) AllT.nil)
     have HK := hide hK
     clear hK
     go_simp
     refine unhide HK _ _ (kQ2 _) ?_
     clear HK K
     try simp only [Act.put, List.setIfInBounds_toArray, List.set_cons_zero, List.set_cons_succ]
     refine AnyT.over _ _ _ _ (by kernel_rfl) ?_
     refine wpAny_ready (rs := [9]) (by kernel_rfl) (by simp) (AllReady.cons (o := _) rfl (fun K hK => ?_) AllReady.nil)
     have HK := hide hK
     clear hK
     refine step_append_row rfl (.tmp 40) (.tmp 47) 24 22 rfl Try.underlying24 info_sl9 W.heap.size (.slice oa n.length oc) _ vx [.slice (some ⟨X.heap.size, 0, none⟩) 15 C] (by simp [Act.eval]) (by simp [Act.eval]) (by rw [hxl]; exact World.ownsRow.alloc (ownsRow_kept' (unhide HVX) (unhide HBQ)) _) (one_more Y 22 _) (by intro y hy; simp at hy; subst hy; rfl) (by rw [hxl]; simp; omega) (by simp; omega) ?_
     intro v6 w6 o6 g6
     replace o6 : w6.ownsRow W.heap.size 22 1 v6 (n.length + 1) (vx ++ [.slice (some ⟨X.heap.size, 0, none⟩) 15 C]) := by rw [← hxl]; exact o6
     obtain ⟨v6g, v6c, rfl⟩ := ownsRow_succ (k := n.length) o6
     obtain ⟨k6, p6, k7, r7, c7, g7⟩ := bent_step (unhide HVX) (unhide HVXA) ((unhide HBQ).alloc (unhide HBQ).size _) ((unhide HU).below (below_alloc _)) ((unhide HTU).below (below_alloc _)) o6 (by simp) g6 (unhide KX) (unhide RX) (by omega) (unhide CX) (by omega) (by omega) (unhide GX) (by omega) (by omega)
     have cn6 := block_one k6
     have fn6 := block_frozen k6 0
     have P6 := hide p6
     have K7 := hide k7
     have R7 := hide r7
     have C7 := hide c7
     have G7 := hide g7
     clear k6 p6 k7 r7 c7 g7 o6 g6
     refine unhide HK _ _ ?_
     clear HK K
     try simp only [Act.put, List.setIfInBounds_toArray]
     refine wpAny_ready (rs := [10]) (by kernel_rfl) (by simp) (AllReady.cons (o := _) rfl (fun K hK => ?_) AllReady.nil)
     have HK := hide hK
     clear hK
     go_simp
     refine unhide HK _ _ ?_
     clear HK K
     try simp only [Act.put, List.setIfInBounds_toArray, List.set_cons_zero, List.set_cons_succ]
     refine wpAny_ready (rs := [11]) (by kernel_rfl) (by simp) (AllReady.cons (o := _) rfl (fun K hK => ?_) AllReady.nil)
     have HK := hide hK
     clear hK
     go_simp
     refine unhide HK _ _ ?_
     clear HK K
     try simp only [Act.put, List.setIfInBounds_toArray, List.set_cons_zero, List.set_cons_succ]
     refine wpAny_done (by kernel_rfl) ?_ _
     have cn7 := block_one (unhide K7)
     have cr7 := block_one (unhide R7)
     have fr7 := block_frozen (unhide R7) 0
     have M7 := hide (block_set (unhide R7) (.slice (some ⟨v6g, 0, none⟩) (n.length + 1) v6c))
     have O7 := hide (OwnT.set (j := 0) (unhide P6) (unhide R7) (by decide) (by decide) (.slice (some ⟨v6g, 0, none⟩) (n.length + 1) v6c))
     clear R7 K7 P6
     go_wp2_with fail
     refine bodyPost_ret (results_cell_row rfl _ _ w.heap.size 26 #[.slice (some ⟨v6g, 0, none⟩) (n.length + 1) v6c] (0, 0) _ rfl (unhide M7) Try.underlying26 rfl (by kernel_rfl)) rfl ?_
     have gs := grown_setCell (w6.setCell ⟨w1.heap.size, 0, none⟩ (.slice (some ⟨v6g, 0, none⟩) (n.length + 1) v6c)) ⟨w.heap.size, 0, none⟩ (.slice (some ⟨v6g, 0, none⟩) (n.length + 1) v6c)
     exact ⟨_, n ++ [numsOf ⟨#[97, 98, 99, 100, 101, 102, 103, 104, 105, 106, 107, 108, 109, 110, 111]⟩], rfl, by simp; omega, snoc_bound hn16 (by rw [numsOf_length]; decide), (unhide O7).mono (by omega), (unhide C7).later gs (fun j e => by cases e; exact hg), grown_own (unhide G7) gs (fun j e => by cases e; exact Nat.le_refl _)⟩
    ·refine anyT_ready (js := [5]) (by kernel_rfl) (by simp) (AllT.cons (o := _) rfl (fun K hK => ?_) AllT.nil)
     have HK := hide hK
     clear hK
     go_simp
     refine unhide HK _ _ cX ?_
     clear HK K
     try simp only [Act.put, List.setIfInBounds_toArray, List.set_cons_zero, List.set_cons_succ]
     refine anyT_ready (js := [6]) (by kernel_rfl) (by simp) (AllT.cons (o := _) rfl (fun K hK => ?_) AllT.nil)
     have HK := hide hK
     clear hK
     go_simp
     refine unhide HK _ _ cX ?_
     clear HK K
     try simp only [Act.put, List.setIfInBounds_toArray, List.set_cons_zero, List.set_cons_succ]
     have hcv := run_bytes_of_string (P := Try.prog) X 9 22 5 ⟨#[97, 98, 99, 100, 101, 102, 103, 104, 105, 106, 107, 108, 109, 110, 111, 112]⟩ Try.underlying9 Try.underlying22 Try.underlying5
     have hcap := grownCap_ge X (ByteArray.size ⟨#[97, 98, 99, 100, 101, 102, 103, 104, 105, 106, 107, 108, 109, 110, 111, 112]⟩) 0 5
     have hcap2 := grownCap_le_maxLen X (ByteArray.size ⟨#[97, 98, 99, 100, 101, 102, 103, 104, 105, 106, 107, 108, 109, 110, 111, 112]⟩) 0 5 (by decide)
     generalize grownCap X (ByteArray.size ⟨#[97, 98, 99, 100, 101, 102, 103, 104, 105, 106, 107, 108, 109, 110, 111, 112]⟩) 0 5 = C at *
     have bq := below_next (below_alloc (w := X) (.cells (bytesRow ⟨#[97, 98, 99, 100, 101, 102, 103, 104, 105, 106, 107, 108, 109, 110, 111, 112]⟩ C) 5 ((bytesRow ⟨#[97, 98, 99, 100, 101, 102, 103, 104, 105, 106, 107, 108, 109, 110, 111, 112]⟩ C).size, (bytesRow ⟨#[97, 98, 99, 100, 101, 102, 103, 104, 105, 106, 107, 108, 109, 110, 111, 112]⟩ C).size + 1))) (below_drew (w := X.alloc (.cells (bytesRow ⟨#[97, 98, 99, 100, 101, 102, 103, 104, 105, 106, 107, 108, 109, 110, 111, 112]⟩ C) 5 ((bytesRow ⟨#[97, 98, 99, 100, 101, 102, 103, 104, 105, 106, 107, 108, 109, 110, 111, 112]⟩ C).size, (bytesRow ⟨#[97, 98, 99, 100, 101, 102, 103, 104, 105, 106, 107, 108, 109, 110, 111, 112]⟩ C).size + 1))))
     have HU := hide ((has_str X 5 ⟨#[97, 98, 99, 100, 101, 102, 103, 104, 105, 106, 107, 108, 109, 110, 111, 112]⟩ C ((bytesRow ⟨#[97, 98, 99, 100, 101, 102, 103, 104, 105, 106, 107, 108, 109, 110, 111, 112]⟩ C).size, (bytesRow ⟨#[97, 98, 99, 100, 101, 102, 103, 104, 105, 106, 107, 108, 109, 110, 111, 112]⟩ C).size + 1) hcap hcap2).below (below_drew (w := X.alloc (.cells (bytesRow ⟨#[97, 98, 99, 100, 101, 102, 103, 104, 105, 106, 107, 108, 109, 110, 111, 112]⟩ C) 5 ((bytesRow ⟨#[97, 98, 99, 100, 101, 102, 103, 104, 105, 106, 107, 108, 109, 110, 111, 112]⟩ C).size, (bytesRow ⟨#[97, 98, 99, 100, 101, 102, 103, 104, 105, 106, 107, 108, 109, 110, 111, 112]⟩ C).size + 1)))))
     have HTU := hide ((typed_const X 5 (bytesRow ⟨#[97, 98, 99, 100, 101, 102, 103, 104, 105, 106, 107, 108, 109, 110, 111, 112]⟩ C) ((bytesRow ⟨#[97, 98, 99, 100, 101, 102, 103, 104, 105, 106, 107, 108, 109, 110, 111, 112]⟩ C).size, (bytesRow ⟨#[97, 98, 99, 100, 101, 102, 103, 104, 105, 106, 107, 108, 109, 110, 111, 112]⟩ C).size + 1) 16 C).below (below_drew (w := X.alloc (.cells (bytesRow ⟨#[97, 98, 99, 100, 101, 102, 103, 104, 105, 106, 107, 108, 109, 110, 111, 112]⟩ C) 5 ((bytesRow ⟨#[97, 98, 99, 100, 101, 102, 103, 104, 105, 106, 107, 108, 109, 110, 111, 112]⟩ C).size, (bytesRow ⟨#[97, 98, 99, 100, 101, 102, 103, 104, 105, 106, 107, 108, 109, 110, 111, 112]⟩ C).size + 1)))))
     have HBQ := hide bq
     have kQ := block_one (block_kept bq (unhide KX))
     have kQ2 : ∀ o, ((X.alloc (.cells (bytesRow ⟨#[97, 98, 99, 100, 101, 102, 103, 104, 105, 106, 107, 108, 109, 110, 111, 112]⟩ C) 5 ((bytesRow ⟨#[97, 98, 99, 100, 101, 102, 103, 104, 105, 106, 107, 108, 109, 110, 111, 112]⟩ C).size, (bytesRow ⟨#[97, 98, 99, 100, 101, 102, 103, 104, 105, 106, 107, 108, 109, 110, 111, 112]⟩ C).size + 1))).drew.alloc o).cell? ⟨w1.heap.size, 0, none⟩ = some (.slice oa n.length oc) := fun o => block_one (block_kept (below_alloc o) (block_kept bq (unhide KX)))
     have zq := bq.size
     clear bq hcap hcap2
     refine anyT_ready (js := [7]) (by kernel_rfl) (by simp) (AllT.cons (o := _) rfl (fun K hK => ?_) AllT.nil)
     have HK := hide hK
     clear hK
     go_simp
     refine unhide HK _ _ kQ ?_
     clear HK K
     try simp only [Act.put, List.setIfInBounds_toArray, List.set_cons_zero, List.set_cons_succ]
     generalize (X.alloc (.cells (bytesRow ⟨#[97, 98, 99, 100, 101, 102, 103, 104, 105, 106, 107, 108, 109, 110, 111, 112]⟩ C) 5 ((bytesRow ⟨#[97, 98, 99, 100, 101, 102, 103, 104, 105, 106, 107, 108, 109, 110, 111, 112]⟩ C).size, (bytesRow ⟨#[97, 98, 99, 100, 101, 102, 103, 104, 105, 106, 107, 108, 109, 110, 111, 112]⟩ C).size + 1))).drew = Y at *
     refine anyT_ready (js := [8]) (by kernel_rfl) (by simp) (AllT.cons (o := _) rfl (fun K hK => ?_) AllT.nil)
     have HK := hide hK
     clear hK
     go_simp
     refine unhide HK _ _ (kQ2 _) ?_
     clear HK K
     try simp only [Act.put, List.setIfInBounds_toArray, List.set_cons_zero, List.set_cons_succ]
     refine AnyT.over _ _ _ _ (by kernel_rfl) ?_
     refine wpAny_ready (rs := [9]) (by kernel_rfl) (by simp) (AllReady.cons (o := _) rfl (fun K hK => ?_) AllReady.nil)
     have HK := hide hK
     clear hK
     refine step_append_row rfl (.tmp 40) (.tmp 47) 24 22 rfl Try.underlying24 info_sl9 W.heap.size (.slice oa n.length oc) _ vx [.slice (some ⟨X.heap.size, 0, none⟩) 16 C] (by simp [Act.eval]) (by simp [Act.eval]) (by rw [hxl]; exact World.ownsRow.alloc (ownsRow_kept' (unhide HVX) (unhide HBQ)) _) (one_more Y 22 _) (by intro y hy; simp at hy; subst hy; rfl) (by rw [hxl]; simp; omega) (by simp; omega) ?_
     intro v6 w6 o6 g6
     replace o6 : w6.ownsRow W.heap.size 22 1 v6 (n.length + 1) (vx ++ [.slice (some ⟨X.heap.size, 0, none⟩) 16 C]) := by rw [← hxl]; exact o6
     obtain ⟨v6g, v6c, rfl⟩ := ownsRow_succ (k := n.length) o6
     obtain ⟨k6, p6, k7, r7, c7, g7⟩ := bent_step (unhide HVX) (unhide HVXA) ((unhide HBQ).alloc (unhide HBQ).size _) ((unhide HU).below (below_alloc _)) ((unhide HTU).below (below_alloc _)) o6 (by simp) g6 (unhide KX) (unhide RX) (by omega) (unhide CX) (by omega) (by omega) (unhide GX) (by omega) (by omega)
     have cn6 := block_one k6
     have fn6 := block_frozen k6 0
     have P6 := hide p6
     have K7 := hide k7
     have R7 := hide r7
     have C7 := hide c7
     have G7 := hide g7
     clear k6 p6 k7 r7 c7 g7 o6 g6
     refine unhide HK _ _ ?_
     clear HK K
     try simp only [Act.put, List.setIfInBounds_toArray]
     refine wpAny_ready (rs := [10]) (by kernel_rfl) (by simp) (AllReady.cons (o := _) rfl (fun K hK => ?_) AllReady.nil)
     have HK := hide hK
     clear hK
     go_simp
     refine unhide HK _ _ ?_
     clear HK K
     try simp only [Act.put, List.setIfInBounds_toArray, List.set_cons_zero, List.set_cons_succ]
     refine wpAny_ready (rs := [11]) (by kernel_rfl) (by simp) (AllReady.cons (o := _) rfl (fun K hK => ?_) AllReady.nil)
     have HK := hide hK
     clear hK
     go_simp
     refine unhide HK _ _ ?_
     clear HK K
     try simp only [Act.put, List.setIfInBounds_toArray, List.set_cons_zero, List.set_cons_succ]
     refine wpAny_done (by kernel_rfl) ?_ _
     have cn7 := block_one (unhide K7)
     have cr7 := block_one (unhide R7)
     have fr7 := block_frozen (unhide R7) 0
     have M7 := hide (block_set (unhide R7) (.slice (some ⟨v6g, 0, none⟩) (n.length + 1) v6c))
     have O7 := hide (OwnT.set (j := 0) (unhide P6) (unhide R7) (by decide) (by decide) (.slice (some ⟨v6g, 0, none⟩) (n.length + 1) v6c))
     clear R7 K7 P6
     go_wp2_with fail
     refine bodyPost_ret (results_cell_row rfl _ _ w.heap.size 26 #[.slice (some ⟨v6g, 0, none⟩) (n.length + 1) v6c] (0, 0) _ rfl (unhide M7) Try.underlying26 rfl (by kernel_rfl)) rfl ?_
     have gs := grown_setCell (w6.setCell ⟨w1.heap.size, 0, none⟩ (.slice (some ⟨v6g, 0, none⟩) (n.length + 1) v6c)) ⟨w.heap.size, 0, none⟩ (.slice (some ⟨v6g, 0, none⟩) (n.length + 1) v6c)
     exact ⟨_, n ++ [numsOf ⟨#[97, 98, 99, 100, 101, 102, 103, 104, 105, 106, 107, 108, 109, 110, 111, 112]⟩], rfl, by simp; omega, snoc_bound hn16 (by rw [numsOf_length]; decide), (unhide O7).mono (by omega), (unhide C7).later gs (fun j e => by cases e; exact hg), grown_own (unhide G7) gs (fun j e => by cases e; exact Nat.le_refl _)⟩
  ·clear hx0 hx1
   have ST := hide (⟨n, _, by omega, hn16, unhide K4, unhide R4, ⟨vs, unhide HVS, unhide HVA⟩, unhide C4, unhide GG4⟩ : BentL w W w1 g a len cap (7 - n.length) w4)
   clear K4 R4 GG4 C4 HVS HVA kn kr hvl hn15 hn16
   go_wp2_with fail
   go_loopg [10] (7 - n.length) (fun k s wr => BentL w W w1 g a len cap k wr)
   case atStart => exact unhide ST
   case round =>
    clear ST
    obtain ⟨n, v, hgk, hn16, K4, R4, O4, C4, GG4⟩ := hrel
    obtain ⟨oa, oc, rfl⟩ := O4.form
    have kn := block_one K4
    have kr := block_one R4
    have fr := block_frozen R4 0
    have zr := GG4.size
    by_cases h7 : n.length = 7
    ·have h7' : ¬ ((n.length : Int) ≤ 6) := by omega
     have HN := hide hn16
     have HL := hide (Nat.le_of_eq h7)
     rw [h7] at K4 O4 kn
     have M6 := hide (block_set R4 (.slice oa 7 oc))
     have O6 := hide (OwnT.set (j := 0) O4 R4 (by decide) (by decide) (.slice oa 7 oc))
     have C6 := hide C4
     have GG6 := hide GG4
     clear K4 R4 O4 C4 GG4 h7' h7 hn16
     go_wp2_with fail
     refine bodyPost_ret (results_cell_row rfl _ _ w.heap.size 26 #[.slice oa 7 oc] (0, 0) _ rfl (unhide M6) Try.underlying26 rfl (by kernel_rfl)) rfl ?_
     have gs := grown_setCell wr ⟨w.heap.size, 0, none⟩ (.slice oa 7 oc)
     exact ⟨_, n, rfl, unhide HL, unhide HN, (unhide O6).mono (by omega), (unhide C6).later gs (fun j e => by cases e; exact hg), grown_own (unhide GG6) gs (fun j e => by cases e; exact Nat.le_refl _)⟩
    ·have h6 : (n.length : Int) ≤ 6 := by omega
     obtain ⟨G, rfl⟩ : ∃ G, gk = G + 1 := ⟨gk - 1, by omega⟩
     obtain ⟨vs, hvs, hva⟩ := O4
     have hvl : vs.length = n.length := by have := hvs.1; simpa using this
     have zk1 := block_lt K4
     have HVS := hide hvs
     have HVA := hide hva
     have HK4 := hide K4
     have HR4 := hide R4
     have HC4 := hide C4
     have HG4 := hide GG4
     have HN := hide hn16
     clear hvs hva K4 R4 C4 GG4 hn16 h7
     have B5 := hide (below2 wr (.cells #[.int .u8 122] 5 (1, 2)) (.cells #[.slice (some ⟨wr.heap.size, 0, none⟩) 1 1] 22))
     have U5 := hide ((has_const wr 5 [122] (1, 2) (by decide)).below (below_alloc (.cells #[.slice (some ⟨wr.heap.size, 0, none⟩) 1 1] 22)))
     have T5 := hide ((typed_const wr 5 #[.int .u8 122] (1, 2) 1 1).below (below_alloc (.cells #[.slice (some ⟨wr.heap.size, 0, none⟩) 1 1] 22)))
     have M5 := one_more (wr.alloc (.cells #[.int .u8 122] 5 (1, 2))) 22 (.slice (some ⟨wr.heap.size, 0, none⟩) 1 1)
     have e5 : (wr.alloc (.cells #[.int .u8 122] 5 (1, 2))).heap.size = wr.heap.size + 1 := by show (wr.heap.push _).size = _; simp
     rw [e5] at M5
     have HM5 := hide M5
     clear M5 e5
     go_wp2_with (at_builtin; refine append_row rfl _ _ 24 22 rfl Try.underlying24 info_sl9 W.heap.size (.slice oa n.length oc) _ vs [.slice (some ⟨wr.heap.size, 0, none⟩) 1 1] rfl rfl (by rw [hvl]; exact ownsRow_kept' (unhide HVS) (unhide B5)) (unhide HM5) (by intro y hy; simp at hy; subst hy; rfl) (by rw [hvl]; simp; omega) (by simp; omega) ?_)
     intro v5 w5 o5 g5
     obtain ⟨v5g, v5c, rfl⟩ := ownsRow_succ (k := n.length) o5
     obtain ⟨k5, o6, k6, r6, c6, g6⟩ := bent_step (unhide HVS) (unhide HVA) (unhide B5) (unhide U5) (unhide T5) o5 (by simp) g5 (unhide HK4) (unhide HR4) (by omega) (unhide HC4) (by omega) (by omega) (unhide HG4) (by omega) (by omega)
     have kn5 := block_one k5
     have fn5 := block_frozen k5 0
     have END := hide (⟨n ++ [[122]], _, by simp; omega, snoc_bound (unhide HN) (by simp), k6, r6, o6, c6, g6⟩ : BentL w W w1 g a len cap G (w5.setCell ⟨w1.heap.size, 0, none⟩ (.slice (some ⟨v5g, 0, none⟩) (n.length + 1) v5c)))
     clear o6 r6 k6 c6 g6 o5 g5 k5
     go_wp2_with fail
     go_roundg G
     case rel => exact unhide END
     all_goals omega
end Go.Proofs.Ytjgfljndeolmoaa
