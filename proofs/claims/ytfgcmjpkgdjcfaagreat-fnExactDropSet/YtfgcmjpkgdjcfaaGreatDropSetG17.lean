/-
  A region that draws its order, one way through it: what only looks is taken in the order of its number, whether its guard wants it or not. Contract of the program's dataKey: a record's type and data as a text that ascends as RrCmp does. Plain facts: maps whose keys are texts, whatever their elements, and ranges over them. No program is named here. Plain facts: a book (a map of pages, each a map of records) in memory, and what it says. No program is named here.
-/
import Derived.Test.YtfgcmjpkgdjcfaaGreatDropSetG03
import Derived.Deep.RegionHeld3
import Derived.Test.YtfgcmjpkgdjcfaaGreatDropSetG13
import Derived.Test.YtfgcmjpkgdjcfaaGreatDropSetG16
import Derived.Test.YtfgcmjpkgdjcfaaGreatDropSetG09
import Derived.Test.YtfgcmjpkgdjcfaaGreatDropSetG06
import Derived.Test.YtfgcmjpkgdjcfaaGreatDropSetG00
import Derived.Maps.RangeWalk
import Derived.RangeFuncNested
import Derived.Test.YtfgcmjpkgdjcfaaGreatDropSetG02
namespace Go.Proofs.YtfgcmjpkgdjcfaaGreat
open Go.RowKit
set_option linter.unusedVariables false

def nextF : List Bool → Nat
 | true :: l => nextF l + 1
 | _ => 0
def setF : List Bool → List Bool
 | true :: l => true :: setF l
 | false :: l => true :: l
 | [] => []
def dropF {α : Type} : List Bool → List α → List α
 | true :: l, _ :: m => dropF l m
 | _, m => m
theorem setF_eq : ∀ l : List Bool, l.set (nextF l) true = setF l
 | [] => rfl
 | false :: _ => rfl
 | true :: l => by simp [nextF, setF, setF_eq l]
theorem dropF_get {α : Type} {o : α} {r : List α} : ∀ (l : List Bool) (m : List α), dropF l m = o :: r → m[nextF l]? = some o
 | [], m, h => by simp only [dropF] at h; subst h; rfl
 | false :: _, m, h => by simp only [dropF] at h; subst h; rfl
 | true :: l, [], h => by simp only [dropF] at h; cases h
 | true :: l, _ :: m, h => by simp only [dropF] at h; simpa [nextF] using dropF_get l m h
def callsF : Op → Bool
 | .call _ => true
 | _ => false

section
variable {P : Program} {ops : Array Oper} {Q : Exit → Act → World → Prop} {md : Region.Mode} {S : World → Prop}
theorem ops_next {l : List Bool} {oi : Oper} {rest : List Oper} (hi : dropF l ops.toList = oi :: rest) : ops[nextF l]? = some oi := by
 have := dropF_get l ops.toList hi
 rwa [Array.getElem?_toList] at this
theorem ops_drop {i : Nat} {oi : Oper} {rest : List Oper} (hi : ops.toList.drop i = oi :: rest) : ops[i]? = some oi := by
 rw [← Array.getElem?_toList, ← List.head?_drop, hi]
 rfl
theorem listed_next (l : List Bool) : l.toArray.setIfInBounds (nextF l) true = (setF l).toArray := by
 rw [List.setIfInBounds_toArray, setF_eq]
/-- The next one is wanted and only looks. -/
theorem tkF (v : Value) {oi : Oper} {rest : List Oper} {fuel : Nat} {l : List Bool} {a : Act} {w : World} (hi : dropF l ops.toList = oi :: rest)
  (hk : (!callsF oi.op && Region.noSelect ops && Region.free md ops l.toArray (nextF l) && (Region.ready md ops l.toArray).contains (nextF l)) = true)
  (hb : Region.wanted oi (yielded ops a.tmps) = true) (hQ : ∀ c a w, Q (.panic c) (a.put oi.dst v) w → Q (.panic c) a w)
  (hy : ∀ w, S w → (execOp a.eval oi).run P w = .ok (.value v) w) (hS : S w)
  (h : wpAnyH P md ops Q S fuel (setF l).toArray (a.put oi.dst v) w) : wpAnyH P md ops Q S (fuel + 1) l.toArray a w := by
 simp only [Bool.and_eq_true] at hk
 refine wpAnyH_take (ops_next hi) hk.1.1.2 hk.1.2 hk.2 hQ (Or.inl ⟨hb, hy⟩) hS ?_
 rw [listed_next]
 exact h
/-- The next one is not wanted. -/
theorem skF {oi : Oper} {rest : List Oper} {fuel : Nat} {l : List Bool} {a : Act} {w : World} (hi : dropF l ops.toList = oi :: rest)
  (hk : (Region.noSelect ops && Region.free md ops l.toArray (nextF l) && (Region.ready md ops l.toArray).contains (nextF l)) = true)
  (hb : Region.wanted oi (yielded ops a.tmps) = false) (hQ : ∀ c a w, Q (.panic c) (a.put oi.dst undef) w → Q (.panic c) a w) (hS : S w)
  (h : wpAnyH P md ops Q S fuel (setF l).toArray (a.put oi.dst undef) w) : wpAnyH P md ops Q S (fuel + 1) l.toArray a w := by
 simp only [Bool.and_eq_true] at hk
 refine wpAnyH_take (ops_next hi) hk.1.1 hk.1.2 hk.2 hQ (Or.inr ⟨hb, rfl⟩) hS ?_
 rw [listed_next]
 exact h
/-- Number i is wanted and only looks. -/
theorem tkI (i : Nat) (v : Value) {oi : Oper} {rest : List Oper} {fuel : Nat} {listed : Array Bool} {a : Act} {w : World} (hi : ops.toList.drop i = oi :: rest)
  (hk : (Region.noSelect ops && Region.free md ops listed i && (Region.ready md ops listed).contains i) = true)
  (hb : Region.wanted oi (yielded ops a.tmps) = true) (hQ : ∀ c a w, Q (.panic c) (a.put oi.dst v) w → Q (.panic c) a w)
  (hy : ∀ w, S w → (execOp a.eval oi).run P w = .ok (.value v) w) (hS : S w)
  (h : wpAnyH P md ops Q S fuel (listed.setIfInBounds i true) (a.put oi.dst v) w) : wpAnyH P md ops Q S (fuel + 1) listed a w := by
 simp only [Bool.and_eq_true] at hk
 exact wpAnyH_take (ops_drop hi) hk.1.1 hk.1.2 hk.2 hQ (Or.inl ⟨hb, hy⟩) hS h
/-- Number i alone may come up: it is run, and S shown anew. -/
theorem runI (i : Nat) {oi : Oper} {rest : List Oper} {fuel : Nat} {listed : Array Bool} {a : Act} {w : World} (hi : ops.toList.drop i = oi :: rest)
  (hk : (Region.ready md ops listed == [i]) = true) (hb : Region.wanted oi (yielded ops a.tmps) = true)
  (h : ∀ K' : Act → World → Prop, Shut (∀ a w, S w → (S w → wpAnyH P md ops Q S fuel (listed.setIfInBounds i true) a w) → K' a w) → Oper.wp P oi a w K' Q) :
  wpAnyH P md ops Q S (fuel + 1) listed a w := by
 rw [beq_iff_eq] at hk
 refine wpAnyH_ready hk (by simp) (AllReadyH.cons (ops_drop hi) (fun K hK => ?_) AllReadyH.nil)
 rw [if_pos hb]
 exact h K hK
/-- The beginning. -/
theorem startF (n : Nat) {id : Nat} {a : Act} {w : World} (hm : P.follows .mixedOrders = true) (hn : ops.size = n) (hS : S w.drew)
  (h : S w.drew → wpAnyH P .any ops Q S n (List.replicate n false).toArray a w.drew) : (Code.region id ops true).wp P Q a w := by
 refine wp_region_held_drew hm hS (fun hH => ?_)
 have := h hH
 rw [← hn] at this
 rwa [← List.toArray_replicate]
end
end Go.Proofs.YtfgcmjpkgdjcfaaGreat

namespace Go.Proofs.YtfgcmjpkgdjcfaaGreat
open Go.RowKit
set_option linter.unusedVariables false

set_option maxHeartbeats 1000000 in
set_option maxRecDepth 100000 in
theorem dataKey_A {na : Option Addr} {nc : Nat} {ta : Option Addr} {tc : Nat} {xa : Option Addr} {xc : Nat} {ia : Option Addr} {ic : Nat} {nm to : List (List Int)} {tx nu : List Int} {tt ad : Int} {w : World} {D : List Int} (hD : D.length ≤ 1000)
  (PA : ∀ w1, Below w.heap.size w w1 → Calls Tryz.prog 185 #[.agg #[.int .i64 ad]] w1 fun e w' => ∃ v', e = .returned v' ∧ Own w1.heap.size 5 w' v' D ∧ Below w1.heap.size w1 w') :
  Calls Tryz.prog 74 #[.agg #[.slice na nm.length nc, .int .i64 1, .int .i64 tt, .int .i64 ad, .slice ta to.length tc, .slice xa tx.length xc, .slice ia nu.length ic]] w fun e w' => e = .returned (.string (strOfNums ([] ++ [1 / 256, 1 % 256] ++ D))) ∧ Below w.heap.size w w' := by
 have b0 := below_alloc (w := w) (.cells #[.slice na nm.length nc, .int .i64 1, .int .i64 tt, .int .i64 ad, .slice ta to.length tc, .slice xa tx.length xc, .slice ia nu.length ic] 59)
 have KB := hide (heap_alloc_new w (.cells #[.slice na nm.length nc, .int .i64 1, .int .i64 tt, .int .i64 ad, .slice ta to.length tc, .slice xa tx.length xc, .slice ia nu.length ic] 59))
 have QA := hide PA
 clear PA
 go_enter Tryz.func74, Tryz.ntmps74
 go_wp2_with fail
 generalize w.alloc (.cells #[.slice na nm.length nc, .int .i64 1, .int .i64 tt, .int .i64 ad, .slice ta to.length tc, .slice xa tx.length xc, .slice ia nu.length ic] 59) = W at *
 have bd := below_drew (w := W)
 have bb := below_next b0 bd
 replace KB := hide (block_kept bd (unhide KB))
 have z0 := bb.size
 clear bd b0
 refine wp_region_held_drew (S := (fun w' => w'.cell? ⟨w.heap.size, 0, none⟩ = some (.slice na nm.length nc) ∧ w'.cell? ⟨w.heap.size, 1, none⟩ = some (.int .i64 1) ∧ w'.cell? ⟨w.heap.size, 2, none⟩ = some (.int .i64 tt) ∧ w'.cell? ⟨w.heap.size, 3, none⟩ = some (.int .i64 ad) ∧ w'.cell? ⟨w.heap.size, 4, none⟩ = some (.slice ta to.length tc) ∧ w'.cell? ⟨w.heap.size, 5, none⟩ = some (.slice xa tx.length xc) ∧ w'.cell? ⟨w.heap.size, 6, none⟩ = some (.slice ia nu.length ic))) (by kernel_rfl) (cells7 (unhide KB)) (fun hHeld => ?_)
 show wpAnyH _ _ _ _ _ 9 #[false, false, false, false, false, false, false, false, false] _ _
 generalize W.drew = W0 at *
 have ZB := hide (block_lt (unhide KB))
 refine tkF (.pointer (some ⟨w.heap.size, 1, none⟩)) rfl (by kernel_rfl) (by kernel_rfl) (fun _ _ _ h => h) ?_ hHeld ?_; (· (intro w hSw; (try dsimp only at hSw); go_simp)); simp only [Act.put, setF, List.setIfInBounds_toArray, List.set_cons_zero, List.set_cons_succ]
 refine tkF (.int .i64 1) rfl (by kernel_rfl) (by kernel_rfl) (fun _ _ _ h => h) ?_ hHeld ?_; (· (intro w hSw; (try dsimp only at hSw); go_simp)); simp only [Act.put, setF, List.setIfInBounds_toArray, List.set_cons_zero, List.set_cons_succ]
 refine tkI 3 (.agg #[.slice na nm.length nc, .int .i64 1, .int .i64 tt, .int .i64 ad, .slice ta to.length tc, .slice xa tx.length xc, .slice ia nu.length ic]) rfl (by kernel_rfl) (by kernel_rfl) (fun _ _ _ h => h) ?_ hHeld ?_
 ·(intro w hSw; (try dsimp only at hSw); go_simp)
 try simp only [Act.put, List.setIfInBounds_toArray, List.set_cons_zero, List.set_cons_succ]
 refine wpAnyH_ready (rs := [2]) (by kernel_rfl) (by simp) (AllReadyH.cons (ops_drop rfl) (fun K hK => ?_) AllReadyH.nil)
 have HK := hide hK
 clear hK hHeld
 go_simp
 refine (implPut16_yes (B := 0) 1 (own_none 0 5 _) (by simp) (by omega) (by omega)).mono ?_
 rintro e w1 ⟨v1, rfl, o1, b1⟩
 obtain ⟨p1, q1, hv1, _⟩ := o1.lies
 replace hv1 : v1 = .slice p1 2 q1 := hv1
 subst hv1
 replace KB := hide (block_kept b1 (unhide KB))
 replace bb := below_next bb b1
 have z1 := b1.size
 have O1 := hide o1
 clear o1 b1
 go_simp
 refine (unhide HK).out _ _ (cells7 (unhide KB)) (fun hHeld => ?_)
 clear HK K
 try simp only [List.setIfInBounds_toArray, List.set_cons_zero, List.set_cons_succ]
 refine wpAnyH_ready (rs := [4]) (by kernel_rfl) (by simp) (AllReadyH.cons (ops_drop rfl) (fun K hK => ?_) AllReadyH.nil)
 have HK := hide hK
 clear hK hHeld
 go_simp
 refine (dataOf_A (na := na) (nc := nc) (ta := ta) (tc := tc) (xa := xa) (xc := xc) (ia := ia) (ic := ic) (nm := nm) (to := to) (tx := tx) (nu := nu) (tt := tt) (ad := ad)).mono ?_
 rintro e w2 ⟨rfl, b2⟩
 replace KB := hide (block_kept b2 (unhide KB))
 replace bb := below_next bb b2
 have z2 := b2.size
 replace O1 := hide ((unhide O1).below b2)
 clear b2
 go_simp
 refine (unhide HK).out _ _ (cells7 (unhide KB)) (fun hHeld => ?_)
 clear HK K
 try simp only [List.setIfInBounds_toArray, List.set_cons_zero, List.set_cons_succ]
 refine wpAnyH_ready (rs := [5]) (by kernel_rfl) (by simp) (AllReadyH.cons (ops_drop rfl) (fun K hK => ?_) AllReadyH.nil)
 have HK := hide hK
 clear hK hHeld
 go_simp
 refine (unhide QA _ bb).mono ?_
 rintro e w3 ⟨v3, rfl, o3, b3⟩
 obtain ⟨p3, q3, hv3, _⟩ := o3.lies
 subst hv3
 replace KB := hide (block_kept b3 (unhide KB))
 replace bb := below_next bb b3
 have z3 := b3.size
 replace O1 := hide ((unhide O1).below b3)
 have O3 := hide o3
 clear o3 b3
 go_simp
 refine (unhide HK).out _ _ (cells7 (unhide KB)) (fun hHeld => ?_)
 clear HK K
 try simp only [List.setIfInBounds_toArray, List.set_cons_zero, List.set_cons_succ]
 refine wpAnyH_ready (rs := [6]) (by kernel_rfl) (by simp) (AllReadyH.cons (ops_drop rfl) (fun K hK => ?_) AllReadyH.nil)
 have HK := hide hK
 clear hK hHeld
 refine step_append_bytes rfl (.tmp 5) (.tmp 8) 56 5 rfl Tryz.underlying56 info_u8 W0.heap.size (.slice p1 2 q1) (.slice p3 D.length q3) ([] ++ [1 / 256, 1 % 256]) D (by simp [Act.eval]) (by simp [Act.eval]) (unhide O1) (unhide O3).reads (by simp; omega) (by omega) ?_
 intro v4 w4 o4 g4
 have b4 : Below W0.heap.size w3 w4 := (Below.refl _ w3).grown g4 (by omega) (fun k e => ((unhide O1).lt k e).1)
 have kb4 := block_grown g4 (unhide KB) (fun e => by have := ((unhide O1).lt _ e).1; have := unhide ZB; omega)
 have bb4 : Below w.heap.size w w4 := bb.grown g4 (by omega) (fun k e => by have := ((unhide O1).lt k e).1; omega)
 have hcv := conv_own o4
 clear g4
 refine (unhide HK).out _ _ (cells7 kb4) (fun hHeld => ?_)
 clear HK K
 try simp only [List.setIfInBounds_toArray, List.set_cons_zero, List.set_cons_succ]
 refine wpAnyH_ready (rs := [7]) (by kernel_rfl) (by simp) (AllReadyH.cons (ops_drop rfl) (fun K hK => ?_) AllReadyH.nil)
 have HK := hide hK
 clear hK hHeld
 go_simp
 go_simp
 refine (unhide HK).out _ _ (cells7 kb4) (fun hHeld => ?_)
 clear HK K
 try simp only [List.setIfInBounds_toArray, List.set_cons_zero, List.set_cons_succ]
 refine wpAnyH_ready (rs := [8]) (by kernel_rfl) (by simp) (AllReadyH.cons (ops_drop rfl) (fun K hK => ?_) AllReadyH.nil)
 have HK := hide hK
 clear hK hHeld
 go_simp
 go_simp
 refine (unhide HK).out _ _ (cells7 kb4) (fun hHeld => ?_)
 clear HK K
 try simp only [List.setIfInBounds_toArray, List.set_cons_zero, List.set_cons_succ]
 refine wpAnyH_done (by kernel_rfl) ?_ _
 clear hHeld
 go_wp2_with fail
 go_ret
 exact ⟨rfl, bb4⟩

set_option maxHeartbeats 1000000 in
set_option maxRecDepth 100000 in
theorem dataKey_N {na : Option Addr} {nc : Nat} {ta : Option Addr} {tc : Nat} {xa : Option Addr} {xc : Nat} {ia : Option Addr} {ic : Nat} {nm to : List (List Int)} {tx nu : List Int} {tt ad : Int} {w : World} {D : List Int} {ty : Int} (hk : kindV ty = .iface 146 (.agg #[.slice none 0 0])) (hto : typeOk ty = true) (ht0 : 0 ≤ ty) (ht1 : ty ≤ 65535) (hD : D.length ≤ 1000)
  (PA : ∀ w1, Below w.heap.size w w1 → Calls Tryz.prog 190 #[.agg #[.slice ta to.length tc]] w1 fun e w' => ∃ v', e = .returned v' ∧ Own w1.heap.size 5 w' v' D ∧ Below w1.heap.size w1 w') :
  Calls Tryz.prog 74 #[.agg #[.slice na nm.length nc, .int .i64 ty, .int .i64 tt, .int .i64 ad, .slice ta to.length tc, .slice xa tx.length xc, .slice ia nu.length ic]] w fun e w' => e = .returned (.string (strOfNums ([] ++ [ty / 256, ty % 256] ++ D))) ∧ Below w.heap.size w w' := by
 have b0 := below_alloc (w := w) (.cells #[.slice na nm.length nc, .int .i64 ty, .int .i64 tt, .int .i64 ad, .slice ta to.length tc, .slice xa tx.length xc, .slice ia nu.length ic] 59)
 have KB := hide (heap_alloc_new w (.cells #[.slice na nm.length nc, .int .i64 ty, .int .i64 tt, .int .i64 ad, .slice ta to.length tc, .slice xa tx.length xc, .slice ia nu.length ic] 59))
 have QA := hide PA
 have HKK := hide hk
 have HTO := hide hto
 clear hk hto
 clear PA
 go_enter Tryz.func74, Tryz.ntmps74
 go_wp2_with fail
 generalize w.alloc (.cells #[.slice na nm.length nc, .int .i64 ty, .int .i64 tt, .int .i64 ad, .slice ta to.length tc, .slice xa tx.length xc, .slice ia nu.length ic] 59) = W at *
 have bd := below_drew (w := W)
 have bb := below_next b0 bd
 replace KB := hide (block_kept bd (unhide KB))
 have z0 := bb.size
 clear bd b0
 refine wp_region_held_drew (S := (fun w' => w'.cell? ⟨w.heap.size, 0, none⟩ = some (.slice na nm.length nc) ∧ w'.cell? ⟨w.heap.size, 1, none⟩ = some (.int .i64 ty) ∧ w'.cell? ⟨w.heap.size, 2, none⟩ = some (.int .i64 tt) ∧ w'.cell? ⟨w.heap.size, 3, none⟩ = some (.int .i64 ad) ∧ w'.cell? ⟨w.heap.size, 4, none⟩ = some (.slice ta to.length tc) ∧ w'.cell? ⟨w.heap.size, 5, none⟩ = some (.slice xa tx.length xc) ∧ w'.cell? ⟨w.heap.size, 6, none⟩ = some (.slice ia nu.length ic))) (by kernel_rfl) (cells7 (unhide KB)) (fun hHeld => ?_)
 show wpAnyH _ _ _ _ _ 9 #[false, false, false, false, false, false, false, false, false] _ _
 generalize W.drew = W0 at *
 have ZB := hide (block_lt (unhide KB))
 refine tkF (.pointer (some ⟨w.heap.size, 1, none⟩)) rfl (by kernel_rfl) (by kernel_rfl) (fun _ _ _ h => h) ?_ hHeld ?_; (· (intro w hSw; (try dsimp only at hSw); go_simp)); simp only [Act.put, setF, List.setIfInBounds_toArray, List.set_cons_zero, List.set_cons_succ]
 refine tkF (.int .i64 ty) rfl (by kernel_rfl) (by kernel_rfl) (fun _ _ _ h => h) ?_ hHeld ?_; (· (intro w hSw; (try dsimp only at hSw); go_simp)); simp only [Act.put, setF, List.setIfInBounds_toArray, List.set_cons_zero, List.set_cons_succ]
 refine tkI 3 (.agg #[.slice na nm.length nc, .int .i64 ty, .int .i64 tt, .int .i64 ad, .slice ta to.length tc, .slice xa tx.length xc, .slice ia nu.length ic]) rfl (by kernel_rfl) (by kernel_rfl) (fun _ _ _ h => h) ?_ hHeld ?_
 ·(intro w hSw; (try dsimp only at hSw); go_simp)
 try simp only [Act.put, List.setIfInBounds_toArray, List.set_cons_zero, List.set_cons_succ]
 refine wpAnyH_ready (rs := [2]) (by kernel_rfl) (by simp) (AllReadyH.cons (ops_drop rfl) (fun K hK => ?_) AllReadyH.nil)
 have HK := hide hK
 clear hK hHeld
 go_simp
 refine (implPut16_yes (B := 0) ty (own_none 0 5 _) (by simp) (by omega) (by omega)).mono ?_
 rintro e w1 ⟨v1, rfl, o1, b1⟩
 obtain ⟨p1, q1, hv1, _⟩ := o1.lies
 replace hv1 : v1 = .slice p1 2 q1 := hv1
 subst hv1
 replace KB := hide (block_kept b1 (unhide KB))
 replace bb := below_next bb b1
 have z1 := b1.size
 have O1 := hide o1
 clear o1 b1
 go_simp
 refine (unhide HK).out _ _ (cells7 (unhide KB)) (fun hHeld => ?_)
 clear HK K
 try simp only [List.setIfInBounds_toArray, List.set_cons_zero, List.set_cons_succ]
 refine wpAnyH_ready (rs := [4]) (by kernel_rfl) (by simp) (AllReadyH.cons (ops_drop rfl) (fun K hK => ?_) AllReadyH.nil)
 have HK := hide hK
 clear hK hHeld
 go_simp
 refine (dataOf_N (na := na) (nc := nc) (ta := ta) (tc := tc) (xa := xa) (xc := xc) (ia := ia) (ic := ic) (nm := nm) (to := to) (tx := tx) (nu := nu) (tt := tt) (ad := ad) (unhide HKK) (unhide HTO)).mono ?_
 rintro e w2 ⟨rfl, b2⟩
 replace KB := hide (block_kept b2 (unhide KB))
 replace bb := below_next bb b2
 have z2 := b2.size
 replace O1 := hide ((unhide O1).below b2)
 clear b2
 go_simp
 refine (unhide HK).out _ _ (cells7 (unhide KB)) (fun hHeld => ?_)
 clear HK K
 try simp only [List.setIfInBounds_toArray, List.set_cons_zero, List.set_cons_succ]
 refine wpAnyH_ready (rs := [5]) (by kernel_rfl) (by simp) (AllReadyH.cons (ops_drop rfl) (fun K hK => ?_) AllReadyH.nil)
 have HK := hide hK
 clear hK hHeld
 go_simp
 refine (unhide QA _ bb).mono ?_
 rintro e w3 ⟨v3, rfl, o3, b3⟩
 obtain ⟨p3, q3, hv3, _⟩ := o3.lies
 subst hv3
 replace KB := hide (block_kept b3 (unhide KB))
 replace bb := below_next bb b3
 have z3 := b3.size
 replace O1 := hide ((unhide O1).below b3)
 have O3 := hide o3
 clear o3 b3
 go_simp
 refine (unhide HK).out _ _ (cells7 (unhide KB)) (fun hHeld => ?_)
 clear HK K
 try simp only [List.setIfInBounds_toArray, List.set_cons_zero, List.set_cons_succ]
 refine wpAnyH_ready (rs := [6]) (by kernel_rfl) (by simp) (AllReadyH.cons (ops_drop rfl) (fun K hK => ?_) AllReadyH.nil)
 have HK := hide hK
 clear hK hHeld
 refine step_append_bytes rfl (.tmp 5) (.tmp 8) 56 5 rfl Tryz.underlying56 info_u8 W0.heap.size (.slice p1 2 q1) (.slice p3 D.length q3) ([] ++ [ty / 256, ty % 256]) D (by simp [Act.eval]) (by simp [Act.eval]) (unhide O1) (unhide O3).reads (by simp; omega) (by omega) ?_
 intro v4 w4 o4 g4
 have b4 : Below W0.heap.size w3 w4 := (Below.refl _ w3).grown g4 (by omega) (fun k e => ((unhide O1).lt k e).1)
 have kb4 := block_grown g4 (unhide KB) (fun e => by have := ((unhide O1).lt _ e).1; have := unhide ZB; omega)
 have bb4 : Below w.heap.size w w4 := bb.grown g4 (by omega) (fun k e => by have := ((unhide O1).lt k e).1; omega)
 have hcv := conv_own o4
 clear g4
 refine (unhide HK).out _ _ (cells7 kb4) (fun hHeld => ?_)
 clear HK K
 try simp only [List.setIfInBounds_toArray, List.set_cons_zero, List.set_cons_succ]
 refine wpAnyH_ready (rs := [7]) (by kernel_rfl) (by simp) (AllReadyH.cons (ops_drop rfl) (fun K hK => ?_) AllReadyH.nil)
 have HK := hide hK
 clear hK hHeld
 go_simp
 go_simp
 refine (unhide HK).out _ _ (cells7 kb4) (fun hHeld => ?_)
 clear HK K
 try simp only [List.setIfInBounds_toArray, List.set_cons_zero, List.set_cons_succ]
 refine wpAnyH_ready (rs := [8]) (by kernel_rfl) (by simp) (AllReadyH.cons (ops_drop rfl) (fun K hK => ?_) AllReadyH.nil)
 have HK := hide hK
 clear hK hHeld
 go_simp
 go_simp
 refine (unhide HK).out _ _ (cells7 kb4) (fun hHeld => ?_)
 clear HK K
 try simp only [List.setIfInBounds_toArray, List.set_cons_zero, List.set_cons_succ]
 refine wpAnyH_done (by kernel_rfl) ?_ _
 clear hHeld
 go_wp2_with fail
 go_ret
 exact ⟨rfl, bb4⟩

set_option maxHeartbeats 1000000 in
set_option maxRecDepth 100000 in
theorem dataKey_S {na : Option Addr} {nc : Nat} {ta : Option Addr} {tc : Nat} {xa : Option Addr} {xc : Nat} {ia : Option Addr} {ic : Nat} {nm to : List (List Int)} {tx nu : List Int} {tt ad : Int} {w : World} {D : List Int} (hD : D.length ≤ 1000)
  (PA : ∀ w1, Below w.heap.size w w1 → Calls Tryz.prog 196 #[.agg #[.slice ta to.length tc, .slice ia nu.length ic]] w1 fun e w' => ∃ v', e = .returned v' ∧ Own w1.heap.size 5 w' v' D ∧ Below w1.heap.size w1 w') :
  Calls Tryz.prog 74 #[.agg #[.slice na nm.length nc, .int .i64 6, .int .i64 tt, .int .i64 ad, .slice ta to.length tc, .slice xa tx.length xc, .slice ia nu.length ic]] w fun e w' => e = .returned (.string (strOfNums ([] ++ [6 / 256, 6 % 256] ++ D))) ∧ Below w.heap.size w w' := by
 have b0 := below_alloc (w := w) (.cells #[.slice na nm.length nc, .int .i64 6, .int .i64 tt, .int .i64 ad, .slice ta to.length tc, .slice xa tx.length xc, .slice ia nu.length ic] 59)
 have KB := hide (heap_alloc_new w (.cells #[.slice na nm.length nc, .int .i64 6, .int .i64 tt, .int .i64 ad, .slice ta to.length tc, .slice xa tx.length xc, .slice ia nu.length ic] 59))
 have QA := hide PA
 clear PA
 go_enter Tryz.func74, Tryz.ntmps74
 go_wp2_with fail
 generalize w.alloc (.cells #[.slice na nm.length nc, .int .i64 6, .int .i64 tt, .int .i64 ad, .slice ta to.length tc, .slice xa tx.length xc, .slice ia nu.length ic] 59) = W at *
 have bd := below_drew (w := W)
 have bb := below_next b0 bd
 replace KB := hide (block_kept bd (unhide KB))
 have z0 := bb.size
 clear bd b0
 refine wp_region_held_drew (S := (fun w' => w'.cell? ⟨w.heap.size, 0, none⟩ = some (.slice na nm.length nc) ∧ w'.cell? ⟨w.heap.size, 1, none⟩ = some (.int .i64 6) ∧ w'.cell? ⟨w.heap.size, 2, none⟩ = some (.int .i64 tt) ∧ w'.cell? ⟨w.heap.size, 3, none⟩ = some (.int .i64 ad) ∧ w'.cell? ⟨w.heap.size, 4, none⟩ = some (.slice ta to.length tc) ∧ w'.cell? ⟨w.heap.size, 5, none⟩ = some (.slice xa tx.length xc) ∧ w'.cell? ⟨w.heap.size, 6, none⟩ = some (.slice ia nu.length ic))) (by kernel_rfl) (cells7 (unhide KB)) (fun hHeld => ?_)
 show wpAnyH _ _ _ _ _ 9 #[false, false, false, false, false, false, false, false, false] _ _
 generalize W.drew = W0 at *
 have ZB := hide (block_lt (unhide KB))
 refine tkF (.pointer (some ⟨w.heap.size, 1, none⟩)) rfl (by kernel_rfl) (by kernel_rfl) (fun _ _ _ h => h) ?_ hHeld ?_; (· (intro w hSw; (try dsimp only at hSw); go_simp)); simp only [Act.put, setF, List.setIfInBounds_toArray, List.set_cons_zero, List.set_cons_succ]
 refine tkF (.int .i64 6) rfl (by kernel_rfl) (by kernel_rfl) (fun _ _ _ h => h) ?_ hHeld ?_; (· (intro w hSw; (try dsimp only at hSw); go_simp)); simp only [Act.put, setF, List.setIfInBounds_toArray, List.set_cons_zero, List.set_cons_succ]
 refine tkI 3 (.agg #[.slice na nm.length nc, .int .i64 6, .int .i64 tt, .int .i64 ad, .slice ta to.length tc, .slice xa tx.length xc, .slice ia nu.length ic]) rfl (by kernel_rfl) (by kernel_rfl) (fun _ _ _ h => h) ?_ hHeld ?_
 ·(intro w hSw; (try dsimp only at hSw); go_simp)
 try simp only [Act.put, List.setIfInBounds_toArray, List.set_cons_zero, List.set_cons_succ]
 refine wpAnyH_ready (rs := [2]) (by kernel_rfl) (by simp) (AllReadyH.cons (ops_drop rfl) (fun K hK => ?_) AllReadyH.nil)
 have HK := hide hK
 clear hK hHeld
 go_simp
 refine (implPut16_yes (B := 0) 6 (own_none 0 5 _) (by simp) (by omega) (by omega)).mono ?_
 rintro e w1 ⟨v1, rfl, o1, b1⟩
 obtain ⟨p1, q1, hv1, _⟩ := o1.lies
 replace hv1 : v1 = .slice p1 2 q1 := hv1
 subst hv1
 replace KB := hide (block_kept b1 (unhide KB))
 replace bb := below_next bb b1
 have z1 := b1.size
 have O1 := hide o1
 clear o1 b1
 go_simp
 refine (unhide HK).out _ _ (cells7 (unhide KB)) (fun hHeld => ?_)
 clear HK K
 try simp only [List.setIfInBounds_toArray, List.set_cons_zero, List.set_cons_succ]
 refine wpAnyH_ready (rs := [4]) (by kernel_rfl) (by simp) (AllReadyH.cons (ops_drop rfl) (fun K hK => ?_) AllReadyH.nil)
 have HK := hide hK
 clear hK hHeld
 go_simp
 refine (dataOf_S (na := na) (nc := nc) (ta := ta) (tc := tc) (xa := xa) (xc := xc) (ia := ia) (ic := ic) (nm := nm) (to := to) (tx := tx) (nu := nu) (tt := tt) (ad := ad)).mono ?_
 rintro e w2 ⟨rfl, b2⟩
 replace KB := hide (block_kept b2 (unhide KB))
 replace bb := below_next bb b2
 have z2 := b2.size
 replace O1 := hide ((unhide O1).below b2)
 clear b2
 go_simp
 refine (unhide HK).out _ _ (cells7 (unhide KB)) (fun hHeld => ?_)
 clear HK K
 try simp only [List.setIfInBounds_toArray, List.set_cons_zero, List.set_cons_succ]
 refine wpAnyH_ready (rs := [5]) (by kernel_rfl) (by simp) (AllReadyH.cons (ops_drop rfl) (fun K hK => ?_) AllReadyH.nil)
 have HK := hide hK
 clear hK hHeld
 go_simp
 refine (unhide QA _ bb).mono ?_
 rintro e w3 ⟨v3, rfl, o3, b3⟩
 obtain ⟨p3, q3, hv3, _⟩ := o3.lies
 subst hv3
 replace KB := hide (block_kept b3 (unhide KB))
 replace bb := below_next bb b3
 have z3 := b3.size
 replace O1 := hide ((unhide O1).below b3)
 have O3 := hide o3
 clear o3 b3
 go_simp
 refine (unhide HK).out _ _ (cells7 (unhide KB)) (fun hHeld => ?_)
 clear HK K
 try simp only [List.setIfInBounds_toArray, List.set_cons_zero, List.set_cons_succ]
 refine wpAnyH_ready (rs := [6]) (by kernel_rfl) (by simp) (AllReadyH.cons (ops_drop rfl) (fun K hK => ?_) AllReadyH.nil)
 have HK := hide hK
 clear hK hHeld
 refine step_append_bytes rfl (.tmp 5) (.tmp 8) 56 5 rfl Tryz.underlying56 info_u8 W0.heap.size (.slice p1 2 q1) (.slice p3 D.length q3) ([] ++ [6 / 256, 6 % 256]) D (by simp [Act.eval]) (by simp [Act.eval]) (unhide O1) (unhide O3).reads (by simp; omega) (by omega) ?_
 intro v4 w4 o4 g4
 have b4 : Below W0.heap.size w3 w4 := (Below.refl _ w3).grown g4 (by omega) (fun k e => ((unhide O1).lt k e).1)
 have kb4 := block_grown g4 (unhide KB) (fun e => by have := ((unhide O1).lt _ e).1; have := unhide ZB; omega)
 have bb4 : Below w.heap.size w w4 := bb.grown g4 (by omega) (fun k e => by have := ((unhide O1).lt k e).1; omega)
 have hcv := conv_own o4
 clear g4
 refine (unhide HK).out _ _ (cells7 kb4) (fun hHeld => ?_)
 clear HK K
 try simp only [List.setIfInBounds_toArray, List.set_cons_zero, List.set_cons_succ]
 refine wpAnyH_ready (rs := [7]) (by kernel_rfl) (by simp) (AllReadyH.cons (ops_drop rfl) (fun K hK => ?_) AllReadyH.nil)
 have HK := hide hK
 clear hK hHeld
 go_simp
 go_simp
 refine (unhide HK).out _ _ (cells7 kb4) (fun hHeld => ?_)
 clear HK K
 try simp only [List.setIfInBounds_toArray, List.set_cons_zero, List.set_cons_succ]
 refine wpAnyH_ready (rs := [8]) (by kernel_rfl) (by simp) (AllReadyH.cons (ops_drop rfl) (fun K hK => ?_) AllReadyH.nil)
 have HK := hide hK
 clear hK hHeld
 go_simp
 go_simp
 refine (unhide HK).out _ _ (cells7 kb4) (fun hHeld => ?_)
 clear HK K
 try simp only [List.setIfInBounds_toArray, List.set_cons_zero, List.set_cons_succ]
 refine wpAnyH_done (by kernel_rfl) ?_ _
 clear hHeld
 go_wp2_with fail
 go_ret
 exact ⟨rfl, bb4⟩

set_option maxHeartbeats 1000000 in
set_option maxRecDepth 100000 in
theorem dataKey_X {na : Option Addr} {nc : Nat} {ta : Option Addr} {tc : Nat} {xa : Option Addr} {xc : Nat} {ia : Option Addr} {ic : Nat} {nm to : List (List Int)} {tx nu : List Int} {tt ad : Int} {w : World} {D : List Int} {ty : Int} (hk : kindV ty = .iface 150 (.agg #[.slice none 0 0])) (hto : typeOk ty = true) (ht0 : 0 ≤ ty) (ht1 : ty ≤ 65535) (hD : D.length ≤ 1000)
  (PA : ∀ w1, Below w.heap.size w w1 → Calls Tryz.prog 200 #[.agg #[.slice xa tx.length xc]] w1 fun e w' => ∃ v', e = .returned v' ∧ Own w1.heap.size 5 w' v' D ∧ Below w1.heap.size w1 w') :
  Calls Tryz.prog 74 #[.agg #[.slice na nm.length nc, .int .i64 ty, .int .i64 tt, .int .i64 ad, .slice ta to.length tc, .slice xa tx.length xc, .slice ia nu.length ic]] w fun e w' => e = .returned (.string (strOfNums ([] ++ [ty / 256, ty % 256] ++ D))) ∧ Below w.heap.size w w' := by
 have b0 := below_alloc (w := w) (.cells #[.slice na nm.length nc, .int .i64 ty, .int .i64 tt, .int .i64 ad, .slice ta to.length tc, .slice xa tx.length xc, .slice ia nu.length ic] 59)
 have KB := hide (heap_alloc_new w (.cells #[.slice na nm.length nc, .int .i64 ty, .int .i64 tt, .int .i64 ad, .slice ta to.length tc, .slice xa tx.length xc, .slice ia nu.length ic] 59))
 have QA := hide PA
 have HKK := hide hk
 have HTO := hide hto
 clear hk hto
 clear PA
 go_enter Tryz.func74, Tryz.ntmps74
 go_wp2_with fail
 generalize w.alloc (.cells #[.slice na nm.length nc, .int .i64 ty, .int .i64 tt, .int .i64 ad, .slice ta to.length tc, .slice xa tx.length xc, .slice ia nu.length ic] 59) = W at *
 have bd := below_drew (w := W)
 have bb := below_next b0 bd
 replace KB := hide (block_kept bd (unhide KB))
 have z0 := bb.size
 clear bd b0
 refine wp_region_held_drew (S := (fun w' => w'.cell? ⟨w.heap.size, 0, none⟩ = some (.slice na nm.length nc) ∧ w'.cell? ⟨w.heap.size, 1, none⟩ = some (.int .i64 ty) ∧ w'.cell? ⟨w.heap.size, 2, none⟩ = some (.int .i64 tt) ∧ w'.cell? ⟨w.heap.size, 3, none⟩ = some (.int .i64 ad) ∧ w'.cell? ⟨w.heap.size, 4, none⟩ = some (.slice ta to.length tc) ∧ w'.cell? ⟨w.heap.size, 5, none⟩ = some (.slice xa tx.length xc) ∧ w'.cell? ⟨w.heap.size, 6, none⟩ = some (.slice ia nu.length ic))) (by kernel_rfl) (cells7 (unhide KB)) (fun hHeld => ?_)
 show wpAnyH _ _ _ _ _ 9 #[false, false, false, false, false, false, false, false, false] _ _
 generalize W.drew = W0 at *
 have ZB := hide (block_lt (unhide KB))
 refine tkF (.pointer (some ⟨w.heap.size, 1, none⟩)) rfl (by kernel_rfl) (by kernel_rfl) (fun _ _ _ h => h) ?_ hHeld ?_; (· (intro w hSw; (try dsimp only at hSw); go_simp)); simp only [Act.put, setF, List.setIfInBounds_toArray, List.set_cons_zero, List.set_cons_succ]
 refine tkF (.int .i64 ty) rfl (by kernel_rfl) (by kernel_rfl) (fun _ _ _ h => h) ?_ hHeld ?_; (· (intro w hSw; (try dsimp only at hSw); go_simp)); simp only [Act.put, setF, List.setIfInBounds_toArray, List.set_cons_zero, List.set_cons_succ]
 refine tkI 3 (.agg #[.slice na nm.length nc, .int .i64 ty, .int .i64 tt, .int .i64 ad, .slice ta to.length tc, .slice xa tx.length xc, .slice ia nu.length ic]) rfl (by kernel_rfl) (by kernel_rfl) (fun _ _ _ h => h) ?_ hHeld ?_
 ·(intro w hSw; (try dsimp only at hSw); go_simp)
 try simp only [Act.put, List.setIfInBounds_toArray, List.set_cons_zero, List.set_cons_succ]
 refine wpAnyH_ready (rs := [2]) (by kernel_rfl) (by simp) (AllReadyH.cons (ops_drop rfl) (fun K hK => ?_) AllReadyH.nil)
 have HK := hide hK
 clear hK hHeld
 go_simp
 refine (implPut16_yes (B := 0) ty (own_none 0 5 _) (by simp) (by omega) (by omega)).mono ?_
 rintro e w1 ⟨v1, rfl, o1, b1⟩
 obtain ⟨p1, q1, hv1, _⟩ := o1.lies
 replace hv1 : v1 = .slice p1 2 q1 := hv1
 subst hv1
 replace KB := hide (block_kept b1 (unhide KB))
 replace bb := below_next bb b1
 have z1 := b1.size
 have O1 := hide o1
 clear o1 b1
 go_simp
 refine (unhide HK).out _ _ (cells7 (unhide KB)) (fun hHeld => ?_)
 clear HK K
 try simp only [List.setIfInBounds_toArray, List.set_cons_zero, List.set_cons_succ]
 refine wpAnyH_ready (rs := [4]) (by kernel_rfl) (by simp) (AllReadyH.cons (ops_drop rfl) (fun K hK => ?_) AllReadyH.nil)
 have HK := hide hK
 clear hK hHeld
 go_simp
 refine (dataOf_X (na := na) (nc := nc) (ta := ta) (tc := tc) (xa := xa) (xc := xc) (ia := ia) (ic := ic) (nm := nm) (to := to) (tx := tx) (nu := nu) (tt := tt) (ad := ad) (unhide HKK) (unhide HTO)).mono ?_
 rintro e w2 ⟨rfl, b2⟩
 replace KB := hide (block_kept b2 (unhide KB))
 replace bb := below_next bb b2
 have z2 := b2.size
 replace O1 := hide ((unhide O1).below b2)
 clear b2
 go_simp
 refine (unhide HK).out _ _ (cells7 (unhide KB)) (fun hHeld => ?_)
 clear HK K
 try simp only [List.setIfInBounds_toArray, List.set_cons_zero, List.set_cons_succ]
 refine wpAnyH_ready (rs := [5]) (by kernel_rfl) (by simp) (AllReadyH.cons (ops_drop rfl) (fun K hK => ?_) AllReadyH.nil)
 have HK := hide hK
 clear hK hHeld
 go_simp
 refine (unhide QA _ bb).mono ?_
 rintro e w3 ⟨v3, rfl, o3, b3⟩
 obtain ⟨p3, q3, hv3, _⟩ := o3.lies
 subst hv3
 replace KB := hide (block_kept b3 (unhide KB))
 replace bb := below_next bb b3
 have z3 := b3.size
 replace O1 := hide ((unhide O1).below b3)
 have O3 := hide o3
 clear o3 b3
 go_simp
 refine (unhide HK).out _ _ (cells7 (unhide KB)) (fun hHeld => ?_)
 clear HK K
 try simp only [List.setIfInBounds_toArray, List.set_cons_zero, List.set_cons_succ]
 refine wpAnyH_ready (rs := [6]) (by kernel_rfl) (by simp) (AllReadyH.cons (ops_drop rfl) (fun K hK => ?_) AllReadyH.nil)
 have HK := hide hK
 clear hK hHeld
 refine step_append_bytes rfl (.tmp 5) (.tmp 8) 56 5 rfl Tryz.underlying56 info_u8 W0.heap.size (.slice p1 2 q1) (.slice p3 D.length q3) ([] ++ [ty / 256, ty % 256]) D (by simp [Act.eval]) (by simp [Act.eval]) (unhide O1) (unhide O3).reads (by simp; omega) (by omega) ?_
 intro v4 w4 o4 g4
 have b4 : Below W0.heap.size w3 w4 := (Below.refl _ w3).grown g4 (by omega) (fun k e => ((unhide O1).lt k e).1)
 have kb4 := block_grown g4 (unhide KB) (fun e => by have := ((unhide O1).lt _ e).1; have := unhide ZB; omega)
 have bb4 : Below w.heap.size w w4 := bb.grown g4 (by omega) (fun k e => by have := ((unhide O1).lt k e).1; omega)
 have hcv := conv_own o4
 clear g4
 refine (unhide HK).out _ _ (cells7 kb4) (fun hHeld => ?_)
 clear HK K
 try simp only [List.setIfInBounds_toArray, List.set_cons_zero, List.set_cons_succ]
 refine wpAnyH_ready (rs := [7]) (by kernel_rfl) (by simp) (AllReadyH.cons (ops_drop rfl) (fun K hK => ?_) AllReadyH.nil)
 have HK := hide hK
 clear hK hHeld
 go_simp
 go_simp
 refine (unhide HK).out _ _ (cells7 kb4) (fun hHeld => ?_)
 clear HK K
 try simp only [List.setIfInBounds_toArray, List.set_cons_zero, List.set_cons_succ]
 refine wpAnyH_ready (rs := [8]) (by kernel_rfl) (by simp) (AllReadyH.cons (ops_drop rfl) (fun K hK => ?_) AllReadyH.nil)
 have HK := hide hK
 clear hK hHeld
 go_simp
 go_simp
 refine (unhide HK).out _ _ (cells7 kb4) (fun hHeld => ?_)
 clear HK K
 try simp only [List.setIfInBounds_toArray, List.set_cons_zero, List.set_cons_succ]
 refine wpAnyH_done (by kernel_rfl) ?_ _
 clear hHeld
 go_wp2_with fail
 go_ret
 exact ⟨rfl, bb4⟩

theorem dataKey_has {vn vt vx vi : Value} {r : Rec} {w : World} (h : HasR w vn vt vx vi r) (hok : rrOk r = true) :
  Calls Tryz.prog 74 #[.agg #[vn, .int .i64 r.type, .int .i64 r.ttl, .int .i64 r.addr, vt, vx, vi]] w fun e w' => e = .returned (.string (strOfNums (keyD r))) ∧ Below w.heap.size w w' := by
 obtain ⟨_, ht, _, _, hd⟩ := rrOk_parts hok
 have hlen : (dataB r).length ≤ 1000 := Nat.le_trans (dataB_length hok) (by omega)
 obtain ⟨na, nc, rfl, _⟩ := h.name.form
 obtain ⟨ta, tc, rfl, _⟩ := h.to.form
 obtain ⟨xa, xc, rfl, _⟩ := h.text.form
 obtain ⟨ia, ic, rfl, _⟩ := h.nums.form
 unfold keyD
 rcases data_kinds ht hd with ⟨e, h0, h1, eb⟩ | ⟨e, hn, eb⟩ | ⟨e, hn, x, y, exy, _, _, _, _, eb⟩ | ⟨e, hx, eb⟩
 all_goals
  rw [eb] at hlen ⊢
  obtain ⟨nm, ty, tt, ad, to, tx, nu⟩ := r
  simp only at *
 ·subst e
  exact dataKey_A hlen (fun w1 _ => addrPut_any ad w1)
 ·exact dataKey_N (kindV_N e) ht (by omega) (by omega) hlen (fun w1 hb => namePutM_has (h.to.below hb) hn)
 ·subst e exy
  exact dataKey_S hlen (fun w1 hb => soaPut_has (h.to.below hb) (h.nums.below hb) hn)
 ·exact dataKey_X (kindV_X e) ht (by omega) (by omega) hlen (fun w1 hb => textPut_has (h.text.below hb) hx)
end Go.Proofs.YtfgcmjpkgdjcfaaGreat

namespace Go.Proofs.YtfgcmjpkgdjcfaaGreat
open Go.RowKit
open Go.ChangeMaps (setBlock heap_setBlock_same heap_setBlock_other modify_eq_set)
open Go.MapKept (stamped_iff stamped_empty stamped_push stamped_modify Stamped)
open Go.Maps (Keyed string_keyed)
open Go.WideMaps (keyOf_string_mk)
set_option linter.unusedVariables false

section lists
variable {α β : Type} [DecidableEq α]
/-- What stands at a key. -/
def lookA (k : α) : List (α × β) → Option β
 | [] => none
 | (a, v) :: t => if a = k then some v else lookA k t
/-- One more, or another at its key. -/
def putA (k : α) (v : β) : List (α × β) → List (α × β)
 | [] => [(k, v)]
 | (a, u) :: t => if a = k then (k, v) :: t else (a, u) :: putA k v t
theorem lookA_none {k : α} : ∀ {ps : List (α × β)}, (∀ p ∈ ps, p.1 ≠ k) → lookA k ps = none
 | [], _ => rfl
 | (a, v) :: t, h => by
  rw [lookA, if_neg (h (a, v) (List.mem_cons_self ..))]
  exact lookA_none (fun p hp => h p (List.mem_cons_of_mem _ hp))
theorem putA_none {k : α} {v : β} : ∀ {ps : List (α × β)}, (∀ p ∈ ps, p.1 ≠ k) → putA k v ps = ps ++ [(k, v)]
 | [], _ => rfl
 | (a, u) :: t, h => by
  rw [putA, if_neg (h (a, u) (List.mem_cons_self ..)), putA_none (fun p hp => h p (List.mem_cons_of_mem _ hp))]
  rfl
theorem lookA_at {k : α} {v : β} : ∀ {ps : List (α × β)} {j : Nat}, ps.Pairwise (fun p q => p.1 ≠ q.1) → ps[j]? = some (k, v) → lookA k ps = some v
 | [], j, _, h => by simp at h
 | (a, u) :: t, 0, hd, h => by
  simp only [List.getElem?_cons_zero, Option.some.injEq, Prod.mk.injEq] at h
  rw [lookA, if_pos h.1, h.2]
 | (a, u) :: t, j + 1, hd, h => by
  simp only [List.getElem?_cons_succ] at h
  obtain ⟨h1, h2⟩ := List.pairwise_cons.1 hd
  rw [lookA, if_neg (h1 _ (List.mem_of_getElem? h)), lookA_at h2 h]
theorem putA_at {k : α} {v v' : β} : ∀ {ps : List (α × β)} {j : Nat}, ps.Pairwise (fun p q => p.1 ≠ q.1) → ps[j]? = some (k, v) → putA k v' ps = ps.set j (k, v')
 | [], j, _, h => by simp at h
 | (a, u) :: t, 0, hd, h => by
  simp only [List.getElem?_cons_zero, Option.some.injEq, Prod.mk.injEq] at h
  rw [putA, if_pos h.1]
  rfl
 | (a, u) :: t, j + 1, hd, h => by
  simp only [List.getElem?_cons_succ] at h
  obtain ⟨h1, h2⟩ := List.pairwise_cons.1 hd
  rw [putA, if_neg (h1 _ (List.mem_of_getElem? h)), putA_at h2 h]
  rfl
end lists

def keyE : Value → ByteArray
 | .string s => s
 | _ => default
def toPV (e : MapEntry) : ByteArray × Value := (keyE e.key, e.val)
/-- The map in block b has these keys and elements. -/
def MapV (w : World) (b : Nat) (ps : List (ByteArray × Value)) : Prop :=
 ∃ es clock, w.heap[b]? = some (.map es clock) ∧ Stamped es clock ∧ (∀ e ∈ es.toList, ∃ s : ByteArray, e.key = .string s ∧ s.size ≤ maxLen) ∧ ps = es.toList.map toPV
theorem MapV.lt {w : World} {b : Nat} {ps : List (ByteArray × Value)} (h : MapV w b ps) : b < w.heap.size := by
 obtain ⟨es, clock, hb, _⟩ := h
 exact (Array.getElem?_eq_some_iff.1 hb).1
theorem MapV.kept {w w' : World} {b : Nat} {ps : List (ByteArray × Value)} (h : MapV w b ps) (hk : w'.heap[b]? = w.heap[b]?) : MapV w' b ps := by
 obtain ⟨es, clock, hb, rest⟩ := h
 exact ⟨es, clock, hk.trans hb, rest⟩
theorem MapV.below {w w' : World} {b : Nat} {ps : List (ByteArray × Value)} (h : MapV w b ps) (hb : Below w.heap.size w w') : MapV w' b ps := h.kept (hb.block b h.lt)
theorem MapV.grown {w w' : World} {b : Nat} {row : Option Nat} {ps : List (ByteArray × Value)} (h : MapV w b ps) (hg : w.grownBy w' row) (hr : row ≠ some b) : MapV w' b ps := h.kept (hg.block b h.lt (fun e => hr e.symm))
theorem mapV_made (w : World) : MapV (w.alloc (.map #[] 0)) w.heap.size [] := ⟨#[], 0, heap_alloc_new w _, stamped_empty 0, by simp, by simp⟩
theorem pv_apart {es : Array MapEntry} {clock : Nat} (hS : Stamped es clock) (hK : ∀ e ∈ es.toList, ∃ s : ByteArray, e.key = .string s ∧ s.size ≤ maxLen) : (es.toList.map toPV).Pairwise (fun p q => p.1 ≠ q.1) := by
 rw [List.pairwise_map]
 refine List.Pairwise.imp_of_mem ?_ ((stamped_iff es clock).1 hS).2.2
 intro a b ha hb h e
 obtain ⟨s, h1, _⟩ := hK a ha
 obtain ⟨s', h2, _⟩ := hK b hb
 simp only [toPV, h1, h2, keyE] at e
 rw [h1, h2, e] at h
 exact h rfl
theorem MapV.apart {w : World} {b : Nat} {ps : List (ByteArray × Value)} (h : MapV w b ps) : ps.Pairwise (fun p q => p.1 ≠ q.1) := by
 obtain ⟨es, clock, _, hS, hK, rfl⟩ := h
 exact pv_apart hS hK

section
variable {P : Program} {t k e : TypeId} {w : World} {b : Nat} {ps : List (ByteArray × Value)}
theorem keys_of {es : Array MapEntry} (hk : P.underlying k = some .string) (hK : ∀ e ∈ es.toList, ∃ s : ByteArray, e.key = .string s ∧ s.size ≤ maxLen) : ∀ e ∈ es.toList, ∃ l, keyOf P k e.key = some l := fun e he => by
 obtain ⟨s, h1, h2⟩ := hK e he
 exact ⟨_, h1 ▸ keyOf_string_mk hk h2⟩
theorem not_key {es : Array MapEntry} {s : ByteArray} (hK : ∀ e ∈ es.toList, ∃ s : ByteArray, e.key = .string s ∧ s.size ≤ maxLen) (h : ∀ e ∈ es.toList, e.key ≠ .string s) : ∀ p ∈ es.toList.map toPV, p.1 ≠ s := by
 intro p hp e
 obtain ⟨x, hx, rfl⟩ := List.mem_map.1 hp
 obtain ⟨s', h1, _⟩ := hK x hx
 refine h x hx ?_
 rw [h1, ← e, toPV, h1]
 rfl
theorem the_key {es : Array MapEntry} {s : ByteArray} {j : Nat} {e0 : MapEntry} (h2 : es.toList[j]? = some e0) (h3 : e0.key = .string s) : (es.toList.map toPV)[j]? = some (s, e0.val) := by
 rw [List.getElem?_map, h2]
 simp [toPV, h3, keyE]
/-- 'm[k]'. -/
theorem mapV_look (ht : P.underlying t = some (.map k e)) (hk : P.underlying k = some .string) {z : Value} (hz : (zeroValue e).run P w = .ok z w) (h : MapV w b ps) (s : ByteArray) (hs : s.size ≤ maxLen) :
  (Instr.lookup t (.map (some b)) (.string s) false).run P w = .ok ((lookA s ps).getD z) w := by
 have hA := h.apart
 obtain ⟨es, clock, hb, hS, hK, rfl⟩ := h
 have hkey := keyOf_string_mk hk hs
 have K := string_keyed hk
 rcases K.find w hkey es.toList (keys_of hk hK) with ⟨h1, h2⟩ | ⟨j, e0, h1, h2, h3⟩
 ·rw [lookA_none (not_key hK h2)]
  simp [Instr.lookup, run_underlying ht, MapKept.run_getObj_map hb, K.check w _ hkey, h1, hz, Result.andThen]
 ·rw [lookA_at hA (the_key h2 h3)]
  simp [Instr.lookup, run_underlying ht, MapKept.run_getObj_map hb, K.check w _ hkey, h1, Result.andThen]
/-- 'm[k] = v'. -/
theorem mapV_put (ht : P.underlying t = some (.map k e)) (hk : P.underlying k = some .string) (h : MapV w b ps) (s : ByteArray) (hs : s.size ≤ maxLen) (v : Value) :
  ∃ w', (Instr.mapUpdate t (.map (some b)) (.string s) v).run P w = .ok () w' ∧ MapV w' b (putA s v ps) ∧ w.grownBy w' (some b) := by
 have hA := h.apart
 obtain ⟨es, clock, hb, hS, hK, rfl⟩ := h
 have hkey := keyOf_string_mk hk hs
 have K := string_keyed hk
 rcases K.find w hkey es.toList (keys_of hk hK) with ⟨h1, h2⟩ | ⟨j, e0, h1, h2, h3⟩
 ·refine ⟨setBlock w b (.map (es.push ⟨.string s, v, clock⟩) (clock + 1)), ?_, ⟨_, _, heap_setBlock_same hb _, stamped_push hS h2, ?_, ?_⟩, ⟨rfl, rfl, rfl, by simp [setBlock], fun i _ hi => heap_setBlock_other hb _ (fun e => hi (by rw [e]))⟩⟩
  ·simp [Instr.mapUpdate, run_underlying ht, MapKept.run_getObj_map hb, K.check w false hkey, h1, MapKept.run_setObj_map _ hb, Result.andThen, setBlock]
  ·intro x hx
   simp only [Array.toList_push, List.mem_append, List.mem_singleton] at hx
   rcases hx with hx | rfl
   ·exact hK x hx
   ·exact ⟨s, rfl, hs⟩
  ·rw [putA_none (not_key hK h2)]
   simp [toPV, keyE]
 ·have hj : es[j]? = some e0 := by simpa using h2
  have hkeyf : ∀ e', es[j]? = some e' → ({ e' with key := .string s, val := v } : MapEntry).key = e'.key := fun e' he' => by rw [hj] at he'; cases he'; exact h3.symm
  have hlist : (es.modify j (fun e' => { e' with key := .string s, val := v })).toList = es.toList.set j { e0 with key := .string s, val := v } := by rw [Array.toList_modify, modify_eq_set _ _ _ _ h2]
  refine ⟨setBlock w b (.map (es.modify j (fun e' => { e' with key := .string s, val := v })) clock), ?_, ⟨_, _, heap_setBlock_same hb _, stamped_modify hS _ _ (fun _ _ => rfl) (fun e' _ he' => hkeyf e' he'), ?_, ?_⟩, ⟨rfl, rfl, rfl, by simp [setBlock], fun i _ hi => heap_setBlock_other hb _ (fun e => hi (by rw [e]))⟩⟩
  ·simp [Instr.mapUpdate, run_underlying ht, MapKept.run_getObj_map hb, K.check w false hkey, h1, hj, h3, K.stays w hkey, MapKept.run_setObj_map _ hb, Result.andThen, setBlock]
  ·intro x hx
   rw [hlist] at hx
   rcases List.mem_or_eq_of_mem_set hx with hx | rfl
   ·exact hK x hx
   ·exact ⟨s, rfl, hs⟩
  ·rw [putA_at hA (the_key h2 h3), hlist, List.map_set]
   simp [toPV, keyE]
/-- A range under way: what is still to come. -/
def RangeV (w : World) (b r : Nat) (ps L : List (ByteArray × Value)) : Prop :=
 ∃ es clock since seen c0, w.heap[b]? = some (.map es clock) ∧ Stamped es clock ∧ (∀ e ∈ es.toList, ∃ s : ByteArray, e.key = .string s ∧ s.size ≤ maxLen) ∧ ps = es.toList.map toPV ∧ w.heap[r]? = some (.mapIter (some b) since seen c0) ∧
  (∀ x ∈ es.toList, x.born < since) ∧ since ≤ c0 ∧ since ≤ clock ∧ L = (leftOf es seen).toList.map toPV
theorem RangeV.lt {r : Nat} {L : List (ByteArray × Value)} (h : RangeV w b r ps L) : b < w.heap.size ∧ r < w.heap.size ∧ r ≠ b := by
 obtain ⟨es, clock, since, seen, c0, hb, _, _, _, hr, _⟩ := h
 refine ⟨(Array.getElem?_eq_some_iff.1 hb).1, (Array.getElem?_eq_some_iff.1 hr).1, fun e => ?_⟩
 rw [e, hb] at hr
 cases hr
theorem RangeV.kept {w' : World} {r : Nat} {L : List (ByteArray × Value)} (h : RangeV w b r ps L) (hk : w'.heap[b]? = w.heap[b]?) (hk' : w'.heap[r]? = w.heap[r]?) : RangeV w' b r ps L := by
 obtain ⟨es, clock, since, seen, c0, hb, h1, h2, h3, hr, rest⟩ := h
 exact ⟨es, clock, since, seen, c0, hk.trans hb, h1, h2, h3, hk'.trans hr, rest⟩
theorem RangeV.below {w' : World} {r : Nat} {L : List (ByteArray × Value)} (h : RangeV w b r ps L) (hb : Below w.heap.size w w') : RangeV w' b r ps L := h.kept (hb.block b h.lt.1) (hb.block r h.lt.2.1)
end
end Go.Proofs.YtfgcmjpkgdjcfaaGreat

namespace Go.Proofs.YtfgcmjpkgdjcfaaGreat
open Go.RowKit
set_option linter.unusedVariables false

/-- What cells hold they hold still. -/
def KeptX (W W' : World) : Prop := W.heap.size ≤ W'.heap.size ∧ ∀ p v, W.cell? p = some v → W'.cell? p = some v
theorem KeptX.refl (W : World) : KeptX W W := ⟨Nat.le_refl _, fun _ _ h => h⟩
theorem KeptX.trans {A B C : World} (h : KeptX A B) (k : KeptX B C) : KeptX A C := ⟨Nat.le_trans h.1 k.1, fun p v q => k.2 p v (h.2 p v q)⟩
theorem keptX_below {W W' : World} (h : Below W.heap.size W W') : KeptX W W' := ⟨h.size, fun p v q => (h.cell (block_lt_of_cell q)).trans q⟩
def isMapO : Obj → Bool
 | .map _ _ => true
 | _ => false
/-- All that is no map stands. -/
def KeptO (W W' : World) : Prop := W.heap.size ≤ W'.heap.size ∧ ∀ (g : Nat) (o : Obj), W.heap[g]? = some o → isMapO o = false → W'.heap[g]? = some o
theorem KeptO.refl (W : World) : KeptO W W := ⟨Nat.le_refl _, fun _ _ h _ => h⟩
theorem KeptO.trans {A B C : World} (h : KeptO A B) (k : KeptO B C) : KeptO A C := ⟨Nat.le_trans h.1 k.1, fun g o q e => k.2 g o (h.2 g o q e) e⟩
theorem keptO_below {W W' : World} (h : Below W.heap.size W W') : KeptO W W' := ⟨h.size, fun g o q _ => block_kept h q⟩
theorem keptO_map {W W' : World} {b : Nat} {ps : List (ByteArray × Value)} (hg : W.grownBy W' (some b)) (hm : MapV W b ps) : KeptO W W' := by
 refine ⟨hg.size, fun g o q e => ?_⟩
 obtain ⟨es, c, hb, _⟩ := hm
 refine (hg.block g (block_lt q) ?_).trans q
 intro e1
 simp only [Option.some.injEq] at e1
 subst e1
 rw [hb] at q
 cases q
 cases e
theorem KeptO.x {W W' : World} (h : KeptO W W') : KeptX W W' := by
 refine ⟨h.1, fun p v q => ?_⟩
 cases ho : W.heap[p.block]? with
 | none => simp [World.cell?, ho] at q
 | some o =>
  have hm : isMapO o = false := by
   cases o <;> first | rfl | (simp [World.cell?, ho] at q)
  exact (World.cell?_of_block (w := W) ((h.2 _ _ ho hm).trans ho.symm)).trans q
theorem Has.keptX {w w' : World} {v : Value} {l : List Int} (h : Has w v l) (hk : KeptX w w') : Has w' v l := by
 rcases h with h | ⟨g, off, cap, hv, hlt, hl, hm, hc⟩
 ·exact .inl h
 ·exact .inr ⟨g, off, cap, hv, Nat.lt_of_lt_of_le hlt hk.1, hl, hm, fun i hi => hk.2 _ _ (hc i hi)⟩
theorem HasI.keptX {w w' : World} {v : Value} {l : List Int} (h : HasI w v l) (hk : KeptX w w') : HasI w' v l := by
 rcases h with h | ⟨g, off, cap, hv, hlt, hl, hm, hc⟩
 ·exact .inl h
 ·exact .inr ⟨g, off, cap, hv, Nat.lt_of_lt_of_le hlt hk.1, hl, hm, fun i hi => hk.2 _ _ (hc i hi)⟩
theorem HasL.keptX {w w' : World} {v : Value} {n : List (List Int)} (h : HasL w v n) (hk : KeptX w w') : HasL w' v n := by
 rcases h with h | ⟨g, off, cap, hv, hlt, hl, hm, hc⟩
 ·exact .inl h
 ·refine .inr ⟨g, off, cap, hv, Nat.lt_of_lt_of_le hlt hk.1, hl, hm, fun i hi => ?_⟩
  obtain ⟨u, h1, h2⟩ := hc i hi
  exact ⟨u, hk.2 _ _ h1, h2.keptX hk⟩
theorem HasR.keptX {w w' : World} {vn vt vx vi : Value} {r : Rec} (h : HasR w vn vt vx vi r) (hk : KeptX w w') : HasR w' vn vt vx vi r := ⟨h.name.keptX hk, h.to.keptX hk, h.text.keptX hk, h.nums.keptX hk⟩

/-- Two lists, one by one. -/
inductive Two {α β : Type} (R : α → β → Prop) : List α → List β → Prop
 | nil : Two R [] []
 | cons {a b l m} : R a b → Two R l m → Two R (a :: l) (b :: m)
namespace Two
variable {α β : Type} {R R' : α → β → Prop}
theorem mono (f : ∀ a b, R a b → R' a b) {l : List α} {m : List β} (h : Two R l m) : Two R' l m := by
 induction h with
 | nil => exact .nil
 | cons h1 _ ih => exact .cons (f _ _ h1) ih
theorem left {l : List α} {m : List β} (h : Two R l m) : ∀ a ∈ l, ∃ b ∈ m, R a b := by
 induction h with
 | nil => intro a ha; simp at ha
 | cons h1 _ ih =>
  intro a ha
  rcases List.mem_cons.1 ha with rfl | ha
  ·exact ⟨_, List.mem_cons_self .., h1⟩
  ·obtain ⟨b, hb, hr⟩ := ih a ha
   exact ⟨b, List.mem_cons_of_mem _ hb, hr⟩
theorem right {l : List α} {m : List β} (h : Two R l m) : ∀ b ∈ m, ∃ a ∈ l, R a b := by
 induction h with
 | nil => intro a ha; simp at ha
 | cons h1 _ ih =>
  intro b hb
  rcases List.mem_cons.1 hb with rfl | hb
  ·exact ⟨_, List.mem_cons_self .., h1⟩
  ·obtain ⟨a, ha, hr⟩ := ih b hb
   exact ⟨a, List.mem_cons_of_mem _ ha, hr⟩
end Two
section
variable {κ α β : Type} [DecidableEq κ] {Q Q' : α → β → Prop}
/-- The keys are the same, what stands at them fits. -/
abbrev AtKeys (κ : Type) {α β : Type} (Q : α → β → Prop) : κ × α → κ × β → Prop := fun a b => a.1 = b.1 ∧ Q a.2 b.2
theorem two_look {k : κ} {l : List (κ × α)} {m : List (κ × β)} (h : Two (AtKeys κ Q) l m) : (lookA k l = none ∧ lookA k m = none) ∨ ∃ v u, lookA k l = some v ∧ lookA k m = some u ∧ Q v u ∧ (k, v) ∈ l := by
 induction h with
 | nil => exact .inl ⟨rfl, rfl⟩
 | @cons a b l m h1 _ ih =>
  obtain ⟨a1, a2⟩ := a
  obtain ⟨b1, b2⟩ := b
  obtain ⟨h1, h2⟩ := h1
  simp only at h1 h2
  subst h1
  by_cases e : a1 = k
  ·subst e
   exact .inr ⟨a2, b2, by simp [lookA], by simp [lookA], h2, by simp⟩
  ·simp only [lookA, if_neg e]
   rcases ih with ih | ⟨v, u, i1, i2, i3, i4⟩
   ·exact .inl ih
   ·exact .inr ⟨v, u, i1, i2, i3, List.mem_cons_of_mem _ i4⟩
theorem two_put {k : κ} {v : α} {u : β} {l : List (κ × α)} {m : List (κ × β)} (h : Two (AtKeys κ Q) l m) (hv : Q' v u) (hA : l.Pairwise (fun p q => p.1 ≠ q.1)) (ho : ∀ a x, (a, x) ∈ l → a ≠ k → ∀ y, Q x y → Q' x y) : Two (AtKeys κ Q') (putA k v l) (putA k u m) := by
 induction h with
 | nil => exact .cons ⟨rfl, hv⟩ .nil
 | @cons a b l m h1 h0 ih =>
  obtain ⟨a1, a2⟩ := a
  obtain ⟨b1, b2⟩ := b
  obtain ⟨h1, h2⟩ := h1
  simp only at h1 h2
  subst h1
  obtain ⟨p1, p2⟩ := List.pairwise_cons.1 hA
  by_cases e : a1 = k
  ·subst e
   simp only [putA, if_true]
   refine .cons ⟨rfl, hv⟩ ?_
   clear ih hv h2 hA
   induction h0 with
   | nil => exact .nil
   | @cons a b l m q1 _ ih =>
    obtain ⟨q2, q3⟩ := List.pairwise_cons.1 p2
    refine .cons ⟨q1.1, ho a.1 a.2 (by simp) (fun e => p1 a (by simp) e.symm) _ q1.2⟩ (ih (fun p hp => p1 p (List.mem_cons_of_mem _ hp)) q3 (fun c x hx => ho c x ?_))
    rcases List.mem_cons.1 hx with hx | hx
    ·rw [hx]; exact List.mem_cons_self ..
    ·exact List.mem_cons_of_mem _ (List.mem_cons_of_mem _ hx)
  ·simp only [putA, if_neg e]
   exact .cons ⟨rfl, ho a1 a2 (by simp) e _ h2⟩ (ih p2 (fun c x hx => ho c x (List.mem_cons_of_mem _ hx)))
theorem putA_same {k : κ} {v : α} : ∀ {l : List (κ × α)}, lookA k l = some v → putA k v l = l
 | [], h => by simp [lookA] at h
 | (a, u) :: t, h => by
  by_cases e : a = k
  ·subst e
   simp only [lookA, if_true, Option.some.injEq] at h
   simp [putA, h]
  ·simp only [lookA, if_neg e] at h
   simp only [putA, if_neg e]
   rw [putA_same h]
theorem mem_putA {k : κ} {v : α} : ∀ {l : List (κ × α)} {p : κ × α}, p ∈ putA k v l → p = (k, v) ∨ p ∈ l
 | [], p, h => by simp [putA] at h; exact .inl h
 | (a, u) :: t, p, h => by
  by_cases e : a = k
  ·simp only [putA, if_pos e] at h
   rcases List.mem_cons.1 h with h | h
   ·exact .inl h
   ·exact .inr (List.mem_cons_of_mem _ h)
  ·simp only [putA, if_neg e] at h
   rcases List.mem_cons.1 h with h | h
   ·exact .inr (h ▸ List.mem_cons_self ..)
   ·rcases mem_putA h with h | h
    ·exact .inl h
    ·exact .inr (List.mem_cons_of_mem _ h)
theorem putA_apart {k : κ} {v : α} : ∀ {l : List (κ × α)}, l.Pairwise (fun p q => p.1 ≠ q.1) → l.Pairwise (fun p q => p.2 ≠ q.2) → (∀ p ∈ l, p.1 ≠ k → p.2 ≠ v) → (putA k v l).Pairwise (fun p q => p.2 ≠ q.2)
 | [], _, _, _ => by simp [putA]
 | (a, u) :: t, hA, hV, h => by
  obtain ⟨p1, p2⟩ := List.pairwise_cons.1 hA
  obtain ⟨v1, v2⟩ := List.pairwise_cons.1 hV
  by_cases e : a = k
  ·subst e
   simp only [putA, if_true]
   exact List.pairwise_cons.2 ⟨fun q hq e => h q (List.mem_cons_of_mem _ hq) (fun e => p1 q hq e.symm) e.symm, v2⟩
  ·simp only [putA, if_neg e]
   refine List.pairwise_cons.2 ⟨fun q hq => ?_, putA_apart p2 v2 (fun p hp => h p (List.mem_cons_of_mem _ hp))⟩
   rcases mem_putA hq with rfl | hq
   ·exact h (a, u) (List.mem_cons_self ..) e
   ·exact v1 q hq
end

abbrev Pg := List (ByteArray × Rec)
abbrev Bk := List (ByteArray × Pg)
/-- A record's value, with its lists. -/
def IsRec (w : World) (v : Value) (r : Rec) : Prop := ∃ vn vt vx vi, v = .agg #[vn, .int .i64 r.type, .int .i64 r.ttl, .int .i64 r.addr, vt, vx, vi] ∧ HasR w vn vt vx vi r
theorem IsRec.keptX {w w' : World} {v : Value} {r : Rec} (h : IsRec w v r) (hk : KeptX w w') : IsRec w' v r := by
 obtain ⟨vn, vt, vx, vi, h1, h2⟩ := h
 exact ⟨vn, vt, vx, vi, h1, h2.keptX hk⟩
def PageM (w : World) (p : Nat) (P : Pg) : Prop := ∃ ps, MapV w p ps ∧ Two (AtKeys ByteArray (IsRec w)) ps P
theorem PageM.kept {w w' : World} {p : Nat} {P : Pg} (h : PageM w p P) (hp : w'.heap[p]? = w.heap[p]?) (hk : KeptX w w') : PageM w' p P := by
 obtain ⟨ps, h1, h2⟩ := h
 exact ⟨ps, h1.kept hp, h2.mono (fun a b h => ⟨h.1, h.2.keptX hk⟩)⟩
theorem PageM.lt {w : World} {p : Nat} {P : Pg} (h : PageM w p P) : p < w.heap.size := h.choose_spec.1.lt
def IsPage (n0 : Nat) (w : World) (b : Nat) (v : Value) (P : Pg) : Prop := ∃ p, v = .map (some p) ∧ n0 ≤ p ∧ p ≠ b ∧ PageM w p P
/-- A book, in blocks from n0 on. -/
def BookM (n0 : Nat) (w : World) (b : Nat) (B : Bk) : Prop := n0 ≤ b ∧ ∃ ps, MapV w b ps ∧ Two (AtKeys ByteArray (IsPage n0 w b)) ps B ∧ ps.Pairwise (fun p q => p.2 ≠ q.2)
theorem BookM.below {n0 : Nat} {w w' : World} {b : Nat} {B : Bk} (h : BookM n0 w b B) (hb : Below w.heap.size w w') : BookM n0 w' b B := by
 obtain ⟨h0, ps, h1, h2, h3⟩ := h
 refine ⟨h0, ps, h1.below hb, h2.mono (fun a c h => ⟨h.1, ?_⟩), h3⟩
 obtain ⟨p, q1, q0, q2, q3⟩ := h.2
 exact ⟨p, q1, q0, q2, q3.kept (hb.block p q3.lt) (keptX_below hb)⟩
theorem BookM.lt {n0 : Nat} {w : World} {b : Nat} {B : Bk} (h : BookM n0 w b B) : b < w.heap.size := h.2.choose_spec.1.lt
theorem bookM_made {n0 : Nat} (w : World) (h : n0 ≤ w.heap.size) : BookM n0 (w.alloc (.map #[] 0)) w.heap.size [] := ⟨h, [], mapV_made w, .nil, List.Pairwise.nil⟩
/-- A record put into a book. -/
def bkPut (kn kd : ByteArray) (r : Rec) (B : Bk) : Bk := putA kn (putA kd r ((lookA kn B).getD [])) B
/-- A book whose page at a key has been written. -/
theorem book_put {n0 : Nat} {w w' : World} {b p : Nat} {k : ByteArray} {ps : List (ByteArray × Value)} {B : Bk} {P : Pg} (h0 : n0 ≤ b) (h1 : MapV w b ps) (h2 : Two (AtKeys ByteArray (IsPage n0 w b)) ps B) (h3 : ps.Pairwise (fun p q => p.2 ≠ q.2))
  (m : MapV w' b (putA k (.map (some p)) ps)) (hp : PageM w' p P) (hn : n0 ≤ p) (hne : p ≠ b) (ho : ∀ q ∈ ps, q.1 ≠ k → q.2 ≠ .map (some p)) (hk : KeptX w w') (hb : ∀ q, q ≠ p → q ≠ b → q < w.heap.size → w'.heap[q]? = w.heap[q]?) : BookM n0 w' b (putA k P B) := by
 refine ⟨h0, _, m, two_put h2 ⟨p, rfl, hn, hne, hp⟩ h1.apart (fun a x hx hak y hxy => ?_), putA_apart h1.apart h3 ho⟩
 obtain ⟨q, rfl, q1, q2, q3⟩ := hxy
 refine ⟨q, rfl, q1, q2, q3.kept (hb q (fun e => ?_) q2 q3.lt) hk⟩
 subst e
 exact ho _ hx hak rfl
/-- Values that stand apart, at keys that are not one. -/
theorem other_page {ps : List (ByteArray × Value)} (h3 : ps.Pairwise (fun p q => p.2 ≠ q.2)) {k : ByteArray} {v : Value} (hm : (k, v) ∈ ps) : ∀ q ∈ ps, q.1 ≠ k → q.2 ≠ v := by
 induction ps with
 | nil => simp at hm
 | cons a t ih =>
  obtain ⟨p1, p2⟩ := List.pairwise_cons.1 h3
  intro q hq hk e
  rcases List.mem_cons.1 hm with rfl | hm'
  ·rcases List.mem_cons.1 hq with rfl | hq
   ·exact hk rfl
   ·exact p1 q hq e.symm
  ·rcases List.mem_cons.1 hq with rfl | hq
   ·exact p1 _ hm' e
   ·exact ih p2 hm' q hq hk e
theorem lookA_put {κ α : Type} [DecidableEq κ] {k : κ} {v : α} : ∀ {l : List (κ × α)}, lookA k (putA k v l) = some v
 | [] => by simp [putA, lookA]
 | (a, u) :: t => by
  by_cases e : a = k
  ·simp [putA, e, lookA]
  ·simp only [putA, if_neg e, lookA]
   exact lookA_put
/-- A record put into a page. -/
theorem page_put {P : Program} {t k e : TypeId} {W : World} {p : Nat} {Q : Pg} {v : Value} {r : Rec} (ht : P.underlying t = some (.map k e)) (hk : P.underlying k = some .string) (h : PageM W p Q) (kd : ByteArray) (hs : kd.size ≤ maxLen) (hv : IsRec W v r) :
  ∃ w', (Instr.mapUpdate t (.map (some p)) (.string kd) v).run P W = .ok () w' ∧ PageM w' p (putA kd r Q) ∧ W.grownBy w' (some p) ∧ KeptO W w' := by
 obtain ⟨ps, h1, h2⟩ := h
 obtain ⟨w', h3, h4, h5⟩ := mapV_put ht hk h1 kd hs v
 have hK := keptO_map h5 h1
 exact ⟨w', h3, ⟨_, h4, two_put h2 (hv.keptX hK.x) h1.apart (fun a x _ _ y hy => hy.keptX hK.x)⟩, h5, hK⟩
/-- A store into a map, as a step of a region. -/
theorem step_put {P : Program} {w w' : World} {ops : Array Oper} {o : Oper} {a : Act} {K : Act → World → Prop} {Q : Exit → Act → World → Prop} {E : Prop} (hgd : o.guard = none) (m x v : Operand) (t : TypeId) (hop : o.op = Op.mapUpdate t m x v) (mv xv vv : Value) (hm : a.eval m = mv) (hx : a.eval x = xv) (hv : a.eval v = vv)
  (hrun : (Instr.mapUpdate t mv xv vv).run P w = .ok () w') (h : K (a.put o.dst undef) w') : if Region.wanted o (yielded ops a.tmps) = true then Oper.wp P o a w K Q else E := by
 have hw : Region.wanted o (yielded ops a.tmps) = true := by simp [Region.wanted, hgd]
 rw [if_pos hw]
 unfold Oper.wp
 simp [execOp, hop, hm, hx, hv, hrun, Result.andThen]
 exact h
theorem list_put {P : Program} {w w' : World} {ops : Array Oper} {rest : List Oper} {o : Oper} {a : Act} {Q : Exit → Act → World → Prop} (hgd : o.guard = none) (m x v : Operand) (t : TypeId) (hop : o.op = Op.mapUpdate t m x v) (mv xv vv : Value) (hm : a.eval m = mv) (hx : a.eval x = xv) (hv : a.eval v = vv)
  (hrun : (Instr.mapUpdate t mv xv vv).run P w = .ok () w') (h : wpList P ops Q rest (a.put o.dst undef) w') : wpList P ops Q (o :: rest) a w := by
 refine wpList_plain hgd fun K' hK' => ?_
 unfold Oper.wp
 simp [execOp, hop, hm, hx, hv, hrun, Result.andThen]
 exact hK' _ _ h
end Go.Proofs.YtfgcmjpkgdjcfaaGreat
