/-
  A region that draws its order, one way through it: what only looks is taken in the order of its number, whether its guard wants it or not. Contract of the program's dataKey: a record's type and data as a text that ascends as RrCmp does. Contract of the program's put: a record more in a book. Contract of the program's bookOf: the book of a zone's records.
-/
import Derived.Test.YtmlcmkoefelolaaGreatAddG03
import Derived.Deep.RegionHeld3
import Derived.Test.YtmlcmkoefelolaaGreatAddG20
import Derived.Test.YtmlcmkoefelolaaGreatAddG22
import Derived.Test.YtmlcmkoefelolaaGreatAddG17
import Derived.Test.YtmlcmkoefelolaaGreatAddG05
import Derived.Test.YtmlcmkoefelolaaGreatAddG14
import Derived.Test.YtmlcmkoefelolaaGreatAddG09
import Derived.Test.YtmlcmkoefelolaaGreatAddG12
import Derived.WalkSpells
import Derived.Test.YtmlcmkoefelolaaGreatAddG02
namespace Go.Proofs.YtmlcmkoefelolaaGreat
open Go.RowKit
set_option linter.unusedVariables false

def nextF : List Bool → Nat
 | true :: l => nextF l + 1
 | _ => 0
def setF : List Bool → List Bool
 | true :: l => true :: setF l
 | false :: l => true :: l
 | [] => []
def dropF {α : Type} : List Bool → List α → List α
 | true :: l, _ :: m => dropF l m
 | _, m => m
theorem setF_eq : ∀ l : List Bool, l.set (nextF l) true = setF l
 | [] => rfl
 | false :: _ => rfl
 | true :: l => by simp [nextF, setF, setF_eq l]
theorem dropF_get {α : Type} {o : α} {r : List α} : ∀ (l : List Bool) (m : List α), dropF l m = o :: r → m[nextF l]? = some o
 | [], m, h => by simp only [dropF] at h; subst h; rfl
 | false :: _, m, h => by simp only [dropF] at h; subst h; rfl
 | true :: l, [], h => by simp only [dropF] at h; cases h
 | true :: l, _ :: m, h => by simp only [dropF] at h; simpa [nextF] using dropF_get l m h
def callsF : Op → Bool
 | .call _ => true
 | _ => false

section
variable {P : Program} {ops : Array Oper} {Q : Exit → Act → World → Prop} {md : Region.Mode} {S : World → Prop}
theorem ops_next {l : List Bool} {oi : Oper} {rest : List Oper} (hi : dropF l ops.toList = oi :: rest) : ops[nextF l]? = some oi := by
 have := dropF_get l ops.toList hi
 rwa [Array.getElem?_toList] at this
theorem ops_drop {i : Nat} {oi : Oper} {rest : List Oper} (hi : ops.toList.drop i = oi :: rest) : ops[i]? = some oi := by
 rw [← Array.getElem?_toList, ← List.head?_drop, hi]
 rfl
theorem listed_next (l : List Bool) : l.toArray.setIfInBounds (nextF l) true = (setF l).toArray := by
 rw [List.setIfInBounds_toArray, setF_eq]
/-- The next one is wanted and only looks. -/
theorem tkF (v : Value) {oi : Oper} {rest : List Oper} {fuel : Nat} {l : List Bool} {a : Act} {w : World} (hi : dropF l ops.toList = oi :: rest)
  (hk : (!callsF oi.op && Region.noSelect ops && Region.free md ops l.toArray (nextF l) && (Region.ready md ops l.toArray).contains (nextF l)) = true)
  (hb : Region.wanted oi (yielded ops a.tmps) = true) (hQ : ∀ c a w, Q (.panic c) (a.put oi.dst v) w → Q (.panic c) a w)
  (hy : ∀ w, S w → (execOp a.eval oi).run P w = .ok (.value v) w) (hS : S w)
  (h : wpAnyH P md ops Q S fuel (setF l).toArray (a.put oi.dst v) w) : wpAnyH P md ops Q S (fuel + 1) l.toArray a w := by
 simp only [Bool.and_eq_true] at hk
 refine wpAnyH_take (ops_next hi) hk.1.1.2 hk.1.2 hk.2 hQ (Or.inl ⟨hb, hy⟩) hS ?_
 rw [listed_next]
 exact h
/-- The next one is not wanted. -/
theorem skF {oi : Oper} {rest : List Oper} {fuel : Nat} {l : List Bool} {a : Act} {w : World} (hi : dropF l ops.toList = oi :: rest)
  (hk : (Region.noSelect ops && Region.free md ops l.toArray (nextF l) && (Region.ready md ops l.toArray).contains (nextF l)) = true)
  (hb : Region.wanted oi (yielded ops a.tmps) = false) (hQ : ∀ c a w, Q (.panic c) (a.put oi.dst undef) w → Q (.panic c) a w) (hS : S w)
  (h : wpAnyH P md ops Q S fuel (setF l).toArray (a.put oi.dst undef) w) : wpAnyH P md ops Q S (fuel + 1) l.toArray a w := by
 simp only [Bool.and_eq_true] at hk
 refine wpAnyH_take (ops_next hi) hk.1.1 hk.1.2 hk.2 hQ (Or.inr ⟨hb, rfl⟩) hS ?_
 rw [listed_next]
 exact h
/-- Number i is wanted and only looks. -/
theorem tkI (i : Nat) (v : Value) {oi : Oper} {rest : List Oper} {fuel : Nat} {listed : Array Bool} {a : Act} {w : World} (hi : ops.toList.drop i = oi :: rest)
  (hk : (Region.noSelect ops && Region.free md ops listed i && (Region.ready md ops listed).contains i) = true)
  (hb : Region.wanted oi (yielded ops a.tmps) = true) (hQ : ∀ c a w, Q (.panic c) (a.put oi.dst v) w → Q (.panic c) a w)
  (hy : ∀ w, S w → (execOp a.eval oi).run P w = .ok (.value v) w) (hS : S w)
  (h : wpAnyH P md ops Q S fuel (listed.setIfInBounds i true) (a.put oi.dst v) w) : wpAnyH P md ops Q S (fuel + 1) listed a w := by
 simp only [Bool.and_eq_true] at hk
 exact wpAnyH_take (ops_drop hi) hk.1.1 hk.1.2 hk.2 hQ (Or.inl ⟨hb, hy⟩) hS h
/-- Number i alone may come up: it is run, and S shown anew. -/
theorem runI (i : Nat) {oi : Oper} {rest : List Oper} {fuel : Nat} {listed : Array Bool} {a : Act} {w : World} (hi : ops.toList.drop i = oi :: rest)
  (hk : (Region.ready md ops listed == [i]) = true) (hb : Region.wanted oi (yielded ops a.tmps) = true)
  (h : ∀ K' : Act → World → Prop, Shut (∀ a w, S w → (S w → wpAnyH P md ops Q S fuel (listed.setIfInBounds i true) a w) → K' a w) → Oper.wp P oi a w K' Q) :
  wpAnyH P md ops Q S (fuel + 1) listed a w := by
 rw [beq_iff_eq] at hk
 refine wpAnyH_ready hk (by simp) (AllReadyH.cons (ops_drop hi) (fun K hK => ?_) AllReadyH.nil)
 rw [if_pos hb]
 exact h K hK
end
end Go.Proofs.YtmlcmkoefelolaaGreat

namespace Go.Proofs.YtmlcmkoefelolaaGreat
open Go.RowKit
set_option linter.unusedVariables false

set_option maxHeartbeats 1000000 in
set_option maxRecDepth 100000 in
theorem dataKey_A {na : Option Addr} {nc : Nat} {ta : Option Addr} {tc : Nat} {xa : Option Addr} {xc : Nat} {ia : Option Addr} {ic : Nat} {nm to : List (List Int)} {tx nu : List Int} {tt ad : Int} {w : World} {D : List Int} (hD : D.length ≤ 1000)
  (PA : ∀ w1, Below w.heap.size w w1 → Calls Tryz.prog 209 #[.agg #[.int .i64 ad]] w1 fun e w' => ∃ v', e = .returned v' ∧ Own w1.heap.size 5 w' v' D ∧ Below w1.heap.size w1 w') :
  Calls Tryz.prog 111 #[.agg #[.slice na nm.length nc, .int .i64 1, .int .i64 tt, .int .i64 ad, .slice ta to.length tc, .slice xa tx.length xc, .slice ia nu.length ic]] w fun e w' => e = .returned (.string (strOfNums ([] ++ [1 / 256, 1 % 256] ++ D))) ∧ Below w.heap.size w w' := by
 have b0 := below_alloc (w := w) (.cells #[.slice na nm.length nc, .int .i64 1, .int .i64 tt, .int .i64 ad, .slice ta to.length tc, .slice xa tx.length xc, .slice ia nu.length ic] 52)
 have KB := hide (heap_alloc_new w (.cells #[.slice na nm.length nc, .int .i64 1, .int .i64 tt, .int .i64 ad, .slice ta to.length tc, .slice xa tx.length xc, .slice ia nu.length ic] 52))
 have QA := hide PA
 clear PA
 go_enter Tryz.func111, Tryz.ntmps111
 go_wp2_with fail
 generalize w.alloc (.cells #[.slice na nm.length nc, .int .i64 1, .int .i64 tt, .int .i64 ad, .slice ta to.length tc, .slice xa tx.length xc, .slice ia nu.length ic] 52) = W at *
 have bd := below_drew (w := W)
 have bb := below_next b0 bd
 replace KB := hide (block_kept bd (unhide KB))
 have z0 := bb.size
 clear bd b0
 refine wp_region_held_drew (S := (fun w' => w'.cell? ⟨w.heap.size, 0, none⟩ = some (.slice na nm.length nc) ∧ w'.cell? ⟨w.heap.size, 1, none⟩ = some (.int .i64 1) ∧ w'.cell? ⟨w.heap.size, 2, none⟩ = some (.int .i64 tt) ∧ w'.cell? ⟨w.heap.size, 3, none⟩ = some (.int .i64 ad) ∧ w'.cell? ⟨w.heap.size, 4, none⟩ = some (.slice ta to.length tc) ∧ w'.cell? ⟨w.heap.size, 5, none⟩ = some (.slice xa tx.length xc) ∧ w'.cell? ⟨w.heap.size, 6, none⟩ = some (.slice ia nu.length ic))) (by kernel_rfl) (cells7 (unhide KB)) (fun hHeld => ?_)
 show wpAnyH _ _ _ _ _ 9 #[false, false, false, false, false, false, false, false, false] _ _
 generalize W.drew = W0 at *
 have ZB := hide (block_lt (unhide KB))
 refine tkF (.pointer (some ⟨w.heap.size, 1, none⟩)) rfl (by kernel_rfl) (by kernel_rfl) (fun _ _ _ h => h) ?_ hHeld ?_; (· (intro w hSw; (try dsimp only at hSw); go_simp)); simp only [Act.put, setF, List.setIfInBounds_toArray, List.set_cons_zero, List.set_cons_succ]
 refine tkF (.int .i64 1) rfl (by kernel_rfl) (by kernel_rfl) (fun _ _ _ h => h) ?_ hHeld ?_; (· (intro w hSw; (try dsimp only at hSw); go_simp)); simp only [Act.put, setF, List.setIfInBounds_toArray, List.set_cons_zero, List.set_cons_succ]
 refine tkI 3 (.agg #[.slice na nm.length nc, .int .i64 1, .int .i64 tt, .int .i64 ad, .slice ta to.length tc, .slice xa tx.length xc, .slice ia nu.length ic]) rfl (by kernel_rfl) (by kernel_rfl) (fun _ _ _ h => h) ?_ hHeld ?_
 ·(intro w hSw; (try dsimp only at hSw); go_simp)
 try simp only [Act.put, List.setIfInBounds_toArray, List.set_cons_zero, List.set_cons_succ]
 refine wpAnyH_ready (rs := [2]) (by kernel_rfl) (by simp) (AllReadyH.cons (ops_drop rfl) (fun K hK => ?_) AllReadyH.nil)
 have HK := hide hK
 clear hK hHeld
 go_simp
 refine (implPut16_yes (B := 0) 1 (own_none 0 5 _) (by simp) (by omega) (by omega)).mono ?_
 rintro e w1 ⟨v1, rfl, o1, b1⟩
 obtain ⟨p1, q1, hv1, _⟩ := o1.lies
 replace hv1 : v1 = .slice p1 2 q1 := hv1
 subst hv1
 replace KB := hide (block_kept b1 (unhide KB))
 replace bb := below_next bb b1
 have z1 := b1.size
 have O1 := hide o1
 clear o1 b1
 go_simp
 refine (unhide HK).out _ _ (cells7 (unhide KB)) (fun hHeld => ?_)
 clear HK K
 try simp only [List.setIfInBounds_toArray, List.set_cons_zero, List.set_cons_succ]
 refine wpAnyH_ready (rs := [4]) (by kernel_rfl) (by simp) (AllReadyH.cons (ops_drop rfl) (fun K hK => ?_) AllReadyH.nil)
 have HK := hide hK
 clear hK hHeld
 go_simp
 refine (dataOf_A (na := na) (nc := nc) (ta := ta) (tc := tc) (xa := xa) (xc := xc) (ia := ia) (ic := ic) (nm := nm) (to := to) (tx := tx) (nu := nu) (tt := tt) (ad := ad)).mono ?_
 rintro e w2 ⟨rfl, b2⟩
 replace KB := hide (block_kept b2 (unhide KB))
 replace bb := below_next bb b2
 have z2 := b2.size
 replace O1 := hide ((unhide O1).below b2)
 clear b2
 go_simp
 refine (unhide HK).out _ _ (cells7 (unhide KB)) (fun hHeld => ?_)
 clear HK K
 try simp only [List.setIfInBounds_toArray, List.set_cons_zero, List.set_cons_succ]
 refine wpAnyH_ready (rs := [5]) (by kernel_rfl) (by simp) (AllReadyH.cons (ops_drop rfl) (fun K hK => ?_) AllReadyH.nil)
 have HK := hide hK
 clear hK hHeld
 go_simp
 refine (unhide QA _ bb).mono ?_
 rintro e w3 ⟨v3, rfl, o3, b3⟩
 obtain ⟨p3, q3, hv3, _⟩ := o3.lies
 subst hv3
 replace KB := hide (block_kept b3 (unhide KB))
 replace bb := below_next bb b3
 have z3 := b3.size
 replace O1 := hide ((unhide O1).below b3)
 have O3 := hide o3
 clear o3 b3
 go_simp
 refine (unhide HK).out _ _ (cells7 (unhide KB)) (fun hHeld => ?_)
 clear HK K
 try simp only [List.setIfInBounds_toArray, List.set_cons_zero, List.set_cons_succ]
 refine wpAnyH_ready (rs := [6]) (by kernel_rfl) (by simp) (AllReadyH.cons (ops_drop rfl) (fun K hK => ?_) AllReadyH.nil)
 have HK := hide hK
 clear hK hHeld
 refine step_append_bytes rfl (.tmp 5) (.tmp 8) 44 5 rfl Tryz.underlying44 info_u8 W0.heap.size (.slice p1 2 q1) (.slice p3 D.length q3) ([] ++ [1 / 256, 1 % 256]) D (by simp [Act.eval]) (by simp [Act.eval]) (unhide O1) (unhide O3).reads (by simp; omega) (by omega) ?_
 intro v4 w4 o4 g4
 have b4 : Below W0.heap.size w3 w4 := (Below.refl _ w3).grown g4 (by omega) (fun k e => ((unhide O1).lt k e).1)
 have kb4 := block_grown g4 (unhide KB) (fun e => by have := ((unhide O1).lt _ e).1; have := unhide ZB; omega)
 have bb4 : Below w.heap.size w w4 := bb.grown g4 (by omega) (fun k e => by have := ((unhide O1).lt k e).1; omega)
 have hcv := conv_own o4
 clear g4
 refine (unhide HK).out _ _ (cells7 kb4) (fun hHeld => ?_)
 clear HK K
 try simp only [List.setIfInBounds_toArray, List.set_cons_zero, List.set_cons_succ]
 refine wpAnyH_ready (rs := [7]) (by kernel_rfl) (by simp) (AllReadyH.cons (ops_drop rfl) (fun K hK => ?_) AllReadyH.nil)
 have HK := hide hK
 clear hK hHeld
 go_simp
 go_simp
 refine (unhide HK).out _ _ (cells7 kb4) (fun hHeld => ?_)
 clear HK K
 try simp only [List.setIfInBounds_toArray, List.set_cons_zero, List.set_cons_succ]
 refine wpAnyH_ready (rs := [8]) (by kernel_rfl) (by simp) (AllReadyH.cons (ops_drop rfl) (fun K hK => ?_) AllReadyH.nil)
 have HK := hide hK
 clear hK hHeld
 go_simp
 go_simp
 refine (unhide HK).out _ _ (cells7 kb4) (fun hHeld => ?_)
 clear HK K
 try simp only [List.setIfInBounds_toArray, List.set_cons_zero, List.set_cons_succ]
 refine wpAnyH_done (by kernel_rfl) ?_ _
 clear hHeld
 go_wp2_with fail
 go_ret
 exact ⟨rfl, bb4⟩

set_option maxHeartbeats 1000000 in
set_option maxRecDepth 100000 in
theorem dataKey_N {na : Option Addr} {nc : Nat} {ta : Option Addr} {tc : Nat} {xa : Option Addr} {xc : Nat} {ia : Option Addr} {ic : Nat} {nm to : List (List Int)} {tx nu : List Int} {tt ad : Int} {w : World} {D : List Int} {ty : Int} (hk : kindV ty = .iface 164 (.agg #[.slice none 0 0])) (hto : typeOk ty = true) (ht0 : 0 ≤ ty) (ht1 : ty ≤ 65535) (hD : D.length ≤ 1000)
  (PA : ∀ w1, Below w.heap.size w w1 → Calls Tryz.prog 214 #[.agg #[.slice ta to.length tc]] w1 fun e w' => ∃ v', e = .returned v' ∧ Own w1.heap.size 5 w' v' D ∧ Below w1.heap.size w1 w') :
  Calls Tryz.prog 111 #[.agg #[.slice na nm.length nc, .int .i64 ty, .int .i64 tt, .int .i64 ad, .slice ta to.length tc, .slice xa tx.length xc, .slice ia nu.length ic]] w fun e w' => e = .returned (.string (strOfNums ([] ++ [ty / 256, ty % 256] ++ D))) ∧ Below w.heap.size w w' := by
 have b0 := below_alloc (w := w) (.cells #[.slice na nm.length nc, .int .i64 ty, .int .i64 tt, .int .i64 ad, .slice ta to.length tc, .slice xa tx.length xc, .slice ia nu.length ic] 52)
 have KB := hide (heap_alloc_new w (.cells #[.slice na nm.length nc, .int .i64 ty, .int .i64 tt, .int .i64 ad, .slice ta to.length tc, .slice xa tx.length xc, .slice ia nu.length ic] 52))
 have QA := hide PA
 have HKK := hide hk
 have HTO := hide hto
 clear hk hto
 clear PA
 go_enter Tryz.func111, Tryz.ntmps111
 go_wp2_with fail
 generalize w.alloc (.cells #[.slice na nm.length nc, .int .i64 ty, .int .i64 tt, .int .i64 ad, .slice ta to.length tc, .slice xa tx.length xc, .slice ia nu.length ic] 52) = W at *
 have bd := below_drew (w := W)
 have bb := below_next b0 bd
 replace KB := hide (block_kept bd (unhide KB))
 have z0 := bb.size
 clear bd b0
 refine wp_region_held_drew (S := (fun w' => w'.cell? ⟨w.heap.size, 0, none⟩ = some (.slice na nm.length nc) ∧ w'.cell? ⟨w.heap.size, 1, none⟩ = some (.int .i64 ty) ∧ w'.cell? ⟨w.heap.size, 2, none⟩ = some (.int .i64 tt) ∧ w'.cell? ⟨w.heap.size, 3, none⟩ = some (.int .i64 ad) ∧ w'.cell? ⟨w.heap.size, 4, none⟩ = some (.slice ta to.length tc) ∧ w'.cell? ⟨w.heap.size, 5, none⟩ = some (.slice xa tx.length xc) ∧ w'.cell? ⟨w.heap.size, 6, none⟩ = some (.slice ia nu.length ic))) (by kernel_rfl) (cells7 (unhide KB)) (fun hHeld => ?_)
 show wpAnyH _ _ _ _ _ 9 #[false, false, false, false, false, false, false, false, false] _ _
 generalize W.drew = W0 at *
 have ZB := hide (block_lt (unhide KB))
 refine tkF (.pointer (some ⟨w.heap.size, 1, none⟩)) rfl (by kernel_rfl) (by kernel_rfl) (fun _ _ _ h => h) ?_ hHeld ?_; (· (intro w hSw; (try dsimp only at hSw); go_simp)); simp only [Act.put, setF, List.setIfInBounds_toArray, List.set_cons_zero, List.set_cons_succ]
 refine tkF (.int .i64 ty) rfl (by kernel_rfl) (by kernel_rfl) (fun _ _ _ h => h) ?_ hHeld ?_; (· (intro w hSw; (try dsimp only at hSw); go_simp)); simp only [Act.put, setF, List.setIfInBounds_toArray, List.set_cons_zero, List.set_cons_succ]
 refine tkI 3 (.agg #[.slice na nm.length nc, .int .i64 ty, .int .i64 tt, .int .i64 ad, .slice ta to.length tc, .slice xa tx.length xc, .slice ia nu.length ic]) rfl (by kernel_rfl) (by kernel_rfl) (fun _ _ _ h => h) ?_ hHeld ?_
 ·(intro w hSw; (try dsimp only at hSw); go_simp)
 try simp only [Act.put, List.setIfInBounds_toArray, List.set_cons_zero, List.set_cons_succ]
 refine wpAnyH_ready (rs := [2]) (by kernel_rfl) (by simp) (AllReadyH.cons (ops_drop rfl) (fun K hK => ?_) AllReadyH.nil)
 have HK := hide hK
 clear hK hHeld
 go_simp
 refine (implPut16_yes (B := 0) ty (own_none 0 5 _) (by simp) (by omega) (by omega)).mono ?_
 rintro e w1 ⟨v1, rfl, o1, b1⟩
 obtain ⟨p1, q1, hv1, _⟩ := o1.lies
 replace hv1 : v1 = .slice p1 2 q1 := hv1
 subst hv1
 replace KB := hide (block_kept b1 (unhide KB))
 replace bb := below_next bb b1
 have z1 := b1.size
 have O1 := hide o1
 clear o1 b1
 go_simp
 refine (unhide HK).out _ _ (cells7 (unhide KB)) (fun hHeld => ?_)
 clear HK K
 try simp only [List.setIfInBounds_toArray, List.set_cons_zero, List.set_cons_succ]
 refine wpAnyH_ready (rs := [4]) (by kernel_rfl) (by simp) (AllReadyH.cons (ops_drop rfl) (fun K hK => ?_) AllReadyH.nil)
 have HK := hide hK
 clear hK hHeld
 go_simp
 refine (dataOf_N (na := na) (nc := nc) (ta := ta) (tc := tc) (xa := xa) (xc := xc) (ia := ia) (ic := ic) (nm := nm) (to := to) (tx := tx) (nu := nu) (tt := tt) (ad := ad) (unhide HKK) (unhide HTO)).mono ?_
 rintro e w2 ⟨rfl, b2⟩
 replace KB := hide (block_kept b2 (unhide KB))
 replace bb := below_next bb b2
 have z2 := b2.size
 replace O1 := hide ((unhide O1).below b2)
 clear b2
 go_simp
 refine (unhide HK).out _ _ (cells7 (unhide KB)) (fun hHeld => ?_)
 clear HK K
 try simp only [List.setIfInBounds_toArray, List.set_cons_zero, List.set_cons_succ]
 refine wpAnyH_ready (rs := [5]) (by kernel_rfl) (by simp) (AllReadyH.cons (ops_drop rfl) (fun K hK => ?_) AllReadyH.nil)
 have HK := hide hK
 clear hK hHeld
 go_simp
 refine (unhide QA _ bb).mono ?_
 rintro e w3 ⟨v3, rfl, o3, b3⟩
 obtain ⟨p3, q3, hv3, _⟩ := o3.lies
 subst hv3
 replace KB := hide (block_kept b3 (unhide KB))
 replace bb := below_next bb b3
 have z3 := b3.size
 replace O1 := hide ((unhide O1).below b3)
 have O3 := hide o3
 clear o3 b3
 go_simp
 refine (unhide HK).out _ _ (cells7 (unhide KB)) (fun hHeld => ?_)
 clear HK K
 try simp only [List.setIfInBounds_toArray, List.set_cons_zero, List.set_cons_succ]
 refine wpAnyH_ready (rs := [6]) (by kernel_rfl) (by simp) (AllReadyH.cons (ops_drop rfl) (fun K hK => ?_) AllReadyH.nil)
 have HK := hide hK
 clear hK hHeld
 refine step_append_bytes rfl (.tmp 5) (.tmp 8) 44 5 rfl Tryz.underlying44 info_u8 W0.heap.size (.slice p1 2 q1) (.slice p3 D.length q3) ([] ++ [ty / 256, ty % 256]) D (by simp [Act.eval]) (by simp [Act.eval]) (unhide O1) (unhide O3).reads (by simp; omega) (by omega) ?_
 intro v4 w4 o4 g4
 have b4 : Below W0.heap.size w3 w4 := (Below.refl _ w3).grown g4 (by omega) (fun k e => ((unhide O1).lt k e).1)
 have kb4 := block_grown g4 (unhide KB) (fun e => by have := ((unhide O1).lt _ e).1; have := unhide ZB; omega)
 have bb4 : Below w.heap.size w w4 := bb.grown g4 (by omega) (fun k e => by have := ((unhide O1).lt k e).1; omega)
 have hcv := conv_own o4
 clear g4
 refine (unhide HK).out _ _ (cells7 kb4) (fun hHeld => ?_)
 clear HK K
 try simp only [List.setIfInBounds_toArray, List.set_cons_zero, List.set_cons_succ]
 refine wpAnyH_ready (rs := [7]) (by kernel_rfl) (by simp) (AllReadyH.cons (ops_drop rfl) (fun K hK => ?_) AllReadyH.nil)
 have HK := hide hK
 clear hK hHeld
 go_simp
 go_simp
 refine (unhide HK).out _ _ (cells7 kb4) (fun hHeld => ?_)
 clear HK K
 try simp only [List.setIfInBounds_toArray, List.set_cons_zero, List.set_cons_succ]
 refine wpAnyH_ready (rs := [8]) (by kernel_rfl) (by simp) (AllReadyH.cons (ops_drop rfl) (fun K hK => ?_) AllReadyH.nil)
 have HK := hide hK
 clear hK hHeld
 go_simp
 go_simp
 refine (unhide HK).out _ _ (cells7 kb4) (fun hHeld => ?_)
 clear HK K
 try simp only [List.setIfInBounds_toArray, List.set_cons_zero, List.set_cons_succ]
 refine wpAnyH_done (by kernel_rfl) ?_ _
 clear hHeld
 go_wp2_with fail
 go_ret
 exact ⟨rfl, bb4⟩

set_option maxHeartbeats 1000000 in
set_option maxRecDepth 100000 in
theorem dataKey_S {na : Option Addr} {nc : Nat} {ta : Option Addr} {tc : Nat} {xa : Option Addr} {xc : Nat} {ia : Option Addr} {ic : Nat} {nm to : List (List Int)} {tx nu : List Int} {tt ad : Int} {w : World} {D : List Int} (hD : D.length ≤ 1000)
  (PA : ∀ w1, Below w.heap.size w w1 → Calls Tryz.prog 220 #[.agg #[.slice ta to.length tc, .slice ia nu.length ic]] w1 fun e w' => ∃ v', e = .returned v' ∧ Own w1.heap.size 5 w' v' D ∧ Below w1.heap.size w1 w') :
  Calls Tryz.prog 111 #[.agg #[.slice na nm.length nc, .int .i64 6, .int .i64 tt, .int .i64 ad, .slice ta to.length tc, .slice xa tx.length xc, .slice ia nu.length ic]] w fun e w' => e = .returned (.string (strOfNums ([] ++ [6 / 256, 6 % 256] ++ D))) ∧ Below w.heap.size w w' := by
 have b0 := below_alloc (w := w) (.cells #[.slice na nm.length nc, .int .i64 6, .int .i64 tt, .int .i64 ad, .slice ta to.length tc, .slice xa tx.length xc, .slice ia nu.length ic] 52)
 have KB := hide (heap_alloc_new w (.cells #[.slice na nm.length nc, .int .i64 6, .int .i64 tt, .int .i64 ad, .slice ta to.length tc, .slice xa tx.length xc, .slice ia nu.length ic] 52))
 have QA := hide PA
 clear PA
 go_enter Tryz.func111, Tryz.ntmps111
 go_wp2_with fail
 generalize w.alloc (.cells #[.slice na nm.length nc, .int .i64 6, .int .i64 tt, .int .i64 ad, .slice ta to.length tc, .slice xa tx.length xc, .slice ia nu.length ic] 52) = W at *
 have bd := below_drew (w := W)
 have bb := below_next b0 bd
 replace KB := hide (block_kept bd (unhide KB))
 have z0 := bb.size
 clear bd b0
 refine wp_region_held_drew (S := (fun w' => w'.cell? ⟨w.heap.size, 0, none⟩ = some (.slice na nm.length nc) ∧ w'.cell? ⟨w.heap.size, 1, none⟩ = some (.int .i64 6) ∧ w'.cell? ⟨w.heap.size, 2, none⟩ = some (.int .i64 tt) ∧ w'.cell? ⟨w.heap.size, 3, none⟩ = some (.int .i64 ad) ∧ w'.cell? ⟨w.heap.size, 4, none⟩ = some (.slice ta to.length tc) ∧ w'.cell? ⟨w.heap.size, 5, none⟩ = some (.slice xa tx.length xc) ∧ w'.cell? ⟨w.heap.size, 6, none⟩ = some (.slice ia nu.length ic))) (by kernel_rfl) (cells7 (unhide KB)) (fun hHeld => ?_)
 show wpAnyH _ _ _ _ _ 9 #[false, false, false, false, false, false, false, false, false] _ _
 generalize W.drew = W0 at *
 have ZB := hide (block_lt (unhide KB))
 refine tkF (.pointer (some ⟨w.heap.size, 1, none⟩)) rfl (by kernel_rfl) (by kernel_rfl) (fun _ _ _ h => h) ?_ hHeld ?_; (· (intro w hSw; (try dsimp only at hSw); go_simp)); simp only [Act.put, setF, List.setIfInBounds_toArray, List.set_cons_zero, List.set_cons_succ]
 refine tkF (.int .i64 6) rfl (by kernel_rfl) (by kernel_rfl) (fun _ _ _ h => h) ?_ hHeld ?_; (· (intro w hSw; (try dsimp only at hSw); go_simp)); simp only [Act.put, setF, List.setIfInBounds_toArray, List.set_cons_zero, List.set_cons_succ]
 refine tkI 3 (.agg #[.slice na nm.length nc, .int .i64 6, .int .i64 tt, .int .i64 ad, .slice ta to.length tc, .slice xa tx.length xc, .slice ia nu.length ic]) rfl (by kernel_rfl) (by kernel_rfl) (fun _ _ _ h => h) ?_ hHeld ?_
 ·(intro w hSw; (try dsimp only at hSw); go_simp)
 try simp only [Act.put, List.setIfInBounds_toArray, List.set_cons_zero, List.set_cons_succ]
 refine wpAnyH_ready (rs := [2]) (by kernel_rfl) (by simp) (AllReadyH.cons (ops_drop rfl) (fun K hK => ?_) AllReadyH.nil)
 have HK := hide hK
 clear hK hHeld
 go_simp
 refine (implPut16_yes (B := 0) 6 (own_none 0 5 _) (by simp) (by omega) (by omega)).mono ?_
 rintro e w1 ⟨v1, rfl, o1, b1⟩
 obtain ⟨p1, q1, hv1, _⟩ := o1.lies
 replace hv1 : v1 = .slice p1 2 q1 := hv1
 subst hv1
 replace KB := hide (block_kept b1 (unhide KB))
 replace bb := below_next bb b1
 have z1 := b1.size
 have O1 := hide o1
 clear o1 b1
 go_simp
 refine (unhide HK).out _ _ (cells7 (unhide KB)) (fun hHeld => ?_)
 clear HK K
 try simp only [List.setIfInBounds_toArray, List.set_cons_zero, List.set_cons_succ]
 refine wpAnyH_ready (rs := [4]) (by kernel_rfl) (by simp) (AllReadyH.cons (ops_drop rfl) (fun K hK => ?_) AllReadyH.nil)
 have HK := hide hK
 clear hK hHeld
 go_simp
 refine (dataOf_S (na := na) (nc := nc) (ta := ta) (tc := tc) (xa := xa) (xc := xc) (ia := ia) (ic := ic) (nm := nm) (to := to) (tx := tx) (nu := nu) (tt := tt) (ad := ad)).mono ?_
 rintro e w2 ⟨rfl, b2⟩
 replace KB := hide (block_kept b2 (unhide KB))
 replace bb := below_next bb b2
 have z2 := b2.size
 replace O1 := hide ((unhide O1).below b2)
 clear b2
 go_simp
 refine (unhide HK).out _ _ (cells7 (unhide KB)) (fun hHeld => ?_)
 clear HK K
 try simp only [List.setIfInBounds_toArray, List.set_cons_zero, List.set_cons_succ]
 refine wpAnyH_ready (rs := [5]) (by kernel_rfl) (by simp) (AllReadyH.cons (ops_drop rfl) (fun K hK => ?_) AllReadyH.nil)
 have HK := hide hK
 clear hK hHeld
 go_simp
 refine (unhide QA _ bb).mono ?_
 rintro e w3 ⟨v3, rfl, o3, b3⟩
 obtain ⟨p3, q3, hv3, _⟩ := o3.lies
 subst hv3
 replace KB := hide (block_kept b3 (unhide KB))
 replace bb := below_next bb b3
 have z3 := b3.size
 replace O1 := hide ((unhide O1).below b3)
 have O3 := hide o3
 clear o3 b3
 go_simp
 refine (unhide HK).out _ _ (cells7 (unhide KB)) (fun hHeld => ?_)
 clear HK K
 try simp only [List.setIfInBounds_toArray, List.set_cons_zero, List.set_cons_succ]
 refine wpAnyH_ready (rs := [6]) (by kernel_rfl) (by simp) (AllReadyH.cons (ops_drop rfl) (fun K hK => ?_) AllReadyH.nil)
 have HK := hide hK
 clear hK hHeld
 refine step_append_bytes rfl (.tmp 5) (.tmp 8) 44 5 rfl Tryz.underlying44 info_u8 W0.heap.size (.slice p1 2 q1) (.slice p3 D.length q3) ([] ++ [6 / 256, 6 % 256]) D (by simp [Act.eval]) (by simp [Act.eval]) (unhide O1) (unhide O3).reads (by simp; omega) (by omega) ?_
 intro v4 w4 o4 g4
 have b4 : Below W0.heap.size w3 w4 := (Below.refl _ w3).grown g4 (by omega) (fun k e => ((unhide O1).lt k e).1)
 have kb4 := block_grown g4 (unhide KB) (fun e => by have := ((unhide O1).lt _ e).1; have := unhide ZB; omega)
 have bb4 : Below w.heap.size w w4 := bb.grown g4 (by omega) (fun k e => by have := ((unhide O1).lt k e).1; omega)
 have hcv := conv_own o4
 clear g4
 refine (unhide HK).out _ _ (cells7 kb4) (fun hHeld => ?_)
 clear HK K
 try simp only [List.setIfInBounds_toArray, List.set_cons_zero, List.set_cons_succ]
 refine wpAnyH_ready (rs := [7]) (by kernel_rfl) (by simp) (AllReadyH.cons (ops_drop rfl) (fun K hK => ?_) AllReadyH.nil)
 have HK := hide hK
 clear hK hHeld
 go_simp
 go_simp
 refine (unhide HK).out _ _ (cells7 kb4) (fun hHeld => ?_)
 clear HK K
 try simp only [List.setIfInBounds_toArray, List.set_cons_zero, List.set_cons_succ]
 refine wpAnyH_ready (rs := [8]) (by kernel_rfl) (by simp) (AllReadyH.cons (ops_drop rfl) (fun K hK => ?_) AllReadyH.nil)
 have HK := hide hK
 clear hK hHeld
 go_simp
 go_simp
 refine (unhide HK).out _ _ (cells7 kb4) (fun hHeld => ?_)
 clear HK K
 try simp only [List.setIfInBounds_toArray, List.set_cons_zero, List.set_cons_succ]
 refine wpAnyH_done (by kernel_rfl) ?_ _
 clear hHeld
 go_wp2_with fail
 go_ret
 exact ⟨rfl, bb4⟩

set_option maxHeartbeats 1000000 in
set_option maxRecDepth 100000 in
theorem dataKey_X {na : Option Addr} {nc : Nat} {ta : Option Addr} {tc : Nat} {xa : Option Addr} {xc : Nat} {ia : Option Addr} {ic : Nat} {nm to : List (List Int)} {tx nu : List Int} {tt ad : Int} {w : World} {D : List Int} {ty : Int} (hk : kindV ty = .iface 168 (.agg #[.slice none 0 0])) (hto : typeOk ty = true) (ht0 : 0 ≤ ty) (ht1 : ty ≤ 65535) (hD : D.length ≤ 1000)
  (PA : ∀ w1, Below w.heap.size w w1 → Calls Tryz.prog 224 #[.agg #[.slice xa tx.length xc]] w1 fun e w' => ∃ v', e = .returned v' ∧ Own w1.heap.size 5 w' v' D ∧ Below w1.heap.size w1 w') :
  Calls Tryz.prog 111 #[.agg #[.slice na nm.length nc, .int .i64 ty, .int .i64 tt, .int .i64 ad, .slice ta to.length tc, .slice xa tx.length xc, .slice ia nu.length ic]] w fun e w' => e = .returned (.string (strOfNums ([] ++ [ty / 256, ty % 256] ++ D))) ∧ Below w.heap.size w w' := by
 have b0 := below_alloc (w := w) (.cells #[.slice na nm.length nc, .int .i64 ty, .int .i64 tt, .int .i64 ad, .slice ta to.length tc, .slice xa tx.length xc, .slice ia nu.length ic] 52)
 have KB := hide (heap_alloc_new w (.cells #[.slice na nm.length nc, .int .i64 ty, .int .i64 tt, .int .i64 ad, .slice ta to.length tc, .slice xa tx.length xc, .slice ia nu.length ic] 52))
 have QA := hide PA
 have HKK := hide hk
 have HTO := hide hto
 clear hk hto
 clear PA
 go_enter Tryz.func111, Tryz.ntmps111
 go_wp2_with fail
 generalize w.alloc (.cells #[.slice na nm.length nc, .int .i64 ty, .int .i64 tt, .int .i64 ad, .slice ta to.length tc, .slice xa tx.length xc, .slice ia nu.length ic] 52) = W at *
 have bd := below_drew (w := W)
 have bb := below_next b0 bd
 replace KB := hide (block_kept bd (unhide KB))
 have z0 := bb.size
 clear bd b0
 refine wp_region_held_drew (S := (fun w' => w'.cell? ⟨w.heap.size, 0, none⟩ = some (.slice na nm.length nc) ∧ w'.cell? ⟨w.heap.size, 1, none⟩ = some (.int .i64 ty) ∧ w'.cell? ⟨w.heap.size, 2, none⟩ = some (.int .i64 tt) ∧ w'.cell? ⟨w.heap.size, 3, none⟩ = some (.int .i64 ad) ∧ w'.cell? ⟨w.heap.size, 4, none⟩ = some (.slice ta to.length tc) ∧ w'.cell? ⟨w.heap.size, 5, none⟩ = some (.slice xa tx.length xc) ∧ w'.cell? ⟨w.heap.size, 6, none⟩ = some (.slice ia nu.length ic))) (by kernel_rfl) (cells7 (unhide KB)) (fun hHeld => ?_)
 show wpAnyH _ _ _ _ _ 9 #[false, false, false, false, false, false, false, false, false] _ _
 generalize W.drew = W0 at *
 have ZB := hide (block_lt (unhide KB))
 refine tkF (.pointer (some ⟨w.heap.size, 1, none⟩)) rfl (by kernel_rfl) (by kernel_rfl) (fun _ _ _ h => h) ?_ hHeld ?_; (· (intro w hSw; (try dsimp only at hSw); go_simp)); simp only [Act.put, setF, List.setIfInBounds_toArray, List.set_cons_zero, List.set_cons_succ]
 refine tkF (.int .i64 ty) rfl (by kernel_rfl) (by kernel_rfl) (fun _ _ _ h => h) ?_ hHeld ?_; (· (intro w hSw; (try dsimp only at hSw); go_simp)); simp only [Act.put, setF, List.setIfInBounds_toArray, List.set_cons_zero, List.set_cons_succ]
 refine tkI 3 (.agg #[.slice na nm.length nc, .int .i64 ty, .int .i64 tt, .int .i64 ad, .slice ta to.length tc, .slice xa tx.length xc, .slice ia nu.length ic]) rfl (by kernel_rfl) (by kernel_rfl) (fun _ _ _ h => h) ?_ hHeld ?_
 ·(intro w hSw; (try dsimp only at hSw); go_simp)
 try simp only [Act.put, List.setIfInBounds_toArray, List.set_cons_zero, List.set_cons_succ]
 refine wpAnyH_ready (rs := [2]) (by kernel_rfl) (by simp) (AllReadyH.cons (ops_drop rfl) (fun K hK => ?_) AllReadyH.nil)
 have HK := hide hK
 clear hK hHeld
 go_simp
 refine (implPut16_yes (B := 0) ty (own_none 0 5 _) (by simp) (by omega) (by omega)).mono ?_
 rintro e w1 ⟨v1, rfl, o1, b1⟩
 obtain ⟨p1, q1, hv1, _⟩ := o1.lies
 replace hv1 : v1 = .slice p1 2 q1 := hv1
 subst hv1
 replace KB := hide (block_kept b1 (unhide KB))
 replace bb := below_next bb b1
 have z1 := b1.size
 have O1 := hide o1
 clear o1 b1
 go_simp
 refine (unhide HK).out _ _ (cells7 (unhide KB)) (fun hHeld => ?_)
 clear HK K
 try simp only [List.setIfInBounds_toArray, List.set_cons_zero, List.set_cons_succ]
 refine wpAnyH_ready (rs := [4]) (by kernel_rfl) (by simp) (AllReadyH.cons (ops_drop rfl) (fun K hK => ?_) AllReadyH.nil)
 have HK := hide hK
 clear hK hHeld
 go_simp
 refine (dataOf_X (na := na) (nc := nc) (ta := ta) (tc := tc) (xa := xa) (xc := xc) (ia := ia) (ic := ic) (nm := nm) (to := to) (tx := tx) (nu := nu) (tt := tt) (ad := ad) (unhide HKK) (unhide HTO)).mono ?_
 rintro e w2 ⟨rfl, b2⟩
 replace KB := hide (block_kept b2 (unhide KB))
 replace bb := below_next bb b2
 have z2 := b2.size
 replace O1 := hide ((unhide O1).below b2)
 clear b2
 go_simp
 refine (unhide HK).out _ _ (cells7 (unhide KB)) (fun hHeld => ?_)
 clear HK K
 try simp only [List.setIfInBounds_toArray, List.set_cons_zero, List.set_cons_succ]
 refine wpAnyH_ready (rs := [5]) (by kernel_rfl) (by simp) (AllReadyH.cons (ops_drop rfl) (fun K hK => ?_) AllReadyH.nil)
 have HK := hide hK
 clear hK hHeld
 go_simp
 refine (unhide QA _ bb).mono ?_
 rintro e w3 ⟨v3, rfl, o3, b3⟩
 obtain ⟨p3, q3, hv3, _⟩ := o3.lies
 subst hv3
 replace KB := hide (block_kept b3 (unhide KB))
 replace bb := below_next bb b3
 have z3 := b3.size
 replace O1 := hide ((unhide O1).below b3)
 have O3 := hide o3
 clear o3 b3
 go_simp
 refine (unhide HK).out _ _ (cells7 (unhide KB)) (fun hHeld => ?_)
 clear HK K
 try simp only [List.setIfInBounds_toArray, List.set_cons_zero, List.set_cons_succ]
 refine wpAnyH_ready (rs := [6]) (by kernel_rfl) (by simp) (AllReadyH.cons (ops_drop rfl) (fun K hK => ?_) AllReadyH.nil)
 have HK := hide hK
 clear hK hHeld
 refine step_append_bytes rfl (.tmp 5) (.tmp 8) 44 5 rfl Tryz.underlying44 info_u8 W0.heap.size (.slice p1 2 q1) (.slice p3 D.length q3) ([] ++ [ty / 256, ty % 256]) D (by simp [Act.eval]) (by simp [Act.eval]) (unhide O1) (unhide O3).reads (by simp; omega) (by omega) ?_
 intro v4 w4 o4 g4
 have b4 : Below W0.heap.size w3 w4 := (Below.refl _ w3).grown g4 (by omega) (fun k e => ((unhide O1).lt k e).1)
 have kb4 := block_grown g4 (unhide KB) (fun e => by have := ((unhide O1).lt _ e).1; have := unhide ZB; omega)
 have bb4 : Below w.heap.size w w4 := bb.grown g4 (by omega) (fun k e => by have := ((unhide O1).lt k e).1; omega)
 have hcv := conv_own o4
 clear g4
 refine (unhide HK).out _ _ (cells7 kb4) (fun hHeld => ?_)
 clear HK K
 try simp only [List.setIfInBounds_toArray, List.set_cons_zero, List.set_cons_succ]
 refine wpAnyH_ready (rs := [7]) (by kernel_rfl) (by simp) (AllReadyH.cons (ops_drop rfl) (fun K hK => ?_) AllReadyH.nil)
 have HK := hide hK
 clear hK hHeld
 go_simp
 go_simp
 refine (unhide HK).out _ _ (cells7 kb4) (fun hHeld => ?_)
 clear HK K
 try simp only [List.setIfInBounds_toArray, List.set_cons_zero, List.set_cons_succ]
 refine wpAnyH_ready (rs := [8]) (by kernel_rfl) (by simp) (AllReadyH.cons (ops_drop rfl) (fun K hK => ?_) AllReadyH.nil)
 have HK := hide hK
 clear hK hHeld
 go_simp
 go_simp
 refine (unhide HK).out _ _ (cells7 kb4) (fun hHeld => ?_)
 clear HK K
 try simp only [List.setIfInBounds_toArray, List.set_cons_zero, List.set_cons_succ]
 refine wpAnyH_done (by kernel_rfl) ?_ _
 clear hHeld
 go_wp2_with fail
 go_ret
 exact ⟨rfl, bb4⟩

theorem dataKey_has {vn vt vx vi : Value} {r : Rec} {w : World} (h : HasR w vn vt vx vi r) (hok : rrOk r = true) :
  Calls Tryz.prog 111 #[.agg #[vn, .int .i64 r.type, .int .i64 r.ttl, .int .i64 r.addr, vt, vx, vi]] w fun e w' => e = .returned (.string (strOfNums (keyD r))) ∧ Below w.heap.size w w' := by
 obtain ⟨_, ht, _, _, hd⟩ := rrOk_parts hok
 have hlen : (dataB r).length ≤ 1000 := Nat.le_trans (dataB_length hok) (by omega)
 obtain ⟨na, nc, rfl, _⟩ := h.name.form
 obtain ⟨ta, tc, rfl, _⟩ := h.to.form
 obtain ⟨xa, xc, rfl, _⟩ := h.text.form
 obtain ⟨ia, ic, rfl, _⟩ := h.nums.form
 unfold keyD
 rcases data_kinds ht hd with ⟨e, h0, h1, eb⟩ | ⟨e, hn, eb⟩ | ⟨e, hn, x, y, exy, _, _, _, _, eb⟩ | ⟨e, hx, eb⟩
 all_goals
  rw [eb] at hlen ⊢
  obtain ⟨nm, ty, tt, ad, to, tx, nu⟩ := r
  simp only at *
 ·subst e
  exact dataKey_A hlen (fun w1 _ => addrPut_any ad w1)
 ·exact dataKey_N (kindV_N e) ht (by omega) (by omega) hlen (fun w1 hb => namePutM_has (h.to.below hb) hn)
 ·subst e exy
  exact dataKey_S hlen (fun w1 hb => soaPut_has (h.to.below hb) (h.nums.below hb) hn)
 ·exact dataKey_X (kindV_X e) ht (by omega) (by omega) hlen (fun w1 hb => textPut_has (h.text.below hb) hx)
end Go.Proofs.YtmlcmkoefelolaaGreat

namespace Go.Proofs.YtmlcmkoefelolaaGreat
open Go.RowKit
set_option linter.unusedVariables false

theorem zero_page (w : World) : (zeroValue 116).run Tryz.prog w = .ok (.map none) w := by
 have h : (Tryz.prog.info? 116).map (fun i => i.zero) = some (some (.map none)) := by kernel_rfl
 obtain ⟨i, h1, h2⟩ := Option.map_eq_some_iff.1 h
 simp [zeroValue, typeInfo, h1, h2, go_sem]
theorem look_page {w : World} {b p : Nat} {ps : List (ByteArray × Value)} {kn : ByteArray} (h : MapV w b ps) (hk : kn.size ≤ maxLen) (hl : lookA kn ps = some (.map (some p))) : (Instr.lookup 79 (.map (some b)) (.string kn) false).run Tryz.prog w = .ok (.map (some p)) w := by
 have := mapV_look (e := 116) (t := 79) Tryz.underlying79 Tryz.underlying9 (zero_page w) h kn hk
 rw [hl] at this
 exact this
theorem look_none {w : World} {b : Nat} {ps : List (ByteArray × Value)} {kn : ByteArray} (h : MapV w b ps) (hk : kn.size ≤ maxLen) (hl : lookA kn ps = none) : (Instr.lookup 79 (.map (some b)) (.string kn) false).run Tryz.prog w = .ok (.map none) w := by
 have := mapV_look (e := 116) (t := 79) Tryz.underlying79 Tryz.underlying9 (zero_page w) h kn hk
 rw [hl] at this
 exact this
theorem keyN_size {n : List (List Int)} (h : ShortN n) : (strOfNums (keyN n)).size ≤ maxLen := by
 rw [strOfNums_size]
 have : (keyP n.reverse).length ≤ 16 * n.reverse.length := keyP_len (fun l hl => by
  obtain ⟨i, hi, rfl⟩ := List.getElem_of_mem (List.mem_reverse.1 hl)
  have := h.2 i hi
  simpa [hi] using this)
 have h1 := h.1
 have e : keyN n = keyP n.reverse := rfl
 rw [List.length_reverse] at this
 rw [e]
 unfold maxLen
 omega
theorem keyD_size {r : Rec} (h : rrOk r = true) : (strOfNums (keyD r)).size ≤ maxLen := by
 rw [strOfNums_size]
 have := dataB_length h
 simp [keyD, maxLen]
 omega

set_option maxHeartbeats 1000000 in
set_option maxRecDepth 100000 in
theorem put_there {n0 b p : Nat} {ps : List (ByteArray × Value)} {P : Pg} {na : Option Addr} {nc : Nat} {ta : Option Addr} {tc : Nat} {xa : Option Addr} {xc : Nat} {ia : Option Addr} {ic : Nat} {r : Rec} {w : World}
  (h : HasR w (.slice na r.name.length nc) (.slice ta r.to.length tc) (.slice xa r.text.length xc) (.slice ia r.nums.length ic) r) (hok : rrOk r = true)
  (hM : MapV w b ps) (hl : lookA (strOfNums (keyN r.name)) ps = some (.map (some p))) (hP : PageM w p P) (hne : p ≠ b) (hp : n0 ≤ p) (hz : n0 ≤ w.heap.size) :
  Calls Tryz.prog 94 #[.map (some b), .agg #[.slice na r.name.length nc, .int .i64 r.type, .int .i64 r.ttl, .int .i64 r.addr, .slice ta r.to.length tc, .slice xa r.text.length xc, .slice ia r.nums.length ic]] w fun e w' => (∃ v, e = .returned v) ∧ PageM w' p (putA (strOfNums (keyD r)) r P) ∧ MapV w' b ps ∧ KeptO w w' ∧ Below n0 w w' ∧ (∀ q, q ≠ p → q < w.heap.size → w'.heap[q]? = w.heap[q]?) := by
 have MB := hide hM
 have HPP := hide hP
 have HRR := hide h
 clear hM hP
 have b0 := below_alloc (w := w) (.cells #[.slice na r.name.length nc, .int .i64 r.type, .int .i64 r.ttl, .int .i64 r.addr, .slice ta r.to.length tc, .slice xa r.text.length xc, .slice ia r.nums.length ic] 52)
 have KB := hide (heap_alloc_new w (.cells #[.slice na r.name.length nc, .int .i64 r.type, .int .i64 r.ttl, .int .i64 r.addr, .slice ta r.to.length tc, .slice xa r.text.length xc, .slice ia r.nums.length ic] 52))
 have hn := short_name (rrOk_parts hok).1
 have HN := hide (nameKey_has (h.name.below b0) hn.1 hn.2)
 have HD := hide (fun (w : World) (hh : HasR w (.slice na r.name.length nc) (.slice ta r.to.length tc) (.slice xa r.text.length xc) (.slice ia r.nums.length ic) r) => dataKey_has hh hok)
 have hkn := keyN_size hn
 have hkd := keyD_size hok
 obtain ⟨d0, d1, d2, d3, d4, d5, d6⟩ := cells7 (unhide KB)
 generalize hKN : strOfNums (keyN r.name) = kn at *
 generalize hKD : strOfNums (keyD r) = kd at *
 clear hKN hKD hn hok
 go_enter Tryz.func94, Tryz.ntmps94
 go_wp2_with fail
 generalize w.alloc (.cells #[.slice na r.name.length nc, .int .i64 r.type, .int .i64 r.ttl, .int .i64 r.addr, .slice ta r.to.length tc, .slice xa r.text.length xc, .slice ia r.nums.length ic] 52) = W at *
 refine (unhide HN).mono ?_
 rintro e w1 ⟨rfl, b1⟩
 replace KB := hide (block_kept b1 (unhide KB))
 have bb := below_next b0 b1
 clear b0 b1 d0 d1 d2 d3 d4 d5 d6 HN
 clear h
 replace MB := hide ((unhide MB).below bb)
 replace HPP := hide ((unhide HPP).kept (bb.block _ (unhide HPP).lt) (keptX_below bb))
 replace HRR := hide ((unhide HRR).below bb)
 have KO := hide (keptO_below bb)
 have BN := hide (bb.mono hz)
 have hz0 := hz
 replace hz : n0 ≤ w1.heap.size := Nat.le_trans hz bb.size
 have BB := hide bb
 clear bb
 have hlook := look_page (unhide MB) hkn hl
 have heql := run_eql_map_nil w1 116 9 52 (some p) Tryz.underlying116
 simp only [Option.isNone_some] at heql
 go_wp2_with fail
 clear hlook heql
 have bd := below_drew (w := w1)
 replace KB := hide (block_kept bd (unhide KB))
 replace MB := hide ((unhide MB).below bd)
 replace HPP := hide ((unhide HPP).kept (bd.block _ (unhide HPP).lt) (keptX_below bd))
 replace HRR := hide ((unhide HRR).below bd)
 replace KO := hide ((unhide KO).trans (keptO_below bd))
 replace BN := hide ((unhide BN).trans (bd.mono hz))
 have zd := bd.size
 clear bd
 refine wp_region_held_drew (S := (fun w' => (w'.cell? ⟨w.heap.size, 0, none⟩ = some (.slice na r.name.length nc) ∧ w'.cell? ⟨w.heap.size, 1, none⟩ = some (.int .i64 r.type) ∧ w'.cell? ⟨w.heap.size, 2, none⟩ = some (.int .i64 r.ttl) ∧ w'.cell? ⟨w.heap.size, 3, none⟩ = some (.int .i64 r.addr) ∧ w'.cell? ⟨w.heap.size, 4, none⟩ = some (.slice ta r.to.length tc) ∧ w'.cell? ⟨w.heap.size, 5, none⟩ = some (.slice xa r.text.length xc) ∧ w'.cell? ⟨w.heap.size, 6, none⟩ = some (.slice ia r.nums.length ic)) ∧ (Instr.lookup 79 (.map (some b)) (.string kn) false).run Tryz.prog w' = .ok (.map (some p)) w')) (by kernel_rfl) ⟨cells7 (unhide KB), look_page (unhide MB) hkn hl⟩ (fun hHeld => ?_)
 show wpAnyH _ _ _ _ _ 7 #[false, false, false, false, false, false, false] _ _
 have HD2 : Hid (∀ q : Nat, w1.drew.heap[q]? = w1.heap[q]?) := fun _ => rfl
 generalize w1.drew = W0 at *
 refine tkF (.map (some b)) rfl (by kernel_rfl) (by kernel_rfl) (fun _ _ _ h => h) ?_ hHeld ?_; (· (intro w hSw; (try dsimp only at hSw); go_simp)); simp only [Act.put, setF, List.setIfInBounds_toArray, List.set_cons_zero, List.set_cons_succ]
 refine tkF (.string kn) rfl (by kernel_rfl) (by kernel_rfl) (fun _ _ _ h => h) ?_ hHeld ?_; (· (intro w hSw; (try dsimp only at hSw); go_simp)); simp only [Act.put, setF, List.setIfInBounds_toArray, List.set_cons_zero, List.set_cons_succ]
 refine tkF (.map (some p)) rfl (by kernel_rfl) (by kernel_rfl) (fun _ _ _ h => h) ?_ hHeld ?_; (· (intro w hSw; (try dsimp only at hSw); go_simp)); simp only [Act.put, setF, List.setIfInBounds_toArray, List.set_cons_zero, List.set_cons_succ]
 refine tkF (.agg #[.slice na r.name.length nc, .int .i64 r.type, .int .i64 r.ttl, .int .i64 r.addr, .slice ta r.to.length tc, .slice xa r.text.length xc, .slice ia r.nums.length ic]) rfl (by kernel_rfl) (by kernel_rfl) (fun _ _ _ h => h) ?_ hHeld ?_; (· (intro w hSw; (try dsimp only at hSw); go_simp)); simp only [Act.put, setF, List.setIfInBounds_toArray, List.set_cons_zero, List.set_cons_succ]
 refine tkI 5 (.agg #[.slice na r.name.length nc, .int .i64 r.type, .int .i64 r.ttl, .int .i64 r.addr, .slice ta r.to.length tc, .slice xa r.text.length xc, .slice ia r.nums.length ic]) rfl (by kernel_rfl) (by kernel_rfl) (fun _ _ _ h => h) ?_ hHeld ?_
 ·(intro w hSw; (try dsimp only at hSw); go_simp)
 try simp only [Act.put, List.setIfInBounds_toArray, List.set_cons_zero, List.set_cons_succ]
 refine wpAnyH_ready (rs := [4]) (by kernel_rfl) (by simp) (AllReadyH.cons (ops_drop rfl) (fun K hK => ?_) AllReadyH.nil)
 have HK := hide hK
 clear hK hHeld
 go_simp
 refine (unhide HD _ (unhide HRR)).mono ?_
 rintro e w4 ⟨rfl, b4⟩
 replace KB := hide (block_kept b4 (unhide KB))
 replace MB := hide ((unhide MB).below b4)
 replace HPP := hide ((unhide HPP).kept (b4.block _ (unhide HPP).lt) (keptX_below b4))
 replace HRR := hide ((unhide HRR).below b4)
 replace KO := hide ((unhide KO).trans (keptO_below b4))
 replace BN := hide ((unhide BN).trans (b4.mono (by omega)))
 have z4 := b4.size
 have HB4 := hide b4
 clear b4
 go_simp
 refine (unhide HK).out _ _ ⟨cells7 (unhide KB), look_page (unhide MB) hkn hl⟩ (fun hHeld => ?_)
 clear HK K
 try simp only [List.setIfInBounds_toArray, List.set_cons_zero, List.set_cons_succ]
 refine wpAnyH_ready (rs := [6]) (by kernel_rfl) (by simp) (AllReadyH.cons (ops_drop rfl) (fun K hK => ?_) AllReadyH.nil)
 have HK := hide hK
 clear hK hHeld
 obtain ⟨w5, hrun, hp5, g5, k5⟩ := page_put (t := 116) Tryz.underlying116 Tryz.underlying9 (unhide HPP) kd hkd ⟨_, _, _, _, rfl, unhide HRR⟩
 refine step_put rfl (.tmp 17) (.tmp 19) (.tmp 20) 116 rfl (.map (some p)) (.string kd) (.agg #[.slice na r.name.length nc, .int .i64 r.type, .int .i64 r.ttl, .int .i64 r.addr, .slice ta r.to.length tc, .slice xa r.text.length xc, .slice ia r.nums.length ic]) (by simp [Act.eval]) (by simp [Act.eval]) (by simp [Act.eval]) hrun ?_
 have m5 := (unhide MB).grown g5 (by simpa using hne)
 have kb5 := k5.2 _ _ (unhide KB) rfl
 replace KO := hide ((unhide KO).trans k5)
 replace BN := hide ((unhide BN).grown g5 (by omega) (fun k e => by simp at e; omega))
 clear hrun
 refine (unhide HK).out _ _ ⟨cells7 kb5, look_page m5 hkn hl⟩ (fun hHeld => ?_)
 clear HK K
 try simp only [List.setIfInBounds_toArray, List.set_cons_zero, List.set_cons_succ]
 refine wpAnyH_done (by kernel_rfl) ?_ _
 clear hHeld
 go_wp2_with fail
 go_end0
 refine ⟨⟨_, rfl⟩, hp5, m5, unhide KO, unhide BN, fun q hq hlt => ?_⟩
 have zz := (unhide BB).size
 rw [g5.block q (by omega) (by simpa using hq), (unhide HB4).block q (by omega), show W0.heap[q]? = w1.heap[q]? from unhide HD2 q]
 exact (unhide BB).block q hlt

set_option maxHeartbeats 1000000 in
set_option maxRecDepth 100000 in
theorem put_new {n0 b : Nat} {ps : List (ByteArray × Value)} {na : Option Addr} {nc : Nat} {ta : Option Addr} {tc : Nat} {xa : Option Addr} {xc : Nat} {ia : Option Addr} {ic : Nat} {r : Rec} {w : World}
  (h : HasR w (.slice na r.name.length nc) (.slice ta r.to.length tc) (.slice xa r.text.length xc) (.slice ia r.nums.length ic) r) (hok : rrOk r = true)
  (hM : MapV w b ps) (hl : lookA (strOfNums (keyN r.name)) ps = none) (hb : n0 ≤ b) (hz : n0 ≤ w.heap.size) :
  Calls Tryz.prog 94 #[.map (some b), .agg #[.slice na r.name.length nc, .int .i64 r.type, .int .i64 r.ttl, .int .i64 r.addr, .slice ta r.to.length tc, .slice xa r.text.length xc, .slice ia r.nums.length ic]] w fun e w' => (∃ v, e = .returned v) ∧ ∃ p, w.heap.size ≤ p ∧ PageM w' p (putA (strOfNums (keyD r)) r []) ∧ MapV w' b (putA (strOfNums (keyN r.name)) (.map (some p)) ps) ∧ KeptO w w' ∧ Below n0 w w' ∧ (∀ q, q ≠ b → q < w.heap.size → w'.heap[q]? = w.heap[q]?) := by
 have MB := hide hM
 have HRR := hide h
 have zb := hM.lt
 clear hM
 have b0 := below_alloc (w := w) (.cells #[.slice na r.name.length nc, .int .i64 r.type, .int .i64 r.ttl, .int .i64 r.addr, .slice ta r.to.length tc, .slice xa r.text.length xc, .slice ia r.nums.length ic] 52)
 have KB := hide (heap_alloc_new w (.cells #[.slice na r.name.length nc, .int .i64 r.type, .int .i64 r.ttl, .int .i64 r.addr, .slice ta r.to.length tc, .slice xa r.text.length xc, .slice ia r.nums.length ic] 52))
 have hn := short_name (rrOk_parts hok).1
 have HN := hide (nameKey_has (h.name.below b0) hn.1 hn.2)
 have HD := hide (fun (w : World) (hh : HasR w (.slice na r.name.length nc) (.slice ta r.to.length tc) (.slice xa r.text.length xc) (.slice ia r.nums.length ic) r) => dataKey_has hh hok)
 have hkn := keyN_size hn
 have hkd := keyD_size hok
 obtain ⟨d0, d1, d2, d3, d4, d5, d6⟩ := cells7 (unhide KB)
 generalize hKN : strOfNums (keyN r.name) = kn at *
 generalize hKD : strOfNums (keyD r) = kd at *
 clear hKN hKD hn hok
 go_enter Tryz.func94, Tryz.ntmps94
 go_wp2_with fail
 generalize w.alloc (.cells #[.slice na r.name.length nc, .int .i64 r.type, .int .i64 r.ttl, .int .i64 r.addr, .slice ta r.to.length tc, .slice xa r.text.length xc, .slice ia r.nums.length ic] 52) = W at *
 refine (unhide HN).mono ?_
 rintro e w1 ⟨rfl, b1⟩
 replace KB := hide (block_kept b1 (unhide KB))
 have bb := below_next b0 b1
 clear b0 b1 d0 d1 d2 d3 d4 d5 d6 HN
 clear h
 replace MB := hide ((unhide MB).below bb)
 replace HRR := hide ((unhide HRR).below bb)
 have KO := hide (keptO_below bb)
 have BN := hide (bb.mono hz)
 have zw := bb.size
 have BB := hide bb
 clear bb
 have hlook := look_none (unhide MB) hkn hl
 have heql := run_eql_map_nil w1 116 9 52 none Tryz.underlying116
 simp only [Option.isNone_none] at heql
 obtain ⟨w2, hrun2, m2, g2⟩ := mapV_put (t := 79) Tryz.underlying79 Tryz.underlying9 ((unhide MB).below (below_alloc (.map #[] 0))) kn hkn (.map (some w1.heap.size))
 have hmk := run_makeMap (P := Tryz.prog) 116 w1
 go_wp2_with (first | (at_mapUpdate; refine list_put rfl (.tmp 12) (.tmp 13) (.tmp 14) 79 rfl (.map (some b)) (.string kn) (.map (some w1.heap.size)) (by simp [Act.eval]) (by simp [Act.eval]) (by simp [Act.eval]) hrun2 ?_))
 have ba := below_alloc (w := w1) (.map #[] 0)
 have za : (w1.alloc (.map #[] 0)).heap.size = w1.heap.size + 1 := World.size_alloc w1 _
 have ko2 := (keptO_below ba).trans (keptO_map g2 ((unhide MB).below ba))
 have hpg : PageM w2 w1.heap.size [] := ⟨[], (mapV_made w1).grown g2 (by simp; omega), .nil⟩
 replace KB := hide (ko2.2 _ _ (unhide KB) rfl)
 replace HRR := hide ((unhide HRR).keptX ko2.x)
 replace KO := hide ((unhide KO).trans ko2)
 have z2 := g2.size
 replace BN := hide ((unhide BN).trans (((ba.mono (by omega)).grown g2 (by omega) (fun k e => by simp at e; omega))))
 have hl2 : lookA kn (putA kn (.map (some w1.heap.size)) ps) = some (.map (some w1.heap.size)) := lookA_put
 have HPP := hide hpg
 replace MB := hide m2
 have G2 := hide g2
 have hne : w1.heap.size ≠ b := by omega
 have hp : n0 ≤ w1.heap.size := by omega
 have ZA := hide za
 have BA := hide ba
 clear hlook heql hmk hrun2 m2 g2 hl ba ko2 hpg za
 have hz0 := hz
 replace hz : n0 ≤ w2.heap.size := by have := unhide ZA; omega
 rename lookA kn (putA kn (.map (some w1.heap.size)) ps) = some (.map (some w1.heap.size)) => hl
 have hsz : w1.heap.size ≤ w2.heap.size := by have := unhide ZA; omega
 generalize hp0 : w1.heap.size = p at *
 have bd := below_drew (w := w2)
 replace KB := hide (block_kept bd (unhide KB))
 replace MB := hide ((unhide MB).below bd)
 replace HPP := hide ((unhide HPP).kept (bd.block _ (unhide HPP).lt) (keptX_below bd))
 replace HRR := hide ((unhide HRR).below bd)
 replace KO := hide ((unhide KO).trans (keptO_below bd))
 replace BN := hide ((unhide BN).trans (bd.mono hz))
 have zd := bd.size
 clear bd
 refine wp_region_held_drew (S := (fun w' => (w'.cell? ⟨w.heap.size, 0, none⟩ = some (.slice na r.name.length nc) ∧ w'.cell? ⟨w.heap.size, 1, none⟩ = some (.int .i64 r.type) ∧ w'.cell? ⟨w.heap.size, 2, none⟩ = some (.int .i64 r.ttl) ∧ w'.cell? ⟨w.heap.size, 3, none⟩ = some (.int .i64 r.addr) ∧ w'.cell? ⟨w.heap.size, 4, none⟩ = some (.slice ta r.to.length tc) ∧ w'.cell? ⟨w.heap.size, 5, none⟩ = some (.slice xa r.text.length xc) ∧ w'.cell? ⟨w.heap.size, 6, none⟩ = some (.slice ia r.nums.length ic)) ∧ (Instr.lookup 79 (.map (some b)) (.string kn) false).run Tryz.prog w' = .ok (.map (some p)) w')) (by kernel_rfl) ⟨cells7 (unhide KB), look_page (unhide MB) hkn hl⟩ (fun hHeld => ?_)
 show wpAnyH _ _ _ _ _ 7 #[false, false, false, false, false, false, false] _ _
 have HD2 : Hid (∀ q : Nat, w2.drew.heap[q]? = w2.heap[q]?) := fun _ => rfl
 generalize w2.drew = W0 at *
 refine tkF (.map (some b)) rfl (by kernel_rfl) (by kernel_rfl) (fun _ _ _ h => h) ?_ hHeld ?_; (· (intro w hSw; (try dsimp only at hSw); go_simp)); simp only [Act.put, setF, List.setIfInBounds_toArray, List.set_cons_zero, List.set_cons_succ]
 refine tkF (.string kn) rfl (by kernel_rfl) (by kernel_rfl) (fun _ _ _ h => h) ?_ hHeld ?_; (· (intro w hSw; (try dsimp only at hSw); go_simp)); simp only [Act.put, setF, List.setIfInBounds_toArray, List.set_cons_zero, List.set_cons_succ]
 refine tkF (.map (some p)) rfl (by kernel_rfl) (by kernel_rfl) (fun _ _ _ h => h) ?_ hHeld ?_; (· (intro w hSw; (try dsimp only at hSw); go_simp)); simp only [Act.put, setF, List.setIfInBounds_toArray, List.set_cons_zero, List.set_cons_succ]
 refine tkF (.agg #[.slice na r.name.length nc, .int .i64 r.type, .int .i64 r.ttl, .int .i64 r.addr, .slice ta r.to.length tc, .slice xa r.text.length xc, .slice ia r.nums.length ic]) rfl (by kernel_rfl) (by kernel_rfl) (fun _ _ _ h => h) ?_ hHeld ?_; (· (intro w hSw; (try dsimp only at hSw); go_simp)); simp only [Act.put, setF, List.setIfInBounds_toArray, List.set_cons_zero, List.set_cons_succ]
 refine tkI 5 (.agg #[.slice na r.name.length nc, .int .i64 r.type, .int .i64 r.ttl, .int .i64 r.addr, .slice ta r.to.length tc, .slice xa r.text.length xc, .slice ia r.nums.length ic]) rfl (by kernel_rfl) (by kernel_rfl) (fun _ _ _ h => h) ?_ hHeld ?_
 ·(intro w hSw; (try dsimp only at hSw); go_simp)
 try simp only [Act.put, List.setIfInBounds_toArray, List.set_cons_zero, List.set_cons_succ]
 refine wpAnyH_ready (rs := [4]) (by kernel_rfl) (by simp) (AllReadyH.cons (ops_drop rfl) (fun K hK => ?_) AllReadyH.nil)
 have HK := hide hK
 clear hK hHeld
 go_simp
 refine (unhide HD _ (unhide HRR)).mono ?_
 rintro e w4 ⟨rfl, b4⟩
 replace KB := hide (block_kept b4 (unhide KB))
 replace MB := hide ((unhide MB).below b4)
 replace HPP := hide ((unhide HPP).kept (b4.block _ (unhide HPP).lt) (keptX_below b4))
 replace HRR := hide ((unhide HRR).below b4)
 replace KO := hide ((unhide KO).trans (keptO_below b4))
 replace BN := hide ((unhide BN).trans (b4.mono (by omega)))
 have z4 := b4.size
 have HB4 := hide b4
 clear b4
 go_simp
 refine (unhide HK).out _ _ ⟨cells7 (unhide KB), look_page (unhide MB) hkn hl⟩ (fun hHeld => ?_)
 clear HK K
 try simp only [List.setIfInBounds_toArray, List.set_cons_zero, List.set_cons_succ]
 refine wpAnyH_ready (rs := [6]) (by kernel_rfl) (by simp) (AllReadyH.cons (ops_drop rfl) (fun K hK => ?_) AllReadyH.nil)
 have HK := hide hK
 clear hK hHeld
 obtain ⟨w5, hrun, hp5, g5, k5⟩ := page_put (t := 116) Tryz.underlying116 Tryz.underlying9 (unhide HPP) kd hkd ⟨_, _, _, _, rfl, unhide HRR⟩
 refine step_put rfl (.tmp 17) (.tmp 19) (.tmp 20) 116 rfl (.map (some p)) (.string kd) (.agg #[.slice na r.name.length nc, .int .i64 r.type, .int .i64 r.ttl, .int .i64 r.addr, .slice ta r.to.length tc, .slice xa r.text.length xc, .slice ia r.nums.length ic]) (by simp [Act.eval]) (by simp [Act.eval]) (by simp [Act.eval]) hrun ?_
 have m5 := (unhide MB).grown g5 (by simpa using hne)
 have kb5 := k5.2 _ _ (unhide KB) rfl
 replace KO := hide ((unhide KO).trans k5)
 replace BN := hide ((unhide BN).grown g5 (by omega) (fun k e => by simp at e; omega))
 clear hrun
 refine (unhide HK).out _ _ ⟨cells7 kb5, look_page m5 hkn hl⟩ (fun hHeld => ?_)
 clear HK K
 try simp only [List.setIfInBounds_toArray, List.set_cons_zero, List.set_cons_succ]
 refine wpAnyH_done (by kernel_rfl) ?_ _
 clear hHeld
 go_wp2_with fail
 go_end0
 refine ⟨⟨_, rfl⟩, p, by omega, hp5, m5, unhide KO, unhide BN, fun q hq hlt => ?_⟩
 rw [g5.block q (by omega) (by simp; omega), (unhide HB4).block q (by omega)]
 rw [show W0.heap[q]? = w2.heap[q]? from unhide HD2 q, (unhide G2).block q (by have := unhide ZA; omega) (by simpa using hq), (unhide BA).block q (by omega)]
 exact (unhide BB).block q hlt

theorem bookPut_has {n0 b : Nat} {B : Bk} {vn vt vx vi : Value} {r : Rec} {w : World} (hB : BookM n0 w b B) (h : HasR w vn vt vx vi r) (hok : rrOk r = true) (hz : n0 ≤ w.heap.size) :
  Calls Tryz.prog 94 #[.map (some b), .agg #[vn, .int .i64 r.type, .int .i64 r.ttl, .int .i64 r.addr, vt, vx, vi]] w fun e w' => (∃ v, e = .returned v) ∧ BookM n0 w' b (bkPut (strOfNums (keyN r.name)) (strOfNums (keyD r)) r B) ∧ KeptO w w' ∧ Below n0 w w' := by
 obtain ⟨na, nc, rfl, _⟩ := h.name.form
 obtain ⟨ta, tc, rfl, _⟩ := h.to.form
 obtain ⟨xa, xc, rfl, _⟩ := h.text.form
 obtain ⟨ia, ic, rfl, _⟩ := h.nums.form
 obtain ⟨h0, ps, h1, h2, h3⟩ := hB
 unfold bkPut
 rcases two_look (k := strOfNums (keyN r.name)) h2 with ⟨l1, l2⟩ | ⟨v, P, l1, l2, ⟨p, rfl, q1, q2, q3⟩, l4⟩
 ·rw [l2]
  refine (put_new h hok h1 l1 h0 hz).mono ?_
  rintro e w' ⟨he, p, hp, p1, p2, p3, p4, p5⟩
  have zb := h1.lt
  refine ⟨he, book_put h0 h1 h2 h3 p2 p1 (by omega) (by omega) (fun q hq _ e => ?_) p3.x (fun q _ q2 q3 => p5 q q2 q3), p3, p4⟩
  obtain ⟨c, _, _, p', e1, _, _, e2⟩ := h2.left q hq
  rw [e] at e1
  cases e1
  have := e2.lt
  omega
 ·rw [l2]
  refine (put_there h hok h1 l1 q3 q2 q1 hz).mono ?_
  rintro e w' ⟨he, p1, p2, p3, p4, p5⟩
  exact ⟨he, book_put h0 h1 h2 h3 (by rw [putA_same l1]; exact p2) p1 q1 q2 (other_page h3 l4) p3.x (fun q e1 _ q3 => p5 q e1 q3), p3, p4⟩
end Go.Proofs.YtmlcmkoefelolaaGreat

namespace Go.Proofs.YtmlcmkoefelolaaGreat
open Go.RowKit
set_option linter.unusedVariables false

/-- The book of these records. -/
def bookIn (rs : List Rec) : Bk := rs.foldl (fun B r => bkPut (strOfNums (keyN r.name)) (strOfNums (keyD r)) r B) []
theorem bookIn_snoc (rs : List Rec) (r : Rec) : bookIn (rs ++ [r]) = bkPut (strOfNums (keyN r.name)) (strOfNums (keyD r)) r (bookIn rs) := by simp [bookIn]

set_option maxHeartbeats 2000000 in
set_option maxRecDepth 100000 in
theorem bookOf_has {vo vr : Value} {o : List (List Int)} {rs : List Rec} {w : World} (h : HasZ w vo vr o rs) (hok : ∀ i, i < rs.length → rrOk (rs.getD i recZ) = true) (hlen : rs.length ≤ 1000) :
  Calls Tryz.prog 51 #[.agg #[vo, vr]] w fun e w' => e = .returned (.map (some (w.heap.size + 1))) ∧ BookM w.heap.size w' (w.heap.size + 1) (bookIn rs) ∧ Below w.heap.size w w' := by
 obtain ⟨oa, oc, rfl, _⟩ := h.name.form
 obtain ⟨ra, rc, rfl, _⟩ := h.recs.form
 have b0 := below_alloc (w := w) (.cells #[.slice oa o.length oc, .slice ra rs.length rc] 34)
 have k0 := heap_alloc_new w (.cells #[.slice oa o.length oc, .slice ra rs.length rc] 34)
 have z0 : (w.alloc (.cells #[.slice oa o.length oc, .slice ra rs.length rc] 34)).heap.size = w.heap.size + 1 := World.size_alloc w _
 have hmk := run_makeMap (P := Tryz.prog) 79 (w.alloc (.cells #[.slice oa o.length oc, .slice ra rs.length rc] 34))
 have b1 := below_alloc (w := w.alloc (.cells #[.slice oa o.length oc, .slice ra rs.length rc] 34)) (.map #[] 0)
 have BM := hide (bookM_made (n0 := w.heap.size) (w.alloc (.cells #[.slice oa o.length oc, .slice ra rs.length rc] 34)) (by omega))
 obtain ⟨c0, c1⟩ := cells2 (block_kept b1 k0)
 have bb := below_next b0 b1
 have HT := hide h.recs
 have HOK := hide hok
 clear h hok b0 b1 k0
 generalize hm : rs.length = m at *
 have HM := hide hm
 go_enter Tryz.func51, Tryz.ntmps51
 go_wp2_with fail
 clear c0 c1 hmk hm
 rw [z0] at BM
 clear z0
 generalize (w.alloc (.cells #[.slice oa o.length oc, .slice ra m rc] 34)).alloc (.map #[] 0) = W at *
 go_loopw [10] (fun i wr => ∃ k : Nat, k ≤ m ∧ i = .int .i64 k ∧ BookM w.heap.size wr (w.heap.size + 1) (bookIn (rs.take k)) ∧ Below w.heap.size w wr) (fun i _ => m - (intOf i).toNat)
 case atStart => exact ⟨0, Nat.zero_le _, rfl, by simpa [bookIn] using unhide BM, bb⟩
 case round =>
  obtain ⟨k, hk, rfl, hBk, hbl⟩ := hrel
  by_cases hlt : k < m
  ·obtain ⟨b, off, na, nc, ta, tc, xa, xc, ia, ic, rfl, hb1, hc, hR⟩ := (unhide HT).here (k := k) (by rw [unhide HM]; exact hlt)
   have hsk := unhide HOK k hlt
   have htk := hide (show rs.take (k + 1) = rs.take k ++ [rs.getD k recZ] by rw [List.take_succ_eq_append_getElem (by rw [unhide HM]; exact hlt)]; simp [show k < rs.length by rw [unhide HM]; exact hlt])
   obtain ⟨c0, c1, c2, c3, c4, c5, c6⟩ := range7 (range_below hc hb1 hbl)
   generalize rs.getD k recZ = r at *
   have ba := below_alloc (w := wr) (.cells #[.slice na r.name.length nc, .int .i64 r.type, .int .i64 r.ttl, .int .i64 r.addr, .slice ta r.to.length tc, .slice xa r.text.length xc, .slice ia r.nums.length ic] 52)
   obtain ⟨d0, d1, d2, d3, d4, d5, d6⟩ := cells7 (heap_alloc_new wr (.cells #[.slice na r.name.length nc, .int .i64 r.type, .int .i64 r.ttl, .int .i64 r.addr, .slice ta r.to.length tc, .slice xa r.text.length xc, .slice ia r.nums.length ic] 52))
   have HP := hide (bookPut_has (hBk.below ba) ((hR.below hbl).below ba) hsk (Nat.le_trans hbl.size ba.size))
   have HB := hide (below_next hbl ba)
   clear ba hc hR hsk hbl hBk
   go_wp2_with fail
   refine (unhide HP).mono ?_
   rintro e w3 ⟨⟨v3, rfl⟩, hB3, hK3, hb3⟩
   have hb4 := (unhide HB).trans hb3
   clear HP HB d0 d1 d2 d3 d4 d5 d6 c0 c1 c2 c3 c4 c5 c6 hb3 hK3
   go_wp2
   go_roundw
   case rel => exact ⟨k + 1, by omega, by go_num, by rw [unhide htk, bookIn_snoc]; exact hB3, hb4⟩
   case measure => simp [intOf]; omega
  ·obtain rfl : k = m := by omega
   have hall : rs.take k = rs := List.take_of_length_le (by rw [unhide HM]; exact Nat.le_refl _)
   rw [hall] at hBk
   clear hall
   go_wp2
   go_ret
   exact ⟨rfl, hBk, hbl⟩
end Go.Proofs.YtmlcmkoefelolaaGreat
