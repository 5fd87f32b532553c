/-
  A region that draws its order, one way through it: what only looks is taken in the order of its number, whether its guard wants it or not. The walk of laws.FnReverse.
-/
import Derived.Test.YtkmjghecjlgjpaaDoorFnReverseG02
import Derived.Deep.RegionHeld3
import Derived.Test.YtkmjghecjlgjpaaDoorFnReverseG10
import Derived.Test.YtkmjghecjlgjpaaDoorFnReverseG12
import Derived.Test.YtkmjghecjlgjpaaDoorFnReverseG14
import Derived.Test.YtkmjghecjlgjpaaDoorFnReverseG19
import Derived.Test.YtkmjghecjlgjpaaDoorFnReverseG22
import Derived.Test.YtkmjghecjlgjpaaDoorFnReverseG28
import Derived.Test.YtkmjghecjlgjpaaDoorFnReverseG29
import Derived.Test.YtkmjghecjlgjpaaDoorFnReverseG26
import Derived.Test.YtkmjghecjlgjpaaDoorFnReverseG21
namespace Go.Proofs.YtkmjghecjlgjpaaDoor
open Go.RowKit
set_option linter.unusedVariables false

def nextF : List Bool → Nat
  | true :: l => nextF l + 1
  | _ => 0
def setF : List Bool → List Bool
  | true :: l => true :: setF l
  | false :: l => true :: l
  | [] => []
def dropF {α : Type} : List Bool → List α → List α
  | true :: l, _ :: m => dropF l m
  | _, m => m
theorem setF_eq : ∀ l : List Bool, l.set (nextF l) true = setF l
  | [] => rfl
  | false :: _ => rfl
  | true :: l => by simp [nextF, setF, setF_eq l]
theorem dropF_get {α : Type} {o : α} {r : List α} : ∀ (l : List Bool) (m : List α), dropF l m = o :: r → m[nextF l]? = some o
  | [], m, h => by simp only [dropF] at h; subst h; rfl
  | false :: _, m, h => by simp only [dropF] at h; subst h; rfl
  | true :: l, [], h => by simp only [dropF] at h; cases h
  | true :: l, _ :: m, h => by simp only [dropF] at h; simpa [nextF] using dropF_get l m h
def callsF : Op → Bool
  | .call _ => true
  | _ => false

section
variable {P : Program} {ops : Array Oper} {Q : Exit → Act → World → Prop} {md : Region.Mode} {S : World → Prop}
theorem ops_next {l : List Bool} {oi : Oper} {rest : List Oper} (hi : dropF l ops.toList = oi :: rest) : ops[nextF l]? = some oi := by
  have := dropF_get l ops.toList hi
  rwa [Array.getElem?_toList] at this
theorem ops_drop {i : Nat} {oi : Oper} {rest : List Oper} (hi : ops.toList.drop i = oi :: rest) : ops[i]? = some oi := by
  rw [← Array.getElem?_toList, ← List.head?_drop, hi]
  rfl
theorem listed_next (l : List Bool) : l.toArray.setIfInBounds (nextF l) true = (setF l).toArray := by
  rw [List.setIfInBounds_toArray, setF_eq]
/-- The next one is wanted and only looks. -/
theorem tkF (v : Value) {oi : Oper} {rest : List Oper} {fuel : Nat} {l : List Bool} {a : Act} {w : World} (hi : dropF l ops.toList = oi :: rest)
    (hk : (!callsF oi.op && Region.noSelect ops && Region.free md ops l.toArray (nextF l) && (Region.ready md ops l.toArray).contains (nextF l)) = true)
    (hb : Region.wanted oi (yielded ops a.tmps) = true) (hQ : ∀ c a w, Q (.panic c) (a.put oi.dst v) w → Q (.panic c) a w)
    (hy : ∀ w, S w → (execOp a.eval oi).run P w = .ok (.value v) w) (hS : S w)
    (h : wpAnyH P md ops Q S fuel (setF l).toArray (a.put oi.dst v) w) : wpAnyH P md ops Q S (fuel + 1) l.toArray a w := by
  simp only [Bool.and_eq_true] at hk
  refine wpAnyH_take (ops_next hi) hk.1.1.2 hk.1.2 hk.2 hQ (Or.inl ⟨hb, hy⟩) hS ?_
  rw [listed_next]
  exact h
/-- The next one is not wanted. -/
theorem skF {oi : Oper} {rest : List Oper} {fuel : Nat} {l : List Bool} {a : Act} {w : World} (hi : dropF l ops.toList = oi :: rest)
    (hk : (Region.noSelect ops && Region.free md ops l.toArray (nextF l) && (Region.ready md ops l.toArray).contains (nextF l)) = true)
    (hb : Region.wanted oi (yielded ops a.tmps) = false) (hQ : ∀ c a w, Q (.panic c) (a.put oi.dst undef) w → Q (.panic c) a w) (hS : S w)
    (h : wpAnyH P md ops Q S fuel (setF l).toArray (a.put oi.dst undef) w) : wpAnyH P md ops Q S (fuel + 1) l.toArray a w := by
  simp only [Bool.and_eq_true] at hk
  refine wpAnyH_take (ops_next hi) hk.1.1 hk.1.2 hk.2 hQ (Or.inr ⟨hb, rfl⟩) hS ?_
  rw [listed_next]
  exact h
/-- The next one alone may come up: it is run, and S shown anew. -/
theorem runF {oi : Oper} {rest : List Oper} {fuel : Nat} {l : List Bool} {a : Act} {w : World} (hi : dropF l ops.toList = oi :: rest)
    (hk : (Region.ready md ops l.toArray == [nextF l]) = true) (hb : Region.wanted oi (yielded ops a.tmps) = true)
    (h : ∀ K' : Act → World → Prop, Shut (∀ a w, S w → (S w → wpAnyH P md ops Q S fuel (setF l).toArray a w) → K' a w) → Oper.wp P oi a w K' Q) :
    wpAnyH P md ops Q S (fuel + 1) l.toArray a w := by
  rw [beq_iff_eq] at hk
  refine wpAnyH_ready hk (by simp) (AllReadyH.cons (ops_next hi) (fun K hK => ?_) AllReadyH.nil)
  rw [if_pos hb]
  rw [listed_next] at hK
  exact h K hK
/-- Number i is wanted and only looks. -/
theorem tkI (i : Nat) (v : Value) {oi : Oper} {rest : List Oper} {fuel : Nat} {listed : Array Bool} {a : Act} {w : World} (hi : ops.toList.drop i = oi :: rest)
    (hk : (Region.noSelect ops && Region.free md ops listed i && (Region.ready md ops listed).contains i) = true)
    (hb : Region.wanted oi (yielded ops a.tmps) = true) (hQ : ∀ c a w, Q (.panic c) (a.put oi.dst v) w → Q (.panic c) a w)
    (hy : ∀ w, S w → (execOp a.eval oi).run P w = .ok (.value v) w) (hS : S w)
    (h : wpAnyH P md ops Q S fuel (listed.setIfInBounds i true) (a.put oi.dst v) w) : wpAnyH P md ops Q S (fuel + 1) listed a w := by
  simp only [Bool.and_eq_true] at hk
  exact wpAnyH_take (ops_drop hi) hk.1.1 hk.1.2 hk.2 hQ (Or.inl ⟨hb, hy⟩) hS h
/-- Number i alone may come up: it is run, and S shown anew. -/
theorem runI (i : Nat) {oi : Oper} {rest : List Oper} {fuel : Nat} {listed : Array Bool} {a : Act} {w : World} (hi : ops.toList.drop i = oi :: rest)
    (hk : (Region.ready md ops listed == [i]) = true) (hb : Region.wanted oi (yielded ops a.tmps) = true)
    (h : ∀ K' : Act → World → Prop, Shut (∀ a w, S w → (S w → wpAnyH P md ops Q S fuel (listed.setIfInBounds i true) a w) → K' a w) → Oper.wp P oi a w K' Q) :
    wpAnyH P md ops Q S (fuel + 1) listed a w := by
  rw [beq_iff_eq] at hk
  refine wpAnyH_ready hk (by simp) (AllReadyH.cons (ops_drop hi) (fun K hK => ?_) AllReadyH.nil)
  rw [if_pos hb]
  exact h K hK
/-- The beginning. -/
theorem startF (n : Nat) {id : Nat} {a : Act} {w : World} (hm : P.follows .mixedOrders = true) (hn : ops.size = n) (hS : S w.drew)
    (h : S w.drew → wpAnyH P .any ops Q S n (List.replicate n false).toArray a w.drew) : (Code.region id ops true).wp P Q a w := by
  refine wp_region_held_drew hm hS (fun hH => ?_)
  have := h hH
  rw [← hn] at this
  rwa [← List.toArray_replicate]
end
end Go.Proofs.YtkmjghecjlgjpaaDoor

namespace Go.Proofs.YtkmjghecjlgjpaaDoor
open Go.RowKit
set_option linter.unusedVariables false
set_option linter.unusedSimpArgs false

theorem read_ia : (nameRead (numsOf ⟨#[105, 110, 45, 97, 100, 100, 114, 46, 97, 114, 112, 97, 46]⟩)).1 = [inAddr, arpa] := by decide +kernel
set_option maxHeartbeats 2000000 in
set_option maxRecDepth 100000 in
theorem lawReverses (a : Option Addr) (cap : Nat) (l : List Int) (w : World) (hL : Lies w a l) (hb : ∀ k, 0 ≤ l.getD k 0 ∧ l.getD k 0 ≤ 255) (hm : l.length ≤ maxLen) (ht : Pow10 w) :
    Calls Tryd.prog 3 #[.slice a l.length cap] w fun e w' => e = .returned (.bool true) ∧ Below w.heap.size w w' := by
  have IM := hide (fun (n : Int) (w' : World) (hb : Below w.heap.size w w') => implReverse_own n (ht.below hb))
  have DD := hide (drawReverse_any (cap := cap) l hL rfl hb hm)
  clear hL hb ht
  go_enter Tryd.func3, Tryd.ntmps3
  go_wp2_with fail
  refine (unhide DD).mono ?_
  rintro e w1 ⟨n, rfl, b1⟩
  clear DD
  go_wp2_with fail
  refine (unhide IM n w1 b1).mono ?_
  rintro e w2 ⟨v2, rfl, o2, b2⟩
  have bb2 := below_next b1 b2
  obtain ⟨xa, xc, rfl, _⟩ := o2.hasL.form
  clear b1 b2
  cases hok : revOk n with
  | false =>
    have hn : n < 0 ∨ 4294967296 ≤ n := by unfold revOk at hok; simp at hok; omega
    rw [show revOf n = [] by unfold revOf; rw [hok]; rfl] at o2 ⊢
    simp only [List.length_nil]
    have b3 := below_alloc (w := w2) (.cells #[.slice xa 0 xc] 26)
    have c3 := block_one (heap_alloc_new w2 (.cells #[.slice xa 0 xc] 26))
    have bb3 := below_next bb2 b3
    clear o2 b3 bb2 hok
    rcases hn with hn | hn
    · go_wp2_with fail
      refine (names_any _).mono ?_
      rintro e w4 ⟨rfl, b4⟩
      go_wp2_with fail
      go_ret
      exact ⟨rfl, below_next bb3 b4⟩
    · have hb1 : ¬ n < 0 := by omega
      go_wp2_with fail
      refine (names_any _).mono ?_
      rintro e w4 ⟨rfl, b4⟩
      go_wp2_with fail
      go_ret
      exact ⟨rfl, below_next bb3 b4⟩
  | true =>
    have hn : 0 ≤ n ∧ n ≤ 4294967295 := by unfold revOk at hok; simpa using hok
    have hb1 : ¬ n < 0 := by omega
    have hb2 : ¬ 4294967296 ≤ n := by omega
    have hx := xor_one n hn.1 hn.2
    have hRO : revOf n = revN n := by unfold revOf; rw [hok]; rfl
    have NOK := hide (revN_ok n hn.1 hn.2)
    have UND := hide (revN_under n hn.1 hn.2)
    have LEN := hide (show (revN n).length = 6 from rfl)
    generalize hm2 : bits .xor .i64 n 1 = m at *
    have NE := hide (revN_ne n m hn.1 hn.2 hx.1 hx.2.1 hx.2.2)
    have MOK := hide (revN_ok m hx.1 hx.2.1)
    have hmok : revOk m = true := by unfold revOk; rw [decide_eq_true hx.1, decide_eq_true hx.2.1]; rfl
    have IMM := hide (fun (w' : World) (hb : Below w.heap.size w w') => unhide IM m w' hb)
    rw [hmok, show revOf m = revN m by unfold revOf; rw [hmok]; rfl] at IMM
    have SM := hide (show nameText (revN n) ≠ nameText (revN m) from fun e => unhide NE ((nameText_inj (unhide NOK) (unhide MOK)).1 e))
    rw [hRO] at o2 ⊢
    rw [unhide LEN]
    have O2 := hide o2.hasL
    have HLM := hide (show (revN m).length = 6 from rfl)
    generalize revN n = R at *
    generalize revN m = Q at *
    rw [unhide LEN] at O2
    have b3 := below_alloc (w := w2) (.cells #[.slice xa 6 xc] 26)
    have K3 := hide (heap_alloc_new w2 (.cells #[.slice xa 6 xc] 26))
    have bb3 := below_next bb2 b3
    have O3 := hide ((unhide O2).below b3)
    clear o2 b3 bb2 O2 hok hRO hmok hx hn NE IM
    go_wp2_with fail
    generalize w2.alloc (.cells #[.slice xa 6 xc] 26) = w3 at *
    refine (unhide IMM w3 bb3).mono ?_
    rintro e w4 ⟨v4, rfl, o4, b4⟩
    obtain ⟨ya, yc, rfl, _⟩ := o4.hasL.form
    have O4 := hide o4.hasL
    rw [unhide HLM] at O4 ⊢
    have bb4 := below_next bb3 b4
    have K4 := hide (block_kept b4 (unhide K3))
    have O34 := hide ((unhide O3).below b4)
    have b5 := below_next (below_alloc (w := w4) (.cells #[.slice ya 6 yc] 26)) below_drew
    have KY := hide (block_kept (below_drew (w := w4.alloc (.cells #[.slice ya 6 yc] 26))) (heap_alloc_new w4 (.cells #[.slice ya 6 yc] 26)))
    have K5 := hide (block_kept b5 (unhide K4))
    have O5 := hide ((unhide O34).below b5)
    have Y5 := hide ((unhide O4).below b5)
    have bb5 := below_next bb4 b5
    clear o4 b4 b5 bb3 bb4 K3 K4 O3 O34 O4 IMM
    go_wp2_with fail
    refine startF 23 (S := fun w' => w'.cell? ⟨w2.heap.size, 0, none⟩ = some (.slice xa 6 xc) ∧ w'.cell? ⟨w4.heap.size, 0, none⟩ = some (.slice ya 6 yc)) (by kernel_rfl) rfl ⟨block_one (unhide K5), block_one (unhide KY)⟩ (fun hHeld => ?_)
    simp only [List.replicate]
    generalize (w4.alloc (.cells #[.slice ya 6 yc] 26)).drew = wd at *
    refine tkI 0 ?_ rfl (by kernel_rfl) (by kernel_rfl) (fun _ _ _ h => h) ?_ hHeld ?_; rotate_left; (· (intro w hSw; (try dsimp only at hSw); go_simp <;> with_reducible rfl)); simp only [Act.put, List.setIfInBounds_toArray, List.set_cons_zero, List.set_cons_succ]
    refine tkI 1 ?_ rfl (by kernel_rfl) (by kernel_rfl) (fun _ _ _ h => h) ?_ hHeld ?_; rotate_left; (· (intro w hSw; (try dsimp only at hSw); go_simp <;> with_reducible rfl)); simp only [Act.put, List.setIfInBounds_toArray, List.set_cons_zero, List.set_cons_succ]
    refine tkI 2 ?_ rfl (by kernel_rfl) (by kernel_rfl) (fun _ _ _ h => h) ?_ hHeld ?_; rotate_left; (· (intro w hSw; (try dsimp only at hSw); go_simp <;> with_reducible rfl)); simp only [Act.put, List.setIfInBounds_toArray, List.set_cons_zero, List.set_cons_succ]
    refine runI 3 rfl (by kernel_rfl) (by kernel_rfl) (fun K hK => ?_)
    have HK := hide hK
    clear hK hHeld
    go_simp
    refine (implNameOk_has (unhide O5)).mono ?_
    rw [unhide NOK]
    rintro e w6 ⟨rfl, b6⟩
    replace K5 := hide (block_kept b6 (unhide K5))
    replace KY := hide (block_kept b6 (unhide KY))
    replace O5 := hide ((unhide O5).below b6)
    replace Y5 := hide ((unhide Y5).below b6)
    replace bb5 := below_next bb5 b6
    clear b6
    go_simp
    refine (unhide HK).out _ _ ⟨block_one (unhide K5), block_one (unhide KY)⟩ (fun hHeld => ?_)
    clear HK K
    simp only [Act.put, List.setIfInBounds_toArray, List.set_cons_zero, List.set_cons_succ]
    refine tkI 4 ?_ rfl (by kernel_rfl) (by kernel_rfl) (fun _ _ _ h => h) ?_ hHeld ?_; rotate_left; (· (intro w hSw; (try dsimp only at hSw); go_simp <;> with_reducible rfl)); simp only [Act.put, List.setIfInBounds_toArray, List.set_cons_zero, List.set_cons_succ]
    refine tkI 5 ?_ rfl (by kernel_rfl) (by kernel_rfl) (fun _ _ _ h => h) ?_ hHeld ?_; rotate_left; (· (intro w hSw; (try dsimp only at hSw); go_simp <;> with_reducible rfl)); simp only [Act.put, List.setIfInBounds_toArray, List.set_cons_zero, List.set_cons_succ]
    refine tkI 6 ?_ rfl (by kernel_rfl) (by kernel_rfl) (fun _ _ _ h => h) ?_ hHeld ?_; rotate_left; (· (intro w hSw; (try dsimp only at hSw); go_simp <;> with_reducible rfl)); simp only [Act.put, List.setIfInBounds_toArray, List.set_cons_zero, List.set_cons_succ]
    refine tkI 7 ?_ rfl (by kernel_rfl) (by kernel_rfl) (fun _ _ _ h => h) ?_ hHeld ?_; rotate_left; (· (intro w hSw; (try dsimp only at hSw); go_simp <;> with_reducible rfl)); simp only [Act.put, List.setIfInBounds_toArray, List.set_cons_zero, List.set_cons_succ]
    refine tkI 8 ?_ rfl (by kernel_rfl) (by kernel_rfl) (fun _ _ _ h => h) ?_ hHeld ?_; rotate_left; (· (intro w hSw; (try dsimp only at hSw); go_simp <;> with_reducible rfl)); simp only [Act.put, List.setIfInBounds_toArray, List.set_cons_zero, List.set_cons_succ]
    refine tkI 9 ?_ rfl (by kernel_rfl) (by kernel_rfl) (fun _ _ _ h => h) ?_ hHeld ?_; rotate_left; (· (intro w hSw; (try dsimp only at hSw); go_simp <;> with_reducible rfl)); simp only [Act.put, List.setIfInBounds_toArray, List.set_cons_zero, List.set_cons_succ]
    refine tkI 10 ?_ rfl (by kernel_rfl) (by kernel_rfl) (fun _ _ _ h => h) ?_ hHeld ?_; rotate_left; (· (intro w hSw; (try dsimp only at hSw); go_simp <;> with_reducible rfl)); simp only [Act.put, List.setIfInBounds_toArray, List.set_cons_zero, List.set_cons_succ]
    refine tkI 11 ?_ rfl (by kernel_rfl) (by kernel_rfl) (fun _ _ _ h => h) ?_ hHeld ?_; rotate_left; (· (intro w hSw; (try dsimp only at hSw); go_simp <;> with_reducible rfl)); simp only [Act.put, List.setIfInBounds_toArray, List.set_cons_zero, List.set_cons_succ]
    refine tkI 12 ?_ rfl (by kernel_rfl) (by kernel_rfl) (fun _ _ _ h => h) ?_ hHeld ?_; rotate_left; (· (intro w hSw; (try dsimp only at hSw); go_simp <;> with_reducible rfl)); simp only [Act.put, List.setIfInBounds_toArray, List.set_cons_zero, List.set_cons_succ]
    refine runI 13 rfl (by kernel_rfl) (by kernel_rfl) (fun K hK => ?_)
    have HK := hide hK
    clear hK hHeld
    go_simp
    refine (name_any ⟨#[105, 110, 45, 97, 100, 100, 114, 46, 97, 114, 112, 97, 46]⟩ _ (by decide)).mono ?_
    rw [read_ia]
    rintro e w7 ⟨v7, rfl, o7, b7⟩
    replace K5 := hide (block_kept b7 (unhide K5))
    replace KY := hide (block_kept b7 (unhide KY))
    replace O5 := hide ((unhide O5).below b7)
    replace Y5 := hide ((unhide Y5).below b7)
    replace bb5 := below_next bb5 b7
    have O7 := hide o7.hasL
    clear o7
    clear b7
    go_simp
    refine (unhide HK).out _ _ ⟨block_one (unhide K5), block_one (unhide KY)⟩ (fun hHeld => ?_)
    clear HK K
    simp only [Act.put, List.setIfInBounds_toArray, List.set_cons_zero, List.set_cons_succ]
    refine runI 14 rfl (by kernel_rfl) (by kernel_rfl) (fun K hK => ?_)
    have HK := hide hK
    clear hK hHeld
    go_simp
    refine (implUnder_has (unhide O5) (unhide O7)).mono ?_
    rw [unhide UND]
    rintro e w8 ⟨rfl, b8⟩
    replace K5 := hide (block_kept b8 (unhide K5))
    replace KY := hide (block_kept b8 (unhide KY))
    replace O5 := hide ((unhide O5).below b8)
    replace Y5 := hide ((unhide Y5).below b8)
    replace bb5 := below_next bb5 b8
    clear O7
    clear b8
    go_simp
    refine (unhide HK).out _ _ ⟨block_one (unhide K5), block_one (unhide KY)⟩ (fun hHeld => ?_)
    clear HK K
    simp only [Act.put, List.setIfInBounds_toArray, List.set_cons_zero, List.set_cons_succ]
    refine tkI 15 ?_ rfl (by kernel_rfl) (by kernel_rfl) (fun _ _ _ h => h) ?_ hHeld ?_; rotate_left; (· (intro w hSw; (try dsimp only at hSw); go_simp <;> with_reducible rfl)); simp only [Act.put, List.setIfInBounds_toArray, List.set_cons_zero, List.set_cons_succ]
    refine tkI 16 ?_ rfl (by kernel_rfl) (by kernel_rfl) (fun _ _ _ h => h) ?_ hHeld ?_; rotate_left; (· (intro w hSw; (try dsimp only at hSw); go_simp <;> with_reducible rfl)); simp only [Act.put, List.setIfInBounds_toArray, List.set_cons_zero, List.set_cons_succ]
    refine tkI 17 ?_ rfl (by kernel_rfl) (by kernel_rfl) (fun _ _ _ h => h) ?_ hHeld ?_; rotate_left; (· (intro w hSw; (try dsimp only at hSw); go_simp <;> with_reducible rfl)); simp only [Act.put, List.setIfInBounds_toArray, List.set_cons_zero, List.set_cons_succ]
    refine tkI 18 ?_ rfl (by kernel_rfl) (by kernel_rfl) (fun _ _ _ h => h) ?_ hHeld ?_; rotate_left; (· (intro w hSw; (try dsimp only at hSw); go_simp <;> with_reducible rfl)); simp only [Act.put, List.setIfInBounds_toArray, List.set_cons_zero, List.set_cons_succ]
    refine runI 19 rfl (by kernel_rfl) (by kernel_rfl) (fun K hK => ?_)
    have HK := hide hK
    clear hK hHeld
    go_simp
    refine (sameName_has (unhide O5) (unhide Y5)).mono ?_
    rw [decide_eq_false (unhide SM)]
    rintro e w9 ⟨rfl, b9⟩
    replace K5 := hide (block_kept b9 (unhide K5))
    replace KY := hide (block_kept b9 (unhide KY))
    replace O5 := hide ((unhide O5).below b9)
    replace Y5 := hide ((unhide Y5).below b9)
    replace bb5 := below_next bb5 b9
    clear b9
    go_simp
    refine (unhide HK).out _ _ ⟨block_one (unhide K5), block_one (unhide KY)⟩ (fun hHeld => ?_)
    clear HK K
    simp only [Act.put, List.setIfInBounds_toArray, List.set_cons_zero, List.set_cons_succ]
    refine tkI 20 ?_ rfl (by kernel_rfl) (by kernel_rfl) (fun _ _ _ h => h) ?_ hHeld ?_; rotate_left; (· (intro w hSw; (try dsimp only at hSw); go_simp <;> with_reducible rfl)); simp only [Act.put, List.setIfInBounds_toArray, List.set_cons_zero, List.set_cons_succ]
    refine tkI 21 ?_ rfl (by kernel_rfl) (by kernel_rfl) (fun _ _ _ h => h) ?_ hHeld ?_; rotate_left; (· (intro w hSw; (try dsimp only at hSw); go_simp <;> with_reducible rfl)); simp only [Act.put, List.setIfInBounds_toArray, List.set_cons_zero, List.set_cons_succ]
    refine tkI 22 ?_ rfl (by kernel_rfl) (by kernel_rfl) (fun _ _ _ h => h) ?_ hHeld ?_; rotate_left; (· (intro w hSw; (try dsimp only at hSw); go_simp <;> with_reducible rfl)); simp only [Act.put, List.setIfInBounds_toArray, List.set_cons_zero, List.set_cons_succ]
    refine wpAnyH_done (by kernel_rfl) ?_ _
    clear hHeld
    go_wp2_with fail
    go_ret
    exact ⟨rfl, bb5⟩
end Go.Proofs.YtkmjghecjlgjpaaDoor
