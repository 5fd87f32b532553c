/-
  Contracts of the program's Under. Plain facts: a row of structs in memory, c cells each, whatever they are. No program is named here.
-/
import Derived.Test.YtjgfljndeolmoaaInsideG16
import Derived.Test.YtjgfljndeolmoaaInsideG05
namespace Go.Proofs.Ytjgfljndeolmoaa
open Go.RowKit
set_option linter.unusedVariables false

set_option maxHeartbeats 2000000 in
set_option maxRecDepth 100000 in
theorem implUnder_has {v v' : Value} {n n' : List (List Int)} {w : World} (h : HasL w v n) (h' : HasL w v' n') :
  Calls Try.prog 10 #[.agg #[v], .agg #[v']] w fun e w' => e = .returned (.bool (under n n')) ∧ Below w.heap.size w w' := by
 obtain ⟨a, cap, rfl, hcl, hcm⟩ := h.form
 obtain ⟨a', cap', rfl, _⟩ := h'.form
 unfold maxLen at hcm
 have b1 := below_alloc (w := w) (.cells #[.slice a n.length cap] 26)
 have k1 := heap_alloc_new w (.cells #[.slice a n.length cap] 26)
 have e1 : (w.alloc (.cells #[.slice a n.length cap] 26)).heap.size = w.heap.size + 1 := by show (w.heap.push _).size = _; simp
 have b2 := below_alloc (w := w.alloc (.cells #[.slice a n.length cap] 26)) (.cells #[.slice a' n'.length cap'] 26)
 have x2 := heap_alloc_new (w.alloc (.cells #[.slice a n.length cap] 26)) (.cells #[.slice a' n'.length cap'] 26)
 have k2 := block_kept b2 k1
 rw [e1] at x2
 have bb2 := below_next b1 b2
 have h2 := hide (h.below bb2)
 have h2' := hide (h'.below bb2)
 clear h h' b1 b2 k1 e1
 unfold under
 cases hok : nameOk n with
 | false =>
  rw [Bool.false_and]
  have HOK := hide hok
  clear hok
  go_enter Try.func10, Try.ntmps10
  go_wp2_with fail
  generalize (w.alloc (.cells #[.slice a n.length cap] 26)).alloc (.cells #[.slice a' n'.length cap'] 26) = W at *
  refine (implNameOk_has (unhide h2)).mono ?_
  rw [unhide HOK]
  rintro e w3 ⟨rfl, b3⟩
  go_wp2_with fail
  go_ret
  exact ⟨rfl, below_next bb2 b3⟩
 | true =>
  cases hok' : nameOk n' with
  | false =>
   rw [Bool.true_and, Bool.false_and]
   have HOK := hide hok
   have HOK' := hide hok'
   clear hok hok'
   go_enter Try.func10, Try.ntmps10
   go_wp2_with fail
   generalize (w.alloc (.cells #[.slice a n.length cap] 26)).alloc (.cells #[.slice a' n'.length cap'] 26) = W at *
   refine (implNameOk_has (unhide h2)).mono ?_
   rw [unhide HOK]
   rintro e w3 ⟨rfl, b3⟩
   have x3 := block_one (block_kept b3 x2)
   go_wp2_with fail
   refine (implNameOk_has ((unhide h2').below b3)).mono ?_
   rw [unhide HOK']
   rintro e w4 ⟨rfl, b4⟩
   go_wp2_with fail
   go_ret
   exact ⟨rfl, below_next bb2 (below_next b3 b4)⟩
  | true =>
   rw [Bool.true_and, Bool.true_and]
   have hs := (nameOk_parts hok).1
   have hs' := (nameOk_parts hok').1
   have hno := hide (fun (hlt : n.length < n'.length) => endsWith_no hlt)
   have hyes := hide (fun (hle : n'.length ≤ n.length) => (show endsWith n n' = (nameCmp (n.drop (n.length - n'.length)) n' == 0) by
    rw [endsWith_yes hle]; unfold nameCmp; rw [if_pos ⟨nameOk_drop hok _, hok'⟩]))
   have HOK := hide hok
   have HOK' := hide hok'
   clear hok hok'
   generalize endsWith n n' = R at *
   have hdrop := hide (fun (W : World) (hW : HasL W (.slice a n.length cap) n) (k : Nat) (hk : k ≤ n.length) => HasL.drop hW rfl hk)
   go_enter Try.func10, Try.ntmps10
   go_wp2_with fail
   generalize (w.alloc (.cells #[.slice a n.length cap] 26)).alloc (.cells #[.slice a' n'.length cap'] 26) = W0 at *
   refine (implNameOk_has (unhide h2)).mono ?_
   rw [unhide HOK]
   rintro e w3 ⟨rfl, b3⟩
   have x3 := block_one (block_kept b3 x2)
   go_wp2_with fail
   refine (implNameOk_has ((unhide h2').below b3)).mono ?_
   rw [unhide HOK']
   rintro e W ⟨rfl, b4⟩
   have b4 := below_next b3 b4
   have cx := block_one (block_kept b4 x2)
   have ck := block_one (block_kept b4 k2)
   have h4 := hide ((unhide h2).below b4)
   have h4' := hide ((unhide h2').below b4)
   have bb4 := below_next bb2 b4
   clear x3 x2 k2 h2 h2' b3 b4 bb2 HOK HOK'
   by_cases hle : n'.length ≤ n.length
   ·have hr := unhide hyes hle
    have hd := unhide hdrop W (unhide h4) (n.length - n'.length) (by omega)
    clear hyes hno hdrop
    generalize hj : n.length - n'.length = j at *
    have hlen : (n.drop j).length = n.length - j := by simp
    generalize n.drop j = nd at *
    have i0 : ¬ (n.length : Int) < n'.length := by omega
    have s1 : (n.length : Int) - n'.length = j := by omega
    have wj : IntKind.i64.wrap (j : Int) = j := wrap_small j (by omega)
    have jl : j ≤ n.length := by omega
    have jc : j ≤ cap := by omega
    rcases hd with ⟨ha, hm0, hc0⟩ | ⟨g, off, ha, hd⟩
    ·have hz' : n'.length = 0 := by omega
     have hz : j = 0 := by omega
     obtain rfl : nd = [] := List.eq_nil_of_length_eq_zero (by omega)
     obtain rfl : n' = [] := List.eq_nil_of_length_eq_zero hz'
     obtain rfl : n = [] := List.eq_nil_of_length_eq_zero hm0
     subst ha hc0 hz
     clear hj hlen i0 s1 wj jl jc hz' hm0 hle hs hs' hcl
     simp only [List.length_nil] at *
     have HD := hide (show HasL W (.slice none 0 0) [] from .inl ⟨rfl, rfl⟩)
     go_wp2_with fail
     refine (implNameCmp_has (unhide HD) (unhide h4')).mono ?_
     generalize nameCmp [] [] = c at *
     subst hr
     rintro e w5 ⟨rfl, b5⟩
     go_wp2_with fail
     go_ret
     exact ⟨rfl, below_next bb4 b5⟩
    ·subst ha
     by_cases hcj : cap = j
     ·have e2 : j = n.length := by omega
      have e1 : cap = n.length := by omega
      obtain rfl : n' = [] := List.eq_nil_of_length_eq_zero (by omega)
      obtain rfl : nd = [] := List.eq_nil_of_length_eq_zero (by omega)
      rw [if_pos hcj, e1, e2, Nat.sub_self] at hd
      have HD := hide hd
      subst e1 e2
      clear hd hj hlen hcj hle hs' jl jc s1 i0 hcl
      simp only [List.length_nil] at *
      generalize hn : n.length = m at *
      go_wp2_with fail
      refine (implNameCmp_has (unhide HD) (unhide h4')).mono ?_
      generalize nameCmp [] [] = c at *
      subst hr
      rintro e w5 ⟨rfl, b5⟩
      go_wp2_with fail
      go_ret
      exact ⟨rfl, below_next bb4 b5⟩
     ·rw [if_neg hcj] at hd
      have HD := hide hd
      clear hd
      generalize hn : n.length = m at *
      generalize hn' : n'.length = m' at *
      go_wp2_with fail
      refine (implNameCmp_has (unhide HD) (unhide h4')).mono ?_
      generalize nameCmp nd n' = c at *
      subst hr
      rintro e w5 ⟨rfl, b5⟩
      go_wp2_with fail
      go_ret
      exact ⟨rfl, below_next bb4 b5⟩
   ·have hr := unhide hno (by omega)
    subst hr
    have i0 : (n.length : Int) < n'.length := by omega
    go_wp2_with fail
    go_ret
    exact ⟨rfl, bb4⟩
end Go.Proofs.Ytjgfljndeolmoaa

namespace Go.Proofs.Ytjgfljndeolmoaa
open Go.RowKit
set_option linter.unusedVariables false

/-- What E says of a struct's cells stands as long as nothing old turns. -/
def Stays {α : Type} (E : World → List Value → α → Prop) : Prop := ∀ {w w' : World} {vs : List Value} {x : α}, E w vs x → Below w.heap.size w w' → E w' vs x
/-- Structs behind a slice's head, as they came in. -/
def LiesG {α : Type} (c : Nat) (E : World → List Value → α → Prop) (d : α) (w : World) (a : Option Addr) (xs : List α) : Prop :=
 xs = [] ∨ ∃ b off, a = some ⟨b, off, none⟩ ∧ b < w.heap.size ∧ ∀ i, i < xs.length → ∃ vs, w.rangeAt b (off + i * c) vs ∧ E w vs (xs.getD i d)
/-- The slice v has these structs. -/
def HasG {α : Type} (c : Nat) (E : World → List Value → α → Prop) (d : α) (w : World) (v : Value) (xs : List α) : Prop :=
 (v = .slice none 0 0 ∧ xs = []) ∨ ∃ g off cap, v = .slice (some ⟨g, off, none⟩) xs.length cap ∧ g < w.heap.size ∧ xs.length ≤ cap ∧ cap ≤ maxLen ∧ ∀ i, i < xs.length → ∃ vs, w.rangeAt g (off + i * c) vs ∧ E w vs (xs.getD i d)
section
variable {α : Type} {c : Nat} {E : World → List Value → α → Prop} {d : α} {w w' : World} {a : Option Addr} {v : Value} {xs : List α}
theorem LiesG.below (hE : Stays E) (h : LiesG c E d w a xs) (hb : Below w.heap.size w w') : LiesG c E d w' a xs := by
 rcases h with h | ⟨b, off, ha, hlt, hc⟩
 ·exact .inl h
 ·refine .inr ⟨b, off, ha, Nat.lt_of_lt_of_le hlt hb.size, fun i hi => ?_⟩
  obtain ⟨vs, h1, h2⟩ := hc i hi
  exact ⟨vs, range_below h1 hlt hb, hE h2 hb⟩
theorem LiesG.here (h : LiesG c E d w a xs) {k : Nat} (hk : k < xs.length) : ∃ b off vs, a = some ⟨b, off, none⟩ ∧ b < w.heap.size ∧ w.rangeAt b (off + k * c) vs ∧ E w vs (xs.getD k d) := by
 rcases h with rfl | ⟨b, off, ha, hlt, hc⟩
 ·simp at hk
 ·obtain ⟨vs, h1, h2⟩ := hc k hk
  exact ⟨b, off, vs, ha, hlt, h1, h2⟩
theorem HasG.below (hE : Stays E) (h : HasG c E d w v xs) (hb : Below w.heap.size w w') : HasG c E d w' v xs := by
 rcases h with h | ⟨g, off, cap, hv, hlt, hl, hm, hc⟩
 ·exact .inl h
 ·refine .inr ⟨g, off, cap, hv, Nat.lt_of_lt_of_le hlt hb.size, hl, hm, fun i hi => ?_⟩
  obtain ⟨vs, h1, h2⟩ := hc i hi
  exact ⟨vs, range_below h1 hlt hb, hE h2 hb⟩
theorem HasG.form (h : HasG c E d w v xs) : ∃ a cap, v = .slice a xs.length cap ∧ xs.length ≤ cap ∧ cap ≤ maxLen := by
 rcases h with ⟨rfl, rfl⟩ | ⟨g, off, cap, hv, hlt, hl, hm, hc⟩
 ·exact ⟨none, 0, rfl, Nat.le_refl _, Nat.zero_le _⟩
 ·exact ⟨_, cap, hv, hl, hm⟩
theorem HasG.here {len cap : Nat} (h : HasG c E d w (.slice a len cap) xs) {k : Nat} (hk : k < xs.length) : ∃ b off vs, a = some ⟨b, off, none⟩ ∧ b < w.heap.size ∧ w.rangeAt b (off + k * c) vs ∧ E w vs (xs.getD k d) := by
 rcases h with ⟨_, rfl⟩ | ⟨g, off, cap', hv, hlt, hl, hm, hc⟩
 ·simp at hk
 ·simp only [Value.slice.injEq] at hv
  obtain ⟨vs, h1, h2⟩ := hc k hk
  exact ⟨g, off, vs, hv.1, hlt, h1, h2⟩
theorem HasG.map {E' : World → List Value → α → Prop} (hE : ∀ vs x, E w vs x → E' w vs x) (h : HasG c E d w v xs) : HasG c E' d w v xs := by
 rcases h with h | ⟨g, off, cap, hv, hlt, hl, hm, hc⟩
 ·exact .inl h
 ·refine .inr ⟨g, off, cap, hv, hlt, hl, hm, fun i hi => ?_⟩
  obtain ⟨vs, h1, h2⟩ := hc i hi
  exact ⟨vs, h1, hE _ _ h2⟩
end

/-- What is owned: O B e w vs x: the struct's cells vs, what they lead to lies in blocks of B .. e - 1. -/
structure OwnsG {α : Type} (c : Nat) (O : Nat → Nat → World → List Value → α → Prop) : Prop where
 cells : ∀ {B e : Nat} {w : World} {vs : List Value} {x : α}, O B e w vs x → vs.length = c
 below : ∀ {B e : Nat} {w w' : World} {vs : List Value} {x : α}, O B e w vs x → Below w.heap.size w w' → O B e w' vs x
 outside : ∀ {B e C D : Nat} {w w' : World} {vs : List Value} {x : α}, O B e w vs x → Outside C D w w' → e ≤ C ∨ D ≤ B → O B e w' vs x
 wide : ∀ {B e B' e' : Nat} {w : World} {vs : List Value} {x : α}, O B e w vs x → B' ≤ B → e ≤ e' → O B' e' w vs x
/-- The first k structs of a row that is being filled, in block g. -/
def FillG {α : Type} (c : Nat) (O : Nat → Nat → World → List Value → α → Prop) (d : α) (g n k : Nat) (w : World) (xs : List α) : Prop :=
 g < w.heap.size ∧ w.there g 0 (n * c) ∧ ∀ i, i < k → ∃ vs, w.rangeAt g (i * c) vs ∧ O (g + 1) w.heap.size w vs (xs.getD i d)
section
variable {α : Type} {c : Nat} {O : Nat → Nat → World → List Value → α → Prop} {d : α} {w w' : World} {v : Value} {xs : List α} {g n k : Nat}
theorem FillG.below (hO : OwnsG c O) (h : FillG c O d g n k w xs) (hb : Below w.heap.size w w') : FillG c O d g n k w' xs := by
 obtain ⟨h0, h1, h2⟩ := h
 refine ⟨Nat.lt_of_lt_of_le h0 hb.size, fun j hj => ?_, fun i hi => ?_⟩
 ·have := h1 j hj
  rw [← hb.cell (p := ⟨g, 0 + j, none⟩) h0, ← hb.frozen (p := ⟨g, 0 + j, none⟩) h0] at this
  exact this
 ·obtain ⟨vs, q1, q2⟩ := h2 i hi
  exact ⟨vs, range_below q1 h0 hb, hO.wide (hO.below q2 hb) (Nat.le_refl _) hb.size⟩
theorem FillG.here (h : FillG c O d g n k w xs) (hk : k < n) : w.there g (k * c) c := fun j hj => by
 have hle : k * c + c ≤ n * c := by
  have := Nat.mul_le_mul_right c (show k + 1 ≤ n from hk)
  rwa [Nat.add_mul, Nat.one_mul] at this
 have := h.2.1 (k * c + j) (by omega)
 rwa [Nat.zero_add] at this
theorem FillG.step (hO : OwnsG c O) (h : FillG c O d g n k w xs) (hk : k < n) {vs : List Value} (ho : O (g + 1) w.heap.size w vs (xs.getD k d)) : FillG c O d g n (k + 1) (w.setCells g (k * c) vs) xs := by
 have u := outside_sets g vs (k * c) w
 have ht := h.here hk
 have hc := hO.cells ho
 obtain ⟨h0, h1, h2⟩ := h
 refine ⟨Nat.lt_of_lt_of_le h0 u.size, World.there_setCells h1 _ _ _, fun i hi => ?_⟩
 by_cases e : i = k
 ·subst e
  exact ⟨vs, World.rangeAt_setCells_same _ _ _ _ (by rw [hc]; exact ht), hO.wide (hO.outside ho u (.inr (Nat.le_refl _))) (Nat.le_refl _) u.size⟩
 ·obtain ⟨us, q1, q2⟩ := h2 i (by omega)
  have hl : i * c + c ≤ k * c := by
   have := Nat.mul_le_mul_right c (show i + 1 ≤ k by omega)
   rwa [Nat.add_mul, Nat.one_mul] at this
  refine ⟨us, World.rangeAt_setCells_apart q1 _ _ _ (.inr (.inl ?_)), hO.wide (hO.outside q2 u (.inr (Nat.le_refl _))) (Nat.le_refl _) u.size⟩
  rw [hO.cells q2]
  exact hl
theorem FillG.outside (hO : OwnsG c O) {C D : Nat} (h : FillG c O d g n k w xs) (u : Outside C D w w') (hd : D ≤ g) : FillG c O d g n k w' xs := by
 obtain ⟨h0, h1, h2⟩ := h
 have hk : w'.heap[g]? = w.heap[g]? := u.block g h0 (by omega)
 have hc : ∀ j, w'.cell? ⟨g, j, none⟩ = w.cell? ⟨g, j, none⟩ := fun j => by unfold World.cell?; rw [hk]
 have hf : ∀ j, w'.frozen? ⟨g, j, none⟩ = w.frozen? ⟨g, j, none⟩ := fun j => by unfold World.frozen?; rw [hk]
 refine ⟨Nat.lt_of_lt_of_le h0 u.size, fun j hj => by rw [hc, hf]; exact h1 j hj, fun i hi => ?_⟩
 obtain ⟨vs, q1, q2⟩ := h2 i hi
 exact ⟨vs, fun j v hv => (hc _).trans (q1 j v hv), hO.wide (hO.outside q2 u (.inr (by omega))) (Nat.le_refl _) u.size⟩
end
/-- The slice v, in blocks from B on, owns these structs. -/
def OwnG {α : Type} (c : Nat) (O : Nat → Nat → World → List Value → α → Prop) (d : α) (B : Nat) (w : World) (v : Value) (xs : List α) : Prop :=
 ∃ g, v = .slice (some ⟨g, 0, none⟩) xs.length xs.length ∧ B ≤ g ∧ xs.length ≤ maxLen ∧ FillG c O d g xs.length xs.length w xs
section
variable {α : Type} {c : Nat} {O : Nat → Nat → World → List Value → α → Prop} {d : α} {w w' : World} {v : Value} {xs : List α} {B : Nat}
theorem OwnG.has {E : World → List Value → α → Prop} (hE : ∀ {B e : Nat} {w : World} {vs : List Value} {x : α}, O B e w vs x → E w vs x) (h : OwnG c O d B w v xs) : HasG c E d w v xs := by
 obtain ⟨g, rfl, _, hm, hf⟩ := h
 refine .inr ⟨g, 0, xs.length, rfl, hf.1, Nat.le_refl _, hm, fun i hi => ?_⟩
 obtain ⟨vs, q1, q2⟩ := hf.2.2 i hi
 exact ⟨vs, by rw [Nat.zero_add]; exact q1, hE q2⟩
theorem OwnG.outside (hO : OwnsG c O) {C D : Nat} (h : OwnG c O d B w v xs) (u : Outside C D w w') (hd : D ≤ B) : OwnG c O d B w' v xs := by
 obtain ⟨g, hv, hB, hm, hf⟩ := h
 exact ⟨g, hv, hB, hm, hf.outside hO u (by omega)⟩
theorem OwnG.below (hO : OwnsG c O) (h : OwnG c O d B w v xs) (hb : Below w.heap.size w w') : OwnG c O d B w' v xs := by
 obtain ⟨g, hv, hB, hm, hf⟩ := h
 exact ⟨g, hv, hB, hm, hf.below hO hb⟩
end
end Go.Proofs.Ytjgfljndeolmoaa
