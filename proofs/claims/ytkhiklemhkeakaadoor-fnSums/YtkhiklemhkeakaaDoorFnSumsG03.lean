/-
  Contracts of the program's right and spread, by the library's RotateLeft32. Plain facts: a list of texts whose blocks lie in a stretch, and worlds that are the same outside of it. No program is named here.
-/
import Derived.Test.YtkhiklemhkeakaaDoorFnSumsG02
import Derived.Test.YtkhiklemhkeakaaDoorFnSumsG01
namespace Go.Proofs.YtkhiklemhkeakaaDoor
open Go.RowKit
set_option linter.unusedVariables false
set_option linter.unusedSimpArgs false

theorem and31 : ∀ n : Fin 32, n.val ≠ 0 → bits .and .u64 (IntKind.u64.wrap (-(n.val : Int))) 31 = ((32 - n.val : Nat) : Int) := by decide

set_option maxHeartbeats 800000 in
set_option maxRecDepth 100000 in
theorem rotate_is (x : BitVec 32) (n : Nat) (h0 : 0 < n) (hn : n < 32) (w : World) :
    Calls Tryd.prog 48 #[.int .u32 (wv x), .int .i64 (-(n : Int))] w fun e w' => e = .returned (.int .u32 (wv (turnR x n))) ∧ Below w.heap.size w w' := by
  have ha := and31 ⟨n, hn⟩ (by simp; omega)
  dsimp only at ha
  have h1 := wd_div x n
  have h2 := wd_shl x (32 - n)
  have h3 := wd_or (x <<< (32 - n)) (x >>> n)
  have hm : min (32 - n) 32 = 32 - n := by omega
  have hm' : min n 32 = n := by omega
  have hs : IntKind.u64.wrap (32 - ((32 - n : Nat) : Int)) = (n : Int) := by
    rw [show (32 : Int) - ((32 - n : Nat) : Int) = (n : Int) by omega]
    simp only [IntKind.wrap, IntKind.bits, IntKind.signed]
    simp
    omega
  go_enter Tryd.func48, Tryd.ntmps48
  go_wp2_with fail
  go_ret
  refine ⟨?_, Below.refl _ _⟩
  show Ending.returned (.int .u32 (wv (x <<< (32 - n) ||| x >>> n))) = _
  rw [BitVec.or_comm]
  rfl

set_option maxHeartbeats 800000 in
set_option maxRecDepth 100000 in
theorem right_is (x : BitVec 32) (n : Nat) (h0 : 0 < n) (hn : n < 32) (w : World) :
    Calls Tryd.prog 42 #[.int .u32 (wv x), .int .i64 (n : Int)] w fun e w' => e = .returned (.int .u32 (wv (turnR x n))) ∧ Below w.heap.size w w' := by
  have hneg : IntKind.i64.wrap (-(n : Int)) = -(n : Int) := by
    simp only [IntKind.wrap, IntKind.bits, IntKind.signed]
    simp
    omega
  go_enter Tryd.func42, Tryd.ntmps42
  go_wp2_with fail
  refine (rotate_is x n h0 hn _).mono ?_
  rintro e w1 ⟨rfl, b1⟩
  go_wp2_with fail
  go_ret
  exact ⟨rfl, b1⟩

set_option maxHeartbeats 800000 in
set_option maxRecDepth 100000 in
theorem spread_is (x : BitVec 32) (a b c : Nat) (ha : 0 < a ∧ a < 32) (hb : 0 < b ∧ b < 32) (hc : c < 32) (w : World) :
    Calls Tryd.prog 41 #[.int .u32 (wv x), .int .i64 (a : Int), .int .i64 (b : Int), .int .i64 (c : Int)] w fun e w' => e = .returned (.int .u32 (wv (turnR x a ^^^ turnR x b ^^^ x >>> c))) ∧ Below w.heap.size w w' := by
  have x1 := wd_xor (turnR x a) (turnR x b)
  have x2 := wd_div x c
  have x3 := wd_xor (turnR x a ^^^ turnR x b) (x >>> c)
  have hm : min c 32 = c := by omega
  go_enter Tryd.func41, Tryd.ntmps41
  go_wp2_with fail
  have bd := below_drew (w := w)
  refine startF 12 (S := fun _ => True) (by kernel_rfl) rfl trivial (fun hHeld => ?_)
  simp only [List.replicate]
  repeat ((first | (refine tkF ?_ rfl (by kernel_rfl) (by rfl) (fun _ _ _ h => h) ?_ hHeld ?_; rotate_left; · (intro w hSw; (try dsimp only at hSw); go_simp <;> with_reducible rfl)) | refine skF rfl (by kernel_rfl) (by rfl) (fun _ _ _ h => h) hHeld ?_); simp only [Act.put, setF, List.setIfInBounds_toArray, List.set_cons_zero, List.set_cons_succ])
  refine tkI 3 ?_ rfl (by kernel_rfl) (by kernel_rfl) (fun _ _ _ h => h) ?_ hHeld ?_; rotate_left; (· (intro w hSw; (try dsimp only at hSw); go_simp <;> with_reducible rfl)); simp only [Act.put, List.setIfInBounds_toArray, List.set_cons_zero, List.set_cons_succ]
  refine tkI 4 ?_ rfl (by kernel_rfl) (by kernel_rfl) (fun _ _ _ h => h) ?_ hHeld ?_; rotate_left; (· (intro w hSw; (try dsimp only at hSw); go_simp <;> with_reducible rfl)); simp only [Act.put, List.setIfInBounds_toArray, List.set_cons_zero, List.set_cons_succ]
  refine tkI 7 ?_ rfl (by kernel_rfl) (by kernel_rfl) (fun _ _ _ h => h) ?_ hHeld ?_; rotate_left; (· (intro w hSw; (try dsimp only at hSw); go_simp <;> with_reducible rfl)); simp only [Act.put, List.setIfInBounds_toArray, List.set_cons_zero, List.set_cons_succ]
  refine tkI 8 ?_ rfl (by kernel_rfl) (by kernel_rfl) (fun _ _ _ h => h) ?_ hHeld ?_; rotate_left; (· (intro w hSw; (try dsimp only at hSw); go_simp <;> with_reducible rfl)); simp only [Act.put, List.setIfInBounds_toArray, List.set_cons_zero, List.set_cons_succ]
  refine tkI 9 ?_ rfl (by kernel_rfl) (by kernel_rfl) (fun _ _ _ h => h) ?_ hHeld ?_; rotate_left; (· (intro w hSw; (try dsimp only at hSw); go_simp <;> with_reducible rfl)); simp only [Act.put, List.setIfInBounds_toArray, List.set_cons_zero, List.set_cons_succ]
  refine runI 2 rfl (by kernel_rfl) (by kernel_rfl) (fun K hK => ?_)
  have HK := hide hK
  clear hK hHeld
  go_simp
  refine (right_is x a ha.1 ha.2 _).mono ?_
  rintro e w1 ⟨rfl, b1⟩
  have q1 := below_next bd b1
  go_simp
  refine (unhide HK).out _ _ trivial (fun hHeld => ?_)
  clear HK K
  simp only [Act.put, List.setIfInBounds_toArray, List.set_cons_zero, List.set_cons_succ]
  refine runI 5 rfl (by kernel_rfl) (by kernel_rfl) (fun K hK => ?_)
  have HK := hide hK
  clear hK hHeld
  go_simp
  refine (right_is x b hb.1 hb.2 _).mono ?_
  rintro e w2 ⟨rfl, b2⟩
  have q2 := below_next q1 b2
  go_simp
  refine (unhide HK).out _ _ trivial (fun hHeld => ?_)
  clear HK K
  simp only [Act.put, List.setIfInBounds_toArray, List.set_cons_zero, List.set_cons_succ]
  repeat ((first | (refine tkF ?_ rfl (by kernel_rfl) (by rfl) (fun _ _ _ h => h) ?_ hHeld ?_; rotate_left; · (intro w hSw; (try dsimp only at hSw); go_simp <;> with_reducible rfl)) | refine skF rfl (by kernel_rfl) (by rfl) (fun _ _ _ h => h) hHeld ?_); simp only [Act.put, setF, List.setIfInBounds_toArray, List.set_cons_zero, List.set_cons_succ])
  refine wpAnyH_done (by kernel_rfl) ?_ _
  clear hHeld
  go_wp2_with fail
  go_ret
  exact ⟨rfl, q2⟩
end Go.Proofs.YtkhiklemhkeakaaDoor

namespace Go.Proofs.YtkhiklemhkeakaaDoor
open Go.RowKit

/-- Outside of the blocks B .. E - 1 nothing old has turned. -/
structure Outside (B E : Nat) (w w' : World) : Prop where
  os : w'.os = w.os
  tape : w'.tape = w.tape
  output : w'.output = w.output
  size : w.heap.size ≤ w'.heap.size
  block : ∀ k, k < w.heap.size → (k < B ∨ E ≤ k) → w'.heap[k]? = w.heap[k]?

theorem Outside.refl (B E : Nat) (w : World) : Outside B E w w := ⟨rfl, rfl, rfl, Nat.le_refl _, fun _ _ _ => rfl⟩
theorem Outside.trans {B E : Nat} {a b c : World} (h : Outside B E a b) (k : Outside B E b c) : Outside B E a c :=
  ⟨k.os.trans h.os, k.tape.trans h.tape, k.output.trans h.output, Nat.le_trans h.size k.size, fun i hi hn => (k.block i (Nat.lt_of_lt_of_le hi h.size) hn).trans (h.block i hi hn)⟩
theorem Below.outside {B E : Nat} {w w' : World} (h : Below w.heap.size w w') : Outside B E w w' := ⟨h.os, h.tape, h.output, h.size, fun k hk _ => h.block k hk⟩
theorem outside_grown {B E : Nat} {w w' : World} {row : Option Nat} (h : w.grownBy w' row) (hr : ∀ k, row = some k → B ≤ k ∧ k < E) : Outside B E w w' :=
  ⟨h.os, h.tape, h.output, h.size, fun k hk hn => h.block k hk (fun e => by have := hr k e.symm; omega)⟩
theorem Outside.below {B E : Nat} {a w w' : World} (h : Outside B E w w') (hb : Below a.heap.size a w) (hB : a.heap.size ≤ B) : Below a.heap.size a w' :=
  ⟨h.os.trans hb.os, h.tape.trans hb.tape, h.output.trans hb.output, Nat.le_trans hb.size h.size, fun k hk => (h.block k (Nat.lt_of_lt_of_le hk hb.size) (.inl (by omega))).trans (hb.block k hk)⟩
theorem Outside.kept {B E b : Nat} {w w' : World} {o : Obj} (h : Outside B E w w') (hk : w.heap[b]? = some o) (hn : b < B ∨ E ≤ b) : w'.heap[b]? = some o := (h.block b (block_lt hk) hn).trans hk

/-- A slice of bytes whose block lies ahead of a stretch, or behind it. -/
def HasAt (A : Nat) (w : World) (v : Value) (l : List Int) : Prop :=
  (v = .slice none 0 0 ∧ l = []) ∨ ∃ g off cap, v = .slice (some ⟨g, off, none⟩) l.length cap ∧ g < w.heap.size ∧ g < A ∧ l.length ≤ cap ∧ cap ≤ maxLen ∧ ∀ i, i < l.length → w.cell? ⟨g, off + i, none⟩ = some (.int .u8 (l.getD i 0))

theorem Has.at {w : World} {v : Value} {l : List Int} (h : Has w v l) : HasAt w.heap.size w v l := by
  rcases h with h | ⟨g, off, cap, hv, hlt, hl, hm, hc⟩
  · exact .inl h
  · exact .inr ⟨g, off, cap, hv, hlt, hlt, hl, hm, hc⟩
theorem HasAt.has {A : Nat} {w : World} {v : Value} {l : List Int} (h : HasAt A w v l) : Has w v l := by
  rcases h with h | ⟨g, off, cap, hv, hlt, _, hl, hm, hc⟩
  · exact .inl h
  · exact .inr ⟨g, off, cap, hv, hlt, hl, hm, hc⟩
theorem HasAt.outside {A B E : Nat} {w w' : World} {v : Value} {l : List Int} (h : HasAt A w v l) (ho : Outside B E w w') (hA : A ≤ B) : HasAt A w' v l := by
  rcases h with h | ⟨g, off, cap, hv, hlt, hA', hl, hm, hc⟩
  · exact .inl h
  · refine .inr ⟨g, off, cap, hv, Nat.lt_of_lt_of_le hlt ho.size, hA', hl, hm, fun i hi => ?_⟩
    rw [World.cell?_of_block (ho.block g hlt (.inl (by omega)))]
    exact hc i hi
theorem HasAt.below {A : Nat} {w w' : World} {v : Value} {l : List Int} (h : HasAt A w v l) (hb : Below w.heap.size w w') : HasAt A w' v l := by
  rcases h with h | ⟨g, off, cap, hv, hlt, hA', hl, hm, hc⟩
  · exact .inl h
  · exact .inr ⟨g, off, cap, hv, Nat.lt_of_lt_of_le hlt hb.size, hA', hl, hm, fun i hi => (hb.cell (p := ⟨g, off + i, none⟩) hlt).trans (hc i hi)⟩

theorem Own.outside {B C E : Nat} {e : TypeId} {w w' : World} {v : Value} {l : List Int} (h : Own C e w v l) (ho : Outside B E w w') (hE : E ≤ C) : Own C e w' v l := by
  refine ⟨h.1, ?_⟩
  have h' := h
  rcases h.2 with hn | ⟨g, cap, cur, hv, hb, hg, rest⟩
  · exact .inl hn
  · refine .inr ⟨g, cap, cur, hv, hb, ?_, rest⟩
    rw [ho.block g (h'.lt g (by rw [hv]; rfl)).2 (.inr (by omega))]
    exact hg

/-- As OwnL, every block ahead of E. -/
def OwnN (B E : Nat) (el eb : TypeId) (w : World) (v : Value) (n : List (List Int)) : Prop :=
  ∃ vs : List Value, w.ownsRow B el 1 v n.length vs ∧ (∀ i, i < n.length → ∃ u, vs[i]? = some u ∧ Own B eb w u (n.getD i [])) ∧
    (∀ (i j : Nat) (u u' : Value), i < j → vs[i]? = some u → vs[j]? = some u' → u.ownBlock = none ∨ u.ownBlock ≠ u'.ownBlock) ∧
    (∀ q, v.ownBlock = some q → q < E) ∧ ∀ (i : Nat) (u : Value) (q : Nat), vs[i]? = some u → u.ownBlock = some q → q < E

theorem OwnL.here {B : Nat} {el eb : TypeId} {w : World} {v : Value} {n : List (List Int)} (h : OwnL B el eb w v n) : OwnN B w.heap.size el eb w v n := by
  obtain ⟨vs, ho, hu, hd⟩ := h
  refine ⟨vs, ho, hu, hd, fun q hq => (World.ownsRow.lt ho q hq).2, fun i u q hi hq => ?_⟩
  have hl : vs.length = n.length := by have := ho.1; simpa using this
  have hi' : i < n.length := by rw [← hl]; exact (List.getElem?_eq_some_iff.1 hi).1
  obtain ⟨u', h1, h2⟩ := hu i hi'
  rw [hi] at h1
  obtain rfl : u = u' := by simpa using h1
  exact (h2.lt q hq).2
theorem OwnN.ownL {B E : Nat} {el eb : TypeId} {w : World} {v : Value} {n : List (List Int)} (h : OwnN B E el eb w v n) : OwnL B el eb w v n := by
  obtain ⟨vs, ho, hu, hd, _⟩ := h
  exact ⟨vs, ho, hu, hd⟩
theorem OwnN.below {B E : Nat} {el eb : TypeId} {w w' : World} {v : Value} {n : List (List Int)} (h : OwnN B E el eb w v n) (hb : Below w.heap.size w w') : OwnN B E el eb w' v n := by
  obtain ⟨vs, ho, hu, hd, hv, he⟩ := h
  obtain ⟨_, _, _, _⟩ := OwnL.below ⟨vs, ho, hu, hd⟩ hb
  refine ⟨vs, World.ownsRow.kept ho (grown_of_below hb) ?_, fun i hi => ?_, hd, hv, he⟩
  · cases hv : v.ownBlock with
    | none => exact .inl rfl
    | some k => exact .inr (by simp)
  · obtain ⟨u, h1, h2⟩ := hu i hi
    exact ⟨u, h1, h2.below hb⟩

/-- How many bytes the first j texts have, behind k. -/
def pos (n : List (List Int)) (k : Int) (j : Nat) : Int := k + (((n.take j).map List.length).sum : Nat)
theorem pos_zero (n : List (List Int)) (k : Int) : pos n k 0 = k := by simp [pos]
theorem pos_succ (n : List (List Int)) (k : Int) (j : Nat) (h : j < n.length) : pos n k (j + 1) = pos n k j + ((n.getD j []).length : Nat) := by
  unfold pos
  rw [List.take_succ_eq_append_getElem h, List.map_append, List.sum_append, show n.getD j [] = n[j] by simp [h]]
  simp only [List.map_cons, List.map_nil, List.sum_cons, List.sum_nil]
  omega
theorem pos_le (n : List (List Int)) (k : Int) (M : Nat) (h : ∀ i, i < n.length → (n.getD i []).length ≤ M) (j : Nat) (hj : j ≤ n.length) : k ≤ pos n k j ∧ pos n k j ≤ k + (j * M : Nat) := by
  induction j with
  | zero => rw [pos_zero]; simp
  | succ j ih =>
    rw [pos_succ n k j (by omega)]
    have := ih (by omega)
    have := h j (by omega)
    rw [Nat.succ_mul]
    omega

/-- The texts, written over by the numbers from k on. -/
def markL (n : List (List Int)) (k : Int) : List (List Int) := (List.range n.length).map fun j => marks (pos n k j) (n.getD j []).length
theorem markL_length (n : List (List Int)) (k : Int) : (markL n k).length = n.length := by simp [markL]
theorem markL_getD (n : List (List Int)) (k : Int) (j : Nat) (h : j < n.length) : (markL n k).getD j [] = marks (pos n k j) (n.getD j []).length := by simp [markL, h]
end Go.Proofs.YtkhiklemhkeakaaDoor
