/-
  Plain facts: what the law of the order of names asks for. No program is named here. Contracts of the library's bytes.Compare and cmp.Compare at int.
-/
import Derived.Test.YtaconefooicplaaFnNameOrderG26
import Derived.Test.YtaconefooicplaaFnNameOrderG17
import Derived.Test.YtaconefooicplaaFnNameOrderG09
import Derived.Test.YtaconefooicplaaFnNameOrderG03
import Derived.Test.YtaconefooicplaaFnNameOrderG25
namespace Go.Proofs.Ytaconefooicplaa
open Go.RowKit

theorem cmpL_cases : ∀ (a b : List (List Int)), cmpL a b = -1 ∨ cmpL a b = 0 ∨ cmpL a b = 1
  | [], [] => .inr (.inl rfl)
  | [], _ :: _ => .inl rfl
  | _ :: _, [] => .inr (.inr rfl)
  | x :: a, y :: b => by
    unfold cmpL
    split
    · exact cmpB_cases x y
    · exact cmpL_cases a b
theorem cmpN_cases (a b : List (List Int)) : cmpN a b = -1 ∨ cmpN a b = 0 ∨ cmpN a b = 1 := by
  rw [cmpN_eq]
  exact cmpL_cases _ _
theorem nameCmp_ok {a b : List (List Int)} (ha : nameOk a = true) (hb : nameOk b = true) : nameCmp a b = cmpN a b := by
  unfold nameCmp
  rw [if_pos ⟨ha, hb⟩]
theorem nameCmp_no {a b : List (List Int)} (h : nameOk a = false ∨ nameOk b = false) : nameCmp a b = 0 := by
  unfold nameCmp
  rw [if_neg]
  rintro ⟨h1, h2⟩
  rcases h with h | h
  · rw [h] at h1
    cases h1
  · rw [h] at h2
    cases h2
theorem under_no {a b : List (List Int)} (h : nameOk a = false ∨ nameOk b = false) : under a b = false := by
  unfold under
  rcases h with h | h
  · rw [h]
    rfl
  · rw [h, Bool.false_and, Bool.and_false]
theorem text_same {a b : List (List Int)} (ha : nameOk a = true) (hb : nameOk b = true) : decide (nameText a = nameText b) = (cmpN a b == 0) := by
  rw [Bool.eq_iff_iff, decide_eq_true_iff, beq_iff_eq, nameText_inj ha hb, cmpN_zero (nameOk_bytes ha) (nameOk_bytes hb)]
theorem under_behind {a b : List (List Int)} (ha : nameOk a = true) (hb : nameOk b = true) (h : under a b = true) : ¬ cmpN a b < 0 := by
  obtain ⟨p, rfl⟩ := (under_iff ha hb).1 h
  by_cases hp : p = []
  · subst hp
    rw [List.nil_append, cmpN_self]
    omega
  · rw [cmpN_longer b p hp]
    omega
theorem under_parent {a : List (List Int)} (ha : nameOk a = true) : under a (a.drop 1) = true := (under_iff ha (nameOk_drop ha 1)).2 ⟨a.take 1, (List.take_append_drop 1 a).symm⟩
theorem parent_not {a : List (List Int)} (ha : nameOk a = true) (h0 : a.length ≠ 0) : under (a.drop 1) a = false := by
  cases h : under (a.drop 1) a with
  | false => rfl
  | true =>
    obtain ⟨p, hp⟩ := (under_iff (nameOk_drop ha 1) ha).1 h
    have := congrArg List.length hp
    simp at this
    omega
theorem child_ok {a : List (List Int)} {l : List Int} (ha : nameOk a = true) (h6 : a.length ≠ 6) (hl : labelOk l = true) : nameOk (l :: a) = true := by
  obtain ⟨h1, h2⟩ := nameOk_parts ha
  refine nameOk_yes (by simp; omega) fun j hj => ?_
  cases j with
  | zero => exact hl
  | succ j =>
    have := h2 j (by simpa using hj)
    simpa using this
theorem under_child {a : List (List Int)} {l : List Int} (ha : nameOk a = true) (hk : nameOk (l :: a) = true) : under (l :: a) a = true := (under_iff hk ha).2 ⟨[l], rfl⟩
theorem cmp_child {a : List (List Int)} {l : List Int} (ha : nameOk a = true) (hk : nameOk (l :: a) = true) : nameCmp (l :: a) a = 1 := by
  rw [nameCmp_ok hk ha]
  exact cmpN_longer a [l] (by simp)
theorem parent_child {a : List (List Int)} {l : List Int} (hk : nameOk (l :: a) = true) : parentOf (l :: a) = (a, true) := by
  rw [parentOf_yes hk (by simp)]
  rfl
theorem under_root {a : List (List Int)} (ha : nameOk a = true) : under a [] = true := (under_iff ha (by decide)).2 ⟨a, by simp⟩
end Go.Proofs.Ytaconefooicplaa

namespace Go.Proofs.Ytaconefooicplaa
open Go.RowKit
set_option linter.unusedVariables false

set_option maxHeartbeats 400000 in
set_option maxRecDepth 100000 in
theorem bytesCompare_has {v v' : Value} {l l' : List Int} {w : World} (h : Has w v l) (h' : Has w v' l') :
    Calls Try.prog 49 #[v, v'] w fun e w' => e = .returned (.int .i64 (cmpB l l')) ∧ w = w' := by
  go_enter Try.func49, Try.ntmps49
  go_wp2
  rw [run_callFunc_extern Try.func86 (by kernel_rfl) (by kernel_rfl) (by kernel_rfl) (e := Extern.BytealgCompare.compare) (by kernel_rfl), run_compare_has h h']
  simp only [Result.andThen]
  rw [Oper.upon_value]
  go_wp2
  go_ret
  exact ⟨rfl, rfl⟩

set_option maxHeartbeats 400000 in
set_option maxRecDepth 100000 in
theorem isNaN_int (x : Int) (w : World) :
    Calls Try.prog 87 #[.int .i64 x] w fun e w' => e = .returned (.bool false) ∧ w = w' := by
  go_enter Try.func87, Try.ntmps87
  go_wp2
  go_ret
  exact ⟨rfl, rfl⟩

set_option maxHeartbeats 400000 in
set_option maxRecDepth 100000 in
theorem cmpCompare_int (x y : Int) (w : World) :
    Calls Try.prog 50 #[.int .i64 x, .int .i64 y] w fun e w' => e = .returned (.int .i64 (byLength x y)) ∧ w = w' := by
  unfold byLength
  by_cases h1 : x < y
  · rw [if_pos h1]
    go_enter Try.func50, Try.ntmps50
    go_wp2_with fail
    refine (isNaN_int x _).mono ?_
    rintro e w1 ⟨rfl, rfl⟩
    go_wp2_with fail
    refine (isNaN_int y _).mono ?_
    rintro e w1 ⟨rfl, rfl⟩
    go_wp2
    go_ret
    exact ⟨rfl, rfl⟩
  · rw [if_neg h1]
    by_cases h2 : y < x
    · rw [if_pos h2]
      go_enter Try.func50, Try.ntmps50
      go_wp2_with fail
      refine (isNaN_int x _).mono ?_
      rintro e w1 ⟨rfl, rfl⟩
      go_wp2_with fail
      refine (isNaN_int y _).mono ?_
      rintro e w1 ⟨rfl, rfl⟩
      go_wp2
      go_ret
      exact ⟨rfl, rfl⟩
    · rw [if_neg h2]
      go_enter Try.func50, Try.ntmps50
      go_wp2_with fail
      refine (isNaN_int x _).mono ?_
      rintro e w1 ⟨rfl, rfl⟩
      go_wp2_with fail
      refine (isNaN_int y _).mono ?_
      rintro e w1 ⟨rfl, rfl⟩
      go_wp2
      go_ret
      exact ⟨rfl, rfl⟩
end Go.Proofs.Ytaconefooicplaa
