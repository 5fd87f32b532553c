/-
  Plain facts: the decimal digits of a byte, and an address as four numbers with dots between. No program is named here. Plain facts: an address read from its text, as the program does it and as the specification does it, and that both read the same. No program is named here. Plain facts: names that are the same, names that end with others, and their order. No program is named here.
-/
import Derived.Test.YtmlcmkoefelolaaGreatSetOfG00
import Derived.Lib.ItoaNum
import Derived.Lib.UnsafeStr
import Derived.Lib.Split
import Derived.Lib.SplitLaws
import Derived.Test.YtmlcmkoefelolaaGreatSetOfG13
import Derived.Test.YtmlcmkoefelolaaGreatSetOfG15
namespace Go.Proofs.YtmlcmkoefelolaaGreat
open Go.RowKit

end Go.Proofs.YtmlcmkoefelolaaGreat

namespace Go.Proofs.YtmlcmkoefelolaaGreat
open Go.RowKit

/-! ### The library's cut at dots is this one -/

theorem str_eq (a b : List Int) (ha : ∀ c ∈ a, 0 ≤ c ∧ c ≤ 255) (hb : ∀ c ∈ b, 0 ≤ c ∧ c ≤ 255) : ((strOfNums a).toList == (strOfNums b).toList) = decide (a = b) := by
 rw [ByteArray.toList_eq, ByteArray.toList_eq, strOfNums_data, strOfNums_data]
 by_cases e : a = b
 ·subst e; simp
 ·rw [decide_eq_false e]
  apply beq_eq_false_iff_ne.2
  intro h
  apply e
  clear e
  induction a generalizing b with
  | nil => cases b with
   | nil => rfl
   | cons d b => simp at h
  | cons c a ih => cases b with
   | nil => simp at h
   | cons d b =>
    simp only [List.map_cons, List.cons.injEq] at h
    have h1 := ha c (by simp)
    have h2 := hb d (by simp)
    have h3 := congrArg UInt8.toNat h.1
    rw [UInt8.toNat_ofNat', UInt8.toNat_ofNat'] at h3
    have h4 : c = d := by omega
    rw [h4, ih b (fun x hx => ha x (by simp [hx])) (fun x hx => hb x (by simp [hx])) h.2]
end Go.Proofs.YtmlcmkoefelolaaGreat

namespace Go.Proofs.YtmlcmkoefelolaaGreat
open Go.RowKit

theorem cmpB_eq {a b : List Int} (ha : ∀ c ∈ a, 0 ≤ c ∧ c ≤ 255) (hb : ∀ c ∈ b, 0 ≤ c ∧ c ≤ 255) : cmpB a b = 0 ↔ a = b := by
 have h1 := str_same a b
 rw [str_eq a b ha hb] at h1
 exact ⟨fun h => of_decide_eq_true (h1.trans (decide_eq_true h)), fun h => by subst h; exact cmpB_self a⟩

/-- All are bytes. -/
def ByteL (n : List (List Int)) : Prop := ∀ l ∈ n, ∀ c ∈ l, 0 ≤ c ∧ c ≤ 255
theorem cmpL_zero : ∀ {a b : List (List Int)}, ByteL a → ByteL b → cmpL a b = 0 → a = b
 | [], [], _, _, _ => rfl
 | [], _ :: _, _, _, h => by
  unfold cmpL at h
  omega
 | _ :: _, [], _, _, h => by
  unfold cmpL at h
  omega
 | x :: a, y :: b, ha, hb, h => by
  unfold cmpL at h
  by_cases e : cmpB x y = 0
  ·simp only [e, ne_eq, not_true, if_false] at h
   rw [(cmpB_eq (ha x (by simp)) (hb y (by simp))).1 e, cmpL_zero (fun l hl => ha l (by simp [hl])) (fun l hl => hb l (by simp [hl])) h]
  ·simp only [e, ne_eq, not_false_iff, if_true] at h
theorem cmpN_zero {a b : List (List Int)} (ha : ByteL a) (hb : ByteL b) : cmpN a b = 0 ↔ a = b := by
 refine ⟨fun h => ?_, fun h => by subst h; exact cmpN_self a⟩
 rw [cmpN_eq] at h
 have := cmpL_zero (fun l hl => ha l (by simpa using hl)) (fun l hl => hb l (by simpa using hl)) h
 simpa using congrArg List.reverse this
end Go.Proofs.YtmlcmkoefelolaaGreat
