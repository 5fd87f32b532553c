/-
  Plain facts: the order of names is one. No program is named here. Plain facts: names that are the same, names that end with others, and their order. No program is named here.
-/
import Derived.Test.YtaconefooicplaaFnNameOrderG25
import Derived.Test.YtaconefooicplaaFnNameOrderG05
namespace Go.Proofs.Ytaconefooicplaa
open Go.RowKit

theorem compare_swap : ∀ (a b : List UInt8), Lib.compareBytes a b = - Lib.compareBytes b a
  | [], [] => rfl
  | [], _ :: _ => rfl
  | _ :: _, [] => rfl
  | x :: a, y :: b => by
    have ih := compare_swap a b
    unfold Lib.compareBytes
    by_cases h1 : x < y
    · have h2 : ¬ y < x := fun h => UInt8.lt_irrefl x (UInt8.lt_trans h1 h)
      simp [h1, h2]
    · by_cases h2 : y < x
      · simp [h1, h2]
      · simp only [h1, h2, if_false]
        exact ih

theorem compare_trans : ∀ (a b c : List UInt8), Lib.compareBytes a b ≤ 0 → Lib.compareBytes b c ≤ 0 → Lib.compareBytes a c ≤ 0
  | [], _, [], _, _ => by decide
  | [], _, _ :: _, _, _ => by
    unfold Lib.compareBytes
    omega
  | _ :: _, [], _, h, _ => by
    unfold Lib.compareBytes at h
    omega
  | _ :: _, _ :: _, [], _, h => by
    unfold Lib.compareBytes at h
    omega
  | x :: a, y :: b, z :: c, h1, h2 => by
    unfold Lib.compareBytes at h1 h2 ⊢
    by_cases hxz : x < z
    · simp [hxz]
    · simp only [hxz, if_false]
      by_cases hxy : x < y
      · by_cases hyz : y < z
        · exact absurd (UInt8.lt_trans hxy hyz) hxz
        · simp only [hyz, if_false] at h2
          by_cases hzy : z < y
          · simp [hzy] at h2
          · have e : y = z := UInt8.le_antisymm (UInt8.not_lt.1 hzy) (UInt8.not_lt.1 hyz)
            subst e
            exact absurd hxy hxz
      · simp only [hxy, if_false] at h1
        by_cases hyx : y < x
        · simp [hyx] at h1
        · have e : x = y := UInt8.le_antisymm (UInt8.not_lt.1 hyx) (UInt8.not_lt.1 hxy)
          subst e
          simp only [hyx, if_false] at h1
          simp only [hxz, if_false] at h2
          by_cases hzx : z < x
          · simp [hzx] at h2
          · simp only [hzx, if_false] at h2 ⊢
            exact compare_trans a b c h1 h2

theorem cmpB_swap (a b : List Int) : cmpB a b = - cmpB b a := compare_swap _ _
theorem cmpB_trans {a b c : List Int} (h : cmpB a b ≤ 0) (k : cmpB b c ≤ 0) : cmpB a c ≤ 0 := compare_trans _ _ _ h k
theorem cmpB_between {a b c : List Int} (h : cmpB a b ≤ 0) (k : cmpB b c ≤ 0) (e : cmpB a c = 0) : cmpB a b = 0 ∧ cmpB b c = 0 := by
  have e1 := cmpB_swap a c
  have e2 := cmpB_swap a b
  have e3 := cmpB_swap b c
  have h1 : cmpB b a ≤ 0 := cmpB_trans k (by omega)
  have h2 : cmpB c b ≤ 0 := cmpB_trans (by omega : cmpB c a ≤ 0) h
  omega
theorem cmpB_self (a : List Int) : cmpB a a = 0 := by
  have := cmpB_swap a a
  omega
/-- Lists of texts held against each other from the first on. -/
def cmpL : List (List Int) → List (List Int) → Int
  | [], [] => 0
  | [], _ :: _ => -1
  | _ :: _, [] => 1
  | x :: a, y :: b => if cmpB x y ≠ 0 then cmpB x y else cmpL a b

theorem cmpL_swap : ∀ (a b : List (List Int)), cmpL a b = - cmpL b a
  | [], [] => rfl
  | [], _ :: _ => rfl
  | _ :: _, [] => rfl
  | x :: a, y :: b => by
    have ih := cmpL_swap a b
    have hs := cmpB_swap x y
    unfold cmpL
    by_cases h : cmpB x y = 0
    · have h' : cmpB y x = 0 := by omega
      simp only [h, h', ne_eq, not_true, if_false]
      exact ih
    · have h' : ¬ cmpB y x = 0 := by omega
      simp only [h, h', ne_eq, not_false_iff, if_true]
      exact hs
theorem cmpL_trans : ∀ (a b c : List (List Int)), cmpL a b ≤ 0 → cmpL b c ≤ 0 → cmpL a c ≤ 0
  | [], _, [], _, _ => by decide
  | [], _, _ :: _, _, _ => by
    unfold cmpL
    omega
  | _ :: _, [], _, h, _ => by
    unfold cmpL at h
    omega
  | _ :: _, _ :: _, [], _, h => by
    unfold cmpL at h
    omega
  | x :: a, y :: b, z :: c, h1, h2 => by
    unfold cmpL at h1 h2 ⊢
    have p1 : cmpB x y ≤ 0 := by
      by_cases h : cmpB x y = 0
      · omega
      · simpa [h] using h1
    have p2 : cmpB y z ≤ 0 := by
      by_cases h : cmpB y z = 0
      · omega
      · simpa [h] using h2
    have p3 := cmpB_trans p1 p2
    by_cases h : cmpB x z = 0
    · obtain ⟨e1, e2⟩ := cmpB_between p1 p2 h
      simp only [h, ne_eq, not_true, if_false]
      simp only [e1, ne_eq, not_true, if_false] at h1
      simp only [e2, ne_eq, not_true, if_false] at h2
      exact cmpL_trans a b c h1 h2
    · simp only [h, ne_eq, not_false_iff, if_true]
      exact p3

theorem find_congr {α : Type} {p q : α → Bool} : ∀ {l : List α}, (∀ x ∈ l, p x = q x) → l.find? p = l.find? q
  | [], _ => rfl
  | y :: l, h => by
    rw [List.find?_cons, List.find?_cons, h y (by simp), find_congr (fun x hx => h x (by simp [hx]))]

/-- As cmpN, but from the first label on. -/
def cmpF (a b : List (List Int)) : Int :=
  match (List.range (min a.length b.length)).find? (fun j => cmpB (a.getD j []) (b.getD j []) != 0) with
  | some j => cmpB (a.getD j []) (b.getD j [])
  | none => byLength a.length b.length

theorem cmpF_eq : ∀ (a b : List (List Int)), cmpF a b = cmpL a b
  | [], [] => rfl
  | [], y :: b => by
    unfold cmpF cmpL byLength
    simp
  | x :: a, [] => by
    unfold cmpF cmpL byLength
    simp
    omega
  | x :: a, y :: b => by
    have ih := cmpF_eq a b
    unfold cmpL
    have e : min (x :: a).length (y :: b).length = min a.length b.length + 1 := by simp
    unfold cmpF
    rw [e, List.range_succ_eq_map, List.find?_cons]
    by_cases h : cmpB x y = 0
    · have h1 : (cmpB ((x :: a).getD 0 []) ((y :: b).getD 0 []) != 0) = false := by simpa using h
      rw [h1]
      simp only [h, ne_eq, not_true, if_false]
      rw [List.find?_map]
      rw [← ih]
      unfold cmpF
      have hq : ((fun j => cmpB ((x :: a).getD j []) ((y :: b).getD j []) != 0) ∘ Nat.succ) = (fun j => cmpB (a.getD j []) (b.getD j []) != 0) := by
        funext j
        simp
      rw [hq]
      cases hf : (List.range (min a.length b.length)).find? (fun j => cmpB (a.getD j []) (b.getD j []) != 0) with
      | none =>
        simp only [Option.map_none]
        unfold byLength
        simp
      | some j =>
        simp only [Option.map_some]
        simp
    · have h1 : (cmpB ((x :: a).getD 0 []) ((y :: b).getD 0 []) != 0) = true := by simpa using h
      rw [h1]
      simp [h]

theorem getD_reverse (a : List (List Int)) (j : Nat) (h : j < a.length) : a.reverse.getD j [] = a.getD (a.length - (j + 1)) [] := by
  rw [List.getD_eq_getElem?_getD, List.getD_eq_getElem?_getD, List.getElem?_reverse h]
  congr 2
  omega

theorem cmpN_eq (a b : List (List Int)) : cmpN a b = cmpL a.reverse b.reverse := by
  rw [← cmpF_eq]
  unfold cmpN cmpF
  rw [List.length_reverse, List.length_reverse]
  have hp : ∀ j, j < min a.length b.length → atEnd a b (j + 1) = cmpB (a.reverse.getD j []) (b.reverse.getD j []) := fun j hj => by
    rw [getD_reverse a j (by omega), getD_reverse b j (by omega)]
    rfl
  have hf : (List.range (min a.length b.length)).find? (fun j => atEnd a b (j + 1) != 0) = (List.range (min a.length b.length)).find? (fun j => cmpB (a.reverse.getD j []) (b.reverse.getD j []) != 0) := find_congr (fun j hj => by
    rw [hp j (by simpa using hj)])
  rw [hf]
  cases hq : (List.range (min a.length b.length)).find? (fun j => cmpB (a.reverse.getD j []) (b.reverse.getD j []) != 0) with
  | none => rfl
  | some j =>
    have := List.mem_of_find?_eq_some hq
    exact hp j (by simpa using this)

theorem cmpN_swap (a b : List (List Int)) : cmpN a b = - cmpN b a := by
  rw [cmpN_eq, cmpN_eq, ← cmpL_swap]
theorem cmpN_trans {a b c : List (List Int)} (h : cmpN a b ≤ 0) (k : cmpN b c ≤ 0) : cmpN a c ≤ 0 := by
  rw [cmpN_eq] at *
  exact cmpL_trans _ _ _ h k
theorem cmpN_self (a : List (List Int)) : cmpN a a = 0 := by
  have := cmpN_swap a a
  omega
theorem cmpN_between {a b c : List (List Int)} (h : cmpN a b ≤ 0) (k : cmpN b c ≤ 0) (e : cmpN a c = 0) : cmpN a b = 0 ∧ cmpN b c = 0 := by
  have e1 := cmpN_swap a c
  have e2 := cmpN_swap a b
  have e3 := cmpN_swap b c
  have h1 : cmpN b a ≤ 0 := cmpN_trans k (by omega)
  have h2 : cmpN c b ≤ 0 := cmpN_trans (by omega : cmpN c a ≤ 0) h
  omega
end Go.Proofs.Ytaconefooicplaa

namespace Go.Proofs.Ytaconefooicplaa
open Go.RowKit

theorem cmpB_eq {a b : List Int} (ha : ∀ c ∈ a, 0 ≤ c ∧ c ≤ 255) (hb : ∀ c ∈ b, 0 ≤ c ∧ c ≤ 255) : cmpB a b = 0 ↔ a = b := by
  have h1 := str_same a b
  rw [str_eq a b ha hb] at h1
  exact ⟨fun h => of_decide_eq_true (h1.trans (decide_eq_true h)), fun h => by subst h; exact cmpB_self a⟩

/-- All are bytes. -/
def ByteL (n : List (List Int)) : Prop := ∀ l ∈ n, ∀ c ∈ l, 0 ≤ c ∧ c ≤ 255
theorem cmpL_zero : ∀ {a b : List (List Int)}, ByteL a → ByteL b → cmpL a b = 0 → a = b
  | [], [], _, _, _ => rfl
  | [], _ :: _, _, _, h => by
    unfold cmpL at h
    omega
  | _ :: _, [], _, _, h => by
    unfold cmpL at h
    omega
  | x :: a, y :: b, ha, hb, h => by
    unfold cmpL at h
    by_cases e : cmpB x y = 0
    · simp only [e, ne_eq, not_true, if_false] at h
      rw [(cmpB_eq (ha x (by simp)) (hb y (by simp))).1 e, cmpL_zero (fun l hl => ha l (by simp [hl])) (fun l hl => hb l (by simp [hl])) h]
    · simp only [e, ne_eq, not_false_iff, if_true] at h
theorem cmpN_zero {a b : List (List Int)} (ha : ByteL a) (hb : ByteL b) : cmpN a b = 0 ↔ a = b := by
  refine ⟨fun h => ?_, fun h => by subst h; exact cmpN_self a⟩
  rw [cmpN_eq] at h
  have := cmpL_zero (fun l hl => ha l (by simpa using hl)) (fun l hl => hb l (by simpa using hl)) h
  simpa using congrArg List.reverse this
theorem labelOk_bytes {l : List Int} (h : labelOk l = true) : ∀ c ∈ l, 0 ≤ c ∧ c ≤ 255 := by
  intro c hc
  obtain ⟨j, hj, rfl⟩ := List.getElem_of_mem hc
  have h' := of_decide_eq_true h
  have := h'.2.2 j hj
  rw [List.getD_eq_getElem?_getD, List.getElem?_eq_getElem hj, Option.getD_some] at this
  have := of_decide_eq_true this
  omega
theorem nameOk_bytes {n : List (List Int)} (h : nameOk n = true) : ByteL n := by
  intro l hl
  obtain ⟨j, hj, rfl⟩ := List.getElem_of_mem hl
  have := (nameOk_parts h).2 j hj
  rw [List.getD_eq_getElem?_getD, List.getElem?_eq_getElem hj, Option.getD_some] at this
  exact labelOk_bytes this

theorem cmpL_prefix : ∀ (a b : List (List Int)), b ≠ [] → cmpL (a ++ b) a = 1
  | [], [], h => absurd rfl h
  | [], _ :: _, _ => rfl
  | x :: a, b, h => by
    show cmpL (x :: (a ++ b)) (x :: a) = 1
    unfold cmpL
    rw [cmpB_self]
    simp only [ne_eq, not_true, if_false]
    exact cmpL_prefix a b h
/-- A name under another, longer by k, comes behind it. -/
theorem cmpN_longer (a b : List (List Int)) (h : b ≠ []) : cmpN (b ++ a) a = 1 := by
  rw [cmpN_eq, List.reverse_append]
  exact cmpL_prefix _ _ (by simpa using h)
theorem endsWith_iff {n z : List (List Int)} (hn : ByteL n) (hz : ByteL z) : endsWith n z = true ↔ ∃ p, n = p ++ z := by
  constructor
  · intro h
    unfold endsWith at h
    simp only [Bool.and_eq_true, decide_eq_true_eq, beq_iff_eq] at h
    have := (cmpN_zero (fun l hl => hn l (List.mem_of_mem_drop hl)) hz).1 h.2
    refine ⟨n.take (n.length - z.length), ?_⟩
    conv => lhs; rw [← List.take_append_drop (n.length - z.length) n]
    rw [this]
  · rintro ⟨p, rfl⟩
    unfold endsWith
    have : (p ++ z).drop ((p ++ z).length - z.length) = z := by simp
    rw [this, cmpN_self]
    simp
theorem under_iff {n z : List (List Int)} (hn : nameOk n = true) (hz : nameOk z = true) : under n z = true ↔ ∃ p, n = p ++ z := by
  unfold under
  rw [hn, hz, Bool.true_and, Bool.true_and]
  exact endsWith_iff (nameOk_bytes hn) (nameOk_bytes hz)
end Go.Proofs.Ytaconefooicplaa
