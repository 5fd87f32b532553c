/-
  Plain facts: names that are the same, names that end with others, and their order. No program is named here. Plain facts: a name comes back from its text, great letters being as small ones. No program is named here.
-/
import Derived.Test.YtdghbcjlahjjdaaFnRecordOrderG34
import Derived.Test.YtdghbcjlahjjdaaFnRecordOrderG16
import Derived.Test.YtdghbcjlahjjdaaFnRecordOrderG15
import Derived.Test.YtdghbcjlahjjdaaFnRecordOrderG31
namespace Go.Proofs.Ytdghbcjlahjjdaa
open Go.RowKit

theorem cmpB_eq {a b : List Int} (ha : ∀ c ∈ a, 0 ≤ c ∧ c ≤ 255) (hb : ∀ c ∈ b, 0 ≤ c ∧ c ≤ 255) : cmpB a b = 0 ↔ a = b := by
  have h1 := str_same a b
  rw [str_eq a b ha hb] at h1
  exact ⟨fun h => of_decide_eq_true (h1.trans (decide_eq_true h)), fun h => by subst h; exact cmpB_self a⟩

/-- All are bytes. -/
def ByteL (n : List (List Int)) : Prop := ∀ l ∈ n, ∀ c ∈ l, 0 ≤ c ∧ c ≤ 255
theorem cmpL_zero : ∀ {a b : List (List Int)}, ByteL a → ByteL b → cmpL a b = 0 → a = b
  | [], [], _, _, _ => rfl
  | [], _ :: _, _, _, h => by
    unfold cmpL at h
    omega
  | _ :: _, [], _, _, h => by
    unfold cmpL at h
    omega
  | x :: a, y :: b, ha, hb, h => by
    unfold cmpL at h
    by_cases e : cmpB x y = 0
    · simp only [e, ne_eq, not_true, if_false] at h
      rw [(cmpB_eq (ha x (by simp)) (hb y (by simp))).1 e, cmpL_zero (fun l hl => ha l (by simp [hl])) (fun l hl => hb l (by simp [hl])) h]
    · simp only [e, ne_eq, not_false_iff, if_true] at h
theorem cmpN_zero {a b : List (List Int)} (ha : ByteL a) (hb : ByteL b) : cmpN a b = 0 ↔ a = b := by
  refine ⟨fun h => ?_, fun h => by subst h; exact cmpN_self a⟩
  rw [cmpN_eq] at h
  have := cmpL_zero (fun l hl => ha l (by simpa using hl)) (fun l hl => hb l (by simpa using hl)) h
  simpa using congrArg List.reverse this
theorem labelOk_bytes {l : List Int} (h : labelOk l = true) : ∀ c ∈ l, 0 ≤ c ∧ c ≤ 255 := by
  intro c hc
  obtain ⟨j, hj, rfl⟩ := List.getElem_of_mem hc
  have h' := of_decide_eq_true h
  have := h'.2.2 j hj
  rw [List.getD_eq_getElem?_getD, List.getElem?_eq_getElem hj, Option.getD_some] at this
  have := of_decide_eq_true this
  omega
theorem nameOk_bytes {n : List (List Int)} (h : nameOk n = true) : ByteL n := by
  intro l hl
  obtain ⟨j, hj, rfl⟩ := List.getElem_of_mem hl
  have := (nameOk_parts h).2 j hj
  rw [List.getD_eq_getElem?_getD, List.getElem?_eq_getElem hj, Option.getD_some] at this
  exact labelOk_bytes this

theorem cmpL_prefix : ∀ (a b : List (List Int)), b ≠ [] → cmpL (a ++ b) a = 1
  | [], [], h => absurd rfl h
  | [], _ :: _, _ => rfl
  | x :: a, b, h => by
    show cmpL (x :: (a ++ b)) (x :: a) = 1
    unfold cmpL
    rw [cmpB_self]
    simp only [ne_eq, not_true, if_false]
    exact cmpL_prefix a b h
/-- A name under another, longer by k, comes behind it. -/
theorem cmpN_longer (a b : List (List Int)) (h : b ≠ []) : cmpN (b ++ a) a = 1 := by
  rw [cmpN_eq, List.reverse_append]
  exact cmpL_prefix _ _ (by simpa using h)
theorem endsWith_iff {n z : List (List Int)} (hn : ByteL n) (hz : ByteL z) : endsWith n z = true ↔ ∃ p, n = p ++ z := by
  constructor
  · intro h
    unfold endsWith at h
    simp only [Bool.and_eq_true, decide_eq_true_eq, beq_iff_eq] at h
    have := (cmpN_zero (fun l hl => hn l (List.mem_of_mem_drop hl)) hz).1 h.2
    refine ⟨n.take (n.length - z.length), ?_⟩
    conv => lhs; rw [← List.take_append_drop (n.length - z.length) n]
    rw [this]
  · rintro ⟨p, rfl⟩
    unfold endsWith
    have : (p ++ z).drop ((p ++ z).length - z.length) = z := by simp
    rw [this, cmpN_self]
    simp
theorem under_iff {n z : List (List Int)} (hn : nameOk n = true) (hz : nameOk z = true) : under n z = true ↔ ∃ p, n = p ++ z := by
  unfold under
  rw [hn, hz, Bool.true_and, Bool.true_and]
  exact endsWith_iff (nameOk_bytes hn) (nameOk_bytes hz)
end Go.Proofs.Ytdghbcjlahjjdaa

namespace Go.Proofs.Ytdghbcjlahjjdaa
open Go.RowKit

theorem lowered_map (l : List Int) : lowered l l.length = l.map low := by
  apply List.ext_getElem?
  intro j
  by_cases hj : j < l.length
  · simp [lowered, hj]
  · simp [lowered, hj]

theorem rest_one (e : Bool) (f : Int → Int) (h46 : f 46 = 46) : ∀ (l cur xs : List Int), (∀ c ∈ l, f c ≠ 46) → rest e ((l ++ 46 :: xs).map f) cur = (cur ++ l.map f).map low :: rest e (xs.map f) []
  | [], cur, xs, _ => by
    show rest e (f 46 :: xs.map f) cur = _
    rw [rest, if_pos h46, lowered_map]
    simp
  | x :: l, cur, xs, h => by
    show rest e (f x :: (l ++ 46 :: xs).map f) cur = _
    rw [rest, if_neg (h x (by simp)), rest_one e f h46 l _ xs (fun c hc => h c (by simp [hc]))]
    simp

/-- What leaves a sign as it is, or makes it great. -/
structure Keeps (f : Int → Int) : Prop where
  dot : f 46 = 46
  sign : ∀ c, signOk c = true → f c ≠ 46 ∧ low (f c) = c

def upC (x : Int) : Int := if 97 ≤ x ∧ x ≤ 122 then x - 32 else x
theorem keeps_id : Keeps id := ⟨rfl, fun c h => by
  have := of_decide_eq_true h
  simp only [id]
  unfold low
  split <;> omega⟩
theorem keeps_up : Keeps upC := ⟨by decide, fun c h => by
  have := of_decide_eq_true h
  unfold upC low
  split <;> split <;> omega⟩

theorem dots_cons (l : List Int) (n : List (List Int)) : dots (l :: n) (l :: n).length = l ++ 46 :: dots n n.length := by
  unfold dots
  rw [List.take_length, List.take_length]
  simp
theorem rest_text {f : Int → Int} (hf : Keeps f) : ∀ (n : List (List Int)), (∀ l ∈ n, ∀ c ∈ l, signOk c = true) → rest true ((dots n n.length).map f) [] = n
  | [], _ => rfl
  | l :: n, h => by
    rw [dots_cons, rest_one true f hf.dot l [] _ (fun c hc => (hf.sign c (h l (by simp) c hc)).1), rest_text hf n (fun l' hl => h l' (by simp [hl]))]
    congr 1
    rw [List.nil_append, List.map_map]
    have : l.map (low ∘ f) = l.map id := List.map_congr_left (fun c hc => (hf.sign c (h l (by simp) c hc)).2)
    rw [this, List.map_id]

theorem nameOk_signs {n : List (List Int)} (h : nameOk n = true) : ∀ l ∈ n, (1 ≤ l.length) ∧ ∀ c ∈ l, signOk c = true := by
  intro l hl
  obtain ⟨j, hj, rfl⟩ := List.getElem_of_mem hl
  have hk := (nameOk_parts h).2 j hj
  rw [List.getD_eq_getElem?_getD, List.getElem?_eq_getElem hj, Option.getD_some] at hk
  have hd := of_decide_eq_true hk
  refine ⟨hd.1, fun c hc => ?_⟩
  obtain ⟨i, hi, rfl⟩ := List.getElem_of_mem hc
  have := hd.2.2 i hi
  rwa [List.getD_eq_getElem?_getD, List.getElem?_eq_getElem hi, Option.getD_some] at this

theorem nameRead_text {f : Int → Int} (hf : Keeps f) {n : List (List Int)} (h : nameOk n = true) : nameRead ((nameText n).map f) = (n, true) := by
  by_cases h0 : n.length = 0
  · rw [nameText_root h h0]
    have : n = [] := List.eq_nil_of_length_eq_zero h0
    subst this
    unfold nameRead
    rw [if_pos (by simp [hf.dot])]
  · rw [nameText_some h h0]
    have hs := nameOk_signs h
    have hr := rest_text hf n (fun l hl => (hs l hl).2)
    match n, h0 with
    | l :: n, _ =>
      have hl := (hs l (by simp)).1
      have hlen : 2 ≤ ((dots (l :: n) (l :: n).length).map f).length := by
        rw [dots_cons]
        simp
        omega
      have hin : labelsIn ((dots (l :: n) (l :: n).length).map f) = l :: n := by
        unfold labelsIn
        rw [decide_eq_true (by omega)]
        exact hr
      unfold nameRead
      rw [if_neg (fun e => by rw [e] at hlen; simp at hlen), hin, if_pos h]

theorem nameRead_text' {n : List (List Int)} (h : nameOk n = true) : nameRead (nameText n) = (n, true) := by
  have := nameRead_text keeps_id h
  rwa [List.map_id] at this
theorem nameText_inj {n m : List (List Int)} (h : nameOk n = true) (h' : nameOk m = true) : nameText n = nameText m ↔ n = m := by
  refine ⟨fun e => ?_, fun e => by rw [e]⟩
  have h1 := nameRead_text' h
  rw [e, nameRead_text' h'] at h1
  exact (Prod.mk.inj h1).1.symm
theorem nameText_bytes (n : List (List Int)) : ∀ c ∈ nameText n, 0 ≤ c ∧ c ≤ 255 := by
  intro c hc
  unfold nameText at hc
  split at hc
  · rename_i h
    split at hc
    · simp at hc
      omega
    · unfold dots at hc
      rw [List.take_length] at hc
      simp only [List.mem_flatten, List.mem_map] at hc
      obtain ⟨x, ⟨l, hl, rfl⟩, hc⟩ := hc
      simp at hc
      rcases hc with hc | rfl
      · have := of_decide_eq_true ((nameOk_signs h l hl).2 c hc)
        omega
      · omega
  · simp at hc
theorem nameRead_ok (l : List Int) : (nameRead l).2 = true → nameOk (nameRead l).1 = true := by
  unfold nameRead
  split
  · intro _
    decide
  · split
    · intro _
      assumption
    · intro h
      cases h
end Go.Proofs.Ytdghbcjlahjjdaa
