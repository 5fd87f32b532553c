/-
  Plain facts: a name comes back from its text, great letters being as small ones. No program is named here. Contract of the specification's l2text: the text of a name that may be, and where it lies.
-/
import Derived.Test.YtaconefooicplaaFnNameWireG03
import Derived.Test.YtaconefooicplaaFnNameWireG18
import Derived.Test.YtaconefooicplaaFnNameWireG13
namespace Go.Proofs.Ytaconefooicplaa
open Go.RowKit

theorem lowered_map (l : List Int) : lowered l l.length = l.map low := by
  apply List.ext_getElem?
  intro j
  by_cases hj : j < l.length
  · simp [lowered, hj]
  · simp [lowered, hj]

theorem rest_one (e : Bool) (f : Int → Int) (h46 : f 46 = 46) : ∀ (l cur xs : List Int), (∀ c ∈ l, f c ≠ 46) → rest e ((l ++ 46 :: xs).map f) cur = (cur ++ l.map f).map low :: rest e (xs.map f) []
  | [], cur, xs, _ => by
    show rest e (f 46 :: xs.map f) cur = _
    rw [rest, if_pos h46, lowered_map]
    simp
  | x :: l, cur, xs, h => by
    show rest e (f x :: (l ++ 46 :: xs).map f) cur = _
    rw [rest, if_neg (h x (by simp)), rest_one e f h46 l _ xs (fun c hc => h c (by simp [hc]))]
    simp

/-- What leaves a sign as it is, or makes it great. -/
structure Keeps (f : Int → Int) : Prop where
  dot : f 46 = 46
  sign : ∀ c, signOk c = true → f c ≠ 46 ∧ low (f c) = c

def upC (x : Int) : Int := if 97 ≤ x ∧ x ≤ 122 then x - 32 else x
theorem keeps_id : Keeps id := ⟨rfl, fun c h => by
  have := of_decide_eq_true h
  simp only [id]
  unfold low
  split <;> omega⟩
theorem keeps_up : Keeps upC := ⟨by decide, fun c h => by
  have := of_decide_eq_true h
  unfold upC low
  split <;> split <;> omega⟩

theorem dots_cons (l : List Int) (n : List (List Int)) : dots (l :: n) (l :: n).length = l ++ 46 :: dots n n.length := by
  unfold dots
  rw [List.take_length, List.take_length]
  simp
theorem rest_text {f : Int → Int} (hf : Keeps f) : ∀ (n : List (List Int)), (∀ l ∈ n, ∀ c ∈ l, signOk c = true) → rest true ((dots n n.length).map f) [] = n
  | [], _ => rfl
  | l :: n, h => by
    rw [dots_cons, rest_one true f hf.dot l [] _ (fun c hc => (hf.sign c (h l (by simp) c hc)).1), rest_text hf n (fun l' hl => h l' (by simp [hl]))]
    congr 1
    rw [List.nil_append, List.map_map]
    have : l.map (low ∘ f) = l.map id := List.map_congr_left (fun c hc => (hf.sign c (h l (by simp) c hc)).2)
    rw [this, List.map_id]

theorem nameOk_signs {n : List (List Int)} (h : nameOk n = true) : ∀ l ∈ n, (1 ≤ l.length) ∧ ∀ c ∈ l, signOk c = true := by
  intro l hl
  obtain ⟨j, hj, rfl⟩ := List.getElem_of_mem hl
  have hk := (nameOk_parts h).2 j hj
  rw [List.getD_eq_getElem?_getD, List.getElem?_eq_getElem hj, Option.getD_some] at hk
  have hd := of_decide_eq_true hk
  refine ⟨hd.1, fun c hc => ?_⟩
  obtain ⟨i, hi, rfl⟩ := List.getElem_of_mem hc
  have := hd.2.2 i hi
  rwa [List.getD_eq_getElem?_getD, List.getElem?_eq_getElem hi, Option.getD_some] at this

theorem nameRead_text {f : Int → Int} (hf : Keeps f) {n : List (List Int)} (h : nameOk n = true) : nameRead ((nameText n).map f) = (n, true) := by
  by_cases h0 : n.length = 0
  · rw [nameText_root h h0]
    have : n = [] := List.eq_nil_of_length_eq_zero h0
    subst this
    unfold nameRead
    rw [if_pos (by simp [hf.dot])]
  · rw [nameText_some h h0]
    have hs := nameOk_signs h
    have hr := rest_text hf n (fun l hl => (hs l hl).2)
    match n, h0 with
    | l :: n, _ =>
      have hl := (hs l (by simp)).1
      have hlen : 2 ≤ ((dots (l :: n) (l :: n).length).map f).length := by
        rw [dots_cons]
        simp
        omega
      have hin : labelsIn ((dots (l :: n) (l :: n).length).map f) = l :: n := by
        unfold labelsIn
        rw [decide_eq_true (by omega)]
        exact hr
      unfold nameRead
      rw [if_neg (fun e => by rw [e] at hlen; simp at hlen), hin, if_pos h]

theorem nameRead_text' {n : List (List Int)} (h : nameOk n = true) : nameRead (nameText n) = (n, true) := by
  have := nameRead_text keeps_id h
  rwa [List.map_id] at this
theorem nameText_inj {n m : List (List Int)} (h : nameOk n = true) (h' : nameOk m = true) : nameText n = nameText m ↔ n = m := by
  refine ⟨fun e => ?_, fun e => by rw [e]⟩
  have h1 := nameRead_text' h
  rw [e, nameRead_text' h'] at h1
  exact (Prod.mk.inj h1).1.symm
theorem nameText_bytes (n : List (List Int)) : ∀ c ∈ nameText n, 0 ≤ c ∧ c ≤ 255 := by
  intro c hc
  unfold nameText at hc
  split at hc
  · rename_i h
    split at hc
    · simp at hc
      omega
    · unfold dots at hc
      rw [List.take_length] at hc
      simp only [List.mem_flatten, List.mem_map] at hc
      obtain ⟨x, ⟨l, hl, rfl⟩, hc⟩ := hc
      simp at hc
      rcases hc with hc | rfl
      · have := of_decide_eq_true ((nameOk_signs h l hl).2 c hc)
        omega
      · omega
  · simp at hc
theorem nameRead_ok (l : List Int) : (nameRead l).2 = true → nameOk (nameRead l).1 = true := by
  unfold nameRead
  split
  · intro _
    decide
  · split
    · intro _
      assumption
    · intro h
      cases h
end Go.Proofs.Ytaconefooicplaa

namespace Go.Proofs.Ytaconefooicplaa
open Go.RowKit
set_option linter.unusedVariables false

set_option maxHeartbeats 1000000 in
set_option maxRecDepth 100000 in
theorem l2text_rootT {a : Option Addr} {cap : Nat} {w : World} :
    Calls Try.prog 44 #[.agg #[.slice a 0 cap]] w fun e w' => ∃ v', e = .returned v' ∧ Has w' v' [46] ∧ Typed 5 w' v' ∧ Below w.heap.size w w' := by
  have hcid := fun (w : World) (C : Array Value) (n c : Nat) => Lib.run_convert_bytes_const (P := Try.prog) w 22 5 C n c Try.underlying22 Try.underlying5
  have b0 := below_alloc (w := w) (.cells #[.slice a 0 cap] 25)
  have hz : (w.alloc (.cells #[.slice a 0 cap] 25)).heap.size = w.heap.size + 1 := by show (w.heap.push _).size = _; simp
  have hcid2 := fun (C : Array Value) (n c : Nat) => hcid (w.alloc (.cells #[.slice a 0 cap] 25)) C n c
  have hh := has_const (w.alloc (.cells #[.slice a 0 cap] 25)) 5 [46] (1, 2) (by simp [maxLen])
  have ht := typed_const (w.alloc (.cells #[.slice a 0 cap] 25)) 5 #[.int .u8 46] (1, 2) 1 1
  rw [hz] at hcid2 hh ht
  have HH := hide hh
  have HT := hide ht
  clear hcid hz hh ht
  go_enter Try.func44, Try.ntmps44
  go_wp2
  go_ret
  exact ⟨_, rfl, unhide HH, unhide HT, b0.alloc b0.size _⟩
theorem l2text_ok {v : Value} {n : List (List Int)} {w : World} (h : HasL w v n) (hok : nameOk n = true) :
    Calls Try.prog 44 #[.agg #[v]] w fun e w' => ∃ v', e = .returned v' ∧ Has w' v' (nameText n) ∧ Typed 5 w' v' ∧ Below w.heap.size w w' := by
  obtain ⟨a, cap, rfl, _⟩ := h.form
  by_cases h0 : n.length = 0
  · rw [nameText_root hok h0, h0]
    exact l2text_rootT
  · rw [nameText_some hok h0]
    refine (l2text_some h hok h0).mono ?_
    rintro e w' ⟨v', he, o, b⟩
    exact ⟨v', he, o.has, o.typed, b⟩
end Go.Proofs.Ytaconefooicplaa
