/-
  Plain facts: a name comes back from its text, great letters being as small ones. No program is named here. Contract of the laws' sameName.
-/
import Derived.Test.YtaconefooicplaaFnNameOrderG03
import Derived.Test.YtaconefooicplaaFnNameOrderG16
import Derived.Test.YtaconefooicplaaFnNameOrderG15
import Derived.Test.YtaconefooicplaaFnNameOrderG08
import Derived.Deep.RegionHeld3
namespace Go.Proofs.Ytaconefooicplaa
open Go.RowKit

theorem lowered_map (l : List Int) : lowered l l.length = l.map low := by
  apply List.ext_getElem?
  intro j
  by_cases hj : j < l.length
  · simp [lowered, hj]
  · simp [lowered, hj]

theorem rest_one (e : Bool) (f : Int → Int) (h46 : f 46 = 46) : ∀ (l cur xs : List Int), (∀ c ∈ l, f c ≠ 46) → rest e ((l ++ 46 :: xs).map f) cur = (cur ++ l.map f).map low :: rest e (xs.map f) []
  | [], cur, xs, _ => by
    show rest e (f 46 :: xs.map f) cur = _
    rw [rest, if_pos h46, lowered_map]
    simp
  | x :: l, cur, xs, h => by
    show rest e (f x :: (l ++ 46 :: xs).map f) cur = _
    rw [rest, if_neg (h x (by simp)), rest_one e f h46 l _ xs (fun c hc => h c (by simp [hc]))]
    simp

/-- What leaves a sign as it is, or makes it great. -/
structure Keeps (f : Int → Int) : Prop where
  dot : f 46 = 46
  sign : ∀ c, signOk c = true → f c ≠ 46 ∧ low (f c) = c

def upC (x : Int) : Int := if 97 ≤ x ∧ x ≤ 122 then x - 32 else x
theorem keeps_id : Keeps id := ⟨rfl, fun c h => by
  have := of_decide_eq_true h
  simp only [id]
  unfold low
  split <;> omega⟩
theorem keeps_up : Keeps upC := ⟨by decide, fun c h => by
  have := of_decide_eq_true h
  unfold upC low
  split <;> split <;> omega⟩

theorem dots_cons (l : List Int) (n : List (List Int)) : dots (l :: n) (l :: n).length = l ++ 46 :: dots n n.length := by
  unfold dots
  rw [List.take_length, List.take_length]
  simp
theorem rest_text {f : Int → Int} (hf : Keeps f) : ∀ (n : List (List Int)), (∀ l ∈ n, ∀ c ∈ l, signOk c = true) → rest true ((dots n n.length).map f) [] = n
  | [], _ => rfl
  | l :: n, h => by
    rw [dots_cons, rest_one true f hf.dot l [] _ (fun c hc => (hf.sign c (h l (by simp) c hc)).1), rest_text hf n (fun l' hl => h l' (by simp [hl]))]
    congr 1
    rw [List.nil_append, List.map_map]
    have : l.map (low ∘ f) = l.map id := List.map_congr_left (fun c hc => (hf.sign c (h l (by simp) c hc)).2)
    rw [this, List.map_id]

theorem nameOk_signs {n : List (List Int)} (h : nameOk n = true) : ∀ l ∈ n, (1 ≤ l.length) ∧ ∀ c ∈ l, signOk c = true := by
  intro l hl
  obtain ⟨j, hj, rfl⟩ := List.getElem_of_mem hl
  have hk := (nameOk_parts h).2 j hj
  rw [List.getD_eq_getElem?_getD, List.getElem?_eq_getElem hj, Option.getD_some] at hk
  have hd := of_decide_eq_true hk
  refine ⟨hd.1, fun c hc => ?_⟩
  obtain ⟨i, hi, rfl⟩ := List.getElem_of_mem hc
  have := hd.2.2 i hi
  rwa [List.getD_eq_getElem?_getD, List.getElem?_eq_getElem hi, Option.getD_some] at this

theorem nameRead_text {f : Int → Int} (hf : Keeps f) {n : List (List Int)} (h : nameOk n = true) : nameRead ((nameText n).map f) = (n, true) := by
  by_cases h0 : n.length = 0
  · rw [nameText_root h h0]
    have : n = [] := List.eq_nil_of_length_eq_zero h0
    subst this
    unfold nameRead
    rw [if_pos (by simp [hf.dot])]
  · rw [nameText_some h h0]
    have hs := nameOk_signs h
    have hr := rest_text hf n (fun l hl => (hs l hl).2)
    match n, h0 with
    | l :: n, _ =>
      have hl := (hs l (by simp)).1
      have hlen : 2 ≤ ((dots (l :: n) (l :: n).length).map f).length := by
        rw [dots_cons]
        simp
        omega
      have hin : labelsIn ((dots (l :: n) (l :: n).length).map f) = l :: n := by
        unfold labelsIn
        rw [decide_eq_true (by omega)]
        exact hr
      unfold nameRead
      rw [if_neg (fun e => by rw [e] at hlen; simp at hlen), hin, if_pos h]

theorem nameRead_text' {n : List (List Int)} (h : nameOk n = true) : nameRead (nameText n) = (n, true) := by
  have := nameRead_text keeps_id h
  rwa [List.map_id] at this
theorem nameText_inj {n m : List (List Int)} (h : nameOk n = true) (h' : nameOk m = true) : nameText n = nameText m ↔ n = m := by
  refine ⟨fun e => ?_, fun e => by rw [e]⟩
  have h1 := nameRead_text' h
  rw [e, nameRead_text' h'] at h1
  exact (Prod.mk.inj h1).1.symm
theorem nameText_bytes (n : List (List Int)) : ∀ c ∈ nameText n, 0 ≤ c ∧ c ≤ 255 := by
  intro c hc
  unfold nameText at hc
  split at hc
  · rename_i h
    split at hc
    · simp at hc
      omega
    · unfold dots at hc
      rw [List.take_length] at hc
      simp only [List.mem_flatten, List.mem_map] at hc
      obtain ⟨x, ⟨l, hl, rfl⟩, hc⟩ := hc
      simp at hc
      rcases hc with hc | rfl
      · have := of_decide_eq_true ((nameOk_signs h l hl).2 c hc)
        omega
      · omega
  · simp at hc
theorem nameRead_ok (l : List Int) : (nameRead l).2 = true → nameOk (nameRead l).1 = true := by
  unfold nameRead
  split
  · intro _
    decide
  · split
    · intro _
      assumption
    · intro h
      cases h
end Go.Proofs.Ytaconefooicplaa

namespace Go.Proofs.Ytaconefooicplaa
open Go.RowKit
set_option linter.unusedVariables false

set_option maxHeartbeats 1000000 in
set_option maxRecDepth 100000 in
theorem sameName_has {v v' : Value} {n n' : List (List Int)} {w : World} (h : HasL w v n) (h' : HasL w v' n') :
    Calls Try.prog 16 #[.agg #[v], .agg #[v']] w fun e w' => e = .returned (.bool (decide (nameText n = nameText n'))) ∧ Below w.heap.size w w' := by
  obtain ⟨a, cap, rfl, _⟩ := h.form
  obtain ⟨a', cap', rfl, _⟩ := h'.form
  have b0 := below2 w (.cells #[.slice a n.length cap] 25) (.cells #[.slice a' n'.length cap'] 25)
  obtain ⟨hsz, k0, x0⟩ := box2 w (.cells #[.slice a n.length cap] 25) #[.slice a' n'.length cap'] 25
  have H0 := hide (h.below b0)
  have H0' := hide (h'.below b0)
  have K0 := hide k0
  have X0 := hide x0
  have hB := nameText_bytes n
  have hB' := nameText_bytes n'
  have SP := fun (w : World) (x : Value) (h : HasL w x n) => specNameText_has h
  have SP' := fun (w : World) (x : Value) (h : HasL w x n') => specNameText_has h
  have HBB := hide hB
  have HBB' := hide hB'
  replace SP := hide SP
  replace SP' := hide SP'
  clear h h' k0 x0 hB hB'
  generalize nameText n = T at *
  generalize nameText n' = T' at *
  go_enter Try.func16, Try.ntmps16
  go_wp2_with fail
  generalize (w.alloc (.cells #[.slice a n.length cap] 25)).alloc (.cells #[.slice a' n'.length cap'] 25) = W at *
  have bd := below_drew (w := W)
  have K1 := hide (block_kept bd (unhide K0))
  have X1 := hide (block_kept bd (unhide X0))
  have H1 := hide ((unhide H0).below bd)
  have H1' := hide ((unhide H0').below bd)
  have bb := below_next b0 bd
  have c1 := block_one (unhide K1)
  have c1' := block_one (unhide X1)
  clear bd b0 K0 X0 H0 H0' hsz
  go_region_held3 (fun w' => w'.cell? ⟨w.heap.size, 0, none⟩ = some (.slice a n.length cap) ∧ w'.cell? ⟨w.heap.size + 1, 0, none⟩ = some (.slice a' n'.length cap'))
    (first | exact ⟨block_one (unhide K1), block_one (unhide X1)⟩ | exact ⟨block_one (block_kept q3 (unhide K1)), block_one (block_kept q3 (unhide X1))⟩ | exact ⟨block_one (block_kept b2 (unhide K1)), block_one (block_kept b2 (unhide X1))⟩)
    (first
    | (go_at_call 41; refine (same_has (u2.below b3) u3 (unhide HBB) (unhide HBB')).mono ?_; rintro e w4 ⟨rfl, rfl⟩)
    | (go_at_call 48; refine (unhide SP _ _ (unhide H1)).mono ?_; rintro e w2 ⟨t2, rfl, u2, b2⟩; obtain ⟨ta2, tc2, rfl, _⟩ := u2.form)
    | (go_at_call 48; refine (unhide SP' _ _ ((unhide H1').below b2)).mono ?_; rintro e w3 ⟨t3, rfl, u3, b3⟩; obtain ⟨ta3, tc3, rfl, _⟩ := u3.form; have q3 := below_next b2 b3))
  go_wp2_with fail
  go_ret
  exact ⟨rfl, below_next bb q3⟩
end Go.Proofs.Ytaconefooicplaa
