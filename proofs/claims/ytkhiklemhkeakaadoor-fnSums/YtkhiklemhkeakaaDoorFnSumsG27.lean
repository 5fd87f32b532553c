/-
  Contract of the specification's l7drawClient: one of three texts. What NameRead reads, in plain words.
-/
import Derived.Test.YtkhiklemhkeakaaDoorFnSumsG26
import Derived.Test.YtkhiklemhkeakaaDoorFnSumsG04
import Derived.Test.YtkhiklemhkeakaaDoorFnSumsG08
namespace Go.Proofs.YtkhiklemhkeakaaDoor
open Go.RowKit
set_option linter.unusedVariables false

def clientTexts : List ByteArray := [⟨#[109, 49]⟩, ⟨#[109, 50]⟩, ⟨#[109, 51]⟩]
theorem client_size : ∀ s ∈ clientTexts, s.size = 2 := by decide +kernel
theorem client_cell {w : World} {b : Nat} {t : TypeId} (h : w.heap[b]? = some (.cells #[.string ⟨#[109, 49]⟩, .string ⟨#[109, 50]⟩, .string ⟨#[109, 51]⟩] t)) {k : Nat} (hk : k < 3) : ∃ s, s ∈ clientTexts ∧ w.cell? ⟨b, k, none⟩ = some (.string s) := by
  have hc := block_cell h k
  match k, hk with
  | 0, _ => exact ⟨⟨#[109, 49]⟩, by simp [clientTexts], hc⟩
  | 1, _ => exact ⟨⟨#[109, 50]⟩, by simp [clientTexts], hc⟩
  | 2, _ => exact ⟨⟨#[109, 51]⟩, by simp [clientTexts], hc⟩
theorem has_same {w w' : World} {b off n cap : Nat} {l : List Int} (h : Has w (.slice (some ⟨b, off, none⟩) n cap) l) (hk : w'.heap[b]? = w.heap[b]?) (hs : w.heap.size ≤ w'.heap.size) : Has w' (.slice (some ⟨b, off, none⟩) n cap) l := by
  rcases h with ⟨h1, _⟩ | ⟨g, o, c, h1, h2, h3, h4, h5⟩
  · cases h1
  · simp only [Value.slice.injEq, Option.some.injEq, Addr.mk.injEq] at h1
    obtain ⟨⟨rfl, rfl, _⟩, rfl, rfl⟩ := h1
    refine .inr ⟨_, _, _, rfl, Nat.lt_of_lt_of_le h2 hs, h3, h4, fun i hi => ?_⟩
    have := h5 i hi
    unfold World.cell? at this ⊢
    rw [hk]
    exact this

set_option maxHeartbeats 1000000 in
set_option maxRecDepth 100000 in
theorem l7drawClient_any {g : Nat} {a : Option Addr} {len cap : Nat} {w : World} (hc : Cur w g a len cap) (hL : Code w g a len) (hm : len ≤ maxLen) :
    Calls Tryd.prog 20 #[.pointer (some ⟨g, 0, none⟩)] w fun e w' => ∃ b c m, e = .returned (.slice (some ⟨b, 0, none⟩) 2 c) ∧ w.heap.size ≤ b ∧ b < w'.heap.size ∧ Has w' (.slice (some ⟨b, 0, none⟩) 2 c) m ∧ m.length = 2 ∧ Bytes8 m ∧ Cur w' g a len cap ∧ w.grownBy w' (some g) := by
  have hg := hc.lt
  have ga := grown_alloc w (.cells #[.string ⟨#[109, 49]⟩, .string ⟨#[109, 50]⟩, .string ⟨#[109, 51]⟩] 9) (some g)
  have gn := grown_alloc w (.cells #[.string ⟨#[109, 49]⟩, .string ⟨#[109, 50]⟩, .string ⟨#[109, 51]⟩] 9) none
  have K0 := hide (heap_alloc_new w (.cells #[.string ⟨#[109, 49]⟩, .string ⟨#[109, 50]⟩, .string ⟨#[109, 51]⟩] 9))
  have HB := hide (l1Below_any 3 (hc.later gn (by simp)) (hL.later gn (by simp)) hm (by omega) (by omega))
  have G0 := hide ga
  clear hc hL ga gn
  go_enter Tryd.func20, Tryd.ntmps20
  go_wp2_with fail
  generalize w.alloc (.cells #[.string ⟨#[109, 49]⟩, .string ⟨#[109, 50]⟩, .string ⟨#[109, 51]⟩] 9) = W at *
  refine (unhide HB).mono ?_
  rintro e w1 ⟨x, rfl, hx0, hx1, hc1, g1⟩
  obtain ⟨k, rfl⟩ := Int.eq_ofNat_of_zero_le hx0
  have hk' : (k : Int) < 3 := by omega
  obtain ⟨s, hs, cs⟩ := client_cell (block_grown g1 (unhide K0) (by simp; omega)) (k := k) (by omega)
  have hsz := client_size s hs
  have hcv := run_bytes_of_string (P := Tryd.prog) w1 9 22 5 s Tryd.underlying9 Tryd.underlying22 Tryd.underlying5
  have hcap := grownCap_ge w1 s.size 0 5
  have hcap2 := grownCap_le_maxLen w1 s.size 0 5 (by unfold maxLen; omega)
  have hnl := numsOf_length s
  generalize grownCap w1 s.size 0 5 = C at *
  have HS := hide (has_str w1.drew 5 s C ((bytesRow s C).size, (bytesRow s C).size + 1) hcap hcap2)
  have gd : w1.grownBy (w1.drew.alloc (.cells (bytesRow s C) 5 ((bytesRow s C).size, (bytesRow s C).size + 1))) none := grown_trans (grown_draws w1 1 none) (grown_alloc w1.drew _ none)
  have HC := hide (hc1.later gd (by simp))
  have HG := hide (grown_own (grown_trans (unhide G0) g1) gd (by simp))
  have H8 := hide (numsOf_bytes s)
  have HNL := hide (show (numsOf s).length = 2 by rw [hnl, hsz])
  have zz := (unhide G0).size
  have z1 := g1.size
  have zl : w1.heap.size < (w1.drew.alloc (.cells (bytesRow s C) 5 ((bytesRow s C).size, (bytesRow s C).size + 1))).heap.size := by show w1.heap.size < (w1.heap.push _).size; simp
  have ZL := hide zl
  clear hc1 g1 gd HB G0 K0 hs hcap hcap2 hnl zl
  rw [hsz] at HS hcv
  go_wp2_with fail
  go_ret
  exact ⟨_, _, numsOf s, rfl, by omega, unhide ZL, unhide HS, unhide HNL, unhide H8, unhide HC, unhide HG⟩
end Go.Proofs.YtkhiklemhkeakaaDoor

namespace Go.Proofs.YtkhiklemhkeakaaDoor
set_option linter.unusedVariables false

/-- The labels that are still to come, cur being what has been read of one; e: was there anything at all. -/
def rest (e : Bool) : List Int → List Int → List (List Int)
  | [], cur => if cur.length = 0 ∧ e = true then [] else [lowered cur cur.length]
  | x :: xs, cur => if x = 46 then lowered cur cur.length :: rest e xs [] else rest e xs (cur ++ [x])

def labelsIn (l : List Int) : List (List Int) := rest (decide (0 < l.length)) l []

def nameRead (l : List Int) : List (List Int) × Bool := if l = [46] then ([], true) else if nameOk (labelsIn l) = true then (labelsIn l, true) else ([], false)

theorem drop_at {l : List Int} {i : Nat} (h : i < l.length) : l.drop i = l.getD i 0 :: l.drop (i + 1) := by
  rw [List.drop_eq_getElem_cons h, List.getD_eq_getElem?_getD, List.getElem?_eq_getElem h]; rfl
theorem rest_label {e : Bool} {l cur : List Int} {i : Nat} (h : i < l.length) (hx : l.getD i 0 ≠ 46) : rest e (l.drop i) cur = rest e (l.drop (i + 1)) (cur ++ [l.getD i 0]) := by
  rw [drop_at h, rest, if_neg hx]
theorem rest_dot {e : Bool} {l cur : List Int} {i : Nat} (h : i < l.length) (hx : l.getD i 0 = 46) : rest e (l.drop i) cur = lowered cur cur.length :: rest e (l.drop (i + 1)) [] := by
  rw [drop_at h, rest, if_pos hx]
theorem rest_end {e : Bool} {l cur : List Int} : rest e (l.drop l.length) cur = if cur.length = 0 ∧ e = true then [] else [lowered cur cur.length] := by
  rw [List.drop_length, rest]

theorem bytes8_nil : Bytes8 [] := fun k => by simp
theorem bytes8_snoc {l : List Int} (h : Bytes8 l) {x : Int} (h0 : 0 ≤ x) (h1 : x ≤ 255) : Bytes8 (l ++ [x]) := by
  intro k
  have := h k
  rw [List.getD_eq_getElem?_getD] at this ⊢
  by_cases hk : k < l.length
  · rw [List.getElem?_append_left hk]; exact this
  · rw [List.getElem?_append_right (by omega)]
    cases hq : k - l.length with
    | zero => simp; omega
    | succ q => simp
theorem nameRead_bound (l : List Int) : (nameRead l).1.length ≤ 6 ∧ ∀ i, i < (nameRead l).1.length → ((nameRead l).1.getD i []).length ≤ 15 := by
  unfold nameRead
  split
  · simp
  · split
    · rename_i hok
      exact ⟨(nameOk_parts hok).1, fun i hi => (labelOk_length ((nameOk_parts hok).2 i hi)).2⟩
    · simp
end Go.Proofs.YtkhiklemhkeakaaDoor
