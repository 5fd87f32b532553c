/-
  Plain facts: a text of bytes gone through rune by rune, and great letters turned into small ones. No program is named here. What NameGet reads, in plain words: one step after another, each a label or a pointer. What NameRead reads, in plain words. A slice of bytes made into a text. Plain facts: the decimal digits of a byte, and an address as four numbers with dots between. No program is named here. Plain facts: an address read from its text, as the program does it and as the specification does it, and that both read the same. No program is named here. Contracts of the specification's Lower.
-/
import Derived.Test.YtjgfljndeolmoaaFnInsidesG00
import Derived.Lib.OthersKept
import Derived.Test.YtjgfljndeolmoaaFnInsidesG01
import Derived.Test.YtjgfljndeolmoaaFnInsidesG02
import Derived.Lib.ItoaNum
import Derived.Lib.UnsafeStr
import Derived.Lib.Split
import Derived.Lib.SplitLaws
namespace Go.Proofs.Ytjgfljndeolmoaa
open Go.RowKit

/-- One byte, a great letter as a small one. -/
def low (x : Int) : Int := if 65 ≤ x ∧ x ≤ 90 then x + 32 else x
/-- The first k bytes lowered. -/
def lowered (l : List Int) (k : Nat) : List Int := (List.range l.length).map fun (j : Nat) => if j < k then low (l.getD j 0) else l.getD j 0

theorem lowered_length (l : List Int) (k : Nat) : (lowered l k).length = l.length := by simp [lowered]
theorem lowered_zero (l : List Int) : lowered l 0 = l := by
 apply List.ext_getElem?
 intro j
 by_cases hj : j < l.length <;> simp [lowered, hj]
theorem lowered_getD (l : List Int) (k i : Nat) (h : k ≤ i) : (lowered l k).getD i 0 = l.getD i 0 := by
 by_cases hi : i < l.length
 ·simp [lowered, hi, Nat.not_lt.2 h]
 ·simp [lowered, hi]
theorem lowered_succ (l : List Int) (k : Nat) : (lowered l k).set k (low (l.getD k 0)) = lowered l (k + 1) := by
 apply List.ext_getElem?
 intro j
 rw [List.getElem?_set]
 by_cases hj : j < l.length
 ·by_cases e : k = j
  ·subst e; simp [lowered, hj]
  ·have : j < k + 1 ↔ j < k := by omega
   simp [lowered, hj, e, this]
 ·simp [lowered, hj]
  omega
theorem low_high (x : Int) (h : x < 65 ∨ 90 < x) : low x = x := by unfold low; rw [if_neg (by omega)]
theorem low_great (x : Int) (h : 65 ≤ x) (h' : x ≤ 90) : low x = x + 32 := by unfold low; rw [if_pos ⟨h, h'⟩]
theorem lowered_same (l : List Int) (k k' : Nat) (hk : k ≤ k') (h : ∀ j, k ≤ j → j < k' → l.getD j 0 < 65 ∨ 90 < l.getD j 0) : lowered l k' = lowered l k := by
 unfold lowered
 apply List.map_congr_left
 intro j hj
 by_cases h1 : j < k
 ·rw [if_pos h1, if_pos (by omega)]
 ·rw [if_neg h1]
  by_cases h2 : j < k'
  ·rw [if_pos h2, low_high _ (h j (by omega) h2)]
  ·rw [if_neg h2]

end Go.Proofs.Ytjgfljndeolmoaa

namespace Go.Proofs.Ytjgfljndeolmoaa
set_option linter.unusedVariables false

/-- Every number of the list is a byte. -/
def Bytes8 (l : List Int) : Prop := ∀ k, 0 ≤ l.getD k 0 ∧ l.getD k 0 ≤ 255

end Go.Proofs.Ytjgfljndeolmoaa

namespace Go.Proofs.Ytjgfljndeolmoaa
set_option linter.unusedVariables false

/-- The labels that are still to come, cur being what has been read of one; e: was there anything at all. -/
def rest (e : Bool) : List Int → List Int → List (List Int)
 | [], cur => if cur.length = 0 ∧ e = true then [] else [lowered cur cur.length]
 | x :: xs, cur => if x = 46 then lowered cur cur.length :: rest e xs [] else rest e xs (cur ++ [x])

def labelsIn (l : List Int) : List (List Int) := rest (decide (0 < l.length)) l []

def nameRead (l : List Int) : List (List Int) × Bool := if l = [46] then ([], true) else if nameOk (labelsIn l) = true then (labelsIn l, true) else ([], false)

theorem drop_at {l : List Int} {i : Nat} (h : i < l.length) : l.drop i = l.getD i 0 :: l.drop (i + 1) := by
 rw [List.drop_eq_getElem_cons h, List.getD_eq_getElem?_getD, List.getElem?_eq_getElem h]; rfl
theorem rest_label {e : Bool} {l cur : List Int} {i : Nat} (h : i < l.length) (hx : l.getD i 0 ≠ 46) : rest e (l.drop i) cur = rest e (l.drop (i + 1)) (cur ++ [l.getD i 0]) := by
 rw [drop_at h, rest, if_neg hx]
theorem rest_dot {e : Bool} {l cur : List Int} {i : Nat} (h : i < l.length) (hx : l.getD i 0 = 46) : rest e (l.drop i) cur = lowered cur cur.length :: rest e (l.drop (i + 1)) [] := by
 rw [drop_at h, rest, if_pos hx]
theorem rest_end {e : Bool} {l cur : List Int} : rest e (l.drop l.length) cur = if cur.length = 0 ∧ e = true then [] else [lowered cur cur.length] := by
 rw [List.drop_length, rest]

theorem bytes8_nil : Bytes8 [] := fun k => by simp
theorem bytes8_snoc {l : List Int} (h : Bytes8 l) {x : Int} (h0 : 0 ≤ x) (h1 : x ≤ 255) : Bytes8 (l ++ [x]) := by
 intro k
 have := h k
 rw [List.getD_eq_getElem?_getD] at this ⊢
 by_cases hk : k < l.length
 ·rw [List.getElem?_append_left hk]; exact this
 ·rw [List.getElem?_append_right (by omega)]
  cases hq : k - l.length with
  | zero => simp; omega
  | succ q => simp
theorem nameRead_bound (l : List Int) : (nameRead l).1.length ≤ 6 ∧ ∀ i, i < (nameRead l).1.length → ((nameRead l).1.getD i []).length ≤ 15 := by
 unfold nameRead
 split
 ·simp
 ·split
  ·rename_i hok
   exact ⟨(nameOk_parts hok).1, fun i hi => (labelOk_length ((nameOk_parts hok).2 i hi)).2⟩
  ·simp
end Go.Proofs.Ytjgfljndeolmoaa

namespace Go.Proofs.Ytjgfljndeolmoaa
open Go.RowKit

theorem conv_has {v : Value} {l : List Int} {w : World} (h : Has w v l) : (convert 22 9 v).run Try.prog w = .ok (.string (strOfNums l)) w := by
 rcases h with ⟨rfl, rfl⟩ | ⟨g, off, cap, rfl, _, _, _, hc⟩
 ·exact run_convert_bytes_nil w 22 5 Try.underlying22 Try.underlying5 0 0 9 Try.underlying9
 ·exact run_convert_bytes_arg w 22 5 Try.underlying22 Try.underlying5 g off l.length cap l rfl hc 9 Try.underlying9
end Go.Proofs.Ytjgfljndeolmoaa

namespace Go.Proofs.Ytjgfljndeolmoaa
open Go.RowKit

end Go.Proofs.Ytjgfljndeolmoaa

namespace Go.Proofs.Ytjgfljndeolmoaa
open Go.RowKit

/-! ### The library's cut at dots is this one -/

theorem str_eq (a b : List Int) (ha : ∀ c ∈ a, 0 ≤ c ∧ c ≤ 255) (hb : ∀ c ∈ b, 0 ≤ c ∧ c ≤ 255) : ((strOfNums a).toList == (strOfNums b).toList) = decide (a = b) := by
 rw [ByteArray.toList_eq, ByteArray.toList_eq, strOfNums_data, strOfNums_data]
 by_cases e : a = b
 ·subst e; simp
 ·rw [decide_eq_false e]
  apply beq_eq_false_iff_ne.2
  intro h
  apply e
  clear e
  induction a generalizing b with
  | nil => cases b with
   | nil => rfl
   | cons d b => simp at h
  | cons c a ih => cases b with
   | nil => simp at h
   | cons d b =>
    simp only [List.map_cons, List.cons.injEq] at h
    have h1 := ha c (by simp)
    have h2 := hb d (by simp)
    have h3 := congrArg UInt8.toNat h.1
    rw [UInt8.toNat_ofNat', UInt8.toNat_ofNat'] at h3
    have h4 : c = d := by omega
    rw [h4, ih b (fun x hx => ha x (by simp [hx])) (fun x hx => hb x (by simp [hx])) h.2]
end Go.Proofs.Ytjgfljndeolmoaa

namespace Go.Proofs.Ytjgfljndeolmoaa
open Go.RowKit
set_option linter.unusedVariables false

set_option maxHeartbeats 400000 in
set_option maxRecDepth 100000 in
theorem specLower_some (B g cap : Nat) (l : List Int) (w : World) (h : Own B 5 w (.slice (some ⟨g, 0, none⟩) l.length cap) l) (hl : l.length ≤ 1048576) (hb : ∀ k, 0 ≤ l.getD k 0 ∧ l.getD k 0 ≤ 255) :
  Calls Try.prog 119 #[.slice (some ⟨g, 0, none⟩) l.length cap] w fun e w' => ∃ v, e = .returned v ∧ Own w.heap.size 5 w' v (lowered l l.length) ∧ Below w.heap.size w w' := by
 have hR := (h.alloc (.cells (([] : List Int).map (Value.int .u8)).toArray 5)).reads
 have HB := hide hb
 clear hb
 generalize hn : l.length = n at *
 have HN := hide hn
 clear hn
 go_enter Try.func119, Try.ntmps119
 go_wp2_with (at_builtin; refine append_bytes rfl _ _ 22 5 rfl Try.underlying22 info_u8 w.heap.size _ _ [] l rfl rfl (own_lit w w.heap.size 5 [] (Nat.le_refl _) (by simp)) hR (by rw [unhide HN]; simp; omega) (by simp) ?_)
 intro v1 w1 o1 hgrow
 have b1 : Below w.heap.size w w1 := ((Below.refl _ _).alloc (Nat.le_refl _) _).grown hgrow (by simp) (fun k hk => by simp [Value.ownBlock] at hk; omega)
 clear hgrow hR
 by_cases h0 : n = 0
 ·subst h0
  obtain rfl : l = [] := List.eq_nil_of_length_eq_zero (unhide HN)
  obtain ⟨a1, cap1, rfl, _⟩ := o1.lies
  go_wp2
  go_loop [4] (fun i => i = .int .i64 0) (fun i => 0)
  case atStart => rfl
  case round =>
   subst hrel
   go_wp2
   go_ret
   exact ⟨_, rfl, o1, b1⟩
 rcases o1.form with ⟨rfl, rfl⟩ | ⟨g1, cap1, hv1, hB1, hlt1, _⟩
 ·exact absurd (unhide HN).symm (by simpa using h0)
 ·rw [unhide HN] at hv1
  subst hv1
  clear h0
  go_wp2
  go_loopw [4] (fun i wr => ∃ k : Nat, k ≤ n ∧ i = .int .i64 k ∧ wr.ownsRow w.heap.size 5 1 (.slice (some ⟨g1, 0, none⟩) n cap1) n ((lowered l k).map (Value.int .u8)) ∧ Below w.heap.size w wr) (fun i _ => n - (intOf i).toNat)
  case atStart => exact ⟨0, Nat.zero_le _, rfl, by rw [lowered_zero]; have o2 := o1; unfold Own at o2; rw [unhide HN] at o2; exact o2, b1⟩
  case round =>
   obtain ⟨k, hk, rfl, ho, hbw⟩ := hrel
   by_cases hlt : k < n
   ·have hc := World.ownsRow.cellAt ho k (by omega)
    rw [map_at _ _ (by rw [lowered_length, unhide HN]; exact hlt), lowered_getD _ _ _ (Nat.le_refl _)] at hc
    have hf := World.ownsRow.frozenAt ho k
    have hx := (unhide HB) k
    have hst := hide (World.ownsRow.stored ho k (.int .u8 (low (l.getD k 0))))
    have HO := hide ho
    clear ho
    have hsucc := hide (lowered_succ l k)
    have hsame := hide (lowered_same l k (k + 1) (by omega))
    generalize hxe : l.getD k 0 = x at *
    have HX := hide hxe
    clear hxe
    by_cases h65 : 65 ≤ x
    ·by_cases h90 : x ≤ 90
     ·go_wp2
      refine ⟨⟨k + 1, by omega, by go_num, ?_, hbw.setCell hB1 _⟩, by simp [intOf]; omega⟩
      have := (unhide hst).1
      rw [← List.map_set, unhide hsucc, low_great x h65 h90] at this
      exact this
     ·go_wp2
      refine ⟨⟨k + 1, by omega, by go_num, ?_, hbw⟩, by simp [intOf]; omega⟩
      rw [unhide hsame (fun j h1 h2 => by (obtain rfl : j = k := by omega); (rw [unhide HX]; omega))]
      exact unhide HO
    ·go_wp2
     refine ⟨⟨k + 1, by omega, by go_num, ?_, hbw⟩, by simp [intOf]; omega⟩
     rw [unhide hsame (fun j h1 h2 => by (obtain rfl : j = k := by omega); (rw [unhide HX]; omega))]
     exact unhide HO
   ·go_wp2
    go_ret
    obtain rfl : k = n := by omega
    refine ⟨_, rfl, ?_, hbw⟩
    unfold Own
    rw [lowered_length, unhide HN]
    exact ho

set_option maxHeartbeats 400000 in
set_option maxRecDepth 100000 in
theorem specLower_nil (w : World) :
  Calls Try.prog 119 #[.slice none 0 0] w fun e w' => ∃ v, e = .returned v ∧ Own w.heap.size 5 w' v [] ∧ Below w.heap.size w w' := by
 go_enter Try.func119, Try.ntmps119
 go_wp2_with (at_builtin; refine append_bytes rfl _ _ 22 5 rfl Try.underlying22 info_u8 w.heap.size _ _ [] [] rfl rfl (own_lit w w.heap.size 5 [] (Nat.le_refl _) (by simp)) (.inl ⟨rfl, rfl⟩) (by simp) (by simp) ?_)
 intro v1 w1 o1 hgrow
 have b1 : Below w.heap.size w w1 := ((Below.refl _ _).alloc (Nat.le_refl _) _).grown hgrow (by simp) (fun k hk => by simp [Value.ownBlock] at hk; omega)
 clear hgrow
 obtain ⟨a1, cap1, rfl, _⟩ := o1.lies
 go_wp2
 go_loop [4] (fun i => i = .int .i64 0) (fun i => 0)
 case atStart => rfl
 case round =>
  subst hrel
  go_wp2
  go_ret
  exact ⟨_, rfl, o1, b1⟩

theorem specLower_any {B : Nat} {v : Value} {l : List Int} {w : World} (h : Own B 5 w v l) (hl : l.length ≤ 1048576) (hb : ∀ k, 0 ≤ l.getD k 0 ∧ l.getD k 0 ≤ 255) :
  Calls Try.prog 119 #[v] w fun e w' => ∃ v', e = .returned v' ∧ Own w.heap.size 5 w' v' (lowered l l.length) ∧ Below w.heap.size w w' := by
 rcases h.form with ⟨rfl, rfl⟩ | ⟨g, cap, rfl, _⟩
 ·exact specLower_nil w
 ·exact specLower_some B g cap l w h hl hb
end Go.Proofs.Ytjgfljndeolmoaa
