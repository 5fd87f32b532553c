/-
  Plain facts for the program's functions that take records out of a zone. Contract of the program's set, at the book of a zone that may be and a name that may be. Contract of the program's askable. Plain facts: the records that stay, and how many go, of the first k. No program is named here.
-/
import Derived.Test.YtfgcmjpkgdjcfaaGreatDropSetG29
import Derived.Test.YtfgcmjpkgdjcfaaGreatDropSetG31
import Derived.Test.YtfgcmjpkgdjcfaaGreatDropSetG27
import Derived.Test.YtfgcmjpkgdjcfaaGreatDropSetG15
import Derived.Test.YtfgcmjpkgdjcfaaGreatDropSetG32
import Derived.Deep.RegionHeld3
import Derived.Test.YtfgcmjpkgdjcfaaGreatDropSetG28
import Derived.Test.YtfgcmjpkgdjcfaaGreatDropSetG20
namespace Go.Proofs.YtfgcmjpkgdjcfaaGreat
open Go.RowKit Go.Shelf
set_option linter.unusedVariables false

theorem ownN_nilD (B E : Nat) (el eb : TypeId) (w : World) : OwnN B E el eb w (.slice none 0 0) [] := ⟨[], World.ownsRow_nil _ _ _ _, (fun i hi => absurd hi (by simp)), by simp, (fun q hq => by cases hq), by simp⟩
theorem keep_two {w : World} {g Z : Nat} {ob : Obj} {u v : Value} (h : w.heap[g]? = some ob) (hne : g ≠ Z) : ((w.setCell ⟨Z, 0, none⟩ u).setCell ⟨Z, 1, none⟩ v).heap[g]? = some ob :=
 block_grown (grown_setCell _ ⟨Z, 1, none⟩ v) (block_grown (grown_setCell w ⟨Z, 0, none⟩ u) h (fun e => hne (by simpa using e.symm))) (fun e => hne (by simpa using e.symm))
theorem bookIn_Z (rs : List Rec) : bookIn rs = bookZ rs := rfl
/-- A book as zoneOf takes it: what it says of sizes. -/
theorem book_fits {B : Bk} (hg : GoodB B) {m : Nat} (hm : SizeB m B) (h : m ≤ 1000) : B.length ≤ 1000 ∧ ∀ q ∈ B, ShortP q.2 := ⟨Nat.le_trans hm.1 h, fun q hq => ⟨Nat.le_trans (hm.2 q hq) h, good_short hg q hq⟩⟩
end Go.Proofs.YtfgcmjpkgdjcfaaGreat

namespace Go.Proofs.YtfgcmjpkgdjcfaaGreat
open Go.RowKit Go.Shelf
set_option linter.unusedVariables false

theorem setB_own {n0 b : Nat} {v : Value} {o n : List (List Int)} {rs : List Rec} (t : Int) {w : World} (hB : BookM n0 w b (bookIn rs)) (hz : zoneOk o rs = true) (hnm : nameOk n = true) (hn : HasL w v n) :
  Calls Tryz.prog 34 #[.map (some b), .agg #[v], .int .i64 t] w fun e w' => ∃ u, e = .returned u ∧ RowO w.heap.size w'.heap.size 59 56 5 3 w' u (selK n t rs rs.length) ∧ Below w.heap.size w w' := by
 have hpg := page_of_zone hz hnm
 have hsh := ofName_short (n := n) hz
 have hset := set_is hz hnm t
 refine ((callsIn_wide (n := 7)).1 (set_in t hB hn (short_name hnm) (by unfold bookIn; rw [hpg]; exact hsh.1) (by unfold bookIn; rw [hpg]; exact hsh.2))).mono ?_
 rintro e w' ⟨u, rfl, h, hb⟩
 unfold bookIn at h
 rw [hpg, hset] at h
 exact ⟨u, rfl, h, hb⟩
end Go.Proofs.YtfgcmjpkgdjcfaaGreat

namespace Go.Proofs.YtfgcmjpkgdjcfaaGreat
open Go.RowKit
set_option linter.unusedVariables false

set_option maxHeartbeats 1000000 in
set_option maxRecDepth 100000 in
theorem askable_any (t : Int) (w : World) : Calls Tryz.prog 32 #[.int .i64 t] w fun e w' => e = .returned (.bool (asked t)) ∧ w = w' := by
 have HT := implTypeOk_any t w
 unfold asked
 cases ht : typeOk t with
 | true =>
  rw [ht] at HT
  replace HT := hide HT
  rw [Bool.true_or]
  go_enter Tryz.func32, Tryz.ntmps32
  go_wp2_with fail
  refine (unhide HT).mono ?_
  rintro e w1 ⟨rfl, rfl⟩
  go_wp2_with fail
  go_ret
  exact ⟨rfl, rfl⟩
 | false =>
  rw [ht] at HT
  replace HT := hide HT
  rw [Bool.false_or]
  by_cases h5 : t = 255
  ·rw [decide_eq_true h5]
   have h5' : (t == 255) = true := by rw [beq_iff_eq]; exact h5
   clear ht h5
   go_enter Tryz.func32, Tryz.ntmps32
   go_wp2_with fail
   refine (unhide HT).mono ?_
   rintro e w1 ⟨rfl, rfl⟩
   go_wp2_with fail
   go_ret
   exact ⟨rfl, rfl⟩
  ·rw [decide_eq_false h5]
   have h5' : (t == 255) = false := by rw [beq_eq_false_iff_ne]; exact h5
   clear ht h5
   go_enter Tryz.func32, Tryz.ntmps32
   go_wp2_with fail
   refine (unhide HT).mono ?_
   rintro e w1 ⟨rfl, rfl⟩
   go_wp2_with fail
   go_ret
   exact ⟨rfl, rfl⟩

end Go.Proofs.YtfgcmjpkgdjcfaaGreat

namespace Go.Proofs.YtfgcmjpkgdjcfaaGreat
open Go.RowKit
set_option linter.unusedVariables false

/-- What l5drop takes away. -/
def goneB (n : List (List Int)) (t : Int) (one : Bool) (u x : Rec) : Bool := (cmpN x.name n == 0) && ((t == 255) || (x.type == t)) && (x.type != 6) && (!one || (cmpR x u == 0))
def keepK (p : Rec → Bool) (rs : List Rec) : Nat → List Rec
 | 0 => []
 | k + 1 => if p (rs.getD k recZ) = true then keepK p rs k else keepK p rs k ++ [rs.getD k recZ]
def goneK (p : Rec → Bool) (rs : List Rec) : Nat → Nat
 | 0 => 0
 | k + 1 => if p (rs.getD k recZ) = true then goneK p rs k + 1 else goneK p rs k
theorem goneK_le (p : Rec → Bool) (rs : List Rec) : ∀ k, goneK p rs k ≤ k
 | 0 => Nat.le_refl _
 | k + 1 => by
  have := goneK_le p rs k
  unfold goneK
  split <;> omega
theorem keepK_le (p : Rec → Bool) (rs : List Rec) : ∀ k, (keepK p rs k).length ≤ k
 | 0 => Nat.le_refl _
 | k + 1 => by
  have := keepK_le p rs k
  unfold keepK
  split
  ·omega
  ·rw [List.length_append]
   simp only [List.length_cons, List.length_nil]
   omega
theorem take_getD {rs : List Rec} {k : Nat} (h : k < rs.length) : rs.take (k + 1) = rs.take k ++ [rs.getD k recZ] := by
 rw [List.take_succ_eq_append_getElem h, List.getD_eq_getElem?_getD, List.getElem?_eq_getElem h]
 rfl
theorem keepK_is (p : Rec → Bool) (rs : List Rec) : keepK p rs rs.length = rs.filter (fun x => !p x) := by
 have h : ∀ k, k ≤ rs.length → keepK p rs k = (rs.take k).filter (fun x => !p x) := by
  intro k
  induction k with
  | zero => intro _; simp [keepK]
  | succ k ih =>
   intro hk
   rw [keepK, ih (by omega), take_getD (by omega), List.filter_append]
   by_cases hp : p (rs.getD k recZ) = true
   ·rw [if_pos hp, List.filter_cons_of_neg (by rw [hp]; simp), List.filter_nil, List.append_nil]
   ·rw [if_neg hp, List.filter_cons_of_pos (by simpa using hp), List.filter_nil]
 have := h rs.length (Nat.le_refl _)
 rwa [List.take_length] at this
theorem goneK_is (p : Rec → Bool) (rs : List Rec) : goneK p rs rs.length = (rs.filter p).length := by
 have h : ∀ k, k ≤ rs.length → goneK p rs k = ((rs.take k).filter p).length := by
  intro k
  induction k with
  | zero => intro _; simp [goneK]
  | succ k ih =>
   intro hk
   rw [goneK, ih (by omega), take_getD (by omega), List.filter_append, List.length_append]
   by_cases hp : p (rs.getD k recZ) = true
   ·rw [if_pos hp, List.filter_cons_of_pos hp, List.filter_nil]; rfl
   ·rw [if_neg hp, List.filter_cons_of_neg hp, List.filter_nil]; rfl
 have := h rs.length (Nat.le_refl _)
 rwa [List.take_length] at this
theorem RowS.off {B z : Nat} {e : TypeId} {W w w' : World} {v : Value} {rs : List Rec} (h : RowS B e W w v rs) (hg : w.grownBy w' (some z)) (hz : z < B) : RowS B e W w' v rs := by
 obtain ⟨xs, ho, hx⟩ := h
 refine ⟨xs, World.ownsRow.kept ho hg ?_, hx⟩
 cases hv : v.ownBlock with
 | none => exact .inl rfl
 | some k =>
  have := (World.ownsRow.lt ho k hv).1
  exact .inr (by simp only [ne_eq, Option.some.injEq]; omega)
theorem RowS.later {B : Nat} {e : TypeId} {W w w' : World} {v : Value} {rs : List Rec} (h : RowS B e W w v rs) (hb : Below w.heap.size w w') : RowS B e W w' v rs := by
 obtain ⟨xs, ho, hx⟩ := h
 exact ⟨xs, World.ownsRow.kept ho (grown_of_below hb) (by cases hv : v.ownBlock with | none => exact .inl rfl | some k => exact .inr (by simp)), hx⟩
theorem RowS.slice {B : Nat} {e : TypeId} {W w : World} {v : Value} {rs : List Rec} (h : RowS B e W w v rs) : ∃ (a : Option Addr) (c : Nat), v = .slice a rs.length c := by
 obtain ⟨xs, ho, _⟩ := h
 rcases ho.2 with ⟨rfl, h2⟩ | ⟨g, cap, c, rfl, _⟩
 ·exact ⟨none, 0, by rw [h2]⟩
 ·exact ⟨_, cap, rfl⟩
end Go.Proofs.YtfgcmjpkgdjcfaaGreat
