/-
  Contract of the program's copyZone: a zone of its own with the same name and records. Plain facts: what an update asks for. No program is named here. Plain facts: what Drop and DropSet answer, and how large a zone's book is. No program is named here. Plain facts: three results of a function. No program is named here.
-/
import Derived.Test.YtfgcmjpkgdjcfaaGreatDropSetG28
import Derived.Test.YtfgcmjpkgdjcfaaGreatDropSetG05
import Derived.Deep.RegionHeld3
import Derived.Test.YtfgcmjpkgdjcfaaGreatDropSetG17
import Derived.Test.YtfgcmjpkgdjcfaaGreatDropSetG10
import Derived.Test.YtfgcmjpkgdjcfaaGreatDropSetG27
import Derived.Test.YtfgcmjpkgdjcfaaGreatDropSetG18
import Derived.Test.YtfgcmjpkgdjcfaaGreatDropSetG00
namespace Go.Proofs.YtfgcmjpkgdjcfaaGreat
open Go.RowKit Go.Shelf
set_option linter.unusedVariables false

end Go.Proofs.YtfgcmjpkgdjcfaaGreat

namespace Go.Proofs.YtfgcmjpkgdjcfaaGreat
open Go.RowKit
set_option linter.unusedVariables false

def asked (t : Int) : Bool := typeOk t || decide (t = 255)
end Go.Proofs.YtfgcmjpkgdjcfaaGreat

namespace Go.Proofs.YtfgcmjpkgdjcfaaGreat
open Go.RowKit
set_option linter.unusedVariables false

/-- At most m pages of at most m records. -/
def SizeB (m : Nat) (B : Bk) : Prop := B.length ≤ m ∧ ∀ q ∈ B, q.2.length ≤ m
theorem putA_length {κ α : Type} [DecidableEq κ] {k : κ} {v : α} : ∀ {l : List (κ × α)}, (putA k v l).length ≤ l.length + 1
 | [] => by simp [putA]
 | (a, u) :: t => by
  unfold putA
  split
  ·simp
  ·have := putA_length (k := k) (v := v) (l := t)
   simp only [List.length_cons]
   omega
theorem delA_length {κ β : Type} [DecidableEq κ] {k : κ} : ∀ {l : List (κ × β)}, (delA k l).length ≤ l.length
 | [] => by simp [delA]
 | (a, u) :: t => by
  unfold delA
  split
  ·simp
  ·have := delA_length (k := k) (l := t)
   simp only [List.length_cons]
   omega
theorem SizeB.put {m : Nat} {B : Bk} (h : SizeB m B) (kn kd : ByteArray) (r : Rec) : SizeB (m + 1) (bkPut kn kd r B) := by
 unfold bkPut
 refine ⟨Nat.le_trans putA_length (by have := h.1; omega), fun q hq => ?_⟩
 rcases mem_putA hq with rfl | hq
 ·refine Nat.le_trans putA_length ?_
  have : ((lookA kn B).getD []).length ≤ m := by
   cases hl : lookA kn B with
   | none => simp
   | some P => exact h.2 _ (lookA_in hl)
  omega
 ·have := h.2 q hq
  omega
theorem SizeB.mono {m m' : Nat} {B : Bk} (h : SizeB m B) (hm : m ≤ m') : SizeB m' B := ⟨Nat.le_trans h.1 hm, fun q hq => Nat.le_trans (h.2 q hq) hm⟩
theorem SizeB.del {m : Nat} {B : Bk} (h : SizeB m B) (kn kd : ByteArray) : SizeB m (bkDel kn kd B) := by
 unfold bkDel
 refine ⟨by rw [List.length_map]; exact h.1, fun q hq => ?_⟩
 obtain ⟨x, hx, rfl⟩ := List.mem_map.1 hq
 split
 ·exact Nat.le_trans delA_length (h.2 x hx)
 ·exact h.2 x hx
theorem SizeB.drop {m : Nat} {B : Bk} (h : SizeB m B) (r : Rec) : SizeB m (bkDrop r B).1 := by
 unfold bkDrop
 split
 ·exact h.del _ _
 ·exact h
theorem SizeB.dropAll {m : Nat} : ∀ {L : List Rec} {B : Bk}, SizeB m B → SizeB m (dropAll L B).1
 | [], B, h => h
 | r :: t, B, h => (h.drop r).dropAll (L := t)
theorem bookZ_size : ∀ (rs : List Rec) (m : Nat) (B : Bk), SizeB m B → SizeB (m + rs.length) (rs.foldl (fun B r => bkPut (strOfNums (keyN r.name)) (keyR r) r B) B)
 | [], m, B, h => h
 | r :: t, m, B, h => by
  have := bookZ_size t (m + 1) _ (h.put (strOfNums (keyN r.name)) (keyR r) r)
  simp only [List.foldl_cons, List.length_cons]
  exact this.mono (by omega)
theorem book_60 {o : List (List Int)} {rs : List Rec} (hz : zoneOk o rs = true) : SizeB 60 (bookZ rs) :=
 (bookZ_size rs 0 [] ⟨Nat.le_refl _, fun q hq => by simp at hq⟩).mono (by have := (zone_short hz).2.2; omega)
theorem good_short {B : Bk} (h : GoodB B) : ∀ q ∈ B, ∀ x ∈ q.2, ShortR x.2 := fun q hq x hx => short_rec ((h.pages q hq).keys x hx).2.1

theorem zone_size {o : List (List Int)} {rs : List Rec} (ho : nameOk o = true) (h60 : rs.length ≤ 60) (hr : ∀ i, i < rs.length → rrOk (rs.getD i recZ) = true) : SizeZ 1048576 o rs :=
 ⟨Nat.le_trans (nameOk_parts ho).1 (by omega), fun i hi => Nat.le_trans (labelOk_length ((nameOk_parts ho).2 i hi)).2 (by omega), by omega, fun i hi => size_of_short (short_rec (hr i hi))⟩
end Go.Proofs.YtfgcmjpkgdjcfaaGreat

namespace Go.Proofs.YtfgcmjpkgdjcfaaGreat
open Go.RowKit

end Go.Proofs.YtfgcmjpkgdjcfaaGreat
