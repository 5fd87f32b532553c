/-
  Contract of the program's copyZone: a zone of its own with the same name and records. Plain facts: what an update asks for. No program is named here. Plain facts: what Drop and DropSet answer, and how large a zone's book is. No program is named here. Plain facts: three results of a function. No program is named here.
-/
import Derived.Test.YtmlcmkoefelolaaGreatDropG28
import Derived.Test.YtmlcmkoefelolaaGreatDropG05
import Derived.Deep.RegionHeld3
import Derived.Test.YtmlcmkoefelolaaGreatDropG17
import Derived.Test.YtmlcmkoefelolaaGreatDropG10
import Derived.Test.YtmlcmkoefelolaaGreatDropG27
import Derived.Test.YtmlcmkoefelolaaGreatDropG18
import Derived.Test.YtmlcmkoefelolaaGreatDropG00
namespace Go.Proofs.YtmlcmkoefelolaaGreat
open Go.RowKit Go.Shelf
set_option linter.unusedVariables false

end Go.Proofs.YtmlcmkoefelolaaGreat

namespace Go.Proofs.YtmlcmkoefelolaaGreat
open Go.RowKit
set_option linter.unusedVariables false

def asked (t : Int) : Bool := typeOk t || decide (t = 255)
end Go.Proofs.YtmlcmkoefelolaaGreat

namespace Go.Proofs.YtmlcmkoefelolaaGreat
open Go.RowKit
set_option linter.unusedVariables false

/-- At most m pages of at most m records. -/
def SizeB (m : Nat) (B : Bk) : Prop := B.length ≤ m ∧ ∀ q ∈ B, q.2.length ≤ m
theorem putA_length {κ α : Type} [DecidableEq κ] {k : κ} {v : α} : ∀ {l : List (κ × α)}, (putA k v l).length ≤ l.length + 1
 | [] => by simp [putA]
 | (a, u) :: t => by
  unfold putA
  split
  ·simp
  ·have := putA_length (k := k) (v := v) (l := t)
   simp only [List.length_cons]
   omega
theorem delA_length {κ β : Type} [DecidableEq κ] {k : κ} : ∀ {l : List (κ × β)}, (delA k l).length ≤ l.length
 | [] => by simp [delA]
 | (a, u) :: t => by
  unfold delA
  split
  ·simp
  ·have := delA_length (k := k) (l := t)
   simp only [List.length_cons]
   omega
theorem SizeB.put {m : Nat} {B : Bk} (h : SizeB m B) (kn kd : ByteArray) (r : Rec) : SizeB (m + 1) (bkPut kn kd r B) := by
 unfold bkPut
 refine ⟨Nat.le_trans putA_length (by have := h.1; omega), fun q hq => ?_⟩
 rcases mem_putA hq with rfl | hq
 ·refine Nat.le_trans putA_length ?_
  have : ((lookA kn B).getD []).length ≤ m := by
   cases hl : lookA kn B with
   | none => simp
   | some P => exact h.2 _ (lookA_in hl)
  omega
 ·have := h.2 q hq
  omega
theorem SizeB.mono {m m' : Nat} {B : Bk} (h : SizeB m B) (hm : m ≤ m') : SizeB m' B := ⟨Nat.le_trans h.1 hm, fun q hq => Nat.le_trans (h.2 q hq) hm⟩
theorem SizeB.del {m : Nat} {B : Bk} (h : SizeB m B) (kn kd : ByteArray) : SizeB m (bkDel kn kd B) := by
 unfold bkDel
 refine ⟨by rw [List.length_map]; exact h.1, fun q hq => ?_⟩
 obtain ⟨x, hx, rfl⟩ := List.mem_map.1 hq
 split
 ·exact Nat.le_trans delA_length (h.2 x hx)
 ·exact h.2 x hx
theorem SizeB.drop {m : Nat} {B : Bk} (h : SizeB m B) (r : Rec) : SizeB m (bkDrop r B).1 := by
 unfold bkDrop
 split
 ·exact h.del _ _
 ·exact h
theorem bookZ_size : ∀ (rs : List Rec) (m : Nat) (B : Bk), SizeB m B → SizeB (m + rs.length) (rs.foldl (fun B r => bkPut (strOfNums (keyN r.name)) (keyR r) r B) B)
 | [], m, B, h => h
 | r :: t, m, B, h => by
  have := bookZ_size t (m + 1) _ (h.put (strOfNums (keyN r.name)) (keyR r) r)
  simp only [List.foldl_cons, List.length_cons]
  exact this.mono (by omega)
theorem book_60 {o : List (List Int)} {rs : List Rec} (hz : zoneOk o rs = true) : SizeB 60 (bookZ rs) :=
 (bookZ_size rs 0 [] ⟨Nat.le_refl _, fun q hq => by simp at hq⟩).mono (by have := (zone_short hz).2.2; omega)
theorem good_short {B : Bk} (h : GoodB B) : ∀ q ∈ B, ∀ x ∈ q.2, ShortR x.2 := fun q hq x hx => short_rec ((h.pages q hq).keys x hx).2.1

/-- Those of which r is not one (the SOA stays). -/
def dropL (r : Rec) (rs : List Rec) : List Rec := rs.filter (fun x => !decide (cmpR x r = 0 ∧ r.type ≠ 6))
def dropOf (o : List (List Int)) (rs : List Rec) (r : Rec) : (List (List Int) × List Rec) × Bool :=
 if zoneOk o rs = true ∧ rrOk r = true then ((o, dropL r rs), (bkDrop r (bookZ rs)).2) else (([], []), false)
theorem drop_sorted {o : List (List Int)} {rs : List Rec} (hz : zoneOk o rs = true) {r : Rec} (hr : rrOk r = true) : sortB (bkDrop r (bookZ rs)).1 = dropL r rs := by
 have hm := bkDrop_good (bookZ_good hz) r
 refine sortB_is hm ((zone_asc hz).filter _) (fun x => ?_)
 unfold dropL
 rw [List.mem_filter, Bool.not_eq_true', decide_eq_false_iff_not]
 constructor
 ·rintro ⟨h1, h2⟩
  exact (bkDrop_mem (bookZ_good hz) hr (oks_of hz x h1)).2 ⟨(bookZ_mem hz x).1 h1, h2⟩
 ·intro h
  have hx : rrOk x = true := InB.ok hm h
  obtain ⟨h1, h2⟩ := (bkDrop_mem (bookZ_good hz) hr hx).1 h
  exact ⟨(bookZ_mem hz x).2 h1, h2⟩
theorem dropL_short {o : List (List Int)} {rs : List Rec} (hz : zoneOk o rs = true) (r : Rec) : (dropL r rs).length ≤ 60 ∧ ∀ i, i < (dropL r rs).length → rrOk ((dropL r rs).getD i recZ) = true := by
 refine ⟨Nat.le_trans (List.length_filter_le _ _) (zone_short hz).2.2, fun i hi => ?_⟩
 have hm : (dropL r rs).getD i recZ ∈ dropL r rs := by
  rw [List.getD_eq_getElem?_getD, List.getElem?_eq_getElem hi]
  exact List.getElem_mem hi
 exact oks_of hz _ (List.mem_filter.1 hm).1
theorem zone_size {o : List (List Int)} {rs : List Rec} (ho : nameOk o = true) (h60 : rs.length ≤ 60) (hr : ∀ i, i < rs.length → rrOk (rs.getD i recZ) = true) : SizeZ 1048576 o rs :=
 ⟨Nat.le_trans (nameOk_parts ho).1 (by omega), fun i hi => Nat.le_trans (labelOk_length ((nameOk_parts ho).2 i hi)).2 (by omega), by omega, fun i hi => size_of_short (short_rec (hr i hi))⟩
theorem drop_size (o : List (List Int)) (rs : List Rec) (r : Rec) : SizeZ 1048576 (dropOf o rs r).1.1 (dropOf o rs r).1.2 := by
 unfold dropOf
 by_cases h : zoneOk o rs = true ∧ rrOk r = true
 ·rw [if_pos h]
  have := dropL_short h.1 r
  exact zone_size (of_decide_eq_true h.1).1 this.1 this.2
 ·rw [if_neg h]
  exact ⟨Nat.zero_le _, fun i hi => absurd hi (Nat.not_lt_zero _), Nat.zero_le _, fun i hi => absurd hi (Nat.not_lt_zero _)⟩
end Go.Proofs.YtmlcmkoefelolaaGreat

namespace Go.Proofs.YtmlcmkoefelolaaGreat
open Go.RowKit

end Go.Proofs.YtmlcmkoefelolaaGreat
