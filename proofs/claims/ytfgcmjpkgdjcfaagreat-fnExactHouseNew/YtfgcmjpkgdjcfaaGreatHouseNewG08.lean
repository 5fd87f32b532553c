/-
  Plain facts: what is owned in a stretch of blocks stays as it is where a walk writes into another stretch. No program is named here. Plain facts: a row of slices put behind another one; a name with one label more ahead. No program is named here. Plain facts: the decimal digits of a byte, and an address as four numbers with dots between. No program is named here.
-/
import Derived.Test.YtfgcmjpkgdjcfaaGreatHouseNewG07
import Derived.Test.YtfgcmjpkgdjcfaaGreatHouseNewG00
import Derived.Lib.ItoaNum
import Derived.Lib.UnsafeStr
namespace Go.Proofs.YtfgcmjpkgdjcfaaGreat
open Go.RowKit

/-- As Own, its block ahead of E. -/
def OwnB (C E : Nat) (e : TypeId) (w : World) (v : Value) (l : List Int) : Prop := Own C e w v l ∧ ∀ q, v.ownBlock = some q → q < E

theorem Own.here {C : Nat} {e : TypeId} {w : World} {v : Value} {l : List Int} (h : Own C e w v l) : OwnB C w.heap.size e w v l := ⟨h, fun q hq => (h.lt q hq).2⟩
theorem OwnB.has {C E : Nat} {e : TypeId} {w : World} {v : Value} {l : List Int} (h : OwnB C E e w v l) : Has w v l := h.1.has
theorem OwnB.below {C E : Nat} {e : TypeId} {w w' : World} {v : Value} {l : List Int} (h : OwnB C E e w v l) (hb : Below w.heap.size w w') : OwnB C E e w' v l := ⟨h.1.below hb, h.2⟩
theorem OwnB.outside {C E B D : Nat} {e : TypeId} {w w' : World} {v : Value} {l : List Int} (h : OwnB C E e w v l) (u : Outside B D w w') (hd : E ≤ B ∨ D ≤ C) : OwnB C E e w' v l := by
 refine ⟨⟨h.1.1, ?_⟩, h.2⟩
 rcases h.1.2 with hn | ⟨g, cap, cur, hv, hb, hg, rest⟩
 ·exact .inl hn
 ·refine .inr ⟨g, cap, cur, hv, hb, ?_, rest⟩
  have h1 := h.1.lt g (by rw [hv]; rfl)
  have h2 := h.2 g (by rw [hv]; rfl)
  rw [u.block g h1.2 (by omega)]
  exact hg
theorem OwnB.marks {C E : Nat} {e : TypeId} {w w' : World} {v : Value} {l l' : List Int} (h : OwnB C E e w v l) (h' : Own C e w' v l') (g : w.grownBy w' v.ownBlock) : OwnB C E e w' v l' ∧ Outside C E w w' :=
 ⟨⟨h', h.2⟩, outside_grown g (fun q hq => ⟨(h.1.lt q hq).1, h.2 q hq⟩)⟩

theorem ownsRow_outside {C B D n : Nat} {e : TypeId} {w w' : World} {v : Value} {xs : List Value} (h : w.ownsRow C e 1 v n xs) (u : Outside B D w w') (hq : ∀ q, v.ownBlock = some q → q < B ∨ D ≤ q) : w'.ownsRow C e 1 v n xs := by
 have h' := h
 refine ⟨h.1, ?_⟩
 rcases h.2 with hn | ⟨g, cap, cur, hv, hb, hg, rest⟩
 ·exact .inl hn
 ·refine .inr ⟨g, cap, cur, hv, hb, ?_, rest⟩
  have h1 := h'.lt g (by rw [hv]; rfl)
  have h2 := hq g (by rw [hv]; rfl)
  rw [u.block g h1.2 h2]
  exact hg

theorem OwnN.outside {C E B D : Nat} {el eb : TypeId} {w w' : World} {v : Value} {n : List (List Int)} (h : OwnN C E el eb w v n) (u : Outside B D w w') (hd : E ≤ B ∨ D ≤ C) : OwnN C E el eb w' v n := by
 obtain ⟨vs, ho, hu, hdis, hv, he⟩ := h
 refine ⟨vs, ownsRow_outside ho u (fun q hq => ?_), fun i hi => ?_, hdis, hv, he⟩
 ·have := (World.ownsRow.lt ho q hq).1
  have := hv q hq
  omega
 ·obtain ⟨x, h1, h2⟩ := hu i hi
  refine ⟨x, h1, ownsRow_outside h2 u (fun q hq => ?_)⟩
  have := (h2.lt q hq).1
  have := he i x q h1 hq
  omega
theorem OwnN.hasL {C E : Nat} {el eb : TypeId} {w : World} {v : Value} {n : List (List Int)} (h : OwnN C E el eb w v n) : HasL w v n := h.ownL.hasL
end Go.Proofs.YtfgcmjpkgdjcfaaGreat

namespace Go.Proofs.YtfgcmjpkgdjcfaaGreat
open Go.RowKit

section
variable {P : Program} {w : World}
end

end Go.Proofs.YtfgcmjpkgdjcfaaGreat

namespace Go.Proofs.YtfgcmjpkgdjcfaaGreat
open Go.RowKit

def parts (n : Int) : List Int := [n / 16777216, n / 65536 % 256, n / 256 % 256, n % 256]
end Go.Proofs.YtfgcmjpkgdjcfaaGreat
