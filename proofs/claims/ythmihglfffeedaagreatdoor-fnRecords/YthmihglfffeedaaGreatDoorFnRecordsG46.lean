/-
  What is known of a name that came in as an argument: a struct of one slice of slices of bytes, wherever they lie.
-/
import Derived.Test.YthmihglfffeedaaGreatDoorFnRecordsG02
import Derived.ProofKit
import Derived.ChangeArms
import Derived.ChangeSame
import Derived.ChangeSlices
namespace Go.Proofs.YthmihglfffeedaaGreatDoor
open Go.RowKit Go.ChangeShapes Go.WideShapes Go.ChangeAt

theorem ints_lies {H : Type} {enc : TypeId × Value → H} {P : Program} {w : World} {sp : Nat → Bool} {held : Bool} {t e : TypeId} {fuel : Nat} {v : Value} {x : DataW H × List MemPlace}
  (ht : P.underlying t = some (.slice e)) (he : P.underlying e = some (.int .u8)) (hc : P.cellsOf e = 1) (hsp : ∀ b, sp b = true) (h : DataW.trod enc P w 0 sp held fuel t [v] = some x) :
  ∃ (a : Option Addr) (cap : Nat) (l : List Int), v = .slice a l.length cap ∧ l.length ≤ maxLen ∧ Lies w a l ∧ ∀ k, 0 ≤ l.getD k 0 ∧ l.getD k 0 ≤ 255 := by
 have key : ∃ a len cap zs, v = .slice a len cap ∧ IsRow .u8 w a len cap zs := by
  rcases open_ints ht he hc h with ⟨hcs, _⟩ | ⟨x, l, c, zs, hcs, _, hl, hm, hz, _, hcell, hwz⟩
  ·simp at hcs
   exact ⟨none, 0, 0, [], hcs, .inl ⟨rfl, rfl, rfl, rfl⟩⟩
  ·simp at hcs
   exact ⟨some x, l, c, zs, hcs, .inr ⟨_, rfl, hl, hm, by simpa [hsp] using hz, hcell, hwz⟩⟩
 obtain ⟨a, len, cap, zs, rfl, hr⟩ := key
 obtain ⟨l, rfl, hm, hL, hb⟩ := isRow_lies hr
 exact ⟨a, cap, l, rfl, hm, hL, hb⟩

end Go.Proofs.YthmihglfffeedaaGreatDoor
