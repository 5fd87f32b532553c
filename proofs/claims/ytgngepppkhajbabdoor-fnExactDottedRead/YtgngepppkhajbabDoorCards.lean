/-
  DERIVED. GIVEN WITH THE SEED: THE CARDS: each row of YtgngepppkhajbabDoorRows.lean that lists a variable, with what it lists TIED to the program's text (the seventh form; the later family's looks); each row that meets fmt, with fmt's text TOLD by the authors' own Lean function (tested against real Go, not proved from fmt's source: count such statements apart). THE CARD IS WHAT COUNTS. Prove the row's statement (the work); the ties are given (YtgngepppkhajbabDoorTie.lean); close each card by the builder's one call (the guide's Derived/Test/ToyasCard.lean, 'card_holds'). Laid BY PROGRAM, IN A SANDBOX (cutbox-door.mjs). By AI agents, Wed Nov 11 2026. No macro, syntax, notation, axiom, sorry.
-/
import Derived.Test.YtgngepppkhajbabDoorRows
import GoSem.ClaimSeven
namespace Go.Proofs.YtgngepppkhajbabDoor
namespace Rows

/-- THE TIED CARD OF 'laws.FnExactDotted'. -/
def fnExactDottedCard : Claim7 := { stood := { row := fnExactDottedRow, standIns := [], harness := (true, "93a907857ef37052fde4aeb46d79a415d896c958fc620a2167f9ddd0eb456b02"), looks := false }, kinds := [], alts := [], laidByText := true, laidKinds := [.data, .data, .data], laidTests := true, laidLooks := .later }
def FnExactDottedCardSaid : Prop := Claim7.holds Tryd.pinned (.plain (OpenSpec.ofChange fnExactDottedSpec)) fnExactDottedCard

/-- THE TIED CARD OF 'laws.FnExactDottedRead'. -/
def fnExactDottedReadCard : Claim7 := { stood := { row := fnExactDottedReadRow, standIns := [], harness := (true, "93a907857ef37052fde4aeb46d79a415d896c958fc620a2167f9ddd0eb456b02"), looks := false }, kinds := [], alts := [], laidByText := true, laidKinds := [.data, .pinned], laidTests := true, laidLooks := .later }
def FnExactDottedReadCardSaid : Prop := Claim7.holds Tryd.pinned (.plain (OpenSpec.ofChange fnExactDottedReadSpec)) fnExactDottedReadCard

/-- THE SECOND FORM's CARD OF 'laws.FnExactDotted'. -/
def fnExactDottedUptoCard : Claim7 := { stood := { row := fnExactDottedUptoRow, standIns := [], harness := (true, "93a907857ef37052fde4aeb46d79a415d896c958fc620a2167f9ddd0eb456b02"), looks := false }, kinds := [], alts := [], laidByText := true, laidKinds := [.data, .data, .data], laidTests := true, laidLooks := .later }
def FnExactDottedUptoCardSaid : Prop := Claim7.holds Tryd.pinned (.plain (OpenSpec.upto fnExactDottedSpec)) fnExactDottedUptoCard

/-- THE SECOND FORM's CARD OF 'laws.FnExactDottedRead'. -/
def fnExactDottedReadUptoCard : Claim7 := { stood := { row := fnExactDottedReadUptoRow, standIns := [], harness := (true, "93a907857ef37052fde4aeb46d79a415d896c958fc620a2167f9ddd0eb456b02"), looks := false }, kinds := [], alts := [], laidByText := true, laidKinds := [.data, .pinned], laidTests := true, laidLooks := .later }
def FnExactDottedReadUptoCardSaid : Prop := Claim7.holds Tryd.pinned (.plain (OpenSpec.upto fnExactDottedReadSpec)) fnExactDottedReadUptoCard
end Rows
end Go.Proofs.YtgngepppkhajbabDoor
