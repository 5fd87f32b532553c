/-
  DERIVED. GIVEN WITH THE SEED: THE CARDS: each row of YthmihglfffeedaaDoorRows.lean that lists a variable, with what it lists TIED to the program's text (the seventh form; the later family's looks); each row that meets fmt, with fmt's text TOLD by the authors' own Lean function (tested against real Go, not proved from fmt's source: count such statements apart). THE CARD IS WHAT COUNTS. Prove the row's statement (the work); the ties are given (YthmihglfffeedaaDoorTie.lean); close each card by the builder's one call (the guide's Derived/Test/ToyasCard.lean, 'card_holds'). Laid BY PROGRAM, IN A SANDBOX (cutbox-door.mjs). By AI agents, Wed Nov 11 2026. No macro, syntax, notation, axiom, sorry.
-/
import Derived.Test.YthmihglfffeedaaDoorRows
import GoSem.ClaimSeven
namespace Go.Proofs.YthmihglfffeedaaDoor
namespace Rows

/-- THE TIED CARD OF 'laws.FnExactRrText'. -/
def fnExactRrTextCard : Claim7 := { stood := { row := fnExactRrTextRow, standIns := [], harness := (true, "efd16daaebf5d3b2edcbfe6aa45e1e824abbe9f68263782f8d63795a00b3e1fc"), looks := true }, kinds := [], alts := [], laidByText := true, laidKinds := [.data, .data, .data], laidTests := true, laidLooks := .later }
def FnExactRrTextCardSaid : Prop := Claim7.holds Tryd.pinned (.plain (OpenSpec.ofChange fnExactRrTextSpec)) fnExactRrTextCard

/-- THE SECOND FORM's CARD OF 'laws.FnExactRrText'. -/
def fnExactRrTextUptoCard : Claim7 := { stood := { row := fnExactRrTextUptoRow, standIns := [], harness := (true, "efd16daaebf5d3b2edcbfe6aa45e1e824abbe9f68263782f8d63795a00b3e1fc"), looks := true }, kinds := [], alts := [], laidByText := true, laidKinds := [.data, .data, .data], laidTests := true, laidLooks := .later }
def FnExactRrTextUptoCardSaid : Prop := Claim7.holds Tryd.pinned (.plain (OpenSpec.upto fnExactRrTextSpec)) fnExactRrTextUptoCard
end Rows
end Go.Proofs.YthmihglfffeedaaDoor
