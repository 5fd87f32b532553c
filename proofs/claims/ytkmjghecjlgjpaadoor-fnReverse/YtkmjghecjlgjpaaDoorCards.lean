/-
  DERIVED. GIVEN WITH THE SEED: THE CARDS: each row of YtkmjghecjlgjpaaDoorRows.lean that lists a variable, with what it lists TIED to the program's text (the seventh form; the later family's looks); each row that meets fmt, with fmt's text TOLD by the authors' own Lean function (tested against real Go, not proved from fmt's source: count such statements apart). THE CARD IS WHAT COUNTS. Prove the row's statement (the work); the ties are given (YtkmjghecjlgjpaaDoorTie.lean); close each card by the builder's one call (the guide's Derived/Test/ToyasCard.lean, 'card_holds'). Laid BY PROGRAM, IN A SANDBOX (cutbox-door.mjs). By AI agents, Wed Nov 11 2026. No macro, syntax, notation, axiom, sorry.
-/
import Derived.Test.YtkmjghecjlgjpaaDoorRows
import GoSem.ClaimSeven
namespace Go.Proofs.YtkmjghecjlgjpaaDoor
namespace Rows

/-- THE TIED CARD OF 'laws.FnReverse'. -/
def fnReverseCard : Claim7 := { stood := { row := fnReverseRow, standIns := [], harness := (true, "a58b2156a1c4d08a49810ee4009bd6e1e8d7e85896f59701150c653809451b17"), looks := true }, kinds := [], alts := [], laidByText := true, laidKinds := [.data, .data, .data], laidTests := true, laidLooks := .later }
def FnReverseCardSaid : Prop := Claim7.holds Tryd.pinned (.plain (OpenSpec.ofChange fnReverseSpec)) fnReverseCard

/-- THE TIED CARD OF 'laws.FnExactReverse'. -/
def fnExactReverseCard : Claim7 := { stood := { row := fnExactReverseRow, standIns := [], harness := (true, "a58b2156a1c4d08a49810ee4009bd6e1e8d7e85896f59701150c653809451b17"), looks := true }, kinds := [], alts := [], laidByText := true, laidKinds := [.data, .data, .data], laidTests := true, laidLooks := .later }
def FnExactReverseCardSaid : Prop := Claim7.holds Tryd.pinned (.plain (OpenSpec.ofChange fnExactReverseSpec)) fnExactReverseCard

/-- THE TIED CARD OF 'laws.FnExactRrText'. -/
def fnExactRrTextCard : Claim7 := { stood := { row := fnExactRrTextRow, standIns := [], harness := (true, "a58b2156a1c4d08a49810ee4009bd6e1e8d7e85896f59701150c653809451b17"), looks := true }, kinds := [], alts := [], laidByText := true, laidKinds := [.data, .data, .data], laidTests := true, laidLooks := .later }
def FnExactRrTextCardSaid : Prop := Claim7.holds Tryd.pinned (.plain (OpenSpec.ofChange fnExactRrTextSpec)) fnExactRrTextCard

/-- THE TIED CARD OF 'laws.FnExactSha256'. -/
def fnExactSha256Card : Claim7 := { stood := { row := fnExactSha256Row, standIns := [], harness := (true, "a58b2156a1c4d08a49810ee4009bd6e1e8d7e85896f59701150c653809451b17"), looks := true }, kinds := [], alts := [], laidByText := true, laidKinds := [.data, .data], laidTests := true, laidLooks := .later }
def FnExactSha256CardSaid : Prop := Claim7.holds Tryd.pinned (.plain (OpenSpec.ofChange fnExactSha256Spec)) fnExactSha256Card

/-- THE TIED CARD OF 'laws.FnExactDhcid'. -/
def fnExactDhcidCard : Claim7 := { stood := { row := fnExactDhcidRow, standIns := [], harness := (true, "a58b2156a1c4d08a49810ee4009bd6e1e8d7e85896f59701150c653809451b17"), looks := true }, kinds := [], alts := [], laidByText := true, laidKinds := [.data, .data], laidTests := true, laidLooks := .later }
def FnExactDhcidCardSaid : Prop := Claim7.holds Tryd.pinned (.plain (OpenSpec.ofChange fnExactDhcidSpec)) fnExactDhcidCard

/-- THE SECOND FORM's CARD OF 'laws.FnReverse'. -/
def fnReverseUptoCard : Claim7 := { stood := { row := fnReverseUptoRow, standIns := [], harness := (true, "a58b2156a1c4d08a49810ee4009bd6e1e8d7e85896f59701150c653809451b17"), looks := true }, kinds := [], alts := [], laidByText := true, laidKinds := [.data, .data, .data], laidTests := true, laidLooks := .later }
def FnReverseUptoCardSaid : Prop := Claim7.holds Tryd.pinned (.plain (OpenSpec.upto fnReverseSpec)) fnReverseUptoCard

/-- THE SECOND FORM's CARD OF 'laws.FnExactReverse'. -/
def fnExactReverseUptoCard : Claim7 := { stood := { row := fnExactReverseUptoRow, standIns := [], harness := (true, "a58b2156a1c4d08a49810ee4009bd6e1e8d7e85896f59701150c653809451b17"), looks := true }, kinds := [], alts := [], laidByText := true, laidKinds := [.data, .data, .data], laidTests := true, laidLooks := .later }
def FnExactReverseUptoCardSaid : Prop := Claim7.holds Tryd.pinned (.plain (OpenSpec.upto fnExactReverseSpec)) fnExactReverseUptoCard

/-- THE SECOND FORM's CARD OF 'laws.FnExactRrText'. -/
def fnExactRrTextUptoCard : Claim7 := { stood := { row := fnExactRrTextUptoRow, standIns := [], harness := (true, "a58b2156a1c4d08a49810ee4009bd6e1e8d7e85896f59701150c653809451b17"), looks := true }, kinds := [], alts := [], laidByText := true, laidKinds := [.data, .data, .data], laidTests := true, laidLooks := .later }
def FnExactRrTextUptoCardSaid : Prop := Claim7.holds Tryd.pinned (.plain (OpenSpec.upto fnExactRrTextSpec)) fnExactRrTextUptoCard

/-- THE SECOND FORM's CARD OF 'laws.FnExactSha256'. -/
def fnExactSha256UptoCard : Claim7 := { stood := { row := fnExactSha256UptoRow, standIns := [], harness := (true, "a58b2156a1c4d08a49810ee4009bd6e1e8d7e85896f59701150c653809451b17"), looks := true }, kinds := [], alts := [], laidByText := true, laidKinds := [.data, .data], laidTests := true, laidLooks := .later }
def FnExactSha256UptoCardSaid : Prop := Claim7.holds Tryd.pinned (.plain (OpenSpec.upto fnExactSha256Spec)) fnExactSha256UptoCard

/-- THE SECOND FORM's CARD OF 'laws.FnExactDhcid'. -/
def fnExactDhcidUptoCard : Claim7 := { stood := { row := fnExactDhcidUptoRow, standIns := [], harness := (true, "a58b2156a1c4d08a49810ee4009bd6e1e8d7e85896f59701150c653809451b17"), looks := true }, kinds := [], alts := [], laidByText := true, laidKinds := [.data, .data], laidTests := true, laidLooks := .later }
def FnExactDhcidUptoCardSaid : Prop := Claim7.holds Tryd.pinned (.plain (OpenSpec.upto fnExactDhcidSpec)) fnExactDhcidUptoCard
end Rows
end Go.Proofs.YtkmjghecjlgjpaaDoor
