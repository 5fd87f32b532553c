/-
  No cell of these rows narrows 'for every input' (looked for: loops, veiled, ifaces, maps, wideKeys, modest, calm, conditions, laid).
  DERIVED. THE GIVEN ROWS OF THIS SEAT. 6 by the template 'for every input the law returns true; each argument reads behind the call as it read before'; 0 by the template 'total and deterministic' (their statements: YtaconefooicplaaTotals.lean).
  GIVEN WITH THE SEED: the statements are not yours to turn. If you find one false, say at which input.
  Laid BY PROGRAM, IN A SANDBOX (cutbox-rows.mjs): the forced cells as the released guide's own fill.sh prints them over the translation 1b16f687fb7a456e… (all of the seat's roots in one cut). By AI agents, Wed Nov 11 2026. No macro, syntax, notation, axiom, sorry.
-/
import Derived.Test.YtaconefooicplaaChecked
import GoSem.Claim
import GoSem.ClaimJoined
import GoSem.ClaimMapViews
import Derived.JoinedTies
import Derived.KernelRfl
namespace Go.Proofs.Ytaconefooicplaa
/- THE CELL 'sum', in the pinned program and in every row, IS THE sha256 OF THE DUMP (.gsa) THAT YtaconefooicplaaProg.lean LOADS. Nothing in Lean hashes anything: it is a label: what it is worth is what the hold of that sum in a sandbox is worth. -/
noncomputable def Try.pinned : Pinned := { name := "ytaconefooicplaa", sum := "1b16f687fb7a456e7e9e969a774fe25a83a8c6bc84d0433f2b93bf6d543211da", checked := Try.checked }
namespace Rows
def none {H : Type} : Left H := { results := [], args := [] }

/-- 'laws.FnNameTexts': WHATEVER THE INPUT: true; the input reads as it did. -/
def fnNameTextsSpec : ChangeSpec := { name := "fnNameTexts", fn := fun _ => fun
  | [d] => { results := [.lit (.bool true)], args := [d] }
  | _ => none }
def fnNameTextsRow : OpenClaim := { program := "ytaconefooicplaa", sum := "1b16f687fb7a456e7e9e969a774fe25a83a8c6bc84d0433f2b93bf6d543211da", func := "loop.example/g00422/laws.FnNameTexts", spec := "fnNameTexts", inPlace := ["internal/bytealg.IndexByte", "internal/bytealg.Index"], unfollowed := true, recurses := true, named := ["internal/bytealg.MaxLen"], apart := false }
def FnNameTextsSaid : Prop := fnNameTextsRow.holds Try.pinned (OpenSpec.ofChange fnNameTextsSpec)

/-- ITS FALSE NEIGHBOUR: 'it returns false'. Refute it at one input. -/
def fnNameTextsWrong : ChangeSpec := { name := "fnNameTexts", fn := fun _ => fun
  | [d] => { results := [.lit (.bool false)], args := [d] }
  | _ => none }
def FnNameTextsWrongFalsely : Prop := fnNameTextsRow.holds Try.pinned (OpenSpec.ofChange fnNameTextsWrong)

/-- 'laws.FnNameOrder': WHATEVER THE INPUT: true; the input reads as it did. -/
def fnNameOrderSpec : ChangeSpec := { name := "fnNameOrder", fn := fun _ => fun
  | [d] => { results := [.lit (.bool true)], args := [d] }
  | _ => none }
def fnNameOrderRow : OpenClaim := { program := "ytaconefooicplaa", sum := "1b16f687fb7a456e7e9e969a774fe25a83a8c6bc84d0433f2b93bf6d543211da", func := "loop.example/g00422/laws.FnNameOrder", spec := "fnNameOrder", inPlace := ["internal/bytealg.Compare", "internal/bytealg.IndexByte", "internal/bytealg.Index"], unfollowed := true, recurses := true, named := ["internal/bytealg.MaxLen"], apart := false }
def FnNameOrderSaid : Prop := fnNameOrderRow.holds Try.pinned (OpenSpec.ofChange fnNameOrderSpec)

/-- ITS FALSE NEIGHBOUR: 'it returns false'. Refute it at one input. -/
def fnNameOrderWrong : ChangeSpec := { name := "fnNameOrder", fn := fun _ => fun
  | [d] => { results := [.lit (.bool false)], args := [d] }
  | _ => none }
def FnNameOrderWrongFalsely : Prop := fnNameOrderRow.holds Try.pinned (OpenSpec.ofChange fnNameOrderWrong)

/-- 'laws.FnNameWire': WHATEVER THE INPUT: true; the input reads as it did. -/
def fnNameWireSpec : ChangeSpec := { name := "fnNameWire", fn := fun _ => fun
  | [d] => { results := [.lit (.bool true)], args := [d] }
  | _ => none }
def fnNameWireRow : OpenClaim := { program := "ytaconefooicplaa", sum := "1b16f687fb7a456e7e9e969a774fe25a83a8c6bc84d0433f2b93bf6d543211da", func := "loop.example/g00422/laws.FnNameWire", spec := "fnNameWire", inPlace := ["internal/bytealg.IndexByte", "internal/bytealg.Index"], unfollowed := true, recurses := true, named := ["internal/bytealg.MaxLen"], apart := false }
def FnNameWireSaid : Prop := fnNameWireRow.holds Try.pinned (OpenSpec.ofChange fnNameWireSpec)

/-- ITS FALSE NEIGHBOUR: 'it returns false'. Refute it at one input. -/
def fnNameWireWrong : ChangeSpec := { name := "fnNameWire", fn := fun _ => fun
  | [d] => { results := [.lit (.bool false)], args := [d] }
  | _ => none }
def FnNameWireWrongFalsely : Prop := fnNameWireRow.holds Try.pinned (OpenSpec.ofChange fnNameWireWrong)

/-- 'laws.FnRecordOrder': WHATEVER THE INPUT: true; the input reads as it did. -/
def fnRecordOrderSpec : ChangeSpec := { name := "fnRecordOrder", fn := fun _ => fun
  | [d] => { results := [.lit (.bool true)], args := [d] }
  | _ => none }
def fnRecordOrderRow : OpenClaim := { program := "ytaconefooicplaa", sum := "1b16f687fb7a456e7e9e969a774fe25a83a8c6bc84d0433f2b93bf6d543211da", func := "loop.example/g00422/laws.FnRecordOrder", spec := "fnRecordOrder", inPlace := ["internal/bytealg.Compare", "internal/bytealg.IndexByte", "internal/bytealg.Index"], unfollowed := true, recurses := true, named := ["internal/bytealg.MaxLen"], apart := false }
def FnRecordOrderSaid : Prop := fnRecordOrderRow.holds Try.pinned (OpenSpec.ofChange fnRecordOrderSpec)

/-- ITS FALSE NEIGHBOUR: 'it returns false'. Refute it at one input. -/
def fnRecordOrderWrong : ChangeSpec := { name := "fnRecordOrder", fn := fun _ => fun
  | [d] => { results := [.lit (.bool false)], args := [d] }
  | _ => none }
def FnRecordOrderWrongFalsely : Prop := fnRecordOrderRow.holds Try.pinned (OpenSpec.ofChange fnRecordOrderWrong)

/-- 'laws.FnExactZoneOk': WHATEVER THE INPUT: true; the input reads as it did. -/
def fnExactZoneOkSpec : ChangeSpec := { name := "fnExactZoneOk", fn := fun _ => fun
  | [d] => { results := [.lit (.bool true)], args := [d] }
  | _ => none }
def fnExactZoneOkRow : OpenClaim := { program := "ytaconefooicplaa", sum := "1b16f687fb7a456e7e9e969a774fe25a83a8c6bc84d0433f2b93bf6d543211da", func := "loop.example/g00422/laws.FnExactZoneOk", spec := "fnExactZoneOk", inPlace := ["internal/bytealg.Compare"], unfollowed := true, recurses := true, apart := false }
def FnExactZoneOkSaid : Prop := fnExactZoneOkRow.holds Try.pinned (OpenSpec.ofChange fnExactZoneOkSpec)

/-- ITS FALSE NEIGHBOUR: 'it returns false'. Refute it at one input. -/
def fnExactZoneOkWrong : ChangeSpec := { name := "fnExactZoneOk", fn := fun _ => fun
  | [d] => { results := [.lit (.bool false)], args := [d] }
  | _ => none }
def FnExactZoneOkWrongFalsely : Prop := fnExactZoneOkRow.holds Try.pinned (OpenSpec.ofChange fnExactZoneOkWrong)

/-- 'laws.FnExactSerial': WHATEVER THE INPUT: true; the input reads as it did. -/
def fnExactSerialSpec : ChangeSpec := { name := "fnExactSerial", fn := fun _ => fun
  | [d] => { results := [.lit (.bool true)], args := [d] }
  | _ => none }
def fnExactSerialRow : OpenClaim := { program := "ytaconefooicplaa", sum := "1b16f687fb7a456e7e9e969a774fe25a83a8c6bc84d0433f2b93bf6d543211da", func := "loop.example/g00422/laws.FnExactSerial", spec := "fnExactSerial", inPlace := ["internal/bytealg.Compare"], unfollowed := true, recurses := true, apart := false }
def FnExactSerialSaid : Prop := fnExactSerialRow.holds Try.pinned (OpenSpec.ofChange fnExactSerialSpec)

/-- ITS FALSE NEIGHBOUR: 'it returns false'. Refute it at one input. -/
def fnExactSerialWrong : ChangeSpec := { name := "fnExactSerial", fn := fun _ => fun
  | [d] => { results := [.lit (.bool false)], args := [d] }
  | _ => none }
def FnExactSerialWrongFalsely : Prop := fnExactSerialRow.holds Try.pinned (OpenSpec.ofChange fnExactSerialWrong)

/- THE SECOND FORM. 'bulk': how many values and letters a reading holds, each counted each time it is reached (what is shared counts as often as it is met; a slice's spare places count too). A statement '..UptoSaid' is the law's where the arguments, and the package variables that the reading takes, are together of bulk at most 1048576: NARROWER than '..Said'. Prove '..Said' where nothing that the law and all that it calls make is longer than what came in: it says more and counts as full. Else prove '..UptoSaid'. A law counts once. -/
mutual
def uptoBulk {H : Type} : DataW H → Nat
  | .lit (.string bytes) => bytes.length + 1
  | .lit _ => 1
  | .nil => 1
  | .ptr d => uptoBulk d + 1
  | .slice elems spare => uptoBulkAll elems + uptoBulkAll spare + 1
  | .agg parts => uptoBulkAll parts + 1
  | .iface _ d => uptoBulk d + 1
  | .map entries => uptoBulkEntries entries + 1
  | .held _ => 1
def uptoBulkAll {H : Type} : List (DataW H) → Nat
  | [] => 0
  | d :: r => uptoBulk d + uptoBulkAll r
def uptoBulkEntries {H : Type} : List (Lit × DataW H) → Nat
  | [] => 0
  | x :: r => uptoBulkEntry x + uptoBulkEntries r
def uptoBulkEntry {H : Type} : Lit × DataW H → Nat
  | (.string bytes, d) => bytes.length + uptoBulk d + 1
  | (_, d) => uptoBulk d + 1
 end
def uptoSmall : (H : Type) → List (DataW H) → Bool := fun _ ds => decide (uptoBulkAll ds ≤ 1048576)
def OpenSpec.upto (s : _root_.Go.ChangeSpec) : _root_.Go.OpenSpec := { _root_.Go.OpenSpec.ofChange s with cond := some uptoSmall }

/-- 'laws.FnNameTexts', WHERE WHAT IT READS IS OF BULK AT MOST 1048576: true; the input reads as it did. -/
def fnNameTextsUptoRow : OpenClaim := { program := "ytaconefooicplaa", sum := "1b16f687fb7a456e7e9e969a774fe25a83a8c6bc84d0433f2b93bf6d543211da", func := "loop.example/g00422/laws.FnNameTexts", spec := "fnNameTexts", inPlace := ["internal/bytealg.IndexByte", "internal/bytealg.Index"], unfollowed := true, recurses := true, named := ["internal/bytealg.MaxLen"], apart := false, narrowed := true }
def FnNameTextsUptoSaid : Prop := fnNameTextsUptoRow.holds Try.pinned (OpenSpec.upto fnNameTextsSpec)

/-- 'laws.FnNameOrder', WHERE WHAT IT READS IS OF BULK AT MOST 1048576: true; the input reads as it did. -/
def fnNameOrderUptoRow : OpenClaim := { program := "ytaconefooicplaa", sum := "1b16f687fb7a456e7e9e969a774fe25a83a8c6bc84d0433f2b93bf6d543211da", func := "loop.example/g00422/laws.FnNameOrder", spec := "fnNameOrder", inPlace := ["internal/bytealg.Compare", "internal/bytealg.IndexByte", "internal/bytealg.Index"], unfollowed := true, recurses := true, named := ["internal/bytealg.MaxLen"], apart := false, narrowed := true }
def FnNameOrderUptoSaid : Prop := fnNameOrderUptoRow.holds Try.pinned (OpenSpec.upto fnNameOrderSpec)

/-- 'laws.FnNameWire', WHERE WHAT IT READS IS OF BULK AT MOST 1048576: true; the input reads as it did. -/
def fnNameWireUptoRow : OpenClaim := { program := "ytaconefooicplaa", sum := "1b16f687fb7a456e7e9e969a774fe25a83a8c6bc84d0433f2b93bf6d543211da", func := "loop.example/g00422/laws.FnNameWire", spec := "fnNameWire", inPlace := ["internal/bytealg.IndexByte", "internal/bytealg.Index"], unfollowed := true, recurses := true, named := ["internal/bytealg.MaxLen"], apart := false, narrowed := true }
def FnNameWireUptoSaid : Prop := fnNameWireUptoRow.holds Try.pinned (OpenSpec.upto fnNameWireSpec)

/-- 'laws.FnRecordOrder', WHERE WHAT IT READS IS OF BULK AT MOST 1048576: true; the input reads as it did. -/
def fnRecordOrderUptoRow : OpenClaim := { program := "ytaconefooicplaa", sum := "1b16f687fb7a456e7e9e969a774fe25a83a8c6bc84d0433f2b93bf6d543211da", func := "loop.example/g00422/laws.FnRecordOrder", spec := "fnRecordOrder", inPlace := ["internal/bytealg.Compare", "internal/bytealg.IndexByte", "internal/bytealg.Index"], unfollowed := true, recurses := true, named := ["internal/bytealg.MaxLen"], apart := false, narrowed := true }
def FnRecordOrderUptoSaid : Prop := fnRecordOrderUptoRow.holds Try.pinned (OpenSpec.upto fnRecordOrderSpec)

/-- 'laws.FnExactZoneOk', WHERE WHAT IT READS IS OF BULK AT MOST 1048576: true; the input reads as it did. -/
def fnExactZoneOkUptoRow : OpenClaim := { program := "ytaconefooicplaa", sum := "1b16f687fb7a456e7e9e969a774fe25a83a8c6bc84d0433f2b93bf6d543211da", func := "loop.example/g00422/laws.FnExactZoneOk", spec := "fnExactZoneOk", inPlace := ["internal/bytealg.Compare"], unfollowed := true, recurses := true, apart := false, narrowed := true }
def FnExactZoneOkUptoSaid : Prop := fnExactZoneOkUptoRow.holds Try.pinned (OpenSpec.upto fnExactZoneOkSpec)

/-- 'laws.FnExactSerial', WHERE WHAT IT READS IS OF BULK AT MOST 1048576: true; the input reads as it did. -/
def fnExactSerialUptoRow : OpenClaim := { program := "ytaconefooicplaa", sum := "1b16f687fb7a456e7e9e969a774fe25a83a8c6bc84d0433f2b93bf6d543211da", func := "loop.example/g00422/laws.FnExactSerial", spec := "fnExactSerial", inPlace := ["internal/bytealg.Compare"], unfollowed := true, recurses := true, apart := false, narrowed := true }
def FnExactSerialUptoSaid : Prop := fnExactSerialUptoRow.holds Try.pinned (OpenSpec.upto fnExactSerialSpec)

end Rows
end Go.Proofs.Ytaconefooicplaa
