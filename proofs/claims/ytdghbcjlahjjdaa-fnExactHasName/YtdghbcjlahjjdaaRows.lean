/-
  No cell of these rows narrows 'for every input' (looked for: loops, veiled, ifaces, maps, wideKeys, modest, calm, conditions, laid).
  DERIVED. THE GIVEN ROWS OF THIS SEAT. 3 by the template 'for every input the law returns true; each argument reads behind the call as it read before'; 0 by the template 'total and deterministic' (their statements: YtdghbcjlahjjdaaTotals.lean).
  GIVEN WITH THE SEED: the statements are not yours to turn. If you find one false, say at which input.
  Laid BY PROGRAM, IN A SANDBOX (cutbox-rows.mjs): the forced cells as the released guide's own fill.sh prints them over the translation 2db2a069db51c29e… (all of the seat's roots in one cut). By AI agents, Wed Nov 11 2026. No macro, syntax, notation, axiom, sorry.
-/
import Derived.Test.YtdghbcjlahjjdaaChecked
import GoSem.Claim
import GoSem.ClaimJoined
import GoSem.ClaimMapViews
import Derived.JoinedTies
import Derived.KernelRfl
namespace Go.Proofs.Ytdghbcjlahjjdaa
/- THE CELL 'sum', in the pinned program and in every row, IS THE sha256 OF THE DUMP (.gsa) THAT YtdghbcjlahjjdaaProg.lean LOADS. Nothing in Lean hashes anything: it is a label: what it is worth is what the hold of that sum in a sandbox is worth. -/
noncomputable def Try.pinned : Pinned := { name := "ytdghbcjlahjjdaa", sum := "2db2a069db51c29ed11dae5ab818ff2e637a87f480a25a89ac85060953a1c560", checked := Try.checked }
namespace Rows
def none {H : Type} : Left H := { results := [], args := [] }

/-- 'laws.FnRecordOrder': WHATEVER THE INPUT: true; the input reads as it did. -/
def fnRecordOrderSpec : ChangeSpec := { name := "fnRecordOrder", fn := fun _ => fun
  | [d] => { results := [.lit (.bool true)], args := [d] }
  | _ => none }
def fnRecordOrderRow : OpenClaim := { program := "ytdghbcjlahjjdaa", sum := "2db2a069db51c29ed11dae5ab818ff2e637a87f480a25a89ac85060953a1c560", func := "loop.example/g00422/laws.FnRecordOrder", spec := "fnRecordOrder", inPlace := ["internal/bytealg.Compare", "internal/bytealg.IndexByte", "internal/bytealg.Index"], unfollowed := true, recurses := true, named := ["internal/bytealg.MaxLen"], apart := false }
def FnRecordOrderSaid : Prop := fnRecordOrderRow.holds Try.pinned (OpenSpec.ofChange fnRecordOrderSpec)

/-- ITS FALSE NEIGHBOUR: 'it returns false'. Refute it at one input. -/
def fnRecordOrderWrong : ChangeSpec := { name := "fnRecordOrder", fn := fun _ => fun
  | [d] => { results := [.lit (.bool false)], args := [d] }
  | _ => none }
def FnRecordOrderWrongFalsely : Prop := fnRecordOrderRow.holds Try.pinned (OpenSpec.ofChange fnRecordOrderWrong)

/-- 'laws.FnExactZoneNew': WHATEVER THE INPUT: true; the input reads as it did. -/
def fnExactZoneNewSpec : ChangeSpec := { name := "fnExactZoneNew", fn := fun _ => fun
  | [d1, d2] => { results := [.lit (.bool true)], args := [d1, d2] }
  | _ => none }
def fnExactZoneNewRow : OpenClaim := { program := "ytdghbcjlahjjdaa", sum := "2db2a069db51c29ed11dae5ab818ff2e637a87f480a25a89ac85060953a1c560", func := "loop.example/g00422/laws.FnExactZoneNew", spec := "fnExactZoneNew", inPlace := ["internal/bytealg.Compare"], unfollowed := true, recurses := true, apart := false }
def FnExactZoneNewSaid : Prop := fnExactZoneNewRow.holds Try.pinned (OpenSpec.ofChange fnExactZoneNewSpec)

/-- ITS FALSE NEIGHBOUR: 'it returns false'. Refute it at one input. -/
def fnExactZoneNewWrong : ChangeSpec := { name := "fnExactZoneNew", fn := fun _ => fun
  | [d1, d2] => { results := [.lit (.bool false)], args := [d1, d2] }
  | _ => none }
def FnExactZoneNewWrongFalsely : Prop := fnExactZoneNewRow.holds Try.pinned (OpenSpec.ofChange fnExactZoneNewWrong)

/-- 'laws.FnExactHasName': WHATEVER THE INPUT: true; the input reads as it did. -/
def fnExactHasNameSpec : ChangeSpec := { name := "fnExactHasName", fn := fun _ => fun
  | [d1, d2] => { results := [.lit (.bool true)], args := [d1, d2] }
  | _ => none }
def fnExactHasNameRow : OpenClaim := { program := "ytdghbcjlahjjdaa", sum := "2db2a069db51c29ed11dae5ab818ff2e637a87f480a25a89ac85060953a1c560", func := "loop.example/g00422/laws.FnExactHasName", spec := "fnExactHasName", inPlace := ["internal/bytealg.Compare"], unfollowed := true, recurses := true, apart := false }
def FnExactHasNameSaid : Prop := fnExactHasNameRow.holds Try.pinned (OpenSpec.ofChange fnExactHasNameSpec)

/-- ITS FALSE NEIGHBOUR: 'it returns false'. Refute it at one input. -/
def fnExactHasNameWrong : ChangeSpec := { name := "fnExactHasName", fn := fun _ => fun
  | [d1, d2] => { results := [.lit (.bool false)], args := [d1, d2] }
  | _ => none }
def FnExactHasNameWrongFalsely : Prop := fnExactHasNameRow.holds Try.pinned (OpenSpec.ofChange fnExactHasNameWrong)

/- THE SECOND FORM. 'bulk': how many values and letters a reading holds, each counted each time it is reached (what is shared counts as often as it is met; a slice's spare places count too). A statement '..UptoSaid' is the law's where the arguments, and the package variables that the reading takes, are together of bulk at most 1048576: NARROWER than '..Said'. Prove '..Said' where nothing that the law and all that it calls make is longer than what came in: it says more and counts as full. Else prove '..UptoSaid'. A law counts once. -/
mutual
def uptoBulk {H : Type} : DataW H → Nat
  | .lit (.string bytes) => bytes.length + 1
  | .lit _ => 1
  | .nil => 1
  | .ptr d => uptoBulk d + 1
  | .slice elems spare => uptoBulkAll elems + uptoBulkAll spare + 1
  | .agg parts => uptoBulkAll parts + 1
  | .iface _ d => uptoBulk d + 1
  | .map entries => uptoBulkEntries entries + 1
  | .held _ => 1
def uptoBulkAll {H : Type} : List (DataW H) → Nat
  | [] => 0
  | d :: r => uptoBulk d + uptoBulkAll r
def uptoBulkEntries {H : Type} : List (Lit × DataW H) → Nat
  | [] => 0
  | x :: r => uptoBulkEntry x + uptoBulkEntries r
def uptoBulkEntry {H : Type} : Lit × DataW H → Nat
  | (.string bytes, d) => bytes.length + uptoBulk d + 1
  | (_, d) => uptoBulk d + 1
 end
def uptoSmall : (H : Type) → List (DataW H) → Bool := fun _ ds => decide (uptoBulkAll ds ≤ 1048576)
def OpenSpec.upto (s : _root_.Go.ChangeSpec) : _root_.Go.OpenSpec := { _root_.Go.OpenSpec.ofChange s with cond := some uptoSmall }

/-- 'laws.FnRecordOrder', WHERE WHAT IT READS IS OF BULK AT MOST 1048576: true; the input reads as it did. -/
def fnRecordOrderUptoRow : OpenClaim := { program := "ytdghbcjlahjjdaa", sum := "2db2a069db51c29ed11dae5ab818ff2e637a87f480a25a89ac85060953a1c560", func := "loop.example/g00422/laws.FnRecordOrder", spec := "fnRecordOrder", inPlace := ["internal/bytealg.Compare", "internal/bytealg.IndexByte", "internal/bytealg.Index"], unfollowed := true, recurses := true, named := ["internal/bytealg.MaxLen"], apart := false, narrowed := true }
def FnRecordOrderUptoSaid : Prop := fnRecordOrderUptoRow.holds Try.pinned (OpenSpec.upto fnRecordOrderSpec)

/-- 'laws.FnExactZoneNew', WHERE WHAT IT READS IS OF BULK AT MOST 1048576: true; the input reads as it did. -/
def fnExactZoneNewUptoRow : OpenClaim := { program := "ytdghbcjlahjjdaa", sum := "2db2a069db51c29ed11dae5ab818ff2e637a87f480a25a89ac85060953a1c560", func := "loop.example/g00422/laws.FnExactZoneNew", spec := "fnExactZoneNew", inPlace := ["internal/bytealg.Compare"], unfollowed := true, recurses := true, apart := false, narrowed := true }
def FnExactZoneNewUptoSaid : Prop := fnExactZoneNewUptoRow.holds Try.pinned (OpenSpec.upto fnExactZoneNewSpec)

/-- 'laws.FnExactHasName', WHERE WHAT IT READS IS OF BULK AT MOST 1048576: true; the input reads as it did. -/
def fnExactHasNameUptoRow : OpenClaim := { program := "ytdghbcjlahjjdaa", sum := "2db2a069db51c29ed11dae5ab818ff2e637a87f480a25a89ac85060953a1c560", func := "loop.example/g00422/laws.FnExactHasName", spec := "fnExactHasName", inPlace := ["internal/bytealg.Compare"], unfollowed := true, recurses := true, apart := false, narrowed := true }
def FnExactHasNameUptoSaid : Prop := fnExactHasNameUptoRow.holds Try.pinned (OpenSpec.upto fnExactHasNameSpec)

end Rows
end Go.Proofs.Ytdghbcjlahjjdaa
