/-
  No cell of these rows narrows 'for every input' (looked for: loops, veiled, ifaces, maps, wideKeys, modest, calm, conditions, laid).
  DERIVED. THE GIVEN ROWS OF THIS SEAT. 8 by the template 'for every input the law returns true; each argument reads behind the call as it read before'; 0 by the template 'total and deterministic' (their statements: YtnloenkjfjlmeaaTotals.lean).
  GIVEN WITH THE SEED: the statements are not yours to turn. If you find one false, say at which input.
  Laid BY PROGRAM, IN A SANDBOX (cutbox-rows.mjs): the forced cells as the released guide's own fill.sh prints them over the translation c94805490da865b1… (all of the seat's roots in one cut). By AI agents, Wed Nov 11 2026. No macro, syntax, notation, axiom, sorry.
-/
import Derived.Test.YtnloenkjfjlmeaaChecked
import GoSem.Claim
import GoSem.ClaimJoined
import GoSem.ClaimMapViews
import Derived.JoinedTies
import Derived.KernelRfl
namespace Go.Proofs.Ytnloenkjfjlmeaa
/- THE CELL 'sum', in the pinned program and in every row, IS THE sha256 OF THE DUMP (.gsa) THAT YtnloenkjfjlmeaaProg.lean LOADS. Nothing in Lean hashes anything: it is a label: what it is worth is what the hold of that sum in a sandbox is worth. -/
noncomputable def Try.pinned : Pinned := { name := "ytnloenkjfjlmeaa", sum := "c94805490da865b1ea901d491f47b235c4c4c64c40edcc5a46ff8bca7d78feb4", checked := Try.checked }
namespace Rows
def none {H : Type} : Left H := { results := [], args := [] }

/-- 'laws.FnNameTexts': WHATEVER THE INPUT: true; the input reads as it did. -/
def fnNameTextsSpec : ChangeSpec := { name := "fnNameTexts", fn := fun _ => fun
  | [d] => { results := [.lit (.bool true)], args := [d] }
  | _ => none }
def fnNameTextsRow : OpenClaim := { program := "ytnloenkjfjlmeaa", sum := "c94805490da865b1ea901d491f47b235c4c4c64c40edcc5a46ff8bca7d78feb4", func := "loop.example/g00422/laws.FnNameTexts", spec := "fnNameTexts", inPlace := ["internal/bytealg.IndexByte", "internal/bytealg.Index"], unfollowed := true, recurses := true, named := ["internal/bytealg.MaxLen"], apart := false }
def FnNameTextsSaid : Prop := fnNameTextsRow.holds Try.pinned (OpenSpec.ofChange fnNameTextsSpec)

/-- ITS FALSE NEIGHBOUR: 'it returns false'. Refute it at one input. -/
def fnNameTextsWrong : ChangeSpec := { name := "fnNameTexts", fn := fun _ => fun
  | [d] => { results := [.lit (.bool false)], args := [d] }
  | _ => none }
def FnNameTextsWrongFalsely : Prop := fnNameTextsRow.holds Try.pinned (OpenSpec.ofChange fnNameTextsWrong)

/-- 'laws.FnNameOrder': WHATEVER THE INPUT: true; the input reads as it did. -/
def fnNameOrderSpec : ChangeSpec := { name := "fnNameOrder", fn := fun _ => fun
  | [d] => { results := [.lit (.bool true)], args := [d] }
  | _ => none }
def fnNameOrderRow : OpenClaim := { program := "ytnloenkjfjlmeaa", sum := "c94805490da865b1ea901d491f47b235c4c4c64c40edcc5a46ff8bca7d78feb4", func := "loop.example/g00422/laws.FnNameOrder", spec := "fnNameOrder", inPlace := ["internal/bytealg.Compare", "internal/bytealg.IndexByte", "internal/bytealg.Index"], unfollowed := true, recurses := true, named := ["internal/bytealg.MaxLen"], apart := false }
def FnNameOrderSaid : Prop := fnNameOrderRow.holds Try.pinned (OpenSpec.ofChange fnNameOrderSpec)

/-- ITS FALSE NEIGHBOUR: 'it returns false'. Refute it at one input. -/
def fnNameOrderWrong : ChangeSpec := { name := "fnNameOrder", fn := fun _ => fun
  | [d] => { results := [.lit (.bool false)], args := [d] }
  | _ => none }
def FnNameOrderWrongFalsely : Prop := fnNameOrderRow.holds Try.pinned (OpenSpec.ofChange fnNameOrderWrong)

/-- 'laws.FnNameWire': WHATEVER THE INPUT: true; the input reads as it did. -/
def fnNameWireSpec : ChangeSpec := { name := "fnNameWire", fn := fun _ => fun
  | [d] => { results := [.lit (.bool true)], args := [d] }
  | _ => none }
def fnNameWireRow : OpenClaim := { program := "ytnloenkjfjlmeaa", sum := "c94805490da865b1ea901d491f47b235c4c4c64c40edcc5a46ff8bca7d78feb4", func := "loop.example/g00422/laws.FnNameWire", spec := "fnNameWire", inPlace := ["internal/bytealg.IndexByte", "internal/bytealg.Index"], unfollowed := true, recurses := true, named := ["internal/bytealg.MaxLen"], apart := false }
def FnNameWireSaid : Prop := fnNameWireRow.holds Try.pinned (OpenSpec.ofChange fnNameWireSpec)

/-- ITS FALSE NEIGHBOUR: 'it returns false'. Refute it at one input. -/
def fnNameWireWrong : ChangeSpec := { name := "fnNameWire", fn := fun _ => fun
  | [d] => { results := [.lit (.bool false)], args := [d] }
  | _ => none }
def FnNameWireWrongFalsely : Prop := fnNameWireRow.holds Try.pinned (OpenSpec.ofChange fnNameWireWrong)

/-- 'laws.FnRecordOrder': WHATEVER THE INPUT: true; the input reads as it did. -/
def fnRecordOrderSpec : ChangeSpec := { name := "fnRecordOrder", fn := fun _ => fun
  | [d] => { results := [.lit (.bool true)], args := [d] }
  | _ => none }
def fnRecordOrderRow : OpenClaim := { program := "ytnloenkjfjlmeaa", sum := "c94805490da865b1ea901d491f47b235c4c4c64c40edcc5a46ff8bca7d78feb4", func := "loop.example/g00422/laws.FnRecordOrder", spec := "fnRecordOrder", inPlace := ["internal/bytealg.Compare", "internal/bytealg.IndexByte", "internal/bytealg.Index"], unfollowed := true, recurses := true, named := ["internal/bytealg.MaxLen"], apart := false }
def FnRecordOrderSaid : Prop := fnRecordOrderRow.holds Try.pinned (OpenSpec.ofChange fnRecordOrderSpec)

/-- ITS FALSE NEIGHBOUR: 'it returns false'. Refute it at one input. -/
def fnRecordOrderWrong : ChangeSpec := { name := "fnRecordOrder", fn := fun _ => fun
  | [d] => { results := [.lit (.bool false)], args := [d] }
  | _ => none }
def FnRecordOrderWrongFalsely : Prop := fnRecordOrderRow.holds Try.pinned (OpenSpec.ofChange fnRecordOrderWrong)

/-- 'laws.FnExactNameRead': WHATEVER THE INPUT: true; the input reads as it did. -/
def fnExactNameReadSpec : ChangeSpec := { name := "fnExactNameRead", fn := fun _ => fun
  | [d] => { results := [.lit (.bool true)], args := [d] }
  | _ => none }
def fnExactNameReadRow : OpenClaim := { program := "ytnloenkjfjlmeaa", sum := "c94805490da865b1ea901d491f47b235c4c4c64c40edcc5a46ff8bca7d78feb4", func := "loop.example/g00422/laws.FnExactNameRead", spec := "fnExactNameRead", inPlace := ["internal/bytealg.IndexByte", "internal/bytealg.Index"], unfollowed := true, recurses := true, named := ["internal/bytealg.MaxLen"], apart := false }
def FnExactNameReadSaid : Prop := fnExactNameReadRow.holds Try.pinned (OpenSpec.ofChange fnExactNameReadSpec)

/-- ITS FALSE NEIGHBOUR: 'it returns false'. Refute it at one input. -/
def fnExactNameReadWrong : ChangeSpec := { name := "fnExactNameRead", fn := fun _ => fun
  | [d] => { results := [.lit (.bool false)], args := [d] }
  | _ => none }
def FnExactNameReadWrongFalsely : Prop := fnExactNameReadRow.holds Try.pinned (OpenSpec.ofChange fnExactNameReadWrong)

/-- 'laws.FnExactDataGet': WHATEVER THE INPUT: true; the input reads as it did. -/
def fnExactDataGetSpec : ChangeSpec := { name := "fnExactDataGet", fn := fun _ => fun
  | [d1, d2, d3, d4] => { results := [.lit (.bool true)], args := [d1, d2, d3, d4] }
  | _ => none }
def fnExactDataGetRow : OpenClaim := { program := "ytnloenkjfjlmeaa", sum := "c94805490da865b1ea901d491f47b235c4c4c64c40edcc5a46ff8bca7d78feb4", func := "loop.example/g00422/laws.FnExactDataGet", spec := "fnExactDataGet", unfollowed := true, recurses := true, apart := false }
def FnExactDataGetSaid : Prop := fnExactDataGetRow.holds Try.pinned (OpenSpec.ofChange fnExactDataGetSpec)

/-- ITS FALSE NEIGHBOUR: 'it returns false'. Refute it at one input. -/
def fnExactDataGetWrong : ChangeSpec := { name := "fnExactDataGet", fn := fun _ => fun
  | [d1, d2, d3, d4] => { results := [.lit (.bool false)], args := [d1, d2, d3, d4] }
  | _ => none }
def FnExactDataGetWrongFalsely : Prop := fnExactDataGetRow.holds Try.pinned (OpenSpec.ofChange fnExactDataGetWrong)

/-- 'laws.FnExactRrPut': WHATEVER THE INPUT: true; the input reads as it did. -/
def fnExactRrPutSpec : ChangeSpec := { name := "fnExactRrPut", fn := fun _ => fun
  | [d1, d2] => { results := [.lit (.bool true)], args := [d1, d2] }
  | _ => none }
def fnExactRrPutRow : OpenClaim := { program := "ytnloenkjfjlmeaa", sum := "c94805490da865b1ea901d491f47b235c4c4c64c40edcc5a46ff8bca7d78feb4", func := "loop.example/g00422/laws.FnExactRrPut", spec := "fnExactRrPut", unfollowed := true, recurses := true, apart := false }
def FnExactRrPutSaid : Prop := fnExactRrPutRow.holds Try.pinned (OpenSpec.ofChange fnExactRrPutSpec)

/-- ITS FALSE NEIGHBOUR: 'it returns false'. Refute it at one input. -/
def fnExactRrPutWrong : ChangeSpec := { name := "fnExactRrPut", fn := fun _ => fun
  | [d1, d2] => { results := [.lit (.bool false)], args := [d1, d2] }
  | _ => none }
def FnExactRrPutWrongFalsely : Prop := fnExactRrPutRow.holds Try.pinned (OpenSpec.ofChange fnExactRrPutWrong)

/-- 'laws.FnExactRrGet': WHATEVER THE INPUT: true; the input reads as it did. -/
def fnExactRrGetSpec : ChangeSpec := { name := "fnExactRrGet", fn := fun _ => fun
  | [d1, d2] => { results := [.lit (.bool true)], args := [d1, d2] }
  | _ => none }
def fnExactRrGetRow : OpenClaim := { program := "ytnloenkjfjlmeaa", sum := "c94805490da865b1ea901d491f47b235c4c4c64c40edcc5a46ff8bca7d78feb4", func := "loop.example/g00422/laws.FnExactRrGet", spec := "fnExactRrGet", unfollowed := true, recurses := true, apart := false }
def FnExactRrGetSaid : Prop := fnExactRrGetRow.holds Try.pinned (OpenSpec.ofChange fnExactRrGetSpec)

/-- ITS FALSE NEIGHBOUR: 'it returns false'. Refute it at one input. -/
def fnExactRrGetWrong : ChangeSpec := { name := "fnExactRrGet", fn := fun _ => fun
  | [d1, d2] => { results := [.lit (.bool false)], args := [d1, d2] }
  | _ => none }
def FnExactRrGetWrongFalsely : Prop := fnExactRrGetRow.holds Try.pinned (OpenSpec.ofChange fnExactRrGetWrong)

/- THE SECOND FORM. 'bulk': how many values and letters a reading holds, each counted each time it is reached (what is shared counts as often as it is met; a slice's spare places count too). A statement '..UptoSaid' is the law's where the arguments, and the package variables that the reading takes, are together of bulk at most 1048576: NARROWER than '..Said'. Prove '..Said' where nothing that the law and all that it calls make is longer than what came in: it says more and counts as full. Else prove '..UptoSaid'. A law counts once. -/
mutual
def uptoBulk {H : Type} : DataW H → Nat
  | .lit (.string bytes) => bytes.length + 1
  | .lit _ => 1
  | .nil => 1
  | .ptr d => uptoBulk d + 1
  | .slice elems spare => uptoBulkAll elems + uptoBulkAll spare + 1
  | .agg parts => uptoBulkAll parts + 1
  | .iface _ d => uptoBulk d + 1
  | .map entries => uptoBulkEntries entries + 1
  | .held _ => 1
def uptoBulkAll {H : Type} : List (DataW H) → Nat
  | [] => 0
  | d :: r => uptoBulk d + uptoBulkAll r
def uptoBulkEntries {H : Type} : List (Lit × DataW H) → Nat
  | [] => 0
  | x :: r => uptoBulkEntry x + uptoBulkEntries r
def uptoBulkEntry {H : Type} : Lit × DataW H → Nat
  | (.string bytes, d) => bytes.length + uptoBulk d + 1
  | (_, d) => uptoBulk d + 1
 end
def uptoSmall : (H : Type) → List (DataW H) → Bool := fun _ ds => decide (uptoBulkAll ds ≤ 1048576)
def OpenSpec.upto (s : _root_.Go.ChangeSpec) : _root_.Go.OpenSpec := { _root_.Go.OpenSpec.ofChange s with cond := some uptoSmall }

/-- 'laws.FnNameTexts', WHERE WHAT IT READS IS OF BULK AT MOST 1048576: true; the input reads as it did. -/
def fnNameTextsUptoRow : OpenClaim := { program := "ytnloenkjfjlmeaa", sum := "c94805490da865b1ea901d491f47b235c4c4c64c40edcc5a46ff8bca7d78feb4", func := "loop.example/g00422/laws.FnNameTexts", spec := "fnNameTexts", inPlace := ["internal/bytealg.IndexByte", "internal/bytealg.Index"], unfollowed := true, recurses := true, named := ["internal/bytealg.MaxLen"], apart := false, narrowed := true }
def FnNameTextsUptoSaid : Prop := fnNameTextsUptoRow.holds Try.pinned (OpenSpec.upto fnNameTextsSpec)

/-- 'laws.FnNameOrder', WHERE WHAT IT READS IS OF BULK AT MOST 1048576: true; the input reads as it did. -/
def fnNameOrderUptoRow : OpenClaim := { program := "ytnloenkjfjlmeaa", sum := "c94805490da865b1ea901d491f47b235c4c4c64c40edcc5a46ff8bca7d78feb4", func := "loop.example/g00422/laws.FnNameOrder", spec := "fnNameOrder", inPlace := ["internal/bytealg.Compare", "internal/bytealg.IndexByte", "internal/bytealg.Index"], unfollowed := true, recurses := true, named := ["internal/bytealg.MaxLen"], apart := false, narrowed := true }
def FnNameOrderUptoSaid : Prop := fnNameOrderUptoRow.holds Try.pinned (OpenSpec.upto fnNameOrderSpec)

/-- 'laws.FnNameWire', WHERE WHAT IT READS IS OF BULK AT MOST 1048576: true; the input reads as it did. -/
def fnNameWireUptoRow : OpenClaim := { program := "ytnloenkjfjlmeaa", sum := "c94805490da865b1ea901d491f47b235c4c4c64c40edcc5a46ff8bca7d78feb4", func := "loop.example/g00422/laws.FnNameWire", spec := "fnNameWire", inPlace := ["internal/bytealg.IndexByte", "internal/bytealg.Index"], unfollowed := true, recurses := true, named := ["internal/bytealg.MaxLen"], apart := false, narrowed := true }
def FnNameWireUptoSaid : Prop := fnNameWireUptoRow.holds Try.pinned (OpenSpec.upto fnNameWireSpec)

/-- 'laws.FnRecordOrder', WHERE WHAT IT READS IS OF BULK AT MOST 1048576: true; the input reads as it did. -/
def fnRecordOrderUptoRow : OpenClaim := { program := "ytnloenkjfjlmeaa", sum := "c94805490da865b1ea901d491f47b235c4c4c64c40edcc5a46ff8bca7d78feb4", func := "loop.example/g00422/laws.FnRecordOrder", spec := "fnRecordOrder", inPlace := ["internal/bytealg.Compare", "internal/bytealg.IndexByte", "internal/bytealg.Index"], unfollowed := true, recurses := true, named := ["internal/bytealg.MaxLen"], apart := false, narrowed := true }
def FnRecordOrderUptoSaid : Prop := fnRecordOrderUptoRow.holds Try.pinned (OpenSpec.upto fnRecordOrderSpec)

/-- 'laws.FnExactNameRead', WHERE WHAT IT READS IS OF BULK AT MOST 1048576: true; the input reads as it did. -/
def fnExactNameReadUptoRow : OpenClaim := { program := "ytnloenkjfjlmeaa", sum := "c94805490da865b1ea901d491f47b235c4c4c64c40edcc5a46ff8bca7d78feb4", func := "loop.example/g00422/laws.FnExactNameRead", spec := "fnExactNameRead", inPlace := ["internal/bytealg.IndexByte", "internal/bytealg.Index"], unfollowed := true, recurses := true, named := ["internal/bytealg.MaxLen"], apart := false, narrowed := true }
def FnExactNameReadUptoSaid : Prop := fnExactNameReadUptoRow.holds Try.pinned (OpenSpec.upto fnExactNameReadSpec)

/-- 'laws.FnExactDataGet', WHERE WHAT IT READS IS OF BULK AT MOST 1048576: true; the input reads as it did. -/
def fnExactDataGetUptoRow : OpenClaim := { program := "ytnloenkjfjlmeaa", sum := "c94805490da865b1ea901d491f47b235c4c4c64c40edcc5a46ff8bca7d78feb4", func := "loop.example/g00422/laws.FnExactDataGet", spec := "fnExactDataGet", unfollowed := true, recurses := true, apart := false, narrowed := true }
def FnExactDataGetUptoSaid : Prop := fnExactDataGetUptoRow.holds Try.pinned (OpenSpec.upto fnExactDataGetSpec)

/-- 'laws.FnExactRrPut', WHERE WHAT IT READS IS OF BULK AT MOST 1048576: true; the input reads as it did. -/
def fnExactRrPutUptoRow : OpenClaim := { program := "ytnloenkjfjlmeaa", sum := "c94805490da865b1ea901d491f47b235c4c4c64c40edcc5a46ff8bca7d78feb4", func := "loop.example/g00422/laws.FnExactRrPut", spec := "fnExactRrPut", unfollowed := true, recurses := true, apart := false, narrowed := true }
def FnExactRrPutUptoSaid : Prop := fnExactRrPutUptoRow.holds Try.pinned (OpenSpec.upto fnExactRrPutSpec)

/-- 'laws.FnExactRrGet', WHERE WHAT IT READS IS OF BULK AT MOST 1048576: true; the input reads as it did. -/
def fnExactRrGetUptoRow : OpenClaim := { program := "ytnloenkjfjlmeaa", sum := "c94805490da865b1ea901d491f47b235c4c4c64c40edcc5a46ff8bca7d78feb4", func := "loop.example/g00422/laws.FnExactRrGet", spec := "fnExactRrGet", unfollowed := true, recurses := true, apart := false, narrowed := true }
def FnExactRrGetUptoSaid : Prop := fnExactRrGetUptoRow.holds Try.pinned (OpenSpec.upto fnExactRrGetSpec)

end Rows
end Go.Proofs.Ytnloenkjfjlmeaa
