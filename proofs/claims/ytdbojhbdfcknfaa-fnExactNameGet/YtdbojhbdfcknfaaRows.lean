/-
  No cell of these rows narrows 'for every input' (looked for: loops, veiled, ifaces, maps, wideKeys, modest, calm, conditions, laid).
  DERIVED. THE GIVEN ROWS OF THIS SEAT. 19 by the template 'for every input the law returns true; each argument reads behind the call as it read before'; 0 by the template 'total and deterministic' (their statements: YtdbojhbdfcknfaaTotals.lean).
  GIVEN WITH THE SEED: the statements are not yours to turn. If you find one false, say at which input.
  Laid BY PROGRAM, IN A SANDBOX (cutbox-rows.mjs): the forced cells as the released guide's own fill.sh prints them over the translation ca30c8c166228cd2… (all of the seat's roots in one cut). By AI agents, Wed Nov 11 2026. No macro, syntax, notation, axiom, sorry.
-/
import Derived.Test.YtdbojhbdfcknfaaChecked
import GoSem.Claim
import GoSem.ClaimJoined
import GoSem.ClaimMapViews
import Derived.JoinedTies
import Derived.KernelRfl
namespace Go.Proofs.Ytdbojhbdfcknfaa
/- THE CELL 'sum', in the pinned program and in every row, IS THE sha256 OF THE DUMP (.gsa) THAT YtdbojhbdfcknfaaProg.lean LOADS. Nothing in Lean hashes anything: it is a label: what it is worth is what the hold of that sum in a sandbox is worth. -/
noncomputable def Try.pinned : Pinned := { name := "ytdbojhbdfcknfaa", sum := "ca30c8c166228cd2dffd52bee38eceeff61dae75d075faf1db44d007c25be8f2", checked := Try.checked }
namespace Rows
def none {H : Type} : Left H := { results := [], args := [] }

/-- 'laws.FnNameTexts': WHATEVER THE INPUT: true; the input reads as it did. -/
def fnNameTextsSpec : ChangeSpec := { name := "fnNameTexts", fn := fun _ => fun
  | [d] => { results := [.lit (.bool true)], args := [d] }
  | _ => none }
def fnNameTextsRow : OpenClaim := { program := "ytdbojhbdfcknfaa", sum := "ca30c8c166228cd2dffd52bee38eceeff61dae75d075faf1db44d007c25be8f2", func := "loop.example/g00422/laws.FnNameTexts", spec := "fnNameTexts", inPlace := ["internal/bytealg.IndexByte", "internal/bytealg.Index"], unfollowed := true, recurses := true, named := ["internal/bytealg.MaxLen"], apart := false }
def FnNameTextsSaid : Prop := fnNameTextsRow.holds Try.pinned (OpenSpec.ofChange fnNameTextsSpec)

/-- ITS FALSE NEIGHBOUR: 'it returns false'. Refute it at one input. -/
def fnNameTextsWrong : ChangeSpec := { name := "fnNameTexts", fn := fun _ => fun
  | [d] => { results := [.lit (.bool false)], args := [d] }
  | _ => none }
def FnNameTextsWrongFalsely : Prop := fnNameTextsRow.holds Try.pinned (OpenSpec.ofChange fnNameTextsWrong)

/-- 'laws.FnNameOrder': WHATEVER THE INPUT: true; the input reads as it did. -/
def fnNameOrderSpec : ChangeSpec := { name := "fnNameOrder", fn := fun _ => fun
  | [d] => { results := [.lit (.bool true)], args := [d] }
  | _ => none }
def fnNameOrderRow : OpenClaim := { program := "ytdbojhbdfcknfaa", sum := "ca30c8c166228cd2dffd52bee38eceeff61dae75d075faf1db44d007c25be8f2", func := "loop.example/g00422/laws.FnNameOrder", spec := "fnNameOrder", inPlace := ["internal/bytealg.Compare", "internal/bytealg.IndexByte", "internal/bytealg.Index"], unfollowed := true, recurses := true, named := ["internal/bytealg.MaxLen"], apart := false }
def FnNameOrderSaid : Prop := fnNameOrderRow.holds Try.pinned (OpenSpec.ofChange fnNameOrderSpec)

/-- ITS FALSE NEIGHBOUR: 'it returns false'. Refute it at one input. -/
def fnNameOrderWrong : ChangeSpec := { name := "fnNameOrder", fn := fun _ => fun
  | [d] => { results := [.lit (.bool false)], args := [d] }
  | _ => none }
def FnNameOrderWrongFalsely : Prop := fnNameOrderRow.holds Try.pinned (OpenSpec.ofChange fnNameOrderWrong)

/-- 'laws.FnNameWire': WHATEVER THE INPUT: true; the input reads as it did. -/
def fnNameWireSpec : ChangeSpec := { name := "fnNameWire", fn := fun _ => fun
  | [d] => { results := [.lit (.bool true)], args := [d] }
  | _ => none }
def fnNameWireRow : OpenClaim := { program := "ytdbojhbdfcknfaa", sum := "ca30c8c166228cd2dffd52bee38eceeff61dae75d075faf1db44d007c25be8f2", func := "loop.example/g00422/laws.FnNameWire", spec := "fnNameWire", inPlace := ["internal/bytealg.IndexByte", "internal/bytealg.Index"], unfollowed := true, recurses := true, named := ["internal/bytealg.MaxLen"], apart := false }
def FnNameWireSaid : Prop := fnNameWireRow.holds Try.pinned (OpenSpec.ofChange fnNameWireSpec)

/-- ITS FALSE NEIGHBOUR: 'it returns false'. Refute it at one input. -/
def fnNameWireWrong : ChangeSpec := { name := "fnNameWire", fn := fun _ => fun
  | [d] => { results := [.lit (.bool false)], args := [d] }
  | _ => none }
def FnNameWireWrongFalsely : Prop := fnNameWireRow.holds Try.pinned (OpenSpec.ofChange fnNameWireWrong)

/-- 'laws.FnRecordOrder': WHATEVER THE INPUT: true; the input reads as it did. -/
def fnRecordOrderSpec : ChangeSpec := { name := "fnRecordOrder", fn := fun _ => fun
  | [d] => { results := [.lit (.bool true)], args := [d] }
  | _ => none }
def fnRecordOrderRow : OpenClaim := { program := "ytdbojhbdfcknfaa", sum := "ca30c8c166228cd2dffd52bee38eceeff61dae75d075faf1db44d007c25be8f2", func := "loop.example/g00422/laws.FnRecordOrder", spec := "fnRecordOrder", inPlace := ["internal/bytealg.Compare", "internal/bytealg.IndexByte", "internal/bytealg.Index"], unfollowed := true, recurses := true, named := ["internal/bytealg.MaxLen"], apart := false }
def FnRecordOrderSaid : Prop := fnRecordOrderRow.holds Try.pinned (OpenSpec.ofChange fnRecordOrderSpec)

/-- ITS FALSE NEIGHBOUR: 'it returns false'. Refute it at one input. -/
def fnRecordOrderWrong : ChangeSpec := { name := "fnRecordOrder", fn := fun _ => fun
  | [d] => { results := [.lit (.bool false)], args := [d] }
  | _ => none }
def FnRecordOrderWrongFalsely : Prop := fnRecordOrderRow.holds Try.pinned (OpenSpec.ofChange fnRecordOrderWrong)

/-- 'laws.FnExactPut16': WHATEVER THE INPUT: true; the input reads as it did. -/
def fnExactPut16Spec : ChangeSpec := { name := "fnExactPut16", fn := fun _ => fun
  | [d1, d2] => { results := [.lit (.bool true)], args := [d1, d2] }
  | _ => none }
def fnExactPut16Row : OpenClaim := { program := "ytdbojhbdfcknfaa", sum := "ca30c8c166228cd2dffd52bee38eceeff61dae75d075faf1db44d007c25be8f2", func := "loop.example/g00422/laws.FnExactPut16", spec := "fnExactPut16", apart := false }
def FnExactPut16Said : Prop := fnExactPut16Row.holds Try.pinned (OpenSpec.ofChange fnExactPut16Spec)

/-- ITS FALSE NEIGHBOUR: 'it returns false'. Refute it at one input. -/
def fnExactPut16Wrong : ChangeSpec := { name := "fnExactPut16", fn := fun _ => fun
  | [d1, d2] => { results := [.lit (.bool false)], args := [d1, d2] }
  | _ => none }
def FnExactPut16WrongFalsely : Prop := fnExactPut16Row.holds Try.pinned (OpenSpec.ofChange fnExactPut16Wrong)

/-- 'laws.FnExactPut32': WHATEVER THE INPUT: true; the input reads as it did. -/
def fnExactPut32Spec : ChangeSpec := { name := "fnExactPut32", fn := fun _ => fun
  | [d1, d2] => { results := [.lit (.bool true)], args := [d1, d2] }
  | _ => none }
def fnExactPut32Row : OpenClaim := { program := "ytdbojhbdfcknfaa", sum := "ca30c8c166228cd2dffd52bee38eceeff61dae75d075faf1db44d007c25be8f2", func := "loop.example/g00422/laws.FnExactPut32", spec := "fnExactPut32", apart := false }
def FnExactPut32Said : Prop := fnExactPut32Row.holds Try.pinned (OpenSpec.ofChange fnExactPut32Spec)

/-- ITS FALSE NEIGHBOUR: 'it returns false'. Refute it at one input. -/
def fnExactPut32Wrong : ChangeSpec := { name := "fnExactPut32", fn := fun _ => fun
  | [d1, d2] => { results := [.lit (.bool false)], args := [d1, d2] }
  | _ => none }
def FnExactPut32WrongFalsely : Prop := fnExactPut32Row.holds Try.pinned (OpenSpec.ofChange fnExactPut32Wrong)

/-- 'laws.FnExactNameRead': WHATEVER THE INPUT: true; the input reads as it did. -/
def fnExactNameReadSpec : ChangeSpec := { name := "fnExactNameRead", fn := fun _ => fun
  | [d] => { results := [.lit (.bool true)], args := [d] }
  | _ => none }
def fnExactNameReadRow : OpenClaim := { program := "ytdbojhbdfcknfaa", sum := "ca30c8c166228cd2dffd52bee38eceeff61dae75d075faf1db44d007c25be8f2", func := "loop.example/g00422/laws.FnExactNameRead", spec := "fnExactNameRead", inPlace := ["internal/bytealg.IndexByte", "internal/bytealg.Index"], unfollowed := true, recurses := true, named := ["internal/bytealg.MaxLen"], apart := false }
def FnExactNameReadSaid : Prop := fnExactNameReadRow.holds Try.pinned (OpenSpec.ofChange fnExactNameReadSpec)

/-- ITS FALSE NEIGHBOUR: 'it returns false'. Refute it at one input. -/
def fnExactNameReadWrong : ChangeSpec := { name := "fnExactNameRead", fn := fun _ => fun
  | [d] => { results := [.lit (.bool false)], args := [d] }
  | _ => none }
def FnExactNameReadWrongFalsely : Prop := fnExactNameReadRow.holds Try.pinned (OpenSpec.ofChange fnExactNameReadWrong)

/-- 'laws.FnExactParent': WHATEVER THE INPUT: true; the input reads as it did. -/
def fnExactParentSpec : ChangeSpec := { name := "fnExactParent", fn := fun _ => fun
  | [d] => { results := [.lit (.bool true)], args := [d] }
  | _ => none }
def fnExactParentRow : OpenClaim := { program := "ytdbojhbdfcknfaa", sum := "ca30c8c166228cd2dffd52bee38eceeff61dae75d075faf1db44d007c25be8f2", func := "loop.example/g00422/laws.FnExactParent", spec := "fnExactParent", apart := false }
def FnExactParentSaid : Prop := fnExactParentRow.holds Try.pinned (OpenSpec.ofChange fnExactParentSpec)

/-- ITS FALSE NEIGHBOUR: 'it returns false'. Refute it at one input. -/
def fnExactParentWrong : ChangeSpec := { name := "fnExactParent", fn := fun _ => fun
  | [d] => { results := [.lit (.bool false)], args := [d] }
  | _ => none }
def FnExactParentWrongFalsely : Prop := fnExactParentRow.holds Try.pinned (OpenSpec.ofChange fnExactParentWrong)

/-- 'laws.FnExactChild': WHATEVER THE INPUT: true; the input reads as it did. -/
def fnExactChildSpec : ChangeSpec := { name := "fnExactChild", fn := fun _ => fun
  | [d1, d2] => { results := [.lit (.bool true)], args := [d1, d2] }
  | _ => none }
def fnExactChildRow : OpenClaim := { program := "ytdbojhbdfcknfaa", sum := "ca30c8c166228cd2dffd52bee38eceeff61dae75d075faf1db44d007c25be8f2", func := "loop.example/g00422/laws.FnExactChild", spec := "fnExactChild", apart := false }
def FnExactChildSaid : Prop := fnExactChildRow.holds Try.pinned (OpenSpec.ofChange fnExactChildSpec)

/-- ITS FALSE NEIGHBOUR: 'it returns false'. Refute it at one input. -/
def fnExactChildWrong : ChangeSpec := { name := "fnExactChild", fn := fun _ => fun
  | [d1, d2] => { results := [.lit (.bool false)], args := [d1, d2] }
  | _ => none }
def FnExactChildWrongFalsely : Prop := fnExactChildRow.holds Try.pinned (OpenSpec.ofChange fnExactChildWrong)

/-- 'laws.FnExactNamePut': WHATEVER THE INPUT: true; the input reads as it did. -/
def fnExactNamePutSpec : ChangeSpec := { name := "fnExactNamePut", fn := fun _ => fun
  | [d1, d2] => { results := [.lit (.bool true)], args := [d1, d2] }
  | _ => none }
def fnExactNamePutRow : OpenClaim := { program := "ytdbojhbdfcknfaa", sum := "ca30c8c166228cd2dffd52bee38eceeff61dae75d075faf1db44d007c25be8f2", func := "loop.example/g00422/laws.FnExactNamePut", spec := "fnExactNamePut", apart := false }
def FnExactNamePutSaid : Prop := fnExactNamePutRow.holds Try.pinned (OpenSpec.ofChange fnExactNamePutSpec)

/-- ITS FALSE NEIGHBOUR: 'it returns false'. Refute it at one input. -/
def fnExactNamePutWrong : ChangeSpec := { name := "fnExactNamePut", fn := fun _ => fun
  | [d1, d2] => { results := [.lit (.bool false)], args := [d1, d2] }
  | _ => none }
def FnExactNamePutWrongFalsely : Prop := fnExactNamePutRow.holds Try.pinned (OpenSpec.ofChange fnExactNamePutWrong)

/-- 'laws.FnExactNameGet': WHATEVER THE INPUT: true; the input reads as it did. -/
def fnExactNameGetSpec : ChangeSpec := { name := "fnExactNameGet", fn := fun _ => fun
  | [d1, d2] => { results := [.lit (.bool true)], args := [d1, d2] }
  | _ => none }
def fnExactNameGetRow : OpenClaim := { program := "ytdbojhbdfcknfaa", sum := "ca30c8c166228cd2dffd52bee38eceeff61dae75d075faf1db44d007c25be8f2", func := "loop.example/g00422/laws.FnExactNameGet", spec := "fnExactNameGet", apart := false }
def FnExactNameGetSaid : Prop := fnExactNameGetRow.holds Try.pinned (OpenSpec.ofChange fnExactNameGetSpec)

/-- ITS FALSE NEIGHBOUR: 'it returns false'. Refute it at one input. -/
def fnExactNameGetWrong : ChangeSpec := { name := "fnExactNameGet", fn := fun _ => fun
  | [d1, d2] => { results := [.lit (.bool false)], args := [d1, d2] }
  | _ => none }
def FnExactNameGetWrongFalsely : Prop := fnExactNameGetRow.holds Try.pinned (OpenSpec.ofChange fnExactNameGetWrong)

/-- 'laws.FnExactTypeOk': WHATEVER THE INPUT: true; the input reads as it did. -/
def fnExactTypeOkSpec : ChangeSpec := { name := "fnExactTypeOk", fn := fun _ => fun
  | [d] => { results := [.lit (.bool true)], args := [d] }
  | _ => none }
def fnExactTypeOkRow : OpenClaim := { program := "ytdbojhbdfcknfaa", sum := "ca30c8c166228cd2dffd52bee38eceeff61dae75d075faf1db44d007c25be8f2", func := "loop.example/g00422/laws.FnExactTypeOk", spec := "fnExactTypeOk", apart := false }
def FnExactTypeOkSaid : Prop := fnExactTypeOkRow.holds Try.pinned (OpenSpec.ofChange fnExactTypeOkSpec)

/-- ITS FALSE NEIGHBOUR: 'it returns false'. Refute it at one input. -/
def fnExactTypeOkWrong : ChangeSpec := { name := "fnExactTypeOk", fn := fun _ => fun
  | [d] => { results := [.lit (.bool false)], args := [d] }
  | _ => none }
def FnExactTypeOkWrongFalsely : Prop := fnExactTypeOkRow.holds Try.pinned (OpenSpec.ofChange fnExactTypeOkWrong)

/-- 'laws.FnExactRrOk': WHATEVER THE INPUT: true; the input reads as it did. -/
def fnExactRrOkSpec : ChangeSpec := { name := "fnExactRrOk", fn := fun _ => fun
  | [d] => { results := [.lit (.bool true)], args := [d] }
  | _ => none }
def fnExactRrOkRow : OpenClaim := { program := "ytdbojhbdfcknfaa", sum := "ca30c8c166228cd2dffd52bee38eceeff61dae75d075faf1db44d007c25be8f2", func := "loop.example/g00422/laws.FnExactRrOk", spec := "fnExactRrOk", unfollowed := true, recurses := true, apart := false }
def FnExactRrOkSaid : Prop := fnExactRrOkRow.holds Try.pinned (OpenSpec.ofChange fnExactRrOkSpec)

/-- ITS FALSE NEIGHBOUR: 'it returns false'. Refute it at one input. -/
def fnExactRrOkWrong : ChangeSpec := { name := "fnExactRrOk", fn := fun _ => fun
  | [d] => { results := [.lit (.bool false)], args := [d] }
  | _ => none }
def FnExactRrOkWrongFalsely : Prop := fnExactRrOkRow.holds Try.pinned (OpenSpec.ofChange fnExactRrOkWrong)

/-- 'laws.FnExactRrSame': WHATEVER THE INPUT: true; the input reads as it did. -/
def fnExactRrSameSpec : ChangeSpec := { name := "fnExactRrSame", fn := fun _ => fun
  | [d1, d2] => { results := [.lit (.bool true)], args := [d1, d2] }
  | _ => none }
def fnExactRrSameRow : OpenClaim := { program := "ytdbojhbdfcknfaa", sum := "ca30c8c166228cd2dffd52bee38eceeff61dae75d075faf1db44d007c25be8f2", func := "loop.example/g00422/laws.FnExactRrSame", spec := "fnExactRrSame", inPlace := ["internal/bytealg.Compare"], unfollowed := true, recurses := true, apart := false }
def FnExactRrSameSaid : Prop := fnExactRrSameRow.holds Try.pinned (OpenSpec.ofChange fnExactRrSameSpec)

/-- ITS FALSE NEIGHBOUR: 'it returns false'. Refute it at one input. -/
def fnExactRrSameWrong : ChangeSpec := { name := "fnExactRrSame", fn := fun _ => fun
  | [d1, d2] => { results := [.lit (.bool false)], args := [d1, d2] }
  | _ => none }
def FnExactRrSameWrongFalsely : Prop := fnExactRrSameRow.holds Try.pinned (OpenSpec.ofChange fnExactRrSameWrong)

/-- 'laws.FnExactRrCmp': WHATEVER THE INPUT: true; the input reads as it did. -/
def fnExactRrCmpSpec : ChangeSpec := { name := "fnExactRrCmp", fn := fun _ => fun
  | [d1, d2] => { results := [.lit (.bool true)], args := [d1, d2] }
  | _ => none }
def fnExactRrCmpRow : OpenClaim := { program := "ytdbojhbdfcknfaa", sum := "ca30c8c166228cd2dffd52bee38eceeff61dae75d075faf1db44d007c25be8f2", func := "loop.example/g00422/laws.FnExactRrCmp", spec := "fnExactRrCmp", inPlace := ["internal/bytealg.Compare"], unfollowed := true, recurses := true, apart := false }
def FnExactRrCmpSaid : Prop := fnExactRrCmpRow.holds Try.pinned (OpenSpec.ofChange fnExactRrCmpSpec)

/-- ITS FALSE NEIGHBOUR: 'it returns false'. Refute it at one input. -/
def fnExactRrCmpWrong : ChangeSpec := { name := "fnExactRrCmp", fn := fun _ => fun
  | [d1, d2] => { results := [.lit (.bool false)], args := [d1, d2] }
  | _ => none }
def FnExactRrCmpWrongFalsely : Prop := fnExactRrCmpRow.holds Try.pinned (OpenSpec.ofChange fnExactRrCmpWrong)

/-- 'laws.FnExactDataPut': WHATEVER THE INPUT: true; the input reads as it did. -/
def fnExactDataPutSpec : ChangeSpec := { name := "fnExactDataPut", fn := fun _ => fun
  | [d] => { results := [.lit (.bool true)], args := [d] }
  | _ => none }
def fnExactDataPutRow : OpenClaim := { program := "ytdbojhbdfcknfaa", sum := "ca30c8c166228cd2dffd52bee38eceeff61dae75d075faf1db44d007c25be8f2", func := "loop.example/g00422/laws.FnExactDataPut", spec := "fnExactDataPut", unfollowed := true, recurses := true, apart := false }
def FnExactDataPutSaid : Prop := fnExactDataPutRow.holds Try.pinned (OpenSpec.ofChange fnExactDataPutSpec)

/-- ITS FALSE NEIGHBOUR: 'it returns false'. Refute it at one input. -/
def fnExactDataPutWrong : ChangeSpec := { name := "fnExactDataPut", fn := fun _ => fun
  | [d] => { results := [.lit (.bool false)], args := [d] }
  | _ => none }
def FnExactDataPutWrongFalsely : Prop := fnExactDataPutRow.holds Try.pinned (OpenSpec.ofChange fnExactDataPutWrong)

/-- 'laws.FnExactDataGet': WHATEVER THE INPUT: true; the input reads as it did. -/
def fnExactDataGetSpec : ChangeSpec := { name := "fnExactDataGet", fn := fun _ => fun
  | [d1, d2, d3, d4] => { results := [.lit (.bool true)], args := [d1, d2, d3, d4] }
  | _ => none }
def fnExactDataGetRow : OpenClaim := { program := "ytdbojhbdfcknfaa", sum := "ca30c8c166228cd2dffd52bee38eceeff61dae75d075faf1db44d007c25be8f2", func := "loop.example/g00422/laws.FnExactDataGet", spec := "fnExactDataGet", unfollowed := true, recurses := true, apart := false }
def FnExactDataGetSaid : Prop := fnExactDataGetRow.holds Try.pinned (OpenSpec.ofChange fnExactDataGetSpec)

/-- ITS FALSE NEIGHBOUR: 'it returns false'. Refute it at one input. -/
def fnExactDataGetWrong : ChangeSpec := { name := "fnExactDataGet", fn := fun _ => fun
  | [d1, d2, d3, d4] => { results := [.lit (.bool false)], args := [d1, d2, d3, d4] }
  | _ => none }
def FnExactDataGetWrongFalsely : Prop := fnExactDataGetRow.holds Try.pinned (OpenSpec.ofChange fnExactDataGetWrong)

/-- 'laws.FnExactRrPut': WHATEVER THE INPUT: true; the input reads as it did. -/
def fnExactRrPutSpec : ChangeSpec := { name := "fnExactRrPut", fn := fun _ => fun
  | [d1, d2] => { results := [.lit (.bool true)], args := [d1, d2] }
  | _ => none }
def fnExactRrPutRow : OpenClaim := { program := "ytdbojhbdfcknfaa", sum := "ca30c8c166228cd2dffd52bee38eceeff61dae75d075faf1db44d007c25be8f2", func := "loop.example/g00422/laws.FnExactRrPut", spec := "fnExactRrPut", unfollowed := true, recurses := true, apart := false }
def FnExactRrPutSaid : Prop := fnExactRrPutRow.holds Try.pinned (OpenSpec.ofChange fnExactRrPutSpec)

/-- ITS FALSE NEIGHBOUR: 'it returns false'. Refute it at one input. -/
def fnExactRrPutWrong : ChangeSpec := { name := "fnExactRrPut", fn := fun _ => fun
  | [d1, d2] => { results := [.lit (.bool false)], args := [d1, d2] }
  | _ => none }
def FnExactRrPutWrongFalsely : Prop := fnExactRrPutRow.holds Try.pinned (OpenSpec.ofChange fnExactRrPutWrong)

/-- 'laws.FnExactRrGet': WHATEVER THE INPUT: true; the input reads as it did. -/
def fnExactRrGetSpec : ChangeSpec := { name := "fnExactRrGet", fn := fun _ => fun
  | [d1, d2] => { results := [.lit (.bool true)], args := [d1, d2] }
  | _ => none }
def fnExactRrGetRow : OpenClaim := { program := "ytdbojhbdfcknfaa", sum := "ca30c8c166228cd2dffd52bee38eceeff61dae75d075faf1db44d007c25be8f2", func := "loop.example/g00422/laws.FnExactRrGet", spec := "fnExactRrGet", unfollowed := true, recurses := true, apart := false }
def FnExactRrGetSaid : Prop := fnExactRrGetRow.holds Try.pinned (OpenSpec.ofChange fnExactRrGetSpec)

/-- ITS FALSE NEIGHBOUR: 'it returns false'. Refute it at one input. -/
def fnExactRrGetWrong : ChangeSpec := { name := "fnExactRrGet", fn := fun _ => fun
  | [d1, d2] => { results := [.lit (.bool false)], args := [d1, d2] }
  | _ => none }
def FnExactRrGetWrongFalsely : Prop := fnExactRrGetRow.holds Try.pinned (OpenSpec.ofChange fnExactRrGetWrong)

/- THE SECOND FORM. 'bulk': how many values and letters a reading holds, each counted each time it is reached (what is shared counts as often as it is met; a slice's spare places count too). A statement '..UptoSaid' is the law's where the arguments, and the package variables that the reading takes, are together of bulk at most 1048576: NARROWER than '..Said'. Prove '..Said' where nothing that the law and all that it calls make is longer than what came in: it says more and counts as full. Else prove '..UptoSaid'. A law counts once. -/
mutual
def uptoBulk {H : Type} : DataW H → Nat
  | .lit (.string bytes) => bytes.length + 1
  | .lit _ => 1
  | .nil => 1
  | .ptr d => uptoBulk d + 1
  | .slice elems spare => uptoBulkAll elems + uptoBulkAll spare + 1
  | .agg parts => uptoBulkAll parts + 1
  | .iface _ d => uptoBulk d + 1
  | .map entries => uptoBulkEntries entries + 1
  | .held _ => 1
def uptoBulkAll {H : Type} : List (DataW H) → Nat
  | [] => 0
  | d :: r => uptoBulk d + uptoBulkAll r
def uptoBulkEntries {H : Type} : List (Lit × DataW H) → Nat
  | [] => 0
  | x :: r => uptoBulkEntry x + uptoBulkEntries r
def uptoBulkEntry {H : Type} : Lit × DataW H → Nat
  | (.string bytes, d) => bytes.length + uptoBulk d + 1
  | (_, d) => uptoBulk d + 1
 end
def uptoSmall : (H : Type) → List (DataW H) → Bool := fun _ ds => decide (uptoBulkAll ds ≤ 1048576)
def OpenSpec.upto (s : _root_.Go.ChangeSpec) : _root_.Go.OpenSpec := { _root_.Go.OpenSpec.ofChange s with cond := some uptoSmall }

/-- 'laws.FnNameTexts', WHERE WHAT IT READS IS OF BULK AT MOST 1048576: true; the input reads as it did. -/
def fnNameTextsUptoRow : OpenClaim := { program := "ytdbojhbdfcknfaa", sum := "ca30c8c166228cd2dffd52bee38eceeff61dae75d075faf1db44d007c25be8f2", func := "loop.example/g00422/laws.FnNameTexts", spec := "fnNameTexts", inPlace := ["internal/bytealg.IndexByte", "internal/bytealg.Index"], unfollowed := true, recurses := true, named := ["internal/bytealg.MaxLen"], apart := false, narrowed := true }
def FnNameTextsUptoSaid : Prop := fnNameTextsUptoRow.holds Try.pinned (OpenSpec.upto fnNameTextsSpec)

/-- 'laws.FnNameOrder', WHERE WHAT IT READS IS OF BULK AT MOST 1048576: true; the input reads as it did. -/
def fnNameOrderUptoRow : OpenClaim := { program := "ytdbojhbdfcknfaa", sum := "ca30c8c166228cd2dffd52bee38eceeff61dae75d075faf1db44d007c25be8f2", func := "loop.example/g00422/laws.FnNameOrder", spec := "fnNameOrder", inPlace := ["internal/bytealg.Compare", "internal/bytealg.IndexByte", "internal/bytealg.Index"], unfollowed := true, recurses := true, named := ["internal/bytealg.MaxLen"], apart := false, narrowed := true }
def FnNameOrderUptoSaid : Prop := fnNameOrderUptoRow.holds Try.pinned (OpenSpec.upto fnNameOrderSpec)

/-- 'laws.FnNameWire', WHERE WHAT IT READS IS OF BULK AT MOST 1048576: true; the input reads as it did. -/
def fnNameWireUptoRow : OpenClaim := { program := "ytdbojhbdfcknfaa", sum := "ca30c8c166228cd2dffd52bee38eceeff61dae75d075faf1db44d007c25be8f2", func := "loop.example/g00422/laws.FnNameWire", spec := "fnNameWire", inPlace := ["internal/bytealg.IndexByte", "internal/bytealg.Index"], unfollowed := true, recurses := true, named := ["internal/bytealg.MaxLen"], apart := false, narrowed := true }
def FnNameWireUptoSaid : Prop := fnNameWireUptoRow.holds Try.pinned (OpenSpec.upto fnNameWireSpec)

/-- 'laws.FnRecordOrder', WHERE WHAT IT READS IS OF BULK AT MOST 1048576: true; the input reads as it did. -/
def fnRecordOrderUptoRow : OpenClaim := { program := "ytdbojhbdfcknfaa", sum := "ca30c8c166228cd2dffd52bee38eceeff61dae75d075faf1db44d007c25be8f2", func := "loop.example/g00422/laws.FnRecordOrder", spec := "fnRecordOrder", inPlace := ["internal/bytealg.Compare", "internal/bytealg.IndexByte", "internal/bytealg.Index"], unfollowed := true, recurses := true, named := ["internal/bytealg.MaxLen"], apart := false, narrowed := true }
def FnRecordOrderUptoSaid : Prop := fnRecordOrderUptoRow.holds Try.pinned (OpenSpec.upto fnRecordOrderSpec)

/-- 'laws.FnExactPut16', WHERE WHAT IT READS IS OF BULK AT MOST 1048576: true; the input reads as it did. -/
def fnExactPut16UptoRow : OpenClaim := { program := "ytdbojhbdfcknfaa", sum := "ca30c8c166228cd2dffd52bee38eceeff61dae75d075faf1db44d007c25be8f2", func := "loop.example/g00422/laws.FnExactPut16", spec := "fnExactPut16", apart := false, narrowed := true }
def FnExactPut16UptoSaid : Prop := fnExactPut16UptoRow.holds Try.pinned (OpenSpec.upto fnExactPut16Spec)

/-- 'laws.FnExactPut32', WHERE WHAT IT READS IS OF BULK AT MOST 1048576: true; the input reads as it did. -/
def fnExactPut32UptoRow : OpenClaim := { program := "ytdbojhbdfcknfaa", sum := "ca30c8c166228cd2dffd52bee38eceeff61dae75d075faf1db44d007c25be8f2", func := "loop.example/g00422/laws.FnExactPut32", spec := "fnExactPut32", apart := false, narrowed := true }
def FnExactPut32UptoSaid : Prop := fnExactPut32UptoRow.holds Try.pinned (OpenSpec.upto fnExactPut32Spec)

/-- 'laws.FnExactNameRead', WHERE WHAT IT READS IS OF BULK AT MOST 1048576: true; the input reads as it did. -/
def fnExactNameReadUptoRow : OpenClaim := { program := "ytdbojhbdfcknfaa", sum := "ca30c8c166228cd2dffd52bee38eceeff61dae75d075faf1db44d007c25be8f2", func := "loop.example/g00422/laws.FnExactNameRead", spec := "fnExactNameRead", inPlace := ["internal/bytealg.IndexByte", "internal/bytealg.Index"], unfollowed := true, recurses := true, named := ["internal/bytealg.MaxLen"], apart := false, narrowed := true }
def FnExactNameReadUptoSaid : Prop := fnExactNameReadUptoRow.holds Try.pinned (OpenSpec.upto fnExactNameReadSpec)

/-- 'laws.FnExactParent', WHERE WHAT IT READS IS OF BULK AT MOST 1048576: true; the input reads as it did. -/
def fnExactParentUptoRow : OpenClaim := { program := "ytdbojhbdfcknfaa", sum := "ca30c8c166228cd2dffd52bee38eceeff61dae75d075faf1db44d007c25be8f2", func := "loop.example/g00422/laws.FnExactParent", spec := "fnExactParent", apart := false, narrowed := true }
def FnExactParentUptoSaid : Prop := fnExactParentUptoRow.holds Try.pinned (OpenSpec.upto fnExactParentSpec)

/-- 'laws.FnExactChild', WHERE WHAT IT READS IS OF BULK AT MOST 1048576: true; the input reads as it did. -/
def fnExactChildUptoRow : OpenClaim := { program := "ytdbojhbdfcknfaa", sum := "ca30c8c166228cd2dffd52bee38eceeff61dae75d075faf1db44d007c25be8f2", func := "loop.example/g00422/laws.FnExactChild", spec := "fnExactChild", apart := false, narrowed := true }
def FnExactChildUptoSaid : Prop := fnExactChildUptoRow.holds Try.pinned (OpenSpec.upto fnExactChildSpec)

/-- 'laws.FnExactNamePut', WHERE WHAT IT READS IS OF BULK AT MOST 1048576: true; the input reads as it did. -/
def fnExactNamePutUptoRow : OpenClaim := { program := "ytdbojhbdfcknfaa", sum := "ca30c8c166228cd2dffd52bee38eceeff61dae75d075faf1db44d007c25be8f2", func := "loop.example/g00422/laws.FnExactNamePut", spec := "fnExactNamePut", apart := false, narrowed := true }
def FnExactNamePutUptoSaid : Prop := fnExactNamePutUptoRow.holds Try.pinned (OpenSpec.upto fnExactNamePutSpec)

/-- 'laws.FnExactNameGet', WHERE WHAT IT READS IS OF BULK AT MOST 1048576: true; the input reads as it did. -/
def fnExactNameGetUptoRow : OpenClaim := { program := "ytdbojhbdfcknfaa", sum := "ca30c8c166228cd2dffd52bee38eceeff61dae75d075faf1db44d007c25be8f2", func := "loop.example/g00422/laws.FnExactNameGet", spec := "fnExactNameGet", apart := false, narrowed := true }
def FnExactNameGetUptoSaid : Prop := fnExactNameGetUptoRow.holds Try.pinned (OpenSpec.upto fnExactNameGetSpec)

/-- 'laws.FnExactTypeOk', WHERE WHAT IT READS IS OF BULK AT MOST 1048576: true; the input reads as it did. -/
def fnExactTypeOkUptoRow : OpenClaim := { program := "ytdbojhbdfcknfaa", sum := "ca30c8c166228cd2dffd52bee38eceeff61dae75d075faf1db44d007c25be8f2", func := "loop.example/g00422/laws.FnExactTypeOk", spec := "fnExactTypeOk", apart := false, narrowed := true }
def FnExactTypeOkUptoSaid : Prop := fnExactTypeOkUptoRow.holds Try.pinned (OpenSpec.upto fnExactTypeOkSpec)

/-- 'laws.FnExactRrOk', WHERE WHAT IT READS IS OF BULK AT MOST 1048576: true; the input reads as it did. -/
def fnExactRrOkUptoRow : OpenClaim := { program := "ytdbojhbdfcknfaa", sum := "ca30c8c166228cd2dffd52bee38eceeff61dae75d075faf1db44d007c25be8f2", func := "loop.example/g00422/laws.FnExactRrOk", spec := "fnExactRrOk", unfollowed := true, recurses := true, apart := false, narrowed := true }
def FnExactRrOkUptoSaid : Prop := fnExactRrOkUptoRow.holds Try.pinned (OpenSpec.upto fnExactRrOkSpec)

/-- 'laws.FnExactRrSame', WHERE WHAT IT READS IS OF BULK AT MOST 1048576: true; the input reads as it did. -/
def fnExactRrSameUptoRow : OpenClaim := { program := "ytdbojhbdfcknfaa", sum := "ca30c8c166228cd2dffd52bee38eceeff61dae75d075faf1db44d007c25be8f2", func := "loop.example/g00422/laws.FnExactRrSame", spec := "fnExactRrSame", inPlace := ["internal/bytealg.Compare"], unfollowed := true, recurses := true, apart := false, narrowed := true }
def FnExactRrSameUptoSaid : Prop := fnExactRrSameUptoRow.holds Try.pinned (OpenSpec.upto fnExactRrSameSpec)

/-- 'laws.FnExactRrCmp', WHERE WHAT IT READS IS OF BULK AT MOST 1048576: true; the input reads as it did. -/
def fnExactRrCmpUptoRow : OpenClaim := { program := "ytdbojhbdfcknfaa", sum := "ca30c8c166228cd2dffd52bee38eceeff61dae75d075faf1db44d007c25be8f2", func := "loop.example/g00422/laws.FnExactRrCmp", spec := "fnExactRrCmp", inPlace := ["internal/bytealg.Compare"], unfollowed := true, recurses := true, apart := false, narrowed := true }
def FnExactRrCmpUptoSaid : Prop := fnExactRrCmpUptoRow.holds Try.pinned (OpenSpec.upto fnExactRrCmpSpec)

/-- 'laws.FnExactDataPut', WHERE WHAT IT READS IS OF BULK AT MOST 1048576: true; the input reads as it did. -/
def fnExactDataPutUptoRow : OpenClaim := { program := "ytdbojhbdfcknfaa", sum := "ca30c8c166228cd2dffd52bee38eceeff61dae75d075faf1db44d007c25be8f2", func := "loop.example/g00422/laws.FnExactDataPut", spec := "fnExactDataPut", unfollowed := true, recurses := true, apart := false, narrowed := true }
def FnExactDataPutUptoSaid : Prop := fnExactDataPutUptoRow.holds Try.pinned (OpenSpec.upto fnExactDataPutSpec)

/-- 'laws.FnExactDataGet', WHERE WHAT IT READS IS OF BULK AT MOST 1048576: true; the input reads as it did. -/
def fnExactDataGetUptoRow : OpenClaim := { program := "ytdbojhbdfcknfaa", sum := "ca30c8c166228cd2dffd52bee38eceeff61dae75d075faf1db44d007c25be8f2", func := "loop.example/g00422/laws.FnExactDataGet", spec := "fnExactDataGet", unfollowed := true, recurses := true, apart := false, narrowed := true }
def FnExactDataGetUptoSaid : Prop := fnExactDataGetUptoRow.holds Try.pinned (OpenSpec.upto fnExactDataGetSpec)

/-- 'laws.FnExactRrPut', WHERE WHAT IT READS IS OF BULK AT MOST 1048576: true; the input reads as it did. -/
def fnExactRrPutUptoRow : OpenClaim := { program := "ytdbojhbdfcknfaa", sum := "ca30c8c166228cd2dffd52bee38eceeff61dae75d075faf1db44d007c25be8f2", func := "loop.example/g00422/laws.FnExactRrPut", spec := "fnExactRrPut", unfollowed := true, recurses := true, apart := false, narrowed := true }
def FnExactRrPutUptoSaid : Prop := fnExactRrPutUptoRow.holds Try.pinned (OpenSpec.upto fnExactRrPutSpec)

/-- 'laws.FnExactRrGet', WHERE WHAT IT READS IS OF BULK AT MOST 1048576: true; the input reads as it did. -/
def fnExactRrGetUptoRow : OpenClaim := { program := "ytdbojhbdfcknfaa", sum := "ca30c8c166228cd2dffd52bee38eceeff61dae75d075faf1db44d007c25be8f2", func := "loop.example/g00422/laws.FnExactRrGet", spec := "fnExactRrGet", unfollowed := true, recurses := true, apart := false, narrowed := true }
def FnExactRrGetUptoSaid : Prop := fnExactRrGetUptoRow.holds Try.pinned (OpenSpec.upto fnExactRrGetSpec)

end Rows
end Go.Proofs.Ytdbojhbdfcknfaa
