/-
  No cell of these rows narrows 'for every input' (looked for: loops, veiled, ifaces, maps, wideKeys, modest, calm, conditions, laid).
  DERIVED. THE GIVEN ROWS OF THIS SEAT. 5 by the template 'for every input the law returns true; each argument reads behind the call as it read before'; 0 by the template 'total and deterministic' (their statements: YtnplmeifhebhhaaGreatTotals.lean).
  GIVEN WITH THE SEED: the statements are not yours to turn. If you find one false, say at which input.
  Laid BY PROGRAM, IN A SANDBOX (cutbox-rows.mjs): the forced cells as the released guide's own fill.sh prints them over the translation 8a17ff1fcb009e1e… (all of the seat's roots in one cut). By AI agents, Wed Nov 11 2026. No macro, syntax, notation, axiom, sorry.
-/
import Derived.Test.YtnplmeifhebhhaaGreatChecked
import GoSem.Claim
import GoSem.ClaimJoined
import GoSem.ClaimMapViews
import Derived.JoinedTies
import Derived.KernelRfl
namespace Go.Proofs.YtnplmeifhebhhaaGreat
/- THE CELL 'sum', in the pinned program and in every row, IS THE sha256 OF THE DUMP (.gsa) THAT YtnplmeifhebhhaaGreatProg.lean LOADS. Nothing in Lean hashes anything: it is a label: what it is worth is what the hold of that sum in a sandbox is worth. -/
noncomputable def Tryz.pinned : Pinned := { name := "ytnplmeifhebhhaagreat", sum := "8a17ff1fcb009e1e0dbd88c42c9aa7a8405a283fbca9a51e68d82841a402d3c6", checked := Tryz.checked }
namespace Rows
def none {H : Type} : Left H := { results := [], args := [] }

/-- 'laws.FnExactMsgOk': WHATEVER THE INPUT: true; the input reads as it did. -/
def fnExactMsgOkSpec : ChangeSpec := { name := "fnExactMsgOk", fn := fun _ => fun
  | [d] => { results := [.lit (.bool true)], args := [d] }
  | _ => none }
def fnExactMsgOkRow : OpenClaim := { program := "ytnplmeifhebhhaagreat", sum := "8a17ff1fcb009e1e0dbd88c42c9aa7a8405a283fbca9a51e68d82841a402d3c6", func := "loop.example/g00422/laws.FnExactMsgOk", spec := "fnExactMsgOk", unfollowed := true, recurses := true, apart := false }
def FnExactMsgOkSaid : Prop := fnExactMsgOkRow.holds Tryz.pinned (OpenSpec.ofChange fnExactMsgOkSpec)

/-- ITS FALSE NEIGHBOUR: 'it returns false'. Refute it at one input. -/
def fnExactMsgOkWrong : ChangeSpec := { name := "fnExactMsgOk", fn := fun _ => fun
  | [d] => { results := [.lit (.bool false)], args := [d] }
  | _ => none }
def FnExactMsgOkWrongFalsely : Prop := fnExactMsgOkRow.holds Tryz.pinned (OpenSpec.ofChange fnExactMsgOkWrong)

/-- 'laws.FnExactMsgBytes': WHATEVER THE INPUT: true; the input reads as it did. -/
def fnExactMsgBytesSpec : ChangeSpec := { name := "fnExactMsgBytes", fn := fun _ => fun
  | [d] => { results := [.lit (.bool true)], args := [d] }
  | _ => none }
def fnExactMsgBytesRow : OpenClaim := { program := "ytnplmeifhebhhaagreat", sum := "8a17ff1fcb009e1e0dbd88c42c9aa7a8405a283fbca9a51e68d82841a402d3c6", func := "loop.example/g00422/laws.FnExactMsgBytes", spec := "fnExactMsgBytes", unfollowed := true, recurses := true, apart := false }
def FnExactMsgBytesSaid : Prop := fnExactMsgBytesRow.holds Tryz.pinned (OpenSpec.ofChange fnExactMsgBytesSpec)

/-- ITS FALSE NEIGHBOUR: 'it returns false'. Refute it at one input. -/
def fnExactMsgBytesWrong : ChangeSpec := { name := "fnExactMsgBytes", fn := fun _ => fun
  | [d] => { results := [.lit (.bool false)], args := [d] }
  | _ => none }
def FnExactMsgBytesWrongFalsely : Prop := fnExactMsgBytesRow.holds Tryz.pinned (OpenSpec.ofChange fnExactMsgBytesWrong)

/-- 'laws.FnExactReplyTo': WHATEVER THE INPUT: true; the input reads as it did. -/
def fnExactReplyToSpec : ChangeSpec := { name := "fnExactReplyTo", fn := fun _ => fun
  | [d1, d2] => { results := [.lit (.bool true)], args := [d1, d2] }
  | _ => none }
def fnExactReplyToRow : OpenClaim := { program := "ytnplmeifhebhhaagreat", sum := "8a17ff1fcb009e1e0dbd88c42c9aa7a8405a283fbca9a51e68d82841a402d3c6", func := "loop.example/g00422/laws.FnExactReplyTo", spec := "fnExactReplyTo", unfollowed := true, recurses := true, apart := false }
def FnExactReplyToSaid : Prop := fnExactReplyToRow.holds Tryz.pinned (OpenSpec.ofChange fnExactReplyToSpec)

/-- ITS FALSE NEIGHBOUR: 'it returns false'. Refute it at one input. -/
def fnExactReplyToWrong : ChangeSpec := { name := "fnExactReplyTo", fn := fun _ => fun
  | [d1, d2] => { results := [.lit (.bool false)], args := [d1, d2] }
  | _ => none }
def FnExactReplyToWrongFalsely : Prop := fnExactReplyToRow.holds Tryz.pinned (OpenSpec.ofChange fnExactReplyToWrong)

/-- 'laws.FnExactTxnOk': WHATEVER THE INPUT: true; the input reads as it did. -/
def fnExactTxnOkSpec : ChangeSpec := { name := "fnExactTxnOk", fn := fun _ => fun
  | [d] => { results := [.lit (.bool true)], args := [d] }
  | _ => none }
def fnExactTxnOkRow : OpenClaim := { program := "ytnplmeifhebhhaagreat", sum := "8a17ff1fcb009e1e0dbd88c42c9aa7a8405a283fbca9a51e68d82841a402d3c6", func := "loop.example/g00422/laws.FnExactTxnOk", spec := "fnExactTxnOk", unfollowed := true, recurses := true, apart := false }
def FnExactTxnOkSaid : Prop := fnExactTxnOkRow.holds Tryz.pinned (OpenSpec.ofChange fnExactTxnOkSpec)

/-- ITS FALSE NEIGHBOUR: 'it returns false'. Refute it at one input. -/
def fnExactTxnOkWrong : ChangeSpec := { name := "fnExactTxnOk", fn := fun _ => fun
  | [d] => { results := [.lit (.bool false)], args := [d] }
  | _ => none }
def FnExactTxnOkWrongFalsely : Prop := fnExactTxnOkRow.holds Tryz.pinned (OpenSpec.ofChange fnExactTxnOkWrong)

/-- 'laws.FnExactTxnBytes': WHATEVER THE INPUT: true; the input reads as it did. -/
def fnExactTxnBytesSpec : ChangeSpec := { name := "fnExactTxnBytes", fn := fun _ => fun
  | [d] => { results := [.lit (.bool true)], args := [d] }
  | _ => none }
def fnExactTxnBytesRow : OpenClaim := { program := "ytnplmeifhebhhaagreat", sum := "8a17ff1fcb009e1e0dbd88c42c9aa7a8405a283fbca9a51e68d82841a402d3c6", func := "loop.example/g00422/laws.FnExactTxnBytes", spec := "fnExactTxnBytes", unfollowed := true, recurses := true, apart := false }
def FnExactTxnBytesSaid : Prop := fnExactTxnBytesRow.holds Tryz.pinned (OpenSpec.ofChange fnExactTxnBytesSpec)

/-- ITS FALSE NEIGHBOUR: 'it returns false'. Refute it at one input. -/
def fnExactTxnBytesWrong : ChangeSpec := { name := "fnExactTxnBytes", fn := fun _ => fun
  | [d] => { results := [.lit (.bool false)], args := [d] }
  | _ => none }
def FnExactTxnBytesWrongFalsely : Prop := fnExactTxnBytesRow.holds Tryz.pinned (OpenSpec.ofChange fnExactTxnBytesWrong)

/- THE SECOND FORM. 'bulk': how many values and letters a reading holds, each counted each time it is reached (what is shared counts as often as it is met; a slice's spare places count too). A statement '..UptoSaid' is the law's where the arguments, and the package variables that the reading takes, are together of bulk at most 1048576: NARROWER than '..Said'. Prove '..Said' where nothing that the law and all that it calls make is longer than what came in: it says more and counts as full. Else prove '..UptoSaid'. A law counts once. -/
mutual
def uptoBulk {H : Type} : DataW H → Nat
  | .lit (.string bytes) => bytes.length + 1
  | .lit _ => 1
  | .nil => 1
  | .ptr d => uptoBulk d + 1
  | .slice elems spare => uptoBulkAll elems + uptoBulkAll spare + 1
  | .agg parts => uptoBulkAll parts + 1
  | .iface _ d => uptoBulk d + 1
  | .map entries => uptoBulkEntries entries + 1
  | .held _ => 1
def uptoBulkAll {H : Type} : List (DataW H) → Nat
  | [] => 0
  | d :: r => uptoBulk d + uptoBulkAll r
def uptoBulkEntries {H : Type} : List (Lit × DataW H) → Nat
  | [] => 0
  | x :: r => uptoBulkEntry x + uptoBulkEntries r
def uptoBulkEntry {H : Type} : Lit × DataW H → Nat
  | (.string bytes, d) => bytes.length + uptoBulk d + 1
  | (_, d) => uptoBulk d + 1
 end
def uptoSmall : (H : Type) → List (DataW H) → Bool := fun _ ds => decide (uptoBulkAll ds ≤ 1048576)
def OpenSpec.upto (s : _root_.Go.ChangeSpec) : _root_.Go.OpenSpec := { _root_.Go.OpenSpec.ofChange s with cond := some uptoSmall }

/-- 'laws.FnExactMsgOk', WHERE WHAT IT READS IS OF BULK AT MOST 1048576: true; the input reads as it did. -/
def fnExactMsgOkUptoRow : OpenClaim := { program := "ytnplmeifhebhhaagreat", sum := "8a17ff1fcb009e1e0dbd88c42c9aa7a8405a283fbca9a51e68d82841a402d3c6", func := "loop.example/g00422/laws.FnExactMsgOk", spec := "fnExactMsgOk", unfollowed := true, recurses := true, apart := false, narrowed := true }
def FnExactMsgOkUptoSaid : Prop := fnExactMsgOkUptoRow.holds Tryz.pinned (OpenSpec.upto fnExactMsgOkSpec)

/-- 'laws.FnExactMsgBytes', WHERE WHAT IT READS IS OF BULK AT MOST 1048576: true; the input reads as it did. -/
def fnExactMsgBytesUptoRow : OpenClaim := { program := "ytnplmeifhebhhaagreat", sum := "8a17ff1fcb009e1e0dbd88c42c9aa7a8405a283fbca9a51e68d82841a402d3c6", func := "loop.example/g00422/laws.FnExactMsgBytes", spec := "fnExactMsgBytes", unfollowed := true, recurses := true, apart := false, narrowed := true }
def FnExactMsgBytesUptoSaid : Prop := fnExactMsgBytesUptoRow.holds Tryz.pinned (OpenSpec.upto fnExactMsgBytesSpec)

/-- 'laws.FnExactReplyTo', WHERE WHAT IT READS IS OF BULK AT MOST 1048576: true; the input reads as it did. -/
def fnExactReplyToUptoRow : OpenClaim := { program := "ytnplmeifhebhhaagreat", sum := "8a17ff1fcb009e1e0dbd88c42c9aa7a8405a283fbca9a51e68d82841a402d3c6", func := "loop.example/g00422/laws.FnExactReplyTo", spec := "fnExactReplyTo", unfollowed := true, recurses := true, apart := false, narrowed := true }
def FnExactReplyToUptoSaid : Prop := fnExactReplyToUptoRow.holds Tryz.pinned (OpenSpec.upto fnExactReplyToSpec)

/-- 'laws.FnExactTxnOk', WHERE WHAT IT READS IS OF BULK AT MOST 1048576: true; the input reads as it did. -/
def fnExactTxnOkUptoRow : OpenClaim := { program := "ytnplmeifhebhhaagreat", sum := "8a17ff1fcb009e1e0dbd88c42c9aa7a8405a283fbca9a51e68d82841a402d3c6", func := "loop.example/g00422/laws.FnExactTxnOk", spec := "fnExactTxnOk", unfollowed := true, recurses := true, apart := false, narrowed := true }
def FnExactTxnOkUptoSaid : Prop := fnExactTxnOkUptoRow.holds Tryz.pinned (OpenSpec.upto fnExactTxnOkSpec)

/-- 'laws.FnExactTxnBytes', WHERE WHAT IT READS IS OF BULK AT MOST 1048576: true; the input reads as it did. -/
def fnExactTxnBytesUptoRow : OpenClaim := { program := "ytnplmeifhebhhaagreat", sum := "8a17ff1fcb009e1e0dbd88c42c9aa7a8405a283fbca9a51e68d82841a402d3c6", func := "loop.example/g00422/laws.FnExactTxnBytes", spec := "fnExactTxnBytes", unfollowed := true, recurses := true, apart := false, narrowed := true }
def FnExactTxnBytesUptoSaid : Prop := fnExactTxnBytesUptoRow.holds Tryz.pinned (OpenSpec.upto fnExactTxnBytesSpec)

end Rows
end Go.Proofs.YtnplmeifhebhhaaGreat
