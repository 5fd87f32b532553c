/-
  No cell of these rows narrows 'for every input' (looked for: loops, veiled, ifaces, maps, wideKeys, modest, calm, conditions, laid).
  DERIVED. THE GIVEN ROWS OF THIS SEAT. 6 by the template 'for every input the law returns true; each argument reads behind the call as it read before'; 0 by the template 'total and deterministic' (their statements: YtalkaaiipeifkabTotals.lean).
  GIVEN WITH THE SEED: the statements are not yours to turn. If you find one false, say at which input.
  Laid BY PROGRAM, IN A SANDBOX (cutbox-rows.mjs): the forced cells as the released guide's own fill.sh prints them over the translation c054eefb7f442089… (all of the seat's roots in one cut). By AI agents, Wed Nov 11 2026. No macro, syntax, notation, axiom, sorry.
-/
import Derived.Test.YtalkaaiipeifkabChecked
import GoSem.Claim
import GoSem.ClaimJoined
import GoSem.ClaimMapViews
import Derived.JoinedTies
import Derived.KernelRfl
namespace Go.Proofs.Ytalkaaiipeifkab
/- THE CELL 'sum', in the pinned program and in every row, IS THE sha256 OF THE DUMP (.gsa) THAT YtalkaaiipeifkabProg.lean LOADS. Nothing in Lean hashes anything: it is a label: what it is worth is what the hold of that sum in a sandbox is worth. -/
noncomputable def Try.pinned : Pinned := { name := "ytalkaaiipeifkab", sum := "c054eefb7f442089a013d80c6998421f2068f4bf302f9aec7759e3c1fdd64131", checked := Try.checked }
namespace Rows
def none {H : Type} : Left H := { results := [], args := [] }

/-- 'laws.FnExactNameOk': WHATEVER THE INPUT: true; the input reads as it did. -/
def fnExactNameOkSpec : ChangeSpec := { name := "fnExactNameOk", fn := fun _ => fun
  | [d] => { results := [.lit (.bool true)], args := [d] }
  | _ => none }
def fnExactNameOkRow : OpenClaim := { program := "ytalkaaiipeifkab", sum := "c054eefb7f442089a013d80c6998421f2068f4bf302f9aec7759e3c1fdd64131", func := "loop.example/g00422/laws.FnExactNameOk", spec := "fnExactNameOk", apart := false }
def FnExactNameOkSaid : Prop := fnExactNameOkRow.holds Try.pinned (OpenSpec.ofChange fnExactNameOkSpec)

/-- ITS FALSE NEIGHBOUR: 'it returns false'. Refute it at one input. -/
def fnExactNameOkWrong : ChangeSpec := { name := "fnExactNameOk", fn := fun _ => fun
  | [d] => { results := [.lit (.bool false)], args := [d] }
  | _ => none }
def FnExactNameOkWrongFalsely : Prop := fnExactNameOkRow.holds Try.pinned (OpenSpec.ofChange fnExactNameOkWrong)

/-- 'laws.FnExactNameText': WHATEVER THE INPUT: true; the input reads as it did. -/
def fnExactNameTextSpec : ChangeSpec := { name := "fnExactNameText", fn := fun _ => fun
  | [d] => { results := [.lit (.bool true)], args := [d] }
  | _ => none }
def fnExactNameTextRow : OpenClaim := { program := "ytalkaaiipeifkab", sum := "c054eefb7f442089a013d80c6998421f2068f4bf302f9aec7759e3c1fdd64131", func := "loop.example/g00422/laws.FnExactNameText", spec := "fnExactNameText", apart := false }
def FnExactNameTextSaid : Prop := fnExactNameTextRow.holds Try.pinned (OpenSpec.ofChange fnExactNameTextSpec)

/-- ITS FALSE NEIGHBOUR: 'it returns false'. Refute it at one input. -/
def fnExactNameTextWrong : ChangeSpec := { name := "fnExactNameText", fn := fun _ => fun
  | [d] => { results := [.lit (.bool false)], args := [d] }
  | _ => none }
def FnExactNameTextWrongFalsely : Prop := fnExactNameTextRow.holds Try.pinned (OpenSpec.ofChange fnExactNameTextWrong)

/-- 'laws.FnExactNameRead': WHATEVER THE INPUT: true; the input reads as it did. -/
def fnExactNameReadSpec : ChangeSpec := { name := "fnExactNameRead", fn := fun _ => fun
  | [d] => { results := [.lit (.bool true)], args := [d] }
  | _ => none }
def fnExactNameReadRow : OpenClaim := { program := "ytalkaaiipeifkab", sum := "c054eefb7f442089a013d80c6998421f2068f4bf302f9aec7759e3c1fdd64131", func := "loop.example/g00422/laws.FnExactNameRead", spec := "fnExactNameRead", inPlace := ["internal/bytealg.IndexByte", "internal/bytealg.Index"], unfollowed := true, recurses := true, named := ["internal/bytealg.MaxLen"], apart := false }
def FnExactNameReadSaid : Prop := fnExactNameReadRow.holds Try.pinned (OpenSpec.ofChange fnExactNameReadSpec)

/-- ITS FALSE NEIGHBOUR: 'it returns false'. Refute it at one input. -/
def fnExactNameReadWrong : ChangeSpec := { name := "fnExactNameRead", fn := fun _ => fun
  | [d] => { results := [.lit (.bool false)], args := [d] }
  | _ => none }
def FnExactNameReadWrongFalsely : Prop := fnExactNameReadRow.holds Try.pinned (OpenSpec.ofChange fnExactNameReadWrong)

/-- 'laws.FnExactNameCmp': WHATEVER THE INPUT: true; the input reads as it did. -/
def fnExactNameCmpSpec : ChangeSpec := { name := "fnExactNameCmp", fn := fun _ => fun
  | [d1, d2] => { results := [.lit (.bool true)], args := [d1, d2] }
  | _ => none }
def fnExactNameCmpRow : OpenClaim := { program := "ytalkaaiipeifkab", sum := "c054eefb7f442089a013d80c6998421f2068f4bf302f9aec7759e3c1fdd64131", func := "loop.example/g00422/laws.FnExactNameCmp", spec := "fnExactNameCmp", inPlace := ["internal/bytealg.Compare"], apart := false }
def FnExactNameCmpSaid : Prop := fnExactNameCmpRow.holds Try.pinned (OpenSpec.ofChange fnExactNameCmpSpec)

/-- ITS FALSE NEIGHBOUR: 'it returns false'. Refute it at one input. -/
def fnExactNameCmpWrong : ChangeSpec := { name := "fnExactNameCmp", fn := fun _ => fun
  | [d1, d2] => { results := [.lit (.bool false)], args := [d1, d2] }
  | _ => none }
def FnExactNameCmpWrongFalsely : Prop := fnExactNameCmpRow.holds Try.pinned (OpenSpec.ofChange fnExactNameCmpWrong)

/-- 'laws.FnExactUnder': WHATEVER THE INPUT: true; the input reads as it did. -/
def fnExactUnderSpec : ChangeSpec := { name := "fnExactUnder", fn := fun _ => fun
  | [d1, d2] => { results := [.lit (.bool true)], args := [d1, d2] }
  | _ => none }
def fnExactUnderRow : OpenClaim := { program := "ytalkaaiipeifkab", sum := "c054eefb7f442089a013d80c6998421f2068f4bf302f9aec7759e3c1fdd64131", func := "loop.example/g00422/laws.FnExactUnder", spec := "fnExactUnder", inPlace := ["internal/bytealg.Compare"], apart := false }
def FnExactUnderSaid : Prop := fnExactUnderRow.holds Try.pinned (OpenSpec.ofChange fnExactUnderSpec)

/-- ITS FALSE NEIGHBOUR: 'it returns false'. Refute it at one input. -/
def fnExactUnderWrong : ChangeSpec := { name := "fnExactUnder", fn := fun _ => fun
  | [d1, d2] => { results := [.lit (.bool false)], args := [d1, d2] }
  | _ => none }
def FnExactUnderWrongFalsely : Prop := fnExactUnderRow.holds Try.pinned (OpenSpec.ofChange fnExactUnderWrong)

/-- 'laws.FnExactParent': WHATEVER THE INPUT: true; the input reads as it did. -/
def fnExactParentSpec : ChangeSpec := { name := "fnExactParent", fn := fun _ => fun
  | [d] => { results := [.lit (.bool true)], args := [d] }
  | _ => none }
def fnExactParentRow : OpenClaim := { program := "ytalkaaiipeifkab", sum := "c054eefb7f442089a013d80c6998421f2068f4bf302f9aec7759e3c1fdd64131", func := "loop.example/g00422/laws.FnExactParent", spec := "fnExactParent", apart := false }
def FnExactParentSaid : Prop := fnExactParentRow.holds Try.pinned (OpenSpec.ofChange fnExactParentSpec)

/-- ITS FALSE NEIGHBOUR: 'it returns false'. Refute it at one input. -/
def fnExactParentWrong : ChangeSpec := { name := "fnExactParent", fn := fun _ => fun
  | [d] => { results := [.lit (.bool false)], args := [d] }
  | _ => none }
def FnExactParentWrongFalsely : Prop := fnExactParentRow.holds Try.pinned (OpenSpec.ofChange fnExactParentWrong)

/- THE SECOND FORM. 'bulk': how many values and letters a reading holds, each counted each time it is reached (what is shared counts as often as it is met; a slice's spare places count too). A statement '..UptoSaid' is the law's where the arguments, and the package variables that the reading takes, are together of bulk at most 1048576: NARROWER than '..Said'. Prove '..Said' where nothing that the law and all that it calls make is longer than what came in: it says more and counts as full. Else prove '..UptoSaid'. A law counts once. -/
mutual
def uptoBulk {H : Type} : DataW H → Nat
  | .lit (.string bytes) => bytes.length + 1
  | .lit _ => 1
  | .nil => 1
  | .ptr d => uptoBulk d + 1
  | .slice elems spare => uptoBulkAll elems + uptoBulkAll spare + 1
  | .agg parts => uptoBulkAll parts + 1
  | .iface _ d => uptoBulk d + 1
  | .map entries => uptoBulkEntries entries + 1
  | .held _ => 1
def uptoBulkAll {H : Type} : List (DataW H) → Nat
  | [] => 0
  | d :: r => uptoBulk d + uptoBulkAll r
def uptoBulkEntries {H : Type} : List (Lit × DataW H) → Nat
  | [] => 0
  | x :: r => uptoBulkEntry x + uptoBulkEntries r
def uptoBulkEntry {H : Type} : Lit × DataW H → Nat
  | (.string bytes, d) => bytes.length + uptoBulk d + 1
  | (_, d) => uptoBulk d + 1
 end
def uptoSmall : (H : Type) → List (DataW H) → Bool := fun _ ds => decide (uptoBulkAll ds ≤ 1048576)
def OpenSpec.upto (s : _root_.Go.ChangeSpec) : _root_.Go.OpenSpec := { _root_.Go.OpenSpec.ofChange s with cond := some uptoSmall }

/-- 'laws.FnExactNameOk', WHERE WHAT IT READS IS OF BULK AT MOST 1048576: true; the input reads as it did. -/
def fnExactNameOkUptoRow : OpenClaim := { program := "ytalkaaiipeifkab", sum := "c054eefb7f442089a013d80c6998421f2068f4bf302f9aec7759e3c1fdd64131", func := "loop.example/g00422/laws.FnExactNameOk", spec := "fnExactNameOk", apart := false, narrowed := true }
def FnExactNameOkUptoSaid : Prop := fnExactNameOkUptoRow.holds Try.pinned (OpenSpec.upto fnExactNameOkSpec)

/-- 'laws.FnExactNameText', WHERE WHAT IT READS IS OF BULK AT MOST 1048576: true; the input reads as it did. -/
def fnExactNameTextUptoRow : OpenClaim := { program := "ytalkaaiipeifkab", sum := "c054eefb7f442089a013d80c6998421f2068f4bf302f9aec7759e3c1fdd64131", func := "loop.example/g00422/laws.FnExactNameText", spec := "fnExactNameText", apart := false, narrowed := true }
def FnExactNameTextUptoSaid : Prop := fnExactNameTextUptoRow.holds Try.pinned (OpenSpec.upto fnExactNameTextSpec)

/-- 'laws.FnExactNameRead', WHERE WHAT IT READS IS OF BULK AT MOST 1048576: true; the input reads as it did. -/
def fnExactNameReadUptoRow : OpenClaim := { program := "ytalkaaiipeifkab", sum := "c054eefb7f442089a013d80c6998421f2068f4bf302f9aec7759e3c1fdd64131", func := "loop.example/g00422/laws.FnExactNameRead", spec := "fnExactNameRead", inPlace := ["internal/bytealg.IndexByte", "internal/bytealg.Index"], unfollowed := true, recurses := true, named := ["internal/bytealg.MaxLen"], apart := false, narrowed := true }
def FnExactNameReadUptoSaid : Prop := fnExactNameReadUptoRow.holds Try.pinned (OpenSpec.upto fnExactNameReadSpec)

/-- 'laws.FnExactNameCmp', WHERE WHAT IT READS IS OF BULK AT MOST 1048576: true; the input reads as it did. -/
def fnExactNameCmpUptoRow : OpenClaim := { program := "ytalkaaiipeifkab", sum := "c054eefb7f442089a013d80c6998421f2068f4bf302f9aec7759e3c1fdd64131", func := "loop.example/g00422/laws.FnExactNameCmp", spec := "fnExactNameCmp", inPlace := ["internal/bytealg.Compare"], apart := false, narrowed := true }
def FnExactNameCmpUptoSaid : Prop := fnExactNameCmpUptoRow.holds Try.pinned (OpenSpec.upto fnExactNameCmpSpec)

/-- 'laws.FnExactUnder', WHERE WHAT IT READS IS OF BULK AT MOST 1048576: true; the input reads as it did. -/
def fnExactUnderUptoRow : OpenClaim := { program := "ytalkaaiipeifkab", sum := "c054eefb7f442089a013d80c6998421f2068f4bf302f9aec7759e3c1fdd64131", func := "loop.example/g00422/laws.FnExactUnder", spec := "fnExactUnder", inPlace := ["internal/bytealg.Compare"], apart := false, narrowed := true }
def FnExactUnderUptoSaid : Prop := fnExactUnderUptoRow.holds Try.pinned (OpenSpec.upto fnExactUnderSpec)

/-- 'laws.FnExactParent', WHERE WHAT IT READS IS OF BULK AT MOST 1048576: true; the input reads as it did. -/
def fnExactParentUptoRow : OpenClaim := { program := "ytalkaaiipeifkab", sum := "c054eefb7f442089a013d80c6998421f2068f4bf302f9aec7759e3c1fdd64131", func := "loop.example/g00422/laws.FnExactParent", spec := "fnExactParent", apart := false, narrowed := true }
def FnExactParentUptoSaid : Prop := fnExactParentUptoRow.holds Try.pinned (OpenSpec.upto fnExactParentSpec)

end Rows
end Go.Proofs.Ytalkaaiipeifkab
