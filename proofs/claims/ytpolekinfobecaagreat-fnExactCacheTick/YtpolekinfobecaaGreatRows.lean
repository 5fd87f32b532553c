/-
  No cell of these rows narrows 'for every input' (looked for: loops, veiled, ifaces, maps, wideKeys, modest, calm, conditions, laid).
  DERIVED. THE GIVEN ROWS OF THIS SEAT. 3 by the template 'for every input the law returns true; each argument reads behind the call as it read before'; 0 by the template 'total and deterministic' (their statements: YtpolekinfobecaaGreatTotals.lean).
  GIVEN WITH THE SEED: the statements are not yours to turn. If you find one false, say at which input.
  Laid BY PROGRAM, IN A SANDBOX (cutbox-rows.mjs): the forced cells as the released guide's own fill.sh prints them over the translation 3d5bba06c3bb01df… (all of the seat's roots in one cut). By AI agents, Wed Nov 11 2026. No macro, syntax, notation, axiom, sorry.
-/
import Derived.Test.YtpolekinfobecaaGreatChecked
import GoSem.Claim
import GoSem.ClaimJoined
import GoSem.ClaimMapViews
import Derived.JoinedTies
import Derived.KernelRfl
namespace Go.Proofs.YtpolekinfobecaaGreat
/- THE CELL 'sum', in the pinned program and in every row, IS THE sha256 OF THE DUMP (.gsa) THAT YtpolekinfobecaaGreatProg.lean LOADS. Nothing in Lean hashes anything: it is a label: what it is worth is what the hold of that sum in a sandbox is worth. -/
noncomputable def Tryz.pinned : Pinned := { name := "ytpolekinfobecaagreat", sum := "3d5bba06c3bb01dfd763030478f1ec5f870faadf791988149959b49729b23ab0", checked := Tryz.checked }
namespace Rows
def none {H : Type} : Left H := { results := [], args := [] }

/-- 'laws.FnExactCacheOk': WHATEVER THE INPUT: true; the input reads as it did. -/
def fnExactCacheOkSpec : ChangeSpec := { name := "fnExactCacheOk", fn := fun _ => fun
  | [d] => { results := [.lit (.bool true)], args := [d] }
  | _ => none }
def fnExactCacheOkRow : OpenClaim := { program := "ytpolekinfobecaagreat", sum := "3d5bba06c3bb01dfd763030478f1ec5f870faadf791988149959b49729b23ab0", func := "loop.example/g00422/laws.FnExactCacheOk", spec := "fnExactCacheOk", inPlace := ["internal/bytealg.Compare"], unfollowed := true, recurses := true, apart := false }
def FnExactCacheOkSaid : Prop := fnExactCacheOkRow.holds Tryz.pinned (OpenSpec.ofChange fnExactCacheOkSpec)

/-- ITS FALSE NEIGHBOUR: 'it returns false'. Refute it at one input. -/
def fnExactCacheOkWrong : ChangeSpec := { name := "fnExactCacheOk", fn := fun _ => fun
  | [d] => { results := [.lit (.bool false)], args := [d] }
  | _ => none }
def FnExactCacheOkWrongFalsely : Prop := fnExactCacheOkRow.holds Tryz.pinned (OpenSpec.ofChange fnExactCacheOkWrong)

/-- 'laws.FnExactCacheTick': WHATEVER THE INPUT: true; the input reads as it did. -/
def fnExactCacheTickSpec : ChangeSpec := { name := "fnExactCacheTick", fn := fun _ => fun
  | [d1, d2] => { results := [.lit (.bool true)], args := [d1, d2] }
  | _ => none }
def fnExactCacheTickRow : OpenClaim := { program := "ytpolekinfobecaagreat", sum := "3d5bba06c3bb01dfd763030478f1ec5f870faadf791988149959b49729b23ab0", func := "loop.example/g00422/laws.FnExactCacheTick", spec := "fnExactCacheTick", inPlace := ["internal/bytealg.Compare"], unfollowed := true, recurses := true, apart := false }
def FnExactCacheTickSaid : Prop := fnExactCacheTickRow.holds Tryz.pinned (OpenSpec.ofChange fnExactCacheTickSpec)

/-- ITS FALSE NEIGHBOUR: 'it returns false'. Refute it at one input. -/
def fnExactCacheTickWrong : ChangeSpec := { name := "fnExactCacheTick", fn := fun _ => fun
  | [d1, d2] => { results := [.lit (.bool false)], args := [d1, d2] }
  | _ => none }
def FnExactCacheTickWrongFalsely : Prop := fnExactCacheTickRow.holds Tryz.pinned (OpenSpec.ofChange fnExactCacheTickWrong)

/-- 'laws.FnExactCacheNames': WHATEVER THE INPUT: true; the input reads as it did. -/
def fnExactCacheNamesSpec : ChangeSpec := { name := "fnExactCacheNames", fn := fun _ => fun
  | [d] => { results := [.lit (.bool true)], args := [d] }
  | _ => none }
def fnExactCacheNamesRow : OpenClaim := { program := "ytpolekinfobecaagreat", sum := "3d5bba06c3bb01dfd763030478f1ec5f870faadf791988149959b49729b23ab0", func := "loop.example/g00422/laws.FnExactCacheNames", spec := "fnExactCacheNames", inPlace := ["internal/bytealg.Compare"], unfollowed := true, recurses := true, apart := false }
def FnExactCacheNamesSaid : Prop := fnExactCacheNamesRow.holds Tryz.pinned (OpenSpec.ofChange fnExactCacheNamesSpec)

/-- ITS FALSE NEIGHBOUR: 'it returns false'. Refute it at one input. -/
def fnExactCacheNamesWrong : ChangeSpec := { name := "fnExactCacheNames", fn := fun _ => fun
  | [d] => { results := [.lit (.bool false)], args := [d] }
  | _ => none }
def FnExactCacheNamesWrongFalsely : Prop := fnExactCacheNamesRow.holds Tryz.pinned (OpenSpec.ofChange fnExactCacheNamesWrong)

/- THE SECOND FORM. 'bulk': how many values and letters a reading holds, each counted each time it is reached (what is shared counts as often as it is met; a slice's spare places count too). A statement '..UptoSaid' is the law's where the arguments, and the package variables that the reading takes, are together of bulk at most 1048576: NARROWER than '..Said'. Prove '..Said' where nothing that the law and all that it calls make is longer than what came in: it says more and counts as full. Else prove '..UptoSaid'. A law counts once. -/
mutual
def uptoBulk {H : Type} : DataW H → Nat
  | .lit (.string bytes) => bytes.length + 1
  | .lit _ => 1
  | .nil => 1
  | .ptr d => uptoBulk d + 1
  | .slice elems spare => uptoBulkAll elems + uptoBulkAll spare + 1
  | .agg parts => uptoBulkAll parts + 1
  | .iface _ d => uptoBulk d + 1
  | .map entries => uptoBulkEntries entries + 1
  | .held _ => 1
def uptoBulkAll {H : Type} : List (DataW H) → Nat
  | [] => 0
  | d :: r => uptoBulk d + uptoBulkAll r
def uptoBulkEntries {H : Type} : List (Lit × DataW H) → Nat
  | [] => 0
  | x :: r => uptoBulkEntry x + uptoBulkEntries r
def uptoBulkEntry {H : Type} : Lit × DataW H → Nat
  | (.string bytes, d) => bytes.length + uptoBulk d + 1
  | (_, d) => uptoBulk d + 1
 end
def uptoSmall : (H : Type) → List (DataW H) → Bool := fun _ ds => decide (uptoBulkAll ds ≤ 1048576)
def OpenSpec.upto (s : _root_.Go.ChangeSpec) : _root_.Go.OpenSpec := { _root_.Go.OpenSpec.ofChange s with cond := some uptoSmall }

/-- 'laws.FnExactCacheOk', WHERE WHAT IT READS IS OF BULK AT MOST 1048576: true; the input reads as it did. -/
def fnExactCacheOkUptoRow : OpenClaim := { program := "ytpolekinfobecaagreat", sum := "3d5bba06c3bb01dfd763030478f1ec5f870faadf791988149959b49729b23ab0", func := "loop.example/g00422/laws.FnExactCacheOk", spec := "fnExactCacheOk", inPlace := ["internal/bytealg.Compare"], unfollowed := true, recurses := true, apart := false, narrowed := true }
def FnExactCacheOkUptoSaid : Prop := fnExactCacheOkUptoRow.holds Tryz.pinned (OpenSpec.upto fnExactCacheOkSpec)

/-- 'laws.FnExactCacheTick', WHERE WHAT IT READS IS OF BULK AT MOST 1048576: true; the input reads as it did. -/
def fnExactCacheTickUptoRow : OpenClaim := { program := "ytpolekinfobecaagreat", sum := "3d5bba06c3bb01dfd763030478f1ec5f870faadf791988149959b49729b23ab0", func := "loop.example/g00422/laws.FnExactCacheTick", spec := "fnExactCacheTick", inPlace := ["internal/bytealg.Compare"], unfollowed := true, recurses := true, apart := false, narrowed := true }
def FnExactCacheTickUptoSaid : Prop := fnExactCacheTickUptoRow.holds Tryz.pinned (OpenSpec.upto fnExactCacheTickSpec)

/-- 'laws.FnExactCacheNames', WHERE WHAT IT READS IS OF BULK AT MOST 1048576: true; the input reads as it did. -/
def fnExactCacheNamesUptoRow : OpenClaim := { program := "ytpolekinfobecaagreat", sum := "3d5bba06c3bb01dfd763030478f1ec5f870faadf791988149959b49729b23ab0", func := "loop.example/g00422/laws.FnExactCacheNames", spec := "fnExactCacheNames", inPlace := ["internal/bytealg.Compare"], unfollowed := true, recurses := true, apart := false, narrowed := true }
def FnExactCacheNamesUptoSaid : Prop := fnExactCacheNamesUptoRow.holds Tryz.pinned (OpenSpec.upto fnExactCacheNamesSpec)

end Rows
end Go.Proofs.YtpolekinfobecaaGreat
