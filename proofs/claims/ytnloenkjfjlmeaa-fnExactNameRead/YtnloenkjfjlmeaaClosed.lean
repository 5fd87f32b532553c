/-
  What the frame asks of the whole program, once for all statements of the seat: the word on how it was cut is laid out as numbers first, so that the kernel need not take a long text apart.
-/
import Derived.Test.YtnloenkjfjlmeaaRows
import Derived.WalkKit
import Derived.ProofKit
import Derived.JoinedOf
namespace Go.Proofs.Ytnloenkjfjlmeaa

/-- The word that tells that the program is a cut. -/
def cutWord : List Char := [Char.ofNat 99, Char.ofNat 117, Char.ofNat 116]
theorem cut_gc : (cutWord == "gc".toList) = false := by kernel_rfl
theorem cut_spec : (cutWord == "spec".toList) = false := by kernel_rfl
theorem cut_carried : (cutWord == "carried".toList) = false := by kernel_rfl
theorem cut_cut : (cutWord == "cut".toList) = true := by kernel_rfl
theorem head_cut (W : List (List Char)) : (List.head? (cutWord :: W) == some "cut".toList) = true := by kernel_rfl
theorem head_carried (W : List (List Char)) : (List.head? (cutWord :: W) == some "carried".toList) = false := by kernel_rfl
theorem strip_cut (W : List (List Char)) : stripLifts liftWords (cutWord :: W) = ([], cutWord :: W) := by kernel_rfl

theorem enter_of {P : Program} {l : List Char} {W : List (List Char)} (h : P.initOrder.toList = l) (hw : behindMainWord (wordsSigns l) = cutWord :: W) (h1 : P.laysLater = false) (h2 : P.bearsReflect = false) (h3 : P.doorFits [] = true) : P.mayEnter = true := by
  unfold Program.mayEnter
  rw [h, hw]
  simp only [strip_cut, h1, h2, h3, cut_gc, cut_spec, cut_carried, head_cut]
  rfl
theorem lifts_of {P : Program} {l : List Char} {W : List (List Char)} (h : P.initOrder.toList = l) (hw : behindMainWord (wordsSigns l) = cutWord :: W) : P.liftsFinal = false := by
  unfold Program.liftsFinal Program.headLifts
  rw [h, hw]
  simp only [strip_cut, head_carried, head_cut]
  rfl
theorem make_of {P : Program} {l : List Char} {W : List (List Char)} (h : P.initOrder.toList = l) (hw : behindMainWord (wordsSigns l) = cutWord :: W) : P.make = some .cut := by
  unfold Program.make
  rw [h, hw]
  simp only [cut_gc, cut_spec, cut_cut]
  rfl

def initA : List Char := [104, 97, 114, 110, 101, 115, 115, 32, 56, 56, 49, 52, 51, 101, 53, 49, 100, 55, 102, 50, 55, 56, 99, 101, 53, 53, 100, 102, 101, 56, 57, 49, 99, 97, 51, 56, 53, 52, 49, 49, 56, 51, 101, 53, 50, 54, 53, 50, 99, 101, 101, 52, 49, 48, 54, 50, 54, 102, 50, 98, 99, 97, 56, 51, 100, 52, 100, 57, 97, 99, 98, 57, 32, 99, 117, 116, 32].map Char.ofNat
def initB : List Char := [97, 116, 32, 108, 111, 111, 112, 46, 101, 120, 97, 109, 112, 108, 101, 47, 103, 48, 48, 52, 50, 50, 47, 108, 97, 119, 115, 46, 70, 110, 78, 97, 109, 101, 84, 101, 120, 116, 115, 32, 108, 111, 111, 112, 46, 101, 120, 97, 109, 112, 108, 101, 47, 103, 48, 48, 52, 50, 50, 47, 108, 97, 119, 115, 46, 70, 110, 78, 97, 109, 101, 79, 114, 100, 101, 114, 32, 108, 111, 111, 112, 46, 101, 120, 97, 109, 112, 108, 101, 47, 103, 48, 48, 52, 50, 50, 47, 108, 97, 119, 115, 46, 70, 110, 78, 97, 109, 101, 87, 105, 114, 101, 32, 108, 111, 111, 112, 46, 101, 120, 97, 109, 112, 108, 101, 47, 103, 48, 48, 52, 50, 50, 47, 108, 97, 119, 115, 46, 70, 110, 82, 101, 99, 111, 114, 100, 79, 114, 100, 101, 114, 32, 108, 111, 111, 112, 46, 101, 120, 97, 109, 112, 108, 101, 47, 103, 48, 48, 52, 50, 50, 47, 108, 97, 119, 115, 46, 70, 110, 69, 120, 97, 99, 116, 78, 97, 109, 101, 82, 101, 97, 100, 32, 108, 111, 111, 112, 46, 101, 120, 97, 109, 112, 108, 101, 47, 103, 48, 48, 52, 50, 50, 47, 108, 97, 119, 115, 46, 70, 110, 69, 120, 97, 99, 116, 68, 97, 116, 97, 71, 101, 116, 32, 108, 111, 111, 112, 46, 101, 120, 97, 109, 112, 108, 101, 47, 103, 48, 48, 52, 50, 50, 47, 108, 97, 119, 115, 46, 70, 110, 69, 120, 97, 99, 116, 82, 114, 80, 117, 116, 32, 108, 111, 111, 112, 46, 101, 120, 97, 109, 112, 108, 101, 47, 103, 48, 48, 52, 50, 50, 47, 108, 97, 119, 115, 46, 70, 110, 69, 120, 97, 99, 116, 82, 114, 71, 101, 116].map Char.ofNat
theorem init_text : Try.prog.initOrder = String.ofList (initA ++ initB) := by kernel_rfl
theorem init_list : Try.prog.initOrder.toList = initA ++ initB := by rw [init_text, String.toList_ofList]
theorem words (R : List Char) : behindMainWord (wordsSigns (initA ++ R)) = cutWord :: wordsSigns R := by kernel_rfl
theorem c_laid : laidOutB Try.prog = true := by kernel_rfl
theorem c_maps : mapsRowed Try.prog = true := by kernel_rfl
theorem c_stops : (Try.prog.stops == []) = true := by kernel_rfl
theorem c_knobs : (Try.prog.stopKnobs == []) = true := by kernel_rfl
theorem c_heard : Try.prog.stopsHeard = true := by kernel_rfl
theorem c_later : Try.prog.laysLater = false := by kernel_rfl
theorem c_reflect : Try.prog.bearsReflect = false := by kernel_rfl
theorem c_door : Try.prog.doorFits [] = true := by kernel_rfl
theorem c_keys : Try.prog.plainKeys = true := by kernel_rfl
theorem c_enter : Try.prog.mayEnter = true := enter_of init_list (words initB) c_later c_reflect c_door
theorem c_lifts : Try.prog.liftsFinal = false := lifts_of init_list (words initB)
theorem c_make : Try.prog.make = some .cut := make_of init_list (words initB)

theorem both {a b : Bool} (h : a = true) (k : b = true) : (a && b) = true := by rw [h, k]; rfl

set_option maxRecDepth 100000 in
/-- The frame's facts, the program's own ones taken from above. -/
theorem closed_of {f : FuncId} {fn : Func} {s : ChangeSpec} {c : OpenClaim} (k1 : c.wf (OpenSpec.ofChange s) = true) (k4 : fn.params.all (Try.prog.readableRec ·) = true) (k5 : namedTie Try.prog c.named s.vars = true) (k6 : (c.stops == []) = true) (k8 : (c.knobs == []) = true)
    (k10 : (c.inPlace == Try.prog.inPlace f) = true) (k11 : (c.unfollowed == Try.prog.unfollowed f) = true) (k12 : (c.recurses == Try.prog.recurses f) = true) (k13 : (c.named == Try.prog.varsNamed f) = true)
    (k14 : (c.maps == (fn.params.toList ++ s.plain.varTypes Try.prog).any (Try.prog.mapsRec ·)) = true) (k15 : (c.ifaces == (fn.params.toList ++ s.plain.varTypes Try.prog).any (Try.prog.ifacesRec ·)) = true) (k16 : (c.mapsOut == Try.prog.mapsAmong fn.resultTypes.toList) = true)
    (k17 : (c.loops == (fn.params.toList ++ s.plain.varTypes Try.prog).any (Try.prog.loopsFrom ·)) = true) (k17b : (c.wideKeys == (fn.params.toList ++ s.plain.varTypes Try.prog ++ fn.resultTypes.toList).any (Try.prog.wideKeysFrom ·)) = true)
    (k18 : s.vars.all (Try.prog.varReadable ·) = true) (k19 : fn.resultTypes.all (fun t => Try.prog.readableRec t && decide (t < Try.prog.types.size)) = true) (k20 : (c.ifacesOut == fn.resultTypes.toList.any (Try.prog.ifacesRec ·)) = true) (k21 : (c.loopsOut == fn.resultTypes.toList.any (Try.prog.loopsFrom ·)) = true)
    (k22 : c.plainKeys = true) (k23 : c.shortTexts.isNone = true) (k24b : c.lifted = false) (k24c : c.make = .cut)
    (k25 : (c.kinds == (if c.domain.isEmpty then [] else fn.params.toList.map fun t => match Try.prog.underlying t with | some (.int k) => some k | _ => none)) = true) (k26 : (c.pinned == c.pinnedBy) = true)
    (k27 : (c.veiled == (fn.params.toList ++ s.plain.varTypes Try.prog ++ fn.resultTypes.toList).any (Try.prog.veiledRec ·)) = true) (k28 : c.veiledFits Try.prog fn.params.toList (fn.params.toList ++ s.plain.varTypes Try.prog ++ fn.resultTypes.toList) = true) :
    joinedFacts Try.prog f fn s c = true := by
  have e22 : (c.plainKeys == Try.prog.plainKeys) = true := by rw [k22, c_keys]; rfl
  have e24b : (c.lifted == Try.prog.liftsFinal) = true := by rw [k24b, c_lifts]; rfl
  have e24c : (Try.prog.make == some c.make) = true := by rw [k24c, c_make]; rfl
  unfold joinedFacts
  exact both (both (both (both (both (both (both (both (both (both (both (both (both (both (both (both (both (both (both (both (both (both (both (both (both (both (both (both (both (both (both k1 c_laid) c_maps) k4) k5) k6) c_stops) k8) c_knobs) k10) k11) k12) k13) k14) k15) k16) k17) k17b) k18) k19) k20) k21) e22) k23) c_heard) c_enter) e24b) e24c) k25) k26) k27) k28
end Go.Proofs.Ytnloenkjfjlmeaa
