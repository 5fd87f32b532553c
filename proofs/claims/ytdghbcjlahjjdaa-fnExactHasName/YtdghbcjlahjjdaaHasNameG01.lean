/-
  What is known of a name that came in as an argument: a struct of one slice of slices of bytes, wherever they lie. What the frame asks of the whole program, once for all statements of the seat: the word on how it was cut is laid out as numbers first, so that the kernel need not take a long text apart.
-/
import Derived.Test.YtdghbcjlahjjdaaHasNameG00
import Derived.ProofKit
import Derived.ChangeArms
import Derived.ChangeSame
import Derived.ChangeSlices
import Derived.Test.YtdghbcjlahjjdaaRows
import Derived.WalkKit
import Derived.JoinedOf
namespace Go.Proofs.Ytdghbcjlahjjdaa
open Go.RowKit Go.ChangeShapes Go.WideShapes Go.ChangeAt

theorem ints_lies {H : Type} {enc : TypeId × Value → H} {P : Program} {w : World} {sp : Nat → Bool} {held : Bool} {t e : TypeId} {fuel : Nat} {v : Value} {x : DataW H × List MemPlace}
    (ht : P.underlying t = some (.slice e)) (he : P.underlying e = some (.int .u8)) (hc : P.cellsOf e = 1) (hsp : ∀ b, sp b = true) (h : DataW.trod enc P w 0 sp held fuel t [v] = some x) :
    ∃ (a : Option Addr) (cap : Nat) (l : List Int), v = .slice a l.length cap ∧ l.length ≤ maxLen ∧ Lies w a l ∧ ∀ k, 0 ≤ l.getD k 0 ∧ l.getD k 0 ≤ 255 := by
  have key : ∃ a len cap zs, v = .slice a len cap ∧ IsRow .u8 w a len cap zs := by
    rcases open_ints ht he hc h with ⟨hcs, _⟩ | ⟨x, l, c, zs, hcs, _, hl, hm, hz, _, hcell, hwz⟩
    · simp at hcs
      exact ⟨none, 0, 0, [], hcs, .inl ⟨rfl, rfl, rfl, rfl⟩⟩
    · simp at hcs
      exact ⟨some x, l, c, zs, hcs, .inr ⟨_, rfl, hl, hm, by simpa [hsp] using hz, hcell, hwz⟩⟩
  obtain ⟨a, len, cap, zs, rfl, hr⟩ := key
  obtain ⟨l, rfl, hm, hL, hb⟩ := isRow_lies hr
  exact ⟨a, cap, l, rfl, hm, hL, hb⟩

theorem open_texts {H : Type} {enc : TypeId × Value → H} {P : Program} {w : World} {sp : Nat → Bool} {held : Bool} {t e u : TypeId} {fuel : Nat} {v : Value} {x : DataW H × List MemPlace}
    (ht : P.underlying t = some (.slice e)) (he : P.underlying e = some (.slice u)) (hu : P.underlying u = some (.int .u8)) (hc : P.cellsOf e = 1) (hcu : P.cellsOf u = 1) (hsp : ∀ b, sp b = true)
    (h : DataW.trod enc P w 0 sp held fuel t [v] = some x) :
    ∃ (a : Option Addr) (cap : Nat) (n : List (List Int)), v = .slice a n.length cap ∧ n.length ≤ maxLen ∧ LiesL w a n ∧ ∀ i, i < n.length → (n.getD i []).length ≤ maxLen ∧ ∀ k, 0 ≤ (n.getD i []).getD k 0 ∧ (n.getD i []).getD k 0 ≤ 255 := by
  rcases DataW.trod_slice ht h with ⟨hv, _⟩ | ⟨a, len, cap, elems, rest, n, _, hcs, hx, _, hl, hm, hlen, hel, _⟩
  · simp at hv
    exact ⟨none, 0, [], hv, Nat.zero_le _, .inl rfl, by simp⟩
  · simp at hcs
    subst hcs
    have each : ∀ i, i < len → ∃ c : Value, w.cell? (a.add i) = some c ∧ ∃ y, DataW.trod enc P w 0 sp held n e [c] = some y := by
      intro i hi
      have hE := hel i hi
      rw [hc, Nat.mul_one] at hE
      have hi' : i < elems.length := by omega
      rw [List.getElem?_eq_getElem hi'] at hE
      simp only [Option.bind_eq_some_iff] at hE
      obtain ⟨c1, hc1, hy1⟩ := hE
      have e0 : (a.add i).add 0 = a.add i := by simp [Addr.add]
      have : ∃ c, c1 = [c] ∧ w.cell? (a.add i) = some c := by
        unfold World.cells? at hc1
        split at hc1
        · simp only [List.range_succ, List.range_zero, List.nil_append, List.mapM_cons, List.mapM_nil, e0] at hc1
          cases hcc : w.cell? (a.add i) with
          | none => simp [hcc] at hc1
          | some c => simp [hcc] at hc1; exact ⟨c, hc1.symm, rfl⟩
        · cases hc1
      obtain ⟨c, rfl, hcell⟩ := this
      exact ⟨c, hcell, _, hy1⟩
    have each2 : ∀ i, i < len → ∃ (l : List Int), l.length ≤ maxLen ∧ (∀ k, 0 ≤ l.getD k 0 ∧ l.getD k 0 ≤ 255) ∧ ∃ ia ic, w.cell? (a.add i) = some (.slice ia l.length ic) ∧ Lies w ia l := by
      intro i hi
      obtain ⟨c, hcell, y, hy⟩ := each i hi
      obtain ⟨ia, ic, l, rfl, h1, h2, h3⟩ := ints_lies he hu hcu hsp hy
      exact ⟨l, h1, h3, ia, ic, hcell, h2⟩
    have hch : ∃ L : Nat → List Int, ∀ i, i < len → (L i).length ≤ maxLen ∧ (∀ k, 0 ≤ (L i).getD k 0 ∧ (L i).getD k 0 ≤ 255) ∧ ∃ ia ic, w.cell? (a.add i) = some (.slice ia (L i).length ic) ∧ Lies w ia (L i) := by
      refine ⟨fun i => if hi : i < len then (each2 i hi).choose else [], fun i hi => ?_⟩
      simp only [hi, dite_true]
      exact (each2 i hi).choose_spec
    obtain ⟨L, hL⟩ := hch
    have hln : ((List.range len).map L).length = len := by simp
    have hget : ∀ i, i < len → ((List.range len).map L).getD i [] = L i := fun i hi => by simp [hi]
    refine ⟨some a, cap, (List.range len).map L, by rw [hln], by omega, ?_, ?_⟩
    · by_cases h0 : len = 0
      · subst h0; exact .inl (by simp)
      · right
        obtain ⟨b, off, spot⟩ := a
        obtain ⟨c, hc0, _⟩ := each 0 (by omega)
        have hspot : spot = none := by simpa [Addr.add] using World.cell?_spot hc0
        subst hspot
        refine ⟨b, off, rfl, cell_lt hc0, fun i hi => ?_⟩
        rw [hln] at hi
        rw [hget i hi]
        obtain ⟨_, _, ia, ic, h1, h2⟩ := hL i hi
        rw [Addr.add_lit] at h1
        exact ⟨ia, ic, h1, h2⟩
    · intro i hi
      rw [hln] at hi
      rw [hget i hi]
      exact ⟨(hL i hi).1, (hL i hi).2.1⟩

/-- A name: a struct whose one field is such a slice. -/
theorem open_name {H : Type} {enc : TypeId × Value → H} {P : Program} {w : World} {r : Reach} {b0 : Nat} {sp : Nat → Bool} {held : Bool} {tn t e u : TypeId} {f0 : Field} {v : Value} {d : DataW H} {ps : List MemPlace}
    (hn : P.underlying tn = some (.struct #[f0])) (hf : f0.type = t) (ho : f0.offset = 0) (h1 : P.cellsOf tn = 1) (h1' : P.cellsOf t = 1)
    (ht : P.underlying t = some (.slice e)) (he : P.underlying e = some (.slice u)) (hu : P.underlying u = some (.int .u8)) (hc : P.cellsOf e = 1) (hcu : P.cellsOf u = 1) (hsp : ∀ b, sp b = true)
    (hval : Value.okWide P w r b0 tn v) (h : DataW.Trod enc P w 0 sp held tn v d ps) :
    ∃ (a : Option Addr) (cap : Nat) (n : List (List Int)), v = .agg #[.slice a n.length cap] ∧ n.length ≤ maxLen ∧ LiesL w a n ∧ ∀ i, i < n.length → (n.getD i []).length ≤ maxLen ∧ ∀ k, 0 ≤ (n.getD i []).getD k 0 ∧ (n.getD i []).getD k 0 ≤ 255 := by
  obtain ⟨cs, rfl, hs⟩ := okWide_struct hn hval
  rw [h1] at hs
  obtain ⟨c, rfl⟩ : ∃ c, cs = #[c] := by
    cases cs with
    | mk l =>
      match l, hs with
      | [c], _ => exact ⟨c, rfl⟩
  obtain ⟨fuel, hf0⟩ := h
  have hcells : (Value.agg #[c]).cells.toList = [c] := by simp [Value.cells]
  rw [hcells] at hf0
  obtain ⟨y0, n, _, _, hy⟩ := trod_struct1 hn hf0
  rw [hf, ho, h1'] at hy
  simp only [List.drop_zero, List.take_succ_cons, List.take_zero] at hy
  obtain ⟨a, cap, m, rfl, hm, hL, hb⟩ := open_texts ht he hu hc hcu hsp hy
  exact ⟨a, cap, m, rfl, hm, hL, hb⟩
end Go.Proofs.Ytdghbcjlahjjdaa

namespace Go.Proofs.Ytdghbcjlahjjdaa

/-- The word that tells that the program is a cut. -/
def cutWord : List Char := [Char.ofNat 99, Char.ofNat 117, Char.ofNat 116]
theorem cut_gc : (cutWord == "gc".toList) = false := by kernel_rfl
theorem cut_spec : (cutWord == "spec".toList) = false := by kernel_rfl
theorem cut_carried : (cutWord == "carried".toList) = false := by kernel_rfl
theorem cut_cut : (cutWord == "cut".toList) = true := by kernel_rfl
theorem head_cut (W : List (List Char)) : (List.head? (cutWord :: W) == some "cut".toList) = true := by kernel_rfl
theorem head_carried (W : List (List Char)) : (List.head? (cutWord :: W) == some "carried".toList) = false := by kernel_rfl
theorem strip_cut (W : List (List Char)) : stripLifts liftWords (cutWord :: W) = ([], cutWord :: W) := by kernel_rfl

theorem enter_of {P : Program} {l : List Char} {W : List (List Char)} (h : P.initOrder.toList = l) (hw : behindMainWord (wordsSigns l) = cutWord :: W) (h1 : P.laysLater = false) (h2 : P.bearsReflect = false) (h3 : P.doorFits [] = true) : P.mayEnter = true := by
  unfold Program.mayEnter
  rw [h, hw]
  simp only [strip_cut, h1, h2, h3, cut_gc, cut_spec, cut_carried, head_cut]
  rfl
theorem lifts_of {P : Program} {l : List Char} {W : List (List Char)} (h : P.initOrder.toList = l) (hw : behindMainWord (wordsSigns l) = cutWord :: W) : P.liftsFinal = false := by
  unfold Program.liftsFinal Program.headLifts
  rw [h, hw]
  simp only [strip_cut, head_carried, head_cut]
  rfl
theorem make_of {P : Program} {l : List Char} {W : List (List Char)} (h : P.initOrder.toList = l) (hw : behindMainWord (wordsSigns l) = cutWord :: W) : P.make = some .cut := by
  unfold Program.make
  rw [h, hw]
  simp only [cut_gc, cut_spec, cut_cut]
  rfl

def initA : List Char := [104, 97, 114, 110, 101, 115, 115, 32, 51, 98, 102, 56, 50, 99, 97, 57, 99, 56, 100, 98, 102, 97, 97, 54, 51, 98, 54, 97, 54, 54, 50, 98, 55, 48, 99, 102, 101, 57, 56, 51, 50, 102, 102, 51, 97, 101, 54, 101, 97, 99, 101, 102, 98, 102, 99, 53, 56, 100, 97, 53, 55, 52, 51, 54, 55, 98, 55, 99, 102, 55, 52, 53, 32, 99, 117, 116, 32].map Char.ofNat
def initB : List Char := [97, 116, 32, 108, 111, 111, 112, 46, 101, 120, 97, 109, 112, 108, 101, 47, 103, 48, 48, 52, 50, 50, 47, 108, 97, 119, 115, 46, 70, 110, 82, 101, 99, 111, 114, 100, 79, 114, 100, 101, 114, 32, 108, 111, 111, 112, 46, 101, 120, 97, 109, 112, 108, 101, 47, 103, 48, 48, 52, 50, 50, 47, 108, 97, 119, 115, 46, 70, 110, 69, 120, 97, 99, 116, 90, 111, 110, 101, 78, 101, 119, 32, 108, 111, 111, 112, 46, 101, 120, 97, 109, 112, 108, 101, 47, 103, 48, 48, 52, 50, 50, 47, 108, 97, 119, 115, 46, 70, 110, 69, 120, 97, 99, 116, 72, 97, 115, 78, 97, 109, 101].map Char.ofNat
theorem init_text : Try.prog.initOrder = String.ofList (initA ++ initB) := by kernel_rfl
theorem init_list : Try.prog.initOrder.toList = initA ++ initB := by rw [init_text, String.toList_ofList]
theorem words (R : List Char) : behindMainWord (wordsSigns (initA ++ R)) = cutWord :: wordsSigns R := by kernel_rfl
theorem c_laid : laidOutB Try.prog = true := by kernel_rfl
theorem c_maps : mapsRowed Try.prog = true := by kernel_rfl
theorem c_stops : (Try.prog.stops == []) = true := by kernel_rfl
theorem c_knobs : (Try.prog.stopKnobs == []) = true := by kernel_rfl
theorem c_heard : Try.prog.stopsHeard = true := by kernel_rfl
theorem c_later : Try.prog.laysLater = false := by kernel_rfl
theorem c_reflect : Try.prog.bearsReflect = false := by kernel_rfl
theorem c_door : Try.prog.doorFits [] = true := by kernel_rfl
theorem c_keys : Try.prog.plainKeys = true := by kernel_rfl
theorem c_enter : Try.prog.mayEnter = true := enter_of init_list (words initB) c_later c_reflect c_door
theorem c_lifts : Try.prog.liftsFinal = false := lifts_of init_list (words initB)
theorem c_make : Try.prog.make = some .cut := make_of init_list (words initB)

theorem both {a b : Bool} (h : a = true) (k : b = true) : (a && b) = true := by rw [h, k]; rfl

set_option maxRecDepth 100000 in
/-- The frame's facts, the program's own ones taken from above. -/
theorem closed_of {f : FuncId} {fn : Func} {s : ChangeSpec} {c : OpenClaim} (k1 : c.wf (OpenSpec.ofChange s) = true) (k4 : fn.params.all (Try.prog.readableRec ·) = true) (k5 : namedTie Try.prog c.named s.vars = true) (k6 : (c.stops == []) = true) (k8 : (c.knobs == []) = true)
    (k10 : (c.inPlace == Try.prog.inPlace f) = true) (k11 : (c.unfollowed == Try.prog.unfollowed f) = true) (k12 : (c.recurses == Try.prog.recurses f) = true) (k13 : (c.named == Try.prog.varsNamed f) = true)
    (k14 : (c.maps == (fn.params.toList ++ s.plain.varTypes Try.prog).any (Try.prog.mapsRec ·)) = true) (k15 : (c.ifaces == (fn.params.toList ++ s.plain.varTypes Try.prog).any (Try.prog.ifacesRec ·)) = true) (k16 : (c.mapsOut == Try.prog.mapsAmong fn.resultTypes.toList) = true)
    (k17 : (c.loops == (fn.params.toList ++ s.plain.varTypes Try.prog).any (Try.prog.loopsFrom ·)) = true) (k17b : (c.wideKeys == (fn.params.toList ++ s.plain.varTypes Try.prog ++ fn.resultTypes.toList).any (Try.prog.wideKeysFrom ·)) = true)
    (k18 : s.vars.all (Try.prog.varReadable ·) = true) (k19 : fn.resultTypes.all (fun t => Try.prog.readableRec t && decide (t < Try.prog.types.size)) = true) (k20 : (c.ifacesOut == fn.resultTypes.toList.any (Try.prog.ifacesRec ·)) = true) (k21 : (c.loopsOut == fn.resultTypes.toList.any (Try.prog.loopsFrom ·)) = true)
    (k22 : c.plainKeys = true) (k23 : c.shortTexts.isNone = true) (k24b : c.lifted = false) (k24c : c.make = .cut)
    (k25 : (c.kinds == (if c.domain.isEmpty then [] else fn.params.toList.map fun t => match Try.prog.underlying t with | some (.int k) => some k | _ => none)) = true) (k26 : (c.pinned == c.pinnedBy) = true)
    (k27 : (c.veiled == (fn.params.toList ++ s.plain.varTypes Try.prog ++ fn.resultTypes.toList).any (Try.prog.veiledRec ·)) = true) (k28 : c.veiledFits Try.prog fn.params.toList (fn.params.toList ++ s.plain.varTypes Try.prog ++ fn.resultTypes.toList) = true) :
    joinedFacts Try.prog f fn s c = true := by
  have e22 : (c.plainKeys == Try.prog.plainKeys) = true := by rw [k22, c_keys]; rfl
  have e24b : (c.lifted == Try.prog.liftsFinal) = true := by rw [k24b, c_lifts]; rfl
  have e24c : (Try.prog.make == some c.make) = true := by rw [k24c, c_make]; rfl
  unfold joinedFacts
  exact both (both (both (both (both (both (both (both (both (both (both (both (both (both (both (both (both (both (both (both (both (both (both (both (both (both (both (both (both (both (both k1 c_laid) c_maps) k4) k5) k6) c_stops) k8) c_knobs) k10) k11) k12) k13) k14) k15) k16) k17) k17b) k18) k19) k20) k21) e22) k23) c_heard) c_enter) e24b) e24c) k25) k26) k27) k28
end Go.Proofs.Ytdghbcjlahjjdaa
