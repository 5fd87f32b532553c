/-
  What the frame asks of the whole program, once for all statements of the seat: the word on how it was cut is laid out as numbers first, so that the kernel need not take a long text apart. Plain facts: a list of texts whose blocks lie in a stretch, and worlds that are the same outside of it. No program is named here.
-/
import Derived.Test.YtpolekinfobecaaGreatRows
import Derived.WalkKit
import Derived.ProofKit
import Derived.JoinedOf
import Derived.Test.YtpolekinfobecaaGreatCacheNamesG01
namespace Go.Proofs.YtpolekinfobecaaGreat

/-- The word that tells that the program is a cut. -/
def cutWord : List Char := [Char.ofNat 99, Char.ofNat 117, Char.ofNat 116]
theorem cut_gc : (cutWord == "gc".toList) = false := by kernel_rfl
theorem cut_spec : (cutWord == "spec".toList) = false := by kernel_rfl
theorem cut_carried : (cutWord == "carried".toList) = false := by kernel_rfl
theorem cut_cut : (cutWord == "cut".toList) = true := by kernel_rfl
theorem head_cut (W : List (List Char)) : (List.head? (cutWord :: W) == some "cut".toList) = true := by kernel_rfl
theorem head_carried (W : List (List Char)) : (List.head? (cutWord :: W) == some "carried".toList) = false := by kernel_rfl
theorem strip_cut (W : List (List Char)) : stripLifts liftWords (cutWord :: W) = ([], cutWord :: W) := by kernel_rfl

theorem enter_of {P : Program} {l : List Char} {W : List (List Char)} (h : P.initOrder.toList = l) (hw : behindMainWord (wordsSigns l) = cutWord :: W) (h1 : P.laysLater = false) (h2 : P.bearsReflect = false) (h3 : P.doorFits [] = true) : P.mayEnter = true := by
 unfold Program.mayEnter
 rw [h, hw]
 simp only [strip_cut, h1, h2, h3, cut_gc, cut_spec, cut_carried, head_cut]
 rfl
theorem lifts_of {P : Program} {l : List Char} {W : List (List Char)} (h : P.initOrder.toList = l) (hw : behindMainWord (wordsSigns l) = cutWord :: W) : P.liftsFinal = false := by
 unfold Program.liftsFinal Program.headLifts
 rw [h, hw]
 simp only [strip_cut, head_carried, head_cut]
 rfl
theorem make_of {P : Program} {l : List Char} {W : List (List Char)} (h : P.initOrder.toList = l) (hw : behindMainWord (wordsSigns l) = cutWord :: W) : P.make = some .cut := by
 unfold Program.make
 rw [h, hw]
 simp only [cut_gc, cut_spec, cut_cut]
 rfl

def initA : List Char := [104, 97, 114, 110, 101, 115, 115, 32, 52, 48, 98, 101, 57, 97, 57, 101, 55, 53, 97, 101, 102, 97, 51, 97, 53, 49, 50, 102, 54, 53, 48, 54, 98, 49, 54, 54, 56, 54, 52, 52, 51, 54, 50, 52, 102, 52, 51, 57, 48, 57, 53, 100, 99, 102, 48, 50, 54, 101, 56, 50, 99, 57, 54, 53, 48, 56, 55, 101, 97, 48, 50, 97, 32, 99, 117, 116, 32].map Char.ofNat
def initB : List Char := [97, 116, 32, 108, 111, 111, 112, 46, 101, 120, 97, 109, 112, 108, 101, 47, 103, 48, 48, 52, 50, 50, 47, 108, 97, 119, 115, 46, 70, 110, 69, 120, 97, 99, 116, 67, 97, 99, 104, 101, 79, 107, 32, 108, 111, 111, 112, 46, 101, 120, 97, 109, 112, 108, 101, 47, 103, 48, 48, 52, 50, 50, 47, 108, 97, 119, 115, 46, 70, 110, 69, 120, 97, 99, 116, 67, 97, 99, 104, 101, 84, 105, 99, 107, 32, 108, 111, 111, 112, 46, 101, 120, 97, 109, 112, 108, 101, 47, 103, 48, 48, 52, 50, 50, 47, 108, 97, 119, 115, 46, 70, 110, 69, 120, 97, 99, 116, 67, 97, 99, 104, 101, 78, 97, 109, 101, 115].map Char.ofNat
theorem init_text : Tryz.prog.initOrder = String.ofList (initA ++ initB) := by kernel_rfl
theorem init_list : Tryz.prog.initOrder.toList = initA ++ initB := by rw [init_text, String.toList_ofList]
theorem words (R : List Char) : behindMainWord (wordsSigns (initA ++ R)) = cutWord :: wordsSigns R := by kernel_rfl
theorem c_laid : laidOutB Tryz.prog = true := by kernel_rfl
theorem c_maps : mapsRowed Tryz.prog = true := by kernel_rfl
theorem c_stops : (Tryz.prog.stops == []) = true := by kernel_rfl
theorem c_knobs : (Tryz.prog.stopKnobs == []) = true := by kernel_rfl
theorem c_heard : Tryz.prog.stopsHeard = true := by kernel_rfl
theorem c_later : Tryz.prog.laysLater = false := by kernel_rfl
theorem c_reflect : Tryz.prog.bearsReflect = false := by kernel_rfl
theorem c_door : Tryz.prog.doorFits [] = true := by kernel_rfl
theorem c_keys : Tryz.prog.plainKeys = true := by kernel_rfl
theorem c_enter : Tryz.prog.mayEnter = true := enter_of init_list (words initB) c_later c_reflect c_door
theorem c_lifts : Tryz.prog.liftsFinal = false := lifts_of init_list (words initB)
theorem c_make : Tryz.prog.make = some .cut := make_of init_list (words initB)

theorem both {a b : Bool} (h : a = true) (k : b = true) : (a && b) = true := by rw [h, k]; rfl

set_option maxRecDepth 100000 in
/-- The frame's facts, the program's own ones taken from above. -/
theorem closed_of {f : FuncId} {fn : Func} {s : ChangeSpec} {c : OpenClaim} (k1 : c.wf (OpenSpec.ofChange s) = true) (k4 : fn.params.all (Tryz.prog.readableRec ·) = true) (k5 : namedTie Tryz.prog c.named s.vars = true) (k6 : (c.stops == []) = true) (k8 : (c.knobs == []) = true)
  (k10 : (c.inPlace == Tryz.prog.inPlace f) = true) (k11 : (c.unfollowed == Tryz.prog.unfollowed f) = true) (k12 : (c.recurses == Tryz.prog.recurses f) = true) (k13 : (c.named == Tryz.prog.varsNamed f) = true)
  (k14 : (c.maps == (fn.params.toList ++ s.plain.varTypes Tryz.prog).any (Tryz.prog.mapsRec ·)) = true) (k15 : (c.ifaces == (fn.params.toList ++ s.plain.varTypes Tryz.prog).any (Tryz.prog.ifacesRec ·)) = true) (k16 : (c.mapsOut == Tryz.prog.mapsAmong fn.resultTypes.toList) = true)
  (k17 : (c.loops == (fn.params.toList ++ s.plain.varTypes Tryz.prog).any (Tryz.prog.loopsFrom ·)) = true) (k17b : (c.wideKeys == (fn.params.toList ++ s.plain.varTypes Tryz.prog ++ fn.resultTypes.toList).any (Tryz.prog.wideKeysFrom ·)) = true)
  (k18 : s.vars.all (Tryz.prog.varReadable ·) = true) (k19 : fn.resultTypes.all (fun t => Tryz.prog.readableRec t && decide (t < Tryz.prog.types.size)) = true) (k20 : (c.ifacesOut == fn.resultTypes.toList.any (Tryz.prog.ifacesRec ·)) = true) (k21 : (c.loopsOut == fn.resultTypes.toList.any (Tryz.prog.loopsFrom ·)) = true)
  (k22 : c.plainKeys = true) (k23 : c.shortTexts.isNone = true) (k24b : c.lifted = false) (k24c : c.make = .cut)
  (k25 : (c.kinds == (if c.domain.isEmpty then [] else fn.params.toList.map fun t => match Tryz.prog.underlying t with | some (.int k) => some k | _ => none)) = true) (k26 : (c.pinned == c.pinnedBy) = true)
  (k27 : (c.veiled == (fn.params.toList ++ s.plain.varTypes Tryz.prog ++ fn.resultTypes.toList).any (Tryz.prog.veiledRec ·)) = true) (k28 : c.veiledFits Tryz.prog fn.params.toList (fn.params.toList ++ s.plain.varTypes Tryz.prog ++ fn.resultTypes.toList) = true) :
  joinedFacts Tryz.prog f fn s c = true := by
 have e22 : (c.plainKeys == Tryz.prog.plainKeys) = true := by rw [k22, c_keys]; rfl
 have e24b : (c.lifted == Tryz.prog.liftsFinal) = true := by rw [k24b, c_lifts]; rfl
 have e24c : (Tryz.prog.make == some c.make) = true := by rw [k24c, c_make]; rfl
 unfold joinedFacts
 exact both (both (both (both (both (both (both (both (both (both (both (both (both (both (both (both (both (both (both (both (both (both (both (both (both (both (both (both (both (both (both k1 c_laid) c_maps) k4) k5) k6) c_stops) k8) c_knobs) k10) k11) k12) k13) k14) k15) k16) k17) k17b) k18) k19) k20) k21) e22) k23) c_heard) c_enter) e24b) e24c) k25) k26) k27) k28
end Go.Proofs.YtpolekinfobecaaGreat

namespace Go.Proofs.YtpolekinfobecaaGreat
open Go.RowKit

/-- Outside of the blocks B .. E - 1 nothing old has turned. -/
structure Outside (B E : Nat) (w w' : World) : Prop where
 os : w'.os = w.os
 tape : w'.tape = w.tape
 output : w'.output = w.output
 size : w.heap.size ≤ w'.heap.size
 block : ∀ k, k < w.heap.size → (k < B ∨ E ≤ k) → w'.heap[k]? = w.heap[k]?

theorem Outside.refl (B E : Nat) (w : World) : Outside B E w w := ⟨rfl, rfl, rfl, Nat.le_refl _, fun _ _ _ => rfl⟩
theorem Outside.trans {B E : Nat} {a b c : World} (h : Outside B E a b) (k : Outside B E b c) : Outside B E a c :=
 ⟨k.os.trans h.os, k.tape.trans h.tape, k.output.trans h.output, Nat.le_trans h.size k.size, fun i hi hn => (k.block i (Nat.lt_of_lt_of_le hi h.size) hn).trans (h.block i hi hn)⟩
theorem Below.outside {B E : Nat} {w w' : World} (h : Below w.heap.size w w') : Outside B E w w' := ⟨h.os, h.tape, h.output, h.size, fun k hk _ => h.block k hk⟩
theorem outside_grown {B E : Nat} {w w' : World} {row : Option Nat} (h : w.grownBy w' row) (hr : ∀ k, row = some k → B ≤ k ∧ k < E) : Outside B E w w' :=
 ⟨h.os, h.tape, h.output, h.size, fun k hk hn => h.block k hk (fun e => by have := hr k e.symm; omega)⟩
theorem Outside.below {B E : Nat} {a w w' : World} (h : Outside B E w w') (hb : Below a.heap.size a w) (hB : a.heap.size ≤ B) : Below a.heap.size a w' :=
 ⟨h.os.trans hb.os, h.tape.trans hb.tape, h.output.trans hb.output, Nat.le_trans hb.size h.size, fun k hk => (h.block k (Nat.lt_of_lt_of_le hk hb.size) (.inl (by omega))).trans (hb.block k hk)⟩
theorem Outside.kept {B E b : Nat} {w w' : World} {o : Obj} (h : Outside B E w w') (hk : w.heap[b]? = some o) (hn : b < B ∨ E ≤ b) : w'.heap[b]? = some o := (h.block b (block_lt hk) hn).trans hk

/-- A slice of bytes whose block lies ahead of a stretch, or behind it. -/
def HasAt (A : Nat) (w : World) (v : Value) (l : List Int) : Prop :=
 (v = .slice none 0 0 ∧ l = []) ∨ ∃ g off cap, v = .slice (some ⟨g, off, none⟩) l.length cap ∧ g < w.heap.size ∧ g < A ∧ l.length ≤ cap ∧ cap ≤ maxLen ∧ ∀ i, i < l.length → w.cell? ⟨g, off + i, none⟩ = some (.int .u8 (l.getD i 0))

theorem Has.at {w : World} {v : Value} {l : List Int} (h : Has w v l) : HasAt w.heap.size w v l := by
 rcases h with h | ⟨g, off, cap, hv, hlt, hl, hm, hc⟩
 ·exact .inl h
 ·exact .inr ⟨g, off, cap, hv, hlt, hlt, hl, hm, hc⟩
theorem HasAt.has {A : Nat} {w : World} {v : Value} {l : List Int} (h : HasAt A w v l) : Has w v l := by
 rcases h with h | ⟨g, off, cap, hv, hlt, _, hl, hm, hc⟩
 ·exact .inl h
 ·exact .inr ⟨g, off, cap, hv, hlt, hl, hm, hc⟩
theorem HasAt.outside {A B E : Nat} {w w' : World} {v : Value} {l : List Int} (h : HasAt A w v l) (ho : Outside B E w w') (hA : A ≤ B) : HasAt A w' v l := by
 rcases h with h | ⟨g, off, cap, hv, hlt, hA', hl, hm, hc⟩
 ·exact .inl h
 ·refine .inr ⟨g, off, cap, hv, Nat.lt_of_lt_of_le hlt ho.size, hA', hl, hm, fun i hi => ?_⟩
  rw [World.cell?_of_block (ho.block g hlt (.inl (by omega)))]
  exact hc i hi
theorem HasAt.below {A : Nat} {w w' : World} {v : Value} {l : List Int} (h : HasAt A w v l) (hb : Below w.heap.size w w') : HasAt A w' v l := by
 rcases h with h | ⟨g, off, cap, hv, hlt, hA', hl, hm, hc⟩
 ·exact .inl h
 ·exact .inr ⟨g, off, cap, hv, Nat.lt_of_lt_of_le hlt hb.size, hA', hl, hm, fun i hi => (hb.cell (p := ⟨g, off + i, none⟩) hlt).trans (hc i hi)⟩

theorem Own.outside {B C E : Nat} {e : TypeId} {w w' : World} {v : Value} {l : List Int} (h : Own C e w v l) (ho : Outside B E w w') (hE : E ≤ C) : Own C e w' v l := by
 refine ⟨h.1, ?_⟩
 have h' := h
 rcases h.2 with hn | ⟨g, cap, cur, hv, hb, hg, rest⟩
 ·exact .inl hn
 ·refine .inr ⟨g, cap, cur, hv, hb, ?_, rest⟩
  rw [ho.block g (h'.lt g (by rw [hv]; rfl)).2 (.inr (by omega))]
  exact hg

/-- As OwnL, every block ahead of E. -/
def OwnN (B E : Nat) (el eb : TypeId) (w : World) (v : Value) (n : List (List Int)) : Prop :=
 ∃ vs : List Value, w.ownsRow B el 1 v n.length vs ∧ (∀ i, i < n.length → ∃ u, vs[i]? = some u ∧ Own B eb w u (n.getD i [])) ∧
  (∀ (i j : Nat) (u u' : Value), i < j → vs[i]? = some u → vs[j]? = some u' → u.ownBlock = none ∨ u.ownBlock ≠ u'.ownBlock) ∧
  (∀ q, v.ownBlock = some q → q < E) ∧ ∀ (i : Nat) (u : Value) (q : Nat), vs[i]? = some u → u.ownBlock = some q → q < E

theorem OwnL.here {B : Nat} {el eb : TypeId} {w : World} {v : Value} {n : List (List Int)} (h : OwnL B el eb w v n) : OwnN B w.heap.size el eb w v n := by
 obtain ⟨vs, ho, hu, hd⟩ := h
 refine ⟨vs, ho, hu, hd, fun q hq => (World.ownsRow.lt ho q hq).2, fun i u q hi hq => ?_⟩
 have hl : vs.length = n.length := by have := ho.1; simpa using this
 have hi' : i < n.length := by rw [← hl]; exact (List.getElem?_eq_some_iff.1 hi).1
 obtain ⟨u', h1, h2⟩ := hu i hi'
 rw [hi] at h1
 obtain rfl : u = u' := by simpa using h1
 exact (h2.lt q hq).2
theorem OwnN.ownL {B E : Nat} {el eb : TypeId} {w : World} {v : Value} {n : List (List Int)} (h : OwnN B E el eb w v n) : OwnL B el eb w v n := by
 obtain ⟨vs, ho, hu, hd, _⟩ := h
 exact ⟨vs, ho, hu, hd⟩
theorem OwnN.below {B E : Nat} {el eb : TypeId} {w w' : World} {v : Value} {n : List (List Int)} (h : OwnN B E el eb w v n) (hb : Below w.heap.size w w') : OwnN B E el eb w' v n := by
 obtain ⟨vs, ho, hu, hd, hv, he⟩ := h
 obtain ⟨_, _, _, _⟩ := OwnL.below ⟨vs, ho, hu, hd⟩ hb
 refine ⟨vs, World.ownsRow.kept ho (grown_of_below hb) ?_, fun i hi => ?_, hd, hv, he⟩
 ·cases hv : v.ownBlock with
  | none => exact .inl rfl
  | some k => exact .inr (by simp)
 ·obtain ⟨u, h1, h2⟩ := hu i hi
  exact ⟨u, h1, h2.below hb⟩

/-- How many bytes the first j texts have, behind k. -/
def pos (n : List (List Int)) (k : Int) (j : Nat) : Int := k + (((n.take j).map List.length).sum : Nat)
theorem pos_zero (n : List (List Int)) (k : Int) : pos n k 0 = k := by simp [pos]
theorem pos_succ (n : List (List Int)) (k : Int) (j : Nat) (h : j < n.length) : pos n k (j + 1) = pos n k j + ((n.getD j []).length : Nat) := by
 unfold pos
 rw [List.take_succ_eq_append_getElem h, List.map_append, List.sum_append, show n.getD j [] = n[j] by simp [h]]
 simp only [List.map_cons, List.map_nil, List.sum_cons, List.sum_nil]
 omega
theorem pos_le (n : List (List Int)) (k : Int) (M : Nat) (h : ∀ i, i < n.length → (n.getD i []).length ≤ M) (j : Nat) (hj : j ≤ n.length) : k ≤ pos n k j ∧ pos n k j ≤ k + (j * M : Nat) := by
 induction j with
 | zero => rw [pos_zero]; simp
 | succ j ih =>
  rw [pos_succ n k j (by omega)]
  have := ih (by omega)
  have := h j (by omega)
  rw [Nat.succ_mul]
  omega

/-- The texts, written over by the numbers from k on. -/
def markL (n : List (List Int)) (k : Int) : List (List Int) := (List.range n.length).map fun j => marks (pos n k j) (n.getD j []).length
theorem markL_length (n : List (List Int)) (k : Int) : (markL n k).length = n.length := by simp [markL]
theorem markL_getD (n : List (List Int)) (k : Int) (j : Nat) (h : j < n.length) : (markL n k).getD j [] = marks (pos n k j) (n.getD j []).length := by simp [markL, h]
end Go.Proofs.YtpolekinfobecaaGreat
