/-
  What the frame asks of the whole program, once for all statements of the seat: the word on how it was cut is laid out as numbers first, so that the kernel need not take a long text apart. Plain facts: a list of texts whose blocks lie in a stretch, and worlds that are the same outside of it. No program is named here. Plain facts: a name's bytes, label by label; slices of bytes that lie ahead of a block. No program is named here. Plain facts: what is owned in a stretch of blocks stays as it is where a walk writes into another stretch. No program is named here.
-/
import Derived.Test.YtfbfakdkemlbmaaGreatRows
import Derived.WalkKit
import Derived.ProofKit
import Derived.JoinedOf
import Derived.Test.YtfbfakdkemlbmaaGreatTxnBytesG00
namespace Go.Proofs.YtfbfakdkemlbmaaGreat

/-- The word that tells that the program is a cut. -/
def cutWord : List Char := [Char.ofNat 99, Char.ofNat 117, Char.ofNat 116]
theorem cut_gc : (cutWord == "gc".toList) = false := by kernel_rfl
theorem cut_spec : (cutWord == "spec".toList) = false := by kernel_rfl
theorem cut_carried : (cutWord == "carried".toList) = false := by kernel_rfl
theorem cut_cut : (cutWord == "cut".toList) = true := by kernel_rfl
theorem head_cut (W : List (List Char)) : (List.head? (cutWord :: W) == some "cut".toList) = true := by kernel_rfl
theorem head_carried (W : List (List Char)) : (List.head? (cutWord :: W) == some "carried".toList) = false := by kernel_rfl
theorem strip_cut (W : List (List Char)) : stripLifts liftWords (cutWord :: W) = ([], cutWord :: W) := by kernel_rfl

theorem enter_of {P : Program} {l : List Char} {W : List (List Char)} (h : P.initOrder.toList = l) (hw : behindMainWord (wordsSigns l) = cutWord :: W) (h1 : P.laysLater = false) (h2 : P.bearsReflect = false) (h3 : P.doorFits [] = true) : P.mayEnter = true := by
 unfold Program.mayEnter
 rw [h, hw]
 simp only [strip_cut, h1, h2, h3, cut_gc, cut_spec, cut_carried, head_cut]
 rfl
theorem lifts_of {P : Program} {l : List Char} {W : List (List Char)} (h : P.initOrder.toList = l) (hw : behindMainWord (wordsSigns l) = cutWord :: W) : P.liftsFinal = false := by
 unfold Program.liftsFinal Program.headLifts
 rw [h, hw]
 simp only [strip_cut, head_carried, head_cut]
 rfl
theorem make_of {P : Program} {l : List Char} {W : List (List Char)} (h : P.initOrder.toList = l) (hw : behindMainWord (wordsSigns l) = cutWord :: W) : P.make = some .cut := by
 unfold Program.make
 rw [h, hw]
 simp only [cut_gc, cut_spec, cut_cut]
 rfl

def initA : List Char := [104, 97, 114, 110, 101, 115, 115, 32, 57, 102, 99, 97, 48, 97, 57, 50, 52, 98, 52, 56, 102, 54, 49, 57, 51, 53, 51, 48, 99, 49, 54, 55, 52, 100, 53, 100, 54, 49, 97, 54, 53, 52, 53, 56, 101, 99, 53, 102, 97, 97, 52, 99, 53, 53, 49, 98, 97, 54, 102, 54, 56, 99, 49, 98, 56, 57, 97, 100, 57, 101, 49, 48, 32, 99, 117, 116, 32].map Char.ofNat
def initB : List Char := [97, 116, 32, 108, 111, 111, 112, 46, 101, 120, 97, 109, 112, 108, 101, 47, 103, 48, 48, 52, 50, 50, 47, 108, 97, 119, 115, 46, 70, 110, 69, 120, 97, 99, 116, 84, 120, 110, 66, 121, 116, 101, 115].map Char.ofNat
theorem init_text : Tryz.prog.initOrder = String.ofList (initA ++ initB) := by kernel_rfl
theorem init_list : Tryz.prog.initOrder.toList = initA ++ initB := by rw [init_text, String.toList_ofList]
theorem words (R : List Char) : behindMainWord (wordsSigns (initA ++ R)) = cutWord :: wordsSigns R := by kernel_rfl
theorem c_laid : laidOutB Tryz.prog = true := by kernel_rfl
theorem c_maps : mapsRowed Tryz.prog = true := by kernel_rfl
theorem c_stops : (Tryz.prog.stops == []) = true := by kernel_rfl
theorem c_knobs : (Tryz.prog.stopKnobs == []) = true := by kernel_rfl
theorem c_heard : Tryz.prog.stopsHeard = true := by kernel_rfl
theorem c_later : Tryz.prog.laysLater = false := by kernel_rfl
theorem c_reflect : Tryz.prog.bearsReflect = false := by kernel_rfl
theorem c_door : Tryz.prog.doorFits [] = true := by kernel_rfl
theorem c_keys : Tryz.prog.plainKeys = true := by kernel_rfl
theorem c_enter : Tryz.prog.mayEnter = true := enter_of init_list (words initB) c_later c_reflect c_door
theorem c_lifts : Tryz.prog.liftsFinal = false := lifts_of init_list (words initB)
theorem c_make : Tryz.prog.make = some .cut := make_of init_list (words initB)

theorem both {a b : Bool} (h : a = true) (k : b = true) : (a && b) = true := by rw [h, k]; rfl

set_option maxRecDepth 100000 in
/-- The frame's facts, the program's own ones taken from above. -/
theorem closed_of {f : FuncId} {fn : Func} {s : ChangeSpec} {c : OpenClaim} (k1 : c.wf (OpenSpec.ofChange s) = true) (k4 : fn.params.all (Tryz.prog.readableRec ·) = true) (k5 : namedTie Tryz.prog c.named s.vars = true) (k6 : (c.stops == []) = true) (k8 : (c.knobs == []) = true)
  (k10 : (c.inPlace == Tryz.prog.inPlace f) = true) (k11 : (c.unfollowed == Tryz.prog.unfollowed f) = true) (k12 : (c.recurses == Tryz.prog.recurses f) = true) (k13 : (c.named == Tryz.prog.varsNamed f) = true)
  (k14 : (c.maps == (fn.params.toList ++ s.plain.varTypes Tryz.prog).any (Tryz.prog.mapsRec ·)) = true) (k15 : (c.ifaces == (fn.params.toList ++ s.plain.varTypes Tryz.prog).any (Tryz.prog.ifacesRec ·)) = true) (k16 : (c.mapsOut == Tryz.prog.mapsAmong fn.resultTypes.toList) = true)
  (k17 : (c.loops == (fn.params.toList ++ s.plain.varTypes Tryz.prog).any (Tryz.prog.loopsFrom ·)) = true) (k17b : (c.wideKeys == (fn.params.toList ++ s.plain.varTypes Tryz.prog ++ fn.resultTypes.toList).any (Tryz.prog.wideKeysFrom ·)) = true)
  (k18 : s.vars.all (Tryz.prog.varReadable ·) = true) (k19 : fn.resultTypes.all (fun t => Tryz.prog.readableRec t && decide (t < Tryz.prog.types.size)) = true) (k20 : (c.ifacesOut == fn.resultTypes.toList.any (Tryz.prog.ifacesRec ·)) = true) (k21 : (c.loopsOut == fn.resultTypes.toList.any (Tryz.prog.loopsFrom ·)) = true)
  (k22 : c.plainKeys = true) (k23 : c.shortTexts.isNone = true) (k24b : c.lifted = false) (k24c : c.make = .cut)
  (k25 : (c.kinds == (if c.domain.isEmpty then [] else fn.params.toList.map fun t => match Tryz.prog.underlying t with | some (.int k) => some k | _ => none)) = true) (k26 : (c.pinned == c.pinnedBy) = true)
  (k27 : (c.veiled == (fn.params.toList ++ s.plain.varTypes Tryz.prog ++ fn.resultTypes.toList).any (Tryz.prog.veiledRec ·)) = true) (k28 : c.veiledFits Tryz.prog fn.params.toList (fn.params.toList ++ s.plain.varTypes Tryz.prog ++ fn.resultTypes.toList) = true) :
  joinedFacts Tryz.prog f fn s c = true := by
 have e22 : (c.plainKeys == Tryz.prog.plainKeys) = true := by rw [k22, c_keys]; rfl
 have e24b : (c.lifted == Tryz.prog.liftsFinal) = true := by rw [k24b, c_lifts]; rfl
 have e24c : (Tryz.prog.make == some c.make) = true := by rw [k24c, c_make]; rfl
 unfold joinedFacts
 exact both (both (both (both (both (both (both (both (both (both (both (both (both (both (both (both (both (both (both (both (both (both (both (both (both (both (both (both (both (both (both k1 c_laid) c_maps) k4) k5) k6) c_stops) k8) c_knobs) k10) k11) k12) k13) k14) k15) k16) k17) k17b) k18) k19) k20) k21) e22) k23) c_heard) c_enter) e24b) e24c) k25) k26) k27) k28
end Go.Proofs.YtfbfakdkemlbmaaGreat

namespace Go.Proofs.YtfbfakdkemlbmaaGreat
open Go.RowKit

/-- Outside of the blocks B .. E - 1 nothing old has turned. -/
structure Outside (B E : Nat) (w w' : World) : Prop where
 os : w'.os = w.os
 tape : w'.tape = w.tape
 output : w'.output = w.output
 size : w.heap.size ≤ w'.heap.size
 block : ∀ k, k < w.heap.size → (k < B ∨ E ≤ k) → w'.heap[k]? = w.heap[k]?

theorem Outside.refl (B E : Nat) (w : World) : Outside B E w w := ⟨rfl, rfl, rfl, Nat.le_refl _, fun _ _ _ => rfl⟩
theorem Outside.trans {B E : Nat} {a b c : World} (h : Outside B E a b) (k : Outside B E b c) : Outside B E a c :=
 ⟨k.os.trans h.os, k.tape.trans h.tape, k.output.trans h.output, Nat.le_trans h.size k.size, fun i hi hn => (k.block i (Nat.lt_of_lt_of_le hi h.size) hn).trans (h.block i hi hn)⟩
theorem Below.outside {B E : Nat} {w w' : World} (h : Below w.heap.size w w') : Outside B E w w' := ⟨h.os, h.tape, h.output, h.size, fun k hk _ => h.block k hk⟩
theorem outside_grown {B E : Nat} {w w' : World} {row : Option Nat} (h : w.grownBy w' row) (hr : ∀ k, row = some k → B ≤ k ∧ k < E) : Outside B E w w' :=
 ⟨h.os, h.tape, h.output, h.size, fun k hk hn => h.block k hk (fun e => by have := hr k e.symm; omega)⟩
theorem Outside.below {B E : Nat} {a w w' : World} (h : Outside B E w w') (hb : Below a.heap.size a w) (hB : a.heap.size ≤ B) : Below a.heap.size a w' :=
 ⟨h.os.trans hb.os, h.tape.trans hb.tape, h.output.trans hb.output, Nat.le_trans hb.size h.size, fun k hk => (h.block k (Nat.lt_of_lt_of_le hk hb.size) (.inl (by omega))).trans (hb.block k hk)⟩
theorem Outside.kept {B E b : Nat} {w w' : World} {o : Obj} (h : Outside B E w w') (hk : w.heap[b]? = some o) (hn : b < B ∨ E ≤ b) : w'.heap[b]? = some o := (h.block b (block_lt hk) hn).trans hk

/-- A slice of bytes whose block lies ahead of a stretch, or behind it. -/
def HasAt (A : Nat) (w : World) (v : Value) (l : List Int) : Prop :=
 (v = .slice none 0 0 ∧ l = []) ∨ ∃ g off cap, v = .slice (some ⟨g, off, none⟩) l.length cap ∧ g < w.heap.size ∧ g < A ∧ l.length ≤ cap ∧ cap ≤ maxLen ∧ ∀ i, i < l.length → w.cell? ⟨g, off + i, none⟩ = some (.int .u8 (l.getD i 0))

theorem Has.at {w : World} {v : Value} {l : List Int} (h : Has w v l) : HasAt w.heap.size w v l := by
 rcases h with h | ⟨g, off, cap, hv, hlt, hl, hm, hc⟩
 ·exact .inl h
 ·exact .inr ⟨g, off, cap, hv, hlt, hlt, hl, hm, hc⟩
theorem HasAt.has {A : Nat} {w : World} {v : Value} {l : List Int} (h : HasAt A w v l) : Has w v l := by
 rcases h with h | ⟨g, off, cap, hv, hlt, _, hl, hm, hc⟩
 ·exact .inl h
 ·exact .inr ⟨g, off, cap, hv, hlt, hl, hm, hc⟩
theorem HasAt.outside {A B E : Nat} {w w' : World} {v : Value} {l : List Int} (h : HasAt A w v l) (ho : Outside B E w w') (hA : A ≤ B) : HasAt A w' v l := by
 rcases h with h | ⟨g, off, cap, hv, hlt, hA', hl, hm, hc⟩
 ·exact .inl h
 ·refine .inr ⟨g, off, cap, hv, Nat.lt_of_lt_of_le hlt ho.size, hA', hl, hm, fun i hi => ?_⟩
  rw [World.cell?_of_block (ho.block g hlt (.inl (by omega)))]
  exact hc i hi
theorem HasAt.below {A : Nat} {w w' : World} {v : Value} {l : List Int} (h : HasAt A w v l) (hb : Below w.heap.size w w') : HasAt A w' v l := by
 rcases h with h | ⟨g, off, cap, hv, hlt, hA', hl, hm, hc⟩
 ·exact .inl h
 ·exact .inr ⟨g, off, cap, hv, Nat.lt_of_lt_of_le hlt hb.size, hA', hl, hm, fun i hi => (hb.cell (p := ⟨g, off + i, none⟩) hlt).trans (hc i hi)⟩

theorem Own.outside {B C E : Nat} {e : TypeId} {w w' : World} {v : Value} {l : List Int} (h : Own C e w v l) (ho : Outside B E w w') (hE : E ≤ C) : Own C e w' v l := by
 refine ⟨h.1, ?_⟩
 have h' := h
 rcases h.2 with hn | ⟨g, cap, cur, hv, hb, hg, rest⟩
 ·exact .inl hn
 ·refine .inr ⟨g, cap, cur, hv, hb, ?_, rest⟩
  rw [ho.block g (h'.lt g (by rw [hv]; rfl)).2 (.inr (by omega))]
  exact hg

/-- As OwnL, every block ahead of E. -/
def OwnN (B E : Nat) (el eb : TypeId) (w : World) (v : Value) (n : List (List Int)) : Prop :=
 ∃ vs : List Value, w.ownsRow B el 1 v n.length vs ∧ (∀ i, i < n.length → ∃ u, vs[i]? = some u ∧ Own B eb w u (n.getD i [])) ∧
  (∀ (i j : Nat) (u u' : Value), i < j → vs[i]? = some u → vs[j]? = some u' → u.ownBlock = none ∨ u.ownBlock ≠ u'.ownBlock) ∧
  (∀ q, v.ownBlock = some q → q < E) ∧ ∀ (i : Nat) (u : Value) (q : Nat), vs[i]? = some u → u.ownBlock = some q → q < E

theorem OwnL.here {B : Nat} {el eb : TypeId} {w : World} {v : Value} {n : List (List Int)} (h : OwnL B el eb w v n) : OwnN B w.heap.size el eb w v n := by
 obtain ⟨vs, ho, hu, hd⟩ := h
 refine ⟨vs, ho, hu, hd, fun q hq => (World.ownsRow.lt ho q hq).2, fun i u q hi hq => ?_⟩
 have hl : vs.length = n.length := by have := ho.1; simpa using this
 have hi' : i < n.length := by rw [← hl]; exact (List.getElem?_eq_some_iff.1 hi).1
 obtain ⟨u', h1, h2⟩ := hu i hi'
 rw [hi] at h1
 obtain rfl : u = u' := by simpa using h1
 exact (h2.lt q hq).2
theorem OwnN.ownL {B E : Nat} {el eb : TypeId} {w : World} {v : Value} {n : List (List Int)} (h : OwnN B E el eb w v n) : OwnL B el eb w v n := by
 obtain ⟨vs, ho, hu, hd, _⟩ := h
 exact ⟨vs, ho, hu, hd⟩
theorem OwnN.below {B E : Nat} {el eb : TypeId} {w w' : World} {v : Value} {n : List (List Int)} (h : OwnN B E el eb w v n) (hb : Below w.heap.size w w') : OwnN B E el eb w' v n := by
 obtain ⟨vs, ho, hu, hd, hv, he⟩ := h
 obtain ⟨_, _, _, _⟩ := OwnL.below ⟨vs, ho, hu, hd⟩ hb
 refine ⟨vs, World.ownsRow.kept ho (grown_of_below hb) ?_, fun i hi => ?_, hd, hv, he⟩
 ·cases hv : v.ownBlock with
  | none => exact .inl rfl
  | some k => exact .inr (by simp)
 ·obtain ⟨u, h1, h2⟩ := hu i hi
  exact ⟨u, h1, h2.below hb⟩

/-- How many bytes the first j texts have, behind k. -/
def pos (n : List (List Int)) (k : Int) (j : Nat) : Int := k + (((n.take j).map List.length).sum : Nat)
theorem pos_zero (n : List (List Int)) (k : Int) : pos n k 0 = k := by simp [pos]
theorem pos_succ (n : List (List Int)) (k : Int) (j : Nat) (h : j < n.length) : pos n k (j + 1) = pos n k j + ((n.getD j []).length : Nat) := by
 unfold pos
 rw [List.take_succ_eq_append_getElem h, List.map_append, List.sum_append, show n.getD j [] = n[j] by simp [h]]
 simp only [List.map_cons, List.map_nil, List.sum_cons, List.sum_nil]
 omega
theorem pos_le (n : List (List Int)) (k : Int) (M : Nat) (h : ∀ i, i < n.length → (n.getD i []).length ≤ M) (j : Nat) (hj : j ≤ n.length) : k ≤ pos n k j ∧ pos n k j ≤ k + (j * M : Nat) := by
 induction j with
 | zero => rw [pos_zero]; simp
 | succ j ih =>
  rw [pos_succ n k j (by omega)]
  have := ih (by omega)
  have := h j (by omega)
  rw [Nat.succ_mul]
  omega

/-- The texts, written over by the numbers from k on. -/
def markL (n : List (List Int)) (k : Int) : List (List Int) := (List.range n.length).map fun j => marks (pos n k j) (n.getD j []).length
theorem markL_length (n : List (List Int)) (k : Int) : (markL n k).length = n.length := by simp [markL]
theorem markL_getD (n : List (List Int)) (k : Int) (j : Nat) (h : j < n.length) : (markL n k).getD j [] = marks (pos n k j) (n.getD j []).length := by simp [markL, h]
end Go.Proofs.YtfbfakdkemlbmaaGreat

namespace Go.Proofs.YtfbfakdkemlbmaaGreat
open Go.RowKit

/-- The first k labels, a byte with how many it has ahead of each. -/
def wires (n : List (List Int)) (k : Nat) : List Int := ((n.take k).map (fun l => (l.length : Int) :: l)).flatten

theorem wires_zero (n : List (List Int)) : wires n 0 = [] := by simp [wires]
theorem wires_succ (n : List (List Int)) (k : Nat) (h : k < n.length) : wires n (k + 1) = wires n k ++ (((n.getD k []).length : Int) :: n.getD k []) := by
 unfold wires
 rw [List.take_succ_eq_append_getElem h, List.map_append, List.flatten_append, show n.getD k [] = n[k] by simp [h]]
 simp only [List.map_cons, List.map_nil, List.flatten_cons, List.flatten_nil, List.append_nil]

theorem wires_length (n : List (List Int)) (h : nameOk n = true) (k : Nat) : (wires n k).length ≤ 16 * k := by
 induction k with
 | zero => simp [wires]
 | succ k ih =>
  by_cases hk : k < n.length
  ·rw [wires_succ n k hk]
   have := (labelOk_length ((nameOk_parts h).2 k hk)).2
   simp only [List.length_append, List.length_cons]
   omega
  ·have e : wires n (k + 1) = wires n k := by unfold wires; rw [List.take_of_length_le (by omega), List.take_of_length_le (by omega)]
   rw [e]; omega

/-- A name's bytes. -/
def wire (n : List (List Int)) : List Int := wires n n.length ++ [0]

theorem wire_length (n : List (List Int)) (h : nameOk n = true) : (wire n).length ≤ 97 := by
 unfold wire
 have := wires_length n h n.length
 have := (nameOk_parts h).1
 simp only [List.length_append, List.length_cons, List.length_nil]
 omega

/-- What NamePut answers: the bytes. -/
def namePut (l : List Int) (n : List (List Int)) : List Int := if nameOk n = true then l ++ wire n else []
theorem namePut_yes {l : List Int} {n : List (List Int)} (h : nameOk n = true) : namePut l n = l ++ wire n := by simp [namePut, h]
theorem namePut_no {l : List Int} {n : List (List Int)} (h : nameOk n = false) : namePut l n = [] := by simp [namePut, h]
theorem HasAt.low {A B : Nat} {w w' : World} {v : Value} {l : List Int} (h : HasAt A w v l) (hb : Below B w w') (hA : A ≤ B) : HasAt A w' v l := by
 rcases h with h | ⟨g, off, cap, hv, hlt, hA', hl, hm, hc⟩
 ·exact .inl h
 ·exact .inr ⟨g, off, cap, hv, Nat.lt_of_lt_of_le hlt hb.size, hA', hl, hm, fun i hi => (hb.cell (p := ⟨g, off + i, none⟩) (by show g < B; omega)).trans (hc i hi)⟩
theorem HasAt.mono {A A' : Nat} {w : World} {v : Value} {l : List Int} (h : HasAt A w v l) (hA : A ≤ A') : HasAt A' w v l := by
 rcases h with h | ⟨g, off, cap, hv, hlt, hA', hl, hm, hc⟩
 ·exact .inl h
 ·exact .inr ⟨g, off, cap, hv, hlt, by omega, hl, hm, hc⟩
theorem HasAt.form {A : Nat} {w : World} {v : Value} {l : List Int} (h : HasAt A w v l) : ∃ a cap, v = .slice a l.length cap ∧ Lies w a l := h.has.form

/-- The slice v has the texts n, all of it in blocks ahead of A. -/
def HasLAt (A : Nat) (w : World) (v : Value) (n : List (List Int)) : Prop :=
 (v = .slice none 0 0 ∧ n = []) ∨ ∃ g off cap, v = .slice (some ⟨g, off, none⟩) n.length cap ∧ g < w.heap.size ∧ g < A ∧ n.length ≤ cap ∧ cap ≤ maxLen ∧
  ∀ i, i < n.length → ∃ u, w.cell? ⟨g, off + i, none⟩ = some u ∧ HasAt A w u (n.getD i [])

theorem HasL.at {w : World} {v : Value} {n : List (List Int)} (h : HasL w v n) : HasLAt w.heap.size w v n := by
 rcases h with h | ⟨g, off, cap, hv, hlt, hl, hm, hc⟩
 ·exact .inl h
 ·refine .inr ⟨g, off, cap, hv, hlt, hlt, hl, hm, fun i hi => ?_⟩
  obtain ⟨u, h1, h2⟩ := hc i hi
  exact ⟨u, h1, h2.at⟩
theorem HasLAt.hasL {A : Nat} {w : World} {v : Value} {n : List (List Int)} (h : HasLAt A w v n) : HasL w v n := by
 rcases h with h | ⟨g, off, cap, hv, hlt, _, hl, hm, hc⟩
 ·exact .inl h
 ·refine .inr ⟨g, off, cap, hv, hlt, hl, hm, fun i hi => ?_⟩
  obtain ⟨u, h1, h2⟩ := hc i hi
  exact ⟨u, h1, h2.has⟩
theorem HasLAt.low {A B : Nat} {w w' : World} {v : Value} {n : List (List Int)} (h : HasLAt A w v n) (hb : Below B w w') (hA : A ≤ B) : HasLAt A w' v n := by
 rcases h with h | ⟨g, off, cap, hv, hlt, hA', hl, hm, hc⟩
 ·exact .inl h
 ·refine .inr ⟨g, off, cap, hv, Nat.lt_of_lt_of_le hlt hb.size, hA', hl, hm, fun i hi => ?_⟩
  obtain ⟨u, h1, h2⟩ := hc i hi
  exact ⟨u, (hb.cell (p := ⟨g, off + i, none⟩) (by show g < B; omega)).trans h1, h2.low hb hA⟩
theorem HasLAt.below {A : Nat} {w w' : World} {v : Value} {n : List (List Int)} (h : HasLAt A w v n) (hb : Below w.heap.size w w') : HasLAt A w' v n := by
 rcases h with h | ⟨g, off, cap, hv, hlt, hA', hl, hm, hc⟩
 ·exact .inl h
 ·refine .inr ⟨g, off, cap, hv, Nat.lt_of_lt_of_le hlt hb.size, hA', hl, hm, fun i hi => ?_⟩
  obtain ⟨u, h1, h2⟩ := hc i hi
  exact ⟨u, (hb.cell (p := ⟨g, off + i, none⟩) hlt).trans h1, h2.below hb⟩
theorem HasLAt.outside {A B E : Nat} {w w' : World} {v : Value} {n : List (List Int)} (h : HasLAt A w v n) (ho : Outside B E w w') (hA : A ≤ B) : HasLAt A w' v n := by
 rcases h with h | ⟨g, off, cap, hv, hlt, hA', hl, hm, hc⟩
 ·exact .inl h
 ·refine .inr ⟨g, off, cap, hv, Nat.lt_of_lt_of_le hlt ho.size, hA', hl, hm, fun i hi => ?_⟩
  obtain ⟨u, h1, h2⟩ := hc i hi
  refine ⟨u, ?_, h2.outside ho hA⟩
  rw [World.cell?_of_block (ho.block g hlt (.inl (by omega)))]
  exact h1
theorem HasLAt.here {A : Nat} {w : World} {a : Option Addr} {len cap : Nat} {n : List (List Int)} (h : HasLAt A w (.slice a len cap) n) {k : Nat} (hk : k < n.length) :
  ∃ b off u, a = some ⟨b, off, none⟩ ∧ b < A ∧ w.cell? ⟨b, off + k, none⟩ = some u ∧ HasAt A w u (n.getD k []) := by
 rcases h with ⟨_, rfl⟩ | ⟨g, off, cap, hv, _, hlt, _, _, hc⟩
 ·simp at hk
 ·simp only [Value.slice.injEq] at hv
  obtain ⟨u, h1, h2⟩ := hc k hk
  exact ⟨g, off, u, hv.1, hlt, h1, h2⟩

/-- A row of one type isn't a block of another. -/
theorem Own.apart {B b : Nat} {e t : TypeId} {w : World} {v : Value} {l : List Int} {c : Array Value} (h : Own B e w v l) (hb : w.heap[b]? = some (.cells c t)) (hne : t ≠ e) : v.ownBlock ≠ some b := by
 intro hq
 rcases h.2 with ⟨rfl, _⟩ | ⟨g, cap, cur, rfl, _, hg, _⟩
 ·simp [Value.ownBlock] at hq
 ·simp [Value.ownBlock] at hq
  subst hq
  rw [hg] at hb
  simp at hb
  exact hne hb.2.symm
theorem block_grown {b : Nat} {w w' : World} {row : Option Nat} {o : Obj} (hg : w.grownBy w' row) (hb : w.heap[b]? = some o) (hne : row ≠ some b) : w'.heap[b]? = some o := (hg.block b (block_lt hb) (fun e => hne e.symm)).trans hb
theorem grown_below {B : Nat} {e : TypeId} {w w' : World} {v : Value} {l : List Int} (ho : Own B e w v l) (hB : B ≤ w.heap.size) (g : w.grownBy w' v.ownBlock) : Below B w w' := (Below.refl B w).grown g hB (fun q hq => (ho.lt q hq).1)
/-- What stays behind an append to an own row of bytes. -/
theorem put_step {B q : Nat} {e t : TypeId} {w1 W w' : World} {v u x : Value} {l lab : List Int} {c : Array Value} {p : Addr} (g : W.grownBy w' v.ownBlock) (ho : Own B e W v l) (hz : B ≤ W.heap.size) (hk : W.heap[q]? = some (.cells c t)) (hne : t ≠ e)
  (hb : Below B w1 W) (hu : HasAt B W u lab) (hc : W.cell? p = some x) (hp : p.block < B) :
  w'.heap[q]? = some (.cells c t) ∧ Below B w1 w' ∧ B ≤ w'.heap.size ∧ HasAt B w' u lab ∧ w'.cell? p = some x := by
 have y := grown_below ho hz g
 exact ⟨block_grown g hk (ho.apart hk hne), hb.trans y, Nat.le_trans hz y.size, hu.low y (Nat.le_refl _), (y.cell hp).trans hc⟩
theorem wrap_u8 (n : Nat) (h : n ≤ 255) : IntKind.u8.wrap (n : Int) = n := by
 simp [IntKind.wrap, IntKind.bits, IntKind.signed]
 omega
end Go.Proofs.YtfbfakdkemlbmaaGreat

namespace Go.Proofs.YtfbfakdkemlbmaaGreat
open Go.RowKit

/-- As Own, its block ahead of E. -/
def OwnB (C E : Nat) (e : TypeId) (w : World) (v : Value) (l : List Int) : Prop := Own C e w v l ∧ ∀ q, v.ownBlock = some q → q < E

theorem Own.here {C : Nat} {e : TypeId} {w : World} {v : Value} {l : List Int} (h : Own C e w v l) : OwnB C w.heap.size e w v l := ⟨h, fun q hq => (h.lt q hq).2⟩
theorem OwnB.has {C E : Nat} {e : TypeId} {w : World} {v : Value} {l : List Int} (h : OwnB C E e w v l) : Has w v l := h.1.has
theorem OwnB.below {C E : Nat} {e : TypeId} {w w' : World} {v : Value} {l : List Int} (h : OwnB C E e w v l) (hb : Below w.heap.size w w') : OwnB C E e w' v l := ⟨h.1.below hb, h.2⟩
theorem OwnB.outside {C E B D : Nat} {e : TypeId} {w w' : World} {v : Value} {l : List Int} (h : OwnB C E e w v l) (u : Outside B D w w') (hd : E ≤ B ∨ D ≤ C) : OwnB C E e w' v l := by
 refine ⟨⟨h.1.1, ?_⟩, h.2⟩
 rcases h.1.2 with hn | ⟨g, cap, cur, hv, hb, hg, rest⟩
 ·exact .inl hn
 ·refine .inr ⟨g, cap, cur, hv, hb, ?_, rest⟩
  have h1 := h.1.lt g (by rw [hv]; rfl)
  have h2 := h.2 g (by rw [hv]; rfl)
  rw [u.block g h1.2 (by omega)]
  exact hg
theorem OwnB.marks {C E : Nat} {e : TypeId} {w w' : World} {v : Value} {l l' : List Int} (h : OwnB C E e w v l) (h' : Own C e w' v l') (g : w.grownBy w' v.ownBlock) : OwnB C E e w' v l' ∧ Outside C E w w' :=
 ⟨⟨h', h.2⟩, outside_grown g (fun q hq => ⟨(h.1.lt q hq).1, h.2 q hq⟩)⟩

theorem ownsRow_outside {C B D n : Nat} {e : TypeId} {w w' : World} {v : Value} {xs : List Value} (h : w.ownsRow C e 1 v n xs) (u : Outside B D w w') (hq : ∀ q, v.ownBlock = some q → q < B ∨ D ≤ q) : w'.ownsRow C e 1 v n xs := by
 have h' := h
 refine ⟨h.1, ?_⟩
 rcases h.2 with hn | ⟨g, cap, cur, hv, hb, hg, rest⟩
 ·exact .inl hn
 ·refine .inr ⟨g, cap, cur, hv, hb, ?_, rest⟩
  have h1 := h'.lt g (by rw [hv]; rfl)
  have h2 := hq g (by rw [hv]; rfl)
  rw [u.block g h1.2 h2]
  exact hg

theorem OwnN.outside {C E B D : Nat} {el eb : TypeId} {w w' : World} {v : Value} {n : List (List Int)} (h : OwnN C E el eb w v n) (u : Outside B D w w') (hd : E ≤ B ∨ D ≤ C) : OwnN C E el eb w' v n := by
 obtain ⟨vs, ho, hu, hdis, hv, he⟩ := h
 refine ⟨vs, ownsRow_outside ho u (fun q hq => ?_), fun i hi => ?_, hdis, hv, he⟩
 ·have := (World.ownsRow.lt ho q hq).1
  have := hv q hq
  omega
 ·obtain ⟨x, h1, h2⟩ := hu i hi
  refine ⟨x, h1, ownsRow_outside h2 u (fun q hq => ?_)⟩
  have := (h2.lt q hq).1
  have := he i x q h1 hq
  omega
theorem OwnN.hasL {C E : Nat} {el eb : TypeId} {w : World} {v : Value} {n : List (List Int)} (h : OwnN C E el eb w v n) : HasL w v n := h.ownL.hasL
end Go.Proofs.YtfbfakdkemlbmaaGreat
