/-
  Plain facts: labels and names as lists of numbers, and how they lie in memory. No program is named here. What is known of a name that came in as an argument: a struct of one slice of slices of bytes, wherever they lie. What the frame asks of the whole program, once for all statements of the seat: the word on how it was cut is laid out as numbers first, so that the kernel need not take a long text apart.
-/
import Derived.Test.YtjgfljndeolmoaaFnInsidesG00
import Derived.ProofKit
import Derived.ChangeArms
import Derived.ChangeSame
import Derived.ChangeSlices
import Derived.Test.YtjgfljndeolmoaaRows
import Derived.WalkKit
import Derived.JoinedOf
namespace Go.Proofs.Ytjgfljndeolmoaa
open Go.RowKit

/-- A sign of a label: a small letter, a digit, or a line. -/
def signOk (c : Int) : Bool := decide ((97 ≤ c ∧ c ≤ 122) ∨ (48 ≤ c ∧ c ≤ 57) ∨ c = 45)

/-- A label: 1 to 15 signs. -/
def labelOk (l : List Int) : Bool := decide (1 ≤ l.length ∧ l.length ≤ 15 ∧ ∀ j, j < l.length → signOk (l.getD j 0) = true)

theorem labelOk_yes {l : List Int} (h0 : 1 ≤ l.length) (h1 : l.length ≤ 15) (h : ∀ j, j < l.length → signOk (l.getD j 0) = true) : labelOk l = true := decide_eq_true ⟨h0, h1, h⟩
theorem labelOk_short {l : List Int} (h : ¬ (1 ≤ l.length ∧ l.length ≤ 15)) : labelOk l = false := decide_eq_false fun h' => h ⟨h'.1, h'.2.1⟩
theorem labelOk_sign {l : List Int} {j : Nat} (hj : j < l.length) (h : signOk (l.getD j 0) = false) : labelOk l = false := decide_eq_false fun h' => by
 have := h'.2.2 j hj
 rw [h] at this
 cases this
theorem labelOk_length {l : List Int} (h : labelOk l = true) : 1 ≤ l.length ∧ l.length ≤ 15 := by
 have := of_decide_eq_true h
 exact ⟨this.1, this.2.1⟩

/-- A name: at most 6 labels. -/
def nameOk (n : List (List Int)) : Bool := decide (n.length ≤ 6 ∧ ∀ j, j < n.length → labelOk (n.getD j []) = true)

theorem nameOk_yes {n : List (List Int)} (h1 : n.length ≤ 6) (h : ∀ j, j < n.length → labelOk (n.getD j []) = true) : nameOk n = true := decide_eq_true ⟨h1, h⟩
theorem nameOk_long {n : List (List Int)} (h : 6 < n.length) : nameOk n = false := decide_eq_false fun h' => by omega
theorem nameOk_label {n : List (List Int)} {j : Nat} (hj : j < n.length) (h : labelOk (n.getD j []) = false) : nameOk n = false := decide_eq_false fun h' => by
 have := h'.2 j hj
 rw [h] at this
 cases this
theorem nameOk_parts {n : List (List Int)} (h : nameOk n = true) : n.length ≤ 6 ∧ ∀ j, j < n.length → labelOk (n.getD j []) = true := of_decide_eq_true h

/-- The list of texts n lies behind the slice's head a, wherever each text lies. -/
def LiesL (w : World) (a : Option Addr) (n : List (List Int)) : Prop :=
 n = [] ∨ ∃ b off, a = some ⟨b, off, none⟩ ∧ b < w.heap.size ∧ ∀ i, i < n.length → ∃ ia ic, w.cell? ⟨b, off + i, none⟩ = some (.slice ia (n.getD i []).length ic) ∧ Lies w ia (n.getD i [])

theorem LiesL.below {w w' : World} {a : Option Addr} {n : List (List Int)} (h : LiesL w a n) (hb : Below w.heap.size w w') : LiesL w' a n := by
 rcases h with rfl | ⟨b, off, rfl, hlt, hc⟩
 ·exact .inl rfl
 ·refine .inr ⟨b, off, rfl, Nat.lt_of_lt_of_le hlt hb.size, fun i hi => ?_⟩
  obtain ⟨ia, ic, h1, h2⟩ := hc i hi
  exact ⟨ia, ic, (hb.cell (p := ⟨b, off + i, none⟩) hlt).trans h1, h2.below hb⟩

theorem LiesL.here {w : World} {a : Option Addr} {n : List (List Int)} (h : LiesL w a n) {k : Nat} (hk : k < n.length) :
  ∃ b off ia ic, a = some ⟨b, off, none⟩ ∧ b < w.heap.size ∧ w.cell? ⟨b, off + k, none⟩ = some (.slice ia (n.getD k []).length ic) ∧ Lies w ia (n.getD k []) := by
 rcases h with rfl | ⟨b, off, rfl, hlt, hc⟩
 ·simp at hk
 ·obtain ⟨ia, ic, h1, h2⟩ := hc k hk
  exact ⟨b, off, ia, ic, rfl, hlt, h1, h2⟩

/-- The slice v has the texts n, each of them a slice that has its bytes. -/
def HasL (w : World) (v : Value) (n : List (List Int)) : Prop :=
 (v = .slice none 0 0 ∧ n = []) ∨ ∃ g off cap, v = .slice (some ⟨g, off, none⟩) n.length cap ∧ g < w.heap.size ∧ n.length ≤ cap ∧ cap ≤ maxLen ∧
  ∀ i, i < n.length → ∃ u, w.cell? ⟨g, off + i, none⟩ = some u ∧ Has w u (n.getD i [])

theorem HasL.below {w w' : World} {v : Value} {n : List (List Int)} (h : HasL w v n) (hb : Below w.heap.size w w') : HasL w' v n := by
 rcases h with h | ⟨g, off, cap, hv, hlt, hl, hm, hc⟩
 ·exact .inl h
 ·refine .inr ⟨g, off, cap, hv, Nat.lt_of_lt_of_le hlt hb.size, hl, hm, fun i hi => ?_⟩
  obtain ⟨u, h1, h2⟩ := hc i hi
  exact ⟨u, (hb.cell (p := ⟨g, off + i, none⟩) hlt).trans h1, h2.below hb⟩

theorem HasL.here {w : World} {a : Option Addr} {len cap : Nat} {n : List (List Int)} (h : HasL w (.slice a len cap) n) {k : Nat} (hk : k < n.length) :
  ∃ b off u, a = some ⟨b, off, none⟩ ∧ b < w.heap.size ∧ w.cell? ⟨b, off + k, none⟩ = some u ∧ Has w u (n.getD k []) := by
 rcases h with ⟨_, rfl⟩ | ⟨g, off, cap, hv, hlt, _, _, hc⟩
 ·simp at hk
 ·simp only [Value.slice.injEq] at hv
  obtain ⟨u, h1, h2⟩ := hc k hk
  exact ⟨g, off, u, hv.1, hlt, h1, h2⟩

theorem HasL.form {w : World} {v : Value} {n : List (List Int)} (h : HasL w v n) : ∃ a cap, v = .slice a n.length cap ∧ n.length ≤ cap ∧ cap ≤ maxLen := by
 rcases h with ⟨rfl, rfl⟩ | ⟨g, off, cap, rfl, _, hl, hm, _⟩
 ·exact ⟨none, 0, rfl, Nat.le_refl _, Nat.zero_le _⟩
 ·exact ⟨_, cap, rfl, hl, hm⟩

theorem Has.bound {w : World} {v : Value} {l : List Int} (h : Has w v l) : l.length ≤ maxLen := by
 rcases h with ⟨_, rfl⟩ | ⟨_, _, _, _, _, hl, hm, _⟩
 ·exact Nat.zero_le _
 ·omega

/-- The slice v, among the blocks from B on, owns a row of slices, each of which owns its bytes, no two of them in one block. -/
def OwnL (B : Nat) (el eb : TypeId) (w : World) (v : Value) (n : List (List Int)) : Prop :=
 ∃ vs : List Value, w.ownsRow B el 1 v n.length vs ∧ (∀ i, i < n.length → ∃ u, vs[i]? = some u ∧ Own B eb w u (n.getD i [])) ∧
  ∀ (i j : Nat) (u u' : Value), i < j → vs[i]? = some u → vs[j]? = some u' → u.ownBlock = none ∨ u.ownBlock ≠ u'.ownBlock

theorem OwnL.hasL {B : Nat} {el eb : TypeId} {w : World} {v : Value} {n : List (List Int)} (h : OwnL B el eb w v n) : HasL w v n := by
 obtain ⟨vs, ho, hu, _⟩ := h
 have ho' := ho
 rcases ho.2 with ⟨rfl, hn⟩ | ⟨g, cap, cur, rfl, hb, hg, hn, hm, hs, ht⟩
 ·exact .inl ⟨rfl, List.eq_nil_of_length_eq_zero hn⟩
 ·refine .inr ⟨g, 0, cap, rfl, (ho'.lt g rfl).2, hn, hm, fun i hi => ?_⟩
  obtain ⟨u, h1, h2⟩ := hu i hi
  refine ⟨u, ?_, h2.has⟩
  rw [Nat.zero_add, World.ownsRow.cellAt ho' i (by omega), h1]

theorem OwnL.below {B : Nat} {el eb : TypeId} {w w' : World} {v : Value} {n : List (List Int)} (h : OwnL B el eb w v n) (hb : Below w.heap.size w w') : OwnL B el eb w' v n := by
 obtain ⟨vs, ho, hu, hd⟩ := h
 refine ⟨vs, World.ownsRow.kept ho (grown_of_below hb) ?_, fun i hi => ?_, hd⟩
 ·cases hv : v.ownBlock with
  | none => exact .inl rfl
  | some k => exact .inr (by simp)
 ·obtain ⟨u, h1, h2⟩ := hu i hi
  exact ⟨u, h1, h2.below hb⟩

theorem below_alloc {w : World} (o : Obj) : Below w.heap.size w (w.alloc o) := (Below.refl _ _).alloc (Nat.le_refl _) o

theorem grown_setCell (w : World) (a : Addr) (v : Value) : w.grownBy (w.setCell a v) (some a.block) := by
 refine ⟨rfl, rfl, rfl, by simp [World.setCell], fun k hk hne => ?_⟩
 have : a.block ≠ k := fun e => hne (by rw [e])
 simp [World.setCell, Array.getElem?_modify, this]

theorem OwnL.kept {B q : Nat} {el eb : TypeId} {w w' : World} {v : Value} {n : List (List Int)} (h : OwnL B el eb w v n) (hg : w.grownBy w' (some q)) (hq : q < B) : OwnL B el eb w' v n := by
 obtain ⟨vs, ho, hu, hd⟩ := h
 refine ⟨vs, World.ownsRow.kept ho hg ?_, fun i hi => ?_, hd⟩
 ·cases hv : v.ownBlock with
  | none => exact .inl rfl
  | some k =>
   right
   intro e
   have := (World.ownsRow.lt ho k hv).1
   simp at e
   omega
 ·obtain ⟨u, h1, h2⟩ := hu i hi
  refine ⟨u, h1, h2.kept hg ?_⟩
  cases hv : u.ownBlock with
  | none => exact .inl rfl
  | some k =>
   right
   intro e
   have := (h2.lt k hv).1
   simp at e
   omega

theorem ownsRow_mono {B B' : Nat} {e : TypeId} {w : World} {v : Value} {n : Nat} {xs : List Value} (h : w.ownsRow B e 1 v n xs) (hB : B' ≤ B) : w.ownsRow B' e 1 v n xs := by
 refine ⟨h.1, ?_⟩
 rcases h.2 with hn | ⟨g, cap, cur, hv, hb, rest⟩
 ·exact .inl hn
 ·exact .inr ⟨g, cap, cur, hv, Nat.le_trans hB hb, rest⟩

theorem OwnL.mono {B B' : Nat} {el eb : TypeId} {w : World} {v : Value} {n : List (List Int)} (h : OwnL B el eb w v n) (hB : B' ≤ B) : OwnL B' el eb w v n := by
 obtain ⟨vs, ho, hu, hd⟩ := h
 refine ⟨vs, ownsRow_mono ho hB, fun i hi => ?_, hd⟩
 obtain ⟨u, h1, h2⟩ := hu i hi
 exact ⟨u, h1, h2.mono hB⟩

/-- Three new blocks, as a function's box, its result and its variable lie. -/
theorem box3 (w : World) (o : Obj) (c2 c3 : Array Value) (t2 t3 : TypeId) :
  (((w.alloc o).alloc (.cells c2 t2)).alloc (.cells c3 t3)).heap.size = w.heap.size + 3 ∧
  (((w.alloc o).alloc (.cells c2 t2)).alloc (.cells c3 t3)).heap[w.heap.size + 1]? = some (.cells c2 t2) ∧
  (((w.alloc o).alloc (.cells c2 t2)).alloc (.cells c3 t3)).heap[w.heap.size + 1 + 1]? = some (.cells c3 t3) := by
 have e1 : (w.alloc o).heap.size = w.heap.size + 1 := by show (w.heap.push o).size = _; simp
 have e2 : ((w.alloc o).alloc (.cells c2 t2)).heap.size = w.heap.size + 1 + 1 := by rw [← e1]; show ((w.alloc o).heap.push _).size = _; simp
 have e3 : (((w.alloc o).alloc (.cells c2 t2)).alloc (.cells c3 t3)).heap.size = w.heap.size + 1 + 1 + 1 := by rw [← e2]; show (((w.alloc o).alloc (.cells c2 t2)).heap.push _).size = _; simp
 refine ⟨e3, ?_, ?_⟩
 ·exact ((below_alloc _).block _ (by rw [e2]; omega)).trans (by rw [← e1]; exact heap_alloc_new _ _)
 ·rw [← e2]; exact heap_alloc_new _ _

theorem block_cell {w : World} {b : Nat} {c : Array Value} {t : TypeId} (h : w.heap[b]? = some (.cells c t)) (i : Nat) : w.cell? ⟨b, i, none⟩ = c[i]? := by simp [World.cell?, h]
theorem block_frozen {w : World} {b : Nat} {c : Array Value} {t : TypeId} (h : w.heap[b]? = some (.cells c t)) (i : Nat) : w.frozen? ⟨b, i, none⟩ = false := by simp [World.frozen?, h]
theorem block_set {w : World} {b : Nat} {x : Value} {t : TypeId} (h : w.heap[b]? = some (.cells #[x] t)) (v : Value) : (w.setCell ⟨b, 0, none⟩ v).heap[b]? = some (.cells #[v] t) := by
 simp [World.setCell, Array.getElem?_modify, h]
theorem block_other {w : World} {b b' : Nat} {o : Option Obj} (h : w.heap[b]? = o) (hne : b' ≠ b) (i : Nat) (v : Value) : (w.setCell ⟨b', i, none⟩ v).heap[b]? = o := by
 simp [World.setCell, Array.getElem?_modify, hne, h]

theorem below_drew {w : World} : Below w.heap.size w w.drew := ⟨rfl, rfl, rfl, Nat.le_refl _, fun _ _ => rfl⟩

/-- What a variable's block holds, as the walk reads it. -/
theorem block_one {w : World} {b : Nat} {v : Value} {t : TypeId} (h : w.heap[b]? = some (.cells #[v] t)) : w.cell? ⟨b, 0, none⟩ = some v := by rw [block_cell h]; rfl
theorem block_lt {w : World} {b : Nat} {o : Obj} (h : w.heap[b]? = some o) : b < w.heap.size := (Array.getElem?_eq_some_iff.1 h).1
theorem block_kept {w w' : World} {b : Nat} {o : Obj} (hb : Below w.heap.size w w') (h : w.heap[b]? = some o) : w'.heap[b]? = some o := (hb.block b (block_lt h)).trans h
end Go.Proofs.Ytjgfljndeolmoaa

namespace Go.Proofs.Ytjgfljndeolmoaa
open Go.RowKit Go.ChangeShapes Go.WideShapes Go.ChangeAt

theorem ints_lies {H : Type} {enc : TypeId × Value → H} {P : Program} {w : World} {sp : Nat → Bool} {held : Bool} {t e : TypeId} {fuel : Nat} {v : Value} {x : DataW H × List MemPlace}
  (ht : P.underlying t = some (.slice e)) (he : P.underlying e = some (.int .u8)) (hc : P.cellsOf e = 1) (hsp : ∀ b, sp b = true) (h : DataW.trod enc P w 0 sp held fuel t [v] = some x) :
  ∃ (a : Option Addr) (cap : Nat) (l : List Int), v = .slice a l.length cap ∧ l.length ≤ maxLen ∧ Lies w a l ∧ ∀ k, 0 ≤ l.getD k 0 ∧ l.getD k 0 ≤ 255 := by
 have key : ∃ a len cap zs, v = .slice a len cap ∧ IsRow .u8 w a len cap zs := by
  rcases open_ints ht he hc h with ⟨hcs, _⟩ | ⟨x, l, c, zs, hcs, _, hl, hm, hz, _, hcell, hwz⟩
  ·simp at hcs
   exact ⟨none, 0, 0, [], hcs, .inl ⟨rfl, rfl, rfl, rfl⟩⟩
  ·simp at hcs
   exact ⟨some x, l, c, zs, hcs, .inr ⟨_, rfl, hl, hm, by simpa [hsp] using hz, hcell, hwz⟩⟩
 obtain ⟨a, len, cap, zs, rfl, hr⟩ := key
 obtain ⟨l, rfl, hm, hL, hb⟩ := isRow_lies hr
 exact ⟨a, cap, l, rfl, hm, hL, hb⟩

end Go.Proofs.Ytjgfljndeolmoaa

namespace Go.Proofs.Ytjgfljndeolmoaa

/-- The word that tells that the program is a cut. -/
def cutWord : List Char := [Char.ofNat 99, Char.ofNat 117, Char.ofNat 116]
theorem cut_gc : (cutWord == "gc".toList) = false := by kernel_rfl
theorem cut_spec : (cutWord == "spec".toList) = false := by kernel_rfl
theorem cut_carried : (cutWord == "carried".toList) = false := by kernel_rfl
theorem cut_cut : (cutWord == "cut".toList) = true := by kernel_rfl
theorem head_cut (W : List (List Char)) : (List.head? (cutWord :: W) == some "cut".toList) = true := by kernel_rfl
theorem head_carried (W : List (List Char)) : (List.head? (cutWord :: W) == some "carried".toList) = false := by kernel_rfl
theorem strip_cut (W : List (List Char)) : stripLifts liftWords (cutWord :: W) = ([], cutWord :: W) := by kernel_rfl

theorem enter_of {P : Program} {l : List Char} {W : List (List Char)} (h : P.initOrder.toList = l) (hw : behindMainWord (wordsSigns l) = cutWord :: W) (h1 : P.laysLater = false) (h2 : P.bearsReflect = false) (h3 : P.doorFits [] = true) : P.mayEnter = true := by
 unfold Program.mayEnter
 rw [h, hw]
 simp only [strip_cut, h1, h2, h3, cut_gc, cut_spec, cut_carried, head_cut]
 rfl
theorem lifts_of {P : Program} {l : List Char} {W : List (List Char)} (h : P.initOrder.toList = l) (hw : behindMainWord (wordsSigns l) = cutWord :: W) : P.liftsFinal = false := by
 unfold Program.liftsFinal Program.headLifts
 rw [h, hw]
 simp only [strip_cut, head_carried, head_cut]
 rfl
theorem make_of {P : Program} {l : List Char} {W : List (List Char)} (h : P.initOrder.toList = l) (hw : behindMainWord (wordsSigns l) = cutWord :: W) : P.make = some .cut := by
 unfold Program.make
 rw [h, hw]
 simp only [cut_gc, cut_spec, cut_cut]
 rfl

def initA : List Char := [104, 97, 114, 110, 101, 115, 115, 32, 57, 97, 54, 50, 100, 55, 50, 50, 48, 102, 51, 57, 52, 98, 101, 52, 55, 100, 50, 54, 98, 97, 51, 49, 101, 100, 51, 51, 57, 51, 99, 102, 49, 102, 51, 55, 99, 99, 101, 98, 50, 99, 97, 57, 50, 54, 99, 55, 52, 101, 97, 51, 53, 55, 50, 97, 56, 98, 48, 51, 102, 102, 52, 56, 32, 99, 117, 116, 32].map Char.ofNat
def initB : List Char := [97, 116, 32, 108, 111, 111, 112, 46, 101, 120, 97, 109, 112, 108, 101, 47, 103, 48, 48, 52, 50, 50, 47, 108, 97, 119, 115, 46, 70, 110, 73, 110, 115, 105, 100, 101, 115, 32, 108, 111, 111, 112, 46, 101, 120, 97, 109, 112, 108, 101, 47, 103, 48, 48, 52, 50, 50, 47, 108, 97, 119, 115, 46, 70, 110, 69, 120, 97, 99, 116, 84, 97, 115, 107, 79, 107, 32, 108, 111, 111, 112, 46, 101, 120, 97, 109, 112, 108, 101, 47, 103, 48, 48, 52, 50, 50, 47, 108, 97, 119, 115, 46, 70, 110, 69, 120, 97, 99, 116, 73, 110, 115, 105, 100, 101, 32, 108, 111, 111, 112, 46, 101, 120, 97, 109, 112, 108, 101, 47, 103, 48, 48, 52, 50, 50, 47, 108, 97, 119, 115, 46, 70, 110, 69, 120, 97, 99, 116, 66, 101, 103, 105, 110].map Char.ofNat
theorem init_text : Try.prog.initOrder = String.ofList (initA ++ initB) := by kernel_rfl
theorem init_list : Try.prog.initOrder.toList = initA ++ initB := by rw [init_text, String.toList_ofList]
theorem words (R : List Char) : behindMainWord (wordsSigns (initA ++ R)) = cutWord :: wordsSigns R := by kernel_rfl
theorem c_laid : laidOutB Try.prog = true := by kernel_rfl
theorem c_maps : mapsRowed Try.prog = true := by kernel_rfl
theorem c_stops : (Try.prog.stops == []) = true := by kernel_rfl
theorem c_knobs : (Try.prog.stopKnobs == []) = true := by kernel_rfl
theorem c_heard : Try.prog.stopsHeard = true := by kernel_rfl
theorem c_later : Try.prog.laysLater = false := by kernel_rfl
theorem c_reflect : Try.prog.bearsReflect = false := by kernel_rfl
theorem c_door : Try.prog.doorFits [] = true := by kernel_rfl
theorem c_keys : Try.prog.plainKeys = true := by kernel_rfl
theorem c_enter : Try.prog.mayEnter = true := enter_of init_list (words initB) c_later c_reflect c_door
theorem c_lifts : Try.prog.liftsFinal = false := lifts_of init_list (words initB)
theorem c_make : Try.prog.make = some .cut := make_of init_list (words initB)

theorem both {a b : Bool} (h : a = true) (k : b = true) : (a && b) = true := by rw [h, k]; rfl

set_option maxRecDepth 100000 in
/-- The frame's facts, the program's own ones taken from above. -/
theorem closed_of {f : FuncId} {fn : Func} {s : ChangeSpec} {c : OpenClaim} (k1 : c.wf (OpenSpec.ofChange s) = true) (k4 : fn.params.all (Try.prog.readableRec ·) = true) (k5 : namedTie Try.prog c.named s.vars = true) (k6 : (c.stops == []) = true) (k8 : (c.knobs == []) = true)
  (k10 : (c.inPlace == Try.prog.inPlace f) = true) (k11 : (c.unfollowed == Try.prog.unfollowed f) = true) (k12 : (c.recurses == Try.prog.recurses f) = true) (k13 : (c.named == Try.prog.varsNamed f) = true)
  (k14 : (c.maps == (fn.params.toList ++ s.plain.varTypes Try.prog).any (Try.prog.mapsRec ·)) = true) (k15 : (c.ifaces == (fn.params.toList ++ s.plain.varTypes Try.prog).any (Try.prog.ifacesRec ·)) = true) (k16 : (c.mapsOut == Try.prog.mapsAmong fn.resultTypes.toList) = true)
  (k17 : (c.loops == (fn.params.toList ++ s.plain.varTypes Try.prog).any (Try.prog.loopsFrom ·)) = true) (k17b : (c.wideKeys == (fn.params.toList ++ s.plain.varTypes Try.prog ++ fn.resultTypes.toList).any (Try.prog.wideKeysFrom ·)) = true)
  (k18 : s.vars.all (Try.prog.varReadable ·) = true) (k19 : fn.resultTypes.all (fun t => Try.prog.readableRec t && decide (t < Try.prog.types.size)) = true) (k20 : (c.ifacesOut == fn.resultTypes.toList.any (Try.prog.ifacesRec ·)) = true) (k21 : (c.loopsOut == fn.resultTypes.toList.any (Try.prog.loopsFrom ·)) = true)
  (k22 : c.plainKeys = true) (k23 : c.shortTexts.isNone = true) (k24b : c.lifted = false) (k24c : c.make = .cut)
  (k25 : (c.kinds == (if c.domain.isEmpty then [] else fn.params.toList.map fun t => match Try.prog.underlying t with | some (.int k) => some k | _ => none)) = true) (k26 : (c.pinned == c.pinnedBy) = true)
  (k27 : (c.veiled == (fn.params.toList ++ s.plain.varTypes Try.prog ++ fn.resultTypes.toList).any (Try.prog.veiledRec ·)) = true) (k28 : c.veiledFits Try.prog fn.params.toList (fn.params.toList ++ s.plain.varTypes Try.prog ++ fn.resultTypes.toList) = true) :
  joinedFacts Try.prog f fn s c = true := by
 have e22 : (c.plainKeys == Try.prog.plainKeys) = true := by rw [k22, c_keys]; rfl
 have e24b : (c.lifted == Try.prog.liftsFinal) = true := by rw [k24b, c_lifts]; rfl
 have e24c : (Try.prog.make == some c.make) = true := by rw [k24c, c_make]; rfl
 unfold joinedFacts
 exact both (both (both (both (both (both (both (both (both (both (both (both (both (both (both (both (both (both (both (both (both (both (both (both (both (both (both (both (both (both (both k1 c_laid) c_maps) k4) k5) k6) c_stops) k8) c_knobs) k10) k11) k12) k13) k14) k15) k16) k17) k17b) k18) k19) k20) k21) e22) k23) c_heard) c_enter) e24b) e24c) k25) k26) k27) k28
end Go.Proofs.Ytjgfljndeolmoaa
