/-
  Plain facts: words of 32 bits. No program is named here. Plain facts: labels and names as lists of numbers, and how they lie in memory. No program is named here.
-/
import Derived.Test.YtkmjghecjlgjpaaDoorSha256G00
import Derived.Laws.BitsAllLaws
namespace Go.Proofs.YtkmjghecjlgjpaaDoor
open Go.RowKit
set_option linter.unusedVariables false

/-- A word's number. -/
def wv (x : BitVec 32) : Int := (x.toNat : Int)
theorem wd_wrap (n : Nat) : IntKind.u32.wrap (n : Int) = wv (BitVec.ofNat 32 n) := by
 simp [wv, IntKind.wrap, IntKind.bits, IntKind.signed]
theorem wv_nat (x : BitVec 32) : wv x = (x.toNat : Int) := rfl
theorem wv_lt (x : BitVec 32) : 0 ≤ wv x ∧ wv x < 4294967296 := by have := x.isLt; unfold wv; omega
theorem wv_ofInt (x : BitVec 32) : BitVec.ofInt 32 (wv x) = x := by simp [wv]
theorem wd_back (x : BitVec 32) : IntKind.u32.wrap (x.toNat : Int) = wv x := by rw [wd_wrap]; simp
theorem wd_add (x y : BitVec 32) : IntKind.u32.wrap (wv x + wv y) = wv (x + y) := by
 rw [wv_nat, wv_nat, ← Int.natCast_add, wd_wrap]
 simp [wv, BitVec.toNat_add]
theorem wd_and (x y : BitVec 32) : bits .and .u32 (wv x) (wv y) = wv (x &&& y) := by
 show IntKind.u32.wrap ((BitVec.ofInt 32 (wv x) &&& BitVec.ofInt 32 (wv y)).toNat : Int) = _
 rw [wv_ofInt, wv_ofInt, wd_back]
theorem wd_or (x y : BitVec 32) : bits .or .u32 (wv x) (wv y) = wv (x ||| y) := by
 show IntKind.u32.wrap ((BitVec.ofInt 32 (wv x) ||| BitVec.ofInt 32 (wv y)).toNat : Int) = _
 rw [wv_ofInt, wv_ofInt, wd_back]
theorem wd_xor (x y : BitVec 32) : bits .xor .u32 (wv x) (wv y) = wv (x ^^^ y) := by
 show IntKind.u32.wrap ((BitVec.ofInt 32 (wv x) ^^^ BitVec.ofInt 32 (wv y)).toNat : Int) = _
 rw [wv_ofInt, wv_ofInt, wd_back]
theorem wd_andNot (x y : BitVec 32) : bits .andNot .u32 (wv x) (wv y) = wv (x &&& ~~~y) := by
 show IntKind.u32.wrap ((BitVec.ofInt 32 (wv x) &&& ~~~BitVec.ofInt 32 (wv y)).toNat : Int) = _
 rw [wv_ofInt, wv_ofInt, wd_back]
theorem wd_not (x : BitVec 32) : bits .xor .u32 4294967295 (wv x) = wv (~~~x) := by
 show IntKind.u32.wrap ((BitVec.ofInt 32 4294967295 ^^^ BitVec.ofInt 32 (wv x)).toNat : Int) = _
 rw [wv_ofInt, wd_back]
 have : BitVec.ofInt 32 4294967295 = BitVec.allOnes 32 := by decide
 rw [this, BitVec.allOnes_xor]
theorem wd_div (x : BitVec 32) (n : Nat) : wv x / 2 ^ n = wv (x >>> n) := by
 rw [wv_nat, wv_nat, BitVec.toNat_ushiftRight, Nat.shiftRight_eq_div_pow]
 simp
theorem wd_shl (x : BitVec 32) (n : Nat) : IntKind.u32.wrap (wv x * 2 ^ n) = wv (x <<< n) := by
 have : wv x * 2 ^ n = ((x.toNat * 2 ^ n : Nat) : Int) := by simp [wv]
 rw [this, wd_wrap]
 simp [wv, BitVec.toNat_shiftLeft, Nat.shiftLeft_eq]
/-- The right turn of a word. -/
def turnR (x : BitVec 32) (n : Nat) : BitVec 32 := (x >>> n) ||| (x <<< (32 - n))
end Go.Proofs.YtkmjghecjlgjpaaDoor

namespace Go.Proofs.YtkmjghecjlgjpaaDoor
open Go.RowKit

/-- The list of texts n lies behind the slice's head a, wherever each text lies. -/
def LiesL (w : World) (a : Option Addr) (n : List (List Int)) : Prop :=
 n = [] ∨ ∃ b off, a = some ⟨b, off, none⟩ ∧ b < w.heap.size ∧ ∀ i, i < n.length → ∃ ia ic, w.cell? ⟨b, off + i, none⟩ = some (.slice ia (n.getD i []).length ic) ∧ Lies w ia (n.getD i [])

theorem LiesL.below {w w' : World} {a : Option Addr} {n : List (List Int)} (h : LiesL w a n) (hb : Below w.heap.size w w') : LiesL w' a n := by
 rcases h with rfl | ⟨b, off, rfl, hlt, hc⟩
 ·exact .inl rfl
 ·refine .inr ⟨b, off, rfl, Nat.lt_of_lt_of_le hlt hb.size, fun i hi => ?_⟩
  obtain ⟨ia, ic, h1, h2⟩ := hc i hi
  exact ⟨ia, ic, (hb.cell (p := ⟨b, off + i, none⟩) hlt).trans h1, h2.below hb⟩

theorem LiesL.here {w : World} {a : Option Addr} {n : List (List Int)} (h : LiesL w a n) {k : Nat} (hk : k < n.length) :
  ∃ b off ia ic, a = some ⟨b, off, none⟩ ∧ b < w.heap.size ∧ w.cell? ⟨b, off + k, none⟩ = some (.slice ia (n.getD k []).length ic) ∧ Lies w ia (n.getD k []) := by
 rcases h with rfl | ⟨b, off, rfl, hlt, hc⟩
 ·simp at hk
 ·obtain ⟨ia, ic, h1, h2⟩ := hc k hk
  exact ⟨b, off, ia, ic, rfl, hlt, h1, h2⟩

/-- The slice v has the texts n, each of them a slice that has its bytes. -/
def HasL (w : World) (v : Value) (n : List (List Int)) : Prop :=
 (v = .slice none 0 0 ∧ n = []) ∨ ∃ g off cap, v = .slice (some ⟨g, off, none⟩) n.length cap ∧ g < w.heap.size ∧ n.length ≤ cap ∧ cap ≤ maxLen ∧
  ∀ i, i < n.length → ∃ u, w.cell? ⟨g, off + i, none⟩ = some u ∧ Has w u (n.getD i [])

theorem HasL.below {w w' : World} {v : Value} {n : List (List Int)} (h : HasL w v n) (hb : Below w.heap.size w w') : HasL w' v n := by
 rcases h with h | ⟨g, off, cap, hv, hlt, hl, hm, hc⟩
 ·exact .inl h
 ·refine .inr ⟨g, off, cap, hv, Nat.lt_of_lt_of_le hlt hb.size, hl, hm, fun i hi => ?_⟩
  obtain ⟨u, h1, h2⟩ := hc i hi
  exact ⟨u, (hb.cell (p := ⟨g, off + i, none⟩) hlt).trans h1, h2.below hb⟩

theorem HasL.here {w : World} {a : Option Addr} {len cap : Nat} {n : List (List Int)} (h : HasL w (.slice a len cap) n) {k : Nat} (hk : k < n.length) :
  ∃ b off u, a = some ⟨b, off, none⟩ ∧ b < w.heap.size ∧ w.cell? ⟨b, off + k, none⟩ = some u ∧ Has w u (n.getD k []) := by
 rcases h with ⟨_, rfl⟩ | ⟨g, off, cap, hv, hlt, _, _, hc⟩
 ·simp at hk
 ·simp only [Value.slice.injEq] at hv
  obtain ⟨u, h1, h2⟩ := hc k hk
  exact ⟨g, off, u, hv.1, hlt, h1, h2⟩

theorem HasL.form {w : World} {v : Value} {n : List (List Int)} (h : HasL w v n) : ∃ a cap, v = .slice a n.length cap ∧ n.length ≤ cap ∧ cap ≤ maxLen := by
 rcases h with ⟨rfl, rfl⟩ | ⟨g, off, cap, rfl, _, hl, hm, _⟩
 ·exact ⟨none, 0, rfl, Nat.le_refl _, Nat.zero_le _⟩
 ·exact ⟨_, cap, rfl, hl, hm⟩

/-- The slice v, among the blocks from B on, owns a row of slices, each of which owns its bytes, no two of them in one block. -/
def OwnL (B : Nat) (el eb : TypeId) (w : World) (v : Value) (n : List (List Int)) : Prop :=
 ∃ vs : List Value, w.ownsRow B el 1 v n.length vs ∧ (∀ i, i < n.length → ∃ u, vs[i]? = some u ∧ Own B eb w u (n.getD i [])) ∧
  ∀ (i j : Nat) (u u' : Value), i < j → vs[i]? = some u → vs[j]? = some u' → u.ownBlock = none ∨ u.ownBlock ≠ u'.ownBlock

theorem OwnL.hasL {B : Nat} {el eb : TypeId} {w : World} {v : Value} {n : List (List Int)} (h : OwnL B el eb w v n) : HasL w v n := by
 obtain ⟨vs, ho, hu, _⟩ := h
 have ho' := ho
 rcases ho.2 with ⟨rfl, hn⟩ | ⟨g, cap, cur, rfl, hb, hg, hn, hm, hs, ht⟩
 ·exact .inl ⟨rfl, List.eq_nil_of_length_eq_zero hn⟩
 ·refine .inr ⟨g, 0, cap, rfl, (ho'.lt g rfl).2, hn, hm, fun i hi => ?_⟩
  obtain ⟨u, h1, h2⟩ := hu i hi
  refine ⟨u, ?_, h2.has⟩
  rw [Nat.zero_add, World.ownsRow.cellAt ho' i (by omega), h1]

theorem OwnL.below {B : Nat} {el eb : TypeId} {w w' : World} {v : Value} {n : List (List Int)} (h : OwnL B el eb w v n) (hb : Below w.heap.size w w') : OwnL B el eb w' v n := by
 obtain ⟨vs, ho, hu, hd⟩ := h
 refine ⟨vs, World.ownsRow.kept ho (grown_of_below hb) ?_, fun i hi => ?_, hd⟩
 ·cases hv : v.ownBlock with
  | none => exact .inl rfl
  | some k => exact .inr (by simp)
 ·obtain ⟨u, h1, h2⟩ := hu i hi
  exact ⟨u, h1, h2.below hb⟩

theorem below_alloc {w : World} (o : Obj) : Below w.heap.size w (w.alloc o) := (Below.refl _ _).alloc (Nat.le_refl _) o

theorem grown_setCell (w : World) (a : Addr) (v : Value) : w.grownBy (w.setCell a v) (some a.block) := by
 refine ⟨rfl, rfl, rfl, by simp [World.setCell], fun k hk hne => ?_⟩
 have : a.block ≠ k := fun e => hne (by rw [e])
 simp [World.setCell, Array.getElem?_modify, this]

theorem OwnL.kept {B q : Nat} {el eb : TypeId} {w w' : World} {v : Value} {n : List (List Int)} (h : OwnL B el eb w v n) (hg : w.grownBy w' (some q)) (hq : q < B) : OwnL B el eb w' v n := by
 obtain ⟨vs, ho, hu, hd⟩ := h
 refine ⟨vs, World.ownsRow.kept ho hg ?_, fun i hi => ?_, hd⟩
 ·cases hv : v.ownBlock with
  | none => exact .inl rfl
  | some k =>
   right
   intro e
   have := (World.ownsRow.lt ho k hv).1
   simp at e
   omega
 ·obtain ⟨u, h1, h2⟩ := hu i hi
  refine ⟨u, h1, h2.kept hg ?_⟩
  cases hv : u.ownBlock with
  | none => exact .inl rfl
  | some k =>
   right
   intro e
   have := (h2.lt k hv).1
   simp at e
   omega

theorem ownsRow_mono {B B' : Nat} {e : TypeId} {w : World} {v : Value} {n : Nat} {xs : List Value} (h : w.ownsRow B e 1 v n xs) (hB : B' ≤ B) : w.ownsRow B' e 1 v n xs := by
 refine ⟨h.1, ?_⟩
 rcases h.2 with hn | ⟨g, cap, cur, hv, hb, rest⟩
 ·exact .inl hn
 ·exact .inr ⟨g, cap, cur, hv, Nat.le_trans hB hb, rest⟩

theorem OwnL.mono {B B' : Nat} {el eb : TypeId} {w : World} {v : Value} {n : List (List Int)} (h : OwnL B el eb w v n) (hB : B' ≤ B) : OwnL B' el eb w v n := by
 obtain ⟨vs, ho, hu, hd⟩ := h
 refine ⟨vs, ownsRow_mono ho hB, fun i hi => ?_, hd⟩
 obtain ⟨u, h1, h2⟩ := hu i hi
 exact ⟨u, h1, h2.mono hB⟩

/-- Three new blocks, as a function's box, its result and its variable lie. -/
theorem box3 (w : World) (o : Obj) (c2 c3 : Array Value) (t2 t3 : TypeId) :
  (((w.alloc o).alloc (.cells c2 t2)).alloc (.cells c3 t3)).heap.size = w.heap.size + 3 ∧
  (((w.alloc o).alloc (.cells c2 t2)).alloc (.cells c3 t3)).heap[w.heap.size + 1]? = some (.cells c2 t2) ∧
  (((w.alloc o).alloc (.cells c2 t2)).alloc (.cells c3 t3)).heap[w.heap.size + 1 + 1]? = some (.cells c3 t3) := by
 have e1 : (w.alloc o).heap.size = w.heap.size + 1 := by show (w.heap.push o).size = _; simp
 have e2 : ((w.alloc o).alloc (.cells c2 t2)).heap.size = w.heap.size + 1 + 1 := by rw [← e1]; show ((w.alloc o).heap.push _).size = _; simp
 have e3 : (((w.alloc o).alloc (.cells c2 t2)).alloc (.cells c3 t3)).heap.size = w.heap.size + 1 + 1 + 1 := by rw [← e2]; show (((w.alloc o).alloc (.cells c2 t2)).heap.push _).size = _; simp
 refine ⟨e3, ?_, ?_⟩
 ·exact ((below_alloc _).block _ (by rw [e2]; omega)).trans (by rw [← e1]; exact heap_alloc_new _ _)
 ·rw [← e2]; exact heap_alloc_new _ _

theorem block_cell {w : World} {b : Nat} {c : Array Value} {t : TypeId} (h : w.heap[b]? = some (.cells c t)) (i : Nat) : w.cell? ⟨b, i, none⟩ = c[i]? := by simp [World.cell?, h]
theorem block_frozen {w : World} {b : Nat} {c : Array Value} {t : TypeId} (h : w.heap[b]? = some (.cells c t)) (i : Nat) : w.frozen? ⟨b, i, none⟩ = false := by simp [World.frozen?, h]
theorem below_drew {w : World} : Below w.heap.size w w.drew := ⟨rfl, rfl, rfl, Nat.le_refl _, fun _ _ => rfl⟩

/-- What a variable's block holds, as the walk reads it. -/
theorem block_one {w : World} {b : Nat} {v : Value} {t : TypeId} (h : w.heap[b]? = some (.cells #[v] t)) : w.cell? ⟨b, 0, none⟩ = some v := by rw [block_cell h]; rfl
theorem block_lt {w : World} {b : Nat} {o : Obj} (h : w.heap[b]? = some o) : b < w.heap.size := (Array.getElem?_eq_some_iff.1 h).1
theorem block_kept {w w' : World} {b : Nat} {o : Obj} (hb : Below w.heap.size w w') (h : w.heap[b]? = some o) : w'.heap[b]? = some o := (hb.block b (block_lt h)).trans h
end Go.Proofs.YtkmjghecjlgjpaaDoor
