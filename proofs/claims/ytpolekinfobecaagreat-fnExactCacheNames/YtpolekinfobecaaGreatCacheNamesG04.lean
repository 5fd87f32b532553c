/-
  Plain facts: a record as lists and numbers, and how it lies in memory. No program is named here. What is known of a record that came in as an argument: a struct of two names, three numbers, a text and a list of numbers, wherever they lie.
-/
import Derived.Test.YtpolekinfobecaaGreatCacheNamesG03
import Derived.Test.YtpolekinfobecaaGreatCacheNamesG01
import Derived.Test.YtpolekinfobecaaGreatProg
namespace Go.Proofs.YtpolekinfobecaaGreat
open Go.RowKit

/-- A record. -/
structure Rec where
 name : List (List Int)
 type : Int
 ttl : Int
 addr : Int
 to : List (List Int)
 text : List Int
 nums : List Int

/-- A record that came in. -/
structure InR (w : World) (an ato ax ai : Option Addr) (r : Rec) : Prop where
 name : LiesL w an r.name
 to : LiesL w ato r.to
 text : Lies w ax r.text
 nums : LiesI w ai r.nums
theorem InR.below {w w' : World} {an ato ax ai : Option Addr} {r : Rec} (h : InR w an ato ax ai r) (hb : Below w.heap.size w w') : InR w' an ato ax ai r := ⟨h.name.below hb, h.to.below hb, h.text.below hb, h.nums.below hb⟩

/-- How long its lists are. -/
structure SizeR (m : Nat) (r : Rec) : Prop where
 name : r.name.length ≤ m
 names : ∀ i, i < r.name.length → (r.name.getD i []).length ≤ m
 to : r.to.length ≤ m
 tos : ∀ i, i < r.to.length → (r.to.getD i []).length ≤ m
 text : r.text.length ≤ m
 nums : r.nums.length ≤ m
theorem SizeR.mono {m m' : Nat} {r : Rec} (h : SizeR m r) (hm : m ≤ m') : SizeR m' r :=
 ⟨Nat.le_trans h.name hm, fun i hi => Nat.le_trans (h.names i hi) hm, Nat.le_trans h.to hm, fun i hi => Nat.le_trans (h.tos i hi) hm, Nat.le_trans h.text hm, Nat.le_trans h.nums hm⟩

/-- The slices of a record's lists have them. -/
structure HasR (w : World) (vn vt vx vi : Value) (r : Rec) : Prop where
 name : HasL w vn r.name
 to : HasL w vt r.to
 text : Has w vx r.text
 nums : HasI w vi r.nums
theorem HasR.below {w w' : World} {vn vt vx vi : Value} {r : Rec} (h : HasR w vn vt vx vi r) (hb : Below w.heap.size w w') : HasR w' vn vt vx vi r := ⟨h.name.below hb, h.to.below hb, h.text.below hb, h.nums.below hb⟩

/-- The record's lists are owned, in blocks of B .. E - 1, each list in a stretch of its own. -/
def OwnR (B E : Nat) (el eb ei : TypeId) (w : World) (vn vt vx vi : Value) (r : Rec) : Prop :=
 ∃ s1 s2 s3, B ≤ s1 ∧ s1 ≤ s2 ∧ s2 ≤ s3 ∧ s3 ≤ E ∧ OwnN B s1 el eb w vn r.name ∧ OwnN s1 s2 el eb w vt r.to ∧ OwnB s2 s3 eb w vx r.text ∧ OwnBI s3 E ei w vi r.nums
theorem OwnR.hasR {B E : Nat} {el eb ei : TypeId} {w : World} {vn vt vx vi : Value} {r : Rec} (h : OwnR B E el eb ei w vn vt vx vi r) : HasR w vn vt vx vi r := by
 obtain ⟨s1, s2, s3, _, _, _, _, h1, h2, h3, h4⟩ := h
 exact ⟨h1.hasL, h2.hasL, h3.has, h4.has⟩
theorem OwnR.below {B E : Nat} {el eb ei : TypeId} {w w' : World} {vn vt vx vi : Value} {r : Rec} (h : OwnR B E el eb ei w vn vt vx vi r) (hb : Below w.heap.size w w') : OwnR B E el eb ei w' vn vt vx vi r := by
 obtain ⟨s1, s2, s3, a1, a2, a3, a4, h1, h2, h3, h4⟩ := h
 exact ⟨s1, s2, s3, a1, a2, a3, a4, h1.below hb, h2.below hb, h3.below hb, h4.below hb⟩
theorem OwnR.outside {B E C D : Nat} {el eb ei : TypeId} {w w' : World} {vn vt vx vi : Value} {r : Rec} (h : OwnR B E el eb ei w vn vt vx vi r) (u : Outside C D w w') (hd : E ≤ C ∨ D ≤ B) : OwnR B E el eb ei w' vn vt vx vi r := by
 obtain ⟨s1, s2, s3, a1, a2, a3, a4, h1, h2, h3, h4⟩ := h
 exact ⟨s1, s2, s3, a1, a2, a3, a4, h1.outside u (by omega), h2.outside u (by omega), h3.outside u (by omega), h4.outside u (by omega)⟩

/-- A block of seven cells, as the walk reads it. -/
theorem cells7 {w : World} {b : Nat} {c0 c1 c2 c3 c4 c5 c6 : Value} {t : TypeId} (h : w.heap[b]? = some (.cells #[c0, c1, c2, c3, c4, c5, c6] t)) :
  w.cell? ⟨b, 0, none⟩ = some c0 ∧ w.cell? ⟨b, 1, none⟩ = some c1 ∧ w.cell? ⟨b, 2, none⟩ = some c2 ∧ w.cell? ⟨b, 3, none⟩ = some c3 ∧ w.cell? ⟨b, 4, none⟩ = some c4 ∧ w.cell? ⟨b, 5, none⟩ = some c5 ∧ w.cell? ⟨b, 6, none⟩ = some c6 :=
 ⟨block_cell h 0, block_cell h 1, block_cell h 2, block_cell h 3, block_cell h 4, block_cell h 5, block_cell h 6⟩
theorem frozen7 {w : World} {b : Nat} {c : Array Value} {t : TypeId} (h : w.heap[b]? = some (.cells c t)) :
  w.frozen? ⟨b, 0, none⟩ = false ∧ w.frozen? ⟨b, 1, none⟩ = false ∧ w.frozen? ⟨b, 2, none⟩ = false ∧ w.frozen? ⟨b, 3, none⟩ = false ∧ w.frozen? ⟨b, 4, none⟩ = false ∧ w.frozen? ⟨b, 5, none⟩ = false ∧ w.frozen? ⟨b, 6, none⟩ = false :=
 ⟨block_frozen h 0, block_frozen h 1, block_frozen h 2, block_frozen h 3, block_frozen h 4, block_frozen h 5, block_frozen h 6⟩
theorem block_setAt {w : World} {b : Nat} {c : Array Value} {t : TypeId} (h : w.heap[b]? = some (.cells c t)) (i : Nat) (v : Value) : (w.setCell ⟨b, i, none⟩ v).heap[b]? = some (.cells (c.setIfInBounds i v) t) := by
 simp [World.setCell, Array.getElem?_modify, h]

theorem outside_set (w : World) (b i : Nat) (v : Value) : Outside b (b + 1) w (w.setCell ⟨b, i, none⟩ v) := outside_grown (grown_setCell w ⟨b, i, none⟩ v) (fun k hk => by simp at hk; omega)
theorem Outside.wide {B E B' E' : Nat} {w w' : World} (h : Outside B E w w') (hB : B' ≤ B) (hE : E ≤ E') : Outside B' E' w w' := ⟨h.os, h.tape, h.output, h.size, fun k hk hn => h.block k hk (by omega)⟩
theorem OwnN.wide {C E C' E' : Nat} {el eb : TypeId} {w : World} {v : Value} {n : List (List Int)} (h : OwnN C E el eb w v n) (hC : C' ≤ C) (hE : E ≤ E') : OwnN C' E' el eb w v n := by
 obtain ⟨vs, ho, hu, hd, hv, he⟩ := h
 refine ⟨vs, ownsRow_mono ho hC, fun i hi => ?_, hd, fun q hq => Nat.lt_of_lt_of_le (hv q hq) hE, fun i u q h1 h2 => Nat.lt_of_lt_of_le (he i u q h1 h2) hE⟩
 obtain ⟨x, h1, h2⟩ := hu i hi
 exact ⟨x, h1, h2.mono hC⟩
theorem OwnB.wide {C E C' E' : Nat} {e : TypeId} {w : World} {v : Value} {l : List Int} (h : OwnB C E e w v l) (hC : C' ≤ C) (hE : E ≤ E') : OwnB C' E' e w v l := ⟨h.1.mono hC, fun q hq => Nat.lt_of_lt_of_le (h.2 q hq) hE⟩
theorem OwnBI.wide {C E C' E' : Nat} {e : TypeId} {w : World} {v : Value} {l : List Int} (h : OwnBI C E e w v l) (hC : C' ≤ C) (hE : E ≤ E') : OwnBI C' E' e w v l := ⟨h.1.mono hC, fun q hq => Nat.lt_of_lt_of_le (h.2 q hq) hE⟩
/-- The same cells, elsewhere. -/
theorem set7h {w0 : World} {b : Nat} {c0 c1 c2 c3 c4 c5 c6 a0 a1 a2 a3 a4 a5 a6 : Value} {t : TypeId} (h0 : w0.heap[b]? = some (.cells #[a0, a1, a2, a3, a4, a5, a6] t)) :
  (((((((w0.setCell ⟨b, 0, none⟩ c0).setCell ⟨b, 1, none⟩ c1).setCell ⟨b, 2, none⟩ c2).setCell ⟨b, 3, none⟩ c3).setCell ⟨b, 4, none⟩ c4).setCell ⟨b, 5, none⟩ c5).setCell ⟨b, 6, none⟩ c6).heap[b]? = some (.cells #[c0, c1, c2, c3, c4, c5, c6] t) := by
 have h1 : (w0.setCell ⟨b, 0, none⟩ c0).heap[b]? = some (.cells #[c0, a1, a2, a3, a4, a5, a6] t) := block_setAt h0 0 c0
 generalize w0.setCell ⟨b, 0, none⟩ c0 = w1 at h1 ⊢
 have h2 : (w1.setCell ⟨b, 1, none⟩ c1).heap[b]? = some (.cells #[c0, c1, a2, a3, a4, a5, a6] t) := block_setAt h1 1 c1
 generalize w1.setCell ⟨b, 1, none⟩ c1 = w2 at h2 ⊢
 have h3 : (w2.setCell ⟨b, 2, none⟩ c2).heap[b]? = some (.cells #[c0, c1, c2, a3, a4, a5, a6] t) := block_setAt h2 2 c2
 generalize w2.setCell ⟨b, 2, none⟩ c2 = w3 at h3 ⊢
 have h4 : (w3.setCell ⟨b, 3, none⟩ c3).heap[b]? = some (.cells #[c0, c1, c2, c3, a4, a5, a6] t) := block_setAt h3 3 c3
 generalize w3.setCell ⟨b, 3, none⟩ c3 = w4 at h4 ⊢
 have h5 : (w4.setCell ⟨b, 4, none⟩ c4).heap[b]? = some (.cells #[c0, c1, c2, c3, c4, a5, a6] t) := block_setAt h4 4 c4
 generalize w4.setCell ⟨b, 4, none⟩ c4 = w5 at h5 ⊢
 have h6 : (w5.setCell ⟨b, 5, none⟩ c5).heap[b]? = some (.cells #[c0, c1, c2, c3, c4, c5, a6] t) := block_setAt h5 5 c5
 generalize w5.setCell ⟨b, 5, none⟩ c5 = w6 at h6 ⊢
 have h7 : (w6.setCell ⟨b, 6, none⟩ c6).heap[b]? = some (.cells #[c0, c1, c2, c3, c4, c5, c6] t) := block_setAt h6 6 c6
 exact h7
theorem set7 {w0 : World} {b : Nat} {c0 c1 c2 c3 c4 c5 c6 a0 a1 a2 a3 a4 a5 a6 : Value} {t : TypeId} (h0 : w0.heap[b]? = some (.cells #[a0, a1, a2, a3, a4, a5, a6] t)) :
  (((((((w0.setCell ⟨b, 0, none⟩ c0).setCell ⟨b, 1, none⟩ c1).setCell ⟨b, 2, none⟩ c2).setCell ⟨b, 3, none⟩ c3).setCell ⟨b, 4, none⟩ c4).setCell ⟨b, 5, none⟩ c5).setCell ⟨b, 6, none⟩ c6).heap[b]? = some (.cells #[c0, c1, c2, c3, c4, c5, c6] t) ∧ Outside b (b + 1) w0 (((((((w0.setCell ⟨b, 0, none⟩ c0).setCell ⟨b, 1, none⟩ c1).setCell ⟨b, 2, none⟩ c2).setCell ⟨b, 3, none⟩ c3).setCell ⟨b, 4, none⟩ c4).setCell ⟨b, 5, none⟩ c5).setCell ⟨b, 6, none⟩ c6) :=
 ⟨set7h h0, ((((((outside_set _ _ _ _).trans (outside_set _ _ _ _)).trans (outside_set _ _ _ _)).trans (outside_set _ _ _ _)).trans (outside_set _ _ _ _)).trans (outside_set _ _ _ _)).trans (outside_set _ _ _ _)⟩
end Go.Proofs.YtpolekinfobecaaGreat

namespace Go.Proofs.YtpolekinfobecaaGreat
open Go.RowKit Go.ChangeShapes Go.WideShapes Go.ChangeAt

theorem nums_lies {H : Type} {enc : TypeId × Value → H} {P : Program} {w : World} {sp : Nat → Bool} {held : Bool} {t e : TypeId} {fuel : Nat} {v : Value} {x : DataW H × List MemPlace}
  (ht : P.underlying t = some (.slice e)) (he : P.underlying e = some (.int .i64)) (hc : P.cellsOf e = 1) (hsp : ∀ b, sp b = true) (h : DataW.trod enc P w 0 sp held fuel t [v] = some x) :
  ∃ (a : Option Addr) (cap : Nat) (l : List Int), v = .slice a l.length cap ∧ l.length ≤ maxLen ∧ LiesI w a l := by
 have key : ∃ a len cap zs, v = .slice a len cap ∧ IsRow .i64 w a len cap zs := by
  rcases open_ints ht he hc h with ⟨hcs, _⟩ | ⟨x, l, c, zs, hcs, _, hl, hm, hz, _, hcell, hwz⟩
  ·simp at hcs
   exact ⟨none, 0, 0, [], hcs, .inl ⟨rfl, rfl, rfl, rfl⟩⟩
  ·simp at hcs
   exact ⟨some x, l, c, zs, hcs, .inr ⟨_, rfl, hl, hm, by simpa [hsp] using hz, hcell, hwz⟩⟩
 obtain ⟨a, len, cap, zs, rfl, hr⟩ := key
 obtain ⟨l, rfl, hm, hL⟩ := isRow_liesI hr
 exact ⟨a, cap, l, rfl, hm, hL⟩

theorem cellsRr : Tryz.prog.cellsOf 108 = 7 := by kernel_rfl
theorem cellsName : Tryz.prog.cellsOf 72 = 1 := by kernel_rfl
theorem cellsInt : Tryz.prog.cellsOf 3 = 1 := by kernel_rfl
theorem cellsText : Tryz.prog.cellsOf 53 = 1 := by kernel_rfl
theorem cellsTexts : Tryz.prog.cellsOf 42 = 1 := by kernel_rfl
theorem cellsNums : Tryz.prog.cellsOf 54 = 1 := by kernel_rfl
theorem cellsByte : Tryz.prog.cellsOf 5 = 1 := by kernel_rfl

theorem open_nameCell {H : Type} {enc : TypeId × Value → H} {w : World} {sp : Nat → Bool} {held : Bool} {n : Nat} {c : Value} {y : DataW H × List MemPlace} (hsp : ∀ b, sp b = true) (h : DataW.trod enc Tryz.prog w 0 sp held n 72 [c] = some y) :
  ∃ (a : Option Addr) (cap : Nat) (m : List (List Int)), c = .slice a m.length cap ∧ m.length ≤ maxLen ∧ LiesL w a m ∧ ∀ i, i < m.length → (m.getD i []).length ≤ maxLen := by
 obtain ⟨y0, k, _, _, hy⟩ := trod_struct1 Tryz.underlying72 h
 dsimp only at hy
 rw [cellsTexts] at hy
 simp only [List.drop_zero, List.take_succ_cons, List.take_zero] at hy
 obtain ⟨a, cap, m, rfl, hm, hL, hb⟩ := open_texts Tryz.underlying42 Tryz.underlying53 Tryz.underlying5 cellsText cellsByte hsp hy
 exact ⟨a, cap, m, rfl, hm, hL, fun i hi => (hb i hi).1⟩

end Go.Proofs.YtpolekinfobecaaGreat
