/-
  What is known of the cells of a record that came in. What is known of a Want that came in as an argument: a record, a number and a mark. What is known of a row of records that came in. Plain facts: a row of structs in memory, c cells each, whatever they are. No program is named here. Steps of a region that draws its order: an append to a row of the call's own. No program is named here. Plain facts: a row of records that a slice owns, each with lists of its own in a stretch of blocks of its own. No program is named here.
-/
import Derived.Test.YtfbfakdkemlbmaaGreatTxnBytesG02
import Derived.Test.YtfbfakdkemlbmaaGreatTxnBytesG00
import Derived.Deep.RegionLaw
namespace Go.Proofs.YtfbfakdkemlbmaaGreat
open Go.RowKit Go.ChangeShapes Go.WideShapes Go.ChangeAt

set_option maxRecDepth 100000 in
theorem open_recCells {H : Type} {enc : TypeId × Value → H} {w : World} {sp : Nat → Bool} {held : Bool} {fuel : Nat} {c0 c1 c2 c3 c4 c5 c6 : Value} {x : DataW H × List MemPlace} (hsp : ∀ b, sp b = true) (hf0 : DataW.trod enc Tryz.prog w 0 sp held fuel 94 [c0, c1, c2, c3, c4, c5, c6] = some x) :
  ∃ (an : Option Addr) (cn : Nat) (ato : Option Addr) (ct : Nat) (ax : Option Addr) (cx : Nat) (ai : Option Addr) (ci : Nat) (q : Rec),
   [c0, c1, c2, c3, c4, c5, c6] = cellsR (.slice an q.name.length cn) (.slice ato q.to.length ct) (.slice ax q.text.length cx) (.slice ai q.nums.length ci) q ∧ InR w an ato ax ai q ∧ SizeR maxLen q := by
 obtain ⟨xs, n, _, _, _, hlen, hf⟩ := DataW.trod_struct Tryz.underlying94 hf0
 match xs, hlen with
 | [y0, y1, y2, y3, y4, y5, y6], _ =>
  have h0 : DataW.trod enc Tryz.prog w 0 sp held n 88 (([c0, c1, c2, c3, c4, c5, c6].drop 0).take (Tryz.prog.cellsOf 88)) = some y0 := hf 0 _ rfl
  have h1 : DataW.trod enc Tryz.prog w 0 sp held n 3 (([c0, c1, c2, c3, c4, c5, c6].drop 1).take (Tryz.prog.cellsOf 3)) = some y1 := hf 1 _ rfl
  have h2 : DataW.trod enc Tryz.prog w 0 sp held n 3 (([c0, c1, c2, c3, c4, c5, c6].drop 2).take (Tryz.prog.cellsOf 3)) = some y2 := hf 2 _ rfl
  have h3 : DataW.trod enc Tryz.prog w 0 sp held n 3 (([c0, c1, c2, c3, c4, c5, c6].drop 3).take (Tryz.prog.cellsOf 3)) = some y3 := hf 3 _ rfl
  have h4 : DataW.trod enc Tryz.prog w 0 sp held n 88 (([c0, c1, c2, c3, c4, c5, c6].drop 4).take (Tryz.prog.cellsOf 88)) = some y4 := hf 4 _ rfl
  have h5 : DataW.trod enc Tryz.prog w 0 sp held n 27 (([c0, c1, c2, c3, c4, c5, c6].drop 5).take (Tryz.prog.cellsOf 27)) = some y5 := hf 5 _ rfl
  have h6 : DataW.trod enc Tryz.prog w 0 sp held n 92 (([c0, c1, c2, c3, c4, c5, c6].drop 6).take (Tryz.prog.cellsOf 92)) = some y6 := hf 6 _ rfl
  rw [cellsName] at h0 h4
  rw [cellsInt] at h1 h2 h3
  rw [cellsText] at h5
  rw [cellsNums] at h6
  simp only [List.drop_zero, List.drop_succ_cons, List.take_succ_cons, List.take_zero] at h0 h1 h2 h3 h4 h5 h6
  obtain ⟨an, cn, nm, rfl, a1, a2, a3⟩ := open_nameCell hsp h0
  obtain ⟨t1, e1, _, _⟩ := DataW.trod_int Tryz.underlying3 h1
  obtain ⟨t2, e2, _, _⟩ := DataW.trod_int Tryz.underlying3 h2
  obtain ⟨t3, e3, _, _⟩ := DataW.trod_int Tryz.underlying3 h3
  simp only [List.cons.injEq, and_true] at e1 e2 e3
  subst e1 e2 e3
  obtain ⟨ato, ct, to, rfl, f1, f2, f3⟩ := open_nameCell hsp h4
  obtain ⟨ax, cx, tx, rfl, g1, g2, _⟩ := ints_lies Tryz.underlying27 Tryz.underlying5 cellsByte hsp h5
  obtain ⟨ai, ci, nu, rfl, k1, k2⟩ := nums_lies Tryz.underlying92 Tryz.underlying3 cellsInt hsp h6
  exact ⟨an, cn, ato, ct, ax, cx, ai, ci, ⟨nm, t1, t2, t3, to, tx, nu⟩, rfl, ⟨a2, f2, g2, k2⟩, ⟨a1, a3, f1, f3, g1, k1⟩⟩
end Go.Proofs.YtfbfakdkemlbmaaGreat

namespace Go.Proofs.YtfbfakdkemlbmaaGreat
open Go.RowKit Go.ChangeShapes Go.WideShapes Go.ChangeAt

theorem cellsBool : Tryz.prog.cellsOf 4 = 1 := by kernel_rfl

end Go.Proofs.YtfbfakdkemlbmaaGreat

namespace Go.Proofs.YtfbfakdkemlbmaaGreat
open Go.RowKit Go.ChangeShapes Go.WideShapes Go.ChangeAt

/-- A record in the middle of a row. -/
def RecIn (w : World) (a : Addr) (r : Rec) : Prop := SizeR maxLen r ∧ ∃ an cn ato ct ax cx ai ci, (∀ j v, (cellsR (.slice an r.name.length cn) (.slice ato r.to.length ct) (.slice ax r.text.length cx) (.slice ai r.nums.length ci) r)[j]? = some v → w.cell? (a.add j) = some v) ∧ InR w an ato ax ai r

theorem open_recs {H : Type} {enc : TypeId × Value → H} {w : World} {sp : Nat → Bool} {held : Bool} {fuel : Nat} {v : Value} {x : DataW H × List MemPlace} (hsp : ∀ b, sp b = true)
  (h : DataW.trod enc Tryz.prog w 0 sp held fuel 23 [v] = some x) :
  ∃ (a : Option Addr) (cap : Nat) (rs : List Rec), v = .slice a rs.length cap ∧ rs.length ≤ maxLen ∧ LiesRs w a rs ∧ ∀ i, i < rs.length → SizeR maxLen (rs.getD i recZ) := by
 rcases DataW.trod_slice Tryz.underlying23 h with ⟨hv, _⟩ | ⟨a, len, cap, elems, rest, n, _, hcs, hx, _, hl, hm, hlen, hel, _⟩
 ·simp at hv
  exact ⟨none, 0, [], hv, Nat.zero_le _, .inl rfl, by simp⟩
 ·simp at hcs
  subst hcs
  have each : ∀ i, i < len → ∃ r : Rec, RecIn w (a.add (i * 7)) r := by
   intro i hi
   have hE := hel i hi
   rw [cellsRr] at hE
   have hi' : i < elems.length := by omega
   rw [List.getElem?_eq_getElem hi'] at hE
   simp only [Option.bind_eq_some_iff] at hE
   obtain ⟨c1, hc1, hy1⟩ := hE
   obtain ⟨_, hn, hc⟩ := World.cells?_some hc1
   match c1, hn with
   | [c0, c1, c2, c3, c4, c5, c6], _ =>
    obtain ⟨an, cn, ato, ct, ax, cx, ai, ci, q, he, h1, h2⟩ := open_recCells hsp hy1
    refine ⟨q, h2, an, cn, ato, ct, ax, cx, ai, ci, fun j u hj => ?_, h1⟩
    rw [← he] at hj
    rw [← hj]
    exact hc j (by have := (List.getElem?_eq_some_iff.1 hj).1; simpa using this)
  have hch : ∃ L : Nat → Rec, ∀ i, i < len → RecIn w (a.add (i * 7)) (L i) := by
   refine ⟨fun i => if hi : i < len then (each i hi).choose else recZ, fun i hi => ?_⟩
   simp only [hi, dite_true]
   exact (each i hi).choose_spec
  obtain ⟨L, hL⟩ := hch
  have hln : ((List.range len).map L).length = len := by simp
  have hget : ∀ i, i < len → ((List.range len).map L).getD i recZ = L i := fun i hi => by simp [hi]
  refine ⟨some a, cap, (List.range len).map L, by rw [hln], by omega, ?_, ?_⟩
  ·by_cases h0 : len = 0
   ·subst h0; exact .inl (by simp)
   ·right
    obtain ⟨b, off, spot⟩ := a
    obtain ⟨_, an, cn, ato, ct, ax, cx, ai, ci, hc, _⟩ := hL 0 (by omega)
    have hc0 := hc 0 _ rfl
    have hspot : spot = none := by simpa [Addr.add] using World.cell?_spot hc0
    subst hspot
    refine ⟨b, off, rfl, ?_, fun i hi => ?_⟩
    ·have := cell_lt hc0
     simpa [Addr.add] using this
    rw [hln] at hi
    rw [hget i hi]
    obtain ⟨_, an, cn, ato, ct, ax, cx, ai, ci, hc, h2⟩ := hL i hi
    refine ⟨an, cn, ato, ct, ax, cx, ai, ci, fun j u hj => ?_, h2⟩
    have := hc j u hj
    rwa [Addr.add_mid, Addr.add_mid] at this
  ·intro i hi
   rw [hln] at hi
   rw [hget i hi]
   exact (hL i hi).1
theorem cellsRecs : Tryz.prog.cellsOf 23 = 1 := by kernel_rfl
end Go.Proofs.YtfbfakdkemlbmaaGreat

namespace Go.Proofs.YtfbfakdkemlbmaaGreat
open Go.RowKit
set_option linter.unusedVariables false

/-- What E says of a struct's cells stands as long as nothing old turns. -/
def Stays {α : Type} (E : World → List Value → α → Prop) : Prop := ∀ {w w' : World} {vs : List Value} {x : α}, E w vs x → Below w.heap.size w w' → E w' vs x
/-- Structs behind a slice's head, as they came in. -/
def LiesG {α : Type} (c : Nat) (E : World → List Value → α → Prop) (d : α) (w : World) (a : Option Addr) (xs : List α) : Prop :=
 xs = [] ∨ ∃ b off, a = some ⟨b, off, none⟩ ∧ b < w.heap.size ∧ ∀ i, i < xs.length → ∃ vs, w.rangeAt b (off + i * c) vs ∧ E w vs (xs.getD i d)
/-- The slice v has these structs. -/
def HasG {α : Type} (c : Nat) (E : World → List Value → α → Prop) (d : α) (w : World) (v : Value) (xs : List α) : Prop :=
 (v = .slice none 0 0 ∧ xs = []) ∨ ∃ g off cap, v = .slice (some ⟨g, off, none⟩) xs.length cap ∧ g < w.heap.size ∧ xs.length ≤ cap ∧ cap ≤ maxLen ∧ ∀ i, i < xs.length → ∃ vs, w.rangeAt g (off + i * c) vs ∧ E w vs (xs.getD i d)
section
variable {α : Type} {c : Nat} {E : World → List Value → α → Prop} {d : α} {w w' : World} {a : Option Addr} {v : Value} {xs : List α}
theorem LiesG.below (hE : Stays E) (h : LiesG c E d w a xs) (hb : Below w.heap.size w w') : LiesG c E d w' a xs := by
 rcases h with h | ⟨b, off, ha, hlt, hc⟩
 ·exact .inl h
 ·refine .inr ⟨b, off, ha, Nat.lt_of_lt_of_le hlt hb.size, fun i hi => ?_⟩
  obtain ⟨vs, h1, h2⟩ := hc i hi
  exact ⟨vs, range_below h1 hlt hb, hE h2 hb⟩
theorem LiesG.here (h : LiesG c E d w a xs) {k : Nat} (hk : k < xs.length) : ∃ b off vs, a = some ⟨b, off, none⟩ ∧ b < w.heap.size ∧ w.rangeAt b (off + k * c) vs ∧ E w vs (xs.getD k d) := by
 rcases h with rfl | ⟨b, off, ha, hlt, hc⟩
 ·simp at hk
 ·obtain ⟨vs, h1, h2⟩ := hc k hk
  exact ⟨b, off, vs, ha, hlt, h1, h2⟩
theorem HasG.below (hE : Stays E) (h : HasG c E d w v xs) (hb : Below w.heap.size w w') : HasG c E d w' v xs := by
 rcases h with h | ⟨g, off, cap, hv, hlt, hl, hm, hc⟩
 ·exact .inl h
 ·refine .inr ⟨g, off, cap, hv, Nat.lt_of_lt_of_le hlt hb.size, hl, hm, fun i hi => ?_⟩
  obtain ⟨vs, h1, h2⟩ := hc i hi
  exact ⟨vs, range_below h1 hlt hb, hE h2 hb⟩
theorem HasG.form (h : HasG c E d w v xs) : ∃ a cap, v = .slice a xs.length cap ∧ xs.length ≤ cap ∧ cap ≤ maxLen := by
 rcases h with ⟨rfl, rfl⟩ | ⟨g, off, cap, hv, hlt, hl, hm, hc⟩
 ·exact ⟨none, 0, rfl, Nat.le_refl _, Nat.zero_le _⟩
 ·exact ⟨_, cap, hv, hl, hm⟩
theorem HasG.here {len cap : Nat} (h : HasG c E d w (.slice a len cap) xs) {k : Nat} (hk : k < xs.length) : ∃ b off vs, a = some ⟨b, off, none⟩ ∧ b < w.heap.size ∧ w.rangeAt b (off + k * c) vs ∧ E w vs (xs.getD k d) := by
 rcases h with ⟨_, rfl⟩ | ⟨g, off, cap', hv, hlt, hl, hm, hc⟩
 ·simp at hk
 ·simp only [Value.slice.injEq] at hv
  obtain ⟨vs, h1, h2⟩ := hc k hk
  exact ⟨g, off, vs, hv.1, hlt, h1, h2⟩
theorem HasG.map {E' : World → List Value → α → Prop} (hE : ∀ vs x, E w vs x → E' w vs x) (h : HasG c E d w v xs) : HasG c E' d w v xs := by
 rcases h with h | ⟨g, off, cap, hv, hlt, hl, hm, hc⟩
 ·exact .inl h
 ·refine .inr ⟨g, off, cap, hv, hlt, hl, hm, fun i hi => ?_⟩
  obtain ⟨vs, h1, h2⟩ := hc i hi
  exact ⟨vs, h1, hE _ _ h2⟩
end

/-- What is owned: O B e w vs x: the struct's cells vs, what they lead to lies in blocks of B .. e - 1. -/
structure OwnsG {α : Type} (c : Nat) (O : Nat → Nat → World → List Value → α → Prop) : Prop where
 cells : ∀ {B e : Nat} {w : World} {vs : List Value} {x : α}, O B e w vs x → vs.length = c
 below : ∀ {B e : Nat} {w w' : World} {vs : List Value} {x : α}, O B e w vs x → Below w.heap.size w w' → O B e w' vs x
 outside : ∀ {B e C D : Nat} {w w' : World} {vs : List Value} {x : α}, O B e w vs x → Outside C D w w' → e ≤ C ∨ D ≤ B → O B e w' vs x
 wide : ∀ {B e B' e' : Nat} {w : World} {vs : List Value} {x : α}, O B e w vs x → B' ≤ B → e ≤ e' → O B' e' w vs x
/-- The first k structs of a row that is being filled, in block g. -/
def FillG {α : Type} (c : Nat) (O : Nat → Nat → World → List Value → α → Prop) (d : α) (g n k : Nat) (w : World) (xs : List α) : Prop :=
 g < w.heap.size ∧ w.there g 0 (n * c) ∧ ∀ i, i < k → ∃ vs, w.rangeAt g (i * c) vs ∧ O (g + 1) w.heap.size w vs (xs.getD i d)
section
variable {α : Type} {c : Nat} {O : Nat → Nat → World → List Value → α → Prop} {d : α} {w w' : World} {v : Value} {xs : List α} {g n k : Nat}
theorem FillG.below (hO : OwnsG c O) (h : FillG c O d g n k w xs) (hb : Below w.heap.size w w') : FillG c O d g n k w' xs := by
 obtain ⟨h0, h1, h2⟩ := h
 refine ⟨Nat.lt_of_lt_of_le h0 hb.size, fun j hj => ?_, fun i hi => ?_⟩
 ·have := h1 j hj
  rw [← hb.cell (p := ⟨g, 0 + j, none⟩) h0, ← hb.frozen (p := ⟨g, 0 + j, none⟩) h0] at this
  exact this
 ·obtain ⟨vs, q1, q2⟩ := h2 i hi
  exact ⟨vs, range_below q1 h0 hb, hO.wide (hO.below q2 hb) (Nat.le_refl _) hb.size⟩
theorem FillG.here (h : FillG c O d g n k w xs) (hk : k < n) : w.there g (k * c) c := fun j hj => by
 have hle : k * c + c ≤ n * c := by
  have := Nat.mul_le_mul_right c (show k + 1 ≤ n from hk)
  rwa [Nat.add_mul, Nat.one_mul] at this
 have := h.2.1 (k * c + j) (by omega)
 rwa [Nat.zero_add] at this
theorem FillG.step (hO : OwnsG c O) (h : FillG c O d g n k w xs) (hk : k < n) {vs : List Value} (ho : O (g + 1) w.heap.size w vs (xs.getD k d)) : FillG c O d g n (k + 1) (w.setCells g (k * c) vs) xs := by
 have u := outside_sets g vs (k * c) w
 have ht := h.here hk
 have hc := hO.cells ho
 obtain ⟨h0, h1, h2⟩ := h
 refine ⟨Nat.lt_of_lt_of_le h0 u.size, World.there_setCells h1 _ _ _, fun i hi => ?_⟩
 by_cases e : i = k
 ·subst e
  exact ⟨vs, World.rangeAt_setCells_same _ _ _ _ (by rw [hc]; exact ht), hO.wide (hO.outside ho u (.inr (Nat.le_refl _))) (Nat.le_refl _) u.size⟩
 ·obtain ⟨us, q1, q2⟩ := h2 i (by omega)
  have hl : i * c + c ≤ k * c := by
   have := Nat.mul_le_mul_right c (show i + 1 ≤ k by omega)
   rwa [Nat.add_mul, Nat.one_mul] at this
  refine ⟨us, World.rangeAt_setCells_apart q1 _ _ _ (.inr (.inl ?_)), hO.wide (hO.outside q2 u (.inr (Nat.le_refl _))) (Nat.le_refl _) u.size⟩
  rw [hO.cells q2]
  exact hl
theorem FillG.outside (hO : OwnsG c O) {C D : Nat} (h : FillG c O d g n k w xs) (u : Outside C D w w') (hd : D ≤ g) : FillG c O d g n k w' xs := by
 obtain ⟨h0, h1, h2⟩ := h
 have hk : w'.heap[g]? = w.heap[g]? := u.block g h0 (by omega)
 have hc : ∀ j, w'.cell? ⟨g, j, none⟩ = w.cell? ⟨g, j, none⟩ := fun j => by unfold World.cell?; rw [hk]
 have hf : ∀ j, w'.frozen? ⟨g, j, none⟩ = w.frozen? ⟨g, j, none⟩ := fun j => by unfold World.frozen?; rw [hk]
 refine ⟨Nat.lt_of_lt_of_le h0 u.size, fun j hj => by rw [hc, hf]; exact h1 j hj, fun i hi => ?_⟩
 obtain ⟨vs, q1, q2⟩ := h2 i hi
 exact ⟨vs, fun j v hv => (hc _).trans (q1 j v hv), hO.wide (hO.outside q2 u (.inr (by omega))) (Nat.le_refl _) u.size⟩
end
/-- The slice v, in blocks from B on, owns these structs. -/
def OwnG {α : Type} (c : Nat) (O : Nat → Nat → World → List Value → α → Prop) (d : α) (B : Nat) (w : World) (v : Value) (xs : List α) : Prop :=
 ∃ g, v = .slice (some ⟨g, 0, none⟩) xs.length xs.length ∧ B ≤ g ∧ xs.length ≤ maxLen ∧ FillG c O d g xs.length xs.length w xs
section
variable {α : Type} {c : Nat} {O : Nat → Nat → World → List Value → α → Prop} {d : α} {w w' : World} {v : Value} {xs : List α} {B : Nat}
theorem OwnG.has {E : World → List Value → α → Prop} (hE : ∀ {B e : Nat} {w : World} {vs : List Value} {x : α}, O B e w vs x → E w vs x) (h : OwnG c O d B w v xs) : HasG c E d w v xs := by
 obtain ⟨g, rfl, _, hm, hf⟩ := h
 refine .inr ⟨g, 0, xs.length, rfl, hf.1, Nat.le_refl _, hm, fun i hi => ?_⟩
 obtain ⟨vs, q1, q2⟩ := hf.2.2 i hi
 exact ⟨vs, by rw [Nat.zero_add]; exact q1, hE q2⟩
theorem OwnG.outside (hO : OwnsG c O) {C D : Nat} (h : OwnG c O d B w v xs) (u : Outside C D w w') (hd : D ≤ B) : OwnG c O d B w' v xs := by
 obtain ⟨g, hv, hB, hm, hf⟩ := h
 exact ⟨g, hv, hB, hm, hf.outside hO u (by omega)⟩
theorem OwnG.below (hO : OwnsG c O) (h : OwnG c O d B w v xs) (hb : Below w.heap.size w w') : OwnG c O d B w' v xs := by
 obtain ⟨g, hv, hB, hm, hf⟩ := h
 exact ⟨g, hv, hB, hm, hf.below hO hb⟩
end
/-- make of a row of structs. -/
theorem run_makeG {P : Program} (c : Nat) (t e : TypeId) (zs : Array Value) (bytes : Nat) (ht : P.underlying t = some (.slice e)) (hinfo : (P.info? e).map (fun i => (i.zero, i.size, i.bytes)) = some (some (.agg zs), c, bytes))
  (kl kc : IntKind) (n : Nat) (hbytes : bytes * n ≤ 281474976710656) (h63 : n ≤ 9223372036854775807) (w : World) :
  (Instr.makeSlice t (.int kl (n : Int)) (.int kc (n : Int))).run P w = .ok (.slice (some ⟨w.heap.size, 0, none⟩) n n) (w.alloc (.cells (madeCells zs (n * c)) e)) := by
 obtain ⟨i, hi, hzz⟩ := Option.map_eq_some_iff.1 hinfo
 simp only [Prod.mk.injEq] at hzz
 obtain ⟨hz, hs, hb⟩ := hzz
 subst hb
 have hb' : (i.bytes : Int) * (n : Int) ≤ 281474976710656 := by
  have h : ((i.bytes * n : Nat) : Int) ≤ 281474976710656 := by omega
  rwa [Int.natCast_mul] at h
 have hr := run_make (P := P) w t e i (.agg zs) ht hi hz kl kc n n (by omega) (Int.le_refl _) hb' (by omega)
 simp only [Int.toNat_natCast, hs] at hr
 exact hr
end Go.Proofs.YtfbfakdkemlbmaaGreat

namespace Go.Proofs.YtfbfakdkemlbmaaGreat
open Go.RowKit

section
variable {P : Program} {w : World}

theorem run_append_bytes (t ty e : TypeId) (ht : P.underlying t = some (.slice e)) (hinfo : (P.info? e).map (fun i => (i.zero, i.size, i.bytes)) = some (some (.int .u8 0), 1, 1))
  (base : Nat) (v vx : Value) (l m : List Int) (hown : Own base e w v l) (hr : Reads w vx m) (hlen : l.length + m.length ≤ 1099511627776) (hbase : base ≤ w.heap.size) :
  ∃ v' w', (Builtin.append_ #[t, t] ty #[v, vx]).run P w = .ok v' w' ∧ Own base e w' v' (l ++ m) ∧ w.grownBy w' v.ownBlock := by
 obtain ⟨i0, hi, hz0, hz1, hz2⟩ := info_parts hinfo
 rcases hr with ⟨rfl, rfl⟩ | ⟨ad, cap, rfl, hc⟩
 ·exact ⟨v, w, run_append_owned_none w base t ty e i0 1 ht hi v l.length (l.map (Value.int .u8)) hown, by simpa using hown, ⟨rfl, rfl, rfl, Nat.le_refl _, fun _ _ _ => rfl⟩⟩
 ·obtain ⟨v', w', h1, h2, h3, _⟩ := run_append_own (P := P) w base t ty e i0 (.int .u8 0) 1 1 ht hi hz0 hz1 hz2 rfl (by decide) v l.length (l.map (Value.int .u8)) hown ad m.length cap (m.map (Value.int .u8)) (by simp) (news_of hc) (one_of m) (by unfold maxLen; omega) (by omega) hbase
  exact ⟨v', w', h1, by simpa [Own] using h2, h3⟩

/-- 'append(s, x...)' of bytes, as a step of a region. -/
theorem step_append_bytes {ops : Array Oper} {o : Oper} {a : Act} {K : Act → World → Prop} {Q : Exit → Act → World → Prop} {E : Prop} (hgd : o.guard = none) (s x : Operand) (t e : TypeId)
  (ho : o.op = .call { callee := .builtin .append, args := #[s, x], argTypes := #[t, t] }) (ht : P.underlying t = some (.slice e))
  (hinfo : (P.info? e).map (fun i => (i.zero, i.size, i.bytes)) = some (some (.int .u8 0), 1, 1))
  (base : Nat) (v vx : Value) (l m : List Int) (hs : a.eval s = v) (hx : a.eval x = vx) (hown : Own base e w v l) (hr : Reads w vx m) (hlen : l.length + m.length ≤ 1099511627776) (hbase : base ≤ w.heap.size)
  (h : ∀ v' w', Own base e w' v' (l ++ m) → w.grownBy w' v.ownBlock → K (a.put o.dst v') w') : if Region.wanted o (yielded ops a.tmps) = true then Oper.wp P o a w K Q else E := by
 have hw : Region.wanted o (yielded ops a.tmps) = true := by simp [Region.wanted, hgd]
 rw [if_pos hw]
 obtain ⟨v', w', hr', h2, h3⟩ := run_append_bytes (P := P) t o.type e ht hinfo base v vx l m hown hr hlen hbase
 unfold Oper.wp execOp
 simp only [ho, resolve, invoke, builtin, Sem.run_bind, Sem.run_pure, Result.andThen_ok, List.map_toArray, List.map_cons, List.map_nil, hs, hx, hr']
 exact h v' w' h2 h3

end
end Go.Proofs.YtfbfakdkemlbmaaGreat

namespace Go.Proofs.YtfbfakdkemlbmaaGreat
open Go.RowKit
set_option linter.unusedVariables false

theorem row_later {B n size : Nat} {e : TypeId} {w w' : World} {v : Value} {xs : List Value} (h : w.ownsRow B e size v n xs) (hb : Below w.heap.size w w') : w'.ownsRow B e size v n xs :=
 World.ownsRow.kept h (grown_of_below hb) (by cases hv : v.ownBlock with | none => exact .inl rfl | some k => exact .inr (by simp))
/-- The slice v owns a row of these records; all blocks lie in B .. E - 1. -/
def RowO (B E : Nat) (er el eb ei : TypeId) (w : World) (v : Value) (rs : List Rec) : Prop :=
 ∃ (xs : List Value) (f g : Nat → Nat), w.ownsRow B er 7 v rs.length xs ∧ (∀ q, v.ownBlock = some q → q < E) ∧
  ∀ i, i < rs.length → B ≤ f i ∧ g i ≤ E ∧ (∀ k, k < i → g k ≤ f i) ∧ (∀ q, v.ownBlock = some q → q < f i ∨ g i ≤ q) ∧
   ∃ vn vt vx vi, (∀ j u, (cellsR vn vt vx vi (rs.getD i recZ))[j]? = some u → xs[i * 7 + j]? = some u) ∧ OwnR (f i) (g i) el eb ei w vn vt vx vi (rs.getD i recZ)

theorem RowO.nil (B E : Nat) (er el eb ei : TypeId) (w : World) : RowO B E er el eb ei w (.slice none 0 0) [] :=
 ⟨[], fun _ => 0, fun _ => 0, World.ownsRow_nil _ _ _ _, (fun q hq => by cases hq), fun i hi => absurd hi (by simp)⟩

theorem cells_lt {vn vt vx vi : Value} {r : Rec} {j : Nat} {u : Value} (h : (cellsR vn vt vx vi r)[j]? = some u) : j < 7 := by
 have := (List.getElem?_eq_some_iff.1 h).1
 simpa [cellsR] using this

theorem RowO.has {B E : Nat} {er el eb ei : TypeId} {w : World} {v : Value} {rs : List Rec} (h : RowO B E er el eb ei w v rs) : HasRs w v rs := by
 obtain ⟨xs, f, g, ho, _, hx⟩ := h
 have ho' := ho
 rcases ho.2 with ⟨rfl, hn⟩ | ⟨b, cap, cur, rfl, hB, hg, hn, hm, hs, ht⟩
 ·exact .inl ⟨rfl, List.eq_nil_of_length_eq_zero hn⟩
 ·refine .inr ⟨b, 0, cap, rfl, block_lt hg, hn, hm, fun i hi => ?_⟩
  obtain ⟨_, _, _, _, vn, vt, vx, vi, q1, q2⟩ := hx i hi
  refine ⟨vn, vt, vx, vi, fun j u hj => ?_, q2.hasR⟩
  have hj7 := cells_lt hj
  rw [Nat.zero_add, World.ownsRow.cellAt ho' (i * 7 + j) (by omega)]
  exact q1 j u hj

theorem RowO.form {B E : Nat} {er el eb ei : TypeId} {w : World} {v : Value} {rs : List Rec} (h : RowO B E er el eb ei w v rs) : ∃ a cap, v = .slice a rs.length cap ∧ rs.length ≤ cap ∧ cap ≤ maxLen := h.has.form

theorem RowO.wide {B E B' E' : Nat} {er el eb ei : TypeId} {w : World} {v : Value} {rs : List Rec} (h : RowO B E er el eb ei w v rs) (hB : B' ≤ B) (hE : E ≤ E') : RowO B' E' er el eb ei w v rs := by
 obtain ⟨xs, f, g, ho, hq, hx⟩ := h
 refine ⟨xs, f, g, ?_, fun q e => Nat.lt_of_lt_of_le (hq q e) hE, fun i hi => ?_⟩
 ·refine ⟨ho.1, ?_⟩
  rcases ho.2 with hn | ⟨b, cap, cur, hv, hb, rest⟩
  ·exact .inl hn
  ·exact .inr ⟨b, cap, cur, hv, Nat.le_trans hB hb, rest⟩
 ·obtain ⟨h1, h2, h3⟩ := hx i hi
  exact ⟨Nat.le_trans hB h1, Nat.le_trans h2 hE, h3⟩

theorem ownsRow_out {C B D n size : Nat} {e : TypeId} {w w' : World} {v : Value} {xs : List Value} (h : w.ownsRow C e size v n xs) (u : Outside B D w w') (hq : ∀ q, v.ownBlock = some q → q < B ∨ D ≤ q) : w'.ownsRow C e size v n xs := by
 have h' := h
 refine ⟨h.1, ?_⟩
 rcases h.2 with hn | ⟨g, cap, cur, hv, hb, hg, rest⟩
 ·exact .inl hn
 ·refine .inr ⟨g, cap, cur, hv, hb, ?_, rest⟩
  rw [u.block g (block_lt hg) (hq g (by rw [hv]; rfl))]
  exact hg

theorem RowO.outside {B E C D : Nat} {er el eb ei : TypeId} {w w' : World} {v : Value} {rs : List Rec} (h : RowO B E er el eb ei w v rs) (u : Outside C D w w') (hd : E ≤ C ∨ D ≤ B) : RowO B E er el eb ei w' v rs := by
 obtain ⟨xs, f, g, ho, hq, hx⟩ := h
 refine ⟨xs, f, g, ownsRow_out ho u (fun q e => ?_), hq, fun i hi => ?_⟩
 ·have h1 := hq q e
  have h2 := (World.ownsRow.lt ho q e).1
  omega
 ·obtain ⟨h1, h2, h3, h4, vn, vt, vx, vi, q1, q2⟩ := hx i hi
  exact ⟨h1, h2, h3, h4, vn, vt, vx, vi, q1, q2.outside u (by omega)⟩

theorem RowO.below {B E : Nat} {er el eb ei : TypeId} {w w' : World} {v : Value} {rs : List Rec} (h : RowO B E er el eb ei w v rs) (hb : Below w.heap.size w w') : RowO B E er el eb ei w' v rs := by
 obtain ⟨xs, f, g, ho, hq, hx⟩ := h
 refine ⟨xs, f, g, row_later ho hb, hq, fun i hi => ?_⟩
 obtain ⟨h1, h2, h3, h4, vn, vt, vx, vi, q1, q2⟩ := hx i hi
 exact ⟨h1, h2, h3, h4, vn, vt, vx, vi, q1, q2.below hb⟩

theorem OwnR.le {B E : Nat} {el eb ei : TypeId} {w : World} {vn vt vx vi : Value} {r : Rec} (h : OwnR B E el eb ei w vn vt vx vi r) : B ≤ E := by
 obtain ⟨s1, s2, s3, a1, a2, a3, a4, _⟩ := h
 omega

/-- Where the row's own block is written, its records' lists stay. -/
theorem OwnR.grown {B E : Nat} {el eb ei : TypeId} {w w' : World} {vn vt vx vi : Value} {r : Rec} {row : Option Nat} (h : OwnR B E el eb ei w vn vt vx vi r) (hg : w.grownBy w' row) (hr : ∀ q, row = some q → q < B ∨ E ≤ q) : OwnR B E el eb ei w' vn vt vx vi r := by
 cases row with
 | none => exact h.below (below_of_grown hg)
 | some q =>
  refine h.outside (outside_grown (B := q) (E := q + 1) hg (fun k hk => by simp at hk; omega)) ?_
  have := hr q rfl
  omega

/-- One record more. -/
theorem RowO.snoc {B E C D : Nat} {er el eb ei : TypeId} {W w' : World} {v v' : Value} {rs : List Rec} {r : Rec} {vn vt vx vi : Value} (h : RowO B E er el eb ei W v rs) (hE : E ≤ C) (hD : D ≤ W.heap.size)
  (hr : OwnR C D el eb ei W vn vt vx vi r) (hB : B ≤ C) (hg : W.grownBy w' v.ownBlock) (hw : v'.ownBlock = v.ownBlock ∨ v'.ownBlock = some W.heap.size)
  (ho : ∀ xs, W.ownsRow B er 7 v rs.length xs → w'.ownsRow B er 7 v' (rs.length + 1) (xs ++ cellsR vn vt vx vi r)) : RowO B w'.heap.size er el eb ei w' v' (rs ++ [r]) := by
 obtain ⟨xs, f, g, h0, hq, hx⟩ := h
 have ho' := ho xs h0
 have hCD := hr.le
 have hlen : xs.length = rs.length * 7 := h0.1
 have hz := hg.size
 have hvq : ∀ q, v.ownBlock = some q → q < C ∨ D ≤ q := fun q e => by have := hq q e; omega
 refine ⟨xs ++ cellsR vn vt vx vi r, fun i => if i < rs.length then f i else C, fun i => if i < rs.length then g i else D, by rw [List.length_append]; exact ho', fun q e => (World.ownsRow.lt ho' q e).2, fun i hi => ?_⟩
 rw [List.length_append] at hi
 simp only [List.length_cons, List.length_nil] at hi
 by_cases hlt : i < rs.length
 ·obtain ⟨h1, h2, h3, h4, un, ut, ux, ui, q1, q2⟩ := hx i hlt
  simp only [hlt, if_true]
  have e1 : (rs ++ [r]).getD i recZ = rs.getD i recZ := by rw [List.getD_eq_getElem?_getD, List.getElem?_append_left hlt, ← List.getD_eq_getElem?_getD]
  rw [e1]
  refine ⟨h1, by omega, fun k hk => ?_, fun q e => ?_, un, ut, ux, ui, fun j u hj => ?_, q2.grown hg h4⟩
  ·rw [if_pos (by omega)]
   exact h3 k hk
  ·rcases hw with hw | hw
   ·rw [hw] at e
    exact h4 q e
   ·rw [hw] at e
    injection e with e
    omega
  ·have hj7 := cells_lt hj
   rw [List.getElem?_append_left (by omega)]
   exact q1 j u hj
 ·obtain rfl : i = rs.length := by omega
  simp only [Nat.lt_irrefl, if_false]
  have e1 : (rs ++ [r]).getD rs.length recZ = r := by rw [List.getD_eq_getElem?_getD]; simp
  rw [e1]
  refine ⟨hB, by omega, fun k hk => ?_, fun q e => ?_, vn, vt, vx, vi, fun j u hj => ?_, hr.grown hg hvq⟩
  ·rw [if_pos hk]
   have := (hx k hk).2.1
   omega
  ·rcases hw with hw | hw
   ·rw [hw] at e
    exact hvq q e
   ·rw [hw] at e
    injection e with e
    omega
  ·rw [List.getElem?_append_right (by omega), hlen, Nat.add_sub_cancel_left]
   exact hj

section
variable {P : Program} {w : World}
end
end Go.Proofs.YtfbfakdkemlbmaaGreat
