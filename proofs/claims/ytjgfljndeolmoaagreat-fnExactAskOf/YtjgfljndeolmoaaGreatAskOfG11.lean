/-
  Plain facts: tasks as lists and numbers, and how they lie in memory. No program is named here. What is known of a task that came in as an argument. Plain facts: a block of two cells.
-/
import Derived.Test.YtjgfljndeolmoaaGreatAskOfG10
import Derived.Test.YtjgfljndeolmoaaGreatAskOfG05
import Derived.Test.YtjgfljndeolmoaaGreatAskOfG01
namespace Go.Proofs.YtjgfljndeolmoaaGreat
open Go.RowKit
set_option linter.unusedVariables false

/-- A task in plain words. -/
structure Tk where
 state : Int
 id : Int
 fst : Que
 name : List (List Int)
 zone : List (List Int)
 hints : List Int
 servers : List Int
 turn : Int
 sends : Int
 steps : Int
 code : Int
 ans : List Rec
structure InTk (w : World) (af an az ah ar aa : Option Addr) (t : Tk) : Prop where
 fst : LiesL w af t.fst.name
 name : LiesL w an t.name
 zone : LiesL w az t.zone
 hints : LiesI w ah t.hints
 servers : LiesI w ar t.servers
 ans : LiesRs w aa t.ans
theorem InTk.below {w w' : World} {af an az ah ar aa : Option Addr} {t : Tk} (h : InTk w af an az ah ar aa t) (hb : Below w.heap.size w w') : InTk w' af an az ah ar aa t := ⟨h.fst.below hb, h.name.below hb, h.zone.below hb, h.hints.below hb, h.servers.below hb, h.ans.below hb⟩
structure HasTk (w : World) (vf vn vz vh vr va : Value) (t : Tk) : Prop where
 fst : HasL w vf t.fst.name
 name : HasL w vn t.name
 zone : HasL w vz t.zone
 hints : HasI w vh t.hints
 servers : HasI w vr t.servers
 ans : HasRs w va t.ans
theorem HasTk.below {w w' : World} {vf vn vz vh vr va : Value} {t : Tk} (h : HasTk w vf vn vz vh vr va t) (hb : Below w.heap.size w w') : HasTk w' vf vn vz vh vr va t := ⟨h.fst.below hb, h.name.below hb, h.zone.below hb, h.hints.below hb, h.servers.below hb, h.ans.below hb⟩
structure SizeTk (s : Nat) (t : Tk) : Prop where
 fst : SizeQu s t.fst
 name : t.name.length ≤ s
 names : ∀ i, i < t.name.length → (t.name.getD i []).length ≤ s
 zone : t.zone.length ≤ s
 zones : ∀ i, i < t.zone.length → (t.zone.getD i []).length ≤ s
 hints : t.hints.length ≤ s
 servers : t.servers.length ≤ s
 ans : t.ans.length ≤ s
 anss : ∀ i, i < t.ans.length → SizeR s (t.ans.getD i recZ)
theorem SizeTk.mono {s s' : Nat} {t : Tk} (h : SizeTk s t) (hs : s ≤ s') : SizeTk s' t := ⟨h.fst.mono hs, Nat.le_trans h.name hs, fun i hi => Nat.le_trans (h.names i hi) hs, Nat.le_trans h.zone hs, fun i hi => Nat.le_trans (h.zones i hi) hs, Nat.le_trans h.hints hs, Nat.le_trans h.servers hs, Nat.le_trans h.ans hs, fun i hi => (h.anss i hi).mono hs⟩
theorem cells13 {w : World} {b : Nat} {c0 c1 c2 c3 c4 c5 c6 c7 c8 c9 c10 c11 c12 : Value} {t : TypeId} (h : w.heap[b]? = some (.cells #[c0, c1, c2, c3, c4, c5, c6, c7, c8, c9, c10, c11, c12] t)) :
  w.cell? ⟨b, 0, none⟩ = some c0 ∧ w.cell? ⟨b, 1, none⟩ = some c1 ∧ w.cell? ⟨b, 2, none⟩ = some c2 ∧ w.cell? ⟨b, 3, none⟩ = some c3 ∧ w.cell? ⟨b, 4, none⟩ = some c4 ∧ w.cell? ⟨b, 5, none⟩ = some c5 ∧ w.cell? ⟨b, 6, none⟩ = some c6 ∧ w.cell? ⟨b, 7, none⟩ = some c7 ∧ w.cell? ⟨b, 8, none⟩ = some c8 ∧ w.cell? ⟨b, 9, none⟩ = some c9 ∧ w.cell? ⟨b, 10, none⟩ = some c10 ∧ w.cell? ⟨b, 11, none⟩ = some c11 ∧ w.cell? ⟨b, 12, none⟩ = some c12 :=
 ⟨block_cell h 0, block_cell h 1, block_cell h 2, block_cell h 3, block_cell h 4, block_cell h 5, block_cell h 6, block_cell h 7, block_cell h 8, block_cell h 9, block_cell h 10, block_cell h 11, block_cell h 12⟩
theorem frozen13 {w : World} {b : Nat} {c : Array Value} {t : TypeId} (h : w.heap[b]? = some (.cells c t)) :
  w.frozen? ⟨b, 0, none⟩ = false ∧ w.frozen? ⟨b, 1, none⟩ = false ∧ w.frozen? ⟨b, 2, none⟩ = false ∧ w.frozen? ⟨b, 3, none⟩ = false ∧ w.frozen? ⟨b, 4, none⟩ = false ∧ w.frozen? ⟨b, 5, none⟩ = false ∧ w.frozen? ⟨b, 6, none⟩ = false ∧ w.frozen? ⟨b, 7, none⟩ = false ∧ w.frozen? ⟨b, 8, none⟩ = false ∧ w.frozen? ⟨b, 9, none⟩ = false ∧ w.frozen? ⟨b, 10, none⟩ = false ∧ w.frozen? ⟨b, 11, none⟩ = false ∧ w.frozen? ⟨b, 12, none⟩ = false :=
 ⟨block_frozen h 0, block_frozen h 1, block_frozen h 2, block_frozen h 3, block_frozen h 4, block_frozen h 5, block_frozen h 6, block_frozen h 7, block_frozen h 8, block_frozen h 9, block_frozen h 10, block_frozen h 11, block_frozen h 12⟩
def set13 (w : World) (b : Nat) (c0 c1 c2 c3 c4 c5 c6 c7 c8 c9 c10 c11 c12 : Value) : World := ((((((((((((w.setCell ⟨b, 0, none⟩ c0).setCell ⟨b, 1, none⟩ c1).setCell ⟨b, 2, none⟩ c2).setCell ⟨b, 3, none⟩ c3).setCell ⟨b, 4, none⟩ c4).setCell ⟨b, 5, none⟩ c5).setCell ⟨b, 6, none⟩ c6).setCell ⟨b, 7, none⟩ c7).setCell ⟨b, 8, none⟩ c8).setCell ⟨b, 9, none⟩ c9).setCell ⟨b, 10, none⟩ c10).setCell ⟨b, 11, none⟩ c11).setCell ⟨b, 12, none⟩ c12
theorem set13_is {w : World} {b : Nat} {c0 c1 c2 c3 c4 c5 c6 c7 c8 c9 c10 c11 c12 a0 a1 a2 a3 a4 a5 a6 a7 a8 a9 a10 a11 a12 : Value} {t : TypeId} (h : w.heap[b]? = some (.cells #[a0, a1, a2, a3, a4, a5, a6, a7, a8, a9, a10, a11, a12] t)) :
  (set13 w b c0 c1 c2 c3 c4 c5 c6 c7 c8 c9 c10 c11 c12).heap[b]? = some (.cells #[c0, c1, c2, c3, c4, c5, c6, c7, c8, c9, c10, c11, c12] t) ∧ Outside b (b + 1) w (set13 w b c0 c1 c2 c3 c4 c5 c6 c7 c8 c9 c10 c11 c12) := by
 unfold set13
 have u0 : Outside b (b + 1) w w := Outside.refl _ _ _
 have h1 : (w.setCell ⟨b, 0, none⟩ c0).heap[b]? = some (.cells #[c0, a1, a2, a3, a4, a5, a6, a7, a8, a9, a10, a11, a12] t) := block_setAt h 0 c0
 have u1 := u0.trans (outside_set w b 0 c0)
 generalize w.setCell ⟨b, 0, none⟩ c0 = w1 at *
 have h2 : (w1.setCell ⟨b, 1, none⟩ c1).heap[b]? = some (.cells #[c0, c1, a2, a3, a4, a5, a6, a7, a8, a9, a10, a11, a12] t) := block_setAt h1 1 c1
 have u2 := u1.trans (outside_set w1 b 1 c1)
 generalize w1.setCell ⟨b, 1, none⟩ c1 = w2 at *
 have h3 : (w2.setCell ⟨b, 2, none⟩ c2).heap[b]? = some (.cells #[c0, c1, c2, a3, a4, a5, a6, a7, a8, a9, a10, a11, a12] t) := block_setAt h2 2 c2
 have u3 := u2.trans (outside_set w2 b 2 c2)
 generalize w2.setCell ⟨b, 2, none⟩ c2 = w3 at *
 have h4 : (w3.setCell ⟨b, 3, none⟩ c3).heap[b]? = some (.cells #[c0, c1, c2, c3, a4, a5, a6, a7, a8, a9, a10, a11, a12] t) := block_setAt h3 3 c3
 have u4 := u3.trans (outside_set w3 b 3 c3)
 generalize w3.setCell ⟨b, 3, none⟩ c3 = w4 at *
 have h5 : (w4.setCell ⟨b, 4, none⟩ c4).heap[b]? = some (.cells #[c0, c1, c2, c3, c4, a5, a6, a7, a8, a9, a10, a11, a12] t) := block_setAt h4 4 c4
 have u5 := u4.trans (outside_set w4 b 4 c4)
 generalize w4.setCell ⟨b, 4, none⟩ c4 = w5 at *
 have h6 : (w5.setCell ⟨b, 5, none⟩ c5).heap[b]? = some (.cells #[c0, c1, c2, c3, c4, c5, a6, a7, a8, a9, a10, a11, a12] t) := block_setAt h5 5 c5
 have u6 := u5.trans (outside_set w5 b 5 c5)
 generalize w5.setCell ⟨b, 5, none⟩ c5 = w6 at *
 have h7 : (w6.setCell ⟨b, 6, none⟩ c6).heap[b]? = some (.cells #[c0, c1, c2, c3, c4, c5, c6, a7, a8, a9, a10, a11, a12] t) := block_setAt h6 6 c6
 have u7 := u6.trans (outside_set w6 b 6 c6)
 generalize w6.setCell ⟨b, 6, none⟩ c6 = w7 at *
 have h8 : (w7.setCell ⟨b, 7, none⟩ c7).heap[b]? = some (.cells #[c0, c1, c2, c3, c4, c5, c6, c7, a8, a9, a10, a11, a12] t) := block_setAt h7 7 c7
 have u8 := u7.trans (outside_set w7 b 7 c7)
 generalize w7.setCell ⟨b, 7, none⟩ c7 = w8 at *
 have h9 : (w8.setCell ⟨b, 8, none⟩ c8).heap[b]? = some (.cells #[c0, c1, c2, c3, c4, c5, c6, c7, c8, a9, a10, a11, a12] t) := block_setAt h8 8 c8
 have u9 := u8.trans (outside_set w8 b 8 c8)
 generalize w8.setCell ⟨b, 8, none⟩ c8 = w9 at *
 have h10 : (w9.setCell ⟨b, 9, none⟩ c9).heap[b]? = some (.cells #[c0, c1, c2, c3, c4, c5, c6, c7, c8, c9, a10, a11, a12] t) := block_setAt h9 9 c9
 have u10 := u9.trans (outside_set w9 b 9 c9)
 generalize w9.setCell ⟨b, 9, none⟩ c9 = w10 at *
 have h11 : (w10.setCell ⟨b, 10, none⟩ c10).heap[b]? = some (.cells #[c0, c1, c2, c3, c4, c5, c6, c7, c8, c9, c10, a11, a12] t) := block_setAt h10 10 c10
 have u11 := u10.trans (outside_set w10 b 10 c10)
 generalize w10.setCell ⟨b, 10, none⟩ c10 = w11 at *
 have h12 : (w11.setCell ⟨b, 11, none⟩ c11).heap[b]? = some (.cells #[c0, c1, c2, c3, c4, c5, c6, c7, c8, c9, c10, c11, a12] t) := block_setAt h11 11 c11
 have u12 := u11.trans (outside_set w11 b 11 c11)
 generalize w11.setCell ⟨b, 11, none⟩ c11 = w12 at *
 have h13 : (w12.setCell ⟨b, 12, none⟩ c12).heap[b]? = some (.cells #[c0, c1, c2, c3, c4, c5, c6, c7, c8, c9, c10, c11, c12] t) := block_setAt h12 12 c12
 have u13 := u12.trans (outside_set w12 b 12 c12)
 exact ⟨h13, u13⟩
def setfst (w : World) (b : Nat) (c2 c3 : Value) : World := (w.setCell ⟨b, 2, none⟩ c2).setCell ⟨b, 3, none⟩ c3
theorem setfst_is {w : World} {b : Nat} {c2 c3 a0 a1 a2 a3 a4 a5 a6 a7 a8 a9 a10 a11 a12 : Value} {t : TypeId} (h : w.heap[b]? = some (.cells #[a0, a1, a2, a3, a4, a5, a6, a7, a8, a9, a10, a11, a12] t)) :
  (setfst w b c2 c3).heap[b]? = some (.cells #[a0, a1, c2, c3, a4, a5, a6, a7, a8, a9, a10, a11, a12] t) ∧ Outside b (b + 1) w (setfst w b c2 c3) := by
 unfold setfst
 have u0 : Outside b (b + 1) w w := Outside.refl _ _ _
 have h1 : (w.setCell ⟨b, 2, none⟩ c2).heap[b]? = some (.cells #[a0, a1, c2, a3, a4, a5, a6, a7, a8, a9, a10, a11, a12] t) := block_setAt h 2 c2
 have u1 := u0.trans (outside_set w b 2 c2)
 generalize w.setCell ⟨b, 2, none⟩ c2 = w1 at *
 have h2 : (w1.setCell ⟨b, 3, none⟩ c3).heap[b]? = some (.cells #[a0, a1, c2, c3, a4, a5, a6, a7, a8, a9, a10, a11, a12] t) := block_setAt h1 3 c3
 have u2 := u1.trans (outside_set w1 b 3 c3)
 exact ⟨h2, u2⟩
def setsrv (w : World) (b : Nat) (c7 c8 c9 c10 c11 : Value) : World := ((((w.setCell ⟨b, 7, none⟩ c7).setCell ⟨b, 8, none⟩ c8).setCell ⟨b, 9, none⟩ c9).setCell ⟨b, 10, none⟩ c10).setCell ⟨b, 11, none⟩ c11
theorem setsrv_is {w : World} {b : Nat} {c7 c8 c9 c10 c11 a0 a1 a2 a3 a4 a5 a6 a7 a8 a9 a10 a11 a12 : Value} {t : TypeId} (h : w.heap[b]? = some (.cells #[a0, a1, a2, a3, a4, a5, a6, a7, a8, a9, a10, a11, a12] t)) :
  (setsrv w b c7 c8 c9 c10 c11).heap[b]? = some (.cells #[a0, a1, a2, a3, a4, a5, a6, c7, c8, c9, c10, c11, a12] t) ∧ Outside b (b + 1) w (setsrv w b c7 c8 c9 c10 c11) := by
 unfold setsrv
 have u0 : Outside b (b + 1) w w := Outside.refl _ _ _
 have h1 : (w.setCell ⟨b, 7, none⟩ c7).heap[b]? = some (.cells #[a0, a1, a2, a3, a4, a5, a6, c7, a8, a9, a10, a11, a12] t) := block_setAt h 7 c7
 have u1 := u0.trans (outside_set w b 7 c7)
 generalize w.setCell ⟨b, 7, none⟩ c7 = w1 at *
 have h2 : (w1.setCell ⟨b, 8, none⟩ c8).heap[b]? = some (.cells #[a0, a1, a2, a3, a4, a5, a6, c7, c8, a9, a10, a11, a12] t) := block_setAt h1 8 c8
 have u2 := u1.trans (outside_set w1 b 8 c8)
 generalize w1.setCell ⟨b, 8, none⟩ c8 = w2 at *
 have h3 : (w2.setCell ⟨b, 9, none⟩ c9).heap[b]? = some (.cells #[a0, a1, a2, a3, a4, a5, a6, c7, c8, c9, a10, a11, a12] t) := block_setAt h2 9 c9
 have u3 := u2.trans (outside_set w2 b 9 c9)
 generalize w2.setCell ⟨b, 9, none⟩ c9 = w3 at *
 have h4 : (w3.setCell ⟨b, 10, none⟩ c10).heap[b]? = some (.cells #[a0, a1, a2, a3, a4, a5, a6, c7, c8, c9, c10, a11, a12] t) := block_setAt h3 10 c10
 have u4 := u3.trans (outside_set w3 b 10 c10)
 generalize w3.setCell ⟨b, 10, none⟩ c10 = w4 at *
 have h5 : (w4.setCell ⟨b, 11, none⟩ c11).heap[b]? = some (.cells #[a0, a1, a2, a3, a4, a5, a6, c7, c8, c9, c10, c11, a12] t) := block_setAt h4 11 c11
 have u5 := u4.trans (outside_set w4 b 11 c11)
 exact ⟨h5, u5⟩
end Go.Proofs.YtjgfljndeolmoaaGreat

namespace Go.Proofs.YtjgfljndeolmoaaGreat
open Go.RowKit Go.ChangeShapes Go.WideShapes Go.ChangeAt

theorem cells_QuestionT : Tryz.prog.cellsOf 50 = 2 := by kernel_rfl
theorem cells_Task : Tryz.prog.cellsOf 53 = 13 := by kernel_rfl
set_option maxRecDepth 100000 in
theorem open_queC {H : Type} {enc : TypeId × Value → H} {w : World} {sp : Nat → Bool} {held : Bool} {fuel : Nat} {c0 c1 : Value} {x : DataW H × List MemPlace} (hsp : ∀ b, sp b = true) (hf0 : DataW.trod enc Tryz.prog w 0 sp held fuel 50 [c0, c1] = some x) :
  ∃ (a : Option Addr) (c : Nat) (q : Que), c0 = .slice a q.name.length c ∧ c1 = .int .i64 q.type ∧ LiesL w a q.name ∧ SizeQu maxLen q := by
 obtain ⟨xs, n, _, _, _, hlen, hf⟩ := DataW.trod_struct Tryz.underlying50 hf0
 match xs, hlen with
 | [y0, y1], _ =>
  have h0 : DataW.trod enc Tryz.prog w 0 sp held n 48 (([c0, c1].drop 0).take (Tryz.prog.cellsOf 48)) = some y0 := hf 0 _ rfl
  have h1 : DataW.trod enc Tryz.prog w 0 sp held n 3 (([c0, c1].drop 1).take (Tryz.prog.cellsOf 3)) = some y1 := hf 1 _ rfl
  rw [cellsName] at h0
  rw [cellsInt] at h1
  simp only [List.drop_zero, List.drop_succ_cons, List.take_succ_cons, List.take_zero] at h0 h1
  obtain ⟨an, cn, nm, rfl, a1, a2, a3⟩ := open_nameCell hsp h0
  obtain ⟨t1, f1, _, _⟩ := DataW.trod_int Tryz.underlying3 h1
  simp only [List.cons.injEq, and_true] at f1
  subst f1
  exact ⟨an, cn, ⟨nm, t1⟩, rfl, rfl, a2, ⟨a1, a3⟩⟩
set_option maxRecDepth 100000 in
theorem open_task {H : Type} {enc : TypeId × Value → H} {w : World} {r : Reach} {b0 : Nat} {sp : Nat → Bool} {held : Bool} {v : Value} {d : DataW H} {ps : List MemPlace} (hsp : ∀ b, sp b = true)
  (hval : Value.okWide Tryz.prog w r b0 53 v) (h : DataW.Trod enc Tryz.prog w 0 sp held 53 v d ps) :
  ∃ (af : Option Addr) (cf : Nat) (an : Option Addr) (cn : Nat) (az : Option Addr) (cz : Nat) (ah : Option Addr) (ch : Nat) (ar : Option Addr) (cr : Nat) (aa : Option Addr) (ca : Nat) (t : Tk),
   v = .agg #[.int .i64 t.state, .int .i64 t.id, .slice af t.fst.name.length cf, .int .i64 t.fst.type, .slice an t.name.length cn, .slice az t.zone.length cz, .slice ah t.hints.length ch, .slice ar t.servers.length cr, .int .i64 t.turn, .int .i64 t.sends, .int .i64 t.steps, .int .i64 t.code, .slice aa t.ans.length ca] ∧ InTk w af an az ah ar aa t ∧ SizeTk maxLen t := by
 obtain ⟨cs, rfl, hs⟩ := okWide_struct Tryz.underlying53 hval
 rw [cells_Task] at hs
 obtain ⟨e0, e1, e2, e3, e4, e5, e6, e7, e8, e9, e10, e11, e12, rfl⟩ : ∃ e0 e1 e2 e3 e4 e5 e6 e7 e8 e9 e10 e11 e12, cs = #[e0, e1, e2, e3, e4, e5, e6, e7, e8, e9, e10, e11, e12] := by
  cases cs with
  | mk l =>
   match l, hs with
   | [e0, e1, e2, e3, e4, e5, e6, e7, e8, e9, e10, e11, e12], _ => exact ⟨e0, e1, e2, e3, e4, e5, e6, e7, e8, e9, e10, e11, e12, rfl⟩
 obtain ⟨fuel, hf0⟩ := h
 have hcells : (Value.agg #[e0, e1, e2, e3, e4, e5, e6, e7, e8, e9, e10, e11, e12]).cells.toList = [e0, e1, e2, e3, e4, e5, e6, e7, e8, e9, e10, e11, e12] := by simp [Value.cells]
 rw [hcells] at hf0
 obtain ⟨xs, n, _, _, _, hlen, hf⟩ := DataW.trod_struct Tryz.underlying53 hf0
 match xs, hlen with
 | [y0, y1, y2, y3, y4, y5, y6, y7, y8, y9, y10, y11], _ =>
  have h0 : DataW.trod enc Tryz.prog w 0 sp held n 3 (([e0, e1, e2, e3, e4, e5, e6, e7, e8, e9, e10, e11, e12].drop 0).take (Tryz.prog.cellsOf 3)) = some y0 := hf 0 _ rfl
  have h1 : DataW.trod enc Tryz.prog w 0 sp held n 3 (([e0, e1, e2, e3, e4, e5, e6, e7, e8, e9, e10, e11, e12].drop 1).take (Tryz.prog.cellsOf 3)) = some y1 := hf 1 _ rfl
  have h2 : DataW.trod enc Tryz.prog w 0 sp held n 50 (([e0, e1, e2, e3, e4, e5, e6, e7, e8, e9, e10, e11, e12].drop 2).take (Tryz.prog.cellsOf 50)) = some y2 := hf 2 _ rfl
  have h3 : DataW.trod enc Tryz.prog w 0 sp held n 48 (([e0, e1, e2, e3, e4, e5, e6, e7, e8, e9, e10, e11, e12].drop 4).take (Tryz.prog.cellsOf 48)) = some y3 := hf 3 _ rfl
  have h4 : DataW.trod enc Tryz.prog w 0 sp held n 48 (([e0, e1, e2, e3, e4, e5, e6, e7, e8, e9, e10, e11, e12].drop 5).take (Tryz.prog.cellsOf 48)) = some y4 := hf 4 _ rfl
  have h5 : DataW.trod enc Tryz.prog w 0 sp held n 51 (([e0, e1, e2, e3, e4, e5, e6, e7, e8, e9, e10, e11, e12].drop 6).take (Tryz.prog.cellsOf 51)) = some y5 := hf 5 _ rfl
  have h6 : DataW.trod enc Tryz.prog w 0 sp held n 51 (([e0, e1, e2, e3, e4, e5, e6, e7, e8, e9, e10, e11, e12].drop 7).take (Tryz.prog.cellsOf 51)) = some y6 := hf 6 _ rfl
  have h7 : DataW.trod enc Tryz.prog w 0 sp held n 3 (([e0, e1, e2, e3, e4, e5, e6, e7, e8, e9, e10, e11, e12].drop 8).take (Tryz.prog.cellsOf 3)) = some y7 := hf 7 _ rfl
  have h8 : DataW.trod enc Tryz.prog w 0 sp held n 3 (([e0, e1, e2, e3, e4, e5, e6, e7, e8, e9, e10, e11, e12].drop 9).take (Tryz.prog.cellsOf 3)) = some y8 := hf 8 _ rfl
  have h9 : DataW.trod enc Tryz.prog w 0 sp held n 3 (([e0, e1, e2, e3, e4, e5, e6, e7, e8, e9, e10, e11, e12].drop 10).take (Tryz.prog.cellsOf 3)) = some y9 := hf 9 _ rfl
  have h10 : DataW.trod enc Tryz.prog w 0 sp held n 3 (([e0, e1, e2, e3, e4, e5, e6, e7, e8, e9, e10, e11, e12].drop 11).take (Tryz.prog.cellsOf 3)) = some y10 := hf 10 _ rfl
  have h11 : DataW.trod enc Tryz.prog w 0 sp held n 23 (([e0, e1, e2, e3, e4, e5, e6, e7, e8, e9, e10, e11, e12].drop 12).take (Tryz.prog.cellsOf 23)) = some y11 := hf 11 _ rfl
  rw [cellsInt] at h0
  rw [cellsInt] at h1
  rw [cells_QuestionT] at h2
  rw [cellsName] at h3
  rw [cellsName] at h4
  rw [cellsNums] at h5
  rw [cellsNums] at h6
  rw [cellsInt] at h7
  rw [cellsInt] at h8
  rw [cellsInt] at h9
  rw [cellsInt] at h10
  rw [cellsRecs] at h11
  simp only [List.drop_zero, List.drop_succ_cons, List.take_succ_cons, List.take_zero] at h0 h1 h2 h3 h4 h5 h6 h7 h8 h9 h10 h11
  obtain ⟨af, cf, q, g2, g3, q1, q2⟩ := open_queC hsp h2
  obtain ⟨an, cn, nm, g4, n1, n2, n3⟩ := open_nameCell hsp h3
  obtain ⟨az, cz, zn, g5, z1, z2, z3⟩ := open_nameCell hsp h4
  obtain ⟨ah, ch, lh, g6, i1, i2⟩ := nums_lies Tryz.underlying51 Tryz.underlying3 cellsInt hsp h5
  obtain ⟨ar, cr, lr, g7, j1, j2⟩ := nums_lies Tryz.underlying51 Tryz.underlying3 cellsInt hsp h6
  obtain ⟨aa, ca, rs, g8, r1, r2, r3⟩ := open_recs hsp h11
  obtain ⟨t0, f0, _, _⟩ := DataW.trod_int Tryz.underlying3 h0
  obtain ⟨t1, f1, _, _⟩ := DataW.trod_int Tryz.underlying3 h1
  obtain ⟨t7, f7, _, _⟩ := DataW.trod_int Tryz.underlying3 h7
  obtain ⟨t8, f8, _, _⟩ := DataW.trod_int Tryz.underlying3 h8
  obtain ⟨t9, f9, _, _⟩ := DataW.trod_int Tryz.underlying3 h9
  obtain ⟨t10, f10, _, _⟩ := DataW.trod_int Tryz.underlying3 h10
  simp only [List.cons.injEq, and_true] at f0 f1 f7 f8 f9 f10
  subst f0 f1 f7 f8 f9 f10 g2 g3 g4 g5 g6 g7 g8
  exact ⟨af, cf, an, cn, az, cz, ah, ch, ar, cr, aa, ca, ⟨t0, t1, q, nm, zn, lh, lr, t7, t8, t9, t10, rs⟩, rfl, ⟨q1, n2, z2, i2, j2, r2⟩, ⟨q2, n1, n3, z1, z3, i1, j1, r1, r3⟩⟩
end Go.Proofs.YtjgfljndeolmoaaGreat

namespace Go.Proofs.YtjgfljndeolmoaaGreat
open Go.RowKit

theorem cells2 {w : World} {b : Nat} {c0 c1 : Value} {t : TypeId} (h : w.heap[b]? = some (.cells #[c0, c1] t)) : w.cell? ⟨b, 0, none⟩ = some c0 ∧ w.cell? ⟨b, 1, none⟩ = some c1 := ⟨block_cell h 0, block_cell h 1⟩
theorem frozen2 {w : World} {b : Nat} {c : Array Value} {t : TypeId} (h : w.heap[b]? = some (.cells c t)) : w.frozen? ⟨b, 0, none⟩ = false ∧ w.frozen? ⟨b, 1, none⟩ = false := ⟨block_frozen h 0, block_frozen h 1⟩
end Go.Proofs.YtjgfljndeolmoaaGreat
