/-
  What is known of a message that came in as an argument. Plain facts: transactions as lists and numbers, and how they lie in memory. No program is named here.
-/
import Derived.Test.YtnplmeifhebhhaaGreatTxnOkG03
import Derived.Test.YtnplmeifhebhhaaGreatTxnOkG06
namespace Go.Proofs.YtnplmeifhebhhaaGreat
open Go.RowKit Go.ChangeShapes Go.WideShapes Go.ChangeAt

theorem cells_Question : Tryz.prog.cellsOf 92 = 2 := by kernel_rfl
theorem cells_Want : Tryz.prog.cellsOf 99 = 9 := by kernel_rfl
theorem cells_Qs : Tryz.prog.cellsOf 22 = 1 := by kernel_rfl
theorem cells_Ws : Tryz.prog.cellsOf 24 = 1 := by kernel_rfl
theorem cells_Msg : Tryz.prog.cellsOf 26 = 11 := by kernel_rfl

set_option maxRecDepth 100000 in
theorem open_queCells {H : Type} {enc : TypeId × Value → H} {w : World} {sp : Nat → Bool} {held : Bool} {fuel : Nat} {c0 c1 : Value} {x : DataW H × List MemPlace} (hsp : ∀ b, sp b = true) (hf0 : DataW.trod enc Tryz.prog w 0 sp held fuel 92 [c0, c1] = some x) :
  ∃ q : Que, InQu w [c0, c1] q ∧ SizeQu maxLen q := by
 obtain ⟨xs, n, _, _, _, hlen, hf⟩ := DataW.trod_struct Tryz.underlying92 hf0
 match xs, hlen with
 | [y0, y1], _ =>
  have h0 : DataW.trod enc Tryz.prog w 0 sp held n 90 (([c0, c1].drop 0).take (Tryz.prog.cellsOf 90)) = some y0 := hf 0 _ rfl
  have h1 : DataW.trod enc Tryz.prog w 0 sp held n 3 (([c0, c1].drop 1).take (Tryz.prog.cellsOf 3)) = some y1 := hf 1 _ rfl
  rw [cellsName] at h0
  rw [cellsInt] at h1
  simp only [List.drop_zero, List.drop_succ_cons, List.take_succ_cons, List.take_zero] at h0 h1
  obtain ⟨an, cn, nm, rfl, a1, a2, a3⟩ := open_nameCell hsp h0
  obtain ⟨t1, e1, _, _⟩ := DataW.trod_int Tryz.underlying3 h1
  simp only [List.cons.injEq, and_true] at e1
  subst e1
  exact ⟨⟨nm, t1⟩, ⟨an, cn, rfl, a2⟩, ⟨a1, a3⟩⟩

set_option maxRecDepth 100000 in
theorem open_wantCells {H : Type} {enc : TypeId × Value → H} {w : World} {sp : Nat → Bool} {held : Bool} {fuel : Nat} {c0 c1 c2 c3 c4 c5 c6 c7 c8 : Value} {x : DataW H × List MemPlace} (hsp : ∀ b, sp b = true) (hf0 : DataW.trod enc Tryz.prog w 0 sp held fuel 99 [c0, c1, c2, c3, c4, c5, c6, c7, c8] = some x) :
  ∃ q : Wnt, InWn w [c0, c1, c2, c3, c4, c5, c6, c7, c8] q ∧ SizeR maxLen q.rr := by
 obtain ⟨xs, n, _, _, _, hlen, hf⟩ := DataW.trod_struct Tryz.underlying99 hf0
 match xs, hlen with
 | [y0, y1, y2], _ =>
  have h0 : DataW.trod enc Tryz.prog w 0 sp held n 96 (([c0, c1, c2, c3, c4, c5, c6, c7, c8].drop 0).take (Tryz.prog.cellsOf 96)) = some y0 := hf 0 _ rfl
  have h1 : DataW.trod enc Tryz.prog w 0 sp held n 3 (([c0, c1, c2, c3, c4, c5, c6, c7, c8].drop 7).take (Tryz.prog.cellsOf 3)) = some y1 := hf 1 _ rfl
  have h2 : DataW.trod enc Tryz.prog w 0 sp held n 4 (([c0, c1, c2, c3, c4, c5, c6, c7, c8].drop 8).take (Tryz.prog.cellsOf 4)) = some y2 := hf 2 _ rfl
  rw [cellsRr] at h0
  rw [cellsInt] at h1
  rw [cellsBool] at h2
  simp only [List.drop_zero, List.drop_succ_cons, List.take_succ_cons, List.take_zero] at h0 h1 h2
  obtain ⟨an, cn, ato, ct, ax, cx, ai, ci, q, e0, a1, a2⟩ := open_recCells hsp h0
  obtain ⟨t1, e1, _, _⟩ := DataW.trod_int Tryz.underlying3 h1
  obtain ⟨t2, e2, _⟩ := DataW.trod_bool Tryz.underlying4 h2
  unfold cellsR at e0
  simp only [List.cons.injEq, and_true] at e0 e1 e2
  obtain ⟨rfl, rfl, rfl, rfl, rfl, rfl, rfl⟩ := e0
  subst e1 e2
  exact ⟨⟨q, t1, t2⟩, ⟨an, cn, ato, ct, ax, cx, ai, ci, rfl, a1⟩, a2⟩

/-- A Question in the middle of a row. -/
def QuestionIn (w : World) (a : Addr) (x : Que) : Prop := SizeQu maxLen x ∧ ∃ vs, vs.length = 2 ∧ (∀ j v, vs[j]? = some v → w.cell? (a.add j) = some v) ∧ InQu w vs x
theorem open_Questions {H : Type} {enc : TypeId × Value → H} {w : World} {sp : Nat → Bool} {held : Bool} {fuel : Nat} {v : Value} {x : DataW H × List MemPlace} (hsp : ∀ b, sp b = true)
  (h : DataW.trod enc Tryz.prog w 0 sp held fuel 22 [v] = some x) :
  ∃ (a : Option Addr) (cap : Nat) (rs : List Que), v = .slice a rs.length cap ∧ rs.length ≤ maxLen ∧ LiesQs w a rs ∧ ∀ i, i < rs.length → SizeQu maxLen (rs.getD i queZ) := by
 rcases DataW.trod_slice Tryz.underlying22 h with ⟨hv, _⟩ | ⟨a, len, cap, elems, rest, n, _, hcs, hx, _, hl, hm, hlen, hel, _⟩
 ·simp at hv
  exact ⟨none, 0, [], hv, Nat.zero_le _, .inl rfl, by simp⟩
 ·simp at hcs
  subst hcs
  have each : ∀ i, i < len → ∃ r : Que, QuestionIn w (a.add (i * 2)) r := by
   intro i hi
   have hE := hel i hi
   rw [cells_Question] at hE
   have hi' : i < elems.length := by omega
   rw [List.getElem?_eq_getElem hi'] at hE
   simp only [Option.bind_eq_some_iff] at hE
   obtain ⟨c1, hc1, hy1⟩ := hE
   obtain ⟨_, hn, hc⟩ := World.cells?_some hc1
   match c1, hn with
   | [c0, c1], _ =>
    obtain ⟨q, h1, h2⟩ := open_queCells hsp hy1
    refine ⟨q, h2, [c0, c1], rfl, fun j u hj => ?_, h1⟩
    rw [← hj]
    exact hc j (by have := (List.getElem?_eq_some_iff.1 hj).1; simpa using this)
  have hch : ∃ L : Nat → Que, ∀ i, i < len → QuestionIn w (a.add (i * 2)) (L i) := by
   refine ⟨fun i => if hi : i < len then (each i hi).choose else queZ, fun i hi => ?_⟩
   simp only [hi, dite_true]
   exact (each i hi).choose_spec
  obtain ⟨L, hL⟩ := hch
  have hln : ((List.range len).map L).length = len := by simp
  have hget : ∀ i, i < len → ((List.range len).map L).getD i queZ = L i := fun i hi => by simp [hi]
  refine ⟨some a, cap, (List.range len).map L, by rw [hln], by omega, ?_, ?_⟩
  ·by_cases h0 : len = 0
   ·subst h0; exact .inl (by simp)
   ·right
    obtain ⟨b, off, spot⟩ := a
    obtain ⟨_, vs, hvl, hc, _⟩ := hL 0 (by omega)
    have hc0 := hc 0 (vs[0]'(by omega)) (List.getElem?_eq_getElem (by omega))
    have hspot : spot = none := by simpa [Addr.add] using World.cell?_spot hc0
    subst hspot
    refine ⟨b, off, rfl, ?_, fun i hi => ?_⟩
    ·have := cell_lt hc0
     simpa [Addr.add] using this
    rw [hln] at hi
    rw [hget i hi]
    obtain ⟨_, us, _, hc, h2⟩ := hL i hi
    refine ⟨us, fun j u hj => ?_, h2⟩
    have := hc j u hj
    rwa [Addr.add_mid, Addr.add_mid] at this
  ·intro i hi
   rw [hln] at hi
   rw [hget i hi]
   exact (hL i hi).1

/-- A Want in the middle of a row. -/
def WantIn (w : World) (a : Addr) (x : Wnt) : Prop := SizeR maxLen x.rr ∧ ∃ vs, vs.length = 9 ∧ (∀ j v, vs[j]? = some v → w.cell? (a.add j) = some v) ∧ InWn w vs x
theorem open_Wants {H : Type} {enc : TypeId × Value → H} {w : World} {sp : Nat → Bool} {held : Bool} {fuel : Nat} {v : Value} {x : DataW H × List MemPlace} (hsp : ∀ b, sp b = true)
  (h : DataW.trod enc Tryz.prog w 0 sp held fuel 24 [v] = some x) :
  ∃ (a : Option Addr) (cap : Nat) (rs : List Wnt), v = .slice a rs.length cap ∧ rs.length ≤ maxLen ∧ LiesWs w a rs ∧ ∀ i, i < rs.length → SizeR maxLen (rs.getD i wntZ).rr := by
 rcases DataW.trod_slice Tryz.underlying24 h with ⟨hv, _⟩ | ⟨a, len, cap, elems, rest, n, _, hcs, hx, _, hl, hm, hlen, hel, _⟩
 ·simp at hv
  exact ⟨none, 0, [], hv, Nat.zero_le _, .inl rfl, by simp⟩
 ·simp at hcs
  subst hcs
  have each : ∀ i, i < len → ∃ r : Wnt, WantIn w (a.add (i * 9)) r := by
   intro i hi
   have hE := hel i hi
   rw [cells_Want] at hE
   have hi' : i < elems.length := by omega
   rw [List.getElem?_eq_getElem hi'] at hE
   simp only [Option.bind_eq_some_iff] at hE
   obtain ⟨c1, hc1, hy1⟩ := hE
   obtain ⟨_, hn, hc⟩ := World.cells?_some hc1
   match c1, hn with
   | [c0, c1, c2, c3, c4, c5, c6, c7, c8], _ =>
    obtain ⟨q, h1, h2⟩ := open_wantCells hsp hy1
    refine ⟨q, h2, [c0, c1, c2, c3, c4, c5, c6, c7, c8], rfl, fun j u hj => ?_, h1⟩
    rw [← hj]
    exact hc j (by have := (List.getElem?_eq_some_iff.1 hj).1; simpa using this)
  have hch : ∃ L : Nat → Wnt, ∀ i, i < len → WantIn w (a.add (i * 9)) (L i) := by
   refine ⟨fun i => if hi : i < len then (each i hi).choose else wntZ, fun i hi => ?_⟩
   simp only [hi, dite_true]
   exact (each i hi).choose_spec
  obtain ⟨L, hL⟩ := hch
  have hln : ((List.range len).map L).length = len := by simp
  have hget : ∀ i, i < len → ((List.range len).map L).getD i wntZ = L i := fun i hi => by simp [hi]
  refine ⟨some a, cap, (List.range len).map L, by rw [hln], by omega, ?_, ?_⟩
  ·by_cases h0 : len = 0
   ·subst h0; exact .inl (by simp)
   ·right
    obtain ⟨b, off, spot⟩ := a
    obtain ⟨_, vs, hvl, hc, _⟩ := hL 0 (by omega)
    have hc0 := hc 0 (vs[0]'(by omega)) (List.getElem?_eq_getElem (by omega))
    have hspot : spot = none := by simpa [Addr.add] using World.cell?_spot hc0
    subst hspot
    refine ⟨b, off, rfl, ?_, fun i hi => ?_⟩
    ·have := cell_lt hc0
     simpa [Addr.add] using this
    rw [hln] at hi
    rw [hget i hi]
    obtain ⟨_, us, _, hc, h2⟩ := hL i hi
    refine ⟨us, fun j u hj => ?_, h2⟩
    have := hc j u hj
    rwa [Addr.add_mid, Addr.add_mid] at this
  ·intro i hi
   rw [hln] at hi
   rw [hget i hi]
   exact (hL i hi).1

end Go.Proofs.YtnplmeifhebhhaaGreat

namespace Go.Proofs.YtnplmeifhebhhaaGreat
open Go.RowKit
set_option linter.unusedVariables false

structure Tx where
 kind : Int
 msg : Mg
 ip : Int
 client : List Int
 host : List Int
 when : Int
structure InTx (w : World) (aq aa ab am ap au ac ah : Option Addr) (t : Tx) : Prop where
 msg : InM w aq aa ab am ap au t.msg
 client : Lies w ac t.client
 host : Lies w ah t.host
theorem InTx.below {w w' : World} {aq aa ab am ap au ac ah : Option Addr} {t : Tx} (h : InTx w aq aa ab am ap au ac ah t) (hb : Below w.heap.size w w') : InTx w' aq aa ab am ap au ac ah t := ⟨h.msg.below hb, h.client.below hb, h.host.below hb⟩
structure HasTx (w : World) (vq va vb vm vp vu vc vh : Value) (t : Tx) : Prop where
 msg : HasM w vq va vb vm vp vu t.msg
 client : Has w vc t.client
 host : Has w vh t.host
theorem HasTx.below {w w' : World} {vq va vb vm vp vu vc vh : Value} {t : Tx} (h : HasTx w vq va vb vm vp vu vc vh t) (hb : Below w.heap.size w w') : HasTx w' vq va vb vm vp vu vc vh t := ⟨h.msg.below hb, h.client.below hb, h.host.below hb⟩
structure SizeTx (s : Nat) (t : Tx) : Prop where
 msg : SizeM s t.msg
 count : t.msg.count ≤ s
 client : t.client.length ≤ s
 host : t.host.length ≤ s
theorem SizeTx.mono {s s' : Nat} {t : Tx} (h : SizeTx s t) (hs : s ≤ s') : SizeTx s' t := ⟨h.msg.mono hs, Nat.le_trans h.count hs, Nat.le_trans h.client hs, Nat.le_trans h.host hs⟩
theorem cells16 {w : World} {b : Nat} {c0 c1 c2 c3 c4 c5 c6 c7 c8 c9 c10 c11 c12 c13 c14 c15 : Value} {t : TypeId} (h : w.heap[b]? = some (.cells #[c0, c1, c2, c3, c4, c5, c6, c7, c8, c9, c10, c11, c12, c13, c14, c15] t)) :
  w.cell? ⟨b, 0, none⟩ = some c0 ∧ w.cell? ⟨b, 1, none⟩ = some c1 ∧ w.cell? ⟨b, 2, none⟩ = some c2 ∧ w.cell? ⟨b, 3, none⟩ = some c3 ∧ w.cell? ⟨b, 4, none⟩ = some c4 ∧ w.cell? ⟨b, 5, none⟩ = some c5 ∧ w.cell? ⟨b, 6, none⟩ = some c6 ∧ w.cell? ⟨b, 7, none⟩ = some c7 ∧ w.cell? ⟨b, 8, none⟩ = some c8 ∧ w.cell? ⟨b, 9, none⟩ = some c9 ∧ w.cell? ⟨b, 10, none⟩ = some c10 ∧ w.cell? ⟨b, 11, none⟩ = some c11 ∧ w.cell? ⟨b, 12, none⟩ = some c12 ∧ w.cell? ⟨b, 13, none⟩ = some c13 ∧ w.cell? ⟨b, 14, none⟩ = some c14 ∧ w.cell? ⟨b, 15, none⟩ = some c15 :=
 ⟨block_cell h 0, block_cell h 1, block_cell h 2, block_cell h 3, block_cell h 4, block_cell h 5, block_cell h 6, block_cell h 7, block_cell h 8, block_cell h 9, block_cell h 10, block_cell h 11, block_cell h 12, block_cell h 13, block_cell h 14, block_cell h 15⟩
theorem frozen16 {w : World} {b : Nat} {c : Array Value} {t : TypeId} (h : w.heap[b]? = some (.cells c t)) :
  w.frozen? ⟨b, 0, none⟩ = false ∧ w.frozen? ⟨b, 1, none⟩ = false ∧ w.frozen? ⟨b, 2, none⟩ = false ∧ w.frozen? ⟨b, 3, none⟩ = false ∧ w.frozen? ⟨b, 4, none⟩ = false ∧ w.frozen? ⟨b, 5, none⟩ = false ∧ w.frozen? ⟨b, 6, none⟩ = false ∧ w.frozen? ⟨b, 7, none⟩ = false ∧ w.frozen? ⟨b, 8, none⟩ = false ∧ w.frozen? ⟨b, 9, none⟩ = false ∧ w.frozen? ⟨b, 10, none⟩ = false ∧ w.frozen? ⟨b, 11, none⟩ = false ∧ w.frozen? ⟨b, 12, none⟩ = false ∧ w.frozen? ⟨b, 13, none⟩ = false ∧ w.frozen? ⟨b, 14, none⟩ = false ∧ w.frozen? ⟨b, 15, none⟩ = false :=
 ⟨block_frozen h 0, block_frozen h 1, block_frozen h 2, block_frozen h 3, block_frozen h 4, block_frozen h 5, block_frozen h 6, block_frozen h 7, block_frozen h 8, block_frozen h 9, block_frozen h 10, block_frozen h 11, block_frozen h 12, block_frozen h 13, block_frozen h 14, block_frozen h 15⟩
def set16 (w : World) (b : Nat) (c0 c1 c2 c3 c4 c5 c6 c7 c8 c9 c10 c11 c12 c13 c14 c15 : Value) : World := (((((((((((((((w.setCell ⟨b, 0, none⟩ c0).setCell ⟨b, 1, none⟩ c1).setCell ⟨b, 2, none⟩ c2).setCell ⟨b, 3, none⟩ c3).setCell ⟨b, 4, none⟩ c4).setCell ⟨b, 5, none⟩ c5).setCell ⟨b, 6, none⟩ c6).setCell ⟨b, 7, none⟩ c7).setCell ⟨b, 8, none⟩ c8).setCell ⟨b, 9, none⟩ c9).setCell ⟨b, 10, none⟩ c10).setCell ⟨b, 11, none⟩ c11).setCell ⟨b, 12, none⟩ c12).setCell ⟨b, 13, none⟩ c13).setCell ⟨b, 14, none⟩ c14).setCell ⟨b, 15, none⟩ c15
theorem set16_is {w : World} {b : Nat} {c0 c1 c2 c3 c4 c5 c6 c7 c8 c9 c10 c11 c12 c13 c14 c15 a0 a1 a2 a3 a4 a5 a6 a7 a8 a9 a10 a11 a12 a13 a14 a15 : Value} {t : TypeId} (h : w.heap[b]? = some (.cells #[a0, a1, a2, a3, a4, a5, a6, a7, a8, a9, a10, a11, a12, a13, a14, a15] t)) :
  (set16 w b c0 c1 c2 c3 c4 c5 c6 c7 c8 c9 c10 c11 c12 c13 c14 c15).heap[b]? = some (.cells #[c0, c1, c2, c3, c4, c5, c6, c7, c8, c9, c10, c11, c12, c13, c14, c15] t) ∧ Outside b (b + 1) w (set16 w b c0 c1 c2 c3 c4 c5 c6 c7 c8 c9 c10 c11 c12 c13 c14 c15) := by
 unfold set16
 have u0 : Outside b (b + 1) w w := Outside.refl _ _ _
 have h1 : (w.setCell ⟨b, 0, none⟩ c0).heap[b]? = some (.cells #[c0, a1, a2, a3, a4, a5, a6, a7, a8, a9, a10, a11, a12, a13, a14, a15] t) := block_setAt h 0 c0
 have u1 := u0.trans (outside_set w b 0 c0)
 generalize w.setCell ⟨b, 0, none⟩ c0 = w1 at *
 have h2 : (w1.setCell ⟨b, 1, none⟩ c1).heap[b]? = some (.cells #[c0, c1, a2, a3, a4, a5, a6, a7, a8, a9, a10, a11, a12, a13, a14, a15] t) := block_setAt h1 1 c1
 have u2 := u1.trans (outside_set w1 b 1 c1)
 generalize w1.setCell ⟨b, 1, none⟩ c1 = w2 at *
 have h3 : (w2.setCell ⟨b, 2, none⟩ c2).heap[b]? = some (.cells #[c0, c1, c2, a3, a4, a5, a6, a7, a8, a9, a10, a11, a12, a13, a14, a15] t) := block_setAt h2 2 c2
 have u3 := u2.trans (outside_set w2 b 2 c2)
 generalize w2.setCell ⟨b, 2, none⟩ c2 = w3 at *
 have h4 : (w3.setCell ⟨b, 3, none⟩ c3).heap[b]? = some (.cells #[c0, c1, c2, c3, a4, a5, a6, a7, a8, a9, a10, a11, a12, a13, a14, a15] t) := block_setAt h3 3 c3
 have u4 := u3.trans (outside_set w3 b 3 c3)
 generalize w3.setCell ⟨b, 3, none⟩ c3 = w4 at *
 have h5 : (w4.setCell ⟨b, 4, none⟩ c4).heap[b]? = some (.cells #[c0, c1, c2, c3, c4, a5, a6, a7, a8, a9, a10, a11, a12, a13, a14, a15] t) := block_setAt h4 4 c4
 have u5 := u4.trans (outside_set w4 b 4 c4)
 generalize w4.setCell ⟨b, 4, none⟩ c4 = w5 at *
 have h6 : (w5.setCell ⟨b, 5, none⟩ c5).heap[b]? = some (.cells #[c0, c1, c2, c3, c4, c5, a6, a7, a8, a9, a10, a11, a12, a13, a14, a15] t) := block_setAt h5 5 c5
 have u6 := u5.trans (outside_set w5 b 5 c5)
 generalize w5.setCell ⟨b, 5, none⟩ c5 = w6 at *
 have h7 : (w6.setCell ⟨b, 6, none⟩ c6).heap[b]? = some (.cells #[c0, c1, c2, c3, c4, c5, c6, a7, a8, a9, a10, a11, a12, a13, a14, a15] t) := block_setAt h6 6 c6
 have u7 := u6.trans (outside_set w6 b 6 c6)
 generalize w6.setCell ⟨b, 6, none⟩ c6 = w7 at *
 have h8 : (w7.setCell ⟨b, 7, none⟩ c7).heap[b]? = some (.cells #[c0, c1, c2, c3, c4, c5, c6, c7, a8, a9, a10, a11, a12, a13, a14, a15] t) := block_setAt h7 7 c7
 have u8 := u7.trans (outside_set w7 b 7 c7)
 generalize w7.setCell ⟨b, 7, none⟩ c7 = w8 at *
 have h9 : (w8.setCell ⟨b, 8, none⟩ c8).heap[b]? = some (.cells #[c0, c1, c2, c3, c4, c5, c6, c7, c8, a9, a10, a11, a12, a13, a14, a15] t) := block_setAt h8 8 c8
 have u9 := u8.trans (outside_set w8 b 8 c8)
 generalize w8.setCell ⟨b, 8, none⟩ c8 = w9 at *
 have h10 : (w9.setCell ⟨b, 9, none⟩ c9).heap[b]? = some (.cells #[c0, c1, c2, c3, c4, c5, c6, c7, c8, c9, a10, a11, a12, a13, a14, a15] t) := block_setAt h9 9 c9
 have u10 := u9.trans (outside_set w9 b 9 c9)
 generalize w9.setCell ⟨b, 9, none⟩ c9 = w10 at *
 have h11 : (w10.setCell ⟨b, 10, none⟩ c10).heap[b]? = some (.cells #[c0, c1, c2, c3, c4, c5, c6, c7, c8, c9, c10, a11, a12, a13, a14, a15] t) := block_setAt h10 10 c10
 have u11 := u10.trans (outside_set w10 b 10 c10)
 generalize w10.setCell ⟨b, 10, none⟩ c10 = w11 at *
 have h12 : (w11.setCell ⟨b, 11, none⟩ c11).heap[b]? = some (.cells #[c0, c1, c2, c3, c4, c5, c6, c7, c8, c9, c10, c11, a12, a13, a14, a15] t) := block_setAt h11 11 c11
 have u12 := u11.trans (outside_set w11 b 11 c11)
 generalize w11.setCell ⟨b, 11, none⟩ c11 = w12 at *
 have h13 : (w12.setCell ⟨b, 12, none⟩ c12).heap[b]? = some (.cells #[c0, c1, c2, c3, c4, c5, c6, c7, c8, c9, c10, c11, c12, a13, a14, a15] t) := block_setAt h12 12 c12
 have u13 := u12.trans (outside_set w12 b 12 c12)
 generalize w12.setCell ⟨b, 12, none⟩ c12 = w13 at *
 have h14 : (w13.setCell ⟨b, 13, none⟩ c13).heap[b]? = some (.cells #[c0, c1, c2, c3, c4, c5, c6, c7, c8, c9, c10, c11, c12, c13, a14, a15] t) := block_setAt h13 13 c13
 have u14 := u13.trans (outside_set w13 b 13 c13)
 generalize w13.setCell ⟨b, 13, none⟩ c13 = w14 at *
 have h15 : (w14.setCell ⟨b, 14, none⟩ c14).heap[b]? = some (.cells #[c0, c1, c2, c3, c4, c5, c6, c7, c8, c9, c10, c11, c12, c13, c14, a15] t) := block_setAt h14 14 c14
 have u15 := u14.trans (outside_set w14 b 14 c14)
 generalize w14.setCell ⟨b, 14, none⟩ c14 = w15 at *
 have h16 : (w15.setCell ⟨b, 15, none⟩ c15).heap[b]? = some (.cells #[c0, c1, c2, c3, c4, c5, c6, c7, c8, c9, c10, c11, c12, c13, c14, c15] t) := block_setAt h15 15 c15
 have u16 := u15.trans (outside_set w15 b 15 c15)
 exact ⟨h16, u16⟩
def setmsg (w : World) (b : Nat) (c1 c2 c3 c4 c5 c6 c7 c8 c9 c10 c11 c12 : Value) : World := (((((((((((w.setCell ⟨b, 1, none⟩ c1).setCell ⟨b, 2, none⟩ c2).setCell ⟨b, 3, none⟩ c3).setCell ⟨b, 4, none⟩ c4).setCell ⟨b, 5, none⟩ c5).setCell ⟨b, 6, none⟩ c6).setCell ⟨b, 7, none⟩ c7).setCell ⟨b, 8, none⟩ c8).setCell ⟨b, 9, none⟩ c9).setCell ⟨b, 10, none⟩ c10).setCell ⟨b, 11, none⟩ c11).setCell ⟨b, 12, none⟩ c12
theorem setmsg_is {w : World} {b : Nat} {c1 c2 c3 c4 c5 c6 c7 c8 c9 c10 c11 c12 a0 a1 a2 a3 a4 a5 a6 a7 a8 a9 a10 a11 a12 a13 a14 a15 : Value} {t : TypeId} (h : w.heap[b]? = some (.cells #[a0, a1, a2, a3, a4, a5, a6, a7, a8, a9, a10, a11, a12, a13, a14, a15] t)) :
  (setmsg w b c1 c2 c3 c4 c5 c6 c7 c8 c9 c10 c11 c12).heap[b]? = some (.cells #[a0, c1, c2, c3, c4, c5, c6, c7, c8, c9, c10, c11, c12, a13, a14, a15] t) ∧ Outside b (b + 1) w (setmsg w b c1 c2 c3 c4 c5 c6 c7 c8 c9 c10 c11 c12) := by
 unfold setmsg
 have u0 : Outside b (b + 1) w w := Outside.refl _ _ _
 have h1 : (w.setCell ⟨b, 1, none⟩ c1).heap[b]? = some (.cells #[a0, c1, a2, a3, a4, a5, a6, a7, a8, a9, a10, a11, a12, a13, a14, a15] t) := block_setAt h 1 c1
 have u1 := u0.trans (outside_set w b 1 c1)
 generalize w.setCell ⟨b, 1, none⟩ c1 = w1 at *
 have h2 : (w1.setCell ⟨b, 2, none⟩ c2).heap[b]? = some (.cells #[a0, c1, c2, a3, a4, a5, a6, a7, a8, a9, a10, a11, a12, a13, a14, a15] t) := block_setAt h1 2 c2
 have u2 := u1.trans (outside_set w1 b 2 c2)
 generalize w1.setCell ⟨b, 2, none⟩ c2 = w2 at *
 have h3 : (w2.setCell ⟨b, 3, none⟩ c3).heap[b]? = some (.cells #[a0, c1, c2, c3, a4, a5, a6, a7, a8, a9, a10, a11, a12, a13, a14, a15] t) := block_setAt h2 3 c3
 have u3 := u2.trans (outside_set w2 b 3 c3)
 generalize w2.setCell ⟨b, 3, none⟩ c3 = w3 at *
 have h4 : (w3.setCell ⟨b, 4, none⟩ c4).heap[b]? = some (.cells #[a0, c1, c2, c3, c4, a5, a6, a7, a8, a9, a10, a11, a12, a13, a14, a15] t) := block_setAt h3 4 c4
 have u4 := u3.trans (outside_set w3 b 4 c4)
 generalize w3.setCell ⟨b, 4, none⟩ c4 = w4 at *
 have h5 : (w4.setCell ⟨b, 5, none⟩ c5).heap[b]? = some (.cells #[a0, c1, c2, c3, c4, c5, a6, a7, a8, a9, a10, a11, a12, a13, a14, a15] t) := block_setAt h4 5 c5
 have u5 := u4.trans (outside_set w4 b 5 c5)
 generalize w4.setCell ⟨b, 5, none⟩ c5 = w5 at *
 have h6 : (w5.setCell ⟨b, 6, none⟩ c6).heap[b]? = some (.cells #[a0, c1, c2, c3, c4, c5, c6, a7, a8, a9, a10, a11, a12, a13, a14, a15] t) := block_setAt h5 6 c6
 have u6 := u5.trans (outside_set w5 b 6 c6)
 generalize w5.setCell ⟨b, 6, none⟩ c6 = w6 at *
 have h7 : (w6.setCell ⟨b, 7, none⟩ c7).heap[b]? = some (.cells #[a0, c1, c2, c3, c4, c5, c6, c7, a8, a9, a10, a11, a12, a13, a14, a15] t) := block_setAt h6 7 c7
 have u7 := u6.trans (outside_set w6 b 7 c7)
 generalize w6.setCell ⟨b, 7, none⟩ c7 = w7 at *
 have h8 : (w7.setCell ⟨b, 8, none⟩ c8).heap[b]? = some (.cells #[a0, c1, c2, c3, c4, c5, c6, c7, c8, a9, a10, a11, a12, a13, a14, a15] t) := block_setAt h7 8 c8
 have u8 := u7.trans (outside_set w7 b 8 c8)
 generalize w7.setCell ⟨b, 8, none⟩ c8 = w8 at *
 have h9 : (w8.setCell ⟨b, 9, none⟩ c9).heap[b]? = some (.cells #[a0, c1, c2, c3, c4, c5, c6, c7, c8, c9, a10, a11, a12, a13, a14, a15] t) := block_setAt h8 9 c9
 have u9 := u8.trans (outside_set w8 b 9 c9)
 generalize w8.setCell ⟨b, 9, none⟩ c9 = w9 at *
 have h10 : (w9.setCell ⟨b, 10, none⟩ c10).heap[b]? = some (.cells #[a0, c1, c2, c3, c4, c5, c6, c7, c8, c9, c10, a11, a12, a13, a14, a15] t) := block_setAt h9 10 c10
 have u10 := u9.trans (outside_set w9 b 10 c10)
 generalize w9.setCell ⟨b, 10, none⟩ c10 = w10 at *
 have h11 : (w10.setCell ⟨b, 11, none⟩ c11).heap[b]? = some (.cells #[a0, c1, c2, c3, c4, c5, c6, c7, c8, c9, c10, c11, a12, a13, a14, a15] t) := block_setAt h10 11 c11
 have u11 := u10.trans (outside_set w10 b 11 c11)
 generalize w10.setCell ⟨b, 11, none⟩ c11 = w11 at *
 have h12 : (w11.setCell ⟨b, 12, none⟩ c12).heap[b]? = some (.cells #[a0, c1, c2, c3, c4, c5, c6, c7, c8, c9, c10, c11, c12, a13, a14, a15] t) := block_setAt h11 12 c12
 have u12 := u11.trans (outside_set w11 b 12 c12)
 exact ⟨h12, u12⟩
end Go.Proofs.YtnplmeifhebhhaaGreat
