/-
  What is known of a message that came in as an argument. What is known of a message that came in as an argument: its records' texts are bytes.
-/
import Derived.Test.YtfpenlobnnlnfaaGreatDoorMsgTextG45
import Derived.Test.YtfpenlobnnlnfaaGreatDoorMsgTextG04
import Derived.Test.YtfpenlobnnlnfaaGreatDoorMsgTextG11
namespace Go.Proofs.YtfpenlobnnlnfaaGreatDoor
open Go.RowKit Go.ChangeShapes Go.WideShapes Go.ChangeAt

theorem cells_Question : Tryz.prog.cellsOf 67 = 2 := by kernel_rfl
theorem cells_Want : Tryz.prog.cellsOf 74 = 9 := by kernel_rfl
theorem cells_Qs : Tryz.prog.cellsOf 22 = 1 := by kernel_rfl
theorem cells_Ws : Tryz.prog.cellsOf 24 = 1 := by kernel_rfl
theorem cells_Msg : Tryz.prog.cellsOf 26 = 11 := by kernel_rfl

set_option maxRecDepth 100000 in
theorem open_queCells {H : Type} {enc : TypeId × Value → H} {w : World} {sp : Nat → Bool} {held : Bool} {fuel : Nat} {c0 c1 : Value} {x : DataW H × List MemPlace} (hsp : ∀ b, sp b = true) (hf0 : DataW.trod enc Tryz.prog w 0 sp held fuel 67 [c0, c1] = some x) :
  ∃ q : Que, InQu w [c0, c1] q ∧ SizeQu maxLen q := by
 obtain ⟨xs, n, _, _, _, hlen, hf⟩ := DataW.trod_struct Tryz.underlying67 hf0
 match xs, hlen with
 | [y0, y1], _ =>
  have h0 : DataW.trod enc Tryz.prog w 0 sp held n 65 (([c0, c1].drop 0).take (Tryz.prog.cellsOf 65)) = some y0 := hf 0 _ rfl
  have h1 : DataW.trod enc Tryz.prog w 0 sp held n 3 (([c0, c1].drop 1).take (Tryz.prog.cellsOf 3)) = some y1 := hf 1 _ rfl
  rw [cellsName] at h0
  rw [cellsInt] at h1
  simp only [List.drop_zero, List.drop_succ_cons, List.take_succ_cons, List.take_zero] at h0 h1
  obtain ⟨an, cn, nm, rfl, a1, a2, a3⟩ := open_nameCell hsp h0
  obtain ⟨t1, e1, _, _⟩ := DataW.trod_int Tryz.underlying3 h1
  simp only [List.cons.injEq, and_true] at e1
  subst e1
  exact ⟨⟨nm, t1⟩, ⟨an, cn, rfl, a2⟩, ⟨a1, a3⟩⟩

set_option maxRecDepth 100000 in
theorem open_wantCells {H : Type} {enc : TypeId × Value → H} {w : World} {sp : Nat → Bool} {held : Bool} {fuel : Nat} {c0 c1 c2 c3 c4 c5 c6 c7 c8 : Value} {x : DataW H × List MemPlace} (hsp : ∀ b, sp b = true) (hf0 : DataW.trod enc Tryz.prog w 0 sp held fuel 74 [c0, c1, c2, c3, c4, c5, c6, c7, c8] = some x) :
  ∃ q : Wnt, InWn w [c0, c1, c2, c3, c4, c5, c6, c7, c8] q ∧ SizeR maxLen q.rr := by
 obtain ⟨xs, n, _, _, _, hlen, hf⟩ := DataW.trod_struct Tryz.underlying74 hf0
 match xs, hlen with
 | [y0, y1, y2], _ =>
  have h0 : DataW.trod enc Tryz.prog w 0 sp held n 71 (([c0, c1, c2, c3, c4, c5, c6, c7, c8].drop 0).take (Tryz.prog.cellsOf 71)) = some y0 := hf 0 _ rfl
  have h1 : DataW.trod enc Tryz.prog w 0 sp held n 3 (([c0, c1, c2, c3, c4, c5, c6, c7, c8].drop 7).take (Tryz.prog.cellsOf 3)) = some y1 := hf 1 _ rfl
  have h2 : DataW.trod enc Tryz.prog w 0 sp held n 4 (([c0, c1, c2, c3, c4, c5, c6, c7, c8].drop 8).take (Tryz.prog.cellsOf 4)) = some y2 := hf 2 _ rfl
  rw [cellsRr] at h0
  rw [cellsInt] at h1
  rw [cellsBool] at h2
  simp only [List.drop_zero, List.drop_succ_cons, List.take_succ_cons, List.take_zero] at h0 h1 h2
  obtain ⟨an, cn, ato, ct, ax, cx, ai, ci, q, e0, a1, a2⟩ := open_recCells hsp h0
  obtain ⟨t1, e1, _, _⟩ := DataW.trod_int Tryz.underlying3 h1
  obtain ⟨t2, e2, _⟩ := DataW.trod_bool Tryz.underlying4 h2
  unfold cellsR at e0
  simp only [List.cons.injEq, and_true] at e0 e1 e2
  obtain ⟨rfl, rfl, rfl, rfl, rfl, rfl, rfl⟩ := e0
  subst e1 e2
  exact ⟨⟨q, t1, t2⟩, ⟨an, cn, ato, ct, ax, cx, ai, ci, rfl, a1⟩, a2⟩

def QuestionIn (w : World) (a : Addr) (x : Que) : Prop := SizeQu maxLen x ∧ ∃ vs, vs.length = 2 ∧ (∀ j v, vs[j]? = some v → w.cell? (a.add j) = some v) ∧ InQu w vs x
theorem open_Questions {H : Type} {enc : TypeId × Value → H} {w : World} {sp : Nat → Bool} {held : Bool} {fuel : Nat} {v : Value} {x : DataW H × List MemPlace} (hsp : ∀ b, sp b = true)
  (h : DataW.trod enc Tryz.prog w 0 sp held fuel 22 [v] = some x) :
  ∃ (a : Option Addr) (cap : Nat) (rs : List Que), v = .slice a rs.length cap ∧ rs.length ≤ maxLen ∧ LiesQs w a rs ∧ ∀ i, i < rs.length → SizeQu maxLen (rs.getD i queZ) := by
 rcases DataW.trod_slice Tryz.underlying22 h with ⟨hv, _⟩ | ⟨a, len, cap, elems, rest, n, _, hcs, hx, _, hl, hm, hlen, hel, _⟩
 ·simp at hv
  exact ⟨none, 0, [], hv, Nat.zero_le _, .inl rfl, by simp⟩
 ·simp at hcs
  subst hcs
  have each : ∀ i, i < len → ∃ r : Que, QuestionIn w (a.add (i * 2)) r := by
   intro i hi
   have hE := hel i hi
   rw [cells_Question] at hE
   have hi' : i < elems.length := by omega
   rw [List.getElem?_eq_getElem hi'] at hE
   simp only [Option.bind_eq_some_iff] at hE
   obtain ⟨c1, hc1, hy1⟩ := hE
   obtain ⟨_, hn, hc⟩ := World.cells?_some hc1
   match c1, hn with
   | [c0, c1], _ =>
    obtain ⟨q, h1, h2⟩ := open_queCells hsp hy1
    refine ⟨q, h2, [c0, c1], rfl, fun j u hj => ?_, h1⟩
    rw [← hj]
    exact hc j (by have := (List.getElem?_eq_some_iff.1 hj).1; simpa using this)
  have hch : ∃ L : Nat → Que, ∀ i, i < len → QuestionIn w (a.add (i * 2)) (L i) := by
   refine ⟨fun i => if hi : i < len then (each i hi).choose else queZ, fun i hi => ?_⟩
   simp only [hi, dite_true]
   exact (each i hi).choose_spec
  obtain ⟨L, hL⟩ := hch
  have hln : ((List.range len).map L).length = len := by simp
  have hget : ∀ i, i < len → ((List.range len).map L).getD i queZ = L i := fun i hi => by simp [hi]
  refine ⟨some a, cap, (List.range len).map L, by rw [hln], by omega, ?_, ?_⟩
  ·by_cases h0 : len = 0
   ·subst h0; exact .inl (by simp)
   ·right
    obtain ⟨b, off, spot⟩ := a
    obtain ⟨_, vs, hvl, hc, _⟩ := hL 0 (by omega)
    have hc0 := hc 0 (vs[0]'(by omega)) (List.getElem?_eq_getElem (by omega))
    have hspot : spot = none := by simpa [Addr.add] using World.cell?_spot hc0
    subst hspot
    refine ⟨b, off, rfl, ?_, fun i hi => ?_⟩
    ·have := cell_lt hc0
     simpa [Addr.add] using this
    rw [hln] at hi
    rw [hget i hi]
    obtain ⟨_, us, _, hc, h2⟩ := hL i hi
    refine ⟨us, fun j u hj => ?_, h2⟩
    have := hc j u hj
    rwa [Addr.add_mid, Addr.add_mid] at this
  ·intro i hi
   rw [hln] at hi
   rw [hget i hi]
   exact (hL i hi).1

def WantIn (w : World) (a : Addr) (x : Wnt) : Prop := SizeR maxLen x.rr ∧ ∃ vs, vs.length = 9 ∧ (∀ j v, vs[j]? = some v → w.cell? (a.add j) = some v) ∧ InWn w vs x
theorem open_Wants {H : Type} {enc : TypeId × Value → H} {w : World} {sp : Nat → Bool} {held : Bool} {fuel : Nat} {v : Value} {x : DataW H × List MemPlace} (hsp : ∀ b, sp b = true)
  (h : DataW.trod enc Tryz.prog w 0 sp held fuel 24 [v] = some x) :
  ∃ (a : Option Addr) (cap : Nat) (rs : List Wnt), v = .slice a rs.length cap ∧ rs.length ≤ maxLen ∧ LiesWs w a rs ∧ ∀ i, i < rs.length → SizeR maxLen (rs.getD i wntZ).rr := by
 rcases DataW.trod_slice Tryz.underlying24 h with ⟨hv, _⟩ | ⟨a, len, cap, elems, rest, n, _, hcs, hx, _, hl, hm, hlen, hel, _⟩
 ·simp at hv
  exact ⟨none, 0, [], hv, Nat.zero_le _, .inl rfl, by simp⟩
 ·simp at hcs
  subst hcs
  have each : ∀ i, i < len → ∃ r : Wnt, WantIn w (a.add (i * 9)) r := by
   intro i hi
   have hE := hel i hi
   rw [cells_Want] at hE
   have hi' : i < elems.length := by omega
   rw [List.getElem?_eq_getElem hi'] at hE
   simp only [Option.bind_eq_some_iff] at hE
   obtain ⟨c1, hc1, hy1⟩ := hE
   obtain ⟨_, hn, hc⟩ := World.cells?_some hc1
   match c1, hn with
   | [c0, c1, c2, c3, c4, c5, c6, c7, c8], _ =>
    obtain ⟨q, h1, h2⟩ := open_wantCells hsp hy1
    refine ⟨q, h2, [c0, c1, c2, c3, c4, c5, c6, c7, c8], rfl, fun j u hj => ?_, h1⟩
    rw [← hj]
    exact hc j (by have := (List.getElem?_eq_some_iff.1 hj).1; simpa using this)
  have hch : ∃ L : Nat → Wnt, ∀ i, i < len → WantIn w (a.add (i * 9)) (L i) := by
   refine ⟨fun i => if hi : i < len then (each i hi).choose else wntZ, fun i hi => ?_⟩
   simp only [hi, dite_true]
   exact (each i hi).choose_spec
  obtain ⟨L, hL⟩ := hch
  have hln : ((List.range len).map L).length = len := by simp
  have hget : ∀ i, i < len → ((List.range len).map L).getD i wntZ = L i := fun i hi => by simp [hi]
  refine ⟨some a, cap, (List.range len).map L, by rw [hln], by omega, ?_, ?_⟩
  ·by_cases h0 : len = 0
   ·subst h0; exact .inl (by simp)
   ·right
    obtain ⟨b, off, spot⟩ := a
    obtain ⟨_, vs, hvl, hc, _⟩ := hL 0 (by omega)
    have hc0 := hc 0 (vs[0]'(by omega)) (List.getElem?_eq_getElem (by omega))
    have hspot : spot = none := by simpa [Addr.add] using World.cell?_spot hc0
    subst hspot
    refine ⟨b, off, rfl, ?_, fun i hi => ?_⟩
    ·have := cell_lt hc0
     simpa [Addr.add] using this
    rw [hln] at hi
    rw [hget i hi]
    obtain ⟨_, us, _, hc, h2⟩ := hL i hi
    refine ⟨us, fun j u hj => ?_, h2⟩
    have := hc j u hj
    rwa [Addr.add_mid, Addr.add_mid] at this
  ·intro i hi
   rw [hln] at hi
   rw [hget i hi]
   exact (hL i hi).1

end Go.Proofs.YtfpenlobnnlnfaaGreatDoor

namespace Go.Proofs.YtfpenlobnnlnfaaGreatDoor
open Go.RowKit Go.ChangeShapes Go.WideShapes Go.ChangeAt

theorem byt_nums {l : List Int} (h : ∀ k, 0 ≤ l.getD k 0 ∧ l.getD k 0 ≤ 255) : Byt l := fun c hc => by
 obtain ⟨i, hi, rfl⟩ := List.getElem_of_mem hc
 have h7 := h i
 rw [List.getD_eq_getElem?_getD, List.getElem?_eq_getElem hi] at h7
 exact h7
set_option maxRecDepth 100000 in
theorem open_recCellsB {H : Type} {enc : TypeId × Value → H} {w : World} {sp : Nat → Bool} {held : Bool} {fuel : Nat} {c0 c1 c2 c3 c4 c5 c6 : Value} {x : DataW H × List MemPlace} (hsp : ∀ b, sp b = true) (hf0 : DataW.trod enc Tryz.prog w 0 sp held fuel 71 [c0, c1, c2, c3, c4, c5, c6] = some x) :
  ∃ (an : Option Addr) (cn : Nat) (ato : Option Addr) (ct : Nat) (ax : Option Addr) (cx : Nat) (ai : Option Addr) (ci : Nat) (q : Rec),
   [c0, c1, c2, c3, c4, c5, c6] = cellsR (.slice an q.name.length cn) (.slice ato q.to.length ct) (.slice ax q.text.length cx) (.slice ai q.nums.length ci) q ∧ InR w an ato ax ai q ∧ SizeR maxLen q ∧ Byt q.text := by
 obtain ⟨xs, n, _, _, _, hlen, hf⟩ := DataW.trod_struct Tryz.underlying71 hf0
 match xs, hlen with
 | [y0, y1, y2, y3, y4, y5, y6], _ =>
  have h0 : DataW.trod enc Tryz.prog w 0 sp held n 65 (([c0, c1, c2, c3, c4, c5, c6].drop 0).take (Tryz.prog.cellsOf 65)) = some y0 := hf 0 _ rfl
  have h1 : DataW.trod enc Tryz.prog w 0 sp held n 3 (([c0, c1, c2, c3, c4, c5, c6].drop 1).take (Tryz.prog.cellsOf 3)) = some y1 := hf 1 _ rfl
  have h2 : DataW.trod enc Tryz.prog w 0 sp held n 3 (([c0, c1, c2, c3, c4, c5, c6].drop 2).take (Tryz.prog.cellsOf 3)) = some y2 := hf 2 _ rfl
  have h3 : DataW.trod enc Tryz.prog w 0 sp held n 3 (([c0, c1, c2, c3, c4, c5, c6].drop 3).take (Tryz.prog.cellsOf 3)) = some y3 := hf 3 _ rfl
  have h4 : DataW.trod enc Tryz.prog w 0 sp held n 65 (([c0, c1, c2, c3, c4, c5, c6].drop 4).take (Tryz.prog.cellsOf 65)) = some y4 := hf 4 _ rfl
  have h5 : DataW.trod enc Tryz.prog w 0 sp held n 28 (([c0, c1, c2, c3, c4, c5, c6].drop 5).take (Tryz.prog.cellsOf 28)) = some y5 := hf 5 _ rfl
  have h6 : DataW.trod enc Tryz.prog w 0 sp held n 69 (([c0, c1, c2, c3, c4, c5, c6].drop 6).take (Tryz.prog.cellsOf 69)) = some y6 := hf 6 _ rfl
  rw [cellsName] at h0 h4
  rw [cellsInt] at h1 h2 h3
  rw [cellsText] at h5
  rw [cellsNums] at h6
  simp only [List.drop_zero, List.drop_succ_cons, List.take_succ_cons, List.take_zero] at h0 h1 h2 h3 h4 h5 h6
  obtain ⟨an, cn, nm, rfl, a1, a2, a3⟩ := open_nameCell hsp h0
  obtain ⟨t1, e1, _, _⟩ := DataW.trod_int Tryz.underlying3 h1
  obtain ⟨t2, e2, _, _⟩ := DataW.trod_int Tryz.underlying3 h2
  obtain ⟨t3, e3, _, _⟩ := DataW.trod_int Tryz.underlying3 h3
  simp only [List.cons.injEq, and_true] at e1 e2 e3
  subst e1 e2 e3
  obtain ⟨ato, ct, to, rfl, f1, f2, f3⟩ := open_nameCell hsp h4
  obtain ⟨ax, cx, tx, rfl, g1, g2, g3⟩ := ints_lies Tryz.underlying28 Tryz.underlying5 cellsByte hsp h5
  obtain ⟨ai, ci, nu, rfl, k1, k2⟩ := nums_lies Tryz.underlying69 Tryz.underlying3 cellsInt hsp h6
  exact ⟨an, cn, ato, ct, ax, cx, ai, ci, ⟨nm, t1, t2, t3, to, tx, nu⟩, rfl, ⟨a2, f2, g2, k2⟩, ⟨a1, a3, f1, f3, g1, k1⟩, byt_nums g3⟩
def RecInB (w : World) (a : Addr) (r : Rec) : Prop := (SizeR maxLen r ∧ Byt r.text) ∧ ∃ an cn ato ct ax cx ai ci, (∀ j v, (cellsR (.slice an r.name.length cn) (.slice ato r.to.length ct) (.slice ax r.text.length cx) (.slice ai r.nums.length ci) r)[j]? = some v → w.cell? (a.add j) = some v) ∧ InR w an ato ax ai r

theorem open_recsB {H : Type} {enc : TypeId × Value → H} {w : World} {sp : Nat → Bool} {held : Bool} {fuel : Nat} {v : Value} {x : DataW H × List MemPlace} (hsp : ∀ b, sp b = true)
  (h : DataW.trod enc Tryz.prog w 0 sp held fuel 23 [v] = some x) :
  ∃ (a : Option Addr) (cap : Nat) (rs : List Rec), v = .slice a rs.length cap ∧ rs.length ≤ maxLen ∧ LiesRs w a rs ∧ ∀ i, i < rs.length → SizeR maxLen (rs.getD i recZ) ∧ Byt (rs.getD i recZ).text := by
 rcases DataW.trod_slice Tryz.underlying23 h with ⟨hv, _⟩ | ⟨a, len, cap, elems, rest, n, _, hcs, hx, _, hl, hm, hlen, hel, _⟩
 ·simp at hv
  exact ⟨none, 0, [], hv, Nat.zero_le _, .inl rfl, by simp⟩
 ·simp at hcs
  subst hcs
  have each : ∀ i, i < len → ∃ r : Rec, RecInB w (a.add (i * 7)) r := by
   intro i hi
   have hE := hel i hi
   rw [cellsRr] at hE
   have hi' : i < elems.length := by omega
   rw [List.getElem?_eq_getElem hi'] at hE
   simp only [Option.bind_eq_some_iff] at hE
   obtain ⟨c1, hc1, hy1⟩ := hE
   obtain ⟨_, hn, hc⟩ := World.cells?_some hc1
   match c1, hn with
   | [c0, c1, c2, c3, c4, c5, c6], _ =>
    obtain ⟨an, cn, ato, ct, ax, cx, ai, ci, q, he, h1, h2⟩ := open_recCellsB hsp hy1
    refine ⟨q, h2, an, cn, ato, ct, ax, cx, ai, ci, fun j u hj => ?_, h1⟩
    rw [← he] at hj
    rw [← hj]
    exact hc j (by have := (List.getElem?_eq_some_iff.1 hj).1; simpa using this)
  have hch : ∃ L : Nat → Rec, ∀ i, i < len → RecInB w (a.add (i * 7)) (L i) := by
   refine ⟨fun i => if hi : i < len then (each i hi).choose else recZ, fun i hi => ?_⟩
   simp only [hi, dite_true]
   exact (each i hi).choose_spec
  obtain ⟨L, hL⟩ := hch
  have hln : ((List.range len).map L).length = len := by simp
  have hget : ∀ i, i < len → ((List.range len).map L).getD i recZ = L i := fun i hi => by simp [hi]
  refine ⟨some a, cap, (List.range len).map L, by rw [hln], by omega, ?_, ?_⟩
  ·by_cases h0 : len = 0
   ·subst h0; exact .inl (by simp)
   ·right
    obtain ⟨b, off, spot⟩ := a
    obtain ⟨_, an, cn, ato, ct, ax, cx, ai, ci, hc, _⟩ := hL 0 (by omega)
    have hc0 := hc 0 _ rfl
    have hspot : spot = none := by simpa [Addr.add] using World.cell?_spot hc0
    subst hspot
    refine ⟨b, off, rfl, ?_, fun i hi => ?_⟩
    ·have := cell_lt hc0
     simpa [Addr.add] using this
    rw [hln] at hi
    rw [hget i hi]
    obtain ⟨_, an, cn, ato, ct, ax, cx, ai, ci, hc, h2⟩ := hL i hi
    refine ⟨an, cn, ato, ct, ax, cx, ai, ci, fun j u hj => ?_, h2⟩
    have := hc j u hj
    rwa [Addr.add_mid, Addr.add_mid] at this
  ·intro i hi
   rw [hln] at hi
   rw [hget i hi]
   exact (hL i hi).1
set_option maxRecDepth 100000 in
theorem open_msgB {H : Type} {enc : TypeId × Value → H} {w : World} {r : Reach} {b0 : Nat} {sp : Nat → Bool} {held : Bool} {v : Value} {d : DataW H} {ps : List MemPlace} (hsp : ∀ b, sp b = true)
  (hval : Value.okWide Tryz.prog w r b0 26 v) (h : DataW.Trod enc Tryz.prog w 0 sp held 26 v d ps) :
  ∃ (aq : Option Addr) (cq : Nat) (aa : Option Addr) (ca : Nat) (ab : Option Addr) (cb : Nat) (am : Option Addr) (cm : Nat) (ap : Option Addr) (cp : Nat) (au : Option Addr) (cu : Nat) (m : Mg),
   v = .agg #[.int .i64 m.id, .bool m.reply, .int .i64 m.op, .bool m.auth, .int .i64 m.code, .slice aq m.qs.length cq, .slice aa m.ans.length ca, .slice ab m.aus.length cb, .slice am m.more.length cm, .slice ap m.pres.length cp, .slice au m.ups.length cu] ∧ (Lit.int .i64 m.id).wf = true ∧ (Lit.int .i64 m.op).wf = true ∧ (Lit.int .i64 m.code).wf = true ∧ InM w aq aa ab am ap au m ∧ (m.qs.length ≤ maxLen ∧ m.ans.length ≤ maxLen ∧ m.aus.length ≤ maxLen ∧ m.more.length ≤ maxLen ∧ m.pres.length ≤ maxLen ∧ m.ups.length ≤ maxLen) ∧ SizeM maxLen m ∧ BytM m := by
 obtain ⟨cs, rfl, hs⟩ := okWide_struct Tryz.underlying26 hval
 rw [cells_Msg] at hs
 obtain ⟨c0, c1, c2, c3, c4, c5, c6, c7, c8, c9, c10, rfl⟩ : ∃ c0 c1 c2 c3 c4 c5 c6 c7 c8 c9 c10, cs = #[c0, c1, c2, c3, c4, c5, c6, c7, c8, c9, c10] := by
  cases cs with
  | mk l =>
   match l, hs with
   | [c0, c1, c2, c3, c4, c5, c6, c7, c8, c9, c10], _ => exact ⟨c0, c1, c2, c3, c4, c5, c6, c7, c8, c9, c10, rfl⟩
 obtain ⟨fuel, hf0⟩ := h
 have hcells : (Value.agg #[c0, c1, c2, c3, c4, c5, c6, c7, c8, c9, c10]).cells.toList = [c0, c1, c2, c3, c4, c5, c6, c7, c8, c9, c10] := by simp [Value.cells]
 rw [hcells] at hf0
 obtain ⟨xs, n, _, _, _, hlen, hf⟩ := DataW.trod_struct Tryz.underlying26 hf0
 match xs, hlen with
 | [y0, y1, y2, y3, y4, y5, y6, y7, y8, y9, y10], _ =>
  have h0 : DataW.trod enc Tryz.prog w 0 sp held n 3 (([c0, c1, c2, c3, c4, c5, c6, c7, c8, c9, c10].drop 0).take (Tryz.prog.cellsOf 3)) = some y0 := hf 0 _ rfl
  have h1 : DataW.trod enc Tryz.prog w 0 sp held n 4 (([c0, c1, c2, c3, c4, c5, c6, c7, c8, c9, c10].drop 1).take (Tryz.prog.cellsOf 4)) = some y1 := hf 1 _ rfl
  have h2 : DataW.trod enc Tryz.prog w 0 sp held n 3 (([c0, c1, c2, c3, c4, c5, c6, c7, c8, c9, c10].drop 2).take (Tryz.prog.cellsOf 3)) = some y2 := hf 2 _ rfl
  have h3 : DataW.trod enc Tryz.prog w 0 sp held n 4 (([c0, c1, c2, c3, c4, c5, c6, c7, c8, c9, c10].drop 3).take (Tryz.prog.cellsOf 4)) = some y3 := hf 3 _ rfl
  have h4 : DataW.trod enc Tryz.prog w 0 sp held n 3 (([c0, c1, c2, c3, c4, c5, c6, c7, c8, c9, c10].drop 4).take (Tryz.prog.cellsOf 3)) = some y4 := hf 4 _ rfl
  have h5 : DataW.trod enc Tryz.prog w 0 sp held n 22 (([c0, c1, c2, c3, c4, c5, c6, c7, c8, c9, c10].drop 5).take (Tryz.prog.cellsOf 22)) = some y5 := hf 5 _ rfl
  have h6 : DataW.trod enc Tryz.prog w 0 sp held n 23 (([c0, c1, c2, c3, c4, c5, c6, c7, c8, c9, c10].drop 6).take (Tryz.prog.cellsOf 23)) = some y6 := hf 6 _ rfl
  have h7 : DataW.trod enc Tryz.prog w 0 sp held n 23 (([c0, c1, c2, c3, c4, c5, c6, c7, c8, c9, c10].drop 7).take (Tryz.prog.cellsOf 23)) = some y7 := hf 7 _ rfl
  have h8 : DataW.trod enc Tryz.prog w 0 sp held n 23 (([c0, c1, c2, c3, c4, c5, c6, c7, c8, c9, c10].drop 8).take (Tryz.prog.cellsOf 23)) = some y8 := hf 8 _ rfl
  have h9 : DataW.trod enc Tryz.prog w 0 sp held n 24 (([c0, c1, c2, c3, c4, c5, c6, c7, c8, c9, c10].drop 9).take (Tryz.prog.cellsOf 24)) = some y9 := hf 9 _ rfl
  have h10 : DataW.trod enc Tryz.prog w 0 sp held n 24 (([c0, c1, c2, c3, c4, c5, c6, c7, c8, c9, c10].drop 10).take (Tryz.prog.cellsOf 24)) = some y10 := hf 10 _ rfl
  rw [cellsInt] at h0
  rw [cellsBool] at h1
  rw [cellsInt] at h2
  rw [cellsBool] at h3
  rw [cellsInt] at h4
  rw [cells_Qs] at h5
  rw [cellsRecs] at h6
  rw [cellsRecs] at h7
  rw [cellsRecs] at h8
  rw [cells_Ws] at h9
  rw [cells_Ws] at h10
  simp only [List.drop_zero, List.drop_succ_cons, List.take_succ_cons, List.take_zero] at h0 h1 h2 h3 h4 h5 h6 h7 h8 h9 h10
  obtain ⟨t0, e0, _, w0⟩ := DataW.trod_int Tryz.underlying3 h0
  obtain ⟨t1, e1, _⟩ := DataW.trod_bool Tryz.underlying4 h1
  obtain ⟨t2, e2, _, w2⟩ := DataW.trod_int Tryz.underlying3 h2
  obtain ⟨t3, e3, _⟩ := DataW.trod_bool Tryz.underlying4 h3
  obtain ⟨t4, e4, _, w4⟩ := DataW.trod_int Tryz.underlying3 h4
  simp only [List.cons.injEq, and_true] at e0 e1 e2 e3 e4
  subst e0 e1 e2 e3 e4
  obtain ⟨aq, pq, lq, rfl, mq, iq, sq⟩ := open_Questions hsp h5
  obtain ⟨aa, pa, la, rfl, ma, ia, sa⟩ := open_recsB hsp h6
  obtain ⟨ab, pb, lb, rfl, mb, ib, sb⟩ := open_recsB hsp h7
  obtain ⟨am, pm, lm, rfl, mm, im, sm⟩ := open_recsB hsp h8
  obtain ⟨ap, pp, lp, rfl, mp, ip, sp⟩ := open_Wants hsp h9
  obtain ⟨au, pu, lu, rfl, mu, iu, su⟩ := open_Wants hsp h10
  exact ⟨aq, pq, aa, pa, ab, pb, am, pm, ap, pp, au, pu, ⟨t0, t1, t2, t3, t4, lq, la, lb, lm, lp, lu⟩, rfl, w0, w2, w4, ⟨iq, ia, ib, im, ip, iu⟩, ⟨mq, ma, mb, mm, mp, mu⟩, ⟨sq, fun i hi => (sa i hi).1, fun i hi => (sb i hi).1, fun i hi => (sm i hi).1, sp, su⟩, ⟨fun i hi => (sa i hi).2, fun i hi => (sb i hi).2, fun i hi => (sm i hi).2⟩⟩
end Go.Proofs.YtfpenlobnnlnfaaGreatDoor
