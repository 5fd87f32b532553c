/-
  What is known of a transaction that came in as an argument. Contracts of the helpers of the laws for slices of numbers (toIntS, eqIntS, markIntS, heldIntS). Contracts of the byte helpers of the laws (toByteS, eqByteS): what each answers and what it leaves in memory, for every slice of at most 1048576 bytes.
-/
import Derived.Test.YtnplmeifhebhhaaGreatTxnOkG07
import Derived.Test.YtnplmeifhebhhaaGreatTxnOkG02
import Derived.Test.YtnplmeifhebhhaaGreatTxnOkG05
namespace Go.Proofs.YtnplmeifhebhhaaGreat
open Go.RowKit Go.ChangeShapes Go.WideShapes Go.ChangeAt

set_option maxRecDepth 100000 in
theorem open_msgCells {H : Type} {enc : TypeId × Value → H} {w : World} {sp : Nat → Bool} {held : Bool} {fuel : Nat} {c0 c1 c2 c3 c4 c5 c6 c7 c8 c9 c10 : Value} {x : DataW H × List MemPlace} (hsp : ∀ b, sp b = true) (hf0 : DataW.trod enc Tryz.prog w 0 sp held fuel 26 [c0, c1, c2, c3, c4, c5, c6, c7, c8, c9, c10] = some x) :
  ∃ (aq : Option Addr) (cq : Nat) (aa : Option Addr) (ca : Nat) (ab : Option Addr) (cb : Nat) (am : Option Addr) (cm : Nat) (ap : Option Addr) (cp : Nat) (au : Option Addr) (cu : Nat) (m : Mg),
   [c0, c1, c2, c3, c4, c5, c6, c7, c8, c9, c10] = [.int .i64 m.id, .bool m.reply, .int .i64 m.op, .bool m.auth, .int .i64 m.code, .slice aq m.qs.length cq, .slice aa m.ans.length ca, .slice ab m.aus.length cb, .slice am m.more.length cm, .slice ap m.pres.length cp, .slice au m.ups.length cu] ∧ (Lit.int .i64 m.id).wf = true ∧ (Lit.int .i64 m.op).wf = true ∧ (Lit.int .i64 m.code).wf = true ∧ InM w aq aa ab am ap au m ∧ (m.qs.length ≤ maxLen ∧ m.ans.length ≤ maxLen ∧ m.aus.length ≤ maxLen ∧ m.more.length ≤ maxLen ∧ m.pres.length ≤ maxLen ∧ m.ups.length ≤ maxLen) ∧ SizeM maxLen m := by
 obtain ⟨xs, n, _, _, _, hlen, hf⟩ := DataW.trod_struct Tryz.underlying26 hf0
 match xs, hlen with
 | [y0, y1, y2, y3, y4, y5, y6, y7, y8, y9, y10], _ =>
  have h0 : DataW.trod enc Tryz.prog w 0 sp held n 3 (([c0, c1, c2, c3, c4, c5, c6, c7, c8, c9, c10].drop 0).take (Tryz.prog.cellsOf 3)) = some y0 := hf 0 _ rfl
  have h1 : DataW.trod enc Tryz.prog w 0 sp held n 4 (([c0, c1, c2, c3, c4, c5, c6, c7, c8, c9, c10].drop 1).take (Tryz.prog.cellsOf 4)) = some y1 := hf 1 _ rfl
  have h2 : DataW.trod enc Tryz.prog w 0 sp held n 3 (([c0, c1, c2, c3, c4, c5, c6, c7, c8, c9, c10].drop 2).take (Tryz.prog.cellsOf 3)) = some y2 := hf 2 _ rfl
  have h3 : DataW.trod enc Tryz.prog w 0 sp held n 4 (([c0, c1, c2, c3, c4, c5, c6, c7, c8, c9, c10].drop 3).take (Tryz.prog.cellsOf 4)) = some y3 := hf 3 _ rfl
  have h4 : DataW.trod enc Tryz.prog w 0 sp held n 3 (([c0, c1, c2, c3, c4, c5, c6, c7, c8, c9, c10].drop 4).take (Tryz.prog.cellsOf 3)) = some y4 := hf 4 _ rfl
  have h5 : DataW.trod enc Tryz.prog w 0 sp held n 22 (([c0, c1, c2, c3, c4, c5, c6, c7, c8, c9, c10].drop 5).take (Tryz.prog.cellsOf 22)) = some y5 := hf 5 _ rfl
  have h6 : DataW.trod enc Tryz.prog w 0 sp held n 23 (([c0, c1, c2, c3, c4, c5, c6, c7, c8, c9, c10].drop 6).take (Tryz.prog.cellsOf 23)) = some y6 := hf 6 _ rfl
  have h7 : DataW.trod enc Tryz.prog w 0 sp held n 23 (([c0, c1, c2, c3, c4, c5, c6, c7, c8, c9, c10].drop 7).take (Tryz.prog.cellsOf 23)) = some y7 := hf 7 _ rfl
  have h8 : DataW.trod enc Tryz.prog w 0 sp held n 23 (([c0, c1, c2, c3, c4, c5, c6, c7, c8, c9, c10].drop 8).take (Tryz.prog.cellsOf 23)) = some y8 := hf 8 _ rfl
  have h9 : DataW.trod enc Tryz.prog w 0 sp held n 24 (([c0, c1, c2, c3, c4, c5, c6, c7, c8, c9, c10].drop 9).take (Tryz.prog.cellsOf 24)) = some y9 := hf 9 _ rfl
  have h10 : DataW.trod enc Tryz.prog w 0 sp held n 24 (([c0, c1, c2, c3, c4, c5, c6, c7, c8, c9, c10].drop 10).take (Tryz.prog.cellsOf 24)) = some y10 := hf 10 _ rfl
  rw [cellsInt] at h0
  rw [cellsBool] at h1
  rw [cellsInt] at h2
  rw [cellsBool] at h3
  rw [cellsInt] at h4
  rw [cells_Qs] at h5
  rw [cellsRecs] at h6
  rw [cellsRecs] at h7
  rw [cellsRecs] at h8
  rw [cells_Ws] at h9
  rw [cells_Ws] at h10
  simp only [List.drop_zero, List.drop_succ_cons, List.take_succ_cons, List.take_zero] at h0 h1 h2 h3 h4 h5 h6 h7 h8 h9 h10
  obtain ⟨t0, e0, _, w0⟩ := DataW.trod_int Tryz.underlying3 h0
  obtain ⟨t1, e1, _⟩ := DataW.trod_bool Tryz.underlying4 h1
  obtain ⟨t2, e2, _, w2⟩ := DataW.trod_int Tryz.underlying3 h2
  obtain ⟨t3, e3, _⟩ := DataW.trod_bool Tryz.underlying4 h3
  obtain ⟨t4, e4, _, w4⟩ := DataW.trod_int Tryz.underlying3 h4
  simp only [List.cons.injEq, and_true] at e0 e1 e2 e3 e4
  subst e0 e1 e2 e3 e4
  obtain ⟨aq, pq, lq, rfl, mq, iq, sq⟩ := open_Questions hsp h5
  obtain ⟨aa, pa, la, rfl, ma, ia, sa⟩ := open_recs hsp h6
  obtain ⟨ab, pb, lb, rfl, mb, ib, sb⟩ := open_recs hsp h7
  obtain ⟨am, pm, lm, rfl, mm, im, sm⟩ := open_recs hsp h8
  obtain ⟨ap, pp, lp, rfl, mp, ip, sp⟩ := open_Wants hsp h9
  obtain ⟨au, pu, lu, rfl, mu, iu, su⟩ := open_Wants hsp h10
  exact ⟨aq, pq, aa, pa, ab, pb, am, pm, ap, pp, au, pu, ⟨t0, t1, t2, t3, t4, lq, la, lb, lm, lp, lu⟩, rfl, w0, w2, w4, ⟨iq, ia, ib, im, ip, iu⟩, ⟨mq, ma, mb, mm, mp, mu⟩, ⟨sq, sa, sb, sm, sp, su⟩⟩

theorem cells_Txn : Tryz.prog.cellsOf 46 = 16 := by kernel_rfl
set_option maxRecDepth 100000 in
theorem open_txn {H : Type} {enc : TypeId × Value → H} {w : World} {r : Reach} {b0 : Nat} {sp : Nat → Bool} {held : Bool} {v : Value} {d : DataW H} {ps : List MemPlace} (hsp : ∀ b, sp b = true)
  (hval : Value.okWide Tryz.prog w r b0 46 v) (h : DataW.Trod enc Tryz.prog w 0 sp held 46 v d ps) :
  ∃ (aq : Option Addr) (cq : Nat) (aa : Option Addr) (ca : Nat) (ab : Option Addr) (cb : Nat) (am : Option Addr) (cm : Nat) (ap : Option Addr) (cp : Nat) (au : Option Addr) (cu : Nat) (ac : Option Addr) (cc : Nat) (ah : Option Addr) (ch : Nat) (t : Tx),
   v = .agg #[.int .i64 t.kind, .int .i64 t.msg.id, .bool t.msg.reply, .int .i64 t.msg.op, .bool t.msg.auth, .int .i64 t.msg.code, .slice aq t.msg.qs.length cq, .slice aa t.msg.ans.length ca, .slice ab t.msg.aus.length cb, .slice am t.msg.more.length cm, .slice ap t.msg.pres.length cp, .slice au t.msg.ups.length cu, .int .i64 t.ip, .slice ac t.client.length cc, .slice ah t.host.length ch, .int .i64 t.when] ∧ InTx w aq aa ab am ap au ac ah t ∧ (t.msg.qs.length ≤ maxLen ∧ t.msg.ans.length ≤ maxLen ∧ t.msg.aus.length ≤ maxLen ∧ t.msg.more.length ≤ maxLen ∧ t.msg.pres.length ≤ maxLen ∧ t.msg.ups.length ≤ maxLen) ∧ SizeM maxLen t.msg ∧ t.client.length ≤ maxLen ∧ t.host.length ≤ maxLen := by
 obtain ⟨cs, rfl, hs⟩ := okWide_struct Tryz.underlying46 hval
 rw [cells_Txn] at hs
 obtain ⟨e0, e1, e2, e3, e4, e5, e6, e7, e8, e9, e10, e11, e12, e13, e14, e15, rfl⟩ : ∃ e0 e1 e2 e3 e4 e5 e6 e7 e8 e9 e10 e11 e12 e13 e14 e15, cs = #[e0, e1, e2, e3, e4, e5, e6, e7, e8, e9, e10, e11, e12, e13, e14, e15] := by
  cases cs with
  | mk l =>
   match l, hs with
   | [e0, e1, e2, e3, e4, e5, e6, e7, e8, e9, e10, e11, e12, e13, e14, e15], _ => exact ⟨e0, e1, e2, e3, e4, e5, e6, e7, e8, e9, e10, e11, e12, e13, e14, e15, rfl⟩
 obtain ⟨fuel, hf0⟩ := h
 have hcells : (Value.agg #[e0, e1, e2, e3, e4, e5, e6, e7, e8, e9, e10, e11, e12, e13, e14, e15]).cells.toList = [e0, e1, e2, e3, e4, e5, e6, e7, e8, e9, e10, e11, e12, e13, e14, e15] := by simp [Value.cells]
 rw [hcells] at hf0
 obtain ⟨xs, n, _, _, _, hlen, hf⟩ := DataW.trod_struct Tryz.underlying46 hf0
 match xs, hlen with
 | [y0, y1, y2, y3, y4, y5], _ =>
  have h0 : DataW.trod enc Tryz.prog w 0 sp held n 3 (([e0, e1, e2, e3, e4, e5, e6, e7, e8, e9, e10, e11, e12, e13, e14, e15].drop 0).take (Tryz.prog.cellsOf 3)) = some y0 := hf 0 _ rfl
  have h1 : DataW.trod enc Tryz.prog w 0 sp held n 26 (([e0, e1, e2, e3, e4, e5, e6, e7, e8, e9, e10, e11, e12, e13, e14, e15].drop 1).take (Tryz.prog.cellsOf 26)) = some y1 := hf 1 _ rfl
  have h2 : DataW.trod enc Tryz.prog w 0 sp held n 3 (([e0, e1, e2, e3, e4, e5, e6, e7, e8, e9, e10, e11, e12, e13, e14, e15].drop 12).take (Tryz.prog.cellsOf 3)) = some y2 := hf 2 _ rfl
  have h3 : DataW.trod enc Tryz.prog w 0 sp held n 37 (([e0, e1, e2, e3, e4, e5, e6, e7, e8, e9, e10, e11, e12, e13, e14, e15].drop 13).take (Tryz.prog.cellsOf 37)) = some y3 := hf 3 _ rfl
  have h4 : DataW.trod enc Tryz.prog w 0 sp held n 37 (([e0, e1, e2, e3, e4, e5, e6, e7, e8, e9, e10, e11, e12, e13, e14, e15].drop 14).take (Tryz.prog.cellsOf 37)) = some y4 := hf 4 _ rfl
  have h5 : DataW.trod enc Tryz.prog w 0 sp held n 3 (([e0, e1, e2, e3, e4, e5, e6, e7, e8, e9, e10, e11, e12, e13, e14, e15].drop 15).take (Tryz.prog.cellsOf 3)) = some y5 := hf 5 _ rfl
  rw [cellsInt] at h0
  rw [cells_Msg] at h1
  rw [cellsInt] at h2
  rw [cellsText] at h3
  rw [cellsText] at h4
  rw [cellsInt] at h5
  simp only [List.drop_zero, List.drop_succ_cons, List.take_succ_cons, List.take_zero] at h0 h1 h2 h3 h4 h5
  obtain ⟨t0, f0, _, _⟩ := DataW.trod_int Tryz.underlying3 h0
  obtain ⟨aq, pq, aa, pa, ab, pb, am, pm, ap, pp, au, pu, m, fm, _, _, _, hI, hL, hS⟩ := open_msgCells hsp h1
  obtain ⟨t2, f2, _, _⟩ := DataW.trod_int Tryz.underlying3 h2
  obtain ⟨ac, pc, lc, g3, q1, q2, _⟩ := ints_lies Tryz.underlying37 Tryz.underlying5 cellsByte hsp h3
  obtain ⟨ah, ph, lh, g4, r1, r2, _⟩ := ints_lies Tryz.underlying37 Tryz.underlying5 cellsByte hsp h4
  obtain ⟨t5, f5, _, _⟩ := DataW.trod_int Tryz.underlying3 h5
  simp only [List.cons.injEq, and_true] at f0 fm f2 f5
  obtain ⟨rfl, rfl, rfl, rfl, rfl, rfl, rfl, rfl, rfl, rfl, rfl⟩ := fm
  subst f0 f2 f5 g3 g4
  exact ⟨aq, pq, aa, pa, ab, pb, am, pm, ap, pp, au, pu, ac, pc, ah, ph, ⟨t0, m, t2, lc, lh, t5⟩, rfl, ⟨hI, q2, r2⟩, hL, hS, q1, r1⟩
end Go.Proofs.YtnplmeifhebhhaaGreat

namespace Go.Proofs.YtnplmeifhebhhaaGreat
open Go.RowKit
set_option linter.unusedVariables false

theorem info_int : (Tryz.prog.info? 3).map (fun i => (i.zero, i.size, i.bytes)) = some (some (.int .i64 0), 1, 8) := by kernel_rfl

set_option maxHeartbeats 400000 in
set_option maxRecDepth 100000 in
theorem toIntS_row (a : Option Addr) (cap : Nat) (l : List Int) (w : World) (h : LiesI w a l) (hl : l.length ≤ 1048576) :
  Calls Tryz.prog 106 #[.slice a l.length cap] w fun e w' => e = .returned (.slice (some ⟨w.heap.size, 0, none⟩) l.length l.length) ∧
   w'.rowIs w.heap.size 3 l.length (fun i => .int .i64 (l.getD i 0)) ∧ Below w.heap.size w w' := by
 have hmk := run_make_row' (P := Tryz.prog) 94 3 (.int .i64 0) 8 Tryz.underlying94 info_int rfl .i64 .i64 l.length (by omega) (by omega)
 generalize hn : l.length = n at *
 have HN := hide hn
 clear hn
 go_enter Tryz.func106, Tryz.ntmps106
 go_wp2
 go_loopw [4] (fun i wr => ∃ k : Nat, k ≤ n ∧ i = .int .i64 k ∧ wr.rowIs w.heap.size 3 n (fun j => if j < k then .int .i64 (l.getD j 0) else .int .i64 0) ∧ Below w.heap.size w wr) (fun i _ => n - (intOf i).toNat)
 case atStart => exact ⟨0, Nat.zero_le _, rfl, by simpa using World.rowIs_made w _ n 3, (Below.refl _ _).alloc (Nat.le_refl _) _⟩
 case round =>
  obtain ⟨k, hk, rfl, hr, hb⟩ := hrel
  by_cases hlt : k < n
  ·obtain ⟨b, off, rfl, hbl, hc⟩ := h.cell hb (k := k) (by rw [unhide HN]; exact hlt)
   have hc2 := hr.cell hlt
   simp only [Nat.lt_irrefl, if_false] at hc2
   have hf2 := hr.frozen k
   have HR := hide hr
   clear hr
   go_wp2
   go_roundw
   case rel =>
    refine ⟨k + 1, by omega, by go_num, ?_, hb.setCell (Nat.le_refl _) _⟩
    refine ((unhide HR).set k _).congr fun j hj => ?_
    by_cases e : j = k
    ·subst e; simp
    ·have : j < k + 1 ↔ j < k := by omega
     simp [e, this]
   case measure => simp [intOf]; omega
  ·go_wp2
   go_ret
   obtain rfl : k = n := by omega
   refine ⟨rfl, hr.congr fun j hj => by simp [hj], hb⟩

theorem toIntS_any (a : Option Addr) (cap : Nat) (l : List Int) (w : World) (h : LiesI w a l) (hl : l.length ≤ 1048576) :
  Calls Tryz.prog 106 #[.slice a l.length cap] w fun e w' => ∃ v, e = .returned v ∧ OwnI w.heap.size 3 w' v l ∧ Below w.heap.size w w' :=
 (toIntS_row a cap l w h hl).mono fun e w' ⟨he, hr, hb⟩ => ⟨_, he, OwnI.ofRow hr (Nat.le_refl _) (by unfold maxLen; omega), hb⟩

set_option maxHeartbeats 400000 in
set_option maxRecDepth 100000 in
theorem eqIntS_eq (a a' : Option Addr) (cap cap' : Nat) (l : List Int) (w : World) (h : LiesI w a l) (h' : LiesI w a' l) (hl : l.length ≤ 2097152) :
  Calls Tryz.prog 108 #[.slice a l.length cap, .slice a' l.length cap'] w fun e w' => e = .returned (.bool true) ∧ ∃ n, w' = w.drewN n := by
 generalize hn : l.length = n at *
 have HN := hide hn
 clear hn
 go_enter Tryz.func108, Tryz.ntmps108
 go_wp2
 go_loopw [5] (fun i wr => ∃ k : Nat, k ≤ n ∧ i = .int .i64 k ∧ ∃ m, wr = w.drewN m) (fun i _ => n - (intOf i).toNat)
 case atStart => exact ⟨0, Nat.zero_le _, rfl, 0, rfl⟩
 case round =>
  obtain ⟨k, hk, rfl, m, rfl⟩ := hrel
  by_cases hlt : k < n
  ·obtain ⟨b, off, rfl, hbl, hc⟩ := h.here (k := k) (by rw [unhide HN]; exact hlt)
   obtain ⟨b', off', rfl, hbl', hc'⟩ := h'.here (k := k) (by rw [unhide HN]; exact hlt)
   go_wp2
   go_quiet (fail)
   go_wp2
   exact ⟨⟨k + 1, by omega, by go_num, _, rfl⟩, by simp [intOf]; omega⟩
  ·go_wp2
   go_ret
   exact ⟨rfl, m, rfl⟩

end Go.Proofs.YtnplmeifhebhhaaGreat

namespace Go.Proofs.YtnplmeifhebhhaaGreat
open Go.RowKit
set_option linter.unusedVariables false

set_option maxHeartbeats 400000 in
set_option maxRecDepth 100000 in
theorem toByteS_row (a : Option Addr) (cap : Nat) (l : List Int) (w : World) (h : Lies w a l) (hl : l.length ≤ 1048576) :
  Calls Tryz.prog 61 #[.slice a l.length cap] w fun e w' => e = .returned (.slice (some ⟨w.heap.size, 0, none⟩) l.length l.length) ∧
   w'.rowIs w.heap.size 5 l.length (fun i => .int .u8 (l.getD i 0)) ∧ Below w.heap.size w w' := by
 have hmk := run_make_row' (P := Tryz.prog) 37 5 (.int .u8 0) 1 Tryz.underlying37 info_u8 rfl .i64 .i64 l.length (by omega) (by omega)
 generalize hn : l.length = n at *
 have HN := hide hn
 clear hn
 go_enter Tryz.func61, Tryz.ntmps61
 go_wp2
 go_loopw [4] (fun i wr => ∃ k : Nat, k ≤ n ∧ i = .int .i64 k ∧ wr.rowIs w.heap.size 5 n (fun j => if j < k then .int .u8 (l.getD j 0) else .int .u8 0) ∧ Below w.heap.size w wr) (fun i _ => n - (intOf i).toNat)
 case atStart => exact ⟨0, Nat.zero_le _, rfl, by simpa using World.rowIs_made w _ n 5, (Below.refl _ _).alloc (Nat.le_refl _) _⟩
 case round =>
  obtain ⟨k, hk, rfl, hr, hb⟩ := hrel
  by_cases hlt : k < n
  ·obtain ⟨b, off, rfl, hbl, hc⟩ := h.cell hb (k := k) (by rw [unhide HN]; exact hlt)
   have hc2 := hr.cell hlt
   simp only [Nat.lt_irrefl, if_false] at hc2
   have hf2 := hr.frozen k
   have HR := hide hr
   clear hr
   go_wp2
   go_roundw
   case rel =>
    refine ⟨k + 1, by omega, by go_num, ?_, hb.setCell (Nat.le_refl _) _⟩
    refine ((unhide HR).set k _).congr fun j hj => ?_
    by_cases e : j = k
    ·subst e; simp
    ·have : j < k + 1 ↔ j < k := by omega
     simp [e, this]
   case measure => simp [intOf]; omega
  ·go_wp2
   go_ret
   obtain rfl : k = n := by omega
   refine ⟨rfl, hr.congr fun j hj => by simp [hj], hb⟩

theorem toByteS_any (a : Option Addr) (cap : Nat) (l : List Int) (w : World) (h : Lies w a l) (hl : l.length ≤ 1048576) :
  Calls Tryz.prog 61 #[.slice a l.length cap] w fun e w' => ∃ v, e = .returned v ∧ Own w.heap.size 5 w' v l ∧ Below w.heap.size w w' :=
 (toByteS_row a cap l w h hl).mono fun e w' ⟨he, hr, hb⟩ => ⟨_, he, Own.ofRow hr (Nat.le_refl _) (by unfold maxLen; omega), hb⟩

set_option maxHeartbeats 400000 in
set_option maxRecDepth 100000 in
theorem eqByteS_eq (a a' : Option Addr) (cap cap' : Nat) (l : List Int) (w : World) (h : Lies w a l) (h' : Lies w a' l) (hl : l.length ≤ 2097152) :
  Calls Tryz.prog 15 #[.slice a l.length cap, .slice a' l.length cap'] w fun e w' => e = .returned (.bool true) ∧ ∃ n, w' = w.drewN n := by
 generalize hn : l.length = n at *
 have HN := hide hn
 clear hn
 go_enter Tryz.func15, Tryz.ntmps15
 go_wp2
 go_loopw [5] (fun i wr => ∃ k : Nat, k ≤ n ∧ i = .int .i64 k ∧ ∃ m, wr = w.drewN m) (fun i _ => n - (intOf i).toNat)
 case atStart => exact ⟨0, Nat.zero_le _, rfl, 0, rfl⟩
 case round =>
  obtain ⟨k, hk, rfl, m, rfl⟩ := hrel
  by_cases hlt : k < n
  ·obtain ⟨b, off, rfl, hbl, hc⟩ := h.here (k := k) (by rw [unhide HN]; exact hlt)
   obtain ⟨b', off', rfl, hbl', hc'⟩ := h'.here (k := k) (by rw [unhide HN]; exact hlt)
   go_wp2
   go_quiet (fail)
   go_wp2
   exact ⟨⟨k + 1, by omega, by go_num, _, rfl⟩, by simp [intOf]; omega⟩
  ·go_wp2
   go_ret
   exact ⟨rfl, m, rfl⟩

end Go.Proofs.YtnplmeifhebhhaaGreat
