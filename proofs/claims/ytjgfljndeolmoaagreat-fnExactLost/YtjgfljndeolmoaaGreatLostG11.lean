/-
  What is known of a task that came in as an argument. Plain facts: a block of two cells. Contracts of the helpers of the laws for slices of numbers (toIntS, eqIntS, markIntS, heldIntS). Contracts of the byte helpers of the laws (toByteS, eqByteS): what each answers and what it leaves in memory, for every slice of at most 1048576 bytes.
-/
import Derived.Test.YtjgfljndeolmoaaGreatLostG05
import Derived.Test.YtjgfljndeolmoaaGreatLostG10
import Derived.Test.YtjgfljndeolmoaaGreatLostG01
import Derived.Test.YtjgfljndeolmoaaGreatLostG03
import Derived.Test.YtjgfljndeolmoaaGreatLostG09
namespace Go.Proofs.YtjgfljndeolmoaaGreat
open Go.RowKit Go.ChangeShapes Go.WideShapes Go.ChangeAt

theorem cells_QuestionT : Tryz.prog.cellsOf 50 = 2 := by kernel_rfl
theorem cells_Task : Tryz.prog.cellsOf 53 = 13 := by kernel_rfl
set_option maxRecDepth 100000 in
theorem open_queC {H : Type} {enc : TypeId × Value → H} {w : World} {sp : Nat → Bool} {held : Bool} {fuel : Nat} {c0 c1 : Value} {x : DataW H × List MemPlace} (hsp : ∀ b, sp b = true) (hf0 : DataW.trod enc Tryz.prog w 0 sp held fuel 50 [c0, c1] = some x) :
  ∃ (a : Option Addr) (c : Nat) (q : Que), c0 = .slice a q.name.length c ∧ c1 = .int .i64 q.type ∧ LiesL w a q.name ∧ SizeQu maxLen q := by
 obtain ⟨xs, n, _, _, _, hlen, hf⟩ := DataW.trod_struct Tryz.underlying50 hf0
 match xs, hlen with
 | [y0, y1], _ =>
  have h0 : DataW.trod enc Tryz.prog w 0 sp held n 48 (([c0, c1].drop 0).take (Tryz.prog.cellsOf 48)) = some y0 := hf 0 _ rfl
  have h1 : DataW.trod enc Tryz.prog w 0 sp held n 3 (([c0, c1].drop 1).take (Tryz.prog.cellsOf 3)) = some y1 := hf 1 _ rfl
  rw [cellsName] at h0
  rw [cellsInt] at h1
  simp only [List.drop_zero, List.drop_succ_cons, List.take_succ_cons, List.take_zero] at h0 h1
  obtain ⟨an, cn, nm, rfl, a1, a2, a3⟩ := open_nameCell hsp h0
  obtain ⟨t1, f1, _, _⟩ := DataW.trod_int Tryz.underlying3 h1
  simp only [List.cons.injEq, and_true] at f1
  subst f1
  exact ⟨an, cn, ⟨nm, t1⟩, rfl, rfl, a2, ⟨a1, a3⟩⟩
set_option maxRecDepth 100000 in
theorem open_task {H : Type} {enc : TypeId × Value → H} {w : World} {r : Reach} {b0 : Nat} {sp : Nat → Bool} {held : Bool} {v : Value} {d : DataW H} {ps : List MemPlace} (hsp : ∀ b, sp b = true)
  (hval : Value.okWide Tryz.prog w r b0 53 v) (h : DataW.Trod enc Tryz.prog w 0 sp held 53 v d ps) :
  ∃ (af : Option Addr) (cf : Nat) (an : Option Addr) (cn : Nat) (az : Option Addr) (cz : Nat) (ah : Option Addr) (ch : Nat) (ar : Option Addr) (cr : Nat) (aa : Option Addr) (ca : Nat) (t : Tk),
   v = .agg #[.int .i64 t.state, .int .i64 t.id, .slice af t.fst.name.length cf, .int .i64 t.fst.type, .slice an t.name.length cn, .slice az t.zone.length cz, .slice ah t.hints.length ch, .slice ar t.servers.length cr, .int .i64 t.turn, .int .i64 t.sends, .int .i64 t.steps, .int .i64 t.code, .slice aa t.ans.length ca] ∧ InTk w af an az ah ar aa t ∧ SizeTk maxLen t := by
 obtain ⟨cs, rfl, hs⟩ := okWide_struct Tryz.underlying53 hval
 rw [cells_Task] at hs
 obtain ⟨e0, e1, e2, e3, e4, e5, e6, e7, e8, e9, e10, e11, e12, rfl⟩ : ∃ e0 e1 e2 e3 e4 e5 e6 e7 e8 e9 e10 e11 e12, cs = #[e0, e1, e2, e3, e4, e5, e6, e7, e8, e9, e10, e11, e12] := by
  cases cs with
  | mk l =>
   match l, hs with
   | [e0, e1, e2, e3, e4, e5, e6, e7, e8, e9, e10, e11, e12], _ => exact ⟨e0, e1, e2, e3, e4, e5, e6, e7, e8, e9, e10, e11, e12, rfl⟩
 obtain ⟨fuel, hf0⟩ := h
 have hcells : (Value.agg #[e0, e1, e2, e3, e4, e5, e6, e7, e8, e9, e10, e11, e12]).cells.toList = [e0, e1, e2, e3, e4, e5, e6, e7, e8, e9, e10, e11, e12] := by simp [Value.cells]
 rw [hcells] at hf0
 obtain ⟨xs, n, _, _, _, hlen, hf⟩ := DataW.trod_struct Tryz.underlying53 hf0
 match xs, hlen with
 | [y0, y1, y2, y3, y4, y5, y6, y7, y8, y9, y10, y11], _ =>
  have h0 : DataW.trod enc Tryz.prog w 0 sp held n 3 (([e0, e1, e2, e3, e4, e5, e6, e7, e8, e9, e10, e11, e12].drop 0).take (Tryz.prog.cellsOf 3)) = some y0 := hf 0 _ rfl
  have h1 : DataW.trod enc Tryz.prog w 0 sp held n 3 (([e0, e1, e2, e3, e4, e5, e6, e7, e8, e9, e10, e11, e12].drop 1).take (Tryz.prog.cellsOf 3)) = some y1 := hf 1 _ rfl
  have h2 : DataW.trod enc Tryz.prog w 0 sp held n 50 (([e0, e1, e2, e3, e4, e5, e6, e7, e8, e9, e10, e11, e12].drop 2).take (Tryz.prog.cellsOf 50)) = some y2 := hf 2 _ rfl
  have h3 : DataW.trod enc Tryz.prog w 0 sp held n 48 (([e0, e1, e2, e3, e4, e5, e6, e7, e8, e9, e10, e11, e12].drop 4).take (Tryz.prog.cellsOf 48)) = some y3 := hf 3 _ rfl
  have h4 : DataW.trod enc Tryz.prog w 0 sp held n 48 (([e0, e1, e2, e3, e4, e5, e6, e7, e8, e9, e10, e11, e12].drop 5).take (Tryz.prog.cellsOf 48)) = some y4 := hf 4 _ rfl
  have h5 : DataW.trod enc Tryz.prog w 0 sp held n 51 (([e0, e1, e2, e3, e4, e5, e6, e7, e8, e9, e10, e11, e12].drop 6).take (Tryz.prog.cellsOf 51)) = some y5 := hf 5 _ rfl
  have h6 : DataW.trod enc Tryz.prog w 0 sp held n 51 (([e0, e1, e2, e3, e4, e5, e6, e7, e8, e9, e10, e11, e12].drop 7).take (Tryz.prog.cellsOf 51)) = some y6 := hf 6 _ rfl
  have h7 : DataW.trod enc Tryz.prog w 0 sp held n 3 (([e0, e1, e2, e3, e4, e5, e6, e7, e8, e9, e10, e11, e12].drop 8).take (Tryz.prog.cellsOf 3)) = some y7 := hf 7 _ rfl
  have h8 : DataW.trod enc Tryz.prog w 0 sp held n 3 (([e0, e1, e2, e3, e4, e5, e6, e7, e8, e9, e10, e11, e12].drop 9).take (Tryz.prog.cellsOf 3)) = some y8 := hf 8 _ rfl
  have h9 : DataW.trod enc Tryz.prog w 0 sp held n 3 (([e0, e1, e2, e3, e4, e5, e6, e7, e8, e9, e10, e11, e12].drop 10).take (Tryz.prog.cellsOf 3)) = some y9 := hf 9 _ rfl
  have h10 : DataW.trod enc Tryz.prog w 0 sp held n 3 (([e0, e1, e2, e3, e4, e5, e6, e7, e8, e9, e10, e11, e12].drop 11).take (Tryz.prog.cellsOf 3)) = some y10 := hf 10 _ rfl
  have h11 : DataW.trod enc Tryz.prog w 0 sp held n 23 (([e0, e1, e2, e3, e4, e5, e6, e7, e8, e9, e10, e11, e12].drop 12).take (Tryz.prog.cellsOf 23)) = some y11 := hf 11 _ rfl
  rw [cellsInt] at h0
  rw [cellsInt] at h1
  rw [cells_QuestionT] at h2
  rw [cellsName] at h3
  rw [cellsName] at h4
  rw [cellsNums] at h5
  rw [cellsNums] at h6
  rw [cellsInt] at h7
  rw [cellsInt] at h8
  rw [cellsInt] at h9
  rw [cellsInt] at h10
  rw [cellsRecs] at h11
  simp only [List.drop_zero, List.drop_succ_cons, List.take_succ_cons, List.take_zero] at h0 h1 h2 h3 h4 h5 h6 h7 h8 h9 h10 h11
  obtain ⟨af, cf, q, g2, g3, q1, q2⟩ := open_queC hsp h2
  obtain ⟨an, cn, nm, g4, n1, n2, n3⟩ := open_nameCell hsp h3
  obtain ⟨az, cz, zn, g5, z1, z2, z3⟩ := open_nameCell hsp h4
  obtain ⟨ah, ch, lh, g6, i1, i2⟩ := nums_lies Tryz.underlying51 Tryz.underlying3 cellsInt hsp h5
  obtain ⟨ar, cr, lr, g7, j1, j2⟩ := nums_lies Tryz.underlying51 Tryz.underlying3 cellsInt hsp h6
  obtain ⟨aa, ca, rs, g8, r1, r2, r3⟩ := open_recs hsp h11
  obtain ⟨t0, f0, _, _⟩ := DataW.trod_int Tryz.underlying3 h0
  obtain ⟨t1, f1, _, _⟩ := DataW.trod_int Tryz.underlying3 h1
  obtain ⟨t7, f7, _, _⟩ := DataW.trod_int Tryz.underlying3 h7
  obtain ⟨t8, f8, _, _⟩ := DataW.trod_int Tryz.underlying3 h8
  obtain ⟨t9, f9, _, _⟩ := DataW.trod_int Tryz.underlying3 h9
  obtain ⟨t10, f10, _, _⟩ := DataW.trod_int Tryz.underlying3 h10
  simp only [List.cons.injEq, and_true] at f0 f1 f7 f8 f9 f10
  subst f0 f1 f7 f8 f9 f10 g2 g3 g4 g5 g6 g7 g8
  exact ⟨af, cf, an, cn, az, cz, ah, ch, ar, cr, aa, ca, ⟨t0, t1, q, nm, zn, lh, lr, t7, t8, t9, t10, rs⟩, rfl, ⟨q1, n2, z2, i2, j2, r2⟩, ⟨q2, n1, n3, z1, z3, i1, j1, r1, r3⟩⟩
end Go.Proofs.YtjgfljndeolmoaaGreat

namespace Go.Proofs.YtjgfljndeolmoaaGreat
open Go.RowKit

theorem cells2 {w : World} {b : Nat} {c0 c1 : Value} {t : TypeId} (h : w.heap[b]? = some (.cells #[c0, c1] t)) : w.cell? ⟨b, 0, none⟩ = some c0 ∧ w.cell? ⟨b, 1, none⟩ = some c1 := ⟨block_cell h 0, block_cell h 1⟩
theorem frozen2 {w : World} {b : Nat} {c : Array Value} {t : TypeId} (h : w.heap[b]? = some (.cells c t)) : w.frozen? ⟨b, 0, none⟩ = false ∧ w.frozen? ⟨b, 1, none⟩ = false := ⟨block_frozen h 0, block_frozen h 1⟩
end Go.Proofs.YtjgfljndeolmoaaGreat

namespace Go.Proofs.YtjgfljndeolmoaaGreat
open Go.RowKit
set_option linter.unusedVariables false

theorem info_int : (Tryz.prog.info? 3).map (fun i => (i.zero, i.size, i.bytes)) = some (some (.int .i64 0), 1, 8) := by kernel_rfl

set_option maxHeartbeats 400000 in
set_option maxRecDepth 100000 in
theorem toIntS_row (a : Option Addr) (cap : Nat) (l : List Int) (w : World) (h : LiesI w a l) (hl : l.length ≤ 1048576) :
  Calls Tryz.prog 43 #[.slice a l.length cap] w fun e w' => e = .returned (.slice (some ⟨w.heap.size, 0, none⟩) l.length l.length) ∧
   w'.rowIs w.heap.size 3 l.length (fun i => .int .i64 (l.getD i 0)) ∧ Below w.heap.size w w' := by
 have hmk := run_make_row' (P := Tryz.prog) 51 3 (.int .i64 0) 8 Tryz.underlying51 info_int rfl .i64 .i64 l.length (by omega) (by omega)
 generalize hn : l.length = n at *
 have HN := hide hn
 clear hn
 go_enter Tryz.func43, Tryz.ntmps43
 go_wp2
 go_loopw [4] (fun i wr => ∃ k : Nat, k ≤ n ∧ i = .int .i64 k ∧ wr.rowIs w.heap.size 3 n (fun j => if j < k then .int .i64 (l.getD j 0) else .int .i64 0) ∧ Below w.heap.size w wr) (fun i _ => n - (intOf i).toNat)
 case atStart => exact ⟨0, Nat.zero_le _, rfl, by simpa using World.rowIs_made w _ n 3, (Below.refl _ _).alloc (Nat.le_refl _) _⟩
 case round =>
  obtain ⟨k, hk, rfl, hr, hb⟩ := hrel
  by_cases hlt : k < n
  ·obtain ⟨b, off, rfl, hbl, hc⟩ := h.cell hb (k := k) (by rw [unhide HN]; exact hlt)
   have hc2 := hr.cell hlt
   simp only [Nat.lt_irrefl, if_false] at hc2
   have hf2 := hr.frozen k
   have HR := hide hr
   clear hr
   go_wp2
   go_roundw
   case rel =>
    refine ⟨k + 1, by omega, by go_num, ?_, hb.setCell (Nat.le_refl _) _⟩
    refine ((unhide HR).set k _).congr fun j hj => ?_
    by_cases e : j = k
    ·subst e; simp
    ·have : j < k + 1 ↔ j < k := by omega
     simp [e, this]
   case measure => simp [intOf]; omega
  ·go_wp2
   go_ret
   obtain rfl : k = n := by omega
   refine ⟨rfl, hr.congr fun j hj => by simp [hj], hb⟩

theorem toIntS_any (a : Option Addr) (cap : Nat) (l : List Int) (w : World) (h : LiesI w a l) (hl : l.length ≤ 1048576) :
  Calls Tryz.prog 43 #[.slice a l.length cap] w fun e w' => ∃ v, e = .returned v ∧ OwnI w.heap.size 3 w' v l ∧ Below w.heap.size w w' :=
 (toIntS_row a cap l w h hl).mono fun e w' ⟨he, hr, hb⟩ => ⟨_, he, OwnI.ofRow hr (Nat.le_refl _) (by unfold maxLen; omega), hb⟩

set_option maxHeartbeats 400000 in
set_option maxRecDepth 100000 in
theorem eqIntS_eq (a a' : Option Addr) (cap cap' : Nat) (l : List Int) (w : World) (h : LiesI w a l) (h' : LiesI w a' l) (hl : l.length ≤ 2097152) :
  Calls Tryz.prog 53 #[.slice a l.length cap, .slice a' l.length cap'] w fun e w' => e = .returned (.bool true) ∧ ∃ n, w' = w.drewN n := by
 generalize hn : l.length = n at *
 have HN := hide hn
 clear hn
 go_enter Tryz.func53, Tryz.ntmps53
 go_wp2
 go_loopw [5] (fun i wr => ∃ k : Nat, k ≤ n ∧ i = .int .i64 k ∧ ∃ m, wr = w.drewN m) (fun i _ => n - (intOf i).toNat)
 case atStart => exact ⟨0, Nat.zero_le _, rfl, 0, rfl⟩
 case round =>
  obtain ⟨k, hk, rfl, m, rfl⟩ := hrel
  by_cases hlt : k < n
  ·obtain ⟨b, off, rfl, hbl, hc⟩ := h.here (k := k) (by rw [unhide HN]; exact hlt)
   obtain ⟨b', off', rfl, hbl', hc'⟩ := h'.here (k := k) (by rw [unhide HN]; exact hlt)
   go_wp2
   go_quiet (fail)
   go_wp2
   exact ⟨⟨k + 1, by omega, by go_num, _, rfl⟩, by simp [intOf]; omega⟩
  ·go_wp2
   go_ret
   exact ⟨rfl, m, rfl⟩

end Go.Proofs.YtjgfljndeolmoaaGreat

namespace Go.Proofs.YtjgfljndeolmoaaGreat
open Go.RowKit
set_option linter.unusedVariables false

set_option maxHeartbeats 400000 in
set_option maxRecDepth 100000 in
theorem toByteS_row (a : Option Addr) (cap : Nat) (l : List Int) (w : World) (h : Lies w a l) (hl : l.length ≤ 1048576) :
  Calls Tryz.prog 32 #[.slice a l.length cap] w fun e w' => e = .returned (.slice (some ⟨w.heap.size, 0, none⟩) l.length l.length) ∧
   w'.rowIs w.heap.size 5 l.length (fun i => .int .u8 (l.getD i 0)) ∧ Below w.heap.size w w' := by
 have hmk := run_make_row' (P := Tryz.prog) 27 5 (.int .u8 0) 1 Tryz.underlying27 info_u8 rfl .i64 .i64 l.length (by omega) (by omega)
 generalize hn : l.length = n at *
 have HN := hide hn
 clear hn
 go_enter Tryz.func32, Tryz.ntmps32
 go_wp2
 go_loopw [4] (fun i wr => ∃ k : Nat, k ≤ n ∧ i = .int .i64 k ∧ wr.rowIs w.heap.size 5 n (fun j => if j < k then .int .u8 (l.getD j 0) else .int .u8 0) ∧ Below w.heap.size w wr) (fun i _ => n - (intOf i).toNat)
 case atStart => exact ⟨0, Nat.zero_le _, rfl, by simpa using World.rowIs_made w _ n 5, (Below.refl _ _).alloc (Nat.le_refl _) _⟩
 case round =>
  obtain ⟨k, hk, rfl, hr, hb⟩ := hrel
  by_cases hlt : k < n
  ·obtain ⟨b, off, rfl, hbl, hc⟩ := h.cell hb (k := k) (by rw [unhide HN]; exact hlt)
   have hc2 := hr.cell hlt
   simp only [Nat.lt_irrefl, if_false] at hc2
   have hf2 := hr.frozen k
   have HR := hide hr
   clear hr
   go_wp2
   go_roundw
   case rel =>
    refine ⟨k + 1, by omega, by go_num, ?_, hb.setCell (Nat.le_refl _) _⟩
    refine ((unhide HR).set k _).congr fun j hj => ?_
    by_cases e : j = k
    ·subst e; simp
    ·have : j < k + 1 ↔ j < k := by omega
     simp [e, this]
   case measure => simp [intOf]; omega
  ·go_wp2
   go_ret
   obtain rfl : k = n := by omega
   refine ⟨rfl, hr.congr fun j hj => by simp [hj], hb⟩

theorem toByteS_any (a : Option Addr) (cap : Nat) (l : List Int) (w : World) (h : Lies w a l) (hl : l.length ≤ 1048576) :
  Calls Tryz.prog 32 #[.slice a l.length cap] w fun e w' => ∃ v, e = .returned v ∧ Own w.heap.size 5 w' v l ∧ Below w.heap.size w w' :=
 (toByteS_row a cap l w h hl).mono fun e w' ⟨he, hr, hb⟩ => ⟨_, he, Own.ofRow hr (Nat.le_refl _) (by unfold maxLen; omega), hb⟩

set_option maxHeartbeats 400000 in
set_option maxRecDepth 100000 in
theorem eqByteS_eq (a a' : Option Addr) (cap cap' : Nat) (l : List Int) (w : World) (h : Lies w a l) (h' : Lies w a' l) (hl : l.length ≤ 2097152) :
  Calls Tryz.prog 10 #[.slice a l.length cap, .slice a' l.length cap'] w fun e w' => e = .returned (.bool true) ∧ ∃ n, w' = w.drewN n := by
 generalize hn : l.length = n at *
 have HN := hide hn
 clear hn
 go_enter Tryz.func10, Tryz.ntmps10
 go_wp2
 go_loopw [5] (fun i wr => ∃ k : Nat, k ≤ n ∧ i = .int .i64 k ∧ ∃ m, wr = w.drewN m) (fun i _ => n - (intOf i).toNat)
 case atStart => exact ⟨0, Nat.zero_le _, rfl, 0, rfl⟩
 case round =>
  obtain ⟨k, hk, rfl, m, rfl⟩ := hrel
  by_cases hlt : k < n
  ·obtain ⟨b, off, rfl, hbl, hc⟩ := h.here (k := k) (by rw [unhide HN]; exact hlt)
   obtain ⟨b', off', rfl, hbl', hc'⟩ := h'.here (k := k) (by rw [unhide HN]; exact hlt)
   go_wp2
   go_quiet (fail)
   go_wp2
   exact ⟨⟨k + 1, by omega, by go_num, _, rfl⟩, by simp [intOf]; omega⟩
  ·go_wp2
   go_ret
   exact ⟨rfl, m, rfl⟩

end Go.Proofs.YtjgfljndeolmoaaGreat
