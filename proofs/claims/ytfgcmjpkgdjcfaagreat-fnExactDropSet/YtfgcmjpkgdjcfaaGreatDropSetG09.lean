/-
  Plain facts: what holds cells holds them still: names, records and rows of them that are owned. No program is named here. slices.Backward of the library at lists of texts, as what a loop ranges over. Plain facts: an append of bytes in a fenced walk. No program is named here. A slice of bytes made into a text.
-/
import Derived.Test.YtfgcmjpkgdjcfaaGreatDropSetG06
import Derived.Test.YtfgcmjpkgdjcfaaGreatDropSetG08
import Derived.RangeFuncNested
import Derived.Test.YtfgcmjpkgdjcfaaGreatDropSetG03
import Derived.Test.YtfgcmjpkgdjcfaaGreatDropSetG00
import Derived.RangeFuncBound
import Derived.RangeFuncCalls
import Derived.RangeFuncLeaves
import Derived.Shelf.Abstract
import Derived.Shelf.RegionOpen
import Derived.WalkKit
import Derived.OwnWalkIn
import Derived.TacticsInMore
import Derived.LoopNIn
import Derived.LoopIn
namespace Go.Proofs.YtfgcmjpkgdjcfaaGreat
open Go.RowKit
set_option linter.unusedVariables false

theorem row_keptC {W W' : World} {B n s : Nat} {e : TypeId} {v : Value} {xs : List Value} (h : W.ownsRow B e s v n xs) (hk : KeptC W W') : W'.ownsRow B e s v n xs := by
 obtain ⟨h1, h2⟩ := h
 rcases h2 with h2 | ⟨g, cap, c, h3, h4, h5, h6⟩
 ·exact ⟨h1, .inl h2⟩
 ·exact ⟨h1, .inr ⟨g, cap, c, h3, h4, hk _ _ _ h5, h6⟩⟩
theorem OwnN.keptC {C E : Nat} {el eb : TypeId} {W W' : World} {v : Value} {n : List (List Int)} (h : OwnN C E el eb W v n) (hk : KeptC W W') : OwnN C E el eb W' v n := by
 obtain ⟨vs, ho, hu, hd, hv, he⟩ := h
 refine ⟨vs, row_keptC ho hk, fun i hi => ?_, hd, hv, he⟩
 obtain ⟨x, h1, h2⟩ := hu i hi
 exact ⟨x, h1, row_keptC h2 hk⟩
theorem OwnB.keptC {C E : Nat} {e : TypeId} {W W' : World} {v : Value} {l : List Int} (h : OwnB C E e W v l) (hk : KeptC W W') : OwnB C E e W' v l := ⟨row_keptC h.1 hk, h.2⟩
theorem OwnBI.keptC {C E : Nat} {e : TypeId} {W W' : World} {v : Value} {l : List Int} (h : OwnBI C E e W v l) (hk : KeptC W W') : OwnBI C E e W' v l := ⟨row_keptC h.1 hk, h.2⟩
theorem OwnR.keptC {B E : Nat} {el eb ei : TypeId} {W W' : World} {vn vt vx vi : Value} {r : Rec} (h : OwnR B E el eb ei W vn vt vx vi r) (hk : KeptC W W') : OwnR B E el eb ei W' vn vt vx vi r := by
 obtain ⟨s1, s2, s3, a1, a2, a3, a4, h1, h2, h3, h4⟩ := h
 exact ⟨s1, s2, s3, a1, a2, a3, a4, h1.keptC hk, h2.keptC hk, h3.keptC hk, h4.keptC hk⟩
theorem RowO.keptC {B E : Nat} {er el eb ei : TypeId} {W W' : World} {v : Value} {rs : List Rec} (h : RowO B E er el eb ei W v rs) (hk : KeptC W W') : RowO B E er el eb ei W' v rs := by
 obtain ⟨xs, f, g, ho, hq, hx⟩ := h
 refine ⟨xs, f, g, row_keptC ho hk, hq, fun i hi => ?_⟩
 obtain ⟨h1, h2, h3, h4, vn, vt, vx, vi, q1, q2⟩ := hx i hi
 exact ⟨h1, h2, h3, h4, vn, vt, vx, vi, q1, q2.keptC hk⟩
/-- A row isn't a block that holds no cells. -/
theorem row_notC {B b n s : Nat} {e : TypeId} {w : World} {v : Value} {xs : List Value} {o : Obj} (h : w.ownsRow B e s v n xs) (hb : w.heap[b]? = some o) (ho : o.isCells = false) : v.ownBlock ≠ some b := by
 intro hq
 rcases h.2 with ⟨rfl, _⟩ | ⟨g, cap, cur, rfl, _, hg, _⟩
 ·simp [Value.ownBlock] at hq
 ·simp [Value.ownBlock] at hq
  subst hq
  rw [hg] at hb
  cases hb
  cases ho
theorem row_type {B b n s : Nat} {e t : TypeId} {w : World} {v : Value} {xs : List Value} {c : Array Value} (h : w.ownsRow B e s v n xs) (hb : w.heap[b]? = some (.cells c t)) (hne : t ≠ e) : v.ownBlock ≠ some b := by
 intro hq
 rcases h.2 with ⟨rfl, _⟩ | ⟨g, cap, cur, rfl, _, hg, _⟩
 ·simp [Value.ownBlock] at hq
 ·simp [Value.ownBlock] at hq
  subst hq
  rw [hg] at hb
  cases hb
  exact hne rfl
end Go.Proofs.YtfgcmjpkgdjcfaaGreat

namespace Go.Proofs.YtfgcmjpkgdjcfaaGreat
open Go.RowKit Go.Shelf
set_option linter.unusedVariables false

/-- A label, with its place and the slice that has it. -/
abbrev LabV (w : World) := { p : (Nat × Value) × List Int // Has w p.1.2 p.2 ∧ p.2.length ≤ 15 }
def encL {w : World} (x : LabV w) : Array Value := #[.int .i64 x.1.1.1, x.1.1.2]
/-- What a round keeps: what lay below n0, and the iterator's own box. -/
def KpB (n0 Bt : Nat) (W W' : World) : Prop := Below n0 W W' ∧ ∀ c t, W.heap[Bt]? = some (Obj.cells c t) → W'.heap[Bt]? = some (Obj.cells c t)
theorem kpB_t {n0 Bt : Nat} {A B C : World} (h : KpB n0 Bt A B) (k : KpB n0 Bt B C) : KpB n0 Bt A C := ⟨h.1.trans k.1, fun c t q => k.2 c t (h.2 c t q)⟩
theorem kpB_b {n0 Bt : Nat} {w : World} (hn : n0 ≤ w.heap.size) (W : World) (l : Nat) (o o' : Obj) (hl : w.heap.size ≤ l) (h : W.heap[l]? = some o) (h1 : o.isCells = false) (h2 : o.isWalk = false) : KpB n0 Bt W (W.putObj l o') :=
 ⟨belowK_b hn W l o o' hl h h1 h2, fun c t q => keptC_of (grownBy_putObj' W l o') (fun r e => by cases e; exact ⟨_, h, h1⟩) _ _ _ q⟩

set_option maxHeartbeats 4000000 in
set_option maxRecDepth 100000 in
theorem back1_in (n : Nat) (hn : 1 ≤ n) (l Bt n0 : Nat) (w0 : World) (a : Option Addr) (cap : Nat) (ns : List (List Int)) (hn0 : n0 = w0.heap.size) (hT : HasL w0 (.slice a ns.length cap) ns) (hl : ns.length ≤ 1048576) (hs : ∀ k, k < ns.length → (ns.getD k []).length ≤ 15)
  (J Jx : List (LabV w0) → World → Prop) (W : World) (hW : Below n0 w0 W) (hJ : AbidesFrom W.heap.size J)
  (hY : ∀ pre x W1, J pre W1 → pre.length < ns.length → YieldAt Fence.wide (n - 1) Tryz.prog l (encL x) W1 fun e W' => (e = .returned (.bool true) ∧ J (pre ++ [x]) W' ∧ KpB n0 Bt W1 W') ∨ (e = .returned (.bool false) ∧ Jx (pre ++ [x]) W'))
  (hBt : W.heap[Bt]? = some (.cells #[.slice a ns.length cap] 22)) (h0 : J [] W) :
  CallsIn Fence.wide n Tryz.prog 128 #[.func (.yield l) #[] #[], .pointer (some ⟨Bt, 0, none⟩)] W fun e W' => (∃ v, e = .returned v) ∧
   ((∃ xs, xs.map (·.1.2) = ns.reverse ∧ J xs W') ∨ (∃ pre, True ∧ Jx pre W')) := by
 subst hn0
 have HT := hide hT
 have HS := hide hs
 have HJ := hide hJ
 have HY := hide hY
 have B0 := hide hW
 have H0 := hide h0
 have KB := hide hBt
 have cB := block_one hBt
 clear hT hs hJ hY hW h0 hBt
 generalize hm : ns.length = m at *
 have HM := hide hm
 clear hm
 refine callsIn_of_wp Tryz.func128 rfl trivial ?_ rfl
 simp only [Tryz.ntmps128, List.size_toArray, List.length_cons, List.length_nil, Nat.reduceAdd, Nat.reduceSub, Array.replicate_succ, Array.replicate_zero, List.push_toArray, List.append_toArray, List.nil_append, List.cons_append]
 gi_wp2
 clear cB
 gi_loopw [3] (fun i wr => ∃ (k : Nat) (pre : List (LabV w0)), k ≤ m ∧ i = .int .i64 ((k : Int) - 1) ∧ pre.length + k = m ∧ pre.map (·.1.2) = (ns.drop k).reverse ∧ J pre wr ∧ Below w0.heap.size w0 wr ∧ wr.heap[Bt]? = some (.cells #[.slice a m cap] 22)) (fun i _ => (intOf i + 1).toNat)
 case atStart => exact ⟨m, [], Nat.le_refl _, by go_num, by simp, by rw [← unhide HM]; simp, unhide H0, unhide B0, unhide KB⟩
 case round =>
  obtain ⟨k, pre, hk, rfl, hpl, hp, hj, hbl, hkb⟩ := hrel
  have cB := block_one hkb
  cases k with
  | zero =>
   simp only [List.drop_zero] at hp
   gi_wp2
   go_end0
   exact ⟨⟨_, rfl⟩, .inl ⟨pre, hp, hj⟩⟩
  | succ k =>
   obtain ⟨b, off, u, rfl, hb1, hc, hH⟩ := (unhide HT).here (k := k) (by rw [unhide HM]; omega)
   have hsk := unhide HS k (by omega)
   have hdk := hide (show (ns.drop k).reverse = (ns.drop (k + 1)).reverse ++ [ns.getD k []] by rw [List.drop_eq_getElem_cons (i := k) (by rw [unhide HM]; omega)]; simp [show k < ns.length by rw [unhide HM]; omega])
   have c0 : wr.cell? ⟨b, off + k, none⟩ = some u := (hbl.cell (p := ⟨b, off + k, none⟩) hb1).trans hc
   generalize ns.getD k [] = t at *
   obtain ⟨x, hx1, hx2⟩ : ∃ x : LabV w0, encL x = #[.int .i64 (k : Int), u] ∧ x.1.2 = t := ⟨⟨((k, u), t), hH, hsk⟩, rfl, rfl⟩
   obtain ⟨fn, tmps, assign, body, hy, hRd⟩ := unhide HY pre x wr hj (by omega)
   rw [hx1] at hy
   have hkk : (((k + 1 : Nat) : Int) - 1) = (k : Int) := by omega
   rw [hkk]
   have HB := hide hbl
   clear hc hH hsk hbl
   gi_wp2
   refine hRd.mono ?_
   rintro e W3 (⟨rfl, hJ3, hk3⟩ | ⟨rfl, hJx3⟩)
   ·have hb3 := (unhide HB).trans hk3.1
    have hkb3 := hk3.2 _ _ hkb
    clear hy hRd hk3 HB c0 cB hkb
    gi_wp2
    go_roundw
    case rel => exact ⟨k, pre ++ [x], by omega, by go_num, by simp; omega, by rw [unhide hdk, ← hp]; simp [hx2], hJ3, hb3, hkb3⟩
    case measure => simp [intOf]
   ·clear hy hRd HB c0 cB hkb
    gi_wp2
    refine bodyPost_ret (results_none rfl _ _ _) rfl ?_
    exact ⟨⟨_, rfl⟩, .inr ⟨pre ++ [x], trivial, hJx3⟩⟩
theorem back_stops (Bt : Nat) (w0 w : World) (a : Option Addr) (cap : Nat) (ns : List (List Int)) (hT : HasL w0 (.slice a ns.length cap) ns) (hl : ns.length ≤ 1048576) (hs : ∀ k, k < ns.length → (ns.getD k []).length ≤ 15) (hb : Below w0.heap.size w0 w) (hBt : w.heap[Bt]? = some (.cells #[.slice a ns.length cap] 22)) :
  SeqStopsK Fence.wide 4 Tryz.prog 128 #[.pointer (some ⟨Bt, 0, none⟩)] (fun x : LabV w0 => encL x) (KpB w0.heap.size Bt) (fun xs => xs.map (·.1.2) = ns.reverse) (fun _ => True) ns.length w :=
 fun l J Jx W hW hJ hJx hY h0 => back1_in 4 (by omega) l Bt _ w0 a cap ns rfl hT hl hs J Jx W (hb.trans (hW.mono hb.size)) hJ hY (block_kept hW hBt) h0
set_option maxHeartbeats 400000 in
set_option maxRecDepth 100000 in
theorem back_any (a : Option Addr) (len cap : Nat) (w : World) : Calls Tryz.prog 105 #[.slice a len cap] w fun e w' => e = .returned (.func (.func 128) #[] #[.pointer (some ⟨w.heap.size, 0, none⟩)]) ∧ w' = w.alloc (.cells #[.slice a len cap] 22) := by
 go_enter Tryz.func105, Tryz.ntmps105
 go_wp2
 go_ret
 exact ⟨rfl, rfl⟩
end Go.Proofs.YtfgcmjpkgdjcfaaGreat

namespace Go.Proofs.YtfgcmjpkgdjcfaaGreat
open Go.RowKit
set_option linter.unusedVariables false

theorem append_bytesIn {F : Fence} {n : Nat} {P : Program} {w : World} {ops : Array Oper} {rest : List Oper} {o : Oper} {a : Act} {Q : Exit → Act → World → Prop} (hgd : o.guard = none) (s x : Operand) (t e : TypeId)
  (ho : o.op = .call { callee := .builtin .append, args := #[s, x], argTypes := #[t, t] }) (ht : P.underlying t = some (.slice e))
  (hinfo : (P.info? e).map (fun i => (i.zero, i.size, i.bytes)) = some (some (.int .u8 0), 1, 1))
  (base : Nat) (v vx : Value) (l m : List Int) (hs : a.eval s = v) (hx : a.eval x = vx) (hown : Own base e w v l) (hr : Reads w vx m) (hlen : l.length + m.length ≤ 1099511627776) (hbase : base ≤ w.heap.size)
  (h : ∀ v' w', Own base e w' v' (l ++ m) → w.grownBy w' v.ownBlock → wpListIn F n P ops Q rest (a.put o.dst v') w') : wpListIn F n P ops Q (o :: rest) a w := by
 obtain ⟨i0, hi, hz0, hz1, hz2⟩ := info_parts hinfo
 rcases hr with ⟨rfl, rfl⟩ | ⟨ad, cap, rfl, hc⟩
 ·refine wpListIn_plain hgd fun K hK' => ?_
  have hrun := run_append_owned_none (P := P) w base t o.type e i0 1 ht hi v l.length (l.map (Value.int .u8)) hown
  unfold Oper.wpIn
  refine ⟨?_, ?_⟩
  ·simp [Oper.about, ho, resolve, Target.leads, Sem.run_pure]
  ·rw [Oper.semAt_plain F _ _ (by rw [ho]; intro c hc'; cases hc')]
   simp [execOp, ho, resolve, invoke, builtin, hs, hx, hrun, Result.andThen]
   exact hK' _ _ (h v w (by simpa using hown) ⟨rfl, rfl, rfl, Nat.le_refl _, fun _ _ _ => rfl⟩)
 ·refine wpListIn_append_own w hgd s x t ho base e i0 (.int .u8 0) 1 1 ht hi hz0 hz1 hz2 rfl (by decide) v l.length (l.map (Value.int .u8)) hs hown ad m.length cap (m.map (Value.int .u8)) hx (by simp) (news_of hc) (one_of m) (by unfold maxLen; omega) (by omega) hbase ?_
  intro v' w' ho' hg _
  exact h v' w' (by simpa [Own] using ho') hg
/-- A name, as it is told in a key: from the last label on, a 0 behind each. -/
def keyN (n : List (List Int)) : List Int := n.reverse.flatMap (· ++ [0])
/-- As many labels as have been told. -/
def keyP (ls : List (List Int)) : List Int := ls.flatMap (· ++ [0])
theorem keyP_snoc (ls : List (List Int)) (l : List Int) : keyP (ls ++ [l]) = keyP ls ++ l ++ [0] := by simp [keyP]
theorem keyP_len {ls : List (List Int)} (h : ∀ l ∈ ls, l.length ≤ 15) : (keyP ls).length ≤ 16 * ls.length := by
 induction ls with
 | nil => simp [keyP]
 | cons a t ih =>
  have h1 := ih (fun l hl => h l (List.mem_cons_of_mem _ hl))
  have h2 := h a (List.mem_cons_self ..)
  simp only [keyP, List.flatMap_cons, List.length_append, List.length_cons, List.length_nil] at h1 ⊢
  omega
end Go.Proofs.YtfgcmjpkgdjcfaaGreat

namespace Go.Proofs.YtfgcmjpkgdjcfaaGreat
open Go.RowKit

theorem conv_own {B : Nat} {v : Value} {l : List Int} {w : World} (h : Own B 5 w v l) : (convert 56 9 v).run Tryz.prog w = .ok (.string (strOfNums l)) w := by
 rcases h.form with ⟨rfl, rfl⟩ | ⟨g, cap, rfl, _, _, _, _, hc, _⟩
 ·exact run_convert_bytes_nil w 56 5 Tryz.underlying56 Tryz.underlying5 0 0 9 Tryz.underlying9
 ·exact run_convert_bytes_arg w 56 5 Tryz.underlying56 Tryz.underlying5 g 0 l.length cap l rfl (fun i hi => by rw [Nat.zero_add]; exact hc i hi) 9 Tryz.underlying9

theorem conv_has {v : Value} {l : List Int} {w : World} (h : Has w v l) : (convert 56 9 v).run Tryz.prog w = .ok (.string (strOfNums l)) w := by
 rcases h with ⟨rfl, rfl⟩ | ⟨g, off, cap, rfl, _, _, _, hc⟩
 ·exact run_convert_bytes_nil w 56 5 Tryz.underlying56 Tryz.underlying5 0 0 9 Tryz.underlying9
 ·exact run_convert_bytes_arg w 56 5 Tryz.underlying56 Tryz.underlying5 g off l.length cap l rfl hc 9 Tryz.underlying9
end Go.Proofs.YtfgcmjpkgdjcfaaGreat
