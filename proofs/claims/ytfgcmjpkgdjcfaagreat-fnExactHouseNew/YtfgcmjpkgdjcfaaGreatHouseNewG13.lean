/-
  Plain facts: what holds cells holds them still. No program is named here. Plain facts: what holds cells holds them still: names, records and rows of them that are owned. No program is named here. slices.Values of the library at rows of records, as what a loop ranges over.
-/
import Derived.Test.YtfgcmjpkgdjcfaaGreatHouseNewG02
import Derived.RangeFuncNested
import Derived.Test.YtfgcmjpkgdjcfaaGreatHouseNewG12
import Derived.Test.YtfgcmjpkgdjcfaaGreatHouseNewG11
import Derived.RangeFuncBound
import Derived.RangeFuncCalls
import Derived.RangeFuncLeaves
import Derived.Shelf.Abstract
import Derived.Shelf.RegionOpen
import Derived.WalkKit
import Derived.OwnWalkIn
import Derived.TacticsInMore
import Derived.LoopNIn
import Derived.LoopIn
namespace Go.Proofs.YtfgcmjpkgdjcfaaGreat
open Go.RowKit
set_option linter.unusedVariables false

/-- What holds cells holds them. -/
def KeptC (W W' : World) : Prop := ∀ (g : Nat) (c : Array Value) (t : TypeId), W.heap[g]? = some (.cells c t) → W'.heap[g]? = some (.cells c t)
theorem keptC_of {W W' : World} {row : Option Nat} (hg : W.grownBy W' row) (hr : ∀ r, row = some r → ∃ o : Obj, W.heap[r]? = some o ∧ o.isCells = false) : KeptC W W' := by
 intro g c t h
 have hlt : g < W.heap.size := (Array.getElem?_eq_some_iff.1 h).1
 refine (hg.block g hlt ?_).trans h
 intro e
 obtain ⟨o, h1, h2⟩ := hr g e.symm
 rw [h] at h1
 cases h1
 cases h2
theorem row_keptC {W W' : World} {B n s : Nat} {e : TypeId} {v : Value} {xs : List Value} (h : W.ownsRow B e s v n xs) (hk : KeptC W W') : W'.ownsRow B e s v n xs := by
 obtain ⟨h1, h2⟩ := h
 rcases h2 with h2 | ⟨g, cap, c, h3, h4, h5, h6⟩
 ·exact ⟨h1, .inl h2⟩
 ·exact ⟨h1, .inr ⟨g, cap, c, h3, h4, hk _ _ _ h5, h6⟩⟩
end Go.Proofs.YtfgcmjpkgdjcfaaGreat

namespace Go.Proofs.YtfgcmjpkgdjcfaaGreat
open Go.RowKit
set_option linter.unusedVariables false

theorem OwnN.keptC {C E : Nat} {el eb : TypeId} {W W' : World} {v : Value} {n : List (List Int)} (h : OwnN C E el eb W v n) (hk : KeptC W W') : OwnN C E el eb W' v n := by
 obtain ⟨vs, ho, hu, hd, hv, he⟩ := h
 refine ⟨vs, row_keptC ho hk, fun i hi => ?_, hd, hv, he⟩
 obtain ⟨x, h1, h2⟩ := hu i hi
 exact ⟨x, h1, row_keptC h2 hk⟩
theorem OwnB.keptC {C E : Nat} {e : TypeId} {W W' : World} {v : Value} {l : List Int} (h : OwnB C E e W v l) (hk : KeptC W W') : OwnB C E e W' v l := ⟨row_keptC h.1 hk, h.2⟩
theorem OwnBI.keptC {C E : Nat} {e : TypeId} {W W' : World} {v : Value} {l : List Int} (h : OwnBI C E e W v l) (hk : KeptC W W') : OwnBI C E e W' v l := ⟨row_keptC h.1 hk, h.2⟩
theorem OwnR.keptC {B E : Nat} {el eb ei : TypeId} {W W' : World} {vn vt vx vi : Value} {r : Rec} (h : OwnR B E el eb ei W vn vt vx vi r) (hk : KeptC W W') : OwnR B E el eb ei W' vn vt vx vi r := by
 obtain ⟨s1, s2, s3, a1, a2, a3, a4, h1, h2, h3, h4⟩ := h
 exact ⟨s1, s2, s3, a1, a2, a3, a4, h1.keptC hk, h2.keptC hk, h3.keptC hk, h4.keptC hk⟩
theorem RowO.keptC {B E : Nat} {er el eb ei : TypeId} {W W' : World} {v : Value} {rs : List Rec} (h : RowO B E er el eb ei W v rs) (hk : KeptC W W') : RowO B E er el eb ei W' v rs := by
 obtain ⟨xs, f, g, ho, hq, hx⟩ := h
 refine ⟨xs, f, g, row_keptC ho hk, hq, fun i hi => ?_⟩
 obtain ⟨h1, h2, h3, h4, vn, vt, vx, vi, q1, q2⟩ := hx i hi
 exact ⟨h1, h2, h3, h4, vn, vt, vx, vi, q1, q2.keptC hk⟩
/-- A row isn't a block that holds no cells. -/
theorem row_notC {B b n s : Nat} {e : TypeId} {w : World} {v : Value} {xs : List Value} {o : Obj} (h : w.ownsRow B e s v n xs) (hb : w.heap[b]? = some o) (ho : o.isCells = false) : v.ownBlock ≠ some b := by
 intro hq
 rcases h.2 with ⟨rfl, _⟩ | ⟨g, cap, cur, rfl, _, hg, _⟩
 ·simp [Value.ownBlock] at hq
 ·simp [Value.ownBlock] at hq
  subst hq
  rw [hg] at hb
  cases hb
  cases ho
theorem row_type {B b n s : Nat} {e t : TypeId} {w : World} {v : Value} {xs : List Value} {c : Array Value} (h : w.ownsRow B e s v n xs) (hb : w.heap[b]? = some (.cells c t)) (hne : t ≠ e) : v.ownBlock ≠ some b := by
 intro hq
 rcases h.2 with ⟨rfl, _⟩ | ⟨g, cap, cur, rfl, _, hg, _⟩
 ·simp [Value.ownBlock] at hq
 ·simp [Value.ownBlock] at hq
  subst hq
  rw [hg] at hb
  cases hb
  exact hne rfl
end Go.Proofs.YtfgcmjpkgdjcfaaGreat

namespace Go.Proofs.YtfgcmjpkgdjcfaaGreat
open Go.RowKit Go.Shelf
set_option linter.unusedVariables false

/-- A record, with the slices that have its lists. -/
abbrev RecV (w : World) := { p : (Value × Value × Value × Value) × Rec // HasR w p.1.1 p.1.2.1 p.1.2.2.1 p.1.2.2.2 p.2 ∧ ShortR p.2 }
def encV {w : World} (x : RecV w) : Array Value := #[.agg #[x.1.1.1, .int .i64 x.1.2.type, .int .i64 x.1.2.ttl, .int .i64 x.1.2.addr, x.1.1.2.1, x.1.1.2.2.1, x.1.1.2.2.2]]

set_option maxHeartbeats 4000000 in
set_option maxRecDepth 100000 in
theorem values1_in (n : Nat) (hn : 1 ≤ n) (l Bt n0 : Nat) (w0 : World) (a : Option Addr) (cap : Nat) (rs : List Rec) (hn0 : n0 = w0.heap.size) (hT : HasRs w0 (.slice a rs.length cap) rs) (hsh : ∀ i, i < rs.length → ShortR (rs.getD i recZ)) (hl : rs.length ≤ 1048576)
  (J Jx : List (RecV w0) → World → Prop) (W : World) (hW : Below n0 w0 W) (hJ : AbidesFrom W.heap.size J)
  (hY : ∀ pre x W1, J pre W1 → pre.length < rs.length → YieldAt Fence.wide (n - 1) Tryz.prog l (encV x) W1 fun e W' => (e = .returned (.bool true) ∧ J (pre ++ [x]) W' ∧ Below n0 W1 W') ∨ (e = .returned (.bool false) ∧ Jx (pre ++ [x]) W'))
  (hBt : W.cell? ⟨Bt, 0, none⟩ = some (.slice a rs.length cap)) (h0 : J [] W) :
  CallsIn Fence.wide n Tryz.prog 131 #[.func (.yield l) #[] #[], .pointer (some ⟨Bt, 0, none⟩)] W fun e W' => (∃ v, e = .returned v) ∧
   ((∃ xs, xs.map (·.1.2) = rs ∧ J xs W') ∨ (∃ pre, True ∧ Jx pre W')) := by
 subst hn0
 have HT := hide hT
 have HS := hide hsh
 have HJ := hide hJ
 have HY := hide hY
 have B0 := hide hW
 have H0 := hide h0
 clear hT hsh hJ hY hW h0
 generalize hm : rs.length = m at *
 have HM := hide hm
 clear hm
 refine callsIn_of_wp Tryz.func131 rfl trivial ?_ rfl
 simp only [Tryz.ntmps131, List.size_toArray, List.length_cons, List.length_nil, Nat.reduceAdd, Nat.reduceSub, Array.replicate_succ, Array.replicate_zero, List.push_toArray, List.append_toArray, List.nil_append, List.cons_append]
 gi_wp2
 gi_loopw [7] (fun i wr => ∃ (k : Nat) (pre : List (RecV w0)), k ≤ m ∧ i = .int .i64 k ∧ pre.length = k ∧ pre.map (·.1.2) = rs.take k ∧ J pre wr ∧ Below w0.heap.size w0 wr) (fun i _ => m - (intOf i).toNat)
 case atStart => exact ⟨0, [], Nat.zero_le _, rfl, rfl, by simp, unhide H0, unhide B0⟩
 case round =>
  obtain ⟨k, pre, hk, rfl, hpl, hp, hj, hbl⟩ := hrel
  by_cases hlt : k < m
  ·obtain ⟨b, off, na, nc, ta, tc, xa, xc, ia, ic, rfl, hb1, hc, hR⟩ := (unhide HT).here (k := k) (by rw [unhide HM]; exact hlt)
   have hsk := unhide HS k hlt
   have htk := hide (show rs.take (k + 1) = rs.take k ++ [rs.getD k recZ] by rw [List.take_succ_eq_append_getElem (by rw [unhide HM]; exact hlt)]; simp [show k < rs.length by rw [unhide HM]; exact hlt])
   obtain ⟨c0, c1, c2, c3, c4, c5, c6⟩ := range7 (range_below hc hb1 hbl)
   generalize rs.getD k recZ = r at *
   obtain ⟨x, hx1, hx2⟩ : ∃ x : RecV w0, encV x = #[.agg #[.slice na r.name.length nc, .int .i64 r.type, .int .i64 r.ttl, .int .i64 r.addr, .slice ta r.to.length tc, .slice xa r.text.length xc, .slice ia r.nums.length ic]] ∧ x.1.2 = r := ⟨⟨((.slice na r.name.length nc, .slice ta r.to.length tc, .slice xa r.text.length xc, .slice ia r.nums.length ic), r), hR, hsk⟩, rfl, rfl⟩
   have ba := below_alloc (w := wr) (.cells #[.slice na r.name.length nc, .int .i64 r.type, .int .i64 r.ttl, .int .i64 r.addr, .slice ta r.to.length tc, .slice xa r.text.length xc, .slice ia r.nums.length ic] 59)
   obtain ⟨d0, d1, d2, d3, d4, d5, d6⟩ := cells7 (heap_alloc_new wr (.cells #[.slice na r.name.length nc, .int .i64 r.type, .int .i64 r.ttl, .int .i64 r.addr, .slice ta r.to.length tc, .slice xa r.text.length xc, .slice ia r.nums.length ic] 59))
   obtain ⟨fn, tmps, assign, body, hy, hRd⟩ := unhide HY pre x (wr.alloc (.cells #[.slice na r.name.length nc, .int .i64 r.type, .int .i64 r.ttl, .int .i64 r.addr, .slice ta r.to.length tc, .slice xa r.text.length xc, .slice ia r.nums.length ic] 59)) (unhide HJ pre wr _ none hj (World.grownBy_alloc wr _ none) (fun r e => by cases e)) (by omega)
   rw [hx1] at hy
   have hb2 : Below w0.heap.size w0 (wr.alloc (.cells #[.slice na r.name.length nc, .int .i64 r.type, .int .i64 r.ttl, .int .i64 r.addr, .slice ta r.to.length tc, .slice xa r.text.length xc, .slice ia r.nums.length ic] 59)) := below_next hbl ba
   have HB := hide hb2
   clear hb2 ba hc hR hsk hbl hj
   gi_wp2
   refine hRd.mono ?_
   rintro e W3 (⟨rfl, hJ3, hk3⟩ | ⟨rfl, hJx3⟩)
   ·have hb3 := (unhide HB).trans hk3
    clear hy hRd hk3 HB d0 d1 d2 d3 d4 d5 d6 c0 c1 c2 c3 c4 c5 c6
    gi_wp2
    go_roundw
    case rel => exact ⟨k + 1, pre ++ [x], by omega, by go_num, by simp [hpl], by rw [unhide htk, ← hp]; simp [hx2], hJ3, hb3⟩
    case measure => simp [intOf]; omega
   ·clear hy hRd HB d0 d1 d2 d3 d4 d5 d6 c0 c1 c2 c3 c4 c5 c6
    gi_wp2
    refine bodyPost_ret (results_none rfl _ _ _) rfl ?_
    exact ⟨⟨_, rfl⟩, .inr ⟨pre ++ [x], trivial, hJx3⟩⟩
  ·obtain rfl : k = m := by omega
   have hall : rs.take k = rs := List.take_of_length_le (by rw [unhide HM]; exact Nat.le_refl _)
   rw [hall] at hp
   clear hall
   gi_wp2
   go_end0
   exact ⟨⟨_, rfl⟩, .inl ⟨pre, hp, hj⟩⟩
end Go.Proofs.YtfgcmjpkgdjcfaaGreat
