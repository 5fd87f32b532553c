/-
  What is known of a cache that came in as an argument. Plain facts: marks in rows of questions. No program is named here. Plain facts: how slots that are answers are marked. No program is named here. Contracts of the helpers of the laws for slices of numbers (toIntS, eqIntS, markIntS, heldIntS). Contracts of the byte helpers of the laws (toByteS, eqByteS): what each answers and what it leaves in memory, for every slice of at most 1048576 bytes.
-/
import Derived.Test.YtpolekinfobecaaGreatCacheTickG04
import Derived.Test.YtpolekinfobecaaGreatCacheTickG08
import Derived.Test.YtpolekinfobecaaGreatCacheTickG07
import Derived.Test.YtpolekinfobecaaGreatCacheTickG03
namespace Go.Proofs.YtpolekinfobecaaGreat
open Go.RowKit Go.ChangeShapes Go.WideShapes Go.ChangeAt

set_option maxRecDepth 100000 in
theorem open_slotCells {H : Type} {enc : TypeId × Value → H} {w : World} {sp : Nat → Bool} {held : Bool} {fuel : Nat} {e0 e1 e2 e3 e4 e5 e6 : Value} {x : DataW H × List MemPlace} (hsp : ∀ b, sp b = true) (hf0 : DataW.trod enc Tryz.prog w 0 sp held fuel 75 [e0, e1, e2, e3, e4, e5, e6] = some x) :
  ∃ (na : Option Addr) (nc : Nat) (ra : Option Addr) (rc : Nat) (x : Slt), [e0, e1, e2, e3, e4, e5, e6] = [.slice na x.name.length nc, .int .i64 x.type, .int .i64 x.kind, .slice ra x.rrs.length rc, .int .i64 x.rank, .int .i64 x.till, .int .i64 x.used] ∧ InS2 w na ra x ∧ SizeSl maxLen x := by
 obtain ⟨xs, n, _, _, _, hlen, hf⟩ := DataW.trod_struct Tryz.underlying75 hf0
 match xs, hlen with
 | [y0, y1, y2, y3, y4, y5, y6], _ =>
  have h0 : DataW.trod enc Tryz.prog w 0 sp held n 72 (([e0, e1, e2, e3, e4, e5, e6].drop 0).take (Tryz.prog.cellsOf 72)) = some y0 := hf 0 _ rfl
  have h1 : DataW.trod enc Tryz.prog w 0 sp held n 3 (([e0, e1, e2, e3, e4, e5, e6].drop 1).take (Tryz.prog.cellsOf 3)) = some y1 := hf 1 _ rfl
  have h2 : DataW.trod enc Tryz.prog w 0 sp held n 3 (([e0, e1, e2, e3, e4, e5, e6].drop 2).take (Tryz.prog.cellsOf 3)) = some y2 := hf 2 _ rfl
  have h3 : DataW.trod enc Tryz.prog w 0 sp held n 73 (([e0, e1, e2, e3, e4, e5, e6].drop 3).take (Tryz.prog.cellsOf 73)) = some y3 := hf 3 _ rfl
  have h4 : DataW.trod enc Tryz.prog w 0 sp held n 3 (([e0, e1, e2, e3, e4, e5, e6].drop 4).take (Tryz.prog.cellsOf 3)) = some y4 := hf 4 _ rfl
  have h5 : DataW.trod enc Tryz.prog w 0 sp held n 3 (([e0, e1, e2, e3, e4, e5, e6].drop 5).take (Tryz.prog.cellsOf 3)) = some y5 := hf 5 _ rfl
  have h6 : DataW.trod enc Tryz.prog w 0 sp held n 3 (([e0, e1, e2, e3, e4, e5, e6].drop 6).take (Tryz.prog.cellsOf 3)) = some y6 := hf 6 _ rfl
  rw [cellsName] at h0
  rw [cellsInt] at h1
  rw [cellsInt] at h2
  rw [cellsRecs] at h3
  rw [cellsInt] at h4
  rw [cellsInt] at h5
  rw [cellsInt] at h6
  simp only [List.drop_zero, List.drop_succ_cons, List.take_succ_cons, List.take_zero] at h0 h1 h2 h3 h4 h5 h6
  obtain ⟨na, nc, nm, g0, n1, n2, n3⟩ := open_nameCell hsp h0
  obtain ⟨ra, rc, rs, g3, r1, r2, r3⟩ := open_recs hsp h3
  obtain ⟨t1, f1, _, _⟩ := DataW.trod_int Tryz.underlying3 h1
  obtain ⟨t2, f2, _, _⟩ := DataW.trod_int Tryz.underlying3 h2
  obtain ⟨t4, f4, _, _⟩ := DataW.trod_int Tryz.underlying3 h4
  obtain ⟨t5, f5, _, _⟩ := DataW.trod_int Tryz.underlying3 h5
  obtain ⟨t6, f6, _, _⟩ := DataW.trod_int Tryz.underlying3 h6
  simp only [List.cons.injEq, and_true] at f1 f2 f4 f5 f6
  subst f1 f2 f4 f5 f6 g0 g3
  exact ⟨na, nc, ra, rc, ⟨nm, t1, t2, rs, t4, t5, t6⟩, rfl, ⟨n2, r2⟩, ⟨n1, n3, r1, r3⟩⟩
/-- A slot in the middle of a row. -/
def SltIn (w : World) (a : Addr) (x : Slt) : Prop := SizeSl maxLen x ∧ ∃ vs, (∀ j v, vs[j]? = some v → w.cell? (a.add j) = some v) ∧ InSl w vs x
theorem cellsSlot : Tryz.prog.cellsOf 75 = 7 := by kernel_rfl
theorem cellsSlots : Tryz.prog.cellsOf 22 = 1 := by kernel_rfl
theorem cellsCache : Tryz.prog.cellsOf 24 = 3 := by kernel_rfl
theorem open_slots {H : Type} {enc : TypeId × Value → H} {w : World} {sp : Nat → Bool} {held : Bool} {fuel : Nat} {v : Value} {x : DataW H × List MemPlace} (hsp : ∀ b, sp b = true)
  (h : DataW.trod enc Tryz.prog w 0 sp held fuel 22 [v] = some x) :
  ∃ (a : Option Addr) (cap : Nat) (xs : List Slt), v = .slice a xs.length cap ∧ xs.length ≤ maxLen ∧ LiesSs w a xs ∧ ∀ i, i < xs.length → SizeSl maxLen (xs.getD i sltZ) := by
 rcases DataW.trod_slice Tryz.underlying22 h with ⟨hv, _⟩ | ⟨a, len, cap, elems, rest, n, _, hcs, hx, _, hl, hm, hlen, hel, _⟩
 ·simp at hv
  exact ⟨none, 0, [], hv, Nat.zero_le _, .inl rfl, by simp⟩
 ·simp at hcs
  subst hcs
  have each : ∀ i, i < len → ∃ r : Slt, SltIn w (a.add (i * 7)) r := by
   intro i hi
   have hE := hel i hi
   rw [cellsSlot] at hE
   have hi' : i < elems.length := by omega
   rw [List.getElem?_eq_getElem hi'] at hE
   simp only [Option.bind_eq_some_iff] at hE
   obtain ⟨c1, hc1, hy1⟩ := hE
   obtain ⟨_, hn, hc⟩ := World.cells?_some hc1
   match c1, hn with
   | [e0, e1, e2, e3, e4, e5, e6], _ =>
    obtain ⟨na, nc, ra, rc, q, he, h1, h2⟩ := open_slotCells hsp hy1
    refine ⟨q, h2, [e0, e1, e2, e3, e4, e5, e6], fun j u hj => ?_, na, nc, ra, rc, he, h1⟩
    rw [← hj]
    exact hc j (by have := (List.getElem?_eq_some_iff.1 hj).1; simpa using this)
  have hch : ∃ L : Nat → Slt, ∀ i, i < len → SltIn w (a.add (i * 7)) (L i) := by
   refine ⟨fun i => if hi : i < len then (each i hi).choose else sltZ, fun i hi => ?_⟩
   simp only [hi, dite_true]
   exact (each i hi).choose_spec
  obtain ⟨L, hL⟩ := hch
  have hln : ((List.range len).map L).length = len := by simp
  have hget : ∀ i, i < len → ((List.range len).map L).getD i sltZ = L i := fun i hi => by simp [hi]
  refine ⟨some a, cap, (List.range len).map L, by rw [hln], by omega, ?_, ?_⟩
  ·by_cases h0 : len = 0
   ·subst h0; exact .inl (by simp)
   ·right
    obtain ⟨b, off, spot⟩ := a
    obtain ⟨_, vs, hc, na, nc, ra, rc, e1, _⟩ := hL 0 (by omega)
    have hc0 := hc 0 _ (by rw [e1]; rfl)
    have hspot : spot = none := by simpa [Addr.add] using World.cell?_spot hc0
    subst hspot
    refine ⟨b, off, rfl, ?_, fun i hi => ?_⟩
    ·have := cell_lt hc0
     simpa [Addr.add] using this
    rw [hln] at hi
    rw [hget i hi]
    obtain ⟨_, vs, hc, h2⟩ := hL i hi
    refine ⟨vs, fun j u hj => ?_, h2⟩
    have := hc j u hj
    rwa [Addr.add_mid, Addr.add_mid] at this
  ·intro i hi
   rw [hln] at hi
   rw [hget i hi]
   exact (hL i hi).1
set_option maxRecDepth 100000 in
theorem open_cache {H : Type} {enc : TypeId × Value → H} {w : World} {r : Reach} {b0 : Nat} {sp : Nat → Bool} {held : Bool} {v : Value} {d : DataW H} {ps : List MemPlace} (hsp : ∀ b, sp b = true)
  (hval : Value.okWide Tryz.prog w r b0 24 v) (h : DataW.Trod enc Tryz.prog w 0 sp held 24 v d ps) :
  ∃ (a : Option Addr) (k : Nat) (c : Ca), v = .agg #[.int .i64 c.now, .int .i64 c.turn, .slice a c.slots.length k] ∧ LiesSs w a c.slots ∧ SizeCa maxLen c := by
 obtain ⟨cs, rfl, hs⟩ := okWide_struct Tryz.underlying24 hval
 rw [cellsCache] at hs
 obtain ⟨e0, e1, e2, rfl⟩ : ∃ e0 e1 e2, cs = #[e0, e1, e2] := by
  cases cs with
  | mk l =>
   match l, hs with
   | [e0, e1, e2], _ => exact ⟨e0, e1, e2, rfl⟩
 obtain ⟨fuel, hf0⟩ := h
 have hcells : (Value.agg #[e0, e1, e2]).cells.toList = [e0, e1, e2] := by simp [Value.cells]
 rw [hcells] at hf0
 obtain ⟨xs, n, _, _, _, hlen, hf⟩ := DataW.trod_struct Tryz.underlying24 hf0
 match xs, hlen with
 | [y0, y1, y2], _ =>
  have h0 : DataW.trod enc Tryz.prog w 0 sp held n 3 (([e0, e1, e2].drop 0).take (Tryz.prog.cellsOf 3)) = some y0 := hf 0 _ rfl
  have h1 : DataW.trod enc Tryz.prog w 0 sp held n 3 (([e0, e1, e2].drop 1).take (Tryz.prog.cellsOf 3)) = some y1 := hf 1 _ rfl
  have h2 : DataW.trod enc Tryz.prog w 0 sp held n 22 (([e0, e1, e2].drop 2).take (Tryz.prog.cellsOf 22)) = some y2 := hf 2 _ rfl
  rw [cellsInt] at h0 h1
  rw [cellsSlots] at h2
  simp only [List.drop_zero, List.drop_succ_cons, List.take_succ_cons, List.take_zero] at h0 h1 h2
  obtain ⟨t0, f0, _, _⟩ := DataW.trod_int Tryz.underlying3 h0
  obtain ⟨t1, f1, _, _⟩ := DataW.trod_int Tryz.underlying3 h1
  obtain ⟨a, k, l, g2, l1, l2, l3⟩ := open_slots hsp h2
  simp only [List.cons.injEq, and_true] at f0 f1
  subst f0 f1 g2
  exact ⟨a, k, ⟨t0, t1, l⟩, rfl, l2, ⟨l1, l3⟩⟩
end Go.Proofs.YtpolekinfobecaaGreat

namespace Go.Proofs.YtpolekinfobecaaGreat
open Go.RowKit
set_option linter.unusedVariables false

theorem wrap_intM (x : Int) (h0 : 0 ≤ x) (h1 : x < 9223372036854775808) : IntKind.i64.wrap x = x := by
 have := wrap_small x.toNat (by omega)
 rwa [Int.toNat_of_nonneg h0] at this
theorem take_atX {cur : Array Value} {n j : Nat} (hj : j < n) : (cur.toList.take n)[j]? = cur[j]? := by
 rw [List.getElem?_take, if_pos hj, Array.getElem?_toList]
end Go.Proofs.YtpolekinfobecaaGreat

namespace Go.Proofs.YtpolekinfobecaaGreat
open Go.RowKit
set_option linter.unusedVariables false

/-- How many records the first k slots have. -/
def totR (l : List Slt) : Nat → Nat
 | 0 => 0
 | k + 1 => totR l k + (l.getD k sltZ).rrs.length
theorem totR_mono (l : List Slt) : ∀ d i, totR l i ≤ totR l (i + d)
 | 0, i => Nat.le_refl _
 | d + 1, i => Nat.le_trans (totR_mono l d i) (show totR l (i + d) ≤ totR l (i + d) + (l.getD (i + d) sltZ).rrs.length from by omega)
def posSl (x : Slt) (k : Int) : Int := posRs x.rrs (pos x.name k x.name.length + 2) x.rrs.length + 3
def markSlt (x : Slt) (k : Int) : Slt := ⟨markL x.name k, pos x.name k x.name.length, pos x.name k x.name.length + 1, markRs x.rrs (pos x.name k x.name.length + 2) x.rrs.length, posRs x.rrs (pos x.name k x.name.length + 2) x.rrs.length, posRs x.rrs (pos x.name k x.name.length + 2) x.rrs.length + 1, posRs x.rrs (pos x.name k x.name.length + 2) x.rrs.length + 2⟩
def posSs (l : List Slt) (k : Int) : Nat → Int
 | 0 => k
 | i + 1 => posSl (l.getD i sltZ) (posSs l k i)
def markSs (l : List Slt) (k : Int) (m : Nat) : List Slt := (List.range l.length).map (fun j => if j < m then markSlt (l.getD j sltZ) (posSs l k j) else l.getD j sltZ)
theorem markSs_length (l : List Slt) (k : Int) (m : Nat) : (markSs l k m).length = l.length := by simp [markSs]
theorem markSs_getD (l : List Slt) (k : Int) (m j : Nat) (h : j < l.length) : (markSs l k m).getD j sltZ = if j < m then markSlt (l.getD j sltZ) (posSs l k j) else l.getD j sltZ := by simp [markSs, h]
theorem markSs_zero (l : List Slt) (k : Int) : markSs l k 0 = l := by
 apply List.ext_getElem?
 intro j
 by_cases hj : j < l.length <;> simp [markSs, hj]
theorem markSs_succ (l : List Slt) (k : Int) (m : Nat) (hm : m < l.length) : (markSs l k m).set m (markSlt (l.getD m sltZ) (posSs l k m)) = markSs l k (m + 1) := by
 apply List.ext_getElem?
 intro j
 by_cases e : j = m
 ·subst e
  simp [markSs, hm]
 ·rw [List.getElem?_set_ne (Ne.symm e)]
  by_cases hj : j < l.length
  ·by_cases hjm : j < m
   ·simp [markSs, hj, hjm, show j < m + 1 by omega]
   ·simp [markSs, hj, hjm, show ¬ j < m + 1 by omega]
  ·simp [markSs, hj]
theorem posSl_bound {x : Slt} (hs : SizeSl 1048576 x) (k : Int) : k ≤ pos x.name k x.name.length ∧ pos x.name k x.name.length ≤ k + 1099511627776 ∧ pos x.name k x.name.length + 2 ≤ posRs x.rrs (pos x.name k x.name.length + 2) x.rrs.length ∧ posRs x.rrs (pos x.name k x.name.length + 2) x.rrs.length ≤ k + 1099511627778 + x.rrs.length * 2199025352707 := by
 have h1 := pos_bound' x.name k hs.name hs.names
 have h2 := posRs_bound hs.rrss (pos x.name k x.name.length + 2) x.rrs.length (Nat.le_refl _)
 omega
theorem posSs_bound {l : List Slt} (hs : ∀ i, i < l.length → SizeSl 1048576 (l.getD i sltZ)) (k : Int) : ∀ i, i ≤ l.length → k ≤ posSs l k i ∧ posSs l k i ≤ k + i * 1099511627781 + totR l i * 2199025352707
 | 0, _ => by simp [posSs, totR]
 | i + 1, hi => by
  have h1 := posSs_bound hs k i (by omega)
  have h2 := posSl_bound (hs i (by omega)) (posSs l k i)
  unfold posSs posSl totR
  push_cast
  omega
theorem two_sets {w : World} {q n : Nat} {cur : Array Value} {t : TypeId} (h : w.heap[q]? = some (.cells cur t)) (x y : Value) (hn : n + 2 < cur.size) :
  ∃ cur2, ((w.setCell ⟨q, n + 1, none⟩ x).setCell ⟨q, n + 2, none⟩ y).heap[q]? = some (.cells cur2 t) ∧ cur2.size = cur.size ∧ cur2[n + 1]? = some x ∧ cur2[n + 2]? = some y ∧ (∀ j, j ≠ n + 1 → j ≠ n + 2 → cur2[j]? = cur[j]?) ∧
   Outside q (q + 1) w ((w.setCell ⟨q, n + 1, none⟩ x).setCell ⟨q, n + 2, none⟩ y) := by
 refine ⟨_, block_setAt (block_setAt h (n + 1) x) (n + 2) y, by simp, ?_, ?_, fun j h1 h2 => ?_, (outside_set _ _ _ _).trans (outside_set _ _ _ _)⟩
 ·simp [show n + 1 < cur.size by omega]
 ·simp [hn]
 ·simp [Ne.symm h1, Ne.symm h2]
end Go.Proofs.YtpolekinfobecaaGreat

namespace Go.Proofs.YtpolekinfobecaaGreat
open Go.RowKit
set_option linter.unusedVariables false

theorem info_int : (Tryz.prog.info? 3).map (fun i => (i.zero, i.size, i.bytes)) = some (some (.int .i64 0), 1, 8) := by kernel_rfl

set_option maxHeartbeats 400000 in
set_option maxRecDepth 100000 in
theorem toIntS_row (a : Option Addr) (cap : Nat) (l : List Int) (w : World) (h : LiesI w a l) (hl : l.length ≤ 1048576) :
  Calls Tryz.prog 113 #[.slice a l.length cap] w fun e w' => e = .returned (.slice (some ⟨w.heap.size, 0, none⟩) l.length l.length) ∧
   w'.rowIs w.heap.size 3 l.length (fun i => .int .i64 (l.getD i 0)) ∧ Below w.heap.size w w' := by
 have hmk := run_make_row' (P := Tryz.prog) 54 3 (.int .i64 0) 8 Tryz.underlying54 info_int rfl .i64 .i64 l.length (by omega) (by omega)
 generalize hn : l.length = n at *
 have HN := hide hn
 clear hn
 go_enter Tryz.func113, Tryz.ntmps113
 go_wp2
 go_loopw [4] (fun i wr => ∃ k : Nat, k ≤ n ∧ i = .int .i64 k ∧ wr.rowIs w.heap.size 3 n (fun j => if j < k then .int .i64 (l.getD j 0) else .int .i64 0) ∧ Below w.heap.size w wr) (fun i _ => n - (intOf i).toNat)
 case atStart => exact ⟨0, Nat.zero_le _, rfl, by simpa using World.rowIs_made w _ n 3, (Below.refl _ _).alloc (Nat.le_refl _) _⟩
 case round =>
  obtain ⟨k, hk, rfl, hr, hb⟩ := hrel
  by_cases hlt : k < n
  ·obtain ⟨b, off, rfl, hbl, hc⟩ := h.cell hb (k := k) (by rw [unhide HN]; exact hlt)
   have hc2 := hr.cell hlt
   simp only [Nat.lt_irrefl, if_false] at hc2
   have hf2 := hr.frozen k
   have HR := hide hr
   clear hr
   go_wp2
   go_roundw
   case rel =>
    refine ⟨k + 1, by omega, by go_num, ?_, hb.setCell (Nat.le_refl _) _⟩
    refine ((unhide HR).set k _).congr fun j hj => ?_
    by_cases e : j = k
    ·subst e; simp
    ·have : j < k + 1 ↔ j < k := by omega
     simp [e, this]
   case measure => simp [intOf]; omega
  ·go_wp2
   go_ret
   obtain rfl : k = n := by omega
   refine ⟨rfl, hr.congr fun j hj => by simp [hj], hb⟩

theorem toIntS_any (a : Option Addr) (cap : Nat) (l : List Int) (w : World) (h : LiesI w a l) (hl : l.length ≤ 1048576) :
  Calls Tryz.prog 113 #[.slice a l.length cap] w fun e w' => ∃ v, e = .returned v ∧ OwnI w.heap.size 3 w' v l ∧ Below w.heap.size w w' :=
 (toIntS_row a cap l w h hl).mono fun e w' ⟨he, hr, hb⟩ => ⟨_, he, OwnI.ofRow hr (Nat.le_refl _) (by unfold maxLen; omega), hb⟩

set_option maxHeartbeats 400000 in
set_option maxRecDepth 100000 in
theorem eqIntS_eq (a a' : Option Addr) (cap cap' : Nat) (l : List Int) (w : World) (h : LiesI w a l) (h' : LiesI w a' l) (hl : l.length ≤ 2097152) :
  Calls Tryz.prog 122 #[.slice a l.length cap, .slice a' l.length cap'] w fun e w' => e = .returned (.bool true) ∧ ∃ n, w' = w.drewN n := by
 generalize hn : l.length = n at *
 have HN := hide hn
 clear hn
 go_enter Tryz.func122, Tryz.ntmps122
 go_wp2
 go_loopw [5] (fun i wr => ∃ k : Nat, k ≤ n ∧ i = .int .i64 k ∧ ∃ m, wr = w.drewN m) (fun i _ => n - (intOf i).toNat)
 case atStart => exact ⟨0, Nat.zero_le _, rfl, 0, rfl⟩
 case round =>
  obtain ⟨k, hk, rfl, m, rfl⟩ := hrel
  by_cases hlt : k < n
  ·obtain ⟨b, off, rfl, hbl, hc⟩ := h.here (k := k) (by rw [unhide HN]; exact hlt)
   obtain ⟨b', off', rfl, hbl', hc'⟩ := h'.here (k := k) (by rw [unhide HN]; exact hlt)
   go_wp2
   go_quiet (fail)
   go_wp2
   exact ⟨⟨k + 1, by omega, by go_num, _, rfl⟩, by simp [intOf]; omega⟩
  ·go_wp2
   go_ret
   exact ⟨rfl, m, rfl⟩

end Go.Proofs.YtpolekinfobecaaGreat

namespace Go.Proofs.YtpolekinfobecaaGreat
open Go.RowKit
set_option linter.unusedVariables false

set_option maxHeartbeats 400000 in
set_option maxRecDepth 100000 in
theorem toByteS_row (a : Option Addr) (cap : Nat) (l : List Int) (w : World) (h : Lies w a l) (hl : l.length ≤ 1048576) :
  Calls Tryz.prog 112 #[.slice a l.length cap] w fun e w' => e = .returned (.slice (some ⟨w.heap.size, 0, none⟩) l.length l.length) ∧
   w'.rowIs w.heap.size 5 l.length (fun i => .int .u8 (l.getD i 0)) ∧ Below w.heap.size w w' := by
 have hmk := run_make_row' (P := Tryz.prog) 53 5 (.int .u8 0) 1 Tryz.underlying53 info_u8 rfl .i64 .i64 l.length (by omega) (by omega)
 generalize hn : l.length = n at *
 have HN := hide hn
 clear hn
 go_enter Tryz.func112, Tryz.ntmps112
 go_wp2
 go_loopw [4] (fun i wr => ∃ k : Nat, k ≤ n ∧ i = .int .i64 k ∧ wr.rowIs w.heap.size 5 n (fun j => if j < k then .int .u8 (l.getD j 0) else .int .u8 0) ∧ Below w.heap.size w wr) (fun i _ => n - (intOf i).toNat)
 case atStart => exact ⟨0, Nat.zero_le _, rfl, by simpa using World.rowIs_made w _ n 5, (Below.refl _ _).alloc (Nat.le_refl _) _⟩
 case round =>
  obtain ⟨k, hk, rfl, hr, hb⟩ := hrel
  by_cases hlt : k < n
  ·obtain ⟨b, off, rfl, hbl, hc⟩ := h.cell hb (k := k) (by rw [unhide HN]; exact hlt)
   have hc2 := hr.cell hlt
   simp only [Nat.lt_irrefl, if_false] at hc2
   have hf2 := hr.frozen k
   have HR := hide hr
   clear hr
   go_wp2
   go_roundw
   case rel =>
    refine ⟨k + 1, by omega, by go_num, ?_, hb.setCell (Nat.le_refl _) _⟩
    refine ((unhide HR).set k _).congr fun j hj => ?_
    by_cases e : j = k
    ·subst e; simp
    ·have : j < k + 1 ↔ j < k := by omega
     simp [e, this]
   case measure => simp [intOf]; omega
  ·go_wp2
   go_ret
   obtain rfl : k = n := by omega
   refine ⟨rfl, hr.congr fun j hj => by simp [hj], hb⟩

theorem toByteS_any (a : Option Addr) (cap : Nat) (l : List Int) (w : World) (h : Lies w a l) (hl : l.length ≤ 1048576) :
  Calls Tryz.prog 112 #[.slice a l.length cap] w fun e w' => ∃ v, e = .returned v ∧ Own w.heap.size 5 w' v l ∧ Below w.heap.size w w' :=
 (toByteS_row a cap l w h hl).mono fun e w' ⟨he, hr, hb⟩ => ⟨_, he, Own.ofRow hr (Nat.le_refl _) (by unfold maxLen; omega), hb⟩

set_option maxHeartbeats 400000 in
set_option maxRecDepth 100000 in
theorem eqByteS_eq (a a' : Option Addr) (cap cap' : Nat) (l : List Int) (w : World) (h : Lies w a l) (h' : Lies w a' l) (hl : l.length ≤ 2097152) :
  Calls Tryz.prog 84 #[.slice a l.length cap, .slice a' l.length cap'] w fun e w' => e = .returned (.bool true) ∧ ∃ n, w' = w.drewN n := by
 generalize hn : l.length = n at *
 have HN := hide hn
 clear hn
 go_enter Tryz.func84, Tryz.ntmps84
 go_wp2
 go_loopw [5] (fun i wr => ∃ k : Nat, k ≤ n ∧ i = .int .i64 k ∧ ∃ m, wr = w.drewN m) (fun i _ => n - (intOf i).toNat)
 case atStart => exact ⟨0, Nat.zero_le _, rfl, 0, rfl⟩
 case round =>
  obtain ⟨k, hk, rfl, m, rfl⟩ := hrel
  by_cases hlt : k < n
  ·obtain ⟨b, off, rfl, hbl, hc⟩ := h.here (k := k) (by rw [unhide HN]; exact hlt)
   obtain ⟨b', off', rfl, hbl', hc'⟩ := h'.here (k := k) (by rw [unhide HN]; exact hlt)
   go_wp2
   go_quiet (fail)
   go_wp2
   exact ⟨⟨k + 1, by omega, by go_num, _, rfl⟩, by simp [intOf]; omega⟩
  ·go_wp2
   go_ret
   exact ⟨rfl, m, rfl⟩

end Go.Proofs.YtpolekinfobecaaGreat
