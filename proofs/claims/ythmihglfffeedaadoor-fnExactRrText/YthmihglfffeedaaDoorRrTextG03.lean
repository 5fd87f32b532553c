/-
  Plain facts: a record as lists and numbers, and how it lies in memory. No program is named here. What is known of the type byte in this program. Contracts of the helpers of the laws for slices of numbers (toIntS, eqIntS, markIntS, heldIntS). Contracts of the byte helpers of the laws (toByteS, eqByteS): what each answers and what it leaves in memory, for every slice of at most 1048576 bytes.
-/
import Derived.Test.YthmihglfffeedaaDoorRrTextG02
import Derived.Test.YthmihglfffeedaaDoorProg
import Derived.Test.YthmihglfffeedaaDoorRrTextG00
namespace Go.Proofs.YthmihglfffeedaaDoor
open Go.RowKit

structure Rec where
 name : List (List Int)
 type : Int
 ttl : Int
 addr : Int
 to : List (List Int)
 text : List Int
 nums : List Int

structure InR (w : World) (an ato ax ai : Option Addr) (r : Rec) : Prop where
 name : LiesL w an r.name
 to : LiesL w ato r.to
 text : Lies w ax r.text
 nums : LiesI w ai r.nums
theorem InR.below {w w' : World} {an ato ax ai : Option Addr} {r : Rec} (h : InR w an ato ax ai r) (hb : Below w.heap.size w w') : InR w' an ato ax ai r := ⟨h.name.below hb, h.to.below hb, h.text.below hb, h.nums.below hb⟩

structure SizeR (m : Nat) (r : Rec) : Prop where
 name : r.name.length ≤ m
 names : ∀ i, i < r.name.length → (r.name.getD i []).length ≤ m
 to : r.to.length ≤ m
 tos : ∀ i, i < r.to.length → (r.to.getD i []).length ≤ m
 text : r.text.length ≤ m
 nums : r.nums.length ≤ m
theorem SizeR.mono {m m' : Nat} {r : Rec} (h : SizeR m r) (hm : m ≤ m') : SizeR m' r :=
 ⟨Nat.le_trans h.name hm, fun i hi => Nat.le_trans (h.names i hi) hm, Nat.le_trans h.to hm, fun i hi => Nat.le_trans (h.tos i hi) hm, Nat.le_trans h.text hm, Nat.le_trans h.nums hm⟩

structure HasR (w : World) (vn vt vx vi : Value) (r : Rec) : Prop where
 name : HasL w vn r.name
 to : HasL w vt r.to
 text : Has w vx r.text
 nums : HasI w vi r.nums
theorem HasR.below {w w' : World} {vn vt vx vi : Value} {r : Rec} (h : HasR w vn vt vx vi r) (hb : Below w.heap.size w w') : HasR w' vn vt vx vi r := ⟨h.name.below hb, h.to.below hb, h.text.below hb, h.nums.below hb⟩

def OwnR (B E : Nat) (el eb ei : TypeId) (w : World) (vn vt vx vi : Value) (r : Rec) : Prop :=
 ∃ s1 s2 s3, B ≤ s1 ∧ s1 ≤ s2 ∧ s2 ≤ s3 ∧ s3 ≤ E ∧ OwnN B s1 el eb w vn r.name ∧ OwnN s1 s2 el eb w vt r.to ∧ OwnB s2 s3 eb w vx r.text ∧ OwnBI s3 E ei w vi r.nums
theorem OwnR.hasR {B E : Nat} {el eb ei : TypeId} {w : World} {vn vt vx vi : Value} {r : Rec} (h : OwnR B E el eb ei w vn vt vx vi r) : HasR w vn vt vx vi r := by
 obtain ⟨s1, s2, s3, _, _, _, _, h1, h2, h3, h4⟩ := h
 exact ⟨h1.hasL, h2.hasL, h3.has, h4.has⟩
theorem OwnR.below {B E : Nat} {el eb ei : TypeId} {w w' : World} {vn vt vx vi : Value} {r : Rec} (h : OwnR B E el eb ei w vn vt vx vi r) (hb : Below w.heap.size w w') : OwnR B E el eb ei w' vn vt vx vi r := by
 obtain ⟨s1, s2, s3, a1, a2, a3, a4, h1, h2, h3, h4⟩ := h
 exact ⟨s1, s2, s3, a1, a2, a3, a4, h1.below hb, h2.below hb, h3.below hb, h4.below hb⟩
theorem OwnR.outside {B E C D : Nat} {el eb ei : TypeId} {w w' : World} {vn vt vx vi : Value} {r : Rec} (h : OwnR B E el eb ei w vn vt vx vi r) (u : Outside C D w w') (hd : E ≤ C ∨ D ≤ B) : OwnR B E el eb ei w' vn vt vx vi r := by
 obtain ⟨s1, s2, s3, a1, a2, a3, a4, h1, h2, h3, h4⟩ := h
 exact ⟨s1, s2, s3, a1, a2, a3, a4, h1.outside u (by omega), h2.outside u (by omega), h3.outside u (by omega), h4.outside u (by omega)⟩

theorem UJ {w : World} {b : Nat} {c0 c1 c2 c3 c4 c5 c6 : Value} {t : TypeId} (h : w.heap[b]? = some (.cells #[c0, c1, c2, c3, c4, c5, c6] t)) :
  w.cell? ⟨b, 0, none⟩ = some c0 ∧ w.cell? ⟨b, 1, none⟩ = some c1 ∧ w.cell? ⟨b, 2, none⟩ = some c2 ∧ w.cell? ⟨b, 3, none⟩ = some c3 ∧ w.cell? ⟨b, 4, none⟩ = some c4 ∧ w.cell? ⟨b, 5, none⟩ = some c5 ∧ w.cell? ⟨b, 6, none⟩ = some c6 :=
 ⟨VE h 0, VE h 1, VE h 2, VE h 3, VE h 4, VE h 5, VE h 6⟩
theorem VI {w : World} {b : Nat} {c : Array Value} {t : TypeId} (h : w.heap[b]? = some (.cells c t)) :
  w.frozen? ⟨b, 0, none⟩ = false ∧ w.frozen? ⟨b, 1, none⟩ = false ∧ w.frozen? ⟨b, 2, none⟩ = false ∧ w.frozen? ⟨b, 3, none⟩ = false ∧ w.frozen? ⟨b, 4, none⟩ = false ∧ w.frozen? ⟨b, 5, none⟩ = false ∧ w.frozen? ⟨b, 6, none⟩ = false :=
 ⟨VG h 0, VG h 1, VG h 2, VG h 3, VG h 4, VG h 5, VG h 6⟩
theorem UV {w : World} {b : Nat} {c : Array Value} {t : TypeId} (h : w.heap[b]? = some (.cells c t)) (i : Nat) (v : Value) : (w.setCell ⟨b, i, none⟩ v).heap[b]? = some (.cells (c.setIfInBounds i v) t) := by
 simp [World.setCell, Array.getElem?_modify, h]

theorem UT (w : World) (b i : Nat) (v : Value) : Outside b (b + 1) w (w.setCell ⟨b, i, none⟩ v) := outside_grown (grown_setCell w ⟨b, i, none⟩ v) (fun k hk => by simp at hk; omega)
theorem Outside.wide {B E B' E' : Nat} {w w' : World} (h : Outside B E w w') (hB : B' ≤ B) (hE : E ≤ E') : Outside B' E' w w' := ⟨h.os, h.tape, h.output, h.size, fun k hk hn => h.block k hk (by omega)⟩
theorem OwnN.wide {C E C' E' : Nat} {el eb : TypeId} {w : World} {v : Value} {n : List (List Int)} (h : OwnN C E el eb w v n) (hC : C' ≤ C) (hE : E ≤ E') : OwnN C' E' el eb w v n := by
 obtain ⟨vs, ho, hu, hd, hv, he⟩ := h
 refine ⟨vs, ownsRow_mono ho hC, fun i hi => ?_, hd, fun q hq => Nat.lt_of_lt_of_le (hv q hq) hE, fun i u q h1 h2 => Nat.lt_of_lt_of_le (he i u q h1 h2) hE⟩
 obtain ⟨x, h1, h2⟩ := hu i hi
 exact ⟨x, h1, h2.mono hC⟩
theorem OwnB.wide {C E C' E' : Nat} {e : TypeId} {w : World} {v : Value} {l : List Int} (h : OwnB C E e w v l) (hC : C' ≤ C) (hE : E ≤ E') : OwnB C' E' e w v l := ⟨h.1.mono hC, fun q hq => Nat.lt_of_lt_of_le (h.2 q hq) hE⟩
theorem OwnBI.wide {C E C' E' : Nat} {e : TypeId} {w : World} {v : Value} {l : List Int} (h : OwnBI C E e w v l) (hC : C' ≤ C) (hE : E ≤ E') : OwnBI C' E' e w v l := ⟨h.1.mono hC, fun q hq => Nat.lt_of_lt_of_le (h.2 q hq) hE⟩
theorem set7h {w0 : World} {b : Nat} {c0 c1 c2 c3 c4 c5 c6 a0 a1 a2 a3 a4 a5 a6 : Value} {t : TypeId} (h0 : w0.heap[b]? = some (.cells #[a0, a1, a2, a3, a4, a5, a6] t)) :
  (((((((w0.setCell ⟨b, 0, none⟩ c0).setCell ⟨b, 1, none⟩ c1).setCell ⟨b, 2, none⟩ c2).setCell ⟨b, 3, none⟩ c3).setCell ⟨b, 4, none⟩ c4).setCell ⟨b, 5, none⟩ c5).setCell ⟨b, 6, none⟩ c6).heap[b]? = some (.cells #[c0, c1, c2, c3, c4, c5, c6] t) := by
 have h1 : (w0.setCell ⟨b, 0, none⟩ c0).heap[b]? = some (.cells #[c0, a1, a2, a3, a4, a5, a6] t) := UV h0 0 c0
 generalize w0.setCell ⟨b, 0, none⟩ c0 = w1 at h1 ⊢
 have h2 : (w1.setCell ⟨b, 1, none⟩ c1).heap[b]? = some (.cells #[c0, c1, a2, a3, a4, a5, a6] t) := UV h1 1 c1
 generalize w1.setCell ⟨b, 1, none⟩ c1 = w2 at h2 ⊢
 have h3 : (w2.setCell ⟨b, 2, none⟩ c2).heap[b]? = some (.cells #[c0, c1, c2, a3, a4, a5, a6] t) := UV h2 2 c2
 generalize w2.setCell ⟨b, 2, none⟩ c2 = w3 at h3 ⊢
 have h4 : (w3.setCell ⟨b, 3, none⟩ c3).heap[b]? = some (.cells #[c0, c1, c2, c3, a4, a5, a6] t) := UV h3 3 c3
 generalize w3.setCell ⟨b, 3, none⟩ c3 = w4 at h4 ⊢
 have h5 : (w4.setCell ⟨b, 4, none⟩ c4).heap[b]? = some (.cells #[c0, c1, c2, c3, c4, a5, a6] t) := UV h4 4 c4
 generalize w4.setCell ⟨b, 4, none⟩ c4 = w5 at h5 ⊢
 have h6 : (w5.setCell ⟨b, 5, none⟩ c5).heap[b]? = some (.cells #[c0, c1, c2, c3, c4, c5, a6] t) := UV h5 5 c5
 generalize w5.setCell ⟨b, 5, none⟩ c5 = w6 at h6 ⊢
 have h7 : (w6.setCell ⟨b, 6, none⟩ c6).heap[b]? = some (.cells #[c0, c1, c2, c3, c4, c5, c6] t) := UV h6 6 c6
 exact h7
theorem set7 {w0 : World} {b : Nat} {c0 c1 c2 c3 c4 c5 c6 a0 a1 a2 a3 a4 a5 a6 : Value} {t : TypeId} (h0 : w0.heap[b]? = some (.cells #[a0, a1, a2, a3, a4, a5, a6] t)) :
  (((((((w0.setCell ⟨b, 0, none⟩ c0).setCell ⟨b, 1, none⟩ c1).setCell ⟨b, 2, none⟩ c2).setCell ⟨b, 3, none⟩ c3).setCell ⟨b, 4, none⟩ c4).setCell ⟨b, 5, none⟩ c5).setCell ⟨b, 6, none⟩ c6).heap[b]? = some (.cells #[c0, c1, c2, c3, c4, c5, c6] t) ∧ Outside b (b + 1) w0 (((((((w0.setCell ⟨b, 0, none⟩ c0).setCell ⟨b, 1, none⟩ c1).setCell ⟨b, 2, none⟩ c2).setCell ⟨b, 3, none⟩ c3).setCell ⟨b, 4, none⟩ c4).setCell ⟨b, 5, none⟩ c5).setCell ⟨b, 6, none⟩ c6) :=
 ⟨set7h h0, ((((((UT _ _ _ _).trans (UT _ _ _ _)).trans (UT _ _ _ _)).trans (UT _ _ _ _)).trans (UT _ _ _ _)).trans (UT _ _ _ _)).trans (UT _ _ _ _)⟩
end Go.Proofs.YthmihglfffeedaaDoor

namespace Go.Proofs.YthmihglfffeedaaDoor
open Go.RowKit

theorem VJ : (Tryd.prog.info? 5).map (fun i => (i.zero, i.size, i.bytes)) = some (some (.int .u8 0), 1, 1) := by kernel_rfl
end Go.Proofs.YthmihglfffeedaaDoor

namespace Go.Proofs.YthmihglfffeedaaDoor
open Go.RowKit
set_option linter.unusedVariables false
set_option maxHeartbeats 400000
set_option maxRecDepth 100000

theorem info_int : (Tryd.prog.info? 3).map (fun i => (i.zero, i.size, i.bytes)) = some (some (.int .i64 0), 1, 8) := by kernel_rfl

theorem toIntS_row (a : Option Addr) (cap : Nat) (l : List Int) (w : World) (h : LiesI w a l) (hl : l.length ≤ 1048576) :
  Calls Tryd.prog 20 #[.slice a l.length cap] w fun e w' => e = .returned (.slice (some ⟨w.heap.size, 0, none⟩) l.length l.length) ∧
   w'.rowIs w.heap.size 3 l.length (fun i => .int .i64 (l.getD i 0)) ∧ Below w.heap.size w w' := by
 have hmk := run_make_row' (P := Tryd.prog) 26 3 (.int .i64 0) 8 Tryd.underlying26 info_int rfl .i64 .i64 l.length (by omega) (by omega)
 generalize hn : l.length = n at *
 have HN := UC hn
 clear hn
 go_enter Tryd.func20, Tryd.ntmps20
 go_wp2
 go_loopw [4] (fun i wr => ∃ k : Nat, k ≤ n ∧ i = .int .i64 k ∧ wr.rowIs w.heap.size 3 n (fun j => if j < k then .int .i64 (l.getD j 0) else .int .i64 0) ∧ Below w.heap.size w wr) (fun i _ => n - (intOf i).toNat)
 case atStart => exact ⟨0, Nat.zero_le _, rfl, by simpa using World.rowIs_made w _ n 3, (Below.refl _ _).alloc (Nat.le_refl _) _⟩
 case round =>
  obtain ⟨k, hk, rfl, hr, hb⟩ := hrel
  by_cases hlt : k < n
  ·obtain ⟨b, off, rfl, hbl, hc⟩ := h.cell hb (k := k) (by rw [UB HN]; exact hlt)
   have hc2 := hr.cell hlt
   simp only [Nat.lt_irrefl, if_false] at hc2
   have hf2 := hr.frozen k
   have HR := UC hr
   clear hr
   go_wp2
   go_roundw
   case rel =>
    refine ⟨k + 1, by omega, by go_num, ?_, hb.setCell (Nat.le_refl _) _⟩
    refine ((UB HR).set k _).congr fun j hj => ?_
    by_cases e : j = k
    ·subst e; simp
    ·have : j < k + 1 ↔ j < k := by omega
     simp [e, this]
   case measure => simp [intOf]; omega
  ·go_wp2
   go_ret
   obtain rfl : k = n := by omega
   refine ⟨rfl, hr.congr fun j hj => by simp [hj], hb⟩

theorem toIntS_any (a : Option Addr) (cap : Nat) (l : List Int) (w : World) (h : LiesI w a l) (hl : l.length ≤ 1048576) :
  Calls Tryd.prog 20 #[.slice a l.length cap] w fun e w' => ∃ v, e = .returned v ∧ OwnI w.heap.size 3 w' v l ∧ Below w.heap.size w w' :=
 (toIntS_row a cap l w h hl).mono fun e w' ⟨he, hr, hb⟩ => ⟨_, he, OwnI.ofRow hr (Nat.le_refl _) (by unfold maxLen; omega), hb⟩

theorem eqIntS_eq (a a' : Option Addr) (cap cap' : Nat) (l : List Int) (w : World) (h : LiesI w a l) (h' : LiesI w a' l) (hl : l.length ≤ 2097152) :
  Calls Tryd.prog 28 #[.slice a l.length cap, .slice a' l.length cap'] w fun e w' => e = .returned (.bool true) ∧ ∃ n, w' = w.drewN n := by
 generalize hn : l.length = n at *
 have HN := UC hn
 clear hn
 go_enter Tryd.func28, Tryd.ntmps28
 go_wp2
 go_loopw [5] (fun i wr => ∃ k : Nat, k ≤ n ∧ i = .int .i64 k ∧ ∃ m, wr = w.drewN m) (fun i _ => n - (intOf i).toNat)
 case atStart => exact ⟨0, Nat.zero_le _, rfl, 0, rfl⟩
 case round =>
  obtain ⟨k, hk, rfl, m, rfl⟩ := hrel
  by_cases hlt : k < n
  ·obtain ⟨b, off, rfl, hbl, hc⟩ := h.here (k := k) (by rw [UB HN]; exact hlt)
   obtain ⟨b', off', rfl, hbl', hc'⟩ := h'.here (k := k) (by rw [UB HN]; exact hlt)
   go_wp2
   go_quiet (fail)
   go_wp2
   exact ⟨⟨k + 1, by omega, by go_num, _, rfl⟩, by simp [intOf]; omega⟩
  ·go_wp2
   go_ret
   exact ⟨rfl, m, rfl⟩

set_option maxHeartbeats 400000
set_option maxRecDepth 100000

theorem toByteS_row (a : Option Addr) (cap : Nat) (l : List Int) (w : World) (h : Lies w a l) (hl : l.length ≤ 1048576) :
  Calls Tryd.prog 19 #[.slice a l.length cap] w fun e w' => e = .returned (.slice (some ⟨w.heap.size, 0, none⟩) l.length l.length) ∧
   w'.rowIs w.heap.size 5 l.length (fun i => .int .u8 (l.getD i 0)) ∧ Below w.heap.size w w' := by
 have hmk := run_make_row' (P := Tryd.prog) 25 5 (.int .u8 0) 1 Tryd.underlying25 VJ rfl .i64 .i64 l.length (by omega) (by omega)
 generalize hn : l.length = n at *
 have HN := UC hn
 clear hn
 go_enter Tryd.func19, Tryd.ntmps19
 go_wp2
 go_loopw [4] (fun i wr => ∃ k : Nat, k ≤ n ∧ i = .int .i64 k ∧ wr.rowIs w.heap.size 5 n (fun j => if j < k then .int .u8 (l.getD j 0) else .int .u8 0) ∧ Below w.heap.size w wr) (fun i _ => n - (intOf i).toNat)
 case atStart => exact ⟨0, Nat.zero_le _, rfl, by simpa using World.rowIs_made w _ n 5, (Below.refl _ _).alloc (Nat.le_refl _) _⟩
 case round =>
  obtain ⟨k, hk, rfl, hr, hb⟩ := hrel
  by_cases hlt : k < n
  ·obtain ⟨b, off, rfl, hbl, hc⟩ := h.cell hb (k := k) (by rw [UB HN]; exact hlt)
   have hc2 := hr.cell hlt
   simp only [Nat.lt_irrefl, if_false] at hc2
   have hf2 := hr.frozen k
   have HR := UC hr
   clear hr
   go_wp2
   go_roundw
   case rel =>
    refine ⟨k + 1, by omega, by go_num, ?_, hb.setCell (Nat.le_refl _) _⟩
    refine ((UB HR).set k _).congr fun j hj => ?_
    by_cases e : j = k
    ·subst e; simp
    ·have : j < k + 1 ↔ j < k := by omega
     simp [e, this]
   case measure => simp [intOf]; omega
  ·go_wp2
   go_ret
   obtain rfl : k = n := by omega
   refine ⟨rfl, hr.congr fun j hj => by simp [hj], hb⟩

theorem toByteS_any (a : Option Addr) (cap : Nat) (l : List Int) (w : World) (h : Lies w a l) (hl : l.length ≤ 1048576) :
  Calls Tryd.prog 19 #[.slice a l.length cap] w fun e w' => ∃ v, e = .returned v ∧ Own w.heap.size 5 w' v l ∧ Below w.heap.size w w' :=
 (toByteS_row a cap l w h hl).mono fun e w' ⟨he, hr, hb⟩ => ⟨_, he, Own.ofRow hr (Nat.le_refl _) (by unfold maxLen; omega), hb⟩

theorem eqByteS_eq (a a' : Option Addr) (cap cap' : Nat) (l : List Int) (w : World) (h : Lies w a l) (h' : Lies w a' l) (hl : l.length ≤ 2097152) :
  Calls Tryd.prog 8 #[.slice a l.length cap, .slice a' l.length cap'] w fun e w' => e = .returned (.bool true) ∧ ∃ n, w' = w.drewN n := by
 generalize hn : l.length = n at *
 have HN := UC hn
 clear hn
 go_enter Tryd.func8, Tryd.ntmps8
 go_wp2
 go_loopw [5] (fun i wr => ∃ k : Nat, k ≤ n ∧ i = .int .i64 k ∧ ∃ m, wr = w.drewN m) (fun i _ => n - (intOf i).toNat)
 case atStart => exact ⟨0, Nat.zero_le _, rfl, 0, rfl⟩
 case round =>
  obtain ⟨k, hk, rfl, m, rfl⟩ := hrel
  by_cases hlt : k < n
  ·obtain ⟨b, off, rfl, hbl, hc⟩ := h.here (k := k) (by rw [UB HN]; exact hlt)
   obtain ⟨b', off', rfl, hbl', hc'⟩ := h'.here (k := k) (by rw [UB HN]; exact hlt)
   go_wp2
   go_quiet (fail)
   go_wp2
   exact ⟨⟨k + 1, by omega, by go_num, _, rfl⟩, by simp [intOf]; omega⟩
  ·go_wp2
   go_ret
   exact ⟨rfl, m, rfl⟩

end Go.Proofs.YthmihglfffeedaaDoor
