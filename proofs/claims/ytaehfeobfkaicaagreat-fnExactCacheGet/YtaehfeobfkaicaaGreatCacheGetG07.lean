/-
  Plain facts: how slots that are answers are marked. No program is named here. Contracts of the helpers of the laws for slices of numbers (toIntS, eqIntS, markIntS, heldIntS). Contracts of the byte helpers of the laws (toByteS, eqByteS): what each answers and what it leaves in memory, for every slice of at most 1048576 bytes. Contracts of the name helpers of the laws (szName, toName, eqName): what each answers and what it leaves in memory.
-/
import Derived.Test.YtaehfeobfkaicaaGreatCacheGetG06
import Derived.Test.YtaehfeobfkaicaaGreatCacheGetG05
import Derived.Test.YtaehfeobfkaicaaGreatCacheGetG02
import Derived.Test.YtaehfeobfkaicaaGreatCacheGetG00
namespace Go.Proofs.YtaehfeobfkaicaaGreat
open Go.RowKit
set_option linter.unusedVariables false

def totR (l : List Slt) : Nat → Nat
 | 0 => 0
 | k + 1 => totR l k + (l.getD k VK).rrs.length
theorem totR_mono (l : List Slt) : ∀ d i, totR l i ≤ totR l (i + d)
 | 0, i => Nat.le_refl _
 | d + 1, i => Nat.le_trans (totR_mono l d i) (show totR l (i + d) ≤ totR l (i + d) + (l.getD (i + d) VK).rrs.length from by omega)
def posSl (x : Slt) (k : Int) : Int := posRs x.rrs (pos x.name k x.name.length + 2) x.rrs.length + 3
def markSlt (x : Slt) (k : Int) : Slt := ⟨markL x.name k, pos x.name k x.name.length, pos x.name k x.name.length + 1, markRs x.rrs (pos x.name k x.name.length + 2) x.rrs.length, posRs x.rrs (pos x.name k x.name.length + 2) x.rrs.length, posRs x.rrs (pos x.name k x.name.length + 2) x.rrs.length + 1, posRs x.rrs (pos x.name k x.name.length + 2) x.rrs.length + 2⟩
def posSs (l : List Slt) (k : Int) : Nat → Int
 | 0 => k
 | i + 1 => posSl (l.getD i VK) (posSs l k i)
def markSs (l : List Slt) (k : Int) (m : Nat) : List Slt := (List.range l.length).map (fun j => if j < m then markSlt (l.getD j VK) (posSs l k j) else l.getD j VK)
theorem markSs_length (l : List Slt) (k : Int) (m : Nat) : (markSs l k m).length = l.length := by simp [markSs]
theorem markSs_getD (l : List Slt) (k : Int) (m j : Nat) (h : j < l.length) : (markSs l k m).getD j VK = if j < m then markSlt (l.getD j VK) (posSs l k j) else l.getD j VK := by simp [markSs, h]
theorem markSs_zero (l : List Slt) (k : Int) : markSs l k 0 = l := by
 apply List.ext_getElem?
 intro j
 by_cases hj : j < l.length <;> simp [markSs, hj]
theorem markSs_succ (l : List Slt) (k : Int) (m : Nat) (hm : m < l.length) : (markSs l k m).set m (markSlt (l.getD m VK) (posSs l k m)) = markSs l k (m + 1) := by
 apply List.ext_getElem?
 intro j
 by_cases e : j = m
 ·subst e
  simp [markSs, hm]
 ·rw [List.getElem?_set_ne (Ne.symm e)]
  by_cases hj : j < l.length
  ·by_cases hjm : j < m
   ·simp [markSs, hj, hjm, show j < m + 1 by omega]
   ·simp [markSs, hj, hjm, show ¬ j < m + 1 by omega]
  ·simp [markSs, hj]
theorem posSl_bound {x : Slt} (hs : SizeSl 1048576 x) (k : Int) : k ≤ pos x.name k x.name.length ∧ pos x.name k x.name.length ≤ k + 1099511627776 ∧ pos x.name k x.name.length + 2 ≤ posRs x.rrs (pos x.name k x.name.length + 2) x.rrs.length ∧ posRs x.rrs (pos x.name k x.name.length + 2) x.rrs.length ≤ k + 1099511627778 + x.rrs.length * 2199025352707 := by
 have h1 := pos_bound' x.name k hs.name hs.names
 have h2 := posRs_bound hs.rrss (pos x.name k x.name.length + 2) x.rrs.length (Nat.le_refl _)
 omega
theorem posSs_bound {l : List Slt} (hs : ∀ i, i < l.length → SizeSl 1048576 (l.getD i VK)) (k : Int) : ∀ i, i ≤ l.length → k ≤ posSs l k i ∧ posSs l k i ≤ k + i * 1099511627781 + totR l i * 2199025352707
 | 0, _ => by simp [posSs, totR]
 | i + 1, hi => by
  have h1 := posSs_bound hs k i (by omega)
  have h2 := posSl_bound (hs i (by omega)) (posSs l k i)
  unfold posSs posSl totR
  push_cast
  omega
theorem two_sets {w : World} {q n : Nat} {cur : Array Value} {t : TypeId} (h : w.heap[q]? = some (.cells cur t)) (x y : Value) (hn : n + 2 < cur.size) :
  ∃ cur2, ((w.setCell ⟨q, n + 1, none⟩ x).setCell ⟨q, n + 2, none⟩ y).heap[q]? = some (.cells cur2 t) ∧ cur2.size = cur.size ∧ cur2[n + 1]? = some x ∧ cur2[n + 2]? = some y ∧ (∀ j, j ≠ n + 1 → j ≠ n + 2 → cur2[j]? = cur[j]?) ∧
   Outside q (q + 1) w ((w.setCell ⟨q, n + 1, none⟩ x).setCell ⟨q, n + 2, none⟩ y) := by
 refine ⟨_, UV (UV h (n + 1) x) (n + 2) y, by simp, ?_, ?_, fun j h1 h2 => ?_, (UT _ _ _ _).trans (UT _ _ _ _)⟩
 ·simp [show n + 1 < cur.size by omega]
 ·simp [hn]
 ·simp [Ne.symm h1, Ne.symm h2]
set_option maxHeartbeats 400000
set_option maxRecDepth 100000

theorem info_int : (Tryz.prog.info? 3).map (fun i => (i.zero, i.size, i.bytes)) = some (some (.int .i64 0), 1, 8) := by kernel_rfl

theorem toIntS_row (a : Option Addr) (cap : Nat) (l : List Int) (w : World) (h : LiesI w a l) (hl : l.length ≤ 1048576) :
  Calls Tryz.prog 77 #[.slice a l.length cap] w fun e w' => e = .returned (.slice (some ⟨w.heap.size, 0, none⟩) l.length l.length) ∧
   w'.rowIs w.heap.size 3 l.length (fun i => .int .i64 (l.getD i 0)) ∧ Below w.heap.size w w' := by
 have hmk := run_make_row' (P := Tryz.prog) 57 3 (.int .i64 0) 8 Tryz.underlying57 info_int rfl .i64 .i64 l.length (by omega) (by omega)
 generalize hn : l.length = n at *
 have HN := UC hn
 clear hn
 go_enter Tryz.func77, Tryz.ntmps77
 go_wp2
 go_loopw [4] (fun i wr => ∃ k : Nat, k ≤ n ∧ i = .int .i64 k ∧ wr.rowIs w.heap.size 3 n (fun j => if j < k then .int .i64 (l.getD j 0) else .int .i64 0) ∧ Below w.heap.size w wr) (fun i _ => n - (intOf i).toNat)
 case atStart => exact ⟨0, Nat.zero_le _, rfl, by simpa using World.rowIs_made w _ n 3, (Below.refl _ _).alloc (Nat.le_refl _) _⟩
 case round =>
  obtain ⟨k, hk, rfl, hr, hb⟩ := hrel
  by_cases hlt : k < n
  ·obtain ⟨b, off, rfl, hbl, hc⟩ := h.cell hb (k := k) (by rw [UB HN]; exact hlt)
   have hc2 := hr.cell hlt
   simp only [Nat.lt_irrefl, if_false] at hc2
   have hf2 := hr.frozen k
   have HR := UC hr
   clear hr
   go_wp2
   go_roundw
   case rel =>
    refine ⟨k + 1, by omega, by go_num, ?_, hb.setCell (Nat.le_refl _) _⟩
    refine ((UB HR).set k _).congr fun j hj => ?_
    by_cases e : j = k
    ·subst e; simp
    ·have : j < k + 1 ↔ j < k := by omega
     simp [e, this]
   case measure => simp [intOf]; omega
  ·go_wp2
   go_ret
   obtain rfl : k = n := by omega
   refine ⟨rfl, hr.congr fun j hj => by simp [hj], hb⟩

theorem toIntS_any (a : Option Addr) (cap : Nat) (l : List Int) (w : World) (h : LiesI w a l) (hl : l.length ≤ 1048576) :
  Calls Tryz.prog 77 #[.slice a l.length cap] w fun e w' => ∃ v, e = .returned v ∧ OwnI w.heap.size 3 w' v l ∧ Below w.heap.size w w' :=
 (toIntS_row a cap l w h hl).mono fun e w' ⟨he, hr, hb⟩ => ⟨_, he, OwnI.ofRow hr (Nat.le_refl _) (by unfold maxLen; omega), hb⟩

theorem eqIntS_eq (a a' : Option Addr) (cap cap' : Nat) (l : List Int) (w : World) (h : LiesI w a l) (h' : LiesI w a' l) (hl : l.length ≤ 2097152) :
  Calls Tryz.prog 88 #[.slice a l.length cap, .slice a' l.length cap'] w fun e w' => e = .returned (.bool true) ∧ ∃ n, w' = w.drewN n := by
 generalize hn : l.length = n at *
 have HN := UC hn
 clear hn
 go_enter Tryz.func88, Tryz.ntmps88
 go_wp2
 go_loopw [5] (fun i wr => ∃ k : Nat, k ≤ n ∧ i = .int .i64 k ∧ ∃ m, wr = w.drewN m) (fun i _ => n - (intOf i).toNat)
 case atStart => exact ⟨0, Nat.zero_le _, rfl, 0, rfl⟩
 case round =>
  obtain ⟨k, hk, rfl, m, rfl⟩ := hrel
  by_cases hlt : k < n
  ·obtain ⟨b, off, rfl, hbl, hc⟩ := h.here (k := k) (by rw [UB HN]; exact hlt)
   obtain ⟨b', off', rfl, hbl', hc'⟩ := h'.here (k := k) (by rw [UB HN]; exact hlt)
   go_wp2
   go_quiet (fail)
   go_wp2
   exact ⟨⟨k + 1, by omega, by go_num, _, rfl⟩, by simp [intOf]; omega⟩
  ·go_wp2
   go_ret
   exact ⟨rfl, m, rfl⟩

set_option maxHeartbeats 400000
set_option maxRecDepth 100000

theorem toByteS_row (a : Option Addr) (cap : Nat) (l : List Int) (w : World) (h : Lies w a l) (hl : l.length ≤ 1048576) :
  Calls Tryz.prog 76 #[.slice a l.length cap] w fun e w' => e = .returned (.slice (some ⟨w.heap.size, 0, none⟩) l.length l.length) ∧
   w'.rowIs w.heap.size 5 l.length (fun i => .int .u8 (l.getD i 0)) ∧ Below w.heap.size w w' := by
 have hmk := run_make_row' (P := Tryz.prog) 56 5 (.int .u8 0) 1 Tryz.underlying56 VJ rfl .i64 .i64 l.length (by omega) (by omega)
 generalize hn : l.length = n at *
 have HN := UC hn
 clear hn
 go_enter Tryz.func76, Tryz.ntmps76
 go_wp2
 go_loopw [4] (fun i wr => ∃ k : Nat, k ≤ n ∧ i = .int .i64 k ∧ wr.rowIs w.heap.size 5 n (fun j => if j < k then .int .u8 (l.getD j 0) else .int .u8 0) ∧ Below w.heap.size w wr) (fun i _ => n - (intOf i).toNat)
 case atStart => exact ⟨0, Nat.zero_le _, rfl, by simpa using World.rowIs_made w _ n 5, (Below.refl _ _).alloc (Nat.le_refl _) _⟩
 case round =>
  obtain ⟨k, hk, rfl, hr, hb⟩ := hrel
  by_cases hlt : k < n
  ·obtain ⟨b, off, rfl, hbl, hc⟩ := h.cell hb (k := k) (by rw [UB HN]; exact hlt)
   have hc2 := hr.cell hlt
   simp only [Nat.lt_irrefl, if_false] at hc2
   have hf2 := hr.frozen k
   have HR := UC hr
   clear hr
   go_wp2
   go_roundw
   case rel =>
    refine ⟨k + 1, by omega, by go_num, ?_, hb.setCell (Nat.le_refl _) _⟩
    refine ((UB HR).set k _).congr fun j hj => ?_
    by_cases e : j = k
    ·subst e; simp
    ·have : j < k + 1 ↔ j < k := by omega
     simp [e, this]
   case measure => simp [intOf]; omega
  ·go_wp2
   go_ret
   obtain rfl : k = n := by omega
   refine ⟨rfl, hr.congr fun j hj => by simp [hj], hb⟩

theorem toByteS_any (a : Option Addr) (cap : Nat) (l : List Int) (w : World) (h : Lies w a l) (hl : l.length ≤ 1048576) :
  Calls Tryz.prog 76 #[.slice a l.length cap] w fun e w' => ∃ v, e = .returned v ∧ Own w.heap.size 5 w' v l ∧ Below w.heap.size w w' :=
 (toByteS_row a cap l w h hl).mono fun e w' ⟨he, hr, hb⟩ => ⟨_, he, Own.ofRow hr (Nat.le_refl _) (by unfold maxLen; omega), hb⟩

theorem eqByteS_eq (a a' : Option Addr) (cap cap' : Nat) (l : List Int) (w : World) (h : Lies w a l) (h' : Lies w a' l) (hl : l.length ≤ 2097152) :
  Calls Tryz.prog 87 #[.slice a l.length cap, .slice a' l.length cap'] w fun e w' => e = .returned (.bool true) ∧ ∃ n, w' = w.drewN n := by
 generalize hn : l.length = n at *
 have HN := UC hn
 clear hn
 go_enter Tryz.func87, Tryz.ntmps87
 go_wp2
 go_loopw [5] (fun i wr => ∃ k : Nat, k ≤ n ∧ i = .int .i64 k ∧ ∃ m, wr = w.drewN m) (fun i _ => n - (intOf i).toNat)
 case atStart => exact ⟨0, Nat.zero_le _, rfl, 0, rfl⟩
 case round =>
  obtain ⟨k, hk, rfl, m, rfl⟩ := hrel
  by_cases hlt : k < n
  ·obtain ⟨b, off, rfl, hbl, hc⟩ := h.here (k := k) (by rw [UB HN]; exact hlt)
   obtain ⟨b', off', rfl, hbl', hc'⟩ := h'.here (k := k) (by rw [UB HN]; exact hlt)
   go_wp2
   go_quiet (fail)
   go_wp2
   exact ⟨⟨k + 1, by omega, by go_num, _, rfl⟩, by simp [intOf]; omega⟩
  ·go_wp2
   go_ret
   exact ⟨rfl, m, rfl⟩

set_option maxHeartbeats 400000
set_option maxRecDepth 100000

theorem info_bs : (Tryz.prog.info? 56).map (fun i => (i.zero, i.size, i.bytes)) = some (some (.slice none 0 0), 1, 24) := by kernel_rfl

theorem szByteS_any (a : Option Addr) (len cap : Nat) (left : Int) (w : World) (hm : len ≤ maxLen) (h0 : 0 ≤ left) (h1 : left ≤ 1048576) :
  Calls Tryz.prog 67 #[.slice a len cap, .int .i64 left] w fun e w' => e = .returned (.int .i64 (if (len : Int) ≤ left then left - len else -1)) ∧ w = w' := by
 unfold maxLen at hm
 by_cases h : (len : Int) ≤ left
 ·rw [if_pos h]
  go_enter Tryz.func67, Tryz.ntmps67
  go_wp2
  go_ret
  exact ⟨rfl, rfl⟩
 ·rw [if_neg h]
  go_enter Tryz.func67, Tryz.ntmps67
  go_wp2
  go_ret
  exact ⟨rfl, rfl⟩

theorem szByteSS_any (a : Option Addr) (cap : Nat) (n : List (List Int)) (left : Int) (w : World) (h : LiesL w a n) (hm : n.length ≤ maxLen) (hm2 : ∀ i, i < n.length → (n.getD i []).length ≤ maxLen) (h0 : 0 ≤ left) (h1 : left ≤ 1048576) :
  Calls Tryz.prog 45 #[.slice a n.length cap, .int .i64 left] w fun e w' => (∃ r : Int, e = .returned (.int .i64 r) ∧ -1 ≤ r ∧ r ≤ left ∧ (0 ≤ r → (n.length : Int) ≤ left ∧ ∀ i, i < n.length → ((n.getD i []).length : Int) ≤ left)) ∧ w = w' := by
 generalize hn : n.length = m at *
 have HN := UC hn
 clear hn
 have HM := UC hm2
 clear hm2
 unfold maxLen at hm
 by_cases hlen : (m : Int) ≤ left
 ·go_enter Tryz.func45, Tryz.ntmps45
  go_wp2
  go_loop [1, 5] (fun r i => ∃ (k : Nat) (x : Int), k ≤ m ∧ i = .int .i64 k ∧ r = .int .i64 x ∧ 0 ≤ x ∧ x ≤ left ∧ Hid (∀ j, j < k → ((n.getD j []).length : Int) ≤ left)) (fun _ i => m - (intOf i).toNat)
  case atStart => exact ⟨0, left - m, Nat.zero_le _, rfl, rfl, by omega, by omega, UC (fun j hj => absurd hj (Nat.not_lt_zero _))⟩
  case round =>
   obtain ⟨k, x, hk, rfl, rfl, hx0, hx1, hall⟩ := hrel
   by_cases hlt : k < m
   ·obtain ⟨b, off, ia, ic, rfl, hbl, hc, hLi⟩ := h.here (k := k) (by rw [UB HN]; exact hlt)
    have hmk := UB HM k hlt
    have hone := UC (fun (hs : ((n.getD k []).length : Int) ≤ left) => (show ∀ j, j < k + 1 → ((n.getD j []).length : Int) ≤ left from fun j hj => by
      by_cases e : j = k
      ·subst e; exact hs
      ·exact UB hall j (by omega)))
    generalize (n.getD k []).length = lk at *
    go_wp2_with fail
    refine (szByteS_any ia lk ic x _ hmk hx0 (by omega)).mono ?_
    rintro e w1 ⟨rfl, rfl⟩
    by_cases hle : (lk : Int) ≤ x
    ·rw [if_pos hle]
     have hy : 0 ≤ x - lk := by omega
     go_wp2
     exact ⟨⟨k + 1, x - lk, by omega, by go_num, rfl, by omega, by omega, UC (UB hone (by omega))⟩, by simp [intOf]; omega⟩
    ·rw [if_neg hle]
     go_wp2
     go_ret
     exact ⟨⟨-1, rfl, by omega, by omega, fun hneg => by omega⟩, rfl⟩
   ·obtain rfl : k = m := by omega
    go_wp2
    go_ret
    exact ⟨⟨x, rfl, by omega, hx1, fun _ => by first | exact ⟨hlen, UB hall⟩ | (have hq := UB hall; simpa using hq)⟩, rfl⟩
 ·go_enter Tryz.func45, Tryz.ntmps45
  go_wp2
  go_ret
  exact ⟨⟨-1, rfl, by omega, by omega, fun hneg => by omega⟩, rfl⟩

theorem szName_any (a : Option Addr) (cap : Nat) (n : List (List Int)) (left : Int) (w : World) (h : LiesL w a n) (hm : n.length ≤ maxLen) (hm2 : ∀ i, i < n.length → (n.getD i []).length ≤ maxLen) (h0 : 0 ≤ left) (h1 : left ≤ 1048576) :
  Calls Tryz.prog 17 #[.agg #[.slice a n.length cap], .int .i64 left] w fun e w' => (∃ r : Int, e = .returned (.int .i64 r) ∧ -1 ≤ r ∧ r ≤ left ∧ (0 ≤ r → (n.length : Int) ≤ left ∧ ∀ i, i < n.length → ((n.getD i []).length : Int) ≤ left)) ∧ Below w.heap.size w w' := by
 have hA := h.below (UI (.cells #[.slice a n.length cap] 43))
 have hsz := UC (szByteSS_any a cap n left _ hA hm hm2 h0 h1)
 generalize hn : n.length = m at *
 have HN := UC hn
 clear hn
 have HM := UC hm2
 clear hm2
 go_enter Tryz.func17, Tryz.ntmps17
 go_wp2_with fail
 refine (UB hsz).mono ?_
 rintro e w1 ⟨⟨r, rfl, hr0, hr1, hr2⟩, rfl⟩
 have HR := UC hr2
 clear hr2
 by_cases hneg : r < 0
 ·go_wp2
  go_ret
  exact ⟨⟨-1, rfl, by omega, by omega, fun hneg => by omega⟩, UI _⟩
 ·go_wp2
  go_ret
  exact ⟨⟨r, rfl, hr0, hr1, UB HR⟩, UI _⟩

theorem toByteSS_any (a : Option Addr) (cap : Nat) (n : List (List Int)) (w : World) (h : LiesL w a n) (hl : n.length ≤ 1048576) (hl2 : ∀ i, i < n.length → (n.getD i []).length ≤ 1048576) :
  Calls Tryz.prog 51 #[.slice a n.length cap] w fun e w' => ∃ v, e = .returned v ∧ OwnL w.heap.size 56 5 w' v n ∧ Below w.heap.size w w' := by
 have hmk := run_make_row' (P := Tryz.prog) 41 56 (.slice none 0 0) 24 Tryz.underlying41 info_bs rfl .i64 .i64 n.length (by omega) (by omega)
 generalize hn : n.length = m at *
 have HN := UC hn
 clear hn
 have HL := UC hl2
 clear hl2
 go_enter Tryz.func51, Tryz.ntmps51
 go_wp2
 go_loopw [4] (fun i wr => ∃ (k : Nat) (xs : List Value), k ≤ m ∧ i = .int .i64 k ∧ wr.ownsRow w.heap.size 56 1 (.slice (some ⟨w.heap.size, 0, none⟩) m m) m xs ∧ Hid (∀ j, j < k → ∃ u, xs[j]? = some u ∧ Own (w.heap.size + 1) 5 wr u (n.getD j [])) ∧
   Hid (∀ (i j : Nat) (u u' : Value), i < j → j < k → xs[i]? = some u → xs[j]? = some u' → u.ownBlock = none ∨ u.ownBlock ≠ u'.ownBlock) ∧ Below w.heap.size w wr) (fun i _ => m - (intOf i).toNat)
 case atStart => exact ⟨0, _, Nat.zero_le _, rfl, ownsRow_of_rowIs (World.rowIs_made w _ m 56) (Nat.le_refl _) (by unfold maxLen; omega), UC (fun j hj => absurd hj (Nat.not_lt_zero _)), UC (fun i j u u' _ hj => absurd hj (Nat.not_lt_zero _)), UI _⟩
 case round =>
  obtain ⟨k, xs, hk, rfl, ho, hown, hdis, hb⟩ := hrel
  by_cases hlt : k < m
  ·obtain ⟨b, off, ia, ic, rfl, hbl, hc0, hLi⟩ := h.here (k := k) (by rw [UB HN]; exact hlt)
   have hc := (hb.cell (p := ⟨b, off + k, none⟩) hbl).trans hc0
   have hLi' := hLi.below hb
   have hlk := UB HL k hlt
   clear hc0 hLi
   have HO := UC ho
   clear ho
   generalize hlab : n.getD k [] = lab at *
   have HLAB := UC hlab
   clear hlab
   go_wp2_with fail
   refine (toByteS_any ia ic lab _ hLi' hlk).mono ?_
   rintro e w1 ⟨u, rfl, ou, b1⟩
   obtain ⟨ua, uc, rfl, _⟩ := ou.lies
   have hsz : w.heap.size < wr.heap.size := (World.ownsRow.lt (UB HO) w.heap.size rfl).2
   have ho1 := World.ownsRow.kept (UB HO) (grown_of_below b1) (.inr (by simp [Value.ownBlock]))
   have hxl : xs.length = m := by have := ho1.1; simpa using this
   have hf := World.ownsRow.frozenAt ho1 k
   have hcell : ∃ y, w1.cell? ⟨w.heap.size, k, none⟩ = some y := by
    rw [World.ownsRow.cellAt ho1 k (by omega), List.getElem?_eq_getElem (by omega)]; exact ⟨_, rfl⟩
   obtain ⟨y, hcy⟩ := hcell
   have hst := UC (World.ownsRow.stored ho1 k (.slice ua lab.length uc))
   have HO1 := UC ho1
   clear ho1
   go_wp2
   have hst1 := (UB hst).1
   have hst2 := (UB hst).2
   have hxl' : k < xs.length := by omega
   refine ⟨⟨k + 1, xs.set k (.slice ua lab.length uc), by omega, by go_num, hst1, UC ?_, UC ?_, ?_⟩, by simp [intOf]; omega⟩
   ·intro j hj
    by_cases e : j = k
    ·subst e
     refine ⟨.slice ua lab.length uc, by simp [hxl'], ?_⟩
     rw [UB HLAB]
     refine (ou.mono (by omega)).kept hst2 ?_
     cases hu : (Value.slice ua lab.length uc).ownBlock with
     | none => exact .inl rfl
     | some q =>
      right
      have := (ou.lt q hu).1
      intro hq
      simp at hq
      omega
    ·obtain ⟨u', h1, h2⟩ := UB hown j (by omega)
     refine ⟨u', by rw [List.getElem?_set_ne (by omega)]; exact h1, ?_⟩
     refine (h2.below b1).kept hst2 ?_
     cases hu : u'.ownBlock with
     | none => exact .inl rfl
     | some q =>
      right
      have := (h2.lt q hu).1
      intro hq
      simp at hq
      omega
   ·intro i j p p' hij hj hp hp'
    rw [List.getElem?_set_ne (by omega)] at hp
    by_cases e : j = k
    ·subst e
     rw [List.getElem?_set_self hxl'] at hp'
     obtain rfl : Value.slice ua lab.length uc = p' := by simpa using hp'
     obtain ⟨u', h1, h2⟩ := UB hown i hij
     rw [hp] at h1
     obtain rfl : p = u' := by simpa using h1
     cases hq : p.ownBlock with
     | none => exact .inl rfl
     | some q =>
      right
      intro hq'
      have h3 := (h2.lt q hq).2
      have h4 := (ou.lt q hq'.symm).1
      omega
    ·rw [List.getElem?_set_ne (by omega)] at hp'
     exact UB hdis i j p p' hij (by omega) hp hp'
   ·exact ((UG hb b1).grown hst2 (UG hb b1).size (fun q hq => by simp at hq; omega))
  ·obtain rfl : k = m := by omega
   go_wp2
   go_ret
   refine ⟨_, rfl, ⟨xs, by rw [UB HN]; exact ho, fun i hi => ?_, fun i j u u' hij hu hu' => ?_⟩, hb⟩
   ·obtain ⟨u, h1, h2⟩ := UB hown i (by rw [← UB HN]; exact hi)
    exact ⟨u, h1, h2.mono (by omega)⟩
   ·have hxl : xs.length = k := by have := ho.1; simpa using this
    exact UB hdis i j u u' hij (by rw [← hxl]; exact (List.getElem?_eq_some_iff.1 hu').1) hu hu'

theorem toName_any (a : Option Addr) (cap : Nat) (n : List (List Int)) (w : World) (h : LiesL w a n) (hl : n.length ≤ 1048576) (hl2 : ∀ i, i < n.length → (n.getD i []).length ≤ 1048576) :
  Calls Tryz.prog 19 #[.agg #[.slice a n.length cap]] w fun e w' => ∃ v, e = .returned (.agg #[v]) ∧ OwnL w.heap.size 56 5 w' v n ∧ Below w.heap.size w w' := by
 have hb3 : Below w.heap.size w (((w.alloc (.cells #[.slice a n.length cap] 43)).alloc (.cells #[.slice none 0 0] 46)).alloc (.cells #[.slice none 0 0] 46)) :=
  ((UI _).alloc (UI _).size _).alloc ((UI _).alloc (UI _).size _).size _
 have hA := UC (h.below hb3)
 have HL2 := UC hl2
 clear hl2
 have HH := UC h
 clear h
 go_enter Tryz.func19, Tryz.ntmps19
 go_wp2_with fail
 refine (toByteSS_any a cap n _ (UB hA) hl (UB HL2)).mono ?_
 rintro e w1 ⟨v, rfl, o1, b1⟩
 have b2 := UG hb3 b1
 obtain ⟨hsz, h1, h2⟩ := box3 w (.cells #[.slice a n.length cap] 43) #[.slice none 0 0] #[.slice none 0 0] 46 46
 have k1 := (b1.block _ (by rw [hsz]; omega)).trans h1
 have k2 := (b1.block _ (by rw [hsz]; omega)).trans h2
 obtain ⟨va, vc, rfl, _⟩ := o1.hasL.form
 have o2 := UC o1
 clear o1
 have c2 := VE k2 0
 have c1 := VE k1 0
 have f2 := VG k2 0
 have f1 := VG k1 0
 have m2 := block_set k2 (.slice va n.length vc)
 have m1 := block_set (block_other k1 (b' := w.heap.size + 1 + 1) (by omega) 0 (.slice va n.length vc)) (.slice va n.length vc)
 have d2 := VE m2 0
 have d1 := VE (block_other k1 (b' := w.heap.size + 1 + 1) (by omega) 0 (.slice va n.length vc)) 0
 have g1 := VG (block_other k1 (b' := w.heap.size + 1 + 1) (by omega) 0 (.slice va n.length vc)) 0
 simp only [List.getElem?_toArray, List.getElem?_cons_zero] at c1 c2 d1 d2
 have M1 := UC m1
 clear m1 m2 k1 k2 h1 h2
 have B1 := UC b1
 clear b1
 have HSZ := UC hsz
 clear hsz hb3
 go_wp2
 refine bodyPost_ret (results_cell_row rfl _ _ (w.heap.size + 1) 46 #[.slice va n.length vc] (0, 0) _ rfl (UB M1) Tryz.underlying46 rfl (by kernel_rfl)) rfl ?_
 refine ⟨_, rfl, ?_, (b2.setCell (by show w.heap.size ≤ w.heap.size + 1 + 1; omega) _).setCell (by show w.heap.size ≤ w.heap.size + 1; omega) _⟩
 have o3 := UB o2
 rw [UB HSZ] at o3
 exact ((o3.kept (grown_setCell _ _ _) (by show w.heap.size + 1 + 1 < _; omega)).kept (grown_setCell _ _ _) (by show w.heap.size + 1 < _; omega)).mono (by omega)

theorem Has.draws {w : World} {v : Value} {l : List Int} (h : Has w v l) (n : Nat) : Has (w.drewN n) v l := h.below (below_draws n)

theorem eqByteS_has {v v' : Value} {l : List Int} {w : World} (h : Has w v l) (h' : Has w v' l) (hl : l.length ≤ 2097152) :
  Calls Tryz.prog 87 #[v, v'] w fun e w' => e = .returned (.bool true) ∧ ∃ n, w' = w.drewN n := by
 obtain ⟨a, cap, rfl, hL⟩ := h.form
 obtain ⟨a', cap', rfl, hL'⟩ := h'.form
 exact eqByteS_eq a a' cap cap' l w hL hL' hl

theorem eqByteSS_has {v v' : Value} {n : List (List Int)} {w : World} (h : HasL w v n) (h' : HasL w v' n) (hl2 : ∀ i, i < n.length → (n.getD i []).length ≤ 2097152) :
  Calls Tryz.prog 55 #[v, v'] w fun e w' => e = .returned (.bool true) ∧ ∃ n, w' = w.drewN n := by
 obtain ⟨a, cap, rfl, hl, hm⟩ := h.form
 obtain ⟨a', cap', rfl, hl', hm'⟩ := h'.form
 unfold maxLen at hm hm'
 have HL := UC hl2
 clear hl2
 generalize hn : n.length = m at *
 have HN := UC hn
 clear hn
 go_enter Tryz.func55, Tryz.ntmps55
 go_wp2
 go_loopw [5] (fun i wr => ∃ k : Nat, k ≤ m ∧ i = .int .i64 k ∧ ∃ q, wr = w.drewN q) (fun i _ => m - (intOf i).toNat)
 case atStart => exact ⟨0, Nat.zero_le _, rfl, 0, rfl⟩
 case round =>
  obtain ⟨k, hk, rfl, q, hq⟩ := hrel
  have hwr : Below w.heap.size w wr := by rw [hq]; exact below_draws q
  have HQ := UC hq
  clear hq
  by_cases hlt : k < m
  ·obtain ⟨b, off, u, rfl, hbl, hc, hu⟩ := (h.below hwr).here (k := k) (by rw [UB HN]; exact hlt)
   obtain ⟨b', off', u', rfl, hbl', hc', hu'⟩ := (h'.below hwr).here (k := k) (by rw [UB HN]; exact hlt)
   have hlk := UB HL k hlt
   generalize n.getD k [] = lab at *
   have HU := UC hu
   have HU' := UC hu'
   obtain ⟨ua, uc, rfl, _⟩ := hu.form
   obtain ⟨ua', uc', rfl, _⟩ := hu'.form
   clear hu hu'
   go_wp2
   go_quiet (first | (exact Calls.quiet_of (v := .bool true) (eqByteS_has ((UB HU).draws _) ((UB HU').draws _) hlk)))
   go_wp2
   exact ⟨⟨k + 1, by omega, by go_num, q + nq, by rw [UB HQ, World.drewN_drewN]⟩, by simp [intOf]; omega⟩
  ·go_wp2
   go_ret
   exact ⟨rfl, q, UB HQ⟩

theorem eqName_has {v v' : Value} {n : List (List Int)} {w : World} (h : HasL w v n) (h' : HasL w v' n) (hl2 : ∀ i, i < n.length → (n.getD i []).length ≤ 2097152) :
  Calls Tryz.prog 21 #[.agg #[v], .agg #[v']] w fun e w' => e = .returned (.bool true) ∧ Below w.heap.size w w' := by
 have hb2 : Below w.heap.size w ((w.alloc (.cells #[v] 46)).alloc (.cells #[v'] 46)) := (UI _).alloc (UI _).size _
 have hc := UC (eqByteSS_has (h.below hb2) (h'.below hb2) hl2)
 have HL := UC hl2
 clear hl2
 obtain ⟨a, cap, rfl, _⟩ := h.form
 obtain ⟨a', cap', rfl, _⟩ := h'.form
 have H := UC h
 have H' := UC h'
 clear h h'
 go_enter Tryz.func21, Tryz.ntmps21
 go_wp2_with fail
 refine (UB hc).mono ?_
 rintro e w1 ⟨rfl, q, rfl⟩
 go_wp2
 go_ret
 exact ⟨rfl, UG hb2 (below_draws q)⟩
end Go.Proofs.YtaehfeobfkaicaaGreat
