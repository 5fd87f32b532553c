/-
  Contracts of the byte helpers of the laws (toByteS, eqByteS): what each answers and what it leaves in memory, for every slice of at most 1048576 bytes. Contracts of the name helpers of the laws (szName, toName, eqName): what each answers and what it leaves in memory. Plain facts: lists of texts of the call's own: one more behind, two joined, a part. No program is named here. Contracts of the helpers of the laws for records (szRr, eqRr).
-/
import Derived.Test.YtfbfakdkemlbmaaGreatTxnBytesG04
import Derived.Test.YtfbfakdkemlbmaaGreatTxnBytesG00
import Derived.Test.YtfbfakdkemlbmaaGreatTxnBytesG01
import Derived.Laws.ResultCell
import Derived.Laws.Rows
import Derived.Test.YtfbfakdkemlbmaaGreatTxnBytesG02
import Derived.Test.YtfbfakdkemlbmaaGreatTxnBytesG06
namespace Go.Proofs.YtfbfakdkemlbmaaGreat
open Go.RowKit
set_option linter.unusedVariables false

set_option maxHeartbeats 400000 in
set_option maxRecDepth 100000 in
theorem toByteS_row (a : Option Addr) (cap : Nat) (l : List Int) (w : World) (h : Lies w a l) (hl : l.length ≤ 1048576) :
  Calls Tryz.prog 18 #[.slice a l.length cap] w fun e w' => e = .returned (.slice (some ⟨w.heap.size, 0, none⟩) l.length l.length) ∧
   w'.rowIs w.heap.size 5 l.length (fun i => .int .u8 (l.getD i 0)) ∧ Below w.heap.size w w' := by
 have hmk := run_make_row' (P := Tryz.prog) 27 5 (.int .u8 0) 1 Tryz.underlying27 info_u8 rfl .i64 .i64 l.length (by omega) (by omega)
 generalize hn : l.length = n at *
 have HN := hide hn
 clear hn
 go_enter Tryz.func18, Tryz.ntmps18
 go_wp2
 go_loopw [4] (fun i wr => ∃ k : Nat, k ≤ n ∧ i = .int .i64 k ∧ wr.rowIs w.heap.size 5 n (fun j => if j < k then .int .u8 (l.getD j 0) else .int .u8 0) ∧ Below w.heap.size w wr) (fun i _ => n - (intOf i).toNat)
 case atStart => exact ⟨0, Nat.zero_le _, rfl, by simpa using World.rowIs_made w _ n 5, (Below.refl _ _).alloc (Nat.le_refl _) _⟩
 case round =>
  obtain ⟨k, hk, rfl, hr, hb⟩ := hrel
  by_cases hlt : k < n
  ·obtain ⟨b, off, rfl, hbl, hc⟩ := h.cell hb (k := k) (by rw [unhide HN]; exact hlt)
   have hc2 := hr.cell hlt
   simp only [Nat.lt_irrefl, if_false] at hc2
   have hf2 := hr.frozen k
   have HR := hide hr
   clear hr
   go_wp2
   go_roundw
   case rel =>
    refine ⟨k + 1, by omega, by go_num, ?_, hb.setCell (Nat.le_refl _) _⟩
    refine ((unhide HR).set k _).congr fun j hj => ?_
    by_cases e : j = k
    ·subst e; simp
    ·have : j < k + 1 ↔ j < k := by omega
     simp [e, this]
   case measure => simp [intOf]; omega
  ·go_wp2
   go_ret
   obtain rfl : k = n := by omega
   refine ⟨rfl, hr.congr fun j hj => by simp [hj], hb⟩

theorem toByteS_any (a : Option Addr) (cap : Nat) (l : List Int) (w : World) (h : Lies w a l) (hl : l.length ≤ 1048576) :
  Calls Tryz.prog 18 #[.slice a l.length cap] w fun e w' => ∃ v, e = .returned v ∧ Own w.heap.size 5 w' v l ∧ Below w.heap.size w w' :=
 (toByteS_row a cap l w h hl).mono fun e w' ⟨he, hr, hb⟩ => ⟨_, he, Own.ofRow hr (Nat.le_refl _) (by unfold maxLen; omega), hb⟩

set_option maxHeartbeats 400000 in
set_option maxRecDepth 100000 in
theorem eqByteS_eq (a a' : Option Addr) (cap cap' : Nat) (l : List Int) (w : World) (h : Lies w a l) (h' : Lies w a' l) (hl : l.length ≤ 2097152) :
  Calls Tryz.prog 8 #[.slice a l.length cap, .slice a' l.length cap'] w fun e w' => e = .returned (.bool true) ∧ ∃ n, w' = w.drewN n := by
 generalize hn : l.length = n at *
 have HN := hide hn
 clear hn
 go_enter Tryz.func8, Tryz.ntmps8
 go_wp2
 go_loopw [5] (fun i wr => ∃ k : Nat, k ≤ n ∧ i = .int .i64 k ∧ ∃ m, wr = w.drewN m) (fun i _ => n - (intOf i).toNat)
 case atStart => exact ⟨0, Nat.zero_le _, rfl, 0, rfl⟩
 case round =>
  obtain ⟨k, hk, rfl, m, rfl⟩ := hrel
  by_cases hlt : k < n
  ·obtain ⟨b, off, rfl, hbl, hc⟩ := h.here (k := k) (by rw [unhide HN]; exact hlt)
   obtain ⟨b', off', rfl, hbl', hc'⟩ := h'.here (k := k) (by rw [unhide HN]; exact hlt)
   go_wp2
   go_quiet (fail)
   go_wp2
   exact ⟨⟨k + 1, by omega, by go_num, _, rfl⟩, by simp [intOf]; omega⟩
  ·go_wp2
   go_ret
   exact ⟨rfl, m, rfl⟩

end Go.Proofs.YtfbfakdkemlbmaaGreat

namespace Go.Proofs.YtfbfakdkemlbmaaGreat
open Go.RowKit
set_option linter.unusedVariables false

theorem info_bs : (Tryz.prog.info? 27).map (fun i => (i.zero, i.size, i.bytes)) = some (some (.slice none 0 0), 1, 24) := by kernel_rfl

set_option maxHeartbeats 400000 in
set_option maxRecDepth 100000 in
theorem szByteS_any (a : Option Addr) (len cap : Nat) (left : Int) (w : World) (hm : len ≤ maxLen) (h0 : 0 ≤ left) (h1 : left ≤ 1048576) :
  Calls Tryz.prog 14 #[.slice a len cap, .int .i64 left] w fun e w' => e = .returned (.int .i64 (if (len : Int) ≤ left then left - len else -1)) ∧ w = w' := by
 unfold maxLen at hm
 by_cases h : (len : Int) ≤ left
 ·rw [if_pos h]
  go_enter Tryz.func14, Tryz.ntmps14
  go_wp2
  go_ret
  exact ⟨rfl, rfl⟩
 ·rw [if_neg h]
  go_enter Tryz.func14, Tryz.ntmps14
  go_wp2
  go_ret
  exact ⟨rfl, rfl⟩

set_option maxHeartbeats 400000 in
set_option maxRecDepth 100000 in
theorem szByteSS_any (a : Option Addr) (cap : Nat) (n : List (List Int)) (left : Int) (w : World) (h : LiesL w a n) (hm : n.length ≤ maxLen) (hm2 : ∀ i, i < n.length → (n.getD i []).length ≤ maxLen) (h0 : 0 ≤ left) (h1 : left ≤ 1048576) :
  Calls Tryz.prog 72 #[.slice a n.length cap, .int .i64 left] w fun e w' => (∃ r : Int, e = .returned (.int .i64 r) ∧ -1 ≤ r ∧ r ≤ left ∧ (0 ≤ r → (n.length : Int) ≤ left ∧ ∀ i, i < n.length → ((n.getD i []).length : Int) ≤ left)) ∧ w = w' := by
 generalize hn : n.length = m at *
 have HN := hide hn
 clear hn
 have HM := hide hm2
 clear hm2
 unfold maxLen at hm
 by_cases hlen : (m : Int) ≤ left
 ·go_enter Tryz.func72, Tryz.ntmps72
  go_wp2
  go_loop [1, 5] (fun r i => ∃ (k : Nat) (x : Int), k ≤ m ∧ i = .int .i64 k ∧ r = .int .i64 x ∧ 0 ≤ x ∧ x ≤ left ∧ Hid (∀ j, j < k → ((n.getD j []).length : Int) ≤ left)) (fun _ i => m - (intOf i).toNat)
  case atStart => exact ⟨0, left - m, Nat.zero_le _, rfl, rfl, by omega, by omega, hide (fun j hj => absurd hj (Nat.not_lt_zero _))⟩
  case round =>
   obtain ⟨k, x, hk, rfl, rfl, hx0, hx1, hall⟩ := hrel
   by_cases hlt : k < m
   ·obtain ⟨b, off, ia, ic, rfl, hbl, hc, hLi⟩ := h.here (k := k) (by rw [unhide HN]; exact hlt)
    have hmk := unhide HM k hlt
    have hone := hide (fun (hs : ((n.getD k []).length : Int) ≤ left) => (show ∀ j, j < k + 1 → ((n.getD j []).length : Int) ≤ left from fun j hj => by
      by_cases e : j = k
      ·subst e; exact hs
      ·exact unhide hall j (by omega)))
    generalize (n.getD k []).length = lk at *
    go_wp2_with fail
    refine (szByteS_any ia lk ic x _ hmk hx0 (by omega)).mono ?_
    rintro e w1 ⟨rfl, rfl⟩
    by_cases hle : (lk : Int) ≤ x
    ·rw [if_pos hle]
     have hy : 0 ≤ x - lk := by omega
     go_wp2
     exact ⟨⟨k + 1, x - lk, by omega, by go_num, rfl, by omega, by omega, hide (unhide hone (by omega))⟩, by simp [intOf]; omega⟩
    ·rw [if_neg hle]
     go_wp2
     go_ret
     exact ⟨⟨-1, rfl, by omega, by omega, fun hneg => by omega⟩, rfl⟩
   ·obtain rfl : k = m := by omega
    go_wp2
    go_ret
    exact ⟨⟨x, rfl, by omega, hx1, fun _ => by first | exact ⟨hlen, unhide hall⟩ | (have hq := unhide hall; simpa using hq)⟩, rfl⟩
 ·go_enter Tryz.func72, Tryz.ntmps72
  go_wp2
  go_ret
  exact ⟨⟨-1, rfl, by omega, by omega, fun hneg => by omega⟩, rfl⟩

set_option maxHeartbeats 400000 in
set_option maxRecDepth 100000 in
theorem szName_any (a : Option Addr) (cap : Nat) (n : List (List Int)) (left : Int) (w : World) (h : LiesL w a n) (hm : n.length ≤ maxLen) (hm2 : ∀ i, i < n.length → (n.getD i []).length ≤ maxLen) (h0 : 0 ≤ left) (h1 : left ≤ 1048576) :
  Calls Tryz.prog 61 #[.agg #[.slice a n.length cap], .int .i64 left] w fun e w' => (∃ r : Int, e = .returned (.int .i64 r) ∧ -1 ≤ r ∧ r ≤ left ∧ (0 ≤ r → (n.length : Int) ≤ left ∧ ∀ i, i < n.length → ((n.getD i []).length : Int) ≤ left)) ∧ Below w.heap.size w w' := by
 have hA := h.below (below_alloc (.cells #[.slice a n.length cap] 88))
 have hsz := hide (szByteSS_any a cap n left _ hA hm hm2 h0 h1)
 generalize hn : n.length = m at *
 have HN := hide hn
 clear hn
 have HM := hide hm2
 clear hm2
 go_enter Tryz.func61, Tryz.ntmps61
 go_wp2_with fail
 refine (unhide hsz).mono ?_
 rintro e w1 ⟨⟨r, rfl, hr0, hr1, hr2⟩, rfl⟩
 have HR := hide hr2
 clear hr2
 by_cases hneg : r < 0
 ·go_wp2
  go_ret
  exact ⟨⟨-1, rfl, by omega, by omega, fun hneg => by omega⟩, below_alloc _⟩
 ·go_wp2
  go_ret
  exact ⟨⟨r, rfl, hr0, hr1, unhide HR⟩, below_alloc _⟩

set_option maxHeartbeats 400000 in
set_option maxRecDepth 100000 in
theorem toByteSS_any (a : Option Addr) (cap : Nat) (n : List (List Int)) (w : World) (h : LiesL w a n) (hl : n.length ≤ 1048576) (hl2 : ∀ i, i < n.length → (n.getD i []).length ≤ 1048576) :
  Calls Tryz.prog 77 #[.slice a n.length cap] w fun e w' => ∃ v, e = .returned v ∧ OwnL w.heap.size 27 5 w' v n ∧ Below w.heap.size w w' := by
 have hmk := run_make_row' (P := Tryz.prog) 86 27 (.slice none 0 0) 24 Tryz.underlying86 info_bs rfl .i64 .i64 n.length (by omega) (by omega)
 generalize hn : n.length = m at *
 have HN := hide hn
 clear hn
 have HL := hide hl2
 clear hl2
 go_enter Tryz.func77, Tryz.ntmps77
 go_wp2
 go_loopw [4] (fun i wr => ∃ (k : Nat) (xs : List Value), k ≤ m ∧ i = .int .i64 k ∧ wr.ownsRow w.heap.size 27 1 (.slice (some ⟨w.heap.size, 0, none⟩) m m) m xs ∧ Hid (∀ j, j < k → ∃ u, xs[j]? = some u ∧ Own (w.heap.size + 1) 5 wr u (n.getD j [])) ∧
   Hid (∀ (i j : Nat) (u u' : Value), i < j → j < k → xs[i]? = some u → xs[j]? = some u' → u.ownBlock = none ∨ u.ownBlock ≠ u'.ownBlock) ∧ Below w.heap.size w wr) (fun i _ => m - (intOf i).toNat)
 case atStart => exact ⟨0, _, Nat.zero_le _, rfl, ownsRow_of_rowIs (World.rowIs_made w _ m 27) (Nat.le_refl _) (by unfold maxLen; omega), hide (fun j hj => absurd hj (Nat.not_lt_zero _)), hide (fun i j u u' _ hj => absurd hj (Nat.not_lt_zero _)), below_alloc _⟩
 case round =>
  obtain ⟨k, xs, hk, rfl, ho, hown, hdis, hb⟩ := hrel
  by_cases hlt : k < m
  ·obtain ⟨b, off, ia, ic, rfl, hbl, hc0, hLi⟩ := h.here (k := k) (by rw [unhide HN]; exact hlt)
   have hc := (hb.cell (p := ⟨b, off + k, none⟩) hbl).trans hc0
   have hLi' := hLi.below hb
   have hlk := unhide HL k hlt
   clear hc0 hLi
   have HO := hide ho
   clear ho
   generalize hlab : n.getD k [] = lab at *
   have HLAB := hide hlab
   clear hlab
   go_wp2_with fail
   refine (toByteS_any ia ic lab _ hLi' hlk).mono ?_
   rintro e w1 ⟨u, rfl, ou, b1⟩
   obtain ⟨ua, uc, rfl, _⟩ := ou.lies
   have hsz : w.heap.size < wr.heap.size := (World.ownsRow.lt (unhide HO) w.heap.size rfl).2
   have ho1 := World.ownsRow.kept (unhide HO) (grown_of_below b1) (.inr (by simp [Value.ownBlock]))
   have hxl : xs.length = m := by have := ho1.1; simpa using this
   have hf := World.ownsRow.frozenAt ho1 k
   have hcell : ∃ y, w1.cell? ⟨w.heap.size, k, none⟩ = some y := by
    rw [World.ownsRow.cellAt ho1 k (by omega), List.getElem?_eq_getElem (by omega)]; exact ⟨_, rfl⟩
   obtain ⟨y, hcy⟩ := hcell
   have hst := hide (World.ownsRow.stored ho1 k (.slice ua lab.length uc))
   have HO1 := hide ho1
   clear ho1
   go_wp2
   have hst1 := (unhide hst).1
   have hst2 := (unhide hst).2
   have hxl' : k < xs.length := by omega
   refine ⟨⟨k + 1, xs.set k (.slice ua lab.length uc), by omega, by go_num, hst1, hide ?_, hide ?_, ?_⟩, by simp [intOf]; omega⟩
   ·intro j hj
    by_cases e : j = k
    ·subst e
     refine ⟨.slice ua lab.length uc, by simp [hxl'], ?_⟩
     rw [unhide HLAB]
     refine (ou.mono (by omega)).kept hst2 ?_
     cases hu : (Value.slice ua lab.length uc).ownBlock with
     | none => exact .inl rfl
     | some q =>
      right
      have := (ou.lt q hu).1
      intro hq
      simp at hq
      omega
    ·obtain ⟨u', h1, h2⟩ := unhide hown j (by omega)
     refine ⟨u', by rw [List.getElem?_set_ne (by omega)]; exact h1, ?_⟩
     refine (h2.below b1).kept hst2 ?_
     cases hu : u'.ownBlock with
     | none => exact .inl rfl
     | some q =>
      right
      have := (h2.lt q hu).1
      intro hq
      simp at hq
      omega
   ·intro i j p p' hij hj hp hp'
    rw [List.getElem?_set_ne (by omega)] at hp
    by_cases e : j = k
    ·subst e
     rw [List.getElem?_set_self hxl'] at hp'
     obtain rfl : Value.slice ua lab.length uc = p' := by simpa using hp'
     obtain ⟨u', h1, h2⟩ := unhide hown i hij
     rw [hp] at h1
     obtain rfl : p = u' := by simpa using h1
     cases hq : p.ownBlock with
     | none => exact .inl rfl
     | some q =>
      right
      intro hq'
      have h3 := (h2.lt q hq).2
      have h4 := (ou.lt q hq'.symm).1
      omega
    ·rw [List.getElem?_set_ne (by omega)] at hp'
     exact unhide hdis i j p p' hij (by omega) hp hp'
   ·exact ((below_next hb b1).grown hst2 (below_next hb b1).size (fun q hq => by simp at hq; omega))
  ·obtain rfl : k = m := by omega
   go_wp2
   go_ret
   refine ⟨_, rfl, ⟨xs, by rw [unhide HN]; exact ho, fun i hi => ?_, fun i j u u' hij hu hu' => ?_⟩, hb⟩
   ·obtain ⟨u, h1, h2⟩ := unhide hown i (by rw [← unhide HN]; exact hi)
    exact ⟨u, h1, h2.mono (by omega)⟩
   ·have hxl : xs.length = k := by have := ho.1; simpa using this
    exact unhide hdis i j u u' hij (by rw [← hxl]; exact (List.getElem?_eq_some_iff.1 hu').1) hu hu'

set_option maxHeartbeats 400000 in
set_option maxRecDepth 100000 in
theorem toName_any (a : Option Addr) (cap : Nat) (n : List (List Int)) (w : World) (h : LiesL w a n) (hl : n.length ≤ 1048576) (hl2 : ∀ i, i < n.length → (n.getD i []).length ≤ 1048576) :
  Calls Tryz.prog 68 #[.agg #[.slice a n.length cap]] w fun e w' => ∃ v, e = .returned (.agg #[v]) ∧ OwnL w.heap.size 27 5 w' v n ∧ Below w.heap.size w w' := by
 have hb3 : Below w.heap.size w (((w.alloc (.cells #[.slice a n.length cap] 88)).alloc (.cells #[.slice none 0 0] 100)).alloc (.cells #[.slice none 0 0] 100)) :=
  ((below_alloc _).alloc (below_alloc _).size _).alloc ((below_alloc _).alloc (below_alloc _).size _).size _
 have hA := hide (h.below hb3)
 have HL2 := hide hl2
 clear hl2
 have HH := hide h
 clear h
 go_enter Tryz.func68, Tryz.ntmps68
 go_wp2_with fail
 refine (toByteSS_any a cap n _ (unhide hA) hl (unhide HL2)).mono ?_
 rintro e w1 ⟨v, rfl, o1, b1⟩
 have b2 := below_next hb3 b1
 obtain ⟨hsz, h1, h2⟩ := box3 w (.cells #[.slice a n.length cap] 88) #[.slice none 0 0] #[.slice none 0 0] 100 100
 have k1 := (b1.block _ (by rw [hsz]; omega)).trans h1
 have k2 := (b1.block _ (by rw [hsz]; omega)).trans h2
 obtain ⟨va, vc, rfl, _⟩ := o1.hasL.form
 have o2 := hide o1
 clear o1
 have c2 := block_cell k2 0
 have c1 := block_cell k1 0
 have f2 := block_frozen k2 0
 have f1 := block_frozen k1 0
 have m2 := block_set k2 (.slice va n.length vc)
 have m1 := block_set (block_other k1 (b' := w.heap.size + 1 + 1) (by omega) 0 (.slice va n.length vc)) (.slice va n.length vc)
 have d2 := block_cell m2 0
 have d1 := block_cell (block_other k1 (b' := w.heap.size + 1 + 1) (by omega) 0 (.slice va n.length vc)) 0
 have g1 := block_frozen (block_other k1 (b' := w.heap.size + 1 + 1) (by omega) 0 (.slice va n.length vc)) 0
 simp only [List.getElem?_toArray, List.getElem?_cons_zero] at c1 c2 d1 d2
 have M1 := hide m1
 clear m1 m2 k1 k2 h1 h2
 have B1 := hide b1
 clear b1
 have HSZ := hide hsz
 clear hsz hb3
 go_wp2
 refine bodyPost_ret (results_cell_row rfl _ _ (w.heap.size + 1) 100 #[.slice va n.length vc] (0, 0) _ rfl (unhide M1) Tryz.underlying100 rfl (by kernel_rfl)) rfl ?_
 refine ⟨_, rfl, ?_, (b2.setCell (by show w.heap.size ≤ w.heap.size + 1 + 1; omega) _).setCell (by show w.heap.size ≤ w.heap.size + 1; omega) _⟩
 have o3 := unhide o2
 rw [unhide HSZ] at o3
 exact ((o3.kept (grown_setCell _ _ _) (by show w.heap.size + 1 + 1 < _; omega)).kept (grown_setCell _ _ _) (by show w.heap.size + 1 < _; omega)).mono (by omega)

theorem Has.draws {w : World} {v : Value} {l : List Int} (h : Has w v l) (n : Nat) : Has (w.drewN n) v l := h.below (below_draws n)

theorem eqByteS_has {v v' : Value} {l : List Int} {w : World} (h : Has w v l) (h' : Has w v' l) (hl : l.length ≤ 2097152) :
  Calls Tryz.prog 8 #[v, v'] w fun e w' => e = .returned (.bool true) ∧ ∃ n, w' = w.drewN n := by
 obtain ⟨a, cap, rfl, hL⟩ := h.form
 obtain ⟨a', cap', rfl, hL'⟩ := h'.form
 exact eqByteS_eq a a' cap cap' l w hL hL' hl

set_option maxHeartbeats 400000 in
set_option maxRecDepth 100000 in
theorem eqByteSS_has {v v' : Value} {n : List (List Int)} {w : World} (h : HasL w v n) (h' : HasL w v' n) (hl2 : ∀ i, i < n.length → (n.getD i []).length ≤ 2097152) :
  Calls Tryz.prog 78 #[v, v'] w fun e w' => e = .returned (.bool true) ∧ ∃ n, w' = w.drewN n := by
 obtain ⟨a, cap, rfl, hl, hm⟩ := h.form
 obtain ⟨a', cap', rfl, hl', hm'⟩ := h'.form
 unfold maxLen at hm hm'
 have HL := hide hl2
 clear hl2
 generalize hn : n.length = m at *
 have HN := hide hn
 clear hn
 go_enter Tryz.func78, Tryz.ntmps78
 go_wp2
 go_loopw [5] (fun i wr => ∃ k : Nat, k ≤ m ∧ i = .int .i64 k ∧ ∃ q, wr = w.drewN q) (fun i _ => m - (intOf i).toNat)
 case atStart => exact ⟨0, Nat.zero_le _, rfl, 0, rfl⟩
 case round =>
  obtain ⟨k, hk, rfl, q, hq⟩ := hrel
  have hwr : Below w.heap.size w wr := by rw [hq]; exact below_draws q
  have HQ := hide hq
  clear hq
  by_cases hlt : k < m
  ·obtain ⟨b, off, u, rfl, hbl, hc, hu⟩ := (h.below hwr).here (k := k) (by rw [unhide HN]; exact hlt)
   obtain ⟨b', off', u', rfl, hbl', hc', hu'⟩ := (h'.below hwr).here (k := k) (by rw [unhide HN]; exact hlt)
   have hlk := unhide HL k hlt
   generalize n.getD k [] = lab at *
   have HU := hide hu
   have HU' := hide hu'
   obtain ⟨ua, uc, rfl, _⟩ := hu.form
   obtain ⟨ua', uc', rfl, _⟩ := hu'.form
   clear hu hu'
   go_wp2
   go_quiet (first | (exact Calls.quiet_of (v := .bool true) (eqByteS_has ((unhide HU).draws _) ((unhide HU').draws _) hlk)))
   go_wp2
   exact ⟨⟨k + 1, by omega, by go_num, q + nq, by rw [unhide HQ, World.drewN_drewN]⟩, by simp [intOf]; omega⟩
  ·go_wp2
   go_ret
   exact ⟨rfl, q, unhide HQ⟩

set_option maxHeartbeats 400000 in
set_option maxRecDepth 100000 in
theorem eqName_has {v v' : Value} {n : List (List Int)} {w : World} (h : HasL w v n) (h' : HasL w v' n) (hl2 : ∀ i, i < n.length → (n.getD i []).length ≤ 2097152) :
  Calls Tryz.prog 70 #[.agg #[v], .agg #[v']] w fun e w' => e = .returned (.bool true) ∧ Below w.heap.size w w' := by
 have hb2 : Below w.heap.size w ((w.alloc (.cells #[v] 100)).alloc (.cells #[v'] 100)) := (below_alloc _).alloc (below_alloc _).size _
 have hc := hide (eqByteSS_has (h.below hb2) (h'.below hb2) hl2)
 have HL := hide hl2
 clear hl2
 obtain ⟨a, cap, rfl, _⟩ := h.form
 obtain ⟨a', cap', rfl, _⟩ := h'.form
 have H := hide h
 have H' := hide h'
 clear h h'
 go_enter Tryz.func70, Tryz.ntmps70
 go_wp2_with fail
 refine (unhide hc).mono ?_
 rintro e w1 ⟨rfl, q, rfl⟩
 go_wp2
 go_ret
 exact ⟨rfl, below_next hb2 (below_draws q)⟩
end Go.Proofs.YtfbfakdkemlbmaaGreat

namespace Go.Proofs.YtfbfakdkemlbmaaGreat
open Go.RowKit

/-- One more text behind an own list of texts. -/
theorem OwnL.snoc {B : Nat} {el eb : TypeId} {w w' : World} {v v' u : Value} {n : List (List Int)} {l : List Int} {vs : List Value} (ho : w.ownsRow B el 1 v n.length vs)
  (hu : ∀ i, i < n.length → ∃ x, vs[i]? = some x ∧ Own B eb w x (n.getD i [])) (hd : ∀ (i j : Nat) (x x' : Value), i < j → vs[i]? = some x → vs[j]? = some x' → x.ownBlock = none ∨ x.ownBlock ≠ x'.ownBlock)
  (hul : Own B eb w u l) (hnew : ∀ (i : Nat) (x : Value), vs[i]? = some x → x.ownBlock = none ∨ x.ownBlock ≠ u.ownBlock)
  (ho' : w'.ownsRow B el 1 v' (n.length + 1) (vs ++ [u])) (hg : w.grownBy w' v.ownBlock) (hne : el ≠ eb) : OwnL B el eb w' v' (n ++ [l]) := by
 have hl : vs.length = n.length := by have := ho.1; simpa using this
 have apart : ∀ x m, Own B eb w x m → x.ownBlock = none ∨ x.ownBlock ≠ v.ownBlock := by
  intro x m hx
  rcases hx.2 with ⟨rfl, _⟩ | ⟨g, cap, cur, rfl, _, hgx, _⟩
  ·exact .inl rfl
  ·right
   intro e
   rcases ho.2 with ⟨rfl, _⟩ | ⟨g', cap', cur', rfl, _, hgv, _⟩
   ·simp [Value.ownBlock] at e
   ·simp [Value.ownBlock] at e
    subst e
    rw [hgx] at hgv
    simp at hgv
    exact hne hgv.2.symm
 refine ⟨vs ++ [u], by simpa using ho', fun i hi => ?_, fun i j x x' hij hx hx' => ?_⟩
 ·simp at hi
  by_cases e : i < n.length
  ·obtain ⟨x, h1, h2⟩ := hu i e
   refine ⟨x, by rw [List.getElem?_append_left (by omega)]; exact h1, ?_⟩
   have e2 : (n ++ [l]).getD i [] = n.getD i [] := by simp [List.getD, List.getElem?_append_left e]
   rw [e2]
   exact h2.kept hg (apart x _ h2)
  ·obtain rfl : i = n.length := by omega
   refine ⟨u, by rw [List.getElem?_append_right (by omega)]; simp [hl], ?_⟩
   have e2 : (n ++ [l]).getD n.length [] = l := by simp [List.getD]
   rw [e2]
   exact hul.kept hg (apart u _ hul)
 ·have hj : j < (vs ++ [u]).length := (List.getElem?_eq_some_iff.1 hx').1
  simp at hj
  rw [List.getElem?_append_left (by omega)] at hx
  by_cases e : j < vs.length
  ·rw [List.getElem?_append_left e] at hx'
   exact hd i j x x' hij hx hx'
  ·obtain rfl : j = vs.length := by omega
   rw [List.getElem?_append_right (by omega)] at hx'
   simp at hx'
   subst hx'
   exact hnew i x hx


/-- An append to a new empty row of bytes leaves what was there. -/
theorem lit_grown {w w' : World} {o : Obj} {n c : Nat} (g : (w.alloc o).grownBy w' (Value.slice (some ⟨w.heap.size, 0, none⟩) n c).ownBlock) : Below w.heap.size w w' :=
 (below_alloc o).grown g (below_alloc o).size (fun k hk => by simp [Value.ownBlock] at hk; omega)

/-- Two new blocks, as a function's box and its result lie. -/
theorem box2 (w : World) (o : Obj) (c2 : Array Value) (t2 : TypeId) :
  ((w.alloc o).alloc (.cells c2 t2)).heap.size = w.heap.size + 2 ∧ ((w.alloc o).alloc (.cells c2 t2)).heap[w.heap.size]? = some o ∧ ((w.alloc o).alloc (.cells c2 t2)).heap[w.heap.size + 1]? = some (.cells c2 t2) := by
 have e1 : (w.alloc o).heap.size = w.heap.size + 1 := by show (w.heap.push o).size = _; simp
 have e2 : ((w.alloc o).alloc (.cells c2 t2)).heap.size = w.heap.size + 1 + 1 := by rw [← e1]; show ((w.alloc o).heap.push _).size = _; simp
 refine ⟨e2, block_kept (below_alloc _) (heap_alloc_new w o), ?_⟩
 rw [← e1]; exact heap_alloc_new _ _
theorem below2 (w : World) (o o' : Obj) : Below w.heap.size w ((w.alloc o).alloc o') := (below_alloc _).alloc (below_alloc _).size _

end Go.Proofs.YtfbfakdkemlbmaaGreat

namespace Go.Proofs.YtfbfakdkemlbmaaGreat
open Go.RowKit
set_option linter.unusedVariables false

set_option maxHeartbeats 400000 in
set_option maxRecDepth 100000 in
theorem szIntS_any (a : Option Addr) (len cap : Nat) (left : Int) (w : World) (hm : len ≤ maxLen) (h0 : 0 ≤ left) (h1 : left ≤ 1048576) :
  Calls Tryz.prog 62 #[.slice a len cap, .int .i64 left] w fun e w' => e = .returned (.int .i64 (if (len : Int) ≤ left then left - len else -1)) ∧ w = w' := by
 unfold maxLen at hm
 by_cases h : (len : Int) ≤ left
 ·rw [if_pos h]
  have hy : 0 ≤ left - len := by omega
  go_enter Tryz.func62, Tryz.ntmps62
  go_wp2
  go_ret
  exact ⟨rfl, rfl⟩
 ·rw [if_neg h]
  have hy : left - len < 0 := by omega
  go_enter Tryz.func62, Tryz.ntmps62
  go_wp2
  go_ret
  exact ⟨rfl, rfl⟩

set_option maxHeartbeats 1000000 in
set_option maxRecDepth 100000 in
theorem szRr_any (an : Option Addr) (cn : Nat) (ato : Option Addr) (ct : Nat) (ax : Option Addr) (cx : Nat) (ai : Option Addr) (ci : Nat) (r : Rec) (left : Int) (w : World) (h : InR w an ato ax ai r) (hm : SizeR maxLen r) (h0 : 0 ≤ left) (h1 : left ≤ 1048576) :
  Calls Tryz.prog 45 #[(.agg #[.slice an r.name.length cn, .int .i64 r.type, .int .i64 r.ttl, .int .i64 r.addr, .slice ato r.to.length ct, .slice ax r.text.length cx, .slice ai r.nums.length ci]), .int .i64 left] w fun e w' => (∃ y : Int, e = .returned (.int .i64 y) ∧ -1 ≤ y ∧ y ≤ left ∧ (0 ≤ y → SizeR left.toNat r)) ∧ Below w.heap.size w w' := by
 have b0 := below_alloc (w := w) (.cells #[.slice an r.name.length cn, .int .i64 r.type, .int .i64 r.ttl, .int .i64 r.addr, .slice ato r.to.length ct, .slice ax r.text.length cx, .slice ai r.nums.length ci] 94)
 have k0 := heap_alloc_new w (.cells #[.slice an r.name.length cn, .int .i64 r.type, .int .i64 r.ttl, .int .i64 r.addr, .slice ato r.to.length ct, .slice ax r.text.length cx, .slice ai r.nums.length ci] 94)
 have I0 := hide (h.below b0)
 have HM := hide hm
 clear h hm
 have k0' := hide k0
 go_enter Tryz.func45, Tryz.ntmps45
 go_wp2_with fail
 generalize w.alloc (.cells #[.slice an r.name.length cn, .int .i64 r.type, .int .i64 r.ttl, .int .i64 r.addr, .slice ato r.to.length ct, .slice ax r.text.length cx, .slice ai r.nums.length ci] 94) = W at *
 refine (szName_any an cn r.name left _ (unhide I0).name (unhide HM).name (unhide HM).names h0 h1).mono ?_
 rintro e w1 ⟨⟨y1, rfl, ya1, yb1, yc1⟩, b1⟩
 have bb1 := below_next b0 b1
 by_cases n1 : y1 < 0
 ·clear yc1 k0 b0 b1
  go_wp2
  go_ret
  exact ⟨⟨-1, rfl, by omega, by omega, fun q => by omega⟩, bb1⟩
 have Y1 := hide (yc1 (by omega))
 have k1 := hide (block_kept b1 k0)
 have I1 := hide ((unhide I0).below b1)
 obtain ⟨d0, d1, d2, d3, d4, d5, d6⟩ := cells7 (unhide k1)
 clear yc1 k0 b0 b1 I0 k0'
 go_wp2_with fail
 clear d0 d1 d2 d3 d4 d5 d6
 refine (szName_any ato ct r.to y1 _ (unhide I1).to (unhide HM).to (unhide HM).tos (by omega) (by omega)).mono ?_
 rintro e w2 ⟨⟨y2, rfl, ya2, yb2, yc2⟩, b2⟩
 have bb2 := below_next bb1 b2
 by_cases n2 : y2 < 0
 ·clear yc2 b2
  go_wp2
  go_ret
  exact ⟨⟨-1, rfl, by omega, by omega, fun q => by omega⟩, bb2⟩
 have Y2 := hide (yc2 (by omega))
 have k2 := hide (block_kept b2 (unhide k1))
 obtain ⟨d0, d1, d2, d3, d4, d5, d6⟩ := cells7 (unhide k2)
 clear yc2 b2 I1 k1
 have hx := (unhide HM).text
 have hi := (unhide HM).nums
 go_wp2_with fail
 refine (szByteS_any ax r.text.length cx y2 _ hx (by omega) (by omega)).mono ?_
 rintro e w3 ⟨rfl, rfl⟩
 by_cases n3 : (r.text.length : Int) ≤ y2
 ·rw [if_pos n3]
  have hy3 : 0 ≤ y2 - r.text.length := by omega
  have hy3' : y2 - r.text.length ≤ 1048576 := by omega
  generalize hy : y2 - (r.text.length : Int) = y3 at *
  go_wp2_with fail
  refine (szIntS_any ai r.nums.length ci y3 _ hi (by omega) (by omega)).mono ?_
  rintro e w4 ⟨rfl, rfl⟩
  by_cases n4 : (r.nums.length : Int) ≤ y3
  ·rw [if_pos n4]
   have hy4 : 0 ≤ y3 - r.nums.length := by omega
   go_wp2
   go_ret
   refine ⟨⟨y3 - r.nums.length, rfl, by omega, by omega, fun _ => ?_⟩, bb2⟩
   have p1 := unhide Y1
   have p2 := unhide Y2
   exact ⟨by omega, fun i hi => by have := p1.2 i hi; omega, by omega, fun i hi => by have := p2.2 i hi; omega, by omega, by omega⟩
  ·rw [if_neg n4]
   go_wp2
   go_ret
   exact ⟨⟨-1, rfl, by omega, by omega, fun q => by omega⟩, bb2⟩
 ·rw [if_neg n3]
  go_wp2
  go_ret
  exact ⟨⟨-1, rfl, by omega, by omega, fun q => by omega⟩, bb2⟩

theorem HasI.draws {w : World} {v : Value} {l : List Int} (h : HasI w v l) (n : Nat) : HasI (w.drewN n) v l := h.below (below_draws n)
theorem eqIntS_has {v v' : Value} {l : List Int} {w : World} (h : HasI w v l) (h' : HasI w v' l) (hl : l.length ≤ 2097152) :
  Calls Tryz.prog 71 #[v, v'] w fun e w' => e = .returned (.bool true) ∧ ∃ n, w' = w.drewN n := by
 obtain ⟨a, cap, rfl, hL⟩ := h.form
 obtain ⟨a', cap', rfl, hL'⟩ := h'.form
 exact eqIntS_eq a a' cap cap' l w hL hL' hl

set_option maxHeartbeats 1000000 in
set_option maxRecDepth 100000 in
theorem eqRr_has {vn vt vx vi un ut ux ui : Value} {r : Rec} {w : World} (h : HasR w vn vt vx vi r) (h' : HasR w un ut ux ui r) (hs : SizeR 2097152 r) :
  Calls Tryz.prog 57 #[.agg #[vn, .int .i64 r.type, .int .i64 r.ttl, .int .i64 r.addr, vt, vx, vi], .agg #[un, .int .i64 r.type, .int .i64 r.ttl, .int .i64 r.addr, ut, ux, ui]] w fun e w' => e = .returned (.bool true) ∧ Below w.heap.size w w' := by
 obtain ⟨na, nc, rfl, _⟩ := h.name.form
 obtain ⟨ta, tc, rfl, _⟩ := h.to.form
 obtain ⟨xa, xc, rfl, _⟩ := h.text.form
 obtain ⟨ia, ic, rfl, _⟩ := h.nums.form
 obtain ⟨na', nc', rfl, _⟩ := h'.name.form
 obtain ⟨ta', tc', rfl, _⟩ := h'.to.form
 obtain ⟨xa', xc', rfl, _⟩ := h'.text.form
 obtain ⟨ia', ic', rfl, _⟩ := h'.nums.form
 have b0 := below2 w (.cells #[.slice na r.name.length nc, .int .i64 r.type, .int .i64 r.ttl, .int .i64 r.addr, .slice ta r.to.length tc, .slice xa r.text.length xc, .slice ia r.nums.length ic] 105) (.cells #[.slice na' r.name.length nc', .int .i64 r.type, .int .i64 r.ttl, .int .i64 r.addr, .slice ta' r.to.length tc', .slice xa' r.text.length xc', .slice ia' r.nums.length ic'] 105)
 obtain ⟨hsz, k0, x0⟩ := box2 w (.cells #[.slice na r.name.length nc, .int .i64 r.type, .int .i64 r.ttl, .int .i64 r.addr, .slice ta r.to.length tc, .slice xa r.text.length xc, .slice ia r.nums.length ic] 105) #[.slice na' r.name.length nc', .int .i64 r.type, .int .i64 r.ttl, .int .i64 r.addr, .slice ta' r.to.length tc', .slice xa' r.text.length xc', .slice ia' r.nums.length ic'] 105
 have H0 := hide (h.below b0)
 have H0' := hide (h'.below b0)
 have HS := hide hs
 have K0 := hide k0
 have X0 := hide x0
 clear h h' hs k0 x0
 have e1 : (r.type != r.type) = false := by simp
 have e2 : (r.ttl != r.ttl) = false := by simp
 have e3 : (r.addr != r.addr) = false := by simp
 go_enter Tryz.func57, Tryz.ntmps57
 go_wp2_with fail
 generalize (w.alloc (.cells #[.slice na r.name.length nc, .int .i64 r.type, .int .i64 r.ttl, .int .i64 r.addr, .slice ta r.to.length tc, .slice xa r.text.length xc, .slice ia r.nums.length ic] 105)).alloc (.cells #[.slice na' r.name.length nc', .int .i64 r.type, .int .i64 r.ttl, .int .i64 r.addr, .slice ta' r.to.length tc', .slice xa' r.text.length xc', .slice ia' r.nums.length ic'] 105) = W at *
 refine (eqName_has (unhide H0).name (unhide H0').name (unhide HS).names).mono ?_
 rintro e w1 ⟨rfl, b1⟩
 have bb1 := below_next b0 b1
 have K1 := hide (block_kept b1 (unhide K0))
 have X1 := hide (block_kept b1 (unhide X0))
 have H1 := hide ((unhide H0).below b1)
 have H1' := hide ((unhide H0').below b1)
 obtain ⟨d0, d1, d2, d3, d4, d5, d6⟩ := cells7 (unhide K1)
 obtain ⟨f0, f1, f2, f3, f4, f5, f6⟩ := cells7 (unhide X1)
 clear b0 K0 X0 H0 H0' b1
 go_wp2_with fail
 clear d0 d1 d2 d3 d4 d5 d6 f0 f1 f2 f3 f4 f5 f6
 refine (eqName_has (unhide H1).to (unhide H1').to (unhide HS).tos).mono ?_
 rintro e w2 ⟨rfl, b2⟩
 have bb2 := below_next bb1 b2
 have K2 := hide (block_kept b2 (unhide K1))
 have X2 := hide (block_kept b2 (unhide X1))
 have H2 := hide ((unhide H1).below b2)
 have H2' := hide ((unhide H1').below b2)
 obtain ⟨d0, d1, d2, d3, d4, d5, d6⟩ := cells7 (unhide K2)
 obtain ⟨f0, f1, f2, f3, f4, f5, f6⟩ := cells7 (unhide X2)
 clear bb1 K1 X1 H1 H1' b2
 go_wp2_with fail
 clear d0 d1 d2 d3 d4 d5 d6 f0 f1 f2 f3 f4 f5 f6
 refine (eqByteS_has (unhide H2).text (unhide H2').text (unhide HS).text).mono ?_
 rintro e w3 ⟨rfl, q3, hq3⟩
 have b3 : Below w2.heap.size w2 w3 := by rw [hq3]; exact below_draws q3
 clear hq3
 have bb3 := below_next bb2 b3
 have K3 := hide (block_kept b3 (unhide K2))
 have X3 := hide (block_kept b3 (unhide X2))
 have H3 := hide ((unhide H2).below b3)
 have H3' := hide ((unhide H2').below b3)
 obtain ⟨d0, d1, d2, d3, d4, d5, d6⟩ := cells7 (unhide K3)
 obtain ⟨f0, f1, f2, f3, f4, f5, f6⟩ := cells7 (unhide X3)
 clear bb2 K2 X2 H2 H2' b3
 go_wp2_with fail
 clear d0 d1 d2 d3 d4 d5 d6 f0 f1 f2 f3 f4 f5 f6
 refine (eqIntS_has (unhide H3).nums (unhide H3').nums (unhide HS).nums).mono ?_
 rintro e w4 ⟨rfl, q4, hq4⟩
 have b4 : Below w3.heap.size w3 w4 := by rw [hq4]; exact below_draws q4
 clear hq4
 go_wp2_with fail
 go_ret
 exact ⟨rfl, below_next bb3 b4⟩
end Go.Proofs.YtfbfakdkemlbmaaGreat
