/-
  Contracts of the name helpers of the laws (szName, toName, eqName): what each answers and what it leaves in memory. Plain facts: lists of texts of the call's own: one more behind, two joined, a part. No program is named here.
-/
import Derived.Test.YthmihglfffeedaaDoorRrTextG03
import Derived.Test.YthmihglfffeedaaDoorRrTextG01
import Derived.Test.YthmihglfffeedaaDoorRrTextG02
import Derived.Laws.ResultCell
import Derived.Laws.Rows
namespace Go.Proofs.YthmihglfffeedaaDoor
open Go.RowKit
set_option linter.unusedVariables false
set_option maxHeartbeats 400000
set_option maxRecDepth 100000

theorem info_bs : (Tryd.prog.info? 25).map (fun i => (i.zero, i.size, i.bytes)) = some (some (.slice none 0 0), 1, 24) := by kernel_rfl

theorem szByteS_any (a : Option Addr) (len cap : Nat) (left : Int) (w : World) (hm : len ≤ maxLen) (h0 : 0 ≤ left) (h1 : left ≤ 1048576) :
  Calls Tryd.prog 14 #[.slice a len cap, .int .i64 left] w fun e w' => e = .returned (.int .i64 (if (len : Int) ≤ left then left - len else -1)) ∧ w = w' := by
 unfold maxLen at hm
 by_cases h : (len : Int) ≤ left
 ·rw [if_pos h]
  go_enter Tryd.func14, Tryd.ntmps14
  go_wp2
  go_ret
  exact ⟨rfl, rfl⟩
 ·rw [if_neg h]
  go_enter Tryd.func14, Tryd.ntmps14
  go_wp2
  go_ret
  exact ⟨rfl, rfl⟩

theorem szByteSS_any (a : Option Addr) (cap : Nat) (n : List (List Int)) (left : Int) (w : World) (h : LiesL w a n) (hm : n.length ≤ maxLen) (hm2 : ∀ i, i < n.length → (n.getD i []).length ≤ maxLen) (h0 : 0 ≤ left) (h1 : left ≤ 1048576) :
  Calls Tryd.prog 31 #[.slice a n.length cap, .int .i64 left] w fun e w' => (∃ r : Int, e = .returned (.int .i64 r) ∧ -1 ≤ r ∧ r ≤ left ∧ (0 ≤ r → (n.length : Int) ≤ left ∧ ∀ i, i < n.length → ((n.getD i []).length : Int) ≤ left)) ∧ w = w' := by
 generalize hn : n.length = m at *
 have HN := UC hn
 clear hn
 have HM := UC hm2
 clear hm2
 unfold maxLen at hm
 by_cases hlen : (m : Int) ≤ left
 ·go_enter Tryd.func31, Tryd.ntmps31
  go_wp2
  go_loop [1, 5] (fun r i => ∃ (k : Nat) (x : Int), k ≤ m ∧ i = .int .i64 k ∧ r = .int .i64 x ∧ 0 ≤ x ∧ x ≤ left ∧ Hid (∀ j, j < k → ((n.getD j []).length : Int) ≤ left)) (fun _ i => m - (intOf i).toNat)
  case atStart => exact ⟨0, left - m, Nat.zero_le _, rfl, rfl, by omega, by omega, UC (fun j hj => absurd hj (Nat.not_lt_zero _))⟩
  case round =>
   obtain ⟨k, x, hk, rfl, rfl, hx0, hx1, hall⟩ := hrel
   by_cases hlt : k < m
   ·obtain ⟨b, off, ia, ic, rfl, hbl, hc, hLi⟩ := h.here (k := k) (by rw [UB HN]; exact hlt)
    have hmk := UB HM k hlt
    have hone := UC (fun (hs : ((n.getD k []).length : Int) ≤ left) => (show ∀ j, j < k + 1 → ((n.getD j []).length : Int) ≤ left from fun j hj => by
      by_cases e : j = k
      ·subst e; exact hs
      ·exact UB hall j (by omega)))
    generalize (n.getD k []).length = lk at *
    go_wp2_with fail
    refine (szByteS_any ia lk ic x _ hmk hx0 (by omega)).mono ?_
    rintro e w1 ⟨rfl, rfl⟩
    by_cases hle : (lk : Int) ≤ x
    ·rw [if_pos hle]
     have hy : 0 ≤ x - lk := by omega
     go_wp2
     exact ⟨⟨k + 1, x - lk, by omega, by go_num, rfl, by omega, by omega, UC (UB hone (by omega))⟩, by simp [intOf]; omega⟩
    ·rw [if_neg hle]
     go_wp2
     go_ret
     exact ⟨⟨-1, rfl, by omega, by omega, fun hneg => by omega⟩, rfl⟩
   ·obtain rfl : k = m := by omega
    go_wp2
    go_ret
    exact ⟨⟨x, rfl, by omega, hx1, fun _ => by first | exact ⟨hlen, UB hall⟩ | (have hq := UB hall; simpa using hq)⟩, rfl⟩
 ·go_enter Tryd.func31, Tryd.ntmps31
  go_wp2
  go_ret
  exact ⟨⟨-1, rfl, by omega, by omega, fun hneg => by omega⟩, rfl⟩

theorem szName_any (a : Option Addr) (cap : Nat) (n : List (List Int)) (left : Int) (w : World) (h : LiesL w a n) (hm : n.length ≤ maxLen) (hm2 : ∀ i, i < n.length → (n.getD i []).length ≤ maxLen) (h0 : 0 ≤ left) (h1 : left ≤ 1048576) :
  Calls Tryd.prog 13 #[.agg #[.slice a n.length cap], .int .i64 left] w fun e w' => (∃ r : Int, e = .returned (.int .i64 r) ∧ -1 ≤ r ∧ r ≤ left ∧ (0 ≤ r → (n.length : Int) ≤ left ∧ ∀ i, i < n.length → ((n.getD i []).length : Int) ≤ left)) ∧ Below w.heap.size w w' := by
 have hA := h.below (UI (.cells #[.slice a n.length cap] 24))
 have hsz := UC (szByteSS_any a cap n left _ hA hm hm2 h0 h1)
 generalize hn : n.length = m at *
 have HN := UC hn
 clear hn
 have HM := UC hm2
 clear hm2
 go_enter Tryd.func13, Tryd.ntmps13
 go_wp2_with fail
 refine (UB hsz).mono ?_
 rintro e w1 ⟨⟨r, rfl, hr0, hr1, hr2⟩, rfl⟩
 have HR := UC hr2
 clear hr2
 by_cases hneg : r < 0
 ·go_wp2
  go_ret
  exact ⟨⟨-1, rfl, by omega, by omega, fun hneg => by omega⟩, UI _⟩
 ·go_wp2
  go_ret
  exact ⟨⟨r, rfl, hr0, hr1, UB HR⟩, UI _⟩

theorem toByteSS_any (a : Option Addr) (cap : Nat) (n : List (List Int)) (w : World) (h : LiesL w a n) (hl : n.length ≤ 1048576) (hl2 : ∀ i, i < n.length → (n.getD i []).length ≤ 1048576) :
  Calls Tryd.prog 41 #[.slice a n.length cap] w fun e w' => ∃ v, e = .returned v ∧ OwnL w.heap.size 25 5 w' v n ∧ Below w.heap.size w w' := by
 have hmk := run_make_row' (P := Tryd.prog) 22 25 (.slice none 0 0) 24 Tryd.underlying22 info_bs rfl .i64 .i64 n.length (by omega) (by omega)
 generalize hn : n.length = m at *
 have HN := UC hn
 clear hn
 have HL := UC hl2
 clear hl2
 go_enter Tryd.func41, Tryd.ntmps41
 go_wp2
 go_loopw [4] (fun i wr => ∃ (k : Nat) (xs : List Value), k ≤ m ∧ i = .int .i64 k ∧ wr.ownsRow w.heap.size 25 1 (.slice (some ⟨w.heap.size, 0, none⟩) m m) m xs ∧ Hid (∀ j, j < k → ∃ u, xs[j]? = some u ∧ Own (w.heap.size + 1) 5 wr u (n.getD j [])) ∧
   Hid (∀ (i j : Nat) (u u' : Value), i < j → j < k → xs[i]? = some u → xs[j]? = some u' → u.ownBlock = none ∨ u.ownBlock ≠ u'.ownBlock) ∧ Below w.heap.size w wr) (fun i _ => m - (intOf i).toNat)
 case atStart => exact ⟨0, _, Nat.zero_le _, rfl, ownsRow_of_rowIs (World.rowIs_made w _ m 25) (Nat.le_refl _) (by unfold maxLen; omega), UC (fun j hj => absurd hj (Nat.not_lt_zero _)), UC (fun i j u u' _ hj => absurd hj (Nat.not_lt_zero _)), UI _⟩
 case round =>
  obtain ⟨k, xs, hk, rfl, ho, hown, hdis, hb⟩ := hrel
  by_cases hlt : k < m
  ·obtain ⟨b, off, ia, ic, rfl, hbl, hc0, hLi⟩ := h.here (k := k) (by rw [UB HN]; exact hlt)
   have hc := (hb.cell (p := ⟨b, off + k, none⟩) hbl).trans hc0
   have hLi' := hLi.below hb
   have hlk := UB HL k hlt
   clear hc0 hLi
   have HO := UC ho
   clear ho
   generalize hlab : n.getD k [] = lab at *
   have HLAB := UC hlab
   clear hlab
   go_wp2_with fail
   refine (toByteS_any ia ic lab _ hLi' hlk).mono ?_
   rintro e w1 ⟨u, rfl, ou, b1⟩
   obtain ⟨ua, uc, rfl, _⟩ := ou.lies
   have hsz : w.heap.size < wr.heap.size := (World.ownsRow.lt (UB HO) w.heap.size rfl).2
   have ho1 := World.ownsRow.kept (UB HO) (grown_of_below b1) (.inr (by simp [Value.ownBlock]))
   have hxl : xs.length = m := by have := ho1.1; simpa using this
   have hf := World.ownsRow.frozenAt ho1 k
   have hcell : ∃ y, w1.cell? ⟨w.heap.size, k, none⟩ = some y := by
    rw [World.ownsRow.cellAt ho1 k (by omega), List.getElem?_eq_getElem (by omega)]; exact ⟨_, rfl⟩
   obtain ⟨y, hcy⟩ := hcell
   have hst := UC (World.ownsRow.stored ho1 k (.slice ua lab.length uc))
   have HO1 := UC ho1
   clear ho1
   go_wp2
   have hst1 := (UB hst).1
   have hst2 := (UB hst).2
   have hxl' : k < xs.length := by omega
   refine ⟨⟨k + 1, xs.set k (.slice ua lab.length uc), by omega, by go_num, hst1, UC ?_, UC ?_, ?_⟩, by simp [intOf]; omega⟩
   ·intro j hj
    by_cases e : j = k
    ·subst e
     refine ⟨.slice ua lab.length uc, by simp [hxl'], ?_⟩
     rw [UB HLAB]
     refine (ou.mono (by omega)).kept hst2 ?_
     cases hu : (Value.slice ua lab.length uc).ownBlock with
     | none => exact .inl rfl
     | some q =>
      right
      have := (ou.lt q hu).1
      intro hq
      simp at hq
      omega
    ·obtain ⟨u', h1, h2⟩ := UB hown j (by omega)
     refine ⟨u', by rw [List.getElem?_set_ne (by omega)]; exact h1, ?_⟩
     refine (h2.below b1).kept hst2 ?_
     cases hu : u'.ownBlock with
     | none => exact .inl rfl
     | some q =>
      right
      have := (h2.lt q hu).1
      intro hq
      simp at hq
      omega
   ·intro i j p p' hij hj hp hp'
    rw [List.getElem?_set_ne (by omega)] at hp
    by_cases e : j = k
    ·subst e
     rw [List.getElem?_set_self hxl'] at hp'
     obtain rfl : Value.slice ua lab.length uc = p' := by simpa using hp'
     obtain ⟨u', h1, h2⟩ := UB hown i hij
     rw [hp] at h1
     obtain rfl : p = u' := by simpa using h1
     cases hq : p.ownBlock with
     | none => exact .inl rfl
     | some q =>
      right
      intro hq'
      have h3 := (h2.lt q hq).2
      have h4 := (ou.lt q hq'.symm).1
      omega
    ·rw [List.getElem?_set_ne (by omega)] at hp'
     exact UB hdis i j p p' hij (by omega) hp hp'
   ·exact ((UG hb b1).grown hst2 (UG hb b1).size (fun q hq => by simp at hq; omega))
  ·obtain rfl : k = m := by omega
   go_wp2
   go_ret
   refine ⟨_, rfl, ⟨xs, by rw [UB HN]; exact ho, fun i hi => ?_, fun i j u u' hij hu hu' => ?_⟩, hb⟩
   ·obtain ⟨u, h1, h2⟩ := UB hown i (by rw [← UB HN]; exact hi)
    exact ⟨u, h1, h2.mono (by omega)⟩
   ·have hxl : xs.length = k := by have := ho.1; simpa using this
    exact UB hdis i j u u' hij (by rw [← hxl]; exact (List.getElem?_eq_some_iff.1 hu').1) hu hu'

theorem toName_any (a : Option Addr) (cap : Nat) (n : List (List Int)) (w : World) (h : LiesL w a n) (hl : n.length ≤ 1048576) (hl2 : ∀ i, i < n.length → (n.getD i []).length ≤ 1048576) :
  Calls Tryd.prog 18 #[.agg #[.slice a n.length cap]] w fun e w' => ∃ v, e = .returned (.agg #[v]) ∧ OwnL w.heap.size 25 5 w' v n ∧ Below w.heap.size w w' := by
 have hb3 : Below w.heap.size w (((w.alloc (.cells #[.slice a n.length cap] 24)).alloc (.cells #[.slice none 0 0] 31)).alloc (.cells #[.slice none 0 0] 31)) :=
  ((UI _).alloc (UI _).size _).alloc ((UI _).alloc (UI _).size _).size _
 have hA := UC (h.below hb3)
 have HL2 := UC hl2
 clear hl2
 have HH := UC h
 clear h
 go_enter Tryd.func18, Tryd.ntmps18
 go_wp2_with fail
 refine (toByteSS_any a cap n _ (UB hA) hl (UB HL2)).mono ?_
 rintro e w1 ⟨v, rfl, o1, b1⟩
 have b2 := UG hb3 b1
 obtain ⟨hsz, h1, h2⟩ := box3 w (.cells #[.slice a n.length cap] 24) #[.slice none 0 0] #[.slice none 0 0] 31 31
 have k1 := (b1.block _ (by rw [hsz]; omega)).trans h1
 have k2 := (b1.block _ (by rw [hsz]; omega)).trans h2
 obtain ⟨va, vc, rfl, _⟩ := o1.hasL.form
 have o2 := UC o1
 clear o1
 have c2 := VE k2 0
 have c1 := VE k1 0
 have f2 := VG k2 0
 have f1 := VG k1 0
 have m2 := block_set k2 (.slice va n.length vc)
 have m1 := block_set (block_other k1 (b' := w.heap.size + 1 + 1) (by omega) 0 (.slice va n.length vc)) (.slice va n.length vc)
 have d2 := VE m2 0
 have d1 := VE (block_other k1 (b' := w.heap.size + 1 + 1) (by omega) 0 (.slice va n.length vc)) 0
 have g1 := VG (block_other k1 (b' := w.heap.size + 1 + 1) (by omega) 0 (.slice va n.length vc)) 0
 simp only [List.getElem?_toArray, List.getElem?_cons_zero] at c1 c2 d1 d2
 have M1 := UC m1
 clear m1 m2 k1 k2 h1 h2
 have B1 := UC b1
 clear b1
 have HSZ := UC hsz
 clear hsz hb3
 go_wp2
 refine bodyPost_ret (results_cell_row rfl _ _ (w.heap.size + 1) 31 #[.slice va n.length vc] (0, 0) _ rfl (UB M1) Tryd.underlying31 rfl (by kernel_rfl)) rfl ?_
 refine ⟨_, rfl, ?_, (b2.setCell (by show w.heap.size ≤ w.heap.size + 1 + 1; omega) _).setCell (by show w.heap.size ≤ w.heap.size + 1; omega) _⟩
 have o3 := UB o2
 rw [UB HSZ] at o3
 exact ((o3.kept (grown_setCell _ _ _) (by show w.heap.size + 1 + 1 < _; omega)).kept (grown_setCell _ _ _) (by show w.heap.size + 1 < _; omega)).mono (by omega)

theorem Has.draws {w : World} {v : Value} {l : List Int} (h : Has w v l) (n : Nat) : Has (w.drewN n) v l := h.below (below_draws n)

theorem eqByteS_has {v v' : Value} {l : List Int} {w : World} (h : Has w v l) (h' : Has w v' l) (hl : l.length ≤ 2097152) :
  Calls Tryd.prog 8 #[v, v'] w fun e w' => e = .returned (.bool true) ∧ ∃ n, w' = w.drewN n := by
 obtain ⟨a, cap, rfl, hL⟩ := h.form
 obtain ⟨a', cap', rfl, hL'⟩ := h'.form
 exact eqByteS_eq a a' cap cap' l w hL hL' hl

theorem eqByteSS_has {v v' : Value} {n : List (List Int)} {w : World} (h : HasL w v n) (h' : HasL w v' n) (hl2 : ∀ i, i < n.length → (n.getD i []).length ≤ 2097152) :
  Calls Tryd.prog 50 #[v, v'] w fun e w' => e = .returned (.bool true) ∧ ∃ n, w' = w.drewN n := by
 obtain ⟨a, cap, rfl, hl, hm⟩ := h.form
 obtain ⟨a', cap', rfl, hl', hm'⟩ := h'.form
 unfold maxLen at hm hm'
 have HL := UC hl2
 clear hl2
 generalize hn : n.length = m at *
 have HN := UC hn
 clear hn
 go_enter Tryd.func50, Tryd.ntmps50
 go_wp2
 go_loopw [5] (fun i wr => ∃ k : Nat, k ≤ m ∧ i = .int .i64 k ∧ ∃ q, wr = w.drewN q) (fun i _ => m - (intOf i).toNat)
 case atStart => exact ⟨0, Nat.zero_le _, rfl, 0, rfl⟩
 case round =>
  obtain ⟨k, hk, rfl, q, hq⟩ := hrel
  have hwr : Below w.heap.size w wr := by rw [hq]; exact below_draws q
  have HQ := UC hq
  clear hq
  by_cases hlt : k < m
  ·obtain ⟨b, off, u, rfl, hbl, hc, hu⟩ := (h.below hwr).here (k := k) (by rw [UB HN]; exact hlt)
   obtain ⟨b', off', u', rfl, hbl', hc', hu'⟩ := (h'.below hwr).here (k := k) (by rw [UB HN]; exact hlt)
   have hlk := UB HL k hlt
   generalize n.getD k [] = lab at *
   have HU := UC hu
   have HU' := UC hu'
   obtain ⟨ua, uc, rfl, _⟩ := hu.form
   obtain ⟨ua', uc', rfl, _⟩ := hu'.form
   clear hu hu'
   go_wp2
   go_quiet (first | (exact Calls.quiet_of (v := .bool true) (eqByteS_has ((UB HU).draws _) ((UB HU').draws _) hlk)))
   go_wp2
   exact ⟨⟨k + 1, by omega, by go_num, q + nq, by rw [UB HQ, World.drewN_drewN]⟩, by simp [intOf]; omega⟩
  ·go_wp2
   go_ret
   exact ⟨rfl, q, UB HQ⟩

theorem eqName_has {v v' : Value} {n : List (List Int)} {w : World} (h : HasL w v n) (h' : HasL w v' n) (hl2 : ∀ i, i < n.length → (n.getD i []).length ≤ 2097152) :
  Calls Tryd.prog 27 #[.agg #[v], .agg #[v']] w fun e w' => e = .returned (.bool true) ∧ Below w.heap.size w w' := by
 have hb2 : Below w.heap.size w ((w.alloc (.cells #[v] 31)).alloc (.cells #[v'] 31)) := (UI _).alloc (UI _).size _
 have hc := UC (eqByteSS_has (h.below hb2) (h'.below hb2) hl2)
 have HL := UC hl2
 clear hl2
 obtain ⟨a, cap, rfl, _⟩ := h.form
 obtain ⟨a', cap', rfl, _⟩ := h'.form
 have H := UC h
 have H' := UC h'
 clear h h'
 go_enter Tryd.func27, Tryd.ntmps27
 go_wp2_with fail
 refine (UB hc).mono ?_
 rintro e w1 ⟨rfl, q, rfl⟩
 go_wp2
 go_ret
 exact ⟨rfl, UG hb2 (below_draws q)⟩
end Go.Proofs.YthmihglfffeedaaDoor

namespace Go.Proofs.YthmihglfffeedaaDoor
open Go.RowKit

theorem box2 (w : World) (o : Obj) (c2 : Array Value) (t2 : TypeId) :
  ((w.alloc o).alloc (.cells c2 t2)).heap.size = w.heap.size + 2 ∧ ((w.alloc o).alloc (.cells c2 t2)).heap[w.heap.size]? = some o ∧ ((w.alloc o).alloc (.cells c2 t2)).heap[w.heap.size + 1]? = some (.cells c2 t2) := by
 have e1 : (w.alloc o).heap.size = w.heap.size + 1 := by show (w.heap.push o).size = _; simp
 have e2 : ((w.alloc o).alloc (.cells c2 t2)).heap.size = w.heap.size + 1 + 1 := by rw [← e1]; show ((w.alloc o).heap.push _).size = _; simp
 refine ⟨e2, UE (UI _) (heap_alloc_new w o), ?_⟩
 rw [← e1]; exact heap_alloc_new _ _
theorem below2 (w : World) (o o' : Obj) : Below w.heap.size w ((w.alloc o).alloc o') := (UI _).alloc (UI _).size _

end Go.Proofs.YthmihglfffeedaaDoor
