/-
  Contracts of the name helpers of the laws (szName, toName, eqName): what each answers and what it leaves in memory. Contracts of the byte helpers of the laws (markByteS, heldByteS): what each answers and what it leaves in memory. Contracts of the name helpers of the laws (markName, heldName): what each answers and what it leaves in memory.
-/
import Derived.Test.YtmlcmkoefelolaaGreatSetOfG04
import Derived.Test.YtmlcmkoefelolaaGreatSetOfG00
import Derived.Test.YtmlcmkoefelolaaGreatSetOfG01
namespace Go.Proofs.YtmlcmkoefelolaaGreat
open Go.RowKit
set_option linter.unusedVariables false

theorem info_bs : (Tryz.prog.info? 44).map (fun i => (i.zero, i.size, i.bytes)) = some (some (.slice none 0 0), 1, 24) := by kernel_rfl

set_option maxHeartbeats 400000 in
set_option maxRecDepth 100000 in
theorem szByteS_any (a : Option Addr) (len cap : Nat) (left : Int) (w : World) (hm : len ≤ maxLen) (h0 : 0 ≤ left) (h1 : left ≤ 1048576) :
  Calls Tryz.prog 60 #[.slice a len cap, .int .i64 left] w fun e w' => e = .returned (.int .i64 (if (len : Int) ≤ left then left - len else -1)) ∧ w = w' := by
 unfold maxLen at hm
 by_cases h : (len : Int) ≤ left
 ·rw [if_pos h]
  go_enter Tryz.func60, Tryz.ntmps60
  go_wp2
  go_ret
  exact ⟨rfl, rfl⟩
 ·rw [if_neg h]
  go_enter Tryz.func60, Tryz.ntmps60
  go_wp2
  go_ret
  exact ⟨rfl, rfl⟩

set_option maxHeartbeats 400000 in
set_option maxRecDepth 100000 in
theorem szByteSS_any (a : Option Addr) (cap : Nat) (n : List (List Int)) (left : Int) (w : World) (h : LiesL w a n) (hm : n.length ≤ maxLen) (hm2 : ∀ i, i < n.length → (n.getD i []).length ≤ maxLen) (h0 : 0 ≤ left) (h1 : left ≤ 1048576) :
  Calls Tryz.prog 42 #[.slice a n.length cap, .int .i64 left] w fun e w' => (∃ r : Int, e = .returned (.int .i64 r) ∧ -1 ≤ r ∧ r ≤ left ∧ (0 ≤ r → (n.length : Int) ≤ left ∧ ∀ i, i < n.length → ((n.getD i []).length : Int) ≤ left)) ∧ w = w' := by
 generalize hn : n.length = m at *
 have HN := hide hn
 clear hn
 have HM := hide hm2
 clear hm2
 unfold maxLen at hm
 by_cases hlen : (m : Int) ≤ left
 ·go_enter Tryz.func42, Tryz.ntmps42
  go_wp2
  go_loop [1, 5] (fun r i => ∃ (k : Nat) (x : Int), k ≤ m ∧ i = .int .i64 k ∧ r = .int .i64 x ∧ 0 ≤ x ∧ x ≤ left ∧ Hid (∀ j, j < k → ((n.getD j []).length : Int) ≤ left)) (fun _ i => m - (intOf i).toNat)
  case atStart => exact ⟨0, left - m, Nat.zero_le _, rfl, rfl, by omega, by omega, hide (fun j hj => absurd hj (Nat.not_lt_zero _))⟩
  case round =>
   obtain ⟨k, x, hk, rfl, rfl, hx0, hx1, hall⟩ := hrel
   by_cases hlt : k < m
   ·obtain ⟨b, off, ia, ic, rfl, hbl, hc, hLi⟩ := h.here (k := k) (by rw [unhide HN]; exact hlt)
    have hmk := unhide HM k hlt
    have hone := hide (fun (hs : ((n.getD k []).length : Int) ≤ left) => (show ∀ j, j < k + 1 → ((n.getD j []).length : Int) ≤ left from fun j hj => by
      by_cases e : j = k
      ·subst e; exact hs
      ·exact unhide hall j (by omega)))
    generalize (n.getD k []).length = lk at *
    go_wp2_with fail
    refine (szByteS_any ia lk ic x _ hmk hx0 (by omega)).mono ?_
    rintro e w1 ⟨rfl, rfl⟩
    by_cases hle : (lk : Int) ≤ x
    ·rw [if_pos hle]
     have hy : 0 ≤ x - lk := by omega
     go_wp2
     exact ⟨⟨k + 1, x - lk, by omega, by go_num, rfl, by omega, by omega, hide (unhide hone (by omega))⟩, by simp [intOf]; omega⟩
    ·rw [if_neg hle]
     go_wp2
     go_ret
     exact ⟨⟨-1, rfl, by omega, by omega, fun hneg => by omega⟩, rfl⟩
   ·obtain rfl : k = m := by omega
    go_wp2
    go_ret
    exact ⟨⟨x, rfl, by omega, hx1, fun _ => by first | exact ⟨hlen, unhide hall⟩ | (have hq := unhide hall; simpa using hq)⟩, rfl⟩
 ·go_enter Tryz.func42, Tryz.ntmps42
  go_wp2
  go_ret
  exact ⟨⟨-1, rfl, by omega, by omega, fun hneg => by omega⟩, rfl⟩

set_option maxHeartbeats 400000 in
set_option maxRecDepth 100000 in
theorem szName_any (a : Option Addr) (cap : Nat) (n : List (List Int)) (left : Int) (w : World) (h : LiesL w a n) (hm : n.length ≤ maxLen) (hm2 : ∀ i, i < n.length → (n.getD i []).length ≤ maxLen) (h0 : 0 ≤ left) (h1 : left ≤ 1048576) :
  Calls Tryz.prog 10 #[.agg #[.slice a n.length cap], .int .i64 left] w fun e w' => (∃ r : Int, e = .returned (.int .i64 r) ∧ -1 ≤ r ∧ r ≤ left ∧ (0 ≤ r → (n.length : Int) ≤ left ∧ ∀ i, i < n.length → ((n.getD i []).length : Int) ≤ left)) ∧ Below w.heap.size w w' := by
 have hA := h.below (below_alloc (.cells #[.slice a n.length cap] 24))
 have hsz := hide (szByteSS_any a cap n left _ hA hm hm2 h0 h1)
 generalize hn : n.length = m at *
 have HN := hide hn
 clear hn
 have HM := hide hm2
 clear hm2
 go_enter Tryz.func10, Tryz.ntmps10
 go_wp2_with fail
 refine (unhide hsz).mono ?_
 rintro e w1 ⟨⟨r, rfl, hr0, hr1, hr2⟩, rfl⟩
 have HR := hide hr2
 clear hr2
 by_cases hneg : r < 0
 ·go_wp2
  go_ret
  exact ⟨⟨-1, rfl, by omega, by omega, fun hneg => by omega⟩, below_alloc _⟩
 ·go_wp2
  go_ret
  exact ⟨⟨r, rfl, hr0, hr1, unhide HR⟩, below_alloc _⟩

set_option maxHeartbeats 400000 in
set_option maxRecDepth 100000 in
theorem toByteSS_any (a : Option Addr) (cap : Nat) (n : List (List Int)) (w : World) (h : LiesL w a n) (hl : n.length ≤ 1048576) (hl2 : ∀ i, i < n.length → (n.getD i []).length ≤ 1048576) :
  Calls Tryz.prog 48 #[.slice a n.length cap] w fun e w' => ∃ v, e = .returned v ∧ OwnL w.heap.size 44 5 w' v n ∧ Below w.heap.size w w' := by
 have hmk := run_make_row' (P := Tryz.prog) 22 44 (.slice none 0 0) 24 Tryz.underlying22 info_bs rfl .i64 .i64 n.length (by omega) (by omega)
 generalize hn : n.length = m at *
 have HN := hide hn
 clear hn
 have HL := hide hl2
 clear hl2
 go_enter Tryz.func48, Tryz.ntmps48
 go_wp2
 go_loopw [4] (fun i wr => ∃ (k : Nat) (xs : List Value), k ≤ m ∧ i = .int .i64 k ∧ wr.ownsRow w.heap.size 44 1 (.slice (some ⟨w.heap.size, 0, none⟩) m m) m xs ∧ Hid (∀ j, j < k → ∃ u, xs[j]? = some u ∧ Own (w.heap.size + 1) 5 wr u (n.getD j [])) ∧
   Hid (∀ (i j : Nat) (u u' : Value), i < j → j < k → xs[i]? = some u → xs[j]? = some u' → u.ownBlock = none ∨ u.ownBlock ≠ u'.ownBlock) ∧ Below w.heap.size w wr) (fun i _ => m - (intOf i).toNat)
 case atStart => exact ⟨0, _, Nat.zero_le _, rfl, ownsRow_of_rowIs (World.rowIs_made w _ m 44) (Nat.le_refl _) (by unfold maxLen; omega), hide (fun j hj => absurd hj (Nat.not_lt_zero _)), hide (fun i j u u' _ hj => absurd hj (Nat.not_lt_zero _)), below_alloc _⟩
 case round =>
  obtain ⟨k, xs, hk, rfl, ho, hown, hdis, hb⟩ := hrel
  by_cases hlt : k < m
  ·obtain ⟨b, off, ia, ic, rfl, hbl, hc0, hLi⟩ := h.here (k := k) (by rw [unhide HN]; exact hlt)
   have hc := (hb.cell (p := ⟨b, off + k, none⟩) hbl).trans hc0
   have hLi' := hLi.below hb
   have hlk := unhide HL k hlt
   clear hc0 hLi
   have HO := hide ho
   clear ho
   generalize hlab : n.getD k [] = lab at *
   have HLAB := hide hlab
   clear hlab
   go_wp2_with fail
   refine (toByteS_any ia ic lab _ hLi' hlk).mono ?_
   rintro e w1 ⟨u, rfl, ou, b1⟩
   obtain ⟨ua, uc, rfl, _⟩ := ou.lies
   have hsz : w.heap.size < wr.heap.size := (World.ownsRow.lt (unhide HO) w.heap.size rfl).2
   have ho1 := World.ownsRow.kept (unhide HO) (grown_of_below b1) (.inr (by simp [Value.ownBlock]))
   have hxl : xs.length = m := by have := ho1.1; simpa using this
   have hf := World.ownsRow.frozenAt ho1 k
   have hcell : ∃ y, w1.cell? ⟨w.heap.size, k, none⟩ = some y := by
    rw [World.ownsRow.cellAt ho1 k (by omega), List.getElem?_eq_getElem (by omega)]; exact ⟨_, rfl⟩
   obtain ⟨y, hcy⟩ := hcell
   have hst := hide (World.ownsRow.stored ho1 k (.slice ua lab.length uc))
   have HO1 := hide ho1
   clear ho1
   go_wp2
   have hst1 := (unhide hst).1
   have hst2 := (unhide hst).2
   have hxl' : k < xs.length := by omega
   refine ⟨⟨k + 1, xs.set k (.slice ua lab.length uc), by omega, by go_num, hst1, hide ?_, hide ?_, ?_⟩, by simp [intOf]; omega⟩
   ·intro j hj
    by_cases e : j = k
    ·subst e
     refine ⟨.slice ua lab.length uc, by simp [hxl'], ?_⟩
     rw [unhide HLAB]
     refine (ou.mono (by omega)).kept hst2 ?_
     cases hu : (Value.slice ua lab.length uc).ownBlock with
     | none => exact .inl rfl
     | some q =>
      right
      have := (ou.lt q hu).1
      intro hq
      simp at hq
      omega
    ·obtain ⟨u', h1, h2⟩ := unhide hown j (by omega)
     refine ⟨u', by rw [List.getElem?_set_ne (by omega)]; exact h1, ?_⟩
     refine (h2.below b1).kept hst2 ?_
     cases hu : u'.ownBlock with
     | none => exact .inl rfl
     | some q =>
      right
      have := (h2.lt q hu).1
      intro hq
      simp at hq
      omega
   ·intro i j p p' hij hj hp hp'
    rw [List.getElem?_set_ne (by omega)] at hp
    by_cases e : j = k
    ·subst e
     rw [List.getElem?_set_self hxl'] at hp'
     obtain rfl : Value.slice ua lab.length uc = p' := by simpa using hp'
     obtain ⟨u', h1, h2⟩ := unhide hown i hij
     rw [hp] at h1
     obtain rfl : p = u' := by simpa using h1
     cases hq : p.ownBlock with
     | none => exact .inl rfl
     | some q =>
      right
      intro hq'
      have h3 := (h2.lt q hq).2
      have h4 := (ou.lt q hq'.symm).1
      omega
    ·rw [List.getElem?_set_ne (by omega)] at hp'
     exact unhide hdis i j p p' hij (by omega) hp hp'
   ·exact ((below_next hb b1).grown hst2 (below_next hb b1).size (fun q hq => by simp at hq; omega))
  ·obtain rfl : k = m := by omega
   go_wp2
   go_ret
   refine ⟨_, rfl, ⟨xs, by rw [unhide HN]; exact ho, fun i hi => ?_, fun i j u u' hij hu hu' => ?_⟩, hb⟩
   ·obtain ⟨u, h1, h2⟩ := unhide hown i (by rw [← unhide HN]; exact hi)
    exact ⟨u, h1, h2.mono (by omega)⟩
   ·have hxl : xs.length = k := by have := ho.1; simpa using this
    exact unhide hdis i j u u' hij (by rw [← hxl]; exact (List.getElem?_eq_some_iff.1 hu').1) hu hu'

set_option maxHeartbeats 400000 in
set_option maxRecDepth 100000 in
theorem toName_any (a : Option Addr) (cap : Nat) (n : List (List Int)) (w : World) (h : LiesL w a n) (hl : n.length ≤ 1048576) (hl2 : ∀ i, i < n.length → (n.getD i []).length ≤ 1048576) :
  Calls Tryz.prog 13 #[.agg #[.slice a n.length cap]] w fun e w' => ∃ v, e = .returned (.agg #[v]) ∧ OwnL w.heap.size 44 5 w' v n ∧ Below w.heap.size w w' := by
 have hb3 : Below w.heap.size w (((w.alloc (.cells #[.slice a n.length cap] 24)).alloc (.cells #[.slice none 0 0] 32)).alloc (.cells #[.slice none 0 0] 32)) :=
  ((below_alloc _).alloc (below_alloc _).size _).alloc ((below_alloc _).alloc (below_alloc _).size _).size _
 have hA := hide (h.below hb3)
 have HL2 := hide hl2
 clear hl2
 have HH := hide h
 clear h
 go_enter Tryz.func13, Tryz.ntmps13
 go_wp2_with fail
 refine (toByteSS_any a cap n _ (unhide hA) hl (unhide HL2)).mono ?_
 rintro e w1 ⟨v, rfl, o1, b1⟩
 have b2 := below_next hb3 b1
 obtain ⟨hsz, h1, h2⟩ := box3 w (.cells #[.slice a n.length cap] 24) #[.slice none 0 0] #[.slice none 0 0] 32 32
 have k1 := (b1.block _ (by rw [hsz]; omega)).trans h1
 have k2 := (b1.block _ (by rw [hsz]; omega)).trans h2
 obtain ⟨va, vc, rfl, _⟩ := o1.hasL.form
 have o2 := hide o1
 clear o1
 have c2 := block_cell k2 0
 have c1 := block_cell k1 0
 have f2 := block_frozen k2 0
 have f1 := block_frozen k1 0
 have m2 := block_set k2 (.slice va n.length vc)
 have m1 := block_set (block_other k1 (b' := w.heap.size + 1 + 1) (by omega) 0 (.slice va n.length vc)) (.slice va n.length vc)
 have d2 := block_cell m2 0
 have d1 := block_cell (block_other k1 (b' := w.heap.size + 1 + 1) (by omega) 0 (.slice va n.length vc)) 0
 have g1 := block_frozen (block_other k1 (b' := w.heap.size + 1 + 1) (by omega) 0 (.slice va n.length vc)) 0
 simp only [List.getElem?_toArray, List.getElem?_cons_zero] at c1 c2 d1 d2
 have M1 := hide m1
 clear m1 m2 k1 k2 h1 h2
 have B1 := hide b1
 clear b1
 have HSZ := hide hsz
 clear hsz hb3
 go_wp2
 refine bodyPost_ret (results_cell_row rfl _ _ (w.heap.size + 1) 32 #[.slice va n.length vc] (0, 0) _ rfl (unhide M1) Tryz.underlying32 rfl (by kernel_rfl)) rfl ?_
 refine ⟨_, rfl, ?_, (b2.setCell (by show w.heap.size ≤ w.heap.size + 1 + 1; omega) _).setCell (by show w.heap.size ≤ w.heap.size + 1; omega) _⟩
 have o3 := unhide o2
 rw [unhide HSZ] at o3
 exact ((o3.kept (grown_setCell _ _ _) (by show w.heap.size + 1 + 1 < _; omega)).kept (grown_setCell _ _ _) (by show w.heap.size + 1 < _; omega)).mono (by omega)

theorem Has.draws {w : World} {v : Value} {l : List Int} (h : Has w v l) (n : Nat) : Has (w.drewN n) v l := h.below (below_draws n)

theorem eqByteS_has {v v' : Value} {l : List Int} {w : World} (h : Has w v l) (h' : Has w v' l) (hl : l.length ≤ 2097152) :
  Calls Tryz.prog 72 #[v, v'] w fun e w' => e = .returned (.bool true) ∧ ∃ n, w' = w.drewN n := by
 obtain ⟨a, cap, rfl, hL⟩ := h.form
 obtain ⟨a', cap', rfl, hL'⟩ := h'.form
 exact eqByteS_eq a a' cap cap' l w hL hL' hl

set_option maxHeartbeats 400000 in
set_option maxRecDepth 100000 in
theorem eqByteSS_has {v v' : Value} {n : List (List Int)} {w : World} (h : HasL w v n) (h' : HasL w v' n) (hl2 : ∀ i, i < n.length → (n.getD i []).length ≤ 2097152) :
  Calls Tryz.prog 53 #[v, v'] w fun e w' => e = .returned (.bool true) ∧ ∃ n, w' = w.drewN n := by
 obtain ⟨a, cap, rfl, hl, hm⟩ := h.form
 obtain ⟨a', cap', rfl, hl', hm'⟩ := h'.form
 unfold maxLen at hm hm'
 have HL := hide hl2
 clear hl2
 generalize hn : n.length = m at *
 have HN := hide hn
 clear hn
 go_enter Tryz.func53, Tryz.ntmps53
 go_wp2
 go_loopw [5] (fun i wr => ∃ k : Nat, k ≤ m ∧ i = .int .i64 k ∧ ∃ q, wr = w.drewN q) (fun i _ => m - (intOf i).toNat)
 case atStart => exact ⟨0, Nat.zero_le _, rfl, 0, rfl⟩
 case round =>
  obtain ⟨k, hk, rfl, q, hq⟩ := hrel
  have hwr : Below w.heap.size w wr := by rw [hq]; exact below_draws q
  have HQ := hide hq
  clear hq
  by_cases hlt : k < m
  ·obtain ⟨b, off, u, rfl, hbl, hc, hu⟩ := (h.below hwr).here (k := k) (by rw [unhide HN]; exact hlt)
   obtain ⟨b', off', u', rfl, hbl', hc', hu'⟩ := (h'.below hwr).here (k := k) (by rw [unhide HN]; exact hlt)
   have hlk := unhide HL k hlt
   generalize n.getD k [] = lab at *
   have HU := hide hu
   have HU' := hide hu'
   obtain ⟨ua, uc, rfl, _⟩ := hu.form
   obtain ⟨ua', uc', rfl, _⟩ := hu'.form
   clear hu hu'
   go_wp2
   go_quiet (first | (exact Calls.quiet_of (v := .bool true) (eqByteS_has ((unhide HU).draws _) ((unhide HU').draws _) hlk)))
   go_wp2
   exact ⟨⟨k + 1, by omega, by go_num, q + nq, by rw [unhide HQ, World.drewN_drewN]⟩, by simp [intOf]; omega⟩
  ·go_wp2
   go_ret
   exact ⟨rfl, q, unhide HQ⟩

set_option maxHeartbeats 400000 in
set_option maxRecDepth 100000 in
theorem eqName_has {v v' : Value} {n : List (List Int)} {w : World} (h : HasL w v n) (h' : HasL w v' n) (hl2 : ∀ i, i < n.length → (n.getD i []).length ≤ 2097152) :
  Calls Tryz.prog 17 #[.agg #[v], .agg #[v']] w fun e w' => e = .returned (.bool true) ∧ Below w.heap.size w w' := by
 have hb2 : Below w.heap.size w ((w.alloc (.cells #[v] 32)).alloc (.cells #[v'] 32)) := (below_alloc _).alloc (below_alloc _).size _
 have hc := hide (eqByteSS_has (h.below hb2) (h'.below hb2) hl2)
 have HL := hide hl2
 clear hl2
 obtain ⟨a, cap, rfl, _⟩ := h.form
 obtain ⟨a', cap', rfl, _⟩ := h'.form
 have H := hide h
 have H' := hide h'
 clear h h'
 go_enter Tryz.func17, Tryz.ntmps17
 go_wp2_with fail
 refine (unhide hc).mono ?_
 rintro e w1 ⟨rfl, q, rfl⟩
 go_wp2
 go_ret
 exact ⟨rfl, below_next hb2 (below_draws q)⟩
end Go.Proofs.YtmlcmkoefelolaaGreat

namespace Go.Proofs.YtmlcmkoefelolaaGreat
open Go.RowKit
set_option linter.unusedVariables false

set_option maxHeartbeats 400000 in
set_option maxRecDepth 100000 in
theorem markByteS_some (B g cap : Nat) (k0 : Int) (l : List Int) (w : World) (h : Own B 5 w (.slice (some ⟨g, 0, none⟩) l.length cap) l) (hl : l.length ≤ 2097152) (hk0 : 0 ≤ k0) (hk1 : k0 ≤ 9000000000000000000) :
  Calls Tryz.prog 55 #[.slice (some ⟨g, 0, none⟩) l.length cap, .int .i64 k0] w fun e w' => e = .returned (.int .i64 (k0 + l.length)) ∧
   Own B 5 w' (.slice (some ⟨g, 0, none⟩) l.length cap) (marks k0 l.length) ∧ w.grownBy w' (some g) := by
 generalize hn : l.length = n at *
 have HN := hide hn
 clear hn
 go_enter Tryz.func55, Tryz.ntmps55
 go_wp2
 go_loopw [1, 5] (fun kk i wr => ∃ k : Nat, k ≤ n ∧ i = .int .i64 k ∧ kk = .int .i64 (k0 + k) ∧ wr.ownsRow B 5 1 (.slice (some ⟨g, 0, none⟩) n cap) n ((marked l k0 k).map (Value.int .u8)) ∧ w.grownBy wr (some g)) (fun _ i _ => n - (intOf i).toNat)
 case atStart => exact ⟨0, Nat.zero_le _, rfl, by simp, by rw [marked_zero]; have h1 := h; unfold Own at h1; rw [unhide HN] at h1; exact h1, ⟨rfl, rfl, rfl, Nat.le_refl _, fun _ _ _ => rfl⟩⟩
 case round =>
  obtain ⟨k, hk, rfl, rfl, ho, hg⟩ := hrel
  by_cases hlt : k < n
  ·have hc := ho.cellAt k (by omega)
   rw [map_at _ _ (by rw [marked_length, unhide HN]; exact hlt)] at hc
   have hf := ho.frozenAt k
   have HO := hide ho
   clear ho
   go_wp2
   have hst := (unhide HO).stored k (.int .u8 ((k0 + k) % 256))
   refine ⟨⟨k + 1, by omega, by go_num, by go_num, ?_, ?_⟩, by simp [intOf]; omega⟩
   ·rw [← marked_succ, List.map_set]
    exact hst.1
   ·exact grown_trans hg hst.2
  ·go_wp2
   go_ret
   obtain rfl : k = n := by omega
   refine ⟨rfl, ?_, hg⟩
   unfold Own
   rw [marks_length]
   have e : marked l k0 k = marks k0 k := by have := marked_all l k0; rw [unhide HN] at this; exact this
   rw [← e]
   exact ho

set_option maxHeartbeats 400000 in
set_option maxRecDepth 100000 in
theorem markByteS_nil (k0 : Int) (w : World) (hk0 : 0 ≤ k0) (hk1 : k0 ≤ 9000000000000000000) :
  Calls Tryz.prog 55 #[.slice none 0 0, .int .i64 k0] w fun e w' => e = .returned (.int .i64 k0) ∧ w = w' := by
 go_enter Tryz.func55, Tryz.ntmps55
 go_wp2
 go_loop [1, 5] (fun kk i => i = .int .i64 0 ∧ kk = .int .i64 k0) (fun _ i => 0)
 case atStart => exact ⟨rfl, rfl⟩
 case round =>
  obtain ⟨rfl, rfl⟩ := hrel
  go_wp2
  go_ret
  exact ⟨rfl, rfl⟩

theorem markByteS_any {B : Nat} {v : Value} {l : List Int} (k0 : Int) {w : World} (h : Own B 5 w v l) (hl : l.length ≤ 2097152) (hk0 : 0 ≤ k0) (hk1 : k0 ≤ 9000000000000000000) :
  Calls Tryz.prog 55 #[v, .int .i64 k0] w fun e w' => e = .returned (.int .i64 (k0 + l.length)) ∧ Own B 5 w' v (marks k0 l.length) ∧ w.grownBy w' v.ownBlock := by
 rcases h.form with ⟨rfl, rfl⟩ | ⟨g, cap, rfl, _⟩
 ·refine (markByteS_nil k0 w hk0 hk1).mono fun e w' ⟨he, hw⟩ => ?_
  subst hw
  exact ⟨by simpa using he, h, ⟨rfl, rfl, rfl, Nat.le_refl _, fun _ _ _ => rfl⟩⟩
 ·exact markByteS_some B g cap k0 l w h hl hk0 hk1

set_option maxHeartbeats 400000 in
set_option maxRecDepth 100000 in
theorem heldByteS_marks (a : Option Addr) (cap n : Nat) (k0 : Int) (w : World) (h : Lies w a (marks k0 n)) (hl : n ≤ 2097152) (hk0 : 0 ≤ k0) (hk1 : k0 ≤ 9000000000000000000) :
  Calls Tryz.prog 58 #[.slice a n cap, .int .i64 k0] w fun e w' => e = .returned (.int .i64 (k0 + n)) ∧ w = w' := by
 go_enter Tryz.func58, Tryz.ntmps58
 go_wp2
 go_loop [1, 5] (fun kk i => ∃ k : Nat, k ≤ n ∧ i = .int .i64 k ∧ kk = .int .i64 (k0 + k)) (fun _ i => n - (intOf i).toNat)
 case atStart => exact ⟨0, Nat.zero_le _, rfl, by simp⟩
 case round =>
  obtain ⟨k, hk, rfl, rfl⟩ := hrel
  by_cases hlt : k < n
  ·obtain ⟨b, off, rfl, hbl, hc⟩ := h.here (k := k) (by rw [marks_length]; exact hlt)
   rw [marks_getD _ _ _ hlt] at hc
   go_wp2
   exact ⟨⟨k + 1, by omega, by go_num, by go_num⟩, by simp [intOf]; omega⟩
  ·go_wp2
   go_ret
   obtain rfl : k = n := by omega
   exact ⟨rfl, rfl⟩

end Go.Proofs.YtmlcmkoefelolaaGreat

namespace Go.Proofs.YtmlcmkoefelolaaGreat
open Go.RowKit
set_option linter.unusedVariables false

set_option maxHeartbeats 800000 in
set_option maxRecDepth 100000 in
theorem markByteSS_any {B E : Nat} {v : Value} {n : List (List Int)} (k0 : Int) {w : World} (h : OwnN B E 44 5 w v n) (hl : n.length ≤ 1048576) (hl2 : ∀ i, i < n.length → (n.getD i []).length ≤ 1048576) (hk0 : 0 ≤ k0) (hk1 : k0 ≤ 8000000000000000000) :
  Calls Tryz.prog 54 #[v, .int .i64 k0] w fun e w' => e = .returned (.int .i64 (pos n k0 n.length)) ∧ OwnN B E 44 5 w' v (markL n k0) ∧ Outside B E w w' := by
 obtain ⟨a, cap, rfl, hcl, hcm⟩ := h.ownL.hasL.form
 unfold maxLen at hcm
 obtain ⟨vs, ho, hu, hd, hv, he⟩ := h
 have hP := hide (fun j (hj : j ≤ n.length) => (show k0 ≤ pos n k0 j ∧ pos n k0 j ≤ 8000002000000000000 from by
  have := pos_le n k0 1048576 hl2 j hj
  have : j * 1048576 ≤ 1048576 * 1048576 := Nat.mul_le_mul_right _ (by omega)
  omega))
 have hPS := hide (pos_succ n k0)
 have hP0 := hide (pos_zero n k0)
 have hMG := hide (markL_getD n k0)
 have hML := hide (markL_length n k0)
 have HU := hide hu
 have HD := hide hd
 have HE := hide he
 have HV := hide hv
 have HO := hide ho
 have HL2 := hide hl2
 have hvl : vs.length = n.length := by have := ho.1; simpa using this
 clear hu hd he hv ho hl2
 generalize pos n k0 = P at *
 generalize markL n k0 = M at *
 generalize hn : n.length = m at *
 have HN := hide hn
 clear hn
 go_enter Tryz.func54, Tryz.ntmps54
 go_wp2
 go_loopw [1, 5] (fun kk i wr => ∃ k : Nat, k ≤ m ∧ i = .int .i64 k ∧ kk = .int .i64 (P k) ∧ Outside B E w wr ∧ wr.ownsRow B 44 1 (.slice a m cap) m vs ∧ Hid (∀ j, j < m → ∃ u, vs[j]? = some u ∧ Own B 5 wr u (if j < k then M.getD j [] else n.getD j []))) (fun _ i _ => m - (intOf i).toNat)
 case atStart => exact ⟨0, Nat.zero_le _, rfl, by rw [unhide hP0], Outside.refl _ _ _, unhide HO, hide (fun j hj => by obtain ⟨u, h1, h2⟩ := unhide HU j hj; exact ⟨u, h1, by simpa using h2⟩)⟩
 case round =>
  obtain ⟨k, hk, rfl, rfl, hout, hrow, hall⟩ := hrel
  by_cases hlt : k < m
  ·obtain ⟨u, hu1, hu2⟩ := unhide hall k hlt
   simp only [Nat.lt_irrefl, if_false] at hu2
   have hlk := unhide HL2 k hlt
   have hpk := unhide hP k (by omega)
   have hps := unhide hPS k hlt
   have hmg := unhide hMG k hlt
   have hcell : ∃ g, a = some ⟨g, 0, none⟩ := by
    rcases hrow.2 with ⟨hv, h0⟩ | ⟨g, cap', cur, hv, _⟩
    ·omega
    ·simp only [Value.slice.injEq] at hv; exact ⟨g, hv.1⟩
   obtain ⟨g, rfl⟩ := hcell
   have hc := World.ownsRow.cellAt hrow k (by omega)
   rw [hu1] at hc
   have hgl := (World.ownsRow.lt hrow g rfl)
   have hue := unhide HE k u
   have hude := hide hue
   clear hue
   generalize n.getD k [] = lab at *
   have HU2 := hide hu2
   have hur : ∃ ua uc, u = .slice ua lab.length uc := by obtain ⟨ua, uc, e, _⟩ := hu2.lies; exact ⟨ua, uc, e⟩
   clear hu2
   obtain ⟨ua, uc, rfl⟩ := hur
   have HR := hide hrow
   clear hrow
   go_wp2_with fail
   refine (markByteS_any (P k) (unhide HU2) (by omega) (by omega) (by omega)).mono ?_
   rintro e w1 ⟨rfl, o1, g1⟩
   go_wp2_with fail
   have hrange : ∀ q, (Value.slice ua lab.length uc).ownBlock = some q → B ≤ q ∧ q < E := fun q hq => ⟨((unhide HU2).lt q hq).1, unhide hude q hu1 hq⟩
   have hner : ∀ q, (Value.slice ua lab.length uc).ownBlock = some q → q ≠ g := by
    intro q hq e
    subst e
    rcases (unhide HU2).2 with ⟨h1, _⟩ | ⟨g', c', cur, h1, _, h2, _⟩
    ·rw [h1] at hq; simp [Value.ownBlock] at hq
    ·rw [h1] at hq
     simp [Value.ownBlock] at hq
     subst hq
     rcases (unhide HR).2 with ⟨h3, _⟩ | ⟨g3, c3, cur3, h3, _, h4, _⟩
     ·simp at h3
     ·simp only [Value.slice.injEq, Option.some.injEq, Addr.mk.injEq] at h3
      obtain ⟨⟨h5, _⟩, _⟩ := h3
      subst h5
      rw [h2] at h4
      simp at h4
   refine ⟨⟨k + 1, by omega, by go_num, by rw [hps], hout.trans (outside_grown g1 hrange), World.ownsRow.kept (unhide HR) g1 (.inr (fun e => hner g e.symm rfl)), hide ?_⟩, by simp [intOf]; omega⟩
   intro j hj
   by_cases e : j = k
   ·subst e
    refine ⟨_, hu1, ?_⟩
    rw [if_pos (by omega), hmg]
    exact o1
   ·obtain ⟨u', h1, h2⟩ := unhide hall j hj
    have : j < k + 1 ↔ j < k := by omega
    rw [show (if j < k + 1 then M.getD j [] else n.getD j []) = (if j < k then M.getD j [] else n.getD j []) by simp [this]]
    refine ⟨u', h1, h2.kept g1 ?_⟩
    rcases Nat.lt_or_gt_of_ne e with e1 | e1
    ·exact unhide HD j k u' _ e1 h1 hu1
    ·rcases unhide HD k j _ u' e1 hu1 h1 with e2 | e2
     ·cases hq : u'.ownBlock with
      | none => exact .inl rfl
      | some q => right; rw [e2]; simp
     ·exact .inr (fun e3 => e2 e3.symm)
  ·obtain rfl : k = m := by omega
   go_wp2_with fail
   go_ret
   have hMk := unhide hML
   refine ⟨rfl, ⟨vs, by rw [hMk]; exact hrow, fun i hi => ?_, unhide HD, unhide HV, unhide HE⟩, hout⟩
   rw [hMk] at hi
   obtain ⟨u, h1, h2⟩ := unhide hall i hi
   rw [if_pos hi] at h2
   exact ⟨u, h1, h2⟩

set_option maxHeartbeats 400000 in
set_option maxRecDepth 100000 in
theorem markName_any {B E : Nat} {v : Value} {n : List (List Int)} (k0 : Int) {w : World} (h : OwnN B E 44 5 w v n) (hl : n.length ≤ 1048576) (hl2 : ∀ i, i < n.length → (n.getD i []).length ≤ 1048576) (hk0 : 0 ≤ k0) (hk1 : k0 ≤ 8000000000000000000) :
  Calls Tryz.prog 19 #[.agg #[v], .int .i64 k0] w fun e w' => e = .returned (.int .i64 (pos n k0 n.length)) ∧ OwnN B E 44 5 w' v (markL n k0) ∧ Outside B E w w' := by
 have hc := hide (markByteSS_any k0 (h.below (below_alloc (.cells #[v] 32))) hl hl2 hk0 hk1)
 obtain ⟨a, cap, rfl, _⟩ := h.ownL.hasL.form
 have HL2 := hide hl2
 clear h hl2
 generalize pos n k0 n.length = P at *
 go_enter Tryz.func19, Tryz.ntmps19
 go_wp2_with fail
 refine (unhide hc).mono ?_
 rintro e w1 ⟨rfl, o1, x1⟩
 go_wp2_with fail
 go_ret
 exact ⟨rfl, o1, (Below.outside (below_alloc _)).trans x1⟩
end Go.Proofs.YtmlcmkoefelolaaGreat
