/-
  Contracts of the name helpers of the laws (szName, toName, eqName): what each answers and what it leaves in memory. Plain facts: lists of texts of the call's own: one more behind, two joined, a part. No program is named here. Contracts of the helpers of the laws for records (szRr, eqRr).
-/
import Derived.Test.YtfpenlobnnlnfaaGreatDoorMsgTextG04
import Derived.Test.YtfpenlobnnlnfaaGreatDoorMsgTextG00
import Derived.Test.YtfpenlobnnlnfaaGreatDoorMsgTextG01
import Derived.Laws.ResultCell
import Derived.Laws.Rows
import Derived.Test.YtfpenlobnnlnfaaGreatDoorMsgTextG02
namespace Go.Proofs.YtfpenlobnnlnfaaGreatDoor
open Go.RowKit
set_option linter.unusedVariables false
set_option maxHeartbeats 400000
set_option maxRecDepth 100000

theorem info_bs : (Tryz.prog.info? 28).map (fun i => (i.zero, i.size, i.bytes)) = some (some (.slice none 0 0), 1, 24) := by kernel_rfl

theorem szByteS_any (a : Option Addr) (len cap : Nat) (left : Int) (w : World) (hm : len ≤ maxLen) (h0 : 0 ≤ left) (h1 : left ≤ 1048576) :
  Calls Tryz.prog 54 #[.slice a len cap, .int .i64 left] w fun e w' => e = .returned (.int .i64 (if (len : Int) ≤ left then left - len else -1)) ∧ w = w' := by
 unfold maxLen at hm
 by_cases h : (len : Int) ≤ left
 ·rw [if_pos h]
  go_enter Tryz.func54, Tryz.ntmps54
  go_wp2
  go_ret
  exact ⟨rfl, rfl⟩
 ·rw [if_neg h]
  go_enter Tryz.func54, Tryz.ntmps54
  go_wp2
  go_ret
  exact ⟨rfl, rfl⟩

theorem szByteSS_any (a : Option Addr) (cap : Nat) (n : List (List Int)) (left : Int) (w : World) (h : LiesL w a n) (hm : n.length ≤ maxLen) (hm2 : ∀ i, i < n.length → (n.getD i []).length ≤ maxLen) (h0 : 0 ≤ left) (h1 : left ≤ 1048576) :
  Calls Tryz.prog 88 #[.slice a n.length cap, .int .i64 left] w fun e w' => (∃ r : Int, e = .returned (.int .i64 r) ∧ -1 ≤ r ∧ r ≤ left ∧ (0 ≤ r → (n.length : Int) ≤ left ∧ ∀ i, i < n.length → ((n.getD i []).length : Int) ≤ left)) ∧ w = w' := by
 generalize hn : n.length = m at *
 have HN := UC hn
 clear hn
 have HM := UC hm2
 clear hm2
 unfold maxLen at hm
 by_cases hlen : (m : Int) ≤ left
 ·go_enter Tryz.func88, Tryz.ntmps88
  go_wp2
  go_loop [1, 5] (fun r i => ∃ (k : Nat) (x : Int), k ≤ m ∧ i = .int .i64 k ∧ r = .int .i64 x ∧ 0 ≤ x ∧ x ≤ left ∧ Hid (∀ j, j < k → ((n.getD j []).length : Int) ≤ left)) (fun _ i => m - (intOf i).toNat)
  case atStart => exact ⟨0, left - m, Nat.zero_le _, rfl, rfl, by omega, by omega, UC (fun j hj => absurd hj (Nat.not_lt_zero _))⟩
  case round =>
   obtain ⟨k, x, hk, rfl, rfl, hx0, hx1, hall⟩ := hrel
   by_cases hlt : k < m
   ·obtain ⟨b, off, ia, ic, rfl, hbl, hc, hLi⟩ := h.here (k := k) (by rw [UB HN]; exact hlt)
    have hmk := UB HM k hlt
    have hone := UC (fun (hs : ((n.getD k []).length : Int) ≤ left) => (show ∀ j, j < k + 1 → ((n.getD j []).length : Int) ≤ left from fun j hj => by
      by_cases e : j = k
      ·subst e; exact hs
      ·exact UB hall j (by omega)))
    generalize (n.getD k []).length = lk at *
    go_wp2_with fail
    refine (szByteS_any ia lk ic x _ hmk hx0 (by omega)).mono ?_
    rintro e w1 ⟨rfl, rfl⟩
    by_cases hle : (lk : Int) ≤ x
    ·rw [if_pos hle]
     have hy : 0 ≤ x - lk := by omega
     go_wp2
     exact ⟨⟨k + 1, x - lk, by omega, by go_num, rfl, by omega, by omega, UC (UB hone (by omega))⟩, by simp [intOf]; omega⟩
    ·rw [if_neg hle]
     go_wp2
     go_ret
     exact ⟨⟨-1, rfl, by omega, by omega, fun hneg => by omega⟩, rfl⟩
   ·obtain rfl : k = m := by omega
    go_wp2
    go_ret
    exact ⟨⟨x, rfl, by omega, hx1, fun _ => by first | exact ⟨hlen, UB hall⟩ | (have hq := UB hall; simpa using hq)⟩, rfl⟩
 ·go_enter Tryz.func88, Tryz.ntmps88
  go_wp2
  go_ret
  exact ⟨⟨-1, rfl, by omega, by omega, fun hneg => by omega⟩, rfl⟩

theorem szName_any (a : Option Addr) (cap : Nat) (n : List (List Int)) (left : Int) (w : World) (h : LiesL w a n) (hm : n.length ≤ maxLen) (hm2 : ∀ i, i < n.length → (n.getD i []).length ≤ maxLen) (h0 : 0 ≤ left) (h1 : left ≤ 1048576) :
  Calls Tryz.prog 53 #[.agg #[.slice a n.length cap], .int .i64 left] w fun e w' => (∃ r : Int, e = .returned (.int .i64 r) ∧ -1 ≤ r ∧ r ≤ left ∧ (0 ≤ r → (n.length : Int) ≤ left ∧ ∀ i, i < n.length → ((n.getD i []).length : Int) ≤ left)) ∧ Below w.heap.size w w' := by
 have hA := h.below (UI (.cells #[.slice a n.length cap] 65))
 have hsz := UC (szByteSS_any a cap n left _ hA hm hm2 h0 h1)
 generalize hn : n.length = m at *
 have HN := UC hn
 clear hn
 have HM := UC hm2
 clear hm2
 go_enter Tryz.func53, Tryz.ntmps53
 go_wp2_with fail
 refine (UB hsz).mono ?_
 rintro e w1 ⟨⟨r, rfl, hr0, hr1, hr2⟩, rfl⟩
 have HR := UC hr2
 clear hr2
 by_cases hneg : r < 0
 ·go_wp2
  go_ret
  exact ⟨⟨-1, rfl, by omega, by omega, fun hneg => by omega⟩, UI _⟩
 ·go_wp2
  go_ret
  exact ⟨⟨r, rfl, hr0, hr1, UB HR⟩, UI _⟩

theorem toByteSS_any (a : Option Addr) (cap : Nat) (n : List (List Int)) (w : World) (h : LiesL w a n) (hl : n.length ≤ 1048576) (hl2 : ∀ i, i < n.length → (n.getD i []).length ≤ 1048576) :
  Calls Tryz.prog 95 #[.slice a n.length cap] w fun e w' => ∃ v, e = .returned v ∧ OwnL w.heap.size 28 5 w' v n ∧ Below w.heap.size w w' := by
 have hmk := run_make_row' (P := Tryz.prog) 47 28 (.slice none 0 0) 24 Tryz.underlying47 info_bs rfl .i64 .i64 n.length (by omega) (by omega)
 generalize hn : n.length = m at *
 have HN := UC hn
 clear hn
 have HL := UC hl2
 clear hl2
 go_enter Tryz.func95, Tryz.ntmps95
 go_wp2
 go_loopw [4] (fun i wr => ∃ (k : Nat) (xs : List Value), k ≤ m ∧ i = .int .i64 k ∧ wr.ownsRow w.heap.size 28 1 (.slice (some ⟨w.heap.size, 0, none⟩) m m) m xs ∧ Hid (∀ j, j < k → ∃ u, xs[j]? = some u ∧ Own (w.heap.size + 1) 5 wr u (n.getD j [])) ∧
   Hid (∀ (i j : Nat) (u u' : Value), i < j → j < k → xs[i]? = some u → xs[j]? = some u' → u.ownBlock = none ∨ u.ownBlock ≠ u'.ownBlock) ∧ Below w.heap.size w wr) (fun i _ => m - (intOf i).toNat)
 case atStart => exact ⟨0, _, Nat.zero_le _, rfl, ownsRow_of_rowIs (World.rowIs_made w _ m 28) (Nat.le_refl _) (by unfold maxLen; omega), UC (fun j hj => absurd hj (Nat.not_lt_zero _)), UC (fun i j u u' _ hj => absurd hj (Nat.not_lt_zero _)), UI _⟩
 case round =>
  obtain ⟨k, xs, hk, rfl, ho, hown, hdis, hb⟩ := hrel
  by_cases hlt : k < m
  ·obtain ⟨b, off, ia, ic, rfl, hbl, hc0, hLi⟩ := h.here (k := k) (by rw [UB HN]; exact hlt)
   have hc := (hb.cell (p := ⟨b, off + k, none⟩) hbl).trans hc0
   have hLi' := hLi.below hb
   have hlk := UB HL k hlt
   clear hc0 hLi
   have HO := UC ho
   clear ho
   generalize hlab : n.getD k [] = lab at *
   have HLAB := UC hlab
   clear hlab
   go_wp2_with fail
   refine (toByteS_any ia ic lab _ hLi' hlk).mono ?_
   rintro e w1 ⟨u, rfl, ou, b1⟩
   obtain ⟨ua, uc, rfl, _⟩ := ou.lies
   have hsz : w.heap.size < wr.heap.size := (World.ownsRow.lt (UB HO) w.heap.size rfl).2
   have ho1 := World.ownsRow.kept (UB HO) (grown_of_below b1) (.inr (by simp [Value.ownBlock]))
   have hxl : xs.length = m := by have := ho1.1; simpa using this
   have hf := World.ownsRow.frozenAt ho1 k
   have hcell : ∃ y, w1.cell? ⟨w.heap.size, k, none⟩ = some y := by
    rw [World.ownsRow.cellAt ho1 k (by omega), List.getElem?_eq_getElem (by omega)]; exact ⟨_, rfl⟩
   obtain ⟨y, hcy⟩ := hcell
   have hst := UC (World.ownsRow.stored ho1 k (.slice ua lab.length uc))
   have HO1 := UC ho1
   clear ho1
   go_wp2
   have hst1 := (UB hst).1
   have hst2 := (UB hst).2
   have hxl' : k < xs.length := by omega
   refine ⟨⟨k + 1, xs.set k (.slice ua lab.length uc), by omega, by go_num, hst1, UC ?_, UC ?_, ?_⟩, by simp [intOf]; omega⟩
   ·intro j hj
    by_cases e : j = k
    ·subst e
     refine ⟨.slice ua lab.length uc, by simp [hxl'], ?_⟩
     rw [UB HLAB]
     refine (ou.mono (by omega)).kept hst2 ?_
     cases hu : (Value.slice ua lab.length uc).ownBlock with
     | none => exact .inl rfl
     | some q =>
      right
      have := (ou.lt q hu).1
      intro hq
      simp at hq
      omega
    ·obtain ⟨u', h1, h2⟩ := UB hown j (by omega)
     refine ⟨u', by rw [List.getElem?_set_ne (by omega)]; exact h1, ?_⟩
     refine (h2.below b1).kept hst2 ?_
     cases hu : u'.ownBlock with
     | none => exact .inl rfl
     | some q =>
      right
      have := (h2.lt q hu).1
      intro hq
      simp at hq
      omega
   ·intro i j p p' hij hj hp hp'
    rw [List.getElem?_set_ne (by omega)] at hp
    by_cases e : j = k
    ·subst e
     rw [List.getElem?_set_self hxl'] at hp'
     obtain rfl : Value.slice ua lab.length uc = p' := by simpa using hp'
     obtain ⟨u', h1, h2⟩ := UB hown i hij
     rw [hp] at h1
     obtain rfl : p = u' := by simpa using h1
     cases hq : p.ownBlock with
     | none => exact .inl rfl
     | some q =>
      right
      intro hq'
      have h3 := (h2.lt q hq).2
      have h4 := (ou.lt q hq'.symm).1
      omega
    ·rw [List.getElem?_set_ne (by omega)] at hp'
     exact UB hdis i j p p' hij (by omega) hp hp'
   ·exact ((UG hb b1).grown hst2 (UG hb b1).size (fun q hq => by simp at hq; omega))
  ·obtain rfl : k = m := by omega
   go_wp2
   go_ret
   refine ⟨_, rfl, ⟨xs, by rw [UB HN]; exact ho, fun i hi => ?_, fun i j u u' hij hu hu' => ?_⟩, hb⟩
   ·obtain ⟨u, h1, h2⟩ := UB hown i (by rw [← UB HN]; exact hi)
    exact ⟨u, h1, h2.mono (by omega)⟩
   ·have hxl : xs.length = k := by have := ho.1; simpa using this
    exact UB hdis i j u u' hij (by rw [← hxl]; exact (List.getElem?_eq_some_iff.1 hu').1) hu hu'

theorem toName_any (a : Option Addr) (cap : Nat) (n : List (List Int)) (w : World) (h : LiesL w a n) (hl : n.length ≤ 1048576) (hl2 : ∀ i, i < n.length → (n.getD i []).length ≤ 1048576) :
  Calls Tryz.prog 68 #[.agg #[.slice a n.length cap]] w fun e w' => ∃ v, e = .returned (.agg #[v]) ∧ OwnL w.heap.size 28 5 w' v n ∧ Below w.heap.size w w' := by
 have hb3 : Below w.heap.size w (((w.alloc (.cells #[.slice a n.length cap] 65)).alloc (.cells #[.slice none 0 0] 49)).alloc (.cells #[.slice none 0 0] 49)) :=
  ((UI _).alloc (UI _).size _).alloc ((UI _).alloc (UI _).size _).size _
 have hA := UC (h.below hb3)
 have HL2 := UC hl2
 clear hl2
 have HH := UC h
 clear h
 go_enter Tryz.func68, Tryz.ntmps68
 go_wp2_with fail
 refine (toByteSS_any a cap n _ (UB hA) hl (UB HL2)).mono ?_
 rintro e w1 ⟨v, rfl, o1, b1⟩
 have b2 := UG hb3 b1
 obtain ⟨hsz, h1, h2⟩ := box3 w (.cells #[.slice a n.length cap] 65) #[.slice none 0 0] #[.slice none 0 0] 49 49
 have k1 := (b1.block _ (by rw [hsz]; omega)).trans h1
 have k2 := (b1.block _ (by rw [hsz]; omega)).trans h2
 obtain ⟨va, vc, rfl, _⟩ := o1.hasL.form
 have o2 := UC o1
 clear o1
 have c2 := VE k2 0
 have c1 := VE k1 0
 have f2 := VG k2 0
 have f1 := VG k1 0
 have m2 := block_set k2 (.slice va n.length vc)
 have m1 := block_set (block_other k1 (b' := w.heap.size + 1 + 1) (by omega) 0 (.slice va n.length vc)) (.slice va n.length vc)
 have d2 := VE m2 0
 have d1 := VE (block_other k1 (b' := w.heap.size + 1 + 1) (by omega) 0 (.slice va n.length vc)) 0
 have g1 := VG (block_other k1 (b' := w.heap.size + 1 + 1) (by omega) 0 (.slice va n.length vc)) 0
 simp only [List.getElem?_toArray, List.getElem?_cons_zero] at c1 c2 d1 d2
 have M1 := UC m1
 clear m1 m2 k1 k2 h1 h2
 have B1 := UC b1
 clear b1
 have HSZ := UC hsz
 clear hsz hb3
 go_wp2
 refine bodyPost_ret (results_cell_row rfl _ _ (w.heap.size + 1) 49 #[.slice va n.length vc] (0, 0) _ rfl (UB M1) Tryz.underlying49 rfl (by kernel_rfl)) rfl ?_
 refine ⟨_, rfl, ?_, (b2.setCell (by show w.heap.size ≤ w.heap.size + 1 + 1; omega) _).setCell (by show w.heap.size ≤ w.heap.size + 1; omega) _⟩
 have o3 := UB o2
 rw [UB HSZ] at o3
 exact ((o3.kept (grown_setCell _ _ _) (by show w.heap.size + 1 + 1 < _; omega)).kept (grown_setCell _ _ _) (by show w.heap.size + 1 < _; omega)).mono (by omega)

theorem Has.draws {w : World} {v : Value} {l : List Int} (h : Has w v l) (n : Nat) : Has (w.drewN n) v l := h.below (below_draws n)

theorem eqByteS_has {v v' : Value} {l : List Int} {w : World} (h : Has w v l) (h' : Has w v' l) (hl : l.length ≤ 2097152) :
  Calls Tryz.prog 8 #[v, v'] w fun e w' => e = .returned (.bool true) ∧ ∃ n, w' = w.drewN n := by
 obtain ⟨a, cap, rfl, hL⟩ := h.form
 obtain ⟨a', cap', rfl, hL'⟩ := h'.form
 exact eqByteS_eq a a' cap cap' l w hL hL' hl

theorem eqByteSS_has {v v' : Value} {n : List (List Int)} {w : World} (h : HasL w v n) (h' : HasL w v' n) (hl2 : ∀ i, i < n.length → (n.getD i []).length ≤ 2097152) :
  Calls Tryz.prog 118 #[v, v'] w fun e w' => e = .returned (.bool true) ∧ ∃ n, w' = w.drewN n := by
 obtain ⟨a, cap, rfl, hl, hm⟩ := h.form
 obtain ⟨a', cap', rfl, hl', hm'⟩ := h'.form
 unfold maxLen at hm hm'
 have HL := UC hl2
 clear hl2
 generalize hn : n.length = m at *
 have HN := UC hn
 clear hn
 go_enter Tryz.func118, Tryz.ntmps118
 go_wp2
 go_loopw [5] (fun i wr => ∃ k : Nat, k ≤ m ∧ i = .int .i64 k ∧ ∃ q, wr = w.drewN q) (fun i _ => m - (intOf i).toNat)
 case atStart => exact ⟨0, Nat.zero_le _, rfl, 0, rfl⟩
 case round =>
  obtain ⟨k, hk, rfl, q, hq⟩ := hrel
  have hwr : Below w.heap.size w wr := by rw [hq]; exact below_draws q
  have HQ := UC hq
  clear hq
  by_cases hlt : k < m
  ·obtain ⟨b, off, u, rfl, hbl, hc, hu⟩ := (h.below hwr).here (k := k) (by rw [UB HN]; exact hlt)
   obtain ⟨b', off', u', rfl, hbl', hc', hu'⟩ := (h'.below hwr).here (k := k) (by rw [UB HN]; exact hlt)
   have hlk := UB HL k hlt
   generalize n.getD k [] = lab at *
   have HU := UC hu
   have HU' := UC hu'
   obtain ⟨ua, uc, rfl, _⟩ := hu.form
   obtain ⟨ua', uc', rfl, _⟩ := hu'.form
   clear hu hu'
   go_wp2
   go_quiet (first | (exact Calls.quiet_of (v := .bool true) (eqByteS_has ((UB HU).draws _) ((UB HU').draws _) hlk)))
   go_wp2
   exact ⟨⟨k + 1, by omega, by go_num, q + nq, by rw [UB HQ, World.drewN_drewN]⟩, by simp [intOf]; omega⟩
  ·go_wp2
   go_ret
   exact ⟨rfl, q, UB HQ⟩

theorem eqName_has {v v' : Value} {n : List (List Int)} {w : World} (h : HasL w v n) (h' : HasL w v' n) (hl2 : ∀ i, i < n.length → (n.getD i []).length ≤ 2097152) :
  Calls Tryz.prog 86 #[.agg #[v], .agg #[v']] w fun e w' => e = .returned (.bool true) ∧ Below w.heap.size w w' := by
 have hb2 : Below w.heap.size w ((w.alloc (.cells #[v] 49)).alloc (.cells #[v'] 49)) := (UI _).alloc (UI _).size _
 have hc := UC (eqByteSS_has (h.below hb2) (h'.below hb2) hl2)
 have HL := UC hl2
 clear hl2
 obtain ⟨a, cap, rfl, _⟩ := h.form
 obtain ⟨a', cap', rfl, _⟩ := h'.form
 have H := UC h
 have H' := UC h'
 clear h h'
 go_enter Tryz.func86, Tryz.ntmps86
 go_wp2_with fail
 refine (UB hc).mono ?_
 rintro e w1 ⟨rfl, q, rfl⟩
 go_wp2
 go_ret
 exact ⟨rfl, UG hb2 (below_draws q)⟩
end Go.Proofs.YtfpenlobnnlnfaaGreatDoor

namespace Go.Proofs.YtfpenlobnnlnfaaGreatDoor
open Go.RowKit

theorem OwnL.snoc {B : Nat} {el eb : TypeId} {w w' : World} {v v' u : Value} {n : List (List Int)} {l : List Int} {vs : List Value} (ho : w.ownsRow B el 1 v n.length vs)
  (hu : ∀ i, i < n.length → ∃ x, vs[i]? = some x ∧ Own B eb w x (n.getD i [])) (hd : ∀ (i j : Nat) (x x' : Value), i < j → vs[i]? = some x → vs[j]? = some x' → x.ownBlock = none ∨ x.ownBlock ≠ x'.ownBlock)
  (hul : Own B eb w u l) (hnew : ∀ (i : Nat) (x : Value), vs[i]? = some x → x.ownBlock = none ∨ x.ownBlock ≠ u.ownBlock)
  (ho' : w'.ownsRow B el 1 v' (n.length + 1) (vs ++ [u])) (hg : w.grownBy w' v.ownBlock) (hne : el ≠ eb) : OwnL B el eb w' v' (n ++ [l]) := by
 have hl : vs.length = n.length := by have := ho.1; simpa using this
 have apart : ∀ x m, Own B eb w x m → x.ownBlock = none ∨ x.ownBlock ≠ v.ownBlock := by
  intro x m hx
  rcases hx.2 with ⟨rfl, _⟩ | ⟨g, cap, cur, rfl, _, hgx, _⟩
  ·exact .inl rfl
  ·right
   intro e
   rcases ho.2 with ⟨rfl, _⟩ | ⟨g', cap', cur', rfl, _, hgv, _⟩
   ·simp [Value.ownBlock] at e
   ·simp [Value.ownBlock] at e
    subst e
    rw [hgx] at hgv
    simp at hgv
    exact hne hgv.2.symm
 refine ⟨vs ++ [u], by simpa using ho', fun i hi => ?_, fun i j x x' hij hx hx' => ?_⟩
 ·simp at hi
  by_cases e : i < n.length
  ·obtain ⟨x, h1, h2⟩ := hu i e
   refine ⟨x, by rw [List.getElem?_append_left (by omega)]; exact h1, ?_⟩
   have e2 : (n ++ [l]).getD i [] = n.getD i [] := by simp [List.getD, List.getElem?_append_left e]
   rw [e2]
   exact h2.kept hg (apart x _ h2)
  ·obtain rfl : i = n.length := by omega
   refine ⟨u, by rw [List.getElem?_append_right (by omega)]; simp [hl], ?_⟩
   have e2 : (n ++ [l]).getD n.length [] = l := by simp [List.getD]
   rw [e2]
   exact hul.kept hg (apart u _ hul)
 ·have hj : j < (vs ++ [u]).length := (List.getElem?_eq_some_iff.1 hx').1
  simp at hj
  rw [List.getElem?_append_left (by omega)] at hx
  by_cases e : j < vs.length
  ·rw [List.getElem?_append_left e] at hx'
   exact hd i j x x' hij hx hx'
  ·obtain rfl : j = vs.length := by omega
   rw [List.getElem?_append_right (by omega)] at hx'
   simp at hx'
   subst hx'
   exact hnew i x hx


theorem lit_grown {w w' : World} {o : Obj} {n c : Nat} (g : (w.alloc o).grownBy w' (Value.slice (some ⟨w.heap.size, 0, none⟩) n c).ownBlock) : Below w.heap.size w w' :=
 (UI o).grown g (UI o).size (fun k hk => by simp [Value.ownBlock] at hk; omega)

theorem box2 (w : World) (o : Obj) (c2 : Array Value) (t2 : TypeId) :
  ((w.alloc o).alloc (.cells c2 t2)).heap.size = w.heap.size + 2 ∧ ((w.alloc o).alloc (.cells c2 t2)).heap[w.heap.size]? = some o ∧ ((w.alloc o).alloc (.cells c2 t2)).heap[w.heap.size + 1]? = some (.cells c2 t2) := by
 have e1 : (w.alloc o).heap.size = w.heap.size + 1 := by show (w.heap.push o).size = _; simp
 have e2 : ((w.alloc o).alloc (.cells c2 t2)).heap.size = w.heap.size + 1 + 1 := by rw [← e1]; show ((w.alloc o).heap.push _).size = _; simp
 refine ⟨e2, UE (UI _) (heap_alloc_new w o), ?_⟩
 rw [← e1]; exact heap_alloc_new _ _
theorem below2 (w : World) (o o' : Obj) : Below w.heap.size w ((w.alloc o).alloc o') := (UI _).alloc (UI _).size _

end Go.Proofs.YtfpenlobnnlnfaaGreatDoor

namespace Go.Proofs.YtfpenlobnnlnfaaGreatDoor
open Go.RowKit
set_option linter.unusedVariables false
set_option maxHeartbeats 1000000
set_option maxRecDepth 100000

theorem szIntS_any (a : Option Addr) (len cap : Nat) (left : Int) (w : World) (hm : len ≤ maxLen) (h0 : 0 ≤ left) (h1 : left ≤ 1048576) :
  Calls Tryz.prog 55 #[.slice a len cap, .int .i64 left] w fun e w' => e = .returned (.int .i64 (if (len : Int) ≤ left then left - len else -1)) ∧ w = w' := by
 unfold maxLen at hm
 by_cases h : (len : Int) ≤ left
 ·rw [if_pos h]
  have hy : 0 ≤ left - len := by omega
  go_enter Tryz.func55, Tryz.ntmps55
  go_wp2
  go_ret
  exact ⟨rfl, rfl⟩
 ·rw [if_neg h]
  have hy : left - len < 0 := by omega
  go_enter Tryz.func55, Tryz.ntmps55
  go_wp2
  go_ret
  exact ⟨rfl, rfl⟩

theorem szRr_any (an : Option Addr) (cn : Nat) (ato : Option Addr) (ct : Nat) (ax : Option Addr) (cx : Nat) (ai : Option Addr) (ci : Nat) (r : Rec) (left : Int) (w : World) (h : InR w an ato ax ai r) (hm : SizeR maxLen r) (h0 : 0 ≤ left) (h1 : left ≤ 1048576) :
  Calls Tryz.prog 35 #[(.agg #[.slice an r.name.length cn, .int .i64 r.type, .int .i64 r.ttl, .int .i64 r.addr, .slice ato r.to.length ct, .slice ax r.text.length cx, .slice ai r.nums.length ci]), .int .i64 left] w fun e w' => (∃ y : Int, e = .returned (.int .i64 y) ∧ -1 ≤ y ∧ y ≤ left ∧ (0 ≤ y → SizeR left.toNat r)) ∧ Below w.heap.size w w' := by
 have b0 := UI (w := w) (.cells #[.slice an r.name.length cn, .int .i64 r.type, .int .i64 r.ttl, .int .i64 r.addr, .slice ato r.to.length ct, .slice ax r.text.length cx, .slice ai r.nums.length ci] 71)
 have k0 := heap_alloc_new w (.cells #[.slice an r.name.length cn, .int .i64 r.type, .int .i64 r.ttl, .int .i64 r.addr, .slice ato r.to.length ct, .slice ax r.text.length cx, .slice ai r.nums.length ci] 71)
 have I0 := UC (h.below b0)
 have HM := UC hm
 clear h hm
 have k0' := UC k0
 go_enter Tryz.func35, Tryz.ntmps35
 go_wp2_with fail
 generalize w.alloc (.cells #[.slice an r.name.length cn, .int .i64 r.type, .int .i64 r.ttl, .int .i64 r.addr, .slice ato r.to.length ct, .slice ax r.text.length cx, .slice ai r.nums.length ci] 71) = W at *
 refine (szName_any an cn r.name left _ (UB I0).name (UB HM).name (UB HM).names h0 h1).mono ?_
 rintro e w1 ⟨⟨y1, rfl, ya1, yb1, yc1⟩, b1⟩
 have bb1 := UG b0 b1
 by_cases n1 : y1 < 0
 ·clear yc1 k0 b0 b1
  go_wp2
  go_ret
  exact ⟨⟨-1, rfl, by omega, by omega, fun q => by omega⟩, bb1⟩
 have Y1 := UC (yc1 (by omega))
 have k1 := UC (UE b1 k0)
 have I1 := UC ((UB I0).below b1)
 obtain ⟨d0, d1, d2, d3, d4, d5, d6⟩ := UJ (UB k1)
 clear yc1 k0 b0 b1 I0 k0'
 go_wp2_with fail
 clear d0 d1 d2 d3 d4 d5 d6
 refine (szName_any ato ct r.to y1 _ (UB I1).to (UB HM).to (UB HM).tos (by omega) (by omega)).mono ?_
 rintro e w2 ⟨⟨y2, rfl, ya2, yb2, yc2⟩, b2⟩
 have bb2 := UG bb1 b2
 by_cases n2 : y2 < 0
 ·clear yc2 b2
  go_wp2
  go_ret
  exact ⟨⟨-1, rfl, by omega, by omega, fun q => by omega⟩, bb2⟩
 have Y2 := UC (yc2 (by omega))
 have k2 := UC (UE b2 (UB k1))
 obtain ⟨d0, d1, d2, d3, d4, d5, d6⟩ := UJ (UB k2)
 clear yc2 b2 I1 k1
 have hx := (UB HM).text
 have hi := (UB HM).nums
 go_wp2_with fail
 refine (szByteS_any ax r.text.length cx y2 _ hx (by omega) (by omega)).mono ?_
 rintro e w3 ⟨rfl, rfl⟩
 by_cases n3 : (r.text.length : Int) ≤ y2
 ·rw [if_pos n3]
  have hy3 : 0 ≤ y2 - r.text.length := by omega
  have hy3' : y2 - r.text.length ≤ 1048576 := by omega
  generalize hy : y2 - (r.text.length : Int) = y3 at *
  go_wp2_with fail
  refine (szIntS_any ai r.nums.length ci y3 _ hi (by omega) (by omega)).mono ?_
  rintro e w4 ⟨rfl, rfl⟩
  by_cases n4 : (r.nums.length : Int) ≤ y3
  ·rw [if_pos n4]
   have hy4 : 0 ≤ y3 - r.nums.length := by omega
   go_wp2
   go_ret
   refine ⟨⟨y3 - r.nums.length, rfl, by omega, by omega, fun _ => ?_⟩, bb2⟩
   have p1 := UB Y1
   have p2 := UB Y2
   exact ⟨by omega, fun i hi => by have := p1.2 i hi; omega, by omega, fun i hi => by have := p2.2 i hi; omega, by omega, by omega⟩
  ·rw [if_neg n4]
   go_wp2
   go_ret
   exact ⟨⟨-1, rfl, by omega, by omega, fun q => by omega⟩, bb2⟩
 ·rw [if_neg n3]
  go_wp2
  go_ret
  exact ⟨⟨-1, rfl, by omega, by omega, fun q => by omega⟩, bb2⟩

theorem HasI.draws {w : World} {v : Value} {l : List Int} (h : HasI w v l) (n : Nat) : HasI (w.drewN n) v l := h.below (below_draws n)
theorem eqIntS_has {v v' : Value} {l : List Int} {w : World} (h : HasI w v l) (h' : HasI w v' l) (hl : l.length ≤ 2097152) :
  Calls Tryz.prog 87 #[v, v'] w fun e w' => e = .returned (.bool true) ∧ ∃ n, w' = w.drewN n := by
 obtain ⟨a, cap, rfl, hL⟩ := h.form
 obtain ⟨a', cap', rfl, hL'⟩ := h'.form
 exact eqIntS_eq a a' cap cap' l w hL hL' hl

theorem eqRr_has {vn vt vx vi un ut ux ui : Value} {r : Rec} {w : World} (h : HasR w vn vt vx vi r) (h' : HasR w un ut ux ui r) (hs : SizeR 2097152 r) :
  Calls Tryz.prog 49 #[.agg #[vn, .int .i64 r.type, .int .i64 r.ttl, .int .i64 r.addr, vt, vx, vi], .agg #[un, .int .i64 r.type, .int .i64 r.ttl, .int .i64 r.addr, ut, ux, ui]] w fun e w' => e = .returned (.bool true) ∧ Below w.heap.size w w' := by
 obtain ⟨na, nc, rfl, _⟩ := h.name.form
 obtain ⟨ta, tc, rfl, _⟩ := h.to.form
 obtain ⟨xa, xc, rfl, _⟩ := h.text.form
 obtain ⟨ia, ic, rfl, _⟩ := h.nums.form
 obtain ⟨na', nc', rfl, _⟩ := h'.name.form
 obtain ⟨ta', tc', rfl, _⟩ := h'.to.form
 obtain ⟨xa', xc', rfl, _⟩ := h'.text.form
 obtain ⟨ia', ic', rfl, _⟩ := h'.nums.form
 have b0 := below2 w (.cells #[.slice na r.name.length nc, .int .i64 r.type, .int .i64 r.ttl, .int .i64 r.addr, .slice ta r.to.length tc, .slice xa r.text.length xc, .slice ia r.nums.length ic] 77) (.cells #[.slice na' r.name.length nc', .int .i64 r.type, .int .i64 r.ttl, .int .i64 r.addr, .slice ta' r.to.length tc', .slice xa' r.text.length xc', .slice ia' r.nums.length ic'] 77)
 obtain ⟨hsz, k0, x0⟩ := box2 w (.cells #[.slice na r.name.length nc, .int .i64 r.type, .int .i64 r.ttl, .int .i64 r.addr, .slice ta r.to.length tc, .slice xa r.text.length xc, .slice ia r.nums.length ic] 77) #[.slice na' r.name.length nc', .int .i64 r.type, .int .i64 r.ttl, .int .i64 r.addr, .slice ta' r.to.length tc', .slice xa' r.text.length xc', .slice ia' r.nums.length ic'] 77
 have H0 := UC (h.below b0)
 have H0' := UC (h'.below b0)
 have HS := UC hs
 have K0 := UC k0
 have X0 := UC x0
 clear h h' hs k0 x0
 have e1 : (r.type != r.type) = false := by simp
 have e2 : (r.ttl != r.ttl) = false := by simp
 have e3 : (r.addr != r.addr) = false := by simp
 go_enter Tryz.func49, Tryz.ntmps49
 go_wp2_with fail
 generalize (w.alloc (.cells #[.slice na r.name.length nc, .int .i64 r.type, .int .i64 r.ttl, .int .i64 r.addr, .slice ta r.to.length tc, .slice xa r.text.length xc, .slice ia r.nums.length ic] 77)).alloc (.cells #[.slice na' r.name.length nc', .int .i64 r.type, .int .i64 r.ttl, .int .i64 r.addr, .slice ta' r.to.length tc', .slice xa' r.text.length xc', .slice ia' r.nums.length ic'] 77) = W at *
 refine (eqName_has (UB H0).name (UB H0').name (UB HS).names).mono ?_
 rintro e w1 ⟨rfl, b1⟩
 have bb1 := UG b0 b1
 have K1 := UC (UE b1 (UB K0))
 have X1 := UC (UE b1 (UB X0))
 have H1 := UC ((UB H0).below b1)
 have H1' := UC ((UB H0').below b1)
 obtain ⟨d0, d1, d2, d3, d4, d5, d6⟩ := UJ (UB K1)
 obtain ⟨f0, f1, f2, f3, f4, f5, f6⟩ := UJ (UB X1)
 clear b0 K0 X0 H0 H0' b1
 go_wp2_with fail
 clear d0 d1 d2 d3 d4 d5 d6 f0 f1 f2 f3 f4 f5 f6
 refine (eqName_has (UB H1).to (UB H1').to (UB HS).tos).mono ?_
 rintro e w2 ⟨rfl, b2⟩
 have bb2 := UG bb1 b2
 have K2 := UC (UE b2 (UB K1))
 have X2 := UC (UE b2 (UB X1))
 have H2 := UC ((UB H1).below b2)
 have H2' := UC ((UB H1').below b2)
 obtain ⟨d0, d1, d2, d3, d4, d5, d6⟩ := UJ (UB K2)
 obtain ⟨f0, f1, f2, f3, f4, f5, f6⟩ := UJ (UB X2)
 clear bb1 K1 X1 H1 H1' b2
 go_wp2_with fail
 clear d0 d1 d2 d3 d4 d5 d6 f0 f1 f2 f3 f4 f5 f6
 refine (eqByteS_has (UB H2).text (UB H2').text (UB HS).text).mono ?_
 rintro e w3 ⟨rfl, q3, hq3⟩
 have b3 : Below w2.heap.size w2 w3 := by rw [hq3]; exact below_draws q3
 clear hq3
 have bb3 := UG bb2 b3
 have K3 := UC (UE b3 (UB K2))
 have X3 := UC (UE b3 (UB X2))
 have H3 := UC ((UB H2).below b3)
 have H3' := UC ((UB H2').below b3)
 obtain ⟨d0, d1, d2, d3, d4, d5, d6⟩ := UJ (UB K3)
 obtain ⟨f0, f1, f2, f3, f4, f5, f6⟩ := UJ (UB X3)
 clear bb2 K2 X2 H2 H2' b3
 go_wp2_with fail
 clear d0 d1 d2 d3 d4 d5 d6 f0 f1 f2 f3 f4 f5 f6
 refine (eqIntS_has (UB H3).nums (UB H3').nums (UB HS).nums).mono ?_
 rintro e w4 ⟨rfl, q4, hq4⟩
 have b4 : Below w3.heap.size w3 w4 := by rw [hq4]; exact below_draws q4
 clear hq4
 go_wp2_with fail
 go_ret
 exact ⟨rfl, UG bb3 b4⟩
end Go.Proofs.YtfpenlobnnlnfaaGreatDoor
