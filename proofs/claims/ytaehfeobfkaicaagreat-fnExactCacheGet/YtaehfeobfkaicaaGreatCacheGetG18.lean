/-
  Contracts of the program's RrOk. Contract of the program's listOk of records. Contracts of the program's appendCounted: behind a row of the caller's own a byte with how many bytes a text has, and the text. Contracts of the program's copyBytes: new memory with the same bytes. Contracts of the program's NamePut. Contracts of the program's Put32. Contracts of the program's data: each kind's bytes.
-/
import Derived.Test.YtaehfeobfkaicaaGreatCacheGetG16
import Derived.Test.YtaehfeobfkaicaaGreatCacheGetG17
import Derived.Test.YtaehfeobfkaicaaGreatCacheGetG10
import Derived.Test.YtaehfeobfkaicaaGreatCacheGetG05
import Derived.Test.YtaehfeobfkaicaaGreatCacheGetG01
import Derived.Test.YtaehfeobfkaicaaGreatCacheGetG15
namespace Go.Proofs.YtaehfeobfkaicaaGreat
open Go.RowKit
set_option linter.unusedVariables false

theorem dataOk_A {nm to : List (List Int)} {tx nu : List Int} {tt ad : Int} : dataOk ⟨nm, 1, tt, ad, to, tx, nu⟩ = (decide (0 ≤ ad ∧ ad ≤ 4294967295) && decide (ad = ad ∧ to.length = 0 ∧ tx.length = 0 ∧ nu.length = 0)) := by
 rw [Bool.eq_iff_iff]
 simp [dataOk, show named 1 = false from rfl, show texted 1 = false from rfl]
theorem dataOk_N {nm to : List (List Int)} {tx nu : List Int} {ty tt ad : Int} (h : ty = 2 ∨ ty = 5 ∨ ty = 12) : dataOk ⟨nm, ty, tt, ad, to, tx, nu⟩ = (nameOk to && decide (ad = 0 ∧ to.length = to.length ∧ tx.length = 0 ∧ nu.length = 0)) := by
 have h1 : named ty = true := decide_eq_true (by omega)
 have h2 : texted ty = false := decide_eq_false (by omega)
 have h3 : ty ≠ 1 := by omega
 have h4 : ty ≠ 6 := by omega
 rw [Bool.eq_iff_iff]
 simp [dataOk, h1, h2, h3, h4]
 constructor
 ·rintro ⟨a, b, c, d⟩; exact ⟨b, a, c, d⟩
 ·rintro ⟨b, a, c, d⟩; exact ⟨a, b, c, d⟩
theorem dataOk_S {nm to : List (List Int)} {tx nu : List Int} {tt ad : Int} : dataOk ⟨nm, 6, tt, ad, to, tx, nu⟩ = ((nameOk to && numsOk nu) && decide (ad = 0 ∧ to.length = to.length ∧ tx.length = 0 ∧ nu.length = nu.length)) := by
 rw [Bool.eq_iff_iff]
 simp [dataOk, show named 6 = true from rfl, show texted 6 = false from rfl, numsOk]
 constructor
 ·rintro ⟨a, b, c, d⟩; exact ⟨⟨b, d⟩, a, c⟩
 ·rintro ⟨⟨b, d⟩, a, c⟩; exact ⟨a, b, c, d⟩
theorem dataOk_X {nm to : List (List Int)} {tx nu : List Int} {ty tt ad : Int} (h : ty = 16 ∨ ty = 49) : dataOk ⟨nm, ty, tt, ad, to, tx, nu⟩ = (decide (tx.length ≤ 40) && decide (ad = 0 ∧ to.length = 0 ∧ tx.length = tx.length ∧ nu.length = 0)) := by
 have h1 : named ty = false := decide_eq_false (by omega)
 have h2 : texted ty = true := decide_eq_true (by omega)
 have h3 : ty ≠ 1 := by omega
 have h4 : ty ≠ 6 := by omega
 rw [Bool.eq_iff_iff]
 simp [dataOk, h1, h2, h3, h4]
 constructor
 ·rintro ⟨a, b, c, d⟩; exact ⟨c, a, b, d⟩
 ·rintro ⟨c, a, b, d⟩; exact ⟨a, b, c, d⟩
theorem kindV_N {ty : Int} (h : ty = 2 ∨ ty = 5 ∨ ty = 12) : kindV ty = .iface 145 (.agg #[.slice none 0 0]) := by
 rcases h with rfl | rfl | rfl <;> rfl
theorem kindV_X {ty : Int} (h : ty = 16 ∨ ty = 49) : kindV ty = .iface 149 (.agg #[.slice none 0 0]) := by
 rcases h with rfl | rfl <;> rfl

set_option maxHeartbeats 1000000 in
set_option maxRecDepth 100000 in
theorem implRrOk_has {vn vt vx vi : Value} {r : Rec} {w : World} (h : HasR w vn vt vx vi r) :
  Calls Tryz.prog 82 #[.agg #[vn, .int .i64 r.type, .int .i64 r.ttl, .int .i64 r.addr, vt, vx, vi]] w fun e w' => e = .returned (.bool (rrOk r)) ∧ Below w.heap.size w w' := by
 obtain ⟨na, nc, rfl, _⟩ := h.name.form
 obtain ⟨ta, tc, rfl, _⟩ := h.to.form
 obtain ⟨xa, xc, rfl, _⟩ := h.text.form
 obtain ⟨ia, ic, rfl, _⟩ := h.nums.form
 have b0 := UI (w := w) (.cells #[.slice na r.name.length nc, .int .i64 r.type, .int .i64 r.ttl, .int .i64 r.addr, .slice ta r.to.length tc, .slice xa r.text.length xc, .slice ia r.nums.length ic] 67)
 have K0 := UC (heap_alloc_new w (.cells #[.slice na r.name.length nc, .int .i64 r.type, .int .i64 r.ttl, .int .i64 r.addr, .slice ta r.to.length tc, .slice xa r.text.length xc, .slice ia r.nums.length ic] 67))
 have H0 := UC (h.below b0)
 cases hN : nameOk r.name with
 | false =>
  have e : rrOk r = false := by unfold rrOk; rw [hN]; rfl
  rw [e]
  have HN := UC hN
  clear hN h e
  go_enter Tryz.func82, Tryz.ntmps82
  go_wp2_with fail
  generalize w.alloc (.cells #[.slice na r.name.length nc, .int .i64 r.type, .int .i64 r.ttl, .int .i64 r.addr, .slice ta r.to.length tc, .slice xa r.text.length xc, .slice ia r.nums.length ic] 67) = W at *
  refine (VP (UB H0).name).mono ?_
  rw [UB HN]
  rintro e w1 ⟨rfl, b1⟩
  go_wp2_with fail
  go_ret
  exact ⟨rfl, UG b0 b1⟩
 | true =>
  cases hT : typeOk r.type with
  | false =>
   have e : rrOk r = false := by unfold rrOk; rw [hN, hT]; rfl
   rw [e]
   have HN := UC hN
   have HT := UC hT
   clear hN hT h e
   go_enter Tryz.func82, Tryz.ntmps82
   go_wp2_with fail
   generalize w.alloc (.cells #[.slice na r.name.length nc, .int .i64 r.type, .int .i64 r.ttl, .int .i64 r.addr, .slice ta r.to.length tc, .slice xa r.text.length xc, .slice ia r.nums.length ic] 67) = W at *
   refine (VP (UB H0).name).mono ?_
   rw [UB HN]
   rintro e w1 ⟨rfl, b1⟩
   obtain ⟨d0, d1, d2, d3, d4, d5, d6⟩ := UJ (UE b1 (UB K0))
   go_wp2_with fail
   refine (implTypeOk_any r.type _).mono ?_
   rw [UB HT]
   rintro e w2 ⟨rfl, rfl⟩
   go_wp2_with fail
   go_ret
   exact ⟨rfl, UG b0 b1⟩
  | true =>
   by_cases ht : 0 ≤ r.ttl ∧ r.ttl ≤ 100000
   ·have e : rrOk r = dataOk r := by unfold rrOk; rw [hN, hT, decide_eq_true ht]; rfl
    rw [e]
    clear b0 K0 H0 e
    obtain ⟨nm, ty, tt, ad, to, tx, nu⟩ := r
    simp only at *
    rcases type_cases ty with rfl | rfl | rfl | rfl | rfl | rfl | rfl | h0
    ·rw [dataOk_A]
     cases hD : decide (0 ≤ ad ∧ ad ≤ 4294967295) with
     | true => rw [Bool.true_and]; exact rrOkData_A_true h hN ht.1 ht.2 hD
     | false => rw [Bool.false_and]; exact rrOkData_A_false h hN ht.1 ht.2 hD
    ·rw [dataOk_N (by omega)]
     cases hD : nameOk to with
     | true => rw [Bool.true_and]; exact rrOkData_N_true (kindV_N (by omega)) hT h hN ht.1 ht.2 hD
     | false => rw [Bool.false_and]; exact rrOkData_N_false (kindV_N (by omega)) hT h hN ht.1 ht.2 hD
    ·rw [dataOk_N (by omega)]
     cases hD : nameOk to with
     | true => rw [Bool.true_and]; exact rrOkData_N_true (kindV_N (by omega)) hT h hN ht.1 ht.2 hD
     | false => rw [Bool.false_and]; exact rrOkData_N_false (kindV_N (by omega)) hT h hN ht.1 ht.2 hD
    ·rw [dataOk_S]
     cases hD : (nameOk to && numsOk nu) with
     | true => rw [Bool.true_and]; exact rrOkData_S_true h hN ht.1 ht.2 hD
     | false => rw [Bool.false_and]; exact rrOkData_S_false h hN ht.1 ht.2 hD
    ·rw [dataOk_N (by omega)]
     cases hD : nameOk to with
     | true => rw [Bool.true_and]; exact rrOkData_N_true (kindV_N (by omega)) hT h hN ht.1 ht.2 hD
     | false => rw [Bool.false_and]; exact rrOkData_N_false (kindV_N (by omega)) hT h hN ht.1 ht.2 hD
    ·rw [dataOk_X (by omega)]
     cases hD : decide (tx.length ≤ 40) with
     | true => rw [Bool.true_and]; exact rrOkData_X_true (kindV_X (by omega)) hT h hN ht.1 ht.2 hD
     | false => rw [Bool.false_and]; exact rrOkData_X_false (kindV_X (by omega)) hT h hN ht.1 ht.2 hD
    ·rw [dataOk_X (by omega)]
     cases hD : decide (tx.length ≤ 40) with
     | true => rw [Bool.true_and]; exact rrOkData_X_true (kindV_X (by omega)) hT h hN ht.1 ht.2 hD
     | false => rw [Bool.false_and]; exact rrOkData_X_false (kindV_X (by omega)) hT h hN ht.1 ht.2 hD
    ·rw [hT] at h0; cases h0
   ·have e : rrOk r = false := by unfold rrOk; rw [hN, hT, decide_eq_false ht]; rfl
    rw [e]
    have HN := UC hN
    have HT := UC hT
    have hno : r.ttl < 0 ∨ 100000 < r.ttl := by omega
    have HNO := UC hno
    clear hN hT h e hno ht
    go_enter Tryz.func82, Tryz.ntmps82
    go_wp2_with fail
    generalize w.alloc (.cells #[.slice na r.name.length nc, .int .i64 r.type, .int .i64 r.ttl, .int .i64 r.addr, .slice ta r.to.length tc, .slice xa r.text.length xc, .slice ia r.nums.length ic] 67) = W at *
    refine (VP (UB H0).name).mono ?_
    rw [UB HN]
    rintro e w1 ⟨rfl, b1⟩
    obtain ⟨d0, d1, d2, d3, d4, d5, d6⟩ := UJ (UE b1 (UB K0))
    go_wp2_with fail
    refine (implTypeOk_any r.type _).mono ?_
    rw [UB HT]
    rintro e w2 ⟨rfl, rfl⟩
    go_wp2_with fail
    refine (upTo_no _ (UB HNO)).mono ?_
    rintro e w2 ⟨rfl, rfl⟩
    go_wp2_with fail
    go_ret
    exact ⟨rfl, UG b0 b1⟩
set_option maxHeartbeats 1000000 in
set_option maxRecDepth 100000 in
theorem listOkRr_has {v : Value} {l : List Rec} {w : World} (h : HasRs w v l) :
  Calls Tryz.prog 81 #[v, .func (Fn.func 82) #[] #[]] w fun e w' => e = .returned (.bool (rrsOk l)) ∧ Below w.heap.size w w' := by
 obtain ⟨a, cap, rfl, hl, hm⟩ := h.form
 unfold rrsOk maxLen at *
 have HA := UC (all_of (p := rrOk) l recZ)
 have HB := UC (fun k (hk : k < l.length) (hp : rrOk (l.getD k recZ) = false) => all_not (p := rrOk) l recZ hk hp)
 by_cases h12 : l.length ≤ 12
 ·rw [decide_eq_true h12, Bool.true_and]
  generalize l.all rrOk = R at *
  generalize hn : l.length = m at *
  have HN := UC hn
  have H := UC h
  clear hn h
  go_enter Tryz.func81, Tryz.ntmps81
  go_wp2
  go_loopw [12] (fun i wr => ∃ k : Nat, k ≤ m ∧ i = .int .i64 k ∧ Hid (∀ j, j < k → rrOk (l.getD j recZ) = true) ∧ Below w.heap.size w wr) (fun i _ => m - (intOf i).toNat)
  case atStart => exact ⟨0, Nat.zero_le _, rfl, UC (fun j hj => absurd hj (Nat.not_lt_zero _)), Below.refl _ _⟩
  case round =>
   obtain ⟨k, hk, rfl, hall, hb⟩ := hrel
   by_cases hlt : k < m
   ·obtain ⟨b, off, na, nc, ta, tc, xa, xc, ia, ic, rfl, hbl, hc, hu⟩ := ((UB H).below hb).here (k := k) (by rw [UB HN]; exact hlt)
    have hbk := UB HB k hlt
    have HBK := UC hbk
    have hone := UC (fun (hs : rrOk (l.getD k recZ) = true) => (show ∀ j, j < k + 1 → rrOk (l.getD j recZ) = true from fun j hj => by
      by_cases e : j = k
      ·subst e; exact hs
      ·exact UB hall j (by omega)))
    clear hbk
    generalize l.getD k recZ = rk at *
    have bA := fun o => UI (w := wr) o
    have HC := UC (fun o => implRrOk_has (hu.below (UI (w := wr) o)))
    obtain ⟨c0, c1, c2, c3, c4, c5, c6⟩ := VH hc
    clear hc hu
    cases hp : rrOk rk with
    | true =>
     have HC' := UB HC
     rw [show rrOk rk = true from hp] at HC'
     replace HC := UC HC'
     clear HC'
     go_wp2_with fail
     refine (UB HC _).mono ?_
     rintro e w1 ⟨rfl, b1⟩
     clear c0 c1 c2 c3 c4 c5 c6
     have b2 := UG (UG hb (bA _)) b1
     clear b1 bA
     go_wp2_with fail
     exact ⟨⟨k + 1, by omega, by go_num, UC (UB hone hp), b2⟩, by simp [intOf]; omega⟩
    | false =>
     have HC' := UB HC
     rw [show rrOk rk = false from hp] at HC'
     replace HC := UC HC'
     clear HC'
     have hR := UB HBK hp
     subst hR
     go_wp2_with fail
     refine (UB HC _).mono ?_
     rintro e w1 ⟨rfl, b1⟩
     clear c0 c1 c2 c3 c4 c5 c6
     have b2 := UG (UG hb (bA _)) b1
     clear b1 bA
     go_wp2_with fail
     go_ret
     exact ⟨rfl, b2⟩
   ·obtain rfl : k = m := by omega
    have hR := UB HA (UB hall)
    subst hR
    go_wp2
    go_ret
    exact ⟨rfl, hb⟩
 ·rw [decide_eq_false h12, Bool.false_and]
  clear HA HB h
  generalize l.length = m at *
  go_enter Tryz.func81, Tryz.ntmps81
  go_wp2
  go_ret
  exact ⟨rfl, Below.refl _ _⟩
set_option maxHeartbeats 800000 in
set_option maxRecDepth 100000 in
theorem appendCounted_own {B : Nat} {v u : Value} {l t : List Int} {w : World} (h : Own B 5 w v l) (hu : HasAt B w u t) (hl : l.length ≤ 1099511627000) (ht : t.length ≤ 255) (hB : B ≤ w.heap.size) :
  Calls Tryz.prog 197 #[v, u] w fun e w' => ∃ v', e = .returned v' ∧ Own B 5 w' v' (l ++ ((t.length : Int) :: t)) ∧ Below B w w' := by
 obtain ⟨ua, uc, rfl, _⟩ := hu.form
 have HU := UC hu
 clear hu
 have hlt : ((t.length : Int) % 256) = t.length := by omega
 generalize hn : t.length = m at *
 have HN := UC hn
 clear hn
 go_enter Tryz.func197, Tryz.ntmps197
 go_wp2_with (at_builtin; refine append_bytes rfl _ _ 56 5 rfl Tryz.underlying56 VJ B v _ l [(m : Int)] rfl rfl (h.alloc _) (own_lit w 0 5 [(m : Int)] (Nat.zero_le _) (by simp [maxLen])).reads (by simp; omega) (by simp; omega) ?_)
 intro v2 w2 o2 g2
 have b2 : Below B w w2 := ((Below.refl _ _).alloc hB _).grown g2 (by simp; omega) (fun q hq => (h.lt q hq).1)
 clear g2
 have hs2 := b2.size
 have U2 := UC ((UB HU).low b2 (Nat.le_refl _))
 go_wp2_with (at_builtin; refine append_bytes rfl _ _ 56 5 rfl Tryz.underlying56 VJ B v2 (.slice ua m uc) (l ++ [(m : Int)]) t rfl rfl o2 (UB U2).has.reads (by simp; rw [UB HN]; omega) (by omega) ?_)
 intro v3 w3 o3 g3
 have b3 : Below B w w3 := b2.grown g3 (by omega) (fun q hq => (o2.lt q hq).1)
 go_wp2
 go_ret
 exact ⟨v3, rfl, by simpa using o3, b3⟩
set_option maxHeartbeats 400000 in
set_option maxRecDepth 100000 in
theorem copyBytes_reads {v : Value} {l : List Int} {w : World} (h : Reads w v l) (hl : l.length ≤ 2097152) :
  Calls Tryz.prog 118 #[v] w fun e w' => ∃ v', e = .returned v' ∧ Own w.heap.size 5 w' v' l ∧ Below w.heap.size w w' := by
 go_enter Tryz.func118, Tryz.ntmps118
 go_wp2_with (at_builtin; refine append_bytes rfl _ _ 56 5 rfl Tryz.underlying56 VJ w.heap.size (.slice none 0 0) v [] l rfl rfl (World.ownsRow_nil _ _ _ _) h ?c1 (Nat.le_refl _) ?_)
 case c1 => simp; omega
 intro v' w1 hown hgrow
 go_wp2
 go_ret
 exact ⟨v', rfl, hown, below_of_grown hgrow⟩

theorem copyBytes_own {B : Nat} {v : Value} {l : List Int} {w : World} (h : Own B 5 w v l) (hl : l.length ≤ 2097152) :
  Calls Tryz.prog 118 #[v] w fun e w' => ∃ v', e = .returned v' ∧ Own w.heap.size 5 w' v' l ∧ Below w.heap.size w w' := copyBytes_reads h.reads hl
set_option maxHeartbeats 1000000 in
set_option maxRecDepth 100000 in
theorem implNamePut_has {vb v : Value} {l : List Int} {n : List (List Int)} {w : World} (hvb : Has w vb l) (hl : l.length ≤ 1048576) (h : HasL w v n) :
  Calls Tryz.prog 196 #[vb, .agg #[v]] w fun e w' => ∃ v', e = .returned (.tuple #[v', .bool (nameOk n)]) ∧ Own w.heap.size 5 w' v' (namePut l n) ∧ Below w.heap.size w w' := by
 obtain ⟨a, cap, rfl, hcl, hm⟩ := h.form
 unfold maxLen at hm
 have b0 := UI (w := w) (.cells #[.slice a n.length cap] 46)
 have k0 := heap_alloc_new w (.cells #[.slice a n.length cap] 46)
 have h0 := UC (h.below b0)
 have v0 := UC (hvb.below b0)
 clear h hvb
 cases hok : nameOk n with
 | false =>
  rw [namePut_no hok]
  have HOK := UC hok
  clear hok
  go_enter Tryz.func196, Tryz.ntmps196
  go_wp2_with fail
  generalize w.alloc (.cells #[.slice a n.length cap] 46) = W0 at *
  refine (VP (UB h0)).mono ?_
  rw [UB HOK]
  rintro e w1 ⟨rfl, b1⟩
  have bb1 := UG b0 b1
  clear b0 k0 h0 b1
  go_wp2_with fail
  go_ret2
  exact ⟨_, rfl, World.ownsRow_nil _ _ _ _, bb1⟩
 | true =>
  have HOK := UC hok
  have hdl := wires_length n hok
  have h6 := (nameOk_parts hok).1
  have HDS := UC (wires_succ n)
  have HD0 := UC (wires_zero n)
  have HLEN := UC (show ∀ k, k < n.length → (n.getD k []).length ≤ 15 from fun k hk => (labelOk_length ((nameOk_parts hok).2 k hk)).2)
  rw [namePut_yes hok]
  unfold wire
  clear hok
  have HDL := UC hdl
  clear hdl
  generalize wires n = D at *
  go_enter Tryz.func196, Tryz.ntmps196
  go_wp2_with fail
  generalize w.alloc (.cells #[.slice a n.length cap] 46) = W0 at *
  refine (VP (UB h0)).mono ?_
  rw [UB HOK]
  rintro e w1 ⟨rfl, b1⟩
  have k1 := UE b1 k0
  have h1 := UC ((UB h0).below b1)
  have v1 := UC ((UB v0).below b1)
  have bb1 := UG b0 b1
  have z1 := VC k1
  clear b0 k0 h0 b1 v0
  go_wp2_with fail
  refine (copyBytes_reads (UB v1).reads (by omega)).mono ?_
  rintro e w2 ⟨v2, rfl, o2, b2⟩
  have k2 := UE b2 k1
  have c2 := US k2
  have H1 := UC (UB h1).at
  have z2 := b2.size
  generalize hn : n.length = m at *
  have HN := UC hn
  clear hn
  have K2 := UC k2
  clear k2 k1 h1 v1
  go_wp2
  go_loopw [6, 17] (fun o i wr => ∃ k : Nat, k ≤ m ∧ i = .int .i64 k ∧ Own w1.heap.size 5 wr o (l ++ D k) ∧ Below w1.heap.size w1 wr) (fun _ i _ => m - (intOf i).toNat)
  case atStart => exact ⟨0, Nat.zero_le _, rfl, by rw [UB HD0, List.append_nil]; exact o2, b2⟩
  case round =>
   obtain ⟨k, hk, rfl, ho, hb⟩ := hrel
   have zb := hb.size
   have hdk := UB HDL k
   have hdk2 : (l ++ D k).length ≤ 1048576 + 96 := by rw [List.length_append]; omega
   by_cases hlt : k < m
   ·obtain ⟨b, off, u, rfl, hbl, hc, hu⟩ := ((UB H1).low hb (Nat.le_refl _)).here (k := k) (by rw [UB HN]; exact hlt)
    have hds := UC (UB HDS k hlt)
    have hlk := UB HLEN k hlt
    generalize n.getD k [] = lab at *
    have HU := UC hu
    obtain ⟨ua, uc, rfl, _⟩ := hu.form
    clear hu
    go_wp2_with fail
    refine (appendCounted_own ho (UB HU) (by omega) (by omega) zb).mono ?_
    rintro e w3 ⟨v3, rfl, o3, b3⟩
    go_wp2_with fail
    exact ⟨⟨k + 1, by omega, by go_num, by rw [UB hds, ← List.append_assoc]; exact o3, hb.trans b3⟩, by simp [intOf]; omega⟩
   ·obtain rfl : k = m := by omega
    go_wp2_with (at_builtin; refine append_bytes rfl _ _ 56 5 rfl Tryz.underlying56 VJ w1.heap.size _ _ (l ++ D k) [0] rfl rfl (ho.alloc _) (own_lit wr 0 5 [0] (Nat.zero_le _) (by simp [maxLen])).reads (by simp only [List.length_cons, List.length_nil]; omega) (by simp; omega) ?_)
    intro v4 w4 o4 g4
    have b4 : Below w1.heap.size w1 w4 := (hb.alloc zb _).grown g4 (by simp; omega) (fun q hq => (ho.lt q hq).1)
    go_wp2_with fail
    go_ret2
    exact ⟨v4, rfl, by rw [UB HN]; simpa only [List.append_assoc] using o4.mono (Nat.le_of_lt z1), UG bb1 b4⟩
set_option maxHeartbeats 800000
set_option maxRecDepth 100000

theorem implPut32_yes {B : Nat} {v : Value} {l : List Int} (n : Int) {w : World} (h : Own B 5 w v l) (hl : l.length ≤ 1048576) (h0 : 0 ≤ n) (h1 : n ≤ 4294967295) :
  Calls Tryz.prog 191 #[v, .int .i64 n] w fun e w' => ∃ v', e = .returned v' ∧ Own w.heap.size 5 w' v' (l ++ [n / 16777216, n / 65536 % 256, n / 256 % 256, n % 256]) ∧ Below w.heap.size w w' := by
 go_enter Tryz.func191, Tryz.ntmps191
 go_wp2_with fail
 refine (upTo_yes _ h0 h1).mono ?_
 rintro e w0 ⟨rfl, rfl⟩
 go_wp2_with fail
 refine (copyBytes_own h (by omega)).mono ?_
 rintro e w1 ⟨v1, rfl, o1, b1⟩
 have hsz := b1.size
 go_wp2_with (at_builtin; refine append_bytes rfl _ _ 56 5 rfl Tryz.underlying56 VJ w.heap.size v1 _ l [n / 16777216, n / 65536 % 256, n / 256 % 256, n % 256] rfl rfl (o1.alloc _) (own_put32 w1 0 5 n (Nat.zero_le _)).reads (by simp; omega) (by simp; omega) ?_)
 intro v' w2 hown hgrow
 go_wp2
 go_ret
 exact ⟨v', rfl, hown, (b1.alloc hsz _).grown hgrow (by simp; omega) (fun k hk => (o1.lt k hk).1)⟩

theorem implPut32_no {B : Nat} {v : Value} {l : List Int} (n : Int) {w : World} (h : Own B 5 w v l) (hl : l.length ≤ 1048576) (hn : n < 0 ∨ 4294967295 < n) :
  Calls Tryz.prog 191 #[v, .int .i64 n] w fun e w' => ∃ v', e = .returned v' ∧ Own w.heap.size 5 w' v' l ∧ Below w.heap.size w w' := by
 go_enter Tryz.func191, Tryz.ntmps191
 go_wp2_with fail
 refine (upTo_no _ hn).mono ?_
 rintro e w0 ⟨rfl, rfl⟩
 go_wp2_with fail
 refine (copyBytes_own h (by omega)).mono ?_
 rintro e w1 ⟨v1, rfl, o1, b1⟩
 go_wp2
 go_ret
 exact ⟨v1, rfl, o1, b1⟩

theorem implPut32_any {B : Nat} {v : Value} {l : List Int} (n : Int) {w : World} (h : Own B 5 w v l) (hl : l.length ≤ 1048576) :
  Calls Tryz.prog 191 #[v, .int .i64 n] w fun e w' => ∃ v', e = .returned v' ∧ Own w.heap.size 5 w' v' (put32 l n) ∧ Below w.heap.size w w' := by
 by_cases hn : 0 ≤ n ∧ n ≤ 4294967295
 ·have e : put32 l n = l ++ [n / 16777216, n / 65536 % 256, n / 256 % 256, n % 256] := by unfold put32; rw [if_pos hn]
  rw [e]; exact implPut32_yes n h hl hn.1 hn.2
 ·have e : put32 l n = l := by unfold put32; rw [if_neg hn]
  rw [e]; exact implPut32_no n h hl (by omega)
set_option maxHeartbeats 1000000
set_option maxRecDepth 100000

theorem own_none (B : Nat) (e : TypeId) (w : World) : Own B e w (.slice none 0 0) [] := World.ownsRow_nil _ _ _ _

theorem addrPut_any (a : Int) (w : World) : Calls Tryz.prog 189 #[.agg #[.int .i64 a]] w fun e w' => ∃ v', e = .returned v' ∧ Own w.heap.size 5 w' v' (put32 [] a) ∧ Below w.heap.size w w' := by
 have b0 := UI (w := w) (.cells #[.int .i64 a] 143)
 have hP := UC (implPut32_any (B := 0) a (own_none 0 5 (w.alloc (.cells #[.int .i64 a] 143))) (by simp))
 generalize put32 [] a = G at *
 go_enter Tryz.func189, Tryz.ntmps189
 go_wp2_with fail
 refine (UB hP).mono ?_
 rintro e w1 ⟨v1, rfl, o1, b1⟩
 go_wp2_with fail
 go_ret
 exact ⟨v1, rfl, o1.mono b0.size, UG b0 b1⟩

theorem namePutM_has {a : Option Addr} {cap : Nat} {n : List (List Int)} {w : World} (h : HasL w (.slice a n.length cap) n) (hok : nameOk n = true) : Calls Tryz.prog 194 #[.agg #[.slice a n.length cap]] w fun e w' => ∃ v', e = .returned v' ∧ Own w.heap.size 5 w' v' (wire n) ∧ Below w.heap.size w w' := by
 have b0 := UI (w := w) (.cells #[.slice a n.length cap] 145)
 have hP := implNamePut_has (vb := .slice none 0 0) (l := []) (.inl ⟨rfl, rfl⟩) (by simp) (h.below b0)
 rw [namePut_yes hok, List.nil_append, hok] at hP
 have HP := UC hP
 clear hP h
 generalize wire n = G at *
 go_enter Tryz.func194, Tryz.ntmps194
 go_wp2_with fail
 refine (UB HP).mono ?_
 rintro e w1 ⟨v1, rfl, o1, b1⟩
 go_wp2_with fail
 go_ret
 exact ⟨v1, rfl, o1.mono b0.size, UG b0 b1⟩

theorem textPut_has {a : Option Addr} {cap : Nat} {l : List Int} {w : World} (h : Has w (.slice a l.length cap) l) (hl : l.length ≤ 40) : Calls Tryz.prog 204 #[.agg #[.slice a l.length cap]] w fun e w' => ∃ v', e = .returned v' ∧ Own w.heap.size 5 w' v' ((l.length : Int) :: l) ∧ Below w.heap.size w w' := by
 have b0 := UI (w := w) (.cells #[.slice a l.length cap] 149)
 have hP := appendCounted_own (B := (w.alloc (.cells #[.slice a l.length cap] 149)).heap.size) (own_none _ 5 (w.alloc (.cells #[.slice a l.length cap] 149))) (h.below b0).at (by simp) (by omega) (Nat.le_refl _)
 rw [List.nil_append] at hP
 have HP := UC hP
 clear hP h
 generalize hG : (l.length : Int) :: l = G at *
 clear hG
 go_enter Tryz.func204, Tryz.ntmps204
 go_wp2_with fail
 refine (UB HP).mono ?_
 rintro e w1 ⟨v1, rfl, o1, b1⟩
 go_wp2_with fail
 go_ret
 exact ⟨v1, rfl, o1.mono b0.size, UG b0 b1⟩

theorem soaPut_has {a : Option Addr} {cap : Nat} {n : List (List Int)} {ia : Option Addr} {ic : Nat} {x y : Int} {w : World} (h : HasL w (.slice a n.length cap) n) (hi : HasI w (.slice ia 2 ic) [x, y]) (hok : nameOk n = true) :
  Calls Tryz.prog 200 #[.agg #[.slice a n.length cap, .slice ia 2 ic]] w fun e w' => ∃ v', e = .returned v' ∧ Own w.heap.size 5 w' v' (put32 (put32 (wire n) x) y) ∧ Below w.heap.size w w' := by
 have b0 := UI (w := w) (.cells #[.slice a n.length cap, .slice ia 2 ic] 147)
 have k0 := heap_alloc_new w (.cells #[.slice a n.length cap, .slice ia 2 ic] 147)
 have hP := implNamePut_has (vb := .slice none 0 0) (l := []) (.inl ⟨rfl, rfl⟩) (by simp) (h.below b0)
 rw [namePut_yes hok, List.nil_append, hok] at hP
 have HP := UC hP
 have I0 := UC (hi.below b0)
 have hw := wire_length n hok
 have hw2 := put32_length (wire n) x
 have hQ := UC (show ∀ (w1 : World) (B : Nat) (v : Value), Own B 5 w1 v (wire n) → Calls Tryz.prog 191 #[v, .int .i64 x] w1 fun e w' => ∃ v', e = .returned v' ∧ Own w1.heap.size 5 w' v' (put32 (wire n) x) ∧ Below w1.heap.size w1 w' from fun w1 B v ho => implPut32_any x ho (by omega))
 have hR := UC (show ∀ (w1 : World) (B : Nat) (v : Value), Own B 5 w1 v (put32 (wire n) x) → Calls Tryz.prog 191 #[v, .int .i64 y] w1 fun e w' => ∃ v', e = .returned v' ∧ Own w1.heap.size 5 w' v' (put32 (put32 (wire n) x) y) ∧ Below w1.heap.size w1 w' from fun w1 B v ho => implPut32_any y ho (by omega))
 clear h hi hP hw hw2
 generalize put32 (put32 (wire n) x) y = G3 at *
 generalize put32 (wire n) x = G2 at *
 generalize wire n = G1 at *
 go_enter Tryz.func200, Tryz.ntmps200
 go_wp2_with fail
 generalize w.alloc (.cells #[.slice a n.length cap, .slice ia 2 ic] 147) = W at *
 refine (UB HP).mono ?_
 rintro e w1 ⟨v1, rfl, o1, b1⟩
 have bb1 := UG b0 b1
 have k1 := UE b1 k0
 have c1 := VE k1 1
 simp only [List.getElem?_toArray, List.getElem?_cons_zero, List.getElem?_cons_succ] at c1
 have I1 := UC ((UB I0).below b1)
 have z1 := b1.size
 have z0 := b0.size
 clear k0 b1 I0 k1
 go_wp2
 go_loopw [3, 16] (fun o i wr => ∃ k : Nat, k ≤ 2 ∧ i = .int .i64 k ∧ Own w.heap.size 5 wr o (if k = 0 then G1 else if k = 1 then G2 else G3) ∧ Below w1.heap.size w1 wr) (fun _ i _ => 2 - (intOf i).toNat)
 case atStart => exact ⟨0, by omega, rfl, o1.mono z0, Below.refl _ _⟩
 case round =>
  obtain ⟨k, hk, rfl, ho, hb⟩ := hrel
  obtain ⟨g, off, cp, hv, hg, n0, n1⟩ := ((UB I1).below hb).two
  simp only [Value.slice.injEq] at hv
  obtain ⟨rfl, _, rfl⟩ := hv
  have zb := hb.size
  by_cases e0 : k = 0
  ·subst e0
   go_wp2_with fail
   refine (UB hQ _ _ _ ho).mono ?_
   rintro e w2 ⟨v2, rfl, o2, b2⟩
   go_wp2_with fail
   exact ⟨⟨1, by omega, by go_num, o2.mono (by omega), UG hb b2⟩, by simp [intOf]⟩
  by_cases e1 : k = 1
  ·subst e1
   go_wp2_with fail
   refine (UB hR _ _ _ ho).mono ?_
   rintro e w2 ⟨v2, rfl, o2, b2⟩
   go_wp2_with fail
   exact ⟨⟨2, by omega, by go_num, o2.mono (by omega), UG hb b2⟩, by simp [intOf]⟩
  ·obtain rfl : k = 2 := by omega
   go_wp2_with fail
   go_ret
   exact ⟨_, rfl, ho, UG bb1 hb⟩
end Go.Proofs.YtaehfeobfkaicaaGreat
