/-
  Contracts of the specification's l3put. Contracts of the specification's l2bytes and l2cmp. Contracts of the specification's l3num and l3cmp.
-/
import Derived.Test.YtaehfeobfkaicaaGreatCacheGetG10
import Derived.Test.YtaehfeobfkaicaaGreatCacheGetG33
import Derived.Test.YtaehfeobfkaicaaGreatCacheGetG34
import Derived.Test.YtaehfeobfkaicaaGreatCacheGetG08
import Derived.Deep.RegionHeld3
import Derived.Test.YtaehfeobfkaicaaGreatCacheGetG32
import Derived.Test.YtaehfeobfkaicaaGreatCacheGetG24
import Derived.WalkLawsBesides
import Derived.Deep.RegionWith
namespace Go.Proofs.YtaehfeobfkaicaaGreat
open Go.RowKit
set_option linter.unusedVariables false
set_option maxHeartbeats 2000000
set_option maxRecDepth 100000

theorem own_nil (B : Nat) (e : TypeId) (w : World) : Own B e w (.slice none 0 0) [] := World.ownsRow_nil _ _ _ _

theorem l3put_A {na : Option Addr} {nc : Nat} {ta : Option Addr} {tc : Nat} {xa : Option Addr} {xc : Nat} {ia : Option Addr} {ic : Nat} {nm to : List (List Int)} {tx nu : List Int} {tt ad : Int} {w : World} (h0 : 0 ≤ ad) (h1 : ad ≤ 4294967295) :
  Calls Tryz.prog 104 #[.agg #[.slice na nm.length nc, .int .i64 1, .int .i64 tt, .int .i64 ad, .slice ta to.length tc, .slice xa tx.length xc, .slice ia nu.length ic]] w fun e w' => ∃ v', e = .returned v' ∧ Own w.heap.size 5 w' v' (put32 [] ad) ∧ Below w.heap.size w w' := by
 have b0 := UI (w := w) (.cells #[.slice na nm.length nc, .int .i64 1, .int .i64 tt, .int .i64 ad, .slice ta to.length tc, .slice xa tx.length xc, .slice ia nu.length ic] 67)
 have hP := UC (specPut32_any (B := 0) ad (own_nil 0 5 (w.alloc (.cells #[.slice na nm.length nc, .int .i64 1, .int .i64 tt, .int .i64 ad, .slice ta to.length tc, .slice xa tx.length xc, .slice ia nu.length ic] 67))) (by simp))
 generalize put32 [] ad = G at *
 go_enter Tryz.func104, Tryz.ntmps104
 go_wp2_with fail
 refine (UB hP).mono ?_
 rintro e w1 ⟨v1, rfl, o1, b1⟩
 go_wp2_with fail
 go_ret
 exact ⟨v1, rfl, o1.mono b0.size, UG b0 b1⟩

theorem l3put_N {na : Option Addr} {nc : Nat} {ta : Option Addr} {tc : Nat} {xa : Option Addr} {xc : Nat} {ia : Option Addr} {ic : Nat} {nm to : List (List Int)} {tx nu : List Int} {tt ad : Int} {w : World} {ty : Int} (ht : ty = 2 ∨ ty = 5 ∨ ty = 12) (h : HasL w (.slice ta to.length tc) to) (hok : nameOk to = true) :
  Calls Tryz.prog 104 #[.agg #[.slice na nm.length nc, .int .i64 ty, .int .i64 tt, .int .i64 ad, .slice ta to.length tc, .slice xa tx.length xc, .slice ia nu.length ic]] w fun e w' => ∃ v', e = .returned v' ∧ Own w.heap.size 5 w' v' (wire to) ∧ Below w.heap.size w w' := by
 have b0 := UI (w := w) (.cells #[.slice na nm.length nc, .int .i64 ty, .int .i64 tt, .int .i64 ad, .slice ta to.length tc, .slice xa tx.length xc, .slice ia nu.length ic] 67)
 have K0 := UC (heap_alloc_new w (.cells #[.slice na nm.length nc, .int .i64 ty, .int .i64 tt, .int .i64 ad, .slice ta to.length tc, .slice xa tx.length xc, .slice ia nu.length ic] 67))
 have hP := UC (l2put_own (B := (w.alloc (.cells #[.slice na nm.length nc, .int .i64 ty, .int .i64 tt, .int .i64 ad, .slice ta to.length tc, .slice xa tx.length xc, .slice ia nu.length ic] 67)).heap.size) (own_nil _ 5 (w.alloc (.cells #[.slice na nm.length nc, .int .i64 ty, .int .i64 tt, .int .i64 ad, .slice ta to.length tc, .slice xa tx.length xc, .slice ia nu.length ic] 67))) (Nat.le_refl _) (by simp) (h.below b0).at (nameOk_parts hok).1 (fun k hk => (labelOk_length ((nameOk_parts hok).2 k hk)).2) (wires_length to hok))
 rw [List.nil_append] at hP
 clear h
 generalize wire to = G at *
 have e1 : (ty == 1) = false := by rw [beq_eq_false_iff_ne]; omega
 have e6 : (ty == 6) = false := by rw [beq_eq_false_iff_ne]; omega
 have hto : typeOk ty = true := decide_eq_true (by omega)
 have hna : named ty = true := decide_eq_true (by omega)
 have HTO := UC hto
 have HNA := UC hna
 clear ht hto hna
 go_enter Tryz.func104, Tryz.ntmps104
 go_wp2_with fail
 generalize w.alloc (.cells #[.slice na nm.length nc, .int .i64 ty, .int .i64 tt, .int .i64 ad, .slice ta to.length tc, .slice xa tx.length xc, .slice ia nu.length ic] 67) = W at *
 refine (VR ty _ (UB HTO)).mono ?_
 rw [UB HNA]
 rintro e w1 ⟨rfl, rfl⟩
 obtain ⟨d0, d1, d2, d3, d4, d5, d6⟩ := UJ (UB K0)
 go_wp2_with fail
 refine (UB hP).mono ?_
 rintro e w1 ⟨v1, rfl, o1, b1⟩
 go_wp2_with fail
 go_ret
 exact ⟨v1, rfl, o1.mono b0.size, UG b0 b1⟩

theorem l3put_X {na : Option Addr} {nc : Nat} {ta : Option Addr} {tc : Nat} {xa : Option Addr} {xc : Nat} {ia : Option Addr} {ic : Nat} {nm to : List (List Int)} {tx nu : List Int} {tt ad : Int} {w : World} {ty : Int} (ht : ty = 16 ∨ ty = 49) (h : Has w (.slice xa tx.length xc) tx) (hl : tx.length ≤ 40) :
  Calls Tryz.prog 104 #[.agg #[.slice na nm.length nc, .int .i64 ty, .int .i64 tt, .int .i64 ad, .slice ta to.length tc, .slice xa tx.length xc, .slice ia nu.length ic]] w fun e w' => ∃ v', e = .returned v' ∧ Own w.heap.size 5 w' v' ((tx.length : Int) :: tx) ∧ Below w.heap.size w w' := by
 have b0 := UI (w := w) (.cells #[.slice na nm.length nc, .int .i64 ty, .int .i64 tt, .int .i64 ad, .slice ta to.length tc, .slice xa tx.length xc, .slice ia nu.length ic] 67)
 have K0 := UC (heap_alloc_new w (.cells #[.slice na nm.length nc, .int .i64 ty, .int .i64 tt, .int .i64 ad, .slice ta to.length tc, .slice xa tx.length xc, .slice ia nu.length ic] 67))
 have H0 := UC (h.below b0)
 clear h
 have e1 : (ty == 1) = false := by rw [beq_eq_false_iff_ne]; omega
 have e6 : (ty == 6) = false := by rw [beq_eq_false_iff_ne]; omega
 have hto : typeOk ty = true := decide_eq_true (by omega)
 have hna : named ty = false := decide_eq_false (by omega)
 have HTO := UC hto
 have HNA := UC hna
 clear ht hto hna
 have hmod : ((tx.length : Int) % 256) = tx.length := by omega
 go_enter Tryz.func104, Tryz.ntmps104
 go_wp2_with fail
 generalize w.alloc (.cells #[.slice na nm.length nc, .int .i64 ty, .int .i64 tt, .int .i64 ad, .slice ta to.length tc, .slice xa tx.length xc, .slice ia nu.length ic] 67) = W at *
 refine (VR ty _ (UB HTO)).mono ?_
 rw [UB HNA]
 rintro e w1 ⟨rfl, rfl⟩
 obtain ⟨d0, d1, d2, d3, d4, d5, d6⟩ := UJ (UB K0)
 have ca : ∀ o, (W.alloc o).cell? ⟨w.heap.size, 5, none⟩ = some (.slice xa tx.length xc) := fun o => (UJ (UE (UI o) (UB K0))).2.2.2.2.2.1
 go_wp2_with (at_builtin; refine append_bytes rfl _ _ 56 5 rfl Tryz.underlying56 VJ W.heap.size _ (.slice xa tx.length xc) [(tx.length : Int)] tx rfl rfl (own_lit W W.heap.size 5 [(tx.length : Int)] (Nat.le_refl _) (by simp [maxLen])) ((UB H0).below (UI _)).reads (by simp; omega) (UI _).size ?_)
 intro v2 w2 o2 g2
 have b2 := lit_grown g2
 go_wp2_with fail
 go_ret
 exact ⟨v2, rfl, o2.mono b0.size, UG b0 b2⟩

theorem l3put_S {na : Option Addr} {nc : Nat} {ta : Option Addr} {tc : Nat} {xa : Option Addr} {xc : Nat} {ia : Option Addr} {ic : Nat} {nm to : List (List Int)} {tx : List Int} {x y : Int} {tt ad : Int} {w : World} (h : HasL w (.slice ta to.length tc) to) (hi : HasI w (.slice ia 2 ic) [x, y]) (hok : nameOk to = true) :
  Calls Tryz.prog 104 #[.agg #[.slice na nm.length nc, .int .i64 6, .int .i64 tt, .int .i64 ad, .slice ta to.length tc, .slice xa tx.length xc, .slice ia 2 ic]] w fun e w' => ∃ v', e = .returned v' ∧ Own w.heap.size 5 w' v' (put32 (put32 (wire to) x) y) ∧ Below w.heap.size w w' := by
 have b0 := UI (w := w) (.cells #[.slice na nm.length nc, .int .i64 6, .int .i64 tt, .int .i64 ad, .slice ta to.length tc, .slice xa tx.length xc, .slice ia 2 ic] 67)
 have K0 := UC (heap_alloc_new w (.cells #[.slice na nm.length nc, .int .i64 6, .int .i64 tt, .int .i64 ad, .slice ta to.length tc, .slice xa tx.length xc, .slice ia 2 ic] 67))
 have hw := wire_length to hok
 have hw2 := put32_length (wire to) x
 have hN := UC (show ∀ w1 : World, Below w.heap.size w w1 → Calls Tryz.prog 125 #[.slice none 0 0, .agg #[.slice ta to.length tc]] w1 fun e w' => ∃ v', e = .returned v' ∧ Own w1.heap.size 5 w' v' (wire to) ∧ Below w1.heap.size w1 w' from fun w1 hb => by
  have := l2put_own (B := w1.heap.size) (own_nil _ 5 w1) (Nat.le_refl _) (by simp) (h.below hb).at (nameOk_parts hok).1 (fun k hk => (labelOk_length ((nameOk_parts hok).2 k hk)).2) (wires_length to hok)
  rw [List.nil_append] at this
  exact this)
 have hQ := UC (show ∀ (w1 : World) (B : Nat) (v : Value), Own B 5 w1 v (wire to) → Calls Tryz.prog 124 #[v, .int .i64 x] w1 fun e w' => ∃ v', e = .returned v' ∧ Own w1.heap.size 5 w' v' (put32 (wire to) x) ∧ Below w1.heap.size w1 w' from fun w1 B v ho => specPut32_any x ho (by omega))
 have hR := UC (show ∀ (w1 : World) (B : Nat) (v : Value), Own B 5 w1 v (put32 (wire to) x) → Calls Tryz.prog 124 #[v, .int .i64 y] w1 fun e w' => ∃ v', e = .returned v' ∧ Own w1.heap.size 5 w' v' (put32 (put32 (wire to) x) y) ∧ Below w1.heap.size w1 w' from fun w1 B v ho => specPut32_any y ho (by omega))
 have I0 := UC (hi.below b0)
 clear h hi hw hw2
 generalize put32 (put32 (wire to) x) y = G3 at *
 generalize put32 (wire to) x = G2 at *
 generalize wire to = G1 at *
 go_enter Tryz.func104, Tryz.ntmps104
 go_wp2_with fail
 generalize w.alloc (.cells #[.slice na nm.length nc, .int .i64 6, .int .i64 tt, .int .i64 ad, .slice ta to.length tc, .slice xa tx.length xc, .slice ia 2 ic] 67) = W at *
 have bd := UX (w := W)
 have KD := UC (UE bd (UB K0))
 have ID := UC ((UB I0).below bd)
 have bb := UG b0 bd
 obtain ⟨g, off, cp, hv, hg, n0, n1⟩ := (UB ID).two
 simp only [Value.slice.injEq] at hv
 obtain ⟨rfl, _, rfl⟩ := hv
 have N0 := UC n0
 have N1 := UC n1
 have zW : W.drew.heap.size = W.heap.size := rfl
 clear n0 n1 bd K0
 go_region_held3 (fun w' => w'.cell? ⟨w.heap.size, 4, none⟩ = some (.slice ta to.length tc) ∧ w'.cell? ⟨w.heap.size, 6, none⟩ = some (.slice (some ⟨g, off, none⟩) 2 ic) ∧ w'.cell? ⟨g, off, none⟩ = some (.int .i64 x) ∧ w'.cell? ⟨g, off + 1, none⟩ = some (.int .i64 y))
  (first
  | exact ⟨(UJ (UB KD)).2.2.2.2.1, (UJ (UB KD)).2.2.2.2.2.2, UB N0, UB N1⟩
  | exact ⟨(UJ (UE b1 (UB KD))).2.2.2.2.1, (UJ (UE b1 (UB KD))).2.2.2.2.2.2, (b1.cell hg).trans (UB N0), (b1.cell hg).trans (UB N1)⟩
  | exact ⟨(UJ (UE q2 (UB KD))).2.2.2.2.1, (UJ (UE q2 (UB KD))).2.2.2.2.2.2, (q2.cell hg).trans (UB N0), (q2.cell hg).trans (UB N1)⟩
  | exact ⟨(UJ (UE q3 (UB KD))).2.2.2.2.1, (UJ (UE q3 (UB KD))).2.2.2.2.2.2, (q3.cell hg).trans (UB N0), (q3.cell hg).trans (UB N1)⟩)
  (first
  | (go_at_call 125; refine (UB hN _ bb).mono ?_; rintro e w1 ⟨v1, rfl, o1, b1⟩)
  | (go_at_call 124; refine (UB hQ _ _ _ o1).mono ?_; rintro e w2 ⟨v2, rfl, o2, b2⟩; have q2 := UG b1 b2; clear o1)
  | (go_at_call 124; refine (UB hR _ _ _ o2).mono ?_; rintro e w3 ⟨v3, rfl, o3, b3⟩; have q3 := UG q2 b3; clear o2))
 go_wp2_with fail
 go_ret
 exact ⟨v3, rfl, o3.mono (by have h1 := bb.size; have h2 := q2.size; omega), UG bb q3⟩

theorem l3put_has {vn vt vx vi : Value} {r : Rec} {w : World} (h : HasR w vn vt vx vi r) (hok : rrOk r = true) :
  Calls Tryz.prog 104 #[.agg #[vn, .int .i64 r.type, .int .i64 r.ttl, .int .i64 r.addr, vt, vx, vi]] w fun e w' => ∃ v', e = .returned v' ∧ Own w.heap.size 5 w' v' (dataB r) ∧ Below w.heap.size w w' := by
 obtain ⟨_, ht, _, _, hd⟩ := rrOk_parts hok
 obtain ⟨na, nc, rfl, _⟩ := h.name.form
 obtain ⟨ta, tc, rfl, _⟩ := h.to.form
 obtain ⟨xa, xc, rfl, _⟩ := h.text.form
 obtain ⟨ia, ic, rfl, _⟩ := h.nums.form
 rcases data_kinds ht hd with ⟨e, h0, h1, eb⟩ | ⟨e, hn, eb⟩ | ⟨e, hn, x, y, exy, _, _, _, _, eb⟩ | ⟨e, hx, eb⟩
 ·rw [eb, e]; exact l3put_A h0 h1
 ·rw [eb]; exact l3put_N e h.to hn
 ·have hi := h.nums
  rw [exy] at hi ⊢
  rw [eb, e]
  exact l3put_S h.to hi hn
 ·rw [eb]; exact l3put_X e h.text hx
set_option maxHeartbeats 1000000
set_option maxRecDepth 100000

theorem l2bytes_has {v v' : Value} {l l' : List Int} {w : World} (h : Has w v l) (h' : Has w v' l') :
  Calls Tryz.prog 101 #[v, v'] w fun e w' => e = .returned (.int .i64 (cmpB l l')) ∧ w = w' := by
 have hc := conv_has h
 have hc' := conv_has h'
 have hlt := str_less l l'
 have heq := str_same l l'
 clear h h'
 rcases cmpB_cases l l' with e | e | e
 ·rw [e] at hlt heq ⊢
  simp only [decide_true] at hlt
  clear heq e
  go_enter Tryz.func101, Tryz.ntmps101
  go_wp2
  go_ret
  exact ⟨rfl, rfl⟩
 ·rw [e] at hlt heq ⊢
  simp only [decide_true] at heq
  rw [decide_eq_false (by omega)] at hlt
  clear e
  go_enter Tryz.func101, Tryz.ntmps101
  go_wp2
  go_ret
  exact ⟨rfl, rfl⟩
 ·rw [e] at hlt heq ⊢
  rw [decide_eq_false (by omega)] at hlt heq
  clear e
  go_enter Tryz.func101, Tryz.ntmps101
  go_wp2
  go_ret
  exact ⟨rfl, rfl⟩

theorem l2bytes_quiet {v v' : Value} {l l' : List Int} {w : World} (h : Has w v l) (h' : Has w v' l') (n : Nat) :
  Calls Tryz.prog 101 #[v, v'] (w.drewN n) fun e w'' => e = .returned (.int .i64 (cmpB l l')) ∧ ∃ m, w'' = w.drewN m :=
 (l2bytes_has (h.below (below_draws n)) (h'.below (below_draws n))).mono fun e w' ⟨he, hw⟩ => ⟨he, n, hw.symm⟩

theorem l2cmp_has {v v' : Value} {n n' : List (List Int)} {w : World} (h : HasL w v n) (h' : HasL w v' n') (hs : n.length ≤ 1048576) (hs' : n'.length ≤ 1048576) :
  Calls Tryz.prog 70 #[.agg #[v], .agg #[v']] w fun e w' => e = .returned (.int .i64 (cmpN n n')) ∧ Below w.heap.size w w' := by
 obtain ⟨a, cap, rfl, hl, hm⟩ := h.form
 obtain ⟨a', cap', rfl, hl', hm'⟩ := h'.form
 unfold maxLen at hm hm'
 have HIT := UC (fun (k : Nat) => cmpN_hit (a := n) (b := n') (k := k))
 have NON := UC (fun (k : Nat) => cmpN_none (a := n) (b := n') (k := k))
 have HAT := UC (atEnd_eq n n')
 generalize hR : cmpN n n' = R at *
 clear hR
 generalize hC : atEnd n n' = C at *
 clear hC
 have b1 := UI (w := w) (.cells #[.slice a n.length cap] 46)
 have k1 := heap_alloc_new w (.cells #[.slice a n.length cap] 46)
 have e1 : (w.alloc (.cells #[.slice a n.length cap] 46)).heap.size = w.heap.size + 1 := by show (w.heap.push _).size = _; simp
 have b2 := UI (w := w.alloc (.cells #[.slice a n.length cap] 46)) (.cells #[.slice a' n'.length cap'] 46)
 have x2 := heap_alloc_new (w.alloc (.cells #[.slice a n.length cap] 46)) (.cells #[.slice a' n'.length cap'] 46)
 have k2 := UE b2 k1
 rw [e1] at x2
 have bb2 := UG b1 b2
 have h2 := UC (h.below bb2)
 have h2' := UC (h'.below bb2)
 have HH := UC h
 have HH' := UC h'
 clear h h' b1 b2 k1 e1
 generalize hn : n.length = m at *
 have HN := UC hn
 clear hn
 generalize hn' : n'.length = m' at *
 have HN' := UC hn'
 clear hn'
 go_enter Tryz.func70, Tryz.ntmps70
 go_wp2
 generalize (w.alloc (.cells #[.slice a m cap] 46)).alloc (.cells #[.slice a' m' cap'] 46) = W at *
 go_loopw [5] (fun i wr => ∃ k : Nat, 1 ≤ k ∧ k ≤ m + 1 ∧ k ≤ m' + 1 ∧ i = .int .i64 k ∧ Hid (∀ j, 1 ≤ j → j < k → C j = 0) ∧ Below W.heap.size W wr) (fun i _ => m + 1 - (intOf i).toNat)
 case atStart => exact ⟨1, Nat.le_refl _, by omega, by omega, rfl, UC (fun j h1 h2 => absurd h2 (by omega)), Below.refl _ _⟩
 case round =>
  obtain ⟨k, hk1, hk2, hk3, rfl, hall, hb⟩ := hrel
  have c1 := US (UE hb k2)
  have c2 := US (UE hb x2)
  by_cases hlt : k ≤ m
  ·by_cases hlt' : k ≤ m'
   ·obtain ⟨b, off, u, rfl, hbl, hc, hu⟩ := ((UB h2).below hb).here (k := m - k) (by rw [UB HN]; omega)
    obtain ⟨b', off', u', rfl, hbl', hc', hu'⟩ := ((UB h2').below hb).here (k := m' - k) (by rw [UB HN']; omega)
    have hat := UC (UB HAT k)
    have hhit := UC (fun (hz : C k ≠ 0) => UB HIT k hk1 hlt hlt' (UB hall) hz)
    have hone := UC (fun (hz : C k = 0) => (show ∀ j, 1 ≤ j → j < k + 1 → C j = 0 from fun j h1 h2 => by
      by_cases e : j = k
      ·subst e; exact hz
      ·exact UB hall j h1 (by omega)))
    generalize n.getD (m - k) [] = lab at *
    generalize n'.getD (m' - k) [] = lab' at *
    obtain ⟨j, hj⟩ : ∃ j : Nat, m - k = j := ⟨_, rfl⟩
    obtain ⟨j', hj'⟩ : ∃ j' : Nat, m' - k = j' := ⟨_, rfl⟩
    rw [hj] at hc
    rw [hj'] at hc'
    have s1 : (m : Int) - k = j := by omega
    have s2 : (m' : Int) - k = j' := by omega
    have jl : j < m := by omega
    have jl' : j' < m' := by omega
    have wj : IntKind.i64.wrap (j : Int) = j := wrap_small j (by omega)
    have wj' : IntKind.i64.wrap (j' : Int) = j' := wrap_small j' (by omega)
    have HU := UC hu
    have HU' := UC hu'
    obtain ⟨ua, uc, rfl, _⟩ := hu.form
    obtain ⟨ua', uc', rfl, _⟩ := hu'.form
    clear hu hu'
    have i1 : (k : Int) ≤ m := by omega
    have i2 : (k : Int) ≤ m' := by omega
    go_wp2
    go_quiet (first | (exact l2bytes_quiet (UB HU) (UB HU') _))
    clear wj wj' s1 s2 hj hj' jl jl' hc hc' c1 c2 i1 i2 hl hl' hm hm'
    have bb := UG hb (below_draws (w := wr) nq)
    have hcs := cmpB_cases lab lab'
    generalize cmpB lab lab' = c at *
    rcases hcs with rfl | rfl | rfl
    ·have hr := UB hhit (by rw [UB hat]; omega)
     rw [UB hat] at hr
     subst hr
     go_wp2
     go_ret
     exact ⟨rfl, UG bb2 bb⟩
    ·go_wp2
     exact ⟨⟨k + 1, by omega, by omega, by omega, by go_num, UC (UB hone (UB hat)), bb⟩, by simp [intOf]; omega⟩
    ·have hr := UB hhit (by rw [UB hat]; omega)
     rw [UB hat] at hr
     subst hr
     go_wp2
     go_ret
     exact ⟨rfl, UG bb2 bb⟩
   ·have hr := UB NON k (.inr (by omega)) (UB hall)
    unfold byLength at hr
    rw [if_neg (by omega), if_pos (by omega)] at hr
    subst hr
    have i1 : (k : Int) ≤ m := by omega
    have i2 : ¬ (k : Int) ≤ m' := by omega
    have i3 : ((m : Int) == m') = false := by rw [beq_eq_false_iff_ne]; omega
    have i4 : ¬ (m : Int) < m' := by omega
    go_wp2
    go_ret
    exact ⟨rfl, UG bb2 hb⟩
  ·have i1 : ¬ (k : Int) ≤ m := by omega
   have hr := UB NON k (.inl (by omega)) (UB hall)
   unfold byLength at hr
   by_cases he : m = m'
   ·subst he
    rw [if_neg (by omega), if_neg (by omega)] at hr
    subst hr
    go_wp2
    go_ret
    exact ⟨rfl, UG bb2 hb⟩
   ·rw [if_pos (by omega)] at hr
    subst hr
    have i3 : ((m : Int) == m') = false := by rw [beq_eq_false_iff_ne]; omega
    have i4 : (m : Int) < m' := by omega
    go_wp2
    go_ret
    exact ⟨rfl, UG bb2 hb⟩

set_option maxHeartbeats 1000000
set_option maxRecDepth 100000

theorem l3num_any (x y : Int) (w : World) : Calls Tryz.prog 103 #[.int .i64 x, .int .i64 y] w fun e w' => e = .returned (.int .i64 (byLength x y)) ∧ w = w' := by
 unfold byLength
 by_cases h1 : x < y
 ·rw [if_pos h1]
  go_enter Tryz.func103, Tryz.ntmps103
  go_wp2
  go_ret
  exact ⟨rfl, rfl⟩
 ·rw [if_neg h1]
  by_cases h2 : y < x
  ·rw [if_pos h2]
   go_enter Tryz.func103, Tryz.ntmps103
   go_wp2
   go_ret
   exact ⟨rfl, rfl⟩
  ·rw [if_neg h2]
   go_enter Tryz.func103, Tryz.ntmps103
   go_wp2
   go_ret
   exact ⟨rfl, rfl⟩

theorem l3cmp_has {vn vt vx vi un ut ux ui : Value} {a b : Rec} {w : World} (h : HasR w vn vt vx vi a) (h' : HasR w un ut ux ui b) (ha : rrOk a = true) (hb : rrOk b = true) :
  Calls Tryz.prog 72 #[.agg #[vn, .int .i64 a.type, .int .i64 a.ttl, .int .i64 a.addr, vt, vx, vi], .agg #[un, .int .i64 b.type, .int .i64 b.ttl, .int .i64 b.addr, ut, ux, ui]] w fun e w' => e = .returned (.int .i64 (cmpR a b)) ∧ Below w.heap.size w w' := by
 obtain ⟨na, nc, rfl, _⟩ := h.name.form
 obtain ⟨ta, tc, rfl, _⟩ := h.to.form
 obtain ⟨xa, xc, rfl, _⟩ := h.text.form
 obtain ⟨ia, ic, rfl, _⟩ := h.nums.form
 obtain ⟨na', nc', rfl, _⟩ := h'.name.form
 obtain ⟨ta', tc', rfl, _⟩ := h'.to.form
 obtain ⟨xa', xc', rfl, _⟩ := h'.text.form
 obtain ⟨ia', ic', rfl, _⟩ := h'.nums.form
 have b0 := below2 w (.cells #[.slice na a.name.length nc, .int .i64 a.type, .int .i64 a.ttl, .int .i64 a.addr, .slice ta a.to.length tc, .slice xa a.text.length xc, .slice ia a.nums.length ic] 67) (.cells #[.slice na' b.name.length nc', .int .i64 b.type, .int .i64 b.ttl, .int .i64 b.addr, .slice ta' b.to.length tc', .slice xa' b.text.length xc', .slice ia' b.nums.length ic'] 67)
 obtain ⟨hsz, k0, x0⟩ := box2 w (.cells #[.slice na a.name.length nc, .int .i64 a.type, .int .i64 a.ttl, .int .i64 a.addr, .slice ta a.to.length tc, .slice xa a.text.length xc, .slice ia a.nums.length ic] 67) #[.slice na' b.name.length nc', .int .i64 b.type, .int .i64 b.ttl, .int .i64 b.addr, .slice ta' b.to.length tc', .slice xa' b.text.length xc', .slice ia' b.nums.length ic'] 67
 have K0 := UC k0
 have X0 := UC x0
 have H0 := UC (h.below b0)
 have J0 := UC (h'.below b0)
 clear h h' k0 x0
 have hna := (nameOk_parts (rrOk_parts ha).1).1
 have hnb := (nameOk_parts (rrOk_parts hb).1).1
 have HC := UC (fun (w : World) (v v' : Value) (h : HasL w v a.name) (h' : HasL w v' b.name) => l2cmp_has h h' (by omega) (by omega))
 have HPa := UC (fun (w : World) (vn vt vx vi : Value) (h : HasR w vn vt vx vi a) => l3put_has h ha)
 have HPb := UC (fun (w : World) (vn vt vx vi : Value) (h : HasR w vn vt vx vi b) => l3put_has h hb)
 have HL := UC (l3num_any a.type b.type)
 have HB := UC (fun (w : World) (v v' : Value) (h : Has w v (dataB a)) (h' : Has w v' (dataB b)) => l2bytes_has h h')
 clear ha hb hna hnb
 unfold cmpR
 generalize dataB a = DA at *
 generalize dataB b = DB at *
 generalize cmpB DA DB = CB at *
 generalize cmpN a.name b.name = CN at *
 generalize byLength a.type b.type = CL at *
 by_cases e1 : CN = 0
 ·subst e1
  rw [if_neg (by simp)]
  by_cases e2 : CL = 0
  ·subst e2
   rw [if_neg (by simp)]
   go_enter Tryz.func72, Tryz.ntmps72
   go_wp2_with fail
   generalize (w.alloc (.cells #[.slice na a.name.length nc, .int .i64 a.type, .int .i64 a.ttl, .int .i64 a.addr, .slice ta a.to.length tc, .slice xa a.text.length xc, .slice ia a.nums.length ic] 67)).alloc (.cells #[.slice na' b.name.length nc', .int .i64 b.type, .int .i64 b.ttl, .int .i64 b.addr, .slice ta' b.to.length tc', .slice xa' b.text.length xc', .slice ia' b.nums.length ic'] 67) = W at *
   refine (UB HC _ _ _ (UB H0).name (UB J0).name).mono ?_
   rintro e w1 ⟨rfl, b1⟩
   have bb1 := UG b0 b1
   have K1 := UC (UE b1 (UB K0))
   have X1 := UC (UE b1 (UB X0))
   have H1 := UC ((UB H0).below b1)
   have J1 := UC ((UB J0).below b1)
   clear K0 X0 H0 J0 b1
   obtain ⟨d0, d1, d2, d3, d4, d5, d6⟩ := UJ (UB K1)
   obtain ⟨f0, f1, f2, f3, f4, f5, f6⟩ := UJ (UB X1)
   go_wp2_with fail
   refine (UB HL _).mono ?_
   rintro e w2 ⟨rfl, rfl⟩
   clear d0 d1 d2 d3 d4 d5 d6 f0 f1 f2 f3 f4 f5 f6
   have bd := UX (w := w1)
   have bb2 := UG bb1 bd
   have K2 := UC (UE bd (UB K1))
   have X2 := UC (UE bd (UB X1))
   have H2 := UC ((UB H1).below bd)
   have J2 := UC ((UB J1).below bd)
   clear K1 X1 H1 J1 bd
   obtain ⟨d0, d1, d2, d3, d4, d5, d6⟩ := UJ (UB K2)
   obtain ⟨f0, f1, f2, f3, f4, f5, f6⟩ := UJ (UB X2)
   go_wp2_with fail
   clear d0 d1 d2 d3 d4 d5 d6 f0 f1 f2 f3 f4 f5 f6
   go_region_held3 (fun w' => (w'.cell? ⟨w.heap.size, 0, none⟩ = some (.slice na a.name.length nc) ∧ w'.cell? ⟨w.heap.size, 1, none⟩ = some (.int .i64 a.type) ∧ w'.cell? ⟨w.heap.size, 2, none⟩ = some (.int .i64 a.ttl) ∧ w'.cell? ⟨w.heap.size, 3, none⟩ = some (.int .i64 a.addr) ∧ w'.cell? ⟨w.heap.size, 4, none⟩ = some (.slice ta a.to.length tc) ∧ w'.cell? ⟨w.heap.size, 5, none⟩ = some (.slice xa a.text.length xc) ∧ w'.cell? ⟨w.heap.size, 6, none⟩ = some (.slice ia a.nums.length ic)) ∧ (w'.cell? ⟨w.heap.size + 1, 0, none⟩ = some (.slice na' b.name.length nc') ∧ w'.cell? ⟨w.heap.size + 1, 1, none⟩ = some (.int .i64 b.type) ∧ w'.cell? ⟨w.heap.size + 1, 2, none⟩ = some (.int .i64 b.ttl) ∧ w'.cell? ⟨w.heap.size + 1, 3, none⟩ = some (.int .i64 b.addr) ∧ w'.cell? ⟨w.heap.size + 1, 4, none⟩ = some (.slice ta' b.to.length tc') ∧ w'.cell? ⟨w.heap.size + 1, 5, none⟩ = some (.slice xa' b.text.length xc') ∧ w'.cell? ⟨w.heap.size + 1, 6, none⟩ = some (.slice ia' b.nums.length ic')))
    (first | exact ⟨UJ (UB K2), UJ (UB X2)⟩ | exact ⟨UJ (UE b3 (UB K2)), UJ (UE b3 (UB X2))⟩ | exact ⟨UJ (UE q4 (UB K2)), UJ (UE q4 (UB X2))⟩ | exact ⟨UJ (UE q5 (UB K2)), UJ (UE q5 (UB X2))⟩)
    (first
    | (go_at_call_of 104 (Value.slice na a.name.length nc); refine (UB HPa _ _ _ _ _ (UB H2)).mono ?_; rintro e w3 ⟨y3, rfl, o3, b3⟩)
    | (go_at_call_of 104 (Value.slice na' b.name.length nc'); refine (UB HPb _ _ _ _ _ ((UB J2).below b3)).mono ?_; rintro e w4 ⟨y4, rfl, o4, b4⟩; have q4 := UG b3 b4)
    | (go_at_call 101; refine (UB HB _ _ _ (o3.below b4).has o4.has).mono ?_; rintro e w5 ⟨rfl, rfl⟩; have q5 := q4))
   go_wp2_with fail
   go_ret
   exact ⟨rfl, UG bb2 q5⟩
  ·rw [if_pos e2]
   have f2 : (CL == 0) = false := by rw [beq_eq_false_iff_ne]; exact e2
   go_enter Tryz.func72, Tryz.ntmps72
   go_wp2_with fail
   generalize (w.alloc (.cells #[.slice na a.name.length nc, .int .i64 a.type, .int .i64 a.ttl, .int .i64 a.addr, .slice ta a.to.length tc, .slice xa a.text.length xc, .slice ia a.nums.length ic] 67)).alloc (.cells #[.slice na' b.name.length nc', .int .i64 b.type, .int .i64 b.ttl, .int .i64 b.addr, .slice ta' b.to.length tc', .slice xa' b.text.length xc', .slice ia' b.nums.length ic'] 67) = W at *
   refine (UB HC _ _ _ (UB H0).name (UB J0).name).mono ?_
   rintro e w1 ⟨rfl, b1⟩
   have bb1 := UG b0 b1
   have K1 := UC (UE b1 (UB K0))
   have X1 := UC (UE b1 (UB X0))
   have H1 := UC ((UB H0).below b1)
   have J1 := UC ((UB J0).below b1)
   clear K0 X0 H0 J0 b1
   obtain ⟨d0, d1, d2, d3, d4, d5, d6⟩ := UJ (UB K1)
   obtain ⟨f0, f1, f9, f3, f4, f5, f6⟩ := UJ (UB X1)
   go_wp2_with fail
   refine (UB HL _).mono ?_
   rintro e w2 ⟨rfl, rfl⟩
   go_wp2_with fail
   go_ret
   exact ⟨rfl, bb1⟩
 ·rw [if_pos e1]
  have f1 : (CN == 0) = false := by rw [beq_eq_false_iff_ne]; exact e1
  go_enter Tryz.func72, Tryz.ntmps72
  go_wp2_with fail
  generalize (w.alloc (.cells #[.slice na a.name.length nc, .int .i64 a.type, .int .i64 a.ttl, .int .i64 a.addr, .slice ta a.to.length tc, .slice xa a.text.length xc, .slice ia a.nums.length ic] 67)).alloc (.cells #[.slice na' b.name.length nc', .int .i64 b.type, .int .i64 b.ttl, .int .i64 b.addr, .slice ta' b.to.length tc', .slice xa' b.text.length xc', .slice ia' b.nums.length ic'] 67) = W at *
  refine (UB HC _ _ _ (UB H0).name (UB J0).name).mono ?_
  rintro e w1 ⟨rfl, b1⟩
  go_wp2_with fail
  go_ret
  exact ⟨rfl, UG b0 b1⟩
end Go.Proofs.YtaehfeobfkaicaaGreat
