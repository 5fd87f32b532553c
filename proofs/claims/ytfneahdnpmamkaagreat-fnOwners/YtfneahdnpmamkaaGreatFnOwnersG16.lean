/-
  Contracts of the specification's l2put and NamePut. Contracts of the specification's Put32. Contracts of the specification's l3put. Contracts of the specification's l3num and l3cmp. Plain facts: what lay below a mark lies there still, where a walk writes into a stretch behind it. No program is named here. Plain facts: three results of a function. No program is named here. Plain facts: the records that stay, and how many go, of the first k. No program is named here. Plain facts: what l5add has made of the first k records. No program is named here.
-/
import Derived.Test.YtfneahdnpmamkaaGreatFnOwnersG15
import Derived.Deep.RegionWith
namespace Go.Proofs.YtfneahdnpmamkaaGreat
open Go.RowKit
set_option linter.unusedVariables false

set_option maxHeartbeats 2000000 in
set_option maxRecDepth 100000 in
theorem Fd {B : Nat} {vb v : Value} {l : List Int} {n : List (List Int)} {w : World} (hvb : Own B 5 w vb l) (hB : B ≤ w.heap.size) (hl : l.length ≤ 1099511620000) (h : Dq B w v n) (h6 : n.length ≤ 6) (hlen : ∀ k, k < n.length → (n.getD k []).length ≤ 15) (hdl : ∀ k, (Fr n k).length ≤ 16 * k) :
  Calls Tryz.prog 37 #[vb, .agg #[v]] w fun e w' => ∃ v', e = .returned v' ∧ Own B 5 w' v' (l ++ wire n) ∧ Below B w w' := by
 obtain ⟨a, cap, rfl, hcl, hm⟩ := h.hasL.form
 unfold maxLen at hm
 have HDS := UC (Jj n)
 have HD0 := UC (Mu n)
 have HLEN := UC hlen
 have HDL := UC hdl
 clear hdl hlen
 unfold wire
 generalize Fr n = D at *
 have b0 := UI (w := w) (.cells #[.slice a n.length cap] 25)
 have k0 := heap_alloc_new w (.cells #[.slice a n.length cap] 25)
 have h0 := UC (h.below b0)
 have v0 := UC (hvb.alloc (.cells #[.slice a n.length cap] 25))
 clear h hvb
 have z0 := VC k0
 generalize hn : n.length = m at *
 have HN := UC hn
 clear hn
 go_enter Tryz.func37, Tryz.ntmps37
 go_wp2
 generalize w.alloc (.cells #[.slice a m cap] 25) = w1 at *
 go_loopw [0, 5] (fun o i wr => ∃ k : Nat, k ≤ m ∧ i = .int .i64 k ∧ Own B 5 wr o (l ++ D k) ∧ Below B w1 wr ∧ wr.heap[w.heap.size]? = some (.cells #[.slice a m cap] 25)) (fun _ i _ => m - (intOf i).toNat)
 case atStart => exact ⟨0, Nat.zero_le _, rfl, by rw [UB HD0, List.append_nil]; exact UB v0, Below.refl _ _, k0⟩
 case round =>
  obtain ⟨k, hk, rfl, ho, hb, hk1⟩ := hrel
  have c1 := US hk1
  have zb : B ≤ wr.heap.size := by have := hb.size; omega
  have hdk := UB HDL k
  have hdk2 : (l ++ D k).length ≤ 1099511620000 + 96 := by rw [List.length_append]; omega
  by_cases hlt : k < m
  ·obtain ⟨b, off, u, rfl, hbl, hc, hu⟩ := ((UB h0).low hb (Nat.le_refl _)).here (k := k) (by rw [UB HN]; exact hlt)
   have hds := UC (UB HDS k hlt)
   have hlk := UB HLEN k hlt
   generalize n.getD k [] = lab at *
   have HU := UC hu
   obtain ⟨ua, uc, rfl, _⟩ := hu.form
   clear hu
   have hwrap := Z6 lab.length (by omega)
   have hod := UC (ho.below (UX (w := wr)))
   have hbd := UC (hb.drew)
   have kd := UE (UX (w := wr)) hk1
   have hcd := US kd
   have hud : wr.drew.cell? ⟨b, off + k, none⟩ = some (.slice ua lab.length uc) := hc
   have HUAL := UC (show ∀ o, (wr.drew.alloc o).cell? ⟨b, off + k, none⟩ = some (.slice ua lab.length uc) from fun o => ((UI o).cell (p := ⟨b, off + k, none⟩) (by show b < wr.heap.size; omega)).trans hud)
   have KAL := UC (show ∀ o, (wr.drew.alloc o).heap[w.heap.size]? = some (.cells #[.slice (some ⟨b, off, none⟩) m cap] 25) from fun o => UE (UI o) kd)
   have BAL := UC (show ∀ o, Below B w1 (wr.drew.alloc o) from fun o => hb.drew.alloc zb o)
   have UAL := UC (show ∀ o, C0 B (wr.drew.alloc o) (.slice ua lab.length uc) lab from fun o => (UB HU).low ((Below.refl B wr).drew.alloc zb o) (Nat.le_refl _))
   have ZAL := UC (show ∀ o, B ≤ (wr.drew.alloc o).heap.size from fun o => Nat.le_trans zb (UI (w := wr.drew) o).size)
   have KD := UC kd
   have HC := UC hc
   clear ho kd hud hcd hc
   go_wp2_with fail
   clear c1
   go_region_held3 (fun w' => w'.cell? ⟨w.heap.size, 0, none⟩ = some (.slice (some ⟨b, off, none⟩) m cap) ∧ w'.cell? ⟨b, off + k, none⟩ = some (.slice ua lab.length uc))
    (first | exact ⟨US (UB KD), UB HC⟩ | exact ⟨US (UB KAL _), UB HUAL _⟩ | exact ⟨US k2, u2⟩ | exact ⟨US k3, u3⟩)
    (first
    | (refine Bc rfl (.tmp 13) (.tmp 21) 22 5 rfl Tryz.underlying22 VJ B _ _ (l ++ D k) [(lab.length : Int)] (by simp [Act.eval]) (by simp [Act.eval]) ((UB hod).alloc _) (B4 wr.drew 0 5 [(lab.length : Int)] (Nat.zero_le _) (by simp [maxLen])).reads (by simp only [List.length_cons, List.length_nil]; omega) (UB ZAL _) ?_; intro v2 w2 o2 g2; obtain ⟨k2, b2, z2, U2, u2⟩ := Sk g2 ((UB hod).alloc _) (UB ZAL _) (UB KAL _) (by decide) (UB BAL _) (UB UAL _) (UB HUAL _) hbl)
    | (refine Bc rfl (.tmp 22) (.tmp 27) 22 5 rfl Tryz.underlying22 VJ B _ _ ((l ++ D k) ++ [(lab.length : Int)]) lab (by simp [Act.eval]) (by simp [Act.eval]) o2 U2.has.reads (by rw [List.length_append, List.length_cons, List.length_nil]; omega) z2 ?_; intro v3 w3 o3 g3; obtain ⟨k3, b3, z3, U3, u3⟩ := Sk g3 o2 z2 k2 (by decide) b2 U2 u2 hbl))
   all_goals
    go_wp2_with fail
    exact ⟨⟨k + 1, by omega, by go_num, by rw [UB hds]; simpa only [List.append_assoc, List.singleton_append] using o3, b3, k3⟩, by simp [intOf]; omega⟩
  ·obtain rfl : k = m := by omega
   go_wp2_with (at_builtin; refine Aq rfl _ _ 22 5 rfl Tryz.underlying22 VJ B _ _ (l ++ D k) [0] rfl rfl (ho.alloc _) (B4 wr 0 5 [0] (Nat.zero_le _) (by simp [maxLen])).reads (by simp only [List.length_cons, List.length_nil]; omega) (by simp; omega) ?_)
   intro v4 w4 o4 g4
   have b4 : Below B w1 w4 := (hb.alloc zb _).grown g4 (by simp; omega) (fun q hq => (ho.lt q hq).1)
   go_wp2_with fail
   go_ret
   exact ⟨v4, rfl, by simpa only [List.append_assoc] using o4, (b0.mono hB).trans b4⟩
set_option maxHeartbeats 800000
set_option maxRecDepth 100000

theorem Qb {B : Nat} {v : Value} {l : List Int} (n : Int) {w : World} (h : Own B 5 w v l) (hl : l.length ≤ 1048576) (hn : n < 0 ∨ 4294967295 < n) :
  Calls Tryz.prog 81 #[v, .int .i64 n] w fun e w' => ∃ v', e = .returned v' ∧ Own w.heap.size 5 w' v' l ∧ Below w.heap.size w w' := by
 by_cases h0 : n < 0
 ·go_enter Tryz.func81, Tryz.ntmps81
  go_wp2_with (at_builtin; refine Aq rfl _ _ 22 5 rfl Tryz.underlying22 VJ w.heap.size _ v [] l rfl rfl (B4 w w.heap.size 5 [] (Nat.le_refl _) (by simp)) (h.alloc _).reads (by simp; omega) (by simp) ?_)
  intro v' w2 hown hgrow
  go_wp2
  go_ret
  exact ⟨v', rfl, hown, ((Below.refl _ _).alloc (Nat.le_refl _) _).grown hgrow (by simp) (fun k hk => by simp [Value.ownBlock] at hk; omega)⟩
 ·have h1 : 4294967295 < n := by omega
  go_enter Tryz.func81, Tryz.ntmps81
  go_wp2_with (at_builtin; refine Aq rfl _ _ 22 5 rfl Tryz.underlying22 VJ w.heap.size _ v [] l rfl rfl (B4 w w.heap.size 5 [] (Nat.le_refl _) (by simp)) (h.alloc _).reads (by simp; omega) (by simp) ?_)
  intro v' w2 hown hgrow
  go_wp2
  go_ret
  exact ⟨v', rfl, hown, ((Below.refl _ _).alloc (Nat.le_refl _) _).grown hgrow (by simp) (fun k hk => by simp [Value.ownBlock] at hk; omega)⟩

theorem Ow {B : Nat} {v : Value} {l : List Int} (n : Int) {w : World} (h : Own B 5 w v l) (hl : l.length ≤ 1048576) (h0 : 0 ≤ n) (h1 : n ≤ 4294967295) :
  Calls Tryz.prog 81 #[v, .int .i64 n] w fun e w' => ∃ v', e = .returned v' ∧ Own w.heap.size 5 w' v' (l ++ [n / 16777216, n / 65536 % 256, n / 256 % 256, n % 256]) ∧ Below w.heap.size w w' := by
 go_enter Tryz.func81, Tryz.ntmps81
 go_wp2_with (at_builtin; refine Aq rfl _ _ 22 5 rfl Tryz.underlying22 VJ w.heap.size _ v [] l rfl rfl (B4 w w.heap.size 5 [] (Nat.le_refl _) (by simp)) (h.alloc _).reads (by simp; omega) (by simp) ?_)
 intro v1 w1 o1 hgrow
 have b1 : Below w.heap.size w w1 := ((Below.refl _ _).alloc (Nat.le_refl _) _).grown hgrow (by simp) (fun k hk => by simp [Value.ownBlock] at hk; omega)
 clear hgrow
 have hsz := b1.size
 go_wp2_with (at_builtin; refine Aq rfl _ _ 22 5 rfl Tryz.underlying22 VJ w.heap.size v1 _ l [n / 16777216, n / 65536 % 256, n / 256 % 256, n % 256] rfl rfl (o1.alloc _) (Pb w1 0 5 n (Nat.zero_le _)).reads (by simp; omega) (by simp; omega) ?_)
 intro v' w2 hown hgrow
 go_wp2
 go_ret
 exact ⟨v', rfl, hown, (b1.alloc hsz _).grown hgrow (by simp; omega) (fun k hk => (o1.lt k hk).1)⟩

theorem F7 {B : Nat} {v : Value} {l : List Int} (n : Int) {w : World} (h : Own B 5 w v l) (hl : l.length ≤ 1048576) :
  Calls Tryz.prog 81 #[v, .int .i64 n] w fun e w' => ∃ v', e = .returned v' ∧ Own w.heap.size 5 w' v' (Bn l n) ∧ Below w.heap.size w w' := by
 by_cases hn : 0 ≤ n ∧ n ≤ 4294967295
 ·have e : Bn l n = l ++ [n / 16777216, n / 65536 % 256, n / 256 % 256, n % 256] := by unfold Bn; rw [if_pos hn]
  rw [e]; exact Ow n h hl hn.1 hn.2
 ·have e : Bn l n = l := by unfold Bn; rw [if_neg hn]
  rw [e]; exact Qb n h hl (by omega)
set_option maxHeartbeats 2000000
set_option maxRecDepth 100000

theorem Qf (B : Nat) (e : TypeId) (w : World) : Own B e w (.slice none 0 0) [] := World.ownsRow_nil _ _ _ _

theorem Zz {na : Option Addr} {nc : Nat} {ta : Option Addr} {tc : Nat} {xa : Option Addr} {xc : Nat} {ia : Option Addr} {ic : Nat} {nm to : List (List Int)} {tx nu : List Int} {tt ad : Int} {w : World} (h0 : 0 ≤ ad) (h1 : ad ≤ 4294967295) :
  Calls Tryz.prog 53 #[.agg #[.slice na nm.length nc, .int .i64 1, .int .i64 tt, .int .i64 ad, .slice ta to.length tc, .slice xa tx.length xc, .slice ia nu.length ic]] w fun e w' => ∃ v', e = .returned v' ∧ Own w.heap.size 5 w' v' (Bn [] ad) ∧ Below w.heap.size w w' := by
 have b0 := UI (w := w) (.cells #[.slice na nm.length nc, .int .i64 1, .int .i64 tt, .int .i64 ad, .slice ta to.length tc, .slice xa tx.length xc, .slice ia nu.length ic] 39)
 have hP := UC (F7 (B := 0) ad (Qf 0 5 (w.alloc (.cells #[.slice na nm.length nc, .int .i64 1, .int .i64 tt, .int .i64 ad, .slice ta to.length tc, .slice xa tx.length xc, .slice ia nu.length ic] 39))) (by simp))
 generalize Bn [] ad = G at *
 go_enter Tryz.func53, Tryz.ntmps53
 go_wp2_with fail
 refine (UB hP).mono ?_
 rintro e w1 ⟨v1, rfl, o1, b1⟩
 go_wp2_with fail
 go_ret
 exact ⟨v1, rfl, o1.mono b0.size, UG b0 b1⟩

theorem l3put_N {na : Option Addr} {nc : Nat} {ta : Option Addr} {tc : Nat} {xa : Option Addr} {xc : Nat} {ia : Option Addr} {ic : Nat} {nm to : List (List Int)} {tx nu : List Int} {tt ad : Int} {w : World} {ty : Int} (ht : ty = 2 ∨ ty = 5 ∨ ty = 12) (h : HasL w (.slice ta to.length tc) to) (hok : Ag to = true) :
  Calls Tryz.prog 53 #[.agg #[.slice na nm.length nc, .int .i64 ty, .int .i64 tt, .int .i64 ad, .slice ta to.length tc, .slice xa tx.length xc, .slice ia nu.length ic]] w fun e w' => ∃ v', e = .returned v' ∧ Own w.heap.size 5 w' v' (wire to) ∧ Below w.heap.size w w' := by
 have b0 := UI (w := w) (.cells #[.slice na nm.length nc, .int .i64 ty, .int .i64 tt, .int .i64 ad, .slice ta to.length tc, .slice xa tx.length xc, .slice ia nu.length ic] 39)
 have K0 := UC (heap_alloc_new w (.cells #[.slice na nm.length nc, .int .i64 ty, .int .i64 tt, .int .i64 ad, .slice ta to.length tc, .slice xa tx.length xc, .slice ia nu.length ic] 39))
 have hP := UC (Fd (B := (w.alloc (.cells #[.slice na nm.length nc, .int .i64 ty, .int .i64 tt, .int .i64 ad, .slice ta to.length tc, .slice xa tx.length xc, .slice ia nu.length ic] 39)).heap.size) (Qf _ 5 (w.alloc (.cells #[.slice na nm.length nc, .int .i64 ty, .int .i64 tt, .int .i64 ad, .slice ta to.length tc, .slice xa tx.length xc, .slice ia nu.length ic] 39))) (Nat.le_refl _) (by simp) (h.below b0).at (Ai hok).1 (fun k hk => (B6 ((Ai hok).2 k hk)).2) (Ee to hok))
 rw [List.nil_append] at hP
 clear h
 generalize wire to = G at *
 have e1 : (ty == 1) = false := by rw [beq_eq_false_iff_ne]; omega
 have e6 : (ty == 6) = false := by rw [beq_eq_false_iff_ne]; omega
 have hto : Ax ty = true := decide_eq_true (by omega)
 have hna : named ty = true := decide_eq_true (by omega)
 have HTO := UC hto
 have HNA := UC hna
 clear ht hto hna
 go_enter Tryz.func53, Tryz.ntmps53
 go_wp2_with fail
 generalize w.alloc (.cells #[.slice na nm.length nc, .int .i64 ty, .int .i64 tt, .int .i64 ad, .slice ta to.length tc, .slice xa tx.length xc, .slice ia nu.length ic] 39) = W at *
 refine (VR ty _ (UB HTO)).mono ?_
 rw [UB HNA]
 rintro e w1 ⟨rfl, rfl⟩
 obtain ⟨d0, d1, d2, d3, d4, d5, d6⟩ := UJ (UB K0)
 go_wp2_with fail
 refine (UB hP).mono ?_
 rintro e w1 ⟨v1, rfl, o1, b1⟩
 go_wp2_with fail
 go_ret
 exact ⟨v1, rfl, o1.mono b0.size, UG b0 b1⟩

theorem l3put_X {na : Option Addr} {nc : Nat} {ta : Option Addr} {tc : Nat} {xa : Option Addr} {xc : Nat} {ia : Option Addr} {ic : Nat} {nm to : List (List Int)} {tx nu : List Int} {tt ad : Int} {w : World} {ty : Int} (ht : ty = 16 ∨ ty = 49) (h : Has w (.slice xa tx.length xc) tx) (hl : tx.length ≤ 40) :
  Calls Tryz.prog 53 #[.agg #[.slice na nm.length nc, .int .i64 ty, .int .i64 tt, .int .i64 ad, .slice ta to.length tc, .slice xa tx.length xc, .slice ia nu.length ic]] w fun e w' => ∃ v', e = .returned v' ∧ Own w.heap.size 5 w' v' ((tx.length : Int) :: tx) ∧ Below w.heap.size w w' := by
 have b0 := UI (w := w) (.cells #[.slice na nm.length nc, .int .i64 ty, .int .i64 tt, .int .i64 ad, .slice ta to.length tc, .slice xa tx.length xc, .slice ia nu.length ic] 39)
 have K0 := UC (heap_alloc_new w (.cells #[.slice na nm.length nc, .int .i64 ty, .int .i64 tt, .int .i64 ad, .slice ta to.length tc, .slice xa tx.length xc, .slice ia nu.length ic] 39))
 have H0 := UC (h.below b0)
 clear h
 have e1 : (ty == 1) = false := by rw [beq_eq_false_iff_ne]; omega
 have e6 : (ty == 6) = false := by rw [beq_eq_false_iff_ne]; omega
 have hto : Ax ty = true := decide_eq_true (by omega)
 have hna : named ty = false := decide_eq_false (by omega)
 have HTO := UC hto
 have HNA := UC hna
 clear ht hto hna
 have hmod : ((tx.length : Int) % 256) = tx.length := by omega
 go_enter Tryz.func53, Tryz.ntmps53
 go_wp2_with fail
 generalize w.alloc (.cells #[.slice na nm.length nc, .int .i64 ty, .int .i64 tt, .int .i64 ad, .slice ta to.length tc, .slice xa tx.length xc, .slice ia nu.length ic] 39) = W at *
 refine (VR ty _ (UB HTO)).mono ?_
 rw [UB HNA]
 rintro e w1 ⟨rfl, rfl⟩
 obtain ⟨d0, d1, d2, d3, d4, d5, d6⟩ := UJ (UB K0)
 have ca : ∀ o, (W.alloc o).cell? ⟨w.heap.size, 5, none⟩ = some (.slice xa tx.length xc) := fun o => (UJ (UE (UI o) (UB K0))).2.2.2.2.2.1
 go_wp2_with (at_builtin; refine Aq rfl _ _ 22 5 rfl Tryz.underlying22 VJ W.heap.size _ (.slice xa tx.length xc) [(tx.length : Int)] tx rfl rfl (B4 W W.heap.size 5 [(tx.length : Int)] (Nat.le_refl _) (by simp [maxLen])) ((UB H0).below (UI _)).reads (by simp; omega) (UI _).size ?_)
 intro v2 w2 o2 g2
 have b2 := Py g2
 go_wp2_with fail
 go_ret
 exact ⟨v2, rfl, o2.mono b0.size, UG b0 b2⟩

theorem l3put_S {na : Option Addr} {nc : Nat} {ta : Option Addr} {tc : Nat} {xa : Option Addr} {xc : Nat} {ia : Option Addr} {ic : Nat} {nm to : List (List Int)} {tx : List Int} {x y : Int} {tt ad : Int} {w : World} (h : HasL w (.slice ta to.length tc) to) (hi : HasI w (.slice ia 2 ic) [x, y]) (hok : Ag to = true) :
  Calls Tryz.prog 53 #[.agg #[.slice na nm.length nc, .int .i64 6, .int .i64 tt, .int .i64 ad, .slice ta to.length tc, .slice xa tx.length xc, .slice ia 2 ic]] w fun e w' => ∃ v', e = .returned v' ∧ Own w.heap.size 5 w' v' (Bn (Bn (wire to) x) y) ∧ Below w.heap.size w w' := by
 have b0 := UI (w := w) (.cells #[.slice na nm.length nc, .int .i64 6, .int .i64 tt, .int .i64 ad, .slice ta to.length tc, .slice xa tx.length xc, .slice ia 2 ic] 39)
 have K0 := UC (heap_alloc_new w (.cells #[.slice na nm.length nc, .int .i64 6, .int .i64 tt, .int .i64 ad, .slice ta to.length tc, .slice xa tx.length xc, .slice ia 2 ic] 39))
 have hw := Ex to hok
 have hw2 := D6 (wire to) x
 have hN := UC (show ∀ w1 : World, Below w.heap.size w w1 → Calls Tryz.prog 37 #[.slice none 0 0, .agg #[.slice ta to.length tc]] w1 fun e w' => ∃ v', e = .returned v' ∧ Own w1.heap.size 5 w' v' (wire to) ∧ Below w1.heap.size w1 w' from fun w1 hb => by
  have := Fd (B := w1.heap.size) (Qf _ 5 w1) (Nat.le_refl _) (by simp) (h.below hb).at (Ai hok).1 (fun k hk => (B6 ((Ai hok).2 k hk)).2) (Ee to hok)
  rw [List.nil_append] at this
  exact this)
 have hQ := UC (show ∀ (w1 : World) (B : Nat) (v : Value), Own B 5 w1 v (wire to) → Calls Tryz.prog 81 #[v, .int .i64 x] w1 fun e w' => ∃ v', e = .returned v' ∧ Own w1.heap.size 5 w' v' (Bn (wire to) x) ∧ Below w1.heap.size w1 w' from fun w1 B v ho => F7 x ho (by omega))
 have hR := UC (show ∀ (w1 : World) (B : Nat) (v : Value), Own B 5 w1 v (Bn (wire to) x) → Calls Tryz.prog 81 #[v, .int .i64 y] w1 fun e w' => ∃ v', e = .returned v' ∧ Own w1.heap.size 5 w' v' (Bn (Bn (wire to) x) y) ∧ Below w1.heap.size w1 w' from fun w1 B v ho => F7 y ho (by omega))
 have I0 := UC (hi.below b0)
 clear h hi hw hw2
 generalize Bn (Bn (wire to) x) y = G3 at *
 generalize Bn (wire to) x = G2 at *
 generalize wire to = G1 at *
 go_enter Tryz.func53, Tryz.ntmps53
 go_wp2_with fail
 generalize w.alloc (.cells #[.slice na nm.length nc, .int .i64 6, .int .i64 tt, .int .i64 ad, .slice ta to.length tc, .slice xa tx.length xc, .slice ia 2 ic] 39) = W at *
 have bd := UX (w := W)
 have KD := UC (UE bd (UB K0))
 have ID := UC ((UB I0).below bd)
 have bb := UG b0 bd
 obtain ⟨g, off, cp, hv, hg, n0, n1⟩ := (UB ID).two
 simp only [Value.slice.injEq] at hv
 obtain ⟨rfl, _, rfl⟩ := hv
 have N0 := UC n0
 have N1 := UC n1
 have zW : W.drew.heap.size = W.heap.size := rfl
 clear n0 n1 bd K0
 go_region_held3 (fun w' => w'.cell? ⟨w.heap.size, 4, none⟩ = some (.slice ta to.length tc) ∧ w'.cell? ⟨w.heap.size, 6, none⟩ = some (.slice (some ⟨g, off, none⟩) 2 ic) ∧ w'.cell? ⟨g, off, none⟩ = some (.int .i64 x) ∧ w'.cell? ⟨g, off + 1, none⟩ = some (.int .i64 y))
  (first
  | exact ⟨(UJ (UB KD)).2.2.2.2.1, (UJ (UB KD)).2.2.2.2.2.2, UB N0, UB N1⟩
  | exact ⟨(UJ (UE b1 (UB KD))).2.2.2.2.1, (UJ (UE b1 (UB KD))).2.2.2.2.2.2, (b1.cell hg).trans (UB N0), (b1.cell hg).trans (UB N1)⟩
  | exact ⟨(UJ (UE q2 (UB KD))).2.2.2.2.1, (UJ (UE q2 (UB KD))).2.2.2.2.2.2, (q2.cell hg).trans (UB N0), (q2.cell hg).trans (UB N1)⟩
  | exact ⟨(UJ (UE q3 (UB KD))).2.2.2.2.1, (UJ (UE q3 (UB KD))).2.2.2.2.2.2, (q3.cell hg).trans (UB N0), (q3.cell hg).trans (UB N1)⟩)
  (first
  | (go_at_call 37; refine (UB hN _ bb).mono ?_; rintro e w1 ⟨v1, rfl, o1, b1⟩)
  | (go_at_call 81; refine (UB hQ _ _ _ o1).mono ?_; rintro e w2 ⟨v2, rfl, o2, b2⟩; have q2 := UG b1 b2; clear o1)
  | (go_at_call 81; refine (UB hR _ _ _ o2).mono ?_; rintro e w3 ⟨v3, rfl, o3, b3⟩; have q3 := UG q2 b3; clear o2))
 go_wp2_with fail
 go_ret
 exact ⟨v3, rfl, o3.mono (by have h1 := bb.size; have h2 := q2.size; omega), UG bb q3⟩

theorem P4 {vn vt vx vi : Value} {r : Rec} {w : World} (h : HasR w vn vt vx vi r) (hok : rrOk r = true) :
  Calls Tryz.prog 53 #[.agg #[vn, .int .i64 r.type, .int .i64 r.ttl, .int .i64 r.addr, vt, vx, vi]] w fun e w' => ∃ v', e = .returned v' ∧ Own w.heap.size 5 w' v' (Cs r) ∧ Below w.heap.size w w' := by
 obtain ⟨_, ht, _, _, hd⟩ := A2 hok
 obtain ⟨na, nc, rfl, _⟩ := h.name.form
 obtain ⟨ta, tc, rfl, _⟩ := h.to.form
 obtain ⟨xa, xc, rfl, _⟩ := h.text.form
 obtain ⟨ia, ic, rfl, _⟩ := h.nums.form
 rcases C9 ht hd with ⟨e, h0, h1, eb⟩ | ⟨e, hn, eb⟩ | ⟨e, hn, x, y, exy, _, _, _, _, eb⟩ | ⟨e, hx, eb⟩
 ·rw [eb, e]; exact Zz h0 h1
 ·rw [eb]; exact l3put_N e h.to hn
 ·have hi := h.nums
  rw [exy] at hi ⊢
  rw [eb, e]
  exact l3put_S h.to hi hn
 ·rw [eb]; exact l3put_X e h.text hx
set_option maxHeartbeats 1000000
set_option maxRecDepth 100000

theorem Ws (x y : Int) (w : World) : Calls Tryz.prog 51 #[.int .i64 x, .int .i64 y] w fun e w' => e = .returned (.int .i64 (A4 x y)) ∧ w = w' := by
 unfold A4
 by_cases h1 : x < y
 ·rw [if_pos h1]
  go_enter Tryz.func51, Tryz.ntmps51
  go_wp2
  go_ret
  exact ⟨rfl, rfl⟩
 ·rw [if_neg h1]
  by_cases h2 : y < x
  ·rw [if_pos h2]
   go_enter Tryz.func51, Tryz.ntmps51
   go_wp2
   go_ret
   exact ⟨rfl, rfl⟩
  ·rw [if_neg h2]
   go_enter Tryz.func51, Tryz.ntmps51
   go_wp2
   go_ret
   exact ⟨rfl, rfl⟩

theorem Iv {vn vt vx vi un ut ux ui : Value} {a b : Rec} {w : World} (h : HasR w vn vt vx vi a) (h' : HasR w un ut ux ui b) (ha : rrOk a = true) (hb : rrOk b = true) :
  Calls Tryz.prog 25 #[.agg #[vn, .int .i64 a.type, .int .i64 a.ttl, .int .i64 a.addr, vt, vx, vi], .agg #[un, .int .i64 b.type, .int .i64 b.ttl, .int .i64 b.addr, ut, ux, ui]] w fun e w' => e = .returned (.int .i64 (cmpR a b)) ∧ Below w.heap.size w w' := by
 obtain ⟨na, nc, rfl, _⟩ := h.name.form
 obtain ⟨ta, tc, rfl, _⟩ := h.to.form
 obtain ⟨xa, xc, rfl, _⟩ := h.text.form
 obtain ⟨ia, ic, rfl, _⟩ := h.nums.form
 obtain ⟨na', nc', rfl, _⟩ := h'.name.form
 obtain ⟨ta', tc', rfl, _⟩ := h'.to.form
 obtain ⟨xa', xc', rfl, _⟩ := h'.text.form
 obtain ⟨ia', ic', rfl, _⟩ := h'.nums.form
 have b0 := Bl w (.cells #[.slice na a.name.length nc, .int .i64 a.type, .int .i64 a.ttl, .int .i64 a.addr, .slice ta a.to.length tc, .slice xa a.text.length xc, .slice ia a.nums.length ic] 39) (.cells #[.slice na' b.name.length nc', .int .i64 b.type, .int .i64 b.ttl, .int .i64 b.addr, .slice ta' b.to.length tc', .slice xa' b.text.length xc', .slice ia' b.nums.length ic'] 39)
 obtain ⟨hsz, k0, x0⟩ := box2 w (.cells #[.slice na a.name.length nc, .int .i64 a.type, .int .i64 a.ttl, .int .i64 a.addr, .slice ta a.to.length tc, .slice xa a.text.length xc, .slice ia a.nums.length ic] 39) #[.slice na' b.name.length nc', .int .i64 b.type, .int .i64 b.ttl, .int .i64 b.addr, .slice ta' b.to.length tc', .slice xa' b.text.length xc', .slice ia' b.nums.length ic'] 39
 have K0 := UC k0
 have X0 := UC x0
 have H0 := UC (h.below b0)
 have J0 := UC (h'.below b0)
 clear h h' k0 x0
 have hna := (Ai (A2 ha).1).1
 have hnb := (Ai (A2 hb).1).1
 have HC := UC (fun (w : World) (v v' : Value) (h : HasL w v a.name) (h' : HasL w v' b.name) => El h h' (by omega) (by omega))
 have HPa := UC (fun (w : World) (vn vt vx vi : Value) (h : HasR w vn vt vx vi a) => P4 h ha)
 have HPb := UC (fun (w : World) (vn vt vx vi : Value) (h : HasR w vn vt vx vi b) => P4 h hb)
 have HL := UC (Ws a.type b.type)
 have HB := UC (fun (w : World) (v v' : Value) (h : Has w v (Cs a)) (h' : Has w v' (Cs b)) => Ld h h')
 clear ha hb hna hnb
 unfold cmpR
 generalize Cs a = DA at *
 generalize Cs b = DB at *
 generalize cmpB DA DB = CB at *
 generalize cmpN a.name b.name = CN at *
 generalize A4 a.type b.type = CL at *
 by_cases e1 : CN = 0
 ·subst e1
  rw [if_neg (by simp)]
  by_cases e2 : CL = 0
  ·subst e2
   rw [if_neg (by simp)]
   go_enter Tryz.func25, Tryz.ntmps25
   go_wp2_with fail
   generalize (w.alloc (.cells #[.slice na a.name.length nc, .int .i64 a.type, .int .i64 a.ttl, .int .i64 a.addr, .slice ta a.to.length tc, .slice xa a.text.length xc, .slice ia a.nums.length ic] 39)).alloc (.cells #[.slice na' b.name.length nc', .int .i64 b.type, .int .i64 b.ttl, .int .i64 b.addr, .slice ta' b.to.length tc', .slice xa' b.text.length xc', .slice ia' b.nums.length ic'] 39) = W at *
   refine (UB HC _ _ _ (UB H0).name (UB J0).name).mono ?_
   rintro e w1 ⟨rfl, b1⟩
   have bb1 := UG b0 b1
   have K1 := UC (UE b1 (UB K0))
   have X1 := UC (UE b1 (UB X0))
   have H1 := UC ((UB H0).below b1)
   have J1 := UC ((UB J0).below b1)
   clear K0 X0 H0 J0 b1
   obtain ⟨d0, d1, d2, d3, d4, d5, d6⟩ := UJ (UB K1)
   obtain ⟨f0, f1, f2, f3, f4, f5, f6⟩ := UJ (UB X1)
   go_wp2_with fail
   refine (UB HL _).mono ?_
   rintro e w2 ⟨rfl, rfl⟩
   clear d0 d1 d2 d3 d4 d5 d6 f0 f1 f2 f3 f4 f5 f6
   have bd := UX (w := w1)
   have bb2 := UG bb1 bd
   have K2 := UC (UE bd (UB K1))
   have X2 := UC (UE bd (UB X1))
   have H2 := UC ((UB H1).below bd)
   have J2 := UC ((UB J1).below bd)
   clear K1 X1 H1 J1 bd
   obtain ⟨d0, d1, d2, d3, d4, d5, d6⟩ := UJ (UB K2)
   obtain ⟨f0, f1, f2, f3, f4, f5, f6⟩ := UJ (UB X2)
   go_wp2_with fail
   clear d0 d1 d2 d3 d4 d5 d6 f0 f1 f2 f3 f4 f5 f6
   go_region_held3 (fun w' => (w'.cell? ⟨w.heap.size, 0, none⟩ = some (.slice na a.name.length nc) ∧ w'.cell? ⟨w.heap.size, 1, none⟩ = some (.int .i64 a.type) ∧ w'.cell? ⟨w.heap.size, 2, none⟩ = some (.int .i64 a.ttl) ∧ w'.cell? ⟨w.heap.size, 3, none⟩ = some (.int .i64 a.addr) ∧ w'.cell? ⟨w.heap.size, 4, none⟩ = some (.slice ta a.to.length tc) ∧ w'.cell? ⟨w.heap.size, 5, none⟩ = some (.slice xa a.text.length xc) ∧ w'.cell? ⟨w.heap.size, 6, none⟩ = some (.slice ia a.nums.length ic)) ∧ (w'.cell? ⟨w.heap.size + 1, 0, none⟩ = some (.slice na' b.name.length nc') ∧ w'.cell? ⟨w.heap.size + 1, 1, none⟩ = some (.int .i64 b.type) ∧ w'.cell? ⟨w.heap.size + 1, 2, none⟩ = some (.int .i64 b.ttl) ∧ w'.cell? ⟨w.heap.size + 1, 3, none⟩ = some (.int .i64 b.addr) ∧ w'.cell? ⟨w.heap.size + 1, 4, none⟩ = some (.slice ta' b.to.length tc') ∧ w'.cell? ⟨w.heap.size + 1, 5, none⟩ = some (.slice xa' b.text.length xc') ∧ w'.cell? ⟨w.heap.size + 1, 6, none⟩ = some (.slice ia' b.nums.length ic')))
    (first | exact ⟨UJ (UB K2), UJ (UB X2)⟩ | exact ⟨UJ (UE b3 (UB K2)), UJ (UE b3 (UB X2))⟩ | exact ⟨UJ (UE q4 (UB K2)), UJ (UE q4 (UB X2))⟩ | exact ⟨UJ (UE q5 (UB K2)), UJ (UE q5 (UB X2))⟩)
    (first
    | (go_at_call_of 53 (Value.slice na a.name.length nc); refine (UB HPa _ _ _ _ _ (UB H2)).mono ?_; rintro e w3 ⟨y3, rfl, o3, b3⟩)
    | (go_at_call_of 53 (Value.slice na' b.name.length nc'); refine (UB HPb _ _ _ _ _ ((UB J2).below b3)).mono ?_; rintro e w4 ⟨y4, rfl, o4, b4⟩; have q4 := UG b3 b4)
    | (go_at_call 52; refine (UB HB _ _ _ (o3.below b4).has o4.has).mono ?_; rintro e w5 ⟨rfl, rfl⟩; have q5 := q4))
   go_wp2_with fail
   go_ret
   exact ⟨rfl, UG bb2 q5⟩
  ·rw [if_pos e2]
   have f2 : (CL == 0) = false := by rw [beq_eq_false_iff_ne]; exact e2
   go_enter Tryz.func25, Tryz.ntmps25
   go_wp2_with fail
   generalize (w.alloc (.cells #[.slice na a.name.length nc, .int .i64 a.type, .int .i64 a.ttl, .int .i64 a.addr, .slice ta a.to.length tc, .slice xa a.text.length xc, .slice ia a.nums.length ic] 39)).alloc (.cells #[.slice na' b.name.length nc', .int .i64 b.type, .int .i64 b.ttl, .int .i64 b.addr, .slice ta' b.to.length tc', .slice xa' b.text.length xc', .slice ia' b.nums.length ic'] 39) = W at *
   refine (UB HC _ _ _ (UB H0).name (UB J0).name).mono ?_
   rintro e w1 ⟨rfl, b1⟩
   have bb1 := UG b0 b1
   have K1 := UC (UE b1 (UB K0))
   have X1 := UC (UE b1 (UB X0))
   have H1 := UC ((UB H0).below b1)
   have J1 := UC ((UB J0).below b1)
   clear K0 X0 H0 J0 b1
   obtain ⟨d0, d1, d2, d3, d4, d5, d6⟩ := UJ (UB K1)
   obtain ⟨f0, f1, f9, f3, f4, f5, f6⟩ := UJ (UB X1)
   go_wp2_with fail
   refine (UB HL _).mono ?_
   rintro e w2 ⟨rfl, rfl⟩
   go_wp2_with fail
   go_ret
   exact ⟨rfl, bb1⟩
 ·rw [if_pos e1]
  have f1 : (CN == 0) = false := by rw [beq_eq_false_iff_ne]; exact e1
  go_enter Tryz.func25, Tryz.ntmps25
  go_wp2_with fail
  generalize (w.alloc (.cells #[.slice na a.name.length nc, .int .i64 a.type, .int .i64 a.ttl, .int .i64 a.addr, .slice ta a.to.length tc, .slice xa a.text.length xc, .slice ia a.nums.length ic] 39)).alloc (.cells #[.slice na' b.name.length nc', .int .i64 b.type, .int .i64 b.ttl, .int .i64 b.addr, .slice ta' b.to.length tc', .slice xa' b.text.length xc', .slice ia' b.nums.length ic'] 39) = W at *
  refine (UB HC _ _ _ (UB H0).name (UB J0).name).mono ?_
  rintro e w1 ⟨rfl, b1⟩
  go_wp2_with fail
  go_ret
  exact ⟨rfl, UG b0 b1⟩
end Go.Proofs.YtfneahdnpmamkaaGreat

namespace Go.Proofs.YtfneahdnpmamkaaGreat
open Go.RowKit

theorem Ap.belowAt {n B E : Nat} {a w w' : World} (h : Ap B E w w') (hb : Below n a w) (hn : n ≤ a.heap.size) (hB : n ≤ B) : Below n a w' :=
 ⟨h.os.trans hb.os, h.tape.trans hb.tape, h.output.trans hb.output, Nat.le_trans hb.size h.size, fun k hk => (h.block k (by have := hb.size; omega) (.inl (by omega))).trans (hb.block k hk)⟩
end Go.Proofs.YtfneahdnpmamkaaGreat

namespace Go.Proofs.YtfneahdnpmamkaaGreat
open Go.RowKit

end Go.Proofs.YtfneahdnpmamkaaGreat

namespace Go.Proofs.YtfneahdnpmamkaaGreat
open Go.RowKit
set_option linter.unusedVariables false

theorem RowS.off {B z : Nat} {e : TypeId} {W w w' : World} {v : Value} {rs : List Rec} (h : RowS B e W w v rs) (hg : w.grownBy w' (some z)) (hz : z < B) : RowS B e W w' v rs := by
 obtain ⟨xs, ho, hx⟩ := h
 refine ⟨xs, World.ownsRow.kept ho hg ?_, hx⟩
 cases hv : v.ownBlock with
 | none => exact .inl rfl
 | some k =>
  have := (World.ownsRow.lt ho k hv).1
  exact .inr (by simp only [ne_eq, Option.some.injEq]; omega)
theorem RowS.later {B : Nat} {e : TypeId} {W w w' : World} {v : Value} {rs : List Rec} (h : RowS B e W w v rs) (hb : Below w.heap.size w w') : RowS B e W w' v rs := by
 obtain ⟨xs, ho, hx⟩ := h
 exact ⟨xs, World.ownsRow.kept ho (Ac hb) (by cases hv : v.ownBlock with | none => exact .inl rfl | some k => exact .inr (by simp)), hx⟩
theorem RowS.slice {B : Nat} {e : TypeId} {W w : World} {v : Value} {rs : List Rec} (h : RowS B e W w v rs) : ∃ (a : Option Addr) (c : Nat), v = .slice a rs.length c := by
 obtain ⟨xs, ho, _⟩ := h
 rcases ho.2 with ⟨rfl, h2⟩ | ⟨g, cap, c, rfl, _⟩
 ·exact ⟨none, 0, by rw [h2]⟩
 ·exact ⟨_, cap, rfl⟩
def addK (r : Rec) (rs : List Rec) : Nat → List Rec × Bool
 | 0 => ([], false)
 | k + 1 => (((addK r rs k).1 ++ (if (addK r rs k).2 = false ∧ cmpR r (rs.getD k recZ) ≤ 0 then [r] else [])) ++ (if cmpR r (rs.getD k recZ) ≠ 0 then [upd r (rs.getD k recZ)] else []), (addK r rs k).2 || decide (cmpR r (rs.getD k recZ) ≤ 0))
theorem U0 (r : Rec) (rs : List Rec) : ∀ k, k ≤ rs.length → (addK r rs k).1 ++ addL r (rs.drop k) (addK r rs k).2 = addL r rs false
 | 0, _ => by simp [addK]
 | k + 1, h => by
  have ih := U0 r rs k (by omega)
  have hk : k < rs.length := by omega
  have e : rs.drop k = rs.getD k recZ :: rs.drop (k + 1) := by
   rw [List.drop_eq_getElem_cons hk, List.getD_eq_getElem?_getD, List.getElem?_eq_getElem hk]
   rfl
  rw [e, addL] at ih
  rw [← ih, addK]
  simp only [List.append_assoc]
theorem Xr (r : Rec) (rs : List Rec) : (addK r rs rs.length).1 ++ (if (addK r rs rs.length).2 = true then [] else [r]) = addL r rs false := by
 have := U0 r rs rs.length (Nat.le_refl _)
 rw [List.drop_length] at this
 rw [← this, addL]
theorem Ru (r : Rec) (rs : List Rec) : ∀ k, (addK r rs k).1.length ≤ 2 * k
 | 0 => Nat.le_refl _
 | k + 1 => by
  have := Ru r rs k
  rw [addK]
  simp only [List.length_append]
  split <;> split <;> simp only [List.length_cons, List.length_nil] <;> omega
end Go.Proofs.YtfneahdnpmamkaaGreat
