/-
  Contracts of the specification's l3put. Contracts of the specification's l3num and l3cmp. Contract of the specification's l5alone.
-/
import Derived.Test.YtmnlhjdjjinbiaaGreatLookupG15
import Derived.Test.YtmnlhjdjjinbiaaGreatLookupG40
import Derived.Test.YtmnlhjdjjinbiaaGreatLookupG41
import Derived.Test.YtmnlhjdjjinbiaaGreatLookupG06
import Derived.Deep.RegionHeld3
import Derived.Test.YtmnlhjdjjinbiaaGreatLookupG37
import Derived.Deep.RegionWith
import Derived.Test.YtmnlhjdjjinbiaaGreatLookupG16
import Derived.Test.YtmnlhjdjjinbiaaGreatLookupG03
namespace Go.Proofs.YtmnlhjdjjinbiaaGreat
open Go.RowKit
set_option linter.unusedVariables false

theorem own_nil (B : Nat) (e : TypeId) (w : World) : Own B e w (.slice none 0 0) [] := World.ownsRow_nil _ _ _ _

set_option maxHeartbeats 800000 in
set_option maxRecDepth 100000 in
theorem l3put_A {na : Option Addr} {nc : Nat} {ta : Option Addr} {tc : Nat} {xa : Option Addr} {xc : Nat} {ia : Option Addr} {ic : Nat} {nm to : List (List Int)} {tx nu : List Int} {tt ad : Int} {w : World} (h0 : 0 ≤ ad) (h1 : ad ≤ 4294967295) :
    Calls Tryz.prog 110 #[.agg #[.slice na nm.length nc, .int .i64 1, .int .i64 tt, .int .i64 ad, .slice ta to.length tc, .slice xa tx.length xc, .slice ia nu.length ic]] w fun e w' => ∃ v', e = .returned v' ∧ Own w.heap.size 5 w' v' (put32 [] ad) ∧ Below w.heap.size w w' := by
  have b0 := below_alloc (w := w) (.cells #[.slice na nm.length nc, .int .i64 1, .int .i64 tt, .int .i64 ad, .slice ta to.length tc, .slice xa tx.length xc, .slice ia nu.length ic] 42)
  have hP := hide (specPut32_any (B := 0) ad (own_nil 0 5 (w.alloc (.cells #[.slice na nm.length nc, .int .i64 1, .int .i64 tt, .int .i64 ad, .slice ta to.length tc, .slice xa tx.length xc, .slice ia nu.length ic] 42))) (by simp))
  generalize put32 [] ad = G at *
  go_enter Tryz.func110, Tryz.ntmps110
  go_wp2_with fail
  refine (unhide hP).mono ?_
  rintro e w1 ⟨v1, rfl, o1, b1⟩
  go_wp2_with fail
  go_ret
  exact ⟨v1, rfl, o1.mono b0.size, below_next b0 b1⟩

set_option maxHeartbeats 800000 in
set_option maxRecDepth 100000 in
theorem l3put_N {na : Option Addr} {nc : Nat} {ta : Option Addr} {tc : Nat} {xa : Option Addr} {xc : Nat} {ia : Option Addr} {ic : Nat} {nm to : List (List Int)} {tx nu : List Int} {tt ad : Int} {w : World} {ty : Int} (ht : ty = 2 ∨ ty = 5 ∨ ty = 12) (h : HasL w (.slice ta to.length tc) to) (hok : nameOk to = true) :
    Calls Tryz.prog 110 #[.agg #[.slice na nm.length nc, .int .i64 ty, .int .i64 tt, .int .i64 ad, .slice ta to.length tc, .slice xa tx.length xc, .slice ia nu.length ic]] w fun e w' => ∃ v', e = .returned v' ∧ Own w.heap.size 5 w' v' (wire to) ∧ Below w.heap.size w w' := by
  have b0 := below_alloc (w := w) (.cells #[.slice na nm.length nc, .int .i64 ty, .int .i64 tt, .int .i64 ad, .slice ta to.length tc, .slice xa tx.length xc, .slice ia nu.length ic] 42)
  have K0 := hide (heap_alloc_new w (.cells #[.slice na nm.length nc, .int .i64 ty, .int .i64 tt, .int .i64 ad, .slice ta to.length tc, .slice xa tx.length xc, .slice ia nu.length ic] 42))
  have hP := hide (l2put_own (B := (w.alloc (.cells #[.slice na nm.length nc, .int .i64 ty, .int .i64 tt, .int .i64 ad, .slice ta to.length tc, .slice xa tx.length xc, .slice ia nu.length ic] 42)).heap.size) (own_nil _ 5 (w.alloc (.cells #[.slice na nm.length nc, .int .i64 ty, .int .i64 tt, .int .i64 ad, .slice ta to.length tc, .slice xa tx.length xc, .slice ia nu.length ic] 42))) (Nat.le_refl _) (by simp) (h.below b0).at (nameOk_parts hok).1 (fun k hk => (labelOk_length ((nameOk_parts hok).2 k hk)).2) (wires_length to hok))
  rw [List.nil_append] at hP
  clear h
  generalize wire to = G at *
  have e1 : (ty == 1) = false := by rw [beq_eq_false_iff_ne]; omega
  have e6 : (ty == 6) = false := by rw [beq_eq_false_iff_ne]; omega
  have hto : typeOk ty = true := decide_eq_true (by omega)
  have hna : named ty = true := decide_eq_true (by omega)
  have HTO := hide hto
  have HNA := hide hna
  clear ht hto hna
  go_enter Tryz.func110, Tryz.ntmps110
  go_wp2_with fail
  generalize w.alloc (.cells #[.slice na nm.length nc, .int .i64 ty, .int .i64 tt, .int .i64 ad, .slice ta to.length tc, .slice xa tx.length xc, .slice ia nu.length ic] 42) = W at *
  refine (l3named_any ty _ (unhide HTO)).mono ?_
  rw [unhide HNA]
  rintro e w1 ⟨rfl, rfl⟩
  obtain ⟨d0, d1, d2, d3, d4, d5, d6⟩ := cells7 (unhide K0)
  go_wp2_with fail
  refine (unhide hP).mono ?_
  rintro e w1 ⟨v1, rfl, o1, b1⟩
  go_wp2_with fail
  go_ret
  exact ⟨v1, rfl, o1.mono b0.size, below_next b0 b1⟩

set_option maxHeartbeats 800000 in
set_option maxRecDepth 100000 in
theorem l3put_X {na : Option Addr} {nc : Nat} {ta : Option Addr} {tc : Nat} {xa : Option Addr} {xc : Nat} {ia : Option Addr} {ic : Nat} {nm to : List (List Int)} {tx nu : List Int} {tt ad : Int} {w : World} {ty : Int} (ht : ty = 16 ∨ ty = 49) (h : Has w (.slice xa tx.length xc) tx) (hl : tx.length ≤ 40) :
    Calls Tryz.prog 110 #[.agg #[.slice na nm.length nc, .int .i64 ty, .int .i64 tt, .int .i64 ad, .slice ta to.length tc, .slice xa tx.length xc, .slice ia nu.length ic]] w fun e w' => ∃ v', e = .returned v' ∧ Own w.heap.size 5 w' v' ((tx.length : Int) :: tx) ∧ Below w.heap.size w w' := by
  have b0 := below_alloc (w := w) (.cells #[.slice na nm.length nc, .int .i64 ty, .int .i64 tt, .int .i64 ad, .slice ta to.length tc, .slice xa tx.length xc, .slice ia nu.length ic] 42)
  have K0 := hide (heap_alloc_new w (.cells #[.slice na nm.length nc, .int .i64 ty, .int .i64 tt, .int .i64 ad, .slice ta to.length tc, .slice xa tx.length xc, .slice ia nu.length ic] 42))
  have H0 := hide (h.below b0)
  clear h
  have e1 : (ty == 1) = false := by rw [beq_eq_false_iff_ne]; omega
  have e6 : (ty == 6) = false := by rw [beq_eq_false_iff_ne]; omega
  have hto : typeOk ty = true := decide_eq_true (by omega)
  have hna : named ty = false := decide_eq_false (by omega)
  have HTO := hide hto
  have HNA := hide hna
  clear ht hto hna
  have hmod : ((tx.length : Int) % 256) = tx.length := by omega
  go_enter Tryz.func110, Tryz.ntmps110
  go_wp2_with fail
  generalize w.alloc (.cells #[.slice na nm.length nc, .int .i64 ty, .int .i64 tt, .int .i64 ad, .slice ta to.length tc, .slice xa tx.length xc, .slice ia nu.length ic] 42) = W at *
  refine (l3named_any ty _ (unhide HTO)).mono ?_
  rw [unhide HNA]
  rintro e w1 ⟨rfl, rfl⟩
  obtain ⟨d0, d1, d2, d3, d4, d5, d6⟩ := cells7 (unhide K0)
  have ca : ∀ o, (W.alloc o).cell? ⟨w.heap.size, 5, none⟩ = some (.slice xa tx.length xc) := fun o => (cells7 (block_kept (below_alloc o) (unhide K0))).2.2.2.2.2.1
  go_wp2_with (at_builtin; refine append_bytes rfl _ _ 28 5 rfl Tryz.underlying28 info_u8 W.heap.size _ (.slice xa tx.length xc) [(tx.length : Int)] tx rfl rfl (own_lit W W.heap.size 5 [(tx.length : Int)] (Nat.le_refl _) (by simp [maxLen])) ((unhide H0).below (below_alloc _)).reads (by simp; omega) (below_alloc _).size ?_)
  intro v2 w2 o2 g2
  have b2 := lit_grown g2
  go_wp2_with fail
  go_ret
  exact ⟨v2, rfl, o2.mono b0.size, below_next b0 b2⟩

set_option maxHeartbeats 2000000 in
set_option maxRecDepth 100000 in
theorem l3put_S {na : Option Addr} {nc : Nat} {ta : Option Addr} {tc : Nat} {xa : Option Addr} {xc : Nat} {ia : Option Addr} {ic : Nat} {nm to : List (List Int)} {tx : List Int} {x y : Int} {tt ad : Int} {w : World} (h : HasL w (.slice ta to.length tc) to) (hi : HasI w (.slice ia 2 ic) [x, y]) (hok : nameOk to = true) :
    Calls Tryz.prog 110 #[.agg #[.slice na nm.length nc, .int .i64 6, .int .i64 tt, .int .i64 ad, .slice ta to.length tc, .slice xa tx.length xc, .slice ia 2 ic]] w fun e w' => ∃ v', e = .returned v' ∧ Own w.heap.size 5 w' v' (put32 (put32 (wire to) x) y) ∧ Below w.heap.size w w' := by
  have b0 := below_alloc (w := w) (.cells #[.slice na nm.length nc, .int .i64 6, .int .i64 tt, .int .i64 ad, .slice ta to.length tc, .slice xa tx.length xc, .slice ia 2 ic] 42)
  have K0 := hide (heap_alloc_new w (.cells #[.slice na nm.length nc, .int .i64 6, .int .i64 tt, .int .i64 ad, .slice ta to.length tc, .slice xa tx.length xc, .slice ia 2 ic] 42))
  have hw := wire_length to hok
  have hw2 := put32_length (wire to) x
  have hN := hide (show ∀ w1 : World, Below w.heap.size w w1 → Calls Tryz.prog 127 #[.slice none 0 0, .agg #[.slice ta to.length tc]] w1 fun e w' => ∃ v', e = .returned v' ∧ Own w1.heap.size 5 w' v' (wire to) ∧ Below w1.heap.size w1 w' from fun w1 hb => by
    have := l2put_own (B := w1.heap.size) (own_nil _ 5 w1) (Nat.le_refl _) (by simp) (h.below hb).at (nameOk_parts hok).1 (fun k hk => (labelOk_length ((nameOk_parts hok).2 k hk)).2) (wires_length to hok)
    rw [List.nil_append] at this
    exact this)
  have hQ := hide (show ∀ (w1 : World) (B : Nat) (v : Value), Own B 5 w1 v (wire to) → Calls Tryz.prog 126 #[v, .int .i64 x] w1 fun e w' => ∃ v', e = .returned v' ∧ Own w1.heap.size 5 w' v' (put32 (wire to) x) ∧ Below w1.heap.size w1 w' from fun w1 B v ho => specPut32_any x ho (by omega))
  have hR := hide (show ∀ (w1 : World) (B : Nat) (v : Value), Own B 5 w1 v (put32 (wire to) x) → Calls Tryz.prog 126 #[v, .int .i64 y] w1 fun e w' => ∃ v', e = .returned v' ∧ Own w1.heap.size 5 w' v' (put32 (put32 (wire to) x) y) ∧ Below w1.heap.size w1 w' from fun w1 B v ho => specPut32_any y ho (by omega))
  have I0 := hide (hi.below b0)
  clear h hi hw hw2
  generalize put32 (put32 (wire to) x) y = G3 at *
  generalize put32 (wire to) x = G2 at *
  generalize wire to = G1 at *
  go_enter Tryz.func110, Tryz.ntmps110
  go_wp2_with fail
  generalize w.alloc (.cells #[.slice na nm.length nc, .int .i64 6, .int .i64 tt, .int .i64 ad, .slice ta to.length tc, .slice xa tx.length xc, .slice ia 2 ic] 42) = W at *
  have bd := below_drew (w := W)
  have KD := hide (block_kept bd (unhide K0))
  have ID := hide ((unhide I0).below bd)
  have bb := below_next b0 bd
  obtain ⟨g, off, cp, hv, hg, n0, n1⟩ := (unhide ID).two
  simp only [Value.slice.injEq] at hv
  obtain ⟨rfl, _, rfl⟩ := hv
  have N0 := hide n0
  have N1 := hide n1
  have zW : W.drew.heap.size = W.heap.size := rfl
  clear n0 n1 bd K0
  go_region_held3 (fun w' => w'.cell? ⟨w.heap.size, 4, none⟩ = some (.slice ta to.length tc) ∧ w'.cell? ⟨w.heap.size, 6, none⟩ = some (.slice (some ⟨g, off, none⟩) 2 ic) ∧ w'.cell? ⟨g, off, none⟩ = some (.int .i64 x) ∧ w'.cell? ⟨g, off + 1, none⟩ = some (.int .i64 y))
    (first
    | exact ⟨(cells7 (unhide KD)).2.2.2.2.1, (cells7 (unhide KD)).2.2.2.2.2.2, unhide N0, unhide N1⟩
    | exact ⟨(cells7 (block_kept b1 (unhide KD))).2.2.2.2.1, (cells7 (block_kept b1 (unhide KD))).2.2.2.2.2.2, (b1.cell hg).trans (unhide N0), (b1.cell hg).trans (unhide N1)⟩
    | exact ⟨(cells7 (block_kept q2 (unhide KD))).2.2.2.2.1, (cells7 (block_kept q2 (unhide KD))).2.2.2.2.2.2, (q2.cell hg).trans (unhide N0), (q2.cell hg).trans (unhide N1)⟩
    | exact ⟨(cells7 (block_kept q3 (unhide KD))).2.2.2.2.1, (cells7 (block_kept q3 (unhide KD))).2.2.2.2.2.2, (q3.cell hg).trans (unhide N0), (q3.cell hg).trans (unhide N1)⟩)
    (first
    | (go_at_call 127; refine (unhide hN _ bb).mono ?_; rintro e w1 ⟨v1, rfl, o1, b1⟩)
    | (go_at_call 126; refine (unhide hQ _ _ _ o1).mono ?_; rintro e w2 ⟨v2, rfl, o2, b2⟩; have q2 := below_next b1 b2; clear o1)
    | (go_at_call 126; refine (unhide hR _ _ _ o2).mono ?_; rintro e w3 ⟨v3, rfl, o3, b3⟩; have q3 := below_next q2 b3; clear o2))
  go_wp2_with fail
  go_ret
  exact ⟨v3, rfl, o3.mono (by have h1 := bb.size; have h2 := q2.size; omega), below_next bb q3⟩

theorem l3put_has {vn vt vx vi : Value} {r : Rec} {w : World} (h : HasR w vn vt vx vi r) (hok : rrOk r = true) :
    Calls Tryz.prog 110 #[.agg #[vn, .int .i64 r.type, .int .i64 r.ttl, .int .i64 r.addr, vt, vx, vi]] w fun e w' => ∃ v', e = .returned v' ∧ Own w.heap.size 5 w' v' (dataB r) ∧ Below w.heap.size w w' := by
  obtain ⟨_, ht, _, _, hd⟩ := rrOk_parts hok
  obtain ⟨na, nc, rfl, _⟩ := h.name.form
  obtain ⟨ta, tc, rfl, _⟩ := h.to.form
  obtain ⟨xa, xc, rfl, _⟩ := h.text.form
  obtain ⟨ia, ic, rfl, _⟩ := h.nums.form
  rcases data_kinds ht hd with ⟨e, h0, h1, eb⟩ | ⟨e, hn, eb⟩ | ⟨e, hn, x, y, exy, _, _, _, _, eb⟩ | ⟨e, hx, eb⟩
  · rw [eb, e]; exact l3put_A h0 h1
  · rw [eb]; exact l3put_N e h.to hn
  · have hi := h.nums
    rw [exy] at hi ⊢
    rw [eb, e]
    exact l3put_S h.to hi hn
  · rw [eb]; exact l3put_X e h.text hx
end Go.Proofs.YtmnlhjdjjinbiaaGreat

namespace Go.Proofs.YtmnlhjdjjinbiaaGreat
open Go.RowKit
set_option linter.unusedVariables false

set_option maxHeartbeats 400000 in
set_option maxRecDepth 100000 in
theorem l3num_any (x y : Int) (w : World) : Calls Tryz.prog 108 #[.int .i64 x, .int .i64 y] w fun e w' => e = .returned (.int .i64 (byLength x y)) ∧ w = w' := by
  unfold byLength
  by_cases h1 : x < y
  · rw [if_pos h1]
    go_enter Tryz.func108, Tryz.ntmps108
    go_wp2
    go_ret
    exact ⟨rfl, rfl⟩
  · rw [if_neg h1]
    by_cases h2 : y < x
    · rw [if_pos h2]
      go_enter Tryz.func108, Tryz.ntmps108
      go_wp2
      go_ret
      exact ⟨rfl, rfl⟩
    · rw [if_neg h2]
      go_enter Tryz.func108, Tryz.ntmps108
      go_wp2
      go_ret
      exact ⟨rfl, rfl⟩

set_option maxHeartbeats 1000000 in
set_option maxRecDepth 100000 in
theorem l3cmp_has {vn vt vx vi un ut ux ui : Value} {a b : Rec} {w : World} (h : HasR w vn vt vx vi a) (h' : HasR w un ut ux ui b) (ha : rrOk a = true) (hb : rrOk b = true) :
    Calls Tryz.prog 76 #[.agg #[vn, .int .i64 a.type, .int .i64 a.ttl, .int .i64 a.addr, vt, vx, vi], .agg #[un, .int .i64 b.type, .int .i64 b.ttl, .int .i64 b.addr, ut, ux, ui]] w fun e w' => e = .returned (.int .i64 (cmpR a b)) ∧ Below w.heap.size w w' := by
  obtain ⟨na, nc, rfl, _⟩ := h.name.form
  obtain ⟨ta, tc, rfl, _⟩ := h.to.form
  obtain ⟨xa, xc, rfl, _⟩ := h.text.form
  obtain ⟨ia, ic, rfl, _⟩ := h.nums.form
  obtain ⟨na', nc', rfl, _⟩ := h'.name.form
  obtain ⟨ta', tc', rfl, _⟩ := h'.to.form
  obtain ⟨xa', xc', rfl, _⟩ := h'.text.form
  obtain ⟨ia', ic', rfl, _⟩ := h'.nums.form
  have b0 := below2 w (.cells #[.slice na a.name.length nc, .int .i64 a.type, .int .i64 a.ttl, .int .i64 a.addr, .slice ta a.to.length tc, .slice xa a.text.length xc, .slice ia a.nums.length ic] 42) (.cells #[.slice na' b.name.length nc', .int .i64 b.type, .int .i64 b.ttl, .int .i64 b.addr, .slice ta' b.to.length tc', .slice xa' b.text.length xc', .slice ia' b.nums.length ic'] 42)
  obtain ⟨hsz, k0, x0⟩ := box2 w (.cells #[.slice na a.name.length nc, .int .i64 a.type, .int .i64 a.ttl, .int .i64 a.addr, .slice ta a.to.length tc, .slice xa a.text.length xc, .slice ia a.nums.length ic] 42) #[.slice na' b.name.length nc', .int .i64 b.type, .int .i64 b.ttl, .int .i64 b.addr, .slice ta' b.to.length tc', .slice xa' b.text.length xc', .slice ia' b.nums.length ic'] 42
  have K0 := hide k0
  have X0 := hide x0
  have H0 := hide (h.below b0)
  have J0 := hide (h'.below b0)
  clear h h' k0 x0
  have hna := (nameOk_parts (rrOk_parts ha).1).1
  have hnb := (nameOk_parts (rrOk_parts hb).1).1
  have HC := hide (fun (w : World) (v v' : Value) (h : HasL w v a.name) (h' : HasL w v' b.name) => l2cmp_has h h' (by omega) (by omega))
  have HPa := hide (fun (w : World) (vn vt vx vi : Value) (h : HasR w vn vt vx vi a) => l3put_has h ha)
  have HPb := hide (fun (w : World) (vn vt vx vi : Value) (h : HasR w vn vt vx vi b) => l3put_has h hb)
  have HL := hide (l3num_any a.type b.type)
  have HB := hide (fun (w : World) (v v' : Value) (h : Has w v (dataB a)) (h' : Has w v' (dataB b)) => l2bytes_has h h')
  clear ha hb hna hnb
  unfold cmpR
  generalize dataB a = DA at *
  generalize dataB b = DB at *
  generalize cmpB DA DB = CB at *
  generalize cmpN a.name b.name = CN at *
  generalize byLength a.type b.type = CL at *
  by_cases e1 : CN = 0
  · subst e1
    rw [if_neg (by simp)]
    by_cases e2 : CL = 0
    · subst e2
      rw [if_neg (by simp)]
      go_enter Tryz.func76, Tryz.ntmps76
      go_wp2_with fail
      generalize (w.alloc (.cells #[.slice na a.name.length nc, .int .i64 a.type, .int .i64 a.ttl, .int .i64 a.addr, .slice ta a.to.length tc, .slice xa a.text.length xc, .slice ia a.nums.length ic] 42)).alloc (.cells #[.slice na' b.name.length nc', .int .i64 b.type, .int .i64 b.ttl, .int .i64 b.addr, .slice ta' b.to.length tc', .slice xa' b.text.length xc', .slice ia' b.nums.length ic'] 42) = W at *
      refine (unhide HC _ _ _ (unhide H0).name (unhide J0).name).mono ?_
      rintro e w1 ⟨rfl, b1⟩
      have bb1 := below_next b0 b1
      have K1 := hide (block_kept b1 (unhide K0))
      have X1 := hide (block_kept b1 (unhide X0))
      have H1 := hide ((unhide H0).below b1)
      have J1 := hide ((unhide J0).below b1)
      clear K0 X0 H0 J0 b1
      obtain ⟨d0, d1, d2, d3, d4, d5, d6⟩ := cells7 (unhide K1)
      obtain ⟨f0, f1, f2, f3, f4, f5, f6⟩ := cells7 (unhide X1)
      go_wp2_with fail
      refine (unhide HL _).mono ?_
      rintro e w2 ⟨rfl, rfl⟩
      clear d0 d1 d2 d3 d4 d5 d6 f0 f1 f2 f3 f4 f5 f6
      have bd := below_drew (w := w1)
      have bb2 := below_next bb1 bd
      have K2 := hide (block_kept bd (unhide K1))
      have X2 := hide (block_kept bd (unhide X1))
      have H2 := hide ((unhide H1).below bd)
      have J2 := hide ((unhide J1).below bd)
      clear K1 X1 H1 J1 bd
      obtain ⟨d0, d1, d2, d3, d4, d5, d6⟩ := cells7 (unhide K2)
      obtain ⟨f0, f1, f2, f3, f4, f5, f6⟩ := cells7 (unhide X2)
      go_wp2_with fail
      clear d0 d1 d2 d3 d4 d5 d6 f0 f1 f2 f3 f4 f5 f6
      go_region_held3 (fun w' => (w'.cell? ⟨w.heap.size, 0, none⟩ = some (.slice na a.name.length nc) ∧ w'.cell? ⟨w.heap.size, 1, none⟩ = some (.int .i64 a.type) ∧ w'.cell? ⟨w.heap.size, 2, none⟩ = some (.int .i64 a.ttl) ∧ w'.cell? ⟨w.heap.size, 3, none⟩ = some (.int .i64 a.addr) ∧ w'.cell? ⟨w.heap.size, 4, none⟩ = some (.slice ta a.to.length tc) ∧ w'.cell? ⟨w.heap.size, 5, none⟩ = some (.slice xa a.text.length xc) ∧ w'.cell? ⟨w.heap.size, 6, none⟩ = some (.slice ia a.nums.length ic)) ∧ (w'.cell? ⟨w.heap.size + 1, 0, none⟩ = some (.slice na' b.name.length nc') ∧ w'.cell? ⟨w.heap.size + 1, 1, none⟩ = some (.int .i64 b.type) ∧ w'.cell? ⟨w.heap.size + 1, 2, none⟩ = some (.int .i64 b.ttl) ∧ w'.cell? ⟨w.heap.size + 1, 3, none⟩ = some (.int .i64 b.addr) ∧ w'.cell? ⟨w.heap.size + 1, 4, none⟩ = some (.slice ta' b.to.length tc') ∧ w'.cell? ⟨w.heap.size + 1, 5, none⟩ = some (.slice xa' b.text.length xc') ∧ w'.cell? ⟨w.heap.size + 1, 6, none⟩ = some (.slice ia' b.nums.length ic')))
        (first | exact ⟨cells7 (unhide K2), cells7 (unhide X2)⟩ | exact ⟨cells7 (block_kept b3 (unhide K2)), cells7 (block_kept b3 (unhide X2))⟩ | exact ⟨cells7 (block_kept q4 (unhide K2)), cells7 (block_kept q4 (unhide X2))⟩ | exact ⟨cells7 (block_kept q5 (unhide K2)), cells7 (block_kept q5 (unhide X2))⟩)
        (first
        | (go_at_call_of 110 (Value.slice na a.name.length nc); refine (unhide HPa _ _ _ _ _ (unhide H2)).mono ?_; rintro e w3 ⟨y3, rfl, o3, b3⟩)
        | (go_at_call_of 110 (Value.slice na' b.name.length nc'); refine (unhide HPb _ _ _ _ _ ((unhide J2).below b3)).mono ?_; rintro e w4 ⟨y4, rfl, o4, b4⟩; have q4 := below_next b3 b4)
        | (go_at_call 109; refine (unhide HB _ _ _ (o3.below b4).has o4.has).mono ?_; rintro e w5 ⟨rfl, rfl⟩; have q5 := q4))
      go_wp2_with fail
      go_ret
      exact ⟨rfl, below_next bb2 q5⟩
    · rw [if_pos e2]
      have f2 : (CL == 0) = false := by rw [beq_eq_false_iff_ne]; exact e2
      go_enter Tryz.func76, Tryz.ntmps76
      go_wp2_with fail
      generalize (w.alloc (.cells #[.slice na a.name.length nc, .int .i64 a.type, .int .i64 a.ttl, .int .i64 a.addr, .slice ta a.to.length tc, .slice xa a.text.length xc, .slice ia a.nums.length ic] 42)).alloc (.cells #[.slice na' b.name.length nc', .int .i64 b.type, .int .i64 b.ttl, .int .i64 b.addr, .slice ta' b.to.length tc', .slice xa' b.text.length xc', .slice ia' b.nums.length ic'] 42) = W at *
      refine (unhide HC _ _ _ (unhide H0).name (unhide J0).name).mono ?_
      rintro e w1 ⟨rfl, b1⟩
      have bb1 := below_next b0 b1
      have K1 := hide (block_kept b1 (unhide K0))
      have X1 := hide (block_kept b1 (unhide X0))
      have H1 := hide ((unhide H0).below b1)
      have J1 := hide ((unhide J0).below b1)
      clear K0 X0 H0 J0 b1
      obtain ⟨d0, d1, d2, d3, d4, d5, d6⟩ := cells7 (unhide K1)
      obtain ⟨f0, f1, f9, f3, f4, f5, f6⟩ := cells7 (unhide X1)
      go_wp2_with fail
      refine (unhide HL _).mono ?_
      rintro e w2 ⟨rfl, rfl⟩
      go_wp2_with fail
      go_ret
      exact ⟨rfl, bb1⟩
  · rw [if_pos e1]
    have f1 : (CN == 0) = false := by rw [beq_eq_false_iff_ne]; exact e1
    go_enter Tryz.func76, Tryz.ntmps76
    go_wp2_with fail
    generalize (w.alloc (.cells #[.slice na a.name.length nc, .int .i64 a.type, .int .i64 a.ttl, .int .i64 a.addr, .slice ta a.to.length tc, .slice xa a.text.length xc, .slice ia a.nums.length ic] 42)).alloc (.cells #[.slice na' b.name.length nc', .int .i64 b.type, .int .i64 b.ttl, .int .i64 b.addr, .slice ta' b.to.length tc', .slice xa' b.text.length xc', .slice ia' b.nums.length ic'] 42) = W at *
    refine (unhide HC _ _ _ (unhide H0).name (unhide J0).name).mono ?_
    rintro e w1 ⟨rfl, b1⟩
    go_wp2_with fail
    go_ret
    exact ⟨rfl, below_next b0 b1⟩
end Go.Proofs.YtmnlhjdjjinbiaaGreat

namespace Go.Proofs.YtmnlhjdjjinbiaaGreat
open Go.RowKit
set_option linter.unusedVariables false

/-- Has no other one of the first n its name, if it is an alias. -/
def aloneB (rs : List Rec) (i : Nat) : Bool := decide ((rs.getD i recZ).type ≠ 5) || decide (∀ k, k < rs.length → k ≠ i → cmpN (rs.getD k recZ).name (rs.getD i recZ).name ≠ 0)
theorem aloneB_iff (rs : List Rec) (i : Nat) : aloneB rs i = true ↔ alone rs i := by
  unfold aloneB alone
  rw [Bool.or_eq_true, decide_eq_true_iff, decide_eq_true_iff]
  constructor
  · intro h e
    exact h.resolve_left (fun q => q e)
  · intro h
    by_cases e : (rs.getD i recZ).type = 5
    · exact .inr (h e)
    · exact .inl e
theorem aloneB_free {rs : List Rec} {i : Nat} (h : (rs.getD i recZ).type ≠ 5) : aloneB rs i = true := by
  unfold aloneB
  rw [decide_eq_true h, Bool.true_or]
theorem aloneB_all {rs : List Rec} {i : Nat} (h : ∀ k, k < rs.length → k ≠ i → cmpN (rs.getD k recZ).name (rs.getD i recZ).name ≠ 0) : aloneB rs i = true := by
  unfold aloneB
  rw [decide_eq_true h, Bool.or_true]
theorem aloneB_not {rs : List Rec} {i k : Nat} (h5 : (rs.getD i recZ).type = 5) (hk : k < rs.length) (hne : k ≠ i) (h0 : cmpN (rs.getD k recZ).name (rs.getD i recZ).name = 0) : aloneB rs i = false := by
  cases h : aloneB rs i with
  | false => rfl
  | true => exact absurd h0 ((aloneB_iff rs i).1 h h5 k hk hne)

set_option maxHeartbeats 1000000 in
set_option maxRecDepth 100000 in
theorem l5alone_has {v : Value} {rs : List Rec} {i : Nat} {w : World} (h : HasRs w v rs) (hi : i < rs.length) (h60 : rs.length ≤ 60) (hs : ∀ k, k < rs.length → (rs.getD k recZ).name.length ≤ 1048576) :
    Calls Tryz.prog 77 #[v, .int .i64 i] w fun e w' => e = .returned (.bool (aloneB rs i)) ∧ Below w.heap.size w w' := by
  obtain ⟨a, cap, rfl, _⟩ := h.form
  obtain ⟨b, off, na, nc, ta, tc, xa, xc, ia, ic, rfl, hbl, hc, hu⟩ := h.here hi
  generalize hAL : aloneB rs i = AL
  have HAL := hide hAL
  clear hAL
  generalize hri : rs.getD i recZ = ri at *
  have HRI := hide hri
  clear hri
  have HS := hide hs
  clear hs
  have hii : (i : Int) < rs.length := by omega
  generalize hn : rs.length = m at *
  have HN := hide hn
  clear hn
  obtain ⟨c0, c1, c2, c3, c4, c5, c6⟩ := range7 hc
  have HC := hide hc
  have HU := hide hu
  clear hc hu
  by_cases h5 : ri.type = 5
  · have e5 : (ri.type != 5) = false := by rw [h5]; rfl
    have H5 := hide h5
    clear h5
    go_enter Tryz.func77, Tryz.ntmps77
    go_wp2_with fail
    clear c0 c1 c2 c3 c4 c5 c6 e5
    go_loopw [5] (fun x wr => ∃ k : Nat, k ≤ m ∧ x = .int .i64 k ∧ Hid (∀ j, j < k → j ≠ i → cmpN (rs.getD j recZ).name ri.name ≠ 0) ∧ Below w.heap.size w wr) (fun x _ => m - (intOf x).toNat)
    case atStart => exact ⟨0, Nat.zero_le _, rfl, hide (fun j hj => absurd hj (Nat.not_lt_zero _)), Below.refl _ _⟩
    case round =>
      obtain ⟨k, hk, rfl, hall, hb⟩ := hrel
      by_cases hlt : k < m
      · have bd := below_drew (w := wr)
        have hbd := below_next hb bd
        by_cases hki : k = i
        · have e1 : ((k : Int) != i) = false := by rw [hki]; simp
          have hall' : ∀ j, j < k + 1 → j ≠ i → cmpN (rs.getD j recZ).name ri.name ≠ 0 := fun j hj hne => unhide hall j (by omega) hne
          have HALL := hide hall'
          clear hall' hki
          go_wp2_with fail
          refine wp_region_held_drew (S := (fun _ => True)) (by kernel_rfl) trivial (fun hHeld => ?_)
          show wpAnyH _ _ _ _ _ 17 #[false, false, false, false, false, false, false, false, false, false, false, false, false, false, false, false, false] _ _
          refine wpAnyH_take (i := 0) (oi := { dst := some 18, op := Op.move (Operand.tmp 5), type := 3, pos := "l05_zone.go:11", after := #[], guard := none }) (v := ?_) rfl (by kernel_rfl) (by kernel_rfl) (by kernel_rfl) (fun _ _ _ h => h) (Or.inl ⟨by rfl, ?_⟩) hHeld ?_
          rotate_left
          · (intro w hSw; (try dsimp only at hSw); go_simp <;> with_reducible rfl)
          try simp only [Act.put, List.setIfInBounds_toArray, List.set_cons_zero, List.set_cons_succ]
          refine wpAnyH_take (i := 1) (oi := { dst := some 19, op := Op.move (Operand.tmp 1), type := 3, pos := "l05_zone.go:11", after := #[], guard := none }) (v := ?_) rfl (by kernel_rfl) (by kernel_rfl) (by kernel_rfl) (fun _ _ _ h => h) (Or.inl ⟨by rfl, ?_⟩) hHeld ?_
          rotate_left
          · (intro w hSw; (try dsimp only at hSw); go_simp <;> with_reducible rfl)
          try simp only [Act.put, List.setIfInBounds_toArray, List.set_cons_zero, List.set_cons_succ]
          refine wpAnyH_take (i := 2) (oi := { dst := some 20, op := Op.binOp BinOp.neq 3 (Operand.tmp 18) (Operand.tmp 19) 3, type := 4, pos := "l05_zone.go:11", after := #[{ on := 0, ground := Ground.data }, { on := 1, ground := Ground.data }], guard := none }) (v := .bool false) rfl (by kernel_rfl) (by kernel_rfl) (by kernel_rfl) (fun _ _ _ h => h) (Or.inl ⟨by rfl, ?_⟩) hHeld ?_
          · (intro w hSw; (try dsimp only at hSw); go_simp)
          try simp only [Act.put, List.setIfInBounds_toArray, List.set_cons_zero, List.set_cons_succ]
          refine wpAnyH_take (i := 3) (oi := { dst := some 21, op := Op.move (Operand.tmp 20), type := 4, pos := "l05_zone.go:11", after := #[{ on := 2, ground := Ground.data }], guard := none }) (v := .bool false) rfl (by kernel_rfl) (by kernel_rfl) (by kernel_rfl) (fun _ _ _ h => h) (Or.inl ⟨by rfl, ?_⟩) hHeld ?_
          · (intro w hSw; (try dsimp only at hSw); go_simp)
          try simp only [Act.put, List.setIfInBounds_toArray, List.set_cons_zero, List.set_cons_succ]
          refine wpAnyH_take (i := 4) (oi := { dst := some 22, op := Op.move (Operand.tmp 0), type := 35, pos := "l05_zone.go:11", after := #[{ on := 3, ground := Ground.guard }], guard := some (3, true) }) (v := undef) rfl (by kernel_rfl) (by kernel_rfl) (by kernel_rfl) (fun _ _ _ h => h) (Or.inr ⟨by rfl, rfl⟩) hHeld ?_
          try simp only [Act.put, List.setIfInBounds_toArray, List.set_cons_zero, List.set_cons_succ]
          refine wpAnyH_take (i := 5) (oi := { dst := some 23, op := Op.move (Operand.tmp 5), type := 3, pos := "l05_zone.go:11", after := #[{ on := 3, ground := Ground.guard }], guard := some (3, true) }) (v := undef) rfl (by kernel_rfl) (by kernel_rfl) (by kernel_rfl) (fun _ _ _ h => h) (Or.inr ⟨by rfl, rfl⟩) hHeld ?_
          try simp only [Act.put, List.setIfInBounds_toArray, List.set_cons_zero, List.set_cons_succ]
          refine wpAnyH_take (i := 6) (oi := { dst := some 24, op := Op.indexAddr 35 (Operand.tmp 22) (Operand.tmp 23), type := 0, pos := "l05_zone.go:11", after := #[{ on := 4, ground := Ground.data }, { on := 5, ground := Ground.data }, { on := 3, ground := Ground.guard }], guard := some (3, true) }) (v := undef) rfl (by kernel_rfl) (by kernel_rfl) (by kernel_rfl) (fun _ _ _ h => h) (Or.inr ⟨by rfl, rfl⟩) hHeld ?_
          try simp only [Act.put, List.setIfInBounds_toArray, List.set_cons_zero, List.set_cons_succ]
          refine wpAnyH_take (i := 7) (oi := { dst := some 25, op := Op.fieldAddr 42 (Operand.tmp 24) 0, type := 0, pos := "l05_zone.go:11", after := #[{ on := 6, ground := Ground.data }, { on := 3, ground := Ground.guard }], guard := some (3, true) }) (v := undef) rfl (by kernel_rfl) (by kernel_rfl) (by kernel_rfl) (fun _ _ _ h => h) (Or.inr ⟨by rfl, rfl⟩) hHeld ?_
          try simp only [Act.put, List.setIfInBounds_toArray, List.set_cons_zero, List.set_cons_succ]
          refine wpAnyH_take (i := 8) (oi := { dst := some 26, op := Op.load 34 (Operand.tmp 25), type := 34, pos := "l05_zone.go:11", after := #[{ on := 7, ground := Ground.data }, { on := 3, ground := Ground.guard }], guard := some (3, true) }) (v := undef) rfl (by kernel_rfl) (by kernel_rfl) (by kernel_rfl) (fun _ _ _ h => h) (Or.inr ⟨by rfl, rfl⟩) hHeld ?_
          try simp only [Act.put, List.setIfInBounds_toArray, List.set_cons_zero, List.set_cons_succ]
          refine wpAnyH_take (i := 9) (oi := { dst := some 27, op := Op.move (Operand.tmp 0), type := 35, pos := "l05_zone.go:11", after := #[{ on := 3, ground := Ground.guard }], guard := some (3, true) }) (v := undef) rfl (by kernel_rfl) (by kernel_rfl) (by kernel_rfl) (fun _ _ _ h => h) (Or.inr ⟨by rfl, rfl⟩) hHeld ?_
          try simp only [Act.put, List.setIfInBounds_toArray, List.set_cons_zero, List.set_cons_succ]
          refine wpAnyH_take (i := 10) (oi := { dst := some 28, op := Op.move (Operand.tmp 1), type := 3, pos := "l05_zone.go:11", after := #[{ on := 3, ground := Ground.guard }], guard := some (3, true) }) (v := undef) rfl (by kernel_rfl) (by kernel_rfl) (by kernel_rfl) (fun _ _ _ h => h) (Or.inr ⟨by rfl, rfl⟩) hHeld ?_
          try simp only [Act.put, List.setIfInBounds_toArray, List.set_cons_zero, List.set_cons_succ]
          refine wpAnyH_take (i := 11) (oi := { dst := some 29, op := Op.indexAddr 35 (Operand.tmp 27) (Operand.tmp 28), type := 0, pos := "l05_zone.go:11", after := #[{ on := 9, ground := Ground.data }, { on := 10, ground := Ground.data }, { on := 3, ground := Ground.guard }], guard := some (3, true) }) (v := undef) rfl (by kernel_rfl) (by kernel_rfl) (by kernel_rfl) (fun _ _ _ h => h) (Or.inr ⟨by rfl, rfl⟩) hHeld ?_
          try simp only [Act.put, List.setIfInBounds_toArray, List.set_cons_zero, List.set_cons_succ]
          refine wpAnyH_take (i := 12) (oi := { dst := some 30, op := Op.fieldAddr 42 (Operand.tmp 29) 0, type := 0, pos := "l05_zone.go:11", after := #[{ on := 11, ground := Ground.data }, { on := 3, ground := Ground.guard }], guard := some (3, true) }) (v := undef) rfl (by kernel_rfl) (by kernel_rfl) (by kernel_rfl) (fun _ _ _ h => h) (Or.inr ⟨by rfl, rfl⟩) hHeld ?_
          try simp only [Act.put, List.setIfInBounds_toArray, List.set_cons_zero, List.set_cons_succ]
          refine wpAnyH_take (i := 13) (oi := { dst := some 31, op := Op.load 34 (Operand.tmp 30), type := 34, pos := "l05_zone.go:11", after := #[{ on := 12, ground := Ground.data }, { on := 3, ground := Ground.guard }], guard := some (3, true) }) (v := undef) rfl (by kernel_rfl) (by kernel_rfl) (by kernel_rfl) (fun _ _ _ h => h) (Or.inr ⟨by rfl, rfl⟩) hHeld ?_
          try simp only [Act.put, List.setIfInBounds_toArray, List.set_cons_zero, List.set_cons_succ]
          refine wpAnyH_take (i := 14) (oi := { dst := some 32, op := Op.call { callee := Callee.value (Operand.func 78), args := #[Operand.tmp 26, Operand.tmp 31], argTypes := #[34, 34] }, type := 3, pos := "l05_zone.go:11", after := #[{ on := 8, ground := Ground.data }, { on := 13, ground := Ground.data }, { on := 3, ground := Ground.chain }, { on := 3, ground := Ground.guard }], guard := some (3, true) }) (v := undef) rfl (by kernel_rfl) (by kernel_rfl) (by kernel_rfl) (fun _ _ _ h => h) (Or.inr ⟨by rfl, rfl⟩) hHeld ?_
          try simp only [Act.put, List.setIfInBounds_toArray, List.set_cons_zero, List.set_cons_succ]
          refine wpAnyH_take (i := 15) (oi := { dst := some 33, op := Op.binOp BinOp.eql 3 (Operand.tmp 32) (Operand.const (Value.int IntKind.i64 0)) 3, type := 4, pos := "l05_zone.go:11", after := #[{ on := 14, ground := Ground.data }, { on := 3, ground := Ground.guard }], guard := some (3, true) }) (v := undef) rfl (by kernel_rfl) (by kernel_rfl) (by kernel_rfl) (fun _ _ _ h => h) (Or.inr ⟨by rfl, rfl⟩) hHeld ?_
          try simp only [Act.put, List.setIfInBounds_toArray, List.set_cons_zero, List.set_cons_succ]
          refine wpAnyH_take (i := 16) (oi := { dst := some 34, op := Op.pick (Operand.tmp 21) (Operand.tmp 33) (Operand.const (Value.bool false)), type := 4, pos := "l05_zone.go:11", after := #[{ on := 3, ground := Ground.data }, { on := 15, ground := Ground.data }], guard := none }) (v := ?_) rfl (by kernel_rfl) (by kernel_rfl) (by kernel_rfl) (fun _ _ _ h => h) (Or.inl ⟨by rfl, ?_⟩) hHeld ?_
          rotate_left
          · (intro w hSw; (try dsimp only at hSw); go_simp <;> with_reducible rfl)
          try simp only [Act.put, List.setIfInBounds_toArray, List.set_cons_zero, List.set_cons_succ]
          refine wpAnyH_done (by kernel_rfl) ?_ _
          clear hHeld
          go_wp2_with fail
          exact ⟨⟨k + 1, by omega, by go_num, HALL, hbd⟩, by simp [intOf]; omega⟩
        · obtain ⟨b', off', na', nc', ta', tc', xa', xc', ia', ic', hbe, hbl', hc', hu'⟩ := (h.below hb).here (k := k) (by rw [unhide HN]; exact hlt)
          simp only [Option.some.injEq, Addr.mk.injEq, and_true] at hbe
          obtain ⟨rfl, rfl⟩ := hbe
          have hsk := unhide HS k hlt
          have hsi : ri.name.length ≤ 1048576 := by have := unhide HS i (by omega); rw [unhide HRI] at this; exact this
          have e1 : ((k : Int) != i) = true := by rw [bne_iff_ne]; omega
          have hkm : (k : Int) < m := by omega
          have hlim := hlt
          generalize hrk : rs.getD k recZ = rk at *
          have HRK := hide hrk
          clear hrk
          have CM := fun (w : World) (h1 : HasL w (.slice na' rk.name.length nc') rk.name) (h2 : HasL w (.slice na ri.name.length nc) ri.name) => l2cmp_has h1 h2 hsk hsi
          have HC4 := hide (range_below hc' hbl' bd)
          have HC5 := hide (range_below (range_below (unhide HC) hbl hb) (Nat.lt_of_lt_of_le hbl hb.size) bd)
          have hbl4 : b < wr.drew.heap.size := hbl'
          have U4 := hide (hu'.name.below bd)
          have U5 := hide ((unhide HU).name.below hbd)
          clear hc' hu' hsk hsi
          by_cases hz : cmpN rk.name ri.name = 0
          · have hA := aloneB_not (rs := rs) (i := i) (k := k) (by rw [unhide HRI]; exact unhide H5) (by rw [unhide HN]; exact hlt) hki (by rw [unhide HRK, unhide HRI]; exact hz)
            rw [unhide HAL] at hA
            subst hA
            rw [hz] at CM
            replace CM := hide CM
            clear hz HAL hall hki
            go_wp2_with fail
            refine wp_region_held_drew (S := (fun w' => w'.cell? ⟨b, off + k * 7, none⟩ = some (.slice na' rk.name.length nc') ∧ w'.cell? ⟨b, off + i * 7, none⟩ = some (.slice na ri.name.length nc))) (by kernel_rfl) ⟨(range7 (unhide HC4)).1, (range7 (unhide HC5)).1⟩ (fun hHeld => ?_)
            show wpAnyH _ _ _ _ _ 17 #[false, false, false, false, false, false, false, false, false, false, false, false, false, false, false, false, false] _ _
            refine wpAnyH_take (i := 0) (oi := { dst := some 18, op := Op.move (Operand.tmp 5), type := 3, pos := "l05_zone.go:11", after := #[], guard := none }) (v := ?_) rfl (by kernel_rfl) (by kernel_rfl) (by kernel_rfl) (fun _ _ _ h => h) (Or.inl ⟨by rfl, ?_⟩) hHeld ?_
            rotate_left
            · (intro w hSw; (try dsimp only at hSw); go_simp <;> with_reducible rfl)
            try simp only [Act.put, List.setIfInBounds_toArray, List.set_cons_zero, List.set_cons_succ]
            refine wpAnyH_take (i := 1) (oi := { dst := some 19, op := Op.move (Operand.tmp 1), type := 3, pos := "l05_zone.go:11", after := #[], guard := none }) (v := ?_) rfl (by kernel_rfl) (by kernel_rfl) (by kernel_rfl) (fun _ _ _ h => h) (Or.inl ⟨by rfl, ?_⟩) hHeld ?_
            rotate_left
            · (intro w hSw; (try dsimp only at hSw); go_simp <;> with_reducible rfl)
            try simp only [Act.put, List.setIfInBounds_toArray, List.set_cons_zero, List.set_cons_succ]
            refine wpAnyH_take (i := 2) (oi := { dst := some 20, op := Op.binOp BinOp.neq 3 (Operand.tmp 18) (Operand.tmp 19) 3, type := 4, pos := "l05_zone.go:11", after := #[{ on := 0, ground := Ground.data }, { on := 1, ground := Ground.data }], guard := none }) (v := .bool true) rfl (by kernel_rfl) (by kernel_rfl) (by kernel_rfl) (fun _ _ _ h => h) (Or.inl ⟨by rfl, ?_⟩) hHeld ?_
            · (intro w hSw; (try dsimp only at hSw); go_simp)
            try simp only [Act.put, List.setIfInBounds_toArray, List.set_cons_zero, List.set_cons_succ]
            refine wpAnyH_take (i := 3) (oi := { dst := some 21, op := Op.move (Operand.tmp 20), type := 4, pos := "l05_zone.go:11", after := #[{ on := 2, ground := Ground.data }], guard := none }) (v := .bool true) rfl (by kernel_rfl) (by kernel_rfl) (by kernel_rfl) (fun _ _ _ h => h) (Or.inl ⟨by rfl, ?_⟩) hHeld ?_
            · (intro w hSw; (try dsimp only at hSw); go_simp)
            try simp only [Act.put, List.setIfInBounds_toArray, List.set_cons_zero, List.set_cons_succ]
            refine wpAnyH_take (i := 4) (oi := { dst := some 22, op := Op.move (Operand.tmp 0), type := 35, pos := "l05_zone.go:11", after := #[{ on := 3, ground := Ground.guard }], guard := some (3, true) }) (v := ?_) rfl (by kernel_rfl) (by kernel_rfl) (by kernel_rfl) (fun _ _ _ h => h) (Or.inl ⟨by rfl, ?_⟩) hHeld ?_
            rotate_left
            · (intro w hSw; (try dsimp only at hSw); go_simp <;> with_reducible rfl)
            try simp only [Act.put, List.setIfInBounds_toArray, List.set_cons_zero, List.set_cons_succ]
            refine wpAnyH_take (i := 5) (oi := { dst := some 23, op := Op.move (Operand.tmp 5), type := 3, pos := "l05_zone.go:11", after := #[{ on := 3, ground := Ground.guard }], guard := some (3, true) }) (v := ?_) rfl (by kernel_rfl) (by kernel_rfl) (by kernel_rfl) (fun _ _ _ h => h) (Or.inl ⟨by rfl, ?_⟩) hHeld ?_
            rotate_left
            · (intro w hSw; (try dsimp only at hSw); go_simp <;> with_reducible rfl)
            try simp only [Act.put, List.setIfInBounds_toArray, List.set_cons_zero, List.set_cons_succ]
            refine wpAnyH_take (i := 6) (oi := { dst := some 24, op := Op.indexAddr 35 (Operand.tmp 22) (Operand.tmp 23), type := 0, pos := "l05_zone.go:11", after := #[{ on := 4, ground := Ground.data }, { on := 5, ground := Ground.data }, { on := 3, ground := Ground.guard }], guard := some (3, true) }) (v := .pointer (some ⟨b, off + k * 7, none⟩)) rfl (by kernel_rfl) (by kernel_rfl) (by kernel_rfl) (fun _ _ _ h => h) (Or.inl ⟨by rfl, ?_⟩) hHeld ?_
            · (intro w hSw; (try dsimp only at hSw); go_simp)
            try simp only [Act.put, List.setIfInBounds_toArray, List.set_cons_zero, List.set_cons_succ]
            refine wpAnyH_take (i := 7) (oi := { dst := some 25, op := Op.fieldAddr 42 (Operand.tmp 24) 0, type := 0, pos := "l05_zone.go:11", after := #[{ on := 6, ground := Ground.data }, { on := 3, ground := Ground.guard }], guard := some (3, true) }) (v := ?_) rfl (by kernel_rfl) (by kernel_rfl) (by kernel_rfl) (fun _ _ _ h => h) (Or.inl ⟨by rfl, ?_⟩) hHeld ?_
            rotate_left
            · (intro w hSw; (try dsimp only at hSw); go_simp <;> with_reducible rfl)
            try simp only [Act.put, List.setIfInBounds_toArray, List.set_cons_zero, List.set_cons_succ]
            refine wpAnyH_take (i := 8) (oi := { dst := some 26, op := Op.load 34 (Operand.tmp 25), type := 34, pos := "l05_zone.go:11", after := #[{ on := 7, ground := Ground.data }, { on := 3, ground := Ground.guard }], guard := some (3, true) }) (v := ?_) rfl (by kernel_rfl) (by kernel_rfl) (by kernel_rfl) (fun _ _ _ h => h) (Or.inl ⟨by rfl, ?_⟩) hHeld ?_
            rotate_left
            · (intro w hSw; (try dsimp only at hSw); go_simp <;> with_reducible rfl)
            try simp only [Act.put, List.setIfInBounds_toArray, List.set_cons_zero, List.set_cons_succ]
            refine wpAnyH_take (i := 9) (oi := { dst := some 27, op := Op.move (Operand.tmp 0), type := 35, pos := "l05_zone.go:11", after := #[{ on := 3, ground := Ground.guard }], guard := some (3, true) }) (v := ?_) rfl (by kernel_rfl) (by kernel_rfl) (by kernel_rfl) (fun _ _ _ h => h) (Or.inl ⟨by rfl, ?_⟩) hHeld ?_
            rotate_left
            · (intro w hSw; (try dsimp only at hSw); go_simp <;> with_reducible rfl)
            try simp only [Act.put, List.setIfInBounds_toArray, List.set_cons_zero, List.set_cons_succ]
            refine wpAnyH_take (i := 10) (oi := { dst := some 28, op := Op.move (Operand.tmp 1), type := 3, pos := "l05_zone.go:11", after := #[{ on := 3, ground := Ground.guard }], guard := some (3, true) }) (v := ?_) rfl (by kernel_rfl) (by kernel_rfl) (by kernel_rfl) (fun _ _ _ h => h) (Or.inl ⟨by rfl, ?_⟩) hHeld ?_
            rotate_left
            · (intro w hSw; (try dsimp only at hSw); go_simp <;> with_reducible rfl)
            try simp only [Act.put, List.setIfInBounds_toArray, List.set_cons_zero, List.set_cons_succ]
            refine wpAnyH_take (i := 11) (oi := { dst := some 29, op := Op.indexAddr 35 (Operand.tmp 27) (Operand.tmp 28), type := 0, pos := "l05_zone.go:11", after := #[{ on := 9, ground := Ground.data }, { on := 10, ground := Ground.data }, { on := 3, ground := Ground.guard }], guard := some (3, true) }) (v := .pointer (some ⟨b, off + i * 7, none⟩)) rfl (by kernel_rfl) (by kernel_rfl) (by kernel_rfl) (fun _ _ _ h => h) (Or.inl ⟨by rfl, ?_⟩) hHeld ?_
            · (intro w hSw; (try dsimp only at hSw); go_simp)
            try simp only [Act.put, List.setIfInBounds_toArray, List.set_cons_zero, List.set_cons_succ]
            refine wpAnyH_take (i := 12) (oi := { dst := some 30, op := Op.fieldAddr 42 (Operand.tmp 29) 0, type := 0, pos := "l05_zone.go:11", after := #[{ on := 11, ground := Ground.data }, { on := 3, ground := Ground.guard }], guard := some (3, true) }) (v := ?_) rfl (by kernel_rfl) (by kernel_rfl) (by kernel_rfl) (fun _ _ _ h => h) (Or.inl ⟨by rfl, ?_⟩) hHeld ?_
            rotate_left
            · (intro w hSw; (try dsimp only at hSw); go_simp <;> with_reducible rfl)
            try simp only [Act.put, List.setIfInBounds_toArray, List.set_cons_zero, List.set_cons_succ]
            refine wpAnyH_take (i := 13) (oi := { dst := some 31, op := Op.load 34 (Operand.tmp 30), type := 34, pos := "l05_zone.go:11", after := #[{ on := 12, ground := Ground.data }, { on := 3, ground := Ground.guard }], guard := some (3, true) }) (v := ?_) rfl (by kernel_rfl) (by kernel_rfl) (by kernel_rfl) (fun _ _ _ h => h) (Or.inl ⟨by rfl, ?_⟩) hHeld ?_
            rotate_left
            · (intro w hSw; (try dsimp only at hSw); go_simp <;> with_reducible rfl)
            try simp only [Act.put, List.setIfInBounds_toArray, List.set_cons_zero, List.set_cons_succ]
            refine wpAnyH_ready (rs := [14]) (by kernel_rfl) (by simp) (AllReadyH.cons (o := { dst := some 32, op := Op.call { callee := Callee.value (Operand.func 78), args := #[Operand.tmp 26, Operand.tmp 31], argTypes := #[34, 34] }, type := 3, pos := "l05_zone.go:11", after := #[{ on := 8, ground := Ground.data }, { on := 13, ground := Ground.data }, { on := 3, ground := Ground.chain }, { on := 3, ground := Ground.guard }], guard := some (3, true) }) rfl (fun K hK => ?_) AllReadyH.nil)
            have HK := hide hK
            clear hK hHeld
            go_simp
            refine (unhide CM _ (unhide U4) (unhide U5)).mono ?_
            rintro e w2 ⟨rfl, b2⟩
            go_simp
            refine (unhide HK).out _ _ ⟨(range7 (range_below (unhide HC4) hbl4 b2)).1, (range7 (range_below (unhide HC5) hbl4 b2)).1⟩ (fun hHeld => ?_)
            clear HK K
            try simp only [List.setIfInBounds_toArray, List.set_cons_zero, List.set_cons_succ]
            refine wpAnyH_take (i := 15) (oi := { dst := some 33, op := Op.binOp BinOp.eql 3 (Operand.tmp 32) (Operand.const (Value.int IntKind.i64 0)) 3, type := 4, pos := "l05_zone.go:11", after := #[{ on := 14, ground := Ground.data }, { on := 3, ground := Ground.guard }], guard := some (3, true) }) (v := .bool true) rfl (by kernel_rfl) (by kernel_rfl) (by kernel_rfl) (fun _ _ _ h => h) (Or.inl ⟨by rfl, ?_⟩) hHeld ?_
            · (intro w hSw; (try dsimp only at hSw); go_simp)
            try simp only [Act.put, List.setIfInBounds_toArray, List.set_cons_zero, List.set_cons_succ]
            refine wpAnyH_take (i := 16) (oi := { dst := some 34, op := Op.pick (Operand.tmp 21) (Operand.tmp 33) (Operand.const (Value.bool false)), type := 4, pos := "l05_zone.go:11", after := #[{ on := 3, ground := Ground.data }, { on := 15, ground := Ground.data }], guard := none }) (v := .bool true) rfl (by kernel_rfl) (by kernel_rfl) (by kernel_rfl) (fun _ _ _ h => h) (Or.inl ⟨by rfl, ?_⟩) hHeld ?_
            · (intro w hSw; (try dsimp only at hSw); go_simp)
            try simp only [Act.put, List.setIfInBounds_toArray, List.set_cons_zero, List.set_cons_succ]
            refine wpAnyH_done (by kernel_rfl) ?_ _
            clear hHeld
            go_wp2_with fail
            go_ret
            exact ⟨rfl, below_next hbd b2⟩
          · have hall' : ∀ j, j < k + 1 → j ≠ i → cmpN (rs.getD j recZ).name ri.name ≠ 0 := fun j hj hne => by
              by_cases e : j = k
              · subst e; rw [unhide HRK]; exact hz
              · exact unhide hall j (by omega) hne
            have HALL := hide hall'
            have e2 : (cmpN rk.name ri.name == 0) = false := by rw [beq_eq_false_iff_ne]; exact hz
            generalize cmpN rk.name ri.name = c at *
            replace CM := hide CM
            clear hall' hz hki
            go_wp2_with fail
            refine wp_region_held_drew (S := (fun w' => w'.cell? ⟨b, off + k * 7, none⟩ = some (.slice na' rk.name.length nc') ∧ w'.cell? ⟨b, off + i * 7, none⟩ = some (.slice na ri.name.length nc))) (by kernel_rfl) ⟨(range7 (unhide HC4)).1, (range7 (unhide HC5)).1⟩ (fun hHeld => ?_)
            show wpAnyH _ _ _ _ _ 17 #[false, false, false, false, false, false, false, false, false, false, false, false, false, false, false, false, false] _ _
            refine wpAnyH_take (i := 0) (oi := { dst := some 18, op := Op.move (Operand.tmp 5), type := 3, pos := "l05_zone.go:11", after := #[], guard := none }) (v := ?_) rfl (by kernel_rfl) (by kernel_rfl) (by kernel_rfl) (fun _ _ _ h => h) (Or.inl ⟨by rfl, ?_⟩) hHeld ?_
            rotate_left
            · (intro w hSw; (try dsimp only at hSw); go_simp <;> with_reducible rfl)
            try simp only [Act.put, List.setIfInBounds_toArray, List.set_cons_zero, List.set_cons_succ]
            refine wpAnyH_take (i := 1) (oi := { dst := some 19, op := Op.move (Operand.tmp 1), type := 3, pos := "l05_zone.go:11", after := #[], guard := none }) (v := ?_) rfl (by kernel_rfl) (by kernel_rfl) (by kernel_rfl) (fun _ _ _ h => h) (Or.inl ⟨by rfl, ?_⟩) hHeld ?_
            rotate_left
            · (intro w hSw; (try dsimp only at hSw); go_simp <;> with_reducible rfl)
            try simp only [Act.put, List.setIfInBounds_toArray, List.set_cons_zero, List.set_cons_succ]
            refine wpAnyH_take (i := 2) (oi := { dst := some 20, op := Op.binOp BinOp.neq 3 (Operand.tmp 18) (Operand.tmp 19) 3, type := 4, pos := "l05_zone.go:11", after := #[{ on := 0, ground := Ground.data }, { on := 1, ground := Ground.data }], guard := none }) (v := .bool true) rfl (by kernel_rfl) (by kernel_rfl) (by kernel_rfl) (fun _ _ _ h => h) (Or.inl ⟨by rfl, ?_⟩) hHeld ?_
            · (intro w hSw; (try dsimp only at hSw); go_simp)
            try simp only [Act.put, List.setIfInBounds_toArray, List.set_cons_zero, List.set_cons_succ]
            refine wpAnyH_take (i := 3) (oi := { dst := some 21, op := Op.move (Operand.tmp 20), type := 4, pos := "l05_zone.go:11", after := #[{ on := 2, ground := Ground.data }], guard := none }) (v := .bool true) rfl (by kernel_rfl) (by kernel_rfl) (by kernel_rfl) (fun _ _ _ h => h) (Or.inl ⟨by rfl, ?_⟩) hHeld ?_
            · (intro w hSw; (try dsimp only at hSw); go_simp)
            try simp only [Act.put, List.setIfInBounds_toArray, List.set_cons_zero, List.set_cons_succ]
            refine wpAnyH_take (i := 4) (oi := { dst := some 22, op := Op.move (Operand.tmp 0), type := 35, pos := "l05_zone.go:11", after := #[{ on := 3, ground := Ground.guard }], guard := some (3, true) }) (v := ?_) rfl (by kernel_rfl) (by kernel_rfl) (by kernel_rfl) (fun _ _ _ h => h) (Or.inl ⟨by rfl, ?_⟩) hHeld ?_
            rotate_left
            · (intro w hSw; (try dsimp only at hSw); go_simp <;> with_reducible rfl)
            try simp only [Act.put, List.setIfInBounds_toArray, List.set_cons_zero, List.set_cons_succ]
            refine wpAnyH_take (i := 5) (oi := { dst := some 23, op := Op.move (Operand.tmp 5), type := 3, pos := "l05_zone.go:11", after := #[{ on := 3, ground := Ground.guard }], guard := some (3, true) }) (v := ?_) rfl (by kernel_rfl) (by kernel_rfl) (by kernel_rfl) (fun _ _ _ h => h) (Or.inl ⟨by rfl, ?_⟩) hHeld ?_
            rotate_left
            · (intro w hSw; (try dsimp only at hSw); go_simp <;> with_reducible rfl)
            try simp only [Act.put, List.setIfInBounds_toArray, List.set_cons_zero, List.set_cons_succ]
            refine wpAnyH_take (i := 6) (oi := { dst := some 24, op := Op.indexAddr 35 (Operand.tmp 22) (Operand.tmp 23), type := 0, pos := "l05_zone.go:11", after := #[{ on := 4, ground := Ground.data }, { on := 5, ground := Ground.data }, { on := 3, ground := Ground.guard }], guard := some (3, true) }) (v := .pointer (some ⟨b, off + k * 7, none⟩)) rfl (by kernel_rfl) (by kernel_rfl) (by kernel_rfl) (fun _ _ _ h => h) (Or.inl ⟨by rfl, ?_⟩) hHeld ?_
            · (intro w hSw; (try dsimp only at hSw); go_simp)
            try simp only [Act.put, List.setIfInBounds_toArray, List.set_cons_zero, List.set_cons_succ]
            refine wpAnyH_take (i := 7) (oi := { dst := some 25, op := Op.fieldAddr 42 (Operand.tmp 24) 0, type := 0, pos := "l05_zone.go:11", after := #[{ on := 6, ground := Ground.data }, { on := 3, ground := Ground.guard }], guard := some (3, true) }) (v := ?_) rfl (by kernel_rfl) (by kernel_rfl) (by kernel_rfl) (fun _ _ _ h => h) (Or.inl ⟨by rfl, ?_⟩) hHeld ?_
            rotate_left
            · (intro w hSw; (try dsimp only at hSw); go_simp <;> with_reducible rfl)
            try simp only [Act.put, List.setIfInBounds_toArray, List.set_cons_zero, List.set_cons_succ]
            refine wpAnyH_take (i := 8) (oi := { dst := some 26, op := Op.load 34 (Operand.tmp 25), type := 34, pos := "l05_zone.go:11", after := #[{ on := 7, ground := Ground.data }, { on := 3, ground := Ground.guard }], guard := some (3, true) }) (v := ?_) rfl (by kernel_rfl) (by kernel_rfl) (by kernel_rfl) (fun _ _ _ h => h) (Or.inl ⟨by rfl, ?_⟩) hHeld ?_
            rotate_left
            · (intro w hSw; (try dsimp only at hSw); go_simp <;> with_reducible rfl)
            try simp only [Act.put, List.setIfInBounds_toArray, List.set_cons_zero, List.set_cons_succ]
            refine wpAnyH_take (i := 9) (oi := { dst := some 27, op := Op.move (Operand.tmp 0), type := 35, pos := "l05_zone.go:11", after := #[{ on := 3, ground := Ground.guard }], guard := some (3, true) }) (v := ?_) rfl (by kernel_rfl) (by kernel_rfl) (by kernel_rfl) (fun _ _ _ h => h) (Or.inl ⟨by rfl, ?_⟩) hHeld ?_
            rotate_left
            · (intro w hSw; (try dsimp only at hSw); go_simp <;> with_reducible rfl)
            try simp only [Act.put, List.setIfInBounds_toArray, List.set_cons_zero, List.set_cons_succ]
            refine wpAnyH_take (i := 10) (oi := { dst := some 28, op := Op.move (Operand.tmp 1), type := 3, pos := "l05_zone.go:11", after := #[{ on := 3, ground := Ground.guard }], guard := some (3, true) }) (v := ?_) rfl (by kernel_rfl) (by kernel_rfl) (by kernel_rfl) (fun _ _ _ h => h) (Or.inl ⟨by rfl, ?_⟩) hHeld ?_
            rotate_left
            · (intro w hSw; (try dsimp only at hSw); go_simp <;> with_reducible rfl)
            try simp only [Act.put, List.setIfInBounds_toArray, List.set_cons_zero, List.set_cons_succ]
            refine wpAnyH_take (i := 11) (oi := { dst := some 29, op := Op.indexAddr 35 (Operand.tmp 27) (Operand.tmp 28), type := 0, pos := "l05_zone.go:11", after := #[{ on := 9, ground := Ground.data }, { on := 10, ground := Ground.data }, { on := 3, ground := Ground.guard }], guard := some (3, true) }) (v := .pointer (some ⟨b, off + i * 7, none⟩)) rfl (by kernel_rfl) (by kernel_rfl) (by kernel_rfl) (fun _ _ _ h => h) (Or.inl ⟨by rfl, ?_⟩) hHeld ?_
            · (intro w hSw; (try dsimp only at hSw); go_simp)
            try simp only [Act.put, List.setIfInBounds_toArray, List.set_cons_zero, List.set_cons_succ]
            refine wpAnyH_take (i := 12) (oi := { dst := some 30, op := Op.fieldAddr 42 (Operand.tmp 29) 0, type := 0, pos := "l05_zone.go:11", after := #[{ on := 11, ground := Ground.data }, { on := 3, ground := Ground.guard }], guard := some (3, true) }) (v := ?_) rfl (by kernel_rfl) (by kernel_rfl) (by kernel_rfl) (fun _ _ _ h => h) (Or.inl ⟨by rfl, ?_⟩) hHeld ?_
            rotate_left
            · (intro w hSw; (try dsimp only at hSw); go_simp <;> with_reducible rfl)
            try simp only [Act.put, List.setIfInBounds_toArray, List.set_cons_zero, List.set_cons_succ]
            refine wpAnyH_take (i := 13) (oi := { dst := some 31, op := Op.load 34 (Operand.tmp 30), type := 34, pos := "l05_zone.go:11", after := #[{ on := 12, ground := Ground.data }, { on := 3, ground := Ground.guard }], guard := some (3, true) }) (v := ?_) rfl (by kernel_rfl) (by kernel_rfl) (by kernel_rfl) (fun _ _ _ h => h) (Or.inl ⟨by rfl, ?_⟩) hHeld ?_
            rotate_left
            · (intro w hSw; (try dsimp only at hSw); go_simp <;> with_reducible rfl)
            try simp only [Act.put, List.setIfInBounds_toArray, List.set_cons_zero, List.set_cons_succ]
            refine wpAnyH_ready (rs := [14]) (by kernel_rfl) (by simp) (AllReadyH.cons (o := { dst := some 32, op := Op.call { callee := Callee.value (Operand.func 78), args := #[Operand.tmp 26, Operand.tmp 31], argTypes := #[34, 34] }, type := 3, pos := "l05_zone.go:11", after := #[{ on := 8, ground := Ground.data }, { on := 13, ground := Ground.data }, { on := 3, ground := Ground.chain }, { on := 3, ground := Ground.guard }], guard := some (3, true) }) rfl (fun K hK => ?_) AllReadyH.nil)
            have HK := hide hK
            clear hK hHeld
            go_simp
            refine (unhide CM _ (unhide U4) (unhide U5)).mono ?_
            rintro e w2 ⟨rfl, b2⟩
            go_simp
            refine (unhide HK).out _ _ ⟨(range7 (range_below (unhide HC4) hbl4 b2)).1, (range7 (range_below (unhide HC5) hbl4 b2)).1⟩ (fun hHeld => ?_)
            clear HK K
            try simp only [List.setIfInBounds_toArray, List.set_cons_zero, List.set_cons_succ]
            refine wpAnyH_take (i := 15) (oi := { dst := some 33, op := Op.binOp BinOp.eql 3 (Operand.tmp 32) (Operand.const (Value.int IntKind.i64 0)) 3, type := 4, pos := "l05_zone.go:11", after := #[{ on := 14, ground := Ground.data }, { on := 3, ground := Ground.guard }], guard := some (3, true) }) (v := .bool false) rfl (by kernel_rfl) (by kernel_rfl) (by kernel_rfl) (fun _ _ _ h => h) (Or.inl ⟨by rfl, ?_⟩) hHeld ?_
            · (intro w hSw; (try dsimp only at hSw); go_simp)
            try simp only [Act.put, List.setIfInBounds_toArray, List.set_cons_zero, List.set_cons_succ]
            refine wpAnyH_take (i := 16) (oi := { dst := some 34, op := Op.pick (Operand.tmp 21) (Operand.tmp 33) (Operand.const (Value.bool false)), type := 4, pos := "l05_zone.go:11", after := #[{ on := 3, ground := Ground.data }, { on := 15, ground := Ground.data }], guard := none }) (v := .bool false) rfl (by kernel_rfl) (by kernel_rfl) (by kernel_rfl) (fun _ _ _ h => h) (Or.inl ⟨by rfl, ?_⟩) hHeld ?_
            · (intro w hSw; (try dsimp only at hSw); go_simp)
            try simp only [Act.put, List.setIfInBounds_toArray, List.set_cons_zero, List.set_cons_succ]
            refine wpAnyH_done (by kernel_rfl) ?_ _
            clear hHeld
            go_wp2_with fail
            exact ⟨⟨k + 1, by omega, by go_num, HALL, below_next hbd b2⟩, by simp [intOf]; omega⟩
      · obtain rfl : k = m := by omega
        have hA := aloneB_all (rs := rs) (i := i) (fun j hj hne => by rw [unhide HRI]; exact unhide hall j (by rw [unhide HN] at hj; exact hj) hne)
        rw [unhide HAL] at hA
        subst hA
        go_wp2
        go_ret
        exact ⟨rfl, hb⟩
  · have hA := aloneB_free (rs := rs) (i := i) (by rw [unhide HRI]; exact h5)
    rw [unhide HAL] at hA
    subst hA
    have e5 : (ri.type != 5) = true := by rw [bne_iff_ne]; exact h5
    clear h5
    go_enter Tryz.func77, Tryz.ntmps77
    go_wp2_with fail
    go_ret
    exact ⟨rfl, Below.refl _ _⟩
end Go.Proofs.YtmnlhjdjjinbiaaGreat
