/-
  Contracts of the specification's Put32. Contracts of the specification's l3put. A slice of bytes made into a text. Contracts of the specification's l2bytes and l2cmp.
-/
import Derived.Test.YtpolekinfobecaaGreatCacheTickG07
import Derived.Test.YtpolekinfobecaaGreatCacheTickG14
import Derived.Test.YtpolekinfobecaaGreatCacheTickG34
import Derived.Test.YtpolekinfobecaaGreatCacheTickG35
import Derived.Test.YtpolekinfobecaaGreatCacheTickG10
import Derived.Deep.RegionHeld3
import Derived.Test.YtpolekinfobecaaGreatCacheTickG33
import Derived.WalkLawsBesides
namespace Go.Proofs.YtpolekinfobecaaGreat
open Go.RowKit
set_option linter.unusedVariables false

set_option maxHeartbeats 400000 in
set_option maxRecDepth 100000 in
theorem specPut32_no {B : Nat} {v : Value} {l : List Int} (n : Int) {w : World} (h : Own B 5 w v l) (hl : l.length ≤ 1048576) (hn : n < 0 ∨ 4294967295 < n) :
  Calls Tryz.prog 89 #[v, .int .i64 n] w fun e w' => ∃ v', e = .returned v' ∧ Own w.heap.size 5 w' v' l ∧ Below w.heap.size w w' := by
 by_cases h0 : n < 0
 ·go_enter Tryz.func89, Tryz.ntmps89
  go_wp2_with (at_builtin; refine append_bytes rfl _ _ 53 5 rfl Tryz.underlying53 info_u8 w.heap.size _ v [] l rfl rfl (own_lit w w.heap.size 5 [] (Nat.le_refl _) (by simp)) (h.alloc _).reads (by simp; omega) (by simp) ?_)
  intro v' w2 hown hgrow
  go_wp2
  go_ret
  exact ⟨v', rfl, hown, ((Below.refl _ _).alloc (Nat.le_refl _) _).grown hgrow (by simp) (fun k hk => by simp [Value.ownBlock] at hk; omega)⟩
 ·have h1 : 4294967295 < n := by omega
  go_enter Tryz.func89, Tryz.ntmps89
  go_wp2_with (at_builtin; refine append_bytes rfl _ _ 53 5 rfl Tryz.underlying53 info_u8 w.heap.size _ v [] l rfl rfl (own_lit w w.heap.size 5 [] (Nat.le_refl _) (by simp)) (h.alloc _).reads (by simp; omega) (by simp) ?_)
  intro v' w2 hown hgrow
  go_wp2
  go_ret
  exact ⟨v', rfl, hown, ((Below.refl _ _).alloc (Nat.le_refl _) _).grown hgrow (by simp) (fun k hk => by simp [Value.ownBlock] at hk; omega)⟩

set_option maxHeartbeats 800000 in
set_option maxRecDepth 100000 in
theorem specPut32_yes {B : Nat} {v : Value} {l : List Int} (n : Int) {w : World} (h : Own B 5 w v l) (hl : l.length ≤ 1048576) (h0 : 0 ≤ n) (h1 : n ≤ 4294967295) :
  Calls Tryz.prog 89 #[v, .int .i64 n] w fun e w' => ∃ v', e = .returned v' ∧ Own w.heap.size 5 w' v' (l ++ [n / 16777216, n / 65536 % 256, n / 256 % 256, n % 256]) ∧ Below w.heap.size w w' := by
 go_enter Tryz.func89, Tryz.ntmps89
 go_wp2_with (at_builtin; refine append_bytes rfl _ _ 53 5 rfl Tryz.underlying53 info_u8 w.heap.size _ v [] l rfl rfl (own_lit w w.heap.size 5 [] (Nat.le_refl _) (by simp)) (h.alloc _).reads (by simp; omega) (by simp) ?_)
 intro v1 w1 o1 hgrow
 have b1 : Below w.heap.size w w1 := ((Below.refl _ _).alloc (Nat.le_refl _) _).grown hgrow (by simp) (fun k hk => by simp [Value.ownBlock] at hk; omega)
 clear hgrow
 have hsz := b1.size
 go_wp2_with (at_builtin; refine append_bytes rfl _ _ 53 5 rfl Tryz.underlying53 info_u8 w.heap.size v1 _ l [n / 16777216, n / 65536 % 256, n / 256 % 256, n % 256] rfl rfl (o1.alloc _) (own_put32 w1 0 5 n (Nat.zero_le _)).reads (by simp; omega) (by simp; omega) ?_)
 intro v' w2 hown hgrow
 go_wp2
 go_ret
 exact ⟨v', rfl, hown, (b1.alloc hsz _).grown hgrow (by simp; omega) (fun k hk => (o1.lt k hk).1)⟩

theorem specPut32_any {B : Nat} {v : Value} {l : List Int} (n : Int) {w : World} (h : Own B 5 w v l) (hl : l.length ≤ 1048576) :
  Calls Tryz.prog 89 #[v, .int .i64 n] w fun e w' => ∃ v', e = .returned v' ∧ Own w.heap.size 5 w' v' (put32 l n) ∧ Below w.heap.size w w' := by
 by_cases hn : 0 ≤ n ∧ n ≤ 4294967295
 ·have e : put32 l n = l ++ [n / 16777216, n / 65536 % 256, n / 256 % 256, n % 256] := by unfold put32; rw [if_pos hn]
  rw [e]; exact specPut32_yes n h hl hn.1 hn.2
 ·have e : put32 l n = l := by unfold put32; rw [if_neg hn]
  rw [e]; exact specPut32_no n h hl (by omega)
end Go.Proofs.YtpolekinfobecaaGreat

namespace Go.Proofs.YtpolekinfobecaaGreat
open Go.RowKit
set_option linter.unusedVariables false

theorem own_nil (B : Nat) (e : TypeId) (w : World) : Own B e w (.slice none 0 0) [] := World.ownsRow_nil _ _ _ _

set_option maxHeartbeats 800000 in
set_option maxRecDepth 100000 in
theorem l3put_A {na : Option Addr} {nc : Nat} {ta : Option Addr} {tc : Nat} {xa : Option Addr} {xc : Nat} {ia : Option Addr} {ic : Nat} {nm to : List (List Int)} {tx nu : List Int} {tt ad : Int} {w : World} (h0 : 0 ≤ ad) (h1 : ad ≤ 4294967295) :
  Calls Tryz.prog 70 #[.agg #[.slice na nm.length nc, .int .i64 1, .int .i64 tt, .int .i64 ad, .slice ta to.length tc, .slice xa tx.length xc, .slice ia nu.length ic]] w fun e w' => ∃ v', e = .returned v' ∧ Own w.heap.size 5 w' v' (put32 [] ad) ∧ Below w.heap.size w w' := by
 have b0 := below_alloc (w := w) (.cells #[.slice na nm.length nc, .int .i64 1, .int .i64 tt, .int .i64 ad, .slice ta to.length tc, .slice xa tx.length xc, .slice ia nu.length ic] 56)
 have hP := hide (specPut32_any (B := 0) ad (own_nil 0 5 (w.alloc (.cells #[.slice na nm.length nc, .int .i64 1, .int .i64 tt, .int .i64 ad, .slice ta to.length tc, .slice xa tx.length xc, .slice ia nu.length ic] 56))) (by simp))
 generalize put32 [] ad = G at *
 go_enter Tryz.func70, Tryz.ntmps70
 go_wp2_with fail
 refine (unhide hP).mono ?_
 rintro e w1 ⟨v1, rfl, o1, b1⟩
 go_wp2_with fail
 go_ret
 exact ⟨v1, rfl, o1.mono b0.size, below_next b0 b1⟩

set_option maxHeartbeats 800000 in
set_option maxRecDepth 100000 in
theorem l3put_N {na : Option Addr} {nc : Nat} {ta : Option Addr} {tc : Nat} {xa : Option Addr} {xc : Nat} {ia : Option Addr} {ic : Nat} {nm to : List (List Int)} {tx nu : List Int} {tt ad : Int} {w : World} {ty : Int} (ht : ty = 2 ∨ ty = 5 ∨ ty = 12) (h : HasL w (.slice ta to.length tc) to) (hok : nameOk to = true) :
  Calls Tryz.prog 70 #[.agg #[.slice na nm.length nc, .int .i64 ty, .int .i64 tt, .int .i64 ad, .slice ta to.length tc, .slice xa tx.length xc, .slice ia nu.length ic]] w fun e w' => ∃ v', e = .returned v' ∧ Own w.heap.size 5 w' v' (wire to) ∧ Below w.heap.size w w' := by
 have b0 := below_alloc (w := w) (.cells #[.slice na nm.length nc, .int .i64 ty, .int .i64 tt, .int .i64 ad, .slice ta to.length tc, .slice xa tx.length xc, .slice ia nu.length ic] 56)
 have K0 := hide (heap_alloc_new w (.cells #[.slice na nm.length nc, .int .i64 ty, .int .i64 tt, .int .i64 ad, .slice ta to.length tc, .slice xa tx.length xc, .slice ia nu.length ic] 56))
 have hP := hide (l2put_own (B := (w.alloc (.cells #[.slice na nm.length nc, .int .i64 ty, .int .i64 tt, .int .i64 ad, .slice ta to.length tc, .slice xa tx.length xc, .slice ia nu.length ic] 56)).heap.size) (own_nil _ 5 (w.alloc (.cells #[.slice na nm.length nc, .int .i64 ty, .int .i64 tt, .int .i64 ad, .slice ta to.length tc, .slice xa tx.length xc, .slice ia nu.length ic] 56))) (Nat.le_refl _) (by simp) (h.below b0).at (nameOk_parts hok).1 (fun k hk => (labelOk_length ((nameOk_parts hok).2 k hk)).2) (wires_length to hok))
 rw [List.nil_append] at hP
 clear h
 generalize wire to = G at *
 have e1 : (ty == 1) = false := by rw [beq_eq_false_iff_ne]; omega
 have e6 : (ty == 6) = false := by rw [beq_eq_false_iff_ne]; omega
 have hto : typeOk ty = true := decide_eq_true (by omega)
 have hna : named ty = true := decide_eq_true (by omega)
 have HTO := hide hto
 have HNA := hide hna
 clear ht hto hna
 go_enter Tryz.func70, Tryz.ntmps70
 go_wp2_with fail
 generalize w.alloc (.cells #[.slice na nm.length nc, .int .i64 ty, .int .i64 tt, .int .i64 ad, .slice ta to.length tc, .slice xa tx.length xc, .slice ia nu.length ic] 56) = W at *
 refine (l3named_any ty _ (unhide HTO)).mono ?_
 rw [unhide HNA]
 rintro e w1 ⟨rfl, rfl⟩
 obtain ⟨d0, d1, d2, d3, d4, d5, d6⟩ := cells7 (unhide K0)
 go_wp2_with fail
 refine (unhide hP).mono ?_
 rintro e w1 ⟨v1, rfl, o1, b1⟩
 go_wp2_with fail
 go_ret
 exact ⟨v1, rfl, o1.mono b0.size, below_next b0 b1⟩

set_option maxHeartbeats 800000 in
set_option maxRecDepth 100000 in
theorem l3put_X {na : Option Addr} {nc : Nat} {ta : Option Addr} {tc : Nat} {xa : Option Addr} {xc : Nat} {ia : Option Addr} {ic : Nat} {nm to : List (List Int)} {tx nu : List Int} {tt ad : Int} {w : World} {ty : Int} (ht : ty = 16 ∨ ty = 49) (h : Has w (.slice xa tx.length xc) tx) (hl : tx.length ≤ 40) :
  Calls Tryz.prog 70 #[.agg #[.slice na nm.length nc, .int .i64 ty, .int .i64 tt, .int .i64 ad, .slice ta to.length tc, .slice xa tx.length xc, .slice ia nu.length ic]] w fun e w' => ∃ v', e = .returned v' ∧ Own w.heap.size 5 w' v' ((tx.length : Int) :: tx) ∧ Below w.heap.size w w' := by
 have b0 := below_alloc (w := w) (.cells #[.slice na nm.length nc, .int .i64 ty, .int .i64 tt, .int .i64 ad, .slice ta to.length tc, .slice xa tx.length xc, .slice ia nu.length ic] 56)
 have K0 := hide (heap_alloc_new w (.cells #[.slice na nm.length nc, .int .i64 ty, .int .i64 tt, .int .i64 ad, .slice ta to.length tc, .slice xa tx.length xc, .slice ia nu.length ic] 56))
 have H0 := hide (h.below b0)
 clear h
 have e1 : (ty == 1) = false := by rw [beq_eq_false_iff_ne]; omega
 have e6 : (ty == 6) = false := by rw [beq_eq_false_iff_ne]; omega
 have hto : typeOk ty = true := decide_eq_true (by omega)
 have hna : named ty = false := decide_eq_false (by omega)
 have HTO := hide hto
 have HNA := hide hna
 clear ht hto hna
 have hmod : ((tx.length : Int) % 256) = tx.length := by omega
 go_enter Tryz.func70, Tryz.ntmps70
 go_wp2_with fail
 generalize w.alloc (.cells #[.slice na nm.length nc, .int .i64 ty, .int .i64 tt, .int .i64 ad, .slice ta to.length tc, .slice xa tx.length xc, .slice ia nu.length ic] 56) = W at *
 refine (l3named_any ty _ (unhide HTO)).mono ?_
 rw [unhide HNA]
 rintro e w1 ⟨rfl, rfl⟩
 obtain ⟨d0, d1, d2, d3, d4, d5, d6⟩ := cells7 (unhide K0)
 have ca : ∀ o, (W.alloc o).cell? ⟨w.heap.size, 5, none⟩ = some (.slice xa tx.length xc) := fun o => (cells7 (block_kept (below_alloc o) (unhide K0))).2.2.2.2.2.1
 go_wp2_with (at_builtin; refine append_bytes rfl _ _ 53 5 rfl Tryz.underlying53 info_u8 W.heap.size _ (.slice xa tx.length xc) [(tx.length : Int)] tx rfl rfl (own_lit W W.heap.size 5 [(tx.length : Int)] (Nat.le_refl _) (by simp [maxLen])) ((unhide H0).below (below_alloc _)).reads (by simp; omega) (below_alloc _).size ?_)
 intro v2 w2 o2 g2
 have b2 := lit_grown g2
 go_wp2_with fail
 go_ret
 exact ⟨v2, rfl, o2.mono b0.size, below_next b0 b2⟩

set_option maxHeartbeats 2000000 in
set_option maxRecDepth 100000 in
theorem l3put_S {na : Option Addr} {nc : Nat} {ta : Option Addr} {tc : Nat} {xa : Option Addr} {xc : Nat} {ia : Option Addr} {ic : Nat} {nm to : List (List Int)} {tx : List Int} {x y : Int} {tt ad : Int} {w : World} (h : HasL w (.slice ta to.length tc) to) (hi : HasI w (.slice ia 2 ic) [x, y]) (hok : nameOk to = true) :
  Calls Tryz.prog 70 #[.agg #[.slice na nm.length nc, .int .i64 6, .int .i64 tt, .int .i64 ad, .slice ta to.length tc, .slice xa tx.length xc, .slice ia 2 ic]] w fun e w' => ∃ v', e = .returned v' ∧ Own w.heap.size 5 w' v' (put32 (put32 (wire to) x) y) ∧ Below w.heap.size w w' := by
 have b0 := below_alloc (w := w) (.cells #[.slice na nm.length nc, .int .i64 6, .int .i64 tt, .int .i64 ad, .slice ta to.length tc, .slice xa tx.length xc, .slice ia 2 ic] 56)
 have K0 := hide (heap_alloc_new w (.cells #[.slice na nm.length nc, .int .i64 6, .int .i64 tt, .int .i64 ad, .slice ta to.length tc, .slice xa tx.length xc, .slice ia 2 ic] 56))
 have hw := wire_length to hok
 have hw2 := put32_length (wire to) x
 have hN := hide (show ∀ w1 : World, Below w.heap.size w w1 → Calls Tryz.prog 90 #[.slice none 0 0, .agg #[.slice ta to.length tc]] w1 fun e w' => ∃ v', e = .returned v' ∧ Own w1.heap.size 5 w' v' (wire to) ∧ Below w1.heap.size w1 w' from fun w1 hb => by
  have := l2put_own (B := w1.heap.size) (own_nil _ 5 w1) (Nat.le_refl _) (by simp) (h.below hb).at (nameOk_parts hok).1 (fun k hk => (labelOk_length ((nameOk_parts hok).2 k hk)).2) (wires_length to hok)
  rw [List.nil_append] at this
  exact this)
 have hQ := hide (show ∀ (w1 : World) (B : Nat) (v : Value), Own B 5 w1 v (wire to) → Calls Tryz.prog 89 #[v, .int .i64 x] w1 fun e w' => ∃ v', e = .returned v' ∧ Own w1.heap.size 5 w' v' (put32 (wire to) x) ∧ Below w1.heap.size w1 w' from fun w1 B v ho => specPut32_any x ho (by omega))
 have hR := hide (show ∀ (w1 : World) (B : Nat) (v : Value), Own B 5 w1 v (put32 (wire to) x) → Calls Tryz.prog 89 #[v, .int .i64 y] w1 fun e w' => ∃ v', e = .returned v' ∧ Own w1.heap.size 5 w' v' (put32 (put32 (wire to) x) y) ∧ Below w1.heap.size w1 w' from fun w1 B v ho => specPut32_any y ho (by omega))
 have I0 := hide (hi.below b0)
 clear h hi hw hw2
 generalize put32 (put32 (wire to) x) y = G3 at *
 generalize put32 (wire to) x = G2 at *
 generalize wire to = G1 at *
 go_enter Tryz.func70, Tryz.ntmps70
 go_wp2_with fail
 generalize w.alloc (.cells #[.slice na nm.length nc, .int .i64 6, .int .i64 tt, .int .i64 ad, .slice ta to.length tc, .slice xa tx.length xc, .slice ia 2 ic] 56) = W at *
 have bd := below_drew (w := W)
 have KD := hide (block_kept bd (unhide K0))
 have ID := hide ((unhide I0).below bd)
 have bb := below_next b0 bd
 obtain ⟨g, off, cp, hv, hg, n0, n1⟩ := (unhide ID).two
 simp only [Value.slice.injEq] at hv
 obtain ⟨rfl, _, rfl⟩ := hv
 have N0 := hide n0
 have N1 := hide n1
 have zW : W.drew.heap.size = W.heap.size := rfl
 clear n0 n1 bd K0
 go_region_held3 (fun w' => w'.cell? ⟨w.heap.size, 4, none⟩ = some (.slice ta to.length tc) ∧ w'.cell? ⟨w.heap.size, 6, none⟩ = some (.slice (some ⟨g, off, none⟩) 2 ic) ∧ w'.cell? ⟨g, off, none⟩ = some (.int .i64 x) ∧ w'.cell? ⟨g, off + 1, none⟩ = some (.int .i64 y))
  (first
  | exact ⟨(cells7 (unhide KD)).2.2.2.2.1, (cells7 (unhide KD)).2.2.2.2.2.2, unhide N0, unhide N1⟩
  | exact ⟨(cells7 (block_kept b1 (unhide KD))).2.2.2.2.1, (cells7 (block_kept b1 (unhide KD))).2.2.2.2.2.2, (b1.cell hg).trans (unhide N0), (b1.cell hg).trans (unhide N1)⟩
  | exact ⟨(cells7 (block_kept q2 (unhide KD))).2.2.2.2.1, (cells7 (block_kept q2 (unhide KD))).2.2.2.2.2.2, (q2.cell hg).trans (unhide N0), (q2.cell hg).trans (unhide N1)⟩
  | exact ⟨(cells7 (block_kept q3 (unhide KD))).2.2.2.2.1, (cells7 (block_kept q3 (unhide KD))).2.2.2.2.2.2, (q3.cell hg).trans (unhide N0), (q3.cell hg).trans (unhide N1)⟩)
  (first
  | (go_at_call 90; refine (unhide hN _ bb).mono ?_; rintro e w1 ⟨v1, rfl, o1, b1⟩)
  | (go_at_call 89; refine (unhide hQ _ _ _ o1).mono ?_; rintro e w2 ⟨v2, rfl, o2, b2⟩; have q2 := below_next b1 b2; clear o1)
  | (go_at_call 89; refine (unhide hR _ _ _ o2).mono ?_; rintro e w3 ⟨v3, rfl, o3, b3⟩; have q3 := below_next q2 b3; clear o2))
 go_wp2_with fail
 go_ret
 exact ⟨v3, rfl, o3.mono (by have h1 := bb.size; have h2 := q2.size; omega), below_next bb q3⟩

theorem l3put_has {vn vt vx vi : Value} {r : Rec} {w : World} (h : HasR w vn vt vx vi r) (hok : rrOk r = true) :
  Calls Tryz.prog 70 #[.agg #[vn, .int .i64 r.type, .int .i64 r.ttl, .int .i64 r.addr, vt, vx, vi]] w fun e w' => ∃ v', e = .returned v' ∧ Own w.heap.size 5 w' v' (dataB r) ∧ Below w.heap.size w w' := by
 obtain ⟨_, ht, _, _, hd⟩ := rrOk_parts hok
 obtain ⟨na, nc, rfl, _⟩ := h.name.form
 obtain ⟨ta, tc, rfl, _⟩ := h.to.form
 obtain ⟨xa, xc, rfl, _⟩ := h.text.form
 obtain ⟨ia, ic, rfl, _⟩ := h.nums.form
 rcases data_kinds ht hd with ⟨e, h0, h1, eb⟩ | ⟨e, hn, eb⟩ | ⟨e, hn, x, y, exy, _, _, _, _, eb⟩ | ⟨e, hx, eb⟩
 ·rw [eb, e]; exact l3put_A h0 h1
 ·rw [eb]; exact l3put_N e h.to hn
 ·have hi := h.nums
  rw [exy] at hi ⊢
  rw [eb, e]
  exact l3put_S h.to hi hn
 ·rw [eb]; exact l3put_X e h.text hx
end Go.Proofs.YtpolekinfobecaaGreat

namespace Go.Proofs.YtpolekinfobecaaGreat
open Go.RowKit

theorem conv_has {v : Value} {l : List Int} {w : World} (h : Has w v l) : (convert 53 9 v).run Tryz.prog w = .ok (.string (strOfNums l)) w := by
 rcases h with ⟨rfl, rfl⟩ | ⟨g, off, cap, rfl, _, _, _, hc⟩
 ·exact run_convert_bytes_nil w 53 5 Tryz.underlying53 Tryz.underlying5 0 0 9 Tryz.underlying9
 ·exact run_convert_bytes_arg w 53 5 Tryz.underlying53 Tryz.underlying5 g off l.length cap l rfl hc 9 Tryz.underlying9
end Go.Proofs.YtpolekinfobecaaGreat

namespace Go.Proofs.YtpolekinfobecaaGreat
open Go.RowKit
set_option linter.unusedVariables false

set_option maxHeartbeats 400000 in
set_option maxRecDepth 100000 in
theorem l2bytes_has {v v' : Value} {l l' : List Int} {w : World} (h : Has w v l) (h' : Has w v' l') :
  Calls Tryz.prog 47 #[v, v'] w fun e w' => e = .returned (.int .i64 (cmpB l l')) ∧ w = w' := by
 have hc := conv_has h
 have hc' := conv_has h'
 have hlt := str_less l l'
 have heq := str_same l l'
 clear h h'
 rcases cmpB_cases l l' with e | e | e
 ·rw [e] at hlt heq ⊢
  simp only [decide_true] at hlt
  clear heq e
  go_enter Tryz.func47, Tryz.ntmps47
  go_wp2
  go_ret
  exact ⟨rfl, rfl⟩
 ·rw [e] at hlt heq ⊢
  simp only [decide_true] at heq
  rw [decide_eq_false (by omega)] at hlt
  clear e
  go_enter Tryz.func47, Tryz.ntmps47
  go_wp2
  go_ret
  exact ⟨rfl, rfl⟩
 ·rw [e] at hlt heq ⊢
  rw [decide_eq_false (by omega)] at hlt heq
  clear e
  go_enter Tryz.func47, Tryz.ntmps47
  go_wp2
  go_ret
  exact ⟨rfl, rfl⟩

theorem l2bytes_quiet {v v' : Value} {l l' : List Int} {w : World} (h : Has w v l) (h' : Has w v' l') (n : Nat) :
  Calls Tryz.prog 47 #[v, v'] (w.drewN n) fun e w'' => e = .returned (.int .i64 (cmpB l l')) ∧ ∃ m, w'' = w.drewN m :=
 (l2bytes_has (h.below (below_draws n)) (h'.below (below_draws n))).mono fun e w' ⟨he, hw⟩ => ⟨he, n, hw.symm⟩

set_option maxHeartbeats 1000000 in
set_option maxRecDepth 100000 in
theorem l2cmp_has {v v' : Value} {n n' : List (List Int)} {w : World} (h : HasL w v n) (h' : HasL w v' n') (hs : n.length ≤ 1048576) (hs' : n'.length ≤ 1048576) :
  Calls Tryz.prog 25 #[.agg #[v], .agg #[v']] w fun e w' => e = .returned (.int .i64 (cmpN n n')) ∧ Below w.heap.size w w' := by
 obtain ⟨a, cap, rfl, hl, hm⟩ := h.form
 obtain ⟨a', cap', rfl, hl', hm'⟩ := h'.form
 unfold maxLen at hm hm'
 have HIT := hide (fun (k : Nat) => cmpN_hit (a := n) (b := n') (k := k))
 have NON := hide (fun (k : Nat) => cmpN_none (a := n) (b := n') (k := k))
 have HAT := hide (atEnd_eq n n')
 generalize hR : cmpN n n' = R at *
 clear hR
 generalize hC : atEnd n n' = C at *
 clear hC
 have b1 := below_alloc (w := w) (.cells #[.slice a n.length cap] 44)
 have k1 := heap_alloc_new w (.cells #[.slice a n.length cap] 44)
 have e1 : (w.alloc (.cells #[.slice a n.length cap] 44)).heap.size = w.heap.size + 1 := by show (w.heap.push _).size = _; simp
 have b2 := below_alloc (w := w.alloc (.cells #[.slice a n.length cap] 44)) (.cells #[.slice a' n'.length cap'] 44)
 have x2 := heap_alloc_new (w.alloc (.cells #[.slice a n.length cap] 44)) (.cells #[.slice a' n'.length cap'] 44)
 have k2 := block_kept b2 k1
 rw [e1] at x2
 have bb2 := below_next b1 b2
 have h2 := hide (h.below bb2)
 have h2' := hide (h'.below bb2)
 have HH := hide h
 have HH' := hide h'
 clear h h' b1 b2 k1 e1
 generalize hn : n.length = m at *
 have HN := hide hn
 clear hn
 generalize hn' : n'.length = m' at *
 have HN' := hide hn'
 clear hn'
 go_enter Tryz.func25, Tryz.ntmps25
 go_wp2
 generalize (w.alloc (.cells #[.slice a m cap] 44)).alloc (.cells #[.slice a' m' cap'] 44) = W at *
 go_loopw [5] (fun i wr => ∃ k : Nat, 1 ≤ k ∧ k ≤ m + 1 ∧ k ≤ m' + 1 ∧ i = .int .i64 k ∧ Hid (∀ j, 1 ≤ j → j < k → C j = 0) ∧ Below W.heap.size W wr) (fun i _ => m + 1 - (intOf i).toNat)
 case atStart => exact ⟨1, Nat.le_refl _, by omega, by omega, rfl, hide (fun j h1 h2 => absurd h2 (by omega)), Below.refl _ _⟩
 case round =>
  obtain ⟨k, hk1, hk2, hk3, rfl, hall, hb⟩ := hrel
  have c1 := block_one (block_kept hb k2)
  have c2 := block_one (block_kept hb x2)
  by_cases hlt : k ≤ m
  ·by_cases hlt' : k ≤ m'
   ·obtain ⟨b, off, u, rfl, hbl, hc, hu⟩ := ((unhide h2).below hb).here (k := m - k) (by rw [unhide HN]; omega)
    obtain ⟨b', off', u', rfl, hbl', hc', hu'⟩ := ((unhide h2').below hb).here (k := m' - k) (by rw [unhide HN']; omega)
    have hat := hide (unhide HAT k)
    have hhit := hide (fun (hz : C k ≠ 0) => unhide HIT k hk1 hlt hlt' (unhide hall) hz)
    have hone := hide (fun (hz : C k = 0) => (show ∀ j, 1 ≤ j → j < k + 1 → C j = 0 from fun j h1 h2 => by
      by_cases e : j = k
      ·subst e; exact hz
      ·exact unhide hall j h1 (by omega)))
    generalize n.getD (m - k) [] = lab at *
    generalize n'.getD (m' - k) [] = lab' at *
    obtain ⟨j, hj⟩ : ∃ j : Nat, m - k = j := ⟨_, rfl⟩
    obtain ⟨j', hj'⟩ : ∃ j' : Nat, m' - k = j' := ⟨_, rfl⟩
    rw [hj] at hc
    rw [hj'] at hc'
    have s1 : (m : Int) - k = j := by omega
    have s2 : (m' : Int) - k = j' := by omega
    have jl : j < m := by omega
    have jl' : j' < m' := by omega
    have wj : IntKind.i64.wrap (j : Int) = j := wrap_small j (by omega)
    have wj' : IntKind.i64.wrap (j' : Int) = j' := wrap_small j' (by omega)
    have HU := hide hu
    have HU' := hide hu'
    obtain ⟨ua, uc, rfl, _⟩ := hu.form
    obtain ⟨ua', uc', rfl, _⟩ := hu'.form
    clear hu hu'
    have i1 : (k : Int) ≤ m := by omega
    have i2 : (k : Int) ≤ m' := by omega
    go_wp2
    go_quiet (first | (exact l2bytes_quiet (unhide HU) (unhide HU') _))
    clear wj wj' s1 s2 hj hj' jl jl' hc hc' c1 c2 i1 i2 hl hl' hm hm'
    have bb := below_next hb (below_draws (w := wr) nq)
    have hcs := cmpB_cases lab lab'
    generalize cmpB lab lab' = c at *
    rcases hcs with rfl | rfl | rfl
    ·have hr := unhide hhit (by rw [unhide hat]; omega)
     rw [unhide hat] at hr
     subst hr
     go_wp2
     go_ret
     exact ⟨rfl, below_next bb2 bb⟩
    ·go_wp2
     exact ⟨⟨k + 1, by omega, by omega, by omega, by go_num, hide (unhide hone (unhide hat)), bb⟩, by simp [intOf]; omega⟩
    ·have hr := unhide hhit (by rw [unhide hat]; omega)
     rw [unhide hat] at hr
     subst hr
     go_wp2
     go_ret
     exact ⟨rfl, below_next bb2 bb⟩
   ·have hr := unhide NON k (.inr (by omega)) (unhide hall)
    unfold byLength at hr
    rw [if_neg (by omega), if_pos (by omega)] at hr
    subst hr
    have i1 : (k : Int) ≤ m := by omega
    have i2 : ¬ (k : Int) ≤ m' := by omega
    have i3 : ((m : Int) == m') = false := by rw [beq_eq_false_iff_ne]; omega
    have i4 : ¬ (m : Int) < m' := by omega
    go_wp2
    go_ret
    exact ⟨rfl, below_next bb2 hb⟩
  ·have i1 : ¬ (k : Int) ≤ m := by omega
   have hr := unhide NON k (.inl (by omega)) (unhide hall)
   unfold byLength at hr
   by_cases he : m = m'
   ·subst he
    rw [if_neg (by omega), if_neg (by omega)] at hr
    subst hr
    go_wp2
    go_ret
    exact ⟨rfl, below_next bb2 hb⟩
   ·rw [if_pos (by omega)] at hr
    subst hr
    have i3 : ((m : Int) == m') = false := by rw [beq_eq_false_iff_ne]; omega
    have i4 : (m : Int) < m' := by omega
    go_wp2
    go_ret
    exact ⟨rfl, below_next bb2 hb⟩

end Go.Proofs.YtpolekinfobecaaGreat
