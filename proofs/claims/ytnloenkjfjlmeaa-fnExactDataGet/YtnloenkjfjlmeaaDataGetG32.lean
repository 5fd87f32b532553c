/-
  Contracts of the specification's l3get, whatever the type, and of its DataGet. Contracts of the name helpers of the laws (markName, heldName): what each answers and what it leaves in memory.
-/
import Derived.Test.YtnloenkjfjlmeaaDataGetG28
import Derived.Test.YtnloenkjfjlmeaaDataGetG30
import Derived.Test.YtnloenkjfjlmeaaDataGetG31
import Derived.Test.YtnloenkjfjlmeaaDataGetG08
import Derived.Test.YtnloenkjfjlmeaaDataGetG02
namespace Go.Proofs.Ytnloenkjfjlmeaa
open Go.RowKit
set_option linter.unusedVariables false

theorem l3get_own {B : Nat} {v : Value} {l : List Int} {t : Int} (p n : Int) {w : World} (ht : typeOk t = true) (h : Own B 5 w v l) (hl : l.length ≤ 512) (hp : p ≤ 9223372036854775807) (hn0 : -70000 ≤ n) (hn1 : n ≤ 70000) (hb : Bytes8 l) :
    Calls Try.prog 85 #[.int .i64 t, v, .int .i64 p, .int .i64 n] w (GivesG w (kindGet t l p).1 (good t l p n)) := by
  rcases type_cases t with rfl | rfl | rfl | rfl | rfl | rfl | rfl | q
  · exact l3get_A p n h hl hp hn0 hn1 hb
  · exact l3get_N p n (by omega) h hl hp hn0 hn1 hb
  · exact l3get_N p n (by omega) h hl hp hn0 hn1 hb
  · exact l3get_S p n h hl hp hn0 hn1 hb
  · exact l3get_N p n (by omega) h hl hp hn0 hn1 hb
  · exact l3get_X p n (by omega) h hl hp hn0 hn1 hb
  · exact l3get_X p n (by omega) h hl hp hn0 hn1 hb
  · rw [q] at ht; cases ht
theorem dataGet_good {t : Int} {l : List Int} {p n : Int} (ht : typeOk t = true) (hl : l.length ≤ 512) (hp : 0 ≤ p) (hn0 : 0 ≤ n) (hn1 : n ≤ 512) :
    dataGet t l p n = if good t l p n = true then ((kindGet t l p).1, true) else (emptyR 0, false) := by
  rw [dataGet_in ht hl hp hn0 hn1]
  unfold good
  by_cases h1 : 0 ≤ (kindGet t l p).2 ∧ (kindGet t l p).2 = p + n
  · rw [decide_eq_true h1, Bool.true_and]
    cases hr : rrOk (kindGet t l p).1 with
    | true => rw [if_neg (by simp; omega), if_pos rfl]
    | false => rw [if_pos (by simp), if_neg (by simp)]
  · rw [decide_eq_false h1, Bool.false_and, if_pos (by omega), if_neg (by simp)]

set_option maxHeartbeats 1000000 in
set_option maxRecDepth 100000 in
theorem specDataGet_no1 {a : Option Addr} {L cap : Nat} (t p n : Int) {w : World} (hty : typeOk t = false) :
    Calls Try.prog 40 #[.int .i64 t, .slice a L cap, .int .i64 p, .int .i64 n] w (GivesR w (emptyR 0) false) := by
  have b0 := below_alloc (w := w) (.cells #[.slice none 0 0, .int .i64 0, .int .i64 0, .int .i64 0, .slice none 0 0, .slice none 0 0, .slice none 0 0] 50)
  have K0 := hide (heap_alloc_new w (.cells #[.slice none 0 0, .int .i64 0, .int .i64 0, .int .i64 0, .slice none 0 0, .slice none 0 0, .slice none 0 0] 50))
  have HT := specTypeOk_any t (w.alloc (.cells #[.slice none 0 0, .int .i64 0, .int .i64 0, .int .i64 0, .slice none 0 0, .slice none 0 0, .slice none 0 0] 50))
  rw [hty] at HT
  replace HT := hide HT
  clear hty
  go_enter Try.func40, Try.ntmps40
  go_wp2_with fail
  generalize w.alloc (.cells #[.slice none 0 0, .int .i64 0, .int .i64 0, .int .i64 0, .slice none 0 0, .slice none 0 0, .slice none 0 0] 50) = W at *
  have zK := block_lt (unhide K0)
  refine (unhide HT).mono ?_
  rintro e w1 ⟨rfl, rfl⟩
  obtain ⟨f0, f1, f2, f3, f4, f5, f6⟩ := cells7 (unhide K0)
  obtain ⟨q0, q1, q2, q3, q4, q5, q6⟩ := frozen7 (unhide K0)
  go_wp2_with fail
  obtain ⟨R9, u9⟩ := set7 (c0 := .slice none 0 0) (c1 := .int .i64 0) (c2 := .int .i64 0) (c3 := .int .i64 0) (c4 := .slice none 0 0) (c5 := .slice none 0 0) (c6 := .slice none 0 0) (unhide K0)
  refine bodyPost_ret (results_cell_tmp_row rfl _ _ w.heap.size 50 #[.slice none 0 0, .int .i64 0, .int .i64 0, .int .i64 0, .slice none 0 0, .slice none 0 0, .slice none 0 0] (0, 0) _ rfl R9 Try.underlying50 rfl (by kernel_rfl)) rfl ?_
  have z9 := u9.size
  exact ⟨_, _, _, _, rfl, ownR_nil (by omega) _ _ _ _ 0, u9.below b0 (by omega)⟩

set_option maxHeartbeats 1000000 in
set_option maxRecDepth 100000 in
theorem specDataGet_no2 {a : Option Addr} {L cap : Nat} (t p n : Int) {w : World} (hty : typeOk t = true) (h : 512 < L) :
    Calls Try.prog 40 #[.int .i64 t, .slice a L cap, .int .i64 p, .int .i64 n] w (GivesR w (emptyR 0) false) := by
  have b0 := below_alloc (w := w) (.cells #[.slice none 0 0, .int .i64 0, .int .i64 0, .int .i64 0, .slice none 0 0, .slice none 0 0, .slice none 0 0] 50)
  have K0 := hide (heap_alloc_new w (.cells #[.slice none 0 0, .int .i64 0, .int .i64 0, .int .i64 0, .slice none 0 0, .slice none 0 0, .slice none 0 0] 50))
  have HT := specTypeOk_any t (w.alloc (.cells #[.slice none 0 0, .int .i64 0, .int .i64 0, .int .i64 0, .slice none 0 0, .slice none 0 0, .slice none 0 0] 50))
  rw [hty] at HT
  replace HT := hide HT
  clear hty
  have h' : (512 : Int) < (L : Int) := by omega
  go_enter Try.func40, Try.ntmps40
  go_wp2_with fail
  generalize w.alloc (.cells #[.slice none 0 0, .int .i64 0, .int .i64 0, .int .i64 0, .slice none 0 0, .slice none 0 0, .slice none 0 0] 50) = W at *
  have zK := block_lt (unhide K0)
  refine (unhide HT).mono ?_
  rintro e w1 ⟨rfl, rfl⟩
  obtain ⟨f0, f1, f2, f3, f4, f5, f6⟩ := cells7 (unhide K0)
  obtain ⟨q0, q1, q2, q3, q4, q5, q6⟩ := frozen7 (unhide K0)
  go_wp2_with fail
  obtain ⟨R9, u9⟩ := set7 (c0 := .slice none 0 0) (c1 := .int .i64 0) (c2 := .int .i64 0) (c3 := .int .i64 0) (c4 := .slice none 0 0) (c5 := .slice none 0 0) (c6 := .slice none 0 0) (unhide K0)
  refine bodyPost_ret (results_cell_tmp_row rfl _ _ w.heap.size 50 #[.slice none 0 0, .int .i64 0, .int .i64 0, .int .i64 0, .slice none 0 0, .slice none 0 0, .slice none 0 0] (0, 0) _ rfl R9 Try.underlying50 rfl (by kernel_rfl)) rfl ?_
  have z9 := u9.size
  exact ⟨_, _, _, _, rfl, ownR_nil (by omega) _ _ _ _ 0, u9.below b0 (by omega)⟩

set_option maxHeartbeats 1000000 in
set_option maxRecDepth 100000 in
theorem specDataGet_no3 {a : Option Addr} {L cap : Nat} (t p n : Int) {w : World} (hty : typeOk t = true) (hL : ¬ 512 < L) (h : p < 0) :
    Calls Try.prog 40 #[.int .i64 t, .slice a L cap, .int .i64 p, .int .i64 n] w (GivesR w (emptyR 0) false) := by
  have b0 := below_alloc (w := w) (.cells #[.slice none 0 0, .int .i64 0, .int .i64 0, .int .i64 0, .slice none 0 0, .slice none 0 0, .slice none 0 0] 50)
  have K0 := hide (heap_alloc_new w (.cells #[.slice none 0 0, .int .i64 0, .int .i64 0, .int .i64 0, .slice none 0 0, .slice none 0 0, .slice none 0 0] 50))
  have HT := specTypeOk_any t (w.alloc (.cells #[.slice none 0 0, .int .i64 0, .int .i64 0, .int .i64 0, .slice none 0 0, .slice none 0 0, .slice none 0 0] 50))
  rw [hty] at HT
  replace HT := hide HT
  clear hty
  have h' : ¬ (512 : Int) < (L : Int) := by omega
  go_enter Try.func40, Try.ntmps40
  go_wp2_with fail
  generalize w.alloc (.cells #[.slice none 0 0, .int .i64 0, .int .i64 0, .int .i64 0, .slice none 0 0, .slice none 0 0, .slice none 0 0] 50) = W at *
  have zK := block_lt (unhide K0)
  refine (unhide HT).mono ?_
  rintro e w1 ⟨rfl, rfl⟩
  obtain ⟨f0, f1, f2, f3, f4, f5, f6⟩ := cells7 (unhide K0)
  obtain ⟨q0, q1, q2, q3, q4, q5, q6⟩ := frozen7 (unhide K0)
  go_wp2_with fail
  obtain ⟨R9, u9⟩ := set7 (c0 := .slice none 0 0) (c1 := .int .i64 0) (c2 := .int .i64 0) (c3 := .int .i64 0) (c4 := .slice none 0 0) (c5 := .slice none 0 0) (c6 := .slice none 0 0) (unhide K0)
  refine bodyPost_ret (results_cell_tmp_row rfl _ _ w.heap.size 50 #[.slice none 0 0, .int .i64 0, .int .i64 0, .int .i64 0, .slice none 0 0, .slice none 0 0, .slice none 0 0] (0, 0) _ rfl R9 Try.underlying50 rfl (by kernel_rfl)) rfl ?_
  have z9 := u9.size
  exact ⟨_, _, _, _, rfl, ownR_nil (by omega) _ _ _ _ 0, u9.below b0 (by omega)⟩

set_option maxHeartbeats 1000000 in
set_option maxRecDepth 100000 in
theorem specDataGet_no4 {a : Option Addr} {L cap : Nat} (t p n : Int) {w : World} (hty : typeOk t = true) (hL : ¬ 512 < L) (hp : ¬ p < 0) (h : n < 0) :
    Calls Try.prog 40 #[.int .i64 t, .slice a L cap, .int .i64 p, .int .i64 n] w (GivesR w (emptyR 0) false) := by
  have b0 := below_alloc (w := w) (.cells #[.slice none 0 0, .int .i64 0, .int .i64 0, .int .i64 0, .slice none 0 0, .slice none 0 0, .slice none 0 0] 50)
  have K0 := hide (heap_alloc_new w (.cells #[.slice none 0 0, .int .i64 0, .int .i64 0, .int .i64 0, .slice none 0 0, .slice none 0 0, .slice none 0 0] 50))
  have HT := specTypeOk_any t (w.alloc (.cells #[.slice none 0 0, .int .i64 0, .int .i64 0, .int .i64 0, .slice none 0 0, .slice none 0 0, .slice none 0 0] 50))
  rw [hty] at HT
  replace HT := hide HT
  clear hty
  have h' : ¬ (512 : Int) < (L : Int) := by omega
  go_enter Try.func40, Try.ntmps40
  go_wp2_with fail
  generalize w.alloc (.cells #[.slice none 0 0, .int .i64 0, .int .i64 0, .int .i64 0, .slice none 0 0, .slice none 0 0, .slice none 0 0] 50) = W at *
  have zK := block_lt (unhide K0)
  refine (unhide HT).mono ?_
  rintro e w1 ⟨rfl, rfl⟩
  obtain ⟨f0, f1, f2, f3, f4, f5, f6⟩ := cells7 (unhide K0)
  obtain ⟨q0, q1, q2, q3, q4, q5, q6⟩ := frozen7 (unhide K0)
  go_wp2_with fail
  obtain ⟨R9, u9⟩ := set7 (c0 := .slice none 0 0) (c1 := .int .i64 0) (c2 := .int .i64 0) (c3 := .int .i64 0) (c4 := .slice none 0 0) (c5 := .slice none 0 0) (c6 := .slice none 0 0) (unhide K0)
  refine bodyPost_ret (results_cell_tmp_row rfl _ _ w.heap.size 50 #[.slice none 0 0, .int .i64 0, .int .i64 0, .int .i64 0, .slice none 0 0, .slice none 0 0, .slice none 0 0] (0, 0) _ rfl R9 Try.underlying50 rfl (by kernel_rfl)) rfl ?_
  have z9 := u9.size
  exact ⟨_, _, _, _, rfl, ownR_nil (by omega) _ _ _ _ 0, u9.below b0 (by omega)⟩

set_option maxHeartbeats 1000000 in
set_option maxRecDepth 100000 in
theorem specDataGet_no5 {a : Option Addr} {L cap : Nat} (t p n : Int) {w : World} (hty : typeOk t = true) (hL : ¬ 512 < L) (hp : ¬ p < 0) (hn : ¬ n < 0) (h : 512 < n) :
    Calls Try.prog 40 #[.int .i64 t, .slice a L cap, .int .i64 p, .int .i64 n] w (GivesR w (emptyR 0) false) := by
  have b0 := below_alloc (w := w) (.cells #[.slice none 0 0, .int .i64 0, .int .i64 0, .int .i64 0, .slice none 0 0, .slice none 0 0, .slice none 0 0] 50)
  have K0 := hide (heap_alloc_new w (.cells #[.slice none 0 0, .int .i64 0, .int .i64 0, .int .i64 0, .slice none 0 0, .slice none 0 0, .slice none 0 0] 50))
  have HT := specTypeOk_any t (w.alloc (.cells #[.slice none 0 0, .int .i64 0, .int .i64 0, .int .i64 0, .slice none 0 0, .slice none 0 0, .slice none 0 0] 50))
  rw [hty] at HT
  replace HT := hide HT
  clear hty
  have h' : ¬ (512 : Int) < (L : Int) := by omega
  go_enter Try.func40, Try.ntmps40
  go_wp2_with fail
  generalize w.alloc (.cells #[.slice none 0 0, .int .i64 0, .int .i64 0, .int .i64 0, .slice none 0 0, .slice none 0 0, .slice none 0 0] 50) = W at *
  have zK := block_lt (unhide K0)
  refine (unhide HT).mono ?_
  rintro e w1 ⟨rfl, rfl⟩
  obtain ⟨f0, f1, f2, f3, f4, f5, f6⟩ := cells7 (unhide K0)
  obtain ⟨q0, q1, q2, q3, q4, q5, q6⟩ := frozen7 (unhide K0)
  go_wp2_with fail
  obtain ⟨R9, u9⟩ := set7 (c0 := .slice none 0 0) (c1 := .int .i64 0) (c2 := .int .i64 0) (c3 := .int .i64 0) (c4 := .slice none 0 0) (c5 := .slice none 0 0) (c6 := .slice none 0 0) (unhide K0)
  refine bodyPost_ret (results_cell_tmp_row rfl _ _ w.heap.size 50 #[.slice none 0 0, .int .i64 0, .int .i64 0, .int .i64 0, .slice none 0 0, .slice none 0 0, .slice none 0 0] (0, 0) _ rfl R9 Try.underlying50 rfl (by kernel_rfl)) rfl ?_
  have z9 := u9.size
  exact ⟨_, _, _, _, rfl, ownR_nil (by omega) _ _ _ _ 0, u9.below b0 (by omega)⟩

set_option maxHeartbeats 1000000 in
set_option maxRecDepth 100000 in
theorem specDataGet_in {B : Nat} {v : Value} {l : List Int} {t : Int} (p n : Int) {w : World} (hty : typeOk t = true) (h : Own B 5 w v l) (hl : l.length ≤ 512) (hp0 : 0 ≤ p) (hp : p ≤ 9223372036854775807) (hn0 : 0 ≤ n) (hn1 : n ≤ 512) (hb : Bytes8 l) :
    Calls Try.prog 40 #[.int .i64 t, v, .int .i64 p, .int .i64 n] w (GivesR w (dataGet t l p n).1 (dataGet t l p n).2) := by
  rw [dataGet_good hty hl hp0 hn0 hn1]
  have HG := hide (l3get_own p n hty (h.below (below_alloc (w := w) (.cells #[.slice none 0 0, .int .i64 0, .int .i64 0, .int .i64 0, .slice none 0 0, .slice none 0 0, .slice none 0 0] 50))) hl hp (by omega) (by omega) hb)
  have b0 := below_alloc (w := w) (.cells #[.slice none 0 0, .int .i64 0, .int .i64 0, .int .i64 0, .slice none 0 0, .slice none 0 0, .slice none 0 0] 50)
  have K0 := hide (heap_alloc_new w (.cells #[.slice none 0 0, .int .i64 0, .int .i64 0, .int .i64 0, .slice none 0 0, .slice none 0 0, .slice none 0 0] 50))
  have HT := specTypeOk_any t (w.alloc (.cells #[.slice none 0 0, .int .i64 0, .int .i64 0, .int .i64 0, .slice none 0 0, .slice none 0 0, .slice none 0 0] 50))
  rw [hty] at HT
  replace HT := hide HT
  clear hty
  obtain ⟨a, cap, rfl, _⟩ := h.lies
  clear h hb
  generalize (kindGet t l p).1 = rec at *
  generalize good t l p n = G at *
  generalize hRes : (if G = true then (rec, true) else (emptyR 0, false)) = Res
  have HRES := hide hRes
  clear hRes
  have hll : ¬ (512 : Int) < (l.length : Int) := by omega
  have hp0' : ¬ p < 0 := by omega
  have hn0' : ¬ n < 0 := by omega
  have hn1' : ¬ 512 < n := by omega
  generalize hLN : l.length = L at *
  clear hLN
  go_enter Try.func40, Try.ntmps40
  go_wp2_with fail
  generalize w.alloc (.cells #[.slice none 0 0, .int .i64 0, .int .i64 0, .int .i64 0, .slice none 0 0, .slice none 0 0, .slice none 0 0] 50) = W at *
  have zK := block_lt (unhide K0)
  refine (unhide HT).mono ?_
  rintro e w1 ⟨rfl, rfl⟩
  go_wp2_with fail
  refine (unhide HG).mono ?_
  rintro e w1 ⟨r, ⟨vn, vt, vx, vi, rfl, o1, b1⟩, hr⟩
  obtain ⟨na, nc, rfl, _⟩ := o1.hasR.name.form
  obtain ⟨ta, tc, rfl, _⟩ := o1.hasR.to.form
  obtain ⟨xa, xc, rfl, _⟩ := o1.hasR.text.form
  obtain ⟨ia, ic, rfl, _⟩ := o1.hasR.nums.form
  have b2 := below_alloc (w := w1) (.cells #[.slice na r.name.length nc, .int .i64 r.type, .int .i64 r.ttl, .int .i64 r.addr, .slice ta r.to.length tc, .slice xa r.text.length xc, .slice ia r.nums.length ic] 50)
  have V2 := hide (heap_alloc_new w1 (.cells #[.slice na r.name.length nc, .int .i64 r.type, .int .i64 r.ttl, .int .i64 r.addr, .slice ta r.to.length tc, .slice xa r.text.length xc, .slice ia r.nums.length ic] 50))
  have K2 := hide (block_kept b2 (block_kept b1 (unhide K0)))
  have O2 := hide (o1.below b2)
  have bb2 := below_next (below_next b0 b1) b2
  have z0 := b0.size
  have z1 := b1.size
  have z2 := b2.size
  clear HG HT K0 b0 b1 b2 o1
  cases G with
  | false =>
    have hRes := unhide HRES
    rw [if_neg (by simp)] at hRes
    subst hRes
    clear HRES hr
    obtain ⟨f0, f1, f2, f3, f4, f5, f6⟩ := cells7 (unhide K2)
    obtain ⟨q0, q1, q2, q3, q4, q5, q6⟩ := frozen7 (unhide K2)
    go_wp2_with fail
    obtain ⟨R9, u9⟩ := set7 (c0 := .slice none 0 0) (c1 := .int .i64 0) (c2 := .int .i64 0) (c3 := .int .i64 0) (c4 := .slice none 0 0) (c5 := .slice none 0 0) (c6 := .slice none 0 0) (unhide K2)
    refine bodyPost_ret (results_cell_tmp_row rfl _ _ w.heap.size 50 #[.slice none 0 0, .int .i64 0, .int .i64 0, .int .i64 0, .slice none 0 0, .slice none 0 0, .slice none 0 0] (0, 0) _ rfl R9 Try.underlying50 rfl (by kernel_rfl)) rfl ?_
    have z9 := u9.size
    exact ⟨_, _, _, _, rfl, ownR_nil (by omega) _ _ _ _ 0, u9.below bb2 (by omega)⟩
  | true =>
    have hRes := unhide HRES
    rw [if_pos rfl] at hRes
    obtain rfl := hr rfl
    subst hRes
    clear HRES hr
    have zv := block_lt (unhide V2)
    obtain ⟨d0, d1, d2, d3, d4, d5, d6⟩ := cells7 (unhide V2)
    obtain ⟨f0, f1, f2, f3, f4, f5, f6⟩ := cells7 (unhide K2)
    obtain ⟨q0, q1, q2, q3, q4, q5, q6⟩ := frozen7 (unhide K2)
    go_wp2_with fail
    generalize w1.alloc (.cells #[.slice na r.name.length nc, .int .i64 r.type, .int .i64 r.ttl, .int .i64 r.addr, .slice ta r.to.length tc, .slice xa r.text.length xc, .slice ia r.nums.length ic] 50) = w2 at *
    obtain ⟨R9, u9⟩ := set7 (c0 := .slice na r.name.length nc) (c1 := .int .i64 r.type) (c2 := .int .i64 r.ttl) (c3 := .int .i64 r.addr) (c4 := .slice ta r.to.length tc) (c5 := .slice xa r.text.length xc) (c6 := .slice ia r.nums.length ic) (unhide K2)
    refine bodyPost_ret (results_cell_tmp_row rfl _ _ w.heap.size 50 #[.slice na r.name.length nc, .int .i64 r.type, .int .i64 r.ttl, .int .i64 r.addr, .slice ta r.to.length tc, .slice xa r.text.length xc, .slice ia r.nums.length ic] (0, 0) _ rfl R9 Try.underlying50 rfl (by kernel_rfl)) rfl ?_
    have z9 := u9.size
    exact ⟨_, _, _, _, rfl, ((unhide O2).outside u9 (by omega)).wide (by omega) (by omega), u9.below bb2 (by omega)⟩

theorem specDataGet_own {B : Nat} {v : Value} {l : List Int} (t p n : Int) {w : World} (h : Own B 5 w v l) (hp : p ≤ 9223372036854775807) (hb : Bytes8 l) :
    Calls Try.prog 40 #[.int .i64 t, v, .int .i64 p, .int .i64 n] w (GivesR w (dataGet t l p n).1 (dataGet t l p n).2) := by
  by_cases hc : typeOk t = false ∨ 512 < l.length ∨ p < 0 ∨ n < 0 ∨ 512 < n
  · rw [dataGet_out hc]
    obtain ⟨a, cap, rfl, _⟩ := h.lies
    cases ht : typeOk t with
    | false => exact specDataGet_no1 t p n ht
    | true =>
      by_cases h1 : 512 < l.length
      · exact specDataGet_no2 t p n ht h1
      by_cases h2 : p < 0
      · exact specDataGet_no3 t p n ht h1 h2
      by_cases h3 : n < 0
      · exact specDataGet_no4 t p n ht h1 h2 h3
      · exact specDataGet_no5 t p n ht h1 h2 h3 (by rcases hc with q | q | q | q | q <;> first | (rw [ht] at q; cases q) | omega)
  · have ht : typeOk t = true := by cases q : typeOk t with
      | true => rfl
      | false => exact absurd (.inl q) hc
    exact specDataGet_in p n ht h (by omega) (by omega) hp (by omega) (by omega) hb
end Go.Proofs.Ytnloenkjfjlmeaa

namespace Go.Proofs.Ytnloenkjfjlmeaa
open Go.RowKit
set_option linter.unusedVariables false

set_option maxHeartbeats 800000 in
set_option maxRecDepth 100000 in
theorem markByteSS_any {B E : Nat} {v : Value} {n : List (List Int)} (k0 : Int) {w : World} (h : OwnN B E 22 5 w v n) (hl : n.length ≤ 1048576) (hl2 : ∀ i, i < n.length → (n.getD i []).length ≤ 1048576) (hk0 : 0 ≤ k0) (hk1 : k0 ≤ 1152921504606846976) :
    Calls Try.prog 83 #[v, .int .i64 k0] w fun e w' => e = .returned (.int .i64 (pos n k0 n.length)) ∧ OwnN B E 22 5 w' v (markL n k0) ∧ Outside B E w w' := by
  obtain ⟨a, cap, rfl, hcl, hcm⟩ := h.ownL.hasL.form
  unfold maxLen at hcm
  obtain ⟨vs, ho, hu, hd, hv, he⟩ := h
  have hP := hide (fun j (hj : j ≤ n.length) => (show k0 ≤ pos n k0 j ∧ pos n k0 j ≤ 2305843009213693952 from by
    have := pos_le n k0 1048576 hl2 j hj
    have : j * 1048576 ≤ 1048576 * 1048576 := Nat.mul_le_mul_right _ (by omega)
    omega))
  have hPS := hide (pos_succ n k0)
  have hP0 := hide (pos_zero n k0)
  have hMG := hide (markL_getD n k0)
  have hML := hide (markL_length n k0)
  have HU := hide hu
  have HD := hide hd
  have HE := hide he
  have HV := hide hv
  have HO := hide ho
  have HL2 := hide hl2
  have hvl : vs.length = n.length := by have := ho.1; simpa using this
  clear hu hd he hv ho hl2
  generalize pos n k0 = P at *
  generalize markL n k0 = M at *
  generalize hn : n.length = m at *
  have HN := hide hn
  clear hn
  go_enter Try.func83, Try.ntmps83
  go_wp2
  go_loopw [1, 5] (fun kk i wr => ∃ k : Nat, k ≤ m ∧ i = .int .i64 k ∧ kk = .int .i64 (P k) ∧ Outside B E w wr ∧ wr.ownsRow B 22 1 (.slice a m cap) m vs ∧ Hid (∀ j, j < m → ∃ u, vs[j]? = some u ∧ Own B 5 wr u (if j < k then M.getD j [] else n.getD j []))) (fun _ i _ => m - (intOf i).toNat)
  case atStart => exact ⟨0, Nat.zero_le _, rfl, by rw [unhide hP0], Outside.refl _ _ _, unhide HO, hide (fun j hj => by obtain ⟨u, h1, h2⟩ := unhide HU j hj; exact ⟨u, h1, by simpa using h2⟩)⟩
  case round =>
    obtain ⟨k, hk, rfl, rfl, hout, hrow, hall⟩ := hrel
    by_cases hlt : k < m
    · obtain ⟨u, hu1, hu2⟩ := unhide hall k hlt
      simp only [Nat.lt_irrefl, if_false] at hu2
      have hlk := unhide HL2 k hlt
      have hpk := unhide hP k (by omega)
      have hps := unhide hPS k hlt
      have hmg := unhide hMG k hlt
      have hcell : ∃ g, a = some ⟨g, 0, none⟩ := by
        rcases hrow.2 with ⟨hv, h0⟩ | ⟨g, cap', cur, hv, _⟩
        · omega
        · simp only [Value.slice.injEq] at hv; exact ⟨g, hv.1⟩
      obtain ⟨g, rfl⟩ := hcell
      have hc := World.ownsRow.cellAt hrow k (by omega)
      rw [hu1] at hc
      have hgl := (World.ownsRow.lt hrow g rfl)
      have hue := unhide HE k u
      have hude := hide hue
      clear hue
      generalize n.getD k [] = lab at *
      have HU2 := hide hu2
      have hur : ∃ ua uc, u = .slice ua lab.length uc := by obtain ⟨ua, uc, e, _⟩ := hu2.lies; exact ⟨ua, uc, e⟩
      clear hu2
      obtain ⟨ua, uc, rfl⟩ := hur
      have HR := hide hrow
      clear hrow
      go_wp2_with fail
      refine (markByteS_any (P k) (unhide HU2) (by omega) (by omega) (by omega)).mono ?_
      rintro e w1 ⟨rfl, o1, g1⟩
      go_wp2_with fail
      have hrange : ∀ q, (Value.slice ua lab.length uc).ownBlock = some q → B ≤ q ∧ q < E := fun q hq => ⟨((unhide HU2).lt q hq).1, unhide hude q hu1 hq⟩
      have hner : ∀ q, (Value.slice ua lab.length uc).ownBlock = some q → q ≠ g := by
        intro q hq e
        subst e
        rcases (unhide HU2).2 with ⟨h1, _⟩ | ⟨g', c', cur, h1, _, h2, _⟩
        · rw [h1] at hq; simp [Value.ownBlock] at hq
        · rw [h1] at hq
          simp [Value.ownBlock] at hq
          subst hq
          rcases (unhide HR).2 with ⟨h3, _⟩ | ⟨g3, c3, cur3, h3, _, h4, _⟩
          · simp at h3
          · simp only [Value.slice.injEq, Option.some.injEq, Addr.mk.injEq] at h3
            obtain ⟨⟨h5, _⟩, _⟩ := h3
            subst h5
            rw [h2] at h4
            simp at h4
      refine ⟨⟨k + 1, by omega, by go_num, by rw [hps], hout.trans (outside_grown g1 hrange), World.ownsRow.kept (unhide HR) g1 (.inr (fun e => hner g e.symm rfl)), hide ?_⟩, by simp [intOf]; omega⟩
      intro j hj
      by_cases e : j = k
      · subst e
        refine ⟨_, hu1, ?_⟩
        rw [if_pos (by omega), hmg]
        exact o1
      · obtain ⟨u', h1, h2⟩ := unhide hall j hj
        have : j < k + 1 ↔ j < k := by omega
        rw [show (if j < k + 1 then M.getD j [] else n.getD j []) = (if j < k then M.getD j [] else n.getD j []) by simp [this]]
        refine ⟨u', h1, h2.kept g1 ?_⟩
        rcases Nat.lt_or_gt_of_ne e with e1 | e1
        · exact unhide HD j k u' _ e1 h1 hu1
        · rcases unhide HD k j _ u' e1 hu1 h1 with e2 | e2
          · cases hq : u'.ownBlock with
            | none => exact .inl rfl
            | some q => right; rw [e2]; simp
          · exact .inr (fun e3 => e2 e3.symm)
    · obtain rfl : k = m := by omega
      go_wp2_with fail
      go_ret
      have hMk := unhide hML
      refine ⟨rfl, ⟨vs, by rw [hMk]; exact hrow, fun i hi => ?_, unhide HD, unhide HV, unhide HE⟩, hout⟩
      rw [hMk] at hi
      obtain ⟨u, h1, h2⟩ := unhide hall i hi
      rw [if_pos hi] at h2
      exact ⟨u, h1, h2⟩

set_option maxHeartbeats 400000 in
set_option maxRecDepth 100000 in
theorem markName_any {B E : Nat} {v : Value} {n : List (List Int)} (k0 : Int) {w : World} (h : OwnN B E 22 5 w v n) (hl : n.length ≤ 1048576) (hl2 : ∀ i, i < n.length → (n.getD i []).length ≤ 1048576) (hk0 : 0 ≤ k0) (hk1 : k0 ≤ 1152921504606846976) :
    Calls Try.prog 38 #[.agg #[v], .int .i64 k0] w fun e w' => e = .returned (.int .i64 (pos n k0 n.length)) ∧ OwnN B E 22 5 w' v (markL n k0) ∧ Outside B E w w' := by
  have hc := hide (markByteSS_any k0 (h.below (below_alloc (.cells #[v] 25))) hl hl2 hk0 hk1)
  obtain ⟨a, cap, rfl, _⟩ := h.ownL.hasL.form
  have HL2 := hide hl2
  clear h hl2
  generalize pos n k0 n.length = P at *
  go_enter Try.func38, Try.ntmps38
  go_wp2_with fail
  refine (unhide hc).mono ?_
  rintro e w1 ⟨rfl, o1, x1⟩
  go_wp2_with fail
  go_ret
  exact ⟨rfl, o1, (Below.outside (below_alloc _)).trans x1⟩
end Go.Proofs.Ytnloenkjfjlmeaa
