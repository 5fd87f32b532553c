/-
  Contracts of the specification's l11end, l11sent and l11lost. Contracts of the specification's LabelOk. Contracts of the specification's NameOk.
-/
import Derived.Test.YtjgfljndeolmoaaGreatLostG18
import Derived.IntWalk
import Derived.Test.YtjgfljndeolmoaaGreatLostG09
import Derived.Test.YtjgfljndeolmoaaGreatLostG01
namespace Go.Proofs.YtjgfljndeolmoaaGreat
open Go.RowKit
set_option linter.unusedVariables false

set_option maxHeartbeats 1000000 in
set_option maxRecDepth 100000 in
theorem l11end_has {b : Nat} {c0 c1 c2 c3 c4 c5 c6 c7 c8 c9 c10 c11 c12 : Value} {w : World} (h : w.heap[b]? = some (.cells #[c0, c1, c2, c3, c4, c5, c6, c7, c8, c9, c10, c11, c12] 61)) :
  Calls Tryz.prog 129 #[.pointer (some ⟨b, 0, none⟩), .int .i64 2] w fun e w' => (∃ v, e = .returned v) ∧ w'.heap[b]? = some (.cells #[.int .i64 1, c1, c2, c3, c4, c5, c6, c7, c8, c9, c10, .int .i64 2, .slice none 0 0] 61) ∧ Outside b (b + 1) w w' := by
 obtain ⟨d0, d1, d2, d3, d4, d5, d6, d7, d8, d9, d10, d11, d12⟩ := cells13 h
 obtain ⟨g0, g1, g2, g3, g4, g5, g6, g7, g8, g9, g10, g11, g12⟩ := frozen13 h
 have H := hide h
 clear h
 go_enter Tryz.func129, Tryz.ntmps129
 go_wp2_with fail
 clear d0 d1 d2 d3 d4 d5 d6 d7 d8 d9 d10 d11 d12 g0 g1 g2 g3 g4 g5 g6 g7 g8 g9 g10 g11 g12
 go_end0
 exact ⟨⟨_, rfl⟩, block_setAt (block_setAt (block_setAt (unhide H) 0 _) 11 _) 12 _, ((outside_set w b 0 _).trans (outside_set _ b 11 _)).trans (outside_set _ b 12 _)⟩

set_option maxHeartbeats 1000000 in
set_option maxRecDepth 100000 in
theorem l11sent_on {b : Nat} {s : Int} {c0 c1 c2 c3 c4 c5 c6 c7 c8 c10 c11 c12 : Value} {w : World} (h : w.heap[b]? = some (.cells #[c0, c1, c2, c3, c4, c5, c6, c7, c8, .int .i64 s, c10, c11, c12] 61)) (h0 : 0 ≤ s) (h1 : s ≤ 10) :
  Calls Tryz.prog 103 #[.pointer (some ⟨b, 0, none⟩)] w fun e w' => (∃ v, e = .returned v) ∧ w'.heap[b]? = some (.cells #[c0, c1, c2, c3, c4, c5, c6, c7, c8, .int .i64 (s + 1), c10, c11, c12] 61) ∧ Outside b (b + 1) w w' := by
 obtain ⟨d0, d1, d2, d3, d4, d5, d6, d7, d8, d9, d10, d11, d12⟩ := cells13 h
 obtain ⟨g0, g1, g2, g3, g4, g5, g6, g7, g8, g9, g10, g11, g12⟩ := frozen13 h
 have H := hide h
 have hw : IntKind.i64.wrap (s + 1) = s + 1 := IntWalk.i64_in _ (by omega)
 have hq : (s + 1 == 12) = false := by rw [beq_eq_false_iff_ne]; omega
 have hlt : ¬ 12 ≤ s + 1 := by omega
 clear h
 go_enter Tryz.func103, Tryz.ntmps103
 go_wp2_with fail
 clear d0 d1 d2 d3 d4 d5 d6 d7 d8 d9 d10 d11 d12 g0 g1 g2 g3 g4 g5 g6 g7 g8 g9 g10 g11 g12
 go_end0
 exact ⟨⟨_, rfl⟩, block_setAt (unhide H) 9 _, outside_set w b 9 _⟩

set_option maxHeartbeats 1000000 in
set_option maxRecDepth 100000 in
theorem l11sent_end {b : Nat} {c0 c1 c2 c3 c4 c5 c6 c7 c8 c10 c11 c12 : Value} {w : World} (h : w.heap[b]? = some (.cells #[c0, c1, c2, c3, c4, c5, c6, c7, c8, .int .i64 11, c10, c11, c12] 61)) :
  Calls Tryz.prog 103 #[.pointer (some ⟨b, 0, none⟩)] w fun e w' => (∃ v, e = .returned v) ∧ w'.heap[b]? = some (.cells #[.int .i64 1, c1, c2, c3, c4, c5, c6, c7, c8, .int .i64 12, c10, .int .i64 2, .slice none 0 0] 61) ∧ Outside b (b + 1) w w' := by
 obtain ⟨d0, d1, d2, d3, d4, d5, d6, d7, d8, d9, d10, d11, d12⟩ := cells13 h
 obtain ⟨g0, g1, g2, g3, g4, g5, g6, g7, g8, g9, g10, g11, g12⟩ := frozen13 h
 have H := hide h
 clear h
 go_enter Tryz.func103, Tryz.ntmps103
 go_wp2_with fail
 clear d0 d1 d2 d3 d4 d5 d6 d7 d8 d9 d10 d11 d12 g0 g1 g2 g3 g4 g5 g6 g7 g8 g9 g10 g11 g12
 have u1 := outside_set w b 9 (.int .i64 12)
 have h1 := block_setAt (unhide H) 9 (.int .i64 12)
 generalize w.setCell ⟨b, 9, none⟩ (.int .i64 12) = w1 at *
 refine (l11end_has h1).mono ?_
 rintro e w2 ⟨⟨v, rfl⟩, h2, u2⟩
 have H2 := hide h2
 clear h2 h1
 go_wp2_with fail
 go_end0
 exact ⟨⟨_, rfl⟩, unhide H2, u1.trans u2⟩

set_option maxHeartbeats 1000000 in
set_option maxRecDepth 100000 in
theorem l11lost_on {b m c j : Nat} {a : Option Addr} {c0 c1 c2 c3 c4 c5 c6 c10 c11 c12 : Value} {s : Int} {w : World} (h : w.heap[b]? = some (.cells #[c0, c1, c2, c3, c4, c5, c6, .slice a m c, .int .i64 (j : Int), .int .i64 s, c10, c11, c12] 61)) (hj : j < m) (hm : m ≤ 1048576) (h0 : 0 ≤ s) (h1 : s ≤ 10) :
  Calls Tryz.prog 64 #[.pointer (some ⟨b, 0, none⟩)] w fun e w' => (∃ v, e = .returned v) ∧ w'.heap[b]? = some (.cells #[c0, c1, c2, c3, c4, c5, c6, .slice a m c, .int .i64 (((j : Int) + 1).tmod m), .int .i64 (s + 1), c10, c11, c12] 61) ∧ Outside b (b + 1) w w' := by
 have hm0 : (m : Int) ≠ 0 := by omega
 have hm1 : ((m : Int) == 0) = false := by rw [beq_eq_false_iff_ne]; exact hm0
 have hm2 : m ≠ 0 := by omega
 have hw := wrap_next (j := j) (by omega)
 have ST := hide (l11sent_on h h0 h1)
 clear h
 go_enter Tryz.func64, Tryz.ntmps64
 go_wp2_with fail
 refine (unhide ST).mono ?_
 rintro e w1 ⟨⟨v, rfl⟩, h1, u1⟩
 have K1 := hide (block_kept (below_drew (w := w1)) h1)
 have U1 := u1.trans (outside_belA (B := b) (E := b + 1) (below_drew (w := w1)))
 obtain ⟨d0, d1, d2, d3, d4, d5, d6, d7, d8, d9, d10, d11, d12⟩ := cells13 h1
 clear h1 u1 ST
 go_wp2_with fail
 clear d0 d1 d2 d3 d4 d5 d6 d7 d8 d9 d10 d11 d12
 refine startF 15 (S := (fun w' => w'.cell? ⟨b, 7, none⟩ = some (.slice a m c))) (by kernel_rfl) rfl (cells13 (unhide K1)).2.2.2.2.2.2.2.1 (fun hHeld => ?_)
 simp only [List.replicate]
 generalize w1.drew = W at *
 repeat ((first | (refine tkF ?_ rfl (by kernel_rfl) (by rfl) (fun _ _ _ h => h) ?_ hHeld ?_; rotate_left; · (intro w hSw; (try dsimp only at hSw); go_simp <;> with_reducible rfl)) | refine skF rfl (by kernel_rfl) (by rfl) (fun _ _ _ h => h) hHeld ?_); simp only [Act.put, setF, List.setIfInBounds_toArray, List.set_cons_zero, List.set_cons_succ])
 refine tkI 6 ?_ rfl (by kernel_rfl) (by kernel_rfl) (fun _ _ _ h => h) ?_ hHeld ?_; rotate_left; (· (intro w hSw; (try dsimp only at hSw); go_simp <;> with_reducible rfl)); simp only [Act.put, List.setIfInBounds_toArray, List.set_cons_zero, List.set_cons_succ]
 refine tkI 7 ?_ rfl (by kernel_rfl) (by kernel_rfl) (fun _ _ _ h => h) ?_ hHeld ?_; rotate_left; (· (intro w hSw; (try dsimp only at hSw); go_simp <;> with_reducible rfl)); simp only [Act.put, List.setIfInBounds_toArray, List.set_cons_zero, List.set_cons_succ]
 refine tkI 8 ?_ rfl (by kernel_rfl) (by kernel_rfl) (fun _ _ _ h => h) ?_ hHeld ?_; rotate_left; (· (intro w hSw; (try dsimp only at hSw); go_simp <;> with_reducible rfl)); simp only [Act.put, List.setIfInBounds_toArray, List.set_cons_zero, List.set_cons_succ]
 refine tkI 9 ?_ rfl (by kernel_rfl) (by kernel_rfl) (fun _ _ _ h => h) ?_ hHeld ?_; rotate_left; (· (intro w hSw; (try dsimp only at hSw); go_simp <;> with_reducible rfl)); simp only [Act.put, List.setIfInBounds_toArray, List.set_cons_zero, List.set_cons_succ]
 refine tkI 10 ?_ rfl (by kernel_rfl) (by kernel_rfl) (fun _ _ _ h => h) ?_ hHeld ?_; rotate_left; (· (intro w hSw; (try dsimp only at hSw); go_simp <;> with_reducible rfl)); simp only [Act.put, List.setIfInBounds_toArray, List.set_cons_zero, List.set_cons_succ]
 have fq := (cells13 (unhide K1)).2.2.2.2.2.2.2.2.1
 refine runI 4 rfl (by kernel_rfl) (by kernel_rfl) (fun K hK => ?_)
 have HK := hide hK
 clear hK hHeld
 go_simp
 refine (unhide HK).out _ _ (cells13 (unhide K1)).2.2.2.2.2.2.2.1 (fun hHeld => ?_)
 clear HK K
 simp only [List.setIfInBounds_toArray, List.set_cons_zero, List.set_cons_succ]
 repeat ((first | (refine tkF ?_ rfl (by kernel_rfl) (by rfl) (fun _ _ _ h => h) ?_ hHeld ?_; rotate_left; · (intro w hSw; (try dsimp only at hSw); go_simp <;> with_reducible rfl)) | refine skF rfl (by kernel_rfl) (by rfl) (fun _ _ _ h => h) hHeld ?_); simp only [Act.put, setF, List.setIfInBounds_toArray, List.set_cons_zero, List.set_cons_succ])
 have zq := block_frozen (unhide K1) 8
 have V2 := hide (block_setAt (unhide K1) 8 (.int .i64 (((j : Int) + 1).tmod m)))
 refine runI 14 rfl (by kernel_rfl) (by kernel_rfl) (fun K hK => ?_)
 have HK := hide hK
 clear hK hHeld
 go_simp
 refine (unhide HK).out _ _ (cells13 (unhide V2)).2.2.2.2.2.2.2.1 (fun hHeld => ?_)
 clear HK K
 simp only [List.setIfInBounds_toArray, List.set_cons_zero, List.set_cons_succ]
 refine wpAnyH_done (by kernel_rfl) ?_ _
 clear hHeld
 go_wp2_with fail
 go_end0
 exact ⟨⟨_, rfl⟩, unhide V2, U1.trans (outside_set W b 8 _)⟩

set_option maxHeartbeats 1000000 in
set_option maxRecDepth 100000 in
theorem l11lost_end {b m c j : Nat} {a : Option Addr} {c0 c1 c2 c3 c4 c5 c6 c10 c11 c12 : Value}  {w : World} (h : w.heap[b]? = some (.cells #[c0, c1, c2, c3, c4, c5, c6, .slice a m c, .int .i64 (j : Int), .int .i64 11, c10, c11, c12] 61)) (hj : j < m) (hm : m ≤ 1048576)  :
  Calls Tryz.prog 64 #[.pointer (some ⟨b, 0, none⟩)] w fun e w' => (∃ v, e = .returned v) ∧ w'.heap[b]? = some (.cells #[.int .i64 1, c1, c2, c3, c4, c5, c6, .slice a m c, .int .i64 (((j : Int) + 1).tmod m), .int .i64 12, c10, .int .i64 2, .slice none 0 0] 61) ∧ Outside b (b + 1) w w' := by
 have hm0 : (m : Int) ≠ 0 := by omega
 have hm1 : ((m : Int) == 0) = false := by rw [beq_eq_false_iff_ne]; exact hm0
 have hm2 : m ≠ 0 := by omega
 have hw := wrap_next (j := j) (by omega)
 have ST := hide (l11sent_end h)
 clear h
 go_enter Tryz.func64, Tryz.ntmps64
 go_wp2_with fail
 refine (unhide ST).mono ?_
 rintro e w1 ⟨⟨v, rfl⟩, h1, u1⟩
 have K1 := hide (block_kept (below_drew (w := w1)) h1)
 have U1 := u1.trans (outside_belA (B := b) (E := b + 1) (below_drew (w := w1)))
 obtain ⟨d0, d1, d2, d3, d4, d5, d6, d7, d8, d9, d10, d11, d12⟩ := cells13 h1
 clear h1 u1 ST
 go_wp2_with fail
 clear d0 d1 d2 d3 d4 d5 d6 d7 d8 d9 d10 d11 d12
 refine startF 15 (S := (fun w' => w'.cell? ⟨b, 7, none⟩ = some (.slice a m c))) (by kernel_rfl) rfl (cells13 (unhide K1)).2.2.2.2.2.2.2.1 (fun hHeld => ?_)
 simp only [List.replicate]
 generalize w1.drew = W at *
 repeat ((first | (refine tkF ?_ rfl (by kernel_rfl) (by rfl) (fun _ _ _ h => h) ?_ hHeld ?_; rotate_left; · (intro w hSw; (try dsimp only at hSw); go_simp <;> with_reducible rfl)) | refine skF rfl (by kernel_rfl) (by rfl) (fun _ _ _ h => h) hHeld ?_); simp only [Act.put, setF, List.setIfInBounds_toArray, List.set_cons_zero, List.set_cons_succ])
 refine tkI 6 ?_ rfl (by kernel_rfl) (by kernel_rfl) (fun _ _ _ h => h) ?_ hHeld ?_; rotate_left; (· (intro w hSw; (try dsimp only at hSw); go_simp <;> with_reducible rfl)); simp only [Act.put, List.setIfInBounds_toArray, List.set_cons_zero, List.set_cons_succ]
 refine tkI 7 ?_ rfl (by kernel_rfl) (by kernel_rfl) (fun _ _ _ h => h) ?_ hHeld ?_; rotate_left; (· (intro w hSw; (try dsimp only at hSw); go_simp <;> with_reducible rfl)); simp only [Act.put, List.setIfInBounds_toArray, List.set_cons_zero, List.set_cons_succ]
 refine tkI 8 ?_ rfl (by kernel_rfl) (by kernel_rfl) (fun _ _ _ h => h) ?_ hHeld ?_; rotate_left; (· (intro w hSw; (try dsimp only at hSw); go_simp <;> with_reducible rfl)); simp only [Act.put, List.setIfInBounds_toArray, List.set_cons_zero, List.set_cons_succ]
 refine tkI 9 ?_ rfl (by kernel_rfl) (by kernel_rfl) (fun _ _ _ h => h) ?_ hHeld ?_; rotate_left; (· (intro w hSw; (try dsimp only at hSw); go_simp <;> with_reducible rfl)); simp only [Act.put, List.setIfInBounds_toArray, List.set_cons_zero, List.set_cons_succ]
 refine tkI 10 ?_ rfl (by kernel_rfl) (by kernel_rfl) (fun _ _ _ h => h) ?_ hHeld ?_; rotate_left; (· (intro w hSw; (try dsimp only at hSw); go_simp <;> with_reducible rfl)); simp only [Act.put, List.setIfInBounds_toArray, List.set_cons_zero, List.set_cons_succ]
 have fq := (cells13 (unhide K1)).2.2.2.2.2.2.2.2.1
 refine runI 4 rfl (by kernel_rfl) (by kernel_rfl) (fun K hK => ?_)
 have HK := hide hK
 clear hK hHeld
 go_simp
 refine (unhide HK).out _ _ (cells13 (unhide K1)).2.2.2.2.2.2.2.1 (fun hHeld => ?_)
 clear HK K
 simp only [List.setIfInBounds_toArray, List.set_cons_zero, List.set_cons_succ]
 repeat ((first | (refine tkF ?_ rfl (by kernel_rfl) (by rfl) (fun _ _ _ h => h) ?_ hHeld ?_; rotate_left; · (intro w hSw; (try dsimp only at hSw); go_simp <;> with_reducible rfl)) | refine skF rfl (by kernel_rfl) (by rfl) (fun _ _ _ h => h) hHeld ?_); simp only [Act.put, setF, List.setIfInBounds_toArray, List.set_cons_zero, List.set_cons_succ])
 have zq := block_frozen (unhide K1) 8
 have V2 := hide (block_setAt (unhide K1) 8 (.int .i64 (((j : Int) + 1).tmod m)))
 refine runI 14 rfl (by kernel_rfl) (by kernel_rfl) (fun K hK => ?_)
 have HK := hide hK
 clear hK hHeld
 go_simp
 refine (unhide HK).out _ _ (cells13 (unhide V2)).2.2.2.2.2.2.2.1 (fun hHeld => ?_)
 clear HK K
 simp only [List.setIfInBounds_toArray, List.set_cons_zero, List.set_cons_succ]
 refine wpAnyH_done (by kernel_rfl) ?_ _
 clear hHeld
 go_wp2_with fail
 go_end0
 exact ⟨⟨_, rfl⟩, unhide V2, U1.trans (outside_set W b 8 _)⟩
end Go.Proofs.YtjgfljndeolmoaaGreat

namespace Go.Proofs.YtjgfljndeolmoaaGreat
open Go.RowKit
set_option linter.unusedVariables false

theorem ssign_cases (c : Int) : (97 ≤ c ∧ c ≤ 122) ∨ (97 ≤ c ∧ 122 < c) ∨ (c < 97 ∧ 48 ≤ c ∧ c ≤ 57) ∨ (c < 97 ∧ 48 ≤ c ∧ 57 < c ∧ c ≠ 45) ∨ (c < 97 ∧ c < 48 ∧ c = 45) ∨ (c < 97 ∧ c < 48 ∧ c ≠ 45) := by omega

set_option maxHeartbeats 1600000 in
set_option maxRecDepth 100000 in
theorem specLabelOk_has {v : Value} {l : List Int} {w : World} (h : Has w v l) :
  Calls Tryz.prog 77 #[v] w fun e w' => e = .returned (.bool (labelOk l)) ∧ w = w' := by
 have hbd := h.bound
 unfold maxLen at hbd
 obtain ⟨a, cap, rfl, hL⟩ := h.form
 by_cases h0 : l.length = 0
 ·rw [labelOk_short (by omega), h0]
  go_enter Tryz.func77, Tryz.ntmps77
  go_wp2
  go_ret
  exact ⟨rfl, rfl⟩
 ·by_cases h1 : 15 < l.length
  ·rw [labelOk_short (by omega)]
   generalize hn : l.length = n at *
   go_enter Tryz.func77, Tryz.ntmps77
   go_wp2
   go_ret
   exact ⟨rfl, rfl⟩
  ·have h2 : l.length ≤ 15 := by omega
   have hyes := hide (fun (hs : ∀ j, j < l.length → signOk (l.getD j 0) = true) => labelOk_yes (l := l) (by omega) h2 hs)
   have hno := hide (fun (j : Nat) (hj : j < l.length) (hs : signOk (l.getD j 0) = false) => labelOk_sign hj hs)
   generalize hok : labelOk l = ok at *
   clear hok
   generalize hn : l.length = n at *
   have HN := hide hn
   clear hn
   have hn1 : (1 : Int) ≤ n := by omega
   go_enter Tryz.func77, Tryz.ntmps77
   go_wp2
   go_loop [3] (fun i => ∃ k : Nat, k ≤ n ∧ i = .int .i64 k ∧ Hid (∀ j, j < k → signOk (l.getD j 0) = true)) (fun i => n - (intOf i).toNat)
   case atStart => exact ⟨0, Nat.zero_le _, rfl, hide (fun j hj => absurd hj (Nat.not_lt_zero _))⟩
   case round =>
    obtain ⟨k, hk, rfl, hall⟩ := hrel
    by_cases hlt : k < n
    ·obtain ⟨b, off, rfl, hbl, hc⟩ := hL.here (k := k) (by rw [unhide HN]; exact hlt)
     have hone := hide (fun (hs : signOk (l.getD k 0) = true) => (show ∀ j, j < k + 1 → signOk (l.getD j 0) = true from fun j hj => by
      by_cases e : j = k
      ·subst e; exact hs
      ·exact unhide hall j (by omega)))
     have hnok := hide (fun (hs : signOk (l.getD k 0) = false) => unhide hno k hlt hs)
     generalize hx : l.getD k 0 = x at *
     rcases ssign_cases x with ⟨h1, h2⟩ | ⟨h1, h2⟩ | ⟨h1, h2, h3⟩ | ⟨h1, h2, h3, h4⟩ | ⟨h1, h2, rfl⟩ | ⟨h1, h2, h3⟩
     ·have hs : signOk x = true := decide_eq_true (by omega)
      go_wp2
      exact ⟨⟨k + 1, by omega, by go_num, hide (unhide hone hs)⟩, by simp [intOf]; omega⟩
     ·have hs : signOk x = false := decide_eq_false (by omega)
      have hq := unhide hnok hs
      subst hq
      have h8 : (x == 45) = false := by simp; omega
      have h5 : 48 ≤ x := by omega
      have h6 : ¬ x ≤ 57 := by omega
      have h7 : ¬ x ≤ 122 := by omega
      go_wp2
      go_ret
      exact ⟨rfl, rfl⟩
     ·have hs : signOk x = true := decide_eq_true (by omega)
      have h5 : ¬ 97 ≤ x := by omega
      go_wp2
      exact ⟨⟨k + 1, by omega, by go_num, hide (unhide hone hs)⟩, by simp [intOf]; omega⟩
     ·have hs : signOk x = false := decide_eq_false (by omega)
      have hq := unhide hnok hs
      subst hq
      have h8 : (x == 45) = false := by simp; omega
      have h5 : ¬ 97 ≤ x := by omega
      have h6 : ¬ x ≤ 57 := by omega
      go_wp2
      go_ret
      exact ⟨rfl, rfl⟩
     ·have hs : signOk 45 = true := rfl
      go_wp2
      exact ⟨⟨k + 1, by omega, by go_num, hide (unhide hone hs)⟩, by simp [intOf]; omega⟩
     ·have hs : signOk x = false := decide_eq_false (by omega)
      have hq := unhide hnok hs
      subst hq
      have h8 : (x == 45) = false := by simp; omega
      have h5 : ¬ 97 ≤ x := by omega
      have h6 : ¬ 48 ≤ x := by omega
      go_wp2
      go_ret
      exact ⟨rfl, rfl⟩
    ·obtain rfl : k = n := by omega
     have hq := unhide hyes (unhide hall)
     subst hq
     go_wp2
     go_ret
     exact ⟨rfl, rfl⟩
end Go.Proofs.YtjgfljndeolmoaaGreat

namespace Go.Proofs.YtjgfljndeolmoaaGreat
open Go.RowKit
set_option linter.unusedVariables false

set_option maxHeartbeats 400000 in
set_option maxRecDepth 100000 in
theorem specNameOk_has {v : Value} {n : List (List Int)} {w : World} (h : HasL w v n) :
  Calls Tryz.prog 87 #[.agg #[v]] w fun e w' => e = .returned (.bool (nameOk n)) ∧ Below w.heap.size w w' := by
 obtain ⟨a, cap, rfl, hl, hm⟩ := h.form
 unfold maxLen at hm
 by_cases h1 : 6 < n.length
 ·rw [nameOk_long h1]
  have H := hide h
  clear h
  generalize hn : n.length = m at *
  have HN := hide hn
  clear hn
  go_enter Tryz.func87, Tryz.ntmps87
  go_wp2
  go_ret
  exact ⟨rfl, below_alloc _⟩
 ·have h2 : n.length ≤ 6 := by omega
  have hA := h.below (below_alloc (.cells #[.slice a n.length cap] 57))
  have H := hide h
  clear h
  have hyes := hide (fun (hs : ∀ j, j < n.length → labelOk (n.getD j []) = true) => nameOk_yes (n := n) h2 hs)
  have hno := hide (fun (j : Nat) (hj : j < n.length) (hs : labelOk (n.getD j []) = false) => nameOk_label hj hs)
  generalize hok : nameOk n = ok at *
  clear hok
  generalize hn : n.length = m at *
  have HN := hide hn
  clear hn
  go_enter Tryz.func87, Tryz.ntmps87
  go_wp2
  go_loop [3] (fun i => ∃ k : Nat, k ≤ m ∧ i = .int .i64 k ∧ Hid (∀ j, j < k → labelOk (n.getD j []) = true)) (fun i => m - (intOf i).toNat)
  case atStart => exact ⟨0, Nat.zero_le _, rfl, hide (fun j hj => absurd hj (Nat.not_lt_zero _))⟩
  case round =>
   obtain ⟨k, hk, rfl, hall⟩ := hrel
   by_cases hlt : k < m
   ·obtain ⟨b, off, u, rfl, hbl, hc, hu⟩ := hA.here (k := k) (by rw [unhide HN]; exact hlt)
    have hone := hide (fun (hs : labelOk (n.getD k []) = true) => (show ∀ j, j < k + 1 → labelOk (n.getD j []) = true from fun j hj => by
      by_cases e : j = k
      ·subst e; exact hs
      ·exact unhide hall j (by omega)))
    have hnok := hide (fun (hs : labelOk (n.getD k []) = false) => unhide hno k hlt hs)
    generalize hx : n.getD k [] = x at *
    have HU := hide hu
    obtain ⟨ua, uc, rfl, _⟩ := hu.form
    clear hu
    go_wp2_with fail
    refine (specLabelOk_has (unhide HU)).mono ?_
    rintro e w1 ⟨rfl, rfl⟩
    cases hs : labelOk x with
    | true =>
     go_wp2
     exact ⟨⟨k + 1, by omega, by go_num, hide (unhide hone hs)⟩, by simp [intOf]; omega⟩
    | false =>
     have hq := unhide hnok hs
     subst hq
     go_wp2
     go_ret
     exact ⟨rfl, below_alloc _⟩
   ·obtain rfl : k = m := by omega
    have hq := unhide hyes (unhide hall)
    subst hq
    go_wp2
    go_ret
    exact ⟨rfl, below_alloc _⟩
end Go.Proofs.YtjgfljndeolmoaaGreat
