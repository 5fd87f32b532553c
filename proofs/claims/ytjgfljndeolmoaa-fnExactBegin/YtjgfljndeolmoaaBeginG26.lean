/-
  Contract of the program's Begin. Contracts of the specification's LabelOk. Contracts of the specification's NameOk. A slice of bytes made into a text.
-/
import Derived.Test.YtjgfljndeolmoaaBeginG14
import Derived.Test.YtjgfljndeolmoaaBeginG21
import Derived.Test.YtjgfljndeolmoaaBeginG25
import Derived.Test.YtjgfljndeolmoaaBeginG09
import Derived.Test.YtjgfljndeolmoaaBeginG08
import Derived.Test.YtjgfljndeolmoaaBeginG01
namespace Go.Proofs.Ytjgfljndeolmoaa
open Go.RowKit
set_option linter.unusedVariables false

theorem OwnTk.wide {B E B2 E2 : Nat} {w : World} {vf vn vz vh vr va : Value} {t : Tk} (h : OwnTk B E w vf vn vz vh vr va t) (hB : B2 ≤ B) (hE : E ≤ E2) : OwnTk B2 E2 w vf vn vz vh vr va t := by
 obtain ⟨s1, s2, s3, s4, s5, a1, a2, a3, a4, a5, a6, h1, h2, h3, h4, h5, h6⟩ := h
 exact ⟨s1, s2, s3, s4, s5, by omega, a2, a3, a4, a5, by omega, h1.wide hB (Nat.le_refl _), h2, h3, h4, h5, h6.wide (Nat.le_refl _) hE⟩
set_option maxHeartbeats 4000000 in
set_option maxRecDepth 100000 in
theorem implBegin_own {v vh : Value} {q : Que} {hs : List Int} (id : Int) {w : World} (h : HasL w v q.name) (hh : HasI w vh hs) (hl : hs.length ≤ 1048576) :
  Calls Try.prog 31 #[.agg #[v, .int .i64 q.type], vh, .int .i64 id] w fun e w' => ∃ uf un uz uh ur ua, e = .returned (.tuple #[.agg #[.int .i64 (begT q hs id).state, .int .i64 (begT q hs id).id, uf, .int .i64 (begT q hs id).fst.type, un, uz, uh, ur, .int .i64 (begT q hs id).turn, .int .i64 (begT q hs id).sends, .int .i64 (begT q hs id).steps, .int .i64 (begT q hs id).code, ua], .bool (begB q hs id)]) ∧ OwnTk w.heap.size w'.heap.size w' uf un uz uh ur ua (begT q hs id) ∧ Below w.heap.size w w' := by
 obtain ⟨na, nc, rfl, _⟩ := h.form
 obtain ⟨ha, hc, rfl, _⟩ := hh.form
 obtain ⟨hsz, r0, v0⟩ := box3 w (.cells #[.slice na q.name.length nc, .int .i64 q.type] 46) #[.int .i64 0, .int .i64 0, .slice none 0 0, .int .i64 0, .slice none 0 0, .slice none 0 0, .slice none 0 0, .slice none 0 0, .int .i64 0, .int .i64 0, .int .i64 0, .int .i64 0, .slice none 0 0] #[.int .i64 0, .int .i64 id, .slice na q.name.length nc, .int .i64 q.type, .slice na q.name.length nc, .slice none 0 0, .slice ha hs.length hc, .slice ha hs.length hc, .int .i64 0, .int .i64 0, .int .i64 0, .int .i64 0, .slice none 0 0] 48 48
 have bb : Below w.heap.size w (((w.alloc (.cells #[.slice na q.name.length nc, .int .i64 q.type] 46)).alloc (.cells #[.int .i64 0, .int .i64 0, .slice none 0 0, .int .i64 0, .slice none 0 0, .slice none 0 0, .slice none 0 0, .slice none 0 0, .int .i64 0, .int .i64 0, .int .i64 0, .int .i64 0, .slice none 0 0] 48)).alloc (.cells #[.int .i64 0, .int .i64 id, .slice na q.name.length nc, .int .i64 q.type, .slice na q.name.length nc, .slice none 0 0, .slice ha hs.length hc, .slice ha hs.length hc, .int .i64 0, .int .i64 0, .int .i64 0, .int .i64 0, .slice none 0 0] 48)) := ((below_alloc _).alloc (below_alloc _).size _).alloc ((below_alloc _).alloc (below_alloc _).size _).size _
 have HT := begTk_has id (h.below bb) (hh.below bb)
 have CL := implTaskOk_has HT hl hl
 have CP := hide (fun (w : World) (vf vn vz vh vr va : Value) (h : HasTk w vf vn vz vh vr va (begTk q hs id)) (hok : taskOk (begTk q hs id) = true) => copyTask_own h hok)
 simp only [begTk] at CL CP
 unfold begT begB
 generalize hG : taskOk (begTk q hs id) = G at *
 have hG' : taskOk ⟨0, id, q, q.name, [], hs, hs, 0, 0, 0, 0, []⟩ = G := hG
 rw [hG'] at CL
 replace CL := hide CL
 have H1 := hide HT
 have RR := hide r0
 have V := hide v0
 have zv := block_lt v0
 have zr := block_lt r0
 obtain ⟨e0, e1⟩ := cells2 (block_kept (below_alloc (.cells #[.int .i64 0, .int .i64 0, .slice none 0 0, .int .i64 0, .slice none 0 0, .slice none 0 0, .slice none 0 0, .slice none 0 0, .int .i64 0, .int .i64 0, .int .i64 0, .int .i64 0, .slice none 0 0] 48)) (heap_alloc_new w (.cells #[.slice na q.name.length nc, .int .i64 q.type] 46)))
 obtain ⟨d0, d1, d2, d3, d4, d5, d6, d7, d8, d9, d10, d11, d12⟩ := cells13 v0
 clear h hh r0 v0 hsz HT
 cases G with
 | false =>
  go_enter Try.func31, Try.ntmps31
  go_wp2_with fail
  clear d0 d1 d2 d3 d4 d5 d6 d7 d8 d9 d10 d11 d12
  clear e0 e1
  generalize ((w.alloc (.cells #[.slice na q.name.length nc, .int .i64 q.type] 46)).alloc (.cells #[.int .i64 0, .int .i64 0, .slice none 0 0, .int .i64 0, .slice none 0 0, .slice none 0 0, .slice none 0 0, .slice none 0 0, .int .i64 0, .int .i64 0, .int .i64 0, .int .i64 0, .slice none 0 0] 48)).alloc (.cells #[.int .i64 0, .int .i64 id, .slice na q.name.length nc, .int .i64 q.type, .slice na q.name.length nc, .slice none 0 0, .slice ha hs.length hc, .slice ha hs.length hc, .int .i64 0, .int .i64 0, .int .i64 0, .int .i64 0, .slice none 0 0] 48) = W at *
  refine (unhide CL).mono ?_
  rintro e w1 ⟨rfl, b1⟩
  replace bb := below_next bb b1
  replace RR := hide (block_kept b1 (unhide RR))
  clear b1
  obtain ⟨p0, p1, p2, p3, p4, p5, p6, p7, p8, p9, p10, p11, p12⟩ := cells13 (unhide RR)
  obtain ⟨q0, q1, q2, q3, q4, q5, q6, q7, q8, q9, q10, q11, q12⟩ := frozen13 (unhide RR)
  go_wp2_with fail
  obtain ⟨R7, u7⟩ := set13_is (c0 := .int .i64 0) (c1 := .int .i64 0) (c2 := .slice none 0 0) (c3 := .int .i64 0) (c4 := .slice none 0 0) (c5 := .slice none 0 0) (c6 := .slice none 0 0) (c7 := .slice none 0 0) (c8 := .int .i64 0) (c9 := .int .i64 0) (c10 := .int .i64 0) (c11 := .int .i64 0) (c12 := .slice none 0 0) (unhide RR)
  unfold set13 at R7 u7
  have b7 := u7.below bb (by omega)
  refine bodyPost_ret (results_cell_tmp_row rfl _ _ (w.heap.size + 1) 48 #[.int .i64 0, .int .i64 0, .slice none 0 0, .int .i64 0, .slice none 0 0, .slice none 0 0, .slice none 0 0, .slice none 0 0, .int .i64 0, .int .i64 0, .int .i64 0, .int .i64 0, .slice none 0 0] (0, 0) _ rfl R7 Try.underlying48 rfl (by kernel_rfl)) rfl ?_
  exact ⟨_, _, _, _, _, _, rfl, ownTk_nil _ _ b7.size _, b7⟩
 | true =>
  go_enter Try.func31, Try.ntmps31
  go_wp2_with fail
  clear d0 d1 d2 d3 d4 d5 d6 d7 d8 d9 d10 d11 d12
  clear e0 e1
  generalize ((w.alloc (.cells #[.slice na q.name.length nc, .int .i64 q.type] 46)).alloc (.cells #[.int .i64 0, .int .i64 0, .slice none 0 0, .int .i64 0, .slice none 0 0, .slice none 0 0, .slice none 0 0, .slice none 0 0, .int .i64 0, .int .i64 0, .int .i64 0, .int .i64 0, .slice none 0 0] 48)).alloc (.cells #[.int .i64 0, .int .i64 id, .slice na q.name.length nc, .int .i64 q.type, .slice na q.name.length nc, .slice none 0 0, .slice ha hs.length hc, .slice ha hs.length hc, .int .i64 0, .int .i64 0, .int .i64 0, .int .i64 0, .slice none 0 0] 48) = W at *
  refine (unhide CL).mono ?_
  rintro e w1 ⟨rfl, b1⟩
  replace bb := below_next bb b1
  replace RR := hide (block_kept b1 (unhide RR))
  replace V := hide (block_kept b1 (unhide V))
  replace H1 := hide ((unhide H1).below b1)
  have z1 := b1.size
  clear b1 CL
  obtain ⟨d0, d1, d2, d3, d4, d5, d6, d7, d8, d9, d10, d11, d12⟩ := cells13 (unhide V)
  go_wp2_with fail
  clear d0 d1 d2 d3 d4 d5 d6 d7 d8 d9 d10 d11 d12
  refine (unhide CP _ _ _ _ _ _ _ (unhide H1) hG').mono ?_
  rintro e w2 ⟨vf, vn, vz, vh, vr, va, rfl, o2, b2⟩
  obtain ⟨nf, mf, rfl, _⟩ := o2.has.fst.form
  obtain ⟨nn, mn, rfl, _⟩ := o2.has.name.form
  obtain ⟨nz, mz, rfl, _⟩ := o2.has.zone.form
  obtain ⟨nh, mh, rfl, _⟩ := o2.has.hints.form
  obtain ⟨nr, mr, rfl, _⟩ := o2.has.servers.form
  obtain ⟨nq, mq, rfl, _⟩ := o2.has.ans.form
  replace bb := below_next bb b2
  replace RR := hide (block_kept b2 (unhide RR))
  have O2 := hide o2
  have z2 := b2.size
  clear b2 o2 CP V H1
  obtain ⟨p0, p1, p2, p3, p4, p5, p6, p7, p8, p9, p10, p11, p12⟩ := cells13 (unhide RR)
  obtain ⟨q0, q1, q2, q3, q4, q5, q6, q7, q8, q9, q10, q11, q12⟩ := frozen13 (unhide RR)
  go_wp2_with fail
  obtain ⟨R7, u7⟩ := set13_is (c0 := .int .i64 0) (c1 := .int .i64 id) (c2 := .slice nf q.name.length mf) (c3 := .int .i64 q.type) (c4 := .slice nn q.name.length mn) (c5 := .slice nz 0 mz) (c6 := .slice nh hs.length mh) (c7 := .slice nr hs.length mr) (c8 := .int .i64 0) (c9 := .int .i64 0) (c10 := .int .i64 0) (c11 := .int .i64 0) (c12 := .slice nq 0 mq) (unhide RR)
  have O7 := hide ((unhide O2).outside u7 (.inr (by omega)))
  unfold set13 at R7 u7 O7
  have b7 := u7.below bb (by omega)
  have z7 := u7.size
  refine bodyPost_ret (results_cell_tmp_row rfl _ _ (w.heap.size + 1) 48 #[.int .i64 0, .int .i64 id, .slice nf q.name.length mf, .int .i64 q.type, .slice nn q.name.length mn, .slice nz 0 mz, .slice nh hs.length mh, .slice nr hs.length mr, .int .i64 0, .int .i64 0, .int .i64 0, .int .i64 0, .slice nq 0 mq] (0, 0) _ rfl R7 Try.underlying48 rfl (by kernel_rfl)) rfl ?_
  exact ⟨_, _, _, _, _, _, rfl, OwnTk.wide (unhide O7) (by omega) z7, b7⟩
end Go.Proofs.Ytjgfljndeolmoaa

namespace Go.Proofs.Ytjgfljndeolmoaa
open Go.RowKit
set_option linter.unusedVariables false

theorem ssign_cases (c : Int) : (97 ≤ c ∧ c ≤ 122) ∨ (97 ≤ c ∧ 122 < c) ∨ (c < 97 ∧ 48 ≤ c ∧ c ≤ 57) ∨ (c < 97 ∧ 48 ≤ c ∧ 57 < c ∧ c ≠ 45) ∨ (c < 97 ∧ c < 48 ∧ c = 45) ∨ (c < 97 ∧ c < 48 ∧ c ≠ 45) := by omega

set_option maxHeartbeats 1600000 in
set_option maxRecDepth 100000 in
theorem specLabelOk_has {v : Value} {l : List Int} {w : World} (h : Has w v l) :
  Calls Try.prog 105 #[v] w fun e w' => e = .returned (.bool (labelOk l)) ∧ w = w' := by
 have hbd := h.bound
 unfold maxLen at hbd
 obtain ⟨a, cap, rfl, hL⟩ := h.form
 by_cases h0 : l.length = 0
 ·rw [labelOk_short (by omega), h0]
  go_enter Try.func105, Try.ntmps105
  go_wp2
  go_ret
  exact ⟨rfl, rfl⟩
 ·by_cases h1 : 15 < l.length
  ·rw [labelOk_short (by omega)]
   generalize hn : l.length = n at *
   go_enter Try.func105, Try.ntmps105
   go_wp2
   go_ret
   exact ⟨rfl, rfl⟩
  ·have h2 : l.length ≤ 15 := by omega
   have hyes := hide (fun (hs : ∀ j, j < l.length → signOk (l.getD j 0) = true) => labelOk_yes (l := l) (by omega) h2 hs)
   have hno := hide (fun (j : Nat) (hj : j < l.length) (hs : signOk (l.getD j 0) = false) => labelOk_sign hj hs)
   generalize hok : labelOk l = ok at *
   clear hok
   generalize hn : l.length = n at *
   have HN := hide hn
   clear hn
   have hn1 : (1 : Int) ≤ n := by omega
   go_enter Try.func105, Try.ntmps105
   go_wp2
   go_loop [3] (fun i => ∃ k : Nat, k ≤ n ∧ i = .int .i64 k ∧ Hid (∀ j, j < k → signOk (l.getD j 0) = true)) (fun i => n - (intOf i).toNat)
   case atStart => exact ⟨0, Nat.zero_le _, rfl, hide (fun j hj => absurd hj (Nat.not_lt_zero _))⟩
   case round =>
    obtain ⟨k, hk, rfl, hall⟩ := hrel
    by_cases hlt : k < n
    ·obtain ⟨b, off, rfl, hbl, hc⟩ := hL.here (k := k) (by rw [unhide HN]; exact hlt)
     have hone := hide (fun (hs : signOk (l.getD k 0) = true) => (show ∀ j, j < k + 1 → signOk (l.getD j 0) = true from fun j hj => by
      by_cases e : j = k
      ·subst e; exact hs
      ·exact unhide hall j (by omega)))
     have hnok := hide (fun (hs : signOk (l.getD k 0) = false) => unhide hno k hlt hs)
     generalize hx : l.getD k 0 = x at *
     rcases ssign_cases x with ⟨h1, h2⟩ | ⟨h1, h2⟩ | ⟨h1, h2, h3⟩ | ⟨h1, h2, h3, h4⟩ | ⟨h1, h2, rfl⟩ | ⟨h1, h2, h3⟩
     ·have hs : signOk x = true := decide_eq_true (by omega)
      go_wp2
      exact ⟨⟨k + 1, by omega, by go_num, hide (unhide hone hs)⟩, by simp [intOf]; omega⟩
     ·have hs : signOk x = false := decide_eq_false (by omega)
      have hq := unhide hnok hs
      subst hq
      have h8 : (x == 45) = false := by simp; omega
      have h5 : 48 ≤ x := by omega
      have h6 : ¬ x ≤ 57 := by omega
      have h7 : ¬ x ≤ 122 := by omega
      go_wp2
      go_ret
      exact ⟨rfl, rfl⟩
     ·have hs : signOk x = true := decide_eq_true (by omega)
      have h5 : ¬ 97 ≤ x := by omega
      go_wp2
      exact ⟨⟨k + 1, by omega, by go_num, hide (unhide hone hs)⟩, by simp [intOf]; omega⟩
     ·have hs : signOk x = false := decide_eq_false (by omega)
      have hq := unhide hnok hs
      subst hq
      have h8 : (x == 45) = false := by simp; omega
      have h5 : ¬ 97 ≤ x := by omega
      have h6 : ¬ x ≤ 57 := by omega
      go_wp2
      go_ret
      exact ⟨rfl, rfl⟩
     ·have hs : signOk 45 = true := rfl
      go_wp2
      exact ⟨⟨k + 1, by omega, by go_num, hide (unhide hone hs)⟩, by simp [intOf]; omega⟩
     ·have hs : signOk x = false := decide_eq_false (by omega)
      have hq := unhide hnok hs
      subst hq
      have h8 : (x == 45) = false := by simp; omega
      have h5 : ¬ 97 ≤ x := by omega
      have h6 : ¬ 48 ≤ x := by omega
      go_wp2
      go_ret
      exact ⟨rfl, rfl⟩
    ·obtain rfl : k = n := by omega
     have hq := unhide hyes (unhide hall)
     subst hq
     go_wp2
     go_ret
     exact ⟨rfl, rfl⟩
end Go.Proofs.Ytjgfljndeolmoaa

namespace Go.Proofs.Ytjgfljndeolmoaa
open Go.RowKit
set_option linter.unusedVariables false

set_option maxHeartbeats 400000 in
set_option maxRecDepth 100000 in
theorem specNameOk_has {v : Value} {n : List (List Int)} {w : World} (h : HasL w v n) :
  Calls Try.prog 56 #[.agg #[v]] w fun e w' => e = .returned (.bool (nameOk n)) ∧ Below w.heap.size w w' := by
 obtain ⟨a, cap, rfl, hl, hm⟩ := h.form
 unfold maxLen at hm
 by_cases h1 : 6 < n.length
 ·rw [nameOk_long h1]
  have H := hide h
  clear h
  generalize hn : n.length = m at *
  have HN := hide hn
  clear hn
  go_enter Try.func56, Try.ntmps56
  go_wp2
  go_ret
  exact ⟨rfl, below_alloc _⟩
 ·have h2 : n.length ≤ 6 := by omega
  have hA := h.below (below_alloc (.cells #[.slice a n.length cap] 26))
  have H := hide h
  clear h
  have hyes := hide (fun (hs : ∀ j, j < n.length → labelOk (n.getD j []) = true) => nameOk_yes (n := n) h2 hs)
  have hno := hide (fun (j : Nat) (hj : j < n.length) (hs : labelOk (n.getD j []) = false) => nameOk_label hj hs)
  generalize hok : nameOk n = ok at *
  clear hok
  generalize hn : n.length = m at *
  have HN := hide hn
  clear hn
  go_enter Try.func56, Try.ntmps56
  go_wp2
  go_loop [3] (fun i => ∃ k : Nat, k ≤ m ∧ i = .int .i64 k ∧ Hid (∀ j, j < k → labelOk (n.getD j []) = true)) (fun i => m - (intOf i).toNat)
  case atStart => exact ⟨0, Nat.zero_le _, rfl, hide (fun j hj => absurd hj (Nat.not_lt_zero _))⟩
  case round =>
   obtain ⟨k, hk, rfl, hall⟩ := hrel
   by_cases hlt : k < m
   ·obtain ⟨b, off, u, rfl, hbl, hc, hu⟩ := hA.here (k := k) (by rw [unhide HN]; exact hlt)
    have hone := hide (fun (hs : labelOk (n.getD k []) = true) => (show ∀ j, j < k + 1 → labelOk (n.getD j []) = true from fun j hj => by
      by_cases e : j = k
      ·subst e; exact hs
      ·exact unhide hall j (by omega)))
    have hnok := hide (fun (hs : labelOk (n.getD k []) = false) => unhide hno k hlt hs)
    generalize hx : n.getD k [] = x at *
    have HU := hide hu
    obtain ⟨ua, uc, rfl, _⟩ := hu.form
    clear hu
    go_wp2_with fail
    refine (specLabelOk_has (unhide HU)).mono ?_
    rintro e w1 ⟨rfl, rfl⟩
    cases hs : labelOk x with
    | true =>
     go_wp2
     exact ⟨⟨k + 1, by omega, by go_num, hide (unhide hone hs)⟩, by simp [intOf]; omega⟩
    | false =>
     have hq := unhide hnok hs
     subst hq
     go_wp2
     go_ret
     exact ⟨rfl, below_alloc _⟩
   ·obtain rfl : k = m := by omega
    have hq := unhide hyes (unhide hall)
    subst hq
    go_wp2
    go_ret
    exact ⟨rfl, below_alloc _⟩
end Go.Proofs.Ytjgfljndeolmoaa

namespace Go.Proofs.Ytjgfljndeolmoaa
open Go.RowKit

theorem conv_has {v : Value} {l : List Int} {w : World} (h : Has w v l) : (convert 22 9 v).run Try.prog w = .ok (.string (strOfNums l)) w := by
 rcases h with ⟨rfl, rfl⟩ | ⟨g, off, cap, rfl, _, _, _, hc⟩
 ·exact run_convert_bytes_nil w 22 5 Try.underlying22 Try.underlying5 0 0 9 Try.underlying9
 ·exact run_convert_bytes_arg w 22 5 Try.underlying22 Try.underlying5 g off l.length cap l rfl hc 9 Try.underlying9
end Go.Proofs.Ytjgfljndeolmoaa
