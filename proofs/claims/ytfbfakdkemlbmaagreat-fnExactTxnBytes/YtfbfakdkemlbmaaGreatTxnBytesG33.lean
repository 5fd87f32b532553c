/-
  Contract of the program's TxnBytes. Contracts of the specification's LabelOk. Contracts of the specification's NameOk.
-/
import Derived.Test.YtfbfakdkemlbmaaGreatTxnBytesG30
import Derived.Test.YtfbfakdkemlbmaaGreatTxnBytesG31
import Derived.Test.YtfbfakdkemlbmaaGreatTxnBytesG32
import Derived.Test.YtfbfakdkemlbmaaGreatTxnBytesG04
import Derived.Test.YtfbfakdkemlbmaaGreatTxnBytesG00
namespace Go.Proofs.YtfbfakdkemlbmaaGreat
open Go.RowKit
set_option linter.unusedVariables false

set_option maxHeartbeats 1000000 in
set_option maxRecDepth 100000 in
theorem implTxnBytes_no {vq va vb vm vp vu vc vh : Value} {t : Tx} {w : World} (h : HasTx w vq va vb vm vp vu vc vh t) (hct : t.msg.count ≤ 1048576) (hok : txOk t = false) :
  Calls Tryz.prog 7 #[.agg #[.int .i64 t.kind, .int .i64 t.msg.id, .bool t.msg.reply, .int .i64 t.msg.op, .bool t.msg.auth, .int .i64 t.msg.code, vq, va, vb, vm, vp, vu, .int .i64 t.ip, vc, vh, .int .i64 t.when]] w fun e w' => ∃ v', e = .returned (.tuple #[v', .bool (txPut t).2]) ∧ Own w.heap.size 5 w' v' (txPut t).1 ∧ Below w.heap.size w w' := by
 obtain ⟨xq, yq, rfl, _, zq⟩ := h.msg.qs.form
 obtain ⟨xa, ya, rfl, _, za⟩ := h.msg.ans.form
 obtain ⟨xb, yb, rfl, _, zb⟩ := h.msg.aus.form
 obtain ⟨xm, ym, rfl, _, zm⟩ := h.msg.more.form
 obtain ⟨xp, yp, rfl, _, zp⟩ := h.msg.pres.form
 obtain ⟨xu, yu, rfl, _, zu⟩ := h.msg.ups.form
 have hcb := h.client.bound
 have hhb := h.host.bound
 obtain ⟨xc, yc, rfl, _⟩ := h.client.form
 obtain ⟨xh, yh, rfl, _⟩ := h.host.form
 have b0 := below_alloc (w := w) (.cells #[.int .i64 t.kind, .int .i64 t.msg.id, .bool t.msg.reply, .int .i64 t.msg.op, .bool t.msg.auth, .int .i64 t.msg.code, .slice xq t.msg.qs.length yq, .slice xa t.msg.ans.length ya, .slice xb t.msg.aus.length yb, .slice xm t.msg.more.length ym, .slice xp t.msg.pres.length yp, .slice xu t.msg.ups.length yu, .int .i64 t.ip, .slice xc t.client.length yc, .slice xh t.host.length yh, .int .i64 t.when] 39)
 have KK := hide (heap_alloc_new w (.cells #[.int .i64 t.kind, .int .i64 t.msg.id, .bool t.msg.reply, .int .i64 t.msg.op, .bool t.msg.auth, .int .i64 t.msg.code, .slice xq t.msg.qs.length yq, .slice xa t.msg.ans.length ya, .slice xb t.msg.aus.length yb, .slice xm t.msg.more.length ym, .slice xp t.msg.pres.length yp, .slice xu t.msg.ups.length yu, .int .i64 t.ip, .slice xc t.client.length yc, .slice xh t.host.length yh, .int .i64 t.when] 39))
 have CM := implTxnOk_has (h.below b0) hct
 rw [hok] at CM
 rw [txPut_no hok]
 replace CM := hide CM
 clear h hct hok
 obtain ⟨d0, d1, d2, d3, d4, d5, d6, d7, d8, d9, d10, d11, d12, d13, d14, d15⟩ := cells16 (unhide KK)
 go_enter Tryz.func7, Tryz.ntmps7
 go_wp2_with fail
 clear d0 d1 d2 d3 d4 d5 d6 d7 d8 d9 d10 d11 d12 d13 d14 d15
 refine (unhide CM).mono ?_
 rintro e w1 ⟨rfl, b1⟩
 have bb := below_next b0 b1
 go_wp2_with fail
 go_ret2
 exact ⟨_, rfl, World.ownsRow_nil _ _ _ _, bb⟩

theorem implTxnBytes_has {vq va vb vm vp vu vc vh : Value} {t : Tx} {w : World} (h : HasTx w vq va vb vm vp vu vc vh t) (hct : t.msg.count ≤ 1048576) :
  Calls Tryz.prog 7 #[.agg #[.int .i64 t.kind, .int .i64 t.msg.id, .bool t.msg.reply, .int .i64 t.msg.op, .bool t.msg.auth, .int .i64 t.msg.code, vq, va, vb, vm, vp, vu, .int .i64 t.ip, vc, vh, .int .i64 t.when]] w fun e w' => ∃ v', e = .returned (.tuple #[v', .bool (txPut t).2]) ∧ Own w.heap.size 5 w' v' (txPut t).1 ∧ Below w.heap.size w w' := by
 cases hok : txOk t with
 | false => exact implTxnBytes_no h hct hok
 | true =>
  rw [txPut_yes hok]
  rcases txOk_kind hok with hk | hk | hk | hk
  ·have := implTxnBytes0 h hct hok hk
   rw [hk]
   exact this
  ·have := implTxnBytes1 h hct hok hk
   rw [hk]
   exact this
  ·have := implTxnBytes2 h hct hok hk
   rw [hk]
   exact this
  ·have := implTxnBytes3 h hct hok hk
   rw [hk]
   exact this
end Go.Proofs.YtfbfakdkemlbmaaGreat

namespace Go.Proofs.YtfbfakdkemlbmaaGreat
open Go.RowKit
set_option linter.unusedVariables false

theorem ssign_cases (c : Int) : (97 ≤ c ∧ c ≤ 122) ∨ (97 ≤ c ∧ 122 < c) ∨ (c < 97 ∧ 48 ≤ c ∧ c ≤ 57) ∨ (c < 97 ∧ 48 ≤ c ∧ 57 < c ∧ c ≠ 45) ∨ (c < 97 ∧ c < 48 ∧ c = 45) ∨ (c < 97 ∧ c < 48 ∧ c ≠ 45) := by omega

set_option maxHeartbeats 1600000 in
set_option maxRecDepth 100000 in
theorem specLabelOk_has {v : Value} {l : List Int} {w : World} (h : Has w v l) :
  Calls Tryz.prog 30 #[v] w fun e w' => e = .returned (.bool (labelOk l)) ∧ w = w' := by
 have hbd := h.bound
 unfold maxLen at hbd
 obtain ⟨a, cap, rfl, hL⟩ := h.form
 by_cases h0 : l.length = 0
 ·rw [labelOk_short (by omega), h0]
  go_enter Tryz.func30, Tryz.ntmps30
  go_wp2
  go_ret
  exact ⟨rfl, rfl⟩
 ·by_cases h1 : 15 < l.length
  ·rw [labelOk_short (by omega)]
   generalize hn : l.length = n at *
   go_enter Tryz.func30, Tryz.ntmps30
   go_wp2
   go_ret
   exact ⟨rfl, rfl⟩
  ·have h2 : l.length ≤ 15 := by omega
   have hyes := hide (fun (hs : ∀ j, j < l.length → signOk (l.getD j 0) = true) => labelOk_yes (l := l) (by omega) h2 hs)
   have hno := hide (fun (j : Nat) (hj : j < l.length) (hs : signOk (l.getD j 0) = false) => labelOk_sign hj hs)
   generalize hok : labelOk l = ok at *
   clear hok
   generalize hn : l.length = n at *
   have HN := hide hn
   clear hn
   have hn1 : (1 : Int) ≤ n := by omega
   go_enter Tryz.func30, Tryz.ntmps30
   go_wp2
   go_loop [3] (fun i => ∃ k : Nat, k ≤ n ∧ i = .int .i64 k ∧ Hid (∀ j, j < k → signOk (l.getD j 0) = true)) (fun i => n - (intOf i).toNat)
   case atStart => exact ⟨0, Nat.zero_le _, rfl, hide (fun j hj => absurd hj (Nat.not_lt_zero _))⟩
   case round =>
    obtain ⟨k, hk, rfl, hall⟩ := hrel
    by_cases hlt : k < n
    ·obtain ⟨b, off, rfl, hbl, hc⟩ := hL.here (k := k) (by rw [unhide HN]; exact hlt)
     have hone := hide (fun (hs : signOk (l.getD k 0) = true) => (show ∀ j, j < k + 1 → signOk (l.getD j 0) = true from fun j hj => by
      by_cases e : j = k
      ·subst e; exact hs
      ·exact unhide hall j (by omega)))
     have hnok := hide (fun (hs : signOk (l.getD k 0) = false) => unhide hno k hlt hs)
     generalize hx : l.getD k 0 = x at *
     rcases ssign_cases x with ⟨h1, h2⟩ | ⟨h1, h2⟩ | ⟨h1, h2, h3⟩ | ⟨h1, h2, h3, h4⟩ | ⟨h1, h2, rfl⟩ | ⟨h1, h2, h3⟩
     ·have hs : signOk x = true := decide_eq_true (by omega)
      go_wp2
      exact ⟨⟨k + 1, by omega, by go_num, hide (unhide hone hs)⟩, by simp [intOf]; omega⟩
     ·have hs : signOk x = false := decide_eq_false (by omega)
      have hq := unhide hnok hs
      subst hq
      have h8 : (x == 45) = false := by simp; omega
      have h5 : 48 ≤ x := by omega
      have h6 : ¬ x ≤ 57 := by omega
      have h7 : ¬ x ≤ 122 := by omega
      go_wp2
      go_ret
      exact ⟨rfl, rfl⟩
     ·have hs : signOk x = true := decide_eq_true (by omega)
      have h5 : ¬ 97 ≤ x := by omega
      go_wp2
      exact ⟨⟨k + 1, by omega, by go_num, hide (unhide hone hs)⟩, by simp [intOf]; omega⟩
     ·have hs : signOk x = false := decide_eq_false (by omega)
      have hq := unhide hnok hs
      subst hq
      have h8 : (x == 45) = false := by simp; omega
      have h5 : ¬ 97 ≤ x := by omega
      have h6 : ¬ x ≤ 57 := by omega
      go_wp2
      go_ret
      exact ⟨rfl, rfl⟩
     ·have hs : signOk 45 = true := rfl
      go_wp2
      exact ⟨⟨k + 1, by omega, by go_num, hide (unhide hone hs)⟩, by simp [intOf]; omega⟩
     ·have hs : signOk x = false := decide_eq_false (by omega)
      have hq := unhide hnok hs
      subst hq
      have h8 : (x == 45) = false := by simp; omega
      have h5 : ¬ 97 ≤ x := by omega
      have h6 : ¬ 48 ≤ x := by omega
      go_wp2
      go_ret
      exact ⟨rfl, rfl⟩
    ·obtain rfl : k = n := by omega
     have hq := unhide hyes (unhide hall)
     subst hq
     go_wp2
     go_ret
     exact ⟨rfl, rfl⟩
end Go.Proofs.YtfbfakdkemlbmaaGreat

namespace Go.Proofs.YtfbfakdkemlbmaaGreat
open Go.RowKit
set_option linter.unusedVariables false

set_option maxHeartbeats 400000 in
set_option maxRecDepth 100000 in
theorem specNameOk_has {v : Value} {n : List (List Int)} {w : World} (h : HasL w v n) :
  Calls Tryz.prog 63 #[.agg #[v]] w fun e w' => e = .returned (.bool (nameOk n)) ∧ Below w.heap.size w w' := by
 obtain ⟨a, cap, rfl, hl, hm⟩ := h.form
 unfold maxLen at hm
 by_cases h1 : 6 < n.length
 ·rw [nameOk_long h1]
  have H := hide h
  clear h
  generalize hn : n.length = m at *
  have HN := hide hn
  clear hn
  go_enter Tryz.func63, Tryz.ntmps63
  go_wp2
  go_ret
  exact ⟨rfl, below_alloc _⟩
 ·have h2 : n.length ≤ 6 := by omega
  have hA := h.below (below_alloc (.cells #[.slice a n.length cap] 100))
  have H := hide h
  clear h
  have hyes := hide (fun (hs : ∀ j, j < n.length → labelOk (n.getD j []) = true) => nameOk_yes (n := n) h2 hs)
  have hno := hide (fun (j : Nat) (hj : j < n.length) (hs : labelOk (n.getD j []) = false) => nameOk_label hj hs)
  generalize hok : nameOk n = ok at *
  clear hok
  generalize hn : n.length = m at *
  have HN := hide hn
  clear hn
  go_enter Tryz.func63, Tryz.ntmps63
  go_wp2
  go_loop [3] (fun i => ∃ k : Nat, k ≤ m ∧ i = .int .i64 k ∧ Hid (∀ j, j < k → labelOk (n.getD j []) = true)) (fun i => m - (intOf i).toNat)
  case atStart => exact ⟨0, Nat.zero_le _, rfl, hide (fun j hj => absurd hj (Nat.not_lt_zero _))⟩
  case round =>
   obtain ⟨k, hk, rfl, hall⟩ := hrel
   by_cases hlt : k < m
   ·obtain ⟨b, off, u, rfl, hbl, hc, hu⟩ := hA.here (k := k) (by rw [unhide HN]; exact hlt)
    have hone := hide (fun (hs : labelOk (n.getD k []) = true) => (show ∀ j, j < k + 1 → labelOk (n.getD j []) = true from fun j hj => by
      by_cases e : j = k
      ·subst e; exact hs
      ·exact unhide hall j (by omega)))
    have hnok := hide (fun (hs : labelOk (n.getD k []) = false) => unhide hno k hlt hs)
    generalize hx : n.getD k [] = x at *
    have HU := hide hu
    obtain ⟨ua, uc, rfl, _⟩ := hu.form
    clear hu
    go_wp2_with fail
    refine (specLabelOk_has (unhide HU)).mono ?_
    rintro e w1 ⟨rfl, rfl⟩
    cases hs : labelOk x with
    | true =>
     go_wp2
     exact ⟨⟨k + 1, by omega, by go_num, hide (unhide hone hs)⟩, by simp [intOf]; omega⟩
    | false =>
     have hq := unhide hnok hs
     subst hq
     go_wp2
     go_ret
     exact ⟨rfl, below_alloc _⟩
   ·obtain rfl : k = m := by omega
    have hq := unhide hyes (unhide hall)
    subst hq
    go_wp2
    go_ret
    exact ⟨rfl, below_alloc _⟩
end Go.Proofs.YtfbfakdkemlbmaaGreat
