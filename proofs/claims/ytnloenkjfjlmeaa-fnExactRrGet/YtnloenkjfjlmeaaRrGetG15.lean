/-
  Contracts of the program's countedGet, pointerGet and labelGet. Contracts of the program's labelSign and LabelOk.
-/
import Derived.Test.YtnloenkjfjlmeaaRrGetG09
import Derived.Test.YtnloenkjfjlmeaaRrGetG12
import Derived.Test.YtnloenkjfjlmeaaRrGetG13
import Derived.Test.YtnloenkjfjlmeaaRrGetG14
import Derived.Test.YtnloenkjfjlmeaaRrGetG04
import Derived.Test.YtnloenkjfjlmeaaRrGetG00
namespace Go.Proofs.Ytnloenkjfjlmeaa
open Go.RowKit
set_option linter.unusedVariables false

set_option maxHeartbeats 800000 in
set_option maxRecDepth 100000 in
theorem countedGet_own {B : Nat} {v : Value} {l : List Int} (p : Int) {w : World} (h : Own B 5 w v l) (hl : l.length ≤ 1048576) (hp : p ≤ 9223372036854775807) (hb : Bytes8 l) :
    Calls Try.prog 111 #[v, .int .i64 p] w fun e w' => ∃ v', e = .returned (.tuple #[v', .int .i64 (countedOf l p).2]) ∧ Own w.heap.size 5 w' v' (countedOf l p).1 ∧ Below w.heap.size w w' := by
  by_cases hc : 0 ≤ p ∧ p + 1 ≤ l.length
  · obtain ⟨i, rfl⟩ := Int.eq_ofNat_of_zero_le hc.1
    have e1 : takeOf l i 1 = ([l.getD i 0], (i : Int) + 1) := by
      have := takeOf_yes (l := l) (i := i) (m := 1) (by omega)
      rw [show ((1 : Nat) : Int) = 1 from rfl] at this
      rw [this]
      congr 1
      have hi : i < l.length := by omega
      rw [List.drop_eq_getElem_cons hi, List.take_succ_cons, List.take_zero, List.getD_eq_getElem?_getD, List.getElem?_eq_getElem hi]
      rfl
    have hq : countedOf l i = takeOf l ((i : Int) + 1) (l.getD i 0) := by
      unfold countedOf; rw [e1]; rw [if_neg (by show ¬ (i : Int) + 1 < 0; omega)]; simp
    rw [hq]
    have hx := hb i
    have ht1 := implTake_any (i : Int) 1 h hl hp
    rw [e1] at ht1
    generalize l.getD i 0 = x at *
    have T1 := hide ht1
    have H := hide h
    clear ht1 hq e1 h hb
    generalize hR : takeOf l ((i : Int) + 1) x = R
    have HR := hide hR
    clear hR
    go_enter Try.func111, Try.ntmps111
    go_wp2_with fail
    refine (unhide T1).mono ?_
    rintro e w1 ⟨v1, rfl, o1, b1⟩
    have h1 := hide ((unhide H).below b1)
    rcases o1.form with ⟨_, he⟩ | ⟨g, cap, rfl, hg0, hg, hcap, _, hcx, _⟩
    · simp at he
    have c0 : w1.cell? ⟨g, 0, none⟩ = some (.int .u8 x) := hcx 0 (by simp)
    clear hcx o1
    go_wp2_with fail
    refine (implTake_any ((i : Int) + 1) x (unhide h1) hl (by omega)).mono ?_
    rw [unhide HR]
    rintro e w2 ⟨v2, rfl, o2, b2⟩
    go_wp2
    go_ret2
    exact ⟨v2, rfl, o2.mono b1.size, below_next b1 b2⟩
  · have e1 : takeOf l p 1 = ([], -1) := takeOf_no (by omega)
    have hq : countedOf l p = ([], -1) := by unfold countedOf; rw [e1]; rfl
    rw [hq]
    have ht1 := implTake_any p 1 h hl hp
    rw [e1] at ht1
    have T1 := hide ht1
    clear ht1 hq e1 h hb
    go_enter Try.func111, Try.ntmps111
    go_wp2_with fail
    refine (unhide T1).mono ?_
    rintro e w1 ⟨v1, rfl, o1, b1⟩
    go_wp2
    go_ret2
    exact ⟨_, rfl, World.ownsRow_nil _ _ _ _, b1⟩

set_option maxHeartbeats 800000 in
set_option maxRecDepth 100000 in
theorem pointerGet_own {B : Nat} {v : Value} {l : List Int} (p : Int) {w : World} (h : Own B 5 w v l) (hl : l.length ≤ 1048576) (hp : p ≤ 9223372036854775807) (hb : Bytes8 l) :
    Calls Try.prog 70 #[v, .int .i64 p] w fun e w' => e = .returned (.tuple #[.int .i64 (pointerOf l p).1, .int .i64 (pointerOf l p).2]) ∧ Below w.heap.size w w' := by
  have hG := implGet16_any p h (by omega) hp hb
  have hbd := get16_bound hb p
  have hP : pointerOf l p = if (get16 l p).2 < 0 ∨ (get16 l p).1 < 49152 ∨ p ≤ (get16 l p).1 - 49152 then (0, -1) else ((get16 l p).1 - 49152, (get16 l p).2) := rfl
  rw [hP]
  generalize (get16 l p).1 = a at *
  generalize (get16 l p).2 = b at *
  have G := hide hG
  clear hG hP
  by_cases h1 : b < 0
  · rw [if_pos (.inl h1)]
    go_enter Try.func70, Try.ntmps70
    go_wp2_with fail
    refine (unhide G).mono ?_
    rintro e w1 ⟨rfl, b1⟩
    go_wp2
    go_ret2
    exact ⟨rfl, b1⟩
  · by_cases h2 : a < 49152
    · rw [if_pos (.inr (.inl h2))]
      go_enter Try.func70, Try.ntmps70
      go_wp2_with fail
      refine (unhide G).mono ?_
      rintro e w1 ⟨rfl, b1⟩
      go_wp2
      go_ret2
      exact ⟨rfl, b1⟩
    · by_cases h3 : p ≤ a - 49152
      · rw [if_pos (.inr (.inr h3))]
        go_enter Try.func70, Try.ntmps70
        go_wp2_with fail
        refine (unhide G).mono ?_
        rintro e w1 ⟨rfl, b1⟩
        go_wp2
        go_ret2
        exact ⟨rfl, b1⟩
      · rw [if_neg (by omega)]
        go_enter Try.func70, Try.ntmps70
        go_wp2_with fail
        refine (unhide G).mono ?_
        rintro e w1 ⟨rfl, b1⟩
        go_wp2
        go_ret2
        exact ⟨rfl, b1⟩

set_option maxHeartbeats 800000 in
set_option maxRecDepth 100000 in
theorem labelGet_own {B : Nat} {v : Value} {l : List Int} (p : Int) {w : World} (h : Own B 5 w v l) (hl : l.length ≤ 1048576) (hp : p ≤ 9223372036854775807) (hb : Bytes8 l) :
    Calls Try.prog 71 #[v, .int .i64 p] w fun e w' => ∃ v', e = .returned (.tuple #[v', .int .i64 (labelOf l p).2]) ∧ Own w.heap.size 5 w' v' (labelOf l p).1 ∧ Below w.heap.size w w' := by
  have hC := countedGet_own p h hl hp hb
  have hb8 : Bytes8 (countedOf l p).1 := by
    unfold countedOf; split
    · intro k; simp
    · exact bytes8_take hb _ _
  have hP : labelOf l p = if 15 < (countedOf l p).1.length then ([], -1) else (lowered (countedOf l p).1 (countedOf l p).1.length, (countedOf l p).2) := rfl
  rw [hP]
  generalize (countedOf l p).1 = t at *
  generalize (countedOf l p).2 = b at *
  have C := hide hC
  have B8 := hide hb8
  clear hC hP hb8 hb h
  by_cases h1 : 15 < t.length
  · rw [if_pos h1]
    go_enter Try.func71, Try.ntmps71
    go_wp2_with fail
    refine (unhide C).mono ?_
    rintro e w1 ⟨v1, rfl, o1, b1⟩
    obtain ⟨a1, c1, rfl, _⟩ := o1.lies
    have hm := o1.has.bound
    unfold maxLen at hm
    clear o1
    go_wp2
    go_ret2
    exact ⟨_, rfl, World.ownsRow_nil _ _ _ _, b1⟩
  · rw [if_neg h1]
    go_enter Try.func71, Try.ntmps71
    go_wp2_with fail
    refine (unhide C).mono ?_
    rintro e w1 ⟨v1, rfl, o1, b1⟩
    have O1 := hide o1
    obtain ⟨a1, c1, rfl, _⟩ := o1.lies
    clear o1
    go_wp2_with fail
    refine (implLower_any (unhide O1) (by omega) (unhide B8)).mono ?_
    rintro e w2 ⟨v2, rfl, o2, b2⟩
    go_wp2
    go_ret2
    exact ⟨v2, rfl, o2.mono b1.size, below_next b1 b2⟩
end Go.Proofs.Ytnloenkjfjlmeaa

namespace Go.Proofs.Ytnloenkjfjlmeaa
open Go.RowKit
set_option linter.unusedVariables false

theorem sign_cases (c : Int) : (97 ≤ c ∧ c ≤ 122) ∨ (97 ≤ c ∧ 122 < c) ∨ (c < 97 ∧ 48 ≤ c ∧ c ≤ 57) ∨ (c < 97 ∧ 48 ≤ c ∧ 57 < c ∧ c ≠ 45) ∨ (c < 97 ∧ c < 48 ∧ c = 45) ∨ (c < 97 ∧ c < 48 ∧ c ≠ 45) := by omega

set_option maxHeartbeats 400000 in
set_option maxRecDepth 100000 in
theorem labelSign_any (c : Int) (w : World) :
    Calls Try.prog 67 #[.int .u8 c] w fun e w' => e = .returned (.bool (signOk c)) ∧ w = w' := by
  rcases sign_cases c with ⟨h1, h2⟩ | ⟨h1, h2⟩ | ⟨h1, h2, h3⟩ | ⟨h1, h2, h3, h4⟩ | ⟨h1, h2, rfl⟩ | ⟨h1, h2, h3⟩
  · have hs : signOk c = true := decide_eq_true (by omega)
    rw [hs]
    go_enter Try.func67, Try.ntmps67
    go_wp2
    go_ret
    exact ⟨rfl, rfl⟩
  · have hs : signOk c = false := decide_eq_false (by omega)
    rw [hs]
    have h5 : 48 ≤ c := by omega
    have h6 : ¬ c ≤ 57 := by omega
    have h7 : ¬ c ≤ 122 := by omega
    have h8 : (c == 45) = false := by simp; omega
    go_enter Try.func67, Try.ntmps67
    go_wp2
    go_ret
    exact ⟨rfl, rfl⟩
  · have hs : signOk c = true := decide_eq_true (by omega)
    rw [hs]
    have h5 : ¬ 97 ≤ c := by omega
    go_enter Try.func67, Try.ntmps67
    go_wp2
    go_ret
    exact ⟨rfl, rfl⟩
  · have hs : signOk c = false := decide_eq_false (by omega)
    rw [hs]
    have h5 : ¬ 97 ≤ c := by omega
    have h6 : ¬ c ≤ 57 := by omega
    have h8 : (c == 45) = false := by simp; omega
    go_enter Try.func67, Try.ntmps67
    go_wp2
    go_ret
    exact ⟨rfl, rfl⟩
  · have hs : signOk 45 = true := rfl
    rw [hs]
    go_enter Try.func67, Try.ntmps67
    go_wp2
    go_ret
    exact ⟨rfl, rfl⟩
  · have hs : signOk c = false := decide_eq_false (by omega)
    rw [hs]
    have h5 : ¬ 97 ≤ c := by omega
    have h6 : ¬ 48 ≤ c := by omega
    have h8 : (c == 45) = false := by simp; omega
    go_enter Try.func67, Try.ntmps67
    go_wp2
    go_ret
    exact ⟨rfl, rfl⟩

set_option maxHeartbeats 400000 in
set_option maxRecDepth 100000 in
theorem implLabelOk_has {v : Value} {l : List Int} {w : World} (h : Has w v l) :
    Calls Try.prog 24 #[v] w fun e w' => e = .returned (.bool (labelOk l)) ∧ w = w' := by
  have hbd := h.bound
  unfold maxLen at hbd
  obtain ⟨a, cap, rfl, hL⟩ := h.form
  by_cases h0 : l.length = 0
  · rw [labelOk_short (by omega), h0]
    go_enter Try.func24, Try.ntmps24
    go_wp2
    go_ret
    exact ⟨rfl, rfl⟩
  · by_cases h1 : 15 < l.length
    · rw [labelOk_short (by omega)]
      generalize hn : l.length = n at *
      have h3 : ((n : Int) == 0) = false := by simp; omega
      go_enter Try.func24, Try.ntmps24
      go_wp2
      go_ret
      exact ⟨rfl, rfl⟩
    · have h2 : l.length ≤ 15 := by omega
      have hyes := hide (fun (hs : ∀ j, j < l.length → signOk (l.getD j 0) = true) => labelOk_yes (l := l) (by omega) h2 hs)
      have hno := hide (fun (j : Nat) (hj : j < l.length) (hs : signOk (l.getD j 0) = false) => labelOk_sign hj hs)
      generalize hok : labelOk l = ok at *
      clear hok
      generalize hn : l.length = n at *
      have HN := hide hn
      clear hn
      have h3 : ((n : Int) == 0) = false := by simp; omega
      go_enter Try.func24, Try.ntmps24
      go_wp2
      go_loop [15] (fun i => ∃ k : Nat, k ≤ n ∧ i = .int .i64 k ∧ Hid (∀ j, j < k → signOk (l.getD j 0) = true)) (fun i => n - (intOf i).toNat)
      case atStart => exact ⟨0, Nat.zero_le _, rfl, hide (fun j hj => absurd hj (Nat.not_lt_zero _))⟩
      case round =>
        obtain ⟨k, hk, rfl, hall⟩ := hrel
        by_cases hlt : k < n
        · obtain ⟨b, off, rfl, hbl, hc⟩ := hL.here (k := k) (by rw [unhide HN]; exact hlt)
          have hone := hide (fun (hs : signOk (l.getD k 0) = true) => (show ∀ j, j < k + 1 → signOk (l.getD j 0) = true from fun j hj => by
            by_cases e : j = k
            · subst e; exact hs
            · exact unhide hall j (by omega)))
          have hnok := hide (fun (hs : signOk (l.getD k 0) = false) => unhide hno k hlt hs)
          generalize hx : l.getD k 0 = x at *
          go_wp2_with fail
          refine (labelSign_any x _).mono ?_
          rintro e w1 ⟨rfl, rfl⟩
          cases hs : signOk x with
          | true =>
            go_wp2
            exact ⟨⟨k + 1, by omega, by go_num, hide (unhide hone hs)⟩, by simp [intOf]; omega⟩
          | false =>
            have hq := unhide hnok hs
            subst hq
            go_wp2
            go_ret
            exact ⟨rfl, rfl⟩
        · obtain rfl : k = n := by omega
          have hq := unhide hyes (unhide hall)
          subst hq
          go_wp2
          go_ret
          exact ⟨rfl, rfl⟩
end Go.Proofs.Ytnloenkjfjlmeaa
