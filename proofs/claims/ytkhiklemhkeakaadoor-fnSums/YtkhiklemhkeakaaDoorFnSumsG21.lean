/-
  Plain facts: what identifies a client with a name, in lists. No program is named here. Contracts of the program's labelSign and LabelOk.
-/
import Derived.Test.YtkhiklemhkeakaaDoorFnSumsG15
import Derived.Test.YtkhiklemhkeakaaDoorFnSumsG04
import Derived.Test.YtkhiklemhkeakaaDoorFnSumsG01
namespace Go.Proofs.YtkhiklemhkeakaaDoor
open Go.RowKit
set_option linter.unusedVariables false

def clientOk (l : List Int) : Bool := decide (1 ≤ l.length) && decide (l.length ≤ 16)
def dhcidOf (l : List Int) (n : List (List Int)) : List Int := if (clientOk l && nameOk n) = true then [0, 1, 1] ++ shaOf (l ++ wire n) else []
theorem shaOf_length (l : List Int) : (shaOf l).length = 32 := by unfold shaOf; rw [outK_length]
theorem dhcidOf_length (l : List Int) (n : List (List Int)) : (dhcidOf l n).length ≤ 35 := by
  unfold dhcidOf
  split
  · rw [List.length_append, shaOf_length]; simp
  · simp
theorem wire_bytes {n : List (List Int)} (h : nameOk n = true) : ∀ x ∈ wire n, 0 ≤ x ∧ x ≤ 255 := by
  have hp := nameOk_parts h
  intro x hx
  unfold wire wires at hx
  rw [List.take_length] at hx
  rcases List.mem_append.1 hx with hx | hx
  · obtain ⟨l, hl, hx⟩ := List.mem_flatten.1 hx
    obtain ⟨m, hm, rfl⟩ := List.mem_map.1 hl
    obtain ⟨k, hk, rfl⟩ := List.mem_iff_getElem.1 hm
    have hok := hp.2 k hk
    rw [show n.getD k [] = n[k] by simp [hk]] at hok
    rcases List.mem_cons.1 hx with rfl | hx
    · have := labelOk_length hok
      omega
    · have hs := (of_decide_eq_true hok).2.2
      obtain ⟨j, hj, rfl⟩ := List.mem_iff_getElem.1 hx
      have := hs j hj
      rw [show n[k].getD j 0 = n[k][j] by simp [hj]] at this
      have := of_decide_eq_true this
      omega
  · simp only [List.mem_singleton] at hx
    omega
theorem dhcid_bytes {l : List Int} {n : List (List Int)} (h8 : Bytes8 l) (h : nameOk n = true) : Bytes8 (l ++ wire n) := bytes8_mem (fun x hx => by
  rcases List.mem_append.1 hx with hx | hx
  · exact of_bytes8 h8 x hx
  · exact wire_bytes h x hx)
end Go.Proofs.YtkhiklemhkeakaaDoor

namespace Go.Proofs.YtkhiklemhkeakaaDoor
open Go.RowKit
set_option linter.unusedVariables false

theorem sign_cases (c : Int) : (97 ≤ c ∧ c ≤ 122) ∨ (97 ≤ c ∧ 122 < c) ∨ (c < 97 ∧ 48 ≤ c ∧ c ≤ 57) ∨ (c < 97 ∧ 48 ≤ c ∧ 57 < c ∧ c ≠ 45) ∨ (c < 97 ∧ c < 48 ∧ c = 45) ∨ (c < 97 ∧ c < 48 ∧ c ≠ 45) := by omega

set_option maxHeartbeats 400000 in
set_option maxRecDepth 100000 in
theorem labelSign_any (c : Int) (w : World) :
    Calls Tryd.prog 46 #[.int .u8 c] w fun e w' => e = .returned (.bool (signOk c)) ∧ w = w' := by
  rcases sign_cases c with ⟨h1, h2⟩ | ⟨h1, h2⟩ | ⟨h1, h2, h3⟩ | ⟨h1, h2, h3, h4⟩ | ⟨h1, h2, rfl⟩ | ⟨h1, h2, h3⟩
  · have hs : signOk c = true := decide_eq_true (by omega)
    rw [hs]
    go_enter Tryd.func46, Tryd.ntmps46
    go_wp2
    go_ret
    exact ⟨rfl, rfl⟩
  · have hs : signOk c = false := decide_eq_false (by omega)
    rw [hs]
    have h5 : 48 ≤ c := by omega
    have h6 : ¬ c ≤ 57 := by omega
    have h7 : ¬ c ≤ 122 := by omega
    have h8 : (c == 45) = false := by simp; omega
    go_enter Tryd.func46, Tryd.ntmps46
    go_wp2
    go_ret
    exact ⟨rfl, rfl⟩
  · have hs : signOk c = true := decide_eq_true (by omega)
    rw [hs]
    have h5 : ¬ 97 ≤ c := by omega
    go_enter Tryd.func46, Tryd.ntmps46
    go_wp2
    go_ret
    exact ⟨rfl, rfl⟩
  · have hs : signOk c = false := decide_eq_false (by omega)
    rw [hs]
    have h5 : ¬ 97 ≤ c := by omega
    have h6 : ¬ c ≤ 57 := by omega
    have h8 : (c == 45) = false := by simp; omega
    go_enter Tryd.func46, Tryd.ntmps46
    go_wp2
    go_ret
    exact ⟨rfl, rfl⟩
  · have hs : signOk 45 = true := rfl
    rw [hs]
    go_enter Tryd.func46, Tryd.ntmps46
    go_wp2
    go_ret
    exact ⟨rfl, rfl⟩
  · have hs : signOk c = false := decide_eq_false (by omega)
    rw [hs]
    have h5 : ¬ 97 ≤ c := by omega
    have h6 : ¬ 48 ≤ c := by omega
    have h8 : (c == 45) = false := by simp; omega
    go_enter Tryd.func46, Tryd.ntmps46
    go_wp2
    go_ret
    exact ⟨rfl, rfl⟩

set_option maxHeartbeats 400000 in
set_option maxRecDepth 100000 in
theorem implLabelOk_has {v : Value} {l : List Int} {w : World} (h : Has w v l) :
    Calls Tryd.prog 36 #[v] w fun e w' => e = .returned (.bool (labelOk l)) ∧ w = w' := by
  have hbd := h.bound
  unfold maxLen at hbd
  obtain ⟨a, cap, rfl, hL⟩ := h.form
  by_cases h0 : l.length = 0
  · rw [labelOk_short (by omega), h0]
    go_enter Tryd.func36, Tryd.ntmps36
    go_wp2
    go_ret
    exact ⟨rfl, rfl⟩
  · by_cases h1 : 15 < l.length
    · rw [labelOk_short (by omega)]
      generalize hn : l.length = n at *
      have h3 : ((n : Int) == 0) = false := by simp; omega
      go_enter Tryd.func36, Tryd.ntmps36
      go_wp2
      go_ret
      exact ⟨rfl, rfl⟩
    · have h2 : l.length ≤ 15 := by omega
      have hyes := hide (fun (hs : ∀ j, j < l.length → signOk (l.getD j 0) = true) => labelOk_yes (l := l) (by omega) h2 hs)
      have hno := hide (fun (j : Nat) (hj : j < l.length) (hs : signOk (l.getD j 0) = false) => labelOk_sign hj hs)
      generalize hok : labelOk l = ok at *
      clear hok
      generalize hn : l.length = n at *
      have HN := hide hn
      clear hn
      have h3 : ((n : Int) == 0) = false := by simp; omega
      go_enter Tryd.func36, Tryd.ntmps36
      go_wp2
      go_loop [15] (fun i => ∃ k : Nat, k ≤ n ∧ i = .int .i64 k ∧ Hid (∀ j, j < k → signOk (l.getD j 0) = true)) (fun i => n - (intOf i).toNat)
      case atStart => exact ⟨0, Nat.zero_le _, rfl, hide (fun j hj => absurd hj (Nat.not_lt_zero _))⟩
      case round =>
        obtain ⟨k, hk, rfl, hall⟩ := hrel
        by_cases hlt : k < n
        · obtain ⟨b, off, rfl, hbl, hc⟩ := hL.here (k := k) (by rw [unhide HN]; exact hlt)
          have hone := hide (fun (hs : signOk (l.getD k 0) = true) => (show ∀ j, j < k + 1 → signOk (l.getD j 0) = true from fun j hj => by
            by_cases e : j = k
            · subst e; exact hs
            · exact unhide hall j (by omega)))
          have hnok := hide (fun (hs : signOk (l.getD k 0) = false) => unhide hno k hlt hs)
          generalize hx : l.getD k 0 = x at *
          go_wp2_with fail
          refine (labelSign_any x _).mono ?_
          rintro e w1 ⟨rfl, rfl⟩
          cases hs : signOk x with
          | true =>
            go_wp2
            exact ⟨⟨k + 1, by omega, by go_num, hide (unhide hone hs)⟩, by simp [intOf]; omega⟩
          | false =>
            have hq := unhide hnok hs
            subst hq
            go_wp2
            go_ret
            exact ⟨rfl, rfl⟩
        · obtain rfl : k = n := by omega
          have hq := unhide hyes (unhide hall)
          subst hq
          go_wp2
          go_ret
          exact ⟨rfl, rfl⟩
end Go.Proofs.YtkhiklemhkeakaaDoor
