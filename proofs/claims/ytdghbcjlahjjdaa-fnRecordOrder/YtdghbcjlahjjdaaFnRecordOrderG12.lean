/-
  Plain facts: which records may be. No program is named here. Contracts of the specification's LabelOk.
-/
import Derived.Test.YtdghbcjlahjjdaaFnRecordOrderG08
import Derived.Test.YtdghbcjlahjjdaaFnRecordOrderG11
import Derived.Test.YtdghbcjlahjjdaaFnRecordOrderG02
import Derived.Test.YtdghbcjlahjjdaaFnRecordOrderG00
namespace Go.Proofs.Ytdghbcjlahjjdaa
open Go.RowKit

def named (t : Int) : Bool := decide (t = 2 ∨ t = 5 ∨ t = 6 ∨ t = 12)
def texted (t : Int) : Bool := decide (t = 16 ∨ t = 49)

/-- The data are as the type wants them. -/
def dataOk (r : Rec) : Bool :=
  (if r.type = 1 then decide (0 ≤ r.addr ∧ r.addr ≤ 4294967295) else decide (r.addr = 0)) && ((if named r.type = true then nameOk r.to else decide (r.to.length = 0)) && ((if texted r.type = true then decide (r.text.length ≤ 40) else decide (r.text.length = 0)) &&
  (if r.type = 6 then decide (r.nums.length = 2 ∧ 0 ≤ r.nums.getD 0 0 ∧ r.nums.getD 0 0 ≤ 4294967295 ∧ 0 ≤ r.nums.getD 1 0 ∧ r.nums.getD 1 0 ≤ 100000) else decide (r.nums.length = 0))))
def rrOk (r : Rec) : Bool := nameOk r.name && (typeOk r.type && (decide (0 ≤ r.ttl ∧ r.ttl ≤ 100000) && dataOk r))

theorem HasI.two {w : World} {v : Value} {x y : Int} (h : HasI w v [x, y]) : ∃ g off cap, v = .slice (some ⟨g, off, none⟩) 2 cap ∧ g < w.heap.size ∧ w.cell? ⟨g, off, none⟩ = some (.int .i64 x) ∧ w.cell? ⟨g, off + 1, none⟩ = some (.int .i64 y) := by
  rcases h with ⟨_, h⟩ | ⟨g, off, cap, hv, hlt, _, _, hc⟩
  · cases h
  · exact ⟨g, off, cap, hv, hlt, hc 0 (by simp), hc 1 (by simp)⟩
theorem two_of {l : List Int} (h : l.length = 2) : ∃ x y, l = [x, y] := by
  match l, h with
  | [x, y], _ => exact ⟨x, y, rfl⟩
theorem nil_of {α : Type} {l : List α} (h : l.length = 0) : l = [] := List.eq_nil_of_length_eq_zero h
end Go.Proofs.Ytdghbcjlahjjdaa

namespace Go.Proofs.Ytdghbcjlahjjdaa
open Go.RowKit
set_option linter.unusedVariables false

theorem ssign_cases (c : Int) : (97 ≤ c ∧ c ≤ 122) ∨ (97 ≤ c ∧ 122 < c) ∨ (c < 97 ∧ 48 ≤ c ∧ c ≤ 57) ∨ (c < 97 ∧ 48 ≤ c ∧ 57 < c ∧ c ≠ 45) ∨ (c < 97 ∧ c < 48 ∧ c = 45) ∨ (c < 97 ∧ c < 48 ∧ c ≠ 45) := by omega

set_option maxHeartbeats 1600000 in
set_option maxRecDepth 100000 in
theorem specLabelOk_has {v : Value} {l : List Int} {w : World} (h : Has w v l) :
    Calls Try.prog 66 #[v] w fun e w' => e = .returned (.bool (labelOk l)) ∧ w = w' := by
  have hbd := h.bound
  unfold maxLen at hbd
  obtain ⟨a, cap, rfl, hL⟩ := h.form
  by_cases h0 : l.length = 0
  · rw [labelOk_short (by omega), h0]
    go_enter Try.func66, Try.ntmps66
    go_wp2
    go_ret
    exact ⟨rfl, rfl⟩
  · by_cases h1 : 15 < l.length
    · rw [labelOk_short (by omega)]
      generalize hn : l.length = n at *
      go_enter Try.func66, Try.ntmps66
      go_wp2
      go_ret
      exact ⟨rfl, rfl⟩
    · have h2 : l.length ≤ 15 := by omega
      have hyes := hide (fun (hs : ∀ j, j < l.length → signOk (l.getD j 0) = true) => labelOk_yes (l := l) (by omega) h2 hs)
      have hno := hide (fun (j : Nat) (hj : j < l.length) (hs : signOk (l.getD j 0) = false) => labelOk_sign hj hs)
      generalize hok : labelOk l = ok at *
      clear hok
      generalize hn : l.length = n at *
      have HN := hide hn
      clear hn
      have hn1 : (1 : Int) ≤ n := by omega
      go_enter Try.func66, Try.ntmps66
      go_wp2
      go_loop [3] (fun i => ∃ k : Nat, k ≤ n ∧ i = .int .i64 k ∧ Hid (∀ j, j < k → signOk (l.getD j 0) = true)) (fun i => n - (intOf i).toNat)
      case atStart => exact ⟨0, Nat.zero_le _, rfl, hide (fun j hj => absurd hj (Nat.not_lt_zero _))⟩
      case round =>
        obtain ⟨k, hk, rfl, hall⟩ := hrel
        by_cases hlt : k < n
        · obtain ⟨b, off, rfl, hbl, hc⟩ := hL.here (k := k) (by rw [unhide HN]; exact hlt)
          have hone := hide (fun (hs : signOk (l.getD k 0) = true) => (show ∀ j, j < k + 1 → signOk (l.getD j 0) = true from fun j hj => by
            by_cases e : j = k
            · subst e; exact hs
            · exact unhide hall j (by omega)))
          have hnok := hide (fun (hs : signOk (l.getD k 0) = false) => unhide hno k hlt hs)
          generalize hx : l.getD k 0 = x at *
          rcases ssign_cases x with ⟨h1, h2⟩ | ⟨h1, h2⟩ | ⟨h1, h2, h3⟩ | ⟨h1, h2, h3, h4⟩ | ⟨h1, h2, rfl⟩ | ⟨h1, h2, h3⟩
          · have hs : signOk x = true := decide_eq_true (by omega)
            go_wp2
            exact ⟨⟨k + 1, by omega, by go_num, hide (unhide hone hs)⟩, by simp [intOf]; omega⟩
          · have hs : signOk x = false := decide_eq_false (by omega)
            have hq := unhide hnok hs
            subst hq
            have h8 : (x == 45) = false := by simp; omega
            have h5 : 48 ≤ x := by omega
            have h6 : ¬ x ≤ 57 := by omega
            have h7 : ¬ x ≤ 122 := by omega
            go_wp2
            go_ret
            exact ⟨rfl, rfl⟩
          · have hs : signOk x = true := decide_eq_true (by omega)
            have h5 : ¬ 97 ≤ x := by omega
            go_wp2
            exact ⟨⟨k + 1, by omega, by go_num, hide (unhide hone hs)⟩, by simp [intOf]; omega⟩
          · have hs : signOk x = false := decide_eq_false (by omega)
            have hq := unhide hnok hs
            subst hq
            have h8 : (x == 45) = false := by simp; omega
            have h5 : ¬ 97 ≤ x := by omega
            have h6 : ¬ x ≤ 57 := by omega
            go_wp2
            go_ret
            exact ⟨rfl, rfl⟩
          · have hs : signOk 45 = true := rfl
            go_wp2
            exact ⟨⟨k + 1, by omega, by go_num, hide (unhide hone hs)⟩, by simp [intOf]; omega⟩
          · have hs : signOk x = false := decide_eq_false (by omega)
            have hq := unhide hnok hs
            subst hq
            have h8 : (x == 45) = false := by simp; omega
            have h5 : ¬ 97 ≤ x := by omega
            have h6 : ¬ 48 ≤ x := by omega
            go_wp2
            go_ret
            exact ⟨rfl, rfl⟩
        · obtain rfl : k = n := by omega
          have hq := unhide hyes (unhide hall)
          subst hq
          go_wp2
          go_ret
          exact ⟨rfl, rfl⟩
end Go.Proofs.Ytdghbcjlahjjdaa
