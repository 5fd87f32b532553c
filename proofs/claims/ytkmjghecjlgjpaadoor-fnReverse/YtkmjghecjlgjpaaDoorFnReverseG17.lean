/-
  Contracts of the specification's Lower. Contracts of the specification's LabelOk.
-/
import Derived.Test.YtkmjghecjlgjpaaDoorFnReverseG02
import Derived.Test.YtkmjghecjlgjpaaDoorFnReverseG14
import Derived.Test.YtkmjghecjlgjpaaDoorFnReverseG01
namespace Go.Proofs.YtkmjghecjlgjpaaDoor
open Go.RowKit
set_option linter.unusedVariables false

set_option maxHeartbeats 400000 in
set_option maxRecDepth 100000 in
theorem specLower_some (B g cap : Nat) (l : List Int) (w : World) (h : Own B 5 w (.slice (some ⟨g, 0, none⟩) l.length cap) l) (hl : l.length ≤ 1048576) (hb : ∀ k, 0 ≤ l.getD k 0 ∧ l.getD k 0 ≤ 255) :
    Calls Tryd.prog 83 #[.slice (some ⟨g, 0, none⟩) l.length cap] w fun e w' => ∃ v, e = .returned v ∧ Own w.heap.size 5 w' v (lowered l l.length) ∧ Below w.heap.size w w' := by
  have hR := (h.alloc (.cells (([] : List Int).map (Value.int .u8)).toArray 5)).reads
  have HB := hide hb
  clear hb
  generalize hn : l.length = n at *
  have HN := hide hn
  clear hn
  go_enter Tryd.func83, Tryd.ntmps83
  go_wp2_with (at_builtin; refine append_bytes rfl _ _ 22 5 rfl Tryd.underlying22 info_u8 w.heap.size _ _ [] l rfl rfl (own_lit w w.heap.size 5 [] (Nat.le_refl _) (by simp)) hR (by rw [unhide HN]; simp; omega) (by simp) ?_)
  intro v1 w1 o1 hgrow
  have b1 : Below w.heap.size w w1 := ((Below.refl _ _).alloc (Nat.le_refl _) _).grown hgrow (by simp) (fun k hk => by simp [Value.ownBlock] at hk; omega)
  clear hgrow hR
  by_cases h0 : n = 0
  · subst h0
    obtain rfl : l = [] := List.eq_nil_of_length_eq_zero (unhide HN)
    obtain ⟨a1, cap1, rfl, _⟩ := o1.lies
    go_wp2
    go_loop [4] (fun i => i = .int .i64 0) (fun i => 0)
    case atStart => rfl
    case round =>
      subst hrel
      go_wp2
      go_ret
      exact ⟨_, rfl, o1, b1⟩
  rcases o1.form with ⟨rfl, rfl⟩ | ⟨g1, cap1, hv1, hB1, hlt1, _⟩
  · exact absurd (unhide HN).symm (by simpa using h0)
  · rw [unhide HN] at hv1
    subst hv1
    clear h0
    go_wp2
    go_loopw [4] (fun i wr => ∃ k : Nat, k ≤ n ∧ i = .int .i64 k ∧ wr.ownsRow w.heap.size 5 1 (.slice (some ⟨g1, 0, none⟩) n cap1) n ((lowered l k).map (Value.int .u8)) ∧ Below w.heap.size w wr) (fun i _ => n - (intOf i).toNat)
    case atStart => exact ⟨0, Nat.zero_le _, rfl, by rw [lowered_zero]; have o2 := o1; unfold Own at o2; rw [unhide HN] at o2; exact o2, b1⟩
    case round =>
      obtain ⟨k, hk, rfl, ho, hbw⟩ := hrel
      by_cases hlt : k < n
      · have hc := World.ownsRow.cellAt ho k (by omega)
        rw [map_at _ _ (by rw [lowered_length, unhide HN]; exact hlt), lowered_getD _ _ _ (Nat.le_refl _)] at hc
        have hf := World.ownsRow.frozenAt ho k
        have hx := (unhide HB) k
        have hst := hide (World.ownsRow.stored ho k (.int .u8 (low (l.getD k 0))))
        have HO := hide ho
        clear ho
        have hsucc := hide (lowered_succ l k)
        have hsame := hide (lowered_same l k (k + 1) (by omega))
        generalize hxe : l.getD k 0 = x at *
        have HX := hide hxe
        clear hxe
        by_cases h65 : 65 ≤ x
        · by_cases h90 : x ≤ 90
          · go_wp2
            refine ⟨⟨k + 1, by omega, by go_num, ?_, hbw.setCell hB1 _⟩, by simp [intOf]; omega⟩
            have := (unhide hst).1
            rw [← List.map_set, unhide hsucc, low_great x h65 h90] at this
            exact this
          · go_wp2
            refine ⟨⟨k + 1, by omega, by go_num, ?_, hbw⟩, by simp [intOf]; omega⟩
            rw [unhide hsame (fun j h1 h2 => by (obtain rfl : j = k := by omega); (rw [unhide HX]; omega))]
            exact unhide HO
        · go_wp2
          refine ⟨⟨k + 1, by omega, by go_num, ?_, hbw⟩, by simp [intOf]; omega⟩
          rw [unhide hsame (fun j h1 h2 => by (obtain rfl : j = k := by omega); (rw [unhide HX]; omega))]
          exact unhide HO
      · go_wp2
        go_ret
        obtain rfl : k = n := by omega
        refine ⟨_, rfl, ?_, hbw⟩
        unfold Own
        rw [lowered_length, unhide HN]
        exact ho

set_option maxHeartbeats 400000 in
set_option maxRecDepth 100000 in
theorem specLower_nil (w : World) :
    Calls Tryd.prog 83 #[.slice none 0 0] w fun e w' => ∃ v, e = .returned v ∧ Own w.heap.size 5 w' v [] ∧ Below w.heap.size w w' := by
  go_enter Tryd.func83, Tryd.ntmps83
  go_wp2_with (at_builtin; refine append_bytes rfl _ _ 22 5 rfl Tryd.underlying22 info_u8 w.heap.size _ _ [] [] rfl rfl (own_lit w w.heap.size 5 [] (Nat.le_refl _) (by simp)) (.inl ⟨rfl, rfl⟩) (by simp) (by simp) ?_)
  intro v1 w1 o1 hgrow
  have b1 : Below w.heap.size w w1 := ((Below.refl _ _).alloc (Nat.le_refl _) _).grown hgrow (by simp) (fun k hk => by simp [Value.ownBlock] at hk; omega)
  clear hgrow
  obtain ⟨a1, cap1, rfl, _⟩ := o1.lies
  go_wp2
  go_loop [4] (fun i => i = .int .i64 0) (fun i => 0)
  case atStart => rfl
  case round =>
    subst hrel
    go_wp2
    go_ret
    exact ⟨_, rfl, o1, b1⟩

theorem specLower_any {B : Nat} {v : Value} {l : List Int} {w : World} (h : Own B 5 w v l) (hl : l.length ≤ 1048576) (hb : ∀ k, 0 ≤ l.getD k 0 ∧ l.getD k 0 ≤ 255) :
    Calls Tryd.prog 83 #[v] w fun e w' => ∃ v', e = .returned v' ∧ Own w.heap.size 5 w' v' (lowered l l.length) ∧ Below w.heap.size w w' := by
  rcases h.form with ⟨rfl, rfl⟩ | ⟨g, cap, rfl, _⟩
  · exact specLower_nil w
  · exact specLower_some B g cap l w h hl hb
end Go.Proofs.YtkmjghecjlgjpaaDoor

namespace Go.Proofs.YtkmjghecjlgjpaaDoor
open Go.RowKit
set_option linter.unusedVariables false

theorem ssign_cases (c : Int) : (97 ≤ c ∧ c ≤ 122) ∨ (97 ≤ c ∧ 122 < c) ∨ (c < 97 ∧ 48 ≤ c ∧ c ≤ 57) ∨ (c < 97 ∧ 48 ≤ c ∧ 57 < c ∧ c ≠ 45) ∨ (c < 97 ∧ c < 48 ∧ c = 45) ∨ (c < 97 ∧ c < 48 ∧ c ≠ 45) := by omega

set_option maxHeartbeats 1600000 in
set_option maxRecDepth 100000 in
theorem specLabelOk_has {v : Value} {l : List Int} {w : World} (h : Has w v l) :
    Calls Tryd.prog 102 #[v] w fun e w' => e = .returned (.bool (labelOk l)) ∧ w = w' := by
  have hbd := h.bound
  unfold maxLen at hbd
  obtain ⟨a, cap, rfl, hL⟩ := h.form
  by_cases h0 : l.length = 0
  · rw [labelOk_short (by omega), h0]
    go_enter Tryd.func102, Tryd.ntmps102
    go_wp2
    go_ret
    exact ⟨rfl, rfl⟩
  · by_cases h1 : 15 < l.length
    · rw [labelOk_short (by omega)]
      generalize hn : l.length = n at *
      go_enter Tryd.func102, Tryd.ntmps102
      go_wp2
      go_ret
      exact ⟨rfl, rfl⟩
    · have h2 : l.length ≤ 15 := by omega
      have hyes := hide (fun (hs : ∀ j, j < l.length → signOk (l.getD j 0) = true) => labelOk_yes (l := l) (by omega) h2 hs)
      have hno := hide (fun (j : Nat) (hj : j < l.length) (hs : signOk (l.getD j 0) = false) => labelOk_sign hj hs)
      generalize hok : labelOk l = ok at *
      clear hok
      generalize hn : l.length = n at *
      have HN := hide hn
      clear hn
      have hn1 : (1 : Int) ≤ n := by omega
      go_enter Tryd.func102, Tryd.ntmps102
      go_wp2
      go_loop [3] (fun i => ∃ k : Nat, k ≤ n ∧ i = .int .i64 k ∧ Hid (∀ j, j < k → signOk (l.getD j 0) = true)) (fun i => n - (intOf i).toNat)
      case atStart => exact ⟨0, Nat.zero_le _, rfl, hide (fun j hj => absurd hj (Nat.not_lt_zero _))⟩
      case round =>
        obtain ⟨k, hk, rfl, hall⟩ := hrel
        by_cases hlt : k < n
        · obtain ⟨b, off, rfl, hbl, hc⟩ := hL.here (k := k) (by rw [unhide HN]; exact hlt)
          have hone := hide (fun (hs : signOk (l.getD k 0) = true) => (show ∀ j, j < k + 1 → signOk (l.getD j 0) = true from fun j hj => by
            by_cases e : j = k
            · subst e; exact hs
            · exact unhide hall j (by omega)))
          have hnok := hide (fun (hs : signOk (l.getD k 0) = false) => unhide hno k hlt hs)
          generalize hx : l.getD k 0 = x at *
          rcases ssign_cases x with ⟨h1, h2⟩ | ⟨h1, h2⟩ | ⟨h1, h2, h3⟩ | ⟨h1, h2, h3, h4⟩ | ⟨h1, h2, rfl⟩ | ⟨h1, h2, h3⟩
          · have hs : signOk x = true := decide_eq_true (by omega)
            go_wp2
            exact ⟨⟨k + 1, by omega, by go_num, hide (unhide hone hs)⟩, by simp [intOf]; omega⟩
          · have hs : signOk x = false := decide_eq_false (by omega)
            have hq := unhide hnok hs
            subst hq
            have h8 : (x == 45) = false := by simp; omega
            have h5 : 48 ≤ x := by omega
            have h6 : ¬ x ≤ 57 := by omega
            have h7 : ¬ x ≤ 122 := by omega
            go_wp2
            go_ret
            exact ⟨rfl, rfl⟩
          · have hs : signOk x = true := decide_eq_true (by omega)
            have h5 : ¬ 97 ≤ x := by omega
            go_wp2
            exact ⟨⟨k + 1, by omega, by go_num, hide (unhide hone hs)⟩, by simp [intOf]; omega⟩
          · have hs : signOk x = false := decide_eq_false (by omega)
            have hq := unhide hnok hs
            subst hq
            have h8 : (x == 45) = false := by simp; omega
            have h5 : ¬ 97 ≤ x := by omega
            have h6 : ¬ x ≤ 57 := by omega
            go_wp2
            go_ret
            exact ⟨rfl, rfl⟩
          · have hs : signOk 45 = true := rfl
            go_wp2
            exact ⟨⟨k + 1, by omega, by go_num, hide (unhide hone hs)⟩, by simp [intOf]; omega⟩
          · have hs : signOk x = false := decide_eq_false (by omega)
            have hq := unhide hnok hs
            subst hq
            have h8 : (x == 45) = false := by simp; omega
            have h5 : ¬ 97 ≤ x := by omega
            have h6 : ¬ 48 ≤ x := by omega
            go_wp2
            go_ret
            exact ⟨rfl, rfl⟩
        · obtain rfl : k = n := by omega
          have hq := unhide hyes (unhide hall)
          subst hq
          go_wp2
          go_ret
          exact ⟨rfl, rfl⟩
end Go.Proofs.YtkmjghecjlgjpaaDoor
