/-
  Contracts of the program's kindOf and TypeOk, and of the specification's TypeOk. Plain facts: which records may be. No program is named here. Plain facts: a record's data as bytes. No program is named here. Contracts of the program's labelSign and LabelOk.
-/
import Derived.Test.YtmnlhjdjjinbiaaGreatDropSetG03
import Derived.Test.YtmnlhjdjjinbiaaGreatDropSetG02
import Derived.Test.YtmnlhjdjjinbiaaGreatDropSetG00
namespace Go.Proofs.YtmnlhjdjjinbiaaGreat
open Go.RowKit
set_option linter.unusedVariables false

/-- The types of records. -/
def typeOk (t : Int) : Bool := decide (t = 1 ∨ t = 2 ∨ t = 5 ∨ t = 6 ∨ t = 12 ∨ t = 16 ∨ t = 49)

/-- Which data a type has. -/
def kindV (t : Int) : Value := if t = 1 then .iface 126 (.agg #[.int .i64 0]) else if t = 2 ∨ t = 5 ∨ t = 12 then .iface 128 (.agg #[.slice none 0 0]) else if t = 6 then .iface 130 (.agg #[.slice none 0 0, .slice none 0 0]) else if t = 16 ∨ t = 49 then .iface 132 (.agg #[.slice none 0 0]) else .nilIface

theorem type_cases (t : Int) : t = 1 ∨ t = 2 ∨ t = 5 ∨ t = 6 ∨ t = 12 ∨ t = 16 ∨ t = 49 ∨ typeOk t = false := by
  by_cases h : t = 1 ∨ t = 2 ∨ t = 5 ∨ t = 6 ∨ t = 12 ∨ t = 16 ∨ t = 49
  · omega
  · have : typeOk t = false := decide_eq_false h
    simp [this]
theorem type_other {t : Int} (h : typeOk t = false) : (t == 1) = false ∧ (t == 2) = false ∧ (t == 5) = false ∧ (t == 6) = false ∧ (t == 12) = false ∧ (t == 16) = false ∧ (t == 49) = false := by
  have h' : ¬ (t = 1 ∨ t = 2 ∨ t = 5 ∨ t = 6 ∨ t = 12 ∨ t = 16 ∨ t = 49) := of_decide_eq_false h
  simp only [beq_eq_false_iff_ne]
  omega
theorem kindV_other {t : Int} (h : typeOk t = false) : kindV t = .nilIface := by
  have h' : ¬ (t = 1 ∨ t = 2 ∨ t = 5 ∨ t = 6 ∨ t = 12 ∨ t = 16 ∨ t = 49) := of_decide_eq_false h
  unfold kindV
  rw [if_neg (by omega), if_neg (by omega), if_neg (by omega), if_neg (by omega)]

set_option maxHeartbeats 800000 in
set_option maxRecDepth 100000 in
theorem kindOf_any (t : Int) (w : World) : Calls Tryz.prog 115 #[.int .i64 t] w fun e w' => e = .returned (kindV t) ∧ w = w' := by
  rcases type_cases t with rfl | rfl | rfl | rfl | rfl | rfl | rfl | h
  iterate 7
    · go_enter Tryz.func115, Tryz.ntmps115
      go_wp2
      go_ret
      exact ⟨rfl, rfl⟩
  · obtain ⟨h1, h2, h3, h4, h5, h6, h7⟩ := type_other h
    rw [kindV_other h]
    go_enter Tryz.func115, Tryz.ntmps115
    go_wp2
    go_ret
    exact ⟨rfl, rfl⟩

set_option maxHeartbeats 800000 in
set_option maxRecDepth 100000 in
theorem specTypeOk_any (t : Int) (w : World) : Calls Tryz.prog 79 #[.int .i64 t] w fun e w' => e = .returned (.bool (typeOk t)) ∧ w = w' := by
  rcases type_cases t with rfl | rfl | rfl | rfl | rfl | rfl | rfl | h
  iterate 7
    · go_enter Tryz.func79, Tryz.ntmps79
      go_wp2
      go_ret
      exact ⟨rfl, rfl⟩
  · obtain ⟨h1, h2, h3, h4, h5, h6, h7⟩ := type_other h
    rw [h]
    go_enter Tryz.func79, Tryz.ntmps79
    go_wp2
    go_ret
    exact ⟨rfl, rfl⟩

set_option maxHeartbeats 800000 in
set_option maxRecDepth 100000 in
theorem implTypeOk_any (t : Int) (w : World) : Calls Tryz.prog 84 #[.int .i64 t] w fun e w' => e = .returned (.bool (typeOk t)) ∧ w = w' := by
  have hk : (kindV t = .nilIface ∧ typeOk t = false) ∨ ∃ ty v, kindV t = .iface ty v ∧ typeOk t = true := by
    rcases type_cases t with rfl | rfl | rfl | rfl | rfl | rfl | rfl | h
    iterate 7 exact .inr ⟨_, _, rfl, rfl⟩
    exact .inl ⟨kindV_other h, h⟩
  go_enter Tryz.func84, Tryz.ntmps84
  go_wp2_with fail
  refine (kindOf_any t _).mono ?_
  rintro e w1 ⟨rfl, rfl⟩
  rcases hk with ⟨h1, h2⟩ | ⟨ty, v, h1, h2⟩
  · rw [h1]
    go_wp2
    go_ret
    exact ⟨by rw [h2]; rfl, rfl⟩
  · rw [h1]
    go_wp2
    go_ret
    exact ⟨by rw [h2]; rfl, rfl⟩
end Go.Proofs.YtmnlhjdjjinbiaaGreat

namespace Go.Proofs.YtmnlhjdjjinbiaaGreat
open Go.RowKit

def named (t : Int) : Bool := decide (t = 2 ∨ t = 5 ∨ t = 6 ∨ t = 12)
def texted (t : Int) : Bool := decide (t = 16 ∨ t = 49)

/-- The data are as the type wants them. -/
def dataOk (r : Rec) : Bool :=
  (if r.type = 1 then decide (0 ≤ r.addr ∧ r.addr ≤ 4294967295) else decide (r.addr = 0)) && ((if named r.type = true then nameOk r.to else decide (r.to.length = 0)) && ((if texted r.type = true then decide (r.text.length ≤ 40) else decide (r.text.length = 0)) &&
  (if r.type = 6 then decide (r.nums.length = 2 ∧ 0 ≤ r.nums.getD 0 0 ∧ r.nums.getD 0 0 ≤ 4294967295 ∧ 0 ≤ r.nums.getD 1 0 ∧ r.nums.getD 1 0 ≤ 100000) else decide (r.nums.length = 0))))
def rrOk (r : Rec) : Bool := nameOk r.name && (typeOk r.type && (decide (0 ≤ r.ttl ∧ r.ttl ≤ 100000) && dataOk r))

theorem HasI.two {w : World} {v : Value} {x y : Int} (h : HasI w v [x, y]) : ∃ g off cap, v = .slice (some ⟨g, off, none⟩) 2 cap ∧ g < w.heap.size ∧ w.cell? ⟨g, off, none⟩ = some (.int .i64 x) ∧ w.cell? ⟨g, off + 1, none⟩ = some (.int .i64 y) := by
  rcases h with ⟨_, h⟩ | ⟨g, off, cap, hv, hlt, _, _, hc⟩
  · cases h
  · exact ⟨g, off, cap, hv, hlt, hc 0 (by simp), hc 1 (by simp)⟩
theorem two_of {l : List Int} (h : l.length = 2) : ∃ x y, l = [x, y] := by
  match l, h with
  | [x, y], _ => exact ⟨x, y, rfl⟩
theorem nil_of {α : Type} {l : List α} (h : l.length = 0) : l = [] := List.eq_nil_of_length_eq_zero h
end Go.Proofs.YtmnlhjdjjinbiaaGreat

namespace Go.Proofs.YtmnlhjdjjinbiaaGreat
open Go.RowKit

/-- The data, as bytes. -/
def dataB (r : Rec) : List Int :=
  if r.type = 1 then put32 [] r.addr else if r.type = 6 then put32 (put32 (wire r.to) (r.nums.getD 0 0)) (r.nums.getD 1 0) else if named r.type = true then wire r.to else (r.text.length : Int) :: r.text

/-- What the data of a record that may be are: of its four kinds one. -/
theorem data_kinds {r : Rec} (ht : typeOk r.type = true) (h : dataOk r = true) :
    (r.type = 1 ∧ 0 ≤ r.addr ∧ r.addr ≤ 4294967295 ∧ dataB r = put32 [] r.addr) ∨ ((r.type = 2 ∨ r.type = 5 ∨ r.type = 12) ∧ nameOk r.to = true ∧ dataB r = wire r.to) ∨
    (r.type = 6 ∧ nameOk r.to = true ∧ (∃ x y, r.nums = [x, y] ∧ 0 ≤ x ∧ x ≤ 4294967295 ∧ 0 ≤ y ∧ y ≤ 100000 ∧ dataB r = put32 (put32 (wire r.to) x) y)) ∨ ((r.type = 16 ∨ r.type = 49) ∧ r.text.length ≤ 40 ∧ dataB r = (r.text.length : Int) :: r.text) := by
  have ht' : r.type = 1 ∨ r.type = 2 ∨ r.type = 5 ∨ r.type = 6 ∨ r.type = 12 ∨ r.type = 16 ∨ r.type = 49 := of_decide_eq_true ht
  unfold dataOk at h
  simp only [Bool.and_eq_true] at h
  obtain ⟨h1, h2, h3, h4⟩ := h
  by_cases e1 : r.type = 1
  · left
    rw [if_pos e1] at h1
    have := of_decide_eq_true h1
    exact ⟨e1, this.1, this.2, by unfold dataB; rw [if_pos e1]⟩
  by_cases e6 : r.type = 6
  · right; right; left
    have hn : named r.type = true := decide_eq_true (by omega)
    rw [if_pos hn] at h2
    rw [if_pos e6] at h4
    have h5 := of_decide_eq_true h4
    obtain ⟨x, y, hxy⟩ := two_of h5.1
    rw [hxy] at h5
    refine ⟨e6, h2, x, y, hxy, h5.2.1, h5.2.2.1, h5.2.2.2.1, h5.2.2.2.2, ?_⟩
    unfold dataB
    rw [if_neg e1, if_pos e6, hxy]
    rfl
  by_cases en : r.type = 2 ∨ r.type = 5 ∨ r.type = 12
  · right; left
    have hn : named r.type = true := decide_eq_true (by omega)
    rw [if_pos hn] at h2
    exact ⟨en, h2, by unfold dataB; rw [if_neg e1, if_neg e6, if_pos hn]⟩
  · right; right; right
    have hx : texted r.type = true := decide_eq_true (by omega)
    have hn : ¬ named r.type = true := by
      intro hh
      have : r.type = 2 ∨ r.type = 5 ∨ r.type = 6 ∨ r.type = 12 := of_decide_eq_true hh
      omega
    rw [if_pos hx] at h3
    exact ⟨by omega, of_decide_eq_true h3, by unfold dataB; rw [if_neg e1, if_neg e6, if_neg hn]⟩
theorem rrOk_parts {r : Rec} (h : rrOk r = true) : nameOk r.name = true ∧ typeOk r.type = true ∧ 0 ≤ r.ttl ∧ r.ttl ≤ 100000 ∧ dataOk r = true := by
  unfold rrOk at h
  simp only [Bool.and_eq_true] at h
  have := of_decide_eq_true h.2.2.1
  exact ⟨h.1, h.2.1, this.1, this.2, h.2.2.2⟩
theorem dataB_length {r : Rec} (h : rrOk r = true) : (dataB r).length ≤ 105 := by
  obtain ⟨_, ht, _, _, hd⟩ := rrOk_parts h
  rcases data_kinds ht hd with ⟨_, _, _, e⟩ | ⟨_, hn, e⟩ | ⟨_, hn, x, y, _, _, _, _, _, e⟩ | ⟨_, hx, e⟩
  · rw [e]; have := put32_length [] r.addr; simp at this; omega
  · rw [e]; have := wire_length r.to hn; omega
  · rw [e]
    have h1 := wire_length r.to hn
    have h2 := put32_length (wire r.to) x
    have h3 := put32_length (put32 (wire r.to) x) y
    omega
  · rw [e]; simp; omega
end Go.Proofs.YtmnlhjdjjinbiaaGreat

namespace Go.Proofs.YtmnlhjdjjinbiaaGreat
open Go.RowKit
set_option linter.unusedVariables false

theorem sign_cases (c : Int) : (97 ≤ c ∧ c ≤ 122) ∨ (97 ≤ c ∧ 122 < c) ∨ (c < 97 ∧ 48 ≤ c ∧ c ≤ 57) ∨ (c < 97 ∧ 48 ≤ c ∧ 57 < c ∧ c ≠ 45) ∨ (c < 97 ∧ c < 48 ∧ c = 45) ∨ (c < 97 ∧ c < 48 ∧ c ≠ 45) := by omega

set_option maxHeartbeats 400000 in
set_option maxRecDepth 100000 in
theorem labelSign_any (c : Int) (w : World) :
    Calls Tryz.prog 125 #[.int .u8 c] w fun e w' => e = .returned (.bool (signOk c)) ∧ w = w' := by
  rcases sign_cases c with ⟨h1, h2⟩ | ⟨h1, h2⟩ | ⟨h1, h2, h3⟩ | ⟨h1, h2, h3, h4⟩ | ⟨h1, h2, rfl⟩ | ⟨h1, h2, h3⟩
  · have hs : signOk c = true := decide_eq_true (by omega)
    rw [hs]
    go_enter Tryz.func125, Tryz.ntmps125
    go_wp2
    go_ret
    exact ⟨rfl, rfl⟩
  · have hs : signOk c = false := decide_eq_false (by omega)
    rw [hs]
    have h5 : 48 ≤ c := by omega
    have h6 : ¬ c ≤ 57 := by omega
    have h7 : ¬ c ≤ 122 := by omega
    have h8 : (c == 45) = false := by simp; omega
    go_enter Tryz.func125, Tryz.ntmps125
    go_wp2
    go_ret
    exact ⟨rfl, rfl⟩
  · have hs : signOk c = true := decide_eq_true (by omega)
    rw [hs]
    have h5 : ¬ 97 ≤ c := by omega
    go_enter Tryz.func125, Tryz.ntmps125
    go_wp2
    go_ret
    exact ⟨rfl, rfl⟩
  · have hs : signOk c = false := decide_eq_false (by omega)
    rw [hs]
    have h5 : ¬ 97 ≤ c := by omega
    have h6 : ¬ c ≤ 57 := by omega
    have h8 : (c == 45) = false := by simp; omega
    go_enter Tryz.func125, Tryz.ntmps125
    go_wp2
    go_ret
    exact ⟨rfl, rfl⟩
  · have hs : signOk 45 = true := rfl
    rw [hs]
    go_enter Tryz.func125, Tryz.ntmps125
    go_wp2
    go_ret
    exact ⟨rfl, rfl⟩
  · have hs : signOk c = false := decide_eq_false (by omega)
    rw [hs]
    have h5 : ¬ 97 ≤ c := by omega
    have h6 : ¬ 48 ≤ c := by omega
    have h8 : (c == 45) = false := by simp; omega
    go_enter Tryz.func125, Tryz.ntmps125
    go_wp2
    go_ret
    exact ⟨rfl, rfl⟩

set_option maxHeartbeats 400000 in
set_option maxRecDepth 100000 in
theorem implLabelOk_has {v : Value} {l : List Int} {w : World} (h : Has w v l) :
    Calls Tryz.prog 99 #[v] w fun e w' => e = .returned (.bool (labelOk l)) ∧ w = w' := by
  have hbd := h.bound
  unfold maxLen at hbd
  obtain ⟨a, cap, rfl, hL⟩ := h.form
  by_cases h0 : l.length = 0
  · rw [labelOk_short (by omega), h0]
    go_enter Tryz.func99, Tryz.ntmps99
    go_wp2
    go_ret
    exact ⟨rfl, rfl⟩
  · by_cases h1 : 15 < l.length
    · rw [labelOk_short (by omega)]
      generalize hn : l.length = n at *
      have h3 : ((n : Int) == 0) = false := by simp; omega
      go_enter Tryz.func99, Tryz.ntmps99
      go_wp2
      go_ret
      exact ⟨rfl, rfl⟩
    · have h2 : l.length ≤ 15 := by omega
      have hyes := hide (fun (hs : ∀ j, j < l.length → signOk (l.getD j 0) = true) => labelOk_yes (l := l) (by omega) h2 hs)
      have hno := hide (fun (j : Nat) (hj : j < l.length) (hs : signOk (l.getD j 0) = false) => labelOk_sign hj hs)
      generalize hok : labelOk l = ok at *
      clear hok
      generalize hn : l.length = n at *
      have HN := hide hn
      clear hn
      have h3 : ((n : Int) == 0) = false := by simp; omega
      go_enter Tryz.func99, Tryz.ntmps99
      go_wp2
      go_loop [15] (fun i => ∃ k : Nat, k ≤ n ∧ i = .int .i64 k ∧ Hid (∀ j, j < k → signOk (l.getD j 0) = true)) (fun i => n - (intOf i).toNat)
      case atStart => exact ⟨0, Nat.zero_le _, rfl, hide (fun j hj => absurd hj (Nat.not_lt_zero _))⟩
      case round =>
        obtain ⟨k, hk, rfl, hall⟩ := hrel
        by_cases hlt : k < n
        · obtain ⟨b, off, rfl, hbl, hc⟩ := hL.here (k := k) (by rw [unhide HN]; exact hlt)
          have hone := hide (fun (hs : signOk (l.getD k 0) = true) => (show ∀ j, j < k + 1 → signOk (l.getD j 0) = true from fun j hj => by
            by_cases e : j = k
            · subst e; exact hs
            · exact unhide hall j (by omega)))
          have hnok := hide (fun (hs : signOk (l.getD k 0) = false) => unhide hno k hlt hs)
          generalize hx : l.getD k 0 = x at *
          go_wp2_with fail
          refine (labelSign_any x _).mono ?_
          rintro e w1 ⟨rfl, rfl⟩
          cases hs : signOk x with
          | true =>
            go_wp2
            exact ⟨⟨k + 1, by omega, by go_num, hide (unhide hone hs)⟩, by simp [intOf]; omega⟩
          | false =>
            have hq := unhide hnok hs
            subst hq
            go_wp2
            go_ret
            exact ⟨rfl, rfl⟩
        · obtain rfl : k = n := by omega
          have hq := unhide hyes (unhide hall)
          subst hq
          go_wp2
          go_ret
          exact ⟨rfl, rfl⟩
end Go.Proofs.YtmnlhjdjjinbiaaGreat
