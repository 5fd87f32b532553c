/-
  Plain facts: a zone's records of a name and a type, the first SOA, and a row of records that is appended to. No program is named here. Contracts of the program's labelSign and LabelOk. Contracts of the program's NameOk.
-/
import Derived.Test.YtdghbcjlahjjdaaGreatBumpG17
import Derived.Test.YtdghbcjlahjjdaaGreatBumpG04
import Derived.Test.YtdghbcjlahjjdaaGreatBumpG00
namespace Go.Proofs.YtdghbcjlahjjdaaGreat
open Go.RowKit

def selB (n : List (List Int)) (t : Int) (r : Rec) : Bool := (cmpN r.name n == 0) && ((t == 255) || (r.type == t))
/-- Those of the first k. -/
def selK (n : List (List Int)) (t : Int) (rs : List Rec) : Nat → List Rec
  | 0 => []
  | k + 1 => if selB n t (rs.getD k recZ) = true then selK n t rs k ++ [rs.getD k recZ] else selK n t rs k
theorem selK_length (n : List (List Int)) (t : Int) (rs : List Rec) : ∀ k, (selK n t rs k).length ≤ k
  | 0 => Nat.le_refl _
  | k + 1 => by
    have := selK_length n t rs k
    unfold selK
    split
    · simp; omega
    · omega
theorem selK_none {n : List (List Int)} {t : Int} {rs : List Rec} : ∀ {k : Nat}, (∀ j, j < k → selB n t (rs.getD j recZ) = false) → selK n t rs k = []
  | 0, _ => rfl
  | k + 1, h => by
    unfold selK
    rw [h k (by omega), if_neg (by simp)]
    exact selK_none (fun j hj => h j (by omega))
/-- The first one that is met is the first of all. -/
theorem selK_first {n : List (List Int)} {t : Int} {rs : List Rec} {s : Nat} (h1 : selB n t (rs.getD s recZ) = true) (h0 : ∀ j, j < s → selB n t (rs.getD j recZ) = false) : ∀ d, 1 ≤ (selK n t rs (s + 1 + d)).length ∧ (selK n t rs (s + 1 + d)).getD 0 recZ = rs.getD s recZ
  | 0 => by
    rw [Nat.add_zero]
    unfold selK
    rw [if_pos h1, selK_none h0]
    simp
  | d + 1 => by
    obtain ⟨q1, q2⟩ := selK_first h1 h0 d
    have e : selK n t rs (s + 1 + (d + 1)) = if selB n t (rs.getD (s + 1 + d) recZ) = true then selK n t rs (s + 1 + d) ++ [rs.getD (s + 1 + d) recZ] else selK n t rs (s + 1 + d) := rfl
    rw [e]
    by_cases hq : selB n t (rs.getD (s + 1 + d) recZ) = true
    · rw [if_pos hq]
      refine ⟨by simp, ?_⟩
      rw [List.getD_eq_getElem?_getD, List.getElem?_append_left (by omega), ← List.getD_eq_getElem?_getD]
      exact q2
    · rw [if_neg hq]
      exact ⟨q1, q2⟩
/-- Where the SOA stands. -/
theorem soas_some {rs : List Rec} : ∀ {k : Nat}, 0 < soas rs k → ∃ s, s < k ∧ (rs.getD s recZ).type = 6 ∧ ∀ j, j < s → (rs.getD j recZ).type ≠ 6
  | 0, h => by simp [soas] at h
  | k + 1, h => by
    by_cases h0 : 0 < soas rs k
    · obtain ⟨s, h1, h2, h3⟩ := soas_some h0
      exact ⟨s, by omega, h2, h3⟩
    · unfold soas at h
      split at h
      · rename_i h6
        refine ⟨k, by omega, h6, fun j hj e => ?_⟩
        have : ∀ i, j < i → i ≤ k → 0 < soas rs i := by
          intro i hi hik
          induction i with
          | zero => omega
          | succ i ih =>
            unfold soas
            by_cases e2 : j = i
            · subst e2
              rw [if_pos e]
              omega
            · have := ih (by omega) (by omega)
              split <;> omega
        have := this k hj (Nat.le_refl _)
        omega
      · omega
/-- The serial's record. -/
theorem zone_soa {o : List (List Int)} {rs : List Rec} (h : zoneOk o rs = true) : ∃ s, s < rs.length ∧ (rs.getD s recZ).type = 6 ∧ (∀ j, j < s → (rs.getD j recZ).type ≠ 6) ∧ 1 ≤ (selK o 6 rs rs.length).length ∧ (selK o 6 rs rs.length).getD 0 recZ = rs.getD s recZ ∧ (rs.getD s recZ).nums.length = 2 := by
  have h' := of_decide_eq_true h
  obtain ⟨ho, h60, hg, h1⟩ := h'
  have hS := (good_iff ho).1 hg
  obtain ⟨s, hs, h6, hb⟩ := soas_some (rs := rs) (k := rs.length) (by omega)
  have q1 : selB o 6 (rs.getD s recZ) = true := by
    unfold selB
    rw [(hS s hs).soa h6, h6]
    rfl
  have q0 : ∀ j, j < s → selB o 6 (rs.getD j recZ) = false := fun j hj => by
    unfold selB
    have : ((rs.getD j recZ).type == (6 : Int)) = false := by
      rw [beq_eq_false_iff_ne]
      exact hb j hj
    rw [this]
    simp
  have hf := selK_first q1 q0 (rs.length - (s + 1))
  rw [show s + 1 + (rs.length - (s + 1)) = rs.length by omega] at hf
  refine ⟨s, hs, h6, hb, hf.1, hf.2, ?_⟩
  have hok := (hS s hs).ok
  unfold rrOk dataOk at hok
  simp only [Bool.and_eq_true, h6, if_true] at hok
  have := of_decide_eq_true hok.2.2.2.2.2.2
  exact this.1

/-- A row of records that the slice v owns, from block B on; their lists lie as they did in W. -/
def RowS (B : Nat) (e : TypeId) (W w : World) (v : Value) (rs : List Rec) : Prop :=
  ∃ xs, w.ownsRow B e 7 v rs.length xs ∧ ∀ i, i < rs.length → ∃ vn vt vx vi, (∀ j u, (cellsR vn vt vx vi (rs.getD i recZ))[j]? = some u → xs[i * 7 + j]? = some u) ∧ HasR W vn vt vx vi (rs.getD i recZ)
theorem RowS.nil (B : Nat) (e : TypeId) (W w : World) : RowS B e W w (.slice none 0 0) [] := ⟨[], World.ownsRow_nil _ _ _ _, fun i hi => absurd hi (by simp)⟩
theorem RowS.snoc {B : Nat} {e : TypeId} {W w' : World} {v' : Value} {rs : List Rec} {xs : List Value} {r : Rec} {vn vt vx vi : Value} (hl : xs.length = rs.length * 7)
    (hx : ∀ i, i < rs.length → ∃ vn vt vx vi, (∀ j u, (cellsR vn vt vx vi (rs.getD i recZ))[j]? = some u → xs[i * 7 + j]? = some u) ∧ HasR W vn vt vx vi (rs.getD i recZ))
    (ho : w'.ownsRow B e 7 v' (rs.length + 1) (xs ++ cellsR vn vt vx vi r)) (hr : HasR W vn vt vx vi r) : RowS B e W w' v' (rs ++ [r]) := by
  refine ⟨xs ++ cellsR vn vt vx vi r, by rw [List.length_append]; exact ho, fun i hi => ?_⟩
  rw [List.length_append] at hi
  simp only [List.length_cons, List.length_nil] at hi
  by_cases h : i < rs.length
  · obtain ⟨un, ut, ux, ui, q1, q2⟩ := hx i h
    have e1 : (rs ++ [r]).getD i recZ = rs.getD i recZ := by rw [List.getD_eq_getElem?_getD, List.getElem?_append_left h, ← List.getD_eq_getElem?_getD]
    rw [e1]
    refine ⟨un, ut, ux, ui, fun j u hj => ?_, q2⟩
    have hj7 : j < 7 := by
      have := (List.getElem?_eq_some_iff.1 hj).1
      simpa [cellsR] using this
    rw [List.getElem?_append_left (by omega)]
    exact q1 j u hj
  · obtain rfl : i = rs.length := by omega
    have e1 : (rs ++ [r]).getD rs.length recZ = r := by rw [List.getD_eq_getElem?_getD]; simp
    rw [e1]
    refine ⟨vn, vt, vx, vi, fun j u hj => ?_, hr⟩
    rw [List.getElem?_append_right (by omega), hl, Nat.add_sub_cancel_left]
    exact hj
theorem RowS.has {B : Nat} {e : TypeId} {W w : World} {v : Value} {rs : List Rec} (h : RowS B e W w v rs) (hb : Below W.heap.size W w) : HasRs w v rs := by
  obtain ⟨xs, ho, hx⟩ := h
  have ho' := ho
  rcases ho.2 with ⟨rfl, hn⟩ | ⟨g, cap, cur, rfl, hB, hg, hn, hm, hs, ht⟩
  · exact .inl ⟨rfl, List.eq_nil_of_length_eq_zero hn⟩
  · refine .inr ⟨g, 0, cap, rfl, block_lt hg, hn, hm, fun i hi => ?_⟩
    obtain ⟨vn, vt, vx, vi, q1, q2⟩ := hx i hi
    refine ⟨vn, vt, vx, vi, fun j u hj => ?_, q2.below hb⟩
    have hj7 : j < 7 := by
      have := (List.getElem?_eq_some_iff.1 hj).1
      simpa [cellsR] using this
    rw [Nat.zero_add, World.ownsRow.cellAt ho' (i * 7 + j) (by omega)]
    exact q1 j u hj
/-- The serial of a zone. -/
def serialOf (o : List (List Int)) (rs : List Rec) : Int := if zoneOk o rs = true then ((selK o 6 rs rs.length).getD 0 recZ).nums.getD 0 0 else 0

end Go.Proofs.YtdghbcjlahjjdaaGreat

namespace Go.Proofs.YtdghbcjlahjjdaaGreat
open Go.RowKit
set_option linter.unusedVariables false

theorem sign_cases (c : Int) : (97 ≤ c ∧ c ≤ 122) ∨ (97 ≤ c ∧ 122 < c) ∨ (c < 97 ∧ 48 ≤ c ∧ c ≤ 57) ∨ (c < 97 ∧ 48 ≤ c ∧ 57 < c ∧ c ≠ 45) ∨ (c < 97 ∧ c < 48 ∧ c = 45) ∨ (c < 97 ∧ c < 48 ∧ c ≠ 45) := by omega

set_option maxHeartbeats 400000 in
set_option maxRecDepth 100000 in
theorem labelSign_any (c : Int) (w : World) :
    Calls Tryz.prog 155 #[.int .u8 c] w fun e w' => e = .returned (.bool (signOk c)) ∧ w = w' := by
  rcases sign_cases c with ⟨h1, h2⟩ | ⟨h1, h2⟩ | ⟨h1, h2, h3⟩ | ⟨h1, h2, h3, h4⟩ | ⟨h1, h2, rfl⟩ | ⟨h1, h2, h3⟩
  · have hs : signOk c = true := decide_eq_true (by omega)
    rw [hs]
    go_enter Tryz.func155, Tryz.ntmps155
    go_wp2
    go_ret
    exact ⟨rfl, rfl⟩
  · have hs : signOk c = false := decide_eq_false (by omega)
    rw [hs]
    have h5 : 48 ≤ c := by omega
    have h6 : ¬ c ≤ 57 := by omega
    have h7 : ¬ c ≤ 122 := by omega
    have h8 : (c == 45) = false := by simp; omega
    go_enter Tryz.func155, Tryz.ntmps155
    go_wp2
    go_ret
    exact ⟨rfl, rfl⟩
  · have hs : signOk c = true := decide_eq_true (by omega)
    rw [hs]
    have h5 : ¬ 97 ≤ c := by omega
    go_enter Tryz.func155, Tryz.ntmps155
    go_wp2
    go_ret
    exact ⟨rfl, rfl⟩
  · have hs : signOk c = false := decide_eq_false (by omega)
    rw [hs]
    have h5 : ¬ 97 ≤ c := by omega
    have h6 : ¬ c ≤ 57 := by omega
    have h8 : (c == 45) = false := by simp; omega
    go_enter Tryz.func155, Tryz.ntmps155
    go_wp2
    go_ret
    exact ⟨rfl, rfl⟩
  · have hs : signOk 45 = true := rfl
    rw [hs]
    go_enter Tryz.func155, Tryz.ntmps155
    go_wp2
    go_ret
    exact ⟨rfl, rfl⟩
  · have hs : signOk c = false := decide_eq_false (by omega)
    rw [hs]
    have h5 : ¬ 97 ≤ c := by omega
    have h6 : ¬ 48 ≤ c := by omega
    have h8 : (c == 45) = false := by simp; omega
    go_enter Tryz.func155, Tryz.ntmps155
    go_wp2
    go_ret
    exact ⟨rfl, rfl⟩

set_option maxHeartbeats 400000 in
set_option maxRecDepth 100000 in
theorem implLabelOk_has {v : Value} {l : List Int} {w : World} (h : Has w v l) :
    Calls Tryz.prog 121 #[v] w fun e w' => e = .returned (.bool (labelOk l)) ∧ w = w' := by
  have hbd := h.bound
  unfold maxLen at hbd
  obtain ⟨a, cap, rfl, hL⟩ := h.form
  by_cases h0 : l.length = 0
  · rw [labelOk_short (by omega), h0]
    go_enter Tryz.func121, Tryz.ntmps121
    go_wp2
    go_ret
    exact ⟨rfl, rfl⟩
  · by_cases h1 : 15 < l.length
    · rw [labelOk_short (by omega)]
      generalize hn : l.length = n at *
      have h3 : ((n : Int) == 0) = false := by simp; omega
      go_enter Tryz.func121, Tryz.ntmps121
      go_wp2
      go_ret
      exact ⟨rfl, rfl⟩
    · have h2 : l.length ≤ 15 := by omega
      have hyes := hide (fun (hs : ∀ j, j < l.length → signOk (l.getD j 0) = true) => labelOk_yes (l := l) (by omega) h2 hs)
      have hno := hide (fun (j : Nat) (hj : j < l.length) (hs : signOk (l.getD j 0) = false) => labelOk_sign hj hs)
      generalize hok : labelOk l = ok at *
      clear hok
      generalize hn : l.length = n at *
      have HN := hide hn
      clear hn
      have h3 : ((n : Int) == 0) = false := by simp; omega
      go_enter Tryz.func121, Tryz.ntmps121
      go_wp2
      go_loop [15] (fun i => ∃ k : Nat, k ≤ n ∧ i = .int .i64 k ∧ Hid (∀ j, j < k → signOk (l.getD j 0) = true)) (fun i => n - (intOf i).toNat)
      case atStart => exact ⟨0, Nat.zero_le _, rfl, hide (fun j hj => absurd hj (Nat.not_lt_zero _))⟩
      case round =>
        obtain ⟨k, hk, rfl, hall⟩ := hrel
        by_cases hlt : k < n
        · obtain ⟨b, off, rfl, hbl, hc⟩ := hL.here (k := k) (by rw [unhide HN]; exact hlt)
          have hone := hide (fun (hs : signOk (l.getD k 0) = true) => (show ∀ j, j < k + 1 → signOk (l.getD j 0) = true from fun j hj => by
            by_cases e : j = k
            · subst e; exact hs
            · exact unhide hall j (by omega)))
          have hnok := hide (fun (hs : signOk (l.getD k 0) = false) => unhide hno k hlt hs)
          generalize hx : l.getD k 0 = x at *
          go_wp2_with fail
          refine (labelSign_any x _).mono ?_
          rintro e w1 ⟨rfl, rfl⟩
          cases hs : signOk x with
          | true =>
            go_wp2
            exact ⟨⟨k + 1, by omega, by go_num, hide (unhide hone hs)⟩, by simp [intOf]; omega⟩
          | false =>
            have hq := unhide hnok hs
            subst hq
            go_wp2
            go_ret
            exact ⟨rfl, rfl⟩
        · obtain rfl : k = n := by omega
          have hq := unhide hyes (unhide hall)
          subst hq
          go_wp2
          go_ret
          exact ⟨rfl, rfl⟩
end Go.Proofs.YtdghbcjlahjjdaaGreat

namespace Go.Proofs.YtdghbcjlahjjdaaGreat
open Go.RowKit
set_option linter.unusedVariables false

set_option maxHeartbeats 400000 in
set_option maxRecDepth 100000 in
theorem implNameOk_has {v : Value} {n : List (List Int)} {w : World} (h : HasL w v n) :
    Calls Tryz.prog 70 #[.agg #[v]] w fun e w' => e = .returned (.bool (nameOk n)) ∧ Below w.heap.size w w' := by
  obtain ⟨a, cap, rfl, hl, hm⟩ := h.form
  unfold maxLen at hm
  by_cases h1 : 6 < n.length
  · rw [nameOk_long h1]
    have H := hide h
    clear h
    generalize hn : n.length = m at *
    have HN := hide hn
    clear hn
    go_enter Tryz.func70, Tryz.ntmps70
    go_wp2
    go_ret
    exact ⟨rfl, below_alloc _⟩
  · have h2 : n.length ≤ 6 := by omega
    have hA := h.below (below_alloc (.cells #[.slice a n.length cap] 53))
    have H := hide h
    clear h
    have hyes := hide (fun (hs : ∀ j, j < n.length → labelOk (n.getD j []) = true) => nameOk_yes (n := n) h2 hs)
    have hno := hide (fun (j : Nat) (hj : j < n.length) (hs : labelOk (n.getD j []) = false) => nameOk_label hj hs)
    generalize hok : nameOk n = ok at *
    clear hok
    generalize hn : n.length = m at *
    have HN := hide hn
    clear hn
    go_enter Tryz.func70, Tryz.ntmps70
    go_wp2
    go_loop [12] (fun i => ∃ k : Nat, k ≤ m ∧ i = .int .i64 k ∧ Hid (∀ j, j < k → labelOk (n.getD j []) = true)) (fun i => m - (intOf i).toNat)
    case atStart => exact ⟨0, Nat.zero_le _, rfl, hide (fun j hj => absurd hj (Nat.not_lt_zero _))⟩
    case round =>
      obtain ⟨k, hk, rfl, hall⟩ := hrel
      by_cases hlt : k < m
      · obtain ⟨b, off, u, rfl, hbl, hc, hu⟩ := hA.here (k := k) (by rw [unhide HN]; exact hlt)
        have hone := hide (fun (hs : labelOk (n.getD k []) = true) => (show ∀ j, j < k + 1 → labelOk (n.getD j []) = true from fun j hj => by
            by_cases e : j = k
            · subst e; exact hs
            · exact unhide hall j (by omega)))
        have hnok := hide (fun (hs : labelOk (n.getD k []) = false) => unhide hno k hlt hs)
        generalize hx : n.getD k [] = x at *
        have HU := hide hu
        obtain ⟨ua, uc, rfl, _⟩ := hu.form
        clear hu
        go_wp2_with fail
        refine (implLabelOk_has (unhide HU)).mono ?_
        rintro e w1 ⟨rfl, rfl⟩
        cases hs : labelOk x with
        | true =>
          go_wp2
          exact ⟨⟨k + 1, by omega, by go_num, hide (unhide hone hs)⟩, by simp [intOf]; omega⟩
        | false =>
          have hq := unhide hnok hs
          subst hq
          go_wp2
          go_ret
          exact ⟨rfl, below_alloc _⟩
      · obtain rfl : k = m := by omega
        have hq := unhide hyes (unhide hall)
        subst hq
        go_wp2
        go_ret
        exact ⟨rfl, below_alloc _⟩
end Go.Proofs.YtdghbcjlahjjdaaGreat
