/-
  Contracts of the program's Take. Contracts of the program's countedGet, pointerGet and labelGet.
-/
import Derived.Test.YtaconefooicplaaFnNameWireG31
import Derived.Test.YtaconefooicplaaFnNameWireG24
import Derived.Test.YtaconefooicplaaFnNameWireG02
namespace Go.Proofs.Ytaconefooicplaa
open Go.RowKit
set_option linter.unusedVariables false

set_option maxHeartbeats 400000 in
set_option maxRecDepth 100000 in
theorem implTake_yes (B g cap : Nat) (l : List Int) (i m : Nat) (w : World) (h : Own B 5 w (.slice (some ⟨g, 0, none⟩) l.length cap) l) (hc : l.length ≤ cap) (hl : l.length ≤ 1048576) (hi : i + m ≤ l.length) :
    Calls Try.prog 115 #[.slice (some ⟨g, 0, none⟩) l.length cap, .int .i64 i, .int .i64 m] w fun e w' => ∃ v', e = .returned (.tuple #[v', .int .i64 (i + m)]) ∧ Own w.heap.size 5 w' v' ((l.drop i).take m) ∧ Below w.heap.size w w' := by
  have hl2 : l.length ≤ 2097152 := by omega
  generalize hn : l.length = n at *
  have HN := hide hn
  clear hn
  have H := hide h
  clear h
  go_enter Try.func115, Try.ntmps115
  go_wp2_with (go_at_call 114; refine (allThere_yes _ _ _ _ _ _ hl2 (by omega) (by omega) (by omega)).mono ?_; rintro e w' ⟨rfl, rfl⟩)
  all_goals
    refine (copyBytes_reads (sub_reads (unhide H) (unhide HN) hi _ _ (by omega)) (by simp; omega)).mono ?_
    rintro e w1 ⟨v1, rfl, o1, b1⟩
    go_wp2
    go_ret2
    exact ⟨v1, rfl, o1, b1⟩

set_option maxHeartbeats 400000 in
set_option maxRecDepth 100000 in
theorem implTake_nil (w : World) :
    Calls Try.prog 115 #[.slice none 0 0, .int .i64 0, .int .i64 0] w fun e w' => ∃ v', e = .returned (.tuple #[v', .int .i64 0]) ∧ Own w.heap.size 5 w' v' [] ∧ Below w.heap.size w w' := by
  go_enter Try.func115, Try.ntmps115
  go_wp2_with (go_at_call 114; refine (allThere_yes _ _ _ _ _ _ (by omega) (by omega) (by omega) (by omega)).mono ?_; rintro e w' ⟨rfl, rfl⟩)
  refine (copyBytes_reads (.inl ⟨rfl, rfl⟩) (by simp)).mono ?_
  rintro e w1 ⟨v1, rfl, o1, b1⟩
  go_wp2
  go_ret2
  exact ⟨v1, rfl, o1, b1⟩

set_option maxHeartbeats 400000 in
set_option maxRecDepth 100000 in
theorem implTake_no (a : Option Addr) (len cap : Nat) (p m : Int) (w : World) (hl : len ≤ 2097152) (hp : p ≤ 9223372036854775807) (h : ¬ (0 ≤ p ∧ 0 ≤ m ∧ p + m ≤ len)) :
    Calls Try.prog 115 #[.slice a len cap, .int .i64 p, .int .i64 m] w fun e w' => e = .returned (.tuple #[.slice none 0 0, .int .i64 (-1)]) ∧ w = w' := by
  go_enter Try.func115, Try.ntmps115
  go_wp2_with (go_at_call 114; refine (allThere_no _ _ _ _ _ _ hl hp (by omega)).mono ?_; rintro e w' ⟨rfl, rfl⟩)
  go_ret2
  exact ⟨rfl, rfl⟩

theorem implTake_any {B : Nat} {v : Value} {l : List Int} (p m : Int) {w : World} (h : Own B 5 w v l) (hl : l.length ≤ 1048576) (hp : p ≤ 9223372036854775807) :
    Calls Try.prog 115 #[v, .int .i64 p, .int .i64 m] w fun e w' => ∃ v', e = .returned (.tuple #[v', .int .i64 (takeOf l p m).2]) ∧ Own w.heap.size 5 w' v' (takeOf l p m).1 ∧ Below w.heap.size w w' := by
  by_cases hc : 0 ≤ p ∧ 0 ≤ m ∧ p + m ≤ l.length
  · obtain ⟨i, rfl⟩ := Int.eq_ofNat_of_zero_le hc.1
    obtain ⟨k, rfl⟩ := Int.eq_ofNat_of_zero_le hc.2.1
    rw [takeOf_yes (by omega)]
    rcases h.form with ⟨rfl, rfl⟩ | ⟨g, cap, rfl, _, _, hcap, _⟩
    · have hi : i = 0 := by simp at hc; omega
      have hk : k = 0 := by simp at hc; omega
      subst hi hk
      exact implTake_nil w
    · exact implTake_yes B g cap l i k w h hcap hl (by omega)
  · rw [takeOf_no hc]
    obtain ⟨a, cap, rfl, _⟩ := h.lies
    refine (implTake_no a l.length cap p m w (by omega) hp hc).mono fun e w' ⟨he, hw⟩ => ?_
    subst hw
    exact ⟨_, he, World.ownsRow_nil _ _ _ _, Below.refl _ _⟩
end Go.Proofs.Ytaconefooicplaa

namespace Go.Proofs.Ytaconefooicplaa
open Go.RowKit
set_option linter.unusedVariables false

set_option maxHeartbeats 800000 in
set_option maxRecDepth 100000 in
theorem countedGet_own {B : Nat} {v : Value} {l : List Int} (p : Int) {w : World} (h : Own B 5 w v l) (hl : l.length ≤ 1048576) (hp : p ≤ 9223372036854775807) (hb : Bytes8 l) :
    Calls Try.prog 89 #[v, .int .i64 p] w fun e w' => ∃ v', e = .returned (.tuple #[v', .int .i64 (countedOf l p).2]) ∧ Own w.heap.size 5 w' v' (countedOf l p).1 ∧ Below w.heap.size w w' := by
  by_cases hc : 0 ≤ p ∧ p + 1 ≤ l.length
  · obtain ⟨i, rfl⟩ := Int.eq_ofNat_of_zero_le hc.1
    have e1 : takeOf l i 1 = ([l.getD i 0], (i : Int) + 1) := by
      have := takeOf_yes (l := l) (i := i) (m := 1) (by omega)
      rw [show ((1 : Nat) : Int) = 1 from rfl] at this
      rw [this]
      congr 1
      have hi : i < l.length := by omega
      rw [List.drop_eq_getElem_cons hi, List.take_succ_cons, List.take_zero, List.getD_eq_getElem?_getD, List.getElem?_eq_getElem hi]
      rfl
    have hq : countedOf l i = takeOf l ((i : Int) + 1) (l.getD i 0) := by
      unfold countedOf; rw [e1]; rw [if_neg (by show ¬ (i : Int) + 1 < 0; omega)]; simp
    rw [hq]
    have hx := hb i
    have ht1 := implTake_any (i : Int) 1 h hl hp
    rw [e1] at ht1
    generalize l.getD i 0 = x at *
    have T1 := hide ht1
    have H := hide h
    clear ht1 hq e1 h hb
    generalize hR : takeOf l ((i : Int) + 1) x = R
    have HR := hide hR
    clear hR
    go_enter Try.func89, Try.ntmps89
    go_wp2_with fail
    refine (unhide T1).mono ?_
    rintro e w1 ⟨v1, rfl, o1, b1⟩
    have h1 := hide ((unhide H).below b1)
    rcases o1.form with ⟨_, he⟩ | ⟨g, cap, rfl, hg0, hg, hcap, _, hcx, _⟩
    · simp at he
    have c0 : w1.cell? ⟨g, 0, none⟩ = some (.int .u8 x) := hcx 0 (by simp)
    clear hcx o1
    go_wp2_with fail
    refine (implTake_any ((i : Int) + 1) x (unhide h1) hl (by omega)).mono ?_
    rw [unhide HR]
    rintro e w2 ⟨v2, rfl, o2, b2⟩
    go_wp2
    go_ret2
    exact ⟨v2, rfl, o2.mono b1.size, below_next b1 b2⟩
  · have e1 : takeOf l p 1 = ([], -1) := takeOf_no (by omega)
    have hq : countedOf l p = ([], -1) := by unfold countedOf; rw [e1]; rfl
    rw [hq]
    have ht1 := implTake_any p 1 h hl hp
    rw [e1] at ht1
    have T1 := hide ht1
    clear ht1 hq e1 h hb
    go_enter Try.func89, Try.ntmps89
    go_wp2_with fail
    refine (unhide T1).mono ?_
    rintro e w1 ⟨v1, rfl, o1, b1⟩
    go_wp2
    go_ret2
    exact ⟨_, rfl, World.ownsRow_nil _ _ _ _, b1⟩

set_option maxHeartbeats 800000 in
set_option maxRecDepth 100000 in
theorem pointerGet_own {B : Nat} {v : Value} {l : List Int} (p : Int) {w : World} (h : Own B 5 w v l) (hl : l.length ≤ 1048576) (hp : p ≤ 9223372036854775807) (hb : Bytes8 l) :
    Calls Try.prog 56 #[v, .int .i64 p] w fun e w' => e = .returned (.tuple #[.int .i64 (pointerOf l p).1, .int .i64 (pointerOf l p).2]) ∧ Below w.heap.size w w' := by
  have hG := implGet16_any p h (by omega) hp hb
  have hbd := get16_bound hb p
  have hP : pointerOf l p = if (get16 l p).2 < 0 ∨ (get16 l p).1 < 49152 ∨ p ≤ (get16 l p).1 - 49152 then (0, -1) else ((get16 l p).1 - 49152, (get16 l p).2) := rfl
  rw [hP]
  generalize (get16 l p).1 = a at *
  generalize (get16 l p).2 = b at *
  have G := hide hG
  clear hG hP
  by_cases h1 : b < 0
  · rw [if_pos (.inl h1)]
    go_enter Try.func56, Try.ntmps56
    go_wp2_with fail
    refine (unhide G).mono ?_
    rintro e w1 ⟨rfl, b1⟩
    go_wp2
    go_ret2
    exact ⟨rfl, b1⟩
  · by_cases h2 : a < 49152
    · rw [if_pos (.inr (.inl h2))]
      go_enter Try.func56, Try.ntmps56
      go_wp2_with fail
      refine (unhide G).mono ?_
      rintro e w1 ⟨rfl, b1⟩
      go_wp2
      go_ret2
      exact ⟨rfl, b1⟩
    · by_cases h3 : p ≤ a - 49152
      · rw [if_pos (.inr (.inr h3))]
        go_enter Try.func56, Try.ntmps56
        go_wp2_with fail
        refine (unhide G).mono ?_
        rintro e w1 ⟨rfl, b1⟩
        go_wp2
        go_ret2
        exact ⟨rfl, b1⟩
      · rw [if_neg (by omega)]
        go_enter Try.func56, Try.ntmps56
        go_wp2_with fail
        refine (unhide G).mono ?_
        rintro e w1 ⟨rfl, b1⟩
        go_wp2
        go_ret2
        exact ⟨rfl, b1⟩

set_option maxHeartbeats 800000 in
set_option maxRecDepth 100000 in
theorem labelGet_own {B : Nat} {v : Value} {l : List Int} (p : Int) {w : World} (h : Own B 5 w v l) (hl : l.length ≤ 1048576) (hp : p ≤ 9223372036854775807) (hb : Bytes8 l) :
    Calls Try.prog 57 #[v, .int .i64 p] w fun e w' => ∃ v', e = .returned (.tuple #[v', .int .i64 (labelOf l p).2]) ∧ Own w.heap.size 5 w' v' (labelOf l p).1 ∧ Below w.heap.size w w' := by
  have hC := countedGet_own p h hl hp hb
  have hb8 : Bytes8 (countedOf l p).1 := by
    unfold countedOf; split
    · intro k; simp
    · exact bytes8_take hb _ _
  have hP : labelOf l p = if 15 < (countedOf l p).1.length then ([], -1) else (lowered (countedOf l p).1 (countedOf l p).1.length, (countedOf l p).2) := rfl
  rw [hP]
  generalize (countedOf l p).1 = t at *
  generalize (countedOf l p).2 = b at *
  have C := hide hC
  have B8 := hide hb8
  clear hC hP hb8 hb h
  by_cases h1 : 15 < t.length
  · rw [if_pos h1]
    go_enter Try.func57, Try.ntmps57
    go_wp2_with fail
    refine (unhide C).mono ?_
    rintro e w1 ⟨v1, rfl, o1, b1⟩
    obtain ⟨a1, c1, rfl, _⟩ := o1.lies
    have hm := o1.has.bound
    unfold maxLen at hm
    clear o1
    go_wp2
    go_ret2
    exact ⟨_, rfl, World.ownsRow_nil _ _ _ _, b1⟩
  · rw [if_neg h1]
    go_enter Try.func57, Try.ntmps57
    go_wp2_with fail
    refine (unhide C).mono ?_
    rintro e w1 ⟨v1, rfl, o1, b1⟩
    have O1 := hide o1
    obtain ⟨a1, c1, rfl, _⟩ := o1.lies
    clear o1
    go_wp2_with fail
    refine (implLower_any (unhide O1) (by omega) (unhide B8)).mono ?_
    rintro e w2 ⟨v2, rfl, o2, b2⟩
    go_wp2
    go_ret2
    exact ⟨v2, rfl, o2.mono b1.size, below_next b1 b2⟩
end Go.Proofs.Ytaconefooicplaa
