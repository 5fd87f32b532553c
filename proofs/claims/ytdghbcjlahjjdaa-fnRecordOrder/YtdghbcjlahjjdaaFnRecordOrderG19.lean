/-
  Contracts of the specification's draws of chapter 1: l1Once, l1PickInt, l1some. Contract of the specification's l1PickInt: what is picked has the property that all have.
-/
import Derived.Test.YtdghbcjlahjjdaaFnRecordOrderG03
namespace Go.Proofs.Ytdghbcjlahjjdaa
open Go.RowKit
set_option linter.unusedVariables false

set_option maxHeartbeats 400000 in
set_option maxRecDepth 100000 in
theorem l1Once_any {g : Nat} {a : Option Addr} {len cap : Nat} {w : World} (n : Int) (hc : Cur w g a len cap) (hL : Code w g a len) (hm : len ≤ maxLen) (hn0 : 1 ≤ n) (hn1 : n ≤ 1099511627776) :
    Calls Try.prog 56 #[.pointer (some ⟨g, 0, none⟩), .int .i64 n] w fun e w' => ∃ x : Bool, e = .returned (.bool x) ∧ Cur w' g a len cap ∧ w.grownBy w' (some g) := by
  have HM := hide hm
  clear hm
  go_enter Try.func56, Try.ntmps56
  go_wp2_with fail
  refine (l1Below_any n hc hL (unhide HM) hn0 hn1).mono ?_
  rintro e w1 ⟨x, rfl, hx0, hx1, hc1, g1⟩
  go_wp2
  go_ret
  exact ⟨_, rfl, hc1, g1⟩

set_option maxHeartbeats 400000 in
set_option maxRecDepth 100000 in
theorem l1PickInt_any {g : Nat} {a : Option Addr} {len cap : Nat} {w : World} (gl n : Nat) (hc : Cur w g a len cap) (hL : Code w g a len) (hm : len ≤ maxLen) (hn0 : 1 ≤ n) (hn1 : n ≤ 1048576) (hlt : gl < w.heap.size) (hgl : g < gl)
    (hcell : ∀ j, j < n → ∃ z, w.cell? ⟨gl, j, none⟩ = some (.int .i64 z)) :
    Calls Try.prog 97 #[.pointer (some ⟨g, 0, none⟩), .slice (some ⟨gl, 0, none⟩) n n] w fun e w' => ∃ z, e = .returned (.int .i64 z) ∧ Cur w' g a len cap ∧ w.grownBy w' (some g) := by
  have HM := hide hm
  clear hm
  have HC := hide hcell
  clear hcell
  go_enter Try.func97, Try.ntmps97
  go_wp2_with fail
  refine (l1Below_any n hc hL (unhide HM) (by omega) (by omega)).mono ?_
  rintro e w1 ⟨x, rfl, hx0, hx1, hc1, g1⟩
  obtain ⟨j, rfl⟩ := Int.eq_ofNat_of_zero_le hx0
  obtain ⟨z, hz⟩ := (unhide HC) j (by omega)
  have hz1 : w1.cell? ⟨gl, j, none⟩ = some (.int .i64 z) := by
    rw [World.cell?_of_block (w := w) (g1.block gl hlt (by simp; omega))]; exact hz
  clear hz
  go_wp2
  go_ret
  exact ⟨z, rfl, hc1, g1⟩

set_option maxHeartbeats 1000000 in
set_option maxRecDepth 100000 in
theorem l1some_any {g : Nat} {a : Option Addr} {len cap : Nat} {w : World} (most : Int) (hc : Cur w g a len cap) (hL : Code w g a len) (hm : len ≤ maxLen) (hn0 : 1 ≤ most) (hn1 : most ≤ 1048576) :
    Calls Try.prog 116 #[.pointer (some ⟨g, 0, none⟩), .int .i64 most] w fun e w' => ∃ v l, e = .returned v ∧ Own w.heap.size 5 w' v l ∧ (l.length : Int) < most ∧ (∀ x ∈ l, 0 ≤ x ∧ x ≤ 255) ∧ Cur w' g a len cap ∧ w.grownBy w' (some g) := by
  have HM := hide hm
  clear hm
  have hgw := hc.lt
  go_enter Try.func116, Try.ntmps116
  go_wp2_with fail
  refine (l1Below_any most hc hL (unhide HM) hn0 (by omega)).mono ?_
  rintro e w1 ⟨x, rfl, hx0, hx1, hc1, g1⟩
  have hL1 := hL.grown g1
  have HC1 := hide hc1
  clear hc1 hc hL
  obtain ⟨n, rfl⟩ := Int.eq_ofNat_of_zero_le hx0
  go_wp2
  go_loopw [5, 7] (fun b i wr => ∃ (k : Nat) (l : List Int), k ≤ n ∧ i = .int .i64 k ∧ l.length = k ∧ (∀ x ∈ l, 0 ≤ x ∧ x ≤ 255) ∧ Own w.heap.size 5 wr b l ∧ Hid (Cur wr g a len cap) ∧ Code wr g a len ∧ w.grownBy wr (some g)) (fun _ i _ => n - (intOf i).toNat)
  case atStart => exact ⟨0, [], Nat.zero_le _, rfl, rfl, by simp, World.ownsRow_nil _ _ _ _, HC1, hL1, g1⟩
  case round =>
    obtain ⟨k, l, hk, rfl, hlk, hlb, ho, hcr, hLr, gr⟩ := hrel
    have HLK := hide hlk
    clear hlk
    have HLB := hide hlb
    clear hlb
    have hsz := gr.size
    by_cases hlt : k < n
    · go_wp2_with fail
      refine (l1Byte_any (unhide hcr) hLr (unhide HM)).mono ?_
      rintro e w2 ⟨y, rfl, hy0, hy1, hc2, g2⟩
      have hL2 := hLr.grown g2
      have o2 : Own w.heap.size 5 w2 u5 l := ho.kept g2 (by
        cases hv : u5.ownBlock with
        | none => exact .inl rfl
        | some j => right; intro e; have := (ho.lt j hv).1; simp at e; omega)
      have gr2 := grown_trans gr g2
      have z2 := gr2.size
      have HC2 := hide hc2
      clear hc2 g2 hLr ho gr
      go_wp2_with (at_builtin; refine append_bytes rfl _ _ 22 5 rfl Try.underlying22 info_u8 w.heap.size u5 _ l [y] rfl rfl (o2.alloc _) (own_lit w2 0 5 [y] (Nat.zero_le _) (by simp [maxLen])).reads (by rw [unhide HLK]; simp; omega) (by simp; omega) ?_)
      intro v3 w3 o3 g3
      have hrow : ∀ j, u5.ownBlock = some j → w.heap.size ≤ j := fun j e => (o2.lt j e).1
      have g23 := grown_alloc w2 (.cells #[.int .u8 y] 5) none
      have c3 := hide (((unhide HC2).later g23 (by simp)).later g3 (fun j e => by have := hrow j e; omega))
      have l3 := (hL2.later g23 (by simp)).later g3 (fun j e => by have := hrow j e; omega)
      have gr3 := grown_own (grown_own gr2 g23 (by simp)) g3 hrow
      clear g3 g23
      go_wp2
      refine ⟨⟨k + 1, l ++ [y], by omega, by go_num, by rw [List.length_append, unhide HLK]; rfl, ?_, o3, c3, l3, gr3⟩, by simp [intOf]; omega⟩
      intro x hx
      simp at hx
      rcases hx with hx | rfl
      · exact unhide HLB x hx
      · exact ⟨hy0, hy1⟩
    · go_wp2
      go_ret
      exact ⟨_, l, rfl, ho, by rw [unhide HLK]; omega, unhide HLB, unhide hcr, gr⟩

theorem below_cursor {w w1 w2 : World} {row : Option Nat} (hb : Below w.heap.size w w1) (hg : w1.grownBy w2 row) (hr : ∀ j, row = some j → w.heap.size ≤ j) : Below w.heap.size w w2 := hb.grown hg hb.size hr
end Go.Proofs.Ytdghbcjlahjjdaa

namespace Go.Proofs.Ytdghbcjlahjjdaa
open Go.RowKit
set_option linter.unusedVariables false

set_option maxHeartbeats 1000000 in
set_option maxRecDepth 100000 in
theorem l1PickIn_any {g : Nat} {a : Option Addr} {len cap : Nat} {w : World} (gl n : Nat) (p : Int → Prop) (hc : Cur w g a len cap) (hL : Code w g a len) (hm : len ≤ maxLen) (hn0 : 1 ≤ n) (hn1 : n ≤ 1048576) (hlt : gl < w.heap.size) (hgl : g < gl)
    (hcell : ∀ j, j < n → ∃ z, w.cell? ⟨gl, j, none⟩ = some (.int .i64 z) ∧ p z) :
    Calls Try.prog 97 #[.pointer (some ⟨g, 0, none⟩), .slice (some ⟨gl, 0, none⟩) n n] w fun e w' => ∃ z, e = .returned (.int .i64 z) ∧ p z ∧ Cur w' g a len cap ∧ w.grownBy w' (some g) := by
  have HM := hide hm
  clear hm
  have HC := hide hcell
  clear hcell
  go_enter Try.func97, Try.ntmps97
  go_wp2_with fail
  refine (l1Below_any n hc hL (unhide HM) (by omega) (by omega)).mono ?_
  rintro e w1 ⟨x, rfl, hx0, hx1, hc1, g1⟩
  obtain ⟨j, rfl⟩ := Int.eq_ofNat_of_zero_le hx0
  obtain ⟨z, hz, hp⟩ := (unhide HC) j (by omega)
  have hz1 : w1.cell? ⟨gl, j, none⟩ = some (.int .i64 z) := by
    rw [World.cell?_of_block (w := w) (g1.block gl hlt (by simp; omega))]; exact hz
  have HP := hide hp
  clear hz hp
  go_wp2
  go_ret
  exact ⟨z, rfl, unhide HP, hc1, g1⟩
end Go.Proofs.Ytdghbcjlahjjdaa
