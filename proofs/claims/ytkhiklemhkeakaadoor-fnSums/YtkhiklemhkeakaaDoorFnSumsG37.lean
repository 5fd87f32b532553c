/-
  Contract of the specification's DrawSha256: a few drawn bytes. Contracts of the laws' same.
-/
import Derived.Test.YtkhiklemhkeakaaDoorFnSumsG32
import Derived.Test.YtkhiklemhkeakaaDoorFnSumsG35
import Derived.Test.YtkhiklemhkeakaaDoorFnSumsG04
import Derived.Test.YtkhiklemhkeakaaDoorFnSumsG08
import Derived.Test.YtkhiklemhkeakaaDoorFnSumsG28
import Derived.Test.YtkhiklemhkeakaaDoorFnSumsG29
import Derived.WalkKit
namespace Go.Proofs.YtkhiklemhkeakaaDoor
open Go.RowKit
set_option linter.unusedVariables false

set_option maxHeartbeats 1000000 in
set_option maxRecDepth 100000 in
theorem drawSha256_any {a : Option Addr} {len cap : Nat} {w : World} (l : List Int) (hL : Lies w a l) (hn : l.length = len) (hb : ∀ k, 0 ≤ l.getD k 0 ∧ l.getD k 0 ≤ 255) (hm : len ≤ maxLen) :
    Calls Tryd.prog 10 #[.slice a len cap] w fun e w' => ∃ v m, e = .returned v ∧ Own w.heap.size 5 w' v m ∧ m.length ≤ 200 ∧ (∀ x ∈ m, 0 ≤ x ∧ x ≤ 255) ∧ Below w.heap.size w w' := by
  have HNEW := hide (l1New_any (cap := cap) l hL hn hb hm)
  have HM := hide hm
  clear hL hn hb
  go_enter Tryd.func10, Tryd.ntmps10
  go_wp2_with fail
  refine (unhide HNEW).mono ?_
  rintro e w1 ⟨rfl, c1, L1, b1⟩
  have z1 := c1.lt
  have HS := hide (l1Below_any 200 c1 L1 hm (by omega) (by omega))
  have HL1 := hide L1
  clear HNEW c1 L1
  go_wp2_with fail
  refine (unhide HS).mono ?_
  rintro e w2 ⟨x, rfl, hx0, hx1, c2, g2⟩
  have bb2 := below_cursor b1 g2 (fun j e => by simp at e; omega)
  have L2 := (unhide HL1).grown g2
  have z2 := g2.size
  have ga := grown_alloc w2 (.cells #[.int .i64 0, .int .i64 1, .int .i64 3, .int .i64 55, .int .i64 56, .int .i64 63, .int .i64 64, .int .i64 65, .int .i64 119, .int .i64 120, .int .i64 x] 3) none
  have KA := heap_alloc_new w2 (.cells #[.int .i64 0, .int .i64 1, .int .i64 3, .int .i64 55, .int .i64 56, .int .i64 63, .int .i64 64, .int .i64 65, .int .i64 119, .int .i64 120, .int .i64 x] 3)
  have zl := block_lt KA
  have HP := hide (l1PickIn_any w2.heap.size 11 (fun z => 0 ≤ z ∧ z ≤ 200) (c2.later ga (by simp)) (L2.later ga (by simp)) hm (by omega) (by omega) zl (by omega) (fun j hj => by
    have hc := block_cell KA j
    match j, hj with
    | 0, _ => exact ⟨_, hc, by omega⟩
    | 1, _ => exact ⟨_, hc, by omega⟩
    | 2, _ => exact ⟨_, hc, by omega⟩
    | 3, _ => exact ⟨_, hc, by omega⟩
    | 4, _ => exact ⟨_, hc, by omega⟩
    | 5, _ => exact ⟨_, hc, by omega⟩
    | 6, _ => exact ⟨_, hc, by omega⟩
    | 7, _ => exact ⟨_, hc, by omega⟩
    | 8, _ => exact ⟨_, hc, by omega⟩
    | 9, _ => exact ⟨_, hc, by omega⟩
    | 10, _ => exact ⟨_, hc, by omega⟩))
  have L3 := hide (L2.later ga (by simp))
  have bb3 := below_next bb2 (below_alloc (w := w2) (.cells #[.int .i64 0, .int .i64 1, .int .i64 3, .int .i64 55, .int .i64 56, .int .i64 63, .int .i64 64, .int .i64 65, .int .i64 119, .int .i64 120, .int .i64 x] 3))
  clear HS HL1 c2 L2 g2 KA ga bb2 b1
  go_wp2_with fail
  generalize w2.alloc (.cells #[.int .i64 0, .int .i64 1, .int .i64 3, .int .i64 55, .int .i64 56, .int .i64 63, .int .i64 64, .int .i64 65, .int .i64 119, .int .i64 120, .int .i64 x] 3) = wa at *
  refine (unhide HP).mono ?_
  rintro e w3 ⟨z, rfl, hz, c3, g3⟩
  obtain ⟨n, rfl⟩ := Int.eq_ofNat_of_zero_le hz.1
  have hn200 : n ≤ 200 := by omega
  have HC1 := hide c3
  have hL1 := (unhide L3).grown g3
  have bb4 := below_cursor bb3 g3 (fun j e => by simp at e; omega)
  have z3 := g3.size
  have zw := bb4.size
  clear HP L3 g3 c3 bb3 hz hx0 hx1
  go_wp2
  go_loopw [5, 6] (fun b i wr => ∃ (k : Nat) (l : List Int), k ≤ n ∧ i = .int .i64 k ∧ l.length = k ∧ (∀ x ∈ l, 0 ≤ x ∧ x ≤ 255) ∧ Own (w.heap.size + 1) 5 wr b l ∧ Hid (Cur wr w.heap.size a len cap) ∧ Code wr w.heap.size a len ∧ Below w.heap.size w3 wr) (fun _ i _ => n - (intOf i).toNat)
  case atStart => exact ⟨0, [], Nat.zero_le _, rfl, rfl, by simp, World.ownsRow_nil _ _ _ _, HC1, hL1, Below.refl _ _⟩
  case round =>
    obtain ⟨k, l, hk, rfl, hlk, hlb, ho, hcr, hLr, gr⟩ := hrel
    have HLK := hide hlk
    clear hlk
    have HLB := hide hlb
    clear hlb
    have hsz := gr.size
    by_cases hlt : k < n
    · go_wp2_with fail
      refine (l1Byte_any (unhide hcr) hLr (unhide HM)).mono ?_
      rintro e w4 ⟨y, rfl, hy0, hy1, hc2, g2⟩
      have hL2 := hLr.grown g2
      have o2 : Own (w.heap.size + 1) 5 w4 u5 l := ho.kept g2 (by
        cases hv : u5.ownBlock with
        | none => exact .inl rfl
        | some j => right; intro e; have := (ho.lt j hv).1; simp at e; omega)
      have gr2 : Below w.heap.size w3 w4 := gr.grown g2 (by omega) (fun j e => by simp at e; omega)
      have z4 := gr2.size
      have HC2 := hide hc2
      clear hc2 g2 hLr ho gr
      go_wp2_with (at_builtin; refine append_bytes rfl _ _ 22 5 rfl Tryd.underlying22 info_u8 (w.heap.size + 1) u5 _ l [y] rfl rfl (o2.alloc _) (own_lit w4 0 5 [y] (Nat.zero_le _) (by simp [maxLen])).reads (by rw [unhide HLK]; simp; omega) (by simp; omega) ?_)
      intro v3 w5 o3 g3
      have hrow : ∀ j, u5.ownBlock = some j → w.heap.size + 1 ≤ j := fun j e => (o2.lt j e).1
      have g23 := grown_alloc w4 (.cells #[.int .u8 y] 5) none
      have c3 := hide (((unhide HC2).later g23 (by simp)).later g3 (fun j e => by have := hrow j e; omega))
      have l3 := (hL2.later g23 (by simp)).later g3 (fun j e => by have := hrow j e; omega)
      have gr3 : Below w.heap.size w3 w5 := (gr2.grown g23 (by omega) (by simp)).grown g3 (by have := g23.size; omega) (fun j e => by have := hrow j e; omega)
      clear g3 g23
      go_wp2
      refine ⟨⟨k + 1, l ++ [y], by omega, by go_num, by rw [List.length_append, unhide HLK]; rfl, ?_, o3, c3, l3, gr3⟩, by simp [intOf]; omega⟩
      intro x hx
      simp at hx
      rcases hx with hx | rfl
      · exact unhide HLB x hx
      · exact ⟨hy0, hy1⟩
    · go_wp2
      go_ret
      exact ⟨_, l, rfl, ho.mono (by omega), by rw [unhide HLK]; omega, unhide HLB, bb4.trans gr⟩
end Go.Proofs.YtkhiklemhkeakaaDoor

namespace Go.Proofs.YtkhiklemhkeakaaDoor
open Go.RowKit
set_option linter.unusedVariables false

set_option maxHeartbeats 400000 in
set_option maxRecDepth 100000 in
theorem same_has {v v' : Value} {l l' : List Int} {w : World} (h : Has w v l) (h' : Has w v' l') (hb : ∀ c ∈ l, 0 ≤ c ∧ c ≤ 255) (hb' : ∀ c ∈ l', 0 ≤ c ∧ c ≤ 255) :
    Calls Tryd.prog 5 #[v, v'] w fun e w' => e = .returned (.bool (decide (l = l'))) ∧ w = w' := by
  have hc := conv_has h
  have hc' := conv_has h'
  have hs := str_eq l l' hb hb'
  generalize decide (l = l') = d at *
  clear h h' hb hb'
  go_enter Tryd.func5, Tryd.ntmps5
  go_wp2
  go_ret
  exact ⟨rfl, rfl⟩

theorem same_own {B B' : Nat} {v v' : Value} {l l' : List Int} {w : World} (h : Own B 5 w v l) (h' : Own B' 5 w v' l') (hb : ∀ c ∈ l, 0 ≤ c ∧ c ≤ 255) (hb' : ∀ c ∈ l', 0 ≤ c ∧ c ≤ 255) :
    Calls Tryd.prog 5 #[v, v'] w fun e w' => e = .returned (.bool (decide (l = l'))) ∧ w = w' := same_has h.has h'.has hb hb'
end Go.Proofs.YtkhiklemhkeakaaDoor
