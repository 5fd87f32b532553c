/-
  The walk of laws.FnExactPut32.
-/
import Derived.Test.YtdbojhbdfcknfaaBytes
import Derived.Test.YtdbojhbdfcknfaaIPut32
import Derived.Test.YtdbojhbdfcknfaaSPut32
namespace Go.Proofs.Ytdbojhbdfcknfaa
open Go.RowKit
set_option linter.unusedVariables false

set_option maxHeartbeats 400000 in
set_option maxRecDepth 100000 in
theorem lawPut32_big (a : Option Addr) (len cap : Nat) (p : Int) (w : World) (hl : 1048576 < len) (hm : len ≤ maxLen) :
    Calls Try.prog 8 #[.slice a len cap, .int .i64 p] w fun e w' => e = .returned (.bool true) ∧ Below w.heap.size w w' := by
  unfold maxLen at hm
  go_enter Try.func8, Try.ntmps8
  go_wp2
  go_ret
  exact ⟨rfl, Below.refl _ _⟩

set_option maxHeartbeats 1000000 in
set_option maxRecDepth 100000 in
theorem lawPut32 (a : Option Addr) (cap : Nat) (l : List Int) (p : Int) (w : World) (h : Lies w a l) (hl : l.length ≤ 1048576) :
    Calls Try.prog 8 #[.slice a l.length cap, .int .i64 p] w fun e w' => e = .returned (.bool true) ∧ Below w.heap.size w w' := by
  have hL := put32_length l p
  generalize hg : put32 l p = L at *
  have HG := hide hg
  clear hg
  have hL2 : L.length ≤ 2097152 := by omega
  have hl2 : l.length ≤ 2097152 := by omega
  generalize hn : l.length = n at *
  have HN := hide hn
  clear hn
  go_enter Try.func8, Try.ntmps8
  go_wp2_with fail
  refine (toByteS_in h (unhide HN) hl).mono ?_
  rintro e w1 ⟨v1, rfl, o1, b1⟩
  go_wp2_with fail
  refine (specPut32_any p o1 (by rw [unhide HN]; exact hl)).mono ?_
  rw [unhide HG]
  rintro e w2 ⟨v2, rfl, o2, b2⟩
  have b2 := below_next b1 b2
  go_wp2_with fail
  refine (toByteS_in (h.below b2) (unhide HN) hl).mono ?_
  rintro e w3 ⟨v3, rfl, o3, c3⟩
  have b3 := below_next b2 c3
  have p3 := o2.below c3
  go_wp2_with fail
  refine (implPut32_any p o3 (by rw [unhide HN]; exact hl)).mono ?_
  rw [unhide HG]
  rintro e w4 ⟨v4, rfl, o4, c4⟩
  have b4 := below_next b3 c4
  have p4 := p3.below c4
  have x4 := o3.below c4
  go_wp2_with fail
  refine (eqByteS_own o4 p4 hL2).mono ?_
  rintro e w5 ⟨rfl, c5⟩
  have b5 := below_next b4 c5
  have p5 := p4.below c5
  have x5 := x4.below c5
  have g5 := o4.below c5
  go_wp2_with fail
  refine (toByteS_in (h.below b5) (unhide HN) hl).mono ?_
  rintro e w6 ⟨v6, rfl, o6, c6⟩
  have b6 := below_next b5 c6
  have p6 := p5.below c6
  have x6 := x5.below c6
  have g6 := g5.below c6
  go_wp2_with fail
  refine (eqByteS_own x6 o6 (by rw [unhide HN]; exact hl2)).mono ?_
  rintro e w7 ⟨rfl, c7⟩
  have b7 := below_next b6 c7
  have p7 := p6.below c7
  have x7 := x6.below c7
  have g7 := g6.below c7
  go_wp2_with fail
  refine (markByteS_any 1 x7 (by rw [unhide HN]; exact hl2) (by omega) (by omega)).mono ?_
  rintro e w8 ⟨rfl, y8, k8⟩
  have b8 := below_mark b7 x7 b2.size k8
  have p8 := p7.kept k8 (own_apart o2 o3 (Nat.le_refl _))
  have g8 := g7.kept k8 (own_apart' o3 o4 (Nat.le_refl _))
  go_wp2_with fail
  refine (eqByteS_own g8 p8 hL2).mono ?_
  rintro e w9 ⟨rfl, c9⟩
  have b9 := below_next b8 c9
  have p9 := p8.below c9
  have g9 := g8.below c9
  go_wp2_with fail
  refine (markByteS_any 1 g9 hL2 (by omega) (by omega)).mono ?_
  rintro e w10 ⟨rfl, g10, k10⟩
  have b10 := below_mark b9 g9 b3.size k10
  have p10 := p9.kept k10 (own_apart o2 o4 c3.size)
  go_wp2_with fail
  refine (heldByteS_any 1 g10 hL2 (by omega) (by omega)).mono ?_
  rintro e w11 ⟨rfl, rfl⟩
  go_wp2_with fail
  refine (toByteS_in (h.below b10) (unhide HN) hl).mono ?_
  rintro e w12 ⟨v12, rfl, o12, c12⟩
  have b12 := below_next b10 c12
  have p12 := p10.below c12
  have g12 := g10.below c12
  go_wp2_with fail
  refine (implPut32_any p o12 (by rw [unhide HN]; exact hl)).mono ?_
  rw [unhide HG]
  rintro e w13 ⟨v13, rfl, o13, c13⟩
  have b13 := below_next b12 c13
  have p13 := p12.below c13
  have g13 := g12.below c13
  go_wp2_with fail
  refine (eqByteS_own o13 p13 hL2).mono ?_
  rintro e w14 ⟨rfl, c14⟩
  have b14 := below_next b13 c14
  have g14 := g13.below c14
  go_wp2_with fail
  refine (heldByteS_any 1 g14 hL2 (by omega) (by omega)).mono ?_
  rintro e w15 ⟨rfl, rfl⟩
  go_wp2_with fail
  go_ret
  exact ⟨rfl, b14⟩
end Go.Proofs.Ytdbojhbdfcknfaa
