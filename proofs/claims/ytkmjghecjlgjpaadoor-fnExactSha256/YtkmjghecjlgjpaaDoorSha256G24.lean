/-
  The walk of laws.FnExactSha256.
-/
import Derived.Test.YtkmjghecjlgjpaaDoorSha256G01
import Derived.Test.YtkmjghecjlgjpaaDoorSha256G22
import Derived.Test.YtkmjghecjlgjpaaDoorSha256G23
namespace Go.Proofs.YtkmjghecjlgjpaaDoor
open Go.RowKit
set_option linter.unusedVariables false
set_option linter.unusedSimpArgs false

def shaAny (l : List Int) : List Int := if l.length ≤ 4096 then shaOf l else []
theorem shaAny_length (l : List Int) : (shaAny l).length ≤ 32 := by
 unfold shaAny
 split
 ·unfold shaOf
  rw [outK_length]
  omega
 ·simp
theorem implSha256_any {B : Nat} {v : Value} {l : List Int} {w : World} (h : Own B 5 w v l) (h8 : Bytes8 l) (hF : TabW w 0 (l8 iv8)) (hG : TabW w 1 kW) :
  Calls Tryd.prog 30 #[v] w fun e w' => ∃ v', e = .returned v' ∧ Own w.heap.size 5 w' v' (shaAny l) ∧ Below w.heap.size w w' := by
 by_cases hl : l.length ≤ 4096
 ·rw [show shaAny l = shaOf l by unfold shaAny; rw [if_pos hl]]
  exact sha_own h hl h8 hF hG
 ·rw [show shaAny l = [] by unfold shaAny; rw [if_neg hl]]
  exact (sha_no h hl).mono (fun e w' ⟨he, hw⟩ => ⟨_, he, by rw [hw]; exact World.ownsRow_nil _ _ _ _, by rw [hw]; exact Below.refl _ _⟩)
set_option maxHeartbeats 400000 in
set_option maxRecDepth 100000 in
theorem specSha256_any {B : Nat} {v : Value} {l : List Int} {w : World} (h : Own B 5 w v l) (h8 : Bytes8 l) (hlm : l.length ≤ 1048576) :
  Calls Tryd.prog 28 #[v] w fun e w' => ∃ v', e = .returned v' ∧ Own w.heap.size 5 w' v' (shaAny l) ∧ Below w.heap.size w w' := by
 obtain ⟨la, lc, hlv, _⟩ := h.lies
 by_cases hl : l.length ≤ 4096
 ·have hgt : ¬ (4096 < (l.length : Int)) := by omega
  have LS := hide (l7sum_any h hl h8)
  rw [show shaAny l = shaOf l by unfold shaAny; rw [if_pos hl]]
  clear h8 h
  generalize shaOf l = X at *
  generalize l.length = n at *
  subst hlv
  go_enter Tryd.func28, Tryd.ntmps28
  go_wp2_with fail
  refine (unhide LS).mono ?_
  rintro e w1 ⟨v1, rfl, o1, b1⟩
  go_wp2_with fail
  go_ret
  exact ⟨_, rfl, o1, b1⟩
 ·have hgt : 4096 < (l.length : Int) := by omega
  rw [show shaAny l = [] by unfold shaAny; rw [if_neg hl]]
  clear h8 h hl
  subst hlv
  go_enter Tryd.func28, Tryd.ntmps28
  go_wp2
  go_ret
  exact ⟨_, rfl, World.ownsRow_nil _ _ _ _, Below.refl _ _⟩

set_option maxHeartbeats 400000 in
set_option maxRecDepth 100000 in
theorem lawSha256_big (a : Option Addr) (len cap : Nat) (w : World) (hl : 1048576 < len) (hm : len ≤ maxLen) :
  Calls Tryd.prog 6 #[.slice a len cap] w fun e w' => e = .returned (.bool true) ∧ Below w.heap.size w w' := by
 unfold maxLen at hm
 go_enter Tryd.func6, Tryd.ntmps6
 go_wp2
 go_ret
 exact ⟨rfl, Below.refl _ _⟩

set_option maxHeartbeats 1000000 in
set_option maxRecDepth 100000 in
theorem lawSha256 (a : Option Addr) (cap : Nat) (l : List Int) (w : World) (h : Lies w a l) (hl : l.length ≤ 1048576) (h8 : Bytes8 l) (hF : TabW w 0 (l8 iv8)) (hG : TabW w 1 kW) :
  Calls Tryd.prog 6 #[.slice a l.length cap] w fun e w' => e = .returned (.bool true) ∧ Below w.heap.size w w' := by
 have hL := shaAny_length l
 have IM := hide (fun (w' : World) (B : Nat) (v : Value) (hb : Below w.heap.size w w') (ho : Own B 5 w' v l) => implSha256_any ho h8 (hF.below hb) (hG.below hb))
 have SP := hide (fun (w' : World) (B : Nat) (v : Value) (ho : Own B 5 w' v l) => specSha256_any ho h8 hl)
 generalize hg : shaAny l = L at *
 clear hg hF hG h8
 have hL2 : L.length ≤ 2097152 := by omega
 have hl2 : l.length ≤ 2097152 := by omega
 generalize hn : l.length = n at *
 have HN := hide hn
 clear hn hL
 go_enter Tryd.func6, Tryd.ntmps6
 go_wp2_with fail
 refine (toByteS_in h (unhide HN) hl).mono ?_
 rintro e w1 ⟨v1, rfl, o1, b1⟩
 go_wp2_with fail
 refine (unhide SP _ _ _ o1).mono ?_
 rintro e w2 ⟨v2, rfl, o2, b2⟩
 have b2 := below_next b1 b2
 go_wp2_with fail
 refine (toByteS_in (h.below b2) (unhide HN) hl).mono ?_
 rintro e w3 ⟨v3, rfl, o3, c3⟩
 have b3 := below_next b2 c3
 have p3 := o2.below c3
 go_wp2_with fail
 refine (unhide IM _ _ _ b3 o3).mono ?_
 rintro e w4 ⟨v4, rfl, o4, c4⟩
 have b4 := below_next b3 c4
 have p4 := p3.below c4
 have x4 := o3.below c4
 go_wp2_with fail
 refine (eqByteS_own o4 p4 hL2).mono ?_
 rintro e w5 ⟨rfl, c5⟩
 have b5 := below_next b4 c5
 have p5 := p4.below c5
 have x5 := x4.below c5
 have g5 := o4.below c5
 go_wp2_with fail
 refine (toByteS_in (h.below b5) (unhide HN) hl).mono ?_
 rintro e w6 ⟨v6, rfl, o6, c6⟩
 have b6 := below_next b5 c6
 have p6 := p5.below c6
 have x6 := x5.below c6
 have g6 := g5.below c6
 go_wp2_with fail
 refine (eqByteS_own x6 o6 (by rw [unhide HN]; exact hl2)).mono ?_
 rintro e w7 ⟨rfl, c7⟩
 have b7 := below_next b6 c7
 have p7 := p6.below c7
 have x7 := x6.below c7
 have g7 := g6.below c7
 go_wp2_with fail
 refine (markByteS_any 1 x7 (by rw [unhide HN]; exact hl2) (by omega) (by omega)).mono ?_
 rintro e w8 ⟨rfl, y8, k8⟩
 have b8 := below_mark b7 x7 b2.size k8
 have p8 := p7.kept k8 (own_apart o2 o3 (Nat.le_refl _))
 have g8 := g7.kept k8 (own_apart' o3 o4 (Nat.le_refl _))
 go_wp2_with fail
 refine (eqByteS_own g8 p8 hL2).mono ?_
 rintro e w9 ⟨rfl, c9⟩
 have b9 := below_next b8 c9
 have p9 := p8.below c9
 have g9 := g8.below c9
 go_wp2_with fail
 refine (markByteS_any 1 g9 hL2 (by omega) (by omega)).mono ?_
 rintro e w10 ⟨rfl, g10, k10⟩
 have b10 := below_mark b9 g9 b3.size k10
 have p10 := p9.kept k10 (own_apart o2 o4 c3.size)
 go_wp2_with fail
 refine (heldByteS_any 1 g10 hL2 (by omega) (by omega)).mono ?_
 rintro e w11 ⟨rfl, rfl⟩
 go_wp2_with fail
 refine (toByteS_in (h.below b10) (unhide HN) hl).mono ?_
 rintro e w12 ⟨v12, rfl, o12, c12⟩
 have b12 := below_next b10 c12
 have p12 := p10.below c12
 have g12 := g10.below c12
 go_wp2_with fail
 refine (unhide IM _ _ _ b12 o12).mono ?_
 rintro e w13 ⟨v13, rfl, o13, c13⟩
 have b13 := below_next b12 c13
 have p13 := p12.below c13
 have g13 := g12.below c13
 go_wp2_with fail
 refine (eqByteS_own o13 p13 hL2).mono ?_
 rintro e w14 ⟨rfl, c14⟩
 have b14 := below_next b13 c14
 have g14 := g13.below c14
 go_wp2_with fail
 refine (heldByteS_any 1 g14 hL2 (by omega) (by omega)).mono ?_
 rintro e w15 ⟨rfl, rfl⟩
 go_wp2_with fail
 go_ret
 exact ⟨rfl, b14⟩
end Go.Proofs.YtkmjghecjlgjpaaDoor
