/-
  Contract of the laws' sameName. Contracts of the program's appendCounted: behind a row of the caller's own a byte with how many bytes a text has, and the text.
-/
import Derived.Test.YtaconefooicplaaFnNameWireG20
import Derived.Test.YtaconefooicplaaFnNameWireG18
import Derived.Test.YtaconefooicplaaFnNameWireG19
import Derived.Test.YtaconefooicplaaFnNameWireG08
import Derived.Deep.RegionHeld3
import Derived.Test.YtaconefooicplaaFnNameWireG03
import Derived.Test.YtaconefooicplaaFnNameWireG07
namespace Go.Proofs.Ytaconefooicplaa
open Go.RowKit
set_option linter.unusedVariables false

set_option maxHeartbeats 1000000 in
set_option maxRecDepth 100000 in
theorem sameName_has {v v' : Value} {n n' : List (List Int)} {w : World} (h : HasL w v n) (h' : HasL w v' n') :
    Calls Try.prog 16 #[.agg #[v], .agg #[v']] w fun e w' => e = .returned (.bool (decide (nameText n = nameText n'))) ∧ Below w.heap.size w w' := by
  obtain ⟨a, cap, rfl, _⟩ := h.form
  obtain ⟨a', cap', rfl, _⟩ := h'.form
  have b0 := below2 w (.cells #[.slice a n.length cap] 25) (.cells #[.slice a' n'.length cap'] 25)
  obtain ⟨hsz, k0, x0⟩ := box2 w (.cells #[.slice a n.length cap] 25) #[.slice a' n'.length cap'] 25
  have H0 := hide (h.below b0)
  have H0' := hide (h'.below b0)
  have K0 := hide k0
  have X0 := hide x0
  have hB := nameText_bytes n
  have hB' := nameText_bytes n'
  have SP := fun (w : World) (x : Value) (h : HasL w x n) => specNameText_has h
  have SP' := fun (w : World) (x : Value) (h : HasL w x n') => specNameText_has h
  have HBB := hide hB
  have HBB' := hide hB'
  replace SP := hide SP
  replace SP' := hide SP'
  clear h h' k0 x0 hB hB'
  generalize nameText n = T at *
  generalize nameText n' = T' at *
  go_enter Try.func16, Try.ntmps16
  go_wp2_with fail
  generalize (w.alloc (.cells #[.slice a n.length cap] 25)).alloc (.cells #[.slice a' n'.length cap'] 25) = W at *
  have bd := below_drew (w := W)
  have K1 := hide (block_kept bd (unhide K0))
  have X1 := hide (block_kept bd (unhide X0))
  have H1 := hide ((unhide H0).below bd)
  have H1' := hide ((unhide H0').below bd)
  have bb := below_next b0 bd
  have c1 := block_one (unhide K1)
  have c1' := block_one (unhide X1)
  clear bd b0 K0 X0 H0 H0' hsz
  go_region_held3 (fun w' => w'.cell? ⟨w.heap.size, 0, none⟩ = some (.slice a n.length cap) ∧ w'.cell? ⟨w.heap.size + 1, 0, none⟩ = some (.slice a' n'.length cap'))
    (first | exact ⟨block_one (unhide K1), block_one (unhide X1)⟩ | exact ⟨block_one (block_kept q3 (unhide K1)), block_one (block_kept q3 (unhide X1))⟩ | exact ⟨block_one (block_kept b2 (unhide K1)), block_one (block_kept b2 (unhide X1))⟩)
    (first
    | (go_at_call 41; refine (same_has (u2.below b3) u3 (unhide HBB) (unhide HBB')).mono ?_; rintro e w4 ⟨rfl, rfl⟩)
    | (go_at_call 48; refine (unhide SP _ _ (unhide H1)).mono ?_; rintro e w2 ⟨t2, rfl, u2, b2⟩; obtain ⟨ta2, tc2, rfl, _⟩ := u2.form)
    | (go_at_call 48; refine (unhide SP' _ _ ((unhide H1').below b2)).mono ?_; rintro e w3 ⟨t3, rfl, u3, b3⟩; obtain ⟨ta3, tc3, rfl, _⟩ := u3.form; have q3 := below_next b2 b3))
  go_wp2_with fail
  go_ret
  exact ⟨rfl, below_next bb q3⟩
end Go.Proofs.Ytaconefooicplaa

namespace Go.Proofs.Ytaconefooicplaa
open Go.RowKit
set_option linter.unusedVariables false

set_option maxHeartbeats 800000 in
set_option maxRecDepth 100000 in
theorem appendCounted_own {B : Nat} {v u : Value} {l t : List Int} {w : World} (h : Own B 5 w v l) (hu : HasAt B w u t) (hl : l.length ≤ 1099511627000) (ht : t.length ≤ 255) (hB : B ≤ w.heap.size) :
    Calls Try.prog 55 #[v, u] w fun e w' => ∃ v', e = .returned v' ∧ Own B 5 w' v' (l ++ ((t.length : Int) :: t)) ∧ Below B w w' := by
  obtain ⟨ua, uc, rfl, _⟩ := hu.form
  have HU := hide hu
  clear hu
  have hlt : ((t.length : Int) % 256) = t.length := by omega
  generalize hn : t.length = m at *
  have HN := hide hn
  clear hn
  go_enter Try.func55, Try.ntmps55
  go_wp2_with (at_builtin; refine append_bytes rfl _ _ 22 5 rfl Try.underlying22 info_u8 B v _ l [(m : Int)] rfl rfl (h.alloc _) (own_lit w 0 5 [(m : Int)] (Nat.zero_le _) (by simp [maxLen])).reads (by simp; omega) (by simp; omega) ?_)
  intro v2 w2 o2 g2
  have b2 : Below B w w2 := ((Below.refl _ _).alloc hB _).grown g2 (by simp; omega) (fun q hq => (h.lt q hq).1)
  clear g2
  have hs2 := b2.size
  have U2 := hide ((unhide HU).low b2 (Nat.le_refl _))
  go_wp2_with (at_builtin; refine append_bytes rfl _ _ 22 5 rfl Try.underlying22 info_u8 B v2 (.slice ua m uc) (l ++ [(m : Int)]) t rfl rfl o2 (unhide U2).has.reads (by simp; rw [unhide HN]; omega) (by omega) ?_)
  intro v3 w3 o3 g3
  have b3 : Below B w w3 := b2.grown g3 (by omega) (fun q hq => (o2.lt q hq).1)
  go_wp2
  go_ret
  exact ⟨v3, rfl, by simpa using o3, b3⟩
end Go.Proofs.Ytaconefooicplaa
