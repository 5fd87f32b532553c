/-
  Contracts of the program's appendCounted: behind a row of the caller's own a byte with how many bytes a text has, and the text. Contracts of the program's copyBytes: new memory with the same bytes.
-/
import Derived.Test.YtdghbcjlahjjdaaHasNameG06
import Derived.Test.YtdghbcjlahjjdaaHasNameG02
namespace Go.Proofs.Ytdghbcjlahjjdaa
open Go.RowKit
set_option linter.unusedVariables false

set_option maxHeartbeats 800000 in
set_option maxRecDepth 100000 in
theorem appendCounted_own {B : Nat} {v u : Value} {l t : List Int} {w : World} (h : Own B 5 w v l) (hu : HasAt B w u t) (hl : l.length ≤ 1099511627000) (ht : t.length ≤ 255) (hB : B ≤ w.heap.size) :
    Calls Try.prog 160 #[v, u] w fun e w' => ∃ v', e = .returned v' ∧ Own B 5 w' v' (l ++ ((t.length : Int) :: t)) ∧ Below B w w' := by
  obtain ⟨ua, uc, rfl, _⟩ := hu.form
  have HU := hide hu
  clear hu
  have hlt : ((t.length : Int) % 256) = t.length := by omega
  generalize hn : t.length = m at *
  have HN := hide hn
  clear hn
  go_enter Try.func160, Try.ntmps160
  go_wp2_with (at_builtin; refine append_bytes rfl _ _ 22 5 rfl Try.underlying22 info_u8 B v _ l [(m : Int)] rfl rfl (h.alloc _) (own_lit w 0 5 [(m : Int)] (Nat.zero_le _) (by simp [maxLen])).reads (by simp; omega) (by simp; omega) ?_)
  intro v2 w2 o2 g2
  have b2 : Below B w w2 := ((Below.refl _ _).alloc hB _).grown g2 (by simp; omega) (fun q hq => (h.lt q hq).1)
  clear g2
  have hs2 := b2.size
  have U2 := hide ((unhide HU).low b2 (Nat.le_refl _))
  go_wp2_with (at_builtin; refine append_bytes rfl _ _ 22 5 rfl Try.underlying22 info_u8 B v2 (.slice ua m uc) (l ++ [(m : Int)]) t rfl rfl o2 (unhide U2).has.reads (by simp; rw [unhide HN]; omega) (by omega) ?_)
  intro v3 w3 o3 g3
  have b3 : Below B w w3 := b2.grown g3 (by omega) (fun q hq => (o2.lt q hq).1)
  go_wp2
  go_ret
  exact ⟨v3, rfl, by simpa using o3, b3⟩
end Go.Proofs.Ytdghbcjlahjjdaa

namespace Go.Proofs.Ytdghbcjlahjjdaa
open Go.RowKit
set_option linter.unusedVariables false

set_option maxHeartbeats 400000 in
set_option maxRecDepth 100000 in
theorem copyBytes_reads {v : Value} {l : List Int} {w : World} (h : Reads w v l) (hl : l.length ≤ 2097152) :
    Calls Try.prog 102 #[v] w fun e w' => ∃ v', e = .returned v' ∧ Own w.heap.size 5 w' v' l ∧ Below w.heap.size w w' := by
  go_enter Try.func102, Try.ntmps102
  go_wp2_with (at_builtin; refine append_bytes rfl _ _ 22 5 rfl Try.underlying22 info_u8 w.heap.size (.slice none 0 0) v [] l rfl rfl (World.ownsRow_nil _ _ _ _) h ?c1 (Nat.le_refl _) ?_)
  case c1 => simp; omega
  intro v' w1 hown hgrow
  go_wp2
  go_ret
  exact ⟨v', rfl, hown, below_of_grown hgrow⟩

theorem copyBytes_own {B : Nat} {v : Value} {l : List Int} {w : World} (h : Own B 5 w v l) (hl : l.length ≤ 2097152) :
    Calls Try.prog 102 #[v] w fun e w' => ∃ v', e = .returned v' ∧ Own w.heap.size 5 w' v' l ∧ Below w.heap.size w w' := copyBytes_reads h.reads hl
end Go.Proofs.Ytdghbcjlahjjdaa
