/-
  Contract of the specification's l2text: the text of a name that may be, and where it lies. Contracts of the laws' same.
-/
import Derived.Test.YtaconefooicplaaFnNameTextsG17
import Derived.Test.YtaconefooicplaaFnNameTextsG13
import Derived.Test.YtaconefooicplaaFnNameTextsG04
import Derived.Test.YtaconefooicplaaFnNameTextsG05
import Derived.WalkKit
namespace Go.Proofs.Ytaconefooicplaa
open Go.RowKit
set_option linter.unusedVariables false

set_option maxHeartbeats 1000000 in
set_option maxRecDepth 100000 in
theorem l2text_rootT {a : Option Addr} {cap : Nat} {w : World} :
    Calls Try.prog 44 #[.agg #[.slice a 0 cap]] w fun e w' => ∃ v', e = .returned v' ∧ Has w' v' [46] ∧ Typed 5 w' v' ∧ Below w.heap.size w w' := by
  have hcid := fun (w : World) (C : Array Value) (n c : Nat) => Lib.run_convert_bytes_const (P := Try.prog) w 22 5 C n c Try.underlying22 Try.underlying5
  have b0 := below_alloc (w := w) (.cells #[.slice a 0 cap] 25)
  have hz : (w.alloc (.cells #[.slice a 0 cap] 25)).heap.size = w.heap.size + 1 := by show (w.heap.push _).size = _; simp
  have hcid2 := fun (C : Array Value) (n c : Nat) => hcid (w.alloc (.cells #[.slice a 0 cap] 25)) C n c
  have hh := has_const (w.alloc (.cells #[.slice a 0 cap] 25)) 5 [46] (1, 2) (by simp [maxLen])
  have ht := typed_const (w.alloc (.cells #[.slice a 0 cap] 25)) 5 #[.int .u8 46] (1, 2) 1 1
  rw [hz] at hcid2 hh ht
  have HH := hide hh
  have HT := hide ht
  clear hcid hz hh ht
  go_enter Try.func44, Try.ntmps44
  go_wp2
  go_ret
  exact ⟨_, rfl, unhide HH, unhide HT, b0.alloc b0.size _⟩
theorem l2text_ok {v : Value} {n : List (List Int)} {w : World} (h : HasL w v n) (hok : nameOk n = true) :
    Calls Try.prog 44 #[.agg #[v]] w fun e w' => ∃ v', e = .returned v' ∧ Has w' v' (nameText n) ∧ Typed 5 w' v' ∧ Below w.heap.size w w' := by
  obtain ⟨a, cap, rfl, _⟩ := h.form
  by_cases h0 : n.length = 0
  · rw [nameText_root hok h0, h0]
    exact l2text_rootT
  · rw [nameText_some hok h0]
    refine (l2text_some h hok h0).mono ?_
    rintro e w' ⟨v', he, o, b⟩
    exact ⟨v', he, o.has, o.typed, b⟩
end Go.Proofs.Ytaconefooicplaa

namespace Go.Proofs.Ytaconefooicplaa
open Go.RowKit
set_option linter.unusedVariables false

set_option maxHeartbeats 400000 in
set_option maxRecDepth 100000 in
theorem same_has {v v' : Value} {l l' : List Int} {w : World} (h : Has w v l) (h' : Has w v' l') (hb : ∀ c ∈ l, 0 ≤ c ∧ c ≤ 255) (hb' : ∀ c ∈ l', 0 ≤ c ∧ c ≤ 255) :
    Calls Try.prog 41 #[v, v'] w fun e w' => e = .returned (.bool (decide (l = l'))) ∧ w = w' := by
  have hc := conv_has h
  have hc' := conv_has h'
  have hs := str_eq l l' hb hb'
  generalize decide (l = l') = d at *
  clear h h' hb hb'
  go_enter Try.func41, Try.ntmps41
  go_wp2
  go_ret
  exact ⟨rfl, rfl⟩

theorem same_own {B B' : Nat} {v v' : Value} {l l' : List Int} {w : World} (h : Own B 5 w v l) (h' : Own B' 5 w v' l') (hb : ∀ c ∈ l, 0 ≤ c ∧ c ≤ 255) (hb' : ∀ c ∈ l', 0 ≤ c ∧ c ≤ 255) :
    Calls Try.prog 41 #[v, v'] w fun e w' => e = .returned (.bool (decide (l = l'))) ∧ w = w' := same_has h.has h'.has hb hb'
end Go.Proofs.Ytaconefooicplaa
