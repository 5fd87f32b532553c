/-
  Plain facts: a record that is being drawn: its lists, and how they fare while other blocks are written. Contracts of the program's kindOf and TypeOk, and of the specification's TypeOk.
-/
import Derived.Test.YtdghbcjlahjjdaaFnRecordOrderG07
import Derived.Test.YtdghbcjlahjjdaaFnRecordOrderG10
import Derived.Test.YtdghbcjlahjjdaaFnRecordOrderG03
import Derived.Test.YtdghbcjlahjjdaaFnRecordOrderG02
namespace Go.Proofs.Ytdghbcjlahjjdaa
open Go.RowKit
set_option linter.unusedVariables false

structure DrawR (w : World) (vn vt vx vi : Value) (r : Rec) : Prop where
  name : OwnT 0 22 5 w vn r.name
  to : OwnT 0 22 5 w vt r.to
  text : Has w vx r.text ∧ Typed 5 w vx
  nums : OwnI 0 3 w vi r.nums
theorem DrawR.hasR {w : World} {vn vt vx vi : Value} {r : Rec} (h : DrawR w vn vt vx vi r) : HasR w vn vt vx vi r := ⟨h.name.hasL, h.to.hasL, h.text.1, h.nums.has⟩
theorem DrawR.below {w w' : World} {vn vt vx vi : Value} {r : Rec} (h : DrawR w vn vt vx vi r) (hb : Below w.heap.size w w') : DrawR w' vn vt vx vi r := ⟨h.name.below hb, h.to.below hb, ⟨h.text.1.below hb, h.text.2.below hb⟩, h.nums.below hb⟩
theorem DrawR.off {w w' : World} {vn vt vx vi : Value} {r : Rec} {q : Nat} {t : TypeId} {c : Array Value} (h : DrawR w vn vt vx vi r) (hk : w.heap[q]? = some (.cells c t)) (h1 : t ≠ 22) (h2 : t ≠ 5) (h3 : t ≠ 3) (hg : w.grownBy w' (some q)) : DrawR w' vn vt vx vi r :=
  ⟨h.name.off hk h1 h2 hg, h.to.off hk h1 h2 hg, h.text.1.off h.text.2 hk h2 hg, h.nums.kept hg (.inr (row_apart h.nums hk h3))⟩
theorem DrawR.cur {w w' : World} {vn vt vx vi : Value} {r : Rec} {g len cap : Nat} {a : Option Addr} (h : DrawR w vn vt vx vi r) (hc : Cur w g a len cap) (hg : w.grownBy w' (some g)) : DrawR w' vn vt vx vi r := by
  obtain ⟨i, x, h1, _⟩ := hc
  exact h.off h1 (by decide) (by decide) (by decide) hg
theorem ownT_nil (w : World) : OwnT 0 22 5 w (.slice none 0 0) [] := ⟨[], World.ownsRow_nil _ _ _ _, fun i hi => absurd hi (by simp)⟩
theorem ownI_nil (w : World) : OwnI 0 3 w (.slice none 0 0) [] := World.ownsRow_nil _ _ _ _
theorem text_nil (w : World) : Has w (.slice none 0 0) [] ∧ Typed 5 w (.slice none 0 0) := ⟨.inl ⟨rfl, rfl⟩, Typed.nil _ _⟩
theorem grown_sets7 (w : World) (b : Nat) {c0 c1 c2 c3 c4 c5 c6 : Value} : w.grownBy (((((((w.setCell ⟨b, 0, none⟩ c0).setCell ⟨b, 1, none⟩ c1).setCell ⟨b, 2, none⟩ c2).setCell ⟨b, 3, none⟩ c3).setCell ⟨b, 4, none⟩ c4).setCell ⟨b, 5, none⟩ c5).setCell ⟨b, 6, none⟩ c6) (some b) :=
  grown_trans (grown_trans (grown_trans (grown_trans (grown_trans (grown_trans (grown_setCell w ⟨b, 0, none⟩ c0) (grown_setCell _ ⟨b, 1, none⟩ c1)) (grown_setCell _ ⟨b, 2, none⟩ c2)) (grown_setCell _ ⟨b, 3, none⟩ c3)) (grown_setCell _ ⟨b, 4, none⟩ c4)) (grown_setCell _ ⟨b, 5, none⟩ c5)) (grown_setCell _ ⟨b, 6, none⟩ c6)
/-- A drawn name is short. -/
def DrawnN (n : List (List Int)) : Prop := n.length ≤ 7 ∧ ∀ k, k < n.length → (n.getD k []).length ≤ 16
theorem drawnN_nil : DrawnN [] := ⟨by simp, fun k hk => absurd hk (by simp)⟩
/-- A drawn record is short. -/
def DrawnS (k : Nat) (r : Rec) : Prop := r.nums.length ≤ k ∧ DrawnN r.name ∧ DrawnN r.to ∧ r.text.length ≤ 41
/-- What a draw of a record leaves. -/
def DrawnR (k : Nat) (w : World) (g : Nat) (a : Option Addr) (len cap : Nat) (e : Ending) (w' : World) : Prop :=
  ∃ vn vt vx vi r, e = .returned (.agg #[vn, .int .i64 r.type, .int .i64 r.ttl, .int .i64 r.addr, vt, vx, vi]) ∧ DrawnS k r ∧ (∀ j, vi.ownBlock = some j → w.heap.size ≤ j) ∧ DrawR w' vn vt vx vi r ∧ Cur w' g a len cap ∧ w.grownBy w' (some g)
end Go.Proofs.Ytdghbcjlahjjdaa

namespace Go.Proofs.Ytdghbcjlahjjdaa
open Go.RowKit
set_option linter.unusedVariables false

/-- The types of records. -/
def typeOk (t : Int) : Bool := decide (t = 1 ∨ t = 2 ∨ t = 5 ∨ t = 6 ∨ t = 12 ∨ t = 16 ∨ t = 49)

/-- Which data a type has. -/
def kindV (t : Int) : Value := if t = 1 then .iface 91 (.agg #[.int .i64 0]) else if t = 2 ∨ t = 5 ∨ t = 12 then .iface 93 (.agg #[.slice none 0 0]) else if t = 6 then .iface 95 (.agg #[.slice none 0 0, .slice none 0 0]) else if t = 16 ∨ t = 49 then .iface 97 (.agg #[.slice none 0 0]) else .nilIface

theorem type_cases (t : Int) : t = 1 ∨ t = 2 ∨ t = 5 ∨ t = 6 ∨ t = 12 ∨ t = 16 ∨ t = 49 ∨ typeOk t = false := by
  by_cases h : t = 1 ∨ t = 2 ∨ t = 5 ∨ t = 6 ∨ t = 12 ∨ t = 16 ∨ t = 49
  · omega
  · have : typeOk t = false := decide_eq_false h
    simp [this]
theorem type_other {t : Int} (h : typeOk t = false) : (t == 1) = false ∧ (t == 2) = false ∧ (t == 5) = false ∧ (t == 6) = false ∧ (t == 12) = false ∧ (t == 16) = false ∧ (t == 49) = false := by
  have h' : ¬ (t = 1 ∨ t = 2 ∨ t = 5 ∨ t = 6 ∨ t = 12 ∨ t = 16 ∨ t = 49) := of_decide_eq_false h
  simp only [beq_eq_false_iff_ne]
  omega
theorem kindV_other {t : Int} (h : typeOk t = false) : kindV t = .nilIface := by
  have h' : ¬ (t = 1 ∨ t = 2 ∨ t = 5 ∨ t = 6 ∨ t = 12 ∨ t = 16 ∨ t = 49) := of_decide_eq_false h
  unfold kindV
  rw [if_neg (by omega), if_neg (by omega), if_neg (by omega), if_neg (by omega)]

set_option maxHeartbeats 800000 in
set_option maxRecDepth 100000 in
theorem kindOf_any (t : Int) (w : World) : Calls Try.prog 65 #[.int .i64 t] w fun e w' => e = .returned (kindV t) ∧ w = w' := by
  rcases type_cases t with rfl | rfl | rfl | rfl | rfl | rfl | rfl | h
  iterate 7
    · go_enter Try.func65, Try.ntmps65
      go_wp2
      go_ret
      exact ⟨rfl, rfl⟩
  · obtain ⟨h1, h2, h3, h4, h5, h6, h7⟩ := type_other h
    rw [kindV_other h]
    go_enter Try.func65, Try.ntmps65
    go_wp2
    go_ret
    exact ⟨rfl, rfl⟩

set_option maxHeartbeats 800000 in
set_option maxRecDepth 100000 in
theorem specTypeOk_any (t : Int) (w : World) : Calls Try.prog 31 #[.int .i64 t] w fun e w' => e = .returned (.bool (typeOk t)) ∧ w = w' := by
  rcases type_cases t with rfl | rfl | rfl | rfl | rfl | rfl | rfl | h
  iterate 7
    · go_enter Try.func31, Try.ntmps31
      go_wp2
      go_ret
      exact ⟨rfl, rfl⟩
  · obtain ⟨h1, h2, h3, h4, h5, h6, h7⟩ := type_other h
    rw [h]
    go_enter Try.func31, Try.ntmps31
    go_wp2
    go_ret
    exact ⟨rfl, rfl⟩

set_option maxHeartbeats 800000 in
set_option maxRecDepth 100000 in
theorem implTypeOk_any (t : Int) (w : World) : Calls Try.prog 59 #[.int .i64 t] w fun e w' => e = .returned (.bool (typeOk t)) ∧ w = w' := by
  have hk : (kindV t = .nilIface ∧ typeOk t = false) ∨ ∃ ty v, kindV t = .iface ty v ∧ typeOk t = true := by
    rcases type_cases t with rfl | rfl | rfl | rfl | rfl | rfl | rfl | h
    iterate 7 exact .inr ⟨_, _, rfl, rfl⟩
    exact .inl ⟨kindV_other h, h⟩
  go_enter Try.func59, Try.ntmps59
  go_wp2_with fail
  refine (kindOf_any t _).mono ?_
  rintro e w1 ⟨rfl, rfl⟩
  rcases hk with ⟨h1, h2⟩ | ⟨ty, v, h1, h2⟩
  · rw [h1]
    go_wp2
    go_ret
    exact ⟨by rw [h2]; rfl, rfl⟩
  · rw [h1]
    go_wp2
    go_ret
    exact ⟨by rw [h2]; rfl, rfl⟩
end Go.Proofs.Ytdghbcjlahjjdaa
