/-
  Plain facts for the specification's l4bytes.
-/
import Derived.Test.YtnplmeifhebhhaaGreatMsgOkG39
import Derived.Test.YtnplmeifhebhhaaGreatMsgOkG30
import Derived.Test.YtnplmeifhebhhaaGreatMsgOkG28
namespace Go.Proofs.YtnplmeifhebhhaaGreat
open Go.RowKit
set_option linter.unusedVariables false

/-- A record's seven cells, and what they lead to. -/
def HasRc (w : World) (vs : List Value) (r : Rec) : Prop := ∃ vn vt vx vi, vs = cellsR vn vt vx vi r ∧ HasR w vn vt vx vi r
theorem stays_HasRc : Stays HasRc := fun h hb => by obtain ⟨vn, vt, vx, vi, h1, h2⟩ := h; exact ⟨vn, vt, vx, vi, h1, h2.below hb⟩
theorem HasRc.len {w : World} {vs : List Value} {r : Rec} (h : HasRc w vs r) : vs.length = 7 := by obtain ⟨vn, vt, vx, vi, rfl, _⟩ := h; rfl
theorem HasRc.one {w : World} {vs : List Value} {r : Rec} (h : HasRc w vs r) : ∀ u ∈ vs, u.oneCell' = true := by
 obtain ⟨vn, vt, vx, vi, rfl, h2⟩ := h
 obtain ⟨na, nc, rfl, _⟩ := h2.name.form
 obtain ⟨ta, tc, rfl, _⟩ := h2.to.form
 obtain ⟨xa, xc, rfl, _⟩ := h2.text.form
 obtain ⟨ia, ic, rfl, _⟩ := h2.nums.form
 simp [cellsR, Value.oneCell']
theorem hasRs_G {w : World} {v : Value} {rs : List Rec} (h : HasRs w v rs) : HasG 7 HasRc recZ w v rs := by
 rcases h with h | ⟨g, off, cap, hv, hlt, hl, hm, hx⟩
 ·exact .inl h
 ·refine .inr ⟨g, off, cap, hv, hlt, hl, hm, fun i hi => ?_⟩
  obtain ⟨vn, vt, vx, vi, h1, h2⟩ := hx i hi
  exact ⟨_, h1, vn, vt, vx, vi, rfl, h2⟩
theorem wrap_intS (x : Int) (h0 : 0 ≤ x) (h1 : x < 9223372036854775808) : IntKind.i64.wrap x = x := by
 have := wrap_small x.toNat (by omega)
 rwa [Int.toNat_of_nonneg h0] at this
theorem wntsB_all (b : List Int) (l : List Wnt) : wntsB b l l.length = l.foldl wntB b := by unfold wntsB; rw [List.take_length]
def allM (m : Mg) : List Rec := m.ans ++ m.aus ++ m.more
theorem bytesM_all (m : Mg) : bytesM m = wntsB (wntsB (wntsB (queB (headM m) (que1 m)) m.pres m.pres.length) m.ups m.ups.length) ((allM m).map inCl) (allM m).length := by
 have e1 : bytesM m = wntsB (wntsB (wntsB (wntsB (wntsB (queB (headM m) (que1 m)) m.pres m.pres.length) m.ups m.ups.length) (m.ans.map inCl) m.ans.length) (m.aus.map inCl) m.aus.length) (m.more.map inCl) m.more.length := rfl
 rw [e1]
 generalize wntsB (wntsB (queB (headM m) (que1 m)) m.pres m.pres.length) m.ups m.ups.length = b
 have f : ∀ (b : List Int) (l : List Rec), wntsB b (l.map inCl) l.length = (l.map inCl).foldl wntB b := fun b l => by
  have := wntsB_all b (l.map inCl)
  rwa [List.length_map] at this
 rw [f, f, f, f]
 unfold allM
 rw [List.map_append, List.map_append, List.foldl_append, List.foldl_append]
theorem info_rrM : (Tryz.prog.info? 108).map (fun i => (i.zero, i.size, i.bytes)) = some (some (.agg #[.slice none 0 0, .int .i64 0, .int .i64 0, .int .i64 0, .slice none 0 0, .slice none 0 0, .slice none 0 0]), 7, 120) := by kernel_rfl
end Go.Proofs.YtnplmeifhebhhaaGreat
