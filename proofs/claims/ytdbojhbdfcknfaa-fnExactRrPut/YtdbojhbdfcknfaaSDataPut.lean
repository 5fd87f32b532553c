/-
  Contracts of the specification's DataPut.
-/
import Derived.Test.YtdbojhbdfcknfaaDataP
import Derived.Test.YtdbojhbdfcknfaaSRrOk
import Derived.Test.YtdbojhbdfcknfaaSL3Put
namespace Go.Proofs.Ytdbojhbdfcknfaa
open Go.RowKit
set_option linter.unusedVariables false

set_option maxHeartbeats 800000 in
set_option maxRecDepth 100000 in
theorem specDataPut_no {vn vt vx vi : Value} {r : Rec} {w : World} (h : HasR w vn vt vx vi r) (hok : rrOk r = false) :
    Calls Try.prog 70 #[.agg #[vn, .int .i64 r.type, .int .i64 r.ttl, .int .i64 r.addr, vt, vx, vi]] w fun e w' => ∃ v', e = .returned (.tuple #[v', .bool false]) ∧ Own w.heap.size 5 w' v' [] ∧ Below w.heap.size w w' := by
  obtain ⟨na, nc, rfl, _⟩ := h.name.form
  obtain ⟨ta, tc, rfl, _⟩ := h.to.form
  obtain ⟨xa, xc, rfl, _⟩ := h.text.form
  obtain ⟨ia, ic, rfl, _⟩ := h.nums.form
  have b0 := below_alloc (w := w) (.cells #[.slice na r.name.length nc, .int .i64 r.type, .int .i64 r.ttl, .int .i64 r.addr, .slice ta r.to.length tc, .slice xa r.text.length xc, .slice ia r.nums.length ic] 50)
  have HO := specRrOk_has (h.below b0)
  rw [hok] at HO
  replace HO := hide HO
  clear h hok
  go_enter Try.func70, Try.ntmps70
  go_wp2_with fail
  refine (unhide HO).mono ?_
  rintro e w1 ⟨rfl, b1⟩
  go_wp2_with fail
  go_ret2
  exact ⟨_, rfl, World.ownsRow_nil _ _ _ _, below_next b0 b1⟩

set_option maxHeartbeats 800000 in
set_option maxRecDepth 100000 in
theorem specDataPut_yes {vn vt vx vi : Value} {r : Rec} {w : World} (h : HasR w vn vt vx vi r) (hok : rrOk r = true) :
    Calls Try.prog 70 #[.agg #[vn, .int .i64 r.type, .int .i64 r.ttl, .int .i64 r.addr, vt, vx, vi]] w fun e w' => ∃ v', e = .returned (.tuple #[v', .bool true]) ∧ Own w.heap.size 5 w' v' (dataB r) ∧ Below w.heap.size w w' := by
  obtain ⟨na, nc, rfl, _⟩ := h.name.form
  obtain ⟨ta, tc, rfl, _⟩ := h.to.form
  obtain ⟨xa, xc, rfl, _⟩ := h.text.form
  obtain ⟨ia, ic, rfl, _⟩ := h.nums.form
  have b0 := below_alloc (w := w) (.cells #[.slice na r.name.length nc, .int .i64 r.type, .int .i64 r.ttl, .int .i64 r.addr, .slice ta r.to.length tc, .slice xa r.text.length xc, .slice ia r.nums.length ic] 50)
  have K0 := hide (heap_alloc_new w (.cells #[.slice na r.name.length nc, .int .i64 r.type, .int .i64 r.ttl, .int .i64 r.addr, .slice ta r.to.length tc, .slice xa r.text.length xc, .slice ia r.nums.length ic] 50))
  have HO := specRrOk_has (h.below b0)
  rw [hok] at HO
  replace HO := hide HO
  have H0 := hide (h.below b0)
  have HP := hide (fun (w : World) (vn vt vx vi : Value) (h : HasR w vn vt vx vi r) => l3put_has h hok)
  generalize dataB r = G at *
  clear h hok
  go_enter Try.func70, Try.ntmps70
  go_wp2_with fail
  generalize w.alloc (.cells #[.slice na r.name.length nc, .int .i64 r.type, .int .i64 r.ttl, .int .i64 r.addr, .slice ta r.to.length tc, .slice xa r.text.length xc, .slice ia r.nums.length ic] 50) = W at *
  refine (unhide HO).mono ?_
  rintro e w1 ⟨rfl, b1⟩
  obtain ⟨d0, d1, d2, d3, d4, d5, d6⟩ := cells7 (block_kept b1 (unhide K0))
  have H1 := hide ((unhide H0).below b1)
  have z1 := b1.size
  have z0 := b0.size
  go_wp2_with fail
  refine (unhide HP _ _ _ _ _ (unhide H1)).mono ?_
  rintro e w2 ⟨v2, rfl, o2, b2⟩
  go_wp2_with fail
  go_ret2
  exact ⟨v2, rfl, o2.mono (by omega), below_next (below_next b0 b1) b2⟩

theorem specDataPut_has {vn vt vx vi : Value} {r : Rec} {w : World} (h : HasR w vn vt vx vi r) :
    Calls Try.prog 70 #[.agg #[vn, .int .i64 r.type, .int .i64 r.ttl, .int .i64 r.addr, vt, vx, vi]] w fun e w' => ∃ v', e = .returned (.tuple #[v', .bool (dataPut r).2]) ∧ Own w.heap.size 5 w' v' (dataPut r).1 ∧ Below w.heap.size w w' := by
  cases hok : rrOk r with
  | true => rw [dataPut_yes hok]; exact specDataPut_yes h hok
  | false => rw [dataPut_no hok]; exact specDataPut_no h hok
end Go.Proofs.Ytdbojhbdfcknfaa
