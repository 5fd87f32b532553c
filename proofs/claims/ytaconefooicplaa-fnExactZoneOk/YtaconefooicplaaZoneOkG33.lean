/-
  The walk of laws.FnExactZoneOk.
-/
import Derived.Test.YtaconefooicplaaZoneOkG10
import Derived.Test.YtaconefooicplaaZoneOkG25
import Derived.Test.YtaconefooicplaaZoneOkG32
import Derived.Deep.RegionHeld3
namespace Go.Proofs.Ytaconefooicplaa
open Go.RowKit
set_option linter.unusedVariables false

set_option maxHeartbeats 2000000 in
set_option maxRecDepth 100000 in
theorem lawZoneOk (ao : Option Addr) (co : Nat) (ar : Option Addr) (cr : Nat) (o : List (List Int)) (rs : List Rec) (w : World) (h : InZ w ao ar o rs) (hm : SizeZ maxLen o rs) :
    Calls Try.prog 7 #[.agg #[.slice ao o.length co, .slice ar rs.length cr]] w fun e w' => e = .returned (.bool true) ∧ Below w.heap.size w w' := by
  have bb := below_alloc (w := w) (.cells #[.slice ao o.length co, .slice ar rs.length cr] 59)
  have K0 := hide (heap_alloc_new w (.cells #[.slice ao o.length co, .slice ar rs.length cr] 59))
  have L0 := hide h
  have HM := hide hm
  clear h hm
  go_enter Try.func7, Try.ntmps7
  go_wp2_with fail
  generalize w.alloc (.cells #[.slice ao o.length co, .slice ar rs.length cr] 59) = W at *
  refine (szZone_any ao co ar cr o rs 1048576 _ ((unhide L0).below bb) (unhide HM) (by omega) (by omega)).mono ?_
  rintro e w1 ⟨⟨y, rfl, hr0, hr1, hr2⟩, b1⟩
  replace bb := below_next bb b1
  replace K0 := hide (block_kept b1 (unhide K0))
  clear b1
  by_cases hneg : y < 0
  · clear hr2
    go_wp2_with fail
    go_ret
    exact ⟨rfl, bb⟩
  have HS := hide ((hr2 (by omega)).mono (m' := 1048576) (by omega))
  have HSS := hide ((unhide HS).mono (m' := 2097152) (by omega))
  clear hr2 HM
  have hsn : ∀ k, k < rs.length → (rs.getD k recZ).name.length ≤ 1048576 := fun k hk => ((unhide HS).recs k hk).name
  have SP := fun (w : World) (vo vr : Value) (h : HasZ w vo vr o rs) => specZoneOk_has h hsn
  have IM := fun (w : World) (vo vr : Value) (h : HasZ w vo vr o rs) => implZoneOk_has h
  generalize zoneOk o rs = G0 at *
  replace SP := hide SP
  replace IM := hide IM
  have hgg : (G0 != G0) = false := by simp
  clear hsn
  obtain ⟨d0, d1⟩ := cells2 (unhide K0)
  go_wp2_with fail
  clear d0 d1
  refine (toZone_any ao co ar cr o rs _ ((unhide L0).below bb) (unhide HS)).mono ?_
  rintro e w2 ⟨vo2, vr2, rfl, o2, b2⟩
  obtain ⟨oa2, oc2, rfl, _⟩ := o2.name.form
  obtain ⟨ra2, rc2, rfl, _⟩ := o2.recs.form
  have A2 := hide o2
  clear o2
  replace bb := below_next bb b2
  replace K0 := hide (block_kept b2 (unhide K0))
  clear b2
  go_wp2_with fail
  refine (unhide SP _ _ _ (unhide A2)).mono ?_
  rintro e w3 ⟨rfl, b3⟩
  clear A2
  replace bb := below_next bb b3
  replace K0 := hide (block_kept b3 (unhide K0))
  clear b3
  obtain ⟨d0, d1⟩ := cells2 (unhide K0)
  go_wp2_with fail
  clear d0 d1
  refine (toZone_any ao co ar cr o rs _ ((unhide L0).below bb) (unhide HS)).mono ?_
  rintro e w4 ⟨vo4, vr4, rfl, o4, b4⟩
  obtain ⟨oa4, oc4, rfl, _⟩ := o4.name.form
  obtain ⟨ra4, rc4, rfl, _⟩ := o4.recs.form
  replace bb := below_next bb b4
  replace K0 := hide (block_kept b4 (unhide K0))
  clear b4
  have b5 := below_alloc (w := w4) (.cells #[.slice oa4 o.length oc4, .slice ra4 rs.length rc4] 64)
  have VX := hide (heap_alloc_new w4 (.cells #[.slice oa4 o.length oc4, .slice ra4 rs.length rc4] 64))
  have X0 := hide (o4.below b5)
  replace bb := below_next bb b5
  replace K0 := hide (block_kept b5 (unhide K0))
  clear b5 o4
  obtain ⟨f0, f1⟩ := cells2 (unhide VX)
  go_wp2_with fail
  clear f0 f1
  generalize w4.alloc (.cells #[.slice oa4 o.length oc4, .slice ra4 rs.length rc4] 64) = w5 at *
  refine (unhide IM _ _ _ (unhide X0)).mono ?_
  rintro e w6 ⟨rfl, b6⟩
  have b7 := below_next b6 (below_drew (w := w6))
  replace bb := below_next bb b7
  replace K0 := hide (block_kept b7 (unhide K0))
  replace X0 := hide ((unhide X0).below b7)
  replace VX := hide (block_kept b7 (unhide VX))
  clear b6 b7
  go_wp2_with fail
  go_region_held3 (fun w' => (w'.cell? ⟨w.heap.size, 0, none⟩ = some (.slice ao o.length co) ∧ w'.cell? ⟨w.heap.size, 1, none⟩ = some (.slice ar rs.length cr)) ∧ (w'.cell? ⟨w4.heap.size, 0, none⟩ = some (.slice oa4 o.length oc4) ∧ w'.cell? ⟨w4.heap.size, 1, none⟩ = some (.slice ra4 rs.length rc4)))
    (first | exact ⟨cells2 (unhide K0), cells2 (unhide VX)⟩ | exact ⟨cells2 (block_kept q8 (unhide K0)), cells2 (block_kept q8 (unhide VX))⟩ | exact ⟨cells2 (block_kept b8 (unhide K0)), cells2 (block_kept b8 (unhide VX))⟩)
    (first
    | (go_at_call 33; refine (toZone_any ao co ar cr o rs _ ((unhide L0).below bb) (unhide HS)).mono ?_; rintro e w8 ⟨vo8, vr8, rfl, o8, b8⟩; obtain ⟨oa8, oc8, rfl, _⟩ := o8.name.form; obtain ⟨ra8, rc8, rfl, _⟩ := o8.recs.form)
    | (go_at_call 35; refine (eqZone_has ((unhide X0).below b8) o8 (unhide HSS)).mono ?_; rintro e w9 ⟨rfl, b9⟩; have q8 := below_next b8 b9))
  go_wp2_with fail
  go_ret
  exact ⟨rfl, below_next bb q8⟩
end Go.Proofs.Ytaconefooicplaa
