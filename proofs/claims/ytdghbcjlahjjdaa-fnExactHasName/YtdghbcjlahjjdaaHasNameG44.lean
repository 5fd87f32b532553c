/-
  The walk of laws.FnExactHasName.
-/
import Derived.Test.YtdghbcjlahjjdaaHasNameG10
import Derived.Test.YtdghbcjlahjjdaaHasNameG07
import Derived.Test.YtdghbcjlahjjdaaHasNameG37
import Derived.Test.YtdghbcjlahjjdaaHasNameG43
import Derived.Deep.RegionHeld3
namespace Go.Proofs.Ytdghbcjlahjjdaa
open Go.RowKit
set_option linter.unusedVariables false

set_option maxHeartbeats 2000000 in
set_option maxRecDepth 100000 in
theorem lawHasName (ao : Option Addr) (co : Nat) (ar : Option Addr) (cr : Nat) (o : List (List Int)) (rs : List Rec) (a : Option Addr) (cap : Nat) (n : List (List Int)) (w : World) (h : InZ w ao ar o rs) (hm : SizeZ maxLen o rs)
    (h' : LiesL w a n) (hm' : n.length ≤ maxLen) (hm2' : ∀ i, i < n.length → (n.getD i []).length ≤ maxLen) :
    Calls Try.prog 5 #[.agg #[.slice ao o.length co, .slice ar rs.length cr], .agg #[.slice a n.length cap]] w fun e w' => e = .returned (.bool true) ∧ Below w.heap.size w w' := by
  obtain ⟨hsz, k0, x0⟩ := box2 w (.cells #[.slice ao o.length co, .slice ar rs.length cr] 51) #[.slice a n.length cap] 36
  have bb := below2 w (.cells #[.slice ao o.length co, .slice ar rs.length cr] 51) (.cells #[.slice a n.length cap] 36)
  have K0 := hide k0
  have K1 := hide x0
  have L0 := hide h
  have L1 := hide h'
  have HM := hide hm
  have HM1 := hide hm2'
  clear h hm h' hm2' k0 x0 hsz
  go_enter Try.func5, Try.ntmps5
  obtain ⟨d0, d1⟩ := cells2 (unhide K0)
  go_wp2_with fail
  clear d0 d1
  generalize (w.alloc (.cells #[.slice ao o.length co, .slice ar rs.length cr] 51)).alloc (.cells #[.slice a n.length cap] 36) = W at *
  refine (szZone_any ao co ar cr o rs 1048576 _ ((unhide L0).below bb) (unhide HM) (by omega) (by omega)).mono ?_
  rintro e w1 ⟨⟨y, rfl, hr0, hr1, hr2⟩, b1⟩
  replace bb := below_next bb b1
  replace K0 := hide (block_kept b1 (unhide K0))
  replace K1 := hide (block_kept b1 (unhide K1))
  clear b1
  by_cases hneg : y < 0
  · clear hr2
    go_wp2_with fail
    go_ret
    exact ⟨rfl, bb⟩
  have HS := hide ((hr2 (by omega)).mono (m' := 1048576) (by omega))
  have HSS := hide ((unhide HS).mono (m' := 2097152) (by omega))
  clear hr2 HM
  have d2 := block_one (unhide K1)
  go_wp2_with fail
  clear d2
  refine (szName_any a cap n y _ ((unhide L1).below bb) hm' (unhide HM1) (by omega) (by omega)).mono ?_
  rintro e w2 ⟨⟨y', rfl, hr0', hr1', hr2'⟩, b2⟩
  replace bb := below_next bb b2
  replace K0 := hide (block_kept b2 (unhide K0))
  replace K1 := hide (block_kept b2 (unhide K1))
  clear b2
  by_cases hneg' : y' < 0
  · clear hr2'
    go_wp2_with fail
    go_ret
    exact ⟨rfl, bb⟩
  obtain ⟨hn1, hn2⟩ := hr2' (by omega)
  have hl' : n.length ≤ 1048576 := by omega
  have HL2 := hide (show ∀ i, i < n.length → (n.getD i []).length ≤ 1048576 from fun i hi => by have := hn2 i hi; omega)
  have HL3 := hide (show ∀ i, i < n.length → (n.getD i []).length ≤ 2097152 from fun i hi => by have := hn2 i hi; omega)
  clear hr2' hn1 hn2 HM1
  have hsn : ∀ k, k < rs.length → (rs.getD k recZ).name.length ≤ 1048576 := fun k hk => ((unhide HS).recs k hk).name
  have SP := fun (w : World) (vo vr v : Value) (h : HasZ w vo vr o rs) (h' : HasL w v n) => specHasName_has h h' hsn
  have IM := fun (w : World) (vo vr v : Value) (h : HasZ w vo vr o rs) (h' : HasL w v n) => implHasName_has h h'
  generalize hasNameOf o rs n = G0 at *
  replace SP := hide SP
  replace IM := hide IM
  have hgg : (G0 != G0) = false := by simp
  clear hsn
  have bd := below_drew (w := w2)
  replace bb := below_next bb bd
  replace K0 := hide (block_kept bd (unhide K0))
  replace K1 := hide (block_kept bd (unhide K1))
  clear bd
  go_wp2_with fail
  go_region_held3 (fun w' => (w'.cell? ⟨w.heap.size, 0, none⟩ = some (.slice ao o.length co) ∧ w'.cell? ⟨w.heap.size, 1, none⟩ = some (.slice ar rs.length cr)) ∧ w'.cell? ⟨w.heap.size + 1, 0, none⟩ = some (.slice a n.length cap))
    (first | exact ⟨cells2 (unhide K0), block_one (unhide K1)⟩ | exact ⟨cells2 (block_kept q5 (unhide K0)), block_one (block_kept q5 (unhide K1))⟩ | exact ⟨cells2 (block_kept q4 (unhide K0)), block_one (block_kept q4 (unhide K1))⟩ | exact ⟨cells2 (block_kept b3 (unhide K0)), block_one (block_kept b3 (unhide K1))⟩)
    (first
    | (go_at_call 22; refine (toZone_any ao co ar cr o rs _ ((unhide L0).below bb) (unhide HS)).mono ?_; rintro e w3 ⟨vo3, vr3, rfl, o3, b3⟩; obtain ⟨oa3, oc3, rfl, _⟩ := o3.name.form; obtain ⟨ra3, rc3, rfl, _⟩ := o3.recs.form)
    | (go_at_call 13; refine (toName_any a cap n _ ((unhide L1).below (below_next bb b3)) hl' (unhide HL2)).mono ?_; rintro e w4 ⟨v4, rfl, o4, b4⟩; obtain ⟨va4, vc4, rfl, _⟩ := o4.hasL.form; have q4 := below_next b3 b4)
    | (go_at_call 21; refine (unhide SP _ _ _ _ (o3.below b4) o4.hasL).mono ?_; rintro e w5 ⟨rfl, b5⟩; have q5 := below_next q4 b5))
  replace bb := below_next bb q5
  replace K0 := hide (block_kept q5 (unhide K0))
  replace K1 := hide (block_kept q5 (unhide K1))
  clear q5 q4 b3 b4 b5 o3 o4
  obtain ⟨d0, d1⟩ := cells2 (unhide K0)
  go_wp2_with fail
  clear d0 d1
  refine (toZone_any ao co ar cr o rs _ ((unhide L0).below bb) (unhide HS)).mono ?_
  rintro e w6 ⟨vo6, vr6, rfl, o6, b6⟩
  obtain ⟨oa6, oc6, rfl, _⟩ := o6.name.form
  obtain ⟨ra6, rc6, rfl, _⟩ := o6.recs.form
  have b7 := below_alloc (w := w6) (.cells #[.slice oa6 o.length oc6, .slice ra6 rs.length rc6] 40)
  have VX := hide (heap_alloc_new w6 (.cells #[.slice oa6 o.length oc6, .slice ra6 rs.length rc6] 40))
  have X0 := hide (o6.below b7)
  have b8 := below_next b6 b7
  replace bb := below_next bb b8
  replace K0 := hide (block_kept b8 (unhide K0))
  replace K1 := hide (block_kept b8 (unhide K1))
  clear b6 b7 b8 o6
  have d2 := block_one (unhide K1)
  go_wp2_with fail
  clear d2
  generalize w6.alloc (.cells #[.slice oa6 o.length oc6, .slice ra6 rs.length rc6] 40) = w7 at *
  refine (toName_any a cap n _ ((unhide L1).below bb) hl' (unhide HL2)).mono ?_
  rintro e w8 ⟨v8, rfl, o8, b8⟩
  obtain ⟨va8, vc8, rfl, _⟩ := o8.hasL.form
  have b9 := below_alloc (w := w8) (.cells #[.slice va8 n.length vc8] 25)
  have VY := hide (heap_alloc_new w8 (.cells #[.slice va8 n.length vc8] 25))
  have Y0 := hide (o8.hasL.below b9)
  have b10 := below_next b8 b9
  replace bb := below_next bb b10
  replace K0 := hide (block_kept b10 (unhide K0))
  replace K1 := hide (block_kept b10 (unhide K1))
  replace VX := hide (block_kept b10 (unhide VX))
  replace X0 := hide ((unhide X0).below b10)
  clear b8 b9 b10 o8
  obtain ⟨f0, f1⟩ := cells2 (unhide VX)
  have f2 := block_one (unhide VY)
  go_wp2_with fail
  clear f0 f1 f2
  generalize w8.alloc (.cells #[.slice va8 n.length vc8] 25) = w9 at *
  refine (unhide IM _ _ _ _ (unhide X0) (unhide Y0)).mono ?_
  rintro e w10 ⟨rfl, b10⟩
  have b11 := below_next b10 (below_drew (w := w10))
  replace bb := below_next bb b11
  replace K0 := hide (block_kept b11 (unhide K0))
  replace K1 := hide (block_kept b11 (unhide K1))
  replace X0 := hide ((unhide X0).below b11)
  replace Y0 := hide ((unhide Y0).below b11)
  replace VX := hide (block_kept b11 (unhide VX))
  replace VY := hide (block_kept b11 (unhide VY))
  clear b10 b11
  go_wp2_with fail
  go_region_held3 (fun w' => (w'.cell? ⟨w.heap.size, 0, none⟩ = some (.slice ao o.length co) ∧ w'.cell? ⟨w.heap.size, 1, none⟩ = some (.slice ar rs.length cr)) ∧ (w'.cell? ⟨w6.heap.size, 0, none⟩ = some (.slice oa6 o.length oc6) ∧ w'.cell? ⟨w6.heap.size, 1, none⟩ = some (.slice ra6 rs.length rc6)))
    (first | exact ⟨cells2 (unhide K0), cells2 (unhide VX)⟩ | exact ⟨cells2 (block_kept q13 (unhide K0)), cells2 (block_kept q13 (unhide VX))⟩ | exact ⟨cells2 (block_kept b12 (unhide K0)), cells2 (block_kept b12 (unhide VX))⟩)
    (first
    | (go_at_call 22; refine (toZone_any ao co ar cr o rs _ ((unhide L0).below bb) (unhide HS)).mono ?_; rintro e w12 ⟨vo12, vr12, rfl, o12, b12⟩; obtain ⟨oa12, oc12, rfl, _⟩ := o12.name.form; obtain ⟨ra12, rc12, rfl, _⟩ := o12.recs.form)
    | (go_at_call 15; refine (eqZone_has ((unhide X0).below b12) o12 (unhide HSS)).mono ?_; rintro e w13 ⟨rfl, b13⟩; have q13 := below_next b12 b13))
  have q14 := below_next q13 (below_drew (w := w13))
  replace bb := below_next bb q14
  replace K1 := hide (block_kept q14 (unhide K1))
  replace Y0 := hide ((unhide Y0).below q14)
  replace VY := hide (block_kept q14 (unhide VY))
  clear b12 b13 q13 q14 o12 K0 VX X0
  go_wp2_with fail
  go_region_held3 (fun w' => w'.cell? ⟨w.heap.size + 1, 0, none⟩ = some (.slice a n.length cap) ∧ w'.cell? ⟨w8.heap.size, 0, none⟩ = some (.slice va8 n.length vc8))
    (first | exact ⟨block_one (unhide K1), block_one (unhide VY)⟩ | exact ⟨block_one (block_kept q16 (unhide K1)), block_one (block_kept q16 (unhide VY))⟩ | exact ⟨block_one (block_kept b15 (unhide K1)), block_one (block_kept b15 (unhide VY))⟩)
    (first
    | (go_at_call 13; refine (toName_any a cap n _ ((unhide L1).below bb) hl' (unhide HL2)).mono ?_; rintro e w15 ⟨v15, rfl, o15, b15⟩; obtain ⟨va15, vc15, rfl, _⟩ := o15.hasL.form)
    | (go_at_call 16; refine (eqName_has ((unhide Y0).below b15) o15.hasL (unhide HL3)).mono ?_; rintro e w16 ⟨rfl, b16⟩; have q16 := below_next b15 b16))
  go_wp2_with fail
  go_ret
  exact ⟨rfl, below_next bb q16⟩
end Go.Proofs.Ytdghbcjlahjjdaa
