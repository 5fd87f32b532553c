/-
  Contract of the program's HasName.
-/
import Derived.Test.YthobpbnaklnbiaaGreatFnLookupsG45
import Derived.Test.YthobpbnaklnbiaaGreatFnLookupsG38
import Derived.Test.YthobpbnaklnbiaaGreatFnLookupsG10
import Derived.Test.YthobpbnaklnbiaaGreatFnLookupsG02
import Derived.Deep.RegionHeld3
import Derived.Test.YthobpbnaklnbiaaGreatFnLookupsG16
namespace Go.Proofs.YthobpbnaklnbiaaGreat
open Go.RowKit
set_option linter.unusedVariables false

set_option maxHeartbeats 2000000 in
set_option maxRecDepth 100000 in
theorem implHasName_has {vo vr v : Value} {o n : List (List Int)} {rs : List Rec} {w : World} (h : HasZ w vo vr o rs) (hn : HasL w v n) :
  Calls Tryz.prog 20 #[.agg #[vo, vr], .agg #[v]] w fun e w' => e = .returned (.bool (hasNameOf o rs n)) ∧ Below w.heap.size w w' := by
 obtain ⟨oa, oc, rfl, _⟩ := h.name.form
 obtain ⟨ra, rc, rfl, _⟩ := h.recs.form
 obtain ⟨a, cap, rfl, _⟩ := hn.form
 obtain ⟨hsz, k0, x0⟩ := box2 w (.cells #[.slice oa o.length oc, .slice ra rs.length rc] 28) #[.slice a n.length cap] 25
 have b0 := below2 w (.cells #[.slice oa o.length oc, .slice ra rs.length rc] 28) (.cells #[.slice a n.length cap] 25)
 have bd := UX (w := (w.alloc (.cells #[.slice oa o.length oc, .slice ra rs.length rc] 28)).alloc (.cells #[.slice a n.length cap] 25))
 have bb := UG b0 bd
 have KZ := UC (UE bd k0)
 have KN := UC (UE bd x0)
 have HH := UC (h.below bb)
 have HN := UC (hn.below bb)
 clear h hn hsz k0 x0 b0 bd
 unfold hasNameOf
 cases hz : zoneOk o rs with
 | false =>
  rw [Bool.false_and]
  go_enter Tryz.func20, Tryz.ntmps20
  go_wp2_with fail
  generalize (w.alloc (.cells #[.slice oa o.length oc, .slice ra rs.length rc] 28)).alloc (.cells #[.slice a n.length cap] 25) = W at *
  refine wp_region_held_drew (S := (fun w' => (w'.cell? ⟨w.heap.size, 0, none⟩ = some (.slice oa o.length oc) ∧ w'.cell? ⟨w.heap.size, 1, none⟩ = some (.slice ra rs.length rc)) ∧ w'.cell? ⟨w.heap.size + 1, 0, none⟩ = some (.slice a n.length cap))) (by kernel_rfl) ⟨UM (UB KZ), US (UB KN)⟩ (fun hHeld => ?_)
  show wpAnyH _ _ _ _ _ 13 #[false, false, false, false, false, false, false, false, false, false, false, false, false] _ _
  generalize W.drew = W0 at *
  refine tkF (.agg #[.slice oa o.length oc, .slice ra rs.length rc]) rfl (by kernel_rfl) (by kernel_rfl) (fun _ _ _ h => h) ?_ hHeld ?_; (· (intro w hSw; (try dsimp only at hSw); go_simp)); simp only [Act.put, setF, List.setIfInBounds_toArray, List.set_cons_zero, List.set_cons_succ]
  refine wpAnyH_ready (rs := [1]) (by kernel_rfl) (by simp) (AllReadyH.cons (UY rfl) (fun K hK => ?_) AllReadyH.nil)
  have HK := UC hK
  clear hK hHeld
  go_simp
  have HO := implZoneOk_has (UB HH)
  rw [hz] at HO
  refine HO.mono ?_
  rintro e w1 ⟨rfl, b1⟩
  replace KZ := UC (UE b1 (UB KZ))
  replace KN := UC (UE b1 (UB KN))
  replace HH := UC ((UB HH).below b1)
  replace HN := UC ((UB HN).below b1)
  replace bb := UG bb b1
  clear HO b1
  go_simp
  refine (UB HK).out _ _ ⟨UM (UB KZ), US (UB KN)⟩ (fun hHeld => ?_)
  clear HK K
  try simp only [List.setIfInBounds_toArray, List.set_cons_zero, List.set_cons_succ]
  refine tkF (.bool false) rfl (by kernel_rfl) (by kernel_rfl) (fun _ _ _ h => h) ?_ hHeld ?_; (· (intro w hSw; (try dsimp only at hSw); go_simp)); simp only [Act.put, setF, List.setIfInBounds_toArray, List.set_cons_zero, List.set_cons_succ]
  iterate 2 (refine skF rfl (by kernel_rfl) (by kernel_rfl) (fun _ _ _ h => h) hHeld ?_; simp only [Act.put, setF, List.setIfInBounds_toArray, List.set_cons_zero, List.set_cons_succ])
  refine tkF (.bool false) rfl (by kernel_rfl) (by kernel_rfl) (fun _ _ _ h => h) ?_ hHeld ?_; (· (intro w hSw; (try dsimp only at hSw); go_simp)); simp only [Act.put, setF, List.setIfInBounds_toArray, List.set_cons_zero, List.set_cons_succ]
  refine tkF (.bool false) rfl (by kernel_rfl) (by kernel_rfl) (fun _ _ _ h => h) ?_ hHeld ?_; (· (intro w hSw; (try dsimp only at hSw); go_simp)); simp only [Act.put, setF, List.setIfInBounds_toArray, List.set_cons_zero, List.set_cons_succ]
  iterate 4 (refine skF rfl (by kernel_rfl) (by kernel_rfl) (fun _ _ _ h => h) hHeld ?_; simp only [Act.put, setF, List.setIfInBounds_toArray, List.set_cons_zero, List.set_cons_succ])
  refine tkF (.bool false) rfl (by kernel_rfl) (by kernel_rfl) (fun _ _ _ h => h) ?_ hHeld ?_; (· (intro w hSw; (try dsimp only at hSw); go_simp)); simp only [Act.put, setF, List.setIfInBounds_toArray, List.set_cons_zero, List.set_cons_succ]
  refine tkF (.bool false) rfl (by kernel_rfl) (by kernel_rfl) (fun _ _ _ h => h) ?_ hHeld ?_; (· (intro w hSw; (try dsimp only at hSw); go_simp)); simp only [Act.put, setF, List.setIfInBounds_toArray, List.set_cons_zero, List.set_cons_succ]
  refine wpAnyH_done (by kernel_rfl) ?_ _
  clear hHeld
  go_wp2_with fail
  go_ret
  exact ⟨rfl, bb⟩
 | true =>
  rw [Bool.true_and]
  have HOK := UC (zone_oks hz)
  have h60 := (zone_short hz).2.2
  cases hnm : nameOk n with
  | false =>
   rw [Bool.false_and]
   go_enter Tryz.func20, Tryz.ntmps20
   go_wp2_with fail
   generalize (w.alloc (.cells #[.slice oa o.length oc, .slice ra rs.length rc] 28)).alloc (.cells #[.slice a n.length cap] 25) = W at *
   refine wp_region_held_drew (S := (fun w' => (w'.cell? ⟨w.heap.size, 0, none⟩ = some (.slice oa o.length oc) ∧ w'.cell? ⟨w.heap.size, 1, none⟩ = some (.slice ra rs.length rc)) ∧ w'.cell? ⟨w.heap.size + 1, 0, none⟩ = some (.slice a n.length cap))) (by kernel_rfl) ⟨UM (UB KZ), US (UB KN)⟩ (fun hHeld => ?_)
   show wpAnyH _ _ _ _ _ 13 #[false, false, false, false, false, false, false, false, false, false, false, false, false] _ _
   generalize W.drew = W0 at *
   refine tkF (.agg #[.slice oa o.length oc, .slice ra rs.length rc]) rfl (by kernel_rfl) (by kernel_rfl) (fun _ _ _ h => h) ?_ hHeld ?_; (· (intro w hSw; (try dsimp only at hSw); go_simp)); simp only [Act.put, setF, List.setIfInBounds_toArray, List.set_cons_zero, List.set_cons_succ]
   refine wpAnyH_ready (rs := [1]) (by kernel_rfl) (by simp) (AllReadyH.cons (UY rfl) (fun K hK => ?_) AllReadyH.nil)
   have HK := UC hK
   clear hK hHeld
   go_simp
   have HO := implZoneOk_has (UB HH)
   rw [hz] at HO
   refine HO.mono ?_
   rintro e w1 ⟨rfl, b1⟩
   replace KZ := UC (UE b1 (UB KZ))
   replace KN := UC (UE b1 (UB KN))
   replace HH := UC ((UB HH).below b1)
   replace HN := UC ((UB HN).below b1)
   replace bb := UG bb b1
   clear HO b1
   go_simp
   refine (UB HK).out _ _ ⟨UM (UB KZ), US (UB KN)⟩ (fun hHeld => ?_)
   clear HK K
   try simp only [List.setIfInBounds_toArray, List.set_cons_zero, List.set_cons_succ]
   refine tkF (.bool true) rfl (by kernel_rfl) (by kernel_rfl) (fun _ _ _ h => h) ?_ hHeld ?_; (· (intro w hSw; (try dsimp only at hSw); go_simp)); simp only [Act.put, setF, List.setIfInBounds_toArray, List.set_cons_zero, List.set_cons_succ]
   refine tkF (.agg #[.slice a n.length cap]) rfl (by kernel_rfl) (by kernel_rfl) (fun _ _ _ h => h) ?_ hHeld ?_; (· (intro w hSw; (try dsimp only at hSw); go_simp)); simp only [Act.put, setF, List.setIfInBounds_toArray, List.set_cons_zero, List.set_cons_succ]
   refine wpAnyH_ready (rs := [4]) (by kernel_rfl) (by simp) (AllReadyH.cons (UY rfl) (fun K hK => ?_) AllReadyH.nil)
   have HK := UC hK
   clear hK hHeld
   go_simp
   have HO := VP (UB HN)
   rw [hnm] at HO
   refine HO.mono ?_
   rintro e w2 ⟨rfl, b2⟩
   replace KZ := UC (UE b2 (UB KZ))
   replace KN := UC (UE b2 (UB KN))
   replace HH := UC ((UB HH).below b2)
   replace HN := UC ((UB HN).below b2)
   replace bb := UG bb b2
   clear HO b2
   go_simp
   refine (UB HK).out _ _ ⟨UM (UB KZ), US (UB KN)⟩ (fun hHeld => ?_)
   clear HK K
   try simp only [List.setIfInBounds_toArray, List.set_cons_zero, List.set_cons_succ]
   refine tkF (.bool false) rfl (by kernel_rfl) (by kernel_rfl) (fun _ _ _ h => h) ?_ hHeld ?_; (· (intro w hSw; (try dsimp only at hSw); go_simp)); simp only [Act.put, setF, List.setIfInBounds_toArray, List.set_cons_zero, List.set_cons_succ]
   refine tkF (.bool false) rfl (by kernel_rfl) (by kernel_rfl) (fun _ _ _ h => h) ?_ hHeld ?_; (· (intro w hSw; (try dsimp only at hSw); go_simp)); simp only [Act.put, setF, List.setIfInBounds_toArray, List.set_cons_zero, List.set_cons_succ]
   iterate 4 (refine skF rfl (by kernel_rfl) (by kernel_rfl) (fun _ _ _ h => h) hHeld ?_; simp only [Act.put, setF, List.setIfInBounds_toArray, List.set_cons_zero, List.set_cons_succ])
   refine tkF (.bool false) rfl (by kernel_rfl) (by kernel_rfl) (fun _ _ _ h => h) ?_ hHeld ?_; (· (intro w hSw; (try dsimp only at hSw); go_simp)); simp only [Act.put, setF, List.setIfInBounds_toArray, List.set_cons_zero, List.set_cons_succ]
   refine tkF (.bool false) rfl (by kernel_rfl) (by kernel_rfl) (fun _ _ _ h => h) ?_ hHeld ?_; (· (intro w hSw; (try dsimp only at hSw); go_simp)); simp only [Act.put, setF, List.setIfInBounds_toArray, List.set_cons_zero, List.set_cons_succ]
   refine wpAnyH_done (by kernel_rfl) ?_ _
   clear hHeld
   go_wp2_with fail
   go_ret
   exact ⟨rfl, bb⟩
  | true =>
   rw [Bool.true_and]
   have HRES := UC (book_any (n := n) (UB HOK))
   go_enter Tryz.func20, Tryz.ntmps20
   go_wp2_with fail
   generalize (w.alloc (.cells #[.slice oa o.length oc, .slice ra rs.length rc] 28)).alloc (.cells #[.slice a n.length cap] 25) = W at *
   refine wp_region_held_drew (S := (fun w' => (w'.cell? ⟨w.heap.size, 0, none⟩ = some (.slice oa o.length oc) ∧ w'.cell? ⟨w.heap.size, 1, none⟩ = some (.slice ra rs.length rc)) ∧ w'.cell? ⟨w.heap.size + 1, 0, none⟩ = some (.slice a n.length cap))) (by kernel_rfl) ⟨UM (UB KZ), US (UB KN)⟩ (fun hHeld => ?_)
   show wpAnyH _ _ _ _ _ 13 #[false, false, false, false, false, false, false, false, false, false, false, false, false] _ _
   generalize W.drew = W0 at *
   refine tkF (.agg #[.slice oa o.length oc, .slice ra rs.length rc]) rfl (by kernel_rfl) (by kernel_rfl) (fun _ _ _ h => h) ?_ hHeld ?_; (· (intro w hSw; (try dsimp only at hSw); go_simp)); simp only [Act.put, setF, List.setIfInBounds_toArray, List.set_cons_zero, List.set_cons_succ]
   refine wpAnyH_ready (rs := [1]) (by kernel_rfl) (by simp) (AllReadyH.cons (UY rfl) (fun K hK => ?_) AllReadyH.nil)
   have HK := UC hK
   clear hK hHeld
   go_simp
   have HO := implZoneOk_has (UB HH)
   rw [hz] at HO
   refine HO.mono ?_
   rintro e w1 ⟨rfl, b1⟩
   replace KZ := UC (UE b1 (UB KZ))
   replace KN := UC (UE b1 (UB KN))
   replace HH := UC ((UB HH).below b1)
   replace HN := UC ((UB HN).below b1)
   replace bb := UG bb b1
   clear HO b1
   go_simp
   refine (UB HK).out _ _ ⟨UM (UB KZ), US (UB KN)⟩ (fun hHeld => ?_)
   clear HK K
   try simp only [List.setIfInBounds_toArray, List.set_cons_zero, List.set_cons_succ]
   refine tkF (.bool true) rfl (by kernel_rfl) (by kernel_rfl) (fun _ _ _ h => h) ?_ hHeld ?_; (· (intro w hSw; (try dsimp only at hSw); go_simp)); simp only [Act.put, setF, List.setIfInBounds_toArray, List.set_cons_zero, List.set_cons_succ]
   refine tkF (.agg #[.slice a n.length cap]) rfl (by kernel_rfl) (by kernel_rfl) (fun _ _ _ h => h) ?_ hHeld ?_; (· (intro w hSw; (try dsimp only at hSw); go_simp)); simp only [Act.put, setF, List.setIfInBounds_toArray, List.set_cons_zero, List.set_cons_succ]
   refine wpAnyH_ready (rs := [4]) (by kernel_rfl) (by simp) (AllReadyH.cons (UY rfl) (fun K hK => ?_) AllReadyH.nil)
   have HK := UC hK
   clear hK hHeld
   go_simp
   have HO := VP (UB HN)
   rw [hnm] at HO
   refine HO.mono ?_
   rintro e w2 ⟨rfl, b2⟩
   replace KZ := UC (UE b2 (UB KZ))
   replace KN := UC (UE b2 (UB KN))
   replace HH := UC ((UB HH).below b2)
   replace HN := UC ((UB HN).below b2)
   replace bb := UG bb b2
   clear HO b2
   go_simp
   refine (UB HK).out _ _ ⟨UM (UB KZ), US (UB KN)⟩ (fun hHeld => ?_)
   clear HK K
   try simp only [List.setIfInBounds_toArray, List.set_cons_zero, List.set_cons_succ]
   refine tkF (.bool true) rfl (by kernel_rfl) (by kernel_rfl) (fun _ _ _ h => h) ?_ hHeld ?_; (· (intro w hSw; (try dsimp only at hSw); go_simp)); simp only [Act.put, setF, List.setIfInBounds_toArray, List.set_cons_zero, List.set_cons_succ]
   refine tkF (.bool true) rfl (by kernel_rfl) (by kernel_rfl) (fun _ _ _ h => h) ?_ hHeld ?_; (· (intro w hSw; (try dsimp only at hSw); go_simp)); simp only [Act.put, setF, List.setIfInBounds_toArray, List.set_cons_zero, List.set_cons_succ]
   refine tkF (.agg #[.slice oa o.length oc, .slice ra rs.length rc]) rfl (by kernel_rfl) (by kernel_rfl) (fun _ _ _ h => h) ?_ hHeld ?_; (· (intro w hSw; (try dsimp only at hSw); go_simp)); simp only [Act.put, setF, List.setIfInBounds_toArray, List.set_cons_zero, List.set_cons_succ]
   refine tkI 9 (.agg #[.slice a n.length cap]) rfl (by kernel_rfl) (by kernel_rfl) (fun _ _ _ h => h) ?_ hHeld ?_
   ·(intro w hSw; (try dsimp only at hSw); go_simp)
   try simp only [Act.put, List.setIfInBounds_toArray, List.set_cons_zero, List.set_cons_succ]
   refine wpAnyH_ready (rs := [8]) (by kernel_rfl) (by simp) (AllReadyH.cons (UY rfl) (fun K hK => ?_) AllReadyH.nil)
   have HK := UC hK
   clear hK hHeld
   go_simp
   refine (bookOf_has (UB HH) (UB HOK) (by omega)).mono ?_
   rintro e w3 ⟨rfl, hB3, b3⟩
   replace KZ := UC (UE b3 (UB KZ))
   replace KN := UC (UE b3 (UB KN))
   replace HH := UC ((UB HH).below b3)
   replace HN := UC ((UB HN).below b3)
   replace bb := UG bb b3
   have HB := UC hB3
   clear hB3 b3
   go_simp
   refine (UB HK).out _ _ ⟨UM (UB KZ), US (UB KN)⟩ (fun hHeld => ?_)
   clear HK K
   try simp only [List.setIfInBounds_toArray, List.set_cons_zero, List.set_cons_succ]
   refine wpAnyH_ready (rs := [10]) (by kernel_rfl) (by simp) (AllReadyH.cons (UY rfl) (fun K hK => ?_) AllReadyH.nil)
   have HK := UC hK
   clear hK hHeld
   go_simp
   have HO := hasNameB_has (UB HB) (UB HN)
   rw [UB HRES] at HO
   refine HO.mono ?_
   rintro e w4 ⟨rfl, b4⟩
   replace KZ := UC (UE b4 (UB KZ))
   replace KN := UC (UE b4 (UB KN))
   replace HH := UC ((UB HH).below b4)
   replace HN := UC ((UB HN).below b4)
   replace bb := UG bb b4
   clear HO b4
   go_simp
   refine (UB HK).out _ _ ⟨UM (UB KZ), US (UB KN)⟩ (fun hHeld => ?_)
   clear HK K
   try simp only [List.setIfInBounds_toArray, List.set_cons_zero, List.set_cons_succ]
   refine tkF (.bool (hasAny rs n)) rfl (by kernel_rfl) (by kernel_rfl) (fun _ _ _ h => h) ?_ hHeld ?_; (· (intro w hSw; (try dsimp only at hSw); go_simp)); simp only [Act.put, setF, List.setIfInBounds_toArray, List.set_cons_zero, List.set_cons_succ]
   refine tkF (.bool (hasAny rs n)) rfl (by kernel_rfl) (by kernel_rfl) (fun _ _ _ h => h) ?_ hHeld ?_; (· (intro w hSw; (try dsimp only at hSw); go_simp)); simp only [Act.put, setF, List.setIfInBounds_toArray, List.set_cons_zero, List.set_cons_succ]
   refine wpAnyH_done (by kernel_rfl) ?_ _
   clear hHeld
   go_wp2_with fail
   go_ret
   exact ⟨rfl, bb⟩
end Go.Proofs.YthobpbnaklnbiaaGreat
