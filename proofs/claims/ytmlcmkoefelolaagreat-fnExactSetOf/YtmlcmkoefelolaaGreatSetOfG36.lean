/-
  Contract of the specification's l5all. Contracts of the specification's l2own: a name of its own with the same labels. Plain facts: the store of a struct of seven cells, and steps of a region whose order is open.
-/
import Derived.Test.YtmlcmkoefelolaaGreatSetOfG17
import Derived.Test.YtmlcmkoefelolaaGreatSetOfG34
import Derived.Test.YtmlcmkoefelolaaGreatSetOfG07
import Derived.Test.YtmlcmkoefelolaaGreatSetOfG35
import Derived.Deep.RegionHeld3
import Derived.RangeFuncBox
import Derived.Test.YtmlcmkoefelolaaGreatSetOfG30
import Derived.Test.YtmlcmkoefelolaaGreatSetOfG04
import Derived.Test.YtmlcmkoefelolaaGreatSetOfG06
import Derived.Test.YtmlcmkoefelolaaGreatSetOfG08
import Derived.Test.YtmlcmkoefelolaaGreatSetOfG02
import Derived.Deep.MidRow
namespace Go.Proofs.YtmlcmkoefelolaaGreat
open Go.RowKit
set_option linter.unusedVariables false

set_option maxHeartbeats 2000000 in
set_option maxRecDepth 100000 in
theorem l5all_has {vo vr vq : Value} {o n : List (List Int)} {rs : List Rec} {w0 w : World} (t : Int) (h : HasZ w0 vo vr o rs) (hw0 : Below w0.heap.size w0 w) (hq : HasL w vq n) (h60 : rs.length ≤ 60) (hn : n.length ≤ 1048576) (hs : ∀ k, k < rs.length → (rs.getD k recZ).name.length ≤ 1048576) :
  Calls Tryz.prog 46 #[.agg #[vo, vr], .agg #[vq], .int .i64 t] w fun e w' => ∃ v' B, e = .returned v' ∧ RowS B 52 w0 w' v' (selK n t rs rs.length) ∧ Below w.heap.size w w' := by
 obtain ⟨oa, oc, rfl, _⟩ := h.name.form
 obtain ⟨ra, rc, rfl, _⟩ := h.recs.form
 obtain ⟨qa, qc, rfl, _⟩ := hq.form
 obtain ⟨hsz, k0, x0⟩ := box2 w (.cells #[.slice oa o.length oc, .slice ra rs.length rc] 34) #[.slice qa n.length qc] 32
 have b0 := below2 w (.cells #[.slice oa o.length oc, .slice ra rs.length rc] 34) (.cells #[.slice qa n.length qc] 32)
 have HE := hide h
 have B0 := below_next hw0 b0
 have Q0 := hide (hq.below b0)
 have K0 := hide k0
 have X0 := hide x0
 have HSS := hide hs
 have zx := block_lt x0
 clear h hq k0 x0 hs hsz
 generalize hm : rs.length = m at *
 have HN := hide hm
 clear hm
 go_enter Tryz.func46, Tryz.ntmps46
 go_wp2_with fail
 generalize (w.alloc (.cells #[.slice oa o.length oc, .slice ra m rc] 34)).alloc (.cells #[.slice qa n.length qc] 32) = W at *
 go_loopw [7, 8] (fun v i wr => ∃ k : Nat, k ≤ m ∧ i = .int .i64 k ∧ RowS W.heap.size 52 w0 wr v (selK n t rs k) ∧ Below W.heap.size W wr) (fun _ i _ => m - (intOf i).toNat)
 case atStart => exact ⟨0, Nat.zero_le _, rfl, RowS.nil _ _ _ _, Below.refl _ _⟩
 case round =>
  obtain ⟨k, hk, rfl, hrow, hb⟩ := hrel
  obtain ⟨z0, z1⟩ := cells2 (block_kept hb (unhide K0))
  have hsl := selK_length n t rs k
  by_cases hlt : k < m
  ·obtain ⟨b, off, na, nc, ta, tc, xa, xc, ia, ic, rfl, hbl, hc, hu⟩ := (unhide HE).recs.here (k := k) (by rw [unhide HN]; exact hlt)
   have hsel : selK n t rs (k + 1) = if selB n t (rs.getD k recZ) = true then selK n t rs k ++ [rs.getD k recZ] else selK n t rs k := rfl
   have HSEL := hide hsel
   have hlk := unhide HSS k hlt
   clear hsel
   generalize hrk : rs.getD k recZ = rk at *
   have HRK := hide hrk
   clear hrk
   have bd := below_next hb (below_drew (w := wr))
   have KD := hide (block_kept bd (unhide K0))
   have XD := hide (block_kept bd (unhide X0))
   have bwd := below_next B0 bd
   have hbld : b < wr.drew.heap.size := Nat.lt_of_lt_of_le hbl bwd.size
   have HC := hide (range_below hc hbl bwd)
   have UD := hide (hu.below bwd).name
   clear bwd
   have QD := hide ((unhide Q0).below bd)
   have CM := fun (w : World) (h1 : HasL w (.slice na rk.name.length nc) rk.name) (h2 : HasL w (.slice qa n.length qc) n) => l2cmp_has h1 h2 hlk hn
   have HU := hide hu
   have HROW := hide hrow
   have hkm : (k : Int) < m := by omega
   clear hc hu hrow
   unfold selB at HSEL
   by_cases hz : cmpN rk.name n = 0
   ·rw [hz] at CM HSEL
    replace CM := hide CM
    clear hz
    by_cases h255 : t = 255
    ·subst h255
     have hs1 : selK n 255 rs (k + 1) = selK n 255 rs k ++ [rk] := unhide HSEL
     have HS1 := hide hs1
     clear HSEL hs1
     go_wp2_with fail
     refine wp_region_held_drew (S := (fun w' => (w'.cell? ⟨w.heap.size, 0, none⟩ = some (.slice oa o.length oc) ∧ w'.cell? ⟨w.heap.size, 1, none⟩ = some (.slice (some ⟨b, off, none⟩) m rc)) ∧ w'.cell? ⟨w.heap.size + 1, 0, none⟩ = some (.slice qa n.length qc) ∧ (w'.cell? ⟨b, off + k * 7, none⟩ = some (.slice na rk.name.length nc) ∧ w'.cell? ⟨b, off + k * 7 + 1, none⟩ = some (.int .i64 rk.type) ∧ w'.cell? ⟨b, off + k * 7 + 2, none⟩ = some (.int .i64 rk.ttl) ∧ w'.cell? ⟨b, off + k * 7 + 3, none⟩ = some (.int .i64 rk.addr) ∧ w'.cell? ⟨b, off + k * 7 + 4, none⟩ = some (.slice ta rk.to.length tc) ∧ w'.cell? ⟨b, off + k * 7 + 5, none⟩ = some (.slice xa rk.text.length xc) ∧ w'.cell? ⟨b, off + k * 7 + 6, none⟩ = some (.slice ia rk.nums.length ic)))) (by kernel_rfl) ⟨cells2 (unhide KD), block_one (unhide XD), range7 (unhide HC)⟩ (fun hHeld => ?_)
     show wpAnyH _ _ _ _ _ 23 #[false, false, false, false, false, false, false, false, false, false, false, false, false, false, false, false, false, false, false, false, false, false, false] _ _
     iterate 3 (refine tkF ?_ rfl (by kernel_rfl) (by kernel_rfl) (fun _ _ _ h => h) ?_ hHeld ?_; rotate_left; (· (intro w hSw; (try dsimp only at hSw); go_simp <;> with_reducible rfl)); simp only [Act.put, setF, List.setIfInBounds_toArray, List.set_cons_zero, List.set_cons_succ])
     refine tkF (.pointer (some ⟨b, off + k * 7, none⟩)) rfl (by kernel_rfl) (by kernel_rfl) (fun _ _ _ h => h) ?_ hHeld ?_; (· (intro w hSw; (try dsimp only at hSw); go_simp)); simp only [Act.put, setF, List.setIfInBounds_toArray, List.set_cons_zero, List.set_cons_succ]
     iterate 3 (refine tkF ?_ rfl (by kernel_rfl) (by kernel_rfl) (fun _ _ _ h => h) ?_ hHeld ?_; rotate_left; (· (intro w hSw; (try dsimp only at hSw); go_simp <;> with_reducible rfl)); simp only [Act.put, setF, List.setIfInBounds_toArray, List.set_cons_zero, List.set_cons_succ])
     refine runI 7 rfl (by kernel_rfl) (by kernel_rfl) (fun K hK => ?_)
     have HK := hide hK
     clear hK hHeld
     go_simp
     refine (unhide CM _ (unhide UD) (unhide QD)).mono ?_
     rintro e w2 ⟨rfl, b2⟩
     go_simp
     refine (unhide HK).out _ _ ⟨cells2 (block_kept b2 (unhide KD)), block_one (block_kept b2 (unhide XD)), range7 (range_below (unhide HC) hbld b2)⟩ (fun hHeld => ?_)
     clear HK K
     try simp only [List.setIfInBounds_toArray, List.set_cons_zero, List.set_cons_succ]
     iterate 3 (refine tkF ?_ rfl (by kernel_rfl) (by kernel_rfl) (fun _ _ _ h => h) ?_ hHeld ?_; rotate_left; (· (intro w hSw; (try dsimp only at hSw); go_simp <;> with_reducible rfl)); simp only [Act.put, setF, List.setIfInBounds_toArray, List.set_cons_zero, List.set_cons_succ])
     refine tkF (.bool true) rfl (by kernel_rfl) (by kernel_rfl) (fun _ _ _ h => h) ?_ hHeld ?_; (· (intro w hSw; (try dsimp only at hSw); go_simp)); simp only [Act.put, setF, List.setIfInBounds_toArray, List.set_cons_zero, List.set_cons_succ]
     refine tkF (.bool true) rfl (by kernel_rfl) (by kernel_rfl) (fun _ _ _ h => h) ?_ hHeld ?_; (· (intro w hSw; (try dsimp only at hSw); go_simp)); simp only [Act.put, setF, List.setIfInBounds_toArray, List.set_cons_zero, List.set_cons_succ]
     iterate 8 (refine skF rfl (by kernel_rfl) (by kernel_rfl) (fun _ _ _ h => h) hHeld ?_; simp only [Act.put, setF, List.setIfInBounds_toArray, List.set_cons_zero, List.set_cons_succ])
     iterate 2 (refine tkF ?_ rfl (by kernel_rfl) (by kernel_rfl) (fun _ _ _ h => h) ?_ hHeld ?_; rotate_left; (· (intro w hSw; (try dsimp only at hSw); go_simp <;> with_reducible rfl)); simp only [Act.put, setF, List.setIfInBounds_toArray, List.set_cons_zero, List.set_cons_succ])
     refine wpAnyH_done (by kernel_rfl) ?_ _
     clear hHeld
     have bw2 := below_next bd b2
     obtain ⟨z0', z1'⟩ := cells2 (block_kept bw2 (unhide K0))
     obtain ⟨c0, c1, c2, c3, c4, c5, c6⟩ := range7 (range_below (unhide HC) hbld b2)
     obtain ⟨xs, hxo, hxs⟩ := unhide HROW
     have hxl : xs.length = (selK n 255 rs k).length * 7 := hxo.1
     have HXO := hide (ownsRow_later hxo (below_next (below_drew (w := wr)) b2))
     have HXS := hide hxs
     have bx := below_alloc (w := w2) (.cells #[.slice na rk.name.length nc, .int .i64 rk.type, .int .i64 rk.ttl, .int .i64 rk.addr, .slice ta rk.to.length tc, .slice xa rk.text.length xc, .slice ia rk.nums.length ic] 52)
     have KX := hide (heap_alloc_new w2 (.cells #[.slice na rk.name.length nc, .int .i64 rk.type, .int .i64 rk.ttl, .int .i64 rk.addr, .slice ta rk.to.length tc, .slice xa rk.text.length xc, .slice ia rk.nums.length ic] 52))
     have BX := hide bx
     have zx2 := bw2.size
     clear hxo hxs bx bd
     go_wp2_with (at_builtin; refine append_rec rfl _ _ 30 52 rfl Tryz.underlying30 _ info_rr rfl W.heap.size _ (selK n 255 rs k).length xs rfl (ownsRow_later (unhide HXO) (unhide BX)) w2.heap.size (cellsR (.slice na rk.name.length nc) (.slice ta rk.to.length tc) (.slice xa rk.text.length xc) (.slice ia rk.nums.length ic) rk) rfl (unhide KX) rfl (by simp [cellsR, Value.oneCell']) (by omega) (Nat.le_trans zx2 (unhide BX).size) ?_)
     intro v3 w3 o3 g3
     have bw3 : Below W.heap.size W w3 := (below_next bw2 (unhide BX)).grown g3 (below_next bw2 (unhide BX)).size (fun q hq => (World.ownsRow.lt (unhide HXO) q hq).1)
     have R3 := RowS.snoc hxl (unhide HXS) o3 (unhide HU)
     rw [← unhide HS1] at R3
     have HR3 := hide R3
     clear o3 g3 R3
     go_wp2_with fail
     exact ⟨⟨k + 1, by omega, by go_num, unhide HR3, bw3⟩, by simp [intOf]; omega⟩
    ·have e255 : (t == 255) = false := by rw [beq_eq_false_iff_ne]; exact h255
     by_cases hty : rk.type = t
     ·have ety : (rk.type == t) = true := by rw [hty]; simp
      have hs1 : selK n t rs (k + 1) = selK n t rs k ++ [rk] := by rw [unhide HSEL, e255, ety]; rfl
      have HS1 := hide hs1
      clear HSEL hs1 hty h255
      go_wp2_with fail
      refine wp_region_held_drew (S := (fun w' => (w'.cell? ⟨w.heap.size, 0, none⟩ = some (.slice oa o.length oc) ∧ w'.cell? ⟨w.heap.size, 1, none⟩ = some (.slice (some ⟨b, off, none⟩) m rc)) ∧ w'.cell? ⟨w.heap.size + 1, 0, none⟩ = some (.slice qa n.length qc) ∧ (w'.cell? ⟨b, off + k * 7, none⟩ = some (.slice na rk.name.length nc) ∧ w'.cell? ⟨b, off + k * 7 + 1, none⟩ = some (.int .i64 rk.type) ∧ w'.cell? ⟨b, off + k * 7 + 2, none⟩ = some (.int .i64 rk.ttl) ∧ w'.cell? ⟨b, off + k * 7 + 3, none⟩ = some (.int .i64 rk.addr) ∧ w'.cell? ⟨b, off + k * 7 + 4, none⟩ = some (.slice ta rk.to.length tc) ∧ w'.cell? ⟨b, off + k * 7 + 5, none⟩ = some (.slice xa rk.text.length xc) ∧ w'.cell? ⟨b, off + k * 7 + 6, none⟩ = some (.slice ia rk.nums.length ic)))) (by kernel_rfl) ⟨cells2 (unhide KD), block_one (unhide XD), range7 (unhide HC)⟩ (fun hHeld => ?_)
      show wpAnyH _ _ _ _ _ 23 #[false, false, false, false, false, false, false, false, false, false, false, false, false, false, false, false, false, false, false, false, false, false, false] _ _
      iterate 3 (refine tkF ?_ rfl (by kernel_rfl) (by kernel_rfl) (fun _ _ _ h => h) ?_ hHeld ?_; rotate_left; (· (intro w hSw; (try dsimp only at hSw); go_simp <;> with_reducible rfl)); simp only [Act.put, setF, List.setIfInBounds_toArray, List.set_cons_zero, List.set_cons_succ])
      refine tkF (.pointer (some ⟨b, off + k * 7, none⟩)) rfl (by kernel_rfl) (by kernel_rfl) (fun _ _ _ h => h) ?_ hHeld ?_; (· (intro w hSw; (try dsimp only at hSw); go_simp)); simp only [Act.put, setF, List.setIfInBounds_toArray, List.set_cons_zero, List.set_cons_succ]
      iterate 3 (refine tkF ?_ rfl (by kernel_rfl) (by kernel_rfl) (fun _ _ _ h => h) ?_ hHeld ?_; rotate_left; (· (intro w hSw; (try dsimp only at hSw); go_simp <;> with_reducible rfl)); simp only [Act.put, setF, List.setIfInBounds_toArray, List.set_cons_zero, List.set_cons_succ])
      refine runI 7 rfl (by kernel_rfl) (by kernel_rfl) (fun K hK => ?_)
      have HK := hide hK
      clear hK hHeld
      go_simp
      refine (unhide CM _ (unhide UD) (unhide QD)).mono ?_
      rintro e w2 ⟨rfl, b2⟩
      go_simp
      refine (unhide HK).out _ _ ⟨cells2 (block_kept b2 (unhide KD)), block_one (block_kept b2 (unhide XD)), range7 (range_below (unhide HC) hbld b2)⟩ (fun hHeld => ?_)
      clear HK K
      try simp only [List.setIfInBounds_toArray, List.set_cons_zero, List.set_cons_succ]
      iterate 3 (refine tkF ?_ rfl (by kernel_rfl) (by kernel_rfl) (fun _ _ _ h => h) ?_ hHeld ?_; rotate_left; (· (intro w hSw; (try dsimp only at hSw); go_simp <;> with_reducible rfl)); simp only [Act.put, setF, List.setIfInBounds_toArray, List.set_cons_zero, List.set_cons_succ])
      refine tkF (.bool false) rfl (by kernel_rfl) (by kernel_rfl) (fun _ _ _ h => h) ?_ hHeld ?_; (· (intro w hSw; (try dsimp only at hSw); go_simp)); simp only [Act.put, setF, List.setIfInBounds_toArray, List.set_cons_zero, List.set_cons_succ]
      refine tkF (.bool false) rfl (by kernel_rfl) (by kernel_rfl) (fun _ _ _ h => h) ?_ hHeld ?_; (· (intro w hSw; (try dsimp only at hSw); go_simp)); simp only [Act.put, setF, List.setIfInBounds_toArray, List.set_cons_zero, List.set_cons_succ]
      iterate 3 (refine tkF ?_ rfl (by kernel_rfl) (by kernel_rfl) (fun _ _ _ h => h) ?_ hHeld ?_; rotate_left; (· (intro w hSw; (try dsimp only at hSw); go_simp <;> with_reducible rfl)); simp only [Act.put, setF, List.setIfInBounds_toArray, List.set_cons_zero, List.set_cons_succ])
      refine tkF (.pointer (some ⟨b, off + k * 7, none⟩)) rfl (by kernel_rfl) (by kernel_rfl) (fun _ _ _ h => h) ?_ hHeld ?_; (· (intro w hSw; (try dsimp only at hSw); go_simp)); simp only [Act.put, setF, List.setIfInBounds_toArray, List.set_cons_zero, List.set_cons_succ]
      iterate 3 (refine tkF ?_ rfl (by kernel_rfl) (by kernel_rfl) (fun _ _ _ h => h) ?_ hHeld ?_; rotate_left; (· (intro w hSw; (try dsimp only at hSw); go_simp <;> with_reducible rfl)); simp only [Act.put, setF, List.setIfInBounds_toArray, List.set_cons_zero, List.set_cons_succ])
      refine tkF (.bool true) rfl (by kernel_rfl) (by kernel_rfl) (fun _ _ _ h => h) ?_ hHeld ?_; (· (intro w hSw; (try dsimp only at hSw); go_simp)); simp only [Act.put, setF, List.setIfInBounds_toArray, List.set_cons_zero, List.set_cons_succ]
      iterate 2 (refine tkF ?_ rfl (by kernel_rfl) (by kernel_rfl) (fun _ _ _ h => h) ?_ hHeld ?_; rotate_left; (· (intro w hSw; (try dsimp only at hSw); go_simp <;> with_reducible rfl)); simp only [Act.put, setF, List.setIfInBounds_toArray, List.set_cons_zero, List.set_cons_succ])
      refine wpAnyH_done (by kernel_rfl) ?_ _
      clear hHeld
      have bw2 := below_next bd b2
      obtain ⟨z0', z1'⟩ := cells2 (block_kept bw2 (unhide K0))
      obtain ⟨c0, c1, c2, c3, c4, c5, c6⟩ := range7 (range_below (unhide HC) hbld b2)
      obtain ⟨xs, hxo, hxs⟩ := unhide HROW
      have hxl : xs.length = (selK n t rs k).length * 7 := hxo.1
      have HXO := hide (ownsRow_later hxo (below_next (below_drew (w := wr)) b2))
      have HXS := hide hxs
      have bx := below_alloc (w := w2) (.cells #[.slice na rk.name.length nc, .int .i64 rk.type, .int .i64 rk.ttl, .int .i64 rk.addr, .slice ta rk.to.length tc, .slice xa rk.text.length xc, .slice ia rk.nums.length ic] 52)
      have KX := hide (heap_alloc_new w2 (.cells #[.slice na rk.name.length nc, .int .i64 rk.type, .int .i64 rk.ttl, .int .i64 rk.addr, .slice ta rk.to.length tc, .slice xa rk.text.length xc, .slice ia rk.nums.length ic] 52))
      have BX := hide bx
      have zx2 := bw2.size
      clear hxo hxs bx bd
      go_wp2_with (at_builtin; refine append_rec rfl _ _ 30 52 rfl Tryz.underlying30 _ info_rr rfl W.heap.size _ (selK n t rs k).length xs rfl (ownsRow_later (unhide HXO) (unhide BX)) w2.heap.size (cellsR (.slice na rk.name.length nc) (.slice ta rk.to.length tc) (.slice xa rk.text.length xc) (.slice ia rk.nums.length ic) rk) rfl (unhide KX) rfl (by simp [cellsR, Value.oneCell']) (by omega) (Nat.le_trans zx2 (unhide BX).size) ?_)
      intro v3 w3 o3 g3
      have bw3 : Below W.heap.size W w3 := (below_next bw2 (unhide BX)).grown g3 (below_next bw2 (unhide BX)).size (fun q hq => (World.ownsRow.lt (unhide HXO) q hq).1)
      have R3 := RowS.snoc hxl (unhide HXS) o3 (unhide HU)
      rw [← unhide HS1] at R3
      have HR3 := hide R3
      clear o3 g3 R3
      go_wp2_with fail
      exact ⟨⟨k + 1, by omega, by go_num, unhide HR3, bw3⟩, by simp [intOf]; omega⟩
     ·have ety : (rk.type == t) = false := by rw [beq_eq_false_iff_ne]; exact hty
      have hs1 : selK n t rs (k + 1) = selK n t rs k := by rw [unhide HSEL, e255, ety]; rfl
      have HS1 := hide hs1
      clear HSEL hs1 hty h255
      go_wp2_with fail
      refine wp_region_held_drew (S := (fun w' => (w'.cell? ⟨w.heap.size, 0, none⟩ = some (.slice oa o.length oc) ∧ w'.cell? ⟨w.heap.size, 1, none⟩ = some (.slice (some ⟨b, off, none⟩) m rc)) ∧ w'.cell? ⟨w.heap.size + 1, 0, none⟩ = some (.slice qa n.length qc) ∧ (w'.cell? ⟨b, off + k * 7, none⟩ = some (.slice na rk.name.length nc) ∧ w'.cell? ⟨b, off + k * 7 + 1, none⟩ = some (.int .i64 rk.type) ∧ w'.cell? ⟨b, off + k * 7 + 2, none⟩ = some (.int .i64 rk.ttl) ∧ w'.cell? ⟨b, off + k * 7 + 3, none⟩ = some (.int .i64 rk.addr) ∧ w'.cell? ⟨b, off + k * 7 + 4, none⟩ = some (.slice ta rk.to.length tc) ∧ w'.cell? ⟨b, off + k * 7 + 5, none⟩ = some (.slice xa rk.text.length xc) ∧ w'.cell? ⟨b, off + k * 7 + 6, none⟩ = some (.slice ia rk.nums.length ic)))) (by kernel_rfl) ⟨cells2 (unhide KD), block_one (unhide XD), range7 (unhide HC)⟩ (fun hHeld => ?_)
      show wpAnyH _ _ _ _ _ 23 #[false, false, false, false, false, false, false, false, false, false, false, false, false, false, false, false, false, false, false, false, false, false, false] _ _
      iterate 3 (refine tkF ?_ rfl (by kernel_rfl) (by kernel_rfl) (fun _ _ _ h => h) ?_ hHeld ?_; rotate_left; (· (intro w hSw; (try dsimp only at hSw); go_simp <;> with_reducible rfl)); simp only [Act.put, setF, List.setIfInBounds_toArray, List.set_cons_zero, List.set_cons_succ])
      refine tkF (.pointer (some ⟨b, off + k * 7, none⟩)) rfl (by kernel_rfl) (by kernel_rfl) (fun _ _ _ h => h) ?_ hHeld ?_; (· (intro w hSw; (try dsimp only at hSw); go_simp)); simp only [Act.put, setF, List.setIfInBounds_toArray, List.set_cons_zero, List.set_cons_succ]
      iterate 3 (refine tkF ?_ rfl (by kernel_rfl) (by kernel_rfl) (fun _ _ _ h => h) ?_ hHeld ?_; rotate_left; (· (intro w hSw; (try dsimp only at hSw); go_simp <;> with_reducible rfl)); simp only [Act.put, setF, List.setIfInBounds_toArray, List.set_cons_zero, List.set_cons_succ])
      refine runI 7 rfl (by kernel_rfl) (by kernel_rfl) (fun K hK => ?_)
      have HK := hide hK
      clear hK hHeld
      go_simp
      refine (unhide CM _ (unhide UD) (unhide QD)).mono ?_
      rintro e w2 ⟨rfl, b2⟩
      go_simp
      refine (unhide HK).out _ _ ⟨cells2 (block_kept b2 (unhide KD)), block_one (block_kept b2 (unhide XD)), range7 (range_below (unhide HC) hbld b2)⟩ (fun hHeld => ?_)
      clear HK K
      try simp only [List.setIfInBounds_toArray, List.set_cons_zero, List.set_cons_succ]
      iterate 3 (refine tkF ?_ rfl (by kernel_rfl) (by kernel_rfl) (fun _ _ _ h => h) ?_ hHeld ?_; rotate_left; (· (intro w hSw; (try dsimp only at hSw); go_simp <;> with_reducible rfl)); simp only [Act.put, setF, List.setIfInBounds_toArray, List.set_cons_zero, List.set_cons_succ])
      refine tkF (.bool false) rfl (by kernel_rfl) (by kernel_rfl) (fun _ _ _ h => h) ?_ hHeld ?_; (· (intro w hSw; (try dsimp only at hSw); go_simp)); simp only [Act.put, setF, List.setIfInBounds_toArray, List.set_cons_zero, List.set_cons_succ]
      refine tkF (.bool false) rfl (by kernel_rfl) (by kernel_rfl) (fun _ _ _ h => h) ?_ hHeld ?_; (· (intro w hSw; (try dsimp only at hSw); go_simp)); simp only [Act.put, setF, List.setIfInBounds_toArray, List.set_cons_zero, List.set_cons_succ]
      iterate 3 (refine tkF ?_ rfl (by kernel_rfl) (by kernel_rfl) (fun _ _ _ h => h) ?_ hHeld ?_; rotate_left; (· (intro w hSw; (try dsimp only at hSw); go_simp <;> with_reducible rfl)); simp only [Act.put, setF, List.setIfInBounds_toArray, List.set_cons_zero, List.set_cons_succ])
      refine tkF (.pointer (some ⟨b, off + k * 7, none⟩)) rfl (by kernel_rfl) (by kernel_rfl) (fun _ _ _ h => h) ?_ hHeld ?_; (· (intro w hSw; (try dsimp only at hSw); go_simp)); simp only [Act.put, setF, List.setIfInBounds_toArray, List.set_cons_zero, List.set_cons_succ]
      iterate 3 (refine tkF ?_ rfl (by kernel_rfl) (by kernel_rfl) (fun _ _ _ h => h) ?_ hHeld ?_; rotate_left; (· (intro w hSw; (try dsimp only at hSw); go_simp <;> with_reducible rfl)); simp only [Act.put, setF, List.setIfInBounds_toArray, List.set_cons_zero, List.set_cons_succ])
      refine tkF (.bool false) rfl (by kernel_rfl) (by kernel_rfl) (fun _ _ _ h => h) ?_ hHeld ?_; (· (intro w hSw; (try dsimp only at hSw); go_simp)); simp only [Act.put, setF, List.setIfInBounds_toArray, List.set_cons_zero, List.set_cons_succ]
      iterate 2 (refine tkF ?_ rfl (by kernel_rfl) (by kernel_rfl) (fun _ _ _ h => h) ?_ hHeld ?_; rotate_left; (· (intro w hSw; (try dsimp only at hSw); go_simp <;> with_reducible rfl)); simp only [Act.put, setF, List.setIfInBounds_toArray, List.set_cons_zero, List.set_cons_succ])
      refine wpAnyH_done (by kernel_rfl) ?_ _
      clear hHeld
      have bw2 := below_next bd b2
      have R3 : RowS W.heap.size 52 w0 w2 u7 (selK n t rs (k + 1)) := by
       rw [unhide HS1]
       obtain ⟨xs, hxo, hxs⟩ := unhide HROW
       exact ⟨xs, ownsRow_later hxo (below_next (below_drew (w := wr)) b2), hxs⟩
      have HR3 := hide R3
      clear R3
      go_wp2_with fail
      exact ⟨⟨k + 1, by omega, by go_num, unhide HR3, bw2⟩, by simp [intOf]; omega⟩
   ·have e0 : (cmpN rk.name n == 0) = false := by rw [beq_eq_false_iff_ne]; exact hz
    have hs1 : selK n t rs (k + 1) = selK n t rs k := by rw [unhide HSEL, e0]; rfl
    have HS1 := hide hs1
    generalize cmpN rk.name n = c at *
    replace CM := hide CM
    clear HSEL hs1 hz
    go_wp2_with fail
    refine wp_region_held_drew (S := (fun w' => (w'.cell? ⟨w.heap.size, 0, none⟩ = some (.slice oa o.length oc) ∧ w'.cell? ⟨w.heap.size, 1, none⟩ = some (.slice (some ⟨b, off, none⟩) m rc)) ∧ w'.cell? ⟨w.heap.size + 1, 0, none⟩ = some (.slice qa n.length qc) ∧ (w'.cell? ⟨b, off + k * 7, none⟩ = some (.slice na rk.name.length nc) ∧ w'.cell? ⟨b, off + k * 7 + 1, none⟩ = some (.int .i64 rk.type) ∧ w'.cell? ⟨b, off + k * 7 + 2, none⟩ = some (.int .i64 rk.ttl) ∧ w'.cell? ⟨b, off + k * 7 + 3, none⟩ = some (.int .i64 rk.addr) ∧ w'.cell? ⟨b, off + k * 7 + 4, none⟩ = some (.slice ta rk.to.length tc) ∧ w'.cell? ⟨b, off + k * 7 + 5, none⟩ = some (.slice xa rk.text.length xc) ∧ w'.cell? ⟨b, off + k * 7 + 6, none⟩ = some (.slice ia rk.nums.length ic)))) (by kernel_rfl) ⟨cells2 (unhide KD), block_one (unhide XD), range7 (unhide HC)⟩ (fun hHeld => ?_)
    show wpAnyH _ _ _ _ _ 23 #[false, false, false, false, false, false, false, false, false, false, false, false, false, false, false, false, false, false, false, false, false, false, false] _ _
    iterate 3 (refine tkF ?_ rfl (by kernel_rfl) (by kernel_rfl) (fun _ _ _ h => h) ?_ hHeld ?_; rotate_left; (· (intro w hSw; (try dsimp only at hSw); go_simp <;> with_reducible rfl)); simp only [Act.put, setF, List.setIfInBounds_toArray, List.set_cons_zero, List.set_cons_succ])
    refine tkF (.pointer (some ⟨b, off + k * 7, none⟩)) rfl (by kernel_rfl) (by kernel_rfl) (fun _ _ _ h => h) ?_ hHeld ?_; (· (intro w hSw; (try dsimp only at hSw); go_simp)); simp only [Act.put, setF, List.setIfInBounds_toArray, List.set_cons_zero, List.set_cons_succ]
    iterate 3 (refine tkF ?_ rfl (by kernel_rfl) (by kernel_rfl) (fun _ _ _ h => h) ?_ hHeld ?_; rotate_left; (· (intro w hSw; (try dsimp only at hSw); go_simp <;> with_reducible rfl)); simp only [Act.put, setF, List.setIfInBounds_toArray, List.set_cons_zero, List.set_cons_succ])
    refine runI 7 rfl (by kernel_rfl) (by kernel_rfl) (fun K hK => ?_)
    have HK := hide hK
    clear hK hHeld
    go_simp
    refine (unhide CM _ (unhide UD) (unhide QD)).mono ?_
    rintro e w2 ⟨rfl, b2⟩
    go_simp
    refine (unhide HK).out _ _ ⟨cells2 (block_kept b2 (unhide KD)), block_one (block_kept b2 (unhide XD)), range7 (range_below (unhide HC) hbld b2)⟩ (fun hHeld => ?_)
    clear HK K
    try simp only [List.setIfInBounds_toArray, List.set_cons_zero, List.set_cons_succ]
    refine tkF (.bool false) rfl (by kernel_rfl) (by kernel_rfl) (fun _ _ _ h => h) ?_ hHeld ?_; (· (intro w hSw; (try dsimp only at hSw); go_simp)); simp only [Act.put, setF, List.setIfInBounds_toArray, List.set_cons_zero, List.set_cons_succ]
    refine tkF (.bool false) rfl (by kernel_rfl) (by kernel_rfl) (fun _ _ _ h => h) ?_ hHeld ?_; (· (intro w hSw; (try dsimp only at hSw); go_simp)); simp only [Act.put, setF, List.setIfInBounds_toArray, List.set_cons_zero, List.set_cons_succ]
    iterate 12 (refine skF rfl (by kernel_rfl) (by kernel_rfl) (fun _ _ _ h => h) hHeld ?_; simp only [Act.put, setF, List.setIfInBounds_toArray, List.set_cons_zero, List.set_cons_succ])
    refine tkF ?_ rfl (by kernel_rfl) (by kernel_rfl) (fun _ _ _ h => h) ?_ hHeld ?_; rotate_left; (· (intro w hSw; (try dsimp only at hSw); go_simp <;> with_reducible rfl)); simp only [Act.put, setF, List.setIfInBounds_toArray, List.set_cons_zero, List.set_cons_succ]
    refine wpAnyH_done (by kernel_rfl) ?_ _
    clear hHeld
    have bw2 := below_next bd b2
    have R3 : RowS W.heap.size 52 w0 w2 u7 (selK n t rs (k + 1)) := by
     rw [unhide HS1]
     obtain ⟨xs, hxo, hxs⟩ := unhide HROW
     exact ⟨xs, ownsRow_later hxo (below_next (below_drew (w := wr)) b2), hxs⟩
    have HR3 := hide R3
    clear R3
    go_wp2_with fail
    exact ⟨⟨k + 1, by omega, by go_num, unhide HR3, bw2⟩, by simp [intOf]; omega⟩
  ·obtain rfl : k = m := by omega
   go_wp2_with fail
   go_ret
   exact ⟨_, _, rfl, hrow, below_next b0 hb⟩
end Go.Proofs.YtmlcmkoefelolaaGreat

namespace Go.Proofs.YtmlcmkoefelolaaGreat
open Go.RowKit
set_option linter.unusedVariables false

theorem info_sl2 : (Tryz.prog.info? 44).map (fun i => (i.zero, i.size, i.bytes)) = some (some (.slice none 0 0), 1, 24) := by kernel_rfl

set_option maxHeartbeats 2000000 in
set_option maxRecDepth 100000 in
theorem l2own_short {v : Value} {n : List (List Int)} {w : World} (h : HasL w v n) (hs : n.length ≤ 7) (hs2 : ∀ k, k < n.length → (n.getD k []).length ≤ 16) :
  Calls Tryz.prog 100 #[.agg #[v]] w fun e w' => ∃ v', e = .returned (.agg #[v']) ∧ OwnL w.heap.size 44 5 w' v' n ∧ Below w.heap.size w w' := by
 obtain ⟨a, cap, rfl, hcl, hcm⟩ := h.form
 unfold maxLen at hcm
 obtain ⟨hsz, h1, h2⟩ := box3 w (.cells #[.slice a n.length cap] 32) #[.slice none 0 0] #[.slice none 0 0] 32 32
 have bb : Below w.heap.size w (((w.alloc (.cells #[.slice a n.length cap] 32)).alloc (.cells #[.slice none 0 0] 32)).alloc (.cells #[.slice none 0 0] 32)) :=
  ((below_alloc _).alloc (below_alloc _).size _).alloc ((below_alloc _).alloc (below_alloc _).size _).size _
 have hbx : (((w.alloc (.cells #[.slice a n.length cap] 32)).alloc (.cells #[.slice none 0 0] 32)).alloc (.cells #[.slice none 0 0] 32)).heap[w.heap.size]? = some (.cells #[.slice a n.length cap] 32) :=
  block_kept (below_alloc _) (block_kept (below_alloc _) (heap_alloc_new w _))
 have H := hide h
 clear h
 have HS2 := hide hs2
 clear hs2
 generalize hn : n.length = m at *
 have HN := hide hn
 clear hn
 go_enter Tryz.func100, Tryz.ntmps100
 go_wp2
 generalize ((w.alloc (.cells #[.slice a m cap] 32)).alloc (.cells #[.slice none 0 0] 32)).alloc (.cells #[.slice none 0 0] 32) = W at *
 go_loopw [4] (fun i wr => ∃ (k : Nat) (o : Value), k ≤ m ∧ i = .int .i64 k ∧ wr.heap[w.heap.size]? = some (.cells #[.slice a m cap] 32) ∧ wr.heap[w.heap.size + 1]? = some (.cells #[.slice none 0 0] 32) ∧ wr.heap[w.heap.size + 1 + 1]? = some (.cells #[o] 32) ∧ OwnL (w.heap.size + 3) 44 5 wr o (n.take k) ∧ Below w.heap.size w wr) (fun i _ => m - (intOf i).toNat)
 case atStart => exact ⟨0, .slice none 0 0, Nat.zero_le _, rfl, hbx, h1, h2, ⟨[], by simpa using World.ownsRow_nil _ _ _ _, by simp, by simp⟩, bb⟩
 case round =>
  obtain ⟨k, o, hk, rfl, hr0, hr1, hr2, ho, hb⟩ := hrel
  have c0 := block_one hr0
  by_cases hlt : k < m
  ·obtain ⟨b, off, u, rfl, hbl, hc, hu⟩ := ((unhide H).below hb).here (k := k) (by rw [unhide HN]; exact hlt)
   have hlk := unhide HS2 k hlt
   have htk := hide (show n.take (k + 1) = n.take k ++ [n.getD k []] by rw [List.take_succ_eq_append_getElem (by rw [unhide HN]; exact hlt)]; simp [show k < n.length by rw [unhide HN]; exact hlt])
   have htl : (n.take k).length = k := by rw [List.length_take, unhide HN]; omega
   generalize n.getD k [] = lab at *
   generalize n.take k = nk at *
   subst htl
   have HU := hide hu
   obtain ⟨ua, uc, rfl, _⟩ := hu.form
   clear hu
   obtain ⟨oa, oc, rfl, _⟩ := ho.hasL.form
   have hod := ho.below (below_drew (w := wr))
   clear ho
   have HO := hide hod
   obtain ⟨vs, hvs, hva, hvd⟩ := hod
   have hvl : vs.length = nk.length := by have := hvs.1; simpa using this
   have kd2 := block_kept (below_drew (w := wr)) hr2
   have kd1 := block_kept (below_drew (w := wr)) hr1
   have bd := below_next hb (below_drew (w := wr))
   have cod := block_one kd2
   have HUd := hide ((unhide HU).below below_drew)
   have HVS := hide hvs
   have HVA := hide hva
   have HVD := hide hvd
   have z3 := block_lt hr2
   have zb : w.heap.size + 3 ≤ wr.drew.heap.size := by show w.heap.size + 3 ≤ wr.heap.size; omega
   clear hva hvd hvs
   have kd0 := block_kept (below_drew (w := wr)) hr0
   have KD0 := hide kd0
   have KD2 := hide kd2
   have KD1 := hide kd1
   have cd0 := block_one kd0
   have cul : wr.drew.cell? ⟨b, off + nk.length, none⟩ = some (.slice ua lab.length uc) := hc
   have ca0 : ∀ o, (wr.alloc o).cell? ⟨w.heap.size, 0, none⟩ = some (.slice (some ⟨b, off, none⟩) m cap) := fun o => block_one (block_kept (below_alloc o) hr0)
   have ca2 : ∀ o, (wr.alloc o).cell? ⟨w.heap.size + 1 + 1, 0, none⟩ = some (.slice oa nk.length oc) := fun o => block_one (block_kept (below_alloc o) hr2)
   have cau : ∀ o, (wr.alloc o).cell? ⟨b, off + nk.length, none⟩ = some (.slice ua lab.length uc) := fun o => ((below_alloc o).cell (p := ⟨b, off + nk.length, none⟩) hbl).trans hc
   have HUA := hide (show ∀ o, Has (wr.drew.alloc o) (.slice ua lab.length uc) lab from fun o => (unhide HUd).below (below_alloc o))
   clear kd2 kd1 kd0
   go_wp2_with fail
   go_region_law (first
    | (refine step_append_bytes rfl (.tmp 14) (.tmp 19) 44 5 rfl Tryz.underlying44 info_u8 wr.drew.heap.size _ _ [] lab (by simp [Act.eval]) (by simp [Act.eval]) (own_lit wr.drew wr.drew.heap.size 5 [] (Nat.le_refl _) (by simp)) (unhide HUA _).reads (by simp only [List.length_nil]; omega) (below_alloc _).size ?_; intro u1 w1 ou g1; have b1 := lit_grown (w := wr.drew) g1; obtain ⟨u1a, u1c, rfl, _⟩ := ou.lies; have OU := hide ou; have B1 := hide b1; have co1 := block_one (block_kept b1 (unhide KD2)); have ca1 : ∀ o, (w1.alloc o).cell? ⟨w.heap.size + 1 + 1, 0, none⟩ = some (.slice oa nk.length oc) := (fun o => block_one (block_kept (below_alloc o) (block_kept b1 (unhide KD2)))); clear ou b1 g1)
    | (refine step_append_row rfl (.tmp 13) (.tmp 21) 22 44 rfl Tryz.underlying22 info_sl2 (w.heap.size + 3) (.slice oa nk.length oc) _ vs [.slice u1a lab.length u1c] (by simp [Act.eval]) (by simp [Act.eval]) (by rw [hvl]; exact World.ownsRow.alloc (ownsRow_kept' (unhide HVS) (unhide B1)) _) (one_more w1 44 _) (by intro y hy; simp at hy; subst hy; rfl) (by rw [hvl]; simp; omega) (by have := (unhide B1).size; simp; omega) ?_; intro v2 w2 o2 g2; obtain ⟨p2, k2, y2⟩ := snoc_step g2 o2 rfl (unhide HVS) (unhide HVA) (unhide HVD) ((unhide B1).alloc (unhide B1).size _) ((unhide OU).alloc _) zb (by decide) (block_kept (below_alloc _) (block_kept (unhide B1) (unhide KD2))) (by decide); obtain ⟨v2a, v2c, rfl, _⟩ := p2.hasL.form; have co2 := block_one k2; have fo2 := block_frozen k2 0))
   all_goals
    go_wp2_with fail
    have k1 := (y2.block (w.heap.size + 1) (by omega)).trans (unhide KD1)
    have k0 := (y2.block w.heap.size (by omega)).trans (unhide KD0)
    refine ⟨⟨nk.length + 1, _, by omega, by go_num, block_other k0 (by omega) 0 _, block_other k1 (by omega) 0 _, block_set k2 _, ?_, (bd.trans (y2.mono (by omega))).setCell (by show w.heap.size ≤ w.heap.size + 1 + 1; omega) _⟩, by simp [intOf]; omega⟩
    rw [unhide htk]
    simp only [List.length_append, List.length_cons, List.length_nil] at p2
    exact p2.kept (grown_setCell _ _ _) (by show w.heap.size + 1 + 1 < _; omega)
  ·obtain rfl : k = m := by omega
   obtain ⟨oa, oc, rfl, _⟩ := ho.hasL.form
   have htk : n.take k = n := List.take_of_length_le (by rw [unhide HN]; omega)
   rw [htk] at ho
   have HLK := hide (show (n.take k).length = n.length by rw [htk])
   rw [unhide HLK] at hr2
   have HO := hide ho
   have c2 := block_one hr2
   have c1 := block_one hr1
   have f1 := block_frozen hr1 0
   have M1 := hide (block_set hr1 (.slice oa n.length oc))
   clear ho htk hr1 hr2 HLK
   go_wp2
   refine bodyPost_ret (results_cell_row rfl _ _ (w.heap.size + 1) 32 #[.slice oa n.length oc] (0, 0) _ rfl (unhide M1) Tryz.underlying32 rfl (by kernel_rfl)) rfl ?_
   exact ⟨_, rfl, ((unhide HO).kept (grown_setCell _ _ _) (by show w.heap.size + 1 < _; omega)).mono (by omega), hb.setCell (by show w.heap.size ≤ w.heap.size + 1; omega) _⟩
end Go.Proofs.YtmlcmkoefelolaaGreat

namespace Go.Proofs.YtmlcmkoefelolaaGreat
open Go.RowKit
set_option linter.unusedVariables false

theorem there7 {w : World} {b : Nat} {c0 c1 c2 c3 c4 c5 c6 : Value} {t : TypeId} (h : w.heap[b]? = some (.cells #[c0, c1, c2, c3, c4, c5, c6] t)) : w.there b 0 7 := by
 intro j hj
 obtain ⟨f0, f1, f2, f3, f4, f5, f6⟩ := cells7 h
 rw [Nat.zero_add]
 refine ⟨?_, block_frozen h j⟩
 match j, hj with
 | 0, _ => rw [f0]; rfl
 | 1, _ => rw [f1]; rfl
 | 2, _ => rw [f2]; rfl
 | 3, _ => rw [f3]; rfl
 | 4, _ => rw [f4]; rfl
 | 5, _ => rw [f5]; rfl
 | 6, _ => rw [f6]; rfl
theorem wp_store7 {P : Program} {op : Oper} {a : Act} {w : World} {K : Act → World → Prop} {Q : Exit → Act → World → Prop} (ty : TypeId) (x y : Operand) (ho : op.op = .store ty x y)
  (b : Nat) (c0 c1 c2 c3 c4 c5 c6 : Value) {a0 a1 a2 a3 a4 a5 a6 : Value} {t : TypeId} (hx : a.eval x = .pointer (some ⟨b, 0, none⟩)) (hy : a.eval y = .agg #[c0, c1, c2, c3, c4, c5, c6])
  (hk : w.heap[b]? = some (.cells #[a0, a1, a2, a3, a4, a5, a6] t)) (hi : (P.info? ty).map (·.size) = some 7) (h1 : #[c0, c1, c2, c3, c4, c5, c6].all (·.oneCell') = true)
  (h : K (a.put op.dst undef) (((((((w.setCell ⟨b, 0, none⟩ c0).setCell ⟨b, 1, none⟩ c1).setCell ⟨b, 2, none⟩ c2).setCell ⟨b, 3, none⟩ c3).setCell ⟨b, 4, none⟩ c4).setCell ⟨b, 5, none⟩ c5).setCell ⟨b, 6, none⟩ c6)) : op.wp P a w K Q :=
 wp_store_mid ty x y ho b 0 #[c0, c1, c2, c3, c4, c5, c6] hx hy (there7 hk) hi h1 h
end Go.Proofs.YtmlcmkoefelolaaGreat
