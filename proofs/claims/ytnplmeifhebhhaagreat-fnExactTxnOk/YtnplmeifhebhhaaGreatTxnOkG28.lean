/-
  Contract of the program's MsgBytes where a message may be. Contracts of the program's MsgBytes and MsgOk.
-/
import Derived.Test.YtnplmeifhebhhaaGreatTxnOkG27
import Derived.Deep.RegionHeld3
namespace Go.Proofs.YtnplmeifhebhhaaGreat
open Go.RowKit
set_option linter.unusedVariables false

theorem bytesM_len {m : Mg} (h : mayM m = true) : (bytesM m).length ≤ 12833 := by
 obtain ⟨_, _, _, _, _, _, _, _, _, _, _, _, _, _, _, _, hbl⟩ := bytesM_parts h
 exact hbl
/-- What MsgBytes answers. -/
def msgPut (m : Mg) : List Int × Bool := if okM m = true then (bytesM m, true) else ([], false)
theorem secB_all (m : Mg) (b : List Int) : secB b [m.pres, m.ups, m.ans.map inCl, m.aus.map inCl, m.more.map inCl] 5 = wntsB (wntsB (wntsB (wntsB (wntsB b m.pres m.pres.length) m.ups m.ups.length) (m.ans.map inCl) m.ans.length) (m.aus.map inCl) m.aus.length) (m.more.map inCl) m.more.length := by
 simp only [secB, List.getD_cons_zero, List.getD_cons_succ, List.length_map]
theorem bytesM_sec (m : Mg) : bytesM m = secB (queB (headM m) (que1 m)) [m.pres, m.ups, m.ans.map inCl, m.aus.map inCl, m.more.map inCl] 5 := by
 rw [secB_all]
 rfl

set_option maxHeartbeats 4000000 in
set_option maxRecDepth 100000 in
theorem implMsgBytes_may {vq va vb vm vp vu : Value} {m : Mg} {w : World} (h : HasM w vq va vb vm vp vu m) (hmay : mayM m = true) :
  Calls Tryz.prog 14 #[.agg #[.int .i64 m.id, .bool m.reply, .int .i64 m.op, .bool m.auth, .int .i64 m.code, vq, va, vb, vm, vp, vu]] w fun e w' => ∃ v', e = .returned (.tuple #[v', .bool (decide ((bytesM m).length ≤ 512))]) ∧ Own w.heap.size 5 w' v' (if (bytesM m).length ≤ 512 then bytesM m else []) ∧ Below w.heap.size w w' := by
 have hpo := partsOk_has (h.below (below_alloc (w := w) (.cells #[.int .i64 m.id, .bool m.reply, .int .i64 m.op, .bool m.auth, .int .i64 m.code, vq, va, vb, vm, vp, vu] 33)))
 rw [hmay] at hpo
 have HPO := hide hpo
 obtain ⟨_, ⟨hc0, hc1⟩, hq1, hqn, _, hop, ⟨n1, n2, n3, n4, n5⟩, k1, k2, k3, k4, k5⟩ := mayM_parts hmay
 obtain ⟨xq, yq, rfl, _, zq⟩ := h.qs.form
 obtain ⟨xa, ya, rfl, _, za⟩ := h.ans.form
 obtain ⟨xb, yb, rfl, _, zb⟩ := h.aus.form
 obtain ⟨xm, ym, rfl, _, zm⟩ := h.more.form
 obtain ⟨xp, yp, rfl, _, zp⟩ := h.pres.form
 obtain ⟨xu, yu, rfl, _, zu⟩ := h.ups.form
 have b0 := below_alloc (w := w) (.cells #[.int .i64 m.id, .bool m.reply, .int .i64 m.op, .bool m.auth, .int .i64 m.code, .slice xq m.qs.length yq, .slice xa m.ans.length ya, .slice xb m.aus.length yb, .slice xm m.more.length ym, .slice xp m.pres.length yp, .slice xu m.ups.length yu] 33)
 have KK := hide (heap_alloc_new w (.cells #[.int .i64 m.id, .bool m.reply, .int .i64 m.op, .bool m.auth, .int .i64 m.code, .slice xq m.qs.length yq, .slice xa m.ans.length ya, .slice xb m.aus.length yb, .slice xm m.more.length ym, .slice xp m.pres.length yp, .slice xu m.ups.length yu] 33))
 have H := hide (h.below b0)
 have HHD := hide (fun (w : World) (h : HasM w (.slice xq m.qs.length yq) (.slice xa m.ans.length ya) (.slice xb m.aus.length yb) (.slice xm m.more.length ym) (.slice xp m.pres.length yp) (.slice xu m.ups.length yu) m) => putHead_has h hop hc0 hc1 hq1)
 have hhl := headM_length m
 have hql := queB_length (headM m) hqn
 have HPS := hide (fun (B : Nat) (w : World) (vb : Value) (g : Nat) (hvb : Own B 5 w vb (queB (headM m) (que1 m))) (hB : B ≤ w.heap.size) (hg : g < w.heap.size) (hcell : ∀ i, i < 5 → ∃ v, w.cell? ⟨g, i, none⟩ = some v ∧ HasWs w v ([m.pres, m.ups, m.ans.map inCl, m.aus.map inCl, m.more.map inCl].getD i [])) => putSections_has hvb hB hg rfl hcell (fun i hi => by
   match i, hi with
   | 0, _ => exact n4
   | 1, _ => exact n5
   | 2, _ => simpa using n1
   | 3, _ => simpa using n2
   | 4, _ => simpa using n3) (fun i hi j hj => by
   match i, hi, hj with
   | 0, _, hj => exact k4 j hj
   | 1, _, hj => exact k5 j hj
   | 2, _, hj => exact (by have hj' : j < m.ans.length := (by simpa using hj); show wntOk ((m.ans.map inCl).getD j wntZ) = true; rw [map_getD _ hj']; exact wntOk_in (k1 j hj'))
   | 3, _, hj => exact (by have hj' : j < m.aus.length := (by simpa using hj); show wntOk ((m.aus.map inCl).getD j wntZ) = true; rw [map_getD _ hj']; exact wntOk_in (k2 j hj'))
   | 4, _, hj => exact (by have hj' : j < m.more.length := (by simpa using hj); show wntOk ((m.more.map inCl).getD j wntZ) = true; rw [map_getD _ hj']; exact wntOk_in (k3 j hj'))) (by omega))
 rw [← bytesM_sec] at HPS
 obtain ⟨qb, qoff, vs, rfl, hqbl, hqc, vn, rfl, hqu⟩ := h.qs.here (k := 0) (by omega)
 simp only [Nat.zero_mul, Nat.add_zero] at hqc
 have hque : m.qs.getD 0 queZ = que1 m := rfl
 rw [hque] at hqc hqu
 have HPQ := hide (fun (w : World) (vb : Value) (hvb : Has w vb (headM m)) (h : HasL w vn (que1 m).name) => putQuestion_has hvb (by omega) h hqn)
 generalize headM m = HDM at *
 generalize queB HDM (que1 m) = QB at *
 have hbl := bytesM_len hmay
 have HR := hide (show ((bytesM m).length ≤ 512 → decide ((bytesM m).length ≤ 512) = true ∧ (if (bytesM m).length ≤ 512 then bytesM m else []) = bytesM m) ∧ (¬ (bytesM m).length ≤ 512 → decide ((bytesM m).length ≤ 512) = false ∧ (if (bytesM m).length ≤ 512 then bytesM m else []) = []) from ⟨fun h => ⟨decide_eq_true h, if_pos h⟩, fun h => ⟨decide_eq_false h, if_neg h⟩⟩)
 generalize decide ((bytesM m).length ≤ 512) = FL at *
 generalize (if (bytesM m).length ≤ 512 then bytesM m else []) = RL at *
 generalize bytesM m = BM at *
 generalize que1 m = q at *
 obtain ⟨qna, qnc, rfl, _⟩ := hqu.form
 have hqpos : 0 < m.qs.length := by omega
 have HI1 := hide (fun (w : World) (h : HasM w (.slice (some ⟨qb, qoff, none⟩) m.qs.length yq) (.slice xa m.ans.length ya) (.slice xb m.aus.length yb) (.slice xm m.more.length ym) (.slice xp m.pres.length yp) (.slice xu m.ups.length yu) m) => inClass_has h.ans n1)
 have HI2 := hide (fun (w : World) (h : HasM w (.slice (some ⟨qb, qoff, none⟩) m.qs.length yq) (.slice xa m.ans.length ya) (.slice xb m.aus.length yb) (.slice xm m.more.length ym) (.slice xp m.pres.length yp) (.slice xu m.ups.length yu) m) => inClass_has h.aus n2)
 have HI3 := hide (fun (w : World) (h : HasM w (.slice (some ⟨qb, qoff, none⟩) m.qs.length yq) (.slice xa m.ans.length ya) (.slice xb m.aus.length yb) (.slice xm m.more.length ym) (.slice xp m.pres.length yp) (.slice xu m.ups.length yu) m) => inClass_has h.more n3)
 have HQC := hide (range_below hqc hqbl b0)
 have HQU := hide (hqu.below b0)
 have zz := b0.size
 unfold maxLen at *
 clear h hpo hqc hqu hop hc0 hc1 hq1 n1 n2 n3 n4 n5 k1 k2 k3 k4 k5 hmay hque hqn hhl hql
 obtain ⟨d0, d1, d2, d3, d4, d5, d6, d7, d8, d9, d10⟩ := cells11 (unhide KK)
 go_enter Tryz.func14, Tryz.ntmps14
 go_wp2_with fail
 clear d0 d1 d2 d3 d4 d5 d6 d7 d8 d9 d10
 have hqblW : qb < (w.alloc (.cells #[.int .i64 m.id, .bool m.reply, .int .i64 m.op, .bool m.auth, .int .i64 m.code, .slice (some ⟨qb, qoff, none⟩) m.qs.length yq, .slice xa m.ans.length ya, .slice xb m.aus.length yb, .slice xm m.more.length ym, .slice xp m.pres.length yp, .slice xu m.ups.length yu] 33)).heap.size := Nat.lt_of_lt_of_le hqbl zz
 generalize w.alloc (.cells #[.int .i64 m.id, .bool m.reply, .int .i64 m.op, .bool m.auth, .int .i64 m.code, .slice (some ⟨qb, qoff, none⟩) m.qs.length yq, .slice xa m.ans.length ya, .slice xb m.aus.length yb, .slice xm m.more.length ym, .slice xp m.pres.length yp, .slice xu m.ups.length yu] 33) = W at *
 refine (unhide HPO).mono ?_
 rintro e w1 ⟨rfl, b1⟩
 have bd := below_next b1 (below_drew (w := w1))
 replace b0 := below_next b0 bd
 replace H := hide ((unhide H).below bd)
 replace KK := hide (block_kept bd (unhide KK))
 replace HQC := hide (range_below (unhide HQC) hqblW bd)
 replace HQU := hide ((unhide HQU).below bd)
 have z1 := bd.size
 have hqbl1 : qb < w1.drew.heap.size := Nat.lt_of_lt_of_le hqblW z1
 clear bd b1 HPO
 go_wp2_with fail
 go_region_held3 (fun w' => (w'.cell? ⟨w.heap.size, 0, none⟩ = some (.int .i64 m.id) ∧ w'.cell? ⟨w.heap.size, 1, none⟩ = some (.bool m.reply) ∧ w'.cell? ⟨w.heap.size, 2, none⟩ = some (.int .i64 m.op) ∧ w'.cell? ⟨w.heap.size, 3, none⟩ = some (.bool m.auth) ∧ w'.cell? ⟨w.heap.size, 4, none⟩ = some (.int .i64 m.code) ∧ w'.cell? ⟨w.heap.size, 5, none⟩ = some (.slice (some ⟨qb, qoff, none⟩) m.qs.length yq) ∧ w'.cell? ⟨w.heap.size, 6, none⟩ = some (.slice xa m.ans.length ya) ∧ w'.cell? ⟨w.heap.size, 7, none⟩ = some (.slice xb m.aus.length yb) ∧ w'.cell? ⟨w.heap.size, 8, none⟩ = some (.slice xm m.more.length ym) ∧ w'.cell? ⟨w.heap.size, 9, none⟩ = some (.slice xp m.pres.length yp) ∧ w'.cell? ⟨w.heap.size, 10, none⟩ = some (.slice xu m.ups.length yu)) ∧ (w'.cell? ⟨qb, qoff, none⟩ = some (.slice qna q.name.length qnc) ∧ w'.cell? ⟨qb, qoff + 1, none⟩ = some (.int .i64 q.type)))
  (first | exact ⟨cells11 (unhide KK), range2 (unhide HQC)⟩ | exact ⟨cells11 (block_kept b2 (unhide KK)), range2 (range_below (unhide HQC) hqbl1 b2)⟩ | exact ⟨cells11 (block_kept (below_next b2 b3) (unhide KK)), range2 (range_below (unhide HQC) hqbl1 (below_next b2 b3))⟩)
  (first
  | (go_at_call 43; refine (unhide HHD _ (unhide H)).mono ?_; rintro e w2 ⟨v2, rfl, o2, b2⟩)
  | (go_at_call 42; refine (unhide HPQ _ _ o2.has ((unhide HQU).below b2)).mono ?_; rintro e w3 ⟨v3, rfl, o3, b3⟩))
 have bd := below_next (below_next b2 b3) (below_drew (w := w3))
 replace b0 := below_next b0 bd
 replace H := hide ((unhide H).below bd)
 replace KK := hide (block_kept bd (unhide KK))
 have O3 := hide ((o3.below (below_drew (w := w3))))
 have z2 := b2.size
 have z3 := b3.size
 have zd : w3.drew.heap.size = w3.heap.size := rfl
 have zdd : w2.heap.size ≤ w3.drew.heap.size := by rw [zd]; exact z3
 have zk := block_lt (unhide KK)
 clear bd b2 b3 o2 o3 HHD HPQ HQC HQU zd
 obtain ⟨v3a, v3c, rfl, _⟩ := (unhide O3).lies
 go_wp2_with fail
 refine startF 17 (S := (fun w' => w'.cell? ⟨w.heap.size, 0, none⟩ = some (.int .i64 m.id) ∧ w'.cell? ⟨w.heap.size, 1, none⟩ = some (.bool m.reply) ∧ w'.cell? ⟨w.heap.size, 2, none⟩ = some (.int .i64 m.op) ∧ w'.cell? ⟨w.heap.size, 3, none⟩ = some (.bool m.auth) ∧ w'.cell? ⟨w.heap.size, 4, none⟩ = some (.int .i64 m.code) ∧ w'.cell? ⟨w.heap.size, 5, none⟩ = some (.slice (some ⟨qb, qoff, none⟩) m.qs.length yq) ∧ w'.cell? ⟨w.heap.size, 6, none⟩ = some (.slice xa m.ans.length ya) ∧ w'.cell? ⟨w.heap.size, 7, none⟩ = some (.slice xb m.aus.length yb) ∧ w'.cell? ⟨w.heap.size, 8, none⟩ = some (.slice xm m.more.length ym) ∧ w'.cell? ⟨w.heap.size, 9, none⟩ = some (.slice xp m.pres.length yp) ∧ w'.cell? ⟨w.heap.size, 10, none⟩ = some (.slice xu m.ups.length yu))) (by kernel_rfl) rfl (cells11 (unhide KK)) (fun hHeld => ?_)
 simp only [List.replicate]
 repeat ((first | (refine tkF ?_ rfl (by kernel_rfl) (by rfl) (fun _ _ _ h => h) ?_ hHeld ?_; rotate_left; · (intro w hSw; (try dsimp only at hSw); go_simp <;> with_reducible rfl)) | refine skF rfl (by kernel_rfl) (by rfl) (fun _ _ _ h => h) hHeld ?_); simp only [Act.put, setF, List.setIfInBounds_toArray, List.set_cons_zero, List.set_cons_succ])
 refine tkI 8 ?_ rfl (by kernel_rfl) (by kernel_rfl) (fun _ _ _ h => h) ?_ hHeld ?_; rotate_left; (· (intro w hSw; (try dsimp only at hSw); go_simp <;> with_reducible rfl)); simp only [Act.put, List.setIfInBounds_toArray, List.set_cons_zero, List.set_cons_succ]
 refine tkI 9 ?_ rfl (by kernel_rfl) (by kernel_rfl) (fun _ _ _ h => h) ?_ hHeld ?_; rotate_left; (· (intro w hSw; (try dsimp only at hSw); go_simp <;> with_reducible rfl)); simp only [Act.put, List.setIfInBounds_toArray, List.set_cons_zero, List.set_cons_succ]
 refine tkI 11 ?_ rfl (by kernel_rfl) (by kernel_rfl) (fun _ _ _ h => h) ?_ hHeld ?_; rotate_left; (· (intro w hSw; (try dsimp only at hSw); go_simp <;> with_reducible rfl)); simp only [Act.put, List.setIfInBounds_toArray, List.set_cons_zero, List.set_cons_succ]
 refine tkI 12 ?_ rfl (by kernel_rfl) (by kernel_rfl) (fun _ _ _ h => h) ?_ hHeld ?_; rotate_left; (· (intro w hSw; (try dsimp only at hSw); go_simp <;> with_reducible rfl)); simp only [Act.put, List.setIfInBounds_toArray, List.set_cons_zero, List.set_cons_succ]
 refine runI 7 rfl (by kernel_rfl) (by kernel_rfl) (fun K hK => ?_)
 have HK := hide hK
 clear hK hHeld
 go_simp
 refine (unhide HI1 _ (unhide H)).mono ?_
 rintro e w4 ⟨v4, rfl, h4, b4⟩
 obtain ⟨v4a, v4c, rfl, _⟩ := h4.form
 simp only [List.length_map]
 refine (unhide HK).out _ _ (cells11 (block_kept b4 (unhide KK))) (fun hHeld => ?_)
 clear HK K
 simp only [List.setIfInBounds_toArray, List.set_cons_zero, List.set_cons_succ]
 refine runI 10 rfl (by kernel_rfl) (by kernel_rfl) (fun K hK => ?_)
 have HK := hide hK
 clear hK hHeld
 go_simp
 refine (unhide HI2 _ ((unhide H).below b4)).mono ?_
 rintro e w5 ⟨v5, rfl, h5, b5⟩
 obtain ⟨v5a, v5c, rfl, _⟩ := h5.form
 simp only [List.length_map]
 have b45 := below_next b4 b5
 refine (unhide HK).out _ _ (cells11 (block_kept b45 (unhide KK))) (fun hHeld => ?_)
 clear HK K
 simp only [List.setIfInBounds_toArray, List.set_cons_zero, List.set_cons_succ]
 refine runI 13 rfl (by kernel_rfl) (by kernel_rfl) (fun K hK => ?_)
 have HK := hide hK
 clear hK hHeld
 go_simp
 refine (unhide HI3 _ ((unhide H).below b45)).mono ?_
 rintro e w6 ⟨v6, rfl, h6, b6⟩
 obtain ⟨v6a, v6c, rfl, _⟩ := h6.form
 simp only [List.length_map]
 have b46 := below_next b45 b6
 refine (unhide HK).out _ _ (cells11 (block_kept b46 (unhide KK))) (fun hHeld => ?_)
 clear HK K
 simp only [List.setIfInBounds_toArray, List.set_cons_zero, List.set_cons_succ]
 have bA := below_alloc (w := w6) (.cells #[.slice xp m.pres.length yp, .slice xu m.ups.length yu, .slice v4a m.ans.length v4c, .slice v5a m.aus.length v5c, .slice v6a m.more.length v6c] 31)
 have gA := heap_alloc_new w6 (.cells #[.slice xp m.pres.length yp, .slice xu m.ups.length yu, .slice v4a m.ans.length v4c, .slice v5a m.aus.length v5c, .slice v6a m.more.length v6c] 31)
 have b47 := below_next b46 bA
 have H7 := hide ((unhide H).below b47)
 have OA := hide ((unhide O3).below b47)
 have HA4 := hide (keptWs h4 (below_next b5 (below_next b6 bA)))
 have HA5 := hide (keptWs h5 (below_next b6 bA))
 have HA6 := hide (keptWs h6 bA)
 have zA := b47.size
 have GA := hide gA
 clear h4 h5 h6 gA
 refine runI 14 rfl (by kernel_rfl) (by kernel_rfl) (fun K hK => ?_)
 have HK := hide hK
 clear hK hHeld
 go_simp
 refine (unhide HK).out _ _ (cells11 (block_kept b47 (unhide KK))) (fun hHeld => ?_)
 clear HK K
 simp only [List.setIfInBounds_toArray, List.set_cons_zero, List.set_cons_succ]
 generalize hW7 : w6.alloc (.cells #[.slice xp m.pres.length yp, .slice xu m.ups.length yu, .slice v4a m.ans.length v4c, .slice v5a m.aus.length v5c, .slice v6a m.more.length v6c] 31) = W7 at *
 clear hW7
 have zg := block_lt (unhide GA)
 refine runI 15 rfl (by kernel_rfl) (by kernel_rfl) (fun K hK => ?_)
 have HK := hide hK
 clear hK hHeld
 go_simp
 refine (unhide HPS w2.heap.size _ _ _ (unhide OA) (by omega) zg (fun i hi => ?_)).mono ?_
 ·match i, hi with
  | 0, _ => exact ⟨_, block_cell (unhide GA) 0, (unhide H7).pres⟩
  | 1, _ => exact ⟨_, block_cell (unhide GA) 1, (unhide H7).ups⟩
  | 2, _ => exact ⟨_, block_cell (unhide GA) 2, by have := unhide HA4; simpa using this⟩
  | 3, _ => exact ⟨_, block_cell (unhide GA) 3, by have := unhide HA5; simpa using this⟩
  | 4, _ => exact ⟨_, block_cell (unhide GA) 4, by have := unhide HA6; simpa using this⟩
 rintro e w8 ⟨v8, rfl, o8, b8⟩
 obtain ⟨v8a, v8c, rfl, _⟩ := o8.lies
 have b48 := below_next b47 b8
 refine (unhide HK).out _ _ (cells11 (block_kept b48 (unhide KK))) (fun hHeld => ?_)
 clear HK K
 simp only [List.setIfInBounds_toArray, List.set_cons_zero, List.set_cons_succ]
 repeat ((first | (refine tkF ?_ rfl (by kernel_rfl) (by rfl) (fun _ _ _ h => h) ?_ hHeld ?_; rotate_left; · (intro w hSw; (try dsimp only at hSw); go_simp <;> with_reducible rfl)) | refine skF rfl (by kernel_rfl) (by rfl) (fun _ _ _ h => h) hHeld ?_); simp only [Act.put, setF, List.setIfInBounds_toArray, List.set_cons_zero, List.set_cons_succ])
 refine wpAnyH_done (by kernel_rfl) ?_ _
 clear hHeld
 replace b0 := below_next b0 b48
 have O8 := hide o8
 clear o8 b8 b48 b47 b46 b45 b4 b5 b6 HI1 HI2 HI3 HPS O3 OA HA4 HA5 HA6 GA bA H H7 KK
 by_cases h512 : BM.length ≤ 512
 ·obtain ⟨rfl, rfl⟩ := (unhide HR).1 h512
  clear HR
  go_wp2_with fail
  go_ret2
  exact ⟨_, rfl, (unhide O8).mono (by omega), b0⟩
 ·obtain ⟨rfl, rfl⟩ := (unhide HR).2 h512
  clear HR
  go_wp2_with fail
  go_ret2
  exact ⟨_, rfl, World.ownsRow_nil _ _ _ _, b0⟩
end Go.Proofs.YtnplmeifhebhhaaGreat

namespace Go.Proofs.YtnplmeifhebhhaaGreat
open Go.RowKit
set_option linter.unusedVariables false

set_option maxHeartbeats 1000000 in
set_option maxRecDepth 100000 in
theorem implMsgBytes_not {vq va vb vm vp vu : Value} {m : Mg} {w : World} (h : HasM w vq va vb vm vp vu m) (hmay : mayM m = false) :
  Calls Tryz.prog 14 #[.agg #[.int .i64 m.id, .bool m.reply, .int .i64 m.op, .bool m.auth, .int .i64 m.code, vq, va, vb, vm, vp, vu]] w fun e w' => ∃ v', e = .returned (.tuple #[v', .bool false]) ∧ Own w.heap.size 5 w' v' [] ∧ Below w.heap.size w w' := by
 have hpo := partsOk_has (h.below (below_alloc (w := w) (.cells #[.int .i64 m.id, .bool m.reply, .int .i64 m.op, .bool m.auth, .int .i64 m.code, vq, va, vb, vm, vp, vu] 33)))
 rw [hmay] at hpo
 have HPO := hide hpo
 obtain ⟨xq, yq, rfl, _, zq⟩ := h.qs.form
 obtain ⟨xa, ya, rfl, _, za⟩ := h.ans.form
 obtain ⟨xb, yb, rfl, _, zb⟩ := h.aus.form
 obtain ⟨xm, ym, rfl, _, zm⟩ := h.more.form
 obtain ⟨xp, yp, rfl, _, zp⟩ := h.pres.form
 obtain ⟨xu, yu, rfl, _, zu⟩ := h.ups.form
 have b0 := below_alloc (w := w) (.cells #[.int .i64 m.id, .bool m.reply, .int .i64 m.op, .bool m.auth, .int .i64 m.code, .slice xq m.qs.length yq, .slice xa m.ans.length ya, .slice xb m.aus.length yb, .slice xm m.more.length ym, .slice xp m.pres.length yp, .slice xu m.ups.length yu] 33)
 have KK := hide (heap_alloc_new w (.cells #[.int .i64 m.id, .bool m.reply, .int .i64 m.op, .bool m.auth, .int .i64 m.code, .slice xq m.qs.length yq, .slice xa m.ans.length ya, .slice xb m.aus.length yb, .slice xm m.more.length ym, .slice xp m.pres.length yp, .slice xu m.ups.length yu] 33))
 clear h hpo hmay
 obtain ⟨d0, d1, d2, d3, d4, d5, d6, d7, d8, d9, d10⟩ := cells11 (unhide KK)
 go_enter Tryz.func14, Tryz.ntmps14
 go_wp2_with fail
 clear d0 d1 d2 d3 d4 d5 d6 d7 d8 d9 d10
 generalize w.alloc (.cells #[.int .i64 m.id, .bool m.reply, .int .i64 m.op, .bool m.auth, .int .i64 m.code, .slice xq m.qs.length yq, .slice xa m.ans.length ya, .slice xb m.aus.length yb, .slice xm m.more.length ym, .slice xp m.pres.length yp, .slice xu m.ups.length yu] 33) = W at *
 refine (unhide HPO).mono ?_
 rintro e w1 ⟨rfl, b1⟩
 replace b0 := below_next b0 b1
 clear b1
 go_wp2_with fail
 go_ret2
 exact ⟨_, rfl, World.ownsRow_nil _ _ _ _, b0⟩

theorem msgPut_may {m : Mg} (h : mayM m = true) : msgPut m = ((if (bytesM m).length ≤ 512 then bytesM m else []), decide ((bytesM m).length ≤ 512)) := by
 unfold msgPut okM
 rw [h, Bool.true_and]
 by_cases h512 : (bytesM m).length ≤ 512
 ·rw [decide_eq_true h512, if_pos rfl, if_pos h512]
 ·rw [decide_eq_false h512, if_neg (by simp), if_neg h512]
theorem msgPut_not {m : Mg} (h : mayM m = false) : msgPut m = ([], false) := by
 unfold msgPut okM
 rw [h, Bool.false_and, if_neg (by simp)]
theorem msgPut_ok (m : Mg) : (msgPut m).2 = okM m := by
 unfold msgPut
 cases h : okM m with
 | true => rw [if_pos rfl]
 | false => rw [if_neg (by simp)]
theorem implMsgBytes_has {vq va vb vm vp vu : Value} {m : Mg} {w : World} (h : HasM w vq va vb vm vp vu m) :
  Calls Tryz.prog 14 #[.agg #[.int .i64 m.id, .bool m.reply, .int .i64 m.op, .bool m.auth, .int .i64 m.code, vq, va, vb, vm, vp, vu]] w fun e w' => ∃ v', e = .returned (.tuple #[v', .bool (msgPut m).2]) ∧ Own w.heap.size 5 w' v' (msgPut m).1 ∧ Below w.heap.size w w' := by
 cases hm : mayM m with
 | true => rw [msgPut_may hm]; exact implMsgBytes_may h hm
 | false => rw [msgPut_not hm]; exact implMsgBytes_not h hm

set_option maxHeartbeats 1000000 in
set_option maxRecDepth 100000 in
theorem implMsgOk_has {vq va vb vm vp vu : Value} {m : Mg} {w : World} (h : HasM w vq va vb vm vp vu m) :
  Calls Tryz.prog 11 #[.agg #[.int .i64 m.id, .bool m.reply, .int .i64 m.op, .bool m.auth, .int .i64 m.code, vq, va, vb, vm, vp, vu]] w fun e w' => e = .returned (.bool (okM m)) ∧ Below w.heap.size w w' := by
 have hpo := implMsgBytes_has (h.below (below_alloc (w := w) (.cells #[.int .i64 m.id, .bool m.reply, .int .i64 m.op, .bool m.auth, .int .i64 m.code, vq, va, vb, vm, vp, vu] 33)))
 rw [msgPut_ok] at hpo
 generalize okM m = R at *
 generalize (msgPut m).1 = B1 at *
 have HPO := hide hpo
 obtain ⟨xq, yq, rfl, _, zq⟩ := h.qs.form
 obtain ⟨xa, ya, rfl, _, za⟩ := h.ans.form
 obtain ⟨xb, yb, rfl, _, zb⟩ := h.aus.form
 obtain ⟨xm, ym, rfl, _, zm⟩ := h.more.form
 obtain ⟨xp, yp, rfl, _, zp⟩ := h.pres.form
 obtain ⟨xu, yu, rfl, _, zu⟩ := h.ups.form
 have b0 := below_alloc (w := w) (.cells #[.int .i64 m.id, .bool m.reply, .int .i64 m.op, .bool m.auth, .int .i64 m.code, .slice xq m.qs.length yq, .slice xa m.ans.length ya, .slice xb m.aus.length yb, .slice xm m.more.length ym, .slice xp m.pres.length yp, .slice xu m.ups.length yu] 33)
 have KK := hide (heap_alloc_new w (.cells #[.int .i64 m.id, .bool m.reply, .int .i64 m.op, .bool m.auth, .int .i64 m.code, .slice xq m.qs.length yq, .slice xa m.ans.length ya, .slice xb m.aus.length yb, .slice xm m.more.length ym, .slice xp m.pres.length yp, .slice xu m.ups.length yu] 33))
 clear h hpo
 obtain ⟨d0, d1, d2, d3, d4, d5, d6, d7, d8, d9, d10⟩ := cells11 (unhide KK)
 go_enter Tryz.func11, Tryz.ntmps11
 go_wp2_with fail
 clear d0 d1 d2 d3 d4 d5 d6 d7 d8 d9 d10
 generalize w.alloc (.cells #[.int .i64 m.id, .bool m.reply, .int .i64 m.op, .bool m.auth, .int .i64 m.code, .slice xq m.qs.length yq, .slice xa m.ans.length ya, .slice xb m.aus.length yb, .slice xm m.more.length ym, .slice xp m.pres.length yp, .slice xu m.ups.length yu] 33) = W at *
 refine (unhide HPO).mono ?_
 rintro e w1 ⟨v1, rfl, o1, b1⟩
 replace b0 := below_next b0 b1
 clear b1 o1
 go_wp2_with fail
 go_ret
 exact ⟨rfl, b0⟩
end Go.Proofs.YtnplmeifhebhhaaGreat
