/-
  Contract of the specification's l4bytes (questions).
-/
import Derived.Test.YtbabmdiklefgcaaGreatDoorFnRepliesG37
import Derived.Deep.Cut
namespace Go.Proofs.YtbabmdiklefgcaaGreatDoor
open Go.RowKit
set_option linter.unusedVariables false

set_option maxHeartbeats 8000000 in
set_option maxRecDepth 100000 in
theorem l4bytes_q {vq va vb vm vp vu : Value} {m : Mg} {w : World} (h : HasM w vq va vb vm vp vu m) (hmay : mayM m = true) (hop : m.op = 0) :
  Calls Tryz.prog 18 #[.agg #[.int .i64 m.id, .bool m.reply, .int .i64 m.op, .bool m.auth, .int .i64 m.code, vq, va, vb, vm, vp, vu]] w fun e w' => ∃ v', e = .returned v' ∧ Own w.heap.size 5 w' v' (bytesM m) ∧ Below w.heap.size w w' := by
 have hFL : flagsM m = 2048 * m.op + m.code + (if m.reply = true then 32768 else 0) + (if m.auth = true then 1024 else 0) := rfl
 rw [hop] at hFL
 obtain ⟨⟨hi0, hi1⟩, ⟨hc0, hc1⟩, hq1, hqn, hqa, _, ⟨n1, n2, n3, n4, n5⟩, k1, k2, k3, k4, k5⟩ := mayM_parts hmay
 rw [bytesM_all]
 obtain ⟨qb, qoff, vs, eqv, hqbl, hqc, vn, evs, hqu⟩ : ∃ b off vs, vq = .slice (some ⟨b, off, none⟩) m.qs.length (match vq with | .slice _ _ c => c | _ => 0) ∧ b < w.heap.size ∧ w.rangeAt b off vs ∧ ∃ v, vs = [v, .int .i64 (que1 m).type] ∧ HasL w v (que1 m).name := by
  obtain ⟨xq, yq, rfl, _⟩ := h.qs.form
  obtain ⟨b, off, vs, rfl, h1, h2, v, rfl, h3⟩ := h.qs.here (k := 0) (by omega)
  simp only [Nat.zero_mul, Nat.add_zero] at h2
  exact ⟨b, off, _, rfl, h1, h2, v, rfl, h3⟩
 subst evs
 generalize (match vq with | .slice _ _ c => c | _ => 0) = yq at eqv
 subst eqv
 obtain ⟨xa, ya, rfl, _, za⟩ := h.ans.form
 obtain ⟨xb, yb, rfl, _, zb⟩ := h.aus.form
 obtain ⟨xm, ym, rfl, _, zm⟩ := h.more.form
 obtain ⟨xp, yp, rfl, _, zp⟩ := h.pres.form
 obtain ⟨xu, yu, rfl, _, zu⟩ := h.ups.form
 generalize m.reply = RE at *
 generalize m.auth = AU at *
 have b0 := UI (w := w) (.cells #[.int .i64 m.id, .bool RE, .int .i64 m.op, .bool AU, .int .i64 m.code, .slice (some ⟨qb, qoff, none⟩) m.qs.length yq, .slice xa m.ans.length ya, .slice xb m.aus.length yb, .slice xm m.more.length ym, .slice xp m.pres.length yp, .slice xu m.ups.length yu] 27)
 have KK := UC (heap_alloc_new w (.cells #[.int .i64 m.id, .bool RE, .int .i64 m.op, .bool AU, .int .i64 m.code, .slice (some ⟨qb, qoff, none⟩) m.qs.length yq, .slice xa m.ans.length ya, .slice xb m.aus.length yb, .slice xm m.more.length ym, .slice xp m.pres.length yp, .slice xu m.ups.length yu] 27))
 have H := UC (h.below b0)
 obtain ⟨qna, qnc, rfl, _⟩ := hqu.form
 have HQC := UC (UW hqc hqbl b0)
 have HQU := UC (hqu.below b0)
 have zz := b0.size
 have hqblW : qb < (w.alloc (.cells #[.int .i64 m.id, .bool RE, .int .i64 m.op, .bool AU, .int .i64 m.code, .slice (some ⟨qb, qoff, none⟩) m.qs.length yq, .slice xa m.ans.length ya, .slice xb m.aus.length yb, .slice xm m.more.length ym, .slice xp m.pres.length yp, .slice xu m.ups.length yu] 27)).heap.size := Nat.lt_of_lt_of_le hqbl zz
 have hhl := headM_length m
 have hql := queB_length (headM m) hqn
 have g1 : IntKind.i64.wrap (m.op * 2048) = 0 := by rw [hop]; rfl
 have g2 : IntKind.i64.wrap (m.code) = m.code := wrap_intS _ (by omega) (by omega)
 have g3 : IntKind.i64.wrap (m.code + 32768) = m.code + 32768 := wrap_intS _ (by omega) (by omega)
 have o5 : (m.op == 5) = false := by rw [hop]; rfl
 have hHD : headM m = put16 (put16 (put16 (put16 (put16 (put16 [] m.id) (flagsM m)) 1) (m.ans.length : Nat)) (m.aus.length : Nat)) m.more.length := by
  unfold headM firstM secondM
  rw [hop]
  rw [if_neg (by decide), if_neg (by decide)]
 rw [hHD] at hhl hql
 have e1 := put16_length [] m.id
 have e2 := put16_length (put16 [] m.id) (flagsM m)
 have e3 := put16_length (put16 (put16 [] m.id) (flagsM m)) 1
 have e4 := put16_length (put16 (put16 (put16 [] m.id) (flagsM m)) 1) (m.ans.length : Nat)
 have e5 := put16_length (put16 (put16 (put16 (put16 [] m.id) (flagsM m)) 1) (m.ans.length : Nat)) (m.aus.length : Nat)
 simp only [List.length_nil] at e1
 rw [hHD]
 have HFL := UC hFL
 generalize flagsM m = FL at *
 have P1 := UC (fun (w : World) (C : Nat) (v : Value) (hv : Own C 5 w v []) => specPut16w_any m.id hv (by simp))
 have P2 := UC (fun (w : World) (C : Nat) (v : Value) (hv : Own C 5 w v (put16 [] m.id)) => specPut16w_any FL hv (by omega))
 have P3 := UC (fun (w : World) (C : Nat) (v : Value) (hv : Own C 5 w v (put16 (put16 [] m.id) FL)) => specPut16w_any 1 hv (by omega))
 have P4 := UC (fun (w : World) (C : Nat) (v : Value) (hv : Own C 5 w v (put16 (put16 (put16 [] m.id) FL) 1)) => specPut16w_any (m.ans.length : Nat) hv (by omega))
 have P5 := UC (fun (w : World) (C : Nat) (v : Value) (hv : Own C 5 w v (put16 (put16 (put16 (put16 [] m.id) FL) 1) (m.ans.length : Nat))) => specPut16w_any (m.aus.length : Nat) hv (by omega))
 have P6 := UC (fun (w : World) (C : Nat) (v : Value) (hv : Own C 5 w v (put16 (put16 (put16 (put16 (put16 [] m.id) FL) 1) (m.ans.length : Nat)) (m.aus.length : Nat))) => specPut16w_any m.more.length hv (by omega))
 generalize put16 (put16 (put16 (put16 (put16 (put16 [] m.id) FL) 1) (m.ans.length : Nat)) (m.aus.length : Nat)) m.more.length = L6 at *
 generalize put16 (put16 (put16 (put16 (put16 [] m.id) FL) 1) (m.ans.length : Nat)) (m.aus.length : Nat) = L5 at *
 generalize put16 (put16 (put16 (put16 [] m.id) FL) 1) (m.ans.length : Nat) = L4 at *
 generalize put16 (put16 (put16 [] m.id) FL) 1 = L3 at *
 generalize put16 (put16 [] m.id) FL = L2 at *
 generalize put16 [] m.id = L1 at *
 clear hHD e1 e2 e3 e4 e5 hFL
 -- the question
 generalize hq : que1 m = q at *
 clear hq
 have w1l := wire_length q.name hqn
 have w2l := put16_length (L6 ++ wire q.name) q.type
 have hl0 : (L6 ++ wire q.name).length ≤ 2000000 := by rw [List.length_append]; omega
 have hl1 : (put16 (L6 ++ wire q.name) q.type).length ≤ 2000000 := by rw [List.length_append] at hl0 w2l; omega
 have HL := UC (fun (B : Nat) (w : World) (vb : Value) (hv : Own B 5 w vb L6) (hB : B ≤ w.heap.size) (hA : HasLAt B w (.slice qna q.name.length qnc) q.name) => l2put_moved hv hB (by omega) hA (nameOk_parts hqn).1 (fun k hk => (labelOk_length ((nameOk_parts hqn).2 k hk)).2) (wires_length q.name hqn))
 have hQB : queB L6 q = put16 (put16 (L6 ++ wire q.name) q.type) 1 := rfl
 rw [hQB] at hql
 rw [hQB]
 have P7 := UC (fun (w : World) (C : Nat) (v : Value) (hv : Own C 5 w v (L6 ++ wire q.name)) => specPut16w_any q.type hv hl0)
 have P8 := UC (fun (w : World) (C : Nat) (v : Value) (hv : Own C 5 w v (put16 (L6 ++ wire q.name) q.type)) => specPut16w_any 1 hv hl1)
 generalize put16 (put16 (L6 ++ wire q.name) q.type) 1 = QB at *
 generalize put16 (L6 ++ wire q.name) q.type = L8 at *
 generalize L6 ++ wire q.name = L7 at *
 clear hQB w1l w2l hl0 hl1 hqn
 -- the lists
 have hlP := wntsB_length QB k4
 have WP := UC (wntsB_succ QB m.pres)
 have WP0 := UC (wntsB_zero QB m.pres)
 generalize wntsB QB m.pres = BP at *
 have hlU := wntsB_length (BP m.pres.length) k5
 have WU := UC (wntsB_succ (BP m.pres.length) m.ups)
 have WU0 := UC (wntsB_zero (BP m.pres.length) m.ups)
 generalize wntsB (BP m.pres.length) m.ups = BU at *
 have hall : ∀ j, j < (allM m).length → rrOk ((allM m).getD j recZ) = true := by
  intro j hj
  have hA : (allM m).all rrOk = true := by
   unfold allM
   rw [List.all_append, List.all_append, all_of m.ans recZ k1, all_of m.aus recZ k2, all_of m.more recZ k3]
   rfl
  exact all_at recZ hA hj
 have hallL : (allM m).length = m.ans.length + m.aus.length + m.more.length := by unfold allM; rw [List.length_append, List.length_append]
 have hlR := wntsB_length (BU m.ups.length) (l := (allM m).map inCl) (fun j hj => by rw [List.length_map] at hj; rw [map_getD _ hj]; exact wntOk_in (hall j hj))
 have WR := UC (fun k (hk : k < (allM m).length) => (show wntsB (BU m.ups.length) ((allM m).map inCl) (k + 1) = classB (wntsB (BU m.ups.length) ((allM m).map inCl) k) ((allM m).getD k recZ) 1 (dataB ((allM m).getD k recZ)) by
  rw [wntsB_succ _ _ k (by rw [List.length_map]; exact hk), map_getD _ hk]
  rfl))
 have WR0 := UC (wntsB_zero (BU m.ups.length) ((allM m).map inCl))
 generalize wntsB (BU m.ups.length) ((allM m).map inCl) = BR at *
 have HLP := UC (fun k (hk : k ≤ m.pres.length) => (show (BP k).length ≤ 100000 by have := hlP k hk; omega))
 have HLU := UC (fun k (hk : k ≤ m.ups.length) => (show (BU k).length ≤ 100000 by have := hlU k hk; have := hlP m.pres.length (Nat.le_refl _); omega))
 have HLR := UC (fun k (hk : k ≤ (allM m).length) => (show (BR k).length ≤ 100000 by have := hlR k (by rw [List.length_map]; exact hk); have := hlU m.ups.length (Nat.le_refl _); have := hlP m.pres.length (Nat.le_refl _); omega))
 have K4 := UC k4
 have K5 := UC k5
 have HALL := UC hall
 have HAL := UC hallL
 have HAM := UC (show allM m = m.ans ++ m.aus ++ m.more from rfl)
 have hn12 : (allM m).length ≤ 36 := by omega
 generalize allM m = AM at *
 have hqpos : 0 < m.qs.length := by omega
 unfold maxLen at *
 clear h hqc hqu hmay hop hq1 hqa k1 k2 k3 k4 k5 hlP hlU hlR hall hallL hhl hql
 obtain ⟨f1, hf1⟩ : ∃ f1 : Int, f1 = m.code + (if RE = true then 32768 else 0) := ⟨_, rfl⟩
 have hf1b : 0 ≤ f1 ∧ f1 ≤ 60000 := by rw [hf1]; cases RE <;> simp <;> omega
 have g4 : IntKind.i64.wrap (f1 + 1024) = f1 + 1024 := wrap_intS _ (by omega) (by omega)
 have HF1 := UC hf1
 have HF2 : Hid (FL = f1 + (if AU = true then 1024 else 0)) := by
  have := UB HFL
  rw [this, hf1]
  generalize (if RE = true then (32768 : Int) else 0) = X
  generalize (if AU = true then (1024 : Int) else 0) = Y
  exact UC (by omega)
 clear hf1 HFL hi0 hi1 hc0 hc1
 obtain ⟨d0, d1, d2, d3, d4, d5, d6, d7, d8, d9, d10⟩ := cells11 (UB KK)
 go_enter Tryz.func18, Tryz.ntmps18
 go_upto_if 18 with fail
 generalize hW0 : w.alloc (.cells #[.int .i64 m.id, .bool RE, .int .i64 m.op, .bool AU, .int .i64 m.code, .slice (some ⟨qb, qoff, none⟩) m.qs.length yq, .slice xa m.ans.length ya, .slice xb m.aus.length yb, .slice xm m.more.length ym, .slice xp m.pres.length yp, .slice xu m.ups.length yu] 27) = W0 at *
 clear hW0
 go_cut [3] from 11 (fun c wx => c = .int .i64 f1 ∧ W0 = wx)
 case first =>
  go_wp2_with fail
  all_goals go_meet
  all_goals
   case rel =>
    refine ⟨?_, rfl⟩
    rename_i hre
    rw [UB HF1, hre]
    simp
 case rest =>
  obtain ⟨rfl, rfl⟩ := hcut
  go_upto_if 22 with fail
  go_cut [3] from 11 (fun c wx => c = .int .i64 FL ∧ W0 = wx)
  case first =>
   go_wp2_with fail
   all_goals go_meet
   all_goals
    case rel =>
     refine ⟨?_, rfl⟩
     rename_i hre
     rw [UB HF2, hre]
     simp
  case rest =>
   obtain ⟨rfl, rfl⟩ := hcut
   clear HF1 HF2
   go_wp2_with fail
   go_quiet (fail)
   go_wp2_with fail
   have bq := below_draws (w := W0) nq
   replace KK := UC (UE bq (UB KK))
   replace H := UC ((UB H).below bq)
   replace HQC := UC (UW (UB HQC) hqblW bq)
   replace HQU := UC ((UB HQU).below bq)
   replace b0 := UG b0 bq
   replace hqblW := Nat.lt_of_lt_of_le hqblW bq.size
   clear bq d0 d1 d2 d3 d4 d5 d6 d7 d8 d9 d10 g1 g2 g3 g4 hf1b
   have zk : w.heap.size < ((W0).drewN nq).heap.size := VC (UB KK)
   generalize (W0).drewN nq = W at *
   have bd := UX (w := W)
   have KD := UC (UE bd (UB KK))
   have zd : W.drew.heap.size = W.heap.size := rfl
   refine startF 15 (S := (fun w' => w'.cell? ⟨w.heap.size, 0, none⟩ = some (.int .i64 m.id) ∧ w'.cell? ⟨w.heap.size, 1, none⟩ = some (.bool RE) ∧ w'.cell? ⟨w.heap.size, 2, none⟩ = some (.int .i64 m.op) ∧ w'.cell? ⟨w.heap.size, 3, none⟩ = some (.bool AU) ∧ w'.cell? ⟨w.heap.size, 4, none⟩ = some (.int .i64 m.code) ∧ w'.cell? ⟨w.heap.size, 5, none⟩ = some (.slice (some ⟨qb, qoff, none⟩) m.qs.length yq) ∧ w'.cell? ⟨w.heap.size, 6, none⟩ = some (.slice xa m.ans.length ya) ∧ w'.cell? ⟨w.heap.size, 7, none⟩ = some (.slice xb m.aus.length yb) ∧ w'.cell? ⟨w.heap.size, 8, none⟩ = some (.slice xm m.more.length ym) ∧ w'.cell? ⟨w.heap.size, 9, none⟩ = some (.slice xp m.pres.length yp) ∧ w'.cell? ⟨w.heap.size, 10, none⟩ = some (.slice xu m.ups.length yu))) (by kernel_rfl) rfl (cells11 (UB KD)) (fun hHeld => ?_)
   simp only [List.replicate]
   repeat ((first | (refine tkF ?_ rfl (by kernel_rfl) (by rfl) (fun _ _ _ h => h) ?_ hHeld ?_; rotate_left; · (intro w hSw; (try dsimp only at hSw); go_simp <;> with_reducible rfl)) | refine skF rfl (by kernel_rfl) (by rfl) (fun _ _ _ h => h) hHeld ?_); simp only [Act.put, setF, List.setIfInBounds_toArray, List.set_cons_zero, List.set_cons_succ])
   refine tkI 3 ?_ rfl (by kernel_rfl) (by kernel_rfl) (fun _ _ _ h => h) ?_ hHeld ?_; rotate_left; (· (intro w hSw; (try dsimp only at hSw); go_simp <;> with_reducible rfl)); simp only [Act.put, List.setIfInBounds_toArray, List.set_cons_zero, List.set_cons_succ]
   refine tkI 6 ?_ rfl (by kernel_rfl) (by kernel_rfl) (fun _ _ _ h => h) ?_ hHeld ?_; rotate_left; (· (intro w hSw; (try dsimp only at hSw); go_simp <;> with_reducible rfl)); simp only [Act.put, List.setIfInBounds_toArray, List.set_cons_zero, List.set_cons_succ]
   refine tkI 8 ?_ rfl (by kernel_rfl) (by kernel_rfl) (fun _ _ _ h => h) ?_ hHeld ?_; rotate_left; (· (intro w hSw; (try dsimp only at hSw); go_simp <;> with_reducible rfl)); simp only [Act.put, List.setIfInBounds_toArray, List.set_cons_zero, List.set_cons_succ]
   refine tkI 10 ?_ rfl (by kernel_rfl) (by kernel_rfl) (fun _ _ _ h => h) ?_ hHeld ?_; rotate_left; (· (intro w hSw; (try dsimp only at hSw); go_simp <;> with_reducible rfl)); simp only [Act.put, List.setIfInBounds_toArray, List.set_cons_zero, List.set_cons_succ]
   refine tkI 11 ?_ rfl (by kernel_rfl) (by kernel_rfl) (fun _ _ _ h => h) ?_ hHeld ?_; rotate_left; (· (intro w hSw; (try dsimp only at hSw); go_simp <;> with_reducible rfl)); simp only [Act.put, List.setIfInBounds_toArray, List.set_cons_zero, List.set_cons_succ]
   refine tkI 12 ?_ rfl (by kernel_rfl) (by kernel_rfl) (fun _ _ _ h => h) ?_ hHeld ?_; rotate_left; (· (intro w hSw; (try dsimp only at hSw); go_simp <;> with_reducible rfl)); simp only [Act.put, List.setIfInBounds_toArray, List.set_cons_zero, List.set_cons_succ]
   refine runI 2 rfl (by kernel_rfl) (by kernel_rfl) (fun K hK => ?_)
   have HK := UC hK
   clear hK hHeld
   go_simp
   refine (UB P1 _ 0 _ (World.ownsRow_nil _ _ _ _)).mono ?_
   rintro e w1 ⟨v1, rfl, o1, c1⟩
   have t1 := UG bd c1
   refine (UB HK).out _ _ (cells11 (UE t1 (UB KK))) (fun hHeld => ?_)
   clear HK K
   simp only [List.setIfInBounds_toArray, List.set_cons_zero, List.set_cons_succ]
   refine runI 4 rfl (by kernel_rfl) (by kernel_rfl) (fun K hK => ?_)
   have HK := UC hK
   clear hK hHeld
   go_simp
   refine (UB P2 _ _ _ o1).mono ?_
   rintro e w2 ⟨v2, rfl, o2, c2⟩
   have t2 := UG t1 c2
   have z2 := c1.size
   clear c1 o1
   refine (UB HK).out _ _ (cells11 (UE t2 (UB KK))) (fun hHeld => ?_)
   clear HK K
   simp only [List.setIfInBounds_toArray, List.set_cons_zero, List.set_cons_succ]
   refine runI 5 rfl (by kernel_rfl) (by kernel_rfl) (fun K hK => ?_)
   have HK := UC hK
   clear hK hHeld
   go_simp
   refine (UB P3 _ _ _ o2).mono ?_
   rintro e w3 ⟨v3, rfl, o3, c3⟩
   have t3 := UG t2 c3
   have z3 := c2.size
   clear c2 o2
   refine (UB HK).out _ _ (cells11 (UE t3 (UB KK))) (fun hHeld => ?_)
   clear HK K
   simp only [List.setIfInBounds_toArray, List.set_cons_zero, List.set_cons_succ]
   refine runI 7 rfl (by kernel_rfl) (by kernel_rfl) (fun K hK => ?_)
   have HK := UC hK
   clear hK hHeld
   go_simp
   refine (UB P4 _ _ _ o3).mono ?_
   rintro e w4 ⟨v4, rfl, o4, c4⟩
   have t4 := UG t3 c4
   have z4 := c3.size
   clear c3 o3
   refine (UB HK).out _ _ (cells11 (UE t4 (UB KK))) (fun hHeld => ?_)
   clear HK K
   simp only [List.setIfInBounds_toArray, List.set_cons_zero, List.set_cons_succ]
   refine runI 9 rfl (by kernel_rfl) (by kernel_rfl) (fun K hK => ?_)
   have HK := UC hK
   clear hK hHeld
   go_simp
   refine (UB P5 _ _ _ o4).mono ?_
   rintro e w5 ⟨v5, rfl, o5, c5⟩
   have t5 := UG t4 c5
   have z5 := c4.size
   clear c4 o4
   refine (UB HK).out _ _ (cells11 (UE t5 (UB KK))) (fun hHeld => ?_)
   clear HK K
   simp only [List.setIfInBounds_toArray, List.set_cons_zero, List.set_cons_succ]
   refine runI 13 rfl (by kernel_rfl) (by kernel_rfl) (fun K hK => ?_)
   have HK := UC hK
   clear hK hHeld
   go_simp
   refine (UB P6 _ _ _ o5).mono ?_
   rintro e w6 ⟨v6, rfl, o6, c6⟩
   have t6 := UG t5 c6
   have z6 := c5.size
   clear c5 o5
   refine (UB HK).out _ _ (cells11 (UE t6 (UB KK))) (fun hHeld => ?_)
   clear HK K
   simp only [List.setIfInBounds_toArray, List.set_cons_zero, List.set_cons_succ]
   repeat ((first | (refine tkF ?_ rfl (by kernel_rfl) (by rfl) (fun _ _ _ h => h) ?_ hHeld ?_; rotate_left; · (intro w hSw; (try dsimp only at hSw); go_simp <;> with_reducible rfl)) | refine skF rfl (by kernel_rfl) (by rfl) (fun _ _ _ h => h) hHeld ?_); simp only [Act.put, setF, List.setIfInBounds_toArray, List.set_cons_zero, List.set_cons_succ])
   refine wpAnyH_done (by kernel_rfl) ?_ _
   clear hHeld
   have O6 := UC (o6.mono (show W.heap.size ≤ _ by have := bd.size; omega))
   have z7 := c6.size
   clear o6 c6 bd KD t1 t2 t3 t4 t5
   have bd := UX (w := w6)
   have bW := UG t6 bd
   have HD := UC ((UB O6).below bd)
   have zB : W.heap.size ≤ w6.drew.heap.size := bW.size
   clear t6 bd O6
   go_wp2_with fail
   refine startF 15 (S := (fun w' => (w'.cell? ⟨w.heap.size, 0, none⟩ = some (.int .i64 m.id) ∧ w'.cell? ⟨w.heap.size, 1, none⟩ = some (.bool RE) ∧ w'.cell? ⟨w.heap.size, 2, none⟩ = some (.int .i64 m.op) ∧ w'.cell? ⟨w.heap.size, 3, none⟩ = some (.bool AU) ∧ w'.cell? ⟨w.heap.size, 4, none⟩ = some (.int .i64 m.code) ∧ w'.cell? ⟨w.heap.size, 5, none⟩ = some (.slice (some ⟨qb, qoff, none⟩) m.qs.length yq) ∧ w'.cell? ⟨w.heap.size, 6, none⟩ = some (.slice xa m.ans.length ya) ∧ w'.cell? ⟨w.heap.size, 7, none⟩ = some (.slice xb m.aus.length yb) ∧ w'.cell? ⟨w.heap.size, 8, none⟩ = some (.slice xm m.more.length ym) ∧ w'.cell? ⟨w.heap.size, 9, none⟩ = some (.slice xp m.pres.length yp) ∧ w'.cell? ⟨w.heap.size, 10, none⟩ = some (.slice xu m.ups.length yu)) ∧ (w'.cell? ⟨qb, qoff, none⟩ = some (.slice qna q.name.length qnc) ∧ w'.cell? ⟨qb, qoff + 1, none⟩ = some (.int .i64 q.type)))) (by kernel_rfl) rfl ⟨cells11 (UE bW (UB KK)), range2 (UW (UB HQC) hqblW bW)⟩ (fun hHeld => ?_)
   simp only [List.replicate]
   repeat ((first | (refine tkF ?_ rfl (by kernel_rfl) (by rfl) (fun _ _ _ h => h) ?_ hHeld ?_; rotate_left; · (intro w hSw; (try dsimp only at hSw); go_simp <;> with_reducible rfl)) | refine skF rfl (by kernel_rfl) (by rfl) (fun _ _ _ h => h) hHeld ?_); simp only [Act.put, setF, List.setIfInBounds_toArray, List.set_cons_zero, List.set_cons_succ])
   refine tkI 7 ?_ rfl (by kernel_rfl) (by kernel_rfl) (fun _ _ _ h => h) ?_ hHeld ?_; rotate_left; (· (intro w hSw; (try dsimp only at hSw); go_simp <;> with_reducible rfl)); simp only [Act.put, List.setIfInBounds_toArray, List.set_cons_zero, List.set_cons_succ]
   refine tkI 8 ?_ rfl (by kernel_rfl) (by kernel_rfl) (fun _ _ _ h => h) ?_ hHeld ?_; rotate_left; (· (intro w hSw; (try dsimp only at hSw); go_simp <;> with_reducible rfl)); simp only [Act.put, List.setIfInBounds_toArray, List.set_cons_zero, List.set_cons_succ]
   refine tkI 9 ?_ rfl (by kernel_rfl) (by kernel_rfl) (fun _ _ _ h => h) ?_ hHeld ?_; rotate_left; (· (intro w hSw; (try dsimp only at hSw); go_simp <;> with_reducible rfl)); simp only [Act.put, List.setIfInBounds_toArray, List.set_cons_zero, List.set_cons_succ]
   refine tkI 10 ?_ rfl (by kernel_rfl) (by kernel_rfl) (fun _ _ _ h => h) ?_ hHeld ?_; rotate_left; (· (intro w hSw; (try dsimp only at hSw); go_simp <;> with_reducible rfl)); simp only [Act.put, List.setIfInBounds_toArray, List.set_cons_zero, List.set_cons_succ]
   refine tkI 11 ?_ rfl (by kernel_rfl) (by kernel_rfl) (fun _ _ _ h => h) ?_ hHeld ?_; rotate_left; (· (intro w hSw; (try dsimp only at hSw); go_simp <;> with_reducible rfl)); simp only [Act.put, List.setIfInBounds_toArray, List.set_cons_zero, List.set_cons_succ]
   refine runI 6 rfl (by kernel_rfl) (by kernel_rfl) (fun K hK => ?_)
   have HK := UC hK
   clear hK hHeld
   go_simp
   refine (UB HL _ _ _ (UB HD) zB ((UB HQU).at.low bW (Nat.le_refl _))).mono ?_
   rintro e w7 ⟨v7, rfl, o7, c7, _⟩
   have t7 := bW.trans c7
   have z7 := c7.size
   refine (UB HK).out _ _ ⟨cells11 (UE t7 (UB KK)), range2 (UW (UB HQC) hqblW t7)⟩ (fun hHeld => ?_)
   clear HK K
   simp only [List.setIfInBounds_toArray, List.set_cons_zero, List.set_cons_succ]
   refine runI 12 rfl (by kernel_rfl) (by kernel_rfl) (fun K hK => ?_)
   have HK := UC hK
   clear hK hHeld
   go_simp
   refine (UB P7 _ _ _ o7).mono ?_
   rintro e w8 ⟨v8, rfl, o8, c8⟩
   have t8 := t7.trans (c8.mono (by omega))
   have z8 := c8.size
   refine (UB HK).out _ _ ⟨cells11 (UE t8 (UB KK)), range2 (UW (UB HQC) hqblW t8)⟩ (fun hHeld => ?_)
   clear HK K
   simp only [List.setIfInBounds_toArray, List.set_cons_zero, List.set_cons_succ]
   refine runI 13 rfl (by kernel_rfl) (by kernel_rfl) (fun K hK => ?_)
   have HK := UC hK
   clear hK hHeld
   go_simp
   refine (UB P8 _ _ _ o8).mono ?_
   rintro e w9 ⟨v9, rfl, o9, c9⟩
   have t9 := t8.trans (c9.mono (by omega))
   have z9 := c9.size
   refine (UB HK).out _ _ ⟨cells11 (UE t9 (UB KK)), range2 (UW (UB HQC) hqblW t9)⟩ (fun hHeld => ?_)
   clear HK K
   simp only [List.setIfInBounds_toArray, List.set_cons_zero, List.set_cons_succ]
   repeat ((first | (refine tkF ?_ rfl (by kernel_rfl) (by rfl) (fun _ _ _ h => h) ?_ hHeld ?_; rotate_left; · (intro w hSw; (try dsimp only at hSw); go_simp <;> with_reducible rfl)) | refine skF rfl (by kernel_rfl) (by rfl) (fun _ _ _ h => h) hHeld ?_); simp only [Act.put, setF, List.setIfInBounds_toArray, List.set_cons_zero, List.set_cons_succ])
   refine wpAnyH_done (by kernel_rfl) ?_ _
   clear hHeld
   have O9 := UC (o9.mono (show W.heap.size ≤ _ by omega))
   clear o7 o8 o9 c7 c8 c9 t7 t8 bW HD HQC HQU P1 P2 P3 P4 P5 P6 P7 P8 HL
   obtain ⟨d0, d1, d2, d3, d4, d5, d6, d7, d8, d9, d10⟩ := cells11 (UE t9 (UB KK))
   go_wp2_with fail
   clear d0 d1 d2 d3 d4 d5 d6 d7 d8 d9 d10
   go_loopw [6, 7] (fun o i wr => ∃ k : Nat, k ≤ m.pres.length ∧ i = .int .i64 k ∧ Own W.heap.size 5 wr o (BP k) ∧ Below W.heap.size W wr) (fun _ i _ => m.pres.length - (intOf i).toNat)
   case atStart => exact ⟨0, Nat.zero_le _, rfl, by rw [UB WP0]; exact UB O9, t9⟩
   case round =>
    obtain ⟨k, hk, rfl, ho, hb⟩ := hrel
    have zb := hb.size
    have hlk := UB HLP k hk
    obtain ⟨d0, d1, d2, d3, d4, d5, d6, d7, d8, d9, d10⟩ := cells11 (UE hb (UB KK))
    by_cases hlt : k < m.pres.length
    ·have hki : (k : Int) < m.pres.length := by omega
     have hh := (UB H).pres
     obtain ⟨b, off, vs, e_a, hbl, hc, vn, vt, vx, vi, rfl, hu⟩ := hh.here (k := k) hlt
     have hws := UB WP k hlt
     have hok := UB K4 k hlt
     clear hh
     subst e_a
     generalize m.pres.getD k wntZ = x at *
     obtain ⟨na, nc, rfl, _⟩ := hu.name.form
     obtain ⟨ta, tc, rfl, _⟩ := hu.to.form
     obtain ⟨xa2, xc, rfl, _⟩ := hu.text.form
     obtain ⟨ia, ic, rfl, _⟩ := hu.nums.form
     obtain ⟨c0, c1, c2, c3, c4, c5, c6, c7, c8⟩ := range9 (UW hc hbl hb)
     have PW := UC (l4want_own ho zb (by omega) (hu.below hb) (hu.name.at.low hb (Nat.le_refl _)) hok)
     have HWS := UC hws
     clear hc hu hok hws ho
     go_wp2_with fail
     refine (UB PW).mono ?_
     rintro e w1 ⟨v1, rfl, o1, b1⟩
     clear c0 c1 c2 c3 c4 c5 c6 c7 c8 d0 d1 d2 d3 d4 d5 d6 d7 d8 d9 d10
     have bb := hb.trans b1
     have O1 := UC o1
     clear o1 b1 hb PW
     go_wp2_with fail
     exact ⟨⟨k + 1, by omega, by go_num, by rw [UB HWS]; exact UB O1, bb⟩, by simp [intOf]; omega⟩
    ·obtain rfl : k = m.pres.length := by omega
     have HOP := UC ho
     clear ho hlt hk
     go_wp2_with fail
     clear d0 d1 d2 d3 d4 d5 d6 d7 d8 d9 d10
     go_loopw [6, 8] (fun o i wr => ∃ k : Nat, k ≤ m.ups.length ∧ i = .int .i64 k ∧ Own W.heap.size 5 wr o (BU k) ∧ Below W.heap.size W wr) (fun _ i _ => m.ups.length - (intOf i).toNat)
     case atStart => exact ⟨0, Nat.zero_le _, rfl, by rw [UB WU0]; exact UB HOP, hb⟩
     case round =>
      obtain ⟨k, hk, rfl, ho, hb⟩ := hrel
      have zb := hb.size
      have hlk := UB HLU k hk
      obtain ⟨d0, d1, d2, d3, d4, d5, d6, d7, d8, d9, d10⟩ := cells11 (UE hb (UB KK))
      by_cases hlt : k < m.ups.length
      ·have hki : (k : Int) < m.ups.length := by omega
       have hh := (UB H).ups
       obtain ⟨b, off, vs, e_a, hbl, hc, vn, vt, vx, vi, rfl, hu⟩ := hh.here (k := k) hlt
       have hws := UB WU k hlt
       have hok := UB K5 k hlt
       clear hh
       subst e_a
       generalize m.ups.getD k wntZ = x at *
       obtain ⟨na, nc, rfl, _⟩ := hu.name.form
       obtain ⟨ta, tc, rfl, _⟩ := hu.to.form
       obtain ⟨xa2, xc, rfl, _⟩ := hu.text.form
       obtain ⟨ia, ic, rfl, _⟩ := hu.nums.form
       obtain ⟨c0, c1, c2, c3, c4, c5, c6, c7, c8⟩ := range9 (UW hc hbl hb)
       have PW := UC (l4want_own ho zb (by omega) (hu.below hb) (hu.name.at.low hb (Nat.le_refl _)) hok)
       have HWS := UC hws
       clear hc hu hok hws ho
       go_wp2_with fail
       refine (UB PW).mono ?_
       rintro e w1 ⟨v1, rfl, o1, b1⟩
       clear c0 c1 c2 c3 c4 c5 c6 c7 c8 d0 d1 d2 d3 d4 d5 d6 d7 d8 d9 d10
       have bb := hb.trans b1
       have O1 := UC o1
       clear o1 b1 hb PW
       go_wp2_with fail
       exact ⟨⟨k + 1, by omega, by go_num, by rw [UB HWS]; exact UB O1, bb⟩, by simp [intOf]; omega⟩
      ·obtain rfl : k = m.ups.length := by omega
       have HOU := UC ho
       clear ho hlt hk
       go_wp2_with fail
       clear d0 d1 d2 d3 d4 d5 d6 d7 d8 d9 d10
       have bd := hb.trans ((UX (w := wr)).mono zb)
       have OU := UC ((UB HOU).below (UX (w := wr)))
       have zU : W.heap.size ≤ wr.drew.heap.size := bd.size
       refine startF 11 (S := (fun w' => w'.cell? ⟨w.heap.size, 0, none⟩ = some (.int .i64 m.id) ∧ w'.cell? ⟨w.heap.size, 1, none⟩ = some (.bool RE) ∧ w'.cell? ⟨w.heap.size, 2, none⟩ = some (.int .i64 m.op) ∧ w'.cell? ⟨w.heap.size, 3, none⟩ = some (.bool AU) ∧ w'.cell? ⟨w.heap.size, 4, none⟩ = some (.int .i64 m.code) ∧ w'.cell? ⟨w.heap.size, 5, none⟩ = some (.slice (some ⟨qb, qoff, none⟩) m.qs.length yq) ∧ w'.cell? ⟨w.heap.size, 6, none⟩ = some (.slice xa m.ans.length ya) ∧ w'.cell? ⟨w.heap.size, 7, none⟩ = some (.slice xb m.aus.length yb) ∧ w'.cell? ⟨w.heap.size, 8, none⟩ = some (.slice xm m.more.length ym) ∧ w'.cell? ⟨w.heap.size, 9, none⟩ = some (.slice xp m.pres.length yp) ∧ w'.cell? ⟨w.heap.size, 10, none⟩ = some (.slice xu m.ups.length yu))) (by kernel_rfl) rfl (cells11 (UE bd (UB KK))) (fun hHeld => ?_)
       simp only [List.replicate]
       generalize hV : wr.drew = V at *
       clear hV
       refine tkI 1 ?_ rfl (by kernel_rfl) (by kernel_rfl) (fun _ _ _ h => h) ?_ hHeld ?_; rotate_left; (· (intro w hSw; (try dsimp only at hSw); go_simp <;> with_reducible rfl)); simp only [Act.put, List.setIfInBounds_toArray, List.set_cons_zero, List.set_cons_succ]
       refine tkI 2 ?_ rfl (by kernel_rfl) (by kernel_rfl) (fun _ _ _ h => h) ?_ hHeld ?_; rotate_left; (· (intro w hSw; (try dsimp only at hSw); go_simp <;> with_reducible rfl)); simp only [Act.put, List.setIfInBounds_toArray, List.set_cons_zero, List.set_cons_succ]
       refine tkI 4 ?_ rfl (by kernel_rfl) (by kernel_rfl) (fun _ _ _ h => h) ?_ hHeld ?_; rotate_left; (· (intro w hSw; (try dsimp only at hSw); go_simp <;> with_reducible rfl)); simp only [Act.put, List.setIfInBounds_toArray, List.set_cons_zero, List.set_cons_succ]
       refine tkI 5 ?_ rfl (by kernel_rfl) (by kernel_rfl) (fun _ _ _ h => h) ?_ hHeld ?_; rotate_left; (· (intro w hSw; (try dsimp only at hSw); go_simp <;> with_reducible rfl)); simp only [Act.put, List.setIfInBounds_toArray, List.set_cons_zero, List.set_cons_succ]
       refine tkI 7 ?_ rfl (by kernel_rfl) (by kernel_rfl) (fun _ _ _ h => h) ?_ hHeld ?_; rotate_left; (· (intro w hSw; (try dsimp only at hSw); go_simp <;> with_reducible rfl)); simp only [Act.put, List.setIfInBounds_toArray, List.set_cons_zero, List.set_cons_succ]
       refine tkI 8 ?_ rfl (by kernel_rfl) (by kernel_rfl) (fun _ _ _ h => h) ?_ hHeld ?_; rotate_left; (· (intro w hSw; (try dsimp only at hSw); go_simp <;> with_reducible rfl)); simp only [Act.put, List.setIfInBounds_toArray, List.set_cons_zero, List.set_cons_succ]
       have bE := UI (w := V) (.cells #[] 63)
       have tE := bd.trans (bE.mono zU)
       have hown0 : (V.alloc (.cells #[] 63)).ownsRow V.heap.size 63 7 (.slice (some ⟨V.heap.size, 0, none⟩) 0 0) 0 [] := ⟨rfl, .inr ⟨V.heap.size, 0, #[], rfl, Nat.le_refl _, heap_alloc_new _ _, Nat.le_refl _, Nat.zero_le _, rfl, rfl⟩⟩
       have R0 : Hid (RowSG 7 HasRc recZ V.heap.size 63 W (V.alloc (.cells #[] 63)) (.slice (some ⟨V.heap.size, 0, none⟩) 0 0) []) := ⟨[], hown0, fun i hi => absurd hi (by simp)⟩
       have zE := bE.size
       have sa0 := bE
       clear hown0 bE
       refine runI 0 rfl (by kernel_rfl) (by kernel_rfl) (fun K hK => ?_)
       have HK := UC hK
       clear hK hHeld
       go_simp
       refine (UB HK).out _ _ (cells11 (UE tE (UB KK))) (fun hHeld => ?_)
       clear HK K
       simp only [List.setIfInBounds_toArray, List.set_cons_zero]
       generalize hE0 : V.alloc (.cells #[] 63) = E0 at *
       clear hE0
       refine runI 3 rfl (by kernel_rfl) (by kernel_rfl) (fun K hK => ?_)
       have HK := UC hK
       clear hK hHeld
       refine append_many_wp (E := HasRc) (d := recZ) (W := W) stays_HasRc HasRc.len HasRc.one (by decide) (.tmp 96) (.tmp 98) 24 63 rfl Tryz.underlying24 _ 120 (by decide) info_rrM rfl V.heap.size (.slice (some ⟨V.heap.size, 0, none⟩) 0 0) (.slice xa m.ans.length ya) [] m.ans rfl rfl (UB R0) (hasRs_G (UB H).ans) tE (by simp only [List.length_nil]; omega) zE ?_
       intro va1 wa1 ra1 ga1
       have R1 := UC ra1
       have ta1 := tE.grown ga1 (by omega) (fun k hk => by obtain ⟨cs, hcs, _⟩ := UB R0; have := (World.ownsRow.lt hcs k hk).1; omega)
       have za1 : V.heap.size ≤ wa1.heap.size := by have := ga1.size; omega
       have sa1 := sa0.grown ga1 (by omega) (fun k hk => by obtain ⟨cs, hcs, _⟩ := UB R0; exact (World.ownsRow.lt hcs k hk).1)
       clear ra1 ga1
       refine (UB HK).out _ _ (cells11 (UE ta1 (UB KK))) (fun hHeld => ?_)
       clear HK K
       simp only [Act.put, List.setIfInBounds_toArray, List.set_cons_zero, List.set_cons_succ]
       refine runI 6 rfl (by kernel_rfl) (by kernel_rfl) (fun K hK => ?_)
       have HK := UC hK
       clear hK hHeld
       refine append_many_wp (E := HasRc) (d := recZ) (W := W) stays_HasRc HasRc.len HasRc.one (by decide) (.tmp 99) (.tmp 101) 24 63 rfl Tryz.underlying24 _ 120 (by decide) info_rrM rfl V.heap.size va1 (.slice xb m.aus.length yb) ([] ++ m.ans) m.aus rfl rfl (UB R1) (hasRs_G (UB H).aus) ta1 (by simp only [List.length_append, List.length_nil]; omega) za1 ?_
       intro va2 wa2 ra2 ga2
       have R2 := UC ra2
       have ta2 := ta1.grown ga2 (by omega) (fun k hk => by obtain ⟨cs, hcs, _⟩ := UB R1; have := (World.ownsRow.lt hcs k hk).1; omega)
       have za2 : V.heap.size ≤ wa2.heap.size := by have := ga2.size; omega
       have sa2 := sa1.grown ga2 (by omega) (fun k hk => by obtain ⟨cs, hcs, _⟩ := UB R1; exact (World.ownsRow.lt hcs k hk).1)
       clear ra2 ga2
       refine (UB HK).out _ _ (cells11 (UE ta2 (UB KK))) (fun hHeld => ?_)
       clear HK K
       simp only [Act.put, List.setIfInBounds_toArray, List.set_cons_zero, List.set_cons_succ]
       refine runI 9 rfl (by kernel_rfl) (by kernel_rfl) (fun K hK => ?_)
       have HK := UC hK
       clear hK hHeld
       refine append_many_wp (E := HasRc) (d := recZ) (W := W) stays_HasRc HasRc.len HasRc.one (by decide) (.tmp 102) (.tmp 104) 24 63 rfl Tryz.underlying24 _ 120 (by decide) info_rrM rfl V.heap.size va2 (.slice xm m.more.length ym) ([] ++ m.ans ++ m.aus) m.more rfl rfl (UB R2) (hasRs_G (UB H).more) ta2 (by simp only [List.length_append, List.length_nil]; omega) za2 ?_
       intro va3 wa3 ra3 ga3
       have R3 := UC ra3
       have ta3 := ta2.grown ga3 (by omega) (fun k hk => by obtain ⟨cs, hcs, _⟩ := UB R2; have := (World.ownsRow.lt hcs k hk).1; omega)
       have za3 : V.heap.size ≤ wa3.heap.size := by have := ga3.size; omega
       have sa3 := sa2.grown ga3 (by omega) (fun k hk => by obtain ⟨cs, hcs, _⟩ := UB R2; exact (World.ownsRow.lt hcs k hk).1)
       clear ra3 ga3
       refine (UB HK).out _ _ (cells11 (UE ta3 (UB KK))) (fun hHeld => ?_)
       clear HK K
       simp only [Act.put, List.setIfInBounds_toArray, List.set_cons_zero, List.set_cons_succ]
       repeat ((first | (refine tkF ?_ rfl (by kernel_rfl) (by rfl) (fun _ _ _ h => h) ?_ hHeld ?_; rotate_left; · (intro w hSw; (try dsimp only at hSw); go_simp <;> with_reducible rfl)) | refine skF rfl (by kernel_rfl) (by rfl) (fun _ _ _ h => h) hHeld ?_); simp only [Act.put, setF, List.setIfInBounds_toArray, List.set_cons_zero, List.set_cons_succ])
       refine wpAnyH_done (by kernel_rfl) ?_ _
       clear hHeld
       have OV := UC ((UB OU).below sa3)
       have RA : Hid (RowSG 7 HasRc recZ V.heap.size 63 W wa3 va3 AM) := by rw [UB HAM]; exact UB R3
       have hvf : ∃ a c, va3 = .slice a AM.length c := by
        obtain ⟨cs, how, _⟩ := UB RA
        rcases how.2 with ⟨e, e0⟩ | ⟨g, vc, cur, e, _⟩
        ·exact ⟨none, 0, by rw [e, e0]⟩
        ·exact ⟨_, _, e⟩
       obtain ⟨ra, rc, rfl⟩ := hvf
       have HAN := UC (show ∃ n, n = AM.length from ⟨_, rfl⟩)
       clear HOU OU R0 R1 R2 R3 tE ta1 ta2 sa0 sa1 sa2 sa3 zE za1 za2 bd HAM
       go_wp2_with fail
       go_loopw [6, 10] (fun o i wr => ∃ k : Nat, k ≤ AM.length ∧ i = .int .i64 k ∧ Own W.heap.size 5 wr o (BR k) ∧ Below W.heap.size W wr ∧ RowSG 7 HasRc recZ V.heap.size 63 W wr (.slice ra AM.length rc) AM) (fun _ i _ => AM.length - (intOf i).toNat)
       case atStart => exact ⟨0, Nat.zero_le _, rfl, by rw [UB WR0]; exact UB OV, ta3, UB RA⟩
       case round =>
        clear OV RA ta3 za3 hb zb hlk
        obtain ⟨k, hk, rfl, ho, hb, hrow⟩ := hrel
        have zb := hb.size
        have hlk := UB HLR k hk
        by_cases hlt : k < AM.length
        ·have hki : (k : Int) < AM.length := by omega
         have hws := UB WR k hlt
         have hok := UB HALL k hlt
         obtain ⟨cs, how, hx⟩ := hrow
         obtain ⟨vs, hvl, hvc, vn, vt, vx, vi, rfl, hu⟩ := hx k hlt
         have HX := UC hx
         clear hx
         generalize AM.getD k recZ = r at *
         obtain ⟨g, cur, rfl, _, hBg, hg, _, hcm, _, _⟩ := ownsRow_atX how (by omega)
         obtain ⟨na, nc, rfl, _⟩ := hu.name.form
         obtain ⟨ta, tc, rfl, _⟩ := hu.to.form
         obtain ⟨xa2, xc, rfl, _⟩ := hu.text.form
         obtain ⟨ia, ic, rfl, _⟩ := hu.nums.form
         have hcell : ∀ j u, (cellsR (.slice na r.name.length nc) (.slice ta r.to.length tc) (.slice xa2 r.text.length xc) (.slice ia r.nums.length ic) r)[j]? = some u → wr.cell? ⟨g, k * 7 + j, none⟩ = some u := fun j u hj => by
          have hj7 : j < 7 := by have := (List.getElem?_eq_some_iff.1 hj).1; simpa [cellsR] using this
          exact (World.ownsRow.cellAt how (k * 7 + j) (by omega)).trans (hvc j u hj)
         have c0 : wr.cell? ⟨g, k * 7, none⟩ = some (.slice na r.name.length nc) := hcell 0 _ rfl
         have c1 : wr.cell? ⟨g, k * 7 + 1, none⟩ = some (.int .i64 r.type) := hcell 1 _ rfl
         have c2 : wr.cell? ⟨g, k * 7 + 2, none⟩ = some (.int .i64 r.ttl) := hcell 2 _ rfl
         have c3 : wr.cell? ⟨g, k * 7 + 3, none⟩ = some (.int .i64 r.addr) := hcell 3 _ rfl
         have c4 : wr.cell? ⟨g, k * 7 + 4, none⟩ = some (.slice ta r.to.length tc) := hcell 4 _ rfl
         have c5 : wr.cell? ⟨g, k * 7 + 5, none⟩ = some (.slice xa2 r.text.length xc) := hcell 5 _ rfl
         have c6 : wr.cell? ⟨g, k * 7 + 6, none⟩ = some (.slice ia r.nums.length ic) := hcell 6 _ rfl
         have hap := ho.apart hg (by decide)
         have PW := UC (l3rr_class 1 ho zb (by omega) (hu.below hb) (hu.name.at.low hb (Nat.le_refl _)) hok)
         have HWS := UC hws
         have HOW := UC how
         have HAP := UC hap
         clear hu hok hws ho hcell hvc hg how hap hvl
         go_wp2_with fail
         refine (UB PW).mono ?_
         rintro e w1 ⟨v1, rfl, o1, b1, g1⟩
         clear c0 c1 c2 c3 c4 c5 c6
         have bb := hb.trans b1
         have O1 := UC o1
         have RW : Hid (RowSG 7 HasRc recZ V.heap.size 63 W w1 (.slice (some ⟨g, 0, none⟩) AM.length rc) AM) := ⟨cs, World.ownsRow.kept (UB HOW) g1 (.inr (fun e => UB HAP e.symm)), UB HX⟩
         clear o1 b1 g1 hb PW HOW HX HAP
         go_wp2_with fail
         exact ⟨⟨k + 1, by omega, by go_num, by rw [UB HWS]; exact UB O1, bb, UB RW⟩, by simp [intOf]; omega⟩
        ·obtain rfl : k = AM.length := by omega
         go_wp2_with fail
         go_ret
         exact ⟨_, rfl, ho.mono (by omega), b0.trans (hb.mono (by omega))⟩
end Go.Proofs.YtbabmdiklefgcaaGreatDoor
