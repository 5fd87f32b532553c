/-
  Contract of the specification's l3rr. Contract of the specification's l4want. Plain facts for the specification's l4bytes.
-/
import Derived.Test.YtfpenlobnnlnfaaGreatDoorMsgTextG37
import Derived.Test.YtfpenlobnnlnfaaGreatDoorMsgTextG11
import Derived.Test.YtfpenlobnnlnfaaGreatDoorMsgTextG17
import Derived.Test.YtfpenlobnnlnfaaGreatDoorMsgTextG24
namespace Go.Proofs.YtfpenlobnnlnfaaGreatDoor
open Go.RowKit
set_option linter.unusedVariables false

set_option maxHeartbeats 2000000 in
set_option maxRecDepth 100000 in
theorem l3rr_class (c : Int) {B : Nat} {vb vn vt vx vi : Value} {l : List Int} {r : Rec} {w : World} (hvb : Own B 5 w vb l) (hB : B ≤ w.heap.size) (hl : l.length ≤ 1048576) (h : HasR w vn vt vx vi r) (hA : HasLAt B w vn r.name) (hok : rrOk r = true) :
  Calls Tryz.prog 63 #[vb, .agg #[vn, .int .i64 r.type, .int .i64 r.ttl, .int .i64 r.addr, vt, vx, vi], .int .i64 c] w fun e w' => ∃ v', e = .returned v' ∧ Own B 5 w' v' (classB l r c (dataB r)) ∧ Below B w w' ∧ w.grownBy w' vb.ownBlock := by
 obtain ⟨na, nc, rfl, _⟩ := h.name.form
 obtain ⟨ta, tc, rfl, _⟩ := h.to.form
 obtain ⟨xa, xc, rfl, _⟩ := h.text.form
 obtain ⟨ia, ic, rfl, _⟩ := h.nums.form
 have b0 := UI (w := w) (.cells #[.slice na r.name.length nc, .int .i64 r.type, .int .i64 r.ttl, .int .i64 r.addr, .slice ta r.to.length tc, .slice xa r.text.length xc, .slice ia r.nums.length ic] 77)
 have K0 := UC (heap_alloc_new w (.cells #[.slice na r.name.length nc, .int .i64 r.type, .int .i64 r.ttl, .int .i64 r.addr, .slice ta r.to.length tc, .slice xa r.text.length xc, .slice ia r.nums.length ic] 77))
 have H0 := UC (h.below b0)
 have V0 := UC (hvb.alloc (.cells #[.slice na r.name.length nc, .int .i64 r.type, .int .i64 r.ttl, .int .i64 r.addr, .slice ta r.to.length tc, .slice xa r.text.length xc, .slice ia r.nums.length ic] 77))
 have A0 := UC (hA.below b0)
 have hno := (rrOk_parts hok).1
 have HP := UC (fun (w : World) (vn vt vx vi : Value) (h : HasR w vn vt vx vi r) => l3put_has h hok)
 have q1 := wire_length r.name hno
 have q2 := dataB_length hok
 have q3 := put16_length (l ++ wire r.name) r.type
 have q4 := put16_length (put16 (l ++ wire r.name) r.type) c
 have q5 := put32_length (put16 (put16 (l ++ wire r.name) r.type) c) r.ttl
 have q6 := put16_length (put32 (put16 (put16 (l ++ wire r.name) r.type) c) r.ttl) (dataB r).length
 rw [List.length_append] at q3
 have hl1 : (l ++ wire r.name).length ≤ 2000000 := by rw [List.length_append]; omega
 have HL := UC (fun (w : World) (hv : Own B 5 w vb l) (hB : B ≤ w.heap.size) (hA : HasLAt B w (.slice na r.name.length nc) r.name) => l2put_moved hv hB (by omega) hA (nameOk_parts hno).1 (fun k hk => (labelOk_length ((nameOk_parts hno).2 k hk)).2) (wires_length r.name hno))
 have P1 := UC (fun (w : World) (C : Nat) (v : Value) (hv : Own C 5 w v (l ++ wire r.name)) => specPut16w_any r.type hv hl1)
 have P2 := UC (fun (w : World) (C : Nat) (v : Value) (hv : Own C 5 w v (put16 (l ++ wire r.name) r.type)) => specPut16w_any c hv (by omega))
 have P3 := UC (fun (w : World) (C : Nat) (v : Value) (hv : Own C 5 w v (put16 (put16 (l ++ wire r.name) r.type) c)) => specPut32w_any r.ttl hv (by omega))
 have P4 := UC (fun (w : World) (C : Nat) (v : Value) (hv : Own C 5 w v (put32 (put16 (put16 (l ++ wire r.name) r.type) c) r.ttl)) => specPut16w_any (dataB r).length hv (by omega))
 have hl4 : (put16 (put32 (put16 (put16 (l ++ wire r.name) r.type) c) r.ttl) (dataB r).length).length ≤ 2000000 := by omega
 unfold classB
 generalize put16 (put32 (put16 (put16 (l ++ wire r.name) r.type) c) r.ttl) (dataB r).length = G4 at *
 generalize put32 (put16 (put16 (l ++ wire r.name) r.type) c) r.ttl = G3 at *
 generalize put16 (put16 (l ++ wire r.name) r.type) c = G2 at *
 generalize put16 (l ++ wire r.name) r.type = G1 at *
 generalize dataB r = D at *
 clear h hvb hA hok hno q1 q3 q4 q5 q6
 go_enter Tryz.func63, Tryz.ntmps63
 go_wp2_with fail
 generalize w.alloc (.cells #[.slice na r.name.length nc, .int .i64 r.type, .int .i64 r.ttl, .int .i64 r.addr, .slice ta r.to.length tc, .slice xa r.text.length xc, .slice ia r.nums.length ic] 77) = W at *
 refine (UB HP _ _ _ _ _ (UB H0)).mono ?_
 rintro e w1 ⟨y1, rfl, o1, b1⟩
 obtain ⟨ya, yc, rfl, _⟩ := o1.lies
 have bd := UG b1 (UX (w := w1))
 have KD := UC (UE bd (UB K0))
 have VD := UC ((UB V0).below bd)
 have AD := UC ((UB A0).below bd)
 have OD := UC ((o1.below (UX (w := w1))).here)
 have z0 := b0.size
 have z1 := bd.size
 have zk := VC (UB KD)
 have zB : B ≤ w1.drew.heap.size := by omega
 have BW : Below w.heap.size w w1.drew := UG b0 bd
 have BD : Below B w w1.drew := (b0.mono hB).trans (bd.mono (by omega))
 have hap : (Value.slice ya D.length yc).ownBlock = none ∨ (Value.slice ya D.length yc).ownBlock ≠ vb.ownBlock := by
  cases hq : (Value.slice ya D.length yc).ownBlock with
  | none => exact .inl rfl
  | some k =>
   right
   intro e
   have h1 := (o1.lt k hq).1
   have h2 := ((UB V0).lt k e.symm).2
   omega
 have HAP := UC hap
 clear b1 K0 V0 A0 H0 hap o1
 obtain ⟨d0, d1, d2, d3, d4, d5, d6⟩ := UJ (UB KD)
 go_wp2_with fail
 clear d0 d1 d2 d3 d4 d5 d6
 go_region_held3 (fun w' => w'.cell? ⟨w.heap.size, 0, none⟩ = some (.slice na r.name.length nc) ∧ w'.cell? ⟨w.heap.size, 1, none⟩ = some (.int .i64 r.type) ∧ w'.cell? ⟨w.heap.size, 2, none⟩ = some (.int .i64 r.ttl))
  (first
  | exact ⟨(UJ (UB KD)).1, (UJ (UB KD)).2.1, (UJ (UB KD)).2.2.1⟩
  | exact ⟨(UJ k2).1, (UJ k2).2.1, (UJ k2).2.2.1⟩
  | exact ⟨(UJ k3).1, (UJ k3).2.1, (UJ k3).2.2.1⟩
  | exact ⟨(UJ k4).1, (UJ k4).2.1, (UJ k4).2.2.1⟩
  | exact ⟨(UJ k5).1, (UJ k5).2.1, (UJ k5).2.2.1⟩)
  (first
  | (go_at_call 61; refine (UB HL _ (UB VD) zB (UB AD)).mono ?_; rintro e w2 ⟨v2, rfl, o2, b2, m2⟩; have k2 := block_grown m2.kept (UB KD) ((UB VD).apart (UB KD) (by decide)); have y2 := (UB OD).1.kept m2.kept (UB HAP); have z2 := b2.size; have mk2 := m2.kept; clear m2)
  | (go_at_call 60; refine (UB P1 _ _ _ o2).mono ?_; rintro e w3 ⟨v3, rfl, o3, b3⟩; have k3 := UE b3 k2; have y3 := y2.below b3; have z3 := b3.size; clear o2 k2 y2)
  | (go_at_call 60; refine (UB P2 _ _ _ o3).mono ?_; rintro e w4 ⟨v4, rfl, o4, b4⟩; have k4 := UE b4 k3; have y4 := y3.below b4; have z4 := b4.size; clear o3 k3 y3)
  | (go_at_call 93; refine (UB P3 _ _ _ o4).mono ?_; rintro e w5 ⟨v5, rfl, o5, b5⟩; have k5 := UE b5 k4; have y5 := y4.below b5; have z5 := b5.size; clear o4 k4 y4))
 have zd : w1.drew.heap.size = w1.heap.size := rfl
 go_wp2_with fail
 refine (UB P4 _ _ _ o5).mono ?_
 rintro e w6 ⟨v6, rfl, o6, b6⟩
 have y6 := y5.below b6
 have z6 := b6.size
 go_wp2_with (at_builtin; refine append_bytes rfl _ _ 28 5 rfl Tryz.underlying28 VJ w5.heap.size _ _ G4 D rfl rfl o6 y6.has.reads (by omega) z6 ?_)
 intro v7 w7 o7 g7
 have b7 : Below w5.heap.size w6 w7 := (Below.refl _ _).grown g7 z6 (fun q hq => (o6.lt q hq).1)
 go_wp2_with fail
 go_ret
 have BB := ((((((BD.trans b2).trans (b3.mono (by omega))).trans (b4.mono (by omega))).trans (b5.mono (by omega))).trans (b6.mono (by omega))).trans (b7.mono (by omega)))
 have zW := BW.size
 have z7 := b7.size
 refine ⟨v7, rfl, o7.mono (by omega), BB, ⟨BB.os, BB.tape, BB.output, by omega, fun k hk hne => ?_⟩⟩
 exact (b7.block k (by omega)).trans ((b6.block k (by omega)).trans ((b5.block k (by omega)).trans ((b4.block k (by omega)).trans ((b3.block k (by omega)).trans ((mk2.block k (by omega) hne).trans (BW.block k hk))))))

theorem wntOk_ttl {x : Wnt} (h : wntOk x = true) (hb : x.bare = true) : x.rr.ttl = 0 := by
 unfold wntOk wantOk at h
 rw [if_pos hb] at h
 unfold bareOk at h
 simp only [Bool.and_eq_true, decide_eq_true_eq] at h
 exact h.2.2.2.1

set_option maxHeartbeats 2000000 in
set_option maxRecDepth 100000 in
theorem l4want_own {B : Nat} {vb vn vt vx vi : Value} {l : List Int} {x : Wnt} {w : World} (hvb : Own B 5 w vb l) (hB : B ≤ w.heap.size) (hl : l.length ≤ 1048576) (h : HasR w vn vt vx vi x.rr) (hA : HasLAt B w vn x.rr.name) (hok : wntOk x = true) :
  Calls Tryz.prog 62 #[vb, .agg #[vn, .int .i64 x.rr.type, .int .i64 x.rr.ttl, .int .i64 x.rr.addr, vt, vx, vi, .int .i64 x.cls, .bool x.bare]] w fun e w' => ∃ v', e = .returned v' ∧ Own B 5 w' v' (wntB l x) ∧ Below B w w' := by
 obtain ⟨na, nc, rfl, _⟩ := h.name.form
 obtain ⟨ta, tc, rfl, _⟩ := h.to.form
 obtain ⟨xa, xc, rfl, _⟩ := h.text.form
 obtain ⟨ia, ic, rfl, _⟩ := h.nums.form
 have hno := wntOk_name hok
 have hrr := wntOk_rr hok
 have htt := wntOk_ttl hok
 unfold wntB
 generalize x.rr = r at *
 generalize x.cls = c at *
 generalize x.bare = bb at *
 clear hok
 cases bb with
 | false =>
  have hok := hrr rfl
  rw [if_neg (by simp)]
  clear hrr htt
  have b0 := UI (w := w) (.cells #[.slice na r.name.length nc, .int .i64 r.type, .int .i64 r.ttl, .int .i64 r.addr, .slice ta r.to.length tc, .slice xa r.text.length xc, .slice ia r.nums.length ic, .int .i64 c, .bool false] 81)
  have KK := UC (heap_alloc_new w (.cells #[.slice na r.name.length nc, .int .i64 r.type, .int .i64 r.ttl, .int .i64 r.addr, .slice ta r.to.length tc, .slice xa r.text.length xc, .slice ia r.nums.length ic, .int .i64 c, .bool false] 81))
  have HC := UC (l3rr_class c (hvb.below b0) (Nat.le_trans hB b0.size) hl (h.below b0) (hA.below b0) hok)
  generalize classB l r c (dataB r) = G at *
  clear h hvb hA hok
  obtain ⟨d0, d1, d2, d3, d4, d5, d6, d7, d8⟩ := cells9 (UB KK)
  go_enter Tryz.func62, Tryz.ntmps62
  go_wp2_with fail
  clear d0 d1 d2 d3 d4 d5 d6 d7 d8
  generalize w.alloc (.cells #[.slice na r.name.length nc, .int .i64 r.type, .int .i64 r.ttl, .int .i64 r.addr, .slice ta r.to.length tc, .slice xa r.text.length xc, .slice ia r.nums.length ic, .int .i64 c, .bool false] 81) = W at *
  refine (UB HC).mono ?_
  rintro e w1 ⟨v1, rfl, o1, b1, _⟩
  go_wp2_with fail
  go_ret
  exact ⟨_, rfl, o1, (b0.mono hB).trans b1⟩
 | true =>
  have htt' := htt rfl
  rw [if_pos rfl]
  clear hrr htt
  have q1 := wire_length r.name hno
  have q3 := put16_length (l ++ wire r.name) r.type
  have q4 := put16_length (put16 (l ++ wire r.name) r.type) c
  have q5 := put32_length (put16 (put16 (l ++ wire r.name) r.type) c) 0
  rw [List.length_append] at q3
  have hl1 : (l ++ wire r.name).length ≤ 2000000 := by rw [List.length_append]; omega
  have b0 := UI (w := w) (.cells #[.slice na r.name.length nc, .int .i64 r.type, .int .i64 r.ttl, .int .i64 r.addr, .slice ta r.to.length tc, .slice xa r.text.length xc, .slice ia r.nums.length ic, .int .i64 c, .bool true] 81)
  have KK := UC (heap_alloc_new w (.cells #[.slice na r.name.length nc, .int .i64 r.type, .int .i64 r.ttl, .int .i64 r.addr, .slice ta r.to.length tc, .slice xa r.text.length xc, .slice ia r.nums.length ic, .int .i64 c, .bool true] 81))
  have HL := UC (fun (w : World) (hv : Own B 5 w vb l) (hB : B ≤ w.heap.size) (hA : HasLAt B w (.slice na r.name.length nc) r.name) => l2put_moved hv hB (by omega) hA (nameOk_parts hno).1 (fun k hk => (labelOk_length ((nameOk_parts hno).2 k hk)).2) (wires_length r.name hno))
  have P1 := UC (fun (w : World) (C : Nat) (v : Value) (hv : Own C 5 w v (l ++ wire r.name)) => specPut16w_any r.type hv hl1)
  have P2 := UC (fun (w : World) (C : Nat) (v : Value) (hv : Own C 5 w v (put16 (l ++ wire r.name) r.type)) => specPut16w_any c hv (by omega))
  have P3 := UC (fun (w : World) (C : Nat) (v : Value) (hv : Own C 5 w v (put16 (put16 (l ++ wire r.name) r.type) c)) => specPut32w_any 0 hv (by omega))
  have P4 := UC (fun (w : World) (C : Nat) (v : Value) (hv : Own C 5 w v (put32 (put16 (put16 (l ++ wire r.name) r.type) c) 0)) => specPut16w_any 0 hv (by omega))
  have hG : classB l r c [] = put16 (put32 (put16 (put16 (l ++ wire r.name) r.type) c) 0) 0 := by
   unfold classB
   rw [htt', List.append_nil]
   rfl
  rw [hG]
  clear hG
  clear htt'
  generalize put16 (put32 (put16 (put16 (l ++ wire r.name) r.type) c) 0) 0 = G4 at *
  generalize put32 (put16 (put16 (l ++ wire r.name) r.type) c) 0 = G3 at *
  generalize put16 (put16 (l ++ wire r.name) r.type) c = G2 at *
  generalize put16 (l ++ wire r.name) r.type = G1 at *
  generalize l ++ wire r.name = G0 at *
  have zB : B ≤ (w.alloc (.cells #[.slice na r.name.length nc, .int .i64 r.type, .int .i64 r.ttl, .int .i64 r.addr, .slice ta r.to.length tc, .slice xa r.text.length xc, .slice ia r.nums.length ic, .int .i64 c, .bool true] 81)).heap.size := Nat.le_trans hB b0.size
  have hv0 := hvb.below b0
  have hA0 := hA.below b0
  clear h hvb hA hno q1 q3 q4 q5
  obtain ⟨d0, d1, d2, d3, d4, d5, d6, d7, d8⟩ := cells9 (UB KK)
  go_enter Tryz.func62, Tryz.ntmps62
  go_wp2_with fail
  clear d0 d1 d2 d3 d4 d5 d6 d7 d8
  generalize w.alloc (.cells #[.slice na r.name.length nc, .int .i64 r.type, .int .i64 r.ttl, .int .i64 r.addr, .slice ta r.to.length tc, .slice xa r.text.length xc, .slice ia r.nums.length ic, .int .i64 c, .bool true] 81) = W at *
  have bd := UX (w := W)
  have KD := UC (UE bd (UB KK))
  have VD := UC (hv0.below bd)
  have AD := UC (hA0.below bd)
  have zD : B ≤ W.drew.heap.size := zB
  have BD : Below B w W.drew := ((b0.mono hB).trans (bd.mono zB))
  clear hv0 hA0 bd KK b0
  refine startF 15 (S := (fun w' => w'.cell? ⟨w.heap.size, 0, none⟩ = some (.slice na r.name.length nc) ∧ w'.cell? ⟨w.heap.size, 1, none⟩ = some (.int .i64 r.type) ∧ w'.cell? ⟨w.heap.size, 2, none⟩ = some (.int .i64 r.ttl) ∧ w'.cell? ⟨w.heap.size, 3, none⟩ = some (.int .i64 r.addr) ∧ w'.cell? ⟨w.heap.size, 4, none⟩ = some (.slice ta r.to.length tc) ∧ w'.cell? ⟨w.heap.size, 5, none⟩ = some (.slice xa r.text.length xc) ∧ w'.cell? ⟨w.heap.size, 6, none⟩ = some (.slice ia r.nums.length ic) ∧ w'.cell? ⟨w.heap.size, 7, none⟩ = some (.int .i64 c) ∧ w'.cell? ⟨w.heap.size, 8, none⟩ = some (.bool true))) (by kernel_rfl) rfl (cells9 (UB KD)) (fun hHeld => ?_)
  simp only [List.replicate]
  repeat ((first | (refine tkF ?_ rfl (by kernel_rfl) (by rfl) (fun _ _ _ h => h) ?_ hHeld ?_; rotate_left; · (intro w hSw; (try dsimp only at hSw); go_simp <;> with_reducible rfl)) | refine skF rfl (by kernel_rfl) (by rfl) (fun _ _ _ h => h) hHeld ?_); simp only [Act.put, setF, List.setIfInBounds_toArray, List.set_cons_zero, List.set_cons_succ])
  refine tkI 5 ?_ rfl (by kernel_rfl) (by kernel_rfl) (fun _ _ _ h => h) ?_ hHeld ?_; rotate_left; (· (intro w hSw; (try dsimp only at hSw); go_simp <;> with_reducible rfl)); simp only [Act.put, List.setIfInBounds_toArray, List.set_cons_zero, List.set_cons_succ]
  refine tkI 6 ?_ rfl (by kernel_rfl) (by kernel_rfl) (fun _ _ _ h => h) ?_ hHeld ?_; rotate_left; (· (intro w hSw; (try dsimp only at hSw); go_simp <;> with_reducible rfl)); simp only [Act.put, List.setIfInBounds_toArray, List.set_cons_zero, List.set_cons_succ]
  refine tkI 7 ?_ rfl (by kernel_rfl) (by kernel_rfl) (fun _ _ _ h => h) ?_ hHeld ?_; rotate_left; (· (intro w hSw; (try dsimp only at hSw); go_simp <;> with_reducible rfl)); simp only [Act.put, List.setIfInBounds_toArray, List.set_cons_zero, List.set_cons_succ]
  refine tkI 9 ?_ rfl (by kernel_rfl) (by kernel_rfl) (fun _ _ _ h => h) ?_ hHeld ?_; rotate_left; (· (intro w hSw; (try dsimp only at hSw); go_simp <;> with_reducible rfl)); simp only [Act.put, List.setIfInBounds_toArray, List.set_cons_zero, List.set_cons_succ]
  refine tkI 10 ?_ rfl (by kernel_rfl) (by kernel_rfl) (fun _ _ _ h => h) ?_ hHeld ?_; rotate_left; (· (intro w hSw; (try dsimp only at hSw); go_simp <;> with_reducible rfl)); simp only [Act.put, List.setIfInBounds_toArray, List.set_cons_zero, List.set_cons_succ]
  refine runI 4 rfl (by kernel_rfl) (by kernel_rfl) (fun K hK => ?_)
  have HK := UC hK
  clear hK hHeld
  go_simp
  refine (UB HL _ (UB VD) zD (UB AD)).mono ?_
  rintro e w2 ⟨v2, rfl, o2, b2, m2⟩
  have k2 := block_grown m2.kept (UB KD) ((UB VD).apart (UB KD) (by decide))
  have z2 := b2.size
  clear m2
  refine (UB HK).out _ _ (cells9 k2) (fun hHeld => ?_)
  clear HK K
  simp only [List.setIfInBounds_toArray, List.set_cons_zero, List.set_cons_succ]
  refine runI 8 rfl (by kernel_rfl) (by kernel_rfl) (fun K hK => ?_)
  have HK := UC hK
  clear hK hHeld
  go_simp
  refine (UB P1 _ _ _ o2).mono ?_
  rintro e w3 ⟨v3, rfl, o3, b3⟩
  have k3 := UE b3 k2
  have z3 := b3.size
  refine (UB HK).out _ _ (cells9 k3) (fun hHeld => ?_)
  clear HK K
  simp only [List.setIfInBounds_toArray, List.set_cons_zero, List.set_cons_succ]
  refine runI 11 rfl (by kernel_rfl) (by kernel_rfl) (fun K hK => ?_)
  have HK := UC hK
  clear hK hHeld
  go_simp
  refine (UB P2 _ _ _ o3).mono ?_
  rintro e w4 ⟨v4, rfl, o4, b4⟩
  have k4 := UE b4 k3
  have z4 := b4.size
  refine (UB HK).out _ _ (cells9 k4) (fun hHeld => ?_)
  clear HK K
  simp only [List.setIfInBounds_toArray, List.set_cons_zero, List.set_cons_succ]
  refine runI 12 rfl (by kernel_rfl) (by kernel_rfl) (fun K hK => ?_)
  have HK := UC hK
  clear hK hHeld
  go_simp
  refine (UB P3 _ _ _ o4).mono ?_
  rintro e w5 ⟨v5, rfl, o5, b5⟩
  have k5 := UE b5 k4
  have z5 := b5.size
  refine (UB HK).out _ _ (cells9 k5) (fun hHeld => ?_)
  clear HK K
  simp only [List.setIfInBounds_toArray, List.set_cons_zero, List.set_cons_succ]
  refine runI 13 rfl (by kernel_rfl) (by kernel_rfl) (fun K hK => ?_)
  have HK := UC hK
  clear hK hHeld
  go_simp
  refine (UB P4 _ _ _ o5).mono ?_
  rintro e w6 ⟨v6, rfl, o6, b6⟩
  have k6 := UE b6 k5
  have z6 := b6.size
  refine (UB HK).out _ _ (cells9 k6) (fun hHeld => ?_)
  clear HK K
  simp only [List.setIfInBounds_toArray, List.set_cons_zero, List.set_cons_succ]
  repeat ((first | (refine tkF ?_ rfl (by kernel_rfl) (by rfl) (fun _ _ _ h => h) ?_ hHeld ?_; rotate_left; · (intro w hSw; (try dsimp only at hSw); go_simp <;> with_reducible rfl)) | refine skF rfl (by kernel_rfl) (by rfl) (fun _ _ _ h => h) hHeld ?_); simp only [Act.put, setF, List.setIfInBounds_toArray, List.set_cons_zero, List.set_cons_succ])
  refine wpAnyH_done (by kernel_rfl) ?_ _
  clear hHeld
  go_wp2_with fail
  go_ret
  exact ⟨_, rfl, o6.mono (by omega), ((((BD.trans b2).trans (b3.mono (by omega))).trans (b4.mono (by omega))).trans (b5.mono (by omega))).trans (b6.mono (by omega))⟩
def HasRc (w : World) (vs : List Value) (r : Rec) : Prop := ∃ vn vt vx vi, vs = cellsR vn vt vx vi r ∧ HasR w vn vt vx vi r
theorem stays_HasRc : Stays HasRc := fun h hb => by obtain ⟨vn, vt, vx, vi, h1, h2⟩ := h; exact ⟨vn, vt, vx, vi, h1, h2.below hb⟩
theorem HasRc.len {w : World} {vs : List Value} {r : Rec} (h : HasRc w vs r) : vs.length = 7 := by obtain ⟨vn, vt, vx, vi, rfl, _⟩ := h; rfl
theorem HasRc.one {w : World} {vs : List Value} {r : Rec} (h : HasRc w vs r) : ∀ u ∈ vs, u.oneCell' = true := by
 obtain ⟨vn, vt, vx, vi, rfl, h2⟩ := h
 obtain ⟨na, nc, rfl, _⟩ := h2.name.form
 obtain ⟨ta, tc, rfl, _⟩ := h2.to.form
 obtain ⟨xa, xc, rfl, _⟩ := h2.text.form
 obtain ⟨ia, ic, rfl, _⟩ := h2.nums.form
 simp [cellsR, Value.oneCell']
theorem hasRs_G {w : World} {v : Value} {rs : List Rec} (h : HasRs w v rs) : HasG 7 HasRc recZ w v rs := by
 rcases h with h | ⟨g, off, cap, hv, hlt, hl, hm, hx⟩
 ·exact .inl h
 ·refine .inr ⟨g, off, cap, hv, hlt, hl, hm, fun i hi => ?_⟩
  obtain ⟨vn, vt, vx, vi, h1, h2⟩ := hx i hi
  exact ⟨_, h1, vn, vt, vx, vi, rfl, h2⟩
theorem wrap_intS (x : Int) (h0 : 0 ≤ x) (h1 : x < 9223372036854775808) : IntKind.i64.wrap x = x := by
 have := wrap_small x.toNat (by omega)
 rwa [Int.toNat_of_nonneg h0] at this
theorem wntsB_all (b : List Int) (l : List Wnt) : wntsB b l l.length = l.foldl wntB b := by unfold wntsB; rw [List.take_length]
def allM (m : Mg) : List Rec := m.ans ++ m.aus ++ m.more
theorem bytesM_all (m : Mg) : bytesM m = wntsB (wntsB (wntsB (queB (headM m) (que1 m)) m.pres m.pres.length) m.ups m.ups.length) ((allM m).map inCl) (allM m).length := by
 have e1 : bytesM m = wntsB (wntsB (wntsB (wntsB (wntsB (queB (headM m) (que1 m)) m.pres m.pres.length) m.ups m.ups.length) (m.ans.map inCl) m.ans.length) (m.aus.map inCl) m.aus.length) (m.more.map inCl) m.more.length := rfl
 rw [e1]
 generalize wntsB (wntsB (queB (headM m) (que1 m)) m.pres m.pres.length) m.ups m.ups.length = b
 have f : ∀ (b : List Int) (l : List Rec), wntsB b (l.map inCl) l.length = (l.map inCl).foldl wntB b := fun b l => by
  have := wntsB_all b (l.map inCl)
  rwa [List.length_map] at this
 rw [f, f, f, f]
 unfold allM
 rw [List.map_append, List.map_append, List.foldl_append, List.foldl_append]
theorem info_rrM : (Tryz.prog.info? 77).map (fun i => (i.zero, i.size, i.bytes)) = some (some (.agg #[.slice none 0 0, .int .i64 0, .int .i64 0, .int .i64 0, .slice none 0 0, .slice none 0 0, .slice none 0 0]), 7, 120) := by kernel_rfl
end Go.Proofs.YtfpenlobnnlnfaaGreatDoor
