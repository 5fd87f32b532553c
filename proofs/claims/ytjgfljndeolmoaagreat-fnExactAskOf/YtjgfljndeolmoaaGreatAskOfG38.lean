/-
  Contract of the specification's AskOf. Plain facts: what a slice has lies behind its head. No program is named here. Contracts of the byte helpers of the laws (markByteS, heldByteS): what each answers and what it leaves in memory.
-/
import Derived.Test.YtjgfljndeolmoaaGreatAskOfG35
import Derived.Test.YtjgfljndeolmoaaGreatAskOfG37
import Derived.Test.YtjgfljndeolmoaaGreatAskOfG03
import Derived.Test.YtjgfljndeolmoaaGreatAskOfG12
namespace Go.Proofs.YtjgfljndeolmoaaGreat
open Go.RowKit
set_option linter.unusedVariables false

set_option maxHeartbeats 4000000 in
set_option maxRecDepth 100000 in
theorem specAskOf_yes {vf vn vz vh vr va : Value} {t : Tk} {w : World} (h : HasTk w vf vn vz vh vr va t) (hs1 : t.hints.length ≤ 1048576) (hs2 : t.servers.length ≤ 1048576) (hn : askT t = true) :
  Calls Tryz.prog 16 #[.agg #[.int .i64 t.state, .int .i64 t.id, vf, .int .i64 t.fst.type, vn, vz, vh, vr, .int .i64 t.turn, .int .i64 t.sends, .int .i64 t.steps, .int .i64 t.code, va]] w fun e w' => ∃ uq ua ub um up uu, e = .returned (.tuple #[.int .i64 (askI t), .agg #[.int .i64 (askR t).id, .bool (askR t).reply, .int .i64 (askR t).op, .bool (askR t).auth, .int .i64 (askR t).code, uq, ua, ub, um, up, uu], .bool (askT t)]) ∧ OwnM w.heap.size w'.heap.size w' uq ua ub um up uu (askR t) ∧ Below w.heap.size w w' := by
 obtain ⟨j, hj0, hj⟩ := askT_turn hn
 have hnm := (taskOk_iff.1 (askT_parts hn).1).2.2.2.1
 obtain ⟨sb, so, yr, rfl, hsb, hsc⟩ : ∃ g off cap, vr = .slice (some ⟨g, off, none⟩) t.servers.length cap ∧ g < w.heap.size ∧ ∀ i, i < t.servers.length → w.cell? ⟨g, off + i, none⟩ = some (.int .i64 (t.servers.getD i 0)) := by
  rcases h.servers with ⟨_, e⟩ | ⟨g, off, cap, hv, hg, _, _, hc⟩
  ·rw [e] at hj
   simp at hj
  ·exact ⟨g, off, cap, hv, hg, hc⟩
 obtain ⟨xf, yf, rfl, _⟩ := h.fst.form
 obtain ⟨xn, yn, rfl, _⟩ := h.name.form
 obtain ⟨xz, yz, rfl, _⟩ := h.zone.form
 obtain ⟨xh, yh, rfl, _⟩ := h.hints.form
 obtain ⟨xa, ya, rfl, _⟩ := h.ans.form
 obtain ⟨hsz, k0, r0⟩ := box2 w (.cells #[.int .i64 t.state, .int .i64 t.id, .slice xf t.fst.name.length yf, .int .i64 t.fst.type, .slice xn t.name.length yn, .slice xz t.zone.length yz, .slice xh t.hints.length yh, .slice (some ⟨sb, so, none⟩) t.servers.length yr, .int .i64 (j : Int), .int .i64 t.sends, .int .i64 t.steps, .int .i64 t.code, .slice xa t.ans.length ya] 61) #[.int .i64 0, .bool false, .int .i64 0, .bool false, .int .i64 0, .slice none 0 0, .slice none 0 0, .slice none 0 0, .slice none 0 0, .slice none 0 0, .slice none 0 0] 37
 have b0 := below2 w (.cells #[.int .i64 t.state, .int .i64 t.id, .slice xf t.fst.name.length yf, .int .i64 t.fst.type, .slice xn t.name.length yn, .slice xz t.zone.length yz, .slice xh t.hints.length yh, .slice (some ⟨sb, so, none⟩) t.servers.length yr, .int .i64 (j : Int), .int .i64 t.sends, .int .i64 t.steps, .int .i64 t.code, .slice xa t.ans.length ya] 61) (.cells #[.int .i64 0, .bool false, .int .i64 0, .bool false, .int .i64 0, .slice none 0 0, .slice none 0 0, .slice none 0 0, .slice none 0 0, .slice none 0 0, .slice none 0 0] 37)
 have zr := block_lt r0
 have H0 := hide h
 have KK := hide k0
 have RR := hide r0
 have hcj := hsc j hj
 have eI : askI t = t.servers.getD j 0 := by
  unfold askI
  rw [hn, if_pos rfl, hj0]
  rfl
 have eR : askR t = askM t := by unfold askR; rw [hn]; rfl
 rw [eI, eR, hn, hj0]
 generalize t.servers.getD j 0 = ip at *
 obtain ⟨d0, d1, d2, d3, d4, d5, d6, d7, d8, d9, d10, d11, d12⟩ := cells13 k0
 have HJ := hide hj0
 clear k0 r0 hsz h eI eR hsc hj0
 have hjl : (j : Int) < t.servers.length := by omega
 have hT := (askT_parts hn).1
 have hq : (t.state == 1) = false := by rw [(askT_parts hn).2]; rfl
 have CL := specTaskOk_has ((unhide H0).below b0) hs1 hs2
 have CA := fun (w : World) (vf vn vz vh vr va : Value) (h : HasTk w vf vn vz vh vr va t) => l11ask_own h hnm
 rw [hT, unhide HJ] at CL
 rw [unhide HJ] at CA
 replace CA := hide CA
 go_enter Tryz.func16, Tryz.ntmps16
 go_wp2_with fail
 clear d0 d1 d2 d3 d4 d5 d6 d7 d8 d9 d10 d11 d12
 generalize (w.alloc (.cells #[.int .i64 t.state, .int .i64 t.id, .slice xf t.fst.name.length yf, .int .i64 t.fst.type, .slice xn t.name.length yn, .slice xz t.zone.length yz, .slice xh t.hints.length yh, .slice (some ⟨sb, so, none⟩) t.servers.length yr, .int .i64 (j : Int), .int .i64 t.sends, .int .i64 t.steps, .int .i64 t.code, .slice xa t.ans.length ya] 61)).alloc (.cells #[.int .i64 0, .bool false, .int .i64 0, .bool false, .int .i64 0, .slice none 0 0, .slice none 0 0, .slice none 0 0, .slice none 0 0, .slice none 0 0, .slice none 0 0] 37) = W at *
 refine CL.mono ?_
 rintro e w1 ⟨rfl, b1⟩
 replace b0 := below_next b0 b1
 replace RR := hide (block_kept b1 (unhide RR))
 replace KK := hide (block_kept b1 (unhide KK))
 have z1 := b1.size
 clear b1 CL hn hT
 have bd := below_drew (w := w1)
 have KD := hide (block_kept bd (unhide KK))
 have RD := hide (block_kept bd (unhide RR))
 obtain ⟨d0, d1, d2, d3, d4, d5, d6, d7, d8, d9, d10, d11, d12⟩ := cells13 (unhide KK)
 replace b0 := below_next b0 bd
 have HD0 := hide ((unhide H0).below b0)
 have HCJ := hide ((b0.cell (p := ⟨sb, so + j, none⟩) hsb).trans hcj)
 have zV : w1.drew.heap.size = w1.heap.size := rfl
 have zw := b0.size
 have zsb : sb < w1.drew.heap.size := by omega
 clear bd KK RR H0 hcj
 go_wp2_with fail
 clear d0 d1 d2 d3 d4 d5 d6 d7 d8 d9 d10 d11 d12
 refine startF 11 (S := (fun w' => (w'.cell? ⟨w.heap.size, 0, none⟩ = some (.int .i64 t.state) ∧ w'.cell? ⟨w.heap.size, 1, none⟩ = some (.int .i64 t.id) ∧ w'.cell? ⟨w.heap.size, 2, none⟩ = some (.slice xf t.fst.name.length yf) ∧ w'.cell? ⟨w.heap.size, 3, none⟩ = some (.int .i64 t.fst.type) ∧ w'.cell? ⟨w.heap.size, 4, none⟩ = some (.slice xn t.name.length yn) ∧ w'.cell? ⟨w.heap.size, 5, none⟩ = some (.slice xz t.zone.length yz) ∧ w'.cell? ⟨w.heap.size, 6, none⟩ = some (.slice xh t.hints.length yh) ∧ w'.cell? ⟨w.heap.size, 7, none⟩ = some (.slice (some ⟨sb, so, none⟩) t.servers.length yr) ∧ w'.cell? ⟨w.heap.size, 8, none⟩ = some (.int .i64 (j : Int)) ∧ w'.cell? ⟨w.heap.size, 9, none⟩ = some (.int .i64 t.sends) ∧ w'.cell? ⟨w.heap.size, 10, none⟩ = some (.int .i64 t.steps) ∧ w'.cell? ⟨w.heap.size, 11, none⟩ = some (.int .i64 t.code) ∧ w'.cell? ⟨w.heap.size, 12, none⟩ = some (.slice xa t.ans.length ya)) ∧ w'.cell? ⟨sb, so + j, none⟩ = some (.int .i64 ip))) (by kernel_rfl) rfl ⟨cells13 (unhide KD), unhide HCJ⟩ (fun hHeld => ?_)
 simp only [List.replicate]
 have zr2 := block_lt (unhide RD)
 clear zV
 generalize w1.drew = V at *
 repeat ((first | (refine tkF ?_ rfl (by kernel_rfl) (by rfl) (fun _ _ _ h => h) ?_ hHeld ?_; rotate_left; · (intro w hSw; (try dsimp only at hSw); go_simp <;> with_reducible rfl)) | refine skF rfl (by kernel_rfl) (by rfl) (fun _ _ _ h => h) hHeld ?_); simp only [Act.put, setF, List.setIfInBounds_toArray, List.set_cons_zero, List.set_cons_succ])
 refine runI 7 rfl (by kernel_rfl) (by kernel_rfl) (fun K hK => ?_)
 have HK := hide hK
 clear hK hHeld
 go_simp
 refine (unhide CA _ _ _ _ _ _ _ (unhide HD0)).mono ?_
 rintro e w5 ⟨v5, rfl, o5, b5⟩
 obtain ⟨n5, m5, rfl, _⟩ := o5.form
 have C5 := hide ((b5.cell (p := ⟨sb, so + j, none⟩) zsb).trans (unhide HCJ))
 refine (unhide HK).out _ _ ⟨cells13 (block_kept b5 (unhide KD)), unhide C5⟩ (fun hHeld => ?_)
 clear HK K
 simp only [List.setIfInBounds_toArray, List.set_cons_zero, List.set_cons_succ]
 repeat ((first | (refine tkF ?_ rfl (by kernel_rfl) (by rfl) (fun _ _ _ h => h) ?_ hHeld ?_; rotate_left; · (intro w hSw; (try dsimp only at hSw); go_simp <;> with_reducible rfl)) | refine skF rfl (by kernel_rfl) (by rfl) (fun _ _ _ h => h) hHeld ?_); simp only [Act.put, setF, List.setIfInBounds_toArray, List.set_cons_zero, List.set_cons_succ])
 have R5 := hide (block_kept b5 (unhide RD))
 have K5 := hide (block_kept b5 (unhide KD))
 have z5 := b5.size
 have O5 := hide o5
 replace b0 := below_next b0 b5
 clear o5 b5 KD RD HD0 CA HCJ
 obtain ⟨p0, p1, p2, p3, p4, p5, p6, p7, p8, p9, p10⟩ := cells11 (unhide R5)
 obtain ⟨q0, q1, q2, q3, q4, q5, q6, q7, q8, q9, q10⟩ := frozen11 (unhide R5)
 obtain ⟨R7, u7⟩ := set11_is (c0 := .int .i64 t.id) (c1 := .bool false) (c2 := .int .i64 0) (c3 := .bool false) (c4 := .int .i64 0) (c5 := .slice n5 1 m5) (c6 := .slice none 0 0) (c7 := .slice none 0 0) (c8 := .slice none 0 0) (c9 := .slice none 0 0) (c10 := .slice none 0 0) (unhide R5)
 unfold set11 at R7 u7
 have K7 := hide (u7.kept (unhide K5) (by omega))
 have C7 := hide (show World.cell? _ ⟨sb, so + j, none⟩ = some (.int .i64 ip) from (show ∀ (W' : World), Outside (w.heap.size + 1) (w.heap.size + 1 + 1) w5 W' → W'.cell? ⟨sb, so + j, none⟩ = some (.int .i64 ip) from fun W' u => by unfold World.cell?; rw [u.block sb (by omega) (by omega)]; exact unhide C5) _ u7)
 refine runI 9 rfl (by kernel_rfl) (by kernel_rfl) (fun K hK => ?_)
 have HK := hide hK
 clear hK hHeld
 go_simp
 refine (unhide HK).out _ _ ⟨cells13 (unhide K7), unhide C7⟩ (fun hHeld => ?_)
 clear HK K
 simp only [List.setIfInBounds_toArray, List.set_cons_zero, List.set_cons_succ]
 repeat ((first | (refine tkF ?_ rfl (by kernel_rfl) (by rfl) (fun _ _ _ h => h) ?_ hHeld ?_; rotate_left; · (intro w hSw; (try dsimp only at hSw); go_simp <;> with_reducible rfl)) | refine skF rfl (by kernel_rfl) (by rfl) (fun _ _ _ h => h) hHeld ?_); simp only [Act.put, setF, List.setIfInBounds_toArray, List.set_cons_zero, List.set_cons_succ])
 refine wpAnyH_done (by kernel_rfl) ?_ _
 clear hHeld
 clear p0 p1 p2 p3 p4 p5 p6 p7 p8 p9 p10 q0 q1 q2 q3 q4 q5 q6 q7 q8 q9 q10
 have z7 := u7.size
 have O7 := hide (RowX.outside (ownsQu 27 5) (unhide O5) u7 (by omega))
 have bb := u7.below b0 (by omega)
 go_wp2_with fail
 refine bodyPost_ret (results_tct rfl _ _ (w.heap.size + 1) 37 #[.int .i64 t.id, .bool false, .int .i64 0, .bool false, .int .i64 0, .slice n5 1 m5, .slice none 0 0, .slice none 0 0, .slice none 0 0, .slice none 0 0, .slice none 0 0] (0, 0) _ rfl R7 Tryz.underlying37 rfl (by kernel_rfl)) rfl ?_
 exact ⟨_, _, _, _, _, _, rfl, ownM_q (m := askM t) (RowX.wide (unhide O7) (by omega) z7) bb.size _ rfl rfl rfl rfl rfl rfl, bb⟩

theorem specAskOf_own {vf vn vz vh vr va : Value} {t : Tk} {w : World} (h : HasTk w vf vn vz vh vr va t) (hs1 : t.hints.length ≤ 1048576) (hs2 : t.servers.length ≤ 1048576) :
  Calls Tryz.prog 16 #[.agg #[.int .i64 t.state, .int .i64 t.id, vf, .int .i64 t.fst.type, vn, vz, vh, vr, .int .i64 t.turn, .int .i64 t.sends, .int .i64 t.steps, .int .i64 t.code, va]] w fun e w' => ∃ uq ua ub um up uu, e = .returned (.tuple #[.int .i64 (askI t), .agg #[.int .i64 (askR t).id, .bool (askR t).reply, .int .i64 (askR t).op, .bool (askR t).auth, .int .i64 (askR t).code, uq, ua, ub, um, up, uu], .bool (askT t)]) ∧ OwnM w.heap.size w'.heap.size w' uq ua ub um up uu (askR t) ∧ Below w.heap.size w w' := by
 cases hn : askT t with
 | false => have := specAskOf_no h hs1 hs2 hn; rw [hn] at this; exact this
 | true => have := specAskOf_yes h hs1 hs2 hn; rw [hn] at this; exact this
end Go.Proofs.YtjgfljndeolmoaaGreat

namespace Go.Proofs.YtjgfljndeolmoaaGreat
open Go.RowKit
set_option linter.unusedVariables false

theorem has_lies {w : World} {a : Option Addr} {n cap : Nat} {l : List Int} (h : Has w (.slice a n cap) l) (hn : l.length = n) : Lies w a l := by
 obtain ⟨a', cap', e, hl⟩ := h.form
 injection e with e1 e2 e3
 subst e1
 exact hl
theorem hasI_lies {w : World} {a : Option Addr} {n cap : Nat} {l : List Int} (h : HasI w (.slice a n cap) l) (hn : l.length = n) : LiesI w a l := by
 obtain ⟨a', cap', e, hl⟩ := h.form
 injection e with e1 e2 e3
 subst e1
 exact hl
end Go.Proofs.YtjgfljndeolmoaaGreat

namespace Go.Proofs.YtjgfljndeolmoaaGreat
open Go.RowKit
set_option linter.unusedVariables false

set_option maxHeartbeats 400000 in
set_option maxRecDepth 100000 in
theorem markByteS_some (B g cap : Nat) (k0 : Int) (l : List Int) (w : World) (h : Own B 5 w (.slice (some ⟨g, 0, none⟩) l.length cap) l) (hl : l.length ≤ 2097152) (hk0 : 0 ≤ k0) (hk1 : k0 ≤ 9000000000000000000) :
  Calls Tryz.prog 13 #[.slice (some ⟨g, 0, none⟩) l.length cap, .int .i64 k0] w fun e w' => e = .returned (.int .i64 (k0 + l.length)) ∧
   Own B 5 w' (.slice (some ⟨g, 0, none⟩) l.length cap) (marks k0 l.length) ∧ w.grownBy w' (some g) := by
 generalize hn : l.length = n at *
 have HN := hide hn
 clear hn
 go_enter Tryz.func13, Tryz.ntmps13
 go_wp2
 go_loopw [1, 5] (fun kk i wr => ∃ k : Nat, k ≤ n ∧ i = .int .i64 k ∧ kk = .int .i64 (k0 + k) ∧ wr.ownsRow B 5 1 (.slice (some ⟨g, 0, none⟩) n cap) n ((marked l k0 k).map (Value.int .u8)) ∧ w.grownBy wr (some g)) (fun _ i _ => n - (intOf i).toNat)
 case atStart => exact ⟨0, Nat.zero_le _, rfl, by simp, by rw [marked_zero]; have h1 := h; unfold Own at h1; rw [unhide HN] at h1; exact h1, ⟨rfl, rfl, rfl, Nat.le_refl _, fun _ _ _ => rfl⟩⟩
 case round =>
  obtain ⟨k, hk, rfl, rfl, ho, hg⟩ := hrel
  by_cases hlt : k < n
  ·have hc := ho.cellAt k (by omega)
   rw [map_at _ _ (by rw [marked_length, unhide HN]; exact hlt)] at hc
   have hf := ho.frozenAt k
   have HO := hide ho
   clear ho
   go_wp2
   have hst := (unhide HO).stored k (.int .u8 ((k0 + k) % 256))
   refine ⟨⟨k + 1, by omega, by go_num, by go_num, ?_, ?_⟩, by simp [intOf]; omega⟩
   ·rw [← marked_succ, List.map_set]
    exact hst.1
   ·exact grown_trans hg hst.2
  ·go_wp2
   go_ret
   obtain rfl : k = n := by omega
   refine ⟨rfl, ?_, hg⟩
   unfold Own
   rw [marks_length]
   have e : marked l k0 k = marks k0 k := by have := marked_all l k0; rw [unhide HN] at this; exact this
   rw [← e]
   exact ho

set_option maxHeartbeats 400000 in
set_option maxRecDepth 100000 in
theorem markByteS_nil (k0 : Int) (w : World) (hk0 : 0 ≤ k0) (hk1 : k0 ≤ 9000000000000000000) :
  Calls Tryz.prog 13 #[.slice none 0 0, .int .i64 k0] w fun e w' => e = .returned (.int .i64 k0) ∧ w = w' := by
 go_enter Tryz.func13, Tryz.ntmps13
 go_wp2
 go_loop [1, 5] (fun kk i => i = .int .i64 0 ∧ kk = .int .i64 k0) (fun _ i => 0)
 case atStart => exact ⟨rfl, rfl⟩
 case round =>
  obtain ⟨rfl, rfl⟩ := hrel
  go_wp2
  go_ret
  exact ⟨rfl, rfl⟩

theorem markByteS_any {B : Nat} {v : Value} {l : List Int} (k0 : Int) {w : World} (h : Own B 5 w v l) (hl : l.length ≤ 2097152) (hk0 : 0 ≤ k0) (hk1 : k0 ≤ 9000000000000000000) :
  Calls Tryz.prog 13 #[v, .int .i64 k0] w fun e w' => e = .returned (.int .i64 (k0 + l.length)) ∧ Own B 5 w' v (marks k0 l.length) ∧ w.grownBy w' v.ownBlock := by
 rcases h.form with ⟨rfl, rfl⟩ | ⟨g, cap, rfl, _⟩
 ·refine (markByteS_nil k0 w hk0 hk1).mono fun e w' ⟨he, hw⟩ => ?_
  subst hw
  exact ⟨by simpa using he, h, ⟨rfl, rfl, rfl, Nat.le_refl _, fun _ _ _ => rfl⟩⟩
 ·exact markByteS_some B g cap k0 l w h hl hk0 hk1

set_option maxHeartbeats 400000 in
set_option maxRecDepth 100000 in
theorem heldByteS_marks (a : Option Addr) (cap n : Nat) (k0 : Int) (w : World) (h : Lies w a (marks k0 n)) (hl : n ≤ 2097152) (hk0 : 0 ≤ k0) (hk1 : k0 ≤ 9000000000000000000) :
  Calls Tryz.prog 14 #[.slice a n cap, .int .i64 k0] w fun e w' => e = .returned (.int .i64 (k0 + n)) ∧ w = w' := by
 go_enter Tryz.func14, Tryz.ntmps14
 go_wp2
 go_loop [1, 5] (fun kk i => ∃ k : Nat, k ≤ n ∧ i = .int .i64 k ∧ kk = .int .i64 (k0 + k)) (fun _ i => n - (intOf i).toNat)
 case atStart => exact ⟨0, Nat.zero_le _, rfl, by simp⟩
 case round =>
  obtain ⟨k, hk, rfl, rfl⟩ := hrel
  by_cases hlt : k < n
  ·obtain ⟨b, off, rfl, hbl, hc⟩ := h.here (k := k) (by rw [marks_length]; exact hlt)
   rw [marks_getD _ _ _ hlt] at hc
   go_wp2
   exact ⟨⟨k + 1, by omega, by go_num, by go_num⟩, by simp [intOf]; omega⟩
  ·go_wp2
   go_ret
   obtain rfl : k = n := by omega
   exact ⟨rfl, rfl⟩

end Go.Proofs.YtjgfljndeolmoaaGreat
