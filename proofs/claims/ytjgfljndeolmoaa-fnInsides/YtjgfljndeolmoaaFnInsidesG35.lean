/-
  Contract of the program's copyTask.
-/
import Derived.Test.YtjgfljndeolmoaaFnInsidesG25
import Derived.Test.YtjgfljndeolmoaaFnInsidesG32
import Derived.Test.YtjgfljndeolmoaaFnInsidesG34
import Derived.Deep.RegionLaw
import Derived.Deep.RegionHeld3
namespace Go.Proofs.Ytjgfljndeolmoaa
open Go.RowKit
set_option linter.unusedVariables false

/-- What several goals share is proved once. -/
theorem share {T G : Prop} (main : Hid T → G) (pf : T) : G := main (hide pf)
set_option maxHeartbeats 8000000 in
set_option maxRecDepth 100000 in
theorem copyTask_own {vf vn vz vh vr va : Value} {t : Tk} {w : World} (h : HasTk w vf vn vz vh vr va t) (hok : taskOk t = true) :
  Calls Try.prog 78 #[.agg #[.int .i64 t.state, .int .i64 t.id, vf, .int .i64 t.fst.type, vn, vz, vh, vr, .int .i64 t.turn, .int .i64 t.sends, .int .i64 t.steps, .int .i64 t.code, va]] w fun e w' => ∃ uf un uz uh ur ua, e = .returned (.agg #[.int .i64 t.state, .int .i64 t.id, uf, .int .i64 t.fst.type, un, uz, uh, ur, .int .i64 t.turn, .int .i64 t.sends, .int .i64 t.steps, .int .i64 t.code, ua]) ∧ OwnTk w.heap.size w'.heap.size w' uf un uz uh ur ua t ∧ Below w.heap.size w w' := by
 have ⟨hp, hn1, hn2, hn3, hn4, hn5, hn6, hn7, hn8⟩ := taskOk_iff.1 hok
 have hh4 : t.hints.length ≤ 4 := by unfold serversB at hn5; simp only [Bool.and_eq_true, decide_eq_true_iff] at hn5; exact hn5.2.1
 have hr4 : t.servers.length ≤ 4 := by unfold serversB at hn6; simp only [Bool.and_eq_true, decide_eq_true_iff] at hn6; exact hn6.2.1
 obtain ⟨ha12, haok⟩ := rrsOk_parts hn7
 obtain ⟨xf, yf, rfl, _⟩ := h.fst.form
 obtain ⟨xn, yn, rfl, _⟩ := h.name.form
 obtain ⟨xz, yz, rfl, _⟩ := h.zone.form
 obtain ⟨xh, yh, rfl, _⟩ := h.hints.form
 obtain ⟨xr, yr, rfl, _⟩ := h.servers.form
 obtain ⟨xa, ya, rfl, _⟩ := h.ans.form
 obtain ⟨hsz, k0, r0⟩ := box2 w (.cells #[.int .i64 t.state, .int .i64 t.id, .slice xf t.fst.name.length yf, .int .i64 t.fst.type, .slice xn t.name.length yn, .slice xz t.zone.length yz, .slice xh t.hints.length yh, .slice xr t.servers.length yr, .int .i64 t.turn, .int .i64 t.sends, .int .i64 t.steps, .int .i64 t.code, .slice xa t.ans.length ya] 48) #[.int .i64 0, .int .i64 0, .slice none 0 0, .int .i64 0, .slice none 0 0, .slice none 0 0, .slice none 0 0, .slice none 0 0, .int .i64 0, .int .i64 0, .int .i64 0, .int .i64 0, .slice none 0 0] 48
 have b0 := below2 w (.cells #[.int .i64 t.state, .int .i64 t.id, .slice xf t.fst.name.length yf, .int .i64 t.fst.type, .slice xn t.name.length yn, .slice xz t.zone.length yz, .slice xh t.hints.length yh, .slice xr t.servers.length yr, .int .i64 t.turn, .int .i64 t.sends, .int .i64 t.steps, .int .i64 t.code, .slice xa t.ans.length ya] 48) (.cells #[.int .i64 0, .int .i64 0, .slice none 0 0, .int .i64 0, .slice none 0 0, .slice none 0 0, .slice none 0 0, .slice none 0 0, .int .i64 0, .int .i64 0, .int .i64 0, .int .i64 0, .slice none 0 0] 48)
 have H0 := hide h
 have zr := block_lt r0
 have V := hide k0
 have RR := hide r0
 clear h k0 r0 hsz hok hp
 go_enter Try.func78, Try.ntmps78
 go_wp2_with fail
 generalize (w.alloc (.cells #[.int .i64 t.state, .int .i64 t.id, .slice xf t.fst.name.length yf, .int .i64 t.fst.type, .slice xn t.name.length yn, .slice xz t.zone.length yz, .slice xh t.hints.length yh, .slice xr t.servers.length yr, .int .i64 t.turn, .int .i64 t.sends, .int .i64 t.steps, .int .i64 t.code, .slice xa t.ans.length ya] 48)).alloc (.cells #[.int .i64 0, .int .i64 0, .slice none 0 0, .int .i64 0, .slice none 0 0, .slice none 0 0, .slice none 0 0, .slice none 0 0, .int .i64 0, .int .i64 0, .int .i64 0, .int .i64 0, .slice none 0 0] 48) = W at *
 have bd := below_drew (w := W)
 have bb := below_next b0 bd
 replace V := hide (block_kept bd (unhide V))
 replace RR := hide (block_kept bd (unhide RR))
 have z0 := bd.size
 clear bd b0
 obtain ⟨a0, a1, a2, a3, a4, a5, a6, a7, a8, a9, a10, a11, a12⟩ := cells13 (unhide V)
 have CQ := hide (fun (w : World) (h : HasL w (.slice xf t.fst.name.length yf) t.fst.name) => copyQuestion_has (q := t.fst) h hn1)
 have CN := hide (fun (w : World) (h : HasL w (.slice xn t.name.length yn) t.name) => copyName_has h (nameOk_parts hn3).1 (fun k hk => (labelOk_length ((nameOk_parts hn3).2 k hk)).2))
 have CZ := hide (fun (w : World) (h : HasL w (.slice xz t.zone.length yz) t.zone) => copyName_has h (nameOk_parts hn4).1 (fun k hk => (labelOk_length ((nameOk_parts hn4).2 k hk)).2))
 apply share
 case main =>
  intro HT
  go_region_law (first
   | (go_simp; go_at_call_of 114 (Value.slice xf t.fst.name.length yf); refine (unhide CQ _ ((unhide H0).below bb).fst).mono ?_; rintro e w1 ⟨v1, rfl, o1, b1⟩; obtain ⟨p1, q1, rfl, hf1⟩ := o1.hasL.form; clear hf1; have N1 := hide o1; have V1 := hide (block_kept b1 (unhide V)); have R1 := hide (block_kept b1 (unhide RR)); have bb1 := below_next bb b1; have z1 := b1.size; obtain ⟨b0, b1, b2, b3, b4, b5, b6, b7, b8, b9, b10, b11, b12⟩ := cells13 (unhide V1); clear b1 o1)
   | (go_simp; go_at_call_of 90 (Value.slice xn t.name.length yn); refine (unhide CN _ ((unhide H0).below bb1).name).mono ?_; rintro e w2 ⟨v2, rfl, o2, b2⟩; obtain ⟨p2, q2, rfl, hf2⟩ := o2.hasL.form; clear hf2; have N2 := hide o2.here; have V2 := hide (block_kept b2 (unhide V1)); have R2 := hide (block_kept b2 (unhide R1)); have bb2 := below_next bb1 b2; have z2 := b2.size; have N12 := hide ((unhide N1).below b2); obtain ⟨c0, c1, c2, c3, c4, c5, c6, c7, c8, c9, c10, c11, c12⟩ := cells13 (unhide V2); clear b2 o2)
   | (go_simp; go_at_call_of 90 (Value.slice xz t.zone.length yz); refine (unhide CZ _ ((unhide H0).below bb2).zone).mono ?_; rintro e w3 ⟨v3, rfl, o3, b3⟩; obtain ⟨p3, q3, rfl, hf3⟩ := o3.hasL.form; clear hf3; have N3 := hide o3.here; have V3 := hide (block_kept b3 (unhide V2)); have R3 := hide (block_kept b3 (unhide R2)); have bb3 := below_next bb2 b3; have z3 := b3.size; have N13 := hide ((unhide N12).below b3); have N23 := hide ((unhide N2).below b3); obtain ⟨d0, d1, d2, d3, d4, d5, d6, d7, d8, d9, d10, d11, d12⟩ := cells13 (unhide V3); obtain ⟨g0, g1, g2, g3, g4, g5, g6, g7, g8, g9, g10, g11, g12⟩ := frozen13 (unhide V3); clear b3 o3))
  all_goals
   have u4 := ((((outside_set w3 w.heap.size 2 (.slice p1 t.fst.name.length q1)).trans (outside_set _ w.heap.size 3 (.int .i64 t.fst.type))).trans (outside_set _ w.heap.size 4 (.slice p2 t.name.length q2))).trans (outside_set _ w.heap.size 5 (.slice p3 t.zone.length q3)))
   have V4 := hide (block_setAt (block_setAt (block_setAt (block_setAt (unhide V3) 2 (.slice p1 t.fst.name.length q1)) 3 (.int .i64 t.fst.type)) 4 (.slice p2 t.name.length q2)) 5 (.slice p3 t.zone.length q3))
   have R4 := hide (u4.kept (unhide R3) (by omega))
   have B4 := u4.below bb3 (Nat.le_refl _)
   have F4 : Hid (∃ s0 s1 s2 s3, w.heap.size + 2 ≤ s0 ∧ s0 ≤ s1 ∧ s1 ≤ s2 ∧ s2 ≤ s3 ∧ s3 ≤ ((((w3.setCell ⟨w.heap.size, 2, none⟩ (.slice p1 t.fst.name.length q1)).setCell ⟨w.heap.size, 3, none⟩ (.int .i64 t.fst.type)).setCell ⟨w.heap.size, 4, none⟩ (.slice p2 t.name.length q2)).setCell ⟨w.heap.size, 5, none⟩ (.slice p3 t.zone.length q3)).heap.size ∧ OwnN s0 s1 22 5 ((((w3.setCell ⟨w.heap.size, 2, none⟩ (.slice p1 t.fst.name.length q1)).setCell ⟨w.heap.size, 3, none⟩ (.int .i64 t.fst.type)).setCell ⟨w.heap.size, 4, none⟩ (.slice p2 t.name.length q2)).setCell ⟨w.heap.size, 5, none⟩ (.slice p3 t.zone.length q3)) (.slice p1 t.fst.name.length q1) t.fst.name ∧ OwnN s1 s2 22 5 ((((w3.setCell ⟨w.heap.size, 2, none⟩ (.slice p1 t.fst.name.length q1)).setCell ⟨w.heap.size, 3, none⟩ (.int .i64 t.fst.type)).setCell ⟨w.heap.size, 4, none⟩ (.slice p2 t.name.length q2)).setCell ⟨w.heap.size, 5, none⟩ (.slice p3 t.zone.length q3)) (.slice p2 t.name.length q2) t.name ∧ OwnN s2 s3 22 5 ((((w3.setCell ⟨w.heap.size, 2, none⟩ (.slice p1 t.fst.name.length q1)).setCell ⟨w.heap.size, 3, none⟩ (.int .i64 t.fst.type)).setCell ⟨w.heap.size, 4, none⟩ (.slice p2 t.name.length q2)).setCell ⟨w.heap.size, 5, none⟩ (.slice p3 t.zone.length q3)) (.slice p3 t.zone.length q3) t.zone) := hide ⟨_, _, _, _, by omega, z1, z2, z3, u4.size, (unhide N13).outside u4 (.inr (by omega)), (unhide N23).outside u4 (.inr (by omega)), (unhide N3).outside u4 (.inr (by omega))⟩
   clear u4 N1 N12 N2 N13 N23 N3 V1 V2 V3 R1 R2 R3 bb1 bb2 bb3 z1 z2 z3 b0 b1 b2 b3 b4 b5 b6 b7 b8 b9 b10 b11 b12 c0 c1 c2 c3 c4 c5 c6 c7 c8 c9 c10 c11 c12 d0 d1 d2 d3 d4 d5 d6 d7 d8 d9 d10 d11 d12 g0 g1 g2 g3 g4 g5 g6 g7 g8 g9 g10 g11 g12
   generalize (((w3.setCell ⟨w.heap.size, 2, none⟩ (.slice p1 t.fst.name.length q1)).setCell ⟨w.heap.size, 3, none⟩ (.int .i64 t.fst.type)).setCell ⟨w.heap.size, 4, none⟩ (.slice p2 t.name.length q2)).setCell ⟨w.heap.size, 5, none⟩ (.slice p3 t.zone.length q3) = X at *
   clear w1 w2 w3
   revert F4
   revert B4
   revert R4
   revert V4
   revert X
   revert q3
   revert p3
   revert q2
   revert p2
   revert q1
   revert p1
   exact unhide HT
 case pf =>
  intro p1 q1 p2 q2 p3 q3 X V4 R4 B4 F4
  clear V RR bb a0 a1 a2 a3 a4 a5 a6 a7 a8 a9 a10 a11 a12 CQ CN CZ z0
  have bd := below_drew (w := X)
  have V5 := hide (block_kept bd (unhide V4))
  have R5 := hide (block_kept bd (unhide R4))
  have B5 := below_next B4 bd
  have zx := bd.size
  have zv := block_lt (unhide V5)
  have zb := B5.size
  have F5 := unhide F4
  obtain ⟨s0, s1, s2, s3, y0, y1, y2, y3, y4, o1, o2, o3⟩ := F5
  have N1 := hide (o1.below bd)
  have N2 := hide (o2.below bd)
  have N3 := hide (o3.below bd)
  clear o1 o2 o3 bd F4 V4 R4 B4
  obtain ⟨a0, a1, a2, a3, a4, a5, a6, a7, a8, a9, a10, a11, a12⟩ := cells13 (unhide V5)
  have CH := hide (fun (w : World) (h : HasI w (.slice xh t.hints.length yh) t.hints) => clone_has h (by omega))
  have CR := hide (fun (w : World) (h : HasI w (.slice xr t.servers.length yr) t.servers) => clone_has h (by omega))
  go_wp2_with fail
  apply share
  case main =>
   intro HT
   go_region_law (first
    | (go_simp; go_at_call_of 115 (Value.slice xh t.hints.length yh); refine (unhide CH _ ((unhide H0).below B5).hints).mono ?_; rintro e w4 ⟨v4, rfl, o4, b4⟩; obtain ⟨p4, q4, rfl, hf4⟩ := o4.lies; clear hf4; have N4 := hide o4.here; have V6 := hide (block_kept b4 (unhide V5)); have R6 := hide (block_kept b4 (unhide R5)); have B6 := below_next B5 b4; have z4 := b4.size; have M1 := hide ((unhide N1).below b4); have M2 := hide ((unhide N2).below b4); have M3 := hide ((unhide N3).below b4); obtain ⟨b0, b1, b2, b3, b4, b5, b6, b7, b8, b9, b10, b11, b12⟩ := cells13 (unhide V6); clear b4 o4)
    | (go_simp; go_at_call_of 115 (Value.slice xr t.servers.length yr); refine (unhide CR _ ((unhide H0).below B6).servers).mono ?_; rintro e w5 ⟨v5, rfl, o5, b5⟩; obtain ⟨p5, q5, rfl, hf5⟩ := o5.lies; clear hf5; have N5 := hide o5.here; have V7 := hide (block_kept b5 (unhide V6)); have R7 := hide (block_kept b5 (unhide R6)); have B7 := below_next B6 b5; have z5 := b5.size; have M4 := hide ((unhide N4).below b5); have L1 := hide ((unhide M1).below b5); have L2 := hide ((unhide M2).below b5); have L3 := hide ((unhide M3).below b5); obtain ⟨d0, d1, d2, d3, d4, d5, d6, d7, d8, d9, d10, d11, d12⟩ := cells13 (unhide V7); obtain ⟨g0, g1, g2, g3, g4, g5, g6, g7, g8, g9, g10, g11, g12⟩ := frozen13 (unhide V7); clear b5 o5))
   all_goals
    have u8 := ((outside_set w5 w.heap.size 6 (.slice p4 t.hints.length q4)).trans (outside_set _ w.heap.size 7 (.slice p5 t.servers.length q5)))
    have V8 := hide (block_setAt (block_setAt (unhide V7) 6 (.slice p4 t.hints.length q4)) 7 (.slice p5 t.servers.length q5))
    have R8 := hide (u8.kept (unhide R7) (by omega))
    have B8 := u8.below B7 (Nat.le_refl _)
    have F8 : Hid (∃ s0 s1 s2 s3 s4 s5, w.heap.size + 2 ≤ s0 ∧ s0 ≤ s1 ∧ s1 ≤ s2 ∧ s2 ≤ s3 ∧ s3 ≤ s4 ∧ s4 ≤ s5 ∧ s5 ≤ ((w5.setCell ⟨w.heap.size, 6, none⟩ (.slice p4 t.hints.length q4)).setCell ⟨w.heap.size, 7, none⟩ (.slice p5 t.servers.length q5)).heap.size ∧ OwnN s0 s1 22 5 ((w5.setCell ⟨w.heap.size, 6, none⟩ (.slice p4 t.hints.length q4)).setCell ⟨w.heap.size, 7, none⟩ (.slice p5 t.servers.length q5)) (.slice p1 t.fst.name.length q1) t.fst.name ∧ OwnN s1 s2 22 5 ((w5.setCell ⟨w.heap.size, 6, none⟩ (.slice p4 t.hints.length q4)).setCell ⟨w.heap.size, 7, none⟩ (.slice p5 t.servers.length q5)) (.slice p2 t.name.length q2) t.name ∧ OwnN s2 s3 22 5 ((w5.setCell ⟨w.heap.size, 6, none⟩ (.slice p4 t.hints.length q4)).setCell ⟨w.heap.size, 7, none⟩ (.slice p5 t.servers.length q5)) (.slice p3 t.zone.length q3) t.zone ∧ OwnBI s3 s4 3 ((w5.setCell ⟨w.heap.size, 6, none⟩ (.slice p4 t.hints.length q4)).setCell ⟨w.heap.size, 7, none⟩ (.slice p5 t.servers.length q5)) (.slice p4 t.hints.length q4) t.hints ∧ OwnBI s4 s5 3 ((w5.setCell ⟨w.heap.size, 6, none⟩ (.slice p4 t.hints.length q4)).setCell ⟨w.heap.size, 7, none⟩ (.slice p5 t.servers.length q5)) (.slice p5 t.servers.length q5) t.servers) := hide ⟨s0, s1, s2, s3, w4.heap.size, w5.heap.size, y0, y1, y2, y3, by omega, z5, u8.size, (unhide L1).outside u8 (.inr (by omega)), (unhide L2).outside u8 (.inr (by omega)), (unhide L3).outside u8 (.inr (by omega)), ((unhide M4).outside u8 (.inr (by omega))).wide (by omega) (Nat.le_refl _), (unhide N5).outside u8 (.inr (by omega))⟩
    clear u8 M1 M2 M3 N4 M4 N5 L1 L2 L3 V6 V7 R6 R7 B6 B7 z4 z5 b0 b1 b2 b3 b4 b5 b6 b7 b8 b9 b10 b11 b12 d0 d1 d2 d3 d4 d5 d6 d7 d8 d9 d10 d11 d12 g0 g1 g2 g3 g4 g5 g6 g7 g8 g9 g10 g11 g12
    generalize (w5.setCell ⟨w.heap.size, 6, none⟩ (.slice p4 t.hints.length q4)).setCell ⟨w.heap.size, 7, none⟩ (.slice p5 t.servers.length q5) = X2 at *
    clear w4 w5
    revert F8
    revert B8
    revert R8
    revert V8
    revert X2
    revert q5
    revert p5
    revert q4
    revert p4
    exact unhide HT
  case pf =>
   intro p4 q4 p5 q5 X2 V8 R8 B8 F8
   clear V5 R5 B5 zx zv zb y0 y1 y2 y3 y4 N1 N2 N3 a0 a1 a2 a3 a4 a5 a6 a7 a8 a9 a10 a11 a12 CH CR
   obtain ⟨t0, t1, t2, t3, t4, t5, y0, y1, y2, y3, y4, y5, y6, o1, o2, o3, o4, o5⟩ := unhide F8
   have N1 := hide o1
   have N2 := hide o2
   have N3 := hide o3
   have N4 := hide o4
   have N5 := hide o5
   have CA := hide (copyAllR_own ((unhide H0).below B8).ans (by omega) (fun i hi => short_rec (haok i hi)))
   clear o1 o2 o3 o4 o5 F8
   obtain ⟨d0, d1, d2, d3, d4, d5, d6, d7, d8, d9, d10, d11, d12⟩ := cells13 (unhide V8)
   go_wp2_with fail
   clear d0 d1 d2 d3 d4 d5 d6 d7 d8 d9 d10 d11 d12
   refine (unhide CA).mono ?_
   rintro e w6 ⟨v6, rfl, o6, b6⟩
   obtain ⟨p6, q6, rfl, _⟩ := o6.form
   replace V8 := hide (block_kept b6 (unhide V8))
   replace R8 := hide (block_kept b6 (unhide R8))
   replace B8 := below_next B8 b6
   replace N1 := hide ((unhide N1).below b6)
   replace N2 := hide ((unhide N2).below b6)
   replace N3 := hide ((unhide N3).below b6)
   replace N4 := hide ((unhide N4).below b6)
   replace N5 := hide ((unhide N5).below b6)
   have N6 := hide o6
   have z6 := b6.size
   have zr8 := block_lt (unhide R8)
   clear b6 o6 CA
   obtain ⟨d0, d1, d2, d3, d4, d5, d6, d7, d8, d9, d10, d11, d12⟩ := cells13 (unhide V8)
   obtain ⟨g0, g1, g2, g3, g4, g5, g6, g7, g8, g9, g10, g11, g12⟩ := frozen13 (unhide V8)
   obtain ⟨p0, p1, p2, p3, p4, p5, p6, p7, p8, p9, p10, p11, p12⟩ := cells13 (unhide R8)
   obtain ⟨q0, q1, q2, q3, q4, q5, q6, q7, q8, q9, q10, q11, q12⟩ := frozen13 (unhide R8)
   go_wp2_with fail
   clear d0 d1 d2 d3 d4 d5 d6 d7 d8 d9 d10 d11 d12 g0 g1 g2 g3 g4 g5 g6 g7 g8 g9 g10 g11 g12 p0 p1 p2 p3 p4 p5 p6 p7 p8 p9 p10 p11 p12 q0 q1 q2 q3 q4 q5 q6 q7 q8 q9 q10 q11 q12
   have u7 := (outside_set w6 (w.heap.size) 12 (.slice p6 t.ans.length q6)).wide (B' := w.heap.size) (E' := w.heap.size + 2) (by omega) (by omega)
   have R7 := block_other (unhide R8) (b' := w.heap.size) (by omega) 12 (.slice p6 t.ans.length q6)
   generalize w6.setCell ⟨w.heap.size, 12, none⟩ (.slice p6 t.ans.length q6) = x7 at *
   obtain ⟨R9, u8⟩ := set13_is (c0 := .int .i64 t.state) (c1 := .int .i64 t.id) (c2 := .slice p1 t.fst.name.length q1) (c3 := .int .i64 t.fst.type) (c4 := .slice p2 t.name.length q2) (c5 := .slice p3 t.zone.length q3) (c6 := .slice p4 t.hints.length q4) (c7 := .slice p5 t.servers.length q5) (c8 := .int .i64 t.turn) (c9 := .int .i64 t.sends) (c10 := .int .i64 t.steps) (c11 := .int .i64 t.code) (c12 := .slice p6 t.ans.length q6) R7
   have u9 := u7.trans (u8.wide (B' := w.heap.size) (E' := w.heap.size + 2) (by omega) (by omega))
   have z9 := u9.size
   unfold set13 at R9 u9 z9
   refine bodyPost_ret (results_cell_row rfl _ _ (w.heap.size + 1) 48 #[.int .i64 t.state, .int .i64 t.id, .slice p1 t.fst.name.length q1, .int .i64 t.fst.type, .slice p2 t.name.length q2, .slice p3 t.zone.length q3, .slice p4 t.hints.length q4, .slice p5 t.servers.length q5, .int .i64 t.turn, .int .i64 t.sends, .int .i64 t.steps, .int .i64 t.code, .slice p6 t.ans.length q6] (0, 0) _ rfl R9 Try.underlying48 rfl (by kernel_rfl)) rfl ?_
   exact ⟨_, _, _, _, _, _, rfl, ⟨t1, t2, t3, t4, t5, by omega, by omega, by omega, by omega, by omega, by omega, ((unhide N1).outside u9 (.inr (by omega))).wide (by omega) (Nat.le_refl _), (unhide N2).outside u9 (.inr (by omega)), (unhide N3).outside u9 (.inr (by omega)), (unhide N4).outside u9 (.inr (by omega)), (unhide N5).outside u9 (.inr (by omega)), ((unhide N6).outside u9 (.inr (by omega))).wide (by omega) (by omega)⟩, u9.below B8 (Nat.le_refl _)⟩
end Go.Proofs.Ytjgfljndeolmoaa
