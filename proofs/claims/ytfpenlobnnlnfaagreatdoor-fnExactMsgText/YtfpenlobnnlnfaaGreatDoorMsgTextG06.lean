/-
  Contracts of the helpers of the laws for records (toRr). Contracts of the helpers of the laws for rows of records (szRrS, toRrS, eqRrS). Contracts of the helpers of the laws for questions. Contracts of the helpers of the laws for Want (szWant, toWant, eqWant).
-/
import Derived.Test.YtfpenlobnnlnfaaGreatDoorMsgTextG05
import Derived.Test.YtfpenlobnnlnfaaGreatDoorMsgTextG02
import Derived.Deep.RegionHeld3
import Derived.Test.YtfpenlobnnlnfaaGreatDoorMsgTextG04
import Derived.Test.YtfpenlobnnlnfaaGreatDoorMsgTextG01
namespace Go.Proofs.YtfpenlobnnlnfaaGreatDoor
open Go.RowKit
set_option linter.unusedVariables false

set_option maxHeartbeats 1000000 in
set_option maxRecDepth 100000 in
theorem toRr_any (an : Option Addr) (cn : Nat) (ato : Option Addr) (ct : Nat) (ax : Option Addr) (cx : Nat) (ai : Option Addr) (ci : Nat) (r : Rec) (w : World) (h : InR w an ato ax ai r) (hs : SizeR 1048576 r) :
  Calls Tryz.prog 41 #[(.agg #[.slice an r.name.length cn, .int .i64 r.type, .int .i64 r.ttl, .int .i64 r.addr, .slice ato r.to.length ct, .slice ax r.text.length cx, .slice ai r.nums.length ci])] w fun e w' => ∃ vn vt vx vi, e = .returned (.agg #[vn, .int .i64 r.type, .int .i64 r.ttl, .int .i64 r.addr, vt, vx, vi]) ∧ OwnR w.heap.size w'.heap.size 28 5 3 w' vn vt vx vi r ∧ Below w.heap.size w w' := by
 obtain ⟨hsz, r0, v0⟩ := box3 w (.cells #[.slice an r.name.length cn, .int .i64 r.type, .int .i64 r.ttl, .int .i64 r.addr, .slice ato r.to.length ct, .slice ax r.text.length cx, .slice ai r.nums.length ci] 71) #[.slice none 0 0, .int .i64 0, .int .i64 0, .int .i64 0, .slice none 0 0, .slice none 0 0, .slice none 0 0] #[.slice none 0 0, .int .i64 0, .int .i64 0, .int .i64 0, .slice none 0 0, .slice none 0 0, .slice none 0 0] 77 77
 have b0 : Below w.heap.size w (((w.alloc (.cells #[.slice an r.name.length cn, .int .i64 r.type, .int .i64 r.ttl, .int .i64 r.addr, .slice ato r.to.length ct, .slice ax r.text.length cx, .slice ai r.nums.length ci] 71)).alloc (.cells #[.slice none 0 0, .int .i64 0, .int .i64 0, .int .i64 0, .slice none 0 0, .slice none 0 0, .slice none 0 0] 77)).alloc (.cells #[.slice none 0 0, .int .i64 0, .int .i64 0, .int .i64 0, .slice none 0 0, .slice none 0 0, .slice none 0 0] 77)) := ((UI _).alloc (UI _).size _).alloc ((UI _).alloc (UI _).size _).size _
 have k0 : (((w.alloc (.cells #[.slice an r.name.length cn, .int .i64 r.type, .int .i64 r.ttl, .int .i64 r.addr, .slice ato r.to.length ct, .slice ax r.text.length cx, .slice ai r.nums.length ci] 71)).alloc (.cells #[.slice none 0 0, .int .i64 0, .int .i64 0, .int .i64 0, .slice none 0 0, .slice none 0 0, .slice none 0 0] 77)).alloc (.cells #[.slice none 0 0, .int .i64 0, .int .i64 0, .int .i64 0, .slice none 0 0, .slice none 0 0, .slice none 0 0] 77)).heap[w.heap.size]? = some (.cells #[.slice an r.name.length cn, .int .i64 r.type, .int .i64 r.ttl, .int .i64 r.addr, .slice ato r.to.length ct, .slice ax r.text.length cx, .slice ai r.nums.length ci] 71) := UE (UI _) (UE (UI _) (heap_alloc_new w _))
 have I0 := UC (h.below b0)
 have HS := UC hs
 have K0 := UC k0
 have R0 := UC r0
 have V0 := UC v0
 have HI := UC h
 clear h hs k0 r0 v0
 go_enter Tryz.func41, Tryz.ntmps41
 go_wp2_with fail
 generalize (((w.alloc (.cells #[.slice an r.name.length cn, .int .i64 r.type, .int .i64 r.ttl, .int .i64 r.addr, .slice ato r.to.length ct, .slice ax r.text.length cx, .slice ai r.nums.length ci] 71)).alloc (.cells #[.slice none 0 0, .int .i64 0, .int .i64 0, .int .i64 0, .slice none 0 0, .slice none 0 0, .slice none 0 0] 77)).alloc (.cells #[.slice none 0 0, .int .i64 0, .int .i64 0, .int .i64 0, .slice none 0 0, .slice none 0 0, .slice none 0 0] 77)) = W at *
 refine (toName_any an cn r.name _ (UB I0).name (UB HS).name (UB HS).names).mono ?_
 rintro e w1 ⟨v1, rfl, o1, b1⟩
 obtain ⟨n1, m1, rfl, _⟩ := o1.hasL.form
 have bb1 := UG b0 b1
 have K1 := UC (UE b1 (UB K0))
 have R1 := UC (UE b1 (UB R0))
 have V1 := UE b1 (UB V0)
 have O1 := UC o1.here
 have z1 := b1.size
 obtain ⟨d0, d1, d2, d3, d4, d5, d6⟩ := UJ (UB K1)
 obtain ⟨f0, f1, f2, f3, f4, f5, f6⟩ := UJ V1
 obtain ⟨g0, g1, g2, g3, g4, g5, g6⟩ := VI V1
 clear b0 K0 R0 V0 b1 o1 I0
 go_wp2_with fail
 clear d0 d1 d2 d3 d4 d5 d6 f0 f1 f2 f3 f4 f5 f6 g0 g1 g2 g3 g4 g5 g6
 have u2 : Outside (w.heap.size + 1 + 1) (w.heap.size + 1 + 1 + 1) w1 ((((w1.setCell ⟨w.heap.size + 1 + 1, 0, none⟩ (.slice n1 r.name.length m1)).setCell ⟨w.heap.size + 1 + 1, 1, none⟩ (.int .i64 r.type)).setCell ⟨w.heap.size + 1 + 1, 2, none⟩ (.int .i64 r.ttl)).setCell ⟨w.heap.size + 1 + 1, 3, none⟩ (.int .i64 r.addr)) := (((UT _ _ _ _).trans (UT _ _ _ _)).trans (UT _ _ _ _)).trans (UT _ _ _ _)
 have V2 : ((((w1.setCell ⟨w.heap.size + 1 + 1, 0, none⟩ (.slice n1 r.name.length m1)).setCell ⟨w.heap.size + 1 + 1, 1, none⟩ (.int .i64 r.type)).setCell ⟨w.heap.size + 1 + 1, 2, none⟩ (.int .i64 r.ttl)).setCell ⟨w.heap.size + 1 + 1, 3, none⟩ (.int .i64 r.addr)).heap[w.heap.size + 1 + 1]? = some (.cells #[.slice n1 r.name.length m1, .int .i64 r.type, .int .i64 r.ttl, .int .i64 r.addr, .slice none 0 0, .slice none 0 0, .slice none 0 0] 77) := UV (UV (UV (UV V1 0 _) 1 _) 2 _) 3 _
 generalize ((((w1.setCell ⟨w.heap.size + 1 + 1, 0, none⟩ (.slice n1 r.name.length m1)).setCell ⟨w.heap.size + 1 + 1, 1, none⟩ (.int .i64 r.type)).setCell ⟨w.heap.size + 1 + 1, 2, none⟩ (.int .i64 r.ttl)).setCell ⟨w.heap.size + 1 + 1, 3, none⟩ (.int .i64 r.addr)) = w2 at *
 have bb2 := u2.below bb1 (by omega)
 have K2 := UC (u2.kept (UB K1) (by omega))
 have R2 := UC (u2.kept (UB R1) (by omega))
 have O2 := UC ((UB O1).outside u2 (by omega))
 have z2 := u2.size
 clear bb1 K1 R1 O1 u2 V1
 refine (toName_any ato ct r.to _ ((UB HI).below bb2).to (UB HS).to (UB HS).tos).mono ?_
 rintro e w3 ⟨v3, rfl, o3, b3⟩
 obtain ⟨n2, m2, rfl, _⟩ := o3.hasL.form
 have bb3 := UG bb2 b3
 have K3 := UC (UE b3 (UB K2))
 have R3 := UC (UE b3 (UB R2))
 have V3 := UE b3 V2
 have O3 := UC ((UB O2).below b3)
 have T3 := UC o3.here
 have z3 := b3.size
 obtain ⟨d0, d1, d2, d3, d4, d5, d6⟩ := UJ (UB K3)
 obtain ⟨f0, f1, f2, f3, f4, f5, f6⟩ := UJ V3
 obtain ⟨g0, g1, g2, g3, g4, g5, g6⟩ := VI V3
 clear bb2 K2 R2 V2 b3 o3 O2
 go_wp2_with fail
 clear d0 d1 d2 d3 d4 d5 d6 f0 f1 f2 f3 f4 f5 f6 g0 g1 g2 g3 g4 g5 g6
 have u4 := UT w3 (w.heap.size + 1 + 1) 4 (.slice n2 r.to.length m2)
 have V4 : (w3.setCell ⟨w.heap.size + 1 + 1, 4, none⟩ (.slice n2 r.to.length m2)).heap[w.heap.size + 1 + 1]? = some (.cells #[.slice n1 r.name.length m1, .int .i64 r.type, .int .i64 r.ttl, .int .i64 r.addr, .slice n2 r.to.length m2, .slice none 0 0, .slice none 0 0] 77) := UV V3 4 _
 generalize (w3.setCell ⟨w.heap.size + 1 + 1, 4, none⟩ (.slice n2 r.to.length m2)) = w4 at *
 have bb4 := u4.below bb3 (by omega)
 have K4 := UC (u4.kept (UB K3) (by omega))
 have R4 := UC (u4.kept (UB R3) (by omega))
 have O4 := UC ((UB O3).outside u4 (by omega))
 have T4 := UC ((UB T3).outside u4 (by omega))
 have z4 := u4.size
 clear bb3 K3 R3 O3 T3 u4 V3
 refine (toByteS_any ax cx r.text _ ((UB HI).below bb4).text (UB HS).text).mono ?_
 rintro e w5 ⟨v5, rfl, o5, b5⟩
 obtain ⟨n3, m3, rfl, _⟩ := o5.lies
 have bb5 := UG bb4 b5
 have K5 := UC (UE b5 (UB K4))
 have R5 := UC (UE b5 (UB R4))
 have V5 := UE b5 V4
 have O5 := UC ((UB O4).below b5)
 have T5 := UC ((UB T4).below b5)
 have X5 := UC o5.here
 have z5 := b5.size
 obtain ⟨d0, d1, d2, d3, d4, d5, d6⟩ := UJ (UB K5)
 obtain ⟨f0, f1, f2, f3, f4, f5, f6⟩ := UJ V5
 obtain ⟨g0, g1, g2, g3, g4, g5, g6⟩ := VI V5
 clear bb4 K4 R4 V4 b5 o5 O4 T4
 go_wp2_with fail
 clear d0 d1 d2 d3 d4 d5 d6 f0 f1 f2 f3 f4 f5 f6 g0 g1 g2 g3 g4 g5 g6
 have u6 := UT w5 (w.heap.size + 1 + 1) 5 (.slice n3 r.text.length m3)
 have V6 : (w5.setCell ⟨w.heap.size + 1 + 1, 5, none⟩ (.slice n3 r.text.length m3)).heap[w.heap.size + 1 + 1]? = some (.cells #[.slice n1 r.name.length m1, .int .i64 r.type, .int .i64 r.ttl, .int .i64 r.addr, .slice n2 r.to.length m2, .slice n3 r.text.length m3, .slice none 0 0] 77) := UV V5 5 _
 generalize (w5.setCell ⟨w.heap.size + 1 + 1, 5, none⟩ (.slice n3 r.text.length m3)) = w6 at *
 have bb6 := u6.below bb5 (by omega)
 have R6 := UC (u6.kept (UB R5) (by omega))
 have O6 := UC ((UB O5).outside u6 (by omega))
 have T6 := UC ((UB T5).outside u6 (by omega))
 have X6 := UC ((UB X5).outside u6 (by omega))
 have z6 := u6.size
 clear bb5 K5 R5 O5 T5 X5 u6 V5
 refine (toIntS_any ai ci r.nums _ ((UB HI).below bb6).nums (UB HS).nums).mono ?_
 rintro e w7 ⟨v7, rfl, o7, b7⟩
 obtain ⟨n4, m4, rfl, _⟩ := o7.lies
 have bb7 := UG bb6 b7
 have R7 := UE b7 (UB R6)
 have V7 := UE b7 V6
 have O7 := UC ((UB O6).below b7)
 have T7 := UC ((UB T6).below b7)
 have X7 := UC ((UB X6).below b7)
 have Y7 := UC o7.here
 have z7 := b7.size
 obtain ⟨f0, f1, f2, f3, f4, f5, f6⟩ := UJ V7
 obtain ⟨g0, g1, g2, g3, g4, g5, g6⟩ := VI V7
 obtain ⟨p0, p1, p2, p3, p4, p5, p6⟩ := UJ R7
 obtain ⟨q0, q1, q2, q3, q4, q5, q6⟩ := VI R7
 clear bb6 R6 V6 b7 o7 O6 T6 X6
 go_wp2_with fail
 clear f0 f1 f2 f3 f4 f5 f6 g0 g1 g2 g3 g4 g5 g6 p0 p1 p2 p3 p4 p5 p6 q0 q1 q2 q3 q4 q5 q6
 have u8 := (UT w7 (w.heap.size + 1 + 1) 6 (.slice n4 r.nums.length m4)).wide (B' := w.heap.size + 1) (E' := w.heap.size + 3) (by omega) (by omega)
 have R8 := block_other R7 (b' := w.heap.size + 1 + 1) (by omega) 6 (.slice n4 r.nums.length m4)
 generalize w7.setCell ⟨w.heap.size + 1 + 1, 6, none⟩ (.slice n4 r.nums.length m4) = w8 at *
 obtain ⟨R9, u9⟩ := set7 (c0 := .slice n1 r.name.length m1) (c1 := .int .i64 r.type) (c2 := .int .i64 r.ttl) (c3 := .int .i64 r.addr) (c4 := .slice n2 r.to.length m2) (c5 := .slice n3 r.text.length m3) (c6 := .slice n4 r.nums.length m4) R8
 refine bodyPost_ret (results_cell_row rfl _ _ (w.heap.size + 1) 77 #[.slice n1 r.name.length m1, .int .i64 r.type, .int .i64 r.ttl, .int .i64 r.addr, .slice n2 r.to.length m2, .slice n3 r.text.length m3, .slice n4 r.nums.length m4] (0, 0) _ rfl R9 Tryz.underlying77 rfl (by kernel_rfl)) rfl ?_
 have u10 := u8.trans (u9.wide (B' := w.heap.size + 1) (E' := w.heap.size + 3) (by omega) (by omega))
 have z10 := u10.size
 exact ⟨_, _, _, _, rfl, ⟨w1.heap.size, w3.heap.size, w5.heap.size, by omega, by omega, by omega, by omega, ((UB O7).outside u10 (by omega)).wide (by omega) (by omega), ((UB T7).outside u10 (by omega)).wide (by omega) (by omega), ((UB X7).outside u10 (by omega)).wide (by omega) (by omega), ((UB Y7).outside u10 (by omega)).wide (by omega) (by omega)⟩, u10.below bb7 (by omega)⟩
theorem run_make7 {P : Program} (t e : TypeId) (zs : Array Value) (bytes : Nat) (ht : P.underlying t = some (.slice e)) (hinfo : (P.info? e).map (fun i => (i.zero, i.size, i.bytes)) = some (some (.agg zs), 7, bytes))
  (kl kc : IntKind) (n : Nat) (hbytes : bytes * n ≤ 281474976710656) (h63 : n ≤ 9223372036854775807) (w : World) :
  (Instr.makeSlice t (.int kl (n : Int)) (.int kc (n : Int))).run P w = .ok (.slice (some ⟨w.heap.size, 0, none⟩) n n) (w.alloc (.cells (madeCells zs (n * 7)) e)) := by
 obtain ⟨i, hi, hzz⟩ := Option.map_eq_some_iff.1 hinfo
 simp only [Prod.mk.injEq] at hzz
 obtain ⟨hz, hs, hb⟩ := hzz
 subst hb
 have hb' : (i.bytes : Int) * (n : Int) ≤ 281474976710656 := by
  have h : ((i.bytes * n : Nat) : Int) ≤ 281474976710656 := by omega
  rwa [Int.natCast_mul] at h
 have hr := run_make (P := P) w t e i (.agg zs) ht hi hz kl kc n n (by omega) (Int.le_refl _) hb' (by omega)
 simp only [Int.toNat_natCast, hs] at hr
 exact hr
theorem info_rr : (Tryz.prog.info? 77).map (fun i => (i.zero, i.size, i.bytes)) = some (some (.agg #[.slice none 0 0, .int .i64 0, .int .i64 0, .int .i64 0, .slice none 0 0, .slice none 0 0, .slice none 0 0]), 7, 120) := by kernel_rfl
set_option maxHeartbeats 1000000 in
set_option maxRecDepth 100000 in
theorem eqRrS_has {v v' : Value} {rs : List Rec} {w : World} (h : HasRs w v rs) (h' : HasRs w v' rs) (hl2 : ∀ i, i < rs.length → SizeR 2097152 (rs.getD i recZ)) :
  Calls Tryz.prog 29 #[v, v'] w fun e w' => e = .returned (.bool true) ∧ Below w.heap.size w w' := by
 obtain ⟨a, cap, rfl, hl, hm⟩ := h.form
 obtain ⟨a', cap', rfl, hl', hm'⟩ := h'.form
 unfold maxLen at hm hm'
 have HL := UC hl2
 clear hl2
 generalize hn : rs.length = m at *
 have HN := UC hn
 clear hn
 go_enter Tryz.func29, Tryz.ntmps29
 go_wp2
 go_loopw [5] (fun i wr => ∃ k : Nat, k ≤ m ∧ i = .int .i64 k ∧ Below w.heap.size w wr) (fun i _ => m - (intOf i).toNat)
 case atStart => exact ⟨0, Nat.zero_le _, rfl, Below.refl _ _⟩
 case round =>
  obtain ⟨k, hk, rfl, hb⟩ := hrel
  by_cases hlt : k < m
  ·obtain ⟨b, off, na, nc, ta, tc, xa, xc, ia, ic, rfl, hbl, hc, hu⟩ := (h.below hb).here (k := k) (by rw [UB HN]; exact hlt)
   obtain ⟨b', off', na', nc', ta', tc', xa', xc', ia', ic', rfl, hbl', hc', hu'⟩ := (h'.below hb).here (k := k) (by rw [UB HN]; exact hlt)
   have HLK := UC (UB HL k hlt)
   generalize rs.getD k recZ = rk at *
   have bd := UX (w := wr)
   have HU := UC (hu.below bd)
   have HU' := UC (hu'.below bd)
   have hbd := UG hb bd
   have HC := UC (UW hc hbl bd)
   have HC' := UC (UW hc' hbl' bd)
   have hbld : b < wr.drew.heap.size := hbl
   have hbld' : b' < wr.drew.heap.size := hbl'
   clear hu hu' hc hc' hb
   go_wp2_with fail
   go_region_held3 (fun w' => (w'.cell? ⟨b, off + k * 7, none⟩ = some (.slice na rk.name.length nc) ∧ w'.cell? ⟨b, off + k * 7 + 1, none⟩ = some (.int .i64 rk.type) ∧ w'.cell? ⟨b, off + k * 7 + 2, none⟩ = some (.int .i64 rk.ttl) ∧ w'.cell? ⟨b, off + k * 7 + 3, none⟩ = some (.int .i64 rk.addr) ∧ w'.cell? ⟨b, off + k * 7 + 4, none⟩ = some (.slice ta rk.to.length tc) ∧ w'.cell? ⟨b, off + k * 7 + 5, none⟩ = some (.slice xa rk.text.length xc) ∧ w'.cell? ⟨b, off + k * 7 + 6, none⟩ = some (.slice ia rk.nums.length ic)) ∧ (w'.cell? ⟨b', off' + k * 7, none⟩ = some (.slice na' rk.name.length nc') ∧ w'.cell? ⟨b', off' + k * 7 + 1, none⟩ = some (.int .i64 rk.type) ∧ w'.cell? ⟨b', off' + k * 7 + 2, none⟩ = some (.int .i64 rk.ttl) ∧ w'.cell? ⟨b', off' + k * 7 + 3, none⟩ = some (.int .i64 rk.addr) ∧ w'.cell? ⟨b', off' + k * 7 + 4, none⟩ = some (.slice ta' rk.to.length tc') ∧ w'.cell? ⟨b', off' + k * 7 + 5, none⟩ = some (.slice xa' rk.text.length xc') ∧ w'.cell? ⟨b', off' + k * 7 + 6, none⟩ = some (.slice ia' rk.nums.length ic')))
    (first | exact ⟨VH (UB HC), VH (UB HC')⟩ | exact ⟨VH (UW (UB HC) hbld b2), VH (UW (UB HC') hbld' b2)⟩)
    (first
    | (go_at_call 49; refine (eqRr_has (UB HU) (UB HU') (UB HLK)).mono ?_; rintro e w2 ⟨rfl, b2⟩))
   go_wp2
   exact ⟨⟨k + 1, by omega, by go_num, UG hbd b2⟩, by simp [intOf]; omega⟩
  ·go_wp2
   go_ret
   exact ⟨rfl, hb⟩
set_option maxHeartbeats 1000000
set_option maxRecDepth 100000


theorem szQuestion_any (a : Option Addr) (c : Nat) (q : Que) (left : Int) (w : World) (h : LiesL w a q.name) (hm : SizeQu maxLen q) (h0 : 0 ≤ left) (h1 : left ≤ 1048576) :
  Calls Tryz.prog 34 #[.agg #[.slice a q.name.length c, .int .i64 q.type], .int .i64 left] w fun e w' => (∃ y : Int, e = .returned (.int .i64 y) ∧ -1 ≤ y ∧ y ≤ left ∧ (0 ≤ y → SizeQu left.toNat q)) ∧ Below w.heap.size w w' := by
 have b0 := UI (w := w) (.cells #[.slice a q.name.length c, .int .i64 q.type] 67)
 have HC := UC (szName_any a c q.name left _ (h.below b0) hm.name hm.names h0 h1)
 clear h hm
 go_enter Tryz.func34, Tryz.ntmps34
 go_wp2_with fail
 generalize w.alloc (.cells #[.slice a q.name.length c, .int .i64 q.type] 67) = W at *
 refine (UB HC).mono ?_
 rintro e w1 ⟨⟨y1, rfl, ya1, yb1, yc1⟩, b1⟩
 have bb1 := UG b0 b1
 have Y1 := UC yc1
 clear yc1 b0 b1 HC
 by_cases n1 : y1 < 0
 ·go_wp2
  go_ret
  exact ⟨⟨-1, rfl, by omega, by omega, fun q => by omega⟩, bb1⟩
 go_wp2
 go_ret
 have p1 := UB Y1 (by omega)
 exact ⟨⟨y1, rfl, by omega, by omega, fun _ => ⟨by omega, fun i hi => by have := p1.2 i hi; omega⟩⟩, bb1⟩

theorem toQuestion_any (a : Option Addr) (c : Nat) (q : Que) (w : World) (h : LiesL w a q.name) (hs : SizeQu 1048576 q) :
  Calls Tryz.prog 40 #[.agg #[.slice a q.name.length c, .int .i64 q.type]] w fun e w' => ∃ v, e = .returned (.agg #[v, .int .i64 q.type]) ∧ OwnN w.heap.size w'.heap.size 28 5 w' v q.name ∧ Below w.heap.size w w' := by
 obtain ⟨hsz, r0, v0⟩ := box3 w (.cells #[.slice a q.name.length c, .int .i64 q.type] 67) #[.slice none 0 0, .int .i64 0] #[.slice none 0 0, .int .i64 0] 51 51
 have b0 : Below w.heap.size w (((w.alloc (.cells #[.slice a q.name.length c, .int .i64 q.type] 67)).alloc (.cells #[.slice none 0 0, .int .i64 0] 51)).alloc (.cells #[.slice none 0 0, .int .i64 0] 51)) := ((UI _).alloc (UI _).size _).alloc ((UI _).alloc (UI _).size _).size _
 have k0 : (((w.alloc (.cells #[.slice a q.name.length c, .int .i64 q.type] 67)).alloc (.cells #[.slice none 0 0, .int .i64 0] 51)).alloc (.cells #[.slice none 0 0, .int .i64 0] 51)).heap[w.heap.size]? = some (.cells #[.slice a q.name.length c, .int .i64 q.type] 67) := UE (UI _) (UE (UI _) (heap_alloc_new w _))
 have HC := UC (toName_any a c q.name _ (h.below b0) hs.name hs.names)
 have K0 := UC k0
 have R0 := UC r0
 have V0 := UC v0
 have zv := VC v0
 clear h hs k0 r0 v0 hsz
 go_enter Tryz.func40, Tryz.ntmps40
 go_wp2_with fail
 generalize (((w.alloc (.cells #[.slice a q.name.length c, .int .i64 q.type] 67)).alloc (.cells #[.slice none 0 0, .int .i64 0] 51)).alloc (.cells #[.slice none 0 0, .int .i64 0] 51)) = W at *
 refine (UB HC).mono ?_
 rintro e w1 ⟨v1, rfl, o1, b1⟩
 obtain ⟨n1, m1, rfl, _⟩ := o1.hasL.form
 have bb1 := UG b0 b1
 have K1 := UE b1 (UB K0)
 have R1 := UE b1 (UB R0)
 have V1 := UE b1 (UB V0)
 have O1 := UC o1.here
 have z1 := b1.size
 obtain ⟨d0, d1⟩ := UM K1
 obtain ⟨f0, f1⟩ := UM V1
 obtain ⟨g0, g1⟩ := frozen2 V1
 obtain ⟨p0, p1⟩ := UM R1
 obtain ⟨q0, q1⟩ := frozen2 R1
 clear b0 K0 R0 V0 b1 o1 HC
 go_wp2_with fail
 clear d0 d1 f0 f1 g0 g1 p0 p1 q0 q1
 have V2 : ((w1.setCell ⟨w.heap.size + 1 + 1, 0, none⟩ (.slice n1 q.name.length m1)).setCell ⟨w.heap.size + 1 + 1, 1, none⟩ (.int .i64 q.type)).heap[w.heap.size + 1 + 1]? = some (.cells #[.slice n1 q.name.length m1, .int .i64 q.type] 51) := UV (UV V1 0 _) 1 _
 have u2 := ((UT w1 (w.heap.size + 1 + 1) 0 (.slice n1 q.name.length m1)).trans (UT _ (w.heap.size + 1 + 1) 1 (.int .i64 q.type))).wide (B' := w.heap.size + 1) (E' := w.heap.size + 3) (by omega) (by omega)
 have R2 := block_other (block_other R1 (b' := w.heap.size + 1 + 1) (by omega) 0 (.slice n1 q.name.length m1)) (b' := w.heap.size + 1 + 1) (by omega) 1 (.int .i64 q.type)
 generalize (w1.setCell ⟨w.heap.size + 1 + 1, 0, none⟩ (.slice n1 q.name.length m1)).setCell ⟨w.heap.size + 1 + 1, 1, none⟩ (.int .i64 q.type) = w4 at *
 have R5 : ((w4.setCell ⟨w.heap.size + 1, 0, none⟩ (.slice n1 q.name.length m1)).setCell ⟨w.heap.size + 1, 1, none⟩ (.int .i64 q.type)).heap[w.heap.size + 1]? = some (.cells #[.slice n1 q.name.length m1, .int .i64 q.type] 51) := UV (UV R2 0 _) 1 _
 have u5 := ((UT w4 (w.heap.size + 1) 0 (.slice n1 q.name.length m1)).trans (UT _ (w.heap.size + 1) 1 (.int .i64 q.type))).wide (B' := w.heap.size + 1) (E' := w.heap.size + 3) (by omega) (by omega)
 refine bodyPost_ret (results_cell_row rfl _ _ (w.heap.size + 1) 51 #[.slice n1 q.name.length m1, .int .i64 q.type] (0, 0) _ rfl R5 Tryz.underlying51 rfl (by kernel_rfl)) rfl ?_
 have u6 := u2.trans u5
 have z6 := u6.size
 exact ⟨_, rfl, ((UB O1).outside u6 (by omega)).wide (by omega) (by omega), u6.below bb1 (by omega)⟩

theorem eqQuestion_has {v v' : Value} {q : Que} {w : World} (h : HasL w v q.name) (h' : HasL w v' q.name) (hs : SizeQu 2097152 q) :
  Calls Tryz.prog 48 #[.agg #[v, .int .i64 q.type], .agg #[v', .int .i64 q.type]] w fun e w' => e = .returned (.bool true) ∧ Below w.heap.size w w' := by
 obtain ⟨oa, oc, rfl, _⟩ := h.form
 obtain ⟨oa', oc', rfl, _⟩ := h'.form
 have b0 := below2 w (.cells #[.slice oa q.name.length oc, .int .i64 q.type] 51) (.cells #[.slice oa' q.name.length oc', .int .i64 q.type] 51)
 obtain ⟨hsz, k0, x0⟩ := box2 w (.cells #[.slice oa q.name.length oc, .int .i64 q.type] 51) #[.slice oa' q.name.length oc', .int .i64 q.type] 51
 have HC := UC (eqName_has (h.below b0) (h'.below b0) hs.names)
 have K0 := UC k0
 have X0 := UC x0
 clear h h' hs k0 x0 hsz
 go_enter Tryz.func48, Tryz.ntmps48
 go_wp2_with fail
 generalize (w.alloc (.cells #[.slice oa q.name.length oc, .int .i64 q.type] 51)).alloc (.cells #[.slice oa' q.name.length oc', .int .i64 q.type] 51) = W at *
 refine (UB HC).mono ?_
 rintro e w1 ⟨rfl, b1⟩
 have bb1 := UG b0 b1
 obtain ⟨d0, d1⟩ := UM (UE b1 (UB K0))
 obtain ⟨f0, f1⟩ := UM (UE b1 (UB X0))
 clear b0 K0 X0 b1 HC
 go_wp2_with fail
 go_ret
 exact ⟨rfl, bb1⟩
set_option maxHeartbeats 1000000
set_option maxRecDepth 100000

theorem OwnR.wider {B E B' E' : Nat} {el eb ei : TypeId} {w : World} {vn vt vx vi : Value} {r : Rec} (h : OwnR B E el eb ei w vn vt vx vi r) (hB : B' ≤ B) (hE : E ≤ E') : OwnR B' E' el eb ei w vn vt vx vi r := by
 obtain ⟨s1, s2, s3, a1, a2, a3, a4, h1, h2, h3, h4⟩ := h
 exact ⟨s1, s2, s3, by omega, a2, a3, by omega, h1.wide hB (Nat.le_refl _), h2, h3, h4.wide (Nat.le_refl _) hE⟩

theorem szWant_any (an : Option Addr) (cn : Nat) (ato : Option Addr) (ct : Nat) (ax : Option Addr) (cx : Nat) (ai : Option Addr) (ci : Nat) (r : Rec) (c : Int) (b : Bool) (left : Int) (w : World) (h : InR w an ato ax ai r) (hm : SizeR maxLen r) (h0 : 0 ≤ left) (h1 : left ≤ 1048576) :
  Calls Tryz.prog 36 #[.agg #[.slice an r.name.length cn, .int .i64 r.type, .int .i64 r.ttl, .int .i64 r.addr, .slice ato r.to.length ct, .slice ax r.text.length cx, .slice ai r.nums.length ci, .int .i64 c, .bool b], .int .i64 left] w fun e w' => (∃ y : Int, e = .returned (.int .i64 y) ∧ -1 ≤ y ∧ y ≤ left ∧ (0 ≤ y → SizeR left.toNat r)) ∧ Below w.heap.size w w' := by
 have b0 := UI (w := w) (.cells #[.slice an r.name.length cn, .int .i64 r.type, .int .i64 r.ttl, .int .i64 r.addr, .slice ato r.to.length ct, .slice ax r.text.length cx, .slice ai r.nums.length ci, .int .i64 c, .bool b] 74)
 have K0 := UC (heap_alloc_new w (.cells #[.slice an r.name.length cn, .int .i64 r.type, .int .i64 r.ttl, .int .i64 r.addr, .slice ato r.to.length ct, .slice ax r.text.length cx, .slice ai r.nums.length ci, .int .i64 c, .bool b] 74))
 have HZ := UC (szRr_any an cn ato ct ax cx ai ci r left _ (h.below b0) hm h0 h1)
 clear h hm
 obtain ⟨d0, d1, d2, d3, d4, d5, d6, d7, d8⟩ := cells9 (UB K0)
 go_enter Tryz.func36, Tryz.ntmps36
 go_wp2_with fail
 refine (UB HZ).mono ?_
 rintro e w1 ⟨⟨y, rfl, hr0, hr1, hr2⟩, b1⟩
 have HR := UC hr2
 clear hr2
 by_cases hneg : y < 0
 ·go_wp2_with fail
  go_ret
  exact ⟨⟨-1, rfl, by omega, by omega, fun hneg => by omega⟩, UG b0 b1⟩
 ·go_wp2_with fail
  go_ret
  exact ⟨⟨y, rfl, hr0, hr1, UB HR⟩, UG b0 b1⟩

theorem toWant_any (an : Option Addr) (cn : Nat) (ato : Option Addr) (ct : Nat) (ax : Option Addr) (cx : Nat) (ai : Option Addr) (ci : Nat) (r : Rec) (c : Int) (b : Bool) (w : World) (h : InR w an ato ax ai r) (hs : SizeR 1048576 r) :
  Calls Tryz.prog 42 #[.agg #[.slice an r.name.length cn, .int .i64 r.type, .int .i64 r.ttl, .int .i64 r.addr, .slice ato r.to.length ct, .slice ax r.text.length cx, .slice ai r.nums.length ci, .int .i64 c, .bool b]] w fun e w' => ∃ vn vt vx vi, e = .returned (.agg #[vn, .int .i64 r.type, .int .i64 r.ttl, .int .i64 r.addr, vt, vx, vi, .int .i64 c, .bool b]) ∧ OwnR w.heap.size w'.heap.size 28 5 3 w' vn vt vx vi r ∧ Below w.heap.size w w' := by
 obtain ⟨hsz, r0, v0⟩ := box3 w (.cells #[.slice an r.name.length cn, .int .i64 r.type, .int .i64 r.ttl, .int .i64 r.addr, .slice ato r.to.length ct, .slice ax r.text.length cx, .slice ai r.nums.length ci, .int .i64 c, .bool b] 74) #[.slice none 0 0, .int .i64 0, .int .i64 0, .int .i64 0, .slice none 0 0, .slice none 0 0, .slice none 0 0, .int .i64 0, .bool false] #[.slice none 0 0, .int .i64 0, .int .i64 0, .int .i64 0, .slice none 0 0, .slice none 0 0, .slice none 0 0, .int .i64 0, .bool false] 81 81
 have b0 : Below w.heap.size w (((w.alloc (.cells #[.slice an r.name.length cn, .int .i64 r.type, .int .i64 r.ttl, .int .i64 r.addr, .slice ato r.to.length ct, .slice ax r.text.length cx, .slice ai r.nums.length ci, .int .i64 c, .bool b] 74)).alloc (.cells #[.slice none 0 0, .int .i64 0, .int .i64 0, .int .i64 0, .slice none 0 0, .slice none 0 0, .slice none 0 0, .int .i64 0, .bool false] 81)).alloc (.cells #[.slice none 0 0, .int .i64 0, .int .i64 0, .int .i64 0, .slice none 0 0, .slice none 0 0, .slice none 0 0, .int .i64 0, .bool false] 81)) := ((UI _).alloc (UI _).size _).alloc ((UI _).alloc (UI _).size _).size _
 have k0 : (((w.alloc (.cells #[.slice an r.name.length cn, .int .i64 r.type, .int .i64 r.ttl, .int .i64 r.addr, .slice ato r.to.length ct, .slice ax r.text.length cx, .slice ai r.nums.length ci, .int .i64 c, .bool b] 74)).alloc (.cells #[.slice none 0 0, .int .i64 0, .int .i64 0, .int .i64 0, .slice none 0 0, .slice none 0 0, .slice none 0 0, .int .i64 0, .bool false] 81)).alloc (.cells #[.slice none 0 0, .int .i64 0, .int .i64 0, .int .i64 0, .slice none 0 0, .slice none 0 0, .slice none 0 0, .int .i64 0, .bool false] 81)).heap[w.heap.size]? = some (.cells #[.slice an r.name.length cn, .int .i64 r.type, .int .i64 r.ttl, .int .i64 r.addr, .slice ato r.to.length ct, .slice ax r.text.length cx, .slice ai r.nums.length ci, .int .i64 c, .bool b] 74) := UE (UI _) (UE (UI _) (heap_alloc_new w _))
 have HT := UC (toRr_any an cn ato ct ax cx ai ci r _ (h.below b0) hs)
 have K0 := UC k0
 have R0 := UC r0
 have V0 := UC v0
 clear h hs k0 r0 v0
 obtain ⟨d0, d1, d2, d3, d4, d5, d6, d7, d8⟩ := cells9 (UB K0)
 go_enter Tryz.func42, Tryz.ntmps42
 go_wp2_with fail
 generalize ((w.alloc (.cells #[.slice an r.name.length cn, .int .i64 r.type, .int .i64 r.ttl, .int .i64 r.addr, .slice ato r.to.length ct, .slice ax r.text.length cx, .slice ai r.nums.length ci, .int .i64 c, .bool b] 74)).alloc (.cells #[.slice none 0 0, .int .i64 0, .int .i64 0, .int .i64 0, .slice none 0 0, .slice none 0 0, .slice none 0 0, .int .i64 0, .bool false] 81)).alloc (.cells #[.slice none 0 0, .int .i64 0, .int .i64 0, .int .i64 0, .slice none 0 0, .slice none 0 0, .slice none 0 0, .int .i64 0, .bool false] 81) = W at *
 refine (UB HT).mono ?_
 rintro e w1 ⟨vn, vt, vx, vi, rfl, o1, b1⟩
 obtain ⟨n1, m1, rfl, _⟩ := o1.hasR.name.form
 obtain ⟨n2, m2, rfl, _⟩ := o1.hasR.to.form
 obtain ⟨n3, m3, rfl, _⟩ := o1.hasR.text.form
 obtain ⟨n4, m4, rfl, _⟩ := o1.hasR.nums.form
 have K1 := UC (UE b1 (UB K0))
 have R1 := UE b1 (UB R0)
 have V1 := UE b1 (UB V0)
 have O1 := UC o1
 have bb1 := UG b0 b1
 have z1 := b1.size
 clear d0 d1 d2 d3 d4 d5 d6 d7 d8 HT K0 R0 V0 o1 b0 b1
 obtain ⟨d0, d1, d2, d3, d4, d5, d6, d7, d8⟩ := cells9 (UB K1)
 obtain ⟨f0, f1, f2, f3, f4, f5, f6, f7, f8⟩ := cells9 V1
 obtain ⟨g0, g1, g2, g3, g4, g5, g6, g7, g8⟩ := frozen9 V1
 obtain ⟨p0, p1, p2, p3, p4, p5, p6, p7, p8⟩ := cells9 R1
 obtain ⟨q0, q1, q2, q3, q4, q5, q6, q7, q8⟩ := frozen9 R1
 go_wp2_with fail
 clear d0 d1 d2 d3 d4 d5 d6 d7 d8 f0 f1 f2 f3 f4 f5 f6 f7 f8 g0 g1 g2 g3 g4 g5 g6 g7 g8 p0 p1 p2 p3 p4 p5 p6 p7 p8 q0 q1 q2 q3 q4 q5 q6 q7 q8
 obtain ⟨V2, u2⟩ := set9_is (c0 := .slice n1 r.name.length m1) (c1 := .int .i64 r.type) (c2 := .int .i64 r.ttl) (c3 := .int .i64 r.addr) (c4 := .slice n2 r.to.length m2) (c5 := .slice n3 r.text.length m3) (c6 := .slice n4 r.nums.length m4) (c7 := .int .i64 c) (c8 := .bool b) V1
 have R2 := u2.kept R1 (by omega)
 obtain ⟨R3, u3⟩ := set9_is (c0 := .slice n1 r.name.length m1) (c1 := .int .i64 r.type) (c2 := .int .i64 r.ttl) (c3 := .int .i64 r.addr) (c4 := .slice n2 r.to.length m2) (c5 := .slice n3 r.text.length m3) (c6 := .slice n4 r.nums.length m4) (c7 := .int .i64 c) (c8 := .bool b) R2
 have u4 := (u2.wide (B' := w.heap.size + 1) (E' := w.heap.size + 3) (by omega) (by omega)).trans (u3.wide (B' := w.heap.size + 1) (E' := w.heap.size + 3) (by omega) (by omega))
 have z4 := u4.size
 unfold set9 at R3 u4 z4
 refine bodyPost_ret (results_cell_row rfl _ _ (w.heap.size + 1) 81 #[.slice n1 r.name.length m1, .int .i64 r.type, .int .i64 r.ttl, .int .i64 r.addr, .slice n2 r.to.length m2, .slice n3 r.text.length m3, .slice n4 r.nums.length m4, .int .i64 c, .bool b] (0, 0) _ rfl R3 Tryz.underlying81 rfl (by kernel_rfl)) rfl ?_
 exact ⟨_, _, _, _, rfl, ((UB O1).outside u4 (by omega)).wider (by omega) (by omega), u4.below bb1 (by omega)⟩

theorem eqWant_has {vn vt vx vi un ut ux ui : Value} {r : Rec} (c : Int) (b : Bool) {w : World} (h : HasR w vn vt vx vi r) (h' : HasR w un ut ux ui r) (hs : SizeR 2097152 r) :
  Calls Tryz.prog 50 #[.agg #[vn, .int .i64 r.type, .int .i64 r.ttl, .int .i64 r.addr, vt, vx, vi, .int .i64 c, .bool b], .agg #[un, .int .i64 r.type, .int .i64 r.ttl, .int .i64 r.addr, ut, ux, ui, .int .i64 c, .bool b]] w fun e w' => e = .returned (.bool true) ∧ Below w.heap.size w w' := by
 obtain ⟨na, nc, rfl, _⟩ := h.name.form
 obtain ⟨ta, tc, rfl, _⟩ := h.to.form
 obtain ⟨xa, xc, rfl, _⟩ := h.text.form
 obtain ⟨ia, ic, rfl, _⟩ := h.nums.form
 obtain ⟨na2, nc2, rfl, _⟩ := h'.name.form
 obtain ⟨ta2, tc2, rfl, _⟩ := h'.to.form
 obtain ⟨xa2, xc2, rfl, _⟩ := h'.text.form
 obtain ⟨ia2, ic2, rfl, _⟩ := h'.nums.form
 obtain ⟨hsz, k0, r0⟩ := box2 w (.cells #[.slice na r.name.length nc, .int .i64 r.type, .int .i64 r.ttl, .int .i64 r.addr, .slice ta r.to.length tc, .slice xa r.text.length xc, .slice ia r.nums.length ic, .int .i64 c, .bool b] 81) #[.slice na2 r.name.length nc2, .int .i64 r.type, .int .i64 r.ttl, .int .i64 r.addr, .slice ta2 r.to.length tc2, .slice xa2 r.text.length xc2, .slice ia2 r.nums.length ic2, .int .i64 c, .bool b] 81
 have b0 := below2 w (.cells #[.slice na r.name.length nc, .int .i64 r.type, .int .i64 r.ttl, .int .i64 r.addr, .slice ta r.to.length tc, .slice xa r.text.length xc, .slice ia r.nums.length ic, .int .i64 c, .bool b] 81) (.cells #[.slice na2 r.name.length nc2, .int .i64 r.type, .int .i64 r.ttl, .int .i64 r.addr, .slice ta2 r.to.length tc2, .slice xa2 r.text.length xc2, .slice ia2 r.nums.length ic2, .int .i64 c, .bool b] 81)
 have HE := UC (eqRr_has (h.below b0) (h'.below b0) hs)
 have K0 := UC k0
 have R0 := UC r0
 clear h h' hs k0 r0
 obtain ⟨d0, d1, d2, d3, d4, d5, d6, d7, d8⟩ := cells9 (UB K0)
 obtain ⟨f0, f1, f2, f3, f4, f5, f6, f7, f8⟩ := cells9 (UB R0)
 have dr : ∀ m : Nat, True := fun _ => trivial
 go_enter Tryz.func50, Tryz.ntmps50
 go_wp2_with fail
 generalize (w.alloc (.cells #[.slice na r.name.length nc, .int .i64 r.type, .int .i64 r.ttl, .int .i64 r.addr, .slice ta r.to.length tc, .slice xa r.text.length xc, .slice ia r.nums.length ic, .int .i64 c, .bool b] 81)).alloc (.cells #[.slice na2 r.name.length nc2, .int .i64 r.type, .int .i64 r.ttl, .int .i64 r.addr, .slice ta2 r.to.length tc2, .slice xa2 r.text.length xc2, .slice ia2 r.nums.length ic2, .int .i64 c, .bool b] 81) = W at *
 refine (UB HE).mono ?_
 rintro e w1 ⟨rfl, b1⟩
 have K1 := UC (UE b1 (UB K0))
 have R1 := UC (UE b1 (UB R0))
 have bb1 := UG b0 b1
 clear d0 d1 d2 d3 d4 d5 d6 d7 d8 f0 f1 f2 f3 f4 f5 f6 f7 f8 dr K0 R0 b0 b1 HE
 obtain ⟨d0, d1, d2, d3, d4, d5, d6, d7, d8⟩ := cells9 (UB K1)
 obtain ⟨f0, f1, f2, f3, f4, f5, f6, f7, f8⟩ := cells9 (UB R1)
 go_wp2_with fail
 go_ret
 exact ⟨rfl, bb1⟩
end Go.Proofs.YtfpenlobnnlnfaaGreatDoor
