/-
  Contracts of the helpers of the laws for rows of records (szRrS, toRrS, eqRrS). Contract of a helper of the laws: rows of records that are made of what came in, and own their memory (toRrS). Contracts of the helpers of the laws for slots (szSlot, toSlot, eqSlot). Contracts of the helpers of the laws for rows of slots.
-/
import Derived.Test.YtaehfeobfkaicaaGreatCacheGetG03
import Derived.Test.YtaehfeobfkaicaaGreatCacheGetG08
import Derived.Deep.RegionHeld3
import Derived.Test.YtaehfeobfkaicaaGreatCacheGetG05
import Derived.Test.YtaehfeobfkaicaaGreatCacheGetG06
import Derived.Test.YtaehfeobfkaicaaGreatCacheGetG07
import Derived.Test.YtaehfeobfkaicaaGreatCacheGetG02
namespace Go.Proofs.YtaehfeobfkaicaaGreat
open Go.RowKit
set_option linter.unusedVariables false

theorem run_make7 {P : Program} (t e : TypeId) (zs : Array Value) (bytes : Nat) (ht : P.underlying t = some (.slice e)) (hinfo : (P.info? e).map (fun i => (i.zero, i.size, i.bytes)) = some (some (.agg zs), 7, bytes))
  (kl kc : IntKind) (n : Nat) (hbytes : bytes * n ≤ 281474976710656) (h63 : n ≤ 9223372036854775807) (w : World) :
  (Instr.makeSlice t (.int kl (n : Int)) (.int kc (n : Int))).run P w = .ok (.slice (some ⟨w.heap.size, 0, none⟩) n n) (w.alloc (.cells (madeCells zs (n * 7)) e)) := by
 obtain ⟨i, hi, hzz⟩ := Option.map_eq_some_iff.1 hinfo
 simp only [Prod.mk.injEq] at hzz
 obtain ⟨hz, hs, hb⟩ := hzz
 subst hb
 have hb' : (i.bytes : Int) * (n : Int) ≤ 281474976710656 := by
  have h : ((i.bytes * n : Nat) : Int) ≤ 281474976710656 := by omega
  rwa [Int.natCast_mul] at h
 have hr := run_make (P := P) w t e i (.agg zs) ht hi hz kl kc n n (by omega) (Int.le_refl _) hb' (by omega)
 simp only [Int.toNat_natCast, hs] at hr
 exact hr
theorem info_rr : (Tryz.prog.info? 67).map (fun i => (i.zero, i.size, i.bytes)) = some (some (.agg #[.slice none 0 0, .int .i64 0, .int .i64 0, .int .i64 0, .slice none 0 0, .slice none 0 0, .slice none 0 0]), 7, 120) := by kernel_rfl
set_option maxHeartbeats 1000000 in
set_option maxRecDepth 100000 in
theorem eqRrS_has {v v' : Value} {rs : List Rec} {w : World} (h : HasRs w v rs) (h' : HasRs w v' rs) (hl2 : ∀ i, i < rs.length → SizeR 2097152 (rs.getD i recZ)) :
  Calls Tryz.prog 13 #[v, v'] w fun e w' => e = .returned (.bool true) ∧ Below w.heap.size w w' := by
 obtain ⟨a, cap, rfl, hl, hm⟩ := h.form
 obtain ⟨a', cap', rfl, hl', hm'⟩ := h'.form
 unfold maxLen at hm hm'
 have HL := UC hl2
 clear hl2
 generalize hn : rs.length = m at *
 have HN := UC hn
 clear hn
 go_enter Tryz.func13, Tryz.ntmps13
 go_wp2
 go_loopw [5] (fun i wr => ∃ k : Nat, k ≤ m ∧ i = .int .i64 k ∧ Below w.heap.size w wr) (fun i _ => m - (intOf i).toNat)
 case atStart => exact ⟨0, Nat.zero_le _, rfl, Below.refl _ _⟩
 case round =>
  obtain ⟨k, hk, rfl, hb⟩ := hrel
  by_cases hlt : k < m
  ·obtain ⟨b, off, na, nc, ta, tc, xa, xc, ia, ic, rfl, hbl, hc, hu⟩ := (h.below hb).here (k := k) (by rw [UB HN]; exact hlt)
   obtain ⟨b', off', na', nc', ta', tc', xa', xc', ia', ic', rfl, hbl', hc', hu'⟩ := (h'.below hb).here (k := k) (by rw [UB HN]; exact hlt)
   have HLK := UC (UB HL k hlt)
   generalize rs.getD k recZ = rk at *
   have bd := UX (w := wr)
   have HU := UC (hu.below bd)
   have HU' := UC (hu'.below bd)
   have hbd := UG hb bd
   have HC := UC (UW hc hbl bd)
   have HC' := UC (UW hc' hbl' bd)
   have hbld : b < wr.drew.heap.size := hbl
   have hbld' : b' < wr.drew.heap.size := hbl'
   clear hu hu' hc hc' hb
   go_wp2_with fail
   go_region_held3 (fun w' => (w'.cell? ⟨b, off + k * 7, none⟩ = some (.slice na rk.name.length nc) ∧ w'.cell? ⟨b, off + k * 7 + 1, none⟩ = some (.int .i64 rk.type) ∧ w'.cell? ⟨b, off + k * 7 + 2, none⟩ = some (.int .i64 rk.ttl) ∧ w'.cell? ⟨b, off + k * 7 + 3, none⟩ = some (.int .i64 rk.addr) ∧ w'.cell? ⟨b, off + k * 7 + 4, none⟩ = some (.slice ta rk.to.length tc) ∧ w'.cell? ⟨b, off + k * 7 + 5, none⟩ = some (.slice xa rk.text.length xc) ∧ w'.cell? ⟨b, off + k * 7 + 6, none⟩ = some (.slice ia rk.nums.length ic)) ∧ (w'.cell? ⟨b', off' + k * 7, none⟩ = some (.slice na' rk.name.length nc') ∧ w'.cell? ⟨b', off' + k * 7 + 1, none⟩ = some (.int .i64 rk.type) ∧ w'.cell? ⟨b', off' + k * 7 + 2, none⟩ = some (.int .i64 rk.ttl) ∧ w'.cell? ⟨b', off' + k * 7 + 3, none⟩ = some (.int .i64 rk.addr) ∧ w'.cell? ⟨b', off' + k * 7 + 4, none⟩ = some (.slice ta' rk.to.length tc') ∧ w'.cell? ⟨b', off' + k * 7 + 5, none⟩ = some (.slice xa' rk.text.length xc') ∧ w'.cell? ⟨b', off' + k * 7 + 6, none⟩ = some (.slice ia' rk.nums.length ic')))
    (first | exact ⟨VH (UB HC), VH (UB HC')⟩ | exact ⟨VH (UW (UB HC) hbld b2), VH (UW (UB HC') hbld' b2)⟩)
    (first
    | (go_at_call 39; refine (eqRr_has (UB HU) (UB HU') (UB HLK)).mono ?_; rintro e w2 ⟨rfl, b2⟩))
   go_wp2
   exact ⟨⟨k + 1, by omega, by go_num, UG hbd b2⟩, by simp [intOf]; omega⟩
  ·go_wp2
   go_ret
   exact ⟨rfl, hb⟩
set_option maxHeartbeats 1000000 in
set_option maxRecDepth 100000 in
theorem toRrS_own (a : Option Addr) (cap : Nat) (rs : List Rec) (w : World) (h : LiesRs w a rs) (hl : rs.length ≤ 1048576) (hl2 : ∀ i, i < rs.length → SizeR 1048576 (rs.getD i recZ)) :
  Calls Tryz.prog 10 #[.slice a rs.length cap] w fun e w' => ∃ v, e = .returned v ∧ RowO w.heap.size w'.heap.size 67 56 5 3 w' v rs ∧ Below w.heap.size w w' := by
 have hmk := run_make7 (P := Tryz.prog) 34 67 _ 120 Tryz.underlying34 info_rr .i64 .i64 rs.length (by omega) (by omega)
 generalize hn : rs.length = m at *
 have HN := UC hn
 clear hn
 have HL := UC hl2
 clear hl2
 have F0 := UC (fillO_none w m #[.slice none 0 0, .int .i64 0, .int .i64 0, .int .i64 0, .slice none 0 0, .slice none 0 0, .slice none 0 0] 67 56 5 3 rs)
 have B0 := UC (UI (w := w) (.cells (madeCells #[.slice none 0 0, .int .i64 0, .int .i64 0, .int .i64 0, .slice none 0 0, .slice none 0 0, .slice none 0 0] (m * 7)) 67))
 go_enter Tryz.func10, Tryz.ntmps10
 go_wp2
 go_loopw [4] (fun i wr => ∃ (k : Nat), k ≤ m ∧ i = .int .i64 k ∧ FillO w.heap.size m k 67 56 5 3 wr rs ∧ Below w.heap.size w wr) (fun i _ => m - (intOf i).toNat)
 case atStart => exact ⟨0, Nat.zero_le _, rfl, UB F0, UB B0⟩
 case round =>
  clear F0 B0
  obtain ⟨k, hk, rfl, hf, hb⟩ := hrel
  by_cases hlt : k < m
  ·obtain ⟨b, off, an, cn, ato, ct, ax, cx, ai, ci, rfl, hbl, hc, hIn⟩ := (h.below hb).here (k := k) (by rw [UB HN]; exact hlt)
   have HF := UC hf
   have HI := UC hIn
   have HLK := UC (UB HL k hlt)
   obtain ⟨c0, c1, c2, c3, c4, c5, c6⟩ := VH hc
   have zf := hf.lt
   generalize hrk : rs.getD k recZ = rk at *
   have HRK := UC hrk
   clear hf hIn hc hrk
   go_wp2_with fail
   refine (toRr_any an cn ato ct ax cx ai ci rk _ (UB HI) (UB HLK)).mono ?_
   rintro e w1 ⟨vn, vt, vx, vi, rfl, o1, b1⟩
   clear c0 c1 c2 c3 c4 c5 c6
   have hb1 := UG hb b1
   have ht := ((UB HF).below b1).here hlt
   have hst := (UB HF).step b1 hlt (vn := vn) (vt := vt) (vx := vx) (vi := vi) (by rw [UB HRK]; exact o1)
   rw [UB HRK] at hst
   have HST := UC hst
   have hbs := (outside_sets w.heap.size (cellsR vn vt vx vi rk) (k * 7) w1).below hb1 (Nat.le_refl _)
   have HBS := UC hbs
   have HT := UC ht
   obtain ⟨na, nc, rfl, _⟩ := o1.hasR.name.form
   obtain ⟨ta, tc, rfl, _⟩ := o1.hasR.to.form
   obtain ⟨xa, xc, rfl, _⟩ := o1.hasR.text.form
   obtain ⟨ia, ic, rfl, _⟩ := o1.hasR.nums.form
   clear hb1 hst hbs ht o1 b1 hb
   obtain ⟨y0, y1, y2, y3, y4, y5, y6, ⟨d0, d1, d2, d3, d4, d5, d6⟩, f0, f1, f2, f3, f4, f5, f6⟩ := there_cells (UB HT)
   clear HT
   go_wp2
   exact ⟨⟨k + 1, by omega, by go_num, UB HST, UB HBS⟩, by simp [intOf]; omega⟩
  ·obtain rfl : k = m := by omega
   go_wp2
   go_ret
   have hN := UB HN
   subst hN
   exact ⟨_, rfl, hf.row rfl (by unfold maxLen; omega), hb⟩
set_option maxHeartbeats 1000000
set_option maxRecDepth 100000

theorem toSlot_own (na : Option Addr) (nc : Nat) (ra : Option Addr) (rc : Nat) (x : Slt) (w : World) (h : InS2 w na ra x) (hs : SizeSl 1048576 x) :
  Calls Tryz.prog 75 #[.agg #[.slice na x.name.length nc, .int .i64 x.type, .int .i64 x.kind, .slice ra x.rrs.length rc, .int .i64 x.rank, .int .i64 x.till, .int .i64 x.used]] w fun e w' => ∃ vn vr, e = .returned (.agg #[vn, .int .i64 x.type, .int .i64 x.kind, vr, .int .i64 x.rank, .int .i64 x.till, .int .i64 x.used]) ∧ OwnS2 67 56 5 3 w.heap.size w'.heap.size w' vn vr x ∧ Below w.heap.size w w' := by
 obtain ⟨hsz, r0, v0⟩ := box3 w (.cells #[.slice na x.name.length nc, .int .i64 x.type, .int .i64 x.kind, .slice ra x.rrs.length rc, .int .i64 x.rank, .int .i64 x.till, .int .i64 x.used] 100) #[.slice none 0 0, .int .i64 0, .int .i64 0, .slice none 0 0, .int .i64 0, .int .i64 0, .int .i64 0] #[.slice none 0 0, .int .i64 0, .int .i64 0, .slice none 0 0, .int .i64 0, .int .i64 0, .int .i64 0] 71 71
 have bb : Below w.heap.size w (((w.alloc (.cells #[.slice na x.name.length nc, .int .i64 x.type, .int .i64 x.kind, .slice ra x.rrs.length rc, .int .i64 x.rank, .int .i64 x.till, .int .i64 x.used] 100)).alloc (.cells #[.slice none 0 0, .int .i64 0, .int .i64 0, .slice none 0 0, .int .i64 0, .int .i64 0, .int .i64 0] 71)).alloc (.cells #[.slice none 0 0, .int .i64 0, .int .i64 0, .slice none 0 0, .int .i64 0, .int .i64 0, .int .i64 0] 71)) := ((UI _).alloc (UI _).size _).alloc ((UI _).alloc (UI _).size _).size _
 have k0 : (((w.alloc (.cells #[.slice na x.name.length nc, .int .i64 x.type, .int .i64 x.kind, .slice ra x.rrs.length rc, .int .i64 x.rank, .int .i64 x.till, .int .i64 x.used] 100)).alloc (.cells #[.slice none 0 0, .int .i64 0, .int .i64 0, .slice none 0 0, .int .i64 0, .int .i64 0, .int .i64 0] 71)).alloc (.cells #[.slice none 0 0, .int .i64 0, .int .i64 0, .slice none 0 0, .int .i64 0, .int .i64 0, .int .i64 0] 71)).heap[w.heap.size]? = some (.cells #[.slice na x.name.length nc, .int .i64 x.type, .int .i64 x.kind, .slice ra x.rrs.length rc, .int .i64 x.rank, .int .i64 x.till, .int .i64 x.used] 100) := UE (UI _) (UE (UI _) (heap_alloc_new w _))
 have HI := UC h
 have HS := UC hs
 have KK := UC k0
 have RR := UC r0
 have V := UC v0
 have zv := VC v0
 clear h hs r0 v0 hsz
 obtain ⟨d0, d1, d2, d3, d4, d5, d6⟩ := UJ k0
 clear k0
 go_enter Tryz.func75, Tryz.ntmps75
 go_wp2_with fail
 clear d0 d1 d2 d3 d4 d5 d6
 generalize (((w.alloc (.cells #[.slice na x.name.length nc, .int .i64 x.type, .int .i64 x.kind, .slice ra x.rrs.length rc, .int .i64 x.rank, .int .i64 x.till, .int .i64 x.used] 100)).alloc (.cells #[.slice none 0 0, .int .i64 0, .int .i64 0, .slice none 0 0, .int .i64 0, .int .i64 0, .int .i64 0] 71)).alloc (.cells #[.slice none 0 0, .int .i64 0, .int .i64 0, .slice none 0 0, .int .i64 0, .int .i64 0, .int .i64 0] 71)) = W at *
 refine (toName_any na nc x.name _ ((UB HI).below bb).name (UB HS).name (UB HS).names).mono ?_
 rintro e w1 ⟨v1, rfl, o1, b1⟩
 obtain ⟨xa, xc, rfl, _⟩ := o1.hasL.form
 replace bb := UG bb b1
 replace KK := UC (UE b1 (UB KK))
 replace RR := UC (UE b1 (UB RR))
 replace V := UC (UE b1 (UB V))
 have O1 := UC o1.here
 have z1 := b1.size
 clear o1 b1
 obtain ⟨d0, d1, d2, d3, d4, d5, d6⟩ := UJ (UB KK)
 obtain ⟨f0, f1, f2, f3, f4, f5, f6⟩ := UJ (UB V)
 obtain ⟨g0, g1, g2, g3, g4, g5, g6⟩ := VI (UB V)
 go_wp2_with fail
 clear d0 d1 d2 d3 d4 d5 d6 f0 f1 f2 f3 f4 f5 f6 g0 g1 g2 g3 g4 g5 g6
 obtain ⟨V1, u1⟩ := setA_is (c0 := .slice xa x.name.length xc) (c1 := .int .i64 x.type) (c2 := .int .i64 x.kind) (UB V)
 unfold setA at V1 u1
 generalize ((w1.setCell ⟨w.heap.size + 1 + 1, 0, none⟩ (.slice xa x.name.length xc)).setCell ⟨w.heap.size + 1 + 1, 1, none⟩ (.int .i64 x.type)).setCell ⟨w.heap.size + 1 + 1, 2, none⟩ (.int .i64 x.kind) = x1 at *
 replace V := UC V1
 replace bb := u1.below bb (by omega)
 replace KK := UC (u1.kept (UB KK) (by omega))
 replace RR := UC (u1.kept (UB RR) (by omega))
 replace O1 := UC ((UB O1).outside u1 (by omega))
 have y1 := u1.size
 clear V1 u1
 refine (toRrS_own ra rc x.rrs _ ((UB HI).below bb).rrs (UB HS).rrs (UB HS).rrss).mono ?_
 rintro e w2 ⟨v2, rfl, o2, b2⟩
 obtain ⟨ya, yc, rfl, _⟩ := o2.form
 replace bb := UG bb b2
 replace KK := UC (UE b2 (UB KK))
 replace RR := UC (UE b2 (UB RR))
 replace V := UC (UE b2 (UB V))
 replace O1 := UC ((UB O1).below b2)
 have O2 := UC o2
 have z2 := b2.size
 clear o2 b2
 obtain ⟨d0, d1, d2, d3, d4, d5, d6⟩ := UJ (UB KK)
 obtain ⟨f0, f1, f2, f3, f4, f5, f6⟩ := UJ (UB V)
 obtain ⟨g0, g1, g2, g3, g4, g5, g6⟩ := VI (UB V)
 obtain ⟨p0, p1, p2, p3, p4, p5, p6⟩ := UJ (UB RR)
 obtain ⟨q0, q1, q2, q3, q4, q5, q6⟩ := VI (UB RR)
 go_wp2_with fail
 clear d0 d1 d2 d3 d4 d5 d6 f0 f1 f2 f3 f4 f5 f6 g0 g1 g2 g3 g4 g5 g6 p0 p1 p2 p3 p4 p5 p6 q0 q1 q2 q3 q4 q5 q6
 obtain ⟨V4, u4'⟩ := setB_is (c3 := .slice ya x.rrs.length yc) (c4 := .int .i64 x.rank) (c5 := .int .i64 x.till) (c6 := .int .i64 x.used) (UB V)
 have u4 := u4'.wide (B' := w.heap.size + 1) (E' := w.heap.size + 3) (by omega) (by omega)
 have R4 := u4'.kept (UB RR) (by omega)
 unfold setB at V4 u4 u4' R4
 generalize (((w2.setCell ⟨w.heap.size + 1 + 1, 3, none⟩ (.slice ya x.rrs.length yc)).setCell ⟨w.heap.size + 1 + 1, 4, none⟩ (.int .i64 x.rank)).setCell ⟨w.heap.size + 1 + 1, 5, none⟩ (.int .i64 x.till)).setCell ⟨w.heap.size + 1 + 1, 6, none⟩ (.int .i64 x.used) = x4 at *
 obtain ⟨R5, u5⟩ := setS_is (c0 := .slice xa x.name.length xc) (c1 := .int .i64 x.type) (c2 := .int .i64 x.kind) (c3 := .slice ya x.rrs.length yc) (c4 := .int .i64 x.rank) (c5 := .int .i64 x.till) (c6 := .int .i64 x.used) R4
 have u8 := u4.trans (u5.wide (B' := w.heap.size + 1) (E' := w.heap.size + 3) (by omega) (by omega))
 have z8 := u8.size
 unfold setS at R5 u8 z8
 refine bodyPost_ret (results_cell_row rfl _ _ (w.heap.size + 1) 71 #[.slice xa x.name.length xc, .int .i64 x.type, .int .i64 x.kind, .slice ya x.rrs.length yc, .int .i64 x.rank, .int .i64 x.till, .int .i64 x.used] (0, 0) _ rfl R5 Tryz.underlying71 rfl (by kernel_rfl)) rfl ?_
 refine ⟨_, _, rfl, ⟨w1.heap.size, by omega, by omega, ?_, ?_⟩, u8.below bb (by omega)⟩
 ·exact ((UB O1).outside u8 (.inr (by omega))).wide (by omega) (by omega)
 ·exact ((UB O2).outside u8 (.inr (by omega))).wide (by omega) (by omega)

theorem eqSlot_has {vn vr vn' vr' : Value} {x : Slt} {w : World} (h : HasS2 w vn vr x) (h' : HasS2 w vn' vr' x) (hs : SizeSl 2097152 x) :
  Calls Tryz.prog 86 #[.agg #[vn, .int .i64 x.type, .int .i64 x.kind, vr, .int .i64 x.rank, .int .i64 x.till, .int .i64 x.used], .agg #[vn', .int .i64 x.type, .int .i64 x.kind, vr', .int .i64 x.rank, .int .i64 x.till, .int .i64 x.used]] w fun e w' => e = .returned (.bool true) ∧ Below w.heap.size w w' := by
 obtain ⟨na, nc, rfl, _⟩ := h.name.form
 obtain ⟨ra, rc, rfl, _⟩ := h.rrs.form
 obtain ⟨na', nc', rfl, _⟩ := h'.name.form
 obtain ⟨ra', rc', rfl, _⟩ := h'.rrs.form
 have b0 := below2 w (.cells #[.slice na x.name.length nc, .int .i64 x.type, .int .i64 x.kind, .slice ra x.rrs.length rc, .int .i64 x.rank, .int .i64 x.till, .int .i64 x.used] 71) (.cells #[.slice na' x.name.length nc', .int .i64 x.type, .int .i64 x.kind, .slice ra' x.rrs.length rc', .int .i64 x.rank, .int .i64 x.till, .int .i64 x.used] 71)
 obtain ⟨hsz, k0, x0⟩ := box2 w (.cells #[.slice na x.name.length nc, .int .i64 x.type, .int .i64 x.kind, .slice ra x.rrs.length rc, .int .i64 x.rank, .int .i64 x.till, .int .i64 x.used] 71) #[.slice na' x.name.length nc', .int .i64 x.type, .int .i64 x.kind, .slice ra' x.rrs.length rc', .int .i64 x.rank, .int .i64 x.till, .int .i64 x.used] 71
 have H := UC (h.below b0)
 have H' := UC (h'.below b0)
 have HS := UC hs
 have KK := UC k0
 have XX := UC x0
 obtain ⟨d0, d1, d2, d3, d4, d5, d6⟩ := UJ k0
 obtain ⟨f0, f1, f2, f3, f4, f5, f6⟩ := UJ x0
 clear h h' hs k0 x0 hsz
 go_enter Tryz.func86, Tryz.ntmps86
 go_wp2_with fail
 clear d0 d1 d2 d3 d4 d5 d6 f0 f1 f2 f3 f4 f5 f6
 generalize (w.alloc (.cells #[.slice na x.name.length nc, .int .i64 x.type, .int .i64 x.kind, .slice ra x.rrs.length rc, .int .i64 x.rank, .int .i64 x.till, .int .i64 x.used] 71)).alloc (.cells #[.slice na' x.name.length nc', .int .i64 x.type, .int .i64 x.kind, .slice ra' x.rrs.length rc', .int .i64 x.rank, .int .i64 x.till, .int .i64 x.used] 71) = W at *
 refine (eqName_has (UB H).name (UB H').name (UB HS).names).mono ?_
 rintro e w1 ⟨rfl, b1⟩
 replace b0 := UG b0 b1
 replace H := UC ((UB H).below b1)
 replace H' := UC ((UB H').below b1)
 replace KK := UC (UE b1 (UB KK))
 replace XX := UC (UE b1 (UB XX))
 clear b1
 obtain ⟨d0, d1, d2, d3, d4, d5, d6⟩ := UJ (UB KK)
 obtain ⟨f0, f1, f2, f3, f4, f5, f6⟩ := UJ (UB XX)
 go_wp2_with fail
 clear d0 d1 d2 d3 d4 d5 d6 f0 f1 f2 f3 f4 f5 f6
 refine (eqRrS_has (UB H).rrs (UB H').rrs (UB HS).rrss).mono ?_
 rintro e w2 ⟨rfl, b2⟩
 replace b0 := UG b0 b2
 replace KK := UC (UE b2 (UB KK))
 replace XX := UC (UE b2 (UB XX))
 clear b2
 obtain ⟨d0, d1, d2, d3, d4, d5, d6⟩ := UJ (UB KK)
 obtain ⟨f0, f1, f2, f3, f4, f5, f6⟩ := UJ (UB XX)
 go_wp2_with fail
 go_ret
 exact ⟨rfl, b0⟩
set_option maxHeartbeats 1000000
set_option maxRecDepth 100000

theorem info_Slot : (Tryz.prog.info? 71).map (fun i => (i.zero, i.size, i.bytes)) = some (some (.agg #[.slice none 0 0, .int .i64 0, .int .i64 0, .slice none 0 0, .int .i64 0, .int .i64 0, .int .i64 0]), 7, 88) := by kernel_rfl
theorem toSlotS_own (a : Option Addr) (cap : Nat) (xs : List Slt) (w : World) (h : LiesSs w a xs) (hl : xs.length ≤ 1048576) (hl2 : ∀ i, i < xs.length → SizeSl 1048576 (xs.getD i VK)) :
  Calls Tryz.prog 32 #[.slice a xs.length cap] w fun e w' => ∃ v, e = .returned v ∧ RowX 7 (OwnSl 67 56 5 3) VK w.heap.size w'.heap.size 71 w' v xs ∧ Below w.heap.size w w' := by
 have hmk := run_makeG (P := Tryz.prog) 7 28 71 _ 88 Tryz.underlying28 info_Slot .i64 .i64 xs.length (by omega) (by omega)
 generalize hn : xs.length = m at *
 have HN := UC hn
 clear hn
 have HL := UC hl2
 clear hl2
 have F0 := UC (fillX_none (c := 7) (O := OwnSl 67 56 5 3) (d := VK) w m #[.slice none 0 0, .int .i64 0, .int .i64 0, .slice none 0 0, .int .i64 0, .int .i64 0, .int .i64 0] 71 xs)
 have B0 := UC (UI (w := w) (.cells (madeCells #[.slice none 0 0, .int .i64 0, .int .i64 0, .slice none 0 0, .int .i64 0, .int .i64 0, .int .i64 0] (m * 7)) 71))
 go_enter Tryz.func32, Tryz.ntmps32
 go_wp2
 go_loopw [4] (fun i wr => ∃ (k : Nat), k ≤ m ∧ i = .int .i64 k ∧ FillX 7 (OwnSl 67 56 5 3) VK w.heap.size m k 71 wr xs ∧ Below w.heap.size w wr) (fun i _ => m - (intOf i).toNat)
 case atStart => exact ⟨0, Nat.zero_le _, rfl, UB F0, UB B0⟩
 case round =>
  clear F0 B0
  obtain ⟨k, hk, rfl, hf, hb⟩ := hrel
  by_cases hlt : k < m
  ·have hIk := (lowSs h hb)
   obtain ⟨b, off, vs, rfl, hbl, hc, na, nc, ra, rc, rfl, hIn⟩ := hIk.here (k := k) (by rw [UB HN]; exact hlt)
   clear hIk
   have HF := UC hf
   have HI := UC hIn
   have HLK := UC (UB HL k hlt)
   obtain ⟨c0, c1, c2, c3, c4, c5, c6⟩ := VH hc
   have zf := hf.lt
   generalize hrk : xs.getD k VK = rk at *
   have HRK := UC hrk
   clear hf hIn hc hrk
   go_wp2_with fail
   refine (toSlot_own na nc ra rc rk _ (UB HI) (UB HLK)).mono ?_
   rintro e w1 ⟨vn, vr, rfl, o1, b1⟩
   clear c0 c1 c2 c3 c4 c5 c6
   have hb1 := UG hb b1
   have ht := (FillX.below (ownsSl 67 56 5 3) (UB HF) b1).here hlt
   have hst := FillX.step (ownsSl 67 56 5 3) (UB HF) b1 hlt (vs := [vn, .int .i64 rk.type, .int .i64 rk.kind, vr, .int .i64 rk.rank, .int .i64 rk.till, .int .i64 rk.used]) (by rw [UB HRK]; exact ⟨vn, vr, rfl, o1⟩)
   have HST := UC hst
   have hbs := (outside_sets w.heap.size [vn, .int .i64 rk.type, .int .i64 rk.kind, vr, .int .i64 rk.rank, .int .i64 rk.till, .int .i64 rk.used] (k * 7) w1).below hb1 (Nat.le_refl _)
   have HBS := UC hbs
   have HT := UC ht
   obtain ⟨na, nc, rfl, _⟩ := o1.has.name.form
   obtain ⟨ra, rc, rfl, _⟩ := o1.has.rrs.form
   clear hb1 hst hbs ht o1 b1 hb
   obtain ⟨⟨y0, d0⟩, f0⟩ := there_cell0 (UB HT) (by omega)
   obtain ⟨⟨y1, d1⟩, f1⟩ := there_cell (UB HT) (j := 1) (by omega)
   obtain ⟨⟨y2, d2⟩, f2⟩ := there_cell (UB HT) (j := 2) (by omega)
   obtain ⟨⟨y3, d3⟩, f3⟩ := there_cell (UB HT) (j := 3) (by omega)
   obtain ⟨⟨y4, d4⟩, f4⟩ := there_cell (UB HT) (j := 4) (by omega)
   obtain ⟨⟨y5, d5⟩, f5⟩ := there_cell (UB HT) (j := 5) (by omega)
   obtain ⟨⟨y6, d6⟩, f6⟩ := there_cell (UB HT) (j := 6) (by omega)
   clear HT
   go_wp2
   exact ⟨⟨k + 1, by omega, by go_num, UB HST, UB HBS⟩, by simp [intOf]; omega⟩
  ·obtain rfl : k = m := by omega
   go_wp2
   go_ret
   have hN := UB HN
   subst hN
   exact ⟨_, rfl, FillX.row (ownsSl 67 56 5 3) hf rfl (by unfold maxLen; omega), hb⟩

theorem eqSlotS_has {v v' : Value} {xs : List Slt} {w : World} (h : HasSs w v xs) (h' : HasSs w v' xs) (hl2 : ∀ i, i < xs.length → SizeSl 2097152 (xs.getD i VK)) :
  Calls Tryz.prog 38 #[v, v'] w fun e w' => e = .returned (.bool true) ∧ Below w.heap.size w w' := by
 obtain ⟨a, cap, rfl, hl, hm⟩ := h.form
 obtain ⟨a', cap', rfl, hl', hm'⟩ := h'.form
 unfold maxLen at hm hm'
 have HL := UC hl2
 clear hl2
 generalize hn : xs.length = m at *
 have HN := UC hn
 clear hn
 go_enter Tryz.func38, Tryz.ntmps38
 go_wp2
 go_loopw [5] (fun i wr => ∃ k : Nat, k ≤ m ∧ i = .int .i64 k ∧ Below w.heap.size w wr) (fun i _ => m - (intOf i).toNat)
 case atStart => exact ⟨0, Nat.zero_le _, rfl, Below.refl _ _⟩
 case round =>
  obtain ⟨k, hk, rfl, hb⟩ := hrel
  by_cases hlt : k < m
  ·obtain ⟨b, off, vs, rfl, hbl, hc, vn, vr, rfl, hu⟩ := (VF h hb).here (k := k) (by rw [UB HN]; exact hlt)
   obtain ⟨b', off', vs', rfl, hbl', hc', vn', vr', rfl, hu'⟩ := (VF h' hb).here (k := k) (by rw [UB HN]; exact hlt)
   have HLK := UC (UB HL k hlt)
   generalize xs.getD k VK = rk at *
   obtain ⟨na, nc, rfl, _⟩ := hu.name.form
   obtain ⟨ra, rc, rfl, _⟩ := hu.rrs.form
   obtain ⟨na', nc', rfl, _⟩ := hu'.name.form
   obtain ⟨ra', rc', rfl, _⟩ := hu'.rrs.form
   have bd := UX (w := wr)
   have HU := UC (hu.below bd)
   have HU' := UC (hu'.below bd)
   have hbd := UG hb bd
   have HC := UC (UW hc hbl bd)
   have HC' := UC (UW hc' hbl' bd)
   have hbld : b < wr.drew.heap.size := hbl
   have hbld' : b' < wr.drew.heap.size := hbl'
   clear hu hu' hc hc' hb
   go_wp2_with fail
   go_region_held3 (fun w' => (w'.cell? ⟨b, off + k * 7, none⟩ = some (.slice na rk.name.length nc) ∧ w'.cell? ⟨b, off + k * 7 + 1, none⟩ = some (.int .i64 rk.type) ∧ w'.cell? ⟨b, off + k * 7 + 2, none⟩ = some (.int .i64 rk.kind) ∧ w'.cell? ⟨b, off + k * 7 + 3, none⟩ = some (.slice ra rk.rrs.length rc) ∧ w'.cell? ⟨b, off + k * 7 + 4, none⟩ = some (.int .i64 rk.rank) ∧ w'.cell? ⟨b, off + k * 7 + 5, none⟩ = some (.int .i64 rk.till) ∧ w'.cell? ⟨b, off + k * 7 + 6, none⟩ = some (.int .i64 rk.used)) ∧ (w'.cell? ⟨b', off' + k * 7, none⟩ = some (.slice na' rk.name.length nc') ∧ w'.cell? ⟨b', off' + k * 7 + 1, none⟩ = some (.int .i64 rk.type) ∧ w'.cell? ⟨b', off' + k * 7 + 2, none⟩ = some (.int .i64 rk.kind) ∧ w'.cell? ⟨b', off' + k * 7 + 3, none⟩ = some (.slice ra' rk.rrs.length rc') ∧ w'.cell? ⟨b', off' + k * 7 + 4, none⟩ = some (.int .i64 rk.rank) ∧ w'.cell? ⟨b', off' + k * 7 + 5, none⟩ = some (.int .i64 rk.till) ∧ w'.cell? ⟨b', off' + k * 7 + 6, none⟩ = some (.int .i64 rk.used)))
    (first | exact ⟨VH (UB HC), VH (UB HC')⟩ | exact ⟨VH (UW (UB HC) hbld b2), VH (UW (UB HC') hbld' b2)⟩)
    (first
    | (go_at_call 86; refine (eqSlot_has (UB HU) (UB HU') (UB HLK)).mono ?_; rintro e w2 ⟨rfl, b2⟩))
   go_wp2
   exact ⟨⟨k + 1, by omega, by go_num, UG hbd b2⟩, by simp [intOf]; omega⟩
  ·go_wp2
   go_ret
   exact ⟨rfl, hb⟩
end Go.Proofs.YtaehfeobfkaicaaGreat
