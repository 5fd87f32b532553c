/-
  Contracts of the helpers of the laws for zones that are answers (markZone, heldZone). Contracts of helpers of the laws: zones that are made of what came in, and own their memory (toRrS, toZone); their marks (markZone). The library functions that gather and sort the keys of maps, by the contracts that lie compiled in the library, laid at this program by the shelf's own command in plain words.
-/
import Derived.Test.YtmnlhjdjjinbiaaGreatLookupG10
import Derived.Test.YtmnlhjdjjinbiaaGreatLookupG07
import Derived.Test.YtmnlhjdjjinbiaaGreatLookupG05
import Derived.Test.YtmnlhjdjjinbiaaGreatLookupG09
import Derived.Shelf.SlIter.Nil
import Derived.Shelf.SortM.Plain
import Derived.Shelf.SortM.SortNone
import Derived.Ground.GgzProg
import Derived.Ground.SlgmProg
import Derived.Test.YtmnlhjdjjinbiaaGreatProg
namespace Go.Proofs.YtmnlhjdjjinbiaaGreat
open Go.RowKit
set_option linter.unusedVariables false

set_option maxHeartbeats 2000000 in
set_option maxRecDepth 100000 in
theorem markZone_own {o : List (List Int)} {rs : List Rec} (hs : SizeZ 1048576 o rs) (k0 : Int) (hk0 : 0 ≤ k0) (hk1 : k0 ≤ 4610000000000000000) {B s E : Nat} {vo vr : Value} {w : World} (hB : B ≤ s) (hsE : s ≤ E) (hEw : E ≤ w.heap.size)
    (h1 : OwnN B s 28 5 w vo o) (h2 : RowO s E 42 28 5 3 w vr rs) :
    Calls Tryz.prog 16 #[.agg #[vo, vr], .int .i64 k0] w fun e w' => e = .returned (.int .i64 (posRs rs (pos o k0 o.length) rs.length)) ∧ OwnN B s 28 5 w' vo (markL o k0) ∧ RowO s E 42 28 5 3 w' vr (markRs rs (pos o k0 o.length) rs.length) ∧ Outside B E w w' := by
  have p1 := pos_bound' o k0 hs.name hs.names
  obtain ⟨oa, oc, rfl, _⟩ := h1.hasL.form
  obtain ⟨ra, rc, rfl, _⟩ := h2.form
  have b0 := below_alloc (w := w) (.cells #[.slice oa o.length oc, .slice ra rs.length rc] 37)
  have K0 := hide (heap_alloc_new w (.cells #[.slice oa o.length oc, .slice ra rs.length rc] 37))
  have M1 := hide (markName_any k0 (h1.below b0) hs.name hs.names hk0 (by omega))
  have R0 := hide (h2.below b0)
  have HR := hide (fun (w : World) (hh : RowO s E 42 28 5 3 w (.slice ra rs.length rc) rs) (hE : E ≤ w.heap.size) => markRrS_own hs.recs hs.count (pos o k0 o.length) (by omega) (by omega) hE hh)
  have u0 : Outside B E w (w.alloc (.cells #[.slice oa o.length oc, .slice ra rs.length rc] 37)) := Below.outside b0
  have z0 := b0.size
  clear h1 h2 b0 hs
  generalize hMR : markRs rs (pos o k0 o.length) rs.length = MR at *
  generalize hPR : posRs rs (pos o k0 o.length) rs.length = PR at *
  generalize hMO : markL o k0 = MO at *
  clear hMR hPR hMO
  generalize pos o k0 o.length = P1 at *
  go_enter Tryz.func16, Tryz.ntmps16
  obtain ⟨c0, c1⟩ := cells2 (unhide K0)
  go_wp2_with fail
  clear c0 c1
  generalize w.alloc (.cells #[.slice oa o.length oc, .slice ra rs.length rc] 37) = W at *
  refine (unhide M1).mono ?_
  rintro e w1 ⟨rfl, n1, u1⟩
  have zw := block_lt (unhide K0)
  have z1 := u1.size
  have N1 := hide n1
  have R1 := hide ((unhide R0).outside u1 (by omega))
  have K1 := hide (u1.kept (unhide K0) (by omega))
  have U1 := u0.trans (u1.wide (B' := B) (E' := E) (by omega) (by omega))
  have HR1 := hide (unhide HR _ (unhide R1) (by omega))
  obtain ⟨c0, c1⟩ := cells2 (unhide K1)
  clear n1 u1 u0 K0 R0 M1 HR
  go_wp2_with fail
  clear c0 c1
  refine (unhide HR1).mono ?_
  rintro e w2 ⟨rfl, r2, u2⟩
  have N2 := hide ((unhide N1).outside u2 (by omega))
  have R2 := hide r2
  have U2 := U1.trans (u2.wide (B' := B) (E' := E) (by omega) (by omega))
  clear r2 u2 HR1 N1
  go_wp2_with fail
  go_ret
  exact ⟨rfl, unhide N2, unhide R2, U2⟩

set_option maxHeartbeats 2000000 in
set_option maxRecDepth 100000 in
theorem heldZone_has {o : List (List Int)} {rs : List Rec} (hs : SizeZ 1048576 o rs) (k0 : Int) (hk0 : 0 ≤ k0) (hk1 : k0 ≤ 4610000000000000000) {vo vr : Value} {w : World}
    (h1 : HasL w vo (markL o k0)) (h2 : HasRs w vr (markRs rs (pos o k0 o.length) rs.length)) :
    Calls Tryz.prog 18 #[.agg #[vo, vr], .int .i64 k0] w fun e w' => e = .returned (.int .i64 (posRs rs (pos o k0 o.length) rs.length)) ∧ Below w.heap.size w w' := by
  have p1 := pos_bound' o k0 hs.name hs.names
  have p2 := posRs_bound hs.recs (pos o k0 o.length) rs.length (Nat.le_refl _)
  have hz : ((rs.length : Int)) * 2199025352707 ≤ 1048576 * 2199025352707 := by have := hs.count; omega
  obtain ⟨oa, oc, rfl, _⟩ := h1.form
  obtain ⟨ra, rc, rfl, _⟩ := h2.form
  rw [markL_length, markRs_length] at *
  have b0 := below_alloc (w := w) (.cells #[.slice oa o.length oc, .slice ra rs.length rc] 37)
  have K0 := hide (heap_alloc_new w (.cells #[.slice oa o.length oc, .slice ra rs.length rc] 37))
  have M1 := hide (heldName_has k0 (h1.below b0) hs.name hs.names hk0 (by omega))
  have R0 := hide (h2.below b0)
  have HR := hide (fun (w : World) (hh : HasRs w (.slice ra rs.length rc) (markRs rs (pos o k0 o.length) rs.length)) => heldRrS_has hs.recs hs.count (pos o k0 o.length) (by omega) (by omega) hh)
  have n1 : ¬ pos o k0 o.length < 0 := by omega
  have n2 : ¬ posRs rs (pos o k0 o.length) rs.length < 0 := by omega
  clear h1 h2 hs p1 p2 hz
  generalize markRs rs (pos o k0 o.length) rs.length = MR at *
  generalize posRs rs (pos o k0 o.length) rs.length = PR at *
  generalize pos o k0 o.length = P1 at *
  go_enter Tryz.func18, Tryz.ntmps18
  obtain ⟨c0, c1⟩ := cells2 (unhide K0)
  go_wp2_with fail
  clear c0 c1
  generalize w.alloc (.cells #[.slice oa o.length oc, .slice ra rs.length rc] 37) = W at *
  refine (unhide M1).mono ?_
  rintro e w1 ⟨rfl, b1⟩
  have bb := below_next b0 b1
  have R1 := hide ((unhide R0).below b1)
  have K1 := hide (block_kept b1 (unhide K0))
  obtain ⟨c0, c1⟩ := cells2 (unhide K1)
  clear b0 b1 R0 M1 K0
  go_wp2_with fail
  refine (unhide HR _ (unhide R1)).mono ?_
  rintro e w2 ⟨rfl, rfl⟩
  go_wp2_with fail
  go_ret
  exact ⟨rfl, bb⟩
end Go.Proofs.YtmnlhjdjjinbiaaGreat

namespace Go.Proofs.YtmnlhjdjjinbiaaGreat
open Go.RowKit
set_option linter.unusedVariables false

set_option maxHeartbeats 1000000 in
set_option maxRecDepth 100000 in
theorem toRrS_own (a : Option Addr) (cap : Nat) (rs : List Rec) (w : World) (h : LiesRs w a rs) (hl : rs.length ≤ 1048576) (hl2 : ∀ i, i < rs.length → SizeR 1048576 (rs.getD i recZ)) :
    Calls Tryz.prog 43 #[.slice a rs.length cap] w fun e w' => ∃ v, e = .returned v ∧ RowO w.heap.size w'.heap.size 42 28 5 3 w' v rs ∧ Below w.heap.size w w' := by
  have hmk := run_make7 (P := Tryz.prog) 35 42 _ 120 Tryz.underlying35 info_rr .i64 .i64 rs.length (by omega) (by omega)
  generalize hn : rs.length = m at *
  have HN := hide hn
  clear hn
  have HL := hide hl2
  clear hl2
  have F0 := hide (fillO_none w m #[.slice none 0 0, .int .i64 0, .int .i64 0, .int .i64 0, .slice none 0 0, .slice none 0 0, .slice none 0 0] 42 28 5 3 rs)
  have B0 := hide (below_alloc (w := w) (.cells (madeCells #[.slice none 0 0, .int .i64 0, .int .i64 0, .int .i64 0, .slice none 0 0, .slice none 0 0, .slice none 0 0] (m * 7)) 42))
  go_enter Tryz.func43, Tryz.ntmps43
  go_wp2
  go_loopw [4] (fun i wr => ∃ (k : Nat), k ≤ m ∧ i = .int .i64 k ∧ FillO w.heap.size m k 42 28 5 3 wr rs ∧ Below w.heap.size w wr) (fun i _ => m - (intOf i).toNat)
  case atStart => exact ⟨0, Nat.zero_le _, rfl, unhide F0, unhide B0⟩
  case round =>
    clear F0 B0
    obtain ⟨k, hk, rfl, hf, hb⟩ := hrel
    by_cases hlt : k < m
    · obtain ⟨b, off, an, cn, ato, ct, ax, cx, ai, ci, rfl, hbl, hc, hIn⟩ := (h.below hb).here (k := k) (by rw [unhide HN]; exact hlt)
      have HF := hide hf
      have HI := hide hIn
      have HLK := hide (unhide HL k hlt)
      obtain ⟨c0, c1, c2, c3, c4, c5, c6⟩ := range7 hc
      have zf := hf.lt
      generalize hrk : rs.getD k recZ = rk at *
      have HRK := hide hrk
      clear hf hIn hc hrk
      go_wp2_with fail
      refine (toRr_any an cn ato ct ax cx ai ci rk _ (unhide HI) (unhide HLK)).mono ?_
      rintro e w1 ⟨vn, vt, vx, vi, rfl, o1, b1⟩
      clear c0 c1 c2 c3 c4 c5 c6
      have hb1 := below_next hb b1
      have ht := ((unhide HF).below b1).here hlt
      have hst := (unhide HF).step b1 hlt (vn := vn) (vt := vt) (vx := vx) (vi := vi) (by rw [unhide HRK]; exact o1)
      rw [unhide HRK] at hst
      have HST := hide hst
      have hbs := (outside_sets w.heap.size (cellsR vn vt vx vi rk) (k * 7) w1).below hb1 (Nat.le_refl _)
      have HBS := hide hbs
      have HT := hide ht
      obtain ⟨na, nc, rfl, _⟩ := o1.hasR.name.form
      obtain ⟨ta, tc, rfl, _⟩ := o1.hasR.to.form
      obtain ⟨xa, xc, rfl, _⟩ := o1.hasR.text.form
      obtain ⟨ia, ic, rfl, _⟩ := o1.hasR.nums.form
      clear hb1 hst hbs ht o1 b1 hb
      obtain ⟨y0, y1, y2, y3, y4, y5, y6, ⟨d0, d1, d2, d3, d4, d5, d6⟩, f0, f1, f2, f3, f4, f5, f6⟩ := there_cells (unhide HT)
      clear HT
      go_wp2
      exact ⟨⟨k + 1, by omega, by go_num, unhide HST, unhide HBS⟩, by simp [intOf]; omega⟩
    · obtain rfl : k = m := by omega
      go_wp2
      go_ret
      have hN := unhide HN
      subst hN
      exact ⟨_, rfl, hf.row rfl (by unfold maxLen; omega), hb⟩

set_option maxHeartbeats 1000000 in
set_option maxRecDepth 100000 in
theorem toZone_own (ao : Option Addr) (co : Nat) (ar : Option Addr) (cr : Nat) (o : List (List Int)) (rs : List Rec) (w : World) (h : InZ w ao ar o rs) (hs : SizeZ 1048576 o rs) :
    Calls Tryz.prog 11 #[.agg #[.slice ao o.length co, .slice ar rs.length cr]] w fun e w' => ∃ vo vr, e = .returned (.agg #[vo, vr]) ∧ OwnZ w.heap.size w'.heap.size w' vo vr o rs ∧ Below w.heap.size w w' := by
  obtain ⟨hsz, r0, v0⟩ := box3 w (.cells #[.slice ao o.length co, .slice ar rs.length cr] 27) #[.slice none 0 0, .slice none 0 0] #[.slice none 0 0, .slice none 0 0] 37 37
  have b0 : Below w.heap.size w (((w.alloc (.cells #[.slice ao o.length co, .slice ar rs.length cr] 27)).alloc (.cells #[.slice none 0 0, .slice none 0 0] 37)).alloc (.cells #[.slice none 0 0, .slice none 0 0] 37)) := ((below_alloc _).alloc (below_alloc _).size _).alloc ((below_alloc _).alloc (below_alloc _).size _).size _
  have k0 : (((w.alloc (.cells #[.slice ao o.length co, .slice ar rs.length cr] 27)).alloc (.cells #[.slice none 0 0, .slice none 0 0] 37)).alloc (.cells #[.slice none 0 0, .slice none 0 0] 37)).heap[w.heap.size]? = some (.cells #[.slice ao o.length co, .slice ar rs.length cr] 27) := block_kept (below_alloc _) (block_kept (below_alloc _) (heap_alloc_new w _))
  have I0 := hide (h.below b0)
  have HS := hide hs
  have K0 := hide k0
  have R0 := hide r0
  have V0 := hide v0
  have HI := hide h
  have zv := block_lt v0
  clear h hs k0 r0 v0 hsz
  go_enter Tryz.func11, Tryz.ntmps11
  go_wp2_with fail
  generalize (((w.alloc (.cells #[.slice ao o.length co, .slice ar rs.length cr] 27)).alloc (.cells #[.slice none 0 0, .slice none 0 0] 37)).alloc (.cells #[.slice none 0 0, .slice none 0 0] 37)) = W at *
  refine (toName_any ao co o _ (unhide I0).name (unhide HS).name (unhide HS).names).mono ?_
  rintro e w1 ⟨v1, rfl, o1, b1⟩
  obtain ⟨n1, m1, rfl, _⟩ := o1.hasL.form
  have bb1 := below_next b0 b1
  have K1 := hide (block_kept b1 (unhide K0))
  have R1 := hide (block_kept b1 (unhide R0))
  have V1 := block_kept b1 (unhide V0)
  have O1 := hide o1.here
  have z1 := b1.size
  obtain ⟨d0, d1⟩ := cells2 (unhide K1)
  obtain ⟨f0, f1⟩ := cells2 V1
  obtain ⟨g0, g1⟩ := frozen2 V1
  clear b0 K0 R0 V0 b1 o1 I0
  go_wp2_with fail
  clear d0 d1 f0 f1 g0 g1
  have u2 := outside_set w1 (w.heap.size + 1 + 1) 0 (.slice n1 o.length m1)
  have V2 : (w1.setCell ⟨w.heap.size + 1 + 1, 0, none⟩ (.slice n1 o.length m1)).heap[w.heap.size + 1 + 1]? = some (.cells #[.slice n1 o.length m1, .slice none 0 0] 37) := block_setAt V1 0 _
  generalize (w1.setCell ⟨w.heap.size + 1 + 1, 0, none⟩ (.slice n1 o.length m1)) = w2 at *
  have bb2 := u2.below bb1 (by omega)
  have R2 := hide (u2.kept (unhide R1) (by omega))
  have O2 := hide ((unhide O1).outside u2 (by omega))
  have z2 := u2.size
  clear bb1 K1 R1 O1 u2 V1
  refine (toRrS_own ar cr rs _ ((unhide HI).below bb2).recs (unhide HS).count (unhide HS).recs).mono ?_
  rintro e w3 ⟨v3, rfl, o3, b3⟩
  obtain ⟨n2, m2, rfl, _⟩ := o3.form
  have bb3 := below_next bb2 b3
  have R3 := block_kept b3 (unhide R2)
  have V3 := block_kept b3 V2
  have O3 := hide ((unhide O2).below b3)
  have T3 := hide o3
  have z3 := b3.size
  obtain ⟨f0, f1⟩ := cells2 V3
  obtain ⟨g0, g1⟩ := frozen2 V3
  obtain ⟨p0, p1⟩ := cells2 R3
  obtain ⟨q0, q1⟩ := frozen2 R3
  clear bb2 R2 V2 b3 o3 O2
  go_wp2_with fail
  clear f0 f1 g0 g1 p0 p1 q0 q1
  have u4 := (outside_set w3 (w.heap.size + 1 + 1) 1 (.slice n2 rs.length m2)).wide (B' := w.heap.size + 1) (E' := w.heap.size + 3) (by omega) (by omega)
  have R4 := block_other R3 (b' := w.heap.size + 1 + 1) (by omega) 1 (.slice n2 rs.length m2)
  generalize w3.setCell ⟨w.heap.size + 1 + 1, 1, none⟩ (.slice n2 rs.length m2) = w4 at *
  have R5 : ((w4.setCell ⟨w.heap.size + 1, 0, none⟩ (.slice n1 o.length m1)).setCell ⟨w.heap.size + 1, 1, none⟩ (.slice n2 rs.length m2)).heap[w.heap.size + 1]? = some (.cells #[.slice n1 o.length m1, .slice n2 rs.length m2] 37) := block_setAt (block_setAt R4 0 _) 1 _
  have u5 := ((outside_set w4 (w.heap.size + 1) 0 (.slice n1 o.length m1)).trans (outside_set _ (w.heap.size + 1) 1 (.slice n2 rs.length m2))).wide (B' := w.heap.size + 1) (E' := w.heap.size + 3) (by omega) (by omega)
  refine bodyPost_ret (results_cell_row rfl _ _ (w.heap.size + 1) 37 #[.slice n1 o.length m1, .slice n2 rs.length m2] (0, 0) _ rfl R5 Tryz.underlying37 rfl (by kernel_rfl)) rfl ?_
  have u6 := u4.trans u5
  have z6 := u6.size
  exact ⟨_, _, rfl, ⟨w2.heap.size, by omega, by omega, ((unhide O3).outside u6 (by omega)).wide (by omega) (by omega), ((unhide T3).outside u6 (by omega)).wide (Nat.le_refl _) (by omega)⟩, u6.below bb3 (by omega)⟩
theorem markZone_z {o : List (List Int)} {rs : List Rec} (hs : SizeZ 1048576 o rs) (k0 : Int) (hk0 : 0 ≤ k0) (hk1 : k0 ≤ 4610000000000000000) {B E : Nat} {vo vr : Value} {w : World} (hEw : E ≤ w.heap.size) (h : OwnZ B E w vo vr o rs) :
    Calls Tryz.prog 16 #[.agg #[vo, vr], .int .i64 k0] w fun e w' => e = .returned (.int .i64 (posRs rs (pos o k0 o.length) rs.length)) ∧ Outside B E w w' := by
  obtain ⟨s, h1, h2, h3, h4⟩ := h
  exact (markZone_own hs k0 hk0 hk1 h1 h2 hEw h3 h4).mono fun e w' ⟨q1, _, _, q2⟩ => ⟨q1, q2⟩
end Go.Proofs.YtmnlhjdjjinbiaaGreat

namespace Go.Proofs
open Go.Shelf
def Tryz.sort131_ren : Go.Shelf.Ren := ⟨fun | 6 => 131 | 8 => 139 | 9 => 138 | 19 => 149 | 20 => 150 | 21 => 140 | 22 => 141 | 23 => 142 | 24 => 143 | 25 => 144 | 26 => 145 | 27 => 146 | 28 => 147 | 29 => 148 | 36 => 151 | 31 => 152 | 32 => 153 | 37 => 154 | 38 => 155 | 39 => 156 | 41 => 157 | n => n, fun | 27 => 138 | 29 => 9 | 3 => 3 | 32 => 154 | 26 => 138 | 0 => 0 | 44 => 168 | 46 => 170 | 4 => 4 | 36 => 160 | 35 => 159 | 41 => 165 | 5 => 5 | 9 => 9 | 53 => 171 | 57 => 175 | 63 => 177 | 64 => 178 | n => n, fun | n => n⟩
theorem Tryz.sort131 : Go.Proofs.SlLaysM.n6 Tryz.prog Tryz.sort131_ren := {
  mixed := by kernel_rfl
  f6 := ⟨Tryz.f131.name, by decide, Tryz.func131.trans (congrArg some (by kernel_rfl))⟩
  f8 := Tryz.func139.trans (congrArg some (by kernel_rfl))
  f9 := ⟨Tryz.f138.name, by decide, Tryz.func138.trans (congrArg some (by kernel_rfl))⟩
  f19 := Tryz.func149.trans (congrArg some (by kernel_rfl))
  f20 := Tryz.func150.trans (congrArg some (by kernel_rfl))
  f21 := ⟨Tryz.f140.name, by decide, Tryz.func140.trans (congrArg some (by kernel_rfl))⟩
  f22 := ⟨Tryz.f141.name, by decide, Tryz.func141.trans (congrArg some (by kernel_rfl))⟩
  f23 := ⟨Tryz.f142.name, by decide, Tryz.func142.trans (congrArg some (by kernel_rfl))⟩
  f24 := ⟨Tryz.f143.name, by decide, Tryz.func143.trans (congrArg some (by kernel_rfl))⟩
  f25 := ⟨Tryz.f144.name, by decide, Tryz.func144.trans (congrArg some (by kernel_rfl))⟩
  f26 := ⟨Tryz.f145.name, by decide, Tryz.func145.trans (congrArg some (by kernel_rfl))⟩
  f27 := ⟨Tryz.f146.name, by decide, Tryz.func146.trans (congrArg some (by kernel_rfl))⟩
  f28 := ⟨Tryz.f147.name, by decide, Tryz.func147.trans (congrArg some (by kernel_rfl))⟩
  f29 := ⟨Tryz.f148.name, by decide, Tryz.func148.trans (congrArg some (by kernel_rfl))⟩
  f31 := Tryz.func152.trans (congrArg some (by kernel_rfl))
  f32 := Tryz.func153.trans (congrArg some (by kernel_rfl))
  f36 := ⟨Tryz.f151.name, by decide, Tryz.func151.trans (congrArg some (by kernel_rfl))⟩
  f37 := ⟨Tryz.f154.name, by decide, Tryz.func154.trans (congrArg some (by kernel_rfl))⟩
  f38 := ⟨Tryz.f155.name, by decide, Tryz.func155.trans (congrArg some (by kernel_rfl))⟩
  f39 := ⟨Tryz.f156.name, by decide, Tryz.func156.trans (congrArg some (by kernel_rfl))⟩
  f41 := ⟨Tryz.f157.name, by decide, Tryz.func157.trans (congrArg some (by kernel_rfl))⟩
  t0 := Tryz.underlying0
  a0 := Tryz.isAgg0
  z0 := Tryz.sizeOf0
  v0 := Tryz.zeroValue0
  t3 := Tryz.underlying3
  a3 := Tryz.isAgg3
  z3 := Tryz.sizeOf3
  v3 := Tryz.zeroValue3
  t4 := Tryz.underlying4
  a4 := Tryz.isAgg4
  z4 := Tryz.sizeOf4
  v4 := Tryz.zeroValue4
  t5 := Tryz.underlying5
  a5 := Tryz.isAgg5
  z5 := Tryz.sizeOf5
  v5 := Tryz.zeroValue5
  t9 := Tryz.underlying9
  a9 := Tryz.isAgg9
  z9 := Tryz.sizeOf9
  v9 := Tryz.zeroValue9
  t26 := Tryz.underlying138
  a26 := Tryz.isAgg138
  z26 := Tryz.sizeOf138
  v26 := Tryz.zeroValue138
  t27 := Tryz.underlying138
  a27 := Tryz.isAgg138
  z27 := Tryz.sizeOf138
  v27 := Tryz.zeroValue138
  t29 := Tryz.underlying9
  a29 := Tryz.isAgg9
  z29 := Tryz.sizeOf9
  v29 := Tryz.zeroValue9
  t32 := Tryz.underlying154
  a32 := Tryz.isAgg154
  z32 := Tryz.sizeOf154
  v32 := Tryz.zeroValue154
  t35 := Tryz.underlying159
  a35 := Tryz.isAgg159
  z35 := Tryz.sizeOf159
  v35 := Tryz.zeroValue159
  t36 := Tryz.underlying160
  a36 := Tryz.isAgg160
  z36 := Tryz.sizeOf160
  v36 := Tryz.zeroValue160
  t41 := Tryz.underlying165
  a41 := Tryz.isAgg165
  z41 := Tryz.sizeOf165
  v41 := Tryz.zeroValue165
  t44 := Tryz.underlying168
  a44 := Tryz.isAgg168
  z44 := Tryz.sizeOf168
  v44 := Tryz.zeroValue168
  t46 := Tryz.underlying170
  a46 := Tryz.isAgg170
  z46 := Tryz.sizeOf170
  v46 := Tryz.zeroValue170
  t53 := Tryz.underlying171
  a53 := Tryz.isAgg171
  z53 := Tryz.sizeOf171
  v53 := Tryz.zeroValue171
  t57 := Tryz.underlying175
  a57 := Tryz.isAgg175
  z57 := Tryz.sizeOf175
  v57 := Tryz.zeroValue175
  t63 := Tryz.underlying177
  a63 := Tryz.isAgg177
  z63 := Tryz.sizeOf177
  v63 := Tryz.zeroValue177
  t64 := Tryz.underlying178
  a64 := Tryz.isAgg178
  z64 := Tryz.sizeOf178
  v64 := Tryz.zeroValue178 }
def Tryz.sorted118_ren : Go.Shelf.Ren := ⟨fun | 6 => 118 | 8 => 130 | 9 => 131 | 11 => 137 | 13 => 139 | 12 => 138 | 23 => 149 | 24 => 150 | 14 => 140 | 15 => 141 | 16 => 142 | 17 => 143 | 18 => 144 | 19 => 145 | 20 => 146 | 21 => 147 | 22 => 148 | 25 => 151 | 26 => 152 | 27 => 153 | 28 => 154 | 29 => 155 | 30 => 156 | 31 => 157 | n => n, fun | 26 => 9 | 28 => 141 | 24 => 138 | 0 => 0 | 3 => 3 | 37 => 154 | 48 => 168 | 50 => 170 | 4 => 4 | 40 => 160 | 39 => 159 | 45 => 165 | 5 => 5 | 9 => 9 | 51 => 171 | 55 => 175 | 57 => 177 | 58 => 178 | 33 => 152 | n => n, fun | n => n⟩
theorem Tryz.sorted118 : Go.Proofs.SlLaysZ.n6 Tryz.prog Tryz.sorted118_ren := {
  mixed := by kernel_rfl
  f6 := ⟨Tryz.f118.name, by decide, Tryz.func118.trans (congrArg some (by kernel_rfl))⟩
  f8 := ⟨Tryz.f130.name, by decide, Tryz.func130.trans (congrArg some (by kernel_rfl))⟩
  f11 := ⟨Tryz.f137.name, by decide, Tryz.func137.trans (congrArg some (by kernel_rfl))⟩
  t0 := Tryz.underlying0
  a0 := Tryz.isAgg0
  z0 := Tryz.sizeOf0
  v0 := Tryz.zeroValue0
  t24 := Tryz.underlying138
  a24 := Tryz.isAgg138
  z24 := Tryz.sizeOf138
  v24 := Tryz.zeroValue138
  t26 := Tryz.underlying9
  a26 := Tryz.isAgg9
  z26 := Tryz.sizeOf9
  v26 := Tryz.zeroValue9
  t28 := Tryz.underlying141
  a28 := Tryz.isAgg141
  z28 := Tryz.sizeOf141
  v28 := Tryz.zeroValue141
  i26 := by kernel_rfl }
def Tryz.keys119_ren : Go.Shelf.Ren := ⟨fun | 7 => 119 | 10 => 132 | n => n, fun | 23 => 74 | 26 => 9 | 3 => 109 | 28 => 141 | 0 => 0 | 27 => 140 | 33 => 152 | 4 => 4 | n => n, fun | n => n⟩
theorem Tryz.keys119 : Go.Proofs.SlLaysZ.n7 Tryz.prog Tryz.keys119_ren := {
  mixed := by kernel_rfl
  f7 := ⟨Tryz.f119.name, by decide, Tryz.func119.trans (congrArg some (by kernel_rfl))⟩
  f10 := ⟨Tryz.f132.name, by decide, Tryz.func132.trans (congrArg some (by kernel_rfl))⟩
  t0 := Tryz.underlying0
  a0 := Tryz.isAgg0
  z0 := Tryz.sizeOf0
  v0 := Tryz.zeroValue0
  t4 := Tryz.underlying4
  a4 := Tryz.isAgg4
  z4 := Tryz.sizeOf4
  v4 := Tryz.zeroValue4
  t23 := Tryz.underlying74
  a23 := Tryz.isAgg74
  z23 := Tryz.sizeOf74
  v23 := Tryz.zeroValue74
  t26 := Tryz.underlying9
  a26 := Tryz.isAgg9
  z26 := Tryz.sizeOf9
  v26 := Tryz.zeroValue9
  t27 := Tryz.underlying140
  a27 := Tryz.isAgg140
  z27 := Tryz.sizeOf140
  v27 := Tryz.zeroValue140
  t28 := Tryz.underlying141
  a28 := Tryz.isAgg141
  z28 := Tryz.sizeOf141
  v28 := Tryz.zeroValue141
  t33 := Tryz.underlying152
  a33 := Tryz.isAgg152
  z33 := Tryz.sizeOf152
  v33 := Tryz.zeroValue152 }
def Tryz.keys121_ren : Go.Shelf.Ren := ⟨fun | 7 => 121 | 10 => 133 | n => n, fun | 23 => 108 | 26 => 9 | 3 => 42 | 28 => 141 | 0 => 0 | 27 => 140 | 33 => 152 | 4 => 4 | n => n, fun | n => n⟩
theorem Tryz.keys121 : Go.Proofs.SlLaysZ.n7 Tryz.prog Tryz.keys121_ren := {
  mixed := by kernel_rfl
  f7 := ⟨Tryz.f121.name, by decide, Tryz.func121.trans (congrArg some (by kernel_rfl))⟩
  f10 := ⟨Tryz.f133.name, by decide, Tryz.func133.trans (congrArg some (by kernel_rfl))⟩
  t0 := Tryz.underlying0
  a0 := Tryz.isAgg0
  z0 := Tryz.sizeOf0
  v0 := Tryz.zeroValue0
  t4 := Tryz.underlying4
  a4 := Tryz.isAgg4
  z4 := Tryz.sizeOf4
  v4 := Tryz.zeroValue4
  t23 := Tryz.underlying108
  a23 := Tryz.isAgg108
  z23 := Tryz.sizeOf108
  v23 := Tryz.zeroValue108
  t26 := Tryz.underlying9
  a26 := Tryz.isAgg9
  z26 := Tryz.sizeOf9
  v26 := Tryz.zeroValue9
  t27 := Tryz.underlying140
  a27 := Tryz.isAgg140
  z27 := Tryz.sizeOf140
  v27 := Tryz.zeroValue140
  t28 := Tryz.underlying141
  a28 := Tryz.isAgg141
  z28 := Tryz.sizeOf141
  v28 := Tryz.zeroValue141
  t33 := Tryz.underlying152
  a33 := Tryz.isAgg152
  z33 := Tryz.sizeOf152
  v33 := Tryz.zeroValue152 }
end Go.Proofs
