/-
  Contracts of the helpers of the laws for zones that are answers (markZone, heldZone). Contracts of helpers of the laws: zones that are made of what came in, and own their memory (toRrS, toZone); their marks (markZone). The library functions that gather and sort the keys of maps, by the contracts that lie compiled in the library, laid at this program by the shelf's own command in plain words.
-/
import Derived.Test.YtmlcmkoefelolaaGreatSetOfG10
import Derived.Test.YtmlcmkoefelolaaGreatSetOfG07
import Derived.Test.YtmlcmkoefelolaaGreatSetOfG05
import Derived.Test.YtmlcmkoefelolaaGreatSetOfG09
import Derived.Shelf.SlIter.Nil
import Derived.Shelf.SortM.Plain
import Derived.Shelf.SortM.SortNone
import Derived.Ground.GgzProg
import Derived.Ground.SlgmProg
import Derived.Test.YtmlcmkoefelolaaGreatProg
namespace Go.Proofs.YtmlcmkoefelolaaGreat
open Go.RowKit
set_option linter.unusedVariables false

set_option maxHeartbeats 2000000 in
set_option maxRecDepth 100000 in
theorem markZone_own {o : List (List Int)} {rs : List Rec} (hs : SizeZ 1048576 o rs) (k0 : Int) (hk0 : 0 ≤ k0) (hk1 : k0 ≤ 4610000000000000000) {B s E : Nat} {vo vr : Value} {w : World} (hB : B ≤ s) (hsE : s ≤ E) (hEw : E ≤ w.heap.size)
  (h1 : OwnN B s 44 5 w vo o) (h2 : RowO s E 52 44 5 3 w vr rs) :
  Calls Tryz.prog 18 #[.agg #[vo, vr], .int .i64 k0] w fun e w' => e = .returned (.int .i64 (posRs rs (pos o k0 o.length) rs.length)) ∧ OwnN B s 44 5 w' vo (markL o k0) ∧ RowO s E 52 44 5 3 w' vr (markRs rs (pos o k0 o.length) rs.length) ∧ Outside B E w w' := by
 have p1 := pos_bound' o k0 hs.name hs.names
 obtain ⟨oa, oc, rfl, _⟩ := h1.hasL.form
 obtain ⟨ra, rc, rfl, _⟩ := h2.form
 have b0 := below_alloc (w := w) (.cells #[.slice oa o.length oc, .slice ra rs.length rc] 34)
 have K0 := hide (heap_alloc_new w (.cells #[.slice oa o.length oc, .slice ra rs.length rc] 34))
 have M1 := hide (markName_any k0 (h1.below b0) hs.name hs.names hk0 (by omega))
 have R0 := hide (h2.below b0)
 have HR := hide (fun (w : World) (hh : RowO s E 52 44 5 3 w (.slice ra rs.length rc) rs) (hE : E ≤ w.heap.size) => markRrS_own hs.recs hs.count (pos o k0 o.length) (by omega) (by omega) hE hh)
 have u0 : Outside B E w (w.alloc (.cells #[.slice oa o.length oc, .slice ra rs.length rc] 34)) := Below.outside b0
 have z0 := b0.size
 clear h1 h2 b0 hs
 generalize hMR : markRs rs (pos o k0 o.length) rs.length = MR at *
 generalize hPR : posRs rs (pos o k0 o.length) rs.length = PR at *
 generalize hMO : markL o k0 = MO at *
 clear hMR hPR hMO
 generalize pos o k0 o.length = P1 at *
 go_enter Tryz.func18, Tryz.ntmps18
 obtain ⟨c0, c1⟩ := cells2 (unhide K0)
 go_wp2_with fail
 clear c0 c1
 generalize w.alloc (.cells #[.slice oa o.length oc, .slice ra rs.length rc] 34) = W at *
 refine (unhide M1).mono ?_
 rintro e w1 ⟨rfl, n1, u1⟩
 have zw := block_lt (unhide K0)
 have z1 := u1.size
 have N1 := hide n1
 have R1 := hide ((unhide R0).outside u1 (by omega))
 have K1 := hide (u1.kept (unhide K0) (by omega))
 have U1 := u0.trans (u1.wide (B' := B) (E' := E) (by omega) (by omega))
 have HR1 := hide (unhide HR _ (unhide R1) (by omega))
 obtain ⟨c0, c1⟩ := cells2 (unhide K1)
 clear n1 u1 u0 K0 R0 M1 HR
 go_wp2_with fail
 clear c0 c1
 refine (unhide HR1).mono ?_
 rintro e w2 ⟨rfl, r2, u2⟩
 have N2 := hide ((unhide N1).outside u2 (by omega))
 have R2 := hide r2
 have U2 := U1.trans (u2.wide (B' := B) (E' := E) (by omega) (by omega))
 clear r2 u2 HR1 N1
 go_wp2_with fail
 go_ret
 exact ⟨rfl, unhide N2, unhide R2, U2⟩

end Go.Proofs.YtmlcmkoefelolaaGreat

namespace Go.Proofs.YtmlcmkoefelolaaGreat
open Go.RowKit
set_option linter.unusedVariables false

set_option maxHeartbeats 1000000 in
set_option maxRecDepth 100000 in
theorem toRrS_own (a : Option Addr) (cap : Nat) (rs : List Rec) (w : World) (h : LiesRs w a rs) (hl : rs.length ≤ 1048576) (hl2 : ∀ i, i < rs.length → SizeR 1048576 (rs.getD i recZ)) :
  Calls Tryz.prog 47 #[.slice a rs.length cap] w fun e w' => ∃ v, e = .returned v ∧ RowO w.heap.size w'.heap.size 52 44 5 3 w' v rs ∧ Below w.heap.size w w' := by
 have hmk := run_make7 (P := Tryz.prog) 30 52 _ 120 Tryz.underlying30 info_rr .i64 .i64 rs.length (by omega) (by omega)
 generalize hn : rs.length = m at *
 have HN := hide hn
 clear hn
 have HL := hide hl2
 clear hl2
 have F0 := hide (fillO_none w m #[.slice none 0 0, .int .i64 0, .int .i64 0, .int .i64 0, .slice none 0 0, .slice none 0 0, .slice none 0 0] 52 44 5 3 rs)
 have B0 := hide (below_alloc (w := w) (.cells (madeCells #[.slice none 0 0, .int .i64 0, .int .i64 0, .int .i64 0, .slice none 0 0, .slice none 0 0, .slice none 0 0] (m * 7)) 52))
 go_enter Tryz.func47, Tryz.ntmps47
 go_wp2
 go_loopw [4] (fun i wr => ∃ (k : Nat), k ≤ m ∧ i = .int .i64 k ∧ FillO w.heap.size m k 52 44 5 3 wr rs ∧ Below w.heap.size w wr) (fun i _ => m - (intOf i).toNat)
 case atStart => exact ⟨0, Nat.zero_le _, rfl, unhide F0, unhide B0⟩
 case round =>
  clear F0 B0
  obtain ⟨k, hk, rfl, hf, hb⟩ := hrel
  by_cases hlt : k < m
  ·obtain ⟨b, off, an, cn, ato, ct, ax, cx, ai, ci, rfl, hbl, hc, hIn⟩ := (h.below hb).here (k := k) (by rw [unhide HN]; exact hlt)
   have HF := hide hf
   have HI := hide hIn
   have HLK := hide (unhide HL k hlt)
   obtain ⟨c0, c1, c2, c3, c4, c5, c6⟩ := range7 hc
   have zf := hf.lt
   generalize hrk : rs.getD k recZ = rk at *
   have HRK := hide hrk
   clear hf hIn hc hrk
   go_wp2_with fail
   refine (toRr_any an cn ato ct ax cx ai ci rk _ (unhide HI) (unhide HLK)).mono ?_
   rintro e w1 ⟨vn, vt, vx, vi, rfl, o1, b1⟩
   clear c0 c1 c2 c3 c4 c5 c6
   have hb1 := below_next hb b1
   have ht := ((unhide HF).below b1).here hlt
   have hst := (unhide HF).step b1 hlt (vn := vn) (vt := vt) (vx := vx) (vi := vi) (by rw [unhide HRK]; exact o1)
   rw [unhide HRK] at hst
   have HST := hide hst
   have hbs := (outside_sets w.heap.size (cellsR vn vt vx vi rk) (k * 7) w1).below hb1 (Nat.le_refl _)
   have HBS := hide hbs
   have HT := hide ht
   obtain ⟨na, nc, rfl, _⟩ := o1.hasR.name.form
   obtain ⟨ta, tc, rfl, _⟩ := o1.hasR.to.form
   obtain ⟨xa, xc, rfl, _⟩ := o1.hasR.text.form
   obtain ⟨ia, ic, rfl, _⟩ := o1.hasR.nums.form
   clear hb1 hst hbs ht o1 b1 hb
   obtain ⟨y0, y1, y2, y3, y4, y5, y6, ⟨d0, d1, d2, d3, d4, d5, d6⟩, f0, f1, f2, f3, f4, f5, f6⟩ := there_cells (unhide HT)
   clear HT
   go_wp2
   exact ⟨⟨k + 1, by omega, by go_num, unhide HST, unhide HBS⟩, by simp [intOf]; omega⟩
  ·obtain rfl : k = m := by omega
   go_wp2
   go_ret
   have hN := unhide HN
   subst hN
   exact ⟨_, rfl, hf.row rfl (by unfold maxLen; omega), hb⟩

set_option maxHeartbeats 1000000 in
set_option maxRecDepth 100000 in
theorem toZone_own (ao : Option Addr) (co : Nat) (ar : Option Addr) (cr : Nat) (o : List (List Int)) (rs : List Rec) (w : World) (h : InZ w ao ar o rs) (hs : SizeZ 1048576 o rs) :
  Calls Tryz.prog 12 #[.agg #[.slice ao o.length co, .slice ar rs.length cr]] w fun e w' => ∃ vo vr, e = .returned (.agg #[vo, vr]) ∧ OwnZ w.heap.size w'.heap.size w' vo vr o rs ∧ Below w.heap.size w w' := by
 obtain ⟨hsz, r0, v0⟩ := box3 w (.cells #[.slice ao o.length co, .slice ar rs.length cr] 27) #[.slice none 0 0, .slice none 0 0] #[.slice none 0 0, .slice none 0 0] 34 34
 have b0 : Below w.heap.size w (((w.alloc (.cells #[.slice ao o.length co, .slice ar rs.length cr] 27)).alloc (.cells #[.slice none 0 0, .slice none 0 0] 34)).alloc (.cells #[.slice none 0 0, .slice none 0 0] 34)) := ((below_alloc _).alloc (below_alloc _).size _).alloc ((below_alloc _).alloc (below_alloc _).size _).size _
 have k0 : (((w.alloc (.cells #[.slice ao o.length co, .slice ar rs.length cr] 27)).alloc (.cells #[.slice none 0 0, .slice none 0 0] 34)).alloc (.cells #[.slice none 0 0, .slice none 0 0] 34)).heap[w.heap.size]? = some (.cells #[.slice ao o.length co, .slice ar rs.length cr] 27) := block_kept (below_alloc _) (block_kept (below_alloc _) (heap_alloc_new w _))
 have I0 := hide (h.below b0)
 have HS := hide hs
 have K0 := hide k0
 have R0 := hide r0
 have V0 := hide v0
 have HI := hide h
 have zv := block_lt v0
 clear h hs k0 r0 v0 hsz
 go_enter Tryz.func12, Tryz.ntmps12
 go_wp2_with fail
 generalize (((w.alloc (.cells #[.slice ao o.length co, .slice ar rs.length cr] 27)).alloc (.cells #[.slice none 0 0, .slice none 0 0] 34)).alloc (.cells #[.slice none 0 0, .slice none 0 0] 34)) = W at *
 refine (toName_any ao co o _ (unhide I0).name (unhide HS).name (unhide HS).names).mono ?_
 rintro e w1 ⟨v1, rfl, o1, b1⟩
 obtain ⟨n1, m1, rfl, _⟩ := o1.hasL.form
 have bb1 := below_next b0 b1
 have K1 := hide (block_kept b1 (unhide K0))
 have R1 := hide (block_kept b1 (unhide R0))
 have V1 := block_kept b1 (unhide V0)
 have O1 := hide o1.here
 have z1 := b1.size
 obtain ⟨d0, d1⟩ := cells2 (unhide K1)
 obtain ⟨f0, f1⟩ := cells2 V1
 obtain ⟨g0, g1⟩ := frozen2 V1
 clear b0 K0 R0 V0 b1 o1 I0
 go_wp2_with fail
 clear d0 d1 f0 f1 g0 g1
 have u2 := outside_set w1 (w.heap.size + 1 + 1) 0 (.slice n1 o.length m1)
 have V2 : (w1.setCell ⟨w.heap.size + 1 + 1, 0, none⟩ (.slice n1 o.length m1)).heap[w.heap.size + 1 + 1]? = some (.cells #[.slice n1 o.length m1, .slice none 0 0] 34) := block_setAt V1 0 _
 generalize (w1.setCell ⟨w.heap.size + 1 + 1, 0, none⟩ (.slice n1 o.length m1)) = w2 at *
 have bb2 := u2.below bb1 (by omega)
 have R2 := hide (u2.kept (unhide R1) (by omega))
 have O2 := hide ((unhide O1).outside u2 (by omega))
 have z2 := u2.size
 clear bb1 K1 R1 O1 u2 V1
 refine (toRrS_own ar cr rs _ ((unhide HI).below bb2).recs (unhide HS).count (unhide HS).recs).mono ?_
 rintro e w3 ⟨v3, rfl, o3, b3⟩
 obtain ⟨n2, m2, rfl, _⟩ := o3.form
 have bb3 := below_next bb2 b3
 have R3 := block_kept b3 (unhide R2)
 have V3 := block_kept b3 V2
 have O3 := hide ((unhide O2).below b3)
 have T3 := hide o3
 have z3 := b3.size
 obtain ⟨f0, f1⟩ := cells2 V3
 obtain ⟨g0, g1⟩ := frozen2 V3
 obtain ⟨p0, p1⟩ := cells2 R3
 obtain ⟨q0, q1⟩ := frozen2 R3
 clear bb2 R2 V2 b3 o3 O2
 go_wp2_with fail
 clear f0 f1 g0 g1 p0 p1 q0 q1
 have u4 := (outside_set w3 (w.heap.size + 1 + 1) 1 (.slice n2 rs.length m2)).wide (B' := w.heap.size + 1) (E' := w.heap.size + 3) (by omega) (by omega)
 have R4 := block_other R3 (b' := w.heap.size + 1 + 1) (by omega) 1 (.slice n2 rs.length m2)
 generalize w3.setCell ⟨w.heap.size + 1 + 1, 1, none⟩ (.slice n2 rs.length m2) = w4 at *
 have R5 : ((w4.setCell ⟨w.heap.size + 1, 0, none⟩ (.slice n1 o.length m1)).setCell ⟨w.heap.size + 1, 1, none⟩ (.slice n2 rs.length m2)).heap[w.heap.size + 1]? = some (.cells #[.slice n1 o.length m1, .slice n2 rs.length m2] 34) := block_setAt (block_setAt R4 0 _) 1 _
 have u5 := ((outside_set w4 (w.heap.size + 1) 0 (.slice n1 o.length m1)).trans (outside_set _ (w.heap.size + 1) 1 (.slice n2 rs.length m2))).wide (B' := w.heap.size + 1) (E' := w.heap.size + 3) (by omega) (by omega)
 refine bodyPost_ret (results_cell_row rfl _ _ (w.heap.size + 1) 34 #[.slice n1 o.length m1, .slice n2 rs.length m2] (0, 0) _ rfl R5 Tryz.underlying34 rfl (by kernel_rfl)) rfl ?_
 have u6 := u4.trans u5
 have z6 := u6.size
 exact ⟨_, _, rfl, ⟨w2.heap.size, by omega, by omega, ((unhide O3).outside u6 (by omega)).wide (by omega) (by omega), ((unhide T3).outside u6 (by omega)).wide (Nat.le_refl _) (by omega)⟩, u6.below bb3 (by omega)⟩
theorem markZone_z {o : List (List Int)} {rs : List Rec} (hs : SizeZ 1048576 o rs) (k0 : Int) (hk0 : 0 ≤ k0) (hk1 : k0 ≤ 4610000000000000000) {B E : Nat} {vo vr : Value} {w : World} (hEw : E ≤ w.heap.size) (h : OwnZ B E w vo vr o rs) :
  Calls Tryz.prog 18 #[.agg #[vo, vr], .int .i64 k0] w fun e w' => e = .returned (.int .i64 (posRs rs (pos o k0 o.length) rs.length)) ∧ Outside B E w w' := by
 obtain ⟨s, h1, h2, h3, h4⟩ := h
 exact (markZone_own hs k0 hk0 hk1 h1 h2 hEw h3 h4).mono fun e w' ⟨q1, _, _, q2⟩ => ⟨q1, q2⟩
end Go.Proofs.YtmlcmkoefelolaaGreat

namespace Go.Proofs
open Go.Shelf
def Tryz.sort156_ren : Go.Shelf.Ren := ⟨fun | 6 => 156 | 8 => 169 | 9 => 168 | 19 => 182 | 20 => 183 | 21 => 173 | 22 => 174 | 23 => 175 | 24 => 176 | 25 => 177 | 26 => 178 | 27 => 179 | 28 => 180 | 29 => 181 | 36 => 184 | 31 => 185 | 32 => 186 | 37 => 187 | 38 => 188 | 39 => 189 | 41 => 190 | n => n, fun | 27 => 152 | 29 => 9 | 3 => 3 | 32 => 187 | 26 => 152 | 0 => 0 | 44 => 202 | 46 => 204 | 4 => 4 | 36 => 194 | 35 => 193 | 41 => 199 | 5 => 5 | 9 => 9 | 53 => 205 | 57 => 209 | 63 => 211 | 64 => 212 | n => n, fun | n => n⟩
theorem Tryz.sort156 : Go.Proofs.SlLaysM.n6 Tryz.prog Tryz.sort156_ren := {
  mixed := by kernel_rfl
  f6 := ⟨Tryz.f156.name, by decide, Tryz.func156.trans (congrArg some (by kernel_rfl))⟩
  f8 := Tryz.func169.trans (congrArg some (by kernel_rfl))
  f9 := ⟨Tryz.f168.name, by decide, Tryz.func168.trans (congrArg some (by kernel_rfl))⟩
  f19 := Tryz.func182.trans (congrArg some (by kernel_rfl))
  f20 := Tryz.func183.trans (congrArg some (by kernel_rfl))
  f21 := ⟨Tryz.f173.name, by decide, Tryz.func173.trans (congrArg some (by kernel_rfl))⟩
  f22 := ⟨Tryz.f174.name, by decide, Tryz.func174.trans (congrArg some (by kernel_rfl))⟩
  f23 := ⟨Tryz.f175.name, by decide, Tryz.func175.trans (congrArg some (by kernel_rfl))⟩
  f24 := ⟨Tryz.f176.name, by decide, Tryz.func176.trans (congrArg some (by kernel_rfl))⟩
  f25 := ⟨Tryz.f177.name, by decide, Tryz.func177.trans (congrArg some (by kernel_rfl))⟩
  f26 := ⟨Tryz.f178.name, by decide, Tryz.func178.trans (congrArg some (by kernel_rfl))⟩
  f27 := ⟨Tryz.f179.name, by decide, Tryz.func179.trans (congrArg some (by kernel_rfl))⟩
  f28 := ⟨Tryz.f180.name, by decide, Tryz.func180.trans (congrArg some (by kernel_rfl))⟩
  f29 := ⟨Tryz.f181.name, by decide, Tryz.func181.trans (congrArg some (by kernel_rfl))⟩
  f31 := Tryz.func185.trans (congrArg some (by kernel_rfl))
  f32 := Tryz.func186.trans (congrArg some (by kernel_rfl))
  f36 := ⟨Tryz.f184.name, by decide, Tryz.func184.trans (congrArg some (by kernel_rfl))⟩
  f37 := ⟨Tryz.f187.name, by decide, Tryz.func187.trans (congrArg some (by kernel_rfl))⟩
  f38 := ⟨Tryz.f188.name, by decide, Tryz.func188.trans (congrArg some (by kernel_rfl))⟩
  f39 := ⟨Tryz.f189.name, by decide, Tryz.func189.trans (congrArg some (by kernel_rfl))⟩
  f41 := ⟨Tryz.f190.name, by decide, Tryz.func190.trans (congrArg some (by kernel_rfl))⟩
  t0 := Tryz.underlying0
  a0 := Tryz.isAgg0
  z0 := Tryz.sizeOf0
  v0 := Tryz.zeroValue0
  t3 := Tryz.underlying3
  a3 := Tryz.isAgg3
  z3 := Tryz.sizeOf3
  v3 := Tryz.zeroValue3
  t4 := Tryz.underlying4
  a4 := Tryz.isAgg4
  z4 := Tryz.sizeOf4
  v4 := Tryz.zeroValue4
  t5 := Tryz.underlying5
  a5 := Tryz.isAgg5
  z5 := Tryz.sizeOf5
  v5 := Tryz.zeroValue5
  t9 := Tryz.underlying9
  a9 := Tryz.isAgg9
  z9 := Tryz.sizeOf9
  v9 := Tryz.zeroValue9
  t26 := Tryz.underlying152
  a26 := Tryz.isAgg152
  z26 := Tryz.sizeOf152
  v26 := Tryz.zeroValue152
  t27 := Tryz.underlying152
  a27 := Tryz.isAgg152
  z27 := Tryz.sizeOf152
  v27 := Tryz.zeroValue152
  t29 := Tryz.underlying9
  a29 := Tryz.isAgg9
  z29 := Tryz.sizeOf9
  v29 := Tryz.zeroValue9
  t32 := Tryz.underlying187
  a32 := Tryz.isAgg187
  z32 := Tryz.sizeOf187
  v32 := Tryz.zeroValue187
  t35 := Tryz.underlying193
  a35 := Tryz.isAgg193
  z35 := Tryz.sizeOf193
  v35 := Tryz.zeroValue193
  t36 := Tryz.underlying194
  a36 := Tryz.isAgg194
  z36 := Tryz.sizeOf194
  v36 := Tryz.zeroValue194
  t41 := Tryz.underlying199
  a41 := Tryz.isAgg199
  z41 := Tryz.sizeOf199
  v41 := Tryz.zeroValue199
  t44 := Tryz.underlying202
  a44 := Tryz.isAgg202
  z44 := Tryz.sizeOf202
  v44 := Tryz.zeroValue202
  t46 := Tryz.underlying204
  a46 := Tryz.isAgg204
  z46 := Tryz.sizeOf204
  v46 := Tryz.zeroValue204
  t53 := Tryz.underlying205
  a53 := Tryz.isAgg205
  z53 := Tryz.sizeOf205
  v53 := Tryz.zeroValue205
  t57 := Tryz.underlying209
  a57 := Tryz.isAgg209
  z57 := Tryz.sizeOf209
  v57 := Tryz.zeroValue209
  t63 := Tryz.underlying211
  a63 := Tryz.isAgg211
  z63 := Tryz.sizeOf211
  v63 := Tryz.zeroValue211
  t64 := Tryz.underlying212
  a64 := Tryz.isAgg212
  z64 := Tryz.sizeOf212
  v64 := Tryz.zeroValue212 }
def Tryz.sorted131_ren : Go.Shelf.Ren := ⟨fun | 6 => 131 | 8 => 155 | 9 => 156 | 11 => 167 | 13 => 169 | 12 => 168 | 23 => 182 | 24 => 183 | 14 => 173 | 15 => 174 | 16 => 175 | 17 => 176 | 18 => 177 | 19 => 178 | 20 => 179 | 21 => 180 | 22 => 181 | 25 => 184 | 26 => 185 | 27 => 186 | 28 => 187 | 29 => 188 | 30 => 189 | 31 => 190 | n => n, fun | 26 => 9 | 28 => 155 | 24 => 152 | 0 => 0 | 3 => 3 | 37 => 187 | 48 => 202 | 50 => 204 | 4 => 4 | 40 => 194 | 39 => 193 | 45 => 199 | 5 => 5 | 9 => 9 | 51 => 205 | 55 => 209 | 57 => 211 | 58 => 212 | 33 => 185 | n => n, fun | n => n⟩
theorem Tryz.sorted131 : Go.Proofs.SlLaysZ.n6 Tryz.prog Tryz.sorted131_ren := {
  mixed := by kernel_rfl
  f6 := ⟨Tryz.f131.name, by decide, Tryz.func131.trans (congrArg some (by kernel_rfl))⟩
  f8 := ⟨Tryz.f155.name, by decide, Tryz.func155.trans (congrArg some (by kernel_rfl))⟩
  f11 := ⟨Tryz.f167.name, by decide, Tryz.func167.trans (congrArg some (by kernel_rfl))⟩
  t0 := Tryz.underlying0
  a0 := Tryz.isAgg0
  z0 := Tryz.sizeOf0
  v0 := Tryz.zeroValue0
  t24 := Tryz.underlying152
  a24 := Tryz.isAgg152
  z24 := Tryz.sizeOf152
  v24 := Tryz.zeroValue152
  t26 := Tryz.underlying9
  a26 := Tryz.isAgg9
  z26 := Tryz.sizeOf9
  v26 := Tryz.zeroValue9
  t28 := Tryz.underlying155
  a28 := Tryz.isAgg155
  z28 := Tryz.sizeOf155
  v28 := Tryz.zeroValue155
  i26 := by kernel_rfl }
def Tryz.keys132_ren : Go.Shelf.Ren := ⟨fun | 7 => 132 | 10 => 157 | n => n, fun | 23 => 115 | 26 => 9 | 3 => 52 | 28 => 155 | 0 => 0 | 27 => 154 | 33 => 185 | 4 => 4 | n => n, fun | n => n⟩
theorem Tryz.keys132 : Go.Proofs.SlLaysZ.n7 Tryz.prog Tryz.keys132_ren := {
  mixed := by kernel_rfl
  f7 := ⟨Tryz.f132.name, by decide, Tryz.func132.trans (congrArg some (by kernel_rfl))⟩
  f10 := ⟨Tryz.f157.name, by decide, Tryz.func157.trans (congrArg some (by kernel_rfl))⟩
  t0 := Tryz.underlying0
  a0 := Tryz.isAgg0
  z0 := Tryz.sizeOf0
  v0 := Tryz.zeroValue0
  t4 := Tryz.underlying4
  a4 := Tryz.isAgg4
  z4 := Tryz.sizeOf4
  v4 := Tryz.zeroValue4
  t23 := Tryz.underlying115
  a23 := Tryz.isAgg115
  z23 := Tryz.sizeOf115
  v23 := Tryz.zeroValue115
  t26 := Tryz.underlying9
  a26 := Tryz.isAgg9
  z26 := Tryz.sizeOf9
  v26 := Tryz.zeroValue9
  t27 := Tryz.underlying154
  a27 := Tryz.isAgg154
  z27 := Tryz.sizeOf154
  v27 := Tryz.zeroValue154
  t28 := Tryz.underlying155
  a28 := Tryz.isAgg155
  z28 := Tryz.sizeOf155
  v28 := Tryz.zeroValue155
  t33 := Tryz.underlying185
  a33 := Tryz.isAgg185
  z33 := Tryz.sizeOf185
  v33 := Tryz.zeroValue185 }
def Tryz.keys139_ren : Go.Shelf.Ren := ⟨fun | 7 => 139 | 10 => 159 | n => n, fun | 23 => 78 | 26 => 9 | 3 => 116 | 28 => 155 | 0 => 0 | 27 => 154 | 33 => 185 | 4 => 4 | n => n, fun | n => n⟩
theorem Tryz.keys139 : Go.Proofs.SlLaysZ.n7 Tryz.prog Tryz.keys139_ren := {
  mixed := by kernel_rfl
  f7 := ⟨Tryz.f139.name, by decide, Tryz.func139.trans (congrArg some (by kernel_rfl))⟩
  f10 := ⟨Tryz.f159.name, by decide, Tryz.func159.trans (congrArg some (by kernel_rfl))⟩
  t0 := Tryz.underlying0
  a0 := Tryz.isAgg0
  z0 := Tryz.sizeOf0
  v0 := Tryz.zeroValue0
  t4 := Tryz.underlying4
  a4 := Tryz.isAgg4
  z4 := Tryz.sizeOf4
  v4 := Tryz.zeroValue4
  t23 := Tryz.underlying78
  a23 := Tryz.isAgg78
  z23 := Tryz.sizeOf78
  v23 := Tryz.zeroValue78
  t26 := Tryz.underlying9
  a26 := Tryz.isAgg9
  z26 := Tryz.sizeOf9
  v26 := Tryz.zeroValue9
  t27 := Tryz.underlying154
  a27 := Tryz.isAgg154
  z27 := Tryz.sizeOf154
  v27 := Tryz.zeroValue154
  t28 := Tryz.underlying155
  a28 := Tryz.isAgg155
  z28 := Tryz.sizeOf155
  v28 := Tryz.zeroValue155
  t33 := Tryz.underlying185
  a33 := Tryz.isAgg185
  z33 := Tryz.sizeOf185
  v33 := Tryz.zeroValue185 }
end Go.Proofs
