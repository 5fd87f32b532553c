/-
  The walk of laws.FnExactBump.
-/
import Derived.Test.YtdghbcjlahjjdaaGreatBumpG02
import Derived.Test.YtdghbcjlahjjdaaGreatBumpG04
import Derived.Test.YtdghbcjlahjjdaaGreatBumpG11
import Derived.Test.YtdghbcjlahjjdaaGreatBumpG07
import Derived.Test.YtdghbcjlahjjdaaGreatBumpG27
import Derived.Test.YtdghbcjlahjjdaaGreatBumpG33
import Derived.Deep.RegionHeld3
import Derived.Deep.RegionWith
namespace Go.Proofs.YtdghbcjlahjjdaaGreat
open Go.RowKit
set_option linter.unusedVariables false

set_option maxHeartbeats 4000000 in
set_option maxRecDepth 100000 in
theorem lawBump (ao0 : Option Addr) (co0 : Nat) (ar0 : Option Addr) (cr0 : Nat) (n0 : List (List Int)) (q0 : List Rec) (w : World) (h0 : InZ w ao0 ar0 n0 q0) (hm0 : SizeZ maxLen n0 q0) :
    Calls Tryz.prog 7 #[.agg #[.slice ao0 n0.length co0, .slice ar0 q0.length cr0]] w fun e w' => e = .returned (.bool true) ∧ Below w.heap.size w w' := by
  have bb := below_alloc (w := w) (.cells #[.slice ao0 n0.length co0, .slice ar0 q0.length cr0] 49)
  have K0 := heap_alloc_new w (.cells #[.slice ao0 n0.length co0, .slice ar0 q0.length cr0] 49)
  replace K0 := hide K0
  have L0 := hide h0
  have HM0 := hide hm0
  clear h0 hm0
  go_enter Tryz.func7, Tryz.ntmps7
  go_wp2_with fail
  generalize w.alloc (.cells #[.slice ao0 n0.length co0, .slice ar0 q0.length cr0] 49) = W at *
  have zk0 := block_lt (unhide K0)
  refine (szZone_any ao0 co0 ar0 cr0 n0 q0 1048576 _ ((unhide L0).below bb) (unhide HM0) (by omega) (by omega)).mono ?_
  rintro e w1 ⟨⟨y0, rfl, hr00, hr10, hr20⟩, b1⟩
  replace bb := below_next bb b1
  replace K0 := hide (block_kept b1 (unhide K0))
  have z1 := b1.size
  clear b1
  by_cases hneg0 : y0 < 0
  · clear hr20
    go_wp2_with fail
    go_ret
    exact ⟨rfl, bb⟩
  have HS0 := hide ((hr20 (by omega)).mono (m' := 1048576) (by omega))
  have HSS0 := hide ((unhide HS0).mono (m' := 2097152) (by omega))
  clear hr20 HM0
  have hP0 := posZ_bound (unhide HS0) 1
  have MK0 := fun (B E : Nat) (v u : Value) (w : World) (hE : E ≤ w.heap.size) (h : OwnZ B E w v u n0 q0) => markZone_z (unhide HS0) 1 (by omega) (by omega) hE h
  generalize posRs q0 (pos n0 1 n0.length) q0.length = P0 at *
  replace MK0 := hide MK0
  have hPn0 : ¬ P0 < 0 := by omega
  have hS0g := bumpOf_size n0 q0
  have SP := fun (w : World) (xo0 xr0 : Value) (h0 : HasZ w xo0 xr0 n0 q0) => specBump_has h0 (fun k hk => ((unhide HS0).recs k hk).name)
  have IM := fun (w : World) (xo0 xr0 : Value) (h0 : HasZ w xo0 xr0 n0 q0) => implBump_own h0
  generalize (bumpOf n0 q0).1.1 = Zo0 at *
  generalize (bumpOf n0 q0).1.2 = Zr0 at *
  generalize (bumpOf n0 q0).2 = G1 at *
  have HS0g := hide (hS0g.mono (m' := 1048576) (by omega))
  have HSS0g := hide (hS0g.mono (m' := 2097152) (by omega))
  clear hS0g
  have hPG0 := posZ_bound (unhide HS0g) 1
  have MKG0 := fun (B s E : Nat) (vo vr : Value) (w : World) (h1 : B ≤ s) (h2 : s ≤ E) (h3 : E ≤ w.heap.size) (h4 : OwnN B s 37 5 w vo Zo0) (h5 : RowO s E 101 37 5 3 w vr Zr0) => markZone_own (unhide HS0g) 1 (by omega) (by omega) h1 h2 h3 h4 h5
  have HDG0 := fun (vo vr : Value) (w : World) (h1 : HasL w vo (markL Zo0 1)) (h2 : HasRs w vr (markRs Zr0 (pos Zo0 1 Zo0.length) Zr0.length)) => heldZone_has (unhide HS0g) 1 (by omega) (by omega) h1 h2
  generalize posRs Zr0 (pos Zo0 1 Zo0.length) Zr0.length = PG0 at *
  generalize markRs Zr0 (pos Zo0 1 Zo0.length) Zr0.length = MR0 at *
  generalize markL Zo0 1 = MO0 at *
  replace MKG0 := hide MKG0
  replace HDG0 := hide HDG0
  have hPGn0 : ¬ PG0 < 0 := by omega
  replace SP := hide SP
  replace IM := hide IM
  have hgg1 : (G1 != G1) = false := by simp
  obtain ⟨c_K00, c_K01⟩ := cells2 (unhide K0)
  go_wp2_with fail
  clear c_K00 c_K01
  refine (toZone_own ao0 co0 ar0 cr0 n0 q0 _ ((unhide L0).below bb) (unhide HS0)).mono ?_
  rintro e w2 ⟨x2, y2, rfl, o2, b2⟩
  obtain ⟨xo2, xoc2, rfl, _⟩ := o2.hasZ.name.form
  obtain ⟨xr2, xrc2, rfl, _⟩ := o2.hasZ.recs.form
  have A2 := hide (o2.hasZ)
  clear o2
  replace bb := below_next bb b2
  replace K0 := hide (block_kept b2 (unhide K0))
  have z2 := b2.size
  clear b2
  obtain ⟨c_K00, c_K01⟩ := cells2 (unhide K0)
  go_wp2_with fail
  clear c_K00 c_K01
  refine (unhide SP _ _ _ (unhide A2)).mono ?_
  rintro e w3 ⟨yo3_0, yr3_0, rfl, oz3_0, b3⟩
  clear A2
  replace bb := below_next bb b3
  replace K0 := hide (block_kept b3 (unhide K0))
  have z3 := b3.size
  clear b3
  have BW := hide (Below.refl w3.heap.size w3)
  obtain ⟨yoa3_0, yoc3_0, rfl, _⟩ := oz3_0.name.form
  obtain ⟨yra3_0, yrc3_0, rfl, _⟩ := oz3_0.recs.form
  have Wz0 := hide oz3_0
  clear oz3_0
  have b4 := below_alloc (w := w3) (.cells #[.slice yoa3_0 Zo0.length yoc3_0, .slice yra3_0 Zr0.length yrc3_0] 55)
  have VW0 := hide (heap_alloc_new w3 (.cells #[.slice yoa3_0 Zo0.length yoc3_0, .slice yra3_0 Zr0.length yrc3_0] 55))
  obtain ⟨c_K00, c_K01⟩ := cells2 (block_kept b4 (unhide K0))
  go_wp2_with fail
  clear c_K00 c_K01
  generalize w3.alloc (.cells #[.slice yoa3_0 Zo0.length yoc3_0, .slice yra3_0 Zr0.length yrc3_0] 55) = w4 at *
  replace bb := below_next bb b4
  replace K0 := hide (block_kept b4 (unhide K0))
  replace BW := hide ((unhide BW).trans (b4.mono (unhide BW).size))
  have z4 := b4.size
  clear b4
  have zz4 := block_lt (unhide VW0)
  obtain ⟨c_K00, c_K01⟩ := cells2 (unhide K0)
  obtain ⟨c_VW00, c_VW01⟩ := cells2 (unhide VW0)
  go_wp2_with fail
  clear c_K00 c_K01
  clear c_VW00 c_VW01
  refine (toZone_own ao0 co0 ar0 cr0 n0 q0 _ ((unhide L0).below bb) (unhide HS0)).mono ?_
  rintro e w5 ⟨x5, y5, rfl, o5, b5⟩
  obtain ⟨xo5, xoc5, rfl, _⟩ := o5.hasZ.name.form
  obtain ⟨xr5, xrc5, rfl, _⟩ := o5.hasZ.recs.form
  have X0 := hide o5
  clear o5
  replace bb := below_next bb b5
  replace K0 := hide (block_kept b5 (unhide K0))
  replace BW := hide ((unhide BW).trans (b5.mono (unhide BW).size))
  replace VW0 := hide (block_kept b5 (unhide VW0))
  have z5 := b5.size
  clear b5
  have b6 := below_alloc (w := w5) (.cells #[.slice xo5 n0.length xoc5, .slice xr5 q0.length xrc5] 55)
  have VX0 := hide (heap_alloc_new w5 (.cells #[.slice xo5 n0.length xoc5, .slice xr5 q0.length xrc5] 55))
  obtain ⟨c_K00, c_K01⟩ := cells2 (block_kept b6 (unhide K0))
  obtain ⟨c_VW00, c_VW01⟩ := cells2 (block_kept b6 (unhide VW0))
  go_wp2_with fail
  clear c_K00 c_K01
  clear c_VW00 c_VW01
  generalize w5.alloc (.cells #[.slice xo5 n0.length xoc5, .slice xr5 q0.length xrc5] 55) = w6 at *
  replace bb := below_next bb b6
  replace K0 := hide (block_kept b6 (unhide K0))
  replace BW := hide ((unhide BW).trans (b6.mono (unhide BW).size))
  replace VW0 := hide (block_kept b6 (unhide VW0))
  replace X0 := hide ((unhide X0).below b6)
  have z6 := b6.size
  clear b6
  have zz6 := block_lt (unhide VX0)
  refine (unhide IM _ _ _ (unhide X0).hasZ).mono ?_
  rintro e w7 ⟨yo7_0, yr7_0, rfl, ⟨s7_0, s17_0, s27_0, on7_0, or7_0⟩, b7⟩
  replace bb := below_next bb b7
  replace K0 := hide (block_kept b7 (unhide K0))
  replace BW := hide ((unhide BW).trans (b7.mono (unhide BW).size))
  replace VW0 := hide (block_kept b7 (unhide VW0))
  replace X0 := hide ((unhide X0).below b7)
  replace VX0 := hide (block_kept b7 (unhide VX0))
  have z7 := b7.size
  clear b7
  obtain ⟨yoa7_0, yoc7_0, rfl, _⟩ := on7_0.hasL.form
  obtain ⟨yra7_0, yrc7_0, rfl, _⟩ := or7_0.form
  have Go0 := hide on7_0
  have Gr0 := hide or7_0
  clear on7_0 or7_0
  have b8 := below_alloc (w := w7) (.cells #[.slice yoa7_0 Zo0.length yoc7_0, .slice yra7_0 Zr0.length yrc7_0] 55)
  have VG0 := hide (heap_alloc_new w7 (.cells #[.slice yoa7_0 Zo0.length yoc7_0, .slice yra7_0 Zr0.length yrc7_0] 55))
  obtain ⟨c_K00, c_K01⟩ := cells2 (block_kept b8 (unhide K0))
  obtain ⟨c_VW00, c_VW01⟩ := cells2 (block_kept b8 (unhide VW0))
  obtain ⟨c_VX00, c_VX01⟩ := cells2 (block_kept b8 (unhide VX0))
  go_wp2_with fail
  clear c_K00 c_K01
  clear c_VW00 c_VW01
  clear c_VX00 c_VX01
  generalize w7.alloc (.cells #[.slice yoa7_0 Zo0.length yoc7_0, .slice yra7_0 Zr0.length yrc7_0] 55) = w8 at *
  replace bb := below_next bb b8
  replace K0 := hide (block_kept b8 (unhide K0))
  replace BW := hide ((unhide BW).trans (b8.mono (unhide BW).size))
  replace VW0 := hide (block_kept b8 (unhide VW0))
  replace X0 := hide ((unhide X0).below b8)
  replace VX0 := hide (block_kept b8 (unhide VX0))
  replace Go0 := hide ((unhide Go0).below b8)
  replace Gr0 := hide ((unhide Gr0).below b8)
  have z8 := b8.size
  clear b8
  have zz8 := block_lt (unhide VG0)
  obtain ⟨c_K00, c_K01⟩ := cells2 (unhide K0)
  obtain ⟨c_VW00, c_VW01⟩ := cells2 (unhide VW0)
  obtain ⟨c_VX00, c_VX01⟩ := cells2 (unhide VX0)
  obtain ⟨c_VG00, c_VG01⟩ := cells2 (unhide VG0)
  go_wp2_with fail
  clear c_K00 c_K01
  clear c_VW00 c_VW01
  clear c_VX00 c_VX01
  clear c_VG00 c_VG01
  refine (eqZone_has ⟨(unhide Go0).hasL, (unhide Gr0).has⟩ ((unhide Wz0).below (unhide BW)) (unhide HSS0g)).mono ?_
  rintro e w9 ⟨rfl, b9⟩
  replace bb := below_next bb b9
  replace K0 := hide (block_kept b9 (unhide K0))
  replace BW := hide ((unhide BW).trans (b9.mono (unhide BW).size))
  replace VW0 := hide (block_kept b9 (unhide VW0))
  replace X0 := hide ((unhide X0).below b9)
  replace VX0 := hide (block_kept b9 (unhide VX0))
  replace Go0 := hide ((unhide Go0).below b9)
  replace Gr0 := hide ((unhide Gr0).below b9)
  replace VG0 := hide (block_kept b9 (unhide VG0))
  have z9 := b9.size
  clear b9
  have bd := below_drew (w := w9)
  have zdw9 : w9.drew.heap.size = w9.heap.size := rfl
  replace bb := below_next bb bd
  replace K0 := hide (block_kept bd (unhide K0))
  replace BW := hide ((unhide BW).trans (bd.mono (unhide BW).size))
  replace VW0 := hide (block_kept bd (unhide VW0))
  replace X0 := hide ((unhide X0).below bd)
  replace VX0 := hide (block_kept bd (unhide VX0))
  replace Go0 := hide ((unhide Go0).below bd)
  replace Gr0 := hide ((unhide Gr0).below bd)
  replace VG0 := hide (block_kept bd (unhide VG0))
  clear bd
  obtain ⟨c_K00, c_K01⟩ := cells2 (unhide K0)
  obtain ⟨c_VW00, c_VW01⟩ := cells2 (unhide VW0)
  obtain ⟨c_VX00, c_VX01⟩ := cells2 (unhide VX0)
  obtain ⟨c_VG00, c_VG01⟩ := cells2 (unhide VG0)
  go_wp2_with fail
  clear c_K00 c_K01
  clear c_VW00 c_VW01
  clear c_VX00 c_VX01
  clear c_VG00 c_VG01
  go_region_held3 (fun w' => (w'.cell? ⟨w.heap.size, 0, none⟩ = some (.slice ao0 n0.length co0) ∧ w'.cell? ⟨w.heap.size, 1, none⟩ = some (.slice ar0 q0.length cr0)) ∧ (w'.cell? ⟨w5.heap.size, 0, none⟩ = some (.slice xo5 n0.length xoc5) ∧ w'.cell? ⟨w5.heap.size, 1, none⟩ = some (.slice xr5 q0.length xrc5)))
    (first | exact ⟨cells2 (unhide K0), cells2 (unhide VX0)⟩ | exact ⟨cells2 (block_kept b10 (unhide K0)), cells2 (block_kept b10 (unhide VX0))⟩ | exact ⟨cells2 (block_kept q11 (unhide K0)), cells2 (block_kept q11 (unhide VX0))⟩)
    (first
    | (go_at_call 26; refine (toZone_own ao0 co0 ar0 cr0 n0 q0 _ ((unhide L0).below bb) (unhide HS0)).mono ?_; rintro e w10 ⟨x10, y10, rfl, o10, b10⟩; obtain ⟨xo10, xoc10, rfl, _⟩ := o10.hasZ.name.form; obtain ⟨xr10, xrc10, rfl, _⟩ := o10.hasZ.recs.form)
    | (go_at_call 30; refine (eqZone_has ((unhide X0).below b10).hasZ o10.hasZ (unhide HSS0)).mono ?_; rintro e w11 ⟨rfl, b11⟩; have q11 := below_next b10 b11))
  clear b10 b11 o10
  replace bb := below_next bb q11
  replace K0 := hide (block_kept q11 (unhide K0))
  replace BW := hide ((unhide BW).trans (q11.mono (unhide BW).size))
  replace VW0 := hide (block_kept q11 (unhide VW0))
  replace X0 := hide ((unhide X0).below q11)
  replace VX0 := hide (block_kept q11 (unhide VX0))
  replace Go0 := hide ((unhide Go0).below q11)
  replace Gr0 := hide ((unhide Gr0).below q11)
  replace VG0 := hide (block_kept q11 (unhide VG0))
  have z11 := q11.size
  clear q11
  obtain ⟨c_K00, c_K01⟩ := cells2 (unhide K0)
  obtain ⟨c_VW00, c_VW01⟩ := cells2 (unhide VW0)
  obtain ⟨c_VX00, c_VX01⟩ := cells2 (unhide VX0)
  obtain ⟨c_VG00, c_VG01⟩ := cells2 (unhide VG0)
  go_wp2_with fail
  clear c_K00 c_K01
  clear c_VW00 c_VW01
  clear c_VX00 c_VX01
  clear c_VG00 c_VG01
  refine (unhide MK0 _ _ _ _ _ (by omega) (unhide X0)).mono ?_
  rintro e w12 ⟨rfl, u12⟩
  clear X0
  replace bb := u12.below bb (by omega)
  replace K0 := hide (u12.kept (unhide K0) (by omega))
  replace BW := hide (u12.belowAt (unhide BW) (Nat.le_refl _) (by omega))
  replace VW0 := hide (u12.kept (unhide VW0) (by omega))
  replace VX0 := hide (u12.kept (unhide VX0) (by omega))
  replace Go0 := hide ((unhide Go0).outside u12 (by omega))
  replace Gr0 := hide ((unhide Gr0).outside u12 (by omega))
  replace VG0 := hide (u12.kept (unhide VG0) (by omega))
  have z12 := u12.size
  clear u12
  obtain ⟨c_K00, c_K01⟩ := cells2 (unhide K0)
  obtain ⟨c_VW00, c_VW01⟩ := cells2 (unhide VW0)
  obtain ⟨c_VX00, c_VX01⟩ := cells2 (unhide VX0)
  obtain ⟨c_VG00, c_VG01⟩ := cells2 (unhide VG0)
  go_wp2_with fail
  clear c_K00 c_K01
  clear c_VW00 c_VW01
  clear c_VX00 c_VX01
  clear c_VG00 c_VG01
  refine (eqZone_has ⟨(unhide Go0).hasL, (unhide Gr0).has⟩ ((unhide Wz0).below (unhide BW)) (unhide HSS0g)).mono ?_
  rintro e w13 ⟨rfl, b13⟩
  replace bb := below_next bb b13
  replace K0 := hide (block_kept b13 (unhide K0))
  replace BW := hide ((unhide BW).trans (b13.mono (unhide BW).size))
  replace VW0 := hide (block_kept b13 (unhide VW0))
  replace VX0 := hide (block_kept b13 (unhide VX0))
  replace Go0 := hide ((unhide Go0).below b13)
  replace Gr0 := hide ((unhide Gr0).below b13)
  replace VG0 := hide (block_kept b13 (unhide VG0))
  have z13 := b13.size
  clear b13
  obtain ⟨c_K00, c_K01⟩ := cells2 (unhide K0)
  obtain ⟨c_VW00, c_VW01⟩ := cells2 (unhide VW0)
  obtain ⟨c_VX00, c_VX01⟩ := cells2 (unhide VX0)
  obtain ⟨c_VG00, c_VG01⟩ := cells2 (unhide VG0)
  go_wp2_with fail
  clear c_K00 c_K01
  clear c_VW00 c_VW01
  clear c_VX00 c_VX01
  clear c_VG00 c_VG01
  refine (unhide MKG0 _ _ _ _ _ _ (by omega) (by omega) (by omega) (unhide Go0) (unhide Gr0)).mono ?_
  rintro e w14 ⟨rfl, MO_0, MR_0, u14⟩
  clear Go0 Gr0
  replace bb := u14.below bb (by omega)
  replace K0 := hide (u14.kept (unhide K0) (by omega))
  replace BW := hide (u14.belowAt (unhide BW) (Nat.le_refl _) (by omega))
  replace VW0 := hide (u14.kept (unhide VW0) (by omega))
  replace VX0 := hide (u14.kept (unhide VX0) (by omega))
  replace VG0 := hide (u14.kept (unhide VG0) (by omega))
  have z14 := u14.size
  clear u14
  replace MO_0 := hide MO_0
  replace MR_0 := hide MR_0
  obtain ⟨c_K00, c_K01⟩ := cells2 (unhide K0)
  obtain ⟨c_VW00, c_VW01⟩ := cells2 (unhide VW0)
  obtain ⟨c_VX00, c_VX01⟩ := cells2 (unhide VX0)
  obtain ⟨c_VG00, c_VG01⟩ := cells2 (unhide VG0)
  go_wp2_with fail
  clear c_K00 c_K01
  clear c_VW00 c_VW01
  clear c_VX00 c_VX01
  clear c_VG00 c_VG01
  refine (unhide HDG0 _ _ _ (unhide MO_0).hasL (unhide MR_0).has).mono ?_
  rintro e w15 ⟨rfl, b15⟩
  replace bb := below_next bb b15
  replace K0 := hide (block_kept b15 (unhide K0))
  replace BW := hide ((unhide BW).trans (b15.mono (unhide BW).size))
  replace VW0 := hide (block_kept b15 (unhide VW0))
  replace VX0 := hide (block_kept b15 (unhide VX0))
  replace VG0 := hide (block_kept b15 (unhide VG0))
  replace MO_0 := hide ((unhide MO_0).below b15)
  replace MR_0 := hide ((unhide MR_0).below b15)
  have z15 := b15.size
  clear b15
  obtain ⟨c_K00, c_K01⟩ := cells2 (unhide K0)
  obtain ⟨c_VW00, c_VW01⟩ := cells2 (unhide VW0)
  obtain ⟨c_VX00, c_VX01⟩ := cells2 (unhide VX0)
  obtain ⟨c_VG00, c_VG01⟩ := cells2 (unhide VG0)
  go_wp2_with fail
  clear c_K00 c_K01
  clear c_VW00 c_VW01
  clear c_VX00 c_VX01
  clear c_VG00 c_VG01
  refine (toZone_own ao0 co0 ar0 cr0 n0 q0 _ ((unhide L0).below bb) (unhide HS0)).mono ?_
  rintro e w16 ⟨x16, y16, rfl, o16, b16⟩
  obtain ⟨xo16, xoc16, rfl, _⟩ := o16.hasZ.name.form
  obtain ⟨xr16, xrc16, rfl, _⟩ := o16.hasZ.recs.form
  have A16 := hide (o16.hasZ)
  clear o16
  replace bb := below_next bb b16
  replace K0 := hide (block_kept b16 (unhide K0))
  replace BW := hide ((unhide BW).trans (b16.mono (unhide BW).size))
  replace VW0 := hide (block_kept b16 (unhide VW0))
  replace VX0 := hide (block_kept b16 (unhide VX0))
  replace VG0 := hide (block_kept b16 (unhide VG0))
  replace MO_0 := hide ((unhide MO_0).below b16)
  replace MR_0 := hide ((unhide MR_0).below b16)
  have z16 := b16.size
  clear b16
  obtain ⟨c_K00, c_K01⟩ := cells2 (unhide K0)
  obtain ⟨c_VW00, c_VW01⟩ := cells2 (unhide VW0)
  obtain ⟨c_VX00, c_VX01⟩ := cells2 (unhide VX0)
  obtain ⟨c_VG00, c_VG01⟩ := cells2 (unhide VG0)
  go_wp2_with fail
  clear c_K00 c_K01
  clear c_VW00 c_VW01
  clear c_VX00 c_VX01
  clear c_VG00 c_VG01
  refine (unhide IM _ _ _ (unhide A16)).mono ?_
  rintro e w17 ⟨yo17_0, yr17_0, rfl, ⟨s17_0, s117_0, s217_0, on17_0, or17_0⟩, b17⟩
  clear A16
  replace bb := below_next bb b17
  replace K0 := hide (block_kept b17 (unhide K0))
  replace BW := hide ((unhide BW).trans (b17.mono (unhide BW).size))
  replace VW0 := hide (block_kept b17 (unhide VW0))
  replace VX0 := hide (block_kept b17 (unhide VX0))
  replace VG0 := hide (block_kept b17 (unhide VG0))
  replace MO_0 := hide ((unhide MO_0).below b17)
  replace MR_0 := hide ((unhide MR_0).below b17)
  have z17 := b17.size
  clear b17
  obtain ⟨yoa17_0, yoc17_0, rfl, _⟩ := on17_0.hasL.form
  obtain ⟨yra17_0, yrc17_0, rfl, _⟩ := or17_0.form
  have Ho0 := hide on17_0
  have Hr0 := hide or17_0
  clear on17_0 or17_0
  have b18 := below_alloc (w := w17) (.cells #[.slice yoa17_0 Zo0.length yoc17_0, .slice yra17_0 Zr0.length yrc17_0] 55)
  have VH0 := hide (heap_alloc_new w17 (.cells #[.slice yoa17_0 Zo0.length yoc17_0, .slice yra17_0 Zr0.length yrc17_0] 55))
  obtain ⟨c_K00, c_K01⟩ := cells2 (block_kept b18 (unhide K0))
  obtain ⟨c_VW00, c_VW01⟩ := cells2 (block_kept b18 (unhide VW0))
  obtain ⟨c_VX00, c_VX01⟩ := cells2 (block_kept b18 (unhide VX0))
  obtain ⟨c_VG00, c_VG01⟩ := cells2 (block_kept b18 (unhide VG0))
  go_wp2_with fail
  clear c_K00 c_K01
  clear c_VW00 c_VW01
  clear c_VX00 c_VX01
  clear c_VG00 c_VG01
  generalize w17.alloc (.cells #[.slice yoa17_0 Zo0.length yoc17_0, .slice yra17_0 Zr0.length yrc17_0] 55) = w18 at *
  replace bb := below_next bb b18
  replace K0 := hide (block_kept b18 (unhide K0))
  replace BW := hide ((unhide BW).trans (b18.mono (unhide BW).size))
  replace VW0 := hide (block_kept b18 (unhide VW0))
  replace VX0 := hide (block_kept b18 (unhide VX0))
  replace VG0 := hide (block_kept b18 (unhide VG0))
  replace MO_0 := hide ((unhide MO_0).below b18)
  replace MR_0 := hide ((unhide MR_0).below b18)
  replace Ho0 := hide ((unhide Ho0).below b18)
  replace Hr0 := hide ((unhide Hr0).below b18)
  have z18 := b18.size
  clear b18
  have zz18 := block_lt (unhide VH0)
  obtain ⟨c_K00, c_K01⟩ := cells2 (unhide K0)
  obtain ⟨c_VW00, c_VW01⟩ := cells2 (unhide VW0)
  obtain ⟨c_VX00, c_VX01⟩ := cells2 (unhide VX0)
  obtain ⟨c_VG00, c_VG01⟩ := cells2 (unhide VG0)
  obtain ⟨c_VH00, c_VH01⟩ := cells2 (unhide VH0)
  go_wp2_with fail
  clear c_K00 c_K01
  clear c_VW00 c_VW01
  clear c_VX00 c_VX01
  clear c_VG00 c_VG01
  clear c_VH00 c_VH01
  refine (eqZone_has ⟨(unhide Ho0).hasL, (unhide Hr0).has⟩ ((unhide Wz0).below (unhide BW)) (unhide HSS0g)).mono ?_
  rintro e w19 ⟨rfl, b19⟩
  replace bb := below_next bb b19
  replace K0 := hide (block_kept b19 (unhide K0))
  replace BW := hide ((unhide BW).trans (b19.mono (unhide BW).size))
  replace VW0 := hide (block_kept b19 (unhide VW0))
  replace VX0 := hide (block_kept b19 (unhide VX0))
  replace VG0 := hide (block_kept b19 (unhide VG0))
  replace MO_0 := hide ((unhide MO_0).below b19)
  replace MR_0 := hide ((unhide MR_0).below b19)
  replace Ho0 := hide ((unhide Ho0).below b19)
  replace Hr0 := hide ((unhide Hr0).below b19)
  replace VH0 := hide (block_kept b19 (unhide VH0))
  have z19 := b19.size
  clear b19
  obtain ⟨c_K00, c_K01⟩ := cells2 (unhide K0)
  obtain ⟨c_VW00, c_VW01⟩ := cells2 (unhide VW0)
  obtain ⟨c_VX00, c_VX01⟩ := cells2 (unhide VX0)
  obtain ⟨c_VG00, c_VG01⟩ := cells2 (unhide VG0)
  obtain ⟨c_VH00, c_VH01⟩ := cells2 (unhide VH0)
  go_wp2_with fail
  clear c_K00 c_K01
  clear c_VW00 c_VW01
  clear c_VX00 c_VX01
  clear c_VG00 c_VG01
  clear c_VH00 c_VH01
  refine (unhide HDG0 _ _ _ (unhide MO_0).hasL (unhide MR_0).has).mono ?_
  rintro e w20 ⟨rfl, b20⟩
  replace bb := below_next bb b20
  replace K0 := hide (block_kept b20 (unhide K0))
  replace BW := hide ((unhide BW).trans (b20.mono (unhide BW).size))
  replace VW0 := hide (block_kept b20 (unhide VW0))
  replace VX0 := hide (block_kept b20 (unhide VX0))
  replace VG0 := hide (block_kept b20 (unhide VG0))
  replace MO_0 := hide ((unhide MO_0).below b20)
  replace MR_0 := hide ((unhide MR_0).below b20)
  replace Ho0 := hide ((unhide Ho0).below b20)
  replace Hr0 := hide ((unhide Hr0).below b20)
  replace VH0 := hide (block_kept b20 (unhide VH0))
  have z20 := b20.size
  clear b20
  go_wp2_with fail
  go_ret
  exact ⟨rfl, bb⟩
end Go.Proofs.YtdghbcjlahjjdaaGreat
