/-
  The walk of laws.FnExactDropSet.
-/
import Derived.Test.YtfgcmjpkgdjcfaaGreatDropSetG01
import Derived.Test.YtfgcmjpkgdjcfaaGreatDropSetG03
import Derived.Test.YtfgcmjpkgdjcfaaGreatDropSetG04
import Derived.Test.YtfgcmjpkgdjcfaaGreatDropSetG08
import Derived.Test.YtfgcmjpkgdjcfaaGreatDropSetG05
import Derived.Test.YtfgcmjpkgdjcfaaGreatDropSetG34
import Derived.Test.YtfgcmjpkgdjcfaaGreatDropSetG39
import Derived.Deep.RegionHeld3
import Derived.Deep.RegionWith
namespace Go.Proofs.YtfgcmjpkgdjcfaaGreat
open Go.RowKit
set_option linter.unusedVariables false

set_option maxHeartbeats 4000000 in
set_option maxRecDepth 100000 in
theorem lawDropSet (ao0 : Option Addr) (co0 : Nat) (ar0 : Option Addr) (cr0 : Nat) (n0 : List (List Int)) (q0 : List Rec) (a1 : Option Addr) (cap1 : Nat) (n1 : List (List Int)) (p2 : Int) (w : World) (h0 : InZ w ao0 ar0 n0 q0) (hm0 : SizeZ maxLen n0 q0) (h1 : LiesL w a1 n1) (hm1 : n1.length ≤ maxLen) (hmm1 : ∀ i, i < n1.length → (n1.getD i []).length ≤ maxLen) (hp2 : (Lit.int .i64 p2).wf = true) :
  Calls Tryz.prog 3 #[.agg #[.slice ao0 n0.length co0, .slice ar0 q0.length cr0], .agg #[.slice a1 n1.length cap1], .int .i64 p2] w fun e w' => e = .returned (.bool true) ∧ Below w.heap.size w w' := by
 have bb := below_alloc (w := w) (.cells #[.slice ao0 n0.length co0, .slice ar0 q0.length cr0] 27)
 have K0 := heap_alloc_new w (.cells #[.slice ao0 n0.length co0, .slice ar0 q0.length cr0] 27)
 have e1 : (w.alloc (.cells #[.slice ao0 n0.length co0, .slice ar0 q0.length cr0] 27)).heap.size = w.heap.size + 1 := by show (w.heap.push _).size = _; simp
 have b2 := below_alloc (w := w.alloc (.cells #[.slice ao0 n0.length co0, .slice ar0 q0.length cr0] 27)) (.cells #[.slice a1 n1.length cap1] 24)
 have K1 := heap_alloc_new (w.alloc (.cells #[.slice ao0 n0.length co0, .slice ar0 q0.length cr0] 27)) (.cells #[.slice a1 n1.length cap1] 24)
 replace K0 := block_kept b2 K0
 rw [e1] at K1
 replace bb := below_next bb b2
 clear b2 e1
 replace K0 := hide K0
 replace K1 := hide K1
 have L0 := hide h0
 have HM0 := hide hm0
 clear h0 hm0
 have L1 := hide h1
 have HM1 := hide hmm1
 clear h1 hmm1
 have hq2 : p2 ≤ 9223372036854775807 := by
  have := (i64_bounds hp2).2
  omega
 go_enter Tryz.func3, Tryz.ntmps3
 go_wp2_with fail
 generalize (w.alloc (.cells #[.slice ao0 n0.length co0, .slice ar0 q0.length cr0] 27)).alloc (.cells #[.slice a1 n1.length cap1] 24) = W at *
 have zk0 := block_lt (unhide K0)
 have zk1 := block_lt (unhide K1)
 refine (szZone_any ao0 co0 ar0 cr0 n0 q0 1048576 _ ((unhide L0).below bb) (unhide HM0) (by omega) (by omega)).mono ?_
 rintro e w1 ⟨⟨y0, rfl, hr00, hr10, hr20⟩, b1⟩
 replace bb := below_next bb b1
 replace K0 := hide (block_kept b1 (unhide K0))
 replace K1 := hide (block_kept b1 (unhide K1))
 have z1 := b1.size
 clear b1
 by_cases hneg0 : y0 < 0
 ·clear hr20
  go_wp2_with fail
  go_ret
  exact ⟨rfl, bb⟩
 have HS0 := hide ((hr20 (by omega)).mono (m' := 1048576) (by omega))
 have HSS0 := hide ((unhide HS0).mono (m' := 2097152) (by omega))
 clear hr20 HM0
 obtain ⟨c_K00, c_K01⟩ := cells2 (unhide K0)
 have c_K1 := block_one (unhide K1)
 go_wp2_with fail
 clear c_K00 c_K01
 clear c_K1
 refine (szName_any a1 cap1 n1 y0 _ ((unhide L1).below bb) hm1 (unhide HM1) (by omega) (by omega)).mono ?_
 rintro e w2 ⟨⟨y1, rfl, hr01, hr11, hr21⟩, b2⟩
 replace bb := below_next bb b2
 replace K0 := hide (block_kept b2 (unhide K0))
 replace K1 := hide (block_kept b2 (unhide K1))
 have z2 := b2.size
 clear b2
 by_cases hneg1 : y1 < 0
 ·clear hr21
  go_wp2_with fail
  go_ret
  exact ⟨rfl, bb⟩
 obtain ⟨hn1, hn2⟩ := hr21 (by omega)
 have hl1 : n1.length ≤ 1048576 := by omega
 have HL1 := hide (show ∀ i, i < n1.length → (n1.getD i []).length ≤ 1048576 from fun i hi => by have := hn2 i hi; omega)
 have HLL1 := hide (show ∀ i, i < n1.length → (n1.getD i []).length ≤ 2097152 from fun i hi => by have := hn2 i hi; omega)
 clear hr21 hn1 hn2 hm1 HM1
 have hP0 := posZ_bound (unhide HS0) 1
 have MK0 := fun (B E : Nat) (v u : Value) (w : World) (hE : E ≤ w.heap.size) (h : OwnZ B E w v u n0 q0) => markZone_z (unhide HS0) 1 (by omega) (by omega) hE h
 generalize posRs q0 (pos n0 1 n0.length) q0.length = P0 at *
 replace MK0 := hide MK0
 have hPn0 : ¬ P0 < 0 := by omega
 have hP1 := pos_bound' n1 P0 hl1 (unhide HL1)
 have MK1 := fun (B E : Nat) (v : Value) (w : World) (h : OwnN B E 56 5 w v n1) => markName_any P0 h hl1 (unhide HL1) (by omega) (by omega)
 generalize pos n1 P0 n1.length = P1 at *
 replace MK1 := hide MK1
 have hPn1 : ¬ P1 < 0 := by omega
 have hS0g := dropSet_size n0 q0 n1 p2
 have SP := fun (w : World) (xo0 xr0 : Value) (h0 : HasZ w xo0 xr0 n0 q0) (x1 : Value) (h1 : HasL w x1 n1) => specDropSet_has p2 h0 h1 (fun k hk => ((unhide HS0).recs k hk).name)
 have IM := fun (w : World) (xo0 xr0 : Value) (h0 : HasZ w xo0 xr0 n0 q0) (x1 : Value) (h1 : HasL w x1 n1) => implDropSet_own p2 h0 h1
 generalize (dropSetOf n0 q0 n1 p2).1.1 = Zo0 at *
 generalize (dropSetOf n0 q0 n1 p2).1.2 = Zr0 at *
 generalize (dropSetOf n0 q0 n1 p2).2 = G1 at *
 have HS0g := hide (hS0g.mono (m' := 1048576) (by omega))
 have HSS0g := hide (hS0g.mono (m' := 2097152) (by omega))
 clear hS0g
 have hPG0 := posZ_bound (unhide HS0g) 1
 have MKG0 := fun (B s E : Nat) (vo vr : Value) (w : World) (h1 : B ≤ s) (h2 : s ≤ E) (h3 : E ≤ w.heap.size) (h4 : OwnN B s 56 5 w vo Zo0) (h5 : RowO s E 59 56 5 3 w vr Zr0) => markZone_own (unhide HS0g) 1 (by omega) (by omega) h1 h2 h3 h4 h5
 have HDG0 := fun (vo vr : Value) (w : World) (h1 : HasL w vo (markL Zo0 1)) (h2 : HasRs w vr (markRs Zr0 (pos Zo0 1 Zo0.length) Zr0.length)) => heldZone_has (unhide HS0g) 1 (by omega) (by omega) h1 h2
 generalize posRs Zr0 (pos Zo0 1 Zo0.length) Zr0.length = PG0 at *
 generalize markRs Zr0 (pos Zo0 1 Zo0.length) Zr0.length = MR0 at *
 generalize markL Zo0 1 = MO0 at *
 replace MKG0 := hide MKG0
 replace HDG0 := hide HDG0
 have hPGn0 : ¬ PG0 < 0 := by omega
 replace SP := hide SP
 replace IM := hide IM
 have hgg1 : (G1 != G1) = false := by simp
 have bd := below_drew (w := w2)
 have zdw2 : w2.drew.heap.size = w2.heap.size := rfl
 replace bb := below_next bb bd
 replace K0 := hide (block_kept bd (unhide K0))
 replace K1 := hide (block_kept bd (unhide K1))
 clear bd
 obtain ⟨c_K00, c_K01⟩ := cells2 (unhide K0)
 have c_K1 := block_one (unhide K1)
 go_wp2_with fail
 clear c_K00 c_K01
 clear c_K1
 go_region_held3 (fun w' => (w'.cell? ⟨w.heap.size, 0, none⟩ = some (.slice ao0 n0.length co0) ∧ w'.cell? ⟨w.heap.size, 1, none⟩ = some (.slice ar0 q0.length cr0)) ∧ (w'.cell? ⟨w.heap.size + 1, 0, none⟩ = some (.slice a1 n1.length cap1)))
  (first | exact ⟨cells2 (unhide K0), block_one (unhide K1)⟩ | exact ⟨cells2 (block_kept (below_alloc _) (unhide K0)), block_one (block_kept (below_alloc _) (unhide K1))⟩ | exact ⟨cells2 (block_kept q3 (unhide K0)), block_one (block_kept q3 (unhide K1))⟩ | exact ⟨cells2 (block_kept (below_next q3 (below_alloc _)) (unhide K0)), block_one (block_kept (below_next q3 (below_alloc _)) (unhide K1))⟩ | exact ⟨cells2 (block_kept q4 (unhide K0)), block_one (block_kept q4 (unhide K1))⟩ | exact ⟨cells2 (block_kept (below_next q4 (below_alloc _)) (unhide K0)), block_one (block_kept (below_next q4 (below_alloc _)) (unhide K1))⟩ | exact ⟨cells2 (block_kept q5 (unhide K0)), block_one (block_kept q5 (unhide K1))⟩ | exact ⟨cells2 (block_kept (below_next q5 (below_alloc _)) (unhide K0)), block_one (block_kept (below_next q5 (below_alloc _)) (unhide K1))⟩ | exact ⟨cells2 (keep_two (block_kept q5 (unhide K0)) (by omega)), block_one (keep_two (block_kept q5 (unhide K1)) (by omega))⟩ | exact ⟨cells2 (keep_two (block_kept (below_next q5 (below_alloc _)) (unhide K0)) (by omega)), block_one (keep_two (block_kept (below_next q5 (below_alloc _)) (unhide K1)) (by omega))⟩)
  (first
  | (go_at_call_of 8 (Value.slice ao0 n0.length co0); refine (toZone_own ao0 co0 ar0 cr0 n0 q0 _ ((unhide L0).below (by first | exact bb | exact below_next bb (below_alloc _))) (unhide HS0)).mono ?_; rintro e w3 ⟨x3, y3, rfl, o3, b3⟩; obtain ⟨xo3, xoc3, rfl, _⟩ := o3.hasZ.name.form; obtain ⟨xr3, xrc3, rfl, _⟩ := o3.hasZ.recs.form; have c3 : Below w2.drew.heap.size w2.drew w3 := (by first | exact b3 | exact below_next (below_alloc _) b3); have q3 : Below w2.drew.heap.size w2.drew w3 := c3; have z3 := q3.size; have y3z := c3.size; (first | (have ka3 : w3.heap[w2.heap.size]? = some (.cells #[.slice none 0 0, .slice none 0 0] 33) := block_kept b3 (heap_alloc_new w2.drew (.cells #[.slice none 0 0, .slice none 0 0] 33))) | skip); (first | (have ea3 := (cells2 ka3).1; have eb3 := (cells2 ka3).2; have ec3 := (frozen2 ka3).1; have ed3 := (frozen2 ka3).2) | skip))
  | (go_at_call_of 9 (Value.slice a1 n1.length cap1); refine (toName_any a1 cap1 n1 _ ((unhide L1).below (by first | exact below_next bb q3 | exact below_next (below_next bb q3) (below_alloc _))) hl1 (unhide HL1)).mono ?_; rintro e w4 ⟨x4, rfl, o4, b4⟩; obtain ⟨xa4, xc4, rfl, _⟩ := o4.hasL.form; have c4 : Below w3.heap.size w3 w4 := (by first | exact b4 | exact below_next (below_alloc _) b4); have q4 : Below w2.drew.heap.size w2.drew w4 := below_next q3 c4; have z4 := q4.size; have y4z := c4.size; (first | (have ka4 : w4.heap[w3.heap.size]? = some (.cells #[.slice none 0 0, .slice none 0 0] 33) := block_kept b4 (heap_alloc_new w3 (.cells #[.slice none 0 0, .slice none 0 0] 33))) | skip); (first | (have ka4 := block_kept b4 ka3) | skip); (first | (have ea4 := (cells2 ka4).1; have eb4 := (cells2 ka4).2; have ec4 := (frozen2 ka4).1; have ed4 := (frozen2 ka4).2) | skip))
  | (go_at_call 7; refine (unhide SP _ _ _ (by first | exact (o3.below c4).hasZ | exact ((o3.below c4).below (below_alloc _)).hasZ) _ (by first | exact o4.hasL | exact (o4.below (below_alloc _)).hasL)).mono ?_; rintro e w5 ⟨yo5_0, yr5_0, rfl, on5_0, or5_0, b5⟩; obtain ⟨yoa5_0, yoc5_0, rfl, _⟩ := on5_0.hasL.form; obtain ⟨yra5_0, yrc5_0, rfl, _⟩ := or5_0.form; have c5 : Below w4.heap.size w4 w5 := (by first | exact b5 | exact below_next (below_alloc _) b5); have q5 : Below w2.drew.heap.size w2.drew w5 := below_next q4 c5; have z5 := q5.size; have y5z := c5.size; (first | (have ka5 := block_kept b5 (heap_alloc_new w4 (.cells #[.slice none 0 0, .slice none 0 0] 33))) | skip); (first | (have ka5 := block_kept b5 ka4) | skip); (first | (have ea5 := (cells2 ka5).1; have eb5 := (cells2 ka5).2; have ec5 := (frozen2 ka5).1; have ed5 := (frozen2 ka5).2) | skip); have na5 := (cells2 (heap_alloc_new w5 (.cells #[.slice none 0 0, .slice none 0 0] 33))).1; have nb5 := (cells2 (heap_alloc_new w5 (.cells #[.slice none 0 0, .slice none 0 0] 33))).2; have nc5 := (frozen2 (heap_alloc_new w5 (.cells #[.slice none 0 0, .slice none 0 0] 33))).1; have nd5 := (frozen2 (heap_alloc_new w5 (.cells #[.slice none 0 0, .slice none 0 0] 33))).2))
 all_goals first | (have kA : w5.heap[w2.heap.size]? = some (.cells #[.slice none 0 0, .slice none 0 0] 33) := ka5; have VQ : ((w5.setCell ⟨w2.heap.size, 0, none⟩ (.slice yoa5_0 Zo0.length yoc5_0)).setCell ⟨w2.heap.size, 1, none⟩ (.slice yra5_0 Zr0.length yrc5_0)).heap[w2.heap.size]? = some (.cells #[.slice yoa5_0 Zo0.length yoc5_0, .slice yra5_0 Zr0.length yrc5_0] 33) := block_setAt (block_setAt kA 0 _) 1 _; have bX : Below w2.drew.heap.size w2.drew ((w5.setCell ⟨w2.heap.size, 0, none⟩ (.slice yoa5_0 Zo0.length yoc5_0)).setCell ⟨w2.heap.size, 1, none⟩ (.slice yra5_0 Zr0.length yrc5_0)) := (q5.setCell (by show w2.drew.heap.size ≤ w2.heap.size; omega) _).setCell (by show w2.drew.heap.size ≤ w2.heap.size; omega) _; have FO := (on5_0).offR (grown_trans (grown_setCell w5 ⟨w2.heap.size, 0, none⟩ (.slice yoa5_0 Zo0.length yoc5_0)) (grown_setCell _ ⟨w2.heap.size, 1, none⟩ (.slice yra5_0 Zr0.length yrc5_0))) (fun q e => by cases e; exact ⟨_, _, kA, by decide, by decide⟩); have FR := (or5_0).off kA (by decide) (by decide) (by decide) (by decide) (grown_trans (grown_setCell w5 ⟨w2.heap.size, 0, none⟩ (.slice yoa5_0 Zo0.length yoc5_0)) (grown_setCell _ ⟨w2.heap.size, 1, none⟩ (.slice yra5_0 Zr0.length yrc5_0))); generalize ((w5.setCell ⟨w2.heap.size, 0, none⟩ (.slice yoa5_0 Zo0.length yoc5_0)).setCell ⟨w2.heap.size, 1, none⟩ (.slice yra5_0 Zr0.length yrc5_0)) = w6 at *) | (have kA : w5.heap[w3.heap.size]? = some (.cells #[.slice none 0 0, .slice none 0 0] 33) := ka5; have VQ : ((w5.setCell ⟨w3.heap.size, 0, none⟩ (.slice yoa5_0 Zo0.length yoc5_0)).setCell ⟨w3.heap.size, 1, none⟩ (.slice yra5_0 Zr0.length yrc5_0)).heap[w3.heap.size]? = some (.cells #[.slice yoa5_0 Zo0.length yoc5_0, .slice yra5_0 Zr0.length yrc5_0] 33) := block_setAt (block_setAt kA 0 _) 1 _; have bX : Below w2.drew.heap.size w2.drew ((w5.setCell ⟨w3.heap.size, 0, none⟩ (.slice yoa5_0 Zo0.length yoc5_0)).setCell ⟨w3.heap.size, 1, none⟩ (.slice yra5_0 Zr0.length yrc5_0)) := (q5.setCell (by show w2.drew.heap.size ≤ w3.heap.size; omega) _).setCell (by show w2.drew.heap.size ≤ w3.heap.size; omega) _; have FO := (on5_0).offR (grown_trans (grown_setCell w5 ⟨w3.heap.size, 0, none⟩ (.slice yoa5_0 Zo0.length yoc5_0)) (grown_setCell _ ⟨w3.heap.size, 1, none⟩ (.slice yra5_0 Zr0.length yrc5_0))) (fun q e => by cases e; exact ⟨_, _, kA, by decide, by decide⟩); have FR := (or5_0).off kA (by decide) (by decide) (by decide) (by decide) (grown_trans (grown_setCell w5 ⟨w3.heap.size, 0, none⟩ (.slice yoa5_0 Zo0.length yoc5_0)) (grown_setCell _ ⟨w3.heap.size, 1, none⟩ (.slice yra5_0 Zr0.length yrc5_0))); generalize ((w5.setCell ⟨w3.heap.size, 0, none⟩ (.slice yoa5_0 Zo0.length yoc5_0)).setCell ⟨w3.heap.size, 1, none⟩ (.slice yra5_0 Zr0.length yrc5_0)) = w6 at *) | (have kA : w5.heap[w4.heap.size]? = some (.cells #[.slice none 0 0, .slice none 0 0] 33) := ka5; have VQ : ((w5.setCell ⟨w4.heap.size, 0, none⟩ (.slice yoa5_0 Zo0.length yoc5_0)).setCell ⟨w4.heap.size, 1, none⟩ (.slice yra5_0 Zr0.length yrc5_0)).heap[w4.heap.size]? = some (.cells #[.slice yoa5_0 Zo0.length yoc5_0, .slice yra5_0 Zr0.length yrc5_0] 33) := block_setAt (block_setAt kA 0 _) 1 _; have bX : Below w2.drew.heap.size w2.drew ((w5.setCell ⟨w4.heap.size, 0, none⟩ (.slice yoa5_0 Zo0.length yoc5_0)).setCell ⟨w4.heap.size, 1, none⟩ (.slice yra5_0 Zr0.length yrc5_0)) := (q5.setCell (by show w2.drew.heap.size ≤ w4.heap.size; omega) _).setCell (by show w2.drew.heap.size ≤ w4.heap.size; omega) _; have FO := (on5_0).offR (grown_trans (grown_setCell w5 ⟨w4.heap.size, 0, none⟩ (.slice yoa5_0 Zo0.length yoc5_0)) (grown_setCell _ ⟨w4.heap.size, 1, none⟩ (.slice yra5_0 Zr0.length yrc5_0))) (fun q e => by cases e; exact ⟨_, _, kA, by decide, by decide⟩); have FR := (or5_0).off kA (by decide) (by decide) (by decide) (by decide) (grown_trans (grown_setCell w5 ⟨w4.heap.size, 0, none⟩ (.slice yoa5_0 Zo0.length yoc5_0)) (grown_setCell _ ⟨w4.heap.size, 1, none⟩ (.slice yra5_0 Zr0.length yrc5_0))); generalize ((w5.setCell ⟨w4.heap.size, 0, none⟩ (.slice yoa5_0 Zo0.length yoc5_0)).setCell ⟨w4.heap.size, 1, none⟩ (.slice yra5_0 Zr0.length yrc5_0)) = w6 at *) | (have kA := heap_alloc_new w5 (.cells #[.slice yoa5_0 Zo0.length yoc5_0, .slice yra5_0 Zr0.length yrc5_0] 33); have VQ := heap_alloc_new w5 (.cells #[.slice yoa5_0 Zo0.length yoc5_0, .slice yra5_0 Zr0.length yrc5_0] 33); have bX := below_next q5 (below_alloc (w := w5) (.cells #[.slice yoa5_0 Zo0.length yoc5_0, .slice yra5_0 Zr0.length yrc5_0] 33)); have FO := on5_0.below (below_alloc (w := w5) (.cells #[.slice yoa5_0 Zo0.length yoc5_0, .slice yra5_0 Zr0.length yrc5_0] 33)); have FR := or5_0.below (below_alloc (w := w5) (.cells #[.slice yoa5_0 Zo0.length yoc5_0, .slice yra5_0 Zr0.length yrc5_0] 33)); generalize w5.alloc (.cells #[.slice yoa5_0 Zo0.length yoc5_0, .slice yra5_0 Zr0.length yrc5_0] 33) = w6 at *)
 all_goals
  clear b3 c3 o3 q3 z3 y3z b4 c4 o4 q4 z4 y4z b5 c5 q5 z5 y5z kA
  try clear on5_0 or5_0
  clear na5 nb5 nc5 nd5
  first | clear ea3 eb3 ec3 ed3 | skip
  first | clear ka3 | skip
  first | clear ea4 eb4 ec4 ed4 | skip
  first | clear ka4 | skip
  first | clear ea5 eb5 ec5 ed5 | skip
  first | clear ka5 | skip
  have VW0 := hide VQ
  clear VQ
  have Wz0 := hide (HasZ.mk FO.hasL FR.has)
  clear FO FR
  replace bb := below_next bb bX
  replace K0 := hide (block_kept bX (unhide K0))
  replace K1 := hide (block_kept bX (unhide K1))
  have z6 := bX.size
  clear bX
  have zz6 := block_lt (unhide VW0)
  have BW := hide (Below.refl w6.heap.size w6)
  obtain ⟨c_K00, c_K01⟩ := cells2 (unhide K0)
  have c_K1 := block_one (unhide K1)
  obtain ⟨c_VW00, c_VW01⟩ := cells2 (unhide VW0)
  go_wp2_with fail
  clear c_K00 c_K01
  clear c_K1
  clear c_VW00 c_VW01
  refine (toZone_own ao0 co0 ar0 cr0 n0 q0 _ ((unhide L0).below bb) (unhide HS0)).mono ?_
  rintro e w7 ⟨x7, y7, rfl, o7, b7⟩
  obtain ⟨xo7, xoc7, rfl, _⟩ := o7.hasZ.name.form
  obtain ⟨xr7, xrc7, rfl, _⟩ := o7.hasZ.recs.form
  have X0 := hide o7
  clear o7
  replace bb := below_next bb b7
  replace K0 := hide (block_kept b7 (unhide K0))
  replace K1 := hide (block_kept b7 (unhide K1))
  replace BW := hide ((unhide BW).trans (b7.mono (unhide BW).size))
  replace VW0 := hide (block_kept b7 (unhide VW0))
  have z7 := b7.size
  clear b7
  have b8 := below_alloc (w := w7) (.cells #[.slice xo7 n0.length xoc7, .slice xr7 q0.length xrc7] 33)
  have VX0 := hide (heap_alloc_new w7 (.cells #[.slice xo7 n0.length xoc7, .slice xr7 q0.length xrc7] 33))
  obtain ⟨c_K00, c_K01⟩ := cells2 (block_kept b8 (unhide K0))
  have c_K1 := block_one (block_kept b8 (unhide K1))
  obtain ⟨c_VW00, c_VW01⟩ := cells2 (block_kept b8 (unhide VW0))
  go_wp2_with fail
  clear c_K00 c_K01
  clear c_K1
  clear c_VW00 c_VW01
  generalize w7.alloc (.cells #[.slice xo7 n0.length xoc7, .slice xr7 q0.length xrc7] 33) = w8 at *
  replace bb := below_next bb b8
  replace K0 := hide (block_kept b8 (unhide K0))
  replace K1 := hide (block_kept b8 (unhide K1))
  replace BW := hide ((unhide BW).trans (b8.mono (unhide BW).size))
  replace VW0 := hide (block_kept b8 (unhide VW0))
  replace X0 := hide ((unhide X0).below b8)
  have z8 := b8.size
  clear b8
  have zz8 := block_lt (unhide VX0)
  obtain ⟨c_K00, c_K01⟩ := cells2 (unhide K0)
  have c_K1 := block_one (unhide K1)
  obtain ⟨c_VW00, c_VW01⟩ := cells2 (unhide VW0)
  obtain ⟨c_VX00, c_VX01⟩ := cells2 (unhide VX0)
  go_wp2_with fail
  clear c_K00 c_K01
  clear c_K1
  clear c_VW00 c_VW01
  clear c_VX00 c_VX01
  refine (toName_any a1 cap1 n1 _ ((unhide L1).below bb) hl1 (unhide HL1)).mono ?_
  rintro e w9 ⟨x9, rfl, o9, b9⟩
  obtain ⟨xa9, xc9, rfl, _⟩ := o9.hasL.form
  have X1 := hide o9.here
  clear o9
  replace bb := below_next bb b9
  replace K0 := hide (block_kept b9 (unhide K0))
  replace K1 := hide (block_kept b9 (unhide K1))
  replace BW := hide ((unhide BW).trans (b9.mono (unhide BW).size))
  replace VW0 := hide (block_kept b9 (unhide VW0))
  replace X0 := hide ((unhide X0).below b9)
  replace VX0 := hide (block_kept b9 (unhide VX0))
  have z9 := b9.size
  clear b9
  have b10 := below_alloc (w := w9) (.cells #[.slice xa9 n1.length xc9] 30)
  have VX1 := hide (heap_alloc_new w9 (.cells #[.slice xa9 n1.length xc9] 30))
  obtain ⟨c_K00, c_K01⟩ := cells2 (block_kept b10 (unhide K0))
  have c_K1 := block_one (block_kept b10 (unhide K1))
  obtain ⟨c_VW00, c_VW01⟩ := cells2 (block_kept b10 (unhide VW0))
  obtain ⟨c_VX00, c_VX01⟩ := cells2 (block_kept b10 (unhide VX0))
  go_wp2_with fail
  clear c_K00 c_K01
  clear c_K1
  clear c_VW00 c_VW01
  clear c_VX00 c_VX01
  generalize w9.alloc (.cells #[.slice xa9 n1.length xc9] 30) = w10 at *
  replace bb := below_next bb b10
  replace K0 := hide (block_kept b10 (unhide K0))
  replace K1 := hide (block_kept b10 (unhide K1))
  replace BW := hide ((unhide BW).trans (b10.mono (unhide BW).size))
  replace VW0 := hide (block_kept b10 (unhide VW0))
  replace X0 := hide ((unhide X0).below b10)
  replace VX0 := hide (block_kept b10 (unhide VX0))
  replace X1 := hide ((unhide X1).below b10)
  have z10 := b10.size
  clear b10
  have zz10 := block_lt (unhide VX1)
  obtain ⟨c_K00, c_K01⟩ := cells2 (unhide K0)
  have c_K1 := block_one (unhide K1)
  obtain ⟨c_VW00, c_VW01⟩ := cells2 (unhide VW0)
  obtain ⟨c_VX00, c_VX01⟩ := cells2 (unhide VX0)
  have c_VX1 := block_one (unhide VX1)
  go_wp2_with fail
  clear c_K00 c_K01
  clear c_K1
  clear c_VW00 c_VW01
  clear c_VX00 c_VX01
  clear c_VX1
  refine (unhide IM _ _ _ (unhide X0).hasZ _ (unhide X1).hasL).mono ?_
  rintro e w11 ⟨yo11_0, yr11_0, rfl, ⟨s11_0, s111_0, s211_0, on11_0, or11_0⟩, b11⟩
  replace bb := below_next bb b11
  replace K0 := hide (block_kept b11 (unhide K0))
  replace K1 := hide (block_kept b11 (unhide K1))
  replace BW := hide ((unhide BW).trans (b11.mono (unhide BW).size))
  replace VW0 := hide (block_kept b11 (unhide VW0))
  replace X0 := hide ((unhide X0).below b11)
  replace VX0 := hide (block_kept b11 (unhide VX0))
  replace X1 := hide ((unhide X1).below b11)
  replace VX1 := hide (block_kept b11 (unhide VX1))
  have z11 := b11.size
  clear b11
  obtain ⟨yoa11_0, yoc11_0, rfl, _⟩ := on11_0.hasL.form
  obtain ⟨yra11_0, yrc11_0, rfl, _⟩ := or11_0.form
  have Go0 := hide on11_0
  have Gr0 := hide or11_0
  clear on11_0 or11_0
  have b12 := below_alloc (w := w11) (.cells #[.slice yoa11_0 Zo0.length yoc11_0, .slice yra11_0 Zr0.length yrc11_0] 33)
  have VG0 := hide (heap_alloc_new w11 (.cells #[.slice yoa11_0 Zo0.length yoc11_0, .slice yra11_0 Zr0.length yrc11_0] 33))
  obtain ⟨c_K00, c_K01⟩ := cells2 (block_kept b12 (unhide K0))
  have c_K1 := block_one (block_kept b12 (unhide K1))
  obtain ⟨c_VW00, c_VW01⟩ := cells2 (block_kept b12 (unhide VW0))
  obtain ⟨c_VX00, c_VX01⟩ := cells2 (block_kept b12 (unhide VX0))
  have c_VX1 := block_one (block_kept b12 (unhide VX1))
  go_wp2_with fail
  clear c_K00 c_K01
  clear c_K1
  clear c_VW00 c_VW01
  clear c_VX00 c_VX01
  clear c_VX1
  generalize w11.alloc (.cells #[.slice yoa11_0 Zo0.length yoc11_0, .slice yra11_0 Zr0.length yrc11_0] 33) = w12 at *
  replace bb := below_next bb b12
  replace K0 := hide (block_kept b12 (unhide K0))
  replace K1 := hide (block_kept b12 (unhide K1))
  replace BW := hide ((unhide BW).trans (b12.mono (unhide BW).size))
  replace VW0 := hide (block_kept b12 (unhide VW0))
  replace X0 := hide ((unhide X0).below b12)
  replace VX0 := hide (block_kept b12 (unhide VX0))
  replace X1 := hide ((unhide X1).below b12)
  replace VX1 := hide (block_kept b12 (unhide VX1))
  replace Go0 := hide ((unhide Go0).below b12)
  replace Gr0 := hide ((unhide Gr0).below b12)
  have z12 := b12.size
  clear b12
  have zz12 := block_lt (unhide VG0)
  obtain ⟨c_K00, c_K01⟩ := cells2 (unhide K0)
  have c_K1 := block_one (unhide K1)
  obtain ⟨c_VW00, c_VW01⟩ := cells2 (unhide VW0)
  obtain ⟨c_VX00, c_VX01⟩ := cells2 (unhide VX0)
  have c_VX1 := block_one (unhide VX1)
  obtain ⟨c_VG00, c_VG01⟩ := cells2 (unhide VG0)
  go_wp2_with fail
  clear c_K00 c_K01
  clear c_K1
  clear c_VW00 c_VW01
  clear c_VX00 c_VX01
  clear c_VX1
  clear c_VG00 c_VG01
  refine (eqZone_has ⟨(unhide Go0).hasL, (unhide Gr0).has⟩ ((unhide Wz0).below (unhide BW)) (unhide HSS0g)).mono ?_
  rintro e w13 ⟨rfl, b13⟩
  replace bb := below_next bb b13
  replace K0 := hide (block_kept b13 (unhide K0))
  replace K1 := hide (block_kept b13 (unhide K1))
  replace BW := hide ((unhide BW).trans (b13.mono (unhide BW).size))
  replace VW0 := hide (block_kept b13 (unhide VW0))
  replace X0 := hide ((unhide X0).below b13)
  replace VX0 := hide (block_kept b13 (unhide VX0))
  replace X1 := hide ((unhide X1).below b13)
  replace VX1 := hide (block_kept b13 (unhide VX1))
  replace Go0 := hide ((unhide Go0).below b13)
  replace Gr0 := hide ((unhide Gr0).below b13)
  replace VG0 := hide (block_kept b13 (unhide VG0))
  have z13 := b13.size
  clear b13
  have bd := below_drew (w := w13)
  have zdw13 : w13.drew.heap.size = w13.heap.size := rfl
  replace bb := below_next bb bd
  replace K0 := hide (block_kept bd (unhide K0))
  replace K1 := hide (block_kept bd (unhide K1))
  replace BW := hide ((unhide BW).trans (bd.mono (unhide BW).size))
  replace VW0 := hide (block_kept bd (unhide VW0))
  replace X0 := hide ((unhide X0).below bd)
  replace VX0 := hide (block_kept bd (unhide VX0))
  replace X1 := hide ((unhide X1).below bd)
  replace VX1 := hide (block_kept bd (unhide VX1))
  replace Go0 := hide ((unhide Go0).below bd)
  replace Gr0 := hide ((unhide Gr0).below bd)
  replace VG0 := hide (block_kept bd (unhide VG0))
  clear bd
  obtain ⟨c_K00, c_K01⟩ := cells2 (unhide K0)
  have c_K1 := block_one (unhide K1)
  obtain ⟨c_VW00, c_VW01⟩ := cells2 (unhide VW0)
  obtain ⟨c_VX00, c_VX01⟩ := cells2 (unhide VX0)
  have c_VX1 := block_one (unhide VX1)
  obtain ⟨c_VG00, c_VG01⟩ := cells2 (unhide VG0)
  go_wp2_with fail
  clear c_K00 c_K01
  clear c_K1
  clear c_VW00 c_VW01
  clear c_VX00 c_VX01
  clear c_VX1
  clear c_VG00 c_VG01
  go_region_held3 (fun w' => (w'.cell? ⟨w.heap.size, 0, none⟩ = some (.slice ao0 n0.length co0) ∧ w'.cell? ⟨w.heap.size, 1, none⟩ = some (.slice ar0 q0.length cr0)) ∧ (w'.cell? ⟨w7.heap.size, 0, none⟩ = some (.slice xo7 n0.length xoc7) ∧ w'.cell? ⟨w7.heap.size, 1, none⟩ = some (.slice xr7 q0.length xrc7)))
   (first | exact ⟨cells2 (unhide K0), cells2 (unhide VX0)⟩ | exact ⟨cells2 (block_kept b14 (unhide K0)), cells2 (block_kept b14 (unhide VX0))⟩ | exact ⟨cells2 (block_kept q15 (unhide K0)), cells2 (block_kept q15 (unhide VX0))⟩)
   (first
   | (go_at_call 8; refine (toZone_own ao0 co0 ar0 cr0 n0 q0 _ ((unhide L0).below bb) (unhide HS0)).mono ?_; rintro e w14 ⟨x14, y14, rfl, o14, b14⟩; obtain ⟨xo14, xoc14, rfl, _⟩ := o14.hasZ.name.form; obtain ⟨xr14, xrc14, rfl, _⟩ := o14.hasZ.recs.form)
   | (go_at_call 11; refine (eqZone_has ((unhide X0).below b14).hasZ o14.hasZ (unhide HSS0)).mono ?_; rintro e w15 ⟨rfl, b15⟩; have q15 := below_next b14 b15))
  clear b14 b15 o14
  replace bb := below_next bb q15
  replace K0 := hide (block_kept q15 (unhide K0))
  replace K1 := hide (block_kept q15 (unhide K1))
  replace BW := hide ((unhide BW).trans (q15.mono (unhide BW).size))
  replace VW0 := hide (block_kept q15 (unhide VW0))
  replace X0 := hide ((unhide X0).below q15)
  replace VX0 := hide (block_kept q15 (unhide VX0))
  replace X1 := hide ((unhide X1).below q15)
  replace VX1 := hide (block_kept q15 (unhide VX1))
  replace Go0 := hide ((unhide Go0).below q15)
  replace Gr0 := hide ((unhide Gr0).below q15)
  replace VG0 := hide (block_kept q15 (unhide VG0))
  have z15 := q15.size
  clear q15
  have bd := below_drew (w := w15)
  have zdw15 : w15.drew.heap.size = w15.heap.size := rfl
  replace bb := below_next bb bd
  replace K0 := hide (block_kept bd (unhide K0))
  replace K1 := hide (block_kept bd (unhide K1))
  replace BW := hide ((unhide BW).trans (bd.mono (unhide BW).size))
  replace VW0 := hide (block_kept bd (unhide VW0))
  replace X0 := hide ((unhide X0).below bd)
  replace VX0 := hide (block_kept bd (unhide VX0))
  replace X1 := hide ((unhide X1).below bd)
  replace VX1 := hide (block_kept bd (unhide VX1))
  replace Go0 := hide ((unhide Go0).below bd)
  replace Gr0 := hide ((unhide Gr0).below bd)
  replace VG0 := hide (block_kept bd (unhide VG0))
  clear bd
  obtain ⟨c_K00, c_K01⟩ := cells2 (unhide K0)
  have c_K1 := block_one (unhide K1)
  obtain ⟨c_VW00, c_VW01⟩ := cells2 (unhide VW0)
  obtain ⟨c_VX00, c_VX01⟩ := cells2 (unhide VX0)
  have c_VX1 := block_one (unhide VX1)
  obtain ⟨c_VG00, c_VG01⟩ := cells2 (unhide VG0)
  go_wp2_with fail
  clear c_K00 c_K01
  clear c_K1
  clear c_VW00 c_VW01
  clear c_VX00 c_VX01
  clear c_VX1
  clear c_VG00 c_VG01
  go_region_held3 (fun w' => (w'.cell? ⟨w.heap.size + 1, 0, none⟩ = some (.slice a1 n1.length cap1)) ∧ (w'.cell? ⟨w9.heap.size, 0, none⟩ = some (.slice xa9 n1.length xc9)))
   (first | exact ⟨block_one (unhide K1), block_one (unhide VX1)⟩ | exact ⟨block_one (block_kept b16 (unhide K1)), block_one (block_kept b16 (unhide VX1))⟩ | exact ⟨block_one (block_kept q17 (unhide K1)), block_one (block_kept q17 (unhide VX1))⟩)
   (first
   | (go_at_call 9; refine (toName_any a1 cap1 n1 _ ((unhide L1).below bb) hl1 (unhide HL1)).mono ?_; rintro e w16 ⟨x16, rfl, o16, b16⟩; obtain ⟨xa16, xc16, rfl, _⟩ := o16.hasL.form)
   | (go_at_call 12; refine (eqName_has ((unhide X1).below b16).hasL o16.hasL (unhide HLL1)).mono ?_; rintro e w17 ⟨rfl, b17⟩; have q17 := below_next b16 b17))
  clear b16 b17 o16
  replace bb := below_next bb q17
  replace K0 := hide (block_kept q17 (unhide K0))
  replace K1 := hide (block_kept q17 (unhide K1))
  replace BW := hide ((unhide BW).trans (q17.mono (unhide BW).size))
  replace VW0 := hide (block_kept q17 (unhide VW0))
  replace X0 := hide ((unhide X0).below q17)
  replace VX0 := hide (block_kept q17 (unhide VX0))
  replace X1 := hide ((unhide X1).below q17)
  replace VX1 := hide (block_kept q17 (unhide VX1))
  replace Go0 := hide ((unhide Go0).below q17)
  replace Gr0 := hide ((unhide Gr0).below q17)
  replace VG0 := hide (block_kept q17 (unhide VG0))
  have z17 := q17.size
  clear q17
  obtain ⟨c_K00, c_K01⟩ := cells2 (unhide K0)
  have c_K1 := block_one (unhide K1)
  obtain ⟨c_VW00, c_VW01⟩ := cells2 (unhide VW0)
  obtain ⟨c_VX00, c_VX01⟩ := cells2 (unhide VX0)
  have c_VX1 := block_one (unhide VX1)
  obtain ⟨c_VG00, c_VG01⟩ := cells2 (unhide VG0)
  go_wp2_with fail
  clear c_K00 c_K01
  clear c_K1
  clear c_VW00 c_VW01
  clear c_VX00 c_VX01
  clear c_VX1
  clear c_VG00 c_VG01
  refine (unhide MK0 _ _ _ _ _ (by omega) (unhide X0)).mono ?_
  rintro e w18 ⟨rfl, u18⟩
  clear X0
  replace bb := u18.below bb (by omega)
  replace K0 := hide (u18.kept (unhide K0) (by omega))
  replace K1 := hide (u18.kept (unhide K1) (by omega))
  replace BW := hide (u18.belowAt (unhide BW) (Nat.le_refl _) (by omega))
  replace VW0 := hide (u18.kept (unhide VW0) (by omega))
  replace VX0 := hide (u18.kept (unhide VX0) (by omega))
  replace X1 := hide ((unhide X1).outside u18 (by omega))
  replace VX1 := hide (u18.kept (unhide VX1) (by omega))
  replace Go0 := hide ((unhide Go0).outside u18 (by omega))
  replace Gr0 := hide ((unhide Gr0).outside u18 (by omega))
  replace VG0 := hide (u18.kept (unhide VG0) (by omega))
  have z18 := u18.size
  clear u18
  obtain ⟨c_K00, c_K01⟩ := cells2 (unhide K0)
  have c_K1 := block_one (unhide K1)
  obtain ⟨c_VW00, c_VW01⟩ := cells2 (unhide VW0)
  obtain ⟨c_VX00, c_VX01⟩ := cells2 (unhide VX0)
  have c_VX1 := block_one (unhide VX1)
  obtain ⟨c_VG00, c_VG01⟩ := cells2 (unhide VG0)
  go_wp2_with fail
  clear c_K00 c_K01
  clear c_K1
  clear c_VW00 c_VW01
  clear c_VX00 c_VX01
  clear c_VX1
  clear c_VG00 c_VG01
  refine (unhide MK1 _ _ _ _ (unhide X1)).mono ?_
  rintro e w19 ⟨rfl, o19, u19⟩
  clear o19 X1
  replace bb := u19.below bb (by omega)
  replace K0 := hide (u19.kept (unhide K0) (by omega))
  replace K1 := hide (u19.kept (unhide K1) (by omega))
  replace BW := hide (u19.belowAt (unhide BW) (Nat.le_refl _) (by omega))
  replace VW0 := hide (u19.kept (unhide VW0) (by omega))
  replace VX0 := hide (u19.kept (unhide VX0) (by omega))
  replace VX1 := hide (u19.kept (unhide VX1) (by omega))
  replace Go0 := hide ((unhide Go0).outside u19 (by omega))
  replace Gr0 := hide ((unhide Gr0).outside u19 (by omega))
  replace VG0 := hide (u19.kept (unhide VG0) (by omega))
  have z19 := u19.size
  clear u19
  obtain ⟨c_K00, c_K01⟩ := cells2 (unhide K0)
  have c_K1 := block_one (unhide K1)
  obtain ⟨c_VW00, c_VW01⟩ := cells2 (unhide VW0)
  obtain ⟨c_VX00, c_VX01⟩ := cells2 (unhide VX0)
  have c_VX1 := block_one (unhide VX1)
  obtain ⟨c_VG00, c_VG01⟩ := cells2 (unhide VG0)
  go_wp2_with fail
  clear c_K00 c_K01
  clear c_K1
  clear c_VW00 c_VW01
  clear c_VX00 c_VX01
  clear c_VX1
  clear c_VG00 c_VG01
  refine (eqZone_has ⟨(unhide Go0).hasL, (unhide Gr0).has⟩ ((unhide Wz0).below (unhide BW)) (unhide HSS0g)).mono ?_
  rintro e w20 ⟨rfl, b20⟩
  replace bb := below_next bb b20
  replace K0 := hide (block_kept b20 (unhide K0))
  replace K1 := hide (block_kept b20 (unhide K1))
  replace BW := hide ((unhide BW).trans (b20.mono (unhide BW).size))
  replace VW0 := hide (block_kept b20 (unhide VW0))
  replace VX0 := hide (block_kept b20 (unhide VX0))
  replace VX1 := hide (block_kept b20 (unhide VX1))
  replace Go0 := hide ((unhide Go0).below b20)
  replace Gr0 := hide ((unhide Gr0).below b20)
  replace VG0 := hide (block_kept b20 (unhide VG0))
  have z20 := b20.size
  clear b20
  obtain ⟨c_K00, c_K01⟩ := cells2 (unhide K0)
  have c_K1 := block_one (unhide K1)
  obtain ⟨c_VW00, c_VW01⟩ := cells2 (unhide VW0)
  obtain ⟨c_VX00, c_VX01⟩ := cells2 (unhide VX0)
  have c_VX1 := block_one (unhide VX1)
  obtain ⟨c_VG00, c_VG01⟩ := cells2 (unhide VG0)
  go_wp2_with fail
  clear c_K00 c_K01
  clear c_K1
  clear c_VW00 c_VW01
  clear c_VX00 c_VX01
  clear c_VX1
  clear c_VG00 c_VG01
  refine (unhide MKG0 _ _ _ _ _ _ (by omega) (by omega) (by omega) (unhide Go0) (unhide Gr0)).mono ?_
  rintro e w21 ⟨rfl, MO_0, MR_0, u21⟩
  clear Go0 Gr0
  replace bb := u21.below bb (by omega)
  replace K0 := hide (u21.kept (unhide K0) (by omega))
  replace K1 := hide (u21.kept (unhide K1) (by omega))
  replace BW := hide (u21.belowAt (unhide BW) (Nat.le_refl _) (by omega))
  replace VW0 := hide (u21.kept (unhide VW0) (by omega))
  replace VX0 := hide (u21.kept (unhide VX0) (by omega))
  replace VX1 := hide (u21.kept (unhide VX1) (by omega))
  replace VG0 := hide (u21.kept (unhide VG0) (by omega))
  have z21 := u21.size
  clear u21
  replace MO_0 := hide MO_0
  replace MR_0 := hide MR_0
  obtain ⟨c_K00, c_K01⟩ := cells2 (unhide K0)
  have c_K1 := block_one (unhide K1)
  obtain ⟨c_VW00, c_VW01⟩ := cells2 (unhide VW0)
  obtain ⟨c_VX00, c_VX01⟩ := cells2 (unhide VX0)
  have c_VX1 := block_one (unhide VX1)
  obtain ⟨c_VG00, c_VG01⟩ := cells2 (unhide VG0)
  go_wp2_with fail
  clear c_K00 c_K01
  clear c_K1
  clear c_VW00 c_VW01
  clear c_VX00 c_VX01
  clear c_VX1
  clear c_VG00 c_VG01
  refine (unhide HDG0 _ _ _ (unhide MO_0).hasL (unhide MR_0).has).mono ?_
  rintro e w22 ⟨rfl, b22⟩
  replace bb := below_next bb b22
  replace K0 := hide (block_kept b22 (unhide K0))
  replace K1 := hide (block_kept b22 (unhide K1))
  replace BW := hide ((unhide BW).trans (b22.mono (unhide BW).size))
  replace VW0 := hide (block_kept b22 (unhide VW0))
  replace VX0 := hide (block_kept b22 (unhide VX0))
  replace VX1 := hide (block_kept b22 (unhide VX1))
  replace VG0 := hide (block_kept b22 (unhide VG0))
  replace MO_0 := hide ((unhide MO_0).below b22)
  replace MR_0 := hide ((unhide MR_0).below b22)
  have z22 := b22.size
  clear b22
  have bd := below_drew (w := w22)
  have zdw22 : w22.drew.heap.size = w22.heap.size := rfl
  replace bb := below_next bb bd
  replace K0 := hide (block_kept bd (unhide K0))
  replace K1 := hide (block_kept bd (unhide K1))
  replace BW := hide ((unhide BW).trans (bd.mono (unhide BW).size))
  replace VW0 := hide (block_kept bd (unhide VW0))
  replace VX0 := hide (block_kept bd (unhide VX0))
  replace VX1 := hide (block_kept bd (unhide VX1))
  replace VG0 := hide (block_kept bd (unhide VG0))
  replace MO_0 := hide ((unhide MO_0).below bd)
  replace MR_0 := hide ((unhide MR_0).below bd)
  clear bd
  obtain ⟨c_K00, c_K01⟩ := cells2 (unhide K0)
  have c_K1 := block_one (unhide K1)
  obtain ⟨c_VW00, c_VW01⟩ := cells2 (unhide VW0)
  obtain ⟨c_VX00, c_VX01⟩ := cells2 (unhide VX0)
  have c_VX1 := block_one (unhide VX1)
  obtain ⟨c_VG00, c_VG01⟩ := cells2 (unhide VG0)
  go_wp2_with fail
  clear c_K00 c_K01
  clear c_K1
  clear c_VW00 c_VW01
  clear c_VX00 c_VX01
  clear c_VX1
  clear c_VG00 c_VG01
  go_region_held3 (fun w' => (w'.cell? ⟨w.heap.size, 0, none⟩ = some (.slice ao0 n0.length co0) ∧ w'.cell? ⟨w.heap.size, 1, none⟩ = some (.slice ar0 q0.length cr0)) ∧ (w'.cell? ⟨w.heap.size + 1, 0, none⟩ = some (.slice a1 n1.length cap1)))
   (first | exact ⟨cells2 (unhide K0), block_one (unhide K1)⟩ | exact ⟨cells2 (block_kept (below_alloc _) (unhide K0)), block_one (block_kept (below_alloc _) (unhide K1))⟩ | exact ⟨cells2 (block_kept q23 (unhide K0)), block_one (block_kept q23 (unhide K1))⟩ | exact ⟨cells2 (block_kept (below_next q23 (below_alloc _)) (unhide K0)), block_one (block_kept (below_next q23 (below_alloc _)) (unhide K1))⟩ | exact ⟨cells2 (block_kept q24 (unhide K0)), block_one (block_kept q24 (unhide K1))⟩ | exact ⟨cells2 (block_kept (below_next q24 (below_alloc _)) (unhide K0)), block_one (block_kept (below_next q24 (below_alloc _)) (unhide K1))⟩ | exact ⟨cells2 (block_kept q25 (unhide K0)), block_one (block_kept q25 (unhide K1))⟩ | exact ⟨cells2 (block_kept (below_next q25 (below_alloc _)) (unhide K0)), block_one (block_kept (below_next q25 (below_alloc _)) (unhide K1))⟩ | exact ⟨cells2 (keep_two (block_kept q25 (unhide K0)) (by omega)), block_one (keep_two (block_kept q25 (unhide K1)) (by omega))⟩ | exact ⟨cells2 (keep_two (block_kept (below_next q25 (below_alloc _)) (unhide K0)) (by omega)), block_one (keep_two (block_kept (below_next q25 (below_alloc _)) (unhide K1)) (by omega))⟩)
   (first
   | (go_at_call_of 8 (Value.slice ao0 n0.length co0); refine (toZone_own ao0 co0 ar0 cr0 n0 q0 _ ((unhide L0).below (by first | exact bb | exact below_next bb (below_alloc _))) (unhide HS0)).mono ?_; rintro e w23 ⟨x23, y23, rfl, o23, b23⟩; obtain ⟨xo23, xoc23, rfl, _⟩ := o23.hasZ.name.form; obtain ⟨xr23, xrc23, rfl, _⟩ := o23.hasZ.recs.form; have c23 : Below w22.drew.heap.size w22.drew w23 := (by first | exact b23 | exact below_next (below_alloc _) b23); have q23 : Below w22.drew.heap.size w22.drew w23 := c23; have z23 := q23.size; have y23z := c23.size; (first | (have ka23 : w23.heap[w22.heap.size]? = some (.cells #[.slice none 0 0, .slice none 0 0] 33) := block_kept b23 (heap_alloc_new w22.drew (.cells #[.slice none 0 0, .slice none 0 0] 33))) | skip); (first | (have ea23 := (cells2 ka23).1; have eb23 := (cells2 ka23).2; have ec23 := (frozen2 ka23).1; have ed23 := (frozen2 ka23).2) | skip))
   | (go_at_call_of 9 (Value.slice a1 n1.length cap1); refine (toName_any a1 cap1 n1 _ ((unhide L1).below (by first | exact below_next bb q23 | exact below_next (below_next bb q23) (below_alloc _))) hl1 (unhide HL1)).mono ?_; rintro e w24 ⟨x24, rfl, o24, b24⟩; obtain ⟨xa24, xc24, rfl, _⟩ := o24.hasL.form; have c24 : Below w23.heap.size w23 w24 := (by first | exact b24 | exact below_next (below_alloc _) b24); have q24 : Below w22.drew.heap.size w22.drew w24 := below_next q23 c24; have z24 := q24.size; have y24z := c24.size; (first | (have ka24 : w24.heap[w23.heap.size]? = some (.cells #[.slice none 0 0, .slice none 0 0] 33) := block_kept b24 (heap_alloc_new w23 (.cells #[.slice none 0 0, .slice none 0 0] 33))) | skip); (first | (have ka24 := block_kept b24 ka23) | skip); (first | (have ea24 := (cells2 ka24).1; have eb24 := (cells2 ka24).2; have ec24 := (frozen2 ka24).1; have ed24 := (frozen2 ka24).2) | skip))
   | (go_at_call 10; refine (unhide IM _ _ _ (by first | exact (o23.below c24).hasZ | exact ((o23.below c24).below (below_alloc _)).hasZ) _ (by first | exact o24.hasL | exact (o24.below (below_alloc _)).hasL)).mono ?_; rintro e w25 ⟨yo25_0, yr25_0, rfl, ⟨s25_0, s125_0, s225_0, on25_0, or25_0⟩, b25⟩; obtain ⟨yoa25_0, yoc25_0, rfl, _⟩ := on25_0.hasL.form; obtain ⟨yra25_0, yrc25_0, rfl, _⟩ := or25_0.form; have c25 : Below w24.heap.size w24 w25 := (by first | exact b25 | exact below_next (below_alloc _) b25); have q25 : Below w22.drew.heap.size w22.drew w25 := below_next q24 c25; have z25 := q25.size; have y25z := c25.size; (first | (have ka25 := block_kept b25 (heap_alloc_new w24 (.cells #[.slice none 0 0, .slice none 0 0] 33))) | skip); (first | (have ka25 := block_kept b25 ka24) | skip); (first | (have ea25 := (cells2 ka25).1; have eb25 := (cells2 ka25).2; have ec25 := (frozen2 ka25).1; have ed25 := (frozen2 ka25).2) | skip); have na25 := (cells2 (heap_alloc_new w25 (.cells #[.slice none 0 0, .slice none 0 0] 33))).1; have nb25 := (cells2 (heap_alloc_new w25 (.cells #[.slice none 0 0, .slice none 0 0] 33))).2; have nc25 := (frozen2 (heap_alloc_new w25 (.cells #[.slice none 0 0, .slice none 0 0] 33))).1; have nd25 := (frozen2 (heap_alloc_new w25 (.cells #[.slice none 0 0, .slice none 0 0] 33))).2))
  all_goals first | (have kA : w25.heap[w22.heap.size]? = some (.cells #[.slice none 0 0, .slice none 0 0] 33) := ka25; have VQ : ((w25.setCell ⟨w22.heap.size, 0, none⟩ (.slice yoa25_0 Zo0.length yoc25_0)).setCell ⟨w22.heap.size, 1, none⟩ (.slice yra25_0 Zr0.length yrc25_0)).heap[w22.heap.size]? = some (.cells #[.slice yoa25_0 Zo0.length yoc25_0, .slice yra25_0 Zr0.length yrc25_0] 33) := block_setAt (block_setAt kA 0 _) 1 _; have bX : Below w22.drew.heap.size w22.drew ((w25.setCell ⟨w22.heap.size, 0, none⟩ (.slice yoa25_0 Zo0.length yoc25_0)).setCell ⟨w22.heap.size, 1, none⟩ (.slice yra25_0 Zr0.length yrc25_0)) := (q25.setCell (by show w22.drew.heap.size ≤ w22.heap.size; omega) _).setCell (by show w22.drew.heap.size ≤ w22.heap.size; omega) _; have uX := (outside_set w25 (w22.heap.size) 0 (.slice yoa25_0 Zo0.length yoc25_0)).trans (outside_set _ (w22.heap.size) 1 (.slice yra25_0 Zr0.length yrc25_0)); have lA := block_lt ka24; have FO := (on25_0).outside uX (by omega); have FR := (or25_0).outside uX (by omega); clear lA; generalize ((w25.setCell ⟨w22.heap.size, 0, none⟩ (.slice yoa25_0 Zo0.length yoc25_0)).setCell ⟨w22.heap.size, 1, none⟩ (.slice yra25_0 Zr0.length yrc25_0)) = w26 at *) | (have kA : w25.heap[w23.heap.size]? = some (.cells #[.slice none 0 0, .slice none 0 0] 33) := ka25; have VQ : ((w25.setCell ⟨w23.heap.size, 0, none⟩ (.slice yoa25_0 Zo0.length yoc25_0)).setCell ⟨w23.heap.size, 1, none⟩ (.slice yra25_0 Zr0.length yrc25_0)).heap[w23.heap.size]? = some (.cells #[.slice yoa25_0 Zo0.length yoc25_0, .slice yra25_0 Zr0.length yrc25_0] 33) := block_setAt (block_setAt kA 0 _) 1 _; have bX : Below w22.drew.heap.size w22.drew ((w25.setCell ⟨w23.heap.size, 0, none⟩ (.slice yoa25_0 Zo0.length yoc25_0)).setCell ⟨w23.heap.size, 1, none⟩ (.slice yra25_0 Zr0.length yrc25_0)) := (q25.setCell (by show w22.drew.heap.size ≤ w23.heap.size; omega) _).setCell (by show w22.drew.heap.size ≤ w23.heap.size; omega) _; have uX := (outside_set w25 (w23.heap.size) 0 (.slice yoa25_0 Zo0.length yoc25_0)).trans (outside_set _ (w23.heap.size) 1 (.slice yra25_0 Zr0.length yrc25_0)); have lA := block_lt ka24; have FO := (on25_0).outside uX (by omega); have FR := (or25_0).outside uX (by omega); clear lA; generalize ((w25.setCell ⟨w23.heap.size, 0, none⟩ (.slice yoa25_0 Zo0.length yoc25_0)).setCell ⟨w23.heap.size, 1, none⟩ (.slice yra25_0 Zr0.length yrc25_0)) = w26 at *) | (have kA : w25.heap[w24.heap.size]? = some (.cells #[.slice none 0 0, .slice none 0 0] 33) := ka25; have VQ : ((w25.setCell ⟨w24.heap.size, 0, none⟩ (.slice yoa25_0 Zo0.length yoc25_0)).setCell ⟨w24.heap.size, 1, none⟩ (.slice yra25_0 Zr0.length yrc25_0)).heap[w24.heap.size]? = some (.cells #[.slice yoa25_0 Zo0.length yoc25_0, .slice yra25_0 Zr0.length yrc25_0] 33) := block_setAt (block_setAt kA 0 _) 1 _; have bX : Below w22.drew.heap.size w22.drew ((w25.setCell ⟨w24.heap.size, 0, none⟩ (.slice yoa25_0 Zo0.length yoc25_0)).setCell ⟨w24.heap.size, 1, none⟩ (.slice yra25_0 Zr0.length yrc25_0)) := (q25.setCell (by show w22.drew.heap.size ≤ w24.heap.size; omega) _).setCell (by show w22.drew.heap.size ≤ w24.heap.size; omega) _; have uX := (outside_set w25 (w24.heap.size) 0 (.slice yoa25_0 Zo0.length yoc25_0)).trans (outside_set _ (w24.heap.size) 1 (.slice yra25_0 Zr0.length yrc25_0)); have lA := World.size_alloc w24 (.cells #[.slice none 0 0, .slice none 0 0] 33); have FO := (on25_0).outside uX (by omega); have FR := (or25_0).outside uX (by omega); clear lA; generalize ((w25.setCell ⟨w24.heap.size, 0, none⟩ (.slice yoa25_0 Zo0.length yoc25_0)).setCell ⟨w24.heap.size, 1, none⟩ (.slice yra25_0 Zr0.length yrc25_0)) = w26 at *) | (have kA := heap_alloc_new w25 (.cells #[.slice yoa25_0 Zo0.length yoc25_0, .slice yra25_0 Zr0.length yrc25_0] 33); have VQ := heap_alloc_new w25 (.cells #[.slice yoa25_0 Zo0.length yoc25_0, .slice yra25_0 Zr0.length yrc25_0] 33); have bX := below_next q25 (below_alloc (w := w25) (.cells #[.slice yoa25_0 Zo0.length yoc25_0, .slice yra25_0 Zr0.length yrc25_0] 33)); have FO := on25_0.below (below_alloc (w := w25) (.cells #[.slice yoa25_0 Zo0.length yoc25_0, .slice yra25_0 Zr0.length yrc25_0] 33)); have FR := or25_0.below (below_alloc (w := w25) (.cells #[.slice yoa25_0 Zo0.length yoc25_0, .slice yra25_0 Zr0.length yrc25_0] 33)); have uX := kA; generalize w25.alloc (.cells #[.slice yoa25_0 Zo0.length yoc25_0, .slice yra25_0 Zr0.length yrc25_0] 33) = w26 at *)
  all_goals
   clear b23 c23 o23 q23 z23 y23z b24 c24 o24 q24 z24 y24z b25 c25 q25 z25 y25z kA uX
   try clear on25_0 or25_0
   clear na25 nb25 nc25 nd25
   first | clear ea23 eb23 ec23 ed23 | skip
   first | clear ka23 | skip
   first | clear ea24 eb24 ec24 ed24 | skip
   first | clear ka24 | skip
   first | clear ea25 eb25 ec25 ed25 | skip
   first | clear ka25 | skip
   have VH0 := hide VQ
   clear VQ
   have Ho0 := hide FO
   have Hr0 := hide FR
   clear FO FR
   replace bb := below_next bb bX
   replace K0 := hide (block_kept bX (unhide K0))
   replace K1 := hide (block_kept bX (unhide K1))
   replace BW := hide ((unhide BW).trans (bX.mono (unhide BW).size))
   replace VW0 := hide (block_kept bX (unhide VW0))
   replace VX0 := hide (block_kept bX (unhide VX0))
   replace VX1 := hide (block_kept bX (unhide VX1))
   replace VG0 := hide (block_kept bX (unhide VG0))
   replace MO_0 := hide ((unhide MO_0).below bX)
   replace MR_0 := hide ((unhide MR_0).below bX)
   have z26 := bX.size
   clear bX
   have zz26 := block_lt (unhide VH0)
   obtain ⟨c_K00, c_K01⟩ := cells2 (unhide K0)
   have c_K1 := block_one (unhide K1)
   obtain ⟨c_VW00, c_VW01⟩ := cells2 (unhide VW0)
   obtain ⟨c_VX00, c_VX01⟩ := cells2 (unhide VX0)
   have c_VX1 := block_one (unhide VX1)
   obtain ⟨c_VG00, c_VG01⟩ := cells2 (unhide VG0)
   obtain ⟨c_VH00, c_VH01⟩ := cells2 (unhide VH0)
   go_wp2_with fail
   clear c_K00 c_K01
   clear c_K1
   clear c_VW00 c_VW01
   clear c_VX00 c_VX01
   clear c_VX1
   clear c_VG00 c_VG01
   clear c_VH00 c_VH01
   refine (eqZone_has ⟨(unhide Ho0).hasL, (unhide Hr0).has⟩ ((unhide Wz0).below (unhide BW)) (unhide HSS0g)).mono ?_
   rintro e w27 ⟨rfl, b27⟩
   replace bb := below_next bb b27
   replace K0 := hide (block_kept b27 (unhide K0))
   replace K1 := hide (block_kept b27 (unhide K1))
   replace BW := hide ((unhide BW).trans (b27.mono (unhide BW).size))
   replace VW0 := hide (block_kept b27 (unhide VW0))
   replace VX0 := hide (block_kept b27 (unhide VX0))
   replace VX1 := hide (block_kept b27 (unhide VX1))
   replace VG0 := hide (block_kept b27 (unhide VG0))
   replace MO_0 := hide ((unhide MO_0).below b27)
   replace MR_0 := hide ((unhide MR_0).below b27)
   replace Ho0 := hide ((unhide Ho0).below b27)
   replace Hr0 := hide ((unhide Hr0).below b27)
   replace VH0 := hide (block_kept b27 (unhide VH0))
   have z27 := b27.size
   clear b27
   obtain ⟨c_K00, c_K01⟩ := cells2 (unhide K0)
   have c_K1 := block_one (unhide K1)
   obtain ⟨c_VW00, c_VW01⟩ := cells2 (unhide VW0)
   obtain ⟨c_VX00, c_VX01⟩ := cells2 (unhide VX0)
   have c_VX1 := block_one (unhide VX1)
   obtain ⟨c_VG00, c_VG01⟩ := cells2 (unhide VG0)
   obtain ⟨c_VH00, c_VH01⟩ := cells2 (unhide VH0)
   go_wp2_with fail
   clear c_K00 c_K01
   clear c_K1
   clear c_VW00 c_VW01
   clear c_VX00 c_VX01
   clear c_VX1
   clear c_VG00 c_VG01
   clear c_VH00 c_VH01
   refine (unhide HDG0 _ _ _ (unhide MO_0).hasL (unhide MR_0).has).mono ?_
   rintro e w28 ⟨rfl, b28⟩
   replace bb := below_next bb b28
   replace K0 := hide (block_kept b28 (unhide K0))
   replace K1 := hide (block_kept b28 (unhide K1))
   replace BW := hide ((unhide BW).trans (b28.mono (unhide BW).size))
   replace VW0 := hide (block_kept b28 (unhide VW0))
   replace VX0 := hide (block_kept b28 (unhide VX0))
   replace VX1 := hide (block_kept b28 (unhide VX1))
   replace VG0 := hide (block_kept b28 (unhide VG0))
   replace MO_0 := hide ((unhide MO_0).below b28)
   replace MR_0 := hide ((unhide MR_0).below b28)
   replace Ho0 := hide ((unhide Ho0).below b28)
   replace Hr0 := hide ((unhide Hr0).below b28)
   replace VH0 := hide (block_kept b28 (unhide VH0))
   have z28 := b28.size
   clear b28
   go_wp2_with fail
   go_ret
   exact ⟨rfl, bb⟩
end Go.Proofs.YtfgcmjpkgdjcfaaGreat
