/-
  Contracts of the helpers of the laws for tasks (markTask, heldTask).
-/
import Derived.Test.YtjgfljndeolmoaaGreatLostG16
import Derived.Test.YtjgfljndeolmoaaGreatLostG43
import Derived.Test.YtjgfljndeolmoaaGreatLostG44
import Derived.Test.YtjgfljndeolmoaaGreatLostG42
namespace Go.Proofs.YtjgfljndeolmoaaGreat
open Go.RowKit
set_option linter.unusedVariables false

theorem outside_belowT {B E : Nat} {w w' : World} (h : Below w.heap.size w w') : Outside B E w w' := ⟨h.os, h.tape, h.output, h.size, fun k hk _ => h.block k hk⟩
def tk1 (t : Tk) (k : Int) : Int := pos t.fst.name k t.fst.name.length
def tk2 (t : Tk) (k : Int) : Int := pos t.name (tk1 t k) t.name.length
def tk3 (t : Tk) (k : Int) : Int := pos t.zone (tk2 t k) t.zone.length
def tk4 (t : Tk) (k : Int) : Int := tk3 t k + t.hints.length
def tk5 (t : Tk) (k : Int) : Int := tk4 t k + t.servers.length
/-- Where the marks of a task end. -/
def posTk (t : Tk) (k : Int) : Int := posRs t.ans (tk5 t k) t.ans.length
/-- A task whose lists are marked. -/
def markTk (t : Tk) (k : Int) : Tk := ⟨t.state, t.id, ⟨markL t.fst.name k, t.fst.type⟩, markL t.name (tk1 t k), markL t.zone (tk2 t k), marksI (tk3 t k) t.hints.length, marksI (tk4 t k) t.servers.length, t.turn, t.sends, t.steps, t.code, markRs t.ans (tk5 t k) t.ans.length⟩
theorem posTk_bound {t : Tk} (hs : SizeTk 1048576 t) (k : Int) : (k ≤ tk1 t k ∧ tk1 t k ≤ k + 1099511627776) ∧ (tk1 t k ≤ tk2 t k ∧ tk2 t k ≤ k + 2199023255552) ∧ (tk2 t k ≤ tk3 t k ∧ tk3 t k ≤ k + 3298534883328) ∧ (tk3 t k ≤ tk4 t k ∧ tk4 t k ≤ k + 3298535931904) ∧ (tk4 t k ≤ tk5 t k ∧ tk5 t k ≤ k + 3298536980480) ∧ (tk5 t k ≤ posTk t k ∧ posTk t k ≤ k + 2305848506777075712) := by
 have h1 := pos_bound' t.fst.name k hs.fst.name hs.fst.names
 have h2 := pos_bound' t.name (tk1 t k) hs.name hs.names
 have h3 := pos_bound' t.zone (tk2 t k) hs.zone hs.zones
 have h6 := posRs_bound' hs.anss hs.ans (tk5 t k)
 have e4 : tk4 t k = tk3 t k + t.hints.length := rfl
 have e5 : tk5 t k = tk4 t k + t.servers.length := rfl
 have l4 := hs.hints
 have l5 := hs.servers
 unfold posTk
 change k ≤ tk1 t k ∧ tk1 t k ≤ k + 1099511627776 at h1
 change tk1 t k ≤ tk2 t k ∧ tk2 t k ≤ tk1 t k + 1099511627776 at h2
 change tk2 t k ≤ tk3 t k ∧ tk3 t k ≤ tk2 t k + 1099511627776 at h3
 omega

set_option maxHeartbeats 1000000 in
set_option maxRecDepth 100000 in
theorem markQuestion_own {q : Que} (hs : SizeQu 1048576 q) (k0 : Int) (hk0 : 0 ≤ k0) (hk1 : k0 ≤ 8000000000000000000) {B E : Nat} {v : Value} {w : World} (hE : E ≤ w.heap.size) (h : OwnN B E 27 5 w v q.name) :
  Calls Tryz.prog 54 #[.agg #[v, .int .i64 q.type], .int .i64 k0] w fun e w' => e = .returned (.int .i64 (pos q.name k0 q.name.length)) ∧ OwnN B E 27 5 w' v (markL q.name k0) ∧ Outside B E w w' := by
 obtain ⟨a, cap, rfl, _⟩ := h.hasL.form
 have b0 := below_alloc (w := w) (.cells #[.slice a q.name.length cap, .int .i64 q.type] 59)
 have KK := hide (heap_alloc_new w (.cells #[.slice a q.name.length cap, .int .i64 q.type] 59))
 have MK := hide (markName_any k0 (h.below b0) hs.name hs.names hk0 hk1)
 have U0 : Outside B E w (w.alloc (.cells #[.slice a q.name.length cap, .int .i64 q.type] 59)) := outside_belowT b0
 clear h hs
 obtain ⟨c0, c1⟩ := cells2 (unhide KK)
 generalize pos q.name k0 q.name.length = P1 at *
 go_enter Tryz.func54, Tryz.ntmps54
 go_wp2_with fail
 clear c0 c1
 generalize w.alloc (.cells #[.slice a q.name.length cap, .int .i64 q.type] 59) = W at *
 refine (unhide MK).mono ?_
 rintro e w1 ⟨rfl, o1, u1⟩
 have O1 := hide o1
 clear o1
 go_wp2_with fail
 go_ret
 exact ⟨rfl, unhide O1, U0.trans u1⟩

set_option maxHeartbeats 1000000 in
set_option maxRecDepth 100000 in
theorem heldQuestion_has {q : Que} (hs : SizeQu 1048576 q) (k0 : Int) (hk0 : 0 ≤ k0) (hk1 : k0 ≤ 8000000000000000000) {v : Value} {w : World} (h : HasL w v (markL q.name k0)) :
  Calls Tryz.prog 68 #[.agg #[v, .int .i64 q.type], .int .i64 k0] w fun e w' => e = .returned (.int .i64 (pos q.name k0 q.name.length)) ∧ Below w.heap.size w w' := by
 have hp := pos_bound' q.name k0 hs.name hs.names
 obtain ⟨a, cap, rfl, _⟩ := h.form
 rw [markL_length] at *
 have b0 := below_alloc (w := w) (.cells #[.slice a q.name.length cap, .int .i64 q.type] 59)
 have KK := hide (heap_alloc_new w (.cells #[.slice a q.name.length cap, .int .i64 q.type] 59))
 have MK := hide (heldName_has k0 (h.below b0) hs.name hs.names hk0 hk1)
 clear h hs
 obtain ⟨c0, c1⟩ := cells2 (unhide KK)
 generalize pos q.name k0 q.name.length = P1 at *
 have hn : ¬ P1 < 0 := by omega
 clear hp
 go_enter Tryz.func68, Tryz.ntmps68
 go_wp2_with fail
 clear c0 c1
 generalize w.alloc (.cells #[.slice a q.name.length cap, .int .i64 q.type] 59) = W at *
 refine (unhide MK).mono ?_
 rintro e w1 ⟨rfl, b1⟩
 go_wp2_with fail
 go_ret
 exact ⟨rfl, below_next b0 b1⟩

set_option maxHeartbeats 4000000 in
set_option maxRecDepth 100000 in
theorem markTask_own {t : Tk} (hs : SizeTk 1048576 t) (k0 : Int) (hk0 : 0 ≤ k0) (hk1 : k0 ≤ 4500000000000000000) {B E : Nat} {vf vn vz vh vr va : Value} {w : World} (hE : E ≤ w.heap.size) (h : OwnTk B E w vf vn vz vh vr va t) :
  Calls Tryz.prog 21 #[.agg #[.int .i64 t.state, .int .i64 t.id, vf, .int .i64 t.fst.type, vn, vz, vh, vr, .int .i64 t.turn, .int .i64 t.sends, .int .i64 t.steps, .int .i64 t.code, va], .int .i64 k0] w fun e w' => e = .returned (.int .i64 (posTk t k0)) ∧ OwnTk B E w' vf vn vz vh vr va (markTk t k0) ∧ Outside B E w w' := by
 have hh := h.has
 obtain ⟨xf, yf, rfl, _⟩ := hh.fst.form
 obtain ⟨xn, yn, rfl, _⟩ := hh.name.form
 obtain ⟨xz, yz, rfl, _⟩ := hh.zone.form
 obtain ⟨xh, yh, rfl, _⟩ := hh.hints.form
 obtain ⟨xr, yr, rfl, _⟩ := hh.servers.form
 obtain ⟨xa, ya, rfl, _⟩ := hh.ans.form
 clear hh
 obtain ⟨p1, p2, p3, p4, p5, p6⟩ := posTk_bound hs k0
 have Mf := fun (B E : Nat) (v : Value) (w : World) (h3 : E ≤ w.heap.size) (h : OwnN B E 27 5 w v t.fst.name) => markQuestion_own hs.fst k0 hk0 (by omega) h3 h
 have Mn := fun (B E : Nat) (v : Value) (w : World) (h : OwnN B E 27 5 w v t.name) => markName_any (tk1 t k0) h hs.name hs.names (by omega) (by omega)
 have Mz := fun (B E : Nat) (v : Value) (w : World) (h : OwnN B E 27 5 w v t.zone) => markName_any (tk2 t k0) h hs.zone hs.zones (by omega) (by omega)
 have Mh := fun (B : Nat) (v : Value) (w : World) (h : OwnI B 3 w v t.hints) => markIntS_any (tk3 t k0) h (Nat.le_trans hs.hints (by decide)) (by omega) (by omega)
 have Mr := fun (B : Nat) (v : Value) (w : World) (h : OwnI B 3 w v t.servers) => markIntS_any (tk4 t k0) h (Nat.le_trans hs.servers (by decide)) (by omega) (by omega)
 have Ma := fun (B E : Nat) (v : Value) (w : World) (h3 : E ≤ w.heap.size) (h : RowO B E 137 27 5 3 w v t.ans) => markRrS_own hs.anss hs.ans (tk5 t k0) (by omega) (by omega) h3 h
 have e1 : pos t.fst.name k0 t.fst.name.length = tk1 t k0 := rfl
 have e2 : pos t.name (tk1 t k0) t.name.length = tk2 t k0 := rfl
 have e3 : pos t.zone (tk2 t k0) t.zone.length = tk3 t k0 := rfl
 have e4 : tk3 t k0 + (t.hints.length : Int) = tk4 t k0 := rfl
 have e5 : tk4 t k0 + (t.servers.length : Int) = tk5 t k0 := rfl
 have e6 : posRs t.ans (tk5 t k0) t.ans.length = posTk t k0 := rfl
 rw [e1] at Mf
 rw [e2] at Mn
 rw [e3] at Mz
 rw [e4] at Mh
 rw [e5] at Mr
 rw [e6] at Ma
 have b0 := below_alloc (w := w) (.cells #[.int .i64 t.state, .int .i64 t.id, .slice xf t.fst.name.length yf, .int .i64 t.fst.type, .slice xn t.name.length yn, .slice xz t.zone.length yz, .slice xh t.hints.length yh, .slice xr t.servers.length yr, .int .i64 t.turn, .int .i64 t.sends, .int .i64 t.steps, .int .i64 t.code, .slice xa t.ans.length ya] 61)
 have KK := hide (heap_alloc_new w (.cells #[.int .i64 t.state, .int .i64 t.id, .slice xf t.fst.name.length yf, .int .i64 t.fst.type, .slice xn t.name.length yn, .slice xz t.zone.length yz, .slice xh t.hints.length yh, .slice xr t.servers.length yr, .int .i64 t.turn, .int .i64 t.sends, .int .i64 t.steps, .int .i64 t.code, .slice xa t.ans.length ya] 61))
 have U0 : Outside B E w (w.alloc (.cells #[.int .i64 t.state, .int .i64 t.id, .slice xf t.fst.name.length yf, .int .i64 t.fst.type, .slice xn t.name.length yn, .slice xz t.zone.length yz, .slice xh t.hints.length yh, .slice xr t.servers.length yr, .int .i64 t.turn, .int .i64 t.sends, .int .i64 t.steps, .int .i64 t.code, .slice xa t.ans.length ya] 61)) := outside_belowT b0
 have hz := World.size_alloc w (.cells #[.int .i64 t.state, .int .i64 t.id, .slice xf t.fst.name.length yf, .int .i64 t.fst.type, .slice xn t.name.length yn, .slice xz t.zone.length yz, .slice xh t.hints.length yh, .slice xr t.servers.length yr, .int .i64 t.turn, .int .i64 t.sends, .int .i64 t.steps, .int .i64 t.code, .slice xa t.ans.length ya] 61)
 have H := h.below b0
 clear h b0 e1 e2 e3 e4 e5 e6
 unfold OwnTk markTk
 obtain ⟨s1, s2, s3, s4, s5, a1, a2, a3, a4, a5, a6, o1, o2, o3, o4, o5, o6⟩ := H
 have O1 := hide o1
 have O2 := hide o2
 have O3 := hide o3
 have O4 := hide o4
 have O5 := hide o5
 have O6 := hide o6
 clear o1 o2 o3 o4 o5 o6
 generalize markL t.fst.name k0 = N1 at *
 generalize markL t.name (tk1 t k0) = N2 at *
 generalize markL t.zone (tk2 t k0) = N3 at *
 generalize marksI (tk3 t k0) t.hints.length = N4 at *
 generalize marksI (tk4 t k0) t.servers.length = N5 at *
 generalize markRs t.ans (tk5 t k0) t.ans.length = N6 at *
 generalize tk1 t k0 = P1 at *
 generalize tk2 t k0 = P2 at *
 generalize tk3 t k0 = P3 at *
 generalize tk4 t k0 = P4 at *
 generalize tk5 t k0 = P5 at *
 generalize posTk t k0 = P6 at *
 replace Mf := hide Mf
 replace Mn := hide Mn
 replace Mz := hide Mz
 replace Mh := hide Mh
 replace Mr := hide Mr
 replace Ma := hide Ma
 have hsz : w.heap.size < (w.alloc (.cells #[.int .i64 t.state, .int .i64 t.id, .slice xf t.fst.name.length yf, .int .i64 t.fst.type, .slice xn t.name.length yn, .slice xz t.zone.length yz, .slice xh t.hints.length yh, .slice xr t.servers.length yr, .int .i64 t.turn, .int .i64 t.sends, .int .i64 t.steps, .int .i64 t.code, .slice xa t.ans.length ya] 61)).heap.size := by omega
 clear hz p1 p2 p3 p4 p5 p6
 obtain ⟨d0, d1, d2, d3, d4, d5, d6, d7, d8, d9, d10, d11, d12⟩ := cells13 (unhide KK)
 go_enter Tryz.func21, Tryz.ntmps21
 go_wp2_with fail
 clear d0 d1 d2 d3 d4 d5 d6 d7 d8 d9 d10 d11 d12
 generalize w.alloc (.cells #[.int .i64 t.state, .int .i64 t.id, .slice xf t.fst.name.length yf, .int .i64 t.fst.type, .slice xn t.name.length yn, .slice xz t.zone.length yz, .slice xh t.hints.length yh, .slice xr t.servers.length yr, .int .i64 t.turn, .int .i64 t.sends, .int .i64 t.steps, .int .i64 t.code, .slice xa t.ans.length ya] 61) = W at *
 refine (unhide Mf _ _ _ _ (by omega) (unhide O1)).mono ?_
 rintro e w1 ⟨rfl, n1, u1⟩
 replace O1 := hide n1
 clear n1
 replace O2 := hide ((unhide O2).outside u1 (by omega))
 replace O3 := hide ((unhide O3).outside u1 (by omega))
 replace O4 := hide ((unhide O4).outside u1 (by omega))
 replace O5 := hide ((unhide O5).outside u1 (by omega))
 replace O6 := hide ((unhide O6).outside u1 (by omega))
 replace KK := hide (u1.kept (unhide KK) (by omega))
 replace U0 := U0.trans (u1.wide (B' := B) (E' := E) (by omega) (by omega))
 have z1 := u1.size
 clear u1 Mf
 obtain ⟨d0, d1, d2, d3, d4, d5, d6, d7, d8, d9, d10, d11, d12⟩ := cells13 (unhide KK)
 go_wp2_with fail
 clear d0 d1 d2 d3 d4 d5 d6 d7 d8 d9 d10 d11 d12
 refine (unhide Mn _ _ _ _ (unhide O2)).mono ?_
 rintro e w2 ⟨rfl, n2, u2⟩
 replace O2 := hide n2
 clear n2
 replace O1 := hide ((unhide O1).outside u2 (by omega))
 replace O3 := hide ((unhide O3).outside u2 (by omega))
 replace O4 := hide ((unhide O4).outside u2 (by omega))
 replace O5 := hide ((unhide O5).outside u2 (by omega))
 replace O6 := hide ((unhide O6).outside u2 (by omega))
 replace KK := hide (u2.kept (unhide KK) (by omega))
 replace U0 := U0.trans (u2.wide (B' := B) (E' := E) (by omega) (by omega))
 have z2 := u2.size
 clear u2 Mn
 obtain ⟨d0, d1, d2, d3, d4, d5, d6, d7, d8, d9, d10, d11, d12⟩ := cells13 (unhide KK)
 go_wp2_with fail
 clear d0 d1 d2 d3 d4 d5 d6 d7 d8 d9 d10 d11 d12
 refine (unhide Mz _ _ _ _ (unhide O3)).mono ?_
 rintro e w3 ⟨rfl, n3, u3⟩
 replace O3 := hide n3
 clear n3
 replace O1 := hide ((unhide O1).outside u3 (by omega))
 replace O2 := hide ((unhide O2).outside u3 (by omega))
 replace O4 := hide ((unhide O4).outside u3 (by omega))
 replace O5 := hide ((unhide O5).outside u3 (by omega))
 replace O6 := hide ((unhide O6).outside u3 (by omega))
 replace KK := hide (u3.kept (unhide KK) (by omega))
 replace U0 := U0.trans (u3.wide (B' := B) (E' := E) (by omega) (by omega))
 have z3 := u3.size
 clear u3 Mz
 obtain ⟨d0, d1, d2, d3, d4, d5, d6, d7, d8, d9, d10, d11, d12⟩ := cells13 (unhide KK)
 go_wp2_with fail
 clear d0 d1 d2 d3 d4 d5 d6 d7 d8 d9 d10 d11 d12
 refine (unhide Mh _ _ _ (unhide O4).1).mono ?_
 rintro e w4 ⟨rfl, q4, g4⟩
 obtain ⟨n4, u4⟩ := (unhide O4).marks q4 g4
 clear q4 g4
 replace O4 := hide n4
 clear n4
 replace O1 := hide ((unhide O1).outside u4 (by omega))
 replace O2 := hide ((unhide O2).outside u4 (by omega))
 replace O3 := hide ((unhide O3).outside u4 (by omega))
 replace O5 := hide ((unhide O5).outside u4 (by omega))
 replace O6 := hide ((unhide O6).outside u4 (by omega))
 replace KK := hide (u4.kept (unhide KK) (by omega))
 replace U0 := U0.trans (u4.wide (B' := B) (E' := E) (by omega) (by omega))
 have z4 := u4.size
 clear u4 Mh
 obtain ⟨d0, d1, d2, d3, d4, d5, d6, d7, d8, d9, d10, d11, d12⟩ := cells13 (unhide KK)
 go_wp2_with fail
 clear d0 d1 d2 d3 d4 d5 d6 d7 d8 d9 d10 d11 d12
 refine (unhide Mr _ _ _ (unhide O5).1).mono ?_
 rintro e w5 ⟨rfl, q5, g5⟩
 obtain ⟨n5, u5⟩ := (unhide O5).marks q5 g5
 clear q5 g5
 replace O5 := hide n5
 clear n5
 replace O1 := hide ((unhide O1).outside u5 (by omega))
 replace O2 := hide ((unhide O2).outside u5 (by omega))
 replace O3 := hide ((unhide O3).outside u5 (by omega))
 replace O4 := hide ((unhide O4).outside u5 (by omega))
 replace O6 := hide ((unhide O6).outside u5 (by omega))
 replace KK := hide (u5.kept (unhide KK) (by omega))
 replace U0 := U0.trans (u5.wide (B' := B) (E' := E) (by omega) (by omega))
 have z5 := u5.size
 clear u5 Mr
 obtain ⟨d0, d1, d2, d3, d4, d5, d6, d7, d8, d9, d10, d11, d12⟩ := cells13 (unhide KK)
 go_wp2_with fail
 clear d0 d1 d2 d3 d4 d5 d6 d7 d8 d9 d10 d11 d12
 refine (unhide Ma _ _ _ _ (by omega) (unhide O6)).mono ?_
 rintro e w6 ⟨rfl, n6, u6⟩
 replace O6 := hide n6
 clear n6
 replace O1 := hide ((unhide O1).outside u6 (by omega))
 replace O2 := hide ((unhide O2).outside u6 (by omega))
 replace O3 := hide ((unhide O3).outside u6 (by omega))
 replace O4 := hide ((unhide O4).outside u6 (by omega))
 replace O5 := hide ((unhide O5).outside u6 (by omega))
 replace KK := hide (u6.kept (unhide KK) (by omega))
 replace U0 := U0.trans (u6.wide (B' := B) (E' := E) (by omega) (by omega))
 have z6 := u6.size
 clear u6 Ma
 go_wp2_with fail
 go_ret
 exact ⟨rfl, ⟨s1, s2, s3, s4, s5, a1, a2, a3, a4, a5, a6, unhide O1, unhide O2, unhide O3, unhide O4, unhide O5, unhide O6⟩, U0⟩

set_option maxHeartbeats 4000000 in
set_option maxRecDepth 100000 in
theorem heldTask_has {t : Tk} (hs : SizeTk 1048576 t) (k0 : Int) (hk0 : 0 ≤ k0) (hk1 : k0 ≤ 4500000000000000000) {vf vn vz vh vr va : Value} {w : World} (h : HasTk w vf vn vz vh vr va (markTk t k0)) :
  Calls Tryz.prog 26 #[.agg #[.int .i64 t.state, .int .i64 t.id, vf, .int .i64 t.fst.type, vn, vz, vh, vr, .int .i64 t.turn, .int .i64 t.sends, .int .i64 t.steps, .int .i64 t.code, va], .int .i64 k0] w fun e w' => e = .returned (.int .i64 (posTk t k0)) ∧ Below w.heap.size w w' := by
 obtain ⟨p1, p2, p3, p4, p5, p6⟩ := posTk_bound hs k0
 have Mf := fun (v : Value) (w : World) (h : HasL w v (markL t.fst.name k0)) => heldQuestion_has hs.fst k0 hk0 (by omega) h
 have Mn := fun (v : Value) (w : World) (h : HasL w v (markL t.name (tk1 t k0))) => heldName_has (tk1 t k0) h hs.name hs.names (by omega) (by omega)
 have Mz := fun (v : Value) (w : World) (h : HasL w v (markL t.zone (tk2 t k0))) => heldName_has (tk2 t k0) h hs.zone hs.zones (by omega) (by omega)
 have Mh := fun (a : Option Addr) (c : Nat) (w : World) (h : LiesI w a (marksI (tk3 t k0) t.hints.length)) => heldIntS_marks a c t.hints.length (tk3 t k0) w h (Nat.le_trans hs.hints (by decide)) (by omega) (by omega)
 have Mr := fun (a : Option Addr) (c : Nat) (w : World) (h : LiesI w a (marksI (tk4 t k0) t.servers.length)) => heldIntS_marks a c t.servers.length (tk4 t k0) w h (Nat.le_trans hs.servers (by decide)) (by omega) (by omega)
 have Ma := fun (v : Value) (w : World) (h : HasRs w v (markRs t.ans (tk5 t k0) t.ans.length)) => heldRrS_has hs.anss hs.ans (tk5 t k0) (by omega) (by omega) h
 have e1 : pos t.fst.name k0 t.fst.name.length = tk1 t k0 := rfl
 have e2 : pos t.name (tk1 t k0) t.name.length = tk2 t k0 := rfl
 have e3 : pos t.zone (tk2 t k0) t.zone.length = tk3 t k0 := rfl
 have e4 : tk3 t k0 + (t.hints.length : Int) = tk4 t k0 := rfl
 have e5 : tk4 t k0 + (t.servers.length : Int) = tk5 t k0 := rfl
 have e6 : posRs t.ans (tk5 t k0) t.ans.length = posTk t k0 := rfl
 rw [e1] at Mf
 rw [e2] at Mn
 rw [e3] at Mz
 rw [e4] at Mh
 rw [e5] at Mr
 rw [e6] at Ma
 clear e1 e2 e3 e4 e5 e6
 have l1 : (markL t.fst.name k0).length = t.fst.name.length := markL_length _ _
 have l2 : (markL t.name (tk1 t k0)).length = t.name.length := markL_length _ _
 have l3 : (markL t.zone (tk2 t k0)).length = t.zone.length := markL_length _ _
 have l4 : (marksI (tk3 t k0) t.hints.length).length = t.hints.length := marks_lengthI _ _
 have l5 : (marksI (tk4 t k0) t.servers.length).length = t.servers.length := marks_lengthI _ _
 have l6 : (markRs t.ans (tk5 t k0) t.ans.length).length = t.ans.length := markRs_length _ _ _
 obtain ⟨h1, h2, h3, h4, h5, h6⟩ := h
 simp only [markTk] at h1 h2 h3 h4 h5 h6
 obtain ⟨xf, yf, rfl, _⟩ := h1.form
 obtain ⟨xn, yn, rfl, _⟩ := h2.form
 obtain ⟨xz, yz, rfl, _⟩ := h3.form
 obtain ⟨xh, yh, rfl, _⟩ := h4.form
 obtain ⟨xr, yr, rfl, _⟩ := h5.form
 obtain ⟨xa, ya, rfl, _⟩ := h6.form
 rw [l1] at *
 rw [l2] at *
 rw [l3] at *
 rw [l4] at *
 rw [l5] at *
 rw [l6] at *
 have b0 := below_alloc (w := w) (.cells #[.int .i64 t.state, .int .i64 t.id, .slice xf t.fst.name.length yf, .int .i64 t.fst.type, .slice xn t.name.length yn, .slice xz t.zone.length yz, .slice xh t.hints.length yh, .slice xr t.servers.length yr, .int .i64 t.turn, .int .i64 t.sends, .int .i64 t.steps, .int .i64 t.code, .slice xa t.ans.length ya] 61)
 have KK := hide (heap_alloc_new w (.cells #[.int .i64 t.state, .int .i64 t.id, .slice xf t.fst.name.length yf, .int .i64 t.fst.type, .slice xn t.name.length yn, .slice xz t.zone.length yz, .slice xh t.hints.length yh, .slice xr t.servers.length yr, .int .i64 t.turn, .int .i64 t.sends, .int .i64 t.steps, .int .i64 t.code, .slice xa t.ans.length ya] 61))
 have O1 := hide (h1.below b0)
 have O2 := hide (h2.below b0)
 have O3 := hide (h3.below b0)
 have O4 := hide (h4.below b0)
 have O5 := hide (h5.below b0)
 have O6 := hide (h6.below b0)
 have L4 := hide (marks_lengthI (tk3 t k0) t.hints.length)
 have L5 := hide (marks_lengthI (tk4 t k0) t.servers.length)
 clear h1 h2 h3 h4 h5 h6 l1 l2 l3 l4 l5 l6
 generalize markL t.fst.name k0 = N1 at *
 generalize markL t.name (tk1 t k0) = N2 at *
 generalize markL t.zone (tk2 t k0) = N3 at *
 generalize marksI (tk3 t k0) t.hints.length = N4 at *
 generalize marksI (tk4 t k0) t.servers.length = N5 at *
 generalize markRs t.ans (tk5 t k0) t.ans.length = N6 at *
 generalize tk1 t k0 = P1 at *
 generalize tk2 t k0 = P2 at *
 generalize tk3 t k0 = P3 at *
 generalize tk4 t k0 = P4 at *
 generalize tk5 t k0 = P5 at *
 generalize posTk t k0 = P6 at *
 replace Mf := hide Mf
 have n1 : ¬ P1 < 0 := by omega
 replace Mn := hide Mn
 have n2 : ¬ P2 < 0 := by omega
 replace Mz := hide Mz
 have n3 : ¬ P3 < 0 := by omega
 replace Mh := hide Mh
 have n4 : ¬ P4 < 0 := by omega
 replace Mr := hide Mr
 have n5 : ¬ P5 < 0 := by omega
 replace Ma := hide Ma
 have n6 : ¬ P6 < 0 := by omega
 clear p1 p2 p3 p4 p5 p6
 obtain ⟨d0, d1, d2, d3, d4, d5, d6, d7, d8, d9, d10, d11, d12⟩ := cells13 (unhide KK)
 go_enter Tryz.func26, Tryz.ntmps26
 go_wp2_with fail
 clear d0 d1 d2 d3 d4 d5 d6 d7 d8 d9 d10 d11 d12
 generalize w.alloc (.cells #[.int .i64 t.state, .int .i64 t.id, .slice xf t.fst.name.length yf, .int .i64 t.fst.type, .slice xn t.name.length yn, .slice xz t.zone.length yz, .slice xh t.hints.length yh, .slice xr t.servers.length yr, .int .i64 t.turn, .int .i64 t.sends, .int .i64 t.steps, .int .i64 t.code, .slice xa t.ans.length ya] 61) = W at *
 refine (unhide Mf _ _ (unhide O1)).mono ?_
 rintro e w1 ⟨rfl, b1⟩
 replace b0 := below_next b0 b1
 replace KK := hide (block_kept b1 (unhide KK))
 replace O2 := hide ((unhide O2).below b1)
 replace O3 := hide ((unhide O3).below b1)
 replace O4 := hide ((unhide O4).below b1)
 replace O5 := hide ((unhide O5).below b1)
 replace O6 := hide ((unhide O6).below b1)
 clear b1 Mf
 obtain ⟨d0, d1, d2, d3, d4, d5, d6, d7, d8, d9, d10, d11, d12⟩ := cells13 (unhide KK)
 go_wp2_with fail
 clear d0 d1 d2 d3 d4 d5 d6 d7 d8 d9 d10 d11 d12
 refine (unhide Mn _ _ (unhide O2)).mono ?_
 rintro e w2 ⟨rfl, b2⟩
 replace b0 := below_next b0 b2
 replace KK := hide (block_kept b2 (unhide KK))
 replace O3 := hide ((unhide O3).below b2)
 replace O4 := hide ((unhide O4).below b2)
 replace O5 := hide ((unhide O5).below b2)
 replace O6 := hide ((unhide O6).below b2)
 clear b2 Mn
 obtain ⟨d0, d1, d2, d3, d4, d5, d6, d7, d8, d9, d10, d11, d12⟩ := cells13 (unhide KK)
 go_wp2_with fail
 clear d0 d1 d2 d3 d4 d5 d6 d7 d8 d9 d10 d11 d12
 refine (unhide Mz _ _ (unhide O3)).mono ?_
 rintro e w3 ⟨rfl, b3⟩
 replace b0 := below_next b0 b3
 replace KK := hide (block_kept b3 (unhide KK))
 replace O4 := hide ((unhide O4).below b3)
 replace O5 := hide ((unhide O5).below b3)
 replace O6 := hide ((unhide O6).below b3)
 clear b3 Mz
 obtain ⟨d0, d1, d2, d3, d4, d5, d6, d7, d8, d9, d10, d11, d12⟩ := cells13 (unhide KK)
 go_wp2_with fail
 clear d0 d1 d2 d3 d4 d5 d6 d7 d8 d9 d10 d11 d12
 refine (unhide Mh _ _ _ (hasI_lies (unhide O4) (unhide L4))).mono ?_
 rintro e w4 ⟨rfl, rfl⟩
 obtain ⟨d0, d1, d2, d3, d4, d5, d6, d7, d8, d9, d10, d11, d12⟩ := cells13 (unhide KK)
 go_wp2_with fail
 clear d0 d1 d2 d3 d4 d5 d6 d7 d8 d9 d10 d11 d12
 refine (unhide Mr _ _ _ (hasI_lies (unhide O5) (unhide L5))).mono ?_
 rintro e w5 ⟨rfl, rfl⟩
 obtain ⟨d0, d1, d2, d3, d4, d5, d6, d7, d8, d9, d10, d11, d12⟩ := cells13 (unhide KK)
 go_wp2_with fail
 clear d0 d1 d2 d3 d4 d5 d6 d7 d8 d9 d10 d11 d12
 refine (unhide Ma _ _ (unhide O6)).mono ?_
 rintro e w6 ⟨rfl, rfl⟩
 go_wp2_with fail
 go_ret
 exact ⟨rfl, b0⟩
end Go.Proofs.YtjgfljndeolmoaaGreat
