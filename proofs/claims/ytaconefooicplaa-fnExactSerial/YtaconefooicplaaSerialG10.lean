/-
  Contracts of the helpers of the laws for zones (szZone, toZone, eqZone). Contracts of the program's kindOf and TypeOk, and of the specification's TypeOk.
-/
import Derived.Test.YtaconefooicplaaSerialG09
import Derived.Test.YtaconefooicplaaSerialG06
namespace Go.Proofs.Ytaconefooicplaa
open Go.RowKit
set_option linter.unusedVariables false

/-- A block of two cells. -/
theorem cells2 {w : World} {b : Nat} {c0 c1 : Value} {t : TypeId} (h : w.heap[b]? = some (.cells #[c0, c1] t)) : w.cell? ⟨b, 0, none⟩ = some c0 ∧ w.cell? ⟨b, 1, none⟩ = some c1 := ⟨block_cell h 0, block_cell h 1⟩
theorem frozen2 {w : World} {b : Nat} {c : Array Value} {t : TypeId} (h : w.heap[b]? = some (.cells c t)) : w.frozen? ⟨b, 0, none⟩ = false ∧ w.frozen? ⟨b, 1, none⟩ = false := ⟨block_frozen h 0, block_frozen h 1⟩

/-- A zone that came in. -/
structure InZ (w : World) (ao ar : Option Addr) (o : List (List Int)) (rs : List Rec) : Prop where
  name : LiesL w ao o
  recs : LiesRs w ar rs
theorem InZ.below {w w' : World} {ao ar : Option Addr} {o : List (List Int)} {rs : List Rec} (h : InZ w ao ar o rs) (hb : Below w.heap.size w w') : InZ w' ao ar o rs := ⟨h.name.below hb, h.recs.below hb⟩
structure SizeZ (m : Nat) (o : List (List Int)) (rs : List Rec) : Prop where
  name : o.length ≤ m
  names : ∀ i, i < o.length → (o.getD i []).length ≤ m
  count : rs.length ≤ m
  recs : ∀ i, i < rs.length → SizeR m (rs.getD i recZ)
theorem SizeZ.mono {m m' : Nat} {o : List (List Int)} {rs : List Rec} (h : SizeZ m o rs) (hm : m ≤ m') : SizeZ m' o rs := ⟨Nat.le_trans h.name hm, fun i hi => Nat.le_trans (h.names i hi) hm, Nat.le_trans h.count hm, fun i hi => (h.recs i hi).mono hm⟩
/-- The slices of a zone have its name and its records. -/
structure HasZ (w : World) (vo vr : Value) (o : List (List Int)) (rs : List Rec) : Prop where
  name : HasL w vo o
  recs : HasRs w vr rs
theorem HasZ.below {w w' : World} {vo vr : Value} {o : List (List Int)} {rs : List Rec} (h : HasZ w vo vr o rs) (hb : Below w.heap.size w w') : HasZ w' vo vr o rs := ⟨h.name.below hb, h.recs.below hb⟩

set_option maxHeartbeats 1000000 in
set_option maxRecDepth 100000 in
theorem szZone_any (ao : Option Addr) (co : Nat) (ar : Option Addr) (cr : Nat) (o : List (List Int)) (rs : List Rec) (left : Int) (w : World) (h : InZ w ao ar o rs) (hm : SizeZ maxLen o rs) (h0 : 0 ≤ left) (h1 : left ≤ 1048576) :
    Calls Try.prog 31 #[.agg #[.slice ao o.length co, .slice ar rs.length cr], .int .i64 left] w fun e w' => (∃ y : Int, e = .returned (.int .i64 y) ∧ -1 ≤ y ∧ y ≤ left ∧ (0 ≤ y → SizeZ left.toNat o rs)) ∧ Below w.heap.size w w' := by
  have b0 := below_alloc (w := w) (.cells #[.slice ao o.length co, .slice ar rs.length cr] 59)
  have k0 := heap_alloc_new w (.cells #[.slice ao o.length co, .slice ar rs.length cr] 59)
  have I0 := hide (h.below b0)
  have HM := hide hm
  have K0 := hide k0
  clear h hm k0
  go_enter Try.func31, Try.ntmps31
  go_wp2_with fail
  generalize w.alloc (.cells #[.slice ao o.length co, .slice ar rs.length cr] 59) = W at *
  refine (szName_any ao co o left _ (unhide I0).name (unhide HM).name (unhide HM).names h0 h1).mono ?_
  rintro e w1 ⟨⟨y1, rfl, ya1, yb1, yc1⟩, b1⟩
  have bb1 := below_next b0 b1
  by_cases n1 : y1 < 0
  · clear yc1 b0 b1
    go_wp2
    go_ret
    exact ⟨⟨-1, rfl, by omega, by omega, fun q => by omega⟩, bb1⟩
  have Y1 := hide (yc1 (by omega))
  have K1 := hide (block_kept b1 (unhide K0))
  have I1 := hide ((unhide I0).below b1)
  obtain ⟨d0, d1⟩ := cells2 (unhide K1)
  clear yc1 b0 b1 I0 K0
  go_wp2_with fail
  clear d0 d1
  refine (szRrS_any ar cr rs y1 _ (unhide I1).recs (unhide HM).count (unhide HM).recs (by omega) (by omega)).mono ?_
  rintro e w2 ⟨⟨y2, rfl, ya2, yb2, yc2⟩, b2⟩
  have bb2 := below_next bb1 b2
  by_cases n2 : y2 < 0
  · clear yc2 b2
    go_wp2
    go_ret
    exact ⟨⟨-1, rfl, by omega, by omega, fun q => by omega⟩, bb2⟩
  have Y2 := hide (yc2 (by omega))
  clear yc2 b2
  go_wp2
  go_ret
  have p1 := unhide Y1
  have p2 := unhide Y2
  exact ⟨⟨y2, rfl, by omega, by omega, fun _ => ⟨by omega, fun i hi => by have := p1.2 i hi; omega, by omega, fun i hi => (p2.2 i hi).mono (by omega)⟩⟩, bb2⟩

set_option maxHeartbeats 1000000 in
set_option maxRecDepth 100000 in
theorem toZone_any (ao : Option Addr) (co : Nat) (ar : Option Addr) (cr : Nat) (o : List (List Int)) (rs : List Rec) (w : World) (h : InZ w ao ar o rs) (hs : SizeZ 1048576 o rs) :
    Calls Try.prog 33 #[.agg #[.slice ao o.length co, .slice ar rs.length cr]] w fun e w' => ∃ vo vr, e = .returned (.agg #[vo, vr]) ∧ HasZ w' vo vr o rs ∧ Below w.heap.size w w' := by
  obtain ⟨hsz, r0, v0⟩ := box3 w (.cells #[.slice ao o.length co, .slice ar rs.length cr] 59) #[.slice none 0 0, .slice none 0 0] #[.slice none 0 0, .slice none 0 0] 64 64
  have b0 : Below w.heap.size w (((w.alloc (.cells #[.slice ao o.length co, .slice ar rs.length cr] 59)).alloc (.cells #[.slice none 0 0, .slice none 0 0] 64)).alloc (.cells #[.slice none 0 0, .slice none 0 0] 64)) := ((below_alloc _).alloc (below_alloc _).size _).alloc ((below_alloc _).alloc (below_alloc _).size _).size _
  have k0 : (((w.alloc (.cells #[.slice ao o.length co, .slice ar rs.length cr] 59)).alloc (.cells #[.slice none 0 0, .slice none 0 0] 64)).alloc (.cells #[.slice none 0 0, .slice none 0 0] 64)).heap[w.heap.size]? = some (.cells #[.slice ao o.length co, .slice ar rs.length cr] 59) := block_kept (below_alloc _) (block_kept (below_alloc _) (heap_alloc_new w _))
  have I0 := hide (h.below b0)
  have HS := hide hs
  have K0 := hide k0
  have R0 := hide r0
  have V0 := hide v0
  have HI := hide h
  have zv := block_lt v0
  clear h hs k0 r0 v0 hsz
  go_enter Try.func33, Try.ntmps33
  go_wp2_with fail
  generalize (((w.alloc (.cells #[.slice ao o.length co, .slice ar rs.length cr] 59)).alloc (.cells #[.slice none 0 0, .slice none 0 0] 64)).alloc (.cells #[.slice none 0 0, .slice none 0 0] 64)) = W at *
  refine (toName_any ao co o _ (unhide I0).name (unhide HS).name (unhide HS).names).mono ?_
  rintro e w1 ⟨v1, rfl, o1, b1⟩
  obtain ⟨n1, m1, rfl, _⟩ := o1.hasL.form
  have bb1 := below_next b0 b1
  have K1 := hide (block_kept b1 (unhide K0))
  have R1 := hide (block_kept b1 (unhide R0))
  have V1 := block_kept b1 (unhide V0)
  have O1 := hide o1.here
  have z1 := b1.size
  obtain ⟨d0, d1⟩ := cells2 (unhide K1)
  obtain ⟨f0, f1⟩ := cells2 V1
  obtain ⟨g0, g1⟩ := frozen2 V1
  clear b0 K0 R0 V0 b1 o1 I0
  go_wp2_with fail
  clear d0 d1 f0 f1 g0 g1
  have u2 := outside_set w1 (w.heap.size + 1 + 1) 0 (.slice n1 o.length m1)
  have V2 : (w1.setCell ⟨w.heap.size + 1 + 1, 0, none⟩ (.slice n1 o.length m1)).heap[w.heap.size + 1 + 1]? = some (.cells #[.slice n1 o.length m1, .slice none 0 0] 64) := block_setAt V1 0 _
  generalize (w1.setCell ⟨w.heap.size + 1 + 1, 0, none⟩ (.slice n1 o.length m1)) = w2 at *
  have bb2 := u2.below bb1 (by omega)
  have R2 := hide (u2.kept (unhide R1) (by omega))
  have O2 := hide ((unhide O1).outside u2 (by omega))
  have z2 := u2.size
  clear bb1 K1 R1 O1 u2 V1
  refine (toRrS_any ar cr rs _ ((unhide HI).below bb2).recs (unhide HS).count (unhide HS).recs).mono ?_
  rintro e w3 ⟨v3, rfl, o3, b3⟩
  obtain ⟨n2, m2, rfl, _⟩ := o3.has.form
  have bb3 := below_next bb2 b3
  have R3 := block_kept b3 (unhide R2)
  have V3 := block_kept b3 V2
  have O3 := hide ((unhide O2).below b3)
  have T3 := hide o3
  have z3 := b3.size
  obtain ⟨f0, f1⟩ := cells2 V3
  obtain ⟨g0, g1⟩ := frozen2 V3
  obtain ⟨p0, p1⟩ := cells2 R3
  obtain ⟨q0, q1⟩ := frozen2 R3
  clear bb2 R2 V2 b3 o3 O2
  go_wp2_with fail
  clear f0 f1 g0 g1 p0 p1 q0 q1
  have u4 := (outside_set w3 (w.heap.size + 1 + 1) 1 (.slice n2 rs.length m2)).wide (B' := w.heap.size + 1) (E' := w.heap.size + 3) (by omega) (by omega)
  have R4 := block_other R3 (b' := w.heap.size + 1 + 1) (by omega) 1 (.slice n2 rs.length m2)
  generalize w3.setCell ⟨w.heap.size + 1 + 1, 1, none⟩ (.slice n2 rs.length m2) = w4 at *
  have R5 : ((w4.setCell ⟨w.heap.size + 1, 0, none⟩ (.slice n1 o.length m1)).setCell ⟨w.heap.size + 1, 1, none⟩ (.slice n2 rs.length m2)).heap[w.heap.size + 1]? = some (.cells #[.slice n1 o.length m1, .slice n2 rs.length m2] 64) := block_setAt (block_setAt R4 0 _) 1 _
  have u5 := ((outside_set w4 (w.heap.size + 1) 0 (.slice n1 o.length m1)).trans (outside_set _ (w.heap.size + 1) 1 (.slice n2 rs.length m2))).wide (B' := w.heap.size + 1) (E' := w.heap.size + 3) (by omega) (by omega)
  refine bodyPost_ret (results_cell_row rfl _ _ (w.heap.size + 1) 64 #[.slice n1 o.length m1, .slice n2 rs.length m2] (0, 0) _ rfl R5 Try.underlying64 rfl (by kernel_rfl)) rfl ?_
  have u6 := u4.trans u5
  exact ⟨_, _, rfl, ⟨((unhide O3).outside u6 (by omega)).hasL, ((unhide T3).outside u6 (by omega)).has⟩, u6.below bb3 (by omega)⟩

set_option maxHeartbeats 1000000 in
set_option maxRecDepth 100000 in
theorem eqZone_has {vo vr uo ur : Value} {o : List (List Int)} {rs : List Rec} {w : World} (h : HasZ w vo vr o rs) (h' : HasZ w uo ur o rs) (hs : SizeZ 2097152 o rs) :
    Calls Try.prog 35 #[.agg #[vo, vr], .agg #[uo, ur]] w fun e w' => e = .returned (.bool true) ∧ Below w.heap.size w w' := by
  obtain ⟨oa, oc, rfl, _⟩ := h.name.form
  obtain ⟨ra, rc, rfl, _⟩ := h.recs.form
  obtain ⟨oa', oc', rfl, _⟩ := h'.name.form
  obtain ⟨ra', rc', rfl, _⟩ := h'.recs.form
  have b0 := below2 w (.cells #[.slice oa o.length oc, .slice ra rs.length rc] 64) (.cells #[.slice oa' o.length oc', .slice ra' rs.length rc'] 64)
  obtain ⟨hsz, k0, x0⟩ := box2 w (.cells #[.slice oa o.length oc, .slice ra rs.length rc] 64) #[.slice oa' o.length oc', .slice ra' rs.length rc'] 64
  have H0 := hide (h.below b0)
  have H0' := hide (h'.below b0)
  have HS := hide hs
  have K0 := hide k0
  have X0 := hide x0
  clear h h' hs k0 x0 hsz
  go_enter Try.func35, Try.ntmps35
  go_wp2_with fail
  generalize (w.alloc (.cells #[.slice oa o.length oc, .slice ra rs.length rc] 64)).alloc (.cells #[.slice oa' o.length oc', .slice ra' rs.length rc'] 64) = W at *
  refine (eqName_has (unhide H0).name (unhide H0').name (unhide HS).names).mono ?_
  rintro e w1 ⟨rfl, b1⟩
  have bb1 := below_next b0 b1
  have H1 := hide ((unhide H0).below b1)
  have H1' := hide ((unhide H0').below b1)
  obtain ⟨d0, d1⟩ := cells2 (block_kept b1 (unhide K0))
  obtain ⟨f0, f1⟩ := cells2 (block_kept b1 (unhide X0))
  clear b0 K0 X0 H0 H0' b1
  go_wp2_with fail
  clear d0 d1 f0 f1
  refine (eqRrS_has (unhide H1).recs (unhide H1').recs (unhide HS).recs).mono ?_
  rintro e w2 ⟨rfl, b2⟩
  go_wp2_with fail
  go_ret
  exact ⟨rfl, below_next bb1 b2⟩
end Go.Proofs.Ytaconefooicplaa

namespace Go.Proofs.Ytaconefooicplaa
open Go.RowKit
set_option linter.unusedVariables false

/-- The types of records. -/
def typeOk (t : Int) : Bool := decide (t = 1 ∨ t = 2 ∨ t = 5 ∨ t = 6 ∨ t = 12 ∨ t = 16 ∨ t = 49)

/-- Which data a type has. -/
def kindV (t : Int) : Value := if t = 1 then .iface 117 (.agg #[.int .i64 0]) else if t = 2 ∨ t = 5 ∨ t = 12 then .iface 119 (.agg #[.slice none 0 0]) else if t = 6 then .iface 121 (.agg #[.slice none 0 0, .slice none 0 0]) else if t = 16 ∨ t = 49 then .iface 123 (.agg #[.slice none 0 0]) else .nilIface

theorem type_cases (t : Int) : t = 1 ∨ t = 2 ∨ t = 5 ∨ t = 6 ∨ t = 12 ∨ t = 16 ∨ t = 49 ∨ typeOk t = false := by
  by_cases h : t = 1 ∨ t = 2 ∨ t = 5 ∨ t = 6 ∨ t = 12 ∨ t = 16 ∨ t = 49
  · omega
  · have : typeOk t = false := decide_eq_false h
    simp [this]
theorem type_other {t : Int} (h : typeOk t = false) : (t == 1) = false ∧ (t == 2) = false ∧ (t == 5) = false ∧ (t == 6) = false ∧ (t == 12) = false ∧ (t == 16) = false ∧ (t == 49) = false := by
  have h' : ¬ (t = 1 ∨ t = 2 ∨ t = 5 ∨ t = 6 ∨ t = 12 ∨ t = 16 ∨ t = 49) := of_decide_eq_false h
  simp only [beq_eq_false_iff_ne]
  omega
theorem kindV_other {t : Int} (h : typeOk t = false) : kindV t = .nilIface := by
  have h' : ¬ (t = 1 ∨ t = 2 ∨ t = 5 ∨ t = 6 ∨ t = 12 ∨ t = 16 ∨ t = 49) := of_decide_eq_false h
  unfold kindV
  rw [if_neg (by omega), if_neg (by omega), if_neg (by omega), if_neg (by omega)]

set_option maxHeartbeats 800000 in
set_option maxRecDepth 100000 in
theorem kindOf_any (t : Int) (w : World) : Calls Try.prog 96 #[.int .i64 t] w fun e w' => e = .returned (kindV t) ∧ w = w' := by
  rcases type_cases t with rfl | rfl | rfl | rfl | rfl | rfl | rfl | h
  iterate 7
    · go_enter Try.func96, Try.ntmps96
      go_wp2
      go_ret
      exact ⟨rfl, rfl⟩
  · obtain ⟨h1, h2, h3, h4, h5, h6, h7⟩ := type_other h
    rw [kindV_other h]
    go_enter Try.func96, Try.ntmps96
    go_wp2
    go_ret
    exact ⟨rfl, rfl⟩

set_option maxHeartbeats 800000 in
set_option maxRecDepth 100000 in
theorem specTypeOk_any (t : Int) (w : World) : Calls Try.prog 65 #[.int .i64 t] w fun e w' => e = .returned (.bool (typeOk t)) ∧ w = w' := by
  rcases type_cases t with rfl | rfl | rfl | rfl | rfl | rfl | rfl | h
  iterate 7
    · go_enter Try.func65, Try.ntmps65
      go_wp2
      go_ret
      exact ⟨rfl, rfl⟩
  · obtain ⟨h1, h2, h3, h4, h5, h6, h7⟩ := type_other h
    rw [h]
    go_enter Try.func65, Try.ntmps65
    go_wp2
    go_ret
    exact ⟨rfl, rfl⟩

set_option maxHeartbeats 800000 in
set_option maxRecDepth 100000 in
theorem implTypeOk_any (t : Int) (w : World) : Calls Try.prog 92 #[.int .i64 t] w fun e w' => e = .returned (.bool (typeOk t)) ∧ w = w' := by
  have hk : (kindV t = .nilIface ∧ typeOk t = false) ∨ ∃ ty v, kindV t = .iface ty v ∧ typeOk t = true := by
    rcases type_cases t with rfl | rfl | rfl | rfl | rfl | rfl | rfl | h
    iterate 7 exact .inr ⟨_, _, rfl, rfl⟩
    exact .inl ⟨kindV_other h, h⟩
  go_enter Try.func92, Try.ntmps92
  go_wp2_with fail
  refine (kindOf_any t _).mono ?_
  rintro e w1 ⟨rfl, rfl⟩
  rcases hk with ⟨h1, h2⟩ | ⟨ty, v, h1, h2⟩
  · rw [h1]
    go_wp2
    go_ret
    exact ⟨by rw [h2]; rfl, rfl⟩
  · rw [h1]
    go_wp2
    go_ret
    exact ⟨by rw [h2]; rfl, rfl⟩
end Go.Proofs.Ytaconefooicplaa
