/-
  Contracts of the specification's l5soa and Serial. The walk of laws.FnExactSerial.
-/
import Derived.Test.YtaconefooicplaaSerialG30
import Derived.Test.YtaconefooicplaaSerialG34
import Derived.Test.YtaconefooicplaaSerialG10
import Derived.Test.YtaconefooicplaaSerialG26
import Derived.Deep.RegionHeld3
namespace Go.Proofs.Ytaconefooicplaa
open Go.RowKit
set_option linter.unusedVariables false

theorem field_nums (a0 a4 a5 a6 : Option Addr) (n0 n4 n5 n6 c0 c4 c5 c6 : Nat) (x1 x2 x3 : Int) (w : World) : Sem.run Try.prog (Instr.field 50 (Value.agg #[.slice a0 n0 c0, .int .i64 x1, .int .i64 x2, .int .i64 x3, .slice a4 n4 c4, .slice a5 n5 c5, .slice a6 n6 c6]) 6) w = .ok (.slice a6 n6 c6) w := by kernel_rfl
theorem RowS.first {B : Nat} {e : TypeId} {W w : World} {v : Value} {rs : List Rec} (h : RowS B e W w v rs) (hl : 1 ≤ rs.length) :
    ∃ b cap na nc ta tc xa xc ia ic, v = .slice (some ⟨b, 0, none⟩) rs.length cap ∧ w.rangeAt b 0 (cellsR (.slice na (rs.getD 0 recZ).name.length nc) (.slice ta (rs.getD 0 recZ).to.length tc) (.slice xa (rs.getD 0 recZ).text.length xc) (.slice ia (rs.getD 0 recZ).nums.length ic) (rs.getD 0 recZ)) ∧
      HasR W (.slice na (rs.getD 0 recZ).name.length nc) (.slice ta (rs.getD 0 recZ).to.length tc) (.slice xa (rs.getD 0 recZ).text.length xc) (.slice ia (rs.getD 0 recZ).nums.length ic) (rs.getD 0 recZ) := by
  obtain ⟨xs, ho, hx⟩ := h
  obtain ⟨vn, vt, vx, vi, q1, q2⟩ := hx 0 (by omega)
  obtain ⟨na, nc, rfl, _⟩ := q2.name.form
  obtain ⟨ta, tc, rfl, _⟩ := q2.to.form
  obtain ⟨xa, xc, rfl, _⟩ := q2.text.form
  obtain ⟨ia, ic, rfl, _⟩ := q2.nums.form
  have ho' := ho
  rcases ho.2 with ⟨rfl, hn⟩ | ⟨g, cap, cur, rfl, _⟩
  · omega
  · refine ⟨g, cap, na, nc, ta, tc, xa, xc, ia, ic, rfl, fun j u hj => ?_, q2⟩
    have hj7 : j < 7 := by
      have := (List.getElem?_eq_some_iff.1 hj).1
      simpa [cellsR] using this
    rw [Nat.zero_add, World.ownsRow.cellAt ho' j (by omega)]
    have := q1 j u hj
    rwa [Nat.zero_mul, Nat.zero_add] at this

set_option maxHeartbeats 2000000 in
set_option maxRecDepth 100000 in
theorem l5soa_has {vo vr : Value} {o : List (List Int)} {rs : List Rec} {w : World} (h : HasZ w vo vr o rs) (h60 : rs.length ≤ 60) (hn : o.length ≤ 1048576) (hs : ∀ k, k < rs.length → (rs.getD k recZ).name.length ≤ 1048576) (hsl : 1 ≤ (selK o 6 rs rs.length).length) :
    Calls Try.prog 79 #[.agg #[vo, vr]] w fun e w' => ∃ vn vt vx vi, e = .returned (.agg #[vn, .int .i64 ((selK o 6 rs rs.length).getD 0 recZ).type, .int .i64 ((selK o 6 rs rs.length).getD 0 recZ).ttl, .int .i64 ((selK o 6 rs rs.length).getD 0 recZ).addr, vt, vx, vi]) ∧ HasR w' vn vt vx vi ((selK o 6 rs rs.length).getD 0 recZ) ∧ Below w.heap.size w w' := by
  obtain ⟨oa, oc, rfl, _⟩ := h.name.form
  obtain ⟨ra, rc, rfl, _⟩ := h.recs.form
  obtain ⟨hsz, k0, x0⟩ := box2 w (.cells #[.slice oa o.length oc, .slice ra rs.length rc] 64) #[.slice none 0 0, .int .i64 0, .int .i64 0, .int .i64 0, .slice none 0 0, .slice none 0 0, .slice none 0 0] 50
  have b0 := below2 w (.cells #[.slice oa o.length oc, .slice ra rs.length rc] 64) (.cells #[.slice none 0 0, .int .i64 0, .int .i64 0, .int .i64 0, .slice none 0 0, .slice none 0 0, .slice none 0 0] 50)
  have HALL := hide (l5all_has 6 h b0 (h.below b0).name h60 hn hs)
  have X0 := hide x0
  obtain ⟨d0, d1⟩ := cells2 k0
  clear h k0 x0 hsz hs hn h60
  generalize selK o 6 rs rs.length = sl at *
  generalize hrr : sl.getD 0 recZ = r at *
  have HRR := hide hrr
  clear hrr
  go_enter Try.func79, Try.ntmps79
  go_wp2_with fail
  clear d0 d1
  generalize (w.alloc (.cells #[.slice oa o.length oc, .slice ra rs.length rc] 64)).alloc (.cells #[.slice none 0 0, .int .i64 0, .int .i64 0, .int .i64 0, .slice none 0 0, .slice none 0 0, .slice none 0 0] 50) = W at *
  refine (unhide HALL).mono ?_
  rintro e w1 ⟨v1, B, rfl, r1, b1⟩
  obtain ⟨b, cap, na, nc, ta, tc, xa, xc, ia, ic, rfl, hr, hu⟩ := r1.first hsl
  rw [unhide HRR] at hr hu
  clear r1 HALL
  have bb := below_next b0 b1
  have R1 := block_kept b1 (unhide X0)
  obtain ⟨c0, c1, c2, c3, c4, c5, c6⟩ := range7 hr
  simp only [Nat.zero_add] at c1 c2 c3 c4 c5 c6
  obtain ⟨p0, p1, p2, p3, p4, p5, p6⟩ := cells7 R1
  obtain ⟨f0, f1, f2, f3, f4, f5, f6⟩ := frozen7 R1
  obtain ⟨R2, u2⟩ := set7 (c0 := .slice na r.name.length nc) (c1 := .int .i64 r.type) (c2 := .int .i64 r.ttl) (c3 := .int .i64 r.addr) (c4 := .slice ta r.to.length tc) (c5 := .slice xa r.text.length xc) (c6 := .slice ia r.nums.length ic) R1
  have HU := hide hu
  have HR2 := hide R2
  have HU2 := hide u2
  have hl1 : (0 : Int) < sl.length := by omega
  clear hr hu R1 R2 u2 b0 b1 X0
  go_wp2_with fail
  refine bodyPost_ret (results_cell_row rfl _ _ (w.heap.size + 1) 50 #[.slice na r.name.length nc, .int .i64 r.type, .int .i64 r.ttl, .int .i64 r.addr, .slice ta r.to.length tc, .slice xa r.text.length xc, .slice ia r.nums.length ic] (0, 0) _ rfl (unhide HR2) Try.underlying50 rfl (by kernel_rfl)) rfl ?_
  have bf := (unhide HU2).below bb (by omega)
  exact ⟨_, _, _, _, rfl, (unhide HU).below bf, bf⟩

set_option maxHeartbeats 1000000 in
set_option maxRecDepth 100000 in
theorem specSerial_has {vo vr : Value} {o : List (List Int)} {rs : List Rec} {w : World} (h : HasZ w vo vr o rs) (hn : o.length ≤ 1048576) (hs : ∀ k, k < rs.length → (rs.getD k recZ).name.length ≤ 1048576) :
    Calls Try.prog 36 #[.agg #[vo, vr]] w fun e w' => e = .returned (.int .i64 (serialOf o rs)) ∧ Below w.heap.size w w' := by
  obtain ⟨oa, oc, rfl, _⟩ := h.name.form
  obtain ⟨ra, rc, rfl, _⟩ := h.recs.form
  have b0 := below_alloc (w := w) (.cells #[.slice oa o.length oc, .slice ra rs.length rc] 64)
  have K0 := hide (heap_alloc_new w (.cells #[.slice oa o.length oc, .slice ra rs.length rc] 64))
  have H0 := hide (h.below b0)
  have ZO := specZoneOk_has (h.below b0) hs
  unfold serialOf
  clear h
  cases hok : zoneOk o rs with
  | false =>
    rw [hok] at ZO
    replace ZO := hide ZO
    rw [if_neg (by simp)]
    clear hok
    go_enter Try.func36, Try.ntmps36
    go_wp2_with fail
    refine (unhide ZO).mono ?_
    rintro e w1 ⟨rfl, b1⟩
    go_wp2_with fail
    go_ret
    exact ⟨rfl, below_next b0 b1⟩
  | true =>
    rw [hok] at ZO
    replace ZO := hide ZO
    rw [if_pos rfl]
    obtain ⟨s, hs1, _, _, hl, hg, hnum⟩ := zone_soa hok
    rw [← hg] at hnum
    have h60 := (of_decide_eq_true hok).2.1
    have SO := fun (w : World) (h : HasZ w (.slice oa o.length oc) (.slice ra rs.length rc) o rs) => l5soa_has h h60 hn hs hl
    replace SO := hide SO
    clear hok hg hs1 hl
    generalize (selK o 6 rs rs.length).getD 0 recZ = r at *
    obtain ⟨x, y, hxy⟩ := two_of hnum
    have ex : r.nums.getD 0 0 = x := by rw [hxy]; rfl
    rw [ex]
    have HXY := hide hxy
    clear hnum hxy ex
    go_enter Try.func36, Try.ntmps36
    go_wp2_with fail
    generalize w.alloc (.cells #[.slice oa o.length oc, .slice ra rs.length rc] 64) = W at *
    refine (unhide ZO).mono ?_
    rintro e w1 ⟨rfl, b1⟩
    have H1 := hide ((unhide H0).below b1)
    obtain ⟨d0, d1⟩ := cells2 (block_kept b1 (unhide K0))
    have bb := below_next b0 b1
    clear ZO K0 H0 b0 b1
    go_wp2_with fail
    clear d0 d1
    refine (unhide SO _ (unhide H1)).mono ?_
    rintro e w2 ⟨vn, vt, vx, vi, rfl, hu, b2⟩
    obtain ⟨na, nc, rfl, _⟩ := hu.name.form
    obtain ⟨ta, tc, rfl, _⟩ := hu.to.form
    obtain ⟨xa, xc, rfl, _⟩ := hu.text.form
    have hnu := hu.nums
    rw [unhide HXY] at hnu
    obtain ⟨gi, oi, ci, rfl, _, q0, q1⟩ := hnu.two
    clear hu hnu
    have hfl := field_nums na ta xa (some ⟨gi, oi, none⟩) r.name.length r.to.length r.text.length 2 nc tc xc ci r.type r.ttl r.addr w2
    go_wp2_with fail
    go_ret
    exact ⟨rfl, below_next bb b2⟩
end Go.Proofs.Ytaconefooicplaa

namespace Go.Proofs.Ytaconefooicplaa
open Go.RowKit
set_option linter.unusedVariables false

set_option maxHeartbeats 2000000 in
set_option maxRecDepth 100000 in
theorem lawSerial (ao : Option Addr) (co : Nat) (ar : Option Addr) (cr : Nat) (o : List (List Int)) (rs : List Rec) (w : World) (h : InZ w ao ar o rs) (hm : SizeZ maxLen o rs) :
    Calls Try.prog 8 #[.agg #[.slice ao o.length co, .slice ar rs.length cr]] w fun e w' => e = .returned (.bool true) ∧ Below w.heap.size w w' := by
  have bb := below_alloc (w := w) (.cells #[.slice ao o.length co, .slice ar rs.length cr] 59)
  have K0 := hide (heap_alloc_new w (.cells #[.slice ao o.length co, .slice ar rs.length cr] 59))
  have L0 := hide h
  have HM := hide hm
  clear h hm
  go_enter Try.func8, Try.ntmps8
  go_wp2_with fail
  generalize w.alloc (.cells #[.slice ao o.length co, .slice ar rs.length cr] 59) = W at *
  refine (szZone_any ao co ar cr o rs 1048576 _ ((unhide L0).below bb) (unhide HM) (by omega) (by omega)).mono ?_
  rintro e w1 ⟨⟨y, rfl, hr0, hr1, hr2⟩, b1⟩
  replace bb := below_next bb b1
  replace K0 := hide (block_kept b1 (unhide K0))
  clear b1
  by_cases hneg : y < 0
  · clear hr2
    go_wp2_with fail
    go_ret
    exact ⟨rfl, bb⟩
  have HS := hide ((hr2 (by omega)).mono (m' := 1048576) (by omega))
  have HSS := hide ((unhide HS).mono (m' := 2097152) (by omega))
  clear hr2 HM
  have hsn : ∀ k, k < rs.length → (rs.getD k recZ).name.length ≤ 1048576 := fun k hk => ((unhide HS).recs k hk).name
  have hno : o.length ≤ 1048576 := (unhide HS).name
  have SP := fun (w : World) (vo vr : Value) (h : HasZ w vo vr o rs) => specSerial_has h hno hsn
  have IM := fun (w : World) (vo vr : Value) (h : HasZ w vo vr o rs) => implSerial_has h
  generalize serialOf o rs = G0 at *
  replace SP := hide SP
  replace IM := hide IM
  have hgg : (G0 != G0) = false := by simp
  clear hsn hno
  obtain ⟨d0, d1⟩ := cells2 (unhide K0)
  go_wp2_with fail
  clear d0 d1
  refine (toZone_any ao co ar cr o rs _ ((unhide L0).below bb) (unhide HS)).mono ?_
  rintro e w2 ⟨vo2, vr2, rfl, o2, b2⟩
  obtain ⟨oa2, oc2, rfl, _⟩ := o2.name.form
  obtain ⟨ra2, rc2, rfl, _⟩ := o2.recs.form
  have A2 := hide o2
  clear o2
  replace bb := below_next bb b2
  replace K0 := hide (block_kept b2 (unhide K0))
  clear b2
  go_wp2_with fail
  refine (unhide SP _ _ _ (unhide A2)).mono ?_
  rintro e w3 ⟨rfl, b3⟩
  clear A2
  replace bb := below_next bb b3
  replace K0 := hide (block_kept b3 (unhide K0))
  clear b3
  obtain ⟨d0, d1⟩ := cells2 (unhide K0)
  go_wp2_with fail
  clear d0 d1
  refine (toZone_any ao co ar cr o rs _ ((unhide L0).below bb) (unhide HS)).mono ?_
  rintro e w4 ⟨vo4, vr4, rfl, o4, b4⟩
  obtain ⟨oa4, oc4, rfl, _⟩ := o4.name.form
  obtain ⟨ra4, rc4, rfl, _⟩ := o4.recs.form
  replace bb := below_next bb b4
  replace K0 := hide (block_kept b4 (unhide K0))
  clear b4
  have b5 := below_alloc (w := w4) (.cells #[.slice oa4 o.length oc4, .slice ra4 rs.length rc4] 64)
  have VX := hide (heap_alloc_new w4 (.cells #[.slice oa4 o.length oc4, .slice ra4 rs.length rc4] 64))
  have X0 := hide (o4.below b5)
  replace bb := below_next bb b5
  replace K0 := hide (block_kept b5 (unhide K0))
  clear b5 o4
  obtain ⟨f0, f1⟩ := cells2 (unhide VX)
  go_wp2_with fail
  clear f0 f1
  generalize w4.alloc (.cells #[.slice oa4 o.length oc4, .slice ra4 rs.length rc4] 64) = w5 at *
  refine (unhide IM _ _ _ (unhide X0)).mono ?_
  rintro e w6 ⟨rfl, b6⟩
  have b7 := below_next b6 (below_drew (w := w6))
  replace bb := below_next bb b7
  replace K0 := hide (block_kept b7 (unhide K0))
  replace X0 := hide ((unhide X0).below b7)
  replace VX := hide (block_kept b7 (unhide VX))
  clear b6 b7
  go_wp2_with fail
  go_region_held3 (fun w' => (w'.cell? ⟨w.heap.size, 0, none⟩ = some (.slice ao o.length co) ∧ w'.cell? ⟨w.heap.size, 1, none⟩ = some (.slice ar rs.length cr)) ∧ (w'.cell? ⟨w4.heap.size, 0, none⟩ = some (.slice oa4 o.length oc4) ∧ w'.cell? ⟨w4.heap.size, 1, none⟩ = some (.slice ra4 rs.length rc4)))
    (first | exact ⟨cells2 (unhide K0), cells2 (unhide VX)⟩ | exact ⟨cells2 (block_kept q8 (unhide K0)), cells2 (block_kept q8 (unhide VX))⟩ | exact ⟨cells2 (block_kept b8 (unhide K0)), cells2 (block_kept b8 (unhide VX))⟩)
    (first
    | (go_at_call 33; refine (toZone_any ao co ar cr o rs _ ((unhide L0).below bb) (unhide HS)).mono ?_; rintro e w8 ⟨vo8, vr8, rfl, o8, b8⟩; obtain ⟨oa8, oc8, rfl, _⟩ := o8.name.form; obtain ⟨ra8, rc8, rfl, _⟩ := o8.recs.form)
    | (go_at_call 35; refine (eqZone_has ((unhide X0).below b8) o8 (unhide HSS)).mono ?_; rintro e w9 ⟨rfl, b9⟩; have q8 := below_next b8 b9))
  go_wp2_with fail
  go_ret
  exact ⟨rfl, below_next bb q8⟩
end Go.Proofs.Ytaconefooicplaa
