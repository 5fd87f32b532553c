/-
  Contract of the specification's Owner. The walk of laws.FnExactOwner.
-/
import Derived.Test.YtmnlhjdjjinbiaaGreatOwnerG33
import Derived.Test.YtmnlhjdjjinbiaaGreatOwnerG36
import Derived.Test.YtmnlhjdjjinbiaaGreatOwnerG31
import Derived.Test.YtmnlhjdjjinbiaaGreatOwnerG19
import Derived.Deep.RegionHeld3
import Derived.Test.YtmnlhjdjjinbiaaGreatOwnerG06
import Derived.Test.YtmnlhjdjjinbiaaGreatOwnerG05
import Derived.Test.YtmnlhjdjjinbiaaGreatOwnerG04
import Derived.Test.YtmnlhjdjjinbiaaGreatOwnerG32
namespace Go.Proofs.YtmnlhjdjjinbiaaGreat
open Go.RowKit
set_option linter.unusedVariables false

set_option maxHeartbeats 2000000 in
set_option maxRecDepth 100000 in
theorem l7owner_has {vo vr v vi : Value} {o n : List (List Int)} {rs : List Rec} {id : List Int} {w : World} (h : HasZ w vo vr o rs) (hn : HasL w v n) (hi : Has w vi id) (h60 : rs.length ≤ 60) (hn6 : n.length ≤ 1048576) (hs : ∀ k, k < rs.length → (rs.getD k recZ).name.length ≤ 1048576) :
    Calls Tryz.prog 73 #[.agg #[vo, vr], .agg #[v], vi] w fun e w' => e = .returned (.tuple #[.bool (selK n 255 rs rs.length).isEmpty, .bool (allTell (selK n 49 rs rs.length) id)]) ∧ Below w.heap.size w w' := by
  obtain ⟨oa, oc, rfl, _⟩ := h.name.form
  obtain ⟨ra, rc, rfl, _⟩ := h.recs.form
  obtain ⟨a, cap, rfl, _⟩ := hn.form
  obtain ⟨ia', icap, rfl, _⟩ := hi.form
  obtain ⟨hsz, k0, x0⟩ := box2 w (.cells #[.slice oa o.length oc, .slice ra rs.length rc] 37) #[.slice a n.length cap] 34
  have bb := below2 w (.cells #[.slice oa o.length oc, .slice ra rs.length rc] 37) (.cells #[.slice a n.length cap] 34)
  have HA := hide (l5all_has 255 (h.below bb) (Below.refl _ _) (hn.below bb) h60 hn6 hs)
  have HI := hide (hi.below bb)
  obtain ⟨c0, c1⟩ := cells2 k0
  have c2 := block_one x0
  have hlen := selK_length n 255 rs rs.length
  rw [sel49]
  generalize selK n 255 rs rs.length = l at *
  generalize hre : l.isEmpty = E
  generalize hra : allTell (l.filter (fun r => decide (r.type = 49))) id = R
  have HRE := hide hre
  have HRA := hide hra
  clear h hn hi k0 x0 hsz hre hra
  go_enter Tryz.func73, Tryz.ntmps73
  go_wp2_with fail
  refine (unhide HA).mono ?_
  rintro e w1 ⟨v1, B1, rfl, r1, b1⟩
  have h1 := r1.has b1
  replace bb := below_next bb b1
  replace HI := hide ((unhide HI).below b1)
  obtain ⟨la, lc, rfl, _⟩ := h1.form
  have H1 := hide h1
  clear c0 c1 c2 HA r1 b1 h1
  generalize hm : l.length = m at *
  have HM := hide hm
  clear hm
  go_wp2_with fail
  go_loopw [9, 10] (fun y i wr => ∃ k : Nat, k ≤ m ∧ i = .int .i64 k ∧ y = .bool (sign1 l k) ∧ noOther l id k ∧ Below w1.heap.size w1 wr) (fun _ i _ => m - (intOf i).toNat)
  case atStart => exact ⟨0, Nat.zero_le _, rfl, rfl, fun j hj => absurd hj (Nat.not_lt_zero _), Below.refl _ _⟩
  case round =>
    obtain ⟨k, hk, rfl, rfl, hno, hbw⟩ := hrel
    have HNO := hide hno
    clear hno
    by_cases hlt : k < m
    · have hkm : (k : Int) < m := by omega
      obtain ⟨g, off, na, nc, ta, tc, xa, xc, ia, ic, rfl, hbl, hc, hu⟩ := ((unhide H1).below hbw).here (k := k) (by rw [unhide HM]; exact hlt)
      generalize hrk : l.getD k recZ = rk at *
      have HRK := hide hrk
      obtain ⟨c0, c1, c2, c3, c4, c5, c6⟩ := range7 hc
      have cv1 := conv_has (hu.text.below (below_drew (w := wr)))
      have cv2 := conv_has (((unhide HI).below hbw).below (below_drew (w := wr)))
      have d5 : wr.drew.cell? ⟨g, off + k * 7 + 5, none⟩ = some (.slice xa rk.text.length xc) := c5
      clear hu hc hrk
      by_cases ht : rk.type = 49
      · have htb : (rk.type == 49) = true := by rw [ht]; rfl
        cases hz : eqT rk.text id with
        | true =>
          have hzz : ((strOfNums rk.text).toList == (strOfNums id).toList) = true := hz
          clear hz
          go_wp2_with fail
          go_region_held3 (fun w' => w'.cell? ⟨g, off + k * 7 + 5, none⟩ = some (.slice xa rk.text.length xc) ∧ (convert 28 9 (.slice xa rk.text.length xc)).run Tryz.prog w' = .ok (.string (strOfNums rk.text)) w' ∧ (convert 28 9 (.slice ia' id.length icap)).run Tryz.prog w' = .ok (.string (strOfNums id)) w')
            (exact ⟨d5, cv1, cv2⟩) (fail)
          go_wp2_with fail
          go_roundw
          case rel => exact ⟨k + 1, by omega, by go_num, by rw [sign1, unhide HRK, ht]; simp, fun j hj => by
            by_cases hjk : j = k
            · rw [hjk, unhide HRK]; exact fun _ => hzz
            · exact unhide HNO j (by omega), below_next hbw (below_drew (w := wr))⟩
          case measure => simp [intOf]; omega
        | false =>
          have hzz : ((strOfNums rk.text).toList == (strOfNums id).toList) = false := hz
          obtain ⟨q1, q2⟩ := tell_not (l := l) (id := id) (i := k) (by rw [unhide HM]; exact hlt) (by rw [unhide HRK]; exact ht) (by rw [unhide HRK]; exact hz)
          rw [unhide HRA] at q1
          rw [unhide HRE] at q2
          subst q1 q2
          clear hz
          go_wp2_with fail
          go_region_held3 (fun w' => w'.cell? ⟨g, off + k * 7 + 5, none⟩ = some (.slice xa rk.text.length xc) ∧ (convert 28 9 (.slice xa rk.text.length xc)).run Tryz.prog w' = .ok (.string (strOfNums rk.text)) w' ∧ (convert 28 9 (.slice ia' id.length icap)).run Tryz.prog w' = .ok (.string (strOfNums id)) w')
            (exact ⟨d5, cv1, cv2⟩) (fail)
          go_wp2_with fail
          go_ret2
          exact ⟨rfl, below_next bb (below_next hbw (below_drew (w := wr)))⟩
      · have htb : (rk.type == 49) = false := by rw [beq_eq_false_iff_ne]; exact ht
        go_wp2_with fail
        go_roundw
        case rel => exact ⟨k + 1, by omega, by go_num, by rw [sign1, unhide HRK]; simp [ht], fun j hj => by
          by_cases hjk : j = k
          · rw [hjk, unhide HRK]; exact fun q => absurd q ht
          · exact unhide HNO j (by omega), hbw⟩
        case measure => simp [intOf]; omega
    · obtain rfl : k = m := by omega
      have q1 := tell_all (l := l) (id := id) (by rw [unhide HM]; exact unhide HNO)
      rw [unhide HRA, unhide HM] at q1
      have q2 : E = decide (k = 0) := by rw [← unhide HRE, ← unhide HM]; cases l <;> simp
      by_cases h0 : k = 0
      · subst h0
        rw [decide_eq_true rfl] at q2
        subst q1 q2
        go_wp2_with fail
        go_ret2
        exact ⟨rfl, below_next bb hbw⟩
      · have hk0 : ((k : Int) == 0) = false := by rw [beq_eq_false_iff_ne]; omega
        rw [decide_eq_false h0] at q2
        subst q1 q2
        go_wp2_with fail
        go_ret2
        exact ⟨rfl, below_next bb hbw⟩

set_option maxHeartbeats 2000000 in
set_option maxRecDepth 100000 in
theorem specOwner_has {vo vr v vi : Value} {o n : List (List Int)} {rs : List Rec} {id : List Int} {w : World} (h : HasZ w vo vr o rs) (hn : HasL w v n) (hi : Has w vi id) (hs : ∀ k, k < rs.length → (rs.getD k recZ).name.length ≤ 1048576) :
    Calls Tryz.prog 32 #[.agg #[vo, vr], .agg #[v], vi] w fun e w' => e = .returned (.tuple #[.bool (ownerOf o rs n id).1, .bool (ownerOf o rs n id).2]) ∧ Below w.heap.size w w' := by
  obtain ⟨oa, oc, rfl, _⟩ := h.name.form
  obtain ⟨ra, rc, rfl, _⟩ := h.recs.form
  obtain ⟨a, cap, rfl, _⟩ := hn.form
  obtain ⟨ia, ic, rfl, _⟩ := hi.form
  obtain ⟨hsz, k0, x0⟩ := box2 w (.cells #[.slice oa o.length oc, .slice ra rs.length rc] 37) #[.slice a n.length cap] 34
  have bb := below2 w (.cells #[.slice oa o.length oc, .slice ra rs.length rc] 37) (.cells #[.slice a n.length cap] 34)
  have HH := hide (h.below bb)
  have HN := hide (hn.below bb)
  have HI := hide (hi.below bb)
  have HO := specZoneOk_has (h.below bb) hs
  have KZ := hide k0
  have KN := hide x0
  have HS := hide hs
  obtain ⟨c0, c1⟩ := cells2 k0
  clear h hn hi hsz k0 x0 hs
  generalize hres : ownerOf o rs n id = res
  unfold ownerOf at hres
  cases hz : zoneOk o rs with
  | false =>
    rw [if_neg (fun q => by rw [hz] at q; cases q.1)] at hres
    subst hres
    rw [hz] at HO
    replace HO := hide HO
    go_enter Tryz.func32, Tryz.ntmps32
    go_wp2_with fail
    refine (unhide HO).mono ?_
    rintro e w1 ⟨rfl, b1⟩
    go_wp2_with fail
    go_ret2
    exact ⟨rfl, below_next bb b1⟩
  | true =>
    rw [hz] at HO
    replace HO := hide HO
    cases hnm : nameOk n with
    | false =>
      rw [if_neg (fun q => by rw [hnm] at q; cases q.2)] at hres
      subst hres
      go_enter Tryz.func32, Tryz.ntmps32
      go_wp2_with fail
      refine (unhide HO).mono ?_
      rintro e w1 ⟨rfl, b1⟩
      have HM := specNameOk_has ((unhide HN).below b1)
      rw [hnm] at HM
      replace HM := hide HM
      have d2 := block_one (block_kept b1 (unhide KN))
      replace bb := below_next bb b1
      clear c0 c1
      go_wp2_with fail
      refine (unhide HM).mono ?_
      rintro e w2 ⟨rfl, b2⟩
      go_wp2_with fail
      go_ret2
      exact ⟨rfl, below_next bb b2⟩
    | true =>
      rw [if_pos ⟨hz, hnm⟩] at hres
      subst hres
      dsimp only
      have h60 := (zone_short hz).2.2
      have hn6 := (nameOk_parts hnm).1
      have HW := hide (fun (w : World) (vo vr v vi : Value) (h : HasZ w vo vr o rs) (hn : HasL w v n) (hi : Has w vi id) => l7owner_has h hn hi h60 (by omega) (unhide HS))
      generalize (selK n 255 rs rs.length).isEmpty = E at *
      generalize allTell (selK n 49 rs rs.length) id = R at *
      go_enter Tryz.func32, Tryz.ntmps32
      go_wp2_with fail
      refine (unhide HO).mono ?_
      rintro e w1 ⟨rfl, b1⟩
      have HM := specNameOk_has ((unhide HN).below b1)
      rw [hnm] at HM
      replace HM := hide HM
      have d2 := block_one (block_kept b1 (unhide KN))
      replace bb := below_next bb b1
      replace HH := hide ((unhide HH).below b1)
      replace HN := hide ((unhide HN).below b1)
      replace HI := hide ((unhide HI).below b1)
      replace KZ := hide (block_kept b1 (unhide KZ))
      replace KN := hide (block_kept b1 (unhide KN))
      clear c0 c1 b1 HO
      go_wp2_with fail
      refine (unhide HM).mono ?_
      rintro e w2 ⟨rfl, b2⟩
      replace bb := below_next bb b2
      have HL := hide (unhide HW _ _ _ _ _ ((unhide HH).below b2) ((unhide HN).below b2) ((unhide HI).below b2))
      obtain ⟨e0, e1⟩ := cells2 (block_kept b2 (unhide KZ))
      have e2 := block_one (block_kept b2 (unhide KN))
      clear d2 b2 HM
      go_wp2_with fail
      refine (unhide HL).mono ?_
      rintro e w3 ⟨rfl, b3⟩
      go_wp2_with fail
      go_ret2
      exact ⟨rfl, below_next bb b3⟩
end Go.Proofs.YtmnlhjdjjinbiaaGreat

namespace Go.Proofs.YtmnlhjdjjinbiaaGreat
open Go.RowKit
set_option linter.unusedVariables false

set_option maxHeartbeats 2000000 in
set_option maxRecDepth 100000 in
theorem lawOwner (ao : Option Addr) (co : Nat) (ar : Option Addr) (cr : Nat) (o : List (List Int)) (rs : List Rec) (a : Option Addr) (cap : Nat) (n : List (List Int)) (ab : Option Addr) (cb : Nat) (l : List Int) (w : World) (h : InZ w ao ar o rs) (hm : SizeZ maxLen o rs)
    (h' : LiesL w a n) (hm' : n.length ≤ maxLen) (hm2' : ∀ i, i < n.length → (n.getD i []).length ≤ maxLen) (hb : Lies w ab l) (hmb : l.length ≤ maxLen) :
    Calls Tryz.prog 7 #[.agg #[.slice ao o.length co, .slice ar rs.length cr], .agg #[.slice a n.length cap], .slice ab l.length cb] w fun e w' => e = .returned (.bool true) ∧ Below w.heap.size w w' := by
  obtain ⟨hsz, k0, x0⟩ := box2 w (.cells #[.slice ao o.length co, .slice ar rs.length cr] 27) #[.slice a n.length cap] 24
  have bb := below2 w (.cells #[.slice ao o.length co, .slice ar rs.length cr] 27) (.cells #[.slice a n.length cap] 24)
  have K0 := hide k0
  have K1 := hide x0
  have L0 := hide h
  have L1 := hide h'
  have HM := hide hm
  have HM1 := hide hm2'
  have LB := hide hb
  clear h hm h' hm2' k0 x0 hsz hb
  by_cases hbig : 1048576 < l.length
  · unfold maxLen at hmb
    clear LB L0 L1 HM HM1 K0 K1
    go_enter Tryz.func7, Tryz.ntmps7
    go_wp2_with fail
    go_ret
    exact ⟨rfl, bb⟩
  have hlb : l.length ≤ 1048576 := by omega
  have hlb2 : ¬ (1048576 : Int) < l.length := by omega
  clear hbig hmb
  go_enter Tryz.func7, Tryz.ntmps7
  obtain ⟨d0, d1⟩ := cells2 (unhide K0)
  go_wp2_with fail
  clear d0 d1
  generalize (w.alloc (.cells #[.slice ao o.length co, .slice ar rs.length cr] 27)).alloc (.cells #[.slice a n.length cap] 24) = W at *
  refine (szZone_any ao co ar cr o rs 1048576 _ ((unhide L0).below bb) (unhide HM) (by omega) (by omega)).mono ?_
  rintro e w1 ⟨⟨y, rfl, hr0, hr1, hr2⟩, b1⟩
  replace bb := below_next bb b1
  replace K0 := hide (block_kept b1 (unhide K0))
  replace K1 := hide (block_kept b1 (unhide K1))
  clear b1
  by_cases hneg : y < 0
  · clear hr2
    go_wp2_with fail
    go_ret
    exact ⟨rfl, bb⟩
  have HS := hide ((hr2 (by omega)).mono (m' := 1048576) (by omega))
  have HSS := hide ((unhide HS).mono (m' := 2097152) (by omega))
  clear hr2 HM
  have d2 := block_one (unhide K1)
  go_wp2_with fail
  clear d2
  refine (szName_any a cap n y _ ((unhide L1).below bb) hm' (unhide HM1) (by omega) (by omega)).mono ?_
  rintro e w2 ⟨⟨y', rfl, hr0', hr1', hr2'⟩, b2⟩
  replace bb := below_next bb b2
  replace K0 := hide (block_kept b2 (unhide K0))
  replace K1 := hide (block_kept b2 (unhide K1))
  clear b2
  by_cases hneg' : y' < 0
  · clear hr2'
    go_wp2_with fail
    go_ret
    exact ⟨rfl, bb⟩
  obtain ⟨hn1, hn2⟩ := hr2' (by omega)
  have hl' : n.length ≤ 1048576 := by omega
  have HL2 := hide (show ∀ i, i < n.length → (n.getD i []).length ≤ 1048576 from fun i hi => by have := hn2 i hi; omega)
  have HL3 := hide (show ∀ i, i < n.length → (n.getD i []).length ≤ 2097152 from fun i hi => by have := hn2 i hi; omega)
  clear hr2' hn1 hn2 HM1
  have hsn : ∀ k, k < rs.length → (rs.getD k recZ).name.length ≤ 1048576 := fun k hk => ((unhide HS).recs k hk).name
  have SP := fun (w : World) (vo vr v : Value) (h : HasZ w vo vr o rs) (h' : HasL w v n) (vi : Value) (hi : Has w vi l) => specOwner_has h h' hi hsn
  have IM := fun (w : World) (vo vr v : Value) (h : HasZ w vo vr o rs) (h' : HasL w v n) (vi : Value) (hi : Has w vi l) => implOwner_has h h' hi
  generalize (ownerOf o rs n l).1 = G0 at *
  generalize (ownerOf o rs n l).2 = G1 at *
  replace SP := hide SP
  replace IM := hide IM
  have hgg : (G0 != G0) = false := by simp
  have hgg1 : (G1 != G1) = false := by simp
  clear hsn
  have bd := below_drew (w := w2)
  replace bb := below_next bb bd
  replace K0 := hide (block_kept bd (unhide K0))
  replace K1 := hide (block_kept bd (unhide K1))
  clear bd
  go_wp2_with fail
  go_region_held3 (fun w' => (w'.cell? ⟨w.heap.size, 0, none⟩ = some (.slice ao o.length co) ∧ w'.cell? ⟨w.heap.size, 1, none⟩ = some (.slice ar rs.length cr)) ∧ w'.cell? ⟨w.heap.size + 1, 0, none⟩ = some (.slice a n.length cap))
    (first | exact ⟨cells2 (unhide K0), block_one (unhide K1)⟩ | exact ⟨cells2 (block_kept q5 (unhide K0)), block_one (block_kept q5 (unhide K1))⟩ | exact ⟨cells2 (block_kept q4b (unhide K0)), block_one (block_kept q4b (unhide K1))⟩ | exact ⟨cells2 (block_kept q4 (unhide K0)), block_one (block_kept q4 (unhide K1))⟩ | exact ⟨cells2 (block_kept b3 (unhide K0)), block_one (block_kept b3 (unhide K1))⟩)
    (first
    | (go_at_call 11; refine (toZone_any ao co ar cr o rs _ ((unhide L0).below bb) (unhide HS)).mono ?_; rintro e w3 ⟨vo3, vr3, rfl, o3, b3⟩; obtain ⟨oa3, oc3, rfl, _⟩ := o3.name.form; obtain ⟨ra3, rc3, rfl, _⟩ := o3.recs.form)
    | (go_at_call 23; refine (toName_any a cap n _ ((unhide L1).below (below_next bb b3)) hl' (unhide HL2)).mono ?_; rintro e w4 ⟨v4, rfl, o4, b4⟩; obtain ⟨va4, vc4, rfl, _⟩ := o4.hasL.form; have q4 := below_next b3 b4)
    | (go_at_call 33; refine (toByteS_any ab cb l _ ((unhide LB).below (below_next bb q4)) hlb).mono ?_; rintro e w4b ⟨x4b, rfl, o4b, b4b⟩; have q4b := below_next q4 b4b)
    | (go_at_call 32; refine (unhide SP _ _ _ _ ((o3.below b4).below b4b) (o4.hasL.below b4b) _ o4b.has).mono ?_; rintro e w5 ⟨rfl, b5⟩; have q5 := below_next q4b b5))
  replace bb := below_next bb q5
  replace K0 := hide (block_kept q5 (unhide K0))
  replace K1 := hide (block_kept q5 (unhide K1))
  clear q5 q4 q4b b3 b4 b4b b5 o3 o4 o4b
  obtain ⟨d0, d1⟩ := cells2 (unhide K0)
  go_wp2_with fail
  clear d0 d1
  refine (toZone_any ao co ar cr o rs _ ((unhide L0).below bb) (unhide HS)).mono ?_
  rintro e w6 ⟨vo6, vr6, rfl, o6, b6⟩
  obtain ⟨oa6, oc6, rfl, _⟩ := o6.name.form
  obtain ⟨ra6, rc6, rfl, _⟩ := o6.recs.form
  have b7 := below_alloc (w := w6) (.cells #[.slice oa6 o.length oc6, .slice ra6 rs.length rc6] 37)
  have VX := hide (heap_alloc_new w6 (.cells #[.slice oa6 o.length oc6, .slice ra6 rs.length rc6] 37))
  have X0 := hide (o6.below b7)
  have b8 := below_next b6 b7
  replace bb := below_next bb b8
  replace K0 := hide (block_kept b8 (unhide K0))
  replace K1 := hide (block_kept b8 (unhide K1))
  clear b6 b7 b8 o6
  have d2 := block_one (unhide K1)
  go_wp2_with fail
  clear d2
  generalize w6.alloc (.cells #[.slice oa6 o.length oc6, .slice ra6 rs.length rc6] 37) = w7 at *
  refine (toName_any a cap n _ ((unhide L1).below bb) hl' (unhide HL2)).mono ?_
  rintro e w8 ⟨v8, rfl, o8, b8⟩
  obtain ⟨va8, vc8, rfl, _⟩ := o8.hasL.form
  have b9 := below_alloc (w := w8) (.cells #[.slice va8 n.length vc8] 34)
  have VY := hide (heap_alloc_new w8 (.cells #[.slice va8 n.length vc8] 34))
  have Y0 := hide (o8.hasL.below b9)
  have b10 := below_next b8 b9
  replace bb := below_next bb b10
  replace K0 := hide (block_kept b10 (unhide K0))
  replace K1 := hide (block_kept b10 (unhide K1))
  replace VX := hide (block_kept b10 (unhide VX))
  replace X0 := hide ((unhide X0).below b10)
  clear b8 b9 b10 o8
  go_wp2_with fail
  generalize w8.alloc (.cells #[.slice va8 n.length vc8] 34) = w9 at *
  refine (toByteS_any ab cb l _ ((unhide LB).below bb) hlb).mono ?_
  rintro e w9b ⟨x9b, rfl, o9b, b9b⟩
  obtain ⟨ya, yc, rfl, _⟩ := o9b.has.form
  have U0 := hide o9b.has
  replace bb := below_next bb b9b
  replace K0 := hide (block_kept b9b (unhide K0))
  replace K1 := hide (block_kept b9b (unhide K1))
  replace X0 := hide ((unhide X0).below b9b)
  replace Y0 := hide ((unhide Y0).below b9b)
  replace VX := hide (block_kept b9b (unhide VX))
  replace VY := hide (block_kept b9b (unhide VY))
  clear b9b o9b
  obtain ⟨f0, f1⟩ := cells2 (unhide VX)
  have f2 := block_one (unhide VY)
  go_wp2_with fail
  clear f0 f1 f2
  refine (unhide IM _ _ _ _ (unhide X0) (unhide Y0) _ (unhide U0)).mono ?_
  rintro e w10 ⟨rfl, b10⟩
  have b11 := below_next b10 (below_drew (w := w10))
  replace bb := below_next bb b11
  replace K0 := hide (block_kept b11 (unhide K0))
  replace K1 := hide (block_kept b11 (unhide K1))
  replace X0 := hide ((unhide X0).below b11)
  replace Y0 := hide ((unhide Y0).below b11)
  replace U0 := hide ((unhide U0).below b11)
  replace VX := hide (block_kept b11 (unhide VX))
  replace VY := hide (block_kept b11 (unhide VY))
  clear b10 b11
  go_wp2_with fail
  go_region_held3 (fun w' => (w'.cell? ⟨w.heap.size, 0, none⟩ = some (.slice ao o.length co) ∧ w'.cell? ⟨w.heap.size, 1, none⟩ = some (.slice ar rs.length cr)) ∧ (w'.cell? ⟨w6.heap.size, 0, none⟩ = some (.slice oa6 o.length oc6) ∧ w'.cell? ⟨w6.heap.size, 1, none⟩ = some (.slice ra6 rs.length rc6)))
    (first | exact ⟨cells2 (unhide K0), cells2 (unhide VX)⟩ | exact ⟨cells2 (block_kept q13 (unhide K0)), cells2 (block_kept q13 (unhide VX))⟩ | exact ⟨cells2 (block_kept b12 (unhide K0)), cells2 (block_kept b12 (unhide VX))⟩)
    (first
    | (go_at_call 11; refine (toZone_any ao co ar cr o rs _ ((unhide L0).below bb) (unhide HS)).mono ?_; rintro e w12 ⟨vo12, vr12, rfl, o12, b12⟩; obtain ⟨oa12, oc12, rfl, _⟩ := o12.name.form; obtain ⟨ra12, rc12, rfl, _⟩ := o12.recs.form)
    | (go_at_call 14; refine (eqZone_has ((unhide X0).below b12) o12 (unhide HSS)).mono ?_; rintro e w13 ⟨rfl, b13⟩; have q13 := below_next b12 b13))
  have q14 := below_next q13 (below_drew (w := w13))
  replace bb := below_next bb q14
  replace K1 := hide (block_kept q14 (unhide K1))
  replace Y0 := hide ((unhide Y0).below q14)
  replace U0 := hide ((unhide U0).below q14)
  replace VY := hide (block_kept q14 (unhide VY))
  clear b12 b13 q13 q14 o12 K0 VX X0
  go_wp2_with fail
  go_region_held3 (fun w' => w'.cell? ⟨w.heap.size + 1, 0, none⟩ = some (.slice a n.length cap) ∧ w'.cell? ⟨w8.heap.size, 0, none⟩ = some (.slice va8 n.length vc8))
    (first | exact ⟨block_one (unhide K1), block_one (unhide VY)⟩ | exact ⟨block_one (block_kept q16 (unhide K1)), block_one (block_kept q16 (unhide VY))⟩ | exact ⟨block_one (block_kept b15 (unhide K1)), block_one (block_kept b15 (unhide VY))⟩)
    (first
    | (go_at_call 23; refine (toName_any a cap n _ ((unhide L1).below bb) hl' (unhide HL2)).mono ?_; rintro e w15 ⟨v15, rfl, o15, b15⟩; obtain ⟨va15, vc15, rfl, _⟩ := o15.hasL.form)
    | (go_at_call 25; refine (eqName_has ((unhide Y0).below b15) o15.hasL (unhide HL3)).mono ?_; rintro e w16 ⟨rfl, b16⟩; have q16 := below_next b15 b16))
  replace bb := below_next bb q16
  replace U0 := hide ((unhide U0).below q16)
  clear q16 b15 b16 o15 K1 VY Y0
  go_wp2_with fail
  refine (toByteS_any ab cb l _ ((unhide LB).below bb) hlb).mono ?_
  rintro e w17 ⟨x17, rfl, o17, b17⟩
  obtain ⟨za, zc, rfl, _⟩ := o17.has.form
  have EE := hide (eqByteS_has ((unhide U0).below b17) o17.has (by omega))
  replace bb := below_next bb b17
  clear b17 o17 U0
  go_wp2_with fail
  refine (unhide EE).mono ?_
  rintro e w18 ⟨rfl, m18, rfl⟩
  go_wp2_with fail
  go_ret
  exact ⟨rfl, below_next bb (below_draws m18)⟩
end Go.Proofs.YtmnlhjdjjinbiaaGreat
