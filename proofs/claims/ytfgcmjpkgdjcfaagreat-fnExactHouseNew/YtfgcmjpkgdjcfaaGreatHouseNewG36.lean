/-
  Contracts of the specification's l3ownAll and l5own: records and zones of their own. Contracts of the specification's l3named, l3texted, l3data and RrOk. Contracts of the specification's l3data and RrOk.
-/
import Derived.Test.YtfgcmjpkgdjcfaaGreatHouseNewG35
import Derived.Test.YtfgcmjpkgdjcfaaGreatHouseNewG11
import Derived.Test.YtfgcmjpkgdjcfaaGreatHouseNewG16
import Derived.Test.YtfgcmjpkgdjcfaaGreatHouseNewG18
import Derived.Test.YtfgcmjpkgdjcfaaGreatHouseNewG33
namespace Go.Proofs.YtfgcmjpkgdjcfaaGreat
open Go.RowKit
set_option linter.unusedVariables false

theorem drawn_of_short {n : List (List Int)} (h : n.length ≤ 6 ∧ ∀ k, k < n.length → (n.getD k []).length ≤ 15) : DrawnN n := ⟨Nat.le_trans h.1 (by decide), fun k hk => Nat.le_trans (h.2 k hk) (by decide)⟩
theorem info_rrQ : (Tryz.prog.info? 59).map (fun i => (i.zero, i.size, i.bytes)) = some (some (.agg #[.slice none 0 0, .int .i64 0, .int .i64 0, .int .i64 0, .slice none 0 0, .slice none 0 0, .slice none 0 0]), 7, 120) := by kernel_rfl

set_option maxHeartbeats 4000000 in
set_option maxRecDepth 100000 in
theorem l3ownAll_has {v : Value} {rs : List Rec} {w : World} (h : HasRs w v rs) (hsh : ∀ i, i < rs.length → ShortR (rs.getD i recZ)) (hl : rs.length ≤ 1000) :
  Calls Tryz.prog 62 #[v] w fun e w' => ∃ u, e = .returned u ∧ RowQ w.heap.size 59 56 5 3 w' u rs ∧ Below w.heap.size w w' := by
 obtain ⟨a, cap, rfl, _⟩ := h.form
 have H := hide h
 have HS := hide hsh
 clear h hsh
 generalize hn : rs.length = m at *
 have HN := hide hn
 clear hn
 go_enter Tryz.func62, Tryz.ntmps62
 go_wp2
 go_loopw [3, 4] (fun o i wr => ∃ k : Nat, k ≤ m ∧ i = .int .i64 k ∧ RowQ w.heap.size 59 56 5 3 wr o (rs.take k) ∧ Below w.heap.size w wr) (fun _ i _ => m - (intOf i).toNat)
 case atStart => exact ⟨0, Nat.zero_le _, rfl, by simpa using RowQ.nil _ _ _ _ _ _, Below.refl _ _⟩
 case round =>
  obtain ⟨k, hk, rfl, ho, hb⟩ := hrel
  by_cases hlt : k < m
  ·obtain ⟨b, off, na, nc, ta, tc, xa, xc, ia, ic, rfl, hbl, hc, hR⟩ := ((unhide H).below hb).here (k := k) (by rw [unhide HN]; exact hlt)
   have hsk := unhide HS k hlt
   have htk := hide (show rs.take (k + 1) = rs.take k ++ [rs.getD k recZ] by rw [List.take_succ_eq_append_getElem (by rw [unhide HN]; exact hlt)]; simp [show k < rs.length by rw [unhide HN]; exact hlt])
   have htl : (rs.take k).length = k := by rw [List.length_take, unhide HN]; omega
   obtain ⟨c0, c1, c2, c3, c4, c5, c6⟩ := range7 hc
   generalize rs.getD k recZ = r at *
   generalize rs.take k = rk at *
   obtain ⟨oa, oc, hv, _⟩ := ho.form
   rw [htl] at hv
   subst hv
   have HO := hide ho
   have HL := hide (l3own_has hR (drawn_of_short hsk.1) (drawn_of_short hsk.2.1) hsk.2.2.1 hsk.2.2.2)
   have zB := hb.size
   clear ho hR hsk hc
   go_wp2_with fail
   clear c0 c1 c2 c3 c4 c5 c6
   refine (unhide HL).mono ?_
   rintro e w1 ⟨un, ut, ux, ui, rfl, o1, o2, o3, o4, b1⟩
   obtain ⟨pa, pc, rfl, _⟩ := o1.hasL.form
   obtain ⟨qa, qc, rfl, _⟩ := o2.hasL.form
   obtain ⟨ya, yc, rfl, _⟩ := o3.lies
   obtain ⟨za, zc, rfl, _⟩ := o4.lies
   have ba := below_alloc (w := w1) (.cells #[.slice pa r.name.length pc, .int .i64 r.type, .int .i64 r.ttl, .int .i64 r.addr, .slice qa r.to.length qc, .slice ya r.text.length yc, .slice za r.nums.length zc] 59)
   have g1 := heap_alloc_new w1 (.cells #[.slice pa r.name.length pc, .int .i64 r.type, .int .i64 r.ttl, .int .i64 r.addr, .slice qa r.to.length qc, .slice ya r.text.length yc, .slice za r.nums.length zc] 59)
   have OQ := hide ((⟨o1.mono (by omega), o2.mono (by omega), o3.mono (by omega), o4.mono (by omega)⟩ : OwnQ w.heap.size 56 5 3 w1 (.slice pa r.name.length pc) (.slice qa r.to.length qc) (.slice ya r.text.length yc) (.slice za r.nums.length zc) r).below ba)
   have HO2 := hide (((unhide HO).below b1).below ba)
   have bb := below_next (below_next hb b1) ba
   have z1 := b1.size
   have z2 := ba.size
   obtain ⟨xs0, hx0, hx1⟩ := unhide HO2
   rw [htl] at hx0
   clear o1 o2 o3 o4 b1 ba HL HO
   go_wp2_with (at_builtin; refine append_rec' rfl _ _ 31 59 rfl Tryz.underlying31 _ info_rrQ rfl w.heap.size (.slice oa k oc) k rfl w1.heap.size [.slice pa r.name.length pc, .int .i64 r.type, .int .i64 r.ttl, .int .i64 r.addr, .slice qa r.to.length qc, .slice ya r.text.length yc, .slice za r.nums.length zc] rfl ⟨xs0, hx0⟩ g1 rfl (by simp [Value.oneCell']) (by omega) (by simp; omega) ?_)
   intro v2 w2 h2 g2 hw2
   have row2 := RowQ.snoc (by decide) (by decide) (by decide) (unhide HO2) (unhide OQ) g2 (by rw [htl]; exact h2)
   rw [← unhide htk] at row2
   have bb2 := bb.grown g2 bb.size (fun j e => (World.ownsRow.lt hx0 j e).1)
   clear hx0 hx1 h2 g2 hw2 OQ HO2 g1 bb
   go_wp2
   exact ⟨⟨k + 1, by omega, by go_num, row2, bb2⟩, by simp [intOf]; omega⟩
  ·obtain rfl : k = m := by omega
   have hall : rs.take k = rs := List.take_of_length_le (by rw [unhide HN]; exact Nat.le_refl _)
   rw [hall] at ho
   clear hall
   go_wp2
   go_ret
   exact ⟨_, rfl, ho, hb⟩

set_option maxHeartbeats 4000000 in
set_option maxRecDepth 100000 in
theorem l5own_has {vo vr : Value} {o : List (List Int)} {rs : List Rec} {w : World} (h : HasZ w vo vr o rs) (ho : ShortN o) (hsh : ∀ i, i < rs.length → ShortR (rs.getD i recZ)) (hl : rs.length ≤ 1000) :
  Calls Tryz.prog 27 #[.agg #[vo, vr]] w fun e w' => ∃ uo ur, e = .returned (.agg #[uo, ur]) ∧ OwnL w.heap.size 56 5 w' uo o ∧ RowQ w.heap.size 59 56 5 3 w' ur rs ∧ Below w.heap.size w w' := by
 obtain ⟨oa, oc, rfl, _⟩ := h.name.form
 obtain ⟨ra, rc, rfl, _⟩ := h.recs.form
 obtain ⟨hsz, k0, r0⟩ := box2 w (.cells #[.slice oa o.length oc, .slice ra rs.length rc] 33) #[.slice none 0 0, .slice none 0 0] 33
 have b0 := below2 w (.cells #[.slice oa o.length oc, .slice ra rs.length rc] 33) (.cells #[.slice none 0 0, .slice none 0 0] 33)
 have h0 := h.below b0
 have HN := hide (fun (w : World) (hh : HasL w (.slice oa o.length oc) o) => l2own_short hh (drawn_of_short ho).1 (drawn_of_short ho).2)
 have HR := hide (fun (w : World) (hh : HasRs w (.slice ra rs.length rc) rs) => l3ownAll_has hh hsh hl)
 have KB := hide k0
 have KR := hide r0
 have zz := block_lt r0
 have F1 := hide h0.name
 have F2 := hide h0.recs
 clear hsz k0 r0 h h0 ho hsh
 go_enter Tryz.func27, Tryz.ntmps27
 go_wp2_with fail
 generalize (w.alloc (.cells #[.slice oa o.length oc, .slice ra rs.length rc] 33)).alloc (.cells #[.slice none 0 0, .slice none 0 0] 33) = W at *
 have bd := below_drew (w := W)
 have bb := below_next b0 bd
 replace KB := hide (block_kept bd (unhide KB))
 replace KR := hide (block_kept bd (unhide KR))
 replace F1 := hide ((unhide F1).below bd)
 replace F2 := hide ((unhide F2).below bd)
 have z0 := bd.size
 clear bd b0
 have cz := cells2 (unhide KB)
 have c0 := cz.1
 have c1 := cz.2
 clear cz
 go_region_law (first
  | (go_simp; go_at_call 61; refine (unhide HN _ (unhide F1)).mono ?_; rintro e w1 ⟨v1, rfl, o1, b1⟩; obtain ⟨p1, q1, rfl, _⟩ := o1.hasL.form; have N1 := hide o1.here; have KB1 := hide (block_kept b1 (unhide KB)); have KR1 := hide (block_kept b1 (unhide KR)); have F21 := hide ((unhide F2).below b1); have bb1 := below_next bb b1; have z1 := b1.size; have c11 := (cells2 (unhide KB1)).2; clear b1 o1)
  | (go_simp; go_at_call 62; refine (unhide HR _ (unhide F21)).mono ?_; rintro e w2 ⟨v2, rfl, o2, b2⟩; obtain ⟨p2, q2, rfl, _⟩ := o2.form; have N2 := hide o2; have N12 := hide ((unhide N1).below b2); have KB2 := hide (block_kept b2 (unhide KB1)); have KR2 := hide (block_kept b2 (unhide KR1)); have bb2 := below_next bb1 b2; have z2 := b2.size; obtain ⟨d0, d1⟩ := cells2 (unhide KR2); obtain ⟨f0, f1⟩ := frozen2 (unhide KR2); clear b2 o2))
 all_goals
  clear d0 d1 f0 f1 c0 c1 c11
  have kf : ((w2.setCell ⟨w.heap.size + 1, 0, none⟩ (.slice p1 o.length q1)).setCell ⟨w.heap.size + 1, 1, none⟩ (.slice p2 rs.length q2)).heap[w.heap.size + 1]? = some (.cells #[.slice p1 o.length q1, .slice p2 rs.length q2] 33) := block_setAt (block_setAt (unhide KR2) 0 _) 1 _
  have u5 := (outside_set w2 (w.heap.size + 1) 0 (.slice p1 o.length q1)).trans (outside_set _ (w.heap.size + 1) 1 (.slice p2 rs.length q2))
  have g5 := grown_trans (grown_setCell w2 ⟨w.heap.size + 1, 0, none⟩ (.slice p1 o.length q1)) (grown_setCell _ ⟨w.heap.size + 1, 1, none⟩ (.slice p2 rs.length q2))
  have M1 := ((unhide N12).outside u5 (.inr (by omega))).ownL.mono (B' := w.heap.size) (by omega)
  have M2 := ((unhide N2).off (unhide KR2) (by decide) (by decide) (by decide) (by decide) g5).mono (B' := w.heap.size) (by omega)
  have bb5 := u5.below bb2 (by omega)
  clear u5 g5
  go_wp2_with fail
  refine bodyPost_ret (results_cell_row rfl _ _ (w.heap.size + 1) 33 #[.slice p1 o.length q1, .slice p2 rs.length q2] (0, 0) _ rfl kf Tryz.underlying33 rfl (by kernel_rfl)) rfl ?_
  exact ⟨_, _, rfl, M1, M2, bb5⟩
end Go.Proofs.YtfgcmjpkgdjcfaaGreat

namespace Go.Proofs.YtfgcmjpkgdjcfaaGreat
open Go.RowKit
set_option linter.unusedVariables false

theorem named_1 : named 1 = false := rfl
theorem named_2 : named 2 = true := rfl
theorem named_5 : named 5 = true := rfl
theorem named_6 : named 6 = true := rfl
theorem named_12 : named 12 = true := rfl
theorem named_16 : named 16 = false := rfl
theorem named_49 : named 49 = false := rfl

set_option maxHeartbeats 400000 in
set_option maxRecDepth 100000 in
theorem l3named_any (t : Int) (w : World) (ht : typeOk t = true) : Calls Tryz.prog 116 #[.int .i64 t] w fun e w' => e = .returned (.bool (named t)) ∧ w = w' := by
 rcases type_cases t with rfl | rfl | rfl | rfl | rfl | rfl | rfl | h
 iterate 7
  ·go_enter Tryz.func116, Tryz.ntmps116
   go_wp2
   go_ret
   exact ⟨rfl, rfl⟩
 ·rw [ht] at h; cases h

theorem texted_1 : texted 1 = false := rfl
theorem texted_2 : texted 2 = false := rfl
theorem texted_5 : texted 5 = false := rfl
theorem texted_6 : texted 6 = false := rfl
theorem texted_12 : texted 12 = false := rfl
theorem texted_16 : texted 16 = true := rfl
theorem texted_49 : texted 49 = true := rfl

set_option maxHeartbeats 400000 in
set_option maxRecDepth 100000 in
theorem l3texted_any (t : Int) (w : World) (ht : typeOk t = true) : Calls Tryz.prog 117 #[.int .i64 t] w fun e w' => e = .returned (.bool (texted t)) ∧ w = w' := by
 rcases type_cases t with rfl | rfl | rfl | rfl | rfl | rfl | rfl | h
 iterate 7
  ·go_enter Tryz.func117, Tryz.ntmps117
   go_wp2
   go_ret
   exact ⟨rfl, rfl⟩
 ·rw [ht] at h; cases h

set_option maxHeartbeats 400000 in
set_option maxRecDepth 100000 in
theorem l3_1_0 {na : Option Addr} {nc : Nat} {ta : Option Addr} {tc : Nat} {xa : Option Addr} {xc : Nat} {ia : Option Addr} {ic : Nat} {nm to : List (List Int)} {tx nu : List Int} {tt ad : Int} {w : World} (h : HasR w (.slice na nm.length nc) (.slice ta to.length tc) (.slice xa tx.length xc) (.slice ia nu.length ic) ⟨nm, 1, tt, ad, to, tx, nu⟩) (hA : ad < 0) :
  Calls Tryz.prog 90 #[.agg #[.slice na nm.length nc, .int .i64 1, .int .i64 tt, .int .i64 ad, .slice ta to.length tc, .slice xa tx.length xc, .slice ia nu.length ic]] w fun e w' => e = .returned (.bool false) ∧ Below w.heap.size w w' := by
 have b0 := below_alloc (w := w) (.cells #[.slice na nm.length nc, .int .i64 1, .int .i64 tt, .int .i64 ad, .slice ta to.length tc, .slice xa tx.length xc, .slice ia nu.length ic] 59)
 have K0 := hide (heap_alloc_new w (.cells #[.slice na nm.length nc, .int .i64 1, .int .i64 tt, .int .i64 ad, .slice ta to.length tc, .slice xa tx.length xc, .slice ia nu.length ic] 59))
 have H0 := hide (h.below b0)
 clear h
 go_enter Tryz.func90, Tryz.ntmps90
 go_wp2_with fail
 go_ret
 exact ⟨rfl, b0⟩

set_option maxHeartbeats 400000 in
set_option maxRecDepth 100000 in
theorem l3_1_1 {na : Option Addr} {nc : Nat} {ta : Option Addr} {tc : Nat} {xa : Option Addr} {xc : Nat} {ia : Option Addr} {ic : Nat} {nm to : List (List Int)} {tx nu : List Int} {tt ad : Int} {w : World} (h : HasR w (.slice na nm.length nc) (.slice ta to.length tc) (.slice xa tx.length xc) (.slice ia nu.length ic) ⟨nm, 1, tt, ad, to, tx, nu⟩) (hA : 4294967295 < ad) (hA0 : ¬ ad < 0) :
  Calls Tryz.prog 90 #[.agg #[.slice na nm.length nc, .int .i64 1, .int .i64 tt, .int .i64 ad, .slice ta to.length tc, .slice xa tx.length xc, .slice ia nu.length ic]] w fun e w' => e = .returned (.bool false) ∧ Below w.heap.size w w' := by
 have b0 := below_alloc (w := w) (.cells #[.slice na nm.length nc, .int .i64 1, .int .i64 tt, .int .i64 ad, .slice ta to.length tc, .slice xa tx.length xc, .slice ia nu.length ic] 59)
 have K0 := hide (heap_alloc_new w (.cells #[.slice na nm.length nc, .int .i64 1, .int .i64 tt, .int .i64 ad, .slice ta to.length tc, .slice xa tx.length xc, .slice ia nu.length ic] 59))
 have H0 := hide (h.below b0)
 clear h
 go_enter Tryz.func90, Tryz.ntmps90
 go_wp2_with fail
 go_ret
 exact ⟨rfl, b0⟩

set_option maxHeartbeats 400000 in
set_option maxRecDepth 100000 in
theorem l3_1_2 {na : Option Addr} {nc : Nat} {ta : Option Addr} {tc : Nat} {xa : Option Addr} {xc : Nat} {ia : Option Addr} {ic : Nat} {nm to : List (List Int)} {tx nu : List Int} {tt ad : Int} {w : World} (h : HasR w (.slice na nm.length nc) (.slice ta to.length tc) (.slice xa tx.length xc) (.slice ia nu.length ic) ⟨nm, 1, tt, ad, to, tx, nu⟩) (hA : 0 ≤ ad) (hA2 : ad ≤ 4294967295) (hB : to.length ≠ 0) :
  Calls Tryz.prog 90 #[.agg #[.slice na nm.length nc, .int .i64 1, .int .i64 tt, .int .i64 ad, .slice ta to.length tc, .slice xa tx.length xc, .slice ia nu.length ic]] w fun e w' => e = .returned (.bool false) ∧ Below w.heap.size w w' := by
 have ehB : (0 : Int) < to.length := by omega
 have fhB : ((to.length : Int) == 0) = false := by rw [beq_eq_false_iff_ne]; omega
 have b0 := below_alloc (w := w) (.cells #[.slice na nm.length nc, .int .i64 1, .int .i64 tt, .int .i64 ad, .slice ta to.length tc, .slice xa tx.length xc, .slice ia nu.length ic] 59)
 have K0 := hide (heap_alloc_new w (.cells #[.slice na nm.length nc, .int .i64 1, .int .i64 tt, .int .i64 ad, .slice ta to.length tc, .slice xa tx.length xc, .slice ia nu.length ic] 59))
 have H0 := hide (h.below b0)
 clear h
 go_enter Tryz.func90, Tryz.ntmps90
 go_wp2_with fail
 generalize w.alloc (.cells #[.slice na nm.length nc, .int .i64 1, .int .i64 tt, .int .i64 ad, .slice ta to.length tc, .slice xa tx.length xc, .slice ia nu.length ic] 59) = W at *
 refine (l3named_any 1 _ rfl).mono ?_
 rw [named_1]
 rintro e w1 ⟨rfl, rfl⟩
 obtain ⟨d0, d1, d2, d3, d4, d5, d6⟩ := cells7 (unhide K0)
 go_wp2_with fail
 go_ret
 exact ⟨rfl, b0⟩

set_option maxHeartbeats 400000 in
set_option maxRecDepth 100000 in
theorem l3_1_3 {na : Option Addr} {nc : Nat} {ta : Option Addr} {tc : Nat} {xa : Option Addr} {xc : Nat} {ia : Option Addr} {ic : Nat} {nm to : List (List Int)} {tx nu : List Int} {tt ad : Int} {w : World} (h : HasR w (.slice na nm.length nc) (.slice ta to.length tc) (.slice xa tx.length xc) (.slice ia nu.length ic) ⟨nm, 1, tt, ad, to, tx, nu⟩) (hA : 0 ≤ ad) (hA2 : ad ≤ 4294967295) (hB : to.length = 0) (hC : tx.length ≠ 0) :
  Calls Tryz.prog 90 #[.agg #[.slice na nm.length nc, .int .i64 1, .int .i64 tt, .int .i64 ad, .slice ta to.length tc, .slice xa tx.length xc, .slice ia nu.length ic]] w fun e w' => e = .returned (.bool false) ∧ Below w.heap.size w w' := by
 obtain rfl := nil_of hB
 clear hB
 have ehC : (0 : Int) < tx.length := by omega
 have fhC : ((tx.length : Int) == 0) = false := by rw [beq_eq_false_iff_ne]; omega
 simp only [List.length_nil] at *
 have b0 := below_alloc (w := w) (.cells #[.slice na nm.length nc, .int .i64 1, .int .i64 tt, .int .i64 ad, .slice ta 0 tc, .slice xa tx.length xc, .slice ia nu.length ic] 59)
 have K0 := hide (heap_alloc_new w (.cells #[.slice na nm.length nc, .int .i64 1, .int .i64 tt, .int .i64 ad, .slice ta 0 tc, .slice xa tx.length xc, .slice ia nu.length ic] 59))
 have H0 := hide (h.below b0)
 clear h
 go_enter Tryz.func90, Tryz.ntmps90
 go_wp2_with fail
 generalize w.alloc (.cells #[.slice na nm.length nc, .int .i64 1, .int .i64 tt, .int .i64 ad, .slice ta 0 tc, .slice xa tx.length xc, .slice ia nu.length ic] 59) = W at *
 refine (l3named_any 1 _ rfl).mono ?_
 rw [named_1]
 rintro e w1 ⟨rfl, rfl⟩
 obtain ⟨d0, d1, d2, d3, d4, d5, d6⟩ := cells7 (unhide K0)
 go_wp2_with fail
 refine (l3texted_any 1 _ rfl).mono ?_
 rw [texted_1]
 rintro e w2 ⟨rfl, rfl⟩
 go_wp2_with fail
 go_ret
 exact ⟨rfl, b0⟩

set_option maxHeartbeats 400000 in
set_option maxRecDepth 100000 in
theorem l3_1_4 {na : Option Addr} {nc : Nat} {ta : Option Addr} {tc : Nat} {xa : Option Addr} {xc : Nat} {ia : Option Addr} {ic : Nat} {nm to : List (List Int)} {tx nu : List Int} {tt ad : Int} {w : World} (h : HasR w (.slice na nm.length nc) (.slice ta to.length tc) (.slice xa tx.length xc) (.slice ia nu.length ic) ⟨nm, 1, tt, ad, to, tx, nu⟩) (hA : 0 ≤ ad) (hA2 : ad ≤ 4294967295) (hB : to.length = 0) (hC : tx.length = 0) (hD : nu.length ≠ 0) :
  Calls Tryz.prog 90 #[.agg #[.slice na nm.length nc, .int .i64 1, .int .i64 tt, .int .i64 ad, .slice ta to.length tc, .slice xa tx.length xc, .slice ia nu.length ic]] w fun e w' => e = .returned (.bool false) ∧ Below w.heap.size w w' := by
 obtain rfl := nil_of hB
 clear hB
 obtain rfl := nil_of hC
 clear hC
 have ehD : ((nu.length : Int) == 0) = false := by rw [beq_eq_false_iff_ne]; omega
 simp only [List.length_nil] at *
 have b0 := below_alloc (w := w) (.cells #[.slice na nm.length nc, .int .i64 1, .int .i64 tt, .int .i64 ad, .slice ta 0 tc, .slice xa 0 xc, .slice ia nu.length ic] 59)
 have K0 := hide (heap_alloc_new w (.cells #[.slice na nm.length nc, .int .i64 1, .int .i64 tt, .int .i64 ad, .slice ta 0 tc, .slice xa 0 xc, .slice ia nu.length ic] 59))
 have H0 := hide (h.below b0)
 clear h
 go_enter Tryz.func90, Tryz.ntmps90
 go_wp2_with fail
 generalize w.alloc (.cells #[.slice na nm.length nc, .int .i64 1, .int .i64 tt, .int .i64 ad, .slice ta 0 tc, .slice xa 0 xc, .slice ia nu.length ic] 59) = W at *
 refine (l3named_any 1 _ rfl).mono ?_
 rw [named_1]
 rintro e w1 ⟨rfl, rfl⟩
 obtain ⟨d0, d1, d2, d3, d4, d5, d6⟩ := cells7 (unhide K0)
 go_wp2_with fail
 refine (l3texted_any 1 _ rfl).mono ?_
 rw [texted_1]
 rintro e w2 ⟨rfl, rfl⟩
 go_wp2_with fail
 go_ret
 exact ⟨rfl, b0⟩

set_option maxHeartbeats 400000 in
set_option maxRecDepth 100000 in
theorem l3_1_5 {na : Option Addr} {nc : Nat} {ta : Option Addr} {tc : Nat} {xa : Option Addr} {xc : Nat} {ia : Option Addr} {ic : Nat} {nm to : List (List Int)} {tx nu : List Int} {tt ad : Int} {w : World} (h : HasR w (.slice na nm.length nc) (.slice ta to.length tc) (.slice xa tx.length xc) (.slice ia nu.length ic) ⟨nm, 1, tt, ad, to, tx, nu⟩) (hA : 0 ≤ ad) (hA2 : ad ≤ 4294967295) (hB : to.length = 0) (hC : tx.length = 0) (hD : nu.length = 0) :
  Calls Tryz.prog 90 #[.agg #[.slice na nm.length nc, .int .i64 1, .int .i64 tt, .int .i64 ad, .slice ta to.length tc, .slice xa tx.length xc, .slice ia nu.length ic]] w fun e w' => e = .returned (.bool true) ∧ Below w.heap.size w w' := by
 obtain rfl := nil_of hB
 clear hB
 obtain rfl := nil_of hC
 clear hC
 obtain rfl := nil_of hD
 clear hD
 simp only [List.length_nil] at *
 have b0 := below_alloc (w := w) (.cells #[.slice na nm.length nc, .int .i64 1, .int .i64 tt, .int .i64 ad, .slice ta 0 tc, .slice xa 0 xc, .slice ia 0 ic] 59)
 have K0 := hide (heap_alloc_new w (.cells #[.slice na nm.length nc, .int .i64 1, .int .i64 tt, .int .i64 ad, .slice ta 0 tc, .slice xa 0 xc, .slice ia 0 ic] 59))
 have H0 := hide (h.below b0)
 clear h
 go_enter Tryz.func90, Tryz.ntmps90
 go_wp2_with fail
 generalize w.alloc (.cells #[.slice na nm.length nc, .int .i64 1, .int .i64 tt, .int .i64 ad, .slice ta 0 tc, .slice xa 0 xc, .slice ia 0 ic] 59) = W at *
 refine (l3named_any 1 _ rfl).mono ?_
 rw [named_1]
 rintro e w1 ⟨rfl, rfl⟩
 obtain ⟨d0, d1, d2, d3, d4, d5, d6⟩ := cells7 (unhide K0)
 go_wp2_with fail
 refine (l3texted_any 1 _ rfl).mono ?_
 rw [texted_1]
 rintro e w2 ⟨rfl, rfl⟩
 go_wp2_with fail
 go_ret
 exact ⟨rfl, b0⟩

set_option maxHeartbeats 400000 in
set_option maxRecDepth 100000 in
theorem l3_2_0 {na : Option Addr} {nc : Nat} {ta : Option Addr} {tc : Nat} {xa : Option Addr} {xc : Nat} {ia : Option Addr} {ic : Nat} {nm to : List (List Int)} {tx nu : List Int} {tt ad : Int} {w : World} (h : HasR w (.slice na nm.length nc) (.slice ta to.length tc) (.slice xa tx.length xc) (.slice ia nu.length ic) ⟨nm, 2, tt, ad, to, tx, nu⟩) (hA : ad ≠ 0) :
  Calls Tryz.prog 90 #[.agg #[.slice na nm.length nc, .int .i64 2, .int .i64 tt, .int .i64 ad, .slice ta to.length tc, .slice xa tx.length xc, .slice ia nu.length ic]] w fun e w' => e = .returned (.bool false) ∧ Below w.heap.size w w' := by
 have ehA : (ad != 0) = true := by rw [bne_iff_ne]; exact hA
 have fhA : (ad == 0) = false := by rw [beq_eq_false_iff_ne]; exact hA
 have ghA : decide (ad = 0) = false := decide_eq_false hA
 have b0 := below_alloc (w := w) (.cells #[.slice na nm.length nc, .int .i64 2, .int .i64 tt, .int .i64 ad, .slice ta to.length tc, .slice xa tx.length xc, .slice ia nu.length ic] 59)
 have K0 := hide (heap_alloc_new w (.cells #[.slice na nm.length nc, .int .i64 2, .int .i64 tt, .int .i64 ad, .slice ta to.length tc, .slice xa tx.length xc, .slice ia nu.length ic] 59))
 have H0 := hide (h.below b0)
 clear h
 go_enter Tryz.func90, Tryz.ntmps90
 go_wp2_with fail
 go_ret
 exact ⟨rfl, b0⟩

set_option maxHeartbeats 400000 in
set_option maxRecDepth 100000 in
theorem l3_2_1 {na : Option Addr} {nc : Nat} {ta : Option Addr} {tc : Nat} {xa : Option Addr} {xc : Nat} {ia : Option Addr} {ic : Nat} {nm to : List (List Int)} {tx nu : List Int} {tt ad : Int} {w : World} (h : HasR w (.slice na nm.length nc) (.slice ta to.length tc) (.slice xa tx.length xc) (.slice ia nu.length ic) ⟨nm, 2, tt, ad, to, tx, nu⟩) (hA : ad = 0) (hB : nameOk to = false) :
  Calls Tryz.prog 90 #[.agg #[.slice na nm.length nc, .int .i64 2, .int .i64 tt, .int .i64 ad, .slice ta to.length tc, .slice xa tx.length xc, .slice ia nu.length ic]] w fun e w' => e = .returned (.bool false) ∧ Below w.heap.size w w' := by
 obtain rfl := hA
 have b0 := below_alloc (w := w) (.cells #[.slice na nm.length nc, .int .i64 2, .int .i64 tt, .int .i64 0, .slice ta to.length tc, .slice xa tx.length xc, .slice ia nu.length ic] 59)
 have K0 := hide (heap_alloc_new w (.cells #[.slice na nm.length nc, .int .i64 2, .int .i64 tt, .int .i64 0, .slice ta to.length tc, .slice xa tx.length xc, .slice ia nu.length ic] 59))
 have H0 := hide (h.below b0)
 clear h
 have HB := hide hB
 clear hB
 go_enter Tryz.func90, Tryz.ntmps90
 go_wp2_with fail
 generalize w.alloc (.cells #[.slice na nm.length nc, .int .i64 2, .int .i64 tt, .int .i64 0, .slice ta to.length tc, .slice xa tx.length xc, .slice ia nu.length ic] 59) = W at *
 refine (l3named_any 2 _ rfl).mono ?_
 rw [named_2]
 rintro e w1 ⟨rfl, rfl⟩
 obtain ⟨d0, d1, d2, d3, d4, d5, d6⟩ := cells7 (unhide K0)
 go_wp2_with fail
 clear d0 d1 d2 d3 d4 d5 d6
 refine (specNameOk_has (show HasL W (.slice ta to.length tc) to from (unhide H0).to)).mono ?_
 rw [unhide HB]
 rintro e w1 ⟨rfl, b1⟩
 have bb1 := below_next b0 b1
 have K1 := hide (block_kept b1 (unhide K0))
 have H1 := hide ((unhide H0).below b1)
 clear b1 b0 K0 H0
 obtain ⟨d0, d1, d2, d3, d4, d5, d6⟩ := cells7 (unhide K1)
 go_wp2_with fail
 go_ret
 exact ⟨rfl, bb1⟩

set_option maxHeartbeats 400000 in
set_option maxRecDepth 100000 in
theorem l3_2_2 {na : Option Addr} {nc : Nat} {ta : Option Addr} {tc : Nat} {xa : Option Addr} {xc : Nat} {ia : Option Addr} {ic : Nat} {nm to : List (List Int)} {tx nu : List Int} {tt ad : Int} {w : World} (h : HasR w (.slice na nm.length nc) (.slice ta to.length tc) (.slice xa tx.length xc) (.slice ia nu.length ic) ⟨nm, 2, tt, ad, to, tx, nu⟩) (hA : ad = 0) (hB : nameOk to = true) (hC : tx.length ≠ 0) :
  Calls Tryz.prog 90 #[.agg #[.slice na nm.length nc, .int .i64 2, .int .i64 tt, .int .i64 ad, .slice ta to.length tc, .slice xa tx.length xc, .slice ia nu.length ic]] w fun e w' => e = .returned (.bool false) ∧ Below w.heap.size w w' := by
 obtain rfl := hA
 have ehC : (0 : Int) < tx.length := by omega
 have fhC : ((tx.length : Int) == 0) = false := by rw [beq_eq_false_iff_ne]; omega
 have b0 := below_alloc (w := w) (.cells #[.slice na nm.length nc, .int .i64 2, .int .i64 tt, .int .i64 0, .slice ta to.length tc, .slice xa tx.length xc, .slice ia nu.length ic] 59)
 have K0 := hide (heap_alloc_new w (.cells #[.slice na nm.length nc, .int .i64 2, .int .i64 tt, .int .i64 0, .slice ta to.length tc, .slice xa tx.length xc, .slice ia nu.length ic] 59))
 have H0 := hide (h.below b0)
 clear h
 have HB := hide hB
 clear hB
 go_enter Tryz.func90, Tryz.ntmps90
 go_wp2_with fail
 generalize w.alloc (.cells #[.slice na nm.length nc, .int .i64 2, .int .i64 tt, .int .i64 0, .slice ta to.length tc, .slice xa tx.length xc, .slice ia nu.length ic] 59) = W at *
 refine (l3named_any 2 _ rfl).mono ?_
 rw [named_2]
 rintro e w1 ⟨rfl, rfl⟩
 obtain ⟨d0, d1, d2, d3, d4, d5, d6⟩ := cells7 (unhide K0)
 go_wp2_with fail
 clear d0 d1 d2 d3 d4 d5 d6
 refine (specNameOk_has (show HasL W (.slice ta to.length tc) to from (unhide H0).to)).mono ?_
 rw [unhide HB]
 rintro e w1 ⟨rfl, b1⟩
 have bb1 := below_next b0 b1
 have K1 := hide (block_kept b1 (unhide K0))
 have H1 := hide ((unhide H0).below b1)
 clear b1 b0 K0 H0
 obtain ⟨d0, d1, d2, d3, d4, d5, d6⟩ := cells7 (unhide K1)
 go_wp2_with fail
 refine (l3texted_any 2 _ rfl).mono ?_
 rw [texted_2]
 rintro e w2 ⟨rfl, rfl⟩
 go_wp2_with fail
 go_ret
 exact ⟨rfl, bb1⟩

set_option maxHeartbeats 400000 in
set_option maxRecDepth 100000 in
theorem l3_2_3 {na : Option Addr} {nc : Nat} {ta : Option Addr} {tc : Nat} {xa : Option Addr} {xc : Nat} {ia : Option Addr} {ic : Nat} {nm to : List (List Int)} {tx nu : List Int} {tt ad : Int} {w : World} (h : HasR w (.slice na nm.length nc) (.slice ta to.length tc) (.slice xa tx.length xc) (.slice ia nu.length ic) ⟨nm, 2, tt, ad, to, tx, nu⟩) (hA : ad = 0) (hB : nameOk to = true) (hC : tx.length = 0) (hD : nu.length ≠ 0) :
  Calls Tryz.prog 90 #[.agg #[.slice na nm.length nc, .int .i64 2, .int .i64 tt, .int .i64 ad, .slice ta to.length tc, .slice xa tx.length xc, .slice ia nu.length ic]] w fun e w' => e = .returned (.bool false) ∧ Below w.heap.size w w' := by
 obtain rfl := hA
 obtain rfl := nil_of hC
 clear hC
 have ehD : ((nu.length : Int) == 0) = false := by rw [beq_eq_false_iff_ne]; omega
 simp only [List.length_nil] at *
 have b0 := below_alloc (w := w) (.cells #[.slice na nm.length nc, .int .i64 2, .int .i64 tt, .int .i64 0, .slice ta to.length tc, .slice xa 0 xc, .slice ia nu.length ic] 59)
 have K0 := hide (heap_alloc_new w (.cells #[.slice na nm.length nc, .int .i64 2, .int .i64 tt, .int .i64 0, .slice ta to.length tc, .slice xa 0 xc, .slice ia nu.length ic] 59))
 have H0 := hide (h.below b0)
 clear h
 have HB := hide hB
 clear hB
 go_enter Tryz.func90, Tryz.ntmps90
 go_wp2_with fail
 generalize w.alloc (.cells #[.slice na nm.length nc, .int .i64 2, .int .i64 tt, .int .i64 0, .slice ta to.length tc, .slice xa 0 xc, .slice ia nu.length ic] 59) = W at *
 refine (l3named_any 2 _ rfl).mono ?_
 rw [named_2]
 rintro e w1 ⟨rfl, rfl⟩
 obtain ⟨d0, d1, d2, d3, d4, d5, d6⟩ := cells7 (unhide K0)
 go_wp2_with fail
 clear d0 d1 d2 d3 d4 d5 d6
 refine (specNameOk_has (show HasL W (.slice ta to.length tc) to from (unhide H0).to)).mono ?_
 rw [unhide HB]
 rintro e w1 ⟨rfl, b1⟩
 have bb1 := below_next b0 b1
 have K1 := hide (block_kept b1 (unhide K0))
 have H1 := hide ((unhide H0).below b1)
 clear b1 b0 K0 H0
 obtain ⟨d0, d1, d2, d3, d4, d5, d6⟩ := cells7 (unhide K1)
 go_wp2_with fail
 refine (l3texted_any 2 _ rfl).mono ?_
 rw [texted_2]
 rintro e w2 ⟨rfl, rfl⟩
 go_wp2_with fail
 go_ret
 exact ⟨rfl, bb1⟩

set_option maxHeartbeats 400000 in
set_option maxRecDepth 100000 in
theorem l3_2_4 {na : Option Addr} {nc : Nat} {ta : Option Addr} {tc : Nat} {xa : Option Addr} {xc : Nat} {ia : Option Addr} {ic : Nat} {nm to : List (List Int)} {tx nu : List Int} {tt ad : Int} {w : World} (h : HasR w (.slice na nm.length nc) (.slice ta to.length tc) (.slice xa tx.length xc) (.slice ia nu.length ic) ⟨nm, 2, tt, ad, to, tx, nu⟩) (hA : ad = 0) (hB : nameOk to = true) (hC : tx.length = 0) (hD : nu.length = 0) :
  Calls Tryz.prog 90 #[.agg #[.slice na nm.length nc, .int .i64 2, .int .i64 tt, .int .i64 ad, .slice ta to.length tc, .slice xa tx.length xc, .slice ia nu.length ic]] w fun e w' => e = .returned (.bool true) ∧ Below w.heap.size w w' := by
 obtain rfl := hA
 obtain rfl := nil_of hC
 clear hC
 obtain rfl := nil_of hD
 clear hD
 simp only [List.length_nil] at *
 have b0 := below_alloc (w := w) (.cells #[.slice na nm.length nc, .int .i64 2, .int .i64 tt, .int .i64 0, .slice ta to.length tc, .slice xa 0 xc, .slice ia 0 ic] 59)
 have K0 := hide (heap_alloc_new w (.cells #[.slice na nm.length nc, .int .i64 2, .int .i64 tt, .int .i64 0, .slice ta to.length tc, .slice xa 0 xc, .slice ia 0 ic] 59))
 have H0 := hide (h.below b0)
 clear h
 have HB := hide hB
 clear hB
 go_enter Tryz.func90, Tryz.ntmps90
 go_wp2_with fail
 generalize w.alloc (.cells #[.slice na nm.length nc, .int .i64 2, .int .i64 tt, .int .i64 0, .slice ta to.length tc, .slice xa 0 xc, .slice ia 0 ic] 59) = W at *
 refine (l3named_any 2 _ rfl).mono ?_
 rw [named_2]
 rintro e w1 ⟨rfl, rfl⟩
 obtain ⟨d0, d1, d2, d3, d4, d5, d6⟩ := cells7 (unhide K0)
 go_wp2_with fail
 clear d0 d1 d2 d3 d4 d5 d6
 refine (specNameOk_has (show HasL W (.slice ta to.length tc) to from (unhide H0).to)).mono ?_
 rw [unhide HB]
 rintro e w1 ⟨rfl, b1⟩
 have bb1 := below_next b0 b1
 have K1 := hide (block_kept b1 (unhide K0))
 have H1 := hide ((unhide H0).below b1)
 clear b1 b0 K0 H0
 obtain ⟨d0, d1, d2, d3, d4, d5, d6⟩ := cells7 (unhide K1)
 go_wp2_with fail
 refine (l3texted_any 2 _ rfl).mono ?_
 rw [texted_2]
 rintro e w2 ⟨rfl, rfl⟩
 go_wp2_with fail
 go_ret
 exact ⟨rfl, bb1⟩

set_option maxHeartbeats 400000 in
set_option maxRecDepth 100000 in
theorem l3_5_0 {na : Option Addr} {nc : Nat} {ta : Option Addr} {tc : Nat} {xa : Option Addr} {xc : Nat} {ia : Option Addr} {ic : Nat} {nm to : List (List Int)} {tx nu : List Int} {tt ad : Int} {w : World} (h : HasR w (.slice na nm.length nc) (.slice ta to.length tc) (.slice xa tx.length xc) (.slice ia nu.length ic) ⟨nm, 5, tt, ad, to, tx, nu⟩) (hA : ad ≠ 0) :
  Calls Tryz.prog 90 #[.agg #[.slice na nm.length nc, .int .i64 5, .int .i64 tt, .int .i64 ad, .slice ta to.length tc, .slice xa tx.length xc, .slice ia nu.length ic]] w fun e w' => e = .returned (.bool false) ∧ Below w.heap.size w w' := by
 have ehA : (ad != 0) = true := by rw [bne_iff_ne]; exact hA
 have fhA : (ad == 0) = false := by rw [beq_eq_false_iff_ne]; exact hA
 have ghA : decide (ad = 0) = false := decide_eq_false hA
 have b0 := below_alloc (w := w) (.cells #[.slice na nm.length nc, .int .i64 5, .int .i64 tt, .int .i64 ad, .slice ta to.length tc, .slice xa tx.length xc, .slice ia nu.length ic] 59)
 have K0 := hide (heap_alloc_new w (.cells #[.slice na nm.length nc, .int .i64 5, .int .i64 tt, .int .i64 ad, .slice ta to.length tc, .slice xa tx.length xc, .slice ia nu.length ic] 59))
 have H0 := hide (h.below b0)
 clear h
 go_enter Tryz.func90, Tryz.ntmps90
 go_wp2_with fail
 go_ret
 exact ⟨rfl, b0⟩

set_option maxHeartbeats 400000 in
set_option maxRecDepth 100000 in
theorem l3_5_1 {na : Option Addr} {nc : Nat} {ta : Option Addr} {tc : Nat} {xa : Option Addr} {xc : Nat} {ia : Option Addr} {ic : Nat} {nm to : List (List Int)} {tx nu : List Int} {tt ad : Int} {w : World} (h : HasR w (.slice na nm.length nc) (.slice ta to.length tc) (.slice xa tx.length xc) (.slice ia nu.length ic) ⟨nm, 5, tt, ad, to, tx, nu⟩) (hA : ad = 0) (hB : nameOk to = false) :
  Calls Tryz.prog 90 #[.agg #[.slice na nm.length nc, .int .i64 5, .int .i64 tt, .int .i64 ad, .slice ta to.length tc, .slice xa tx.length xc, .slice ia nu.length ic]] w fun e w' => e = .returned (.bool false) ∧ Below w.heap.size w w' := by
 obtain rfl := hA
 have b0 := below_alloc (w := w) (.cells #[.slice na nm.length nc, .int .i64 5, .int .i64 tt, .int .i64 0, .slice ta to.length tc, .slice xa tx.length xc, .slice ia nu.length ic] 59)
 have K0 := hide (heap_alloc_new w (.cells #[.slice na nm.length nc, .int .i64 5, .int .i64 tt, .int .i64 0, .slice ta to.length tc, .slice xa tx.length xc, .slice ia nu.length ic] 59))
 have H0 := hide (h.below b0)
 clear h
 have HB := hide hB
 clear hB
 go_enter Tryz.func90, Tryz.ntmps90
 go_wp2_with fail
 generalize w.alloc (.cells #[.slice na nm.length nc, .int .i64 5, .int .i64 tt, .int .i64 0, .slice ta to.length tc, .slice xa tx.length xc, .slice ia nu.length ic] 59) = W at *
 refine (l3named_any 5 _ rfl).mono ?_
 rw [named_5]
 rintro e w1 ⟨rfl, rfl⟩
 obtain ⟨d0, d1, d2, d3, d4, d5, d6⟩ := cells7 (unhide K0)
 go_wp2_with fail
 clear d0 d1 d2 d3 d4 d5 d6
 refine (specNameOk_has (show HasL W (.slice ta to.length tc) to from (unhide H0).to)).mono ?_
 rw [unhide HB]
 rintro e w1 ⟨rfl, b1⟩
 have bb1 := below_next b0 b1
 have K1 := hide (block_kept b1 (unhide K0))
 have H1 := hide ((unhide H0).below b1)
 clear b1 b0 K0 H0
 obtain ⟨d0, d1, d2, d3, d4, d5, d6⟩ := cells7 (unhide K1)
 go_wp2_with fail
 go_ret
 exact ⟨rfl, bb1⟩

set_option maxHeartbeats 400000 in
set_option maxRecDepth 100000 in
theorem l3_5_2 {na : Option Addr} {nc : Nat} {ta : Option Addr} {tc : Nat} {xa : Option Addr} {xc : Nat} {ia : Option Addr} {ic : Nat} {nm to : List (List Int)} {tx nu : List Int} {tt ad : Int} {w : World} (h : HasR w (.slice na nm.length nc) (.slice ta to.length tc) (.slice xa tx.length xc) (.slice ia nu.length ic) ⟨nm, 5, tt, ad, to, tx, nu⟩) (hA : ad = 0) (hB : nameOk to = true) (hC : tx.length ≠ 0) :
  Calls Tryz.prog 90 #[.agg #[.slice na nm.length nc, .int .i64 5, .int .i64 tt, .int .i64 ad, .slice ta to.length tc, .slice xa tx.length xc, .slice ia nu.length ic]] w fun e w' => e = .returned (.bool false) ∧ Below w.heap.size w w' := by
 obtain rfl := hA
 have ehC : (0 : Int) < tx.length := by omega
 have fhC : ((tx.length : Int) == 0) = false := by rw [beq_eq_false_iff_ne]; omega
 have b0 := below_alloc (w := w) (.cells #[.slice na nm.length nc, .int .i64 5, .int .i64 tt, .int .i64 0, .slice ta to.length tc, .slice xa tx.length xc, .slice ia nu.length ic] 59)
 have K0 := hide (heap_alloc_new w (.cells #[.slice na nm.length nc, .int .i64 5, .int .i64 tt, .int .i64 0, .slice ta to.length tc, .slice xa tx.length xc, .slice ia nu.length ic] 59))
 have H0 := hide (h.below b0)
 clear h
 have HB := hide hB
 clear hB
 go_enter Tryz.func90, Tryz.ntmps90
 go_wp2_with fail
 generalize w.alloc (.cells #[.slice na nm.length nc, .int .i64 5, .int .i64 tt, .int .i64 0, .slice ta to.length tc, .slice xa tx.length xc, .slice ia nu.length ic] 59) = W at *
 refine (l3named_any 5 _ rfl).mono ?_
 rw [named_5]
 rintro e w1 ⟨rfl, rfl⟩
 obtain ⟨d0, d1, d2, d3, d4, d5, d6⟩ := cells7 (unhide K0)
 go_wp2_with fail
 clear d0 d1 d2 d3 d4 d5 d6
 refine (specNameOk_has (show HasL W (.slice ta to.length tc) to from (unhide H0).to)).mono ?_
 rw [unhide HB]
 rintro e w1 ⟨rfl, b1⟩
 have bb1 := below_next b0 b1
 have K1 := hide (block_kept b1 (unhide K0))
 have H1 := hide ((unhide H0).below b1)
 clear b1 b0 K0 H0
 obtain ⟨d0, d1, d2, d3, d4, d5, d6⟩ := cells7 (unhide K1)
 go_wp2_with fail
 refine (l3texted_any 5 _ rfl).mono ?_
 rw [texted_5]
 rintro e w2 ⟨rfl, rfl⟩
 go_wp2_with fail
 go_ret
 exact ⟨rfl, bb1⟩

set_option maxHeartbeats 400000 in
set_option maxRecDepth 100000 in
theorem l3_5_3 {na : Option Addr} {nc : Nat} {ta : Option Addr} {tc : Nat} {xa : Option Addr} {xc : Nat} {ia : Option Addr} {ic : Nat} {nm to : List (List Int)} {tx nu : List Int} {tt ad : Int} {w : World} (h : HasR w (.slice na nm.length nc) (.slice ta to.length tc) (.slice xa tx.length xc) (.slice ia nu.length ic) ⟨nm, 5, tt, ad, to, tx, nu⟩) (hA : ad = 0) (hB : nameOk to = true) (hC : tx.length = 0) (hD : nu.length ≠ 0) :
  Calls Tryz.prog 90 #[.agg #[.slice na nm.length nc, .int .i64 5, .int .i64 tt, .int .i64 ad, .slice ta to.length tc, .slice xa tx.length xc, .slice ia nu.length ic]] w fun e w' => e = .returned (.bool false) ∧ Below w.heap.size w w' := by
 obtain rfl := hA
 obtain rfl := nil_of hC
 clear hC
 have ehD : ((nu.length : Int) == 0) = false := by rw [beq_eq_false_iff_ne]; omega
 simp only [List.length_nil] at *
 have b0 := below_alloc (w := w) (.cells #[.slice na nm.length nc, .int .i64 5, .int .i64 tt, .int .i64 0, .slice ta to.length tc, .slice xa 0 xc, .slice ia nu.length ic] 59)
 have K0 := hide (heap_alloc_new w (.cells #[.slice na nm.length nc, .int .i64 5, .int .i64 tt, .int .i64 0, .slice ta to.length tc, .slice xa 0 xc, .slice ia nu.length ic] 59))
 have H0 := hide (h.below b0)
 clear h
 have HB := hide hB
 clear hB
 go_enter Tryz.func90, Tryz.ntmps90
 go_wp2_with fail
 generalize w.alloc (.cells #[.slice na nm.length nc, .int .i64 5, .int .i64 tt, .int .i64 0, .slice ta to.length tc, .slice xa 0 xc, .slice ia nu.length ic] 59) = W at *
 refine (l3named_any 5 _ rfl).mono ?_
 rw [named_5]
 rintro e w1 ⟨rfl, rfl⟩
 obtain ⟨d0, d1, d2, d3, d4, d5, d6⟩ := cells7 (unhide K0)
 go_wp2_with fail
 clear d0 d1 d2 d3 d4 d5 d6
 refine (specNameOk_has (show HasL W (.slice ta to.length tc) to from (unhide H0).to)).mono ?_
 rw [unhide HB]
 rintro e w1 ⟨rfl, b1⟩
 have bb1 := below_next b0 b1
 have K1 := hide (block_kept b1 (unhide K0))
 have H1 := hide ((unhide H0).below b1)
 clear b1 b0 K0 H0
 obtain ⟨d0, d1, d2, d3, d4, d5, d6⟩ := cells7 (unhide K1)
 go_wp2_with fail
 refine (l3texted_any 5 _ rfl).mono ?_
 rw [texted_5]
 rintro e w2 ⟨rfl, rfl⟩
 go_wp2_with fail
 go_ret
 exact ⟨rfl, bb1⟩

set_option maxHeartbeats 400000 in
set_option maxRecDepth 100000 in
theorem l3_5_4 {na : Option Addr} {nc : Nat} {ta : Option Addr} {tc : Nat} {xa : Option Addr} {xc : Nat} {ia : Option Addr} {ic : Nat} {nm to : List (List Int)} {tx nu : List Int} {tt ad : Int} {w : World} (h : HasR w (.slice na nm.length nc) (.slice ta to.length tc) (.slice xa tx.length xc) (.slice ia nu.length ic) ⟨nm, 5, tt, ad, to, tx, nu⟩) (hA : ad = 0) (hB : nameOk to = true) (hC : tx.length = 0) (hD : nu.length = 0) :
  Calls Tryz.prog 90 #[.agg #[.slice na nm.length nc, .int .i64 5, .int .i64 tt, .int .i64 ad, .slice ta to.length tc, .slice xa tx.length xc, .slice ia nu.length ic]] w fun e w' => e = .returned (.bool true) ∧ Below w.heap.size w w' := by
 obtain rfl := hA
 obtain rfl := nil_of hC
 clear hC
 obtain rfl := nil_of hD
 clear hD
 simp only [List.length_nil] at *
 have b0 := below_alloc (w := w) (.cells #[.slice na nm.length nc, .int .i64 5, .int .i64 tt, .int .i64 0, .slice ta to.length tc, .slice xa 0 xc, .slice ia 0 ic] 59)
 have K0 := hide (heap_alloc_new w (.cells #[.slice na nm.length nc, .int .i64 5, .int .i64 tt, .int .i64 0, .slice ta to.length tc, .slice xa 0 xc, .slice ia 0 ic] 59))
 have H0 := hide (h.below b0)
 clear h
 have HB := hide hB
 clear hB
 go_enter Tryz.func90, Tryz.ntmps90
 go_wp2_with fail
 generalize w.alloc (.cells #[.slice na nm.length nc, .int .i64 5, .int .i64 tt, .int .i64 0, .slice ta to.length tc, .slice xa 0 xc, .slice ia 0 ic] 59) = W at *
 refine (l3named_any 5 _ rfl).mono ?_
 rw [named_5]
 rintro e w1 ⟨rfl, rfl⟩
 obtain ⟨d0, d1, d2, d3, d4, d5, d6⟩ := cells7 (unhide K0)
 go_wp2_with fail
 clear d0 d1 d2 d3 d4 d5 d6
 refine (specNameOk_has (show HasL W (.slice ta to.length tc) to from (unhide H0).to)).mono ?_
 rw [unhide HB]
 rintro e w1 ⟨rfl, b1⟩
 have bb1 := below_next b0 b1
 have K1 := hide (block_kept b1 (unhide K0))
 have H1 := hide ((unhide H0).below b1)
 clear b1 b0 K0 H0
 obtain ⟨d0, d1, d2, d3, d4, d5, d6⟩ := cells7 (unhide K1)
 go_wp2_with fail
 refine (l3texted_any 5 _ rfl).mono ?_
 rw [texted_5]
 rintro e w2 ⟨rfl, rfl⟩
 go_wp2_with fail
 go_ret
 exact ⟨rfl, bb1⟩

set_option maxHeartbeats 400000 in
set_option maxRecDepth 100000 in
theorem l3_6_0 {na : Option Addr} {nc : Nat} {ta : Option Addr} {tc : Nat} {xa : Option Addr} {xc : Nat} {ia : Option Addr} {ic : Nat} {nm to : List (List Int)} {tx nu : List Int} {tt ad : Int} {w : World} (h : HasR w (.slice na nm.length nc) (.slice ta to.length tc) (.slice xa tx.length xc) (.slice ia nu.length ic) ⟨nm, 6, tt, ad, to, tx, nu⟩) (hA : ad ≠ 0) :
  Calls Tryz.prog 90 #[.agg #[.slice na nm.length nc, .int .i64 6, .int .i64 tt, .int .i64 ad, .slice ta to.length tc, .slice xa tx.length xc, .slice ia nu.length ic]] w fun e w' => e = .returned (.bool false) ∧ Below w.heap.size w w' := by
 have ehA : (ad != 0) = true := by rw [bne_iff_ne]; exact hA
 have fhA : (ad == 0) = false := by rw [beq_eq_false_iff_ne]; exact hA
 have ghA : decide (ad = 0) = false := decide_eq_false hA
 have b0 := below_alloc (w := w) (.cells #[.slice na nm.length nc, .int .i64 6, .int .i64 tt, .int .i64 ad, .slice ta to.length tc, .slice xa tx.length xc, .slice ia nu.length ic] 59)
 have K0 := hide (heap_alloc_new w (.cells #[.slice na nm.length nc, .int .i64 6, .int .i64 tt, .int .i64 ad, .slice ta to.length tc, .slice xa tx.length xc, .slice ia nu.length ic] 59))
 have H0 := hide (h.below b0)
 clear h
 go_enter Tryz.func90, Tryz.ntmps90
 go_wp2_with fail
 go_ret
 exact ⟨rfl, b0⟩

set_option maxHeartbeats 400000 in
set_option maxRecDepth 100000 in
theorem l3_6_1 {na : Option Addr} {nc : Nat} {ta : Option Addr} {tc : Nat} {xa : Option Addr} {xc : Nat} {ia : Option Addr} {ic : Nat} {nm to : List (List Int)} {tx nu : List Int} {tt ad : Int} {w : World} (h : HasR w (.slice na nm.length nc) (.slice ta to.length tc) (.slice xa tx.length xc) (.slice ia nu.length ic) ⟨nm, 6, tt, ad, to, tx, nu⟩) (hA : ad = 0) (hB : nameOk to = false) :
  Calls Tryz.prog 90 #[.agg #[.slice na nm.length nc, .int .i64 6, .int .i64 tt, .int .i64 ad, .slice ta to.length tc, .slice xa tx.length xc, .slice ia nu.length ic]] w fun e w' => e = .returned (.bool false) ∧ Below w.heap.size w w' := by
 obtain rfl := hA
 have b0 := below_alloc (w := w) (.cells #[.slice na nm.length nc, .int .i64 6, .int .i64 tt, .int .i64 0, .slice ta to.length tc, .slice xa tx.length xc, .slice ia nu.length ic] 59)
 have K0 := hide (heap_alloc_new w (.cells #[.slice na nm.length nc, .int .i64 6, .int .i64 tt, .int .i64 0, .slice ta to.length tc, .slice xa tx.length xc, .slice ia nu.length ic] 59))
 have H0 := hide (h.below b0)
 clear h
 have HB := hide hB
 clear hB
 go_enter Tryz.func90, Tryz.ntmps90
 go_wp2_with fail
 generalize w.alloc (.cells #[.slice na nm.length nc, .int .i64 6, .int .i64 tt, .int .i64 0, .slice ta to.length tc, .slice xa tx.length xc, .slice ia nu.length ic] 59) = W at *
 refine (l3named_any 6 _ rfl).mono ?_
 rw [named_6]
 rintro e w1 ⟨rfl, rfl⟩
 obtain ⟨d0, d1, d2, d3, d4, d5, d6⟩ := cells7 (unhide K0)
 go_wp2_with fail
 clear d0 d1 d2 d3 d4 d5 d6
 refine (specNameOk_has (show HasL W (.slice ta to.length tc) to from (unhide H0).to)).mono ?_
 rw [unhide HB]
 rintro e w1 ⟨rfl, b1⟩
 have bb1 := below_next b0 b1
 have K1 := hide (block_kept b1 (unhide K0))
 have H1 := hide ((unhide H0).below b1)
 clear b1 b0 K0 H0
 obtain ⟨d0, d1, d2, d3, d4, d5, d6⟩ := cells7 (unhide K1)
 go_wp2_with fail
 go_ret
 exact ⟨rfl, bb1⟩

set_option maxHeartbeats 400000 in
set_option maxRecDepth 100000 in
theorem l3_6_2 {na : Option Addr} {nc : Nat} {ta : Option Addr} {tc : Nat} {xa : Option Addr} {xc : Nat} {ia : Option Addr} {ic : Nat} {nm to : List (List Int)} {tx nu : List Int} {tt ad : Int} {w : World} (h : HasR w (.slice na nm.length nc) (.slice ta to.length tc) (.slice xa tx.length xc) (.slice ia nu.length ic) ⟨nm, 6, tt, ad, to, tx, nu⟩) (hA : ad = 0) (hB : nameOk to = true) (hC : tx.length ≠ 0) :
  Calls Tryz.prog 90 #[.agg #[.slice na nm.length nc, .int .i64 6, .int .i64 tt, .int .i64 ad, .slice ta to.length tc, .slice xa tx.length xc, .slice ia nu.length ic]] w fun e w' => e = .returned (.bool false) ∧ Below w.heap.size w w' := by
 obtain rfl := hA
 have ehC : (0 : Int) < tx.length := by omega
 have fhC : ((tx.length : Int) == 0) = false := by rw [beq_eq_false_iff_ne]; omega
 have b0 := below_alloc (w := w) (.cells #[.slice na nm.length nc, .int .i64 6, .int .i64 tt, .int .i64 0, .slice ta to.length tc, .slice xa tx.length xc, .slice ia nu.length ic] 59)
 have K0 := hide (heap_alloc_new w (.cells #[.slice na nm.length nc, .int .i64 6, .int .i64 tt, .int .i64 0, .slice ta to.length tc, .slice xa tx.length xc, .slice ia nu.length ic] 59))
 have H0 := hide (h.below b0)
 clear h
 have HB := hide hB
 clear hB
 go_enter Tryz.func90, Tryz.ntmps90
 go_wp2_with fail
 generalize w.alloc (.cells #[.slice na nm.length nc, .int .i64 6, .int .i64 tt, .int .i64 0, .slice ta to.length tc, .slice xa tx.length xc, .slice ia nu.length ic] 59) = W at *
 refine (l3named_any 6 _ rfl).mono ?_
 rw [named_6]
 rintro e w1 ⟨rfl, rfl⟩
 obtain ⟨d0, d1, d2, d3, d4, d5, d6⟩ := cells7 (unhide K0)
 go_wp2_with fail
 clear d0 d1 d2 d3 d4 d5 d6
 refine (specNameOk_has (show HasL W (.slice ta to.length tc) to from (unhide H0).to)).mono ?_
 rw [unhide HB]
 rintro e w1 ⟨rfl, b1⟩
 have bb1 := below_next b0 b1
 have K1 := hide (block_kept b1 (unhide K0))
 have H1 := hide ((unhide H0).below b1)
 clear b1 b0 K0 H0
 obtain ⟨d0, d1, d2, d3, d4, d5, d6⟩ := cells7 (unhide K1)
 go_wp2_with fail
 refine (l3texted_any 6 _ rfl).mono ?_
 rw [texted_6]
 rintro e w2 ⟨rfl, rfl⟩
 go_wp2_with fail
 go_ret
 exact ⟨rfl, bb1⟩

set_option maxHeartbeats 400000 in
set_option maxRecDepth 100000 in
theorem l3_6_3 {na : Option Addr} {nc : Nat} {ta : Option Addr} {tc : Nat} {xa : Option Addr} {xc : Nat} {ia : Option Addr} {ic : Nat} {nm to : List (List Int)} {tx nu : List Int} {tt ad : Int} {w : World} (h : HasR w (.slice na nm.length nc) (.slice ta to.length tc) (.slice xa tx.length xc) (.slice ia nu.length ic) ⟨nm, 6, tt, ad, to, tx, nu⟩) (hA : ad = 0) (hB : nameOk to = true) (hC : tx.length = 0) (hD : nu.length ≠ 2) :
  Calls Tryz.prog 90 #[.agg #[.slice na nm.length nc, .int .i64 6, .int .i64 tt, .int .i64 ad, .slice ta to.length tc, .slice xa tx.length xc, .slice ia nu.length ic]] w fun e w' => e = .returned (.bool false) ∧ Below w.heap.size w w' := by
 obtain rfl := hA
 obtain rfl := nil_of hC
 clear hC
 have ehD : ((nu.length : Int) != 2) = true := by rw [bne_iff_ne]; omega
 have fhD : ((nu.length : Int) == 2) = false := by rw [beq_eq_false_iff_ne]; omega
 simp only [List.length_nil] at *
 have b0 := below_alloc (w := w) (.cells #[.slice na nm.length nc, .int .i64 6, .int .i64 tt, .int .i64 0, .slice ta to.length tc, .slice xa 0 xc, .slice ia nu.length ic] 59)
 have K0 := hide (heap_alloc_new w (.cells #[.slice na nm.length nc, .int .i64 6, .int .i64 tt, .int .i64 0, .slice ta to.length tc, .slice xa 0 xc, .slice ia nu.length ic] 59))
 have H0 := hide (h.below b0)
 clear h
 have HB := hide hB
 clear hB
 go_enter Tryz.func90, Tryz.ntmps90
 go_wp2_with fail
 generalize w.alloc (.cells #[.slice na nm.length nc, .int .i64 6, .int .i64 tt, .int .i64 0, .slice ta to.length tc, .slice xa 0 xc, .slice ia nu.length ic] 59) = W at *
 refine (l3named_any 6 _ rfl).mono ?_
 rw [named_6]
 rintro e w1 ⟨rfl, rfl⟩
 obtain ⟨d0, d1, d2, d3, d4, d5, d6⟩ := cells7 (unhide K0)
 go_wp2_with fail
 clear d0 d1 d2 d3 d4 d5 d6
 refine (specNameOk_has (show HasL W (.slice ta to.length tc) to from (unhide H0).to)).mono ?_
 rw [unhide HB]
 rintro e w1 ⟨rfl, b1⟩
 have bb1 := below_next b0 b1
 have K1 := hide (block_kept b1 (unhide K0))
 have H1 := hide ((unhide H0).below b1)
 clear b1 b0 K0 H0
 obtain ⟨d0, d1, d2, d3, d4, d5, d6⟩ := cells7 (unhide K1)
 go_wp2_with fail
 refine (l3texted_any 6 _ rfl).mono ?_
 rw [texted_6]
 rintro e w2 ⟨rfl, rfl⟩
 go_wp2_with fail
 go_ret
 exact ⟨rfl, bb1⟩

set_option maxHeartbeats 400000 in
set_option maxRecDepth 100000 in
theorem l3_6_4 {na : Option Addr} {nc : Nat} {ta : Option Addr} {tc : Nat} {xa : Option Addr} {xc : Nat} {ia : Option Addr} {ic : Nat} {nm to : List (List Int)} {tx nu : List Int} {tt ad : Int} {w : World} (h : HasR w (.slice na nm.length nc) (.slice ta to.length tc) (.slice xa tx.length xc) (.slice ia nu.length ic) ⟨nm, 6, tt, ad, to, tx, nu⟩) (hA : ad = 0) (hB : nameOk to = true) (hC : tx.length = 0) (hD : nu.length = 2) (hE : nu.getD 0 0 < 0) :
  Calls Tryz.prog 90 #[.agg #[.slice na nm.length nc, .int .i64 6, .int .i64 tt, .int .i64 ad, .slice ta to.length tc, .slice xa tx.length xc, .slice ia nu.length ic]] w fun e w' => e = .returned (.bool false) ∧ Below w.heap.size w w' := by
 obtain rfl := hA
 obtain rfl := nil_of hC
 clear hC
 obtain ⟨x, y, rfl⟩ := two_of hD
 clear hD
 replace hE : x < 0 := hE
 simp only [List.length_nil] at *
 simp only [List.length_cons, List.length_nil, Nat.zero_add, Nat.reduceAdd] at *
 have b0 := below_alloc (w := w) (.cells #[.slice na nm.length nc, .int .i64 6, .int .i64 tt, .int .i64 0, .slice ta to.length tc, .slice xa 0 xc, .slice ia 2 ic] 59)
 have K0 := hide (heap_alloc_new w (.cells #[.slice na nm.length nc, .int .i64 6, .int .i64 tt, .int .i64 0, .slice ta to.length tc, .slice xa 0 xc, .slice ia 2 ic] 59))
 have H0 := hide (h.below b0)
 clear h
 have HB := hide hB
 clear hB
 go_enter Tryz.func90, Tryz.ntmps90
 go_wp2_with fail
 generalize w.alloc (.cells #[.slice na nm.length nc, .int .i64 6, .int .i64 tt, .int .i64 0, .slice ta to.length tc, .slice xa 0 xc, .slice ia 2 ic] 59) = W at *
 refine (l3named_any 6 _ rfl).mono ?_
 rw [named_6]
 rintro e w1 ⟨rfl, rfl⟩
 obtain ⟨d0, d1, d2, d3, d4, d5, d6⟩ := cells7 (unhide K0)
 go_wp2_with fail
 clear d0 d1 d2 d3 d4 d5 d6
 refine (specNameOk_has (show HasL W (.slice ta to.length tc) to from (unhide H0).to)).mono ?_
 rw [unhide HB]
 rintro e w1 ⟨rfl, b1⟩
 have bb1 := below_next b0 b1
 have K1 := hide (block_kept b1 (unhide K0))
 have H1 := hide ((unhide H0).below b1)
 clear b1 b0 K0 H0
 obtain ⟨d0, d1, d2, d3, d4, d5, d6⟩ := cells7 (unhide K1)
 go_wp2_with fail
 obtain ⟨g, off, cp, hv, _, n0, n1⟩ := (show HasI _ (.slice ia 2 ic) [x, y] from (unhide H1).nums).two
 simp only [Value.slice.injEq] at hv
 obtain ⟨rfl, _, rfl⟩ := hv
 refine (l3texted_any 6 _ rfl).mono ?_
 rw [texted_6]
 rintro e w2 ⟨rfl, rfl⟩
 go_wp2_with fail
 go_ret
 exact ⟨rfl, bb1⟩

set_option maxHeartbeats 400000 in
set_option maxRecDepth 100000 in
theorem l3_6_5 {na : Option Addr} {nc : Nat} {ta : Option Addr} {tc : Nat} {xa : Option Addr} {xc : Nat} {ia : Option Addr} {ic : Nat} {nm to : List (List Int)} {tx nu : List Int} {tt ad : Int} {w : World} (h : HasR w (.slice na nm.length nc) (.slice ta to.length tc) (.slice xa tx.length xc) (.slice ia nu.length ic) ⟨nm, 6, tt, ad, to, tx, nu⟩) (hA : ad = 0) (hB : nameOk to = true) (hC : tx.length = 0) (hD : nu.length = 2) (hE : 0 ≤ nu.getD 0 0) (hF : 4294967295 < nu.getD 0 0) :
  Calls Tryz.prog 90 #[.agg #[.slice na nm.length nc, .int .i64 6, .int .i64 tt, .int .i64 ad, .slice ta to.length tc, .slice xa tx.length xc, .slice ia nu.length ic]] w fun e w' => e = .returned (.bool false) ∧ Below w.heap.size w w' := by
 obtain rfl := hA
 obtain rfl := nil_of hC
 clear hC
 obtain ⟨x, y, rfl⟩ := two_of hD
 clear hD
 replace hE : 0 ≤ x := hE
 replace hF : 4294967295 < x := hF
 simp only [List.length_nil] at *
 simp only [List.length_cons, List.length_nil, Nat.zero_add, Nat.reduceAdd] at *
 have b0 := below_alloc (w := w) (.cells #[.slice na nm.length nc, .int .i64 6, .int .i64 tt, .int .i64 0, .slice ta to.length tc, .slice xa 0 xc, .slice ia 2 ic] 59)
 have K0 := hide (heap_alloc_new w (.cells #[.slice na nm.length nc, .int .i64 6, .int .i64 tt, .int .i64 0, .slice ta to.length tc, .slice xa 0 xc, .slice ia 2 ic] 59))
 have H0 := hide (h.below b0)
 clear h
 have HB := hide hB
 clear hB
 go_enter Tryz.func90, Tryz.ntmps90
 go_wp2_with fail
 generalize w.alloc (.cells #[.slice na nm.length nc, .int .i64 6, .int .i64 tt, .int .i64 0, .slice ta to.length tc, .slice xa 0 xc, .slice ia 2 ic] 59) = W at *
 refine (l3named_any 6 _ rfl).mono ?_
 rw [named_6]
 rintro e w1 ⟨rfl, rfl⟩
 obtain ⟨d0, d1, d2, d3, d4, d5, d6⟩ := cells7 (unhide K0)
 go_wp2_with fail
 clear d0 d1 d2 d3 d4 d5 d6
 refine (specNameOk_has (show HasL W (.slice ta to.length tc) to from (unhide H0).to)).mono ?_
 rw [unhide HB]
 rintro e w1 ⟨rfl, b1⟩
 have bb1 := below_next b0 b1
 have K1 := hide (block_kept b1 (unhide K0))
 have H1 := hide ((unhide H0).below b1)
 clear b1 b0 K0 H0
 obtain ⟨d0, d1, d2, d3, d4, d5, d6⟩ := cells7 (unhide K1)
 go_wp2_with fail
 obtain ⟨g, off, cp, hv, _, n0, n1⟩ := (show HasI _ (.slice ia 2 ic) [x, y] from (unhide H1).nums).two
 simp only [Value.slice.injEq] at hv
 obtain ⟨rfl, _, rfl⟩ := hv
 refine (l3texted_any 6 _ rfl).mono ?_
 rw [texted_6]
 rintro e w2 ⟨rfl, rfl⟩
 go_wp2_with fail
 go_ret
 exact ⟨rfl, bb1⟩

set_option maxHeartbeats 400000 in
set_option maxRecDepth 100000 in
theorem l3_6_6 {na : Option Addr} {nc : Nat} {ta : Option Addr} {tc : Nat} {xa : Option Addr} {xc : Nat} {ia : Option Addr} {ic : Nat} {nm to : List (List Int)} {tx nu : List Int} {tt ad : Int} {w : World} (h : HasR w (.slice na nm.length nc) (.slice ta to.length tc) (.slice xa tx.length xc) (.slice ia nu.length ic) ⟨nm, 6, tt, ad, to, tx, nu⟩) (hA : ad = 0) (hB : nameOk to = true) (hC : tx.length = 0) (hD : nu.length = 2) (hE : 0 ≤ nu.getD 0 0) (hF : nu.getD 0 0 ≤ 4294967295) (hG : nu.getD 1 0 < 0) :
  Calls Tryz.prog 90 #[.agg #[.slice na nm.length nc, .int .i64 6, .int .i64 tt, .int .i64 ad, .slice ta to.length tc, .slice xa tx.length xc, .slice ia nu.length ic]] w fun e w' => e = .returned (.bool false) ∧ Below w.heap.size w w' := by
 obtain rfl := hA
 obtain rfl := nil_of hC
 clear hC
 obtain ⟨x, y, rfl⟩ := two_of hD
 clear hD
 replace hE : 0 ≤ x := hE
 replace hF : x ≤ 4294967295 := hF
 replace hG : y < 0 := hG
 have dhG : decide (0 ≤ y) = false := decide_eq_false (by omega)
 simp only [List.length_nil] at *
 simp only [List.length_cons, List.length_nil, Nat.zero_add, Nat.reduceAdd] at *
 have b0 := below_alloc (w := w) (.cells #[.slice na nm.length nc, .int .i64 6, .int .i64 tt, .int .i64 0, .slice ta to.length tc, .slice xa 0 xc, .slice ia 2 ic] 59)
 have K0 := hide (heap_alloc_new w (.cells #[.slice na nm.length nc, .int .i64 6, .int .i64 tt, .int .i64 0, .slice ta to.length tc, .slice xa 0 xc, .slice ia 2 ic] 59))
 have H0 := hide (h.below b0)
 clear h
 have HB := hide hB
 clear hB
 go_enter Tryz.func90, Tryz.ntmps90
 go_wp2_with fail
 generalize w.alloc (.cells #[.slice na nm.length nc, .int .i64 6, .int .i64 tt, .int .i64 0, .slice ta to.length tc, .slice xa 0 xc, .slice ia 2 ic] 59) = W at *
 refine (l3named_any 6 _ rfl).mono ?_
 rw [named_6]
 rintro e w1 ⟨rfl, rfl⟩
 obtain ⟨d0, d1, d2, d3, d4, d5, d6⟩ := cells7 (unhide K0)
 go_wp2_with fail
 clear d0 d1 d2 d3 d4 d5 d6
 refine (specNameOk_has (show HasL W (.slice ta to.length tc) to from (unhide H0).to)).mono ?_
 rw [unhide HB]
 rintro e w1 ⟨rfl, b1⟩
 have bb1 := below_next b0 b1
 have K1 := hide (block_kept b1 (unhide K0))
 have H1 := hide ((unhide H0).below b1)
 clear b1 b0 K0 H0
 obtain ⟨d0, d1, d2, d3, d4, d5, d6⟩ := cells7 (unhide K1)
 go_wp2_with fail
 obtain ⟨g, off, cp, hv, _, n0, n1⟩ := (show HasI _ (.slice ia 2 ic) [x, y] from (unhide H1).nums).two
 simp only [Value.slice.injEq] at hv
 obtain ⟨rfl, _, rfl⟩ := hv
 refine (l3texted_any 6 _ rfl).mono ?_
 rw [texted_6]
 rintro e w2 ⟨rfl, rfl⟩
 go_wp2_with fail
 go_ret
 exact ⟨rfl, bb1⟩

set_option maxHeartbeats 400000 in
set_option maxRecDepth 100000 in
theorem l3_6_7 {na : Option Addr} {nc : Nat} {ta : Option Addr} {tc : Nat} {xa : Option Addr} {xc : Nat} {ia : Option Addr} {ic : Nat} {nm to : List (List Int)} {tx nu : List Int} {tt ad : Int} {w : World} (h : HasR w (.slice na nm.length nc) (.slice ta to.length tc) (.slice xa tx.length xc) (.slice ia nu.length ic) ⟨nm, 6, tt, ad, to, tx, nu⟩) (hA : ad = 0) (hB : nameOk to = true) (hC : tx.length = 0) (hD : nu.length = 2) (hE : 0 ≤ nu.getD 0 0) (hF : nu.getD 0 0 ≤ 4294967295) (hG : 0 ≤ nu.getD 1 0) (hH : 100000 < nu.getD 1 0) :
  Calls Tryz.prog 90 #[.agg #[.slice na nm.length nc, .int .i64 6, .int .i64 tt, .int .i64 ad, .slice ta to.length tc, .slice xa tx.length xc, .slice ia nu.length ic]] w fun e w' => e = .returned (.bool false) ∧ Below w.heap.size w w' := by
 obtain rfl := hA
 obtain rfl := nil_of hC
 clear hC
 obtain ⟨x, y, rfl⟩ := two_of hD
 clear hD
 replace hE : 0 ≤ x := hE
 replace hF : x ≤ 4294967295 := hF
 replace hG : 0 ≤ y := hG
 replace hH : 100000 < y := hH
 have dhH : decide (y ≤ 100000) = false := decide_eq_false (by omega)
 simp only [List.length_nil] at *
 simp only [List.length_cons, List.length_nil, Nat.zero_add, Nat.reduceAdd] at *
 have b0 := below_alloc (w := w) (.cells #[.slice na nm.length nc, .int .i64 6, .int .i64 tt, .int .i64 0, .slice ta to.length tc, .slice xa 0 xc, .slice ia 2 ic] 59)
 have K0 := hide (heap_alloc_new w (.cells #[.slice na nm.length nc, .int .i64 6, .int .i64 tt, .int .i64 0, .slice ta to.length tc, .slice xa 0 xc, .slice ia 2 ic] 59))
 have H0 := hide (h.below b0)
 clear h
 have HB := hide hB
 clear hB
 go_enter Tryz.func90, Tryz.ntmps90
 go_wp2_with fail
 generalize w.alloc (.cells #[.slice na nm.length nc, .int .i64 6, .int .i64 tt, .int .i64 0, .slice ta to.length tc, .slice xa 0 xc, .slice ia 2 ic] 59) = W at *
 refine (l3named_any 6 _ rfl).mono ?_
 rw [named_6]
 rintro e w1 ⟨rfl, rfl⟩
 obtain ⟨d0, d1, d2, d3, d4, d5, d6⟩ := cells7 (unhide K0)
 go_wp2_with fail
 clear d0 d1 d2 d3 d4 d5 d6
 refine (specNameOk_has (show HasL W (.slice ta to.length tc) to from (unhide H0).to)).mono ?_
 rw [unhide HB]
 rintro e w1 ⟨rfl, b1⟩
 have bb1 := below_next b0 b1
 have K1 := hide (block_kept b1 (unhide K0))
 have H1 := hide ((unhide H0).below b1)
 clear b1 b0 K0 H0
 obtain ⟨d0, d1, d2, d3, d4, d5, d6⟩ := cells7 (unhide K1)
 go_wp2_with fail
 obtain ⟨g, off, cp, hv, _, n0, n1⟩ := (show HasI _ (.slice ia 2 ic) [x, y] from (unhide H1).nums).two
 simp only [Value.slice.injEq] at hv
 obtain ⟨rfl, _, rfl⟩ := hv
 refine (l3texted_any 6 _ rfl).mono ?_
 rw [texted_6]
 rintro e w2 ⟨rfl, rfl⟩
 go_wp2_with fail
 go_ret
 exact ⟨rfl, bb1⟩

set_option maxHeartbeats 400000 in
set_option maxRecDepth 100000 in
theorem l3_6_8 {na : Option Addr} {nc : Nat} {ta : Option Addr} {tc : Nat} {xa : Option Addr} {xc : Nat} {ia : Option Addr} {ic : Nat} {nm to : List (List Int)} {tx nu : List Int} {tt ad : Int} {w : World} (h : HasR w (.slice na nm.length nc) (.slice ta to.length tc) (.slice xa tx.length xc) (.slice ia nu.length ic) ⟨nm, 6, tt, ad, to, tx, nu⟩) (hA : ad = 0) (hB : nameOk to = true) (hC : tx.length = 0) (hD : nu.length = 2) (hE : 0 ≤ nu.getD 0 0) (hF : nu.getD 0 0 ≤ 4294967295) (hG : 0 ≤ nu.getD 1 0) (hH : nu.getD 1 0 ≤ 100000) :
  Calls Tryz.prog 90 #[.agg #[.slice na nm.length nc, .int .i64 6, .int .i64 tt, .int .i64 ad, .slice ta to.length tc, .slice xa tx.length xc, .slice ia nu.length ic]] w fun e w' => e = .returned (.bool true) ∧ Below w.heap.size w w' := by
 obtain rfl := hA
 obtain rfl := nil_of hC
 clear hC
 obtain ⟨x, y, rfl⟩ := two_of hD
 clear hD
 replace hE : 0 ≤ x := hE
 replace hF : x ≤ 4294967295 := hF
 replace hG : 0 ≤ y := hG
 replace hH : y ≤ 100000 := hH
 have dhH : decide (y ≤ 100000) = true := decide_eq_true (by omega)
 simp only [List.length_nil] at *
 simp only [List.length_cons, List.length_nil, Nat.zero_add, Nat.reduceAdd] at *
 have b0 := below_alloc (w := w) (.cells #[.slice na nm.length nc, .int .i64 6, .int .i64 tt, .int .i64 0, .slice ta to.length tc, .slice xa 0 xc, .slice ia 2 ic] 59)
 have K0 := hide (heap_alloc_new w (.cells #[.slice na nm.length nc, .int .i64 6, .int .i64 tt, .int .i64 0, .slice ta to.length tc, .slice xa 0 xc, .slice ia 2 ic] 59))
 have H0 := hide (h.below b0)
 clear h
 have HB := hide hB
 clear hB
 go_enter Tryz.func90, Tryz.ntmps90
 go_wp2_with fail
 generalize w.alloc (.cells #[.slice na nm.length nc, .int .i64 6, .int .i64 tt, .int .i64 0, .slice ta to.length tc, .slice xa 0 xc, .slice ia 2 ic] 59) = W at *
 refine (l3named_any 6 _ rfl).mono ?_
 rw [named_6]
 rintro e w1 ⟨rfl, rfl⟩
 obtain ⟨d0, d1, d2, d3, d4, d5, d6⟩ := cells7 (unhide K0)
 go_wp2_with fail
 clear d0 d1 d2 d3 d4 d5 d6
 refine (specNameOk_has (show HasL W (.slice ta to.length tc) to from (unhide H0).to)).mono ?_
 rw [unhide HB]
 rintro e w1 ⟨rfl, b1⟩
 have bb1 := below_next b0 b1
 have K1 := hide (block_kept b1 (unhide K0))
 have H1 := hide ((unhide H0).below b1)
 clear b1 b0 K0 H0
 obtain ⟨d0, d1, d2, d3, d4, d5, d6⟩ := cells7 (unhide K1)
 go_wp2_with fail
 obtain ⟨g, off, cp, hv, _, n0, n1⟩ := (show HasI _ (.slice ia 2 ic) [x, y] from (unhide H1).nums).two
 simp only [Value.slice.injEq] at hv
 obtain ⟨rfl, _, rfl⟩ := hv
 refine (l3texted_any 6 _ rfl).mono ?_
 rw [texted_6]
 rintro e w2 ⟨rfl, rfl⟩
 go_wp2_with fail
 go_ret
 exact ⟨rfl, bb1⟩

set_option maxHeartbeats 400000 in
set_option maxRecDepth 100000 in
theorem l3_12_0 {na : Option Addr} {nc : Nat} {ta : Option Addr} {tc : Nat} {xa : Option Addr} {xc : Nat} {ia : Option Addr} {ic : Nat} {nm to : List (List Int)} {tx nu : List Int} {tt ad : Int} {w : World} (h : HasR w (.slice na nm.length nc) (.slice ta to.length tc) (.slice xa tx.length xc) (.slice ia nu.length ic) ⟨nm, 12, tt, ad, to, tx, nu⟩) (hA : ad ≠ 0) :
  Calls Tryz.prog 90 #[.agg #[.slice na nm.length nc, .int .i64 12, .int .i64 tt, .int .i64 ad, .slice ta to.length tc, .slice xa tx.length xc, .slice ia nu.length ic]] w fun e w' => e = .returned (.bool false) ∧ Below w.heap.size w w' := by
 have ehA : (ad != 0) = true := by rw [bne_iff_ne]; exact hA
 have fhA : (ad == 0) = false := by rw [beq_eq_false_iff_ne]; exact hA
 have ghA : decide (ad = 0) = false := decide_eq_false hA
 have b0 := below_alloc (w := w) (.cells #[.slice na nm.length nc, .int .i64 12, .int .i64 tt, .int .i64 ad, .slice ta to.length tc, .slice xa tx.length xc, .slice ia nu.length ic] 59)
 have K0 := hide (heap_alloc_new w (.cells #[.slice na nm.length nc, .int .i64 12, .int .i64 tt, .int .i64 ad, .slice ta to.length tc, .slice xa tx.length xc, .slice ia nu.length ic] 59))
 have H0 := hide (h.below b0)
 clear h
 go_enter Tryz.func90, Tryz.ntmps90
 go_wp2_with fail
 go_ret
 exact ⟨rfl, b0⟩

set_option maxHeartbeats 400000 in
set_option maxRecDepth 100000 in
theorem l3_12_1 {na : Option Addr} {nc : Nat} {ta : Option Addr} {tc : Nat} {xa : Option Addr} {xc : Nat} {ia : Option Addr} {ic : Nat} {nm to : List (List Int)} {tx nu : List Int} {tt ad : Int} {w : World} (h : HasR w (.slice na nm.length nc) (.slice ta to.length tc) (.slice xa tx.length xc) (.slice ia nu.length ic) ⟨nm, 12, tt, ad, to, tx, nu⟩) (hA : ad = 0) (hB : nameOk to = false) :
  Calls Tryz.prog 90 #[.agg #[.slice na nm.length nc, .int .i64 12, .int .i64 tt, .int .i64 ad, .slice ta to.length tc, .slice xa tx.length xc, .slice ia nu.length ic]] w fun e w' => e = .returned (.bool false) ∧ Below w.heap.size w w' := by
 obtain rfl := hA
 have b0 := below_alloc (w := w) (.cells #[.slice na nm.length nc, .int .i64 12, .int .i64 tt, .int .i64 0, .slice ta to.length tc, .slice xa tx.length xc, .slice ia nu.length ic] 59)
 have K0 := hide (heap_alloc_new w (.cells #[.slice na nm.length nc, .int .i64 12, .int .i64 tt, .int .i64 0, .slice ta to.length tc, .slice xa tx.length xc, .slice ia nu.length ic] 59))
 have H0 := hide (h.below b0)
 clear h
 have HB := hide hB
 clear hB
 go_enter Tryz.func90, Tryz.ntmps90
 go_wp2_with fail
 generalize w.alloc (.cells #[.slice na nm.length nc, .int .i64 12, .int .i64 tt, .int .i64 0, .slice ta to.length tc, .slice xa tx.length xc, .slice ia nu.length ic] 59) = W at *
 refine (l3named_any 12 _ rfl).mono ?_
 rw [named_12]
 rintro e w1 ⟨rfl, rfl⟩
 obtain ⟨d0, d1, d2, d3, d4, d5, d6⟩ := cells7 (unhide K0)
 go_wp2_with fail
 clear d0 d1 d2 d3 d4 d5 d6
 refine (specNameOk_has (show HasL W (.slice ta to.length tc) to from (unhide H0).to)).mono ?_
 rw [unhide HB]
 rintro e w1 ⟨rfl, b1⟩
 have bb1 := below_next b0 b1
 have K1 := hide (block_kept b1 (unhide K0))
 have H1 := hide ((unhide H0).below b1)
 clear b1 b0 K0 H0
 obtain ⟨d0, d1, d2, d3, d4, d5, d6⟩ := cells7 (unhide K1)
 go_wp2_with fail
 go_ret
 exact ⟨rfl, bb1⟩

set_option maxHeartbeats 400000 in
set_option maxRecDepth 100000 in
theorem l3_12_2 {na : Option Addr} {nc : Nat} {ta : Option Addr} {tc : Nat} {xa : Option Addr} {xc : Nat} {ia : Option Addr} {ic : Nat} {nm to : List (List Int)} {tx nu : List Int} {tt ad : Int} {w : World} (h : HasR w (.slice na nm.length nc) (.slice ta to.length tc) (.slice xa tx.length xc) (.slice ia nu.length ic) ⟨nm, 12, tt, ad, to, tx, nu⟩) (hA : ad = 0) (hB : nameOk to = true) (hC : tx.length ≠ 0) :
  Calls Tryz.prog 90 #[.agg #[.slice na nm.length nc, .int .i64 12, .int .i64 tt, .int .i64 ad, .slice ta to.length tc, .slice xa tx.length xc, .slice ia nu.length ic]] w fun e w' => e = .returned (.bool false) ∧ Below w.heap.size w w' := by
 obtain rfl := hA
 have ehC : (0 : Int) < tx.length := by omega
 have fhC : ((tx.length : Int) == 0) = false := by rw [beq_eq_false_iff_ne]; omega
 have b0 := below_alloc (w := w) (.cells #[.slice na nm.length nc, .int .i64 12, .int .i64 tt, .int .i64 0, .slice ta to.length tc, .slice xa tx.length xc, .slice ia nu.length ic] 59)
 have K0 := hide (heap_alloc_new w (.cells #[.slice na nm.length nc, .int .i64 12, .int .i64 tt, .int .i64 0, .slice ta to.length tc, .slice xa tx.length xc, .slice ia nu.length ic] 59))
 have H0 := hide (h.below b0)
 clear h
 have HB := hide hB
 clear hB
 go_enter Tryz.func90, Tryz.ntmps90
 go_wp2_with fail
 generalize w.alloc (.cells #[.slice na nm.length nc, .int .i64 12, .int .i64 tt, .int .i64 0, .slice ta to.length tc, .slice xa tx.length xc, .slice ia nu.length ic] 59) = W at *
 refine (l3named_any 12 _ rfl).mono ?_
 rw [named_12]
 rintro e w1 ⟨rfl, rfl⟩
 obtain ⟨d0, d1, d2, d3, d4, d5, d6⟩ := cells7 (unhide K0)
 go_wp2_with fail
 clear d0 d1 d2 d3 d4 d5 d6
 refine (specNameOk_has (show HasL W (.slice ta to.length tc) to from (unhide H0).to)).mono ?_
 rw [unhide HB]
 rintro e w1 ⟨rfl, b1⟩
 have bb1 := below_next b0 b1
 have K1 := hide (block_kept b1 (unhide K0))
 have H1 := hide ((unhide H0).below b1)
 clear b1 b0 K0 H0
 obtain ⟨d0, d1, d2, d3, d4, d5, d6⟩ := cells7 (unhide K1)
 go_wp2_with fail
 refine (l3texted_any 12 _ rfl).mono ?_
 rw [texted_12]
 rintro e w2 ⟨rfl, rfl⟩
 go_wp2_with fail
 go_ret
 exact ⟨rfl, bb1⟩

set_option maxHeartbeats 400000 in
set_option maxRecDepth 100000 in
theorem l3_12_3 {na : Option Addr} {nc : Nat} {ta : Option Addr} {tc : Nat} {xa : Option Addr} {xc : Nat} {ia : Option Addr} {ic : Nat} {nm to : List (List Int)} {tx nu : List Int} {tt ad : Int} {w : World} (h : HasR w (.slice na nm.length nc) (.slice ta to.length tc) (.slice xa tx.length xc) (.slice ia nu.length ic) ⟨nm, 12, tt, ad, to, tx, nu⟩) (hA : ad = 0) (hB : nameOk to = true) (hC : tx.length = 0) (hD : nu.length ≠ 0) :
  Calls Tryz.prog 90 #[.agg #[.slice na nm.length nc, .int .i64 12, .int .i64 tt, .int .i64 ad, .slice ta to.length tc, .slice xa tx.length xc, .slice ia nu.length ic]] w fun e w' => e = .returned (.bool false) ∧ Below w.heap.size w w' := by
 obtain rfl := hA
 obtain rfl := nil_of hC
 clear hC
 have ehD : ((nu.length : Int) == 0) = false := by rw [beq_eq_false_iff_ne]; omega
 simp only [List.length_nil] at *
 have b0 := below_alloc (w := w) (.cells #[.slice na nm.length nc, .int .i64 12, .int .i64 tt, .int .i64 0, .slice ta to.length tc, .slice xa 0 xc, .slice ia nu.length ic] 59)
 have K0 := hide (heap_alloc_new w (.cells #[.slice na nm.length nc, .int .i64 12, .int .i64 tt, .int .i64 0, .slice ta to.length tc, .slice xa 0 xc, .slice ia nu.length ic] 59))
 have H0 := hide (h.below b0)
 clear h
 have HB := hide hB
 clear hB
 go_enter Tryz.func90, Tryz.ntmps90
 go_wp2_with fail
 generalize w.alloc (.cells #[.slice na nm.length nc, .int .i64 12, .int .i64 tt, .int .i64 0, .slice ta to.length tc, .slice xa 0 xc, .slice ia nu.length ic] 59) = W at *
 refine (l3named_any 12 _ rfl).mono ?_
 rw [named_12]
 rintro e w1 ⟨rfl, rfl⟩
 obtain ⟨d0, d1, d2, d3, d4, d5, d6⟩ := cells7 (unhide K0)
 go_wp2_with fail
 clear d0 d1 d2 d3 d4 d5 d6
 refine (specNameOk_has (show HasL W (.slice ta to.length tc) to from (unhide H0).to)).mono ?_
 rw [unhide HB]
 rintro e w1 ⟨rfl, b1⟩
 have bb1 := below_next b0 b1
 have K1 := hide (block_kept b1 (unhide K0))
 have H1 := hide ((unhide H0).below b1)
 clear b1 b0 K0 H0
 obtain ⟨d0, d1, d2, d3, d4, d5, d6⟩ := cells7 (unhide K1)
 go_wp2_with fail
 refine (l3texted_any 12 _ rfl).mono ?_
 rw [texted_12]
 rintro e w2 ⟨rfl, rfl⟩
 go_wp2_with fail
 go_ret
 exact ⟨rfl, bb1⟩

set_option maxHeartbeats 400000 in
set_option maxRecDepth 100000 in
theorem l3_12_4 {na : Option Addr} {nc : Nat} {ta : Option Addr} {tc : Nat} {xa : Option Addr} {xc : Nat} {ia : Option Addr} {ic : Nat} {nm to : List (List Int)} {tx nu : List Int} {tt ad : Int} {w : World} (h : HasR w (.slice na nm.length nc) (.slice ta to.length tc) (.slice xa tx.length xc) (.slice ia nu.length ic) ⟨nm, 12, tt, ad, to, tx, nu⟩) (hA : ad = 0) (hB : nameOk to = true) (hC : tx.length = 0) (hD : nu.length = 0) :
  Calls Tryz.prog 90 #[.agg #[.slice na nm.length nc, .int .i64 12, .int .i64 tt, .int .i64 ad, .slice ta to.length tc, .slice xa tx.length xc, .slice ia nu.length ic]] w fun e w' => e = .returned (.bool true) ∧ Below w.heap.size w w' := by
 obtain rfl := hA
 obtain rfl := nil_of hC
 clear hC
 obtain rfl := nil_of hD
 clear hD
 simp only [List.length_nil] at *
 have b0 := below_alloc (w := w) (.cells #[.slice na nm.length nc, .int .i64 12, .int .i64 tt, .int .i64 0, .slice ta to.length tc, .slice xa 0 xc, .slice ia 0 ic] 59)
 have K0 := hide (heap_alloc_new w (.cells #[.slice na nm.length nc, .int .i64 12, .int .i64 tt, .int .i64 0, .slice ta to.length tc, .slice xa 0 xc, .slice ia 0 ic] 59))
 have H0 := hide (h.below b0)
 clear h
 have HB := hide hB
 clear hB
 go_enter Tryz.func90, Tryz.ntmps90
 go_wp2_with fail
 generalize w.alloc (.cells #[.slice na nm.length nc, .int .i64 12, .int .i64 tt, .int .i64 0, .slice ta to.length tc, .slice xa 0 xc, .slice ia 0 ic] 59) = W at *
 refine (l3named_any 12 _ rfl).mono ?_
 rw [named_12]
 rintro e w1 ⟨rfl, rfl⟩
 obtain ⟨d0, d1, d2, d3, d4, d5, d6⟩ := cells7 (unhide K0)
 go_wp2_with fail
 clear d0 d1 d2 d3 d4 d5 d6
 refine (specNameOk_has (show HasL W (.slice ta to.length tc) to from (unhide H0).to)).mono ?_
 rw [unhide HB]
 rintro e w1 ⟨rfl, b1⟩
 have bb1 := below_next b0 b1
 have K1 := hide (block_kept b1 (unhide K0))
 have H1 := hide ((unhide H0).below b1)
 clear b1 b0 K0 H0
 obtain ⟨d0, d1, d2, d3, d4, d5, d6⟩ := cells7 (unhide K1)
 go_wp2_with fail
 refine (l3texted_any 12 _ rfl).mono ?_
 rw [texted_12]
 rintro e w2 ⟨rfl, rfl⟩
 go_wp2_with fail
 go_ret
 exact ⟨rfl, bb1⟩

set_option maxHeartbeats 400000 in
set_option maxRecDepth 100000 in
theorem l3_16_0 {na : Option Addr} {nc : Nat} {ta : Option Addr} {tc : Nat} {xa : Option Addr} {xc : Nat} {ia : Option Addr} {ic : Nat} {nm to : List (List Int)} {tx nu : List Int} {tt ad : Int} {w : World} (h : HasR w (.slice na nm.length nc) (.slice ta to.length tc) (.slice xa tx.length xc) (.slice ia nu.length ic) ⟨nm, 16, tt, ad, to, tx, nu⟩) (hA : ad ≠ 0) :
  Calls Tryz.prog 90 #[.agg #[.slice na nm.length nc, .int .i64 16, .int .i64 tt, .int .i64 ad, .slice ta to.length tc, .slice xa tx.length xc, .slice ia nu.length ic]] w fun e w' => e = .returned (.bool false) ∧ Below w.heap.size w w' := by
 have ehA : (ad != 0) = true := by rw [bne_iff_ne]; exact hA
 have fhA : (ad == 0) = false := by rw [beq_eq_false_iff_ne]; exact hA
 have ghA : decide (ad = 0) = false := decide_eq_false hA
 have b0 := below_alloc (w := w) (.cells #[.slice na nm.length nc, .int .i64 16, .int .i64 tt, .int .i64 ad, .slice ta to.length tc, .slice xa tx.length xc, .slice ia nu.length ic] 59)
 have K0 := hide (heap_alloc_new w (.cells #[.slice na nm.length nc, .int .i64 16, .int .i64 tt, .int .i64 ad, .slice ta to.length tc, .slice xa tx.length xc, .slice ia nu.length ic] 59))
 have H0 := hide (h.below b0)
 clear h
 go_enter Tryz.func90, Tryz.ntmps90
 go_wp2_with fail
 go_ret
 exact ⟨rfl, b0⟩

set_option maxHeartbeats 400000 in
set_option maxRecDepth 100000 in
theorem l3_16_1 {na : Option Addr} {nc : Nat} {ta : Option Addr} {tc : Nat} {xa : Option Addr} {xc : Nat} {ia : Option Addr} {ic : Nat} {nm to : List (List Int)} {tx nu : List Int} {tt ad : Int} {w : World} (h : HasR w (.slice na nm.length nc) (.slice ta to.length tc) (.slice xa tx.length xc) (.slice ia nu.length ic) ⟨nm, 16, tt, ad, to, tx, nu⟩) (hA : ad = 0) (hB : to.length ≠ 0) :
  Calls Tryz.prog 90 #[.agg #[.slice na nm.length nc, .int .i64 16, .int .i64 tt, .int .i64 ad, .slice ta to.length tc, .slice xa tx.length xc, .slice ia nu.length ic]] w fun e w' => e = .returned (.bool false) ∧ Below w.heap.size w w' := by
 obtain rfl := hA
 have ehB : (0 : Int) < to.length := by omega
 have fhB : ((to.length : Int) == 0) = false := by rw [beq_eq_false_iff_ne]; omega
 have b0 := below_alloc (w := w) (.cells #[.slice na nm.length nc, .int .i64 16, .int .i64 tt, .int .i64 0, .slice ta to.length tc, .slice xa tx.length xc, .slice ia nu.length ic] 59)
 have K0 := hide (heap_alloc_new w (.cells #[.slice na nm.length nc, .int .i64 16, .int .i64 tt, .int .i64 0, .slice ta to.length tc, .slice xa tx.length xc, .slice ia nu.length ic] 59))
 have H0 := hide (h.below b0)
 clear h
 go_enter Tryz.func90, Tryz.ntmps90
 go_wp2_with fail
 generalize w.alloc (.cells #[.slice na nm.length nc, .int .i64 16, .int .i64 tt, .int .i64 0, .slice ta to.length tc, .slice xa tx.length xc, .slice ia nu.length ic] 59) = W at *
 refine (l3named_any 16 _ rfl).mono ?_
 rw [named_16]
 rintro e w1 ⟨rfl, rfl⟩
 obtain ⟨d0, d1, d2, d3, d4, d5, d6⟩ := cells7 (unhide K0)
 go_wp2_with fail
 go_ret
 exact ⟨rfl, b0⟩

set_option maxHeartbeats 400000 in
set_option maxRecDepth 100000 in
theorem l3_16_2 {na : Option Addr} {nc : Nat} {ta : Option Addr} {tc : Nat} {xa : Option Addr} {xc : Nat} {ia : Option Addr} {ic : Nat} {nm to : List (List Int)} {tx nu : List Int} {tt ad : Int} {w : World} (h : HasR w (.slice na nm.length nc) (.slice ta to.length tc) (.slice xa tx.length xc) (.slice ia nu.length ic) ⟨nm, 16, tt, ad, to, tx, nu⟩) (hA : ad = 0) (hB : to.length = 0) (hC : 40 < tx.length) :
  Calls Tryz.prog 90 #[.agg #[.slice na nm.length nc, .int .i64 16, .int .i64 tt, .int .i64 ad, .slice ta to.length tc, .slice xa tx.length xc, .slice ia nu.length ic]] w fun e w' => e = .returned (.bool false) ∧ Below w.heap.size w w' := by
 obtain rfl := hA
 obtain rfl := nil_of hB
 clear hB
 have ehC : (40 : Int) < tx.length := by omega
 have fhC : decide ((tx.length : Int) ≤ 40) = false := decide_eq_false (by omega)
 simp only [List.length_nil] at *
 have b0 := below_alloc (w := w) (.cells #[.slice na nm.length nc, .int .i64 16, .int .i64 tt, .int .i64 0, .slice ta 0 tc, .slice xa tx.length xc, .slice ia nu.length ic] 59)
 have K0 := hide (heap_alloc_new w (.cells #[.slice na nm.length nc, .int .i64 16, .int .i64 tt, .int .i64 0, .slice ta 0 tc, .slice xa tx.length xc, .slice ia nu.length ic] 59))
 have H0 := hide (h.below b0)
 clear h
 go_enter Tryz.func90, Tryz.ntmps90
 go_wp2_with fail
 generalize w.alloc (.cells #[.slice na nm.length nc, .int .i64 16, .int .i64 tt, .int .i64 0, .slice ta 0 tc, .slice xa tx.length xc, .slice ia nu.length ic] 59) = W at *
 refine (l3named_any 16 _ rfl).mono ?_
 rw [named_16]
 rintro e w1 ⟨rfl, rfl⟩
 obtain ⟨d0, d1, d2, d3, d4, d5, d6⟩ := cells7 (unhide K0)
 go_wp2_with fail
 refine (l3texted_any 16 _ rfl).mono ?_
 rw [texted_16]
 rintro e w2 ⟨rfl, rfl⟩
 go_wp2_with fail
 go_ret
 exact ⟨rfl, b0⟩

set_option maxHeartbeats 400000 in
set_option maxRecDepth 100000 in
theorem l3_16_3 {na : Option Addr} {nc : Nat} {ta : Option Addr} {tc : Nat} {xa : Option Addr} {xc : Nat} {ia : Option Addr} {ic : Nat} {nm to : List (List Int)} {tx nu : List Int} {tt ad : Int} {w : World} (h : HasR w (.slice na nm.length nc) (.slice ta to.length tc) (.slice xa tx.length xc) (.slice ia nu.length ic) ⟨nm, 16, tt, ad, to, tx, nu⟩) (hA : ad = 0) (hB : to.length = 0) (hC : tx.length ≤ 40) (hD : nu.length ≠ 0) :
  Calls Tryz.prog 90 #[.agg #[.slice na nm.length nc, .int .i64 16, .int .i64 tt, .int .i64 ad, .slice ta to.length tc, .slice xa tx.length xc, .slice ia nu.length ic]] w fun e w' => e = .returned (.bool false) ∧ Below w.heap.size w w' := by
 obtain rfl := hA
 obtain rfl := nil_of hB
 clear hB
 have ehC : (tx.length : Int) ≤ 40 := by omega
 have fhC : decide ((tx.length : Int) ≤ 40) = true := decide_eq_true (by omega)
 have ehD : ((nu.length : Int) == 0) = false := by rw [beq_eq_false_iff_ne]; omega
 simp only [List.length_nil] at *
 have b0 := below_alloc (w := w) (.cells #[.slice na nm.length nc, .int .i64 16, .int .i64 tt, .int .i64 0, .slice ta 0 tc, .slice xa tx.length xc, .slice ia nu.length ic] 59)
 have K0 := hide (heap_alloc_new w (.cells #[.slice na nm.length nc, .int .i64 16, .int .i64 tt, .int .i64 0, .slice ta 0 tc, .slice xa tx.length xc, .slice ia nu.length ic] 59))
 have H0 := hide (h.below b0)
 clear h
 go_enter Tryz.func90, Tryz.ntmps90
 go_wp2_with fail
 generalize w.alloc (.cells #[.slice na nm.length nc, .int .i64 16, .int .i64 tt, .int .i64 0, .slice ta 0 tc, .slice xa tx.length xc, .slice ia nu.length ic] 59) = W at *
 refine (l3named_any 16 _ rfl).mono ?_
 rw [named_16]
 rintro e w1 ⟨rfl, rfl⟩
 obtain ⟨d0, d1, d2, d3, d4, d5, d6⟩ := cells7 (unhide K0)
 go_wp2_with fail
 refine (l3texted_any 16 _ rfl).mono ?_
 rw [texted_16]
 rintro e w2 ⟨rfl, rfl⟩
 go_wp2_with fail
 go_ret
 exact ⟨rfl, b0⟩

set_option maxHeartbeats 400000 in
set_option maxRecDepth 100000 in
theorem l3_16_4 {na : Option Addr} {nc : Nat} {ta : Option Addr} {tc : Nat} {xa : Option Addr} {xc : Nat} {ia : Option Addr} {ic : Nat} {nm to : List (List Int)} {tx nu : List Int} {tt ad : Int} {w : World} (h : HasR w (.slice na nm.length nc) (.slice ta to.length tc) (.slice xa tx.length xc) (.slice ia nu.length ic) ⟨nm, 16, tt, ad, to, tx, nu⟩) (hA : ad = 0) (hB : to.length = 0) (hC : tx.length ≤ 40) (hD : nu.length = 0) :
  Calls Tryz.prog 90 #[.agg #[.slice na nm.length nc, .int .i64 16, .int .i64 tt, .int .i64 ad, .slice ta to.length tc, .slice xa tx.length xc, .slice ia nu.length ic]] w fun e w' => e = .returned (.bool true) ∧ Below w.heap.size w w' := by
 obtain rfl := hA
 obtain rfl := nil_of hB
 clear hB
 have ehC : (tx.length : Int) ≤ 40 := by omega
 have fhC : decide ((tx.length : Int) ≤ 40) = true := decide_eq_true (by omega)
 obtain rfl := nil_of hD
 clear hD
 simp only [List.length_nil] at *
 have b0 := below_alloc (w := w) (.cells #[.slice na nm.length nc, .int .i64 16, .int .i64 tt, .int .i64 0, .slice ta 0 tc, .slice xa tx.length xc, .slice ia 0 ic] 59)
 have K0 := hide (heap_alloc_new w (.cells #[.slice na nm.length nc, .int .i64 16, .int .i64 tt, .int .i64 0, .slice ta 0 tc, .slice xa tx.length xc, .slice ia 0 ic] 59))
 have H0 := hide (h.below b0)
 clear h
 go_enter Tryz.func90, Tryz.ntmps90
 go_wp2_with fail
 generalize w.alloc (.cells #[.slice na nm.length nc, .int .i64 16, .int .i64 tt, .int .i64 0, .slice ta 0 tc, .slice xa tx.length xc, .slice ia 0 ic] 59) = W at *
 refine (l3named_any 16 _ rfl).mono ?_
 rw [named_16]
 rintro e w1 ⟨rfl, rfl⟩
 obtain ⟨d0, d1, d2, d3, d4, d5, d6⟩ := cells7 (unhide K0)
 go_wp2_with fail
 refine (l3texted_any 16 _ rfl).mono ?_
 rw [texted_16]
 rintro e w2 ⟨rfl, rfl⟩
 go_wp2_with fail
 go_ret
 exact ⟨rfl, b0⟩

set_option maxHeartbeats 400000 in
set_option maxRecDepth 100000 in
theorem l3_49_0 {na : Option Addr} {nc : Nat} {ta : Option Addr} {tc : Nat} {xa : Option Addr} {xc : Nat} {ia : Option Addr} {ic : Nat} {nm to : List (List Int)} {tx nu : List Int} {tt ad : Int} {w : World} (h : HasR w (.slice na nm.length nc) (.slice ta to.length tc) (.slice xa tx.length xc) (.slice ia nu.length ic) ⟨nm, 49, tt, ad, to, tx, nu⟩) (hA : ad ≠ 0) :
  Calls Tryz.prog 90 #[.agg #[.slice na nm.length nc, .int .i64 49, .int .i64 tt, .int .i64 ad, .slice ta to.length tc, .slice xa tx.length xc, .slice ia nu.length ic]] w fun e w' => e = .returned (.bool false) ∧ Below w.heap.size w w' := by
 have ehA : (ad != 0) = true := by rw [bne_iff_ne]; exact hA
 have fhA : (ad == 0) = false := by rw [beq_eq_false_iff_ne]; exact hA
 have ghA : decide (ad = 0) = false := decide_eq_false hA
 have b0 := below_alloc (w := w) (.cells #[.slice na nm.length nc, .int .i64 49, .int .i64 tt, .int .i64 ad, .slice ta to.length tc, .slice xa tx.length xc, .slice ia nu.length ic] 59)
 have K0 := hide (heap_alloc_new w (.cells #[.slice na nm.length nc, .int .i64 49, .int .i64 tt, .int .i64 ad, .slice ta to.length tc, .slice xa tx.length xc, .slice ia nu.length ic] 59))
 have H0 := hide (h.below b0)
 clear h
 go_enter Tryz.func90, Tryz.ntmps90
 go_wp2_with fail
 go_ret
 exact ⟨rfl, b0⟩

set_option maxHeartbeats 400000 in
set_option maxRecDepth 100000 in
theorem l3_49_1 {na : Option Addr} {nc : Nat} {ta : Option Addr} {tc : Nat} {xa : Option Addr} {xc : Nat} {ia : Option Addr} {ic : Nat} {nm to : List (List Int)} {tx nu : List Int} {tt ad : Int} {w : World} (h : HasR w (.slice na nm.length nc) (.slice ta to.length tc) (.slice xa tx.length xc) (.slice ia nu.length ic) ⟨nm, 49, tt, ad, to, tx, nu⟩) (hA : ad = 0) (hB : to.length ≠ 0) :
  Calls Tryz.prog 90 #[.agg #[.slice na nm.length nc, .int .i64 49, .int .i64 tt, .int .i64 ad, .slice ta to.length tc, .slice xa tx.length xc, .slice ia nu.length ic]] w fun e w' => e = .returned (.bool false) ∧ Below w.heap.size w w' := by
 obtain rfl := hA
 have ehB : (0 : Int) < to.length := by omega
 have fhB : ((to.length : Int) == 0) = false := by rw [beq_eq_false_iff_ne]; omega
 have b0 := below_alloc (w := w) (.cells #[.slice na nm.length nc, .int .i64 49, .int .i64 tt, .int .i64 0, .slice ta to.length tc, .slice xa tx.length xc, .slice ia nu.length ic] 59)
 have K0 := hide (heap_alloc_new w (.cells #[.slice na nm.length nc, .int .i64 49, .int .i64 tt, .int .i64 0, .slice ta to.length tc, .slice xa tx.length xc, .slice ia nu.length ic] 59))
 have H0 := hide (h.below b0)
 clear h
 go_enter Tryz.func90, Tryz.ntmps90
 go_wp2_with fail
 generalize w.alloc (.cells #[.slice na nm.length nc, .int .i64 49, .int .i64 tt, .int .i64 0, .slice ta to.length tc, .slice xa tx.length xc, .slice ia nu.length ic] 59) = W at *
 refine (l3named_any 49 _ rfl).mono ?_
 rw [named_49]
 rintro e w1 ⟨rfl, rfl⟩
 obtain ⟨d0, d1, d2, d3, d4, d5, d6⟩ := cells7 (unhide K0)
 go_wp2_with fail
 go_ret
 exact ⟨rfl, b0⟩

set_option maxHeartbeats 400000 in
set_option maxRecDepth 100000 in
theorem l3_49_2 {na : Option Addr} {nc : Nat} {ta : Option Addr} {tc : Nat} {xa : Option Addr} {xc : Nat} {ia : Option Addr} {ic : Nat} {nm to : List (List Int)} {tx nu : List Int} {tt ad : Int} {w : World} (h : HasR w (.slice na nm.length nc) (.slice ta to.length tc) (.slice xa tx.length xc) (.slice ia nu.length ic) ⟨nm, 49, tt, ad, to, tx, nu⟩) (hA : ad = 0) (hB : to.length = 0) (hC : 40 < tx.length) :
  Calls Tryz.prog 90 #[.agg #[.slice na nm.length nc, .int .i64 49, .int .i64 tt, .int .i64 ad, .slice ta to.length tc, .slice xa tx.length xc, .slice ia nu.length ic]] w fun e w' => e = .returned (.bool false) ∧ Below w.heap.size w w' := by
 obtain rfl := hA
 obtain rfl := nil_of hB
 clear hB
 have ehC : (40 : Int) < tx.length := by omega
 have fhC : decide ((tx.length : Int) ≤ 40) = false := decide_eq_false (by omega)
 simp only [List.length_nil] at *
 have b0 := below_alloc (w := w) (.cells #[.slice na nm.length nc, .int .i64 49, .int .i64 tt, .int .i64 0, .slice ta 0 tc, .slice xa tx.length xc, .slice ia nu.length ic] 59)
 have K0 := hide (heap_alloc_new w (.cells #[.slice na nm.length nc, .int .i64 49, .int .i64 tt, .int .i64 0, .slice ta 0 tc, .slice xa tx.length xc, .slice ia nu.length ic] 59))
 have H0 := hide (h.below b0)
 clear h
 go_enter Tryz.func90, Tryz.ntmps90
 go_wp2_with fail
 generalize w.alloc (.cells #[.slice na nm.length nc, .int .i64 49, .int .i64 tt, .int .i64 0, .slice ta 0 tc, .slice xa tx.length xc, .slice ia nu.length ic] 59) = W at *
 refine (l3named_any 49 _ rfl).mono ?_
 rw [named_49]
 rintro e w1 ⟨rfl, rfl⟩
 obtain ⟨d0, d1, d2, d3, d4, d5, d6⟩ := cells7 (unhide K0)
 go_wp2_with fail
 refine (l3texted_any 49 _ rfl).mono ?_
 rw [texted_49]
 rintro e w2 ⟨rfl, rfl⟩
 go_wp2_with fail
 go_ret
 exact ⟨rfl, b0⟩

set_option maxHeartbeats 400000 in
set_option maxRecDepth 100000 in
theorem l3_49_3 {na : Option Addr} {nc : Nat} {ta : Option Addr} {tc : Nat} {xa : Option Addr} {xc : Nat} {ia : Option Addr} {ic : Nat} {nm to : List (List Int)} {tx nu : List Int} {tt ad : Int} {w : World} (h : HasR w (.slice na nm.length nc) (.slice ta to.length tc) (.slice xa tx.length xc) (.slice ia nu.length ic) ⟨nm, 49, tt, ad, to, tx, nu⟩) (hA : ad = 0) (hB : to.length = 0) (hC : tx.length ≤ 40) (hD : nu.length ≠ 0) :
  Calls Tryz.prog 90 #[.agg #[.slice na nm.length nc, .int .i64 49, .int .i64 tt, .int .i64 ad, .slice ta to.length tc, .slice xa tx.length xc, .slice ia nu.length ic]] w fun e w' => e = .returned (.bool false) ∧ Below w.heap.size w w' := by
 obtain rfl := hA
 obtain rfl := nil_of hB
 clear hB
 have ehC : (tx.length : Int) ≤ 40 := by omega
 have fhC : decide ((tx.length : Int) ≤ 40) = true := decide_eq_true (by omega)
 have ehD : ((nu.length : Int) == 0) = false := by rw [beq_eq_false_iff_ne]; omega
 simp only [List.length_nil] at *
 have b0 := below_alloc (w := w) (.cells #[.slice na nm.length nc, .int .i64 49, .int .i64 tt, .int .i64 0, .slice ta 0 tc, .slice xa tx.length xc, .slice ia nu.length ic] 59)
 have K0 := hide (heap_alloc_new w (.cells #[.slice na nm.length nc, .int .i64 49, .int .i64 tt, .int .i64 0, .slice ta 0 tc, .slice xa tx.length xc, .slice ia nu.length ic] 59))
 have H0 := hide (h.below b0)
 clear h
 go_enter Tryz.func90, Tryz.ntmps90
 go_wp2_with fail
 generalize w.alloc (.cells #[.slice na nm.length nc, .int .i64 49, .int .i64 tt, .int .i64 0, .slice ta 0 tc, .slice xa tx.length xc, .slice ia nu.length ic] 59) = W at *
 refine (l3named_any 49 _ rfl).mono ?_
 rw [named_49]
 rintro e w1 ⟨rfl, rfl⟩
 obtain ⟨d0, d1, d2, d3, d4, d5, d6⟩ := cells7 (unhide K0)
 go_wp2_with fail
 refine (l3texted_any 49 _ rfl).mono ?_
 rw [texted_49]
 rintro e w2 ⟨rfl, rfl⟩
 go_wp2_with fail
 go_ret
 exact ⟨rfl, b0⟩

set_option maxHeartbeats 400000 in
set_option maxRecDepth 100000 in
theorem l3_49_4 {na : Option Addr} {nc : Nat} {ta : Option Addr} {tc : Nat} {xa : Option Addr} {xc : Nat} {ia : Option Addr} {ic : Nat} {nm to : List (List Int)} {tx nu : List Int} {tt ad : Int} {w : World} (h : HasR w (.slice na nm.length nc) (.slice ta to.length tc) (.slice xa tx.length xc) (.slice ia nu.length ic) ⟨nm, 49, tt, ad, to, tx, nu⟩) (hA : ad = 0) (hB : to.length = 0) (hC : tx.length ≤ 40) (hD : nu.length = 0) :
  Calls Tryz.prog 90 #[.agg #[.slice na nm.length nc, .int .i64 49, .int .i64 tt, .int .i64 ad, .slice ta to.length tc, .slice xa tx.length xc, .slice ia nu.length ic]] w fun e w' => e = .returned (.bool true) ∧ Below w.heap.size w w' := by
 obtain rfl := hA
 obtain rfl := nil_of hB
 clear hB
 have ehC : (tx.length : Int) ≤ 40 := by omega
 have fhC : decide ((tx.length : Int) ≤ 40) = true := decide_eq_true (by omega)
 obtain rfl := nil_of hD
 clear hD
 simp only [List.length_nil] at *
 have b0 := below_alloc (w := w) (.cells #[.slice na nm.length nc, .int .i64 49, .int .i64 tt, .int .i64 0, .slice ta 0 tc, .slice xa tx.length xc, .slice ia 0 ic] 59)
 have K0 := hide (heap_alloc_new w (.cells #[.slice na nm.length nc, .int .i64 49, .int .i64 tt, .int .i64 0, .slice ta 0 tc, .slice xa tx.length xc, .slice ia 0 ic] 59))
 have H0 := hide (h.below b0)
 clear h
 go_enter Tryz.func90, Tryz.ntmps90
 go_wp2_with fail
 generalize w.alloc (.cells #[.slice na nm.length nc, .int .i64 49, .int .i64 tt, .int .i64 0, .slice ta 0 tc, .slice xa tx.length xc, .slice ia 0 ic] 59) = W at *
 refine (l3named_any 49 _ rfl).mono ?_
 rw [named_49]
 rintro e w1 ⟨rfl, rfl⟩
 obtain ⟨d0, d1, d2, d3, d4, d5, d6⟩ := cells7 (unhide K0)
 go_wp2_with fail
 refine (l3texted_any 49 _ rfl).mono ?_
 rw [texted_49]
 rintro e w2 ⟨rfl, rfl⟩
 go_wp2_with fail
 go_ret
 exact ⟨rfl, b0⟩

end Go.Proofs.YtfgcmjpkgdjcfaaGreat

namespace Go.Proofs.YtfgcmjpkgdjcfaaGreat
open Go.RowKit
set_option linter.unusedVariables false

set_option maxHeartbeats 1000000 in
theorem l3data_has {vn vt vx vi : Value} {r : Rec} {w : World} (h : HasR w vn vt vx vi r) (ht : typeOk r.type = true) :
  Calls Tryz.prog 90 #[.agg #[vn, .int .i64 r.type, .int .i64 r.ttl, .int .i64 r.addr, vt, vx, vi]] w fun e w' => e = .returned (.bool (dataOk r)) ∧ Below w.heap.size w w' := by
 obtain ⟨na, nc, rfl, _⟩ := h.name.form
 obtain ⟨ta, tc, rfl, _⟩ := h.to.form
 obtain ⟨xa, xc, rfl, _⟩ := h.text.form
 obtain ⟨ia, ic, rfl, _⟩ := h.nums.form
 obtain ⟨nm, ty, tt, ad, to, tx, nu⟩ := r
 simp only at *
 rcases type_cases ty with rfl | rfl | rfl | rfl | rfl | rfl | rfl | h0
 ·skip
  by_cases hA : ad < 0
  ·have e : dataOk ⟨nm, 1, tt, ad, to, tx, nu⟩ = false := by simp [dataOk, named_1, texted_1]; first | done | omega | (simp [*]; done) | (simp [*]; omega) | (intros; omega) | (simp_all; done) | (simp_all; omega)
   rw [e]
   exact l3_1_0 h hA
  by_cases hA3 : 4294967295 < ad
  ·have hA0 := hA
   have e : dataOk ⟨nm, 1, tt, ad, to, tx, nu⟩ = false := by simp [dataOk, named_1, texted_1]; first | done | omega | (simp [*]; done) | (simp [*]; omega) | (intros; omega) | (simp_all; done) | (simp_all; omega)
   rw [e]
   exact l3_1_1 h hA3 hA0
  replace hA : 0 ≤ ad := by omega
  have hA2 : ad ≤ 4294967295 := by omega
  by_cases hB : to.length ≠ 0
  ·have e : dataOk ⟨nm, 1, tt, ad, to, tx, nu⟩ = false := by simp [dataOk, named_1, texted_1]; first | done | omega | (simp [*]; done) | (simp [*]; omega) | (intros; omega) | (simp_all; done) | (simp_all; omega)
   rw [e]
   exact l3_1_2 h hA hA2 hB
  replace hB : to.length = 0 := by omega
  by_cases hC : tx.length ≠ 0
  ·have e : dataOk ⟨nm, 1, tt, ad, to, tx, nu⟩ = false := by simp [dataOk, named_1, texted_1]; first | done | omega | (simp [*]; done) | (simp [*]; omega) | (intros; omega) | (simp_all; done) | (simp_all; omega)
   rw [e]
   exact l3_1_3 h hA hA2 hB hC
  replace hC : tx.length = 0 := by omega
  by_cases hD : nu.length ≠ 0
  ·have e : dataOk ⟨nm, 1, tt, ad, to, tx, nu⟩ = false := by simp [dataOk, named_1, texted_1]; first | done | omega | (simp [*]; done) | (simp [*]; omega) | (intros; omega) | (simp_all; done) | (simp_all; omega)
   rw [e]
   exact l3_1_4 h hA hA2 hB hC hD
  replace hD : nu.length = 0 := by omega
  ·have e : dataOk ⟨nm, 1, tt, ad, to, tx, nu⟩ = true := by simp [dataOk, named_1, texted_1]; first | done | omega | (simp [*]; done) | (simp [*]; omega) | (intros; omega) | (simp_all; done) | (simp_all; omega)
   rw [e]
   exact l3_1_5 h hA hA2 hB hC hD
 ·skip
  by_cases hA : ad ≠ 0
  ·have e : dataOk ⟨nm, 2, tt, ad, to, tx, nu⟩ = false := by simp [dataOk, named_2, texted_2]; first | done | omega | (simp [*]; done) | (simp [*]; omega) | (intros; omega) | (simp_all; done) | (simp_all; omega)
   rw [e]
   exact l3_2_0 h hA
  replace hA : ad = 0 := by omega
  cases hB : nameOk to with
  | false =>
    have e : dataOk ⟨nm, 2, tt, ad, to, tx, nu⟩ = false := by simp [dataOk, named_2, texted_2]; first | done | omega | (simp [*]; done) | (simp [*]; omega) | (intros; omega) | (simp_all; done) | (simp_all; omega)
    rw [e]
    exact l3_2_1 h hA hB
  | true =>
   by_cases hC : tx.length ≠ 0
   ·have e : dataOk ⟨nm, 2, tt, ad, to, tx, nu⟩ = false := by simp [dataOk, named_2, texted_2]; first | done | omega | (simp [*]; done) | (simp [*]; omega) | (intros; omega) | (simp_all; done) | (simp_all; omega)
    rw [e]
    exact l3_2_2 h hA hB hC
   replace hC : tx.length = 0 := by omega
   by_cases hD : nu.length ≠ 0
   ·have e : dataOk ⟨nm, 2, tt, ad, to, tx, nu⟩ = false := by simp [dataOk, named_2, texted_2]; first | done | omega | (simp [*]; done) | (simp [*]; omega) | (intros; omega) | (simp_all; done) | (simp_all; omega)
    rw [e]
    exact l3_2_3 h hA hB hC hD
   replace hD : nu.length = 0 := by omega
   ·have e : dataOk ⟨nm, 2, tt, ad, to, tx, nu⟩ = true := by simp [dataOk, named_2, texted_2]; first | done | omega | (simp [*]; done) | (simp [*]; omega) | (intros; omega) | (simp_all; done) | (simp_all; omega)
    rw [e]
    exact l3_2_4 h hA hB hC hD
 ·skip
  by_cases hA : ad ≠ 0
  ·have e : dataOk ⟨nm, 5, tt, ad, to, tx, nu⟩ = false := by simp [dataOk, named_5, texted_5]; first | done | omega | (simp [*]; done) | (simp [*]; omega) | (intros; omega) | (simp_all; done) | (simp_all; omega)
   rw [e]
   exact l3_5_0 h hA
  replace hA : ad = 0 := by omega
  cases hB : nameOk to with
  | false =>
    have e : dataOk ⟨nm, 5, tt, ad, to, tx, nu⟩ = false := by simp [dataOk, named_5, texted_5]; first | done | omega | (simp [*]; done) | (simp [*]; omega) | (intros; omega) | (simp_all; done) | (simp_all; omega)
    rw [e]
    exact l3_5_1 h hA hB
  | true =>
   by_cases hC : tx.length ≠ 0
   ·have e : dataOk ⟨nm, 5, tt, ad, to, tx, nu⟩ = false := by simp [dataOk, named_5, texted_5]; first | done | omega | (simp [*]; done) | (simp [*]; omega) | (intros; omega) | (simp_all; done) | (simp_all; omega)
    rw [e]
    exact l3_5_2 h hA hB hC
   replace hC : tx.length = 0 := by omega
   by_cases hD : nu.length ≠ 0
   ·have e : dataOk ⟨nm, 5, tt, ad, to, tx, nu⟩ = false := by simp [dataOk, named_5, texted_5]; first | done | omega | (simp [*]; done) | (simp [*]; omega) | (intros; omega) | (simp_all; done) | (simp_all; omega)
    rw [e]
    exact l3_5_3 h hA hB hC hD
   replace hD : nu.length = 0 := by omega
   ·have e : dataOk ⟨nm, 5, tt, ad, to, tx, nu⟩ = true := by simp [dataOk, named_5, texted_5]; first | done | omega | (simp [*]; done) | (simp [*]; omega) | (intros; omega) | (simp_all; done) | (simp_all; omega)
    rw [e]
    exact l3_5_4 h hA hB hC hD
 ·skip
  by_cases hA : ad ≠ 0
  ·have e : dataOk ⟨nm, 6, tt, ad, to, tx, nu⟩ = false := by simp [dataOk, named_6, texted_6]; first | done | omega | (simp [*]; done) | (simp [*]; omega) | (intros; omega) | (simp_all; done) | (simp_all; omega)
   rw [e]
   exact l3_6_0 h hA
  replace hA : ad = 0 := by omega
  cases hB : nameOk to with
  | false =>
    have e : dataOk ⟨nm, 6, tt, ad, to, tx, nu⟩ = false := by simp [dataOk, named_6, texted_6]; first | done | omega | (simp [*]; done) | (simp [*]; omega) | (intros; omega) | (simp_all; done) | (simp_all; omega)
    rw [e]
    exact l3_6_1 h hA hB
  | true =>
   by_cases hC : tx.length ≠ 0
   ·have e : dataOk ⟨nm, 6, tt, ad, to, tx, nu⟩ = false := by simp [dataOk, named_6, texted_6]; first | done | omega | (simp [*]; done) | (simp [*]; omega) | (intros; omega) | (simp_all; done) | (simp_all; omega)
    rw [e]
    exact l3_6_2 h hA hB hC
   replace hC : tx.length = 0 := by omega
   by_cases hD : nu.length ≠ 2
   ·have e : dataOk ⟨nm, 6, tt, ad, to, tx, nu⟩ = false := by simp [dataOk, named_6, texted_6]; first | done | omega | (simp [*]; done) | (simp [*]; omega) | (intros; omega) | (simp_all; done) | (simp_all; omega)
    rw [e]
    exact l3_6_3 h hA hB hC hD
   replace hD : nu.length = 2 := by omega
   by_cases hE : nu.getD 0 0 < 0
   ·have e : dataOk ⟨nm, 6, tt, ad, to, tx, nu⟩ = false := by simp [dataOk, named_6, texted_6]; first | done | omega | (simp [*]; done) | (simp [*]; omega) | (intros; omega) | (simp_all; done) | (simp_all; omega)
    rw [e]
    exact l3_6_4 h hA hB hC hD hE
   replace hE : 0 ≤ nu.getD 0 0 := by omega
   by_cases hF : 4294967295 < nu.getD 0 0
   ·have e : dataOk ⟨nm, 6, tt, ad, to, tx, nu⟩ = false := by simp [dataOk, named_6, texted_6]; first | done | omega | (simp [*]; done) | (simp [*]; omega) | (intros; omega) | (simp_all; done) | (simp_all; omega)
    rw [e]
    exact l3_6_5 h hA hB hC hD hE hF
   replace hF : nu.getD 0 0 ≤ 4294967295 := by omega
   by_cases hG : nu.getD 1 0 < 0
   ·have e : dataOk ⟨nm, 6, tt, ad, to, tx, nu⟩ = false := by simp [dataOk, named_6, texted_6]; first | done | omega | (simp [*]; done) | (simp [*]; omega) | (intros; omega) | (simp_all; done) | (simp_all; omega)
    rw [e]
    exact l3_6_6 h hA hB hC hD hE hF hG
   replace hG : 0 ≤ nu.getD 1 0 := by omega
   by_cases hH : 100000 < nu.getD 1 0
   ·have e : dataOk ⟨nm, 6, tt, ad, to, tx, nu⟩ = false := by simp [dataOk, named_6, texted_6]; first | done | omega | (simp [*]; done) | (simp [*]; omega) | (intros; omega) | (simp_all; done) | (simp_all; omega)
    rw [e]
    exact l3_6_7 h hA hB hC hD hE hF hG hH
   replace hH : nu.getD 1 0 ≤ 100000 := by omega
   ·have e : dataOk ⟨nm, 6, tt, ad, to, tx, nu⟩ = true := by simp [dataOk, named_6, texted_6]; first | done | omega | (simp [*]; done) | (simp [*]; omega) | (intros; omega) | (simp_all; done) | (simp_all; omega)
    rw [e]
    exact l3_6_8 h hA hB hC hD hE hF hG hH
 ·skip
  by_cases hA : ad ≠ 0
  ·have e : dataOk ⟨nm, 12, tt, ad, to, tx, nu⟩ = false := by simp [dataOk, named_12, texted_12]; first | done | omega | (simp [*]; done) | (simp [*]; omega) | (intros; omega) | (simp_all; done) | (simp_all; omega)
   rw [e]
   exact l3_12_0 h hA
  replace hA : ad = 0 := by omega
  cases hB : nameOk to with
  | false =>
    have e : dataOk ⟨nm, 12, tt, ad, to, tx, nu⟩ = false := by simp [dataOk, named_12, texted_12]; first | done | omega | (simp [*]; done) | (simp [*]; omega) | (intros; omega) | (simp_all; done) | (simp_all; omega)
    rw [e]
    exact l3_12_1 h hA hB
  | true =>
   by_cases hC : tx.length ≠ 0
   ·have e : dataOk ⟨nm, 12, tt, ad, to, tx, nu⟩ = false := by simp [dataOk, named_12, texted_12]; first | done | omega | (simp [*]; done) | (simp [*]; omega) | (intros; omega) | (simp_all; done) | (simp_all; omega)
    rw [e]
    exact l3_12_2 h hA hB hC
   replace hC : tx.length = 0 := by omega
   by_cases hD : nu.length ≠ 0
   ·have e : dataOk ⟨nm, 12, tt, ad, to, tx, nu⟩ = false := by simp [dataOk, named_12, texted_12]; first | done | omega | (simp [*]; done) | (simp [*]; omega) | (intros; omega) | (simp_all; done) | (simp_all; omega)
    rw [e]
    exact l3_12_3 h hA hB hC hD
   replace hD : nu.length = 0 := by omega
   ·have e : dataOk ⟨nm, 12, tt, ad, to, tx, nu⟩ = true := by simp [dataOk, named_12, texted_12]; first | done | omega | (simp [*]; done) | (simp [*]; omega) | (intros; omega) | (simp_all; done) | (simp_all; omega)
    rw [e]
    exact l3_12_4 h hA hB hC hD
 ·skip
  by_cases hA : ad ≠ 0
  ·have e : dataOk ⟨nm, 16, tt, ad, to, tx, nu⟩ = false := by simp [dataOk, named_16, texted_16]; first | done | omega | (simp [*]; done) | (simp [*]; omega) | (intros; omega) | (simp_all; done) | (simp_all; omega)
   rw [e]
   exact l3_16_0 h hA
  replace hA : ad = 0 := by omega
  by_cases hB : to.length ≠ 0
  ·have e : dataOk ⟨nm, 16, tt, ad, to, tx, nu⟩ = false := by simp [dataOk, named_16, texted_16]; first | done | omega | (simp [*]; done) | (simp [*]; omega) | (intros; omega) | (simp_all; done) | (simp_all; omega)
   rw [e]
   exact l3_16_1 h hA hB
  replace hB : to.length = 0 := by omega
  by_cases hC : 40 < tx.length
  ·have e : dataOk ⟨nm, 16, tt, ad, to, tx, nu⟩ = false := by simp [dataOk, named_16, texted_16]; first | done | omega | (simp [*]; done) | (simp [*]; omega) | (intros; omega) | (simp_all; done) | (simp_all; omega)
   rw [e]
   exact l3_16_2 h hA hB hC
  replace hC : tx.length ≤ 40 := by omega
  by_cases hD : nu.length ≠ 0
  ·have e : dataOk ⟨nm, 16, tt, ad, to, tx, nu⟩ = false := by simp [dataOk, named_16, texted_16]; first | done | omega | (simp [*]; done) | (simp [*]; omega) | (intros; omega) | (simp_all; done) | (simp_all; omega)
   rw [e]
   exact l3_16_3 h hA hB hC hD
  replace hD : nu.length = 0 := by omega
  ·have e : dataOk ⟨nm, 16, tt, ad, to, tx, nu⟩ = true := by simp [dataOk, named_16, texted_16]; first | done | omega | (simp [*]; done) | (simp [*]; omega) | (intros; omega) | (simp_all; done) | (simp_all; omega)
   rw [e]
   exact l3_16_4 h hA hB hC hD
 ·skip
  by_cases hA : ad ≠ 0
  ·have e : dataOk ⟨nm, 49, tt, ad, to, tx, nu⟩ = false := by simp [dataOk, named_49, texted_49]; first | done | omega | (simp [*]; done) | (simp [*]; omega) | (intros; omega) | (simp_all; done) | (simp_all; omega)
   rw [e]
   exact l3_49_0 h hA
  replace hA : ad = 0 := by omega
  by_cases hB : to.length ≠ 0
  ·have e : dataOk ⟨nm, 49, tt, ad, to, tx, nu⟩ = false := by simp [dataOk, named_49, texted_49]; first | done | omega | (simp [*]; done) | (simp [*]; omega) | (intros; omega) | (simp_all; done) | (simp_all; omega)
   rw [e]
   exact l3_49_1 h hA hB
  replace hB : to.length = 0 := by omega
  by_cases hC : 40 < tx.length
  ·have e : dataOk ⟨nm, 49, tt, ad, to, tx, nu⟩ = false := by simp [dataOk, named_49, texted_49]; first | done | omega | (simp [*]; done) | (simp [*]; omega) | (intros; omega) | (simp_all; done) | (simp_all; omega)
   rw [e]
   exact l3_49_2 h hA hB hC
  replace hC : tx.length ≤ 40 := by omega
  by_cases hD : nu.length ≠ 0
  ·have e : dataOk ⟨nm, 49, tt, ad, to, tx, nu⟩ = false := by simp [dataOk, named_49, texted_49]; first | done | omega | (simp [*]; done) | (simp [*]; omega) | (intros; omega) | (simp_all; done) | (simp_all; omega)
   rw [e]
   exact l3_49_3 h hA hB hC hD
  replace hD : nu.length = 0 := by omega
  ·have e : dataOk ⟨nm, 49, tt, ad, to, tx, nu⟩ = true := by simp [dataOk, named_49, texted_49]; first | done | omega | (simp [*]; done) | (simp [*]; omega) | (intros; omega) | (simp_all; done) | (simp_all; omega)
   rw [e]
   exact l3_49_4 h hA hB hC hD
 ·rw [ht] at h0; cases h0

set_option maxHeartbeats 800000 in
set_option maxRecDepth 100000 in
theorem specRrOk_has {vn vt vx vi : Value} {r : Rec} {w : World} (h : HasR w vn vt vx vi r) :
  Calls Tryz.prog 54 #[.agg #[vn, .int .i64 r.type, .int .i64 r.ttl, .int .i64 r.addr, vt, vx, vi]] w fun e w' => e = .returned (.bool (rrOk r)) ∧ Below w.heap.size w w' := by
 obtain ⟨na, nc, rfl, _⟩ := h.name.form
 obtain ⟨ta, tc, rfl, _⟩ := h.to.form
 obtain ⟨xa, xc, rfl, _⟩ := h.text.form
 obtain ⟨ia, ic, rfl, _⟩ := h.nums.form
 have b0 := below_alloc (w := w) (.cells #[.slice na r.name.length nc, .int .i64 r.type, .int .i64 r.ttl, .int .i64 r.addr, .slice ta r.to.length tc, .slice xa r.text.length xc, .slice ia r.nums.length ic] 59)
 have K0 := hide (heap_alloc_new w (.cells #[.slice na r.name.length nc, .int .i64 r.type, .int .i64 r.ttl, .int .i64 r.addr, .slice ta r.to.length tc, .slice xa r.text.length xc, .slice ia r.nums.length ic] 59))
 have H0 := hide (h.below b0)
 clear h
 have LD := hide (fun (w : World) (vn vt vx vi : Value) (h : HasR w vn vt vx vi r) (ht : typeOk r.type = true) => l3data_has h ht)
 unfold rrOk
 have SN := hide (fun (w : World) (v : Value) (h : HasL w v r.name) => specNameOk_has h)
 have ST := hide (specTypeOk_any r.type)
 generalize dataOk r = D at *
 generalize hN : nameOk r.name = N at *
 generalize hT : typeOk r.type = T at *
 clear hN
 cases N with
 | false =>
  rw [Bool.false_and]
  go_enter Tryz.func54, Tryz.ntmps54
  go_wp2_with fail
  generalize w.alloc (.cells #[.slice na r.name.length nc, .int .i64 r.type, .int .i64 r.ttl, .int .i64 r.addr, .slice ta r.to.length tc, .slice xa r.text.length xc, .slice ia r.nums.length ic] 59) = W at *
  refine (unhide SN _ _ (unhide H0).name).mono ?_
  rintro e w1 ⟨rfl, b1⟩
  go_wp2_with fail
  go_ret
  exact ⟨rfl, below_next b0 b1⟩
 | true =>
  rw [Bool.true_and]
  cases T with
  | false =>
   rw [Bool.false_and]
   go_enter Tryz.func54, Tryz.ntmps54
   go_wp2_with fail
   generalize w.alloc (.cells #[.slice na r.name.length nc, .int .i64 r.type, .int .i64 r.ttl, .int .i64 r.addr, .slice ta r.to.length tc, .slice xa r.text.length xc, .slice ia r.nums.length ic] 59) = W at *
   refine (unhide SN _ _ (unhide H0).name).mono ?_
   rintro e w1 ⟨rfl, b1⟩
   have K1 := hide (block_kept b1 (unhide K0))
   obtain ⟨d0, d1, d2, d3, d4, d5, d6⟩ := cells7 (unhide K1)
   go_wp2_with fail
   refine (unhide ST _).mono ?_
   rintro e w2 ⟨rfl, rfl⟩
   go_wp2_with fail
   go_ret
   exact ⟨rfl, below_next b0 b1⟩
  | true =>
   rw [Bool.true_and]
   by_cases hl : r.ttl < 0
   ·rw [decide_eq_false (by omega), Bool.false_and]
    have hl0 : decide (0 ≤ r.ttl) = false := decide_eq_false (by omega)
    go_enter Tryz.func54, Tryz.ntmps54
    go_wp2_with fail
    generalize w.alloc (.cells #[.slice na r.name.length nc, .int .i64 r.type, .int .i64 r.ttl, .int .i64 r.addr, .slice ta r.to.length tc, .slice xa r.text.length xc, .slice ia r.nums.length ic] 59) = W at *
    refine (unhide SN _ _ (unhide H0).name).mono ?_
    rintro e w1 ⟨rfl, b1⟩
    have K1 := hide (block_kept b1 (unhide K0))
    obtain ⟨d0, d1, d2, d3, d4, d5, d6⟩ := cells7 (unhide K1)
    go_wp2_with fail
    refine (unhide ST _).mono ?_
    rintro e w2 ⟨rfl, rfl⟩
    go_wp2_with fail
    go_ret
    exact ⟨rfl, below_next b0 b1⟩
   by_cases hh : 100000 < r.ttl
   ·rw [decide_eq_false (by omega), Bool.false_and]
    have hl0 : decide (r.ttl ≤ 100000) = false := decide_eq_false (by omega)
    go_enter Tryz.func54, Tryz.ntmps54
    go_wp2_with fail
    generalize w.alloc (.cells #[.slice na r.name.length nc, .int .i64 r.type, .int .i64 r.ttl, .int .i64 r.addr, .slice ta r.to.length tc, .slice xa r.text.length xc, .slice ia r.nums.length ic] 59) = W at *
    refine (unhide SN _ _ (unhide H0).name).mono ?_
    rintro e w1 ⟨rfl, b1⟩
    have K1 := hide (block_kept b1 (unhide K0))
    obtain ⟨d0, d1, d2, d3, d4, d5, d6⟩ := cells7 (unhide K1)
    go_wp2_with fail
    refine (unhide ST _).mono ?_
    rintro e w2 ⟨rfl, rfl⟩
    go_wp2_with fail
    go_ret
    exact ⟨rfl, below_next b0 b1⟩
   rw [decide_eq_true (by omega), Bool.true_and]
   have hl0 : decide (r.ttl ≤ 100000) = true := decide_eq_true (by omega)
   go_enter Tryz.func54, Tryz.ntmps54
   go_wp2_with fail
   generalize w.alloc (.cells #[.slice na r.name.length nc, .int .i64 r.type, .int .i64 r.ttl, .int .i64 r.addr, .slice ta r.to.length tc, .slice xa r.text.length xc, .slice ia r.nums.length ic] 59) = W at *
   refine (unhide SN _ _ (unhide H0).name).mono ?_
   rintro e w1 ⟨rfl, b1⟩
   have K1 := hide (block_kept b1 (unhide K0))
   have H1 := hide ((unhide H0).below b1)
   obtain ⟨d0, d1, d2, d3, d4, d5, d6⟩ := cells7 (unhide K1)
   go_wp2_with fail
   refine (unhide ST _).mono ?_
   rintro e w2 ⟨rfl, rfl⟩
   go_wp2_with fail
   refine (unhide LD _ _ _ _ _ (unhide H1) trivial).mono ?_
   rintro e w3 ⟨rfl, b3⟩
   go_wp2_with fail
   go_ret
   exact ⟨rfl, below_next (below_next b0 b1) b3⟩
end Go.Proofs.YtfgcmjpkgdjcfaaGreat
