/-
  Plain facts: the zone that a new one is made of, in memory. Contract of the program's Bump. Contracts of the specification's l2own: a name of its own with the same labels.
-/
import Derived.Test.YtdghbcjlahjjdaaGreatBumpG07
import Derived.Test.YtdghbcjlahjjdaaGreatBumpG26
import Derived.Test.YtdghbcjlahjjdaaGreatBumpG15
import Derived.Test.YtdghbcjlahjjdaaGreatBumpG25
import Derived.Test.YtdghbcjlahjjdaaGreatBumpG04
import Derived.Test.YtdghbcjlahjjdaaGreatBumpG05
namespace Go.Proofs.YtdghbcjlahjjdaaGreat
open Go.RowKit
set_option linter.unusedVariables false

theorem soa_has {W : World} {oa : Option Addr} {oc g q : Nat} {o : List (List Int)} {s : Int} {t ti : TypeId} (ho : HasL W (.slice oa o.length oc) o)
    (hg : W.heap[g]? = some (.cells #[.slice oa o.length oc, .int .i64 6, .int .i64 60, .int .i64 0, .slice oa o.length oc, .slice none 0 0, .slice (some ⟨q, 0, none⟩) 2 2] t)) (hq : W.heap[q]? = some (.cells #[.int .i64 s, .int .i64 60] ti)) :
    HasZ W (.slice oa o.length oc) (.slice (some ⟨g, 0, none⟩) 1 1) o [soaOf o s] := by
  refine ⟨ho, .inr ⟨g, 0, 1, rfl, block_lt hg, Nat.le_refl _, by decide, fun i hi => ?_⟩⟩
  obtain rfl : i = 0 := by simpa using hi
  refine ⟨.slice oa o.length oc, .slice oa o.length oc, .slice none 0 0, .slice (some ⟨q, 0, none⟩) 2 2, fun j u hj => ?_, ⟨ho, ho, .inl ⟨rfl, rfl⟩, .inr ⟨q, 0, 2, rfl, block_lt hq, Nat.le_refl _, by decide, fun i hi => ?_⟩⟩⟩
  · rw [block_cell hg]
    simpa [cellsR, soaOf] using hj
  · rw [block_cell hq, Nat.zero_add]
    match i, hi with
    | 0, _ => rfl
    | 1, _ => rfl
theorem sizeZ_of {o : List (List Int)} {rs : List Rec} (h : ShortN o ∧ (∀ i, i < rs.length → ShortR (rs.getD i recZ)) ∧ rs.length ≤ 60) : SizeZ 1048576 o rs :=
  ⟨Nat.le_trans h.1.1 (by decide), fun i hi => Nat.le_trans (h.1.2 i hi) (by decide), Nat.le_trans h.2.2 (by decide), fun i hi => size_of_short (h.2.1 i hi)⟩
theorem zoneNew_size (o : List (List Int)) (s : Int) : SizeZ 1048576 (zoneNewOf o s).1.1 (zoneNewOf o s).1.2 := sizeZ_of (zoneNewOf_size o s)
end Go.Proofs.YtdghbcjlahjjdaaGreat

namespace Go.Proofs.YtdghbcjlahjjdaaGreat
open Go.RowKit Go.Shelf
set_option linter.unusedVariables false

theorem bumpOf_size (o : List (List Int)) (rs : List Rec) : SizeZ 1048576 (bumpOf o rs).1.1 (bumpOf o rs).1.2 := sizeZ_of (bumpOf_short o rs)
theorem ownN_nilB (B E : Nat) (el eb : TypeId) (w : World) : OwnN B E el eb w (.slice none 0 0) [] := ⟨[], World.ownsRow_nil _ _ _ _, (fun i hi => absurd hi (by simp)), by simp, (fun q hq => by cases hq), by simp⟩
set_option maxHeartbeats 4000000 in
set_option maxRecDepth 100000 in
theorem implBump_own {vo vr : Value} {o : List (List Int)} {rs : List Rec} {w : World} (h : HasZ w vo vr o rs) :
    Calls Tryz.prog 37 #[.agg #[vo, vr]] w fun e w' => ∃ uo ur, e = .returned (.tuple #[.agg #[uo, ur], .bool (bumpOf o rs).2]) ∧ OwnZ w.heap.size w'.heap.size w' uo ur (bumpOf o rs).1.1 (bumpOf o rs).1.2 ∧ Below w.heap.size w w' := by
  obtain ⟨oa, oc, rfl, _⟩ := h.name.form
  obtain ⟨ra, rc, rfl, _⟩ := h.recs.form
  obtain ⟨hsz, k0, r0⟩ := box2 w (.cells #[.slice oa o.length oc, .slice ra rs.length rc] 55) #[.slice none 0 0, .slice none 0 0] 55
  have b0 := below2 w (.cells #[.slice oa o.length oc, .slice ra rs.length rc] 55) (.cells #[.slice none 0 0, .slice none 0 0] 55)
  have HH := hide (h.below b0)
  have ZO := hide (implZoneOk_has (h.below b0))
  have K0 := hide k0
  have R0 := hide r0
  have zz := block_lt r0
  generalize hRes : bumpOf o rs = Res
  have HQ0 := hide hRes
  clear hRes hsz k0 r0 h
  obtain ⟨c0, c1⟩ := cells2 (unhide K0)
  go_enter Tryz.func37, Tryz.ntmps37
  go_wp2_with fail
  clear c0 c1
  generalize (w.alloc (.cells #[.slice oa o.length oc, .slice ra rs.length rc] 55)).alloc (.cells #[.slice none 0 0, .slice none 0 0] 55) = W at *
  refine (unhide ZO).mono ?_
  rintro e w1 ⟨rfl, b1⟩
  have bb := below_next b0 b1
  have r1 := block_kept b1 (unhide R0)
  have K1 := hide (block_kept b1 (unhide K0))
  have H1 := hide ((unhide HH).below b1)
  have z1 := b1.size
  have hRes := unhide HQ0
  unfold bumpOf at hRes
  clear b0 b1 ZO K0 R0 HH HQ0
  cases hok : zoneOk o rs with
  | false =>
    rw [hok, if_neg (by simp)] at hRes
    subst hRes
    obtain ⟨d0, d1⟩ := cells2 r1
    obtain ⟨f0, f1⟩ := frozen2 r1
    have R1 := hide r1
    clear r1 hok
    go_wp2_with fail
    clear d0 d1 f0 f1
    have kf : ((w1.setCell ⟨w.heap.size + 1, 0, none⟩ (.slice none 0 0)).setCell ⟨w.heap.size + 1, 1, none⟩ (.slice none 0 0)).heap[w.heap.size + 1]? = some (.cells #[.slice none 0 0, .slice none 0 0] 55) := block_setAt (block_setAt (unhide R1) 0 _) 1 _
    have u5 := (outside_set w1 (w.heap.size + 1) 0 (.slice none 0 0)).trans (outside_set _ (w.heap.size + 1) 1 (.slice none 0 0))
    have z5 := u5.size
    refine bodyPost_ret (results_cell_tmp_row rfl _ _ (w.heap.size + 1) 55 #[.slice none 0 0, .slice none 0 0] (0, 0) _ rfl kf Tryz.underlying55 rfl (by kernel_rfl)) rfl ?_
    exact ⟨_, _, rfl, ⟨w.heap.size, Nat.le_refl _, by omega, ownN_nilB _ _ _ _ _, RowO.nil _ _ _ _ _ _ _⟩, u5.below bb (by omega)⟩
  | true =>
    rw [hok, if_pos rfl] at hRes
    subst hRes
    obtain ⟨s, x, y, hs, h6, hb6, hne, hnil, hxy, hx0, hx1, hbr⟩ := zone_bump hok
    have hsm : (s : Int) < rs.length := by omega
    have h60 := (zone_short hok).2.2
    have HC := hide (copyZone_own (unhide H1) (zone_short hok).1.1 (zone_short hok).1.2 (zone_short hok).2.1 (Nat.le_trans (zone_short hok).2.2 (by decide)))
    have HS := hide hs
    have HXY := hide hxy
    have SA := hide (fun (w : World) (uo ur : Value) (h : HasZ w uo ur o rs) => soaAt_has h hs h6 hb6 h60)
    have HBR : Hid (bumpRs rs = rs.set s ⟨(rs.getD s recZ).name, (rs.getD s recZ).type, (rs.getD s recZ).ttl, (rs.getD s recZ).addr, (rs.getD s recZ).to, (rs.getD s recZ).text, [nextS x, y]⟩) := by rw [hbr, bumpR_eq hxy]; exact hide rfl
    have hw1 : IntKind.i64.wrap (x + 1) = x + 1 := by
      have := wrap_small (x + 1).toNat (by omega)
      rwa [Int.toNat_of_nonneg (by omega)] at this
    have hw2 := and_round x hx0 hx1
    have R1 := hide r1
    obtain ⟨c0, c1⟩ := cells2 (unhide K1)
    clear r1 hok hs h6 hb6 hne hnil hxy hbr H1
    go_wp2_with fail
    clear c0 c1
    refine (unhide HC).mono ?_
    rintro e w2 ⟨uo, ur, rfl, ⟨t, t1, t2, oN, oR⟩, b2⟩
    obtain ⟨pa, pc, rfl, _⟩ := oN.hasL.form
    obtain ⟨g, q, cap, ic, rfl, cc, qB, qE, gl, ql, cx, fz, _⟩ := oR.bump (unhide HS) (unhide HXY)
    have ba := below_alloc (w := w2) (.cells #[.slice pa o.length pc, .slice (some ⟨g, 0, none⟩) rs.length cap] 55)
    have kz := heap_alloc_new w2 (.cells #[.slice pa o.length pc, .slice (some ⟨g, 0, none⟩) rs.length cap] 55)
    have bd := below_next ba (below_drew (w := w2.alloc (.cells #[.slice pa o.length pc, .slice (some ⟨g, 0, none⟩) rs.length cap] 55)))
    have z2 := b2.size
    have z3 := bd.size
    have zk : w2.heap.size < (w2.alloc (.cells #[.slice pa o.length pc, .slice (some ⟨g, 0, none⟩) rs.length cap] 55)).heap.size := block_lt kz
    have KZ := hide (block_kept (below_drew (w := w2.alloc (.cells #[.slice pa o.length pc, .slice (some ⟨g, 0, none⟩) rs.length cap] 55))) kz)
    have R3 := hide (block_kept bd (block_kept b2 (unhide R1)))
    have ON := hide (oN.below bd)
    have OR := hide (oR.below bd)
    replace bb := below_next (below_next bb b2) bd
    have CC := hide ((bd.cell (p := ⟨g, s * 7 + 6, none⟩) gl).trans cc)
    have CX := hide ((bd.cell (p := ⟨q, 0, none⟩) ql).trans cx)
    have gl3 : g < (w2.alloc (.cells #[.slice pa o.length pc, .slice (some ⟨g, 0, none⟩) rs.length cap] 55)).drew.heap.size := by omega
    have HZ := hide (⟨(unhide ON).hasL, (unhide OR).has⟩ : HasZ (w2.alloc (.cells #[.slice pa o.length pc, .slice (some ⟨g, 0, none⟩) rs.length cap] 55)).drew (.slice pa o.length pc) (.slice (some ⟨g, 0, none⟩) rs.length cap) o rs)
    clear oN oR b2 cc cx fz ba bd kz R1 HC K1
    go_wp2_with fail
    go_region_held3 (fun w' => (w'.cell? ⟨w2.heap.size, 0, none⟩ = some (.slice pa o.length pc) ∧ w'.cell? ⟨w2.heap.size, 1, none⟩ = some (.slice (some ⟨g, 0, none⟩) rs.length cap)) ∧ w'.cell? ⟨g, s * 7 + 6, none⟩ = some (.slice (some ⟨q, 0, none⟩) 2 ic))
      (first | exact ⟨cells2 (unhide KZ), unhide CC⟩ | exact ⟨cells2 (block_kept b4 (unhide KZ)), (b4.cell (p := ⟨g, s * 7 + 6, none⟩) gl3).trans (unhide CC)⟩)
      (first
      | (go_at_call 81; refine (unhide SA _ _ _ (unhide HZ)).mono ?_; rintro e w4 ⟨rfl, b4⟩))
    have CC4 := (b4.cell (p := ⟨g, s * 7 + 6, none⟩) gl3).trans (unhide CC)
    obtain ⟨g', q', cap', ic', ev, cc', _, _, gl', ql', cx', fz', hset⟩ := ((unhide OR).below b4).bump (unhide HS) (unhide HXY)
    simp only [Value.slice.injEq, Option.some.injEq, Addr.mk.injEq, and_true, true_and] at ev
    obtain ⟨rfl, rfl⟩ := ev
    rw [CC4] at cc'
    simp only [Option.some.injEq, Value.slice.injEq, Addr.mk.injEq, and_true, true_and] at cc'
    obtain ⟨rfl, rfl⟩ := cc'
    have row5 := hset (nextS x)
    rw [← unhide HBR] at row5
    have u5 := outside_set w4 q 0 (.int .i64 (nextS x))
    have z4 := b4.size
    have k4 := block_kept b4 (unhide KZ)
    have r4 := block_kept b4 (unhide R3)
    have KZ5 := hide (u5.kept k4 (by omega))
    have R5 := hide (u5.kept r4 (by omega))
    have ON5 := hide (((unhide ON).below b4).outside u5 (by omega))
    have bb5 := u5.below (below_next bb b4) (by omega)
    have ROW5 := hide row5
    have z5 := u5.size
    obtain ⟨d0, d1⟩ := cells2 k4
    obtain ⟨e0, e1⟩ := cells2 r4
    obtain ⟨f0, f1⟩ := frozen2 r4
    have hq1 : q ≠ w2.heap.size := by omega
    have hq2 : q ≠ w.heap.size + 1 := by omega
    have hq3 : w2.heap.size ≠ q := by omega
    have hq4 : w.heap.size + 1 ≠ q := by omega
    clear row5 hset u5 k4 r4 b4 KZ R3 ON OR HZ CC CX CC4 SA HBR
    go_wp2_with fail
    clear d0 d1 e0 e1 f0 f1 hq1 hq2 hq3 hq4 cx' fz' hw1 hw2
    generalize w4.setCell ⟨q, 0, none⟩ (.int .i64 (nextS x)) = w5 at *
    have hlen : (bumpRs rs).length = rs.length := bumpRs_length rs
    have kf : ((w5.setCell ⟨w.heap.size + 1, 0, none⟩ (.slice pa o.length pc)).setCell ⟨w.heap.size + 1, 1, none⟩ (.slice (some ⟨g, 0, none⟩) rs.length cap)).heap[w.heap.size + 1]? = some (.cells #[.slice pa o.length pc, .slice (some ⟨g, 0, none⟩) rs.length cap] 55) := block_setAt (block_setAt (unhide R5) 0 _) 1 _
    have u6 := (outside_set w5 (w.heap.size + 1) 0 (.slice pa o.length pc)).trans (outside_set _ (w.heap.size + 1) 1 (.slice (some ⟨g, 0, none⟩) rs.length cap))
    have z6 := u6.size
    refine bodyPost_ret (results_cell_tmp_row rfl _ _ (w.heap.size + 1) 55 #[.slice pa o.length pc, .slice (some ⟨g, 0, none⟩) rs.length cap] (0, 0) _ rfl kf Tryz.underlying55 rfl (by kernel_rfl)) rfl ?_
    exact ⟨_, _, rfl, ⟨t, by omega, by omega, ((unhide ON5).outside u6 (by omega)).wide (by omega) (Nat.le_refl _), ((unhide ROW5).outside u6 (by omega)).wide (Nat.le_refl _) (by omega)⟩, u6.below bb5 (by omega)⟩
end Go.Proofs.YtdghbcjlahjjdaaGreat

namespace Go.Proofs.YtdghbcjlahjjdaaGreat
open Go.RowKit
set_option linter.unusedVariables false

theorem info_sl2 : (Tryz.prog.info? 37).map (fun i => (i.zero, i.size, i.bytes)) = some (some (.slice none 0 0), 1, 24) := by kernel_rfl

set_option maxHeartbeats 2000000 in
set_option maxRecDepth 100000 in
theorem l2own_short {v : Value} {n : List (List Int)} {w : World} (h : HasL w v n) (hs : n.length ≤ 7) (hs2 : ∀ k, k < n.length → (n.getD k []).length ≤ 16) :
    Calls Tryz.prog 108 #[.agg #[v]] w fun e w' => ∃ v', e = .returned (.agg #[v']) ∧ OwnL w.heap.size 37 5 w' v' n ∧ Below w.heap.size w w' := by
  obtain ⟨a, cap, rfl, hcl, hcm⟩ := h.form
  unfold maxLen at hcm
  obtain ⟨hsz, h1, h2⟩ := box3 w (.cells #[.slice a n.length cap] 53) #[.slice none 0 0] #[.slice none 0 0] 53 53
  have bb : Below w.heap.size w (((w.alloc (.cells #[.slice a n.length cap] 53)).alloc (.cells #[.slice none 0 0] 53)).alloc (.cells #[.slice none 0 0] 53)) :=
    ((below_alloc _).alloc (below_alloc _).size _).alloc ((below_alloc _).alloc (below_alloc _).size _).size _
  have hbx : (((w.alloc (.cells #[.slice a n.length cap] 53)).alloc (.cells #[.slice none 0 0] 53)).alloc (.cells #[.slice none 0 0] 53)).heap[w.heap.size]? = some (.cells #[.slice a n.length cap] 53) :=
    block_kept (below_alloc _) (block_kept (below_alloc _) (heap_alloc_new w _))
  have H := hide h
  clear h
  have HS2 := hide hs2
  clear hs2
  generalize hn : n.length = m at *
  have HN := hide hn
  clear hn
  go_enter Tryz.func108, Tryz.ntmps108
  go_wp2
  generalize ((w.alloc (.cells #[.slice a m cap] 53)).alloc (.cells #[.slice none 0 0] 53)).alloc (.cells #[.slice none 0 0] 53) = W at *
  go_loopw [4] (fun i wr => ∃ (k : Nat) (o : Value), k ≤ m ∧ i = .int .i64 k ∧ wr.heap[w.heap.size]? = some (.cells #[.slice a m cap] 53) ∧ wr.heap[w.heap.size + 1]? = some (.cells #[.slice none 0 0] 53) ∧ wr.heap[w.heap.size + 1 + 1]? = some (.cells #[o] 53) ∧ OwnL (w.heap.size + 3) 37 5 wr o (n.take k) ∧ Below w.heap.size w wr) (fun i _ => m - (intOf i).toNat)
  case atStart => exact ⟨0, .slice none 0 0, Nat.zero_le _, rfl, hbx, h1, h2, ⟨[], by simpa using World.ownsRow_nil _ _ _ _, by simp, by simp⟩, bb⟩
  case round =>
    obtain ⟨k, o, hk, rfl, hr0, hr1, hr2, ho, hb⟩ := hrel
    have c0 := block_one hr0
    by_cases hlt : k < m
    · obtain ⟨b, off, u, rfl, hbl, hc, hu⟩ := ((unhide H).below hb).here (k := k) (by rw [unhide HN]; exact hlt)
      have hlk := unhide HS2 k hlt
      have htk := hide (show n.take (k + 1) = n.take k ++ [n.getD k []] by rw [List.take_succ_eq_append_getElem (by rw [unhide HN]; exact hlt)]; simp [show k < n.length by rw [unhide HN]; exact hlt])
      have htl : (n.take k).length = k := by rw [List.length_take, unhide HN]; omega
      generalize n.getD k [] = lab at *
      generalize n.take k = nk at *
      subst htl
      have HU := hide hu
      obtain ⟨ua, uc, rfl, _⟩ := hu.form
      clear hu
      obtain ⟨oa, oc, rfl, _⟩ := ho.hasL.form
      have hod := ho.below (below_drew (w := wr))
      clear ho
      have HO := hide hod
      obtain ⟨vs, hvs, hva, hvd⟩ := hod
      have hvl : vs.length = nk.length := by have := hvs.1; simpa using this
      have kd2 := block_kept (below_drew (w := wr)) hr2
      have kd1 := block_kept (below_drew (w := wr)) hr1
      have bd := below_next hb (below_drew (w := wr))
      have cod := block_one kd2
      have HUd := hide ((unhide HU).below below_drew)
      have HVS := hide hvs
      have HVA := hide hva
      have HVD := hide hvd
      have z3 := block_lt hr2
      have zb : w.heap.size + 3 ≤ wr.drew.heap.size := by show w.heap.size + 3 ≤ wr.heap.size; omega
      clear hva hvd hvs
      have kd0 := block_kept (below_drew (w := wr)) hr0
      have KD0 := hide kd0
      have KD2 := hide kd2
      have KD1 := hide kd1
      have cd0 := block_one kd0
      have cul : wr.drew.cell? ⟨b, off + nk.length, none⟩ = some (.slice ua lab.length uc) := hc
      have ca0 : ∀ o, (wr.alloc o).cell? ⟨w.heap.size, 0, none⟩ = some (.slice (some ⟨b, off, none⟩) m cap) := fun o => block_one (block_kept (below_alloc o) hr0)
      have ca2 : ∀ o, (wr.alloc o).cell? ⟨w.heap.size + 1 + 1, 0, none⟩ = some (.slice oa nk.length oc) := fun o => block_one (block_kept (below_alloc o) hr2)
      have cau : ∀ o, (wr.alloc o).cell? ⟨b, off + nk.length, none⟩ = some (.slice ua lab.length uc) := fun o => ((below_alloc o).cell (p := ⟨b, off + nk.length, none⟩) hbl).trans hc
      have HUA := hide (show ∀ o, Has (wr.drew.alloc o) (.slice ua lab.length uc) lab from fun o => (unhide HUd).below (below_alloc o))
      clear kd2 kd1 kd0
      go_wp2_with fail
      go_region_law (first
        | (refine step_append_bytes rfl (.tmp 14) (.tmp 19) 37 5 rfl Tryz.underlying37 info_u8 wr.drew.heap.size _ _ [] lab (by simp [Act.eval]) (by simp [Act.eval]) (own_lit wr.drew wr.drew.heap.size 5 [] (Nat.le_refl _) (by simp)) (unhide HUA _).reads (by simp only [List.length_nil]; omega) (below_alloc _).size ?_; intro u1 w1 ou g1; have b1 := lit_grown (w := wr.drew) g1; obtain ⟨u1a, u1c, rfl, _⟩ := ou.lies; have OU := hide ou; have B1 := hide b1; have co1 := block_one (block_kept b1 (unhide KD2)); have ca1 : ∀ o, (w1.alloc o).cell? ⟨w.heap.size + 1 + 1, 0, none⟩ = some (.slice oa nk.length oc) := (fun o => block_one (block_kept (below_alloc o) (block_kept b1 (unhide KD2)))); clear ou b1 g1)
        | (refine step_append_row rfl (.tmp 13) (.tmp 21) 45 37 rfl Tryz.underlying45 info_sl2 (w.heap.size + 3) (.slice oa nk.length oc) _ vs [.slice u1a lab.length u1c] (by simp [Act.eval]) (by simp [Act.eval]) (by rw [hvl]; exact World.ownsRow.alloc (ownsRow_kept' (unhide HVS) (unhide B1)) _) (one_more w1 37 _) (by intro y hy; simp at hy; subst hy; rfl) (by rw [hvl]; simp; omega) (by have := (unhide B1).size; simp; omega) ?_; intro v2 w2 o2 g2; obtain ⟨p2, k2, y2⟩ := snoc_step g2 o2 rfl (unhide HVS) (unhide HVA) (unhide HVD) ((unhide B1).alloc (unhide B1).size _) ((unhide OU).alloc _) zb (by decide) (block_kept (below_alloc _) (block_kept (unhide B1) (unhide KD2))) (by decide); obtain ⟨v2a, v2c, rfl, _⟩ := p2.hasL.form; have co2 := block_one k2; have fo2 := block_frozen k2 0))
      all_goals
        go_wp2_with fail
        have k1 := (y2.block (w.heap.size + 1) (by omega)).trans (unhide KD1)
        have k0 := (y2.block w.heap.size (by omega)).trans (unhide KD0)
        refine ⟨⟨nk.length + 1, _, by omega, by go_num, block_other k0 (by omega) 0 _, block_other k1 (by omega) 0 _, block_set k2 _, ?_, (bd.trans (y2.mono (by omega))).setCell (by show w.heap.size ≤ w.heap.size + 1 + 1; omega) _⟩, by simp [intOf]; omega⟩
        rw [unhide htk]
        simp only [List.length_append, List.length_cons, List.length_nil] at p2
        exact p2.kept (grown_setCell _ _ _) (by show w.heap.size + 1 + 1 < _; omega)
    · obtain rfl : k = m := by omega
      obtain ⟨oa, oc, rfl, _⟩ := ho.hasL.form
      have htk : n.take k = n := List.take_of_length_le (by rw [unhide HN]; omega)
      rw [htk] at ho
      have HLK := hide (show (n.take k).length = n.length by rw [htk])
      rw [unhide HLK] at hr2
      have HO := hide ho
      have c2 := block_one hr2
      have c1 := block_one hr1
      have f1 := block_frozen hr1 0
      have M1 := hide (block_set hr1 (.slice oa n.length oc))
      clear ho htk hr1 hr2 HLK
      go_wp2
      refine bodyPost_ret (results_cell_row rfl _ _ (w.heap.size + 1) 53 #[.slice oa n.length oc] (0, 0) _ rfl (unhide M1) Tryz.underlying53 rfl (by kernel_rfl)) rfl ?_
      exact ⟨_, rfl, ((unhide HO).kept (grown_setCell _ _ _) (by show w.heap.size + 1 < _; omega)).mono (by omega), hb.setCell (by show w.heap.size ≤ w.heap.size + 1; omega) _⟩
theorem l2own_has {v : Value} {n : List (List Int)} {w : World} (h : HasL w v n) (hs : n.length ≤ 6) (hs2 : ∀ k, k < n.length → (n.getD k []).length ≤ 15) :
    Calls Tryz.prog 108 #[.agg #[v]] w fun e w' => ∃ v', e = .returned (.agg #[v']) ∧ OwnL w.heap.size 37 5 w' v' n ∧ Below w.heap.size w w' :=
  l2own_short h (Nat.le_trans hs (by decide)) (fun k hk => Nat.le_trans (hs2 k hk) (by decide))
end Go.Proofs.YtdghbcjlahjjdaaGreat
