/-
  Plain facts: slots whose lists are owned in a stretch of blocks, wherever they lie in it. No program is named here. Contracts of the specification's l2own: a name of its own with the same labels. Plain facts: the store of a struct of seven cells, and steps of a region whose order is open. Plain facts: how long a drawn name is. No program is named here.
-/
import Derived.Test.YtaehfeobfkaicaaGreatCacheGetG06
import Derived.Test.YtaehfeobfkaicaaGreatCacheGetG14
import Derived.Test.YtaehfeobfkaicaaGreatCacheGetG29
import Derived.Test.YtaehfeobfkaicaaGreatCacheGetG01
import Derived.Test.YtaehfeobfkaicaaGreatCacheGetG05
import Derived.Test.YtaehfeobfkaicaaGreatCacheGetG08
import Derived.Test.YtaehfeobfkaicaaGreatCacheGetG04
import Derived.Test.YtaehfeobfkaicaaGreatCacheGetG02
import Derived.Deep.RegionHeld3
import Derived.Deep.MidRow
import Derived.Test.YtaehfeobfkaicaaGreatCacheGetG00
namespace Go.Proofs.YtaehfeobfkaicaaGreat
open Go.RowKit
set_option linter.unusedVariables false

theorem OwnL.after {B : Nat} {el eb : TypeId} {w w' : World} {v : Value} {n : List (List Int)} (h : OwnL B el eb w v n) (u : Outside 0 B w w') : OwnL B el eb w' v n := by
 obtain ⟨vs, ho, hu, hd⟩ := h
 refine ⟨vs, ownsRow_out ho u (fun q e => .inr (World.ownsRow.lt ho q e).1), fun i hi => ?_, hd⟩
 obtain ⟨x, h1, h2⟩ := hu i hi
 exact ⟨x, h1, ownsRow_out h2 u (fun q e => .inr (World.ownsRow.lt h2 q e).1)⟩
theorem OwnQ.after {B : Nat} {el eb ei : TypeId} {w w' : World} {vn vt vx vi : Value} {r : Rec} (h : OwnQ B el eb ei w vn vt vx vi r) (u : Outside 0 B w w') : OwnQ B el eb ei w' vn vt vx vi r :=
 ⟨h.name.after u, h.to.after u, ownsRow_out h.text u (fun q e => .inr (World.ownsRow.lt h.text q e).1), ownsRow_out h.nums u (fun q e => .inr (World.ownsRow.lt h.nums q e).1)⟩
theorem RowQ.after {B : Nat} {er el eb ei : TypeId} {w w' : World} {v : Value} {rs : List Rec} (h : RowQ B er el eb ei w v rs) (u : Outside 0 B w w') : RowQ B er el eb ei w' v rs := by
 obtain ⟨xs, ho, hx⟩ := h
 refine ⟨xs, ownsRow_out ho u (fun q e => .inr (World.ownsRow.lt ho q e).1), fun i hi => ?_⟩
 obtain ⟨vn, vt, vx, vi, q1, q2⟩ := hx i hi
 exact ⟨vn, vt, vx, vi, q1, q2.after u⟩
def OwnSQ (er el eb ei : TypeId) (B E : Nat) (w : World) (vs : List Value) (x : Slt) : Prop := ∃ vn vr, vs = [vn, .int .i64 x.type, .int .i64 x.kind, vr, .int .i64 x.rank, .int .i64 x.till, .int .i64 x.used] ∧
 ∃ B0 w0, B ≤ B0 ∧ w0.heap.size ≤ E ∧ Outside 0 B0 w0 w ∧ OwnL B0 el eb w0 vn x.name ∧ RowQ B0 er el eb ei w0 vr x.rrs
theorem OwnSQ.has {er el eb ei : TypeId} {B E : Nat} {w : World} {vs : List Value} {x : Slt} (h : OwnSQ er el eb ei B E w vs x) : HasSl w vs x := by
 obtain ⟨vn, vr, h1, B0, w0, _, _, u, h2, h3⟩ := h
 exact ⟨vn, vr, h1, (h2.after u).hasL, (h3.after u).has⟩
theorem ownsSQ (er el eb ei : TypeId) : OwnsG 7 (OwnSQ er el eb ei) where
 cells := fun h => by obtain ⟨vn, vr, rfl, _⟩ := h; rfl
 below := fun h hb => by obtain ⟨vn, vr, h1, B0, w0, h2, h3, u, h4⟩ := h; exact ⟨vn, vr, h1, B0, w0, h2, h3, u.trans ⟨hb.os, hb.tape, hb.output, hb.size, fun k hk _ => hb.block k hk⟩, h4⟩
 outside := fun h u hd => by
  obtain ⟨vn, vr, h1, B0, w0, h2, h3, v, h4⟩ := h
  refine ⟨vn, vr, h1, B0, w0, h2, h3, ⟨u.os.trans v.os, u.tape.trans v.tape, u.output.trans v.output, Nat.le_trans v.size u.size, fun k hk hor => ?_⟩, h4⟩
  have hs := v.size
  exact (u.block k (by omega) (by omega)).trans (v.block k hk hor)
 wide := fun h h1 h2 => by obtain ⟨vn, vr, h3, B0, w0, h4, h5, h6⟩ := h; exact ⟨vn, vr, h3, B0, w0, Nat.le_trans h1 h4, Nat.le_trans h5 h2, h6⟩
theorem info_sl2 : (Tryz.prog.info? 56).map (fun i => (i.zero, i.size, i.bytes)) = some (some (.slice none 0 0), 1, 24) := by kernel_rfl

set_option maxHeartbeats 2000000 in
set_option maxRecDepth 100000 in
theorem l2own_short {v : Value} {n : List (List Int)} {w : World} (h : HasL w v n) (hs : n.length ≤ 7) (hs2 : ∀ k, k < n.length → (n.getD k []).length ≤ 16) :
  Calls Tryz.prog 73 #[.agg #[v]] w fun e w' => ∃ v', e = .returned (.agg #[v']) ∧ OwnL w.heap.size 56 5 w' v' n ∧ Below w.heap.size w w' := by
 obtain ⟨a, cap, rfl, hcl, hcm⟩ := h.form
 unfold maxLen at hcm
 obtain ⟨hsz, h1, h2⟩ := box3 w (.cells #[.slice a n.length cap] 46) #[.slice none 0 0] #[.slice none 0 0] 46 46
 have bb : Below w.heap.size w (((w.alloc (.cells #[.slice a n.length cap] 46)).alloc (.cells #[.slice none 0 0] 46)).alloc (.cells #[.slice none 0 0] 46)) :=
  ((UI _).alloc (UI _).size _).alloc ((UI _).alloc (UI _).size _).size _
 have hbx : (((w.alloc (.cells #[.slice a n.length cap] 46)).alloc (.cells #[.slice none 0 0] 46)).alloc (.cells #[.slice none 0 0] 46)).heap[w.heap.size]? = some (.cells #[.slice a n.length cap] 46) :=
  UE (UI _) (UE (UI _) (heap_alloc_new w _))
 have H := UC h
 clear h
 have HS2 := UC hs2
 clear hs2
 generalize hn : n.length = m at *
 have HN := UC hn
 clear hn
 go_enter Tryz.func73, Tryz.ntmps73
 go_wp2
 generalize ((w.alloc (.cells #[.slice a m cap] 46)).alloc (.cells #[.slice none 0 0] 46)).alloc (.cells #[.slice none 0 0] 46) = W at *
 go_loopw [4] (fun i wr => ∃ (k : Nat) (o : Value), k ≤ m ∧ i = .int .i64 k ∧ wr.heap[w.heap.size]? = some (.cells #[.slice a m cap] 46) ∧ wr.heap[w.heap.size + 1]? = some (.cells #[.slice none 0 0] 46) ∧ wr.heap[w.heap.size + 1 + 1]? = some (.cells #[o] 46) ∧ OwnL (w.heap.size + 3) 56 5 wr o (n.take k) ∧ Below w.heap.size w wr) (fun i _ => m - (intOf i).toNat)
 case atStart => exact ⟨0, .slice none 0 0, Nat.zero_le _, rfl, hbx, h1, h2, ⟨[], by simpa using World.ownsRow_nil _ _ _ _, by simp, by simp⟩, bb⟩
 case round =>
  obtain ⟨k, o, hk, rfl, hr0, hr1, hr2, ho, hb⟩ := hrel
  have c0 := US hr0
  by_cases hlt : k < m
  ·obtain ⟨b, off, u, rfl, hbl, hc, hu⟩ := ((UB H).below hb).here (k := k) (by rw [UB HN]; exact hlt)
   have hlk := UB HS2 k hlt
   have htk := UC (show n.take (k + 1) = n.take k ++ [n.getD k []] by rw [List.take_succ_eq_append_getElem (by rw [UB HN]; exact hlt)]; simp [show k < n.length by rw [UB HN]; exact hlt])
   have htl : (n.take k).length = k := by rw [List.length_take, UB HN]; omega
   generalize n.getD k [] = lab at *
   generalize n.take k = nk at *
   subst htl
   have HU := UC hu
   obtain ⟨ua, uc, rfl, _⟩ := hu.form
   clear hu
   obtain ⟨oa, oc, rfl, _⟩ := ho.hasL.form
   have hod := ho.below (UX (w := wr))
   clear ho
   have HO := UC hod
   obtain ⟨vs, hvs, hva, hvd⟩ := hod
   have hvl : vs.length = nk.length := by have := hvs.1; simpa using this
   have kd2 := UE (UX (w := wr)) hr2
   have kd1 := UE (UX (w := wr)) hr1
   have bd := UG hb (UX (w := wr))
   have cod := US kd2
   have HUd := UC ((UB HU).below UX)
   have HVS := UC hvs
   have HVA := UC hva
   have HVD := UC hvd
   have z3 := VC hr2
   have zb : w.heap.size + 3 ≤ wr.drew.heap.size := by show w.heap.size + 3 ≤ wr.heap.size; omega
   clear hva hvd hvs
   have kd0 := UE (UX (w := wr)) hr0
   have KD0 := UC kd0
   have KD2 := UC kd2
   have KD1 := UC kd1
   have cd0 := US kd0
   have cul : wr.drew.cell? ⟨b, off + nk.length, none⟩ = some (.slice ua lab.length uc) := hc
   have ca0 : ∀ o, (wr.alloc o).cell? ⟨w.heap.size, 0, none⟩ = some (.slice (some ⟨b, off, none⟩) m cap) := fun o => US (UE (UI o) hr0)
   have ca2 : ∀ o, (wr.alloc o).cell? ⟨w.heap.size + 1 + 1, 0, none⟩ = some (.slice oa nk.length oc) := fun o => US (UE (UI o) hr2)
   have cau : ∀ o, (wr.alloc o).cell? ⟨b, off + nk.length, none⟩ = some (.slice ua lab.length uc) := fun o => ((UI o).cell (p := ⟨b, off + nk.length, none⟩) hbl).trans hc
   have HUA := UC (show ∀ o, Has (wr.drew.alloc o) (.slice ua lab.length uc) lab from fun o => (UB HUd).below (UI o))
   clear kd2 kd1 kd0
   go_wp2_with fail
   go_region_law (first
    | (refine step_append_bytes rfl (.tmp 14) (.tmp 19) 56 5 rfl Tryz.underlying56 VJ wr.drew.heap.size _ _ [] lab (by simp [Act.eval]) (by simp [Act.eval]) (own_lit wr.drew wr.drew.heap.size 5 [] (Nat.le_refl _) (by simp)) (UB HUA _).reads (by simp only [List.length_nil]; omega) (UI _).size ?_; intro u1 w1 ou g1; have b1 := lit_grown (w := wr.drew) g1; obtain ⟨u1a, u1c, rfl, _⟩ := ou.lies; have OU := UC ou; have B1 := UC b1; have co1 := US (UE b1 (UB KD2)); have ca1 : ∀ o, (w1.alloc o).cell? ⟨w.heap.size + 1 + 1, 0, none⟩ = some (.slice oa nk.length oc) := (fun o => US (UE (UI o) (UE b1 (UB KD2)))); clear ou b1 g1)
    | (refine step_append_row rfl (.tmp 13) (.tmp 21) 41 56 rfl Tryz.underlying41 info_sl2 (w.heap.size + 3) (.slice oa nk.length oc) _ vs [.slice u1a lab.length u1c] (by simp [Act.eval]) (by simp [Act.eval]) (by rw [hvl]; exact World.ownsRow.alloc (ownsRow_kept' (UB HVS) (UB B1)) _) (one_more w1 56 _) (by intro y hy; simp at hy; subst hy; rfl) (by rw [hvl]; simp; omega) (by have := (UB B1).size; simp; omega) ?_; intro v2 w2 o2 g2; obtain ⟨p2, k2, y2⟩ := snoc_step g2 o2 rfl (UB HVS) (UB HVA) (UB HVD) ((UB B1).alloc (UB B1).size _) ((UB OU).alloc _) zb (by decide) (UE (UI _) (UE (UB B1) (UB KD2))) (by decide); obtain ⟨v2a, v2c, rfl, _⟩ := p2.hasL.form; have co2 := US k2; have fo2 := VG k2 0))
   all_goals
    go_wp2_with fail
    have k1 := (y2.block (w.heap.size + 1) (by omega)).trans (UB KD1)
    have k0 := (y2.block w.heap.size (by omega)).trans (UB KD0)
    refine ⟨⟨nk.length + 1, _, by omega, by go_num, block_other k0 (by omega) 0 _, block_other k1 (by omega) 0 _, block_set k2 _, ?_, (bd.trans (y2.mono (by omega))).setCell (by show w.heap.size ≤ w.heap.size + 1 + 1; omega) _⟩, by simp [intOf]; omega⟩
    rw [UB htk]
    simp only [List.length_append, List.length_cons, List.length_nil] at p2
    exact p2.kept (grown_setCell _ _ _) (by show w.heap.size + 1 + 1 < _; omega)
  ·obtain rfl : k = m := by omega
   obtain ⟨oa, oc, rfl, _⟩ := ho.hasL.form
   have htk : n.take k = n := List.take_of_length_le (by rw [UB HN]; omega)
   rw [htk] at ho
   have HLK := UC (show (n.take k).length = n.length by rw [htk])
   rw [UB HLK] at hr2
   have HO := UC ho
   have c2 := US hr2
   have c1 := US hr1
   have f1 := VG hr1 0
   have M1 := UC (block_set hr1 (.slice oa n.length oc))
   clear ho htk hr1 hr2 HLK
   go_wp2
   refine bodyPost_ret (results_cell_row rfl _ _ (w.heap.size + 1) 46 #[.slice oa n.length oc] (0, 0) _ rfl (UB M1) Tryz.underlying46 rfl (by kernel_rfl)) rfl ?_
   exact ⟨_, rfl, ((UB HO).kept (grown_setCell _ _ _) (by show w.heap.size + 1 < _; omega)).mono (by omega), hb.setCell (by show w.heap.size ≤ w.heap.size + 1; omega) _⟩
theorem l2own_has {v : Value} {n : List (List Int)} {w : World} (h : HasL w v n) (hs : n.length ≤ 6) (hs2 : ∀ k, k < n.length → (n.getD k []).length ≤ 15) :
  Calls Tryz.prog 73 #[.agg #[v]] w fun e w' => ∃ v', e = .returned (.agg #[v']) ∧ OwnL w.heap.size 56 5 w' v' n ∧ Below w.heap.size w w' :=
 l2own_short h (Nat.le_trans hs (by decide)) (fun k hk => Nat.le_trans (hs2 k hk) (by decide))
theorem there7 {w : World} {b : Nat} {c0 c1 c2 c3 c4 c5 c6 : Value} {t : TypeId} (h : w.heap[b]? = some (.cells #[c0, c1, c2, c3, c4, c5, c6] t)) : w.there b 0 7 := by
 intro j hj
 obtain ⟨f0, f1, f2, f3, f4, f5, f6⟩ := UJ h
 rw [Nat.zero_add]
 refine ⟨?_, VG h j⟩
 match j, hj with
 | 0, _ => rw [f0]; rfl
 | 1, _ => rw [f1]; rfl
 | 2, _ => rw [f2]; rfl
 | 3, _ => rw [f3]; rfl
 | 4, _ => rw [f4]; rfl
 | 5, _ => rw [f5]; rfl
 | 6, _ => rw [f6]; rfl
theorem wp_store7 {P : Program} {op : Oper} {a : Act} {w : World} {K : Act → World → Prop} {Q : Exit → Act → World → Prop} (ty : TypeId) (x y : Operand) (ho : op.op = .store ty x y)
  (b : Nat) (c0 c1 c2 c3 c4 c5 c6 : Value) {a0 a1 a2 a3 a4 a5 a6 : Value} {t : TypeId} (hx : a.eval x = .pointer (some ⟨b, 0, none⟩)) (hy : a.eval y = .agg #[c0, c1, c2, c3, c4, c5, c6])
  (hk : w.heap[b]? = some (.cells #[a0, a1, a2, a3, a4, a5, a6] t)) (hi : (P.info? ty).map (·.size) = some 7) (h1 : #[c0, c1, c2, c3, c4, c5, c6].all (·.oneCell') = true)
  (h : K (a.put op.dst undef) (((((((w.setCell ⟨b, 0, none⟩ c0).setCell ⟨b, 1, none⟩ c1).setCell ⟨b, 2, none⟩ c2).setCell ⟨b, 3, none⟩ c3).setCell ⟨b, 4, none⟩ c4).setCell ⟨b, 5, none⟩ c5).setCell ⟨b, 6, none⟩ c6)) : op.wp P a w K Q :=
 wp_store_mid ty x y ho b 0 #[c0, c1, c2, c3, c4, c5, c6] hx hy (there7 hk) hi h1 h
end Go.Proofs.YtaehfeobfkaicaaGreat

namespace Go.Proofs.YtaehfeobfkaicaaGreat
open Go.RowKit

def DrawnN (n : List (List Int)) : Prop := n.length ≤ 7 ∧ ∀ k, k < n.length → (n.getD k []).length ≤ 16
end Go.Proofs.YtaehfeobfkaicaaGreat
