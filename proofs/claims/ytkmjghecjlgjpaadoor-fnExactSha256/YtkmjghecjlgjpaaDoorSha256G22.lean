/-
  Contract of the program's Sha256. Contract of the specification's l7block: a block of 64 bytes.
-/
import Derived.Test.YtkmjghecjlgjpaaDoorSha256G18
import Derived.Test.YtkmjghecjlgjpaaDoorSha256G20
import Derived.Test.YtkmjghecjlgjpaaDoorSha256G21
import Derived.RangeFuncBox
import Derived.Test.YtkmjghecjlgjpaaDoorSha256G12
namespace Go.Proofs.YtkmjghecjlgjpaaDoor
open Go.RowKit Go.Shelf
set_option linter.unusedVariables false
set_option linter.unusedSimpArgs false

theorem size79i : (Tryd.prog.info? 79).map (·.size) = some 8 := by kernel_rfl
def sumL (p : List Int) (ks : List Nat) : S8 := ks.foldl (fun s k => blockS s (blockOf p k)) iv8
theorem sumL_snoc (p : List Int) (ks : List Nat) (k : Nat) : sumL p (ks ++ [k]) = blockS (sumL p ks) (blockOf p k) := by simp only [sumL, List.foldl_append, List.foldl_cons, List.foldl_nil]
theorem sumL_range (p : List Int) (n : Nat) : sumL p (List.range n) = sumK p n := by
 induction n with
 | zero => rfl
 | succ n ih => rw [List.range_succ, sumL_snoc, ih]; rfl
/-- What stands between two rounds. -/
def GotS (p : List Int) (nb Bs : Nat) (W0 : World) (pre : List { k : Nat // k < nb }) (W : World) : Prop :=
 W.heap[Bs]? = some (.cells (cellsU (l8 (sumL p (pre.map (·.1))))) 80) ∧ Outside Bs (Bs + 1) W0 W
theorem gotS_own (p : List Int) (nb Bs : Nat) (W0 : World) : OwnFrom W0.heap.size (GotS p nb Bs W0) := by
 intro s W W' row ⟨h1, h2⟩ hg hr
 exact ⟨keptC_of hg (fun r e => (hr r e).2) _ _ _ h1, ⟨hg.os.trans h2.os, hg.tape.trans h2.tape, hg.output.trans h2.output, Nat.le_trans h2.size hg.size, fun k hk hn => (hg.block k (Nat.lt_of_lt_of_le hk h2.size) (fun e => by have := (hr k e.symm).1; omega)).trans (h2.block k hk hn)⟩⟩

set_option maxHeartbeats 1000000 in
set_option maxRecDepth 100000 in
theorem sha_in {B : Nat} {v : Value} {l : List Int} {w : World} (h : Own B 5 w v l) (hl : l.length ≤ 4096) (h8 : Bytes8 l) (hF : TabW w 0 (l8 iv8)) (hG : TabW w 1 kW) :
  CallsIn Fence.wide 5 Tryd.prog 30 #[v] w fun e w' => ∃ v', e = .returned v' ∧ Own w.heap.size 5 w' v' (shaOf l) ∧ Below w.heap.size w w' := by
 obtain ⟨KW, HKW⟩ : ∃ KW, Hid (kW = KW) := ⟨_, hide rfl⟩
 obtain ⟨IV, HIV⟩ : ∃ IV, Hid (iv8 = IV) := ⟨_, hide rfl⟩
 rw [unhide HKW] at hG
 rw [unhide HIV] at hF
 obtain ⟨la, lc, hlv, _⟩ := h.lies
 have hgt : ¬ (4096 < (l.length : Int)) := by omega
 have HHO := hide h
 have HL := hide hl
 subst hlv
 have ka := heap_alloc_new w (.cells (cellsU (List.replicate 8 0)) 80)
 have ba := below_alloc (w := w) (.cells (cellsU (List.replicate 8 0)) 80)
 have HT := hide (block_there ka (n := (cellsU (l8 IV)).size) (by rw [cellsU_size, cellsU_size]; rfl))
 have u2 := outside_sets w.heap.size (cellsU (l8 IV)).toList 0 (w.alloc (.cells (cellsU (List.replicate 8 0)) 80))
 have KQ := hide (block_whole ka (cs := cellsU (l8 IV)) (by rw [cellsU_size, cellsU_size]; rfl))
 have B2 := hide (u2.below ba (Nat.le_refl _))
 have HF := hide hF
 have KG := hide (hG.below (unhide B2))
 have H8 := hide (paddedOf_bytes (of_bytes8 h8))
 have hsz : (Tryd.prog.info? 80).map (·.size) = some (cellsU (l8 IV)).size := by rw [cellsU_size]; exact sizeSum
 have HSZ := hide hsz
 have OV := hide ((unhide HHO).below (unhide B2))
 have ZG := hide hG.1
 clear hsz ka ba u2 h hl h8 hF hG HHO
 refine callsIn_of_wp_marks Tryd.func30 rfl trivial ?_ rfl
 simp only [Tryd.ntmps30, List.size_toArray, List.length_cons, List.length_nil, Nat.reduceAdd, Nat.reduceSub, Array.replicate_succ, Array.replicate_zero, List.push_toArray, List.append_toArray, List.nil_append, List.cons_append]
 refine wpIn_wide.2 ?_
 go_wp2_with (first
  | (refine list_loadT rfl 79 (.global 0) rfl 0 rfl (l8 IV) (unhide HF) Tryd.underlying79 rfl size79i ?_; simp only [Act.put, List.setIfInBounds_toArray, List.set_cons_zero, List.set_cons_succ])
  | (refine list_alloc (v := .pointer (some ⟨w.heap.size, 0, none⟩)) (w' := w.alloc (.cells (cellsU (List.replicate 8 0)) 80)) rfl rfl (by kernel_rfl) ?_; simp only [Act.put, List.setIfInBounds_toArray, List.set_cons_zero, List.set_cons_succ])
  | (refine wpList_store_mid rfl 80 (.tmp 3) (.tmp 8) rfl w.heap.size 0 (cellsU (l8 IV)) rfl rfl (unhide HT) (unhide HSZ) (cellsU_one _) ?_; generalize (w.alloc (.cells (cellsU (List.replicate 8 0)) 80)).setCells w.heap.size 0 (cellsU (l8 IV)).toList = W2 at *))
 refine (padded_is (unhide OV) (unhide HL)).mono ?_
 rintro e w1 ⟨v1, rfl, o1, b1⟩
 have hlen := blocksN_is l
 have hnb : 1 ≤ blocksN l ∧ blocksN l ≤ 80 := by
  have h1 := paddedOf_length l
  have h2 := zerosN_lt l.length
  have h3 := unhide HL
  omega
 have HSH := hide (show shaOf l = outK (sumK (paddedOf l) (blocksN l)) 8 from rfl)
 obtain ⟨g, cap, rfl, hg0, hgl, hc1, hc2, hcell⟩ : ∃ g cap, v1 = .slice (some ⟨g, 0, none⟩) (64 * blocksN l) cap ∧ W2.heap.size ≤ g ∧ g < w1.heap.size ∧ 64 * blocksN l ≤ cap ∧ cap ≤ maxLen ∧ ∀ i, i < 64 * blocksN l → w1.cell? ⟨g, i, none⟩ = some (.int .u8 ((paddedOf l).getD i 0)) := by
  rcases o1.form with ⟨_, h0⟩ | ⟨g, cap, h1, h2, h3, h4, h5, h6, _⟩
  ·rw [h0] at hlen
   simp at hlen
   omega
  ·rw [hlen] at h1 h4 h6
   exact ⟨g, cap, h1, h2, h3, h4, h5, h6⟩
 have HLEN := hide hlen
 generalize blocksN l = nb at *
 generalize paddedOf l = p at *
 have KQ1 := hide (block_kept b1 (unhide KQ))
 have KG1 := hide ((unhide KG).below b1)
 have BB1 := hide (below_next (unhide B2) b1)
 have HC := hide hcell
 have zB := b1.size
 have zq := block_lt (unhide KQ)
 clear o1 b1 hlen hcell KQ KG B2 HF HT HSZ OV
 go_wp2_with fail
 refine (chunk_any _ _ _ _).mono ?_
 rintro e w3 ⟨rfl, hw3⟩
 have k3 : w3.heap[w1.heap.size]? = some (.cells #[.slice (some ⟨g, 0, none⟩) (64 * nb) cap] 22) := by rw [hw3]; exact (box2 w1 _ _ _).2.1
 have k4 : w3.heap[w1.heap.size + 1]? = some (.cells #[.int .i64 64] 3) := by rw [hw3]; exact (box2 w1 _ _ _).2.2
 have b3 : Below w1.heap.size w1 w3 := by rw [hw3]; exact below2 _ _ _
 have z3 := b3.size
 have KQ3 := hide (block_kept b3 (unhide KQ1))
 have KG3 := hide ((unhide KG1).below b3)
 have BB3 := hide (below_next (unhide BB1) b3)
 have HC3 := hide (fun i hi => (b3.cell (p := ⟨g, i, none⟩) hgl).trans (unhide HC i hi))
 clear hw3 b3 KQ1 KG1 BB1 HC
 go_wp2_with fail
 refine (wpIn_wide (n := 5)).1 ?_
 have hz0 : w.heap.size < w3.heap.size := by omega
 refine wpIn_rangeFunc_ownH rfl (by omega) (gf := 99) (lb := #[.pointer (some ⟨w1.heap.size, 0, none⟩), .pointer (some ⟨w1.heap.size + 1, 0, none⟩)]) rfl trivial (enters_of Tryd.func99 (by kernel_rfl) rfl) (chunk_stops w1.heap.size (w1.heap.size + 1) g nb cap hc1 hnb.2 hc2 w3 k3 k4) (fun h k => kpC_t h k) (kpC_b (w := w3)) (Below.refl _ _) (fun _ => rfl)
  (GotS p nb w.heap.size w3) (fun _ _ _ => False) (gotS_own p nb w.heap.size w3) (fun _ _ _ _ _ h _ _ => h)
  ⟨by rw [List.map_nil, show sumL p [] = IV from unhide HIV]; exact unhide KQ3, Outside.refl _ _ _⟩
  (fun x a' W => a' = { tmps := #[.slice la l.length lc, undef, .slice none 0 0, .pointer (some ⟨w.heap.size, 0, none⟩), .slice (some ⟨g, 64 * x.1, none⟩) 64 64, .slice la l.length lc, .int .i64 l.length, .bool false, .agg (cellsU (l8 IV)), .slice la l.length lc, .slice (some ⟨g, 0, none⟩) (64 * nb) cap, .func (.func 99) #[] #[.pointer (some ⟨w1.heap.size, 0, none⟩), .pointer (some ⟨w1.heap.size + 1, 0, none⟩)], .slice (some ⟨g, 64 * x.1, none⟩) 64 64, undef, undef, undef], defers := [] })
  (fun x a' _ W W' row h _ _ => h) ?assign ?body ?done ?stop
 case assign =>
  rintro lr pre x W K hi hK
  have hsem := Oper.semAt_some lr
  have HK := hide hK
  have HI := hide hi
  clear hK hi
  unfold encC
  gi_wp2
  exact unhide HK _ _ (KeepsFrom.refl _ _) ⟨fun _ _ q => q, fun _ _ q => q⟩ (unhide HI) rfl
 case body =>
  rintro lr pre x a' W hl ⟨rr, hrr⟩ ⟨kS, hO⟩ rfl hlt
  have hsem := Oper.semAt_some lr
  have zr := block_lt hrr
  have hO3 := (unhide KG3)
  have kG := (unhide KG3).out hO (.inl (by have := unhide ZG; omega))
  have hgl3 : g < w3.heap.size := by omega
  have TK := hide (take_is (b := w.heap.size) (s := sumL p (pre.map (·.1))) (bs := blockOf p x.1) (v := .slice (some ⟨g, 64 * x.1, none⟩) 64 64) kS (by rw [unhide HKW]; exact kG) (by have := unhide ZG; omega) ⟨g, 64 * x.1, 64, rfl, Nat.lt_of_lt_of_le hgl3 hO.size, by omega, fun i hi => by
   have hxl := x.2
   rw [blockOf_getD (unhide HLEN) hxl hi, ← unhide HC3 (64 * x.1 + i) (by omega)]
   have hb := hO.block g hgl3 (.inr (by omega))
   unfold World.cell?
   rw [hb]⟩ (blockOf_length (unhide HLEN) x.2) (blockOf_bytes (unhide H8) x.1))
  have HS := hide (show sumL p ((pre ++ [x]).map (·.1)) = blockS (sumL p (pre.map (·.1))) (blockOf p x.1) by rw [List.map_append]; exact sumL_snoc _ _ _)
  have HO := hide hO
  clear kS hO kG hO3
  generalize sumL p (pre.map (·.1)) = s0 at *
  generalize hbs : blockOf p x.1 = bs at *
  clear hbs
  gi_wp2_with fail
  refine ⟨trivial, ?_⟩
  refine (CallsIn.inRound lr (callsIn_wide.2 (unhide TK))).mono ?_
  rintro e W3 ⟨⟨x1, rfl⟩, ⟨s', hs', k'⟩, o'⟩
  have K3 : Hid (W3.heap[w.heap.size]? = some (.cells (cellsU (l8 (sumL p ((pre ++ [x]).map (·.1))))) 80)) := hide (by rw [unhide HS, unhide hs']; exact k')
  have O3 := hide o'
  clear TK hs' k' o'
  gi_wp2
  refine ⟨⟨(unhide O3).size, fun k o hB hk ho => (unhide O3).kept hk (.inr (by omega))⟩, ⟨fun c t q => (unhide O3).kept q (.inr (by omega)), fun c t q => (unhide O3).kept q (.inr (by omega))⟩, unhide K3, (unhide HO).trans (unhide O3)⟩
 case done =>
  rintro D xs W hD hS ⟨kS, hO⟩ hK
  rw [hS, sumL_range] at kS
  have hBW : Below w.heap.size w W := ⟨hO.os.trans (unhide BB3).os, hO.tape.trans (unhide BB3).tape, hO.output.trans (unhide BB3).output, Nat.le_trans (unhide BB3).size hO.size, fun k hk => (hO.block k (Nat.lt_of_lt_of_le hk (unhide BB3).size) (.inl hk)).trans ((unhide BB3).block k hk)⟩
  have PT := hide (put_is kS)
  have BW := hide hBW
  have HKK := hide hK
  have zD := block_lt hK
  have zW := hO.size
  rw [← unhide HSH] at PT
  clear kS hBW hK hO k3 k4 KQ3 KG3 HC3 H8 BB3 HLEN HSH hS
  go_wp2_with fail
  refine (unhide PT).mono ?_
  rintro e w5 ⟨v5, rfl, o5, b5⟩
  have O5 := hide o5
  have B5 := hide b5
  clear o5 b5 PT
  go_wp2_with fail
  have z5 := (unhide B5).size
  have sD := block_kept (unhide B5) (unhide HKK)
  refine ⟨by simp, .inl ⟨_, _, rfl, run_takeDeferred sD, ?_⟩⟩
  have hkk := keptC_of (grownBy_putObj' w5 D (.deferred none)) (fun r e => by cases e; exact ⟨_, sD, rfl⟩)
  exact ⟨_, results_tmp rfl _ _ _, v5, rfl, (show Own W.heap.size 5 (w5.putObj D (.deferred none)) v5 (shaOf l) from row_keptC (unhide O5) hkk).mono (by omega), (below_next (unhide BW) (unhide B5)).trans (belowK_b (w := w) (Nat.le_refl _) w5 D _ _ (by omega) sD rfl rfl)⟩
 case stop =>
  rintro D c pre W _ _ h _
  exact h.elim
theorem sha_own {B : Nat} {v : Value} {l : List Int} {w : World} (h : Own B 5 w v l) (hl : l.length ≤ 4096) (h8 : Bytes8 l) (hF : TabW w 0 (l8 iv8)) (hG : TabW w 1 kW) :
  Calls Tryd.prog 30 #[v] w fun e w' => ∃ v', e = .returned v' ∧ Own w.heap.size 5 w' v' (shaOf l) ∧ Below w.heap.size w w' := (callsIn_wide (n := 5)).1 (sha_in h hl h8 hF hG)
set_option maxHeartbeats 1000000 in
set_option maxRecDepth 100000 in
theorem sha_no {B : Nat} {v : Value} {l : List Int} {w : World} (h : Own B 5 w v l) (hl : ¬ l.length ≤ 4096) :
  Calls Tryd.prog 30 #[v] w fun e w' => e = .returned (.slice none 0 0) ∧ w' = w := by
 obtain ⟨la, lc, hlv, _⟩ := h.lies
 have hgt : 4096 < (l.length : Int) := by omega
 subst hlv
 clear hl
 go_enter Tryd.func30, Tryd.ntmps30
 go_wp2
 go_ret
 exact ⟨rfl, rfl⟩
end Go.Proofs.YtkmjghecjlgjpaaDoor

namespace Go.Proofs.YtkmjghecjlgjpaaDoor
open Go.RowKit
set_option linter.unusedVariables false

set_option maxHeartbeats 4000000 in
set_option maxRecDepth 100000 in
theorem l7block_is {v : Value} {bs : List Int} {s : S8} {w : World} (hv : Has w v bs) (hl : bs.length = 64) (h8 : Bytes8 bs) :
  Calls Tryd.prog 98 #[.agg (cellsU (l8 s)), v] w fun e w' => e = .returned (.agg (cellsU (l8 (blockS s bs)))) ∧ Below w.heap.size w w' := by
 obtain ⟨g, off, cap, rfl, hg, hc1, hc2, hcell⟩ : ∃ g off cap, v = .slice (some ⟨g, off, none⟩) 64 cap ∧ g < w.heap.size ∧ 64 ≤ cap ∧ cap ≤ maxLen ∧ ∀ i, i < 64 → w.cell? ⟨g, off + i, none⟩ = some (.int .u8 (bs.getD i 0)) := by
  rcases hv with ⟨_, rfl⟩ | ⟨g, off, cap, h1, h2, h3, h4, h5⟩
  ·simp at hl
  ·rw [hl] at h1 h3 h5
   exact ⟨g, off, cap, h1, h2, h3, h4, h5⟩
 have HCELL := hide hcell
 clear hcell hl
 have b0 : Below w.heap.size w (((w.alloc (.cells (cellsU (l8 s)) 79)).alloc (.cells (cellsU (List.replicate 8 0)) 79)).alloc (.cells (cellsU (List.replicate 64 0)) 110)) := ((below_alloc _).alloc (below_alloc _).size _).alloc ((below_alloc _).alloc (below_alloc _).size _).size _
 obtain ⟨hsz, kr, kw⟩ := box3 w (.cells (cellsU (l8 s)) 79) (cellsU (List.replicate 8 0)) (cellsU (List.replicate 64 0)) 79 110
 have kh : (((w.alloc (.cells (cellsU (l8 s)) 79)).alloc (.cells (cellsU (List.replicate 8 0)) 79)).alloc (.cells (cellsU (List.replicate 64 0)) 110)).heap[w.heap.size]? = some (.cells (cellsU (l8 s)) 79) := block_kept (below_alloc _) (block_kept (below_alloc _) (heap_alloc_new w _))
 have I0 : Hid (In7 w.heap.size w (((w.alloc (.cells (cellsU (l8 s)) 79)).alloc (.cells (cellsU (List.replicate 8 0)) 79)).alloc (.cells (cellsU (List.replicate 64 0)) 110)) (l8 s) (fillW bs 0)) := hide ⟨kh, kr, kw, b0⟩
 clear b0 hsz kr kw kh hv
 go_enter Tryd.func98, Tryd.ntmps98
 go_wp2_with fail
 show Code.wp _ _ _ _ (((w.alloc (.cells (cellsU (l8 s)) 79)).alloc (.cells (cellsU (List.replicate 8 0)) 79)).alloc (.cells (cellsU (List.replicate 64 0)) 110))
 generalize (((w.alloc (.cells (cellsU (l8 s)) 79)).alloc (.cells (cellsU (List.replicate 8 0)) 79)).alloc (.cells (cellsU (List.replicate 64 0)) 110)) = W0 at *
 generalize hN : w.heap.size = N at *
 have HN := hide hN
 clear hN
 go_loopw [6] (fun i wr => ∃ (k : Nat), k ≤ 16 ∧ i = .int .i64 k ∧ Hid (In7 N w wr (l8 s) (fillW bs k))) (fun i _ => 16 - (intOf i).toNat)
 case atStart => exact ⟨0, Nat.zero_le _, rfl, I0⟩
 case round =>
  clear I0
  obtain ⟨k, hk, rfl, H⟩ := hrel
  by_cases hlt : k < 16
  ·have H1 := hide ((unhide H).next (below_drew (w := wr)))
   go_wp2_with fail
   have hcc := hide (fun w' (hb : Below w.heap.size w w') j (hj : j < 4) => ((hb.cell (p := ⟨g, off + (4 * k + j), none⟩) (by rw [unhide HN]; exact hg)).trans (unhide HCELL _ (by omega)) : w'.cell? ⟨g, off + (4 * k + j), none⟩ = some (.int .u8 (bs.getD (4 * k + j) 0))))
   obtain ⟨y0, z0⟩ := Int.eq_ofNat_of_zero_le (h8 (4 * k)).1
   obtain ⟨y1, z1⟩ := Int.eq_ofNat_of_zero_le (h8 (4 * k + 1)).1
   obtain ⟨y2, z2⟩ := Int.eq_ofNat_of_zero_le (h8 (4 * k + 2)).1
   obtain ⟨y3, z3⟩ := Int.eq_ofNat_of_zero_le (h8 (4 * k + 3)).1
   have HF := hide (fillW_first bs hlt h8 z0 z1 z2 z3)
   have SF := hide (fun w' (hb : Below w.heap.size w w') => (⟨by have := unhide hcc w' hb 0 (by omega); rwa [Nat.add_zero, z0] at this, by have := unhide hcc w' hb 1 (by omega); rwa [z1] at this, by have := unhide hcc w' hb 2 (by omega); rwa [z2] at this, by have := unhide hcc w' hb 3 (by omega); rwa [z3] at this⟩ : w'.cell? ⟨g, off + (4 * k), none⟩ = some (.int .u8 (y0 : Int)) ∧ w'.cell? ⟨g, off + (4 * k + 1), none⟩ = some (.int .u8 (y1 : Int)) ∧ w'.cell? ⟨g, off + (4 * k + 2), none⟩ = some (.int .u8 (y2 : Int)) ∧ w'.cell? ⟨g, off + (4 * k + 3), none⟩ = some (.int .u8 (y3 : Int))))
   have e0 : IntKind.i64.wrap (4 * (k : Int)) = ((4 * k : Nat) : Int) := by rw [show (4 : Int) * k = ((4 * k : Nat) : Int) by omega]; exact wrap_small _ (by omega)
   have e1 : IntKind.i64.wrap (((4 * k : Nat) : Int) + 1) = ((4 * k + 1 : Nat) : Int) := wrap_small (4 * k + 1) (by omega)
   have e2 : IntKind.i64.wrap (((4 * k : Nat) : Int) + 2) = ((4 * k + 2 : Nat) : Int) := wrap_small (4 * k + 2) (by omega)
   have e3 : IntKind.i64.wrap (((4 * k : Nat) : Int) + 3) = ((4 * k + 3 : Nat) : Int) := wrap_small (4 * k + 3) (by omega)
   clear z0 z1 z2 z3 hcc
   have hm0 : ((4 * k : Nat) : Int) < 64 := by omega
   have hm1 : ((4 * k + 1 : Nat) : Int) < 64 := by omega
   have hm2 : ((4 * k + 2 : Nat) : Int) < 64 := by omega
   have hm3 : ((4 * k + 3 : Nat) : Int) < 64 := by omega
   have hki : (k : Int) < 64 := by omega
   generalize 4 * k = m at *
   generalize m + 1 = m1 at *
   generalize m + 2 = m2 at *
   generalize m + 3 = m3 at *
   have f0 := wd_wrap y0
   have f1 := wd_wrap y1
   have f2 := wd_wrap y2
   have f3 := wd_wrap y3
   generalize BitVec.ofNat 32 y0 = Y0 at *
   generalize BitVec.ofNat 32 y1 = Y1 at *
   generalize BitVec.ofNat 32 y2 = Y2 at *
   generalize BitVec.ofNat 32 y3 = Y3 at *
   have s0 : IntKind.u32.wrap (wv Y0 * 16777216) = wv (Y0 <<< 24) := wd_shl Y0 24
   have s1 : IntKind.u32.wrap (wv Y1 * 65536) = wv (Y1 <<< 16) := wd_shl Y1 16
   have s2 : IntKind.u32.wrap (wv Y2 * 256) = wv (Y2 <<< 8) := wd_shl Y2 8
   generalize Y0 <<< 24 = V0 at *
   generalize Y1 <<< 16 = V1 at *
   generalize Y2 <<< 8 = V2 at *
   have w0 := wd_or V0 V1
   have w1 := wd_or (V0 ||| V1) V2
   have w2 := wd_or (V0 ||| V1 ||| V2) Y3
   refine startF 36 (S := fun w' => w'.cell? ⟨g, off + m, none⟩ = some (.int .u8 (y0 : Int)) ∧ w'.cell? ⟨g, off + m1, none⟩ = some (.int .u8 (y1 : Int)) ∧ w'.cell? ⟨g, off + m2, none⟩ = some (.int .u8 (y2 : Int)) ∧ w'.cell? ⟨g, off + m3, none⟩ = some (.int .u8 (y3 : Int))) (by kernel_rfl) rfl (unhide SF _ (unhide H1).fb) (fun hHeld => ?_)
   simp only [List.replicate]
   repeat ((first | (refine tkF ?_ rfl (by kernel_rfl) (by rfl) (fun _ _ _ h => h) ?_ hHeld ?_; rotate_left; · (intro w hSw; (try dsimp only at hSw); go_simp <;> with_reducible rfl)) | refine skF rfl (by kernel_rfl) (by rfl) (fun _ _ _ h => h) hHeld ?_); simp only [Act.put, setF, List.setIfInBounds_toArray, List.set_cons_zero, List.set_cons_succ])
   have kc := arr_cell (unhide H1).fw (i := k) (by rw [fillW_length]; omega)
   have kf := block_frozen (unhide H1).fw k
   generalize (fillW bs k).getD k 0 = old at *
   have H2 := hide (((unhide H).setW (unhide HN) k (V0 ||| V1 ||| V2 ||| Y3)).next (below_drew (w := wr.setCell ⟨N + 1 + 1, k, none⟩ (.int .u32 (wv (V0 ||| V1 ||| V2 ||| Y3))))))
   rw [unhide HF] at H2
   refine runI 35 rfl (by kernel_rfl) (by kernel_rfl) (fun K hK => ?_)
   have HK := hide hK
   clear hK hHeld
   go_simp
   refine (unhide HK).out _ _ (unhide SF _ (unhide H2).fb) (fun hHeld => ?_)
   clear HK K
   simp only [List.setIfInBounds_toArray, List.set_cons_zero, List.set_cons_succ]
   refine wpAnyH_done (by kernel_rfl) ?_ _
   clear hHeld
   clear kc kf
   generalize (wr.setCell ⟨N + 1 + 1, k, none⟩ (.int .u32 (wv (V0 ||| V1 ||| V2 ||| Y3)))).drew = w3 at *
   clear H H1
   clear w0 w1 w2 f0 f1 f2 f3 s0 s1 s2 e0 e1 e2 e3 hm0 hm1 hm2 hm3
   go_wp2
   exact ⟨⟨k + 1, by omega, by go_num, H2⟩, by simp [intOf]; omega⟩

  ·have HE : Hid (In7 N w wr (l8 s) (fillW bs 16)) := by
    have e : k = 16 := by omega
    rw [← e]
    exact H
   clear H
   go_wp2_with fail
   clear hk hlt
   go_loopw [7, 8, 9, 10, 11] (fun i _ _ _ _ wr => ∃ (k : Nat), 16 ≤ k ∧ k ≤ 64 ∧ i = .int .i64 k ∧ Hid (In7 N w wr (l8 s) (fillW bs k))) (fun i _ _ _ _ _ => 64 - (intOf i).toNat)
   case atStart => exact ⟨16, Nat.le_refl _, by omega, rfl, HE⟩
   case round =>
    clear HE
    obtain ⟨k, hk0, hk, rfl, H⟩ := hrel
    by_cases hlt : k < 64
    ·go_wp2_with fail
     have H1 := hide ((unhide H).next (below_drew (w := wr)))
     clear H
     have e2 : IntKind.i64.wrap ((k : Int) - 2) = ((k - 2 : Nat) : Int) := by rw [show (k : Int) - 2 = ((k - 2 : Nat) : Int) by omega]; exact wrap_small _ (by omega)
     have e7 : IntKind.i64.wrap ((k : Int) - 7) = ((k - 7 : Nat) : Int) := by rw [show (k : Int) - 7 = ((k - 7 : Nat) : Int) by omega]; exact wrap_small _ (by omega)
     have e15 : IntKind.i64.wrap ((k : Int) - 15) = ((k - 15 : Nat) : Int) := by rw [show (k : Int) - 15 = ((k - 15 : Nat) : Int) by omega]; exact wrap_small _ (by omega)
     have e16 : IntKind.i64.wrap ((k : Int) - 16) = ((k - 16 : Nat) : Int) := by rw [show (k : Int) - 16 = ((k - 16 : Nat) : Int) by omega]; exact wrap_small _ (by omega)
     have l2 : ((k - 2 : Nat) : Int) < 64 := by omega
     have l7 : ((k - 7 : Nat) : Int) < 64 := by omega
     have l15 : ((k - 15 : Nat) : Int) < 64 := by omega
     have l16 : ((k - 16 : Nat) : Int) < 64 := by omega
     have lk : (k : Int) < 64 := by omega
     have HF := hide (fillW_next bs hk0)
     have SF := hide (fun (w' : World) (x : BitVec 32) (hb : w'.heap[N + 1 + 1]? = some (.cells (cellsU (fillW bs k)) 110) ∨ w'.heap[N + 1 + 1]? = some (.cells (cellsU ((fillW bs k).set k x)) 110)) => (⟨arr_or hb (by rw [fillW_length]; omega) (by omega), arr_or hb (by rw [fillW_length]; omega) (by omega), arr_or hb (by rw [fillW_length]; omega) (by omega), arr_or hb (by rw [fillW_length]; omega) (by omega)⟩ : w'.cell? ⟨N + 1 + 1, k - 2, none⟩ = some (.int .u32 (wv ((fillW bs k).getD (k - 2) 0))) ∧ w'.cell? ⟨N + 1 + 1, k - 7, none⟩ = some (.int .u32 (wv ((fillW bs k).getD (k - 7) 0))) ∧ w'.cell? ⟨N + 1 + 1, k - 15, none⟩ = some (.int .u32 (wv ((fillW bs k).getD (k - 15) 0))) ∧ w'.cell? ⟨N + 1 + 1, k - 16, none⟩ = some (.int .u32 (wv ((fillW bs k).getD (k - 16) 0)))))
     generalize (fillW bs k).getD (k - 2) 0 = X2 at *
     generalize (fillW bs k).getD (k - 7) 0 = X7 at *
     generalize (fillW bs k).getD (k - 15) 0 = X15 at *
     generalize (fillW bs k).getD (k - 16) 0 = X16 at *
     generalize k - 2 = p2 at *
     generalize k - 7 = p7 at *
     generalize k - 15 = p15 at *
     generalize k - 16 = p16 at *
     refine startF 10 (S := fun w' => w'.cell? ⟨N + 1 + 1, p2, none⟩ = some (.int .u32 (wv X2)) ∧ w'.cell? ⟨N + 1 + 1, p7, none⟩ = some (.int .u32 (wv X7)) ∧ w'.cell? ⟨N + 1 + 1, p15, none⟩ = some (.int .u32 (wv X15)) ∧ w'.cell? ⟨N + 1 + 1, p16, none⟩ = some (.int .u32 (wv X16))) (by kernel_rfl) rfl (unhide SF _ 0 (.inl (unhide H1).fw)) (fun hHeld => ?_)
     simp only [List.replicate]
     repeat ((first | (refine tkF ?_ rfl (by kernel_rfl) (by rfl) (fun _ _ _ h => h) ?_ hHeld ?_; rotate_left; · (intro w hSw; (try dsimp only at hSw); go_simp <;> with_reducible rfl)) | refine skF rfl (by kernel_rfl) (by rfl) (fun _ _ _ h => h) hHeld ?_); simp only [Act.put, setF, List.setIfInBounds_toArray, List.set_cons_zero, List.set_cons_succ])
     refine wpAnyH_done (by kernel_rfl) ?_ _
     clear hHeld
     generalize wr.drew = w1 at *
     go_wp2_with fail
     refine (l7turn_b X15 7 (by omega) _).mono ?_
     rintro e w2 ⟨rfl, b2⟩
     replace H1 := hide ((unhide H1).next b2)
     clear b2
     go_wp2_with fail
     refine (l7turn_b X15 18 (by omega) _).mono ?_
     rintro e w3 ⟨rfl, b3⟩
     replace H1 := hide ((unhide H1).next b3)
     clear b3
     have r1 := wd_xor (turnR X15 7) (turnR X15 18)
     go_wp2_with fail
     clear r1
     refine (l7turn_b X2 17 (by omega) _).mono ?_
     rintro e w4 ⟨rfl, b4⟩
     replace H1 := hide ((unhide H1).next b4)
     clear b4
     go_wp2_with fail
     refine (l7turn_b X2 19 (by omega) _).mono ?_
     rintro e w5 ⟨rfl, b5⟩
     replace H1 := hide ((unhide H1).next b5)
     clear b5
     have r1 := wd_xor (turnR X2 17) (turnR X2 19)
     have r2 : wv X2 / (1024 : Int) = wv (X2 >>> 10) := wd_div X2 10
     have r3 := wd_xor (turnR X2 17 ^^^ turnR X2 19) (X2 >>> 10)
     go_wp2_with fail
     rw [show wv X15 / (8 : Int) = wv (X15 >>> 3) from wd_div X15 3, wd_xor (turnR X15 7 ^^^ turnR X15 18) (X15 >>> 3)]
     clear r1 r2 r3
     have g0 : turnR X15 7 ^^^ turnR X15 18 ^^^ X15 >>> 3 = smallS0 X15 := rfl
     have g1 : turnR X2 17 ^^^ turnR X2 19 ^^^ X2 >>> 10 = smallS1 X2 := rfl
     rw [g0, g1]
     clear g0 g1
     generalize smallS0 X15 = A0 at *
     generalize smallS1 X2 = A1 at *
     have q1 := wd_add X16 A0
     have q2 := wd_add (X16 + A0) X7
     have q3 := wd_add (X16 + A0 + X7) A1
     generalize w5 = w6 at *
     have H2 := hide ((unhide H1).next (below_drew (w := w6)))
     have kc := arr_cell (unhide H2).fw (i := k) (by rw [fillW_length]; omega)
     have kf := block_frozen (unhide H2).fw k
     generalize (fillW bs k).getD k 0 = old at *
     have H3 := hide (((unhide H1).setW (unhide HN) k (X16 + A0 + X7 + A1)).next (below_drew (w := w6.setCell ⟨N + 1 + 1, k, none⟩ (.int .u32 (wv (X16 + A0 + X7 + A1))))))
     have SG := hide (unhide SF _ _ (.inr (unhide H3).fw))
     rw [← unhide HF] at H3
     refine startF 16 (S := fun w' => w'.cell? ⟨N + 1 + 1, p2, none⟩ = some (.int .u32 (wv X2)) ∧ w'.cell? ⟨N + 1 + 1, p7, none⟩ = some (.int .u32 (wv X7)) ∧ w'.cell? ⟨N + 1 + 1, p15, none⟩ = some (.int .u32 (wv X15)) ∧ w'.cell? ⟨N + 1 + 1, p16, none⟩ = some (.int .u32 (wv X16))) (by kernel_rfl) rfl (unhide SF _ 0 (.inl (unhide H2).fw)) (fun hHeld => ?_)
     simp only [List.replicate]
     repeat ((first | (refine tkF ?_ rfl (by kernel_rfl) (by rfl) (fun _ _ _ h => h) ?_ hHeld ?_; rotate_left; · (intro w hSw; (try dsimp only at hSw); go_simp <;> with_reducible rfl)) | refine skF rfl (by kernel_rfl) (by rfl) (fun _ _ _ h => h) hHeld ?_); simp only [Act.put, setF, List.setIfInBounds_toArray, List.set_cons_zero, List.set_cons_succ])
     refine runI 15 rfl (by kernel_rfl) (by kernel_rfl) (fun K hK => ?_)
     have HK := hide hK
     clear hK hHeld
     go_simp
     refine (unhide HK).out _ _ (unhide SG) (fun hHeld => ?_)
     clear HK K
     simp only [List.setIfInBounds_toArray, List.set_cons_zero, List.set_cons_succ]
     refine wpAnyH_done (by kernel_rfl) ?_ _
     clear hHeld
     clear kc kf q1 q2 q3 e2 e7 e15 e16 l2 l7 l15 l16 lk
     generalize (w6.setCell ⟨N + 1 + 1, k, none⟩ (.int .u32 (wv (X16 + A0 + X7 + A1)))).drew = w7 at *
     clear H1 H2 SF HF
     go_wp2
     exact ⟨⟨k + 1, by omega, by omega, by go_num, H3⟩, by simp [intOf]; omega⟩
    ·have HK64 := hide (show k = 64 by omega)
     have e : ¬ ((k : Int) < 64) := by omega
     have HE := H
     clear H HCELL h8 hg hc1 hc2 hk hlt hk0
     obtain ⟨CW, HCW⟩ : ∃ CW, Hid (fillW bs k = CW) := ⟨_, hide rfl⟩
     rw [unhide HCW] at HE
     have hCL := hide (show CW.length = 64 by rw [← unhide HCW]; exact fillW_length bs k)
     have ka := heap_alloc_new wr (.cells (cellsU (List.replicate 8 0)) 79)
     have ba := below_alloc (w := wr) (.cells (cellsU (List.replicate 8 0)) 79)
     have HT := hide (block_there ka (n := (cellsU (l8 s)).size) (by rw [cellsU_size, cellsU_size]; rfl))
     have kv := block_whole ka (cs := cellsU (l8 s)) (by rw [cellsU_size, cellsU_size]; rfl)
     have zq : N + 1 + 1 < wr.heap.size := block_lt (unhide HE).fw
     have H3 := hide (((unhide HE).next ba).out (unhide HN) zq (outside_sets wr.heap.size (cellsU (l8 s)).toList 0 (wr.alloc (.cells (cellsU (List.replicate 8 0)) 79))))
     have KV := hide kv
     have ZQ := hide zq
     clear ka ba kv zq
     go_wp2_with (first
      | (refine list_loadU rfl 79 (.tmp 2) rfl N rfl (l8 s) (unhide HE).fh Tryd.underlying79 rfl size79 ?_)
      | (refine list_alloc (v := .pointer (some ⟨wr.heap.size, 0, none⟩)) (w' := wr.alloc (.cells (cellsU (List.replicate 8 0)) 79)) rfl rfl (by kernel_rfl) ?_)
      | (refine wpList_store_mid rfl 79 (.tmp 12) (.tmp 102) rfl wr.heap.size 0 (cellsU (l8 s)) rfl rfl (unhide HT) (sz8 s) (cellsU_one _) ?_; generalize (wr.alloc (.cells (cellsU (List.replicate 8 0)) 79)).setCells wr.heap.size 0 (cellsU (l8 s)).toList = W3 at *; generalize wr.heap.size = q at *))
     clear HT HE e
     go_loopw [13, 14, 15, 16, 17, 18] (fun i _ _ _ _ _ wr => ∃ (k : Nat), k ≤ 64 ∧ i = .int .i64 k ∧ Hid (In7 N w wr (l8 s) CW ∧ wr.heap[q]? = some (.cells (cellsU (l8 (mixS bs s k))) 79))) (fun i _ _ _ _ _ _ => 64 - (intOf i).toNat)
     case atStart => exact ⟨0, Nat.zero_le _, rfl, hide ⟨unhide H3, unhide KV⟩⟩
     case round =>
      clear H3 KV
      obtain ⟨n, hn, rfl, H⟩ := hrel
      by_cases hlt : n < 64
      ·have lk : (n : Int) < 64 := by omega
       obtain ⟨M1, HM1⟩ : ∃ M1, Hid (mixS bs s (n + 1) = M1) := ⟨_, hide rfl⟩
       have HX := hide (show M1 = roundS (mixS bs s n) (kW.getD n 0) (CW.getD n 0) by rw [← unhide HM1, ← unhide HCW, unhide HK64]; rfl)
       have HRD := hide (fun (w0 : World) => l7round_is hlt w0)
       have hCn := hide (show n < CW.length by rw [unhide hCL]; exact hlt)
       generalize mixS bs s n = M at *
       generalize kW.getD n 0 = kk at *
       have HWn := hide (fun (w' : World) (hb : w'.heap[N + 1 + 1]? = some (.cells (cellsU CW) 110)) => arr_cell hb (unhide hCn))
       generalize CW.getD n 0 = ww at *
       have H1 := hide ((unhide H).1.next (below_drew (w := wr)))
       have K1 := hide (block_kept (below_drew (w := wr)) (unhide H).2)
       go_wp2_with fail
       have HLT := hide hlt
       clear hlt hn
       have x1 := wd_xor (turnR M.e 6) (turnR M.e 11)
       have x2 := wd_xor (turnR M.e 6 ^^^ turnR M.e 11) (turnR M.e 25)
       refine startF 12 (S := fun w' => w'.cell? ⟨q, 4, none⟩ = some (.int .u32 (wv M.e))) (by kernel_rfl) rfl (arr8 (unhide K1)).2.2.2.2.1 (fun hHeld => ?_)
       simp only [List.replicate]
       repeat ((first | (refine tkF ?_ rfl (by kernel_rfl) (by rfl) (fun _ _ _ h => h) ?_ hHeld ?_; rotate_left; · (intro w hSw; (try dsimp only at hSw); go_simp <;> with_reducible rfl)) | refine skF rfl (by kernel_rfl) (by rfl) (fun _ _ _ h => h) hHeld ?_); simp only [Act.put, setF, List.setIfInBounds_toArray, List.set_cons_zero, List.set_cons_succ])
       refine tkI 3 ?_ rfl (by kernel_rfl) (by kernel_rfl) (fun _ _ _ h => h) ?_ hHeld ?_; rotate_left; (· (intro w hSw; (try dsimp only at hSw); go_simp <;> with_reducible rfl)); simp only [Act.put, List.setIfInBounds_toArray, List.set_cons_zero, List.set_cons_succ]
       refine tkI 4 ?_ rfl (by kernel_rfl) (by kernel_rfl) (fun _ _ _ h => h) ?_ hHeld ?_; rotate_left; (· (intro w hSw; (try dsimp only at hSw); go_simp <;> with_reducible rfl)); simp only [Act.put, List.setIfInBounds_toArray, List.set_cons_zero, List.set_cons_succ]
       refine tkI 7 ?_ rfl (by kernel_rfl) (by kernel_rfl) (fun _ _ _ h => h) ?_ hHeld ?_; rotate_left; (· (intro w hSw; (try dsimp only at hSw); go_simp <;> with_reducible rfl)); simp only [Act.put, List.setIfInBounds_toArray, List.set_cons_zero, List.set_cons_succ]
       refine tkI 8 ?_ rfl (by kernel_rfl) (by kernel_rfl) (fun _ _ _ h => h) ?_ hHeld ?_; rotate_left; (· (intro w hSw; (try dsimp only at hSw); go_simp <;> with_reducible rfl)); simp only [Act.put, List.setIfInBounds_toArray, List.set_cons_zero, List.set_cons_succ]
       refine runI 2 rfl (by kernel_rfl) (by kernel_rfl) (fun K hK => ?_)
       have HK := hide hK
       clear hK hHeld
       go_simp
       refine (l7turn_b M.e 6 (by omega) _).mono ?_
       rintro e wa6 ⟨rfl, b2⟩
       replace H1 := hide ((unhide H1).next b2)
       replace K1 := hide (block_kept b2 (unhide K1))
       clear b2
       go_simp
       refine (unhide HK).out _ _ (arr8 (unhide K1)).2.2.2.2.1 (fun hHeld => ?_)
       clear HK K
       simp only [List.setIfInBounds_toArray, List.set_cons_zero, List.set_cons_succ]
       repeat ((first | (refine tkF ?_ rfl (by kernel_rfl) (by rfl) (fun _ _ _ h => h) ?_ hHeld ?_; rotate_left; · (intro w hSw; (try dsimp only at hSw); go_simp <;> with_reducible rfl)) | refine skF rfl (by kernel_rfl) (by rfl) (fun _ _ _ h => h) hHeld ?_); simp only [Act.put, setF, List.setIfInBounds_toArray, List.set_cons_zero, List.set_cons_succ])
       refine runI 5 rfl (by kernel_rfl) (by kernel_rfl) (fun K hK => ?_)
       have HK := hide hK
       clear hK hHeld
       go_simp
       refine (l7turn_b M.e 11 (by omega) _).mono ?_
       rintro e wa11 ⟨rfl, b2⟩
       replace H1 := hide ((unhide H1).next b2)
       replace K1 := hide (block_kept b2 (unhide K1))
       clear b2
       go_simp
       refine (unhide HK).out _ _ (arr8 (unhide K1)).2.2.2.2.1 (fun hHeld => ?_)
       clear HK K
       simp only [List.setIfInBounds_toArray, List.set_cons_zero, List.set_cons_succ]
       repeat ((first | (refine tkF ?_ rfl (by kernel_rfl) (by rfl) (fun _ _ _ h => h) ?_ hHeld ?_; rotate_left; · (intro w hSw; (try dsimp only at hSw); go_simp <;> with_reducible rfl)) | refine skF rfl (by kernel_rfl) (by rfl) (fun _ _ _ h => h) hHeld ?_); simp only [Act.put, setF, List.setIfInBounds_toArray, List.set_cons_zero, List.set_cons_succ])
       refine runI 9 rfl (by kernel_rfl) (by kernel_rfl) (fun K hK => ?_)
       have HK := hide hK
       clear hK hHeld
       go_simp
       refine (l7turn_b M.e 25 (by omega) _).mono ?_
       rintro e wa25 ⟨rfl, b2⟩
       replace H1 := hide ((unhide H1).next b2)
       replace K1 := hide (block_kept b2 (unhide K1))
       clear b2
       go_simp
       refine (unhide HK).out _ _ (arr8 (unhide K1)).2.2.2.2.1 (fun hHeld => ?_)
       clear HK K
       simp only [List.setIfInBounds_toArray, List.set_cons_zero, List.set_cons_succ]
       repeat ((first | (refine tkF ?_ rfl (by kernel_rfl) (by rfl) (fun _ _ _ h => h) ?_ hHeld ?_; rotate_left; · (intro w hSw; (try dsimp only at hSw); go_simp <;> with_reducible rfl)) | refine skF rfl (by kernel_rfl) (by rfl) (fun _ _ _ h => h) hHeld ?_); simp only [Act.put, setF, List.setIfInBounds_toArray, List.set_cons_zero, List.set_cons_succ])
       refine wpAnyH_done (by kernel_rfl) ?_ _
       clear hHeld
       clear x1 x2
       generalize hS1 : turnR M.e 6 ^^^ turnR M.e 11 ^^^ turnR M.e 25 = S1 at *
       have HS1 := hide hS1
       clear hS1
       obtain ⟨c0, c1, c2, c3, c4, c5, c6, c7⟩ := arr8 (unhide K1)
       have x1 := wd_and M.e M.f
       have x2 : bits .xor .u32 IntKind.u32.max (wv M.e) = wv (~~~M.e) := wd_not M.e
       have x3 := wd_and (~~~M.e) M.g
       have x4 := wd_xor (M.e &&& M.f) (~~~M.e &&& M.g)
       go_wp2_with fail
       clear x1 x2 x3 x4 c0 c1 c2 c3 c4 c5 c6 c7
       generalize hCH : (M.e &&& M.f) ^^^ (~~~M.e &&& M.g) = CH at *
       have HCH := hide hCH
       clear hCH
       replace H1 := hide ((unhide H1).next (below_drew (w := wa25)))
       replace K1 := hide (block_kept (below_drew (w := wa25)) (unhide K1))
       have x1 := wd_add M.h S1
       have x2 := wd_add (M.h + S1) CH
       have x3 := wd_add (M.h + S1 + CH) kk
       have x4 := wd_add (M.h + S1 + CH + kk) ww
       refine startF 14 (S := fun w' => w'.cell? ⟨q, 7, none⟩ = some (.int .u32 (wv M.h)) ∧ w'.cell? ⟨N + 1 + 1, n, none⟩ = some (.int .u32 (wv ww))) (by kernel_rfl) rfl ⟨(arr8 (unhide K1)).2.2.2.2.2.2.2, unhide HWn _ (unhide H1).fw⟩ (fun hHeld => ?_)
       simp only [List.replicate]
       repeat ((first | (refine tkF ?_ rfl (by kernel_rfl) (by rfl) (fun _ _ _ h => h) ?_ hHeld ?_; rotate_left; · (intro w hSw; (try dsimp only at hSw); go_simp <;> with_reducible rfl)) | refine skF rfl (by kernel_rfl) (by rfl) (fun _ _ _ h => h) hHeld ?_); simp only [Act.put, setF, List.setIfInBounds_toArray, List.set_cons_zero, List.set_cons_succ])
       refine tkI 9 ?_ rfl (by kernel_rfl) (by kernel_rfl) (fun _ _ _ h => h) ?_ hHeld ?_; rotate_left; (· (intro w hSw; (try dsimp only at hSw); go_simp <;> with_reducible rfl)); simp only [Act.put, List.setIfInBounds_toArray, List.set_cons_zero, List.set_cons_succ]
       refine tkI 10 ?_ rfl (by kernel_rfl) (by kernel_rfl) (fun _ _ _ h => h) ?_ hHeld ?_; rotate_left; (· (intro w hSw; (try dsimp only at hSw); go_simp <;> with_reducible rfl)); simp only [Act.put, List.setIfInBounds_toArray, List.set_cons_zero, List.set_cons_succ]
       refine tkI 11 ?_ rfl (by kernel_rfl) (by kernel_rfl) (fun _ _ _ h => h) ?_ hHeld ?_; rotate_left; (· (intro w hSw; (try dsimp only at hSw); go_simp <;> with_reducible rfl)); simp only [Act.put, List.setIfInBounds_toArray, List.set_cons_zero, List.set_cons_succ]
       refine runI 7 rfl (by kernel_rfl) (by kernel_rfl) (fun K hK => ?_)
       have HK := hide hK
       clear hK hHeld
       go_simp
       refine (unhide HRD _).mono ?_
       rintro e wb ⟨rfl, b2⟩
       replace H1 := hide ((unhide H1).next b2)
       replace K1 := hide (block_kept b2 (unhide K1))
       clear b2
       go_simp
       refine (unhide HK).out _ _ ⟨(arr8 (unhide K1)).2.2.2.2.2.2.2, unhide HWn _ (unhide H1).fw⟩ (fun hHeld => ?_)
       clear HK K
       simp only [List.setIfInBounds_toArray, List.set_cons_zero, List.set_cons_succ]
       repeat ((first | (refine tkF ?_ rfl (by kernel_rfl) (by rfl) (fun _ _ _ h => h) ?_ hHeld ?_; rotate_left; · (intro w hSw; (try dsimp only at hSw); go_simp <;> with_reducible rfl)) | refine skF rfl (by kernel_rfl) (by rfl) (fun _ _ _ h => h) hHeld ?_); simp only [Act.put, setF, List.setIfInBounds_toArray, List.set_cons_zero, List.set_cons_succ])
       refine wpAnyH_done (by kernel_rfl) ?_ _
       clear hHeld
       clear x1 x2 x3 x4
       generalize hT : M.h + S1 + CH + kk + ww = T at *
       have HT := hide hT
       clear hT
       go_wp2_with fail
       replace H1 := hide ((unhide H1).next (below_drew (w := wb)))
       replace K1 := hide (block_kept (below_drew (w := wb)) (unhide K1))
       have x1 := wd_xor (turnR M.a 2) (turnR M.a 13)
       have x2 := wd_xor (turnR M.a 2 ^^^ turnR M.a 13) (turnR M.a 22)
       refine startF 12 (S := fun w' => w'.cell? ⟨q, 0, none⟩ = some (.int .u32 (wv M.a))) (by kernel_rfl) rfl (arr8 (unhide K1)).1 (fun hHeld => ?_)
       simp only [List.replicate]
       repeat ((first | (refine tkF ?_ rfl (by kernel_rfl) (by rfl) (fun _ _ _ h => h) ?_ hHeld ?_; rotate_left; · (intro w hSw; (try dsimp only at hSw); go_simp <;> with_reducible rfl)) | refine skF rfl (by kernel_rfl) (by rfl) (fun _ _ _ h => h) hHeld ?_); simp only [Act.put, setF, List.setIfInBounds_toArray, List.set_cons_zero, List.set_cons_succ])
       refine tkI 3 ?_ rfl (by kernel_rfl) (by kernel_rfl) (fun _ _ _ h => h) ?_ hHeld ?_; rotate_left; (· (intro w hSw; (try dsimp only at hSw); go_simp <;> with_reducible rfl)); simp only [Act.put, List.setIfInBounds_toArray, List.set_cons_zero, List.set_cons_succ]
       refine tkI 4 ?_ rfl (by kernel_rfl) (by kernel_rfl) (fun _ _ _ h => h) ?_ hHeld ?_; rotate_left; (· (intro w hSw; (try dsimp only at hSw); go_simp <;> with_reducible rfl)); simp only [Act.put, List.setIfInBounds_toArray, List.set_cons_zero, List.set_cons_succ]
       refine tkI 7 ?_ rfl (by kernel_rfl) (by kernel_rfl) (fun _ _ _ h => h) ?_ hHeld ?_; rotate_left; (· (intro w hSw; (try dsimp only at hSw); go_simp <;> with_reducible rfl)); simp only [Act.put, List.setIfInBounds_toArray, List.set_cons_zero, List.set_cons_succ]
       refine tkI 8 ?_ rfl (by kernel_rfl) (by kernel_rfl) (fun _ _ _ h => h) ?_ hHeld ?_; rotate_left; (· (intro w hSw; (try dsimp only at hSw); go_simp <;> with_reducible rfl)); simp only [Act.put, List.setIfInBounds_toArray, List.set_cons_zero, List.set_cons_succ]
       refine runI 2 rfl (by kernel_rfl) (by kernel_rfl) (fun K hK => ?_)
       have HK := hide hK
       clear hK hHeld
       go_simp
       refine (l7turn_b M.a 2 (by omega) _).mono ?_
       rintro e wc2 ⟨rfl, b2⟩
       replace H1 := hide ((unhide H1).next b2)
       replace K1 := hide (block_kept b2 (unhide K1))
       clear b2
       go_simp
       refine (unhide HK).out _ _ (arr8 (unhide K1)).1 (fun hHeld => ?_)
       clear HK K
       simp only [List.setIfInBounds_toArray, List.set_cons_zero, List.set_cons_succ]
       repeat ((first | (refine tkF ?_ rfl (by kernel_rfl) (by rfl) (fun _ _ _ h => h) ?_ hHeld ?_; rotate_left; · (intro w hSw; (try dsimp only at hSw); go_simp <;> with_reducible rfl)) | refine skF rfl (by kernel_rfl) (by rfl) (fun _ _ _ h => h) hHeld ?_); simp only [Act.put, setF, List.setIfInBounds_toArray, List.set_cons_zero, List.set_cons_succ])
       refine runI 5 rfl (by kernel_rfl) (by kernel_rfl) (fun K hK => ?_)
       have HK := hide hK
       clear hK hHeld
       go_simp
       refine (l7turn_b M.a 13 (by omega) _).mono ?_
       rintro e wc13 ⟨rfl, b2⟩
       replace H1 := hide ((unhide H1).next b2)
       replace K1 := hide (block_kept b2 (unhide K1))
       clear b2
       go_simp
       refine (unhide HK).out _ _ (arr8 (unhide K1)).1 (fun hHeld => ?_)
       clear HK K
       simp only [List.setIfInBounds_toArray, List.set_cons_zero, List.set_cons_succ]
       repeat ((first | (refine tkF ?_ rfl (by kernel_rfl) (by rfl) (fun _ _ _ h => h) ?_ hHeld ?_; rotate_left; · (intro w hSw; (try dsimp only at hSw); go_simp <;> with_reducible rfl)) | refine skF rfl (by kernel_rfl) (by rfl) (fun _ _ _ h => h) hHeld ?_); simp only [Act.put, setF, List.setIfInBounds_toArray, List.set_cons_zero, List.set_cons_succ])
       refine runI 9 rfl (by kernel_rfl) (by kernel_rfl) (fun K hK => ?_)
       have HK := hide hK
       clear hK hHeld
       go_simp
       refine (l7turn_b M.a 22 (by omega) _).mono ?_
       rintro e wc22 ⟨rfl, b2⟩
       replace H1 := hide ((unhide H1).next b2)
       replace K1 := hide (block_kept b2 (unhide K1))
       clear b2
       go_simp
       refine (unhide HK).out _ _ (arr8 (unhide K1)).1 (fun hHeld => ?_)
       clear HK K
       simp only [List.setIfInBounds_toArray, List.set_cons_zero, List.set_cons_succ]
       repeat ((first | (refine tkF ?_ rfl (by kernel_rfl) (by rfl) (fun _ _ _ h => h) ?_ hHeld ?_; rotate_left; · (intro w hSw; (try dsimp only at hSw); go_simp <;> with_reducible rfl)) | refine skF rfl (by kernel_rfl) (by rfl) (fun _ _ _ h => h) hHeld ?_); simp only [Act.put, setF, List.setIfInBounds_toArray, List.set_cons_zero, List.set_cons_succ])
       refine wpAnyH_done (by kernel_rfl) ?_ _
       clear hHeld
       clear x1 x2
       generalize hR : turnR M.a 2 ^^^ turnR M.a 13 ^^^ turnR M.a 22 = R at *
       have HR := hide hR
       clear hR
       obtain ⟨c0, c1, c2, c3, c4, c5, c6, c7⟩ := arr8 (unhide K1)
       have x1 := wd_and M.a M.b
       have x2 := wd_and M.a M.c
       have x3 := wd_xor (M.a &&& M.b) (M.a &&& M.c)
       have x4 := wd_and M.b M.c
       have x5 := wd_xor (M.a &&& M.b ^^^ M.a &&& M.c) (M.b &&& M.c)
       have x6 := wd_add T R
       have x7 := wd_add (T + R) (M.a &&& M.b ^^^ M.a &&& M.c ^^^ M.b &&& M.c)
       have x8 := wd_add M.d T
       have KQ := hide (block_there (unhide K1) (n := (cellsU (l8 ⟨T + R + (M.a &&& M.b ^^^ M.a &&& M.c ^^^ M.b &&& M.c), M.a, M.b, M.c, M.d + T, M.e, M.f, M.g⟩)).size) (by rw [cellsU_size, cellsU_size]; rfl))
       have KW := hide (block_whole (unhide K1) (cs := cellsU (l8 ⟨T + R + (M.a &&& M.b ^^^ M.a &&& M.c ^^^ M.b &&& M.c), M.a, M.b, M.c, M.d + T, M.e, M.f, M.g⟩)) (by rw [cellsU_size, cellsU_size]; rfl))
       have H4 := hide ((unhide H1).out (unhide HN) (unhide ZQ) (outside_sets q (cellsU (l8 ⟨T + R + (M.a &&& M.b ^^^ M.a &&& M.c ^^^ M.b &&& M.c), M.a, M.b, M.c, M.d + T, M.e, M.f, M.g⟩)).toList 0 wc22))
       go_wp2_with (first
        | (refine list_build (v := .agg (cellsU (l8 ⟨T + R + (M.a &&& M.b ^^^ M.a &&& M.c ^^^ M.b &&& M.c), M.a, M.b, M.c, M.d + T, M.e, M.f, M.g⟩))) (w' := wc22) rfl rfl (by kernel_rfl) ?_)
        | (refine wpList_store_mid rfl 79 (.tmp 12) (.tmp 192) rfl q 0 (cellsU (l8 ⟨T + R + (M.a &&& M.b ^^^ M.a &&& M.c ^^^ M.b &&& M.c), M.a, M.b, M.c, M.d + T, M.e, M.f, M.g⟩)) rfl rfl (unhide KQ) (sz8 _) (cellsU_one _) ?_; generalize wc22.setCells q 0 (cellsU (l8 ⟨T + R + (M.a &&& M.b ^^^ M.a &&& M.c ^^^ M.b &&& M.c), M.a, M.b, M.c, M.d + T, M.e, M.f, M.g⟩)).toList = W4 at *))
       have hM1 : (⟨T + R + (M.a &&& M.b ^^^ M.a &&& M.c ^^^ M.b &&& M.c), M.a, M.b, M.c, M.d + T, M.e, M.f, M.g⟩ : S8) = M1 := by
        rw [unhide HX, ← unhide HT, ← unhide HR, ← unhide HS1, ← unhide HCH]
        rfl
       rw [hM1, ← unhide HM1] at KW
       have hlt := unhide HLT
       exact ⟨⟨n + 1, by omega, by go_num, hide ⟨unhide H4, unhide KW⟩⟩, by simp [intOf]; omega⟩
      ·have HM := hide (show blockS s bs = addS s (mixS bs s n) by rw [show n = 64 by omega]; rfl)
       have e : ¬ ((n : Int) < 64) := by omega
       generalize mixS bs s n = M at *
       clear hlt hn
       go_wp2_with fail
       clear e
       go_loopw [19] (fun i wr => ∃ (k : Nat), k ≤ 8 ∧ i = .int .i64 k ∧ Hid (In7 N w wr (addK (l8 s) (l8 M) k) CW ∧ wr.heap[q]? = some (.cells (cellsU (l8 M)) 79))) (fun i _ => 8 - (intOf i).toNat)
       case atStart => exact ⟨0, Nat.zero_le _, rfl, by rw [addK_zero]; exact H⟩
       case round =>
        clear H
        obtain ⟨p, hp, rfl, H⟩ := hrel
        by_cases hlt : p < 8
        ·have lp : (p : Int) < 8 := by omega
         have HLT := hide hlt
         have H1 := hide ((unhide H).1.next (below_drew (w := wr)))
         have K1 := hide (block_kept (below_drew (w := wr)) (unhide H).2)
         have cx := arr_cell (unhide H1).fh (i := p) (by rw [addK_length]; exact hlt)
         rw [addK_at _ _ hlt] at cx
         have cy := arr_cell (unhide K1) (i := p) hlt
         have fx := block_frozen (unhide H1).fh p
         have HS := hide (addK_set (l8 s) (l8 M) hlt)
         have CY2 := hide (fun (z : Value) => arr_cell (block_kept (below_drew (w := wr.setCell ⟨N, p, none⟩ z)) ((outside_set wr N p z).kept (unhide H).2 (by have := unhide ZQ; omega))) (i := p) hlt)
         generalize (l8 s).getD p 0 = x at *
         generalize (l8 M).getD p 0 = y at *
         have x1 := wd_add x y
         have H2 := hide (((unhide H).1.setH (unhide HN) p (x + y)).next (below_drew (w := wr.setCell ⟨N, p, none⟩ (.int .u32 (wv (x + y))))))
         have K2 := hide (block_kept (below_drew (w := wr.setCell ⟨N, p, none⟩ (.int .u32 (wv (x + y))))) ((outside_set wr N p (.int .u32 (wv (x + y)))).kept (unhide H).2 (by have := unhide ZQ; omega)))
         rw [unhide HS] at H2
         have CY := hide cy
         clear hlt hp cy
         go_wp2_with fail
         refine startF 10 (S := fun w' => w'.cell? ⟨q, p, none⟩ = some (.int .u32 (wv y))) (by kernel_rfl) rfl (unhide CY) (fun hHeld => ?_)
         simp only [List.replicate]
         repeat ((first | (refine tkF ?_ rfl (by kernel_rfl) (by rfl) (fun _ _ _ h => h) ?_ hHeld ?_; rotate_left; · (intro w hSw; (try dsimp only at hSw); go_simp <;> with_reducible rfl)) | refine skF rfl (by kernel_rfl) (by rfl) (fun _ _ _ h => h) hHeld ?_); simp only [Act.put, setF, List.setIfInBounds_toArray, List.set_cons_zero, List.set_cons_succ])
         refine tkI 4 ?_ rfl (by kernel_rfl) (by kernel_rfl) (fun _ _ _ h => h) ?_ hHeld ?_; rotate_left; (· (intro w hSw; (try dsimp only at hSw); go_simp <;> with_reducible rfl)); simp only [Act.put, List.setIfInBounds_toArray, List.set_cons_zero, List.set_cons_succ]
         refine tkI 5 ?_ rfl (by kernel_rfl) (by kernel_rfl) (fun _ _ _ h => h) ?_ hHeld ?_; rotate_left; (· (intro w hSw; (try dsimp only at hSw); go_simp <;> with_reducible rfl)); simp only [Act.put, List.setIfInBounds_toArray, List.set_cons_zero, List.set_cons_succ]
         refine tkI 6 ?_ rfl (by kernel_rfl) (by kernel_rfl) (fun _ _ _ h => h) ?_ hHeld ?_; rotate_left; (· (intro w hSw; (try dsimp only at hSw); go_simp <;> with_reducible rfl)); simp only [Act.put, List.setIfInBounds_toArray, List.set_cons_zero, List.set_cons_succ]
         refine runI 3 rfl (by kernel_rfl) (by kernel_rfl) (fun K hK => ?_)
         have HK := hide hK
         clear hK hHeld
         go_simp
         refine (unhide HK).out _ _ (unhide CY) (fun hHeld => ?_)
         clear HK K
         simp only [List.setIfInBounds_toArray, List.set_cons_zero, List.set_cons_succ]
         refine tkI 7 ?_ rfl (by kernel_rfl) (by kernel_rfl) (fun _ _ _ h => h) ?_ hHeld ?_; rotate_left; (· (intro w hSw; (try dsimp only at hSw); go_simp <;> with_reducible rfl)); simp only [Act.put, List.setIfInBounds_toArray, List.set_cons_zero, List.set_cons_succ]
         refine tkI 8 ?_ rfl (by kernel_rfl) (by kernel_rfl) (fun _ _ _ h => h) ?_ hHeld ?_; rotate_left; (· (intro w hSw; (try dsimp only at hSw); go_simp <;> with_reducible rfl)); simp only [Act.put, List.setIfInBounds_toArray, List.set_cons_zero, List.set_cons_succ]
         refine runI 9 rfl (by kernel_rfl) (by kernel_rfl) (fun K hK => ?_)
         have HK := hide hK
         clear hK hHeld
         go_simp
         refine (unhide HK).out _ _ (unhide CY2 _) (fun hHeld => ?_)
         clear HK K
         simp only [List.setIfInBounds_toArray, List.set_cons_zero, List.set_cons_succ]
         refine wpAnyH_done (by kernel_rfl) ?_ _
         clear hHeld
         generalize (wr.setCell ⟨N, p, none⟩ (.int .u32 (wv (x + y)))).drew = w9 at *
         clear cx fx x1 CY CY2 H1 K1
         have hlt := unhide HLT
         go_wp2
         exact ⟨⟨p + 1, by omega, by go_num, hide ⟨unhide H2, unhide K2⟩⟩, by simp [intOf]; omega⟩
        ·have HE : Hid (In7 N w wr (l8 (addS s M)) CW) := by
          have h1 := (unhide H).1
          rw [show p = 8 by omega, addK_all] at h1
          exact hide h1
         have e : ¬ ((p : Int) < 8) := by omega
         have KR := hide (block_there (unhide HE).fr (n := (cellsU (l8 (addS s M))).size) (by rw [cellsU_size, cellsU_size]; rfl))
         have KS := block_whole (unhide HE).fr (cs := cellsU (l8 (addS s M))) (by rw [cellsU_size, cellsU_size]; rfl)
         have BS := hide ((outside_sets (N + 1) (cellsU (l8 (addS s M))).toList 0 wr).below (unhide HE).fb (by have := unhide HN; omega))
         have HKS := hide KS
         clear H hlt hp KS
         go_wp2_with (first
          | (refine list_loadU rfl 79 (.tmp 2) rfl N rfl (l8 (addS s M)) (unhide HE).fh Tryd.underlying79 rfl size79 ?_)
          | (refine wpList_store_mid rfl 79 (.tmp 4) (.tmp 206) rfl (N + 1) 0 (cellsU (l8 (addS s M))) rfl rfl (unhide KR) (sz8 _) (cellsU_one _) ?_; generalize wr.setCells (N + 1) 0 (cellsU (l8 (addS s M))).toList = W9 at *))
         refine bodyPost_ret (results_cell_row rfl _ _ (N + 1) 79 (cellsU (l8 (addS s M))) (0, 0) _ rfl (unhide HKS) Tryd.underlying79 rfl (by kernel_rfl)) rfl ?_
         rw [unhide HM]
         exact ⟨rfl, by have := unhide BS; rwa [unhide HN] at this⟩
end Go.Proofs.YtkmjghecjlgjpaaDoor
