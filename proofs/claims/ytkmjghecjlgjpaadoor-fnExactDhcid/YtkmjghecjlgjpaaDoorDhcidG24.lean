/-
  Contract of the program's Sha256. Contracts of the program's labelSign and LabelOk.
-/
import Derived.Test.YtkmjghecjlgjpaaDoorDhcidG20
import Derived.Test.YtkmjghecjlgjpaaDoorDhcidG22
import Derived.Test.YtkmjghecjlgjpaaDoorDhcidG23
import Derived.RangeFuncBox
import Derived.Test.YtkmjghecjlgjpaaDoorDhcidG01
import Derived.Test.YtkmjghecjlgjpaaDoorDhcidG00
namespace Go.Proofs.YtkmjghecjlgjpaaDoor
open Go.RowKit Go.Shelf
set_option linter.unusedVariables false
set_option linter.unusedSimpArgs false

theorem size79i : (Tryd.prog.info? 79).map (·.size) = some 8 := by kernel_rfl
def sumL (p : List Int) (ks : List Nat) : S8 := ks.foldl (fun s k => blockS s (blockOf p k)) iv8
theorem sumL_snoc (p : List Int) (ks : List Nat) (k : Nat) : sumL p (ks ++ [k]) = blockS (sumL p ks) (blockOf p k) := by simp only [sumL, List.foldl_append, List.foldl_cons, List.foldl_nil]
theorem sumL_range (p : List Int) (n : Nat) : sumL p (List.range n) = sumK p n := by
 induction n with
 | zero => rfl
 | succ n ih => rw [List.range_succ, sumL_snoc, ih]; rfl
/-- What stands between two rounds. -/
def GotS (p : List Int) (nb Bs : Nat) (W0 : World) (pre : List { k : Nat // k < nb }) (W : World) : Prop :=
 W.heap[Bs]? = some (.cells (cellsU (l8 (sumL p (pre.map (·.1))))) 80) ∧ Outside Bs (Bs + 1) W0 W
theorem gotS_own (p : List Int) (nb Bs : Nat) (W0 : World) : OwnFrom W0.heap.size (GotS p nb Bs W0) := by
 intro s W W' row ⟨h1, h2⟩ hg hr
 exact ⟨keptC_of hg (fun r e => (hr r e).2) _ _ _ h1, ⟨hg.os.trans h2.os, hg.tape.trans h2.tape, hg.output.trans h2.output, Nat.le_trans h2.size hg.size, fun k hk hn => (hg.block k (Nat.lt_of_lt_of_le hk h2.size) (fun e => by have := (hr k e.symm).1; omega)).trans (h2.block k hk hn)⟩⟩

set_option maxHeartbeats 1000000 in
set_option maxRecDepth 100000 in
theorem sha_in {B : Nat} {v : Value} {l : List Int} {w : World} (h : Own B 5 w v l) (hl : l.length ≤ 4096) (h8 : Bytes8 l) (hF : TabW w 0 (l8 iv8)) (hG : TabW w 1 kW) :
  CallsIn Fence.wide 5 Tryd.prog 30 #[v] w fun e w' => ∃ v', e = .returned v' ∧ Own w.heap.size 5 w' v' (shaOf l) ∧ Below w.heap.size w w' := by
 obtain ⟨KW, HKW⟩ : ∃ KW, Hid (kW = KW) := ⟨_, hide rfl⟩
 obtain ⟨IV, HIV⟩ : ∃ IV, Hid (iv8 = IV) := ⟨_, hide rfl⟩
 rw [unhide HKW] at hG
 rw [unhide HIV] at hF
 obtain ⟨la, lc, hlv, _⟩ := h.lies
 have hgt : ¬ (4096 < (l.length : Int)) := by omega
 have HHO := hide h
 have HL := hide hl
 subst hlv
 have ka := heap_alloc_new w (.cells (cellsU (List.replicate 8 0)) 80)
 have ba := below_alloc (w := w) (.cells (cellsU (List.replicate 8 0)) 80)
 have HT := hide (block_there ka (n := (cellsU (l8 IV)).size) (by rw [cellsU_size, cellsU_size]; rfl))
 have u2 := outside_sets w.heap.size (cellsU (l8 IV)).toList 0 (w.alloc (.cells (cellsU (List.replicate 8 0)) 80))
 have KQ := hide (block_whole ka (cs := cellsU (l8 IV)) (by rw [cellsU_size, cellsU_size]; rfl))
 have B2 := hide (u2.below ba (Nat.le_refl _))
 have HF := hide hF
 have KG := hide (hG.below (unhide B2))
 have H8 := hide (paddedOf_bytes (of_bytes8 h8))
 have hsz : (Tryd.prog.info? 80).map (·.size) = some (cellsU (l8 IV)).size := by rw [cellsU_size]; exact sizeSum
 have HSZ := hide hsz
 have OV := hide ((unhide HHO).below (unhide B2))
 have ZG := hide hG.1
 clear hsz ka ba u2 h hl h8 hF hG HHO
 refine callsIn_of_wp_marks Tryd.func30 rfl trivial ?_ rfl
 simp only [Tryd.ntmps30, List.size_toArray, List.length_cons, List.length_nil, Nat.reduceAdd, Nat.reduceSub, Array.replicate_succ, Array.replicate_zero, List.push_toArray, List.append_toArray, List.nil_append, List.cons_append]
 refine wpIn_wide.2 ?_
 go_wp2_with (first
  | (refine list_loadT rfl 79 (.global 0) rfl 0 rfl (l8 IV) (unhide HF) Tryd.underlying79 rfl size79i ?_; simp only [Act.put, List.setIfInBounds_toArray, List.set_cons_zero, List.set_cons_succ])
  | (refine list_alloc (v := .pointer (some ⟨w.heap.size, 0, none⟩)) (w' := w.alloc (.cells (cellsU (List.replicate 8 0)) 80)) rfl rfl (by kernel_rfl) ?_; simp only [Act.put, List.setIfInBounds_toArray, List.set_cons_zero, List.set_cons_succ])
  | (refine wpList_store_mid rfl 80 (.tmp 3) (.tmp 8) rfl w.heap.size 0 (cellsU (l8 IV)) rfl rfl (unhide HT) (unhide HSZ) (cellsU_one _) ?_; generalize (w.alloc (.cells (cellsU (List.replicate 8 0)) 80)).setCells w.heap.size 0 (cellsU (l8 IV)).toList = W2 at *))
 refine (padded_is (unhide OV) (unhide HL)).mono ?_
 rintro e w1 ⟨v1, rfl, o1, b1⟩
 have hlen := blocksN_is l
 have hnb : 1 ≤ blocksN l ∧ blocksN l ≤ 80 := by
  have h1 := paddedOf_length l
  have h2 := zerosN_lt l.length
  have h3 := unhide HL
  omega
 have HSH := hide (show shaOf l = outK (sumK (paddedOf l) (blocksN l)) 8 from rfl)
 obtain ⟨g, cap, rfl, hg0, hgl, hc1, hc2, hcell⟩ : ∃ g cap, v1 = .slice (some ⟨g, 0, none⟩) (64 * blocksN l) cap ∧ W2.heap.size ≤ g ∧ g < w1.heap.size ∧ 64 * blocksN l ≤ cap ∧ cap ≤ maxLen ∧ ∀ i, i < 64 * blocksN l → w1.cell? ⟨g, i, none⟩ = some (.int .u8 ((paddedOf l).getD i 0)) := by
  rcases o1.form with ⟨_, h0⟩ | ⟨g, cap, h1, h2, h3, h4, h5, h6, _⟩
  ·rw [h0] at hlen
   simp at hlen
   omega
  ·rw [hlen] at h1 h4 h6
   exact ⟨g, cap, h1, h2, h3, h4, h5, h6⟩
 have HLEN := hide hlen
 generalize blocksN l = nb at *
 generalize paddedOf l = p at *
 have KQ1 := hide (block_kept b1 (unhide KQ))
 have KG1 := hide ((unhide KG).below b1)
 have BB1 := hide (below_next (unhide B2) b1)
 have HC := hide hcell
 have zB := b1.size
 have zq := block_lt (unhide KQ)
 clear o1 b1 hlen hcell KQ KG B2 HF HT HSZ OV
 go_wp2_with fail
 refine (chunk_any _ _ _ _).mono ?_
 rintro e w3 ⟨rfl, hw3⟩
 have k3 : w3.heap[w1.heap.size]? = some (.cells #[.slice (some ⟨g, 0, none⟩) (64 * nb) cap] 22) := by rw [hw3]; exact (box2 w1 _ _ _).2.1
 have k4 : w3.heap[w1.heap.size + 1]? = some (.cells #[.int .i64 64] 3) := by rw [hw3]; exact (box2 w1 _ _ _).2.2
 have b3 : Below w1.heap.size w1 w3 := by rw [hw3]; exact below2 _ _ _
 have z3 := b3.size
 have KQ3 := hide (block_kept b3 (unhide KQ1))
 have KG3 := hide ((unhide KG1).below b3)
 have BB3 := hide (below_next (unhide BB1) b3)
 have HC3 := hide (fun i hi => (b3.cell (p := ⟨g, i, none⟩) hgl).trans (unhide HC i hi))
 clear hw3 b3 KQ1 KG1 BB1 HC
 go_wp2_with fail
 refine (wpIn_wide (n := 5)).1 ?_
 have hz0 : w.heap.size < w3.heap.size := by omega
 refine wpIn_rangeFunc_ownH rfl (by omega) (gf := 99) (lb := #[.pointer (some ⟨w1.heap.size, 0, none⟩), .pointer (some ⟨w1.heap.size + 1, 0, none⟩)]) rfl trivial (enters_of Tryd.func99 (by kernel_rfl) rfl) (chunk_stops w1.heap.size (w1.heap.size + 1) g nb cap hc1 hnb.2 hc2 w3 k3 k4) (fun h k => kpC_t h k) (kpC_b (w := w3)) (Below.refl _ _) (fun _ => rfl)
  (GotS p nb w.heap.size w3) (fun _ _ _ => False) (gotS_own p nb w.heap.size w3) (fun _ _ _ _ _ h _ _ => h)
  ⟨by rw [List.map_nil, show sumL p [] = IV from unhide HIV]; exact unhide KQ3, Outside.refl _ _ _⟩
  (fun x a' W => a' = { tmps := #[.slice la l.length lc, undef, .slice none 0 0, .pointer (some ⟨w.heap.size, 0, none⟩), .slice (some ⟨g, 64 * x.1, none⟩) 64 64, .slice la l.length lc, .int .i64 l.length, .bool false, .agg (cellsU (l8 IV)), .slice la l.length lc, .slice (some ⟨g, 0, none⟩) (64 * nb) cap, .func (.func 99) #[] #[.pointer (some ⟨w1.heap.size, 0, none⟩), .pointer (some ⟨w1.heap.size + 1, 0, none⟩)], .slice (some ⟨g, 64 * x.1, none⟩) 64 64, undef, undef, undef], defers := [] })
  (fun x a' _ W W' row h _ _ => h) ?assign ?body ?done ?stop
 case assign =>
  rintro lr pre x W K hi hK
  have hsem := Oper.semAt_some lr
  have HK := hide hK
  have HI := hide hi
  clear hK hi
  unfold encC
  gi_wp2
  exact unhide HK _ _ (KeepsFrom.refl _ _) ⟨fun _ _ q => q, fun _ _ q => q⟩ (unhide HI) rfl
 case body =>
  rintro lr pre x a' W hl ⟨rr, hrr⟩ ⟨kS, hO⟩ rfl hlt
  have hsem := Oper.semAt_some lr
  have zr := block_lt hrr
  have hO3 := (unhide KG3)
  have kG := (unhide KG3).out hO (.inl (by have := unhide ZG; omega))
  have hgl3 : g < w3.heap.size := by omega
  have TK := hide (take_is (b := w.heap.size) (s := sumL p (pre.map (·.1))) (bs := blockOf p x.1) (v := .slice (some ⟨g, 64 * x.1, none⟩) 64 64) kS (by rw [unhide HKW]; exact kG) (by have := unhide ZG; omega) ⟨g, 64 * x.1, 64, rfl, Nat.lt_of_lt_of_le hgl3 hO.size, by omega, fun i hi => by
   have hxl := x.2
   rw [blockOf_getD (unhide HLEN) hxl hi, ← unhide HC3 (64 * x.1 + i) (by omega)]
   have hb := hO.block g hgl3 (.inr (by omega))
   unfold World.cell?
   rw [hb]⟩ (blockOf_length (unhide HLEN) x.2) (blockOf_bytes (unhide H8) x.1))
  have HS := hide (show sumL p ((pre ++ [x]).map (·.1)) = blockS (sumL p (pre.map (·.1))) (blockOf p x.1) by rw [List.map_append]; exact sumL_snoc _ _ _)
  have HO := hide hO
  clear kS hO kG hO3
  generalize sumL p (pre.map (·.1)) = s0 at *
  generalize hbs : blockOf p x.1 = bs at *
  clear hbs
  gi_wp2_with fail
  refine ⟨trivial, ?_⟩
  refine (CallsIn.inRound lr (callsIn_wide.2 (unhide TK))).mono ?_
  rintro e W3 ⟨⟨x1, rfl⟩, ⟨s', hs', k'⟩, o'⟩
  have K3 : Hid (W3.heap[w.heap.size]? = some (.cells (cellsU (l8 (sumL p ((pre ++ [x]).map (·.1))))) 80)) := hide (by rw [unhide HS, unhide hs']; exact k')
  have O3 := hide o'
  clear TK hs' k' o'
  gi_wp2
  refine ⟨⟨(unhide O3).size, fun k o hB hk ho => (unhide O3).kept hk (.inr (by omega))⟩, ⟨fun c t q => (unhide O3).kept q (.inr (by omega)), fun c t q => (unhide O3).kept q (.inr (by omega))⟩, unhide K3, (unhide HO).trans (unhide O3)⟩
 case done =>
  rintro D xs W hD hS ⟨kS, hO⟩ hK
  rw [hS, sumL_range] at kS
  have hBW : Below w.heap.size w W := ⟨hO.os.trans (unhide BB3).os, hO.tape.trans (unhide BB3).tape, hO.output.trans (unhide BB3).output, Nat.le_trans (unhide BB3).size hO.size, fun k hk => (hO.block k (Nat.lt_of_lt_of_le hk (unhide BB3).size) (.inl hk)).trans ((unhide BB3).block k hk)⟩
  have PT := hide (put_is kS)
  have BW := hide hBW
  have HKK := hide hK
  have zD := block_lt hK
  have zW := hO.size
  rw [← unhide HSH] at PT
  clear kS hBW hK hO k3 k4 KQ3 KG3 HC3 H8 BB3 HLEN HSH hS
  go_wp2_with fail
  refine (unhide PT).mono ?_
  rintro e w5 ⟨v5, rfl, o5, b5⟩
  have O5 := hide o5
  have B5 := hide b5
  clear o5 b5 PT
  go_wp2_with fail
  have z5 := (unhide B5).size
  have sD := block_kept (unhide B5) (unhide HKK)
  refine ⟨by simp, .inl ⟨_, _, rfl, run_takeDeferred sD, ?_⟩⟩
  have hkk := keptC_of (grownBy_putObj' w5 D (.deferred none)) (fun r e => by cases e; exact ⟨_, sD, rfl⟩)
  exact ⟨_, results_tmp rfl _ _ _, v5, rfl, (show Own W.heap.size 5 (w5.putObj D (.deferred none)) v5 (shaOf l) from row_keptC (unhide O5) hkk).mono (by omega), (below_next (unhide BW) (unhide B5)).trans (belowK_b (w := w) (Nat.le_refl _) w5 D _ _ (by omega) sD rfl rfl)⟩
 case stop =>
  rintro D c pre W _ _ h _
  exact h.elim
theorem sha_own {B : Nat} {v : Value} {l : List Int} {w : World} (h : Own B 5 w v l) (hl : l.length ≤ 4096) (h8 : Bytes8 l) (hF : TabW w 0 (l8 iv8)) (hG : TabW w 1 kW) :
  Calls Tryd.prog 30 #[v] w fun e w' => ∃ v', e = .returned v' ∧ Own w.heap.size 5 w' v' (shaOf l) ∧ Below w.heap.size w w' := (callsIn_wide (n := 5)).1 (sha_in h hl h8 hF hG)
end Go.Proofs.YtkmjghecjlgjpaaDoor

namespace Go.Proofs.YtkmjghecjlgjpaaDoor
open Go.RowKit
set_option linter.unusedVariables false

theorem sign_cases (c : Int) : (97 ≤ c ∧ c ≤ 122) ∨ (97 ≤ c ∧ 122 < c) ∨ (c < 97 ∧ 48 ≤ c ∧ c ≤ 57) ∨ (c < 97 ∧ 48 ≤ c ∧ 57 < c ∧ c ≠ 45) ∨ (c < 97 ∧ c < 48 ∧ c = 45) ∨ (c < 97 ∧ c < 48 ∧ c ≠ 45) := by omega

set_option maxHeartbeats 400000 in
set_option maxRecDepth 100000 in
theorem labelSign_any (c : Int) (w : World) :
  Calls Tryd.prog 80 #[.int .u8 c] w fun e w' => e = .returned (.bool (signOk c)) ∧ w = w' := by
 rcases sign_cases c with ⟨h1, h2⟩ | ⟨h1, h2⟩ | ⟨h1, h2, h3⟩ | ⟨h1, h2, h3, h4⟩ | ⟨h1, h2, rfl⟩ | ⟨h1, h2, h3⟩
 ·have hs : signOk c = true := decide_eq_true (by omega)
  rw [hs]
  go_enter Tryd.func80, Tryd.ntmps80
  go_wp2
  go_ret
  exact ⟨rfl, rfl⟩
 ·have hs : signOk c = false := decide_eq_false (by omega)
  rw [hs]
  have h5 : 48 ≤ c := by omega
  have h6 : ¬ c ≤ 57 := by omega
  have h7 : ¬ c ≤ 122 := by omega
  have h8 : (c == 45) = false := by simp; omega
  go_enter Tryd.func80, Tryd.ntmps80
  go_wp2
  go_ret
  exact ⟨rfl, rfl⟩
 ·have hs : signOk c = true := decide_eq_true (by omega)
  rw [hs]
  have h5 : ¬ 97 ≤ c := by omega
  go_enter Tryd.func80, Tryd.ntmps80
  go_wp2
  go_ret
  exact ⟨rfl, rfl⟩
 ·have hs : signOk c = false := decide_eq_false (by omega)
  rw [hs]
  have h5 : ¬ 97 ≤ c := by omega
  have h6 : ¬ c ≤ 57 := by omega
  have h8 : (c == 45) = false := by simp; omega
  go_enter Tryd.func80, Tryd.ntmps80
  go_wp2
  go_ret
  exact ⟨rfl, rfl⟩
 ·have hs : signOk 45 = true := rfl
  rw [hs]
  go_enter Tryd.func80, Tryd.ntmps80
  go_wp2
  go_ret
  exact ⟨rfl, rfl⟩
 ·have hs : signOk c = false := decide_eq_false (by omega)
  rw [hs]
  have h5 : ¬ 97 ≤ c := by omega
  have h6 : ¬ 48 ≤ c := by omega
  have h8 : (c == 45) = false := by simp; omega
  go_enter Tryd.func80, Tryd.ntmps80
  go_wp2
  go_ret
  exact ⟨rfl, rfl⟩

set_option maxHeartbeats 400000 in
set_option maxRecDepth 100000 in
theorem implLabelOk_has {v : Value} {l : List Int} {w : World} (h : Has w v l) :
  Calls Tryd.prog 43 #[v] w fun e w' => e = .returned (.bool (labelOk l)) ∧ w = w' := by
 have hbd := h.bound
 unfold maxLen at hbd
 obtain ⟨a, cap, rfl, hL⟩ := h.form
 by_cases h0 : l.length = 0
 ·rw [labelOk_short (by omega), h0]
  go_enter Tryd.func43, Tryd.ntmps43
  go_wp2
  go_ret
  exact ⟨rfl, rfl⟩
 ·by_cases h1 : 15 < l.length
  ·rw [labelOk_short (by omega)]
   generalize hn : l.length = n at *
   have h3 : ((n : Int) == 0) = false := by simp; omega
   go_enter Tryd.func43, Tryd.ntmps43
   go_wp2
   go_ret
   exact ⟨rfl, rfl⟩
  ·have h2 : l.length ≤ 15 := by omega
   have hyes := hide (fun (hs : ∀ j, j < l.length → signOk (l.getD j 0) = true) => labelOk_yes (l := l) (by omega) h2 hs)
   have hno := hide (fun (j : Nat) (hj : j < l.length) (hs : signOk (l.getD j 0) = false) => labelOk_sign hj hs)
   generalize hok : labelOk l = ok at *
   clear hok
   generalize hn : l.length = n at *
   have HN := hide hn
   clear hn
   have h3 : ((n : Int) == 0) = false := by simp; omega
   go_enter Tryd.func43, Tryd.ntmps43
   go_wp2
   go_loop [15] (fun i => ∃ k : Nat, k ≤ n ∧ i = .int .i64 k ∧ Hid (∀ j, j < k → signOk (l.getD j 0) = true)) (fun i => n - (intOf i).toNat)
   case atStart => exact ⟨0, Nat.zero_le _, rfl, hide (fun j hj => absurd hj (Nat.not_lt_zero _))⟩
   case round =>
    obtain ⟨k, hk, rfl, hall⟩ := hrel
    by_cases hlt : k < n
    ·obtain ⟨b, off, rfl, hbl, hc⟩ := hL.here (k := k) (by rw [unhide HN]; exact hlt)
     have hone := hide (fun (hs : signOk (l.getD k 0) = true) => (show ∀ j, j < k + 1 → signOk (l.getD j 0) = true from fun j hj => by
      by_cases e : j = k
      ·subst e; exact hs
      ·exact unhide hall j (by omega)))
     have hnok := hide (fun (hs : signOk (l.getD k 0) = false) => unhide hno k hlt hs)
     generalize hx : l.getD k 0 = x at *
     go_wp2_with fail
     refine (labelSign_any x _).mono ?_
     rintro e w1 ⟨rfl, rfl⟩
     cases hs : signOk x with
     | true =>
      go_wp2
      exact ⟨⟨k + 1, by omega, by go_num, hide (unhide hone hs)⟩, by simp [intOf]; omega⟩
     | false =>
      have hq := unhide hnok hs
      subst hq
      go_wp2
      go_ret
      exact ⟨rfl, rfl⟩
    ·obtain rfl : k = n := by omega
     have hq := unhide hyes (unhide hall)
     subst hq
     go_wp2
     go_ret
     exact ⟨rfl, rfl⟩
end Go.Proofs.YtkmjghecjlgjpaaDoor
