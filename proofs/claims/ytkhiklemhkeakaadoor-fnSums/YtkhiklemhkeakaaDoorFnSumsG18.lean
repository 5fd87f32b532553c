/-
  slices.Chunk of the library at rows of bytes, as what a loop ranges over: blocks of 64 bytes. Contract of the program's Sha256.
-/
import Derived.Test.YtkhiklemhkeakaaDoorFnSumsG02
import Derived.Test.YtkhiklemhkeakaaDoorFnSumsG03
import Derived.Test.YtkhiklemhkeakaaDoorFnSumsG17
import Derived.RangeFuncNested
import Derived.RangeFuncBound
import Derived.RangeFuncCalls
import Derived.RangeFuncLeaves
import Derived.Shelf.Abstract
import Derived.Shelf.RegionOpen
import Derived.WalkKit
import Derived.OwnWalkIn
import Derived.TacticsInMore
import Derived.LoopNIn
import Derived.LoopIn
import Derived.Test.YtkhiklemhkeakaaDoorFnSumsG15
import Derived.Test.YtkhiklemhkeakaaDoorFnSumsG16
import Derived.RangeFuncBox
namespace Go.Proofs.YtkhiklemhkeakaaDoor
open Go.RowKit Go.Shelf
set_option linter.unusedVariables false
set_option linter.unusedSimpArgs false

/-- What a round keeps: the iterator's own two boxes. -/
def KpC (Bt Bn : Nat) (W W' : World) : Prop := (∀ c t, W.heap[Bt]? = some (.cells c t) → W'.heap[Bt]? = some (.cells c t)) ∧ ∀ c t, W.heap[Bn]? = some (.cells c t) → W'.heap[Bn]? = some (.cells c t)
theorem kpC_t {Bt Bn : Nat} {A B C : World} (h : KpC Bt Bn A B) (k : KpC Bt Bn B C) : KpC Bt Bn A C := ⟨fun c t q => k.1 c t (h.1 c t q), fun c t q => k.2 c t (h.2 c t q)⟩
theorem kpC_c {Bt Bn : Nat} {W W' : World} (h : KeptC W W') : KpC Bt Bn W W' := ⟨fun c t q => h _ c t q, fun c t q => h _ c t q⟩
theorem kpC_b {Bt Bn : Nat} {w : World} (W : World) (l : Nat) (o o' : Obj) (hl : w.heap.size ≤ l) (h : W.heap[l]? = some o) (h1 : o.isCells = false) (h2 : o.isWalk = false) : KpC Bt Bn W (W.putObj l o') :=
  kpC_c (keptC_of (grownBy_putObj' W l o') (fun r e => by cases e; exact ⟨o, h, h1⟩))
def encC (g : Nat) (k : Nat) : Array Value := #[.slice (some ⟨g, 64 * k, none⟩) 64 64]

set_option maxHeartbeats 400000 in
set_option maxRecDepth 100000 in
theorem chunk_any (a : Option Addr) (len cap : Nat) (w : World) : Calls Tryd.prog 11 #[.slice a len cap, .int .i64 64] w fun e w' => e = .returned (.func (.func 28) #[] #[.pointer (some ⟨w.heap.size, 0, none⟩), .pointer (some ⟨w.heap.size + 1, 0, none⟩)]) ∧ w' = (w.alloc (.cells #[.slice a len cap] 22)).alloc (.cells #[.int .i64 64] 3) := by
  have c0 := block_one (heap_alloc_new (w.alloc (.cells #[.slice a len cap] 22)) (.cells #[.int .i64 64] 3))
  go_enter Tryd.func11, Tryd.ntmps11
  go_wp2
  go_ret
  exact ⟨rfl, rfl⟩

set_option maxHeartbeats 1000000 in
set_option maxRecDepth 100000 in
theorem chunk1_in (n : Nat) (hn : 1 ≤ n) (l Bt Bn g nb cap : Nat) (hc : 64 * nb ≤ cap) (hcm : nb ≤ 80) (hc2 : cap ≤ maxLen) {tt tn : TypeId} (J Jx : List { k : Nat // k < nb } → World → Prop) (W : World) (hJ : AbidesFrom W.heap.size J)
    (hY : ∀ pre x W1, J pre W1 → pre.length < nb → YieldAt Fence.wide (n - 1) Tryd.prog l (encC g x.1) W1 fun e W' => (e = .returned (.bool true) ∧ J (pre ++ [x]) W' ∧ KpC Bt Bn W1 W') ∨ (e = .returned (.bool false) ∧ Jx (pre ++ [x]) W'))
    (hBt : W.heap[Bt]? = some (.cells #[.slice (some ⟨g, 0, none⟩) (64 * nb) cap] tt)) (hBn : W.heap[Bn]? = some (.cells #[.int .i64 64] tn)) (h0 : J [] W) :
    CallsIn Fence.wide n Tryd.prog 28 #[.func (.yield l) #[] #[], .pointer (some ⟨Bt, 0, none⟩), .pointer (some ⟨Bn, 0, none⟩)] W fun e W' => (∃ v, e = .returned v) ∧
      ((∃ xs, xs.map (·.1) = List.range nb ∧ J xs W') ∨ (∃ pre, True ∧ Jx pre W')) := by
  have HJ := hide hJ
  have HY := hide hY
  have H0 := hide (And.intro (show ∃ pre, pre.map (·.1) = List.range 0 ∧ J pre W from ⟨[], rfl, h0⟩) (And.intro hBt hBn))
  clear hJ hY h0 hBt hBn
  refine callsIn_of_wp Tryd.func28 rfl trivial ?_ rfl
  simp only [Tryd.ntmps28, List.size_toArray, List.length_cons, List.length_nil, Nat.reduceAdd, Nat.reduceSub, Array.replicate_succ, Array.replicate_zero, List.push_toArray, List.append_toArray, List.nil_append, List.cons_append]
  gi_wp2
  gi_loopw [4] (fun i wr => ∃ (k : Nat), k ≤ nb ∧ i = .int .i64 ((64 * k : Nat) : Int) ∧ Hid ((∃ pre, pre.map (·.1) = List.range k ∧ J pre wr) ∧ wr.heap[Bt]? = some (.cells #[.slice (some ⟨g, 0, none⟩) (64 * nb) cap] tt) ∧ wr.heap[Bn]? = some (.cells #[.int .i64 64] tn))) (fun i _ => 64 * nb - (intOf i).toNat)
  case atStart => exact ⟨0, Nat.zero_le _, rfl, H0⟩
  case round =>
    clear H0
    obtain ⟨k, hk, rfl, H⟩ := hrel
    have ct := block_one (unhide H).2.1
    have cn := block_one (unhide H).2.2
    by_cases hlt : k < nb
    · have HLT := hide (show k < nb ∧ nb ≤ 80 from ⟨hlt, hcm⟩)
      obtain ⟨pre, hpre, hj⟩ := (unhide H).1
      have HPR := hide hpre
      have HL := hide (show pre.length < nb by have := congrArg List.length hpre; simp at this; omega)
      have HR2 := hide (show (pre ++ [(⟨k, hlt⟩ : { k : Nat // k < nb })]).map (·.1) = List.range (k + 1) by rw [List.map_append, hpre, List.range_succ]; rfl)
      generalize hx : (⟨k, hlt⟩ : { k : Nat // k < nb }) = x at *
      have hx1 : x.1 = k := by rw [← hx]
      have HX1 := hide hx1
      have hkm : 64 * k + 64 ≤ 64 * nb := by omega
      have hLm : 64 * nb ≤ 5120 := by omega
      have HE := hide (show encC g x.1 = #[.slice (some ⟨g, 64 * k, none⟩) 64 64] by rw [hx1]; rfl)
      have kd := (unhide H)
      have K1 := hide (And.intro (unhide HJ pre wr wr.drew none hj ⟨rfl, rfl, rfl, Nat.le_refl _, fun _ _ _ => rfl⟩ (fun r e => by cases e)) (And.intro (show wr.drew.heap[Bt]? = _ from kd.2.1) (show wr.drew.heap[Bn]? = _ from kd.2.2)))
      have HS := hide (show 64 * (k + 1) = 64 * k + 64 by omega)
      clear kd hlt hk hcm H hj hpre hx hx1 HPR
      generalize 64 * k = m at *
      generalize 64 * nb = L at *
      have l1 : (m : Int) < (L : Int) := by omega
      have l2 : (m : Int) ≤ (L : Int) := by omega
      have f1 : m ≤ L := by omega
      have f2 : ¬ cap = m := by omega
      have e1 : IntKind.i64.wrap ((m : Int) + 64) = ((m + 64 : Nat) : Int) := wrap_small (m + 64) (by omega)
      have hm : ¬ (((L - m : Nat) : Int) < 64) := by omega
      gi_wp2_with fail
      refine wpIn_wide.2 ?_
      refine startF 7 (S := fun w' => w'.cell? ⟨Bt, 0, none⟩ = some (.slice (some ⟨g, 0, none⟩) L cap) ∧ w'.cell? ⟨Bn, 0, none⟩ = some (.int .i64 64)) (by kernel_rfl) rfl ⟨block_one (unhide K1).2.1, block_one (unhide K1).2.2⟩ (fun hHeld => ?_)
      simp only [List.replicate]
      refine tkI 0 ?_ rfl (by kernel_rfl) (by kernel_rfl) (fun _ _ _ h => h) ?_ hHeld ?_; rotate_left; (· (intro w hSw; (try dsimp only at hSw); go_simp <;> with_reducible rfl)); simp only [Act.put, List.setIfInBounds_toArray, List.set_cons_zero, List.set_cons_succ]
      refine tkI 1 ?_ rfl (by kernel_rfl) (by kernel_rfl) (fun _ _ _ h => h) ?_ hHeld ?_; rotate_left; (· (intro w hSw; (try dsimp only at hSw); go_simp <;> with_reducible rfl)); simp only [Act.put, List.setIfInBounds_toArray, List.set_cons_zero, List.set_cons_succ]
      refine tkI 2 ?_ rfl (by kernel_rfl) (by kernel_rfl) (fun _ _ _ h => h) ?_ hHeld ?_; rotate_left; (· (intro w hSw; (try dsimp only at hSw); go_simp <;> with_reducible rfl)); simp only [Act.put, List.setIfInBounds_toArray, List.set_cons_zero, List.set_cons_succ]
      refine tkI 3 ?_ rfl (by kernel_rfl) (by kernel_rfl) (fun _ _ _ h => h) ?_ hHeld ?_; rotate_left; (· (intro w hSw; (try dsimp only at hSw); go_simp <;> with_reducible rfl)); simp only [Act.put, List.setIfInBounds_toArray, List.set_cons_zero, List.set_cons_succ]
      refine tkI 4 ?_ rfl (by kernel_rfl) (by kernel_rfl) (fun _ _ _ h => h) ?_ hHeld ?_; rotate_left; (· (intro w hSw; (try dsimp only at hSw); go_simp <;> with_reducible rfl)); simp only [Act.put, List.setIfInBounds_toArray, List.set_cons_zero, List.set_cons_succ]
      refine tkI 5 ?_ rfl (by kernel_rfl) (by kernel_rfl) (fun _ _ _ h => h) ?_ hHeld ?_; rotate_left; (· (intro w hSw; (try dsimp only at hSw); go_simp <;> with_reducible rfl)); simp only [Act.put, List.setIfInBounds_toArray, List.set_cons_zero, List.set_cons_succ]
      refine tkI 6 ?_ rfl (by kernel_rfl) (by kernel_rfl) (fun _ _ _ h => h) ?_ hHeld ?_; rotate_left; (· (intro w hSw; (try dsimp only at hSw); go_simp <;> with_reducible rfl)); simp only [Act.put, List.setIfInBounds_toArray, List.set_cons_zero, List.set_cons_succ]
      refine wpAnyH_done (by kernel_rfl) ?_ _
      clear hHeld hm f1 l1 l2
      obtain ⟨fn, tmps, assign, body, hy, hRd⟩ := unhide HY pre x wr.drew (unhide K1).1 (unhide HL)
      rw [unhide HE] at hy
      have ct := block_one (unhide K1).2.1
      have cn := block_one (unhide K1).2.2
      have HRD := hide hRd
      have KK := hide (unhide K1).2
      clear hRd K1
      generalize wr.drew = wd at *
      have g1 : (0 : Int) ≤ (m : Int) + 64 ∧ (m : Int) + 64 ≤ (cap : Int) := by omega
      have g2 : m ≤ ((m : Int) + 64).toNat := by omega
      have g4 : ((m : Int) + 64).toNat - m = 64 := by omega
      gi_wp2
      refine (unhide HRD).mono ?_
      rintro e W3 (⟨rfl, hJ3, hk3⟩ | ⟨rfl, hJx3⟩)
      · have H3 := hide (And.intro (show ∃ pre, pre.map (·.1) = List.range (k + 1) ∧ J pre W3 from ⟨_, unhide HR2, hJ3⟩) (And.intro (hk3.1 _ _ (unhide KK).1) (hk3.2 _ _ (unhide KK).2)))
        have cn3 := block_one (unhide H3).2.2
        have hlt := unhide HLT
        clear hy HRD hk3 hJ3 ct cn KK g1 g2 g4 HE HL HR2
        gi_wp2
        go_roundw
        case rel => exact ⟨k + 1, by omega, by rw [unhide HS]; go_num, H3⟩
        case measure => simp [intOf]; omega
      · clear hy HRD ct cn KK g1 g2 g4
        gi_wp2
        refine bodyPost_ret (results_none rfl _ _ _) rfl ?_
        exact ⟨⟨_, rfl⟩, .inr ⟨_, trivial, hJx3⟩⟩
    · obtain rfl : k = nb := by omega
      gi_wp2
      go_end0
      exact ⟨⟨_, rfl⟩, .inl (unhide H).1⟩
theorem chunk_stops (Bt Bn g nb cap : Nat) (hc : 64 * nb ≤ cap) (hcm : nb ≤ 80) (hc2 : cap ≤ maxLen) {tt tn : TypeId} (w : World) (hBt : w.heap[Bt]? = some (.cells #[.slice (some ⟨g, 0, none⟩) (64 * nb) cap] tt)) (hBn : w.heap[Bn]? = some (.cells #[.int .i64 64] tn)) :
    SeqStopsK Fence.wide 4 Tryd.prog 28 #[.pointer (some ⟨Bt, 0, none⟩), .pointer (some ⟨Bn, 0, none⟩)] (fun x : { k : Nat // k < nb } => encC g x.1) (KpC Bt Bn) (fun xs => xs.map (·.1) = List.range nb) (fun _ => True) nb w :=
  fun l J Jx W hW hJ hJx hY h0 => chunk1_in 4 (by omega) l Bt Bn g nb cap hc hcm hc2 J Jx W hJ hY (block_kept hW hBt) (block_kept hW hBn) h0
end Go.Proofs.YtkhiklemhkeakaaDoor

namespace Go.Proofs.YtkhiklemhkeakaaDoor
open Go.RowKit Go.Shelf
set_option linter.unusedVariables false
set_option linter.unusedSimpArgs false

theorem size79i : (Tryd.prog.info? 34).map (·.size) = some 8 := by kernel_rfl
def sumL (p : List Int) (ks : List Nat) : S8 := ks.foldl (fun s k => blockS s (blockOf p k)) iv8
theorem sumL_snoc (p : List Int) (ks : List Nat) (k : Nat) : sumL p (ks ++ [k]) = blockS (sumL p ks) (blockOf p k) := by simp only [sumL, List.foldl_append, List.foldl_cons, List.foldl_nil]
theorem sumL_range (p : List Int) (n : Nat) : sumL p (List.range n) = sumK p n := by
  induction n with
  | zero => rfl
  | succ n ih => rw [List.range_succ, sumL_snoc, ih]; rfl
/-- What stands between two rounds. -/
def GotS (p : List Int) (nb Bs : Nat) (W0 : World) (pre : List { k : Nat // k < nb }) (W : World) : Prop :=
  W.heap[Bs]? = some (.cells (cellsU (l8 (sumL p (pre.map (·.1))))) 35) ∧ Outside Bs (Bs + 1) W0 W
theorem gotS_own (p : List Int) (nb Bs : Nat) (W0 : World) : OwnFrom W0.heap.size (GotS p nb Bs W0) := by
  intro s W W' row ⟨h1, h2⟩ hg hr
  exact ⟨keptC_of hg (fun r e => (hr r e).2) _ _ _ h1, ⟨hg.os.trans h2.os, hg.tape.trans h2.tape, hg.output.trans h2.output, Nat.le_trans h2.size hg.size, fun k hk hn => (hg.block k (Nat.lt_of_lt_of_le hk h2.size) (fun e => by have := (hr k e.symm).1; omega)).trans (h2.block k hk hn)⟩⟩

set_option maxHeartbeats 1000000 in
set_option maxRecDepth 100000 in
theorem sha_in {v : Value} {l : List Int} {w : World} (h : Has w v l) (hl : l.length ≤ 4096) (h8 : Bytes8 l) (hF : TabW w 0 (l8 iv8)) (hG : TabW w 1 kW) :
    CallsIn Fence.wide 5 Tryd.prog 4 #[v] w fun e w' => ∃ v', e = .returned v' ∧ Own w.heap.size 5 w' v' (shaOf l) ∧ Below w.heap.size w w' := by
  obtain ⟨KW, HKW⟩ : ∃ KW, Hid (kW = KW) := ⟨_, hide rfl⟩
  obtain ⟨IV, HIV⟩ : ∃ IV, Hid (iv8 = IV) := ⟨_, hide rfl⟩
  rw [unhide HKW] at hG
  rw [unhide HIV] at hF
  obtain ⟨la, lc, hlv, _⟩ := h.form
  have hgt : ¬ (4096 < (l.length : Int)) := by omega
  have HHO := hide h
  have HL := hide hl
  subst hlv
  have ka := heap_alloc_new w (.cells (cellsU (List.replicate 8 0)) 35)
  have ba := below_alloc (w := w) (.cells (cellsU (List.replicate 8 0)) 35)
  have HT := hide (block_there ka (n := (cellsU (l8 IV)).size) (by rw [cellsU_size, cellsU_size]; rfl))
  have u2 := outside_sets w.heap.size (cellsU (l8 IV)).toList 0 (w.alloc (.cells (cellsU (List.replicate 8 0)) 35))
  have KQ := hide (block_whole ka (cs := cellsU (l8 IV)) (by rw [cellsU_size, cellsU_size]; rfl))
  have B2 := hide (u2.below ba (Nat.le_refl _))
  have HF := hide hF
  have KG := hide (hG.below (unhide B2))
  have H8 := hide (paddedOf_bytes (of_bytes8 h8))
  have hsz : (Tryd.prog.info? 35).map (·.size) = some (cellsU (l8 IV)).size := by rw [cellsU_size]; exact sizeSum
  have HSZ := hide hsz
  have OV := hide ((unhide HHO).below (unhide B2))
  have ZG := hide hG.1
  clear hsz ka ba u2 h hl h8 hF hG HHO
  refine callsIn_of_wp_marks Tryd.func4 rfl trivial ?_ rfl
  simp only [Tryd.ntmps4, List.size_toArray, List.length_cons, List.length_nil, Nat.reduceAdd, Nat.reduceSub, Array.replicate_succ, Array.replicate_zero, List.push_toArray, List.append_toArray, List.nil_append, List.cons_append]
  refine wpIn_wide.2 ?_
  go_wp2_with (first
    | (refine list_loadT rfl 34 (.global 0) rfl 0 rfl (l8 IV) (unhide HF) Tryd.underlying34 rfl size79i ?_; simp only [Act.put, List.setIfInBounds_toArray, List.set_cons_zero, List.set_cons_succ])
    | (refine list_alloc (v := .pointer (some ⟨w.heap.size, 0, none⟩)) (w' := w.alloc (.cells (cellsU (List.replicate 8 0)) 35)) rfl rfl (by kernel_rfl) ?_; simp only [Act.put, List.setIfInBounds_toArray, List.set_cons_zero, List.set_cons_succ])
    | (refine wpList_store_mid rfl 35 (.tmp 3) (.tmp 8) rfl w.heap.size 0 (cellsU (l8 IV)) rfl rfl (unhide HT) (unhide HSZ) (cellsU_one _) ?_; generalize (w.alloc (.cells (cellsU (List.replicate 8 0)) 35)).setCells w.heap.size 0 (cellsU (l8 IV)).toList = W2 at *))
  refine (padded_is (unhide OV) (unhide HL)).mono ?_
  rintro e w1 ⟨v1, rfl, o1, b1⟩
  have hlen := blocksN_is l
  have hnb : 1 ≤ blocksN l ∧ blocksN l ≤ 80 := by
    have h1 := paddedOf_length l
    have h2 := zerosN_lt l.length
    have h3 := unhide HL
    omega
  have HSH := hide (show shaOf l = outK (sumK (paddedOf l) (blocksN l)) 8 from rfl)
  obtain ⟨g, cap, rfl, hg0, hgl, hc1, hc2, hcell⟩ : ∃ g cap, v1 = .slice (some ⟨g, 0, none⟩) (64 * blocksN l) cap ∧ W2.heap.size ≤ g ∧ g < w1.heap.size ∧ 64 * blocksN l ≤ cap ∧ cap ≤ maxLen ∧ ∀ i, i < 64 * blocksN l → w1.cell? ⟨g, i, none⟩ = some (.int .u8 ((paddedOf l).getD i 0)) := by
    rcases o1.form with ⟨_, h0⟩ | ⟨g, cap, h1, h2, h3, h4, h5, h6, _⟩
    · rw [h0] at hlen
      simp at hlen
      omega
    · rw [hlen] at h1 h4 h6
      exact ⟨g, cap, h1, h2, h3, h4, h5, h6⟩
  have HLEN := hide hlen
  generalize blocksN l = nb at *
  generalize paddedOf l = p at *
  have KQ1 := hide (block_kept b1 (unhide KQ))
  have KG1 := hide ((unhide KG).below b1)
  have BB1 := hide (below_next (unhide B2) b1)
  have HC := hide hcell
  have zB := b1.size
  have zq := block_lt (unhide KQ)
  clear o1 b1 hlen hcell KQ KG B2 HF HT HSZ OV
  go_wp2_with fail
  refine (chunk_any _ _ _ _).mono ?_
  rintro e w3 ⟨rfl, hw3⟩
  have k3 : w3.heap[w1.heap.size]? = some (.cells #[.slice (some ⟨g, 0, none⟩) (64 * nb) cap] 22) := by rw [hw3]; exact (box2 w1 _ _ _).2.1
  have k4 : w3.heap[w1.heap.size + 1]? = some (.cells #[.int .i64 64] 3) := by rw [hw3]; exact (box2 w1 _ _ _).2.2
  have b3 : Below w1.heap.size w1 w3 := by rw [hw3]; exact below2 _ _ _
  have z3 := b3.size
  have KQ3 := hide (block_kept b3 (unhide KQ1))
  have KG3 := hide ((unhide KG1).below b3)
  have BB3 := hide (below_next (unhide BB1) b3)
  have HC3 := hide (fun i hi => (b3.cell (p := ⟨g, i, none⟩) hgl).trans (unhide HC i hi))
  clear hw3 b3 KQ1 KG1 BB1 HC
  go_wp2_with fail
  refine (wpIn_wide (n := 5)).1 ?_
  have hz0 : w.heap.size < w3.heap.size := by omega
  refine wpIn_rangeFunc_ownH rfl (by omega) (gf := 28) (lb := #[.pointer (some ⟨w1.heap.size, 0, none⟩), .pointer (some ⟨w1.heap.size + 1, 0, none⟩)]) rfl trivial (enters_of Tryd.func28 (by kernel_rfl) rfl) (chunk_stops w1.heap.size (w1.heap.size + 1) g nb cap hc1 hnb.2 hc2 w3 k3 k4) (fun h k => kpC_t h k) (kpC_b (w := w3)) (Below.refl _ _) (fun _ => rfl)
    (GotS p nb w.heap.size w3) (fun _ _ _ => False) (gotS_own p nb w.heap.size w3) (fun _ _ _ _ _ h _ _ => h)
    ⟨by rw [List.map_nil, show sumL p [] = IV from unhide HIV]; exact unhide KQ3, Outside.refl _ _ _⟩
    (fun x a' W => a' = { tmps := #[.slice la l.length lc, undef, .slice none 0 0, .pointer (some ⟨w.heap.size, 0, none⟩), .slice (some ⟨g, 64 * x.1, none⟩) 64 64, .slice la l.length lc, .int .i64 l.length, .bool false, .agg (cellsU (l8 IV)), .slice la l.length lc, .slice (some ⟨g, 0, none⟩) (64 * nb) cap, .func (.func 28) #[] #[.pointer (some ⟨w1.heap.size, 0, none⟩), .pointer (some ⟨w1.heap.size + 1, 0, none⟩)], .slice (some ⟨g, 64 * x.1, none⟩) 64 64, undef, undef, undef], defers := [] })
    (fun x a' _ W W' row h _ _ => h) ?assign ?body ?done ?stop
  case assign =>
    rintro lr pre x W K hi hK
    have hsem := Oper.semAt_some lr
    have HK := hide hK
    have HI := hide hi
    clear hK hi
    unfold encC
    gi_wp2
    exact unhide HK _ _ (KeepsFrom.refl _ _) ⟨fun _ _ q => q, fun _ _ q => q⟩ (unhide HI) rfl
  case body =>
    rintro lr pre x a' W hl ⟨rr, hrr⟩ ⟨kS, hO⟩ rfl hlt
    have hsem := Oper.semAt_some lr
    have zr := block_lt hrr
    have hO3 := (unhide KG3)
    have kG := (unhide KG3).out hO (.inl (by have := unhide ZG; omega))
    have hgl3 : g < w3.heap.size := by omega
    have TK := hide (take_is (b := w.heap.size) (s := sumL p (pre.map (·.1))) (bs := blockOf p x.1) (v := .slice (some ⟨g, 64 * x.1, none⟩) 64 64) kS (by rw [unhide HKW]; exact kG) (by have := unhide ZG; omega) ⟨g, 64 * x.1, 64, rfl, Nat.lt_of_lt_of_le hgl3 hO.size, by omega, fun i hi => by
      have hxl := x.2
      rw [blockOf_getD (unhide HLEN) hxl hi, ← unhide HC3 (64 * x.1 + i) (by omega)]
      have hb := hO.block g hgl3 (.inr (by omega))
      unfold World.cell?
      rw [hb]⟩ (blockOf_length (unhide HLEN) x.2) (blockOf_bytes (unhide H8) x.1))
    have HS := hide (show sumL p ((pre ++ [x]).map (·.1)) = blockS (sumL p (pre.map (·.1))) (blockOf p x.1) by rw [List.map_append]; exact sumL_snoc _ _ _)
    have HO := hide hO
    clear kS hO kG hO3
    generalize sumL p (pre.map (·.1)) = s0 at *
    generalize hbs : blockOf p x.1 = bs at *
    clear hbs
    gi_wp2_with fail
    refine ⟨trivial, ?_⟩
    refine (CallsIn.inRound lr (callsIn_wide.2 (unhide TK))).mono ?_
    rintro e W3 ⟨⟨x1, rfl⟩, ⟨s', hs', k'⟩, o'⟩
    have K3 : Hid (W3.heap[w.heap.size]? = some (.cells (cellsU (l8 (sumL p ((pre ++ [x]).map (·.1))))) 35)) := hide (by rw [unhide HS, unhide hs']; exact k')
    have O3 := hide o'
    clear TK hs' k' o'
    gi_wp2
    refine ⟨⟨(unhide O3).size, fun k o hB hk ho => (unhide O3).kept hk (.inr (by omega))⟩, ⟨fun c t q => (unhide O3).kept q (.inr (by omega)), fun c t q => (unhide O3).kept q (.inr (by omega))⟩, unhide K3, (unhide HO).trans (unhide O3)⟩
  case done =>
    rintro D xs W hD hS ⟨kS, hO⟩ hK
    rw [hS, sumL_range] at kS
    have hBW : Below w.heap.size w W := ⟨hO.os.trans (unhide BB3).os, hO.tape.trans (unhide BB3).tape, hO.output.trans (unhide BB3).output, Nat.le_trans (unhide BB3).size hO.size, fun k hk => (hO.block k (Nat.lt_of_lt_of_le hk (unhide BB3).size) (.inl hk)).trans ((unhide BB3).block k hk)⟩
    have PT := hide (put_is kS)
    have BW := hide hBW
    have HKK := hide hK
    have zD := block_lt hK
    have zW := hO.size
    rw [← unhide HSH] at PT
    clear kS hBW hK hO k3 k4 KQ3 KG3 HC3 H8 BB3 HLEN HSH hS
    go_wp2_with fail
    refine (unhide PT).mono ?_
    rintro e w5 ⟨v5, rfl, o5, b5⟩
    have O5 := hide o5
    have B5 := hide b5
    clear o5 b5 PT
    go_wp2_with fail
    have z5 := (unhide B5).size
    have sD := block_kept (unhide B5) (unhide HKK)
    refine ⟨by simp, .inl ⟨_, _, rfl, run_takeDeferred sD, ?_⟩⟩
    have hkk := keptC_of (grownBy_putObj' w5 D (.deferred none)) (fun r e => by cases e; exact ⟨_, sD, rfl⟩)
    exact ⟨_, results_tmp rfl _ _ _, v5, rfl, (show Own W.heap.size 5 (w5.putObj D (.deferred none)) v5 (shaOf l) from row_keptC (unhide O5) hkk).mono (by omega), (below_next (unhide BW) (unhide B5)).trans (belowK_b (w := w) (Nat.le_refl _) w5 D _ _ (by omega) sD rfl rfl)⟩
  case stop =>
    rintro D c pre W _ _ h _
    exact h.elim
theorem sha_own {v : Value} {l : List Int} {w : World} (h : Has w v l) (hl : l.length ≤ 4096) (h8 : Bytes8 l) (hF : TabW w 0 (l8 iv8)) (hG : TabW w 1 kW) :
    Calls Tryd.prog 4 #[v] w fun e w' => ∃ v', e = .returned v' ∧ Own w.heap.size 5 w' v' (shaOf l) ∧ Below w.heap.size w w' := (callsIn_wide (n := 5)).1 (sha_in h hl h8 hF hG)
set_option maxHeartbeats 1000000 in
set_option maxRecDepth 100000 in
theorem sha_no {v : Value} {l : List Int} {w : World} (h : Has w v l) (hl : ¬ l.length ≤ 4096) :
    Calls Tryd.prog 4 #[v] w fun e w' => e = .returned (.slice none 0 0) ∧ w' = w := by
  obtain ⟨la, lc, hlv, _⟩ := h.form
  have hgt : 4096 < (l.length : Int) := by omega
  subst hlv
  clear hl
  go_enter Tryd.func4, Tryd.ntmps4
  go_wp2
  go_ret
  exact ⟨rfl, rfl⟩
end Go.Proofs.YtkhiklemhkeakaaDoor
