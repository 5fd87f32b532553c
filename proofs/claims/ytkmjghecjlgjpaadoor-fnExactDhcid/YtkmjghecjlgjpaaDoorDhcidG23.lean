/-
  Plain facts: what lay below a mark lies there still, where a walk writes into a stretch behind it. No program is named here. slices.Chunk of the library at rows of bytes, as what a loop ranges over: blocks of 64 bytes.
-/
import Derived.Test.YtkmjghecjlgjpaaDoorDhcidG03
import Derived.Test.YtkmjghecjlgjpaaDoorDhcidG09
import Derived.Test.YtkmjghecjlgjpaaDoorDhcidG22
import Derived.RangeFuncNested
import Derived.RangeFuncBound
import Derived.RangeFuncCalls
import Derived.RangeFuncLeaves
import Derived.Shelf.Abstract
import Derived.Shelf.RegionOpen
import Derived.WalkKit
import Derived.OwnWalkIn
import Derived.TacticsInMore
import Derived.LoopNIn
import Derived.LoopIn
namespace Go.Proofs.YtkmjghecjlgjpaaDoor
open Go.RowKit

end Go.Proofs.YtkmjghecjlgjpaaDoor

namespace Go.Proofs.YtkmjghecjlgjpaaDoor
open Go.RowKit Go.Shelf
set_option linter.unusedVariables false
set_option linter.unusedSimpArgs false

/-- What a round keeps: the iterator's own two boxes. -/
def KpC (Bt Bn : Nat) (W W' : World) : Prop := (∀ c t, W.heap[Bt]? = some (.cells c t) → W'.heap[Bt]? = some (.cells c t)) ∧ ∀ c t, W.heap[Bn]? = some (.cells c t) → W'.heap[Bn]? = some (.cells c t)
theorem kpC_t {Bt Bn : Nat} {A B C : World} (h : KpC Bt Bn A B) (k : KpC Bt Bn B C) : KpC Bt Bn A C := ⟨fun c t q => k.1 c t (h.1 c t q), fun c t q => k.2 c t (h.2 c t q)⟩
theorem kpC_c {Bt Bn : Nat} {W W' : World} (h : KeptC W W') : KpC Bt Bn W W' := ⟨fun c t q => h _ c t q, fun c t q => h _ c t q⟩
theorem kpC_b {Bt Bn : Nat} {w : World} (W : World) (l : Nat) (o o' : Obj) (hl : w.heap.size ≤ l) (h : W.heap[l]? = some o) (h1 : o.isCells = false) (h2 : o.isWalk = false) : KpC Bt Bn W (W.putObj l o') :=
 kpC_c (keptC_of (grownBy_putObj' W l o') (fun r e => by cases e; exact ⟨o, h, h1⟩))
def encC (g : Nat) (k : Nat) : Array Value := #[.slice (some ⟨g, 64 * k, none⟩) 64 64]

set_option maxHeartbeats 400000 in
set_option maxRecDepth 100000 in
theorem chunk_any (a : Option Addr) (len cap : Nat) (w : World) : Calls Tryd.prog 63 #[.slice a len cap, .int .i64 64] w fun e w' => e = .returned (.func (.func 99) #[] #[.pointer (some ⟨w.heap.size, 0, none⟩), .pointer (some ⟨w.heap.size + 1, 0, none⟩)]) ∧ w' = (w.alloc (.cells #[.slice a len cap] 22)).alloc (.cells #[.int .i64 64] 3) := by
 have c0 := block_one (heap_alloc_new (w.alloc (.cells #[.slice a len cap] 22)) (.cells #[.int .i64 64] 3))
 go_enter Tryd.func63, Tryd.ntmps63
 go_wp2
 go_ret
 exact ⟨rfl, rfl⟩

set_option maxHeartbeats 1000000 in
set_option maxRecDepth 100000 in
theorem chunk1_in (n : Nat) (hn : 1 ≤ n) (l Bt Bn g nb cap : Nat) (hc : 64 * nb ≤ cap) (hcm : nb ≤ 80) (hc2 : cap ≤ maxLen) {tt tn : TypeId} (J Jx : List { k : Nat // k < nb } → World → Prop) (W : World) (hJ : AbidesFrom W.heap.size J)
  (hY : ∀ pre x W1, J pre W1 → pre.length < nb → YieldAt Fence.wide (n - 1) Tryd.prog l (encC g x.1) W1 fun e W' => (e = .returned (.bool true) ∧ J (pre ++ [x]) W' ∧ KpC Bt Bn W1 W') ∨ (e = .returned (.bool false) ∧ Jx (pre ++ [x]) W'))
  (hBt : W.heap[Bt]? = some (.cells #[.slice (some ⟨g, 0, none⟩) (64 * nb) cap] tt)) (hBn : W.heap[Bn]? = some (.cells #[.int .i64 64] tn)) (h0 : J [] W) :
  CallsIn Fence.wide n Tryd.prog 99 #[.func (.yield l) #[] #[], .pointer (some ⟨Bt, 0, none⟩), .pointer (some ⟨Bn, 0, none⟩)] W fun e W' => (∃ v, e = .returned v) ∧
   ((∃ xs, xs.map (·.1) = List.range nb ∧ J xs W') ∨ (∃ pre, True ∧ Jx pre W')) := by
 have HJ := hide hJ
 have HY := hide hY
 have H0 := hide (And.intro (show ∃ pre, pre.map (·.1) = List.range 0 ∧ J pre W from ⟨[], rfl, h0⟩) (And.intro hBt hBn))
 clear hJ hY h0 hBt hBn
 refine callsIn_of_wp Tryd.func99 rfl trivial ?_ rfl
 simp only [Tryd.ntmps99, List.size_toArray, List.length_cons, List.length_nil, Nat.reduceAdd, Nat.reduceSub, Array.replicate_succ, Array.replicate_zero, List.push_toArray, List.append_toArray, List.nil_append, List.cons_append]
 gi_wp2
 gi_loopw [4] (fun i wr => ∃ (k : Nat), k ≤ nb ∧ i = .int .i64 ((64 * k : Nat) : Int) ∧ Hid ((∃ pre, pre.map (·.1) = List.range k ∧ J pre wr) ∧ wr.heap[Bt]? = some (.cells #[.slice (some ⟨g, 0, none⟩) (64 * nb) cap] tt) ∧ wr.heap[Bn]? = some (.cells #[.int .i64 64] tn))) (fun i _ => 64 * nb - (intOf i).toNat)
 case atStart => exact ⟨0, Nat.zero_le _, rfl, H0⟩
 case round =>
  clear H0
  obtain ⟨k, hk, rfl, H⟩ := hrel
  have ct := block_one (unhide H).2.1
  have cn := block_one (unhide H).2.2
  by_cases hlt : k < nb
  ·have HLT := hide (show k < nb ∧ nb ≤ 80 from ⟨hlt, hcm⟩)
   obtain ⟨pre, hpre, hj⟩ := (unhide H).1
   have HPR := hide hpre
   have HL := hide (show pre.length < nb by have := congrArg List.length hpre; simp at this; omega)
   have HR2 := hide (show (pre ++ [(⟨k, hlt⟩ : { k : Nat // k < nb })]).map (·.1) = List.range (k + 1) by rw [List.map_append, hpre, List.range_succ]; rfl)
   generalize hx : (⟨k, hlt⟩ : { k : Nat // k < nb }) = x at *
   have hx1 : x.1 = k := by rw [← hx]
   have HX1 := hide hx1
   have hkm : 64 * k + 64 ≤ 64 * nb := by omega
   have hLm : 64 * nb ≤ 5120 := by omega
   have HE := hide (show encC g x.1 = #[.slice (some ⟨g, 64 * k, none⟩) 64 64] by rw [hx1]; rfl)
   have kd := (unhide H)
   have K1 := hide (And.intro (unhide HJ pre wr wr.drew none hj ⟨rfl, rfl, rfl, Nat.le_refl _, fun _ _ _ => rfl⟩ (fun r e => by cases e)) (And.intro (show wr.drew.heap[Bt]? = _ from kd.2.1) (show wr.drew.heap[Bn]? = _ from kd.2.2)))
   have HS := hide (show 64 * (k + 1) = 64 * k + 64 by omega)
   clear kd hlt hk hcm H hj hpre hx hx1 HPR
   generalize 64 * k = m at *
   generalize 64 * nb = L at *
   have l1 : (m : Int) < (L : Int) := by omega
   have l2 : (m : Int) ≤ (L : Int) := by omega
   have f1 : m ≤ L := by omega
   have f2 : ¬ cap = m := by omega
   have e1 : IntKind.i64.wrap ((m : Int) + 64) = ((m + 64 : Nat) : Int) := wrap_small (m + 64) (by omega)
   have hm : ¬ (((L - m : Nat) : Int) < 64) := by omega
   gi_wp2_with fail
   refine wpIn_wide.2 ?_
   refine startF 7 (S := fun w' => w'.cell? ⟨Bt, 0, none⟩ = some (.slice (some ⟨g, 0, none⟩) L cap) ∧ w'.cell? ⟨Bn, 0, none⟩ = some (.int .i64 64)) (by kernel_rfl) rfl ⟨block_one (unhide K1).2.1, block_one (unhide K1).2.2⟩ (fun hHeld => ?_)
   simp only [List.replicate]
   refine tkI 0 ?_ rfl (by kernel_rfl) (by kernel_rfl) (fun _ _ _ h => h) ?_ hHeld ?_; rotate_left; (· (intro w hSw; (try dsimp only at hSw); go_simp <;> with_reducible rfl)); simp only [Act.put, List.setIfInBounds_toArray, List.set_cons_zero, List.set_cons_succ]
   refine tkI 1 ?_ rfl (by kernel_rfl) (by kernel_rfl) (fun _ _ _ h => h) ?_ hHeld ?_; rotate_left; (· (intro w hSw; (try dsimp only at hSw); go_simp <;> with_reducible rfl)); simp only [Act.put, List.setIfInBounds_toArray, List.set_cons_zero, List.set_cons_succ]
   refine tkI 2 ?_ rfl (by kernel_rfl) (by kernel_rfl) (fun _ _ _ h => h) ?_ hHeld ?_; rotate_left; (· (intro w hSw; (try dsimp only at hSw); go_simp <;> with_reducible rfl)); simp only [Act.put, List.setIfInBounds_toArray, List.set_cons_zero, List.set_cons_succ]
   refine tkI 3 ?_ rfl (by kernel_rfl) (by kernel_rfl) (fun _ _ _ h => h) ?_ hHeld ?_; rotate_left; (· (intro w hSw; (try dsimp only at hSw); go_simp <;> with_reducible rfl)); simp only [Act.put, List.setIfInBounds_toArray, List.set_cons_zero, List.set_cons_succ]
   refine tkI 4 ?_ rfl (by kernel_rfl) (by kernel_rfl) (fun _ _ _ h => h) ?_ hHeld ?_; rotate_left; (· (intro w hSw; (try dsimp only at hSw); go_simp <;> with_reducible rfl)); simp only [Act.put, List.setIfInBounds_toArray, List.set_cons_zero, List.set_cons_succ]
   refine tkI 5 ?_ rfl (by kernel_rfl) (by kernel_rfl) (fun _ _ _ h => h) ?_ hHeld ?_; rotate_left; (· (intro w hSw; (try dsimp only at hSw); go_simp <;> with_reducible rfl)); simp only [Act.put, List.setIfInBounds_toArray, List.set_cons_zero, List.set_cons_succ]
   refine tkI 6 ?_ rfl (by kernel_rfl) (by kernel_rfl) (fun _ _ _ h => h) ?_ hHeld ?_; rotate_left; (· (intro w hSw; (try dsimp only at hSw); go_simp <;> with_reducible rfl)); simp only [Act.put, List.setIfInBounds_toArray, List.set_cons_zero, List.set_cons_succ]
   refine wpAnyH_done (by kernel_rfl) ?_ _
   clear hHeld hm f1 l1 l2
   obtain ⟨fn, tmps, assign, body, hy, hRd⟩ := unhide HY pre x wr.drew (unhide K1).1 (unhide HL)
   rw [unhide HE] at hy
   have ct := block_one (unhide K1).2.1
   have cn := block_one (unhide K1).2.2
   have HRD := hide hRd
   have KK := hide (unhide K1).2
   clear hRd K1
   generalize wr.drew = wd at *
   have g1 : (0 : Int) ≤ (m : Int) + 64 ∧ (m : Int) + 64 ≤ (cap : Int) := by omega
   have g2 : m ≤ ((m : Int) + 64).toNat := by omega
   have g4 : ((m : Int) + 64).toNat - m = 64 := by omega
   gi_wp2
   refine (unhide HRD).mono ?_
   rintro e W3 (⟨rfl, hJ3, hk3⟩ | ⟨rfl, hJx3⟩)
   ·have H3 := hide (And.intro (show ∃ pre, pre.map (·.1) = List.range (k + 1) ∧ J pre W3 from ⟨_, unhide HR2, hJ3⟩) (And.intro (hk3.1 _ _ (unhide KK).1) (hk3.2 _ _ (unhide KK).2)))
    have cn3 := block_one (unhide H3).2.2
    have hlt := unhide HLT
    clear hy HRD hk3 hJ3 ct cn KK g1 g2 g4 HE HL HR2
    gi_wp2
    go_roundw
    case rel => exact ⟨k + 1, by omega, by rw [unhide HS]; go_num, H3⟩
    case measure => simp [intOf]; omega
   ·clear hy HRD ct cn KK g1 g2 g4
    gi_wp2
    refine bodyPost_ret (results_none rfl _ _ _) rfl ?_
    exact ⟨⟨_, rfl⟩, .inr ⟨_, trivial, hJx3⟩⟩
  ·obtain rfl : k = nb := by omega
   gi_wp2
   go_end0
   exact ⟨⟨_, rfl⟩, .inl (unhide H).1⟩
theorem chunk_stops (Bt Bn g nb cap : Nat) (hc : 64 * nb ≤ cap) (hcm : nb ≤ 80) (hc2 : cap ≤ maxLen) {tt tn : TypeId} (w : World) (hBt : w.heap[Bt]? = some (.cells #[.slice (some ⟨g, 0, none⟩) (64 * nb) cap] tt)) (hBn : w.heap[Bn]? = some (.cells #[.int .i64 64] tn)) :
  SeqStopsK Fence.wide 4 Tryd.prog 99 #[.pointer (some ⟨Bt, 0, none⟩), .pointer (some ⟨Bn, 0, none⟩)] (fun x : { k : Nat // k < nb } => encC g x.1) (KpC Bt Bn) (fun xs => xs.map (·.1) = List.range nb) (fun _ => True) nb w :=
 fun l J Jx W hW hJ hJx hY h0 => chunk1_in 4 (by omega) l Bt Bn g nb cap hc hcm hc2 J Jx W hJ hY (block_kept hW hBt) (block_kept hW hBn) h0
end Go.Proofs.YtkmjghecjlgjpaaDoor
