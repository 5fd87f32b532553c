/-
  Plain facts: a region whose order is open, inside a round of a range over a function, by the laws for one outside. Contracts of the program's Lower.
-/
import Derived.Test.YtkmjghecjlgjpaaDoorFnReverseG00
import Derived.OrdersIn
import Derived.OrdersHeld
import Derived.RangeFuncCalls
import Derived.TacticsIn
import Derived.Test.YtkmjghecjlgjpaaDoorFnReverseG02
import Derived.Test.YtkmjghecjlgjpaaDoorFnReverseG14
import Derived.Test.YtkmjghecjlgjpaaDoorFnReverseG16
namespace Go.Proofs.YtkmjghecjlgjpaaDoor
open Go.RowKit
set_option linter.unusedVariables false

theorem operIn_of {l n : Nat} {P : Program} {o : Oper} {a : Act} {w : World} {K K' : Act → World → Prop} {Q : Exit → Act → World → Prop} (hnd : ∀ c, o.op ≠ .defer c) (hk : ∀ a w, K a w → K' a w) (h : o.wp P a w K Q) :
    o.wpIn (Fence.wide.inRound l) n P a w K' Q := by
  refine ⟨fun f _ => trivial, ?_⟩
  rw [Fence.inRound_round, Oper.semAt_some l _ o hnd]
  unfold Oper.wp at h
  generalize (execOp a.eval o).run P w = r at *
  cases r with
  | ok x w' =>
    cases x with
    | value v => exact hk _ _ h
    | skip => exact hk _ _ h
    | defer d => exact hk _ _ h
    | enter f args => exact ⟨fun q => by simp [Fence.inRound, Fence.wide] at q, CallsIn.inRound l (callsIn_wide.2 (Calls.mono h (fun e w'' he => by cases e <;> first | exact hk _ _ he | exact he)))⟩
    | row row args => exact ⟨fun q => by simp [Fence.inRound, Fence.wide] at q, fun c cs _ => let ⟨v, w'', r, s⟩ := h c cs; ⟨v, w'', hk _ _ r, stepsIn_wide.2 s⟩⟩
    | _ => exact False.elim h
  | halt x w' => cases x <;> first | exact h | exact False.elim h

theorem anyIn_of {l n : Nat} {P : Program} {md : Region.Mode} {ops : Array Oper} {Q : Exit → Act → World → Prop} (hL : ¬ LetsOut Q) (hnd : ∀ (i : Nat) (o : Oper), ops[i]? = some o → ∀ c, o.op ≠ .defer c) :
    ∀ (fuel : Nat) (listed : Array Bool) (a : Act) (w : World), wpAny P md ops Q fuel listed a w → wpAnyIn (Fence.wide.inRound l) n P md ops Q fuel listed a w
  | 0, _, _, _, h => h
  | fuel + 1, listed, a, w, h => by
    refine ⟨h.1, fun i hi => ?_⟩
    have hop := h.2 i hi
    unfold wpOp at hop
    unfold wpOpIn
    cases ho : ops[i]? with
    | none =>
      rw [ho] at hop
      exact anyIn_of hL hnd fuel _ _ _ hop
    | some o =>
      rw [ho] at hop
      dsimp only at hop ⊢
      by_cases hw : Region.wanted o (yielded ops a.tmps) = true
      · rw [if_pos hw] at hop ⊢
        rcases hop with hop | hop
        · exact operIn_of (hnd i o ho) (fun a w q => anyIn_of hL hnd fuel _ a w q) hop
        · exact absurd hop.2 hL
      · rw [if_neg hw] at hop ⊢
        exact ⟨fun f _ => trivial, anyIn_of hL hnd fuel _ _ _ hop⟩
theorem regionIn_any {l n : Nat} {P : Program} {id : Nat} {ops : Array Oper} {Q : Exit → Act → World → Prop} {a : Act} {w : World} (hL : ¬ LetsOut Q) (hnd : ops.all (fun o => match o.op with | .defer _ => false | _ => true) = true) (hm : P.follows .mixedOrders = true)
    (h : wpAny P .any ops Q ops.size (Array.replicate ops.size false) a w.drew) : (Code.region id ops true).wpIn (Fence.wide.inRound l) n P Q a w := by
  refine wpIn_region_any hm (anyIn_of hL ?_ _ _ _ _ h)
  intro i o ho c hc
  have := Array.all_eq_true.1 hnd i (Array.getElem?_eq_some_iff.1 ho).1
  rw [(Array.getElem?_eq_some_iff.1 ho).2] at this
  simp [hc] at this
/-- The beginning: what is held is shown once, and handed on. -/
theorem regionIn_held {l n : Nat} {P : Program} {id : Nat} {ops : Array Oper} {Q : Exit → Act → World → Prop} {S : World → Prop} {a : Act} {w : World} (hL : ¬ LetsOut Q) (hnd : ops.all (fun o => match o.op with | .defer _ => false | _ => true) = true) (hm : P.follows .mixedOrders = true) (hS : S w.drew)
    (h : S w.drew → wpAnyH P .any ops Q S ops.size (Array.replicate ops.size false) a w.drew) : (Code.region id ops true).wpIn (Fence.wide.inRound l) n P Q a w := by
  refine wpIn_region_any hm (anyIn_of hL ?_ _ _ _ _ (wpAny_of_held _ _ _ _ (h hS)))
  intro i o ho c hc
  have := Array.all_eq_true.1 hnd i (Array.getElem?_eq_some_iff.1 ho).1
  rw [(Array.getElem?_eq_some_iff.1 ho).2] at this
  simp [hc] at this
end Go.Proofs.YtkmjghecjlgjpaaDoor

namespace Go.Proofs.YtkmjghecjlgjpaaDoor
open Go.RowKit
set_option linter.unusedVariables false

set_option maxHeartbeats 400000 in
set_option maxRecDepth 100000 in
theorem implLower_some (g off cap : Nat) (l : List Int) (w : World) (hh : Has w (.slice (some ⟨g, off, none⟩) l.length cap) l) (hl : l.length ≤ 1048576) (hb : ∀ k, 0 ≤ l.getD k 0 ∧ l.getD k 0 ≤ 255) :
    Calls Tryd.prog 79 #[.slice (some ⟨g, off, none⟩) l.length cap] w fun e w' => ∃ v, e = .returned v ∧ Own w.heap.size 5 w' v (lowered l l.length) ∧ Below w.heap.size w w' := by
  have hl2 : l.length ≤ 2097152 := by omega
  have h := hide hh
  clear hh
  have HB := hide hb
  clear hb
  generalize hn : l.length = n at *
  have HN := hide hn
  clear hn
  have hsz := strOfNums_size l
  rw [unhide HN] at hsz
  go_enter Tryd.func79, Tryd.ntmps79
  go_wp2_with fail
  refine (copyBytes_reads (unhide h).reads (by rw [unhide HN]; exact hl2)).mono ?_
  rintro e w1 ⟨v1, rfl, o1, b1⟩
  have hcv := conv_has ((unhide h).below b1)
  generalize hs : strOfNums l = s at *
  have HS := hide hs
  clear hs
  have o2 : w1.ownsRow w.heap.size 5 1 v1 n ((lowered l 0).map (Value.int .u8)) := by
    rw [lowered_zero]; have o2 := o1; unfold Own at o2; rw [unhide HN] at o2; exact o2
  go_wp2
  go_loopw [4] (fun i wr => ∃ pos : Nat, pos ≤ n ∧ wr.heap[w1.heap.size]? = some (.stringIter s pos) ∧ wr.ownsRow w.heap.size 5 1 v1 n ((lowered l pos).map (Value.int .u8)) ∧ Below w.heap.size w wr) (fun i wr => n - wr.iterPos w1.heap.size)
  case atStart => exact ⟨0, Nat.zero_le _, World.iter_heap w1 s 0, World.ownsRow.alloc o2 _, b1.alloc b1.size _⟩
  case round =>
    obtain ⟨pos, hpos, hit, ho, hbw⟩ := hrel
    by_cases hlt : pos < n
    · have hp : pos < s.size := by omega
      have hnx : ∀ ty, (Instr.next (.pointer (some ⟨w1.heap.size, 0, none⟩)) true ty).run Tryd.prog wr = _ := fun ty => Lib.run_next_any_at wr w1.heap.size s pos ty hit hp
      have hd := hide (decode_l l (unhide HB) pos (by rw [unhide HN]; exact hlt))
      rw [unhide HS] at hd
      have hle := decode_le s pos
      generalize hde : Utf8.decode s pos = d at *
      clear hde
      obtain ⟨d1, d2⟩ := d
      have ho2 := hide (ownsRow_iter ho hit (pos + d2))
      have hit2 := hide (Lib.iterAt_heap wr w1.heap.size s pos (pos + d2) hit)
      have hbw2 := hide (Lib.below_iterAt hbw b1.size s (pos + d2))
      simp only at hnx hle hd
      generalize hW : wr.iterAt w1.heap.size s (pos + d2) = W1 at *
      have HW := hide hW
      clear hW
      have HP := hide (iterPos_eq hit)
      have HP2 := hide (iterPos_eq (unhide hit2))
      clear hit ho hbw
      by_cases hA : 65 ≤ d1 ∧ d1 ≤ 90
      · obtain ⟨hA1, hA2⟩ := hA
        obtain ⟨hx1, rfl⟩ : l.getD pos 0 = (d1 : Int) ∧ d2 = 1 := by
          rcases (unhide hd).2.2 with ⟨_, h2, h3⟩ | ⟨h2, _⟩
          · exact ⟨h2.symm, h3⟩
          · omega
        rcases o1.form with ⟨rfl, rfl⟩ | ⟨g1, cap1, hv1, hB1, hlt1, _⟩
        · have := unhide HN; simp at this; omega
        · rw [unhide HN] at hv1
          subst hv1
          have hc := World.ownsRow.cellAt (unhide ho2) pos (by omega)
          rw [map_at _ _ (by rw [lowered_length, unhide HN]; exact hlt), lowered_getD _ _ _ (Nat.le_refl _), hx1] at hc
          have hf := World.ownsRow.frozenAt (unhide ho2) pos
          have hst := hide (World.ownsRow.stored (unhide ho2) pos (.int .u8 (low (l.getD pos 0))))
          have hsucc := hide (lowered_succ l pos)
          have HX := hide hx1
          clear hx1
          have i65 : (65 : Int) ≤ (d1 : Int) := by omega
          have i90 : (d1 : Int) ≤ 90 := by omega
          go_wp2
          have e : ((d1 : Int) - 65 + 97) = low (l.getD pos 0) := by rw [unhide HX, low_great _ i65 i90]; omega
          have hne : w1.heap.size ≠ g1 := by omega
          rw [e]
          refine ⟨⟨pos + 1, by omega, iter_setCell (unhide hit2) hne, ?_, (unhide hbw2).setCell hB1 _⟩, ?_⟩
          · have := (unhide hst).1
            rw [← List.map_set, unhide hsucc] at this
            exact this
          · rw [iterPos_eq (iter_setCell (unhide hit2) hne), unhide HP]; omega
      · have hB : (d1 : Int) < 65 ∨ (90 : Int) < (d1 : Int) := by omega
        have hs2 := hide (lowered_same l pos (pos + d2) (by omega) (fun j h1 h2 => by
          rcases (unhide hd).2.2 with ⟨_, h4, h3⟩ | ⟨_, h4⟩
          · obtain rfl : j = pos := by omega
            omega
          · have := h4 j h1 h2; omega))
        rcases hB with hB | hB
        · go_wp2
          have hq := (unhide hd).2.1
          rw [unhide HN] at hq
          refine ⟨⟨pos + d2, hq, unhide hit2, ?_, unhide hbw2⟩, ?_⟩
          · rw [unhide hs2]; exact unhide ho2
          · rw [unhide HP, unhide HP2]; have := (unhide hd).1; omega
        · have hB' : ¬ (d1 : Int) ≤ 90 := by omega
          go_wp2
          have hq := (unhide hd).2.1
          rw [unhide HN] at hq
          refine ⟨⟨pos + d2, hq, unhide hit2, ?_, unhide hbw2⟩, ?_⟩
          · rw [unhide hs2]; exact unhide ho2
          · rw [unhide HP, unhide HP2]; have := (unhide hd).1; omega
    · have hp : ¬ pos < s.size := by omega
      have hnx : ∀ ty, (Instr.next (.pointer (some ⟨w1.heap.size, 0, none⟩)) true ty).run Tryd.prog wr = _ := fun ty => Lib.run_next_end_at wr w1.heap.size s pos ty hit hp
      go_wp2
      go_ret
      obtain rfl : pos = n := by omega
      refine ⟨_, rfl, ?_, hbw⟩
      unfold Own
      rw [lowered_length, unhide HN]
      exact ho

set_option maxHeartbeats 400000 in
set_option maxRecDepth 100000 in
theorem implLower_nil (w : World) :
    Calls Tryd.prog 79 #[.slice none 0 0] w fun e w' => ∃ v, e = .returned v ∧ Own w.heap.size 5 w' v [] ∧ Below w.heap.size w w' := by
  go_enter Tryd.func79, Tryd.ntmps79
  go_wp2_with fail
  refine (copyBytes_reads (l := []) (.inl ⟨rfl, rfl⟩) (by simp)).mono ?_
  rintro e w1 ⟨v1, rfl, o1, b1⟩
  have hcv := run_convert_bytes_nil (P := Tryd.prog) w1 22 5 Tryd.underlying22 Tryd.underlying5 0 0 9 Tryd.underlying9
  go_wp2
  go_loopw [4] (fun i wr => wr.heap[w1.heap.size]? = some (.stringIter ByteArray.empty 0) ∧ wr = w1.iter ByteArray.empty 0) (fun i wr => 0)
  case atStart => exact ⟨World.iter_heap w1 _ 0, rfl⟩
  case round =>
    obtain ⟨hit, rfl⟩ := hrel
    have hnx : ∀ ty, (Instr.next (.pointer (some ⟨w1.heap.size, 0, none⟩)) true ty).run Tryd.prog (w1.iter ByteArray.empty 0) = _ := fun ty => Lib.run_next_end_at _ w1.heap.size _ 0 ty hit (by simp)
    go_wp2
    go_ret
    exact ⟨_, rfl, o1.alloc _, b1.alloc b1.size _⟩

theorem implLower_has {v : Value} {l : List Int} {w : World} (h : Has w v l) (hl : l.length ≤ 1048576) (hb : ∀ k, 0 ≤ l.getD k 0 ∧ l.getD k 0 ≤ 255) :
    Calls Tryd.prog 79 #[v] w fun e w' => ∃ v', e = .returned v' ∧ Own w.heap.size 5 w' v' (lowered l l.length) ∧ Below w.heap.size w w' := by
  have h' := h
  rcases h with ⟨rfl, rfl⟩ | ⟨g, off, cap, rfl, _⟩
  · exact implLower_nil w
  · exact implLower_some g off cap l w h' hl hb

theorem implLower_any {B : Nat} {v : Value} {l : List Int} {w : World} (h : Own B 5 w v l) (hl : l.length ≤ 1048576) (hb : ∀ k, 0 ≤ l.getD k 0 ∧ l.getD k 0 ≤ 255) :
    Calls Tryd.prog 79 #[v] w fun e w' => ∃ v', e = .returned v' ∧ Own w.heap.size 5 w' v' (lowered l l.length) ∧ Below w.heap.size w w' := implLower_has h.has hl hb
end Go.Proofs.YtkmjghecjlgjpaaDoor
