/-
  The one field of a Name that is a value. Contracts of the program's Child.
-/
import Derived.Test.YtaconefooicplaaFnNameOrderG03
import Derived.Test.YtaconefooicplaaFnNameOrderG23
import Derived.Test.YtaconefooicplaaFnNameOrderG29
import Derived.Test.YtaconefooicplaaFnNameOrderG09
namespace Go.Proofs.Ytaconefooicplaa
open Go.RowKit

theorem field_L (a : Option Addr) (n c : Nat) (w : World) : Sem.run Try.prog (Instr.field 25 (Value.agg #[.slice a n c]) 0) w = .ok (.slice a n c) w := by kernel_rfl
end Go.Proofs.Ytaconefooicplaa

namespace Go.Proofs.Ytaconefooicplaa
open Go.RowKit
set_option linter.unusedVariables false

set_option maxHeartbeats 800000 in
set_option maxRecDepth 100000 in
theorem implChild_no {v vl : Value} {n : List (List Int)} {l : List Int} {w : World} (h : HasL w v n) (hvl : Has w vl l) (hno : nameOk n = false ∨ n.length = 6 ∨ labelOk l = false) :
    Calls Try.prog 21 #[.agg #[v], vl] w fun e w' => ∃ v', e = .returned (.tuple #[.agg #[v'], .bool false]) ∧ OwnL w.heap.size 22 5 w' v' [] ∧ Below w.heap.size w w' := by
  obtain ⟨a, cap, rfl, hcl, hm⟩ := h.form
  unfold maxLen at hm
  obtain ⟨hsz, k0, r0⟩ := box2 w (.cells #[.slice a n.length cap] 25) #[.slice none 0 0] 25
  have b0 := below2 w (.cells #[.slice a n.length cap] 25) (.cells #[.slice none 0 0] 25)
  have h0 := hide (h.below b0)
  have l0 := hide (hvl.below b0)
  clear h hvl
  have fin : ∀ w1, Below w.heap.size w w1 → ∃ v', Value.agg #[Value.slice none 0 0] = .agg #[v'] ∧ OwnL w.heap.size 22 5 (w1.setCell ⟨w.heap.size + 1, 0, none⟩ (.slice none 0 0)) v' [] ∧ Below w.heap.size w (w1.setCell ⟨w.heap.size + 1, 0, none⟩ (.slice none 0 0)) :=
    fun w1 hb => ⟨_, rfl, ⟨[], by simpa using World.ownsRow_nil _ _ _ _, by simp, by simp⟩, hb.setCell (by show w.heap.size ≤ w.heap.size + 1; omega) _⟩
  cases hok : nameOk n with
  | false =>
    have HOK := hide hok
    clear hok hno
    go_enter Try.func21, Try.ntmps21
    go_wp2_with fail
    generalize (w.alloc (.cells #[.slice a n.length cap] 25)).alloc (.cells #[.slice none 0 0] 25) = W0 at *
    refine (implNameOk_has (unhide h0)).mono ?_
    rw [unhide HOK]
    rintro e w1 ⟨rfl, b1⟩
    have bb1 := below_next b0 b1
    have r1 := block_kept b1 r0
    have c1 := block_one r1
    have f1 := block_frozen r1 0
    have M1 := hide (block_set r1 (.slice none 0 0))
    clear b0 k0 h0 b1 r0 r1
    go_wp2_with fail
    refine bodyPost_ret (results_cell_tmp_row rfl _ _ (w.heap.size + 1) 25 #[.slice none 0 0] (0, 0) _ rfl (unhide M1) Try.underlying25 rfl (by kernel_rfl)) rfl ?_
    obtain ⟨v', e1, o1, b1⟩ := fin w1 bb1
    exact ⟨_, rfl, ⟨[], by simpa using World.ownsRow_nil _ _ _ _, by simp, by simp⟩, b1⟩
  | true =>
    have HOK := hide hok
    rw [hok] at hno
    clear hok
    by_cases h6 : n.length = 6
    · have hn6 : ((n.length : Int) == 6) = true := by rw [beq_iff_eq]; omega
      generalize hn : n.length = m at *
      subst h6
      have HN := hide hn
      clear hn hno hn6
      go_enter Try.func21, Try.ntmps21
      go_wp2_with fail
      generalize (w.alloc (.cells #[.slice a 6 cap] 25)).alloc (.cells #[.slice none 0 0] 25) = W0 at *
      refine (implNameOk_has (unhide h0)).mono ?_
      rw [unhide HOK]
      rintro e w1 ⟨rfl, b1⟩
      have bb1 := below_next b0 b1
      have r1 := block_kept b1 r0
      have k1 := block_one (block_kept b1 k0)
      have c1 := block_one r1
      have f1 := block_frozen r1 0
      have M1 := hide (block_set r1 (.slice none 0 0))
      clear b0 k0 h0 b1 r0 r1
      go_wp2_with fail
      refine bodyPost_ret (results_cell_tmp_row rfl _ _ (w.heap.size + 1) 25 #[.slice none 0 0] (0, 0) _ rfl (unhide M1) Try.underlying25 rfl (by kernel_rfl)) rfl ?_
      obtain ⟨v', e1, o1, b1⟩ := fin w1 bb1
      exact ⟨_, rfl, ⟨[], by simpa using World.ownsRow_nil _ _ _ _, by simp, by simp⟩, b1⟩
    · have hl : labelOk l = false := by
        rcases hno with hno | hno | hno
        · cases hno
        · exact absurd hno h6
        · exact hno
      have hn6 : ((n.length : Int) == 6) = false := by rw [beq_eq_false_iff_ne]; omega
      have HL := hide hl
      clear hl hno
      go_enter Try.func21, Try.ntmps21
      go_wp2_with fail
      generalize (w.alloc (.cells #[.slice a n.length cap] 25)).alloc (.cells #[.slice none 0 0] 25) = W0 at *
      refine (implNameOk_has (unhide h0)).mono ?_
      rw [unhide HOK]
      rintro e w1 ⟨rfl, b1⟩
      have bb1 := below_next b0 b1
      have r1 := block_kept b1 r0
      have k1 := block_one (block_kept b1 k0)
      have c1 := block_one r1
      have f1 := block_frozen r1 0
      have M1 := hide (block_set r1 (.slice none 0 0))
      have l1 := hide ((unhide l0).below b1)
      clear b0 k0 h0 b1 r0 r1
      go_wp2_with fail
      refine (implLabelOk_has (unhide l1)).mono ?_
      rw [unhide HL]
      rintro e w2 ⟨rfl, rfl⟩
      go_wp2_with fail
      refine bodyPost_ret (results_cell_tmp_row rfl _ _ (w.heap.size + 1) 25 #[.slice none 0 0] (0, 0) _ rfl (unhide M1) Try.underlying25 rfl (by kernel_rfl)) rfl ?_
      obtain ⟨v', e1, o1, b1⟩ := fin w1 bb1
      exact ⟨_, rfl, ⟨[], by simpa using World.ownsRow_nil _ _ _ _, by simp, by simp⟩, b1⟩

set_option maxHeartbeats 800000 in
set_option maxRecDepth 100000 in
theorem implChild_yes {v vl : Value} {n : List (List Int)} {l : List Int} {w : World} (h : HasL w v n) (hvl : Has w vl l) (hok : nameOk n = true) (h6 : n.length ≠ 6) (hl : labelOk l = true) :
    Calls Try.prog 21 #[.agg #[v], vl] w fun e w' => ∃ v', e = .returned (.tuple #[.agg #[v'], .bool true]) ∧ OwnL w.heap.size 22 5 w' v' (l :: n) ∧ Below w.heap.size w w' := by
  obtain ⟨a, cap, rfl, hcl, hm⟩ := h.form
  unfold maxLen at hm
  obtain ⟨hsz, k0, r0⟩ := box2 w (.cells #[.slice a n.length cap] 25) #[.slice none 0 0] 25
  have b0 := below2 w (.cells #[.slice a n.length cap] 25) (.cells #[.slice none 0 0] 25)
  have h0 := hide (h.below b0)
  have l0 := hide (hvl.below b0)
  clear h hvl
  have h66 := (nameOk_parts hok).1
  have hl15 := (labelOk_length hl).2
  have HLEN := hide (show ∀ k, k < n.length → (n.getD k []).length ≤ 15 from fun k hk => (labelOk_length ((nameOk_parts hok).2 k hk)).2)
  have HOK := hide hok
  have HL := hide hl
  clear hl hok
  have hn6 : ((n.length : Int) == 6) = false := by rw [beq_eq_false_iff_ne]; omega
  go_enter Try.func21, Try.ntmps21
  go_wp2_with fail
  generalize (w.alloc (.cells #[.slice a n.length cap] 25)).alloc (.cells #[.slice none 0 0] 25) = W0 at *
  refine (implNameOk_has (unhide h0)).mono ?_
  rw [unhide HOK]
  rintro e w1 ⟨rfl, b1⟩
  have bb1 := below_next b0 b1
  have r1 := hide (block_kept b1 r0)
  have k1 := hide (block_kept b1 k0)
  have l1 := hide ((unhide l0).below b1)
  have h1 := hide ((unhide h0).below b1)
  have z1 := block_lt (unhide r1)
  have ck1 := block_one (unhide k1)
  clear b0 k0 h0 b1 r0
  go_wp2_with fail
  refine (implLabelOk_has (unhide l1)).mono ?_
  rw [unhide HL]
  rintro e w2 ⟨rfl, rfl⟩
  go_wp2_with fail
  refine (copyBytes_reads (unhide l1).reads (by omega)).mono ?_
  rintro e w2 ⟨u2, rfl, o2, b2⟩
  obtain ⟨ua, uc, rfl, _⟩ := o2.lies
  have U2 := hide o2.here
  have b3 := below_alloc (w := w2) (.cells #[.slice ua l.length uc] 22)
  have R3 := hide (row_one w2 w1.heap.size 22 (.slice ua l.length uc) b2.size)
  have r3 := hide (block_kept (below_next b2 b3) (unhide r1))
  have k3 := hide (block_kept (below_next b2 b3) (unhide k1))
  have h3 := hide ((unhide h1).below (below_next b2 b3))
  have U3 := hide ((unhide U2).below b3)
  have bb3 := below_next bb1 (below_next b2 b3)
  have q3 := below_next b2 b3
  have z3 := b3.size
  have z2 := b2.size
  have ck3 := block_one (unhide k3)
  clear o2 b2 b3 r1 k1 h1 U2 ck1
  go_wp2_with fail
  generalize w2.alloc (.cells #[.slice ua l.length uc] 22) = w3 at *
  refine (copyName_has (unhide h3) h66 (unhide HLEN)).mono ?_
  rintro e w4 ⟨v4, rfl, o4, b4⟩
  obtain ⟨va, vc, rfl, _⟩ := o4.hasL.form
  obtain ⟨vs, hvs, hva, hvd⟩ := o4
  have hvl : vs.length = n.length := by have := hvs.1; simpa using this
  have R4 := hide (ownsRow_kept' (unhide R3) b4)
  have U4 := hide ((unhide U3).below b4)
  have r4 := hide (block_kept b4 (unhide r3))
  have q4 := below_next q3 b4
  have z4 := b4.size
  have HVS := hide hvs
  have HVA := hide hva
  have HVD := hide hvd
  have HVO := hide (show ∀ y ∈ vs, y.oneCell' = true from fun y hy => by
    obtain ⟨i, hi, rfl⟩ := List.mem_iff_getElem.1 hy
    obtain ⟨x, h1, h2⟩ := hva i (by omega)
    rw [List.getElem?_eq_getElem hi] at h1
    obtain rfl : vs[i] = x := by simpa using h1
    exact own_one h2)
  clear hvs hva hvd R3 U3 r3 k3 h3 ck3
  have hfl := field_L va n.length vc w4
  go_wp2_with (at_builtin; refine append_row rfl _ _ 23 22 rfl Try.underlying23 info_sl w1.heap.size _ _ [.slice ua l.length uc] vs rfl rfl (unhide R4) (row_reads (unhide HVS)) (unhide HVO) (by simp; omega) (by omega) ?_)
  intro v5 w5 o5 g5
  have p5 := cons_step g5 (unhide R4) o5 rfl (C := w2.heap.size) (unhide U4) hvl (fun i hi => by obtain ⟨x, h1, h2⟩ := unhide HVA i hi; exact ⟨x, h1, h2.mono (by omega)⟩) (unhide HVD) (by omega) (by decide)
  have y5 : Below w1.heap.size w4 w5 := (Below.refl _ _).grown g5 (by omega) (fun q hq => (World.ownsRow.lt (unhide R4) q hq).1)
  obtain ⟨va5, vc5, rfl, _⟩ := p5.hasL.form
  have r5 := (y5.block (w.heap.size + 1) z1).trans (unhide r4)
  have c5 := block_one r5
  have f5 := block_frozen r5 0
  have M5 := hide (block_set r5 (.slice va5 (l :: n).length vc5))
  have P5 := hide p5
  clear r5 p5 o5
  generalize hln : l :: n = ln at *
  have HLN := hide hln
  clear hln
  go_wp2_with fail
  refine bodyPost_ret (results_cell_tmp_row rfl _ _ (w.heap.size + 1) 25 #[.slice va5 ln.length vc5] (0, 0) _ rfl (unhide M5) Try.underlying25 rfl (by kernel_rfl)) rfl ?_
  have O6 := OwnL.kept (unhide P5) (grown_setCell w5 ⟨w.heap.size + 1, 0, none⟩ (.slice va5 ln.length vc5)) (by show w.heap.size + 1 < w1.heap.size; omega)
  have hln := unhide HLN
  subst hln
  exact ⟨_, rfl, O6.mono (by omega), ((bb1.trans (q4.mono (by omega))).trans (y5.mono (by omega))).setCell (by show w.heap.size ≤ w.heap.size + 1; omega) _⟩

theorem implChild_has {v vl : Value} {n : List (List Int)} {l : List Int} {w : World} (h : HasL w v n) (hvl : Has w vl l) (_ : l.length ≤ 1048576) :
    Calls Try.prog 21 #[.agg #[v], vl] w fun e w' => ∃ v', e = .returned (.tuple #[.agg #[v'], .bool (childOf n l).2]) ∧ OwnL w.heap.size 22 5 w' v' (childOf n l).1 ∧ Below w.heap.size w w' := by
  by_cases hc : nameOk n = true ∧ n.length ≠ 6 ∧ labelOk l = true
  · rw [childOf_yes hc.1 hc.2.1 hc.2.2]
    exact implChild_yes h hvl hc.1 hc.2.1 hc.2.2
  · have hno : nameOk n = false ∨ n.length = 6 ∨ labelOk l = false := by
      cases h1 : nameOk n with
      | false => exact .inl rfl
      | true =>
        by_cases h2 : n.length = 6
        · exact .inr (.inl h2)
        · cases h3 : labelOk l with
          | false => exact .inr (.inr rfl)
          | true => exact absurd ⟨h1, h2, h3⟩ hc
    rw [childOf_no hno]
    exact implChild_no h hvl hno
end Go.Proofs.Ytaconefooicplaa
