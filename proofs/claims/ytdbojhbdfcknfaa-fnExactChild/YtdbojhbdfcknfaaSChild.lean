/-
  Contracts of the specification's l2child and Child.
-/
import Derived.Test.YtdbojhbdfcknfaaSNameOk
import Derived.Test.YtdbojhbdfcknfaaSOwn
import Derived.Test.YtdbojhbdfcknfaaRows3
namespace Go.Proofs.Ytdbojhbdfcknfaa
open Go.RowKit
set_option linter.unusedVariables false

set_option maxHeartbeats 800000 in
set_option maxRecDepth 100000 in
theorem l2child_has {v vl : Value} {n : List (List Int)} {l : List Int} {w : World} (h : HasL w v n) (hvl : Has w vl l) (hn : n.length ≤ 1048576) :
    Calls Try.prog 115 #[.agg #[v], vl] w fun e w' => ∃ v', e = .returned (.agg #[v']) ∧ HasL w' v' (l :: n) ∧ Below w.heap.size w w' := by
  obtain ⟨us, hul, hur, huo, hua⟩ := h.vals
  obtain ⟨a, cap, rfl, hcl, hm⟩ := h.form
  obtain ⟨la, lc, rfl, _⟩ := hvl.form
  obtain ⟨hsz, k0, r0⟩ := box2 w (.cells #[.slice a n.length cap] 25) #[.slice none 0 0] 25
  have b0 := below2 w (.cells #[.slice a n.length cap] 25) (.cells #[.slice none 0 0] 25)
  have HL := hide hvl
  have HUR := hide hur
  have HUO := hide huo
  have HUA := hide hua
  clear h hvl hur huo hua
  have CKA : ∀ o, (((w.alloc (.cells #[.slice a n.length cap] 25)).alloc (.cells #[.slice none 0 0] 25)).alloc o).cell? ⟨w.heap.size, 0, none⟩ = some (.slice a n.length cap) := fun o => block_one (block_kept (below_alloc o) k0)
  have R3 := row_one ((w.alloc (.cells #[.slice a n.length cap] 25)).alloc (.cells #[.slice none 0 0] 25)) w.heap.size 22 (.slice la l.length lc) b0.size
  rw [hsz] at R3
  have b3 := below_next b0 (below_alloc (w := (w.alloc (.cells #[.slice a n.length cap] 25)).alloc (.cells #[.slice none 0 0] 25)) (.cells #[.slice la l.length lc] 22))
  have r3 := block_kept (below_alloc (.cells #[.slice la l.length lc] 22)) r0
  have RR3 := hide R3
  have B3 := hide b3
  have BB3 := hide r3
  have UR3 := hide (reads_below b3 (unhide HUR))
  clear r0 k0 R3 b3 r3 HUR
  go_enter Try.func115, Try.ntmps115
  go_wp2_with (at_builtin; refine append_row rfl _ _ 23 22 rfl Try.underlying23 info_sl2 w.heap.size _ _ [.slice la l.length lc] us rfl rfl (unhide RR3) (unhide UR3) (unhide HUO) (by simp; omega) (unhide B3).size ?_)
  intro v4 w4 o4 g4
  generalize ((w.alloc (.cells #[.slice a n.length cap] 25)).alloc (.cells #[.slice none 0 0] 25)).alloc (.cells #[.slice la l.length lc] 22) = W3 at *
  have b4 : Below w.heap.size w w4 := (unhide B3).grown g4 (unhide B3).size (fun q hq => (World.ownsRow.lt (unhide RR3) q hq).1)
  have r4 := block_grown g4 (unhide BB3) (row_apart (unhide RR3) (unhide BB3) (by decide))
  have mk : ∀ (w' : World) (v : Value), Below w.heap.size w w' → w'.ownsRow w.heap.size 22 1 v (1 + n.length) (.slice la l.length lc :: us) → HasL w' v (l :: n) := by
    intro w' v hb o
    have e : 1 + n.length = (l :: n).length := by simp; omega
    rw [e] at o
    refine HasL.of_row o (fun i hi => ?_)
    cases i with
    | zero => exact ⟨_, rfl, (unhide HL).below hb⟩
    | succ i =>
      obtain ⟨x, h1, h2⟩ := unhide HUA i (by simp at hi; omega)
      exact ⟨x, h1, by rw [cons_getD]; exact h2.below hb⟩
  have p4 := mk w4 v4 b4 o4
  obtain ⟨va, vc, rfl, _⟩ := p4.form
  have c4 := block_one r4
  have f4 := block_frozen r4 0
  have M4 := hide (block_set r4 (.slice va (l :: n).length vc))
  have q4 : Below w4.heap.size w4 w4 := Below.refl _ _
  have b5 := b4.setCell (p := ⟨w.heap.size + 1, 0, none⟩) (by show w.heap.size ≤ w.heap.size + 1; omega) (.slice va (l :: n).length vc)
  have P5 := hide (mk _ _ b5 (World.ownsRow.kept o4 (grown_setCell w4 ⟨w.heap.size + 1, 0, none⟩ (.slice va (l :: n).length vc)) (.inr (row_apart o4 r4 (by decide)))))
  have B5 := hide b5
  clear p4 o4 r4 mk b5
  generalize hln : l :: n = ln at *
  have HLN := hide hln
  clear hln
  go_wp2_with fail
  refine bodyPost_ret (results_cell_row rfl _ _ (w.heap.size + 1) 25 #[.slice va ln.length vc] (0, 0) _ rfl (unhide M4) Try.underlying25 rfl (by kernel_rfl)) rfl ?_
  have hln := unhide HLN
  subst hln
  exact ⟨_, rfl, unhide P5, unhide B5⟩

set_option maxHeartbeats 800000 in
set_option maxRecDepth 100000 in
theorem specChild_has {v vl : Value} {n : List (List Int)} {l : List Int} {w : World} (h : HasL w v n) (hn : n.length ≤ 1048576) (_ : ∀ i, i < n.length → (n.getD i []).length ≤ 1048576) (hvl : Has w vl l) (_ : l.length ≤ 1048576) :
    Calls Try.prog 59 #[.agg #[v], vl] w fun e w' => ∃ v', e = .returned (.tuple #[.agg #[v'], .bool (childOf n l).2]) ∧ OwnL w.heap.size 22 5 w' v' (childOf n l).1 ∧ Below w.heap.size w w' := by
  obtain ⟨a, cap, rfl, hcl, hm⟩ := h.form
  obtain ⟨hsz, k0, r0⟩ := box2 w (.cells #[.slice a n.length cap] 25) #[.slice none 0 0] 25
  have b0 := below2 w (.cells #[.slice a n.length cap] 25) (.cells #[.slice none 0 0] 25)
  have h0 := hide (h.below b0)
  have l0 := hide (hvl.below b0)
  clear h hvl
  have hch : ((childOf n l).2 = true ∧ nameOk n = true ∧ nameOk (l :: n) = true ∧ (childOf n l).1 = l :: n) ∨ ((childOf n l).2 = false ∧ (nameOk n = false ∨ nameOk n = true ∧ nameOk (l :: n) = false) ∧ (childOf n l).1 = []) := by
    cases hok : nameOk n with
    | false => right; rw [childOf_no (.inl hok)]; exact ⟨rfl, .inl rfl, rfl⟩
    | true =>
      have hk := nameOk_cons n l hok
      by_cases hc : n.length ≠ 6 ∧ labelOk l = true
      · left
        rw [childOf_yes hok hc.1 hc.2]
        rw [decide_eq_true hc] at hk
        exact ⟨rfl, rfl, hk, rfl⟩
      · right
        have hc' := hc
        rw [decide_eq_false hc] at hk
        have hno : nameOk n = false ∨ n.length = 6 ∨ labelOk l = false := by
          by_cases h2 : n.length = 6
          · exact .inr (.inl h2)
          · cases h3 : labelOk l with
            | false => exact .inr (.inr rfl)
            | true => exact absurd ⟨h2, h3⟩ hc
        rw [childOf_no hno]
        exact ⟨rfl, .inr ⟨rfl, hk⟩, rfl⟩
  generalize (childOf n l).2 = R2 at *
  generalize (childOf n l).1 = R1 at *
  have HCH := hide hch
  clear hch
  go_enter Try.func59, Try.ntmps59
  go_wp2_with fail
  generalize (w.alloc (.cells #[.slice a n.length cap] 25)).alloc (.cells #[.slice none 0 0] 25) = W0 at *
  refine (l2child_has (unhide h0) (unhide l0) hn).mono ?_
  rintro e w1 ⟨v1, rfl, p1, b1⟩
  obtain ⟨ya, yc, rfl, _⟩ := p1.form
  have e1 : (l :: n).length = n.length + 1 := by simp
  generalize hln : l :: n = ln at *
  have HLN := hide hln
  have HE1 := hide e1
  clear hln e1
  have b2 := below_alloc (w := w1) (.cells #[.slice ya ln.length yc] 25)
  have V2 := hide (heap_alloc_new w1 (.cells #[.slice ya ln.length yc] 25))
  have q2 := below_next b1 b2
  have bb2 := below_next b0 q2
  have k2 := hide (block_kept q2 k0)
  have r2 := hide (block_kept q2 r0)
  have P2 := hide (p1.below b2)
  have H2 := hide ((unhide h0).below q2)
  have ck2 := block_one (unhide k2)
  have z2 := block_lt (unhide V2)
  have zr2 := block_lt (unhide r2)
  clear b0 k0 r0 h0 p1 b1 b2 q2
  go_wp2_with fail
  generalize w1.alloc (.cells #[.slice ya ln.length yc] 25) = w2 at *
  refine (specNameOk_has (unhide H2)).mono ?_
  rintro e w3 ⟨rfl, b3⟩
  have bb3 := below_next bb2 b3
  have V3 := hide (block_kept b3 (unhide V2))
  have r3 := hide (block_kept b3 (unhide r2))
  have P3 := hide ((unhide P2).below b3)
  have z3 := b3.size
  clear k2 r2 P2 H2 ck2 bb2 b3
  rcases unhide HCH with ⟨rfl, hok, hok', rfl⟩ | ⟨rfl, hno, rfl⟩
  · rw [hok]
    have h6 := (nameOk_parts hok').1
    have HLEN := hide (show ∀ k, k < R1.length → (R1.getD k []).length ≤ 15 from fun k hk => (labelOk_length ((nameOk_parts hok').2 k hk)).2)
    have HK := hide hok'
    clear hok hok' HCH
    have cv3 := block_one (unhide V3)
    go_wp2_with fail
    refine (specNameOk_has (unhide P3)).mono ?_
    rw [unhide HK]
    rintro e w4 ⟨rfl, b4⟩
    have bb4 := below_next bb3 b4
    have r4 := hide (block_kept b4 (unhide r3))
    have P4 := hide ((unhide P3).below b4)
    have cv4 := block_one (block_kept b4 (unhide V3))
    have z4 := b4.size
    clear cv3 b4 bb3
    go_wp2_with fail
    refine (l2own_has (unhide P4) h6 (unhide HLEN)).mono ?_
    rintro e w5 ⟨v5, rfl, o5, b5⟩
    obtain ⟨va, vc, rfl, _⟩ := o5.hasL.form
    have r5 := block_kept b5 (unhide r4)
    have c5 := block_one r5
    have f5 := block_frozen r5 0
    have M5 := hide (block_set r5 (.slice va R1.length vc))
    have O5 := hide o5
    have bb5 := below_next bb4 b5
    clear r5 o5 cv4 b5
    go_wp2_with fail
    refine bodyPost_ret (results_cell_tmp_row rfl _ _ (w.heap.size + 1) 25 #[.slice va R1.length vc] (0, 0) _ rfl (unhide M5) Try.underlying25 rfl (by kernel_rfl)) rfl ?_
    have O6 := OwnL.kept (unhide O5) (grown_setCell w5 ⟨w.heap.size + 1, 0, none⟩ (.slice va R1.length vc)) (by show w.heap.size + 1 < w4.heap.size; omega)
    exact ⟨_, rfl, O6.mono (by omega), bb5.setCell (by show w.heap.size ≤ w.heap.size + 1; omega) _⟩
  · have c3 := block_one (unhide r3)
    have f3 := block_frozen (unhide r3) 0
    have M3 := hide (block_set (unhide r3) (.slice none 0 0))
    have cv3 := block_one (unhide V3)
    clear HCH
    rcases hno with hok | ⟨hok, hok'⟩
    · rw [hok]
      clear hok
      go_wp2_with fail
      refine bodyPost_ret (results_cell_tmp_row rfl _ _ (w.heap.size + 1) 25 #[.slice none 0 0] (0, 0) _ rfl (unhide M3) Try.underlying25 rfl (by kernel_rfl)) rfl ?_
      exact ⟨_, rfl, ⟨[], by simpa using World.ownsRow_nil _ _ _ _, by simp, by simp⟩, bb3.setCell (by show w.heap.size ≤ w.heap.size + 1; omega) _⟩
    · rw [hok]
      have HK := hide hok'
      clear hok hok'
      go_wp2_with fail
      refine (specNameOk_has (unhide P3)).mono ?_
      rw [unhide HK]
      rintro e w4 ⟨rfl, b4⟩
      have bb4 := below_next bb3 b4
      have r4 := block_kept b4 (unhide r3)
      have c4 := block_one r4
      have f4 := block_frozen r4 0
      have M4 := hide (block_set r4 (.slice none 0 0))
      clear c3 f3 M3 cv3 r4 b4
      go_wp2_with fail
      refine bodyPost_ret (results_cell_tmp_row rfl _ _ (w.heap.size + 1) 25 #[.slice none 0 0] (0, 0) _ rfl (unhide M4) Try.underlying25 rfl (by kernel_rfl)) rfl ?_
      exact ⟨_, rfl, ⟨[], by simpa using World.ownsRow_nil _ _ _ _, by simp, by simp⟩, bb4.setCell (by show w.heap.size ≤ w.heap.size + 1; omega) _⟩
end Go.Proofs.Ytdbojhbdfcknfaa
