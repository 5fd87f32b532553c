/-
  Contracts of the program's nameGot and NameGet.
-/
import Derived.Test.YtdbojhbdfcknfaaIGetters
import Derived.Test.YtdbojhbdfcknfaaINameOk
import Derived.Test.YtdbojhbdfcknfaaRows3
import Derived.Deep.LoopGhost
namespace Go.Proofs.Ytdbojhbdfcknfaa
open Go.RowKit
set_option linter.unusedVariables false

/-- A slice with a row of its own, wherever. -/
def Row8 (w : World) (v : Value) (l : List Int) : Prop := ∃ B, Own B 5 w v l
theorem Row8.below {w w' : World} {v : Value} {l : List Int} (h : Row8 w v l) (hb : Below w.heap.size w w') : Row8 w' v l := h.elim fun B h => ⟨B, h.below hb⟩
theorem Row8.has {w : World} {v : Value} {l : List Int} (h : Row8 w v l) : Has w v l := h.elim fun B h => h.has
theorem Own.row8 {B : Nat} {w : World} {v : Value} {l : List Int} (h : Own B 5 w v l) : Row8 w v l := ⟨B, h⟩
theorem OwnB.row8 {C E : Nat} {w : World} {v : Value} {l : List Int} (h : OwnB C E 5 w v l) : Row8 w v l := ⟨C, h.1⟩

theorem info_sl6 : (Try.prog.info? 22).map (fun i => (i.zero, i.size, i.bytes)) = some (some (.slice none 0 0), 1, 24) := by kernel_rfl

set_option maxHeartbeats 800000 in
set_option maxRecDepth 100000 in
theorem nameGot_has {v : Value} {n : List (List Int)} (x : Int) {w : World} (h : HasL w v n) :
    Calls Try.prog 100 #[.agg #[v], .int .i64 x] w fun e w' => e = .returned (.tuple #[.agg #[if nameOk n = true then v else .slice none 0 0], .int .i64 (if nameOk n = true then x else -1)]) ∧ Below w.heap.size w w' := by
  obtain ⟨a, cap, rfl, hcl, hm⟩ := h.form
  unfold maxLen at hm
  obtain ⟨hsz, k0, r0⟩ := box2 w (.cells #[.slice a n.length cap] 25) #[.slice none 0 0] 25
  have b0 := below2 w (.cells #[.slice a n.length cap] 25) (.cells #[.slice none 0 0] 25)
  have h0 := hide (h.below b0)
  clear h
  cases hok : nameOk n with
  | false =>
    rw [if_neg (by simp), if_neg (by simp)]
    have HOK := hide hok
    clear hok
    go_enter Try.func100, Try.ntmps100
    go_wp2_with fail
    generalize (w.alloc (.cells #[.slice a n.length cap] 25)).alloc (.cells #[.slice none 0 0] 25) = W0 at *
    refine (implNameOk_has (unhide h0)).mono ?_
    rw [unhide HOK]
    rintro e w1 ⟨rfl, b1⟩
    have bb1 := below_next b0 b1
    have r1 := block_kept b1 r0
    have c1 := block_one r1
    have f1 := block_frozen r1 0
    have M1 := hide (block_set r1 (.slice none 0 0))
    clear b0 k0 h0 b1 r0 r1
    go_wp2_with fail
    refine bodyPost_ret (results_cell_tmp_row rfl _ _ (w.heap.size + 1) 25 #[.slice none 0 0] (0, 0) _ rfl (unhide M1) Try.underlying25 rfl (by kernel_rfl)) rfl ?_
    exact ⟨rfl, bb1.setCell (by show w.heap.size ≤ w.heap.size + 1; omega) _⟩
  | true =>
    rw [if_pos rfl, if_pos rfl]
    have HOK := hide hok
    clear hok
    go_enter Try.func100, Try.ntmps100
    go_wp2_with fail
    generalize (w.alloc (.cells #[.slice a n.length cap] 25)).alloc (.cells #[.slice none 0 0] 25) = W0 at *
    refine (implNameOk_has (unhide h0)).mono ?_
    rw [unhide HOK]
    rintro e w1 ⟨rfl, b1⟩
    have bb1 := below_next b0 b1
    have r1 := block_kept b1 r0
    have q1 := block_one (block_kept b1 k0)
    have c1 := block_one r1
    have f1 := block_frozen r1 0
    have M1 := hide (block_set r1 (.slice a n.length cap))
    clear b0 k0 h0 b1 r0 r1
    go_wp2_with fail
    refine bodyPost_ret (results_cell_tmp_row rfl _ _ (w.heap.size + 1) 25 #[.slice a n.length cap] (0, 0) _ rfl (unhide M1) Try.underlying25 rfl (by kernel_rfl)) rfl ?_
    exact ⟨rfl, bb1.setCell (by show w.heap.size ≤ w.heap.size + 1; omega) _⟩

/-- What stands at each pointer's place. -/
def GotO (l : List Int) (R : List (List Int) × Int) (w : World) (g : Nat) (p e h : Value) (wr : World) : Prop :=
  ∃ (n : List (List Int)) (pi ei : Int) (hi f : Nat) (o : Value), p = .int .i64 pi ∧ e = .int .i64 ei ∧ h = .int .i64 hi ∧ g + hi = 9 ∧ (hi ≤ 8 → getName l f n pi hi ei = R ∧ f + n.length + hi = 20) ∧ (hi = 9 → R = ([], -1)) ∧ n.length ≤ 6 ∧
    pi ≤ 9223372036854775807 ∧ -1 ≤ ei ∧ ei ≤ 512 ∧ (hi = 0 → ei = -1) ∧ (hi ≠ 0 → 0 ≤ ei) ∧ wr.heap[w.heap.size]? = some (.cells #[.slice none 0 0] 25) ∧ wr.heap[w.heap.size + 1]? = some (.cells #[o] 25) ∧
    OwnL (w.heap.size + 2) 22 5 wr o n ∧ Below w.heap.size w wr

/-- What stands at each label's place, behind hi pointers. -/
def GotN (l : List Int) (R : List (List Int) × Int) (w : World) (hi : Nat) (ei : Int) (g : Nat) (p e : Value) (wr : World) : Prop :=
  ∃ (n : List (List Int)) (pi : Int) (f : Nat) (o : Value), p = .int .i64 pi ∧ e = .int .i64 ei ∧ g + n.length = 7 ∧ (n.length ≤ 6 → getName l f n pi hi ei = R ∧ f + n.length + hi = 20) ∧ (n.length = 7 → R = ([], -1)) ∧
    pi ≤ 9223372036854775807 ∧ wr.heap[w.heap.size]? = some (.cells #[.slice none 0 0] 25) ∧ wr.heap[w.heap.size + 1]? = some (.cells #[o] 25) ∧
    OwnL (w.heap.size + 2) 22 5 wr o n ∧ Below w.heap.size w wr

set_option maxHeartbeats 8000000 in
set_option maxRecDepth 100000 in
theorem implNameGet_own {B : Nat} {v : Value} {l : List Int} (p : Int) {w : World} (h : Own B 5 w v l) (hl : l.length ≤ 1048576) (hp : p ≤ 9223372036854775807) (hb : Bytes8 l) :
    Calls Try.prog 38 #[v, .int .i64 p] w fun e w' => ∃ v', e = .returned (.tuple #[.agg #[v'], .int .i64 (nameGet l p).2]) ∧ OwnL w.heap.size 22 5 w' v' (nameGet l p).1 ∧ Below w.heap.size w w' := by
  by_cases h1 : 512 < l.length
  · have e1 : nameGet l p = ([], -1) := by unfold nameGet; rw [if_pos h1]
    rw [e1]
    have b0 := below_alloc (w := w) (.cells #[.slice none 0 0] 25)
    have k0 := heap_alloc_new w (.cells #[.slice none 0 0] 25)
    obtain ⟨a, cap, rfl, _⟩ := h.lies
    have h1' : (512 : Int) < (l.length : Int) := by omega
    have c0 := block_one k0
    have f0 := block_frozen k0 0
    have M0 := hide k0
    go_enter Try.func38, Try.ntmps38
    go_wp2_with fail
    go_step3
    go_wp2_with fail
    try rw [Exit.noGoto_ret]
    refine bodyPost_ret (results_cell_tmp_row rfl _ _ w.heap.size 25 #[.slice none 0 0] (0, 0) _ rfl (unhide M0) Try.underlying25 rfl (by kernel_rfl)) rfl ?_
    exact ⟨_, rfl, ⟨[], by simpa using World.ownsRow_nil _ _ _ _, by simp, by simp⟩, b0⟩
  have hR : nameGet l p = getName l 20 [] p 0 (-1) := by unfold nameGet; rw [if_neg h1]
  rw [hR]
  have h1' : ¬ (512 : Int) < (l.length : Int) := by omega
  have hl5 : l.length ≤ 512 := by omega
  obtain ⟨a, cap, rfl, hcl⟩ := h.lies
  have H := hide h
  clear h hcl hR h1
  have hB8 := hide hb
  clear hb
  generalize hR : getName l 20 [] p 0 (-1) = R
  have HR := hide hR
  clear hR
  obtain ⟨hsz, k0, r0⟩ := box2 w (.cells #[.slice none 0 0] 25) #[.slice none 0 0] 25
  have b0 := below2 w (.cells #[.slice none 0 0] 25) (.cells #[.slice none 0 0] 25)
  go_enter Try.func38, Try.ntmps38
  go_wp2
  go_step3
  go_wp2
  go_step3
  go_wp2
  generalize (w.alloc (.cells #[.slice none 0 0] 25)).alloc (.cells #[.slice none 0 0] 25) = W at *
  go_loopg [1, 7, 8] 9 (fun g p e h wr => GotO l R w g p e h wr)
  case atStart => exact ⟨[], p, -1, 0, 20, .slice none 0 0, rfl, rfl, rfl, rfl, fun _ => ⟨unhide HR, rfl⟩, by omega, by simp, hp, by omega, by omega, fun _ => rfl, by simp, k0, r0, ⟨[], by simpa using World.ownsRow_nil _ _ _ _, by simp, by simp⟩, b0⟩
  case round =>
    clear k0 r0 b0 HR hsz
    obtain ⟨n, pi, ei, hi, f, o, rfl, rfl, rfl, hg, hR1, hR2, hn6, hpi, he0, he1, he2, he3, kr, kn, ho, hbl⟩ := hrel
    by_cases hh : hi = 9
    · obtain rfl := hR2 hh
      subst hh
      clear hR1 hR2
      have cr := block_one kr
      have fr := block_frozen kr 0
      have M0 := hide (block_set kr (.slice none 0 0))
      go_wp2_with fail
      try rw [Exit.noGoto_ret]
      refine bodyPost_ret (results_cell_tmp_row rfl _ _ w.heap.size 25 #[.slice none 0 0] (0, 0) _ rfl (unhide M0) Try.underlying25 rfl (by kernel_rfl)) rfl ?_
      exact ⟨_, rfl, ⟨[], by simpa using World.ownsRow_nil _ _ _ _, by simp, by simp⟩, hbl.setCell (Nat.le_refl _) _⟩
    · have hh8 : hi ≤ 8 := by omega
      have hh8' : (hi : Int) ≤ 8 := by omega
      obtain ⟨G, rfl⟩ : ∃ G, gk = G + 1 := ⟨gk - 1, by omega⟩
      have START : GotN l R w hi ei (7 - n.length) (.int .i64 pi) (.int .i64 ei) wr := ⟨n, pi, f, o, rfl, rfl, by omega, fun _ => hR1 hh8, by omega, hpi, kr, kn, ho, hbl⟩
      have HST := hide START
      clear START kr kn ho hbl hR1 hR2
      have HE := hide (And.intro he2 he3)
      clear he2 he3
      go_wp2_with fail
      go_loopg [1, 7] (7 - n.length) (fun g p e wr => GotN l R w hi ei g p e wr)
      case atStart => exact unhide HST
      case round =>
        clear HST hn6
        obtain ⟨n, pi, f, o, rfl, rfl, hgn, hR1, hR2, hpi, kr, kn, ho, hbl⟩ := hrel
        by_cases hn7 : n.length = 7
        · obtain rfl := hR2 hn7
          obtain ⟨oa, oc, rfl, _⟩ := ho.hasL.form
          rw [hn7] at kn
          have cn := block_one kn
          have cr := block_one kr
          have fr := block_frozen kr 0
          have M0 := hide (block_set kr (.slice none 0 0))
          clear hn7 hR1 hR2 ho kn kr
          go_wp2_with fail
          try rw [Exit.noGoto_ret]
          refine bodyPost_ret (results_cell_tmp_row rfl _ _ w.heap.size 25 #[.slice none 0 0] (0, 0) _ rfl (unhide M0) Try.underlying25 rfl (by kernel_rfl)) rfl ?_
          exact ⟨_, rfl, ⟨[], by simpa using World.ownsRow_nil _ _ _ _, by simp, by simp⟩, hbl.setCell (Nat.le_refl _) _⟩
        · have hn6 : n.length ≤ 6 := by omega
          obtain ⟨hR, hf⟩ := hR1 hn6
          clear hR1 hR2 hn7
          obtain ⟨f, rfl⟩ : ∃ f', f = f' + 1 := ⟨f - 1, by omega⟩
          have hn6' : (n.length : Int) ≤ 6 := by omega
          obtain ⟨oa, oc, rfl, _⟩ := ho.hasL.form
          have cn := block_one kn
          have OK := hide ((unhide H).below hbl)
          have HO := hide ho
          clear ho
          have HP := hide (pointerGet_own pi (unhide OK) hl hpi (unhide hB8))
          have hpb := pointerOf_bound (unhide hB8) pi
          have EP := hide (fun hq => get_pointer (unhide hB8) (p := pi) hq f n hi ei)
          have EN := hide (fun hq hq2 => get_none (unhide hB8) (p := pi) hq hq2 f n hi ei)
          have EE := hide (fun hq hq2 => get_end (unhide hB8) (p := pi) hq hq2 f n hi ei)
          have EL := hide (fun hq hq2 => get_label (unhide hB8) (p := pi) hq hq2 f n hi ei)
          have HL := hide (fun (w' : World) (o : Own B 5 w' (.slice a l.length cap) l) => labelGet_own pi o hl hpi (unhide hB8))
          have hlb := labelOf_bound (unhide hB8) pi
          generalize (pointerOf l pi).1 = t at *
          generalize (pointerOf l pi).2 = bh at *
          generalize (labelOf l pi).1 = lab at *
          generalize (labelOf l pi).2 = nx at *
          obtain ⟨hpb1, hpb2⟩ := hpb
          obtain ⟨hlb1, hlb2⟩ := hlb
          by_cases hbh : 0 ≤ bh
          · have HRR := hide ((unhide EP hbh).symm.trans hR)
            clear hR EP EN EE EL HL
            by_cases hi0 : hi = 0
            · have hei := (unhide HE).1 hi0
              subst hi0
              subst hei
              go_wp2_with fail
              refine (unhide HP).mono ?_
              rintro e w1 ⟨rfl, b1⟩
              have bb1 := below_next hbl b1
              have k1 := block_kept b1 kr
              have kn1 := block_kept b1 kn
              have O1 := hide ((unhide HO).below b1)
              have OK1 := hide ((unhide OK).below b1)
              have z1 := b1.size
              clear kr kn cn b1 HO OK
              go_wp2_with fail
              go_roundg G
              case measure => omega
              case rel =>
                have hR := unhide HRR
                rw [if_neg (by omega), if_pos (by omega)] at hR
                exact ⟨n, t, bh, 1, f, _, rfl, rfl, rfl, by omega, fun _ => ⟨hR, by omega⟩, by omega, hn6, by omega, by omega, by omega, by omega, fun _ => hbh, k1, kn1, unhide O1, bb1⟩
            · have hei := (unhide HE).2 hi0
              have hi1 : ((hi : Int) == 0) = false := by rw [beq_eq_false_iff_ne]; omega
              go_wp2_with fail
              refine (unhide HP).mono ?_
              rintro e w1 ⟨rfl, b1⟩
              have bb1 := below_next hbl b1
              have k1 := block_kept b1 kr
              have kn1 := block_kept b1 kn
              have O1 := hide ((unhide HO).below b1)
              have OK1 := hide ((unhide OK).below b1)
              have z1 := b1.size
              clear kr kn cn b1 HO OK
              go_wp2_with fail
              go_roundg G
              case measure => omega
              case rel =>
                have hR := unhide HRR
                rw [if_neg (show ¬ ei < 0 by omega)] at hR
                refine ⟨n, t, ei, hi + 1, f, _, rfl, rfl, by go_num, by omega, fun h8 => ?_, fun h9 => ?_, hn6, by omega, by omega, by omega, by omega, fun _ => hei, k1, kn1, unhide O1, bb1⟩
                · rw [if_neg (by omega)] at hR
                  exact ⟨hR, by omega⟩
                · rw [if_pos (by omega)] at hR
                  exact hR.symm
          · have hbh' : bh < 0 := by omega
            by_cases hnx : nx < 0
            · obtain rfl := (unhide EN hbh' hnx).symm.trans hR
              clear hR EP EN EE EL
              go_wp2_with fail
              refine (unhide HP).mono ?_
              rintro e w1 ⟨rfl, b1⟩
              have bb1 := below_next hbl b1
              have k1 := block_kept b1 kr
              have kn1 := block_kept b1 kn
              have O1 := hide ((unhide HO).below b1)
              have OK1 := hide ((unhide OK).below b1)
              have z1 := b1.size
              clear kr kn cn b1 HO OK
              go_wp2_with fail
              refine (unhide HL _ (unhide OK1)).mono ?_
              rintro e w2 ⟨v2, rfl, o2, b2⟩
              obtain ⟨va, vc, rfl, _⟩ := o2.lies
              have OT := hide o2
              have bb2 := below_next bb1 b2
              have k2 := block_kept b2 k1
              have kn2 := block_kept b2 kn1
              have z2 := b2.size
              clear o2
              have c2 := block_one k2
              have f2 := block_frozen k2 0
              have M2 := hide (block_set k2 (.slice none 0 0))
              clear k1 kn1 k2 kn2 b2
              go_wp2_with fail
              try rw [Exit.noGoto_ret]
              refine bodyPost_ret (results_cell_tmp_row rfl _ _ w.heap.size 25 #[.slice none 0 0] (0, 0) _ rfl (unhide M2) Try.underlying25 rfl (by kernel_rfl)) rfl ?_
              exact ⟨_, rfl, ⟨[], by simpa using World.ownsRow_nil _ _ _ _, by simp, by simp⟩, bb2.setCell (Nat.le_refl _) _⟩
            · have hnx' : 0 ≤ nx := by omega
              by_cases hla : lab.length = 0
              · have hRE := (unhide EE hnx' hla).symm.trans hR
                clear hR EP EN EE EL
                have hla' : (((lab.length : Nat) : Int) == 0) = true := by rw [hla]; rfl
                clear hla
                have HEE : (if ei < 0 then nx else ei) = (if hi = 0 then nx else ei) := by
                  by_cases hi0 : hi = 0
                  · rw [if_pos hi0, if_pos (by have := (unhide HE).1 hi0; omega)]
                  · rw [if_neg hi0, if_neg (by have := (unhide HE).2 hi0; omega)]
                rw [HEE] at hRE
                clear HEE
                cases hok : nameOk n with
                | false =>
                  rw [hok, if_neg (by simp)] at hRE
                  obtain rfl := hRE
                  have hN := fun (x : Int) (w : World) (h : HasL w (.slice oa n.length oc) n) => nameGot_has x h
                  simp only [hok, Bool.false_eq_true, if_false] at hN
                  have NG := hide hN
                  clear hN hok
                  by_cases hi0 : ((hi : Int) == 0) = true
                  all_goals
                    try (have hi1 : ((hi : Int) == 0) = false := by simpa using hi0)
                    go_wp2_with fail
                    refine (unhide HP).mono ?_
                    rintro e w1 ⟨rfl, b1⟩
                    have bb1 := below_next hbl b1
                    have k1 := block_kept b1 kr
                    have kn1 := block_kept b1 kn
                    have O1 := hide ((unhide HO).below b1)
                    have OK1 := hide ((unhide OK).below b1)
                    have z1 := b1.size
                    clear kr kn cn b1 HO OK
                    go_wp2_with fail
                    refine (unhide HL _ (unhide OK1)).mono ?_
                    rintro e w2 ⟨v2, rfl, o2, b2⟩
                    obtain ⟨va, vc, rfl, _⟩ := o2.lies
                    have OT := hide o2
                    have bb2 := below_next bb1 b2
                    have k2 := block_kept b2 k1
                    have kn2 := block_kept b2 kn1
                    have z2 := b2.size
                    clear o2
                    have cn2 := block_one kn2
                    have O2 := hide ((unhide O1).below b2)
                    clear kn1 k1 b2
                    go_wp2_with fail
                    refine (unhide NG _ _ (unhide O2).hasL).mono ?_
                    rintro e w3 ⟨rfl, b3⟩
                    have k3 := block_kept b3 k2
                    have c3 := block_one k3
                    have f3 := block_frozen k3 0
                    have M3 := hide (block_set k3 (.slice none 0 0))
                    have bb3 := below_next bb2 b3
                    clear k2 kn2 cn2 k3 b3
                    go_wp2_with fail
                    try rw [Exit.noGoto_ret]
                    refine bodyPost_ret (results_cell_tmp_row rfl _ _ w.heap.size 25 #[.slice none 0 0] (0, 0) _ rfl (unhide M3) Try.underlying25 rfl (by kernel_rfl)) rfl ?_
                    exact ⟨_, rfl, ⟨[], by simpa using World.ownsRow_nil _ _ _ _, by simp, by simp⟩, bb3.setCell (Nat.le_refl _) _⟩
                | true =>
                  rw [hok, if_pos rfl] at hRE
                  have hN := fun (x : Int) (w : World) (h : HasL w (.slice oa n.length oc) n) => nameGot_has x h
                  simp only [hok, if_true] at hN
                  have NG := hide hN
                  clear hN hok
                  by_cases hi0 : hi = 0
                  all_goals
                    first | rw [if_pos hi0] at hRE | rw [if_neg hi0] at hRE
                    obtain rfl := hRE
                    first
                      | (have hi1 : ((hi : Int) == 0) = true := by rw [hi0]; rfl)
                      | (have hi1 : ((hi : Int) == 0) = false := by rw [beq_eq_false_iff_ne]; omega)
                    clear hi0
                    go_wp2_with fail
                    refine (unhide HP).mono ?_
                    rintro e w1 ⟨rfl, b1⟩
                    have bb1 := below_next hbl b1
                    have k1 := block_kept b1 kr
                    have kn1 := block_kept b1 kn
                    have O1 := hide ((unhide HO).below b1)
                    have OK1 := hide ((unhide OK).below b1)
                    have z1 := b1.size
                    clear kr kn cn b1 HO OK
                    go_wp2_with fail
                    refine (unhide HL _ (unhide OK1)).mono ?_
                    rintro e w2 ⟨v2, rfl, o2, b2⟩
                    obtain ⟨va, vc, rfl, _⟩ := o2.lies
                    have OT := hide o2
                    have bb2 := below_next bb1 b2
                    have k2 := block_kept b2 k1
                    have kn2 := block_kept b2 kn1
                    have z2 := b2.size
                    clear o2
                    have cn2 := block_one kn2
                    have O2 := hide ((unhide O1).below b2)
                    clear kn1 k1 b2
                    go_wp2_with fail
                    refine (unhide NG _ _ (unhide O2).hasL).mono ?_
                    rintro e w3 ⟨rfl, b3⟩
                    have k3 := block_kept b3 k2
                    have c3 := block_one k3
                    have f3 := block_frozen k3 0
                    have M3 := hide (block_set k3 (.slice oa n.length oc))
                    have bb3 := below_next bb2 b3
                    have z3 := block_lt k3
                    have O3 := hide ((unhide O2).below b3)
                    clear k2 kn2 cn2 k3 b3
                    go_wp2_with fail
                    try rw [Exit.noGoto_ret]
                    refine bodyPost_ret (results_cell_tmp_row rfl _ _ w.heap.size 25 #[.slice oa n.length oc] (0, 0) _ rfl (unhide M3) Try.underlying25 rfl (by kernel_rfl)) rfl ?_
                    exact ⟨_, rfl, ((unhide O3).kept (grown_setCell _ _ _) (by show w.heap.size < _; omega)).mono (by omega), bb3.setCell (Nat.le_refl _) _⟩
              · have HRR := hide ((unhide EL hnx' hla).symm.trans hR)
                clear hR EP EN EE EL
                have hla' : (((lab.length : Nat) : Int) == 0) = false := by rw [beq_eq_false_iff_ne]; omega
                clear hla
                go_wp2_with fail
                refine (unhide HP).mono ?_
                rintro e w1 ⟨rfl, b1⟩
                have bb1 := below_next hbl b1
                have k1 := block_kept b1 kr
                have kn1 := block_kept b1 kn
                have O1 := hide ((unhide HO).below b1)
                have OK1 := hide ((unhide OK).below b1)
                have z1 := b1.size
                clear kr kn cn b1 HO OK
                go_wp2_with fail
                refine (unhide HL _ (unhide OK1)).mono ?_
                rintro e w2 ⟨v2, rfl, o2, b2⟩
                obtain ⟨va, vc, rfl, _⟩ := o2.lies
                have OT := hide o2
                have bb2 := below_next bb1 b2
                have k2 := block_kept b2 k1
                have kn2 := block_kept b2 kn1
                have z2 := b2.size
                clear o2
                have cn2 := block_one kn2
                have zn := block_lt kn1
                have B2 := hide b2
                obtain ⟨vs, hvs, hva, hvd⟩ := unhide O1
                have hvl : vs.length = n.length := by have := hvs.1; simpa using this
                have HVS := hide hvs
                have HVA := hide hva
                have HVD := hide hvd
                have KN2 := hide kn2
                have K1 := hide k1
                clear hvs hva hvd b2 kn2 k2 k1 kn1
                go_wp2_with (at_builtin; refine append_row rfl _ _ 23 22 rfl Try.underlying23 info_sl6 (w.heap.size + 2) (.slice oa n.length oc) _ vs [.slice va lab.length vc] rfl rfl (by rw [hvl]; exact World.ownsRow.alloc (ownsRow_kept' (unhide HVS) (unhide B2)) _) (one_more w2 22 _) (by intro y hy; simp at hy; subst hy; rfl) (by rw [hvl]; simp; omega) (by have := (unhide B2).size; simp; omega) ?_)
                intro v3 w3 o3 g3
                obtain ⟨p3, k3, y3⟩ := snoc_step g3 o3 (by omega) (unhide HVS) (unhide HVA) (unhide HVD) ((unhide B2).alloc (unhide B2).size _) ((unhide OT).alloc _) (by omega) (by decide) (block_kept (below_alloc _) (unhide KN2)) (by decide)
                obtain ⟨v3a, v3c, rfl, _⟩ := p3.hasL.form
                have co3 := block_one k3
                have fo3 := block_frozen k3 0
                have K3 := hide k3
                clear g3 o3 k3
                go_wp2_with fail
                obtain ⟨g', rfl⟩ : ∃ g', gk = g' + 1 := ⟨gk - 1, by omega⟩
                go_roundg g'
                case measure => omega
                case rel =>
                  have hR := unhide HRR
                  have k0 := (y3.block w.heap.size (by omega)).trans (unhide K1)
                  simp only [List.length_append, List.length_cons, List.length_nil] at p3
                  refine ⟨n ++ [lab], nx, f, _, rfl, rfl, by simp; omega, fun h6 => ?_, fun h7 => ?_, by omega, block_other k0 (by omega) 0 _, block_set (unhide K3) _, ?_, (bb1.trans (y3.mono (by omega))).setCell (by show w.heap.size ≤ w.heap.size + 1; omega) _⟩
                  · simp at h6
                    rw [if_neg (by omega)] at hR
                    exact ⟨hR, by simp; omega⟩
                  · simp at h7
                    rw [if_pos (by omega)] at hR
                    exact hR.symm
                  · exact p3.kept (grown_setCell _ _ _) (by show w.heap.size + 1 < _; omega)
end Go.Proofs.Ytdbojhbdfcknfaa
