/-
  Contracts of the program's nameGot and NameGet. The walk of laws.FnNameWire.
-/
import Derived.Test.YtaconefooicplaaFnNameWireG30
import Derived.Test.YtaconefooicplaaFnNameWireG32
import Derived.Test.YtaconefooicplaaFnNameWireG25
import Derived.Test.YtaconefooicplaaFnNameWireG09
import Derived.Deep.LoopGhost
import Derived.Test.YtaconefooicplaaFnNameWireG15
import Derived.Test.YtaconefooicplaaFnNameWireG28
import Derived.Test.YtaconefooicplaaFnNameWireG29
import Derived.Test.YtaconefooicplaaFnNameWireG27
import Derived.Test.YtaconefooicplaaFnNameWireG06
namespace Go.Proofs.Ytaconefooicplaa
open Go.RowKit
set_option linter.unusedVariables false

theorem info_sl6 : (Try.prog.info? 22).map (fun i => (i.zero, i.size, i.bytes)) = some (some (.slice none 0 0), 1, 24) := by kernel_rfl

set_option maxHeartbeats 800000 in
set_option maxRecDepth 100000 in
theorem nameGot_has {v : Value} {n : List (List Int)} (x : Int) {w : World} (h : HasL w v n) :
    Calls Try.prog 58 #[.agg #[v], .int .i64 x] w fun e w' => e = .returned (.tuple #[.agg #[if nameOk n = true then v else .slice none 0 0], .int .i64 (if nameOk n = true then x else -1)]) ∧ Below w.heap.size w w' := by
  obtain ⟨a, cap, rfl, hcl, hm⟩ := h.form
  unfold maxLen at hm
  obtain ⟨hsz, k0, r0⟩ := box2 w (.cells #[.slice a n.length cap] 25) #[.slice none 0 0] 25
  have b0 := below2 w (.cells #[.slice a n.length cap] 25) (.cells #[.slice none 0 0] 25)
  have h0 := hide (h.below b0)
  clear h
  cases hok : nameOk n with
  | false =>
    rw [if_neg (by simp), if_neg (by simp)]
    have HOK := hide hok
    clear hok
    go_enter Try.func58, Try.ntmps58
    go_wp2_with fail
    generalize (w.alloc (.cells #[.slice a n.length cap] 25)).alloc (.cells #[.slice none 0 0] 25) = W0 at *
    refine (implNameOk_has (unhide h0)).mono ?_
    rw [unhide HOK]
    rintro e w1 ⟨rfl, b1⟩
    have bb1 := below_next b0 b1
    have r1 := block_kept b1 r0
    have c1 := block_one r1
    have f1 := block_frozen r1 0
    have M1 := hide (block_set r1 (.slice none 0 0))
    clear b0 k0 h0 b1 r0 r1
    go_wp2_with fail
    refine bodyPost_ret (results_cell_tmp_row rfl _ _ (w.heap.size + 1) 25 #[.slice none 0 0] (0, 0) _ rfl (unhide M1) Try.underlying25 rfl (by kernel_rfl)) rfl ?_
    exact ⟨rfl, bb1.setCell (by show w.heap.size ≤ w.heap.size + 1; omega) _⟩
  | true =>
    rw [if_pos rfl, if_pos rfl]
    have HOK := hide hok
    clear hok
    go_enter Try.func58, Try.ntmps58
    go_wp2_with fail
    generalize (w.alloc (.cells #[.slice a n.length cap] 25)).alloc (.cells #[.slice none 0 0] 25) = W0 at *
    refine (implNameOk_has (unhide h0)).mono ?_
    rw [unhide HOK]
    rintro e w1 ⟨rfl, b1⟩
    have bb1 := below_next b0 b1
    have r1 := block_kept b1 r0
    have q1 := block_one (block_kept b1 k0)
    have c1 := block_one r1
    have f1 := block_frozen r1 0
    have M1 := hide (block_set r1 (.slice a n.length cap))
    clear b0 k0 h0 b1 r0 r1
    go_wp2_with fail
    refine bodyPost_ret (results_cell_tmp_row rfl _ _ (w.heap.size + 1) 25 #[.slice a n.length cap] (0, 0) _ rfl (unhide M1) Try.underlying25 rfl (by kernel_rfl)) rfl ?_
    exact ⟨rfl, bb1.setCell (by show w.heap.size ≤ w.heap.size + 1; omega) _⟩

/-- What stands at each pointer's place. -/
def GotO (l : List Int) (R : List (List Int) × Int) (w : World) (g : Nat) (p e h : Value) (wr : World) : Prop :=
  ∃ (n : List (List Int)) (pi ei : Int) (hi f : Nat) (o : Value), p = .int .i64 pi ∧ e = .int .i64 ei ∧ h = .int .i64 hi ∧ g + hi = 9 ∧ (hi ≤ 8 → getName l f n pi hi ei = R ∧ f + n.length + hi = 20) ∧ (hi = 9 → R = ([], -1)) ∧ n.length ≤ 6 ∧
    pi ≤ 9223372036854775807 ∧ -1 ≤ ei ∧ ei ≤ 512 ∧ (hi = 0 → ei = -1) ∧ (hi ≠ 0 → 0 ≤ ei) ∧ wr.heap[w.heap.size]? = some (.cells #[.slice none 0 0] 25) ∧ wr.heap[w.heap.size + 1]? = some (.cells #[o] 25) ∧
    OwnL (w.heap.size + 2) 22 5 wr o n ∧ Below w.heap.size w wr

/-- What stands at each label's place, behind hi pointers. -/
def GotN (l : List Int) (R : List (List Int) × Int) (w : World) (hi : Nat) (ei : Int) (g : Nat) (p e : Value) (wr : World) : Prop :=
  ∃ (n : List (List Int)) (pi : Int) (f : Nat) (o : Value), p = .int .i64 pi ∧ e = .int .i64 ei ∧ g + n.length = 7 ∧ (n.length ≤ 6 → getName l f n pi hi ei = R ∧ f + n.length + hi = 20) ∧ (n.length = 7 → R = ([], -1)) ∧
    pi ≤ 9223372036854775807 ∧ wr.heap[w.heap.size]? = some (.cells #[.slice none 0 0] 25) ∧ wr.heap[w.heap.size + 1]? = some (.cells #[o] 25) ∧
    OwnL (w.heap.size + 2) 22 5 wr o n ∧ Below w.heap.size w wr

set_option maxHeartbeats 8000000 in
set_option maxRecDepth 100000 in
theorem implNameGet_own {B : Nat} {v : Value} {l : List Int} (p : Int) {w : World} (h : Own B 5 w v l) (hl : l.length ≤ 1048576) (hp : p ≤ 9223372036854775807) (hb : Bytes8 l) :
    Calls Try.prog 25 #[v, .int .i64 p] w fun e w' => ∃ v', e = .returned (.tuple #[.agg #[v'], .int .i64 (nameGet l p).2]) ∧ OwnL w.heap.size 22 5 w' v' (nameGet l p).1 ∧ Below w.heap.size w w' := by
  by_cases h1 : 512 < l.length
  · have e1 : nameGet l p = ([], -1) := by unfold nameGet; rw [if_pos h1]
    rw [e1]
    have b0 := below_alloc (w := w) (.cells #[.slice none 0 0] 25)
    have k0 := heap_alloc_new w (.cells #[.slice none 0 0] 25)
    obtain ⟨a, cap, rfl, _⟩ := h.lies
    have h1' : (512 : Int) < (l.length : Int) := by omega
    have c0 := block_one k0
    have f0 := block_frozen k0 0
    have M0 := hide k0
    go_enter Try.func25, Try.ntmps25
    go_wp2_with fail
    go_step3
    go_wp2_with fail
    try rw [Exit.noGoto_ret]
    refine bodyPost_ret (results_cell_tmp_row rfl _ _ w.heap.size 25 #[.slice none 0 0] (0, 0) _ rfl (unhide M0) Try.underlying25 rfl (by kernel_rfl)) rfl ?_
    exact ⟨_, rfl, ⟨[], by simpa using World.ownsRow_nil _ _ _ _, by simp, by simp⟩, b0⟩
  have hR : nameGet l p = getName l 20 [] p 0 (-1) := by unfold nameGet; rw [if_neg h1]
  rw [hR]
  have h1' : ¬ (512 : Int) < (l.length : Int) := by omega
  have hl5 : l.length ≤ 512 := by omega
  obtain ⟨a, cap, rfl, hcl⟩ := h.lies
  have H := hide h
  clear h hcl hR h1
  have hB8 := hide hb
  clear hb
  generalize hR : getName l 20 [] p 0 (-1) = R
  have HR := hide hR
  clear hR
  obtain ⟨hsz, k0, r0⟩ := box2 w (.cells #[.slice none 0 0] 25) #[.slice none 0 0] 25
  have b0 := below2 w (.cells #[.slice none 0 0] 25) (.cells #[.slice none 0 0] 25)
  go_enter Try.func25, Try.ntmps25
  go_wp2
  go_step3
  go_wp2
  go_step3
  go_wp2
  generalize (w.alloc (.cells #[.slice none 0 0] 25)).alloc (.cells #[.slice none 0 0] 25) = W at *
  go_loopg [1, 7, 8] 9 (fun g p e h wr => GotO l R w g p e h wr)
  case atStart => exact ⟨[], p, -1, 0, 20, .slice none 0 0, rfl, rfl, rfl, rfl, fun _ => ⟨unhide HR, rfl⟩, by omega, by simp, hp, by omega, by omega, fun _ => rfl, by simp, k0, r0, ⟨[], by simpa using World.ownsRow_nil _ _ _ _, by simp, by simp⟩, b0⟩
  case round =>
    clear k0 r0 b0 HR hsz
    obtain ⟨n, pi, ei, hi, f, o, rfl, rfl, rfl, hg, hR1, hR2, hn6, hpi, he0, he1, he2, he3, kr, kn, ho, hbl⟩ := hrel
    by_cases hh : hi = 9
    · obtain rfl := hR2 hh
      subst hh
      clear hR1 hR2
      have cr := block_one kr
      have fr := block_frozen kr 0
      have M0 := hide (block_set kr (.slice none 0 0))
      go_wp2_with fail
      try rw [Exit.noGoto_ret]
      refine bodyPost_ret (results_cell_tmp_row rfl _ _ w.heap.size 25 #[.slice none 0 0] (0, 0) _ rfl (unhide M0) Try.underlying25 rfl (by kernel_rfl)) rfl ?_
      exact ⟨_, rfl, ⟨[], by simpa using World.ownsRow_nil _ _ _ _, by simp, by simp⟩, hbl.setCell (Nat.le_refl _) _⟩
    · have hh8 : hi ≤ 8 := by omega
      have hh8' : (hi : Int) ≤ 8 := by omega
      obtain ⟨G, rfl⟩ : ∃ G, gk = G + 1 := ⟨gk - 1, by omega⟩
      have START : GotN l R w hi ei (7 - n.length) (.int .i64 pi) (.int .i64 ei) wr := ⟨n, pi, f, o, rfl, rfl, by omega, fun _ => hR1 hh8, by omega, hpi, kr, kn, ho, hbl⟩
      have HST := hide START
      clear START kr kn ho hbl hR1 hR2
      have HE := hide (And.intro he2 he3)
      clear he2 he3
      go_wp2_with fail
      go_loopg [1, 7] (7 - n.length) (fun g p e wr => GotN l R w hi ei g p e wr)
      case atStart => exact unhide HST
      case round =>
        clear HST hn6
        obtain ⟨n, pi, f, o, rfl, rfl, hgn, hR1, hR2, hpi, kr, kn, ho, hbl⟩ := hrel
        by_cases hn7 : n.length = 7
        · obtain rfl := hR2 hn7
          obtain ⟨oa, oc, rfl, _⟩ := ho.hasL.form
          rw [hn7] at kn
          have cn := block_one kn
          have cr := block_one kr
          have fr := block_frozen kr 0
          have M0 := hide (block_set kr (.slice none 0 0))
          clear hn7 hR1 hR2 ho kn kr
          go_wp2_with fail
          try rw [Exit.noGoto_ret]
          refine bodyPost_ret (results_cell_tmp_row rfl _ _ w.heap.size 25 #[.slice none 0 0] (0, 0) _ rfl (unhide M0) Try.underlying25 rfl (by kernel_rfl)) rfl ?_
          exact ⟨_, rfl, ⟨[], by simpa using World.ownsRow_nil _ _ _ _, by simp, by simp⟩, hbl.setCell (Nat.le_refl _) _⟩
        · have hn6 : n.length ≤ 6 := by omega
          obtain ⟨hR, hf⟩ := hR1 hn6
          clear hR1 hR2 hn7
          obtain ⟨f, rfl⟩ : ∃ f', f = f' + 1 := ⟨f - 1, by omega⟩
          have hn6' : (n.length : Int) ≤ 6 := by omega
          obtain ⟨oa, oc, rfl, _⟩ := ho.hasL.form
          have cn := block_one kn
          have OK := hide ((unhide H).below hbl)
          have HO := hide ho
          clear ho
          have HP := hide (pointerGet_own pi (unhide OK) hl hpi (unhide hB8))
          have hpb := pointerOf_bound (unhide hB8) pi
          have EP := hide (fun hq => get_pointer (unhide hB8) (p := pi) hq f n hi ei)
          have EN := hide (fun hq hq2 => get_none (unhide hB8) (p := pi) hq hq2 f n hi ei)
          have EE := hide (fun hq hq2 => get_end (unhide hB8) (p := pi) hq hq2 f n hi ei)
          have EL := hide (fun hq hq2 => get_label (unhide hB8) (p := pi) hq hq2 f n hi ei)
          have HL := hide (fun (w' : World) (o : Own B 5 w' (.slice a l.length cap) l) => labelGet_own pi o hl hpi (unhide hB8))
          have hlb := labelOf_bound (unhide hB8) pi
          generalize (pointerOf l pi).1 = t at *
          generalize (pointerOf l pi).2 = bh at *
          generalize (labelOf l pi).1 = lab at *
          generalize (labelOf l pi).2 = nx at *
          obtain ⟨hpb1, hpb2⟩ := hpb
          obtain ⟨hlb1, hlb2⟩ := hlb
          by_cases hbh : 0 ≤ bh
          · have HRR := hide ((unhide EP hbh).symm.trans hR)
            clear hR EP EN EE EL HL
            by_cases hi0 : hi = 0
            · have hei := (unhide HE).1 hi0
              subst hi0
              subst hei
              go_wp2_with fail
              refine (unhide HP).mono ?_
              rintro e w1 ⟨rfl, b1⟩
              have bb1 := below_next hbl b1
              have k1 := block_kept b1 kr
              have kn1 := block_kept b1 kn
              have O1 := hide ((unhide HO).below b1)
              have OK1 := hide ((unhide OK).below b1)
              have z1 := b1.size
              clear kr kn cn b1 HO OK
              go_wp2_with fail
              go_roundg G
              case measure => omega
              case rel =>
                have hR := unhide HRR
                rw [if_neg (by omega), if_pos (by omega)] at hR
                exact ⟨n, t, bh, 1, f, _, rfl, rfl, rfl, by omega, fun _ => ⟨hR, by omega⟩, by omega, hn6, by omega, by omega, by omega, by omega, fun _ => hbh, k1, kn1, unhide O1, bb1⟩
            · have hei := (unhide HE).2 hi0
              have hi1 : ((hi : Int) == 0) = false := by rw [beq_eq_false_iff_ne]; omega
              go_wp2_with fail
              refine (unhide HP).mono ?_
              rintro e w1 ⟨rfl, b1⟩
              have bb1 := below_next hbl b1
              have k1 := block_kept b1 kr
              have kn1 := block_kept b1 kn
              have O1 := hide ((unhide HO).below b1)
              have OK1 := hide ((unhide OK).below b1)
              have z1 := b1.size
              clear kr kn cn b1 HO OK
              go_wp2_with fail
              go_roundg G
              case measure => omega
              case rel =>
                have hR := unhide HRR
                rw [if_neg (show ¬ ei < 0 by omega)] at hR
                refine ⟨n, t, ei, hi + 1, f, _, rfl, rfl, by go_num, by omega, fun h8 => ?_, fun h9 => ?_, hn6, by omega, by omega, by omega, by omega, fun _ => hei, k1, kn1, unhide O1, bb1⟩
                · rw [if_neg (by omega)] at hR
                  exact ⟨hR, by omega⟩
                · rw [if_pos (by omega)] at hR
                  exact hR.symm
          · have hbh' : bh < 0 := by omega
            by_cases hnx : nx < 0
            · obtain rfl := (unhide EN hbh' hnx).symm.trans hR
              clear hR EP EN EE EL
              go_wp2_with fail
              refine (unhide HP).mono ?_
              rintro e w1 ⟨rfl, b1⟩
              have bb1 := below_next hbl b1
              have k1 := block_kept b1 kr
              have kn1 := block_kept b1 kn
              have O1 := hide ((unhide HO).below b1)
              have OK1 := hide ((unhide OK).below b1)
              have z1 := b1.size
              clear kr kn cn b1 HO OK
              go_wp2_with fail
              refine (unhide HL _ (unhide OK1)).mono ?_
              rintro e w2 ⟨v2, rfl, o2, b2⟩
              obtain ⟨va, vc, rfl, _⟩ := o2.lies
              have OT := hide o2
              have bb2 := below_next bb1 b2
              have k2 := block_kept b2 k1
              have kn2 := block_kept b2 kn1
              have z2 := b2.size
              clear o2
              have c2 := block_one k2
              have f2 := block_frozen k2 0
              have M2 := hide (block_set k2 (.slice none 0 0))
              clear k1 kn1 k2 kn2 b2
              go_wp2_with fail
              try rw [Exit.noGoto_ret]
              refine bodyPost_ret (results_cell_tmp_row rfl _ _ w.heap.size 25 #[.slice none 0 0] (0, 0) _ rfl (unhide M2) Try.underlying25 rfl (by kernel_rfl)) rfl ?_
              exact ⟨_, rfl, ⟨[], by simpa using World.ownsRow_nil _ _ _ _, by simp, by simp⟩, bb2.setCell (Nat.le_refl _) _⟩
            · have hnx' : 0 ≤ nx := by omega
              by_cases hla : lab.length = 0
              · have hRE := (unhide EE hnx' hla).symm.trans hR
                clear hR EP EN EE EL
                have hla' : (((lab.length : Nat) : Int) == 0) = true := by rw [hla]; rfl
                clear hla
                have HEE : (if ei < 0 then nx else ei) = (if hi = 0 then nx else ei) := by
                  by_cases hi0 : hi = 0
                  · rw [if_pos hi0, if_pos (by have := (unhide HE).1 hi0; omega)]
                  · rw [if_neg hi0, if_neg (by have := (unhide HE).2 hi0; omega)]
                rw [HEE] at hRE
                clear HEE
                cases hok : nameOk n with
                | false =>
                  rw [hok, if_neg (by simp)] at hRE
                  obtain rfl := hRE
                  have hN := fun (x : Int) (w : World) (h : HasL w (.slice oa n.length oc) n) => nameGot_has x h
                  simp only [hok, Bool.false_eq_true, if_false] at hN
                  have NG := hide hN
                  clear hN hok
                  by_cases hi0 : ((hi : Int) == 0) = true
                  all_goals
                    try (have hi1 : ((hi : Int) == 0) = false := by simpa using hi0)
                    go_wp2_with fail
                    refine (unhide HP).mono ?_
                    rintro e w1 ⟨rfl, b1⟩
                    have bb1 := below_next hbl b1
                    have k1 := block_kept b1 kr
                    have kn1 := block_kept b1 kn
                    have O1 := hide ((unhide HO).below b1)
                    have OK1 := hide ((unhide OK).below b1)
                    have z1 := b1.size
                    clear kr kn cn b1 HO OK
                    go_wp2_with fail
                    refine (unhide HL _ (unhide OK1)).mono ?_
                    rintro e w2 ⟨v2, rfl, o2, b2⟩
                    obtain ⟨va, vc, rfl, _⟩ := o2.lies
                    have OT := hide o2
                    have bb2 := below_next bb1 b2
                    have k2 := block_kept b2 k1
                    have kn2 := block_kept b2 kn1
                    have z2 := b2.size
                    clear o2
                    have cn2 := block_one kn2
                    have O2 := hide ((unhide O1).below b2)
                    clear kn1 k1 b2
                    go_wp2_with fail
                    refine (unhide NG _ _ (unhide O2).hasL).mono ?_
                    rintro e w3 ⟨rfl, b3⟩
                    have k3 := block_kept b3 k2
                    have c3 := block_one k3
                    have f3 := block_frozen k3 0
                    have M3 := hide (block_set k3 (.slice none 0 0))
                    have bb3 := below_next bb2 b3
                    clear k2 kn2 cn2 k3 b3
                    go_wp2_with fail
                    try rw [Exit.noGoto_ret]
                    refine bodyPost_ret (results_cell_tmp_row rfl _ _ w.heap.size 25 #[.slice none 0 0] (0, 0) _ rfl (unhide M3) Try.underlying25 rfl (by kernel_rfl)) rfl ?_
                    exact ⟨_, rfl, ⟨[], by simpa using World.ownsRow_nil _ _ _ _, by simp, by simp⟩, bb3.setCell (Nat.le_refl _) _⟩
                | true =>
                  rw [hok, if_pos rfl] at hRE
                  have hN := fun (x : Int) (w : World) (h : HasL w (.slice oa n.length oc) n) => nameGot_has x h
                  simp only [hok, if_true] at hN
                  have NG := hide hN
                  clear hN hok
                  by_cases hi0 : hi = 0
                  all_goals
                    first | rw [if_pos hi0] at hRE | rw [if_neg hi0] at hRE
                    obtain rfl := hRE
                    first
                      | (have hi1 : ((hi : Int) == 0) = true := by rw [hi0]; rfl)
                      | (have hi1 : ((hi : Int) == 0) = false := by rw [beq_eq_false_iff_ne]; omega)
                    clear hi0
                    go_wp2_with fail
                    refine (unhide HP).mono ?_
                    rintro e w1 ⟨rfl, b1⟩
                    have bb1 := below_next hbl b1
                    have k1 := block_kept b1 kr
                    have kn1 := block_kept b1 kn
                    have O1 := hide ((unhide HO).below b1)
                    have OK1 := hide ((unhide OK).below b1)
                    have z1 := b1.size
                    clear kr kn cn b1 HO OK
                    go_wp2_with fail
                    refine (unhide HL _ (unhide OK1)).mono ?_
                    rintro e w2 ⟨v2, rfl, o2, b2⟩
                    obtain ⟨va, vc, rfl, _⟩ := o2.lies
                    have OT := hide o2
                    have bb2 := below_next bb1 b2
                    have k2 := block_kept b2 k1
                    have kn2 := block_kept b2 kn1
                    have z2 := b2.size
                    clear o2
                    have cn2 := block_one kn2
                    have O2 := hide ((unhide O1).below b2)
                    clear kn1 k1 b2
                    go_wp2_with fail
                    refine (unhide NG _ _ (unhide O2).hasL).mono ?_
                    rintro e w3 ⟨rfl, b3⟩
                    have k3 := block_kept b3 k2
                    have c3 := block_one k3
                    have f3 := block_frozen k3 0
                    have M3 := hide (block_set k3 (.slice oa n.length oc))
                    have bb3 := below_next bb2 b3
                    have z3 := block_lt k3
                    have O3 := hide ((unhide O2).below b3)
                    clear k2 kn2 cn2 k3 b3
                    go_wp2_with fail
                    try rw [Exit.noGoto_ret]
                    refine bodyPost_ret (results_cell_tmp_row rfl _ _ w.heap.size 25 #[.slice oa n.length oc] (0, 0) _ rfl (unhide M3) Try.underlying25 rfl (by kernel_rfl)) rfl ?_
                    exact ⟨_, rfl, ((unhide O3).kept (grown_setCell _ _ _) (by show w.heap.size < _; omega)).mono (by omega), bb3.setCell (Nat.le_refl _) _⟩
              · have HRR := hide ((unhide EL hnx' hla).symm.trans hR)
                clear hR EP EN EE EL
                have hla' : (((lab.length : Nat) : Int) == 0) = false := by rw [beq_eq_false_iff_ne]; omega
                clear hla
                go_wp2_with fail
                refine (unhide HP).mono ?_
                rintro e w1 ⟨rfl, b1⟩
                have bb1 := below_next hbl b1
                have k1 := block_kept b1 kr
                have kn1 := block_kept b1 kn
                have O1 := hide ((unhide HO).below b1)
                have OK1 := hide ((unhide OK).below b1)
                have z1 := b1.size
                clear kr kn cn b1 HO OK
                go_wp2_with fail
                refine (unhide HL _ (unhide OK1)).mono ?_
                rintro e w2 ⟨v2, rfl, o2, b2⟩
                obtain ⟨va, vc, rfl, _⟩ := o2.lies
                have OT := hide o2
                have bb2 := below_next bb1 b2
                have k2 := block_kept b2 k1
                have kn2 := block_kept b2 kn1
                have z2 := b2.size
                clear o2
                have cn2 := block_one kn2
                have zn := block_lt kn1
                have B2 := hide b2
                obtain ⟨vs, hvs, hva, hvd⟩ := unhide O1
                have hvl : vs.length = n.length := by have := hvs.1; simpa using this
                have HVS := hide hvs
                have HVA := hide hva
                have HVD := hide hvd
                have KN2 := hide kn2
                have K1 := hide k1
                clear hvs hva hvd b2 kn2 k2 k1 kn1
                go_wp2_with (at_builtin; refine append_row rfl _ _ 23 22 rfl Try.underlying23 info_sl6 (w.heap.size + 2) (.slice oa n.length oc) _ vs [.slice va lab.length vc] rfl rfl (by rw [hvl]; exact World.ownsRow.alloc (ownsRow_kept' (unhide HVS) (unhide B2)) _) (one_more w2 22 _) (by intro y hy; simp at hy; subst hy; rfl) (by rw [hvl]; simp; omega) (by have := (unhide B2).size; simp; omega) ?_)
                intro v3 w3 o3 g3
                obtain ⟨p3, k3, y3⟩ := snoc_step g3 o3 (by omega) (unhide HVS) (unhide HVA) (unhide HVD) ((unhide B2).alloc (unhide B2).size _) ((unhide OT).alloc _) (by omega) (by decide) (block_kept (below_alloc _) (unhide KN2)) (by decide)
                obtain ⟨v3a, v3c, rfl, _⟩ := p3.hasL.form
                have co3 := block_one k3
                have fo3 := block_frozen k3 0
                have K3 := hide k3
                clear g3 o3 k3
                go_wp2_with fail
                obtain ⟨g', rfl⟩ : ∃ g', gk = g' + 1 := ⟨gk - 1, by omega⟩
                go_roundg g'
                case measure => omega
                case rel =>
                  have hR := unhide HRR
                  have k0 := (y3.block w.heap.size (by omega)).trans (unhide K1)
                  simp only [List.length_append, List.length_cons, List.length_nil] at p3
                  refine ⟨n ++ [lab], nx, f, _, rfl, rfl, by simp; omega, fun h6 => ?_, fun h7 => ?_, by omega, block_other k0 (by omega) 0 _, block_set (unhide K3) _, ?_, (bb1.trans (y3.mono (by omega))).setCell (by show w.heap.size ≤ w.heap.size + 1; omega) _⟩
                  · simp at h6
                    rw [if_neg (by omega)] at hR
                    exact ⟨hR, by simp; omega⟩
                  · simp at h7
                    rw [if_pos (by omega)] at hR
                    exact hR.symm
                  · exact p3.kept (grown_setCell _ _ _) (by show w.heap.size + 1 < _; omega)
end Go.Proofs.Ytaconefooicplaa

namespace Go.Proofs.Ytaconefooicplaa
open Go.RowKit
set_option linter.unusedVariables false

theorem nameGet_neg (l : List Int) {p : Int} (h : p < 0) : nameGet l p = ([], -1) := by
  unfold nameGet
  split
  · rfl
  · unfold getName
    rw [if_pos (.inl h)]

set_option maxHeartbeats 1500000 in
set_option maxRecDepth 100000 in
theorem lawNameWire (a : Option Addr) (cap : Nat) (l : List Int) (w : World) (hL : Lies w a l) (hb : ∀ k, 0 ≤ l.getD k 0 ∧ l.getD k 0 ≤ 255) (hm : l.length ≤ maxLen) :
    Calls Try.prog 5 #[.slice a l.length cap] w fun e w' => e = .returned (.bool true) ∧ Below w.heap.size w w' := by
  have HD := hide (drawNamePut_any (cap := cap) l hL rfl hb hm)
  have HL := hide hL
  have HB := hide hb
  have HM := hide hm
  clear hL hb hm
  go_enter Try.func5, Try.ntmps5
  go_wp2_with fail
  refine (unhide HD).mono ?_
  rintro e w1 ⟨vb, mb, v1, n1, rfl, ub, hml, hmb, m1, HA0, b1⟩
  clear HD m1
  obtain ⟨x1, y1, rfl, _⟩ := HA0.form
  obtain ⟨ba, bc, rfl, _⟩ := ub.form
  have b2 := below_alloc (w := w1) (.cells #[.slice x1 n1.length y1] 25)
  have bb := below_next b1 b2
  have KA := hide (heap_alloc_new w1 (.cells #[.slice x1 n1.length y1] 25))
  have HA := hide (HA0.below b2)
  have U := hide (ub.below b2)
  have zw := b1.size
  have zb := block_lt (unhide KA)
  have NP := fun (w : World) (h : Has w (.slice ba mb.length bc) mb) (h2 : HasL w (.slice x1 n1.length y1) n1) => implNamePut_has h (by omega) h2
  have SO := fun (w : World) (h : HasL w (.slice x1 n1.length y1) n1) => specNameOk_has h
  have HMB := hide hmb
  clear HA0 b1 b2 ub hmb
  cases hok : nameOk n1 with
  | false =>
    rw [namePut_no hok, hok] at NP
    rw [hok] at SO
    replace NP := hide NP
    replace SO := hide SO
    clear hok
    have c_KA := block_one (unhide KA)
    go_wp2_with fail
    clear c_KA
    generalize w1.alloc (.cells #[.slice x1 n1.length y1] 25) = W at *
    refine (unhide NP _ (unhide U) (unhide HA)).mono ?_
    rintro e w3 ⟨vx, rfl, ox, b3⟩
    obtain ⟨xa, xc, rfl, _⟩ := ox.lies
    clear ox
    replace bb := below_next bb b3
    replace KA := hide (block_kept b3 (unhide KA))
    replace HA := hide ((unhide HA).below b3)
    replace U := hide ((unhide U).below b3)
    have z3 := b3.size
    clear b3
    have c_KA := block_one (unhide KA)
    go_wp2_with fail
    clear c_KA
    refine (unhide SO _ (unhide HA)).mono ?_
    rintro e w4 ⟨rfl, b4⟩
    replace bb := below_next bb b4
    replace KA := hide (block_kept b4 (unhide KA))
    replace HA := hide ((unhide HA).below b4)
    replace U := hide ((unhide U).below b4)
    have z4 := b4.size
    clear b4
    have c_KA := block_one (unhide KA)
    go_wp2_with fail
    clear c_KA
    refine (names_any _).mono ?_
    rintro e w5 ⟨rfl, b5⟩
    replace bb := below_next bb b5
    replace KA := hide (block_kept b5 (unhide KA))
    replace HA := hide ((unhide HA).below b5)
    replace U := hide ((unhide U).below b5)
    have z5 := b5.size
    clear b5
    have c_KA := block_one (unhide KA)
    go_wp2_with fail
    clear c_KA
    go_ret
    exact ⟨rfl, bb⟩
  | true =>
    rw [namePut_yes hok, hok] at NP
    have hwl := wire_length n1 hok
    have hwp := wire_pos n1
    have hX8 : ∀ x ∈ mb ++ wire n1, 0 ≤ x ∧ x ≤ 255 := fun x hx => by
      rcases List.mem_append.1 hx with q | q
      · exact unhide HMB x q
      · exact wire_bytes hok x q
    have hY8 : ∀ x ∈ (mb ++ wire n1) ++ [192, (mb.length : Int)], 0 ≤ x ∧ x ≤ 255 := fun x hx => by
      rcases List.mem_append.1 hx with q | q
      · exact hX8 x q
      · simp at q
        omega
    have hXl : (mb ++ wire n1).length ≤ 100 ∧ 1 ≤ (mb ++ wire n1).length := by rw [List.length_append]; omega
    have SN := fun (w : World) (v : Value) (h : HasL w v n1) (h2 : HasL w (.slice x1 n1.length y1) n1) => sameName_has h h2
    rw [decide_eq_true rfl] at SN
    have NG := fun (w : World) (v : Value) (B : Nat) (h : Own B 5 w v (mb ++ wire n1)) => implNameGet_own (mb.length : Int) h (by omega) (by omega) (bytes8_of hX8)
    rw [get_put hok hml] at NG
    have NH := fun (w : World) (v : Value) (B : Nat) (h : Own B 5 w v ((mb ++ wire n1) ++ [192, (mb.length : Int)])) => implNameGet_own (((mb ++ wire n1).length : Nat) : Int) h (by rw [List.length_append]; simp only [List.length_cons, List.length_nil]; omega) (by omega) (bytes8_of hY8)
    rw [get_back hok hml] at NH
    dsimp only at NG NH
    generalize mb ++ wire n1 = X at *
    replace NP := hide NP
    replace SO := hide SO
    replace NG := hide NG
    replace NH := hide NH
    replace SN := hide SN
    clear hok hX8 hY8 hwl hwp
    obtain ⟨hXl, hXp⟩ := hXl
    have c_KA := block_one (unhide KA)
    go_wp2_with fail
    clear c_KA
    generalize w1.alloc (.cells #[.slice x1 n1.length y1] 25) = W at *
    refine (unhide NP _ (unhide U) (unhide HA)).mono ?_
    rintro e w3 ⟨vx, rfl, ox, b3⟩
    obtain ⟨xa, xc, rfl, _⟩ := ox.lies
    have OX := hide ox
    clear ox
    replace bb := below_next bb b3
    replace KA := hide (block_kept b3 (unhide KA))
    replace HA := hide ((unhide HA).below b3)
    have z3 := b3.size
    clear b3
    clear U NP
    have c_KA := block_one (unhide KA)
    go_wp2_with fail
    clear c_KA
    refine (unhide NG _ _ _ (unhide OX)).mono ?_
    rintro e w5 ⟨v5, rfl, o5, b5⟩
    replace bb := below_next bb b5
    replace KA := hide (block_kept b5 (unhide KA))
    replace HA := hide ((unhide HA).below b5)
    replace OX := hide ((unhide OX).below b5)
    have z5 := b5.size
    clear b5
    obtain ⟨x5, y5, rfl, _⟩ := o5.hasL.form
    have bq := below_alloc (w := w5) (.cells #[.slice x5 n1.length y5] 25)
    have K5 := hide (heap_alloc_new w5 (.cells #[.slice x5 n1.length y5] 25))
    have H5 := hide (o5.hasL.below bq)
    replace bb := below_next bb bq
    replace KA := hide (block_kept bq (unhide KA))
    replace HA := hide ((unhide HA).below bq)
    replace OX := hide ((unhide OX).below bq)
    have esz : (w5.alloc (.cells #[.slice x5 n1.length y5] 25)).heap.size = w5.heap.size + 1 := by show (w5.heap.push _).size = _; simp
    have A1 : Own (w5.heap.size + 1) 5 ((w5.alloc (.cells #[.slice x5 n1.length y5] 25)).alloc (.cells #[] 5)) (.slice (some ⟨(w5.alloc (.cells #[.slice x5 n1.length y5] 25)).heap.size, 0, none⟩) 0 0) [] := own_lit (w5.alloc (.cells #[.slice x5 n1.length y5] 25)) (w5.heap.size + 1) 5 [] (by rw [esz]; exact Nat.le_refl _) (by simp)
    have be := below_alloc (w := w5.alloc (.cells #[.slice x5 n1.length y5] 25)) (.cells #[] 5)
    have A2 := hide ((unhide OX).below be).has.reads
    have ze : ((w5.alloc (.cells #[.slice x5 n1.length y5] 25)).alloc (.cells #[] 5)).heap.size = w5.heap.size + 1 + 1 := by show ((w5.heap.push _).push _).size = _; simp
    rw [esz] at A1
    have HA1 := hide A1
    have BE := hide be
    have zB : w5.heap.size + 1 ≤ (w5.alloc (.cells #[.slice x5 n1.length y5] 25)).heap.size := by rw [esz]; exact Nat.le_refl _
    have zP : (w5.alloc (.cells #[.slice x5 n1.length y5] 25)).heap.size ≤ w5.heap.size + 1 := by rw [esz]; exact Nat.le_refl _
    have hwf : IntKind.u8.wrap (mb.length : Int) = mb.length := wrap_u8 _ (by omega)
    clear A1 o5 be NG bq
    have c_KA := block_one (unhide KA)
    have c_K5 := block_one (unhide K5)
    go_wp2_with (at_builtin; refine append_bytes rfl _ _ 22 5 rfl Try.underlying22 info_u8 (w5.heap.size + 1) (.slice (some ⟨w5.heap.size + 1, 0, none⟩) 0 0) (.slice xa X.length xc) [] X rfl rfl (unhide HA1) (unhide A2) (by simp; omega) (by rw [ze]; omega) ?_)
    intro v6 w6 o6 g6
    clear c_KA c_K5
    try rw [List.nil_append] at o6
    have bl : Below (w5.heap.size + 1) (w5.alloc (.cells #[.slice x5 n1.length y5] 25)) w6 := by
      have q := (unhide BE).mono (show w5.heap.size + 1 ≤ _ from zB)
      exact q.grown g6 (by rw [ze]; omega) (fun k hk => by simp [Value.ownBlock] at hk; omega)
    generalize w5.alloc (.cells #[.slice x5 n1.length y5] 25) = W5 at *
    obtain ⟨xa6, xc6, rfl, _⟩ := o6.lies
    have zl := bl.size
    have RY := hide (own_lit w6 0 5 [192, (mb.length : Int)] (Nat.zero_le _) (by simp [maxLen])).reads
    have bn := bl.alloc (show w5.heap.size + 1 ≤ w6.heap.size by omega) (.cells #[.int .u8 192, .int .u8 (mb.length : Int)] 5)
    have O6 := hide o6
    have BN := hide bn
    have zn := bn.size
    clear g6 HA1 A2 BE o6 bn
    go_wp2_with (at_builtin; refine append_bytes rfl _ _ 22 5 rfl Try.underlying22 info_u8 (w5.heap.size + 1) (.slice xa6 X.length xc6) _ X [192, (mb.length : Int)] rfl rfl ((unhide O6).alloc _) (unhide RY) (by simp; omega) (by omega) ?_)
    intro v7 w7 o7 g7
    have bl7 : Below W5.heap.size W5 w7 := ((unhide BN).grown g7 (by omega) (fun k hk => ((unhide O6).lt k hk).1)).mono zP
    replace bb := below_next bb bl7
    replace KA := hide (block_kept bl7 (unhide KA))
    replace HA := hide ((unhide HA).below bl7)
    replace OX := hide ((unhide OX).below bl7)
    replace K5 := hide (block_kept bl7 (unhide K5))
    replace H5 := hide ((unhide H5).below bl7)
    obtain ⟨xa7, xc7, rfl, _⟩ := o7.lies
    have eL : (X ++ [192, (mb.length : Int)]).length = X.length + 2 := by simp
    rw [eL] at o7
    have O7 := hide o7
    have zl7 := bl7.size
    clear g7 RY O6 BN o7 bl7 bl eL
    have c_KA := block_one (unhide KA)
    have c_K5 := block_one (unhide K5)
    go_wp2_with fail
    clear c_KA c_K5
    refine (unhide NH _ _ _ (unhide O7)).mono ?_
    rintro e w8 ⟨v8, rfl, o8, b8⟩
    replace bb := below_next bb b8
    replace KA := hide (block_kept b8 (unhide KA))
    replace HA := hide ((unhide HA).below b8)
    replace OX := hide ((unhide OX).below b8)
    replace K5 := hide (block_kept b8 (unhide K5))
    replace H5 := hide ((unhide H5).below b8)
    have z8 := b8.size
    clear b8
    clear O7 NH
    obtain ⟨x8, y8, rfl, _⟩ := o8.hasL.form
    have bq := below_alloc (w := w8) (.cells #[.slice x8 n1.length y8] 25)
    have K8 := hide (heap_alloc_new w8 (.cells #[.slice x8 n1.length y8] 25))
    have H8 := hide (o8.hasL.below bq)
    replace bb := below_next bb bq
    replace KA := hide (block_kept bq (unhide KA))
    replace HA := hide ((unhide HA).below bq)
    replace OX := hide ((unhide OX).below bq)
    replace K5 := hide (block_kept bq (unhide K5))
    replace H5 := hide ((unhide H5).below bq)
    have z8a := bq.size
    have hw2 : IntKind.i64.wrap ((X.length : Int) + 2) = (X.length : Int) + 2 := by rw [show ((X.length : Int) + 2) = ((X.length + 2 : Nat) : Int) by omega]; exact wrap_small _ (by omega)
    have hn1 : ((X.length : Int) != (X.length : Int)) = false := by simp
    have hn2 : ((X.length : Int) + 2 != (X.length : Int) + 2) = false := by simp
    clear bq o8
    have c_KA := block_one (unhide KA)
    have c_K5 := block_one (unhide K5)
    have c_K8 := block_one (unhide K8)
    go_wp2_with fail
    clear c_KA c_K5 c_K8
    generalize w8.alloc (.cells #[.slice x8 n1.length y8] 25) = W8 at *
    refine (unhide SN _ _ (unhide H5) (unhide HA)).mono ?_
    rintro e w10 ⟨rfl, b10⟩
    replace bb := below_next bb b10
    replace KA := hide (block_kept b10 (unhide KA))
    replace HA := hide ((unhide HA).below b10)
    replace OX := hide ((unhide OX).below b10)
    replace K5 := hide (block_kept b10 (unhide K5))
    replace H5 := hide ((unhide H5).below b10)
    replace K8 := hide (block_kept b10 (unhide K8))
    replace H8 := hide ((unhide H8).below b10)
    have z10 := b10.size
    clear b10
    have c_KA := block_one (unhide KA)
    have c_K5 := block_one (unhide K5)
    have c_K8 := block_one (unhide K8)
    go_wp2_with fail
    clear c_KA c_K5 c_K8
    refine (unhide SN _ _ (unhide H8) (unhide HA)).mono ?_
    rintro e w11 ⟨rfl, b11⟩
    replace bb := below_next bb b11
    replace KA := hide (block_kept b11 (unhide KA))
    replace HA := hide ((unhide HA).below b11)
    replace OX := hide ((unhide OX).below b11)
    replace K5 := hide (block_kept b11 (unhide K5))
    replace H5 := hide ((unhide H5).below b11)
    replace K8 := hide (block_kept b11 (unhide K8))
    replace H8 := hide ((unhide H8).below b11)
    have z11 := b11.size
    clear b11
    clear SN hw2 hn1 hn2
    have DG := hide (drawNameGet_any (cap := cap) l ((unhide HL).below bb) rfl (unhide HB) (unhide HM))
    go_wp2_with fail
    refine (unhide DG).mono ?_
    rintro e w20 ⟨v20, m20, p20, rfl, o20, hl20, hb20, hp20, b20⟩
    replace bb := below_next bb b20
    obtain ⟨a20, c20, rfl, _⟩ := o20.lies
    have hT := nameGet_told m20 p20 (bytes8_of hb20)
    have hNeg := nameGet_neg m20 (p := p20)
    have GG := hide (implNameGet_own p20 o20 (by omega) (by omega) (bytes8_of hb20))
    clear b20 o20 hb20 DG
    generalize hr : nameGet m20 p20 = R at *
    obtain ⟨nr, st⟩ := R
    dsimp only at hT GG
    have HR := hide hr
    clear hr
    go_wp2_with fail
    refine (unhide GG).mono ?_
    rintro e w21 ⟨v21, rfl, o21, b21⟩
    replace bb := below_next bb b21
    obtain ⟨x21, y21, rfl, _⟩ := o21.hasL.form
    have bq := below_alloc (w := w21) (.cells #[.slice x21 nr.length y21] 25)
    have K21 := hide (heap_alloc_new w21 (.cells #[.slice x21 nr.length y21] 25))
    have H21 := hide (o21.hasL.below bq)
    replace bb := below_next bb bq
    clear b21 bq o21 GG
    have c21 := block_one (unhide K21)
    replace hT : (nr, st) = (([] : List (List Int)), (-1 : Int)) ∨ (0 ≤ p20 ∧ nameOk nr = true ∧ p20 < st ∧ st ≤ m20.length) := by
      by_cases q : p20 < 0
      · exact .inl (hNeg q)
      · rcases hT with h | h
        · exact .inl h
        · exact .inr ⟨by omega, h⟩
    rcases hT with hT | ⟨t0, t1, t2, t3⟩
    · simp only [Prod.mk.injEq] at hT
      obtain ⟨rfl, rfl⟩ := hT
      clear hNeg
      go_wp2_with fail
      go_ret
      exact ⟨rfl, bb⟩
    · have hst : 0 ≤ st := by omega
      have IOK := implNameOk_has (unhide H21)
      rw [t1] at IOK
      replace IOK := hide IOK
      have hs1 : ¬ (st < 0) := by omega
      clear hNeg t1
      go_wp2_with fail
      refine (unhide IOK).mono ?_
      rintro e w22 ⟨rfl, b22⟩
      go_wp2_with fail
      go_ret
      exact ⟨rfl, below_next bb b22⟩
end Go.Proofs.Ytaconefooicplaa
