/-
  Contracts of the program's nameGot and NameGet. Contracts of the program's Get32.
-/
import Derived.Test.YthmihglfffeedaaGreatDoorFnRecordsG40
import Derived.Test.YthmihglfffeedaaGreatDoorFnRecordsG29
import Derived.Test.YthmihglfffeedaaGreatDoorFnRecordsG03
import Derived.Deep.LoopGhost
namespace Go.Proofs.YthmihglfffeedaaGreatDoor
open Go.RowKit
set_option linter.unusedVariables false
set_option maxHeartbeats 8000000
set_option maxRecDepth 100000

theorem info_sl6 : (Tryz.prog.info? 22).map (fun i => (i.zero, i.size, i.bytes)) = some (some (.slice none 0 0), 1, 24) := by kernel_rfl

theorem nameGot_has {v : Value} {n : List (List Int)} (x : Int) {w : World} (h : HasL w v n) :
  Calls Tryz.prog 74 #[.agg #[v], .int .i64 x] w fun e w' => e = .returned (.tuple #[.agg #[if nameOk n = true then v else .slice none 0 0], .int .i64 (if nameOk n = true then x else -1)]) ∧ Below w.heap.size w w' := by
 obtain ⟨a, cap, rfl, hcl, hm⟩ := h.form
 unfold maxLen at hm
 obtain ⟨hsz, k0, r0⟩ := box2 w (.cells #[.slice a n.length cap] 25) #[.slice none 0 0] 25
 have b0 := below2 w (.cells #[.slice a n.length cap] 25) (.cells #[.slice none 0 0] 25)
 have h0 := UC (h.below b0)
 clear h
 cases hok : nameOk n with
 | false =>
  rw [if_neg (by simp), if_neg (by simp)]
  have HOK := UC hok
  clear hok
  go_enter Tryz.func74, Tryz.ntmps74
  go_wp2_with fail
  generalize (w.alloc (.cells #[.slice a n.length cap] 25)).alloc (.cells #[.slice none 0 0] 25) = W0 at *
  refine (VP (UB h0)).mono ?_
  rw [UB HOK]
  rintro e w1 ⟨rfl, b1⟩
  have bb1 := UG b0 b1
  have r1 := UE b1 r0
  have c1 := US r1
  have f1 := VG r1 0
  have M1 := UC (block_set r1 (.slice none 0 0))
  clear b0 k0 h0 b1 r0 r1
  go_wp2_with fail
  refine bodyPost_ret (results_cell_tmp_row rfl _ _ (w.heap.size + 1) 25 #[.slice none 0 0] (0, 0) _ rfl (UB M1) Tryz.underlying25 rfl (by kernel_rfl)) rfl ?_
  exact ⟨rfl, bb1.setCell (by show w.heap.size ≤ w.heap.size + 1; omega) _⟩
 | true =>
  rw [if_pos rfl, if_pos rfl]
  have HOK := UC hok
  clear hok
  go_enter Tryz.func74, Tryz.ntmps74
  go_wp2_with fail
  generalize (w.alloc (.cells #[.slice a n.length cap] 25)).alloc (.cells #[.slice none 0 0] 25) = W0 at *
  refine (VP (UB h0)).mono ?_
  rw [UB HOK]
  rintro e w1 ⟨rfl, b1⟩
  have bb1 := UG b0 b1
  have r1 := UE b1 r0
  have q1 := US (UE b1 k0)
  have c1 := US r1
  have f1 := VG r1 0
  have M1 := UC (block_set r1 (.slice a n.length cap))
  clear b0 k0 h0 b1 r0 r1
  go_wp2_with fail
  refine bodyPost_ret (results_cell_tmp_row rfl _ _ (w.heap.size + 1) 25 #[.slice a n.length cap] (0, 0) _ rfl (UB M1) Tryz.underlying25 rfl (by kernel_rfl)) rfl ?_
  exact ⟨rfl, bb1.setCell (by show w.heap.size ≤ w.heap.size + 1; omega) _⟩

def GotO (l : List Int) (R : List (List Int) × Int) (w : World) (g : Nat) (p e h : Value) (wr : World) : Prop :=
 ∃ (n : List (List Int)) (pi ei : Int) (hi f : Nat) (o : Value), p = .int .i64 pi ∧ e = .int .i64 ei ∧ h = .int .i64 hi ∧ g + hi = 9 ∧ (hi ≤ 8 → getName l f n pi hi ei = R ∧ f + n.length + hi = 20) ∧ (hi = 9 → R = ([], -1)) ∧ n.length ≤ 6 ∧
  pi ≤ 9223372036854775807 ∧ -1 ≤ ei ∧ ei ≤ 512 ∧ (hi = 0 → ei = -1) ∧ (hi ≠ 0 → 0 ≤ ei) ∧ wr.heap[w.heap.size]? = some (.cells #[.slice none 0 0] 25) ∧ wr.heap[w.heap.size + 1]? = some (.cells #[o] 25) ∧
  OwnL (w.heap.size + 2) 22 5 wr o n ∧ Below w.heap.size w wr

def GotN (l : List Int) (R : List (List Int) × Int) (w : World) (hi : Nat) (ei : Int) (g : Nat) (p e : Value) (wr : World) : Prop :=
 ∃ (n : List (List Int)) (pi : Int) (f : Nat) (o : Value), p = .int .i64 pi ∧ e = .int .i64 ei ∧ g + n.length = 7 ∧ (n.length ≤ 6 → getName l f n pi hi ei = R ∧ f + n.length + hi = 20) ∧ (n.length = 7 → R = ([], -1)) ∧
  pi ≤ 9223372036854775807 ∧ wr.heap[w.heap.size]? = some (.cells #[.slice none 0 0] 25) ∧ wr.heap[w.heap.size + 1]? = some (.cells #[o] 25) ∧
  OwnL (w.heap.size + 2) 22 5 wr o n ∧ Below w.heap.size w wr

theorem implNameGet_own {B : Nat} {v : Value} {l : List Int} (p : Int) {w : World} (h : Own B 5 w v l) (hl : l.length ≤ 1048576) (hp : p ≤ 9223372036854775807) (hb : Bytes8 l) :
  Calls Tryz.prog 56 #[v, .int .i64 p] w fun e w' => ∃ v', e = .returned (.tuple #[.agg #[v'], .int .i64 (nameGet l p).2]) ∧ OwnL w.heap.size 22 5 w' v' (nameGet l p).1 ∧ Below w.heap.size w w' := by
 by_cases h1 : 512 < l.length
 ·have e1 : nameGet l p = ([], -1) := by unfold nameGet; rw [if_pos h1]
  rw [e1]
  have b0 := UI (w := w) (.cells #[.slice none 0 0] 25)
  have k0 := heap_alloc_new w (.cells #[.slice none 0 0] 25)
  obtain ⟨a, cap, rfl, _⟩ := h.lies
  have h1' : (512 : Int) < (l.length : Int) := by omega
  have c0 := US k0
  have f0 := VG k0 0
  have M0 := UC k0
  go_enter Tryz.func56, Tryz.ntmps56
  go_wp2_with fail
  go_step3
  go_wp2_with fail
  try rw [Exit.noGoto_ret]
  refine bodyPost_ret (results_cell_tmp_row rfl _ _ w.heap.size 25 #[.slice none 0 0] (0, 0) _ rfl (UB M0) Tryz.underlying25 rfl (by kernel_rfl)) rfl ?_
  exact ⟨_, rfl, ⟨[], by simpa using World.ownsRow_nil _ _ _ _, by simp, by simp⟩, b0⟩
 have hR : nameGet l p = getName l 20 [] p 0 (-1) := by unfold nameGet; rw [if_neg h1]
 rw [hR]
 have h1' : ¬ (512 : Int) < (l.length : Int) := by omega
 have hl5 : l.length ≤ 512 := by omega
 obtain ⟨a, cap, rfl, hcl⟩ := h.lies
 have H := UC h
 clear h hcl hR h1
 have hB8 := UC hb
 clear hb
 generalize hR : getName l 20 [] p 0 (-1) = R
 have HR := UC hR
 clear hR
 obtain ⟨hsz, k0, r0⟩ := box2 w (.cells #[.slice none 0 0] 25) #[.slice none 0 0] 25
 have b0 := below2 w (.cells #[.slice none 0 0] 25) (.cells #[.slice none 0 0] 25)
 go_enter Tryz.func56, Tryz.ntmps56
 go_wp2
 go_step3
 go_wp2
 go_step3
 go_wp2
 generalize (w.alloc (.cells #[.slice none 0 0] 25)).alloc (.cells #[.slice none 0 0] 25) = W at *
 go_loopg [1, 7, 8] 9 (fun g p e h wr => GotO l R w g p e h wr)
 case atStart => exact ⟨[], p, -1, 0, 20, .slice none 0 0, rfl, rfl, rfl, rfl, fun _ => ⟨UB HR, rfl⟩, by omega, by simp, hp, by omega, by omega, fun _ => rfl, by simp, k0, r0, ⟨[], by simpa using World.ownsRow_nil _ _ _ _, by simp, by simp⟩, b0⟩
 case round =>
  clear k0 r0 b0 HR hsz
  obtain ⟨n, pi, ei, hi, f, o, rfl, rfl, rfl, hg, hR1, hR2, hn6, hpi, he0, he1, he2, he3, kr, kn, ho, hbl⟩ := hrel
  by_cases hh : hi = 9
  ·obtain rfl := hR2 hh
   subst hh
   clear hR1 hR2
   have cr := US kr
   have fr := VG kr 0
   have M0 := UC (block_set kr (.slice none 0 0))
   go_wp2_with fail
   try rw [Exit.noGoto_ret]
   refine bodyPost_ret (results_cell_tmp_row rfl _ _ w.heap.size 25 #[.slice none 0 0] (0, 0) _ rfl (UB M0) Tryz.underlying25 rfl (by kernel_rfl)) rfl ?_
   exact ⟨_, rfl, ⟨[], by simpa using World.ownsRow_nil _ _ _ _, by simp, by simp⟩, hbl.setCell (Nat.le_refl _) _⟩
  ·have hh8 : hi ≤ 8 := by omega
   have hh8' : (hi : Int) ≤ 8 := by omega
   obtain ⟨G, rfl⟩ : ∃ G, gk = G + 1 := ⟨gk - 1, by omega⟩
   have START : GotN l R w hi ei (7 - n.length) (.int .i64 pi) (.int .i64 ei) wr := ⟨n, pi, f, o, rfl, rfl, by omega, fun _ => hR1 hh8, by omega, hpi, kr, kn, ho, hbl⟩
   have HST := UC START
   clear START kr kn ho hbl hR1 hR2
   have HE := UC (And.intro he2 he3)
   clear he2 he3
   go_wp2_with fail
   go_loopg [1, 7] (7 - n.length) (fun g p e wr => GotN l R w hi ei g p e wr)
   case atStart => exact UB HST
   case round =>
    clear HST hn6
    obtain ⟨n, pi, f, o, rfl, rfl, hgn, hR1, hR2, hpi, kr, kn, ho, hbl⟩ := hrel
    by_cases hn7 : n.length = 7
    ·obtain rfl := hR2 hn7
     obtain ⟨oa, oc, rfl, _⟩ := ho.hasL.form
     rw [hn7] at kn
     have cn := US kn
     have cr := US kr
     have fr := VG kr 0
     have M0 := UC (block_set kr (.slice none 0 0))
     clear hn7 hR1 hR2 ho kn kr
     go_wp2_with fail
     try rw [Exit.noGoto_ret]
     refine bodyPost_ret (results_cell_tmp_row rfl _ _ w.heap.size 25 #[.slice none 0 0] (0, 0) _ rfl (UB M0) Tryz.underlying25 rfl (by kernel_rfl)) rfl ?_
     exact ⟨_, rfl, ⟨[], by simpa using World.ownsRow_nil _ _ _ _, by simp, by simp⟩, hbl.setCell (Nat.le_refl _) _⟩
    ·have hn6 : n.length ≤ 6 := by omega
     obtain ⟨hR, hf⟩ := hR1 hn6
     clear hR1 hR2 hn7
     obtain ⟨f, rfl⟩ : ∃ f', f = f' + 1 := ⟨f - 1, by omega⟩
     have hn6' : (n.length : Int) ≤ 6 := by omega
     obtain ⟨oa, oc, rfl, _⟩ := ho.hasL.form
     have cn := US kn
     have OK := UC ((UB H).below hbl)
     have HO := UC ho
     clear ho
     have HP := UC (pointerGet_own pi (UB OK) hl hpi (UB hB8))
     have hpb := pointerOf_bound (UB hB8) pi
     have EP := UC (fun hq => get_pointer (UB hB8) (p := pi) hq f n hi ei)
     have EN := UC (fun hq hq2 => get_none (UB hB8) (p := pi) hq hq2 f n hi ei)
     have EE := UC (fun hq hq2 => get_end (UB hB8) (p := pi) hq hq2 f n hi ei)
     have EL := UC (fun hq hq2 => get_label (UB hB8) (p := pi) hq hq2 f n hi ei)
     have HL := UC (fun (w' : World) (o : Own B 5 w' (.slice a l.length cap) l) => labelGet_own pi o hl hpi (UB hB8))
     have hlb := labelOf_bound (UB hB8) pi
     generalize (pointerOf l pi).1 = t at *
     generalize (pointerOf l pi).2 = bh at *
     generalize (labelOf l pi).1 = lab at *
     generalize (labelOf l pi).2 = nx at *
     obtain ⟨hpb1, hpb2⟩ := hpb
     obtain ⟨hlb1, hlb2⟩ := hlb
     by_cases hbh : 0 ≤ bh
     ·have HRR := UC ((UB EP hbh).symm.trans hR)
      clear hR EP EN EE EL HL
      by_cases hi0 : hi = 0
      ·have hei := (UB HE).1 hi0
       subst hi0
       subst hei
       go_wp2_with fail
       refine (UB HP).mono ?_
       rintro e w1 ⟨rfl, b1⟩
       have bb1 := UG hbl b1
       have k1 := UE b1 kr
       have kn1 := UE b1 kn
       have O1 := UC ((UB HO).below b1)
       have OK1 := UC ((UB OK).below b1)
       have z1 := b1.size
       clear kr kn cn b1 HO OK
       go_wp2_with fail
       go_roundg G
       case measure => omega
       case rel =>
        have hR := UB HRR
        rw [if_neg (by omega), if_pos (by omega)] at hR
        exact ⟨n, t, bh, 1, f, _, rfl, rfl, rfl, by omega, fun _ => ⟨hR, by omega⟩, by omega, hn6, by omega, by omega, by omega, by omega, fun _ => hbh, k1, kn1, UB O1, bb1⟩
      ·have hei := (UB HE).2 hi0
       have hi1 : ((hi : Int) == 0) = false := by rw [beq_eq_false_iff_ne]; omega
       go_wp2_with fail
       refine (UB HP).mono ?_
       rintro e w1 ⟨rfl, b1⟩
       have bb1 := UG hbl b1
       have k1 := UE b1 kr
       have kn1 := UE b1 kn
       have O1 := UC ((UB HO).below b1)
       have OK1 := UC ((UB OK).below b1)
       have z1 := b1.size
       clear kr kn cn b1 HO OK
       go_wp2_with fail
       go_roundg G
       case measure => omega
       case rel =>
        have hR := UB HRR
        rw [if_neg (show ¬ ei < 0 by omega)] at hR
        refine ⟨n, t, ei, hi + 1, f, _, rfl, rfl, by go_num, by omega, fun h8 => ?_, fun h9 => ?_, hn6, by omega, by omega, by omega, by omega, fun _ => hei, k1, kn1, UB O1, bb1⟩
        ·rw [if_neg (by omega)] at hR
         exact ⟨hR, by omega⟩
        ·rw [if_pos (by omega)] at hR
         exact hR.symm
     ·have hbh' : bh < 0 := by omega
      by_cases hnx : nx < 0
      ·obtain rfl := (UB EN hbh' hnx).symm.trans hR
       clear hR EP EN EE EL
       go_wp2_with fail
       refine (UB HP).mono ?_
       rintro e w1 ⟨rfl, b1⟩
       have bb1 := UG hbl b1
       have k1 := UE b1 kr
       have kn1 := UE b1 kn
       have O1 := UC ((UB HO).below b1)
       have OK1 := UC ((UB OK).below b1)
       have z1 := b1.size
       clear kr kn cn b1 HO OK
       go_wp2_with fail
       refine (UB HL _ (UB OK1)).mono ?_
       rintro e w2 ⟨v2, rfl, o2, b2⟩
       obtain ⟨va, vc, rfl, _⟩ := o2.lies
       have OT := UC o2
       have bb2 := UG bb1 b2
       have k2 := UE b2 k1
       have kn2 := UE b2 kn1
       have z2 := b2.size
       clear o2
       have c2 := US k2
       have f2 := VG k2 0
       have M2 := UC (block_set k2 (.slice none 0 0))
       clear k1 kn1 k2 kn2 b2
       go_wp2_with fail
       try rw [Exit.noGoto_ret]
       refine bodyPost_ret (results_cell_tmp_row rfl _ _ w.heap.size 25 #[.slice none 0 0] (0, 0) _ rfl (UB M2) Tryz.underlying25 rfl (by kernel_rfl)) rfl ?_
       exact ⟨_, rfl, ⟨[], by simpa using World.ownsRow_nil _ _ _ _, by simp, by simp⟩, bb2.setCell (Nat.le_refl _) _⟩
      ·have hnx' : 0 ≤ nx := by omega
       by_cases hla : lab.length = 0
       ·have hRE := (UB EE hnx' hla).symm.trans hR
        clear hR EP EN EE EL
        have hla' : (((lab.length : Nat) : Int) == 0) = true := by rw [hla]; rfl
        clear hla
        have HEE : (if ei < 0 then nx else ei) = (if hi = 0 then nx else ei) := by
         by_cases hi0 : hi = 0
         ·rw [if_pos hi0, if_pos (by have := (UB HE).1 hi0; omega)]
         ·rw [if_neg hi0, if_neg (by have := (UB HE).2 hi0; omega)]
        rw [HEE] at hRE
        clear HEE
        cases hok : nameOk n with
        | false =>
         rw [hok, if_neg (by simp)] at hRE
         obtain rfl := hRE
         have hN := fun (x : Int) (w : World) (h : HasL w (.slice oa n.length oc) n) => nameGot_has x h
         simp only [hok, Bool.false_eq_true, if_false] at hN
         have NG := UC hN
         clear hN hok
         by_cases hi0 : ((hi : Int) == 0) = true
         all_goals
          try (have hi1 : ((hi : Int) == 0) = false := by simpa using hi0)
          go_wp2_with fail
          refine (UB HP).mono ?_
          rintro e w1 ⟨rfl, b1⟩
          have bb1 := UG hbl b1
          have k1 := UE b1 kr
          have kn1 := UE b1 kn
          have O1 := UC ((UB HO).below b1)
          have OK1 := UC ((UB OK).below b1)
          have z1 := b1.size
          clear kr kn cn b1 HO OK
          go_wp2_with fail
          refine (UB HL _ (UB OK1)).mono ?_
          rintro e w2 ⟨v2, rfl, o2, b2⟩
          obtain ⟨va, vc, rfl, _⟩ := o2.lies
          have OT := UC o2
          have bb2 := UG bb1 b2
          have k2 := UE b2 k1
          have kn2 := UE b2 kn1
          have z2 := b2.size
          clear o2
          have cn2 := US kn2
          have O2 := UC ((UB O1).below b2)
          clear kn1 k1 b2
          go_wp2_with fail
          refine (UB NG _ _ (UB O2).hasL).mono ?_
          rintro e w3 ⟨rfl, b3⟩
          have k3 := UE b3 k2
          have c3 := US k3
          have f3 := VG k3 0
          have M3 := UC (block_set k3 (.slice none 0 0))
          have bb3 := UG bb2 b3
          clear k2 kn2 cn2 k3 b3
          go_wp2_with fail
          try rw [Exit.noGoto_ret]
          refine bodyPost_ret (results_cell_tmp_row rfl _ _ w.heap.size 25 #[.slice none 0 0] (0, 0) _ rfl (UB M3) Tryz.underlying25 rfl (by kernel_rfl)) rfl ?_
          exact ⟨_, rfl, ⟨[], by simpa using World.ownsRow_nil _ _ _ _, by simp, by simp⟩, bb3.setCell (Nat.le_refl _) _⟩
        | true =>
         rw [hok, if_pos rfl] at hRE
         have hN := fun (x : Int) (w : World) (h : HasL w (.slice oa n.length oc) n) => nameGot_has x h
         simp only [hok, if_true] at hN
         have NG := UC hN
         clear hN hok
         by_cases hi0 : hi = 0
         all_goals
          first | rw [if_pos hi0] at hRE | rw [if_neg hi0] at hRE
          obtain rfl := hRE
          first
           | (have hi1 : ((hi : Int) == 0) = true := by rw [hi0]; rfl)
           | (have hi1 : ((hi : Int) == 0) = false := by rw [beq_eq_false_iff_ne]; omega)
          clear hi0
          go_wp2_with fail
          refine (UB HP).mono ?_
          rintro e w1 ⟨rfl, b1⟩
          have bb1 := UG hbl b1
          have k1 := UE b1 kr
          have kn1 := UE b1 kn
          have O1 := UC ((UB HO).below b1)
          have OK1 := UC ((UB OK).below b1)
          have z1 := b1.size
          clear kr kn cn b1 HO OK
          go_wp2_with fail
          refine (UB HL _ (UB OK1)).mono ?_
          rintro e w2 ⟨v2, rfl, o2, b2⟩
          obtain ⟨va, vc, rfl, _⟩ := o2.lies
          have OT := UC o2
          have bb2 := UG bb1 b2
          have k2 := UE b2 k1
          have kn2 := UE b2 kn1
          have z2 := b2.size
          clear o2
          have cn2 := US kn2
          have O2 := UC ((UB O1).below b2)
          clear kn1 k1 b2
          go_wp2_with fail
          refine (UB NG _ _ (UB O2).hasL).mono ?_
          rintro e w3 ⟨rfl, b3⟩
          have k3 := UE b3 k2
          have c3 := US k3
          have f3 := VG k3 0
          have M3 := UC (block_set k3 (.slice oa n.length oc))
          have bb3 := UG bb2 b3
          have z3 := VC k3
          have O3 := UC ((UB O2).below b3)
          clear k2 kn2 cn2 k3 b3
          go_wp2_with fail
          try rw [Exit.noGoto_ret]
          refine bodyPost_ret (results_cell_tmp_row rfl _ _ w.heap.size 25 #[.slice oa n.length oc] (0, 0) _ rfl (UB M3) Tryz.underlying25 rfl (by kernel_rfl)) rfl ?_
          exact ⟨_, rfl, ((UB O3).kept (grown_setCell _ _ _) (by show w.heap.size < _; omega)).mono (by omega), bb3.setCell (Nat.le_refl _) _⟩
       ·have HRR := UC ((UB EL hnx' hla).symm.trans hR)
        clear hR EP EN EE EL
        have hla' : (((lab.length : Nat) : Int) == 0) = false := by rw [beq_eq_false_iff_ne]; omega
        clear hla
        go_wp2_with fail
        refine (UB HP).mono ?_
        rintro e w1 ⟨rfl, b1⟩
        have bb1 := UG hbl b1
        have k1 := UE b1 kr
        have kn1 := UE b1 kn
        have O1 := UC ((UB HO).below b1)
        have OK1 := UC ((UB OK).below b1)
        have z1 := b1.size
        clear kr kn cn b1 HO OK
        go_wp2_with fail
        refine (UB HL _ (UB OK1)).mono ?_
        rintro e w2 ⟨v2, rfl, o2, b2⟩
        obtain ⟨va, vc, rfl, _⟩ := o2.lies
        have OT := UC o2
        have bb2 := UG bb1 b2
        have k2 := UE b2 k1
        have kn2 := UE b2 kn1
        have z2 := b2.size
        clear o2
        have cn2 := US kn2
        have zn := VC kn1
        have B2 := UC b2
        obtain ⟨vs, hvs, hva, hvd⟩ := UB O1
        have hvl : vs.length = n.length := by have := hvs.1; simpa using this
        have HVS := UC hvs
        have HVA := UC hva
        have HVD := UC hvd
        have KN2 := UC kn2
        have K1 := UC k1
        clear hvs hva hvd b2 kn2 k2 k1 kn1
        go_wp2_with (at_builtin; refine append_row rfl _ _ 23 22 rfl Tryz.underlying23 info_sl6 (w.heap.size + 2) (.slice oa n.length oc) _ vs [.slice va lab.length vc] rfl rfl (by rw [hvl]; exact World.ownsRow.alloc (ownsRow_kept' (UB HVS) (UB B2)) _) (one_more w2 22 _) (by intro y hy; simp at hy; subst hy; rfl) (by rw [hvl]; simp; omega) (by have := (UB B2).size; simp; omega) ?_)
        intro v3 w3 o3 g3
        obtain ⟨p3, k3, y3⟩ := snoc_step g3 o3 (by omega) (UB HVS) (UB HVA) (UB HVD) ((UB B2).alloc (UB B2).size _) ((UB OT).alloc _) (by omega) (by decide) (UE (UI _) (UB KN2)) (by decide)
        obtain ⟨v3a, v3c, rfl, _⟩ := p3.hasL.form
        have co3 := US k3
        have fo3 := VG k3 0
        have K3 := UC k3
        clear g3 o3 k3
        go_wp2_with fail
        obtain ⟨g', rfl⟩ : ∃ g', gk = g' + 1 := ⟨gk - 1, by omega⟩
        go_roundg g'
        case measure => omega
        case rel =>
         have hR := UB HRR
         have k0 := (y3.block w.heap.size (by omega)).trans (UB K1)
         simp only [List.length_append, List.length_cons, List.length_nil] at p3
         refine ⟨n ++ [lab], nx, f, _, rfl, rfl, by simp; omega, fun h6 => ?_, fun h7 => ?_, by omega, block_other k0 (by omega) 0 _, block_set (UB K3) _, ?_, (bb1.trans (y3.mono (by omega))).setCell (by show w.heap.size ≤ w.heap.size + 1; omega) _⟩
         ·simp at h6
          rw [if_neg (by omega)] at hR
          exact ⟨hR, by simp; omega⟩
         ·simp at h7
          rw [if_pos (by omega)] at hR
          exact hR.symm
         ·exact p3.kept (grown_setCell _ _ _) (by show w.heap.size + 1 < _; omega)
set_option maxHeartbeats 800000
set_option maxRecDepth 100000

theorem implGet32_no (a : Option Addr) (len cap : Nat) (at' : Int) (w : World) (hl : len ≤ 2097152) (hat : at' ≤ 9223372036854775807) (h : at' < 0 ∨ (len : Int) - 4 < at') :
  Calls Tryz.prog 58 #[.slice a len cap, .int .i64 at'] w fun e w' => e = .returned (.tuple #[.int .i64 0, .int .i64 (-1)]) ∧ w = w' := by
 go_enter Tryz.func58, Tryz.ntmps58
 go_wp2_with (go_at_call 75; refine (allThere_no _ _ _ _ _ _ hl hat (by omega)).mono ?_; rintro e w' ⟨rfl, rfl⟩)
 go_ret2
 exact ⟨rfl, rfl⟩

theorem implGet32_yes (a : Option Addr) (cap : Nat) (l : List Int) (i : Nat) (w : World) (hl : l.length ≤ 2097152) (h : Lies w a l) (hi : i + 4 ≤ l.length) (hb : ∀ k, 0 ≤ l.getD k 0 ∧ l.getD k 0 ≤ 255) :
  Calls Tryz.prog 58 #[.slice a l.length cap, .int .i64 i] w fun e w' => e = .returned (.tuple #[.int .i64 (l.getD i 0 * 16777216 + l.getD (i + 1) 0 * 65536 + l.getD (i + 2) 0 * 256 + l.getD (i + 3) 0), .int .i64 (i + 4)]) ∧ ∃ n, w' = w.drewN n := by
 obtain ⟨b, off, rfl, c0, c1, c2, c3⟩ := four_there h hi
 have h0 := hb i
 have h1 := hb (i + 1)
 have h2 := hb (i + 2)
 have h3 := hb (i + 3)
 generalize l.getD i 0 = x0 at *
 generalize l.getD (i + 1) 0 = x1 at *
 generalize l.getD (i + 2) 0 = x2 at *
 generalize l.getD (i + 3) 0 = x3 at *
 clear hb
 generalize hn : l.length = n at *
 have HN := UC hn
 clear hn
 go_enter Tryz.func58, Tryz.ntmps58
 go_wp2_with (go_at_call 75; refine (allThere_yes _ _ _ _ _ _ hl (by omega) (by omega) (by omega)).mono ?_; rintro e w' ⟨rfl, rfl⟩)
 go_quiet (fail)
 go_wp2
 go_quiet (fail)
 go_wp2
 go_ret2
 refine ⟨ret2_int ?_ rfl, _, rfl⟩
 rw [or_24 x0 x1 (by omega) (by omega) (by omega) (by omega), or_8 x2 x3 (by omega) (by omega) (by omega) (by omega), show x0 * 16777216 + x1 * 65536 = (x0 * 256 + x1) * 65536 from by omega,
  or_16 _ _ (by omega) (by omega) (by omega) (by omega)]
 omega

theorem implGet32_any {B : Nat} {v : Value} {l : List Int} (p : Int) {w : World} (h : Own B 5 w v l) (hl : l.length ≤ 2097152) (hp' : p ≤ 9223372036854775807) (hb : ∀ k, 0 ≤ l.getD k 0 ∧ l.getD k 0 ≤ 255) :
  Calls Tryz.prog 58 #[v, .int .i64 p] w fun e w' => e = .returned (.tuple #[.int .i64 (get32 l p).1, .int .i64 (get32 l p).2]) ∧ Below w.heap.size w w' := by
 obtain ⟨a, cap, rfl, hL⟩ := h.lies
 by_cases hp : 0 ≤ p ∧ p + 4 ≤ l.length
 ·obtain ⟨i, rfl⟩ := Int.eq_ofNat_of_zero_le hp.1
  rw [get32_yes hp]
  refine (implGet32_yes a cap l i w hl hL (by omega) hb).mono ?_
  rintro e w' ⟨rfl, n, rfl⟩
  exact ⟨rfl, below_draws n⟩
 ·have e : get32 l p = (0, -1) := by unfold get32; rw [if_neg hp]
  rw [e]
  exact (implGet32_no a l.length cap p w hl hp' (by omega)).mono fun e w' ⟨he, hw⟩ => ⟨he, hw ▸ Below.refl _ _⟩
end Go.Proofs.YthmihglfffeedaaGreatDoor
