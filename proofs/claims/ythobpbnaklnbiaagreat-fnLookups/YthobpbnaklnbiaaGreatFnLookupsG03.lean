/-
  Contracts of the specification's NameRead. Plain facts: the bytes of a text, as numbers, and a slice that is made of it. No program is named here. Contracts of the specification's l2of: a name out of a text.
-/
import Derived.Test.YthobpbnaklnbiaaGreatFnLookupsG01
import Derived.Test.YthobpbnaklnbiaaGreatFnLookupsG02
import Derived.Deep.LoopGhost
import Derived.Test.YthobpbnaklnbiaaGreatFnLookupsG00
import Derived.Laws.IdiomStrings
namespace Go.Proofs.YthobpbnaklnbiaaGreat
open Go.RowKit
set_option linter.unusedVariables false

theorem info_sl7 : (Tryz.prog.info? 22).map (fun i => (i.zero, i.size, i.bytes)) = some (some (.slice none 0 0), 1, 24) := by kernel_rfl

def GotR (l : List Int) (N : List (List Int)) (w : World) (g : Nat) (s i : Value) (wr : World) : Prop :=
 ∃ (n : List (List Int)) (cur : List Int) (k E : Nat) (o : Value), i = .int .i64 k ∧ g + k = l.length + 2 ∧ ((k ≤ l.length ∧ n ++ rest (decide (0 < l.length)) (l.drop k) cur = N) ∨ (k = l.length + 1 ∧ n = N)) ∧ n.length ≤ k ∧ cur.length ≤ k ∧ Bytes8 cur ∧
  w.heap.size + 2 ≤ E ∧ E ≤ wr.heap.size ∧ wr.heap[w.heap.size]? = some (.cells #[.slice none 0 0] 25) ∧ wr.heap[w.heap.size + 1]? = some (.cells #[o] 25) ∧
  OwnN (w.heap.size + 2) E 22 5 wr o n ∧ Own E 5 wr s cur ∧ Below w.heap.size w wr

theorem ownN_low {B E : Nat} {el eb : TypeId} {w w' : World} {v : Value} {n : List (List Int)} (h : OwnN B E el eb w v n) (hb : Below E w w') : OwnN B E el eb w' v n :=
 h.outside (B := E) (D := w.heap.size) ⟨hb.os, hb.tape, hb.output, hb.size, fun k hk hn => hb.block k (by omega)⟩ (.inl (Nat.le_refl _))

set_option maxHeartbeats 8000000 in
set_option maxRecDepth 100000 in
theorem specNameRead_has {v : Value} {l : List Int} {w : World} (h : Has w v l) (hl : l.length ≤ 1048576) (hb : Bytes8 l) :
  Calls Tryz.prog 69 #[v] w fun e w' => ∃ v', e = .returned (.tuple #[.agg #[v'], .bool (nameRead l).2]) ∧ OwnL w.heap.size 22 5 w' v' (nameRead l).1 ∧ Below w.heap.size w w' := by
 have hs : ((strOfNums l).toList == (strOfNums [46]).toList) = decide (l = [46]) := str_eq l [46] (fun c hc => by
  obtain ⟨i, hi, rfl⟩ := List.getElem_of_mem hc
  have := hb i
  rwa [List.getD_eq_getElem?_getD, List.getElem?_eq_getElem hi] at this) (fun c hc => by simp at hc; omega)
 have hs46 : (strOfNums [46]).toList = [46] := by decide +kernel
 rw [hs46] at hs
 have bA := UI (w := w) (.cells #[.slice none 0 0] 25)
 have kA := heap_alloc_new w (.cells #[.slice none 0 0] 25)
 have cA := conv_has (h.below bA)
 obtain ⟨a, cap, rfl, hcl⟩ := h.form
 by_cases h1 : l = [46]
 ·have e1 : nameRead l = ([], true) := by unfold nameRead; rw [if_pos h1]
  rw [e1]
  rw [decide_eq_true h1] at hs
  clear h1 e1 hs46
  have c0 := US kA
  have f0 := VG kA 0
  have M0 := UC kA
  go_enter Tryz.func69, Tryz.ntmps69
  go_wp2_with fail
  refine bodyPost_ret (results_cell_tmp_row rfl _ _ w.heap.size 25 #[.slice none 0 0] (0, 0) _ rfl (UB M0) Tryz.underlying25 rfl (by kernel_rfl)) rfl ?_
  exact ⟨_, rfl, ⟨[], by simpa using World.ownsRow_nil _ _ _ _, by simp, by simp⟩, bA⟩
 ·have e1 : nameRead l = if nameOk (labelsIn l) = true then (labelsIn l, true) else ([], false) := by unfold nameRead; rw [if_neg h1]
  rw [e1]
  rw [decide_eq_false h1] at hs
  have hN : labelsIn l = rest (decide (0 < l.length)) l [] := rfl
  generalize labelsIn l = N at *
  have HN := UC hN
  generalize hRes : (if nameOk N = true then (N, true) else ([], false)) = Res
  have HRES := UC hRes
  clear hRes
  have hB8 := UC hb
  have H := UC h
  clear h1 e1 hs46 hN hb h hcl
  obtain ⟨hsz, k0, r0⟩ := box2 w (.cells #[.slice none 0 0] 25) #[.slice none 0 0] 25
  have b0 := below2 w (.cells #[.slice none 0 0] 25) (.cells #[.slice none 0 0] 25)
  go_enter Tryz.func69, Tryz.ntmps69
  go_wp2
  clear cA kA bA hs
  generalize (w.alloc (.cells #[.slice none 0 0] 25)).alloc (.cells #[.slice none 0 0] 25) = W at *
  go_loopg [5, 6] (l.length + 2) (fun g s i wr => GotR l N w g s i wr)
  case atStart => exact ⟨[], [], 0, w.heap.size + 2, .slice none 0 0, rfl, by omega, .inl ⟨Nat.zero_le _, by rw [List.nil_append, List.drop_zero]; exact (UB HN).symm⟩, by simp, by simp, bytes8_nil, Nat.le_refl _, by omega, k0, r0, ⟨[], by simpa using World.ownsRow_nil _ _ _ _, by simp, by simp, by simp [Value.ownBlock], by simp⟩, World.ownsRow_nil _ _ _ _, b0⟩
  case round =>
   clear k0 r0 b0 HN hsz
   obtain ⟨n, cur, k, E, o, rfl, hg, hR, hnk, hck, hc8, hE, hEw, kr, kn, ho, hcu, hbl⟩ := hrel
   obtain ⟨oa, oc, rfl, _⟩ := ho.hasL.form
   obtain ⟨ca, cc, rfl, _⟩ := hcu.lies
   have OK := UC ((UB H).below hbl)
   have HC8 := UC hc8
   have HO := UC ho
   have HCU := UC hcu
   clear hc8 ho hcu
   by_cases hk : k = l.length + 1
   ·have hN : n = N := by
     rcases hR with ⟨q, _⟩ | ⟨_, q⟩
     ·omega
     ·exact q
    subst hN
    have hk' : ¬ (k : Int) ≤ (l.length : Int) := by omega
    clear hR hk
    have cn := US kn
    have hRes := UB HRES
    cases hok : nameOk n with
    | false =>
     rw [hok, if_neg (by simp)] at hRes
     subst hRes
     have HNO := VO (UB HO).hasL
     rw [hok] at HNO
     have HNO := UC HNO
     clear hok
     go_wp2_with fail
     refine (UB HNO).mono ?_
     rintro e w1 ⟨rfl, b1⟩
     have k1 := UE b1 kr
     have c1 := US k1
     have f1 := VG k1 0
     have M1 := UC (block_set k1 (.slice none 0 0))
     have bb1 := UG hbl b1
     clear kr kn cn k1 b1
     go_wp2_with fail
     refine bodyPost_ret (results_cell_tmp_row rfl _ _ w.heap.size 25 #[.slice none 0 0] (0, 0) _ rfl (UB M1) Tryz.underlying25 rfl (by kernel_rfl)) rfl ?_
     exact ⟨_, rfl, ⟨[], by simpa using World.ownsRow_nil _ _ _ _, by simp, by simp⟩, bb1.setCell (Nat.le_refl _) _⟩
    | true =>
     rw [hok, if_pos rfl] at hRes
     subst hRes
     have HNO := VO (UB HO).hasL
     rw [hok] at HNO
     have HNO := UC HNO
     clear hok
     go_wp2_with fail
     refine (UB HNO).mono ?_
     rintro e w1 ⟨rfl, b1⟩
     have k1 := UE b1 kr
     have c1 := US k1
     have cn1 := US (UE b1 kn)
     have f1 := VG k1 0
     have M1 := UC (block_set k1 (.slice oa n.length oc))
     have bb1 := UG hbl b1
     have O1 := UC ((UB HO).ownL.below b1)
     clear kr kn cn k1 b1
     go_wp2_with fail
     refine bodyPost_ret (results_cell_tmp_row rfl _ _ w.heap.size 25 #[.slice oa n.length oc] (0, 0) _ rfl (UB M1) Tryz.underlying25 rfl (by kernel_rfl)) rfl ?_
     exact ⟨_, rfl, ((UB O1).kept (grown_setCell _ _ _) (by show w.heap.size < _; omega)).mono (by omega), bb1.setCell (Nat.le_refl _) _⟩
   ·obtain ⟨hkl, hR⟩ : k ≤ l.length ∧ n ++ rest (decide (0 < l.length)) (l.drop k) cur = N := by
     rcases hR with q | ⟨q, _⟩
     ·exact q
     ·omega
    clear hk
    have hkl' : (k : Int) ≤ (l.length : Int) := by omega
    obtain ⟨G, rfl⟩ : ∃ G, gk = G + 1 := ⟨gk - 1, by omega⟩
    by_cases hlt : k < l.length
    ·have hlt' : (k : Int) < (l.length : Int) := by omega
     obtain ⟨a', cap', e', hLi⟩ := (UB OK).form
     obtain ⟨rfl, rfl⟩ : a = a' ∧ cap = cap' := by simpa using e'
     obtain ⟨b, off, rfl, hbk, hcx⟩ := hLi.here hlt
     clear e' hLi
     have hx := UB hB8 k
     by_cases hx46 : l.getD k 0 = 46
     ·rw [rest_dot hlt hx46] at hR
      rw [hx46] at hcx
      clear hx46 hx
      have hkne : ((k : Int) == (l.length : Int)) = false := by rw [beq_eq_false_iff_ne]; omega
      have hod := (UB HO).ownL.below (UX (w := wr))
      obtain ⟨vs, hvs, hva, hvd⟩ := hod
      have hvl : vs.length = n.length := by have := hvs.1; simpa using this
      have cn := US kn
      have knd := UE (UX (w := wr)) kn
      have krd := UE (UX (w := wr)) kr
      have bd := UG hbl (UX (w := wr))
      have cod := US knd
      have HUd := UC ((UB HCU).below (UX (w := wr)))
      have HVS := UC hvs
      have HVA := UC hva
      have HVD := UC hvd
      have zn := VC kn
      have zb : w.heap.size + 2 ≤ wr.drew.heap.size := by show w.heap.size + 2 ≤ wr.heap.size; omega
      have KND := UC knd
      have KRD := UC krd
      have ca0 : ∀ o, (wr.alloc o).cell? ⟨w.heap.size + 1, 0, none⟩ = some (.slice oa n.length oc) := fun o => US (UE (UI o) kn)
      have hcl5 : cur.length ≤ 1048576 := by omega
      have SL := UC (fun (w : World) (h : Own E 5 w (.slice ca cur.length cc) cur) => specLower_any h hcl5 (UB HC8))
      generalize hlw : lowered cur cur.length = lw at *
      have HLW := UC hlw
      have HRR := UC hR
      clear hlw knd krd kn kr hva hvd hvs hR
      generalize hLN : l.length = L at *
      have HLN := UC hLN
      clear hLN
      go_wp2_with fail
      go_region_law (first
       | (refine step_append_row rfl (.tmp 49) (.tmp 52) 23 22 rfl Tryz.underlying23 info_sl7 (w.heap.size + 2) (.slice oa n.length oc) _ vs [.slice u2a lw.length u2c] (by simp [Act.eval]) (by simp [Act.eval]) (by rw [hvl]; exact World.ownsRow.alloc (ownsRow_kept' (UB HVS) (UB B2)) _) (one_more w2 22 _) (by intro y hy; simp at hy; subst hy; rfl) (by rw [hvl]; simp; omega) (by have := (UB B2).size; simp; omega) ?_; intro v3 w3 o3 g3; obtain ⟨p3, k3, y3⟩ := snoc_step g3 o3 (by simp [hvl]) (UB HVS) (UB HVA) (UB HVD) ((UB B2).alloc (UB B2).size _) ((UB OU).alloc _) zb (by decide) (UE (UI _) (UE (UB B2) (UB KND))) (by decide); obtain ⟨v3a, v3c, rfl, _⟩ := p3.hasL.form; have co3 := US k3; have fo3 := VG k3 0)
       | (go_simp; go_at_call 100; refine (UB SL _ (UB HUd)).mono ?_; rintro e w2 ⟨u2, rfl, ou, b2⟩; obtain ⟨u2a, u2c, rfl, _⟩ := ou.lies; have OU := UC ou; have B2 := UC b2; have co2 := US (UE b2 (UB KND)); have ca2 : ∀ o, (w2.alloc o).cell? ⟨w.heap.size + 1, 0, none⟩ = some (.slice oa n.length oc) := (fun o => US (UE (UI o) (UE b2 (UB KND)))); clear ou b2))
      all_goals
       go_wp2_with fail
       go_roundg G
       case measure => omega
       case rel =>
        have k1 := (y3.block w.heap.size (by omega)).trans (UB KRD)
        simp only [List.length_append, List.length_cons, List.length_nil] at p3
        have hLN := UB HLN
        subst hLN
        have hR := UB HRR
        have z3 := VC k3
        refine ⟨n ++ [lw], [], k + 1, _, _, by go_num, by omega, .inl ⟨by omega, by rw [List.append_assoc]; exact hR⟩, by simp; omega, by simp, bytes8_nil, ?_, Nat.le_refl _, block_other k1 (by omega) 0 _, block_set k3 _, OwnL.here (p3.kept (grown_setCell _ _ _) (by show w.heap.size + 1 < _; omega)), World.ownsRow_nil _ _ _ _, (bd.trans (y3.mono (by omega))).setCell (by show w.heap.size ≤ w.heap.size + 1; omega) _⟩
        have := (grown_setCell w3 ⟨w.heap.size + 1, 0, none⟩ (.slice v3a (n.length + 1) v3c)).size
        omega
     ·rw [rest_label hlt hx46] at hR
      generalize l.getD k 0 = x at *
      have hx46' : (x == 46) = false := by rw [beq_eq_false_iff_ne]; exact hx46
      have HRR := UC hR
      clear hR hx46
      generalize hLN : l.length = L at *
      have HLN := UC hLN
      clear hLN
      have KN := UC kn
      have KR := UC kr
      clear kn kr
      have hca : ∀ o, (wr.alloc o).cell? ⟨b, off + k, none⟩ = some (.int .u8 x) := fun o => ((UI o).cell (p := ⟨b, off + k, none⟩) hbk).trans hcx
      go_wp2_with (at_builtin; refine append_bytes rfl _ _ 22 5 rfl Tryz.underlying22 VJ E (.slice ca cur.length cc) _ cur [x] rfl rfl ((UB HCU).alloc _) (own_lit wr 0 5 [x] (Nat.zero_le _) (by simp [maxLen])).reads (by simp; omega) (by simp; omega) ?_)
      intro v2 w2 o2 g2
      have b2 : Below E wr w2 := ((Below.refl _ _).alloc hEw _).grown g2 (by simp; omega) (fun q hq => ((UB HCU).lt q hq).1)
      clear g2
      go_wp2_with fail
      go_roundg G
      case measure => omega
      case rel =>
       have hLN := UB HLN
       subst hLN
       exact ⟨n, cur ++ [x], k + 1, E, _, by go_num, by omega, .inl ⟨by omega, UB HRR⟩, by omega, by simp; omega, bytes8_snoc (UB HC8) hx.1 hx.2, hE, Nat.le_trans hEw b2.size, (b2.block w.heap.size (by omega)).trans (UB KR), (b2.block (w.heap.size + 1) (by omega)).trans (UB KN), ownN_low (UB HO) b2, o2, hbl.trans (b2.mono (by omega))⟩
    ·obtain rfl : k = l.length := by omega
     rw [rest_end] at hR
     by_cases hce : cur.length = 0 ∧ decide (0 < l.length) = true
     ·rw [if_pos hce, List.append_nil] at hR
      obtain ⟨hc0, hl0⟩ := hce
      subst hR
      have hl0' : (0 : Int) < (l.length : Int) := by simp at hl0; omega
      obtain rfl : cur = [] := List.eq_nil_of_length_eq_zero hc0
      simp only [List.length_nil] at *
      clear hc0 hl0
      have cn := US kn
      have hRes := UB HRES
      generalize hLN : l.length = L at *
      have HLN := UC hLN
      clear hLN
      cases hok : nameOk n with
      | false =>
       rw [hok, if_neg (by simp)] at hRes
       subst hRes
       have HNO := VO (UB HO).hasL
       rw [hok] at HNO
       have HNO := UC HNO
       clear hok
       go_wp2_with fail
       refine (UB HNO).mono ?_
       rintro e w1 ⟨rfl, b1⟩
       have k1 := UE b1 kr
       have c1 := US k1
       have f1 := VG k1 0
       have M1 := UC (block_set k1 (.slice none 0 0))
       have bb1 := UG hbl b1
       clear kr kn cn k1 b1
       go_wp2_with fail
       refine bodyPost_ret (results_cell_tmp_row rfl _ _ w.heap.size 25 #[.slice none 0 0] (0, 0) _ rfl (UB M1) Tryz.underlying25 rfl (by kernel_rfl)) rfl ?_
       exact ⟨_, rfl, ⟨[], by simpa using World.ownsRow_nil _ _ _ _, by simp, by simp⟩, bb1.setCell (Nat.le_refl _) _⟩
      | true =>
       rw [hok, if_pos rfl] at hRes
       subst hRes
       have HNO := VO (UB HO).hasL
       rw [hok] at HNO
       have HNO := UC HNO
       clear hok
       go_wp2_with fail
       refine (UB HNO).mono ?_
       rintro e w1 ⟨rfl, b1⟩
       have k1 := UE b1 kr
       have c1 := US k1
       have cn1 := US (UE b1 kn)
       have f1 := VG k1 0
       have M1 := UC (block_set k1 (.slice oa n.length oc))
       have bb1 := UG hbl b1
       have O1 := UC ((UB HO).ownL.below b1)
       clear kr kn cn k1 b1
       go_wp2_with fail
       refine bodyPost_ret (results_cell_tmp_row rfl _ _ w.heap.size 25 #[.slice oa n.length oc] (0, 0) _ rfl (UB M1) Tryz.underlying25 rfl (by kernel_rfl)) rfl ?_
       exact ⟨_, rfl, ((UB O1).kept (grown_setCell _ _ _) (by show w.heap.size < _; omega)).mono (by omega), bb1.setCell (Nat.le_refl _) _⟩
     ·rw [if_neg hce] at hR
      by_cases hc0 : cur.length = 0
      ·have hcq : ((cur.length : Int) == 0) = true := by rw [beq_iff_eq]; omega
       have hl0 : l.length = 0 := by
        by_cases q : l.length = 0
        ·exact q
        ·exact absurd ⟨hc0, decide_eq_true (by omega)⟩ hce
       have hl0' : ¬ (0 : Int) < (l.length : Int) := by omega
       clear hce hl0 hc0
       have hod := (UB HO).ownL.below (UX (w := wr))
       obtain ⟨vs, hvs, hva, hvd⟩ := hod
       have hvl : vs.length = n.length := by have := hvs.1; simpa using this
       have cn := US kn
       have knd := UE (UX (w := wr)) kn
       have krd := UE (UX (w := wr)) kr
       have bd := UG hbl (UX (w := wr))
       have cod := US knd
       have HUd := UC ((UB HCU).below (UX (w := wr)))
       have HVS := UC hvs
       have HVA := UC hva
       have HVD := UC hvd
       have zn := VC kn
       have zb : w.heap.size + 2 ≤ wr.drew.heap.size := by show w.heap.size + 2 ≤ wr.heap.size; omega
       have KND := UC knd
       have KRD := UC krd
       have ca0 : ∀ o, (wr.alloc o).cell? ⟨w.heap.size + 1, 0, none⟩ = some (.slice oa n.length oc) := fun o => US (UE (UI o) kn)
       have hcl5 : cur.length ≤ 1048576 := by omega
       have SL := UC (fun (w : World) (h : Own E 5 w (.slice ca cur.length cc) cur) => specLower_any h hcl5 (UB HC8))
       generalize hlw : lowered cur cur.length = lw at *
       have HLW := UC hlw
       have HRR := UC hR
       clear hlw knd krd kn kr hva hvd hvs hR
       generalize hLN : l.length = L at *
       have HLN := UC hLN
       clear hLN
       go_wp2_with fail
       go_region_law (first
        | (refine step_append_row rfl (.tmp 49) (.tmp 52) 23 22 rfl Tryz.underlying23 info_sl7 (w.heap.size + 2) (.slice oa n.length oc) _ vs [.slice u2a lw.length u2c] (by simp [Act.eval]) (by simp [Act.eval]) (by rw [hvl]; exact World.ownsRow.alloc (ownsRow_kept' (UB HVS) (UB B2)) _) (one_more w2 22 _) (by intro y hy; simp at hy; subst hy; rfl) (by rw [hvl]; simp; omega) (by have := (UB B2).size; simp; omega) ?_; intro v3 w3 o3 g3; obtain ⟨p3, k3, y3⟩ := snoc_step g3 o3 (by simp [hvl]) (UB HVS) (UB HVA) (UB HVD) ((UB B2).alloc (UB B2).size _) ((UB OU).alloc _) zb (by decide) (UE (UI _) (UE (UB B2) (UB KND))) (by decide); obtain ⟨v3a, v3c, rfl, _⟩ := p3.hasL.form; have co3 := US k3; have fo3 := VG k3 0)
        | (go_simp; go_at_call 100; refine (UB SL _ (UB HUd)).mono ?_; rintro e w2 ⟨u2, rfl, ou, b2⟩; obtain ⟨u2a, u2c, rfl, _⟩ := ou.lies; have OU := UC ou; have B2 := UC b2; have co2 := US (UE b2 (UB KND)); have ca2 : ∀ o, (w2.alloc o).cell? ⟨w.heap.size + 1, 0, none⟩ = some (.slice oa n.length oc) := (fun o => US (UE (UI o) (UE b2 (UB KND)))); clear ou b2))
       all_goals
        go_wp2_with fail
        go_roundg G
        case measure => omega
        case rel =>
         have k1 := (y3.block w.heap.size (by omega)).trans (UB KRD)
         simp only [List.length_append, List.length_cons, List.length_nil] at p3
         have hLN := UB HLN
         subst hLN
         have hR := UB HRR
         have z3 := VC k3
         refine ⟨n ++ [lw], [], l.length + 1, _, _, by go_num, by omega, .inr ⟨rfl, hR⟩, by simp; omega, by simp, bytes8_nil, ?_, Nat.le_refl _, block_other k1 (by omega) 0 _, block_set k3 _, OwnL.here (p3.kept (grown_setCell _ _ _) (by show w.heap.size + 1 < _; omega)), World.ownsRow_nil _ _ _ _, (bd.trans (y3.mono (by omega))).setCell (by show w.heap.size ≤ w.heap.size + 1; omega) _⟩
         have := (grown_setCell w3 ⟨w.heap.size + 1, 0, none⟩ (.slice v3a (n.length + 1) v3c)).size
         omega
      ·have hcq : ((cur.length : Int) == 0) = false := by rw [beq_eq_false_iff_ne]; omega
       clear hce hc0
       have hod := (UB HO).ownL.below (UX (w := wr))
       obtain ⟨vs, hvs, hva, hvd⟩ := hod
       have hvl : vs.length = n.length := by have := hvs.1; simpa using this
       have cn := US kn
       have knd := UE (UX (w := wr)) kn
       have krd := UE (UX (w := wr)) kr
       have bd := UG hbl (UX (w := wr))
       have cod := US knd
       have HUd := UC ((UB HCU).below (UX (w := wr)))
       have HVS := UC hvs
       have HVA := UC hva
       have HVD := UC hvd
       have zn := VC kn
       have zb : w.heap.size + 2 ≤ wr.drew.heap.size := by show w.heap.size + 2 ≤ wr.heap.size; omega
       have KND := UC knd
       have KRD := UC krd
       have ca0 : ∀ o, (wr.alloc o).cell? ⟨w.heap.size + 1, 0, none⟩ = some (.slice oa n.length oc) := fun o => US (UE (UI o) kn)
       have hcl5 : cur.length ≤ 1048576 := by omega
       have SL := UC (fun (w : World) (h : Own E 5 w (.slice ca cur.length cc) cur) => specLower_any h hcl5 (UB HC8))
       generalize hlw : lowered cur cur.length = lw at *
       have HLW := UC hlw
       have HRR := UC hR
       clear hlw knd krd kn kr hva hvd hvs hR
       generalize hLN : l.length = L at *
       have HLN := UC hLN
       clear hLN
       go_wp2_with fail
       go_region_law (first
        | (refine step_append_row rfl (.tmp 49) (.tmp 52) 23 22 rfl Tryz.underlying23 info_sl7 (w.heap.size + 2) (.slice oa n.length oc) _ vs [.slice u2a lw.length u2c] (by simp [Act.eval]) (by simp [Act.eval]) (by rw [hvl]; exact World.ownsRow.alloc (ownsRow_kept' (UB HVS) (UB B2)) _) (one_more w2 22 _) (by intro y hy; simp at hy; subst hy; rfl) (by rw [hvl]; simp; omega) (by have := (UB B2).size; simp; omega) ?_; intro v3 w3 o3 g3; obtain ⟨p3, k3, y3⟩ := snoc_step g3 o3 (by simp [hvl]) (UB HVS) (UB HVA) (UB HVD) ((UB B2).alloc (UB B2).size _) ((UB OU).alloc _) zb (by decide) (UE (UI _) (UE (UB B2) (UB KND))) (by decide); obtain ⟨v3a, v3c, rfl, _⟩ := p3.hasL.form; have co3 := US k3; have fo3 := VG k3 0)
        | (go_simp; go_at_call 100; refine (UB SL _ (UB HUd)).mono ?_; rintro e w2 ⟨u2, rfl, ou, b2⟩; obtain ⟨u2a, u2c, rfl, _⟩ := ou.lies; have OU := UC ou; have B2 := UC b2; have co2 := US (UE b2 (UB KND)); have ca2 : ∀ o, (w2.alloc o).cell? ⟨w.heap.size + 1, 0, none⟩ = some (.slice oa n.length oc) := (fun o => US (UE (UI o) (UE b2 (UB KND)))); clear ou b2))
       all_goals
        go_wp2_with fail
        go_roundg G
        case measure => omega
        case rel =>
         have k1 := (y3.block w.heap.size (by omega)).trans (UB KRD)
         simp only [List.length_append, List.length_cons, List.length_nil] at p3
         have hLN := UB HLN
         subst hLN
         have hR := UB HRR
         have z3 := VC k3
         refine ⟨n ++ [lw], [], l.length + 1, _, _, by go_num, by omega, .inr ⟨rfl, hR⟩, by simp; omega, by simp, bytes8_nil, ?_, Nat.le_refl _, block_other k1 (by omega) 0 _, block_set k3 _, OwnL.here (p3.kept (grown_setCell _ _ _) (by show w.heap.size + 1 < _; omega)), World.ownsRow_nil _ _ _ _, (bd.trans (y3.mono (by omega))).setCell (by show w.heap.size ≤ w.heap.size + 1; omega) _⟩
         have := (grown_setCell w3 ⟨w.heap.size + 1, 0, none⟩ (.slice v3a (n.length + 1) v3c)).size
         omega
def numsOf (s : ByteArray) : List Int := s.data.toList.map (fun b => (b.toNat : Int))
theorem numsOf_length (s : ByteArray) : (numsOf s).length = s.size := by simp [numsOf]
theorem numsOf_bytes (s : ByteArray) : Bytes8 (numsOf s) := fun k => by
 unfold numsOf
 rw [List.getD_eq_getElem?_getD, List.getElem?_map]
 cases hk : s.data.toList[k]? with
 | none => simp
 | some y =>
  have := y.toNat_lt
  simp
  omega
theorem has_str (w : World) (e : TypeId) (s : ByteArray) (c : Nat) (fz : Nat × Nat) (h1 : s.size ≤ c) (h2 : c ≤ maxLen) :
  Has (w.alloc (.cells (bytesRow s c) e fz)) (.slice (some ⟨w.heap.size, 0, none⟩) s.size c) (numsOf s) := by
 refine .inr ⟨w.heap.size, 0, c, by rw [numsOf_length], by show w.heap.size < (w.heap.push _).size; simp, by rw [numsOf_length]; exact h1, h2, fun i hi => ?_⟩
 rw [numsOf_length] at hi
 have hi' : i < s.data.size := hi
 have hh : (w.alloc (.cells (bytesRow s c) e fz)).heap[w.heap.size]? = some (.cells (bytesRow s c) e fz) := by
  show (w.heap.push _)[w.heap.size]? = _
  simp
 have hc := bytesRow_at s c i hi'
 have hn : (numsOf s).getD i 0 = (s.data[i].toNat : Int) := by
  unfold numsOf
  rw [List.getD_eq_getElem?_getD, List.getElem?_map]
  rw [Array.getElem?_toList, Array.getElem?_eq_getElem hi']
  rfl
 rw [hn, Nat.zero_add]
 unfold World.cell?
 simp only [hh]
 exact hc
set_option maxHeartbeats 1000000 in
set_option maxRecDepth 100000 in
theorem l2of_any (s : ByteArray) (w : World) (hs : s.size ≤ 1048576) :
  Calls Tryz.prog 84 #[.string s] w fun e w' => ∃ v', e = .returned (.agg #[v']) ∧ OwnL w.heap.size 22 5 w' v' (nameRead (numsOf s)).1 ∧ Below w.heap.size w w' := by
 have b0 := UI (w := w) (.cells #[.slice none 0 0] 25)
 have k0 := heap_alloc_new w (.cells #[.slice none 0 0] 25)
 have hcv := run_bytes_of_string (P := Tryz.prog) (w.alloc (.cells #[.slice none 0 0] 25)) 9 22 5 s Tryz.underlying9 Tryz.underlying22 Tryz.underlying5
 have hcap := grownCap_ge (w.alloc (.cells #[.slice none 0 0] 25)) s.size 0 5
 have hcap2 := grownCap_le_maxLen (w.alloc (.cells #[.slice none 0 0] 25)) s.size 0 5 (by unfold maxLen; omega)
 have hnl := numsOf_length s
 generalize grownCap (w.alloc (.cells #[.slice none 0 0] 25)) s.size 0 5 = C at *
 have esz : (w.alloc (.cells #[.slice none 0 0] 25)).heap.size = w.heap.size + 1 := by show (w.heap.push _).size = _; simp
 have ba := UI (w := w.alloc (.cells #[.slice none 0 0] 25)) (.cells (bytesRow s C) 5 ((bytesRow s C).size, (bytesRow s C).size + 1))
 have bd := UX (w := (w.alloc (.cells #[.slice none 0 0] 25)).alloc (.cells (bytesRow s C) 5 ((bytesRow s C).size, (bytesRow s C).size + 1)))
 have HR := specNameRead_has ((has_str (w.alloc (.cells #[.slice none 0 0] 25)) 5 s C ((bytesRow s C).size, (bytesRow s C).size + 1) hcap hcap2).below bd) (by omega) (numsOf_bytes s)
 rw [esz] at HR
 have HR := UC HR
 have K1 := UC (UE bd (UE ba k0))
 have bb1 := UG (UG b0 ba) bd
 have z0 := VC k0
 have z1 := bb1.size
 have zk := VC (UB K1)
 clear k0 b0 bd ba hcap hcap2 hnl esz
 generalize (nameRead (numsOf s)).1 = R at *
 generalize (nameRead (numsOf s)).2 = R2 at *
 go_enter Tryz.func84, Tryz.ntmps84
 go_wp2_with fail
 generalize ((w.alloc (.cells #[.slice none 0 0] 25)).alloc (.cells (bytesRow s C) 5 ((bytesRow s C).size, (bytesRow s C).size + 1))).drew = W at *
 refine (UB HR).mono ?_
 rintro e w1 ⟨v1, rfl, o1, b1⟩
 obtain ⟨oa, oc, rfl, _⟩ := o1.hasL.form
 have bm := UI (w := w1) (.cells #[.slice oa R.length oc] 25)
 have cm := US (heap_alloc_new w1 (.cells #[.slice oa R.length oc] 25))
 have k2 := UE bm (UE b1 (UB K1))
 have c2 := US k2
 have f2 := VG k2 0
 have K2 := UC (block_set k2 (.slice oa R.length oc))
 have O2 := UC (o1.below bm)
 have bb2 := UG (UG bb1 b1) bm
 have z2 := b1.size
 clear HR hcv o1 b1 bm k2 K1 bb1
 go_wp2_with fail
 refine bodyPost_ret (results_cell_row rfl _ _ w.heap.size 25 #[.slice oa R.length oc] (0, 0) _ rfl (UB K2) Tryz.underlying25 rfl (by kernel_rfl)) rfl ?_
 exact ⟨_, rfl, ((UB O2).kept (grown_setCell _ _ _) (by show w.heap.size < _; omega)).mono (by omega), bb2.setCell (Nat.le_refl _) _⟩
end Go.Proofs.YthobpbnaklnbiaaGreat
