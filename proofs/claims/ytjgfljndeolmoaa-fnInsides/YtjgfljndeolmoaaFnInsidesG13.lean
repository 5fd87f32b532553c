/-
  Contracts of the specification's NameRead.
-/
import Derived.Test.YtjgfljndeolmoaaFnInsidesG12
import Derived.Test.YtjgfljndeolmoaaFnInsidesG10
import Derived.Test.YtjgfljndeolmoaaFnInsidesG04
import Derived.Deep.LoopGhost
namespace Go.Proofs.Ytjgfljndeolmoaa
open Go.RowKit
set_option linter.unusedVariables false

theorem info_sl7 : (Try.prog.info? 22).map (fun i => (i.zero, i.size, i.bytes)) = some (some (.slice none 0 0), 1, 24) := by kernel_rfl

/-- What stands in each round of NameRead. -/
def GotR (l : List Int) (N : List (List Int)) (w : World) (g : Nat) (s i : Value) (wr : World) : Prop :=
 ∃ (n : List (List Int)) (cur : List Int) (k E : Nat) (o : Value), i = .int .i64 k ∧ g + k = l.length + 2 ∧ ((k ≤ l.length ∧ n ++ rest (decide (0 < l.length)) (l.drop k) cur = N) ∨ (k = l.length + 1 ∧ n = N)) ∧ n.length ≤ k ∧ cur.length ≤ k ∧ Bytes8 cur ∧
  w.heap.size + 2 ≤ E ∧ E ≤ wr.heap.size ∧ wr.heap[w.heap.size]? = some (.cells #[.slice none 0 0] 26) ∧ wr.heap[w.heap.size + 1]? = some (.cells #[o] 26) ∧
  OwnN (w.heap.size + 2) E 22 5 wr o n ∧ Own E 5 wr s cur ∧ Below w.heap.size w wr

theorem ownN_low {B E : Nat} {el eb : TypeId} {w w' : World} {v : Value} {n : List (List Int)} (h : OwnN B E el eb w v n) (hb : Below E w w') : OwnN B E el eb w' v n :=
 h.outside (B := E) (D := w.heap.size) ⟨hb.os, hb.tape, hb.output, hb.size, fun k hk hn => hb.block k (by omega)⟩ (.inl (Nat.le_refl _))

set_option maxHeartbeats 8000000 in
set_option maxRecDepth 100000 in
theorem specNameRead_has {v : Value} {l : List Int} {w : World} (h : Has w v l) (hl : l.length ≤ 1048576) (hb : Bytes8 l) :
  Calls Try.prog 92 #[v] w fun e w' => ∃ v', e = .returned (.tuple #[.agg #[v'], .bool (nameRead l).2]) ∧ OwnL w.heap.size 22 5 w' v' (nameRead l).1 ∧ Below w.heap.size w w' := by
 have hs : ((strOfNums l).toList == (strOfNums [46]).toList) = decide (l = [46]) := str_eq l [46] (fun c hc => by
  obtain ⟨i, hi, rfl⟩ := List.getElem_of_mem hc
  have := hb i
  rwa [List.getD_eq_getElem?_getD, List.getElem?_eq_getElem hi] at this) (fun c hc => by simp at hc; omega)
 have hs46 : (strOfNums [46]).toList = [46] := by decide +kernel
 rw [hs46] at hs
 have bA := below_alloc (w := w) (.cells #[.slice none 0 0] 26)
 have kA := heap_alloc_new w (.cells #[.slice none 0 0] 26)
 have cA := conv_has (h.below bA)
 obtain ⟨a, cap, rfl, hcl⟩ := h.form
 by_cases h1 : l = [46]
 ·have e1 : nameRead l = ([], true) := by unfold nameRead; rw [if_pos h1]
  rw [e1]
  rw [decide_eq_true h1] at hs
  clear h1 e1 hs46
  have c0 := block_one kA
  have f0 := block_frozen kA 0
  have M0 := hide kA
  go_enter Try.func92, Try.ntmps92
  go_wp2_with fail
  refine bodyPost_ret (results_cell_tmp_row rfl _ _ w.heap.size 26 #[.slice none 0 0] (0, 0) _ rfl (unhide M0) Try.underlying26 rfl (by kernel_rfl)) rfl ?_
  exact ⟨_, rfl, ⟨[], by simpa using World.ownsRow_nil _ _ _ _, by simp, by simp⟩, bA⟩
 ·have e1 : nameRead l = if nameOk (labelsIn l) = true then (labelsIn l, true) else ([], false) := by unfold nameRead; rw [if_neg h1]
  rw [e1]
  rw [decide_eq_false h1] at hs
  have hN : labelsIn l = rest (decide (0 < l.length)) l [] := rfl
  generalize labelsIn l = N at *
  have HN := hide hN
  generalize hRes : (if nameOk N = true then (N, true) else ([], false)) = Res
  have HRES := hide hRes
  clear hRes
  have hB8 := hide hb
  have H := hide h
  clear h1 e1 hs46 hN hb h hcl
  obtain ⟨hsz, k0, r0⟩ := box2 w (.cells #[.slice none 0 0] 26) #[.slice none 0 0] 26
  have b0 := below2 w (.cells #[.slice none 0 0] 26) (.cells #[.slice none 0 0] 26)
  go_enter Try.func92, Try.ntmps92
  go_wp2
  clear cA kA bA hs
  generalize (w.alloc (.cells #[.slice none 0 0] 26)).alloc (.cells #[.slice none 0 0] 26) = W at *
  go_loopg [5, 6] (l.length + 2) (fun g s i wr => GotR l N w g s i wr)
  case atStart => exact ⟨[], [], 0, w.heap.size + 2, .slice none 0 0, rfl, by omega, .inl ⟨Nat.zero_le _, by rw [List.nil_append, List.drop_zero]; exact (unhide HN).symm⟩, by simp, by simp, bytes8_nil, Nat.le_refl _, by omega, k0, r0, ⟨[], by simpa using World.ownsRow_nil _ _ _ _, by simp, by simp, by simp [Value.ownBlock], by simp⟩, World.ownsRow_nil _ _ _ _, b0⟩
  case round =>
   clear k0 r0 b0 HN hsz
   obtain ⟨n, cur, k, E, o, rfl, hg, hR, hnk, hck, hc8, hE, hEw, kr, kn, ho, hcu, hbl⟩ := hrel
   obtain ⟨oa, oc, rfl, _⟩ := ho.hasL.form
   obtain ⟨ca, cc, rfl, _⟩ := hcu.lies
   have OK := hide ((unhide H).below hbl)
   have HC8 := hide hc8
   have HO := hide ho
   have HCU := hide hcu
   clear hc8 ho hcu
   by_cases hk : k = l.length + 1
   ·have hN : n = N := by
     rcases hR with ⟨q, _⟩ | ⟨_, q⟩
     ·omega
     ·exact q
    subst hN
    have hk' : ¬ (k : Int) ≤ (l.length : Int) := by omega
    clear hR hk
    have cn := block_one kn
    have hRes := unhide HRES
    cases hok : nameOk n with
    | false =>
     rw [hok, if_neg (by simp)] at hRes
     subst hRes
     have HNO := specNameOk_has (unhide HO).hasL
     rw [hok] at HNO
     have HNO := hide HNO
     clear hok
     go_wp2_with fail
     refine (unhide HNO).mono ?_
     rintro e w1 ⟨rfl, b1⟩
     have k1 := block_kept b1 kr
     have c1 := block_one k1
     have f1 := block_frozen k1 0
     have M1 := hide (block_set k1 (.slice none 0 0))
     have bb1 := below_next hbl b1
     clear kr kn cn k1 b1
     go_wp2_with fail
     refine bodyPost_ret (results_cell_tmp_row rfl _ _ w.heap.size 26 #[.slice none 0 0] (0, 0) _ rfl (unhide M1) Try.underlying26 rfl (by kernel_rfl)) rfl ?_
     exact ⟨_, rfl, ⟨[], by simpa using World.ownsRow_nil _ _ _ _, by simp, by simp⟩, bb1.setCell (Nat.le_refl _) _⟩
    | true =>
     rw [hok, if_pos rfl] at hRes
     subst hRes
     have HNO := specNameOk_has (unhide HO).hasL
     rw [hok] at HNO
     have HNO := hide HNO
     clear hok
     go_wp2_with fail
     refine (unhide HNO).mono ?_
     rintro e w1 ⟨rfl, b1⟩
     have k1 := block_kept b1 kr
     have c1 := block_one k1
     have cn1 := block_one (block_kept b1 kn)
     have f1 := block_frozen k1 0
     have M1 := hide (block_set k1 (.slice oa n.length oc))
     have bb1 := below_next hbl b1
     have O1 := hide ((unhide HO).ownL.below b1)
     clear kr kn cn k1 b1
     go_wp2_with fail
     refine bodyPost_ret (results_cell_tmp_row rfl _ _ w.heap.size 26 #[.slice oa n.length oc] (0, 0) _ rfl (unhide M1) Try.underlying26 rfl (by kernel_rfl)) rfl ?_
     exact ⟨_, rfl, ((unhide O1).kept (grown_setCell _ _ _) (by show w.heap.size < _; omega)).mono (by omega), bb1.setCell (Nat.le_refl _) _⟩
   ·obtain ⟨hkl, hR⟩ : k ≤ l.length ∧ n ++ rest (decide (0 < l.length)) (l.drop k) cur = N := by
     rcases hR with q | ⟨q, _⟩
     ·exact q
     ·omega
    clear hk
    have hkl' : (k : Int) ≤ (l.length : Int) := by omega
    obtain ⟨G, rfl⟩ : ∃ G, gk = G + 1 := ⟨gk - 1, by omega⟩
    by_cases hlt : k < l.length
    ·have hlt' : (k : Int) < (l.length : Int) := by omega
     obtain ⟨a', cap', e', hLi⟩ := (unhide OK).form
     obtain ⟨rfl, rfl⟩ : a = a' ∧ cap = cap' := by simpa using e'
     obtain ⟨b, off, rfl, hbk, hcx⟩ := hLi.here hlt
     clear e' hLi
     have hx := unhide hB8 k
     by_cases hx46 : l.getD k 0 = 46
     ·rw [rest_dot hlt hx46] at hR
      rw [hx46] at hcx
      clear hx46 hx
      have hkne : ((k : Int) == (l.length : Int)) = false := by rw [beq_eq_false_iff_ne]; omega
      have hod := (unhide HO).ownL.below (below_drew (w := wr))
      obtain ⟨vs, hvs, hva, hvd⟩ := hod
      have hvl : vs.length = n.length := by have := hvs.1; simpa using this
      have cn := block_one kn
      have knd := block_kept (below_drew (w := wr)) kn
      have krd := block_kept (below_drew (w := wr)) kr
      have bd := below_next hbl (below_drew (w := wr))
      have cod := block_one knd
      have HUd := hide ((unhide HCU).below (below_drew (w := wr)))
      have HVS := hide hvs
      have HVA := hide hva
      have HVD := hide hvd
      have zn := block_lt kn
      have zb : w.heap.size + 2 ≤ wr.drew.heap.size := by show w.heap.size + 2 ≤ wr.heap.size; omega
      have KND := hide knd
      have KRD := hide krd
      have ca0 : ∀ o, (wr.alloc o).cell? ⟨w.heap.size + 1, 0, none⟩ = some (.slice oa n.length oc) := fun o => block_one (block_kept (below_alloc o) kn)
      have hcl5 : cur.length ≤ 1048576 := by omega
      have SL := hide (fun (w : World) (h : Own E 5 w (.slice ca cur.length cc) cur) => specLower_any h hcl5 (unhide HC8))
      generalize hlw : lowered cur cur.length = lw at *
      have HLW := hide hlw
      have HRR := hide hR
      clear hlw knd krd kn kr hva hvd hvs hR
      generalize hLN : l.length = L at *
      have HLN := hide hLN
      clear hLN
      go_wp2_with fail
      go_region_law (first
       | (refine step_append_row rfl (.tmp 49) (.tmp 52) 24 22 rfl Try.underlying24 info_sl7 (w.heap.size + 2) (.slice oa n.length oc) _ vs [.slice u2a lw.length u2c] (by simp [Act.eval]) (by simp [Act.eval]) (by rw [hvl]; exact World.ownsRow.alloc (ownsRow_kept' (unhide HVS) (unhide B2)) _) (one_more w2 22 _) (by intro y hy; simp at hy; subst hy; rfl) (by rw [hvl]; simp; omega) (by have := (unhide B2).size; simp; omega) ?_; intro v3 w3 o3 g3; obtain ⟨p3, k3, y3⟩ := snoc_step g3 o3 (by simp [hvl]) (unhide HVS) (unhide HVA) (unhide HVD) ((unhide B2).alloc (unhide B2).size _) ((unhide OU).alloc _) zb (by decide) (block_kept (below_alloc _) (block_kept (unhide B2) (unhide KND))) (by decide); obtain ⟨v3a, v3c, rfl, _⟩ := p3.hasL.form; have co3 := block_one k3; have fo3 := block_frozen k3 0)
       | (go_simp; go_at_call 119; refine (unhide SL _ (unhide HUd)).mono ?_; rintro e w2 ⟨u2, rfl, ou, b2⟩; obtain ⟨u2a, u2c, rfl, _⟩ := ou.lies; have OU := hide ou; have B2 := hide b2; have co2 := block_one (block_kept b2 (unhide KND)); have ca2 : ∀ o, (w2.alloc o).cell? ⟨w.heap.size + 1, 0, none⟩ = some (.slice oa n.length oc) := (fun o => block_one (block_kept (below_alloc o) (block_kept b2 (unhide KND)))); clear ou b2))
      all_goals
       go_wp2_with fail
       go_roundg G
       case measure => omega
       case rel =>
        have k1 := (y3.block w.heap.size (by omega)).trans (unhide KRD)
        simp only [List.length_append, List.length_cons, List.length_nil] at p3
        have hLN := unhide HLN
        subst hLN
        have hR := unhide HRR
        have z3 := block_lt k3
        refine ⟨n ++ [lw], [], k + 1, _, _, by go_num, by omega, .inl ⟨by omega, by rw [List.append_assoc]; exact hR⟩, by simp; omega, by simp, bytes8_nil, ?_, Nat.le_refl _, block_other k1 (by omega) 0 _, block_set k3 _, OwnL.here (p3.kept (grown_setCell _ _ _) (by show w.heap.size + 1 < _; omega)), World.ownsRow_nil _ _ _ _, (bd.trans (y3.mono (by omega))).setCell (by show w.heap.size ≤ w.heap.size + 1; omega) _⟩
        have := (grown_setCell w3 ⟨w.heap.size + 1, 0, none⟩ (.slice v3a (n.length + 1) v3c)).size
        omega
     ·rw [rest_label hlt hx46] at hR
      generalize l.getD k 0 = x at *
      have hx46' : (x == 46) = false := by rw [beq_eq_false_iff_ne]; exact hx46
      have HRR := hide hR
      clear hR hx46
      generalize hLN : l.length = L at *
      have HLN := hide hLN
      clear hLN
      have KN := hide kn
      have KR := hide kr
      clear kn kr
      have hca : ∀ o, (wr.alloc o).cell? ⟨b, off + k, none⟩ = some (.int .u8 x) := fun o => ((below_alloc o).cell (p := ⟨b, off + k, none⟩) hbk).trans hcx
      go_wp2_with (at_builtin; refine append_bytes rfl _ _ 22 5 rfl Try.underlying22 info_u8 E (.slice ca cur.length cc) _ cur [x] rfl rfl ((unhide HCU).alloc _) (own_lit wr 0 5 [x] (Nat.zero_le _) (by simp [maxLen])).reads (by simp; omega) (by simp; omega) ?_)
      intro v2 w2 o2 g2
      have b2 : Below E wr w2 := ((Below.refl _ _).alloc hEw _).grown g2 (by simp; omega) (fun q hq => ((unhide HCU).lt q hq).1)
      clear g2
      go_wp2_with fail
      go_roundg G
      case measure => omega
      case rel =>
       have hLN := unhide HLN
       subst hLN
       exact ⟨n, cur ++ [x], k + 1, E, _, by go_num, by omega, .inl ⟨by omega, unhide HRR⟩, by omega, by simp; omega, bytes8_snoc (unhide HC8) hx.1 hx.2, hE, Nat.le_trans hEw b2.size, (b2.block w.heap.size (by omega)).trans (unhide KR), (b2.block (w.heap.size + 1) (by omega)).trans (unhide KN), ownN_low (unhide HO) b2, o2, hbl.trans (b2.mono (by omega))⟩
    ·obtain rfl : k = l.length := by omega
     rw [rest_end] at hR
     by_cases hce : cur.length = 0 ∧ decide (0 < l.length) = true
     ·rw [if_pos hce, List.append_nil] at hR
      obtain ⟨hc0, hl0⟩ := hce
      subst hR
      have hl0' : (0 : Int) < (l.length : Int) := by simp at hl0; omega
      obtain rfl : cur = [] := List.eq_nil_of_length_eq_zero hc0
      simp only [List.length_nil] at *
      clear hc0 hl0
      have cn := block_one kn
      have hRes := unhide HRES
      generalize hLN : l.length = L at *
      have HLN := hide hLN
      clear hLN
      cases hok : nameOk n with
      | false =>
       rw [hok, if_neg (by simp)] at hRes
       subst hRes
       have HNO := specNameOk_has (unhide HO).hasL
       rw [hok] at HNO
       have HNO := hide HNO
       clear hok
       go_wp2_with fail
       refine (unhide HNO).mono ?_
       rintro e w1 ⟨rfl, b1⟩
       have k1 := block_kept b1 kr
       have c1 := block_one k1
       have f1 := block_frozen k1 0
       have M1 := hide (block_set k1 (.slice none 0 0))
       have bb1 := below_next hbl b1
       clear kr kn cn k1 b1
       go_wp2_with fail
       refine bodyPost_ret (results_cell_tmp_row rfl _ _ w.heap.size 26 #[.slice none 0 0] (0, 0) _ rfl (unhide M1) Try.underlying26 rfl (by kernel_rfl)) rfl ?_
       exact ⟨_, rfl, ⟨[], by simpa using World.ownsRow_nil _ _ _ _, by simp, by simp⟩, bb1.setCell (Nat.le_refl _) _⟩
      | true =>
       rw [hok, if_pos rfl] at hRes
       subst hRes
       have HNO := specNameOk_has (unhide HO).hasL
       rw [hok] at HNO
       have HNO := hide HNO
       clear hok
       go_wp2_with fail
       refine (unhide HNO).mono ?_
       rintro e w1 ⟨rfl, b1⟩
       have k1 := block_kept b1 kr
       have c1 := block_one k1
       have cn1 := block_one (block_kept b1 kn)
       have f1 := block_frozen k1 0
       have M1 := hide (block_set k1 (.slice oa n.length oc))
       have bb1 := below_next hbl b1
       have O1 := hide ((unhide HO).ownL.below b1)
       clear kr kn cn k1 b1
       go_wp2_with fail
       refine bodyPost_ret (results_cell_tmp_row rfl _ _ w.heap.size 26 #[.slice oa n.length oc] (0, 0) _ rfl (unhide M1) Try.underlying26 rfl (by kernel_rfl)) rfl ?_
       exact ⟨_, rfl, ((unhide O1).kept (grown_setCell _ _ _) (by show w.heap.size < _; omega)).mono (by omega), bb1.setCell (Nat.le_refl _) _⟩
     ·rw [if_neg hce] at hR
      by_cases hc0 : cur.length = 0
      ·have hcq : ((cur.length : Int) == 0) = true := by rw [beq_iff_eq]; omega
       have hl0 : l.length = 0 := by
        by_cases q : l.length = 0
        ·exact q
        ·exact absurd ⟨hc0, decide_eq_true (by omega)⟩ hce
       have hl0' : ¬ (0 : Int) < (l.length : Int) := by omega
       clear hce hl0 hc0
       have hod := (unhide HO).ownL.below (below_drew (w := wr))
       obtain ⟨vs, hvs, hva, hvd⟩ := hod
       have hvl : vs.length = n.length := by have := hvs.1; simpa using this
       have cn := block_one kn
       have knd := block_kept (below_drew (w := wr)) kn
       have krd := block_kept (below_drew (w := wr)) kr
       have bd := below_next hbl (below_drew (w := wr))
       have cod := block_one knd
       have HUd := hide ((unhide HCU).below (below_drew (w := wr)))
       have HVS := hide hvs
       have HVA := hide hva
       have HVD := hide hvd
       have zn := block_lt kn
       have zb : w.heap.size + 2 ≤ wr.drew.heap.size := by show w.heap.size + 2 ≤ wr.heap.size; omega
       have KND := hide knd
       have KRD := hide krd
       have ca0 : ∀ o, (wr.alloc o).cell? ⟨w.heap.size + 1, 0, none⟩ = some (.slice oa n.length oc) := fun o => block_one (block_kept (below_alloc o) kn)
       have hcl5 : cur.length ≤ 1048576 := by omega
       have SL := hide (fun (w : World) (h : Own E 5 w (.slice ca cur.length cc) cur) => specLower_any h hcl5 (unhide HC8))
       generalize hlw : lowered cur cur.length = lw at *
       have HLW := hide hlw
       have HRR := hide hR
       clear hlw knd krd kn kr hva hvd hvs hR
       generalize hLN : l.length = L at *
       have HLN := hide hLN
       clear hLN
       go_wp2_with fail
       go_region_law (first
        | (refine step_append_row rfl (.tmp 49) (.tmp 52) 24 22 rfl Try.underlying24 info_sl7 (w.heap.size + 2) (.slice oa n.length oc) _ vs [.slice u2a lw.length u2c] (by simp [Act.eval]) (by simp [Act.eval]) (by rw [hvl]; exact World.ownsRow.alloc (ownsRow_kept' (unhide HVS) (unhide B2)) _) (one_more w2 22 _) (by intro y hy; simp at hy; subst hy; rfl) (by rw [hvl]; simp; omega) (by have := (unhide B2).size; simp; omega) ?_; intro v3 w3 o3 g3; obtain ⟨p3, k3, y3⟩ := snoc_step g3 o3 (by simp [hvl]) (unhide HVS) (unhide HVA) (unhide HVD) ((unhide B2).alloc (unhide B2).size _) ((unhide OU).alloc _) zb (by decide) (block_kept (below_alloc _) (block_kept (unhide B2) (unhide KND))) (by decide); obtain ⟨v3a, v3c, rfl, _⟩ := p3.hasL.form; have co3 := block_one k3; have fo3 := block_frozen k3 0)
        | (go_simp; go_at_call 119; refine (unhide SL _ (unhide HUd)).mono ?_; rintro e w2 ⟨u2, rfl, ou, b2⟩; obtain ⟨u2a, u2c, rfl, _⟩ := ou.lies; have OU := hide ou; have B2 := hide b2; have co2 := block_one (block_kept b2 (unhide KND)); have ca2 : ∀ o, (w2.alloc o).cell? ⟨w.heap.size + 1, 0, none⟩ = some (.slice oa n.length oc) := (fun o => block_one (block_kept (below_alloc o) (block_kept b2 (unhide KND)))); clear ou b2))
       all_goals
        go_wp2_with fail
        go_roundg G
        case measure => omega
        case rel =>
         have k1 := (y3.block w.heap.size (by omega)).trans (unhide KRD)
         simp only [List.length_append, List.length_cons, List.length_nil] at p3
         have hLN := unhide HLN
         subst hLN
         have hR := unhide HRR
         have z3 := block_lt k3
         refine ⟨n ++ [lw], [], l.length + 1, _, _, by go_num, by omega, .inr ⟨rfl, hR⟩, by simp; omega, by simp, bytes8_nil, ?_, Nat.le_refl _, block_other k1 (by omega) 0 _, block_set k3 _, OwnL.here (p3.kept (grown_setCell _ _ _) (by show w.heap.size + 1 < _; omega)), World.ownsRow_nil _ _ _ _, (bd.trans (y3.mono (by omega))).setCell (by show w.heap.size ≤ w.heap.size + 1; omega) _⟩
         have := (grown_setCell w3 ⟨w.heap.size + 1, 0, none⟩ (.slice v3a (n.length + 1) v3c)).size
         omega
      ·have hcq : ((cur.length : Int) == 0) = false := by rw [beq_eq_false_iff_ne]; omega
       clear hce hc0
       have hod := (unhide HO).ownL.below (below_drew (w := wr))
       obtain ⟨vs, hvs, hva, hvd⟩ := hod
       have hvl : vs.length = n.length := by have := hvs.1; simpa using this
       have cn := block_one kn
       have knd := block_kept (below_drew (w := wr)) kn
       have krd := block_kept (below_drew (w := wr)) kr
       have bd := below_next hbl (below_drew (w := wr))
       have cod := block_one knd
       have HUd := hide ((unhide HCU).below (below_drew (w := wr)))
       have HVS := hide hvs
       have HVA := hide hva
       have HVD := hide hvd
       have zn := block_lt kn
       have zb : w.heap.size + 2 ≤ wr.drew.heap.size := by show w.heap.size + 2 ≤ wr.heap.size; omega
       have KND := hide knd
       have KRD := hide krd
       have ca0 : ∀ o, (wr.alloc o).cell? ⟨w.heap.size + 1, 0, none⟩ = some (.slice oa n.length oc) := fun o => block_one (block_kept (below_alloc o) kn)
       have hcl5 : cur.length ≤ 1048576 := by omega
       have SL := hide (fun (w : World) (h : Own E 5 w (.slice ca cur.length cc) cur) => specLower_any h hcl5 (unhide HC8))
       generalize hlw : lowered cur cur.length = lw at *
       have HLW := hide hlw
       have HRR := hide hR
       clear hlw knd krd kn kr hva hvd hvs hR
       generalize hLN : l.length = L at *
       have HLN := hide hLN
       clear hLN
       go_wp2_with fail
       go_region_law (first
        | (refine step_append_row rfl (.tmp 49) (.tmp 52) 24 22 rfl Try.underlying24 info_sl7 (w.heap.size + 2) (.slice oa n.length oc) _ vs [.slice u2a lw.length u2c] (by simp [Act.eval]) (by simp [Act.eval]) (by rw [hvl]; exact World.ownsRow.alloc (ownsRow_kept' (unhide HVS) (unhide B2)) _) (one_more w2 22 _) (by intro y hy; simp at hy; subst hy; rfl) (by rw [hvl]; simp; omega) (by have := (unhide B2).size; simp; omega) ?_; intro v3 w3 o3 g3; obtain ⟨p3, k3, y3⟩ := snoc_step g3 o3 (by simp [hvl]) (unhide HVS) (unhide HVA) (unhide HVD) ((unhide B2).alloc (unhide B2).size _) ((unhide OU).alloc _) zb (by decide) (block_kept (below_alloc _) (block_kept (unhide B2) (unhide KND))) (by decide); obtain ⟨v3a, v3c, rfl, _⟩ := p3.hasL.form; have co3 := block_one k3; have fo3 := block_frozen k3 0)
        | (go_simp; go_at_call 119; refine (unhide SL _ (unhide HUd)).mono ?_; rintro e w2 ⟨u2, rfl, ou, b2⟩; obtain ⟨u2a, u2c, rfl, _⟩ := ou.lies; have OU := hide ou; have B2 := hide b2; have co2 := block_one (block_kept b2 (unhide KND)); have ca2 : ∀ o, (w2.alloc o).cell? ⟨w.heap.size + 1, 0, none⟩ = some (.slice oa n.length oc) := (fun o => block_one (block_kept (below_alloc o) (block_kept b2 (unhide KND)))); clear ou b2))
       all_goals
        go_wp2_with fail
        go_roundg G
        case measure => omega
        case rel =>
         have k1 := (y3.block w.heap.size (by omega)).trans (unhide KRD)
         simp only [List.length_append, List.length_cons, List.length_nil] at p3
         have hLN := unhide HLN
         subst hLN
         have hR := unhide HRR
         have z3 := block_lt k3
         refine ⟨n ++ [lw], [], l.length + 1, _, _, by go_num, by omega, .inr ⟨rfl, hR⟩, by simp; omega, by simp, bytes8_nil, ?_, Nat.le_refl _, block_other k1 (by omega) 0 _, block_set k3 _, OwnL.here (p3.kept (grown_setCell _ _ _) (by show w.heap.size + 1 < _; omega)), World.ownsRow_nil _ _ _ _, (bd.trans (y3.mono (by omega))).setCell (by show w.heap.size ≤ w.heap.size + 1; omega) _⟩
         have := (grown_setCell w3 ⟨w.heap.size + 1, 0, none⟩ (.slice v3a (n.length + 1) v3c)).size
         omega
end Go.Proofs.Ytjgfljndeolmoaa
