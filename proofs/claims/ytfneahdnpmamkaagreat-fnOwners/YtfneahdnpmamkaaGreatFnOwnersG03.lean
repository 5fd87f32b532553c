/-
  Contracts of the specification's NameRead. Plain facts: the bytes of a text, as numbers, and a slice that is made of it. No program is named here. Contracts of the specification's l2of: a name out of a text. Contracts of the specification's cursor over the bytes of a draw (l1New, l1Byte, l1Below, l1Once, l1PickInt, l1some): what is drawn is within its bounds; nothing but the cursor's own block is written.
-/
import Derived.Test.YtfneahdnpmamkaaGreatFnOwnersG02
import Derived.Deep.LoopGhost
import Derived.Laws.IdiomStrings
namespace Go.Proofs.YtfneahdnpmamkaaGreat
open Go.RowKit
set_option linter.unusedVariables false

theorem M9 : (Tryz.prog.info? 22).map (fun i => (i.zero, i.size, i.bytes)) = some (some (.slice none 0 0), 1, 24) := by kernel_rfl

def GotR (l : List Int) (N : List (List Int)) (w : World) (g : Nat) (s i : Value) (wr : World) : Prop :=
 ∃ (n : List (List Int)) (cur : List Int) (k E : Nat) (o : Value), i = .int .i64 k ∧ g + k = l.length + 2 ∧ ((k ≤ l.length ∧ n ++ rest (decide (0 < l.length)) (l.drop k) cur = N) ∨ (k = l.length + 1 ∧ n = N)) ∧ n.length ≤ k ∧ cur.length ≤ k ∧ Dd cur ∧
  w.heap.size + 2 ≤ E ∧ E ≤ wr.heap.size ∧ wr.heap[w.heap.size]? = some (.cells #[.slice none 0 0] 25) ∧ wr.heap[w.heap.size + 1]? = some (.cells #[o] 25) ∧
  OwnN (w.heap.size + 2) E 22 5 wr o n ∧ Own E 5 wr s cur ∧ Below w.heap.size w wr

theorem Y9 {B E : Nat} {el eb : TypeId} {w w' : World} {v : Value} {n : List (List Int)} (h : OwnN B E el eb w v n) (hb : Below E w w') : OwnN B E el eb w' v n :=
 h.outside (B := E) (D := w.heap.size) ⟨hb.os, hb.tape, hb.output, hb.size, fun k hk hn => hb.block k (by omega)⟩ (.inl (Nat.le_refl _))

set_option maxHeartbeats 8000000 in
set_option maxRecDepth 100000 in
theorem Gf {v : Value} {l : List Int} {w : World} (h : Has w v l) (hl : l.length ≤ 1048576) (hb : Dd l) :
  Calls Tryz.prog 55 #[v] w fun e w' => ∃ v', e = .returned (.tuple #[.agg #[v'], .bool (A3 l).2]) ∧ OwnL w.heap.size 22 5 w' v' (A3 l).1 ∧ Below w.heap.size w w' := by
 have hs : ((strOfNums l).toList == (strOfNums [46]).toList) = decide (l = [46]) := Yp l [46] (fun c hc => by
  obtain ⟨i, hi, rfl⟩ := List.getElem_of_mem hc
  have := hb i
  rwa [List.getD_eq_getElem?_getD, List.getElem?_eq_getElem hi] at this) (fun c hc => by simp at hc; omega)
 have hs46 : (strOfNums [46]).toList = [46] := by decide +kernel
 rw [hs46] at hs
 have bA := UI (w := w) (.cells #[.slice none 0 0] 25)
 have kA := heap_alloc_new w (.cells #[.slice none 0 0] 25)
 have cA := Fl (h.below bA)
 obtain ⟨a, cap, rfl, hcl⟩ := h.form
 by_cases h1 : l = [46]
 ·have e1 : A3 l = ([], true) := by unfold A3; rw [if_pos h1]
  rw [e1]
  rw [decide_eq_true h1] at hs
  clear h1 e1 hs46
  have c0 := US kA
  have f0 := VG kA 0
  have M0 := UC kA
  go_enter Tryz.func55, Tryz.ntmps55
  go_wp2_with fail
  refine bodyPost_ret (Ak rfl _ _ w.heap.size 25 #[.slice none 0 0] (0, 0) _ rfl (UB M0) Tryz.underlying25 rfl (by kernel_rfl)) rfl ?_
  exact ⟨_, rfl, ⟨[], by simpa using World.ownsRow_nil _ _ _ _, by simp, by simp⟩, bA⟩
 ·have e1 : A3 l = if Ag (Gc l) = true then (Gc l, true) else ([], false) := by unfold A3; rw [if_neg h1]
  rw [e1]
  rw [decide_eq_false h1] at hs
  have hN : Gc l = rest (decide (0 < l.length)) l [] := rfl
  generalize Gc l = N at *
  have HN := UC hN
  generalize hRes : (if Ag N = true then (N, true) else ([], false)) = Res
  have HRES := UC hRes
  clear hRes
  have hB8 := UC hb
  have H := UC h
  clear h1 e1 hs46 hN hb h hcl
  obtain ⟨hsz, k0, r0⟩ := box2 w (.cells #[.slice none 0 0] 25) #[.slice none 0 0] 25
  have b0 := Bl w (.cells #[.slice none 0 0] 25) (.cells #[.slice none 0 0] 25)
  go_enter Tryz.func55, Tryz.ntmps55
  go_wp2
  clear cA kA bA hs
  generalize (w.alloc (.cells #[.slice none 0 0] 25)).alloc (.cells #[.slice none 0 0] 25) = W at *
  go_loopg [5, 6] (l.length + 2) (fun g s i wr => GotR l N w g s i wr)
  case atStart => exact ⟨[], [], 0, w.heap.size + 2, .slice none 0 0, rfl, by omega, .inl ⟨Nat.zero_le _, by rw [List.nil_append, List.drop_zero]; exact (UB HN).symm⟩, by simp, by simp, G5, Nat.le_refl _, by omega, k0, r0, ⟨[], by simpa using World.ownsRow_nil _ _ _ _, by simp, by simp, by simp [Value.ownBlock], by simp⟩, World.ownsRow_nil _ _ _ _, b0⟩
  case round =>
   clear k0 r0 b0 HN hsz
   obtain ⟨n, cur, k, E, o, rfl, hg, hR, hnk, hck, hc8, hE, hEw, kr, kn, ho, hcu, hbl⟩ := hrel
   obtain ⟨oa, oc, rfl, _⟩ := ho.hasL.form
   obtain ⟨ca, cc, rfl, _⟩ := hcu.lies
   have OK := UC ((UB H).below hbl)
   have HC8 := UC hc8
   have HO := UC ho
   have HCU := UC hcu
   clear hc8 ho hcu
   by_cases hk : k = l.length + 1
   ·have hN : n = N := by
     rcases hR with ⟨q, _⟩ | ⟨_, q⟩
     ·omega
     ·exact q
    subst hN
    have hk' : ¬ (k : Int) ≤ (l.length : Int) := by omega
    clear hR hk
    have cn := US kn
    have hRes := UB HRES
    cases hok : Ag n with
    | false =>
     rw [hok, if_neg (by simp)] at hRes
     subst hRes
     have HNO := VO (UB HO).hasL
     rw [hok] at HNO
     have HNO := UC HNO
     clear hok
     go_wp2_with fail
     refine (UB HNO).mono ?_
     rintro e w1 ⟨rfl, b1⟩
     have k1 := UE b1 kr
     have c1 := US k1
     have f1 := VG k1 0
     have M1 := UC (Av k1 (.slice none 0 0))
     have bb1 := UG hbl b1
     clear kr kn cn k1 b1
     go_wp2_with fail
     refine bodyPost_ret (Ak rfl _ _ w.heap.size 25 #[.slice none 0 0] (0, 0) _ rfl (UB M1) Tryz.underlying25 rfl (by kernel_rfl)) rfl ?_
     exact ⟨_, rfl, ⟨[], by simpa using World.ownsRow_nil _ _ _ _, by simp, by simp⟩, bb1.setCell (Nat.le_refl _) _⟩
    | true =>
     rw [hok, if_pos rfl] at hRes
     subst hRes
     have HNO := VO (UB HO).hasL
     rw [hok] at HNO
     have HNO := UC HNO
     clear hok
     go_wp2_with fail
     refine (UB HNO).mono ?_
     rintro e w1 ⟨rfl, b1⟩
     have k1 := UE b1 kr
     have c1 := US k1
     have cn1 := US (UE b1 kn)
     have f1 := VG k1 0
     have M1 := UC (Av k1 (.slice oa n.length oc))
     have bb1 := UG hbl b1
     have O1 := UC ((UB HO).ownL.below b1)
     clear kr kn cn k1 b1
     go_wp2_with fail
     refine bodyPost_ret (Ak rfl _ _ w.heap.size 25 #[.slice oa n.length oc] (0, 0) _ rfl (UB M1) Tryz.underlying25 rfl (by kernel_rfl)) rfl ?_
     exact ⟨_, rfl, ((UB O1).kept (Ab _ _ _) (by show w.heap.size < _; omega)).mono (by omega), bb1.setCell (Nat.le_refl _) _⟩
   ·obtain ⟨hkl, hR⟩ : k ≤ l.length ∧ n ++ rest (decide (0 < l.length)) (l.drop k) cur = N := by
     rcases hR with q | ⟨q, _⟩
     ·exact q
     ·omega
    clear hk
    have hkl' : (k : Int) ≤ (l.length : Int) := by omega
    obtain ⟨G, rfl⟩ : ∃ G, gk = G + 1 := ⟨gk - 1, by omega⟩
    by_cases hlt : k < l.length
    ·have hlt' : (k : Int) < (l.length : Int) := by omega
     obtain ⟨a', cap', e', hLi⟩ := (UB OK).form
     obtain ⟨rfl, rfl⟩ : a = a' ∧ cap = cap' := by simpa using e'
     obtain ⟨b, off, rfl, hbk, hcx⟩ := hLi.here hlt
     clear e' hLi
     have hx := UB hB8 k
     by_cases hx46 : l.getD k 0 = 46
     ·rw [Xt hlt hx46] at hR
      rw [hx46] at hcx
      clear hx46 hx
      have hkne : ((k : Int) == (l.length : Int)) = false := by rw [beq_eq_false_iff_ne]; omega
      have hod := (UB HO).ownL.below (UX (w := wr))
      obtain ⟨vs, hvs, hva, hvd⟩ := hod
      have hvl : vs.length = n.length := by have := hvs.1; simpa using this
      have cn := US kn
      have knd := UE (UX (w := wr)) kn
      have krd := UE (UX (w := wr)) kr
      have bd := UG hbl (UX (w := wr))
      have cod := US knd
      have HUd := UC ((UB HCU).below (UX (w := wr)))
      have HVS := UC hvs
      have HVA := UC hva
      have HVD := UC hvd
      have zn := VC kn
      have zb : w.heap.size + 2 ≤ wr.drew.heap.size := by show w.heap.size + 2 ≤ wr.heap.size; omega
      have KND := UC knd
      have KRD := UC krd
      have ca0 : ∀ o, (wr.alloc o).cell? ⟨w.heap.size + 1, 0, none⟩ = some (.slice oa n.length oc) := fun o => US (UE (UI o) kn)
      have hcl5 : cur.length ≤ 1048576 := by omega
      have SL := UC (fun (w : World) (h : Own E 5 w (.slice ca cur.length cc) cur) => F9 h hcl5 (UB HC8))
      generalize hlw : Bi cur cur.length = lw at *
      have HLW := UC hlw
      have HRR := UC hR
      clear hlw knd krd kn kr hva hvd hvs hR
      generalize hLN : l.length = L at *
      have HLN := UC hLN
      clear hLN
      go_wp2_with fail
      go_region_law (first
       | (refine Bj rfl (.tmp 49) (.tmp 52) 23 22 rfl Tryz.underlying23 M9 (w.heap.size + 2) (.slice oa n.length oc) _ vs [.slice u2a lw.length u2c] (by simp [Act.eval]) (by simp [Act.eval]) (by rw [hvl]; exact World.ownsRow.alloc (Ay (UB HVS) (UB B2)) _) (Cn w2 22 _) (by intro y hy; simp at hy; subst hy; rfl) (by rw [hvl]; simp; omega) (by have := (UB B2).size; simp; omega) ?_; intro v3 w3 o3 g3; obtain ⟨p3, k3, y3⟩ := Gh g3 o3 (by simp [hvl]) (UB HVS) (UB HVA) (UB HVD) ((UB B2).alloc (UB B2).size _) ((UB OU).alloc _) zb (by decide) (UE (UI _) (UE (UB B2) (UB KND))) (by decide); obtain ⟨v3a, v3c, rfl, _⟩ := p3.hasL.form; have co3 := US k3; have fo3 := VG k3 0)
       | (go_simp; go_at_call 84; refine (UB SL _ (UB HUd)).mono ?_; rintro e w2 ⟨u2, rfl, ou, b2⟩; obtain ⟨u2a, u2c, rfl, _⟩ := ou.lies; have OU := UC ou; have B2 := UC b2; have co2 := US (UE b2 (UB KND)); have ca2 : ∀ o, (w2.alloc o).cell? ⟨w.heap.size + 1, 0, none⟩ = some (.slice oa n.length oc) := (fun o => US (UE (UI o) (UE b2 (UB KND)))); clear ou b2))
      all_goals
       go_wp2_with fail
       go_roundg G
       case measure => omega
       case rel =>
        have k1 := (y3.block w.heap.size (by omega)).trans (UB KRD)
        simp only [List.length_append, List.length_cons, List.length_nil] at p3
        have hLN := UB HLN
        subst hLN
        have hR := UB HRR
        have z3 := VC k3
        refine ⟨n ++ [lw], [], k + 1, _, _, by go_num, by omega, .inl ⟨by omega, by rw [List.append_assoc]; exact hR⟩, by simp; omega, by simp, G5, ?_, Nat.le_refl _, Dy k1 (by omega) 0 _, Av k3 _, OwnL.here (p3.kept (Ab _ _ _) (by show w.heap.size + 1 < _; omega)), World.ownsRow_nil _ _ _ _, (bd.trans (y3.mono (by omega))).setCell (by show w.heap.size ≤ w.heap.size + 1; omega) _⟩
        have := (Ab w3 ⟨w.heap.size + 1, 0, none⟩ (.slice v3a (n.length + 1) v3c)).size
        omega
     ·rw [Ug hlt hx46] at hR
      generalize l.getD k 0 = x at *
      have hx46' : (x == 46) = false := by rw [beq_eq_false_iff_ne]; exact hx46
      have HRR := UC hR
      clear hR hx46
      generalize hLN : l.length = L at *
      have HLN := UC hLN
      clear hLN
      have KN := UC kn
      have KR := UC kr
      clear kn kr
      have hca : ∀ o, (wr.alloc o).cell? ⟨b, off + k, none⟩ = some (.int .u8 x) := fun o => ((UI o).cell (p := ⟨b, off + k, none⟩) hbk).trans hcx
      go_wp2_with (at_builtin; refine Aq rfl _ _ 22 5 rfl Tryz.underlying22 VJ E (.slice ca cur.length cc) _ cur [x] rfl rfl ((UB HCU).alloc _) (B4 wr 0 5 [x] (Nat.zero_le _) (by simp [maxLen])).reads (by simp; omega) (by simp; omega) ?_)
      intro v2 w2 o2 g2
      have b2 : Below E wr w2 := ((Below.refl _ _).alloc hEw _).grown g2 (by simp; omega) (fun q hq => ((UB HCU).lt q hq).1)
      clear g2
      go_wp2_with fail
      go_roundg G
      case measure => omega
      case rel =>
       have hLN := UB HLN
       subst hLN
       exact ⟨n, cur ++ [x], k + 1, E, _, by go_num, by omega, .inl ⟨by omega, UB HRR⟩, by omega, by simp; omega, Sn (UB HC8) hx.1 hx.2, hE, Nat.le_trans hEw b2.size, (b2.block w.heap.size (by omega)).trans (UB KR), (b2.block (w.heap.size + 1) (by omega)).trans (UB KN), Y9 (UB HO) b2, o2, hbl.trans (b2.mono (by omega))⟩
    ·obtain rfl : k = l.length := by omega
     rw [Yh] at hR
     by_cases hce : cur.length = 0 ∧ decide (0 < l.length) = true
     ·rw [if_pos hce, List.append_nil] at hR
      obtain ⟨hc0, hl0⟩ := hce
      subst hR
      have hl0' : (0 : Int) < (l.length : Int) := by simp at hl0; omega
      obtain rfl : cur = [] := List.eq_nil_of_length_eq_zero hc0
      simp only [List.length_nil] at *
      clear hc0 hl0
      have cn := US kn
      have hRes := UB HRES
      generalize hLN : l.length = L at *
      have HLN := UC hLN
      clear hLN
      cases hok : Ag n with
      | false =>
       rw [hok, if_neg (by simp)] at hRes
       subst hRes
       have HNO := VO (UB HO).hasL
       rw [hok] at HNO
       have HNO := UC HNO
       clear hok
       go_wp2_with fail
       refine (UB HNO).mono ?_
       rintro e w1 ⟨rfl, b1⟩
       have k1 := UE b1 kr
       have c1 := US k1
       have f1 := VG k1 0
       have M1 := UC (Av k1 (.slice none 0 0))
       have bb1 := UG hbl b1
       clear kr kn cn k1 b1
       go_wp2_with fail
       refine bodyPost_ret (Ak rfl _ _ w.heap.size 25 #[.slice none 0 0] (0, 0) _ rfl (UB M1) Tryz.underlying25 rfl (by kernel_rfl)) rfl ?_
       exact ⟨_, rfl, ⟨[], by simpa using World.ownsRow_nil _ _ _ _, by simp, by simp⟩, bb1.setCell (Nat.le_refl _) _⟩
      | true =>
       rw [hok, if_pos rfl] at hRes
       subst hRes
       have HNO := VO (UB HO).hasL
       rw [hok] at HNO
       have HNO := UC HNO
       clear hok
       go_wp2_with fail
       refine (UB HNO).mono ?_
       rintro e w1 ⟨rfl, b1⟩
       have k1 := UE b1 kr
       have c1 := US k1
       have cn1 := US (UE b1 kn)
       have f1 := VG k1 0
       have M1 := UC (Av k1 (.slice oa n.length oc))
       have bb1 := UG hbl b1
       have O1 := UC ((UB HO).ownL.below b1)
       clear kr kn cn k1 b1
       go_wp2_with fail
       refine bodyPost_ret (Ak rfl _ _ w.heap.size 25 #[.slice oa n.length oc] (0, 0) _ rfl (UB M1) Tryz.underlying25 rfl (by kernel_rfl)) rfl ?_
       exact ⟨_, rfl, ((UB O1).kept (Ab _ _ _) (by show w.heap.size < _; omega)).mono (by omega), bb1.setCell (Nat.le_refl _) _⟩
     ·rw [if_neg hce] at hR
      by_cases hc0 : cur.length = 0
      ·have hcq : ((cur.length : Int) == 0) = true := by rw [beq_iff_eq]; omega
       have hl0 : l.length = 0 := by
        by_cases q : l.length = 0
        ·exact q
        ·exact absurd ⟨hc0, decide_eq_true (by omega)⟩ hce
       have hl0' : ¬ (0 : Int) < (l.length : Int) := by omega
       clear hce hl0 hc0
       have hod := (UB HO).ownL.below (UX (w := wr))
       obtain ⟨vs, hvs, hva, hvd⟩ := hod
       have hvl : vs.length = n.length := by have := hvs.1; simpa using this
       have cn := US kn
       have knd := UE (UX (w := wr)) kn
       have krd := UE (UX (w := wr)) kr
       have bd := UG hbl (UX (w := wr))
       have cod := US knd
       have HUd := UC ((UB HCU).below (UX (w := wr)))
       have HVS := UC hvs
       have HVA := UC hva
       have HVD := UC hvd
       have zn := VC kn
       have zb : w.heap.size + 2 ≤ wr.drew.heap.size := by show w.heap.size + 2 ≤ wr.heap.size; omega
       have KND := UC knd
       have KRD := UC krd
       have ca0 : ∀ o, (wr.alloc o).cell? ⟨w.heap.size + 1, 0, none⟩ = some (.slice oa n.length oc) := fun o => US (UE (UI o) kn)
       have hcl5 : cur.length ≤ 1048576 := by omega
       have SL := UC (fun (w : World) (h : Own E 5 w (.slice ca cur.length cc) cur) => F9 h hcl5 (UB HC8))
       generalize hlw : Bi cur cur.length = lw at *
       have HLW := UC hlw
       have HRR := UC hR
       clear hlw knd krd kn kr hva hvd hvs hR
       generalize hLN : l.length = L at *
       have HLN := UC hLN
       clear hLN
       go_wp2_with fail
       go_region_law (first
        | (refine Bj rfl (.tmp 49) (.tmp 52) 23 22 rfl Tryz.underlying23 M9 (w.heap.size + 2) (.slice oa n.length oc) _ vs [.slice u2a lw.length u2c] (by simp [Act.eval]) (by simp [Act.eval]) (by rw [hvl]; exact World.ownsRow.alloc (Ay (UB HVS) (UB B2)) _) (Cn w2 22 _) (by intro y hy; simp at hy; subst hy; rfl) (by rw [hvl]; simp; omega) (by have := (UB B2).size; simp; omega) ?_; intro v3 w3 o3 g3; obtain ⟨p3, k3, y3⟩ := Gh g3 o3 (by simp [hvl]) (UB HVS) (UB HVA) (UB HVD) ((UB B2).alloc (UB B2).size _) ((UB OU).alloc _) zb (by decide) (UE (UI _) (UE (UB B2) (UB KND))) (by decide); obtain ⟨v3a, v3c, rfl, _⟩ := p3.hasL.form; have co3 := US k3; have fo3 := VG k3 0)
        | (go_simp; go_at_call 84; refine (UB SL _ (UB HUd)).mono ?_; rintro e w2 ⟨u2, rfl, ou, b2⟩; obtain ⟨u2a, u2c, rfl, _⟩ := ou.lies; have OU := UC ou; have B2 := UC b2; have co2 := US (UE b2 (UB KND)); have ca2 : ∀ o, (w2.alloc o).cell? ⟨w.heap.size + 1, 0, none⟩ = some (.slice oa n.length oc) := (fun o => US (UE (UI o) (UE b2 (UB KND)))); clear ou b2))
       all_goals
        go_wp2_with fail
        go_roundg G
        case measure => omega
        case rel =>
         have k1 := (y3.block w.heap.size (by omega)).trans (UB KRD)
         simp only [List.length_append, List.length_cons, List.length_nil] at p3
         have hLN := UB HLN
         subst hLN
         have hR := UB HRR
         have z3 := VC k3
         refine ⟨n ++ [lw], [], l.length + 1, _, _, by go_num, by omega, .inr ⟨rfl, hR⟩, by simp; omega, by simp, G5, ?_, Nat.le_refl _, Dy k1 (by omega) 0 _, Av k3 _, OwnL.here (p3.kept (Ab _ _ _) (by show w.heap.size + 1 < _; omega)), World.ownsRow_nil _ _ _ _, (bd.trans (y3.mono (by omega))).setCell (by show w.heap.size ≤ w.heap.size + 1; omega) _⟩
         have := (Ab w3 ⟨w.heap.size + 1, 0, none⟩ (.slice v3a (n.length + 1) v3c)).size
         omega
      ·have hcq : ((cur.length : Int) == 0) = false := by rw [beq_eq_false_iff_ne]; omega
       clear hce hc0
       have hod := (UB HO).ownL.below (UX (w := wr))
       obtain ⟨vs, hvs, hva, hvd⟩ := hod
       have hvl : vs.length = n.length := by have := hvs.1; simpa using this
       have cn := US kn
       have knd := UE (UX (w := wr)) kn
       have krd := UE (UX (w := wr)) kr
       have bd := UG hbl (UX (w := wr))
       have cod := US knd
       have HUd := UC ((UB HCU).below (UX (w := wr)))
       have HVS := UC hvs
       have HVA := UC hva
       have HVD := UC hvd
       have zn := VC kn
       have zb : w.heap.size + 2 ≤ wr.drew.heap.size := by show w.heap.size + 2 ≤ wr.heap.size; omega
       have KND := UC knd
       have KRD := UC krd
       have ca0 : ∀ o, (wr.alloc o).cell? ⟨w.heap.size + 1, 0, none⟩ = some (.slice oa n.length oc) := fun o => US (UE (UI o) kn)
       have hcl5 : cur.length ≤ 1048576 := by omega
       have SL := UC (fun (w : World) (h : Own E 5 w (.slice ca cur.length cc) cur) => F9 h hcl5 (UB HC8))
       generalize hlw : Bi cur cur.length = lw at *
       have HLW := UC hlw
       have HRR := UC hR
       clear hlw knd krd kn kr hva hvd hvs hR
       generalize hLN : l.length = L at *
       have HLN := UC hLN
       clear hLN
       go_wp2_with fail
       go_region_law (first
        | (refine Bj rfl (.tmp 49) (.tmp 52) 23 22 rfl Tryz.underlying23 M9 (w.heap.size + 2) (.slice oa n.length oc) _ vs [.slice u2a lw.length u2c] (by simp [Act.eval]) (by simp [Act.eval]) (by rw [hvl]; exact World.ownsRow.alloc (Ay (UB HVS) (UB B2)) _) (Cn w2 22 _) (by intro y hy; simp at hy; subst hy; rfl) (by rw [hvl]; simp; omega) (by have := (UB B2).size; simp; omega) ?_; intro v3 w3 o3 g3; obtain ⟨p3, k3, y3⟩ := Gh g3 o3 (by simp [hvl]) (UB HVS) (UB HVA) (UB HVD) ((UB B2).alloc (UB B2).size _) ((UB OU).alloc _) zb (by decide) (UE (UI _) (UE (UB B2) (UB KND))) (by decide); obtain ⟨v3a, v3c, rfl, _⟩ := p3.hasL.form; have co3 := US k3; have fo3 := VG k3 0)
        | (go_simp; go_at_call 84; refine (UB SL _ (UB HUd)).mono ?_; rintro e w2 ⟨u2, rfl, ou, b2⟩; obtain ⟨u2a, u2c, rfl, _⟩ := ou.lies; have OU := UC ou; have B2 := UC b2; have co2 := US (UE b2 (UB KND)); have ca2 : ∀ o, (w2.alloc o).cell? ⟨w.heap.size + 1, 0, none⟩ = some (.slice oa n.length oc) := (fun o => US (UE (UI o) (UE b2 (UB KND)))); clear ou b2))
       all_goals
        go_wp2_with fail
        go_roundg G
        case measure => omega
        case rel =>
         have k1 := (y3.block w.heap.size (by omega)).trans (UB KRD)
         simp only [List.length_append, List.length_cons, List.length_nil] at p3
         have hLN := UB HLN
         subst hLN
         have hR := UB HRR
         have z3 := VC k3
         refine ⟨n ++ [lw], [], l.length + 1, _, _, by go_num, by omega, .inr ⟨rfl, hR⟩, by simp; omega, by simp, G5, ?_, Nat.le_refl _, Dy k1 (by omega) 0 _, Av k3 _, OwnL.here (p3.kept (Ab _ _ _) (by show w.heap.size + 1 < _; omega)), World.ownsRow_nil _ _ _ _, (bd.trans (y3.mono (by omega))).setCell (by show w.heap.size ≤ w.heap.size + 1; omega) _⟩
         have := (Ab w3 ⟨w.heap.size + 1, 0, none⟩ (.slice v3a (n.length + 1) v3c)).size
         omega
def Bz (s : ByteArray) : List Int := s.data.toList.map (fun b => (b.toNat : Int))
theorem Bq (s : ByteArray) : (Bz s).length = s.size := by simp [Bz]
theorem Gs (s : ByteArray) : Dd (Bz s) := fun k => by
 unfold Bz
 rw [List.getD_eq_getElem?_getD, List.getElem?_map]
 cases hk : s.data.toList[k]? with
 | none => simp
 | some y =>
  have := y.toNat_lt
  simp
  omega
theorem Hc (w : World) (e : TypeId) (s : ByteArray) (c : Nat) (fz : Nat × Nat) (h1 : s.size ≤ c) (h2 : c ≤ maxLen) :
  Has (w.alloc (.cells (bytesRow s c) e fz)) (.slice (some ⟨w.heap.size, 0, none⟩) s.size c) (Bz s) := by
 refine .inr ⟨w.heap.size, 0, c, by rw [Bq], by show w.heap.size < (w.heap.push _).size; simp, by rw [Bq]; exact h1, h2, fun i hi => ?_⟩
 rw [Bq] at hi
 have hi' : i < s.data.size := hi
 have hh : (w.alloc (.cells (bytesRow s c) e fz)).heap[w.heap.size]? = some (.cells (bytesRow s c) e fz) := by
  show (w.heap.push _)[w.heap.size]? = _
  simp
 have hc := bytesRow_at s c i hi'
 have hn : (Bz s).getD i 0 = (s.data[i].toNat : Int) := by
  unfold Bz
  rw [List.getD_eq_getElem?_getD, List.getElem?_map]
  rw [Array.getElem?_toList, Array.getElem?_eq_getElem hi']
  rfl
 rw [hn, Nat.zero_add]
 unfold World.cell?
 simp only [hh]
 exact hc
set_option maxHeartbeats 1000000 in
set_option maxRecDepth 100000 in
theorem Gr (s : ByteArray) (w : World) (hs : s.size ≤ 1048576) :
  Calls Tryz.prog 35 #[.string s] w fun e w' => ∃ v', e = .returned (.agg #[v']) ∧ OwnL w.heap.size 22 5 w' v' (A3 (Bz s)).1 ∧ Below w.heap.size w w' := by
 have b0 := UI (w := w) (.cells #[.slice none 0 0] 25)
 have k0 := heap_alloc_new w (.cells #[.slice none 0 0] 25)
 have hcv := run_bytes_of_string (P := Tryz.prog) (w.alloc (.cells #[.slice none 0 0] 25)) 9 22 5 s Tryz.underlying9 Tryz.underlying22 Tryz.underlying5
 have hcap := grownCap_ge (w.alloc (.cells #[.slice none 0 0] 25)) s.size 0 5
 have hcap2 := grownCap_le_maxLen (w.alloc (.cells #[.slice none 0 0] 25)) s.size 0 5 (by unfold maxLen; omega)
 have hnl := Bq s
 generalize grownCap (w.alloc (.cells #[.slice none 0 0] 25)) s.size 0 5 = C at *
 have esz : (w.alloc (.cells #[.slice none 0 0] 25)).heap.size = w.heap.size + 1 := by show (w.heap.push _).size = _; simp
 have ba := UI (w := w.alloc (.cells #[.slice none 0 0] 25)) (.cells (bytesRow s C) 5 ((bytesRow s C).size, (bytesRow s C).size + 1))
 have bd := UX (w := (w.alloc (.cells #[.slice none 0 0] 25)).alloc (.cells (bytesRow s C) 5 ((bytesRow s C).size, (bytesRow s C).size + 1)))
 have HR := Gf ((Hc (w.alloc (.cells #[.slice none 0 0] 25)) 5 s C ((bytesRow s C).size, (bytesRow s C).size + 1) hcap hcap2).below bd) (by omega) (Gs s)
 rw [esz] at HR
 have HR := UC HR
 have K1 := UC (UE bd (UE ba k0))
 have bb1 := UG (UG b0 ba) bd
 have z0 := VC k0
 have z1 := bb1.size
 have zk := VC (UB K1)
 clear k0 b0 bd ba hcap hcap2 hnl esz
 generalize (A3 (Bz s)).1 = R at *
 generalize (A3 (Bz s)).2 = R2 at *
 go_enter Tryz.func35, Tryz.ntmps35
 go_wp2_with fail
 generalize ((w.alloc (.cells #[.slice none 0 0] 25)).alloc (.cells (bytesRow s C) 5 ((bytesRow s C).size, (bytesRow s C).size + 1))).drew = W at *
 refine (UB HR).mono ?_
 rintro e w1 ⟨v1, rfl, o1, b1⟩
 obtain ⟨oa, oc, rfl, _⟩ := o1.hasL.form
 have bm := UI (w := w1) (.cells #[.slice oa R.length oc] 25)
 have cm := US (heap_alloc_new w1 (.cells #[.slice oa R.length oc] 25))
 have k2 := UE bm (UE b1 (UB K1))
 have c2 := US k2
 have f2 := VG k2 0
 have K2 := UC (Av k2 (.slice oa R.length oc))
 have O2 := UC (o1.below bm)
 have bb2 := UG (UG bb1 b1) bm
 have z2 := b1.size
 clear HR hcv o1 b1 bm k2 K1 bb1
 go_wp2_with fail
 refine bodyPost_ret (results_cell_row rfl _ _ w.heap.size 25 #[.slice oa R.length oc] (0, 0) _ rfl (UB K2) Tryz.underlying25 rfl (by kernel_rfl)) rfl ?_
 exact ⟨_, rfl, ((UB O2).kept (Ab _ _ _) (by show w.heap.size < _; omega)).mono (by omega), bb2.setCell (Nat.le_refl _) _⟩
set_option maxHeartbeats 1000000
set_option maxRecDepth 100000

def Cur (w : World) (g : Nat) (a : Option Addr) (len cap : Nat) : Prop :=
 ∃ i h : Int, w.heap[g]? = some (.cells #[.slice a len cap, .int .i64 i, .int .i64 h] 65 (0, 0)) ∧ 0 ≤ i ∧ i ≤ len

def Code (w : World) (g : Nat) (a : Option Addr) (len : Nat) : Prop :=
 ∃ l : List Int, l.length = len ∧ (∀ k, 0 ≤ l.getD k 0 ∧ l.getD k 0 ≤ 255) ∧
  (l = [] ∨ ∃ b off, a = some ⟨b, off, none⟩ ∧ b < w.heap.size ∧ b < g ∧ ∀ i, i < l.length → w.cell? ⟨b, off + i, none⟩ = some (.int .u8 (l.getD i 0)))

theorem Gv (y : Int) : 0 ≤ bits .and .i64 y 255 ∧ bits .and .i64 y 255 ≤ 255 := by
 have h : bits .and .i64 y 255 = IntKind.i64.wrap ((BitVec.ofInt 64 y &&& BitVec.ofInt 64 ((255 : Nat) : Int)).toNat : Int) := rfl
 rw [h, BitVec.toNat_and, ofInt_u64 255 (by omega)]
 have h2 : (BitVec.ofInt 64 y).toNat &&& 255 ≤ 255 := Nat.and_le_right
 rw [Az _ (by omega)]
 omega

theorem Ry {w : World} {g : Nat} {x y z : Value} {t : TypeId} (h : w.heap[g]? = some (.cells #[x, y, z] t (0, 0))) :
  w.cell? ⟨g, 0, none⟩ = some x ∧ w.cell? ⟨g, 1, none⟩ = some y ∧ w.cell? ⟨g, 2, none⟩ = some z ∧ w.frozen? ⟨g, 1, none⟩ = false ∧ w.frozen? ⟨g, 2, none⟩ = false := by
 simp [World.cell?, World.frozen?, h]

theorem set_at1 {w : World} {g : Nat} {x y z : Value} {t : TypeId} (h : w.heap[g]? = some (.cells #[x, y, z] t (0, 0))) (u : Value) : (w.setCell ⟨g, 1, none⟩ u).heap[g]? = some (.cells #[x, u, z] t (0, 0)) := by
 simp [World.setCell, Array.getElem?_modify, h]
theorem Zu {w : World} {g : Nat} {x y z : Value} {t : TypeId} (h : w.heap[g]? = some (.cells #[x, y, z] t (0, 0))) (u : Value) : (w.setCell ⟨g, 2, none⟩ u).heap[g]? = some (.cells #[x, y, u] t (0, 0)) := by
 simp [World.setCell, Array.getElem?_modify, h]

theorem Pi (w : World) (g j : Nat) (u : Value) : w.grownBy (w.setCell ⟨g, j, none⟩ u) (some g) :=
 ⟨rfl, rfl, rfl, by simp, fun k _ hk => Below.heap_setCell w ⟨g, j, none⟩ u k (fun e => hk (by rw [e]))⟩

theorem F3 (w : World) (n : Nat) (row : Option Nat) : w.grownBy (w.drewN n) row := ⟨rfl, rfl, rfl, Nat.le_refl _, fun _ _ _ => rfl⟩

theorem Eo {g : Nat} {a : Option Addr} {len cap : Nat} {w : World} (hc : Cur w g a len cap) (hL : Code w g a len) (hm : len ≤ maxLen) :
  Calls Tryz.prog 60 #[.pointer (some ⟨g, 0, none⟩)] w fun e w' => ∃ x, e = .returned (.int .i64 x) ∧ 0 ≤ x ∧ x ≤ 255 ∧ Cur w' g a len cap ∧ w.grownBy w' (some g) := by
 obtain ⟨i, h, hg, hi0, hi1⟩ := hc
 obtain ⟨c0, c1, c2, f1, f2⟩ := Ry hg
 unfold maxLen at hm
 go_enter Tryz.func60, Tryz.ntmps60
 go_wp2
 generalize hh : wrap64 (wrap64 (h * 6364136223846793005) + 1442695040888963407) = h'
 clear hh
 have hg1 := Zu hg (.int .i64 h')
 have k1 := Pi w g 2 (.int .i64 h')
 obtain ⟨l, hln, hb, hLl⟩ := hL
 have HN := UC hln
 clear hln
 have hL1 : Lies (w.setCell ⟨g, 2, none⟩ (.int .i64 h')) a l := by
  rcases hLl with rfl | ⟨b, off, rfl, hlt, hlg, hcl⟩
  ·exact .inl rfl
  ·refine .inr ⟨b, off, rfl, by simpa using hlt, fun j hj => ?_⟩
   rw [World.cell?_of_block (w := w) (k1.block b hlt (by simp; omega))]
   exact hcl j hj
 clear c0 c1 c2 f1 f2 hLl hg
 generalize w.setCell ⟨g, 2, none⟩ (.int .i64 h') = W at *
 obtain ⟨c0, c1, c2, f1, f2⟩ := Ry hg1
 have HG := UC hg1
 clear hg1
 by_cases hlt : i < len
 ·obtain ⟨j, rfl⟩ := Int.eq_ofNat_of_zero_le hi0
  obtain ⟨b, off, rfl, _, hcj⟩ := hL1.here (k := j) (by rw [UB HN]; omega)
  have hx := hb j
  generalize l.getD j 0 = x at *
  have HB := UC hb
  clear hb
  go_quiet (fail)
  go_wp2
  go_quiet (fail)
  go_wp2
  go_quiet (fail)
  go_wp2
  go_ret
  refine ⟨_, rfl, (Gv _).1, (Gv _).2, ?_, ?_⟩
  ·exact ⟨(j : Int) + 1, h', set_at1 (w := W.drewN _) (UB HG) _, by omega, by omega⟩
  ·exact Ad k1 (Ad (F3 W _ _) (Pi _ g 1 _))
 ·have hlt' : decide (i < (len : Int)) = false := by simp; omega
  go_quiet (fail)
  go_wp2
  go_quiet (fail)
  go_wp2
  go_ret
  refine ⟨_, rfl, (Gv _).1, (Gv _).2, ⟨i, h', UB HG, by omega, by omega⟩, ?_⟩
  exact Ad k1 (Ad (F3 W _ _) (F3 _ _ _))

theorem Code.later {w w' : World} {g : Nat} {a : Option Addr} {len : Nat} {row : Option Nat} (h : Code w g a len) (hg : w.grownBy w' row) (hr : ∀ j, row = some j → g ≤ j) : Code w' g a len := by
 obtain ⟨l, h1, h2, h3⟩ := h
 refine ⟨l, h1, h2, ?_⟩
 rcases h3 with rfl | ⟨b, off, rfl, hlt, hlg, hcl⟩
 ·exact .inl rfl
 ·refine .inr ⟨b, off, rfl, Nat.lt_of_lt_of_le hlt hg.size, hlg, fun j hj => ?_⟩
  rw [World.cell?_of_block (w := w) (hg.block b hlt (by intro e; have := hr b e.symm; omega))]
  exact hcl j hj

theorem Code.grown {w w' : World} {g : Nat} {a : Option Addr} {len : Nat} (h : Code w g a len) (hg : w.grownBy w' (some g)) : Code w' g a len := h.later hg (fun j e => by simp at e; omega)

theorem A9 {g : Nat} {a : Option Addr} {len cap : Nat} {w : World} (n : Int) (hc : Cur w g a len cap) (hL : Code w g a len) (hm : len ≤ maxLen) (hn0 : 1 ≤ n) (hn1 : n ≤ 1099511627776) :
  Calls Tryz.prog 32 #[.pointer (some ⟨g, 0, none⟩), .int .i64 n] w fun e w' => ∃ x, e = .returned (.int .i64 x) ∧ 0 ≤ x ∧ x < n ∧ Cur w' g a len cap ∧ w.grownBy w' (some g) := by
 have HM := UC hm
 clear hm
 by_cases h256 : n ≤ 256
 ·go_enter Tryz.func32, Tryz.ntmps32
  go_wp2_with fail
  refine (Eo hc hL (UB HM)).mono ?_
  rintro e w1 ⟨x, rfl, hx0, hx1, hc1, g1⟩
  go_wp2
  go_ret
  exact ⟨_, rfl, Int.emod_nonneg _ (by omega), Int.emod_lt_of_pos _ (by omega), hc1, g1⟩
 ·go_enter Tryz.func32, Tryz.ntmps32
  go_wp2_with fail
  refine (Eo hc hL (UB HM)).mono ?_
  rintro e w1 ⟨x1, rfl, x10, x11, hc1, g1⟩
  have hL1 := hL.grown g1
  go_wp2_with fail
  refine (Eo hc1 hL1 (UB HM)).mono ?_
  rintro e w2 ⟨x2, rfl, x20, x21, hc2, g2⟩
  have hL2 := hL1.grown g2
  go_wp2_with fail
  refine (Eo hc2 hL2 (UB HM)).mono ?_
  rintro e w3 ⟨x3, rfl, x30, x31, hc3, g3⟩
  have hL3 := hL2.grown g3
  go_wp2_with fail
  refine (Eo hc3 hL3 (UB HM)).mono ?_
  rintro e w4 ⟨x4, rfl, x40, x41, hc4, g4⟩
  go_wp2
  go_ret
  exact ⟨_, rfl, Int.emod_nonneg _ (by omega), Int.emod_lt_of_pos _ (by omega), hc4, Ad (Ad (Ad g1 g2) g3) g4⟩

theorem Cur.lt {w : World} {g : Nat} {a : Option Addr} {len cap : Nat} (h : Cur w g a len cap) : g < w.heap.size := by
 obtain ⟨i, x, h1, _⟩ := h
 exact (Array.getElem?_eq_some_iff.1 h1).1

theorem Cur.later {w w' : World} {g : Nat} {a : Option Addr} {len cap : Nat} {row : Option Nat} (h : Cur w g a len cap) (hg : w.grownBy w' row) (hr : ∀ j, row = some j → g < j) : Cur w' g a len cap := by
 have hlt := h.lt
 obtain ⟨i, x, h1, h2⟩ := h
 refine ⟨i, x, ?_, h2⟩
 rw [hg.block g hlt (by intro e; have := hr g e.symm; omega)]
 exact h1

theorem Au (w : World) (o : Obj) (row : Option Nat) : w.grownBy (w.alloc o) row := World.grownBy_alloc w o row

theorem Ae {w a b : World} {row row' : Option Nat} (h : w.grownBy a row) (k : a.grownBy b row') (hr : ∀ j, row' = some j → w.heap.size ≤ j) : w.grownBy b row :=
 ⟨k.os.trans h.os, k.tape.trans h.tape, k.output.trans h.output, Nat.le_trans h.size k.size, fun i hi hn => (k.block i (Nat.lt_of_lt_of_le hi h.size) (by intro e; have := hr i e.symm; omega)).trans (h.block i hi hn)⟩

theorem Vm {a : Option Addr} {len cap : Nat} {w : World} (l : List Int) (hL : Lies w a l) (hn : l.length = len) (hb : ∀ k, 0 ≤ l.getD k 0 ∧ l.getD k 0 ≤ 255) (hm : len ≤ maxLen) :
  Calls Tryz.prog 10 #[.slice a len cap] w fun e w' => e = .returned (.pointer (some ⟨w.heap.size, 0, none⟩)) ∧ Cur w' w.heap.size a len cap ∧ Code w' w.heap.size a len ∧ Below w.heap.size w w' := by
 have HN := UC hn
 clear hn
 have HB := UC hb
 clear hb
 unfold maxLen at hm
 go_enter Tryz.func10, Tryz.ntmps10
 go_wp2
 go_loop [3, 4] (fun hv i => ∃ (k : Nat) (h : Int), k ≤ len ∧ i = .int .i64 k ∧ hv = .int .i64 h) (fun _ i => len - (intOf i).toNat)
 case atStart => exact ⟨0, _, Nat.zero_le _, rfl, rfl⟩
 case round =>
  obtain ⟨k, h, hk, rfl, rfl⟩ := hrel
  have fin : ∀ h' : Int, Cur (w.alloc (.cells #[.slice a len cap, .int .i64 0, .int .i64 h'] 65)) w.heap.size a len cap ∧ Code (w.alloc (.cells #[.slice a len cap, .int .i64 0, .int .i64 h'] 65)) w.heap.size a len ∧ Below w.heap.size w (w.alloc (.cells #[.slice a len cap, .int .i64 0, .int .i64 h'] 65)) := by
   intro h'
   have hbl : Below w.heap.size w (w.alloc (.cells #[.slice a len cap, .int .i64 0, .int .i64 h'] 65)) := (Below.refl _ _).alloc (Nat.le_refl _) _
   refine ⟨⟨0, h', heap_alloc_new w _, by omega, by omega⟩, ⟨l, UB HN, UB HB, ?_⟩, hbl⟩
   rcases hL.below hbl with rfl | ⟨b, off, e, hlt', hcl⟩
   ·exact .inl rfl
   ·rcases hL with rfl | ⟨b', off', e', hlt, _⟩
    ·exact .inl rfl
    ·rw [e] at e'
     simp at e'
     exact .inr ⟨b, off, e, hlt', by omega, hcl⟩
  have FIN := UC fin
  clear fin
  by_cases hlt : k < len
  ·by_cases h4000 : k < 4000
   ·obtain ⟨b, off, rfl, _, hc⟩ := hL.here (k := k) (by rw [UB HN]; exact hlt)
    have hx := (UB HB) k
    generalize l.getD k 0 = x at *
    go_wp2
    exact ⟨⟨k + 1, _, by omega, by go_num, rfl⟩, by simp [intOf]; omega⟩
   ·have i4 : ¬ (k : Int) < 4000 := by omega
    go_wp2
    go_ret
    exact ⟨rfl, UB FIN _⟩
  ·go_wp2
   go_ret
   exact ⟨rfl, UB FIN _⟩
end Go.Proofs.YtfneahdnpmamkaaGreat
