/-
  Contracts of the specification's l2get. Contracts of the specification's l3get: a name.
-/
import Derived.Test.YtnloenkjfjlmeaaRrGetG09
import Derived.Test.YtnloenkjfjlmeaaRrGetG29
import Derived.Test.YtnloenkjfjlmeaaRrGetG30
import Derived.Test.YtnloenkjfjlmeaaRrGetG26
import Derived.Test.YtnloenkjfjlmeaaRrGetG06
import Derived.Test.YtnloenkjfjlmeaaRrGetG16
import Derived.Deep.LoopGhost
import Derived.Test.YtnloenkjfjlmeaaRrGetG28
namespace Go.Proofs.Ytnloenkjfjlmeaa
open Go.RowKit
set_option linter.unusedVariables false

theorem info_sl5 : (Try.prog.info? 22).map (fun i => (i.zero, i.size, i.bytes)) = some (some (.slice none 0 0), 1, 24) := by kernel_rfl

/-- What stands in each round of l2get. -/
def GotS (l : List Int) (R : List (List Int) × Int) (w : World) (f : Nat) (p e h : Value) (wr : World) : Prop :=
  ∃ (n : List (List Int)) (pi ei : Int) (hi : Nat) (o : Value), p = .int .i64 pi ∧ e = .int .i64 ei ∧ h = .int .i64 hi ∧ getName l f n pi hi ei = R ∧ f + n.length + hi = 20 ∧ n.length ≤ 6 ∧ hi ≤ 8 ∧
    pi ≤ 9223372036854775807 ∧ -1 ≤ ei ∧ ei ≤ 512 ∧ wr.heap[w.heap.size]? = some (.cells #[.slice none 0 0] 25) ∧ wr.heap[w.heap.size + 1]? = some (.cells #[o] 25) ∧
    OwnL (w.heap.size + 2) 22 5 wr o n ∧ Below w.heap.size w wr

set_option maxHeartbeats 8000000 in
set_option maxRecDepth 100000 in
theorem l2get_own {B : Nat} {v : Value} {l : List Int} (p : Int) {w : World} (h : Own B 5 w v l) (hl : l.length ≤ 512) (hp : p ≤ 9223372036854775807) (hb : Bytes8 l) :
    Calls Try.prog 118 #[v, .int .i64 p] w fun e w' => ∃ v', e = .returned (.tuple #[.agg #[v'], .int .i64 (getName l 20 [] p 0 (-1)).2]) ∧ OwnL w.heap.size 22 5 w' v' (getName l 20 [] p 0 (-1)).1 ∧ Below w.heap.size w w' := by
  obtain ⟨a, cap, rfl, hcl⟩ := h.lies
  have H := hide h
  clear h hcl
  have hB8 := hide hb
  clear hb
  generalize hR : getName l 20 [] p 0 (-1) = R
  have HR := hide hR
  clear hR
  obtain ⟨hsz, k0, r0⟩ := box2 w (.cells #[.slice none 0 0] 25) #[.slice none 0 0] 25
  have b0 := below2 w (.cells #[.slice none 0 0] 25) (.cells #[.slice none 0 0] 25)
  go_enter Try.func118, Try.ntmps118
  go_wp2
  generalize (w.alloc (.cells #[.slice none 0 0] 25)).alloc (.cells #[.slice none 0 0] 25) = W at *
  go_loopg [1, 7, 8] 20 (fun f p e h wr => GotS l R w f p e h wr)
  case atStart => exact ⟨[], p, -1, 0, .slice none 0 0, rfl, rfl, rfl, unhide HR, rfl, by simp, by omega, hp, by omega, by omega, k0, r0, ⟨[], by simpa using World.ownsRow_nil _ _ _ _, by simp, by simp⟩, b0⟩
  case round =>
    clear k0 r0 b0 HR hsz
    obtain ⟨n, pi, ei, hi, o, rfl, rfl, rfl, hR, hf, hn6, hh8, hpi, he0, he1, kr, kn, ho, hbl⟩ := hrel
    obtain ⟨f, rfl⟩ : ∃ f, gk = f + 1 := ⟨gk - 1, by omega⟩
    rw [getName] at hR
    obtain ⟨oa, oc, rfl, _⟩ := ho.hasL.form
    have HO := hide ho
    clear ho
    have cr := block_one kr
    have fr := block_frozen kr 0
    have cn := block_one kn
    have znn := block_lt kn
    have M0 := hide (block_set kr (.slice none 0 0))
    have OK := hide ((unhide H).below hbl)
    by_cases h1 : pi < 0 ∨ (l.length : Int) ≤ pi
    · rw [if_pos h1] at hR
      obtain rfl := hR
      rcases h1 with h1 | h1
      · go_wp2_with fail
        refine bodyPost_ret (results_cell_tmp_row rfl _ _ w.heap.size 25 #[.slice none 0 0] (0, 0) _ rfl (unhide M0) Try.underlying25 rfl (by kernel_rfl)) rfl ?_
        exact ⟨_, rfl, ⟨[], by simpa using World.ownsRow_nil _ _ _ _, by simp, by simp⟩, hbl.setCell (Nat.le_refl _) _⟩
      · have h1' : ¬ pi < 0 := by omega
        go_wp2_with fail
        refine bodyPost_ret (results_cell_tmp_row rfl _ _ w.heap.size 25 #[.slice none 0 0] (0, 0) _ rfl (unhide M0) Try.underlying25 rfl (by kernel_rfl)) rfl ?_
        exact ⟨_, rfl, ⟨[], by simpa using World.ownsRow_nil _ _ _ _, by simp, by simp⟩, hbl.setCell (Nat.le_refl _) _⟩
    · rw [if_neg h1] at hR
      obtain ⟨i, rfl⟩ := Int.eq_ofNat_of_zero_le (show 0 ≤ pi by omega)
      have hil : i < l.length := by omega
      obtain ⟨a', cap', e', hLi⟩ := (unhide OK).lies
      obtain ⟨rfl, rfl⟩ : a = a' ∧ cap = cap' := by simpa using e'
      obtain ⟨b, off, rfl, hbk, hcx⟩ := hLi.here hil
      clear e' hLi
      simp only [Int.toNat_natCast] at hR
      have hx := unhide hB8 i
      generalize l.getD i 0 = x at *
      have hll : (i : Int) < (l.length : Int) := by omega
      have hi0 : ¬ (i : Int) < 0 := by omega
      generalize hLN : l.length = L at *
      have HLN := hide hLN
      clear hLN h1
      by_cases hx0 : x = 0
      · rw [if_pos hx0] at hR
        subst hx0
        have HNO := specNameOk_has (unhide HO).hasL
        cases hok : nameOk n with
        | false =>
          rw [hok] at HNO hR
          rw [if_neg (by simp)] at hR
          obtain rfl := hR
          clear hok
          have HNO := hide HNO
          by_cases he : ei < 0
          all_goals
            go_wp2_with fail
            refine (unhide HNO).mono ?_
            rintro e w1 ⟨rfl, b1⟩
            have k1 := block_kept b1 kr
            have c1 := block_one k1
            have f1 := block_frozen k1 0
            have M1 := hide (block_set k1 (.slice none 0 0))
            have bb1 := below_next hbl b1
            clear kr kn cr fr cn k1 b1 M0
            go_wp2_with fail
            refine bodyPost_ret (results_cell_tmp_row rfl _ _ w.heap.size 25 #[.slice none 0 0] (0, 0) _ rfl (unhide M1) Try.underlying25 rfl (by kernel_rfl)) rfl ?_
            exact ⟨_, rfl, ⟨[], by simpa using World.ownsRow_nil _ _ _ _, by simp, by simp⟩, bb1.setCell (Nat.le_refl _) _⟩
        | true =>
          rw [hok] at HNO hR
          rw [if_pos rfl] at hR
          clear hok
          have HNO := hide HNO
          by_cases he : ei < 0
          all_goals
            first | rw [if_pos he] at hR | rw [if_neg he] at hR
            obtain rfl := hR
            go_wp2_with fail
            refine (unhide HNO).mono ?_
            rintro e w1 ⟨rfl, b1⟩
            have k1 := block_kept b1 kr
            have c1 := block_one k1
            have cn1 := block_one (block_kept b1 kn)
            have f1 := block_frozen k1 0
            have M1 := hide (block_set k1 (.slice oa n.length oc))
            have bb1 := below_next hbl b1
            have O1 := hide ((unhide HO).below b1)
            clear kr kn cr fr cn k1 b1 M0
            go_wp2_with fail
            refine bodyPost_ret (results_cell_tmp_row rfl _ _ w.heap.size 25 #[.slice oa n.length oc] (0, 0) _ rfl (unhide M1) Try.underlying25 rfl (by kernel_rfl)) rfl ?_
            exact ⟨_, rfl, ((unhide O1).kept (grown_setCell _ _ _) (by show w.heap.size < _; omega)).mono (by omega), bb1.setCell (Nat.le_refl _) _⟩
      · rw [if_neg hx0] at hR
        by_cases hx1 : 192 ≤ x
        · rw [if_pos hx1] at hR
          have hG := specGet16_any (i : Int) (unhide OK) (by rw [unhide HLN]; omega) (unhide hB8)
          have hgb := get16_bound (unhide hB8) (i : Int)
          have hg2 : (get16 l (i : Int)).2 ≤ 512 := by unfold get16; split <;> simp only [] <;> (have := unhide HLN; omega)
          generalize (get16 l (i : Int)).1 = t at *
          generalize (get16 l (i : Int)).2 = nx at *
          have HG := hide hG
          clear hG
          by_cases hc : nx < 0 ∨ (i : Int) ≤ t - 49152 ∨ 8 ≤ hi
          · rw [if_pos hc] at hR
            obtain rfl := hR
            have hc' : nx < 0 ∨ (¬ nx < 0 ∧ (i : Int) ≤ t - 49152) ∨ (¬ nx < 0 ∧ ¬ (i : Int) ≤ t - 49152 ∧ (8 : Int) ≤ hi) := by omega
            clear hc
            rcases hc' with hc | ⟨hc1, hc2⟩ | ⟨hc1, hc2, hc3⟩
            all_goals
              go_wp2_with fail
              refine (unhide HG).mono ?_
              rintro e w1 ⟨rfl, b1⟩
              have k1 := block_kept b1 kr
              have c1 := block_one k1
              have f1 := block_frozen k1 0
              have M1 := hide (block_set k1 (.slice none 0 0))
              have bb1 := below_next hbl b1
              clear kr kn cr fr cn k1 b1 M0
              go_wp2_with fail
              refine bodyPost_ret (results_cell_tmp_row rfl _ _ w.heap.size 25 #[.slice none 0 0] (0, 0) _ rfl (unhide M1) Try.underlying25 rfl (by kernel_rfl)) rfl ?_
              exact ⟨_, rfl, ⟨[], by simpa using World.ownsRow_nil _ _ _ _, by simp, by simp⟩, bb1.setCell (Nat.le_refl _) _⟩
          · rw [if_neg hc] at hR
            have hc1 : ¬ nx < 0 := by omega
            have hc2 : ¬ (i : Int) ≤ t - 49152 := by omega
            have hc3 : ¬ (8 : Int) ≤ hi := by omega
            have HRR := hide hR
            clear hR hc
            by_cases he : ei < 0
            all_goals
              go_wp2_with fail
              refine (unhide HG).mono ?_
              rintro e w1 ⟨rfl, b1⟩
              have bb1 := below_next hbl b1
              have k1 := block_kept b1 kr
              have kn1 := block_kept b1 kn
              have O1 := hide ((unhide HO).below b1)
              clear kr kn cr fr cn b1 M0
              go_wp2_with fail
              go_roundg f
              case measure => omega
              case rel =>
                have hR := unhide HRR
                first | rw [if_pos he] at hR | rw [if_neg (by omega)] at hR
                refine ⟨n, t - 49152, _, hi + 1, _, ?_, rfl, ?_, hR, by omega, hn6, by omega, by omega, by omega, by omega, k1, kn1, unhide O1, bb1⟩
                · rfl
                · go_num
        · rw [if_neg hx1] at hR
          by_cases hc : 15 < x ∨ 6 ≤ n.length
          · rw [if_pos hc] at hR
            obtain rfl := hR
            have hc' : 15 < x ∨ (¬ 15 < x ∧ (6 : Int) ≤ n.length) := by omega
            clear hc
            rcases hc' with hc | ⟨hc1, hc2⟩
            all_goals
              go_wp2_with fail
              refine bodyPost_ret (results_cell_tmp_row rfl _ _ w.heap.size 25 #[.slice none 0 0] (0, 0) _ rfl (unhide M0) Try.underlying25 rfl (by kernel_rfl)) rfl ?_
              exact ⟨_, rfl, ⟨[], by simpa using World.ownsRow_nil _ _ _ _, by simp, by simp⟩, hbl.setCell (Nat.le_refl _) _⟩
          · rw [if_neg hc] at hR
            have hc1 : ¬ 15 < x := by omega
            have hc2 : ¬ (6 : Int) ≤ n.length := by omega
            clear hc
            have hT := specTake_any ((i : Int) + 1) x (unhide OK) (by rw [unhide HLN]; omega) (by omega)
            have hb8 := bytes8_take (unhide hB8) ((i : Int) + 1) x
            have htl : (takeOf l ((i : Int) + 1) x).1.length ≤ 512 := by have := takeOf_length l ((i : Int) + 1) x; have := unhide HLN; omega
            have ht2 : (takeOf l ((i : Int) + 1) x).2 ≤ 512 := by unfold takeOf; split <;> simp only [] <;> (have := unhide HLN; omega)
            generalize (takeOf l ((i : Int) + 1) x).1 = tx at *
            generalize (takeOf l ((i : Int) + 1) x).2 = nx at *
            have HT := hide hT
            have HB := hide hb8
            clear hT hb8
            by_cases hc : nx < 0
            · rw [if_pos hc] at hR
              obtain rfl := hR
              go_wp2_with fail
              refine (unhide HT).mono ?_
              rintro e w1 ⟨v1, rfl, o1, b1⟩
              have k1 := block_kept b1 kr
              have c1 := block_one k1
              have f1 := block_frozen k1 0
              have M1 := hide (block_set k1 (.slice none 0 0))
              have bb1 := below_next hbl b1
              clear kr kn cr fr cn k1 b1 M0 o1
              go_wp2_with fail
              refine bodyPost_ret (results_cell_tmp_row rfl _ _ w.heap.size 25 #[.slice none 0 0] (0, 0) _ rfl (unhide M1) Try.underlying25 rfl (by kernel_rfl)) rfl ?_
              exact ⟨_, rfl, ⟨[], by simpa using World.ownsRow_nil _ _ _ _, by simp, by simp⟩, bb1.setCell (Nat.le_refl _) _⟩
            · rw [if_neg hc] at hR
              have HRR := hide hR
              clear hR
              go_wp2_with fail
              refine (unhide HT).mono ?_
              rintro e w1 ⟨v1, rfl, o1, b1⟩
              have bb1 := below_next hbl b1
              have k1 := block_kept b1 kr
              have kn1 := block_kept b1 kn
              have O1 := hide ((unhide HO).below b1)
              have z1 := b1.size
              obtain ⟨va, vc, rfl, _⟩ := o1.lies
              have OT := hide o1
              clear kr kn cr fr cn b1 M0 HO o1
              have hod := (unhide O1).below (below_drew (w := w1))
              obtain ⟨vs, hvs, hva, hvd⟩ := hod
              have hvl : vs.length = n.length := by have := hvs.1; simpa using this
              have knd := block_kept (below_drew (w := w1)) kn1
              have krd := block_kept (below_drew (w := w1)) k1
              have bd := below_next bb1 (below_drew (w := w1))
              have cod := block_one knd
              have HUd := hide ((unhide OT).below (below_drew (w := w1)))
              have HVS := hide hvs
              have HVA := hide hva
              have HVD := hide hvd
              have zn := block_lt kn1
              have zb : w.heap.size + 2 ≤ w1.drew.heap.size := by show w.heap.size + 2 ≤ w1.heap.size; omega
              clear hva hvd hvs
              have KND := hide knd
              have KRD := hide krd
              have ca0 : ∀ o, (w1.alloc o).cell? ⟨w.heap.size + 1, 0, none⟩ = some (.slice oa n.length oc) := fun o => block_one (block_kept (below_alloc o) kn1)
              generalize hlw : lowered tx tx.length = lw at *
              have HLW := hide hlw
              clear hlw knd krd k1 kn1
              have SL := hide (fun (w : World) (h : Own wr.heap.size 5 w (.slice va tx.length vc) tx) => specLower_any h (by omega) (unhide HB))
              rw [unhide HLW] at SL
              go_wp2_with fail
              go_region_law (first
                | (refine step_append_row rfl (.tmp 40) (.tmp 43) 23 22 rfl Try.underlying23 info_sl5 (w.heap.size + 2) (.slice oa n.length oc) _ vs [.slice u2a lw.length u2c] (by simp [Act.eval]) (by simp [Act.eval]) (by rw [hvl]; exact World.ownsRow.alloc (ownsRow_kept' (unhide HVS) (unhide B2)) _) (one_more w2 22 _) (by intro y hy; simp at hy; subst hy; rfl) (by rw [hvl]; simp; omega) (by have := (unhide B2).size; simp; omega) ?_; intro v3 w3 o3 g3; obtain ⟨p3, k3, y3⟩ := snoc_step g3 o3 rfl (unhide HVS) (unhide HVA) (unhide HVD) ((unhide B2).alloc (unhide B2).size _) ((unhide OU).alloc _) zb (by decide) (block_kept (below_alloc _) (block_kept (unhide B2) (unhide KND))) (by decide); obtain ⟨v3a, v3c, rfl, _⟩ := p3.hasL.form; have co3 := block_one k3; have fo3 := block_frozen k3 0)
                | (go_simp; go_at_call 81; refine (unhide SL _ (unhide HUd)).mono ?_; rintro e w2 ⟨u2, rfl, ou, b2⟩; obtain ⟨u2a, u2c, rfl, _⟩ := ou.lies; have OU := hide ou; have B2 := hide b2; have co2 := block_one (block_kept b2 (unhide KND)); have ca2 : ∀ o, (w2.alloc o).cell? ⟨w.heap.size + 1, 0, none⟩ = some (.slice oa n.length oc) := (fun o => block_one (block_kept (below_alloc o) (block_kept b2 (unhide KND)))); clear ou b2))
              all_goals
                go_wp2_with fail
                go_roundg f
                case measure => omega
                case rel =>
                  have k1 := (y3.block w.heap.size (by omega)).trans (unhide KRD)
                  simp only [List.length_append, List.length_cons, List.length_nil] at p3
                  refine ⟨n ++ [lw], nx, ei, hi, _, rfl, rfl, rfl, unhide HRR, by simp; omega, by simp; omega, by omega, by omega, by omega, by omega, block_other k1 (by omega) 0 _, block_set k3 _, ?_, (bd.trans (y3.mono (by omega))).setCell (by show w.heap.size ≤ w.heap.size + 1; omega) _⟩
                  exact p3.kept (grown_setCell _ _ _) (by show w.heap.size + 1 < _; omega)
end Go.Proofs.Ytnloenkjfjlmeaa

namespace Go.Proofs.Ytnloenkjfjlmeaa
open Go.RowKit
set_option linter.unusedVariables false

set_option maxHeartbeats 2000000 in
set_option maxRecDepth 100000 in
theorem l3get_N {B : Nat} {v : Value} {l : List Int} {t : Int} (p n : Int) {w : World} (ht : t = 2 ∨ t = 5 ∨ t = 12) (h : Own B 5 w v l) (hl : l.length ≤ 512) (hp : p ≤ 9223372036854775807) (hn0 : -70000 ≤ n) (hn1 : n ≤ 70000) (hb : Bytes8 l) :
    Calls Try.prog 85 #[.int .i64 t, v, .int .i64 p, .int .i64 n] w (GivesG w (kindGet t l p).1 (good t l p n)) := by
  have he := nameGet_end l p
  have hnm : named t = true := by rcases ht with rfl | rfl | rfl <;> rfl
  have hty : typeOk t = true := by rcases ht with rfl | rfl | rfl <;> rfl
  have t1 : (t == 1) = false := by rw [beq_eq_false_iff_ne]; omega
  have t6 : (t == 6) = false := by rw [beq_eq_false_iff_ne]; omega
  have hkg : kindGet t l p = (⟨[], t, 0, 0, (nameGet l p).1, [], []⟩, (nameGet l p).2) := by unfold kindGet; rw [if_neg (by omega), if_neg (by omega), if_pos hnm]
  unfold good
  rw [hkg]
  obtain ⟨hsz, k0, r0⟩ := box2 w (.cells #[.slice none 0 0, .int .i64 0, .int .i64 0, .int .i64 0, .slice none 0 0, .slice none 0 0, .slice none 0 0] 50) #[.slice none 0 0, .int .i64 t, .int .i64 0, .int .i64 0, .slice none 0 0, .slice none 0 0, .slice none 0 0] 50
  have b0 := below2 w (.cells #[.slice none 0 0, .int .i64 0, .int .i64 0, .int .i64 0, .slice none 0 0, .slice none 0 0, .slice none 0 0] 50) (.cells #[.slice none 0 0, .int .i64 t, .int .i64 0, .int .i64 0, .slice none 0 0, .slice none 0 0, .slice none 0 0] 50)
  have HG := l2get_own p (h.below b0) hl hp hb
  have hgn : getName l 20 [] p 0 (-1) = nameGet l p := by unfold nameGet; rw [if_neg (by omega)]
  rw [hgn] at HG
  replace HG := hide HG
  have HN := l3named_any t ((w.alloc (.cells #[.slice none 0 0, .int .i64 0, .int .i64 0, .int .i64 0, .slice none 0 0, .slice none 0 0, .slice none 0 0] 50)).alloc (.cells #[.slice none 0 0, .int .i64 t, .int .i64 0, .int .i64 0, .slice none 0 0, .slice none 0 0, .slice none 0 0] 50)) hty
  rw [hnm] at HN
  replace HN := hide HN
  obtain ⟨a, cap, rfl, _⟩ := h.lies
  dsimp only
  clear h hkg hb hnm hty ht hgn
  generalize (nameGet l p).1 = g1 at *
  generalize (nameGet l p).2 = g2 at *
  have K0 := hide k0
  have V0 := hide r0
  clear k0 r0
  generalize hRes : (decide (0 ≤ g2 ∧ g2 = p + n) && rrOk ⟨[], t, 0, 0, g1, [], []⟩) = Res
  have HRES := hide hRes
  clear hRes
  generalize hLN : l.length = L at *
  clear hLN
  go_enter Try.func85, Try.ntmps85
  go_wp2_with fail
  generalize (w.alloc (.cells #[.slice none 0 0, .int .i64 0, .int .i64 0, .int .i64 0, .slice none 0 0, .slice none 0 0, .slice none 0 0] 50)).alloc (.cells #[.slice none 0 0, .int .i64 t, .int .i64 0, .int .i64 0, .slice none 0 0, .slice none 0 0, .slice none 0 0] 50) = W at *
  refine (unhide HN).mono ?_
  rintro e w0 ⟨rfl, rfl⟩
  go_wp2_with fail
  refine (unhide HG).mono ?_
  rintro e w1 ⟨v1, rfl, o1, b1⟩
  obtain ⟨oa, oc, rfl, _⟩ := o1.hasL.form
  have K1 := hide (block_kept b1 (unhide K0))
  have V1 := hide (block_kept b1 (unhide V0))
  have O1 := hide o1.here
  have bb1 := below_next b0 b1
  have z1 := b1.size
  clear HG HN K0 V0 b0 b1 o1
  obtain ⟨f0, f1, f2, f3, f4, f5, f6⟩ := cells7 (unhide V1)
  obtain ⟨q0, q1, q2, q3, q4, q5, q6⟩ := frozen7 (unhide V1)
  go_wp2_with fail
  clear f0 f1 f2 f3 f4 f5 f6 q0 q1 q2 q3 q4 q5 q6
  have u2 := outside_set w1 (w.heap.size + 1) 4 (.slice oa g1.length oc)
  have V2 : (w1.setCell ⟨w.heap.size + 1, 4, none⟩ (.slice oa g1.length oc)).heap[w.heap.size + 1]? = some (.cells #[.slice none 0 0, .int .i64 t, .int .i64 0, .int .i64 0, .slice oa g1.length oc, .slice none 0 0, .slice none 0 0] 50) := block_setAt (unhide V1) 4 _
  have K2 := hide (u2.kept (unhide K1) (by omega))
  have bb2 := u2.below bb1 (by omega)
  have z2 := u2.size
  replace V2 := hide V2
  have O2 := hide ((unhide O1).outside u2 (by omega))
  generalize w1.setCell ⟨w.heap.size + 1, 4, none⟩ (.slice oa g1.length oc) = w2 at *
  clear K1 V1 bb1 u2 O1
  have HR := hide (show OwnR (w.heap.size + 2) w2.heap.size 22 5 3 w2 (.slice none 0 0) (.slice oa g1.length oc) (.slice none 0 0) (.slice none 0 0) ⟨[], t, 0, 0, g1, [], []⟩ from ⟨w.heap.size + 2, w2.heap.size, w2.heap.size, Nat.le_refl _, by omega, Nat.le_refl _, Nat.le_refl _, ownN_nil _ _ _ _ _, (unhide O2).wide (by omega) (by omega), ownB_nil _ _ _ _, ownBI_nil _ _ _ _⟩)
  clear O2
  -- the last region
  have bd := below_drew (w := w2)
  have K3 := hide (block_kept bd (unhide K2))
  have V3 := hide (block_kept bd (unhide V2))
  have HR3 := hide ((unhide HR).below bd)
  have bb3 := below_next bb2 bd
  have z3 := bd.size
  clear V2 HR bb2 bd
  by_cases hneg : g2 < 0
  · have hRes := unhide HRES
    rw [decide_eq_false (by omega), Bool.false_and] at hRes
    subst hRes
    obtain rfl : g2 = -1 := by omega
    clear he hneg
    refine wp_region_noPanic ?_
    refine wp_region_held_drew (S := (fun w' => w'.cell? ⟨w.heap.size + 1, 0, none⟩ = some (.slice none 0 0) ∧ w'.cell? ⟨w.heap.size + 1, 1, none⟩ = some (.int .i64 t) ∧ w'.cell? ⟨w.heap.size + 1, 2, none⟩ = some (.int .i64 0) ∧ w'.cell? ⟨w.heap.size + 1, 3, none⟩ = some (.int .i64 0) ∧ w'.cell? ⟨w.heap.size + 1, 4, none⟩ = some (.slice oa g1.length oc) ∧ w'.cell? ⟨w.heap.size + 1, 5, none⟩ = some (.slice none 0 0) ∧ w'.cell? ⟨w.heap.size + 1, 6, none⟩ = some (.slice none 0 0))) (by kernel_rfl) (cells7 (unhide V3)) (fun hHeld => ?_)
    refine wpAnyH_take (i := 0) (oi := { dst := some 91, op := Op.load 50 (Operand.tmp 10), type := 50, pos := "l03_record.go:144", after := #[], guard := none }) (v := .agg #[.slice none 0 0, .int .i64 t, .int .i64 0, .int .i64 0, .slice oa g1.length oc, .slice none 0 0, .slice none 0 0]) rfl (by kernel_rfl) (by kernel_rfl) (by kernel_rfl) (fun _ _ _ h => h) (Or.inl ⟨by rfl, fun w hSw => by (try dsimp only at hSw); go_simp⟩) hHeld ?_
    simp only [Act.put, List.setIfInBounds_toArray, List.set_cons_zero, List.set_cons_succ]
    refine wpAnyH_take (i := 1) (oi := { dst := some 92, op := Op.move (Operand.tmp 11), type := 3, pos := "l03_record.go:144", after := #[], guard := none }) (v := .int .i64 (-1)) rfl (by kernel_rfl) (by kernel_rfl) (by kernel_rfl) (fun _ _ _ h => h) (Or.inl ⟨by rfl, fun w hSw => by (try dsimp only at hSw); go_simp⟩) hHeld ?_
    simp only [Act.put, List.setIfInBounds_toArray, List.set_cons_zero, List.set_cons_succ]
    refine wpAnyH_take (i := 2) (oi := { dst := some 93, op := Op.binOp BinOp.geq 3 (Operand.tmp 92) (Operand.const (Value.int IntKind.i64 0)) 3, type := 4, pos := "l03_record.go:144", after := #[{ on := 1, ground := Ground.data }], guard := none }) (v := .bool false) rfl (by kernel_rfl) (by kernel_rfl) (by kernel_rfl) (fun _ _ _ h => h) (Or.inl ⟨by rfl, fun w hSw => by (try dsimp only at hSw); go_simp⟩) hHeld ?_
    simp only [Act.put, List.setIfInBounds_toArray, List.set_cons_zero, List.set_cons_succ]
    refine wpAnyH_take (i := 3) (oi := { dst := some 94, op := Op.move (Operand.tmp 93), type := 4, pos := "l03_record.go:144", after := #[{ on := 2, ground := Ground.data }], guard := none }) (v := .bool false) rfl (by kernel_rfl) (by kernel_rfl) (by kernel_rfl) (fun _ _ _ h => h) (Or.inl ⟨by rfl, fun w hSw => by (try dsimp only at hSw); go_simp⟩) hHeld ?_
    simp only [Act.put, List.setIfInBounds_toArray, List.set_cons_zero, List.set_cons_succ]
    refine wpAnyH_take (i := 4) (oi := { dst := some 95, op := Op.move (Operand.tmp 11), type := 3, pos := "l03_record.go:144", after := #[{ on := 3, ground := Ground.guard }], guard := some (3, true) }) (v := undef) rfl (by kernel_rfl) (by kernel_rfl) (by kernel_rfl) (fun _ _ _ h => h) (Or.inr ⟨by rfl, rfl⟩) hHeld ?_
    simp only [Act.put, List.setIfInBounds_toArray, List.set_cons_zero, List.set_cons_succ]
    refine wpAnyH_take (i := 5) (oi := { dst := some 96, op := Op.move (Operand.tmp 2), type := 3, pos := "l03_record.go:144", after := #[{ on := 3, ground := Ground.guard }], guard := some (3, true) }) (v := undef) rfl (by kernel_rfl) (by kernel_rfl) (by kernel_rfl) (fun _ _ _ h => h) (Or.inr ⟨by rfl, rfl⟩) hHeld ?_
    simp only [Act.put, List.setIfInBounds_toArray, List.set_cons_zero, List.set_cons_succ]
    refine wpAnyH_take (i := 6) (oi := { dst := some 97, op := Op.move (Operand.tmp 3), type := 3, pos := "l03_record.go:144", after := #[{ on := 3, ground := Ground.guard }], guard := some (3, true) }) (v := undef) rfl (by kernel_rfl) (by kernel_rfl) (by kernel_rfl) (fun _ _ _ h => h) (Or.inr ⟨by rfl, rfl⟩) hHeld ?_
    simp only [Act.put, List.setIfInBounds_toArray, List.set_cons_zero, List.set_cons_succ]
    refine wpAnyH_take (i := 7) (oi := { dst := some 98, op := Op.binOp BinOp.add 3 (Operand.tmp 96) (Operand.tmp 97) 3, type := 3, pos := "l03_record.go:144", after := #[{ on := 5, ground := Ground.data }, { on := 6, ground := Ground.data }, { on := 3, ground := Ground.guard }], guard := some (3, true) }) (v := undef) rfl (by kernel_rfl) (by kernel_rfl) (by kernel_rfl) (fun _ _ _ h => h) (Or.inr ⟨by rfl, rfl⟩) hHeld ?_
    simp only [Act.put, List.setIfInBounds_toArray, List.set_cons_zero, List.set_cons_succ]
    refine wpAnyH_take (i := 8) (oi := { dst := some 99, op := Op.binOp BinOp.eql 3 (Operand.tmp 95) (Operand.tmp 98) 3, type := 4, pos := "l03_record.go:144", after := #[{ on := 4, ground := Ground.data }, { on := 7, ground := Ground.data }, { on := 3, ground := Ground.guard }], guard := some (3, true) }) (v := undef) rfl (by kernel_rfl) (by kernel_rfl) (by kernel_rfl) (fun _ _ _ h => h) (Or.inr ⟨by rfl, rfl⟩) hHeld ?_
    simp only [Act.put, List.setIfInBounds_toArray, List.set_cons_zero, List.set_cons_succ]
    refine wpAnyH_take (i := 9) (oi := { dst := some 100, op := Op.pick (Operand.tmp 94) (Operand.tmp 99) (Operand.const (Value.bool false)), type := 4, pos := "l03_record.go:144", after := #[{ on := 3, ground := Ground.data }, { on := 8, ground := Ground.data }], guard := none }) (v := .bool false) rfl (by kernel_rfl) (by kernel_rfl) (by kernel_rfl) (fun _ _ _ h => h) (Or.inl ⟨by rfl, fun w hSw => by (try dsimp only at hSw); go_simp⟩) hHeld ?_
    simp only [Act.put, List.setIfInBounds_toArray, List.set_cons_zero, List.set_cons_succ]
    refine wpAnyH_take (i := 10) (oi := { dst := some 101, op := Op.move (Operand.tmp 100), type := 4, pos := "l03_record.go:144", after := #[{ on := 9, ground := Ground.data }, { on := 3, ground := Ground.chain }], guard := none }) (v := .bool false) rfl (by kernel_rfl) (by kernel_rfl) (by kernel_rfl) (fun _ _ _ h => h) (Or.inl ⟨by rfl, fun w hSw => by (try dsimp only at hSw); go_simp⟩) hHeld ?_
    simp only [Act.put, List.setIfInBounds_toArray, List.set_cons_zero, List.set_cons_succ]
    refine wpAnyH_take (i := 11) (oi := { dst := some 102, op := Op.load 50 (Operand.tmp 10), type := 50, pos := "l03_record.go:144", after := #[{ on := 10, ground := Ground.guard }], guard := some (10, true) }) (v := undef) rfl (by kernel_rfl) (by kernel_rfl) (by kernel_rfl) (fun _ _ _ h => h) (Or.inr ⟨by rfl, rfl⟩) hHeld ?_
    simp only [Act.put, List.setIfInBounds_toArray, List.set_cons_zero, List.set_cons_succ]
    refine wpAnyH_take (i := 12) (oi := { dst := some 103, op := Op.call { callee := Callee.value (Operand.func 31), args := #[Operand.tmp 102], argTypes := #[50] }, type := 4, pos := "l03_record.go:144", after := #[{ on := 11, ground := Ground.data }, { on := 10, ground := Ground.chain }, { on := 10, ground := Ground.guard }], guard := some (10, true) }) (v := undef) rfl (by kernel_rfl) (by kernel_rfl) (by kernel_rfl) (fun _ _ _ h => h) (Or.inr ⟨by rfl, rfl⟩) hHeld ?_
    simp only [Act.put, List.setIfInBounds_toArray, List.set_cons_zero, List.set_cons_succ]
    refine wpAnyH_take (i := 13) (oi := { dst := some 104, op := Op.pick (Operand.tmp 101) (Operand.tmp 103) (Operand.const (Value.bool false)), type := 4, pos := "l03_record.go:144", after := #[{ on := 10, ground := Ground.data }, { on := 12, ground := Ground.data }, { on := 14, ground := Ground.gcOnly Departure.lateStores }], guard := none }) (v := .bool false) rfl (by kernel_rfl) (by kernel_rfl) (by kernel_rfl) (fun _ _ _ h => h) (Or.inl ⟨by rfl, fun w hSw => by (try dsimp only at hSw); go_simp⟩) hHeld ?_
    simp only [Act.put, List.setIfInBounds_toArray, List.set_cons_zero, List.set_cons_succ]
    obtain ⟨R9, u9⟩ := set7 (c0 := .slice none 0 0) (c1 := .int .i64 t) (c2 := .int .i64 0) (c3 := .int .i64 0) (c4 := .slice oa g1.length oc) (c5 := .slice none 0 0) (c6 := .slice none 0 0) (unhide K3)
    refine wpAnyH_ready (rs := [14]) (by kernel_rfl) (by simp) (AllReadyH.cons (o := { dst := none, op := Op.store 50 (Operand.tmp 8) (Operand.tmp 91), type := 0, pos := "l03_record.go:144", after := #[{ on := 0, ground := Ground.data }, { on := 12, ground := Ground.chain }, { on := 0, ground := Ground.phase }, { on := 1, ground := Ground.textOnly Departure.lateStores }, { on := 2, ground := Ground.textOnly Departure.lateStores }, { on := 3, ground := Ground.textOnly Departure.lateStores }, { on := 4, ground := Ground.textOnly Departure.lateStores }, { on := 5, ground := Ground.textOnly Departure.lateStores }, { on := 6, ground := Ground.textOnly Departure.lateStores }, { on := 7, ground := Ground.textOnly Departure.lateStores }, { on := 8, ground := Ground.textOnly Departure.lateStores }, { on := 9, ground := Ground.textOnly Departure.lateStores }, { on := 10, ground := Ground.textOnly Departure.lateStores }, { on := 11, ground := Ground.textOnly Departure.lateStores }, { on := 12, ground := Ground.textOnly Departure.lateStoresUnsure }, { on := 13, ground := Ground.textOnly Departure.lateStores }], guard := none }) rfl (fun K hK => ?_) AllReadyH.nil)
    rw [if_pos (by rfl)]
    refine wp_store7 50 (.tmp 8) (.tmp 91) rfl w.heap.size (.slice none 0 0) (.int .i64 t) (.int .i64 0) (.int .i64 0) (.slice oa g1.length oc) (.slice none 0 0) (.slice none 0 0) rfl rfl (unhide K3) (by kernel_rfl) (by simp [Value.oneCell']) ?_
    refine hK.out _ _ (cells7 (u9.kept (unhide V3) (by omega))) (fun hHeld => ?_)
    clear hK K
    generalize (((((((w2.drew.setCell ⟨w.heap.size, 0, none⟩ (.slice none 0 0)).setCell ⟨w.heap.size, 1, none⟩ (.int .i64 t)).setCell ⟨w.heap.size, 2, none⟩ (.int .i64 0)).setCell ⟨w.heap.size, 3, none⟩ (.int .i64 0)).setCell ⟨w.heap.size, 4, none⟩ (.slice oa g1.length oc)).setCell ⟨w.heap.size, 5, none⟩ (.slice none 0 0)).setCell ⟨w.heap.size, 6, none⟩ (.slice none 0 0)) = w9 at *
    simp only [Act.put]
    refine wpAnyH_take (i := 15) (oi := { dst := some 9, op := Op.assign (Operand.tmp 104), type := 4, pos := "l03_record.go:144", after := #[{ on := 13, ground := Ground.data }, { on := 14, ground := Ground.chain }, { on := 0, ground := Ground.phase }, { on := 1, ground := Ground.phase }, { on := 2, ground := Ground.phase }, { on := 3, ground := Ground.phase }, { on := 4, ground := Ground.phase }, { on := 5, ground := Ground.phase }, { on := 6, ground := Ground.phase }, { on := 7, ground := Ground.phase }, { on := 8, ground := Ground.phase }, { on := 9, ground := Ground.phase }, { on := 10, ground := Ground.phase }, { on := 11, ground := Ground.phase }, { on := 12, ground := Ground.phase }, { on := 13, ground := Ground.phase }, { on := 14, ground := Ground.phase }], guard := none }) (v := .bool false) rfl (by kernel_rfl) (by kernel_rfl) (by kernel_rfl) (fun _ _ _ h => h) (Or.inl ⟨by rfl, fun w hSw => by (try dsimp only at hSw); go_simp⟩) hHeld ?_
    simp only [Act.put, List.setIfInBounds_toArray, List.set_cons_zero, List.set_cons_succ]
    refine wpAnyH_done (by kernel_rfl) (NoPanic.normal ?_) _
    go_wp2_with fail
    refine bodyPost_ret (results_cell_tmp_row rfl _ _ w.heap.size 50 #[.slice none 0 0, .int .i64 t, .int .i64 0, .int .i64 0, .slice oa g1.length oc, .slice none 0 0, .slice none 0 0] (0, 0) _ rfl R9 Try.underlying50 rfl (by kernel_rfl)) rfl ?_
    have z9 := u9.size
    exact ⟨⟨[], t, 0, 0, g1, [], []⟩, ⟨_, _, _, _, rfl, ((unhide HR3).outside u9 (by omega)).wide (by omega) (by omega), u9.below bb3 (by omega)⟩, fun q => by cases q⟩
  have hge : 0 ≤ g2 := by omega
  have hp0 : 0 ≤ p := by omega
  by_cases hne : g2 ≠ p + n
  · have hRes := unhide HRES
    rw [decide_eq_false (by omega), Bool.false_and] at hRes
    subst hRes
    obtain ⟨sm, hsm⟩ : ∃ s, s = p + n := ⟨_, rfl⟩
    have hne' : (g2 == sm) = false := by rw [beq_eq_false_iff_ne, hsm]; exact hne
    have hw : IntKind.i64.wrap (p + n) = sm := by rw [IntWalk.i64_in _ (by omega), hsm]
    clear hsm hne he hneg
    refine wp_region_noPanic ?_
    refine wp_region_held_drew (S := (fun w' => w'.cell? ⟨w.heap.size + 1, 0, none⟩ = some (.slice none 0 0) ∧ w'.cell? ⟨w.heap.size + 1, 1, none⟩ = some (.int .i64 t) ∧ w'.cell? ⟨w.heap.size + 1, 2, none⟩ = some (.int .i64 0) ∧ w'.cell? ⟨w.heap.size + 1, 3, none⟩ = some (.int .i64 0) ∧ w'.cell? ⟨w.heap.size + 1, 4, none⟩ = some (.slice oa g1.length oc) ∧ w'.cell? ⟨w.heap.size + 1, 5, none⟩ = some (.slice none 0 0) ∧ w'.cell? ⟨w.heap.size + 1, 6, none⟩ = some (.slice none 0 0))) (by kernel_rfl) (cells7 (unhide V3)) (fun hHeld => ?_)
    refine wpAnyH_take (i := 0) (oi := { dst := some 91, op := Op.load 50 (Operand.tmp 10), type := 50, pos := "l03_record.go:144", after := #[], guard := none }) (v := .agg #[.slice none 0 0, .int .i64 t, .int .i64 0, .int .i64 0, .slice oa g1.length oc, .slice none 0 0, .slice none 0 0]) rfl (by kernel_rfl) (by kernel_rfl) (by kernel_rfl) (fun _ _ _ h => h) (Or.inl ⟨by rfl, fun w hSw => by (try dsimp only at hSw); go_simp⟩) hHeld ?_
    simp only [Act.put, List.setIfInBounds_toArray, List.set_cons_zero, List.set_cons_succ]
    refine wpAnyH_take (i := 1) (oi := { dst := some 92, op := Op.move (Operand.tmp 11), type := 3, pos := "l03_record.go:144", after := #[], guard := none }) (v := .int .i64 g2) rfl (by kernel_rfl) (by kernel_rfl) (by kernel_rfl) (fun _ _ _ h => h) (Or.inl ⟨by rfl, fun w hSw => by (try dsimp only at hSw); go_simp⟩) hHeld ?_
    simp only [Act.put, List.setIfInBounds_toArray, List.set_cons_zero, List.set_cons_succ]
    refine wpAnyH_take (i := 2) (oi := { dst := some 93, op := Op.binOp BinOp.geq 3 (Operand.tmp 92) (Operand.const (Value.int IntKind.i64 0)) 3, type := 4, pos := "l03_record.go:144", after := #[{ on := 1, ground := Ground.data }], guard := none }) (v := .bool true) rfl (by kernel_rfl) (by kernel_rfl) (by kernel_rfl) (fun _ _ _ h => h) (Or.inl ⟨by rfl, fun w hSw => by (try dsimp only at hSw); go_simp⟩) hHeld ?_
    simp only [Act.put, List.setIfInBounds_toArray, List.set_cons_zero, List.set_cons_succ]
    refine wpAnyH_take (i := 3) (oi := { dst := some 94, op := Op.move (Operand.tmp 93), type := 4, pos := "l03_record.go:144", after := #[{ on := 2, ground := Ground.data }], guard := none }) (v := .bool true) rfl (by kernel_rfl) (by kernel_rfl) (by kernel_rfl) (fun _ _ _ h => h) (Or.inl ⟨by rfl, fun w hSw => by (try dsimp only at hSw); go_simp⟩) hHeld ?_
    simp only [Act.put, List.setIfInBounds_toArray, List.set_cons_zero, List.set_cons_succ]
    refine wpAnyH_take (i := 4) (oi := { dst := some 95, op := Op.move (Operand.tmp 11), type := 3, pos := "l03_record.go:144", after := #[{ on := 3, ground := Ground.guard }], guard := some (3, true) }) (v := .int .i64 g2) rfl (by kernel_rfl) (by kernel_rfl) (by kernel_rfl) (fun _ _ _ h => h) (Or.inl ⟨by rfl, fun w hSw => by (try dsimp only at hSw); go_simp⟩) hHeld ?_
    simp only [Act.put, List.setIfInBounds_toArray, List.set_cons_zero, List.set_cons_succ]
    refine wpAnyH_take (i := 5) (oi := { dst := some 96, op := Op.move (Operand.tmp 2), type := 3, pos := "l03_record.go:144", after := #[{ on := 3, ground := Ground.guard }], guard := some (3, true) }) (v := .int .i64 p) rfl (by kernel_rfl) (by kernel_rfl) (by kernel_rfl) (fun _ _ _ h => h) (Or.inl ⟨by rfl, fun w hSw => by (try dsimp only at hSw); go_simp⟩) hHeld ?_
    simp only [Act.put, List.setIfInBounds_toArray, List.set_cons_zero, List.set_cons_succ]
    refine wpAnyH_take (i := 6) (oi := { dst := some 97, op := Op.move (Operand.tmp 3), type := 3, pos := "l03_record.go:144", after := #[{ on := 3, ground := Ground.guard }], guard := some (3, true) }) (v := .int .i64 n) rfl (by kernel_rfl) (by kernel_rfl) (by kernel_rfl) (fun _ _ _ h => h) (Or.inl ⟨by rfl, fun w hSw => by (try dsimp only at hSw); go_simp⟩) hHeld ?_
    simp only [Act.put, List.setIfInBounds_toArray, List.set_cons_zero, List.set_cons_succ]
    refine wpAnyH_take (i := 7) (oi := { dst := some 98, op := Op.binOp BinOp.add 3 (Operand.tmp 96) (Operand.tmp 97) 3, type := 3, pos := "l03_record.go:144", after := #[{ on := 5, ground := Ground.data }, { on := 6, ground := Ground.data }, { on := 3, ground := Ground.guard }], guard := some (3, true) }) (v := .int .i64 sm) rfl (by kernel_rfl) (by kernel_rfl) (by kernel_rfl) (fun _ _ _ h => h) (Or.inl ⟨by rfl, fun w hSw => by (try dsimp only at hSw); go_simp⟩) hHeld ?_
    simp only [Act.put, List.setIfInBounds_toArray, List.set_cons_zero, List.set_cons_succ]
    refine wpAnyH_take (i := 8) (oi := { dst := some 99, op := Op.binOp BinOp.eql 3 (Operand.tmp 95) (Operand.tmp 98) 3, type := 4, pos := "l03_record.go:144", after := #[{ on := 4, ground := Ground.data }, { on := 7, ground := Ground.data }, { on := 3, ground := Ground.guard }], guard := some (3, true) }) (v := .bool false) rfl (by kernel_rfl) (by kernel_rfl) (by kernel_rfl) (fun _ _ _ h => h) (Or.inl ⟨by rfl, fun w hSw => by (try dsimp only at hSw); go_simp⟩) hHeld ?_
    simp only [Act.put, List.setIfInBounds_toArray, List.set_cons_zero, List.set_cons_succ]
    refine wpAnyH_take (i := 9) (oi := { dst := some 100, op := Op.pick (Operand.tmp 94) (Operand.tmp 99) (Operand.const (Value.bool false)), type := 4, pos := "l03_record.go:144", after := #[{ on := 3, ground := Ground.data }, { on := 8, ground := Ground.data }], guard := none }) (v := .bool false) rfl (by kernel_rfl) (by kernel_rfl) (by kernel_rfl) (fun _ _ _ h => h) (Or.inl ⟨by rfl, fun w hSw => by (try dsimp only at hSw); go_simp⟩) hHeld ?_
    simp only [Act.put, List.setIfInBounds_toArray, List.set_cons_zero, List.set_cons_succ]
    refine wpAnyH_take (i := 10) (oi := { dst := some 101, op := Op.move (Operand.tmp 100), type := 4, pos := "l03_record.go:144", after := #[{ on := 9, ground := Ground.data }, { on := 3, ground := Ground.chain }], guard := none }) (v := .bool false) rfl (by kernel_rfl) (by kernel_rfl) (by kernel_rfl) (fun _ _ _ h => h) (Or.inl ⟨by rfl, fun w hSw => by (try dsimp only at hSw); go_simp⟩) hHeld ?_
    simp only [Act.put, List.setIfInBounds_toArray, List.set_cons_zero, List.set_cons_succ]
    refine wpAnyH_take (i := 11) (oi := { dst := some 102, op := Op.load 50 (Operand.tmp 10), type := 50, pos := "l03_record.go:144", after := #[{ on := 10, ground := Ground.guard }], guard := some (10, true) }) (v := undef) rfl (by kernel_rfl) (by kernel_rfl) (by kernel_rfl) (fun _ _ _ h => h) (Or.inr ⟨by rfl, rfl⟩) hHeld ?_
    simp only [Act.put, List.setIfInBounds_toArray, List.set_cons_zero, List.set_cons_succ]
    refine wpAnyH_take (i := 12) (oi := { dst := some 103, op := Op.call { callee := Callee.value (Operand.func 31), args := #[Operand.tmp 102], argTypes := #[50] }, type := 4, pos := "l03_record.go:144", after := #[{ on := 11, ground := Ground.data }, { on := 10, ground := Ground.chain }, { on := 10, ground := Ground.guard }], guard := some (10, true) }) (v := undef) rfl (by kernel_rfl) (by kernel_rfl) (by kernel_rfl) (fun _ _ _ h => h) (Or.inr ⟨by rfl, rfl⟩) hHeld ?_
    simp only [Act.put, List.setIfInBounds_toArray, List.set_cons_zero, List.set_cons_succ]
    refine wpAnyH_take (i := 13) (oi := { dst := some 104, op := Op.pick (Operand.tmp 101) (Operand.tmp 103) (Operand.const (Value.bool false)), type := 4, pos := "l03_record.go:144", after := #[{ on := 10, ground := Ground.data }, { on := 12, ground := Ground.data }, { on := 14, ground := Ground.gcOnly Departure.lateStores }], guard := none }) (v := .bool false) rfl (by kernel_rfl) (by kernel_rfl) (by kernel_rfl) (fun _ _ _ h => h) (Or.inl ⟨by rfl, fun w hSw => by (try dsimp only at hSw); go_simp⟩) hHeld ?_
    simp only [Act.put, List.setIfInBounds_toArray, List.set_cons_zero, List.set_cons_succ]
    obtain ⟨R9, u9⟩ := set7 (c0 := .slice none 0 0) (c1 := .int .i64 t) (c2 := .int .i64 0) (c3 := .int .i64 0) (c4 := .slice oa g1.length oc) (c5 := .slice none 0 0) (c6 := .slice none 0 0) (unhide K3)
    refine wpAnyH_ready (rs := [14]) (by kernel_rfl) (by simp) (AllReadyH.cons (o := { dst := none, op := Op.store 50 (Operand.tmp 8) (Operand.tmp 91), type := 0, pos := "l03_record.go:144", after := #[{ on := 0, ground := Ground.data }, { on := 12, ground := Ground.chain }, { on := 0, ground := Ground.phase }, { on := 1, ground := Ground.textOnly Departure.lateStores }, { on := 2, ground := Ground.textOnly Departure.lateStores }, { on := 3, ground := Ground.textOnly Departure.lateStores }, { on := 4, ground := Ground.textOnly Departure.lateStores }, { on := 5, ground := Ground.textOnly Departure.lateStores }, { on := 6, ground := Ground.textOnly Departure.lateStores }, { on := 7, ground := Ground.textOnly Departure.lateStores }, { on := 8, ground := Ground.textOnly Departure.lateStores }, { on := 9, ground := Ground.textOnly Departure.lateStores }, { on := 10, ground := Ground.textOnly Departure.lateStores }, { on := 11, ground := Ground.textOnly Departure.lateStores }, { on := 12, ground := Ground.textOnly Departure.lateStoresUnsure }, { on := 13, ground := Ground.textOnly Departure.lateStores }], guard := none }) rfl (fun K hK => ?_) AllReadyH.nil)
    rw [if_pos (by rfl)]
    refine wp_store7 50 (.tmp 8) (.tmp 91) rfl w.heap.size (.slice none 0 0) (.int .i64 t) (.int .i64 0) (.int .i64 0) (.slice oa g1.length oc) (.slice none 0 0) (.slice none 0 0) rfl rfl (unhide K3) (by kernel_rfl) (by simp [Value.oneCell']) ?_
    refine hK.out _ _ (cells7 (u9.kept (unhide V3) (by omega))) (fun hHeld => ?_)
    clear hK K
    generalize (((((((w2.drew.setCell ⟨w.heap.size, 0, none⟩ (.slice none 0 0)).setCell ⟨w.heap.size, 1, none⟩ (.int .i64 t)).setCell ⟨w.heap.size, 2, none⟩ (.int .i64 0)).setCell ⟨w.heap.size, 3, none⟩ (.int .i64 0)).setCell ⟨w.heap.size, 4, none⟩ (.slice oa g1.length oc)).setCell ⟨w.heap.size, 5, none⟩ (.slice none 0 0)).setCell ⟨w.heap.size, 6, none⟩ (.slice none 0 0)) = w9 at *
    simp only [Act.put]
    refine wpAnyH_take (i := 15) (oi := { dst := some 9, op := Op.assign (Operand.tmp 104), type := 4, pos := "l03_record.go:144", after := #[{ on := 13, ground := Ground.data }, { on := 14, ground := Ground.chain }, { on := 0, ground := Ground.phase }, { on := 1, ground := Ground.phase }, { on := 2, ground := Ground.phase }, { on := 3, ground := Ground.phase }, { on := 4, ground := Ground.phase }, { on := 5, ground := Ground.phase }, { on := 6, ground := Ground.phase }, { on := 7, ground := Ground.phase }, { on := 8, ground := Ground.phase }, { on := 9, ground := Ground.phase }, { on := 10, ground := Ground.phase }, { on := 11, ground := Ground.phase }, { on := 12, ground := Ground.phase }, { on := 13, ground := Ground.phase }, { on := 14, ground := Ground.phase }], guard := none }) (v := .bool false) rfl (by kernel_rfl) (by kernel_rfl) (by kernel_rfl) (fun _ _ _ h => h) (Or.inl ⟨by rfl, fun w hSw => by (try dsimp only at hSw); go_simp⟩) hHeld ?_
    simp only [Act.put, List.setIfInBounds_toArray, List.set_cons_zero, List.set_cons_succ]
    refine wpAnyH_done (by kernel_rfl) (NoPanic.normal ?_) _
    go_wp2_with fail
    refine bodyPost_ret (results_cell_tmp_row rfl _ _ w.heap.size 50 #[.slice none 0 0, .int .i64 t, .int .i64 0, .int .i64 0, .slice oa g1.length oc, .slice none 0 0, .slice none 0 0] (0, 0) _ rfl R9 Try.underlying50 rfl (by kernel_rfl)) rfl ?_
    have z9 := u9.size
    exact ⟨⟨[], t, 0, 0, g1, [], []⟩, ⟨_, _, _, _, rfl, ((unhide HR3).outside u9 (by omega)).wide (by omega) (by omega), u9.below bb3 (by omega)⟩, fun q => by cases q⟩
  · have hRes := unhide HRES
    rw [decide_eq_true ⟨hge, by omega⟩, Bool.true_and] at hRes
    subst hRes
    have hw : IntKind.i64.wrap (p + n) = g2 := by rw [IntWalk.i64_in _ (by omega)]; omega
    have HO := specRrOk_has (unhide HR3).hasR
    dsimp only at HO
    replace HO := hide HO
    clear HRES he hneg hne
    first | (go_region_held3 (fun w' => w'.cell? ⟨w.heap.size + 1, 0, none⟩ = some (.slice none 0 0) ∧ w'.cell? ⟨w.heap.size + 1, 1, none⟩ = some (.int .i64 t) ∧ w'.cell? ⟨w.heap.size + 1, 2, none⟩ = some (.int .i64 0) ∧ w'.cell? ⟨w.heap.size + 1, 3, none⟩ = some (.int .i64 0) ∧ w'.cell? ⟨w.heap.size + 1, 4, none⟩ = some (.slice oa g1.length oc) ∧ w'.cell? ⟨w.heap.size + 1, 5, none⟩ = some (.slice none 0 0) ∧ w'.cell? ⟨w.heap.size + 1, 6, none⟩ = some (.slice none 0 0))
        (first | with_reducible exact cells7 (unhide V3) | with_reducible exact cells7 (unhide V6) | exact cells7 ((set7 (c0 := .slice none 0 0) (c1 := .int .i64 t) (c2 := .int .i64 0) (c3 := .int .i64 0) (c4 := .slice oa g1.length oc) (c5 := .slice none 0 0) (c6 := .slice none 0 0) (unhide K6)).2.kept (unhide V6) (by omega)))
        (first
        | (go_at_call 31; refine (unhide HO).mono ?_; rintro e w6 ⟨rfl, b6⟩; have z6 := b6.size; have K6 := hide (block_kept b6 (unhide K3)); have V6 := hide (block_kept b6 (unhide V3)); obtain ⟨f0, f1, f2, f3, f4, f5, f6⟩ := cells7 (unhide K6); obtain ⟨q0, q1, q2, q3, q4, q5, q6⟩ := frozen7 (unhide K6)))) | fail
    all_goals
      (try go_wp2_with fail)
      obtain ⟨R9, u9⟩ := set7 (c0 := .slice none 0 0) (c1 := .int .i64 t) (c2 := .int .i64 0) (c3 := .int .i64 0) (c4 := .slice oa g1.length oc) (c5 := .slice none 0 0) (c6 := .slice none 0 0) (unhide K6)
      refine bodyPost_ret (results_cell_tmp_row rfl _ _ w.heap.size 50 #[.slice none 0 0, .int .i64 t, .int .i64 0, .int .i64 0, .slice oa g1.length oc, .slice none 0 0, .slice none 0 0] (0, 0) _ rfl R9 Try.underlying50 rfl (by kernel_rfl)) rfl ?_
      have z9 := u9.size
      exact ⟨⟨[], t, 0, 0, g1, [], []⟩, ⟨_, _, _, _, rfl, (((unhide HR3).below b6).outside u9 (by omega)).wide (by omega) (by omega), u9.below (below_next bb3 b6) (by omega)⟩, fun q => rfl⟩
end Go.Proofs.Ytnloenkjfjlmeaa
