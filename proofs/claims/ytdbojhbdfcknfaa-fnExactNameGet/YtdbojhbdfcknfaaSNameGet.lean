/-
  Contracts of the specification's l2get and NameGet.
-/
import Derived.Test.YtdbojhbdfcknfaaNameG
import Derived.Test.YtdbojhbdfcknfaaSGet16
import Derived.Test.YtdbojhbdfcknfaaSTake
import Derived.Test.YtdbojhbdfcknfaaSLower
import Derived.Test.YtdbojhbdfcknfaaSNameOk
import Derived.Test.YtdbojhbdfcknfaaRows2
import Derived.Test.YtdbojhbdfcknfaaSteps
import Derived.Deep.LoopGhost
namespace Go.Proofs.Ytdbojhbdfcknfaa
open Go.RowKit
set_option linter.unusedVariables false

theorem info_sl5 : (Try.prog.info? 22).map (fun i => (i.zero, i.size, i.bytes)) = some (some (.slice none 0 0), 1, 24) := by kernel_rfl

/-- What stands in each round of l2get. -/
def GotS (l : List Int) (R : List (List Int) × Int) (w : World) (f : Nat) (p e h : Value) (wr : World) : Prop :=
  ∃ (n : List (List Int)) (pi ei : Int) (hi : Nat) (o : Value), p = .int .i64 pi ∧ e = .int .i64 ei ∧ h = .int .i64 hi ∧ getName l f n pi hi ei = R ∧ f + n.length + hi = 20 ∧ n.length ≤ 6 ∧ hi ≤ 8 ∧
    pi ≤ 9223372036854775807 ∧ -1 ≤ ei ∧ ei ≤ 512 ∧ wr.heap[w.heap.size]? = some (.cells #[.slice none 0 0] 25) ∧ wr.heap[w.heap.size + 1]? = some (.cells #[o] 25) ∧
    OwnL (w.heap.size + 2) 22 5 wr o n ∧ Below w.heap.size w wr

set_option maxHeartbeats 8000000 in
set_option maxRecDepth 100000 in
theorem l2get_own {B : Nat} {v : Value} {l : List Int} (p : Int) {w : World} (h : Own B 5 w v l) (hl : l.length ≤ 512) (hp : p ≤ 9223372036854775807) (hb : Bytes8 l) :
    Calls Try.prog 116 #[v, .int .i64 p] w fun e w' => ∃ v', e = .returned (.tuple #[.agg #[v'], .int .i64 (getName l 20 [] p 0 (-1)).2]) ∧ OwnL w.heap.size 22 5 w' v' (getName l 20 [] p 0 (-1)).1 ∧ Below w.heap.size w w' := by
  obtain ⟨a, cap, rfl, hcl⟩ := h.lies
  have H := hide h
  clear h hcl
  have hB8 := hide hb
  clear hb
  generalize hR : getName l 20 [] p 0 (-1) = R
  have HR := hide hR
  clear hR
  obtain ⟨hsz, k0, r0⟩ := box2 w (.cells #[.slice none 0 0] 25) #[.slice none 0 0] 25
  have b0 := below2 w (.cells #[.slice none 0 0] 25) (.cells #[.slice none 0 0] 25)
  go_enter Try.func116, Try.ntmps116
  go_wp2
  generalize (w.alloc (.cells #[.slice none 0 0] 25)).alloc (.cells #[.slice none 0 0] 25) = W at *
  go_loopg [1, 7, 8] 20 (fun f p e h wr => GotS l R w f p e h wr)
  case atStart => exact ⟨[], p, -1, 0, .slice none 0 0, rfl, rfl, rfl, unhide HR, rfl, by simp, by omega, hp, by omega, by omega, k0, r0, ⟨[], by simpa using World.ownsRow_nil _ _ _ _, by simp, by simp⟩, b0⟩
  case round =>
    clear k0 r0 b0 HR hsz
    obtain ⟨n, pi, ei, hi, o, rfl, rfl, rfl, hR, hf, hn6, hh8, hpi, he0, he1, kr, kn, ho, hbl⟩ := hrel
    obtain ⟨f, rfl⟩ : ∃ f, gk = f + 1 := ⟨gk - 1, by omega⟩
    rw [getName] at hR
    obtain ⟨oa, oc, rfl, _⟩ := ho.hasL.form
    have HO := hide ho
    clear ho
    have cr := block_one kr
    have fr := block_frozen kr 0
    have cn := block_one kn
    have znn := block_lt kn
    have M0 := hide (block_set kr (.slice none 0 0))
    have OK := hide ((unhide H).below hbl)
    by_cases h1 : pi < 0 ∨ (l.length : Int) ≤ pi
    · rw [if_pos h1] at hR
      obtain rfl := hR
      rcases h1 with h1 | h1
      · go_wp2_with fail
        refine bodyPost_ret (results_cell_tmp_row rfl _ _ w.heap.size 25 #[.slice none 0 0] (0, 0) _ rfl (unhide M0) Try.underlying25 rfl (by kernel_rfl)) rfl ?_
        exact ⟨_, rfl, ⟨[], by simpa using World.ownsRow_nil _ _ _ _, by simp, by simp⟩, hbl.setCell (Nat.le_refl _) _⟩
      · have h1' : ¬ pi < 0 := by omega
        go_wp2_with fail
        refine bodyPost_ret (results_cell_tmp_row rfl _ _ w.heap.size 25 #[.slice none 0 0] (0, 0) _ rfl (unhide M0) Try.underlying25 rfl (by kernel_rfl)) rfl ?_
        exact ⟨_, rfl, ⟨[], by simpa using World.ownsRow_nil _ _ _ _, by simp, by simp⟩, hbl.setCell (Nat.le_refl _) _⟩
    · rw [if_neg h1] at hR
      obtain ⟨i, rfl⟩ := Int.eq_ofNat_of_zero_le (show 0 ≤ pi by omega)
      have hil : i < l.length := by omega
      obtain ⟨a', cap', e', hLi⟩ := (unhide OK).lies
      obtain ⟨rfl, rfl⟩ : a = a' ∧ cap = cap' := by simpa using e'
      obtain ⟨b, off, rfl, hbk, hcx⟩ := hLi.here hil
      clear e' hLi
      simp only [Int.toNat_natCast] at hR
      have hx := unhide hB8 i
      generalize l.getD i 0 = x at *
      have hll : (i : Int) < (l.length : Int) := by omega
      have hi0 : ¬ (i : Int) < 0 := by omega
      generalize hLN : l.length = L at *
      have HLN := hide hLN
      clear hLN h1
      by_cases hx0 : x = 0
      · rw [if_pos hx0] at hR
        subst hx0
        have HNO := specNameOk_has (unhide HO).hasL
        cases hok : nameOk n with
        | false =>
          rw [hok] at HNO hR
          rw [if_neg (by simp)] at hR
          obtain rfl := hR
          clear hok
          have HNO := hide HNO
          by_cases he : ei < 0
          all_goals
            go_wp2_with fail
            refine (unhide HNO).mono ?_
            rintro e w1 ⟨rfl, b1⟩
            have k1 := block_kept b1 kr
            have c1 := block_one k1
            have f1 := block_frozen k1 0
            have M1 := hide (block_set k1 (.slice none 0 0))
            have bb1 := below_next hbl b1
            clear kr kn cr fr cn k1 b1 M0
            go_wp2_with fail
            refine bodyPost_ret (results_cell_tmp_row rfl _ _ w.heap.size 25 #[.slice none 0 0] (0, 0) _ rfl (unhide M1) Try.underlying25 rfl (by kernel_rfl)) rfl ?_
            exact ⟨_, rfl, ⟨[], by simpa using World.ownsRow_nil _ _ _ _, by simp, by simp⟩, bb1.setCell (Nat.le_refl _) _⟩
        | true =>
          rw [hok] at HNO hR
          rw [if_pos rfl] at hR
          clear hok
          have HNO := hide HNO
          by_cases he : ei < 0
          all_goals
            first | rw [if_pos he] at hR | rw [if_neg he] at hR
            obtain rfl := hR
            go_wp2_with fail
            refine (unhide HNO).mono ?_
            rintro e w1 ⟨rfl, b1⟩
            have k1 := block_kept b1 kr
            have c1 := block_one k1
            have cn1 := block_one (block_kept b1 kn)
            have f1 := block_frozen k1 0
            have M1 := hide (block_set k1 (.slice oa n.length oc))
            have bb1 := below_next hbl b1
            have O1 := hide ((unhide HO).below b1)
            clear kr kn cr fr cn k1 b1 M0
            go_wp2_with fail
            refine bodyPost_ret (results_cell_tmp_row rfl _ _ w.heap.size 25 #[.slice oa n.length oc] (0, 0) _ rfl (unhide M1) Try.underlying25 rfl (by kernel_rfl)) rfl ?_
            exact ⟨_, rfl, ((unhide O1).kept (grown_setCell _ _ _) (by show w.heap.size < _; omega)).mono (by omega), bb1.setCell (Nat.le_refl _) _⟩
      · rw [if_neg hx0] at hR
        by_cases hx1 : 192 ≤ x
        · rw [if_pos hx1] at hR
          have hG := specGet16_any (i : Int) (unhide OK) (by rw [unhide HLN]; omega) (unhide hB8)
          have hgb := get16_bound (unhide hB8) (i : Int)
          have hg2 : (get16 l (i : Int)).2 ≤ 512 := by unfold get16; split <;> simp only [] <;> (have := unhide HLN; omega)
          generalize (get16 l (i : Int)).1 = t at *
          generalize (get16 l (i : Int)).2 = nx at *
          have HG := hide hG
          clear hG
          by_cases hc : nx < 0 ∨ (i : Int) ≤ t - 49152 ∨ 8 ≤ hi
          · rw [if_pos hc] at hR
            obtain rfl := hR
            have hc' : nx < 0 ∨ (¬ nx < 0 ∧ (i : Int) ≤ t - 49152) ∨ (¬ nx < 0 ∧ ¬ (i : Int) ≤ t - 49152 ∧ (8 : Int) ≤ hi) := by omega
            clear hc
            rcases hc' with hc | ⟨hc1, hc2⟩ | ⟨hc1, hc2, hc3⟩
            all_goals
              go_wp2_with fail
              refine (unhide HG).mono ?_
              rintro e w1 ⟨rfl, b1⟩
              have k1 := block_kept b1 kr
              have c1 := block_one k1
              have f1 := block_frozen k1 0
              have M1 := hide (block_set k1 (.slice none 0 0))
              have bb1 := below_next hbl b1
              clear kr kn cr fr cn k1 b1 M0
              go_wp2_with fail
              refine bodyPost_ret (results_cell_tmp_row rfl _ _ w.heap.size 25 #[.slice none 0 0] (0, 0) _ rfl (unhide M1) Try.underlying25 rfl (by kernel_rfl)) rfl ?_
              exact ⟨_, rfl, ⟨[], by simpa using World.ownsRow_nil _ _ _ _, by simp, by simp⟩, bb1.setCell (Nat.le_refl _) _⟩
          · rw [if_neg hc] at hR
            have hc1 : ¬ nx < 0 := by omega
            have hc2 : ¬ (i : Int) ≤ t - 49152 := by omega
            have hc3 : ¬ (8 : Int) ≤ hi := by omega
            have HRR := hide hR
            clear hR hc
            by_cases he : ei < 0
            all_goals
              go_wp2_with fail
              refine (unhide HG).mono ?_
              rintro e w1 ⟨rfl, b1⟩
              have bb1 := below_next hbl b1
              have k1 := block_kept b1 kr
              have kn1 := block_kept b1 kn
              have O1 := hide ((unhide HO).below b1)
              clear kr kn cr fr cn b1 M0
              go_wp2_with fail
              go_roundg f
              case measure => omega
              case rel =>
                have hR := unhide HRR
                first | rw [if_pos he] at hR | rw [if_neg (by omega)] at hR
                refine ⟨n, t - 49152, _, hi + 1, _, ?_, rfl, ?_, hR, by omega, hn6, by omega, by omega, by omega, by omega, k1, kn1, unhide O1, bb1⟩
                · rfl
                · go_num
        · rw [if_neg hx1] at hR
          by_cases hc : 15 < x ∨ 6 ≤ n.length
          · rw [if_pos hc] at hR
            obtain rfl := hR
            have hc' : 15 < x ∨ (¬ 15 < x ∧ (6 : Int) ≤ n.length) := by omega
            clear hc
            rcases hc' with hc | ⟨hc1, hc2⟩
            all_goals
              go_wp2_with fail
              refine bodyPost_ret (results_cell_tmp_row rfl _ _ w.heap.size 25 #[.slice none 0 0] (0, 0) _ rfl (unhide M0) Try.underlying25 rfl (by kernel_rfl)) rfl ?_
              exact ⟨_, rfl, ⟨[], by simpa using World.ownsRow_nil _ _ _ _, by simp, by simp⟩, hbl.setCell (Nat.le_refl _) _⟩
          · rw [if_neg hc] at hR
            have hc1 : ¬ 15 < x := by omega
            have hc2 : ¬ (6 : Int) ≤ n.length := by omega
            clear hc
            have hT := specTake_any ((i : Int) + 1) x (unhide OK) (by rw [unhide HLN]; omega) (by omega)
            have hb8 := bytes8_take (unhide hB8) ((i : Int) + 1) x
            have htl : (takeOf l ((i : Int) + 1) x).1.length ≤ 512 := by have := takeOf_length l ((i : Int) + 1) x; have := unhide HLN; omega
            have ht2 : (takeOf l ((i : Int) + 1) x).2 ≤ 512 := by unfold takeOf; split <;> simp only [] <;> (have := unhide HLN; omega)
            generalize (takeOf l ((i : Int) + 1) x).1 = tx at *
            generalize (takeOf l ((i : Int) + 1) x).2 = nx at *
            have HT := hide hT
            have HB := hide hb8
            clear hT hb8
            by_cases hc : nx < 0
            · rw [if_pos hc] at hR
              obtain rfl := hR
              go_wp2_with fail
              refine (unhide HT).mono ?_
              rintro e w1 ⟨v1, rfl, o1, b1⟩
              have k1 := block_kept b1 kr
              have c1 := block_one k1
              have f1 := block_frozen k1 0
              have M1 := hide (block_set k1 (.slice none 0 0))
              have bb1 := below_next hbl b1
              clear kr kn cr fr cn k1 b1 M0 o1
              go_wp2_with fail
              refine bodyPost_ret (results_cell_tmp_row rfl _ _ w.heap.size 25 #[.slice none 0 0] (0, 0) _ rfl (unhide M1) Try.underlying25 rfl (by kernel_rfl)) rfl ?_
              exact ⟨_, rfl, ⟨[], by simpa using World.ownsRow_nil _ _ _ _, by simp, by simp⟩, bb1.setCell (Nat.le_refl _) _⟩
            · rw [if_neg hc] at hR
              have HRR := hide hR
              clear hR
              go_wp2_with fail
              refine (unhide HT).mono ?_
              rintro e w1 ⟨v1, rfl, o1, b1⟩
              have bb1 := below_next hbl b1
              have k1 := block_kept b1 kr
              have kn1 := block_kept b1 kn
              have O1 := hide ((unhide HO).below b1)
              have z1 := b1.size
              obtain ⟨va, vc, rfl, _⟩ := o1.lies
              have OT := hide o1
              clear kr kn cr fr cn b1 M0 HO o1
              have hod := (unhide O1).below (below_drew (w := w1))
              obtain ⟨vs, hvs, hva, hvd⟩ := hod
              have hvl : vs.length = n.length := by have := hvs.1; simpa using this
              have knd := block_kept (below_drew (w := w1)) kn1
              have krd := block_kept (below_drew (w := w1)) k1
              have bd := below_next bb1 (below_drew (w := w1))
              have cod := block_one knd
              have HUd := hide ((unhide OT).below (below_drew (w := w1)))
              have HVS := hide hvs
              have HVA := hide hva
              have HVD := hide hvd
              have zn := block_lt kn1
              have zb : w.heap.size + 2 ≤ w1.drew.heap.size := by show w.heap.size + 2 ≤ w1.heap.size; omega
              clear hva hvd hvs
              have KND := hide knd
              have KRD := hide krd
              have ca0 : ∀ o, (w1.alloc o).cell? ⟨w.heap.size + 1, 0, none⟩ = some (.slice oa n.length oc) := fun o => block_one (block_kept (below_alloc o) kn1)
              generalize hlw : lowered tx tx.length = lw at *
              have HLW := hide hlw
              clear hlw knd krd k1 kn1
              have SL := hide (fun (w : World) (h : Own wr.heap.size 5 w (.slice va tx.length vc) tx) => specLower_any h (by omega) (unhide HB))
              rw [unhide HLW] at SL
              go_wp2_with fail
              go_region_law (first
                | (refine step_append_row rfl (.tmp 40) (.tmp 43) 23 22 rfl Try.underlying23 info_sl5 (w.heap.size + 2) (.slice oa n.length oc) _ vs [.slice u2a lw.length u2c] (by simp [Act.eval]) (by simp [Act.eval]) (by rw [hvl]; exact World.ownsRow.alloc (ownsRow_kept' (unhide HVS) (unhide B2)) _) (one_more w2 22 _) (by intro y hy; simp at hy; subst hy; rfl) (by rw [hvl]; simp; omega) (by have := (unhide B2).size; simp; omega) ?_; intro v3 w3 o3 g3; obtain ⟨p3, k3, y3⟩ := snoc_step g3 o3 rfl (unhide HVS) (unhide HVA) (unhide HVD) ((unhide B2).alloc (unhide B2).size _) ((unhide OU).alloc _) zb (by decide) (block_kept (below_alloc _) (block_kept (unhide B2) (unhide KND))) (by decide); obtain ⟨v3a, v3c, rfl, _⟩ := p3.hasL.form; have co3 := block_one k3; have fo3 := block_frozen k3 0)
                | (go_simp; go_at_call 108; refine (unhide SL _ (unhide HUd)).mono ?_; rintro e w2 ⟨u2, rfl, ou, b2⟩; obtain ⟨u2a, u2c, rfl, _⟩ := ou.lies; have OU := hide ou; have B2 := hide b2; have co2 := block_one (block_kept b2 (unhide KND)); have ca2 : ∀ o, (w2.alloc o).cell? ⟨w.heap.size + 1, 0, none⟩ = some (.slice oa n.length oc) := (fun o => block_one (block_kept (below_alloc o) (block_kept b2 (unhide KND)))); clear ou b2))
              all_goals
                go_wp2_with fail
                go_roundg f
                case measure => omega
                case rel =>
                  have k1 := (y3.block w.heap.size (by omega)).trans (unhide KRD)
                  simp only [List.length_append, List.length_cons, List.length_nil] at p3
                  refine ⟨n ++ [lw], nx, ei, hi, _, rfl, rfl, rfl, unhide HRR, by simp; omega, by simp; omega, by omega, by omega, by omega, by omega, block_other k1 (by omega) 0 _, block_set k3 _, ?_, (bd.trans (y3.mono (by omega))).setCell (by show w.heap.size ≤ w.heap.size + 1; omega) _⟩
                  exact p3.kept (grown_setCell _ _ _) (by show w.heap.size + 1 < _; omega)

set_option maxHeartbeats 800000 in
set_option maxRecDepth 100000 in
theorem specNameGet_own {B : Nat} {v : Value} {l : List Int} (p : Int) {w : World} (h : Own B 5 w v l) (hl : l.length ≤ 1048576) (hp : p ≤ 9223372036854775807) (hb : Bytes8 l) :
    Calls Try.prog 61 #[v, .int .i64 p] w fun e w' => ∃ v', e = .returned (.tuple #[.agg #[v'], .int .i64 (nameGet l p).2]) ∧ OwnL w.heap.size 22 5 w' v' (nameGet l p).1 ∧ Below w.heap.size w w' := by
  have b0 := below_alloc (w := w) (.cells #[.slice none 0 0] 25)
  have k0 := heap_alloc_new w (.cells #[.slice none 0 0] 25)
  by_cases h1 : 512 < l.length
  · have e1 : nameGet l p = ([], -1) := by unfold nameGet; rw [if_pos h1]
    rw [e1]
    obtain ⟨a, cap, rfl, _⟩ := h.lies
    have h1' : (512 : Int) < (l.length : Int) := by omega
    have c0 := block_one k0
    have f0 := block_frozen k0 0
    have M0 := hide k0
    go_enter Try.func61, Try.ntmps61
    go_wp2_with fail
    refine bodyPost_ret (results_cell_tmp_row rfl _ _ w.heap.size 25 #[.slice none 0 0] (0, 0) _ rfl (unhide M0) Try.underlying25 rfl (by kernel_rfl)) rfl ?_
    exact ⟨_, rfl, ⟨[], by simpa using World.ownsRow_nil _ _ _ _, by simp, by simp⟩, b0⟩
  · have e1 : nameGet l p = getName l 20 [] p 0 (-1) := by unfold nameGet; rw [if_neg h1]
    rw [e1]
    have hG := l2get_own p (h.below b0) (by omega) hp hb
    obtain ⟨a, cap, rfl, _⟩ := h.lies
    have h1' : ¬ (512 : Int) < (l.length : Int) := by omega
    generalize (getName l 20 [] p 0 (-1)).1 = r1 at *
    generalize (getName l 20 [] p 0 (-1)).2 = r2 at *
    have HG := hide hG
    clear hG e1 h
    have z0 := block_lt k0
    go_enter Try.func61, Try.ntmps61
    go_wp2_with fail
    generalize w.alloc (.cells #[.slice none 0 0] 25) = W at *
    refine (unhide HG).mono ?_
    rintro e w1 ⟨v1, rfl, o1, b1⟩
    obtain ⟨va, vc, rfl, _⟩ := o1.hasL.form
    have k1 := block_kept b1 k0
    have c1 := block_one k1
    have f1 := block_frozen k1 0
    have M1 := hide (block_set k1 (.slice va r1.length vc))
    have O1 := hide o1
    clear k0 k1 o1
    go_wp2_with fail
    refine bodyPost_ret (results_cell_tmp_row rfl _ _ w.heap.size 25 #[.slice va r1.length vc] (0, 0) _ rfl (unhide M1) Try.underlying25 rfl (by kernel_rfl)) rfl ?_
    exact ⟨_, rfl, ((unhide O1).kept (grown_setCell _ _ _) (by show w.heap.size < _; omega)).mono (by omega), (below_next b0 b1).setCell (Nat.le_refl _) _⟩
end Go.Proofs.Ytdbojhbdfcknfaa
