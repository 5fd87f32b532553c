/-
  Contracts of the specification's l2reverse and Reverse. Contracts of the byte helpers of the laws (toByteS, eqByteS): what each answers and what it leaves in memory, for every slice of at most 1048576 bytes.
-/
import Derived.Test.YtkmjghecjlgjpaaDoorReverseG01
import Derived.Test.YtkmjghecjlgjpaaDoorReverseG11
import Derived.Test.YtkmjghecjlgjpaaDoorReverseG06
import Derived.Test.YtkmjghecjlgjpaaDoorReverseG07
import Derived.Test.YtkmjghecjlgjpaaDoorReverseG08
import Derived.Test.YtkmjghecjlgjpaaDoorReverseG09
import Derived.Test.YtkmjghecjlgjpaaDoorReverseG10
import Derived.Lib.SlBytesConst
import Derived.Test.YtkmjghecjlgjpaaDoorReverseG02
namespace Go.Proofs.YtkmjghecjlgjpaaDoor
open Go.RowKit
set_option linter.unusedVariables false
set_option linter.unusedSimpArgs false

theorem info_slV : (Tryd.prog.info? 22).map (fun i => (i.zero, i.size, i.bytes)) = some (some (.slice none 0 0), 1, 24) := by kernel_rfl
set_option maxHeartbeats 600000 in
set_option maxRecDepth 100000 in
theorem l2reverse_has (n : Int) (w : World) (h0 : 0 ≤ n) (h1 : n ≤ 4294967295) :
    Calls Tryd.prog 47 #[.int .i64 n] w fun e w' => ∃ v', e = .returned (.agg #[v']) ∧ OwnNF (w.heap.size + 2) w'.heap.size 22 5 w' v' (revN n) ∧ Below w.heap.size w w' := by
  obtain ⟨hsz, k0, r0⟩ := box2 w (.cells #[.slice none 0 0] 26) #[.slice none 0 0] 26
  have b0 := below2 w (.cells #[.slice none 0 0] 26) (.cells #[.slice none 0 0] 26)
  go_enter Tryd.func47, Tryd.ntmps47
  go_wp2
  generalize (w.alloc (.cells #[.slice none 0 0] 26)).alloc (.cells #[.slice none 0 0] 26) = W at *
  go_loopw [4] (fun i wr => ∃ (j : Nat) (o : Value), j ≤ 4 ∧ i = .int .i64 j ∧ wr.heap[w.heap.size]? = some (.cells #[.slice none 0 0] 26) ∧ wr.heap[w.heap.size + 1]? = some (.cells #[o] 26) ∧ OwnL (w.heap.size + 2) 22 5 wr o (revL n j) ∧ Below w.heap.size w wr) (fun i _ => 4 - (intOf i).toNat)
  case atStart => exact ⟨0, .slice none 0 0, Nat.zero_le _, rfl, k0, r0, ⟨[], World.ownsRow_nil _ _ _ _, fun i hi => absurd hi (by simp [revL]), by simp⟩, b0⟩
  case round =>
    obtain ⟨j, o, hj, rfl, hr1, hr2, ho, hb⟩ := hrel
    by_cases hlt : j < 4
    · have HRL := hide (show revL n (j + 1) = revL n j ++ [digs (part n (3 - j))] from rfl)
      have hpb := part_bd n (3 - j) h0 h1
      have hpr := part_rev n j hlt h0 h1
      have hrl := revL_length n j
      generalize hrv : revL n j = nk at *
      obtain ⟨oa, oc, hov, _⟩ := ho.hasL.form
      rw [hrl] at hov
      subst hov
      have hod := ho.below (below_drew (w := wr))
      clear ho hrv
      obtain ⟨vs, hvs, hva, hvd⟩ := hod
      have hvl : vs.length = j := by have := hvs.1; rw [hrl] at this; simpa using this
      have HVS2 := hide hvs
      rw [hrl] at hvs
      have kd2 := block_kept (below_drew (w := wr)) hr2
      have kd1 := block_kept (below_drew (w := wr)) hr1
      have bd := below_next hb (below_drew (w := wr))
      have cod := block_one kd2
      have HVS := hide hvs
      have HVA := hide hva
      have HVD := hide hvd
      have z3 := block_lt hr2
      have zb : w.heap.size + 2 ≤ wr.drew.heap.size := by show w.heap.size + 2 ≤ wr.heap.size; omega
      clear hva hvd hvs
      have KD2 := hide kd2
      have KD1 := hide kd1
      have HJ := hide (And.intro hj hlt)
      have e8 : IntKind.i64.wrap (8 * (j : Int)) = ((8 * j : Nat) : Int) := by rw [show (8 : Int) * j = ((8 * j : Nat) : Int) by omega]; exact wrap_small _ (by omega)
      have g0 : ¬ ((8 * j : Nat) : Int) < 0 := by omega
      have hmin : min (8 * j) 64 = 8 * j := by omega
      have hx := and_255 (n / 2 ^ (8 * j)) (Int.ediv_nonneg h0 (Int.le_of_lt (Int.pow_pos (by omega)))) (Int.le_trans (Int.ediv_le_self _ h0) (by omega))
      rw [hpr] at hx
      generalize 8 * j = S at *
      obtain ⟨D, hD⟩ : ∃ D, n / 2 ^ S = D := ⟨_, rfl⟩
      rw [hD] at hx
      generalize hxx : part n (3 - j) = x at *
      generalize hlab : digs x = lab at *
      have HLAB := hide hlab
      have HX := hide hpb
      have hll : lab.length ≤ 3 := by rw [← hlab]; exact (digs_length x hpb.1 hpb.2).2
      have DG := hide (l1digits_any x wr.drew hpb.1 hpb.2)
      rw [hlab] at DG
      clear kd2 kd1 hpr hlab hxx
      go_wp2_with fail
      go_region_law (first
        | (refine step_append_row rfl (.tmp 10) (.tmp 17) 24 22 rfl Tryd.underlying24 info_slV (w.heap.size + 2) (.slice oa j oc) _ vs [.slice u1a lab.length u1c] (by simp [Act.eval]) (by simp [Act.eval]) (by rw [hvl]; exact World.ownsRow.alloc (ownsRow_kept' (unhide HVS) (unhide B1)) _) (one_more w1 22 _) (by intro y hy; simp at hy; subst hy; rfl) (by rw [hvl]; simp; omega) (by have := (unhide B1).size; simp; omega) ?_; intro v2 w2 o2 g2; obtain ⟨p2, k2, y2⟩ := snoc_step g2 o2 rfl (unhide HVS2) (unhide HVA) (unhide HVD) ((unhide B1).alloc (unhide B1).size _) ((unhide OU).alloc _) zb (by decide) (block_kept (below_alloc _) (block_kept (unhide B1) (unhide KD2))) (by decide); obtain ⟨v2a, v2c, rfl, _⟩ := p2.hasL.form; have co2 := block_one k2; have fo2 := block_frozen k2 0)
        | (go_simp; go_at_call 85; refine (unhide DG).mono ?_; rintro e w1 ⟨u1, rfl, ou, b1⟩; obtain ⟨u1a, u1c, rfl, _⟩ := (show Own wr.drew.heap.size 5 w1 u1 lab from ou).lies; have OU : Hid (Own wr.drew.heap.size 5 w1 (.slice u1a lab.length u1c) lab) := hide ou; have B1 := hide b1; have co1 := block_one (block_kept b1 (unhide KD2)); have ca1 : ∀ o, (w1.alloc o).cell? ⟨w.heap.size + 1, 0, none⟩ = some (.slice oa j oc) := (fun o => block_one (block_kept (below_alloc o) (block_kept b1 (unhide KD2)))); clear ou b1))
      all_goals
        go_wp2_with fail
        have k1 := (y2.block w.heap.size (by omega)).trans (unhide KD1)
        have hj4 := unhide HJ
        refine ⟨⟨j + 1, _, by omega, by go_num, block_other k1 (by omega) 0 _, block_set k2 _, ?_, (bd.trans (y2.mono (by omega))).setCell (by show w.heap.size ≤ w.heap.size + 1; omega) _⟩, by simp [intOf]; omega⟩
        rw [unhide HRL]
        simp only [List.length_append, List.length_cons, List.length_nil, hrl] at p2
        exact p2.kept (grown_setCell _ _ _) (by show w.heap.size + 1 < _; omega)
    · have hj4 : j = 4 := by omega
      have HRN := hide (show revL n j ++ [[105, 110, 45, 97, 100, 100, 114], [97, 114, 112, 97]] = revN n by rw [hj4]; rfl)
      have hrl := revL_length n j
      have lk : ¬ ((j : Int) < 4) := by omega
      have HJ4 := hide hj
      generalize hrv : revL n j = nk at *
      obtain ⟨oa, oc, hov, _⟩ := ho.hasL.form
      rw [hrl] at hov
      subst hov
      have z3 := block_lt hr2
      have zb : w.heap.size + 2 ≤ wr.heap.size := by omega
      have bA := below_alloc (w := wr) (.cells #[.int .u8 105, .int .u8 110, .int .u8 45, .int .u8 97, .int .u8 100, .int .u8 100, .int .u8 114] 5 (7, 8))
      have eA : (wr.alloc (.cells #[.int .u8 105, .int .u8 110, .int .u8 45, .int .u8 97, .int .u8 100, .int .u8 100, .int .u8 114] 5 (7, 8))).heap.size = wr.heap.size + 1 := by show (wr.heap.push _).size = _; simp
      have bB := below_alloc (w := wr.alloc (.cells #[.int .u8 105, .int .u8 110, .int .u8 45, .int .u8 97, .int .u8 100, .int .u8 100, .int .u8 114] 5 (7, 8))) (.cells #[.int .u8 97, .int .u8 114, .int .u8 112, .int .u8 97] 5 (4, 5))
      have eB : ((wr.alloc (.cells #[.int .u8 105, .int .u8 110, .int .u8 45, .int .u8 97, .int .u8 100, .int .u8 100, .int .u8 114] 5 (7, 8))).alloc (.cells #[.int .u8 97, .int .u8 114, .int .u8 112, .int .u8 97] 5 (4, 5))).heap.size = wr.heap.size + 1 + 1 := by show ((wr.heap.push _).push _).size = _; simp
      have bR := below_alloc (w := (wr.alloc (.cells #[.int .u8 105, .int .u8 110, .int .u8 45, .int .u8 97, .int .u8 100, .int .u8 100, .int .u8 114] 5 (7, 8))).alloc (.cells #[.int .u8 97, .int .u8 114, .int .u8 112, .int .u8 97] 5 (4, 5))) (.cells #[.slice (some ⟨wr.heap.size, 0, none⟩) 7 7, .slice (some ⟨wr.heap.size + 1, 0, none⟩) 4 4] 22)
      have C1 : OwnC (w.heap.size + 2) 5 (wr.alloc (.cells #[.int .u8 105, .int .u8 110, .int .u8 45, .int .u8 97, .int .u8 100, .int .u8 100, .int .u8 114] 5 (7, 8))) (.slice (some ⟨wr.heap.size, 0, none⟩) 7 7) [105, 110, 45, 97, 100, 100, 114] := own_constC wr (w.heap.size + 2) 5 [105, 110, 45, 97, 100, 100, 114] zb (by simp [maxLen])
      have C2 : OwnC (w.heap.size + 2) 5 ((wr.alloc (.cells #[.int .u8 105, .int .u8 110, .int .u8 45, .int .u8 97, .int .u8 100, .int .u8 100, .int .u8 114] 5 (7, 8))).alloc (.cells #[.int .u8 97, .int .u8 114, .int .u8 112, .int .u8 97] 5 (4, 5))) (.slice (some ⟨wr.heap.size + 1, 0, none⟩) 4 4) [97, 114, 112, 97] := by
        have := own_constC (wr.alloc (.cells #[.int .u8 105, .int .u8 110, .int .u8 45, .int .u8 97, .int .u8 100, .int .u8 100, .int .u8 114] 5 (7, 8))) (w.heap.size + 2) 5 [97, 114, 112, 97] (by omega) (by simp [maxLen])
        rw [eA] at this
        exact this
      have bABR := below_next (below_next bA bB) bR
      have hR : ∀ j y, [Value.slice (some ⟨wr.heap.size, 0, none⟩) 7 7, .slice (some ⟨wr.heap.size + 1, 0, none⟩) 4 4][j]? = some y → (((wr.alloc (.cells #[.int .u8 105, .int .u8 110, .int .u8 45, .int .u8 97, .int .u8 100, .int .u8 100, .int .u8 114] 5 (7, 8))).alloc (.cells #[.int .u8 97, .int .u8 114, .int .u8 112, .int .u8 97] 5 (4, 5))).alloc (.cells #[.slice (some ⟨wr.heap.size, 0, none⟩) 7 7, .slice (some ⟨wr.heap.size + 1, 0, none⟩) 4 4] 22)).cell? ((⟨wr.heap.size + 1 + 1, 0, none⟩ : Addr).add j) = some y := fun j y hj => by
        have hb := heap_alloc_new ((wr.alloc (.cells #[.int .u8 105, .int .u8 110, .int .u8 45, .int .u8 97, .int .u8 100, .int .u8 100, .int .u8 114] 5 (7, 8))).alloc (.cells #[.int .u8 97, .int .u8 114, .int .u8 112, .int .u8 97] 5 (4, 5))) (.cells #[.slice (some ⟨wr.heap.size, 0, none⟩) 7 7, .slice (some ⟨wr.heap.size + 1, 0, none⟩) 4 4] 22)
        rw [eB] at hb
        rw [Addr.add_lit, Nat.zero_add, block_cell hb j]
        rw [← hj]
        simp
      have D1 : OwnC (w.heap.size + 2) 5 (((wr.alloc (.cells #[.int .u8 105, .int .u8 110, .int .u8 45, .int .u8 97, .int .u8 100, .int .u8 100, .int .u8 114] 5 (7, 8))).alloc (.cells #[.int .u8 97, .int .u8 114, .int .u8 112, .int .u8 97] 5 (4, 5))).alloc (.cells #[.slice (some ⟨wr.heap.size, 0, none⟩) 7 7, .slice (some ⟨wr.heap.size + 1, 0, none⟩) 4 4] 22)) (.slice (some ⟨wr.heap.size, 0, none⟩) 7 7) [105, 110, 45, 97, 100, 100, 114] := (C1.below bB).below bR
      have D2 : OwnC (w.heap.size + 2) 5 (((wr.alloc (.cells #[.int .u8 105, .int .u8 110, .int .u8 45, .int .u8 97, .int .u8 100, .int .u8 100, .int .u8 114] 5 (7, 8))).alloc (.cells #[.int .u8 97, .int .u8 114, .int .u8 112, .int .u8 97] 5 (4, 5))).alloc (.cells #[.slice (some ⟨wr.heap.size, 0, none⟩) 7 7, .slice (some ⟨wr.heap.size + 1, 0, none⟩) 4 4] 22)) (.slice (some ⟨wr.heap.size + 1, 0, none⟩) 4 4) [97, 114, 112, 97] := C2.below bR
      obtain ⟨vs, hvs, hva, hvd⟩ := ho
      have hvl : vs.length = j := by have := hvs.1; rw [hrl] at this; simpa using this
      have HAP := hide (fun (i : Nat) (x : Value) (hx : vs[i]? = some x) => (show ∀ q, x.ownBlock = some q → q < wr.heap.size from fun q hq => by
        have hi := (List.getElem?_eq_some_iff.1 hx).1
        obtain ⟨u, h1, h2⟩ := hva i (by omega)
        rw [hx] at h1
        obtain rfl := Option.some.inj h1
        exact (h2.lt q hq).2))
      have VS := hide (ownsRow_kept' hvs bABR)
      have VA := hide (fun i (hi : i < nk.length) => let ⟨x, h1, h2⟩ := hva i hi; (⟨x, h1, h2.below bABR⟩ : ∃ x, vs[i]? = some x ∧ Own (w.heap.size + 2) 5 (((wr.alloc (.cells #[.int .u8 105, .int .u8 110, .int .u8 45, .int .u8 97, .int .u8 100, .int .u8 100, .int .u8 114] 5 (7, 8))).alloc (.cells #[.int .u8 97, .int .u8 114, .int .u8 112, .int .u8 97] 5 (4, 5))).alloc (.cells #[.slice (some ⟨wr.heap.size, 0, none⟩) 7 7, .slice (some ⟨wr.heap.size + 1, 0, none⟩) 4 4] 22)) x (nk.getD i [])))
      have VD := hide hvd
      have HR := hide hR
      have HD1 := hide D1
      have HD2 := hide D2
      have HVL := hide hvl
      have HRL := hide hrl
      have K1 := hide (block_kept bABR hr1)
      have K2 := hide (block_kept bABR hr2)
      have BB7 := hide (below_next hb bABR)
      have c2 := block_one hr2
      have cA : ∀ o, (wr.alloc o).cell? ⟨w.heap.size + 1, 0, none⟩ = some (.slice oa j oc) := fun o => block_one (block_kept (below_alloc o) hr2)
      have EB := hide eB
      have zR := hide bABR.size
      have hcid := fun (w : World) (C : Array Value) (n c : Nat) => Lib.run_convert_bytes_const (P := Tryd.prog) w 22 5 C n c Tryd.underlying22 Tryd.underlying5
      have hcB := hcid (wr.alloc (.cells #[.int .u8 105, .int .u8 110, .int .u8 45, .int .u8 97, .int .u8 100, .int .u8 100, .int .u8 114] 5 (7, 8))) #[.int .u8 97, .int .u8 114, .int .u8 112, .int .u8 97] 4 4
      rw [eA] at hcB
      clear bA bB bR eA eB C1 C2 D1 D2 hR hvs hva hvd bABR hr1 hr2 hb hrv hj4 hlt hj hvl hrl
      go_wp2_with (at_builtin; generalize ((wr.alloc (.cells #[.int .u8 105, .int .u8 110, .int .u8 45, .int .u8 97, .int .u8 100, .int .u8 100, .int .u8 114] 5 (7, 8))).alloc (.cells #[.int .u8 97, .int .u8 114, .int .u8 112, .int .u8 97] 5 (4, 5))).alloc (.cells #[.slice (some ⟨wr.heap.size, 0, none⟩) 7 7, .slice (some ⟨wr.heap.size + 1, 0, none⟩) 4 4] 22) = W7 at *; (refine append_row rfl (.tmp 21) (.tmp 26) 24 22 rfl Tryd.underlying24 info_slV (w.heap.size + 2) (.slice oa j oc) (.slice (some ⟨wr.heap.size + 1 + 1, 0, none⟩) 2 2) vs [.slice (some ⟨wr.heap.size, 0, none⟩) 7 7, .slice (some ⟨wr.heap.size + 1, 0, none⟩) 4 4] rfl rfl (by have := unhide VS; rw [unhide HVL]; rw [unhide HRL] at this; exact this) (.inr ⟨_, 2, rfl, unhide HR⟩) (by simp [Value.oneCell']) (by have := unhide HJ4; rw [unhide HVL]; simp; omega) (by have := unhide zR; omega) ?_))
      intro v9 w9 o9 g9
      have NF := rev_row (unhide VS) (unhide VA) (unhide VD) (unhide HD1) (unhide HD2) (by simp [Value.ownBlock]) (fun i x hx => by cases hq : x.ownBlock with
        | none => exact .inl rfl
        | some q => right; intro e; have := unhide HAP i x hx q hq; simp [Value.ownBlock] at e; omega) (fun i x hx => by cases hq : x.ownBlock with
        | none => exact .inl rfl
        | some q => right; intro e; have := unhide HAP i x hx q hq; simp [Value.ownBlock] at e; omega) (by have := o9; rw [unhide HVL] at this; rw [unhide HRL]; exact this) g9 (by decide)
      rw [unhide HRN] at NF
      have k9 := block_grown g9 (unhide K2) (row_apart (unhide VS) (unhide K2) (by decide))
      have k8 := block_grown g9 (unhide K1) (row_apart (unhide VS) (unhide K1) (by decide))
      have b9 := (unhide BB7).grown g9 (by have := unhide zR; omega) (fun k hk => by have := ((unhide VS).lt k hk).1; omega)
      have z9 := g9.size
      obtain ⟨va, vc, hv9, _⟩ := NF.hasL.form
      generalize hRL : (revN n).length = rl at *
      subst hv9
      have c9 := block_one k9
      have f9 := block_frozen k9 0
      have c8 := block_one k8
      have f8 := block_frozen k8 0
      have u1 := outside_set w9 (w.heap.size + 1) 0 (.slice va rl vc)
      have K8 := u1.kept k8 (by omega)
      have KF := hide (block_set K8 (.slice va rl vc))
      have u2 := outside_set (w9.setCell ⟨w.heap.size + 1, 0, none⟩ (.slice va rl vc)) w.heap.size 0 (.slice va rl vc)
      have NF2 := hide ((NF.outside u1 (by omega)).outside u2 (by omega))
      have BF := hide (u2.below (u1.below b9 (by omega)) (by omega))
      have ZF := hide (Nat.le_trans u1.size u2.size)
      clear u1 u2 K8 NF g9 o9 k8 k9 b9
      go_wp2_with fail
      clear c9 f9 c8 f8
      refine bodyPost_ret (results_cell_row rfl _ _ w.heap.size 26 #[.slice va rl vc] (0, 0) _ rfl (unhide KF) Tryd.underlying26 rfl (by kernel_rfl)) rfl ?_
      exact ⟨_, rfl, (unhide NF2).wide (Nat.le_refl _) (unhide ZF), unhide BF⟩
set_option maxHeartbeats 600000 in
set_option maxRecDepth 100000 in
theorem specReverse_has (n : Int) (w : World) :
    Calls Tryd.prog 15 #[.int .i64 n] w fun e w' => ∃ v', e = .returned (.tuple #[.agg #[v'], .bool (revOk n)]) ∧ HasL w' v' (revOf n) ∧ Below w.heap.size w w' := by
  have b0 := below_alloc (w := w) (.cells #[.slice none 0 0] 26)
  have K0 := hide (heap_alloc_new w (.cells #[.slice none 0 0] 26))
  have zz := block_lt (unhide K0)
  cases hok : revOk n with
  | true =>
    have hn : 0 ≤ n ∧ n ≤ 4294967295 := by unfold revOk at hok; simpa using hok
    have hb1 : ¬ n < 0 := by omega
    have hb2 : ¬ 4294967296 ≤ n := by omega
    have HS := hide (fun (w : World) => l2reverse_has n w hn.1 hn.2)
    have HRO := hide (show revOf n = revN n by unfold revOf; rw [hok]; rfl)
    rw [unhide HRO]
    generalize revN n = R at *
    clear hok hn
    go_enter Tryd.func15, Tryd.ntmps15
    go_wp2_with fail
    generalize w.alloc (.cells #[.slice none 0 0] 26) = W at *
    refine (unhide HS _).mono ?_
    rintro e w1 ⟨v1, rfl, o1, b1⟩
    obtain ⟨va, vc, rfl, _⟩ := o1.hasL.form
    have k1 := block_kept b1 (unhide K0)
    have c1 := block_one k1
    have f1 := block_frozen k1 0
    have u1 := outside_set w1 w.heap.size 0 (.slice va R.length vc)
    have KF := hide (block_set k1 (.slice va R.length vc))
    have NF := hide (o1.outside u1 (by omega))
    have BF := hide (u1.below (below_next b0 b1) (Nat.le_refl _))
    clear u1 k1 o1 b1 b0 HS
    go_wp2_with fail
    refine bodyPost_ret (results_cell_tmp_row rfl _ _ w.heap.size 26 #[.slice va R.length vc] (0, 0) _ rfl (unhide KF) Tryd.underlying26 rfl (by kernel_rfl)) rfl ?_
    exact ⟨_, rfl, (unhide NF).hasL, unhide BF⟩
  | false =>
    have hn : n < 0 ∨ 4294967296 ≤ n := by unfold revOk at hok; simp at hok; omega
    have HRO := hide (show revOf n = [] by unfold revOf; rw [hok]; rfl)
    rw [unhide HRO]
    obtain ⟨c0, f0⟩ := And.intro (block_one (unhide K0)) (block_frozen (unhide K0) 0)
    have KF := K0
    have BF := hide b0
    rcases hn with hn | hn
    · clear hok
      go_enter Tryd.func15, Tryd.ntmps15
      go_wp2_with fail
      refine bodyPost_ret (results_cell_tmp_row rfl _ _ w.heap.size 26 #[.slice none 0 0] (0, 0) _ rfl (unhide KF) Tryd.underlying26 rfl (by kernel_rfl)) rfl ?_
      exact ⟨_, rfl, .inl ⟨rfl, rfl⟩, unhide BF⟩
    · have hb1 : ¬ n < 0 := by omega
      clear hok
      go_enter Tryd.func15, Tryd.ntmps15
      go_wp2_with fail
      refine bodyPost_ret (results_cell_tmp_row rfl _ _ w.heap.size 26 #[.slice none 0 0] (0, 0) _ rfl (unhide KF) Tryd.underlying26 rfl (by kernel_rfl)) rfl ?_
      exact ⟨_, rfl, .inl ⟨rfl, rfl⟩, unhide BF⟩
end Go.Proofs.YtkmjghecjlgjpaaDoor

namespace Go.Proofs.YtkmjghecjlgjpaaDoor
open Go.RowKit
set_option linter.unusedVariables false

set_option maxHeartbeats 400000 in
set_option maxRecDepth 100000 in
theorem toByteS_row (a : Option Addr) (cap : Nat) (l : List Int) (w : World) (h : Lies w a l) (hl : l.length ≤ 1048576) :
    Calls Tryd.prog 29 #[.slice a l.length cap] w fun e w' => e = .returned (.slice (some ⟨w.heap.size, 0, none⟩) l.length l.length) ∧
      w'.rowIs w.heap.size 5 l.length (fun i => .int .u8 (l.getD i 0)) ∧ Below w.heap.size w w' := by
  have hmk := run_make_row' (P := Tryd.prog) 22 5 (.int .u8 0) 1 Tryd.underlying22 info_u8 rfl .i64 .i64 l.length (by omega) (by omega)
  generalize hn : l.length = n at *
  have HN := hide hn
  clear hn
  go_enter Tryd.func29, Tryd.ntmps29
  go_wp2
  go_loopw [4] (fun i wr => ∃ k : Nat, k ≤ n ∧ i = .int .i64 k ∧ wr.rowIs w.heap.size 5 n (fun j => if j < k then .int .u8 (l.getD j 0) else .int .u8 0) ∧ Below w.heap.size w wr) (fun i _ => n - (intOf i).toNat)
  case atStart => exact ⟨0, Nat.zero_le _, rfl, by simpa using World.rowIs_made w _ n 5, (Below.refl _ _).alloc (Nat.le_refl _) _⟩
  case round =>
    obtain ⟨k, hk, rfl, hr, hb⟩ := hrel
    by_cases hlt : k < n
    · obtain ⟨b, off, rfl, hbl, hc⟩ := h.cell hb (k := k) (by rw [unhide HN]; exact hlt)
      have hc2 := hr.cell hlt
      simp only [Nat.lt_irrefl, if_false] at hc2
      have hf2 := hr.frozen k
      have HR := hide hr
      clear hr
      go_wp2
      go_roundw
      case rel =>
        refine ⟨k + 1, by omega, by go_num, ?_, hb.setCell (Nat.le_refl _) _⟩
        refine ((unhide HR).set k _).congr fun j hj => ?_
        by_cases e : j = k
        · subst e; simp
        · have : j < k + 1 ↔ j < k := by omega
          simp [e, this]
      case measure => simp [intOf]; omega
    · go_wp2
      go_ret
      obtain rfl : k = n := by omega
      refine ⟨rfl, hr.congr fun j hj => by simp [hj], hb⟩

theorem toByteS_any (a : Option Addr) (cap : Nat) (l : List Int) (w : World) (h : Lies w a l) (hl : l.length ≤ 1048576) :
    Calls Tryd.prog 29 #[.slice a l.length cap] w fun e w' => ∃ v, e = .returned v ∧ Own w.heap.size 5 w' v l ∧ Below w.heap.size w w' :=
  (toByteS_row a cap l w h hl).mono fun e w' ⟨he, hr, hb⟩ => ⟨_, he, Own.ofRow hr (Nat.le_refl _) (by unfold maxLen; omega), hb⟩

set_option maxHeartbeats 400000 in
set_option maxRecDepth 100000 in
theorem eqByteS_eq (a a' : Option Addr) (cap cap' : Nat) (l : List Int) (w : World) (h : Lies w a l) (h' : Lies w a' l) (hl : l.length ≤ 2097152) :
    Calls Tryd.prog 23 #[.slice a l.length cap, .slice a' l.length cap'] w fun e w' => e = .returned (.bool true) ∧ ∃ n, w' = w.drewN n := by
  generalize hn : l.length = n at *
  have HN := hide hn
  clear hn
  go_enter Tryd.func23, Tryd.ntmps23
  go_wp2
  go_loopw [5] (fun i wr => ∃ k : Nat, k ≤ n ∧ i = .int .i64 k ∧ ∃ m, wr = w.drewN m) (fun i _ => n - (intOf i).toNat)
  case atStart => exact ⟨0, Nat.zero_le _, rfl, 0, rfl⟩
  case round =>
    obtain ⟨k, hk, rfl, m, rfl⟩ := hrel
    by_cases hlt : k < n
    · obtain ⟨b, off, rfl, hbl, hc⟩ := h.here (k := k) (by rw [unhide HN]; exact hlt)
      obtain ⟨b', off', rfl, hbl', hc'⟩ := h'.here (k := k) (by rw [unhide HN]; exact hlt)
      go_wp2
      go_quiet (fail)
      go_wp2
      exact ⟨⟨k + 1, by omega, by go_num, _, rfl⟩, by simp [intOf]; omega⟩
    · go_wp2
      go_ret
      exact ⟨rfl, m, rfl⟩

theorem eqByteS_own {B B' : Nat} {v v' : Value} {l : List Int} {w : World} (h : Own B 5 w v l) (h' : Own B' 5 w v' l) (hl : l.length ≤ 2097152) :
    Calls Tryd.prog 23 #[v, v'] w fun e w' => e = .returned (.bool true) ∧ Below w.heap.size w w' := by
  obtain ⟨a, cap, rfl, hL⟩ := h.lies
  obtain ⟨a', cap', rfl, hL'⟩ := h'.lies
  refine (eqByteS_eq a a' cap cap' l w hL hL' hl).mono ?_
  rintro e w' ⟨rfl, n, rfl⟩
  exact ⟨rfl, below_draws n⟩

theorem toByteS_in {a : Option Addr} {n cap : Nat} {l : List Int} {w : World} (h : Lies w a l) (hn : l.length = n) (hl : n ≤ 1048576) :
    Calls Tryd.prog 29 #[.slice a n cap] w fun e w' => ∃ v, e = .returned v ∧ Own w.heap.size 5 w' v l ∧ Below w.heap.size w w' := by
  subst hn
  exact toByteS_any a cap l w h hl

theorem toByteS_own {B : Nat} {v : Value} {l : List Int} {w : World} (h : Own B 5 w v l) (hl : l.length ≤ 1048576) :
    Calls Tryd.prog 29 #[v] w fun e w' => ∃ v, e = .returned v ∧ Own w.heap.size 5 w' v l ∧ Below w.heap.size w w' := by
  obtain ⟨a, cap, rfl, hL⟩ := h.lies
  exact toByteS_any a cap l w hL hl
end Go.Proofs.YtkmjghecjlgjpaaDoor
