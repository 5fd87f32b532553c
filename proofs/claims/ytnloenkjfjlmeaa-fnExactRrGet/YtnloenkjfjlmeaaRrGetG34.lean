/-
  Contracts of the name helpers of the laws (markName, heldName): what each answers and what it leaves in memory. Contracts of the helpers of the laws for records (markRr).
-/
import Derived.Test.YtnloenkjfjlmeaaRrGetG08
import Derived.Test.YtnloenkjfjlmeaaRrGetG02
import Derived.Test.YtnloenkjfjlmeaaRrGetG07
namespace Go.Proofs.Ytnloenkjfjlmeaa
open Go.RowKit
set_option linter.unusedVariables false

set_option maxHeartbeats 800000 in
set_option maxRecDepth 100000 in
theorem markByteSS_any {B E : Nat} {v : Value} {n : List (List Int)} (k0 : Int) {w : World} (h : OwnN B E 22 5 w v n) (hl : n.length ≤ 1048576) (hl2 : ∀ i, i < n.length → (n.getD i []).length ≤ 1048576) (hk0 : 0 ≤ k0) (hk1 : k0 ≤ 1152921504606846976) :
    Calls Try.prog 83 #[v, .int .i64 k0] w fun e w' => e = .returned (.int .i64 (pos n k0 n.length)) ∧ OwnN B E 22 5 w' v (markL n k0) ∧ Outside B E w w' := by
  obtain ⟨a, cap, rfl, hcl, hcm⟩ := h.ownL.hasL.form
  unfold maxLen at hcm
  obtain ⟨vs, ho, hu, hd, hv, he⟩ := h
  have hP := hide (fun j (hj : j ≤ n.length) => (show k0 ≤ pos n k0 j ∧ pos n k0 j ≤ 2305843009213693952 from by
    have := pos_le n k0 1048576 hl2 j hj
    have : j * 1048576 ≤ 1048576 * 1048576 := Nat.mul_le_mul_right _ (by omega)
    omega))
  have hPS := hide (pos_succ n k0)
  have hP0 := hide (pos_zero n k0)
  have hMG := hide (markL_getD n k0)
  have hML := hide (markL_length n k0)
  have HU := hide hu
  have HD := hide hd
  have HE := hide he
  have HV := hide hv
  have HO := hide ho
  have HL2 := hide hl2
  have hvl : vs.length = n.length := by have := ho.1; simpa using this
  clear hu hd he hv ho hl2
  generalize pos n k0 = P at *
  generalize markL n k0 = M at *
  generalize hn : n.length = m at *
  have HN := hide hn
  clear hn
  go_enter Try.func83, Try.ntmps83
  go_wp2
  go_loopw [1, 5] (fun kk i wr => ∃ k : Nat, k ≤ m ∧ i = .int .i64 k ∧ kk = .int .i64 (P k) ∧ Outside B E w wr ∧ wr.ownsRow B 22 1 (.slice a m cap) m vs ∧ Hid (∀ j, j < m → ∃ u, vs[j]? = some u ∧ Own B 5 wr u (if j < k then M.getD j [] else n.getD j []))) (fun _ i _ => m - (intOf i).toNat)
  case atStart => exact ⟨0, Nat.zero_le _, rfl, by rw [unhide hP0], Outside.refl _ _ _, unhide HO, hide (fun j hj => by obtain ⟨u, h1, h2⟩ := unhide HU j hj; exact ⟨u, h1, by simpa using h2⟩)⟩
  case round =>
    obtain ⟨k, hk, rfl, rfl, hout, hrow, hall⟩ := hrel
    by_cases hlt : k < m
    · obtain ⟨u, hu1, hu2⟩ := unhide hall k hlt
      simp only [Nat.lt_irrefl, if_false] at hu2
      have hlk := unhide HL2 k hlt
      have hpk := unhide hP k (by omega)
      have hps := unhide hPS k hlt
      have hmg := unhide hMG k hlt
      have hcell : ∃ g, a = some ⟨g, 0, none⟩ := by
        rcases hrow.2 with ⟨hv, h0⟩ | ⟨g, cap', cur, hv, _⟩
        · omega
        · simp only [Value.slice.injEq] at hv; exact ⟨g, hv.1⟩
      obtain ⟨g, rfl⟩ := hcell
      have hc := World.ownsRow.cellAt hrow k (by omega)
      rw [hu1] at hc
      have hgl := (World.ownsRow.lt hrow g rfl)
      have hue := unhide HE k u
      have hude := hide hue
      clear hue
      generalize n.getD k [] = lab at *
      have HU2 := hide hu2
      have hur : ∃ ua uc, u = .slice ua lab.length uc := by obtain ⟨ua, uc, e, _⟩ := hu2.lies; exact ⟨ua, uc, e⟩
      clear hu2
      obtain ⟨ua, uc, rfl⟩ := hur
      have HR := hide hrow
      clear hrow
      go_wp2_with fail
      refine (markByteS_any (P k) (unhide HU2) (by omega) (by omega) (by omega)).mono ?_
      rintro e w1 ⟨rfl, o1, g1⟩
      go_wp2_with fail
      have hrange : ∀ q, (Value.slice ua lab.length uc).ownBlock = some q → B ≤ q ∧ q < E := fun q hq => ⟨((unhide HU2).lt q hq).1, unhide hude q hu1 hq⟩
      have hner : ∀ q, (Value.slice ua lab.length uc).ownBlock = some q → q ≠ g := by
        intro q hq e
        subst e
        rcases (unhide HU2).2 with ⟨h1, _⟩ | ⟨g', c', cur, h1, _, h2, _⟩
        · rw [h1] at hq; simp [Value.ownBlock] at hq
        · rw [h1] at hq
          simp [Value.ownBlock] at hq
          subst hq
          rcases (unhide HR).2 with ⟨h3, _⟩ | ⟨g3, c3, cur3, h3, _, h4, _⟩
          · simp at h3
          · simp only [Value.slice.injEq, Option.some.injEq, Addr.mk.injEq] at h3
            obtain ⟨⟨h5, _⟩, _⟩ := h3
            subst h5
            rw [h2] at h4
            simp at h4
      refine ⟨⟨k + 1, by omega, by go_num, by rw [hps], hout.trans (outside_grown g1 hrange), World.ownsRow.kept (unhide HR) g1 (.inr (fun e => hner g e.symm rfl)), hide ?_⟩, by simp [intOf]; omega⟩
      intro j hj
      by_cases e : j = k
      · subst e
        refine ⟨_, hu1, ?_⟩
        rw [if_pos (by omega), hmg]
        exact o1
      · obtain ⟨u', h1, h2⟩ := unhide hall j hj
        have : j < k + 1 ↔ j < k := by omega
        rw [show (if j < k + 1 then M.getD j [] else n.getD j []) = (if j < k then M.getD j [] else n.getD j []) by simp [this]]
        refine ⟨u', h1, h2.kept g1 ?_⟩
        rcases Nat.lt_or_gt_of_ne e with e1 | e1
        · exact unhide HD j k u' _ e1 h1 hu1
        · rcases unhide HD k j _ u' e1 hu1 h1 with e2 | e2
          · cases hq : u'.ownBlock with
            | none => exact .inl rfl
            | some q => right; rw [e2]; simp
          · exact .inr (fun e3 => e2 e3.symm)
    · obtain rfl : k = m := by omega
      go_wp2_with fail
      go_ret
      have hMk := unhide hML
      refine ⟨rfl, ⟨vs, by rw [hMk]; exact hrow, fun i hi => ?_, unhide HD, unhide HV, unhide HE⟩, hout⟩
      rw [hMk] at hi
      obtain ⟨u, h1, h2⟩ := unhide hall i hi
      rw [if_pos hi] at h2
      exact ⟨u, h1, h2⟩

set_option maxHeartbeats 400000 in
set_option maxRecDepth 100000 in
theorem markName_any {B E : Nat} {v : Value} {n : List (List Int)} (k0 : Int) {w : World} (h : OwnN B E 22 5 w v n) (hl : n.length ≤ 1048576) (hl2 : ∀ i, i < n.length → (n.getD i []).length ≤ 1048576) (hk0 : 0 ≤ k0) (hk1 : k0 ≤ 1152921504606846976) :
    Calls Try.prog 38 #[.agg #[v], .int .i64 k0] w fun e w' => e = .returned (.int .i64 (pos n k0 n.length)) ∧ OwnN B E 22 5 w' v (markL n k0) ∧ Outside B E w w' := by
  have hc := hide (markByteSS_any k0 (h.below (below_alloc (.cells #[v] 25))) hl hl2 hk0 hk1)
  obtain ⟨a, cap, rfl, _⟩ := h.ownL.hasL.form
  have HL2 := hide hl2
  clear h hl2
  generalize pos n k0 n.length = P at *
  go_enter Try.func38, Try.ntmps38
  go_wp2_with fail
  refine (unhide hc).mono ?_
  rintro e w1 ⟨rfl, o1, x1⟩
  go_wp2_with fail
  go_ret
  exact ⟨rfl, o1, (Below.outside (below_alloc _)).trans x1⟩
end Go.Proofs.Ytnloenkjfjlmeaa

namespace Go.Proofs.Ytnloenkjfjlmeaa
open Go.RowKit
set_option linter.unusedVariables false

theorem pos_bound (n : List (List Int)) (k : Int) (hl : n.length ≤ 1048576) (hl2 : ∀ i, i < n.length → (n.getD i []).length ≤ 1048576) : k ≤ pos n k n.length ∧ pos n k n.length ≤ k + 1099511627776 := by
  have h1 := pos_le n k 1048576 hl2 n.length (Nat.le_refl _)
  have h2 : n.length * 1048576 ≤ 1048576 * 1048576 := Nat.mul_le_mul_right _ hl
  omega

set_option maxHeartbeats 1000000 in
set_option maxRecDepth 100000 in
theorem markRr_any {r : Rec} (hs : SizeR 1048576 r) (k0 : Int) (hk0 : 0 ≤ k0) (hk1 : k0 ≤ 4294967296) :
    ∃ P : Int, k0 ≤ P ∧ P ≤ k0 + 4398046511104 ∧ ∀ (B E : Nat) (vn vt vx vi : Value) (w : World), E ≤ w.heap.size → OwnR B E 22 5 3 w vn vt vx vi r →
      Calls Try.prog 43 #[.agg #[vn, .int .i64 r.type, .int .i64 r.ttl, .int .i64 r.addr, vt, vx, vi], .int .i64 k0] w fun e w' => e = .returned (.int .i64 P) ∧ Outside B E w w' := by
  have p1 := pos_bound r.name k0 hs.name hs.names
  have p2 := pos_bound r.to (pos r.name k0 r.name.length) hs.to hs.tos
  refine ⟨pos r.to (pos r.name k0 r.name.length) r.to.length + r.text.length + r.nums.length, ?_, ?_, ?_⟩
  · have := hs.text; have := hs.nums; omega
  · have := hs.text; have := hs.nums; omega
  intro B E vn vt vx vi w hEw h
  obtain ⟨na, nc, rfl, _⟩ := h.hasR.name.form
  obtain ⟨ta, tc, rfl, _⟩ := h.hasR.to.form
  obtain ⟨xa, xc, rfl, _⟩ := h.hasR.text.form
  obtain ⟨ia, ic, rfl, _⟩ := h.hasR.nums.form
  have b0 := below_alloc (w := w) (.cells #[.slice na r.name.length nc, .int .i64 r.type, .int .i64 r.ttl, .int .i64 r.addr, .slice ta r.to.length tc, .slice xa r.text.length xc, .slice ia r.nums.length ic] 50)
  have k0' := heap_alloc_new w (.cells #[.slice na r.name.length nc, .int .i64 r.type, .int .i64 r.ttl, .int .i64 r.addr, .slice ta r.to.length tc, .slice xa r.text.length xc, .slice ia r.nums.length ic] 50)
  obtain ⟨s1, s2, s3, a1, a2, a3, a4, h1, h2, h3, h4⟩ := h.below b0
  have HT := hs.text
  have HN := hs.nums
  have M1 := hide (fun (w : World) (v : Value) (hh : OwnN B s1 22 5 w v r.name) => markName_any k0 hh hs.name hs.names hk0 (by omega))
  have M2 := hide (fun (w : World) (v : Value) (hh : OwnN s1 s2 22 5 w v r.to) => markName_any (pos r.name k0 r.name.length) hh hs.to hs.tos (by omega) (by omega))
  generalize pos r.to (pos r.name k0 r.name.length) r.to.length = P2 at *
  generalize pos r.name k0 r.name.length = P1 at *
  have K0 := hide k0'
  have H1 := hide h1
  have H2 := hide h2
  have H3 := hide h3
  have H4 := hide h4
  clear h k0' h1 h2 h3 h4 hs
  go_enter Try.func43, Try.ntmps43
  go_wp2_with fail
  have u0 : Outside B E w (w.alloc (.cells #[.slice na r.name.length nc, .int .i64 r.type, .int .i64 r.ttl, .int .i64 r.addr, .slice ta r.to.length tc, .slice xa r.text.length xc, .slice ia r.nums.length ic] 50)) := Below.outside b0
  generalize w.alloc (.cells #[.slice na r.name.length nc, .int .i64 r.type, .int .i64 r.ttl, .int .i64 r.addr, .slice ta r.to.length tc, .slice xa r.text.length xc, .slice ia r.nums.length ic] 50) = W at *
  refine (unhide M1 _ _ (unhide H1)).mono ?_
  rintro e w1 ⟨rfl, _, u1⟩
  have U1 := u0.trans (u1.wide (B' := B) (E' := E) (by omega) (by omega))
  have K1 := hide (u1.kept (unhide K0) (by omega))
  have T1 := hide ((unhide H2).outside u1 (by omega))
  have X1 := hide ((unhide H3).outside u1 (by omega))
  have Y1 := hide ((unhide H4).outside u1 (by omega))
  obtain ⟨d0, d1, d2, d3, d4, d5, d6⟩ := cells7 (unhide K1)
  clear u0 u1 K0 H1 H2 H3 H4
  go_wp2_with fail
  clear d0 d1 d2 d3 d4 d5 d6
  refine (unhide M2 _ _ (unhide T1)).mono ?_
  rintro e w2 ⟨rfl, _, u2⟩
  have U2 := U1.trans (u2.wide (B' := B) (E' := E) (by omega) (by omega))
  have K2 := hide (u2.kept (unhide K1) (by omega))
  have X2 := hide ((unhide X1).outside u2 (by omega))
  have Y2 := hide ((unhide Y1).outside u2 (by omega))
  obtain ⟨d0, d1, d2, d3, d4, d5, d6⟩ := cells7 (unhide K2)
  clear U1 u2 K1 T1 X1 Y1
  go_wp2_with fail
  clear d0 d1 d2 d3 d4 d5 d6
  refine (markByteS_any P2 (unhide X2).1 (by omega) (by omega) (by omega)).mono ?_
  rintro e w3 ⟨rfl, o3, g3⟩
  obtain ⟨_, u3⟩ := (unhide X2).marks o3 g3
  have U3 := U2.trans (u3.wide (B' := B) (E' := E) (by omega) (by omega))
  have K3 := hide (u3.kept (unhide K2) (by omega))
  have Y3 := hide ((unhide Y2).outside u3 (by omega))
  obtain ⟨d0, d1, d2, d3, d4, d5, d6⟩ := cells7 (unhide K3)
  clear U2 u3 K2 X2 Y2 o3 g3
  go_wp2_with fail
  clear d0 d1 d2 d3 d4 d5 d6
  refine (markIntS_any (P2 + r.text.length) (unhide Y3).1 (by omega) (by omega) (by omega)).mono ?_
  rintro e w4 ⟨rfl, o4, g4⟩
  obtain ⟨_, u4⟩ := (unhide Y3).marks o4 g4
  have U4 := U3.trans (u4.wide (B' := B) (E' := E) (by omega) (by omega))
  go_wp2_with fail
  go_ret
  exact ⟨rfl, U4⟩
end Go.Proofs.Ytnloenkjfjlmeaa
