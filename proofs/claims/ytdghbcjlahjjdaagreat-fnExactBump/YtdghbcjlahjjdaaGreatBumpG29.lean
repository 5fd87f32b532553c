/-
  Contracts of the specification's l3ownAll and l5own: records and zones of their own. Contracts of the specification's LabelOk. Contracts of the specification's NameOk.
-/
import Derived.Test.YtdghbcjlahjjdaaGreatBumpG28
import Derived.Test.YtdghbcjlahjjdaaGreatBumpG26
import Derived.Test.YtdghbcjlahjjdaaGreatBumpG12
import Derived.Test.YtdghbcjlahjjdaaGreatBumpG07
import Derived.Test.YtdghbcjlahjjdaaGreatBumpG04
import Derived.Test.YtdghbcjlahjjdaaGreatBumpG00
namespace Go.Proofs.YtdghbcjlahjjdaaGreat
open Go.RowKit
set_option linter.unusedVariables false

theorem drawn_of_short {n : List (List Int)} (h : n.length ≤ 6 ∧ ∀ k, k < n.length → (n.getD k []).length ≤ 15) : DrawnN n := ⟨Nat.le_trans h.1 (by decide), fun k hk => Nat.le_trans (h.2 k hk) (by decide)⟩
theorem info_rrQ : (Tryz.prog.info? 101).map (fun i => (i.zero, i.size, i.bytes)) = some (some (.agg #[.slice none 0 0, .int .i64 0, .int .i64 0, .int .i64 0, .slice none 0 0, .slice none 0 0, .slice none 0 0]), 7, 120) := by kernel_rfl

set_option maxHeartbeats 4000000 in
set_option maxRecDepth 100000 in
theorem l3ownAll_has {v : Value} {rs : List Rec} {w : World} (h : HasRs w v rs) (hsh : ∀ i, i < rs.length → ShortR (rs.getD i recZ)) (hl : rs.length ≤ 1000) :
    Calls Tryz.prog 66 #[v] w fun e w' => ∃ u, e = .returned u ∧ RowQ w.heap.size 101 37 5 3 w' u rs ∧ Below w.heap.size w w' := by
  obtain ⟨a, cap, rfl, _⟩ := h.form
  have H := hide h
  have HS := hide hsh
  clear h hsh
  generalize hn : rs.length = m at *
  have HN := hide hn
  clear hn
  go_enter Tryz.func66, Tryz.ntmps66
  go_wp2
  go_loopw [3, 4] (fun o i wr => ∃ k : Nat, k ≤ m ∧ i = .int .i64 k ∧ RowQ w.heap.size 101 37 5 3 wr o (rs.take k) ∧ Below w.heap.size w wr) (fun _ i _ => m - (intOf i).toNat)
  case atStart => exact ⟨0, Nat.zero_le _, rfl, by simpa using RowQ.nil _ _ _ _ _ _, Below.refl _ _⟩
  case round =>
    obtain ⟨k, hk, rfl, ho, hb⟩ := hrel
    by_cases hlt : k < m
    · obtain ⟨b, off, na, nc, ta, tc, xa, xc, ia, ic, rfl, hbl, hc, hR⟩ := ((unhide H).below hb).here (k := k) (by rw [unhide HN]; exact hlt)
      have hsk := unhide HS k hlt
      have htk := hide (show rs.take (k + 1) = rs.take k ++ [rs.getD k recZ] by rw [List.take_succ_eq_append_getElem (by rw [unhide HN]; exact hlt)]; simp [show k < rs.length by rw [unhide HN]; exact hlt])
      have htl : (rs.take k).length = k := by rw [List.length_take, unhide HN]; omega
      obtain ⟨c0, c1, c2, c3, c4, c5, c6⟩ := range7 hc
      generalize rs.getD k recZ = r at *
      generalize rs.take k = rk at *
      obtain ⟨oa, oc, hv, _⟩ := ho.form
      rw [htl] at hv
      subst hv
      have HO := hide ho
      have HL := hide (l3own_has hR (drawn_of_short hsk.1) (drawn_of_short hsk.2.1) hsk.2.2.1 hsk.2.2.2)
      have zB := hb.size
      clear ho hR hsk hc
      go_wp2_with fail
      clear c0 c1 c2 c3 c4 c5 c6
      refine (unhide HL).mono ?_
      rintro e w1 ⟨un, ut, ux, ui, rfl, o1, o2, o3, o4, b1⟩
      obtain ⟨pa, pc, rfl, _⟩ := o1.hasL.form
      obtain ⟨qa, qc, rfl, _⟩ := o2.hasL.form
      obtain ⟨ya, yc, rfl, _⟩ := o3.lies
      obtain ⟨za, zc, rfl, _⟩ := o4.lies
      have ba := below_alloc (w := w1) (.cells #[.slice pa r.name.length pc, .int .i64 r.type, .int .i64 r.ttl, .int .i64 r.addr, .slice qa r.to.length qc, .slice ya r.text.length yc, .slice za r.nums.length zc] 101)
      have g1 := heap_alloc_new w1 (.cells #[.slice pa r.name.length pc, .int .i64 r.type, .int .i64 r.ttl, .int .i64 r.addr, .slice qa r.to.length qc, .slice ya r.text.length yc, .slice za r.nums.length zc] 101)
      have OQ := hide ((⟨o1.mono (by omega), o2.mono (by omega), o3.mono (by omega), o4.mono (by omega)⟩ : OwnQ w.heap.size 37 5 3 w1 (.slice pa r.name.length pc) (.slice qa r.to.length qc) (.slice ya r.text.length yc) (.slice za r.nums.length zc) r).below ba)
      have HO2 := hide (((unhide HO).below b1).below ba)
      have bb := below_next (below_next hb b1) ba
      have z1 := b1.size
      have z2 := ba.size
      obtain ⟨xs0, hx0, hx1⟩ := unhide HO2
      rw [htl] at hx0
      clear o1 o2 o3 o4 b1 ba HL HO
      go_wp2_with (at_builtin; refine append_rec' rfl _ _ 30 101 rfl Tryz.underlying30 _ info_rrQ rfl w.heap.size (.slice oa k oc) k rfl w1.heap.size [.slice pa r.name.length pc, .int .i64 r.type, .int .i64 r.ttl, .int .i64 r.addr, .slice qa r.to.length qc, .slice ya r.text.length yc, .slice za r.nums.length zc] rfl ⟨xs0, hx0⟩ g1 rfl (by simp [Value.oneCell']) (by omega) (by simp; omega) ?_)
      intro v2 w2 h2 g2 hw2
      have row2 := RowQ.snoc (by decide) (by decide) (by decide) (unhide HO2) (unhide OQ) g2 (by rw [htl]; exact h2)
      rw [← unhide htk] at row2
      have bb2 := bb.grown g2 bb.size (fun j e => (World.ownsRow.lt hx0 j e).1)
      clear hx0 hx1 h2 g2 hw2 OQ HO2 g1 bb
      go_wp2
      exact ⟨⟨k + 1, by omega, by go_num, row2, bb2⟩, by simp [intOf]; omega⟩
    · obtain rfl : k = m := by omega
      have hall : rs.take k = rs := List.take_of_length_le (by rw [unhide HN]; exact Nat.le_refl _)
      rw [hall] at ho
      clear hall
      go_wp2
      go_ret
      exact ⟨_, rfl, ho, hb⟩

set_option maxHeartbeats 4000000 in
set_option maxRecDepth 100000 in
theorem l5own_has {vo vr : Value} {o : List (List Int)} {rs : List Rec} {w : World} (h : HasZ w vo vr o rs) (ho : ShortN o) (hsh : ∀ i, i < rs.length → ShortR (rs.getD i recZ)) (hl : rs.length ≤ 1000) :
    Calls Tryz.prog 127 #[.agg #[vo, vr]] w fun e w' => ∃ uo ur, e = .returned (.agg #[uo, ur]) ∧ OwnL w.heap.size 37 5 w' uo o ∧ RowQ w.heap.size 101 37 5 3 w' ur rs ∧ Below w.heap.size w w' := by
  obtain ⟨oa, oc, rfl, _⟩ := h.name.form
  obtain ⟨ra, rc, rfl, _⟩ := h.recs.form
  obtain ⟨hsz, k0, r0⟩ := box2 w (.cells #[.slice oa o.length oc, .slice ra rs.length rc] 55) #[.slice none 0 0, .slice none 0 0] 55
  have b0 := below2 w (.cells #[.slice oa o.length oc, .slice ra rs.length rc] 55) (.cells #[.slice none 0 0, .slice none 0 0] 55)
  have h0 := h.below b0
  have HN := hide (fun (w : World) (hh : HasL w (.slice oa o.length oc) o) => l2own_short hh (drawn_of_short ho).1 (drawn_of_short ho).2)
  have HR := hide (fun (w : World) (hh : HasRs w (.slice ra rs.length rc) rs) => l3ownAll_has hh hsh hl)
  have KB := hide k0
  have KR := hide r0
  have zz := block_lt r0
  have F1 := hide h0.name
  have F2 := hide h0.recs
  clear hsz k0 r0 h h0 ho hsh
  go_enter Tryz.func127, Tryz.ntmps127
  go_wp2_with fail
  generalize (w.alloc (.cells #[.slice oa o.length oc, .slice ra rs.length rc] 55)).alloc (.cells #[.slice none 0 0, .slice none 0 0] 55) = W at *
  have bd := below_drew (w := W)
  have bb := below_next b0 bd
  replace KB := hide (block_kept bd (unhide KB))
  replace KR := hide (block_kept bd (unhide KR))
  replace F1 := hide ((unhide F1).below bd)
  replace F2 := hide ((unhide F2).below bd)
  have z0 := bd.size
  clear bd b0
  have cz := cells2 (unhide KB)
  have c0 := cz.1
  have c1 := cz.2
  clear cz
  go_region_law (first
    | (go_simp; go_at_call 108; refine (unhide HN _ (unhide F1)).mono ?_; rintro e w1 ⟨v1, rfl, o1, b1⟩; obtain ⟨p1, q1, rfl, _⟩ := o1.hasL.form; have N1 := hide o1.here; have KB1 := hide (block_kept b1 (unhide KB)); have KR1 := hide (block_kept b1 (unhide KR)); have F21 := hide ((unhide F2).below b1); have bb1 := below_next bb b1; have z1 := b1.size; have c11 := (cells2 (unhide KB1)).2; clear b1 o1)
    | (go_simp; go_at_call 66; refine (unhide HR _ (unhide F21)).mono ?_; rintro e w2 ⟨v2, rfl, o2, b2⟩; obtain ⟨p2, q2, rfl, _⟩ := o2.form; have N2 := hide o2; have N12 := hide ((unhide N1).below b2); have KB2 := hide (block_kept b2 (unhide KB1)); have KR2 := hide (block_kept b2 (unhide KR1)); have bb2 := below_next bb1 b2; have z2 := b2.size; obtain ⟨d0, d1⟩ := cells2 (unhide KR2); obtain ⟨f0, f1⟩ := frozen2 (unhide KR2); clear b2 o2))
  all_goals
    clear d0 d1 f0 f1 c0 c1 c11
    have kf : ((w2.setCell ⟨w.heap.size + 1, 0, none⟩ (.slice p1 o.length q1)).setCell ⟨w.heap.size + 1, 1, none⟩ (.slice p2 rs.length q2)).heap[w.heap.size + 1]? = some (.cells #[.slice p1 o.length q1, .slice p2 rs.length q2] 55) := block_setAt (block_setAt (unhide KR2) 0 _) 1 _
    have u5 := (outside_set w2 (w.heap.size + 1) 0 (.slice p1 o.length q1)).trans (outside_set _ (w.heap.size + 1) 1 (.slice p2 rs.length q2))
    have g5 := grown_trans (grown_setCell w2 ⟨w.heap.size + 1, 0, none⟩ (.slice p1 o.length q1)) (grown_setCell _ ⟨w.heap.size + 1, 1, none⟩ (.slice p2 rs.length q2))
    have M1 := ((unhide N12).outside u5 (.inr (by omega))).ownL.mono (B' := w.heap.size) (by omega)
    have M2 := ((unhide N2).off (unhide KR2) (by decide) (by decide) (by decide) (by decide) g5).mono (B' := w.heap.size) (by omega)
    have bb5 := u5.below bb2 (by omega)
    clear u5 g5
    go_wp2_with fail
    refine bodyPost_ret (results_cell_row rfl _ _ (w.heap.size + 1) 55 #[.slice p1 o.length q1, .slice p2 rs.length q2] (0, 0) _ rfl kf Tryz.underlying55 rfl (by kernel_rfl)) rfl ?_
    exact ⟨_, _, rfl, M1, M2, bb5⟩
end Go.Proofs.YtdghbcjlahjjdaaGreat

namespace Go.Proofs.YtdghbcjlahjjdaaGreat
open Go.RowKit
set_option linter.unusedVariables false

theorem ssign_cases (c : Int) : (97 ≤ c ∧ c ≤ 122) ∨ (97 ≤ c ∧ 122 < c) ∨ (c < 97 ∧ 48 ≤ c ∧ c ≤ 57) ∨ (c < 97 ∧ 48 ≤ c ∧ 57 < c ∧ c ≠ 45) ∨ (c < 97 ∧ c < 48 ∧ c = 45) ∨ (c < 97 ∧ c < 48 ∧ c ≠ 45) := by omega

set_option maxHeartbeats 1600000 in
set_option maxRecDepth 100000 in
theorem specLabelOk_has {v : Value} {l : List Int} {w : World} (h : Has w v l) :
    Calls Tryz.prog 116 #[v] w fun e w' => e = .returned (.bool (labelOk l)) ∧ w = w' := by
  have hbd := h.bound
  unfold maxLen at hbd
  obtain ⟨a, cap, rfl, hL⟩ := h.form
  by_cases h0 : l.length = 0
  · rw [labelOk_short (by omega), h0]
    go_enter Tryz.func116, Tryz.ntmps116
    go_wp2
    go_ret
    exact ⟨rfl, rfl⟩
  · by_cases h1 : 15 < l.length
    · rw [labelOk_short (by omega)]
      generalize hn : l.length = n at *
      go_enter Tryz.func116, Tryz.ntmps116
      go_wp2
      go_ret
      exact ⟨rfl, rfl⟩
    · have h2 : l.length ≤ 15 := by omega
      have hyes := hide (fun (hs : ∀ j, j < l.length → signOk (l.getD j 0) = true) => labelOk_yes (l := l) (by omega) h2 hs)
      have hno := hide (fun (j : Nat) (hj : j < l.length) (hs : signOk (l.getD j 0) = false) => labelOk_sign hj hs)
      generalize hok : labelOk l = ok at *
      clear hok
      generalize hn : l.length = n at *
      have HN := hide hn
      clear hn
      have hn1 : (1 : Int) ≤ n := by omega
      go_enter Tryz.func116, Tryz.ntmps116
      go_wp2
      go_loop [3] (fun i => ∃ k : Nat, k ≤ n ∧ i = .int .i64 k ∧ Hid (∀ j, j < k → signOk (l.getD j 0) = true)) (fun i => n - (intOf i).toNat)
      case atStart => exact ⟨0, Nat.zero_le _, rfl, hide (fun j hj => absurd hj (Nat.not_lt_zero _))⟩
      case round =>
        obtain ⟨k, hk, rfl, hall⟩ := hrel
        by_cases hlt : k < n
        · obtain ⟨b, off, rfl, hbl, hc⟩ := hL.here (k := k) (by rw [unhide HN]; exact hlt)
          have hone := hide (fun (hs : signOk (l.getD k 0) = true) => (show ∀ j, j < k + 1 → signOk (l.getD j 0) = true from fun j hj => by
            by_cases e : j = k
            · subst e; exact hs
            · exact unhide hall j (by omega)))
          have hnok := hide (fun (hs : signOk (l.getD k 0) = false) => unhide hno k hlt hs)
          generalize hx : l.getD k 0 = x at *
          rcases ssign_cases x with ⟨h1, h2⟩ | ⟨h1, h2⟩ | ⟨h1, h2, h3⟩ | ⟨h1, h2, h3, h4⟩ | ⟨h1, h2, rfl⟩ | ⟨h1, h2, h3⟩
          · have hs : signOk x = true := decide_eq_true (by omega)
            go_wp2
            exact ⟨⟨k + 1, by omega, by go_num, hide (unhide hone hs)⟩, by simp [intOf]; omega⟩
          · have hs : signOk x = false := decide_eq_false (by omega)
            have hq := unhide hnok hs
            subst hq
            have h8 : (x == 45) = false := by simp; omega
            have h5 : 48 ≤ x := by omega
            have h6 : ¬ x ≤ 57 := by omega
            have h7 : ¬ x ≤ 122 := by omega
            go_wp2
            go_ret
            exact ⟨rfl, rfl⟩
          · have hs : signOk x = true := decide_eq_true (by omega)
            have h5 : ¬ 97 ≤ x := by omega
            go_wp2
            exact ⟨⟨k + 1, by omega, by go_num, hide (unhide hone hs)⟩, by simp [intOf]; omega⟩
          · have hs : signOk x = false := decide_eq_false (by omega)
            have hq := unhide hnok hs
            subst hq
            have h8 : (x == 45) = false := by simp; omega
            have h5 : ¬ 97 ≤ x := by omega
            have h6 : ¬ x ≤ 57 := by omega
            go_wp2
            go_ret
            exact ⟨rfl, rfl⟩
          · have hs : signOk 45 = true := rfl
            go_wp2
            exact ⟨⟨k + 1, by omega, by go_num, hide (unhide hone hs)⟩, by simp [intOf]; omega⟩
          · have hs : signOk x = false := decide_eq_false (by omega)
            have hq := unhide hnok hs
            subst hq
            have h8 : (x == 45) = false := by simp; omega
            have h5 : ¬ 97 ≤ x := by omega
            have h6 : ¬ 48 ≤ x := by omega
            go_wp2
            go_ret
            exact ⟨rfl, rfl⟩
        · obtain rfl : k = n := by omega
          have hq := unhide hyes (unhide hall)
          subst hq
          go_wp2
          go_ret
          exact ⟨rfl, rfl⟩
end Go.Proofs.YtdghbcjlahjjdaaGreat

namespace Go.Proofs.YtdghbcjlahjjdaaGreat
open Go.RowKit
set_option linter.unusedVariables false

set_option maxHeartbeats 400000 in
set_option maxRecDepth 100000 in
theorem specNameOk_has {v : Value} {n : List (List Int)} {w : World} (h : HasL w v n) :
    Calls Tryz.prog 65 #[.agg #[v]] w fun e w' => e = .returned (.bool (nameOk n)) ∧ Below w.heap.size w w' := by
  obtain ⟨a, cap, rfl, hl, hm⟩ := h.form
  unfold maxLen at hm
  by_cases h1 : 6 < n.length
  · rw [nameOk_long h1]
    have H := hide h
    clear h
    generalize hn : n.length = m at *
    have HN := hide hn
    clear hn
    go_enter Tryz.func65, Tryz.ntmps65
    go_wp2
    go_ret
    exact ⟨rfl, below_alloc _⟩
  · have h2 : n.length ≤ 6 := by omega
    have hA := h.below (below_alloc (.cells #[.slice a n.length cap] 53))
    have H := hide h
    clear h
    have hyes := hide (fun (hs : ∀ j, j < n.length → labelOk (n.getD j []) = true) => nameOk_yes (n := n) h2 hs)
    have hno := hide (fun (j : Nat) (hj : j < n.length) (hs : labelOk (n.getD j []) = false) => nameOk_label hj hs)
    generalize hok : nameOk n = ok at *
    clear hok
    generalize hn : n.length = m at *
    have HN := hide hn
    clear hn
    go_enter Tryz.func65, Tryz.ntmps65
    go_wp2
    go_loop [3] (fun i => ∃ k : Nat, k ≤ m ∧ i = .int .i64 k ∧ Hid (∀ j, j < k → labelOk (n.getD j []) = true)) (fun i => m - (intOf i).toNat)
    case atStart => exact ⟨0, Nat.zero_le _, rfl, hide (fun j hj => absurd hj (Nat.not_lt_zero _))⟩
    case round =>
      obtain ⟨k, hk, rfl, hall⟩ := hrel
      by_cases hlt : k < m
      · obtain ⟨b, off, u, rfl, hbl, hc, hu⟩ := hA.here (k := k) (by rw [unhide HN]; exact hlt)
        have hone := hide (fun (hs : labelOk (n.getD k []) = true) => (show ∀ j, j < k + 1 → labelOk (n.getD j []) = true from fun j hj => by
            by_cases e : j = k
            · subst e; exact hs
            · exact unhide hall j (by omega)))
        have hnok := hide (fun (hs : labelOk (n.getD k []) = false) => unhide hno k hlt hs)
        generalize hx : n.getD k [] = x at *
        have HU := hide hu
        obtain ⟨ua, uc, rfl, _⟩ := hu.form
        clear hu
        go_wp2_with fail
        refine (specLabelOk_has (unhide HU)).mono ?_
        rintro e w1 ⟨rfl, rfl⟩
        cases hs : labelOk x with
        | true =>
          go_wp2
          exact ⟨⟨k + 1, by omega, by go_num, hide (unhide hone hs)⟩, by simp [intOf]; omega⟩
        | false =>
          have hq := unhide hnok hs
          subst hq
          go_wp2
          go_ret
          exact ⟨rfl, below_alloc _⟩
      · obtain rfl : k = m := by omega
        have hq := unhide hyes (unhide hall)
        subst hq
        go_wp2
        go_ret
        exact ⟨rfl, below_alloc _⟩
end Go.Proofs.YtdghbcjlahjjdaaGreat
