/-
  Contract of the program's Owner. Plain facts: an append of one record to a row of records. Contracts of the specification's LabelOk.
-/
import Derived.Test.YtmnlhjdjjinbiaaGreatOwnerG29
import Derived.Test.YtmnlhjdjjinbiaaGreatOwnerG30
import Derived.Test.YtmnlhjdjjinbiaaGreatOwnerG20
import Derived.Test.YtmnlhjdjjinbiaaGreatOwnerG31
import Derived.Test.YtmnlhjdjjinbiaaGreatOwnerG05
import Derived.Deep.RegionHeld3
import Derived.Test.YtmnlhjdjjinbiaaGreatOwnerG12
import Derived.Test.YtmnlhjdjjinbiaaGreatOwnerG07
import Derived.Test.YtmnlhjdjjinbiaaGreatOwnerG04
import Derived.Test.YtmnlhjdjjinbiaaGreatOwnerG00
namespace Go.Proofs.YtmnlhjdjjinbiaaGreat
open Go.RowKit Go.Shelf
set_option linter.unusedVariables false

theorem isEmpty_len (l : List Rec) : l.isEmpty = ((l.length : Int) == 0) := by
  cases l with
  | nil => rfl
  | cons a l => rw [eq_comm]; simp only [List.isEmpty_cons, List.length_cons]; rw [beq_eq_false_iff_ne]; omega

set_option maxHeartbeats 2000000 in
set_option maxRecDepth 100000 in
theorem implOwner_has {vo vr v vi : Value} {o n : List (List Int)} {rs : List Rec} {id : List Int} {w : World} (h : HasZ w vo vr o rs) (hn : HasL w v n) (hi : Has w vi id) :
    Calls Tryz.prog 34 #[.agg #[vo, vr], .agg #[v], vi] w fun e w' => e = .returned (.tuple #[.bool (ownerOf o rs n id).1, .bool (ownerOf o rs n id).2]) ∧ Below w.heap.size w w' := by
  obtain ⟨oa, oc, rfl, _⟩ := h.name.form
  obtain ⟨ra, rc, rfl, _⟩ := h.recs.form
  obtain ⟨a, cap, rfl, _⟩ := hn.form
  obtain ⟨ia, ic, rfl, _⟩ := hi.form
  obtain ⟨hsz, k0, x0⟩ := box2 w (.cells #[.slice oa o.length oc, .slice ra rs.length rc] 37) #[.slice a n.length cap] 34
  have bb := below2 w (.cells #[.slice oa o.length oc, .slice ra rs.length rc] 37) (.cells #[.slice a n.length cap] 34)
  have HH := hide (h.below bb)
  have HN := hide (hn.below bb)
  have HI := hide (hi.below bb)
  have HO := implZoneOk_has (h.below bb)
  have KZ := hide k0
  have KN := hide x0
  obtain ⟨c0, c1⟩ := cells2 k0
  clear h hn hi hsz k0 x0
  generalize hres : ownerOf o rs n id = res
  unfold ownerOf at hres
  cases hz : zoneOk o rs with
  | false =>
    rw [if_neg (fun q => by rw [hz] at q; cases q.1)] at hres
    subst hres
    rw [hz] at HO
    replace HO := hide HO
    go_enter Tryz.func34, Tryz.ntmps34
    go_wp2_with fail
    refine (unhide HO).mono ?_
    rintro e w1 ⟨rfl, b1⟩
    go_wp2_with fail
    go_ret2
    exact ⟨rfl, below_next bb b1⟩
  | true =>
    rw [hz] at HO
    replace HO := hide HO
    cases hnm : nameOk n with
    | false =>
      rw [if_neg (fun q => by rw [hnm] at q; cases q.2)] at hres
      subst hres
      go_enter Tryz.func34, Tryz.ntmps34
      go_wp2_with fail
      refine (unhide HO).mono ?_
      rintro e w1 ⟨rfl, b1⟩
      have HM := implNameOk_has ((unhide HN).below b1)
      rw [hnm] at HM
      replace HM := hide HM
      have d2 := block_one (block_kept b1 (unhide KN))
      replace bb := below_next bb b1
      clear c0 c1
      go_wp2_with fail
      refine (unhide HM).mono ?_
      rintro e w2 ⟨rfl, b2⟩
      go_wp2_with fail
      go_ret2
      exact ⟨rfl, below_next bb b2⟩
    | true =>
      rw [if_pos ⟨hz, hnm⟩] at hres
      subst hres
      have hpg := page_of_zone hz hnm
      have hsh := ofName_short (n := n) hz
      have hset := set_is hz hnm 255
      have hset9 := set_is hz hnm 49
      have hl2 := selK_length n 255 rs rs.length
      have hl4 := selK_length n 49 rs rs.length
      have HOK := hide (zone_oks hz)
      have h60 := (zone_short hz).2.2
      have hsn := short_name hnm
      dsimp only
      generalize selK n 255 rs rs.length = S2 at *
      generalize selK n 49 rs rs.length = S4 at *
      rw [isEmpty_len]
      go_enter Tryz.func34, Tryz.ntmps34
      go_wp2_with fail
      refine (unhide HO).mono ?_
      rintro e w1 ⟨rfl, b1⟩
      have HM := implNameOk_has ((unhide HN).below b1)
      rw [hnm] at HM
      replace HM := hide HM
      have d2 := block_one (block_kept b1 (unhide KN))
      replace bb := below_next bb b1
      replace HH := hide ((unhide HH).below b1)
      replace HN := hide ((unhide HN).below b1)
      replace HI := hide ((unhide HI).below b1)
      replace KZ := hide (block_kept b1 (unhide KZ))
      replace KN := hide (block_kept b1 (unhide KN))
      clear c0 c1 b1 HO
      go_wp2_with fail
      refine (unhide HM).mono ?_
      rintro e w2 ⟨rfl, b2⟩
      replace bb := below_next bb b2
      replace HH := hide ((unhide HH).below b2)
      replace HN := hide ((unhide HN).below b2)
      replace HI := hide ((unhide HI).below b2)
      replace KZ := hide (block_kept b2 (unhide KZ))
      replace KN := hide (block_kept b2 (unhide KN))
      clear d2 b2 HM
      have HPG := hide hpg
      have HSH := hide hsh
      have HSET := hide hset
      have HSET9 := hide hset9
      clear hpg hsh hset hset9
      have BK := hide (bookOf_has (unhide HH) (unhide HOK) (by omega))
      obtain ⟨c0, c1⟩ := cells2 (unhide KZ)
      go_wp2_with fail
      refine (unhide BK).mono ?_
      rintro e w3 ⟨rfl, hB3, b3⟩
      have b4 := below_next b3 (below_drew (w := w3))
      have HB := hide (hB3.below (below_drew (w := w3)))
      replace bb := below_next bb b4
      replace HN := hide ((unhide HN).below b4)
      replace HI := hide ((unhide HI).below b4)
      replace KN := hide (block_kept b4 (unhide KN))
      clear c0 c1 b3 hB3 BK HH KZ
      go_wp2_with fail
      go_region_held3 (fun w' => w'.cell? ⟨w.heap.size + 1, 0, none⟩ = some (.slice a n.length cap))
        (first | exact block_one (unhide KN) | exact block_one (block_kept q5 (unhide KN)) | exact block_one (block_kept q6 (unhide KN)) | exact block_one (block_kept q7 (unhide KN)))
        (first
        | (go_at_call 74; refine (allTell_has o6.has ((unhide HI).below q6) (by omega)).mono ?_; rintro e w7 ⟨rfl, b7⟩; have q7 := below_next q6 b7)
        | (go_at_call 64; have qq := q5; refine ((callsIn_wide (n := 7)).1 (set_in 49 ((unhide HB).below q5) ((unhide HN).below q5) hsn (by unfold bookIn; rw [unhide HPG]; exact (unhide HSH).1) (by unfold bookIn; rw [unhide HPG]; exact (unhide HSH).2))).mono ?_; rintro e w6 ⟨u6, rfl, o6, b6⟩; unfold bookIn at o6; rw [unhide HPG, unhide HSET9] at o6; obtain ⟨ua6, uc6, rfl, _⟩ := o6.form; have q6 := below_next q5 b6)
        | (go_at_call 64; refine ((callsIn_wide (n := 7)).1 (set_in 255 (unhide HB) (unhide HN) hsn (by unfold bookIn; rw [unhide HPG]; exact (unhide HSH).1) (by unfold bookIn; rw [unhide HPG]; exact (unhide HSH).2))).mono ?_; rintro e w5 ⟨u5, rfl, o5, q5⟩; unfold bookIn at o5; rw [unhide HPG, unhide HSET] at o5; obtain ⟨ua5, uc5, rfl, _⟩ := o5.form))
      go_wp2_with fail
      go_ret2
      exact ⟨rfl, below_next bb q7⟩
end Go.Proofs.YtmnlhjdjjinbiaaGreat

namespace Go.Proofs.YtmnlhjdjjinbiaaGreat
open Go.RowKit
set_option linter.unusedVariables false

theorem ownsRow_later {B n size : Nat} {e : TypeId} {w w' : World} {v : Value} {xs : List Value} (h : w.ownsRow B e size v n xs) (hb : Below w.heap.size w w') : w'.ownsRow B e size v n xs :=
  World.ownsRow.kept h (grown_of_below hb) (by cases hv : v.ownBlock with | none => exact .inl rfl | some k => exact .inr (by simp))
theorem append_rec {P : Program} {w : World} {ops : Array Oper} {rest : List Oper} {o : Oper} {a : Act} {Q : Exit → Act → World → Prop} (hgd : o.guard = none) (s x : Operand) (t e : TypeId)
    (ho : o.op = .call { callee := .builtin .append, args := #[s, x], argTypes := #[t, t] }) (ht : P.underlying t = some (.slice e)) (zs : Array Value)
    (hinfo : (P.info? e).map (fun i => (i.zero, i.size, i.bytes)) = some (some (.agg zs), 7, 120)) (hzs : zs.size = 7)
    (base : Nat) (v : Value) (n : Nat) (xs : List Value) (hs : a.eval s = v) (hown : w.ownsRow base e 7 v n xs) (g : Nat) (cs : List Value) (hx : a.eval x = .slice (some ⟨g, 0, none⟩) 1 1)
    (hg : w.heap[g]? = some (.cells cs.toArray e)) (hcl : cs.length = 7) (h1 : ∀ u ∈ cs, u.oneCell' = true) (hlen : n ≤ 1000) (hbase : base ≤ w.heap.size)
    (h : ∀ v' w', w'.ownsRow base e 7 v' (n + 1) (xs ++ cs) → w.grownBy w' v.ownBlock → wpList P ops Q rest (a.put o.dst v') w') : wpList P ops Q (o :: rest) a w := by
  obtain ⟨i0, hi, hzz⟩ := Option.map_eq_some_iff.1 hinfo
  simp only [Prod.mk.injEq] at hzz
  obtain ⟨hz0, hz1, hz2⟩ := hzz
  refine wpList_append_own w hgd s x t ho base e i0 (.agg zs) 7 120 ht hi hz0 hz1 hz2 hzs (by decide) v n xs hs hown ⟨g, 0, none⟩ 1 1 cs hx (by rw [hcl]) (fun j u hj => ?_) h1 (by unfold maxLen; omega) (by omega) hbase ?_
  · rw [Addr.add_lit, Nat.zero_add, block_cell hg]
    simpa using hj
  · intro v' w' q1 q2 _
    exact h v' w' q1 q2
end Go.Proofs.YtmnlhjdjjinbiaaGreat

namespace Go.Proofs.YtmnlhjdjjinbiaaGreat
open Go.RowKit
set_option linter.unusedVariables false

theorem ssign_cases (c : Int) : (97 ≤ c ∧ c ≤ 122) ∨ (97 ≤ c ∧ 122 < c) ∨ (c < 97 ∧ 48 ≤ c ∧ c ≤ 57) ∨ (c < 97 ∧ 48 ≤ c ∧ 57 < c ∧ c ≠ 45) ∨ (c < 97 ∧ c < 48 ∧ c = 45) ∨ (c < 97 ∧ c < 48 ∧ c ≠ 45) := by omega

set_option maxHeartbeats 1600000 in
set_option maxRecDepth 100000 in
theorem specLabelOk_has {v : Value} {l : List Int} {w : World} (h : Has w v l) :
    Calls Tryz.prog 98 #[v] w fun e w' => e = .returned (.bool (labelOk l)) ∧ w = w' := by
  have hbd := h.bound
  unfold maxLen at hbd
  obtain ⟨a, cap, rfl, hL⟩ := h.form
  by_cases h0 : l.length = 0
  · rw [labelOk_short (by omega), h0]
    go_enter Tryz.func98, Tryz.ntmps98
    go_wp2
    go_ret
    exact ⟨rfl, rfl⟩
  · by_cases h1 : 15 < l.length
    · rw [labelOk_short (by omega)]
      generalize hn : l.length = n at *
      go_enter Tryz.func98, Tryz.ntmps98
      go_wp2
      go_ret
      exact ⟨rfl, rfl⟩
    · have h2 : l.length ≤ 15 := by omega
      have hyes := hide (fun (hs : ∀ j, j < l.length → signOk (l.getD j 0) = true) => labelOk_yes (l := l) (by omega) h2 hs)
      have hno := hide (fun (j : Nat) (hj : j < l.length) (hs : signOk (l.getD j 0) = false) => labelOk_sign hj hs)
      generalize hok : labelOk l = ok at *
      clear hok
      generalize hn : l.length = n at *
      have HN := hide hn
      clear hn
      have hn1 : (1 : Int) ≤ n := by omega
      go_enter Tryz.func98, Tryz.ntmps98
      go_wp2
      go_loop [3] (fun i => ∃ k : Nat, k ≤ n ∧ i = .int .i64 k ∧ Hid (∀ j, j < k → signOk (l.getD j 0) = true)) (fun i => n - (intOf i).toNat)
      case atStart => exact ⟨0, Nat.zero_le _, rfl, hide (fun j hj => absurd hj (Nat.not_lt_zero _))⟩
      case round =>
        obtain ⟨k, hk, rfl, hall⟩ := hrel
        by_cases hlt : k < n
        · obtain ⟨b, off, rfl, hbl, hc⟩ := hL.here (k := k) (by rw [unhide HN]; exact hlt)
          have hone := hide (fun (hs : signOk (l.getD k 0) = true) => (show ∀ j, j < k + 1 → signOk (l.getD j 0) = true from fun j hj => by
            by_cases e : j = k
            · subst e; exact hs
            · exact unhide hall j (by omega)))
          have hnok := hide (fun (hs : signOk (l.getD k 0) = false) => unhide hno k hlt hs)
          generalize hx : l.getD k 0 = x at *
          rcases ssign_cases x with ⟨h1, h2⟩ | ⟨h1, h2⟩ | ⟨h1, h2, h3⟩ | ⟨h1, h2, h3, h4⟩ | ⟨h1, h2, rfl⟩ | ⟨h1, h2, h3⟩
          · have hs : signOk x = true := decide_eq_true (by omega)
            go_wp2
            exact ⟨⟨k + 1, by omega, by go_num, hide (unhide hone hs)⟩, by simp [intOf]; omega⟩
          · have hs : signOk x = false := decide_eq_false (by omega)
            have hq := unhide hnok hs
            subst hq
            have h8 : (x == 45) = false := by simp; omega
            have h5 : 48 ≤ x := by omega
            have h6 : ¬ x ≤ 57 := by omega
            have h7 : ¬ x ≤ 122 := by omega
            go_wp2
            go_ret
            exact ⟨rfl, rfl⟩
          · have hs : signOk x = true := decide_eq_true (by omega)
            have h5 : ¬ 97 ≤ x := by omega
            go_wp2
            exact ⟨⟨k + 1, by omega, by go_num, hide (unhide hone hs)⟩, by simp [intOf]; omega⟩
          · have hs : signOk x = false := decide_eq_false (by omega)
            have hq := unhide hnok hs
            subst hq
            have h8 : (x == 45) = false := by simp; omega
            have h5 : ¬ 97 ≤ x := by omega
            have h6 : ¬ x ≤ 57 := by omega
            go_wp2
            go_ret
            exact ⟨rfl, rfl⟩
          · have hs : signOk 45 = true := rfl
            go_wp2
            exact ⟨⟨k + 1, by omega, by go_num, hide (unhide hone hs)⟩, by simp [intOf]; omega⟩
          · have hs : signOk x = false := decide_eq_false (by omega)
            have hq := unhide hnok hs
            subst hq
            have h8 : (x == 45) = false := by simp; omega
            have h5 : ¬ 97 ≤ x := by omega
            have h6 : ¬ 48 ≤ x := by omega
            go_wp2
            go_ret
            exact ⟨rfl, rfl⟩
        · obtain rfl : k = n := by omega
          have hq := unhide hyes (unhide hall)
          subst hq
          go_wp2
          go_ret
          exact ⟨rfl, rfl⟩
end Go.Proofs.YtmnlhjdjjinbiaaGreat
