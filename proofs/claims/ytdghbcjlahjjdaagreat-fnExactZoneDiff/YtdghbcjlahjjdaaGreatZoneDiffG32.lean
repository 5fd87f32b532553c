/-
  Plain facts: an append of one record to a row of records. Contract of the specification's ZoneDiff. The walk of laws.FnExactZoneDiff.
-/
import Derived.Test.YtdghbcjlahjjdaaGreatZoneDiffG22
import Derived.Test.YtdghbcjlahjjdaaGreatZoneDiffG07
import Derived.Test.YtdghbcjlahjjdaaGreatZoneDiffG28
import Derived.Test.YtdghbcjlahjjdaaGreatZoneDiffG30
import Derived.Test.YtdghbcjlahjjdaaGreatZoneDiffG31
import Derived.Test.YtdghbcjlahjjdaaGreatZoneDiffG23
import Derived.Deep.RegionHeld3
import Derived.Test.YtdghbcjlahjjdaaGreatZoneDiffG02
import Derived.Test.YtdghbcjlahjjdaaGreatZoneDiffG04
import Derived.Test.YtdghbcjlahjjdaaGreatZoneDiffG11
import Derived.Test.YtdghbcjlahjjdaaGreatZoneDiffG10
import Derived.Test.YtdghbcjlahjjdaaGreatZoneDiffG06
import Derived.Test.YtdghbcjlahjjdaaGreatZoneDiffG25
import Derived.Deep.RegionWith
namespace Go.Proofs.YtdghbcjlahjjdaaGreat
open Go.RowKit
set_option linter.unusedVariables false

theorem ownsRow_later {B n size : Nat} {e : TypeId} {w w' : World} {v : Value} {xs : List Value} (h : w.ownsRow B e size v n xs) (hb : Below w.heap.size w w') : w'.ownsRow B e size v n xs :=
  World.ownsRow.kept h (grown_of_below hb) (by cases hv : v.ownBlock with | none => exact .inl rfl | some k => exact .inr (by simp))
theorem append_rec {P : Program} {w : World} {ops : Array Oper} {rest : List Oper} {o : Oper} {a : Act} {Q : Exit → Act → World → Prop} (hgd : o.guard = none) (s x : Operand) (t e : TypeId)
    (ho : o.op = .call { callee := .builtin .append, args := #[s, x], argTypes := #[t, t] }) (ht : P.underlying t = some (.slice e)) (zs : Array Value)
    (hinfo : (P.info? e).map (fun i => (i.zero, i.size, i.bytes)) = some (some (.agg zs), 7, 120)) (hzs : zs.size = 7)
    (base : Nat) (v : Value) (n : Nat) (xs : List Value) (hs : a.eval s = v) (hown : w.ownsRow base e 7 v n xs) (g : Nat) (cs : List Value) (hx : a.eval x = .slice (some ⟨g, 0, none⟩) 1 1)
    (hg : w.heap[g]? = some (.cells cs.toArray e)) (hcl : cs.length = 7) (h1 : ∀ u ∈ cs, u.oneCell' = true) (hlen : n ≤ 1000) (hbase : base ≤ w.heap.size)
    (h : ∀ v' w', w'.ownsRow base e 7 v' (n + 1) (xs ++ cs) → w.grownBy w' v.ownBlock → wpList P ops Q rest (a.put o.dst v') w') : wpList P ops Q (o :: rest) a w := by
  obtain ⟨i0, hi, hzz⟩ := Option.map_eq_some_iff.1 hinfo
  simp only [Prod.mk.injEq] at hzz
  obtain ⟨hz0, hz1, hz2⟩ := hzz
  refine wpList_append_own w hgd s x t ho base e i0 (.agg zs) 7 120 ht hi hz0 hz1 hz2 hzs (by decide) v n xs hs hown ⟨g, 0, none⟩ 1 1 cs hx (by rw [hcl]) (fun j u hj => ?_) h1 (by unfold maxLen; omega) (by omega) hbase ?_
  · rw [Addr.add_lit, Nat.zero_add, block_cell hg]
    simpa using hj
  · intro v' w' q1 q2 _
    exact h v' w' q1 q2
end Go.Proofs.YtdghbcjlahjjdaaGreat

namespace Go.Proofs.YtdghbcjlahjjdaaGreat
open Go.RowKit
set_option linter.unusedVariables false

theorem info_rrE : (Tryz.prog.info? 101).map (fun i => (i.zero, i.size, i.bytes)) = some (some (.agg #[.slice none 0 0, .int .i64 0, .int .i64 0, .int .i64 0, .slice none 0 0, .slice none 0 0, .slice none 0 0]), 7, 120) := by kernel_rfl
theorem RowS_later {B : Nat} {e : TypeId} {W w w' : World} {v : Value} {rs : List Rec} (h : RowS B e W w v rs) (hb : Below w.heap.size w w') : RowS B e W w' v rs := by
  obtain ⟨xs, h1, h2⟩ := h
  exact ⟨xs, ownsRow_later h1 hb, h2⟩
set_option maxHeartbeats 4000000 in
set_option maxRecDepth 100000 in
theorem specZoneDiff_has {vo vr uo ur : Value} {o p : List (List Int)} {a b : List Rec} {w : World} (h : HasZ w vo vr o a) (h' : HasZ w uo ur p b) (hs : ∀ k, k < a.length → (a.getD k recZ).name.length ≤ 1048576) (hs2 : ∀ k, k < b.length → (b.getD k recZ).name.length ≤ 1048576) :
    Calls Tryz.prog 39 #[.agg #[vo, vr], .agg #[uo, ur]] w fun e w' => ∃ v1 v2, e = .returned (.tuple #[v1, v2, .bool (diffOf o a p b).2.2]) ∧ HasRs w' v1 (diffOf o a p b).1 ∧ HasRs w' v2 (diffOf o a p b).2.1 ∧ Below w.heap.size w w' := by
  obtain ⟨oa, oc, rfl, _⟩ := h.name.form
  obtain ⟨ra, rc, rfl, _⟩ := h.recs.form
  obtain ⟨pa, pc, rfl, _⟩ := h'.name.form
  obtain ⟨sa, sc, rfl, _⟩ := h'.recs.form
  obtain ⟨hsz, k0, x0⟩ := box2 w (.cells #[.slice oa o.length oc, .slice ra a.length rc] 55) #[.slice pa p.length pc, .slice sa b.length sc] 55
  have b0 := below2 w (.cells #[.slice oa o.length oc, .slice ra a.length rc] 55) (.cells #[.slice pa p.length pc, .slice sa b.length sc] 55)
  have HA := hide h
  have ZO1 := hide (specZoneOk_has (h.below b0) hs)
  have ZO2 := hide (fun (w9 : World) (hb : Below w.heap.size w w9) => specZoneOk_has (h'.below hb) hs2)
  have HB := hide h'
  have K0 := hide k0
  have X0 := hide x0
  have zx := block_lt x0
  generalize hRes : diffOf o a p b = Res
  have HQ0 := hide hRes
  clear hRes hsz k0 x0 h h' hs hs2
  go_enter Tryz.func39, Tryz.ntmps39
  obtain ⟨c0, c1⟩ := cells2 (unhide K0)
  obtain ⟨d0, d1⟩ := cells2 (unhide X0)
  go_wp2_with fail
  clear c0 c1 d0 d1
  generalize (w.alloc (.cells #[.slice oa o.length oc, .slice ra a.length rc] 55)).alloc (.cells #[.slice pa p.length pc, .slice sa b.length sc] 55) = W at *
  refine (unhide ZO1).mono ?_
  rintro e w1 ⟨rfl, b1⟩
  have bb := below_next b0 b1
  replace K0 := hide (block_kept b1 (unhide K0))
  replace X0 := hide (block_kept b1 (unhide X0))
  have z1 := b1.size
  clear b0 b1
  have hRes := unhide HQ0
  unfold diffOf at hRes
  clear HQ0
  cases hoa : zoneOk o a with
  | false =>
    rw [if_neg (fun q => by rw [hoa] at q; cases q.1)] at hRes
    subst hRes
    clear hoa
    go_wp2_with fail
    refine bodyPost_ret (results_tmp3 rfl _ _ _) rfl ?_
    exact ⟨_, _, rfl, .inl ⟨rfl, rfl⟩, .inl ⟨rfl, rfl⟩, bb⟩
  | true =>
    obtain ⟨c0, c1⟩ := cells2 (unhide K0)
    obtain ⟨d0, d1⟩ := cells2 (unhide X0)
    have HOA := hide hoa
    have HQ1 := hide hRes
    clear hRes
    go_wp2_with fail
    clear c0 c1 d0 d1
    refine (unhide ZO2 _ bb).mono ?_
    rintro e w2 ⟨rfl, b2⟩
    replace bb := below_next bb b2
    replace K0 := hide (block_kept b2 (unhide K0))
    replace X0 := hide (block_kept b2 (unhide X0))
    have z2 := b2.size
    clear b2 hoa
    cases hob : zoneOk p b with
    | false =>
      have hRes := unhide HQ1
      rw [if_neg (fun q => by rw [hob] at q; cases q.2)] at hRes
      subst hRes
      clear hob HQ1
      go_wp2_with fail
      refine bodyPost_ret (results_tmp3 rfl _ _ _) rfl ?_
      exact ⟨_, _, rfl, .inl ⟨rfl, rfl⟩, .inl ⟨rfl, rfl⟩, bb⟩
    | true =>
      have hRes := unhide HQ1
      rw [if_pos ⟨unhide HOA, hob⟩] at hRes
      subst hRes
      clear HQ1
      have HOB := hide hob
      clear hob
      have OKA := hide (zone_oks (unhide HOA))
      have OKB := hide (zone_oks (unhide HOB))
      have l1 := (zone_short (unhide HOA)).2.2
      have l2 := (zone_short (unhide HOB)).2.2
      clear ZO1 ZO2
      go_wp2_with fail
      go_loopw [7, 9] (fun v i wr => ∃ k : Nat, k ≤ a.length ∧ i = .int .i64 k ∧ RowS w2.heap.size 101 w wr v (onlyK a b k) ∧ Below w2.heap.size w2 wr) (fun _ i _ => a.length - (intOf i).toNat)
      case atStart => exact ⟨0, Nat.zero_le _, rfl, RowS.nil _ _ _ _, Below.refl _ _⟩
      case round =>
        obtain ⟨k, hk, rfl, hrow, hbw⟩ := hrel
        obtain ⟨e0, e1⟩ := cells2 (block_kept hbw (unhide K0))
        by_cases hlt : k < a.length
        · have hkm : (k : Int) < a.length := by omega
          have bwd := below_next bb (below_next hbw (below_drew (w := wr)))
          obtain ⟨g, off, na, nc, ta, tc, xa, xc, ia, ic, rfl, hbl, hc, hu⟩ := (unhide HA).recs.here (k := k) hlt
          have hok := unhide OKA k hlt
          have HST := hide (show onlyK a b (k + 1) = if hasRec b (a.getD k recZ) = true then onlyK a b k else onlyK a b k ++ [a.getD k recZ] from rfl)
          have hlen := onlyK_length a b k
          generalize a.getD k recZ = rk at *
          have PL := hide (l6place_has ((unhide HB).recs.below bwd) (hu.below bwd) (unhide OKB) hok l2)
          have HC := hide (range_below hc hbl bwd)
          have hbld : g < wr.drew.heap.size := Nat.lt_of_lt_of_le hbl bwd.size
          have KD := hide (block_kept (below_next hbw (below_drew (w := wr))) (unhide K0))
          have XD := hide (block_kept (below_next hbw (below_drew (w := wr))) (unhide X0))
          have HU := hide hu
          have HROW := hide hrow
          have hbd := below_next hbw (below_drew (w := wr))
          have hbs := bwd.size
          clear hc hu hrow hok bwd hbw
          go_wp2_with fail
          clear e0 e1
          go_region_held3 (fun w' => (w'.cell? ⟨w.heap.size, 0, none⟩ = some (.slice oa o.length oc) ∧ w'.cell? ⟨w.heap.size, 1, none⟩ = some (.slice (some ⟨g, off, none⟩) a.length rc)) ∧ (w'.cell? ⟨w.heap.size + 1, 0, none⟩ = some (.slice pa p.length pc) ∧ w'.cell? ⟨w.heap.size + 1, 1, none⟩ = some (.slice sa b.length sc)) ∧ (w'.cell? ⟨g, off + k * 7, none⟩ = some (.slice na rk.name.length nc) ∧ w'.cell? ⟨g, off + k * 7 + 1, none⟩ = some (.int .i64 rk.type) ∧ w'.cell? ⟨g, off + k * 7 + 2, none⟩ = some (.int .i64 rk.ttl) ∧ w'.cell? ⟨g, off + k * 7 + 3, none⟩ = some (.int .i64 rk.addr) ∧ w'.cell? ⟨g, off + k * 7 + 4, none⟩ = some (.slice ta rk.to.length tc) ∧ w'.cell? ⟨g, off + k * 7 + 5, none⟩ = some (.slice xa rk.text.length xc) ∧ w'.cell? ⟨g, off + k * 7 + 6, none⟩ = some (.slice ia rk.nums.length ic)))
            (first | exact ⟨cells2 (unhide KD), cells2 (unhide XD), range7 (unhide HC)⟩ | exact ⟨cells2 (block_kept b4 (unhide KD)), cells2 (block_kept b4 (unhide XD)), range7 (range_below (unhide HC) hbld b4)⟩)
            (first
            | (go_at_call 83; refine (unhide PL).mono ?_; rintro e w4 ⟨i4, rfl, hi4, b4⟩))
          have row4 := (RowS_later (unhide HROW) (below_next (below_drew (w := wr)) b4))
          have hb4 := below_next hbd b4
          have ROW4 := hide row4
          have HC4 := hide (range_below (unhide HC) hbld b4)
          have KD4 := hide (block_kept b4 (unhide KD))
          have XD4 := hide (block_kept b4 (unhide XD))
          clear row4 hbd b4 HROW HC KD XD PL
          cases hz : hasRec b rk with
          | true =>
            rw [hz] at hi4
            have hi5 : ¬ i4 < 0 := of_decide_eq_false hi4
            have HST2 := hide (show onlyK a b (k + 1) = onlyK a b k by rw [unhide HST, hz, if_pos rfl])
            clear hi4 HST
            go_wp2_with fail
            exact ⟨⟨k + 1, by omega, by go_num, by rw [unhide HST2]; exact unhide ROW4, hb4⟩, by simp [intOf]; omega⟩
          | false =>
            rw [hz] at hi4
            have hi5 : i4 < 0 := of_decide_eq_true hi4
            have HST2 := hide (show onlyK a b (k + 1) = onlyK a b k ++ [rk] by rw [unhide HST, hz, if_neg (by simp)])
            obtain ⟨xs0, hx0, hh0⟩ := unhide ROW4
            obtain ⟨c0, c1, c2, c3, c4, c5, c6⟩ := range7 (unhide HC4)
            obtain ⟨d0, d1⟩ := cells2 (unhide KD4)
            have b6 := below_alloc (w := w4) (.cells #[.slice na rk.name.length nc, .int .i64 rk.type, .int .i64 rk.ttl, .int .i64 rk.addr, .slice ta rk.to.length tc, .slice xa rk.text.length xc, .slice ia rk.nums.length ic] 101)
            have g6 := heap_alloc_new w4 (.cells #[.slice na rk.name.length nc, .int .i64 rk.type, .int .i64 rk.ttl, .int .i64 rk.addr, .slice ta rk.to.length tc, .slice xa rk.text.length xc, .slice ia rk.nums.length ic] 101)
            have hx6 := ownsRow_later hx0 b6
            have z6 := b6.size
            have z4 := hb4.size
            have hxl : xs0.length = (onlyK a b k).length * 7 := hx0.1
            clear hi4 HST
            go_wp2_with (at_builtin; refine append_rec rfl _ _ 30 101 rfl Tryz.underlying30 _ info_rrE rfl w2.heap.size _ (onlyK a b k).length xs0 rfl hx6 w4.heap.size [.slice na rk.name.length nc, .int .i64 rk.type, .int .i64 rk.ttl, .int .i64 rk.addr, .slice ta rk.to.length tc, .slice xa rk.text.length xc, .slice ia rk.nums.length ic] rfl g6 rfl (by simp [Value.oneCell']) (by omega) (by simp; omega) ?_)
            intro v7 w7 h7 g7
            have row7 := RowS.snoc hxl hh0 h7 (unhide HU)
            rw [← unhide HST2] at row7
            have bb7 := (below_next hb4 b6).grown g7 (below_next hb4 b6).size (fun j e => (World.ownsRow.lt hx6 j e).1)
            clear hx0 hx6 hh0 h7 g7 g6 b6 c0 c1 c2 c3 c4 c5 c6 d0 d1
            go_wp2
            exact ⟨⟨k + 1, by omega, by go_num, row7, bb7⟩, by simp [intOf]; omega⟩
        · obtain rfl : k = a.length := by omega
          have bb3 := below_next bb hbw
          have K3 := hide (block_kept hbw (unhide K0))
          have X3 := hide (block_kept hbw (unhide X0))
          obtain ⟨va, vc, hv1, _⟩ := (hrow.has bb3).form
          subst hv1
          have ROW1 := hide hrow
          clear hrow bb hbw K0 X0
          have K0 := K3
          have X0 := X3
          have bb := bb3
          clear K3 X3 bb3
          go_wp2_with fail
          clear e0 e1
          generalize wr = W3 at *
          go_loopw [8, 10] (fun v i wr => ∃ k : Nat, k ≤ b.length ∧ i = .int .i64 k ∧ RowS W3.heap.size 101 w wr v (onlyK b a k) ∧ Below W3.heap.size W3 wr) (fun _ i _ => b.length - (intOf i).toNat)
          case atStart => exact ⟨0, Nat.zero_le _, rfl, RowS.nil _ _ _ _, Below.refl _ _⟩
          case round =>
            obtain ⟨k, hk, rfl, hrow, hbw⟩ := hrel
            obtain ⟨e0, e1⟩ := cells2 (block_kept hbw (unhide X0))
            by_cases hlt : k < b.length
            · have hkm : (k : Int) < b.length := by omega
              have bwd := below_next bb (below_next hbw (below_drew (w := wr)))
              obtain ⟨g, off, na, nc, ta, tc, xa, xc, ia, ic, rfl, hbl, hc, hu⟩ := (unhide HB).recs.here (k := k) hlt
              have hok := unhide OKB k hlt
              have HST := hide (show onlyK b a (k + 1) = if hasRec a (b.getD k recZ) = true then onlyK b a k else onlyK b a k ++ [b.getD k recZ] from rfl)
              have hlen := onlyK_length b a k
              generalize b.getD k recZ = rk at *
              have PL := hide (l6place_has ((unhide HA).recs.below bwd) (hu.below bwd) (unhide OKA) hok l1)
              have HC := hide (range_below hc hbl bwd)
              have hbld : g < wr.drew.heap.size := Nat.lt_of_lt_of_le hbl bwd.size
              have KD := hide (block_kept (below_next hbw (below_drew (w := wr))) (unhide K0))
              have XD := hide (block_kept (below_next hbw (below_drew (w := wr))) (unhide X0))
              have HU := hide hu
              have HROW := hide hrow
              have hbd := below_next hbw (below_drew (w := wr))
              have hbs := bwd.size
              clear hc hu hrow hok bwd hbw
              go_wp2_with fail
              clear e0 e1
              go_region_held3 (fun w' => (w'.cell? ⟨w.heap.size, 0, none⟩ = some (.slice oa o.length oc) ∧ w'.cell? ⟨w.heap.size, 1, none⟩ = some (.slice ra a.length rc)) ∧ (w'.cell? ⟨w.heap.size + 1, 0, none⟩ = some (.slice pa p.length pc) ∧ w'.cell? ⟨w.heap.size + 1, 1, none⟩ = some (.slice (some ⟨g, off, none⟩) b.length sc)) ∧ (w'.cell? ⟨g, off + k * 7, none⟩ = some (.slice na rk.name.length nc) ∧ w'.cell? ⟨g, off + k * 7 + 1, none⟩ = some (.int .i64 rk.type) ∧ w'.cell? ⟨g, off + k * 7 + 2, none⟩ = some (.int .i64 rk.ttl) ∧ w'.cell? ⟨g, off + k * 7 + 3, none⟩ = some (.int .i64 rk.addr) ∧ w'.cell? ⟨g, off + k * 7 + 4, none⟩ = some (.slice ta rk.to.length tc) ∧ w'.cell? ⟨g, off + k * 7 + 5, none⟩ = some (.slice xa rk.text.length xc) ∧ w'.cell? ⟨g, off + k * 7 + 6, none⟩ = some (.slice ia rk.nums.length ic)))
                (first | exact ⟨cells2 (unhide KD), cells2 (unhide XD), range7 (unhide HC)⟩ | exact ⟨cells2 (block_kept b4 (unhide KD)), cells2 (block_kept b4 (unhide XD)), range7 (range_below (unhide HC) hbld b4)⟩)
                (first
                | (go_at_call 83; refine (unhide PL).mono ?_; rintro e w4 ⟨i4, rfl, hi4, b4⟩))
              have row4 := (RowS_later (unhide HROW) (below_next (below_drew (w := wr)) b4))
              have hb4 := below_next hbd b4
              have ROW4 := hide row4
              have HC4 := hide (range_below (unhide HC) hbld b4)
              have KD4 := hide (block_kept b4 (unhide KD))
              have XD4 := hide (block_kept b4 (unhide XD))
              clear row4 hbd b4 HROW HC KD XD PL
              cases hz : hasRec a rk with
              | true =>
                rw [hz] at hi4
                have hi5 : ¬ i4 < 0 := of_decide_eq_false hi4
                have HST2 := hide (show onlyK b a (k + 1) = onlyK b a k by rw [unhide HST, hz, if_pos rfl])
                clear hi4 HST
                go_wp2_with fail
                exact ⟨⟨k + 1, by omega, by go_num, by rw [unhide HST2]; exact unhide ROW4, hb4⟩, by simp [intOf]; omega⟩
              | false =>
                rw [hz] at hi4
                have hi5 : i4 < 0 := of_decide_eq_true hi4
                have HST2 := hide (show onlyK b a (k + 1) = onlyK b a k ++ [rk] by rw [unhide HST, hz, if_neg (by simp)])
                obtain ⟨xs0, hx0, hh0⟩ := unhide ROW4
                obtain ⟨c0, c1, c2, c3, c4, c5, c6⟩ := range7 (unhide HC4)
                obtain ⟨d0, d1⟩ := cells2 (unhide XD4)
                have b6 := below_alloc (w := w4) (.cells #[.slice na rk.name.length nc, .int .i64 rk.type, .int .i64 rk.ttl, .int .i64 rk.addr, .slice ta rk.to.length tc, .slice xa rk.text.length xc, .slice ia rk.nums.length ic] 101)
                have g6 := heap_alloc_new w4 (.cells #[.slice na rk.name.length nc, .int .i64 rk.type, .int .i64 rk.ttl, .int .i64 rk.addr, .slice ta rk.to.length tc, .slice xa rk.text.length xc, .slice ia rk.nums.length ic] 101)
                have hx6 := ownsRow_later hx0 b6
                have z6 := b6.size
                have z4 := hb4.size
                have hxl : xs0.length = (onlyK b a k).length * 7 := hx0.1
                clear hi4 HST
                go_wp2_with (at_builtin; refine append_rec rfl _ _ 30 101 rfl Tryz.underlying30 _ info_rrE rfl W3.heap.size _ (onlyK b a k).length xs0 rfl hx6 w4.heap.size [.slice na rk.name.length nc, .int .i64 rk.type, .int .i64 rk.ttl, .int .i64 rk.addr, .slice ta rk.to.length tc, .slice xa rk.text.length xc, .slice ia rk.nums.length ic] rfl g6 rfl (by simp [Value.oneCell']) (by omega) (by simp; omega) ?_)
                intro v7 w7 h7 g7
                have row7 := RowS.snoc hxl hh0 h7 (unhide HU)
                rw [← unhide HST2] at row7
                have bb7 := (below_next hb4 b6).grown g7 (below_next hb4 b6).size (fun j e => (World.ownsRow.lt hx6 j e).1)
                clear hx0 hx6 hh0 h7 g7 g6 b6 c0 c1 c2 c3 c4 c5 c6 d0 d1
                go_wp2
                exact ⟨⟨k + 1, by omega, by go_num, row7, bb7⟩, by simp [intOf]; omega⟩
            · obtain rfl : k = b.length := by omega
              have hb5 := below_next bb hbw
              have H1 := hide (l3ownAll_has ((RowS_later (unhide ROW1) hbw).has hb5) (onlyOf_short (b := b) (unhide HOA)).1 (Nat.le_trans (onlyOf_short (b := b) (unhide HOA)).2 (by decide)))
              have H2 := hide (fun (w5 : World) (h5 : Below w.heap.size w w5) (hr : RowS W3.heap.size 101 w w5 u8 (onlyK b a b.length)) => l3ownAll_has (hr.has h5) (onlyOf_short (b := a) (unhide HOB)).1 (Nat.le_trans (onlyOf_short (b := a) (unhide HOB)).2 (by decide)))
              have HROW := hide hrow
              clear hrow hbw bb
              go_wp2_with fail
              clear e0 e1
              refine (unhide H1).mono ?_
              rintro e w5 ⟨u1, rfl, o1, b5⟩
              have hb6 := below_next hb5 b5
              have H3 := hide (unhide H2 _ hb6 (RowS_later (unhide HROW) b5))
              have O1 := hide o1
              clear H1 H2 o1
              go_wp2_with fail
              refine (unhide H3).mono ?_
              rintro e w6 ⟨u2, rfl, o2, b6⟩
              have r1 := ((unhide O1).below b6).has
              have r2 := o2.has
              clear H3 O1
              go_wp2_with fail
              refine bodyPost_ret (results_tmp3 rfl _ _ _) rfl ?_
              exact ⟨_, _, rfl, r1, r2, below_next hb6 b6⟩
end Go.Proofs.YtdghbcjlahjjdaaGreat

namespace Go.Proofs.YtdghbcjlahjjdaaGreat
open Go.RowKit
set_option linter.unusedVariables false

set_option maxHeartbeats 4000000 in
set_option maxRecDepth 100000 in
theorem lawZoneDiff (ao0 : Option Addr) (co0 : Nat) (ar0 : Option Addr) (cr0 : Nat) (n0 : List (List Int)) (q0 : List Rec) (ao1 : Option Addr) (co1 : Nat) (ar1 : Option Addr) (cr1 : Nat) (n1 : List (List Int)) (q1 : List Rec) (w : World) (h0 : InZ w ao0 ar0 n0 q0) (hm0 : SizeZ maxLen n0 q0) (h1 : InZ w ao1 ar1 n1 q1) (hm1 : SizeZ maxLen n1 q1) :
    Calls Tryz.prog 8 #[.agg #[.slice ao0 n0.length co0, .slice ar0 q0.length cr0], .agg #[.slice ao1 n1.length co1, .slice ar1 q1.length cr1]] w fun e w' => e = .returned (.bool true) ∧ Below w.heap.size w w' := by
  have bb := below_alloc (w := w) (.cells #[.slice ao0 n0.length co0, .slice ar0 q0.length cr0] 49)
  have K0 := heap_alloc_new w (.cells #[.slice ao0 n0.length co0, .slice ar0 q0.length cr0] 49)
  have e1 : (w.alloc (.cells #[.slice ao0 n0.length co0, .slice ar0 q0.length cr0] 49)).heap.size = w.heap.size + 1 := by show (w.heap.push _).size = _; simp
  have b2 := below_alloc (w := w.alloc (.cells #[.slice ao0 n0.length co0, .slice ar0 q0.length cr0] 49)) (.cells #[.slice ao1 n1.length co1, .slice ar1 q1.length cr1] 49)
  have K1 := heap_alloc_new (w.alloc (.cells #[.slice ao0 n0.length co0, .slice ar0 q0.length cr0] 49)) (.cells #[.slice ao1 n1.length co1, .slice ar1 q1.length cr1] 49)
  replace K0 := block_kept b2 K0
  rw [e1] at K1
  replace bb := below_next bb b2
  clear b2 e1
  replace K0 := hide K0
  replace K1 := hide K1
  have L0 := hide h0
  have HM0 := hide hm0
  clear h0 hm0
  have L1 := hide h1
  have HM1 := hide hm1
  clear h1 hm1
  go_enter Tryz.func8, Tryz.ntmps8
  go_wp2_with fail
  generalize (w.alloc (.cells #[.slice ao0 n0.length co0, .slice ar0 q0.length cr0] 49)).alloc (.cells #[.slice ao1 n1.length co1, .slice ar1 q1.length cr1] 49) = W at *
  have zk0 := block_lt (unhide K0)
  have zk1 := block_lt (unhide K1)
  refine (szZone_any ao0 co0 ar0 cr0 n0 q0 1048576 _ ((unhide L0).below bb) (unhide HM0) (by omega) (by omega)).mono ?_
  rintro e w1 ⟨⟨y0, rfl, hr00, hr10, hr20⟩, b1⟩
  replace bb := below_next bb b1
  replace K0 := hide (block_kept b1 (unhide K0))
  replace K1 := hide (block_kept b1 (unhide K1))
  have z1 := b1.size
  clear b1
  by_cases hneg0 : y0 < 0
  · clear hr20
    go_wp2_with fail
    go_ret
    exact ⟨rfl, bb⟩
  have HS0 := hide ((hr20 (by omega)).mono (m' := 1048576) (by omega))
  have HSS0 := hide ((unhide HS0).mono (m' := 2097152) (by omega))
  clear hr20 HM0
  obtain ⟨c_K00, c_K01⟩ := cells2 (unhide K0)
  obtain ⟨c_K10, c_K11⟩ := cells2 (unhide K1)
  go_wp2_with fail
  clear c_K00 c_K01
  clear c_K10 c_K11
  refine (szZone_any ao1 co1 ar1 cr1 n1 q1 y0 _ ((unhide L1).below bb) (unhide HM1) (by omega) (by omega)).mono ?_
  rintro e w2 ⟨⟨y1, rfl, hr01, hr11, hr21⟩, b2⟩
  replace bb := below_next bb b2
  replace K0 := hide (block_kept b2 (unhide K0))
  replace K1 := hide (block_kept b2 (unhide K1))
  have z2 := b2.size
  clear b2
  by_cases hneg1 : y1 < 0
  · clear hr21
    go_wp2_with fail
    go_ret
    exact ⟨rfl, bb⟩
  have HS1 := hide ((hr21 (by omega)).mono (m' := 1048576) (by omega))
  have HSS1 := hide ((unhide HS1).mono (m' := 2097152) (by omega))
  clear hr21 HM1
  have hP0 := posZ_bound (unhide HS0) 1
  have MK0 := fun (B E : Nat) (v u : Value) (w : World) (hE : E ≤ w.heap.size) (h : OwnZ B E w v u n0 q0) => markZone_z (unhide HS0) 1 (by omega) (by omega) hE h
  generalize posRs q0 (pos n0 1 n0.length) q0.length = P0 at *
  replace MK0 := hide MK0
  have hPn0 : ¬ P0 < 0 := by omega
  have hP1 := posZ_bound (unhide HS1) P0
  have MK1 := fun (B E : Nat) (v u : Value) (w : World) (hE : E ≤ w.heap.size) (h : OwnZ B E w v u n1 q1) => markZone_z (unhide HS1) P0 (by omega) (by omega) hE h
  generalize posRs q1 (pos n1 P0 n1.length) q1.length = P1 at *
  replace MK1 := hide MK1
  have hPn1 : ¬ P1 < 0 := by omega
  have hS0g := (diffOf_size n0 q0 n1 q1).1
  have hS1g := (diffOf_size n0 q0 n1 q1).2
  have SP := fun (w : World) (xo0 xr0 : Value) (h0 : HasZ w xo0 xr0 n0 q0) (xo1 xr1 : Value) (h1 : HasZ w xo1 xr1 n1 q1) => specZoneDiff_has h0 h1 (fun k hk => ((unhide HS0).recs k hk).name) (fun k hk => ((unhide HS1).recs k hk).name)
  have IM := fun (w : World) (xo0 xr0 : Value) (h0 : HasZ w xo0 xr0 n0 q0) (xo1 xr1 : Value) (h1 : HasZ w xo1 xr1 n1 q1) => implZoneDiff_own h0 h1
  generalize (diffOf n0 q0 n1 q1).1 = G0 at *
  generalize (diffOf n0 q0 n1 q1).2.1 = G1 at *
  generalize (diffOf n0 q0 n1 q1).2.2 = G2 at *
  have HC0g := hS0g.1
  have HS0g := hide (fun i (hi : i < G0.length) => (hS0g.2 i hi).mono (m' := 1048576) (by omega))
  have HSS0g := hide (fun i (hi : i < G0.length) => (hS0g.2 i hi).mono (m' := 2097152) (by omega))
  clear hS0g
  have hPG0 := posRs_bound' (unhide HS0g) (by omega) 1
  have MKG0 := fun (B E : Nat) (v : Value) (w : World) (h3 : E ≤ w.heap.size) (h : RowO B E 101 37 5 3 w v G0) => markRrS_own (unhide HS0g) (by omega) 1 (by omega) (by omega) h3 h
  have HDG0 := fun (v : Value) (w : World) (h : HasRs w v (markRs G0 1 G0.length)) => heldRrS_has (unhide HS0g) (by omega) 1 (by omega) (by omega) h
  generalize posRs G0 1 G0.length = PG0 at *
  generalize markRs G0 1 G0.length = MR0 at *
  replace MKG0 := hide MKG0
  replace HDG0 := hide HDG0
  have hPGn0 : ¬ PG0 < 0 := by omega
  have HC1g := hS1g.1
  have HS1g := hide (fun i (hi : i < G1.length) => (hS1g.2 i hi).mono (m' := 1048576) (by omega))
  have HSS1g := hide (fun i (hi : i < G1.length) => (hS1g.2 i hi).mono (m' := 2097152) (by omega))
  clear hS1g
  have hPG1 := posRs_bound' (unhide HS1g) (by omega) PG0
  have MKG1 := fun (B E : Nat) (v : Value) (w : World) (h3 : E ≤ w.heap.size) (h : RowO B E 101 37 5 3 w v G1) => markRrS_own (unhide HS1g) (by omega) PG0 (by omega) (by omega) h3 h
  have HDG1 := fun (v : Value) (w : World) (h : HasRs w v (markRs G1 PG0 G1.length)) => heldRrS_has (unhide HS1g) (by omega) PG0 (by omega) (by omega) h
  generalize posRs G1 PG0 G1.length = PG1 at *
  generalize markRs G1 PG0 G1.length = MR1 at *
  replace MKG1 := hide MKG1
  replace HDG1 := hide HDG1
  have hPGn1 : ¬ PG1 < 0 := by omega
  replace SP := hide SP
  replace IM := hide IM
  have hgg2 : (G2 != G2) = false := by simp
  have bd := below_drew (w := w2)
  have zdw2 : w2.drew.heap.size = w2.heap.size := rfl
  replace bb := below_next bb bd
  replace K0 := hide (block_kept bd (unhide K0))
  replace K1 := hide (block_kept bd (unhide K1))
  clear bd
  obtain ⟨c_K00, c_K01⟩ := cells2 (unhide K0)
  obtain ⟨c_K10, c_K11⟩ := cells2 (unhide K1)
  go_wp2_with fail
  clear c_K00 c_K01
  clear c_K10 c_K11
  go_region_held3 (fun w' => (w'.cell? ⟨w.heap.size, 0, none⟩ = some (.slice ao0 n0.length co0) ∧ w'.cell? ⟨w.heap.size, 1, none⟩ = some (.slice ar0 q0.length cr0)) ∧ (w'.cell? ⟨w.heap.size + 1, 0, none⟩ = some (.slice ao1 n1.length co1) ∧ w'.cell? ⟨w.heap.size + 1, 1, none⟩ = some (.slice ar1 q1.length cr1)))
    (first | exact ⟨cells2 (unhide K0), cells2 (unhide K1)⟩ | exact ⟨cells2 (block_kept q3 (unhide K0)), cells2 (block_kept q3 (unhide K1))⟩ | exact ⟨cells2 (block_kept q4 (unhide K0)), cells2 (block_kept q4 (unhide K1))⟩ | exact ⟨cells2 (block_kept q5 (unhide K0)), cells2 (block_kept q5 (unhide K1))⟩)
    (first
    | (go_at_call_of 26 (Value.slice ao0 n0.length co0); refine (toZone_own ao0 co0 ar0 cr0 n0 q0 _ ((unhide L0).below bb) (unhide HS0)).mono ?_; rintro e w3 ⟨x3, y3, rfl, o3, b3⟩; obtain ⟨xo3, xoc3, rfl, _⟩ := o3.hasZ.name.form; obtain ⟨xr3, xrc3, rfl, _⟩ := o3.hasZ.recs.form; have q3 := b3)
    | (go_at_call_of 26 (Value.slice ao1 n1.length co1); refine (toZone_own ao1 co1 ar1 cr1 n1 q1 _ ((unhide L1).below (below_next bb q3)) (unhide HS1)).mono ?_; rintro e w4 ⟨x4, y4, rfl, o4, b4⟩; obtain ⟨xo4, xoc4, rfl, _⟩ := o4.hasZ.name.form; obtain ⟨xr4, xrc4, rfl, _⟩ := o4.hasZ.recs.form; have q4 := below_next q3 b4)
    | (go_at_call 39; refine (unhide SP _ _ _ (o3.below b4).hasZ _ _ o4.hasZ).mono ?_; rintro e w5 ⟨y5_0, y5_1, rfl, o5_0, o5_1, b5⟩; have q5 := below_next q4 b5))
  clear b3 o3 q3 b4 o4 q4 b5
  replace bb := below_next bb q5
  replace K0 := hide (block_kept q5 (unhide K0))
  replace K1 := hide (block_kept q5 (unhide K1))
  have z5 := q5.size
  clear q5
  have BW := hide (Below.refl w5.heap.size w5)
  obtain ⟨ya5_0, yc5_0, rfl, _⟩ := o5_0.form
  have Wr0 := hide o5_0
  clear o5_0
  obtain ⟨ya5_1, yc5_1, rfl, _⟩ := o5_1.form
  have Wr1 := hide o5_1
  clear o5_1
  obtain ⟨c_K00, c_K01⟩ := cells2 (unhide K0)
  obtain ⟨c_K10, c_K11⟩ := cells2 (unhide K1)
  go_wp2_with fail
  clear c_K00 c_K01
  clear c_K10 c_K11
  refine (toZone_own ao0 co0 ar0 cr0 n0 q0 _ ((unhide L0).below bb) (unhide HS0)).mono ?_
  rintro e w6 ⟨x6, y6, rfl, o6, b6⟩
  obtain ⟨xo6, xoc6, rfl, _⟩ := o6.hasZ.name.form
  obtain ⟨xr6, xrc6, rfl, _⟩ := o6.hasZ.recs.form
  have X0 := hide o6
  clear o6
  replace bb := below_next bb b6
  replace K0 := hide (block_kept b6 (unhide K0))
  replace K1 := hide (block_kept b6 (unhide K1))
  replace BW := hide ((unhide BW).trans (b6.mono (unhide BW).size))
  have z6 := b6.size
  clear b6
  have b7 := below_alloc (w := w6) (.cells #[.slice xo6 n0.length xoc6, .slice xr6 q0.length xrc6] 55)
  have VX0 := hide (heap_alloc_new w6 (.cells #[.slice xo6 n0.length xoc6, .slice xr6 q0.length xrc6] 55))
  obtain ⟨c_K00, c_K01⟩ := cells2 (block_kept b7 (unhide K0))
  obtain ⟨c_K10, c_K11⟩ := cells2 (block_kept b7 (unhide K1))
  go_wp2_with fail
  clear c_K00 c_K01
  clear c_K10 c_K11
  generalize w6.alloc (.cells #[.slice xo6 n0.length xoc6, .slice xr6 q0.length xrc6] 55) = w7 at *
  replace bb := below_next bb b7
  replace K0 := hide (block_kept b7 (unhide K0))
  replace K1 := hide (block_kept b7 (unhide K1))
  replace BW := hide ((unhide BW).trans (b7.mono (unhide BW).size))
  replace X0 := hide ((unhide X0).below b7)
  have z7 := b7.size
  clear b7
  have zz7 := block_lt (unhide VX0)
  obtain ⟨c_K00, c_K01⟩ := cells2 (unhide K0)
  obtain ⟨c_K10, c_K11⟩ := cells2 (unhide K1)
  obtain ⟨c_VX00, c_VX01⟩ := cells2 (unhide VX0)
  go_wp2_with fail
  clear c_K00 c_K01
  clear c_K10 c_K11
  clear c_VX00 c_VX01
  refine (toZone_own ao1 co1 ar1 cr1 n1 q1 _ ((unhide L1).below bb) (unhide HS1)).mono ?_
  rintro e w8 ⟨x8, y8, rfl, o8, b8⟩
  obtain ⟨xo8, xoc8, rfl, _⟩ := o8.hasZ.name.form
  obtain ⟨xr8, xrc8, rfl, _⟩ := o8.hasZ.recs.form
  have X1 := hide o8
  clear o8
  replace bb := below_next bb b8
  replace K0 := hide (block_kept b8 (unhide K0))
  replace K1 := hide (block_kept b8 (unhide K1))
  replace BW := hide ((unhide BW).trans (b8.mono (unhide BW).size))
  replace X0 := hide ((unhide X0).below b8)
  replace VX0 := hide (block_kept b8 (unhide VX0))
  have z8 := b8.size
  clear b8
  have b9 := below_alloc (w := w8) (.cells #[.slice xo8 n1.length xoc8, .slice xr8 q1.length xrc8] 55)
  have VX1 := hide (heap_alloc_new w8 (.cells #[.slice xo8 n1.length xoc8, .slice xr8 q1.length xrc8] 55))
  obtain ⟨c_K00, c_K01⟩ := cells2 (block_kept b9 (unhide K0))
  obtain ⟨c_K10, c_K11⟩ := cells2 (block_kept b9 (unhide K1))
  obtain ⟨c_VX00, c_VX01⟩ := cells2 (block_kept b9 (unhide VX0))
  go_wp2_with fail
  clear c_K00 c_K01
  clear c_K10 c_K11
  clear c_VX00 c_VX01
  generalize w8.alloc (.cells #[.slice xo8 n1.length xoc8, .slice xr8 q1.length xrc8] 55) = w9 at *
  replace bb := below_next bb b9
  replace K0 := hide (block_kept b9 (unhide K0))
  replace K1 := hide (block_kept b9 (unhide K1))
  replace BW := hide ((unhide BW).trans (b9.mono (unhide BW).size))
  replace X0 := hide ((unhide X0).below b9)
  replace VX0 := hide (block_kept b9 (unhide VX0))
  replace X1 := hide ((unhide X1).below b9)
  have z9 := b9.size
  clear b9
  have zz9 := block_lt (unhide VX1)
  obtain ⟨c_K00, c_K01⟩ := cells2 (unhide K0)
  obtain ⟨c_K10, c_K11⟩ := cells2 (unhide K1)
  obtain ⟨c_VX00, c_VX01⟩ := cells2 (unhide VX0)
  obtain ⟨c_VX10, c_VX11⟩ := cells2 (unhide VX1)
  go_wp2_with fail
  clear c_K00 c_K01
  clear c_K10 c_K11
  clear c_VX00 c_VX01
  clear c_VX10 c_VX11
  refine (unhide IM _ _ _ (unhide X0).hasZ _ _ (unhide X1).hasZ).mono ?_
  rintro e w10 ⟨y10_0, y10_1, rfl, ⟨s10, s110, s210, o10_0, o10_1⟩, b10⟩
  replace bb := below_next bb b10
  replace K0 := hide (block_kept b10 (unhide K0))
  replace K1 := hide (block_kept b10 (unhide K1))
  replace BW := hide ((unhide BW).trans (b10.mono (unhide BW).size))
  replace X0 := hide ((unhide X0).below b10)
  replace VX0 := hide (block_kept b10 (unhide VX0))
  replace X1 := hide ((unhide X1).below b10)
  replace VX1 := hide (block_kept b10 (unhide VX1))
  have z10 := b10.size
  clear b10
  obtain ⟨ya10_0, yc10_0, rfl, _⟩ := o10_0.form
  have Gr0 := hide o10_0
  clear o10_0
  obtain ⟨ya10_1, yc10_1, rfl, _⟩ := o10_1.form
  have Gr1 := hide o10_1
  clear o10_1
  obtain ⟨c_K00, c_K01⟩ := cells2 (unhide K0)
  obtain ⟨c_K10, c_K11⟩ := cells2 (unhide K1)
  obtain ⟨c_VX00, c_VX01⟩ := cells2 (unhide VX0)
  obtain ⟨c_VX10, c_VX11⟩ := cells2 (unhide VX1)
  go_wp2_with fail
  clear c_K00 c_K01
  clear c_K10 c_K11
  clear c_VX00 c_VX01
  clear c_VX10 c_VX11
  refine (eqRrS_has (unhide Gr0).has ((unhide Wr0).below (unhide BW)) (unhide HSS0g)).mono ?_
  rintro e w11 ⟨rfl, b11⟩
  replace bb := below_next bb b11
  replace K0 := hide (block_kept b11 (unhide K0))
  replace K1 := hide (block_kept b11 (unhide K1))
  replace BW := hide ((unhide BW).trans (b11.mono (unhide BW).size))
  replace X0 := hide ((unhide X0).below b11)
  replace VX0 := hide (block_kept b11 (unhide VX0))
  replace X1 := hide ((unhide X1).below b11)
  replace VX1 := hide (block_kept b11 (unhide VX1))
  replace Gr0 := hide ((unhide Gr0).below b11)
  replace Gr1 := hide ((unhide Gr1).below b11)
  have z11 := b11.size
  clear b11
  obtain ⟨c_K00, c_K01⟩ := cells2 (unhide K0)
  obtain ⟨c_K10, c_K11⟩ := cells2 (unhide K1)
  obtain ⟨c_VX00, c_VX01⟩ := cells2 (unhide VX0)
  obtain ⟨c_VX10, c_VX11⟩ := cells2 (unhide VX1)
  go_wp2_with fail
  clear c_K00 c_K01
  clear c_K10 c_K11
  clear c_VX00 c_VX01
  clear c_VX10 c_VX11
  refine (eqRrS_has (unhide Gr1).has ((unhide Wr1).below (unhide BW)) (unhide HSS1g)).mono ?_
  rintro e w12 ⟨rfl, b12⟩
  replace bb := below_next bb b12
  replace K0 := hide (block_kept b12 (unhide K0))
  replace K1 := hide (block_kept b12 (unhide K1))
  replace BW := hide ((unhide BW).trans (b12.mono (unhide BW).size))
  replace X0 := hide ((unhide X0).below b12)
  replace VX0 := hide (block_kept b12 (unhide VX0))
  replace X1 := hide ((unhide X1).below b12)
  replace VX1 := hide (block_kept b12 (unhide VX1))
  replace Gr0 := hide ((unhide Gr0).below b12)
  replace Gr1 := hide ((unhide Gr1).below b12)
  have z12 := b12.size
  clear b12
  have bd := below_drew (w := w12)
  have zdw12 : w12.drew.heap.size = w12.heap.size := rfl
  replace bb := below_next bb bd
  replace K0 := hide (block_kept bd (unhide K0))
  replace K1 := hide (block_kept bd (unhide K1))
  replace BW := hide ((unhide BW).trans (bd.mono (unhide BW).size))
  replace X0 := hide ((unhide X0).below bd)
  replace VX0 := hide (block_kept bd (unhide VX0))
  replace X1 := hide ((unhide X1).below bd)
  replace VX1 := hide (block_kept bd (unhide VX1))
  replace Gr0 := hide ((unhide Gr0).below bd)
  replace Gr1 := hide ((unhide Gr1).below bd)
  clear bd
  obtain ⟨c_K00, c_K01⟩ := cells2 (unhide K0)
  obtain ⟨c_K10, c_K11⟩ := cells2 (unhide K1)
  obtain ⟨c_VX00, c_VX01⟩ := cells2 (unhide VX0)
  obtain ⟨c_VX10, c_VX11⟩ := cells2 (unhide VX1)
  go_wp2_with fail
  clear c_K00 c_K01
  clear c_K10 c_K11
  clear c_VX00 c_VX01
  clear c_VX10 c_VX11
  go_region_held3 (fun w' => (w'.cell? ⟨w.heap.size, 0, none⟩ = some (.slice ao0 n0.length co0) ∧ w'.cell? ⟨w.heap.size, 1, none⟩ = some (.slice ar0 q0.length cr0)) ∧ (w'.cell? ⟨w6.heap.size, 0, none⟩ = some (.slice xo6 n0.length xoc6) ∧ w'.cell? ⟨w6.heap.size, 1, none⟩ = some (.slice xr6 q0.length xrc6)))
    (first | exact ⟨cells2 (unhide K0), cells2 (unhide VX0)⟩ | exact ⟨cells2 (block_kept b13 (unhide K0)), cells2 (block_kept b13 (unhide VX0))⟩ | exact ⟨cells2 (block_kept q14 (unhide K0)), cells2 (block_kept q14 (unhide VX0))⟩)
    (first
    | (go_at_call 26; refine (toZone_own ao0 co0 ar0 cr0 n0 q0 _ ((unhide L0).below bb) (unhide HS0)).mono ?_; rintro e w13 ⟨x13, y13, rfl, o13, b13⟩; obtain ⟨xo13, xoc13, rfl, _⟩ := o13.hasZ.name.form; obtain ⟨xr13, xrc13, rfl, _⟩ := o13.hasZ.recs.form)
    | (go_at_call 30; refine (eqZone_has ((unhide X0).below b13).hasZ o13.hasZ (unhide HSS0)).mono ?_; rintro e w14 ⟨rfl, b14⟩; have q14 := below_next b13 b14))
  clear b13 b14 o13
  replace bb := below_next bb q14
  replace K0 := hide (block_kept q14 (unhide K0))
  replace K1 := hide (block_kept q14 (unhide K1))
  replace BW := hide ((unhide BW).trans (q14.mono (unhide BW).size))
  replace X0 := hide ((unhide X0).below q14)
  replace VX0 := hide (block_kept q14 (unhide VX0))
  replace X1 := hide ((unhide X1).below q14)
  replace VX1 := hide (block_kept q14 (unhide VX1))
  replace Gr0 := hide ((unhide Gr0).below q14)
  replace Gr1 := hide ((unhide Gr1).below q14)
  have z14 := q14.size
  clear q14
  have bd := below_drew (w := w14)
  have zdw14 : w14.drew.heap.size = w14.heap.size := rfl
  replace bb := below_next bb bd
  replace K0 := hide (block_kept bd (unhide K0))
  replace K1 := hide (block_kept bd (unhide K1))
  replace BW := hide ((unhide BW).trans (bd.mono (unhide BW).size))
  replace X0 := hide ((unhide X0).below bd)
  replace VX0 := hide (block_kept bd (unhide VX0))
  replace X1 := hide ((unhide X1).below bd)
  replace VX1 := hide (block_kept bd (unhide VX1))
  replace Gr0 := hide ((unhide Gr0).below bd)
  replace Gr1 := hide ((unhide Gr1).below bd)
  clear bd
  obtain ⟨c_K00, c_K01⟩ := cells2 (unhide K0)
  obtain ⟨c_K10, c_K11⟩ := cells2 (unhide K1)
  obtain ⟨c_VX00, c_VX01⟩ := cells2 (unhide VX0)
  obtain ⟨c_VX10, c_VX11⟩ := cells2 (unhide VX1)
  go_wp2_with fail
  clear c_K00 c_K01
  clear c_K10 c_K11
  clear c_VX00 c_VX01
  clear c_VX10 c_VX11
  go_region_held3 (fun w' => (w'.cell? ⟨w.heap.size + 1, 0, none⟩ = some (.slice ao1 n1.length co1) ∧ w'.cell? ⟨w.heap.size + 1, 1, none⟩ = some (.slice ar1 q1.length cr1)) ∧ (w'.cell? ⟨w8.heap.size, 0, none⟩ = some (.slice xo8 n1.length xoc8) ∧ w'.cell? ⟨w8.heap.size, 1, none⟩ = some (.slice xr8 q1.length xrc8)))
    (first | exact ⟨cells2 (unhide K1), cells2 (unhide VX1)⟩ | exact ⟨cells2 (block_kept b15 (unhide K1)), cells2 (block_kept b15 (unhide VX1))⟩ | exact ⟨cells2 (block_kept q16 (unhide K1)), cells2 (block_kept q16 (unhide VX1))⟩)
    (first
    | (go_at_call 26; refine (toZone_own ao1 co1 ar1 cr1 n1 q1 _ ((unhide L1).below bb) (unhide HS1)).mono ?_; rintro e w15 ⟨x15, y15, rfl, o15, b15⟩; obtain ⟨xo15, xoc15, rfl, _⟩ := o15.hasZ.name.form; obtain ⟨xr15, xrc15, rfl, _⟩ := o15.hasZ.recs.form)
    | (go_at_call 30; refine (eqZone_has ((unhide X1).below b15).hasZ o15.hasZ (unhide HSS1)).mono ?_; rintro e w16 ⟨rfl, b16⟩; have q16 := below_next b15 b16))
  clear b15 b16 o15
  replace bb := below_next bb q16
  replace K0 := hide (block_kept q16 (unhide K0))
  replace K1 := hide (block_kept q16 (unhide K1))
  replace BW := hide ((unhide BW).trans (q16.mono (unhide BW).size))
  replace X0 := hide ((unhide X0).below q16)
  replace VX0 := hide (block_kept q16 (unhide VX0))
  replace X1 := hide ((unhide X1).below q16)
  replace VX1 := hide (block_kept q16 (unhide VX1))
  replace Gr0 := hide ((unhide Gr0).below q16)
  replace Gr1 := hide ((unhide Gr1).below q16)
  have z16 := q16.size
  clear q16
  obtain ⟨c_K00, c_K01⟩ := cells2 (unhide K0)
  obtain ⟨c_K10, c_K11⟩ := cells2 (unhide K1)
  obtain ⟨c_VX00, c_VX01⟩ := cells2 (unhide VX0)
  obtain ⟨c_VX10, c_VX11⟩ := cells2 (unhide VX1)
  go_wp2_with fail
  clear c_K00 c_K01
  clear c_K10 c_K11
  clear c_VX00 c_VX01
  clear c_VX10 c_VX11
  refine (unhide MK0 _ _ _ _ _ (by omega) (unhide X0)).mono ?_
  rintro e w17 ⟨rfl, u17⟩
  clear X0
  replace bb := u17.below bb (by omega)
  replace K0 := hide (u17.kept (unhide K0) (by omega))
  replace K1 := hide (u17.kept (unhide K1) (by omega))
  replace BW := hide (u17.belowAt (unhide BW) (Nat.le_refl _) (by omega))
  replace VX0 := hide (u17.kept (unhide VX0) (by omega))
  replace X1 := hide ((unhide X1).outside u17 (by omega))
  replace VX1 := hide (u17.kept (unhide VX1) (by omega))
  replace Gr0 := hide ((unhide Gr0).outside u17 (by omega))
  replace Gr1 := hide ((unhide Gr1).outside u17 (by omega))
  have z17 := u17.size
  clear u17
  obtain ⟨c_K00, c_K01⟩ := cells2 (unhide K0)
  obtain ⟨c_K10, c_K11⟩ := cells2 (unhide K1)
  obtain ⟨c_VX00, c_VX01⟩ := cells2 (unhide VX0)
  obtain ⟨c_VX10, c_VX11⟩ := cells2 (unhide VX1)
  go_wp2_with fail
  clear c_K00 c_K01
  clear c_K10 c_K11
  clear c_VX00 c_VX01
  clear c_VX10 c_VX11
  refine (unhide MK1 _ _ _ _ _ (by omega) (unhide X1)).mono ?_
  rintro e w18 ⟨rfl, u18⟩
  clear X1
  replace bb := u18.below bb (by omega)
  replace K0 := hide (u18.kept (unhide K0) (by omega))
  replace K1 := hide (u18.kept (unhide K1) (by omega))
  replace BW := hide (u18.belowAt (unhide BW) (Nat.le_refl _) (by omega))
  replace VX0 := hide (u18.kept (unhide VX0) (by omega))
  replace VX1 := hide (u18.kept (unhide VX1) (by omega))
  replace Gr0 := hide ((unhide Gr0).outside u18 (by omega))
  replace Gr1 := hide ((unhide Gr1).outside u18 (by omega))
  have z18 := u18.size
  clear u18
  obtain ⟨c_K00, c_K01⟩ := cells2 (unhide K0)
  obtain ⟨c_K10, c_K11⟩ := cells2 (unhide K1)
  obtain ⟨c_VX00, c_VX01⟩ := cells2 (unhide VX0)
  obtain ⟨c_VX10, c_VX11⟩ := cells2 (unhide VX1)
  go_wp2_with fail
  clear c_K00 c_K01
  clear c_K10 c_K11
  clear c_VX00 c_VX01
  clear c_VX10 c_VX11
  refine (eqRrS_has (unhide Gr0).has ((unhide Wr0).below (unhide BW)) (unhide HSS0g)).mono ?_
  rintro e w19 ⟨rfl, b19⟩
  replace bb := below_next bb b19
  replace K0 := hide (block_kept b19 (unhide K0))
  replace K1 := hide (block_kept b19 (unhide K1))
  replace BW := hide ((unhide BW).trans (b19.mono (unhide BW).size))
  replace VX0 := hide (block_kept b19 (unhide VX0))
  replace VX1 := hide (block_kept b19 (unhide VX1))
  replace Gr0 := hide ((unhide Gr0).below b19)
  replace Gr1 := hide ((unhide Gr1).below b19)
  have z19 := b19.size
  clear b19
  obtain ⟨c_K00, c_K01⟩ := cells2 (unhide K0)
  obtain ⟨c_K10, c_K11⟩ := cells2 (unhide K1)
  obtain ⟨c_VX00, c_VX01⟩ := cells2 (unhide VX0)
  obtain ⟨c_VX10, c_VX11⟩ := cells2 (unhide VX1)
  go_wp2_with fail
  clear c_K00 c_K01
  clear c_K10 c_K11
  clear c_VX00 c_VX01
  clear c_VX10 c_VX11
  refine (eqRrS_has (unhide Gr1).has ((unhide Wr1).below (unhide BW)) (unhide HSS1g)).mono ?_
  rintro e w20 ⟨rfl, b20⟩
  replace bb := below_next bb b20
  replace K0 := hide (block_kept b20 (unhide K0))
  replace K1 := hide (block_kept b20 (unhide K1))
  replace BW := hide ((unhide BW).trans (b20.mono (unhide BW).size))
  replace VX0 := hide (block_kept b20 (unhide VX0))
  replace VX1 := hide (block_kept b20 (unhide VX1))
  replace Gr0 := hide ((unhide Gr0).below b20)
  replace Gr1 := hide ((unhide Gr1).below b20)
  have z20 := b20.size
  clear b20
  obtain ⟨c_K00, c_K01⟩ := cells2 (unhide K0)
  obtain ⟨c_K10, c_K11⟩ := cells2 (unhide K1)
  obtain ⟨c_VX00, c_VX01⟩ := cells2 (unhide VX0)
  obtain ⟨c_VX10, c_VX11⟩ := cells2 (unhide VX1)
  go_wp2_with fail
  clear c_K00 c_K01
  clear c_K10 c_K11
  clear c_VX00 c_VX01
  clear c_VX10 c_VX11
  refine (unhide MKG0 _ _ _ _ (by omega) (unhide Gr0)).mono ?_
  rintro e w21 ⟨rfl, MR_0, u21⟩
  clear Gr0
  replace bb := u21.below bb (by omega)
  replace K0 := hide (u21.kept (unhide K0) (by omega))
  replace K1 := hide (u21.kept (unhide K1) (by omega))
  replace BW := hide (u21.belowAt (unhide BW) (Nat.le_refl _) (by omega))
  replace VX0 := hide (u21.kept (unhide VX0) (by omega))
  replace VX1 := hide (u21.kept (unhide VX1) (by omega))
  replace Gr1 := hide ((unhide Gr1).outside u21 (by omega))
  have z21 := u21.size
  clear u21
  replace MR_0 := hide MR_0
  obtain ⟨c_K00, c_K01⟩ := cells2 (unhide K0)
  obtain ⟨c_K10, c_K11⟩ := cells2 (unhide K1)
  obtain ⟨c_VX00, c_VX01⟩ := cells2 (unhide VX0)
  obtain ⟨c_VX10, c_VX11⟩ := cells2 (unhide VX1)
  go_wp2_with fail
  clear c_K00 c_K01
  clear c_K10 c_K11
  clear c_VX00 c_VX01
  clear c_VX10 c_VX11
  refine (unhide MKG1 _ _ _ _ (by omega) (unhide Gr1)).mono ?_
  rintro e w22 ⟨rfl, MR_1, u22⟩
  clear Gr1
  replace bb := u22.below bb (by omega)
  replace K0 := hide (u22.kept (unhide K0) (by omega))
  replace K1 := hide (u22.kept (unhide K1) (by omega))
  replace BW := hide (u22.belowAt (unhide BW) (Nat.le_refl _) (by omega))
  replace VX0 := hide (u22.kept (unhide VX0) (by omega))
  replace VX1 := hide (u22.kept (unhide VX1) (by omega))
  replace MR_0 := hide ((unhide MR_0).outside u22 (by omega))
  have z22 := u22.size
  clear u22
  replace MR_1 := hide MR_1
  obtain ⟨c_K00, c_K01⟩ := cells2 (unhide K0)
  obtain ⟨c_K10, c_K11⟩ := cells2 (unhide K1)
  obtain ⟨c_VX00, c_VX01⟩ := cells2 (unhide VX0)
  obtain ⟨c_VX10, c_VX11⟩ := cells2 (unhide VX1)
  go_wp2_with fail
  clear c_K00 c_K01
  clear c_K10 c_K11
  clear c_VX00 c_VX01
  clear c_VX10 c_VX11
  refine (unhide HDG0 _ _ (unhide MR_0).has).mono ?_
  rintro e wh ⟨rfl, rfl⟩
  obtain ⟨c_K00, c_K01⟩ := cells2 (unhide K0)
  obtain ⟨c_K10, c_K11⟩ := cells2 (unhide K1)
  obtain ⟨c_VX00, c_VX01⟩ := cells2 (unhide VX0)
  obtain ⟨c_VX10, c_VX11⟩ := cells2 (unhide VX1)
  go_wp2_with fail
  clear c_K00 c_K01
  clear c_K10 c_K11
  clear c_VX00 c_VX01
  clear c_VX10 c_VX11
  refine (unhide HDG1 _ _ (unhide MR_1).has).mono ?_
  rintro e wh ⟨rfl, rfl⟩
  have bd := below_drew (w := w22)
  have zdw22 : w22.drew.heap.size = w22.heap.size := rfl
  replace bb := below_next bb bd
  replace K0 := hide (block_kept bd (unhide K0))
  replace K1 := hide (block_kept bd (unhide K1))
  replace BW := hide ((unhide BW).trans (bd.mono (unhide BW).size))
  replace VX0 := hide (block_kept bd (unhide VX0))
  replace VX1 := hide (block_kept bd (unhide VX1))
  replace MR_0 := hide ((unhide MR_0).below bd)
  replace MR_1 := hide ((unhide MR_1).below bd)
  clear bd
  obtain ⟨c_K00, c_K01⟩ := cells2 (unhide K0)
  obtain ⟨c_K10, c_K11⟩ := cells2 (unhide K1)
  obtain ⟨c_VX00, c_VX01⟩ := cells2 (unhide VX0)
  obtain ⟨c_VX10, c_VX11⟩ := cells2 (unhide VX1)
  go_wp2_with fail
  clear c_K00 c_K01
  clear c_K10 c_K11
  clear c_VX00 c_VX01
  clear c_VX10 c_VX11
  go_region_held3 (fun w' => (w'.cell? ⟨w.heap.size, 0, none⟩ = some (.slice ao0 n0.length co0) ∧ w'.cell? ⟨w.heap.size, 1, none⟩ = some (.slice ar0 q0.length cr0)) ∧ (w'.cell? ⟨w.heap.size + 1, 0, none⟩ = some (.slice ao1 n1.length co1) ∧ w'.cell? ⟨w.heap.size + 1, 1, none⟩ = some (.slice ar1 q1.length cr1)))
    (first | exact ⟨cells2 (unhide K0), cells2 (unhide K1)⟩ | exact ⟨cells2 (block_kept q25 (unhide K0)), cells2 (block_kept q25 (unhide K1))⟩ | exact ⟨cells2 (block_kept q26 (unhide K0)), cells2 (block_kept q26 (unhide K1))⟩ | exact ⟨cells2 (block_kept q27 (unhide K0)), cells2 (block_kept q27 (unhide K1))⟩)
    (first
    | (go_at_call_of 26 (Value.slice ao0 n0.length co0); refine (toZone_own ao0 co0 ar0 cr0 n0 q0 _ ((unhide L0).below bb) (unhide HS0)).mono ?_; rintro e w25 ⟨x25, y25, rfl, o25, b25⟩; obtain ⟨xo25, xoc25, rfl, _⟩ := o25.hasZ.name.form; obtain ⟨xr25, xrc25, rfl, _⟩ := o25.hasZ.recs.form; have q25 := b25)
    | (go_at_call_of 26 (Value.slice ao1 n1.length co1); refine (toZone_own ao1 co1 ar1 cr1 n1 q1 _ ((unhide L1).below (below_next bb q25)) (unhide HS1)).mono ?_; rintro e w26 ⟨x26, y26, rfl, o26, b26⟩; obtain ⟨xo26, xoc26, rfl, _⟩ := o26.hasZ.name.form; obtain ⟨xr26, xrc26, rfl, _⟩ := o26.hasZ.recs.form; have q26 := below_next q25 b26)
    | (go_at_call 40; refine (unhide IM _ _ _ (o25.below b26).hasZ _ _ o26.hasZ).mono ?_; rintro e w27 ⟨y27_0, y27_1, rfl, ⟨s27, s127, s227, o27_0, o27_1⟩, b27⟩; have q27 := below_next q26 b27))
  clear b25 o25 q25 b26 o26 q26 b27
  replace bb := below_next bb q27
  replace K0 := hide (block_kept q27 (unhide K0))
  replace K1 := hide (block_kept q27 (unhide K1))
  replace BW := hide ((unhide BW).trans (q27.mono (unhide BW).size))
  replace VX0 := hide (block_kept q27 (unhide VX0))
  replace VX1 := hide (block_kept q27 (unhide VX1))
  replace MR_0 := hide ((unhide MR_0).below q27)
  replace MR_1 := hide ((unhide MR_1).below q27)
  have z27 := q27.size
  clear q27
  obtain ⟨ya27_0, yc27_0, rfl, _⟩ := o27_0.form
  have Hr0 := hide o27_0
  clear o27_0
  obtain ⟨ya27_1, yc27_1, rfl, _⟩ := o27_1.form
  have Hr1 := hide o27_1
  clear o27_1
  obtain ⟨c_K00, c_K01⟩ := cells2 (unhide K0)
  obtain ⟨c_K10, c_K11⟩ := cells2 (unhide K1)
  obtain ⟨c_VX00, c_VX01⟩ := cells2 (unhide VX0)
  obtain ⟨c_VX10, c_VX11⟩ := cells2 (unhide VX1)
  go_wp2_with fail
  clear c_K00 c_K01
  clear c_K10 c_K11
  clear c_VX00 c_VX01
  clear c_VX10 c_VX11
  refine (eqRrS_has (unhide Hr0).has ((unhide Wr0).below (unhide BW)) (unhide HSS0g)).mono ?_
  rintro e w28 ⟨rfl, b28⟩
  replace bb := below_next bb b28
  replace K0 := hide (block_kept b28 (unhide K0))
  replace K1 := hide (block_kept b28 (unhide K1))
  replace BW := hide ((unhide BW).trans (b28.mono (unhide BW).size))
  replace VX0 := hide (block_kept b28 (unhide VX0))
  replace VX1 := hide (block_kept b28 (unhide VX1))
  replace MR_0 := hide ((unhide MR_0).below b28)
  replace MR_1 := hide ((unhide MR_1).below b28)
  replace Hr0 := hide ((unhide Hr0).below b28)
  replace Hr1 := hide ((unhide Hr1).below b28)
  have z28 := b28.size
  clear b28
  obtain ⟨c_K00, c_K01⟩ := cells2 (unhide K0)
  obtain ⟨c_K10, c_K11⟩ := cells2 (unhide K1)
  obtain ⟨c_VX00, c_VX01⟩ := cells2 (unhide VX0)
  obtain ⟨c_VX10, c_VX11⟩ := cells2 (unhide VX1)
  go_wp2_with fail
  clear c_K00 c_K01
  clear c_K10 c_K11
  clear c_VX00 c_VX01
  clear c_VX10 c_VX11
  refine (eqRrS_has (unhide Hr1).has ((unhide Wr1).below (unhide BW)) (unhide HSS1g)).mono ?_
  rintro e w29 ⟨rfl, b29⟩
  replace bb := below_next bb b29
  replace K0 := hide (block_kept b29 (unhide K0))
  replace K1 := hide (block_kept b29 (unhide K1))
  replace BW := hide ((unhide BW).trans (b29.mono (unhide BW).size))
  replace VX0 := hide (block_kept b29 (unhide VX0))
  replace VX1 := hide (block_kept b29 (unhide VX1))
  replace MR_0 := hide ((unhide MR_0).below b29)
  replace MR_1 := hide ((unhide MR_1).below b29)
  replace Hr0 := hide ((unhide Hr0).below b29)
  replace Hr1 := hide ((unhide Hr1).below b29)
  have z29 := b29.size
  clear b29
  obtain ⟨c_K00, c_K01⟩ := cells2 (unhide K0)
  obtain ⟨c_K10, c_K11⟩ := cells2 (unhide K1)
  obtain ⟨c_VX00, c_VX01⟩ := cells2 (unhide VX0)
  obtain ⟨c_VX10, c_VX11⟩ := cells2 (unhide VX1)
  go_wp2_with fail
  clear c_K00 c_K01
  clear c_K10 c_K11
  clear c_VX00 c_VX01
  clear c_VX10 c_VX11
  refine (unhide HDG0 _ _ (unhide MR_0).has).mono ?_
  rintro e wh ⟨rfl, rfl⟩
  obtain ⟨c_K00, c_K01⟩ := cells2 (unhide K0)
  obtain ⟨c_K10, c_K11⟩ := cells2 (unhide K1)
  obtain ⟨c_VX00, c_VX01⟩ := cells2 (unhide VX0)
  obtain ⟨c_VX10, c_VX11⟩ := cells2 (unhide VX1)
  go_wp2_with fail
  clear c_K00 c_K01
  clear c_K10 c_K11
  clear c_VX00 c_VX01
  clear c_VX10 c_VX11
  refine (unhide HDG1 _ _ (unhide MR_1).has).mono ?_
  rintro e wh ⟨rfl, rfl⟩
  go_wp2_with fail
  go_ret
  exact ⟨rfl, bb⟩
end Go.Proofs.YtdghbcjlahjjdaaGreat
