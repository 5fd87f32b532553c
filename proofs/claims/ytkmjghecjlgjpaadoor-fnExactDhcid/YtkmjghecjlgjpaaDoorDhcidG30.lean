/-
  Plain facts: where an append to an own row of bytes leaves it: in its block, or in a new one. No program is named here. Contracts of the specification's l7dhcid and Dhcid.
-/
import Derived.Test.YtkmjghecjlgjpaaDoorDhcidG27
import Derived.Test.YtkmjghecjlgjpaaDoorDhcidG05
import Derived.Test.YtkmjghecjlgjpaaDoorDhcidG08
import Derived.Test.YtkmjghecjlgjpaaDoorDhcidG28
import Derived.Test.YtkmjghecjlgjpaaDoorDhcidG29
namespace Go.Proofs.YtkmjghecjlgjpaaDoor
open Go.RowKit

section
variable {P : Program} {w : World}

theorem where_bytes {t ty e : TypeId} (ht : P.underlying t = some (.slice e)) (hinfo : (P.info? e).map (fun i => (i.zero, i.size, i.bytes)) = some (some (.int .u8 0), 1, 1))
  {base : Nat} {v vx : Value} {l m : List Int} (hown : Own base e w v l) (hr : Reads w vx m) (hlen : l.length + m.length ≤ 1099511627776) (hbase : base ≤ w.heap.size) {v' : Value} {w' : World}
  (hrun : (Builtin.append_ #[t, t] ty #[v, vx]).run P w = .ok v' w') : v'.ownBlock = v.ownBlock ∨ v'.ownBlock = some w.heap.size := by
 obtain ⟨i0, hi, hz0, hz1, hz2⟩ := info_parts hinfo
 rcases hr with ⟨rfl, rfl⟩ | ⟨ad, cap, rfl, hc⟩
 ·rw [run_append_owned_none w base t ty e i0 1 ht hi v l.length (l.map (Value.int .u8)) hown] at hrun
  simp only [Result.ok.injEq] at hrun
  left; rw [hrun.1]
 ·obtain ⟨v2, w2, h1, _, _, h4⟩ := run_append_own (P := P) w base t ty e i0 (.int .u8 0) 1 1 ht hi hz0 hz1 hz2 rfl (by decide) v l.length (l.map (Value.int .u8)) hown ad m.length cap (m.map (Value.int .u8)) (by simp) (news_of hc) (one_of m) (by unfold maxLen; omega) (by omega) hbase
  rcases hown.2 with ⟨rfl, h0⟩ | ⟨g, cp, cur, rfl, hbg, hg, hnc, hcm, hcs, htake⟩
  ·by_cases hm : m.length = 0
   ·rw [h1] at hrun
    simp only [Result.ok.injEq] at hrun
    have := h4.2 ⟨rfl, hm⟩
    rw [← hrun.1, this]
    exact .inl rfl
   ·rw [run_append_nil (P := P) w t ty e i0 (.int .u8 0) ht hi hz0 ad m.length cap (m.map (Value.int .u8)) (by simp [hz1]) (news_of hc) (by omega) (by omega) (by rw [hz2]; omega)] at hrun
    simp only [Result.ok.injEq] at hrun
    right; rw [← hrun.1]; rfl
  ·by_cases hroom : l.length + m.length ≤ cp
   ·rw [run_append_room (P := P) w t ty e i0 ht hi g l.length cp cur hg ad m.length cap (m.map (Value.int .u8)) (by simp [hz1]) (news_of hc) (one_of m) hroom (by rw [hz1]; simp; omega)] at hrun
    simp only [Result.ok.injEq] at hrun
    left; rw [← hrun.1]; rfl
   ·have holds : ∀ j u, (l.map (Value.int .u8))[j]? = some u → w.cell? ((⟨g, 0, none⟩ : Addr).add j) = some u := World.ownsRow.cells hown (g := g) rfl
    rw [run_append_grow (P := P) w t ty e i0 (.int .u8 0) ht hi hz0 ⟨g, 0, none⟩ l.length cp (l.map (Value.int .u8)) (by simp [hz1]) holds ad m.length cap (m.map (Value.int .u8)) (by simp [hz1]) (news_of hc) (by omega) (by omega) (growslice_fits (by omega) (by rw [hz2]; omega))] at hrun
    simp only [Result.ok.injEq] at hrun
    right; rw [← hrun.1]; rfl

/-- 'append(s, x...)' of bytes, as a step of a region, and where it leaves the row. -/
theorem step_append_where {ops : Array Oper} {o : Oper} {a : Act} {K : Act → World → Prop} {Q : Exit → Act → World → Prop} {E : Prop} (hgd : o.guard = none) (s x : Operand) (t e : TypeId)
  (ho : o.op = .call { callee := .builtin .append, args := #[s, x], argTypes := #[t, t] }) (ht : P.underlying t = some (.slice e))
  (hinfo : (P.info? e).map (fun i => (i.zero, i.size, i.bytes)) = some (some (.int .u8 0), 1, 1))
  (base : Nat) (v vx : Value) (l m : List Int) (hs : a.eval s = v) (hx : a.eval x = vx) (hown : Own base e w v l) (hr : Reads w vx m) (hlen : l.length + m.length ≤ 1099511627776) (hbase : base ≤ w.heap.size)
  (h : ∀ v' w', Own base e w' v' (l ++ m) → w.grownBy w' v.ownBlock → (v'.ownBlock = v.ownBlock ∨ v'.ownBlock = some w.heap.size) → K (a.put o.dst v') w') : if Region.wanted o (yielded ops a.tmps) = true then Oper.wp P o a w K Q else E := by
 have hw : Region.wanted o (yielded ops a.tmps) = true := by simp [Region.wanted, hgd]
 rw [if_pos hw]
 obtain ⟨v', w', hr', h2, h3⟩ := run_append_bytes (P := P) t o.type e ht hinfo base v vx l m hown hr hlen hbase
 have h4 := where_bytes ht hinfo hown hr hlen hbase hr'
 unfold Oper.wp execOp
 simp only [ho, resolve, invoke, builtin, Sem.run_bind, Sem.run_pure, Result.andThen_ok, List.map_toArray, List.map_cons, List.map_nil, hs, hx, hr']
 exact h v' w' h2 h3 h4
end

/-- Of the blocks that lay in w none has turned but the row of v; what v' owns is that row, or new. -/
structure Moved (w w' : World) (v v' : Value) : Prop where
 kept : w.grownBy w' v.ownBlock
 own : v'.ownBlock = v.ownBlock ∨ ∀ q, v'.ownBlock = some q → w.heap.size ≤ q
theorem Moved.refl (w : World) (v : Value) : Moved w w v v := ⟨⟨rfl, rfl, rfl, Nat.le_refl _, fun _ _ _ => rfl⟩, .inl rfl⟩
theorem Moved.step {w a b : World} {v u u' : Value} (h : Moved w a v u) (g : a.grownBy b u.ownBlock) (hw : u'.ownBlock = u.ownBlock ∨ u'.ownBlock = some a.heap.size) : Moved w b v u' := by
 refine ⟨⟨g.os.trans h.kept.os, g.tape.trans h.kept.tape, g.output.trans h.kept.output, Nat.le_trans h.kept.size g.size, fun k hk hne => ?_⟩, ?_⟩
 ·refine (g.block k (Nat.lt_of_lt_of_le hk h.kept.size) (fun e => ?_)).trans (h.kept.block k hk hne)
  rcases h.own with h1 | h1
  ·rw [h1] at e; exact hne e
  ·have := h1 k e.symm; omega
 ·rcases hw with hw | hw
  ·rw [hw]; exact h.own
  ·right
   intro q hq
   rw [hw] at hq
   have := h.kept.size
   simp at hq
   omega
theorem Moved.below {w a b : World} {v u : Value} (h : Moved w a v u) (hb : Below a.heap.size a b) : Moved w b v u :=
 ⟨⟨hb.os.trans h.kept.os, hb.tape.trans h.kept.tape, hb.output.trans h.kept.output, Nat.le_trans h.kept.size hb.size, fun k hk hne => (hb.block k (Nat.lt_of_lt_of_le hk h.kept.size)).trans (h.kept.block k hk hne)⟩, h.own⟩
end Go.Proofs.YtkmjghecjlgjpaaDoor

namespace Go.Proofs.YtkmjghecjlgjpaaDoor
open Go.RowKit
set_option linter.unusedVariables false
set_option linter.unusedSimpArgs false

theorem own_three {w : World} {b B : Nat} {e : TypeId} (h : w.heap[b]? = some (.cells #[.int .u8 0, .int .u8 1, .int .u8 1] e)) (hB : B ≤ b) : Own B e w (.slice (some ⟨b, 0, none⟩) 3 3) [0, 1, 1] :=
 ⟨rfl, .inr ⟨b, 3, _, rfl, hB, h, Nat.le_refl _, by unfold maxLen; omega, rfl, rfl⟩⟩

set_option maxHeartbeats 2000000 in
set_option maxRecDepth 100000 in
theorem l7dhcid_own {vb v : Value} {l : List Int} {n : List (List Int)} {w : World} (hvb : Has w vb l) (hl : l.length ≤ 16) (h8 : Bytes8 l) (h : HasL w v n) (hok : nameOk n = true) :
  Calls Tryd.prog 70 #[vb, .agg #[v]] w fun e w' => ∃ v', e = .returned v' ∧ Own w.heap.size 5 w' v' ([0, 1, 1] ++ shaOf (l ++ wire n)) ∧ Below w.heap.size w w' := by
 obtain ⟨a, cap, rfl, hcl, hm⟩ := h.form
 obtain ⟨ba, bc, rfl, _⟩ := hvb.form
 have b0 := below_next (below_alloc (w := w) (.cells #[.slice a n.length cap] 26)) below_drew
 have KK := hide (block_kept (below_drew (w := w.alloc (.cells #[.slice a n.length cap] 26))) (heap_alloc_new w (.cells #[.slice a n.length cap] 26)))
 have BB := hide b0
 have HH := hide h
 have HV := hide hvb
 have hw := wire_length n hok
 have HWL := hide (show l.length + (wire n).length ≤ 1099511627776 by omega)
 have HLN := hide (show (l ++ wire n).length ≤ 4096 by rw [List.length_append]; omega)
 have HB8 := hide (dhcid_bytes h8 hok)
 have HN6 := hide (nameOk_parts hok).1
 have HN15 := hide (show ∀ k, k < n.length → (n.getD k []).length ≤ 15 from fun k hk => (labelOk_length ((nameOk_parts hok).2 k hk)).2)
 have HWS := hide (wires_length n hok)
 clear h hvb hok h8 hw b0
 have ZB := (unhide BB).size
 go_enter Tryd.func70, Tryd.ntmps70
 go_wp2_with fail
 refine startF 10 (S := fun w' => w'.cell? ⟨w.heap.size, 0, none⟩ = some (.slice a n.length cap)) (by kernel_rfl) rfl (block_one (unhide KK)) (fun hHeld => ?_)
 simp only [List.replicate]
 generalize (w.alloc (.cells #[.slice a n.length cap] 26)).drew = W0 at *
 refine tkI 2 ?_ rfl (by kernel_rfl) (by kernel_rfl) (fun _ _ _ h => h) ?_ hHeld ?_; rotate_left; (· (intro w hSw; (try dsimp only at hSw); go_simp <;> with_reducible rfl)); simp only [Act.put, List.setIfInBounds_toArray, List.set_cons_zero, List.set_cons_succ]
 refine tkI 4 ?_ rfl (by kernel_rfl) (by kernel_rfl) (fun _ _ _ h => h) ?_ hHeld ?_; rotate_left; (· (intro w hSw; (try dsimp only at hSw); go_simp <;> with_reducible rfl)); simp only [Act.put, List.setIfInBounds_toArray, List.set_cons_zero, List.set_cons_succ]
 refine wpAnyH_ready (rs := [0, 1]) (by kernel_rfl) (by simp) (AllReadyH.cons (ops_drop rfl) (fun K hK => ?_) (AllReadyH.cons (ops_drop rfl) (fun K hK => ?_) AllReadyH.nil))
 ·have HK := hide hK
  clear hK hHeld
  go_simp
  have ba := below_alloc (w := W0) (.cells #[.int .u8 0, .int .u8 1, .int .u8 1] 5)
  replace KK := hide (block_kept ba (unhide KK))
  replace BB := hide (below_next (unhide BB) ba)
  have K5 := hide (heap_alloc_new W0 (.cells #[.int .u8 0, .int .u8 1, .int .u8 1] 5))
  have Z5 := hide (show w.heap.size ≤ W0.heap.size from ZB)
  clear ba
  refine (unhide HK).out _ _ (block_one (unhide KK)) (fun hHeld => ?_)
  clear HK K
  simp only [Act.put, List.setIfInBounds_toArray, List.set_cons_zero, List.set_cons_succ]
  generalize W0.alloc (.cells #[.int .u8 0, .int .u8 1, .int .u8 1] 5) = W1 at *
  clear ZB
  have ZB := (unhide BB).size
  have L5 := hide (block_lt (unhide K5))
  refine wpAnyH_ready (rs := [1]) (by kernel_rfl) (by simp) (AllReadyH.cons (ops_drop rfl) (fun K hK => ?_) AllReadyH.nil)
  have HK := hide hK
  clear hK hHeld
  go_simp
  have ba := below_alloc (w := W1) (.cells #[] 5)
  replace KK := hide (block_kept ba (unhide KK))
  replace BB := hide (below_next (unhide BB) ba)
  replace K5 := hide (block_kept ba (unhide K5))
  have RO : Hid (Own w.heap.size 5 (W1.alloc (.cells #[] 5)) (.slice (some ⟨W1.heap.size, 0, none⟩) 0 0 : Value) []) := hide (own_lit W1 w.heap.size 5 [] ZB (by simp))
  have N5 := hide (show ((.slice (some ⟨W1.heap.size, 0, none⟩) 0 0 : Value)).ownBlock ≠ some W0.heap.size from fun q => by simp [Value.ownBlock] at q; have := unhide L5; omega)
  clear ba
  refine (unhide HK).out _ _ (block_one (unhide KK)) (fun hHeld => ?_)
  clear HK K
  simp only [Act.put, List.setIfInBounds_toArray, List.set_cons_zero, List.set_cons_succ]
  generalize W1.alloc (.cells #[] 5) = W2 at *
  clear ZB
  have ZB := (unhide BB).size
  have RL := hide (fun q e => ((unhide RO).lt q e).2)
  refine wpAnyH_ready (rs := [3]) (by kernel_rfl) (by simp) (AllReadyH.cons (ops_drop rfl) (fun K hK => ?_) AllReadyH.nil)
  have HK := hide hK
  clear hK hHeld
  refine step_append_where rfl (.tmp 6) (.tmp 7) 22 5 rfl Tryd.underlying22 info_u8 w.heap.size (.slice (some ⟨W1.heap.size, 0, none⟩) 0 0 : Value) (.slice ba l.length bc) [] l rfl rfl (unhide RO) ((unhide HV).below (unhide BB)).reads (by simp; omega) ZB ?_
  intro v66 W65 o2 g2 h2
  replace KK := hide (block_grown g2 (unhide KK) (Own.apart (unhide RO) (unhide KK) (by decide)))
  have zg := g2.size
  replace BB := hide ((unhide BB).grown g2 ZB (fun k hk => ((unhide RO).lt k hk).1))
  have L5b := block_lt (unhide K5)
  replace K5 := hide (block_grown g2 (unhide K5) (unhide N5))
  replace N5 := hide (show v66.ownBlock ≠ some W0.heap.size from fun q => by rcases h2 with h2 | h2; (· exact unhide N5 (h2 ▸ q)); rw [h2] at q; simp at q; omega)
  clear L5b
  replace RO := hide o2
  replace RO : Hid (Own w.heap.size 5 W65 v66 l) := RO
  clear o2 g2 h2 zg
  refine (unhide HK).out _ _ (block_one (unhide KK)) (fun hHeld => ?_)
  clear HK K
  simp only [Act.put, List.setIfInBounds_toArray, List.set_cons_zero, List.set_cons_succ]
  clear ZB
  have ZB := (unhide BB).size
  replace RL := hide (fun q e => ((unhide RO).lt q e).2)
  refine wpAnyH_ready (rs := [5]) (by kernel_rfl) (by simp) (AllReadyH.cons (ops_drop rfl) (fun K hK => ?_) AllReadyH.nil)
  have HK := hide hK
  clear hK hHeld
  go_simp
  refine (l2put_own (B := W65.heap.size) (vb := .slice none 0 0) (l := []) (World.ownsRow_nil _ _ _ _) (Nat.le_refl _) (by simp) ((unhide HH).below (unhide BB)).at (unhide HN6) (unhide HN15) (unhide HWS)).mono ?_
  rintro e W97 ⟨v98, rfl, o2, b2⟩
  replace KK := hide (block_kept b2 (unhide KK))
  replace BB := hide (below_next (unhide BB) b2)
  replace RO := hide ((unhide RO).below b2)
  replace K5 := hide (block_kept b2 (unhide K5))
  have SO := hide (show Own W65.heap.size 5 W97 v98 (wire n) from o2)
  clear o2 b2
  go_simp
  refine (unhide HK).out _ _ (block_one (unhide KK)) (fun hHeld => ?_)
  clear HK K
  simp only [Act.put, List.setIfInBounds_toArray, List.set_cons_zero, List.set_cons_succ]
  clear ZB
  have ZB := (unhide BB).size
  replace RL := hide (fun q e => ((unhide RO).lt q e).2)
  refine wpAnyH_ready (rs := [6]) (by kernel_rfl) (by simp) (AllReadyH.cons (ops_drop rfl) (fun K hK => ?_) AllReadyH.nil)
  have HK := hide hK
  clear hK hHeld
  refine step_append_where rfl (.tmp 8) (.tmp 10) 22 5 rfl Tryd.underlying22 info_u8 w.heap.size v66 v98 l (wire n) rfl rfl (unhide RO) (unhide SO).reads (by have := unhide HWL; omega) ZB ?_
  intro v114 W113 o2 g2 h2
  replace KK := hide (block_grown g2 (unhide KK) (Own.apart (unhide RO) (unhide KK) (by decide)))
  have zg := g2.size
  replace BB := hide ((unhide BB).grown g2 ZB (fun k hk => ((unhide RO).lt k hk).1))
  have L5b := block_lt (unhide K5)
  replace K5 := hide (block_grown g2 (unhide K5) (unhide N5))
  replace N5 := hide (show v114.ownBlock ≠ some W0.heap.size from fun q => by rcases h2 with h2 | h2; (· exact unhide N5 (h2 ▸ q)); rw [h2] at q; simp at q; omega)
  clear L5b
  replace RO := hide o2
  clear o2 g2 h2 zg
  clear SO
  refine (unhide HK).out _ _ (block_one (unhide KK)) (fun hHeld => ?_)
  clear HK K
  simp only [Act.put, List.setIfInBounds_toArray, List.set_cons_zero, List.set_cons_succ]
  clear ZB
  have ZB := (unhide BB).size
  replace RL := hide (fun q e => ((unhide RO).lt q e).2)
  refine wpAnyH_ready (rs := [7]) (by kernel_rfl) (by simp) (AllReadyH.cons (ops_drop rfl) (fun K hK => ?_) AllReadyH.nil)
  have HK := hide hK
  clear hK hHeld
  go_simp
  refine (l7sum_any (unhide RO) (unhide HLN) (unhide HB8)).mono ?_
  rintro e W121 ⟨v122, rfl, o2, b2⟩
  replace KK := hide (block_kept b2 (unhide KK))
  replace BB := hide (below_next (unhide BB) b2)
  replace RO := hide ((unhide RO).below b2)
  replace K5 := hide (block_kept b2 (unhide K5))
  have SO := hide o2
  clear o2 b2
  go_simp
  refine (unhide HK).out _ _ (block_one (unhide KK)) (fun hHeld => ?_)
  clear HK K
  simp only [Act.put, List.setIfInBounds_toArray, List.set_cons_zero, List.set_cons_succ]
  clear ZB
  have ZB := (unhide BB).size
  replace RL := hide (fun q e => ((unhide RO).lt q e).2)
  refine wpAnyH_ready (rs := [8]) (by kernel_rfl) (by simp) (AllReadyH.cons (ops_drop rfl) (fun K hK => ?_) AllReadyH.nil)
  have HK := hide hK
  clear hK hHeld
  refine step_append_where rfl (.tmp 5) (.tmp 12) 22 5 rfl Tryd.underlying22 info_u8 w.heap.size (.slice (some ⟨W0.heap.size, 0, none⟩) 3 3) v122 [0, 1, 1] (shaOf (l ++ wire n)) rfl rfl (own_three (unhide K5) (unhide Z5)) (unhide SO).reads (by rw [shaOf_length]; simp) ZB ?_
  intro v126 W125 o2 g2 h2
  have b2 := (unhide BB).grown g2 ZB (fun k hk => ((own_three (unhide K5) (unhide Z5)).lt k hk).1)
  have KK2 := hide (block_grown g2 (unhide KK) (Own.apart (own_three (unhide K5) (unhide Z5)) (unhide KK) (by decide)))
  have O2 := hide o2
  have B2 := hide b2
  clear o2 g2 h2 b2 KK BB K5 SO RO RL N5
  refine (unhide HK).out _ _ (block_one (unhide KK2)) (fun hHeld => ?_)
  clear HK K
  simp only [Act.put, List.setIfInBounds_toArray, List.set_cons_zero, List.set_cons_succ]
  refine tkI 9 ?_ rfl (by kernel_rfl) (by kernel_rfl) (fun _ _ _ h => h) ?_ hHeld ?_; rotate_left; (· (intro w hSw; (try dsimp only at hSw); go_simp <;> with_reducible rfl)); simp only [Act.put, List.setIfInBounds_toArray, List.set_cons_zero, List.set_cons_succ]
  refine wpAnyH_done (by kernel_rfl) ?_ _
  clear hHeld
  go_wp2_with fail
  go_ret
  exact ⟨_, rfl, unhide O2, unhide B2⟩
 ·have HK := hide hK
  clear hK hHeld
  go_simp
  have ba := below_alloc (w := W0) (.cells #[] 5)
  replace KK := hide (block_kept ba (unhide KK))
  replace BB := hide (below_next (unhide BB) ba)
  have RO : Hid (Own w.heap.size 5 (W0.alloc (.cells #[] 5)) (.slice (some ⟨W0.heap.size, 0, none⟩) 0 0 : Value) []) := hide (own_lit W0 w.heap.size 5 [] ZB (by simp))
  clear ba
  refine (unhide HK).out _ _ (block_one (unhide KK)) (fun hHeld => ?_)
  clear HK K
  simp only [Act.put, List.setIfInBounds_toArray, List.set_cons_zero, List.set_cons_succ]
  generalize W0.alloc (.cells #[] 5) = W127 at *
  clear ZB
  have ZB := (unhide BB).size
  have RL := hide (fun q e => ((unhide RO).lt q e).2)
  refine wpAnyH_ready (rs := [0, 3]) (by kernel_rfl) (by simp) (AllReadyH.cons (ops_drop rfl) (fun K hK => ?_) (AllReadyH.cons (ops_drop rfl) (fun K hK => ?_) AllReadyH.nil))
  ·have HK := hide hK
   clear hK hHeld
   go_simp
   have ba := below_alloc (w := W127) (.cells #[.int .u8 0, .int .u8 1, .int .u8 1] 5)
   replace KK := hide (block_kept ba (unhide KK))
   replace BB := hide (below_next (unhide BB) ba)
   replace RO := hide ((unhide RO).below ba)
   have K5 := hide (heap_alloc_new W127 (.cells #[.int .u8 0, .int .u8 1, .int .u8 1] 5))
   have Z5 := hide (show w.heap.size ≤ W127.heap.size from ZB)
   have N5 := hide (show ((.slice (some ⟨W0.heap.size, 0, none⟩) 0 0 : Value)).ownBlock ≠ some W127.heap.size from fun q => by have := (unhide RL _ q); omega)
   clear ba
   refine (unhide HK).out _ _ (block_one (unhide KK)) (fun hHeld => ?_)
   clear HK K
   simp only [Act.put, List.setIfInBounds_toArray, List.set_cons_zero, List.set_cons_succ]
   generalize W127.alloc (.cells #[.int .u8 0, .int .u8 1, .int .u8 1] 5) = W128 at *
   clear ZB
   have ZB := (unhide BB).size
   replace RL := hide (fun q e => ((unhide RO).lt q e).2)
   refine wpAnyH_ready (rs := [3]) (by kernel_rfl) (by simp) (AllReadyH.cons (ops_drop rfl) (fun K hK => ?_) AllReadyH.nil)
   have HK := hide hK
   clear hK hHeld
   refine step_append_where rfl (.tmp 6) (.tmp 7) 22 5 rfl Tryd.underlying22 info_u8 w.heap.size (.slice (some ⟨W0.heap.size, 0, none⟩) 0 0 : Value) (.slice ba l.length bc) [] l rfl rfl (unhide RO) ((unhide HV).below (unhide BB)).reads (by simp; omega) ZB ?_
   intro v130 W129 o2 g2 h2
   replace KK := hide (block_grown g2 (unhide KK) (Own.apart (unhide RO) (unhide KK) (by decide)))
   have zg := g2.size
   replace BB := hide ((unhide BB).grown g2 ZB (fun k hk => ((unhide RO).lt k hk).1))
   have L5b := block_lt (unhide K5)
   replace K5 := hide (block_grown g2 (unhide K5) (unhide N5))
   replace N5 := hide (show v130.ownBlock ≠ some W127.heap.size from fun q => by rcases h2 with h2 | h2; (· exact unhide N5 (h2 ▸ q)); rw [h2] at q; simp at q; omega)
   clear L5b
   replace RO := hide o2
   replace RO : Hid (Own w.heap.size 5 W129 v130 l) := RO
   clear o2 g2 h2 zg
   refine (unhide HK).out _ _ (block_one (unhide KK)) (fun hHeld => ?_)
   clear HK K
   simp only [Act.put, List.setIfInBounds_toArray, List.set_cons_zero, List.set_cons_succ]
   clear ZB
   have ZB := (unhide BB).size
   replace RL := hide (fun q e => ((unhide RO).lt q e).2)
   refine wpAnyH_ready (rs := [5]) (by kernel_rfl) (by simp) (AllReadyH.cons (ops_drop rfl) (fun K hK => ?_) AllReadyH.nil)
   have HK := hide hK
   clear hK hHeld
   go_simp
   refine (l2put_own (B := W129.heap.size) (vb := .slice none 0 0) (l := []) (World.ownsRow_nil _ _ _ _) (Nat.le_refl _) (by simp) ((unhide HH).below (unhide BB)).at (unhide HN6) (unhide HN15) (unhide HWS)).mono ?_
   rintro e W161 ⟨v162, rfl, o2, b2⟩
   replace KK := hide (block_kept b2 (unhide KK))
   replace BB := hide (below_next (unhide BB) b2)
   replace RO := hide ((unhide RO).below b2)
   replace K5 := hide (block_kept b2 (unhide K5))
   have SO := hide (show Own W129.heap.size 5 W161 v162 (wire n) from o2)
   clear o2 b2
   go_simp
   refine (unhide HK).out _ _ (block_one (unhide KK)) (fun hHeld => ?_)
   clear HK K
   simp only [Act.put, List.setIfInBounds_toArray, List.set_cons_zero, List.set_cons_succ]
   clear ZB
   have ZB := (unhide BB).size
   replace RL := hide (fun q e => ((unhide RO).lt q e).2)
   refine wpAnyH_ready (rs := [6]) (by kernel_rfl) (by simp) (AllReadyH.cons (ops_drop rfl) (fun K hK => ?_) AllReadyH.nil)
   have HK := hide hK
   clear hK hHeld
   refine step_append_where rfl (.tmp 8) (.tmp 10) 22 5 rfl Tryd.underlying22 info_u8 w.heap.size v130 v162 l (wire n) rfl rfl (unhide RO) (unhide SO).reads (by have := unhide HWL; omega) ZB ?_
   intro v178 W177 o2 g2 h2
   replace KK := hide (block_grown g2 (unhide KK) (Own.apart (unhide RO) (unhide KK) (by decide)))
   have zg := g2.size
   replace BB := hide ((unhide BB).grown g2 ZB (fun k hk => ((unhide RO).lt k hk).1))
   have L5b := block_lt (unhide K5)
   replace K5 := hide (block_grown g2 (unhide K5) (unhide N5))
   replace N5 := hide (show v178.ownBlock ≠ some W127.heap.size from fun q => by rcases h2 with h2 | h2; (· exact unhide N5 (h2 ▸ q)); rw [h2] at q; simp at q; omega)
   clear L5b
   replace RO := hide o2
   clear o2 g2 h2 zg
   clear SO
   refine (unhide HK).out _ _ (block_one (unhide KK)) (fun hHeld => ?_)
   clear HK K
   simp only [Act.put, List.setIfInBounds_toArray, List.set_cons_zero, List.set_cons_succ]
   clear ZB
   have ZB := (unhide BB).size
   replace RL := hide (fun q e => ((unhide RO).lt q e).2)
   refine wpAnyH_ready (rs := [7]) (by kernel_rfl) (by simp) (AllReadyH.cons (ops_drop rfl) (fun K hK => ?_) AllReadyH.nil)
   have HK := hide hK
   clear hK hHeld
   go_simp
   refine (l7sum_any (unhide RO) (unhide HLN) (unhide HB8)).mono ?_
   rintro e W185 ⟨v186, rfl, o2, b2⟩
   replace KK := hide (block_kept b2 (unhide KK))
   replace BB := hide (below_next (unhide BB) b2)
   replace RO := hide ((unhide RO).below b2)
   replace K5 := hide (block_kept b2 (unhide K5))
   have SO := hide o2
   clear o2 b2
   go_simp
   refine (unhide HK).out _ _ (block_one (unhide KK)) (fun hHeld => ?_)
   clear HK K
   simp only [Act.put, List.setIfInBounds_toArray, List.set_cons_zero, List.set_cons_succ]
   clear ZB
   have ZB := (unhide BB).size
   replace RL := hide (fun q e => ((unhide RO).lt q e).2)
   refine wpAnyH_ready (rs := [8]) (by kernel_rfl) (by simp) (AllReadyH.cons (ops_drop rfl) (fun K hK => ?_) AllReadyH.nil)
   have HK := hide hK
   clear hK hHeld
   refine step_append_where rfl (.tmp 5) (.tmp 12) 22 5 rfl Tryd.underlying22 info_u8 w.heap.size (.slice (some ⟨W127.heap.size, 0, none⟩) 3 3) v186 [0, 1, 1] (shaOf (l ++ wire n)) rfl rfl (own_three (unhide K5) (unhide Z5)) (unhide SO).reads (by rw [shaOf_length]; simp) ZB ?_
   intro v190 W189 o2 g2 h2
   have b2 := (unhide BB).grown g2 ZB (fun k hk => ((own_three (unhide K5) (unhide Z5)).lt k hk).1)
   have KK2 := hide (block_grown g2 (unhide KK) (Own.apart (own_three (unhide K5) (unhide Z5)) (unhide KK) (by decide)))
   have O2 := hide o2
   have B2 := hide b2
   clear o2 g2 h2 b2 KK BB K5 SO RO RL N5
   refine (unhide HK).out _ _ (block_one (unhide KK2)) (fun hHeld => ?_)
   clear HK K
   simp only [Act.put, List.setIfInBounds_toArray, List.set_cons_zero, List.set_cons_succ]
   refine tkI 9 ?_ rfl (by kernel_rfl) (by kernel_rfl) (fun _ _ _ h => h) ?_ hHeld ?_; rotate_left; (· (intro w hSw; (try dsimp only at hSw); go_simp <;> with_reducible rfl)); simp only [Act.put, List.setIfInBounds_toArray, List.set_cons_zero, List.set_cons_succ]
   refine wpAnyH_done (by kernel_rfl) ?_ _
   clear hHeld
   go_wp2_with fail
   go_ret
   exact ⟨_, rfl, unhide O2, unhide B2⟩
  ·have HK := hide hK
   clear hK hHeld
   refine step_append_where rfl (.tmp 6) (.tmp 7) 22 5 rfl Tryd.underlying22 info_u8 w.heap.size (.slice (some ⟨W0.heap.size, 0, none⟩) 0 0 : Value) (.slice ba l.length bc) [] l rfl rfl (unhide RO) ((unhide HV).below (unhide BB)).reads (by simp; omega) ZB ?_
   intro v192 W191 o2 g2 h2
   replace KK := hide (block_grown g2 (unhide KK) (Own.apart (unhide RO) (unhide KK) (by decide)))
   have zg := g2.size
   replace BB := hide ((unhide BB).grown g2 ZB (fun k hk => ((unhide RO).lt k hk).1))
   replace RO := hide o2
   replace RO : Hid (Own w.heap.size 5 W191 v192 l) := RO
   clear o2 g2 h2 zg
   refine (unhide HK).out _ _ (block_one (unhide KK)) (fun hHeld => ?_)
   clear HK K
   simp only [Act.put, List.setIfInBounds_toArray, List.set_cons_zero, List.set_cons_succ]
   clear ZB
   have ZB := (unhide BB).size
   replace RL := hide (fun q e => ((unhide RO).lt q e).2)
   refine wpAnyH_ready (rs := [0, 5]) (by kernel_rfl) (by simp) (AllReadyH.cons (ops_drop rfl) (fun K hK => ?_) (AllReadyH.cons (ops_drop rfl) (fun K hK => ?_) AllReadyH.nil))
   ·have HK := hide hK
    clear hK hHeld
    go_simp
    have ba := below_alloc (w := W191) (.cells #[.int .u8 0, .int .u8 1, .int .u8 1] 5)
    replace KK := hide (block_kept ba (unhide KK))
    replace BB := hide (below_next (unhide BB) ba)
    replace RO := hide ((unhide RO).below ba)
    have K5 := hide (heap_alloc_new W191 (.cells #[.int .u8 0, .int .u8 1, .int .u8 1] 5))
    have Z5 := hide (show w.heap.size ≤ W191.heap.size from ZB)
    have N5 := hide (show (v192).ownBlock ≠ some W191.heap.size from fun q => by have := (unhide RL _ q); omega)
    clear ba
    refine (unhide HK).out _ _ (block_one (unhide KK)) (fun hHeld => ?_)
    clear HK K
    simp only [Act.put, List.setIfInBounds_toArray, List.set_cons_zero, List.set_cons_succ]
    generalize W191.alloc (.cells #[.int .u8 0, .int .u8 1, .int .u8 1] 5) = W193 at *
    clear ZB
    have ZB := (unhide BB).size
    replace RL := hide (fun q e => ((unhide RO).lt q e).2)
    refine wpAnyH_ready (rs := [5]) (by kernel_rfl) (by simp) (AllReadyH.cons (ops_drop rfl) (fun K hK => ?_) AllReadyH.nil)
    have HK := hide hK
    clear hK hHeld
    go_simp
    refine (l2put_own (B := W193.heap.size) (vb := .slice none 0 0) (l := []) (World.ownsRow_nil _ _ _ _) (Nat.le_refl _) (by simp) ((unhide HH).below (unhide BB)).at (unhide HN6) (unhide HN15) (unhide HWS)).mono ?_
    rintro e W194 ⟨v195, rfl, o2, b2⟩
    replace KK := hide (block_kept b2 (unhide KK))
    replace BB := hide (below_next (unhide BB) b2)
    replace RO := hide ((unhide RO).below b2)
    replace K5 := hide (block_kept b2 (unhide K5))
    have SO := hide (show Own W193.heap.size 5 W194 v195 (wire n) from o2)
    clear o2 b2
    go_simp
    refine (unhide HK).out _ _ (block_one (unhide KK)) (fun hHeld => ?_)
    clear HK K
    simp only [Act.put, List.setIfInBounds_toArray, List.set_cons_zero, List.set_cons_succ]
    clear ZB
    have ZB := (unhide BB).size
    replace RL := hide (fun q e => ((unhide RO).lt q e).2)
    refine wpAnyH_ready (rs := [6]) (by kernel_rfl) (by simp) (AllReadyH.cons (ops_drop rfl) (fun K hK => ?_) AllReadyH.nil)
    have HK := hide hK
    clear hK hHeld
    refine step_append_where rfl (.tmp 8) (.tmp 10) 22 5 rfl Tryd.underlying22 info_u8 w.heap.size v192 v195 l (wire n) rfl rfl (unhide RO) (unhide SO).reads (by have := unhide HWL; omega) ZB ?_
    intro v211 W210 o2 g2 h2
    replace KK := hide (block_grown g2 (unhide KK) (Own.apart (unhide RO) (unhide KK) (by decide)))
    have zg := g2.size
    replace BB := hide ((unhide BB).grown g2 ZB (fun k hk => ((unhide RO).lt k hk).1))
    have L5b := block_lt (unhide K5)
    replace K5 := hide (block_grown g2 (unhide K5) (unhide N5))
    replace N5 := hide (show v211.ownBlock ≠ some W191.heap.size from fun q => by rcases h2 with h2 | h2; (· exact unhide N5 (h2 ▸ q)); rw [h2] at q; simp at q; omega)
    clear L5b
    replace RO := hide o2
    clear o2 g2 h2 zg
    clear SO
    refine (unhide HK).out _ _ (block_one (unhide KK)) (fun hHeld => ?_)
    clear HK K
    simp only [Act.put, List.setIfInBounds_toArray, List.set_cons_zero, List.set_cons_succ]
    clear ZB
    have ZB := (unhide BB).size
    replace RL := hide (fun q e => ((unhide RO).lt q e).2)
    refine wpAnyH_ready (rs := [7]) (by kernel_rfl) (by simp) (AllReadyH.cons (ops_drop rfl) (fun K hK => ?_) AllReadyH.nil)
    have HK := hide hK
    clear hK hHeld
    go_simp
    refine (l7sum_any (unhide RO) (unhide HLN) (unhide HB8)).mono ?_
    rintro e W218 ⟨v219, rfl, o2, b2⟩
    replace KK := hide (block_kept b2 (unhide KK))
    replace BB := hide (below_next (unhide BB) b2)
    replace RO := hide ((unhide RO).below b2)
    replace K5 := hide (block_kept b2 (unhide K5))
    have SO := hide o2
    clear o2 b2
    go_simp
    refine (unhide HK).out _ _ (block_one (unhide KK)) (fun hHeld => ?_)
    clear HK K
    simp only [Act.put, List.setIfInBounds_toArray, List.set_cons_zero, List.set_cons_succ]
    clear ZB
    have ZB := (unhide BB).size
    replace RL := hide (fun q e => ((unhide RO).lt q e).2)
    refine wpAnyH_ready (rs := [8]) (by kernel_rfl) (by simp) (AllReadyH.cons (ops_drop rfl) (fun K hK => ?_) AllReadyH.nil)
    have HK := hide hK
    clear hK hHeld
    refine step_append_where rfl (.tmp 5) (.tmp 12) 22 5 rfl Tryd.underlying22 info_u8 w.heap.size (.slice (some ⟨W191.heap.size, 0, none⟩) 3 3) v219 [0, 1, 1] (shaOf (l ++ wire n)) rfl rfl (own_three (unhide K5) (unhide Z5)) (unhide SO).reads (by rw [shaOf_length]; simp) ZB ?_
    intro v223 W222 o2 g2 h2
    have b2 := (unhide BB).grown g2 ZB (fun k hk => ((own_three (unhide K5) (unhide Z5)).lt k hk).1)
    have KK2 := hide (block_grown g2 (unhide KK) (Own.apart (own_three (unhide K5) (unhide Z5)) (unhide KK) (by decide)))
    have O2 := hide o2
    have B2 := hide b2
    clear o2 g2 h2 b2 KK BB K5 SO RO RL N5
    refine (unhide HK).out _ _ (block_one (unhide KK2)) (fun hHeld => ?_)
    clear HK K
    simp only [Act.put, List.setIfInBounds_toArray, List.set_cons_zero, List.set_cons_succ]
    refine tkI 9 ?_ rfl (by kernel_rfl) (by kernel_rfl) (fun _ _ _ h => h) ?_ hHeld ?_; rotate_left; (· (intro w hSw; (try dsimp only at hSw); go_simp <;> with_reducible rfl)); simp only [Act.put, List.setIfInBounds_toArray, List.set_cons_zero, List.set_cons_succ]
    refine wpAnyH_done (by kernel_rfl) ?_ _
    clear hHeld
    go_wp2_with fail
    go_ret
    exact ⟨_, rfl, unhide O2, unhide B2⟩
   ·have HK := hide hK
    clear hK hHeld
    go_simp
    refine (l2put_own (B := W191.heap.size) (vb := .slice none 0 0) (l := []) (World.ownsRow_nil _ _ _ _) (Nat.le_refl _) (by simp) ((unhide HH).below (unhide BB)).at (unhide HN6) (unhide HN15) (unhide HWS)).mono ?_
    rintro e W224 ⟨v225, rfl, o2, b2⟩
    replace KK := hide (block_kept b2 (unhide KK))
    replace BB := hide (below_next (unhide BB) b2)
    replace RO := hide ((unhide RO).below b2)
    have SO := hide (show Own W191.heap.size 5 W224 v225 (wire n) from o2)
    clear o2 b2
    go_simp
    refine (unhide HK).out _ _ (block_one (unhide KK)) (fun hHeld => ?_)
    clear HK K
    simp only [Act.put, List.setIfInBounds_toArray, List.set_cons_zero, List.set_cons_succ]
    clear ZB
    have ZB := (unhide BB).size
    replace RL := hide (fun q e => ((unhide RO).lt q e).2)
    refine wpAnyH_ready (rs := [0, 6]) (by kernel_rfl) (by simp) (AllReadyH.cons (ops_drop rfl) (fun K hK => ?_) (AllReadyH.cons (ops_drop rfl) (fun K hK => ?_) AllReadyH.nil))
    ·have HK := hide hK
     clear hK hHeld
     go_simp
     have ba := below_alloc (w := W224) (.cells #[.int .u8 0, .int .u8 1, .int .u8 1] 5)
     replace KK := hide (block_kept ba (unhide KK))
     replace BB := hide (below_next (unhide BB) ba)
     replace RO := hide ((unhide RO).below ba)
     replace SO := hide ((unhide SO).below ba)
     have K5 := hide (heap_alloc_new W224 (.cells #[.int .u8 0, .int .u8 1, .int .u8 1] 5))
     have Z5 := hide (show w.heap.size ≤ W224.heap.size from ZB)
     have N5 := hide (show (v192).ownBlock ≠ some W224.heap.size from fun q => by have := (unhide RL _ q); omega)
     clear ba
     refine (unhide HK).out _ _ (block_one (unhide KK)) (fun hHeld => ?_)
     clear HK K
     simp only [Act.put, List.setIfInBounds_toArray, List.set_cons_zero, List.set_cons_succ]
     generalize W224.alloc (.cells #[.int .u8 0, .int .u8 1, .int .u8 1] 5) = W226 at *
     clear ZB
     have ZB := (unhide BB).size
     replace RL := hide (fun q e => ((unhide RO).lt q e).2)
     refine wpAnyH_ready (rs := [6]) (by kernel_rfl) (by simp) (AllReadyH.cons (ops_drop rfl) (fun K hK => ?_) AllReadyH.nil)
     have HK := hide hK
     clear hK hHeld
     refine step_append_where rfl (.tmp 8) (.tmp 10) 22 5 rfl Tryd.underlying22 info_u8 w.heap.size v192 v225 l (wire n) rfl rfl (unhide RO) (unhide SO).reads (by have := unhide HWL; omega) ZB ?_
     intro v228 W227 o2 g2 h2
     replace KK := hide (block_grown g2 (unhide KK) (Own.apart (unhide RO) (unhide KK) (by decide)))
     have zg := g2.size
     replace BB := hide ((unhide BB).grown g2 ZB (fun k hk => ((unhide RO).lt k hk).1))
     have L5b := block_lt (unhide K5)
     replace K5 := hide (block_grown g2 (unhide K5) (unhide N5))
     replace N5 := hide (show v228.ownBlock ≠ some W224.heap.size from fun q => by rcases h2 with h2 | h2; (· exact unhide N5 (h2 ▸ q)); rw [h2] at q; simp at q; omega)
     clear L5b
     replace RO := hide o2
     clear o2 g2 h2 zg
     clear SO
     refine (unhide HK).out _ _ (block_one (unhide KK)) (fun hHeld => ?_)
     clear HK K
     simp only [Act.put, List.setIfInBounds_toArray, List.set_cons_zero, List.set_cons_succ]
     clear ZB
     have ZB := (unhide BB).size
     replace RL := hide (fun q e => ((unhide RO).lt q e).2)
     refine wpAnyH_ready (rs := [7]) (by kernel_rfl) (by simp) (AllReadyH.cons (ops_drop rfl) (fun K hK => ?_) AllReadyH.nil)
     have HK := hide hK
     clear hK hHeld
     go_simp
     refine (l7sum_any (unhide RO) (unhide HLN) (unhide HB8)).mono ?_
     rintro e W235 ⟨v236, rfl, o2, b2⟩
     replace KK := hide (block_kept b2 (unhide KK))
     replace BB := hide (below_next (unhide BB) b2)
     replace RO := hide ((unhide RO).below b2)
     replace K5 := hide (block_kept b2 (unhide K5))
     have SO := hide o2
     clear o2 b2
     go_simp
     refine (unhide HK).out _ _ (block_one (unhide KK)) (fun hHeld => ?_)
     clear HK K
     simp only [Act.put, List.setIfInBounds_toArray, List.set_cons_zero, List.set_cons_succ]
     clear ZB
     have ZB := (unhide BB).size
     replace RL := hide (fun q e => ((unhide RO).lt q e).2)
     refine wpAnyH_ready (rs := [8]) (by kernel_rfl) (by simp) (AllReadyH.cons (ops_drop rfl) (fun K hK => ?_) AllReadyH.nil)
     have HK := hide hK
     clear hK hHeld
     refine step_append_where rfl (.tmp 5) (.tmp 12) 22 5 rfl Tryd.underlying22 info_u8 w.heap.size (.slice (some ⟨W224.heap.size, 0, none⟩) 3 3) v236 [0, 1, 1] (shaOf (l ++ wire n)) rfl rfl (own_three (unhide K5) (unhide Z5)) (unhide SO).reads (by rw [shaOf_length]; simp) ZB ?_
     intro v240 W239 o2 g2 h2
     have b2 := (unhide BB).grown g2 ZB (fun k hk => ((own_three (unhide K5) (unhide Z5)).lt k hk).1)
     have KK2 := hide (block_grown g2 (unhide KK) (Own.apart (own_three (unhide K5) (unhide Z5)) (unhide KK) (by decide)))
     have O2 := hide o2
     have B2 := hide b2
     clear o2 g2 h2 b2 KK BB K5 SO RO RL N5
     refine (unhide HK).out _ _ (block_one (unhide KK2)) (fun hHeld => ?_)
     clear HK K
     simp only [Act.put, List.setIfInBounds_toArray, List.set_cons_zero, List.set_cons_succ]
     refine tkI 9 ?_ rfl (by kernel_rfl) (by kernel_rfl) (fun _ _ _ h => h) ?_ hHeld ?_; rotate_left; (· (intro w hSw; (try dsimp only at hSw); go_simp <;> with_reducible rfl)); simp only [Act.put, List.setIfInBounds_toArray, List.set_cons_zero, List.set_cons_succ]
     refine wpAnyH_done (by kernel_rfl) ?_ _
     clear hHeld
     go_wp2_with fail
     go_ret
     exact ⟨_, rfl, unhide O2, unhide B2⟩
    ·have HK := hide hK
     clear hK hHeld
     refine step_append_where rfl (.tmp 8) (.tmp 10) 22 5 rfl Tryd.underlying22 info_u8 w.heap.size v192 v225 l (wire n) rfl rfl (unhide RO) (unhide SO).reads (by have := unhide HWL; omega) ZB ?_
     intro v242 W241 o2 g2 h2
     replace KK := hide (block_grown g2 (unhide KK) (Own.apart (unhide RO) (unhide KK) (by decide)))
     have zg := g2.size
     replace BB := hide ((unhide BB).grown g2 ZB (fun k hk => ((unhide RO).lt k hk).1))
     replace RO := hide o2
     clear o2 g2 h2 zg
     clear SO
     refine (unhide HK).out _ _ (block_one (unhide KK)) (fun hHeld => ?_)
     clear HK K
     simp only [Act.put, List.setIfInBounds_toArray, List.set_cons_zero, List.set_cons_succ]
     clear ZB
     have ZB := (unhide BB).size
     replace RL := hide (fun q e => ((unhide RO).lt q e).2)
     refine wpAnyH_ready (rs := [0, 7]) (by kernel_rfl) (by simp) (AllReadyH.cons (ops_drop rfl) (fun K hK => ?_) (AllReadyH.cons (ops_drop rfl) (fun K hK => ?_) AllReadyH.nil))
     ·have HK := hide hK
      clear hK hHeld
      go_simp
      have ba := below_alloc (w := W241) (.cells #[.int .u8 0, .int .u8 1, .int .u8 1] 5)
      replace KK := hide (block_kept ba (unhide KK))
      replace BB := hide (below_next (unhide BB) ba)
      replace RO := hide ((unhide RO).below ba)
      have K5 := hide (heap_alloc_new W241 (.cells #[.int .u8 0, .int .u8 1, .int .u8 1] 5))
      have Z5 := hide (show w.heap.size ≤ W241.heap.size from ZB)
      have N5 := hide (show (v242).ownBlock ≠ some W241.heap.size from fun q => by have := (unhide RL _ q); omega)
      clear ba
      refine (unhide HK).out _ _ (block_one (unhide KK)) (fun hHeld => ?_)
      clear HK K
      simp only [Act.put, List.setIfInBounds_toArray, List.set_cons_zero, List.set_cons_succ]
      generalize W241.alloc (.cells #[.int .u8 0, .int .u8 1, .int .u8 1] 5) = W243 at *
      clear ZB
      have ZB := (unhide BB).size
      replace RL := hide (fun q e => ((unhide RO).lt q e).2)
      refine wpAnyH_ready (rs := [7]) (by kernel_rfl) (by simp) (AllReadyH.cons (ops_drop rfl) (fun K hK => ?_) AllReadyH.nil)
      have HK := hide hK
      clear hK hHeld
      go_simp
      refine (l7sum_any (unhide RO) (unhide HLN) (unhide HB8)).mono ?_
      rintro e W244 ⟨v245, rfl, o2, b2⟩
      replace KK := hide (block_kept b2 (unhide KK))
      replace BB := hide (below_next (unhide BB) b2)
      replace RO := hide ((unhide RO).below b2)
      replace K5 := hide (block_kept b2 (unhide K5))
      have SO := hide o2
      clear o2 b2
      go_simp
      refine (unhide HK).out _ _ (block_one (unhide KK)) (fun hHeld => ?_)
      clear HK K
      simp only [Act.put, List.setIfInBounds_toArray, List.set_cons_zero, List.set_cons_succ]
      clear ZB
      have ZB := (unhide BB).size
      replace RL := hide (fun q e => ((unhide RO).lt q e).2)
      refine wpAnyH_ready (rs := [8]) (by kernel_rfl) (by simp) (AllReadyH.cons (ops_drop rfl) (fun K hK => ?_) AllReadyH.nil)
      have HK := hide hK
      clear hK hHeld
      refine step_append_where rfl (.tmp 5) (.tmp 12) 22 5 rfl Tryd.underlying22 info_u8 w.heap.size (.slice (some ⟨W241.heap.size, 0, none⟩) 3 3) v245 [0, 1, 1] (shaOf (l ++ wire n)) rfl rfl (own_three (unhide K5) (unhide Z5)) (unhide SO).reads (by rw [shaOf_length]; simp) ZB ?_
      intro v249 W248 o2 g2 h2
      have b2 := (unhide BB).grown g2 ZB (fun k hk => ((own_three (unhide K5) (unhide Z5)).lt k hk).1)
      have KK2 := hide (block_grown g2 (unhide KK) (Own.apart (own_three (unhide K5) (unhide Z5)) (unhide KK) (by decide)))
      have O2 := hide o2
      have B2 := hide b2
      clear o2 g2 h2 b2 KK BB K5 SO RO RL N5
      refine (unhide HK).out _ _ (block_one (unhide KK2)) (fun hHeld => ?_)
      clear HK K
      simp only [Act.put, List.setIfInBounds_toArray, List.set_cons_zero, List.set_cons_succ]
      refine tkI 9 ?_ rfl (by kernel_rfl) (by kernel_rfl) (fun _ _ _ h => h) ?_ hHeld ?_; rotate_left; (· (intro w hSw; (try dsimp only at hSw); go_simp <;> with_reducible rfl)); simp only [Act.put, List.setIfInBounds_toArray, List.set_cons_zero, List.set_cons_succ]
      refine wpAnyH_done (by kernel_rfl) ?_ _
      clear hHeld
      go_wp2_with fail
      go_ret
      exact ⟨_, rfl, unhide O2, unhide B2⟩
     ·have HK := hide hK
      clear hK hHeld
      go_simp
      refine (l7sum_any (unhide RO) (unhide HLN) (unhide HB8)).mono ?_
      rintro e W250 ⟨v251, rfl, o2, b2⟩
      replace KK := hide (block_kept b2 (unhide KK))
      replace BB := hide (below_next (unhide BB) b2)
      replace RO := hide ((unhide RO).below b2)
      have SO := hide o2
      clear o2 b2
      go_simp
      refine (unhide HK).out _ _ (block_one (unhide KK)) (fun hHeld => ?_)
      clear HK K
      simp only [Act.put, List.setIfInBounds_toArray, List.set_cons_zero, List.set_cons_succ]
      clear ZB
      have ZB := (unhide BB).size
      replace RL := hide (fun q e => ((unhide RO).lt q e).2)
      refine wpAnyH_ready (rs := [0]) (by kernel_rfl) (by simp) (AllReadyH.cons (ops_drop rfl) (fun K hK => ?_) AllReadyH.nil)
      have HK := hide hK
      clear hK hHeld
      go_simp
      have ba := below_alloc (w := W250) (.cells #[.int .u8 0, .int .u8 1, .int .u8 1] 5)
      replace KK := hide (block_kept ba (unhide KK))
      replace BB := hide (below_next (unhide BB) ba)
      replace RO := hide ((unhide RO).below ba)
      replace SO := hide ((unhide SO).below ba)
      have K5 := hide (heap_alloc_new W250 (.cells #[.int .u8 0, .int .u8 1, .int .u8 1] 5))
      have Z5 := hide (show w.heap.size ≤ W250.heap.size from ZB)
      have N5 := hide (show (v242).ownBlock ≠ some W250.heap.size from fun q => by have := (unhide RL _ q); omega)
      clear ba
      refine (unhide HK).out _ _ (block_one (unhide KK)) (fun hHeld => ?_)
      clear HK K
      simp only [Act.put, List.setIfInBounds_toArray, List.set_cons_zero, List.set_cons_succ]
      generalize W250.alloc (.cells #[.int .u8 0, .int .u8 1, .int .u8 1] 5) = W252 at *
      clear ZB
      have ZB := (unhide BB).size
      replace RL := hide (fun q e => ((unhide RO).lt q e).2)
      refine wpAnyH_ready (rs := [8]) (by kernel_rfl) (by simp) (AllReadyH.cons (ops_drop rfl) (fun K hK => ?_) AllReadyH.nil)
      have HK := hide hK
      clear hK hHeld
      refine step_append_where rfl (.tmp 5) (.tmp 12) 22 5 rfl Tryd.underlying22 info_u8 w.heap.size (.slice (some ⟨W250.heap.size, 0, none⟩) 3 3) v251 [0, 1, 1] (shaOf (l ++ wire n)) rfl rfl (own_three (unhide K5) (unhide Z5)) (unhide SO).reads (by rw [shaOf_length]; simp) ZB ?_
      intro v256 W255 o2 g2 h2
      have b2 := (unhide BB).grown g2 ZB (fun k hk => ((own_three (unhide K5) (unhide Z5)).lt k hk).1)
      have KK2 := hide (block_grown g2 (unhide KK) (Own.apart (own_three (unhide K5) (unhide Z5)) (unhide KK) (by decide)))
      have O2 := hide o2
      have B2 := hide b2
      clear o2 g2 h2 b2 KK BB K5 SO RO RL N5
      refine (unhide HK).out _ _ (block_one (unhide KK2)) (fun hHeld => ?_)
      clear HK K
      simp only [Act.put, List.setIfInBounds_toArray, List.set_cons_zero, List.set_cons_succ]
      refine tkI 9 ?_ rfl (by kernel_rfl) (by kernel_rfl) (fun _ _ _ h => h) ?_ hHeld ?_; rotate_left; (· (intro w hSw; (try dsimp only at hSw); go_simp <;> with_reducible rfl)); simp only [Act.put, List.setIfInBounds_toArray, List.set_cons_zero, List.set_cons_succ]
      refine wpAnyH_done (by kernel_rfl) ?_ _
      clear hHeld
      go_wp2_with fail
      go_ret
      exact ⟨_, rfl, unhide O2, unhide B2⟩
set_option maxHeartbeats 400000 in
set_option maxRecDepth 100000 in
theorem l7client_has {v : Value} {l : List Int} {w : World} (h : Has w v l) (hl : l.length ≤ 1048576) :
  Calls Tryd.prog 68 #[v] w fun e w' => e = .returned (.bool (clientOk l)) ∧ Below w.heap.size w w' := by
 obtain ⟨a, cap, rfl, _⟩ := h.form
 clear h
 unfold clientOk
 generalize l.length = n at *
 by_cases h1 : 1 ≤ n
 ·have e1 : (1 : Int) ≤ n := by omega
  by_cases h2 : n ≤ 16
  ·have e2 : (n : Int) ≤ 16 := by omega
   rw [decide_eq_true h1, decide_eq_true h2]
   clear h1 h2
   go_enter Tryd.func68, Tryd.ntmps68
   go_wp2
   go_ret
   exact ⟨rfl, Below.refl _ _⟩
  ·have e2 : ¬ (n : Int) ≤ 16 := by omega
   rw [decide_eq_true h1, decide_eq_false h2]
   clear h1 h2
   go_enter Tryd.func68, Tryd.ntmps68
   go_wp2
   go_ret
   exact ⟨rfl, Below.refl _ _⟩
 ·have e1 : ¬ (1 : Int) ≤ n := by omega
  rw [decide_eq_false h1, Bool.false_and]
  clear h1
  go_enter Tryd.func68, Tryd.ntmps68
  go_wp2
  go_ret
  exact ⟨rfl, Below.refl _ _⟩

set_option maxHeartbeats 1000000 in
set_option maxRecDepth 100000 in
theorem specDhcid_has {vb v : Value} {l : List Int} {n : List (List Int)} {w : World} (hvb : Has w vb l) (hl : l.length ≤ 1048576) (h8 : Bytes8 l) (h : HasL w v n) :
  Calls Tryd.prog 32 #[vb, .agg #[v]] w fun e w' => ∃ v', e = .returned (.tuple #[v', .bool (clientOk l && nameOk n)]) ∧ Own w.heap.size 5 w' v' (dhcidOf l n) ∧ Below w.heap.size w w' := by
 obtain ⟨a, cap, rfl, hcl, hm⟩ := h.form
 obtain ⟨ba, bc, rfl, _⟩ := hvb.form
 have b0 := below_alloc (w := w) (.cells #[.slice a n.length cap] 26)
 have k0 := hide (heap_alloc_new w (.cells #[.slice a n.length cap] 26))
 have H0 := hide (h.below b0)
 have V0 := hide (hvb.below b0)
 have HH := hide h
 have HV := hide hvb
 clear h hvb
 cases hc : clientOk l with
 | false =>
  have HC := hide hc
  rw [show dhcidOf l n = [] by unfold dhcidOf; rw [hc]; rfl, Bool.false_and]
  clear hc
  go_enter Tryd.func32, Tryd.ntmps32
  go_wp2_with fail
  generalize w.alloc (.cells #[.slice a n.length cap] 26) = W0 at *
  refine (l7client_has (unhide V0) hl).mono ?_
  rw [unhide HC]
  rintro e w1 ⟨rfl, b1⟩
  have bb1 := below_next b0 b1
  clear b0 k0 H0 b1
  go_wp2_with fail
  go_ret2
  exact ⟨_, rfl, World.ownsRow_nil _ _ _ _, bb1⟩
 | true =>
  have HC := hide hc
  cases hok : nameOk n with
  | false =>
   have HOK := hide hok
   rw [show dhcidOf l n = [] by unfold dhcidOf; rw [hc, hok]; rfl, Bool.true_and]
   clear hc hok
   go_enter Tryd.func32, Tryd.ntmps32
   go_wp2_with fail
   generalize w.alloc (.cells #[.slice a n.length cap] 26) = W0 at *
   refine (l7client_has (unhide V0) hl).mono ?_
   rw [unhide HC]
   rintro e w1 ⟨rfl, b1⟩
   have bb1 := below_next b0 b1
   replace H0 := hide ((unhide H0).below b1)
   have c1 := block_one (block_kept b1 (unhide k0))
   clear b0 k0 b1
   go_wp2_with fail
   refine (specNameOk_has (unhide H0)).mono ?_
   rw [unhide HOK]
   rintro e w2 ⟨rfl, b2⟩
   have bb2 := below_next bb1 b2
   clear c1 bb1 b2
   go_wp2_with fail
   go_ret2
   exact ⟨_, rfl, World.ownsRow_nil _ _ _ _, bb2⟩
  | true =>
   have HOK := hide hok
   have H8 := hide h8
   have HL16 := hide (show l.length ≤ 16 by unfold clientOk at hc; simp at hc; exact hc.2)
   have HD := hide (show dhcidOf l n = [0, 1, 1] ++ shaOf (l ++ wire n) by unfold dhcidOf; rw [hc, hok]; rfl)
   rw [Bool.true_and]
   clear hc hok h8
   go_enter Tryd.func32, Tryd.ntmps32
   go_wp2_with fail
   generalize w.alloc (.cells #[.slice a n.length cap] 26) = W0 at *
   refine (l7client_has (unhide V0) hl).mono ?_
   rw [unhide HC]
   rintro e w1 ⟨rfl, b1⟩
   have bb1 := below_next b0 b1
   replace H0 := hide ((unhide H0).below b1)
   replace V0 := hide ((unhide V0).below b1)
   replace k0 := hide (block_kept b1 (unhide k0))
   have c1 := block_one (unhide k0)
   clear b0 b1
   go_wp2_with fail
   refine (specNameOk_has (unhide H0)).mono ?_
   rw [unhide HOK]
   rintro e w2 ⟨rfl, b2⟩
   have bb2 := below_next bb1 b2
   replace H0 := hide ((unhide H0).below b2)
   replace V0 := hide ((unhide V0).below b2)
   replace k0 := hide (block_kept b2 (unhide k0))
   clear c1 bb1 b2
   have c1 := block_one (unhide k0)
   go_wp2_with fail
   refine (l7dhcid_own (unhide V0) (unhide HL16) (unhide H8) (unhide H0) (unhide HOK)).mono ?_
   rintro e w3 ⟨v3, rfl, o3, b3⟩
   have bb3 := below_next bb2 b3
   clear c1 b3
   rw [← unhide HD] at o3
   go_wp2_with fail
   go_ret2
   exact ⟨_, rfl, o3.mono bb2.size, bb3⟩
end Go.Proofs.YtkmjghecjlgjpaaDoor
