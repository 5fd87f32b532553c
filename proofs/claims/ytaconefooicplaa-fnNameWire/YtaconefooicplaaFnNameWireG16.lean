/-
  Plain facts: where an append to an own row of bytes leaves it: in its block, or in a new one. No program is named here. Contract of the specification's l2put where the name lies behind the row that is written on.
-/
import Derived.Test.YtaconefooicplaaFnNameWireG08
import Derived.Test.YtaconefooicplaaFnNameWireG09
import Derived.Test.YtaconefooicplaaFnNameWireG06
import Derived.Deep.RegionHeld3
import Derived.Test.YtaconefooicplaaFnNameWireG07
namespace Go.Proofs.Ytaconefooicplaa
open Go.RowKit

section
variable {P : Program} {w : World}

theorem where_bytes {t ty e : TypeId} (ht : P.underlying t = some (.slice e)) (hinfo : (P.info? e).map (fun i => (i.zero, i.size, i.bytes)) = some (some (.int .u8 0), 1, 1))
    {base : Nat} {v vx : Value} {l m : List Int} (hown : Own base e w v l) (hr : Reads w vx m) (hlen : l.length + m.length ≤ 1099511627776) (hbase : base ≤ w.heap.size) {v' : Value} {w' : World}
    (hrun : (Builtin.append_ #[t, t] ty #[v, vx]).run P w = .ok v' w') : v'.ownBlock = v.ownBlock ∨ v'.ownBlock = some w.heap.size := by
  obtain ⟨i0, hi, hz0, hz1, hz2⟩ := info_parts hinfo
  rcases hr with ⟨rfl, rfl⟩ | ⟨ad, cap, rfl, hc⟩
  · rw [run_append_owned_none w base t ty e i0 1 ht hi v l.length (l.map (Value.int .u8)) hown] at hrun
    simp only [Result.ok.injEq] at hrun
    left; rw [hrun.1]
  · obtain ⟨v2, w2, h1, _, _, h4⟩ := run_append_own (P := P) w base t ty e i0 (.int .u8 0) 1 1 ht hi hz0 hz1 hz2 rfl (by decide) v l.length (l.map (Value.int .u8)) hown ad m.length cap (m.map (Value.int .u8)) (by simp) (news_of hc) (one_of m) (by unfold maxLen; omega) (by omega) hbase
    rcases hown.2 with ⟨rfl, h0⟩ | ⟨g, cp, cur, rfl, hbg, hg, hnc, hcm, hcs, htake⟩
    · by_cases hm : m.length = 0
      · rw [h1] at hrun
        simp only [Result.ok.injEq] at hrun
        have := h4.2 ⟨rfl, hm⟩
        rw [← hrun.1, this]
        exact .inl rfl
      · rw [run_append_nil (P := P) w t ty e i0 (.int .u8 0) ht hi hz0 ad m.length cap (m.map (Value.int .u8)) (by simp [hz1]) (news_of hc) (by omega) (by omega) (by rw [hz2]; omega)] at hrun
        simp only [Result.ok.injEq] at hrun
        right; rw [← hrun.1]; rfl
    · by_cases hroom : l.length + m.length ≤ cp
      · rw [run_append_room (P := P) w t ty e i0 ht hi g l.length cp cur hg ad m.length cap (m.map (Value.int .u8)) (by simp [hz1]) (news_of hc) (one_of m) hroom (by rw [hz1]; simp; omega)] at hrun
        simp only [Result.ok.injEq] at hrun
        left; rw [← hrun.1]; rfl
      · have holds : ∀ j u, (l.map (Value.int .u8))[j]? = some u → w.cell? ((⟨g, 0, none⟩ : Addr).add j) = some u := World.ownsRow.cells hown (g := g) rfl
        rw [run_append_grow (P := P) w t ty e i0 (.int .u8 0) ht hi hz0 ⟨g, 0, none⟩ l.length cp (l.map (Value.int .u8)) (by simp [hz1]) holds ad m.length cap (m.map (Value.int .u8)) (by simp [hz1]) (news_of hc) (by omega) (by omega) (growslice_fits (by omega) (by rw [hz2]; omega))] at hrun
        simp only [Result.ok.injEq] at hrun
        right; rw [← hrun.1]; rfl

/-- 'append(s, x...)' of bytes, as a step of a region, and where it leaves the row. -/
theorem step_append_where {ops : Array Oper} {o : Oper} {a : Act} {K : Act → World → Prop} {Q : Exit → Act → World → Prop} {E : Prop} (hgd : o.guard = none) (s x : Operand) (t e : TypeId)
    (ho : o.op = .call { callee := .builtin .append, args := #[s, x], argTypes := #[t, t] }) (ht : P.underlying t = some (.slice e))
    (hinfo : (P.info? e).map (fun i => (i.zero, i.size, i.bytes)) = some (some (.int .u8 0), 1, 1))
    (base : Nat) (v vx : Value) (l m : List Int) (hs : a.eval s = v) (hx : a.eval x = vx) (hown : Own base e w v l) (hr : Reads w vx m) (hlen : l.length + m.length ≤ 1099511627776) (hbase : base ≤ w.heap.size)
    (h : ∀ v' w', Own base e w' v' (l ++ m) → w.grownBy w' v.ownBlock → (v'.ownBlock = v.ownBlock ∨ v'.ownBlock = some w.heap.size) → K (a.put o.dst v') w') : if Region.wanted o (yielded ops a.tmps) = true then Oper.wp P o a w K Q else E := by
  have hw : Region.wanted o (yielded ops a.tmps) = true := by simp [Region.wanted, hgd]
  rw [if_pos hw]
  obtain ⟨v', w', hr', h2, h3⟩ := run_append_bytes (P := P) t o.type e ht hinfo base v vx l m hown hr hlen hbase
  have h4 := where_bytes ht hinfo hown hr hlen hbase hr'
  unfold Oper.wp execOp
  simp only [ho, resolve, invoke, builtin, Sem.run_bind, Sem.run_pure, Result.andThen_ok, List.map_toArray, List.map_cons, List.map_nil, hs, hx, hr']
  exact h v' w' h2 h3 h4
/-- The same where no order is drawn. -/
theorem append_where {ops : Array Oper} {rest : List Oper} {o : Oper} {a : Act} {Q : Exit → Act → World → Prop} (hgd : o.guard = none) (s x : Operand) (t e : TypeId)
    (ho : o.op = .call { callee := .builtin .append, args := #[s, x], argTypes := #[t, t] }) (ht : P.underlying t = some (.slice e))
    (hinfo : (P.info? e).map (fun i => (i.zero, i.size, i.bytes)) = some (some (.int .u8 0), 1, 1))
    (base : Nat) (v vx : Value) (l m : List Int) (hs : a.eval s = v) (hx : a.eval x = vx) (hown : Own base e w v l) (hr : Reads w vx m) (hlen : l.length + m.length ≤ 1099511627776) (hbase : base ≤ w.heap.size)
    (h : ∀ v' w', Own base e w' v' (l ++ m) → w.grownBy w' v.ownBlock → (v'.ownBlock = v.ownBlock ∨ v'.ownBlock = some w.heap.size) → wpList P ops Q rest (a.put o.dst v') w') : wpList P ops Q (o :: rest) a w := by
  refine wpList_plain hgd fun _ hK => ?_
  obtain ⟨v', w', hr', h2, h3⟩ := run_append_bytes (P := P) t o.type e ht hinfo base v vx l m hown hr hlen hbase
  have h4 := where_bytes ht hinfo hown hr hlen hbase hr'
  unfold Oper.wp execOp
  simp only [ho, resolve, invoke, builtin, Sem.run_bind, Sem.run_pure, Result.andThen_ok, List.map_toArray, List.map_cons, List.map_nil, hs, hx, hr']
  exact hK _ _ (h v' w' h2 h3 h4)
end

/-- Of the blocks that lay in w none has turned but the row of v; what v' owns is that row, or new. -/
structure Moved (w w' : World) (v v' : Value) : Prop where
  kept : w.grownBy w' v.ownBlock
  own : v'.ownBlock = v.ownBlock ∨ ∀ q, v'.ownBlock = some q → w.heap.size ≤ q
theorem Moved.refl (w : World) (v : Value) : Moved w w v v := ⟨⟨rfl, rfl, rfl, Nat.le_refl _, fun _ _ _ => rfl⟩, .inl rfl⟩
theorem Moved.step {w a b : World} {v u u' : Value} (h : Moved w a v u) (g : a.grownBy b u.ownBlock) (hw : u'.ownBlock = u.ownBlock ∨ u'.ownBlock = some a.heap.size) : Moved w b v u' := by
  refine ⟨⟨g.os.trans h.kept.os, g.tape.trans h.kept.tape, g.output.trans h.kept.output, Nat.le_trans h.kept.size g.size, fun k hk hne => ?_⟩, ?_⟩
  · refine (g.block k (Nat.lt_of_lt_of_le hk h.kept.size) (fun e => ?_)).trans (h.kept.block k hk hne)
    rcases h.own with h1 | h1
    · rw [h1] at e; exact hne e
    · have := h1 k e.symm; omega
  · rcases hw with hw | hw
    · rw [hw]; exact h.own
    · right
      intro q hq
      rw [hw] at hq
      have := h.kept.size
      simp at hq
      omega
theorem Moved.below {w a b : World} {v u : Value} (h : Moved w a v u) (hb : Below a.heap.size a b) : Moved w b v u :=
  ⟨⟨hb.os.trans h.kept.os, hb.tape.trans h.kept.tape, hb.output.trans h.kept.output, Nat.le_trans h.kept.size hb.size, fun k hk hne => (hb.block k (Nat.lt_of_lt_of_le hk h.kept.size)).trans (h.kept.block k hk hne)⟩, h.own⟩
end Go.Proofs.Ytaconefooicplaa

namespace Go.Proofs.Ytaconefooicplaa
open Go.RowKit
set_option linter.unusedVariables false

theorem OwnN.elem {E S m cap : Nat} {el eb : TypeId} {w : World} {a : Option Addr} {n : List (List Int)} (h : OwnN E S el eb w (.slice a m cap) n) {k : Nat} (hk : k < n.length) :
    ∃ b u, a = some ⟨b, 0, none⟩ ∧ E ≤ b ∧ b < w.heap.size ∧ w.cell? ⟨b, k, none⟩ = some u ∧ OwnB E S eb w u (n.getD k []) := by
  obtain ⟨vs, ho, hu, hd, hv, he⟩ := h
  obtain ⟨u, h1, h2⟩ := hu k hk
  have ho' := ho
  rcases ho.2 with ⟨_, hn⟩ | ⟨g, c, cur, hv', hB, hg, _⟩
  · omega
  · simp only [Value.slice.injEq] at hv'
    obtain ⟨rfl, rfl, rfl⟩ := hv'
    refine ⟨g, u, rfl, hB, block_lt hg, ?_, h2, fun q hq => he k u q h1 hq⟩
    rw [World.ownsRow.cellAt ho' k (by omega), h1]
theorem far_kept {E S b k q : Nat} {e : TypeId} {w1 W : World} {vb u x : Value} {lab : List Int} {ob : Obj} (hu : OwnB E S e w1 u lab) (hc : w1.cell? ⟨b, k, none⟩ = some x) (hbE : E ≤ b) (hbl : b < w1.heap.size) (hk : w1.heap[q]? = some ob) (hq : vb.ownBlock ≠ some q)
    (hv : ∀ p, vb.ownBlock = some p → p < E) (g : w1.grownBy W vb.ownBlock) : W.heap[q]? = some ob ∧ W.cell? ⟨b, k, none⟩ = some x ∧ Has W u lab := by
  refine ⟨block_grown g hk hq, ?_, ?_⟩
  · rw [World.cell?_of_block (w := w1) (g.block b hbl (fun e => by have := hv b e.symm; omega))]
    exact hc
  · have u' : Outside 0 E w1 W := outside_grown g (fun p hp => ⟨Nat.zero_le _, hv p hp⟩)
    exact (hu.outside u' (.inr (Nat.le_refl _))).has

set_option maxHeartbeats 2000000 in
set_option maxRecDepth 100000 in
theorem l2put_moved {B E S : Nat} {vb v : Value} {l : List Int} {n : List (List Int)} {w : World} (hvb : Own B 5 w vb l) (hB : B ≤ w.heap.size) (hl : l.length ≤ 1099511620000) (hv : ∀ p, vb.ownBlock = some p → p < E) (h : OwnN E S 22 5 w v n) (h6 : n.length ≤ 6) (hlen : ∀ k, k < n.length → (n.getD k []).length ≤ 15) (hdl : ∀ k, (wires n k).length ≤ 16 * k) :
    Calls Try.prog 59 #[vb, .agg #[v]] w fun e w' => ∃ v', e = .returned v' ∧ Own B 5 w' v' (l ++ wire n) ∧ Moved w w' vb v' := by
  obtain ⟨a, cap, rfl, hcl, hm⟩ := h.hasL.form
  unfold maxLen at hm
  have HDS := hide (wires_succ n)
  have HD0 := hide (wires_zero n)
  have HLEN := hide hlen
  have HDL := hide hdl
  clear hdl hlen
  unfold wire
  generalize wires n = D at *
  have b0 := below_alloc (w := w) (.cells #[.slice a n.length cap] 25)
  have k0 := heap_alloc_new w (.cells #[.slice a n.length cap] 25)
  have h0 := hide (h.below b0)
  have v0 := hide (hvb.alloc (.cells #[.slice a n.length cap] 25))
  have hq : vb.ownBlock ≠ some w.heap.size := fun e => by have := (hvb.lt _ e).2; omega
  have M0 := hide ((Moved.refl w vb).below b0)
  have M1 := hide (Moved.refl (w.alloc (.cells #[.slice a n.length cap] 25)) vb)
  clear h hvb
  have z0 := block_lt k0
  generalize hn : n.length = m at *
  have HN := hide hn
  clear hn
  go_enter Try.func59, Try.ntmps59
  go_wp2
  generalize w.alloc (.cells #[.slice a m cap] 25) = w1 at *
  go_loopw [0, 5] (fun o i wr => ∃ k : Nat, k ≤ m ∧ i = .int .i64 k ∧ Own B 5 wr o (l ++ D k) ∧ Moved w1 wr vb o) (fun _ i _ => m - (intOf i).toNat)
  case atStart => exact ⟨0, Nat.zero_le _, rfl, by rw [unhide HD0, List.append_nil]; exact unhide v0, unhide M1⟩
  case round =>
    obtain ⟨k, hk, rfl, ho, hM⟩ := hrel
    have hk1 := block_grown hM.kept k0 hq
    have c1 := block_one hk1
    have zb : B ≤ wr.heap.size := by have := hM.kept.size; omega
    have hdk := unhide HDL k
    have hdk2 : (l ++ D k).length ≤ 1099511620000 + 96 := by rw [List.length_append]; omega
    by_cases hlt : k < m
    · obtain ⟨b, u, rfl, hbE, hbl, hc, hu⟩ := (unhide h0).elem (k := k) (by rw [unhide HN]; exact hlt)
      have hds := hide (unhide HDS k hlt)
      have hlk := unhide HLEN k hlt
      generalize n.getD k [] = lab at *
      obtain ⟨ua, uc, rfl, _⟩ := hu.has.form
      have FK := fun (W : World) (g : w1.grownBy W vb.ownBlock) => far_kept hu hc hbE hbl k0 hq hv g
      have SF := hide (fun (W : World) (g : w1.grownBy W vb.ownBlock) => (⟨block_one (FK W g).1, (FK W g).2.1⟩ : W.cell? ⟨w.heap.size, 0, none⟩ = some (.slice (some ⟨b, 0, none⟩) m cap) ∧ W.cell? ⟨b, k, none⟩ = some (.slice ua lab.length uc)))
      have HF := hide (fun (W : World) (g : w1.grownBy W vb.ownBlock) => (FK W g).2.2)
      have hwrap := wrap_u8 lab.length (by omega)
      have hod := hide (ho.below (below_drew (w := wr)))
      have MD := hide (hM.below (below_drew (w := wr)))
      have MA := hide (show ∀ o, Moved w1 (wr.drew.alloc o) vb u0 from fun o => (unhide MD).below (below_alloc o))
      have ZAL := hide (show ∀ o, B ≤ (wr.drew.alloc o).heap.size from fun o => Nat.le_trans zb (below_alloc (w := wr.drew) o).size)
      have hkm : (k : Int) < m := by omega
      clear ho hc hu FK hk1
      go_wp2_with fail
      clear c1
      go_region_held3 (fun w' => w'.cell? ⟨w.heap.size, 0, none⟩ = some (.slice (some ⟨b, 0, none⟩) m cap) ∧ w'.cell? ⟨b, k, none⟩ = some (.slice ua lab.length uc))
        (first | exact unhide SF _ (unhide MD).kept | exact unhide SF _ (unhide MA _).kept | exact unhide SF _ M2.kept | exact unhide SF _ M3.kept)
        (first
        | (refine step_append_where rfl (.tmp 13) (.tmp 21) 22 5 rfl Try.underlying22 info_u8 B _ _ (l ++ D k) [(lab.length : Int)] (by simp [Act.eval]) (by simp [Act.eval]) ((unhide hod).alloc _) (own_lit wr.drew 0 5 [(lab.length : Int)] (Nat.zero_le _) (by simp [maxLen])).reads (by simp only [List.length_cons, List.length_nil]; omega) (unhide ZAL _) ?_; intro v2 w2 o2 g2 e2; have M2 := (unhide MA _).step g2 e2; have z2 : B ≤ w2.heap.size := Nat.le_trans (unhide ZAL _) g2.size)
        | (refine step_append_where rfl (.tmp 22) (.tmp 27) 22 5 rfl Try.underlying22 info_u8 B _ _ ((l ++ D k) ++ [(lab.length : Int)]) lab (by simp [Act.eval]) (by simp [Act.eval]) o2 (unhide HF _ M2.kept).reads (by rw [List.length_append, List.length_cons, List.length_nil]; omega) z2 ?_; intro v3 w3 o3 g3 e3; have M3 := M2.step g3 e3))
      all_goals
        go_wp2_with fail
        exact ⟨⟨k + 1, by omega, by go_num, by rw [unhide hds]; simpa only [List.append_assoc, List.singleton_append] using o3, M3⟩, by simp [intOf]; omega⟩
    · obtain rfl : k = m := by omega
      go_wp2_with (at_builtin; refine append_where rfl _ _ 22 5 rfl Try.underlying22 info_u8 B _ _ (l ++ D k) [0] rfl rfl (ho.alloc _) (own_lit wr 0 5 [0] (Nat.zero_le _) (by simp [maxLen])).reads (by simp only [List.length_cons, List.length_nil]; omega) (by simp; omega) ?_)
      intro v4 w4 o4 g4 e4
      have esz : (wr.alloc (.cells #[.int .u8 0] 5)).heap.size = wr.heap.size + 1 := by show (wr.heap.push _).size = _; simp
      rw [← esz] at e4
      have M4 := (hM.below (below_alloc (.cells #[.int .u8 0] 5))).step g4 e4
      go_wp2_with fail
      go_ret
      refine ⟨v4, rfl, by simpa only [List.append_assoc] using o4, ?_⟩
      have z := b0.size
      refine ⟨⟨M4.kept.os.trans (unhide M0).kept.os, M4.kept.tape.trans (unhide M0).kept.tape, M4.kept.output.trans (unhide M0).kept.output, Nat.le_trans z M4.kept.size, fun i hi hne => (M4.kept.block i (Nat.lt_of_lt_of_le hi z) hne).trans ((unhide M0).kept.block i hi hne)⟩, ?_⟩
      rcases M4.own with q | q
      · exact .inl q
      · exact .inr (fun p hp => Nat.le_trans z (q p hp))
end Go.Proofs.Ytaconefooicplaa
