/-
  Contracts of the specification's l2own: a name of its own with the same labels. Plain facts: an append to a literal without elements turns nothing that was there. No program is named here. Plain facts: the store of a struct of seven cells, and steps of a region whose order is open. A region that draws its order, taken in the order of its numbers: that this may be is asked once a region. What only hands flags on, or is not wanted, is done in one step. A region that draws its order, taken in an order that is given: that this may be is asked once a region.
-/
import Derived.Test.YtfneahdnpmamkaaGreatFnOwnersG15
namespace Go.Proofs.YtfneahdnpmamkaaGreat
open Go.RowKit
set_option linter.unusedVariables false

theorem Yf : (Tryz.prog.info? 22).map (fun i => (i.zero, i.size, i.bytes)) = some (some (.slice none 0 0), 1, 24) := by kernel_rfl

set_option maxHeartbeats 2000000 in
set_option maxRecDepth 100000 in
theorem Iq {v : Value} {n : List (List Int)} {w : World} (h : HasL w v n) (hs : n.length ≤ 7) (hs2 : ∀ k, k < n.length → (n.getD k []).length ≤ 16) :
  Calls Tryz.prog 65 #[.agg #[v]] w fun e w' => ∃ v', e = .returned (.agg #[v']) ∧ OwnL w.heap.size 22 5 w' v' n ∧ Below w.heap.size w w' := by
 obtain ⟨a, cap, rfl, hcl, hcm⟩ := h.form
 unfold maxLen at hcm
 obtain ⟨hsz, h1, h2⟩ := box3 w (.cells #[.slice a n.length cap] 25) #[.slice none 0 0] #[.slice none 0 0] 25 25
 have bb : Below w.heap.size w (((w.alloc (.cells #[.slice a n.length cap] 25)).alloc (.cells #[.slice none 0 0] 25)).alloc (.cells #[.slice none 0 0] 25)) :=
  ((UI _).alloc (UI _).size _).alloc ((UI _).alloc (UI _).size _).size _
 have hbx : (((w.alloc (.cells #[.slice a n.length cap] 25)).alloc (.cells #[.slice none 0 0] 25)).alloc (.cells #[.slice none 0 0] 25)).heap[w.heap.size]? = some (.cells #[.slice a n.length cap] 25) :=
  UE (UI _) (UE (UI _) (heap_alloc_new w _))
 have H := UC h
 clear h
 have HS2 := UC hs2
 clear hs2
 generalize hn : n.length = m at *
 have HN := UC hn
 clear hn
 go_enter Tryz.func65, Tryz.ntmps65
 go_wp2
 generalize ((w.alloc (.cells #[.slice a m cap] 25)).alloc (.cells #[.slice none 0 0] 25)).alloc (.cells #[.slice none 0 0] 25) = W at *
 go_loopw [4] (fun i wr => ∃ (k : Nat) (o : Value), k ≤ m ∧ i = .int .i64 k ∧ wr.heap[w.heap.size]? = some (.cells #[.slice a m cap] 25) ∧ wr.heap[w.heap.size + 1]? = some (.cells #[.slice none 0 0] 25) ∧ wr.heap[w.heap.size + 1 + 1]? = some (.cells #[o] 25) ∧ OwnL (w.heap.size + 3) 22 5 wr o (n.take k) ∧ Below w.heap.size w wr) (fun i _ => m - (intOf i).toNat)
 case atStart => exact ⟨0, .slice none 0 0, Nat.zero_le _, rfl, hbx, h1, h2, ⟨[], by simpa using World.ownsRow_nil _ _ _ _, by simp, by simp⟩, bb⟩
 case round =>
  obtain ⟨k, o, hk, rfl, hr0, hr1, hr2, ho, hb⟩ := hrel
  have c0 := US hr0
  by_cases hlt : k < m
  ·obtain ⟨b, off, u, rfl, hbl, hc, hu⟩ := ((UB H).below hb).here (k := k) (by rw [UB HN]; exact hlt)
   have hlk := UB HS2 k hlt
   have htk := UC (show n.take (k + 1) = n.take k ++ [n.getD k []] by rw [List.take_succ_eq_append_getElem (by rw [UB HN]; exact hlt)]; simp [show k < n.length by rw [UB HN]; exact hlt])
   have htl : (n.take k).length = k := by rw [List.length_take, UB HN]; omega
   generalize n.getD k [] = lab at *
   generalize n.take k = nk at *
   subst htl
   have HU := UC hu
   obtain ⟨ua, uc, rfl, _⟩ := hu.form
   clear hu
   obtain ⟨oa, oc, rfl, _⟩ := ho.hasL.form
   have hod := ho.below (UX (w := wr))
   clear ho
   have HO := UC hod
   obtain ⟨vs, hvs, hva, hvd⟩ := hod
   have hvl : vs.length = nk.length := by have := hvs.1; simpa using this
   have kd2 := UE (UX (w := wr)) hr2
   have kd1 := UE (UX (w := wr)) hr1
   have bd := UG hb (UX (w := wr))
   have cod := US kd2
   have HUd := UC ((UB HU).below UX)
   have HVS := UC hvs
   have HVA := UC hva
   have HVD := UC hvd
   have z3 := VC hr2
   have zb : w.heap.size + 3 ≤ wr.drew.heap.size := by show w.heap.size + 3 ≤ wr.heap.size; omega
   clear hva hvd hvs
   have kd0 := UE (UX (w := wr)) hr0
   have KD0 := UC kd0
   have KD2 := UC kd2
   have KD1 := UC kd1
   have cd0 := US kd0
   have cul : wr.drew.cell? ⟨b, off + nk.length, none⟩ = some (.slice ua lab.length uc) := hc
   have ca0 : ∀ o, (wr.alloc o).cell? ⟨w.heap.size, 0, none⟩ = some (.slice (some ⟨b, off, none⟩) m cap) := fun o => US (UE (UI o) hr0)
   have ca2 : ∀ o, (wr.alloc o).cell? ⟨w.heap.size + 1 + 1, 0, none⟩ = some (.slice oa nk.length oc) := fun o => US (UE (UI o) hr2)
   have cau : ∀ o, (wr.alloc o).cell? ⟨b, off + nk.length, none⟩ = some (.slice ua lab.length uc) := fun o => ((UI o).cell (p := ⟨b, off + nk.length, none⟩) hbl).trans hc
   have HUA := UC (show ∀ o, Has (wr.drew.alloc o) (.slice ua lab.length uc) lab from fun o => (UB HUd).below (UI o))
   clear kd2 kd1 kd0
   go_wp2_with fail
   go_region_law (first
    | (refine Bc rfl (.tmp 14) (.tmp 19) 22 5 rfl Tryz.underlying22 VJ wr.drew.heap.size _ _ [] lab (by simp [Act.eval]) (by simp [Act.eval]) (B4 wr.drew wr.drew.heap.size 5 [] (Nat.le_refl _) (by simp)) (UB HUA _).reads (by simp only [List.length_nil]; omega) (UI _).size ?_; intro u1 w1 ou g1; have b1 := Py (w := wr.drew) g1; obtain ⟨u1a, u1c, rfl, _⟩ := ou.lies; have OU := UC ou; have B1 := UC b1; have co1 := US (UE b1 (UB KD2)); have ca1 : ∀ o, (w1.alloc o).cell? ⟨w.heap.size + 1 + 1, 0, none⟩ = some (.slice oa nk.length oc) := (fun o => US (UE (UI o) (UE b1 (UB KD2)))); clear ou b1 g1)
    | (refine Bj rfl (.tmp 13) (.tmp 21) 23 22 rfl Tryz.underlying23 Yf (w.heap.size + 3) (.slice oa nk.length oc) _ vs [.slice u1a lab.length u1c] (by simp [Act.eval]) (by simp [Act.eval]) (by rw [hvl]; exact World.ownsRow.alloc (Ay (UB HVS) (UB B1)) _) (Cn w1 22 _) (by intro y hy; simp at hy; subst hy; rfl) (by rw [hvl]; simp; omega) (by have := (UB B1).size; simp; omega) ?_; intro v2 w2 o2 g2; obtain ⟨p2, k2, y2⟩ := Gh g2 o2 rfl (UB HVS) (UB HVA) (UB HVD) ((UB B1).alloc (UB B1).size _) ((UB OU).alloc _) zb (by decide) (UE (UI _) (UE (UB B1) (UB KD2))) (by decide); obtain ⟨v2a, v2c, rfl, _⟩ := p2.hasL.form; have co2 := US k2; have fo2 := VG k2 0))
   all_goals
    go_wp2_with fail
    have k1 := (y2.block (w.heap.size + 1) (by omega)).trans (UB KD1)
    have k0 := (y2.block w.heap.size (by omega)).trans (UB KD0)
    refine ⟨⟨nk.length + 1, _, by omega, by go_num, Dy k0 (by omega) 0 _, Dy k1 (by omega) 0 _, Av k2 _, ?_, (bd.trans (y2.mono (by omega))).setCell (by show w.heap.size ≤ w.heap.size + 1 + 1; omega) _⟩, by simp [intOf]; omega⟩
    rw [UB htk]
    simp only [List.length_append, List.length_cons, List.length_nil] at p2
    exact p2.kept (Ab _ _ _) (by show w.heap.size + 1 + 1 < _; omega)
  ·obtain rfl : k = m := by omega
   obtain ⟨oa, oc, rfl, _⟩ := ho.hasL.form
   have htk : n.take k = n := List.take_of_length_le (by rw [UB HN]; omega)
   rw [htk] at ho
   have HLK := UC (show (n.take k).length = n.length by rw [htk])
   rw [UB HLK] at hr2
   have HO := UC ho
   have c2 := US hr2
   have c1 := US hr1
   have f1 := VG hr1 0
   have M1 := UC (Av hr1 (.slice oa n.length oc))
   clear ho htk hr1 hr2 HLK
   go_wp2
   refine bodyPost_ret (results_cell_row rfl _ _ (w.heap.size + 1) 25 #[.slice oa n.length oc] (0, 0) _ rfl (UB M1) Tryz.underlying25 rfl (by kernel_rfl)) rfl ?_
   exact ⟨_, rfl, ((UB HO).kept (Ab _ _ _) (by show w.heap.size + 1 < _; omega)).mono (by omega), hb.setCell (by show w.heap.size ≤ w.heap.size + 1; omega) _⟩
end Go.Proofs.YtfneahdnpmamkaaGreat

namespace Go.Proofs.YtfneahdnpmamkaaGreat
open Go.RowKit

section
variable {P : Program} {w : World}

theorem Xd (B p : Nat) (e : TypeId) (hB : B ≤ p) (hp : w.heap[p]? = some (.cells #[] e)) : w.ownsRow B e 1 (.slice (some ⟨p, 0, none⟩) 0 0) 0 [] :=
 ⟨rfl, .inr ⟨p, 0, #[], rfl, hB, hp, Nat.le_refl _, Nat.zero_le _, rfl, rfl⟩⟩

theorem Kq (t ty e : TypeId) (z : Value) (bytes : Nat) (ht : P.underlying t = some (.slice e)) (hinfo : (P.info? e).map (fun i => (i.zero, i.size, i.bytes)) = some (some z, 1, bytes))
  (hzs : z.cells.size = 1) (hby : bytes ≤ 100) (B p : Nat) (hB : B ≤ p) (hp : w.heap[p]? = some (.cells #[] e)) (vx : Value) (us : List Value)
  (hr : (vx = .slice none 0 0 ∧ us = []) ∨ ∃ ad cap, vx = .slice (some ad) us.length cap ∧ ∀ j y, us[j]? = some y → w.cell? (ad.add j) = some y) (hu : ∀ y ∈ us, y.oneCell' = true)
  (hlen : us.length ≤ 1099511627776) :
  ∃ v' w', (Builtin.append_ #[t, t] ty #[.slice (some ⟨p, 0, none⟩) 0 0, vx]).run P w = .ok v' w' ∧ w'.ownsRow B e 1 v' us.length us ∧ Below w.heap.size w w' := by
 obtain ⟨i0, hi, hz0, hz1, hz2⟩ := info_parts hinfo
 have hown := Xd B p e hB hp
 have hpl := VC hp
 rcases hr with ⟨rfl, rfl⟩ | ⟨ad, cap, rfl, hc⟩
 ·exact ⟨_, w, run_append_owned_none w B t ty e i0 1 ht hi _ 0 [] hown, hown, Below.refl _ _⟩
 ·have hbb : us.length * bytes ≤ 1099511627776 * 100 := Nat.mul_le_mul hlen hby
  obtain ⟨v', w', h1, h2, h3, _⟩ := run_append_own (P := P) w B t ty e i0 z 1 bytes ht hi hz0 hz1 hz2 hzs (by decide) _ 0 [] hown ad us.length cap us (by simp) hc hu (by unfold maxLen; omega) (by rw [Nat.zero_add]; omega) (by omega)
  refine ⟨v', w', h1, by simpa using h2, ⟨h3.os, h3.tape, h3.output, h3.size, fun k hk => ?_⟩⟩
  by_cases e1 : k = p
  ·subst e1
   by_cases h0 : us.length = 0
   ·have hus : us = [] := List.eq_nil_of_length_eq_zero h0
    subst hus
    rw [run_append_room (P := P) w t ty e i0 ht hi k 0 0 #[] hp ad ([] : List Value).length cap [] (by simp) (by simp) (by simp) (by simp) (by simp)] at h1
    simp only [Result.ok.injEq] at h1
    rw [← h1.2, hp]
    simpa using setRow_heap w k #[] #[] e _ hp
   ·rw [run_append_grow (P := P) w t ty e i0 z ht hi hz0 ⟨k, 0, none⟩ 0 0 [] (by simp) (by simp) ad us.length cap us (by simp [hz1]) hc (by omega) (by omega) (growslice_fits (by omega) (by rw [hz2, Nat.zero_add]; omega))] at h1
    simp only [Result.ok.injEq] at h1
    rw [← h1.2]
    first | exact heap_alloc_old w.drew _ hk | exact heap_alloc_old w.drew _ _ hk
  ·exact h3.block k hk (by simp [Value.ownBlock]; omega)

end
theorem Has.readsV {w : World} {v : Value} {l : List Int} (h : Has w v l) : (v = .slice none 0 0 ∧ l.map (Value.int .u8) = []) ∨ ∃ ad cap, v = .slice (some ad) (l.map (Value.int .u8)).length cap ∧ ∀ j y, (l.map (Value.int .u8))[j]? = some y → w.cell? (ad.add j) = some y := by
 rcases h.reads with ⟨h1, h2⟩ | ⟨ad, cap, h1, h2⟩
 ·exact .inl ⟨h1, by rw [h2]; rfl⟩
 ·exact .inr ⟨ad, cap, by rw [List.length_map]; exact h1, F5 h2⟩
theorem HasI.readsV {w : World} {v : Value} {l : List Int} (h : HasI w v l) : (v = .slice none 0 0 ∧ l.map (Value.int .i64) = []) ∨ ∃ ad cap, v = .slice (some ad) (l.map (Value.int .i64)).length cap ∧ ∀ j y, (l.map (Value.int .i64))[j]? = some y → w.cell? (ad.add j) = some y := by
 rcases h with ⟨h1, h2⟩ | ⟨g, off, cap, h1, _, _, _, h2⟩
 ·exact .inl ⟨h1, by rw [h2]; rfl⟩
 ·refine .inr ⟨⟨g, off, none⟩, cap, by rw [List.length_map]; exact h1, fun j y hj => ?_⟩
  have hj2 : j < l.length := by
   have := (List.getElem?_eq_some_iff.1 hj).1
   simpa using this
  rw [Ul l j hj2] at hj
  rw [← hj, Addr.add_lit]
  exact h2 j hj2
theorem Uq (l : List Int) : ∀ u ∈ l.map (Value.int .i64), u.oneCell' = true := by
 intro u hu
 obtain ⟨x, _, rfl⟩ := List.mem_map.1 hu
 rfl
end Go.Proofs.YtfneahdnpmamkaaGreat

namespace Go.Proofs.YtfneahdnpmamkaaGreat
open Go.RowKit
set_option linter.unusedVariables false

theorem there7 {w : World} {b : Nat} {c0 c1 c2 c3 c4 c5 c6 : Value} {t : TypeId} (h : w.heap[b]? = some (.cells #[c0, c1, c2, c3, c4, c5, c6] t)) : w.there b 0 7 := by
 intro j hj
 obtain ⟨f0, f1, f2, f3, f4, f5, f6⟩ := UJ h
 rw [Nat.zero_add]
 refine ⟨?_, VG h j⟩
 match j, hj with
 | 0, _ => rw [f0]; rfl
 | 1, _ => rw [f1]; rfl
 | 2, _ => rw [f2]; rfl
 | 3, _ => rw [f3]; rfl
 | 4, _ => rw [f4]; rfl
 | 5, _ => rw [f5]; rfl
 | 6, _ => rw [f6]; rfl
theorem We {P : Program} {op : Oper} {a : Act} {w : World} {K : Act → World → Prop} {Q : Exit → Act → World → Prop} (ty : TypeId) (x y : Operand) (ho : op.op = .store ty x y)
  (b : Nat) (c0 c1 c2 c3 c4 c5 c6 : Value) {a0 a1 a2 a3 a4 a5 a6 : Value} {t : TypeId} (hx : a.eval x = .pointer (some ⟨b, 0, none⟩)) (hy : a.eval y = .agg #[c0, c1, c2, c3, c4, c5, c6])
  (hk : w.heap[b]? = some (.cells #[a0, a1, a2, a3, a4, a5, a6] t)) (hi : (P.info? ty).map (·.size) = some 7) (h1 : #[c0, c1, c2, c3, c4, c5, c6].all (·.oneCell') = true)
  (h : K (a.put op.dst undef) (((((((w.setCell ⟨b, 0, none⟩ c0).setCell ⟨b, 1, none⟩ c1).setCell ⟨b, 2, none⟩ c2).setCell ⟨b, 3, none⟩ c3).setCell ⟨b, 4, none⟩ c4).setCell ⟨b, 5, none⟩ c5).setCell ⟨b, 6, none⟩ c6)) : op.wp P a w K Q :=
 wp_store_mid ty x y ho b 0 #[c0, c1, c2, c3, c4, c5, c6] hx hy (there7 hk) hi h1 h
def Zf : Value → Option Bool
 | .bool b => some b
 | _ => none
def valF : Option Bool → Value
 | some b => .bool b
 | none => undef
def Y4 (tm : Array Value) : List (Nat × Option Bool) → Nat → Option Bool
 | [], d => match tm[d]? with | some v => Zf v | none => none
 | (e, b) :: m, d => if Nat.beq e d then b else Y4 tm m d
def Nj (tm : Array Value) (m : List (Nat × Option Bool)) (tm' : Array Value) : Prop := tm'.size = tm.size ∧ ∀ d, Y4 tm m d = match tm'[d]? with | some v => Zf v | none => none
theorem Nj.nil (tm : Array Value) : Nj tm [] tm := ⟨rfl, fun d => rfl⟩
theorem V8 (b : Option Bool) : Zf (valF b) = b := by rcases b with _ | b <;> rfl
theorem Nj.cons {tm tm' : Array Value} {m : List (Nat × Option Bool)} (h : Nj tm m tm') {d : Nat} (hd : d < tm.size) (b : Option Bool) :
  Nj tm ((d, b) :: m) (tm'.setIfInBounds d (valF b)) := by
 refine ⟨by rw [Array.size_setIfInBounds]; exact h.1, fun e => ?_⟩
 simp only [Y4]
 by_cases q : d = e
 ·subst q
  rw [if_pos (Nat.beq_refl d), Array.getElem?_setIfInBounds_self_of_lt (by rw [h.1]; exact hd)]
  exact (V8 b).symm
 ·rw [if_neg (by rw [Nat.beq_eq]; exact q), Array.getElem?_setIfInBounds_ne q]
  exact h.2 e
def Ys : Op → Bool
 | .call c => match c.callee with | .builtin _ => false | _ => true
 | _ => false
def upA (i n : Nat) : Array Bool := ((List.range n).map (fun j => decide (j < i))).toArray
theorem Jp {i n j : Nat} {d : Bool} (hj : j < n) : (upA i n).getD j d = decide (j < i) := by
 unfold upA
 simp [Array.getD_eq_getD_getElem?, hj]
theorem upA_out {i n j : Nat} {d : Bool} (hj : n ≤ j) : (upA i n).getD j d = d := by
 unfold upA
 simp [Array.getD_eq_getD_getElem?, hj]
def ascL (md : Region.Mode) (ops : Array Oper) : Nat → List Oper → Bool
 | _, [] => true
 | i, oi :: rest => oi.after.all (fun e => !Region.binds md e || Nat.blt e.on i) && (rest.all (fun oj => oj.after.any (fun e => Region.binds md e && Nat.beq e.on i) || oi.apart ops oj) && ascL md ops (i + 1) rest)
def soleL (md : Region.Mode) (i : Nat) (l : List Oper) : Bool := l.all (fun oj => oj.after.any (fun e => Region.binds md e && Nat.ble i e.on))
structure AscA (md : Region.Mode) (ops : Array Oper) : Prop where
 sel : Region.noSelect ops = true
 asc : ascL md ops 0 ops.toList = true
theorem Pq {md : Region.Mode} {ops : Array Oper} : ∀ (l : List Oper) (k i : Nat), ascL md ops k l = true → ascL md ops (k + i) (l.drop i) = true
 | l, k, 0, h => h
 | [], k, i + 1, h => rfl
 | o :: l, k, i + 1, h => by
  unfold ascL at h
  simp only [Bool.and_eq_true] at h
  have := Pq l (k + 1) i h.2.2
  rwa [Nat.add_assoc, Nat.add_comm 1 i] at this
section
variable {P : Program} {ops : Array Oper} {Q : Exit → Act → World → Prop} {md : Region.Mode} {S : World → Prop}
theorem Hh {i : Nat} {oi : Oper} {rest : List Oper} (hi : ops.toList.drop i = oi :: rest) : i < ops.size := by
 have := congrArg List.length hi
 simp only [List.length_drop, List.length_cons, Array.length_toList] at this
 omega
theorem AscA.at_ (h : AscA md ops) {i : Nat} {oi : Oper} {rest : List Oper} (hi : ops.toList.drop i = oi :: rest) :
  (∀ e ∈ oi.after, Region.binds md e = true → e.on < i) ∧ ∀ (j : Nat) (oj : Oper), i < j → ops[j]? = some oj → (∃ e ∈ oj.after, Region.binds md e = true ∧ e.on = i) ∨ oi.apart ops oj = true := by
 have h2 := Pq ops.toList 0 i h.asc
 rw [hi, Nat.zero_add] at h2
 unfold ascL at h2
 simp only [Bool.and_eq_true, Array.all_eq_true', Bool.or_eq_true, Bool.not_eq_true', List.all_eq_true] at h2
 refine ⟨fun e he hb => ?_, fun j oj hij hj => ?_⟩
 ·rcases h2.1 e he with q | q
  ·rw [hb] at q; cases q
  ·simpa [Nat.blt_eq] using q
 ·have hm : oj ∈ rest := by
   have e1 : ops.toList[j]? = some oj := by rw [Array.getElem?_toList]; exact hj
   obtain ⟨k, rfl⟩ : ∃ k, j = i + 1 + k := ⟨j - (i + 1), by omega⟩
   have e2 : (ops.toList.drop i)[k + 1]? = some oj := by rw [List.getElem?_drop, show i + (k + 1) = i + 1 + k by omega]; exact e1
   rw [hi, List.getElem?_cons_succ] at e2
   exact List.mem_of_getElem? e2
  rcases h2.2.1 oj hm with q | q
  ·obtain ⟨e, he, hb⟩ := Array.any_eq_true'.1 q
   simp only [Bool.and_eq_true] at hb
   exact .inl ⟨e, he, hb.1, Nat.eq_of_beq_eq_true hb.2⟩
  ·exact .inr q
theorem AscA.free (h : AscA md ops) {i : Nat} {oi : Oper} {rest : List Oper} (hi : ops.toList.drop i = oi :: rest) : Region.free md ops (upA i ops.size) i = true := by
 unfold Region.free
 rw [UY hi]
 simp only [List.all_eq_true, List.mem_range, Bool.or_eq_true]
 intro j hj
 by_cases q : j ≤ i
 ·by_cases e : j = i
  ·exact .inl (.inl (by simpa using e))
  ·refine .inl (.inr ?_)
   rw [Jp hj]
   exact decide_eq_true (by omega)
 ·obtain ⟨oj, hoj⟩ : ∃ oj, ops[j]? = some oj := ⟨ops[j], by simp [hj]⟩
  rw [hoj]
  simp only [Bool.or_eq_true]
  refine .inr ?_
  rcases (h.at_ hi).2 j oj (by omega) hoj with ⟨e, he, hb, hon⟩ | q
  ·exact .inl (Array.any_eq_true'.2 ⟨e, he, by rw [hb, hon]; simp⟩)
  ·exact .inr q
theorem AscA.ready_at (h : AscA md ops) {i : Nat} {oi : Oper} {rest : List Oper} (hi : ops.toList.drop i = oi :: rest) {j : Nat} : j ∈ Region.ready md ops (upA i ops.size) ↔
  j < ops.size ∧ i ≤ j ∧ ∀ oj, ops[j]? = some oj → ∀ e ∈ oj.after, Region.binds md e = true → e.on < i := by
 have hin := Hh hi
 unfold Region.ready
 simp only [List.mem_filter, List.mem_range, Bool.and_eq_true, Bool.not_eq_true']
 constructor
 ·rintro ⟨hj, h1, h2⟩
  rw [Jp hj] at h1
  refine ⟨hj, by simpa using h1, fun oj hoj e he hb => ?_⟩
  rw [hoj] at h2
  simp only [Option.map_some, Option.getD_some, Array.all_eq_true', Bool.or_eq_true, Bool.not_eq_true'] at h2
  rcases h2 e he with q | q
  ·rw [hb] at q; cases q
  ·by_cases hs : e.on < ops.size
   ·rw [Jp hs] at q
    exact of_decide_eq_true q
   ·rw [upA_out (by omega)] at q
    cases q
 ·rintro ⟨hj, h1, h2⟩
  refine ⟨hj, by rw [Jp hj]; exact decide_eq_false (by omega), ?_⟩
  have hoj : ops[j]? = some ops[j] := by simp [hj]
  rw [hoj]
  simp only [Option.map_some, Option.getD_some, Array.all_eq_true', Bool.or_eq_true, Bool.not_eq_true']
  intro e he
  by_cases hb : Region.binds md e = true
  ·refine .inr ?_
   have := h2 _ hoj e he hb
   rw [Jp (by omega)]
   exact decide_eq_true this
  ·exact .inl (by simpa using hb)
theorem AscA.ready (h : AscA md ops) {i : Nat} {oi : Oper} {rest : List Oper} (hi : ops.toList.drop i = oi :: rest) : (Region.ready md ops (upA i ops.size)).contains i = true := by
 rw [List.contains_iff_mem]
 exact (h.ready_at hi).2 ⟨Hh hi, Nat.le_refl _, fun oj hoj => by rw [UY hi] at hoj; cases hoj; exact (h.at_ hi).1⟩
theorem Mp {p : Nat → Bool} {n i : Nat} (hi : i < n) (hp : p i = true) (hn : ∀ j, j < n → j ≠ i → p j = false) : (List.range n).filter p = [i] := by
 induction n with
 | zero => omega
 | succ n ih =>
  rw [List.range_succ, List.filter_append]
  by_cases e : i = n
  ·subst e
   rw [List.filter_eq_nil_iff.2 (fun j hj => by rw [hn j (by have := List.mem_range.1 hj; omega) (by have := List.mem_range.1 hj; omega)]; simp)]
   simp [hp]
  ·rw [ih (by omega) (fun j hj hne => hn j (by omega) hne)]
   simp [hn n (by omega) (by omega)]
theorem AscA.sole (h : AscA md ops) {i : Nat} {oi : Oper} {rest : List Oper} (hi : ops.toList.drop i = oi :: rest) (hs : soleL md i rest = true) : Region.ready md ops (upA i ops.size) = [i] := by
 have hin := Hh hi
 have hm := h.ready hi
 rw [List.contains_iff_mem] at hm
 have hnot : ∀ j, j ≠ i → j ∉ Region.ready md ops (upA i ops.size) := fun j hne hj => by
  obtain ⟨hj1, hj2, hj3⟩ := (h.ready_at hi).1 hj
  have hoj : ops[j]? = some ops[j] := by simp [hj1]
  have hmem : ops[j] ∈ rest := by
   obtain ⟨k, rfl⟩ : ∃ k, j = i + 1 + k := ⟨j - (i + 1), by omega⟩
   have e2 : (ops.toList.drop i)[k + 1]? = some ops[i + 1 + k] := by rw [List.getElem?_drop, show i + (k + 1) = i + 1 + k by omega, Array.getElem?_toList]; exact hoj
   rw [hi, List.getElem?_cons_succ] at e2
   exact List.mem_of_getElem? e2
  unfold soleL at hs
  rw [List.all_eq_true] at hs
  obtain ⟨e, he, hb⟩ := Array.any_eq_true'.1 (hs _ hmem)
  simp only [Bool.and_eq_true] at hb
  have := hj3 _ hoj e he hb.1
  have := Nat.le_of_ble_eq_true hb.2
  omega
 have hx : ∀ j, j ∈ Region.ready md ops (upA i ops.size) → j = i := fun j hj => Classical.byContradiction (fun q => hnot j q hj)
 unfold Region.ready at hm hx ⊢
 refine Mp hin (List.mem_filter.1 hm).2 (fun j hj hne => ?_)
 rw [Bool.eq_false_iff]
 intro q
 exact hne (hx j (List.mem_filter.2 ⟨List.mem_range.2 hj, q⟩))
end
def upO (ord : List Nat) (i n : Nat) : Array Bool := ((List.range n).map (fun j => (ord.take i).contains j)).toArray
theorem Dk {ord : List Nat} {i n j : Nat} {d : Bool} (hj : j < n) : (upO ord i n).getD j d = (ord.take i).contains j := by
 unfold upO
 simp [Array.getD_eq_getD_getElem?, hj]
theorem Zp {ord : List Nat} {i n j : Nat} {d : Bool} (hj : n ≤ j) : (upO ord i n).getD j d = d := by
 unfold upO
 simp [Array.getD_eq_getD_getElem?, hj]
theorem La {α : Type} {l rest : List α} {i : Nat} {k : α} (h : l.drop i = k :: rest) : l.take (i + 1) = l.take i ++ [k] := by
 have hi : i < l.length := by
  have := congrArg List.length h
  simp only [List.length_drop, List.length_cons] at this
  omega
 rw [List.take_succ_eq_append_getElem hi]
 have : l[i] = k := by
  have := congrArg (fun x => x[0]?) h
  simp only [List.getElem?_drop, Nat.add_zero, List.getElem?_cons_zero] at this
  rw [List.getElem?_eq_getElem hi] at this
  exact Option.some.inj this
 rw [this]
theorem Dm {ord rest : List Nat} {i n k : Nat} (h : ord.drop i = k :: rest) (hk : k < n) : (upO ord i n).setIfInBounds k true = upO ord (i + 1) n := by
 unfold upO
 rw [List.setIfInBounds_toArray, La h]
 congr 1
 refine List.ext_getElem (by simp) (fun j h1 h2 => ?_)
 simp only [List.length_set, List.length_map, List.length_range] at h1
 simp only [List.getElem_set, List.getElem_map, List.getElem_range]
 split
 ·subst_vars; simp
 ·rename_i h
  rw [Bool.eq_iff_iff, List.contains_iff_mem, List.contains_iff_mem, List.mem_append]
  simp [Ne.symm h]
theorem Rt (ord : List Nat) (n : Nat) : Array.replicate n false = upO ord 0 n := by
 unfold upO
 rw [← List.toArray_replicate]
 congr 1
 refine List.ext_getElem (by simp) (fun j h1 h2 => ?_)
 simp
def memN (k : Nat) : List Nat → Bool
 | [] => false
 | j :: l => if Nat.beq j k then true else memN k l
theorem Cw {k : Nat} : ∀ {l : List Nat}, memN k l = true ↔ k ∈ l
 | [] => by simp [memN]
 | j :: l => by
  unfold memN
  by_cases h : j = k
  ·subst h; simp
  ·rw [if_neg (by rw [Nat.beq_eq]; exact h), Cw]
   simp [Ne.symm h]
def Yo (md : Region.Mode) (k : Nat) (oj : Oper) : Bool := oj.after.any (fun e => Region.binds md e && Nat.beq e.on k)
def ascO (md : Region.Mode) (ops : Array Oper) : List Nat → List Nat → Bool
 | _, [] => true
 | done, k :: rest => match ops[k]? with
  | some ok => ok.after.all (fun e => !Region.binds md e || memN e.on done) && (!memN k done && (rest.all (fun j => match ops[j]? with | some oj => Yo md k oj || ok.apart ops oj | none => false) && ascO md ops (k :: done) rest))
  | none => false
def Le (md : Region.Mode) (ops : Array Oper) (done rest : List Nat) : Bool := rest.all (fun j => match ops[j]? with | some oj => oj.after.any (fun e => Region.binds md e && !memN e.on done) | none => false)
structure OrdO (md : Region.Mode) (ops : Array Oper) (ord : List Nat) : Prop where
 sel : Region.noSelect ops = true
 len : Nat.beq ord.length ops.size = true
 all : (List.range ops.size).all (fun j => memN j ord) = true
 asc : ascO md ops [] ord = true
theorem Kl {md : Region.Mode} {ops : Array Oper} : ∀ (l done : List Nat) (i : Nat), ascO md ops done l = true → ascO md ops ((l.take i).reverse ++ done) (l.drop i) = true
 | l, done, 0, h => by simpa using h
 | [], done, i + 1, h => rfl
 | o :: l, done, i + 1, h => by
  unfold ascO at h
  split at h
  ·simp only [Bool.and_eq_true] at h
   have := Kl l (o :: done) i h.2.2.2
   simpa using this
  ·cases h
section
variable {P : Program} {ops : Array Oper} {ord : List Nat} {Q : Exit → Act → World → Prop} {md : Region.Mode} {S : World → Prop}
theorem OrdO.at_ (h : OrdO md ops ord) {i k : Nat} {ok : Oper} {rest : List Nat} (hi : ord.drop i = k :: rest) (hk : ops[k]? = some ok) :
  (∀ e ∈ ok.after, Region.binds md e = true → e.on ∈ ord.take i) ∧ k ∉ ord.take i ∧ ∀ j ∈ rest, ∃ oj, ops[j]? = some oj ∧ ((∃ e ∈ oj.after, Region.binds md e = true ∧ e.on = k) ∨ ok.apart ops oj = true) := by
 have h2 := Kl ord [] i h.asc
 rw [hi, List.append_nil] at h2
 unfold ascO at h2
 rw [hk] at h2
 simp only [Bool.and_eq_true, Array.all_eq_true', Bool.or_eq_true, Bool.not_eq_true', List.all_eq_true] at h2
 obtain ⟨q1, q2, q3, _⟩ := h2
 refine ⟨fun e he hb => ?_, fun hm => ?_, fun j hj => ?_⟩
 ·rcases q1 e he with q | q
  ·rw [hb] at q; cases q
  ·simpa using Cw.1 q
 ·have := (Cw (k := k) (l := (ord.take i).reverse)).2 (by simpa using hm)
  rw [this] at q2
  cases q2
 ·have := q3 j hj
  split at this
  ·rename_i oj hoj
   refine ⟨oj, hoj, ?_⟩
   rw [Bool.or_eq_true] at this
   rcases this with q | q
   ·obtain ⟨e, he, hb⟩ := Array.any_eq_true'.1 q
    simp only [Bool.and_eq_true] at hb
    exact .inl ⟨e, he, hb.1, Nat.eq_of_beq_eq_true hb.2⟩
   ·exact .inr q
  ·cases this
theorem OrdO.where_ (h : OrdO md ops ord) {i k : Nat} {rest : List Nat} (hi : ord.drop i = k :: rest) {j : Nat} (hj : j < ops.size) : j ∈ ord.take i ∨ j = k ∨ j ∈ rest := by
 have h1 := h.all
 rw [List.all_eq_true] at h1
 have h2 := Cw.1 (h1 j (List.mem_range.2 hj))
 rw [← List.take_append_drop i ord, hi, List.mem_append, List.mem_cons] at h2
 exact h2
theorem Ce {k : Nat} {ok : Oper} (hk : ops[k]? = some ok) : k < ops.size := (Array.getElem?_eq_some_iff.1 hk).1
theorem OrdO.free (h : OrdO md ops ord) {i k : Nat} {ok : Oper} {rest : List Nat} (hi : ord.drop i = k :: rest) (hk : ops[k]? = some ok) : Region.free md ops (upO ord i ops.size) k = true := by
 unfold Region.free
 rw [hk]
 simp only [List.all_eq_true, List.mem_range, Bool.or_eq_true]
 intro j hj
 rcases h.where_ hi hj with q | q | q
 ·exact .inl (.inr (by rw [Dk hj]; exact List.contains_iff_mem.2 q))
 ·exact .inl (.inl (by simpa using q))
 ·obtain ⟨oj, hoj, hd⟩ := (h.at_ hi hk).2.2 j q
  rw [hoj]
  refine .inr ?_
  simp only [Bool.or_eq_true]
  rcases hd with ⟨e, he, hb, hon⟩ | q
  ·exact .inl (Array.any_eq_true'.2 ⟨e, he, by rw [hb, hon]; simp⟩)
  ·exact .inr q
theorem G6 {i : Nat} {j : Nat} : j ∈ Region.ready md ops (upO ord i ops.size) ↔
  j < ops.size ∧ j ∉ ord.take i ∧ ∀ oj, ops[j]? = some oj → ∀ e ∈ oj.after, Region.binds md e = true → e.on ∈ ord.take i ∧ e.on < ops.size := by
 unfold Region.ready
 simp only [List.mem_filter, List.mem_range, Bool.and_eq_true, Bool.not_eq_true']
 constructor
 ·rintro ⟨hj, h1, h2⟩
  rw [Dk hj] at h1
  refine ⟨hj, (fun q => by rw [List.contains_iff_mem.2 q] at h1; cases h1), fun oj hoj e he hb => ?_⟩
  rw [hoj] at h2
  simp only [Option.map_some, Option.getD_some, Array.all_eq_true', Bool.or_eq_true, Bool.not_eq_true'] at h2
  rcases h2 e he with q | q
  ·rw [hb] at q; cases q
  ·by_cases hs : e.on < ops.size
   ·rw [Dk hs] at q
    exact ⟨List.contains_iff_mem.1 q, hs⟩
   ·rw [Zp (by omega)] at q
    cases q
 ·rintro ⟨hj, h1, h2⟩
  refine ⟨hj, by rw [Dk hj, Bool.eq_false_iff]; exact fun q => h1 (List.contains_iff_mem.1 q), ?_⟩
  have hoj : ops[j]? = some ops[j] := by simp [hj]
  rw [hoj]
  simp only [Option.map_some, Option.getD_some, Array.all_eq_true', Bool.or_eq_true, Bool.not_eq_true']
  intro e he
  by_cases hb : Region.binds md e = true
  ·obtain ⟨q1, q2⟩ := h2 _ hoj e he hb
   exact .inr (by rw [Dk q2]; exact List.contains_iff_mem.2 q1)
  ·exact .inl (by simpa using hb)
theorem OrdO.in_size (h : OrdO md ops ord) {i : Nat} : ∀ k ∈ ord.take i, k < ops.size := by
 induction i with
 | zero => intro k hk; simp at hk
 | succ i ih =>
  intro k hk
  cases hd : ord.drop i with
  | nil =>
   have : ord.take (i + 1) = ord.take i := by
    have hl := congrArg List.length hd
    simp only [List.length_drop, List.length_nil] at hl
    rw [List.take_of_length_le (by omega), List.take_of_length_le (by omega)]
   rw [this] at hk
   exact ih k hk
  | cons k' rest =>
   rw [La hd, List.mem_append] at hk
   rcases hk with hk | hk
   ·exact ih k hk
   ·simp only [List.mem_cons, List.not_mem_nil, or_false] at hk
    subst hk
    have h2 := Kl ord [] i h.asc
    rw [hd] at h2
    unfold ascO at h2
    split at h2
    ·rename_i ok hok; exact Ce hok
    ·cases h2
theorem OrdO.ready (h : OrdO md ops ord) {i k : Nat} {ok : Oper} {rest : List Nat} (hi : ord.drop i = k :: rest) (hk : ops[k]? = some ok) : (Region.ready md ops (upO ord i ops.size)).contains k = true := by
 rw [List.contains_iff_mem]
 obtain ⟨q1, q2, _⟩ := h.at_ hi hk
 exact G6.2 ⟨Ce hk, q2, fun oj hoj e he hb => by rw [hk] at hoj; cases hoj; exact ⟨q1 e he hb, h.in_size _ (q1 e he hb)⟩⟩
theorem OrdO.sole (h : OrdO md ops ord) {i k : Nat} {ok : Oper} {rest : List Nat} (hi : ord.drop i = k :: rest) (hk : ops[k]? = some ok) (hs : Le md ops (ord.take i) rest = true) : Region.ready md ops (upO ord i ops.size) = [k] := by
 have hm := h.ready hi hk
 rw [List.contains_iff_mem] at hm
 have hx : ∀ j, j ∈ Region.ready md ops (upO ord i ops.size) → j = k := fun j hj => Classical.byContradiction (fun hne => by
  obtain ⟨hj1, hj2, hj3⟩ := G6.1 hj
  rcases h.where_ hi hj1 with q | q | q
  ·exact hj2 q
  ·exact hne q
  ·unfold Le at hs
   rw [List.all_eq_true] at hs
   have h1 := hs j q
   split at h1
   ·rename_i oj hoj
    obtain ⟨e, he, hb⟩ := Array.any_eq_true'.1 h1
    simp only [Bool.and_eq_true, Bool.not_eq_true'] at hb
    have := Cw.2 (hj3 oj hoj e he hb.1).1
    rw [this] at hb
    cases hb.2
   ·cases h1)
 unfold Region.ready at hm hx ⊢
 refine Mp (Ce hk) (List.mem_filter.1 hm).2 (fun j hj hne => ?_)
 rw [Bool.eq_false_iff]
 intro q
 exact hne (hx j (List.mem_filter.2 ⟨List.mem_range.2 hj, q⟩))
theorem OrdO.lt (h : OrdO md ops ord) {i k : Nat} {rest : List Nat} (hi : ord.drop i = k :: rest) : i < ops.size := by
 have h1 := Nat.eq_of_beq_eq_true h.len
 have := congrArg List.length hi
 simp only [List.length_drop, List.length_cons] at this
 omega
end
end Go.Proofs.YtfneahdnpmamkaaGreat
