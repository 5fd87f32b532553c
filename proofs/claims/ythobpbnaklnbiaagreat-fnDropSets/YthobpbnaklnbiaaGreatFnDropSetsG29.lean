/-
  Plain facts: a zone said by its members; what is left of one, and one whose serial is next, are zones. No program is named here. Plain facts: what DropSet leaves and how many it takes. No program is named here. Contracts of the program's copyBytes: new memory with the same bytes. Contracts of the program's copyName: a name of its own with the same labels. Contract of the program's copyRr: a record of its own with the same fields, each list in a stretch of blocks of its own. slices.Values of the library at rows of records, as what a loop ranges over.
-/
import Derived.Test.YthobpbnaklnbiaaGreatFnDropSetsG28
import Derived.RangeFuncBound
import Derived.RangeFuncCalls
import Derived.RangeFuncLeaves
import Derived.Shelf.Abstract
import Derived.Shelf.RegionOpen
import Derived.TacticsInMore
import Derived.LoopNIn
import Derived.LoopIn
namespace Go.Proofs.YthobpbnaklnbiaaGreat
open Go.RowKit
set_option linter.unusedVariables false

theorem Mn (rs : List Rec) : soas rs rs.length = (rs.filter (fun r => decide (r.type = 6))).length := by
 have h : ∀ k, k ≤ rs.length → soas rs k = ((rs.take k).filter (fun r => decide (r.type = 6))).length := by
  intro k
  induction k with
  | zero => intro _; simp [soas]
  | succ k ih =>
   intro hk
   rw [soas, ih (by omega), List.take_succ_eq_append_getElem (by omega), List.filter_append, List.length_append]
   have e : rs.getD k recZ = rs[k] := by simp [show k < rs.length by omega]
   rw [e]
   by_cases h6 : rs[k].type = 6 <;> simp [h6]
 have := h rs.length (Nat.le_refl _)
 rwa [List.take_length] at this
structure ZSet (o : List (List Int)) (rs : List Rec) : Prop where
 name : Af o = true
 most : rs.length ≤ 60
 ok : ∀ x ∈ rs, rrOk x = true ∧ C9 x.name o = true ∧ (x.type = 6 → cmpN x.name o = 0)
 alone : ∀ x ∈ rs, x.type = 5 → ∀ y ∈ rs, y ≠ x → cmpN y.name x.name ≠ 0
 asc : rs.Pairwise (fun a b => cmpR a b < 0)
 one : (rs.filter (fun r => decide (r.type = 6))).length = 1
theorem asc_ne {rs : List Rec} (h : rs.Pairwise (fun a b => cmpR a b < 0)) {i j : Nat} (hi : i < rs.length) (hj : j < rs.length) (hn : i ≠ j) : rs[i] ≠ rs[j] := fun e => by
 have key : ∀ {a b : Nat} (ha : a < rs.length) (hb : b < rs.length), a < b → rs[a] = rs[b] → False := fun ha hb hab e => by
  have := (List.pairwise_iff_getElem.1 h) _ _ ha hb hab
  rw [e, I5] at this
  omega
 rcases Nat.lt_or_gt_of_ne hn with h1 | h1
 ·exact key hi hj h1 e
 ·exact key hj hi h1 e.symm
theorem Hv {o : List (List Int)} {rs : List Rec} (hz : Ak o rs = true) : ZSet o rs := by
 have hasc := O5 hz
 obtain ⟨ho, h60, hg, h1⟩ := of_decide_eq_true hz
 have hS := (Fo ho).1 hg
 refine ⟨ho, h60, fun x hx => ?_, fun x hx h5 y hy hne => ?_, hasc, by rw [← Mn]; exact h1⟩
 ·obtain ⟨i, hi, rfl⟩ := List.getElem_of_mem hx
  have := hS i hi
  have e : rs.getD i recZ = rs[i] := by simp [hi]
  obtain ⟨a1, a2, _, _, a5⟩ := this
  rw [e] at a1 a2 a5
  exact ⟨a1, a2, a5⟩
 ·obtain ⟨i, hi, rfl⟩ := List.getElem_of_mem hx
  obtain ⟨k, hk, rfl⟩ := List.getElem_of_mem hy
  have e : rs.getD i recZ = rs[i] := by simp [hi]
  have e2 : rs.getD k recZ = rs[k] := by simp [hk]
  have := (hS i hi).alone (by rw [e]; exact h5) k hk (fun q => by subst q; exact hne rfl)
  rwa [e, e2] at this
theorem ZSet.zone {o : List (List Int)} {rs : List Rec} (h : ZSet o rs) : Ak o rs = true := by
 unfold Ak
 refine decide_eq_true ⟨h.name, h.most, (Fo h.name).2 fun i hi => ?_, by rw [Mn]; exact h.one⟩
 have e : rs.getD i recZ = rs[i] := by simp [hi]
 obtain ⟨a1, a2, a3⟩ := h.ok _ (List.getElem_mem hi)
 refine ⟨by rw [e]; exact a1, by rw [e]; exact a2, fun h0 => ?_, fun h5 k hk hne => ?_, fun h6 => by rw [e] at h6 ⊢; exact a3 h6⟩
 ·have e2 : rs.getD (i - 1) recZ = rs[i - 1]'(by omega) := by simp [show i - 1 < rs.length by omega]
  rw [e, e2]
  exact (List.pairwise_iff_getElem.1 h.asc) (i - 1) i (by omega) hi (by omega)
 ·have e2 : rs.getD k recZ = rs[k] := by simp [hk]
  rw [e] at h5 ⊢
  rw [e2]
  exact h.alone _ (List.getElem_mem hi) h5 _ (List.getElem_mem hk) (asc_ne h.asc hk hi hne)
theorem Qu {o n : List (List Int)} {t : Int} {rs : List Rec} (hz : Ak o rs = true) : Ak o (Dt n t rs) = true := by
 have h := Hv hz
 have hm : ∀ {x}, x ∈ Dt n t rs → x ∈ rs := fun hx => (List.mem_filter.1 hx).1
 refine ZSet.zone ⟨h.name, Nat.le_trans (List.length_filter_le _ _) h.most, fun x hx => h.ok x (hm hx), fun x hx h5 y hy => h.alone x (hm hx) h5 y (hm hy), h.asc.filter _, ?_⟩
 have e : (Dt n t rs).filter (fun r => decide (r.type = 6)) = rs.filter (fun r => decide (r.type = 6)) := by
  unfold Dt
  rw [List.filter_filter]
  refine List.filter_congr fun x _ => ?_
  unfold Dr
  by_cases h6 : x.type = 6 <;> simp [h6]
 rw [e]
 exact h.one
theorem Ku {p : Rec → Bool} : ∀ (rs : List Rec), (rs.filter p).length + (rs.filter (fun x => !p x)).length = rs.length
 | [] => rfl
 | x :: rs => by
  have := Ku (p := p) rs
  cases h : p x <;> simp [h] <;> omega
theorem U1 {n : List (List Int)} {t : Int} (rs : List Rec) : (Dt n t rs).length + (rs.filter (Dr n t)).length = rs.length := by
 unfold Dt
 have := Ku (p := Dr n t) rs
 omega
theorem P4 {n : List (List Int)} {t : Int} : ∀ rs : List Rec, (rs.filter (selB n t)).length = (rs.filter (Dr n t)).length + ((Dt n t rs).filter (selB n t)).length
 | [] => rfl
 | x :: rs => by
  have ih := P4 (n := n) (t := t) rs
  unfold Dt at ih ⊢
  rw [List.filter_filter] at ih ⊢
  by_cases hs : selB n t x = true
  ·by_cases h6 : x.type = 6
   ·have hg : Dr n t x = false := by unfold Dr; simp [h6]
    simp [hs, hg]
    omega
   ·have hg : Dr n t x = true := by unfold Dr; simp [h6, hs]
    simp [hs, hg]
    omega
  ·have hs' : selB n t x = false := by simpa using hs
   have hg : Dr n t x = false := by unfold Dr; rw [hs']; rfl
   simp [hs', hg]
   omega
theorem Zf {n : List (List Int)} {t : Int} {rs : List Rec} : ∀ x ∈ (Dt n t rs).filter (selB n t), x.type = 6 := fun x hx => by
 obtain ⟨h1, h2⟩ := List.mem_filter.1 hx
 have h3 := (List.mem_filter.1 h1).2
 unfold Dr at h3
 rw [h2] at h3
 simpa using h3
theorem Wv {o n : List (List Int)} {t : Int} {rs : List Rec} (hz : Ak o rs = true) : 0 < (Dt n t rs).length := by
 have h1 := (Hv (Qu (n := n) (t := t) hz)).one
 have := List.length_filter_le (fun r : Rec => decide (r.type = 6)) (Dt n t rs)
 omega
theorem Qx {o : List (List Int)} {rs : List Rec} (hz : Ak o rs = true) : Ak o (Cx rs) = true := by
 have h := Hv hz
 have hf : ∀ x : Rec, (if x.type = 6 then Gq x else x).name = x.name ∧ (if x.type = 6 then Gq x else x).type = x.type := fun x => by split <;> exact ⟨rfl, rfl⟩
 have h6e : ∀ x ∈ rs, ∀ y ∈ rs, x.type = 6 → y.type = 6 → x = y := fun x hx y hy h1 h2 => by
  have e := h.one
  have m1 : x ∈ rs.filter (fun r => decide (r.type = 6)) := List.mem_filter.2 ⟨hx, by simpa using h1⟩
  have m2 : y ∈ rs.filter (fun r => decide (r.type = 6)) := List.mem_filter.2 ⟨hy, by simpa using h2⟩
  obtain ⟨z, ez⟩ := List.length_eq_one_iff.1 e
  rw [ez] at m1 m2
  rw [List.mem_singleton.1 m1, List.mem_singleton.1 m2]
 refine ZSet.zone ⟨h.name, by rw [Gd]; exact h.most, fun x hx => ?_, fun x hx h5 y hy hne => ?_, ?_, ?_⟩
 ·obtain ⟨a, ha, rfl⟩ := List.mem_map.1 hx
  obtain ⟨a1, a2, a3⟩ := h.ok a ha
  rw [(hf a).1, (hf a).2]
  refine ⟨?_, a2, a3⟩
  by_cases e6 : a.type = 6
  ·rw [if_pos e6]
   have hok := a1
   unfold rrOk A6 at hok ⊢
   simp only [Bool.and_eq_true, e6, if_true] at hok
   obtain ⟨q1, q2, q3, q4, q5, q6, q7⟩ := hok
   have q7' := of_decide_eq_true q7
   obtain ⟨u, v, huv⟩ := J4 q7'.1
   rw [Pf huv]
   rw [huv] at q7'
   simp only [Bool.and_eq_true, e6, if_true]
   refine ⟨q1, q2, q3, q4, q5, q6, decide_eq_true ⟨rfl, ?_, ?_, q7'.2.2.2.1, q7'.2.2.2.2⟩⟩
   ·show 0 ≤ Fv u
    unfold Fv; omega
   ·show Fv u ≤ 4294967295
    unfold Fv; omega
  ·rw [if_neg e6]; exact a1
 ·obtain ⟨a, ha, rfl⟩ := List.mem_map.1 hx
  obtain ⟨b, hb, rfl⟩ := List.mem_map.1 hy
  rw [(hf a).2] at h5
  rw [(hf a).1, (hf b).1]
  exact h.alone a ha h5 b hb (fun q => by subst q; exact hne rfl)
 ·unfold Cx
  rw [List.pairwise_map]
  refine List.Pairwise.imp_of_mem (fun {a b} ha hb hab => ?_) h.asc
  by_cases e1 : a.type = 6
  ·by_cases e2 : b.type = 6
   ·rw [h6e a ha b hb e1 e2, I5] at hab
    omega
   ·unfold cmpR at hab ⊢
    rw [(hf a).1, (hf b).1, (hf a).2, (hf b).2]
    by_cases hn : cmpN a.name b.name ≠ 0
    ·rw [if_pos hn] at hab ⊢; exact hab
    ·have ht : Ap a.type b.type ≠ 0 := fun q => e2 (by rw [← Db q]; exact e1)
     rw [if_neg hn, if_pos ht] at hab ⊢; exact hab
  ·by_cases e2 : b.type = 6
   ·unfold cmpR at hab ⊢
    rw [(hf a).1, (hf b).1, (hf a).2, (hf b).2]
    by_cases hn : cmpN a.name b.name ≠ 0
    ·rw [if_pos hn] at hab ⊢; exact hab
    ·have ht : Ap a.type b.type ≠ 0 := fun q => e1 (by rw [Db q]; exact e2)
     rw [if_neg hn, if_pos ht] at hab ⊢; exact hab
   ·rw [if_neg e1, if_neg e2]; exact hab
 ·unfold Cx
  rw [List.filter_map, List.length_map]
  have e : ((fun r : Rec => decide (r.type = 6)) ∘ fun r : Rec => if r.type = 6 then Gq r else r) = fun r : Rec => decide (r.type = 6) := funext fun x => by
   show decide ((if x.type = 6 then Gq x else x).type = 6) = _
   rw [(hf x).2]
  rw [e]
  exact h.one
theorem Sr {o : List (List Int)} {rs : List Rec} (hz : Ak o rs = true) : Cu o (Cx rs) = (Cu o rs + 1) % 4294967296 ∧ 0 ≤ Cu o rs ∧ Cu o rs ≤ 4294967295 := by
 have h := Hv hz
 have hsel : ∀ {l : List Rec}, ZSet o l → l.filter (selB o 6) = l.filter (fun r => decide (r.type = 6)) := fun hl => List.filter_congr fun x hx => by
  unfold selB
  by_cases e : x.type = 6
  ·have := (hl.ok x hx).2.2 e
   simp [e, this]
  ·simp [e]
 have hb := Hv (Qx hz)
 obtain ⟨z, ez⟩ := List.length_eq_one_iff.1 h.one
 have hz6 : z ∈ rs.filter (fun r => decide (r.type = 6)) := by rw [ez]; simp
 obtain ⟨hzm, hz6⟩ := List.mem_filter.1 hz6
 have hz6 := of_decide_eq_true hz6
 have eb : (Cx rs).filter (fun r => decide (r.type = 6)) = [Gq z] := by
  unfold Cx
  rw [List.filter_map]
  have e : ((fun r : Rec => decide (r.type = 6)) ∘ fun r : Rec => if r.type = 6 then Gq r else r) = fun r : Rec => decide (r.type = 6) := funext fun x => by
   show decide ((if x.type = 6 then Gq x else x).type = 6) = _
   by_cases e6 : x.type = 6
   ·rw [if_pos e6]; rfl
   ·rw [if_neg e6]
  rw [e, ez]
  simp [hz6]
 have hok := (h.ok z hzm).1
 unfold rrOk A6 at hok
 simp only [Bool.and_eq_true, hz6, if_true] at hok
 have q7 := of_decide_eq_true hok.2.2.2.2.2.2
 obtain ⟨u, v, huv⟩ := J4 q7.1
 rw [huv] at q7
 have e1 : Cu o rs = u := by
  unfold Cu
  rw [if_pos hz, C0, hsel h, ez]
  show z.nums.getD 0 0 = u
  rw [huv]; rfl
 have e2 : Cu o (Cx rs) = Fv u := by
  unfold Cu
  rw [if_pos (Qx hz), C0, hsel hb, eb]
  show (Gq z).nums.getD 0 0 = Fv u
  rw [Pf huv]; rfl
 rw [e1, e2]
 exact ⟨rfl, q7.2.1, q7.2.2.1⟩
theorem drop_no {o n : List (List Int)} {t : Int} {rs : List Rec} (h : ¬ (Ak o rs = true ∧ Af n = true ∧ Hj t = true)) : Bb o rs n t = (([], []), 0) := by
 unfold Bb
 rw [if_neg h]
theorem drop_is {o n : List (List Int)} {t : Int} {rs : List Rec} (hz : Ak o rs = true) (hn : Af n = true) (ha : Hj t = true) :
  o = (Bb o rs n t).1.1 ∧ Ak o (Bb o rs n t).1.2 = true ∧ 0 < (Bb o rs n t).1.2.length ∧ IntKind.i64.wrap (((Bb o rs n t).1.2.length : Int) + (Bb o rs n t).2) = rs.length ∧
  (∀ k, k < (Gt o (Bb o rs n t).1.2 n t).length → ((Gt o (Bb o rs n t).1.2 n t).getD k recZ).type = 6) ∧ IntKind.i64.wrap ((Bb o rs n t).2 + ((Gt o (Bb o rs n t).1.2 n t).length : Int)) = (Gt o rs n t).length := by
 have e : Bb o rs n t = ((o, Dt n t rs), ((rs.filter (Dr n t)).length : Int)) := by unfold Bb; rw [if_pos ⟨hz, hn, ha⟩]
 have hk := Qu (n := n) (t := t) hz
 have e1 : Gt o (Dt n t rs) n t = (Dt n t rs).filter (selB n t) := by unfold Gt; rw [if_pos ⟨hk, hn⟩, C0]
 have e2 : Gt o rs n t = rs.filter (selB n t) := by unfold Gt; rw [if_pos ⟨hz, hn⟩, C0]
 have h60 := (Au hz).2.2
 have c1 := U1 (n := n) (t := t) rs
 have c2 := P4 (n := n) (t := t) rs
 have c3 := List.length_filter_le (selB n t) rs
 rw [e]
 dsimp only
 rw [e1, e2]
 refine ⟨rfl, hk, Wv hz, ?_, fun k hlt => ?_, ?_⟩
 ·have := Bl rs.length (by omega)
  rw [← c1] at this ⊢
  push_cast at this ⊢
  exact this
 ·refine Zf (n := n) (t := t) (rs := rs) _ ?_
  rw [List.getD_eq_getElem?_getD, List.getElem?_eq_getElem hlt, Option.getD_some]
  exact List.getElem_mem hlt
 ·have := Bl (rs.filter (selB n t)).length (by omega)
  rw [c2] at this ⊢
  push_cast at this ⊢
  exact this
set_option maxHeartbeats 400000 in
set_option maxRecDepth 100000 in
theorem Dv {v : Value} {l : List Int} {w : World} (h : Nj w v l) (hl : l.length ≤ 2097152) :
  Calls Tryz.prog 91 #[v] w fun e w' => ∃ v', e = .returned v' ∧ Own w.heap.size 5 w' v' l ∧ Below w.heap.size w w' := by
 go_enter Tryz.func91, Tryz.ntmps91
 go_wp2_with (at_builtin; refine A1 rfl _ _ 22 5 rfl Tryz.underlying22 VJ w.heap.size (.slice none 0 0) v [] l rfl rfl (World.ownsRow_nil _ _ _ _) h ?c1 (Nat.le_refl _) ?_)
 case c1 => simp; omega
 intro v' w1 hown hgrow
 go_wp2
 go_ret
 exact ⟨v', rfl, hown, Cg hgrow⟩

theorem F8 {B : Nat} {v : Value} {l : List Int} {w : World} (h : Own B 5 w v l) (hl : l.length ≤ 2097152) :
  Calls Tryz.prog 91 #[v] w fun e w' => ∃ v', e = .returned v' ∧ Own w.heap.size 5 w' v' l ∧ Below w.heap.size w w' := Dv h.reads hl
theorem info_sl : (Tryz.prog.info? 22).map (fun i => (i.zero, i.size, i.bytes)) = some (some (.slice none 0 0), 1, 24) := by kernel_rfl

set_option maxHeartbeats 2000000 in
set_option maxRecDepth 100000 in
theorem Ff {v : Value} {n : List (List Int)} {w : World} (h : HasL w v n) (hs : n.length ≤ 6) (hs2 : ∀ k, k < n.length → (n.getD k []).length ≤ 15) :
  Calls Tryz.prog 61 #[.agg #[v]] w fun e w' => ∃ v', e = .returned (.agg #[v']) ∧ OwnL w.heap.size 22 5 w' v' n ∧ Below w.heap.size w w' := by
 obtain ⟨a, cap, rfl, hcl, hcm⟩ := h.form
 unfold maxLen at hcm
 obtain ⟨hsz, h1, h2⟩ := box3 w (.cells #[.slice a n.length cap] 25) #[.slice none 0 0] #[.slice none 0 0] 25 25
 have bb : Below w.heap.size w (((w.alloc (.cells #[.slice a n.length cap] 25)).alloc (.cells #[.slice none 0 0] 25)).alloc (.cells #[.slice none 0 0] 25)) :=
  ((UI _).alloc (UI _).size _).alloc ((UI _).alloc (UI _).size _).size _
 have H := UC h
 clear h
 have HS2 := UC hs2
 clear hs2
 generalize hn : n.length = m at *
 have HN := UC hn
 clear hn
 go_enter Tryz.func61, Tryz.ntmps61
 go_wp2
 generalize ((w.alloc (.cells #[.slice a m cap] 25)).alloc (.cells #[.slice none 0 0] 25)).alloc (.cells #[.slice none 0 0] 25) = W at *
 go_loopw [9] (fun i wr => ∃ (k : Nat) (o : Value), k ≤ m ∧ i = .int .i64 k ∧ wr.heap[w.heap.size + 1]? = some (.cells #[.slice none 0 0] 25) ∧ wr.heap[w.heap.size + 1 + 1]? = some (.cells #[o] 25) ∧ OwnL (w.heap.size + 3) 22 5 wr o (n.take k) ∧ Below w.heap.size w wr) (fun i _ => m - (intOf i).toNat)
 case atStart => exact ⟨0, .slice none 0 0, Nat.zero_le _, rfl, h1, h2, ⟨[], by simpa using World.ownsRow_nil _ _ _ _, by simp, by simp⟩, bb⟩
 case round =>
  obtain ⟨k, o, hk, rfl, hr1, hr2, ho, hb⟩ := hrel
  by_cases hlt : k < m
  ·obtain ⟨b, off, u, rfl, hbl, hc, hu⟩ := ((UB H).below hb).here (k := k) (by rw [UB HN]; exact hlt)
   have hlk := UB HS2 k hlt
   have htk := UC (show n.take (k + 1) = n.take k ++ [n.getD k []] by rw [List.take_succ_eq_append_getElem (by rw [UB HN]; exact hlt)]; simp [show k < n.length by rw [UB HN]; exact hlt])
   have htl : (n.take k).length = k := by rw [List.length_take, UB HN]; omega
   generalize n.getD k [] = lab at *
   generalize n.take k = nk at *
   subst htl
   have HU := UC hu
   obtain ⟨ua, uc, rfl, _⟩ := hu.form
   clear hu
   obtain ⟨oa, oc, rfl, _⟩ := ho.hasL.form
   have hod := ho.below (UX (w := wr))
   clear ho
   have HO := UC hod
   obtain ⟨vs, hvs, hva, hvd⟩ := hod
   have hvl : vs.length = nk.length := by have := hvs.1; simpa using this
   have kd2 := UE (UX (w := wr)) hr2
   have kd1 := UE (UX (w := wr)) hr1
   have bd := UG hb (UX (w := wr))
   have cod := US kd2
   have HUd := UC ((UB HU).below UX)
   have HVS := UC hvs
   have HVA := UC hva
   have HVD := UC hvd
   have z3 := VC hr2
   have zb : w.heap.size + 3 ≤ wr.drew.heap.size := by show w.heap.size + 3 ≤ wr.heap.size; omega
   clear hva hvd hvs
   have KD2 := UC kd2
   have KD1 := UC kd1
   clear kd2 kd1
   go_wp2_with fail
   go_region_law (first
    | (refine Bf rfl (.tmp 14) (.tmp 17) 23 22 rfl Tryz.underlying23 info_sl (w.heap.size + 3) (.slice oa nk.length oc) _ vs [.slice u1a lab.length u1c] (by simp [Act.eval]) (by simp [Act.eval]) (by rw [hvl]; exact World.ownsRow.alloc (Ay (UB HVS) (UB B1)) _) (Cw w1 22 _) (by intro y hy; simp at hy; subst hy; rfl) (by rw [hvl]; simp; omega) (by have := (UB B1).size; simp; omega) ?_; intro v2 w2 o2 g2; obtain ⟨p2, k2, y2⟩ := Gr g2 o2 rfl (UB HVS) (UB HVA) (UB HVD) ((UB B1).alloc (UB B1).size _) ((UB OU).alloc _) zb (by decide) (UE (UI _) (UE (UB B1) (UB KD2))) (by decide); obtain ⟨v2a, v2c, rfl, _⟩ := p2.hasL.form; have co2 := US k2; have fo2 := VG k2 0)
    | (go_simp; go_at_call 91; refine (Dv (UB HUd).reads (by omega)).mono ?_; rintro e w1 ⟨u1, rfl, ou, b1⟩; obtain ⟨u1a, u1c, rfl, _⟩ := ou.lies; have OU := UC ou; have B1 := UC b1; have co1 := US (UE b1 (UB KD2)); have ca1 : ∀ o, (w1.alloc o).cell? ⟨w.heap.size + 1 + 1, 0, none⟩ = some (.slice oa nk.length oc) := (fun o => US (UE (UI o) (UE b1 (UB KD2)))); clear ou b1))
   all_goals
    go_wp2_with fail
    have k1 := (y2.block (w.heap.size + 1) (by omega)).trans (UB KD1)
    refine ⟨⟨nk.length + 1, _, by omega, by go_num, Eb k1 (by omega) 0 _, At k2 _, ?_, (bd.trans (y2.mono (by omega))).setCell (by show w.heap.size ≤ w.heap.size + 1 + 1; omega) _⟩, by simp [intOf]; omega⟩
    rw [UB htk]
    simp only [List.length_append, List.length_cons, List.length_nil] at p2
    exact p2.kept (Aa _ _ _) (by show w.heap.size + 1 + 1 < _; omega)
  ·obtain rfl : k = m := by omega
   obtain ⟨oa, oc, rfl, _⟩ := ho.hasL.form
   have htk : n.take k = n := List.take_of_length_le (by rw [UB HN]; omega)
   rw [htk] at ho
   have HLK := UC (show (n.take k).length = n.length by rw [htk])
   rw [UB HLK] at hr2
   have HO := UC ho
   have c2 := US hr2
   have c1 := US hr1
   have f1 := VG hr1 0
   have M1 := UC (At hr1 (.slice oa n.length oc))
   clear ho htk hr1 hr2 HLK
   go_wp2
   refine bodyPost_ret (results_cell_row rfl _ _ (w.heap.size + 1) 25 #[.slice oa n.length oc] (0, 0) _ rfl (UB M1) Tryz.underlying25 rfl (by kernel_rfl)) rfl ?_
   exact ⟨_, rfl, ((UB HO).kept (Aa _ _ _) (by show w.heap.size + 1 < _; omega)).mono (by omega), hb.setCell (by show w.heap.size ≤ w.heap.size + 1; omega) _⟩
theorem Xy : (Tryz.prog.info? 3).map (fun i => (i.zero, i.size, i.bytes)) = some (some (.int .i64 0), 1, 8) := by kernel_rfl
theorem Sd {P : Program} {w : World} {ops : Array Oper} {rest : List Oper} {o : Oper} {a : Act} {Q : Exit → Act → World → Prop} (hgd : o.guard = none) (s x : Operand) (t e : TypeId)
  (ho : o.op = .call { callee := .builtin .append, args := #[s, x], argTypes := #[t, t] }) (ht : P.underlying t = some (.slice e))
  (hinfo : (P.info? e).map (fun i => (i.zero, i.size, i.bytes)) = some (some (.int .i64 0), 1, 8))
  (vx : Value) (l : List Int) (hs : a.eval s = .slice none 0 0) (hx : a.eval x = vx) (hr : HasI w vx l) (hlen : l.length ≤ 1099511627776)
  (h : ∀ v' w', OwnI w.heap.size e w' v' l → Below w.heap.size w w' → wpList P ops Q rest (a.put o.dst v') w') : wpList P ops Q (o :: rest) a w := by
 obtain ⟨i0, hi, hz0, hz1, hz2⟩ := info_parts hinfo
 have hown := World.ownsRow_nil w w.heap.size e 1
 rcases hr.readsV with ⟨rfl, h0⟩ | ⟨ad, cap, hv, hc⟩
 ·obtain rfl : l = [] := by simpa using h0
  refine wpList_append_own_none hgd s x t ho w.heap.size e i0 1 ht hi _ 0 [] hs hown hx ?_
  exact h _ w hown (Below.refl _ _)
 ·subst hv
  rw [List.length_map] at hx
  refine wpList_append_own w hgd s x t ho w.heap.size e i0 (.int .i64 0) 1 8 ht hi hz0 hz1 hz2 rfl (by decide) _ 0 [] hs hown ad l.length cap (l.map (Value.int .i64)) hx (by simp) hc (V2 l) (by unfold maxLen; omega) (by omega) (Nat.le_refl _) ?_
  intro v' w' ho' hg _
  exact h v' w' (by simpa [OwnI] using ho') (Cg hg)

set_option maxHeartbeats 4000000 in
set_option maxRecDepth 100000 in
theorem G5 {vn vt vx vi : Value} {r : Rec} {w : World} (h : HasR w vn vt vx vi r) (hs : D5 r) :
  Calls Tryz.prog 58 #[.agg #[vn, .int .i64 r.type, .int .i64 r.ttl, .int .i64 r.addr, vt, vx, vi]] w fun e w' => ∃ un ut ux ui, e = .returned (.agg #[un, .int .i64 r.type, .int .i64 r.ttl, .int .i64 r.addr, ut, ux, ui]) ∧
   OwnR w.heap.size w'.heap.size 22 5 3 w' un ut ux ui r ∧ Below w.heap.size w w' := by
 obtain ⟨⟨n1, n2⟩, ⟨t1, t2⟩, hx, hi⟩ := hs
 obtain ⟨na, nc, rfl, _⟩ := h.name.form
 obtain ⟨ta, tc, rfl, _⟩ := h.to.form
 obtain ⟨xa, xc, rfl, _⟩ := h.text.form
 obtain ⟨ia, ic, rfl, _⟩ := h.nums.form
 obtain ⟨hsz, k0, r0⟩ := box2 w (.cells #[.slice na r.name.length nc, .int .i64 r.type, .int .i64 r.ttl, .int .i64 r.addr, .slice ta r.to.length tc, .slice xa r.text.length xc, .slice ia r.nums.length ic] 39) #[.slice none 0 0, .int .i64 0, .int .i64 0, .int .i64 0, .slice none 0 0, .slice none 0 0, .slice none 0 0] 39
 have b0 := Ba w (.cells #[.slice na r.name.length nc, .int .i64 r.type, .int .i64 r.ttl, .int .i64 r.addr, .slice ta r.to.length tc, .slice xa r.text.length xc, .slice ia r.nums.length ic] 39) (.cells #[.slice none 0 0, .int .i64 0, .int .i64 0, .int .i64 0, .slice none 0 0, .slice none 0 0, .slice none 0 0] 39)
 have h0 := h.below b0
 have HN := UC (fun (w : World) (hh : HasL w (.slice na r.name.length nc) r.name) => Ff hh n1 n2)
 have HT := UC (fun (w : World) (hh : HasL w (.slice ta r.to.length tc) r.to) => Ff hh t1 t2)
 have zz := VC r0
 have KB := UC k0
 have KR := UC r0
 have F1 := UC h0.name
 have F2 := UC h0.to
 have HX := UC h.text
 have HI := UC h.nums
 clear hsz k0 r0 h h0 n1 n2 t1 t2
 go_enter Tryz.func58, Tryz.ntmps58
 go_wp2_with fail
 generalize (w.alloc (.cells #[.slice na r.name.length nc, .int .i64 r.type, .int .i64 r.ttl, .int .i64 r.addr, .slice ta r.to.length tc, .slice xa r.text.length xc, .slice ia r.nums.length ic] 39)).alloc (.cells #[.slice none 0 0, .int .i64 0, .int .i64 0, .int .i64 0, .slice none 0 0, .slice none 0 0, .slice none 0 0] 39) = W at *
 have bd := UX (w := W)
 have bb := UG b0 bd
 replace KB := UC (UE bd (UB KB))
 replace KR := UC (UE bd (UB KR))
 replace F1 := UC ((UB F1).below bd)
 replace F2 := UC ((UB F2).below bd)
 have z0 := bd.size
 clear bd b0
 have cz := UJ (UB KB)
 have c0 := cz.1
 have c4 := cz.2.2.2.2.1
 clear cz
 go_region_law (first
  | (go_simp; go_at_call_of 61 (Value.slice na r.name.length nc); refine (UB HN _ (UB F1)).mono ?_; rintro e w1 ⟨v1, rfl, o1, b1⟩; obtain ⟨p1, q1, rfl, _⟩ := o1.hasL.form; have N1 := UC o1.here; have KB1 := UC (UE b1 (UB KB)); have KR1 := UC (UE b1 (UB KR)); have F21 := UC ((UB F2).below b1); have bb1 := UG bb b1; have z1 := b1.size; have cz := UJ (UB KB1); have c41 := cz.2.2.2.2.1; clear cz b1 o1)
  | (go_simp; go_at_call_of 61 (Value.slice ta r.to.length tc); refine (UB HT _ (UB F21)).mono ?_; rintro e w2 ⟨v2, rfl, o2, b2⟩; obtain ⟨p2, q2, rfl, _⟩ := o2.hasL.form; have N2 := UC o2.here; have N12 := UC ((UB N1).below b2); have KB2 := UC (UE b2 (UB KB1)); have KR2 := UC (UE b2 (UB KR1)); have bb2 := UG bb1 b2; have z2 := b2.size; obtain ⟨d0, d1, d2, d3, d4, d5, d6⟩ := UJ (UB KB2); obtain ⟨f0, f1, f2, f3, f4, f5, f6⟩ := VI (UB KB2); clear b2 o2))
 all_goals
  clear d0 d1 d2 d3 d4 d5 d6 f0 f1 f2 f3 f4 f5 f6 c0 c4 c41
  have KB3 : Hid (((w2.setCell ⟨w.heap.size, 0, none⟩ (.slice p1 r.name.length q1)).setCell ⟨w.heap.size, 4, none⟩ (.slice p2 r.to.length q2)).heap[w.heap.size]? = some (.cells #[.slice p1 r.name.length q1, .int .i64 r.type, .int .i64 r.ttl, .int .i64 r.addr, .slice p2 r.to.length q2, .slice xa r.text.length xc, .slice ia r.nums.length ic] 39)) := UV (UV (UB KB2) 0 _) 4 _
  have u3 := (UT w2 w.heap.size 0 (.slice p1 r.name.length q1)).trans (UT _ w.heap.size 4 (.slice p2 r.to.length q2))
  generalize (w2.setCell ⟨w.heap.size, 0, none⟩ (.slice p1 r.name.length q1)).setCell ⟨w.heap.size, 4, none⟩ (.slice p2 r.to.length q2) = w3 at *
  have M1 := UC ((UB N12).outside u3 (.inr (by omega)))
  have M2 := UC ((UB N2).outside u3 (.inr (by omega)))
  have KR3 := UC (u3.kept (UB KR2) (by omega))
  have bb3 := u3.below bb2 (Nat.le_refl _)
  have z3 := u3.size
  have HC := UC (Dv ((UB HX).below bb3).reads (by omega))
  obtain ⟨d0, d1, d2, d3, d4, d5, d6⟩ := UJ (UB KB3)
  clear N1 N12 N2 u3 bb bb1 bb2 KB KB1 KB2 KR KR1 KR2 HN HT F1 F2 F21
  go_wp2_with fail
  clear d0 d1 d2 d3 d4 d5 d6
  refine (UB HC).mono ?_
  rintro e w4 ⟨v4, rfl, o4, b4⟩
  obtain ⟨p3, q3, rfl, _⟩ := o4.lies
  replace M1 := UC ((UB M1).below b4)
  replace M2 := UC ((UB M2).below b4)
  have KR4 := UC (UE b4 (UB KR3))
  have k4 := UE b4 (UB KB3)
  have bb4 := UG bb3 b4
  have z4 := b4.size
  have X4 := UC o4.here
  have u5 := UT w4 w.heap.size 5 (.slice p3 r.text.length q3)
  have KB5 : Hid ((w4.setCell ⟨w.heap.size, 5, none⟩ (.slice p3 r.text.length q3)).heap[w.heap.size]? = some (.cells #[.slice p1 r.name.length q1, .int .i64 r.type, .int .i64 r.ttl, .int .i64 r.addr, .slice p2 r.to.length q2, .slice p3 r.text.length q3, .slice ia r.nums.length ic] 39)) := UV k4 5 _
  have bb5 := u5.below bb4 (Nat.le_refl _)
  have HI5 := UC ((UB HI).below bb5)
  replace M1 := UC ((UB M1).outside u5 (.inr (by omega)))
  replace M2 := UC ((UB M2).outside u5 (.inr (by omega)))
  replace X4 := UC ((UB X4).outside u5 (.inr (by omega)))
  have KR5 := UC (u5.kept (UB KR4) (by omega))
  have z5 := u5.size
  obtain ⟨d0, d1, d2, d3, d4, d5, d6⟩ := UJ k4
  obtain ⟨f0, f1, f2, f3, f4, f5, f6⟩ := VI k4
  clear KB3 KR3 KR4 bb3 bb4 o4 b4 HC u5 k4
  go_wp2_with (at_builtin; refine Sd rfl _ _ 37 3 rfl Tryz.underlying37 Xy _ r.nums rfl rfl (UB HI5) (by omega) ?_)
  intro v6 w6 o6 b6
  have e5 : (w4.setCell ⟨w.heap.size, 5, none⟩ (.slice p3 r.text.length q3)).heap.size = w4.heap.size := by simp [World.setCell]
  replace b6 : Below (w4.setCell ⟨w.heap.size, 5, none⟩ (.slice p3 r.text.length q3)).heap.size (w4.setCell ⟨w.heap.size, 5, none⟩ (.slice p3 r.text.length q3)) w6 := by rw [e5]; exact b6
  replace o6 : OwnI (w4.setCell ⟨w.heap.size, 5, none⟩ (.slice p3 r.text.length q3)).heap.size 3 w6 v6 r.nums := by rw [e5]; exact o6
  clear e5
  clear d0 d1 d2 d3 d4 d5 d6 f0 f1 f2 f3 f4 f5 f6
  generalize w4.setCell ⟨w.heap.size, 5, none⟩ (.slice p3 r.text.length q3) = w5 at *
  obtain ⟨p4, q4, rfl, _⟩ := o6.lies
  replace M1 := UC ((UB M1).below b6)
  replace M2 := UC ((UB M2).below b6)
  replace X4 := UC ((UB X4).below b6)
  have Y6 := UC o6.here
  have k6 := UE b6 (UB KB5)
  have r6 := UE b6 (UB KR5)
  have bb6 := UG bb5 b6
  have z6 := b6.size
  have u7 := UT w6 w.heap.size 6 (.slice p4 r.nums.length q4)
  have R7 := UC (u7.kept r6 (by omega))
  replace M1 := UC ((UB M1).outside u7 (.inr (by omega)))
  replace M2 := UC ((UB M2).outside u7 (.inr (by omega)))
  replace X4 := UC ((UB X4).outside u7 (.inr (by omega)))
  replace Y6 := UC ((UB Y6).outside u7 (.inr (by omega)))
  have bb7 := u7.below bb6 (Nat.le_refl _)
  have z7 := u7.size
  obtain ⟨d0, d1, d2, d3, d4, d5, d6⟩ := UJ k6
  obtain ⟨f0, f1, f2, f3, f4, f5, f6⟩ := VI k6
  obtain ⟨g0, g1, g2, g3, g4, g5, g6⟩ := UJ r6
  obtain ⟨y0, y1, y2, y3, y4, y5, y6⟩ := VI r6
  clear KB5 KR5 bb5 bb6 o6 b6 HI5 u7 k6 r6 HX HI
  go_wp2_with fail
  clear d0 d1 d2 d3 d4 d5 d6 f0 f1 f2 f3 f4 f5 f6 g0 g1 g2 g3 g4 g5 g6 y0 y1 y2 y3 y4 y5 y6
  generalize w6.setCell ⟨w.heap.size, 6, none⟩ (.slice p4 r.nums.length q4) = w7 at *
  obtain ⟨R8, u8⟩ := set7 (c0 := .slice p1 r.name.length q1) (c1 := .int .i64 r.type) (c2 := .int .i64 r.ttl) (c3 := .int .i64 r.addr) (c4 := .slice p2 r.to.length q2) (c5 := .slice p3 r.text.length q3) (c6 := .slice p4 r.nums.length q4) (UB R7)
  have z8 := u8.size
  refine bodyPost_ret (results_cell_row rfl _ _ (w.heap.size + 1) 39 #[.slice p1 r.name.length q1, .int .i64 r.type, .int .i64 r.ttl, .int .i64 r.addr, .slice p2 r.to.length q2, .slice p3 r.text.length q3, .slice p4 r.nums.length q4] (0, 0) _ rfl R8 Tryz.underlying39 rfl (by kernel_rfl)) rfl ?_
  exact ⟨_, _, _, _, rfl, ⟨w1.heap.size, w2.heap.size, w4.heap.size, by omega, by omega, by omega, by omega, ((UB M1).outside u8 (.inr (by omega))).wide (by omega) (by omega), ((UB M2).outside u8 (.inr (by omega))).wide (by omega) (by omega), ((UB X4).outside u8 (.inr (by omega))).wide (by omega) (by omega), ((UB Y6).outside u8 (.inr (by omega))).wide (by omega) (by omega)⟩, u8.below bb7 (by omega)⟩
end Go.Proofs.YthobpbnaklnbiaaGreat

namespace Go.Proofs.YthobpbnaklnbiaaGreat
open Go.RowKit Go.Shelf
set_option linter.unusedVariables false

abbrev RecV (w : World) := { p : (Value × Value × Value × Value) × Rec // HasR w p.1.1 p.1.2.1 p.1.2.2.1 p.1.2.2.2 p.2 ∧ D5 p.2 }
def encV {w : World} (x : RecV w) : Array Value := #[.agg #[x.1.1.1, .int .i64 x.1.2.type, .int .i64 x.1.2.ttl, .int .i64 x.1.2.addr, x.1.1.2.1, x.1.1.2.2.1, x.1.1.2.2.2]]

set_option maxHeartbeats 4000000 in
set_option maxRecDepth 100000 in
theorem U9 (n : Nat) (hn : 1 ≤ n) (l Bt n0 : Nat) (w0 : World) (a : Option Addr) (cap : Nat) (rs : List Rec) (hn0 : n0 = w0.heap.size) (hT : Cq w0 (.slice a rs.length cap) rs) (hsh : ∀ i, i < rs.length → D5 (rs.getD i recZ)) (hl : rs.length ≤ 1048576)
  (J Jx : List (RecV w0) → World → Prop) (W : World) (hW : Below n0 w0 W) (hJ : AbidesFrom W.heap.size J)
  (hY : ∀ pre x W1, J pre W1 → pre.length < rs.length → YieldAt Fence.wide (n - 1) Tryz.prog l (encV x) W1 fun e W' => (e = .returned (.bool true) ∧ J (pre ++ [x]) W' ∧ Below n0 W1 W') ∨ (e = .returned (.bool false) ∧ Jx (pre ++ [x]) W'))
  (hBt : W.cell? ⟨Bt, 0, none⟩ = some (.slice a rs.length cap)) (h0 : J [] W) :
  CallsIn Fence.wide n Tryz.prog 101 #[.func (.yield l) #[] #[], .pointer (some ⟨Bt, 0, none⟩)] W fun e W' => (∃ v, e = .returned v) ∧
   ((∃ xs, xs.map (·.1.2) = rs ∧ J xs W') ∨ (∃ pre, True ∧ Jx pre W')) := by
 subst hn0
 have HT := UC hT
 have HS := UC hsh
 have HJ := UC hJ
 have HY := UC hY
 have B0 := UC hW
 have H0 := UC h0
 clear hT hsh hJ hY hW h0
 generalize hm : rs.length = m at *
 have HM := UC hm
 clear hm
 refine callsIn_of_wp Tryz.func101 rfl trivial ?_ rfl
 simp only [Tryz.ntmps101, List.size_toArray, List.length_cons, List.length_nil, Nat.reduceAdd, Nat.reduceSub, Array.replicate_succ, Array.replicate_zero, List.push_toArray, List.append_toArray, List.nil_append, List.cons_append]
 gi_wp2
 gi_loopw [7] (fun i wr => ∃ (k : Nat) (pre : List (RecV w0)), k ≤ m ∧ i = .int .i64 k ∧ pre.length = k ∧ pre.map (·.1.2) = rs.take k ∧ J pre wr ∧ Below w0.heap.size w0 wr) (fun i _ => m - (intOf i).toNat)
 case atStart => exact ⟨0, [], Nat.zero_le _, rfl, rfl, by simp, UB H0, UB B0⟩
 case round =>
  obtain ⟨k, pre, hk, rfl, hpl, hp, hj, hbl⟩ := hrel
  by_cases hlt : k < m
  ·obtain ⟨b, off, na, nc, ta, tc, xa, xc, ia, ic, rfl, hb1, hc, hR⟩ := (UB HT).here (k := k) (by rw [UB HM]; exact hlt)
   have hsk := UB HS k hlt
   have htk := UC (show rs.take (k + 1) = rs.take k ++ [rs.getD k recZ] by rw [List.take_succ_eq_append_getElem (by rw [UB HM]; exact hlt)]; simp [show k < rs.length by rw [UB HM]; exact hlt])
   obtain ⟨c0, c1, c2, c3, c4, c5, c6⟩ := VH (UW hc hb1 hbl)
   generalize rs.getD k recZ = r at *
   obtain ⟨x, hx1, hx2⟩ : ∃ x : RecV w0, encV x = #[.agg #[.slice na r.name.length nc, .int .i64 r.type, .int .i64 r.ttl, .int .i64 r.addr, .slice ta r.to.length tc, .slice xa r.text.length xc, .slice ia r.nums.length ic]] ∧ x.1.2 = r := ⟨⟨((.slice na r.name.length nc, .slice ta r.to.length tc, .slice xa r.text.length xc, .slice ia r.nums.length ic), r), hR, hsk⟩, rfl, rfl⟩
   have ba := UI (w := wr) (.cells #[.slice na r.name.length nc, .int .i64 r.type, .int .i64 r.ttl, .int .i64 r.addr, .slice ta r.to.length tc, .slice xa r.text.length xc, .slice ia r.nums.length ic] 39)
   obtain ⟨d0, d1, d2, d3, d4, d5, d6⟩ := UJ (heap_alloc_new wr (.cells #[.slice na r.name.length nc, .int .i64 r.type, .int .i64 r.ttl, .int .i64 r.addr, .slice ta r.to.length tc, .slice xa r.text.length xc, .slice ia r.nums.length ic] 39))
   obtain ⟨fn, tmps, assign, body, hy, hRd⟩ := UB HY pre x (wr.alloc (.cells #[.slice na r.name.length nc, .int .i64 r.type, .int .i64 r.ttl, .int .i64 r.addr, .slice ta r.to.length tc, .slice xa r.text.length xc, .slice ia r.nums.length ic] 39)) (UB HJ pre wr _ none hj (World.grownBy_alloc wr _ none) (fun r e => by cases e)) (by omega)
   rw [hx1] at hy
   have hb2 : Below w0.heap.size w0 (wr.alloc (.cells #[.slice na r.name.length nc, .int .i64 r.type, .int .i64 r.ttl, .int .i64 r.addr, .slice ta r.to.length tc, .slice xa r.text.length xc, .slice ia r.nums.length ic] 39)) := UG hbl ba
   have HB := UC hb2
   clear hb2 ba hc hR hsk hbl hj
   gi_wp2
   refine hRd.mono ?_
   rintro e W3 (⟨rfl, hJ3, hk3⟩ | ⟨rfl, hJx3⟩)
   ·have hb3 := (UB HB).trans hk3
    clear hy hRd hk3 HB d0 d1 d2 d3 d4 d5 d6 c0 c1 c2 c3 c4 c5 c6
    gi_wp2
    go_roundw
    case rel => exact ⟨k + 1, pre ++ [x], by omega, by go_num, by simp [hpl], by rw [UB htk, ← hp]; simp [hx2], hJ3, hb3⟩
    case measure => simp [intOf]; omega
   ·clear hy hRd HB d0 d1 d2 d3 d4 d5 d6 c0 c1 c2 c3 c4 c5 c6
    gi_wp2
    refine bodyPost_ret (results_none rfl _ _ _) rfl ?_
    exact ⟨⟨_, rfl⟩, .inr ⟨pre ++ [x], trivial, hJx3⟩⟩
  ·obtain rfl : k = m := by omega
   have hall : rs.take k = rs := List.take_of_length_le (by rw [UB HM]; exact Nat.le_refl _)
   rw [hall] at hp
   clear hall
   gi_wp2
   go_end0
   exact ⟨⟨_, rfl⟩, .inl ⟨pre, hp, hj⟩⟩
end Go.Proofs.YthobpbnaklnbiaaGreat
