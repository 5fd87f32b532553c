/-
  Steps of a region that draws its order: an append to a row of the call's own. No program is named here. Plain facts: what is owned in a stretch of blocks stays as it is where a walk writes into another stretch. No program is named here. Plain facts: a row of slices put behind another one; a name with one label more ahead. No program is named here. Contracts of the specification's NameRead. Plain facts: the bytes of a text, as numbers, and a slice that is made of it. No program is named here. Contracts of the specification's l2of: a name out of a text.
-/
import Derived.Deep.RegionLaw
import Derived.Test.YthobpbnaklnbiaaGreatFnDropSetsG01
import Derived.Deep.LoopGhost
import Derived.Laws.IdiomStrings
namespace Go.Proofs.YthobpbnaklnbiaaGreat
open Go.RowKit

section
variable {P : Program} {w : World}

theorem Ll (t ty e : TypeId) (ht : P.underlying t = some (.slice e)) (hinfo : (P.info? e).map (fun i => (i.zero, i.size, i.bytes)) = some (some (.int .u8 0), 1, 1))
  (base : Nat) (v vx : Value) (l m : List Int) (hown : Own base e w v l) (hr : Nj w vx m) (hlen : l.length + m.length ≤ 1099511627776) (hbase : base ≤ w.heap.size) :
  ∃ v' w', (Builtin.append_ #[t, t] ty #[v, vx]).run P w = .ok v' w' ∧ Own base e w' v' (l ++ m) ∧ w.grownBy w' v.ownBlock := by
 obtain ⟨i0, hi, hz0, hz1, hz2⟩ := info_parts hinfo
 rcases hr with ⟨rfl, rfl⟩ | ⟨ad, cap, rfl, hc⟩
 ·exact ⟨v, w, run_append_owned_none w base t ty e i0 1 ht hi v l.length (l.map (Value.int .u8)) hown, by simpa using hown, ⟨rfl, rfl, rfl, Nat.le_refl _, fun _ _ _ => rfl⟩⟩
 ·obtain ⟨v', w', h1, h2, h3, _⟩ := run_append_own (P := P) w base t ty e i0 (.int .u8 0) 1 1 ht hi hz0 hz1 hz2 rfl (by decide) v l.length (l.map (Value.int .u8)) hown ad m.length cap (m.map (Value.int .u8)) (by simp) (Na hc) (O9 m) (by unfold maxLen; omega) (by omega) hbase
  exact ⟨v', w', h1, by simpa [Own] using h2, h3⟩

theorem Bo {ops : Array Oper} {o : Oper} {a : Act} {K : Act → World → Prop} {Q : Exit → Act → World → Prop} {E : Prop} (hgd : o.guard = none) (s x : Operand) (t e : TypeId)
  (ho : o.op = .call { callee := .builtin .append, args := #[s, x], argTypes := #[t, t] }) (ht : P.underlying t = some (.slice e))
  (hinfo : (P.info? e).map (fun i => (i.zero, i.size, i.bytes)) = some (some (.int .u8 0), 1, 1))
  (base : Nat) (v vx : Value) (l m : List Int) (hs : a.eval s = v) (hx : a.eval x = vx) (hown : Own base e w v l) (hr : Nj w vx m) (hlen : l.length + m.length ≤ 1099511627776) (hbase : base ≤ w.heap.size)
  (h : ∀ v' w', Own base e w' v' (l ++ m) → w.grownBy w' v.ownBlock → K (a.put o.dst v') w') : if Region.wanted o (yielded ops a.tmps) = true then Oper.wp P o a w K Q else E := by
 have hw : Region.wanted o (yielded ops a.tmps) = true := by simp [Region.wanted, hgd]
 rw [if_pos hw]
 obtain ⟨v', w', hr', h2, h3⟩ := Ll (P := P) t o.type e ht hinfo base v vx l m hown hr hlen hbase
 unfold Oper.wp execOp
 simp only [ho, resolve, invoke, builtin, Sem.run_bind, Sem.run_pure, Result.andThen_ok, List.map_toArray, List.map_cons, List.map_nil, hs, hx, hr']
 exact h v' w' h2 h3

theorem Of (t ty e : TypeId) (ht : P.underlying t = some (.slice e)) (hinfo : (P.info? e).map (fun i => (i.zero, i.size, i.bytes)) = some (some (.slice none 0 0), 1, 24))
  (base : Nat) (v vx : Value) (xs us : List Value) (hown : w.ownsRow base e 1 v xs.length xs)
  (hr : (vx = .slice none 0 0 ∧ us = []) ∨ ∃ ad cap, vx = .slice (some ad) us.length cap ∧ ∀ j y, us[j]? = some y → w.cell? (ad.add j) = some y) (hu : ∀ y ∈ us, y.oneCell' = true)
  (hlen : xs.length + us.length ≤ 1099511627776) (hbase : base ≤ w.heap.size) :
  ∃ v' w', (Builtin.append_ #[t, t] ty #[v, vx]).run P w = .ok v' w' ∧ w'.ownsRow base e 1 v' (xs.length + us.length) (xs ++ us) ∧ w.grownBy w' v.ownBlock := by
 obtain ⟨i0, hi, hz0, hz1, hz2⟩ := info_parts hinfo
 rcases hr with ⟨rfl, rfl⟩ | ⟨ad, cap, rfl, hc⟩
 ·exact ⟨v, w, run_append_owned_none w base t ty e i0 1 ht hi v xs.length xs hown, by simpa using hown, ⟨rfl, rfl, rfl, Nat.le_refl _, fun _ _ _ => rfl⟩⟩
 ·obtain ⟨v', w', h1, h2, h3, _⟩ := run_append_own (P := P) w base t ty e i0 (.slice none 0 0) 1 24 ht hi hz0 hz1 hz2 rfl (by decide) v xs.length xs hown ad us.length cap us (by simp) hc hu (by unfold maxLen; omega) (by omega) hbase
  exact ⟨v', w', h1, h2, h3⟩

theorem Bf {ops : Array Oper} {o : Oper} {a : Act} {K : Act → World → Prop} {Q : Exit → Act → World → Prop} {E : Prop} (hgd : o.guard = none) (s x : Operand) (t e : TypeId)
  (ho : o.op = .call { callee := .builtin .append, args := #[s, x], argTypes := #[t, t] }) (ht : P.underlying t = some (.slice e))
  (hinfo : (P.info? e).map (fun i => (i.zero, i.size, i.bytes)) = some (some (.slice none 0 0), 1, 24))
  (base : Nat) (v vx : Value) (xs us : List Value) (hs : a.eval s = v) (hx : a.eval x = vx) (hown : w.ownsRow base e 1 v xs.length xs)
  (hr : (vx = .slice none 0 0 ∧ us = []) ∨ ∃ ad cap, vx = .slice (some ad) us.length cap ∧ ∀ j y, us[j]? = some y → w.cell? (ad.add j) = some y) (hu : ∀ y ∈ us, y.oneCell' = true)
  (hlen : xs.length + us.length ≤ 1099511627776) (hbase : base ≤ w.heap.size)
  (h : ∀ v' w', w'.ownsRow base e 1 v' (xs.length + us.length) (xs ++ us) → w.grownBy w' v.ownBlock → K (a.put o.dst v') w') : if Region.wanted o (yielded ops a.tmps) = true then Oper.wp P o a w K Q else E := by
 have hw : Region.wanted o (yielded ops a.tmps) = true := by simp [Region.wanted, hgd]
 rw [if_pos hw]
 obtain ⟨v', w', hr', h2, h3⟩ := Of (P := P) t o.type e ht hinfo base v vx xs us hown hr hu hlen hbase
 unfold Oper.wp execOp
 simp only [ho, resolve, invoke, builtin, Sem.run_bind, Sem.run_pure, Result.andThen_ok, List.map_toArray, List.map_cons, List.map_nil, hs, hx, hr']
 exact h v' w' h2 h3

theorem Cw (w : World) (e : TypeId) (u : Value) : (Value.slice (some ⟨w.heap.size, 0, none⟩) 1 1 = .slice none 0 0 ∧ [u] = []) ∨ ∃ ad cap, Value.slice (some ⟨w.heap.size, 0, none⟩) 1 1 = .slice (some ad) [u].length cap ∧ ∀ j y, [u][j]? = some y → (w.alloc (.cells #[u] e)).cell? (ad.add j) = some y := by
 refine .inr ⟨_, 1, rfl, fun j y hj => ?_⟩
 have hj0 : j = 0 := by
  have := (List.getElem?_eq_some_iff.1 hj).1
  simp at this
  exact this
 subst hj0
 have hh : (w.alloc (.cells #[u] e)).heap[w.heap.size]? = some (.cells #[u] e) := by
  show (w.heap.push _)[w.heap.size]? = _
  simp
 rw [Addr.add_lit]
 unfold World.cell?
 simp only [hh]
 simpa using hj
end
end Go.Proofs.YthobpbnaklnbiaaGreat

namespace Go.Proofs.YthobpbnaklnbiaaGreat
open Go.RowKit

def OwnB (C E : Nat) (e : TypeId) (w : World) (v : Value) (l : List Int) : Prop := Own C e w v l ∧ ∀ q, v.ownBlock = some q → q < E

theorem Own.here {C : Nat} {e : TypeId} {w : World} {v : Value} {l : List Int} (h : Own C e w v l) : OwnB C w.heap.size e w v l := ⟨h, fun q hq => (h.lt q hq).2⟩
theorem OwnB.has {C E : Nat} {e : TypeId} {w : World} {v : Value} {l : List Int} (h : OwnB C E e w v l) : Has w v l := h.1.has
theorem OwnB.below {C E : Nat} {e : TypeId} {w w' : World} {v : Value} {l : List Int} (h : OwnB C E e w v l) (hb : Below w.heap.size w w') : OwnB C E e w' v l := ⟨h.1.below hb, h.2⟩
theorem OwnB.outside {C E B D : Nat} {e : TypeId} {w w' : World} {v : Value} {l : List Int} (h : OwnB C E e w v l) (u : Aq B D w w') (hd : E ≤ B ∨ D ≤ C) : OwnB C E e w' v l := by
 refine ⟨⟨h.1.1, ?_⟩, h.2⟩
 rcases h.1.2 with hn | ⟨g, cap, cur, hv, hb, hg, rest⟩
 ·exact .inl hn
 ·refine .inr ⟨g, cap, cur, hv, hb, ?_, rest⟩
  have h1 := h.1.lt g (by rw [hv]; rfl)
  have h2 := h.2 g (by rw [hv]; rfl)
  rw [u.block g h1.2 (by omega)]
  exact hg
theorem E1 {C B D n : Nat} {e : TypeId} {w w' : World} {v : Value} {xs : List Value} (h : w.ownsRow C e 1 v n xs) (u : Aq B D w w') (hq : ∀ q, v.ownBlock = some q → q < B ∨ D ≤ q) : w'.ownsRow C e 1 v n xs := by
 have h' := h
 refine ⟨h.1, ?_⟩
 rcases h.2 with hn | ⟨g, cap, cur, hv, hb, hg, rest⟩
 ·exact .inl hn
 ·refine .inr ⟨g, cap, cur, hv, hb, ?_, rest⟩
  have h1 := h'.lt g (by rw [hv]; rfl)
  have h2 := hq g (by rw [hv]; rfl)
  rw [u.block g h1.2 h2]
  exact hg

theorem OwnN.outside {C E B D : Nat} {el eb : TypeId} {w w' : World} {v : Value} {n : List (List Int)} (h : OwnN C E el eb w v n) (u : Aq B D w w') (hd : E ≤ B ∨ D ≤ C) : OwnN C E el eb w' v n := by
 obtain ⟨vs, ho, hu, hdis, hv, he⟩ := h
 refine ⟨vs, E1 ho u (fun q hq => ?_), fun i hi => ?_, hdis, hv, he⟩
 ·have := (World.ownsRow.lt ho q hq).1
  have := hv q hq
  omega
 ·obtain ⟨x, h1, h2⟩ := hu i hi
  refine ⟨x, h1, E1 h2 u (fun q hq => ?_)⟩
  have := (h2.lt q hq).1
  have := he i x q h1 hq
  omega
theorem OwnN.hasL {C E : Nat} {el eb : TypeId} {w : World} {v : Value} {n : List (List Int)} (h : OwnN C E el eb w v n) : HasL w v n := h.ownL.hasL
end Go.Proofs.YthobpbnaklnbiaaGreat

namespace Go.Proofs.YthobpbnaklnbiaaGreat
open Go.RowKit

section
variable {P : Program} {w : World}
theorem Jw {ops : Array Oper} {rest : List Oper} {o : Oper} {a : Act} {Q : Exit → Act → World → Prop} (hgd : o.guard = none) (s x : Operand) (t e : TypeId)
  (ho : o.op = .call { callee := .builtin .append, args := #[s, x], argTypes := #[t, t] }) (ht : P.underlying t = some (.slice e))
  (hinfo : (P.info? e).map (fun i => (i.zero, i.size, i.bytes)) = some (some (.slice none 0 0), 1, 24))
  (base : Nat) (v vx : Value) (xs us : List Value) (hs : a.eval s = v) (hx : a.eval x = vx) (hown : w.ownsRow base e 1 v xs.length xs)
  (hr : (vx = .slice none 0 0 ∧ us = []) ∨ ∃ ad cap, vx = .slice (some ad) us.length cap ∧ ∀ j y, us[j]? = some y → w.cell? (ad.add j) = some y) (hu : ∀ y ∈ us, y.oneCell' = true)
  (hlen : xs.length + us.length ≤ 1099511627776) (hbase : base ≤ w.heap.size)
  (h : ∀ v' w', w'.ownsRow base e 1 v' (xs.length + us.length) (xs ++ us) → w.grownBy w' v.ownBlock → wpList P ops Q rest (a.put o.dst v') w') : wpList P ops Q (o :: rest) a w := by
 obtain ⟨i0, hi, hz0, hz1, hz2⟩ := info_parts hinfo
 rcases hr with ⟨rfl, rfl⟩ | ⟨ad, cap, rfl, hc⟩
 ·refine wpList_append_own_none hgd s x t ho base e i0 1 ht hi v xs.length xs hs hown hx ?_
  exact h v w (by simpa using hown) ⟨rfl, rfl, rfl, Nat.le_refl _, fun _ _ _ => rfl⟩
 ·refine wpList_append_own w hgd s x t ho base e i0 (.slice none 0 0) 1 24 ht hi hz0 hz1 hz2 rfl (by decide) v xs.length xs hs hown ad us.length cap us hx (by simp) hc hu (by unfold maxLen; omega) (by omega) hbase ?_
  intro v' w' ho' hg _
  exact h v' w' ho' hg
end

end Go.Proofs.YthobpbnaklnbiaaGreat

namespace Go.Proofs.YthobpbnaklnbiaaGreat
open Go.RowKit
set_option linter.unusedVariables false

theorem N7 : (Tryz.prog.info? 22).map (fun i => (i.zero, i.size, i.bytes)) = some (some (.slice none 0 0), 1, 24) := by kernel_rfl

def GotR (l : List Int) (N : List (List Int)) (w : World) (g : Nat) (s i : Value) (wr : World) : Prop :=
 ∃ (n : List (List Int)) (cur : List Int) (k E : Nat) (o : Value), i = .int .i64 k ∧ g + k = l.length + 2 ∧ ((k ≤ l.length ∧ n ++ rest (decide (0 < l.length)) (l.drop k) cur = N) ∨ (k = l.length + 1 ∧ n = N)) ∧ n.length ≤ k ∧ cur.length ≤ k ∧ Li cur ∧
  w.heap.size + 2 ≤ E ∧ E ≤ wr.heap.size ∧ wr.heap[w.heap.size]? = some (.cells #[.slice none 0 0] 25) ∧ wr.heap[w.heap.size + 1]? = some (.cells #[o] 25) ∧
  OwnN (w.heap.size + 2) E 22 5 wr o n ∧ Own E 5 wr s cur ∧ Below w.heap.size w wr

theorem Yn {B E : Nat} {el eb : TypeId} {w w' : World} {v : Value} {n : List (List Int)} (h : OwnN B E el eb w v n) (hb : Below E w w') : OwnN B E el eb w' v n :=
 h.outside (B := E) (D := w.heap.size) ⟨hb.os, hb.tape, hb.output, hb.size, fun k hk hn => hb.block k (by omega)⟩ (.inl (Nat.le_refl _))

set_option maxHeartbeats 8000000 in
set_option maxRecDepth 100000 in
theorem Gu {v : Value} {l : List Int} {w : World} (h : Has w v l) (hl : l.length ≤ 1048576) (hb : Li l) :
  Calls Tryz.prog 69 #[v] w fun e w' => ∃ v', e = .returned (.tuple #[.agg #[v'], .bool (A2 l).2]) ∧ OwnL w.heap.size 22 5 w' v' (A2 l).1 ∧ Below w.heap.size w w' := by
 have hs : ((strOfNums l).toList == (strOfNums [46]).toList) = decide (l = [46]) := Y5 l [46] (fun c hc => by
  obtain ⟨i, hi, rfl⟩ := List.getElem_of_mem hc
  have := hb i
  rwa [List.getD_eq_getElem?_getD, List.getElem?_eq_getElem hi] at this) (fun c hc => by simp at hc; omega)
 have hs46 : (strOfNums [46]).toList = [46] := by decide +kernel
 rw [hs46] at hs
 have bA := UI (w := w) (.cells #[.slice none 0 0] 25)
 have kA := heap_alloc_new w (.cells #[.slice none 0 0] 25)
 have cA := Nl (h.below bA)
 obtain ⟨a, cap, rfl, hcl⟩ := h.form
 by_cases h1 : l = [46]
 ·have e1 : A2 l = ([], true) := by unfold A2; rw [if_pos h1]
  rw [e1]
  rw [decide_eq_true h1] at hs
  clear h1 e1 hs46
  have c0 := US kA
  have f0 := VG kA 0
  have M0 := UC kA
  go_enter Tryz.func69, Tryz.ntmps69
  go_wp2_with fail
  refine bodyPost_ret (Ag rfl _ _ w.heap.size 25 #[.slice none 0 0] (0, 0) _ rfl (UB M0) Tryz.underlying25 rfl (by kernel_rfl)) rfl ?_
  exact ⟨_, rfl, ⟨[], by simpa using World.ownsRow_nil _ _ _ _, by simp, by simp⟩, bA⟩
 ·have e1 : A2 l = if Af (Gm l) = true then (Gm l, true) else ([], false) := by unfold A2; rw [if_neg h1]
  rw [e1]
  rw [decide_eq_false h1] at hs
  have hN : Gm l = rest (decide (0 < l.length)) l [] := rfl
  generalize Gm l = N at *
  have HN := UC hN
  generalize hRes : (if Af N = true then (N, true) else ([], false)) = Res
  have HRES := UC hRes
  clear hRes
  have hB8 := UC hb
  have H := UC h
  clear h1 e1 hs46 hN hb h hcl
  obtain ⟨hsz, k0, r0⟩ := box2 w (.cells #[.slice none 0 0] 25) #[.slice none 0 0] 25
  have b0 := Ba w (.cells #[.slice none 0 0] 25) (.cells #[.slice none 0 0] 25)
  go_enter Tryz.func69, Tryz.ntmps69
  go_wp2
  clear cA kA bA hs
  generalize (w.alloc (.cells #[.slice none 0 0] 25)).alloc (.cells #[.slice none 0 0] 25) = W at *
  go_loopg [5, 6] (l.length + 2) (fun g s i wr => GotR l N w g s i wr)
  case atStart => exact ⟨[], [], 0, w.heap.size + 2, .slice none 0 0, rfl, by omega, .inl ⟨Nat.zero_le _, by rw [List.nil_append, List.drop_zero]; exact (UB HN).symm⟩, by simp, by simp, Gx, Nat.le_refl _, by omega, k0, r0, ⟨[], by simpa using World.ownsRow_nil _ _ _ _, by simp, by simp, by simp [Value.ownBlock], by simp⟩, World.ownsRow_nil _ _ _ _, b0⟩
  case round =>
   clear k0 r0 b0 HN hsz
   obtain ⟨n, cur, k, E, o, rfl, hg, hR, hnk, hck, hc8, hE, hEw, kr, kn, ho, hcu, hbl⟩ := hrel
   obtain ⟨oa, oc, rfl, _⟩ := ho.hasL.form
   obtain ⟨ca, cc, rfl, _⟩ := hcu.lies
   have OK := UC ((UB H).below hbl)
   have HC8 := UC hc8
   have HO := UC ho
   have HCU := UC hcu
   clear hc8 ho hcu
   by_cases hk : k = l.length + 1
   ·have hN : n = N := by
     rcases hR with ⟨q, _⟩ | ⟨_, q⟩
     ·omega
     ·exact q
    subst hN
    have hk' : ¬ (k : Int) ≤ (l.length : Int) := by omega
    clear hR hk
    have cn := US kn
    have hRes := UB HRES
    cases hok : Af n with
    | false =>
     rw [hok, if_neg (by simp)] at hRes
     subst hRes
     have HNO := VO (UB HO).hasL
     rw [hok] at HNO
     have HNO := UC HNO
     clear hok
     go_wp2_with fail
     refine (UB HNO).mono ?_
     rintro e w1 ⟨rfl, b1⟩
     have k1 := UE b1 kr
     have c1 := US k1
     have f1 := VG k1 0
     have M1 := UC (At k1 (.slice none 0 0))
     have bb1 := UG hbl b1
     clear kr kn cn k1 b1
     go_wp2_with fail
     refine bodyPost_ret (Ag rfl _ _ w.heap.size 25 #[.slice none 0 0] (0, 0) _ rfl (UB M1) Tryz.underlying25 rfl (by kernel_rfl)) rfl ?_
     exact ⟨_, rfl, ⟨[], by simpa using World.ownsRow_nil _ _ _ _, by simp, by simp⟩, bb1.setCell (Nat.le_refl _) _⟩
    | true =>
     rw [hok, if_pos rfl] at hRes
     subst hRes
     have HNO := VO (UB HO).hasL
     rw [hok] at HNO
     have HNO := UC HNO
     clear hok
     go_wp2_with fail
     refine (UB HNO).mono ?_
     rintro e w1 ⟨rfl, b1⟩
     have k1 := UE b1 kr
     have c1 := US k1
     have cn1 := US (UE b1 kn)
     have f1 := VG k1 0
     have M1 := UC (At k1 (.slice oa n.length oc))
     have bb1 := UG hbl b1
     have O1 := UC ((UB HO).ownL.below b1)
     clear kr kn cn k1 b1
     go_wp2_with fail
     refine bodyPost_ret (Ag rfl _ _ w.heap.size 25 #[.slice oa n.length oc] (0, 0) _ rfl (UB M1) Tryz.underlying25 rfl (by kernel_rfl)) rfl ?_
     exact ⟨_, rfl, ((UB O1).kept (Aa _ _ _) (by show w.heap.size < _; omega)).mono (by omega), bb1.setCell (Nat.le_refl _) _⟩
   ·obtain ⟨hkl, hR⟩ : k ≤ l.length ∧ n ++ rest (decide (0 < l.length)) (l.drop k) cur = N := by
     rcases hR with q | ⟨q, _⟩
     ·exact q
     ·omega
    clear hk
    have hkl' : (k : Int) ≤ (l.length : Int) := by omega
    obtain ⟨G, rfl⟩ : ∃ G, gk = G + 1 := ⟨gk - 1, by omega⟩
    by_cases hlt : k < l.length
    ·have hlt' : (k : Int) < (l.length : Int) := by omega
     obtain ⟨a', cap', e', hLi⟩ := (UB OK).form
     obtain ⟨rfl, rfl⟩ : a = a' ∧ cap = cap' := by simpa using e'
     obtain ⟨b, off, rfl, hbk, hcx⟩ := hLi.here hlt
     clear e' hLi
     have hx := UB hB8 k
     by_cases hx46 : l.getD k 0 = 46
     ·rw [Z0 hlt hx46] at hR
      rw [hx46] at hcx
      clear hx46 hx
      have hkne : ((k : Int) == (l.length : Int)) = false := by rw [beq_eq_false_iff_ne]; omega
      have hod := (UB HO).ownL.below (UX (w := wr))
      obtain ⟨vs, hvs, hva, hvd⟩ := hod
      have hvl : vs.length = n.length := by have := hvs.1; simpa using this
      have cn := US kn
      have knd := UE (UX (w := wr)) kn
      have krd := UE (UX (w := wr)) kr
      have bd := UG hbl (UX (w := wr))
      have cod := US knd
      have HUd := UC ((UB HCU).below (UX (w := wr)))
      have HVS := UC hvs
      have HVA := UC hva
      have HVD := UC hvd
      have zn := VC kn
      have zb : w.heap.size + 2 ≤ wr.drew.heap.size := by show w.heap.size + 2 ≤ wr.heap.size; omega
      have KND := UC knd
      have KRD := UC krd
      have ca0 : ∀ o, (wr.alloc o).cell? ⟨w.heap.size + 1, 0, none⟩ = some (.slice oa n.length oc) := fun o => US (UE (UI o) kn)
      have hcl5 : cur.length ≤ 1048576 := by omega
      have SL := UC (fun (w : World) (h : Own E 5 w (.slice ca cur.length cc) cur) => F9 h hcl5 (UB HC8))
      generalize hlw : Be cur cur.length = lw at *
      have HLW := UC hlw
      have HRR := UC hR
      clear hlw knd krd kn kr hva hvd hvs hR
      generalize hLN : l.length = L at *
      have HLN := UC hLN
      clear hLN
      go_wp2_with fail
      go_region_law (first
       | (refine Bf rfl (.tmp 49) (.tmp 52) 23 22 rfl Tryz.underlying23 N7 (w.heap.size + 2) (.slice oa n.length oc) _ vs [.slice u2a lw.length u2c] (by simp [Act.eval]) (by simp [Act.eval]) (by rw [hvl]; exact World.ownsRow.alloc (Ay (UB HVS) (UB B2)) _) (Cw w2 22 _) (by intro y hy; simp at hy; subst hy; rfl) (by rw [hvl]; simp; omega) (by have := (UB B2).size; simp; omega) ?_; intro v3 w3 o3 g3; obtain ⟨p3, k3, y3⟩ := Gr g3 o3 (by simp [hvl]) (UB HVS) (UB HVA) (UB HVD) ((UB B2).alloc (UB B2).size _) ((UB OU).alloc _) zb (by decide) (UE (UI _) (UE (UB B2) (UB KND))) (by decide); obtain ⟨v3a, v3c, rfl, _⟩ := p3.hasL.form; have co3 := US k3; have fo3 := VG k3 0)
       | (go_simp; go_at_call 100; refine (UB SL _ (UB HUd)).mono ?_; rintro e w2 ⟨u2, rfl, ou, b2⟩; obtain ⟨u2a, u2c, rfl, _⟩ := ou.lies; have OU := UC ou; have B2 := UC b2; have co2 := US (UE b2 (UB KND)); have ca2 : ∀ o, (w2.alloc o).cell? ⟨w.heap.size + 1, 0, none⟩ = some (.slice oa n.length oc) := (fun o => US (UE (UI o) (UE b2 (UB KND)))); clear ou b2))
      all_goals
       go_wp2_with fail
       go_roundg G
       case measure => omega
       case rel =>
        have k1 := (y3.block w.heap.size (by omega)).trans (UB KRD)
        simp only [List.length_append, List.length_cons, List.length_nil] at p3
        have hLN := UB HLN
        subst hLN
        have hR := UB HRR
        have z3 := VC k3
        refine ⟨n ++ [lw], [], k + 1, _, _, by go_num, by omega, .inl ⟨by omega, by rw [List.append_assoc]; exact hR⟩, by simp; omega, by simp, Gx, ?_, Nat.le_refl _, Eb k1 (by omega) 0 _, At k3 _, OwnL.here (p3.kept (Aa _ _ _) (by show w.heap.size + 1 < _; omega)), World.ownsRow_nil _ _ _ _, (bd.trans (y3.mono (by omega))).setCell (by show w.heap.size ≤ w.heap.size + 1; omega) _⟩
        have := (Aa w3 ⟨w.heap.size + 1, 0, none⟩ (.slice v3a (n.length + 1) v3c)).size
        omega
     ·rw [Va hlt hx46] at hR
      generalize l.getD k 0 = x at *
      have hx46' : (x == 46) = false := by rw [beq_eq_false_iff_ne]; exact hx46
      have HRR := UC hR
      clear hR hx46
      generalize hLN : l.length = L at *
      have HLN := UC hLN
      clear hLN
      have KN := UC kn
      have KR := UC kr
      clear kn kr
      have hca : ∀ o, (wr.alloc o).cell? ⟨b, off + k, none⟩ = some (.int .u8 x) := fun o => ((UI o).cell (p := ⟨b, off + k, none⟩) hbk).trans hcx
      go_wp2_with (at_builtin; refine A1 rfl _ _ 22 5 rfl Tryz.underlying22 VJ E (.slice ca cur.length cc) _ cur [x] rfl rfl ((UB HCU).alloc _) (Co wr 0 5 [x] (Nat.zero_le _) (by simp [maxLen])).reads (by simp; omega) (by simp; omega) ?_)
      intro v2 w2 o2 g2
      have b2 : Below E wr w2 := ((Below.refl _ _).alloc hEw _).grown g2 (by simp; omega) (fun q hq => ((UB HCU).lt q hq).1)
      clear g2
      go_wp2_with fail
      go_roundg G
      case measure => omega
      case rel =>
       have hLN := UB HLN
       subst hLN
       exact ⟨n, cur ++ [x], k + 1, E, _, by go_num, by omega, .inl ⟨by omega, UB HRR⟩, by omega, by simp; omega, Sq (UB HC8) hx.1 hx.2, hE, Nat.le_trans hEw b2.size, (b2.block w.heap.size (by omega)).trans (UB KR), (b2.block (w.heap.size + 1) (by omega)).trans (UB KN), Yn (UB HO) b2, o2, hbl.trans (b2.mono (by omega))⟩
    ·obtain rfl : k = l.length := by omega
     rw [Yg] at hR
     by_cases hce : cur.length = 0 ∧ decide (0 < l.length) = true
     ·rw [if_pos hce, List.append_nil] at hR
      obtain ⟨hc0, hl0⟩ := hce
      subst hR
      have hl0' : (0 : Int) < (l.length : Int) := by simp at hl0; omega
      obtain rfl : cur = [] := List.eq_nil_of_length_eq_zero hc0
      simp only [List.length_nil] at *
      clear hc0 hl0
      have cn := US kn
      have hRes := UB HRES
      generalize hLN : l.length = L at *
      have HLN := UC hLN
      clear hLN
      cases hok : Af n with
      | false =>
       rw [hok, if_neg (by simp)] at hRes
       subst hRes
       have HNO := VO (UB HO).hasL
       rw [hok] at HNO
       have HNO := UC HNO
       clear hok
       go_wp2_with fail
       refine (UB HNO).mono ?_
       rintro e w1 ⟨rfl, b1⟩
       have k1 := UE b1 kr
       have c1 := US k1
       have f1 := VG k1 0
       have M1 := UC (At k1 (.slice none 0 0))
       have bb1 := UG hbl b1
       clear kr kn cn k1 b1
       go_wp2_with fail
       refine bodyPost_ret (Ag rfl _ _ w.heap.size 25 #[.slice none 0 0] (0, 0) _ rfl (UB M1) Tryz.underlying25 rfl (by kernel_rfl)) rfl ?_
       exact ⟨_, rfl, ⟨[], by simpa using World.ownsRow_nil _ _ _ _, by simp, by simp⟩, bb1.setCell (Nat.le_refl _) _⟩
      | true =>
       rw [hok, if_pos rfl] at hRes
       subst hRes
       have HNO := VO (UB HO).hasL
       rw [hok] at HNO
       have HNO := UC HNO
       clear hok
       go_wp2_with fail
       refine (UB HNO).mono ?_
       rintro e w1 ⟨rfl, b1⟩
       have k1 := UE b1 kr
       have c1 := US k1
       have cn1 := US (UE b1 kn)
       have f1 := VG k1 0
       have M1 := UC (At k1 (.slice oa n.length oc))
       have bb1 := UG hbl b1
       have O1 := UC ((UB HO).ownL.below b1)
       clear kr kn cn k1 b1
       go_wp2_with fail
       refine bodyPost_ret (Ag rfl _ _ w.heap.size 25 #[.slice oa n.length oc] (0, 0) _ rfl (UB M1) Tryz.underlying25 rfl (by kernel_rfl)) rfl ?_
       exact ⟨_, rfl, ((UB O1).kept (Aa _ _ _) (by show w.heap.size < _; omega)).mono (by omega), bb1.setCell (Nat.le_refl _) _⟩
     ·rw [if_neg hce] at hR
      by_cases hc0 : cur.length = 0
      ·have hcq : ((cur.length : Int) == 0) = true := by rw [beq_iff_eq]; omega
       have hl0 : l.length = 0 := by
        by_cases q : l.length = 0
        ·exact q
        ·exact absurd ⟨hc0, decide_eq_true (by omega)⟩ hce
       have hl0' : ¬ (0 : Int) < (l.length : Int) := by omega
       clear hce hl0 hc0
       have hod := (UB HO).ownL.below (UX (w := wr))
       obtain ⟨vs, hvs, hva, hvd⟩ := hod
       have hvl : vs.length = n.length := by have := hvs.1; simpa using this
       have cn := US kn
       have knd := UE (UX (w := wr)) kn
       have krd := UE (UX (w := wr)) kr
       have bd := UG hbl (UX (w := wr))
       have cod := US knd
       have HUd := UC ((UB HCU).below (UX (w := wr)))
       have HVS := UC hvs
       have HVA := UC hva
       have HVD := UC hvd
       have zn := VC kn
       have zb : w.heap.size + 2 ≤ wr.drew.heap.size := by show w.heap.size + 2 ≤ wr.heap.size; omega
       have KND := UC knd
       have KRD := UC krd
       have ca0 : ∀ o, (wr.alloc o).cell? ⟨w.heap.size + 1, 0, none⟩ = some (.slice oa n.length oc) := fun o => US (UE (UI o) kn)
       have hcl5 : cur.length ≤ 1048576 := by omega
       have SL := UC (fun (w : World) (h : Own E 5 w (.slice ca cur.length cc) cur) => F9 h hcl5 (UB HC8))
       generalize hlw : Be cur cur.length = lw at *
       have HLW := UC hlw
       have HRR := UC hR
       clear hlw knd krd kn kr hva hvd hvs hR
       generalize hLN : l.length = L at *
       have HLN := UC hLN
       clear hLN
       go_wp2_with fail
       go_region_law (first
        | (refine Bf rfl (.tmp 49) (.tmp 52) 23 22 rfl Tryz.underlying23 N7 (w.heap.size + 2) (.slice oa n.length oc) _ vs [.slice u2a lw.length u2c] (by simp [Act.eval]) (by simp [Act.eval]) (by rw [hvl]; exact World.ownsRow.alloc (Ay (UB HVS) (UB B2)) _) (Cw w2 22 _) (by intro y hy; simp at hy; subst hy; rfl) (by rw [hvl]; simp; omega) (by have := (UB B2).size; simp; omega) ?_; intro v3 w3 o3 g3; obtain ⟨p3, k3, y3⟩ := Gr g3 o3 (by simp [hvl]) (UB HVS) (UB HVA) (UB HVD) ((UB B2).alloc (UB B2).size _) ((UB OU).alloc _) zb (by decide) (UE (UI _) (UE (UB B2) (UB KND))) (by decide); obtain ⟨v3a, v3c, rfl, _⟩ := p3.hasL.form; have co3 := US k3; have fo3 := VG k3 0)
        | (go_simp; go_at_call 100; refine (UB SL _ (UB HUd)).mono ?_; rintro e w2 ⟨u2, rfl, ou, b2⟩; obtain ⟨u2a, u2c, rfl, _⟩ := ou.lies; have OU := UC ou; have B2 := UC b2; have co2 := US (UE b2 (UB KND)); have ca2 : ∀ o, (w2.alloc o).cell? ⟨w.heap.size + 1, 0, none⟩ = some (.slice oa n.length oc) := (fun o => US (UE (UI o) (UE b2 (UB KND)))); clear ou b2))
       all_goals
        go_wp2_with fail
        go_roundg G
        case measure => omega
        case rel =>
         have k1 := (y3.block w.heap.size (by omega)).trans (UB KRD)
         simp only [List.length_append, List.length_cons, List.length_nil] at p3
         have hLN := UB HLN
         subst hLN
         have hR := UB HRR
         have z3 := VC k3
         refine ⟨n ++ [lw], [], l.length + 1, _, _, by go_num, by omega, .inr ⟨rfl, hR⟩, by simp; omega, by simp, Gx, ?_, Nat.le_refl _, Eb k1 (by omega) 0 _, At k3 _, OwnL.here (p3.kept (Aa _ _ _) (by show w.heap.size + 1 < _; omega)), World.ownsRow_nil _ _ _ _, (bd.trans (y3.mono (by omega))).setCell (by show w.heap.size ≤ w.heap.size + 1; omega) _⟩
         have := (Aa w3 ⟨w.heap.size + 1, 0, none⟩ (.slice v3a (n.length + 1) v3c)).size
         omega
      ·have hcq : ((cur.length : Int) == 0) = false := by rw [beq_eq_false_iff_ne]; omega
       clear hce hc0
       have hod := (UB HO).ownL.below (UX (w := wr))
       obtain ⟨vs, hvs, hva, hvd⟩ := hod
       have hvl : vs.length = n.length := by have := hvs.1; simpa using this
       have cn := US kn
       have knd := UE (UX (w := wr)) kn
       have krd := UE (UX (w := wr)) kr
       have bd := UG hbl (UX (w := wr))
       have cod := US knd
       have HUd := UC ((UB HCU).below (UX (w := wr)))
       have HVS := UC hvs
       have HVA := UC hva
       have HVD := UC hvd
       have zn := VC kn
       have zb : w.heap.size + 2 ≤ wr.drew.heap.size := by show w.heap.size + 2 ≤ wr.heap.size; omega
       have KND := UC knd
       have KRD := UC krd
       have ca0 : ∀ o, (wr.alloc o).cell? ⟨w.heap.size + 1, 0, none⟩ = some (.slice oa n.length oc) := fun o => US (UE (UI o) kn)
       have hcl5 : cur.length ≤ 1048576 := by omega
       have SL := UC (fun (w : World) (h : Own E 5 w (.slice ca cur.length cc) cur) => F9 h hcl5 (UB HC8))
       generalize hlw : Be cur cur.length = lw at *
       have HLW := UC hlw
       have HRR := UC hR
       clear hlw knd krd kn kr hva hvd hvs hR
       generalize hLN : l.length = L at *
       have HLN := UC hLN
       clear hLN
       go_wp2_with fail
       go_region_law (first
        | (refine Bf rfl (.tmp 49) (.tmp 52) 23 22 rfl Tryz.underlying23 N7 (w.heap.size + 2) (.slice oa n.length oc) _ vs [.slice u2a lw.length u2c] (by simp [Act.eval]) (by simp [Act.eval]) (by rw [hvl]; exact World.ownsRow.alloc (Ay (UB HVS) (UB B2)) _) (Cw w2 22 _) (by intro y hy; simp at hy; subst hy; rfl) (by rw [hvl]; simp; omega) (by have := (UB B2).size; simp; omega) ?_; intro v3 w3 o3 g3; obtain ⟨p3, k3, y3⟩ := Gr g3 o3 (by simp [hvl]) (UB HVS) (UB HVA) (UB HVD) ((UB B2).alloc (UB B2).size _) ((UB OU).alloc _) zb (by decide) (UE (UI _) (UE (UB B2) (UB KND))) (by decide); obtain ⟨v3a, v3c, rfl, _⟩ := p3.hasL.form; have co3 := US k3; have fo3 := VG k3 0)
        | (go_simp; go_at_call 100; refine (UB SL _ (UB HUd)).mono ?_; rintro e w2 ⟨u2, rfl, ou, b2⟩; obtain ⟨u2a, u2c, rfl, _⟩ := ou.lies; have OU := UC ou; have B2 := UC b2; have co2 := US (UE b2 (UB KND)); have ca2 : ∀ o, (w2.alloc o).cell? ⟨w.heap.size + 1, 0, none⟩ = some (.slice oa n.length oc) := (fun o => US (UE (UI o) (UE b2 (UB KND)))); clear ou b2))
       all_goals
        go_wp2_with fail
        go_roundg G
        case measure => omega
        case rel =>
         have k1 := (y3.block w.heap.size (by omega)).trans (UB KRD)
         simp only [List.length_append, List.length_cons, List.length_nil] at p3
         have hLN := UB HLN
         subst hLN
         have hR := UB HRR
         have z3 := VC k3
         refine ⟨n ++ [lw], [], l.length + 1, _, _, by go_num, by omega, .inr ⟨rfl, hR⟩, by simp; omega, by simp, Gx, ?_, Nat.le_refl _, Eb k1 (by omega) 0 _, At k3 _, OwnL.here (p3.kept (Aa _ _ _) (by show w.heap.size + 1 < _; omega)), World.ownsRow_nil _ _ _ _, (bd.trans (y3.mono (by omega))).setCell (by show w.heap.size ≤ w.heap.size + 1; omega) _⟩
         have := (Aa w3 ⟨w.heap.size + 1, 0, none⟩ (.slice v3a (n.length + 1) v3c)).size
         omega
def Ca (s : ByteArray) : List Int := s.data.toList.map (fun b => (b.toNat : Int))
theorem Bw (s : ByteArray) : (Ca s).length = s.size := by simp [Ca]
theorem Kl (s : ByteArray) : Li (Ca s) := fun k => by
 unfold Ca
 rw [List.getD_eq_getElem?_getD, List.getElem?_map]
 cases hk : s.data.toList[k]? with
 | none => simp
 | some y =>
  have := y.toNat_lt
  simp
  omega
theorem I3 (w : World) (e : TypeId) (s : ByteArray) (c : Nat) (fz : Nat × Nat) (h1 : s.size ≤ c) (h2 : c ≤ maxLen) :
  Has (w.alloc (.cells (bytesRow s c) e fz)) (.slice (some ⟨w.heap.size, 0, none⟩) s.size c) (Ca s) := by
 refine .inr ⟨w.heap.size, 0, c, by rw [Bw], by show w.heap.size < (w.heap.push _).size; simp, by rw [Bw]; exact h1, h2, fun i hi => ?_⟩
 rw [Bw] at hi
 have hi' : i < s.data.size := hi
 have hh : (w.alloc (.cells (bytesRow s c) e fz)).heap[w.heap.size]? = some (.cells (bytesRow s c) e fz) := by
  show (w.heap.push _)[w.heap.size]? = _
  simp
 have hc := bytesRow_at s c i hi'
 have hn : (Ca s).getD i 0 = (s.data[i].toNat : Int) := by
  unfold Ca
  rw [List.getD_eq_getElem?_getD, List.getElem?_map]
  rw [Array.getElem?_toList, Array.getElem?_eq_getElem hi']
  rfl
 rw [hn, Nat.zero_add]
 unfold World.cell?
 simp only [hh]
 exact hc
set_option maxHeartbeats 1000000 in
set_option maxRecDepth 100000 in
theorem Gp (s : ByteArray) (w : World) (hs : s.size ≤ 1048576) :
  Calls Tryz.prog 84 #[.string s] w fun e w' => ∃ v', e = .returned (.agg #[v']) ∧ OwnL w.heap.size 22 5 w' v' (A2 (Ca s)).1 ∧ Below w.heap.size w w' := by
 have b0 := UI (w := w) (.cells #[.slice none 0 0] 25)
 have k0 := heap_alloc_new w (.cells #[.slice none 0 0] 25)
 have hcv := run_bytes_of_string (P := Tryz.prog) (w.alloc (.cells #[.slice none 0 0] 25)) 9 22 5 s Tryz.underlying9 Tryz.underlying22 Tryz.underlying5
 have hcap := grownCap_ge (w.alloc (.cells #[.slice none 0 0] 25)) s.size 0 5
 have hcap2 := grownCap_le_maxLen (w.alloc (.cells #[.slice none 0 0] 25)) s.size 0 5 (by unfold maxLen; omega)
 have hnl := Bw s
 generalize grownCap (w.alloc (.cells #[.slice none 0 0] 25)) s.size 0 5 = C at *
 have esz : (w.alloc (.cells #[.slice none 0 0] 25)).heap.size = w.heap.size + 1 := by show (w.heap.push _).size = _; simp
 have ba := UI (w := w.alloc (.cells #[.slice none 0 0] 25)) (.cells (bytesRow s C) 5 ((bytesRow s C).size, (bytesRow s C).size + 1))
 have bd := UX (w := (w.alloc (.cells #[.slice none 0 0] 25)).alloc (.cells (bytesRow s C) 5 ((bytesRow s C).size, (bytesRow s C).size + 1)))
 have HR := Gu ((I3 (w.alloc (.cells #[.slice none 0 0] 25)) 5 s C ((bytesRow s C).size, (bytesRow s C).size + 1) hcap hcap2).below bd) (by omega) (Kl s)
 rw [esz] at HR
 have HR := UC HR
 have K1 := UC (UE bd (UE ba k0))
 have bb1 := UG (UG b0 ba) bd
 have z0 := VC k0
 have z1 := bb1.size
 have zk := VC (UB K1)
 clear k0 b0 bd ba hcap hcap2 hnl esz
 generalize (A2 (Ca s)).1 = R at *
 generalize (A2 (Ca s)).2 = R2 at *
 go_enter Tryz.func84, Tryz.ntmps84
 go_wp2_with fail
 generalize ((w.alloc (.cells #[.slice none 0 0] 25)).alloc (.cells (bytesRow s C) 5 ((bytesRow s C).size, (bytesRow s C).size + 1))).drew = W at *
 refine (UB HR).mono ?_
 rintro e w1 ⟨v1, rfl, o1, b1⟩
 obtain ⟨oa, oc, rfl, _⟩ := o1.hasL.form
 have bm := UI (w := w1) (.cells #[.slice oa R.length oc] 25)
 have cm := US (heap_alloc_new w1 (.cells #[.slice oa R.length oc] 25))
 have k2 := UE bm (UE b1 (UB K1))
 have c2 := US k2
 have f2 := VG k2 0
 have K2 := UC (At k2 (.slice oa R.length oc))
 have O2 := UC (o1.below bm)
 have bb2 := UG (UG bb1 b1) bm
 have z2 := b1.size
 clear HR hcv o1 b1 bm k2 K1 bb1
 go_wp2_with fail
 refine bodyPost_ret (results_cell_row rfl _ _ w.heap.size 25 #[.slice oa R.length oc] (0, 0) _ rfl (UB K2) Tryz.underlying25 rfl (by kernel_rfl)) rfl ?_
 exact ⟨_, rfl, ((UB O2).kept (Aa _ _ _) (by show w.heap.size < _; omega)).mono (by omega), bb2.setCell (Nat.le_refl _) _⟩
end Go.Proofs.YthobpbnaklnbiaaGreat
