/-
  Plain facts: a row of slices put behind another one; a name with one label more ahead. No program is named here. Contracts of the specification's NameRead.
-/
import Derived.Test.YtkhiklemhkeakaaDoorFnSumsG09
import Derived.Test.YtkhiklemhkeakaaDoorFnSumsG19
import Derived.Test.YtkhiklemhkeakaaDoorFnSumsG04
import Derived.Test.YtkhiklemhkeakaaDoorFnSumsG27
import Derived.Test.YtkhiklemhkeakaaDoorFnSumsG28
import Derived.Test.YtkhiklemhkeakaaDoorFnSumsG29
import Derived.Test.YtkhiklemhkeakaaDoorFnSumsG24
import Derived.Deep.LoopGhost
namespace Go.Proofs.YtkhiklemhkeakaaDoor
open Go.RowKit

/-- A row whose values own their bytes, behind a growth of a row of another type. -/
theorem OwnL.of_row {B : Nat} {el eb : TypeId} {W w' : World} {row : Option Nat} {v' : Value} {us : List Value} {ns : List (List Int)} (g : W.grownBy w' row) (ho' : w'.ownsRow B el 1 v' ns.length us)
    (hu : ∀ i, i < ns.length → ∃ x, us[i]? = some x ∧ Own B eb W x (ns.getD i [])) (hd : ∀ (i j : Nat) (x x' : Value), i < j → us[i]? = some x → us[j]? = some x' → x.ownBlock = none ∨ x.ownBlock ≠ x'.ownBlock)
    (hrow : ∀ q, row = some q → ∃ c, W.heap[q]? = some (.cells c el)) (hne : el ≠ eb) : OwnL B el eb w' v' ns := by
  refine ⟨us, ho', fun i hi => ?_, hd⟩
  obtain ⟨x, h1, h2⟩ := hu i hi
  refine ⟨x, h1, h2.kept g ?_⟩
  cases hq : x.ownBlock with
  | none => exact .inl rfl
  | some q =>
    right
    intro e
    obtain ⟨c, hc⟩ := hrow q e.symm
    exact h2.apart hc hne hq

theorem row_block {B n : Nat} {e : TypeId} {w : World} {v : Value} {xs : List Value} (h : w.ownsRow B e 1 v n xs) : ∀ q, v.ownBlock = some q → ∃ c, w.heap[q]? = some (.cells c e) := by
  intro q hq
  rcases h.2 with ⟨rfl, _⟩ | ⟨g, cap, cur, rfl, _, hg, _⟩
  · simp [Value.ownBlock] at hq
  · simp [Value.ownBlock] at hq
    subst hq
    exact ⟨cur, hg⟩

/-- What an append of a row of slices reads. -/
theorem row_reads {B n : Nat} {e : TypeId} {w : World} {v : Value} {xs : List Value} (h : w.ownsRow B e 1 v n xs) : (v = .slice none 0 0 ∧ xs = []) ∨ ∃ ad cap, v = .slice (some ad) xs.length cap ∧ ∀ j y, xs[j]? = some y → w.cell? (ad.add j) = some y := by
  have hl : xs.length = n := by have := h.1; simpa using this
  have h' := h
  rcases h.2 with ⟨rfl, h0⟩ | ⟨g, cap, cur, rfl, _, hg, _⟩
  · exact .inl ⟨rfl, List.eq_nil_of_length_eq_zero (by omega)⟩
  · refine .inr ⟨⟨g, 0, none⟩, cap, by rw [hl], fun j y hj => ?_⟩
    have hjl := (List.getElem?_eq_some_iff.1 hj).1
    rw [Addr.add_lit, Nat.zero_add, World.ownsRow.cellAt h' j (by omega)]
    exact hj

section
variable {P : Program} {w : World}
/-- 'append(s, x...)' of slices, where no order is drawn. -/
theorem append_row {ops : Array Oper} {rest : List Oper} {o : Oper} {a : Act} {Q : Exit → Act → World → Prop} (hgd : o.guard = none) (s x : Operand) (t e : TypeId)
    (ho : o.op = .call { callee := .builtin .append, args := #[s, x], argTypes := #[t, t] }) (ht : P.underlying t = some (.slice e))
    (hinfo : (P.info? e).map (fun i => (i.zero, i.size, i.bytes)) = some (some (.slice none 0 0), 1, 24))
    (base : Nat) (v vx : Value) (xs us : List Value) (hs : a.eval s = v) (hx : a.eval x = vx) (hown : w.ownsRow base e 1 v xs.length xs)
    (hr : (vx = .slice none 0 0 ∧ us = []) ∨ ∃ ad cap, vx = .slice (some ad) us.length cap ∧ ∀ j y, us[j]? = some y → w.cell? (ad.add j) = some y) (hu : ∀ y ∈ us, y.oneCell' = true)
    (hlen : xs.length + us.length ≤ 1099511627776) (hbase : base ≤ w.heap.size)
    (h : ∀ v' w', w'.ownsRow base e 1 v' (xs.length + us.length) (xs ++ us) → w.grownBy w' v.ownBlock → wpList P ops Q rest (a.put o.dst v') w') : wpList P ops Q (o :: rest) a w := by
  obtain ⟨i0, hi, hz0, hz1, hz2⟩ := info_parts hinfo
  rcases hr with ⟨rfl, rfl⟩ | ⟨ad, cap, rfl, hc⟩
  · refine wpList_append_own_none hgd s x t ho base e i0 1 ht hi v xs.length xs hs hown hx ?_
    exact h v w (by simpa using hown) ⟨rfl, rfl, rfl, Nat.le_refl _, fun _ _ _ => rfl⟩
  · refine wpList_append_own w hgd s x t ho base e i0 (.slice none 0 0) 1 24 ht hi hz0 hz1 hz2 rfl (by decide) v xs.length xs hs hown ad us.length cap us hx (by simp) hc hu (by unfold maxLen; omega) (by omega) hbase ?_
    intro v' w' ho' hg _
    exact h v' w' ho' hg
end

/-- The values of a list of texts of the call's own are slices. -/
theorem own_one {B : Nat} {e : TypeId} {w : World} {v : Value} {l : List Int} (h : Own B e w v l) : v.oneCell' = true := by
  obtain ⟨a, cap, rfl, _⟩ := h.lies
  rfl

/-- A row of one slice, made anew. -/
theorem row_one (w : World) (B : Nat) (e : TypeId) (u : Value) (hB : B ≤ w.heap.size) : (w.alloc (.cells #[u] e)).ownsRow B e 1 (.slice (some ⟨w.heap.size, 0, none⟩) 1 1) 1 [u] := by
  have h := World.ownsRow_lit (base := B) (e := e) (size := 1) w #[u] 1 hB (by unfold maxLen; omega) (by simp)
  simpa using h

/-- n with one label more ahead. -/
def childOf (n : List (List Int)) (l : List Int) : List (List Int) × Bool := if nameOk n = true ∧ n.length ≠ 6 ∧ labelOk l = true then (l :: n, true) else ([], false)
theorem childOf_yes {n : List (List Int)} {l : List Int} (h : nameOk n = true) (h6 : n.length ≠ 6) (hl : labelOk l = true) : childOf n l = (l :: n, true) := by unfold childOf; rw [if_pos ⟨h, h6, hl⟩]
theorem childOf_no {n : List (List Int)} {l : List Int} (h : nameOk n = false ∨ n.length = 6 ∨ labelOk l = false) : childOf n l = ([], false) := by
  unfold childOf
  rw [if_neg]
  rintro ⟨h1, h2, h3⟩
  rcases h with h | h | h
  · rw [h1] at h; cases h
  · exact h2 h
  · rw [h3] at h; cases h
theorem cons_getD (n : List (List Int)) (l : List Int) (j : Nat) : (l :: n).getD (j + 1) [] = n.getD j [] := by simp [List.getD]
theorem nameOk_cons (n : List (List Int)) (l : List Int) (h : nameOk n = true) : nameOk (l :: n) = decide (n.length ≠ 6 ∧ labelOk l = true) := by
  obtain ⟨h1, h2⟩ := nameOk_parts h
  by_cases hc : n.length ≠ 6 ∧ labelOk l = true
  · rw [decide_eq_true hc]
    refine nameOk_yes (by simp; omega) fun j hj => ?_
    cases j with
    | zero => exact hc.2
    | succ j => rw [cons_getD]; exact h2 j (by simp at hj; omega)
  · rw [decide_eq_false hc]
    by_cases h6 : n.length = 6
    · exact nameOk_long (by simp; omega)
    · have hl : labelOk l = false := by
        cases hl : labelOk l with
        | false => rfl
        | true => exact absurd ⟨h6, hl⟩ hc
      exact nameOk_label (n := l :: n) (j := 0) (by simp) hl
theorem childOf_bound (n : List (List Int)) (l : List Int) : (childOf n l).1.length ≤ 6 ∧ ∀ i, i < (childOf n l).1.length → ((childOf n l).1.getD i []).length ≤ 15 := by
  unfold childOf
  split
  · rename_i h
    have hk := nameOk_cons n l h.1
    rw [decide_eq_true h.2] at hk
    obtain ⟨h1, h2⟩ := nameOk_parts hk
    exact ⟨h1, fun i hi => (labelOk_length (h2 i hi)).2⟩
  · simp

/-- A list of texts of the call's own, one more ahead. -/
theorem cons_step {B C m : Nat} {el eb : TypeId} {W w' : World} {vr v' u : Value} {n : List (List Int)} {l : List Int} {vs : List Value} (g : W.grownBy w' vr.ownBlock) (hr : W.ownsRow B el 1 vr 1 [u]) (ho' : w'.ownsRow B el 1 v' m (u :: vs)) (hm : m = 1 + n.length)
    (hu : OwnB B C eb W u l) (hvs : vs.length = n.length) (hva : ∀ i, i < n.length → ∃ x, vs[i]? = some x ∧ Own C eb W x (n.getD i [])) (hvd : ∀ (i j : Nat) (x x' : Value), i < j → vs[i]? = some x → vs[j]? = some x' → x.ownBlock = none ∨ x.ownBlock ≠ x'.ownBlock)
    (hBC : B ≤ C) (hne : el ≠ eb) : OwnL B el eb w' v' (l :: n) := by
  have e : m = (l :: n).length := by simp; omega
  rw [e] at ho'
  refine OwnL.of_row g (us := u :: vs) ho' (fun i hi => ?_) (fun i j x x' hij hx hx' => ?_) (row_block hr) hne
  · cases i with
    | zero => exact ⟨u, rfl, hu.1⟩
    | succ i =>
      obtain ⟨x, h1, h2⟩ := hva i (by simp at hi; omega)
      exact ⟨x, h1, by rw [cons_getD]; exact h2.mono hBC⟩
  · cases j with
    | zero => omega
    | succ j =>
      cases i with
      | zero =>
        simp at hx hx'
        subst hx
        have hj : j < n.length := by rw [← hvs]; exact (List.getElem?_eq_some_iff.1 hx').1
        obtain ⟨y, h1, h2⟩ := hva j hj
        rw [hx'] at h1
        obtain rfl : x' = y := by simpa using h1
        cases hq : u.ownBlock with
        | none => exact .inl rfl
        | some q =>
          right
          intro e
          have := hu.2 q hq
          have := (h2.lt q e.symm).1
          omega
      | succ i =>
        simp at hx hx'
        exact hvd i j x x' (by omega) hx hx'

/-- The slices of a list of texts. -/
theorem HasL.vals {w : World} {v : Value} {n : List (List Int)} (h : HasL w v n) : ∃ us : List Value, us.length = n.length ∧ ((v = .slice none 0 0 ∧ us = []) ∨ ∃ ad cap, v = .slice (some ad) us.length cap ∧ ∀ j y, us[j]? = some y → w.cell? (ad.add j) = some y) ∧
    (∀ y ∈ us, y.oneCell' = true) ∧ ∀ i, i < n.length → ∃ x, us[i]? = some x ∧ Has w x (n.getD i []) := by
  rcases h with ⟨rfl, rfl⟩ | ⟨g, off, cap, rfl, _, _, _, hc⟩
  · exact ⟨[], rfl, .inl ⟨rfl, rfl⟩, by simp, by simp⟩
  · have key : ∀ m, m ≤ n.length → ∃ us : List Value, us.length = m ∧ (∀ j y, us[j]? = some y → w.cell? ⟨g, off + j, none⟩ = some y) ∧ (∀ y ∈ us, y.oneCell' = true) ∧ ∀ i, i < m → ∃ x, us[i]? = some x ∧ Has w x (n.getD i []) := by
      intro m
      induction m with
      | zero => intro _; exact ⟨[], rfl, by simp, by simp, by simp⟩
      | succ m ih =>
        intro hm
        obtain ⟨us, h1, h2, h3, h4⟩ := ih (by omega)
        obtain ⟨x, hx, hh⟩ := hc m (by omega)
        refine ⟨us ++ [x], by simp [h1], fun j y hj => ?_, fun y hy => ?_, fun i hi => ?_⟩
        · by_cases e : j < us.length
          · rw [List.getElem?_append_left e] at hj; exact h2 j y hj
          · rw [List.getElem?_append_right (by omega)] at hj
            have hj0 : j - us.length = 0 := by
              have := (List.getElem?_eq_some_iff.1 hj).1
              simp at this
              omega
            rw [hj0] at hj
            simp at hj
            subst hj
            have : j = m := by omega
            subst this
            exact hx
        · simp at hy
          rcases hy with hy | rfl
          · exact h3 y hy
          · obtain ⟨a, c, rfl, _⟩ := hh.form
            rfl
        · by_cases e : i < m
          · obtain ⟨y, k1, k2⟩ := h4 i e
            exact ⟨y, by rw [List.getElem?_append_left (by omega)]; exact k1, k2⟩
          · obtain rfl : i = m := by omega
            exact ⟨x, by rw [List.getElem?_append_right (by omega)]; simp [h1], hh⟩
    obtain ⟨us, h1, h2, h3, h4⟩ := key n.length (Nat.le_refl _)
    exact ⟨us, h1, .inr ⟨⟨g, off, none⟩, cap, by rw [h1], fun j y hj => by rw [Addr.add_lit]; exact h2 j y hj⟩, h3, h4⟩

/-- A row whose slices have their bytes. -/
theorem HasL.of_row {B : Nat} {el : TypeId} {w : World} {v : Value} {us : List Value} {ns : List (List Int)} (h : w.ownsRow B el 1 v ns.length us) (hu : ∀ i, i < ns.length → ∃ x, us[i]? = some x ∧ Has w x (ns.getD i [])) : HasL w v ns := by
  have h' := h
  rcases h.2 with ⟨rfl, h0⟩ | ⟨g, cap, cur, rfl, _, hg, hn, hm, _⟩
  · exact .inl ⟨rfl, List.eq_nil_of_length_eq_zero h0⟩
  · refine .inr ⟨g, 0, cap, rfl, (h'.lt g rfl).2, hn, hm, fun i hi => ?_⟩
    obtain ⟨x, h1, h2⟩ := hu i hi
    exact ⟨x, by rw [Nat.zero_add, World.ownsRow.cellAt h' i (by omega), h1], h2⟩

theorem reads_below {w W : World} {v : Value} {us : List Value} (hb : Below w.heap.size w W) (h : (v = .slice none 0 0 ∧ us = []) ∨ ∃ ad cap, v = .slice (some ad) us.length cap ∧ ∀ j y, us[j]? = some y → w.cell? (ad.add j) = some y) :
    (v = .slice none 0 0 ∧ us = []) ∨ ∃ ad cap, v = .slice (some ad) us.length cap ∧ ∀ j y, us[j]? = some y → W.cell? (ad.add j) = some y := by
  rcases h with h | ⟨ad, cap, hv, hc⟩
  · exact .inl h
  · exact .inr ⟨ad, cap, hv, fun j y hj => (hb.cell (cell_lt (hc j y hj))).trans (hc j y hj)⟩
end Go.Proofs.YtkhiklemhkeakaaDoor

namespace Go.Proofs.YtkhiklemhkeakaaDoor
open Go.RowKit
set_option linter.unusedVariables false

theorem info_sl7 : (Tryd.prog.info? 22).map (fun i => (i.zero, i.size, i.bytes)) = some (some (.slice none 0 0), 1, 24) := by kernel_rfl

/-- What stands in each round of NameRead. -/
def GotR (l : List Int) (N : List (List Int)) (w : World) (g : Nat) (s i : Value) (wr : World) : Prop :=
  ∃ (n : List (List Int)) (cur : List Int) (k E : Nat) (o : Value), i = .int .i64 k ∧ g + k = l.length + 2 ∧ ((k ≤ l.length ∧ n ++ rest (decide (0 < l.length)) (l.drop k) cur = N) ∨ (k = l.length + 1 ∧ n = N)) ∧ n.length ≤ k ∧ cur.length ≤ k ∧ Bytes8 cur ∧
    w.heap.size + 2 ≤ E ∧ E ≤ wr.heap.size ∧ wr.heap[w.heap.size]? = some (.cells #[.slice none 0 0] 27) ∧ wr.heap[w.heap.size + 1]? = some (.cells #[o] 27) ∧
    OwnN (w.heap.size + 2) E 22 5 wr o n ∧ Own E 5 wr s cur ∧ Below w.heap.size w wr

theorem ownN_low {B E : Nat} {el eb : TypeId} {w w' : World} {v : Value} {n : List (List Int)} (h : OwnN B E el eb w v n) (hb : Below E w w') : OwnN B E el eb w' v n :=
  h.outside (B := E) (D := w.heap.size) ⟨hb.os, hb.tape, hb.output, hb.size, fun k hk hn => hb.block k (by omega)⟩ (.inl (Nat.le_refl _))

set_option maxHeartbeats 8000000 in
set_option maxRecDepth 100000 in
theorem specNameRead_has {v : Value} {l : List Int} {w : World} (h : Has w v l) (hl : l.length ≤ 1048576) (hb : Bytes8 l) :
    Calls Tryd.prog 49 #[v] w fun e w' => ∃ v', e = .returned (.tuple #[.agg #[v'], .bool (nameRead l).2]) ∧ OwnL w.heap.size 22 5 w' v' (nameRead l).1 ∧ Below w.heap.size w w' := by
  have hs : ((strOfNums l).toList == (strOfNums [46]).toList) = decide (l = [46]) := str_eq l [46] (fun c hc => by
    obtain ⟨i, hi, rfl⟩ := List.getElem_of_mem hc
    have := hb i
    rwa [List.getD_eq_getElem?_getD, List.getElem?_eq_getElem hi] at this) (fun c hc => by simp at hc; omega)
  have hs46 : (strOfNums [46]).toList = [46] := by decide +kernel
  rw [hs46] at hs
  have bA := below_alloc (w := w) (.cells #[.slice none 0 0] 27)
  have kA := heap_alloc_new w (.cells #[.slice none 0 0] 27)
  have cA := conv_has (h.below bA)
  obtain ⟨a, cap, rfl, hcl⟩ := h.form
  by_cases h1 : l = [46]
  · have e1 : nameRead l = ([], true) := by unfold nameRead; rw [if_pos h1]
    rw [e1]
    rw [decide_eq_true h1] at hs
    clear h1 e1 hs46
    have c0 := block_one kA
    have f0 := block_frozen kA 0
    have M0 := hide kA
    go_enter Tryd.func49, Tryd.ntmps49
    go_wp2_with fail
    refine bodyPost_ret (results_cell_tmp_row rfl _ _ w.heap.size 27 #[.slice none 0 0] (0, 0) _ rfl (unhide M0) Tryd.underlying27 rfl (by kernel_rfl)) rfl ?_
    exact ⟨_, rfl, ⟨[], by simpa using World.ownsRow_nil _ _ _ _, by simp, by simp⟩, bA⟩
  · have e1 : nameRead l = if nameOk (labelsIn l) = true then (labelsIn l, true) else ([], false) := by unfold nameRead; rw [if_neg h1]
    rw [e1]
    rw [decide_eq_false h1] at hs
    have hN : labelsIn l = rest (decide (0 < l.length)) l [] := rfl
    generalize labelsIn l = N at *
    have HN := hide hN
    generalize hRes : (if nameOk N = true then (N, true) else ([], false)) = Res
    have HRES := hide hRes
    clear hRes
    have hB8 := hide hb
    have H := hide h
    clear h1 e1 hs46 hN hb h hcl
    obtain ⟨hsz, k0, r0⟩ := box2 w (.cells #[.slice none 0 0] 27) #[.slice none 0 0] 27
    have b0 := below2 w (.cells #[.slice none 0 0] 27) (.cells #[.slice none 0 0] 27)
    go_enter Tryd.func49, Tryd.ntmps49
    go_wp2
    clear cA kA bA hs
    generalize (w.alloc (.cells #[.slice none 0 0] 27)).alloc (.cells #[.slice none 0 0] 27) = W at *
    go_loopg [5, 6] (l.length + 2) (fun g s i wr => GotR l N w g s i wr)
    case atStart => exact ⟨[], [], 0, w.heap.size + 2, .slice none 0 0, rfl, by omega, .inl ⟨Nat.zero_le _, by rw [List.nil_append, List.drop_zero]; exact (unhide HN).symm⟩, by simp, by simp, bytes8_nil, Nat.le_refl _, by omega, k0, r0, ⟨[], by simpa using World.ownsRow_nil _ _ _ _, by simp, by simp, by simp [Value.ownBlock], by simp⟩, World.ownsRow_nil _ _ _ _, b0⟩
    case round =>
      clear k0 r0 b0 HN hsz
      obtain ⟨n, cur, k, E, o, rfl, hg, hR, hnk, hck, hc8, hE, hEw, kr, kn, ho, hcu, hbl⟩ := hrel
      obtain ⟨oa, oc, rfl, _⟩ := ho.hasL.form
      obtain ⟨ca, cc, rfl, _⟩ := hcu.lies
      have OK := hide ((unhide H).below hbl)
      have HC8 := hide hc8
      have HO := hide ho
      have HCU := hide hcu
      clear hc8 ho hcu
      by_cases hk : k = l.length + 1
      · have hN : n = N := by
          rcases hR with ⟨q, _⟩ | ⟨_, q⟩
          · omega
          · exact q
        subst hN
        have hk' : ¬ (k : Int) ≤ (l.length : Int) := by omega
        clear hR hk
        have cn := block_one kn
        have hRes := unhide HRES
        cases hok : nameOk n with
        | false =>
          rw [hok, if_neg (by simp)] at hRes
          subst hRes
          have HNO := specNameOk_has (unhide HO).hasL
          rw [hok] at HNO
          have HNO := hide HNO
          clear hok
          go_wp2_with fail
          refine (unhide HNO).mono ?_
          rintro e w1 ⟨rfl, b1⟩
          have k1 := block_kept b1 kr
          have c1 := block_one k1
          have f1 := block_frozen k1 0
          have M1 := hide (block_set k1 (.slice none 0 0))
          have bb1 := below_next hbl b1
          clear kr kn cn k1 b1
          go_wp2_with fail
          refine bodyPost_ret (results_cell_tmp_row rfl _ _ w.heap.size 27 #[.slice none 0 0] (0, 0) _ rfl (unhide M1) Tryd.underlying27 rfl (by kernel_rfl)) rfl ?_
          exact ⟨_, rfl, ⟨[], by simpa using World.ownsRow_nil _ _ _ _, by simp, by simp⟩, bb1.setCell (Nat.le_refl _) _⟩
        | true =>
          rw [hok, if_pos rfl] at hRes
          subst hRes
          have HNO := specNameOk_has (unhide HO).hasL
          rw [hok] at HNO
          have HNO := hide HNO
          clear hok
          go_wp2_with fail
          refine (unhide HNO).mono ?_
          rintro e w1 ⟨rfl, b1⟩
          have k1 := block_kept b1 kr
          have c1 := block_one k1
          have cn1 := block_one (block_kept b1 kn)
          have f1 := block_frozen k1 0
          have M1 := hide (block_set k1 (.slice oa n.length oc))
          have bb1 := below_next hbl b1
          have O1 := hide ((unhide HO).ownL.below b1)
          clear kr kn cn k1 b1
          go_wp2_with fail
          refine bodyPost_ret (results_cell_tmp_row rfl _ _ w.heap.size 27 #[.slice oa n.length oc] (0, 0) _ rfl (unhide M1) Tryd.underlying27 rfl (by kernel_rfl)) rfl ?_
          exact ⟨_, rfl, ((unhide O1).kept (grown_setCell _ _ _) (by show w.heap.size < _; omega)).mono (by omega), bb1.setCell (Nat.le_refl _) _⟩
      · obtain ⟨hkl, hR⟩ : k ≤ l.length ∧ n ++ rest (decide (0 < l.length)) (l.drop k) cur = N := by
          rcases hR with q | ⟨q, _⟩
          · exact q
          · omega
        clear hk
        have hkl' : (k : Int) ≤ (l.length : Int) := by omega
        obtain ⟨G, rfl⟩ : ∃ G, gk = G + 1 := ⟨gk - 1, by omega⟩
        by_cases hlt : k < l.length
        · have hlt' : (k : Int) < (l.length : Int) := by omega
          obtain ⟨a', cap', e', hLi⟩ := (unhide OK).form
          obtain ⟨rfl, rfl⟩ : a = a' ∧ cap = cap' := by simpa using e'
          obtain ⟨b, off, rfl, hbk, hcx⟩ := hLi.here hlt
          clear e' hLi
          have hx := unhide hB8 k
          by_cases hx46 : l.getD k 0 = 46
          · rw [rest_dot hlt hx46] at hR
            rw [hx46] at hcx
            clear hx46 hx
            have hkne : ((k : Int) == (l.length : Int)) = false := by rw [beq_eq_false_iff_ne]; omega
            have hod := (unhide HO).ownL.below (below_drew (w := wr))
            obtain ⟨vs, hvs, hva, hvd⟩ := hod
            have hvl : vs.length = n.length := by have := hvs.1; simpa using this
            have cn := block_one kn
            have knd := block_kept (below_drew (w := wr)) kn
            have krd := block_kept (below_drew (w := wr)) kr
            have bd := below_next hbl (below_drew (w := wr))
            have cod := block_one knd
            have HUd := hide ((unhide HCU).below (below_drew (w := wr)))
            have HVS := hide hvs
            have HVA := hide hva
            have HVD := hide hvd
            have zn := block_lt kn
            have zb : w.heap.size + 2 ≤ wr.drew.heap.size := by show w.heap.size + 2 ≤ wr.heap.size; omega
            have KND := hide knd
            have KRD := hide krd
            have ca0 : ∀ o, (wr.alloc o).cell? ⟨w.heap.size + 1, 0, none⟩ = some (.slice oa n.length oc) := fun o => block_one (block_kept (below_alloc o) kn)
            have hcl5 : cur.length ≤ 1048576 := by omega
            have SL := hide (fun (w : World) (h : Own E 5 w (.slice ca cur.length cc) cur) => specLower_any h hcl5 (unhide HC8))
            generalize hlw : lowered cur cur.length = lw at *
            have HLW := hide hlw
            have HRR := hide hR
            clear hlw knd krd kn kr hva hvd hvs hR
            generalize hLN : l.length = L at *
            have HLN := hide hLN
            clear hLN
            go_wp2_with fail
            go_region_law (first
              | (refine step_append_row rfl (.tmp 49) (.tmp 52) 25 22 rfl Tryd.underlying25 info_sl7 (w.heap.size + 2) (.slice oa n.length oc) _ vs [.slice u2a lw.length u2c] (by simp [Act.eval]) (by simp [Act.eval]) (by rw [hvl]; exact World.ownsRow.alloc (ownsRow_kept' (unhide HVS) (unhide B2)) _) (one_more w2 22 _) (by intro y hy; simp at hy; subst hy; rfl) (by rw [hvl]; simp; omega) (by have := (unhide B2).size; simp; omega) ?_; intro v3 w3 o3 g3; obtain ⟨p3, k3, y3⟩ := snoc_step g3 o3 (by simp [hvl]) (unhide HVS) (unhide HVA) (unhide HVD) ((unhide B2).alloc (unhide B2).size _) ((unhide OU).alloc _) zb (by decide) (block_kept (below_alloc _) (block_kept (unhide B2) (unhide KND))) (by decide); obtain ⟨v3a, v3c, rfl, _⟩ := p3.hasL.form; have co3 := block_one k3; have fo3 := block_frozen k3 0)
              | (go_simp; go_at_call 50; refine (unhide SL _ (unhide HUd)).mono ?_; rintro e w2 ⟨u2, rfl, ou, b2⟩; obtain ⟨u2a, u2c, rfl, _⟩ := ou.lies; have OU := hide ou; have B2 := hide b2; have co2 := block_one (block_kept b2 (unhide KND)); have ca2 : ∀ o, (w2.alloc o).cell? ⟨w.heap.size + 1, 0, none⟩ = some (.slice oa n.length oc) := (fun o => block_one (block_kept (below_alloc o) (block_kept b2 (unhide KND)))); clear ou b2))
            all_goals
              go_wp2_with fail
              go_roundg G
              case measure => omega
              case rel =>
                have k1 := (y3.block w.heap.size (by omega)).trans (unhide KRD)
                simp only [List.length_append, List.length_cons, List.length_nil] at p3
                have hLN := unhide HLN
                subst hLN
                have hR := unhide HRR
                have z3 := block_lt k3
                refine ⟨n ++ [lw], [], k + 1, _, _, by go_num, by omega, .inl ⟨by omega, by rw [List.append_assoc]; exact hR⟩, by simp; omega, by simp, bytes8_nil, ?_, Nat.le_refl _, block_other k1 (by omega) 0 _, block_set k3 _, OwnL.here (p3.kept (grown_setCell _ _ _) (by show w.heap.size + 1 < _; omega)), World.ownsRow_nil _ _ _ _, (bd.trans (y3.mono (by omega))).setCell (by show w.heap.size ≤ w.heap.size + 1; omega) _⟩
                have := (grown_setCell w3 ⟨w.heap.size + 1, 0, none⟩ (.slice v3a (n.length + 1) v3c)).size
                omega
          · rw [rest_label hlt hx46] at hR
            generalize l.getD k 0 = x at *
            have hx46' : (x == 46) = false := by rw [beq_eq_false_iff_ne]; exact hx46
            have HRR := hide hR
            clear hR hx46
            generalize hLN : l.length = L at *
            have HLN := hide hLN
            clear hLN
            have KN := hide kn
            have KR := hide kr
            clear kn kr
            have hca : ∀ o, (wr.alloc o).cell? ⟨b, off + k, none⟩ = some (.int .u8 x) := fun o => ((below_alloc o).cell (p := ⟨b, off + k, none⟩) hbk).trans hcx
            go_wp2_with (at_builtin; refine append_bytes rfl _ _ 22 5 rfl Tryd.underlying22 info_u8 E (.slice ca cur.length cc) _ cur [x] rfl rfl ((unhide HCU).alloc _) (own_lit wr 0 5 [x] (Nat.zero_le _) (by simp [maxLen])).reads (by simp; omega) (by simp; omega) ?_)
            intro v2 w2 o2 g2
            have b2 : Below E wr w2 := ((Below.refl _ _).alloc hEw _).grown g2 (by simp; omega) (fun q hq => ((unhide HCU).lt q hq).1)
            clear g2
            go_wp2_with fail
            go_roundg G
            case measure => omega
            case rel =>
              have hLN := unhide HLN
              subst hLN
              exact ⟨n, cur ++ [x], k + 1, E, _, by go_num, by omega, .inl ⟨by omega, unhide HRR⟩, by omega, by simp; omega, bytes8_snoc (unhide HC8) hx.1 hx.2, hE, Nat.le_trans hEw b2.size, (b2.block w.heap.size (by omega)).trans (unhide KR), (b2.block (w.heap.size + 1) (by omega)).trans (unhide KN), ownN_low (unhide HO) b2, o2, hbl.trans (b2.mono (by omega))⟩
        · obtain rfl : k = l.length := by omega
          rw [rest_end] at hR
          by_cases hce : cur.length = 0 ∧ decide (0 < l.length) = true
          · rw [if_pos hce, List.append_nil] at hR
            obtain ⟨hc0, hl0⟩ := hce
            subst hR
            have hl0' : (0 : Int) < (l.length : Int) := by simp at hl0; omega
            obtain rfl : cur = [] := List.eq_nil_of_length_eq_zero hc0
            simp only [List.length_nil] at *
            clear hc0 hl0
            have cn := block_one kn
            have hRes := unhide HRES
            generalize hLN : l.length = L at *
            have HLN := hide hLN
            clear hLN
            cases hok : nameOk n with
            | false =>
              rw [hok, if_neg (by simp)] at hRes
              subst hRes
              have HNO := specNameOk_has (unhide HO).hasL
              rw [hok] at HNO
              have HNO := hide HNO
              clear hok
              go_wp2_with fail
              refine (unhide HNO).mono ?_
              rintro e w1 ⟨rfl, b1⟩
              have k1 := block_kept b1 kr
              have c1 := block_one k1
              have f1 := block_frozen k1 0
              have M1 := hide (block_set k1 (.slice none 0 0))
              have bb1 := below_next hbl b1
              clear kr kn cn k1 b1
              go_wp2_with fail
              refine bodyPost_ret (results_cell_tmp_row rfl _ _ w.heap.size 27 #[.slice none 0 0] (0, 0) _ rfl (unhide M1) Tryd.underlying27 rfl (by kernel_rfl)) rfl ?_
              exact ⟨_, rfl, ⟨[], by simpa using World.ownsRow_nil _ _ _ _, by simp, by simp⟩, bb1.setCell (Nat.le_refl _) _⟩
            | true =>
              rw [hok, if_pos rfl] at hRes
              subst hRes
              have HNO := specNameOk_has (unhide HO).hasL
              rw [hok] at HNO
              have HNO := hide HNO
              clear hok
              go_wp2_with fail
              refine (unhide HNO).mono ?_
              rintro e w1 ⟨rfl, b1⟩
              have k1 := block_kept b1 kr
              have c1 := block_one k1
              have cn1 := block_one (block_kept b1 kn)
              have f1 := block_frozen k1 0
              have M1 := hide (block_set k1 (.slice oa n.length oc))
              have bb1 := below_next hbl b1
              have O1 := hide ((unhide HO).ownL.below b1)
              clear kr kn cn k1 b1
              go_wp2_with fail
              refine bodyPost_ret (results_cell_tmp_row rfl _ _ w.heap.size 27 #[.slice oa n.length oc] (0, 0) _ rfl (unhide M1) Tryd.underlying27 rfl (by kernel_rfl)) rfl ?_
              exact ⟨_, rfl, ((unhide O1).kept (grown_setCell _ _ _) (by show w.heap.size < _; omega)).mono (by omega), bb1.setCell (Nat.le_refl _) _⟩
          · rw [if_neg hce] at hR
            by_cases hc0 : cur.length = 0
            · have hcq : ((cur.length : Int) == 0) = true := by rw [beq_iff_eq]; omega
              have hl0 : l.length = 0 := by
                by_cases q : l.length = 0
                · exact q
                · exact absurd ⟨hc0, decide_eq_true (by omega)⟩ hce
              have hl0' : ¬ (0 : Int) < (l.length : Int) := by omega
              clear hce hl0 hc0
              have hod := (unhide HO).ownL.below (below_drew (w := wr))
              obtain ⟨vs, hvs, hva, hvd⟩ := hod
              have hvl : vs.length = n.length := by have := hvs.1; simpa using this
              have cn := block_one kn
              have knd := block_kept (below_drew (w := wr)) kn
              have krd := block_kept (below_drew (w := wr)) kr
              have bd := below_next hbl (below_drew (w := wr))
              have cod := block_one knd
              have HUd := hide ((unhide HCU).below (below_drew (w := wr)))
              have HVS := hide hvs
              have HVA := hide hva
              have HVD := hide hvd
              have zn := block_lt kn
              have zb : w.heap.size + 2 ≤ wr.drew.heap.size := by show w.heap.size + 2 ≤ wr.heap.size; omega
              have KND := hide knd
              have KRD := hide krd
              have ca0 : ∀ o, (wr.alloc o).cell? ⟨w.heap.size + 1, 0, none⟩ = some (.slice oa n.length oc) := fun o => block_one (block_kept (below_alloc o) kn)
              have hcl5 : cur.length ≤ 1048576 := by omega
              have SL := hide (fun (w : World) (h : Own E 5 w (.slice ca cur.length cc) cur) => specLower_any h hcl5 (unhide HC8))
              generalize hlw : lowered cur cur.length = lw at *
              have HLW := hide hlw
              have HRR := hide hR
              clear hlw knd krd kn kr hva hvd hvs hR
              generalize hLN : l.length = L at *
              have HLN := hide hLN
              clear hLN
              go_wp2_with fail
              go_region_law (first
                | (refine step_append_row rfl (.tmp 49) (.tmp 52) 25 22 rfl Tryd.underlying25 info_sl7 (w.heap.size + 2) (.slice oa n.length oc) _ vs [.slice u2a lw.length u2c] (by simp [Act.eval]) (by simp [Act.eval]) (by rw [hvl]; exact World.ownsRow.alloc (ownsRow_kept' (unhide HVS) (unhide B2)) _) (one_more w2 22 _) (by intro y hy; simp at hy; subst hy; rfl) (by rw [hvl]; simp; omega) (by have := (unhide B2).size; simp; omega) ?_; intro v3 w3 o3 g3; obtain ⟨p3, k3, y3⟩ := snoc_step g3 o3 (by simp [hvl]) (unhide HVS) (unhide HVA) (unhide HVD) ((unhide B2).alloc (unhide B2).size _) ((unhide OU).alloc _) zb (by decide) (block_kept (below_alloc _) (block_kept (unhide B2) (unhide KND))) (by decide); obtain ⟨v3a, v3c, rfl, _⟩ := p3.hasL.form; have co3 := block_one k3; have fo3 := block_frozen k3 0)
                | (go_simp; go_at_call 50; refine (unhide SL _ (unhide HUd)).mono ?_; rintro e w2 ⟨u2, rfl, ou, b2⟩; obtain ⟨u2a, u2c, rfl, _⟩ := ou.lies; have OU := hide ou; have B2 := hide b2; have co2 := block_one (block_kept b2 (unhide KND)); have ca2 : ∀ o, (w2.alloc o).cell? ⟨w.heap.size + 1, 0, none⟩ = some (.slice oa n.length oc) := (fun o => block_one (block_kept (below_alloc o) (block_kept b2 (unhide KND)))); clear ou b2))
              all_goals
                go_wp2_with fail
                go_roundg G
                case measure => omega
                case rel =>
                  have k1 := (y3.block w.heap.size (by omega)).trans (unhide KRD)
                  simp only [List.length_append, List.length_cons, List.length_nil] at p3
                  have hLN := unhide HLN
                  subst hLN
                  have hR := unhide HRR
                  have z3 := block_lt k3
                  refine ⟨n ++ [lw], [], l.length + 1, _, _, by go_num, by omega, .inr ⟨rfl, hR⟩, by simp; omega, by simp, bytes8_nil, ?_, Nat.le_refl _, block_other k1 (by omega) 0 _, block_set k3 _, OwnL.here (p3.kept (grown_setCell _ _ _) (by show w.heap.size + 1 < _; omega)), World.ownsRow_nil _ _ _ _, (bd.trans (y3.mono (by omega))).setCell (by show w.heap.size ≤ w.heap.size + 1; omega) _⟩
                  have := (grown_setCell w3 ⟨w.heap.size + 1, 0, none⟩ (.slice v3a (n.length + 1) v3c)).size
                  omega
            · have hcq : ((cur.length : Int) == 0) = false := by rw [beq_eq_false_iff_ne]; omega
              clear hce hc0
              have hod := (unhide HO).ownL.below (below_drew (w := wr))
              obtain ⟨vs, hvs, hva, hvd⟩ := hod
              have hvl : vs.length = n.length := by have := hvs.1; simpa using this
              have cn := block_one kn
              have knd := block_kept (below_drew (w := wr)) kn
              have krd := block_kept (below_drew (w := wr)) kr
              have bd := below_next hbl (below_drew (w := wr))
              have cod := block_one knd
              have HUd := hide ((unhide HCU).below (below_drew (w := wr)))
              have HVS := hide hvs
              have HVA := hide hva
              have HVD := hide hvd
              have zn := block_lt kn
              have zb : w.heap.size + 2 ≤ wr.drew.heap.size := by show w.heap.size + 2 ≤ wr.heap.size; omega
              have KND := hide knd
              have KRD := hide krd
              have ca0 : ∀ o, (wr.alloc o).cell? ⟨w.heap.size + 1, 0, none⟩ = some (.slice oa n.length oc) := fun o => block_one (block_kept (below_alloc o) kn)
              have hcl5 : cur.length ≤ 1048576 := by omega
              have SL := hide (fun (w : World) (h : Own E 5 w (.slice ca cur.length cc) cur) => specLower_any h hcl5 (unhide HC8))
              generalize hlw : lowered cur cur.length = lw at *
              have HLW := hide hlw
              have HRR := hide hR
              clear hlw knd krd kn kr hva hvd hvs hR
              generalize hLN : l.length = L at *
              have HLN := hide hLN
              clear hLN
              go_wp2_with fail
              go_region_law (first
                | (refine step_append_row rfl (.tmp 49) (.tmp 52) 25 22 rfl Tryd.underlying25 info_sl7 (w.heap.size + 2) (.slice oa n.length oc) _ vs [.slice u2a lw.length u2c] (by simp [Act.eval]) (by simp [Act.eval]) (by rw [hvl]; exact World.ownsRow.alloc (ownsRow_kept' (unhide HVS) (unhide B2)) _) (one_more w2 22 _) (by intro y hy; simp at hy; subst hy; rfl) (by rw [hvl]; simp; omega) (by have := (unhide B2).size; simp; omega) ?_; intro v3 w3 o3 g3; obtain ⟨p3, k3, y3⟩ := snoc_step g3 o3 (by simp [hvl]) (unhide HVS) (unhide HVA) (unhide HVD) ((unhide B2).alloc (unhide B2).size _) ((unhide OU).alloc _) zb (by decide) (block_kept (below_alloc _) (block_kept (unhide B2) (unhide KND))) (by decide); obtain ⟨v3a, v3c, rfl, _⟩ := p3.hasL.form; have co3 := block_one k3; have fo3 := block_frozen k3 0)
                | (go_simp; go_at_call 50; refine (unhide SL _ (unhide HUd)).mono ?_; rintro e w2 ⟨u2, rfl, ou, b2⟩; obtain ⟨u2a, u2c, rfl, _⟩ := ou.lies; have OU := hide ou; have B2 := hide b2; have co2 := block_one (block_kept b2 (unhide KND)); have ca2 : ∀ o, (w2.alloc o).cell? ⟨w.heap.size + 1, 0, none⟩ = some (.slice oa n.length oc) := (fun o => block_one (block_kept (below_alloc o) (block_kept b2 (unhide KND)))); clear ou b2))
              all_goals
                go_wp2_with fail
                go_roundg G
                case measure => omega
                case rel =>
                  have k1 := (y3.block w.heap.size (by omega)).trans (unhide KRD)
                  simp only [List.length_append, List.length_cons, List.length_nil] at p3
                  have hLN := unhide HLN
                  subst hLN
                  have hR := unhide HRR
                  have z3 := block_lt k3
                  refine ⟨n ++ [lw], [], l.length + 1, _, _, by go_num, by omega, .inr ⟨rfl, hR⟩, by simp; omega, by simp, bytes8_nil, ?_, Nat.le_refl _, block_other k1 (by omega) 0 _, block_set k3 _, OwnL.here (p3.kept (grown_setCell _ _ _) (by show w.heap.size + 1 < _; omega)), World.ownsRow_nil _ _ _ _, (bd.trans (y3.mono (by omega))).setCell (by show w.heap.size ≤ w.heap.size + 1; omega) _⟩
                  have := (grown_setCell w3 ⟨w.heap.size + 1, 0, none⟩ (.slice v3a (n.length + 1) v3c)).size
                  omega
theorem specNameRead_own {B : Nat} {v : Value} {l : List Int} {w : World} (h : Own B 5 w v l) (hl : l.length ≤ 1048576) (hb : Bytes8 l) :
    Calls Tryd.prog 49 #[v] w fun e w' => ∃ v', e = .returned (.tuple #[.agg #[v'], .bool (nameRead l).2]) ∧ OwnL w.heap.size 22 5 w' v' (nameRead l).1 ∧ Below w.heap.size w w' := specNameRead_has h.has hl hb
end Go.Proofs.YtkhiklemhkeakaaDoor
