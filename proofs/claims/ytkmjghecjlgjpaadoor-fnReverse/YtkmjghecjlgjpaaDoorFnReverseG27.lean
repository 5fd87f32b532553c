/-
  Contracts of the program's labelsOf and NameRead. Contracts of the program's NameText.
-/
import Derived.Test.YtkmjghecjlgjpaaDoorFnReverseG24
import Derived.Test.YtkmjghecjlgjpaaDoorFnReverseG25
import Derived.Test.YtkmjghecjlgjpaaDoorFnReverseG26
import Derived.Test.YtkmjghecjlgjpaaDoorFnReverseG07
import Derived.Test.YtkmjghecjlgjpaaDoorFnReverseG06
import Derived.Test.YtkmjghecjlgjpaaDoorFnReverseG16
import Derived.Deep.RegionHeld3
import Derived.Test.YtkmjghecjlgjpaaDoorFnReverseG20
namespace Go.Proofs.YtkmjghecjlgjpaaDoor
open Go.RowKit Go.Shelf
set_option linter.unusedVariables false

/-- What holds cells holds them. -/
def CellsKept (W W' : World) : Prop := ∀ (g : Nat) (c : Array Value) (t : TypeId), W.heap[g]? = some (.cells c t) → W'.heap[g]? = some (.cells c t)
theorem cellsKept_of {W W' : World} {row : Option Nat} (hg : W.grownBy W' row) (hr : ∀ r, row = some r → ∃ o : Obj, W.heap[r]? = some o ∧ o.isCells = false) : CellsKept W W' := by
  intro g c t h
  have hlt : g < W.heap.size := (Array.getElem?_eq_some_iff.1 h).1
  refine (hg.block g hlt ?_).trans h
  intro e
  obtain ⟨o, h1, h2⟩ := hr g e.symm
  rw [h] at h1
  cases h1
  cases h2
theorem ownsRow_cells {W W' : World} {B n : Nat} {e : TypeId} {v : Value} {xs : List Value} (h : W.ownsRow B e 1 v n xs) (hk : CellsKept W W') : W'.ownsRow B e 1 v n xs := by
  obtain ⟨h1, h2⟩ := h
  rcases h2 with h2 | ⟨g, cap, c, h3, h4, h5, h6⟩
  · exact ⟨h1, .inl h2⟩
  · exact ⟨h1, .inr ⟨g, cap, c, h3, h4, hk _ _ _ h5, h6⟩⟩
theorem ownL_cells {W W' : World} {B : Nat} {el eb : TypeId} {v : Value} {n : List (List Int)} (h : OwnL B el eb W v n) (hk : CellsKept W W') : OwnL B el eb W' v n := by
  obtain ⟨vs, ho, hu, hd⟩ := h
  refine ⟨vs, ownsRow_cells ho hk, fun i hi => ?_, hd⟩
  obtain ⟨x, h1, h2⟩ := hu i hi
  exact ⟨x, h1, ownsRow_cells h2 hk⟩

set_option maxHeartbeats 400000 in
set_option maxRecDepth 100000 in
theorem labelsOf_any (v : Value) (w : World) (a : Option Addr) (len cap : Nat) (hv : v = .slice a len cap) : Calls Tryd.prog 78 #[v] w fun e w' => e = .returned (.func (.func 107) #[] #[.pointer (some ⟨w.heap.size, 0, none⟩)]) ∧ w' = w.alloc (.cells #[v] 22) := by
  subst hv
  go_enter Tryd.func78, Tryd.ntmps78
  go_wp2
  go_ret
  exact ⟨rfl, rfl⟩

theorem labels_stops (n : Nat) (hn : 1 ≤ n) (Bt : Nat) (w W0 : World) (v : Value) (t : List Int) (hT : Has w v t) (hb : Bytes8 t) (hl : t.length ≤ 1048576) (hb0 : Below w.heap.size w W0) (hBt : W0.cell? ⟨Bt, 0, none⟩ = some v) :
    SeqStopsK Fence.wide n Tryd.prog 107 #[.pointer (some ⟨Bt, 0, none⟩)] (fun x : Lab w => #[x.1.1]) (KpL w.heap.size) (fun xs => xs.map (·.1.2) = pieces (trimD t)) (fun pre => pre.map (·.1.2) <+: pieces (trimD t)) (t.length + 2) W0 :=
  fun l J Jx W hW hJ hJx hY h0 => labels1_in n hn l Bt _ w v t rfl hT hb hl J Jx W (hb0.trans (hW.mono hb0.size)) hJ hY ((hW.cell (p := ⟨Bt, 0, none⟩) (World.block_lt_of_cell? W0 ⟨Bt, 0, none⟩ hBt)).trans hBt) h0

/-- What stands between two rounds of NameRead. -/
def GotI (w : World) (pre : List (Lab w)) (W : World) : Prop :=
  (∃ o, W.heap[w.heap.size + 1 + 1]? = some (.cells #[o] 26) ∧ OwnL (w.heap.size + 1 + 1 + 1 + 1) 22 5 W o (pre.map (fun x => lowL x.1.2)) ∧ W.heap[w.heap.size]? = some (.cells #[.slice none 0 0] 26) ∧ W.heap[w.heap.size + 1]? = some (.cells #[.bool false] 4) ∧ pre.length ≤ 6 ∧ w.heap.size + 1 + 1 + 1 + 1 ≤ W.heap.size) ∧ Below w.heap.size w W
def GotX (w : World) (c : Go.Code) (pre : List (Lab w)) (W : World) : Prop :=
  (c = .ret ∧ 6 < pre.length ∧ W.heap[w.heap.size]? = some (.cells #[.slice none 0 0] 26) ∧ W.heap[w.heap.size + 1]? = some (.cells #[.bool false] 4)) ∧ Below w.heap.size w W
theorem gotI_own (w : World) (B : Nat) (hB : w.heap.size ≤ B) : OwnFrom B (GotI w) := by
  intro s W W' row ⟨⟨o, h1, h2, h3, h4, h5, h6⟩, hb⟩ hg hr
  have hk := cellsKept_of hg (fun r e => (hr r e).2)
  exact ⟨⟨o, hk _ _ _ h1, ownL_cells h2 hk, hk _ _ _ h3, hk _ _ _ h4, h5, Nat.le_trans h6 hg.size⟩, hb.grown hg hb.size (fun k e => by have := (hr k e).1; omega)⟩
theorem gotX_own (w : World) (c : Go.Code) (B : Nat) (hB : w.heap.size ≤ B) : OwnFrom B (GotX w c) := by
  intro s W W' row ⟨⟨h1, h2, h3, h4⟩, hb⟩ hg hr
  have hk := cellsKept_of hg (fun r e => (hr r e).2)
  exact ⟨⟨h1, h2, hk _ _ _ h3, hk _ _ _ h4⟩, hb.grown hg hb.size (fun k e => by have := (hr k e).1; omega)⟩
theorem kpL_b {w W0 : World} (h : w.heap.size ≤ W0.heap.size) (W : World) (l : Nat) (o o' : Obj) (hl : W0.heap.size ≤ l) (ho : W.heap[l]? = some o) (hc : o.isCells = false) (hw : o.isWalk = false) : KpL w.heap.size W (W.putObj l o') := by
  have hg := grownBy_putObj' W l o'
  refine ⟨belowK_b (w := W0) h W l o o' hl ho hc hw, fun k hk => cellsKept_of hg (fun r e => ?_) k _ _ hk⟩
  cases e
  exact ⟨o, ho, hc⟩

theorem info_sl8 : (Tryd.prog.info? 22).map (fun i => (i.zero, i.size, i.bytes)) = some (some (.slice none 0 0), 1, 24) := by kernel_rfl
/-- A row isn't a block that holds no cells. -/
theorem row_cells {B b n : Nat} {e : TypeId} {w : World} {v : Value} {xs : List Value} {o : Obj} (h : w.ownsRow B e 1 v n xs) (hb : w.heap[b]? = some o) (ho : o.isCells = false) : v.ownBlock ≠ some b := by
  intro hq
  rcases h.2 with ⟨rfl, _⟩ | ⟨g, cap, cur, rfl, _, hg, _⟩
  · simp [Value.ownBlock] at hq
  · simp [Value.ownBlock] at hq
    subst hq
    rw [hg] at hb
    cases hb
    cases ho

/-- A struct and a mark, each in a block of its own, as a function's two results. -/
theorem results_cell2 {fn : Func} {p u : Tmp} {ty ty2 : TypeId} (h : fn.results = #[.cell p ty, .cell u ty2]) (tmps : Array Value) (P : Program) (w : World) :
    (results fn tmps).run P w =
      ((asAddr (tmps.getD p undef)).run P w).andThen fun a w₁ => ((loadVar ty a).run P w₁).andThen fun v w₂ => ((asAddr (tmps.getD u undef)).run P w₂).andThen fun a2 w₃ => ((loadVar ty2 a2).run P w₃).andThen fun v2 w₄ => .ok (.tuple #[v, v2]) w₄ := by
  simp only [results, h]
  simp [Sem.run_bind, Result.andThen]
theorem results_cell2_row {P : Program} {fn : Func} {p u : Tmp} {ty ty2 : TypeId} (h : fn.results = #[.cell p ty, .cell u ty2]) (tmps : Array Value) (w : World) (g g2 : Nat) (t : TypeId) (cs : Array Value) (fr : Nat × Nat) (d : TypeDesc) (b : Bool)
    (hp : tmps.getD p undef = .pointer (some ⟨g, 0, none⟩)) (hg : w.heap[g]? = some (.cells cs t fr))
    (hu : P.underlying ty = some d) (hd : (match d with | .struct _ | .array _ _ => true | _ => false) = true) (hi : (P.info? ty).map (·.size) = some cs.size)
    (hp2 : tmps.getD u undef = .pointer (some ⟨g2, 0, none⟩)) (hl2 : (loadVar ty2 ⟨g2, 0, none⟩).run P w = .ok (.bool b) w) :
    (results fn tmps).run P w = .ok (.tuple #[.agg cs, .bool b]) w := by
  rw [results_cell2 h, hp, hp2]
  simp [asAddr, run_loadVar_row w g t ty cs fr d hg hu hd hi, hl2]
theorem load_bool {w : World} {g : Nat} {b : Bool} (hc : w.cell? ⟨g, 0, none⟩ = some (.bool b)) : (loadVar 4 ⟨g, 0, none⟩).run Tryd.prog w = .ok (.bool b) w := by
  have hub := Tryd.underlying4
  go_simp

/-- How a round that goes on is left. -/
theorem bodyEnd {w W W0 w2 w3 : World} {pre : List (Lab w)} {x : Lab w} {v3 u2 : Value} {lw : List Int} {oa : Option Addr} {oc : Nat} (hlw : lowL x.1.2 = lw)
    (p3 : OwnL (w.heap.size + 1 + 1 + 1 + 1) 22 5 w3 v3 (pre.map (fun x => lowL x.1.2) ++ [lw])) (k3 : w3.heap[w.heap.size + 1 + 1]? = some (.cells #[.slice oa pre.length oc] 26)) (y3 : Below (w.heap.size + 1 + 1 + 1 + 1) W.drew w3)
    (hap : ∀ (k : Nat) (c : Array Value) (t : TypeId), (w2.alloc (.cells #[u2] 22)).heap[k]? = some (.cells c t) → t ≠ 22 → w3.heap[k]? = some (.cells c t))
    (hce : ∀ (k : Nat) (o : Obj), (w2.alloc (.cells #[u2] 22)).heap[k]? = some o → o.isCells = false → w3.heap[k]? = some o)
    (b2 : Below W.drew.heap.size W.drew w2) (z3 : (w2.alloc (.cells #[u2] 22)).heap.size ≤ w3.heap.size) (hk0 : W.heap[w.heap.size]? = some (.cells #[.slice none 0 0] 26)) (hk1 : W.heap[w.heap.size + 1]? = some (.cells #[.bool false] 4)) (hB : Below w.heap.size w W) (hsW : w.heap.size + 1 + 1 + 1 + 1 ≤ W.heap.size) (hp6 : pre.length ≤ 6) (h6 : ¬ pre.length = 6) :
    KeepsFrom W0.heap.size W (w3.setCell ⟨w.heap.size + 1 + 1, 0, none⟩ v3) ∧ KpL w.heap.size W (w3.setCell ⟨w.heap.size + 1 + 1, 0, none⟩ v3) ∧ GotI w (pre ++ [x]) (w3.setCell ⟨w.heap.size + 1 + 1, 0, none⟩ v3) := by
  have hsz2 : W.heap.size ≤ w2.heap.size := b2.size
  have hold : ∀ (k : Nat), k < W.heap.size → (w2.alloc (.cells #[u2] 22)).heap[k]? = W.heap[k]? := fun k hk => ((below_alloc (w := w2) _).block k (by omega)).trans (b2.block k hk)
  have zz : w2.heap.size + 1 ≤ w3.heap.size := by simpa using z3
  have zs := (grown_setCell w3 ⟨w.heap.size + 1 + 1, 0, none⟩ v3).size
  have bl : Below w.heap.size W (w3.setCell ⟨w.heap.size + 1 + 1, 0, none⟩ v3) := ((below_drew (w := W)).mono (by omega)).trans ((y3.mono (by omega)).setCell (by show w.heap.size ≤ w.heap.size + 1 + 1; omega) _)
  refine ⟨⟨by omega, fun k o hB hk ho => ?_⟩, ⟨bl, fun k hk => ?_⟩, ⟨⟨v3, block_set k3 _, ?_, ?_, ?_, by simp; omega, by omega⟩, hB.trans bl⟩⟩
  · have h1 : w3.heap[k]? = some o := hce k o ((hold k (block_lt hk)).trans hk) ho
    have hne : k ≠ w.heap.size + 1 + 1 := by
      rintro rfl
      rw [k3] at h1
      cases h1
      cases ho
    exact block_grown (grown_setCell w3 ⟨w.heap.size + 1 + 1, 0, none⟩ v3) h1 (by simp; omega)
  · have h1 := hap k _ _ ((hold k (block_lt hk)).trans hk) (by decide)
    have hne : k ≠ w.heap.size + 1 + 1 := by
      rintro rfl
      rw [k3] at h1
      simp at h1
    exact block_other h1 (by omega) 0 _
  · have e : (pre ++ [x]).map (fun x => lowL x.1.2) = pre.map (fun x => lowL x.1.2) ++ [lw] := by simp [hlw]
    rw [e]
    exact p3.kept (grown_setCell _ _ _) (by show w.heap.size + 1 + 1 < _; omega)
  · exact block_other ((y3.block w.heap.size (by omega)).trans hk0) (by omega) 0 _
  · exact block_other ((y3.block (w.heap.size + 1) (by omega)).trans hk1) (by omega) 0 _

set_option maxHeartbeats 8000000 in
set_option maxRecDepth 100000 in
theorem nameRead_loop {a : Option Addr} {cap : Nat} {l : List Int} {w : World} (h : Has w (.slice a l.length cap) l) (hl : l.length ≤ 1048576) (hb : Bytes8 l) (h1 : ¬ l = [46]) :
    CallsIn Fence.wide 5 Tryd.prog 40 #[.slice a l.length cap] w fun e w' => ∃ v', e = .returned (.tuple #[.agg #[v'], .bool (nameRead l).2]) ∧ OwnL w.heap.size 22 5 w' v' (nameRead l).1 ∧ Below w.heap.size w w' := by
  have hs : ((strOfNums l).toList == (strOfNums [46]).toList) = decide (l = [46]) := str_eq l [46] (mem8 hb) (fun c hc => by simp at hc; omega)
  have hs46 : (strOfNums [46]).toList = [46] := by decide +kernel
  rw [hs46, decide_eq_false h1] at hs
  have b2 := below2 w (.cells #[.slice none 0 0] 26) (.cells #[.bool false] 4)
  have cA := conv_has (h.below b2)
  have e1 : nameRead l = if nameOk (labelsIn l) = true then (labelsIn l, true) else ([], false) := by unfold nameRead; rw [if_neg h1]
  rw [e1, labelsIn_eq]
  generalize hRes : (if nameOk ((pieces (trimD l)).map lowL) = true then ((pieces (trimD l)).map lowL, true) else ([], false)) = Res
  have HRES := hide hRes
  clear hRes e1
  have hT := h
  have HL := hide (labelsOf_any (.slice a l.length cap) (((w.alloc (.cells #[.slice none 0 0] 26)).alloc (.cells #[.bool false] 4)).alloc (.cells #[.slice none 0 0] 26)) a l.length cap rfl)
  refine callsIn_of_wp_marks Tryd.func40 rfl trivial ?_ rfl
  simp only [Tryd.ntmps40, List.size_toArray, List.length_cons, List.length_nil, Nat.reduceAdd, Nat.reduceSub, Array.replicate_succ, Array.replicate_zero, List.push_toArray, List.append_toArray, List.nil_append, List.cons_append]
  gi_wp2_with (refine ⟨trivial, ?_⟩; gi_at_call 78; refine (callsIn_wide.2 (unhide HL)).mono ?_; rintro e w' ⟨rfl, rfl⟩)
  have hB0 : Below w.heap.size w ((((w.alloc (.cells #[.slice none 0 0] 26)).alloc (.cells #[.bool false] 4)).alloc (.cells #[.slice none 0 0] 26)).alloc (.cells #[.slice a l.length cap] 22)) := ((((Below.refl _ w).alloc (Nat.le_refl _) _).alloc (by simp) _).alloc (by simp; omega) _).alloc (by simp; omega) _
  have hsz : ((((w.alloc (.cells #[.slice none 0 0] 26)).alloc (.cells #[.bool false] 4)).alloc (.cells #[.slice none 0 0] 26)).alloc (.cells #[.slice a l.length cap] 22)).heap.size = w.heap.size + 1 + 1 + 1 + 1 := by simp
  have k3 : ((((w.alloc (.cells #[.slice none 0 0] 26)).alloc (.cells #[.bool false] 4)).alloc (.cells #[.slice none 0 0] 26)).alloc (.cells #[.slice a l.length cap] 22)).heap[w.heap.size + 1 + 1 + 1]? = some (.cells #[.slice a l.length cap] 22) := by
    have := heap_alloc_new (((w.alloc (.cells #[.slice none 0 0] 26)).alloc (.cells #[.bool false] 4)).alloc (.cells #[.slice none 0 0] 26)) (.cells #[.slice a l.length cap] 22)
    simpa using this
  have k2 : ((((w.alloc (.cells #[.slice none 0 0] 26)).alloc (.cells #[.bool false] 4)).alloc (.cells #[.slice none 0 0] 26)).alloc (.cells #[.slice a l.length cap] 22)).heap[w.heap.size + 1 + 1]? = some (.cells #[.slice none 0 0] 26) := by
    have := block_kept (below_alloc (.cells #[.slice a l.length cap] 22)) (heap_alloc_new ((w.alloc (.cells #[.slice none 0 0] 26)).alloc (.cells #[.bool false] 4)) (.cells #[.slice none 0 0] 26))
    simpa using this
  have k1 : ((((w.alloc (.cells #[.slice none 0 0] 26)).alloc (.cells #[.bool false] 4)).alloc (.cells #[.slice none 0 0] 26)).alloc (.cells #[.slice a l.length cap] 22)).heap[w.heap.size + 1]? = some (.cells #[.bool false] 4) := by
    have := block_kept (below_alloc (.cells #[.slice a l.length cap] 22)) (block_kept (below_alloc (.cells #[.slice none 0 0] 26)) (heap_alloc_new (w.alloc (.cells #[.slice none 0 0] 26)) (.cells #[.bool false] 4)))
    simpa using this
  have k0 : ((((w.alloc (.cells #[.slice none 0 0] 26)).alloc (.cells #[.bool false] 4)).alloc (.cells #[.slice none 0 0] 26)).alloc (.cells #[.slice a l.length cap] 22)).heap[w.heap.size]? = some (.cells #[.slice none 0 0] 26) :=
    block_kept (below_alloc _) (block_kept (below_alloc _) (block_kept (below_alloc _) (heap_alloc_new w _)))
  clear HL cA b2 hs hs46
  generalize (((w.alloc (.cells #[.slice none 0 0] 26)).alloc (.cells #[.bool false] 4)).alloc (.cells #[.slice none 0 0] 26)).alloc (.cells #[.slice a l.length cap] 22) = W0 at *
  refine wpIn_rangeFunc_ownG rfl (by omega) (gf := 107) (lb := #[.pointer (some ⟨w.heap.size + 1 + 1 + 1, 0, none⟩)]) rfl trivial (enters_of Tryd.func107 (by kernel_rfl) rfl)
    (labels_stops 4 (by omega) _ w W0 _ l hT hb hl hB0 (block_one k3)) kpL_t (kpL_b hB0.size) (Below.refl _ _) (fun _ => rfl) (GotI w) (GotX w) (gotI_own w _ hB0.size) (fun c => gotX_own w c _ hB0.size)
    ⟨⟨.slice none 0 0, k2, ⟨[], by simpa using World.ownsRow_nil _ _ _ _, by simp, by simp⟩, k0, k1, by simp, by omega⟩, hB0⟩
    (fun x => { tmps := #[.slice a l.length cap, undef, .pointer (some ⟨w.heap.size, 0, none⟩), .pointer (some ⟨w.heap.size + 1, 0, none⟩), .pointer (some ⟨w.heap.size + 1 + 1, 0, none⟩), x.1.1, .slice a l.length cap, .string (strOfNums l), .bool false, undef, .slice a l.length cap, .func (.func 107) #[] #[.pointer (some ⟨w.heap.size + 1 + 1 + 1, 0, none⟩)], x.1.1, undef, undef, undef, undef, undef, undef, undef, undef, undef, undef, undef, undef, undef, undef, undef, undef, undef], defers := [] }) ?assign ?body ?done ?stop
  case assign =>
    intro l x W K hK
    have hsem := Oper.semAt_some l
    gi_wp2
    exact hK
  case body =>
    rintro lr pre x W ⟨⟨o, hk2, ho, hk0, hk1, hp6, hsW⟩, hB⟩ hlt
    have hsem := Oper.semAt_some lr
    obtain ⟨oa, oc, rfl, _⟩ := ho.hasL.form
    rw [List.length_map] at hk2 ho
    by_cases h6 : pre.length = 6
    · have h6' : ((pre.length : Int) == 6) = true := by rw [beq_iff_eq]; omega
      have c2 := block_one hk2
      have c0 := block_one hk0
      have f0 := block_frozen hk0 0
      have c1 := block_one hk1
      have f1 := block_frozen hk1 0
      have hK0 := hide hk0
      have hK1 := hide hk1
      have hBB := hide hB
      clear k0 k1 k2 k3 hk0 hk1 hk2 ho hB
      gi_wp2
      exact ⟨((KeepsOthers.setCell _ _ _).trans (KeepsOthers.setCell _ _ _)).from _, ⟨rfl, by simp; omega, block_other (block_set (unhide hK0) _) (by omega) 0 _, block_set (block_other (unhide hK1) (by omega) 0 _) _⟩, ((unhide hBB).setCell (by show w.heap.size ≤ w.heap.size; omega) _).setCell (by show w.heap.size ≤ w.heap.size + 1; omega) _⟩
    · have h6' : ((pre.length : Int) == 6) = false := by rw [beq_eq_false_iff_ne]; omega
      have c2 := block_one hk2
      have hOL := hide ho
      have hK0 := hide hk0
      have hK1 := hide hk1
      have hK2 := hide hk2
      have hBB := hide hB
      clear k0 k1 k2 k3 hk0 hk1 hk2 ho hB
      have hB' := unhide hBB
      gi_wp2
      have hLow := hide (implLower_has (w := W.drew) (x.2.1.below (below_next hB' (below_drew (w := W)))) x.2.2.2 x.2.2.1)
      have hod := (unhide hOL).below (below_drew (w := W))
      obtain ⟨vs, hvs, hva, hvd⟩ := hod
      have hvl : vs.length = pre.length := by have := hvs.1; simpa using this
      have KND := hide (block_kept (below_drew (w := W)) (unhide hK2))
      have HVS := hide hvs
      have HVT := hide (show W.drew.ownsRow (w.heap.size + 1 + 1 + 1 + 1) 22 1 (.slice oa pre.length oc) pre.length vs by rw [List.length_map] at hvs; exact hvs)
      have HVA := hide hva
      have HVD := hide hvd
      have zb : w.heap.size + 1 + 1 + 1 + 1 ≤ W.drew.heap.size := by show w.heap.size + 1 + 1 + 1 + 1 ≤ W.heap.size; omega
      clear hvs hva hvd
      generalize hlw : lowered x.1.2 x.1.2.length = lw at *
      have HLW := hide hlw
      clear hlw
      refine regionIn_any (by rintro ⟨a', w', hq⟩; exact hq) (by kernel_rfl) (by kernel_rfl) ?_
      refine wpAny_take (i := 0) (oi := { dst := some 18, op := Op.fieldAddr 26 (Operand.tmp 4) 0, type := 0, pos := "l02_name.go:76", after := #[], guard := none }) (v := .pointer (some ⟨w.heap.size + 1 + 1, 0, none⟩)) rfl (by kernel_rfl) (by kernel_rfl) (by kernel_rfl) (fun _ _ _ h => h) (Or.inl ⟨by rfl, fun w => by go_simp⟩) ?_
      simp only [Act.put, List.setIfInBounds_toArray, List.set_cons_zero, List.set_cons_succ]
      refine wpAny_take (i := 2) (oi := { dst := some 20, op := Op.move (Operand.tmp 5), type := 22, pos := "l02_name.go:76", after := #[], guard := none }) (v := x.1.1) rfl (by kernel_rfl) (by kernel_rfl) (by kernel_rfl) (fun _ _ _ h => h) (Or.inl ⟨by rfl, fun w => by go_simp⟩) ?_
      simp only [Act.put, List.setIfInBounds_toArray, List.set_cons_zero, List.set_cons_succ]
      refine wpAny_ready (rs := [1, 3]) (by kernel_rfl) (by simp) (AllReady.cons (o := { dst := some 19, op := Op.load 24 (Operand.tmp 18), type := 24, pos := "l02_name.go:76", after := #[{ on := 0, ground := Ground.data }], guard := none }) rfl (fun K hK => ?_) (AllReady.cons (o := { dst := some 21, op := Op.call { callee := Callee.value (Operand.func 79), args := #[Operand.tmp 20], argTypes := #[22] }, type := 22, pos := "l02_name.go:76", after := #[{ on := 2, ground := Ground.data }], guard := none }) rfl (fun K hK => ?_) AllReady.nil))
      · have HK := hide hK
        clear hK
        go_simp
        refine unhide HK _ _ ?_
        clear HK K
        try simp only [Act.put, List.setIfInBounds_toArray, List.set_cons_zero, List.set_cons_succ]
        refine wpAny_ready (rs := [3]) (by kernel_rfl) (by simp) (AllReady.cons (o := { dst := some 21, op := Op.call { callee := Callee.value (Operand.func 79), args := #[Operand.tmp 20], argTypes := #[22] }, type := 22, pos := "l02_name.go:76", after := #[{ on := 2, ground := Ground.data }], guard := none }) rfl (fun K hK => ?_) AllReady.nil)
        have HK := hide hK
        clear hK
        go_simp
        refine (unhide hLow).mono ?_
        rintro e w2 ⟨u2, rfl, ou, b2⟩
        obtain ⟨u2a, u2c, rfl, _⟩ := ou.lies
        have OU := hide ou
        have B2 := hide b2
        have cw2 := block_one (block_kept b2 (unhide KND))
        have ca2 : ∀ o, (w2.alloc o).cell? ⟨w.heap.size + 1 + 1, 0, none⟩ = some (.slice oa pre.length oc) := fun o => block_one (block_kept (below_alloc o) (block_kept b2 (unhide KND)))
        clear ou b2
        go_simp
        refine unhide HK _ _ ?_
        clear HK K
        try simp only [Act.put, List.setIfInBounds_toArray, List.set_cons_zero, List.set_cons_succ]
        refine wpAny_ready (rs := [4]) (by kernel_rfl) (by simp) (AllReady.cons (o := { dst := some 22, op := Op.buildSlice 24 1 #[(0, Operand.tmp 21)], type := 24, pos := "l02_name.go:76", after := #[{ on := 3, ground := Ground.data }], guard := none }) rfl (fun K hK => ?_) AllReady.nil)
        have HK := hide hK
        clear hK
        go_simp
        refine unhide HK _ _ ?_
        clear HK K
        try simp only [Act.put, List.setIfInBounds_toArray, List.set_cons_zero, List.set_cons_succ]
        refine wpAny_ready (rs := [5]) (by kernel_rfl) (by simp) (AllReady.cons (o := { dst := some 23, op := Op.call { callee := Callee.builtin Builtin.append, args := #[Operand.tmp 19, Operand.tmp 22], argTypes := #[24, 24] }, type := 24, pos := "l02_name.go:76", after := #[{ on := 1, ground := Ground.data }, { on := 4, ground := Ground.data }, { on := 3, ground := Ground.chain }], guard := none }) rfl (fun K hK => ?_) AllReady.nil)
        have HK := hide hK
        clear hK
        refine step_append_row rfl (.tmp 19) (.tmp 22) 24 22 rfl Tryd.underlying24 info_sl8 (w.heap.size + 1 + 1 + 1 + 1) (.slice oa pre.length oc) _ vs [.slice u2a lw.length u2c] (by simp [Act.eval]) (by simp [Act.eval]) (by rw [hvl]; exact World.ownsRow.alloc (ownsRow_kept' (unhide HVT) (unhide B2)) _) (one_more w2 22 _) (by intro y hy; simp at hy; subst hy; rfl) (by rw [hvl]; simp; omega) (by have := (unhide B2).size; simp; omega) ?_
        intro v3 w3 o3 g3
        have hapart : ∀ (k : Nat) (c : Array Value) (t : TypeId), (w2.alloc (.cells #[.slice u2a lw.length u2c] 22)).heap[k]? = some (.cells c t) → t ≠ 22 → w3.heap[k]? = some (.cells c t) := fun k c t hk ht => block_grown g3 hk (row_apart (World.ownsRow.alloc (ownsRow_kept' (unhide HVS) (unhide B2)) _) hk ht)
        have hcells : ∀ (k : Nat) (o : Obj), (w2.alloc (.cells #[.slice u2a lw.length u2c] 22)).heap[k]? = some o → o.isCells = false → w3.heap[k]? = some o := fun k o hk ho => block_grown g3 hk (row_cells (World.ownsRow.alloc (ownsRow_kept' (unhide HVS) (unhide B2)) _) hk ho)
        have z3 := g3.size
        obtain ⟨p3, k3, y3⟩ := snoc_step g3 o3 (by simp [hvl]) (unhide HVS) (unhide HVA) (unhide HVD) ((unhide B2).alloc (unhide B2).size _) ((unhide OU).alloc _) zb (by decide) (block_kept (below_alloc _) (block_kept (unhide B2) (unhide KND))) (by decide)
        obtain ⟨v3a, v3c, rfl, _⟩ := p3.hasL.form
        simp only [List.length_append, List.length_map, List.length_cons, List.length_nil] at p3
        have P3 := hide p3
        have K3 := hide k3
        have Y3 := hide y3
        have HAP := hide hapart
        have HCE := hide hcells
        have co3 := block_one k3
        have fo3 := block_frozen k3 0
        clear p3 k3 y3 hapart hcells o3 g3
        refine unhide HK _ _ ?_
        clear HK K
        try simp only [Act.put, List.setIfInBounds_toArray, List.set_cons_zero, List.set_cons_succ]
        refine wpAny_take (i := 6) (oi := { dst := some 24, op := Op.fieldAddr 26 (Operand.tmp 4) 0, type := 0, pos := "l02_name.go:76", after := #[{ on := 0, ground := Ground.phase }, { on := 1, ground := Ground.phase }, { on := 2, ground := Ground.phase }, { on := 3, ground := Ground.phase }, { on := 4, ground := Ground.phase }, { on := 5, ground := Ground.phase }], guard := none }) (v := .pointer (some ⟨w.heap.size + 1 + 1, 0, none⟩)) rfl (by kernel_rfl) (by kernel_rfl) (by kernel_rfl) (fun _ _ _ h => h) (Or.inl ⟨by rfl, fun w => by go_simp⟩) ?_
        simp only [Act.put, List.setIfInBounds_toArray, List.set_cons_zero, List.set_cons_succ]
        refine wpAny_ready (rs := [7]) (by kernel_rfl) (by simp) (AllReady.cons (o := { dst := none, op := Op.store 24 (Operand.tmp 24) (Operand.tmp 23), type := 0, pos := "l02_name.go:76", after := #[{ on := 6, ground := Ground.data }, { on := 5, ground := Ground.data }, { on := 5, ground := Ground.chain }, { on := 0, ground := Ground.phase }, { on := 1, ground := Ground.phase }, { on := 2, ground := Ground.phase }, { on := 3, ground := Ground.phase }, { on := 4, ground := Ground.phase }, { on := 5, ground := Ground.phase }], guard := none }) rfl (fun K hK => ?_) AllReady.nil)
        have HK := hide hK
        clear hK
        go_simp
        refine unhide HK _ _ ?_
        clear HK K
        refine wpAny_done (by kernel_rfl) ?_ _
        exact bodyEnd (unhide HLW) (unhide P3) (unhide K3) (unhide Y3) (unhide HAP) (unhide HCE) (unhide B2) z3 (unhide hK0) (unhide hK1) (unhide hBB) hsW hp6 h6
      · have HK := hide hK
        clear hK
        go_simp
        refine (unhide hLow).mono ?_
        rintro e w2 ⟨u2, rfl, ou, b2⟩
        obtain ⟨u2a, u2c, rfl, _⟩ := ou.lies
        have OU := hide ou
        have B2 := hide b2
        have cw2 := block_one (block_kept b2 (unhide KND))
        have ca2 : ∀ o, (w2.alloc o).cell? ⟨w.heap.size + 1 + 1, 0, none⟩ = some (.slice oa pre.length oc) := fun o => block_one (block_kept (below_alloc o) (block_kept b2 (unhide KND)))
        clear ou b2
        go_simp
        refine unhide HK _ _ ?_
        clear HK K
        try simp only [Act.put, List.setIfInBounds_toArray, List.set_cons_zero, List.set_cons_succ]
        refine wpAny_ready (rs := [1, 4]) (by kernel_rfl) (by simp) (AllReady.cons (o := { dst := some 19, op := Op.load 24 (Operand.tmp 18), type := 24, pos := "l02_name.go:76", after := #[{ on := 0, ground := Ground.data }], guard := none }) rfl (fun K hK => ?_) (AllReady.cons (o := { dst := some 22, op := Op.buildSlice 24 1 #[(0, Operand.tmp 21)], type := 24, pos := "l02_name.go:76", after := #[{ on := 3, ground := Ground.data }], guard := none }) rfl (fun K hK => ?_) AllReady.nil))
        · have HK := hide hK
          clear hK
          go_simp
          refine unhide HK _ _ ?_
          clear HK K
          try simp only [Act.put, List.setIfInBounds_toArray, List.set_cons_zero, List.set_cons_succ]
          refine wpAny_ready (rs := [4]) (by kernel_rfl) (by simp) (AllReady.cons (o := { dst := some 22, op := Op.buildSlice 24 1 #[(0, Operand.tmp 21)], type := 24, pos := "l02_name.go:76", after := #[{ on := 3, ground := Ground.data }], guard := none }) rfl (fun K hK => ?_) AllReady.nil)
          have HK := hide hK
          clear hK
          go_simp
          refine unhide HK _ _ ?_
          clear HK K
          try simp only [Act.put, List.setIfInBounds_toArray, List.set_cons_zero, List.set_cons_succ]
          refine wpAny_ready (rs := [5]) (by kernel_rfl) (by simp) (AllReady.cons (o := { dst := some 23, op := Op.call { callee := Callee.builtin Builtin.append, args := #[Operand.tmp 19, Operand.tmp 22], argTypes := #[24, 24] }, type := 24, pos := "l02_name.go:76", after := #[{ on := 1, ground := Ground.data }, { on := 4, ground := Ground.data }, { on := 3, ground := Ground.chain }], guard := none }) rfl (fun K hK => ?_) AllReady.nil)
          have HK := hide hK
          clear hK
          refine step_append_row rfl (.tmp 19) (.tmp 22) 24 22 rfl Tryd.underlying24 info_sl8 (w.heap.size + 1 + 1 + 1 + 1) (.slice oa pre.length oc) _ vs [.slice u2a lw.length u2c] (by simp [Act.eval]) (by simp [Act.eval]) (by rw [hvl]; exact World.ownsRow.alloc (ownsRow_kept' (unhide HVT) (unhide B2)) _) (one_more w2 22 _) (by intro y hy; simp at hy; subst hy; rfl) (by rw [hvl]; simp; omega) (by have := (unhide B2).size; simp; omega) ?_
          intro v3 w3 o3 g3
          have hapart : ∀ (k : Nat) (c : Array Value) (t : TypeId), (w2.alloc (.cells #[.slice u2a lw.length u2c] 22)).heap[k]? = some (.cells c t) → t ≠ 22 → w3.heap[k]? = some (.cells c t) := fun k c t hk ht => block_grown g3 hk (row_apart (World.ownsRow.alloc (ownsRow_kept' (unhide HVS) (unhide B2)) _) hk ht)
          have hcells : ∀ (k : Nat) (o : Obj), (w2.alloc (.cells #[.slice u2a lw.length u2c] 22)).heap[k]? = some o → o.isCells = false → w3.heap[k]? = some o := fun k o hk ho => block_grown g3 hk (row_cells (World.ownsRow.alloc (ownsRow_kept' (unhide HVS) (unhide B2)) _) hk ho)
          have z3 := g3.size
          obtain ⟨p3, k3, y3⟩ := snoc_step g3 o3 (by simp [hvl]) (unhide HVS) (unhide HVA) (unhide HVD) ((unhide B2).alloc (unhide B2).size _) ((unhide OU).alloc _) zb (by decide) (block_kept (below_alloc _) (block_kept (unhide B2) (unhide KND))) (by decide)
          obtain ⟨v3a, v3c, rfl, _⟩ := p3.hasL.form
          simp only [List.length_append, List.length_map, List.length_cons, List.length_nil] at p3
          have P3 := hide p3
          have K3 := hide k3
          have Y3 := hide y3
          have HAP := hide hapart
          have HCE := hide hcells
          have co3 := block_one k3
          have fo3 := block_frozen k3 0
          clear p3 k3 y3 hapart hcells o3 g3
          refine unhide HK _ _ ?_
          clear HK K
          try simp only [Act.put, List.setIfInBounds_toArray, List.set_cons_zero, List.set_cons_succ]
          refine wpAny_take (i := 6) (oi := { dst := some 24, op := Op.fieldAddr 26 (Operand.tmp 4) 0, type := 0, pos := "l02_name.go:76", after := #[{ on := 0, ground := Ground.phase }, { on := 1, ground := Ground.phase }, { on := 2, ground := Ground.phase }, { on := 3, ground := Ground.phase }, { on := 4, ground := Ground.phase }, { on := 5, ground := Ground.phase }], guard := none }) (v := .pointer (some ⟨w.heap.size + 1 + 1, 0, none⟩)) rfl (by kernel_rfl) (by kernel_rfl) (by kernel_rfl) (fun _ _ _ h => h) (Or.inl ⟨by rfl, fun w => by go_simp⟩) ?_
          simp only [Act.put, List.setIfInBounds_toArray, List.set_cons_zero, List.set_cons_succ]
          refine wpAny_ready (rs := [7]) (by kernel_rfl) (by simp) (AllReady.cons (o := { dst := none, op := Op.store 24 (Operand.tmp 24) (Operand.tmp 23), type := 0, pos := "l02_name.go:76", after := #[{ on := 6, ground := Ground.data }, { on := 5, ground := Ground.data }, { on := 5, ground := Ground.chain }, { on := 0, ground := Ground.phase }, { on := 1, ground := Ground.phase }, { on := 2, ground := Ground.phase }, { on := 3, ground := Ground.phase }, { on := 4, ground := Ground.phase }, { on := 5, ground := Ground.phase }], guard := none }) rfl (fun K hK => ?_) AllReady.nil)
          have HK := hide hK
          clear hK
          go_simp
          refine unhide HK _ _ ?_
          clear HK K
          refine wpAny_done (by kernel_rfl) ?_ _
          exact bodyEnd (unhide HLW) (unhide P3) (unhide K3) (unhide Y3) (unhide HAP) (unhide HCE) (unhide B2) z3 (unhide hK0) (unhide hK1) (unhide hBB) hsW hp6 h6
        · have HK := hide hK
          clear hK
          go_simp
          refine unhide HK _ _ ?_
          clear HK K
          try simp only [Act.put, List.setIfInBounds_toArray, List.set_cons_zero, List.set_cons_succ]
          refine wpAny_ready (rs := [1]) (by kernel_rfl) (by simp) (AllReady.cons (o := { dst := some 19, op := Op.load 24 (Operand.tmp 18), type := 24, pos := "l02_name.go:76", after := #[{ on := 0, ground := Ground.data }], guard := none }) rfl (fun K hK => ?_) AllReady.nil)
          have HK := hide hK
          clear hK
          go_simp
          refine unhide HK _ _ ?_
          clear HK K
          try simp only [Act.put, List.setIfInBounds_toArray, List.set_cons_zero, List.set_cons_succ]
          refine wpAny_ready (rs := [5]) (by kernel_rfl) (by simp) (AllReady.cons (o := { dst := some 23, op := Op.call { callee := Callee.builtin Builtin.append, args := #[Operand.tmp 19, Operand.tmp 22], argTypes := #[24, 24] }, type := 24, pos := "l02_name.go:76", after := #[{ on := 1, ground := Ground.data }, { on := 4, ground := Ground.data }, { on := 3, ground := Ground.chain }], guard := none }) rfl (fun K hK => ?_) AllReady.nil)
          have HK := hide hK
          clear hK
          refine step_append_row rfl (.tmp 19) (.tmp 22) 24 22 rfl Tryd.underlying24 info_sl8 (w.heap.size + 1 + 1 + 1 + 1) (.slice oa pre.length oc) _ vs [.slice u2a lw.length u2c] (by simp [Act.eval]) (by simp [Act.eval]) (by rw [hvl]; exact World.ownsRow.alloc (ownsRow_kept' (unhide HVT) (unhide B2)) _) (one_more w2 22 _) (by intro y hy; simp at hy; subst hy; rfl) (by rw [hvl]; simp; omega) (by have := (unhide B2).size; simp; omega) ?_
          intro v3 w3 o3 g3
          have hapart : ∀ (k : Nat) (c : Array Value) (t : TypeId), (w2.alloc (.cells #[.slice u2a lw.length u2c] 22)).heap[k]? = some (.cells c t) → t ≠ 22 → w3.heap[k]? = some (.cells c t) := fun k c t hk ht => block_grown g3 hk (row_apart (World.ownsRow.alloc (ownsRow_kept' (unhide HVS) (unhide B2)) _) hk ht)
          have hcells : ∀ (k : Nat) (o : Obj), (w2.alloc (.cells #[.slice u2a lw.length u2c] 22)).heap[k]? = some o → o.isCells = false → w3.heap[k]? = some o := fun k o hk ho => block_grown g3 hk (row_cells (World.ownsRow.alloc (ownsRow_kept' (unhide HVS) (unhide B2)) _) hk ho)
          have z3 := g3.size
          obtain ⟨p3, k3, y3⟩ := snoc_step g3 o3 (by simp [hvl]) (unhide HVS) (unhide HVA) (unhide HVD) ((unhide B2).alloc (unhide B2).size _) ((unhide OU).alloc _) zb (by decide) (block_kept (below_alloc _) (block_kept (unhide B2) (unhide KND))) (by decide)
          obtain ⟨v3a, v3c, rfl, _⟩ := p3.hasL.form
          simp only [List.length_append, List.length_map, List.length_cons, List.length_nil] at p3
          have P3 := hide p3
          have K3 := hide k3
          have Y3 := hide y3
          have HAP := hide hapart
          have HCE := hide hcells
          have co3 := block_one k3
          have fo3 := block_frozen k3 0
          clear p3 k3 y3 hapart hcells o3 g3
          refine unhide HK _ _ ?_
          clear HK K
          try simp only [Act.put, List.setIfInBounds_toArray, List.set_cons_zero, List.set_cons_succ]
          refine wpAny_take (i := 6) (oi := { dst := some 24, op := Op.fieldAddr 26 (Operand.tmp 4) 0, type := 0, pos := "l02_name.go:76", after := #[{ on := 0, ground := Ground.phase }, { on := 1, ground := Ground.phase }, { on := 2, ground := Ground.phase }, { on := 3, ground := Ground.phase }, { on := 4, ground := Ground.phase }, { on := 5, ground := Ground.phase }], guard := none }) (v := .pointer (some ⟨w.heap.size + 1 + 1, 0, none⟩)) rfl (by kernel_rfl) (by kernel_rfl) (by kernel_rfl) (fun _ _ _ h => h) (Or.inl ⟨by rfl, fun w => by go_simp⟩) ?_
          simp only [Act.put, List.setIfInBounds_toArray, List.set_cons_zero, List.set_cons_succ]
          refine wpAny_ready (rs := [7]) (by kernel_rfl) (by simp) (AllReady.cons (o := { dst := none, op := Op.store 24 (Operand.tmp 24) (Operand.tmp 23), type := 0, pos := "l02_name.go:76", after := #[{ on := 6, ground := Ground.data }, { on := 5, ground := Ground.data }, { on := 5, ground := Ground.chain }, { on := 0, ground := Ground.phase }, { on := 1, ground := Ground.phase }, { on := 2, ground := Ground.phase }, { on := 3, ground := Ground.phase }, { on := 4, ground := Ground.phase }, { on := 5, ground := Ground.phase }], guard := none }) rfl (fun K hK => ?_) AllReady.nil)
          have HK := hide hK
          clear hK
          go_simp
          refine unhide HK _ _ ?_
          clear HK K
          refine wpAny_done (by kernel_rfl) ?_ _
          exact bodyEnd (unhide HLW) (unhide P3) (unhide K3) (unhide Y3) (unhide HAP) (unhide HCE) (unhide B2) z3 (unhide hK0) (unhide hK1) (unhide hBB) hsW hp6 h6
  case done =>
    rintro D ys W hD hys ⟨⟨o, hk2, ho, hk0, hk1, hp6, hsW⟩, hB⟩ hK
    have hN : ys.map (fun x => lowL x.1.2) = (pieces (trimD l)).map lowL := by rw [← hys, List.map_map]; rfl
    rw [hN] at ho
    have hRes := unhide HRES
    generalize (pieces (trimD l)).map lowL = N at *
    obtain ⟨oa, oc, rfl, _⟩ := ho.hasL.form
    have HN := implNameOk_has ho.hasL
    cases hok : nameOk N with
    | false =>
      rw [hok] at HN
      rw [hok, if_neg (by simp)] at hRes
      subst hRes
      clear hok
      have c2 := block_one hk2
      have HN := hide HN
      have hK0 := hide hk0
      have hK1 := hide hk1
      have hK2 := hide hk2
      have hBB := hide hB
      have hKD := hide hK
      have hOO := hide ho
      clear k0 k1 k2 k3 HRES hk0 hk1 hk2 hB hK ho
      gi_wp2_with (refine ⟨trivial, ?_⟩; gi_at_call 11; refine (callsIn_wide.2 (unhide HN)).mono ?_; rintro e w1 ⟨rfl, b1⟩; have r0 := block_kept b1 (unhide hK0); have r1 := block_kept b1 (unhide hK1); have r2 := block_kept b1 (unhide hK2); have c0 := block_one r0; have f0 := block_frozen r0 0; have c1 := block_one r1; have f1 := block_frozen r1 0; have c2' := block_one r2; have KD := hide (block_kept b1 (unhide hKD)); have R0 := hide r0; have R1 := hide r1; have B1 := hide b1; clear r0 r1 r2 b1)
      have s0 := block_other (block_set (unhide R0) (.slice none 0 0)) (b' := w.heap.size + 1) (by omega) 0 (.bool false)
      have s1 := block_set (block_other (unhide R1) (b' := w.heap.size) (by omega) 0 (.slice none 0 0)) (.bool false)
      have bs : Below w.heap.size w ((w1.setCell ⟨w.heap.size, 0, none⟩ (.slice none 0 0)).setCell ⟨w.heap.size + 1, 0, none⟩ (.bool false)) := ((below_next (unhide hBB) (unhide B1)).setCell (by show w.heap.size ≤ w.heap.size; omega) _).setCell (by show w.heap.size ≤ w.heap.size + 1; omega) _
      have sD := ((KeepsOthers.setCell w1 ⟨w.heap.size, 0, none⟩ (.slice none 0 0)).trans (KeepsOthers.setCell _ ⟨w.heap.size + 1, 0, none⟩ (.bool false))).same D _ (unhide KD) rfl
      generalize (w1.setCell ⟨w.heap.size, 0, none⟩ (.slice none 0 0)).setCell ⟨w.heap.size + 1, 0, none⟩ (.bool false) = w5 at *
      refine ⟨by simp, .inl ⟨_, _, rfl, run_takeDeferred sD, ?_⟩⟩
      have hkk := cellsKept_of (grownBy_putObj' w5 D (.deferred none)) (fun r e => by cases e; exact ⟨_, sD, rfl⟩)
      exact ⟨_, results_cell2_row rfl _ _ w.heap.size (w.heap.size + 1) 26 #[.slice none 0 0] (0, 0) _ false rfl (hkk _ _ _ s0) Tryd.underlying26 rfl (by kernel_rfl) rfl (load_bool (block_one (hkk _ _ _ s1))), _, rfl, ⟨[], by simpa using World.ownsRow_nil _ _ _ _, by simp, by simp⟩, bs.trans (belowK_b (w := w) (Nat.le_refl _) w5 D _ _ (by omega) sD rfl rfl)⟩
    | true =>
      rw [hok] at HN
      rw [hok, if_pos rfl] at hRes
      subst hRes
      clear hok
      have c2 := block_one hk2
      have HN := hide HN
      have hK0 := hide hk0
      have hK1 := hide hk1
      have hK2 := hide hk2
      have hBB := hide hB
      have hKD := hide hK
      have hOO := hide ho
      clear k0 k1 k2 k3 HRES hk0 hk1 hk2 hB hK ho
      gi_wp2_with (refine ⟨trivial, ?_⟩; gi_at_call 11; refine (callsIn_wide.2 (unhide HN)).mono ?_; rintro e w1 ⟨rfl, b1⟩; have r0 := block_kept b1 (unhide hK0); have r1 := block_kept b1 (unhide hK1); have r2 := block_kept b1 (unhide hK2); have c0 := block_one r0; have f0 := block_frozen r0 0; have c1 := block_one r1; have f1 := block_frozen r1 0; have c2' := block_one r2; have KD := hide (block_kept b1 (unhide hKD)); have R0 := hide r0; have R1 := hide r1; have B1 := hide b1; clear r0 r1 r2 b1)
      have s0 := block_other (block_set (unhide R0) (.slice oa N.length oc)) (b' := w.heap.size + 1) (by omega) 0 (.bool true)
      have s1 := block_set (block_other (unhide R1) (b' := w.heap.size) (by omega) 0 (.slice oa N.length oc)) (.bool true)
      have bs : Below w.heap.size w ((w1.setCell ⟨w.heap.size, 0, none⟩ (.slice oa N.length oc)).setCell ⟨w.heap.size + 1, 0, none⟩ (.bool true)) := ((below_next (unhide hBB) (unhide B1)).setCell (by show w.heap.size ≤ w.heap.size; omega) _).setCell (by show w.heap.size ≤ w.heap.size + 1; omega) _
      have sD := ((KeepsOthers.setCell w1 ⟨w.heap.size, 0, none⟩ (.slice oa N.length oc)).trans (KeepsOthers.setCell _ ⟨w.heap.size + 1, 0, none⟩ (.bool true))).same D _ (unhide KD) rfl
      have oS := (((unhide hOO).below (unhide B1)).kept (grown_setCell w1 ⟨w.heap.size, 0, none⟩ (.slice oa N.length oc)) (by show w.heap.size < _; omega)).kept (grown_setCell _ ⟨w.heap.size + 1, 0, none⟩ (.bool true)) (by show w.heap.size + 1 < _; omega)
      generalize (w1.setCell ⟨w.heap.size, 0, none⟩ (.slice oa N.length oc)).setCell ⟨w.heap.size + 1, 0, none⟩ (.bool true) = w5 at *
      refine ⟨by simp, .inl ⟨_, _, rfl, run_takeDeferred sD, ?_⟩⟩
      have hkk := cellsKept_of (grownBy_putObj' w5 D (.deferred none)) (fun r e => by cases e; exact ⟨_, sD, rfl⟩)
      exact ⟨_, results_cell2_row rfl _ _ w.heap.size (w.heap.size + 1) 26 #[.slice oa N.length oc] (0, 0) _ true rfl (hkk _ _ _ s0) Tryd.underlying26 rfl (by kernel_rfl) rfl (load_bool (block_one (hkk _ _ _ s1))), _, rfl, (ownL_cells oS hkk).mono (by omega), bs.trans (belowK_b (w := w) (Nat.le_refl _) w5 D _ _ (by omega) sD rfl rfl)⟩
  case stop =>
    rintro D c pre W hD hpre ⟨⟨rfl, h6, hk0, hk1⟩, hB⟩ hK
    have hRes := unhide HRES
    have hno : nameOk ((pieces (trimD l)).map lowL) = false := by
      cases hh : nameOk ((pieces (trimD l)).map lowL) with
      | false => rfl
      | true =>
        have h7 := (nameOk_parts hh).1
        have h8 := hpre.length_le
        simp at h7 h8
        omega
    rw [hno, if_neg (by simp)] at hRes
    subst hRes
    have hkk := cellsKept_of (grownBy_putObj' W D (.deferred none)) (fun r e => by cases e; exact ⟨_, hK, rfl⟩)
    have r0 := hkk _ _ _ hk0
    have r1 := hkk _ _ _ hk1
    have bz : Below w.heap.size w (W.putObj D (.deferred none)) := hB.trans (belowK_b (w := w) (Nat.le_refl _) W D _ _ (by omega) hK rfl rfl)
    clear HRES k0 k1 k2 k3
    gi_wp2
    refine ⟨by simp, .inl ⟨_, _, rfl, run_takeDeferred hK, ?_⟩⟩
    exact ⟨_, results_cell2_row rfl _ _ w.heap.size (w.heap.size + 1) 26 #[.slice none 0 0] (0, 0) _ false rfl r0 Tryd.underlying26 rfl (by kernel_rfl) rfl (load_bool (block_one r1)), _, rfl, ⟨[], by simpa using World.ownsRow_nil _ _ _ _, by simp, by simp⟩, bz⟩

set_option maxHeartbeats 1000000 in
set_option maxRecDepth 100000 in
theorem nameRead_dot {a : Option Addr} {cap : Nat} {l : List Int} {w : World} (h : Has w (.slice a l.length cap) l) (hb : Bytes8 l) (h1 : l = [46]) :
    CallsIn Fence.wide 5 Tryd.prog 40 #[.slice a l.length cap] w fun e w' => ∃ v', e = .returned (.tuple #[.agg #[v'], .bool (nameRead l).2]) ∧ OwnL w.heap.size 22 5 w' v' (nameRead l).1 ∧ Below w.heap.size w w' := by
  have hs : ((strOfNums l).toList == (strOfNums [46]).toList) = decide (l = [46]) := str_eq l [46] (mem8 hb) (fun c hc => by simp at hc; omega)
  have hs46 : (strOfNums [46]).toList = [46] := by decide +kernel
  rw [hs46, decide_eq_true h1] at hs
  have b2 := below2 w (.cells #[.slice none 0 0] 26) (.cells #[.bool false] 4)
  have cA := conv_has (h.below b2)
  have e1 : nameRead l = ([], true) := by unfold nameRead; rw [if_pos h1]
  rw [e1]
  obtain ⟨hsz, k0, r0⟩ := box2 w (.cells #[.slice none 0 0] 26) #[.bool true] 4
  have bt := below2 w (.cells #[.slice none 0 0] 26) (.cells #[.bool true] 4)
  have K0 := hide k0
  have R0 := hide r0
  have BT := hide bt
  clear h h1 e1 k0 r0 bt hsz b2
  refine callsIn_of_wp_marks Tryd.func40 rfl trivial ?_ rfl
  simp only [Tryd.ntmps40, List.size_toArray, List.length_cons, List.length_nil, Nat.reduceAdd, Nat.reduceSub, Array.replicate_succ, Array.replicate_zero, List.push_toArray, List.append_toArray, List.nil_append, List.cons_append]
  gi_wp2
  exact ⟨_, results_cell2_row rfl _ _ w.heap.size (w.heap.size + 1) 26 #[.slice none 0 0] (0, 0) _ true rfl (unhide K0) Tryd.underlying26 rfl (by kernel_rfl) rfl (load_bool (block_one (unhide R0))), _, rfl, ⟨[], by simpa using World.ownsRow_nil _ _ _ _, by simp, by simp⟩, unhide BT⟩

theorem implNameRead_has {v : Value} {l : List Int} {w : World} (h : Has w v l) (hl : l.length ≤ 1048576) (hb : Bytes8 l) :
    Calls Tryd.prog 40 #[v] w fun e w' => ∃ v', e = .returned (.tuple #[.agg #[v'], .bool (nameRead l).2]) ∧ OwnL w.heap.size 22 5 w' v' (nameRead l).1 ∧ Below w.heap.size w w' := by
  refine (callsIn_wide (n := 5)).1 ?_
  obtain ⟨a, cap, rfl, _⟩ := h.form
  by_cases h1 : l = [46]
  · exact nameRead_dot h hb h1
  · exact nameRead_loop h hl hb h1
theorem implNameRead_own {B : Nat} {v : Value} {l : List Int} {w : World} (h : Own B 5 w v l) (hl : l.length ≤ 1048576) (hb : Bytes8 l) :
    Calls Tryd.prog 40 #[v] w fun e w' => ∃ v', e = .returned (.tuple #[.agg #[v'], .bool (nameRead l).2]) ∧ OwnL w.heap.size 22 5 w' v' (nameRead l).1 ∧ Below w.heap.size w w' := implNameRead_has h.has hl hb
end Go.Proofs.YtkmjghecjlgjpaaDoor

namespace Go.Proofs.YtkmjghecjlgjpaaDoor
open Go.RowKit
set_option linter.unusedVariables false

set_option maxHeartbeats 1000000 in
set_option maxRecDepth 100000 in
theorem implNameText_has {v : Value} {n : List (List Int)} {w : World} (h : HasL w v n) :
    Calls Tryd.prog 42 #[.agg #[v]] w fun e w' => ∃ v', e = .returned v' ∧ Own w.heap.size 5 w' v' (nameText n) ∧ Below w.heap.size w w' := by
  obtain ⟨a, cap, rfl, hl, hm⟩ := h.form
  unfold maxLen at hm
  have b0 := below_alloc (w := w) (.cells #[.slice a n.length cap] 26)
  have k0 := heap_alloc_new w (.cells #[.slice a n.length cap] 26)
  have h0 := hide (h.below b0)
  clear h
  cases hok : nameOk n with
  | false =>
    rw [nameText_no hok]
    have HOK := hide hok
    clear hok
    go_enter Tryd.func42, Tryd.ntmps42
    go_wp2_with fail
    generalize w.alloc (.cells #[.slice a n.length cap] 26) = W0 at *
    refine (implNameOk_has (unhide h0)).mono ?_
    rw [unhide HOK]
    rintro e w1 ⟨rfl, b1⟩
    have k1 := block_kept b1 k0
    have c1 := block_one k1
    have h1 := hide ((unhide h0).below b1)
    have bb1 := below_next b0 b1
    have z1 := block_lt k1
    clear b0 k0 h0 b1
    go_wp2_with fail
    go_ret
    exact ⟨_, rfl, World.ownsRow_nil _ _ _ _, bb1⟩
  | true =>
    have HOK := hide hok
    by_cases hn0 : n.length = 0
    · rw [nameText_root hok hn0]
      clear hok
      obtain rfl : n = [] := List.eq_nil_of_length_eq_zero hn0
      simp only [List.length_nil] at *
      clear hn0
      go_enter Tryd.func42, Tryd.ntmps42
      go_wp2_with fail
      generalize w.alloc (.cells #[.slice a 0 cap] 26) = W0 at *
      refine (implNameOk_has (unhide h0)).mono ?_
      rw [unhide HOK]
      rintro e w1 ⟨rfl, b1⟩
      have k1 := block_kept b1 k0
      have c1 := block_one k1
      have h1 := hide ((unhide h0).below b1)
      have bb1 := below_next b0 b1
      have z1 := block_lt k1
      clear b0 k0 h0 b1
      go_wp2
      go_ret
      exact ⟨_, rfl, own_lit w1 w.heap.size 5 [46] (by omega) (by simp [maxLen]), bb1.alloc bb1.size _⟩
    · have hdl := dots_length n hok
      have h6 := (nameOk_parts hok).1
      have HDS := hide (dots_succ n)
      have HD0 := hide (dots_zero n)
      have HLEN := hide (show ∀ k, k < n.length → (n.getD k []).length ≤ 15 from fun k hk => (labelOk_length ((nameOk_parts hok).2 k hk)).2)
      rw [nameText_some hok hn0]
      clear hok
      have hn1 : ((n.length : Int) == 0) = false := by rw [beq_eq_false_iff_ne]; omega
      have HDL := hide hdl
      clear hdl
      generalize dots n = D at *
      go_enter Tryd.func42, Tryd.ntmps42
      go_wp2_with fail
      generalize w.alloc (.cells #[.slice a n.length cap] 26) = W0 at *
      refine (implNameOk_has (unhide h0)).mono ?_
      rw [unhide HOK]
      rintro e w1 ⟨rfl, b1⟩
      have k1 := block_kept b1 k0
      have c1 := block_one k1
      have h1 := hide ((unhide h0).below b1)
      have bb1 := below_next b0 b1
      have z1 := block_lt k1
      clear b0 k0 h0 b1
      generalize hn : n.length = m at *
      have HN := hide hn
      clear hn
      have K1 := hide k1
      clear k1
      go_wp2
      go_loopw [3, 17] (fun o i wr => ∃ k : Nat, k ≤ m ∧ i = .int .i64 k ∧ Own w1.heap.size 5 wr o (D k) ∧ Below w1.heap.size w1 wr) (fun _ i _ => m - (intOf i).toNat)
      case atStart => exact ⟨0, Nat.zero_le _, rfl, by rw [unhide HD0]; exact World.ownsRow_nil _ _ _ _, Below.refl _ _⟩
      case round =>
        obtain ⟨k, hk, rfl, ho, hb⟩ := hrel
        by_cases hlt : k < m
        · obtain ⟨b, off, u, rfl, hbl, hc, hu⟩ := ((unhide h1).below hb).here (k := k) (by rw [unhide HN]; exact hlt)
          have hds := hide (unhide HDS k hlt)
          have hlk := unhide HLEN k hlt
          have hdk := unhide HDL k
          generalize n.getD k [] = lab at *
          have HU := hide hu
          obtain ⟨ua, uc, rfl, _⟩ := hu.form
          clear hu
          have zb := hb.size
          go_wp2_with (at_builtin; refine append_bytes rfl _ _ 22 5 rfl Tryd.underlying22 info_u8 w1.heap.size _ (.slice ua lab.length uc) (D k) lab rfl rfl ho (unhide HU).reads (by omega) zb ?_)
          intro v2 w2 o2 g2
          have z2 := g2.size
          have hb2 : Below w1.heap.size w1 w2 := hb.grown g2 zb (fun q hq => (ho.lt q hq).1)
          clear g2 ho hb
          go_wp2_with (at_builtin; refine append_bytes rfl _ _ 22 5 rfl Tryd.underlying22 info_u8 w1.heap.size v2 _ (D k ++ lab) [46] rfl rfl (o2.alloc _) (own_lit w2 0 5 [46] (Nat.zero_le _) (by simp [maxLen])).reads (by simp; omega) (by simp; omega) ?_)
          intro v3 w3 o3 g3
          have hb3 : Below w1.heap.size w1 w3 := (hb2.alloc hb2.size _).grown g3 (by simp; omega) (fun q hq => (o2.lt q hq).1)
          clear g3 o2 hb2
          go_wp2_with fail
          exact ⟨⟨k + 1, by omega, by go_num, by rw [unhide hds, List.append_assoc]; exact o3, hb3⟩, by simp [intOf]; omega⟩
        · obtain rfl : k = m := by omega
          go_wp2_with fail
          go_ret
          exact ⟨_, rfl, by rw [unhide HN]; exact ho.mono (Nat.le_of_lt z1), below_next bb1 hb⟩
end Go.Proofs.YtkmjghecjlgjpaaDoor
