/-
  Contracts of the program's labelsOf and NameRead.
-/
import Derived.Test.YtbabmdiklefgcaaGreatDoorFnRepliesG43
import Derived.Test.YtbabmdiklefgcaaGreatDoorFnRepliesG44
import Derived.Test.YtbabmdiklefgcaaGreatDoorFnRepliesG23
import Derived.Test.YtbabmdiklefgcaaGreatDoorFnRepliesG02
import Derived.Test.YtbabmdiklefgcaaGreatDoorFnRepliesG00
import Derived.Test.YtbabmdiklefgcaaGreatDoorFnRepliesG07
import Derived.Deep.RegionHeld3
namespace Go.Proofs.YtbabmdiklefgcaaGreatDoor
open Go.RowKit Go.Shelf
set_option linter.unusedVariables false
set_option maxHeartbeats 8000000
set_option maxRecDepth 100000

def CellsKept (W W' : World) : Prop := ∀ (g : Nat) (c : Array Value) (t : TypeId), W.heap[g]? = some (.cells c t) → W'.heap[g]? = some (.cells c t)
theorem cellsKept_of {W W' : World} {row : Option Nat} (hg : W.grownBy W' row) (hr : ∀ r, row = some r → ∃ o : Obj, W.heap[r]? = some o ∧ o.isCells = false) : CellsKept W W' := by
 intro g c t h
 have hlt : g < W.heap.size := (Array.getElem?_eq_some_iff.1 h).1
 refine (hg.block g hlt ?_).trans h
 intro e
 obtain ⟨o, h1, h2⟩ := hr g e.symm
 rw [h] at h1
 cases h1
 cases h2
theorem ownsRow_cells {W W' : World} {B n : Nat} {e : TypeId} {v : Value} {xs : List Value} (h : W.ownsRow B e 1 v n xs) (hk : CellsKept W W') : W'.ownsRow B e 1 v n xs := by
 obtain ⟨h1, h2⟩ := h
 rcases h2 with h2 | ⟨g, cap, c, h3, h4, h5, h6⟩
 ·exact ⟨h1, .inl h2⟩
 ·exact ⟨h1, .inr ⟨g, cap, c, h3, h4, hk _ _ _ h5, h6⟩⟩
theorem ownL_cells {W W' : World} {B : Nat} {el eb : TypeId} {v : Value} {n : List (List Int)} (h : OwnL B el eb W v n) (hk : CellsKept W W') : OwnL B el eb W' v n := by
 obtain ⟨vs, ho, hu, hd⟩ := h
 refine ⟨vs, ownsRow_cells ho hk, fun i hi => ?_, hd⟩
 obtain ⟨x, h1, h2⟩ := hu i hi
 exact ⟨x, h1, ownsRow_cells h2 hk⟩

theorem labelsOf_any (v : Value) (w : World) (a : Option Addr) (len cap : Nat) (hv : v = .slice a len cap) : Calls Tryz.prog 42 #[v] w fun e w' => e = .returned (.func (.func 66) #[] #[.pointer (some ⟨w.heap.size, 0, none⟩)]) ∧ w' = w.alloc (.cells #[v] 22) := by
 subst hv
 go_enter Tryz.func42, Tryz.ntmps42
 go_wp2
 go_ret
 exact ⟨rfl, rfl⟩

theorem labels_stops (n : Nat) (hn : 1 ≤ n) (Bt : Nat) (w W0 : World) (v : Value) (t : List Int) (hT : Has w v t) (hb : Bytes8 t) (hl : t.length ≤ 1048576) (hb0 : Below w.heap.size w W0) (hBt : W0.cell? ⟨Bt, 0, none⟩ = some v) :
  SeqStopsK Fence.wide n Tryz.prog 66 #[.pointer (some ⟨Bt, 0, none⟩)] (fun x : Lab w => #[x.1.1]) (KpL w.heap.size) (fun xs => xs.map (·.1.2) = pieces (trimD t)) (fun pre => pre.map (·.1.2) <+: pieces (trimD t)) (t.length + 2) W0 :=
 fun l J Jx W hW hJ hJx hY h0 => labels1_in n hn l Bt _ w v t rfl hT hb hl J Jx W (hb0.trans (hW.mono hb0.size)) hJ hY ((hW.cell (p := ⟨Bt, 0, none⟩) (World.block_lt_of_cell? W0 ⟨Bt, 0, none⟩ hBt)).trans hBt) h0

def GotI (w : World) (pre : List (Lab w)) (W : World) : Prop :=
 (∃ o, W.heap[w.heap.size + 1 + 1]? = some (.cells #[o] 37) ∧ OwnL (w.heap.size + 1 + 1 + 1 + 1) 22 5 W o (pre.map (fun x => lowL x.1.2)) ∧ W.heap[w.heap.size]? = some (.cells #[.slice none 0 0] 37) ∧ W.heap[w.heap.size + 1]? = some (.cells #[.bool false] 4) ∧ pre.length ≤ 6 ∧ w.heap.size + 1 + 1 + 1 + 1 ≤ W.heap.size) ∧ Below w.heap.size w W
def GotX (w : World) (c : Go.Code) (pre : List (Lab w)) (W : World) : Prop :=
 (c = .ret ∧ 6 < pre.length ∧ W.heap[w.heap.size]? = some (.cells #[.slice none 0 0] 37) ∧ W.heap[w.heap.size + 1]? = some (.cells #[.bool false] 4)) ∧ Below w.heap.size w W
theorem gotI_own (w : World) (B : Nat) (hB : w.heap.size ≤ B) : OwnFrom B (GotI w) := by
 intro s W W' row ⟨⟨o, h1, h2, h3, h4, h5, h6⟩, hb⟩ hg hr
 have hk := cellsKept_of hg (fun r e => (hr r e).2)
 exact ⟨⟨o, hk _ _ _ h1, ownL_cells h2 hk, hk _ _ _ h3, hk _ _ _ h4, h5, Nat.le_trans h6 hg.size⟩, hb.grown hg hb.size (fun k e => by have := (hr k e).1; omega)⟩
theorem gotX_own (w : World) (c : Go.Code) (B : Nat) (hB : w.heap.size ≤ B) : OwnFrom B (GotX w c) := by
 intro s W W' row ⟨⟨h1, h2, h3, h4⟩, hb⟩ hg hr
 have hk := cellsKept_of hg (fun r e => (hr r e).2)
 exact ⟨⟨h1, h2, hk _ _ _ h3, hk _ _ _ h4⟩, hb.grown hg hb.size (fun k e => by have := (hr k e).1; omega)⟩
theorem kpL_b {w W0 : World} (h : w.heap.size ≤ W0.heap.size) (W : World) (l : Nat) (o o' : Obj) (hl : W0.heap.size ≤ l) (ho : W.heap[l]? = some o) (hc : o.isCells = false) (hw : o.isWalk = false) : KpL w.heap.size W (W.putObj l o') := by
 have hg := grownBy_putObj' W l o'
 refine ⟨belowK_b (w := W0) h W l o o' hl ho hc hw, fun k hk => cellsKept_of hg (fun r e => ?_) k _ _ hk⟩
 cases e
 exact ⟨o, ho, hc⟩

theorem info_sl8 : (Tryz.prog.info? 22).map (fun i => (i.zero, i.size, i.bytes)) = some (some (.slice none 0 0), 1, 24) := by kernel_rfl
theorem row_cells {B b n : Nat} {e : TypeId} {w : World} {v : Value} {xs : List Value} {o : Obj} (h : w.ownsRow B e 1 v n xs) (hb : w.heap[b]? = some o) (ho : o.isCells = false) : v.ownBlock ≠ some b := by
 intro hq
 rcases h.2 with ⟨rfl, _⟩ | ⟨g, cap, cur, rfl, _, hg, _⟩
 ·simp [Value.ownBlock] at hq
 ·simp [Value.ownBlock] at hq
  subst hq
  rw [hg] at hb
  cases hb
  cases ho

theorem results_cell2 {fn : Func} {p u : Tmp} {ty ty2 : TypeId} (h : fn.results = #[.cell p ty, .cell u ty2]) (tmps : Array Value) (P : Program) (w : World) :
  (results fn tmps).run P w =
   ((asAddr (tmps.getD p undef)).run P w).andThen fun a w₁ => ((loadVar ty a).run P w₁).andThen fun v w₂ => ((asAddr (tmps.getD u undef)).run P w₂).andThen fun a2 w₃ => ((loadVar ty2 a2).run P w₃).andThen fun v2 w₄ => .ok (.tuple #[v, v2]) w₄ := by
 simp only [results, h]
 simp [Sem.run_bind, Result.andThen]
theorem results_cell2_row {P : Program} {fn : Func} {p u : Tmp} {ty ty2 : TypeId} (h : fn.results = #[.cell p ty, .cell u ty2]) (tmps : Array Value) (w : World) (g g2 : Nat) (t : TypeId) (cs : Array Value) (fr : Nat × Nat) (d : TypeDesc) (b : Bool)
  (hp : tmps.getD p undef = .pointer (some ⟨g, 0, none⟩)) (hg : w.heap[g]? = some (.cells cs t fr))
  (hu : P.underlying ty = some d) (hd : (match d with | .struct _ | .array _ _ => true | _ => false) = true) (hi : (P.info? ty).map (·.size) = some cs.size)
  (hp2 : tmps.getD u undef = .pointer (some ⟨g2, 0, none⟩)) (hl2 : (loadVar ty2 ⟨g2, 0, none⟩).run P w = .ok (.bool b) w) :
  (results fn tmps).run P w = .ok (.tuple #[.agg cs, .bool b]) w := by
 rw [results_cell2 h, hp, hp2]
 simp [asAddr, run_loadVar_row w g t ty cs fr d hg hu hd hi, hl2]
theorem load_bool {w : World} {g : Nat} {b : Bool} (hc : w.cell? ⟨g, 0, none⟩ = some (.bool b)) : (loadVar 4 ⟨g, 0, none⟩).run Tryz.prog w = .ok (.bool b) w := by
 have hub := Tryz.underlying4
 go_simp

theorem bodyEnd {w W W0 w2 w3 : World} {pre : List (Lab w)} {x : Lab w} {v3 u2 : Value} {lw : List Int} {oa : Option Addr} {oc : Nat} (hlw : lowL x.1.2 = lw)
  (p3 : OwnL (w.heap.size + 1 + 1 + 1 + 1) 22 5 w3 v3 (pre.map (fun x => lowL x.1.2) ++ [lw])) (k3 : w3.heap[w.heap.size + 1 + 1]? = some (.cells #[.slice oa pre.length oc] 37)) (y3 : Below (w.heap.size + 1 + 1 + 1 + 1) W.drew w3)
  (hap : ∀ (k : Nat) (c : Array Value) (t : TypeId), (w2.alloc (.cells #[u2] 22)).heap[k]? = some (.cells c t) → t ≠ 22 → w3.heap[k]? = some (.cells c t))
  (hce : ∀ (k : Nat) (o : Obj), (w2.alloc (.cells #[u2] 22)).heap[k]? = some o → o.isCells = false → w3.heap[k]? = some o)
  (b2 : Below W.drew.heap.size W.drew w2) (z3 : (w2.alloc (.cells #[u2] 22)).heap.size ≤ w3.heap.size) (hk0 : W.heap[w.heap.size]? = some (.cells #[.slice none 0 0] 37)) (hk1 : W.heap[w.heap.size + 1]? = some (.cells #[.bool false] 4)) (hB : Below w.heap.size w W) (hsW : w.heap.size + 1 + 1 + 1 + 1 ≤ W.heap.size) (hp6 : pre.length ≤ 6) (h6 : ¬ pre.length = 6) :
  KeepsFrom W0.heap.size W (w3.setCell ⟨w.heap.size + 1 + 1, 0, none⟩ v3) ∧ KpL w.heap.size W (w3.setCell ⟨w.heap.size + 1 + 1, 0, none⟩ v3) ∧ GotI w (pre ++ [x]) (w3.setCell ⟨w.heap.size + 1 + 1, 0, none⟩ v3) := by
 have hsz2 : W.heap.size ≤ w2.heap.size := b2.size
 have hold : ∀ (k : Nat), k < W.heap.size → (w2.alloc (.cells #[u2] 22)).heap[k]? = W.heap[k]? := fun k hk => ((UI (w := w2) _).block k (by omega)).trans (b2.block k hk)
 have zz : w2.heap.size + 1 ≤ w3.heap.size := by simpa using z3
 have zs := (grown_setCell w3 ⟨w.heap.size + 1 + 1, 0, none⟩ v3).size
 have bl : Below w.heap.size W (w3.setCell ⟨w.heap.size + 1 + 1, 0, none⟩ v3) := ((UX (w := W)).mono (by omega)).trans ((y3.mono (by omega)).setCell (by show w.heap.size ≤ w.heap.size + 1 + 1; omega) _)
 refine ⟨⟨by omega, fun k o hB hk ho => ?_⟩, ⟨bl, fun k hk => ?_⟩, ⟨⟨v3, block_set k3 _, ?_, ?_, ?_, by simp; omega, by omega⟩, hB.trans bl⟩⟩
 ·have h1 : w3.heap[k]? = some o := hce k o ((hold k (VC hk)).trans hk) ho
  have hne : k ≠ w.heap.size + 1 + 1 := by
   rintro rfl
   rw [k3] at h1
   cases h1
   cases ho
  exact block_grown (grown_setCell w3 ⟨w.heap.size + 1 + 1, 0, none⟩ v3) h1 (by simp; omega)
 ·have h1 := hap k _ _ ((hold k (VC hk)).trans hk) (by decide)
  have hne : k ≠ w.heap.size + 1 + 1 := by
   rintro rfl
   rw [k3] at h1
   simp at h1
  exact block_other h1 (by omega) 0 _
 ·have e : (pre ++ [x]).map (fun x => lowL x.1.2) = pre.map (fun x => lowL x.1.2) ++ [lw] := by simp [hlw]
  rw [e]
  exact p3.kept (grown_setCell _ _ _) (by show w.heap.size + 1 + 1 < _; omega)
 ·exact block_other ((y3.block w.heap.size (by omega)).trans hk0) (by omega) 0 _
 ·exact block_other ((y3.block (w.heap.size + 1) (by omega)).trans hk1) (by omega) 0 _

theorem nameRead_loop {a : Option Addr} {cap : Nat} {l : List Int} {w : World} (h : Has w (.slice a l.length cap) l) (hl : l.length ≤ 1048576) (hb : Bytes8 l) (h1 : ¬ l = [46]) :
  CallsIn Fence.wide 5 Tryz.prog 19 #[.slice a l.length cap] w fun e w' => ∃ v', e = .returned (.tuple #[.agg #[v'], .bool (nameRead l).2]) ∧ OwnL w.heap.size 22 5 w' v' (nameRead l).1 ∧ Below w.heap.size w w' := by
 have hs : ((strOfNums l).toList == (strOfNums [46]).toList) = decide (l = [46]) := str_eq l [46] (mem8 hb) (fun c hc => by simp at hc; omega)
 have hs46 : (strOfNums [46]).toList = [46] := by decide +kernel
 rw [hs46, decide_eq_false h1] at hs
 have b2 := below2 w (.cells #[.slice none 0 0] 37) (.cells #[.bool false] 4)
 have cA := conv_has (h.below b2)
 have e1 : nameRead l = if nameOk (labelsIn l) = true then (labelsIn l, true) else ([], false) := by unfold nameRead; rw [if_neg h1]
 rw [e1, labelsIn_eq]
 generalize hRes : (if nameOk ((pieces (trimD l)).map lowL) = true then ((pieces (trimD l)).map lowL, true) else ([], false)) = Res
 have HRES := UC hRes
 clear hRes e1
 have hT := h
 have HL := UC (labelsOf_any (.slice a l.length cap) (((w.alloc (.cells #[.slice none 0 0] 37)).alloc (.cells #[.bool false] 4)).alloc (.cells #[.slice none 0 0] 37)) a l.length cap rfl)
 refine callsIn_of_wp_marks Tryz.func19 rfl trivial ?_ rfl
 simp only [Tryz.ntmps19, List.size_toArray, List.length_cons, List.length_nil, Nat.reduceAdd, Nat.reduceSub, Array.replicate_succ, Array.replicate_zero, List.push_toArray, List.append_toArray, List.nil_append, List.cons_append]
 gi_wp2_with (refine ⟨trivial, ?_⟩; gi_at_call 42; refine (callsIn_wide.2 (UB HL)).mono ?_; rintro e w' ⟨rfl, rfl⟩)
 have hB0 : Below w.heap.size w ((((w.alloc (.cells #[.slice none 0 0] 37)).alloc (.cells #[.bool false] 4)).alloc (.cells #[.slice none 0 0] 37)).alloc (.cells #[.slice a l.length cap] 22)) := ((((Below.refl _ w).alloc (Nat.le_refl _) _).alloc (by simp) _).alloc (by simp; omega) _).alloc (by simp; omega) _
 have hsz : ((((w.alloc (.cells #[.slice none 0 0] 37)).alloc (.cells #[.bool false] 4)).alloc (.cells #[.slice none 0 0] 37)).alloc (.cells #[.slice a l.length cap] 22)).heap.size = w.heap.size + 1 + 1 + 1 + 1 := by simp
 have k3 : ((((w.alloc (.cells #[.slice none 0 0] 37)).alloc (.cells #[.bool false] 4)).alloc (.cells #[.slice none 0 0] 37)).alloc (.cells #[.slice a l.length cap] 22)).heap[w.heap.size + 1 + 1 + 1]? = some (.cells #[.slice a l.length cap] 22) := by
  have := heap_alloc_new (((w.alloc (.cells #[.slice none 0 0] 37)).alloc (.cells #[.bool false] 4)).alloc (.cells #[.slice none 0 0] 37)) (.cells #[.slice a l.length cap] 22)
  simpa using this
 have k2 : ((((w.alloc (.cells #[.slice none 0 0] 37)).alloc (.cells #[.bool false] 4)).alloc (.cells #[.slice none 0 0] 37)).alloc (.cells #[.slice a l.length cap] 22)).heap[w.heap.size + 1 + 1]? = some (.cells #[.slice none 0 0] 37) := by
  have := UE (UI (.cells #[.slice a l.length cap] 22)) (heap_alloc_new ((w.alloc (.cells #[.slice none 0 0] 37)).alloc (.cells #[.bool false] 4)) (.cells #[.slice none 0 0] 37))
  simpa using this
 have k1 : ((((w.alloc (.cells #[.slice none 0 0] 37)).alloc (.cells #[.bool false] 4)).alloc (.cells #[.slice none 0 0] 37)).alloc (.cells #[.slice a l.length cap] 22)).heap[w.heap.size + 1]? = some (.cells #[.bool false] 4) := by
  have := UE (UI (.cells #[.slice a l.length cap] 22)) (UE (UI (.cells #[.slice none 0 0] 37)) (heap_alloc_new (w.alloc (.cells #[.slice none 0 0] 37)) (.cells #[.bool false] 4)))
  simpa using this
 have k0 : ((((w.alloc (.cells #[.slice none 0 0] 37)).alloc (.cells #[.bool false] 4)).alloc (.cells #[.slice none 0 0] 37)).alloc (.cells #[.slice a l.length cap] 22)).heap[w.heap.size]? = some (.cells #[.slice none 0 0] 37) :=
  UE (UI _) (UE (UI _) (UE (UI _) (heap_alloc_new w _)))
 clear HL cA b2 hs hs46
 generalize (((w.alloc (.cells #[.slice none 0 0] 37)).alloc (.cells #[.bool false] 4)).alloc (.cells #[.slice none 0 0] 37)).alloc (.cells #[.slice a l.length cap] 22) = W0 at *
 refine wpIn_rangeFunc_ownG rfl (by omega) (gf := 66) (lb := #[.pointer (some ⟨w.heap.size + 1 + 1 + 1, 0, none⟩)]) rfl trivial (enters_of Tryz.func66 (by kernel_rfl) rfl)
  (labels_stops 4 (by omega) _ w W0 _ l hT hb hl hB0 (US k3)) kpL_t (kpL_b hB0.size) (Below.refl _ _) (fun _ => rfl) (GotI w) (GotX w) (gotI_own w _ hB0.size) (fun c => gotX_own w c _ hB0.size)
  ⟨⟨.slice none 0 0, k2, ⟨[], by simpa using World.ownsRow_nil _ _ _ _, by simp, by simp⟩, k0, k1, by simp, by omega⟩, hB0⟩
  (fun x => { tmps := #[.slice a l.length cap, undef, .pointer (some ⟨w.heap.size, 0, none⟩), .pointer (some ⟨w.heap.size + 1, 0, none⟩), .pointer (some ⟨w.heap.size + 1 + 1, 0, none⟩), x.1.1, .slice a l.length cap, .string (strOfNums l), .bool false, undef, .slice a l.length cap, .func (.func 66) #[] #[.pointer (some ⟨w.heap.size + 1 + 1 + 1, 0, none⟩)], x.1.1, undef, undef, undef, undef, undef, undef, undef, undef, undef, undef, undef, undef, undef, undef, undef, undef, undef], defers := [] }) ?assign ?body ?done ?stop
 case assign =>
  intro l x W K hK
  have hsem := Oper.semAt_some l
  gi_wp2
  exact hK
 case body =>
  rintro lr pre x W ⟨⟨o, hk2, ho, hk0, hk1, hp6, hsW⟩, hB⟩ hlt
  have hsem := Oper.semAt_some lr
  obtain ⟨oa, oc, rfl, _⟩ := ho.hasL.form
  rw [List.length_map] at hk2 ho
  by_cases h6 : pre.length = 6
  ·have h6' : ((pre.length : Int) == 6) = true := by rw [beq_iff_eq]; omega
   have c2 := US hk2
   have c0 := US hk0
   have f0 := VG hk0 0
   have c1 := US hk1
   have f1 := VG hk1 0
   have hK0 := UC hk0
   have hK1 := UC hk1
   have hBB := UC hB
   clear k0 k1 k2 k3 hk0 hk1 hk2 ho hB
   gi_wp2
   exact ⟨((KeepsOthers.setCell _ _ _).trans (KeepsOthers.setCell _ _ _)).from _, ⟨rfl, by simp; omega, block_other (block_set (UB hK0) _) (by omega) 0 _, block_set (block_other (UB hK1) (by omega) 0 _) _⟩, ((UB hBB).setCell (by show w.heap.size ≤ w.heap.size; omega) _).setCell (by show w.heap.size ≤ w.heap.size + 1; omega) _⟩
  ·have h6' : ((pre.length : Int) == 6) = false := by rw [beq_eq_false_iff_ne]; omega
   have c2 := US hk2
   have hOL := UC ho
   have hK0 := UC hk0
   have hK1 := UC hk1
   have hK2 := UC hk2
   have hBB := UC hB
   clear k0 k1 k2 k3 hk0 hk1 hk2 ho hB
   have hB' := UB hBB
   gi_wp2
   have hLow := UC (implLower_has (w := W.drew) (x.2.1.below (UG hB' (UX (w := W)))) x.2.2.2 x.2.2.1)
   have hod := (UB hOL).below (UX (w := W))
   obtain ⟨vs, hvs, hva, hvd⟩ := hod
   have hvl : vs.length = pre.length := by have := hvs.1; simpa using this
   have KND := UC (UE (UX (w := W)) (UB hK2))
   have HVS := UC hvs
   have HVT := UC (show W.drew.ownsRow (w.heap.size + 1 + 1 + 1 + 1) 22 1 (.slice oa pre.length oc) pre.length vs by rw [List.length_map] at hvs; exact hvs)
   have HVA := UC hva
   have HVD := UC hvd
   have zb : w.heap.size + 1 + 1 + 1 + 1 ≤ W.drew.heap.size := by show w.heap.size + 1 + 1 + 1 + 1 ≤ W.heap.size; omega
   clear hvs hva hvd
   generalize hlw : lowered x.1.2 x.1.2.length = lw at *
   have HLW := UC hlw
   clear hlw
   refine regionIn_any (by rintro ⟨a', w', hq⟩; exact hq) (by kernel_rfl) (by kernel_rfl) ?_
   refine wpAny_take (i := 0) (oi := ⟨some 18, Op.fieldAddr 37 (.tmp 4) 0, 0, "l02_name.go:76", #[], none⟩) (v := .pointer (some ⟨w.heap.size + 1 + 1, 0, none⟩)) rfl (by kernel_rfl) (by kernel_rfl) (by kernel_rfl) (fun _ _ _ h => h) (Or.inl ⟨by rfl, fun w => by go_simp⟩) ?_
   simp only [Act.put, List.setIfInBounds_toArray, List.set_cons_zero, List.set_cons_succ]
   refine wpAny_take (i := 2) (oi := ⟨some 20, Op.move (.tmp 5), 22, "l02_name.go:76", #[], none⟩) (v := x.1.1) rfl (by kernel_rfl) (by kernel_rfl) (by kernel_rfl) (fun _ _ _ h => h) (Or.inl ⟨by rfl, fun w => by go_simp⟩) ?_
   simp only [Act.put, List.setIfInBounds_toArray, List.set_cons_zero, List.set_cons_succ]
   refine wpAny_ready (rs := [1, 3]) (by kernel_rfl) (by simp) (AllReady.cons (o := ⟨some 19, Op.load 35 (.tmp 18), 35, "l02_name.go:76", #[⟨0, .data⟩], none⟩) rfl (fun K hK => ?_) (AllReady.cons (o := ⟨some 21, Op.call { callee := Callee.value (Operand.func 43), args := #[Operand.tmp 20], argTypes := #[22] }, 22, "l02_name.go:76", #[⟨2, .data⟩], none⟩) rfl (fun K hK => ?_) AllReady.nil))
   ·have HK := UC hK
    clear hK
    go_simp
    refine UB HK _ _ ?_
    clear HK K
    try simp only [Act.put, List.setIfInBounds_toArray, List.set_cons_zero, List.set_cons_succ]
    refine wpAny_ready (rs := [3]) (by kernel_rfl) (by simp) (AllReady.cons (o := ⟨some 21, Op.call { callee := Callee.value (Operand.func 43), args := #[Operand.tmp 20], argTypes := #[22] }, 22, "l02_name.go:76", #[⟨2, .data⟩], none⟩) rfl (fun K hK => ?_) AllReady.nil)
    have HK := UC hK
    clear hK
    go_simp
    refine (UB hLow).mono ?_
    rintro e w2 ⟨u2, rfl, ou, b2⟩
    obtain ⟨u2a, u2c, rfl, _⟩ := ou.lies
    have OU := UC ou
    have B2 := UC b2
    have cw2 := US (UE b2 (UB KND))
    have ca2 : ∀ o, (w2.alloc o).cell? ⟨w.heap.size + 1 + 1, 0, none⟩ = some (.slice oa pre.length oc) := fun o => US (UE (UI o) (UE b2 (UB KND)))
    clear ou b2
    go_simp
    refine UB HK _ _ ?_
    clear HK K
    try simp only [Act.put, List.setIfInBounds_toArray, List.set_cons_zero, List.set_cons_succ]
    refine wpAny_ready (rs := [4]) (by kernel_rfl) (by simp) (AllReady.cons (o := ⟨some 22, Op.buildSlice 35 1 #[(0, Operand.tmp 21)], 35, "l02_name.go:76", #[⟨3, .data⟩], none⟩) rfl (fun K hK => ?_) AllReady.nil)
    have HK := UC hK
    clear hK
    go_simp
    refine UB HK _ _ ?_
    clear HK K
    try simp only [Act.put, List.setIfInBounds_toArray, List.set_cons_zero, List.set_cons_succ]
    refine wpAny_ready (rs := [5]) (by kernel_rfl) (by simp) (AllReady.cons (o := ⟨some 23, Op.call { callee := Callee.builtin Builtin.append, args := #[Operand.tmp 19, Operand.tmp 22], argTypes := #[35, 35] }, 35, "l02_name.go:76", #[⟨1, .data⟩, ⟨4, .data⟩, ⟨3, .chain⟩], none⟩) rfl (fun K hK => ?_) AllReady.nil)
    have HK := UC hK
    clear hK
    refine step_append_row rfl (.tmp 19) (.tmp 22) 35 22 rfl Tryz.underlying35 info_sl8 (w.heap.size + 1 + 1 + 1 + 1) (.slice oa pre.length oc) _ vs [.slice u2a lw.length u2c] (by simp [Act.eval]) (by simp [Act.eval]) (by rw [hvl]; exact World.ownsRow.alloc (ownsRow_kept' (UB HVT) (UB B2)) _) (one_more w2 22 _) (by intro y hy; simp at hy; subst hy; rfl) (by rw [hvl]; simp; omega) (by have := (UB B2).size; simp; omega) ?_
    intro v3 w3 o3 g3
    have hapart : ∀ (k : Nat) (c : Array Value) (t : TypeId), (w2.alloc (.cells #[.slice u2a lw.length u2c] 22)).heap[k]? = some (.cells c t) → t ≠ 22 → w3.heap[k]? = some (.cells c t) := fun k c t hk ht => block_grown g3 hk (row_apart (World.ownsRow.alloc (ownsRow_kept' (UB HVS) (UB B2)) _) hk ht)
    have hcells : ∀ (k : Nat) (o : Obj), (w2.alloc (.cells #[.slice u2a lw.length u2c] 22)).heap[k]? = some o → o.isCells = false → w3.heap[k]? = some o := fun k o hk ho => block_grown g3 hk (row_cells (World.ownsRow.alloc (ownsRow_kept' (UB HVS) (UB B2)) _) hk ho)
    have z3 := g3.size
    obtain ⟨p3, k3, y3⟩ := snoc_step g3 o3 (by simp [hvl]) (UB HVS) (UB HVA) (UB HVD) ((UB B2).alloc (UB B2).size _) ((UB OU).alloc _) zb (by decide) (UE (UI _) (UE (UB B2) (UB KND))) (by decide)
    obtain ⟨v3a, v3c, rfl, _⟩ := p3.hasL.form
    simp only [List.length_append, List.length_map, List.length_cons, List.length_nil] at p3
    have P3 := UC p3
    have K3 := UC k3
    have Y3 := UC y3
    have HAP := UC hapart
    have HCE := UC hcells
    have co3 := US k3
    have fo3 := VG k3 0
    clear p3 k3 y3 hapart hcells o3 g3
    refine UB HK _ _ ?_
    clear HK K
    try simp only [Act.put, List.setIfInBounds_toArray, List.set_cons_zero, List.set_cons_succ]
    refine wpAny_take (i := 6) (oi := ⟨some 24, Op.fieldAddr 37 (.tmp 4) 0, 0, "l02_name.go:76", #[⟨0, .phase⟩, ⟨1, .phase⟩, ⟨2, .phase⟩, ⟨3, .phase⟩, ⟨4, .phase⟩, ⟨5, .phase⟩], none⟩) (v := .pointer (some ⟨w.heap.size + 1 + 1, 0, none⟩)) rfl (by kernel_rfl) (by kernel_rfl) (by kernel_rfl) (fun _ _ _ h => h) (Or.inl ⟨by rfl, fun w => by go_simp⟩) ?_
    simp only [Act.put, List.setIfInBounds_toArray, List.set_cons_zero, List.set_cons_succ]
    refine wpAny_ready (rs := [7]) (by kernel_rfl) (by simp) (AllReady.cons (o := ⟨none, Op.store 35 (.tmp 24) (.tmp 23), 0, "l02_name.go:76", #[⟨6, .data⟩, ⟨5, .data⟩, ⟨5, .chain⟩, ⟨0, .phase⟩, ⟨1, .phase⟩, ⟨2, .phase⟩, ⟨3, .phase⟩, ⟨4, .phase⟩, ⟨5, .phase⟩], none⟩) rfl (fun K hK => ?_) AllReady.nil)
    have HK := UC hK
    clear hK
    go_simp
    refine UB HK _ _ ?_
    clear HK K
    refine wpAny_done (by kernel_rfl) ?_ _
    exact bodyEnd (UB HLW) (UB P3) (UB K3) (UB Y3) (UB HAP) (UB HCE) (UB B2) z3 (UB hK0) (UB hK1) (UB hBB) hsW hp6 h6
   ·have HK := UC hK
    clear hK
    go_simp
    refine (UB hLow).mono ?_
    rintro e w2 ⟨u2, rfl, ou, b2⟩
    obtain ⟨u2a, u2c, rfl, _⟩ := ou.lies
    have OU := UC ou
    have B2 := UC b2
    have cw2 := US (UE b2 (UB KND))
    have ca2 : ∀ o, (w2.alloc o).cell? ⟨w.heap.size + 1 + 1, 0, none⟩ = some (.slice oa pre.length oc) := fun o => US (UE (UI o) (UE b2 (UB KND)))
    clear ou b2
    go_simp
    refine UB HK _ _ ?_
    clear HK K
    try simp only [Act.put, List.setIfInBounds_toArray, List.set_cons_zero, List.set_cons_succ]
    refine wpAny_ready (rs := [1, 4]) (by kernel_rfl) (by simp) (AllReady.cons (o := ⟨some 19, Op.load 35 (.tmp 18), 35, "l02_name.go:76", #[⟨0, .data⟩], none⟩) rfl (fun K hK => ?_) (AllReady.cons (o := ⟨some 22, Op.buildSlice 35 1 #[(0, Operand.tmp 21)], 35, "l02_name.go:76", #[⟨3, .data⟩], none⟩) rfl (fun K hK => ?_) AllReady.nil))
    ·have HK := UC hK
     clear hK
     go_simp
     refine UB HK _ _ ?_
     clear HK K
     try simp only [Act.put, List.setIfInBounds_toArray, List.set_cons_zero, List.set_cons_succ]
     refine wpAny_ready (rs := [4]) (by kernel_rfl) (by simp) (AllReady.cons (o := ⟨some 22, Op.buildSlice 35 1 #[(0, Operand.tmp 21)], 35, "l02_name.go:76", #[⟨3, .data⟩], none⟩) rfl (fun K hK => ?_) AllReady.nil)
     have HK := UC hK
     clear hK
     go_simp
     refine UB HK _ _ ?_
     clear HK K
     try simp only [Act.put, List.setIfInBounds_toArray, List.set_cons_zero, List.set_cons_succ]
     refine wpAny_ready (rs := [5]) (by kernel_rfl) (by simp) (AllReady.cons (o := ⟨some 23, Op.call { callee := Callee.builtin Builtin.append, args := #[Operand.tmp 19, Operand.tmp 22], argTypes := #[35, 35] }, 35, "l02_name.go:76", #[⟨1, .data⟩, ⟨4, .data⟩, ⟨3, .chain⟩], none⟩) rfl (fun K hK => ?_) AllReady.nil)
     have HK := UC hK
     clear hK
     refine step_append_row rfl (.tmp 19) (.tmp 22) 35 22 rfl Tryz.underlying35 info_sl8 (w.heap.size + 1 + 1 + 1 + 1) (.slice oa pre.length oc) _ vs [.slice u2a lw.length u2c] (by simp [Act.eval]) (by simp [Act.eval]) (by rw [hvl]; exact World.ownsRow.alloc (ownsRow_kept' (UB HVT) (UB B2)) _) (one_more w2 22 _) (by intro y hy; simp at hy; subst hy; rfl) (by rw [hvl]; simp; omega) (by have := (UB B2).size; simp; omega) ?_
     intro v3 w3 o3 g3
     have hapart : ∀ (k : Nat) (c : Array Value) (t : TypeId), (w2.alloc (.cells #[.slice u2a lw.length u2c] 22)).heap[k]? = some (.cells c t) → t ≠ 22 → w3.heap[k]? = some (.cells c t) := fun k c t hk ht => block_grown g3 hk (row_apart (World.ownsRow.alloc (ownsRow_kept' (UB HVS) (UB B2)) _) hk ht)
     have hcells : ∀ (k : Nat) (o : Obj), (w2.alloc (.cells #[.slice u2a lw.length u2c] 22)).heap[k]? = some o → o.isCells = false → w3.heap[k]? = some o := fun k o hk ho => block_grown g3 hk (row_cells (World.ownsRow.alloc (ownsRow_kept' (UB HVS) (UB B2)) _) hk ho)
     have z3 := g3.size
     obtain ⟨p3, k3, y3⟩ := snoc_step g3 o3 (by simp [hvl]) (UB HVS) (UB HVA) (UB HVD) ((UB B2).alloc (UB B2).size _) ((UB OU).alloc _) zb (by decide) (UE (UI _) (UE (UB B2) (UB KND))) (by decide)
     obtain ⟨v3a, v3c, rfl, _⟩ := p3.hasL.form
     simp only [List.length_append, List.length_map, List.length_cons, List.length_nil] at p3
     have P3 := UC p3
     have K3 := UC k3
     have Y3 := UC y3
     have HAP := UC hapart
     have HCE := UC hcells
     have co3 := US k3
     have fo3 := VG k3 0
     clear p3 k3 y3 hapart hcells o3 g3
     refine UB HK _ _ ?_
     clear HK K
     try simp only [Act.put, List.setIfInBounds_toArray, List.set_cons_zero, List.set_cons_succ]
     refine wpAny_take (i := 6) (oi := ⟨some 24, Op.fieldAddr 37 (.tmp 4) 0, 0, "l02_name.go:76", #[⟨0, .phase⟩, ⟨1, .phase⟩, ⟨2, .phase⟩, ⟨3, .phase⟩, ⟨4, .phase⟩, ⟨5, .phase⟩], none⟩) (v := .pointer (some ⟨w.heap.size + 1 + 1, 0, none⟩)) rfl (by kernel_rfl) (by kernel_rfl) (by kernel_rfl) (fun _ _ _ h => h) (Or.inl ⟨by rfl, fun w => by go_simp⟩) ?_
     simp only [Act.put, List.setIfInBounds_toArray, List.set_cons_zero, List.set_cons_succ]
     refine wpAny_ready (rs := [7]) (by kernel_rfl) (by simp) (AllReady.cons (o := ⟨none, Op.store 35 (.tmp 24) (.tmp 23), 0, "l02_name.go:76", #[⟨6, .data⟩, ⟨5, .data⟩, ⟨5, .chain⟩, ⟨0, .phase⟩, ⟨1, .phase⟩, ⟨2, .phase⟩, ⟨3, .phase⟩, ⟨4, .phase⟩, ⟨5, .phase⟩], none⟩) rfl (fun K hK => ?_) AllReady.nil)
     have HK := UC hK
     clear hK
     go_simp
     refine UB HK _ _ ?_
     clear HK K
     refine wpAny_done (by kernel_rfl) ?_ _
     exact bodyEnd (UB HLW) (UB P3) (UB K3) (UB Y3) (UB HAP) (UB HCE) (UB B2) z3 (UB hK0) (UB hK1) (UB hBB) hsW hp6 h6
    ·have HK := UC hK
     clear hK
     go_simp
     refine UB HK _ _ ?_
     clear HK K
     try simp only [Act.put, List.setIfInBounds_toArray, List.set_cons_zero, List.set_cons_succ]
     refine wpAny_ready (rs := [1]) (by kernel_rfl) (by simp) (AllReady.cons (o := ⟨some 19, Op.load 35 (.tmp 18), 35, "l02_name.go:76", #[⟨0, .data⟩], none⟩) rfl (fun K hK => ?_) AllReady.nil)
     have HK := UC hK
     clear hK
     go_simp
     refine UB HK _ _ ?_
     clear HK K
     try simp only [Act.put, List.setIfInBounds_toArray, List.set_cons_zero, List.set_cons_succ]
     refine wpAny_ready (rs := [5]) (by kernel_rfl) (by simp) (AllReady.cons (o := ⟨some 23, Op.call { callee := Callee.builtin Builtin.append, args := #[Operand.tmp 19, Operand.tmp 22], argTypes := #[35, 35] }, 35, "l02_name.go:76", #[⟨1, .data⟩, ⟨4, .data⟩, ⟨3, .chain⟩], none⟩) rfl (fun K hK => ?_) AllReady.nil)
     have HK := UC hK
     clear hK
     refine step_append_row rfl (.tmp 19) (.tmp 22) 35 22 rfl Tryz.underlying35 info_sl8 (w.heap.size + 1 + 1 + 1 + 1) (.slice oa pre.length oc) _ vs [.slice u2a lw.length u2c] (by simp [Act.eval]) (by simp [Act.eval]) (by rw [hvl]; exact World.ownsRow.alloc (ownsRow_kept' (UB HVT) (UB B2)) _) (one_more w2 22 _) (by intro y hy; simp at hy; subst hy; rfl) (by rw [hvl]; simp; omega) (by have := (UB B2).size; simp; omega) ?_
     intro v3 w3 o3 g3
     have hapart : ∀ (k : Nat) (c : Array Value) (t : TypeId), (w2.alloc (.cells #[.slice u2a lw.length u2c] 22)).heap[k]? = some (.cells c t) → t ≠ 22 → w3.heap[k]? = some (.cells c t) := fun k c t hk ht => block_grown g3 hk (row_apart (World.ownsRow.alloc (ownsRow_kept' (UB HVS) (UB B2)) _) hk ht)
     have hcells : ∀ (k : Nat) (o : Obj), (w2.alloc (.cells #[.slice u2a lw.length u2c] 22)).heap[k]? = some o → o.isCells = false → w3.heap[k]? = some o := fun k o hk ho => block_grown g3 hk (row_cells (World.ownsRow.alloc (ownsRow_kept' (UB HVS) (UB B2)) _) hk ho)
     have z3 := g3.size
     obtain ⟨p3, k3, y3⟩ := snoc_step g3 o3 (by simp [hvl]) (UB HVS) (UB HVA) (UB HVD) ((UB B2).alloc (UB B2).size _) ((UB OU).alloc _) zb (by decide) (UE (UI _) (UE (UB B2) (UB KND))) (by decide)
     obtain ⟨v3a, v3c, rfl, _⟩ := p3.hasL.form
     simp only [List.length_append, List.length_map, List.length_cons, List.length_nil] at p3
     have P3 := UC p3
     have K3 := UC k3
     have Y3 := UC y3
     have HAP := UC hapart
     have HCE := UC hcells
     have co3 := US k3
     have fo3 := VG k3 0
     clear p3 k3 y3 hapart hcells o3 g3
     refine UB HK _ _ ?_
     clear HK K
     try simp only [Act.put, List.setIfInBounds_toArray, List.set_cons_zero, List.set_cons_succ]
     refine wpAny_take (i := 6) (oi := ⟨some 24, Op.fieldAddr 37 (.tmp 4) 0, 0, "l02_name.go:76", #[⟨0, .phase⟩, ⟨1, .phase⟩, ⟨2, .phase⟩, ⟨3, .phase⟩, ⟨4, .phase⟩, ⟨5, .phase⟩], none⟩) (v := .pointer (some ⟨w.heap.size + 1 + 1, 0, none⟩)) rfl (by kernel_rfl) (by kernel_rfl) (by kernel_rfl) (fun _ _ _ h => h) (Or.inl ⟨by rfl, fun w => by go_simp⟩) ?_
     simp only [Act.put, List.setIfInBounds_toArray, List.set_cons_zero, List.set_cons_succ]
     refine wpAny_ready (rs := [7]) (by kernel_rfl) (by simp) (AllReady.cons (o := ⟨none, Op.store 35 (.tmp 24) (.tmp 23), 0, "l02_name.go:76", #[⟨6, .data⟩, ⟨5, .data⟩, ⟨5, .chain⟩, ⟨0, .phase⟩, ⟨1, .phase⟩, ⟨2, .phase⟩, ⟨3, .phase⟩, ⟨4, .phase⟩, ⟨5, .phase⟩], none⟩) rfl (fun K hK => ?_) AllReady.nil)
     have HK := UC hK
     clear hK
     go_simp
     refine UB HK _ _ ?_
     clear HK K
     refine wpAny_done (by kernel_rfl) ?_ _
     exact bodyEnd (UB HLW) (UB P3) (UB K3) (UB Y3) (UB HAP) (UB HCE) (UB B2) z3 (UB hK0) (UB hK1) (UB hBB) hsW hp6 h6
 case done =>
  rintro D ys W hD hys ⟨⟨o, hk2, ho, hk0, hk1, hp6, hsW⟩, hB⟩ hK
  have hN : ys.map (fun x => lowL x.1.2) = (pieces (trimD l)).map lowL := by rw [← hys, List.map_map]; rfl
  rw [hN] at ho
  have hRes := UB HRES
  generalize (pieces (trimD l)).map lowL = N at *
  obtain ⟨oa, oc, rfl, _⟩ := ho.hasL.form
  have HN := VP ho.hasL
  cases hok : nameOk N with
  | false =>
   rw [hok] at HN
   rw [hok, if_neg (by simp)] at hRes
   subst hRes
   clear hok
   have c2 := US hk2
   have HN := UC HN
   have hK0 := UC hk0
   have hK1 := UC hk1
   have hK2 := UC hk2
   have hBB := UC hB
   have hKD := UC hK
   have hOO := UC ho
   clear k0 k1 k2 k3 HRES hk0 hk1 hk2 hB hK ho
   gi_wp2_with (refine ⟨trivial, ?_⟩; gi_at_call 44; refine (callsIn_wide.2 (UB HN)).mono ?_; rintro e w1 ⟨rfl, b1⟩; have r0 := UE b1 (UB hK0); have r1 := UE b1 (UB hK1); have r2 := UE b1 (UB hK2); have c0 := US r0; have f0 := VG r0 0; have c1 := US r1; have f1 := VG r1 0; have c2' := US r2; have KD := UC (UE b1 (UB hKD)); have R0 := UC r0; have R1 := UC r1; have B1 := UC b1; clear r0 r1 r2 b1)
   have s0 := block_other (block_set (UB R0) (.slice none 0 0)) (b' := w.heap.size + 1) (by omega) 0 (.bool false)
   have s1 := block_set (block_other (UB R1) (b' := w.heap.size) (by omega) 0 (.slice none 0 0)) (.bool false)
   have bs : Below w.heap.size w ((w1.setCell ⟨w.heap.size, 0, none⟩ (.slice none 0 0)).setCell ⟨w.heap.size + 1, 0, none⟩ (.bool false)) := ((UG (UB hBB) (UB B1)).setCell (by show w.heap.size ≤ w.heap.size; omega) _).setCell (by show w.heap.size ≤ w.heap.size + 1; omega) _
   have sD := ((KeepsOthers.setCell w1 ⟨w.heap.size, 0, none⟩ (.slice none 0 0)).trans (KeepsOthers.setCell _ ⟨w.heap.size + 1, 0, none⟩ (.bool false))).same D _ (UB KD) rfl
   generalize (w1.setCell ⟨w.heap.size, 0, none⟩ (.slice none 0 0)).setCell ⟨w.heap.size + 1, 0, none⟩ (.bool false) = w5 at *
   refine ⟨by simp, .inl ⟨_, _, rfl, run_takeDeferred sD, ?_⟩⟩
   have hkk := cellsKept_of (grownBy_putObj' w5 D (.deferred none)) (fun r e => by cases e; exact ⟨_, sD, rfl⟩)
   exact ⟨_, results_cell2_row rfl _ _ w.heap.size (w.heap.size + 1) 37 #[.slice none 0 0] (0, 0) _ false rfl (hkk _ _ _ s0) Tryz.underlying37 rfl (by kernel_rfl) rfl (load_bool (US (hkk _ _ _ s1))), _, rfl, ⟨[], by simpa using World.ownsRow_nil _ _ _ _, by simp, by simp⟩, bs.trans (belowK_b (w := w) (Nat.le_refl _) w5 D _ _ (by omega) sD rfl rfl)⟩
  | true =>
   rw [hok] at HN
   rw [hok, if_pos rfl] at hRes
   subst hRes
   clear hok
   have c2 := US hk2
   have HN := UC HN
   have hK0 := UC hk0
   have hK1 := UC hk1
   have hK2 := UC hk2
   have hBB := UC hB
   have hKD := UC hK
   have hOO := UC ho
   clear k0 k1 k2 k3 HRES hk0 hk1 hk2 hB hK ho
   gi_wp2_with (refine ⟨trivial, ?_⟩; gi_at_call 44; refine (callsIn_wide.2 (UB HN)).mono ?_; rintro e w1 ⟨rfl, b1⟩; have r0 := UE b1 (UB hK0); have r1 := UE b1 (UB hK1); have r2 := UE b1 (UB hK2); have c0 := US r0; have f0 := VG r0 0; have c1 := US r1; have f1 := VG r1 0; have c2' := US r2; have KD := UC (UE b1 (UB hKD)); have R0 := UC r0; have R1 := UC r1; have B1 := UC b1; clear r0 r1 r2 b1)
   have s0 := block_other (block_set (UB R0) (.slice oa N.length oc)) (b' := w.heap.size + 1) (by omega) 0 (.bool true)
   have s1 := block_set (block_other (UB R1) (b' := w.heap.size) (by omega) 0 (.slice oa N.length oc)) (.bool true)
   have bs : Below w.heap.size w ((w1.setCell ⟨w.heap.size, 0, none⟩ (.slice oa N.length oc)).setCell ⟨w.heap.size + 1, 0, none⟩ (.bool true)) := ((UG (UB hBB) (UB B1)).setCell (by show w.heap.size ≤ w.heap.size; omega) _).setCell (by show w.heap.size ≤ w.heap.size + 1; omega) _
   have sD := ((KeepsOthers.setCell w1 ⟨w.heap.size, 0, none⟩ (.slice oa N.length oc)).trans (KeepsOthers.setCell _ ⟨w.heap.size + 1, 0, none⟩ (.bool true))).same D _ (UB KD) rfl
   have oS := (((UB hOO).below (UB B1)).kept (grown_setCell w1 ⟨w.heap.size, 0, none⟩ (.slice oa N.length oc)) (by show w.heap.size < _; omega)).kept (grown_setCell _ ⟨w.heap.size + 1, 0, none⟩ (.bool true)) (by show w.heap.size + 1 < _; omega)
   generalize (w1.setCell ⟨w.heap.size, 0, none⟩ (.slice oa N.length oc)).setCell ⟨w.heap.size + 1, 0, none⟩ (.bool true) = w5 at *
   refine ⟨by simp, .inl ⟨_, _, rfl, run_takeDeferred sD, ?_⟩⟩
   have hkk := cellsKept_of (grownBy_putObj' w5 D (.deferred none)) (fun r e => by cases e; exact ⟨_, sD, rfl⟩)
   exact ⟨_, results_cell2_row rfl _ _ w.heap.size (w.heap.size + 1) 37 #[.slice oa N.length oc] (0, 0) _ true rfl (hkk _ _ _ s0) Tryz.underlying37 rfl (by kernel_rfl) rfl (load_bool (US (hkk _ _ _ s1))), _, rfl, (ownL_cells oS hkk).mono (by omega), bs.trans (belowK_b (w := w) (Nat.le_refl _) w5 D _ _ (by omega) sD rfl rfl)⟩
 case stop =>
  rintro D c pre W hD hpre ⟨⟨rfl, h6, hk0, hk1⟩, hB⟩ hK
  have hRes := UB HRES
  have hno : nameOk ((pieces (trimD l)).map lowL) = false := by
   cases hh : nameOk ((pieces (trimD l)).map lowL) with
   | false => rfl
   | true =>
    have h7 := (nameOk_parts hh).1
    have h8 := hpre.length_le
    simp at h7 h8
    omega
  rw [hno, if_neg (by simp)] at hRes
  subst hRes
  have hkk := cellsKept_of (grownBy_putObj' W D (.deferred none)) (fun r e => by cases e; exact ⟨_, hK, rfl⟩)
  have r0 := hkk _ _ _ hk0
  have r1 := hkk _ _ _ hk1
  have bz : Below w.heap.size w (W.putObj D (.deferred none)) := hB.trans (belowK_b (w := w) (Nat.le_refl _) W D _ _ (by omega) hK rfl rfl)
  clear HRES k0 k1 k2 k3
  gi_wp2
  refine ⟨by simp, .inl ⟨_, _, rfl, run_takeDeferred hK, ?_⟩⟩
  exact ⟨_, results_cell2_row rfl _ _ w.heap.size (w.heap.size + 1) 37 #[.slice none 0 0] (0, 0) _ false rfl r0 Tryz.underlying37 rfl (by kernel_rfl) rfl (load_bool (US r1)), _, rfl, ⟨[], by simpa using World.ownsRow_nil _ _ _ _, by simp, by simp⟩, bz⟩

theorem nameRead_dot {a : Option Addr} {cap : Nat} {l : List Int} {w : World} (h : Has w (.slice a l.length cap) l) (hb : Bytes8 l) (h1 : l = [46]) :
  CallsIn Fence.wide 5 Tryz.prog 19 #[.slice a l.length cap] w fun e w' => ∃ v', e = .returned (.tuple #[.agg #[v'], .bool (nameRead l).2]) ∧ OwnL w.heap.size 22 5 w' v' (nameRead l).1 ∧ Below w.heap.size w w' := by
 have hs : ((strOfNums l).toList == (strOfNums [46]).toList) = decide (l = [46]) := str_eq l [46] (mem8 hb) (fun c hc => by simp at hc; omega)
 have hs46 : (strOfNums [46]).toList = [46] := by decide +kernel
 rw [hs46, decide_eq_true h1] at hs
 have b2 := below2 w (.cells #[.slice none 0 0] 37) (.cells #[.bool false] 4)
 have cA := conv_has (h.below b2)
 have e1 : nameRead l = ([], true) := by unfold nameRead; rw [if_pos h1]
 rw [e1]
 obtain ⟨hsz, k0, r0⟩ := box2 w (.cells #[.slice none 0 0] 37) #[.bool true] 4
 have bt := below2 w (.cells #[.slice none 0 0] 37) (.cells #[.bool true] 4)
 have K0 := UC k0
 have R0 := UC r0
 have BT := UC bt
 clear h h1 e1 k0 r0 bt hsz b2
 refine callsIn_of_wp_marks Tryz.func19 rfl trivial ?_ rfl
 simp only [Tryz.ntmps19, List.size_toArray, List.length_cons, List.length_nil, Nat.reduceAdd, Nat.reduceSub, Array.replicate_succ, Array.replicate_zero, List.push_toArray, List.append_toArray, List.nil_append, List.cons_append]
 gi_wp2
 exact ⟨_, results_cell2_row rfl _ _ w.heap.size (w.heap.size + 1) 37 #[.slice none 0 0] (0, 0) _ true rfl (UB K0) Tryz.underlying37 rfl (by kernel_rfl) rfl (load_bool (US (UB R0))), _, rfl, ⟨[], by simpa using World.ownsRow_nil _ _ _ _, by simp, by simp⟩, UB BT⟩

theorem implNameRead_has {v : Value} {l : List Int} {w : World} (h : Has w v l) (hl : l.length ≤ 1048576) (hb : Bytes8 l) :
  Calls Tryz.prog 19 #[v] w fun e w' => ∃ v', e = .returned (.tuple #[.agg #[v'], .bool (nameRead l).2]) ∧ OwnL w.heap.size 22 5 w' v' (nameRead l).1 ∧ Below w.heap.size w w' := by
 refine (callsIn_wide (n := 5)).1 ?_
 obtain ⟨a, cap, rfl, _⟩ := h.form
 by_cases h1 : l = [46]
 ·exact nameRead_dot h hb h1
 ·exact nameRead_loop h hl hb h1
end Go.Proofs.YtbabmdiklefgcaaGreatDoor
