/-
  slices.Backward of the library at lists of texts, as what a loop ranges over. Plain facts: an append of bytes in a fenced walk. No program is named here. A slice of bytes made into a text. Contract of the program's nameKey: a name as a text that ascends as names do.
-/
import Derived.Test.YtmnlhjdjjinbiaaGreatDropSetG03
import Derived.Test.YtmnlhjdjjinbiaaGreatDropSetG00
import Derived.Test.YtmnlhjdjjinbiaaGreatDropSetG08
import Derived.RangeFuncNested
import Derived.RangeFuncBound
import Derived.RangeFuncCalls
import Derived.RangeFuncLeaves
import Derived.Shelf.Abstract
import Derived.Shelf.RegionOpen
import Derived.WalkKit
import Derived.OwnWalkIn
import Derived.TacticsInMore
import Derived.LoopNIn
import Derived.LoopIn
import Derived.Test.YtmnlhjdjjinbiaaGreatDropSetG01
import Derived.Test.YtmnlhjdjjinbiaaGreatDropSetG02
import Derived.Test.YtmnlhjdjjinbiaaGreatDropSetG04
import Derived.RangeFuncBox
namespace Go.Proofs.YtmnlhjdjjinbiaaGreat
open Go.RowKit Go.Shelf
set_option linter.unusedVariables false

/-- A label, with its place and the slice that has it. -/
abbrev LabV (w : World) := { p : (Nat × Value) × List Int // Has w p.1.2 p.2 ∧ p.2.length ≤ 15 }
def encL {w : World} (x : LabV w) : Array Value := #[.int .i64 x.1.1.1, x.1.1.2]
/-- What a round keeps: what lay below n0, and the iterator's own box. -/
def KpB (n0 Bt : Nat) (W W' : World) : Prop := Below n0 W W' ∧ ∀ c t, W.heap[Bt]? = some (Obj.cells c t) → W'.heap[Bt]? = some (Obj.cells c t)
theorem kpB_t {n0 Bt : Nat} {A B C : World} (h : KpB n0 Bt A B) (k : KpB n0 Bt B C) : KpB n0 Bt A C := ⟨h.1.trans k.1, fun c t q => k.2 c t (h.2 c t q)⟩
theorem kpB_b {n0 Bt : Nat} {w : World} (hn : n0 ≤ w.heap.size) (W : World) (l : Nat) (o o' : Obj) (hl : w.heap.size ≤ l) (h : W.heap[l]? = some o) (h1 : o.isCells = false) (h2 : o.isWalk = false) : KpB n0 Bt W (W.putObj l o') :=
  ⟨belowK_b hn W l o o' hl h h1 h2, fun c t q => keptC_of (grownBy_putObj' W l o') (fun r e => by cases e; exact ⟨_, h, h1⟩) _ _ _ q⟩

set_option maxHeartbeats 4000000 in
set_option maxRecDepth 100000 in
theorem back1_in (n : Nat) (hn : 1 ≤ n) (l Bt n0 : Nat) (w0 : World) (a : Option Addr) (cap : Nat) (ns : List (List Int)) (hn0 : n0 = w0.heap.size) (hT : HasL w0 (.slice a ns.length cap) ns) (hl : ns.length ≤ 1048576) (hs : ∀ k, k < ns.length → (ns.getD k []).length ≤ 15)
    (J Jx : List (LabV w0) → World → Prop) (W : World) (hW : Below n0 w0 W) (hJ : AbidesFrom W.heap.size J)
    (hY : ∀ pre x W1, J pre W1 → pre.length < ns.length → YieldAt Fence.wide (n - 1) Tryz.prog l (encL x) W1 fun e W' => (e = .returned (.bool true) ∧ J (pre ++ [x]) W' ∧ KpB n0 Bt W1 W') ∨ (e = .returned (.bool false) ∧ Jx (pre ++ [x]) W'))
    (hBt : W.heap[Bt]? = some (.cells #[.slice a ns.length cap] 22)) (h0 : J [] W) :
    CallsIn Fence.wide n Tryz.prog 134 #[.func (.yield l) #[] #[], .pointer (some ⟨Bt, 0, none⟩)] W fun e W' => (∃ v, e = .returned v) ∧
      ((∃ xs, xs.map (·.1.2) = ns.reverse ∧ J xs W') ∨ (∃ pre, True ∧ Jx pre W')) := by
  subst hn0
  have HT := hide hT
  have HS := hide hs
  have HJ := hide hJ
  have HY := hide hY
  have B0 := hide hW
  have H0 := hide h0
  have KB := hide hBt
  have cB := block_one hBt
  clear hT hs hJ hY hW h0 hBt
  generalize hm : ns.length = m at *
  have HM := hide hm
  clear hm
  refine callsIn_of_wp Tryz.func134 rfl trivial ?_ rfl
  simp only [Tryz.ntmps134, List.size_toArray, List.length_cons, List.length_nil, Nat.reduceAdd, Nat.reduceSub, Array.replicate_succ, Array.replicate_zero, List.push_toArray, List.append_toArray, List.nil_append, List.cons_append]
  gi_wp2
  clear cB
  gi_loopw [3] (fun i wr => ∃ (k : Nat) (pre : List (LabV w0)), k ≤ m ∧ i = .int .i64 ((k : Int) - 1) ∧ pre.length + k = m ∧ pre.map (·.1.2) = (ns.drop k).reverse ∧ J pre wr ∧ Below w0.heap.size w0 wr ∧ wr.heap[Bt]? = some (.cells #[.slice a m cap] 22)) (fun i _ => (intOf i + 1).toNat)
  case atStart => exact ⟨m, [], Nat.le_refl _, by go_num, by simp, by rw [← unhide HM]; simp, unhide H0, unhide B0, unhide KB⟩
  case round =>
    obtain ⟨k, pre, hk, rfl, hpl, hp, hj, hbl, hkb⟩ := hrel
    have cB := block_one hkb
    cases k with
    | zero =>
      simp only [List.drop_zero] at hp
      gi_wp2
      go_end0
      exact ⟨⟨_, rfl⟩, .inl ⟨pre, hp, hj⟩⟩
    | succ k =>
      obtain ⟨b, off, u, rfl, hb1, hc, hH⟩ := (unhide HT).here (k := k) (by rw [unhide HM]; omega)
      have hsk := unhide HS k (by omega)
      have hdk := hide (show (ns.drop k).reverse = (ns.drop (k + 1)).reverse ++ [ns.getD k []] by rw [List.drop_eq_getElem_cons (i := k) (by rw [unhide HM]; omega)]; simp [show k < ns.length by rw [unhide HM]; omega])
      have c0 : wr.cell? ⟨b, off + k, none⟩ = some u := (hbl.cell (p := ⟨b, off + k, none⟩) hb1).trans hc
      generalize ns.getD k [] = t at *
      obtain ⟨x, hx1, hx2⟩ : ∃ x : LabV w0, encL x = #[.int .i64 (k : Int), u] ∧ x.1.2 = t := ⟨⟨((k, u), t), hH, hsk⟩, rfl, rfl⟩
      obtain ⟨fn, tmps, assign, body, hy, hRd⟩ := unhide HY pre x wr hj (by omega)
      rw [hx1] at hy
      have hkk : (((k + 1 : Nat) : Int) - 1) = (k : Int) := by omega
      rw [hkk]
      have HB := hide hbl
      clear hc hH hsk hbl
      gi_wp2
      refine hRd.mono ?_
      rintro e W3 (⟨rfl, hJ3, hk3⟩ | ⟨rfl, hJx3⟩)
      · have hb3 := (unhide HB).trans hk3.1
        have hkb3 := hk3.2 _ _ hkb
        clear hy hRd hk3 HB c0 cB hkb
        gi_wp2
        go_roundw
        case rel => exact ⟨k, pre ++ [x], by omega, by go_num, by simp; omega, by rw [unhide hdk, ← hp]; simp [hx2], hJ3, hb3, hkb3⟩
        case measure => simp [intOf]
      · clear hy hRd HB c0 cB hkb
        gi_wp2
        refine bodyPost_ret (results_none rfl _ _ _) rfl ?_
        exact ⟨⟨_, rfl⟩, .inr ⟨pre ++ [x], trivial, hJx3⟩⟩
theorem back_stops (Bt : Nat) (w0 w : World) (a : Option Addr) (cap : Nat) (ns : List (List Int)) (hT : HasL w0 (.slice a ns.length cap) ns) (hl : ns.length ≤ 1048576) (hs : ∀ k, k < ns.length → (ns.getD k []).length ≤ 15) (hb : Below w0.heap.size w0 w) (hBt : w.heap[Bt]? = some (.cells #[.slice a ns.length cap] 22)) :
    SeqStopsK Fence.wide 4 Tryz.prog 134 #[.pointer (some ⟨Bt, 0, none⟩)] (fun x : LabV w0 => encL x) (KpB w0.heap.size Bt) (fun xs => xs.map (·.1.2) = ns.reverse) (fun _ => True) ns.length w :=
  fun l J Jx W hW hJ hJx hY h0 => back1_in 4 (by omega) l Bt _ w0 a cap ns rfl hT hl hs J Jx W (hb.trans (hW.mono hb.size)) hJ hY (block_kept hW hBt) h0
set_option maxHeartbeats 400000 in
set_option maxRecDepth 100000 in
theorem back_any (a : Option Addr) (len cap : Nat) (w : World) : Calls Tryz.prog 123 #[.slice a len cap] w fun e w' => e = .returned (.func (.func 134) #[] #[.pointer (some ⟨w.heap.size, 0, none⟩)]) ∧ w' = w.alloc (.cells #[.slice a len cap] 22) := by
  go_enter Tryz.func123, Tryz.ntmps123
  go_wp2
  go_ret
  exact ⟨rfl, rfl⟩
end Go.Proofs.YtmnlhjdjjinbiaaGreat

namespace Go.Proofs.YtmnlhjdjjinbiaaGreat
open Go.RowKit
set_option linter.unusedVariables false

theorem append_bytesIn {F : Fence} {n : Nat} {P : Program} {w : World} {ops : Array Oper} {rest : List Oper} {o : Oper} {a : Act} {Q : Exit → Act → World → Prop} (hgd : o.guard = none) (s x : Operand) (t e : TypeId)
    (ho : o.op = .call { callee := .builtin .append, args := #[s, x], argTypes := #[t, t] }) (ht : P.underlying t = some (.slice e))
    (hinfo : (P.info? e).map (fun i => (i.zero, i.size, i.bytes)) = some (some (.int .u8 0), 1, 1))
    (base : Nat) (v vx : Value) (l m : List Int) (hs : a.eval s = v) (hx : a.eval x = vx) (hown : Own base e w v l) (hr : Reads w vx m) (hlen : l.length + m.length ≤ 1099511627776) (hbase : base ≤ w.heap.size)
    (h : ∀ v' w', Own base e w' v' (l ++ m) → w.grownBy w' v.ownBlock → wpListIn F n P ops Q rest (a.put o.dst v') w') : wpListIn F n P ops Q (o :: rest) a w := by
  obtain ⟨i0, hi, hz0, hz1, hz2⟩ := info_parts hinfo
  rcases hr with ⟨rfl, rfl⟩ | ⟨ad, cap, rfl, hc⟩
  · refine wpListIn_plain hgd fun K hK' => ?_
    have hrun := run_append_owned_none (P := P) w base t o.type e i0 1 ht hi v l.length (l.map (Value.int .u8)) hown
    unfold Oper.wpIn
    refine ⟨?_, ?_⟩
    · simp [Oper.about, ho, resolve, Target.leads, Sem.run_pure]
    · rw [Oper.semAt_plain F _ _ (by rw [ho]; intro c hc'; cases hc')]
      simp [execOp, ho, resolve, invoke, builtin, hs, hx, hrun, Result.andThen]
      exact hK' _ _ (h v w (by simpa using hown) ⟨rfl, rfl, rfl, Nat.le_refl _, fun _ _ _ => rfl⟩)
  · refine wpListIn_append_own w hgd s x t ho base e i0 (.int .u8 0) 1 1 ht hi hz0 hz1 hz2 rfl (by decide) v l.length (l.map (Value.int .u8)) hs hown ad m.length cap (m.map (Value.int .u8)) hx (by simp) (news_of hc) (one_of m) (by unfold maxLen; omega) (by omega) hbase ?_
    intro v' w' ho' hg _
    exact h v' w' (by simpa [Own] using ho') hg
/-- A name, as it is told in a key: from the last label on, a 0 behind each. -/
def keyN (n : List (List Int)) : List Int := n.reverse.flatMap (· ++ [0])
/-- As many labels as have been told. -/
def keyP (ls : List (List Int)) : List Int := ls.flatMap (· ++ [0])
theorem keyP_snoc (ls : List (List Int)) (l : List Int) : keyP (ls ++ [l]) = keyP ls ++ l ++ [0] := by simp [keyP]
theorem keyP_len {ls : List (List Int)} (h : ∀ l ∈ ls, l.length ≤ 15) : (keyP ls).length ≤ 16 * ls.length := by
  induction ls with
  | nil => simp [keyP]
  | cons a t ih =>
    have h1 := ih (fun l hl => h l (List.mem_cons_of_mem _ hl))
    have h2 := h a (List.mem_cons_self ..)
    simp only [keyP, List.flatMap_cons, List.length_append, List.length_cons, List.length_nil] at h1 ⊢
    omega
end Go.Proofs.YtmnlhjdjjinbiaaGreat

namespace Go.Proofs.YtmnlhjdjjinbiaaGreat
open Go.RowKit

theorem conv_own {B : Nat} {v : Value} {l : List Int} {w : World} (h : Own B 5 w v l) : (convert 28 9 v).run Tryz.prog w = .ok (.string (strOfNums l)) w := by
  rcases h.form with ⟨rfl, rfl⟩ | ⟨g, cap, rfl, _, _, _, _, hc, _⟩
  · exact run_convert_bytes_nil w 28 5 Tryz.underlying28 Tryz.underlying5 0 0 9 Tryz.underlying9
  · exact run_convert_bytes_arg w 28 5 Tryz.underlying28 Tryz.underlying5 g 0 l.length cap l rfl (fun i hi => by rw [Nat.zero_add]; exact hc i hi) 9 Tryz.underlying9

theorem conv_has {v : Value} {l : List Int} {w : World} (h : Has w v l) : (convert 28 9 v).run Tryz.prog w = .ok (.string (strOfNums l)) w := by
  rcases h with ⟨rfl, rfl⟩ | ⟨g, off, cap, rfl, _, _, _, hc⟩
  · exact run_convert_bytes_nil w 28 5 Tryz.underlying28 Tryz.underlying5 0 0 9 Tryz.underlying9
  · exact run_convert_bytes_arg w 28 5 Tryz.underlying28 Tryz.underlying5 g off l.length cap l rfl hc 9 Tryz.underlying9
end Go.Proofs.YtmnlhjdjjinbiaaGreat

namespace Go.Proofs.YtmnlhjdjjinbiaaGreat
open Go.RowKit Go.Shelf
set_option linter.unusedVariables false

/-- What stands between two rounds. -/
def GotK (w w0 : World) (pre : List (LabV w0)) (W : World) : Prop :=
  (∃ v, W.heap[w.heap.size + 1]? = some (.cells #[v] 28) ∧ Own (w.heap.size + 3) 5 W v (keyP (pre.map (·.1.2)))) ∧ Below w.heap.size w W
theorem gotK_own (w w0 : World) (B : Nat) (hB : w.heap.size ≤ B) : OwnFrom B (GotK w w0) := by
  intro s W W' row ⟨⟨v, h1, h2⟩, hb⟩ hg hr
  have hk := keptC_of hg (fun r e => (hr r e).2)
  exact ⟨⟨v, hk _ _ _ h1, row_keptC h2 hk⟩, hb.grown hg hb.size (fun k e => by have := (hr k e).1; omega)⟩

/-- A box ahead of the row stands when the row is appended to. -/
theorem key_kept {B b : Nat} {e : TypeId} {W w1 w3 : World} {v v1 : Value} {l l1 : List Int} {o : Obj} {lit : Obj} (h : Own B e W v l) (k : W.heap[b]? = some o) (g1 : W.grownBy w1 v.ownBlock) (h1 : Own B e w1 v1 l1) (g3 : (w1.alloc lit).grownBy w3 v1.ownBlock) (hb : b < B) : w3.heap[b]? = some o := by
  refine block_grown g3 (block_kept (below_alloc (w := w1) lit) (block_grown g1 k (fun e => by have := (h.lt b e).1; omega))) (fun e => by have := (h1.lt b e).1; omega)
theorem key_keeps {B A b : Nat} {e : TypeId} {W w1 w3 : World} {v v1 u : Value} {l l1 : List Int} {lit : Obj} {c : Array Value} {t : TypeId} (h : Own B e W v l) (g1 : W.grownBy w1 v.ownBlock) (h1 : Own B e w1 v1 l1) (g3 : (w1.alloc lit).grownBy w3 v1.ownBlock) (kb : w3.heap[b]? = some (.cells c t)) : KeepsFrom A W (w3.setCell ⟨b, 0, none⟩ u) := by
  have z := (grown_setCell w3 ⟨b, 0, none⟩ u).size
  have z1 := g1.size
  have z3 := g3.size
  have za := (below_alloc (w := w1) lit).size
  refine ⟨by omega, fun k o hA hk ho => ?_⟩
  have q1 := block_grown g1 hk (row_notC h hk ho)
  have q3 := block_grown g3 (block_kept (below_alloc (w := w1) lit) q1) (row_notC h1 q1 ho)
  refine block_grown (grown_setCell w3 ⟨b, 0, none⟩ u) q3 ?_
  intro e
  simp only [Option.some.injEq] at e
  subst e
  rw [kb] at q3
  cases q3
  cases ho
theorem key_below {n B b : Nat} {e : TypeId} {W w1 w3 : World} {v v1 u : Value} {l l1 : List Int} {lit : Obj} (h : Own B e W v l) (g1 : W.grownBy w1 v.ownBlock) (h1 : Own B e w1 v1 l1) (g3 : (w1.alloc lit).grownBy w3 v1.ownBlock) (hn : n ≤ W.heap.size) (hb : n ≤ b) (hB : n ≤ B) : Below n W (w3.setCell ⟨b, 0, none⟩ u) := by
  have z1 := g1.size
  have z3 := g3.size
  have za := (below_alloc (w := w1) lit).size
  have x1 := (Below.refl n W).grown g1 hn (fun k e => by have := (h.lt k e).1; omega)
  have x3 := (x1.alloc (by omega) lit).grown g3 (by omega) (fun k e => by have := (h1.lt k e).1; omega)
  exact x3.grown (grown_setCell w3 ⟨b, 0, none⟩ u) (by omega) (fun k e => by simp at e; omega)

set_option maxHeartbeats 1000000 in
set_option maxRecDepth 100000 in
theorem nameKey_in {v : Value} {ns : List (List Int)} {w : World} (h : HasL w v ns) (h1 : ns.length ≤ 6) (h2 : ∀ k, k < ns.length → (ns.getD k []).length ≤ 15) :
    CallsIn Fence.wide 5 Tryz.prog 96 #[.agg #[v]] w fun e w' => e = .returned (.string (strOfNums (keyN ns))) ∧ Below w.heap.size w w' := by
  obtain ⟨a, cap, rfl, _⟩ := h.form
  obtain ⟨hsz, k0, r0⟩ := box2 w (.cells #[.slice a ns.length cap] 34) #[.slice none 0 0] 28
  have b0 := below2 w (.cells #[.slice a ns.length cap] 34) (.cells #[.slice none 0 0] 28)
  have KR := hide r0
  have c0 := block_one k0
  have HH := hide h
  have zz := block_lt r0
  have zw := hide hsz
  clear hsz k0 r0 h
  refine callsIn_of_wp_marks Tryz.func96 rfl trivial ?_ rfl
  simp only [Tryz.ntmps96, List.size_toArray, List.length_cons, List.length_nil, Nat.reduceAdd, Nat.reduceSub, Array.replicate_succ, Array.replicate_zero, List.push_toArray, List.append_toArray, List.nil_append, List.cons_append]
  gi_wp2_with (refine ⟨trivial, ?_⟩; gi_at_call 123; refine (callsIn_wide.2 (back_any _ _ _ _)).mono ?_; rintro e w' ⟨rfl, rfl⟩)
  have bz := below_alloc (w := (w.alloc (.cells #[.slice a ns.length cap] 34)).alloc (.cells #[.slice none 0 0] 28)) (.cells #[.slice a ns.length cap] 22)
  have kz := heap_alloc_new ((w.alloc (.cells #[.slice a ns.length cap] 34)).alloc (.cells #[.slice none 0 0] 28)) (.cells #[.slice a ns.length cap] 22)
  have kr := block_kept bz (unhide KR)
  rw [unhide zw] at kz
  have hB0 := below_next b0 bz
  have zk := block_lt kz
  clear KR b0 bz c0 zw zz
  generalize hW0 : ((w.alloc (.cells #[.slice a ns.length cap] 34)).alloc (.cells #[.slice none 0 0] 28)).alloc (.cells #[.slice a ns.length cap] 22) = W0 at *
  clear hW0
  refine wpIn_rangeFunc_ownH rfl (by omega) (gf := 134) (lb := #[.pointer (some ⟨w.heap.size + 1 + 1, 0, none⟩)]) rfl trivial (enters_of Tryz.func134 (by kernel_rfl) rfl) (back_stops (w.heap.size + 1 + 1) w W0 a cap ns (unhide HH) (by omega) h2 hB0 kz) (fun h k => kpB_t h k) (kpB_b (w := W0) (Nat.le_trans hB0.size (Nat.le_refl _))) (Below.refl _ _) (fun _ => rfl)
    (GotK w w) (fun _ _ _ => False) (gotK_own w w _ hB0.size) (fun _ _ _ _ _ h _ _ => h)
    ⟨⟨.slice none 0 0, kr, World.ownsRow_nil _ _ _ _⟩, hB0⟩
    (fun x a' W => a' = { tmps := #[.agg #[.slice a ns.length cap], .pointer (some ⟨w.heap.size, 0, none⟩), .string { data := #[] }, .pointer (some ⟨w.heap.size + 1, 0, none⟩), undef, x.1.1.2, .pointer (some ⟨w.heap.size, 0, none⟩), .slice a ns.length cap, .func (.func 134) #[] #[.pointer (some ⟨w.heap.size + 1 + 1, 0, none⟩)], .int .i64 x.1.1.1, x.1.1.2, undef, undef, undef, undef, undef, undef, undef], defers := [] })
    (fun x a' _ W W' row h _ _ => h) ?assign ?body ?done ?stop
  case assign =>
    rintro lr pre x W K hi hK
    have hsem := Oper.semAt_some lr
    have HK := hide hK
    have HI := hide hi
    clear hK hi
    unfold encL
    gi_wp2
    exact unhide HK _ _ (KeepsFrom.refl _ _) ⟨Below.refl _ _, fun _ _ q => q⟩ (unhide HI) rfl
  case body =>
    rintro lr pre x a' W hl ⟨rr, hrr⟩ ⟨⟨v, kO, hO⟩, hB⟩ rfl hlt
    have hsem := Oper.semAt_some lr
    have zz := block_lt hrr
    obtain ⟨kp, hkp⟩ : ∃ kp, kp = keyP (pre.map (·.1.2)) := ⟨_, rfl⟩
    have hKP : kp.length ≤ 1000 := by
      have := keyP_len (ls := pre.map (·.1.2)) (fun l hl => by obtain ⟨y, _, rfl⟩ := List.mem_map.1 hl; exact y.2.2)
      rw [List.length_map] at this
      rw [hkp]
      omega
    have HKS := hide (show keyP ((pre ++ [x]).map (·.1.2)) = kp ++ x.1.2 ++ [0] by rw [List.map_append, hkp]; exact keyP_snoc _ _)
    rw [← hkp] at hO
    have HX := hide (x.2.1.below hB)
    have htl : x.1.2.length ≤ 15 := x.2.2
    generalize pre ++ [x] = px at *
    generalize x.1.1.2 = u at *
    generalize x.1.2 = t at *
    generalize x.1.1.1 = k at *
    have zW := hB.size
    have cO := block_one kO
    have zO := block_lt kO
    have BB := hide hB
    have KO := hide kO
    have OO := hide hO
    have KF := hide (KeepsFrom.refl W0.heap.size W)
    clear hB kO hO hkp
    gi_wp2_with (first
      | (refine append_bytesIn rfl (.tmp 11) (.tmp 12) 28 5 rfl Tryz.underlying28 info_u8 (w.heap.size + 3) v u kp t (by simp [Act.eval]) (by simp [Act.eval]) (unhide OO) (unhide HX).reads (by omega) (by omega) ?_; intro v1 w1 o1 g1)
      | (refine append_bytesIn rfl (.tmp 13) (.tmp 14) 28 5 rfl Tryz.underlying28 info_u8 (w.heap.size + 3) v1 (.slice (some ⟨w1.heap.size, 0, none⟩) 1 1) (kp ++ t) [0] (by simp [Act.eval]) (by simp [Act.eval]) (o1.alloc _) (own_lit w1 0 5 [0] (Nat.zero_le _) (by simp [maxLen])).reads (by simp; omega) (by have := g1.size; simp; omega) ?_; intro v3 w3 o3 g3; have k3 := key_kept (unhide OO) (unhide KO) g1 o1 g3 (by omega); have c3 := block_one k3; have f3 := block_frozen k3 0; have o3' := o3; obtain ⟨p3, q3, rfl, _⟩ := o3'.lies))
    refine ⟨key_keeps (unhide OO) g1 o1 g3 k3, ⟨key_below (unhide OO) g1 o1 g3 zW (by omega) (by omega), fun c t q => ?_⟩, ⟨_, block_setAt k3 0 _, ?_⟩, ?_⟩
    · exact block_grown (grown_setCell w3 ⟨w.heap.size + 1, 0, none⟩ _) (key_kept (unhide OO) q g1 o1 g3 (by omega)) (by simp)
    · rw [unhide HKS]
      have hle : (kp ++ t ++ [0]).length = kp.length + (t.length + 1) := by simp
      rw [hle] at o3
      exact o3.outside (outside_set w3 (w.heap.size + 1) 0 _) (by omega)
    · exact (unhide BB).trans (key_below (unhide OO) g1 o1 g3 zW (by omega) (by omega))
  case done =>
    rintro D xs W hD hS ⟨⟨v, kO, hO⟩, hB⟩ hK
    rw [hS] at hO
    replace hO : Own (w.heap.size + 3) 5 W v (keyN ns) := hO
    have cO := block_one kO
    have hcv := conv_own hO
    have hO' := hO
    obtain ⟨p3, q3, rfl, _⟩ := hO'.lies
    have BB := hide hB
    have HKK := hide hK
    clear hB hK kz kr
    gi_wp2
    refine ⟨by simp, .inl ⟨_, _, rfl, run_takeDeferred (unhide HKK), ?_⟩⟩
    exact ⟨_, results_tmp rfl _ _ _, rfl, (unhide BB).trans (belowK_b (w := w) (Nat.le_refl _) W D _ _ (by omega) (unhide HKK) rfl rfl)⟩
  case stop =>
    rintro D c pre W _ _ h _
    exact h.elim
theorem nameKey_has {v : Value} {ns : List (List Int)} {w : World} (h : HasL w v ns) (h1 : ns.length ≤ 6) (h2 : ∀ k, k < ns.length → (ns.getD k []).length ≤ 15) :
    Calls Tryz.prog 96 #[.agg #[v]] w fun e w' => e = .returned (.string (strOfNums (keyN ns))) ∧ Below w.heap.size w w' := (callsIn_wide (n := 5)).1 (nameKey_in h h1 h2)
end Go.Proofs.YtmnlhjdjjinbiaaGreat
