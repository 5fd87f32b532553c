/-
  The program's ascending, at a book, as what a loop ranges over: the pages by ascending keys. A loop over an iterator that itself ranges over iterators: its contract asks of the loop's invariant that it abide turns of whatever is no cells; every round goes on. No program is named here. The program's inOrder as what a loop ranges over: a book's records in order. Plain facts: an append to a row of records that may be longer. No program is named here.
-/
import Derived.Test.YthobpbnaklnbiaaGreatFnDropSetsG43
namespace Go.Proofs.YthobpbnaklnbiaaGreat
open Go.RowKit Go.Shelf
set_option linter.unusedVariables false
set_option maxHeartbeats 4000000
set_option maxRecDepth 100000

def Jy (P : Pg) : Prop := P.length ≤ 1000 ∧ ∀ x ∈ P, D5 x.2
abbrev PagV (w : World) := { p : Nat × Pg // Ew w p.1 p.2 ∧ Jy p.2 }
def encP {w : World} (x : PagV w) : Array Value := #[.map (some x.1.1)]
def Nw (B : Bk) (k : List UInt8) : Pg := (Aj ⟨k.toArray⟩ B).getD []
def Sw (B : Bk) : List Pg := (Bv B).map (Nw B)
theorem Uj (w : World) : (zeroValue 80).run Tryz.prog w = .ok (.map none) w := by
 have h : (Tryz.prog.info? 80).map (fun i => i.zero) = some (some (.map none)) := by kernel_rfl
 obtain ⟨i, h1, h2⟩ := Option.map_eq_some_iff.1 h
 simp [zeroValue, typeInfo, h1, h2, go_sem]
theorem Uc {w : World} {c0 b : Nat} {B : Bk} (h : Ch c0 w b B) (hl : B.length ≤ 1000) :
  CallsIn Fence.wide 5 Tryz.prog 88 #[.func (.func 116) #[] #[.pointer (some ⟨w.heap.size, 0, none⟩)]] (w.alloc (.cells #[.map (some b)] 51)) fun e w' => ∃ v, e = .returned v ∧
   w'.ownsRow (w.heap.size + 1) 9 1 v (Bv B).length ((Bv B).map encStr) ∧ Below w.heap.size w w' := by
 obtain ⟨_, ps, hM, hT, _⟩ := h
 have e1 := Iz hT
 have e2 : ps.length = B.length := by rw [← Bm ps, e1, Bm]
 refine (Rg hM (by omega)).mono ?_
 rintro e w' ⟨v, he, hr, hb⟩
 rw [e1, e2, ← Bm B] at hr
 exact ⟨v, he, hr, hb⟩
theorem at_keyB {w : World} {c0 b : Nat} {B : Bk} (h : Ch c0 w b B) {k : List UInt8} (hk : k ∈ Bv B) : ∃ ps p u, MapV w b ps ∧ Aj ⟨k.toArray⟩ ps = some (.map (some p)) ∧ Aj ⟨k.toArray⟩ B = some u ∧ Ew w p u := by
 obtain ⟨_, ps, hM, hT, _⟩ := h
 rw [← Iz hT] at hk
 obtain ⟨v, hv⟩ := La hk
 obtain ⟨u, h1, p, rfl, _, _, h2⟩ := Vz hT hM.apart hv
 exact ⟨ps, p, u, hM, Bq hM.apart hv, h1, h2⟩

theorem Yf (l Bt n0 : Nat) (w0 : World) (bb c0 : Nat) (P : Bk) (hn0 : n0 = w0.heap.size) (hP : Ch c0 w0 bb P) (hl : P.length ≤ 1000) (hsh : ∀ q ∈ P, Jy q.2)
  (J Jx : List (PagV w0) → World → Prop) (W : World) (hW : Below n0 w0 W) (hJ : AbidesFrom W.heap.size J)
  (hY : ∀ pre x W1, J pre W1 → pre.length < (Bv P).length → YieldAt Fence.wide 5 Tryz.prog l (encP x) W1 fun e W' => (e = .returned (.bool true) ∧ J (pre ++ [x]) W' ∧ KpS n0 Bt W1 W') ∨ (e = .returned (.bool false) ∧ Jx (pre ++ [x]) W'))
  (hBt : W.heap[Bt]? = some (.cells #[.map (some bb)] 51)) (h0 : J [] W) :
  CallsIn Fence.wide 6 Tryz.prog 94 #[.func (.yield l) #[] #[], .pointer (some ⟨Bt, 0, none⟩)] W fun e W' => (∃ v, e = .returned v) ∧
   ((∃ xs, xs.map (·.1.2) = Sw P ∧ J xs W') ∨ (∃ pre, True ∧ Jx pre W')) := by
 subst hn0
 have HSO := UC (Uc (hP.below hW) hl)
 have HP := UC hP
 have HS := UC hsh
 have HJ := UC hJ
 have HY := UC hY
 have B0 := UC hW
 have H0 := UC h0
 have KB := UC hBt
 have cB := US hBt
 have zB := VC hBt
 clear hP hsh hJ hY hW h0 hBt
 refine callsIn_of_wp Tryz.func94 rfl trivial ?_ rfl
 simp only [Tryz.ntmps94, List.size_toArray, List.length_cons, List.length_nil, Nat.reduceAdd, Nat.reduceSub, Array.replicate_succ, Array.replicate_zero, List.push_toArray, List.append_toArray, List.nil_append, List.cons_append]
 gi_wp2_with (first
  | (refine ⟨trivial, ?_⟩; gi_at_call 95; refine (U0 _ _).mono ?_; rintro e w' ⟨rfl, rfl⟩)
  | (refine ⟨trivial, ?_⟩; gi_at_call 88; refine (UB HSO).mono ?_; rintro e w2 ⟨v2, rfl, hrow, b2⟩; have hrow' := hrow; obtain ⟨g2, c2, rfl⟩ := Ql hrow'))
 clear cB HSO hrow'
 have hj2 : J [] w2 := UB HJ [] W w2 none (UB H0) ⟨b2.os, b2.tape, b2.output, b2.size, fun k hk _ => b2.block k hk⟩ (fun r e => by cases e)
 have kb2 := UE b2 (UB KB)
 have bb2 := (UB B0).trans (b2.mono (UB B0).size)
 have ROW := UC hrow
 have hkl : (Bv P).length ≤ 1000 := by rw [Bm]; exact hl
 generalize hks : Bv P = ks at *
 have HKS := UC hks
 clear hrow hks H0 KB
 generalize hm : ks.length = m at *
 have HM := UC hm
 clear hm
 gi_loopw [9] (fun i wr => ∃ (k : Nat) (pre : List (PagV w0)), k ≤ m ∧ i = .int .i64 k ∧ pre.length = k ∧ pre.map (·.1.2) = (ks.take k).map (Nw P) ∧ J pre wr ∧ Below w0.heap.size w0 wr ∧ wr.heap[Bt]? = some (.cells #[.map (some bb)] 51) ∧ wr.ownsRow (W.heap.size + 1) 9 1 (.slice g2 m c2) m (ks.map encStr)) (fun i _ => m - (intOf i).toNat)
 case atStart => exact ⟨0, [], Nat.zero_le _, rfl, rfl, by simp, hj2, bb2, kb2, UB ROW⟩
 case round =>
  obtain ⟨k, pre, hk, rfl, hpl, hp, hj, hbl, hkb, hrw⟩ := hrel
  by_cases hlt : k < m
  ·have hkk : k < ks.length := by rw [UB HM]; exact hlt
   obtain ⟨ps, p, u, hMp, hlk, hlu, hR⟩ := at_keyB (k := ks[k]) (UB HP) (by rw [UB HKS]; exact List.getElem_mem hkk)
   have hs := UB HS _ (Ed hlu)
   simp only at hs
   have htk := UC (show (ks.take (k + 1)).map (Nw P) = (ks.take k).map (Nw P) ++ [u] by rw [List.take_succ_eq_append_getElem hkk, List.map_append, List.map_cons, List.map_nil]; simp only [Nw, hlu, Option.getD_some])
   have hlook := Jb (t := 51) Tryz.underlying51 Tryz.underlying9 (Uj wr) (hMp.kept (hbl.block bb hMp.lt)) ⟨ks[k].toArray⟩ (T8 hMp hlk)
   rw [hlk] at hlook
   simp only [Option.getD_some] at hlook
   have hgs : ∃ gg, g2 = some ⟨gg, 0, none⟩ := by
    rcases hrw.2 with ⟨h1, h2⟩ | ⟨gg, cap, cc, h1, _⟩
    ·omega
    ·simp only [Value.slice.injEq] at h1
     exact ⟨gg, h1.1⟩
   obtain ⟨gg, rfl⟩ := hgs
   have ck := World.ownsRow.cellAt hrw k (by omega)
   rw [List.getElem?_map, List.getElem?_eq_getElem hkk] at ck
   simp only [Option.map_some] at ck
   have cB := US hkb
   obtain ⟨x, hx1, hx2⟩ : ∃ x : PagV w0, encP x = #[.map (some p)] ∧ x.1.2 = u := ⟨⟨(p, u), hR, hs⟩, rfl, rfl⟩
   obtain ⟨fn, tmps, assign, body, hy, hRd⟩ := UB HY pre x wr hj (by omega)
   rw [hx1] at hy
   have HB := UC hbl
   have HRW := UC hrw
   have KBB := UC hkb
   generalize ks[k] = kk at *
   clear hR hs hbl hrw hkb hMp hlk hlu hj
   gi_wp2
   refine hRd.mono ?_
   rintro e W3 (⟨rfl, hJ3, hk3⟩ | ⟨rfl, hJx3⟩)
   ·have hb3 := (UB HB).trans hk3.1.1
    have hkb3 := hk3.1.2 _ _ (UB KBB)
    have hrw3 := Qn (UB HRW) hk3.2
    clear hy hRd hk3 HB ck cB hlook KBB HRW
    gi_wp2
    go_roundw
    case rel => exact ⟨k + 1, pre ++ [x], by omega, by go_num, by simp [hpl], by rw [UB htk, ← hp]; simp [hx2], hJ3, hb3, hkb3, hrw3⟩
    case measure => simp [intOf]; omega
   ·clear hy hRd HB ck cB hlook KBB HRW
    gi_wp2
    refine bodyPost_ret (results_none rfl _ _ _) rfl ?_
    exact ⟨⟨_, rfl⟩, .inr ⟨pre ++ [x], trivial, hJx3⟩⟩
  ·obtain rfl : k = m := by omega
   have hall : ks.take k = ks := List.take_of_length_le (by rw [UB HM]; exact Nat.le_refl _)
   rw [hall] at hp
   clear hall
   gi_wp2
   go_end0
   exact ⟨⟨_, rfl⟩, .inl ⟨pre, by rw [hp]; unfold Sw; rw [UB HKS], hj⟩⟩
theorem U6 (Bt : Nat) (w0 w : World) (bb c0 : Nat) (P : Bk) (hP : Ch c0 w0 bb P) (hl : P.length ≤ 1000) (hsh : ∀ q ∈ P, Jy q.2) (hb : Below w0.heap.size w0 w) (hBt : w.heap[Bt]? = some (.cells #[.map (some bb)] 51)) :
  SeqStopsK Fence.wide 6 Tryz.prog 94 #[.pointer (some ⟨Bt, 0, none⟩)] (fun x : PagV w0 => encP x) (KpS w0.heap.size Bt) (fun xs => xs.map (·.1.2) = Sw P) (fun _ => True) (Bv P).length w :=
 fun l J Jx W hW hJ hJx hY h0 => Yf l Bt _ w0 bb c0 P rfl hP hl hsh J Jx W (hb.trans (hW.mono hb.size)) hJ hY (UE hW hBt) h0
theorem Za (mb : Option Nat) (w : World) : Calls Tryz.prog 63 #[.map mb] w fun e w' => e = .returned (.func (.func 94) #[] #[.pointer (some ⟨w.heap.size, 0, none⟩)]) ∧ w' = w.alloc (.cells #[.map mb] 51) := by
 go_enter Tryz.func63, Tryz.ntmps63
 go_wp2
 go_ret
 exact ⟨rfl, rfl⟩
end Go.Proofs.YthobpbnaklnbiaaGreat

namespace Go.Proofs.YthobpbnaklnbiaaGreat
open Go.RowKit
set_option linter.unusedVariables false

def Q7 {α : Type} (F : Fence) (n : Nat) (P : Program) (g : Nat) (lb : Array Value) (encs : α → Array Value) (Kp : Nat → World → World → Prop) (S : List α → Prop) (N : Nat) (w : World) : Prop :=
 ∀ (l : Nat) (J : List α → World → Prop) (W : World), l < W.heap.size → Below w.heap.size w W → OwnFrom W.heap.size J →
  (∀ pre x W1, J pre W1 → pre.length < N → YieldAt F (n - 1) P l (encs x) W1 fun e W' => e = .returned (.bool true) ∧ J (pre ++ [x]) W' ∧ Kp l W1 W') →
  J [] W → CallsIn F n P g (#[.func (.yield l) #[] #[]] ++ lb) W fun e W' => (∃ v, e = .returned v) ∧ ∃ xs, S xs ∧ J xs W'

theorem Ur {m m' : Nat} {P : Program} {l : Nat} {args : Array Value} {W : World} {R : Ending → World → Prop} (h : YieldAt Fence.wide m P l args W R) : YieldAt Fence.wide m' P l args W R := by
 obtain ⟨fn, tmps, assign, body, h1, h2⟩ := h
 exact ⟨fn, tmps, assign, body, h1, h2.1, fun c cs _ => h2.2 c cs (room_wide _)⟩

def Dw (fn : FuncId) (tmps : Array Value) (ps : Array Tmp) (assign body : Go.Code) (d : Nat) (st : LoopState) : Loop := { state := st, pending := none, fn, tmps, params := ps, assign, body, defers := d }
def Er (d : Nat) (r : Loop) (W : World) : Prop := W.heap[d + 1]? = some (.loop r) ∧ W.heap[d]? = some (.deferred (some []))
theorem Er.lt {d : Nat} {r : Loop} {W : World} (h : Er d r W) : d + 1 < W.heap.size := (Array.getElem?_eq_some_iff.1 h.1).1
theorem Er.keeps {d : Nat} {r : Loop} {W W' : World} (h : Er d r W) (k : KeepsFrom d W W') : Er d r W' := ⟨k.same _ _ (Nat.le_succ _) h.1 rfl, k.same _ _ (Nat.le_refl _) h.2 rfl⟩
theorem Er.turn {d : Nat} {r : Loop} {W : World} (h : Er d r W) (r' : Loop) : Er d r' (W.putObj (d + 1) (.loop r')) := ⟨World.putObj_heap_same h.lt, (World.putObj_heap_other (by omega)).trans h.2⟩
theorem Er.own {d : Nat} {r : Loop} {W W' : World} {row : Option Nat} (h : Er d r W) (hg : W.grownBy W' row) (hr : ∀ q, row = some q → d + 2 ≤ q) : Er d r W' := by
 refine ⟨(hg.block _ h.lt (fun e => ?_)).trans h.1, (hg.block _ (by have := h.lt; omega) (fun e => ?_)).trans h.2⟩ <;>
  ·have := hr _ e.symm
   omega

theorem Xg {α : Type} {F : Fence} {n : Nat} {P : Program} {g : Operand} {ps : Array Tmp} {assign body : Go.Code} {Q : Exit → Act → World → Prop} {a : Act} {w : World}
  (hro : F.round = none) (h1 : 1 ≤ n) {gf : Nat} {lb : Array Value} (hg : a.eval g = .func (.func gf) #[] lb) (hFg : F.fn gf) (eg : ∀ args w, (callFunc gf args).run P w = .ok (.enter gf args) w)
  {encs : α → Array Value} {Kp : Nat → World → World → Prop} {S : List α → Prop} {N : Nat} {w0 : World} (hseq : Q7 F (n - 1) P gf lb encs Kp S N w0)
  (hKt : ∀ {l : Nat} {A B C : World}, Kp l A B → Kp l B C → Kp l A C) (hKb : ∀ (W : World) (l : Nat) (r r' : Loop), w.heap.size ≤ l → W.heap[l]? = some (.loop r) → Kp l W (W.putObj l (.loop r'))) (hb0 : Below w0.heap.size w0 w) (hps : ∀ x, (encs x).size = ps.size)
  (I : List α → World → Prop) (hI : OwnFrom w.heap.size I) (h0 : I [] w) (Ax : α → Act → World → Prop) (hAx : ∀ x a', OwnFrom w.heap.size (fun (_ : Unit) W => Ax x a' W))
  (hassign : ∀ (l : Nat) (pre : List α) (x : α) (W : World) (K : Act → World → Prop), I pre W → (∀ a' W', KeepsFrom w.heap.size W W' → Kp l W W' → I pre W' → Ax x a' W' → K a' W') →
   assign.wpIn (F.inRound l) (n - 1 - 1) P (Exit.then K (fun _ _ _ => False)) { tmps := (ps.zip (encs x)).foldl (fun t (p, v) => t.setIfInBounds p v) a.tmps, defers := [] } W)
  (hbody : ∀ (l : Nat) (pre : List α) (x : α) (a' : Act) (W : World), w.heap.size ≤ l → I pre W → Ax x a' W → pre.length < N → body.wpIn (F.inRound l) (n - 1 - 1) P (ownPostG w.heap.size (Kp l) I (fun _ _ _ => False) (pre ++ [x]) W) a' W)
  (hdone : ∀ (D : Nat) (xs : List α) (W : World), w.heap.size ≤ D → S xs → I xs W → W.heap[D]? = some (.deferred (some [])) → Q .normal { a with defers := { target := .collected D, args := #[] } :: a.defers } W) :
  (Go.Code.rangeFunc g ps assign body).wpIn F n P Q a w := by
 refine wpIn_rangeFunc fun fn hfn => ?_
 rw [hro]
 have hrun := run_enterLoop_outer (P := P) (w := w) fn a.tmps ps assign body
 generalize hd : w.heap.size = d at *
 have hL : Er d (Dw fn a.tmps ps assign body d .ready) ((w.alloc (.deferred (some []))).alloc (.loop (Dw fn a.tmps ps assign body d .ready))) := by
  subst hd
  constructor
  ·have := World.alloc_heap_new (w.alloc (.deferred (some []))) (.loop (Dw fn a.tmps ps assign body w.heap.size .ready))
   rwa [World.size_alloc] at this
  ·exact (Below.heap_alloc _ _ _ (by rw [World.size_alloc]; omega)).trans (World.alloc_heap_new w _)
 have hI1 := hI.alloc (.loop (Dw fn a.tmps ps assign body d .ready)) (hI.alloc (.deferred (some [])) h0)
 have hb1 : Below w0.heap.size w0 ((w.alloc (.deferred (some []))).alloc (.loop (Dw fn a.tmps ps assign body d .ready))) := UG (UG hb0 (UI _)) (UI _)
 have hz1 : ((w.alloc (.deferred (some []))).alloc (.loop (Dw fn a.tmps ps assign body d .ready))).heap.size = d + 2 := by rw [World.size_alloc, World.size_alloc, hd]
 have hrun' : (Instr.enterLoop fn a.tmps ps assign body none).run P w = .ok (d + 1, [{ target := .collected d, args := #[] }]) ((w.alloc (.deferred (some []))).alloc (.loop (Dw fn a.tmps ps assign body d .ready))) := hrun
 clear hrun
 generalize (w.alloc (.deferred (some []))).alloc (.loop (Dw fn a.tmps ps assign body d .ready)) = W1 at *
 refine ⟨d + 1, [{ target := .collected d, args := #[] }], W1, { target := .fn (.func gf) lb, args := #[.func (.yield (d + 1)) #[] #[]] }, W1, gf, #[.func (.yield (d + 1)) #[] #[]] ++ lb, W1, hrun', ?_, ?_, ?_, fun _ => h1, ?_⟩
 ·simp only [resolve, hg]
  simp [go_sem]
 ·intro f' hf'
  simp [Target.leads] at hf'
  subst hf'
  exact hFg
 ·simp [invoke, go_sem, eg]
 refine (hseq (d + 1) (fun pre W => I pre W ∧ Er d (Dw fn a.tmps ps assign body d .ready) W) W1 hL.lt hb1 ?_ ?_ ⟨hI1, hL⟩).mono ?_
 ·intro s A B row hs hg' hr
  exact ⟨hI s A B row hs.1 hg' (fun q e => ⟨by have := (hr q e).1; omega, (hr q e).2⟩), hs.2.own hg' (fun q e => by have := (hr q e).1; omega)⟩
 ·rintro pre x W ⟨hi, hl⟩ hlen
  refine ⟨fn, _, assign, body, run_yield (P := P) (args := encs x) hl.1 (hps x), roundIn_of_wpIn hfn (hassign _ pre x W _ hi ?_)⟩
  intro a' Wa kfa kpa hia hax
  have hla := hl.keeps kfa
  refine ⟨_, run_beginRound hla.1 rfl, ?_⟩
  have hlb := hla.turn (Dw fn a.tmps ps assign body d .busy)
  have kpb := hKb Wa (d + 1) _ (Dw fn a.tmps ps assign body d .busy) (by omega) hla.1
  refine wpIn_mono (hbody (d + 1) pre x a' _ (by omega) (hI.putObj _ hia (by omega) hla.1 rfl) ((hAx x a').putObj (s := ()) _ hax (by omega) hla.1 rfl) hlen) ?_
  rintro e a3 W3 hp
  cases e with
  | normal =>
   obtain ⟨k3, kp3, hi3⟩ := hp
   have hl3 := hlb.keeps k3
   exact ⟨_, _, run_endRound none hl3.1, rfl, ⟨hI.putObj _ hi3 (by omega) hl3.1 rfl, hl3.turn _⟩, hKt kpa (hKt (hKt kpb kp3) (hKb _ _ _ _ (by omega) hl3.1))⟩
  | ret => exact hp.2.elim
  | exit id => exact hp.2.elim
  | goto t => exact hp.2.elim
  | panic ch => exact hp.elim
  | outgrown => exact hp.elim
 ·rintro e W2 ⟨⟨v, rfl⟩, xs, hS, hi, hl⟩
  exact ⟨none, _, run_endLoop (P := P) hl.1 (by simp [Dw]), hdone _ xs _ (Nat.le_refl _) hS (hI.putObj _ hi (by omega) hl.1 rfl) ((World.putObj_heap_other (by omega)).trans hl.2)⟩
end Go.Proofs.YthobpbnaklnbiaaGreat

namespace Go.Proofs.YthobpbnaklnbiaaGreat
open Go.RowKit Go.Shelf
set_option linter.unusedVariables false
set_option maxHeartbeats 4000000
set_option maxRecDepth 100000

def stays : Obj → Bool
 | .cells _ t _ => !(t == 39 || t == 28)
 | _ => true
def KpZ (n0 l : Nat) (W W' : World) : Prop := Below n0 W W' ∧ ∀ (g : Nat) (o : Obj), W.heap[g]? = some o → stays o = true → (o.isCells = false → g ≠ l) → W'.heap[g]? = some o
theorem P7 {n0 l : Nat} {A B C : World} (h : KpZ n0 l A B) (k : KpZ n0 l B C) : KpZ n0 l A C := ⟨h.1.trans k.1, fun g o q e f => k.2 g o (h.2 g o q e f) e f⟩
theorem Tm (n0 l : Nat) (W : World) : KpZ n0 l W W := ⟨Below.refl _ _, fun _ _ q _ _ => q⟩
theorem I8 {n0 l : Nat} {W W' : World} (h : Below W.heap.size W W') (hn : n0 ≤ W.heap.size) : KpZ n0 l W W' := ⟨h.mono hn, fun g o q _ _ => UE h q⟩
theorem P0 {n0 l B : Nat} {W W' : World} (h : KpZ n0 l W W') (hl : l < B) : KeepsFrom B W W' := ⟨h.1.size, fun k o hB hk ho => h.2 k o hk (by cases o <;> first | rfl | cases ho) (fun _ => by omega)⟩
theorem KpZ.cells {n0 l g : Nat} {W W' : World} (h : KpZ n0 l W W') {c : Array Value} {t : TypeId} {f : Nat × Nat} (hg : W.heap[g]? = some (.cells c t f)) (ht : stays (.cells c t f) = true) : W'.heap[g]? = some (.cells c t f) := h.2 g _ hg ht (fun e => by cases e)
theorem kpZ_S {n0 l Bt : Nat} {W W' : World} (h : KpZ n0 l W W') (hBt : ∃ v, W.heap[Bt]? = some (.cells #[v] 79) ∨ W.heap[Bt]? = some (.cells #[v] 51)) : KpS n0 Bt W W' := by
 refine ⟨⟨h.1, fun c t q => ?_⟩, fun g c q => h.cells q rfl⟩
 obtain ⟨v, hv | hv⟩ := hBt
 ·rw [hv] at q; cases q; exact h.cells hv rfl
 ·rw [hv] at q; cases q; exact h.cells hv rfl
theorem Vp {β : Type} {n0 l B : Nat} {w : World} (hB : w.heap.size ≤ B) (hn : n0 ≤ w.heap.size) : OwnFrom B (fun (_ : β) W => KpZ n0 l w W) := by
 intro _ X Y row h hg hr
 have hne : ∀ g o, w.heap[g]? = some o → g < w.heap.size := fun g o q => (Array.getElem?_eq_some_iff.1 q).1
 refine ⟨h.1.grown hg (Nat.le_trans hn h.1.size) (fun k e => by have := (hr k e).1; omega), fun g o q e f => ?_⟩
 have hX := h.2 g o q e f
 refine (hg.block g (Array.getElem?_eq_some_iff.1 hX).1 (fun e' => ?_)).trans hX
 have h1 := (hr g e'.symm).1
 have h2 := hne g o q
 omega
theorem On {α : Type} {m m' : Nat} {P : Program} {g : Nat} {lb : Array Value} {encs : α → Array Value} {Kp : World → World → Prop} {S Sp : List α → Prop} {N : Nat} {w : World} (h : SeqStopsK Fence.wide m P g lb encs Kp S Sp N w) : SeqStopsK Fence.wide m' P g lb encs Kp S Sp N w :=
 fun l J Jx W hW hJ hJx hY h0 => callsIn_wide.2 (callsIn_wide.1 (h l J Jx W hW hJ hJx (fun pre x W1 h1 h2 => Ur (hY pre x W1 h1 h2)) h0))
theorem Rj {m m' : Nat} {l l' : Nat} {P : Program} {lr : Nat} {f : FuncId} {tmps : Array Value} {assign body : Go.Code} {w : World} {R : Ending → World → Prop} (h : RoundIn Fence.wide m P lr f tmps assign body w R) : RoundIn ((Fence.wide.inRound l).inRound l') m' P lr f tmps assign body w R :=
 ⟨h.1, fun c cs _ => h.2 c cs (room_wide _)⟩
theorem sortB_G (B : Bk) : Gl B = (Sw B).flatMap Ez := by
 unfold Gl Sw
 rw [List.flatMap_map]
 rfl
theorem Rc (P : Pg) : (Ez P).length = P.length := by unfold Ez; rw [List.length_map, Bm]

theorem Tl (l Bt n0 : Nat) (w0 : World) (b c0 : Nat) (B : Bk) (hn0 : n0 = w0.heap.size) (hB : Ch c0 w0 b B) (hl : B.length ≤ 1000) (hsh : ∀ q ∈ B, Jy q.2)
  (J : List (RecV w0) → World → Prop) (W : World) (hlW : l < W.heap.size) (hW : Below n0 w0 W) (hJ : OwnFrom W.heap.size J)
  (hY : ∀ pre x W1, J pre W1 → pre.length < 1000000 → YieldAt Fence.wide 9 Tryz.prog l (encV x) W1 fun e W' => e = .returned (.bool true) ∧ J (pre ++ [x]) W' ∧ KpZ n0 l W1 W')
  (hBt : W.heap[Bt]? = some (.cells #[.map (some b)] 52)) (h0 : J [] W) :
  CallsIn Fence.wide 10 Tryz.prog 62 #[.func (.yield l) #[] #[], .pointer (some ⟨Bt, 0, none⟩)] W fun e W' => (∃ v, e = .returned v) ∧ ∃ xs, xs.map (·.1.2) = Gl B ∧ J xs W' := by
 subst hn0
 have by0 := UI (w := W) (.cells #[.func (.yield l) #[] #[]] 55)
 have ky0 := heap_alloc_new W (.cells #[.func (.yield l) #[] #[]] 55)
 have kb0 := UE by0 hBt
 have cB := US kb0
 have zs1 : (W.alloc (.cells #[.func (.yield l) #[] #[]] 55)).heap.size = W.heap.size + 1 := World.size_alloc W _
 have bz := UI (w := W.alloc (.cells #[.func (.yield l) #[] #[]] 55)) (.cells #[.map (some b)] 51)
 have kz := heap_alloc_new (W.alloc (.cells #[.func (.yield l) #[] #[]] 55)) (.cells #[.map (some b)] 51)
 rw [zs1] at kz
 have ky := UE bz ky0
 have b1 := UG by0 bz
 have hb1 := UG hW b1
 have hj1 : J [] ((W.alloc (.cells #[.func (.yield l) #[] #[]] 55)).alloc (.cells #[.map (some b)] 51)) := hJ.alloc _ (hJ.alloc _ h0)
 have HBB := UC hB
 have HSH := UC hsh
 have HJ := UC hJ
 have HY := UC hY
 have KY := UC ky
 have KZ := UC kz
 have B1 := UC b1
 have HB1 := UC hb1
 have HJ1 := UC hj1
 have ZW := UC hW.size
 clear hB hsh hJ hY ky0 kb0 ky kz b1 hb1 hj1 bz by0 zs1 hBt h0 hW
 refine callsIn_of_wp_marks Tryz.func62 rfl trivial ?_ rfl
 simp only [Tryz.ntmps62, List.size_toArray, List.length_cons, List.length_nil, Nat.reduceAdd, Nat.reduceSub, Array.replicate_succ, Array.replicate_zero, List.push_toArray, List.append_toArray, List.nil_append, List.cons_append]
 gi_wp2_with (first
  | (refine ⟨trivial, ?_⟩; gi_at_call 63; refine (callsIn_wide.2 (Za _ _)).mono ?_; rintro e w2 ⟨rfl, hw2⟩))
 subst hw2
 clear cB
 generalize (W.alloc (.cells #[.func (.yield l) #[] #[]] 55)).alloc (.cells #[.map (some b)] 51) = W1 at *
 have zW1 := (UB B1).size
 have zn1 := (UB HB1).size
 have zA := VC (UB KZ)
 refine wpIn_rangeFunc_ownH rfl (by omega) (gf := 94) (lb := #[.pointer (some ⟨W.heap.size + 1, 0, none⟩)]) rfl trivial (enters_of Tryz.func94 (by kernel_rfl) rfl) (On (U6 (W.heap.size + 1) w0 W1 b c0 B (UB HBB) hl (UB HSH) (UB HB1) (UB KZ))) (fun h k => Z5 h k) (Y3 (w := W1) zn1) (Below.refl _ _) (fun _ => rfl)
  (fun pre W' => ∃ ys : List (RecV w0), ys.map (·.1.2) = (pre.map (·.1.2)).flatMap Ez ∧ ys.length ≤ pre.length * 1000 ∧ J ys W' ∧ KpZ w0.heap.size l W1 W') (fun _ _ _ => False)
  (fun s X Y row ⟨ys, h1, h2, h3, h4⟩ hg hr => ⟨ys, h1, h2, UB HJ ys X Y row h3 hg (fun q e => ⟨Nat.le_trans zW1 (hr q e).1, (hr q e).2⟩), Vp (β := Unit) (Nat.le_refl _) zn1 () X Y row h4 hg hr⟩) (fun _ _ _ _ _ h _ _ => h)
  ⟨[], rfl, Nat.le_refl _, UB HJ1, Tm _ _ _⟩
  (fun x a' W' => a' = { tmps := #[.func (.yield l) #[] #[], .pointer (some ⟨Bt, 0, none⟩), .pointer (some ⟨W.heap.size, 0, none⟩), .map (some x.1.1), undef, .map (some b), .func (.func 94) #[] #[.pointer (some ⟨W.heap.size + 1, 0, none⟩)], .map (some x.1.1), undef, undef, undef, undef, undef, undef, undef], defers := [] })
  (fun _ _ _ _ _ _ hs _ _ => hs) ?assign ?body ?done ?stop
 case assign =>
  rintro lr pre x W2 K hi hK
  have hsem := Oper.semAt_some lr
  have HK := UC hK
  have HI := UC hi
  clear hK hi
  unfold encP
  gi_wp2
  exact UB HK _ _ (KeepsFrom.refl _ _) ⟨⟨Below.refl _ _, fun _ _ q => q⟩, fun _ _ q => q⟩ (UB HI) rfl
 case body =>
  rintro lr pre x a' Wb hlr ⟨rr, hrr⟩ ⟨ys, hys, hyl, hj, hk⟩ rfl hlt
  obtain ⟨⟨p, P⟩, hPP⟩ := x
  have hPM := hPP.1
  have hPS := hPP.2
  dsimp only at hPM hPS hPP
  have hsem := Oper.semAt_some lr
  have b3 := UI (w := Wb) (.cells #[.map (some p)] 79)
  have k3 := heap_alloc_new Wb (.cells #[.map (some p)] 79)
  have hj3 : J ys (Wb.alloc (.cells #[.map (some p)] 79)) := (UB HJ).alloc _ hj
  have hkk3 := P7 hk (I8 b3 (Nat.le_trans zn1 hk.1.size))
  have hrr3 := UE b3 hrr
  have zb := hk.1.size
  have hB3 : Below w0.heap.size w0 (Wb.alloc (.cells #[.map (some p)] 79)) := (UB HB1).trans hkk3.1
  have HK := UC hk
  have HJ3 := UC hj3
  have K3 := UC k3
  have B3 := UC b3
  have HRR := UC hrr3
  have HKK3 := UC hkk3
  have HB3 := UC hB3
  have HPM := UC hPM
  have HPS := UC hPS
  have HYS := UC hys
  clear hk hj hj3 k3 b3 hrr hrr3 hkk3 hB3 hPM hPS hys
  gi_wp2_with (first
   | (refine ⟨trivial, ?_⟩; gi_at_call 56; refine (callsIn_wide.2 (Vs _ _)).mono ?_; rintro e w3 ⟨rfl, hw3⟩))
  subst hw3
  generalize Wb.alloc (.cells #[.map (some p)] 79) = W3 at *
  have zb3 := (UB B3).size
  have zn3 := (UB HB3).size
  refine wpIn_rangeFunc_ownN (l₀ := lr) (r₀ := rr) rfl (UB HRR) (by omega) (gf := 87) (lb := #[.pointer (some ⟨Wb.heap.size, 0, none⟩)]) rfl trivial (enters_of Tryz.func87 (by kernel_rfl) rfl) ((On (Q3 Wb.heap.size w0 W3 (some p) P (.inr ⟨p, rfl, UB HPM⟩) (UB HPS).1 (UB HPS).2 (UB HB3) (UB K3))).inRound lr) (fun h k => Z5 h k) (Y3 (w := W3) zn3) (Below.refl _ _) (fun _ => rfl)
   (fun pre' W' => J (ys ++ pre') W' ∧ KpZ w0.heap.size l W3 W') (fun _ _ _ => False)
   (fun s X Y row ⟨h3, h4⟩ hg hr => ⟨UB HJ _ X Y row h3 hg (fun q e => ⟨by have := (hr q e).1; omega, (hr q e).2⟩), Vp (β := Unit) (Nat.le_refl _) zn3 () X Y row h4 hg hr⟩) (fun _ _ _ _ _ h _ _ => h)
   ⟨by rw [List.append_nil]; exact UB HJ3, Tm _ _ _⟩
   (fun x' a'' W' => ∃ Bx, W'.heap[Bx]? = some (.cells (E2 x') 39) ∧ a'' = { tmps := #[.func (.yield l) #[] #[], .pointer (some ⟨Bt, 0, none⟩), .pointer (some ⟨W.heap.size, 0, none⟩), .map (some p), .pointer (some ⟨Bx, 0, none⟩), .map (some b), .func (.func 94) #[] #[.pointer (some ⟨W.heap.size + 1, 0, none⟩)], .map (some p), .map (some p), .func (.func 87) #[] #[.pointer (some ⟨Wb.heap.size, 0, none⟩)], .agg (E2 x'), undef, undef, undef, undef], defers := [] })
   (fun x' a'' _ X Y row ⟨Bx, q1, q2⟩ hg hr => ⟨Bx, Da hg (fun r e => (hr r e).2) _ _ _ q1, q2⟩) ?assign2 ?body2 ?done2 ?stop2
  case assign2 =>
   rintro l2 pre' x' W4 K ⟨hj4, hk4⟩ hK
   have hsem2 := Oper.semAt_some l2
   obtain ⟨⟨⟨vn, vt, vx, vi⟩, r⟩, hRR⟩ := x'
   have hR := hRR.1
   dsimp only at hR hRR
   obtain ⟨na, nc, rfl, _⟩ := hR.name.form
   obtain ⟨ta, tc, rfl, _⟩ := hR.to.form
   obtain ⟨xa, xc, rfl, _⟩ := hR.text.form
   obtain ⟨ia, ic, rfl, _⟩ := hR.nums.form
   have ba := UI (w := W4) (.cells #[.slice na r.name.length nc, .int .i64 r.type, .int .i64 r.ttl, .int .i64 r.addr, .slice ta r.to.length tc, .slice xa r.text.length xc, .slice ia r.nums.length ic] 39)
   have kx := heap_alloc_new W4 (.cells #[.slice na r.name.length nc, .int .i64 r.type, .int .i64 r.ttl, .int .i64 r.addr, .slice ta r.to.length tc, .slice xa r.text.length xc, .slice ia r.nums.length ic] 39)
   have zk := hk4.1.size
   have hj5 := UC ((UB HJ).alloc (.cells #[.slice na r.name.length nc, .int .i64 r.type, .int .i64 r.ttl, .int .i64 r.addr, .slice ta r.to.length tc, .slice xa r.text.length xc, .slice ia r.nums.length ic] 39) hj4)
   have hk5 := UC (P7 hk4 (I8 ba (by omega)))
   have HKF := UC hK
   have KX := UC kx
   have BA := UC ba
   clear hK kx ba hj4 hk4 hR
   unfold encV
   gi_wp2
   exact UB HKF _ _ ((KeepsOthers.alloc _ _).from _) ⟨⟨(UB BA).mono (by omega), fun c t q => UE (UB BA) q⟩, fun g c q => UE (UB BA) q⟩ ⟨UB hj5, UB hk5⟩ ⟨W4.heap.size, UB KX, rfl⟩
  case body2 =>
   rintro l2 pre' x' a'' W4 hl2 ⟨r2, hr2⟩ ⟨hj4, hk4⟩ ⟨Bx, kX, rfl⟩ hlt2
   have hsem2 := Oper.semAt_some l2
   have hlen : (ys ++ pre').length < 1000000 := by
    rw [List.length_append]
    rw [Bm] at hlt hlt2
    have := (UB HPS).1
    have : pre.length * 1000 ≤ 999 * 1000 := Nat.mul_le_mul_right _ (by omega)
    omega
   obtain ⟨fn, tmps, assign, body, hy, hRd⟩ := UB HY (ys ++ pre') x' W4 hj4 hlen
   have cY := US (hk4.cells ((UB HKK3).cells (UB KY) rfl) rfl)
   have kA := hk4.cells (UB K3) rfl
   obtain ⟨⟨⟨vn, vt, vx, vi⟩, r⟩, hRR⟩ := x'
   have hR := hRR.1
   dsimp only at hR hRR
   obtain ⟨na, nc, rfl, _⟩ := hR.name.form
   obtain ⟨ta, tc, rfl, _⟩ := hR.to.form
   obtain ⟨xa, xc, rfl, _⟩ := hR.text.form
   obtain ⟨ia, ic, rfl, _⟩ := hR.nums.form
   replace kX : W4.heap[Bx]? = some (.cells #[.slice na r.name.length nc, .int .i64 r.type, .int .i64 r.ttl, .int .i64 r.addr, .slice ta r.to.length tc, .slice xa r.text.length xc, .slice ia r.nums.length ic] 39) := kX
   obtain ⟨d0, d1, d2, d3, d4, d5, d6⟩ := UJ kX
   have HRD := UC hRd
   have HK4 := UC hk4
   have KA := UC kA
   clear hRd hk4 kA kX hR hj4 hr2 hlen
   unfold E2
   dsimp only
   unfold encV at hy
   dsimp only at hy
   gi_wp2
   refine (Rj (UB HRD)).mono ?_
   rintro e W5 ⟨rfl, hJ5, hk5⟩
   have HJ5 := UC hJ5
   have HK5 := UC hk5
   clear hJ5 hk5 hy d0 d1 d2 d3 d4 d5 d6 cY
   gi_wp2
   exact ⟨P0 (UB HK5) (by omega), kpZ_S (UB HK5) ⟨_, .inl (UB KA)⟩, by rw [← List.append_assoc]; exact UB HJ5, P7 (UB HK4) (UB HK5)⟩
  case done2 =>
   rintro xs W5 hS ⟨hj5, hk5⟩
   have hk0 : KpZ w0.heap.size l Wb W5 := P7 (I8 (UB B3) (by omega)) hk5
   exact ⟨P0 hk0 (by omega), kpZ_S hk0 ⟨_, .inr ((UB HK).cells (UB KZ) rfl)⟩, ys ++ xs, by rw [List.map_append, UB HYS, hS, List.map_append, List.flatMap_append]; simp, by
    have e1 : xs.length = P.length := by rw [← Rc P, ← hS, List.length_map]
    have := (UB HPS).1
    rw [List.length_append, List.length_append]
    simp only [List.length_cons, List.length_nil]
    omega, hj5, P7 (UB HK) hk0⟩
  case stop2 =>
   rintro c pre' W5 _ h
   exact h.elim
 case done =>
  rintro D xs W5 hD hS ⟨ys, hys, hyl, hj, hk⟩ hK
  have hjf := UC ((UB HJ).putObj (.deferred none) hj (Nat.le_trans zW1 hD) hK rfl)
  have HKK := UC hK
  refine ⟨by simp, .inl ⟨_, _, rfl, run_takeDeferred (UB HKK), ?_⟩⟩
  exact ⟨_, results_none rfl _ _ _, ⟨_, rfl⟩, ys, by rw [hys, hS, sortB_G], UB hjf⟩
 case stop =>
  rintro D c pre W5 _ _ h _
  exact h.elim
theorem Tv (Bt : Nat) (w0 w : World) (b c0 : Nat) (B : Bk) (hB : Ch c0 w0 b B) (hl : B.length ≤ 1000) (hsh : ∀ q ∈ B, Jy q.2) (hb : Below w0.heap.size w0 w) (hBt : w.heap[Bt]? = some (.cells #[.map (some b)] 52)) :
  Q7 Fence.wide 10 Tryz.prog 62 #[.pointer (some ⟨Bt, 0, none⟩)] (fun x : RecV w0 => encV x) (KpZ w0.heap.size) (fun xs => xs.map (·.1.2) = Gl B) 1000000 w :=
 fun l J W hlW hW hJ hY h0 => Tl l Bt _ w0 b c0 B rfl hB hl hsh J W hlW (hb.trans (hW.mono hb.size)) hJ hY (UE hW hBt) h0
theorem Ss (mb : Option Nat) (w : World) : Calls Tryz.prog 28 #[.map mb] w fun e w' => e = .returned (.func (.func 62) #[] #[.pointer (some ⟨w.heap.size, 0, none⟩)]) ∧ w' = w.alloc (.cells #[.map mb] 52) := by
 go_enter Tryz.func28, Tryz.ntmps28
 go_wp2
 go_ret
 exact ⟨rfl, rfl⟩
end Go.Proofs.YthobpbnaklnbiaaGreat

namespace Go.Proofs.YthobpbnaklnbiaaGreat
open Go.RowKit
set_option linter.unusedVariables false
variable {P : Program} {w : World}

theorem Ho {t ty e : TypeId} (ht : P.underlying t = some (.slice e)) {zs : Array Value} (hinfo : (P.info? e).map (fun i => (i.zero, i.size, i.bytes)) = some (some (.agg zs), 7, 120)) (hzs : zs.size = 7)
  {base : Nat} {v : Value} {n : Nat} {xs : List Value} (hown : w.ownsRow base e 7 v n xs) {g : Nat} {cs : List Value} (hg : w.heap[g]? = some (.cells cs.toArray e)) (hcl : cs.length = 7) (h1 : ∀ u ∈ cs, u.oneCell' = true) (hlen : n ≤ 999999) (hbase : base ≤ w.heap.size) :
  ∃ v' w', (Builtin.append_ #[t, t] ty #[v, .slice (some ⟨g, 0, none⟩) 1 1]).run P w = .ok v' w' ∧ w'.ownsRow base e 7 v' (n + 1) (xs ++ cs) ∧ w.grownBy w' v.ownBlock ∧ (v'.ownBlock = v.ownBlock ∨ v'.ownBlock = some w.heap.size) := by
 obtain ⟨i0, hi, hz0, hz1, hz2⟩ := info_parts hinfo
 have hc : ∀ j u, cs[j]? = some u → w.cell? ((⟨g, 0, none⟩ : Addr).add j) = some u := fun j u hj => by
  rw [Addr.add_lit, Nat.zero_add, VE hg]
  simpa using hj
 obtain ⟨v', w', h2, h3, h4, _⟩ := run_append_own (P := P) w base t ty e i0 (.agg zs) 7 120 ht hi hz0 hz1 hz2 hzs (by decide) v n xs hown ⟨g, 0, none⟩ 1 1 cs (by rw [hcl]) hc h1 (by unfold maxLen; omega) (by omega) hbase
 exact ⟨v', w', h2, h3, h4, N9 ht hinfo hzs hown (by rw [hcl]) hc h1 (by decide) (by omega) h2⟩

theorem Lo {ops : Array Oper} {o : Oper} {a : Act} {K : Act → World → Prop} {Q : Exit → Act → World → Prop} {E : Prop} (hgd : o.guard = none) (s x : Operand) (t e : TypeId)
  (ho : o.op = .call { callee := .builtin .append, args := #[s, x], argTypes := #[t, t] }) (ht : P.underlying t = some (.slice e)) (zs : Array Value)
  (hinfo : (P.info? e).map (fun i => (i.zero, i.size, i.bytes)) = some (some (.agg zs), 7, 120)) (hzs : zs.size = 7)
  (base : Nat) (v : Value) (n : Nat) (hs : a.eval s = v) (g : Nat) (cs : List Value) (hx : a.eval x = .slice (some ⟨g, 0, none⟩) 1 1) (hown : ∃ xs, w.ownsRow base e 7 v n xs)
  (hg : w.heap[g]? = some (.cells cs.toArray e)) (hcl : cs.length = 7) (h1 : ∀ u ∈ cs, u.oneCell' = true) (hlen : n ≤ 999999) (hbase : base ≤ w.heap.size)
  (h : ∀ v' w', (∀ xs, w.ownsRow base e 7 v n xs → w'.ownsRow base e 7 v' (n + 1) (xs ++ cs)) → w.grownBy w' v.ownBlock → (v'.ownBlock = v.ownBlock ∨ v'.ownBlock = some w.heap.size) → K (a.put o.dst v') w') : if Region.wanted o (yielded ops a.tmps) = true then Oper.wp P o a w K Q else E := by
 have hw : Region.wanted o (yielded ops a.tmps) = true := by simp [Region.wanted, hgd]
 rw [if_pos hw]
 obtain ⟨xs0, hx0⟩ := hown
 obtain ⟨v', w', hr', h2, h3, h4⟩ := Ho (P := P) (ty := o.type) ht hinfo hzs hx0 hg hcl h1 hlen hbase
 have hall : ∀ xs, w.ownsRow base e 7 v n xs → w'.ownsRow base e 7 v' (n + 1) (xs ++ cs) := fun xs hxs => by
  obtain ⟨v2, w2, hr2, h22, _, _⟩ := Ho (P := P) (ty := o.type) ht hinfo hzs hxs hg hcl h1 hlen hbase
  rw [hr'] at hr2
  simp only [Result.ok.injEq] at hr2
  rw [hr2.1, hr2.2]
  exact h22
 unfold Oper.wp execOp
 simp only [ho, resolve, invoke, builtin, Sem.run_bind, Sem.run_pure, Result.andThen_ok, List.map_toArray, List.map_cons, List.map_nil, hs, hx, hr']
 exact h v' w' hall h3 h4
end Go.Proofs.YthobpbnaklnbiaaGreat
