/-
  A region that draws its order, taken in an order that is given; each load has a condition of its own, which only those must keep that might come ahead of it. Contract of the specification's l4drawWant.
-/
import Derived.Test.YtbabmdiklefgcaaGreatDoorFnRepliesG14
import Derived.Test.YtbabmdiklefgcaaGreatDoorFnRepliesG07
import Derived.Test.YtbabmdiklefgcaaGreatDoorFnRepliesG13
import Derived.Test.YtbabmdiklefgcaaGreatDoorFnRepliesG05
import Derived.Test.YtbabmdiklefgcaaGreatDoorFnRepliesG00
import Derived.Deep.Cut
namespace Go.Proofs.YtbabmdiklefgcaaGreatDoor
open Go.RowKit
set_option linter.unusedVariables false

def lateC (md : Region.Mode) (ops : Array Oper) (i : Nat) : Nat → Nat → Bool
 | 0, _ => false
 | f + 1, j => match ops[j]? with
  | some oj => oj.after.any (fun e => Region.binds md e && (Nat.beq e.on i || lateC md ops i f e.on))
  | none => false
def ShutC (md : Region.Mode) (ops : Array Oper) (listed : Array Bool) : Prop := ∀ j oj, ops[j]? = some oj → listed.getD j true = true → ∀ e ∈ oj.after, Region.binds md e = true → listed.getD e.on false = true
section
variable {P : Program} {ops : Array Oper} {ord : List Nat} {Q : Exit → Act → World → Prop} {md : Region.Mode} {cs : List (Nat × (World → Prop))} {f : Nat}
theorem late_no {listed : Array Bool} (hs : ShutC md ops listed) {i : Nat} (hi : listed.getD i true = false) : ∀ (f : Nat) (j : Nat) (oj : Oper), ops[j]? = some oj → (∀ e ∈ oj.after, Region.binds md e = true → listed.getD e.on false = true) → lateC md ops i f j = false
 | 0, j, oj, hj, hall => rfl
 | f + 1, j, oj, hj, hall => by
  unfold lateC
  rw [hj]
  simp only [Array.any_eq_false']
  intro e he q
  simp only [Bool.and_eq_true, Bool.or_eq_true] at q
  have h1 := hall e he q.1
  rcases q.2 with q2 | q2
  ·rw [Nat.eq_of_beq_eq_true q2] at h1
   by_cases hlt : i < listed.size <;> simp [hlt] at hi h1
   rw [hi] at h1
   cases h1
  ·cases ho : ops[e.on]? with
   | none =>
    cases f with
    | zero => cases q2
    | succ f => unfold lateC at q2; rw [ho] at q2; cases q2
   | some oe =>
    have h2 : listed.getD e.on true = true := by
     by_cases hlt : e.on < listed.size <;> simp [hlt] at h1 ⊢
     exact h1
    have := late_no hs hi f e.on oe ho (fun e' he' hb' => hs e.on oe ho h2 e' he' hb')
    rw [this] at q2
    cases q2
theorem ShutC.next {listed : Array Bool} (hs : ShutC md ops listed) {j : Nat} (hj : j ∈ Region.ready md ops listed) : ShutC md ops (listed.setIfInBounds j true) := by
 obtain ⟨hun, oj, hoj, hall⟩ := mem_ready.1 hj
 have up : ∀ k, listed.getD k false = true → (listed.setIfInBounds j true).getD k false = true := fun k hk => by
  by_cases e : j = k
  ·subst e
   by_cases hlt : j < listed.size <;> simp [hlt] at hk ⊢
  ·rw [getD_set_ne false e]; exact hk
 intro k ok hok hk e he hb
 by_cases q : j = k
 ·subst q
  rw [hoj] at hok
  cases hok
  exact up _ (hall e he hb)
 ·rw [getD_set_ne true q] at hk
  exact up _ (hs k ok hok hk e he hb)
def KeepC (md : Region.Mode) (ops : Array Oper) (f : Nat) (cs : List (Nat × (World → Prop))) (j : Nat) (w w' : World) : Prop := ∀ p ∈ cs, lateC md ops p.1 f j = false → p.2 w → p.2 w'
def wpAnyC (P : Program) (md : Region.Mode) (ops : Array Oper) (Q : Exit → Act → World → Prop) (f : Nat) (cs : List (Nat × (World → Prop))) : Nat → Array Bool → Act → World → Prop
 | 0, listed, a, w => Region.ready md ops listed = [] ∧ Q .normal a w
 | n + 1, listed, a, w => (Region.ready md ops listed = [] → Q .normal a w) ∧
  ∀ j ∈ Region.ready md ops listed, wpOp P ops Q j (fun a' w' => KeepC md ops f cs j w w' ∧ wpAnyC P md ops Q f cs n (listed.setIfInBounds j true) a' w') a w
theorem wpAny_of_kept : ∀ (n : Nat) (listed : Array Bool) (a : Act) (w : World), wpAnyC P md ops Q f cs n listed a w → wpAny P md ops Q n listed a w
 | 0, _, _, _, h => h
 | n + 1, _, _, _, h => ⟨h.1, fun i hi => wpOp_mono (fun a' w' h' => wpAny_of_kept n _ a' w' h'.2) (h.2 i hi)⟩
theorem wpAnyC_first {i : Nat} {oi : Oper} {v : Value} {C : World → Prop} (hi : ops[i]? = some oi) (hsel : ∀ (j : Nat) (o : Oper) cs b, ops[j]? = some o → o.op ≠ .select cs b)
  (hQ : ∀ c a w, Q (.panic c) (a.put oi.dst v) w → Q (.panic c) a w) (hC : ∀ j w w', lateC md ops i f j = false → KeepC md ops f cs j w w' → C w → C w') :
  ∀ (n : Nat) (listed : Array Bool) (a : Act) (w : World),
   (∀ j oj, ops[j]? = some oj → j ≠ i → listed.getD j true = false → (∀ e ∈ oj.after, Region.binds md e = true → e.on ≠ i) → oi.apart ops oj = true) →
   ShutC md ops listed → i ∈ Region.ready md ops listed → YieldsIf P ops C oi v a → C w →
   wpAnyC P md ops Q f cs n (listed.setIfInBounds i true) (a.put oi.dst v) w → wpAnyC P md ops Q f cs (n + 1) listed a w := by
 have hself : ∀ j w, KeepC md ops f cs j w w := fun j w p _ _ h => h
 intro n
 induction n with
 | zero =>
  intro listed a w _ _ hr hy hS H
  refine ⟨fun h => (by rw [h] at hr; cases hr), fun j hj => ?_⟩
  by_cases hji : j = i
  ·subst hji; exact hy.wpOp hi hS ⟨hself _ _, H⟩
  ·have := ready_mono hj hji
   rw [H.1] at this
   cases this
 | succ n ih =>
  intro listed a w hfree hshut hr hy hS H
  refine ⟨fun h => (by rw [h] at hr; cases hr), fun j hj => ?_⟩
  by_cases hji : j = i
  ·subst hji; exact hy.wpOp hi hS ⟨hself _ _, H⟩
  ·have h1 := H.2 j (ready_mono hj hji)
   obtain ⟨hjun, oj, hoj, hall⟩ := mem_ready.1 hj
   have hnot : ∀ e ∈ oj.after, Region.binds md e = true → e.on ≠ i := fun e he hb heq => by
    have h1 := hall e he hb
    have h0 := (mem_ready.1 hr).1
    rw [heq] at h1
    rcases Nat.lt_or_ge i listed.size with h' | h'
    ·simp [h'] at h0 h1; rw [h0] at h1; cases h1
    ·simp [Array.getElem?_eq_none h'] at h1
   have hlate : lateC md ops i f j = false := late_no hshut (mem_ready.1 hr).1 f j oj hoj hall
   have h2 := wpOp_putIf hoj (hfree j oj hoj hji hjun hnot) (fun cs b => hsel i oi cs b hi) (fun cs b => hsel j oj cs b hoj) hQ hy h1
   have hfree' : ∀ k ok, ops[k]? = some ok → k ≠ i → (listed.setIfInBounds j true).getD k true = false →
     (∀ e ∈ ok.after, Region.binds md e = true → e.on ≠ i) → oi.apart ops ok = true := fun k ok hk hki hun hno => by
    refine hfree k ok hk hki ?_ hno
    by_cases hjk : j = k
    ·subst hjk; exact hjun
    ·rw [getD_set_ne true hjk] at hun; exact hun
   refine wpOp_mono (fun a' w' h3 => ⟨h3.2.1, ih (listed.setIfInBounds j true) a' w' hfree' (hshut.next hj) (ready_mono hr (Ne.symm hji)) h3.1 (hC j w w' hlate h3.2.1 hS) ?_⟩) h2
   rw [Array.setIfInBounds_comm _ _ hji]
   exact h3.2.2
theorem wpAnyC_done {n : Nat} {listed : Array Bool} {a : Act} {w : World} (hr : Region.ready md ops listed = []) (h : Q .normal a w) : wpAnyC P md ops Q f cs n listed a w := by
 cases n with
 | zero => exact ⟨hr, h⟩
 | succ n => exact ⟨fun _ => h, by rw [hr]; simp⟩
theorem OrdO.shut (h : OrdO md ops ord) (i : Nat) : ShutC md ops (upO ord i ops.size) := by
 intro j oj hoj hj e he hb
 rw [upO_get (some_lt hoj), List.contains_iff_mem] at hj
 obtain ⟨q, hq, hqj⟩ := List.getElem_of_mem hj
 have hqi : q < i := by rw [List.length_take] at hq; omega
 have hql : q < ord.length := by rw [List.length_take] at hq; omega
 have hd : ord.drop q = j :: ord.drop (q + 1) := by
  rw [List.drop_eq_getElem_cons hql]
  congr 1
  rw [List.getElem_take] at hqj
  exact hqj
 have h1 := (h.at_ hd hoj).1 e he hb
 have h2 : e.on ∈ ord.take i := List.mem_of_mem_take (i := q) (by rw [List.take_take, Nat.min_eq_left (by omega)]; exact h1)
 rw [upO_get (h.in_size _ h2)]
 exact List.contains_iff_mem.2 h2
def wpC (P : Program) (md : Region.Mode) (ops : Array Oper) (ord : List Nat) (Q : Exit → Act → World → Prop) (f : Nat) (cs : List (Nat × (World → Prop))) (i : Nat) (a : Act) (w : World) : Prop := wpAnyC P md ops Q f cs (ops.size - i) (upO ord i ops.size) a w
theorem startC {id : Nat} {a : Act} {w : World} (ord : List Nat) (hm : P.follows .mixedOrders = true) (hA : OrdO .any ops ord) (f : Nat) (cs : List (Nat × (World → Prop)))
  (h : OrdO .any ops ord → wpC P .any ops ord Q f cs 0 a w.drew) : (Code.region id ops true).wp P Q a w := by
 refine wp_region_any hm ?_
 have := h hA
 unfold wpC at this
 rw [Nat.sub_zero, ← upO_zero] at this
 exact wpAny_of_kept _ _ _ _ this
theorem takeC (v : Value) {C : World → Prop} {i k : Nat} {oi : Oper} {rest : List Nat} {a : Act} {w : World} (hA : OrdO md ops ord) (hi : ord.drop i = k :: rest) (hk : ops[k]? = some oi) (hc : callsA oi.op = false)
  (hb : Region.wanted oi (yielded ops a.tmps) = true) (hQ : ∀ c a w, Q (.panic c) (a.put oi.dst v) w → Q (.panic c) a w)
  (hm : (k, C) ∈ cs) (hS : C w) (hy : ∀ w, C w → (execOp a.eval oi).run P w = .ok (.value v) w) (h : wpC P md ops ord Q f cs (i + 1) (a.put oi.dst v) w) : wpC P md ops ord Q f cs i a w := by
 have hin := hA.lt hi
 unfold wpC at *
 obtain ⟨n, hf⟩ : ∃ n, ops.size - i = n + 1 := ⟨ops.size - (i + 1), by omega⟩
 rw [show ops.size - (i + 1) = n by omega, ← upO_set hi (some_lt hk)] at h
 rw [hf]
 exact wpAnyC_first (C := C) hk (Region.noSelect_spec hA.sel) hQ (fun j w w' hl hK hw => hK _ hm hl hw) n _ a w (Region.free_spec hk (hA.free hi hk)) (hA.shut i) (by simpa using hA.ready hi hk) (Or.inl ⟨hb, hy⟩) hS h
theorem VN (v : Value) {i k : Nat} {oi : Oper} {rest : List Nat} {a : Act} {w : World} (hA : OrdO md ops ord) (hi : ord.drop i = k :: rest) (hk : ops[k]? = some oi) (hc : callsA oi.op = false)
  (hb : Region.wanted oi (yielded ops a.tmps) = true) (hQ : ∀ c a w, Q (.panic c) (a.put oi.dst v) w → Q (.panic c) a w)
  (hy : ∀ w, (execOp a.eval oi).run P w = .ok (.value v) w) (h : wpC P md ops ord Q f cs (i + 1) (a.put oi.dst v) w) : wpC P md ops ord Q f cs i a w := by
 have hin := hA.lt hi
 unfold wpC at *
 obtain ⟨n, hf⟩ : ∃ n, ops.size - i = n + 1 := ⟨ops.size - (i + 1), by omega⟩
 rw [show ops.size - (i + 1) = n by omega, ← upO_set hi (some_lt hk)] at h
 rw [hf]
 exact wpAnyC_first (C := fun _ => True) hk (Region.noSelect_spec hA.sel) hQ (fun _ _ _ _ _ _ => trivial) n _ a w (Region.free_spec hk (hA.free hi hk)) (hA.shut i) (by simpa using hA.ready hi hk) (Or.inl ⟨hb, fun w _ => hy w⟩) trivial h
theorem VM {i k : Nat} {oi : Oper} {rest : List Nat} {a : Act} {w : World} (hA : OrdO md ops ord) (hi : ord.drop i = k :: rest) (hk : ops[k]? = some oi)
  (hb : Region.wanted oi (yielded ops a.tmps) = false) (hQ : ∀ c a w, Q (.panic c) (a.put oi.dst undef) w → Q (.panic c) a w)
  (h : wpC P md ops ord Q f cs (i + 1) (a.put oi.dst undef) w) : wpC P md ops ord Q f cs i a w := by
 have hin := hA.lt hi
 unfold wpC at *
 obtain ⟨n, hf⟩ : ∃ n, ops.size - i = n + 1 := ⟨ops.size - (i + 1), by omega⟩
 rw [show ops.size - (i + 1) = n by omega, ← upO_set hi (some_lt hk)] at h
 rw [hf]
 exact wpAnyC_first (C := fun _ => True) hk (Region.noSelect_spec hA.sel) hQ (fun _ _ _ _ _ _ => trivial) n _ a w (Region.free_spec hk (hA.free hi hk)) (hA.shut i) (by simpa using hA.ready hi hk) (Or.inr ⟨hb, rfl⟩) trivial h
theorem runC {i k : Nat} {oi : Oper} {rest : List Nat} {a : Act} {w : World} (hA : OrdO md ops ord) (hi : ord.drop i = k :: rest) (hk : ops[k]? = some oi) (hs : soleO md ops (ord.take i) rest = true)
  (hb : Region.wanted oi (yielded ops a.tmps) = true)
  (h : ∀ K' : Act → World → Prop, Shut (∀ a' w', KeepC md ops f cs k w w' → wpC P md ops ord Q f cs (i + 1) a' w' → K' a' w') → Oper.wp P oi a w K' Q) : wpC P md ops ord Q f cs i a w := by
 have hin := hA.lt hi
 unfold wpC at *
 obtain ⟨n, hf⟩ : ∃ n, ops.size - i = n + 1 := ⟨ops.size - (i + 1), by omega⟩
 rw [show ops.size - (i + 1) = n by omega, ← upO_set hi (some_lt hk)] at h
 rw [hf]
 have hr := hA.sole hi hk hs
 refine ⟨fun h0 => absurd (hr ▸ h0) (by simp), fun j hj => ?_⟩
 rw [hr] at hj
 simp only [List.mem_cons, List.not_mem_nil, or_false] at hj
 subst hj
 refine wpOp_step hk (fun K' hK => ?_)
 rw [if_pos hb]
 exact h K' (fun a' w' h1 h2 => hK a' w' ⟨h1, h2⟩)
theorem doneC {i : Nat} {a : Act} {w : World} (hA : OrdO md ops ord) (hn : ord.drop i = []) (h : Q .normal a w) : wpC P md ops ord Q f cs i a w := by
 have hl : ord.take i = ord := by
  have := List.take_append_drop i ord
  rwa [hn, List.append_nil] at this
 refine wpAnyC_done ?_ h
 have h1 := hA.all
 rw [List.all_eq_true] at h1
 unfold Region.ready
 rw [List.filter_eq_nil_iff]
 intro j hj
 rw [upO_get (List.mem_range.1 hj), hl, List.contains_iff_mem.2 (memN_iff.1 (h1 j hj))]
 simp
theorem VL {k : Nat} {w w' : World} : KeepC md ops f [] k w w' := fun p hp => by cases hp
theorem keepC_yes {k : Nat} {w w' : World} {p : Nat × (World → Prop)} (h : p.2 w') (hs : KeepC md ops f cs k w w') : KeepC md ops f (p :: cs) k w w' := fun q hq hl hw => by
 rcases List.mem_cons.1 hq with e | hq
 ·subst e; exact h
 ·exact hs q hq hl hw
theorem VB {k : Nat} {w w' : World} {p : Nat × (World → Prop)} (h : lateC md ops p.1 f k = true) (hs : KeepC md ops f cs k w w') : KeepC md ops f (p :: cs) k w w' := fun q hq hl hw => by
 rcases List.mem_cons.1 hq with e | hq
 ·subst e; rw [h] at hl; cases hl
 ·exact hs q hq hl hw
end
theorem grown_set9 (w : World) (b : Nat) {c0 c1 c2 c3 c4 c5 c6 c7 c8 : Value} : w.grownBy (set9 w b c0 c1 c2 c3 c4 c5 c6 c7 c8) (some b) := by
 unfold set9
 exact grown_trans (grown_trans (grown_trans (grown_trans (grown_trans (grown_trans (grown_trans (grown_trans (grown_setCell w ⟨b, 0, none⟩ c0) (grown_setCell _ ⟨b, 1, none⟩ c1)) (grown_setCell _ ⟨b, 2, none⟩ c2)) (grown_setCell _ ⟨b, 3, none⟩ c3)) (grown_setCell _ ⟨b, 4, none⟩ c4)) (grown_setCell _ ⟨b, 5, none⟩ c5)) (grown_setCell _ ⟨b, 6, none⟩ c6)) (grown_setCell _ ⟨b, 7, none⟩ c7)) (grown_setCell _ ⟨b, 8, none⟩ c8)
def DrawnWt (w : World) (g : Nat) (a : Option Addr) (len cap : Nat) (e : Ending) (w' : World) : Prop :=
 ∃ vn vt vx vi, ∃ x : Wnt, e = .returned (.agg #[vn, .int .i64 x.rr.type, .int .i64 x.rr.ttl, .int .i64 x.rr.addr, vt, vx, vi, .int .i64 x.cls, .bool x.bare]) ∧ DrawR w' vn vt vx vi x.rr ∧ Cur w' g a len cap ∧ w.grownBy w' (some g)
set_option maxHeartbeats 4000000 in
set_option maxRecDepth 100000 in
theorem l4drawWant_any {g : Nat} {a : Option Addr} {len cap : Nat} {w : World} (pre : Bool) (hc : Cur w g a len cap) (hL : Code w g a len) (hm : len ≤ maxLen) :
  Calls Tryz.prog 55 #[.pointer (some ⟨g, 0, none⟩), .bool pre] w (DrawnWt w g a len cap) := by
 have hg := hc.lt
 have HM := UC hm
 have X0 := CurX.start hc hL
 have ba := UI (w := w) (.cells #[.slice none 0 0, .int .i64 0, .int .i64 0, .int .i64 0, .slice none 0 0, .slice none 0 0, .slice none 0 0, .int .i64 0, .bool false] 66)
 have KB := UC (heap_alloc_new w (.cells #[.slice none 0 0, .int .i64 0, .int .i64 0, .int .i64 0, .slice none 0 0, .slice none 0 0, .slice none 0 0, .int .i64 0, .bool false] 66))
 have X := UC (X0.below ba)
 have zb := VC (UB KB)
 clear hc hL hm X0 ba
 go_enter Tryz.func55, Tryz.ntmps55
 go_wp2_with fail
 generalize w.alloc (.cells #[.slice none 0 0, .int .i64 0, .int .i64 0, .int .i64 0, .slice none 0 0, .slice none 0 0, .slice none 0 0, .int .i64 0, .bool false] 66) = W at *
 refine (l3drawQ_any (UB X).cur (UB X).code (UB HM)).mono ?_
 rintro e w1 ⟨vn, vt, vx, vi, r, rfl, _, _, DR, _, c1, g1⟩
 obtain ⟨n1, n2, rfl, _⟩ := DR.hasR.name.form
 obtain ⟨t1, t2, rfl, _⟩ := DR.hasR.to.form
 obtain ⟨x1, x2, rfl, _⟩ := DR.hasR.text.form
 obtain ⟨i1, i2, rfl, _⟩ := DR.hasR.nums.form
 have z1 := g1.size
 have ba := UI (w := w1) (.cells #[.slice n1 r.name.length n2, .int .i64 r.type, .int .i64 r.ttl, .int .i64 r.addr, .slice t1 r.to.length t2, .slice x1 r.text.length x2, .slice i1 r.nums.length i2] 63)
 replace X := UC (((UB X).step c1 g1).below ba)
 replace KB := UC (UE ba (block_grown g1 (UB KB) (by simp; omega)))
 have KR := UC (heap_alloc_new w1 (.cells #[.slice n1 r.name.length n2, .int .i64 r.type, .int .i64 r.ttl, .int .i64 r.addr, .slice t1 r.to.length t2, .slice x1 r.text.length x2, .slice i1 r.nums.length i2] 63))
 have DD := UC (DR.below ba)
 have zr := VC (UB KR)
 clear DR c1 g1 ba
 go_wp2_with fail
 generalize w1.alloc (.cells #[.slice n1 r.name.length n2, .int .i64 r.type, .int .i64 r.ttl, .int .i64 r.addr, .slice t1 r.to.length t2, .slice x1 r.text.length x2, .slice i1 r.nums.length i2] 63) = W2 at *
 refine (l1Below_any 4 (UB X).cur (UB X).code (UB HM) (by omega) (by omega)).mono ?_
 rintro e W3 ⟨y, rfl, hy0, hy1, c3, g3⟩
 have z3 := g3.size
 replace DD := UC ((UB DD).cur (UB X).cur g3)
 replace X := UC ((UB X).step c3 g3)
 replace KB := UC (block_grown g3 (UB KB) (by simp; omega))
 replace KR := UC (block_grown g3 (UB KR) (by simp; omega))
 clear c3 g3
 by_cases e0 : y = 0
 ·subst e0
  go_upto_region 4 with fail
  have bd := UX (w := W3)
  replace X := UC ((UB X).below bd)
  replace DD := UC ((UB DD).below bd)
  replace KB := UC (UE bd (UB KB))
  replace KR := UC (UE bd (UB KR))
  have zd := bd.size
  clear bd
  refine startC [0, 1, 2, 3, 4, 5, 6, 7, 8, 9] (by kernel_rfl) ⟨by kernel_rfl, by kernel_rfl, by kernel_rfl, by kernel_rfl⟩ 8 [(1, fun w' => w'.cell? ⟨w1.heap.size, 0, none⟩ = some (.slice n1 r.name.length n2)), (4, fun w' => w'.cell? ⟨w1.heap.size, 1, none⟩ = some (.int .i64 r.type))] (fun hA => ?_)
  replace hA := UC hA
  generalize hWD : W3.drew = WD at *
  clear hWD
  repeat ((first | (refine VN ?_ (UB hA) rfl rfl rfl (by rfl) (fun _ _ _ h => h) ?_ ?_; rotate_left; · (intro w; go_simp <;> with_reducible rfl)) | refine VM (UB hA) rfl rfl (by rfl) (fun _ _ _ h => h) ?_); go_simp)
  refine takeC ?_ (UB hA) rfl rfl rfl (by rfl) (fun _ _ _ h => h) (.head _) (UJ (UB KR)).1 ?_ ?_; rotate_left; (· (intro w hSw; (try dsimp only at hSw); go_simp <;> with_reducible rfl)); go_simp
  repeat ((first | (refine VN ?_ (UB hA) rfl rfl rfl (by rfl) (fun _ _ _ h => h) ?_ ?_; rotate_left; · (intro w; go_simp <;> with_reducible rfl)) | refine VM (UB hA) rfl rfl (by rfl) (fun _ _ _ h => h) ?_); go_simp)
  refine takeC ?_ (UB hA) rfl rfl rfl (by rfl) (fun _ _ _ h => h) (.tail _ (.head _)) (UJ (UB KR)).2.1 ?_ ?_; rotate_left; (· (intro w hSw; (try dsimp only at hSw); go_simp <;> with_reducible rfl)); go_simp
  refine runC (UB hA) rfl rfl (by kernel_rfl) (by kernel_rfl) (fun K hK => ?_)
  have HK := UC hK
  clear hK
  go_simp
  have KZ := UC (heap_alloc_new WD (.cells #[.int .i64 255, .int .i64 r.type] 3))
  have bz := UI (w := WD) (.cells #[.int .i64 255, .int .i64 r.type] 3)
  replace X := UC ((UB X).below bz)
  replace DD := UC ((UB DD).below bz)
  replace KB := UC (UE bz (UB KB))
  replace KR := UC (UE bz (UB KR))
  have zz := VC (UB KZ)
  clear bz
  refine (UB HK).out _ _ (keepC_yes (UJ (UB KR)).1 (VB (by kernel_rfl) VL)) ?_
  clear HK K
  go_simp
  refine runC (UB hA) rfl rfl (by kernel_rfl) (by kernel_rfl) (fun K hK => ?_)
  have HK := UC hK
  clear hK
  go_simp
  refine (l1PickInt_any WD.heap.size 2 (UB X).cur (UB X).code (UB HM) (by omega) (by omega) zz (by omega) (fun j hj => by match j, hj with | 0, _ => exact ⟨_, VE (UB KZ) 0⟩ | 1, _ => exact ⟨_, VE (UB KZ) 1⟩)).mono ?_
  rintro e W5 ⟨z, rfl, c5, g5⟩
  replace DD := UC ((UB DD).cur (UB X).cur g5)
  replace X := UC ((UB X).step c5 g5)
  replace KB := UC (block_grown g5 (UB KB) (by simp; omega))
  replace KR := UC (block_grown g5 (UB KR) (by simp; omega))
  clear c5 g5
  obtain ⟨p0, p1, p2, p3, p4, p5, p6, p7, p8⟩ := cells9 (UB KB)
  obtain ⟨q0, q1, q2, q3, q4, q5, q6, q7, q8⟩ := frozen9 (UB KB)
  refine (UB HK).out _ _ (keepC_yes (UJ (UB KR)).1 (VB (by kernel_rfl) VL)) ?_
  clear HK K
  go_simp
  repeat ((first | (refine VN ?_ (UB hA) rfl rfl rfl (by rfl) (fun _ _ _ h => h) ?_ ?_; rotate_left; · (intro w; go_simp <;> with_reducible rfl)) | refine VM (UB hA) rfl rfl (by rfl) (fun _ _ _ h => h) ?_); go_simp)
  refine runC (UB hA) rfl rfl (by kernel_rfl) (by kernel_rfl) (fun K hK => ?_)
  have HK := UC hK
  clear hK
  go_simp
  refine (UB HK).out _ _ (VB (by kernel_rfl) (VB (by kernel_rfl) VL)) ?_
  clear HK K
  go_simp
  refine doneC (UB hA) rfl ?_
  clear hA
  clear p0 p1 p2 p3 p4 p5 p6 p7 p8 q0 q1 q2 q3 q4 q5 q6 q7 q8
  go_wp2_with fail
  have gf := grown_set9 W5 w.heap.size (c0 := .slice n1 r.name.length n2) (c1 := .int .i64 z) (c2 := .int .i64 0) (c3 := .int .i64 0) (c4 := .slice none 0 0) (c5 := .slice none 0 0) (c6 := .slice none 0 0) (c7 := .int .i64 255) (c8 := .bool true)
  have kf := (set9_is (c0 := .slice n1 r.name.length n2) (c1 := .int .i64 z) (c2 := .int .i64 0) (c3 := .int .i64 0) (c4 := .slice none 0 0) (c5 := .slice none 0 0) (c6 := .slice none 0 0) (c7 := .int .i64 255) (c8 := .bool true) (UB KB)).1
  have DF := (UB DD).off (UB KB) (by decide) (by decide) (by decide) gf
  have XF := (UB X).row gf (fun j e => by cases e; exact Nat.le_refl _)
  unfold set9 at gf kf DF XF
  refine bodyPost_ret (results_cell_row rfl _ _ w.heap.size 66 #[.slice n1 r.name.length n2, .int .i64 z, .int .i64 0, .int .i64 0, .slice none 0 0, .slice none 0 0, .slice none 0 0, .int .i64 255, .bool true] (0, 0) _ rfl kf Tryz.underlying66 rfl (by kernel_rfl)) rfl ?_
  exact ⟨_, _, _, _, ⟨⟨r.name, z, 0, 0, [], [], []⟩, 255, true⟩, rfl, ⟨DF.name, ownT_nil _, text_nil _, ownI_nil _⟩, XF.cur, XF.grown⟩
 ·by_cases e1 : y = 1
  ·subst e1
   cases pre
   ·-- the record, its time 0
    obtain ⟨d0, d1, d2, d3, d4, d5, d6⟩ := UJ (UB KR)
    obtain ⟨f0, f1, f2, f3, f4, f5, f6⟩ := VI (UB KR)
    obtain ⟨p0, p1, p2, p3, p4, p5, p6, p7, p8⟩ := cells9 (UB KB)
    obtain ⟨q0, q1, q2, q3, q4, q5, q6, q7, q8⟩ := frozen9 (UB KB)
    go_wp2_with fail
    clear d0 d1 d2 d3 d4 d5 d6 f0 f1 f2 f3 f4 f5 f6 p0 p1 p2 p3 p4 p5 p6 p7 p8 q0 q1 q2 q3 q4 q5 q6 q7 q8
    have gs := grown_setCell W3 ⟨w1.heap.size, 2, none⟩ (.int .i64 0)
    have KX := UC (block_grown gs (UB KB) (by simp; omega))
    have DX := UC ((UB DD).off (UB KR) (by decide) (by decide) (by decide) gs)
    have XX := UC ((UB X).row gs (fun j e => by cases e; show w.heap.size ≤ w1.heap.size; omega))
    clear gs KB DD X KR
    have KB := KX
    have DD := DX
    have X := XX
    clear KX DX XX
    generalize W3.setCell ⟨w1.heap.size, 2, none⟩ (.int .i64 0) = WX at *
    have gf := grown_set9 WX w.heap.size (c0 := .slice n1 r.name.length n2) (c1 := .int .i64 r.type) (c2 := .int .i64 0) (c3 := .int .i64 r.addr) (c4 := .slice t1 r.to.length t2) (c5 := .slice x1 r.text.length x2) (c6 := .slice i1 r.nums.length i2) (c7 := .int .i64 254) (c8 := .bool false)
    have kf := (set9_is (c0 := .slice n1 r.name.length n2) (c1 := .int .i64 r.type) (c2 := .int .i64 0) (c3 := .int .i64 r.addr) (c4 := .slice t1 r.to.length t2) (c5 := .slice x1 r.text.length x2) (c6 := .slice i1 r.nums.length i2) (c7 := .int .i64 254) (c8 := .bool false) (UB KB)).1
    have DF := (UB DD).off (UB KB) (by decide) (by decide) (by decide) gf
    have XF := (UB X).row gf (fun j e => by cases e; exact Nat.le_refl _)
    unfold set9 at gf kf DF XF
    refine bodyPost_ret (results_cell_row rfl _ _ w.heap.size 66 #[.slice n1 r.name.length n2, .int .i64 r.type, .int .i64 0, .int .i64 r.addr, .slice t1 r.to.length t2, .slice x1 r.text.length x2, .slice i1 r.nums.length i2, .int .i64 254, .bool false] (0, 0) _ rfl kf Tryz.underlying66 rfl (by kernel_rfl)) rfl ?_
    exact ⟨_, _, _, _, ⟨⟨r.name, r.type, 0, r.addr, r.to, r.text, r.nums⟩, 254, false⟩, rfl, ⟨DF.name, DF.to, DF.text, DF.nums⟩, XF.cur, XF.grown⟩
   ·go_upto_region 7 with fail
    have bd := UX (w := W3)
    replace X := UC ((UB X).below bd)
    replace DD := UC ((UB DD).below bd)
    replace KB := UC (UE bd (UB KB))
    replace KR := UC (UE bd (UB KR))
    have zd := bd.size
    clear bd
    refine startC [0, 1, 2, 3, 4, 5, 6, 7, 8, 9] (by kernel_rfl) ⟨by kernel_rfl, by kernel_rfl, by kernel_rfl, by kernel_rfl⟩ 8 [(1, fun w' => w'.cell? ⟨w1.heap.size, 0, none⟩ = some (.slice n1 r.name.length n2)), (4, fun w' => w'.cell? ⟨w1.heap.size, 1, none⟩ = some (.int .i64 r.type))] (fun hA => ?_)
    replace hA := UC hA
    generalize hWD : W3.drew = WD at *
    clear hWD
    repeat ((first | (refine VN ?_ (UB hA) rfl rfl rfl (by rfl) (fun _ _ _ h => h) ?_ ?_; rotate_left; · (intro w; go_simp <;> with_reducible rfl)) | refine VM (UB hA) rfl rfl (by rfl) (fun _ _ _ h => h) ?_); go_simp)
    refine takeC ?_ (UB hA) rfl rfl rfl (by rfl) (fun _ _ _ h => h) (.head _) (UJ (UB KR)).1 ?_ ?_; rotate_left; (· (intro w hSw; (try dsimp only at hSw); go_simp <;> with_reducible rfl)); go_simp
    repeat ((first | (refine VN ?_ (UB hA) rfl rfl rfl (by rfl) (fun _ _ _ h => h) ?_ ?_; rotate_left; · (intro w; go_simp <;> with_reducible rfl)) | refine VM (UB hA) rfl rfl (by rfl) (fun _ _ _ h => h) ?_); go_simp)
    refine takeC ?_ (UB hA) rfl rfl rfl (by rfl) (fun _ _ _ h => h) (.tail _ (.head _)) (UJ (UB KR)).2.1 ?_ ?_; rotate_left; (· (intro w hSw; (try dsimp only at hSw); go_simp <;> with_reducible rfl)); go_simp
    refine runC (UB hA) rfl rfl (by kernel_rfl) (by kernel_rfl) (fun K hK => ?_)
    have HK := UC hK
    clear hK
    go_simp
    have KZ := UC (heap_alloc_new WD (.cells #[.int .i64 255, .int .i64 r.type] 3))
    have bz := UI (w := WD) (.cells #[.int .i64 255, .int .i64 r.type] 3)
    replace X := UC ((UB X).below bz)
    replace DD := UC ((UB DD).below bz)
    replace KB := UC (UE bz (UB KB))
    replace KR := UC (UE bz (UB KR))
    have zz := VC (UB KZ)
    clear bz
    refine (UB HK).out _ _ (keepC_yes (UJ (UB KR)).1 (VB (by kernel_rfl) VL)) ?_
    clear HK K
    go_simp
    refine runC (UB hA) rfl rfl (by kernel_rfl) (by kernel_rfl) (fun K hK => ?_)
    have HK := UC hK
    clear hK
    go_simp
    refine (l1PickInt_any WD.heap.size 2 (UB X).cur (UB X).code (UB HM) (by omega) (by omega) zz (by omega) (fun j hj => by match j, hj with | 0, _ => exact ⟨_, VE (UB KZ) 0⟩ | 1, _ => exact ⟨_, VE (UB KZ) 1⟩)).mono ?_
    rintro e W5 ⟨z, rfl, c5, g5⟩
    replace DD := UC ((UB DD).cur (UB X).cur g5)
    replace X := UC ((UB X).step c5 g5)
    replace KB := UC (block_grown g5 (UB KB) (by simp; omega))
    replace KR := UC (block_grown g5 (UB KR) (by simp; omega))
    clear c5 g5
    obtain ⟨p0, p1, p2, p3, p4, p5, p6, p7, p8⟩ := cells9 (UB KB)
    obtain ⟨q0, q1, q2, q3, q4, q5, q6, q7, q8⟩ := frozen9 (UB KB)
    refine (UB HK).out _ _ (keepC_yes (UJ (UB KR)).1 (VB (by kernel_rfl) VL)) ?_
    clear HK K
    go_simp
    repeat ((first | (refine VN ?_ (UB hA) rfl rfl rfl (by rfl) (fun _ _ _ h => h) ?_ ?_; rotate_left; · (intro w; go_simp <;> with_reducible rfl)) | refine VM (UB hA) rfl rfl (by rfl) (fun _ _ _ h => h) ?_); go_simp)
    refine runC (UB hA) rfl rfl (by kernel_rfl) (by kernel_rfl) (fun K hK => ?_)
    have HK := UC hK
    clear hK
    go_simp
    refine (UB HK).out _ _ (VB (by kernel_rfl) (VB (by kernel_rfl) VL)) ?_
    clear HK K
    go_simp
    refine doneC (UB hA) rfl ?_
    clear hA
    clear p0 p1 p2 p3 p4 p5 p6 p7 p8 q0 q1 q2 q3 q4 q5 q6 q7 q8
    go_wp2_with fail
    have gf := grown_set9 W5 w.heap.size (c0 := .slice n1 r.name.length n2) (c1 := .int .i64 z) (c2 := .int .i64 0) (c3 := .int .i64 0) (c4 := .slice none 0 0) (c5 := .slice none 0 0) (c6 := .slice none 0 0) (c7 := .int .i64 254) (c8 := .bool true)
    have kf := (set9_is (c0 := .slice n1 r.name.length n2) (c1 := .int .i64 z) (c2 := .int .i64 0) (c3 := .int .i64 0) (c4 := .slice none 0 0) (c5 := .slice none 0 0) (c6 := .slice none 0 0) (c7 := .int .i64 254) (c8 := .bool true) (UB KB)).1
    have DF := (UB DD).off (UB KB) (by decide) (by decide) (by decide) gf
    have XF := (UB X).row gf (fun j e => by cases e; exact Nat.le_refl _)
    unfold set9 at gf kf DF XF
    refine bodyPost_ret (results_cell_row rfl _ _ w.heap.size 66 #[.slice n1 r.name.length n2, .int .i64 z, .int .i64 0, .int .i64 0, .slice none 0 0, .slice none 0 0, .slice none 0 0, .int .i64 254, .bool true] (0, 0) _ rfl kf Tryz.underlying66 rfl (by kernel_rfl)) rfl ?_
    exact ⟨_, _, _, _, ⟨⟨r.name, z, 0, 0, [], [], []⟩, 254, true⟩, rfl, ⟨DF.name, ownT_nil _, text_nil _, ownI_nil _⟩, XF.cur, XF.grown⟩
  ·cases pre
   ·-- the record
    obtain ⟨d0, d1, d2, d3, d4, d5, d6⟩ := UJ (UB KR)
    obtain ⟨f0, f1, f2, f3, f4, f5, f6⟩ := VI (UB KR)
    obtain ⟨p0, p1, p2, p3, p4, p5, p6, p7, p8⟩ := cells9 (UB KB)
    obtain ⟨q0, q1, q2, q3, q4, q5, q6, q7, q8⟩ := frozen9 (UB KB)
    go_wp2_with fail
    clear d0 d1 d2 d3 d4 d5 d6 f0 f1 f2 f3 f4 f5 f6 p0 p1 p2 p3 p4 p5 p6 p7 p8 q0 q1 q2 q3 q4 q5 q6 q7 q8
    generalize W3 = WX at *
    have gf := grown_set9 WX w.heap.size (c0 := .slice n1 r.name.length n2) (c1 := .int .i64 r.type) (c2 := .int .i64 r.ttl) (c3 := .int .i64 r.addr) (c4 := .slice t1 r.to.length t2) (c5 := .slice x1 r.text.length x2) (c6 := .slice i1 r.nums.length i2) (c7 := .int .i64 1) (c8 := .bool false)
    have kf := (set9_is (c0 := .slice n1 r.name.length n2) (c1 := .int .i64 r.type) (c2 := .int .i64 r.ttl) (c3 := .int .i64 r.addr) (c4 := .slice t1 r.to.length t2) (c5 := .slice x1 r.text.length x2) (c6 := .slice i1 r.nums.length i2) (c7 := .int .i64 1) (c8 := .bool false) (UB KB)).1
    have DF := (UB DD).off (UB KB) (by decide) (by decide) (by decide) gf
    have XF := (UB X).row gf (fun j e => by cases e; exact Nat.le_refl _)
    unfold set9 at gf kf DF XF
    refine bodyPost_ret (results_cell_row rfl _ _ w.heap.size 66 #[.slice n1 r.name.length n2, .int .i64 r.type, .int .i64 r.ttl, .int .i64 r.addr, .slice t1 r.to.length t2, .slice x1 r.text.length x2, .slice i1 r.nums.length i2, .int .i64 1, .bool false] (0, 0) _ rfl kf Tryz.underlying66 rfl (by kernel_rfl)) rfl ?_
    exact ⟨_, _, _, _, ⟨⟨r.name, r.type, r.ttl, r.addr, r.to, r.text, r.nums⟩, 1, false⟩, rfl, ⟨DF.name, DF.to, DF.text, DF.nums⟩, XF.cur, XF.grown⟩
   ·-- the record, its time 0
    obtain ⟨d0, d1, d2, d3, d4, d5, d6⟩ := UJ (UB KR)
    obtain ⟨f0, f1, f2, f3, f4, f5, f6⟩ := VI (UB KR)
    obtain ⟨p0, p1, p2, p3, p4, p5, p6, p7, p8⟩ := cells9 (UB KB)
    obtain ⟨q0, q1, q2, q3, q4, q5, q6, q7, q8⟩ := frozen9 (UB KB)
    go_wp2_with fail
    clear d0 d1 d2 d3 d4 d5 d6 f0 f1 f2 f3 f4 f5 f6 p0 p1 p2 p3 p4 p5 p6 p7 p8 q0 q1 q2 q3 q4 q5 q6 q7 q8
    have gs := grown_setCell W3 ⟨w1.heap.size, 2, none⟩ (.int .i64 0)
    have KX := UC (block_grown gs (UB KB) (by simp; omega))
    have DX := UC ((UB DD).off (UB KR) (by decide) (by decide) (by decide) gs)
    have XX := UC ((UB X).row gs (fun j e => by cases e; show w.heap.size ≤ w1.heap.size; omega))
    clear gs KB DD X KR
    have KB := KX
    have DD := DX
    have X := XX
    clear KX DX XX
    generalize W3.setCell ⟨w1.heap.size, 2, none⟩ (.int .i64 0) = WX at *
    have gf := grown_set9 WX w.heap.size (c0 := .slice n1 r.name.length n2) (c1 := .int .i64 r.type) (c2 := .int .i64 0) (c3 := .int .i64 r.addr) (c4 := .slice t1 r.to.length t2) (c5 := .slice x1 r.text.length x2) (c6 := .slice i1 r.nums.length i2) (c7 := .int .i64 1) (c8 := .bool false)
    have kf := (set9_is (c0 := .slice n1 r.name.length n2) (c1 := .int .i64 r.type) (c2 := .int .i64 0) (c3 := .int .i64 r.addr) (c4 := .slice t1 r.to.length t2) (c5 := .slice x1 r.text.length x2) (c6 := .slice i1 r.nums.length i2) (c7 := .int .i64 1) (c8 := .bool false) (UB KB)).1
    have DF := (UB DD).off (UB KB) (by decide) (by decide) (by decide) gf
    have XF := (UB X).row gf (fun j e => by cases e; exact Nat.le_refl _)
    unfold set9 at gf kf DF XF
    refine bodyPost_ret (results_cell_row rfl _ _ w.heap.size 66 #[.slice n1 r.name.length n2, .int .i64 r.type, .int .i64 0, .int .i64 r.addr, .slice t1 r.to.length t2, .slice x1 r.text.length x2, .slice i1 r.nums.length i2, .int .i64 1, .bool false] (0, 0) _ rfl kf Tryz.underlying66 rfl (by kernel_rfl)) rfl ?_
    exact ⟨_, _, _, _, ⟨⟨r.name, r.type, 0, r.addr, r.to, r.text, r.nums⟩, 1, false⟩, rfl, ⟨DF.name, DF.to, DF.text, DF.nums⟩, XF.cur, XF.grown⟩
end Go.Proofs.YtbabmdiklefgcaaGreatDoor
