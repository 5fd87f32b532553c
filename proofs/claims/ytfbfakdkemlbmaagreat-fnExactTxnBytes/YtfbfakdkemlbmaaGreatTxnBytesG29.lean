/-
  A region that draws its order, taken in an order that is given; each load has a condition of its own, which only those must keep that might come ahead of it. Contracts of the deeds' write. Plain facts: an append of bytes as one operation.
-/
import Derived.Test.YtfbfakdkemlbmaaGreatTxnBytesG28
import Derived.Test.YtfbfakdkemlbmaaGreatTxnBytesG25
import Derived.Test.YtfbfakdkemlbmaaGreatTxnBytesG20
import Derived.Test.YtfbfakdkemlbmaaGreatTxnBytesG01
import Derived.Test.YtfbfakdkemlbmaaGreatTxnBytesG03
namespace Go.Proofs.YtfbfakdkemlbmaaGreat
open Go.RowKit
set_option linter.unusedVariables false

/-- Does number j come behind number i, whatever the order? (looked for f steps far) -/
def lateC (md : Region.Mode) (ops : Array Oper) (i : Nat) : Nat → Nat → Bool
 | 0, _ => false
 | f + 1, j => match ops[j]? with
  | some oj => oj.after.any (fun e => Region.binds md e && (Nat.beq e.on i || lateC md ops i f e.on))
  | none => false
/-- Whatever is listed, what it waits for is listed, too. -/
def ShutC (md : Region.Mode) (ops : Array Oper) (listed : Array Bool) : Prop := ∀ j oj, ops[j]? = some oj → listed.getD j true = true → ∀ e ∈ oj.after, Region.binds md e = true → listed.getD e.on false = true
section
variable {P : Program} {ops : Array Oper} {ord : List Nat} {Q : Exit → Act → World → Prop} {md : Region.Mode} {cs : List (Nat × (World → Prop))} {f : Nat}
theorem late_no {listed : Array Bool} (hs : ShutC md ops listed) {i : Nat} (hi : listed.getD i true = false) : ∀ (f : Nat) (j : Nat) (oj : Oper), ops[j]? = some oj → (∀ e ∈ oj.after, Region.binds md e = true → listed.getD e.on false = true) → lateC md ops i f j = false
 | 0, j, oj, hj, hall => rfl
 | f + 1, j, oj, hj, hall => by
  unfold lateC
  rw [hj]
  simp only [Array.any_eq_false']
  intro e he q
  simp only [Bool.and_eq_true, Bool.or_eq_true] at q
  have h1 := hall e he q.1
  rcases q.2 with q2 | q2
  ·rw [Nat.eq_of_beq_eq_true q2] at h1
   by_cases hlt : i < listed.size <;> simp [hlt] at hi h1
   rw [hi] at h1
   cases h1
  ·cases ho : ops[e.on]? with
   | none =>
    cases f with
    | zero => cases q2
    | succ f => unfold lateC at q2; rw [ho] at q2; cases q2
   | some oe =>
    have h2 : listed.getD e.on true = true := by
     by_cases hlt : e.on < listed.size <;> simp [hlt] at h1 ⊢
     exact h1
    have := late_no hs hi f e.on oe ho (fun e' he' hb' => hs e.on oe ho h2 e' he' hb')
    rw [this] at q2
    cases q2
theorem ShutC.next {listed : Array Bool} (hs : ShutC md ops listed) {j : Nat} (hj : j ∈ Region.ready md ops listed) : ShutC md ops (listed.setIfInBounds j true) := by
 obtain ⟨hun, oj, hoj, hall⟩ := mem_ready.1 hj
 have up : ∀ k, listed.getD k false = true → (listed.setIfInBounds j true).getD k false = true := fun k hk => by
  by_cases e : j = k
  ·subst e
   by_cases hlt : j < listed.size <;> simp [hlt] at hk ⊢
  ·rw [getD_set_ne false e]; exact hk
 intro k ok hok hk e he hb
 by_cases q : j = k
 ·subst q
  rw [hoj] at hok
  cases hok
  exact up _ (hall e he hb)
 ·rw [getD_set_ne true q] at hk
  exact up _ (hs k ok hok hk e he hb)
/-- Behind number j what must be kept is kept. -/
def KeepC (md : Region.Mode) (ops : Array Oper) (f : Nat) (cs : List (Nat × (World → Prop))) (j : Nat) (w w' : World) : Prop := ∀ p ∈ cs, lateC md ops p.1 f j = false → p.2 w → p.2 w'
def wpAnyC (P : Program) (md : Region.Mode) (ops : Array Oper) (Q : Exit → Act → World → Prop) (f : Nat) (cs : List (Nat × (World → Prop))) : Nat → Array Bool → Act → World → Prop
 | 0, listed, a, w => Region.ready md ops listed = [] ∧ Q .normal a w
 | n + 1, listed, a, w => (Region.ready md ops listed = [] → Q .normal a w) ∧
  ∀ j ∈ Region.ready md ops listed, wpOp P ops Q j (fun a' w' => KeepC md ops f cs j w w' ∧ wpAnyC P md ops Q f cs n (listed.setIfInBounds j true) a' w') a w
theorem wpAny_of_kept : ∀ (n : Nat) (listed : Array Bool) (a : Act) (w : World), wpAnyC P md ops Q f cs n listed a w → wpAny P md ops Q n listed a w
 | 0, _, _, _, h => h
 | n + 1, _, _, _, h => ⟨h.1, fun i hi => wpOp_mono (fun a' w' h' => wpAny_of_kept n _ a' w' h'.2) (h.2 i hi)⟩
theorem wpAnyC_first {i : Nat} {oi : Oper} {v : Value} {C : World → Prop} (hi : ops[i]? = some oi) (hsel : ∀ (j : Nat) (o : Oper) cs b, ops[j]? = some o → o.op ≠ .select cs b)
  (hQ : ∀ c a w, Q (.panic c) (a.put oi.dst v) w → Q (.panic c) a w) (hC : ∀ j w w', lateC md ops i f j = false → KeepC md ops f cs j w w' → C w → C w') :
  ∀ (n : Nat) (listed : Array Bool) (a : Act) (w : World),
   (∀ j oj, ops[j]? = some oj → j ≠ i → listed.getD j true = false → (∀ e ∈ oj.after, Region.binds md e = true → e.on ≠ i) → oi.apart ops oj = true) →
   ShutC md ops listed → i ∈ Region.ready md ops listed → YieldsIf P ops C oi v a → C w →
   wpAnyC P md ops Q f cs n (listed.setIfInBounds i true) (a.put oi.dst v) w → wpAnyC P md ops Q f cs (n + 1) listed a w := by
 have hself : ∀ j w, KeepC md ops f cs j w w := fun j w p _ _ h => h
 intro n
 induction n with
 | zero =>
  intro listed a w _ _ hr hy hS H
  refine ⟨fun h => (by rw [h] at hr; cases hr), fun j hj => ?_⟩
  by_cases hji : j = i
  ·subst hji; exact hy.wpOp hi hS ⟨hself _ _, H⟩
  ·have := ready_mono hj hji
   rw [H.1] at this
   cases this
 | succ n ih =>
  intro listed a w hfree hshut hr hy hS H
  refine ⟨fun h => (by rw [h] at hr; cases hr), fun j hj => ?_⟩
  by_cases hji : j = i
  ·subst hji; exact hy.wpOp hi hS ⟨hself _ _, H⟩
  ·have h1 := H.2 j (ready_mono hj hji)
   obtain ⟨hjun, oj, hoj, hall⟩ := mem_ready.1 hj
   have hnot : ∀ e ∈ oj.after, Region.binds md e = true → e.on ≠ i := fun e he hb heq => by
    have h1 := hall e he hb
    have h0 := (mem_ready.1 hr).1
    rw [heq] at h1
    rcases Nat.lt_or_ge i listed.size with h' | h'
    ·simp [h'] at h0 h1; rw [h0] at h1; cases h1
    ·simp [Array.getElem?_eq_none h'] at h1
   have hlate : lateC md ops i f j = false := late_no hshut (mem_ready.1 hr).1 f j oj hoj hall
   have h2 := wpOp_putIf hoj (hfree j oj hoj hji hjun hnot) (fun cs b => hsel i oi cs b hi) (fun cs b => hsel j oj cs b hoj) hQ hy h1
   have hfree' : ∀ k ok, ops[k]? = some ok → k ≠ i → (listed.setIfInBounds j true).getD k true = false →
     (∀ e ∈ ok.after, Region.binds md e = true → e.on ≠ i) → oi.apart ops ok = true := fun k ok hk hki hun hno => by
    refine hfree k ok hk hki ?_ hno
    by_cases hjk : j = k
    ·subst hjk; exact hjun
    ·rw [getD_set_ne true hjk] at hun; exact hun
   refine wpOp_mono (fun a' w' h3 => ⟨h3.2.1, ih (listed.setIfInBounds j true) a' w' hfree' (hshut.next hj) (ready_mono hr (Ne.symm hji)) h3.1 (hC j w w' hlate h3.2.1 hS) ?_⟩) h2
   rw [Array.setIfInBounds_comm _ _ hji]
   exact h3.2.2
theorem wpAnyC_done {n : Nat} {listed : Array Bool} {a : Act} {w : World} (hr : Region.ready md ops listed = []) (h : Q .normal a w) : wpAnyC P md ops Q f cs n listed a w := by
 cases n with
 | zero => exact ⟨hr, h⟩
 | succ n => exact ⟨fun _ => h, by rw [hr]; simp⟩
theorem OrdO.shut (h : OrdO md ops ord) (i : Nat) : ShutC md ops (upO ord i ops.size) := by
 intro j oj hoj hj e he hb
 rw [upO_get (some_lt hoj), List.contains_iff_mem] at hj
 obtain ⟨q, hq, hqj⟩ := List.getElem_of_mem hj
 have hqi : q < i := by rw [List.length_take] at hq; omega
 have hql : q < ord.length := by rw [List.length_take] at hq; omega
 have hd : ord.drop q = j :: ord.drop (q + 1) := by
  rw [List.drop_eq_getElem_cons hql]
  congr 1
  rw [List.getElem_take] at hqj
  exact hqj
 have h1 := (h.at_ hd hoj).1 e he hb
 have h2 : e.on ∈ ord.take i := List.mem_of_mem_take (i := q) (by rw [List.take_take, Nat.min_eq_left (by omega)]; exact h1)
 rw [upO_get (h.in_size _ h2)]
 exact List.contains_iff_mem.2 h2
/-- The first i of the order have come up. -/
def wpC (P : Program) (md : Region.Mode) (ops : Array Oper) (ord : List Nat) (Q : Exit → Act → World → Prop) (f : Nat) (cs : List (Nat × (World → Prop))) (i : Nat) (a : Act) (w : World) : Prop := wpAnyC P md ops Q f cs (ops.size - i) (upO ord i ops.size) a w
theorem startC {id : Nat} {a : Act} {w : World} (ord : List Nat) (hm : P.follows .mixedOrders = true) (hA : OrdO .any ops ord) (f : Nat) (cs : List (Nat × (World → Prop)))
  (h : OrdO .any ops ord → wpC P .any ops ord Q f cs 0 a w.drew) : (Code.region id ops true).wp P Q a w := by
 refine wp_region_any hm ?_
 have := h hA
 unfold wpC at this
 rw [Nat.sub_zero, ← upO_zero] at this
 exact wpAny_of_kept _ _ _ _ this
/-- A load (or what looks): C is what it wants of the world, all but those that come behind it keep that. -/
theorem takeC (v : Value) {C : World → Prop} {i k : Nat} {oi : Oper} {rest : List Nat} {a : Act} {w : World} (hA : OrdO md ops ord) (hi : ord.drop i = k :: rest) (hk : ops[k]? = some oi) (hc : callsA oi.op = false)
  (hb : Region.wanted oi (yielded ops a.tmps) = true) (hQ : ∀ c a w, Q (.panic c) (a.put oi.dst v) w → Q (.panic c) a w)
  (hm : (k, C) ∈ cs) (hS : C w) (hy : ∀ w, C w → (execOp a.eval oi).run P w = .ok (.value v) w) (h : wpC P md ops ord Q f cs (i + 1) (a.put oi.dst v) w) : wpC P md ops ord Q f cs i a w := by
 have hin := hA.lt hi
 unfold wpC at *
 obtain ⟨n, hf⟩ : ∃ n, ops.size - i = n + 1 := ⟨ops.size - (i + 1), by omega⟩
 rw [show ops.size - (i + 1) = n by omega, ← upO_set hi (some_lt hk)] at h
 rw [hf]
 exact wpAnyC_first (C := C) hk (Region.noSelect_spec hA.sel) hQ (fun j w w' hl hK hw => hK _ hm hl hw) n _ a w (Region.free_spec hk (hA.free hi hk)) (hA.shut i) (by simpa using hA.ready hi hk) (Or.inl ⟨hb, hy⟩) hS h
theorem lookC (v : Value) {i k : Nat} {oi : Oper} {rest : List Nat} {a : Act} {w : World} (hA : OrdO md ops ord) (hi : ord.drop i = k :: rest) (hk : ops[k]? = some oi) (hc : callsA oi.op = false)
  (hb : Region.wanted oi (yielded ops a.tmps) = true) (hQ : ∀ c a w, Q (.panic c) (a.put oi.dst v) w → Q (.panic c) a w)
  (hy : ∀ w, (execOp a.eval oi).run P w = .ok (.value v) w) (h : wpC P md ops ord Q f cs (i + 1) (a.put oi.dst v) w) : wpC P md ops ord Q f cs i a w := by
 have hin := hA.lt hi
 unfold wpC at *
 obtain ⟨n, hf⟩ : ∃ n, ops.size - i = n + 1 := ⟨ops.size - (i + 1), by omega⟩
 rw [show ops.size - (i + 1) = n by omega, ← upO_set hi (some_lt hk)] at h
 rw [hf]
 exact wpAnyC_first (C := fun _ => True) hk (Region.noSelect_spec hA.sel) hQ (fun _ _ _ _ _ _ => trivial) n _ a w (Region.free_spec hk (hA.free hi hk)) (hA.shut i) (by simpa using hA.ready hi hk) (Or.inl ⟨hb, fun w _ => hy w⟩) trivial h
theorem skipC {i k : Nat} {oi : Oper} {rest : List Nat} {a : Act} {w : World} (hA : OrdO md ops ord) (hi : ord.drop i = k :: rest) (hk : ops[k]? = some oi)
  (hb : Region.wanted oi (yielded ops a.tmps) = false) (hQ : ∀ c a w, Q (.panic c) (a.put oi.dst undef) w → Q (.panic c) a w)
  (h : wpC P md ops ord Q f cs (i + 1) (a.put oi.dst undef) w) : wpC P md ops ord Q f cs i a w := by
 have hin := hA.lt hi
 unfold wpC at *
 obtain ⟨n, hf⟩ : ∃ n, ops.size - i = n + 1 := ⟨ops.size - (i + 1), by omega⟩
 rw [show ops.size - (i + 1) = n by omega, ← upO_set hi (some_lt hk)] at h
 rw [hf]
 exact wpAnyC_first (C := fun _ => True) hk (Region.noSelect_spec hA.sel) hQ (fun _ _ _ _ _ _ => trivial) n _ a w (Region.free_spec hk (hA.free hi hk)) (hA.shut i) (by simpa using hA.ready hi hk) (Or.inr ⟨hb, rfl⟩) trivial h
theorem runC {i k : Nat} {oi : Oper} {rest : List Nat} {a : Act} {w : World} (hA : OrdO md ops ord) (hi : ord.drop i = k :: rest) (hk : ops[k]? = some oi) (hs : soleO md ops (ord.take i) rest = true)
  (hb : Region.wanted oi (yielded ops a.tmps) = true)
  (h : ∀ K' : Act → World → Prop, Shut (∀ a' w', KeepC md ops f cs k w w' → wpC P md ops ord Q f cs (i + 1) a' w' → K' a' w') → Oper.wp P oi a w K' Q) : wpC P md ops ord Q f cs i a w := by
 have hin := hA.lt hi
 unfold wpC at *
 obtain ⟨n, hf⟩ : ∃ n, ops.size - i = n + 1 := ⟨ops.size - (i + 1), by omega⟩
 rw [show ops.size - (i + 1) = n by omega, ← upO_set hi (some_lt hk)] at h
 rw [hf]
 have hr := hA.sole hi hk hs
 refine ⟨fun h0 => absurd (hr ▸ h0) (by simp), fun j hj => ?_⟩
 rw [hr] at hj
 simp only [List.mem_cons, List.not_mem_nil, or_false] at hj
 subst hj
 refine wpOp_step hk (fun K' hK => ?_)
 rw [if_pos hb]
 exact h K' (fun a' w' h1 h2 => hK a' w' ⟨h1, h2⟩)
theorem doneC {i : Nat} {a : Act} {w : World} (hA : OrdO md ops ord) (hn : ord.drop i = []) (h : Q .normal a w) : wpC P md ops ord Q f cs i a w := by
 have hl : ord.take i = ord := by
  have := List.take_append_drop i ord
  rwa [hn, List.append_nil] at this
 refine wpAnyC_done ?_ h
 have h1 := hA.all
 rw [List.all_eq_true] at h1
 unfold Region.ready
 rw [List.filter_eq_nil_iff]
 intro j hj
 rw [upO_get (List.mem_range.1 hj), hl, List.contains_iff_mem.2 (memN_iff.1 (h1 j hj))]
 simp
theorem keepC_nil {k : Nat} {w w' : World} : KeepC md ops f [] k w w' := fun p hp => by cases hp
theorem keepC_yes {k : Nat} {w w' : World} {p : Nat × (World → Prop)} (h : p.2 w') (hs : KeepC md ops f cs k w w') : KeepC md ops f (p :: cs) k w w' := fun q hq hl hw => by
 rcases List.mem_cons.1 hq with e | hq
 ·subst e; exact h
 ·exact hs q hq hl hw
theorem keepC_late {k : Nat} {w w' : World} {p : Nat × (World → Prop)} (h : lateC md ops p.1 f k = true) (hs : KeepC md ops f cs k w w') : KeepC md ops f (p :: cs) k w w' := fun q hq hl hw => by
 rcases List.mem_cons.1 hq with e | hq
 ·subst e; rw [h] at hl; cases hl
 ·exact hs q hq hl hw
end
end Go.Proofs.YtfbfakdkemlbmaaGreat

namespace Go.Proofs.YtfbfakdkemlbmaaGreat
open Go.RowKit
set_option linter.unusedVariables false

set_option maxHeartbeats 1000000 in
set_option maxRecDepth 100000 in
theorem write0_has {vq va vb vm vp vu vc vh : Value} {t : Tx} {w : World} (h : HasTx w vq va vb vm vp vu vc vh t) (hok : okM t.msg = true) :
  Calls Tryz.prog 100 #[.agg #[.int .i64 t.msg.id, .bool t.msg.reply, .int .i64 t.msg.op, .bool t.msg.auth, .int .i64 t.msg.code, vq, va, vb, vm, vp, vu]] w fun e w' => ∃ v', e = .returned v' ∧ Own w.heap.size 5 w' v' (bytesM t.msg) ∧ Below w.heap.size w w' := by
 obtain ⟨xq, yq, rfl, _, zq⟩ := h.msg.qs.form
 obtain ⟨xa, ya, rfl, _, za⟩ := h.msg.ans.form
 obtain ⟨xb, yb, rfl, _, zb⟩ := h.msg.aus.form
 obtain ⟨xm, ym, rfl, _, zm⟩ := h.msg.more.form
 obtain ⟨xp, yp, rfl, _, zp⟩ := h.msg.pres.form
 obtain ⟨xu, yu, rfl, _, zu⟩ := h.msg.ups.form
 have hcb := h.client.bound
 have hhb := h.host.bound
 obtain ⟨xc, yc, rfl, _⟩ := h.client.form
 obtain ⟨xh, yh, rfl, _⟩ := h.host.form
 have b0 := below_alloc (w := w) (.cells #[.int .i64 t.msg.id, .bool t.msg.reply, .int .i64 t.msg.op, .bool t.msg.auth, .int .i64 t.msg.code, .slice xq t.msg.qs.length yq, .slice xa t.msg.ans.length ya, .slice xb t.msg.aus.length yb, .slice xm t.msg.more.length ym, .slice xp t.msg.pres.length yp, .slice xu t.msg.ups.length yu] 72)
 have KK := hide (heap_alloc_new w (.cells #[.int .i64 t.msg.id, .bool t.msg.reply, .int .i64 t.msg.op, .bool t.msg.auth, .int .i64 t.msg.code, .slice xq t.msg.qs.length yq, .slice xa t.msg.ans.length ya, .slice xb t.msg.aus.length yb, .slice xm t.msg.more.length ym, .slice xp t.msg.pres.length yp, .slice xu t.msg.ups.length yu] 72))
 have hp : msgPut t.msg = (bytesM t.msg, true) := by unfold msgPut; rw [if_pos hok]
 have CM := implMsgBytes_has (h.below b0).msg
 rw [hp] at CM
 replace CM := hide CM
 generalize bytesM t.msg = BM at *
 clear h hp hok
 obtain ⟨d0, d1, d2, d3, d4, d5, d6, d7, d8, d9, d10⟩ := cells11 (unhide KK)
 go_enter Tryz.func100, Tryz.ntmps100
 go_wp2_with fail
 refine (unhide CM).mono ?_
 rintro e w1 ⟨v1, rfl, o1, b1⟩
 have bb := below_next b0 b1
 have z0 := b0.size
 go_wp2_with fail
 go_ret
 exact ⟨_, rfl, o1.mono z0, bb⟩

set_option maxHeartbeats 1000000 in
set_option maxRecDepth 100000 in
theorem write3_any {t : Tx} {w : World} :
  Calls Tryz.prog 153 #[.agg #[.int .i64 t.when]] w fun e w' => ∃ v', e = .returned v' ∧ Own w.heap.size 5 w' v' (put32 [] t.when) ∧ Below w.heap.size w w' := by
 have b0 := below_alloc (w := w) (.cells #[.int .i64 t.when] 78)
 have KB := hide (heap_alloc_new w (.cells #[.int .i64 t.when] 78))
 have P1 := fun (w : World) => implPut32_any t.when (show Own 0 5 w (.slice none 0 0) [] from World.ownsRow_nil _ _ _ _) (by simp)
 replace P1 := hide P1
 generalize put32 [] t.when = L1 at *
 have d0 := cells1 (unhide KB)
 go_enter Tryz.func153, Tryz.ntmps153
 go_wp2_with fail
 refine (unhide P1 _).mono ?_
 rintro e w1 ⟨v1, rfl, o1, b1⟩
 have bb := below_next b0 b1
 have z0 := b0.size
 go_wp2_with fail
 go_ret
 exact ⟨_, rfl, o1.mono z0, bb⟩

set_option maxHeartbeats 1000000 in
set_option maxRecDepth 100000 in
theorem write1_has {xc : Option Addr} {yc : Nat} {xh : Option Addr} {yh : Nat} {t : Tx} {w : World} (hc : Has w (.slice xc t.client.length yc) t.client) (hh : Has w (.slice xh t.host.length yh) t.host) (hcl : t.client.length ≤ 255) (hhl : t.host.length ≤ 255) :
  Calls Tryz.prog 141 #[.agg #[.int .i64 t.ip, .slice xc t.client.length yc, .slice xh t.host.length yh, .int .i64 t.when]] w fun e w' => ∃ v', e = .returned v' ∧ Own w.heap.size 5 w' v' (put32 ((put32 [] t.ip ++ ((t.client.length : Int) :: t.client)) ++ ((t.host.length : Int) :: t.host)) t.when) ∧ Below w.heap.size w w' := by
 have b0 := below_alloc (w := w) (.cells #[.int .i64 t.ip, .slice xc t.client.length yc, .slice xh t.host.length yh, .int .i64 t.when] 74)
 have KB := hide (heap_alloc_new w (.cells #[.int .i64 t.ip, .slice xc t.client.length yc, .slice xh t.host.length yh, .int .i64 t.when] 74))
 have HC := hide (hc.below b0)
 have HH := hide (hh.below b0)
 have P1 := fun (w : World) => implPut32_any t.ip (show Own 0 5 w (.slice none 0 0) [] from World.ownsRow_nil _ _ _ _) (by simp)
 have e1 := put32_length [] t.ip
 simp only [List.length_nil] at e1
 have P2 := fun (w : World) (B : Nat) (v : Value) (ho : Own B 5 w v (put32 [] t.ip)) (hu : HasAt B w (.slice xc t.client.length yc) t.client) (hB : B ≤ w.heap.size) => appendCounted_own ho hu (by omega) hcl hB
 have e2 : (put32 [] t.ip ++ ((t.client.length : Int) :: t.client)).length ≤ 300 := by simp only [List.length_append, List.length_cons]; omega
 have P3 := fun (w : World) (B : Nat) (v : Value) (ho : Own B 5 w v (put32 [] t.ip ++ ((t.client.length : Int) :: t.client))) (hu : HasAt B w (.slice xh t.host.length yh) t.host) (hB : B ≤ w.heap.size) => appendCounted_own ho hu (by omega) hhl hB
 have e3 : ((put32 [] t.ip ++ ((t.client.length : Int) :: t.client)) ++ ((t.host.length : Int) :: t.host)).length ≤ 1048576 := by simp only [List.length_append, List.length_cons] at e2 ⊢; omega
 have P4 := fun (w : World) (B : Nat) (v : Value) (ho : Own B 5 w v ((put32 [] t.ip ++ ((t.client.length : Int) :: t.client)) ++ ((t.host.length : Int) :: t.host))) => implPut32_any t.when ho e3
 generalize put32 ((put32 [] t.ip ++ ((t.client.length : Int) :: t.client)) ++ ((t.host.length : Int) :: t.host)) t.when = L4 at *
 generalize (put32 [] t.ip ++ ((t.client.length : Int) :: t.client)) ++ ((t.host.length : Int) :: t.host) = L3 at *
 generalize put32 [] t.ip ++ ((t.client.length : Int) :: t.client) = L2 at *
 generalize put32 [] t.ip = L1 at *
 replace P1 := hide P1
 replace P2 := hide P2
 replace P3 := hide P3
 replace P4 := hide P4
 clear hc hcl e1 hh hhl e2 e3
 have zb := b0.size
 go_enter Tryz.func141, Tryz.ntmps141
 go_wp2_with fail
 generalize w.alloc (.cells #[.int .i64 t.ip, .slice xc t.client.length yc, .slice xh t.host.length yh, .int .i64 t.when] 74) = W at *
 have bd := below_drew (w := W)
 have bb := below_next b0 bd
 have zd := bd.size
 replace KB := hide (block_kept bd (unhide KB))
 replace HC := hide ((unhide HC).below bd)
 replace HH := hide ((unhide HH).below bd)
 clear bd b0
 have HA := hide (unhide HC).at
 have zk := block_lt (unhide KB)
 have HB := hide (unhide HH).at
 refine startC [0, 1, 3, 4, 2, 5, 6] (by kernel_rfl) ⟨by kernel_rfl, by kernel_rfl, by kernel_rfl, by kernel_rfl⟩ 4 [(1, fun w' => (fun w' => w'.cell? ⟨w.heap.size, 0, none⟩ = some (.int .i64 t.ip)) w'), (4, fun w' => (fun w' => w'.cell? ⟨w.heap.size, 1, none⟩ = some (.slice xc t.client.length yc)) w')] (fun hA => ?_)
 replace hA := hide hA
 generalize hWD : W.drew = WD at *
 clear hWD
 repeat ((first | (refine lookC ?_ (unhide hA) rfl rfl rfl (by rfl) (fun _ _ _ h => h) ?_ ?_; rotate_left; · (intro w; go_simp <;> with_reducible rfl)) | refine skipC (unhide hA) rfl rfl (by rfl) (fun _ _ _ h => h) ?_); go_simp)
 refine takeC ?_ (unhide hA) rfl rfl rfl (by rfl) (fun _ _ _ h => h) (.head _) (cells4 (unhide KB)).1 ?_ ?_; rotate_left; (· (intro w hSw; (try dsimp only at hSw); go_simp <;> with_reducible rfl)); go_simp
 repeat ((first | (refine lookC ?_ (unhide hA) rfl rfl rfl (by rfl) (fun _ _ _ h => h) ?_ ?_; rotate_left; · (intro w; go_simp <;> with_reducible rfl)) | refine skipC (unhide hA) rfl rfl (by rfl) (fun _ _ _ h => h) ?_); go_simp)
 refine takeC ?_ (unhide hA) rfl rfl rfl (by rfl) (fun _ _ _ h => h) (.tail _ (.head _)) (cells4 (unhide KB)).2.1 ?_ ?_; rotate_left; (· (intro w hSw; (try dsimp only at hSw); go_simp <;> with_reducible rfl)); go_simp
 refine runC (unhide hA) rfl rfl (by kernel_rfl) (by kernel_rfl) (fun K hK => ?_)
 have HK := hide hK
 clear hK
 go_simp
 refine (unhide P1 _).mono ?_
 rintro e w3 ⟨v3, rfl, o3, b3⟩
 have KB3 := hide (block_kept b3 (unhide KB))
 have HA3 := hide ((unhide HA).below b3)
 have HB3 := hide ((unhide HB).below b3)
 have bb3 := below_next bb b3
 have z3 := b3.size
 clear b3
 refine (unhide HK).out _ _ (keepC_late (by kernel_rfl) (keepC_yes (cells4 (unhide KB3)).2.1 keepC_nil)) ?_
 clear HK K
 go_simp
 repeat ((first | (refine lookC ?_ (unhide hA) rfl rfl rfl (by rfl) (fun _ _ _ h => h) ?_ ?_; rotate_left; · (intro w; go_simp <;> with_reducible rfl)) | refine skipC (unhide hA) rfl rfl (by rfl) (fun _ _ _ h => h) ?_); go_simp)
 refine runC (unhide hA) rfl rfl (by kernel_rfl) (by kernel_rfl) (fun K hK => ?_)
 have HK := hide hK
 clear hK
 go_simp
 refine (unhide P2 _ WD.heap.size _ o3 (unhide HA3) z3).mono ?_
 rintro e w4 ⟨v4, rfl, o4, b4⟩
 have KB4 := hide ((b4.block w.heap.size (by omega)).trans (unhide KB3))
 have HB4 := hide ((unhide HB3).low b4 (Nat.le_refl _))
 have bb4 : Below w.heap.size w w4 := bb3.trans (b4.mono (by omega))
 have z4 := b4.size
 clear b4
 refine (unhide HK).out _ _ (keepC_late (by kernel_rfl) (keepC_late (by kernel_rfl) keepC_nil)) ?_
 clear HK K
 go_simp
 repeat ((first | (refine lookC ?_ (unhide hA) rfl rfl rfl (by rfl) (fun _ _ _ h => h) ?_ ?_; rotate_left; · (intro w; go_simp <;> with_reducible rfl)) | refine skipC (unhide hA) rfl rfl (by rfl) (fun _ _ _ h => h) ?_); go_simp)
 refine doneC (unhide hA) rfl ?_
 clear hA
 clear KB KB3 HA HA3 HB HB3 P1 P2 bb bb3 o3 HC HH
 go_wp2_with fail
 have bd := below_drew (w := w4)
 have KB5 := hide (block_kept bd (unhide KB4))
 have HB5 := hide ((unhide HB4).below bd)
 have o5 := o4.below bd
 have bb5 := below_next bb4 bd
 have z5 := bd.size
 clear bd KB4 HB4 o4 bb4
 refine startC [0, 1, 2, 4, 5, 3, 6, 7] (by kernel_rfl) ⟨by kernel_rfl, by kernel_rfl, by kernel_rfl, by kernel_rfl⟩ 4 [(2, fun w' => (fun w' => w'.cell? ⟨w.heap.size, 2, none⟩ = some (.slice xh t.host.length yh)) w'), (5, fun w' => (fun w' => w'.cell? ⟨w.heap.size, 3, none⟩ = some (.int .i64 t.when)) w')] (fun hA => ?_)
 replace hA := hide hA
 generalize hWD : w4.drew = WE at *
 clear hWD
 repeat ((first | (refine lookC ?_ (unhide hA) rfl rfl rfl (by rfl) (fun _ _ _ h => h) ?_ ?_; rotate_left; · (intro w; go_simp <;> with_reducible rfl)) | refine skipC (unhide hA) rfl rfl (by rfl) (fun _ _ _ h => h) ?_); go_simp)
 refine takeC ?_ (unhide hA) rfl rfl rfl (by rfl) (fun _ _ _ h => h) (.head _) (cells4 (unhide KB5)).2.2.1 ?_ ?_; rotate_left; (· (intro w hSw; (try dsimp only at hSw); go_simp <;> with_reducible rfl)); go_simp
 repeat ((first | (refine lookC ?_ (unhide hA) rfl rfl rfl (by rfl) (fun _ _ _ h => h) ?_ ?_; rotate_left; · (intro w; go_simp <;> with_reducible rfl)) | refine skipC (unhide hA) rfl rfl (by rfl) (fun _ _ _ h => h) ?_); go_simp)
 refine takeC ?_ (unhide hA) rfl rfl rfl (by rfl) (fun _ _ _ h => h) (.tail _ (.head _)) (cells4 (unhide KB5)).2.2.2 ?_ ?_; rotate_left; (· (intro w hSw; (try dsimp only at hSw); go_simp <;> with_reducible rfl)); go_simp
 refine runC (unhide hA) rfl rfl (by kernel_rfl) (by kernel_rfl) (fun K hK => ?_)
 have HK := hide hK
 clear hK
 go_simp
 refine (unhide P3 _ WD.heap.size _ o5 (unhide HB5) (by omega)).mono ?_
 rintro e w6 ⟨v6, rfl, o6, b6⟩
 have KB6 := hide ((b6.block w.heap.size (by omega)).trans (unhide KB5))
 have bb6 : Below w.heap.size w w6 := bb5.trans (b6.mono (by omega))
 have z6 := b6.size
 clear b6
 refine (unhide HK).out _ _ (keepC_late (by kernel_rfl) (keepC_yes (cells4 (unhide KB6)).2.2.2 keepC_nil)) ?_
 clear HK K
 go_simp
 repeat ((first | (refine lookC ?_ (unhide hA) rfl rfl rfl (by rfl) (fun _ _ _ h => h) ?_ ?_; rotate_left; · (intro w; go_simp <;> with_reducible rfl)) | refine skipC (unhide hA) rfl rfl (by rfl) (fun _ _ _ h => h) ?_); go_simp)
 refine runC (unhide hA) rfl rfl (by kernel_rfl) (by kernel_rfl) (fun K hK => ?_)
 have HK := hide hK
 clear hK
 go_simp
 refine (unhide P4 _ _ _ o6).mono ?_
 rintro e w7 ⟨v7, rfl, o7, b7⟩
 have bb7 := below_next bb6 b7
 have z7 := b7.size
 refine (unhide HK).out _ _ (keepC_late (by kernel_rfl) (keepC_late (by kernel_rfl) keepC_nil)) ?_
 clear HK K
 go_simp
 repeat ((first | (refine lookC ?_ (unhide hA) rfl rfl rfl (by rfl) (fun _ _ _ h => h) ?_ ?_; rotate_left; · (intro w; go_simp <;> with_reducible rfl)) | refine skipC (unhide hA) rfl rfl (by rfl) (fun _ _ _ h => h) ?_); go_simp)
 refine doneC (unhide hA) rfl ?_
 clear hA
 go_wp2_with fail
 go_ret
 exact ⟨_, rfl, o7.mono (by omega), bb7⟩

set_option maxHeartbeats 1000000 in
set_option maxRecDepth 100000 in
theorem write2_has {xc : Option Addr} {yc : Nat} {xh : Option Addr} {yh : Nat} {t : Tx} {w : World} (hc : Has w (.slice xc t.client.length yc) t.client) (hcl : t.client.length ≤ 255) :
  Calls Tryz.prog 148 #[.agg #[.int .i64 t.ip, .slice xc t.client.length yc]] w fun e w' => ∃ v', e = .returned v' ∧ Own w.heap.size 5 w' v' (put32 [] t.ip ++ ((t.client.length : Int) :: t.client)) ∧ Below w.heap.size w w' := by
 have b0 := below_alloc (w := w) (.cells #[.int .i64 t.ip, .slice xc t.client.length yc] 76)
 have KB := hide (heap_alloc_new w (.cells #[.int .i64 t.ip, .slice xc t.client.length yc] 76))
 have HC := hide (hc.below b0)

 have P1 := fun (w : World) => implPut32_any t.ip (show Own 0 5 w (.slice none 0 0) [] from World.ownsRow_nil _ _ _ _) (by simp)
 have e1 := put32_length [] t.ip
 simp only [List.length_nil] at e1
 have P2 := fun (w : World) (B : Nat) (v : Value) (ho : Own B 5 w v (put32 [] t.ip)) (hu : HasAt B w (.slice xc t.client.length yc) t.client) (hB : B ≤ w.heap.size) => appendCounted_own ho hu (by omega) hcl hB
 generalize put32 [] t.ip ++ ((t.client.length : Int) :: t.client) = L2 at *
 generalize put32 [] t.ip = L1 at *
 replace P1 := hide P1
 replace P2 := hide P2
 clear hc hcl e1
 have zb := b0.size
 go_enter Tryz.func148, Tryz.ntmps148
 go_wp2_with fail
 generalize w.alloc (.cells #[.int .i64 t.ip, .slice xc t.client.length yc] 76) = W at *
 have bd := below_drew (w := W)
 have bb := below_next b0 bd
 have zd := bd.size
 replace KB := hide (block_kept bd (unhide KB))
 replace HC := hide ((unhide HC).below bd)
 clear bd b0
 have HA := hide (unhide HC).at
 have zk := block_lt (unhide KB)

 refine startC [0, 1, 3, 4, 2, 5, 6] (by kernel_rfl) ⟨by kernel_rfl, by kernel_rfl, by kernel_rfl, by kernel_rfl⟩ 4 [(1, fun w' => (fun w' => w'.cell? ⟨w.heap.size, 0, none⟩ = some (.int .i64 t.ip)) w'), (4, fun w' => (fun w' => w'.cell? ⟨w.heap.size, 1, none⟩ = some (.slice xc t.client.length yc)) w')] (fun hA => ?_)
 replace hA := hide hA
 generalize hWD : W.drew = WD at *
 clear hWD
 repeat ((first | (refine lookC ?_ (unhide hA) rfl rfl rfl (by rfl) (fun _ _ _ h => h) ?_ ?_; rotate_left; · (intro w; go_simp <;> with_reducible rfl)) | refine skipC (unhide hA) rfl rfl (by rfl) (fun _ _ _ h => h) ?_); go_simp)
 refine takeC ?_ (unhide hA) rfl rfl rfl (by rfl) (fun _ _ _ h => h) (.head _) (cells2T (unhide KB)).1 ?_ ?_; rotate_left; (· (intro w hSw; (try dsimp only at hSw); go_simp <;> with_reducible rfl)); go_simp
 repeat ((first | (refine lookC ?_ (unhide hA) rfl rfl rfl (by rfl) (fun _ _ _ h => h) ?_ ?_; rotate_left; · (intro w; go_simp <;> with_reducible rfl)) | refine skipC (unhide hA) rfl rfl (by rfl) (fun _ _ _ h => h) ?_); go_simp)
 refine takeC ?_ (unhide hA) rfl rfl rfl (by rfl) (fun _ _ _ h => h) (.tail _ (.head _)) (cells2T (unhide KB)).2 ?_ ?_; rotate_left; (· (intro w hSw; (try dsimp only at hSw); go_simp <;> with_reducible rfl)); go_simp
 refine runC (unhide hA) rfl rfl (by kernel_rfl) (by kernel_rfl) (fun K hK => ?_)
 have HK := hide hK
 clear hK
 go_simp
 refine (unhide P1 _).mono ?_
 rintro e w3 ⟨v3, rfl, o3, b3⟩
 have KB3 := hide (block_kept b3 (unhide KB))
 have HA3 := hide ((unhide HA).below b3)
 have bb3 := below_next bb b3
 have z3 := b3.size
 clear b3
 refine (unhide HK).out _ _ (keepC_late (by kernel_rfl) (keepC_yes (cells2T (unhide KB3)).2 keepC_nil)) ?_
 clear HK K
 go_simp
 repeat ((first | (refine lookC ?_ (unhide hA) rfl rfl rfl (by rfl) (fun _ _ _ h => h) ?_ ?_; rotate_left; · (intro w; go_simp <;> with_reducible rfl)) | refine skipC (unhide hA) rfl rfl (by rfl) (fun _ _ _ h => h) ?_); go_simp)
 refine runC (unhide hA) rfl rfl (by kernel_rfl) (by kernel_rfl) (fun K hK => ?_)
 have HK := hide hK
 clear hK
 go_simp
 refine (unhide P2 _ WD.heap.size _ o3 (unhide HA3) z3).mono ?_
 rintro e w4 ⟨v4, rfl, o4, b4⟩
 have KB4 := hide ((b4.block w.heap.size (by omega)).trans (unhide KB3))
 have bb4 : Below w.heap.size w w4 := bb3.trans (b4.mono (by omega))
 have z4 := b4.size
 clear b4
 refine (unhide HK).out _ _ (keepC_late (by kernel_rfl) (keepC_late (by kernel_rfl) keepC_nil)) ?_
 clear HK K
 go_simp
 repeat ((first | (refine lookC ?_ (unhide hA) rfl rfl rfl (by rfl) (fun _ _ _ h => h) ?_ ?_; rotate_left; · (intro w; go_simp <;> with_reducible rfl)) | refine skipC (unhide hA) rfl rfl (by rfl) (fun _ _ _ h => h) ?_); go_simp)
 refine doneC (unhide hA) rfl ?_
 clear hA
 go_wp2_with fail
 go_ret
 exact ⟨_, rfl, o4.mono (by omega), bb4⟩
end Go.Proofs.YtfbfakdkemlbmaaGreat

namespace Go.Proofs.YtfbfakdkemlbmaaGreat
open Go.RowKit
set_option linter.unusedVariables false

/-- 'append(s, x...)' of bytes, one operation by itself. -/
theorem append_wp {P : Program} {w : World} {o : Oper} {a : Act} {K : Act → World → Prop} {Q : Exit → Act → World → Prop} (s x : Operand) (t e : TypeId)
  (ho : o.op = .call { callee := .builtin .append, args := #[s, x], argTypes := #[t, t] }) (ht : P.underlying t = some (.slice e))
  (hinfo : (P.info? e).map (fun i => (i.zero, i.size, i.bytes)) = some (some (.int .u8 0), 1, 1))
  (base : Nat) (v vx : Value) (l m : List Int) (hs : a.eval s = v) (hx : a.eval x = vx) (hown : Own base e w v l) (hr : Reads w vx m) (hlen : l.length + m.length ≤ 1099511627776) (hbase : base ≤ w.heap.size)
  (h : ∀ v' w', Own base e w' v' (l ++ m) → w.grownBy w' v.ownBlock → K (a.put o.dst v') w') : Oper.wp P o a w K Q := by
 obtain ⟨v', w', hr', h2, h3⟩ := run_append_bytes (P := P) t o.type e ht hinfo base v vx l m hown hr hlen hbase
 unfold Oper.wp execOp
 simp only [ho, resolve, invoke, builtin, Sem.run_bind, Sem.run_pure, Result.andThen_ok, List.map_toArray, List.map_cons, List.map_nil, hs, hx, hr']
 exact h v' w' h2 h3
end Go.Proofs.YtfbfakdkemlbmaaGreat
