/-
  A region that draws its order, taken in an order that is given; each load has a condition of its own, which only those must keep that might come ahead of it. A region that draws its order, with operations of effect that don't wait on each other: it is parted where one of two may come next; each part goes on in an order of its own.
-/
import Derived.Test.YtfneahdnpmamkaaGreatFnOwnersG18
namespace Go.Proofs.YtfneahdnpmamkaaGreat
open Go.RowKit
set_option linter.unusedVariables false

def Li (md : Region.Mode) (ops : Array Oper) (i : Nat) : Nat → Nat → Bool
 | 0, _ => false
 | f + 1, j => match ops[j]? with
  | some oj => oj.after.any (fun e => Region.binds md e && (Nat.beq e.on i || Li md ops i f e.on))
  | none => false
def Na (md : Region.Mode) (ops : Array Oper) (listed : Array Bool) : Prop := ∀ j oj, ops[j]? = some oj → listed.getD j true = true → ∀ e ∈ oj.after, Region.binds md e = true → listed.getD e.on false = true
section
variable {P : Program} {ops : Array Oper} {ord : List Nat} {Q : Exit → Act → World → Prop} {md : Region.Mode} {cs : List (Nat × (World → Prop))} {f : Nat}
theorem U8 {listed : Array Bool} (hs : Na md ops listed) {i : Nat} (hi : listed.getD i true = false) : ∀ (f : Nat) (j : Nat) (oj : Oper), ops[j]? = some oj → (∀ e ∈ oj.after, Region.binds md e = true → listed.getD e.on false = true) → Li md ops i f j = false
 | 0, j, oj, hj, hall => rfl
 | f + 1, j, oj, hj, hall => by
  unfold Li
  rw [hj]
  simp only [Array.any_eq_false']
  intro e he q
  simp only [Bool.and_eq_true, Bool.or_eq_true] at q
  have h1 := hall e he q.1
  rcases q.2 with q2 | q2
  ·rw [Nat.eq_of_beq_eq_true q2] at h1
   by_cases hlt : i < listed.size <;> simp [hlt] at hi h1
   rw [hi] at h1
   cases h1
  ·cases ho : ops[e.on]? with
   | none =>
    cases f with
    | zero => cases q2
    | succ f => unfold Li at q2; rw [ho] at q2; cases q2
   | some oe =>
    have h2 : listed.getD e.on true = true := by
     by_cases hlt : e.on < listed.size <;> simp [hlt] at h1 ⊢
     exact h1
    have := U8 hs hi f e.on oe ho (fun e' he' hb' => hs e.on oe ho h2 e' he' hb')
    rw [this] at q2
    cases q2
theorem Na.next {listed : Array Bool} (hs : Na md ops listed) {j : Nat} (hj : j ∈ Region.ready md ops listed) : Na md ops (listed.setIfInBounds j true) := by
 obtain ⟨hun, oj, hoj, hall⟩ := mem_ready.1 hj
 have up : ∀ k, listed.getD k false = true → (listed.setIfInBounds j true).getD k false = true := fun k hk => by
  by_cases e : j = k
  ·subst e
   by_cases hlt : j < listed.size <;> simp [hlt] at hk ⊢
  ·rw [getD_set_ne false e]; exact hk
 intro k ok hok hk e he hb
 by_cases q : j = k
 ·subst q
  rw [hoj] at hok
  cases hok
  exact up _ (hall e he hb)
 ·rw [getD_set_ne true q] at hk
  exact up _ (hs k ok hok hk e he hb)
def E5 (md : Region.Mode) (ops : Array Oper) (f : Nat) (cs : List (Nat × (World → Prop))) (j : Nat) (w w' : World) : Prop := ∀ p ∈ cs, Li md ops p.1 f j = false → p.2 w → p.2 w'
def Ky (P : Program) (md : Region.Mode) (ops : Array Oper) (Q : Exit → Act → World → Prop) (f : Nat) (cs : List (Nat × (World → Prop))) : Nat → Array Bool → Act → World → Prop
 | 0, listed, a, w => Region.ready md ops listed = [] ∧ Q .normal a w
 | n + 1, listed, a, w => (Region.ready md ops listed = [] → Q .normal a w) ∧
  ∀ j ∈ Region.ready md ops listed, wpOp P ops Q j (fun a' w' => E5 md ops f cs j w w' ∧ Ky P md ops Q f cs n (listed.setIfInBounds j true) a' w') a w
theorem F8 : ∀ (n : Nat) (listed : Array Bool) (a : Act) (w : World), Ky P md ops Q f cs n listed a w → wpAny P md ops Q n listed a w
 | 0, _, _, _, h => h
 | n + 1, _, _, _, h => ⟨h.1, fun i hi => wpOp_mono (fun a' w' h' => F8 n _ a' w' h'.2) (h.2 i hi)⟩
theorem Dz {i : Nat} {oi : Oper} {v : Value} {C : World → Prop} (hi : ops[i]? = some oi) (hsel : ∀ (j : Nat) (o : Oper) cs b, ops[j]? = some o → o.op ≠ .select cs b)
  (hQ : ∀ c a w, Q (.panic c) (a.put oi.dst v) w → Q (.panic c) a w) (hC : ∀ j w w', Li md ops i f j = false → E5 md ops f cs j w w' → C w → C w') :
  ∀ (n : Nat) (listed : Array Bool) (a : Act) (w : World),
   (∀ j oj, ops[j]? = some oj → j ≠ i → listed.getD j true = false → (∀ e ∈ oj.after, Region.binds md e = true → e.on ≠ i) → oi.apart ops oj = true) →
   Na md ops listed → i ∈ Region.ready md ops listed → YieldsIf P ops C oi v a → C w →
   Ky P md ops Q f cs n (listed.setIfInBounds i true) (a.put oi.dst v) w → Ky P md ops Q f cs (n + 1) listed a w := by
 have hself : ∀ j w, E5 md ops f cs j w w := fun j w p _ _ h => h
 intro n
 induction n with
 | zero =>
  intro listed a w _ _ hr hy hS H
  refine ⟨fun h => (by rw [h] at hr; cases hr), fun j hj => ?_⟩
  by_cases hji : j = i
  ·subst hji; exact hy.wpOp hi hS ⟨hself _ _, H⟩
  ·have := ready_mono hj hji
   rw [H.1] at this
   cases this
 | succ n ih =>
  intro listed a w hfree hshut hr hy hS H
  refine ⟨fun h => (by rw [h] at hr; cases hr), fun j hj => ?_⟩
  by_cases hji : j = i
  ·subst hji; exact hy.wpOp hi hS ⟨hself _ _, H⟩
  ·have h1 := H.2 j (ready_mono hj hji)
   obtain ⟨hjun, oj, hoj, hall⟩ := mem_ready.1 hj
   have hnot : ∀ e ∈ oj.after, Region.binds md e = true → e.on ≠ i := fun e he hb heq => by
    have h1 := hall e he hb
    have h0 := (mem_ready.1 hr).1
    rw [heq] at h1
    rcases Nat.lt_or_ge i listed.size with h' | h'
    ·simp [h'] at h0 h1; rw [h0] at h1; cases h1
    ·simp [Array.getElem?_eq_none h'] at h1
   have hlate : Li md ops i f j = false := U8 hshut (mem_ready.1 hr).1 f j oj hoj hall
   have h2 := wpOp_putIf hoj (hfree j oj hoj hji hjun hnot) (fun cs b => hsel i oi cs b hi) (fun cs b => hsel j oj cs b hoj) hQ hy h1
   have hfree' : ∀ k ok, ops[k]? = some ok → k ≠ i → (listed.setIfInBounds j true).getD k true = false →
     (∀ e ∈ ok.after, Region.binds md e = true → e.on ≠ i) → oi.apart ops ok = true := fun k ok hk hki hun hno => by
    refine hfree k ok hk hki ?_ hno
    by_cases hjk : j = k
    ·subst hjk; exact hjun
    ·rw [getD_set_ne true hjk] at hun; exact hun
   refine wpOp_mono (fun a' w' h3 => ⟨h3.2.1, ih (listed.setIfInBounds j true) a' w' hfree' (hshut.next hj) (ready_mono hr (Ne.symm hji)) h3.1 (hC j w w' hlate h3.2.1 hS) ?_⟩) h2
   rw [Array.setIfInBounds_comm _ _ hji]
   exact h3.2.2
theorem Ll {n : Nat} {listed : Array Bool} {a : Act} {w : World} (hr : Region.ready md ops listed = []) (h : Q .normal a w) : Ky P md ops Q f cs n listed a w := by
 cases n with
 | zero => exact ⟨hr, h⟩
 | succ n => exact ⟨fun _ => h, by rw [hr]; simp⟩
theorem OrdO.shut (h : OrdO md ops ord) (i : Nat) : Na md ops (upO ord i ops.size) := by
 intro j oj hoj hj e he hb
 rw [Dk (Ce hoj), List.contains_iff_mem] at hj
 obtain ⟨q, hq, hqj⟩ := List.getElem_of_mem hj
 have hqi : q < i := by rw [List.length_take] at hq; omega
 have hql : q < ord.length := by rw [List.length_take] at hq; omega
 have hd : ord.drop q = j :: ord.drop (q + 1) := by
  rw [List.drop_eq_getElem_cons hql]
  congr 1
  rw [List.getElem_take] at hqj
  exact hqj
 have h1 := (h.at_ hd hoj).1 e he hb
 have h2 : e.on ∈ ord.take i := List.mem_of_mem_take (i := q) (by rw [List.take_take, Nat.min_eq_left (by omega)]; exact h1)
 rw [Dk (h.in_size _ h2)]
 exact List.contains_iff_mem.2 h2
def wpC (P : Program) (md : Region.Mode) (ops : Array Oper) (ord : List Nat) (Q : Exit → Act → World → Prop) (f : Nat) (cs : List (Nat × (World → Prop))) (i : Nat) (a : Act) (w : World) : Prop := Ky P md ops Q f cs (ops.size - i) (upO ord i ops.size) a w
theorem Hx {id : Nat} {a : Act} {w : World} (ord : List Nat) (hm : P.follows .mixedOrders = true) (hA : OrdO .any ops ord) (f : Nat) (cs : List (Nat × (World → Prop)))
  (h : OrdO .any ops ord → wpC P .any ops ord Q f cs 0 a w.drew) : (Code.region id ops true).wp P Q a w := by
 refine wp_region_any hm ?_
 have := h hA
 unfold wpC at this
 rw [Nat.sub_zero, ← Rt] at this
 exact F8 _ _ _ _ this
theorem Hj (v : Value) {C : World → Prop} {i k : Nat} {oi : Oper} {rest : List Nat} {a : Act} {w : World} (hA : OrdO md ops ord) (hi : ord.drop i = k :: rest) (hk : ops[k]? = some oi) (hc : Ys oi.op = false)
  (hb : Region.wanted oi (yielded ops a.tmps) = true) (hQ : ∀ c a w, Q (.panic c) (a.put oi.dst v) w → Q (.panic c) a w)
  (hm : (k, C) ∈ cs) (hS : C w) (hy : ∀ w, C w → (execOp a.eval oi).run P w = .ok (.value v) w) (h : wpC P md ops ord Q f cs (i + 1) (a.put oi.dst v) w) : wpC P md ops ord Q f cs i a w := by
 have hin := hA.lt hi
 unfold wpC at *
 obtain ⟨n, hf⟩ : ∃ n, ops.size - i = n + 1 := ⟨ops.size - (i + 1), by omega⟩
 rw [show ops.size - (i + 1) = n by omega, ← Dm hi (Ce hk)] at h
 rw [hf]
 exact Dz (C := C) hk (Region.noSelect_spec hA.sel) hQ (fun j w w' hl hK hw => hK _ hm hl hw) n _ a w (Region.free_spec hk (hA.free hi hk)) (hA.shut i) (by simpa using hA.ready hi hk) (Or.inl ⟨hb, hy⟩) hS h
theorem VN (v : Value) {i k : Nat} {oi : Oper} {rest : List Nat} {a : Act} {w : World} (hA : OrdO md ops ord) (hi : ord.drop i = k :: rest) (hk : ops[k]? = some oi) (hc : Ys oi.op = false)
  (hb : Region.wanted oi (yielded ops a.tmps) = true) (hQ : ∀ c a w, Q (.panic c) (a.put oi.dst v) w → Q (.panic c) a w)
  (hy : ∀ w, (execOp a.eval oi).run P w = .ok (.value v) w) (h : wpC P md ops ord Q f cs (i + 1) (a.put oi.dst v) w) : wpC P md ops ord Q f cs i a w := by
 have hin := hA.lt hi
 unfold wpC at *
 obtain ⟨n, hf⟩ : ∃ n, ops.size - i = n + 1 := ⟨ops.size - (i + 1), by omega⟩
 rw [show ops.size - (i + 1) = n by omega, ← Dm hi (Ce hk)] at h
 rw [hf]
 exact Dz (C := fun _ => True) hk (Region.noSelect_spec hA.sel) hQ (fun _ _ _ _ _ _ => trivial) n _ a w (Region.free_spec hk (hA.free hi hk)) (hA.shut i) (by simpa using hA.ready hi hk) (Or.inl ⟨hb, fun w _ => hy w⟩) trivial h
theorem VM {i k : Nat} {oi : Oper} {rest : List Nat} {a : Act} {w : World} (hA : OrdO md ops ord) (hi : ord.drop i = k :: rest) (hk : ops[k]? = some oi)
  (hb : Region.wanted oi (yielded ops a.tmps) = false) (hQ : ∀ c a w, Q (.panic c) (a.put oi.dst undef) w → Q (.panic c) a w)
  (h : wpC P md ops ord Q f cs (i + 1) (a.put oi.dst undef) w) : wpC P md ops ord Q f cs i a w := by
 have hin := hA.lt hi
 unfold wpC at *
 obtain ⟨n, hf⟩ : ∃ n, ops.size - i = n + 1 := ⟨ops.size - (i + 1), by omega⟩
 rw [show ops.size - (i + 1) = n by omega, ← Dm hi (Ce hk)] at h
 rw [hf]
 exact Dz (C := fun _ => True) hk (Region.noSelect_spec hA.sel) hQ (fun _ _ _ _ _ _ => trivial) n _ a w (Region.free_spec hk (hA.free hi hk)) (hA.shut i) (by simpa using hA.ready hi hk) (Or.inr ⟨hb, rfl⟩) trivial h
theorem runC {i k : Nat} {oi : Oper} {rest : List Nat} {a : Act} {w : World} (hA : OrdO md ops ord) (hi : ord.drop i = k :: rest) (hk : ops[k]? = some oi) (hs : Le md ops (ord.take i) rest = true)
  (hb : Region.wanted oi (yielded ops a.tmps) = true)
  (h : ∀ K' : Act → World → Prop, Shut (∀ a' w', E5 md ops f cs k w w' → wpC P md ops ord Q f cs (i + 1) a' w' → K' a' w') → Oper.wp P oi a w K' Q) : wpC P md ops ord Q f cs i a w := by
 have hin := hA.lt hi
 unfold wpC at *
 obtain ⟨n, hf⟩ : ∃ n, ops.size - i = n + 1 := ⟨ops.size - (i + 1), by omega⟩
 rw [show ops.size - (i + 1) = n by omega, ← Dm hi (Ce hk)] at h
 rw [hf]
 have hr := hA.sole hi hk hs
 refine ⟨fun h0 => absurd (hr ▸ h0) (by simp), fun j hj => ?_⟩
 rw [hr] at hj
 simp only [List.mem_cons, List.not_mem_nil, or_false] at hj
 subst hj
 refine wpOp_step hk (fun K' hK => ?_)
 rw [if_pos hb]
 exact h K' (fun a' w' h1 h2 => hK a' w' ⟨h1, h2⟩)
theorem Lt {i : Nat} {a : Act} {w : World} (hA : OrdO md ops ord) (hn : ord.drop i = []) (h : Q .normal a w) : wpC P md ops ord Q f cs i a w := by
 have hl : ord.take i = ord := by
  have := List.take_append_drop i ord
  rwa [hn, List.append_nil] at this
 refine Ll ?_ h
 have h1 := hA.all
 rw [List.all_eq_true] at h1
 unfold Region.ready
 rw [List.filter_eq_nil_iff]
 intro j hj
 rw [Dk (List.mem_range.1 hj), hl, List.contains_iff_mem.2 (Cw.1 (h1 j hj))]
 simp
theorem VL {k : Nat} {w w' : World} : E5 md ops f [] k w w' := fun p hp => by cases hp
theorem A7 {k : Nat} {w w' : World} {p : Nat × (World → Prop)} (h : p.2 w') (hs : E5 md ops f cs k w w') : E5 md ops f (p :: cs) k w w' := fun q hq hl hw => by
 rcases List.mem_cons.1 hq with e | hq
 ·subst e; exact h
 ·exact hs q hq hl hw
theorem VB {k : Nat} {w w' : World} {p : Nat × (World → Prop)} (h : Li md ops p.1 f k = true) (hs : E5 md ops f cs k w w') : E5 md ops f (p :: cs) k w w' := fun q hq hl hw => by
 rcases List.mem_cons.1 hq with e | hq
 ·subst e; rw [h] at hl; cases hl
 ·exact hs q hq hl hw
end
def ascD (md : Region.Mode) (ops : Array Oper) (E : List Nat) : List Nat → List Nat → Bool
 | _, [] => true
 | done, k :: rest => match ops[k]? with
  | some ok => ok.after.all (fun e => !Region.binds md e || memN e.on done) && (!memN k done && ((memN k E || rest.all (fun j => match ops[j]? with | some oj => Yo md k oj || ok.apart ops oj | none => false)) && ascD md ops E (k :: done) rest))
  | none => false
structure OrdD (md : Region.Mode) (ops : Array Oper) (E : List Nat) (ord : List Nat) : Prop where
 sel : Region.noSelect ops = true
 len : Nat.beq ord.length ops.size = true
 all : (List.range ops.size).all (fun j => memN j ord) = true
 asc : ascD md ops E [] ord = true
theorem Kc {md : Region.Mode} {ops : Array Oper} {E : List Nat} : ∀ (l done : List Nat) (i : Nat), ascD md ops E done l = true → ascD md ops E ((l.take i).reverse ++ done) (l.drop i) = true
 | l, done, 0, h => by simpa using h
 | [], done, i + 1, h => rfl
 | o :: l, done, i + 1, h => by
  unfold ascD at h
  split at h
  ·simp only [Bool.and_eq_true] at h
   have := Kc l (o :: done) i h.2.2.2
   simpa using this
  ·cases h
section
variable {P : Program} {ops : Array Oper} {E ord : List Nat} {Q : Exit → Act → World → Prop} {md : Region.Mode} {cs : List (Nat × (World → Prop))} {f : Nat}
theorem OrdD.at_ (h : OrdD md ops E ord) {i k : Nat} {ok : Oper} {rest : List Nat} (hi : ord.drop i = k :: rest) (hk : ops[k]? = some ok) :
  (∀ e ∈ ok.after, Region.binds md e = true → e.on ∈ ord.take i) ∧ k ∉ ord.take i ∧ (memN k E = false → ∀ j ∈ rest, ∃ oj, ops[j]? = some oj ∧ ((∃ e ∈ oj.after, Region.binds md e = true ∧ e.on = k) ∨ ok.apart ops oj = true)) := by
 have h2 := Kc ord [] i h.asc
 rw [hi, List.append_nil] at h2
 unfold ascD at h2
 rw [hk] at h2
 simp only [Bool.and_eq_true, Array.all_eq_true', Bool.or_eq_true, Bool.not_eq_true', List.all_eq_true] at h2
 obtain ⟨q1, q2, q3, _⟩ := h2
 refine ⟨fun e he hb => ?_, fun hm => ?_, fun hE j hj => ?_⟩
 ·rcases q1 e he with q | q
  ·rw [hb] at q; cases q
  ·simpa using Cw.1 q
 ·have := (Cw (k := k) (l := (ord.take i).reverse)).2 (by simpa using hm)
  rw [this] at q2
  cases q2
 ·rcases q3 with q3 | q3
  ·rw [hE] at q3; cases q3
  have := q3 j hj
  split at this
  ·rename_i oj hoj
   refine ⟨oj, hoj, ?_⟩
   rw [Bool.or_eq_true] at this
   rcases this with q | q
   ·obtain ⟨e, he, hb⟩ := Array.any_eq_true'.1 q
    simp only [Bool.and_eq_true] at hb
    exact .inl ⟨e, he, hb.1, Nat.eq_of_beq_eq_true hb.2⟩
   ·exact .inr q
  ·cases this
theorem OrdD.where_ (h : OrdD md ops E ord) {i k : Nat} {rest : List Nat} (hi : ord.drop i = k :: rest) {j : Nat} (hj : j < ops.size) : j ∈ ord.take i ∨ j = k ∨ j ∈ rest := by
 have h1 := h.all
 rw [List.all_eq_true] at h1
 have h2 := Cw.1 (h1 j (List.mem_range.2 hj))
 rw [← List.take_append_drop i ord, hi, List.mem_append, List.mem_cons] at h2
 exact h2
theorem OrdD.free (h : OrdD md ops E ord) {i k : Nat} {ok : Oper} {rest : List Nat} (hi : ord.drop i = k :: rest) (hk : ops[k]? = some ok) (hE : memN k E = false) : Region.free md ops (upO ord i ops.size) k = true := by
 unfold Region.free
 rw [hk]
 simp only [List.all_eq_true, List.mem_range, Bool.or_eq_true]
 intro j hj
 rcases h.where_ hi hj with q | q | q
 ·exact .inl (.inr (by rw [Dk hj]; exact List.contains_iff_mem.2 q))
 ·exact .inl (.inl (by simpa using q))
 ·obtain ⟨oj, hoj, hd⟩ := (h.at_ hi hk).2.2 hE j q
  rw [hoj]
  refine .inr ?_
  simp only [Bool.or_eq_true]
  rcases hd with ⟨e, he, hb, hon⟩ | q
  ·exact .inl (Array.any_eq_true'.2 ⟨e, he, by rw [hb, hon]; simp⟩)
  ·exact .inr q
theorem OrdD.in_size (h : OrdD md ops E ord) {i : Nat} : ∀ k ∈ ord.take i, k < ops.size := by
 induction i with
 | zero => intro k hk; simp at hk
 | succ i ih =>
  intro k hk
  cases hd : ord.drop i with
  | nil =>
   have : ord.take (i + 1) = ord.take i := by
    have hl := congrArg List.length hd
    simp only [List.length_drop, List.length_nil] at hl
    rw [List.take_of_length_le (by omega), List.take_of_length_le (by omega)]
   rw [this] at hk
   exact ih k hk
  | cons k' rest =>
   rw [La hd, List.mem_append] at hk
   rcases hk with hk | hk
   ·exact ih k hk
   ·simp only [List.mem_cons, List.not_mem_nil, or_false] at hk
    subst hk
    have h2 := Kc ord [] i h.asc
    rw [hd] at h2
    unfold ascD at h2
    split at h2
    ·rename_i ok hok; exact Ce hok
    ·cases h2
theorem OrdD.ready (h : OrdD md ops E ord) {i k : Nat} {ok : Oper} {rest : List Nat} (hi : ord.drop i = k :: rest) (hk : ops[k]? = some ok) : k ∈ Region.ready md ops (upO ord i ops.size) := by
 obtain ⟨q1, q2, _⟩ := h.at_ hi hk
 exact G6.2 ⟨Ce hk, q2, fun oj hoj e he hb => by rw [hk] at hoj; cases hoj; exact ⟨q1 e he hb, h.in_size _ (q1 e he hb)⟩⟩
theorem OrdD.lt (h : OrdD md ops E ord) {i k : Nat} {rest : List Nat} (hi : ord.drop i = k :: rest) : i < ops.size := by
 have hl := congrArg List.length hi
 simp only [List.length_drop, List.length_cons] at hl
 have := Nat.eq_of_beq_eq_true h.len
 omega
theorem OrdD.shut (h : OrdD md ops E ord) (i : Nat) : Na md ops (upO ord i ops.size) := by
 intro j oj hoj hj e he hb
 rw [Dk (Ce hoj), List.contains_iff_mem] at hj
 obtain ⟨q, hq, hqj⟩ := List.getElem_of_mem hj
 have hqi : q < i := by rw [List.length_take] at hq; omega
 have hql : q < ord.length := by rw [List.length_take] at hq; omega
 have hd : ord.drop q = j :: ord.drop (q + 1) := by
  rw [List.drop_eq_getElem_cons hql]
  congr 1
  rw [List.getElem_take] at hqj
  exact hqj
 have h1 := (h.at_ hd hoj).1 e he hb
 have h2 : e.on ∈ ord.take i := List.mem_of_mem_take (i := q) (by rw [List.take_take, Nat.min_eq_left (by omega)]; exact h1)
 rw [Dk (h.in_size _ h2)]
 exact List.contains_iff_mem.2 h2
theorem OrdD.among (h : OrdD md ops E ord) {i k : Nat} {rest : List Nat} (hi : ord.drop i = k :: rest) (alt : List Nat) (hs : Le md ops (ord.take i) (rest.filter (fun j => !memN j alt)) = true) {j : Nat} (hj : j ∈ Region.ready md ops (upO ord i ops.size)) : j = k ∨ j ∈ alt := by
 obtain ⟨hj1, hj2, hj3⟩ := G6.1 hj
 rcases h.where_ hi hj1 with q | q | q
 ·exact absurd q hj2
 ·exact .inl q
 ·by_cases ha : memN j alt = true
  ·exact .inr (Cw.1 ha)
  ·unfold Le at hs
   rw [List.all_eq_true] at hs
   have h1 := hs j (List.mem_filter.2 ⟨q, by simpa using ha⟩)
   split at h1
   ·rename_i oj hoj
    obtain ⟨e, he, hb⟩ := Array.any_eq_true'.1 h1
    simp only [Bool.and_eq_true, Bool.not_eq_true'] at hb
    have h3 := (hj3 oj hoj e he hb.1).1
    have h4 := Cw.2 h3
    rw [hb.2] at h4
    cases h4
   ·cases h1
theorem startD {id : Nat} {a : Act} {w : World} (E ord : List Nat) (hm : P.follows .mixedOrders = true) (hA : OrdD .any ops E ord) (f : Nat) (cs : List (Nat × (World → Prop)))
  (h : OrdD .any ops E ord → wpC P .any ops ord Q f cs 0 a w.drew) : (Code.region id ops true).wp P Q a w := by
 refine wp_region_any hm ?_
 have := h hA
 unfold wpC at this
 rw [Nat.sub_zero, ← Rt] at this
 exact F8 _ _ _ _ this
theorem Mm (v : Value) {C : World → Prop} {i k : Nat} {oi : Oper} {rest : List Nat} {a : Act} {w : World} (hA : OrdD md ops E ord) (hi : ord.drop i = k :: rest) (hk : ops[k]? = some oi) (hE : memN k E = false)
  (hb : Region.wanted oi (yielded ops a.tmps) = true) (hQ : ∀ c a w, Q (.panic c) (a.put oi.dst v) w → Q (.panic c) a w)
  (hm : (k, C) ∈ cs) (hS : C w) (hy : ∀ w, C w → (execOp a.eval oi).run P w = .ok (.value v) w) (h : wpC P md ops ord Q f cs (i + 1) (a.put oi.dst v) w) : wpC P md ops ord Q f cs i a w := by
 have hin := hA.lt hi
 unfold wpC at *
 obtain ⟨n, hf⟩ : ∃ n, ops.size - i = n + 1 := ⟨ops.size - (i + 1), by omega⟩
 rw [show ops.size - (i + 1) = n by omega, ← Dm hi (Ce hk)] at h
 rw [hf]
 exact Dz (C := C) hk (Region.noSelect_spec hA.sel) hQ (fun j w w' hl hK hw => hK _ hm hl hw) n _ a w (Region.free_spec hk (hA.free hi hk hE)) (hA.shut i) (hA.ready hi hk) (Or.inl ⟨hb, hy⟩) hS h
theorem Cf (v : Value) {i k : Nat} {oi : Oper} {rest : List Nat} {a : Act} {w : World} (hA : OrdD md ops E ord) (hi : ord.drop i = k :: rest) (hk : ops[k]? = some oi) (hE : memN k E = false)
  (hb : Region.wanted oi (yielded ops a.tmps) = true) (hQ : ∀ c a w, Q (.panic c) (a.put oi.dst v) w → Q (.panic c) a w)
  (hy : ∀ w, (execOp a.eval oi).run P w = .ok (.value v) w) (h : wpC P md ops ord Q f cs (i + 1) (a.put oi.dst v) w) : wpC P md ops ord Q f cs i a w := by
 have hin := hA.lt hi
 unfold wpC at *
 obtain ⟨n, hf⟩ : ∃ n, ops.size - i = n + 1 := ⟨ops.size - (i + 1), by omega⟩
 rw [show ops.size - (i + 1) = n by omega, ← Dm hi (Ce hk)] at h
 rw [hf]
 exact Dz (C := fun _ => True) hk (Region.noSelect_spec hA.sel) hQ (fun _ _ _ _ _ _ => trivial) n _ a w (Region.free_spec hk (hA.free hi hk hE)) (hA.shut i) (hA.ready hi hk) (Or.inl ⟨hb, fun w _ => hy w⟩) trivial h
theorem runD {i k : Nat} {oi : Oper} {rest : List Nat} {a : Act} {w : World} (hA : OrdD md ops E ord) (hi : ord.drop i = k :: rest) (hk : ops[k]? = some oi) (hs : Le md ops (ord.take i) rest = true)
  (hb : Region.wanted oi (yielded ops a.tmps) = true)
  (h : ∀ K' : Act → World → Prop, Shut (∀ a' w', E5 md ops f cs k w w' → wpC P md ops ord Q f cs (i + 1) a' w' → K' a' w') → Oper.wp P oi a w K' Q) : wpC P md ops ord Q f cs i a w := by
 have hin := hA.lt hi
 unfold wpC at *
 obtain ⟨n, hf⟩ : ∃ n, ops.size - i = n + 1 := ⟨ops.size - (i + 1), by omega⟩
 rw [show ops.size - (i + 1) = n by omega, ← Dm hi (Ce hk)] at h
 rw [hf]
 refine ⟨fun h0 => absurd (hA.ready hi hk) (by rw [h0]; simp), fun j hj => ?_⟩
 obtain rfl : j = k := by
  rcases hA.among hi [] (by rw [show rest.filter (fun j => !memN j []) = rest from List.filter_eq_self.2 (fun _ _ => rfl)]; exact hs) hj with q | q
  ·exact q
  ·cases q
 refine wpOp_step hk (fun K' hK => ?_)
 rw [if_pos hb]
 exact h K' (fun a' w' h1 h2 => hK a' w' ⟨h1, h2⟩)
theorem Pn {i k k2 : Nat} {oi o2 : Oper} {rest rest2 : List Nat} {a : Act} {w : World} (ord2 : List Nat) (hA : OrdD md ops E ord) (hi : ord.drop i = k :: rest) (hk : ops[k]? = some oi)
  (hA2 : OrdD md ops E ord2) (ht : ord2.take i = ord.take i) (hi2 : ord2.drop i = k2 :: rest2) (hk2 : ops[k2]? = some o2) (hs : Le md ops (ord.take i) (rest.filter (fun j => !memN j [k2])) = true)
  (hb : Region.wanted oi (yielded ops a.tmps) = true) (hb2 : Region.wanted o2 (yielded ops a.tmps) = true)
  (h : ∀ K' : Act → World → Prop, Shut (∀ a' w', E5 md ops f cs k w w' → wpC P md ops ord Q f cs (i + 1) a' w' → K' a' w') → Oper.wp P oi a w K' Q)
  (h2 : OrdD md ops E ord2 → ∀ K' : Act → World → Prop, Shut (∀ a' w', E5 md ops f cs k2 w w' → wpC P md ops ord2 Q f cs (i + 1) a' w' → K' a' w') → Oper.wp P o2 a w K' Q) : wpC P md ops ord Q f cs i a w := by
 have hin := hA.lt hi
 have hup : upO ord2 i ops.size = upO ord i ops.size := by unfold upO; rw [ht]
 replace h2 := h2 hA2
 unfold wpC at *
 obtain ⟨n, hf⟩ : ∃ n, ops.size - i = n + 1 := ⟨ops.size - (i + 1), by omega⟩
 rw [show ops.size - (i + 1) = n by omega, ← Dm hi (Ce hk)] at h
 rw [show ops.size - (i + 1) = n by omega, ← Dm hi2 (Ce hk2), hup] at h2
 rw [hf]
 refine ⟨fun h0 => absurd (hA.ready hi hk) (by rw [h0]; simp), fun j hj => ?_⟩
 rcases hA.among hi [k2] hs hj with rfl | q
 ·refine wpOp_step hk (fun K' hK => ?_)
  rw [if_pos hb]
  exact h K' (fun a' w' h1 h2 => hK a' w' ⟨h1, h2⟩)
 ·obtain rfl := List.mem_singleton.1 q
  refine wpOp_step hk2 (fun K' hK => ?_)
  rw [if_pos hb2]
  exact h2 K' (fun a' w' h1 h2 => hK a' w' ⟨h1, h2⟩)
theorem Yn {i k k2 k3 : Nat} {oi o2 o3 : Oper} {rest rest2 rest3 : List Nat} {a : Act} {w : World} (ord2 ord3 : List Nat) (hA : OrdD md ops E ord) (hi : ord.drop i = k :: rest) (hk : ops[k]? = some oi)
  (hA2 : OrdD md ops E ord2) (ht : ord2.take i = ord.take i) (hi2 : ord2.drop i = k2 :: rest2) (hk2 : ops[k2]? = some o2)
  (hA3 : OrdD md ops E ord3) (ht3 : ord3.take i = ord.take i) (hi3 : ord3.drop i = k3 :: rest3) (hk3 : ops[k3]? = some o3) (hs : Le md ops (ord.take i) (rest.filter (fun j => !memN j [k2, k3])) = true)
  (hb : Region.wanted oi (yielded ops a.tmps) = true) (hb2 : Region.wanted o2 (yielded ops a.tmps) = true) (hb3 : Region.wanted o3 (yielded ops a.tmps) = true)
  (h : ∀ K' : Act → World → Prop, Shut (∀ a' w', E5 md ops f cs k w w' → wpC P md ops ord Q f cs (i + 1) a' w' → K' a' w') → Oper.wp P oi a w K' Q)
  (h2 : OrdD md ops E ord2 → ∀ K' : Act → World → Prop, Shut (∀ a' w', E5 md ops f cs k2 w w' → wpC P md ops ord2 Q f cs (i + 1) a' w' → K' a' w') → Oper.wp P o2 a w K' Q)
  (h3 : OrdD md ops E ord3 → ∀ K' : Act → World → Prop, Shut (∀ a' w', E5 md ops f cs k3 w w' → wpC P md ops ord3 Q f cs (i + 1) a' w' → K' a' w') → Oper.wp P o3 a w K' Q) : wpC P md ops ord Q f cs i a w := by
 have hin := hA.lt hi
 have hup : upO ord2 i ops.size = upO ord i ops.size := by unfold upO; rw [ht]
 have hup3 : upO ord3 i ops.size = upO ord i ops.size := by unfold upO; rw [ht3]
 replace h2 := h2 hA2
 replace h3 := h3 hA3
 unfold wpC at *
 obtain ⟨n, hf⟩ : ∃ n, ops.size - i = n + 1 := ⟨ops.size - (i + 1), by omega⟩
 rw [show ops.size - (i + 1) = n by omega, ← Dm hi (Ce hk)] at h
 rw [show ops.size - (i + 1) = n by omega, ← Dm hi2 (Ce hk2), hup] at h2
 rw [show ops.size - (i + 1) = n by omega, ← Dm hi3 (Ce hk3), hup3] at h3
 rw [hf]
 refine ⟨fun h0 => absurd (hA.ready hi hk) (by rw [h0]; simp), fun j hj => ?_⟩
 rcases hA.among hi [k2, k3] hs hj with rfl | q
 ·refine wpOp_step hk (fun K' hK => ?_)
  rw [if_pos hb]
  exact h K' (fun a' w' h1 h2 => hK a' w' ⟨h1, h2⟩)
 ·simp only [List.mem_cons, List.not_mem_nil, or_false] at q
  rcases q with rfl | rfl
  ·refine wpOp_step hk2 (fun K' hK => ?_)
   rw [if_pos hb2]
   exact h2 K' (fun a' w' h1 h2 => hK a' w' ⟨h1, h2⟩)
  ·refine wpOp_step hk3 (fun K' hK => ?_)
   rw [if_pos hb3]
   exact h3 K' (fun a' w' h1 h2 => hK a' w' ⟨h1, h2⟩)
theorem doneD {i : Nat} {a : Act} {w : World} (hA : OrdD md ops E ord) (hn : ord.drop i = []) (h : Q .normal a w) : wpC P md ops ord Q f cs i a w := by
 have hl : ord.take i = ord := by
  have := List.take_append_drop i ord
  rwa [hn, List.append_nil] at this
 refine Ll ?_ h
 have h1 := hA.all
 rw [List.all_eq_true] at h1
 unfold Region.ready
 rw [List.filter_eq_nil_iff]
 intro j hj
 rw [Dk (List.mem_range.1 hj), hl, List.contains_iff_mem.2 (Cw.1 (h1 j hj))]
 simp
end
end Go.Proofs.YtfneahdnpmamkaaGreat
