/-
  Plain facts: maps whose keys are texts: look-ups that say whether the key is there, and deletions. No program is named here. Plain facts: a record taken out of a zone's book. No program is named here. Plain facts: a record put into a zone, as the specification does it and as a book does. No program is named here. Plain facts: what a book does to add a record is what the specification does. No program is named here. Plain facts: what a book does to drop records of a name and a type is what the specification does. No program is named here. Plain facts: what Drop and DropSet answer, and how large a zone's book is. No program is named here. Plain facts: what Add answers, and how large the book behind it is. No program is named here. Plain facts: drawn zones and how they fare; records that may be, under another name. Contract of the specification's l1PickInt. Contracts of the specification's draws of chapter 1: l1Once, l1PickInt, l1some.
-/
import Derived.Test.YthobpbnaklnbiaaGreatFnDropSetsG09
namespace Go.Proofs.YthobpbnaklnbiaaGreat
open Go.RowKit
open Go.ChangeMaps (setBlock heap_setBlock_same heap_setBlock_other)
open Go.MapKept (stamped_iff stamped_erase Stamped)
open Go.Maps (Keyed string_keyed)
open Go.WideMaps (keyOf_string_mk)
set_option linter.unusedVariables false

def delA {κ β : Type} [DecidableEq κ] (k : κ) : List (κ × β) → List (κ × β)
 | [] => []
 | (a, u) :: t => if a = k then t else (a, u) :: delA k t
theorem Qm {κ β : Type} [DecidableEq κ] {k : κ} : ∀ {ps : List (κ × β)}, (∀ p ∈ ps, p.1 ≠ k) → delA k ps = ps
 | [], _ => rfl
 | (a, u) :: t, h => by
  rw [delA, if_neg (h (a, u) (List.mem_cons_self ..)), Qm (fun p hp => h p (List.mem_cons_of_mem _ hp))]
theorem Vr {κ β : Type} [DecidableEq κ] {k : κ} {v : β} : ∀ {ps : List (κ × β)} {j : Nat}, ps.Pairwise (fun p q => p.1 ≠ q.1) → ps[j]? = some (k, v) → delA k ps = ps.eraseIdx j
 | [], j, _, h => by simp at h
 | (a, u) :: t, 0, hd, h => by
  simp only [List.getElem?_cons_zero, Option.some.injEq, Prod.mk.injEq] at h
  rw [delA, if_pos h.1]
  rfl
 | (a, u) :: t, j + 1, hd, h => by
  simp only [List.getElem?_cons_succ] at h
  obtain ⟨h1, h2⟩ := List.pairwise_cons.1 hd
  rw [delA, if_neg (h1 _ (List.mem_of_getElem? h)), Vr h2 h]
  rfl
theorem Iv {κ β : Type} [DecidableEq κ] {k : κ} : ∀ {ps : List (κ × β)}, ps.Pairwise (fun p q => p.1 ≠ q.1) → ∀ {p : κ × β}, p ∈ delA k ps ↔ p ∈ ps ∧ p.1 ≠ k
 | [], _, p => by simp [delA]
 | (a, u) :: t, hd, p => by
  obtain ⟨h1, h2⟩ := List.pairwise_cons.1 hd
  by_cases e : a = k
  ·subst e
   rw [delA, if_pos rfl]
   constructor
   ·intro hp
    exact ⟨List.mem_cons_of_mem _ hp, fun e => h1 p hp e.symm⟩
   ·rintro ⟨hp, hne⟩
    rcases List.mem_cons.1 hp with rfl | hp
    ·exact absurd rfl hne
    ·exact hp
  ·rw [delA, if_neg e, List.mem_cons, Iv h2]
   constructor
   ·rintro (rfl | ⟨hp, hne⟩)
    ·exact ⟨List.mem_cons_self .., e⟩
    ·exact ⟨List.mem_cons_of_mem _ hp, hne⟩
   ·rintro ⟨hp, hne⟩
    rcases List.mem_cons.1 hp with rfl | hp
    ·exact .inl rfl
    ·exact .inr ⟨hp, hne⟩
theorem two_del {κ α β : Type} [DecidableEq κ] {Q : α → β → Prop} {k : κ} {l : List (κ × α)} {m : List (κ × β)} (h : Two (Gb κ Q) l m) : Two (Gb κ Q) (delA k l) (delA k m) := by
 induction h with
 | nil => exact .nil
 | @cons a b l m h1 h0 ih =>
  obtain ⟨a1, a2⟩ := a
  obtain ⟨b1, b2⟩ := b
  obtain ⟨h1, h2⟩ := h1
  simp only at h1 h2
  subst h1
  by_cases e : a1 = k
  ·simp only [delA, if_pos e]
   exact h0
  ·simp only [delA, if_neg e]
   exact .cons ⟨rfl, h2⟩ ih

section
variable {P : Program} {t k e : TypeId} {w : World} {b : Nat} {ps : List (ByteArray × Value)}
theorem Kc (ht : P.underlying t = some (.map k e)) (hk : P.underlying k = some .string) {z : Value} (hz : (zeroValue e).run P w = .ok z w) (h : MapV w b ps) (s : ByteArray) (hs : s.size ≤ maxLen) :
  (Instr.lookup t (.map (some b)) (.string s) true).run P w = .ok (.tuple #[(Aj s ps).getD z, .bool (Aj s ps).isSome]) w := by
 have hA := h.apart
 obtain ⟨es, clock, hb, hS, hK, rfl⟩ := h
 have hkey := keyOf_string_mk hk hs
 have K := string_keyed hk
 rcases K.find w hkey es.toList (Nc hk hK) with ⟨h1, h2⟩ | ⟨j, e0, h1, h2, h3⟩
 ·rw [Jt (M4 hK h2)]
  simp [Instr.lookup, run_underlying ht, MapKept.run_getObj_map hb, K.check w _ hkey, h1, hz, Result.andThen]
 ·rw [Oe hA (Nb h2 h3)]
  simp [Instr.lookup, run_underlying ht, MapKept.run_getObj_map hb, K.check w _ hkey, h1, Result.andThen]
theorem Zy (ty : TypeId) (ht : P.underlying t = some (.map k e)) (hk : P.underlying k = some .string) (h : MapV w b ps) (s : ByteArray) (hs : s.size ≤ maxLen) :
  ∃ w', (Builtin.delete_ #[t, k] ty #[.map (some b), .string s]).run P w = .ok (.tuple #[]) w' ∧ MapV w' b (delA s ps) ∧ w.grownBy w' (some b) := by
 have hA := h.apart
 obtain ⟨es, clock, hb, hS, hK, rfl⟩ := h
 have hkey := keyOf_string_mk hk hs
 have K := string_keyed hk
 rcases K.find w hkey es.toList (Nc hk hK) with ⟨h1, h2⟩ | ⟨j, e0, h1, h2, h3⟩
 ·refine ⟨setBlock w b (.map es clock), ?_, ⟨es, clock, heap_setBlock_same hb _, hS, hK, ?_⟩, ⟨rfl, rfl, rfl, by simp [setBlock], fun i _ hi => heap_setBlock_other hb _ (fun e => hi (by rw [e]))⟩⟩
  ·simp [Builtin.delete_, run_underlying ht, MapKept.run_getObj_map hb, K.check w _ hkey, h1, MapKept.run_setObj_map _ hb, Result.andThen, setBlock]
  ·rw [Qm (M4 hK h2)]
 ·have hjl : j < es.toList.length := (List.getElem?_eq_some_iff.1 h2).1
  have hjs : j < es.size := by simpa using hjl
  have hsub : (es.eraseIdxIfInBounds j).toList = es.toList.eraseIdx j := by
   unfold Array.eraseIdxIfInBounds
   rw [dif_pos hjs]
   simp
  refine ⟨setBlock w b (.map (es.eraseIdxIfInBounds j) clock), ?_, ⟨_, clock, heap_setBlock_same hb _, stamped_erase hS j, ?_, ?_⟩, ⟨rfl, rfl, rfl, by simp [setBlock], fun i _ hi => heap_setBlock_other hb _ (fun e => hi (by rw [e]))⟩⟩
  ·simp [Builtin.delete_, run_underlying ht, MapKept.run_getObj_map hb, K.check w _ hkey, h1, MapKept.run_setObj_map _ hb, Result.andThen, setBlock]
  ·intro x hx
   rw [hsub] at hx
   exact hK x ((List.eraseIdx_sublist _ _).subset hx)
  ·rw [Vr hA (Nb h2 h3), hsub]
   exact (Go.ChangeMaps.map_eraseIdx _ _ _).symm
end
end Go.Proofs.YthobpbnaklnbiaaGreat

namespace Go.Proofs.YthobpbnaklnbiaaGreat
open Go.RowKit
set_option linter.unusedVariables false

theorem Ko : ∀ (a b : List UInt8), Lib.compareBytes a b = 0 → a = b
 | [], [], _ => rfl
 | [], _ :: _, h => by simp [Lib.compareBytes] at h
 | _ :: _, [], h => by simp [Lib.compareBytes] at h
 | x :: a, y :: b, h => by
  unfold Lib.compareBytes at h
  by_cases h1 : x < y
  ·simp [h1] at h
  ·by_cases h2 : y < x
   ·simp [h1, h2] at h
   ·simp only [h1, h2, if_false] at h
    rw [UInt8.le_antisymm (UInt8.not_lt.1 h2) (UInt8.not_lt.1 h1), Ko a b h]
theorem Sj {a b : Rec} : keyR a = keyR b ↔ cmpB (keyD a) (keyD b) = 0 := by
 constructor
 ·intro h
  unfold cmpB
  rw [show strOfNums (keyD a) = strOfNums (keyD b) from h]
  exact Gg (keyD b)
 ·intro h
  have e := Ko _ _ h
  unfold keyR
  have e2 : (strOfNums (keyD a)).data = (strOfNums (keyD b)).data := by simpa using congrArg List.toArray e
  cases ha : strOfNums (keyD a)
  cases hb : strOfNums (keyD b)
  rw [ha, hb] at e2
  simp only at e2
  rw [e2]
theorem Dc {a b : Rec} (ha : rrOk a = true) (hb : rrOk b = true) : cmpR a b = 0 ↔ a.name = b.name ∧ keyR a = keyR b := by
 have hz := Lm (Gi (Ai ha).1) (Gi (Ai hb).1)
 constructor
 ·intro h
  have hn : cmpN a.name b.name = 0 := by
   unfold cmpR at h
   by_cases e : cmpN a.name b.name = 0
   ·exact e
   ·rw [if_pos e] at h
    exact h
  refine ⟨hz.1 hn, Sj.2 ?_⟩
  rcases Dl (keyD a) (keyD b) with e | e | e
  ·have := Je ha hb hn e
   omega
  ·exact e
  ·have e1 : cmpB (keyD b) (keyD a) = -1 := by
    have := Dq (keyD a) (keyD b)
    omega
   have e2 : cmpN b.name a.name = 0 := by
    have := Dd a.name b.name
    omega
   have := Je hb ha e2 e1
   have := Fl a b
   omega
 ·rintro ⟨h1, h2⟩
  have hn := hz.2 h1
  have hk := Sj.1 h2
  rcases Oz a b with e | e | e
  ·have := Kv ha hb hn (by omega)
   omega
  ·exact e
  ·have e2 : cmpN b.name a.name = 0 := by
    have := Dd a.name b.name
    omega
   have := Kv hb ha e2 (by have := Fl a b; omega)
   have := Dq (keyD a) (keyD b)
   omega
theorem Qe : ∀ {rs : List Rec} {B : Bk}, Ci B → (∀ r ∈ rs, rrOk r = true) → Ci (rs.foldl (fun B r => E7 (strOfNums (keyN r.name)) (keyR r) r B) B)
 | [], B, h, _ => h
 | r :: t, B, h, hr => by
  rw [List.foldl_cons]
  exact Qe (h.put (hr r (List.mem_cons_self ..))) (fun x hx => hr x (List.mem_cons_of_mem _ hx))
theorem Jo {o : List (List Int)} {rs : List Rec} (hz : Ak o rs = true) : ∀ r ∈ rs, rrOk r = true := by
 intro r hr
 obtain ⟨i, hi, rfl⟩ := List.getElem_of_mem hr
 have := Du hz i hi
 simpa [hi] using this
def Cp (rs : List Rec) : Bk := rs.foldl (fun B r => E7 (strOfNums (keyN r.name)) (keyR r) r B) []
theorem Gw {o : List (List Int)} {rs : List Rec} (hz : Ak o rs = true) : Ci (Cp rs) := Qe V5 (Jo hz)
theorem I4 {o : List (List Int)} {rs : List Rec} (hz : Ak o rs = true) (r : Rec) : r ∈ rs ↔ ∃ q ∈ Cp rs, (keyR r, r) ∈ q.2 := by
 have hg := Gw hz
 constructor
 ·intro hr
  have hn := Oo (Du hz) r hr
  have hp := Dp hz hn
  have hm : (keyR r, r) ∈ (Aj (strOfNums (keyN r.name)) (Cp rs)).getD [] := by
   unfold Cp keyR
   rw [hp]
   exact List.mem_map.2 ⟨r, List.mem_filter.2 ⟨hr, by simp⟩, rfl⟩
  obtain ⟨P, h1, h2⟩ := Q9 _ _ hm
  exact ⟨_, h1, h2⟩
 ·rintro ⟨q, hq, hm⟩
  obtain ⟨_, ho, hk⟩ := (hg.pages q hq).keys _ hm
  simp only at ho hk
  have hp := Dp hz (Ai ho).1
  have hl := Bq hg.apart (k := q.1) (v := q.2) hq
  rw [hk] at hl
  have hl' : (Aj (strOfNums (keyN r.name)) (rs.foldl (fun B r => E7 (strOfNums (keyN r.name)) (strOfNums (keyD r)) r B) [])) = some q.2 := hl
  rw [hl', Option.getD_some] at hp
  rw [hp] at hm
  obtain ⟨x, hx, e⟩ := List.mem_map.1 hm
  have e2 : x = r := congrArg Prod.snd e
  subst e2
  exact (List.mem_filter.1 hx).1
theorem O5 {o : List (List Int)} {rs : List Rec} (hz : Ak o rs = true) : rs.Pairwise (fun a b => cmpR a b < 0) := by
 have h := Qg (Gw hz)
 have hz' := of_decide_eq_true hz
 have hg := (Fo hz'.1).1 hz'.2.2.1
 rw [List.pairwise_iff_getElem]
 intro i j hi hj hij
 have e1 : rs.getD i recZ = rs[i] := by simp [hi]
 have e2 : rs.getD j recZ = rs[j] := by simp [hj]
 have hs := Jd (rs := rs) (fun j _ hj => Iw ((hg j hj).next (by omega))) (i := i) (j := j) (by omega) hj
 rw [e1, e2] at hs
 by_cases hn : cmpN rs[i].name rs[j].name = 0
 ·have o1 := Jo hz _ (List.getElem_mem hi)
  have o2 := Jo hz _ (List.getElem_mem hj)
  have hn' := (Lm (Gi (Ai o1).1) (Gi (Ai o2).1)).1 hn
  exact Je o1 o2 hn ((List.pairwise_iff_getElem.1 (Pj hz)) i j hi hj hij hn')
 ·unfold cmpR
  rw [if_pos hn]
  omega
def Kj (kn kd : ByteArray) (B : Bk) : Bk := B.map (fun q => if q.1 = kn then (q.1, delA kd q.2) else q)
theorem N3 {κ β : Type} [DecidableEq κ] {k : κ} : ∀ {l : List (κ × β)}, l.Pairwise (fun p q => p.1 ≠ q.1) → (delA k l).Pairwise (fun p q => p.1 ≠ q.1)
 | [], _ => List.Pairwise.nil
 | (a, u) :: t, h => by
  obtain ⟨h1, h2⟩ := List.pairwise_cons.1 h
  by_cases e : a = k
  ·rw [delA, if_pos e]
   exact h2
  ·rw [delA, if_neg e]
   exact List.pairwise_cons.2 ⟨fun q hq => h1 q ((Iv h2).1 hq).1, N3 h2⟩
theorem P1 (kn kd : ByteArray) (q : ByteArray × Pg) : (if q.1 = kn then (q.1, delA kd q.2) else q).1 = q.1 := by split <;> rfl
theorem Ci.del {B : Bk} (h : Ci B) (kn kd : ByteArray) : Ci (Kj kn kd B) := by
 refine ⟨?_, fun q hq => ?_⟩
 ·unfold Kj
  rw [List.pairwise_map]
  exact h.apart.imp (fun {a b} hab => by rw [P1, P1]; exact hab)
 ·obtain ⟨p, hp, rfl⟩ := List.mem_map.1 hq
  have hg := h.pages p hp
  split
  ·exact ⟨N3 hg.apart, fun x hx => hg.keys x ((Iv hg.apart).1 hx).1⟩
  ·exact hg
theorem X9 {B : Bk} (h : Ci B) {r : Rec} (hr : rrOk r = true) {x : Rec} (hx : rrOk x = true) : (∃ q ∈ Kj (strOfNums (keyN r.name)) (keyR r) B, (keyR x, x) ∈ q.2) ↔ (∃ q ∈ B, (keyR x, x) ∈ q.2) ∧ cmpR x r ≠ 0 := by
 constructor
 ·rintro ⟨q, hq, hm⟩
  obtain ⟨p, hp, rfl⟩ := List.mem_map.1 hq
  have hg := h.pages p hp
  by_cases e : p.1 = strOfNums (keyN r.name)
  ·rw [if_pos e] at hm
   obtain ⟨h1, h2⟩ := (Iv hg.apart).1 hm
   exact ⟨⟨p, hp, h1⟩, fun hc => h2 ((Dc hx hr).1 hc).2⟩
  ·rw [if_neg e] at hm
   refine ⟨⟨p, hp, hm⟩, fun hc => e ?_⟩
   have := (hg.keys _ hm).2.2
   simp only at this
   rw [this, ((Dc hx hr).1 hc).1]
 ·rintro ⟨⟨p, hp, hm⟩, hc⟩
  have hg := h.pages p hp
  refine ⟨_, List.mem_map.2 ⟨p, hp, rfl⟩, ?_⟩
  by_cases e : p.1 = strOfNums (keyN r.name)
  ·rw [if_pos e]
   refine (Iv hg.apart).2 ⟨hm, fun hk => hc ((Dc hx hr).2 ⟨?_, hk⟩)⟩
   have := (hg.keys _ hm).2.2
   simp only at this
   exact Ib (Ai hx).1 (Ai hr).1 (this.symm.trans e)
  ·rw [if_neg e]
   exact hm
def upd (r x : Rec) : Rec := if cmpN x.name r.name = 0 ∧ x.type = r.type then ⟨x.name, x.type, r.ttl, x.addr, x.to, x.text, x.nums⟩ else x
theorem Nz (r x y : Rec) : cmpR y (upd r x) = cmpR y x := by
 unfold upd
 split <;> rfl
theorem Yo {r x : Rec} (hr : rrOk r = true) (hx : rrOk x = true) : rrOk (upd r x) = true := by
 unfold upd
 split
 ·have := Ai hr
  exact Wj hx r.ttl this.2.2.1 this.2.2.2.1
 ·exact hx
def addL (r : Rec) : List Rec → Bool → List Rec
 | [], put => if put = true then [] else [r]
 | x :: t, put => (if put = false ∧ cmpR r x ≤ 0 then [r] else []) ++ (if cmpR r x ≠ 0 then [upd r x] else []) ++ addL r t (put || decide (cmpR r x ≤ 0))
theorem Se {r y : Rec} : ∀ {rs : List Rec} {put : Bool}, y ∈ addL r rs put ↔ (put = false ∧ y = r) ∨ ∃ x ∈ rs, cmpR r x ≠ 0 ∧ y = upd r x
 | [], put => by
  cases put <;> simp [addL]
 | x :: t, put => by
  rw [addL, List.mem_append, List.mem_append, Se]
  constructor
  ·rintro ((h | h) | (⟨h1, h2⟩ | ⟨z, h1, h2, h3⟩))
   ·split at h
    ·rename_i hc
     simp only [List.mem_singleton] at h
     exact .inl ⟨hc.1, h⟩
    ·simp at h
   ·split at h
    ·rename_i hc
     simp only [List.mem_singleton] at h
     exact .inr ⟨x, List.mem_cons_self .., hc, h⟩
    ·simp at h
   ·rw [Bool.or_eq_false_iff] at h1
    exact .inl ⟨h1.1, h2⟩
   ·exact .inr ⟨z, List.mem_cons_of_mem _ h1, h2, h3⟩
  ·rintro (⟨h1, h2⟩ | ⟨z, h1, h2, h3⟩)
   ·by_cases hc : cmpR r x ≤ 0
    ·exact .inl (.inl (by rw [if_pos ⟨h1, hc⟩]; simp [h2]))
    ·exact .inr (.inl ⟨by simp [h1, hc], h2⟩)
   ·rcases List.mem_cons.1 h1 with rfl | h1
    ·exact .inl (.inr (by rw [if_pos h2]; simp [h3]))
    ·exact .inr (.inr ⟨z, h1, h2, h3⟩)
def InB (B : Bk) (x : Rec) : Prop := ∃ q ∈ B, (keyR x, x) ∈ q.2
theorem InB.ok {B : Bk} (h : Ci B) {x : Rec} (hx : InB B x) : rrOk x = true := by
 obtain ⟨q, hq, hm⟩ := hx
 exact ((h.pages q hq).keys _ hm).2.1
def setB (n : List (List Int)) (t : Int) (B : Bk) : List Rec := (Ez ((Aj (strOfNums (keyN n)) B).getD [])).filter (selT t)
theorem Zu {B : Bk} (h : Ci B) {n : List (List Int)} (hn : Af n = true) {t : Int} {x : Rec} : x ∈ setB n t B ↔ InB B x ∧ x.name = n ∧ selT t x = true := by
 unfold setB
 rw [List.mem_filter, Gk (h.page _)]
 constructor
 ·rintro ⟨h1, h2⟩
  obtain ⟨P, p1, p2⟩ := Q9 _ B h1
  have hk := (h.pages _ p1).keys _ p2
  simp only at hk
  exact ⟨⟨_, p1, p2⟩, (Ib hn (Ai hk.2.1).1 hk.2.2).symm, h2⟩
 ·rintro ⟨⟨q, hq, hm⟩, rfl, h2⟩
  have hk := (h.pages q hq).keys _ hm
  simp only at hk
  have hl := Bq h.apart (k := q.1) (v := q.2) hq
  rw [hk.2.2] at hl
  rw [hl]
  exact ⟨hm, h2⟩
theorem Xs {a b : Rec} (h : cmpR a b = 0) : a.type = b.type := by
 unfold cmpR at h
 by_cases e : cmpN a.name b.name = 0
 ·rw [if_neg (by simp [e])] at h
  by_cases q : Ap a.type b.type = 0
  ·exact Db q
  ·rw [if_pos q] at h
   exact absurd h q
 ·rw [if_pos e] at h
  exact absurd h e
def Bs (r : Rec) (B : Bk) : Bk × Bool := if (Aj (keyR r) ((Aj (strOfNums (keyN r.name)) B).getD [])).isSome = true ∧ r.type ≠ 6 then (Kj (strOfNums (keyN r.name)) (keyR r) B, true) else (B, false)
theorem Vv {B : Bk} (h : Ci B) {r : Rec} (hr : rrOk r = true) : (Aj (keyR r) ((Aj (strOfNums (keyN r.name)) B).getD [])).isSome = true ↔ ∃ x, InB B x ∧ cmpR x r = 0 := by
 have hp := h.page (strOfNums (keyN r.name))
 constructor
 ·intro hs
  obtain ⟨x, hx⟩ := Option.isSome_iff_exists.1 hs
  have hm := Ed hx
  have hk := hp.keys _ hm
  simp only at hk
  obtain ⟨P, p1, p2⟩ := Q9 _ B hm
  rw [hk.1] at p2
  exact ⟨x, ⟨_, p1, p2⟩, (Dc hk.2.1 hr).2 ⟨(Ib (Ai hr).1 (Ai hk.2.1).1 hk.2.2).symm, hk.1.symm⟩⟩
 ·rintro ⟨x, ⟨q, hq, hm⟩, hc⟩
  have hk := (h.pages q hq).keys _ hm
  simp only at hk
  obtain ⟨e1, e2⟩ := (Dc hk.2.1 hr).1 hc
  have hl := Bq h.apart (k := q.1) (v := q.2) hq
  rw [hk.2.2, e1] at hl
  rw [hl, Option.getD_some, ← e2, Bq (h.pages q hq).apart hm]
  rfl
theorem Ie {B : Bk} (h : Ci B) (r : Rec) : Ci (Bs r B).1 := by
 unfold Bs
 split
 ·exact h.del _ _
 ·exact h
theorem Oj {B : Bk} (h : Ci B) {r : Rec} (hr : rrOk r = true) {x : Rec} (hx : rrOk x = true) : InB (Bs r B).1 x ↔ InB B x ∧ ¬ (cmpR x r = 0 ∧ r.type ≠ 6) := by
 unfold Bs
 by_cases e : (Aj (keyR r) ((Aj (strOfNums (keyN r.name)) B).getD [])).isSome = true ∧ r.type ≠ 6
 ·rw [if_pos e]
  rw [show InB (Kj (strOfNums (keyN r.name)) (keyR r) B) x ↔ _ from X9 h hr hx]
  constructor
  ·rintro ⟨h1, h2⟩
   exact ⟨h1, fun q => h2 q.1⟩
  ·rintro ⟨h1, h2⟩
   exact ⟨h1, fun q => h2 ⟨q, e.2⟩⟩
 ·rw [if_neg e]
  constructor
  ·intro hx'
   refine ⟨hx', fun q => e ⟨(Vv h hr).2 ⟨x, hx', q.1⟩, q.2⟩⟩
  ·exact fun q => q.1
def dropAll : List Rec → Bk → Bk × Nat
 | [], B => (B, 0)
 | r :: t, B => ((dropAll t (Bs r B).1).1, (dropAll t (Bs r B).1).2 + if (Bs r B).2 = true then 1 else 0)
theorem Mf : ∀ {L : List Rec} {B : Bk}, Ci B → (∀ l ∈ L, rrOk l = true) → Ci (dropAll L B).1 ∧ ∀ {x : Rec}, rrOk x = true → (InB (dropAll L B).1 x ↔ InB B x ∧ ∀ l ∈ L, ¬ (cmpR x l = 0 ∧ l.type ≠ 6))
 | [], B, h, _ => ⟨h, fun {x} _ => by simp [dropAll]⟩
 | l :: t, B, h, hL => by
  have hl := hL l (List.mem_cons_self ..)
  obtain ⟨i1, i2⟩ := Mf (L := t) (Ie h l) (fun z hz => hL z (List.mem_cons_of_mem _ hz))
  refine ⟨i1, fun {x} hx => ?_⟩
  show InB (dropAll t (Bs l B).1).1 x ↔ _
  rw [i2 hx, Oj h hl hx]
  constructor
  ·rintro ⟨⟨h1, h2⟩, h3⟩
   refine ⟨h1, fun z hz => ?_⟩
   rcases List.mem_cons.1 hz with rfl | hz
   ·exact h2
   ·exact h3 z hz
  ·rintro ⟨h1, h2⟩
   exact ⟨⟨h1, h2 l (List.mem_cons_self ..)⟩, fun z hz => h2 z (List.mem_cons_of_mem _ hz)⟩
theorem Jh : ∀ {L : List Rec} {B : Bk}, Ci B → (∀ l ∈ L, rrOk l = true ∧ InB B l) → L.Pairwise (fun a b => cmpR a b ≠ 0) → (dropAll L B).2 = (L.filter (fun l => decide (l.type ≠ 6))).length
 | [], B, _, _, _ => rfl
 | l :: t, B, h, hL, hd => by
  obtain ⟨d1, d2⟩ := List.pairwise_cons.1 hd
  have hl := hL l (List.mem_cons_self ..)
  have ih := Jh (L := t) (Ie h l) (fun z hz => by
   have hz' := hL z (List.mem_cons_of_mem _ hz)
   refine ⟨hz'.1, (Oj h hl.1 hz'.1).2 ⟨hz'.2, fun q => ?_⟩⟩
   have := Fl l z
   exact d1 z hz (by omega)) d2
  show (dropAll t (Bs l B).1).2 + _ = _
  rw [ih]
  have hs : (Aj (keyR l) ((Aj (strOfNums (keyN l.name)) B).getD [])).isSome = true := (Vv h hl.1).2 ⟨l, hl.2, I5 l⟩
  by_cases e : l.type = 6
  ·have : (Bs l B).2 = false := by unfold Bs; rw [if_neg (fun q => q.2 e)]
   rw [this, List.filter_cons_of_neg (by simp [e])]
   simp
  ·have : (Bs l B).2 = true := by unfold Bs; rw [if_pos ⟨hs, e⟩]
   rw [this, List.filter_cons_of_pos (by simp [e])]
   simp
def Dr (n : List (List Int)) (t : Int) (x : Rec) : Bool := selB n t x && decide (x.type ≠ 6)
theorem Kx {o n : List (List Int)} {rs : List Rec} (hz : Ak o rs = true) (hn : Af n = true) (t : Int) :
  Gl (dropAll (setB n t (Cp rs)) (Cp rs)).1 = rs.filter (fun x => !Dr n t x) ∧ (dropAll (setB n t (Cp rs)) (Cp rs)).2 = (rs.filter (Dr n t)).length ∧ Ci (dropAll (setB n t (Cp rs)) (Cp rs)).1 := by
 have hB := Gw hz
 have ms : ∀ x, x ∈ setB n t (Cp rs) ↔ x ∈ rs ∧ x.name = n ∧ selT t x = true := fun x => by
  rw [Zu hB hn, show InB (Cp rs) x ↔ x ∈ rs from (I4 hz x).symm]
 have hset : setB n t (Cp rs) = rs.filter (selB n t) := by
  have := Rq hz hn t
  rw [C0] at this
  rw [← this]
  unfold setB
  rw [show (Aj (strOfNums (keyN n)) (Cp rs)).getD [] = (B8 n rs).map (fun r => (keyR r, r)) from Dp hz hn]
 have hok : ∀ l ∈ setB n t (Cp rs), rrOk l = true := fun l hl => Jo hz l ((ms l).1 hl).1
 obtain ⟨g, hm⟩ := Mf hB hok
 refine ⟨?_, ?_, g⟩
 ·refine Zo g ((O5 hz).filter _) (fun x => ?_)
  have key : ∀ (hx : x ∈ rs), (selB n t x = true ↔ x.name = n ∧ selT t x = true) := fun hx => by
   have : x ∈ rs.filter (selB n t) ↔ x ∈ rs ∧ x.name = n ∧ selT t x = true := by rw [← hset, ms]
   rw [List.mem_filter] at this
   exact ⟨fun h => (this.1 ⟨hx, h⟩).2, fun h => (this.2 ⟨hx, h⟩).2⟩
  rw [List.mem_filter]
  constructor
  ·rintro ⟨h1, h2⟩
   have ho := Jo hz x h1
   refine (hm ho).2 ⟨(I4 hz x).1 h1, fun l hl hq => ?_⟩
   have hl' := (ms l).1 hl
   have e := (Dc ho (hok l hl)).1 hq.1
   have et := Xs hq.1
   have hsel : selB n t x = true := (key h1).2 ⟨e.1.trans hl'.2.1, by have := hl'.2.2; unfold selT at this ⊢; rwa [et]⟩
   have : Dr n t x = true := by
    unfold Dr
    rw [hsel, Bool.true_and, decide_eq_true_iff, et]
    exact hq.2
   rw [this] at h2
   cases h2
  ·intro hx
   have ho := InB.ok g hx
   obtain ⟨h1, h2⟩ := (hm ho).1 hx
   have hxr := (I4 hz x).2 h1
   refine ⟨hxr, ?_⟩
   rw [Bool.not_eq_true']
   cases hgo : Dr n t x with
   | false => rfl
   | true =>
    unfold Dr at hgo
    rw [Bool.and_eq_true, decide_eq_true_iff] at hgo
    exact absurd ⟨I5 x, hgo.2⟩ (h2 x ((ms x).2 ⟨hxr, (key hxr).1 hgo.1⟩))
 ·rw [Jh hB (fun l hl => ⟨hok l hl, (I4 hz l).1 ((ms l).1 hl).1⟩), hset, List.filter_filter]
  ·congr 1
   refine List.filter_congr (fun x _ => ?_)
   unfold Dr
   rw [Bool.and_comm]
  ·rw [hset]
   exact ((O5 hz).filter _).imp (fun {a b} h => by omega)
def D9 (m : Nat) (B : Bk) : Prop := B.length ≤ m ∧ ∀ q ∈ B, q.2.length ≤ m
theorem H9 {κ α : Type} [DecidableEq κ] {k : κ} {v : α} : ∀ {l : List (κ × α)}, (putA k v l).length ≤ l.length + 1
 | [] => by simp [putA]
 | (a, u) :: t => by
  unfold putA
  split
  ·simp
  ·have := H9 (k := k) (v := v) (l := t)
   simp only [List.length_cons]
   omega
theorem Mo {κ β : Type} [DecidableEq κ] {k : κ} : ∀ {l : List (κ × β)}, (delA k l).length ≤ l.length
 | [] => by simp [delA]
 | (a, u) :: t => by
  unfold delA
  split
  ·simp
  ·have := Mo (k := k) (l := t)
   simp only [List.length_cons]
   omega
theorem D9.put {m : Nat} {B : Bk} (h : D9 m B) (kn kd : ByteArray) (r : Rec) : D9 (m + 1) (E7 kn kd r B) := by
 unfold E7
 refine ⟨Nat.le_trans H9 (by have := h.1; omega), fun q hq => ?_⟩
 rcases Gn hq with rfl | hq
 ·refine Nat.le_trans H9 ?_
  have : ((Aj kn B).getD []).length ≤ m := by
   cases hl : Aj kn B with
   | none => simp
   | some P => exact h.2 _ (Ed hl)
  omega
 ·have := h.2 q hq
  omega
theorem D9.mono {m m' : Nat} {B : Bk} (h : D9 m B) (hm : m ≤ m') : D9 m' B := ⟨Nat.le_trans h.1 hm, fun q hq => Nat.le_trans (h.2 q hq) hm⟩
theorem D9.del {m : Nat} {B : Bk} (h : D9 m B) (kn kd : ByteArray) : D9 m (Kj kn kd B) := by
 unfold Kj
 refine ⟨by rw [List.length_map]; exact h.1, fun q hq => ?_⟩
 obtain ⟨x, hx, rfl⟩ := List.mem_map.1 hq
 split
 ·exact Nat.le_trans Mo (h.2 x hx)
 ·exact h.2 x hx
theorem D9.drop {m : Nat} {B : Bk} (h : D9 m B) (r : Rec) : D9 m (Bs r B).1 := by
 unfold Bs
 split
 ·exact h.del _ _
 ·exact h
theorem D9.dropAll {m : Nat} : ∀ {L : List Rec} {B : Bk}, D9 m B → D9 m (dropAll L B).1
 | [], B, h => h
 | r :: t, B, h => (h.drop r).dropAll (L := t)
theorem Ox : ∀ (rs : List Rec) (m : Nat) (B : Bk), D9 m B → D9 (m + rs.length) (rs.foldl (fun B r => E7 (strOfNums (keyN r.name)) (keyR r) r B) B)
 | [], m, B, h => h
 | r :: t, m, B, h => by
  have := Ox t (m + 1) _ (h.put (strOfNums (keyN r.name)) (keyR r) r)
  simp only [List.foldl_cons, List.length_cons]
  exact this.mono (by omega)
theorem book_60 {o : List (List Int)} {rs : List Rec} (hz : Ak o rs = true) : D9 60 (Cp rs) :=
 (Ox rs 0 [] ⟨Nat.le_refl _, fun q hq => by simp at hq⟩).mono (by have := (Au hz).2.2; omega)
theorem U8 {B : Bk} (h : Ci B) : ∀ q ∈ B, ∀ x ∈ q.2, D5 x.2 := fun q hq x hx => Ix ((h.pages q hq).keys x hx).2.1

def Fz (o : List (List Int)) (rs : List Rec) (r : Rec) : (List (List Int) × List Rec) × Bool :=
 if Ak o rs = true ∧ rrOk r = true then (if Ak o (addL r rs false) = true then ((o, addL r rs false), true) else ((o, rs), false)) else (([], []), false)
theorem L7 {r : Rec} : ∀ (rs : List Rec) (put : Bool), (addL r rs put).length ≤ 2 * rs.length + 1
 | [], put => by unfold addL; split <;> simp
 | x :: t, put => by
  have := L7 (r := r) t (put || decide (cmpR r x ≤ 0))
  unfold addL
  simp only [List.length_append, List.length_cons]
  split <;> split <;> simp only [List.length_cons, List.length_nil] <;> omega
structure Cz (B : Nat) (w : World) (vo vr : Value) (o : List (List Int)) (rs : List Rec) : Prop where
 name : OwnT 0 22 5 w vo o
 recs : Iu B w.heap.size w vr rs
abbrev tysZ : List TypeId := [39, 22, 5, 3]
section
variable {B : Nat} {w w' : World} {vo vr : Value} {o : List (List Int)} {rs : List Rec}
theorem Cz.hasZ (h : Cz B w vo vr o rs) : HasZ w vo vr o rs := ⟨h.name.hasL, h.recs.has⟩
theorem Cz.below (h : Cz B w vo vr o rs) (hb : Below w.heap.size w w') : Cz B w' vo vr o rs := ⟨h.name.below hb, (A4.below Fg h.recs hb).wide (Nat.le_refl _) hb.size⟩
theorem Cz.off (h : Cz B w vo vr o rs) {q : Nat} {t : TypeId} {cc : Array Value} (hk : w.heap[q]? = some (.cells cc t)) (ht : t ∉ tysZ) (hg : w.grownBy w' (some q)) : Cz B w' vo vr o rs := by
 simp only [List.mem_cons, List.not_mem_nil, or_false, not_or] at ht
 obtain ⟨h1, h2, h3, h4⟩ := ht
 exact ⟨h.name.off hk h2 h3 hg, (A4.off Fg h.recs hk (by simp only [List.mem_cons, List.not_mem_nil, or_false, not_or]; exact ⟨h2, h3, h4⟩) (.inl h1) hg).wide (Nat.le_refl _) hg.size⟩
theorem Cz.cur {g len cap : Nat} {a : Option Addr} (h : Cz B w vo vr o rs) (hc : Cur w g a len cap) (hg : w.grownBy w' (some g)) : Cz B w' vo vr o rs := by
 obtain ⟨i, x, h1, _⟩ := hc
 exact h.off h1 (by decide) hg
theorem OwnQ.drawR {vn vt vx vi : Value} {r : Rec} (h : OwnQ B 22 5 3 w vn vt vx vi r) : B6 w vn vt vx vi r := ⟨h.name.ownT.mono (Nat.zero_le _), h.to.ownT.mono (Nat.zero_le _), ⟨h.text.has, h.text.typed⟩, h.nums.mono (Nat.zero_le _)⟩
theorem RowQ.draw (h : RowQ B 39 22 5 3 w vr rs) : Iu B w.heap.size w vr rs := by
 obtain ⟨xs, ho, hx⟩ := h
 refine ⟨xs, ⟨ho.1, ?_⟩, fun q hq => (World.ownsRow.lt ho q hq).2, fun i hi => ?_⟩
 ·rcases ho.2 with hn | ⟨g, cap, cur, hv, hb, rest⟩
  ·exact .inl hn
  ·exact .inr ⟨g, cap, cur, hv, hb, rest⟩
 ·obtain ⟨vn, vt, vx, vi, h1, h2⟩ := hx i hi
  exact ⟨_, h1, vn, vt, vx, vi, rfl, h2.drawR⟩
theorem Cz.of {B' : Nat} (hB : B' ≤ B) (h1 : OwnL B 22 5 w vo o) (h2 : RowQ B 39 22 5 3 w vr rs) : Cz B' w vo vr o rs := ⟨h1.ownT.mono (Nat.zero_le _), A4.wide h2.draw hB (Nat.le_refl _)⟩
end
theorem Sz {r : Rec} (h : rrOk r = true) {n : List (List Int)} (hn : Af n = true) : rrOk ⟨n, r.type, r.ttl, r.addr, r.to, r.text, r.nums⟩ = true := by
 unfold rrOk at h ⊢
 simp only [Bool.and_eq_true] at h ⊢
 exact ⟨hn, h.2.1, h.2.2.1, h.2.2.2⟩
theorem rrOk_to {r : Rec} (h : rrOk r = true) {n to : List (List Int)} (hn : Af n = true) (h1 : named r.type = true → Af to = true) (h2 : named r.type = false → to = []) : rrOk ⟨n, r.type, r.ttl, r.addr, to, r.text, r.nums⟩ = true := by
 unfold rrOk A6 at h ⊢
 simp only [Bool.and_eq_true] at h ⊢
 refine ⟨hn, h.2.1, h.2.2.1, h.2.2.2.1, ?_, h.2.2.2.2.2.1, h.2.2.2.2.2.2⟩
 cases hnm : named r.type with
 | true => simpa using h1 hnm
 | false => rw [h2 hnm]; simp
abbrev Am : List (List Int) := [[104, 111, 109, 101]]
theorem Ln {o : List (List Int)} {rs : List Rec} {r : Rec} (hz : Ak o rs = true) (hr : rrOk r = true) : (Fz o rs r).1.1 = o ∧ Ak o (Fz o rs r).1.2 = true := by
 unfold Fz
 rw [if_pos ⟨hz, hr⟩]
 by_cases h : Ak o (addL r rs false) = true
 ·rw [if_pos h]; exact ⟨rfl, h⟩
 ·rw [if_neg h]; exact ⟨rfl, hz⟩
theorem Qr {o : List (List Int)} {rs : List Rec} (h : Ak o rs = true) : 0 < rs.length := by
 have h1 := (of_decide_eq_true h).2.2.2
 have := M9 rs rs.length
 omega
theorem C5 {o : List (List Int)} {rs : List Rec} (h : Ak o rs = true) : ∀ k, k < rs.length → (rs.getD k recZ).name.length ≤ 1048576 := fun k hk => by
 have := ((Au h).2.1 k hk).1.1
 omega
theorem Ym {z : Int} (h : z = 1 ∨ z = 7 ∨ z = 4294967295) : Bz Am z = ((Am, [F3 Am z]), true) ∧ Ak Am [F3 Am z] = true := by
 have key : Ak Am [F3 Am z] = true := by rcases h with rfl | rfl | rfl <;> decide +kernel
 exact ⟨by unfold Bz; rw [if_pos key], key⟩
set_option maxHeartbeats 400000 in
set_option maxRecDepth 100000 in
theorem Pn {g : Nat} {a : Option Addr} {len cap : Nat} {w : World} (gl n : Nat) (hc : Cur w g a len cap) (hL : Code w g a len) (hm : len ≤ maxLen) (hn0 : 1 ≤ n) (hn1 : n ≤ 1048576) (hlt : gl < w.heap.size) (hgl : g < gl)
  (hcell : ∀ j, j < n → ∃ z, w.cell? ⟨gl, j, none⟩ = some (.int .i64 z)) :
  Calls Tryz.prog 83 #[.pointer (some ⟨g, 0, none⟩), .slice (some ⟨gl, 0, none⟩) n n] w fun e w' => ∃ z, e = .returned (.int .i64 z) ∧ Cur w' g a len cap ∧ w.grownBy w' (some g) := by
 have HM := UC hm
 clear hm
 have HC := UC hcell
 clear hcell
 go_enter Tryz.func83, Tryz.ntmps83
 go_wp2_with fail
 refine (A7 n hc hL (UB HM) (by omega) (by omega)).mono ?_
 rintro e w1 ⟨x, rfl, hx0, hx1, hc1, g1⟩
 obtain ⟨j, rfl⟩ := Int.eq_ofNat_of_zero_le hx0
 obtain ⟨z, hz⟩ := (UB HC) j (by omega)
 have hz1 : w1.cell? ⟨gl, j, none⟩ = some (.int .i64 z) := by
  rw [World.cell?_of_block (w := w) (g1.block gl hlt (by simp; omega))]; exact hz
 clear hz
 go_wp2
 go_ret
 exact ⟨z, rfl, hc1, g1⟩

theorem Cl {w w1 w2 : World} {row : Option Nat} (hb : Below w.heap.size w w1) (hg : w1.grownBy w2 row) (hr : ∀ j, row = some j → w.heap.size ≤ j) : Below w.heap.size w w2 := hb.grown hg hb.size hr
set_option maxHeartbeats 400000 in
set_option maxRecDepth 100000 in
theorem El {g : Nat} {a : Option Addr} {len cap : Nat} {w : World} (n : Int) (hc : Cur w g a len cap) (hL : Code w g a len) (hm : len ≤ maxLen) (hn0 : 1 ≤ n) (hn1 : n ≤ 1099511627776) :
  Calls Tryz.prog 49 #[.pointer (some ⟨g, 0, none⟩), .int .i64 n] w fun e w' => ∃ x : Bool, e = .returned (.bool x) ∧ Cur w' g a len cap ∧ w.grownBy w' (some g) := by
 have HM := UC hm
 clear hm
 go_enter Tryz.func49, Tryz.ntmps49
 go_wp2_with fail
 refine (A7 n hc hL (UB HM) hn0 hn1).mono ?_
 rintro e w1 ⟨x, rfl, hx0, hx1, hc1, g1⟩
 go_wp2
 go_ret
 exact ⟨_, rfl, hc1, g1⟩
end Go.Proofs.YthobpbnaklnbiaaGreat
