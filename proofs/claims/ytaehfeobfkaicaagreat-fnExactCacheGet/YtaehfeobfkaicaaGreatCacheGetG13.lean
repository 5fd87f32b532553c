/-
  Plain facts: the keys of names ascend as the names do, and those of records as the records do. No program is named here. Plain facts: what holds cells holds them still. No program is named here. Plain facts: what holds cells holds them still: names, records and rows of them that are owned. No program is named here. Plain facts: a page's records by ascending keys. No program is named here. Plain facts: the keys of slots, which ascend as the slots do; a cache's slots by their keys. No program is named here but the kinds. Plain facts: a shelf in memory: a map of slots by their keys. No program is named here.
-/
import Derived.Test.YtaehfeobfkaicaaGreatCacheGetG12
import Derived.Test.YtaehfeobfkaicaaGreatCacheGetG05
import Derived.RangeFuncNested
import Derived.Test.YtaehfeobfkaicaaGreatCacheGetG04
import Derived.Test.YtaehfeobfkaicaaGreatCacheGetG11
namespace Go.Proofs.YtaehfeobfkaicaaGreat
open Go.RowKit
set_option linter.unusedVariables false

theorem compare_cut : ∀ (x y A B : List UInt8), (∀ c ∈ x, 0 < c) → (∀ c ∈ y, 0 < c) → Lib.compareBytes (x ++ 0 :: A) (y ++ 0 :: B) = if Lib.compareBytes x y ≠ 0 then Lib.compareBytes x y else Lib.compareBytes A B
 | [], [], A, B, _, _ => by
  simp only [List.nil_append]
  rw [show Lib.compareBytes ([] : List UInt8) [] = 0 from rfl]
  simp only [ne_eq, not_true, if_false]
  conv => lhs; unfold Lib.compareBytes
  rw [if_neg (UInt8.lt_irrefl _), if_neg (UInt8.lt_irrefl _)]
 | [], c :: y, A, B, _, hy => by
  have h := hy c (List.mem_cons_self ..)
  simp only [List.nil_append, List.cons_append]
  conv => lhs; unfold Lib.compareBytes
  rw [if_pos h, show Lib.compareBytes ([] : List UInt8) (c :: y) = -1 from rfl]
  simp
 | c :: x, [], A, B, hx, _ => by
  have h := hx c (List.mem_cons_self ..)
  have h2 : ¬ c < 0 := fun h' => UInt8.lt_irrefl _ (UInt8.lt_trans h h')
  simp only [List.nil_append, List.cons_append]
  conv => lhs; unfold Lib.compareBytes
  rw [if_neg h2, if_pos h, show Lib.compareBytes (c :: x) ([] : List UInt8) = 1 from rfl]
  simp
 | c :: x, d :: y, A, B, hx, hy => by
  have ih := compare_cut x y A B (fun z hz => hx z (List.mem_cons_of_mem _ hz)) (fun z hz => hy z (List.mem_cons_of_mem _ hz))
  simp only [List.cons_append]
  have step : ∀ (c d : UInt8) (x y : List UInt8), Lib.compareBytes (c :: x) (d :: y) = if c < d then -1 else if d < c then 1 else Lib.compareBytes x y := fun c d x y => by rw [Lib.compareBytes]
  rw [step c d (x ++ 0 :: A) (y ++ 0 :: B), step c d x y]
  by_cases h1 : c < d
  ·simp [h1]
  ·by_cases h2 : d < c
   ·simp [h1, h2]
   ·simp only [h1, h2, if_false]
    exact ih
def okL (ls : List (List Int)) : Prop := ∀ l ∈ ls, ∀ x ∈ l, 45 ≤ x ∧ x ≤ 122
theorem byte_pos {l : List Int} (h : ∀ x ∈ l, 45 ≤ x ∧ x ≤ 122) : ∀ c ∈ l.map (fun n => UInt8.ofNat n.toNat), (0 : UInt8) < c := by
 intro c hc
 obtain ⟨x, hx, rfl⟩ := List.mem_map.1 hc
 have := h x hx
 rw [UInt8.lt_iff_toNat_lt]
 simp only [UInt8.toNat_ofNat']
 show (0 : UInt8).toNat < _
 rw [show (0 : UInt8).toNat = 0 from rfl]
 omega
def KeptC (W W' : World) : Prop := ∀ (g : Nat) (c : Array Value) (t : TypeId), W.heap[g]? = some (.cells c t) → W'.heap[g]? = some (.cells c t)
theorem keptC_of {W W' : World} {row : Option Nat} (hg : W.grownBy W' row) (hr : ∀ r, row = some r → ∃ o : Obj, W.heap[r]? = some o ∧ o.isCells = false) : KeptC W W' := by
 intro g c t h
 have hlt : g < W.heap.size := (Array.getElem?_eq_some_iff.1 h).1
 refine (hg.block g hlt ?_).trans h
 intro e
 obtain ⟨o, h1, h2⟩ := hr g e.symm
 rw [h] at h1
 cases h1
 cases h2
theorem row_keptC {W W' : World} {B n s : Nat} {e : TypeId} {v : Value} {xs : List Value} (h : W.ownsRow B e s v n xs) (hk : KeptC W W') : W'.ownsRow B e s v n xs := by
 obtain ⟨h1, h2⟩ := h
 rcases h2 with h2 | ⟨g, cap, c, h3, h4, h5, h6⟩
 ·exact ⟨h1, .inl h2⟩
 ·exact ⟨h1, .inr ⟨g, cap, c, h3, h4, hk _ _ _ h5, h6⟩⟩
theorem row_notC {B b n s : Nat} {e : TypeId} {w : World} {v : Value} {xs : List Value} {o : Obj} (h : w.ownsRow B e s v n xs) (hb : w.heap[b]? = some o) (ho : o.isCells = false) : v.ownBlock ≠ some b := by
 intro hq
 rcases h.2 with ⟨rfl, _⟩ | ⟨g, cap, cur, rfl, _, hg, _⟩
 ·simp [Value.ownBlock] at hq
 ·simp [Value.ownBlock] at hq
  subst hq
  rw [hg] at hb
  cases hb
  cases ho
def keysP {α : Type} (P : List (ByteArray × α)) : List (List UInt8) := (P.map (fun p => p.1.data.toList)).mergeSort leB
theorem keysP_length {α : Type} (P : List (ByteArray × α)) : (keysP P).length = P.length := by simp [keysP]
theorem two_keysP {α β : Type} {Q : α → β → Prop} {l : List (ByteArray × α)} {m : List (ByteArray × β)} (h : Two (AtKeys ByteArray Q) l m) : keysP l = keysP m := by
 unfold keysP
 congr 1
 induction h with
 | nil => rfl
 | cons h1 _ ih => rw [List.map_cons, List.map_cons, h1.1, ih]
def keyT (n : List (List Int)) (t : Int) : List Int := keyN n ++ put16 [] t
def ksB (n : List (List Int)) (t : Int) : ByteArray := strOfNums (keyT n t)
def kx (x : Slt) : ByteArray × Slt := (ksB x.name x.type, x)
def isS (n : List (List Int)) (t : Int) (x : Slt) : Bool := decide (cmpN x.name n = 0) && decide (x.type = t)
theorem typeOk_bounds {t : Int} (h : typeOk t = true) : 0 < t ∧ t ≤ 255 := by
 unfold typeOk at h
 simp only [decide_eq_true_eq] at h
 omega
theorem put16_kind {t : Int} (h : typeOk t = true) : put16 [] t = [0, t] := by
 have := typeOk_bounds h
 unfold put16
 rw [if_pos (by omega)]
 simp only [List.nil_append, List.cons.injEq, and_true]
 omega
theorem keyP_tail : ∀ (ls ms : List (List Int)) (a b : List Int), okL ls → okL ms → (∀ l ∈ ls, l ≠ []) → (∀ l ∈ ms, l ≠ []) → cmpB (keyP ls ++ 0 :: a) (keyP ms ++ 0 :: b) = if cmpL ls ms ≠ 0 then cmpL ls ms else cmpB (0 :: a) (0 :: b)
 | [], [], a, b, _, _, _, _ => by simp [keyP, cmpL]
 | [], m :: s, a, b, _, hm, _, nm => by
  obtain ⟨c, m', rfl⟩ := List.exists_cons_of_ne_nil (nm m (List.mem_cons_self ..))
  have h0 : (0 : UInt8) < UInt8.ofNat c.toNat := byte_pos (hm _ (List.mem_cons_self ..)) _ (by simp)
  unfold cmpB
  rw [bytes_of, bytes_of]
  simp [keyP, cmpL, Lib.compareBytes, h0]
 | l :: t, [], a, b, hl, _, nl, _ => by
  obtain ⟨c, l', rfl⟩ := List.exists_cons_of_ne_nil (nl l (List.mem_cons_self ..))
  have h0 : (0 : UInt8) < UInt8.ofNat c.toNat := byte_pos (hl _ (List.mem_cons_self ..)) _ (by simp)
  have h2 : ¬ UInt8.ofNat c.toNat < 0 := fun h' => UInt8.lt_irrefl _ (UInt8.lt_trans h0 h')
  unfold cmpB
  rw [bytes_of, bytes_of]
  simp [keyP, cmpL, Lib.compareBytes, h0]
 | l :: t, m :: s, a, b, hl, hm, nl, nm => by
  have ih := keyP_tail t s a b (fun x hx => hl x (List.mem_cons_of_mem _ hx)) (fun x hx => hm x (List.mem_cons_of_mem _ hx)) (fun x hx => nl x (List.mem_cons_of_mem _ hx)) (fun x hx => nm x (List.mem_cons_of_mem _ hx))
  have e : ∀ (l : List Int) (t : List (List Int)) (a : List Int), (strOfNums (keyP (l :: t) ++ 0 :: a)).data.toList = l.map (fun n => UInt8.ofNat n.toNat) ++ 0 :: (keyP t ++ 0 :: a).map (fun n => UInt8.ofNat n.toNat) := by
   intro l t a
   rw [bytes_of]
   simp [keyP]
  have h1 : cmpB (keyP (l :: t) ++ 0 :: a) (keyP (m :: s) ++ 0 :: b) = if cmpB l m ≠ 0 then cmpB l m else cmpB (keyP t ++ 0 :: a) (keyP s ++ 0 :: b) := by
   unfold cmpB
   rw [e, e, compare_cut _ _ _ _ (byte_pos (hl l (List.mem_cons_self ..))) (byte_pos (hm m (List.mem_cons_self ..)))]
   simp only [bytes_of]
  rw [h1, ih]
  have h2 : cmpL (l :: t) (m :: s) = if cmpB l m ≠ 0 then cmpB l m else cmpL t s := rfl
  rw [h2]
  by_cases q : cmpB l m = 0
  ·simp [q]
  ·simp [q]
theorem name_signs {n : List (List Int)} (h : nameOk n = true) : okL n.reverse ∧ ∀ l ∈ n.reverse, l ≠ [] := by
 refine ⟨fun l hl => sign_of h l (List.mem_reverse.1 hl), fun l hl e => ?_⟩
 subst e
 obtain ⟨k, hk, hkl⟩ := List.getElem_of_mem (List.mem_reverse.1 hl)
 have h2 := (labelOk_length ((nameOk_parts h).2 k hk)).1
 rw [List.getD_eq_getElem?_getD, List.getElem?_eq_getElem hk, Option.getD_some, hkl] at h2
 simp at h2
theorem keyT_eq {n : List (List Int)} {t : Int} (ht : typeOk t = true) : keyT n t = keyP n.reverse ++ 0 :: [t] := by
 unfold keyT
 rw [put16_kind ht]
 rfl
theorem keyT_order {n m : List (List Int)} {t u : Int} (hn : nameOk n = true) (hm : nameOk m = true) (ht : typeOk t = true) (hu : typeOk u = true) : cmpB (keyT n t) (keyT m u) = if cmpN n m ≠ 0 then cmpN n m else cmpB [0, t] [0, u] := by
 rw [keyT_eq ht, keyT_eq hu, keyP_tail _ _ _ _ (name_signs hn).1 (name_signs hm).1 (name_signs hn).2 (name_signs hm).2, ← cmpN_eq]
theorem kinds_order {t u : Int} (ht : typeOk t = true) (hu : typeOk u = true) (h : t < u) : cmpB [0, t] [0, u] = -1 := by
 have h1 := typeOk_bounds ht
 have h2 := typeOk_bounds hu
 have h0 : UInt8.ofNat t.toNat < UInt8.ofNat u.toNat := by
  rw [UInt8.lt_iff_toNat_lt]
  simp only [UInt8.toNat_ofNat']
  omega
 unfold cmpB
 rw [bytes_of, bytes_of]
 simp [Lib.compareBytes, h0]
theorem keyT_ahead {a b : Slt} (ha : nameOk a.name = true) (hb : nameOk b.name = true) (ta : typeOk a.type = true) (tb : typeOk b.type = true) (h : aheadB a b = true) : cmpB (keyT a.name a.type) (keyT b.name b.type) = -1 := by
 rw [keyT_order ha hb ta tb]
 unfold aheadB at h
 simp only [Bool.or_eq_true, Bool.and_eq_true, decide_eq_true_eq] at h
 have hc := cmpN_cases a.name b.name
 rcases h with h | ⟨h, h2⟩
 ·rw [if_pos (by omega)]
  omega
 ·rw [if_neg (by simpa using h)]
  exact kinds_order ta tb h2
theorem cmpB_lt_trans {a b c : List Int} (h : cmpB a b = -1) (k : cmpB b c = -1) : cmpB a c = -1 := by
 have h1 := cmpB_trans (a := a) (b := b) (c := c) (by omega) (by omega)
 rcases cmpB_cases a c with q | q | q
 ·exact q
 ·have := cmpB_between (a := a) (b := b) (c := c) (by omega) (by omega) q
  omega
 ·omega
theorem ksB_inj {n m : List (List Int)} {t u : Int} (hn : nameOk n = true) (hm : nameOk m = true) (ht : typeOk t = true) (hu : typeOk u = true) (h : ksB n t = ksB m u) : cmpN n m = 0 ∧ t = u := by
 have h0 : cmpB (keyT n t) (keyT m u) = 0 := by
  unfold cmpB
  rw [show strOfNums (keyT n t) = strOfNums (keyT m u) from h]
  exact cmpB_self (keyT m u)
 rw [keyT_order hn hm ht hu] at h0
 by_cases q : cmpN n m = 0
 ·refine ⟨q, ?_⟩
  rw [if_neg (by simpa using q)] at h0
  by_cases e : t = u
  ·exact e
  ·rcases Int.lt_or_gt_of_ne e with e | e
   ·rw [kinds_order ht hu e] at h0
    cases h0
   ·have := kinds_order hu ht e
    rw [cmpB_swap] at h0
    omega
 ·rw [if_pos q] at h0
  exact absurd h0 q
def KeyOk (l : List Slt) : Prop := (∀ i, i < l.length → nameOk (l.getD i VK).name = true ∧ typeOk (l.getD i VK).type = true) ∧ ∀ i, i + 1 < l.length → aheadB (l.getD i VK) (l.getD (i + 1) VK) = true
theorem slotB_kind {s : Slt} {now turn : Int} (h : slotB s now turn = true) : typeOk s.type = true := by
 unfold slotB toldB at h
 simp only [Bool.and_eq_true] at h
 exact h.1.2.1
theorem cacheOk_keys {c : Ca} (h : cacheOk c = true) : KeyOk c.slots := by
 unfold cacheOk at h
 simp only [Bool.and_eq_true] at h
 have ha : ∀ i, i < c.slots.length → slotAt c i = true := fun i hi => rangeAll_at h.2.1 hi
 refine ⟨fun i hi => ?_, fun i hi => ?_⟩
 ·have := ha i hi
  unfold slotAt at this
  rw [Bool.and_eq_true] at this
  exact ⟨slotB_name this.1, slotB_kind this.1⟩
 ·have := ha (i + 1) hi
  unfold slotAt at this
  rw [Bool.and_eq_true, Bool.or_eq_true] at this
  rcases this.2 with q | q
  ·simp at q
  ·exact q
theorem KeyOk.lt {l : List Slt} (h : KeyOk l) : ∀ (j i : Nat), i < j → j < l.length → cmpB (keyT (l.getD i VK).name (l.getD i VK).type) (keyT (l.getD j VK).name (l.getD j VK).type) = -1
 | 0, i, hi, _ => absurd hi (Nat.not_lt_zero _)
 | j + 1, i, hi, hj => by
  have h1 := keyT_ahead (h.1 j (by omega)).1 (h.1 (j + 1) hj).1 (h.1 j (by omega)).2 (h.1 (j + 1) hj).2 (h.2 j hj)
  by_cases e : i = j
  ·subst e
   exact h1
  ·exact cmpB_lt_trans (KeyOk.lt h j i (by omega) (by omega)) h1
theorem KeyOk.apart {l : List Slt} (h : KeyOk l) : (l.map kx).Pairwise (fun p q => p.1 ≠ q.1) := by
 rw [List.pairwise_map, List.pairwise_iff_getElem]
 intro i j hi hj hij e
 have h1 := h.lt j i hij hj
 simp only [List.getD_eq_getElem?_getD, List.getElem?_eq_getElem hi, List.getElem?_eq_getElem hj, Option.getD_some] at h1
 unfold cmpB at h1
 rw [show strOfNums (keyT l[i].name l[i].type) = strOfNums (keyT l[j].name l[j].type) from e] at h1
 have := cmpB_self (keyT l[j].name l[j].type)
 unfold cmpB at this
 omega
theorem KeyOk.sorted {l : List Slt} (h : KeyOk l) : keysP (l.map kx) = l.map (fun x => (ksB x.name x.type).data.toList) := by
 unfold keysP
 rw [List.map_map, show ((fun p : ByteArray × Slt => p.1.data.toList) ∘ kx) = fun x => (ksB x.name x.type).data.toList from rfl]
 refine List.mergeSort_of_pairwise ?_
 rw [List.pairwise_map, List.pairwise_iff_getElem]
 intro i j hi hj hij
 have h1 := h.lt j i hij hj
 simp only [List.getD_eq_getElem?_getD, List.getElem?_eq_getElem hi, List.getElem?_eq_getElem hj, Option.getD_some] at h1
 simp only [leB, decide_eq_true_eq]
 exact List.le_of_lt (less_of _ _ h1)
theorem KeyOk.set {l : List Slt} (h : KeyOk l) {i : Nat} (hi : i < l.length) {x : Slt} (hn : x.name = (l.getD i VK).name) (ht : x.type = (l.getD i VK).type) : KeyOk (l.set i x) := by
 have g : ∀ j, ((l.set i x).getD j VK).name = (l.getD j VK).name ∧ ((l.set i x).getD j VK).type = (l.getD j VK).type := by
  intro j
  simp only [List.getD_eq_getElem?_getD, List.getElem?_set]
  by_cases e : i = j
  ·subst e
   simp only [if_pos, hi, Option.getD_some]
   simp only [List.getD_eq_getElem?_getD] at hn ht
   exact ⟨hn, ht⟩
  ·rw [if_neg e]
   exact ⟨rfl, rfl⟩
 constructor
 ·intro j hj
  rw [List.length_set] at hj
  rw [(g j).1, (g j).2]
  exact h.1 j hj
 ·intro j hj
  rw [List.length_set] at hj
  have := h.2 j hj
  unfold aheadB at this ⊢
  rw [(g j).1, (g j).2, (g (j + 1)).1, (g (j + 1)).2]
  exact this
def findS (n : List (List Int)) (t : Int) (l : List Slt) : Option Nat := l.findIdx? (isS n t)
theorem KeyOk.look {n : List (List Int)} {t : Int} (hn : nameOk n = true) (ht : typeOk t = true) : ∀ {l : List Slt}, (∀ x ∈ l, nameOk x.name = true ∧ typeOk x.type = true) → lookA (ksB n t) (l.map kx) = (findS n t l).map (fun i => l.getD i VK)
 | [], _ => rfl
 | x :: l, h => by
  have hx := h x (List.mem_cons_self ..)
  have ih := KeyOk.look hn ht (l := l) (fun y hy => h y (List.mem_cons_of_mem _ hy))
  unfold findS at ih ⊢
  rw [List.map_cons, List.findIdx?_cons]
  by_cases e : isS n t x = true
  ·rw [if_pos e]
   unfold isS at e
   simp only [Bool.and_eq_true, decide_eq_true_eq] at e
   have en := (cmpN_zero (nameOk_bytes hx.1) (nameOk_bytes hn)).1 e.1
   unfold kx
   rw [lookA, if_pos (by rw [en, e.2])]
   rfl
  ·rw [if_neg e]
   have ne : ksB x.name x.type ≠ ksB n t := by
    intro q
    have := ksB_inj hx.1 hn hx.2 ht q
    apply e
    unfold isS
    simp [this.1, this.2]
   show lookA (ksB n t) ((ksB x.name x.type, x) :: l.map kx) = _
   rw [lookA, if_neg ne, ih]
   cases l.findIdx? (isS n t) <;> rfl
theorem KeyOk.mem {l : List Slt} (h : KeyOk l) : ∀ x ∈ l, nameOk x.name = true ∧ typeOk x.type = true := by
 intro x hx
 obtain ⟨i, hi, rfl⟩ := List.getElem_of_mem hx
 have := h.1 i hi
 simpa only [List.getD_eq_getElem?_getD, List.getElem?_eq_getElem hi, Option.getD_some] using this
theorem KeyOk.put {l : List Slt} (h : KeyOk l) {i : Nat} (hi : i < l.length) {x : Slt} (hn : x.name = (l.getD i VK).name) (ht : x.type = (l.getD i VK).type) : putA (ksB (l.getD i VK).name (l.getD i VK).type) x (l.map kx) = (l.set i x).map kx := by
 have hg : l.getD i VK = l[i] := by rw [List.getD_eq_getElem?_getD, List.getElem?_eq_getElem hi, Option.getD_some]
 rw [putA_at (j := i) (v := l.getD i VK) h.apart (by rw [List.getElem?_map, List.getElem?_eq_getElem hi, hg]; rfl), List.map_set]
 unfold kx
 rw [hn, ht]
theorem KeyOk.snoc {l : List Slt} (h : KeyOk l) {k : Nat} (hk : k < l.length) : putA (ksB (l.getD k VK).name (l.getD k VK).type) (l.getD k VK) ((l.take k).map kx) = (l.take (k + 1)).map kx := by
 have hg : l.getD k VK = l[k] := by rw [List.getD_eq_getElem?_getD, List.getElem?_eq_getElem hk, Option.getD_some]
 rw [putA_none, List.take_succ_eq_append_getElem hk, List.map_append, hg]
 ·rfl
 ·intro p hp e
  obtain ⟨x, hx, rfl⟩ := List.mem_map.1 hp
  obtain ⟨i, hi, hix⟩ := List.getElem_of_mem hx
  rw [List.length_take] at hi
  rw [List.getElem_take] at hix
  have h1 := List.pairwise_iff_getElem.1 (List.pairwise_map.1 h.apart) i k (by omega) hk (by omega)
  rw [hix, hg] at *
  exact h1 e
def IsSl (w : World) (v : Value) (x : Slt) : Prop := ∃ na nc ra rc, v = .agg #[.slice na x.name.length nc, .int .i64 x.type, .int .i64 x.kind, .slice ra x.rrs.length rc, .int .i64 x.rank, .int .i64 x.till, .int .i64 x.used] ∧ HasS2 w (.slice na x.name.length nc) (.slice ra x.rrs.length rc) x
def EntM (w0 w : World) (b : Nat) (E : List (ByteArray × Slt)) : Prop := ∃ ps, MapV w b ps ∧ Two (AtKeys ByteArray (IsSl w0)) ps E
theorem EntM.lt {w0 w : World} {b : Nat} {E : List (ByteArray × Slt)} (h : EntM w0 w b E) : b < w.heap.size := h.choose_spec.1.lt
theorem EntM.kept {w0 w w' : World} {b : Nat} {E : List (ByteArray × Slt)} (h : EntM w0 w b E) (hk : w'.heap[b]? = w.heap[b]?) : EntM w0 w' b E := by
 obtain ⟨ps, h1, h2⟩ := h
 exact ⟨ps, h1.kept hk, h2⟩
theorem EntM.below {w0 w w' : World} {b : Nat} {E : List (ByteArray × Slt)} (h : EntM w0 w b E) (hb : Below w.heap.size w w') : EntM w0 w' b E := h.kept (hb.block b h.lt)
theorem entM_made (w0 w : World) : EntM w0 (w.alloc (.map #[] 0)) w.heap.size [] := ⟨[], mapV_made w, .nil⟩
theorem entM_put {P : Program} {t k e : TypeId} {w0 w : World} {b : Nat} {E : List (ByteArray × Slt)} {v : Value} {x : Slt} (ht : P.underlying t = some (.map k e)) (hk : P.underlying k = some .string) (h : EntM w0 w b E) (s : ByteArray) (hs : s.size ≤ maxLen) (hv : IsSl w0 v x) :
  ∃ w', (Instr.mapUpdate t (.map (some b)) (.string s) v).run P w = .ok () w' ∧ EntM w0 w' b (putA s x E) ∧ w.grownBy w' (some b) := by
 obtain ⟨ps, h1, h2⟩ := h
 obtain ⟨w', h3, h4, h5⟩ := mapV_put ht hk h1 s hs v
 exact ⟨w', h3, ⟨_, h4, two_put h2 hv h1.apart (fun a y _ _ z hz => hz)⟩, h5⟩
theorem entM_look {w0 w : World} {b : Nat} {E : List (ByteArray × Slt)} (h : EntM w0 w b E) (s : ByteArray) : ∃ ps, MapV w b ps ∧ ((lookA s ps = none ∧ lookA s E = none) ∨ ∃ v x, lookA s ps = some v ∧ lookA s E = some x ∧ IsSl w0 v x) := by
 obtain ⟨ps, h1, h2⟩ := h
 refine ⟨ps, h1, ?_⟩
 rcases two_look (k := s) h2 with q | ⟨v, u, q1, q2, q3, _⟩
 ·exact .inl q
 ·exact .inr ⟨v, u, q1, q2, q3⟩
theorem entM_keys {w0 w : World} {b : Nat} {E : List (ByteArray × Slt)} (h : EntM w0 w b E) : ∃ ps, MapV w b ps ∧ ps.length = E.length ∧ keysP ps = keysP E := by
 obtain ⟨ps, h1, h2⟩ := h
 refine ⟨ps, h1, ?_, two_keysP h2⟩
 have := congrArg List.length (two_keysP h2)
 rwa [keysP_length, keysP_length] at this
theorem put_wp {P : Program} {w w' : World} {o : Oper} {a : Act} {K : Act → World → Prop} {Q : Exit → Act → World → Prop} (m x v : Operand) (t : TypeId) (hop : o.op = Op.mapUpdate t m x v) (mv xv vv : Value) (hm : a.eval m = mv) (hx : a.eval x = xv) (hv : a.eval v = vv)
  (hrun : (Instr.mapUpdate t mv xv vv).run P w = .ok () w') (h : K (a.put o.dst undef) w') : Oper.wp P o a w K Q := by
 unfold Oper.wp
 simp [execOp, hop, hm, hx, hv, hrun, Result.andThen]
 exact h
theorem flat_len : ∀ (ls : List (List Int)), (∀ l ∈ ls, l.length ≤ 15) → (ls.flatMap (· ++ [0])).length ≤ ls.length * 16
 | [], _ => by simp
 | l :: t, h => by
  have h1 := h l (List.mem_cons_self ..)
  have h2 := flat_len t (fun x hx => h x (List.mem_cons_of_mem _ hx))
  simp only [List.flatMap_cons, List.length_append, List.length_cons, List.length_nil]
  omega
theorem keyN_len {n : List (List Int)} (h : n.length ≤ 6) (h2 : ∀ k, k < n.length → (n.getD k []).length ≤ 15) : (keyN n).length ≤ 96 := by
 have h3 := flat_len n.reverse (fun l hl => by
  obtain ⟨k, hk, hkl⟩ := List.getElem_of_mem (List.mem_reverse.1 hl)
  have := h2 k hk
  rwa [List.getD_eq_getElem?_getD, List.getElem?_eq_getElem hk, Option.getD_some, hkl] at this)
 rw [List.length_reverse] at h3
 unfold keyN
 omega
theorem strOfNums_size (l : List Int) : (strOfNums l).size = l.length := by
 unfold strOfNums
 simp [ByteArray.size]
theorem ksB_size {n : List (List Int)} {t : Int} (h : n.length ≤ 6) (h2 : ∀ k, k < n.length → (n.getD k []).length ≤ 15) : (ksB n t).size ≤ maxLen := by
 have e : (ksB n t).size = (keyT n t).length := strOfNums_size _
 rw [e]
 unfold keyT
 rw [List.length_append]
 have h3 := put16_length [] t
 have h4 := keyN_len h h2
 simp only [List.length_nil] at h3
 unfold maxLen
 omega
theorem strOfNums_append (a b : List Int) : strOfNums a ++ strOfNums b = strOfNums (a ++ b) := by
 apply ByteArray.ext
 simp [strOfNums]
end Go.Proofs.YtaehfeobfkaicaaGreat
