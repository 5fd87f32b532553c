/-
  Plain facts: a row of structs in memory, c cells each, whatever they are. No program is named here. Steps of a region that draws its order: an append to a row of the call's own. No program is named here.
-/
import Derived.Test.YtpolekinfobecaaGreatCacheTickG04
import Derived.Test.YtpolekinfobecaaGreatCacheTickG00
import Derived.Deep.RegionLaw
namespace Go.Proofs.YtpolekinfobecaaGreat
open Go.RowKit
set_option linter.unusedVariables false

/-- What E says of a struct's cells stands as long as nothing old turns. -/
def Stays {α : Type} (E : World → List Value → α → Prop) : Prop := ∀ {w w' : World} {vs : List Value} {x : α}, E w vs x → Below w.heap.size w w' → E w' vs x
/-- Structs behind a slice's head, as they came in. -/
def LiesG {α : Type} (c : Nat) (E : World → List Value → α → Prop) (d : α) (w : World) (a : Option Addr) (xs : List α) : Prop :=
 xs = [] ∨ ∃ b off, a = some ⟨b, off, none⟩ ∧ b < w.heap.size ∧ ∀ i, i < xs.length → ∃ vs, w.rangeAt b (off + i * c) vs ∧ E w vs (xs.getD i d)
/-- The slice v has these structs. -/
def HasG {α : Type} (c : Nat) (E : World → List Value → α → Prop) (d : α) (w : World) (v : Value) (xs : List α) : Prop :=
 (v = .slice none 0 0 ∧ xs = []) ∨ ∃ g off cap, v = .slice (some ⟨g, off, none⟩) xs.length cap ∧ g < w.heap.size ∧ xs.length ≤ cap ∧ cap ≤ maxLen ∧ ∀ i, i < xs.length → ∃ vs, w.rangeAt g (off + i * c) vs ∧ E w vs (xs.getD i d)
section
variable {α : Type} {c : Nat} {E : World → List Value → α → Prop} {d : α} {w w' : World} {a : Option Addr} {v : Value} {xs : List α}
theorem LiesG.below (hE : Stays E) (h : LiesG c E d w a xs) (hb : Below w.heap.size w w') : LiesG c E d w' a xs := by
 rcases h with h | ⟨b, off, ha, hlt, hc⟩
 ·exact .inl h
 ·refine .inr ⟨b, off, ha, Nat.lt_of_lt_of_le hlt hb.size, fun i hi => ?_⟩
  obtain ⟨vs, h1, h2⟩ := hc i hi
  exact ⟨vs, range_below h1 hlt hb, hE h2 hb⟩
theorem LiesG.here (h : LiesG c E d w a xs) {k : Nat} (hk : k < xs.length) : ∃ b off vs, a = some ⟨b, off, none⟩ ∧ b < w.heap.size ∧ w.rangeAt b (off + k * c) vs ∧ E w vs (xs.getD k d) := by
 rcases h with rfl | ⟨b, off, ha, hlt, hc⟩
 ·simp at hk
 ·obtain ⟨vs, h1, h2⟩ := hc k hk
  exact ⟨b, off, vs, ha, hlt, h1, h2⟩
theorem HasG.below (hE : Stays E) (h : HasG c E d w v xs) (hb : Below w.heap.size w w') : HasG c E d w' v xs := by
 rcases h with h | ⟨g, off, cap, hv, hlt, hl, hm, hc⟩
 ·exact .inl h
 ·refine .inr ⟨g, off, cap, hv, Nat.lt_of_lt_of_le hlt hb.size, hl, hm, fun i hi => ?_⟩
  obtain ⟨vs, h1, h2⟩ := hc i hi
  exact ⟨vs, range_below h1 hlt hb, hE h2 hb⟩
theorem HasG.form (h : HasG c E d w v xs) : ∃ a cap, v = .slice a xs.length cap ∧ xs.length ≤ cap ∧ cap ≤ maxLen := by
 rcases h with ⟨rfl, rfl⟩ | ⟨g, off, cap, hv, hlt, hl, hm, hc⟩
 ·exact ⟨none, 0, rfl, Nat.le_refl _, Nat.zero_le _⟩
 ·exact ⟨_, cap, hv, hl, hm⟩
theorem HasG.here {len cap : Nat} (h : HasG c E d w (.slice a len cap) xs) {k : Nat} (hk : k < xs.length) : ∃ b off vs, a = some ⟨b, off, none⟩ ∧ b < w.heap.size ∧ w.rangeAt b (off + k * c) vs ∧ E w vs (xs.getD k d) := by
 rcases h with ⟨_, rfl⟩ | ⟨g, off, cap', hv, hlt, hl, hm, hc⟩
 ·simp at hk
 ·simp only [Value.slice.injEq] at hv
  obtain ⟨vs, h1, h2⟩ := hc k hk
  exact ⟨g, off, vs, hv.1, hlt, h1, h2⟩
theorem HasG.map {E' : World → List Value → α → Prop} (hE : ∀ vs x, E w vs x → E' w vs x) (h : HasG c E d w v xs) : HasG c E' d w v xs := by
 rcases h with h | ⟨g, off, cap, hv, hlt, hl, hm, hc⟩
 ·exact .inl h
 ·refine .inr ⟨g, off, cap, hv, hlt, hl, hm, fun i hi => ?_⟩
  obtain ⟨vs, h1, h2⟩ := hc i hi
  exact ⟨vs, h1, hE _ _ h2⟩
end

/-- What is owned: O B e w vs x: the struct's cells vs, what they lead to lies in blocks of B .. e - 1. -/
structure OwnsG {α : Type} (c : Nat) (O : Nat → Nat → World → List Value → α → Prop) : Prop where
 cells : ∀ {B e : Nat} {w : World} {vs : List Value} {x : α}, O B e w vs x → vs.length = c
 below : ∀ {B e : Nat} {w w' : World} {vs : List Value} {x : α}, O B e w vs x → Below w.heap.size w w' → O B e w' vs x
 outside : ∀ {B e C D : Nat} {w w' : World} {vs : List Value} {x : α}, O B e w vs x → Outside C D w w' → e ≤ C ∨ D ≤ B → O B e w' vs x
 wide : ∀ {B e B' e' : Nat} {w : World} {vs : List Value} {x : α}, O B e w vs x → B' ≤ B → e ≤ e' → O B' e' w vs x
/-- The first k structs of a row that is being filled, in block g. -/
def FillG {α : Type} (c : Nat) (O : Nat → Nat → World → List Value → α → Prop) (d : α) (g n k : Nat) (w : World) (xs : List α) : Prop :=
 g < w.heap.size ∧ w.there g 0 (n * c) ∧ ∀ i, i < k → ∃ vs, w.rangeAt g (i * c) vs ∧ O (g + 1) w.heap.size w vs (xs.getD i d)
section
variable {α : Type} {c : Nat} {O : Nat → Nat → World → List Value → α → Prop} {d : α} {w w' : World} {v : Value} {xs : List α} {g n k : Nat}
theorem FillG.below (hO : OwnsG c O) (h : FillG c O d g n k w xs) (hb : Below w.heap.size w w') : FillG c O d g n k w' xs := by
 obtain ⟨h0, h1, h2⟩ := h
 refine ⟨Nat.lt_of_lt_of_le h0 hb.size, fun j hj => ?_, fun i hi => ?_⟩
 ·have := h1 j hj
  rw [← hb.cell (p := ⟨g, 0 + j, none⟩) h0, ← hb.frozen (p := ⟨g, 0 + j, none⟩) h0] at this
  exact this
 ·obtain ⟨vs, q1, q2⟩ := h2 i hi
  exact ⟨vs, range_below q1 h0 hb, hO.wide (hO.below q2 hb) (Nat.le_refl _) hb.size⟩
theorem FillG.here (h : FillG c O d g n k w xs) (hk : k < n) : w.there g (k * c) c := fun j hj => by
 have hle : k * c + c ≤ n * c := by
  have := Nat.mul_le_mul_right c (show k + 1 ≤ n from hk)
  rwa [Nat.add_mul, Nat.one_mul] at this
 have := h.2.1 (k * c + j) (by omega)
 rwa [Nat.zero_add] at this
theorem FillG.step (hO : OwnsG c O) (h : FillG c O d g n k w xs) (hk : k < n) {vs : List Value} (ho : O (g + 1) w.heap.size w vs (xs.getD k d)) : FillG c O d g n (k + 1) (w.setCells g (k * c) vs) xs := by
 have u := outside_sets g vs (k * c) w
 have ht := h.here hk
 have hc := hO.cells ho
 obtain ⟨h0, h1, h2⟩ := h
 refine ⟨Nat.lt_of_lt_of_le h0 u.size, World.there_setCells h1 _ _ _, fun i hi => ?_⟩
 by_cases e : i = k
 ·subst e
  exact ⟨vs, World.rangeAt_setCells_same _ _ _ _ (by rw [hc]; exact ht), hO.wide (hO.outside ho u (.inr (Nat.le_refl _))) (Nat.le_refl _) u.size⟩
 ·obtain ⟨us, q1, q2⟩ := h2 i (by omega)
  have hl : i * c + c ≤ k * c := by
   have := Nat.mul_le_mul_right c (show i + 1 ≤ k by omega)
   rwa [Nat.add_mul, Nat.one_mul] at this
  refine ⟨us, World.rangeAt_setCells_apart q1 _ _ _ (.inr (.inl ?_)), hO.wide (hO.outside q2 u (.inr (Nat.le_refl _))) (Nat.le_refl _) u.size⟩
  rw [hO.cells q2]
  exact hl
theorem FillG.outside (hO : OwnsG c O) {C D : Nat} (h : FillG c O d g n k w xs) (u : Outside C D w w') (hd : D ≤ g) : FillG c O d g n k w' xs := by
 obtain ⟨h0, h1, h2⟩ := h
 have hk : w'.heap[g]? = w.heap[g]? := u.block g h0 (by omega)
 have hc : ∀ j, w'.cell? ⟨g, j, none⟩ = w.cell? ⟨g, j, none⟩ := fun j => by unfold World.cell?; rw [hk]
 have hf : ∀ j, w'.frozen? ⟨g, j, none⟩ = w.frozen? ⟨g, j, none⟩ := fun j => by unfold World.frozen?; rw [hk]
 refine ⟨Nat.lt_of_lt_of_le h0 u.size, fun j hj => by rw [hc, hf]; exact h1 j hj, fun i hi => ?_⟩
 obtain ⟨vs, q1, q2⟩ := h2 i hi
 exact ⟨vs, fun j v hv => (hc _).trans (q1 j v hv), hO.wide (hO.outside q2 u (.inr (by omega))) (Nat.le_refl _) u.size⟩
end
/-- The slice v, in blocks from B on, owns these structs. -/
def OwnG {α : Type} (c : Nat) (O : Nat → Nat → World → List Value → α → Prop) (d : α) (B : Nat) (w : World) (v : Value) (xs : List α) : Prop :=
 ∃ g, v = .slice (some ⟨g, 0, none⟩) xs.length xs.length ∧ B ≤ g ∧ xs.length ≤ maxLen ∧ FillG c O d g xs.length xs.length w xs
section
variable {α : Type} {c : Nat} {O : Nat → Nat → World → List Value → α → Prop} {d : α} {w w' : World} {v : Value} {xs : List α} {B : Nat}
theorem OwnG.has {E : World → List Value → α → Prop} (hE : ∀ {B e : Nat} {w : World} {vs : List Value} {x : α}, O B e w vs x → E w vs x) (h : OwnG c O d B w v xs) : HasG c E d w v xs := by
 obtain ⟨g, rfl, _, hm, hf⟩ := h
 refine .inr ⟨g, 0, xs.length, rfl, hf.1, Nat.le_refl _, hm, fun i hi => ?_⟩
 obtain ⟨vs, q1, q2⟩ := hf.2.2 i hi
 exact ⟨vs, by rw [Nat.zero_add]; exact q1, hE q2⟩
theorem OwnG.outside (hO : OwnsG c O) {C D : Nat} (h : OwnG c O d B w v xs) (u : Outside C D w w') (hd : D ≤ B) : OwnG c O d B w' v xs := by
 obtain ⟨g, hv, hB, hm, hf⟩ := h
 exact ⟨g, hv, hB, hm, hf.outside hO u (by omega)⟩
theorem OwnG.below (hO : OwnsG c O) (h : OwnG c O d B w v xs) (hb : Below w.heap.size w w') : OwnG c O d B w' v xs := by
 obtain ⟨g, hv, hB, hm, hf⟩ := h
 exact ⟨g, hv, hB, hm, hf.below hO hb⟩
end
/-- make of a row of structs. -/
theorem run_makeG {P : Program} (c : Nat) (t e : TypeId) (zs : Array Value) (bytes : Nat) (ht : P.underlying t = some (.slice e)) (hinfo : (P.info? e).map (fun i => (i.zero, i.size, i.bytes)) = some (some (.agg zs), c, bytes))
  (kl kc : IntKind) (n : Nat) (hbytes : bytes * n ≤ 281474976710656) (h63 : n ≤ 9223372036854775807) (w : World) :
  (Instr.makeSlice t (.int kl (n : Int)) (.int kc (n : Int))).run P w = .ok (.slice (some ⟨w.heap.size, 0, none⟩) n n) (w.alloc (.cells (madeCells zs (n * c)) e)) := by
 obtain ⟨i, hi, hzz⟩ := Option.map_eq_some_iff.1 hinfo
 simp only [Prod.mk.injEq] at hzz
 obtain ⟨hz, hs, hb⟩ := hzz
 subst hb
 have hb' : (i.bytes : Int) * (n : Int) ≤ 281474976710656 := by
  have h : ((i.bytes * n : Nat) : Int) ≤ 281474976710656 := by omega
  rwa [Int.natCast_mul] at h
 have hr := run_make (P := P) w t e i (.agg zs) ht hi hz kl kc n n (by omega) (Int.le_refl _) hb' (by omega)
 simp only [Int.toNat_natCast, hs] at hr
 exact hr
end Go.Proofs.YtpolekinfobecaaGreat

namespace Go.Proofs.YtpolekinfobecaaGreat
open Go.RowKit

section
variable {P : Program} {w : World}

theorem run_append_bytes (t ty e : TypeId) (ht : P.underlying t = some (.slice e)) (hinfo : (P.info? e).map (fun i => (i.zero, i.size, i.bytes)) = some (some (.int .u8 0), 1, 1))
  (base : Nat) (v vx : Value) (l m : List Int) (hown : Own base e w v l) (hr : Reads w vx m) (hlen : l.length + m.length ≤ 1099511627776) (hbase : base ≤ w.heap.size) :
  ∃ v' w', (Builtin.append_ #[t, t] ty #[v, vx]).run P w = .ok v' w' ∧ Own base e w' v' (l ++ m) ∧ w.grownBy w' v.ownBlock := by
 obtain ⟨i0, hi, hz0, hz1, hz2⟩ := info_parts hinfo
 rcases hr with ⟨rfl, rfl⟩ | ⟨ad, cap, rfl, hc⟩
 ·exact ⟨v, w, run_append_owned_none w base t ty e i0 1 ht hi v l.length (l.map (Value.int .u8)) hown, by simpa using hown, ⟨rfl, rfl, rfl, Nat.le_refl _, fun _ _ _ => rfl⟩⟩
 ·obtain ⟨v', w', h1, h2, h3, _⟩ := run_append_own (P := P) w base t ty e i0 (.int .u8 0) 1 1 ht hi hz0 hz1 hz2 rfl (by decide) v l.length (l.map (Value.int .u8)) hown ad m.length cap (m.map (Value.int .u8)) (by simp) (news_of hc) (one_of m) (by unfold maxLen; omega) (by omega) hbase
  exact ⟨v', w', h1, by simpa [Own] using h2, h3⟩

/-- 'append(s, x...)' of bytes, as a step of a region. -/
theorem step_append_bytes {ops : Array Oper} {o : Oper} {a : Act} {K : Act → World → Prop} {Q : Exit → Act → World → Prop} {E : Prop} (hgd : o.guard = none) (s x : Operand) (t e : TypeId)
  (ho : o.op = .call { callee := .builtin .append, args := #[s, x], argTypes := #[t, t] }) (ht : P.underlying t = some (.slice e))
  (hinfo : (P.info? e).map (fun i => (i.zero, i.size, i.bytes)) = some (some (.int .u8 0), 1, 1))
  (base : Nat) (v vx : Value) (l m : List Int) (hs : a.eval s = v) (hx : a.eval x = vx) (hown : Own base e w v l) (hr : Reads w vx m) (hlen : l.length + m.length ≤ 1099511627776) (hbase : base ≤ w.heap.size)
  (h : ∀ v' w', Own base e w' v' (l ++ m) → w.grownBy w' v.ownBlock → K (a.put o.dst v') w') : if Region.wanted o (yielded ops a.tmps) = true then Oper.wp P o a w K Q else E := by
 have hw : Region.wanted o (yielded ops a.tmps) = true := by simp [Region.wanted, hgd]
 rw [if_pos hw]
 obtain ⟨v', w', hr', h2, h3⟩ := run_append_bytes (P := P) t o.type e ht hinfo base v vx l m hown hr hlen hbase
 unfold Oper.wp execOp
 simp only [ho, resolve, invoke, builtin, Sem.run_bind, Sem.run_pure, Result.andThen_ok, List.map_toArray, List.map_cons, List.map_nil, hs, hx, hr']
 exact h v' w' h2 h3

/-- Some values more behind an own row of values of one cell each. -/
theorem run_append_row (t ty e : TypeId) (ht : P.underlying t = some (.slice e)) (hinfo : (P.info? e).map (fun i => (i.zero, i.size, i.bytes)) = some (some (.slice none 0 0), 1, 24))
  (base : Nat) (v vx : Value) (xs us : List Value) (hown : w.ownsRow base e 1 v xs.length xs)
  (hr : (vx = .slice none 0 0 ∧ us = []) ∨ ∃ ad cap, vx = .slice (some ad) us.length cap ∧ ∀ j y, us[j]? = some y → w.cell? (ad.add j) = some y) (hu : ∀ y ∈ us, y.oneCell' = true)
  (hlen : xs.length + us.length ≤ 1099511627776) (hbase : base ≤ w.heap.size) :
  ∃ v' w', (Builtin.append_ #[t, t] ty #[v, vx]).run P w = .ok v' w' ∧ w'.ownsRow base e 1 v' (xs.length + us.length) (xs ++ us) ∧ w.grownBy w' v.ownBlock := by
 obtain ⟨i0, hi, hz0, hz1, hz2⟩ := info_parts hinfo
 rcases hr with ⟨rfl, rfl⟩ | ⟨ad, cap, rfl, hc⟩
 ·exact ⟨v, w, run_append_owned_none w base t ty e i0 1 ht hi v xs.length xs hown, by simpa using hown, ⟨rfl, rfl, rfl, Nat.le_refl _, fun _ _ _ => rfl⟩⟩
 ·obtain ⟨v', w', h1, h2, h3, _⟩ := run_append_own (P := P) w base t ty e i0 (.slice none 0 0) 1 24 ht hi hz0 hz1 hz2 rfl (by decide) v xs.length xs hown ad us.length cap us (by simp) hc hu (by unfold maxLen; omega) (by omega) hbase
  exact ⟨v', w', h1, h2, h3⟩

/-- 'append(s, x...)' of slices, as a step of a region. -/
theorem step_append_row {ops : Array Oper} {o : Oper} {a : Act} {K : Act → World → Prop} {Q : Exit → Act → World → Prop} {E : Prop} (hgd : o.guard = none) (s x : Operand) (t e : TypeId)
  (ho : o.op = .call { callee := .builtin .append, args := #[s, x], argTypes := #[t, t] }) (ht : P.underlying t = some (.slice e))
  (hinfo : (P.info? e).map (fun i => (i.zero, i.size, i.bytes)) = some (some (.slice none 0 0), 1, 24))
  (base : Nat) (v vx : Value) (xs us : List Value) (hs : a.eval s = v) (hx : a.eval x = vx) (hown : w.ownsRow base e 1 v xs.length xs)
  (hr : (vx = .slice none 0 0 ∧ us = []) ∨ ∃ ad cap, vx = .slice (some ad) us.length cap ∧ ∀ j y, us[j]? = some y → w.cell? (ad.add j) = some y) (hu : ∀ y ∈ us, y.oneCell' = true)
  (hlen : xs.length + us.length ≤ 1099511627776) (hbase : base ≤ w.heap.size)
  (h : ∀ v' w', w'.ownsRow base e 1 v' (xs.length + us.length) (xs ++ us) → w.grownBy w' v.ownBlock → K (a.put o.dst v') w') : if Region.wanted o (yielded ops a.tmps) = true then Oper.wp P o a w K Q else E := by
 have hw : Region.wanted o (yielded ops a.tmps) = true := by simp [Region.wanted, hgd]
 rw [if_pos hw]
 obtain ⟨v', w', hr', h2, h3⟩ := run_append_row (P := P) t o.type e ht hinfo base v vx xs us hown hr hu hlen hbase
 unfold Oper.wp execOp
 simp only [ho, resolve, invoke, builtin, Sem.run_bind, Sem.run_pure, Result.andThen_ok, List.map_toArray, List.map_cons, List.map_nil, hs, hx, hr']
 exact h v' w' h2 h3

/-- One value more: what the row of the append's second argument is, in a world that has just been given it. -/
theorem one_more (w : World) (e : TypeId) (u : Value) : (Value.slice (some ⟨w.heap.size, 0, none⟩) 1 1 = .slice none 0 0 ∧ [u] = []) ∨ ∃ ad cap, Value.slice (some ⟨w.heap.size, 0, none⟩) 1 1 = .slice (some ad) [u].length cap ∧ ∀ j y, [u][j]? = some y → (w.alloc (.cells #[u] e)).cell? (ad.add j) = some y := by
 refine .inr ⟨_, 1, rfl, fun j y hj => ?_⟩
 have hj0 : j = 0 := by
  have := (List.getElem?_eq_some_iff.1 hj).1
  simp at this
  exact this
 subst hj0
 have hh : (w.alloc (.cells #[u] e)).heap[w.heap.size]? = some (.cells #[u] e) := by
  show (w.heap.push _)[w.heap.size]? = _
  simp
 rw [Addr.add_lit]
 unfold World.cell?
 simp only [hh]
 simpa using hj
end
end Go.Proofs.YtpolekinfobecaaGreat
