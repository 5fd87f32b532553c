/-
  Plain facts: a book (a map of pages, each a map of records) in memory, and what it says. No program is named here. Plain facts: a name that ends with another, and the end of a list of texts in memory. No program is named here. Plain facts: whether a book has a record of a name, or of one under it. No program is named here. Plain facts: an append of bytes in a fenced walk. No program is named here. Plain facts: the book of a zone's records has a name just if the records have. No program is named here. Plain facts: which records may be a zone's, said by neighbours and said by all. No program is named here. Plain facts: records that may be are short. No program is named here. Plain facts: zones that may be are short; a new zone. No program is named here. Plain facts: a zone's records of a name and a type, the first SOA, and a row of records that is appended to. No program is named here. Plain facts: what one zone has alone. No program is named here. Plain facts: what HasName answers. No program is named here. Plain facts: the decimal digits of a byte, and an address as four numbers with dots between. No program is named here. Plain facts: an address read from its text, as the program does it and as the specification does it, and that both read the same. No program is named here. Plain facts: names that are the same, names that end with others, and their order. No program is named here. Plain facts: the key of a record among those of its name. No program is named here. Plain facts: a page of a zone's book, in the order of its keys, is what the zone says of that name, in the zone's order. No program is named here. Plain facts: a text of bytes gone through rune by rune, and great letters turned into small ones. No program is named here. What NameGet reads, in plain words: one step after another, each a label or a pointer. What NameRead reads, in plain words. Plain facts: a name's text, label by label. No program is named here. Plain facts: a name comes back from its text, great letters being as small ones. No program is named here. Plain facts: a row of slices put behind another one; a name with one label more ahead. No program is named here. Plain facts: what the law of the order of names asks for. No program is named here. Plain facts: the order of records. No program is named here.
-/
import Derived.Test.YtaehfeobfkaicaaGreatCacheGetG11
import Derived.Test.YtaehfeobfkaicaaGreatCacheGetG02
import Derived.Test.YtaehfeobfkaicaaGreatCacheGetG04
import Derived.Test.YtaehfeobfkaicaaGreatCacheGetG10
import Derived.Test.YtaehfeobfkaicaaGreatCacheGetG00
import Derived.OwnWalkIn
import Derived.Test.YtaehfeobfkaicaaGreatCacheGetG05
import Derived.Laws.BytesArg
import Derived.Test.YtaehfeobfkaicaaGreatCacheGetG03
import Derived.Lib.ItoaNum
import Derived.Lib.UnsafeStr
import Derived.Lib.Split
import Derived.Lib.SplitLaws
import Derived.Sort.KeysCollected
import Derived.Lib.OthersKept
import Derived.Test.YtaehfeobfkaicaaGreatCacheGetG08
namespace Go.Proofs.YtaehfeobfkaicaaGreat
open Go.RowKit
set_option linter.unusedVariables false

def KeptX (W W' : World) : Prop := W.heap.size ≤ W'.heap.size ∧ ∀ p v, W.cell? p = some v → W'.cell? p = some v
theorem KeptX.refl (W : World) : KeptX W W := ⟨Nat.le_refl _, fun _ _ h => h⟩
theorem KeptX.trans {A B C : World} (h : KeptX A B) (k : KeptX B C) : KeptX A C := ⟨Nat.le_trans h.1 k.1, fun p v q => k.2 p v (h.2 p v q)⟩
theorem keptX_below {W W' : World} (h : Below W.heap.size W W') : KeptX W W' := ⟨h.size, fun p v q => (h.cell (block_lt_of_cell q)).trans q⟩
def isMapO : Obj → Bool
 | .map _ _ => true
 | _ => false
def KeptO (W W' : World) : Prop := W.heap.size ≤ W'.heap.size ∧ ∀ (g : Nat) (o : Obj), W.heap[g]? = some o → isMapO o = false → W'.heap[g]? = some o
theorem KeptO.refl (W : World) : KeptO W W := ⟨Nat.le_refl _, fun _ _ h _ => h⟩
theorem KeptO.trans {A B C : World} (h : KeptO A B) (k : KeptO B C) : KeptO A C := ⟨Nat.le_trans h.1 k.1, fun g o q e => k.2 g o (h.2 g o q e) e⟩
theorem KeptO.x {W W' : World} (h : KeptO W W') : KeptX W W' := by
 refine ⟨h.1, fun p v q => ?_⟩
 cases ho : W.heap[p.block]? with
 | none => simp [World.cell?, ho] at q
 | some o =>
  have hm : isMapO o = false := by
   cases o <;> first | rfl | (simp [World.cell?, ho] at q)
  exact (World.cell?_of_block (w := W) ((h.2 _ _ ho hm).trans ho.symm)).trans q
theorem Has.keptX {w w' : World} {v : Value} {l : List Int} (h : Has w v l) (hk : KeptX w w') : Has w' v l := by
 rcases h with h | ⟨g, off, cap, hv, hlt, hl, hm, hc⟩
 ·exact .inl h
 ·exact .inr ⟨g, off, cap, hv, Nat.lt_of_lt_of_le hlt hk.1, hl, hm, fun i hi => hk.2 _ _ (hc i hi)⟩
theorem HasI.keptX {w w' : World} {v : Value} {l : List Int} (h : HasI w v l) (hk : KeptX w w') : HasI w' v l := by
 rcases h with h | ⟨g, off, cap, hv, hlt, hl, hm, hc⟩
 ·exact .inl h
 ·exact .inr ⟨g, off, cap, hv, Nat.lt_of_lt_of_le hlt hk.1, hl, hm, fun i hi => hk.2 _ _ (hc i hi)⟩
theorem HasL.keptX {w w' : World} {v : Value} {n : List (List Int)} (h : HasL w v n) (hk : KeptX w w') : HasL w' v n := by
 rcases h with h | ⟨g, off, cap, hv, hlt, hl, hm, hc⟩
 ·exact .inl h
 ·refine .inr ⟨g, off, cap, hv, Nat.lt_of_lt_of_le hlt hk.1, hl, hm, fun i hi => ?_⟩
  obtain ⟨u, h1, h2⟩ := hc i hi
  exact ⟨u, hk.2 _ _ h1, h2.keptX hk⟩
theorem HasR.keptX {w w' : World} {vn vt vx vi : Value} {r : Rec} (h : HasR w vn vt vx vi r) (hk : KeptX w w') : HasR w' vn vt vx vi r := ⟨h.name.keptX hk, h.to.keptX hk, h.text.keptX hk, h.nums.keptX hk⟩

inductive Two {α β : Type} (R : α → β → Prop) : List α → List β → Prop
 | nil : Two R [] []
 | cons {a b l m} : R a b → Two R l m → Two R (a :: l) (b :: m)
namespace Two
variable {α β : Type} {R R' : α → β → Prop}
theorem mono (f : ∀ a b, R a b → R' a b) {l : List α} {m : List β} (h : Two R l m) : Two R' l m := by
 induction h with
 | nil => exact .nil
 | cons h1 _ ih => exact .cons (f _ _ h1) ih
theorem left {l : List α} {m : List β} (h : Two R l m) : ∀ a ∈ l, ∃ b ∈ m, R a b := by
 induction h with
 | nil => intro a ha; simp at ha
 | cons h1 _ ih =>
  intro a ha
  rcases List.mem_cons.1 ha with rfl | ha
  ·exact ⟨_, List.mem_cons_self .., h1⟩
  ·obtain ⟨b, hb, hr⟩ := ih a ha
   exact ⟨b, List.mem_cons_of_mem _ hb, hr⟩
theorem right {l : List α} {m : List β} (h : Two R l m) : ∀ b ∈ m, ∃ a ∈ l, R a b := by
 induction h with
 | nil => intro a ha; simp at ha
 | cons h1 _ ih =>
  intro b hb
  rcases List.mem_cons.1 hb with rfl | hb
  ·exact ⟨_, List.mem_cons_self .., h1⟩
  ·obtain ⟨a, ha, hr⟩ := ih b hb
   exact ⟨a, List.mem_cons_of_mem _ ha, hr⟩
end Two
section
variable {κ α β : Type} [DecidableEq κ] {Q Q' : α → β → Prop}
abbrev AtKeys (κ : Type) {α β : Type} (Q : α → β → Prop) : κ × α → κ × β → Prop := fun a b => a.1 = b.1 ∧ Q a.2 b.2
theorem two_look {k : κ} {l : List (κ × α)} {m : List (κ × β)} (h : Two (AtKeys κ Q) l m) : (lookA k l = none ∧ lookA k m = none) ∨ ∃ v u, lookA k l = some v ∧ lookA k m = some u ∧ Q v u ∧ (k, v) ∈ l := by
 induction h with
 | nil => exact .inl ⟨rfl, rfl⟩
 | @cons a b l m h1 _ ih =>
  obtain ⟨a1, a2⟩ := a
  obtain ⟨b1, b2⟩ := b
  obtain ⟨h1, h2⟩ := h1
  simp only at h1 h2
  subst h1
  by_cases e : a1 = k
  ·subst e
   exact .inr ⟨a2, b2, by simp [lookA], by simp [lookA], h2, by simp⟩
  ·simp only [lookA, if_neg e]
   rcases ih with ih | ⟨v, u, i1, i2, i3, i4⟩
   ·exact .inl ih
   ·exact .inr ⟨v, u, i1, i2, i3, List.mem_cons_of_mem _ i4⟩
theorem two_put {k : κ} {v : α} {u : β} {l : List (κ × α)} {m : List (κ × β)} (h : Two (AtKeys κ Q) l m) (hv : Q' v u) (hA : l.Pairwise (fun p q => p.1 ≠ q.1)) (ho : ∀ a x, (a, x) ∈ l → a ≠ k → ∀ y, Q x y → Q' x y) : Two (AtKeys κ Q') (putA k v l) (putA k u m) := by
 induction h with
 | nil => exact .cons ⟨rfl, hv⟩ .nil
 | @cons a b l m h1 h0 ih =>
  obtain ⟨a1, a2⟩ := a
  obtain ⟨b1, b2⟩ := b
  obtain ⟨h1, h2⟩ := h1
  simp only at h1 h2
  subst h1
  obtain ⟨p1, p2⟩ := List.pairwise_cons.1 hA
  by_cases e : a1 = k
  ·subst e
   simp only [putA, if_true]
   refine .cons ⟨rfl, hv⟩ ?_
   clear ih hv h2 hA
   induction h0 with
   | nil => exact .nil
   | @cons a b l m q1 _ ih =>
    obtain ⟨q2, q3⟩ := List.pairwise_cons.1 p2
    refine .cons ⟨q1.1, ho a.1 a.2 (by simp) (fun e => p1 a (by simp) e.symm) _ q1.2⟩ (ih (fun p hp => p1 p (List.mem_cons_of_mem _ hp)) q3 (fun c x hx => ho c x ?_))
    rcases List.mem_cons.1 hx with hx | hx
    ·rw [hx]; exact List.mem_cons_self ..
    ·exact List.mem_cons_of_mem _ (List.mem_cons_of_mem _ hx)
  ·simp only [putA, if_neg e]
   exact .cons ⟨rfl, ho a1 a2 (by simp) e _ h2⟩ (ih p2 (fun c x hx => ho c x (List.mem_cons_of_mem _ hx)))
end

abbrev Pg := List (ByteArray × Rec)
abbrev Bk := List (ByteArray × Pg)
def IsRec (w : World) (v : Value) (r : Rec) : Prop := ∃ vn vt vx vi, v = .agg #[vn, .int .i64 r.type, .int .i64 r.ttl, .int .i64 r.addr, vt, vx, vi] ∧ HasR w vn vt vx vi r
theorem IsRec.keptX {w w' : World} {v : Value} {r : Rec} (h : IsRec w v r) (hk : KeptX w w') : IsRec w' v r := by
 obtain ⟨vn, vt, vx, vi, h1, h2⟩ := h
 exact ⟨vn, vt, vx, vi, h1, h2.keptX hk⟩
def PageM (w : World) (p : Nat) (P : Pg) : Prop := ∃ ps, MapV w p ps ∧ Two (AtKeys ByteArray (IsRec w)) ps P
theorem PageM.kept {w w' : World} {p : Nat} {P : Pg} (h : PageM w p P) (hp : w'.heap[p]? = w.heap[p]?) (hk : KeptX w w') : PageM w' p P := by
 obtain ⟨ps, h1, h2⟩ := h
 exact ⟨ps, h1.kept hp, h2.mono (fun a b h => ⟨h.1, h.2.keptX hk⟩)⟩
theorem PageM.lt {w : World} {p : Nat} {P : Pg} (h : PageM w p P) : p < w.heap.size := h.choose_spec.1.lt
def IsPage (n0 : Nat) (w : World) (b : Nat) (v : Value) (P : Pg) : Prop := ∃ p, v = .map (some p) ∧ n0 ≤ p ∧ p ≠ b ∧ PageM w p P
def BookM (n0 : Nat) (w : World) (b : Nat) (B : Bk) : Prop := n0 ≤ b ∧ ∃ ps, MapV w b ps ∧ Two (AtKeys ByteArray (IsPage n0 w b)) ps B ∧ ps.Pairwise (fun p q => p.2 ≠ q.2)
theorem BookM.below {n0 : Nat} {w w' : World} {b : Nat} {B : Bk} (h : BookM n0 w b B) (hb : Below w.heap.size w w') : BookM n0 w' b B := by
 obtain ⟨h0, ps, h1, h2, h3⟩ := h
 refine ⟨h0, ps, h1.below hb, h2.mono (fun a c h => ⟨h.1, ?_⟩), h3⟩
 obtain ⟨p, q1, q0, q2, q3⟩ := h.2
 exact ⟨p, q1, q0, q2, q3.kept (hb.block p q3.lt) (keptX_below hb)⟩
theorem BookM.lt {n0 : Nat} {w : World} {b : Nat} {B : Bk} (h : BookM n0 w b B) : b < w.heap.size := h.2.choose_spec.1.lt
end Go.Proofs.YtaehfeobfkaicaaGreat

namespace Go.Proofs.YtaehfeobfkaicaaGreat
open Go.RowKit

def endsWith (n z : List (List Int)) : Bool := decide (z.length ≤ n.length) && (cmpN (n.drop (n.length - z.length)) z == 0)
def under (n z : List (List Int)) : Bool := nameOk n && (nameOk z && endsWith n z)

theorem HasL.drop {w : World} {a : Option Addr} {m cap k : Nat} {n : List (List Int)} (h : HasL w (.slice a m cap) n) (hn : n.length = m) (hk : k ≤ m) :
  (a = none ∧ m = 0 ∧ cap = 0) ∨ ∃ g off, a = some ⟨g, off, none⟩ ∧ HasL w (.slice (if cap = k then some ⟨g, off, none⟩ else some ⟨g, off + k, none⟩) (m - k) (cap - k)) (n.drop k) := by
 subst hn
 rcases h with ⟨hv, rfl⟩ | ⟨g, off, cap', hv, hlt, hl, hm, hc⟩
 ·simp only [Value.slice.injEq] at hv
  exact .inl ⟨hv.1, rfl, hv.2.2⟩
 ·simp only [Value.slice.injEq, true_and] at hv
  obtain ⟨rfl, rfl⟩ := hv
  right
  refine ⟨g, off, rfl, ?_⟩
  have hlen : (n.drop k).length = n.length - k := by simp
  by_cases e : cap = k
  ·rw [if_pos e]
   refine .inr ⟨g, off, cap - k, by rw [hlen], hlt, by rw [hlen]; omega, by omega, fun i hi => ?_⟩
   rw [hlen] at hi
   omega
  ·rw [if_neg e]
   refine .inr ⟨g, off + k, cap - k, by rw [hlen], hlt, by rw [hlen]; omega, by omega, fun i hi => ?_⟩
   rw [hlen] at hi
   obtain ⟨u, h1, h2⟩ := hc (k + i) (by omega)
   refine ⟨u, by rw [Nat.add_assoc]; exact h1, ?_⟩
   have e2 : (n.drop k).getD i [] = n.getD (k + i) [] := by simp [List.getD]
   rw [e2]; exact h2

end Go.Proofs.YtaehfeobfkaicaaGreat

namespace Go.Proofs.YtaehfeobfkaicaaGreat
open Go.RowKit
set_option linter.unusedVariables false

section
variable {κ α β : Type} [DecidableEq κ] {Q : α → β → Prop}
end
theorem append_bytesIn {F : Fence} {n : Nat} {P : Program} {w : World} {ops : Array Oper} {rest : List Oper} {o : Oper} {a : Act} {Q : Exit → Act → World → Prop} (hgd : o.guard = none) (s x : Operand) (t e : TypeId)
  (ho : o.op = .call { callee := .builtin .append, args := #[s, x], argTypes := #[t, t] }) (ht : P.underlying t = some (.slice e))
  (hinfo : (P.info? e).map (fun i => (i.zero, i.size, i.bytes)) = some (some (.int .u8 0), 1, 1))
  (base : Nat) (v vx : Value) (l m : List Int) (hs : a.eval s = v) (hx : a.eval x = vx) (hown : Own base e w v l) (hr : Reads w vx m) (hlen : l.length + m.length ≤ 1099511627776) (hbase : base ≤ w.heap.size)
  (h : ∀ v' w', Own base e w' v' (l ++ m) → w.grownBy w' v.ownBlock → wpListIn F n P ops Q rest (a.put o.dst v') w') : wpListIn F n P ops Q (o :: rest) a w := by
 obtain ⟨i0, hi, hz0, hz1, hz2⟩ := info_parts hinfo
 rcases hr with ⟨rfl, rfl⟩ | ⟨ad, cap, rfl, hc⟩
 ·refine wpListIn_plain hgd fun K hK' => ?_
  have hrun := run_append_owned_none (P := P) w base t o.type e i0 1 ht hi v l.length (l.map (Value.int .u8)) hown
  unfold Oper.wpIn
  refine ⟨?_, ?_⟩
  ·simp [Oper.about, ho, resolve, Target.leads, Sem.run_pure]
  ·rw [Oper.semAt_plain F _ _ (by rw [ho]; intro c hc'; cases hc')]
   simp [execOp, ho, resolve, invoke, builtin, hs, hx, hrun, Result.andThen]
   exact hK' _ _ (h v w (by simpa using hown) ⟨rfl, rfl, rfl, Nat.le_refl _, fun _ _ _ => rfl⟩)
 ·refine wpListIn_append_own w hgd s x t ho base e i0 (.int .u8 0) 1 1 ht hi hz0 hz1 hz2 rfl (by decide) v l.length (l.map (Value.int .u8)) hs hown ad m.length cap (m.map (Value.int .u8)) hx (by simp) (news_of hc) (one_of m) (by unfold maxLen; omega) (by omega) hbase ?_
  intro v' w' ho' hg _
  exact h v' w' (by simpa [Own] using ho') hg
def keyN (n : List (List Int)) : List Int := n.reverse.flatMap (· ++ [0])
def keyP (ls : List (List Int)) : List Int := ls.flatMap (· ++ [0])
theorem keyP_snoc (ls : List (List Int)) (l : List Int) : keyP (ls ++ [l]) = keyP ls ++ l ++ [0] := by simp [keyP]
theorem keyP_len {ls : List (List Int)} (h : ∀ l ∈ ls, l.length ≤ 15) : (keyP ls).length ≤ 16 * ls.length := by
 induction ls with
 | nil => simp [keyP]
 | cons a t ih =>
  have h1 := ih (fun l hl => h l (List.mem_cons_of_mem _ hl))
  have h2 := h a (List.mem_cons_self ..)
  simp only [keyP, List.flatMap_cons, List.length_append, List.length_cons, List.length_nil] at h1 ⊢
  omega
theorem sign_of {n : List (List Int)} (h : nameOk n = true) : ∀ l ∈ n, ∀ x ∈ l, 45 ≤ x ∧ x ≤ 122 := by
 intro l hl x hx
 obtain ⟨i, hi, rfl⟩ := List.getElem_of_mem hl
 have h1 := (nameOk_parts h).2 i hi
 rw [show n.getD i [] = n[i] by simp [hi]] at h1
 obtain ⟨j, hj, rfl⟩ := List.getElem_of_mem hx
 have h2 := (of_decide_eq_true h1).2.2 j hj
 rw [show n[i].getD j 0 = n[i][j] by simp [hj]] at h2
 have := of_decide_eq_true h2
 omega
end Go.Proofs.YtaehfeobfkaicaaGreat

namespace Go.Proofs.YtaehfeobfkaicaaGreat
open Go.RowKit


def follows (a b : Rec) : Bool := decide (rrCmp a b < 0) && ((decide (a.type ≠ 5) && decide (b.type ≠ 5)) || decide (nameCmp a.name b.name ≠ 0))
def alone (rs : List Rec) (i : Nat) : Prop := (rs.getD i recZ).type = 5 → ∀ k, k < rs.length → k ≠ i → cmpN (rs.getD k recZ).name (rs.getD i recZ).name ≠ 0
end Go.Proofs.YtaehfeobfkaicaaGreat

namespace Go.Proofs.YtaehfeobfkaicaaGreat
open Go.RowKit

def ShortN (n : List (List Int)) : Prop := n.length ≤ 6 ∧ ∀ k, k < n.length → (n.getD k []).length ≤ 15
def ShortR (r : Rec) : Prop := (r.name.length ≤ 6 ∧ ∀ k, k < r.name.length → (r.name.getD k []).length ≤ 15) ∧ (r.to.length ≤ 6 ∧ ∀ k, k < r.to.length → (r.to.getD k []).length ≤ 15) ∧ r.text.length ≤ 1048576 ∧ r.nums.length ≤ 1048576
theorem short_name {n : List (List Int)} (h : nameOk n = true) : ShortN n := ⟨(nameOk_parts h).1, fun k hk => (labelOk_length ((nameOk_parts h).2 k hk)).2⟩
theorem short_nil : ShortN [] := ⟨by simp, fun k hk => absurd hk (by simp)⟩
end Go.Proofs.YtaehfeobfkaicaaGreat

namespace Go.Proofs.YtaehfeobfkaicaaGreat
open Go.RowKit

theorem short_rec {r : Rec} (h : rrOk r = true) : ShortR r := by
 unfold rrOk dataOk at h
 simp only [Bool.and_eq_true] at h
 obtain ⟨h1, h2, h3, h4, h5, h6, h7⟩ := h
 refine ⟨short_name h1, ?_, ?_, ?_⟩
 ·by_cases e : named r.type = true
  ·rw [if_pos e] at h5
   exact short_name h5
  ·rw [if_neg e] at h5
   have := of_decide_eq_true h5
   rw [List.eq_nil_of_length_eq_zero this]
   exact short_nil
 ·by_cases e : texted r.type = true
  ·rw [if_pos e] at h6
   have := of_decide_eq_true h6
   omega
  ·rw [if_neg e] at h6
   have := of_decide_eq_true h6
   omega
 ·by_cases e : r.type = 6
  ·rw [if_pos e] at h7
   have := (of_decide_eq_true h7).1
   omega
  ·rw [if_neg e] at h7
   have := of_decide_eq_true h7
   omega
end Go.Proofs.YtaehfeobfkaicaaGreat

namespace Go.Proofs.YtaehfeobfkaicaaGreat
open Go.RowKit

def RowS (B : Nat) (e : TypeId) (W w : World) (v : Value) (rs : List Rec) : Prop :=
 ∃ xs, w.ownsRow B e 7 v rs.length xs ∧ ∀ i, i < rs.length → ∃ vn vt vx vi, (∀ j u, (cellsR vn vt vx vi (rs.getD i recZ))[j]? = some u → xs[i * 7 + j]? = some u) ∧ HasR W vn vt vx vi (rs.getD i recZ)
theorem RowS.nil (B : Nat) (e : TypeId) (W w : World) : RowS B e W w (.slice none 0 0) [] := ⟨[], World.ownsRow_nil _ _ _ _, fun i hi => absurd hi (by simp)⟩
theorem RowS.snoc {B : Nat} {e : TypeId} {W w' : World} {v' : Value} {rs : List Rec} {xs : List Value} {r : Rec} {vn vt vx vi : Value} (hl : xs.length = rs.length * 7)
  (hx : ∀ i, i < rs.length → ∃ vn vt vx vi, (∀ j u, (cellsR vn vt vx vi (rs.getD i recZ))[j]? = some u → xs[i * 7 + j]? = some u) ∧ HasR W vn vt vx vi (rs.getD i recZ))
  (ho : w'.ownsRow B e 7 v' (rs.length + 1) (xs ++ cellsR vn vt vx vi r)) (hr : HasR W vn vt vx vi r) : RowS B e W w' v' (rs ++ [r]) := by
 refine ⟨xs ++ cellsR vn vt vx vi r, by rw [List.length_append]; exact ho, fun i hi => ?_⟩
 rw [List.length_append] at hi
 simp only [List.length_cons, List.length_nil] at hi
 by_cases h : i < rs.length
 ·obtain ⟨un, ut, ux, ui, q1, q2⟩ := hx i h
  have e1 : (rs ++ [r]).getD i recZ = rs.getD i recZ := by rw [List.getD_eq_getElem?_getD, List.getElem?_append_left h, ← List.getD_eq_getElem?_getD]
  rw [e1]
  refine ⟨un, ut, ux, ui, fun j u hj => ?_, q2⟩
  have hj7 : j < 7 := by
   have := (List.getElem?_eq_some_iff.1 hj).1
   simpa [cellsR] using this
  rw [List.getElem?_append_left (by omega)]
  exact q1 j u hj
 ·obtain rfl : i = rs.length := by omega
  have e1 : (rs ++ [r]).getD rs.length recZ = r := by rw [List.getD_eq_getElem?_getD]; simp
  rw [e1]
  refine ⟨vn, vt, vx, vi, fun j u hj => ?_, hr⟩
  rw [List.getElem?_append_right (by omega), hl, Nat.add_sub_cancel_left]
  exact hj
theorem RowS.has {B : Nat} {e : TypeId} {W w : World} {v : Value} {rs : List Rec} (h : RowS B e W w v rs) (hb : Below W.heap.size W w) : HasRs w v rs := by
 obtain ⟨xs, ho, hx⟩ := h
 have ho' := ho
 rcases ho.2 with ⟨rfl, hn⟩ | ⟨g, cap, cur, rfl, hB, hg, hn, hm, hs, ht⟩
 ·exact .inl ⟨rfl, List.eq_nil_of_length_eq_zero hn⟩
 ·refine .inr ⟨g, 0, cap, rfl, VC hg, hn, hm, fun i hi => ?_⟩
  obtain ⟨vn, vt, vx, vi, q1, q2⟩ := hx i hi
  refine ⟨vn, vt, vx, vi, fun j u hj => ?_, q2.below hb⟩
  have hj7 : j < 7 := by
   have := (List.getElem?_eq_some_iff.1 hj).1
   simpa [cellsR] using this
  rw [Nat.zero_add, World.ownsRow.cellAt ho' (i * 7 + j) (by omega)]
  exact q1 j u hj
end Go.Proofs.YtaehfeobfkaicaaGreat

namespace Go.Proofs.YtaehfeobfkaicaaGreat
open Go.RowKit
set_option linter.unusedVariables false

end Go.Proofs.YtaehfeobfkaicaaGreat

namespace Go.Proofs.YtaehfeobfkaicaaGreat
open Go.RowKit

end Go.Proofs.YtaehfeobfkaicaaGreat

namespace Go.Proofs.YtaehfeobfkaicaaGreat
open Go.RowKit

/-! ### The library's cut at dots is this one -/

theorem str_eq (a b : List Int) (ha : ∀ c ∈ a, 0 ≤ c ∧ c ≤ 255) (hb : ∀ c ∈ b, 0 ≤ c ∧ c ≤ 255) : ((strOfNums a).toList == (strOfNums b).toList) = decide (a = b) := by
 rw [ByteArray.toList_eq, ByteArray.toList_eq, strOfNums_data, strOfNums_data]
 by_cases e : a = b
 ·subst e; simp
 ·rw [decide_eq_false e]
  apply beq_eq_false_iff_ne.2
  intro h
  apply e
  clear e
  induction a generalizing b with
  | nil => cases b with
   | nil => rfl
   | cons d b => simp at h
  | cons c a ih => cases b with
   | nil => simp at h
   | cons d b =>
    simp only [List.map_cons, List.cons.injEq] at h
    have h1 := ha c (by simp)
    have h2 := hb d (by simp)
    have h3 := congrArg UInt8.toNat h.1
    rw [UInt8.toNat_ofNat', UInt8.toNat_ofNat'] at h3
    have h4 : c = d := by omega
    rw [h4, ih b (fun x hx => ha x (by simp [hx])) (fun x hx => hb x (by simp [hx])) h.2]
end Go.Proofs.YtaehfeobfkaicaaGreat

namespace Go.Proofs.YtaehfeobfkaicaaGreat
open Go.RowKit

theorem cmpB_eq {a b : List Int} (ha : ∀ c ∈ a, 0 ≤ c ∧ c ≤ 255) (hb : ∀ c ∈ b, 0 ≤ c ∧ c ≤ 255) : cmpB a b = 0 ↔ a = b := by
 have h1 := str_same a b
 rw [str_eq a b ha hb] at h1
 exact ⟨fun h => of_decide_eq_true (h1.trans (decide_eq_true h)), fun h => by subst h; exact cmpB_self a⟩

def ByteL (n : List (List Int)) : Prop := ∀ l ∈ n, ∀ c ∈ l, 0 ≤ c ∧ c ≤ 255
theorem cmpL_zero : ∀ {a b : List (List Int)}, ByteL a → ByteL b → cmpL a b = 0 → a = b
 | [], [], _, _, _ => rfl
 | [], _ :: _, _, _, h => by
  unfold cmpL at h
  omega
 | _ :: _, [], _, _, h => by
  unfold cmpL at h
  omega
 | x :: a, y :: b, ha, hb, h => by
  unfold cmpL at h
  by_cases e : cmpB x y = 0
  ·simp only [e, ne_eq, not_true, if_false] at h
   rw [(cmpB_eq (ha x (by simp)) (hb y (by simp))).1 e, cmpL_zero (fun l hl => ha l (by simp [hl])) (fun l hl => hb l (by simp [hl])) h]
  ·simp only [e, ne_eq, not_false_iff, if_true] at h
theorem cmpN_zero {a b : List (List Int)} (ha : ByteL a) (hb : ByteL b) : cmpN a b = 0 ↔ a = b := by
 refine ⟨fun h => ?_, fun h => by subst h; exact cmpN_self a⟩
 rw [cmpN_eq] at h
 have := cmpL_zero (fun l hl => ha l (by simpa using hl)) (fun l hl => hb l (by simpa using hl)) h
 simpa using congrArg List.reverse this
theorem labelOk_bytes {l : List Int} (h : labelOk l = true) : ∀ c ∈ l, 0 ≤ c ∧ c ≤ 255 := by
 intro c hc
 obtain ⟨j, hj, rfl⟩ := List.getElem_of_mem hc
 have h' := of_decide_eq_true h
 have := h'.2.2 j hj
 rw [List.getD_eq_getElem?_getD, List.getElem?_eq_getElem hj, Option.getD_some] at this
 have := of_decide_eq_true this
 omega
theorem nameOk_bytes {n : List (List Int)} (h : nameOk n = true) : ByteL n := by
 intro l hl
 obtain ⟨j, hj, rfl⟩ := List.getElem_of_mem hl
 have := (nameOk_parts h).2 j hj
 rw [List.getD_eq_getElem?_getD, List.getElem?_eq_getElem hj, Option.getD_some] at this
 exact labelOk_bytes this

end Go.Proofs.YtaehfeobfkaicaaGreat

namespace Go.Proofs.YtaehfeobfkaicaaGreat
open Go.RowKit

end Go.Proofs.YtaehfeobfkaicaaGreat

namespace Go.Proofs.YtaehfeobfkaicaaGreat
open Go.RowKit
set_option linter.unusedVariables false

theorem bytes_of (l : List Int) : (strOfNums l).data.toList = l.map (fun n => UInt8.ofNat n.toNat) := by simp [strOfNums]
theorem less_of : ∀ (a b : List UInt8), Lib.compareBytes a b = -1 → a < b
 | [], [], h => by simp [Lib.compareBytes] at h
 | [], _ :: _, _ => List.nil_lt_cons _ _
 | _ :: _, [], h => by simp [Lib.compareBytes] at h
 | x :: a, y :: b, h => by
  unfold Lib.compareBytes at h
  rw [List.cons_lt_cons_iff]
  by_cases h1 : x < y
  ·exact .inl h1
  ·simp only [h1, if_false] at h
   by_cases h2 : y < x
   ·simp [h2] at h
   ·simp only [h2, if_false] at h
    exact .inr ⟨UInt8.le_antisymm (UInt8.not_lt.1 h2) (UInt8.not_lt.1 h1), less_of a b h⟩
end Go.Proofs.YtaehfeobfkaicaaGreat

namespace Go.Proofs.YtaehfeobfkaicaaGreat
open Go.RowKit

def low (x : Int) : Int := if 65 ≤ x ∧ x ≤ 90 then x + 32 else x
def lowered (l : List Int) (k : Nat) : List Int := (List.range l.length).map fun (j : Nat) => if j < k then low (l.getD j 0) else l.getD j 0

end Go.Proofs.YtaehfeobfkaicaaGreat

namespace Go.Proofs.YtaehfeobfkaicaaGreat
set_option linter.unusedVariables false

end Go.Proofs.YtaehfeobfkaicaaGreat

namespace Go.Proofs.YtaehfeobfkaicaaGreat
set_option linter.unusedVariables false

def rest (e : Bool) : List Int → List Int → List (List Int)
 | [], cur => if cur.length = 0 ∧ e = true then [] else [lowered cur cur.length]
 | x :: xs, cur => if x = 46 then lowered cur cur.length :: rest e xs [] else rest e xs (cur ++ [x])

end Go.Proofs.YtaehfeobfkaicaaGreat

namespace Go.Proofs.YtaehfeobfkaicaaGreat
open Go.RowKit

end Go.Proofs.YtaehfeobfkaicaaGreat

namespace Go.Proofs.YtaehfeobfkaicaaGreat
open Go.RowKit

end Go.Proofs.YtaehfeobfkaicaaGreat

namespace Go.Proofs.YtaehfeobfkaicaaGreat
open Go.RowKit

section
variable {P : Program} {w : World}
end

end Go.Proofs.YtaehfeobfkaicaaGreat

namespace Go.Proofs.YtaehfeobfkaicaaGreat
open Go.RowKit

theorem cmpL_cases : ∀ (a b : List (List Int)), cmpL a b = -1 ∨ cmpL a b = 0 ∨ cmpL a b = 1
 | [], [] => .inr (.inl rfl)
 | [], _ :: _ => .inl rfl
 | _ :: _, [] => .inr (.inr rfl)
 | x :: a, y :: b => by
  unfold cmpL
  split
  ·exact cmpB_cases x y
  ·exact cmpL_cases a b
theorem cmpN_cases (a b : List (List Int)) : cmpN a b = -1 ∨ cmpN a b = 0 ∨ cmpN a b = 1 := by
 rw [cmpN_eq]
 exact cmpL_cases _ _
end Go.Proofs.YtaehfeobfkaicaaGreat

namespace Go.Proofs.YtaehfeobfkaicaaGreat
open Go.RowKit

end Go.Proofs.YtaehfeobfkaicaaGreat
