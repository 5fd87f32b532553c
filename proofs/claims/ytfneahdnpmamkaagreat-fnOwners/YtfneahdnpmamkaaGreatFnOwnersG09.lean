/-
  Plain facts: the book of a zone's records has a name just if the records have. No program is named here. Plain facts: a record's data as bytes. No program is named here. Plain facts: the order of records. No program is named here. Plain facts: the order of names is one. No program is named here. Plain facts: which records may be a zone's, said by neighbours and said by all. No program is named here. Plain facts: records that may be are short. No program is named here. Plain facts: zones that may be are short; a new zone. No program is named here. Plain facts: a zone's records of a name and a type, the first SOA, and a row of records that is appended to. No program is named here. Plain facts: what one zone has alone. No program is named here. Plain facts: what HasName answers. No program is named here. Plain facts: names that are the same, names that end with others, and their order. No program is named here. Plain facts: the key of a record among those of its name. No program is named here.
-/
import Derived.Test.YtfneahdnpmamkaaGreatFnOwnersG08
import Derived.Test.YtfneahdnpmamkaaGreatFnOwnersG07
import Derived.Laws.BytesArg
namespace Go.Proofs.YtfneahdnpmamkaaGreat
open Go.RowKit
set_option linter.unusedVariables false

theorem Oy : ∀ {l m : List Int}, (∀ x ∈ l, 0 ≤ x ∧ x ≤ 255) → (∀ x ∈ m, 0 ≤ x ∧ x ≤ 255) → strOfNums l = strOfNums m → l = m := by
 intro l m hl hm h
 have h1 : l.map (fun n => UInt8.ofNat n.toNat) = m.map (fun n => UInt8.ofNat n.toNat) := by
  simp only [strOfNums, ByteArray.mk.injEq] at h
  simpa using h
 clear h
 induction l generalizing m with
 | nil =>
  cases m with
  | nil => rfl
  | cons b t => simp at h1
 | cons a t ih =>
  cases m with
  | nil => simp at h1
  | cons b s =>
   simp only [List.map_cons, List.cons.injEq] at h1
   have ha := hl a (List.mem_cons_self ..)
   have hb := hm b (List.mem_cons_self ..)
   have e : a.toNat = b.toNat := by
    have := congrArg UInt8.toNat h1.1
    simp only [UInt8.toNat_ofNat'] at this
    omega
   rw [show a = b by omega, ih (fun x hx => hl x (List.mem_cons_of_mem _ hx)) (fun x hx => hm x (List.mem_cons_of_mem _ hx)) h1.2]
theorem Rr : ∀ {l m A B : List Int}, (∀ x ∈ l, x ≠ 0) → (∀ x ∈ m, x ≠ 0) → l ++ 0 :: A = m ++ 0 :: B → l = m ∧ A = B
 | [], [], A, B, _, _, h => by simpa using h
 | [], b :: t, A, B, _, hm, h => by
  simp only [List.nil_append, List.cons_append, List.cons.injEq] at h
  exact absurd h.1.symm (hm b (List.mem_cons_self ..))
 | a :: t, [], A, B, hl, _, h => by
  simp only [List.nil_append, List.cons_append, List.cons.injEq] at h
  exact absurd h.1 (hl a (List.mem_cons_self ..))
 | a :: t, b :: s, A, B, hl, hm, h => by
  simp only [List.cons_append, List.cons.injEq] at h
  obtain ⟨h1, h2⟩ := Rr (fun x hx => hl x (List.mem_cons_of_mem _ hx)) (fun x hx => hm x (List.mem_cons_of_mem _ hx)) h.2
  rw [h.1, h1]
  exact ⟨rfl, h2⟩
theorem Sv : ∀ {ls ms : List (List Int)}, (∀ l ∈ ls, ∀ x ∈ l, x ≠ 0) → (∀ l ∈ ms, ∀ x ∈ l, x ≠ 0) → keyP ls = keyP ms → ls = ms
 | [], [], _, _, _ => rfl
 | [], m :: t, _, _, h => by simp [keyP] at h
 | l :: t, [], _, _, h => by simp [keyP] at h
 | l :: t, m :: s, hl, hm, h => by
  simp only [keyP, List.flatMap_cons, List.append_assoc, List.singleton_append] at h
  obtain ⟨h1, h2⟩ := Rr (hl l (List.mem_cons_self ..)) (hm m (List.mem_cons_self ..)) h
  rw [h1, Sv (fun x hx => hl x (List.mem_cons_of_mem _ hx)) (fun x hx => hm x (List.mem_cons_of_mem _ hx)) h2]
theorem Qv {n : List (List Int)} (h : Ag n = true) : ∀ l ∈ n, ∀ x ∈ l, 45 ≤ x ∧ x ≤ 122 := by
 intro l hl x hx
 obtain ⟨i, hi, rfl⟩ := List.getElem_of_mem hl
 have h1 := (Ai h).2 i hi
 rw [show n.getD i [] = n[i] by simp [hi]] at h1
 obtain ⟨j, hj, rfl⟩ := List.getElem_of_mem hx
 have h2 := (of_decide_eq_true h1).2.2 j hj
 rw [show n[i].getD j 0 = n[i][j] by simp [hj]] at h2
 have := of_decide_eq_true h2
 omega
theorem Oj {ls : List (List Int)} (h : ∀ l ∈ ls, ∀ x ∈ l, 45 ≤ x ∧ x ≤ 122) : ∀ x ∈ keyP ls, 0 ≤ x ∧ x ≤ 255 := by
 intro x hx
 obtain ⟨l, hl, hx⟩ := List.mem_flatMap.1 hx
 rcases List.mem_append.1 hx with hx | hx
 ·have := h l hl x hx
  omega
 ·simp at hx
  omega
theorem Yi {n m : List (List Int)} (hn : Ag n = true) (hm : Ag m = true) (h : strOfNums (keyN n) = strOfNums (keyN m)) : n = m := by
 have r1 : ∀ l ∈ n.reverse, ∀ x ∈ l, 45 ≤ x ∧ x ≤ 122 := fun l hl => Qv hn l (List.mem_reverse.1 hl)
 have r2 : ∀ l ∈ m.reverse, ∀ x ∈ l, 45 ≤ x ∧ x ≤ 122 := fun l hl => Qv hm l (List.mem_reverse.1 hl)
 have e1 : keyP n.reverse = keyP m.reverse := Oy (Oj r1) (Oj r2) h
 have e2 := Sv (fun l hl x hx => by have := r1 l hl x hx; omega) (fun l hl x hx => by have := r2 l hl x hx; omega) e1
 exact List.reverse_inj.1 e2

end Go.Proofs.YtfneahdnpmamkaaGreat

namespace Go.Proofs.YtfneahdnpmamkaaGreat
open Go.RowKit

def Cs (r : Rec) : List Int :=
 if r.type = 1 then Bn [] r.addr else if r.type = 6 then Bn (Bn (wire r.to) (r.nums.getD 0 0)) (r.nums.getD 1 0) else if named r.type = true then wire r.to else (r.text.length : Int) :: r.text

theorem C9 {r : Rec} (ht : Ax r.type = true) (h : Bg r = true) :
  (r.type = 1 ∧ 0 ≤ r.addr ∧ r.addr ≤ 4294967295 ∧ Cs r = Bn [] r.addr) ∨ ((r.type = 2 ∨ r.type = 5 ∨ r.type = 12) ∧ Ag r.to = true ∧ Cs r = wire r.to) ∨
  (r.type = 6 ∧ Ag r.to = true ∧ (∃ x y, r.nums = [x, y] ∧ 0 ≤ x ∧ x ≤ 4294967295 ∧ 0 ≤ y ∧ y ≤ 100000 ∧ Cs r = Bn (Bn (wire r.to) x) y)) ∨ ((r.type = 16 ∨ r.type = 49) ∧ r.text.length ≤ 40 ∧ Cs r = (r.text.length : Int) :: r.text) := by
 have ht' : r.type = 1 ∨ r.type = 2 ∨ r.type = 5 ∨ r.type = 6 ∨ r.type = 12 ∨ r.type = 16 ∨ r.type = 49 := of_decide_eq_true ht
 unfold Bg at h
 simp only [Bool.and_eq_true] at h
 obtain ⟨h1, h2, h3, h4⟩ := h
 by_cases e1 : r.type = 1
 ·left
  rw [if_pos e1] at h1
  have := of_decide_eq_true h1
  exact ⟨e1, this.1, this.2, by unfold Cs; rw [if_pos e1]⟩
 by_cases e6 : r.type = 6
 ·right; right; left
  have hn : named r.type = true := decide_eq_true (by omega)
  rw [if_pos hn] at h2
  rw [if_pos e6] at h4
  have h5 := of_decide_eq_true h4
  obtain ⟨x, y, hxy⟩ := Q1 h5.1
  rw [hxy] at h5
  refine ⟨e6, h2, x, y, hxy, h5.2.1, h5.2.2.1, h5.2.2.2.1, h5.2.2.2.2, ?_⟩
  unfold Cs
  rw [if_neg e1, if_pos e6, hxy]
  rfl
 by_cases en : r.type = 2 ∨ r.type = 5 ∨ r.type = 12
 ·right; left
  have hn : named r.type = true := decide_eq_true (by omega)
  rw [if_pos hn] at h2
  exact ⟨en, h2, by unfold Cs; rw [if_neg e1, if_neg e6, if_pos hn]⟩
 ·right; right; right
  have hx : Cc r.type = true := decide_eq_true (by omega)
  have hn : ¬ named r.type = true := by
   intro hh
   have : r.type = 2 ∨ r.type = 5 ∨ r.type = 6 ∨ r.type = 12 := of_decide_eq_true hh
   omega
  rw [if_pos hx] at h3
  exact ⟨by omega, of_decide_eq_true h3, by unfold Cs; rw [if_neg e1, if_neg e6, if_neg hn]⟩
theorem A2 {r : Rec} (h : rrOk r = true) : Ag r.name = true ∧ Ax r.type = true ∧ 0 ≤ r.ttl ∧ r.ttl ≤ 100000 ∧ Bg r = true := by
 unfold rrOk at h
 simp only [Bool.and_eq_true] at h
 have := of_decide_eq_true h.2.2.1
 exact ⟨h.1, h.2.1, this.1, this.2, h.2.2.2⟩
theorem Jw {r : Rec} (h : rrOk r = true) : (Cs r).length ≤ 105 := by
 obtain ⟨_, ht, _, _, hd⟩ := A2 h
 rcases C9 ht hd with ⟨_, _, _, e⟩ | ⟨_, hn, e⟩ | ⟨_, hn, x, y, _, _, _, _, _, e⟩ | ⟨_, hx, e⟩
 ·rw [e]; have := D6 [] r.addr; simp at this; omega
 ·rw [e]; have := Ex r.to hn; omega
 ·rw [e]
  have h1 := Ex r.to hn
  have h2 := D6 (wire r.to) x
  have h3 := D6 (Bn (wire r.to) x) y
  omega
 ·rw [e]; simp; omega
end Go.Proofs.YtfneahdnpmamkaaGreat

namespace Go.Proofs.YtfneahdnpmamkaaGreat
open Go.RowKit

def cmpR (a b : Rec) : Int := if cmpN a.name b.name ≠ 0 then cmpN a.name b.name else if A4 a.type b.type ≠ 0 then A4 a.type b.type else cmpB (Cs a) (Cs b)
def Pd (a b : Rec) : Int := if rrOk a = true ∧ rrOk b = true then cmpR a b else 0
theorem I6 {x y : Int} (h : A4 x y = 0) : x = y := by
 unfold A4 at h
 split at h
 ·omega
 ·split at h
  ·omega
  ·omega
end Go.Proofs.YtfneahdnpmamkaaGreat

namespace Go.Proofs.YtfneahdnpmamkaaGreat
open Go.RowKit

theorem Jv : ∀ (a b : List UInt8), Lib.compareBytes a b = - Lib.compareBytes b a
 | [], [] => rfl
 | [], _ :: _ => rfl
 | _ :: _, [] => rfl
 | x :: a, y :: b => by
  have ih := Jv a b
  unfold Lib.compareBytes
  by_cases h1 : x < y
  ·have h2 : ¬ y < x := fun h => UInt8.lt_irrefl x (UInt8.lt_trans h1 h)
   simp [h1, h2]
  ·by_cases h2 : y < x
   ·simp [h1, h2]
   ·simp only [h1, h2, if_false]
    exact ih

theorem I4 : ∀ (a b c : List UInt8), Lib.compareBytes a b ≤ 0 → Lib.compareBytes b c ≤ 0 → Lib.compareBytes a c ≤ 0
 | [], _, [], _, _ => by decide
 | [], _, _ :: _, _, _ => by
  unfold Lib.compareBytes
  omega
 | _ :: _, [], _, h, _ => by
  unfold Lib.compareBytes at h
  omega
 | _ :: _, _ :: _, [], _, h => by
  unfold Lib.compareBytes at h
  omega
 | x :: a, y :: b, z :: c, h1, h2 => by
  unfold Lib.compareBytes at h1 h2 ⊢
  by_cases hxz : x < z
  ·simp [hxz]
  ·simp only [hxz, if_false]
   by_cases hxy : x < y
   ·by_cases hyz : y < z
    ·exact absurd (UInt8.lt_trans hxy hyz) hxz
    ·simp only [hyz, if_false] at h2
     by_cases hzy : z < y
     ·simp [hzy] at h2
     ·have e : y = z := UInt8.le_antisymm (UInt8.not_lt.1 hzy) (UInt8.not_lt.1 hyz)
      subst e
      exact absurd hxy hxz
   ·simp only [hxy, if_false] at h1
    by_cases hyx : y < x
    ·simp [hyx] at h1
    ·have e : x = y := UInt8.le_antisymm (UInt8.not_lt.1 hyx) (UInt8.not_lt.1 hxy)
     subst e
     simp only [hyx, if_false] at h1
     simp only [hxz, if_false] at h2
     by_cases hzx : z < x
     ·simp [hzx] at h2
     ·simp only [hzx, if_false] at h2 ⊢
      exact I4 a b c h1 h2

theorem Gm (a b : List Int) : cmpB a b = - cmpB b a := Jv _ _
theorem Hb {a b c : List Int} (h : cmpB a b ≤ 0) (k : cmpB b c ≤ 0) : cmpB a c ≤ 0 := I4 _ _ _ h k
theorem Jy {a b c : List Int} (h : cmpB a b ≤ 0) (k : cmpB b c ≤ 0) (e : cmpB a c = 0) : cmpB a b = 0 ∧ cmpB b c = 0 := by
 have e1 := Gm a c
 have e2 := Gm a b
 have e3 := Gm b c
 have h1 : cmpB b a ≤ 0 := Hb k (by omega)
 have h2 : cmpB c b ≤ 0 := Hb (by omega : cmpB c a ≤ 0) h
 omega
theorem Kg (a : List Int) : cmpB a a = 0 := by
 have := Gm a a
 omega
def cmpL : List (List Int) → List (List Int) → Int
 | [], [] => 0
 | [], _ :: _ => -1
 | _ :: _, [] => 1
 | x :: a, y :: b => if cmpB x y ≠ 0 then cmpB x y else cmpL a b

theorem Pk : ∀ (a b : List (List Int)), cmpL a b = - cmpL b a
 | [], [] => rfl
 | [], _ :: _ => rfl
 | _ :: _, [] => rfl
 | x :: a, y :: b => by
  have ih := Pk a b
  have hs := Gm x y
  unfold cmpL
  by_cases h : cmpB x y = 0
  ·have h' : cmpB y x = 0 := by omega
   simp only [h, h', ne_eq, not_true, if_false]
   exact ih
  ·have h' : ¬ cmpB y x = 0 := by omega
   simp only [h, h', ne_eq, not_false_iff, if_true]
   exact hs
theorem Ny : ∀ (a b c : List (List Int)), cmpL a b ≤ 0 → cmpL b c ≤ 0 → cmpL a c ≤ 0
 | [], _, [], _, _ => by decide
 | [], _, _ :: _, _, _ => by
  unfold cmpL
  omega
 | _ :: _, [], _, h, _ => by
  unfold cmpL at h
  omega
 | _ :: _, _ :: _, [], _, h => by
  unfold cmpL at h
  omega
 | x :: a, y :: b, z :: c, h1, h2 => by
  unfold cmpL at h1 h2 ⊢
  have p1 : cmpB x y ≤ 0 := by
   by_cases h : cmpB x y = 0
   ·omega
   ·simpa [h] using h1
  have p2 : cmpB y z ≤ 0 := by
   by_cases h : cmpB y z = 0
   ·omega
   ·simpa [h] using h2
  have p3 := Hb p1 p2
  by_cases h : cmpB x z = 0
  ·obtain ⟨e1, e2⟩ := Jy p1 p2 h
   simp only [h, ne_eq, not_true, if_false]
   simp only [e1, ne_eq, not_true, if_false] at h1
   simp only [e2, ne_eq, not_true, if_false] at h2
   exact Ny a b c h1 h2
  ·simp only [h, ne_eq, not_false_iff, if_true]
   exact p3

theorem Nq {α : Type} {p q : α → Bool} : ∀ {l : List α}, (∀ x ∈ l, p x = q x) → l.find? p = l.find? q
 | [], _ => rfl
 | y :: l, h => by
  rw [List.find?_cons, List.find?_cons, h y (by simp), Nq (fun x hx => h x (by simp [hx]))]

def cmpF (a b : List (List Int)) : Int :=
 match (List.range (min a.length b.length)).find? (fun j => cmpB (a.getD j []) (b.getD j []) != 0) with
 | some j => cmpB (a.getD j []) (b.getD j [])
 | none => A4 a.length b.length

theorem Up : ∀ (a b : List (List Int)), cmpF a b = cmpL a b
 | [], [] => rfl
 | [], y :: b => by
  unfold cmpF cmpL A4
  simp
 | x :: a, [] => by
  unfold cmpF cmpL A4
  simp
  omega
 | x :: a, y :: b => by
  have ih := Up a b
  unfold cmpL
  have e : min (x :: a).length (y :: b).length = min a.length b.length + 1 := by simp
  unfold cmpF
  rw [e, List.range_succ_eq_map, List.find?_cons]
  by_cases h : cmpB x y = 0
  ·have h1 : (cmpB ((x :: a).getD 0 []) ((y :: b).getD 0 []) != 0) = false := by simpa using h
   rw [h1]
   simp only [h, ne_eq, not_true, if_false]
   rw [List.find?_map]
   rw [← ih]
   unfold cmpF
   have hq : ((fun j => cmpB ((x :: a).getD j []) ((y :: b).getD j []) != 0) ∘ Nat.succ) = (fun j => cmpB (a.getD j []) (b.getD j []) != 0) := by
    funext j
    simp
   rw [hq]
   cases hf : (List.range (min a.length b.length)).find? (fun j => cmpB (a.getD j []) (b.getD j []) != 0) with
   | none =>
    simp only [Option.map_none]
    unfold A4
    simp
   | some j =>
    simp only [Option.map_some]
    simp
  ·have h1 : (cmpB ((x :: a).getD 0 []) ((y :: b).getD 0 []) != 0) = true := by simpa using h
   rw [h1]
   simp [h]

theorem J8 (a : List (List Int)) (j : Nat) (h : j < a.length) : a.reverse.getD j [] = a.getD (a.length - (j + 1)) [] := by
 rw [List.getD_eq_getElem?_getD, List.getD_eq_getElem?_getD, List.getElem?_reverse h]
 congr 2
 omega

theorem Mf (a b : List (List Int)) : cmpN a b = cmpL a.reverse b.reverse := by
 rw [← Up]
 unfold cmpN cmpF
 rw [List.length_reverse, List.length_reverse]
 have hp : ∀ j, j < min a.length b.length → Fz a b (j + 1) = cmpB (a.reverse.getD j []) (b.reverse.getD j []) := fun j hj => by
  rw [J8 a j (by omega), J8 b j (by omega)]
  rfl
 have hf : (List.range (min a.length b.length)).find? (fun j => Fz a b (j + 1) != 0) = (List.range (min a.length b.length)).find? (fun j => cmpB (a.reverse.getD j []) (b.reverse.getD j []) != 0) := Nq (fun j hj => by
  rw [hp j (by simpa using hj)])
 rw [hf]
 cases hq : (List.range (min a.length b.length)).find? (fun j => cmpB (a.reverse.getD j []) (b.reverse.getD j []) != 0) with
 | none => rfl
 | some j =>
  have := List.mem_of_find?_eq_some hq
  exact hp j (by simpa using this)

theorem Fg (a b : List (List Int)) : cmpN a b = - cmpN b a := by
 rw [Mf, Mf, ← Pk]
theorem Jd {a b c : List (List Int)} (h : cmpN a b ≤ 0) (k : cmpN b c ≤ 0) : cmpN a c ≤ 0 := by
 rw [Mf] at *
 exact Ny _ _ _ h k
theorem Ki (a : List (List Int)) : cmpN a a = 0 := by
 have := Fg a a
 omega
theorem Gx {a b c : List (List Int)} (h : cmpN a b ≤ 0) (k : cmpN b c ≤ 0) (e : cmpN a c = 0) : cmpN a b = 0 ∧ cmpN b c = 0 := by
 have e1 := Fg a c
 have e2 := Fg a b
 have e3 := Fg b c
 have h1 : cmpN b a ≤ 0 := Jd k (by omega)
 have h2 : cmpN c b ≤ 0 := Jd (by omega : cmpN c a ≤ 0) h
 omega
end Go.Proofs.YtfneahdnpmamkaaGreat

namespace Go.Proofs.YtfneahdnpmamkaaGreat
open Go.RowKit


def Ji (o : List (List Int)) (r : Rec) : Bool := rrOk r && (under r.name o && (decide (r.type ≠ 6) || decide (Bo r.name o = 0)))
def follows (a b : Rec) : Bool := decide (Pd a b < 0) && ((decide (a.type ≠ 5) && decide (b.type ≠ 5)) || decide (Bo a.name b.name ≠ 0))
def Fj (o : List (List Int)) (rs : List Rec) (i : Nat) : Bool := Ji o (rs.getD i recZ) && (decide (i = 0) || follows (rs.getD (i - 1) recZ) (rs.getD i recZ))
def soas (rs : List Rec) : Nat → Nat
 | 0 => 0
 | k + 1 => soas rs k + if (rs.getD k recZ).type = 6 then 1 else 0
def Ar (o : List (List Int)) (rs : List Rec) : Bool := decide (Ag o = true ∧ rs.length ≤ 60 ∧ (∀ i, i < rs.length → Fj o rs i = true) ∧ soas rs rs.length = 1)

theorem Me (rs : List Rec) : ∀ k, soas rs k ≤ k
 | 0 => Nat.le_refl _
 | k + 1 => by
  have := Me rs k
  unfold soas
  split <;> omega
theorem Lk {o : List (List Int)} {rs : List Rec} (h : Ag o = false) : Ar o rs = false := decide_eq_false fun h' => by simp [h] at h'
theorem Lq {o : List (List Int)} {rs : List Rec} (h : 60 < rs.length) : Ar o rs = false := decide_eq_false fun h' => by omega
theorem Nl {o : List (List Int)} {rs : List Rec} {i : Nat} (hi : i < rs.length) (h : Fj o rs i = false) : Ar o rs = false := decide_eq_false fun h' => by
 have := h'.2.2.1 i hi
 rw [h] at this
 cases this
theorem Oc {o : List (List Int)} {rs : List Rec} (h1 : Ag o = true) (h2 : rs.length ≤ 60) (h : ∀ i, i < rs.length → Fj o rs i = true) : Ar o rs = decide (soas rs rs.length = 1) := by
 unfold Ar
 rw [Bool.eq_iff_iff, decide_eq_true_iff, decide_eq_true_iff]
 exact ⟨fun h' => h'.2.2.2, fun h' => ⟨h1, h2, h, h'⟩⟩

def alone (rs : List Rec) (i : Nat) : Prop := (rs.getD i recZ).type = 5 → ∀ k, k < rs.length → k ≠ i → cmpN (rs.getD k recZ).name (rs.getD i recZ).name ≠ 0
structure Mw (o : List (List Int)) (rs : List Rec) (i : Nat) : Prop where
 ok : rrOk (rs.getD i recZ) = true
 under : Cy (rs.getD i recZ).name o = true
 next : 0 < i → cmpR (rs.getD (i - 1) recZ) (rs.getD i recZ) < 0
 alone : alone rs i
 soa : (rs.getD i recZ).type = 6 → cmpN (rs.getD i recZ).name o = 0

theorem Ds {r : Rec} (h : rrOk r = true) : Ag r.name = true := by
 unfold rrOk at h
 simp only [Bool.and_eq_true] at h
 exact h.1
theorem Kw {a b : Rec} (h : cmpR a b < 0) : cmpN a.name b.name ≤ 0 := by
 unfold cmpR at h
 split at h <;> omega
theorem Ey {o : List (List Int)} {rs : List Rec} {i : Nat} (h : Fj o rs i = true) :
  rrOk (rs.getD i recZ) = true ∧ under (rs.getD i recZ).name o = true ∧ ((rs.getD i recZ).type = 6 → Bo (rs.getD i recZ).name o = 0) ∧ (0 < i → follows (rs.getD (i - 1) recZ) (rs.getD i recZ) = true) := by
 unfold Fj Ji at h
 simp only [Bool.and_eq_true, Bool.or_eq_true, decide_eq_true_eq] at h
 exact ⟨h.1.1, h.1.2.1, fun e => h.1.2.2.resolve_left (fun q => q e), fun e => h.2.resolve_left (by omega)⟩

theorem Lm {rs : List Rec} (h : ∀ i, 0 < i → i < rs.length → cmpN (rs.getD (i - 1) recZ).name (rs.getD i recZ).name ≤ 0) (i : Nat) : ∀ d, i + d < rs.length → cmpN (rs.getD i recZ).name (rs.getD (i + d) recZ).name ≤ 0
 | 0, _ => by rw [Nat.add_zero, Ki]; omega
 | d + 1, hd => Jd (Lm h i d (by omega)) (by have := h (i + (d + 1)) (by omega) hd; rwa [show i + (d + 1) - 1 = i + d by omega] at this)
theorem Ke {rs : List Rec} (h : ∀ i, 0 < i → i < rs.length → cmpN (rs.getD (i - 1) recZ).name (rs.getD i recZ).name ≤ 0) {i j : Nat} (hij : i ≤ j) (hj : j < rs.length) : cmpN (rs.getD i recZ).name (rs.getD j recZ).name ≤ 0 := by
 have := Lm h i (j - i) (by omega)
 rwa [show i + (j - i) = j by omega] at this

theorem Ka {o : List (List Int)} {rs : List Rec} (ho : Ag o = true) : (∀ i, i < rs.length → Fj o rs i = true) ↔ ∀ i, i < rs.length → Mw o rs i := by
 constructor
 ·intro h
  have hok : ∀ i, i < rs.length → rrOk (rs.getD i recZ) = true := fun i hi => (Ey (h i hi)).1
  have hf : ∀ i, 0 < i → i < rs.length → cmpR (rs.getD (i - 1) recZ) (rs.getD i recZ) < 0 ∧ (((rs.getD (i - 1) recZ).type = 5 ∨ (rs.getD i recZ).type = 5) → cmpN (rs.getD (i - 1) recZ).name (rs.getD i recZ).name ≠ 0) := by
   intro i h0 hi
   have hq := (Ey (h i hi)).2.2.2 h0
   unfold follows at hq
   simp only [Bool.and_eq_true, Bool.or_eq_true, decide_eq_true_eq] at hq
   have h1 := hq.1
   unfold Pd at h1
   rw [if_pos ⟨hok _ (by omega), hok _ hi⟩] at h1
   refine ⟨h1, fun e => ?_⟩
   have h2 := hq.2.resolve_left (by omega)
   unfold Bo at h2
   rwa [if_pos ⟨Ds (hok _ (by omega)), Ds (hok _ hi)⟩] at h2
  have hs : ∀ i, 0 < i → i < rs.length → cmpN (rs.getD (i - 1) recZ).name (rs.getD i recZ).name ≤ 0 := fun i h0 hi => Kw (hf i h0 hi).1
  intro i hi
  obtain ⟨p1, p2, p3, p4⟩ := Ey (h i hi)
  refine ⟨p1, ?_, fun h0 => (hf i h0 hi).1, ?_, fun e => ?_⟩
  ·unfold Go.Proofs.YtfneahdnpmamkaaGreat.under at p2
   simp only [Bool.and_eq_true] at p2
   exact p2.2.2
  ·intro e5 k hk hne e0
   rcases Nat.lt_or_gt_of_ne hne with hlt | hgt
   ·have := Gx (Ke hs (show k ≤ i - 1 by omega) (by omega)) (hs i (by omega) hi) e0
    exact (hf i (by omega) hi).2 (.inr e5) this.2
   ·have e0' : cmpN (rs.getD i recZ).name (rs.getD k recZ).name = 0 := by
     have := Fg (rs.getD i recZ).name (rs.getD k recZ).name
     omega
    have hs1 := hs (i + 1) (by omega) (by omega)
    have hf1 := hf (i + 1) (by omega) (by omega)
    rw [show i + 1 - 1 = i by omega] at hs1 hf1
    have := Gx hs1 (Ke hs (show i + 1 ≤ k by omega) hk) e0'
    exact hf1.2 (.inl e5) this.1
  ·have := p3 e
   unfold Bo at this
   rwa [if_pos ⟨Ds p1, ho⟩] at this
 ·intro h i hi
  have g := h i hi
  unfold Fj Ji Go.Proofs.YtfneahdnpmamkaaGreat.under
  rw [g.ok, Ds g.ok, ho, g.under]
  simp only [Bool.true_and, Bool.and_eq_true, Bool.or_eq_true, decide_eq_true_eq]
  refine ⟨?_, ?_⟩
  ·by_cases e : (rs.getD i recZ).type = 6
   ·right
    unfold Bo
    rw [if_pos ⟨Ds g.ok, ho⟩]
    exact g.soa e
   ·exact .inl e
  ·by_cases e : i = 0
   ·exact .inl e
   ·right
    have g' := h (i - 1) (by omega)
    unfold follows Pd Bo
    rw [if_pos ⟨g'.ok, g.ok⟩, if_pos ⟨Ds g'.ok, Ds g.ok⟩]
    simp only [Bool.and_eq_true, Bool.or_eq_true, decide_eq_true_eq]
    refine ⟨g.next (by omega), ?_⟩
    by_cases e1 : (rs.getD (i - 1) recZ).type = 5
    ·right
     have := g'.alone e1 i hi (by omega)
     have hs := Fg (rs.getD (i - 1) recZ).name (rs.getD i recZ).name
     omega
    ·by_cases e2 : (rs.getD i recZ).type = 5
     ·exact .inr (g.alone e2 (i - 1) (by omega) (by omega))
     ·exact .inl ⟨e1, e2⟩
theorem Dc {o : List (List Int)} {rs : List Rec} {i : Nat} (ho : Ag o = true) (hi : i < rs.length) (h : ¬ Mw o rs i) : Ar o rs = false := decide_eq_false fun h' => h ((Ka ho).1 h'.2.2.1 i hi)
theorem Ta {o : List (List Int)} {rs : List Rec} (h1 : Ag o = true) (h2 : rs.length ≤ 60) (h : ∀ i, i < rs.length → Mw o rs i) : Ar o rs = decide (soas rs rs.length = 1) := Oc h1 h2 ((Ka h1).2 h)
end Go.Proofs.YtfneahdnpmamkaaGreat

namespace Go.Proofs.YtfneahdnpmamkaaGreat
open Go.RowKit

def Kz (n : List (List Int)) : Prop := n.length ≤ 6 ∧ ∀ k, k < n.length → (n.getD k []).length ≤ 15
def Em (r : Rec) : Prop := (r.name.length ≤ 6 ∧ ∀ k, k < r.name.length → (r.name.getD k []).length ≤ 15) ∧ (r.to.length ≤ 6 ∧ ∀ k, k < r.to.length → (r.to.getD k []).length ≤ 15) ∧ r.text.length ≤ 1048576 ∧ r.nums.length ≤ 1048576
theorem C8 {n : List (List Int)} (h : Ag n = true) : Kz n := ⟨(Ai h).1, fun k hk => (B6 ((Ai h).2 k hk)).2⟩
theorem Vi : Kz [] := ⟨by simp, fun k hk => absurd hk (by simp)⟩
end Go.Proofs.YtfneahdnpmamkaaGreat

namespace Go.Proofs.YtfneahdnpmamkaaGreat
open Go.RowKit

theorem K6 {r : Rec} (h : rrOk r = true) : Em r := by
 unfold rrOk Bg at h
 simp only [Bool.and_eq_true] at h
 obtain ⟨h1, h2, h3, h4, h5, h6, h7⟩ := h
 refine ⟨C8 h1, ?_, ?_, ?_⟩
 ·by_cases e : named r.type = true
  ·rw [if_pos e] at h5
   exact C8 h5
  ·rw [if_neg e] at h5
   have := of_decide_eq_true h5
   rw [List.eq_nil_of_length_eq_zero this]
   exact Vi
 ·by_cases e : Cc r.type = true
  ·rw [if_pos e] at h6
   have := of_decide_eq_true h6
   omega
  ·rw [if_neg e] at h6
   have := of_decide_eq_true h6
   omega
 ·by_cases e : r.type = 6
  ·rw [if_pos e] at h7
   have := (of_decide_eq_true h7).1
   omega
  ·rw [if_neg e] at h7
   have := of_decide_eq_true h7
   omega
theorem Bs {o : List (List Int)} {rs : List Rec} (h : Ar o rs = true) : Kz o ∧ (∀ i, i < rs.length → Em (rs.getD i recZ)) ∧ rs.length ≤ 60 := by
 obtain ⟨h1, h2, h3, _⟩ := of_decide_eq_true h
 exact ⟨C8 h1, fun i hi => K6 (Ey (h3 i hi)).1, h2⟩
def Fx (o : List (List Int)) (s : Int) : Rec := ⟨o, 6, 60, 0, o, [], [s, 60]⟩
def Cb (o : List (List Int)) (s : Int) : (List (List Int) × List Rec) × Bool := if Ar o [Fx o s] = true then ((o, [Fx o s]), true) else (([], []), false)
end Go.Proofs.YtfneahdnpmamkaaGreat

namespace Go.Proofs.YtfneahdnpmamkaaGreat
open Go.RowKit

def selB (n : List (List Int)) (t : Int) (r : Rec) : Bool := (cmpN r.name n == 0) && ((t == 255) || (r.type == t))
def selK (n : List (List Int)) (t : Int) (rs : List Rec) : Nat → List Rec
 | 0 => []
 | k + 1 => if selB n t (rs.getD k recZ) = true then selK n t rs k ++ [rs.getD k recZ] else selK n t rs k
theorem H9 (n : List (List Int)) (t : Int) (rs : List Rec) : ∀ k, (selK n t rs k).length ≤ k
 | 0 => Nat.le_refl _
 | k + 1 => by
  have := H9 n t rs k
  unfold selK
  split
  ·simp; omega
  ·omega
theorem Pa {n : List (List Int)} {t : Int} {rs : List Rec} : ∀ {k : Nat}, (∀ j, j < k → selB n t (rs.getD j recZ) = false) → selK n t rs k = []
 | 0, _ => rfl
 | k + 1, h => by
  unfold selK
  rw [h k (by omega), if_neg (by simp)]
  exact Pa (fun j hj => h j (by omega))
theorem N6 {n : List (List Int)} {t : Int} {rs : List Rec} {s : Nat} (h1 : selB n t (rs.getD s recZ) = true) (h0 : ∀ j, j < s → selB n t (rs.getD j recZ) = false) : ∀ d, 1 ≤ (selK n t rs (s + 1 + d)).length ∧ (selK n t rs (s + 1 + d)).getD 0 recZ = rs.getD s recZ
 | 0 => by
  rw [Nat.add_zero]
  unfold selK
  rw [if_pos h1, Pa h0]
  simp
 | d + 1 => by
  obtain ⟨q1, q2⟩ := N6 h1 h0 d
  have e : selK n t rs (s + 1 + (d + 1)) = if selB n t (rs.getD (s + 1 + d) recZ) = true then selK n t rs (s + 1 + d) ++ [rs.getD (s + 1 + d) recZ] else selK n t rs (s + 1 + d) := rfl
  rw [e]
  by_cases hq : selB n t (rs.getD (s + 1 + d) recZ) = true
  ·rw [if_pos hq]
   refine ⟨by simp, ?_⟩
   rw [List.getD_eq_getElem?_getD, List.getElem?_append_left (by omega), ← List.getD_eq_getElem?_getD]
   exact q2
  ·rw [if_neg hq]
   exact ⟨q1, q2⟩
theorem Po {rs : List Rec} : ∀ {k : Nat}, 0 < soas rs k → ∃ s, s < k ∧ (rs.getD s recZ).type = 6 ∧ ∀ j, j < s → (rs.getD j recZ).type ≠ 6
 | 0, h => by simp [soas] at h
 | k + 1, h => by
  by_cases h0 : 0 < soas rs k
  ·obtain ⟨s, h1, h2, h3⟩ := Po h0
   exact ⟨s, by omega, h2, h3⟩
  ·unfold soas at h
   split at h
   ·rename_i h6
    refine ⟨k, by omega, h6, fun j hj e => ?_⟩
    have : ∀ i, j < i → i ≤ k → 0 < soas rs i := by
     intro i hi hik
     induction i with
     | zero => omega
     | succ i ih =>
      unfold soas
      by_cases e2 : j = i
      ·subst e2
       rw [if_pos e]
       omega
      ·have := ih (by omega) (by omega)
       split <;> omega
    have := this k hj (Nat.le_refl _)
    omega
   ·omega
theorem Yk {o : List (List Int)} {rs : List Rec} (h : Ar o rs = true) : ∃ s, s < rs.length ∧ (rs.getD s recZ).type = 6 ∧ (∀ j, j < s → (rs.getD j recZ).type ≠ 6) ∧ 1 ≤ (selK o 6 rs rs.length).length ∧ (selK o 6 rs rs.length).getD 0 recZ = rs.getD s recZ ∧ (rs.getD s recZ).nums.length = 2 := by
 have h' := of_decide_eq_true h
 obtain ⟨ho, h60, hg, h1⟩ := h'
 have hS := (Ka ho).1 hg
 obtain ⟨s, hs, h6, hb⟩ := Po (rs := rs) (k := rs.length) (by omega)
 have q1 : selB o 6 (rs.getD s recZ) = true := by
  unfold selB
  rw [(hS s hs).soa h6, h6]
  rfl
 have q0 : ∀ j, j < s → selB o 6 (rs.getD j recZ) = false := fun j hj => by
  unfold selB
  have : ((rs.getD j recZ).type == (6 : Int)) = false := by
   rw [beq_eq_false_iff_ne]
   exact hb j hj
  rw [this]
  simp
 have hf := N6 q1 q0 (rs.length - (s + 1))
 rw [show s + 1 + (rs.length - (s + 1)) = rs.length by omega] at hf
 refine ⟨s, hs, h6, hb, hf.1, hf.2, ?_⟩
 have hok := (hS s hs).ok
 unfold rrOk Bg at hok
 simp only [Bool.and_eq_true, h6, if_true] at hok
 have := of_decide_eq_true hok.2.2.2.2.2.2
 exact this.1

def RowS (B : Nat) (e : TypeId) (W w : World) (v : Value) (rs : List Rec) : Prop :=
 ∃ xs, w.ownsRow B e 7 v rs.length xs ∧ ∀ i, i < rs.length → ∃ vn vt vx vi, (∀ j u, (Ah vn vt vx vi (rs.getD i recZ))[j]? = some u → xs[i * 7 + j]? = some u) ∧ HasR W vn vt vx vi (rs.getD i recZ)
theorem RowS.nil (B : Nat) (e : TypeId) (W w : World) : RowS B e W w (.slice none 0 0) [] := ⟨[], World.ownsRow_nil _ _ _ _, fun i hi => absurd hi (by simp)⟩
theorem RowS.snoc {B : Nat} {e : TypeId} {W w' : World} {v' : Value} {rs : List Rec} {xs : List Value} {r : Rec} {vn vt vx vi : Value} (hl : xs.length = rs.length * 7)
  (hx : ∀ i, i < rs.length → ∃ vn vt vx vi, (∀ j u, (Ah vn vt vx vi (rs.getD i recZ))[j]? = some u → xs[i * 7 + j]? = some u) ∧ HasR W vn vt vx vi (rs.getD i recZ))
  (ho : w'.ownsRow B e 7 v' (rs.length + 1) (xs ++ Ah vn vt vx vi r)) (hr : HasR W vn vt vx vi r) : RowS B e W w' v' (rs ++ [r]) := by
 refine ⟨xs ++ Ah vn vt vx vi r, by rw [List.length_append]; exact ho, fun i hi => ?_⟩
 rw [List.length_append] at hi
 simp only [List.length_cons, List.length_nil] at hi
 by_cases h : i < rs.length
 ·obtain ⟨un, ut, ux, ui, q1, q2⟩ := hx i h
  have e1 : (rs ++ [r]).getD i recZ = rs.getD i recZ := by rw [List.getD_eq_getElem?_getD, List.getElem?_append_left h, ← List.getD_eq_getElem?_getD]
  rw [e1]
  refine ⟨un, ut, ux, ui, fun j u hj => ?_, q2⟩
  have hj7 : j < 7 := by
   have := (List.getElem?_eq_some_iff.1 hj).1
   simpa [Ah] using this
  rw [List.getElem?_append_left (by omega)]
  exact q1 j u hj
 ·obtain rfl : i = rs.length := by omega
  have e1 : (rs ++ [r]).getD rs.length recZ = r := by rw [List.getD_eq_getElem?_getD]; simp
  rw [e1]
  refine ⟨vn, vt, vx, vi, fun j u hj => ?_, hr⟩
  rw [List.getElem?_append_right (by omega), hl, Nat.add_sub_cancel_left]
  exact hj
theorem RowS.has {B : Nat} {e : TypeId} {W w : World} {v : Value} {rs : List Rec} (h : RowS B e W w v rs) (hb : Below W.heap.size W w) : Cl w v rs := by
 obtain ⟨xs, ho, hx⟩ := h
 have ho' := ho
 rcases ho.2 with ⟨rfl, hn⟩ | ⟨g, cap, cur, rfl, hB, hg, hn, hm, hs, ht⟩
 ·exact .inl ⟨rfl, List.eq_nil_of_length_eq_zero hn⟩
 ·refine .inr ⟨g, 0, cap, rfl, VC hg, hn, hm, fun i hi => ?_⟩
  obtain ⟨vn, vt, vx, vi, q1, q2⟩ := hx i hi
  refine ⟨vn, vt, vx, vi, fun j u hj => ?_, q2.below hb⟩
  have hj7 : j < 7 := by
   have := (List.getElem?_eq_some_iff.1 hj).1
   simpa [Ah] using this
  rw [Nat.zero_add, World.ownsRow.cellAt ho' (i * 7 + j) (by omega)]
  exact q1 j u hj
def Nm (o : List (List Int)) (rs : List Rec) : Int := if Ar o rs = true then ((selK o 6 rs rs.length).getD 0 recZ).nums.getD 0 0 else 0

end Go.Proofs.YtfneahdnpmamkaaGreat

namespace Go.Proofs.YtfneahdnpmamkaaGreat
open Go.RowKit
set_option linter.unusedVariables false

theorem Ev {o : List (List Int)} {rs : List Rec} (h : Ar o rs = true) : ∀ i, i < rs.length → rrOk (rs.getD i recZ) = true := fun i hi => (Ey ((of_decide_eq_true h).2.2.1 i hi)).1
theorem Sy {rs : List Rec} (h : ∀ i, i < rs.length → rrOk (rs.getD i recZ) = true) : ∀ r ∈ rs, Ag r.name = true := by
 intro r hr
 obtain ⟨i, hi, rfl⟩ := List.getElem_of_mem hr
 have := h i hi
 simp only [List.getD_eq_getElem?_getD, List.getElem?_eq_getElem hi, Option.getD_some] at this
 exact (A2 this).1
end Go.Proofs.YtfneahdnpmamkaaGreat

namespace Go.Proofs.YtfneahdnpmamkaaGreat
open Go.RowKit

theorem cmpB_eq {a b : List Int} (ha : ∀ c ∈ a, 0 ≤ c ∧ c ≤ 255) (hb : ∀ c ∈ b, 0 ≤ c ∧ c ≤ 255) : cmpB a b = 0 ↔ a = b := by
 have h1 := Sb a b
 rw [Yp a b ha hb] at h1
 exact ⟨fun h => of_decide_eq_true (h1.trans (decide_eq_true h)), fun h => by subst h; exact Kg a⟩

def Sq (n : List (List Int)) : Prop := ∀ l ∈ n, ∀ c ∈ l, 0 ≤ c ∧ c ≤ 255
theorem P1 : ∀ {a b : List (List Int)}, Sq a → Sq b → cmpL a b = 0 → a = b
 | [], [], _, _, _ => rfl
 | [], _ :: _, _, _, h => by
  unfold cmpL at h
  omega
 | _ :: _, [], _, _, h => by
  unfold cmpL at h
  omega
 | x :: a, y :: b, ha, hb, h => by
  unfold cmpL at h
  by_cases e : cmpB x y = 0
  ·simp only [e, ne_eq, not_true, if_false] at h
   rw [(cmpB_eq (ha x (by simp)) (hb y (by simp))).1 e, P1 (fun l hl => ha l (by simp [hl])) (fun l hl => hb l (by simp [hl])) h]
  ·simp only [e, ne_eq, not_false_iff, if_true] at h
theorem Vh {a b : List (List Int)} (ha : Sq a) (hb : Sq b) : cmpN a b = 0 ↔ a = b := by
 refine ⟨fun h => ?_, fun h => by subst h; exact Ki a⟩
 rw [Mf] at h
 have := P1 (fun l hl => ha l (by simpa using hl)) (fun l hl => hb l (by simpa using hl)) h
 simpa using congrArg List.reverse this
end Go.Proofs.YtfneahdnpmamkaaGreat

namespace Go.Proofs.YtfneahdnpmamkaaGreat
open Go.RowKit

def keyD (r : Rec) : List Int := [] ++ [r.type / 256, r.type % 256] ++ Cs r
end Go.Proofs.YtfneahdnpmamkaaGreat
