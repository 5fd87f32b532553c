/-
  Plain facts: which records may be. No program is named here. Plain facts: the book of a zone's records has a name just if the records have. No program is named here. Plain facts: a record's data as bytes. No program is named here. Plain facts: the order of records. No program is named here.
-/
import Derived.Test.YtmlcmkoefelolaaGreatAddG02
import Derived.Test.YtmlcmkoefelolaaGreatAddG10
import Derived.Laws.BytesArg
import Derived.Test.YtmlcmkoefelolaaGreatAddG09
namespace Go.Proofs.YtmlcmkoefelolaaGreat
open Go.RowKit

def named (t : Int) : Bool := decide (t = 2 ∨ t = 5 ∨ t = 6 ∨ t = 12)
def texted (t : Int) : Bool := decide (t = 16 ∨ t = 49)

/-- The data are as the type wants them. -/
def dataOk (r : Rec) : Bool :=
 (if r.type = 1 then decide (0 ≤ r.addr ∧ r.addr ≤ 4294967295) else decide (r.addr = 0)) && ((if named r.type = true then nameOk r.to else decide (r.to.length = 0)) && ((if texted r.type = true then decide (r.text.length ≤ 40) else decide (r.text.length = 0)) &&
 (if r.type = 6 then decide (r.nums.length = 2 ∧ 0 ≤ r.nums.getD 0 0 ∧ r.nums.getD 0 0 ≤ 4294967295 ∧ 0 ≤ r.nums.getD 1 0 ∧ r.nums.getD 1 0 ≤ 100000) else decide (r.nums.length = 0))))
def rrOk (r : Rec) : Bool := nameOk r.name && (typeOk r.type && (decide (0 ≤ r.ttl ∧ r.ttl ≤ 100000) && dataOk r))

theorem HasI.two {w : World} {v : Value} {x y : Int} (h : HasI w v [x, y]) : ∃ g off cap, v = .slice (some ⟨g, off, none⟩) 2 cap ∧ g < w.heap.size ∧ w.cell? ⟨g, off, none⟩ = some (.int .i64 x) ∧ w.cell? ⟨g, off + 1, none⟩ = some (.int .i64 y) := by
 rcases h with ⟨_, h⟩ | ⟨g, off, cap, hv, hlt, _, _, hc⟩
 ·cases h
 ·exact ⟨g, off, cap, hv, hlt, hc 0 (by simp), hc 1 (by simp)⟩
theorem two_of {l : List Int} (h : l.length = 2) : ∃ x y, l = [x, y] := by
 match l, h with
 | [x, y], _ => exact ⟨x, y, rfl⟩
theorem nil_of {α : Type} {l : List α} (h : l.length = 0) : l = [] := List.eq_nil_of_length_eq_zero h
end Go.Proofs.YtmlcmkoefelolaaGreat

namespace Go.Proofs.YtmlcmkoefelolaaGreat
open Go.RowKit
set_option linter.unusedVariables false

theorem mem_putA_other {κ α : Type} [DecidableEq κ] {k : κ} {v : α} : ∀ {l : List (κ × α)} {p : κ × α}, p ∈ l → p.1 ≠ k → p ∈ putA k v l
 | [], p, h, _ => by simp at h
 | (a, u) :: t, p, h, hk => by
  by_cases e : a = k
  ·simp only [putA, if_pos e]
   rcases List.mem_cons.1 h with rfl | h
   ·exact absurd e hk
   ·exact List.mem_cons_of_mem _ h
  ·simp only [putA, if_neg e]
   rcases List.mem_cons.1 h with rfl | h
   ·exact List.mem_cons_self ..
   ·exact List.mem_cons_of_mem _ (mem_putA_other h hk)
theorem mem_putA_self {κ α : Type} [DecidableEq κ] {k : κ} {v : α} {l : List (κ × α)} : (k, v) ∈ putA k v l := lookA_in lookA_put

/-- Texts of bytes that are one are of the same bytes. -/
theorem strOfNums_inj : ∀ {l m : List Int}, (∀ x ∈ l, 0 ≤ x ∧ x ≤ 255) → (∀ x ∈ m, 0 ≤ x ∧ x ≤ 255) → strOfNums l = strOfNums m → l = m := by
 intro l m hl hm h
 have h1 : l.map (fun n => UInt8.ofNat n.toNat) = m.map (fun n => UInt8.ofNat n.toNat) := by
  simp only [strOfNums, ByteArray.mk.injEq] at h
  simpa using h
 clear h
 induction l generalizing m with
 | nil =>
  cases m with
  | nil => rfl
  | cons b t => simp at h1
 | cons a t ih =>
  cases m with
  | nil => simp at h1
  | cons b s =>
   simp only [List.map_cons, List.cons.injEq] at h1
   have ha := hl a (List.mem_cons_self ..)
   have hb := hm b (List.mem_cons_self ..)
   have e : a.toNat = b.toNat := by
    have := congrArg UInt8.toNat h1.1
    simp only [UInt8.toNat_ofNat'] at this
    omega
   rw [show a = b by omega, ih (fun x hx => hl x (List.mem_cons_of_mem _ hx)) (fun x hx => hm x (List.mem_cons_of_mem _ hx)) h1.2]
theorem cut_zero : ∀ {l m A B : List Int}, (∀ x ∈ l, x ≠ 0) → (∀ x ∈ m, x ≠ 0) → l ++ 0 :: A = m ++ 0 :: B → l = m ∧ A = B
 | [], [], A, B, _, _, h => by simpa using h
 | [], b :: t, A, B, _, hm, h => by
  simp only [List.nil_append, List.cons_append, List.cons.injEq] at h
  exact absurd h.1.symm (hm b (List.mem_cons_self ..))
 | a :: t, [], A, B, hl, _, h => by
  simp only [List.nil_append, List.cons_append, List.cons.injEq] at h
  exact absurd h.1 (hl a (List.mem_cons_self ..))
 | a :: t, b :: s, A, B, hl, hm, h => by
  simp only [List.cons_append, List.cons.injEq] at h
  obtain ⟨h1, h2⟩ := cut_zero (fun x hx => hl x (List.mem_cons_of_mem _ hx)) (fun x hx => hm x (List.mem_cons_of_mem _ hx)) h.2
  rw [h.1, h1]
  exact ⟨rfl, h2⟩
theorem keyP_inj : ∀ {ls ms : List (List Int)}, (∀ l ∈ ls, ∀ x ∈ l, x ≠ 0) → (∀ l ∈ ms, ∀ x ∈ l, x ≠ 0) → keyP ls = keyP ms → ls = ms
 | [], [], _, _, _ => rfl
 | [], m :: t, _, _, h => by simp [keyP] at h
 | l :: t, [], _, _, h => by simp [keyP] at h
 | l :: t, m :: s, hl, hm, h => by
  simp only [keyP, List.flatMap_cons, List.append_assoc, List.singleton_append] at h
  obtain ⟨h1, h2⟩ := cut_zero (hl l (List.mem_cons_self ..)) (hm m (List.mem_cons_self ..)) h
  rw [h1, keyP_inj (fun x hx => hl x (List.mem_cons_of_mem _ hx)) (fun x hx => hm x (List.mem_cons_of_mem _ hx)) h2]
theorem sign_of {n : List (List Int)} (h : nameOk n = true) : ∀ l ∈ n, ∀ x ∈ l, 45 ≤ x ∧ x ≤ 122 := by
 intro l hl x hx
 obtain ⟨i, hi, rfl⟩ := List.getElem_of_mem hl
 have h1 := (nameOk_parts h).2 i hi
 rw [show n.getD i [] = n[i] by simp [hi]] at h1
 obtain ⟨j, hj, rfl⟩ := List.getElem_of_mem hx
 have h2 := (of_decide_eq_true h1).2.2 j hj
 rw [show n[i].getD j 0 = n[i][j] by simp [hj]] at h2
 have := of_decide_eq_true h2
 omega
theorem keyP_bytes {ls : List (List Int)} (h : ∀ l ∈ ls, ∀ x ∈ l, 45 ≤ x ∧ x ≤ 122) : ∀ x ∈ keyP ls, 0 ≤ x ∧ x ≤ 255 := by
 intro x hx
 obtain ⟨l, hl, hx⟩ := List.mem_flatMap.1 hx
 rcases List.mem_append.1 hx with hx | hx
 ·have := h l hl x hx
  omega
 ·simp at hx
  omega
/-- The keys of names that may be are one just if the names are. -/
theorem keyN_inj {n m : List (List Int)} (hn : nameOk n = true) (hm : nameOk m = true) (h : strOfNums (keyN n) = strOfNums (keyN m)) : n = m := by
 have r1 : ∀ l ∈ n.reverse, ∀ x ∈ l, 45 ≤ x ∧ x ≤ 122 := fun l hl => sign_of hn l (List.mem_reverse.1 hl)
 have r2 : ∀ l ∈ m.reverse, ∀ x ∈ l, 45 ≤ x ∧ x ≤ 122 := fun l hl => sign_of hm l (List.mem_reverse.1 hl)
 have e1 : keyP n.reverse = keyP m.reverse := strOfNums_inj (keyP_bytes r1) (keyP_bytes r2) h
 have e2 := keyP_inj (fun l hl x hx => by have := r1 l hl x hx; omega) (fun l hl x hx => by have := r2 l hl x hx; omega) e1
 exact List.reverse_inj.1 e2

theorem page_of (kn : ByteArray) (B : Bk) {x : ByteArray × Rec} (hx : x ∈ (lookA kn B).getD []) : ∃ P, (kn, P) ∈ B ∧ x ∈ P := by
 cases h : lookA kn B with
 | none => rw [h] at hx; simp at hx
 | some P => rw [h] at hx; exact ⟨P, lookA_in h, hx⟩
end Go.Proofs.YtmlcmkoefelolaaGreat

namespace Go.Proofs.YtmlcmkoefelolaaGreat
open Go.RowKit

/-- The data, as bytes. -/
def dataB (r : Rec) : List Int :=
 if r.type = 1 then put32 [] r.addr else if r.type = 6 then put32 (put32 (wire r.to) (r.nums.getD 0 0)) (r.nums.getD 1 0) else if named r.type = true then wire r.to else (r.text.length : Int) :: r.text

/-- What the data of a record that may be are: of its four kinds one. -/
theorem data_kinds {r : Rec} (ht : typeOk r.type = true) (h : dataOk r = true) :
  (r.type = 1 ∧ 0 ≤ r.addr ∧ r.addr ≤ 4294967295 ∧ dataB r = put32 [] r.addr) ∨ ((r.type = 2 ∨ r.type = 5 ∨ r.type = 12) ∧ nameOk r.to = true ∧ dataB r = wire r.to) ∨
  (r.type = 6 ∧ nameOk r.to = true ∧ (∃ x y, r.nums = [x, y] ∧ 0 ≤ x ∧ x ≤ 4294967295 ∧ 0 ≤ y ∧ y ≤ 100000 ∧ dataB r = put32 (put32 (wire r.to) x) y)) ∨ ((r.type = 16 ∨ r.type = 49) ∧ r.text.length ≤ 40 ∧ dataB r = (r.text.length : Int) :: r.text) := by
 have ht' : r.type = 1 ∨ r.type = 2 ∨ r.type = 5 ∨ r.type = 6 ∨ r.type = 12 ∨ r.type = 16 ∨ r.type = 49 := of_decide_eq_true ht
 unfold dataOk at h
 simp only [Bool.and_eq_true] at h
 obtain ⟨h1, h2, h3, h4⟩ := h
 by_cases e1 : r.type = 1
 ·left
  rw [if_pos e1] at h1
  have := of_decide_eq_true h1
  exact ⟨e1, this.1, this.2, by unfold dataB; rw [if_pos e1]⟩
 by_cases e6 : r.type = 6
 ·right; right; left
  have hn : named r.type = true := decide_eq_true (by omega)
  rw [if_pos hn] at h2
  rw [if_pos e6] at h4
  have h5 := of_decide_eq_true h4
  obtain ⟨x, y, hxy⟩ := two_of h5.1
  rw [hxy] at h5
  refine ⟨e6, h2, x, y, hxy, h5.2.1, h5.2.2.1, h5.2.2.2.1, h5.2.2.2.2, ?_⟩
  unfold dataB
  rw [if_neg e1, if_pos e6, hxy]
  rfl
 by_cases en : r.type = 2 ∨ r.type = 5 ∨ r.type = 12
 ·right; left
  have hn : named r.type = true := decide_eq_true (by omega)
  rw [if_pos hn] at h2
  exact ⟨en, h2, by unfold dataB; rw [if_neg e1, if_neg e6, if_pos hn]⟩
 ·right; right; right
  have hx : texted r.type = true := decide_eq_true (by omega)
  have hn : ¬ named r.type = true := by
   intro hh
   have : r.type = 2 ∨ r.type = 5 ∨ r.type = 6 ∨ r.type = 12 := of_decide_eq_true hh
   omega
  rw [if_pos hx] at h3
  exact ⟨by omega, of_decide_eq_true h3, by unfold dataB; rw [if_neg e1, if_neg e6, if_neg hn]⟩
theorem rrOk_parts {r : Rec} (h : rrOk r = true) : nameOk r.name = true ∧ typeOk r.type = true ∧ 0 ≤ r.ttl ∧ r.ttl ≤ 100000 ∧ dataOk r = true := by
 unfold rrOk at h
 simp only [Bool.and_eq_true] at h
 have := of_decide_eq_true h.2.2.1
 exact ⟨h.1, h.2.1, this.1, this.2, h.2.2.2⟩
theorem dataB_length {r : Rec} (h : rrOk r = true) : (dataB r).length ≤ 105 := by
 obtain ⟨_, ht, _, _, hd⟩ := rrOk_parts h
 rcases data_kinds ht hd with ⟨_, _, _, e⟩ | ⟨_, hn, e⟩ | ⟨_, hn, x, y, _, _, _, _, _, e⟩ | ⟨_, hx, e⟩
 ·rw [e]; have := put32_length [] r.addr; simp at this; omega
 ·rw [e]; have := wire_length r.to hn; omega
 ·rw [e]
  have h1 := wire_length r.to hn
  have h2 := put32_length (wire r.to) x
  have h3 := put32_length (put32 (wire r.to) x) y
  omega
 ·rw [e]; simp; omega
end Go.Proofs.YtmlcmkoefelolaaGreat

namespace Go.Proofs.YtmlcmkoefelolaaGreat
open Go.RowKit

/-- By name, type, data. -/
def cmpR (a b : Rec) : Int := if cmpN a.name b.name ≠ 0 then cmpN a.name b.name else if byLength a.type b.type ≠ 0 then byLength a.type b.type else cmpB (dataB a) (dataB b)
def rrCmp (a b : Rec) : Int := if rrOk a = true ∧ rrOk b = true then cmpR a b else 0
theorem byLength_zero {x y : Int} (h : byLength x y = 0) : x = y := by
 unfold byLength at h
 split at h
 ·omega
 ·split at h
  ·omega
  ·omega
end Go.Proofs.YtmlcmkoefelolaaGreat
