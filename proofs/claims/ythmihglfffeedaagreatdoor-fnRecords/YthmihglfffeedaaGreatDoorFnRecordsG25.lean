/-
  Plain facts: a record comes back from its bytes, its data from theirs. No program is named here. Plain facts: a name that ends with another, and the end of a list of texts in memory. No program is named here. Plain facts: the order of names is one. No program is named here. Plain facts: names that are the same, names that end with others, and their order. No program is named here. Plain facts: what the law of the order of names asks for. No program is named here. Plain facts: the order of records. No program is named here. Contracts of the laws' same.
-/
import Derived.Test.YthmihglfffeedaaGreatDoorFnRecordsG24
import Derived.Test.YthmihglfffeedaaGreatDoorFnRecordsG16
import Derived.Test.YthmihglfffeedaaGreatDoorFnRecordsG20
import Derived.Test.YthmihglfffeedaaGreatDoorFnRecordsG21
import Derived.Test.YthmihglfffeedaaGreatDoorFnRecordsG05
import Derived.Test.YthmihglfffeedaaGreatDoorFnRecordsG03
import Derived.WalkKit
namespace Go.Proofs.YthmihglfffeedaaGreatDoor
open Go.RowKit
set_option linter.unusedVariables false

theorem get16_mid (a rest : List Int) (n : Int) : get16 (a ++ [n / 256, n % 256] ++ rest) a.length = (n, (a.length : Int) + 2) := by
 unfold get16
 rw [if_pos (by simp; omega)]
 have e0 : (a ++ [n / 256, n % 256] ++ rest).getD ((a.length : Nat) : Int).toNat 0 = n / 256 := by
  rw [Int.toNat_natCast, List.getD_eq_getElem?_getD, List.append_assoc, List.getElem?_append_right (by omega)]
  simp
 have e1 : (a ++ [n / 256, n % 256] ++ rest).getD (((a.length : Nat) : Int).toNat + 1) 0 = n % 256 := by
  rw [Int.toNat_natCast, List.getD_eq_getElem?_getD, List.append_assoc, List.getElem?_append_right (by omega)]
  simp
 rw [e0, e1]
 congr 1
 omega
theorem get32_mid (a rest : List Int) (n : Int) (h0 : 0 ≤ n) : get32 (a ++ [n / 16777216, n / 65536 % 256, n / 256 % 256, n % 256] ++ rest) a.length = (n, (a.length : Int) + 4) := by
 rw [get32_yes (by simp; omega)]
 have e : ∀ j, j < 4 → (a ++ [n / 16777216, n / 65536 % 256, n / 256 % 256, n % 256] ++ rest).getD (a.length + j) 0 = [n / 16777216, n / 65536 % 256, n / 256 % 256, n % 256].getD j 0 := fun j hj => by
  rw [List.getD_eq_getElem?_getD, List.append_assoc, List.getElem?_append_right (by omega), List.getElem?_append_left (by simp; omega), List.getD_eq_getElem?_getD]
  congr 2
  omega
 have e0 := e 0 (by omega); have e1 := e 1 (by omega); have e2 := e 2 (by omega); have e3 := e 3 (by omega)
 rw [Nat.add_zero] at e0
 rw [e0, e1, e2, e3]
 simp
 omega
theorem put16_is (a : List Int) {n : Int} (h0 : 0 ≤ n) (h1 : n ≤ 65535) : put16 a n = a ++ [n / 256, n % 256] := if_pos ⟨h0, h1⟩
theorem put32_is (a : List Int) {n : Int} (h0 : 0 ≤ n) (h1 : n ≤ 4294967295) : put32 a n = a ++ [n / 16777216, n / 65536 % 256, n / 256 % 256, n % 256] := if_pos ⟨h0, h1⟩
theorem nameGet_mid (a rest : List Int) {n : List (List Int)} (hok : nameOk n = true) (hl : (a ++ wire n ++ rest).length ≤ 512) : nameGet (a ++ wire n ++ rest) a.length = (n, (a.length : Int) + (wire n).length) := by
 have h6 := (nameOk_parts hok).1
 unfold nameGet
 rw [if_neg (by simp only [List.length_append] at hl ⊢; omega)]
 have := get_wire n a rest [] 20 0 (-1) (by simpa using hok) (by omega)
 rw [List.append_assoc, this]
 simp
theorem counted_mid (a m rest : List Int) : countedOf (a ++ ((m.length : Int) :: m) ++ rest) a.length = (m, (a.length : Int) + 1 + m.length) := by
 have e0 : a ++ ((m.length : Int) :: m) ++ rest = a ++ (m.length : Int) :: (m ++ rest) := by simp
 have e1 : takeOf (a ++ (m.length : Int) :: (m ++ rest)) a.length 1 = ([(m.length : Int)], (a.length : Int) + 1) := by
  have := takeOf_mid a [(m.length : Int)] (m ++ rest)
  simpa using this
 have e2 : takeOf (a ++ (m.length : Int) :: (m ++ rest)) ((a.length : Int) + 1) (m.length : Int) = (m, (a.length : Int) + 1 + m.length) := by
  have := takeOf_mid (a ++ [(m.length : Int)]) m rest
  simpa using this
 rw [e0]
 unfold countedOf
 rw [e1, if_neg (by show ¬ ((a.length : Int) + 1 < 0); omega), Int.toNat_natCast, getD_mid]
 exact e2

def bareR (r : Rec) : Rec := ⟨[], r.type, 0, r.addr, r.to, r.text, r.nums⟩
theorem bareR_ok {r : Rec} (h : rrOk r = true) : rrOk (bareR r) = true := by
 obtain ⟨_, ht, _, _, hd⟩ := rrOk_parts h
 have hd2 : dataOk (bareR r) = true := hd
 unfold rrOk
 rw [hd2]
 simp [bareR, ht]
 decide
theorem dataOk_addr {r : Rec} (h : dataOk r = true) (h1 : r.type ≠ 1) : r.addr = 0 := by
 unfold dataOk at h
 simp only [Bool.and_eq_true] at h
 have := h.1
 rw [if_neg h1] at this
 exact of_decide_eq_true this
theorem dataOk_to {r : Rec} (h : dataOk r = true) (h1 : named r.type = false) : r.to = [] := by
 unfold dataOk at h
 simp only [Bool.and_eq_true] at h
 have := h.2.1
 rw [if_neg (by rw [h1]; simp)] at this
 exact nil_of (of_decide_eq_true this)
theorem dataOk_text {r : Rec} (h : dataOk r = true) (h1 : texted r.type = false) : r.text = [] := by
 unfold dataOk at h
 simp only [Bool.and_eq_true] at h
 have := h.2.2.1
 rw [if_neg (by rw [h1]; simp)] at this
 exact nil_of (of_decide_eq_true this)
theorem dataOk_nums {r : Rec} (h : dataOk r = true) (h1 : r.type ≠ 6) : r.nums = [] := by
 unfold dataOk at h
 simp only [Bool.and_eq_true] at h
 have := h.2.2.2
 rw [if_neg h1] at this
 exact nil_of (of_decide_eq_true this)
theorem kindGet_mid (a rest : List Int) {r : Rec} (hok : rrOk r = true) (hl : (a ++ dataB r ++ rest).length ≤ 512) : kindGet r.type (a ++ dataB r ++ rest) a.length = (bareR r, (a.length : Int) + (dataB r).length) := by
 obtain ⟨_, ht, _, _, hd⟩ := rrOk_parts hok
 rcases data_kinds ht hd with ⟨e, h0, h1, eb⟩ | ⟨e, hn, eb⟩ | ⟨e, hn, x, y, exy, hx0, hx1, hy0, hy1, eb⟩ | ⟨e, hx, eb⟩
 ·rw [eb, put32_is [] h0 h1, List.nil_append]
  have h2 := dataOk_to hd (decide_eq_false (by omega)); have h3 := dataOk_text hd (decide_eq_false (by omega)); have h4 := dataOk_nums hd (by omega)
  unfold kindGet
  rw [if_pos e, get32_mid a rest r.addr h0]
  unfold bareR
  rw [h2, h3, h4]
  simp
 ·rw [eb] at hl ⊢
  have h1 := dataOk_addr hd (by omega); have h3 := dataOk_text hd (decide_eq_false (by omega)); have h4 := dataOk_nums hd (by omega)
  unfold kindGet
  rw [if_neg (by omega), if_neg (by omega), if_pos (show named r.type = true from decide_eq_true (by omega)), nameGet_mid a rest hn hl]
  unfold bareR
  rw [h1, h3, h4]
 ·rw [eb] at hl ⊢
  have h1 := dataOk_addr hd (by omega); have h3 := dataOk_text hd (decide_eq_false (by omega))
  rw [put32_is _ hx0 hx1, put32_is _ hy0 (by omega)] at hl ⊢
  have n1 : nameGet (a ++ (wire r.to ++ [x / 16777216, x / 65536 % 256, x / 256 % 256, x % 256] ++ [y / 16777216, y / 65536 % 256, y / 256 % 256, y % 256]) ++ rest) a.length = (r.to, ((a ++ wire r.to).length : Int)) := by
   have := nameGet_mid a ([x / 16777216, x / 65536 % 256, x / 256 % 256, x % 256] ++ [y / 16777216, y / 65536 % 256, y / 256 % 256, y % 256] ++ rest) hn (by simpa using hl)
   simpa using this
  have n2 : get32 (a ++ (wire r.to ++ [x / 16777216, x / 65536 % 256, x / 256 % 256, x % 256] ++ [y / 16777216, y / 65536 % 256, y / 256 % 256, y % 256]) ++ rest) ((a ++ wire r.to).length : Int) = (x, (((a ++ wire r.to ++ [x / 16777216, x / 65536 % 256, x / 256 % 256, x % 256]).length : Nat) : Int)) := by
   have := get32_mid (a ++ wire r.to) ([y / 16777216, y / 65536 % 256, y / 256 % 256, y % 256] ++ rest) x hx0
   rw [show a ++ (wire r.to ++ [x / 16777216, x / 65536 % 256, x / 256 % 256, x % 256] ++ [y / 16777216, y / 65536 % 256, y / 256 % 256, y % 256]) ++ rest = a ++ wire r.to ++ [x / 16777216, x / 65536 % 256, x / 256 % 256, x % 256] ++ ([y / 16777216, y / 65536 % 256, y / 256 % 256, y % 256] ++ rest) by simp, this]
   simp
   omega
  have n3 : get32 (a ++ (wire r.to ++ [x / 16777216, x / 65536 % 256, x / 256 % 256, x % 256] ++ [y / 16777216, y / 65536 % 256, y / 256 % 256, y % 256]) ++ rest) (((a ++ wire r.to ++ [x / 16777216, x / 65536 % 256, x / 256 % 256, x % 256]).length : Nat) : Int) = (y, (a.length : Int) + (wire r.to ++ [x / 16777216, x / 65536 % 256, x / 256 % 256, x % 256] ++ [y / 16777216, y / 65536 % 256, y / 256 % 256, y % 256]).length) := by
   have := get32_mid (a ++ wire r.to ++ [x / 16777216, x / 65536 % 256, x / 256 % 256, x % 256]) rest y hy0
   rw [show a ++ (wire r.to ++ [x / 16777216, x / 65536 % 256, x / 256 % 256, x % 256] ++ [y / 16777216, y / 65536 % 256, y / 256 % 256, y % 256]) ++ rest = a ++ wire r.to ++ [x / 16777216, x / 65536 % 256, x / 256 % 256, x % 256] ++ [y / 16777216, y / 65536 % 256, y / 256 % 256, y % 256] ++ rest by simp, this]
   simp
   omega
  unfold kindGet
  rw [if_neg (by omega), if_pos e, n1]
  simp only []
  rw [n2]
  simp only []
  rw [n3]
  unfold bareR
  rw [h1, h3, exy]
 ·rw [eb] at hl ⊢
  have h1 := dataOk_addr hd (by omega); have h2 := dataOk_to hd (decide_eq_false (by omega)); have h4 := dataOk_nums hd (by omega)
  unfold kindGet
  rw [if_neg (by omega), if_neg (by omega), if_neg (by intro q; have : r.type = 2 ∨ r.type = 5 ∨ r.type = 6 ∨ r.type = 12 := of_decide_eq_true q; omega), counted_mid a r.text rest]
  unfold bareR
  rw [h1, h2, h4]
  simp
  omega
theorem dataGet_mid (a rest : List Int) {r : Rec} (hok : rrOk r = true) (hl : (a ++ dataB r ++ rest).length ≤ 512) : dataGet r.type (a ++ dataB r ++ rest) a.length (dataB r).length = (bareR r, true) := by
 have hb := dataB_length hok
 have ht := (rrOk_parts hok).2.1
 unfold dataGet
 rw [kindGet_mid a rest hok hl, if_neg]
 rintro (q | q | q | q | q | q | q | q)
 ·rw [ht] at q; cases q
 ·omega
 ·omega
 ·omega
 ·omega
 ·replace q : (a.length : Int) + (dataB r).length < 0 := q
  omega
 ·exact q (show (a.length : Int) + (dataB r).length - a.length = (dataB r).length by omega)
 ·rw [show rrOk (bareR r, (a.length : Int) + (dataB r).length).1 = true from bareR_ok hok] at q
  cases q
theorem rrGet_put (b : List Int) {r : Rec} (hok : rrOk r = true) (hb : b.length ≤ 3) : rrGet (rrB b r) b.length = (r, ((rrB b r).length : Int)) := by
 obtain ⟨hn, ht, h0, h1, hd⟩ := rrOk_parts hok
 have ht' : r.type = 1 ∨ r.type = 2 ∨ r.type = 5 ∨ r.type = 6 ∨ r.type = 12 ∨ r.type = 16 ∨ r.type = 49 := of_decide_eq_true ht
 have hdl := dataB_length hok
 have hw := wire_length r.name hn
 have hlen := rrB_length b hok
 unfold rrB at hlen ⊢
 rw [put16_is (b ++ wire r.name) (n := r.type) (by omega) (by omega), put16_is _ (n := 1) (by omega) (by omega), put32_is _ h0 (by omega), put16_is _ (n := ((dataB r).length : Int)) (by omega) (by omega)] at hlen ⊢
 generalize hD : dataB r = D at *
 generalize hT : [r.type / 256, r.type % 256] = T at *
 generalize hC : [(1 : Int) / 256, (1 : Int) % 256] = C at *
 generalize hM : [r.ttl / 16777216, r.ttl / 65536 % 256, r.ttl / 256 % 256, r.ttl % 256] = M at *
 generalize hS : [(D.length : Int) / 256, (D.length : Int) % 256] = S at *
 have lT : T.length = 2 := by rw [← hT]; rfl
 have lC : C.length = 2 := by rw [← hC]; rfl
 have lM : M.length = 4 := by rw [← hM]; rfl
 have lS : S.length = 2 := by rw [← hS]; rfl
 have q0 : nameGet (b ++ wire r.name ++ T ++ C ++ M ++ S ++ D) b.length = (r.name, ((b ++ wire r.name).length : Int)) := by
  have := nameGet_mid b (T ++ C ++ M ++ S ++ D) hn (by simp only [List.length_append] at hlen ⊢; omega)
  rw [show b ++ wire r.name ++ T ++ C ++ M ++ S ++ D = b ++ wire r.name ++ (T ++ C ++ M ++ S ++ D) by simp, this]
  simp
 have q1 : get16 (b ++ wire r.name ++ T ++ C ++ M ++ S ++ D) ((b ++ wire r.name).length : Int) = (r.type, ((b ++ wire r.name ++ T).length : Int)) := by
  have := get16_mid (b ++ wire r.name) (C ++ M ++ S ++ D) r.type
  rw [hT] at this
  rw [show b ++ wire r.name ++ T ++ C ++ M ++ S ++ D = b ++ wire r.name ++ T ++ (C ++ M ++ S ++ D) by simp, this, List.length_append (bs := T), lT]
  rfl
 have q2 : get16 (b ++ wire r.name ++ T ++ C ++ M ++ S ++ D) ((b ++ wire r.name ++ T).length : Int) = (1, ((b ++ wire r.name ++ T ++ C).length : Int)) := by
  have := get16_mid (b ++ wire r.name ++ T) (M ++ S ++ D) 1
  rw [hC] at this
  rw [show b ++ wire r.name ++ T ++ C ++ M ++ S ++ D = b ++ wire r.name ++ T ++ C ++ (M ++ S ++ D) by simp, this, List.length_append (bs := C), lC]
  rfl
 have q3 : get32 (b ++ wire r.name ++ T ++ C ++ M ++ S ++ D) ((b ++ wire r.name ++ T ++ C).length : Int) = (r.ttl, ((b ++ wire r.name ++ T ++ C ++ M).length : Int)) := by
  have := get32_mid (b ++ wire r.name ++ T ++ C) (S ++ D) r.ttl h0
  rw [hM] at this
  rw [show b ++ wire r.name ++ T ++ C ++ M ++ S ++ D = b ++ wire r.name ++ T ++ C ++ M ++ (S ++ D) by simp, this, List.length_append (bs := M), lM]
  rfl
 have q4 : get16 (b ++ wire r.name ++ T ++ C ++ M ++ S ++ D) ((b ++ wire r.name ++ T ++ C ++ M).length : Int) = ((D.length : Int), ((b ++ wire r.name ++ T ++ C ++ M ++ S).length : Int)) := by
  have := get16_mid (b ++ wire r.name ++ T ++ C ++ M) D (D.length : Int)
  rw [hS] at this
  rw [this, List.length_append (bs := S), lS]
  rfl
 have q5 : dataGet r.type (b ++ wire r.name ++ T ++ C ++ M ++ S ++ D) ((b ++ wire r.name ++ T ++ C ++ M ++ S).length : Int) (D.length : Int) = (bareR r, true) := by
  have := dataGet_mid (b ++ wire r.name ++ T ++ C ++ M ++ S) [] hok (by rw [hD, List.append_nil]; omega)
  rw [hD, List.append_nil] at this
  exact this
 have hL : ((b ++ wire r.name ++ T ++ C ++ M ++ S ++ D).length : Int) = ((b ++ wire r.name ++ T ++ C ++ M ++ S).length : Int) + D.length := by rw [List.length_append (bs := D)]; rfl
 generalize b ++ wire r.name ++ T ++ C ++ M ++ S ++ D = l at *
 have f0 : e0 l b.length = ((b ++ wire r.name).length : Int) := by unfold e0; rw [q0]
 have f1 : e1 l b.length = ((b ++ wire r.name ++ T).length : Int) := by unfold e1; rw [f0, q1]
 have f2 : e2 l b.length = ((b ++ wire r.name ++ T ++ C).length : Int) := by unfold e2; rw [f1, q2]
 have f3 : e3 l b.length = ((b ++ wire r.name ++ T ++ C ++ M).length : Int) := by unfold e3; rw [f2, q3]
 have f4 : e4 l b.length = ((b ++ wire r.name ++ T ++ C ++ M ++ S).length : Int) := by unfold e4; rw [f3, q4]
 have g1 : tyAt l b.length = r.type := by unfold tyAt; rw [f0, q1]
 have g2 : clAt l b.length = 1 := by unfold clAt; rw [f1, q2]
 have g3 : ttAt l b.length = r.ttl := by unfold ttAt; rw [f2, q3]
 have g4 : szAt l b.length = (D.length : Int) := by unfold szAt; rw [f3, q4]
 have g5 : dtAt l b.length = (bareR r, true) := by unfold dtAt; rw [g1, f4, g4, q5]
 have g6 : recAt l b.length = r := by unfold recAt; rw [g5, q0, g3]; rfl
 have g7 : readAt l b.length = (r, 1, e4 l b.length + szAt l b.length) := by
  unfold readAt
  rw [g6, g5, if_pos ⟨rfl, hok⟩, g2]
 unfold rrGet
 rw [g7, if_pos rfl, hL, f4, g4]
theorem rrGet_told (l : List Int) (p : Int) : (rrGet l p).2 < 0 ∨ (rrOk (rrGet l p).1 = true ∧ (rrGet l p).2 ≤ l.length) := by
 unfold rrGet
 split
 ·unfold readAt
  split
  ·rename_i hc
   obtain ⟨_, h1, h2, h3, _, h5⟩ := dataGet_yes hc.1
   exact .inr ⟨hc.2, by show e4 l p + szAt l p ≤ l.length; unfold szAt at *; omega⟩
  ·exact .inl (by decide)
 ·exact .inl (by decide)
end Go.Proofs.YthmihglfffeedaaGreatDoor

namespace Go.Proofs.YthmihglfffeedaaGreatDoor
open Go.RowKit

theorem HasL.drop {w : World} {a : Option Addr} {m cap k : Nat} {n : List (List Int)} (h : HasL w (.slice a m cap) n) (hn : n.length = m) (hk : k ≤ m) :
  (a = none ∧ m = 0 ∧ cap = 0) ∨ ∃ g off, a = some ⟨g, off, none⟩ ∧ HasL w (.slice (if cap = k then some ⟨g, off, none⟩ else some ⟨g, off + k, none⟩) (m - k) (cap - k)) (n.drop k) := by
 subst hn
 rcases h with ⟨hv, rfl⟩ | ⟨g, off, cap', hv, hlt, hl, hm, hc⟩
 ·simp only [Value.slice.injEq] at hv
  exact .inl ⟨hv.1, rfl, hv.2.2⟩
 ·simp only [Value.slice.injEq, true_and] at hv
  obtain ⟨rfl, rfl⟩ := hv
  right
  refine ⟨g, off, rfl, ?_⟩
  have hlen : (n.drop k).length = n.length - k := by simp
  by_cases e : cap = k
  ·rw [if_pos e]
   refine .inr ⟨g, off, cap - k, by rw [hlen], hlt, by rw [hlen]; omega, by omega, fun i hi => ?_⟩
   rw [hlen] at hi
   omega
  ·rw [if_neg e]
   refine .inr ⟨g, off + k, cap - k, by rw [hlen], hlt, by rw [hlen]; omega, by omega, fun i hi => ?_⟩
   rw [hlen] at hi
   obtain ⟨u, h1, h2⟩ := hc (k + i) (by omega)
   refine ⟨u, by rw [Nat.add_assoc]; exact h1, ?_⟩
   have e2 : (n.drop k).getD i [] = n.getD (k + i) [] := by simp [List.getD]
   rw [e2]; exact h2

end Go.Proofs.YthmihglfffeedaaGreatDoor

namespace Go.Proofs.YthmihglfffeedaaGreatDoor
open Go.RowKit

theorem compare_swap : ∀ (a b : List UInt8), Lib.compareBytes a b = - Lib.compareBytes b a
 | [], [] => rfl
 | [], _ :: _ => rfl
 | _ :: _, [] => rfl
 | x :: a, y :: b => by
  have ih := compare_swap a b
  unfold Lib.compareBytes
  by_cases h1 : x < y
  ·have h2 : ¬ y < x := fun h => UInt8.lt_irrefl x (UInt8.lt_trans h1 h)
   simp [h1, h2]
  ·by_cases h2 : y < x
   ·simp [h1, h2]
   ·simp only [h1, h2, if_false]
    exact ih

theorem cmpB_swap (a b : List Int) : cmpB a b = - cmpB b a := compare_swap _ _
def cmpL : List (List Int) → List (List Int) → Int
 | [], [] => 0
 | [], _ :: _ => -1
 | _ :: _, [] => 1
 | x :: a, y :: b => if cmpB x y ≠ 0 then cmpB x y else cmpL a b

theorem cmpL_swap : ∀ (a b : List (List Int)), cmpL a b = - cmpL b a
 | [], [] => rfl
 | [], _ :: _ => rfl
 | _ :: _, [] => rfl
 | x :: a, y :: b => by
  have ih := cmpL_swap a b
  have hs := cmpB_swap x y
  unfold cmpL
  by_cases h : cmpB x y = 0
  ·have h' : cmpB y x = 0 := by omega
   simp only [h, h', ne_eq, not_true, if_false]
   exact ih
  ·have h' : ¬ cmpB y x = 0 := by omega
   simp only [h, h', ne_eq, not_false_iff, if_true]
   exact hs
theorem find_congr {α : Type} {p q : α → Bool} : ∀ {l : List α}, (∀ x ∈ l, p x = q x) → l.find? p = l.find? q
 | [], _ => rfl
 | y :: l, h => by
  rw [List.find?_cons, List.find?_cons, h y (by simp), find_congr (fun x hx => h x (by simp [hx]))]

def cmpF (a b : List (List Int)) : Int :=
 match (List.range (min a.length b.length)).find? (fun j => cmpB (a.getD j []) (b.getD j []) != 0) with
 | some j => cmpB (a.getD j []) (b.getD j [])
 | none => byLength a.length b.length

theorem cmpF_eq : ∀ (a b : List (List Int)), cmpF a b = cmpL a b
 | [], [] => rfl
 | [], y :: b => by
  unfold cmpF cmpL byLength
  simp
 | x :: a, [] => by
  unfold cmpF cmpL byLength
  simp
  omega
 | x :: a, y :: b => by
  have ih := cmpF_eq a b
  unfold cmpL
  have e : min (x :: a).length (y :: b).length = min a.length b.length + 1 := by simp
  unfold cmpF
  rw [e, List.range_succ_eq_map, List.find?_cons]
  by_cases h : cmpB x y = 0
  ·have h1 : (cmpB ((x :: a).getD 0 []) ((y :: b).getD 0 []) != 0) = false := by simpa using h
   rw [h1]
   simp only [h, ne_eq, not_true, if_false]
   rw [List.find?_map]
   rw [← ih]
   unfold cmpF
   have hq : ((fun j => cmpB ((x :: a).getD j []) ((y :: b).getD j []) != 0) ∘ Nat.succ) = (fun j => cmpB (a.getD j []) (b.getD j []) != 0) := by
    funext j
    simp
   rw [hq]
   cases hf : (List.range (min a.length b.length)).find? (fun j => cmpB (a.getD j []) (b.getD j []) != 0) with
   | none =>
    simp only [Option.map_none]
    unfold byLength
    simp
   | some j =>
    simp only [Option.map_some]
    simp
  ·have h1 : (cmpB ((x :: a).getD 0 []) ((y :: b).getD 0 []) != 0) = true := by simpa using h
   rw [h1]
   simp [h]

theorem getD_reverse (a : List (List Int)) (j : Nat) (h : j < a.length) : a.reverse.getD j [] = a.getD (a.length - (j + 1)) [] := by
 rw [List.getD_eq_getElem?_getD, List.getD_eq_getElem?_getD, List.getElem?_reverse h]
 congr 2
 omega

theorem cmpN_eq (a b : List (List Int)) : cmpN a b = cmpL a.reverse b.reverse := by
 rw [← cmpF_eq]
 unfold cmpN cmpF
 rw [List.length_reverse, List.length_reverse]
 have hp : ∀ j, j < min a.length b.length → atEnd a b (j + 1) = cmpB (a.reverse.getD j []) (b.reverse.getD j []) := fun j hj => by
  rw [getD_reverse a j (by omega), getD_reverse b j (by omega)]
  rfl
 have hf : (List.range (min a.length b.length)).find? (fun j => atEnd a b (j + 1) != 0) = (List.range (min a.length b.length)).find? (fun j => cmpB (a.reverse.getD j []) (b.reverse.getD j []) != 0) := find_congr (fun j hj => by
  rw [hp j (by simpa using hj)])
 rw [hf]
 cases hq : (List.range (min a.length b.length)).find? (fun j => cmpB (a.reverse.getD j []) (b.reverse.getD j []) != 0) with
 | none => rfl
 | some j =>
  have := List.mem_of_find?_eq_some hq
  exact hp j (by simpa using this)

theorem cmpN_swap (a b : List (List Int)) : cmpN a b = - cmpN b a := by
 rw [cmpN_eq, cmpN_eq, ← cmpL_swap]
end Go.Proofs.YthmihglfffeedaaGreatDoor

namespace Go.Proofs.YthmihglfffeedaaGreatDoor
open Go.RowKit

end Go.Proofs.YthmihglfffeedaaGreatDoor

namespace Go.Proofs.YthmihglfffeedaaGreatDoor
open Go.RowKit

end Go.Proofs.YthmihglfffeedaaGreatDoor

namespace Go.Proofs.YthmihglfffeedaaGreatDoor
open Go.RowKit

theorem byLength_swap (x y : Int) : byLength x y = - byLength y x := by
 unfold byLength
 by_cases h1 : x < y
 ·simp [h1, show ¬ y < x by omega]
 ·by_cases h2 : y < x
  ·simp [h1, h2]
  ·simp [h1, h2]
theorem cmpR_swap (a b : Rec) : cmpR a b = - cmpR b a := by
 unfold cmpR
 have h1 := cmpN_swap a.name b.name
 have h2 := byLength_swap a.type b.type
 have h3 := cmpB_swap (dataB a) (dataB b)
 by_cases e1 : cmpN b.name a.name = 0
 ·rw [e1] at h1
  by_cases e2 : byLength b.type a.type = 0
  ·rw [e2] at h2
   simp only [h1, h2, e1, e2]
   simpa using h3
  ·have e2' : byLength a.type b.type ≠ 0 := by omega
   simp only [h1, e1]
   simp [e2, e2']
   exact h2
 ·have e1' : cmpN a.name b.name ≠ 0 := by omega
  simp [e1, e1']
  exact h1
theorem cmpR_self (a : Rec) : cmpR a a = 0 := by
 have := cmpR_swap a a
 omega
end Go.Proofs.YthmihglfffeedaaGreatDoor

namespace Go.Proofs.YthmihglfffeedaaGreatDoor
open Go.RowKit
set_option linter.unusedVariables false

set_option maxHeartbeats 400000 in
set_option maxRecDepth 100000 in
theorem same_has {v v' : Value} {l l' : List Int} {w : World} (h : Has w v l) (h' : Has w v' l') (hb : ∀ c ∈ l, 0 ≤ c ∧ c ≤ 255) (hb' : ∀ c ∈ l', 0 ≤ c ∧ c ≤ 255) :
  Calls Tryz.prog 14 #[v, v'] w fun e w' => e = .returned (.bool (decide (l = l'))) ∧ w = w' := by
 have hc := conv_has h
 have hc' := conv_has h'
 have hs := str_eq l l' hb hb'
 generalize decide (l = l') = d at *
 clear h h' hb hb'
 go_enter Tryz.func14, Tryz.ntmps14
 go_wp2
 go_ret
 exact ⟨rfl, rfl⟩

end Go.Proofs.YthmihglfffeedaaGreatDoor
