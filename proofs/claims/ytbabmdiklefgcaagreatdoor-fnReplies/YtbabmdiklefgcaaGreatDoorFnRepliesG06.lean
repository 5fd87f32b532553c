/-
  Plain facts: which messages may be, and their bytes. No program is named here. Plain facts: the decimal digits of a byte, and an address as four numbers with dots between. No program is named here. Plain facts: a name's text, label by label. No program is named here. Plain facts: lists of numbers as bytes, for the library's contract on bytes.Join. No program is named here. Plain facts: how long digits are; hex digits; which texts are bytes. No program is named here. A record's text in plain words. No program is named here. A message's text in plain words.
-/
import Derived.Test.YtbabmdiklefgcaaGreatDoorFnRepliesG05
import Derived.Test.YtbabmdiklefgcaaGreatDoorFnRepliesG00
import Derived.Lib.ItoaNum
import Derived.Lib.UnsafeStr
import Derived.Test.YtbabmdiklefgcaaGreatDoorFnRepliesG01
import Derived.Lib.SlParts
import Derived.Lib.SlFresh
import Derived.Lib.Join
namespace Go.Proofs.YtbabmdiklefgcaaGreatDoor
open Go.RowKit
set_option linter.unusedVariables false

def que1 (m : Mg) : Que := m.qs.getD 0 queZ
def queOk (l : List Que) : Bool := decide (l.length = 1) && (nameOk (l.getD 0 queZ).name && asked (l.getD 0 queZ).type)
def rrsOk (l : List Rec) : Bool := decide (l.length ≤ 12) && l.all rrOk
def wntOk (x : Wnt) : Bool := wantOk x.rr x.cls x.bare
def wntsOk (l : List Wnt) : Bool := decide (l.length ≤ 12) && l.all wntOk
def opOk (m : Mg) : Bool := if m.op = 0 then (decide (m.pres.length = 0) && decide (m.ups.length = 0)) else if m.op = 5 then (decide ((que1 m).type = 6) && (decide (m.ans.length = 0) && (decide (m.aus.length = 0) && decide (m.more.length = 0)))) else false
def listsOk (m : Mg) : Bool := rrsOk m.ans && (rrsOk m.aus && (rrsOk m.more && (wntsOk m.pres && wntsOk m.ups)))
def mayM (m : Mg) : Bool := decide (0 ≤ m.id ∧ m.id ≤ 65535) && (decide (0 ≤ m.code ∧ m.code ≤ 10) && (queOk m.qs && (opOk m && listsOk m)))

theorem all_take {α : Type} {p : α → Bool} (l : List α) (d : α) : ∀ k, (∀ j, j < k → j < l.length → p (l.getD j d) = true) → (l.take k).all p = true := by
 intro k hk
 rw [List.all_eq_true]
 intro x hx
 obtain ⟨j, hj, e⟩ := List.getElem_of_mem hx
 rw [List.length_take] at hj
 have := hk j (by omega) (by omega)
 rw [List.getD_eq_getElem?_getD, List.getElem?_eq_getElem (by omega), Option.getD_some] at this
 rw [← e, List.getElem_take]
 exact this
theorem all_of {α : Type} {p : α → Bool} (l : List α) (d : α) (h : ∀ j, j < l.length → p (l.getD j d) = true) : l.all p = true := by
 have := all_take (p := p) l d l.length (fun j _ hj => h j hj)
 rwa [List.take_length] at this
theorem all_not {α : Type} {p : α → Bool} (l : List α) (d : α) {k : Nat} (hk : k < l.length) (h : p (l.getD k d) = false) : l.all p = false := by
 rw [List.all_eq_false]
 refine ⟨l[k], List.getElem_mem hk, ?_⟩
 rw [List.getD_eq_getElem?_getD, List.getElem?_eq_getElem hk, Option.getD_some] at h
 simp [h]
theorem all_at {α : Type} {p : α → Bool} {l : List α} (d : α) (h : l.all p = true) {k : Nat} (hk : k < l.length) : p (l.getD k d) = true := by
 rw [List.all_eq_true] at h
 rw [List.getD_eq_getElem?_getD, List.getElem?_eq_getElem hk, Option.getD_some]
 exact h _ (List.getElem_mem hk)

/-! Bytes. -/
def firstM (m : Mg) : Nat := if m.op = 5 then m.pres.length else m.ans.length
def secondM (m : Mg) : Nat := if m.op = 5 then m.ups.length else m.aus.length
def flagsM (m : Mg) : Int := 2048 * m.op + m.code + (if m.reply = true then 32768 else 0) + (if m.auth = true then 1024 else 0)
def headM (m : Mg) : List Int := put16 (put16 (put16 (put16 (put16 (put16 [] m.id) (flagsM m)) 1) (firstM m)) (secondM m)) m.more.length
def queB (l : List Int) (q : Que) : List Int := put16 (put16 (l ++ wire q.name) q.type) 1
def wntB (l : List Int) (x : Wnt) : List Int := classB l x.rr x.cls (if x.bare = true then [] else dataB x.rr)
def wntsB (b : List Int) (l : List Wnt) (k : Nat) : List Int := (l.take k).foldl wntB b
def inCl (r : Rec) : Wnt := ⟨r, 1, false⟩
def bytesM (m : Mg) : List Int := ((((queB (headM m) (que1 m) |> fun b => wntsB b m.pres m.pres.length) |> fun b => wntsB b m.ups m.ups.length) |> fun b => wntsB b (m.ans.map inCl) m.ans.length) |> fun b => wntsB b (m.aus.map inCl) m.aus.length) |> fun b => wntsB b (m.more.map inCl) m.more.length
def okM (m : Mg) : Bool := mayM m && decide ((bytesM m).length ≤ 512)

theorem wntsB_zero (b : List Int) (l : List Wnt) : wntsB b l 0 = b := rfl
theorem wntsB_succ (b : List Int) (l : List Wnt) (k : Nat) (hk : k < l.length) : wntsB b l (k + 1) = wntB (wntsB b l k) (l.getD k wntZ) := by
 unfold wntsB
 rw [List.take_succ_eq_append_getElem hk, List.foldl_append, List.getD_eq_getElem?_getD, List.getElem?_eq_getElem hk]
 rfl
theorem classB_length (l : List Int) {r : Rec} (c : Int) {D : List Int} (h : nameOk r.name = true) (hd : D.length ≤ 105) : (classB l r c D).length ≤ l.length + 212 := by
 have h1 := wire_length r.name h
 have h3 := put16_length (l ++ wire r.name) r.type
 have h4 := put16_length (put16 (l ++ wire r.name) r.type) c
 have h5 := put32_length (put16 (put16 (l ++ wire r.name) r.type) c) r.ttl
 have h6 := put16_length (put32 (put16 (put16 (l ++ wire r.name) r.type) c) r.ttl) D.length
 unfold classB
 rw [List.length_append] at h3 ⊢
 omega
theorem wntOk_name {x : Wnt} (h : wntOk x = true) : nameOk x.rr.name = true := by
 unfold wntOk wantOk at h
 split at h
 ·unfold bareOk at h
  simp only [Bool.and_eq_true] at h
  exact h.2.1
 ·split at h
  ·exact (rrOk_parts h).1
  ·split at h
   ·simp only [Bool.and_eq_true] at h
    exact (rrOk_parts h.1).1
   ·simp at h
theorem wntOk_rr {x : Wnt} (h : wntOk x = true) (hb : x.bare = false) : rrOk x.rr = true := by
 unfold wntOk wantOk at h
 rw [hb, if_neg (by simp)] at h
 split at h
 ·exact h
 ·split at h
  ·simp only [Bool.and_eq_true] at h
   exact h.1
  ·simp at h
theorem wntOk_in {r : Rec} (h : rrOk r = true) : wntOk (inCl r) = true := by
 unfold wntOk wantOk inCl
 simp [h]
theorem wntB_length (l : List Int) {x : Wnt} (h : wntOk x = true) : (wntB l x).length ≤ l.length + 212 := by
 unfold wntB
 refine classB_length l x.cls (wntOk_name h) ?_
 cases hb : x.bare with
 | true => simp
 | false => simpa using dataB_length (wntOk_rr h hb)
theorem wntsB_length (b : List Int) {l : List Wnt} (h : ∀ j, j < l.length → wntOk (l.getD j wntZ) = true) : ∀ k, k ≤ l.length → (wntsB b l k).length ≤ b.length + 212 * k
 | 0, _ => by simp [wntsB]
 | k + 1, hk => by
  rw [wntsB_succ b l k (by omega)]
  have h1 := wntB_length (wntsB b l k) (h k (by omega))
  have h2 := wntsB_length b h k (by omega)
  omega
theorem headM_length (m : Mg) : (headM m).length ≤ 12 := by
 unfold headM
 have h1 := put16_length [] m.id
 have h2 := put16_length (put16 [] m.id) (flagsM m)
 have h3 := put16_length (put16 (put16 [] m.id) (flagsM m)) 1
 have h4 := put16_length (put16 (put16 (put16 [] m.id) (flagsM m)) 1) (firstM m)
 have h5 := put16_length (put16 (put16 (put16 (put16 [] m.id) (flagsM m)) 1) (firstM m)) (secondM m)
 have h6 := put16_length (put16 (put16 (put16 (put16 (put16 [] m.id) (flagsM m)) 1) (firstM m)) (secondM m)) m.more.length
 simp only [List.length_nil] at h1
 omega
theorem queB_length (l : List Int) {q : Que} (h : nameOk q.name = true) : (queB l q).length ≤ l.length + 101 := by
 have h1 := wire_length q.name h
 have h3 := put16_length (l ++ wire q.name) q.type
 have h4 := put16_length (put16 (l ++ wire q.name) q.type) 1
 unfold queB
 rw [List.length_append] at h3
 omega
theorem map_getD (l : List Rec) {k : Nat} (hk : k < l.length) : (l.map inCl).getD k wntZ = inCl (l.getD k recZ) := by
 simp [List.getD, hk]
theorem mayM_parts {m : Mg} (h : mayM m = true) : (0 ≤ m.id ∧ m.id ≤ 65535) ∧ (0 ≤ m.code ∧ m.code ≤ 10) ∧ m.qs.length = 1 ∧ nameOk (que1 m).name = true ∧ asked (que1 m).type = true ∧ (m.op = 0 ∨ m.op = 5) ∧
  (m.ans.length ≤ 12 ∧ m.aus.length ≤ 12 ∧ m.more.length ≤ 12 ∧ m.pres.length ≤ 12 ∧ m.ups.length ≤ 12) ∧ (∀ j, j < m.ans.length → rrOk (m.ans.getD j recZ) = true) ∧ (∀ j, j < m.aus.length → rrOk (m.aus.getD j recZ) = true) ∧ (∀ j, j < m.more.length → rrOk (m.more.getD j recZ) = true) ∧
  (∀ j, j < m.pres.length → wntOk (m.pres.getD j wntZ) = true) ∧ (∀ j, j < m.ups.length → wntOk (m.ups.getD j wntZ) = true) := by
 unfold mayM queOk listsOk rrsOk wntsOk at h
 simp only [Bool.and_eq_true, decide_eq_true_eq] at h
 obtain ⟨h1, h2, ⟨h3, h4, h5⟩, h6, ⟨a1, a2⟩, ⟨b1, b2⟩, ⟨c1, c2⟩, ⟨d1, d2⟩, e1, e2⟩ := h
 refine ⟨h1, h2, h3, h4, h5, ?_, ⟨a1, b1, c1, d1, e1⟩, fun j hj => all_at _ a2 hj, fun j hj => all_at _ b2 hj, fun j hj => all_at _ c2 hj, fun j hj => all_at _ d2 hj, fun j hj => all_at _ e2 hj⟩
 unfold opOk at h6
 split at h6
 ·exact .inl (by assumption)
 ·split at h6
  ·exact .inr (by assumption)
  ·simp at h6
theorem bytesM_parts {m : Mg} (h : mayM m = true) : ∃ b0 b1 b2 b3 b4, b0 = queB (headM m) (que1 m) ∧ b1 = wntsB b0 m.pres m.pres.length ∧ b2 = wntsB b1 m.ups m.ups.length ∧ b3 = wntsB b2 (m.ans.map inCl) m.ans.length ∧ b4 = wntsB b3 (m.aus.map inCl) m.aus.length ∧ bytesM m = wntsB b4 (m.more.map inCl) m.more.length ∧
  b0.length ≤ 113 ∧ b1.length ≤ 2657 ∧ b2.length ≤ 5201 ∧ b3.length ≤ 7745 ∧ b4.length ≤ 10289 ∧ (bytesM m).length ≤ 12833 := by
 obtain ⟨_, _, _, hn, _, _, ⟨a1, b1, c1, d1, e1⟩, ha, hb, hc, hd, he⟩ := mayM_parts h
 have inl : ∀ {l : List Rec}, (∀ j, j < l.length → rrOk (l.getD j recZ) = true) → ∀ j, j < (l.map inCl).length → wntOk ((l.map inCl).getD j wntZ) = true := fun hl j hj => by
  rw [List.length_map] at hj
  rw [map_getD _ hj]
  exact wntOk_in (hl j hj)
 refine ⟨_, _, _, _, _, rfl, rfl, rfl, rfl, rfl, rfl, ?_⟩
 have q0 := queB_length (headM m) hn
 have q00 := headM_length m
 have q1 := wntsB_length (queB (headM m) (que1 m)) hd m.pres.length (Nat.le_refl _)
 have q2 := wntsB_length (wntsB (queB (headM m) (que1 m)) m.pres m.pres.length) he m.ups.length (Nat.le_refl _)
 have q3 := wntsB_length (wntsB (wntsB (queB (headM m) (que1 m)) m.pres m.pres.length) m.ups m.ups.length) (inl ha) m.ans.length (by simp)
 have q4 := wntsB_length (wntsB (wntsB (wntsB (queB (headM m) (que1 m)) m.pres m.pres.length) m.ups m.ups.length) (m.ans.map inCl) m.ans.length) (inl hb) m.aus.length (by simp)
 have q5 := wntsB_length (wntsB (wntsB (wntsB (wntsB (queB (headM m) (que1 m)) m.pres m.pres.length) m.ups m.ups.length) (m.ans.map inCl) m.ans.length) (m.aus.map inCl) m.aus.length) (inl hc) m.more.length (by simp)
 have e5 : bytesM m = wntsB (wntsB (wntsB (wntsB (wntsB (queB (headM m) (que1 m)) m.pres m.pres.length) m.ups m.ups.length) (m.ans.map inCl) m.ans.length) (m.aus.map inCl) m.aus.length) (m.more.map inCl) m.more.length := rfl
 rw [e5]
 refine ⟨by omega, by omega, by omega, by omega, by omega, by omega⟩
end Go.Proofs.YtbabmdiklefgcaaGreatDoor

namespace Go.Proofs.YtbabmdiklefgcaaGreatDoor
open Go.RowKit

def digs (x : Int) : List Int := (Lib.decDigits x.toNat).map fun (b : UInt8) => (b.toNat : Int)

theorem digs_lt (x : Int) (h0 : 0 ≤ x) (h : x < 10) : digs x = [48 + x] := by
 unfold digs
 rw [Lib.decDigits, dif_pos (by omega)]
 simp
 omega

theorem digs_ge (x : Int) (h : 10 ≤ x) : digs x = digs (x / 10) ++ [48 + x % 10] := by
 unfold digs
 rw [Lib.decDigits, dif_neg (by omega)]
 simp
 refine ⟨?_, by omega⟩
 congr 2
 omega

theorem digs_length (x : Int) (h0 : 0 ≤ x) (h : x ≤ 255) : 1 ≤ (digs x).length ∧ (digs x).length ≤ 3 := by
 by_cases h1 : x < 10
 ·rw [digs_lt x h0 h1]; simp
 ·rw [digs_ge x (by omega)]
  by_cases h2 : x / 10 < 10
  ·rw [digs_lt _ (by omega) h2]; simp
  ·rw [digs_ge (x / 10) (by omega), digs_lt _ (by omega) (by omega)]; simp

theorem cells_digs (x : Int) (h0 : 0 ≤ x) : Lib.byteCells (Lib.itoa x) = (digs x).map (Value.int .u8) := by
 unfold Lib.itoa digs Lib.byteCells
 rw [if_neg (by omega)]
 simp

theorem itoa_digs (x : Int) (h0 : 0 ≤ x) : (Lib.itoa x).length = (digs x).length := by
 unfold Lib.itoa digs
 rw [if_neg (by omega)]
 simp

def parts (n : Int) : List Int := [n / 16777216, n / 65536 % 256, n / 256 % 256, n % 256]
def part (n : Int) (j : Nat) : Int := (parts n).getD j 0

theorem part_bd (n : Int) (j : Nat) (h0 : 0 ≤ n) (h1 : n ≤ 4294967295) : 0 ≤ part n j ∧ part n j ≤ 255 := by
 match j with
 | 0 => simp [part, parts]; omega
 | 1 => simp [part, parts]; omega
 | 2 => simp [part, parts]; omega
 | 3 => simp [part, parts]; omega
 | k + 4 => simp [part, parts]

def idot (n : Int) : Nat → List Int
 | 0 => []
 | j + 1 => idot n j ++ (if 0 < j then [46] else []) ++ digs (part n j)

theorem idot_length (n : Int) (h0 : 0 ≤ n) (h1 : n ≤ 4294967295) (j : Nat) : (idot n j).length ≤ 4 * j := by
 induction j with
 | zero => simp [idot]
 | succ j ih =>
  have hb := part_bd n j h0 h1
  have := (digs_length _ hb.1 hb.2).2
  simp only [idot, List.length_append]
  split <;> simp <;> omega

def dotted (n : Int) : List Int := if 0 ≤ n ∧ n ≤ 4294967295 then idot n 4 else []

theorem dotted_length (n : Int) : (dotted n).length ≤ 16 := by
 unfold dotted
 split
 ·rename_i h; have := idot_length n h.1 h.2 4; omega
 ·simp

end Go.Proofs.YtbabmdiklefgcaaGreatDoor

namespace Go.Proofs.YtbabmdiklefgcaaGreatDoor
open Go.RowKit

def dots (n : List (List Int)) (k : Nat) : List Int := ((n.take k).map (fun l => l ++ [46])).flatten

theorem dots_zero (n : List (List Int)) : dots n 0 = [] := by simp [dots]
theorem dots_succ (n : List (List Int)) (k : Nat) (h : k < n.length) : dots n (k + 1) = dots n k ++ n.getD k [] ++ [46] := by
 unfold dots
 rw [List.take_succ_eq_append_getElem h, List.map_append, List.flatten_append, show n.getD k [] = n[k] by simp [h]]
 simp only [List.map_cons, List.map_nil, List.flatten_cons, List.flatten_nil, List.append_nil, List.append_assoc]

theorem dots_length (n : List (List Int)) (h : nameOk n = true) (k : Nat) : (dots n k).length ≤ 16 * k := by
 induction k with
 | zero => simp [dots]
 | succ k ih =>
  by_cases hk : k < n.length
  ·rw [dots_succ n k hk]
   have := (labelOk_length ((nameOk_parts h).2 k hk)).2
   simp only [List.length_append, List.length_cons, List.length_nil]
   omega
  ·have e : dots n (k + 1) = dots n k := by unfold dots; rw [List.take_of_length_le (by omega), List.take_of_length_le (by omega)]
   rw [e]; omega

def nameText (n : List (List Int)) : List Int := if nameOk n = true then (if n.length = 0 then [46] else dots n n.length) else []

theorem nameText_no {n : List (List Int)} (h : nameOk n = false) : nameText n = [] := by simp [nameText, h]
theorem nameText_root {n : List (List Int)} (h : nameOk n = true) (h0 : n.length = 0) : nameText n = [46] := by simp [nameText, h, h0]
theorem nameText_some {n : List (List Int)} (h : nameOk n = true) (h0 : n.length ≠ 0) : nameText n = dots n n.length := by simp [nameText, h, h0]
theorem nameText_length (n : List (List Int)) : (nameText n).length ≤ 96 := by
 unfold nameText
 split
 ·rename_i h
  split
  ·simp
  ·have := dots_length n h n.length
   have := (nameOk_parts h).1
   omega
 ·simp
end Go.Proofs.YtbabmdiklefgcaaGreatDoor

namespace Go.Proofs.YtbabmdiklefgcaaGreatDoor
open Go.RowKit
set_option linter.unusedVariables false

def Byt (l : List Int) : Prop := ∀ c ∈ l, 0 ≤ c ∧ c ≤ 255
theorem Byt.app {l m : List Int} (h : Byt l) (h' : Byt m) : Byt (l ++ m) := fun c hc => by
 rcases List.mem_append.1 hc with q | q
 ·exact h c q
 ·exact h' c q
def u8s (l : List Int) : List UInt8 := l.map fun x => UInt8.ofNat x.toNat
theorem u8s_length (l : List Int) : (u8s l).length = l.length := by simp [u8s]
theorem byte_back {x : Int} (h : 0 ≤ x ∧ x ≤ 255) : (((UInt8.ofNat x.toNat).toNat : Nat) : Int) = x := by
 rw [UInt8.toNat_ofNat']
 omega
theorem u8s_get {l : List Int} (h : Byt l) {i : Nat} {y : UInt8} (hy : (u8s l)[i]? = some y) : (y.toNat : Int) = l.getD i 0 := by
 unfold u8s at hy
 rw [List.getElem?_map, Option.map_eq_some_iff] at hy
 obtain ⟨x, hx, rfl⟩ := hy
 rw [byte_back (h x (List.mem_of_getElem? hx)), List.getD_eq_getElem?_getD, hx]
 rfl
theorem Has.holds {w : World} {v : Value} {l : List Int} (h : Has w v l) (hb : Byt l) : Lib.HoldsBytes w v (u8s l) := by
 rcases h with ⟨rfl, rfl⟩ | ⟨g, off, cap, rfl, hg, hc, hm, hh⟩
 ·exact ⟨none, 0, rfl, fun _ => rfl, fun a ha => by cases ha⟩
 ·refine ⟨some ⟨g, off, none⟩, cap, by rw [u8s_length], fun q => (by cases q), fun a ha i x hx => ?_⟩
  cases ha
  have hi : i < l.length := by rw [← u8s_length l]; exact (List.getElem?_eq_some_iff.1 hx).1
  rw [u8s_get hb hx, Addr.add_lit]
  exact hh i hi
theorem u8s_join (a b c d : List Int) : Lib.join [u8s a, u8s b, u8s c, u8s d] [32] = u8s (a ++ [32] ++ b ++ [32] ++ c ++ [32] ++ d) := by
 simp [Lib.join, u8s, List.intercalate, List.intersperse]
theorem u8s_inj {a b : List Int} (ha : Byt a) (hb : Byt b) (h : u8s a = u8s b) : a = b := by
 have hl : a.length = b.length := by rw [← u8s_length a, ← u8s_length b, h]
 refine List.ext_getElem hl fun i h1 h2 => ?_
 have e1 : (u8s a)[i]? = some (UInt8.ofNat (a[i]).toNat) := by simp [u8s, h1]
 have e2 : (u8s b)[i]? = some (UInt8.ofNat (b[i]).toNat) := by simp [u8s, h2]
 have := u8s_get ha e1
 rw [h] at e1
 have h3 := u8s_get hb e1
 rw [this] at h3
 simpa [h1, h2, List.getD_eq_getElem?_getD] using h3
def FrB (B : Nat) (w : World) (v : Value) (l : List Int) : Prop :=
 ∃ g cap, v = .slice (some ⟨g, 0, none⟩) l.length cap ∧ B ≤ g ∧ l.length ≤ cap ∧ cap ≤ maxLen ∧ ∀ i, i < l.length → w.cell? ⟨g, i, none⟩ = some (.int .u8 (l.getD i 0)) ∧ w.frozen? ⟨g, i, none⟩ = false
theorem FrB.of {B : Nat} {w : World} {v : Value} {l : List Int} (hb : Byt l) (h : Lib.FreshBytes B w v (u8s l)) : FrB B w v l := by
 obtain ⟨g, cap, zs, rfl, hB, hc, hm, hz, hzb, hbo, hcell, hfr⟩ := h
 rw [u8s_length] at hc hbo
 refine ⟨g, cap, by rw [u8s_length], hB, hc, hm, fun i hi => ⟨?_, hfr i (by omega)⟩⟩
 rw [hcell i (by omega)]
 have e : zs.take l.length = l := u8s_inj (fun c hc => by have := hzb c (List.mem_of_mem_take hc); omega) hb hbo
 congr 2
 rw [← e]
 simp [List.getD_eq_getElem?_getD, hi]
theorem digs_len (k : Nat) : ∀ x : Int, 0 ≤ x → x < 10 ^ (k + 1) → 1 ≤ (digs x).length ∧ (digs x).length ≤ k + 1 := by
 induction k with
 | zero =>
  intro x h0 h1
  rw [digs_lt x h0 (by omega)]
  simp
 | succ k ih =>
  intro x h0 h1
  by_cases h : x < 10
  ·rw [digs_lt x h0 h]; simp
  ·have e : (10 : Int) ^ (k + 1 + 1) = 10 ^ (k + 1) * 10 := Int.pow_succ _ _
   rw [e] at h1
   generalize (10 : Int) ^ (k + 1) = p at *
   have := ih (x / 10) (by omega) (by omega)
   rw [digs_ge x (by omega)]
   simp only [List.length_append, List.length_cons, List.length_nil]
   omega
theorem digs_ten {x : Int} (h0 : 0 ≤ x) (h1 : x ≤ 4294967295) : 1 ≤ (digs x).length ∧ (digs x).length ≤ 10 := digs_len 9 x h0 (by omega)
theorem digs_byt (x : Int) : Byt (digs x) := by
 intro c hc
 obtain ⟨b, _, rfl⟩ := List.mem_map.1 hc
 have := b.toNat_lt
 omega
theorem byt_one {c : Int} (h : 0 ≤ c ∧ c ≤ 255) : Byt [c] := fun x hx => by
 obtain rfl := List.mem_singleton.1 hx
 exact h
theorem byt_nil : Byt [] := fun x hx => by cases hx
theorem byt_at {l : List Int} (h : ∀ j, j < l.length → 0 ≤ l.getD j 0 ∧ l.getD j 0 ≤ 255) : Byt l := fun c hc => by
 obtain ⟨i, hi, rfl⟩ := List.getElem_of_mem hc
 have := h i hi
 rw [List.getD_eq_getElem?_getD, List.getElem?_eq_getElem hi] at this
 exact this
theorem Byt.at_ {l : List Int} (h : Byt l) {j : Nat} (hj : j < l.length) : 0 ≤ l.getD j 0 ∧ l.getD j 0 ≤ 255 := by
 rw [List.getD_eq_getElem?_getD, List.getElem?_eq_getElem hj]
 exact h _ (List.getElem_mem hj)
theorem label_byt {l : List Int} (h : labelOk l = true) : Byt l := byt_at fun j hj => by
 have h1 := (of_decide_eq_true h).2.2 j hj
 have := of_decide_eq_true h1
 omega
theorem dots_byt {n : List (List Int)} (h : nameOk n = true) (k : Nat) : Byt (dots n k) := by
 induction k with
 | zero => rw [dots_zero]; exact byt_nil
 | succ k ih =>
  by_cases hk : k < n.length
  ·rw [dots_succ n k hk]
   exact (ih.app (label_byt ((nameOk_parts h).2 k hk))).app (byt_one (by omega))
  ·have e : dots n (k + 1) = dots n k := by unfold dots; rw [List.take_of_length_le (by omega), List.take_of_length_le (by omega)]
   rw [e]; exact ih
theorem nameText_byt (n : List (List Int)) : Byt (nameText n) := by
 unfold nameText
 split
 ·rename_i h
  split
  ·exact byt_one (by omega)
  ·exact dots_byt h _
 ·exact byt_nil
theorem idot_byt (n : Int) (j : Nat) : Byt (idot n j) := by
 induction j with
 | zero => exact byt_nil
 | succ j ih =>
  refine (ih.app ?_).app (digs_byt _)
  split
  ·exact byt_one (by omega)
  ·exact byt_nil
theorem dotted_byt (n : Int) : Byt (dotted n) := by
 unfold dotted
 split
 ·exact idot_byt n 4
 ·exact byt_nil

def hexD (d : Int) : Int := if d < 10 then 48 + d else 87 + d
theorem hexD_byte {d : Int} (h0 : 0 ≤ d) (h1 : d ≤ 15) : 0 ≤ hexD d ∧ hexD d ≤ 255 := by unfold hexD; split <;> omega
def hexs (l : List Int) (k : Nat) : List Int := ((l.take k).map (fun c => [hexD (c / 16), hexD (c % 16)])).flatten
theorem hexs_zero (l : List Int) : hexs l 0 = [] := by simp [hexs]
theorem hexs_succ (l : List Int) (k : Nat) (h : k < l.length) : hexs l (k + 1) = hexs l k ++ [hexD (l.getD k 0 / 16), hexD (l.getD k 0 % 16)] := by
 unfold hexs
 rw [List.take_succ_eq_append_getElem h, List.map_append, List.flatten_append, show l.getD k 0 = l[k] by simp [h]]
 rfl
theorem hexs_late (l : List Int) (k : Nat) (h : l.length ≤ k) : hexs l (k + 1) = hexs l k := by unfold hexs; rw [List.take_of_length_le (by omega), List.take_of_length_le (by omega)]
theorem hexs_length (l : List Int) (k : Nat) : (hexs l k).length ≤ 2 * k := by
 induction k with
 | zero => simp [hexs]
 | succ k ih =>
  by_cases h : k < l.length
  ·rw [hexs_succ l k h]
   simp only [List.length_append, List.length_cons, List.length_nil]
   omega
  ·rw [hexs_late l k (by omega)]; omega
theorem hexs_byt {l : List Int} (h : Byt l) (k : Nat) : Byt (hexs l k) := by
 induction k with
 | zero => rw [hexs_zero]; exact byt_nil
 | succ k ih =>
  by_cases hk : k < l.length
  ·rw [hexs_succ l k hk]
   have := h.at_ hk
   exact ih.app ((byt_one (hexD_byte (by omega) (by omega))).app (byt_one (hexD_byte (by omega) (by omega))))
  ·rw [hexs_late l k (by omega)]; exact ih

def typeT (t : Int) : List Int := if t = 1 then [65] else if t = 2 then [78, 83] else if t = 5 then [67, 78, 65, 77, 69] else if t = 6 then [83, 79, 65] else if t = 12 then [80, 84, 82] else if t = 16 then [84, 88, 84] else [68, 72, 67, 73, 68]
theorem typeT_length (t : Int) : 1 ≤ (typeT t).length ∧ (typeT t).length ≤ 5 := by
 unfold typeT
 repeat' split
 all_goals simp
theorem typeT_byt (t : Int) : Byt (typeT t) := by
 unfold typeT
 repeat' split
 all_goals
  intro c hc
  simp only [List.mem_cons, List.not_mem_nil, or_false] at hc
  omega
def dataT (r : Rec) : List Int :=
 if r.type = 1 then dotted r.addr
 else if r.type = 2 ∨ r.type = 5 ∨ r.type = 12 then nameText r.to
 else if r.type = 6 then nameText r.to ++ [32] ++ digs (r.nums.getD 0 0) ++ [32] ++ digs (r.nums.getD 1 0)
 else hexs r.text r.text.length
theorem dataT_A {r : Rec} (h : r.type = 1) : dataT r = dotted r.addr := if_pos h
theorem dataT_N {r : Rec} (h : r.type = 2 ∨ r.type = 5 ∨ r.type = 12) : dataT r = nameText r.to := by
 unfold dataT
 rw [if_neg (by omega), if_pos h]
theorem dataT_S {r : Rec} {x y : Int} (h : r.type = 6) (hn : r.nums = [x, y]) : dataT r = nameText r.to ++ [32] ++ digs x ++ [32] ++ digs y := by
 unfold dataT
 rw [if_neg (by omega), if_neg (by omega), if_pos h, hn]
 rfl
theorem dataT_X {r : Rec} (h : r.type = 16 ∨ r.type = 49) : dataT r = hexs r.text r.text.length := by
 unfold dataT
 rw [if_neg (by omega), if_neg (by omega), if_neg (by omega)]
theorem dataT_byt {r : Rec} (h : Byt r.text) : Byt (dataT r) := by
 unfold dataT
 split
 ·exact dotted_byt _
 split
 ·exact nameText_byt _
 split
 ·exact ((((nameText_byt _).app (byt_one (by omega))).app (digs_byt _)).app (byt_one (by omega))).app (digs_byt _)
 ·exact hexs_byt h _
theorem dataT_length {r : Rec} (h : rrOk r = true) : (dataT r).length ≤ 120 := by
 obtain ⟨_, ht, _, _, hd⟩ := rrOk_parts h
 rcases data_kinds ht hd with ⟨e, _, _, _⟩ | ⟨e, hn, _⟩ | ⟨e, hn, x, y, hxy, hx0, hx1, hy0, hy1, _⟩ | ⟨e, hx, _⟩
 ·rw [dataT_A e]; have := dotted_length r.addr; omega
 ·rw [dataT_N e]; have := nameText_length r.to; omega
 ·rw [dataT_S e hxy]
  have := nameText_length r.to
  have := digs_ten hx0 hx1
  have := digs_ten hy0 (by omega)
  simp only [List.length_append, List.length_cons, List.length_nil]
  omega
 ·rw [dataT_X e]; have := hexs_length r.text r.text.length; omega
def rrText (r : Rec) : List Int := if rrOk r = true then nameText r.name ++ [32] ++ digs r.ttl ++ [32] ++ typeT r.type ++ [32] ++ dataT r else []
theorem rrText_no {r : Rec} (h : rrOk r = false) : rrText r = [] := by simp [rrText, h]
theorem rrText_yes {r : Rec} (h : rrOk r = true) : rrText r = nameText r.name ++ [32] ++ digs r.ttl ++ [32] ++ typeT r.type ++ [32] ++ dataT r := by simp [rrText, h]
theorem rrText_length (r : Rec) : (rrText r).length ≤ 300 := by
 cases h : rrOk r with
 | false => rw [rrText_no h]; simp
 | true =>
  rw [rrText_yes h]
  obtain ⟨_, _, h0, h1, _⟩ := rrOk_parts h
  have := nameText_length r.name
  have := digs_ten h0 (by omega)
  have := typeT_length r.type
  have := dataT_length h
  simp only [List.length_append, List.length_cons, List.length_nil]
  omega
def BytRs (rs : List Rec) : Prop := ∀ i, i < rs.length → Byt (rs.getD i recZ).text
def BytM (m : Mg) : Prop := BytRs m.ans ∧ BytRs m.aus ∧ BytRs m.more
def secT (b w : List Int) (rs : List Rec) (k : Nat) : List Int := (rs.take k).foldl (fun b r => b ++ w ++ [32] ++ rrText r ++ [10]) b
theorem secT_zero (b w : List Int) (rs : List Rec) : secT b w rs 0 = b := rfl
theorem secT_succ (b w : List Int) (rs : List Rec) (k : Nat) (h : k < rs.length) : secT b w rs (k + 1) = secT b w rs k ++ w ++ [32] ++ rrText (rs.getD k recZ) ++ [10] := by
 unfold secT
 rw [List.take_succ_eq_append_getElem h, List.foldl_append, List.getD_eq_getElem?_getD, List.getElem?_eq_getElem h]
 rfl
theorem secT_length (b : List Int) {w : List Int} (rs : List Rec) (hw : w.length ≤ 10) : ∀ k, (secT b w rs k).length ≤ b.length + 320 * k := by
 intro k
 induction k with
 | zero => simp [secT_zero]
 | succ k ih =>
  by_cases h : k < rs.length
  ·rw [secT_succ b w rs k h]
   have := rrText_length (rs.getD k recZ)
   simp only [List.length_append, List.length_cons, List.length_nil]
   omega
  ·have e : secT b w rs (k + 1) = secT b w rs k := by unfold secT; rw [List.take_of_length_le (by omega), List.take_of_length_le (by omega)]
   rw [e]; omega
def kindT (m : Mg) : List Int := if m.reply = true then [114, 101, 112, 108, 121] else [97, 115, 107]
def kindB (b : Bool) : List Int := if b = true then [114, 101, 112, 108, 121] else [97, 115, 107]
theorem kindT_length (m : Mg) : 3 ≤ (kindT m).length ∧ (kindT m).length ≤ 5 := by
 unfold kindT
 split <;> simp
theorem kindT_byt (m : Mg) : Byt (kindT m) := by
 unfold kindT
 split
 all_goals
  intro c hc
  simp only [List.mem_cons, List.not_mem_nil, or_false] at hc
  omega
def headT (m : Mg) : List Int := kindT m ++ [32] ++ digs m.code ++ [32] ++ nameText (m.qs.getD 0 queZ).name ++ [10]
def ansW : List Int := [97, 110, 115, 119, 101, 114]
def autW : List Int := [97, 117, 116, 104]
def morW : List Int := [109, 111, 114, 101]
def msgT (m : Mg) : List Int := secT (secT (secT (headT m) ansW m.ans m.ans.length) autW m.aus m.aus.length) morW m.more m.more.length
def msgText (m : Mg) : List Int := if okM m = true then msgT m else []
theorem msgText_no {m : Mg} (h : okM m = false) : msgText m = [] := by simp [msgText, h]
theorem msgText_yes {m : Mg} (h : okM m = true) : msgText m = msgT m := by simp [msgText, h]
end Go.Proofs.YtbabmdiklefgcaaGreatDoor
