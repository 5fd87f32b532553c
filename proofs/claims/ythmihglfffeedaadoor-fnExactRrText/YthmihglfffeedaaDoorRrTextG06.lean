/-
  Contracts of the byte helpers of the laws (markByteS, heldByteS): what each answers and what it leaves in memory. A slice of bytes that is new and may be written to: what the library's contracts give. No program is named here. The marks of the laws on a slice of bytes that is new. Plain facts: the decimal digits of a byte, and an address as four numbers with dots between. No program is named here. Plain facts: a name's text, label by label. No program is named here. Plain facts: lists of numbers as bytes, for the library's contract on bytes.Join. No program is named here.
-/
import Derived.Test.YthmihglfffeedaaDoorRrTextG03
import Derived.Test.YthmihglfffeedaaDoorRrTextG02
import Derived.Test.YthmihglfffeedaaDoorRrTextG00
import Derived.Lib.ItoaNum
import Derived.Lib.UnsafeStr
import Derived.Test.YthmihglfffeedaaDoorRrTextG01
import Derived.Lib.SlParts
import Derived.Lib.SlFresh
import Derived.Lib.Join
namespace Go.Proofs.YthmihglfffeedaaDoor
open Go.RowKit
set_option linter.unusedVariables false
set_option maxHeartbeats 400000
set_option maxRecDepth 100000

theorem markByteS_some (B g cap : Nat) (k0 : Int) (l : List Int) (w : World) (h : Own B 5 w (.slice (some ⟨g, 0, none⟩) l.length cap) l) (hl : l.length ≤ 2097152) (hk0 : 0 ≤ k0) (hk1 : k0 ≤ 9000000000000000000) :
  Calls Tryd.prog 11 #[.slice (some ⟨g, 0, none⟩) l.length cap, .int .i64 k0] w fun e w' => e = .returned (.int .i64 (k0 + l.length)) ∧
   Own B 5 w' (.slice (some ⟨g, 0, none⟩) l.length cap) (marks k0 l.length) ∧ w.grownBy w' (some g) := by
 generalize hn : l.length = n at *
 have HN := UC hn
 clear hn
 go_enter Tryd.func11, Tryd.ntmps11
 go_wp2
 go_loopw [1, 5] (fun kk i wr => ∃ k : Nat, k ≤ n ∧ i = .int .i64 k ∧ kk = .int .i64 (k0 + k) ∧ wr.ownsRow B 5 1 (.slice (some ⟨g, 0, none⟩) n cap) n ((marked l k0 k).map (Value.int .u8)) ∧ w.grownBy wr (some g)) (fun _ i _ => n - (intOf i).toNat)
 case atStart => exact ⟨0, Nat.zero_le _, rfl, by simp, by rw [marked_zero]; have h1 := h; unfold Own at h1; rw [UB HN] at h1; exact h1, ⟨rfl, rfl, rfl, Nat.le_refl _, fun _ _ _ => rfl⟩⟩
 case round =>
  obtain ⟨k, hk, rfl, rfl, ho, hg⟩ := hrel
  by_cases hlt : k < n
  ·have hc := ho.cellAt k (by omega)
   rw [map_at _ _ (by rw [marked_length, UB HN]; exact hlt)] at hc
   have hf := ho.frozenAt k
   have HO := UC ho
   clear ho
   go_wp2
   have hst := (UB HO).stored k (.int .u8 ((k0 + k) % 256))
   refine ⟨⟨k + 1, by omega, by go_num, by go_num, ?_, ?_⟩, by simp [intOf]; omega⟩
   ·rw [← marked_succ, List.map_set]
    exact hst.1
   ·exact grown_trans hg hst.2
  ·go_wp2
   go_ret
   obtain rfl : k = n := by omega
   refine ⟨rfl, ?_, hg⟩
   unfold Own
   rw [marks_length]
   have e : marked l k0 k = marks k0 k := by have := marked_all l k0; rw [UB HN] at this; exact this
   rw [← e]
   exact ho

theorem markByteS_nil (k0 : Int) (w : World) (hk0 : 0 ≤ k0) (hk1 : k0 ≤ 9000000000000000000) :
  Calls Tryd.prog 11 #[.slice none 0 0, .int .i64 k0] w fun e w' => e = .returned (.int .i64 k0) ∧ w = w' := by
 go_enter Tryd.func11, Tryd.ntmps11
 go_wp2
 go_loop [1, 5] (fun kk i => i = .int .i64 0 ∧ kk = .int .i64 k0) (fun _ i => 0)
 case atStart => exact ⟨rfl, rfl⟩
 case round =>
  obtain ⟨rfl, rfl⟩ := hrel
  go_wp2
  go_ret
  exact ⟨rfl, rfl⟩

theorem markByteS_any {B : Nat} {v : Value} {l : List Int} (k0 : Int) {w : World} (h : Own B 5 w v l) (hl : l.length ≤ 2097152) (hk0 : 0 ≤ k0) (hk1 : k0 ≤ 9000000000000000000) :
  Calls Tryd.prog 11 #[v, .int .i64 k0] w fun e w' => e = .returned (.int .i64 (k0 + l.length)) ∧ Own B 5 w' v (marks k0 l.length) ∧ w.grownBy w' v.ownBlock := by
 rcases h.form with ⟨rfl, rfl⟩ | ⟨g, cap, rfl, _⟩
 ·refine (markByteS_nil k0 w hk0 hk1).mono fun e w' ⟨he, hw⟩ => ?_
  subst hw
  exact ⟨by simpa using he, h, ⟨rfl, rfl, rfl, Nat.le_refl _, fun _ _ _ => rfl⟩⟩
 ·exact markByteS_some B g cap k0 l w h hl hk0 hk1

theorem heldByteS_marks (a : Option Addr) (cap n : Nat) (k0 : Int) (w : World) (h : Lies w a (marks k0 n)) (hl : n ≤ 2097152) (hk0 : 0 ≤ k0) (hk1 : k0 ≤ 9000000000000000000) :
  Calls Tryd.prog 12 #[.slice a n cap, .int .i64 k0] w fun e w' => e = .returned (.int .i64 (k0 + n)) ∧ w = w' := by
 go_enter Tryd.func12, Tryd.ntmps12
 go_wp2
 go_loop [1, 5] (fun kk i => ∃ k : Nat, k ≤ n ∧ i = .int .i64 k ∧ kk = .int .i64 (k0 + k)) (fun _ i => n - (intOf i).toNat)
 case atStart => exact ⟨0, Nat.zero_le _, rfl, by simp⟩
 case round =>
  obtain ⟨k, hk, rfl, rfl⟩ := hrel
  by_cases hlt : k < n
  ·obtain ⟨b, off, rfl, hbl, hc⟩ := h.here (k := k) (by rw [marks_length]; exact hlt)
   rw [marks_getD _ _ _ hlt] at hc
   go_wp2
   exact ⟨⟨k + 1, by omega, by go_num, by go_num⟩, by simp [intOf]; omega⟩
  ·go_wp2
   go_ret
   obtain rfl : k = n := by omega
   exact ⟨rfl, rfl⟩

def Fr (B E : Nat) (w : World) (v : Value) (l : List Int) : Prop :=
 (v = .slice none 0 0 ∧ l = []) ∨ ∃ g cap, v = .slice (some ⟨g, 0, none⟩) l.length cap ∧ B ≤ g ∧ g < E ∧ g < w.heap.size ∧ l.length ≤ cap ∧ cap ≤ maxLen ∧ ∀ i, i < l.length → w.cell? ⟨g, i, none⟩ = some (.int .u8 (l.getD i 0)) ∧ w.frozen? ⟨g, i, none⟩ = false
theorem Fr.has {B E : Nat} {w : World} {v : Value} {l : List Int} (h : Fr B E w v l) : Has w v l := by
 rcases h with h | ⟨g, cap, rfl, _, _, hg, hc, hm, hh⟩
 ·exact .inl h
 ·exact .inr ⟨g, 0, cap, rfl, hg, hc, hm, fun i hi => by rw [Nat.zero_add]; exact (hh i hi).1⟩
theorem Fr.outside {B E C D : Nat} {w w' : World} {v : Value} {l : List Int} (h : Fr B E w v l) (u : Outside C D w w') (hd : E ≤ C ∨ D ≤ B) : Fr B E w' v l := by
 rcases h with h | ⟨g, cap, rfl, hB, hE, hg, hc, hm, hh⟩
 ·exact .inl h
 ·have hk := u.block g hg (by omega)
  exact .inr ⟨g, cap, rfl, hB, hE, Nat.lt_of_lt_of_le hg u.size, hc, hm, fun i hi => by
   rw [World.cell?_of_block (a := ⟨g, i, none⟩) hk, World.frozen?_of_block (a := ⟨g, i, none⟩) hk]
   exact hh i hi⟩
theorem Fr.below {B E : Nat} {w w' : World} {v : Value} {l : List Int} (h : Fr B E w v l) (hb : Below w.heap.size w w') : Fr B E w' v l := by
 rcases h with h | ⟨g, cap, rfl, hB, hE, hg, hc, hm, hh⟩
 ·exact .inl h
 ·have hk := hb.block g hg
  exact .inr ⟨g, cap, rfl, hB, hE, Nat.lt_of_lt_of_le hg hb.size, hc, hm, fun i hi => by
   rw [World.cell?_of_block (a := ⟨g, i, none⟩) hk, World.frozen?_of_block (a := ⟨g, i, none⟩) hk]
   exact hh i hi⟩
theorem Fr.lies {B E : Nat} {w : World} {v : Value} {l : List Int} (h : Fr B E w v l) : ∃ a cap, v = .slice a l.length cap ∧ Lies w a l := by
 rcases h with ⟨rfl, rfl⟩ | ⟨g, cap, rfl, hB, hE, hg, hc, hm, hh⟩
 ·exact ⟨none, 0, rfl, .inl rfl⟩
 ·exact ⟨_, cap, rfl, .inr ⟨g, 0, rfl, hg, fun i hi => by rw [Nat.zero_add]; exact (hh i hi).1⟩⟩

theorem Fr.here {B E : Nat} {w : World} {v : Value} {l : List Int} (h : Fr B E w v l) : Fr B E w v l := h
theorem fr_nil (B E : Nat) (w : World) : Fr B E w (.slice none 0 0) [] := .inl ⟨rfl, rfl⟩
set_option maxHeartbeats 400000 in
set_option maxRecDepth 100000 in
theorem markByteS_fr {C E : Nat} {v : Value} {l : List Int} (k0 : Int) {w : World} (h : Fr C E w v l) (hl : l.length ≤ 2097152) (hk0 : 0 ≤ k0) (hk1 : k0 ≤ 9000000000000000000) :
  Calls Tryd.prog 11 #[v, .int .i64 k0] w fun e w' => e = .returned (.int .i64 (k0 + l.length)) ∧ Fr C E w' v (marks k0 l.length) ∧ Outside C E w w' := by
 rcases h with ⟨rfl, rfl⟩ | ⟨g, cap, rfl, hB, hE, hg, hc, hm, hh⟩
 ·go_enter Tryd.func11, Tryd.ntmps11
  go_wp2
  go_loop [1, 5] (fun kk i => i = .int .i64 0 ∧ kk = .int .i64 k0) (fun _ i => 0)
  case atStart => exact ⟨rfl, rfl⟩
  case round =>
   obtain ⟨rfl, rfl⟩ := hrel
   go_wp2
   go_ret
   exact ⟨by simp, .inl ⟨rfl, by simp [marks]⟩, Outside.refl _ _ _⟩
 ·have HZ := UC (marked_zero l k0)
  have HA := UC (marked_all l k0)
  have HS := UC (fun k => marked_succ l k0 k)
  have HLn := UC (fun k => marked_length l k0 k)
  have HML := UC (marks_length k0 l.length)
  have HH := UC hh
  clear hh
  generalize hn : l.length = n at *
  have HN := UC hn
  clear hn
  go_enter Tryd.func11, Tryd.ntmps11
  go_wp2
  go_loopw [1, 5] (fun kk i wr => ∃ k : Nat, k ≤ n ∧ i = .int .i64 k ∧ kk = .int .i64 (k0 + k) ∧ (∀ j, j < n → wr.cell? ⟨g, j, none⟩ = some (.int .u8 ((marked l k0 k).getD j 0)) ∧ wr.frozen? ⟨g, j, none⟩ = false) ∧ Outside C E w wr) (fun _ i _ => n - (intOf i).toNat)
  case atStart => exact ⟨0, Nat.zero_le _, rfl, by simp, by rw [UB HZ]; exact UB HH, Outside.refl _ _ _⟩
  case round =>
   obtain ⟨k, hk, rfl, rfl, ho, hu⟩ := hrel
   by_cases hlt : k < n
   ·obtain ⟨hc0, hf0⟩ := ho k hlt
    have HO := UC ho
    clear ho
    go_wp2
    refine ⟨⟨k + 1, by omega, by go_num, by go_num, fun j hj => ?_, hu.trans (outside_grown (grown_setCell _ ⟨g, k, none⟩ _) (fun q hq => by simp at hq; omega))⟩, by simp [intOf]; omega⟩
    rw [World.frozen?_setCell, ← UB HS]
    refine ⟨?_, (UB HO j hj).2⟩
    by_cases e : j = k
    ·subst e
     rw [World.cell?_setCell_same _ _ _ hc0]
     congr 2
     simp only [List.getD_eq_getElem?_getD]
     rw [List.getElem?_set_self (by rw [UB HLn]; exact hlt)]
     rfl
    ·rw [World.cell?_setCell_other _ _ _ _ (by simp <;> omega), (UB HO j hj).1]
     congr 2
     simp only [List.getD_eq_getElem?_getD]
     rw [List.getElem?_set_ne (Ne.symm e)]
   ·go_wp2
    go_ret
    obtain rfl : k = n := by omega
    refine ⟨rfl, .inr ⟨g, cap, by rw [UB HML], hB, hE, Nat.lt_of_lt_of_le hg hu.size, by rw [UB HML]; omega, hm, fun i hi => ?_⟩, hu⟩
    rw [UB HML] at hi
    have e : marked l k0 k = marks k0 k := UB HA
    rw [← e]
    exact ho i hi
theorem heldByteS_fr {B E n : Nat} {v : Value} (k0 : Int) {w : World} (h : Fr B E w v (marks k0 n)) (hl : n ≤ 2097152) (hk0 : 0 ≤ k0) (hk1 : k0 ≤ 9000000000000000000) :
  Calls Tryd.prog 12 #[v, .int .i64 k0] w fun e w' => e = .returned (.int .i64 (k0 + n)) ∧ w = w' := by
 obtain ⟨a, cap, rfl, hL⟩ := h.lies
 rw [marks_length]
 exact heldByteS_marks a cap n k0 w hL hl hk0 hk1
end Go.Proofs.YthmihglfffeedaaDoor

namespace Go.Proofs.YthmihglfffeedaaDoor
open Go.RowKit

def digs (x : Int) : List Int := (Lib.decDigits x.toNat).map fun (b : UInt8) => (b.toNat : Int)

theorem digs_lt (x : Int) (h0 : 0 ≤ x) (h : x < 10) : digs x = [48 + x] := by
 unfold digs
 rw [Lib.decDigits, dif_pos (by omega)]
 simp
 omega

theorem digs_ge (x : Int) (h : 10 ≤ x) : digs x = digs (x / 10) ++ [48 + x % 10] := by
 unfold digs
 rw [Lib.decDigits, dif_neg (by omega)]
 simp
 refine ⟨?_, by omega⟩
 congr 2
 omega

theorem digs_length (x : Int) (h0 : 0 ≤ x) (h : x ≤ 255) : 1 ≤ (digs x).length ∧ (digs x).length ≤ 3 := by
 by_cases h1 : x < 10
 ·rw [digs_lt x h0 h1]; simp
 ·rw [digs_ge x (by omega)]
  by_cases h2 : x / 10 < 10
  ·rw [digs_lt _ (by omega) h2]; simp
  ·rw [digs_ge (x / 10) (by omega), digs_lt _ (by omega) (by omega)]; simp

theorem cells_digs (x : Int) (h0 : 0 ≤ x) : Lib.byteCells (Lib.itoa x) = (digs x).map (Value.int .u8) := by
 unfold Lib.itoa digs Lib.byteCells
 rw [if_neg (by omega)]
 simp

theorem itoa_digs (x : Int) (h0 : 0 ≤ x) : (Lib.itoa x).length = (digs x).length := by
 unfold Lib.itoa digs
 rw [if_neg (by omega)]
 simp

def parts (n : Int) : List Int := [n / 16777216, n / 65536 % 256, n / 256 % 256, n % 256]
def part (n : Int) (j : Nat) : Int := (parts n).getD j 0

theorem part_bd (n : Int) (j : Nat) (h0 : 0 ≤ n) (h1 : n ≤ 4294967295) : 0 ≤ part n j ∧ part n j ≤ 255 := by
 match j with
 | 0 => simp [part, parts]; omega
 | 1 => simp [part, parts]; omega
 | 2 => simp [part, parts]; omega
 | 3 => simp [part, parts]; omega
 | k + 4 => simp [part, parts]

def sdot (n : Int) : Nat → List Int
 | 0 => []
 | j + 1 => sdot n j ++ digs (part n j) ++ (if j < 3 then [46] else [])
def idot (n : Int) : Nat → List Int
 | 0 => []
 | j + 1 => idot n j ++ (if 0 < j then [46] else []) ++ digs (part n j)

theorem sdot_idot (n : Int) : sdot n 4 = idot n 4 := by simp [sdot, idot]

theorem sdot_length (n : Int) (h0 : 0 ≤ n) (h1 : n ≤ 4294967295) (j : Nat) : (sdot n j).length ≤ 4 * j := by
 induction j with
 | zero => simp [sdot]
 | succ j ih =>
  have hb := part_bd n j h0 h1
  have := (digs_length _ hb.1 hb.2).2
  simp only [sdot, List.length_append]
  split <;> simp <;> omega
theorem idot_length (n : Int) (h0 : 0 ≤ n) (h1 : n ≤ 4294967295) (j : Nat) : (idot n j).length ≤ 4 * j := by
 induction j with
 | zero => simp [idot]
 | succ j ih =>
  have hb := part_bd n j h0 h1
  have := (digs_length _ hb.1 hb.2).2
  simp only [idot, List.length_append]
  split <;> simp <;> omega

def dotted (n : Int) : List Int := if 0 ≤ n ∧ n ≤ 4294967295 then idot n 4 else []

theorem dotted_length (n : Int) : (dotted n).length ≤ 16 := by
 unfold dotted
 split
 ·rename_i h; have := idot_length n h.1 h.2 4; omega
 ·simp

theorem and_255 (x : Int) (h0 : 0 ≤ x) (h1 : x ≤ 4611686018427387903) : bits .and .i64 x 255 = x % 256 := by
 obtain ⟨a, rfl⟩ := Int.eq_ofNat_of_zero_le h0
 show IntKind.i64.wrap ((BitVec.ofInt 64 (a : Int) &&& BitVec.ofInt 64 ((255 : Nat) : Int)).toNat : Int) = _
 rw [BitVec.toNat_and, ofInt_u64 a (by omega), ofInt_u64 255 (by omega), nat_mask8]
 rw [wrap_small _ (by omega)]
 omega
end Go.Proofs.YthmihglfffeedaaDoor

namespace Go.Proofs.YthmihglfffeedaaDoor
open Go.RowKit

def dots (n : List (List Int)) (k : Nat) : List Int := ((n.take k).map (fun l => l ++ [46])).flatten

theorem dots_zero (n : List (List Int)) : dots n 0 = [] := by simp [dots]
theorem dots_succ (n : List (List Int)) (k : Nat) (h : k < n.length) : dots n (k + 1) = dots n k ++ n.getD k [] ++ [46] := by
 unfold dots
 rw [List.take_succ_eq_append_getElem h, List.map_append, List.flatten_append, show n.getD k [] = n[k] by simp [h]]
 simp only [List.map_cons, List.map_nil, List.flatten_cons, List.flatten_nil, List.append_nil, List.append_assoc]

theorem dots_length (n : List (List Int)) (h : nameOk n = true) (k : Nat) : (dots n k).length ≤ 16 * k := by
 induction k with
 | zero => simp [dots]
 | succ k ih =>
  by_cases hk : k < n.length
  ·rw [dots_succ n k hk]
   have := (labelOk_length ((nameOk_parts h).2 k hk)).2
   simp only [List.length_append, List.length_cons, List.length_nil]
   omega
  ·have e : dots n (k + 1) = dots n k := by unfold dots; rw [List.take_of_length_le (by omega), List.take_of_length_le (by omega)]
   rw [e]; omega

def nameText (n : List (List Int)) : List Int := if nameOk n = true then (if n.length = 0 then [46] else dots n n.length) else []

theorem nameText_no {n : List (List Int)} (h : nameOk n = false) : nameText n = [] := by simp [nameText, h]
theorem nameText_root {n : List (List Int)} (h : nameOk n = true) (h0 : n.length = 0) : nameText n = [46] := by simp [nameText, h, h0]
theorem nameText_some {n : List (List Int)} (h : nameOk n = true) (h0 : n.length ≠ 0) : nameText n = dots n n.length := by simp [nameText, h, h0]
theorem nameText_length (n : List (List Int)) : (nameText n).length ≤ 96 := by
 unfold nameText
 split
 ·rename_i h
  split
  ·simp
  ·have := dots_length n h n.length
   have := (nameOk_parts h).1
   omega
 ·simp
end Go.Proofs.YthmihglfffeedaaDoor

namespace Go.Proofs.YthmihglfffeedaaDoor
open Go.RowKit
set_option linter.unusedVariables false

def Byt (l : List Int) : Prop := ∀ c ∈ l, 0 ≤ c ∧ c ≤ 255
theorem Byt.app {l m : List Int} (h : Byt l) (h' : Byt m) : Byt (l ++ m) := fun c hc => by
 rcases List.mem_append.1 hc with q | q
 ·exact h c q
 ·exact h' c q
def u8s (l : List Int) : List UInt8 := l.map fun x => UInt8.ofNat x.toNat
theorem u8s_length (l : List Int) : (u8s l).length = l.length := by simp [u8s]
theorem byte_back {x : Int} (h : 0 ≤ x ∧ x ≤ 255) : (((UInt8.ofNat x.toNat).toNat : Nat) : Int) = x := by
 rw [UInt8.toNat_ofNat']
 omega
theorem u8s_get {l : List Int} (h : Byt l) {i : Nat} {y : UInt8} (hy : (u8s l)[i]? = some y) : (y.toNat : Int) = l.getD i 0 := by
 unfold u8s at hy
 rw [List.getElem?_map, Option.map_eq_some_iff] at hy
 obtain ⟨x, hx, rfl⟩ := hy
 rw [byte_back (h x (List.mem_of_getElem? hx)), List.getD_eq_getElem?_getD, hx]
 rfl
theorem Has.holds {w : World} {v : Value} {l : List Int} (h : Has w v l) (hb : Byt l) : Lib.HoldsBytes w v (u8s l) := by
 rcases h with ⟨rfl, rfl⟩ | ⟨g, off, cap, rfl, hg, hc, hm, hh⟩
 ·exact ⟨none, 0, rfl, fun _ => rfl, fun a ha => by cases ha⟩
 ·refine ⟨some ⟨g, off, none⟩, cap, by rw [u8s_length], fun q => (by cases q), fun a ha i x hx => ?_⟩
  cases ha
  have hi : i < l.length := by rw [← u8s_length l]; exact (List.getElem?_eq_some_iff.1 hx).1
  rw [u8s_get hb hx, Addr.add_lit]
  exact hh i hi
theorem u8s_join (a b c d : List Int) : Lib.join [u8s a, u8s b, u8s c, u8s d] [32] = u8s (a ++ [32] ++ b ++ [32] ++ c ++ [32] ++ d) := by
 simp [Lib.join, u8s, List.intercalate, List.intersperse]
theorem u8s_inj {a b : List Int} (ha : Byt a) (hb : Byt b) (h : u8s a = u8s b) : a = b := by
 have hl : a.length = b.length := by rw [← u8s_length a, ← u8s_length b, h]
 refine List.ext_getElem hl fun i h1 h2 => ?_
 have e1 : (u8s a)[i]? = some (UInt8.ofNat (a[i]).toNat) := by simp [u8s, h1]
 have e2 : (u8s b)[i]? = some (UInt8.ofNat (b[i]).toNat) := by simp [u8s, h2]
 have := u8s_get ha e1
 rw [h] at e1
 have h3 := u8s_get hb e1
 rw [this] at h3
 simpa [h1, h2, List.getD_eq_getElem?_getD] using h3
def FrB (B : Nat) (w : World) (v : Value) (l : List Int) : Prop :=
 ∃ g cap, v = .slice (some ⟨g, 0, none⟩) l.length cap ∧ B ≤ g ∧ l.length ≤ cap ∧ cap ≤ maxLen ∧ ∀ i, i < l.length → w.cell? ⟨g, i, none⟩ = some (.int .u8 (l.getD i 0)) ∧ w.frozen? ⟨g, i, none⟩ = false
theorem FrB.of {B : Nat} {w : World} {v : Value} {l : List Int} (hb : Byt l) (h : Lib.FreshBytes B w v (u8s l)) : FrB B w v l := by
 obtain ⟨g, cap, zs, rfl, hB, hc, hm, hz, hzb, hbo, hcell, hfr⟩ := h
 rw [u8s_length] at hc hbo
 refine ⟨g, cap, by rw [u8s_length], hB, hc, hm, fun i hi => ⟨?_, hfr i (by omega)⟩⟩
 rw [hcell i (by omega)]
 have e : zs.take l.length = l := u8s_inj (fun c hc => by have := hzb c (List.mem_of_mem_take hc); omega) hb hbo
 congr 2
 rw [← e]
 simp [List.getD_eq_getElem?_getD, hi]
end Go.Proofs.YthmihglfffeedaaDoor
