/-
  Contract of the specification's l1spoil: a text with one byte turned, taken away or more. Plain facts: a name's text, label by label. No program is named here. Plain facts: a name comes back from its text, great letters being as small ones. No program is named here. Plain facts: a name comes back from its bytes, wherever they stand, and by a pointer to them. No program is named here.
-/
import Derived.Test.YthmihglfffeedaaGreatDoorFnRecordsG04
import Derived.Test.YthmihglfffeedaaGreatDoorFnRecordsG01
import Derived.Deep.RegionLaw
import Derived.Test.YthmihglfffeedaaGreatDoorFnRecordsG02
import Derived.Test.YthmihglfffeedaaGreatDoorFnRecordsG05
namespace Go.Proofs.YthmihglfffeedaaGreatDoor
open Go.RowKit
set_option linter.unusedVariables false

theorem Own.prefix {B g n cap : Nat} {e : TypeId} {w : World} {l : List Int} (h : Own B e w (.slice (some ⟨g, 0, none⟩) n cap) l) (hn : l.length = n) {i : Nat} (hi : i ≤ n) : Own B e w (.slice (some ⟨g, 0, none⟩) i cap) (l.take i) := by
 subst hn
 have hl : (l.take i).length = i := by simp; omega
 rcases h.2 with ⟨hv, _⟩ | ⟨g', cap', cur, hv, hb, hg, h1, h2, h3, h4⟩
 ·cases hv
 ·simp only [Value.slice.injEq, Option.some.injEq, Addr.mk.injEq, true_and, and_true] at hv
  obtain ⟨rfl, rfl⟩ := hv
  refine ⟨by simp, .inr ⟨g, cap, cur, by rw [hl], hb, hg, by rw [hl]; omega, h2, h3, ?_⟩⟩
  rw [hl, Nat.mul_one]
  rw [Nat.mul_one] at h4
  have : cur.toList.take i = (cur.toList.take l.length).take i := by rw [List.take_take]; congr 1; omega
  rw [this, h4, ← List.map_take]
def Spoilt (w : World) (g : Nat) (a : Option Addr) (len cap : Nat) (l : List Int) (e : Ending) (w' : World) : Prop :=
 ∃ v' l', e = .returned v' ∧ Own w.heap.size 5 w' v' l' ∧ l'.length ≤ l.length + 1 ∧ (∀ x ∈ l', 0 ≤ x ∧ x ≤ 255) ∧ Cur w' g a len cap ∧ w.grownBy w' (some g)

theorem mem_set_bytes {l : List Int} {i : Nat} {y : Int} (h : ∀ x ∈ l, 0 ≤ x ∧ x ≤ 255) (hy : 0 ≤ y ∧ y ≤ 255) : ∀ x ∈ l.set i y, 0 ≤ x ∧ x ≤ 255 := by
 intro x hx
 rcases List.mem_or_eq_of_mem_set hx with hx | rfl
 ·exact h x hx
 ·exact hy

set_option maxHeartbeats 800000 in
set_option maxRecDepth 100000 in
theorem l1spoil_any {g : Nat} {a : Option Addr} {len cap : Nat} {w : World} {vb : Value} {l : List Int} (hc : Cur w g a len cap) (hL : Code w g a len) (hm : len ≤ maxLen) (u : Has w vb l) (hl0 : 1 ≤ l.length) (hl1 : l.length ≤ 400) (hb : ∀ x ∈ l, 0 ≤ x ∧ x ≤ 255) :
  Calls Tryz.prog 42 #[.pointer (some ⟨g, 0, none⟩), vb] w (Spoilt w g a len cap l) := by
 have hg := hc.lt
 have be := UI (w := w) (.cells #[] 5)
 obtain ⟨gb, offb, capb, rfl, _, hcapb, hmaxb⟩ := u.slot hl0
 have A1 : Own w.heap.size 5 (w.alloc (.cells #[] 5)) (.slice (some ⟨w.heap.size, 0, none⟩) 0 0) [] := own_lit w w.heap.size 5 [] (Nat.le_refl _) (by simp)
 have HA1 := UC A1
 have A2 := UC (u.below be).reads
 have HC := UC hc
 have HLL := UC hL
 have HB := UC hb
 have HM := UC hm
 have BE := UC be
 have ze : w.heap.size ≤ (w.alloc (.cells #[] 5)).heap.size := be.size
 clear hc hL hb hm u A1 be
 go_enter Tryz.func42, Tryz.ntmps42
 go_wp2_with (at_builtin; refine append_bytes rfl _ _ 22 5 rfl Tryz.underlying22 VJ w.heap.size (.slice (some ⟨w.heap.size, 0, none⟩) 0 0) (.slice (some ⟨gb, offb, none⟩) l.length capb) [] l rfl rfl (UB HA1) (UB A2) (by simp; omega) ze ?_)
 intro v1 w1 o1 g1
 try rw [List.nil_append] at o1
 have b1 : Below w.heap.size w w1 := (UB BE).grown g1 ze (fun k hk => by simp [Value.ownBlock] at hk; omega)
 have gw1 : w.grownBy w1 (some g) := ⟨b1.os, b1.tape, b1.output, b1.size, fun i hi _ => b1.block i hi⟩
 have c1 := (UB HC).later (grown_of_below b1) (by simp)
 have L1 := (UB HLL).later (grown_of_below b1) (by simp)
 obtain ⟨p1, q1, r1, rfl, _, hr1, hm1⟩ := o1.has.slot hl0
 obtain rfl : q1 = 0 := by
  rcases o1.form with ⟨e, _⟩ | ⟨g', cap', e, _⟩
  ·cases e
  ·simp at e; exact e.1.2
 have hp1 := o1.lt p1 rfl
 have hn0 : ((l.length : Int) == 0) = false := by rw [beq_eq_false_iff_ne]; omega
 have HB1 := UC (l1Below_any (l.length : Int) c1 L1 (UB HM) (by omega) (by omega))
 have O1 := UC o1
 have GW1 := UC gw1
 have hne : (Value.slice (some ⟨p1, 0, none⟩) l.length r1).ownBlock = none ∨ (Value.slice (some ⟨p1, 0, none⟩) l.length r1).ownBlock ≠ some g := .inr (by simp [Value.ownBlock]; omega)
 have HNE := UC hne
 have HLC := UC L1
 clear g1 b1 gw1 c1 L1 o1 HA1 A2 BE HC HLL hne
 go_wp2_with fail
 refine (UB HB1).mono ?_
 rintro e w2 ⟨z, rfl, hz0, hz1, c2, g2⟩
 obtain ⟨i, rfl⟩ := Int.eq_ofNat_of_zero_le hz0
 have L2 := (UB HLC).grown g2
 have HB2 := UC (l1Below_any 4 c2 L2 (UB HM) (by omega) (by omega))
 have O2 := UC ((UB O1).kept g2 (UB HNE))
 have GW2 := UC (grown_trans (UB GW1) g2)
 have HL2 := UC L2
 have hzz : w1.heap.size ≤ w2.heap.size := g2.size
 clear HB1 O1 GW1 HLC c2 L2 g2
 go_wp2_with fail
 refine (UB HB2).mono ?_
 rintro e w3 ⟨x, rfl, hx0, hx1, c3, g3⟩
 have L3 := (UB HL2).grown g3
 have O3 := UC ((UB O2).kept g3 (UB HNE))
 have GW3 := UC (grown_trans (UB GW2) g3)
 have C3 := UC c3
 have HL3 := UC L3
 have HBY := UC (l1Byte_any c3 L3 (UB HM))
 have zz3 := g3.size
 have hil : i < l.length := by omega
 have hx : x = 0 ∨ x = 1 ∨ x = 2 ∨ x = 3 := by omega
 clear HB2 O2 GW2 HL2 c3 L3 g3 hx0 hx1
 rcases hx with rfl | rfl | rfl | rfl
 ·go_wp2_with fail
  refine (UB HBY).mono ?_
  rintro e w4 ⟨y, rfl, hy0, hy1, c4, g4⟩
  have O4 := UC ((UB O3).kept g4 (UB HNE))
  have GW4 := UC (grown_trans (UB GW3) g4)
  have C4 := UC c4
  have hwy : IntKind.u8.wrap y = y := by
   obtain ⟨q, rfl⟩ := Int.eq_ofNat_of_zero_le hy0
   exact wrap_u8 _ (by omega)
  have hcl := World.ownsRow.cellAt (UB O4) i (by omega)
  rw [map_at l i hil] at hcl
  have hfz := World.ownsRow.frozenAt (UB O4) i
  have hst := World.ownsRow.stored (UB O4) i (.int .u8 y)
  have e5 : (l.map (Value.int .u8)).set i (.int .u8 y) = (l.set i y).map (Value.int .u8) := by rw [List.map_set]
  rw [e5] at hst
  have OS : Own w.heap.size 5 (w4.setCell ⟨p1, i, none⟩ (.int .u8 y)) (.slice (some ⟨p1, 0, none⟩) l.length r1) (l.set i y) := by
   have := hst.1
   show World.ownsRow _ _ _ 1 _ (l.set i y).length _
   rw [List.length_set]
   exact this
  have HOS := UC OS
  have GS := UC (grown_setCell w4 ⟨p1, i, none⟩ (.int .u8 y))
  clear hst OS e5
  have hii : (i : Int) < l.length := by omega
  clear HBY O3 GW3 C3 HL3 c4 g4
  go_wp2_with fail
  go_ret
  exact ⟨_, l.set i y, rfl, UB HOS, by rw [List.length_set]; omega, mem_set_bytes (UB HB) ⟨hy0, hy1⟩, (UB C4).later (UB GS) (fun j e => by cases e; omega), grown_own (UB GW4) (UB GS) (fun j e => by cases e; omega)⟩
 ·have OD : Own w.heap.size 5 w3.drew (.slice (some ⟨p1, 0, none⟩) l.length r1) l := (UB O3).below (UX (w := w3))
  have P1 := UC (OD.prefix rfl (i := i) (by omega))
  have R1 : Reads w3.drew (.slice (if r1 = i + 1 then some ⟨p1, 0, none⟩ else some ⟨p1, i + 1, none⟩) (l.length - (i + 1)) (r1 - (i + 1))) (l.drop (i + 1)) := by
   have := sub_reads_if (i := i + 1) (m := l.length - (i + 1)) OD rfl (by omega) hr1
   rw [show i + 1 + (l.length - (i + 1)) - (i + 1) = l.length - (i + 1) from by omega, List.take_of_length_le (by simp)] at this
   exact this
  have HR1 := UC R1
  have hi1 : (0 : Int) ≤ (i : Int) := by omega
  have hi6 : (0 : Int) ≤ (i : Int) + 1 := by omega
  have hi2 : (i : Int) ≤ (r1 : Int) := by omega
  have hi3 : (i : Int) + 1 ≤ (l.length : Int) := by omega
  have hi4 : IntKind.i64.wrap ((i : Int) + 1) = ((i + 1 : Nat) : Int) := by rw [show ((i : Int) + 1) = ((i + 1 : Nat) : Int) by omega]; exact wrap_small _ (by omega)
  have hi5 : ((i + 1 : Nat) : Int) ≤ (r1 : Int) := by omega
  have hlt1 : (l.take i).length + (l.drop (i + 1)).length ≤ l.length := by simp; omega
  have HZ : w.heap.size ≤ w3.drew.heap.size := by show w.heap.size ≤ w3.heap.size; omega
  clear OD R1 HBY HL3
  go_wp2_with fail
  go_region_law (first
   | (refine step_append_bytes rfl (.tmp 42) (.tmp 46) 22 5 rfl Tryz.underlying22 VJ w.heap.size (.slice (some ⟨p1, 0, none⟩) i r1) (.slice (if r1 = i + 1 then some ⟨p1, 0, none⟩ else some ⟨p1, i + 1, none⟩) (l.length - (i + 1)) (r1 - (i + 1))) (l.take i) (l.drop (i + 1)) (by simp [Act.eval, Act.put]) (by simp [Act.eval, Act.put]) (UB P1) (UB HR1) (by omega) HZ ?_; intro v5 w5 o5 g5))
  all_goals
   have gd : w3.grownBy w3.drew none := ⟨rfl, rfl, rfl, Nat.le_refl _, fun _ _ _ => rfl⟩
   have C5 := UC (((UB C3).later gd (fun j e => by cases e)).later g5 (fun j e => by simp [Value.ownBlock] at e; omega))
   have GW5 := UC (grown_own (grown_own (UB GW3) gd (fun j e => by cases e)) g5 (fun j e => by simp [Value.ownBlock] at e; omega))
   have O5 := UC o5
   clear o5 g5 gd
   go_wp2_with fail
   all_goals
    go_ret
    exact ⟨_, l.take i ++ l.drop (i + 1), rfl, UB O5, by rw [List.length_append]; omega, fun c hc => by
     rcases List.mem_append.1 hc with h | h
     ·exact UB HB c (List.mem_of_mem_take h)
     ·exact UB HB c (List.mem_of_mem_drop h), UB C5, UB GW5⟩
 ·go_wp2_with fail
  refine (UB HBY).mono ?_
  rintro e w4 ⟨y, rfl, hy0, hy1, c4, g4⟩
  have O4 := UC ((UB O3).kept g4 (UB HNE))
  have GW4 := UC (grown_trans (UB GW3) g4)
  have C4 := UC c4
  have hwy : IntKind.u8.wrap y = y := by
   obtain ⟨q, rfl⟩ := Int.eq_ofNat_of_zero_le hy0
   exact wrap_u8 _ (by omega)
  have RY := UC (own_lit w4 0 5 [y] (Nat.zero_le _) (by simp [maxLen])).reads
  have zz4 := g4.size
  have za := (UI (w := w4) (.cells #[.int .u8 y] 5)).size
  have GA := UC (grown_alloc w4 (.cells #[.int .u8 y] 5) none)
  clear HBY O3 GW3 C3 HL3 c4 g4
  go_wp2_with (at_builtin; refine append_bytes rfl _ _ 22 5 rfl Tryz.underlying22 VJ w.heap.size (.slice (some ⟨p1, 0, none⟩) l.length r1) _ l [y] rfl rfl ((UB O4).alloc _) (UB RY) (by simp; omega) (by omega) ?_)
  intro v5 w5 o5 g5
  have C5 := UC (((UB C4).later (UB GA) (fun j e => by cases e)).later g5 (fun j e => by simp [Value.ownBlock] at e; omega))
  have GW5 := UC (grown_own (grown_own (UB GW4) (UB GA) (fun j e => by cases e)) g5 (fun j e => by simp [Value.ownBlock] at e; omega))
  have O5 := UC o5
  clear o5 g5
  go_wp2_with fail
  go_ret
  exact ⟨_, l ++ [y], rfl, UB O5, by simp, fun c hc => by
   rcases List.mem_append.1 hc with h | h
   ·exact UB HB c h
   ·simp at h; omega, UB C5, UB GW5⟩
 ·have hcb : 0 ≤ l.getD i 0 ∧ l.getD i 0 ≤ 255 := by
   have e : l.getD i 0 = l[i] := by simp [hil]
   rw [e]
   exact UB HB _ (List.getElem_mem hil)
  have O4 := O3
  have GW4 := GW3
  have C4 := C3
  have hcl := World.ownsRow.cellAt (UB O4) i (by omega)
  rw [map_at l i hil] at hcl
  generalize l.getD i 0 = c at *
  have hy0 : 0 ≤ (c + 1) % 256 := by omega
  have hy1 : (c + 1) % 256 ≤ 255 := by omega
  have hfz := World.ownsRow.frozenAt (UB O4) i
  have hst := World.ownsRow.stored (UB O4) i (.int .u8 ((c + 1) % 256))
  have e5 : (l.map (Value.int .u8)).set i (.int .u8 ((c + 1) % 256)) = (l.set i ((c + 1) % 256)).map (Value.int .u8) := by rw [List.map_set]
  rw [e5] at hst
  have OS : Own w.heap.size 5 (w3.setCell ⟨p1, i, none⟩ (.int .u8 ((c + 1) % 256))) (.slice (some ⟨p1, 0, none⟩) l.length r1) (l.set i ((c + 1) % 256)) := by
   have := hst.1
   show World.ownsRow _ _ _ 1 _ (l.set i ((c + 1) % 256)).length _
   rw [List.length_set]
   exact this
  have HOS := UC OS
  have GS := UC (grown_setCell w3 ⟨p1, i, none⟩ (.int .u8 ((c + 1) % 256)))
  clear hst OS e5
  have hii : (i : Int) < l.length := by omega
  clear HBY O3 GW3 C3 HL3
  go_wp2_with fail
  go_ret
  exact ⟨_, l.set i ((c + 1) % 256), rfl, UB HOS, by rw [List.length_set]; omega, mem_set_bytes (UB HB) ⟨hy0, hy1⟩, (UB C4).later (UB GS) (fun j e => by cases e; omega), grown_own (UB GW4) (UB GS) (fun j e => by cases e; omega)⟩
end Go.Proofs.YthmihglfffeedaaGreatDoor

namespace Go.Proofs.YthmihglfffeedaaGreatDoor
open Go.RowKit

def dots (n : List (List Int)) (k : Nat) : List Int := ((n.take k).map (fun l => l ++ [46])).flatten

theorem dots_zero (n : List (List Int)) : dots n 0 = [] := by simp [dots]
theorem dots_succ (n : List (List Int)) (k : Nat) (h : k < n.length) : dots n (k + 1) = dots n k ++ n.getD k [] ++ [46] := by
 unfold dots
 rw [List.take_succ_eq_append_getElem h, List.map_append, List.flatten_append, show n.getD k [] = n[k] by simp [h]]
 simp only [List.map_cons, List.map_nil, List.flatten_cons, List.flatten_nil, List.append_nil, List.append_assoc]

theorem dots_length (n : List (List Int)) (h : nameOk n = true) (k : Nat) : (dots n k).length ≤ 16 * k := by
 induction k with
 | zero => simp [dots]
 | succ k ih =>
  by_cases hk : k < n.length
  ·rw [dots_succ n k hk]
   have := (labelOk_length ((nameOk_parts h).2 k hk)).2
   simp only [List.length_append, List.length_cons, List.length_nil]
   omega
  ·have e : dots n (k + 1) = dots n k := by unfold dots; rw [List.take_of_length_le (by omega), List.take_of_length_le (by omega)]
   rw [e]; omega

def nameText (n : List (List Int)) : List Int := if nameOk n = true then (if n.length = 0 then [46] else dots n n.length) else []

theorem nameText_no {n : List (List Int)} (h : nameOk n = false) : nameText n = [] := by simp [nameText, h]
theorem nameText_root {n : List (List Int)} (h : nameOk n = true) (h0 : n.length = 0) : nameText n = [46] := by simp [nameText, h, h0]
theorem nameText_some {n : List (List Int)} (h : nameOk n = true) (h0 : n.length ≠ 0) : nameText n = dots n n.length := by simp [nameText, h, h0]
theorem nameText_length (n : List (List Int)) : (nameText n).length ≤ 96 := by
 unfold nameText
 split
 ·rename_i h
  split
  ·simp
  ·have := dots_length n h n.length
   have := (nameOk_parts h).1
   omega
 ·simp
end Go.Proofs.YthmihglfffeedaaGreatDoor

namespace Go.Proofs.YthmihglfffeedaaGreatDoor
open Go.RowKit

theorem lowered_map (l : List Int) : lowered l l.length = l.map low := by
 apply List.ext_getElem?
 intro j
 by_cases hj : j < l.length
 ·simp [lowered, hj]
 ·simp [lowered, hj]

structure Keeps (f : Int → Int) : Prop where
 dot : f 46 = 46
 sign : ∀ c, signOk c = true → f c ≠ 46 ∧ low (f c) = c

theorem keeps_id : Keeps id := ⟨rfl, fun c h => by
 have := of_decide_eq_true h
 simp only [id]
 unfold low
 split <;> omega⟩
theorem nameOk_signs {n : List (List Int)} (h : nameOk n = true) : ∀ l ∈ n, (1 ≤ l.length) ∧ ∀ c ∈ l, signOk c = true := by
 intro l hl
 obtain ⟨j, hj, rfl⟩ := List.getElem_of_mem hl
 have hk := (nameOk_parts h).2 j hj
 rw [List.getD_eq_getElem?_getD, List.getElem?_eq_getElem hj, Option.getD_some] at hk
 have hd := of_decide_eq_true hk
 refine ⟨hd.1, fun c hc => ?_⟩
 obtain ⟨i, hi, rfl⟩ := List.getElem_of_mem hc
 have := hd.2.2 i hi
 rwa [List.getD_eq_getElem?_getD, List.getElem?_eq_getElem hi, Option.getD_some] at this

theorem nameText_bytes (n : List (List Int)) : ∀ c ∈ nameText n, 0 ≤ c ∧ c ≤ 255 := by
 intro c hc
 unfold nameText at hc
 split at hc
 ·rename_i h
  split at hc
  ·simp at hc
   omega
  ·unfold dots at hc
   rw [List.take_length] at hc
   simp only [List.mem_flatten, List.mem_map] at hc
   obtain ⟨x, ⟨l, hl, rfl⟩, hc⟩ := hc
   simp at hc
   rcases hc with hc | rfl
   ·have := of_decide_eq_true ((nameOk_signs h l hl).2 c hc)
    omega
   ·omega
 ·simp at hc
end Go.Proofs.YthmihglfffeedaaGreatDoor

namespace Go.Proofs.YthmihglfffeedaaGreatDoor
open Go.RowKit

theorem wire_nil : wire [] = [0] := by simp [wire, wires]
theorem wire_cons (l : List Int) (n : List (List Int)) : wire (l :: n) = (l.length : Int) :: (l ++ wire n) := by
 unfold wire wires
 rw [List.take_length, List.take_length]
 simp
theorem lowered_label {l : List Int} (h : ∀ c ∈ l, signOk c = true) : lowered l l.length = l := by
 rw [lowered_map]
 have : l.map low = l.map id := List.map_congr_left (fun c hc => by
  have := (keeps_id.sign c (h c hc)).2
  simpa using this)
 rw [this, List.map_id]
theorem getD_mid (a : List Int) (x : Int) (b : List Int) : (a ++ x :: b).getD a.length 0 = x := by
 rw [List.getD_eq_getElem?_getD]
 simp
theorem takeOf_mid (a l b : List Int) : takeOf (a ++ (l ++ b)) (a.length : Int) (l.length : Int) = (l, (a.length : Int) + l.length) := by
 have h := takeOf_yes (l := a ++ (l ++ b)) (i := a.length) (m := l.length) (by simp)
 rw [h]
 simp

theorem get_wire : ∀ (m : List (List Int)) (pre post : List Int) (acc : List (List Int)) (f h : Nat) (e : Int), nameOk (acc ++ m) = true → m.length + 1 ≤ f →
  getName (pre ++ (wire m ++ post)) f acc pre.length h e = (acc ++ m, if e < 0 then (pre.length : Int) + (wire m).length else e)
 | [], pre, post, acc, f, h, e, hok, hf => by
  obtain ⟨f, rfl⟩ : ∃ g, f = g + 1 := ⟨f - 1, by simp at hf; omega⟩
  rw [wire_nil]
  have e1 : (pre ++ ([0] ++ post)).getD ((pre.length : Int)).toNat 0 = 0 := by
   rw [Int.toNat_natCast]
   exact getD_mid pre 0 post
  rw [List.append_nil] at hok
  unfold getName
  rw [if_neg (by simp; omega), e1, if_pos rfl, if_pos hok]
  simp
 | l :: m, pre, post, acc, f, h, e, hok, hf => by
  obtain ⟨f, rfl⟩ : ∃ g, f = g + 1 := ⟨f - 1, by simp at hf; omega⟩
  have hlk : labelOk l = true := by
   have := (nameOk_parts hok).2 acc.length (by simp)
   rwa [List.getD_eq_getElem?_getD, List.getElem?_append_right (Nat.le_refl _), Nat.sub_self, List.getElem?_cons_zero, Option.getD_some] at this
  have hll := labelOk_length hlk
  have hac : acc.length < 6 := by
   have := (nameOk_parts hok).1
   simp at this
   omega
  have hsg : ∀ c ∈ l, signOk c = true := by
   have hd := of_decide_eq_true hlk
   intro c hc
   obtain ⟨i, hi, rfl⟩ := List.getElem_of_mem hc
   have := hd.2.2 i hi
   rwa [List.getD_eq_getElem?_getD, List.getElem?_eq_getElem hi, Option.getD_some] at this
  rw [wire_cons]
  have e0 : pre ++ ((l.length : Int) :: (l ++ wire m) ++ post) = pre ++ (l.length : Int) :: (l ++ (wire m ++ post)) := by simp
  have e0' : pre ++ (l.length : Int) :: (l ++ (wire m ++ post)) = (pre ++ [(l.length : Int)]) ++ (l ++ (wire m ++ post)) := by simp
  have e1 : (pre ++ (l.length : Int) :: (l ++ (wire m ++ post))).getD ((pre.length : Int)).toNat 0 = l.length := by
   rw [Int.toNat_natCast]
   exact getD_mid pre _ _
  have e2 : takeOf (pre ++ (l.length : Int) :: (l ++ (wire m ++ post))) ((pre.length : Int) + 1) (l.length : Int) = (l, (pre.length : Int) + 1 + l.length) := by
   rw [e0']
   have := takeOf_mid (pre ++ [(l.length : Int)]) l (wire m ++ post)
   simpa using this
  have e3 : pre ++ (l.length : Int) :: (l ++ (wire m ++ post)) = (pre ++ [(l.length : Int)] ++ l) ++ (wire m ++ post) := by simp
  rw [e0]
  unfold getName
  rw [if_neg (by simp; omega), e1, if_neg (by omega), if_neg (by omega), if_neg (by omega), e2]
  simp only []
  rw [if_neg (by omega), lowered_label hsg, e3]
  have ih := get_wire m (pre ++ [(l.length : Int)] ++ l) post (acc ++ [l]) f h e (by simpa using hok) (by simp at hf; omega)
  have hp : (pre.length : Int) + 1 + l.length = ((pre ++ [(l.length : Int)] ++ l).length : Nat) := by simp; omega
  rw [hp, ih]
  simp only [List.append_assoc, List.singleton_append, List.length_append, List.length_cons]
  congr 1
  split
  ·simp
   omega
  ·rfl

end Go.Proofs.YthmihglfffeedaaGreatDoor
