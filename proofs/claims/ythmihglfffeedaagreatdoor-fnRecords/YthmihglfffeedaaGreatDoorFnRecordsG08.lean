/-
  Contracts of the specification's l2draw: one of twelve names. Contracts of the program's kindOf and TypeOk, and of the specification's TypeOk. Plain facts: which records may be. No program is named here. Plain facts: lists of numbers as bytes, for the library's contract on bytes.Join. No program is named here. Plain facts: what is known of a drawn record: its text are bytes; if it isn't bent, it may be.
-/
import Derived.Test.YthmihglfffeedaaGreatDoorFnRecordsG07
import Derived.Test.YthmihglfffeedaaGreatDoorFnRecordsG01
import Derived.Test.YthmihglfffeedaaGreatDoorFnRecordsG00
import Derived.Test.YthmihglfffeedaaGreatDoorFnRecordsG04
import Derived.Test.YthmihglfffeedaaGreatDoorFnRecordsG02
import Derived.Lib.SlParts
import Derived.Lib.SlFresh
import Derived.Lib.Join
import Derived.Test.YthmihglfffeedaaGreatDoorFnRecordsG05
import Derived.Test.YthmihglfffeedaaGreatDoorFnRecordsG03
namespace Go.Proofs.YthmihglfffeedaaGreatDoor
open Go.RowKit
set_option linter.unusedVariables false

def drawnTexts : List ByteArray := [⟨#[46]⟩, ⟨#[104, 111, 109, 101, 46]⟩, ⟨#[112, 99, 46, 104, 111, 109, 101, 46]⟩, ⟨#[116, 118, 46, 104, 111, 109, 101, 46]⟩, ⟨#[97, 46, 112, 99, 46, 104, 111, 109, 101, 46]⟩, ⟨#[99, 111, 109, 46]⟩, ⟨#[120, 46, 99, 111, 109, 46]⟩, ⟨#[119, 119, 119, 46, 120, 46, 99, 111, 109, 46]⟩, ⟨#[110, 115, 46, 99, 111, 109, 46]⟩, ⟨#[51, 46, 48, 46, 48, 46, 49, 48, 46, 105, 110, 45, 97, 100, 100, 114, 46, 97, 114, 112, 97, 46]⟩, ⟨#[115, 117, 98, 46, 104, 111, 109, 101, 46]⟩, ⟨#[121, 46, 115, 117, 98, 46, 104, 111, 109, 101, 46]⟩]
theorem drawn_size : ∀ s ∈ drawnTexts, s.size ≤ 1048576 := by decide +kernel
def Drawn (n : List (List Int)) : Prop := ∃ s ∈ drawnTexts, n = (nameRead (numsOf s)).1
theorem text_cell {w : World} {b : Nat} {t : TypeId} (h : w.heap[b]? = some (.cells #[.string ⟨#[46]⟩, .string ⟨#[104, 111, 109, 101, 46]⟩, .string ⟨#[112, 99, 46, 104, 111, 109, 101, 46]⟩, .string ⟨#[116, 118, 46, 104, 111, 109, 101, 46]⟩, .string ⟨#[97, 46, 112, 99, 46, 104, 111, 109, 101, 46]⟩, .string ⟨#[99, 111, 109, 46]⟩, .string ⟨#[120, 46, 99, 111, 109, 46]⟩, .string ⟨#[119, 119, 119, 46, 120, 46, 99, 111, 109, 46]⟩, .string ⟨#[110, 115, 46, 99, 111, 109, 46]⟩, .string ⟨#[51, 46, 48, 46, 48, 46, 49, 48, 46, 105, 110, 45, 97, 100, 100, 114, 46, 97, 114, 112, 97, 46]⟩, .string ⟨#[115, 117, 98, 46, 104, 111, 109, 101, 46]⟩, .string ⟨#[121, 46, 115, 117, 98, 46, 104, 111, 109, 101, 46]⟩] t)) {k : Nat} (hk : k < 12) : ∃ s ∈ drawnTexts, w.cell? ⟨b, k, none⟩ = some (.string s) := by
 have hc := VE h k
 match k, hk with
 | 0, _ => exact ⟨⟨#[46]⟩, by simp [drawnTexts], hc⟩
 | 1, _ => exact ⟨⟨#[104, 111, 109, 101, 46]⟩, by simp [drawnTexts], hc⟩
 | 2, _ => exact ⟨⟨#[112, 99, 46, 104, 111, 109, 101, 46]⟩, by simp [drawnTexts], hc⟩
 | 3, _ => exact ⟨⟨#[116, 118, 46, 104, 111, 109, 101, 46]⟩, by simp [drawnTexts], hc⟩
 | 4, _ => exact ⟨⟨#[97, 46, 112, 99, 46, 104, 111, 109, 101, 46]⟩, by simp [drawnTexts], hc⟩
 | 5, _ => exact ⟨⟨#[99, 111, 109, 46]⟩, by simp [drawnTexts], hc⟩
 | 6, _ => exact ⟨⟨#[120, 46, 99, 111, 109, 46]⟩, by simp [drawnTexts], hc⟩
 | 7, _ => exact ⟨⟨#[119, 119, 119, 46, 120, 46, 99, 111, 109, 46]⟩, by simp [drawnTexts], hc⟩
 | 8, _ => exact ⟨⟨#[110, 115, 46, 99, 111, 109, 46]⟩, by simp [drawnTexts], hc⟩
 | 9, _ => exact ⟨⟨#[51, 46, 48, 46, 48, 46, 49, 48, 46, 105, 110, 45, 97, 100, 100, 114, 46, 97, 114, 112, 97, 46]⟩, by simp [drawnTexts], hc⟩
 | 10, _ => exact ⟨⟨#[115, 117, 98, 46, 104, 111, 109, 101, 46]⟩, by simp [drawnTexts], hc⟩
 | 11, _ => exact ⟨⟨#[121, 46, 115, 117, 98, 46, 104, 111, 109, 101, 46]⟩, by simp [drawnTexts], hc⟩

set_option maxHeartbeats 2000000 in
set_option maxRecDepth 100000 in
theorem l2draw_any {g : Nat} {a : Option Addr} {len cap : Nat} {w : World} (hc : Cur w g a len cap) (hL : Code w g a len) (hm : len ≤ maxLen) :
  Calls Tryz.prog 65 #[.pointer (some ⟨g, 0, none⟩)] w fun e w' => ∃ v' n, e = .returned (.agg #[v']) ∧ Drawn n ∧ OwnL w.heap.size 22 5 w' v' n ∧ Cur w' g a len cap ∧ w.grownBy w' (some g) := by
 have hg := hc.lt
 obtain ⟨hsz, k0, r0⟩ := box2 w (.cells #[.slice none 0 0] 25) #[.string ⟨#[46]⟩, .string ⟨#[104, 111, 109, 101, 46]⟩, .string ⟨#[112, 99, 46, 104, 111, 109, 101, 46]⟩, .string ⟨#[116, 118, 46, 104, 111, 109, 101, 46]⟩, .string ⟨#[97, 46, 112, 99, 46, 104, 111, 109, 101, 46]⟩, .string ⟨#[99, 111, 109, 46]⟩, .string ⟨#[120, 46, 99, 111, 109, 46]⟩, .string ⟨#[119, 119, 119, 46, 120, 46, 99, 111, 109, 46]⟩, .string ⟨#[110, 115, 46, 99, 111, 109, 46]⟩, .string ⟨#[51, 46, 48, 46, 48, 46, 49, 48, 46, 105, 110, 45, 97, 100, 100, 114, 46, 97, 114, 112, 97, 46]⟩, .string ⟨#[115, 117, 98, 46, 104, 111, 109, 101, 46]⟩, .string ⟨#[121, 46, 115, 117, 98, 46, 104, 111, 109, 101, 46]⟩] 9
 have g0 : w.grownBy ((w.alloc (.cells #[.slice none 0 0] 25)).alloc (.cells #[.string ⟨#[46]⟩, .string ⟨#[104, 111, 109, 101, 46]⟩, .string ⟨#[112, 99, 46, 104, 111, 109, 101, 46]⟩, .string ⟨#[116, 118, 46, 104, 111, 109, 101, 46]⟩, .string ⟨#[97, 46, 112, 99, 46, 104, 111, 109, 101, 46]⟩, .string ⟨#[99, 111, 109, 46]⟩, .string ⟨#[120, 46, 99, 111, 109, 46]⟩, .string ⟨#[119, 119, 119, 46, 120, 46, 99, 111, 109, 46]⟩, .string ⟨#[110, 115, 46, 99, 111, 109, 46]⟩, .string ⟨#[51, 46, 48, 46, 48, 46, 49, 48, 46, 105, 110, 45, 97, 100, 100, 114, 46, 97, 114, 112, 97, 46]⟩, .string ⟨#[115, 117, 98, 46, 104, 111, 109, 101, 46]⟩, .string ⟨#[121, 46, 115, 117, 98, 46, 104, 111, 109, 101, 46]⟩] 9)) (some g) := grown_own (grown_own (row := some g) ⟨rfl, rfl, rfl, Nat.le_refl _, fun _ _ _ => rfl⟩ (grown_alloc w (.cells #[.slice none 0 0] 25) none) (fun j e => by cases e)) (grown_alloc _ _ none) (fun j e => by cases e)
 have hc0 := hc.later (grown_own (grown_own (row := none) ⟨rfl, rfl, rfl, Nat.le_refl _, fun _ _ _ => rfl⟩ (grown_alloc w (.cells #[.slice none 0 0] 25) none) (fun j e => by cases e)) (grown_alloc _ (.cells #[.string ⟨#[46]⟩, .string ⟨#[104, 111, 109, 101, 46]⟩, .string ⟨#[112, 99, 46, 104, 111, 109, 101, 46]⟩, .string ⟨#[116, 118, 46, 104, 111, 109, 101, 46]⟩, .string ⟨#[97, 46, 112, 99, 46, 104, 111, 109, 101, 46]⟩, .string ⟨#[99, 111, 109, 46]⟩, .string ⟨#[120, 46, 99, 111, 109, 46]⟩, .string ⟨#[119, 119, 119, 46, 120, 46, 99, 111, 109, 46]⟩, .string ⟨#[110, 115, 46, 99, 111, 109, 46]⟩, .string ⟨#[51, 46, 48, 46, 48, 46, 49, 48, 46, 105, 110, 45, 97, 100, 100, 114, 46, 97, 114, 112, 97, 46]⟩, .string ⟨#[115, 117, 98, 46, 104, 111, 109, 101, 46]⟩, .string ⟨#[121, 46, 115, 117, 98, 46, 104, 111, 109, 101, 46]⟩] 9) none) (fun j e => by cases e)) (fun j e => by cases e)
 have hL0 := hL.later g0 (fun j e => by cases e; exact Nat.le_refl _)
 have HB := UC (l1Below_any 12 hc0 hL0 hm (by omega) (by omega))
 have K0 := UC k0
 have R0 := UC r0
 have G0 := UC g0
 clear hc hL k0 r0 g0 hc0 hL0
 go_enter Tryz.func65, Tryz.ntmps65
 go_wp2_with fail
 generalize (w.alloc (.cells #[.slice none 0 0] 25)).alloc (.cells #[.string ⟨#[46]⟩, .string ⟨#[104, 111, 109, 101, 46]⟩, .string ⟨#[112, 99, 46, 104, 111, 109, 101, 46]⟩, .string ⟨#[116, 118, 46, 104, 111, 109, 101, 46]⟩, .string ⟨#[97, 46, 112, 99, 46, 104, 111, 109, 101, 46]⟩, .string ⟨#[99, 111, 109, 46]⟩, .string ⟨#[120, 46, 99, 111, 109, 46]⟩, .string ⟨#[119, 119, 119, 46, 120, 46, 99, 111, 109, 46]⟩, .string ⟨#[110, 115, 46, 99, 111, 109, 46]⟩, .string ⟨#[51, 46, 48, 46, 48, 46, 49, 48, 46, 105, 110, 45, 97, 100, 100, 114, 46, 97, 114, 112, 97, 46]⟩, .string ⟨#[115, 117, 98, 46, 104, 111, 109, 101, 46]⟩, .string ⟨#[121, 46, 115, 117, 98, 46, 104, 111, 109, 101, 46]⟩] 9) = W at *
 refine (UB HB).mono ?_
 rintro e w1 ⟨x, rfl, hx0, hx1, hc1, g1⟩
 obtain ⟨k, rfl⟩ := Int.eq_ofNat_of_zero_le hx0
 have hk : k < 12 := by omega
 have hk' : (k : Int) < 12 := by omega
 have K1 := UC (block_grown g1 (UB K0) (by simp; omega))
 obtain ⟨s, hs, cs⟩ := text_cell (block_grown g1 (UB R0) (by simp; omega)) hk
 have HS := UC hs
 have HO := UC (l2of_any s w1 (drawn_size s hs))
 have G1 := UC g1
 have C1 := UC hc1
 have z1 := g1.size
 have zk := VC (UB K1)
 clear hs HB K0 R0 g1 hc1
 go_wp2_with fail
 refine (UB HO).mono ?_
 rintro e w2 ⟨v2, rfl, o2, b2⟩
 obtain ⟨oa, oc, rfl, _⟩ := o2.hasL.form
 have k2 := UE b2 (UB K1)
 have c2 := US k2
 have f2 := VG k2 0
 generalize hR : (nameRead (numsOf s)).1 = R at *
 have K2 := UC (block_set k2 (.slice oa R.length oc))
 have O2 := UC o2
 have B2 := UC b2
 have HRR := UC hR
 clear o2 b2 k2 K1 HO hR
 go_wp2_with fail
 refine bodyPost_ret (results_cell_row rfl _ _ w.heap.size 25 #[.slice oa R.length oc] (0, 0) _ rfl (UB K2) Tryz.underlying25 rfl (by kernel_rfl)) rfl ?_
 have gA : w.grownBy w1 (some g) := ⟨(UB G1).os.trans (UB G0).os, (UB G1).tape.trans (UB G0).tape, (UB G1).output.trans (UB G0).output, by have := (UB G0).size; omega, fun i hi hn => ((UB G1).block i (by have := (UB G0).size; omega) hn).trans ((UB G0).block i hi hn)⟩
 have zw := (UB G0).size
 have g2 : w1.grownBy (w2.setCell ⟨w.heap.size, 0, none⟩ (.slice oa R.length oc)) (some w.heap.size) := ⟨(grown_setCell w2 _ _).os.trans (UB B2).os, (grown_setCell w2 _ _).tape.trans (UB B2).tape, (grown_setCell w2 _ _).output.trans (UB B2).output, Nat.le_trans (UB B2).size (grown_setCell w2 _ _).size, fun i hi hn => ((grown_setCell w2 ⟨w.heap.size, 0, none⟩ (.slice oa R.length oc)).block i (Nat.lt_of_lt_of_le hi (UB B2).size) (by simpa using hn)).trans ((UB B2).block i hi)⟩
 exact ⟨_, R, rfl, ⟨s, UB HS, (UB HRR).symm⟩, ((UB O2).kept (grown_setCell _ _ _) (by show w.heap.size < _; omega)).mono (by omega), (UB C1).later g2 (fun j e => by cases e; exact hg), grown_own gA g2 (fun j e => by cases e; exact Nat.le_refl _)⟩
set_option maxHeartbeats 800000
set_option maxRecDepth 100000

def typeOk (t : Int) : Bool := decide (t = 1 ∨ t = 2 ∨ t = 5 ∨ t = 6 ∨ t = 12 ∨ t = 16 ∨ t = 49)

def kindV (t : Int) : Value := if t = 1 then .iface 85 (.agg #[.int .i64 0]) else if t = 2 ∨ t = 5 ∨ t = 12 then .iface 87 (.agg #[.slice none 0 0]) else if t = 6 then .iface 89 (.agg #[.slice none 0 0, .slice none 0 0]) else if t = 16 ∨ t = 49 then .iface 91 (.agg #[.slice none 0 0]) else .nilIface

theorem type_cases (t : Int) : t = 1 ∨ t = 2 ∨ t = 5 ∨ t = 6 ∨ t = 12 ∨ t = 16 ∨ t = 49 ∨ typeOk t = false := by
 by_cases h : t = 1 ∨ t = 2 ∨ t = 5 ∨ t = 6 ∨ t = 12 ∨ t = 16 ∨ t = 49
 ·omega
 ·have : typeOk t = false := decide_eq_false h
  simp [this]
theorem type_other {t : Int} (h : typeOk t = false) : (t == 1) = false ∧ (t == 2) = false ∧ (t == 5) = false ∧ (t == 6) = false ∧ (t == 12) = false ∧ (t == 16) = false ∧ (t == 49) = false := by
 have h' : ¬ (t = 1 ∨ t = 2 ∨ t = 5 ∨ t = 6 ∨ t = 12 ∨ t = 16 ∨ t = 49) := of_decide_eq_false h
 simp only [beq_eq_false_iff_ne]
 omega
theorem kindV_other {t : Int} (h : typeOk t = false) : kindV t = .nilIface := by
 have h' : ¬ (t = 1 ∨ t = 2 ∨ t = 5 ∨ t = 6 ∨ t = 12 ∨ t = 16 ∨ t = 49) := of_decide_eq_false h
 unfold kindV
 rw [if_neg (by omega), if_neg (by omega), if_neg (by omega), if_neg (by omega)]

theorem kindOf_any (t : Int) (w : World) : Calls Tryz.prog 35 #[.int .i64 t] w fun e w' => e = .returned (kindV t) ∧ w = w' := by
 rcases type_cases t with rfl | rfl | rfl | rfl | rfl | rfl | rfl | h
 iterate 7
  ·go_enter Tryz.func35, Tryz.ntmps35
   go_wp2
   go_ret
   exact ⟨rfl, rfl⟩
 ·obtain ⟨h1, h2, h3, h4, h5, h6, h7⟩ := type_other h
  rw [kindV_other h]
  go_enter Tryz.func35, Tryz.ntmps35
  go_wp2
  go_ret
  exact ⟨rfl, rfl⟩

theorem specTypeOk_any (t : Int) (w : World) : Calls Tryz.prog 23 #[.int .i64 t] w fun e w' => e = .returned (.bool (typeOk t)) ∧ w = w' := by
 rcases type_cases t with rfl | rfl | rfl | rfl | rfl | rfl | rfl | h
 iterate 7
  ·go_enter Tryz.func23, Tryz.ntmps23
   go_wp2
   go_ret
   exact ⟨rfl, rfl⟩
 ·obtain ⟨h1, h2, h3, h4, h5, h6, h7⟩ := type_other h
  rw [h]
  go_enter Tryz.func23, Tryz.ntmps23
  go_wp2
  go_ret
  exact ⟨rfl, rfl⟩

theorem implTypeOk_any (t : Int) (w : World) : Calls Tryz.prog 15 #[.int .i64 t] w fun e w' => e = .returned (.bool (typeOk t)) ∧ w = w' := by
 have hk : (kindV t = .nilIface ∧ typeOk t = false) ∨ ∃ ty v, kindV t = .iface ty v ∧ typeOk t = true := by
  rcases type_cases t with rfl | rfl | rfl | rfl | rfl | rfl | rfl | h
  iterate 7 exact .inr ⟨_, _, rfl, rfl⟩
  exact .inl ⟨kindV_other h, h⟩
 go_enter Tryz.func15, Tryz.ntmps15
 go_wp2_with fail
 refine (kindOf_any t _).mono ?_
 rintro e w1 ⟨rfl, rfl⟩
 rcases hk with ⟨h1, h2⟩ | ⟨ty, v, h1, h2⟩
 ·rw [h1]
  go_wp2
  go_ret
  exact ⟨by rw [h2]; rfl, rfl⟩
 ·rw [h1]
  go_wp2
  go_ret
  exact ⟨by rw [h2]; rfl, rfl⟩
end Go.Proofs.YthmihglfffeedaaGreatDoor

namespace Go.Proofs.YthmihglfffeedaaGreatDoor
open Go.RowKit

def named (t : Int) : Bool := decide (t = 2 ∨ t = 5 ∨ t = 6 ∨ t = 12)
def texted (t : Int) : Bool := decide (t = 16 ∨ t = 49)

def dataOk (r : Rec) : Bool :=
 (if r.type = 1 then decide (0 ≤ r.addr ∧ r.addr ≤ 4294967295) else decide (r.addr = 0)) && ((if named r.type = true then nameOk r.to else decide (r.to.length = 0)) && ((if texted r.type = true then decide (r.text.length ≤ 40) else decide (r.text.length = 0)) &&
 (if r.type = 6 then decide (r.nums.length = 2 ∧ 0 ≤ r.nums.getD 0 0 ∧ r.nums.getD 0 0 ≤ 4294967295 ∧ 0 ≤ r.nums.getD 1 0 ∧ r.nums.getD 1 0 ≤ 100000) else decide (r.nums.length = 0))))
def rrOk (r : Rec) : Bool := nameOk r.name && (typeOk r.type && (decide (0 ≤ r.ttl ∧ r.ttl ≤ 100000) && dataOk r))

theorem HasI.two {w : World} {v : Value} {x y : Int} (h : HasI w v [x, y]) : ∃ g off cap, v = .slice (some ⟨g, off, none⟩) 2 cap ∧ g < w.heap.size ∧ w.cell? ⟨g, off, none⟩ = some (.int .i64 x) ∧ w.cell? ⟨g, off + 1, none⟩ = some (.int .i64 y) := by
 rcases h with ⟨_, h⟩ | ⟨g, off, cap, hv, hlt, _, _, hc⟩
 ·cases h
 ·exact ⟨g, off, cap, hv, hlt, hc 0 (by simp), hc 1 (by simp)⟩
theorem two_of {l : List Int} (h : l.length = 2) : ∃ x y, l = [x, y] := by
 match l, h with
 | [x, y], _ => exact ⟨x, y, rfl⟩
theorem nil_of {α : Type} {l : List α} (h : l.length = 0) : l = [] := List.eq_nil_of_length_eq_zero h
end Go.Proofs.YthmihglfffeedaaGreatDoor

namespace Go.Proofs.YthmihglfffeedaaGreatDoor
open Go.RowKit
set_option linter.unusedVariables false

def Byt (l : List Int) : Prop := ∀ c ∈ l, 0 ≤ c ∧ c ≤ 255
theorem Byt.app {l m : List Int} (h : Byt l) (h' : Byt m) : Byt (l ++ m) := fun c hc => by
 rcases List.mem_append.1 hc with q | q
 ·exact h c q
 ·exact h' c q
def u8s (l : List Int) : List UInt8 := l.map fun x => UInt8.ofNat x.toNat
theorem u8s_length (l : List Int) : (u8s l).length = l.length := by simp [u8s]
theorem byte_back {x : Int} (h : 0 ≤ x ∧ x ≤ 255) : (((UInt8.ofNat x.toNat).toNat : Nat) : Int) = x := by
 rw [UInt8.toNat_ofNat']
 omega
theorem u8s_get {l : List Int} (h : Byt l) {i : Nat} {y : UInt8} (hy : (u8s l)[i]? = some y) : (y.toNat : Int) = l.getD i 0 := by
 unfold u8s at hy
 rw [List.getElem?_map, Option.map_eq_some_iff] at hy
 obtain ⟨x, hx, rfl⟩ := hy
 rw [byte_back (h x (List.mem_of_getElem? hx)), List.getD_eq_getElem?_getD, hx]
 rfl
theorem Has.holds {w : World} {v : Value} {l : List Int} (h : Has w v l) (hb : Byt l) : Lib.HoldsBytes w v (u8s l) := by
 rcases h with ⟨rfl, rfl⟩ | ⟨g, off, cap, rfl, hg, hc, hm, hh⟩
 ·exact ⟨none, 0, rfl, fun _ => rfl, fun a ha => by cases ha⟩
 ·refine ⟨some ⟨g, off, none⟩, cap, by rw [u8s_length], fun q => (by cases q), fun a ha i x hx => ?_⟩
  cases ha
  have hi : i < l.length := by rw [← u8s_length l]; exact (List.getElem?_eq_some_iff.1 hx).1
  rw [u8s_get hb hx, Addr.add_lit]
  exact hh i hi
theorem u8s_join (a b c d : List Int) : Lib.join [u8s a, u8s b, u8s c, u8s d] [32] = u8s (a ++ [32] ++ b ++ [32] ++ c ++ [32] ++ d) := by
 simp [Lib.join, u8s, List.intercalate, List.intersperse]
theorem u8s_inj {a b : List Int} (ha : Byt a) (hb : Byt b) (h : u8s a = u8s b) : a = b := by
 have hl : a.length = b.length := by rw [← u8s_length a, ← u8s_length b, h]
 refine List.ext_getElem hl fun i h1 h2 => ?_
 have e1 : (u8s a)[i]? = some (UInt8.ofNat (a[i]).toNat) := by simp [u8s, h1]
 have e2 : (u8s b)[i]? = some (UInt8.ofNat (b[i]).toNat) := by simp [u8s, h2]
 have := u8s_get ha e1
 rw [h] at e1
 have h3 := u8s_get hb e1
 rw [this] at h3
 simpa [h1, h2, List.getD_eq_getElem?_getD] using h3
def FrB (B : Nat) (w : World) (v : Value) (l : List Int) : Prop :=
 ∃ g cap, v = .slice (some ⟨g, 0, none⟩) l.length cap ∧ B ≤ g ∧ l.length ≤ cap ∧ cap ≤ maxLen ∧ ∀ i, i < l.length → w.cell? ⟨g, i, none⟩ = some (.int .u8 (l.getD i 0)) ∧ w.frozen? ⟨g, i, none⟩ = false
theorem FrB.of {B : Nat} {w : World} {v : Value} {l : List Int} (hb : Byt l) (h : Lib.FreshBytes B w v (u8s l)) : FrB B w v l := by
 obtain ⟨g, cap, zs, rfl, hB, hc, hm, hz, hzb, hbo, hcell, hfr⟩ := h
 rw [u8s_length] at hc hbo
 refine ⟨g, cap, by rw [u8s_length], hB, hc, hm, fun i hi => ⟨?_, hfr i (by omega)⟩⟩
 rw [hcell i (by omega)]
 have e : zs.take l.length = l := u8s_inj (fun c hc => by have := hzb c (List.mem_of_mem_take hc); omega) hb hbo
 congr 2
 rw [← e]
 simp [List.getD_eq_getElem?_getD, hi]
theorem nameRead_alw (l : List Int) : nameOk (nameRead l).1 = true := by
 unfold nameRead
 split
 ·decide
 ·split
  ·assumption
  ·decide
theorem drawnQ_name {n : List (List Int)} (h : Drawn n) : nameOk n = true := by
 obtain ⟨s, _, rfl⟩ := h
 exact nameRead_alw _
def OwnF (B : Nat) (el eb : TypeId) (w : World) (v : Value) (n : List (List Int)) : Prop :=
 ∃ vs : List Value, w.ownsRow B el 1 v n.length vs ∧ ∀ i, i < n.length → ∃ x, vs[i]? = some x ∧ Has w x (n.getD i []) ∧ Typed eb w x ∧ ∀ g off len cap, x = .slice (some ⟨g, off, none⟩) len cap → B ≤ g
theorem OwnL.ownF {B : Nat} {el eb : TypeId} {w : World} {v : Value} {n : List (List Int)} (h : OwnL B el eb w v n) : OwnF B el eb w v n := by
 obtain ⟨vs, h1, h2, _⟩ := h
 refine ⟨vs, h1, fun i hi => ?_⟩
 obtain ⟨x, h3, h4⟩ := h2 i hi
 refine ⟨x, h3, h4.has, h4.typed, fun g off len cap e => ?_⟩
 subst e
 exact (h4.lt g rfl).1
theorem OwnF.mono {B B' : Nat} {el eb : TypeId} {w : World} {v : Value} {n : List (List Int)} (h : OwnF B el eb w v n) (hB : B' ≤ B) : OwnF B' el eb w v n := by
 obtain ⟨vs, h1, h2⟩ := h
 refine ⟨vs, ownsRow_mono h1 hB, fun i hi => ?_⟩
 obtain ⟨x, h3, h4, h5, h6⟩ := h2 i hi
 exact ⟨x, h3, h4, h5, fun g off len cap e => Nat.le_trans hB (h6 g off len cap e)⟩
theorem OwnF.below {B : Nat} {el eb : TypeId} {w w' : World} {v : Value} {n : List (List Int)} (h : OwnF B el eb w v n) (hb : Below w.heap.size w w') : OwnF B el eb w' v n := by
 obtain ⟨vs, h1, h2⟩ := h
 refine ⟨vs, ownsRow_kept' h1 hb, fun i hi => ?_⟩
 obtain ⟨x, h3, h4, h5, h6⟩ := h2 i hi
 exact ⟨x, h3, h4.below hb, h5.below hb, h6⟩
theorem OwnF.off {B q : Nat} {el eb t : TypeId} {w w' : World} {v : Value} {n : List (List Int)} {c : Array Value} (h : OwnF B el eb w v n) (hk : w.heap[q]? = some (.cells c t)) (h1 : t ≠ el) (h2 : t ≠ eb) (hg : w.grownBy w' (some q)) : OwnF B el eb w' v n := by
 obtain ⟨vs, h3, h4⟩ := h
 have hap := row_apart h3 hk h1
 refine ⟨vs, World.ownsRow.kept h3 hg (.inr hap), fun i hi => ?_⟩
 obtain ⟨x, h5, h6, h7, h8⟩ := h4 i hi
 have key : ∀ g off len cap, x = .slice (some ⟨g, off, none⟩) len cap → w'.heap[g]? = w.heap[g]? := fun g off len cap e => by
  obtain ⟨c', fr, e1⟩ := h7 g off len cap e
  refine hg.block g (VC e1) ?_
  intro e'
  have e2 : g = q := by simpa using e'
  subst e2
  rw [hk] at e1
  simp at e1
  exact h2 e1.2.1
 refine ⟨x, h5, ?_, fun g off len cap e => ?_, h8⟩
 ·rcases h6 with h | ⟨g, off, cap, e, e1, e2, e3, e4⟩
  ·exact .inl h
  ·refine .inr ⟨g, off, cap, e, Nat.lt_of_lt_of_le e1 hg.size, e2, e3, fun i hi => ?_⟩
   have hc := e4 i hi
   unfold World.cell? at hc ⊢
   rw [key g off _ cap e]
   exact hc
 ·obtain ⟨c', fr, e1⟩ := h7 g off len cap e
  exact ⟨c', fr, (key g off len cap e).trans e1⟩
theorem OwnF.cur {B g len cap : Nat} {a : Option Addr} {w w' : World} {v : Value} {n : List (List Int)} (h : OwnF B 22 5 w v n) (hc : Cur w g a len cap) (hg : w.grownBy w' (some g)) : OwnF B 22 5 w' v n := by
 obtain ⟨i, x, h1, _⟩ := hc
 exact h.off h1 (by decide) (by decide) hg
def DrawnQ (k : Nat) (r : Rec) : Prop := DrawnS k r ∧ Byt r.text ∧ (k = 2 → rrOk r = true)
def DrawnRQ (k : Nat) (w : World) (g : Nat) (a : Option Addr) (len cap : Nat) (e : Ending) (w' : World) : Prop :=
 ∃ vn vt vx vi r, e = .returned (.agg #[vn, .int .i64 r.type, .int .i64 r.ttl, .int .i64 r.addr, vt, vx, vi]) ∧ DrawnQ k r ∧ (∀ j, vi.ownBlock = some j → w.heap.size ≤ j) ∧ DrawR w' vn vt vx vi r ∧ (k = 2 → OwnF w.heap.size 22 5 w' vn r.name) ∧ Cur w' g a len cap ∧ w.grownBy w' (some g)
theorem byt_empty : Byt [] := fun x hx => by cases hx
theorem byt_rep (m : Nat) : Byt (List.replicate m 0) := fun x hx => by
 have := (List.mem_replicate.1 hx).2
 omega
theorem okR_A {n : List (List Int)} {l ad : Int} (hn : nameOk n = true) (hl : 0 ≤ l ∧ l ≤ 100000) (ha : 0 ≤ ad ∧ ad ≤ 4294967295) : rrOk ⟨n, 1, l, ad, [], [], []⟩ = true := by
 simp [rrOk, dataOk, named, texted, typeOk, hn, hl.1, hl.2, ha.1, ha.2]
theorem okR_S {n m : List (List Int)} {l x y : Int} (hn : nameOk n = true) (hl : 0 ≤ l ∧ l ≤ 100000) (hm : nameOk m = true) (hx : 0 ≤ x ∧ x < 9) (hy : 0 ≤ y ∧ y ≤ 100000) : rrOk ⟨n, 6, l, 0, m, [], [x, y]⟩ = true := by
 have h1 : x ≤ 4294967295 := by omega
 simp [rrOk, dataOk, named, texted, typeOk, hn, hl.1, hl.2, hm, hx.1, h1, hy.1, hy.2]
theorem okR_N {n m : List (List Int)} {l t : Int} (hn : nameOk n = true) (hl : 0 ≤ l ∧ l ≤ 100000) (hm : nameOk m = true) (h1 : t ≠ 1) (h6 : t ≠ 6) (hq : named t = true) : rrOk ⟨n, t, l, 0, m, [], []⟩ = true := by
 have ht : t = 2 ∨ t = 5 ∨ t = 6 ∨ t = 12 := of_decide_eq_true hq
 rcases ht with rfl | rfl | rfl | rfl
 ·simp [rrOk, dataOk, named, texted, typeOk, hn, hl.1, hl.2, hm]
 ·simp [rrOk, dataOk, named, texted, typeOk, hn, hl.1, hl.2, hm]
 ·exact absurd rfl h6
 ·simp [rrOk, dataOk, named, texted, typeOk, hn, hl.1, hl.2, hm]
theorem okR_X {n : List (List Int)} {l t : Int} {x : List Int} (hn : nameOk n = true) (hl : 0 ≤ l ∧ l ≤ 100000) (h1 : t ≠ 1) (hq : named t = false) (ht : typeOk t = true) (hx : x.length ≤ 40) : rrOk ⟨n, t, l, 0, [], x, []⟩ = true := by
 have h2 : t = 1 ∨ t = 2 ∨ t = 5 ∨ t = 6 ∨ t = 12 ∨ t = 16 ∨ t = 49 := of_decide_eq_true ht
 have h3 : ¬ (t = 2 ∨ t = 5 ∨ t = 6 ∨ t = 12) := of_decide_eq_false hq
 have h4 : t = 16 ∨ t = 49 := by omega
 rcases h4 with rfl | rfl <;> simp [rrOk, dataOk, named, texted, typeOk, hn, hl.1, hl.2, hx]
end Go.Proofs.YthmihglfffeedaaGreatDoor
