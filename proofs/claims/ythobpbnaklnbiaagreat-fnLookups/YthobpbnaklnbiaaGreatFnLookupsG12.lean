/-
  Plain facts: what Drop and DropSet answer, and how large a zone's book is. No program is named here. Plain facts: what Add answers, and how large the book behind it is. No program is named here. Plain facts: drawn zones and how they fare; records that may be, under another name. Contract of the specification's l1PickInt. Contracts of the specification's draws of chapter 1: l1Once, l1PickInt, l1some. Contract of the specification's l1some: a few drawn bytes. Contracts of the specification's l2draw: one of twelve names. Plain facts: lists of numbers as bytes, for the library's contract on bytes.Join. No program is named here. Plain facts: what is known of a drawn record: its text are bytes; if it isn't bent, it may be.
-/
import Derived.Test.YthobpbnaklnbiaaGreatFnLookupsG11
import Derived.Test.YthobpbnaklnbiaaGreatFnLookupsG07
import Derived.Test.YthobpbnaklnbiaaGreatFnLookupsG10
import Derived.Test.YthobpbnaklnbiaaGreatFnLookupsG08
import Derived.Test.YthobpbnaklnbiaaGreatFnLookupsG04
import Derived.Test.YthobpbnaklnbiaaGreatFnLookupsG03
import Derived.Test.YthobpbnaklnbiaaGreatFnLookupsG00
import Derived.Lib.SlParts
import Derived.Lib.SlFresh
import Derived.Lib.Join
import Derived.Test.YthobpbnaklnbiaaGreatFnLookupsG05
import Derived.Test.YthobpbnaklnbiaaGreatFnLookupsG01
namespace Go.Proofs.YthobpbnaklnbiaaGreat
open Go.RowKit
set_option linter.unusedVariables false

def SizeB (m : Nat) (B : Bk) : Prop := B.length ≤ m ∧ ∀ q ∈ B, q.2.length ≤ m
theorem putA_length {κ α : Type} [DecidableEq κ] {k : κ} {v : α} : ∀ {l : List (κ × α)}, (putA k v l).length ≤ l.length + 1
 | [] => by simp [putA]
 | (a, u) :: t => by
  unfold putA
  split
  ·simp
  ·have := putA_length (k := k) (v := v) (l := t)
   simp only [List.length_cons]
   omega
theorem delA_length {κ β : Type} [DecidableEq κ] {k : κ} : ∀ {l : List (κ × β)}, (delA k l).length ≤ l.length
 | [] => by simp [delA]
 | (a, u) :: t => by
  unfold delA
  split
  ·simp
  ·have := delA_length (k := k) (l := t)
   simp only [List.length_cons]
   omega
theorem SizeB.put {m : Nat} {B : Bk} (h : SizeB m B) (kn kd : ByteArray) (r : Rec) : SizeB (m + 1) (bkPut kn kd r B) := by
 unfold bkPut
 refine ⟨Nat.le_trans putA_length (by have := h.1; omega), fun q hq => ?_⟩
 rcases mem_putA hq with rfl | hq
 ·refine Nat.le_trans putA_length ?_
  have : ((lookA kn B).getD []).length ≤ m := by
   cases hl : lookA kn B with
   | none => simp
   | some P => exact h.2 _ (lookA_in hl)
  omega
 ·have := h.2 q hq
  omega
theorem SizeB.mono {m m' : Nat} {B : Bk} (h : SizeB m B) (hm : m ≤ m') : SizeB m' B := ⟨Nat.le_trans h.1 hm, fun q hq => Nat.le_trans (h.2 q hq) hm⟩
theorem SizeB.del {m : Nat} {B : Bk} (h : SizeB m B) (kn kd : ByteArray) : SizeB m (bkDel kn kd B) := by
 unfold bkDel
 refine ⟨by rw [List.length_map]; exact h.1, fun q hq => ?_⟩
 obtain ⟨x, hx, rfl⟩ := List.mem_map.1 hq
 split
 ·exact Nat.le_trans delA_length (h.2 x hx)
 ·exact h.2 x hx
theorem SizeB.drop {m : Nat} {B : Bk} (h : SizeB m B) (r : Rec) : SizeB m (bkDrop r B).1 := by
 unfold bkDrop
 split
 ·exact h.del _ _
 ·exact h
def addOf (o : List (List Int)) (rs : List Rec) (r : Rec) : (List (List Int) × List Rec) × Bool :=
 if zoneOk o rs = true ∧ rrOk r = true then (if zoneOk o (addL r rs false) = true then ((o, addL r rs false), true) else ((o, rs), false)) else (([], []), false)
theorem addL_length {r : Rec} : ∀ (rs : List Rec) (put : Bool), (addL r rs put).length ≤ 2 * rs.length + 1
 | [], put => by unfold addL; split <;> simp
 | x :: t, put => by
  have := addL_length (r := r) t (put || decide (cmpR r x ≤ 0))
  unfold addL
  simp only [List.length_append, List.length_cons]
  split <;> split <;> simp only [List.length_cons, List.length_nil] <;> omega
structure ZoneD (B : Nat) (w : World) (vo vr : Value) (o : List (List Int)) (rs : List Rec) : Prop where
 name : OwnT 0 22 5 w vo o
 recs : RowRd B w.heap.size w vr rs
abbrev tysZ : List TypeId := [39, 22, 5, 3]
section
variable {B : Nat} {w w' : World} {vo vr : Value} {o : List (List Int)} {rs : List Rec}
theorem ZoneD.hasZ (h : ZoneD B w vo vr o rs) : HasZ w vo vr o rs := ⟨h.name.hasL, h.recs.has⟩
theorem ZoneD.below (h : ZoneD B w vo vr o rs) (hb : Below w.heap.size w w') : ZoneD B w' vo vr o rs := ⟨h.name.below hb, (RowDr.below drawnRr h.recs hb).wide (Nat.le_refl _) hb.size⟩
theorem ZoneD.off (h : ZoneD B w vo vr o rs) {q : Nat} {t : TypeId} {cc : Array Value} (hk : w.heap[q]? = some (.cells cc t)) (ht : t ∉ tysZ) (hg : w.grownBy w' (some q)) : ZoneD B w' vo vr o rs := by
 simp only [List.mem_cons, List.not_mem_nil, or_false, not_or] at ht
 obtain ⟨h1, h2, h3, h4⟩ := ht
 exact ⟨h.name.off hk h2 h3 hg, (RowDr.off drawnRr h.recs hk (by simp only [List.mem_cons, List.not_mem_nil, or_false, not_or]; exact ⟨h2, h3, h4⟩) (.inl h1) hg).wide (Nat.le_refl _) hg.size⟩
theorem ZoneD.cur {g len cap : Nat} {a : Option Addr} (h : ZoneD B w vo vr o rs) (hc : Cur w g a len cap) (hg : w.grownBy w' (some g)) : ZoneD B w' vo vr o rs := by
 obtain ⟨i, x, h1, _⟩ := hc
 exact h.off h1 (by decide) hg
theorem OwnQ.drawR {vn vt vx vi : Value} {r : Rec} (h : OwnQ B 22 5 3 w vn vt vx vi r) : DrawR w vn vt vx vi r := ⟨h.name.ownT.mono (Nat.zero_le _), h.to.ownT.mono (Nat.zero_le _), ⟨h.text.has, h.text.typed⟩, h.nums.mono (Nat.zero_le _)⟩
theorem RowQ.draw (h : RowQ B 39 22 5 3 w vr rs) : RowRd B w.heap.size w vr rs := by
 obtain ⟨xs, ho, hx⟩ := h
 refine ⟨xs, ⟨ho.1, ?_⟩, fun q hq => (World.ownsRow.lt ho q hq).2, fun i hi => ?_⟩
 ·rcases ho.2 with hn | ⟨g, cap, cur, hv, hb, rest⟩
  ·exact .inl hn
  ·exact .inr ⟨g, cap, cur, hv, hb, rest⟩
 ·obtain ⟨vn, vt, vx, vi, h1, h2⟩ := hx i hi
  exact ⟨_, h1, vn, vt, vx, vi, rfl, h2.drawR⟩
theorem ZoneD.of {B' : Nat} (hB : B' ≤ B) (h1 : OwnL B 22 5 w vo o) (h2 : RowQ B 39 22 5 3 w vr rs) : ZoneD B' w vo vr o rs := ⟨h1.ownT.mono (Nat.zero_le _), RowDr.wide h2.draw hB (Nat.le_refl _)⟩
end
theorem rrOk_named2 {r : Rec} (h : rrOk r = true) {n : List (List Int)} (hn : nameOk n = true) : rrOk ⟨n, r.type, r.ttl, r.addr, r.to, r.text, r.nums⟩ = true := by
 unfold rrOk at h ⊢
 simp only [Bool.and_eq_true] at h ⊢
 exact ⟨hn, h.2.1, h.2.2.1, h.2.2.2⟩
theorem rrOk_to {r : Rec} (h : rrOk r = true) {n to : List (List Int)} (hn : nameOk n = true) (h1 : named r.type = true → nameOk to = true) (h2 : named r.type = false → to = []) : rrOk ⟨n, r.type, r.ttl, r.addr, to, r.text, r.nums⟩ = true := by
 unfold rrOk dataOk at h ⊢
 simp only [Bool.and_eq_true] at h ⊢
 refine ⟨hn, h.2.1, h.2.2.1, h.2.2.2.1, ?_, h.2.2.2.2.2.1, h.2.2.2.2.2.2⟩
 cases hnm : named r.type with
 | true => simpa using h1 hnm
 | false => rw [h2 hnm]; simp
abbrev homeN : List (List Int) := [[104, 111, 109, 101]]
theorem add_keeps {o : List (List Int)} {rs : List Rec} {r : Rec} (hz : zoneOk o rs = true) (hr : rrOk r = true) : (addOf o rs r).1.1 = o ∧ zoneOk o (addOf o rs r).1.2 = true := by
 unfold addOf
 rw [if_pos ⟨hz, hr⟩]
 by_cases h : zoneOk o (addL r rs false) = true
 ·rw [if_pos h]; exact ⟨rfl, h⟩
 ·rw [if_neg h]; exact ⟨rfl, hz⟩
theorem zone_some {o : List (List Int)} {rs : List Rec} (h : zoneOk o rs = true) : 0 < rs.length := by
 have h1 := (of_decide_eq_true h).2.2.2
 have := soas_le rs rs.length
 omega
theorem zone_names {o : List (List Int)} {rs : List Rec} (h : zoneOk o rs = true) : ∀ k, k < rs.length → (rs.getD k recZ).name.length ≤ 1048576 := fun k hk => by
 have := ((zone_short h).2.1 k hk).1.1
 omega
theorem home_new {z : Int} (h : z = 1 ∨ z = 7 ∨ z = 4294967295) : zoneNewOf homeN z = ((homeN, [soaOf homeN z]), true) ∧ zoneOk homeN [soaOf homeN z] = true := by
 have key : zoneOk homeN [soaOf homeN z] = true := by rcases h with rfl | rfl | rfl <;> decide +kernel
 exact ⟨by unfold zoneNewOf; rw [if_pos key], key⟩
set_option maxHeartbeats 400000 in
set_option maxRecDepth 100000 in
theorem l1PickInt_any {g : Nat} {a : Option Addr} {len cap : Nat} {w : World} (gl n : Nat) (hc : Cur w g a len cap) (hL : Code w g a len) (hm : len ≤ maxLen) (hn0 : 1 ≤ n) (hn1 : n ≤ 1048576) (hlt : gl < w.heap.size) (hgl : g < gl)
  (hcell : ∀ j, j < n → ∃ z, w.cell? ⟨gl, j, none⟩ = some (.int .i64 z)) :
  Calls Tryz.prog 83 #[.pointer (some ⟨g, 0, none⟩), .slice (some ⟨gl, 0, none⟩) n n] w fun e w' => ∃ z, e = .returned (.int .i64 z) ∧ Cur w' g a len cap ∧ w.grownBy w' (some g) := by
 have HM := UC hm
 clear hm
 have HC := UC hcell
 clear hcell
 go_enter Tryz.func83, Tryz.ntmps83
 go_wp2_with fail
 refine (l1Below_any n hc hL (UB HM) (by omega) (by omega)).mono ?_
 rintro e w1 ⟨x, rfl, hx0, hx1, hc1, g1⟩
 obtain ⟨j, rfl⟩ := Int.eq_ofNat_of_zero_le hx0
 obtain ⟨z, hz⟩ := (UB HC) j (by omega)
 have hz1 : w1.cell? ⟨gl, j, none⟩ = some (.int .i64 z) := by
  rw [World.cell?_of_block (w := w) (g1.block gl hlt (by simp; omega))]; exact hz
 clear hz
 go_wp2
 go_ret
 exact ⟨z, rfl, hc1, g1⟩

theorem below_cursor {w w1 w2 : World} {row : Option Nat} (hb : Below w.heap.size w w1) (hg : w1.grownBy w2 row) (hr : ∀ j, row = some j → w.heap.size ≤ j) : Below w.heap.size w w2 := hb.grown hg hb.size hr
set_option maxHeartbeats 400000 in
set_option maxRecDepth 100000 in
theorem l1Once_any {g : Nat} {a : Option Addr} {len cap : Nat} {w : World} (n : Int) (hc : Cur w g a len cap) (hL : Code w g a len) (hm : len ≤ maxLen) (hn0 : 1 ≤ n) (hn1 : n ≤ 1099511627776) :
  Calls Tryz.prog 49 #[.pointer (some ⟨g, 0, none⟩), .int .i64 n] w fun e w' => ∃ x : Bool, e = .returned (.bool x) ∧ Cur w' g a len cap ∧ w.grownBy w' (some g) := by
 have HM := UC hm
 clear hm
 go_enter Tryz.func49, Tryz.ntmps49
 go_wp2_with fail
 refine (l1Below_any n hc hL (UB HM) hn0 hn1).mono ?_
 rintro e w1 ⟨x, rfl, hx0, hx1, hc1, g1⟩
 go_wp2
 go_ret
 exact ⟨_, rfl, hc1, g1⟩
set_option maxHeartbeats 1000000 in
set_option maxRecDepth 100000 in
theorem l1some_any {g : Nat} {a : Option Addr} {len cap : Nat} {w : World} (most : Int) (hc : Cur w g a len cap) (hL : Code w g a len) (hm : len ≤ maxLen) (hn0 : 1 ≤ most) (hn1 : most ≤ 1048576) :
  Calls Tryz.prog 119 #[.pointer (some ⟨g, 0, none⟩), .int .i64 most] w fun e w' => ∃ v l, e = .returned v ∧ Own w.heap.size 5 w' v l ∧ (l.length : Int) < most ∧ (∀ x ∈ l, 0 ≤ x ∧ x ≤ 255) ∧ Cur w' g a len cap ∧ w.grownBy w' (some g) := by
 have HM := UC hm
 clear hm
 have hgw := hc.lt
 go_enter Tryz.func119, Tryz.ntmps119
 go_wp2_with fail
 refine (l1Below_any most hc hL (UB HM) hn0 (by omega)).mono ?_
 rintro e w1 ⟨x, rfl, hx0, hx1, hc1, g1⟩
 have hL1 := hL.grown g1
 have HC1 := UC hc1
 clear hc1 hc hL
 obtain ⟨n, rfl⟩ := Int.eq_ofNat_of_zero_le hx0
 go_wp2
 go_loopw [5, 7] (fun b i wr => ∃ (k : Nat) (l : List Int), k ≤ n ∧ i = .int .i64 k ∧ l.length = k ∧ (∀ x ∈ l, 0 ≤ x ∧ x ≤ 255) ∧ Own w.heap.size 5 wr b l ∧ Hid (Cur wr g a len cap) ∧ Code wr g a len ∧ w.grownBy wr (some g)) (fun _ i _ => n - (intOf i).toNat)
 case atStart => exact ⟨0, [], Nat.zero_le _, rfl, rfl, by simp, World.ownsRow_nil _ _ _ _, HC1, hL1, g1⟩
 case round =>
  obtain ⟨k, l, hk, rfl, hlk, hlb, ho, hcr, hLr, gr⟩ := hrel
  have HLK := UC hlk
  clear hlk
  have HLB := UC hlb
  clear hlb
  have hsz := gr.size
  by_cases hlt : k < n
  ·go_wp2_with fail
   refine (l1Byte_any (UB hcr) hLr (UB HM)).mono ?_
   rintro e w2 ⟨y, rfl, hy0, hy1, hc2, g2⟩
   have hL2 := hLr.grown g2
   have o2 : Own w.heap.size 5 w2 u5 l := ho.kept g2 (by
    cases hv : u5.ownBlock with
    | none => exact .inl rfl
    | some j => right; intro e; have := (ho.lt j hv).1; simp at e; omega)
   have gr2 := grown_trans gr g2
   have z2 := gr2.size
   have HC2 := UC hc2
   clear hc2 g2 hLr ho gr
   go_wp2_with (at_builtin; refine append_bytes rfl _ _ 22 5 rfl Tryz.underlying22 VJ w.heap.size u5 _ l [y] rfl rfl (o2.alloc _) (own_lit w2 0 5 [y] (Nat.zero_le _) (by simp [maxLen])).reads (by rw [UB HLK]; simp; omega) (by simp; omega) ?_)
   intro v3 w3 o3 g3
   have hrow : ∀ j, u5.ownBlock = some j → w.heap.size ≤ j := fun j e => (o2.lt j e).1
   have g23 := grown_alloc w2 (.cells #[.int .u8 y] 5) none
   have c3 := UC (((UB HC2).later g23 (by simp)).later g3 (fun j e => by have := hrow j e; omega))
   have l3 := (hL2.later g23 (by simp)).later g3 (fun j e => by have := hrow j e; omega)
   have gr3 := grown_own (grown_own gr2 g23 (by simp)) g3 hrow
   clear g3 g23
   go_wp2
   refine ⟨⟨k + 1, l ++ [y], by omega, by go_num, by rw [List.length_append, UB HLK]; rfl, ?_, o3, c3, l3, gr3⟩, by simp [intOf]; omega⟩
   intro x hx
   simp at hx
   rcases hx with hx | rfl
   ·exact UB HLB x hx
   ·exact ⟨hy0, hy1⟩
  ·go_wp2
   go_ret
   exact ⟨_, l, rfl, ho, by rw [UB HLK]; omega, UB HLB, UB hcr, gr⟩
def drawnTexts : List ByteArray := [⟨#[46]⟩, ⟨#[104, 111, 109, 101, 46]⟩, ⟨#[112, 99, 46, 104, 111, 109, 101, 46]⟩, ⟨#[116, 118, 46, 104, 111, 109, 101, 46]⟩, ⟨#[97, 46, 112, 99, 46, 104, 111, 109, 101, 46]⟩, ⟨#[99, 111, 109, 46]⟩, ⟨#[120, 46, 99, 111, 109, 46]⟩, ⟨#[119, 119, 119, 46, 120, 46, 99, 111, 109, 46]⟩, ⟨#[110, 115, 46, 99, 111, 109, 46]⟩, ⟨#[51, 46, 48, 46, 48, 46, 49, 48, 46, 105, 110, 45, 97, 100, 100, 114, 46, 97, 114, 112, 97, 46]⟩, ⟨#[115, 117, 98, 46, 104, 111, 109, 101, 46]⟩, ⟨#[121, 46, 115, 117, 98, 46, 104, 111, 109, 101, 46]⟩]
theorem drawn_size : ∀ s ∈ drawnTexts, s.size ≤ 1048576 := by decide +kernel
def Drawn (n : List (List Int)) : Prop := ∃ s ∈ drawnTexts, n = (nameRead (numsOf s)).1
theorem text_cell {w : World} {b : Nat} {t : TypeId} (h : w.heap[b]? = some (.cells #[.string ⟨#[46]⟩, .string ⟨#[104, 111, 109, 101, 46]⟩, .string ⟨#[112, 99, 46, 104, 111, 109, 101, 46]⟩, .string ⟨#[116, 118, 46, 104, 111, 109, 101, 46]⟩, .string ⟨#[97, 46, 112, 99, 46, 104, 111, 109, 101, 46]⟩, .string ⟨#[99, 111, 109, 46]⟩, .string ⟨#[120, 46, 99, 111, 109, 46]⟩, .string ⟨#[119, 119, 119, 46, 120, 46, 99, 111, 109, 46]⟩, .string ⟨#[110, 115, 46, 99, 111, 109, 46]⟩, .string ⟨#[51, 46, 48, 46, 48, 46, 49, 48, 46, 105, 110, 45, 97, 100, 100, 114, 46, 97, 114, 112, 97, 46]⟩, .string ⟨#[115, 117, 98, 46, 104, 111, 109, 101, 46]⟩, .string ⟨#[121, 46, 115, 117, 98, 46, 104, 111, 109, 101, 46]⟩] t)) {k : Nat} (hk : k < 12) : ∃ s ∈ drawnTexts, w.cell? ⟨b, k, none⟩ = some (.string s) := by
 have hc := VE h k
 match k, hk with
 | 0, _ => exact ⟨⟨#[46]⟩, by simp [drawnTexts], hc⟩
 | 1, _ => exact ⟨⟨#[104, 111, 109, 101, 46]⟩, by simp [drawnTexts], hc⟩
 | 2, _ => exact ⟨⟨#[112, 99, 46, 104, 111, 109, 101, 46]⟩, by simp [drawnTexts], hc⟩
 | 3, _ => exact ⟨⟨#[116, 118, 46, 104, 111, 109, 101, 46]⟩, by simp [drawnTexts], hc⟩
 | 4, _ => exact ⟨⟨#[97, 46, 112, 99, 46, 104, 111, 109, 101, 46]⟩, by simp [drawnTexts], hc⟩
 | 5, _ => exact ⟨⟨#[99, 111, 109, 46]⟩, by simp [drawnTexts], hc⟩
 | 6, _ => exact ⟨⟨#[120, 46, 99, 111, 109, 46]⟩, by simp [drawnTexts], hc⟩
 | 7, _ => exact ⟨⟨#[119, 119, 119, 46, 120, 46, 99, 111, 109, 46]⟩, by simp [drawnTexts], hc⟩
 | 8, _ => exact ⟨⟨#[110, 115, 46, 99, 111, 109, 46]⟩, by simp [drawnTexts], hc⟩
 | 9, _ => exact ⟨⟨#[51, 46, 48, 46, 48, 46, 49, 48, 46, 105, 110, 45, 97, 100, 100, 114, 46, 97, 114, 112, 97, 46]⟩, by simp [drawnTexts], hc⟩
 | 10, _ => exact ⟨⟨#[115, 117, 98, 46, 104, 111, 109, 101, 46]⟩, by simp [drawnTexts], hc⟩
 | 11, _ => exact ⟨⟨#[121, 46, 115, 117, 98, 46, 104, 111, 109, 101, 46]⟩, by simp [drawnTexts], hc⟩

set_option maxHeartbeats 2000000 in
set_option maxRecDepth 100000 in
theorem l2draw_any {g : Nat} {a : Option Addr} {len cap : Nat} {w : World} (hc : Cur w g a len cap) (hL : Code w g a len) (hm : len ≤ maxLen) :
  Calls Tryz.prog 82 #[.pointer (some ⟨g, 0, none⟩)] w fun e w' => ∃ v' n, e = .returned (.agg #[v']) ∧ Drawn n ∧ OwnL w.heap.size 22 5 w' v' n ∧ Cur w' g a len cap ∧ w.grownBy w' (some g) := by
 have hg := hc.lt
 obtain ⟨hsz, k0, r0⟩ := box2 w (.cells #[.slice none 0 0] 25) #[.string ⟨#[46]⟩, .string ⟨#[104, 111, 109, 101, 46]⟩, .string ⟨#[112, 99, 46, 104, 111, 109, 101, 46]⟩, .string ⟨#[116, 118, 46, 104, 111, 109, 101, 46]⟩, .string ⟨#[97, 46, 112, 99, 46, 104, 111, 109, 101, 46]⟩, .string ⟨#[99, 111, 109, 46]⟩, .string ⟨#[120, 46, 99, 111, 109, 46]⟩, .string ⟨#[119, 119, 119, 46, 120, 46, 99, 111, 109, 46]⟩, .string ⟨#[110, 115, 46, 99, 111, 109, 46]⟩, .string ⟨#[51, 46, 48, 46, 48, 46, 49, 48, 46, 105, 110, 45, 97, 100, 100, 114, 46, 97, 114, 112, 97, 46]⟩, .string ⟨#[115, 117, 98, 46, 104, 111, 109, 101, 46]⟩, .string ⟨#[121, 46, 115, 117, 98, 46, 104, 111, 109, 101, 46]⟩] 9
 have g0 : w.grownBy ((w.alloc (.cells #[.slice none 0 0] 25)).alloc (.cells #[.string ⟨#[46]⟩, .string ⟨#[104, 111, 109, 101, 46]⟩, .string ⟨#[112, 99, 46, 104, 111, 109, 101, 46]⟩, .string ⟨#[116, 118, 46, 104, 111, 109, 101, 46]⟩, .string ⟨#[97, 46, 112, 99, 46, 104, 111, 109, 101, 46]⟩, .string ⟨#[99, 111, 109, 46]⟩, .string ⟨#[120, 46, 99, 111, 109, 46]⟩, .string ⟨#[119, 119, 119, 46, 120, 46, 99, 111, 109, 46]⟩, .string ⟨#[110, 115, 46, 99, 111, 109, 46]⟩, .string ⟨#[51, 46, 48, 46, 48, 46, 49, 48, 46, 105, 110, 45, 97, 100, 100, 114, 46, 97, 114, 112, 97, 46]⟩, .string ⟨#[115, 117, 98, 46, 104, 111, 109, 101, 46]⟩, .string ⟨#[121, 46, 115, 117, 98, 46, 104, 111, 109, 101, 46]⟩] 9)) (some g) := grown_own (grown_own (row := some g) ⟨rfl, rfl, rfl, Nat.le_refl _, fun _ _ _ => rfl⟩ (grown_alloc w (.cells #[.slice none 0 0] 25) none) (fun j e => by cases e)) (grown_alloc _ _ none) (fun j e => by cases e)
 have hc0 := hc.later (grown_own (grown_own (row := none) ⟨rfl, rfl, rfl, Nat.le_refl _, fun _ _ _ => rfl⟩ (grown_alloc w (.cells #[.slice none 0 0] 25) none) (fun j e => by cases e)) (grown_alloc _ (.cells #[.string ⟨#[46]⟩, .string ⟨#[104, 111, 109, 101, 46]⟩, .string ⟨#[112, 99, 46, 104, 111, 109, 101, 46]⟩, .string ⟨#[116, 118, 46, 104, 111, 109, 101, 46]⟩, .string ⟨#[97, 46, 112, 99, 46, 104, 111, 109, 101, 46]⟩, .string ⟨#[99, 111, 109, 46]⟩, .string ⟨#[120, 46, 99, 111, 109, 46]⟩, .string ⟨#[119, 119, 119, 46, 120, 46, 99, 111, 109, 46]⟩, .string ⟨#[110, 115, 46, 99, 111, 109, 46]⟩, .string ⟨#[51, 46, 48, 46, 48, 46, 49, 48, 46, 105, 110, 45, 97, 100, 100, 114, 46, 97, 114, 112, 97, 46]⟩, .string ⟨#[115, 117, 98, 46, 104, 111, 109, 101, 46]⟩, .string ⟨#[121, 46, 115, 117, 98, 46, 104, 111, 109, 101, 46]⟩] 9) none) (fun j e => by cases e)) (fun j e => by cases e)
 have hL0 := hL.later g0 (fun j e => by cases e; exact Nat.le_refl _)
 have HB := UC (l1Below_any 12 hc0 hL0 hm (by omega) (by omega))
 have K0 := UC k0
 have R0 := UC r0
 have G0 := UC g0
 clear hc hL k0 r0 g0 hc0 hL0
 go_enter Tryz.func82, Tryz.ntmps82
 go_wp2_with fail
 generalize (w.alloc (.cells #[.slice none 0 0] 25)).alloc (.cells #[.string ⟨#[46]⟩, .string ⟨#[104, 111, 109, 101, 46]⟩, .string ⟨#[112, 99, 46, 104, 111, 109, 101, 46]⟩, .string ⟨#[116, 118, 46, 104, 111, 109, 101, 46]⟩, .string ⟨#[97, 46, 112, 99, 46, 104, 111, 109, 101, 46]⟩, .string ⟨#[99, 111, 109, 46]⟩, .string ⟨#[120, 46, 99, 111, 109, 46]⟩, .string ⟨#[119, 119, 119, 46, 120, 46, 99, 111, 109, 46]⟩, .string ⟨#[110, 115, 46, 99, 111, 109, 46]⟩, .string ⟨#[51, 46, 48, 46, 48, 46, 49, 48, 46, 105, 110, 45, 97, 100, 100, 114, 46, 97, 114, 112, 97, 46]⟩, .string ⟨#[115, 117, 98, 46, 104, 111, 109, 101, 46]⟩, .string ⟨#[121, 46, 115, 117, 98, 46, 104, 111, 109, 101, 46]⟩] 9) = W at *
 refine (UB HB).mono ?_
 rintro e w1 ⟨x, rfl, hx0, hx1, hc1, g1⟩
 obtain ⟨k, rfl⟩ := Int.eq_ofNat_of_zero_le hx0
 have hk : k < 12 := by omega
 have hk' : (k : Int) < 12 := by omega
 have K1 := UC (block_grown g1 (UB K0) (by simp; omega))
 obtain ⟨s, hs, cs⟩ := text_cell (block_grown g1 (UB R0) (by simp; omega)) hk
 have HS := UC hs
 have HO := UC (l2of_any s w1 (drawn_size s hs))
 have G1 := UC g1
 have C1 := UC hc1
 have z1 := g1.size
 have zk := VC (UB K1)
 clear hs HB K0 R0 g1 hc1
 go_wp2_with fail
 refine (UB HO).mono ?_
 rintro e w2 ⟨v2, rfl, o2, b2⟩
 obtain ⟨oa, oc, rfl, _⟩ := o2.hasL.form
 have k2 := UE b2 (UB K1)
 have c2 := US k2
 have f2 := VG k2 0
 generalize hR : (nameRead (numsOf s)).1 = R at *
 have K2 := UC (block_set k2 (.slice oa R.length oc))
 have O2 := UC o2
 have B2 := UC b2
 have HRR := UC hR
 clear o2 b2 k2 K1 HO hR
 go_wp2_with fail
 refine bodyPost_ret (results_cell_row rfl _ _ w.heap.size 25 #[.slice oa R.length oc] (0, 0) _ rfl (UB K2) Tryz.underlying25 rfl (by kernel_rfl)) rfl ?_
 have gA : w.grownBy w1 (some g) := ⟨(UB G1).os.trans (UB G0).os, (UB G1).tape.trans (UB G0).tape, (UB G1).output.trans (UB G0).output, by have := (UB G0).size; omega, fun i hi hn => ((UB G1).block i (by have := (UB G0).size; omega) hn).trans ((UB G0).block i hi hn)⟩
 have zw := (UB G0).size
 have g2 : w1.grownBy (w2.setCell ⟨w.heap.size, 0, none⟩ (.slice oa R.length oc)) (some w.heap.size) := ⟨(grown_setCell w2 _ _).os.trans (UB B2).os, (grown_setCell w2 _ _).tape.trans (UB B2).tape, (grown_setCell w2 _ _).output.trans (UB B2).output, Nat.le_trans (UB B2).size (grown_setCell w2 _ _).size, fun i hi hn => ((grown_setCell w2 ⟨w.heap.size, 0, none⟩ (.slice oa R.length oc)).block i (Nat.lt_of_lt_of_le hi (UB B2).size) (by simpa using hn)).trans ((UB B2).block i hi)⟩
 exact ⟨_, R, rfl, ⟨s, UB HS, (UB HRR).symm⟩, ((UB O2).kept (grown_setCell _ _ _) (by show w.heap.size < _; omega)).mono (by omega), (UB C1).later g2 (fun j e => by cases e; exact hg), grown_own gA g2 (fun j e => by cases e; exact Nat.le_refl _)⟩
def Byt (l : List Int) : Prop := ∀ c ∈ l, 0 ≤ c ∧ c ≤ 255
def u8s (l : List Int) : List UInt8 := l.map fun x => UInt8.ofNat x.toNat
theorem u8s_length (l : List Int) : (u8s l).length = l.length := by simp [u8s]
theorem byte_back {x : Int} (h : 0 ≤ x ∧ x ≤ 255) : (((UInt8.ofNat x.toNat).toNat : Nat) : Int) = x := by
 rw [UInt8.toNat_ofNat']
 omega
theorem u8s_get {l : List Int} (h : Byt l) {i : Nat} {y : UInt8} (hy : (u8s l)[i]? = some y) : (y.toNat : Int) = l.getD i 0 := by
 unfold u8s at hy
 rw [List.getElem?_map, Option.map_eq_some_iff] at hy
 obtain ⟨x, hx, rfl⟩ := hy
 rw [byte_back (h x (List.mem_of_getElem? hx)), List.getD_eq_getElem?_getD, hx]
 rfl
theorem Has.holds {w : World} {v : Value} {l : List Int} (h : Has w v l) (hb : Byt l) : Lib.HoldsBytes w v (u8s l) := by
 rcases h with ⟨rfl, rfl⟩ | ⟨g, off, cap, rfl, hg, hc, hm, hh⟩
 ·exact ⟨none, 0, rfl, fun _ => rfl, fun a ha => by cases ha⟩
 ·refine ⟨some ⟨g, off, none⟩, cap, by rw [u8s_length], fun q => (by cases q), fun a ha i x hx => ?_⟩
  cases ha
  have hi : i < l.length := by rw [← u8s_length l]; exact (List.getElem?_eq_some_iff.1 hx).1
  rw [u8s_get hb hx, Addr.add_lit]
  exact hh i hi
theorem u8s_inj {a b : List Int} (ha : Byt a) (hb : Byt b) (h : u8s a = u8s b) : a = b := by
 have hl : a.length = b.length := by rw [← u8s_length a, ← u8s_length b, h]
 refine List.ext_getElem hl fun i h1 h2 => ?_
 have e1 : (u8s a)[i]? = some (UInt8.ofNat (a[i]).toNat) := by simp [u8s, h1]
 have e2 : (u8s b)[i]? = some (UInt8.ofNat (b[i]).toNat) := by simp [u8s, h2]
 have := u8s_get ha e1
 rw [h] at e1
 have h3 := u8s_get hb e1
 rw [this] at h3
 simpa [h1, h2, List.getD_eq_getElem?_getD] using h3
def FrB (B : Nat) (w : World) (v : Value) (l : List Int) : Prop :=
 ∃ g cap, v = .slice (some ⟨g, 0, none⟩) l.length cap ∧ B ≤ g ∧ l.length ≤ cap ∧ cap ≤ maxLen ∧ ∀ i, i < l.length → w.cell? ⟨g, i, none⟩ = some (.int .u8 (l.getD i 0)) ∧ w.frozen? ⟨g, i, none⟩ = false
theorem FrB.of {B : Nat} {w : World} {v : Value} {l : List Int} (hb : Byt l) (h : Lib.FreshBytes B w v (u8s l)) : FrB B w v l := by
 obtain ⟨g, cap, zs, rfl, hB, hc, hm, hz, hzb, hbo, hcell, hfr⟩ := h
 rw [u8s_length] at hc hbo
 refine ⟨g, cap, by rw [u8s_length], hB, hc, hm, fun i hi => ⟨?_, hfr i (by omega)⟩⟩
 rw [hcell i (by omega)]
 have e : zs.take l.length = l := u8s_inj (fun c hc => by have := hzb c (List.mem_of_mem_take hc); omega) hb hbo
 congr 2
 rw [← e]
 simp [List.getD_eq_getElem?_getD, hi]
theorem nameRead_alw (l : List Int) : nameOk (nameRead l).1 = true := by
 unfold nameRead
 split
 ·decide
 ·split
  ·assumption
  ·decide
theorem drawnQ_name {n : List (List Int)} (h : Drawn n) : nameOk n = true := by
 obtain ⟨s, _, rfl⟩ := h
 exact nameRead_alw _
def OwnF (B : Nat) (el eb : TypeId) (w : World) (v : Value) (n : List (List Int)) : Prop :=
 ∃ vs : List Value, w.ownsRow B el 1 v n.length vs ∧ ∀ i, i < n.length → ∃ x, vs[i]? = some x ∧ Has w x (n.getD i []) ∧ Typed eb w x ∧ ∀ g off len cap, x = .slice (some ⟨g, off, none⟩) len cap → B ≤ g
theorem OwnL.ownF {B : Nat} {el eb : TypeId} {w : World} {v : Value} {n : List (List Int)} (h : OwnL B el eb w v n) : OwnF B el eb w v n := by
 obtain ⟨vs, h1, h2, _⟩ := h
 refine ⟨vs, h1, fun i hi => ?_⟩
 obtain ⟨x, h3, h4⟩ := h2 i hi
 refine ⟨x, h3, h4.has, h4.typed, fun g off len cap e => ?_⟩
 subst e
 exact (h4.lt g rfl).1
theorem OwnF.mono {B B' : Nat} {el eb : TypeId} {w : World} {v : Value} {n : List (List Int)} (h : OwnF B el eb w v n) (hB : B' ≤ B) : OwnF B' el eb w v n := by
 obtain ⟨vs, h1, h2⟩ := h
 refine ⟨vs, ownsRow_mono h1 hB, fun i hi => ?_⟩
 obtain ⟨x, h3, h4, h5, h6⟩ := h2 i hi
 exact ⟨x, h3, h4, h5, fun g off len cap e => Nat.le_trans hB (h6 g off len cap e)⟩
theorem OwnF.below {B : Nat} {el eb : TypeId} {w w' : World} {v : Value} {n : List (List Int)} (h : OwnF B el eb w v n) (hb : Below w.heap.size w w') : OwnF B el eb w' v n := by
 obtain ⟨vs, h1, h2⟩ := h
 refine ⟨vs, ownsRow_kept' h1 hb, fun i hi => ?_⟩
 obtain ⟨x, h3, h4, h5, h6⟩ := h2 i hi
 exact ⟨x, h3, h4.below hb, h5.below hb, h6⟩
theorem OwnF.off {B q : Nat} {el eb t : TypeId} {w w' : World} {v : Value} {n : List (List Int)} {c : Array Value} (h : OwnF B el eb w v n) (hk : w.heap[q]? = some (.cells c t)) (h1 : t ≠ el) (h2 : t ≠ eb) (hg : w.grownBy w' (some q)) : OwnF B el eb w' v n := by
 obtain ⟨vs, h3, h4⟩ := h
 have hap := row_apart h3 hk h1
 refine ⟨vs, World.ownsRow.kept h3 hg (.inr hap), fun i hi => ?_⟩
 obtain ⟨x, h5, h6, h7, h8⟩ := h4 i hi
 have key : ∀ g off len cap, x = .slice (some ⟨g, off, none⟩) len cap → w'.heap[g]? = w.heap[g]? := fun g off len cap e => by
  obtain ⟨c', fr, e1⟩ := h7 g off len cap e
  refine hg.block g (VC e1) ?_
  intro e'
  have e2 : g = q := by simpa using e'
  subst e2
  rw [hk] at e1
  simp at e1
  exact h2 e1.2.1
 refine ⟨x, h5, ?_, fun g off len cap e => ?_, h8⟩
 ·rcases h6 with h | ⟨g, off, cap, e, e1, e2, e3, e4⟩
  ·exact .inl h
  ·refine .inr ⟨g, off, cap, e, Nat.lt_of_lt_of_le e1 hg.size, e2, e3, fun i hi => ?_⟩
   have hc := e4 i hi
   unfold World.cell? at hc ⊢
   rw [key g off _ cap e]
   exact hc
 ·obtain ⟨c', fr, e1⟩ := h7 g off len cap e
  exact ⟨c', fr, (key g off len cap e).trans e1⟩
theorem OwnF.cur {B g len cap : Nat} {a : Option Addr} {w w' : World} {v : Value} {n : List (List Int)} (h : OwnF B 22 5 w v n) (hc : Cur w g a len cap) (hg : w.grownBy w' (some g)) : OwnF B 22 5 w' v n := by
 obtain ⟨i, x, h1, _⟩ := hc
 exact h.off h1 (by decide) (by decide) hg
def DrawnQ (k : Nat) (r : Rec) : Prop := DrawnS k r ∧ Byt r.text ∧ (k = 2 → rrOk r = true)
def DrawnRQ (k : Nat) (w : World) (g : Nat) (a : Option Addr) (len cap : Nat) (e : Ending) (w' : World) : Prop :=
 ∃ vn vt vx vi r, e = .returned (.agg #[vn, .int .i64 r.type, .int .i64 r.ttl, .int .i64 r.addr, vt, vx, vi]) ∧ DrawnQ k r ∧ (∀ j, vi.ownBlock = some j → w.heap.size ≤ j) ∧ DrawR w' vn vt vx vi r ∧ (k = 2 → OwnF w.heap.size 22 5 w' vn r.name) ∧ Cur w' g a len cap ∧ w.grownBy w' (some g)
theorem byt_empty : Byt [] := fun x hx => by cases hx
theorem byt_rep (m : Nat) : Byt (List.replicate m 0) := fun x hx => by
 have := (List.mem_replicate.1 hx).2
 omega
theorem okR_A {n : List (List Int)} {l ad : Int} (hn : nameOk n = true) (hl : 0 ≤ l ∧ l ≤ 100000) (ha : 0 ≤ ad ∧ ad ≤ 4294967295) : rrOk ⟨n, 1, l, ad, [], [], []⟩ = true := by
 simp [rrOk, dataOk, named, texted, typeOk, hn, hl.1, hl.2, ha.1, ha.2]
theorem okR_S {n m : List (List Int)} {l x y : Int} (hn : nameOk n = true) (hl : 0 ≤ l ∧ l ≤ 100000) (hm : nameOk m = true) (hx : 0 ≤ x ∧ x < 9) (hy : 0 ≤ y ∧ y ≤ 100000) : rrOk ⟨n, 6, l, 0, m, [], [x, y]⟩ = true := by
 have h1 : x ≤ 4294967295 := by omega
 simp [rrOk, dataOk, named, texted, typeOk, hn, hl.1, hl.2, hm, hx.1, h1, hy.1, hy.2]
theorem okR_N {n m : List (List Int)} {l t : Int} (hn : nameOk n = true) (hl : 0 ≤ l ∧ l ≤ 100000) (hm : nameOk m = true) (h1 : t ≠ 1) (h6 : t ≠ 6) (hq : named t = true) : rrOk ⟨n, t, l, 0, m, [], []⟩ = true := by
 have ht : t = 2 ∨ t = 5 ∨ t = 6 ∨ t = 12 := of_decide_eq_true hq
 rcases ht with rfl | rfl | rfl | rfl
 ·simp [rrOk, dataOk, named, texted, typeOk, hn, hl.1, hl.2, hm]
 ·simp [rrOk, dataOk, named, texted, typeOk, hn, hl.1, hl.2, hm]
 ·exact absurd rfl h6
 ·simp [rrOk, dataOk, named, texted, typeOk, hn, hl.1, hl.2, hm]
theorem okR_X {n : List (List Int)} {l t : Int} {x : List Int} (hn : nameOk n = true) (hl : 0 ≤ l ∧ l ≤ 100000) (h1 : t ≠ 1) (hq : named t = false) (ht : typeOk t = true) (hx : x.length ≤ 40) : rrOk ⟨n, t, l, 0, [], x, []⟩ = true := by
 have h2 : t = 1 ∨ t = 2 ∨ t = 5 ∨ t = 6 ∨ t = 12 ∨ t = 16 ∨ t = 49 := of_decide_eq_true ht
 have h3 : ¬ (t = 2 ∨ t = 5 ∨ t = 6 ∨ t = 12) := of_decide_eq_false hq
 have h4 : t = 16 ∨ t = 49 := by omega
 rcases h4 with rfl | rfl <;> simp [rrOk, dataOk, named, texted, typeOk, hn, hl.1, hl.2, hx]
end Go.Proofs.YthobpbnaklnbiaaGreat
