/-
  Plain facts: the bytes of a text, as numbers, and a slice that is made of it. No program is named here. Contracts of the specification's l2of: a name out of a text. Contracts of the specification's l2draw: one of twelve names. Plain facts: what is known of a drawn record: its text are bytes; if it isn't bent, it may be.
-/
import Derived.Test.YtbabmdiklefgcaaGreatDoorFnRepliesG07
import Derived.Laws.IdiomStrings
import Derived.Test.YtbabmdiklefgcaaGreatDoorFnRepliesG08
import Derived.Test.YtbabmdiklefgcaaGreatDoorFnRepliesG00
import Derived.Test.YtbabmdiklefgcaaGreatDoorFnRepliesG03
import Derived.Test.YtbabmdiklefgcaaGreatDoorFnRepliesG04
import Derived.Test.YtbabmdiklefgcaaGreatDoorFnRepliesG06
import Derived.Test.YtbabmdiklefgcaaGreatDoorFnRepliesG02
import Derived.Test.YtbabmdiklefgcaaGreatDoorFnRepliesG01
namespace Go.Proofs.YtbabmdiklefgcaaGreatDoor
open Go.RowKit
set_option linter.unusedVariables false

def numsOf (s : ByteArray) : List Int := s.data.toList.map (fun b => (b.toNat : Int))
theorem numsOf_length (s : ByteArray) : (numsOf s).length = s.size := by simp [numsOf]
theorem numsOf_bytes (s : ByteArray) : Bytes8 (numsOf s) := fun k => by
 unfold numsOf
 rw [List.getD_eq_getElem?_getD, List.getElem?_map]
 cases hk : s.data.toList[k]? with
 | none => simp
 | some y =>
  have := y.toNat_lt
  simp
  omega
theorem has_str (w : World) (e : TypeId) (s : ByteArray) (c : Nat) (fz : Nat × Nat) (h1 : s.size ≤ c) (h2 : c ≤ maxLen) :
  Has (w.alloc (.cells (bytesRow s c) e fz)) (.slice (some ⟨w.heap.size, 0, none⟩) s.size c) (numsOf s) := by
 refine .inr ⟨w.heap.size, 0, c, by rw [numsOf_length], by show w.heap.size < (w.heap.push _).size; simp, by rw [numsOf_length]; exact h1, h2, fun i hi => ?_⟩
 rw [numsOf_length] at hi
 have hi' : i < s.data.size := hi
 have hh : (w.alloc (.cells (bytesRow s c) e fz)).heap[w.heap.size]? = some (.cells (bytesRow s c) e fz) := by
  show (w.heap.push _)[w.heap.size]? = _
  simp
 have hc := bytesRow_at s c i hi'
 have hn : (numsOf s).getD i 0 = (s.data[i].toNat : Int) := by
  unfold numsOf
  rw [List.getD_eq_getElem?_getD, List.getElem?_map]
  rw [Array.getElem?_toList, Array.getElem?_eq_getElem hi']
  rfl
 rw [hn, Nat.zero_add]
 unfold World.cell?
 simp only [hh]
 exact hc
set_option maxHeartbeats 1000000 in
set_option maxRecDepth 100000 in
theorem l2of_any (s : ByteArray) (w : World) (hs : s.size ≤ 1048576) :
  Calls Tryz.prog 87 #[.string s] w fun e w' => ∃ v', e = .returned (.agg #[v']) ∧ OwnL w.heap.size 22 5 w' v' (nameRead (numsOf s)).1 ∧ Below w.heap.size w w' := by
 have b0 := UI (w := w) (.cells #[.slice none 0 0] 37)
 have k0 := heap_alloc_new w (.cells #[.slice none 0 0] 37)
 have hcv := run_bytes_of_string (P := Tryz.prog) (w.alloc (.cells #[.slice none 0 0] 37)) 9 22 5 s Tryz.underlying9 Tryz.underlying22 Tryz.underlying5
 have hcap := grownCap_ge (w.alloc (.cells #[.slice none 0 0] 37)) s.size 0 5
 have hcap2 := grownCap_le_maxLen (w.alloc (.cells #[.slice none 0 0] 37)) s.size 0 5 (by unfold maxLen; omega)
 have hnl := numsOf_length s
 generalize grownCap (w.alloc (.cells #[.slice none 0 0] 37)) s.size 0 5 = C at *
 have esz : (w.alloc (.cells #[.slice none 0 0] 37)).heap.size = w.heap.size + 1 := by show (w.heap.push _).size = _; simp
 have ba := UI (w := w.alloc (.cells #[.slice none 0 0] 37)) (.cells (bytesRow s C) 5 ((bytesRow s C).size, (bytesRow s C).size + 1))
 have bd := UX (w := (w.alloc (.cells #[.slice none 0 0] 37)).alloc (.cells (bytesRow s C) 5 ((bytesRow s C).size, (bytesRow s C).size + 1)))
 have HR := specNameRead_has ((has_str (w.alloc (.cells #[.slice none 0 0] 37)) 5 s C ((bytesRow s C).size, (bytesRow s C).size + 1) hcap hcap2).below bd) (by omega) (numsOf_bytes s)
 rw [esz] at HR
 have HR := UC HR
 have K1 := UC (UE bd (UE ba k0))
 have bb1 := UG (UG b0 ba) bd
 have z0 := VC k0
 have z1 := bb1.size
 have zk := VC (UB K1)
 clear k0 b0 bd ba hcap hcap2 hnl esz
 generalize (nameRead (numsOf s)).1 = R at *
 generalize (nameRead (numsOf s)).2 = R2 at *
 go_enter Tryz.func87, Tryz.ntmps87
 go_wp2_with fail
 generalize ((w.alloc (.cells #[.slice none 0 0] 37)).alloc (.cells (bytesRow s C) 5 ((bytesRow s C).size, (bytesRow s C).size + 1))).drew = W at *
 refine (UB HR).mono ?_
 rintro e w1 ⟨v1, rfl, o1, b1⟩
 obtain ⟨oa, oc, rfl, _⟩ := o1.hasL.form
 have bm := UI (w := w1) (.cells #[.slice oa R.length oc] 37)
 have cm := US (heap_alloc_new w1 (.cells #[.slice oa R.length oc] 37))
 have k2 := UE bm (UE b1 (UB K1))
 have c2 := US k2
 have f2 := VG k2 0
 have K2 := UC (block_set k2 (.slice oa R.length oc))
 have O2 := UC (o1.below bm)
 have bb2 := UG (UG bb1 b1) bm
 have z2 := b1.size
 clear HR hcv o1 b1 bm k2 K1 bb1
 go_wp2_with fail
 refine bodyPost_ret (results_cell_row rfl _ _ w.heap.size 37 #[.slice oa R.length oc] (0, 0) _ rfl (UB K2) Tryz.underlying37 rfl (by kernel_rfl)) rfl ?_
 exact ⟨_, rfl, ((UB O2).kept (grown_setCell _ _ _) (by show w.heap.size < _; omega)).mono (by omega), bb2.setCell (Nat.le_refl _) _⟩
def drawnTexts : List ByteArray := [⟨#[46]⟩, ⟨#[104, 111, 109, 101, 46]⟩, ⟨#[112, 99, 46, 104, 111, 109, 101, 46]⟩, ⟨#[116, 118, 46, 104, 111, 109, 101, 46]⟩, ⟨#[97, 46, 112, 99, 46, 104, 111, 109, 101, 46]⟩, ⟨#[99, 111, 109, 46]⟩, ⟨#[120, 46, 99, 111, 109, 46]⟩, ⟨#[119, 119, 119, 46, 120, 46, 99, 111, 109, 46]⟩, ⟨#[110, 115, 46, 99, 111, 109, 46]⟩, ⟨#[51, 46, 48, 46, 48, 46, 49, 48, 46, 105, 110, 45, 97, 100, 100, 114, 46, 97, 114, 112, 97, 46]⟩, ⟨#[115, 117, 98, 46, 104, 111, 109, 101, 46]⟩, ⟨#[121, 46, 115, 117, 98, 46, 104, 111, 109, 101, 46]⟩]
theorem drawn_size : ∀ s ∈ drawnTexts, s.size ≤ 1048576 := by decide +kernel
def Drawn (n : List (List Int)) : Prop := ∃ s ∈ drawnTexts, n = (nameRead (numsOf s)).1
theorem text_cell {w : World} {b : Nat} {t : TypeId} (h : w.heap[b]? = some (.cells #[.string ⟨#[46]⟩, .string ⟨#[104, 111, 109, 101, 46]⟩, .string ⟨#[112, 99, 46, 104, 111, 109, 101, 46]⟩, .string ⟨#[116, 118, 46, 104, 111, 109, 101, 46]⟩, .string ⟨#[97, 46, 112, 99, 46, 104, 111, 109, 101, 46]⟩, .string ⟨#[99, 111, 109, 46]⟩, .string ⟨#[120, 46, 99, 111, 109, 46]⟩, .string ⟨#[119, 119, 119, 46, 120, 46, 99, 111, 109, 46]⟩, .string ⟨#[110, 115, 46, 99, 111, 109, 46]⟩, .string ⟨#[51, 46, 48, 46, 48, 46, 49, 48, 46, 105, 110, 45, 97, 100, 100, 114, 46, 97, 114, 112, 97, 46]⟩, .string ⟨#[115, 117, 98, 46, 104, 111, 109, 101, 46]⟩, .string ⟨#[121, 46, 115, 117, 98, 46, 104, 111, 109, 101, 46]⟩] t)) {k : Nat} (hk : k < 12) : ∃ s ∈ drawnTexts, w.cell? ⟨b, k, none⟩ = some (.string s) := by
 have hc := VE h k
 match k, hk with
 | 0, _ => exact ⟨⟨#[46]⟩, by simp [drawnTexts], hc⟩
 | 1, _ => exact ⟨⟨#[104, 111, 109, 101, 46]⟩, by simp [drawnTexts], hc⟩
 | 2, _ => exact ⟨⟨#[112, 99, 46, 104, 111, 109, 101, 46]⟩, by simp [drawnTexts], hc⟩
 | 3, _ => exact ⟨⟨#[116, 118, 46, 104, 111, 109, 101, 46]⟩, by simp [drawnTexts], hc⟩
 | 4, _ => exact ⟨⟨#[97, 46, 112, 99, 46, 104, 111, 109, 101, 46]⟩, by simp [drawnTexts], hc⟩
 | 5, _ => exact ⟨⟨#[99, 111, 109, 46]⟩, by simp [drawnTexts], hc⟩
 | 6, _ => exact ⟨⟨#[120, 46, 99, 111, 109, 46]⟩, by simp [drawnTexts], hc⟩
 | 7, _ => exact ⟨⟨#[119, 119, 119, 46, 120, 46, 99, 111, 109, 46]⟩, by simp [drawnTexts], hc⟩
 | 8, _ => exact ⟨⟨#[110, 115, 46, 99, 111, 109, 46]⟩, by simp [drawnTexts], hc⟩
 | 9, _ => exact ⟨⟨#[51, 46, 48, 46, 48, 46, 49, 48, 46, 105, 110, 45, 97, 100, 100, 114, 46, 97, 114, 112, 97, 46]⟩, by simp [drawnTexts], hc⟩
 | 10, _ => exact ⟨⟨#[115, 117, 98, 46, 104, 111, 109, 101, 46]⟩, by simp [drawnTexts], hc⟩
 | 11, _ => exact ⟨⟨#[121, 46, 115, 117, 98, 46, 104, 111, 109, 101, 46]⟩, by simp [drawnTexts], hc⟩

set_option maxHeartbeats 2000000 in
set_option maxRecDepth 100000 in
theorem l2draw_any {g : Nat} {a : Option Addr} {len cap : Nat} {w : World} (hc : Cur w g a len cap) (hL : Code w g a len) (hm : len ≤ maxLen) :
  Calls Tryz.prog 54 #[.pointer (some ⟨g, 0, none⟩)] w fun e w' => ∃ v' n, e = .returned (.agg #[v']) ∧ Drawn n ∧ OwnL w.heap.size 22 5 w' v' n ∧ Cur w' g a len cap ∧ w.grownBy w' (some g) := by
 have hg := hc.lt
 obtain ⟨hsz, k0, r0⟩ := box2 w (.cells #[.slice none 0 0] 37) #[.string ⟨#[46]⟩, .string ⟨#[104, 111, 109, 101, 46]⟩, .string ⟨#[112, 99, 46, 104, 111, 109, 101, 46]⟩, .string ⟨#[116, 118, 46, 104, 111, 109, 101, 46]⟩, .string ⟨#[97, 46, 112, 99, 46, 104, 111, 109, 101, 46]⟩, .string ⟨#[99, 111, 109, 46]⟩, .string ⟨#[120, 46, 99, 111, 109, 46]⟩, .string ⟨#[119, 119, 119, 46, 120, 46, 99, 111, 109, 46]⟩, .string ⟨#[110, 115, 46, 99, 111, 109, 46]⟩, .string ⟨#[51, 46, 48, 46, 48, 46, 49, 48, 46, 105, 110, 45, 97, 100, 100, 114, 46, 97, 114, 112, 97, 46]⟩, .string ⟨#[115, 117, 98, 46, 104, 111, 109, 101, 46]⟩, .string ⟨#[121, 46, 115, 117, 98, 46, 104, 111, 109, 101, 46]⟩] 9
 have g0 : w.grownBy ((w.alloc (.cells #[.slice none 0 0] 37)).alloc (.cells #[.string ⟨#[46]⟩, .string ⟨#[104, 111, 109, 101, 46]⟩, .string ⟨#[112, 99, 46, 104, 111, 109, 101, 46]⟩, .string ⟨#[116, 118, 46, 104, 111, 109, 101, 46]⟩, .string ⟨#[97, 46, 112, 99, 46, 104, 111, 109, 101, 46]⟩, .string ⟨#[99, 111, 109, 46]⟩, .string ⟨#[120, 46, 99, 111, 109, 46]⟩, .string ⟨#[119, 119, 119, 46, 120, 46, 99, 111, 109, 46]⟩, .string ⟨#[110, 115, 46, 99, 111, 109, 46]⟩, .string ⟨#[51, 46, 48, 46, 48, 46, 49, 48, 46, 105, 110, 45, 97, 100, 100, 114, 46, 97, 114, 112, 97, 46]⟩, .string ⟨#[115, 117, 98, 46, 104, 111, 109, 101, 46]⟩, .string ⟨#[121, 46, 115, 117, 98, 46, 104, 111, 109, 101, 46]⟩] 9)) (some g) := grown_own (grown_own (row := some g) ⟨rfl, rfl, rfl, Nat.le_refl _, fun _ _ _ => rfl⟩ (grown_alloc w (.cells #[.slice none 0 0] 37) none) (fun j e => by cases e)) (grown_alloc _ _ none) (fun j e => by cases e)
 have hc0 := hc.later (grown_own (grown_own (row := none) ⟨rfl, rfl, rfl, Nat.le_refl _, fun _ _ _ => rfl⟩ (grown_alloc w (.cells #[.slice none 0 0] 37) none) (fun j e => by cases e)) (grown_alloc _ (.cells #[.string ⟨#[46]⟩, .string ⟨#[104, 111, 109, 101, 46]⟩, .string ⟨#[112, 99, 46, 104, 111, 109, 101, 46]⟩, .string ⟨#[116, 118, 46, 104, 111, 109, 101, 46]⟩, .string ⟨#[97, 46, 112, 99, 46, 104, 111, 109, 101, 46]⟩, .string ⟨#[99, 111, 109, 46]⟩, .string ⟨#[120, 46, 99, 111, 109, 46]⟩, .string ⟨#[119, 119, 119, 46, 120, 46, 99, 111, 109, 46]⟩, .string ⟨#[110, 115, 46, 99, 111, 109, 46]⟩, .string ⟨#[51, 46, 48, 46, 48, 46, 49, 48, 46, 105, 110, 45, 97, 100, 100, 114, 46, 97, 114, 112, 97, 46]⟩, .string ⟨#[115, 117, 98, 46, 104, 111, 109, 101, 46]⟩, .string ⟨#[121, 46, 115, 117, 98, 46, 104, 111, 109, 101, 46]⟩] 9) none) (fun j e => by cases e)) (fun j e => by cases e)
 have hL0 := hL.later g0 (fun j e => by cases e; exact Nat.le_refl _)
 have HB := UC (l1Below_any 12 hc0 hL0 hm (by omega) (by omega))
 have K0 := UC k0
 have R0 := UC r0
 have G0 := UC g0
 clear hc hL k0 r0 g0 hc0 hL0
 go_enter Tryz.func54, Tryz.ntmps54
 go_wp2_with fail
 generalize (w.alloc (.cells #[.slice none 0 0] 37)).alloc (.cells #[.string ⟨#[46]⟩, .string ⟨#[104, 111, 109, 101, 46]⟩, .string ⟨#[112, 99, 46, 104, 111, 109, 101, 46]⟩, .string ⟨#[116, 118, 46, 104, 111, 109, 101, 46]⟩, .string ⟨#[97, 46, 112, 99, 46, 104, 111, 109, 101, 46]⟩, .string ⟨#[99, 111, 109, 46]⟩, .string ⟨#[120, 46, 99, 111, 109, 46]⟩, .string ⟨#[119, 119, 119, 46, 120, 46, 99, 111, 109, 46]⟩, .string ⟨#[110, 115, 46, 99, 111, 109, 46]⟩, .string ⟨#[51, 46, 48, 46, 48, 46, 49, 48, 46, 105, 110, 45, 97, 100, 100, 114, 46, 97, 114, 112, 97, 46]⟩, .string ⟨#[115, 117, 98, 46, 104, 111, 109, 101, 46]⟩, .string ⟨#[121, 46, 115, 117, 98, 46, 104, 111, 109, 101, 46]⟩] 9) = W at *
 refine (UB HB).mono ?_
 rintro e w1 ⟨x, rfl, hx0, hx1, hc1, g1⟩
 obtain ⟨k, rfl⟩ := Int.eq_ofNat_of_zero_le hx0
 have hk : k < 12 := by omega
 have hk' : (k : Int) < 12 := by omega
 have K1 := UC (block_grown g1 (UB K0) (by simp; omega))
 obtain ⟨s, hs, cs⟩ := text_cell (block_grown g1 (UB R0) (by simp; omega)) hk
 have HS := UC hs
 have HO := UC (l2of_any s w1 (drawn_size s hs))
 have G1 := UC g1
 have C1 := UC hc1
 have z1 := g1.size
 have zk := VC (UB K1)
 clear hs HB K0 R0 g1 hc1
 go_wp2_with fail
 refine (UB HO).mono ?_
 rintro e w2 ⟨v2, rfl, o2, b2⟩
 obtain ⟨oa, oc, rfl, _⟩ := o2.hasL.form
 have k2 := UE b2 (UB K1)
 have c2 := US k2
 have f2 := VG k2 0
 generalize hR : (nameRead (numsOf s)).1 = R at *
 have K2 := UC (block_set k2 (.slice oa R.length oc))
 have O2 := UC o2
 have B2 := UC b2
 have HRR := UC hR
 clear o2 b2 k2 K1 HO hR
 go_wp2_with fail
 refine bodyPost_ret (results_cell_row rfl _ _ w.heap.size 37 #[.slice oa R.length oc] (0, 0) _ rfl (UB K2) Tryz.underlying37 rfl (by kernel_rfl)) rfl ?_
 have gA : w.grownBy w1 (some g) := ⟨(UB G1).os.trans (UB G0).os, (UB G1).tape.trans (UB G0).tape, (UB G1).output.trans (UB G0).output, by have := (UB G0).size; omega, fun i hi hn => ((UB G1).block i (by have := (UB G0).size; omega) hn).trans ((UB G0).block i hi hn)⟩
 have zw := (UB G0).size
 have g2 : w1.grownBy (w2.setCell ⟨w.heap.size, 0, none⟩ (.slice oa R.length oc)) (some w.heap.size) := ⟨(grown_setCell w2 _ _).os.trans (UB B2).os, (grown_setCell w2 _ _).tape.trans (UB B2).tape, (grown_setCell w2 _ _).output.trans (UB B2).output, Nat.le_trans (UB B2).size (grown_setCell w2 _ _).size, fun i hi hn => ((grown_setCell w2 ⟨w.heap.size, 0, none⟩ (.slice oa R.length oc)).block i (Nat.lt_of_lt_of_le hi (UB B2).size) (by simpa using hn)).trans ((UB B2).block i hi)⟩
 exact ⟨_, R, rfl, ⟨s, UB HS, (UB HRR).symm⟩, ((UB O2).kept (grown_setCell _ _ _) (by show w.heap.size < _; omega)).mono (by omega), (UB C1).later g2 (fun j e => by cases e; exact hg), grown_own gA g2 (fun j e => by cases e; exact Nat.le_refl _)⟩
theorem nameRead_alw (l : List Int) : nameOk (nameRead l).1 = true := by
 unfold nameRead
 split
 ·decide
 ·split
  ·assumption
  ·decide
theorem drawnQ_name {n : List (List Int)} (h : Drawn n) : nameOk n = true := by
 obtain ⟨s, _, rfl⟩ := h
 exact nameRead_alw _
def OwnF (B : Nat) (el eb : TypeId) (w : World) (v : Value) (n : List (List Int)) : Prop :=
 ∃ vs : List Value, w.ownsRow B el 1 v n.length vs ∧ ∀ i, i < n.length → ∃ x, vs[i]? = some x ∧ Has w x (n.getD i []) ∧ Typed eb w x ∧ ∀ g off len cap, x = .slice (some ⟨g, off, none⟩) len cap → B ≤ g
theorem OwnL.ownF {B : Nat} {el eb : TypeId} {w : World} {v : Value} {n : List (List Int)} (h : OwnL B el eb w v n) : OwnF B el eb w v n := by
 obtain ⟨vs, h1, h2, _⟩ := h
 refine ⟨vs, h1, fun i hi => ?_⟩
 obtain ⟨x, h3, h4⟩ := h2 i hi
 refine ⟨x, h3, h4.has, h4.typed, fun g off len cap e => ?_⟩
 subst e
 exact (h4.lt g rfl).1
theorem OwnF.mono {B B' : Nat} {el eb : TypeId} {w : World} {v : Value} {n : List (List Int)} (h : OwnF B el eb w v n) (hB : B' ≤ B) : OwnF B' el eb w v n := by
 obtain ⟨vs, h1, h2⟩ := h
 refine ⟨vs, ownsRow_mono h1 hB, fun i hi => ?_⟩
 obtain ⟨x, h3, h4, h5, h6⟩ := h2 i hi
 exact ⟨x, h3, h4, h5, fun g off len cap e => Nat.le_trans hB (h6 g off len cap e)⟩
theorem OwnF.below {B : Nat} {el eb : TypeId} {w w' : World} {v : Value} {n : List (List Int)} (h : OwnF B el eb w v n) (hb : Below w.heap.size w w') : OwnF B el eb w' v n := by
 obtain ⟨vs, h1, h2⟩ := h
 refine ⟨vs, ownsRow_kept' h1 hb, fun i hi => ?_⟩
 obtain ⟨x, h3, h4, h5, h6⟩ := h2 i hi
 exact ⟨x, h3, h4.below hb, h5.below hb, h6⟩
theorem OwnF.off {B q : Nat} {el eb t : TypeId} {w w' : World} {v : Value} {n : List (List Int)} {c : Array Value} (h : OwnF B el eb w v n) (hk : w.heap[q]? = some (.cells c t)) (h1 : t ≠ el) (h2 : t ≠ eb) (hg : w.grownBy w' (some q)) : OwnF B el eb w' v n := by
 obtain ⟨vs, h3, h4⟩ := h
 have hap := row_apart h3 hk h1
 refine ⟨vs, World.ownsRow.kept h3 hg (.inr hap), fun i hi => ?_⟩
 obtain ⟨x, h5, h6, h7, h8⟩ := h4 i hi
 have key : ∀ g off len cap, x = .slice (some ⟨g, off, none⟩) len cap → w'.heap[g]? = w.heap[g]? := fun g off len cap e => by
  obtain ⟨c', fr, e1⟩ := h7 g off len cap e
  refine hg.block g (VC e1) ?_
  intro e'
  have e2 : g = q := by simpa using e'
  subst e2
  rw [hk] at e1
  simp at e1
  exact h2 e1.2.1
 refine ⟨x, h5, ?_, fun g off len cap e => ?_, h8⟩
 ·rcases h6 with h | ⟨g, off, cap, e, e1, e2, e3, e4⟩
  ·exact .inl h
  ·refine .inr ⟨g, off, cap, e, Nat.lt_of_lt_of_le e1 hg.size, e2, e3, fun i hi => ?_⟩
   have hc := e4 i hi
   unfold World.cell? at hc ⊢
   rw [key g off _ cap e]
   exact hc
 ·obtain ⟨c', fr, e1⟩ := h7 g off len cap e
  exact ⟨c', fr, (key g off len cap e).trans e1⟩
theorem OwnF.cur {B g len cap : Nat} {a : Option Addr} {w w' : World} {v : Value} {n : List (List Int)} (h : OwnF B 22 5 w v n) (hc : Cur w g a len cap) (hg : w.grownBy w' (some g)) : OwnF B 22 5 w' v n := by
 obtain ⟨i, x, h1, _⟩ := hc
 exact h.off h1 (by decide) (by decide) hg
def DrawnQ (k : Nat) (r : Rec) : Prop := DrawnS k r ∧ Byt r.text ∧ (k = 2 → rrOk r = true)
def DrawnRQ (k : Nat) (w : World) (g : Nat) (a : Option Addr) (len cap : Nat) (e : Ending) (w' : World) : Prop :=
 ∃ vn vt vx vi r, e = .returned (.agg #[vn, .int .i64 r.type, .int .i64 r.ttl, .int .i64 r.addr, vt, vx, vi]) ∧ DrawnQ k r ∧ (∀ j, vi.ownBlock = some j → w.heap.size ≤ j) ∧ DrawR w' vn vt vx vi r ∧ (k = 2 → OwnF w.heap.size 22 5 w' vn r.name) ∧ Cur w' g a len cap ∧ w.grownBy w' (some g)
theorem byt_empty : Byt [] := fun x hx => by cases hx
theorem byt_rep (m : Nat) : Byt (List.replicate m 0) := fun x hx => by
 have := (List.mem_replicate.1 hx).2
 omega
theorem okR_A {n : List (List Int)} {l ad : Int} (hn : nameOk n = true) (hl : 0 ≤ l ∧ l ≤ 100000) (ha : 0 ≤ ad ∧ ad ≤ 4294967295) : rrOk ⟨n, 1, l, ad, [], [], []⟩ = true := by
 simp [rrOk, dataOk, named, texted, typeOk, hn, hl.1, hl.2, ha.1, ha.2]
theorem okR_S {n m : List (List Int)} {l x y : Int} (hn : nameOk n = true) (hl : 0 ≤ l ∧ l ≤ 100000) (hm : nameOk m = true) (hx : 0 ≤ x ∧ x < 9) (hy : 0 ≤ y ∧ y ≤ 100000) : rrOk ⟨n, 6, l, 0, m, [], [x, y]⟩ = true := by
 have h1 : x ≤ 4294967295 := by omega
 simp [rrOk, dataOk, named, texted, typeOk, hn, hl.1, hl.2, hm, hx.1, h1, hy.1, hy.2]
theorem okR_N {n m : List (List Int)} {l t : Int} (hn : nameOk n = true) (hl : 0 ≤ l ∧ l ≤ 100000) (hm : nameOk m = true) (h1 : t ≠ 1) (h6 : t ≠ 6) (hq : named t = true) : rrOk ⟨n, t, l, 0, m, [], []⟩ = true := by
 have ht : t = 2 ∨ t = 5 ∨ t = 6 ∨ t = 12 := of_decide_eq_true hq
 rcases ht with rfl | rfl | rfl | rfl
 ·simp [rrOk, dataOk, named, texted, typeOk, hn, hl.1, hl.2, hm]
 ·simp [rrOk, dataOk, named, texted, typeOk, hn, hl.1, hl.2, hm]
 ·exact absurd rfl h6
 ·simp [rrOk, dataOk, named, texted, typeOk, hn, hl.1, hl.2, hm]
theorem okR_X {n : List (List Int)} {l t : Int} {x : List Int} (hn : nameOk n = true) (hl : 0 ≤ l ∧ l ≤ 100000) (h1 : t ≠ 1) (hq : named t = false) (ht : typeOk t = true) (hx : x.length ≤ 40) : rrOk ⟨n, t, l, 0, [], x, []⟩ = true := by
 have h2 : t = 1 ∨ t = 2 ∨ t = 5 ∨ t = 6 ∨ t = 12 ∨ t = 16 ∨ t = 49 := of_decide_eq_true ht
 have h3 : ¬ (t = 2 ∨ t = 5 ∨ t = 6 ∨ t = 12) := of_decide_eq_false hq
 have h4 : t = 16 ∨ t = 49 := by omega
 rcases h4 with rfl | rfl <;> simp [rrOk, dataOk, named, texted, typeOk, hn, hl.1, hl.2, hx]
end Go.Proofs.YtbabmdiklefgcaaGreatDoor
