/-
  Plain facts: the bytes of a text, as numbers, and a slice that is made of it. No program is named here. Contracts of the specification's l2of: a name out of a text. Contracts of the specification's l2draw: one of twelve names. Contract of the specification's l1PickInt: what is picked has the property that all have.
-/
import Derived.Test.YtjgfljndeolmoaaFnInsidesG12
import Derived.Laws.IdiomStrings
import Derived.Test.YtjgfljndeolmoaaFnInsidesG13
import Derived.Test.YtjgfljndeolmoaaFnInsidesG02
import Derived.Test.YtjgfljndeolmoaaFnInsidesG09
namespace Go.Proofs.Ytjgfljndeolmoaa
open Go.RowKit
set_option linter.unusedVariables false

/-- The bytes of a text, as numbers. -/
def numsOf (s : ByteArray) : List Int := s.data.toList.map (fun b => (b.toNat : Int))
theorem numsOf_length (s : ByteArray) : (numsOf s).length = s.size := by simp [numsOf]
theorem numsOf_bytes (s : ByteArray) : Bytes8 (numsOf s) := fun k => by
 unfold numsOf
 rw [List.getD_eq_getElem?_getD, List.getElem?_map]
 cases hk : s.data.toList[k]? with
 | none => simp
 | some y =>
  have := y.toNat_lt
  simp
  omega
theorem has_str (w : World) (e : TypeId) (s : ByteArray) (c : Nat) (fz : Nat × Nat) (h1 : s.size ≤ c) (h2 : c ≤ maxLen) :
  Has (w.alloc (.cells (bytesRow s c) e fz)) (.slice (some ⟨w.heap.size, 0, none⟩) s.size c) (numsOf s) := by
 refine .inr ⟨w.heap.size, 0, c, by rw [numsOf_length], by show w.heap.size < (w.heap.push _).size; simp, by rw [numsOf_length]; exact h1, h2, fun i hi => ?_⟩
 rw [numsOf_length] at hi
 have hi' : i < s.data.size := hi
 have hh : (w.alloc (.cells (bytesRow s c) e fz)).heap[w.heap.size]? = some (.cells (bytesRow s c) e fz) := by
  show (w.heap.push _)[w.heap.size]? = _
  simp
 have hc := bytesRow_at s c i hi'
 have hn : (numsOf s).getD i 0 = (s.data[i].toNat : Int) := by
  unfold numsOf
  rw [List.getD_eq_getElem?_getD, List.getElem?_map]
  rw [Array.getElem?_toList, Array.getElem?_eq_getElem hi']
  rfl
 rw [hn, Nat.zero_add]
 unfold World.cell?
 simp only [hh]
 exact hc
end Go.Proofs.Ytjgfljndeolmoaa

namespace Go.Proofs.Ytjgfljndeolmoaa
open Go.RowKit
set_option linter.unusedVariables false

set_option maxHeartbeats 1000000 in
set_option maxRecDepth 100000 in
theorem l2of_any (s : ByteArray) (w : World) (hs : s.size ≤ 1048576) :
  Calls Try.prog 117 #[.string s] w fun e w' => ∃ v', e = .returned (.agg #[v']) ∧ OwnL w.heap.size 22 5 w' v' (nameRead (numsOf s)).1 ∧ Below w.heap.size w w' := by
 have b0 := below_alloc (w := w) (.cells #[.slice none 0 0] 26)
 have k0 := heap_alloc_new w (.cells #[.slice none 0 0] 26)
 have hcv := run_bytes_of_string (P := Try.prog) (w.alloc (.cells #[.slice none 0 0] 26)) 9 22 5 s Try.underlying9 Try.underlying22 Try.underlying5
 have hcap := grownCap_ge (w.alloc (.cells #[.slice none 0 0] 26)) s.size 0 5
 have hcap2 := grownCap_le_maxLen (w.alloc (.cells #[.slice none 0 0] 26)) s.size 0 5 (by unfold maxLen; omega)
 have hnl := numsOf_length s
 generalize grownCap (w.alloc (.cells #[.slice none 0 0] 26)) s.size 0 5 = C at *
 have esz : (w.alloc (.cells #[.slice none 0 0] 26)).heap.size = w.heap.size + 1 := by show (w.heap.push _).size = _; simp
 have ba := below_alloc (w := w.alloc (.cells #[.slice none 0 0] 26)) (.cells (bytesRow s C) 5 ((bytesRow s C).size, (bytesRow s C).size + 1))
 have bd := below_drew (w := (w.alloc (.cells #[.slice none 0 0] 26)).alloc (.cells (bytesRow s C) 5 ((bytesRow s C).size, (bytesRow s C).size + 1)))
 have HR := specNameRead_has ((has_str (w.alloc (.cells #[.slice none 0 0] 26)) 5 s C ((bytesRow s C).size, (bytesRow s C).size + 1) hcap hcap2).below bd) (by omega) (numsOf_bytes s)
 rw [esz] at HR
 have HR := hide HR
 have K1 := hide (block_kept bd (block_kept ba k0))
 have bb1 := below_next (below_next b0 ba) bd
 have z0 := block_lt k0
 have z1 := bb1.size
 have zk := block_lt (unhide K1)
 clear k0 b0 bd ba hcap hcap2 hnl esz
 generalize (nameRead (numsOf s)).1 = R at *
 generalize (nameRead (numsOf s)).2 = R2 at *
 go_enter Try.func117, Try.ntmps117
 go_wp2_with fail
 generalize ((w.alloc (.cells #[.slice none 0 0] 26)).alloc (.cells (bytesRow s C) 5 ((bytesRow s C).size, (bytesRow s C).size + 1))).drew = W at *
 refine (unhide HR).mono ?_
 rintro e w1 ⟨v1, rfl, o1, b1⟩
 obtain ⟨oa, oc, rfl, _⟩ := o1.hasL.form
 have bm := below_alloc (w := w1) (.cells #[.slice oa R.length oc] 26)
 have cm := block_one (heap_alloc_new w1 (.cells #[.slice oa R.length oc] 26))
 have k2 := block_kept bm (block_kept b1 (unhide K1))
 have c2 := block_one k2
 have f2 := block_frozen k2 0
 have K2 := hide (block_set k2 (.slice oa R.length oc))
 have O2 := hide (o1.below bm)
 have bb2 := below_next (below_next bb1 b1) bm
 have z2 := b1.size
 clear HR hcv o1 b1 bm k2 K1 bb1
 go_wp2_with fail
 refine bodyPost_ret (results_cell_row rfl _ _ w.heap.size 26 #[.slice oa R.length oc] (0, 0) _ rfl (unhide K2) Try.underlying26 rfl (by kernel_rfl)) rfl ?_
 exact ⟨_, rfl, ((unhide O2).kept (grown_setCell _ _ _) (by show w.heap.size < _; omega)).mono (by omega), bb2.setCell (Nat.le_refl _) _⟩
end Go.Proofs.Ytjgfljndeolmoaa

namespace Go.Proofs.Ytjgfljndeolmoaa
open Go.RowKit
set_option linter.unusedVariables false

/-- The texts of the drawn names. -/
def drawnTexts : List ByteArray := [⟨#[46]⟩, ⟨#[104, 111, 109, 101, 46]⟩, ⟨#[112, 99, 46, 104, 111, 109, 101, 46]⟩, ⟨#[116, 118, 46, 104, 111, 109, 101, 46]⟩, ⟨#[97, 46, 112, 99, 46, 104, 111, 109, 101, 46]⟩, ⟨#[99, 111, 109, 46]⟩, ⟨#[120, 46, 99, 111, 109, 46]⟩, ⟨#[119, 119, 119, 46, 120, 46, 99, 111, 109, 46]⟩, ⟨#[110, 115, 46, 99, 111, 109, 46]⟩, ⟨#[51, 46, 48, 46, 48, 46, 49, 48, 46, 105, 110, 45, 97, 100, 100, 114, 46, 97, 114, 112, 97, 46]⟩, ⟨#[115, 117, 98, 46, 104, 111, 109, 101, 46]⟩, ⟨#[121, 46, 115, 117, 98, 46, 104, 111, 109, 101, 46]⟩]
theorem drawn_size : ∀ s ∈ drawnTexts, s.size ≤ 1048576 := by decide +kernel
/-- A name that is drawn. -/
def Drawn (n : List (List Int)) : Prop := ∃ s ∈ drawnTexts, n = (nameRead (numsOf s)).1
theorem text_cell {w : World} {b : Nat} {t : TypeId} (h : w.heap[b]? = some (.cells #[.string ⟨#[46]⟩, .string ⟨#[104, 111, 109, 101, 46]⟩, .string ⟨#[112, 99, 46, 104, 111, 109, 101, 46]⟩, .string ⟨#[116, 118, 46, 104, 111, 109, 101, 46]⟩, .string ⟨#[97, 46, 112, 99, 46, 104, 111, 109, 101, 46]⟩, .string ⟨#[99, 111, 109, 46]⟩, .string ⟨#[120, 46, 99, 111, 109, 46]⟩, .string ⟨#[119, 119, 119, 46, 120, 46, 99, 111, 109, 46]⟩, .string ⟨#[110, 115, 46, 99, 111, 109, 46]⟩, .string ⟨#[51, 46, 48, 46, 48, 46, 49, 48, 46, 105, 110, 45, 97, 100, 100, 114, 46, 97, 114, 112, 97, 46]⟩, .string ⟨#[115, 117, 98, 46, 104, 111, 109, 101, 46]⟩, .string ⟨#[121, 46, 115, 117, 98, 46, 104, 111, 109, 101, 46]⟩] t)) {k : Nat} (hk : k < 12) : ∃ s ∈ drawnTexts, w.cell? ⟨b, k, none⟩ = some (.string s) := by
 have hc := block_cell h k
 match k, hk with
 | 0, _ => exact ⟨⟨#[46]⟩, by simp [drawnTexts], hc⟩
 | 1, _ => exact ⟨⟨#[104, 111, 109, 101, 46]⟩, by simp [drawnTexts], hc⟩
 | 2, _ => exact ⟨⟨#[112, 99, 46, 104, 111, 109, 101, 46]⟩, by simp [drawnTexts], hc⟩
 | 3, _ => exact ⟨⟨#[116, 118, 46, 104, 111, 109, 101, 46]⟩, by simp [drawnTexts], hc⟩
 | 4, _ => exact ⟨⟨#[97, 46, 112, 99, 46, 104, 111, 109, 101, 46]⟩, by simp [drawnTexts], hc⟩
 | 5, _ => exact ⟨⟨#[99, 111, 109, 46]⟩, by simp [drawnTexts], hc⟩
 | 6, _ => exact ⟨⟨#[120, 46, 99, 111, 109, 46]⟩, by simp [drawnTexts], hc⟩
 | 7, _ => exact ⟨⟨#[119, 119, 119, 46, 120, 46, 99, 111, 109, 46]⟩, by simp [drawnTexts], hc⟩
 | 8, _ => exact ⟨⟨#[110, 115, 46, 99, 111, 109, 46]⟩, by simp [drawnTexts], hc⟩
 | 9, _ => exact ⟨⟨#[51, 46, 48, 46, 48, 46, 49, 48, 46, 105, 110, 45, 97, 100, 100, 114, 46, 97, 114, 112, 97, 46]⟩, by simp [drawnTexts], hc⟩
 | 10, _ => exact ⟨⟨#[115, 117, 98, 46, 104, 111, 109, 101, 46]⟩, by simp [drawnTexts], hc⟩
 | 11, _ => exact ⟨⟨#[121, 46, 115, 117, 98, 46, 104, 111, 109, 101, 46]⟩, by simp [drawnTexts], hc⟩

set_option maxHeartbeats 2000000 in
set_option maxRecDepth 100000 in
theorem l2draw_any {g : Nat} {a : Option Addr} {len cap : Nat} {w : World} (hc : Cur w g a len cap) (hL : Code w g a len) (hm : len ≤ maxLen) :
  Calls Try.prog 82 #[.pointer (some ⟨g, 0, none⟩)] w fun e w' => ∃ v' n, e = .returned (.agg #[v']) ∧ Drawn n ∧ OwnL w.heap.size 22 5 w' v' n ∧ Cur w' g a len cap ∧ w.grownBy w' (some g) := by
 have hg := hc.lt
 obtain ⟨hsz, k0, r0⟩ := box2 w (.cells #[.slice none 0 0] 26) #[.string ⟨#[46]⟩, .string ⟨#[104, 111, 109, 101, 46]⟩, .string ⟨#[112, 99, 46, 104, 111, 109, 101, 46]⟩, .string ⟨#[116, 118, 46, 104, 111, 109, 101, 46]⟩, .string ⟨#[97, 46, 112, 99, 46, 104, 111, 109, 101, 46]⟩, .string ⟨#[99, 111, 109, 46]⟩, .string ⟨#[120, 46, 99, 111, 109, 46]⟩, .string ⟨#[119, 119, 119, 46, 120, 46, 99, 111, 109, 46]⟩, .string ⟨#[110, 115, 46, 99, 111, 109, 46]⟩, .string ⟨#[51, 46, 48, 46, 48, 46, 49, 48, 46, 105, 110, 45, 97, 100, 100, 114, 46, 97, 114, 112, 97, 46]⟩, .string ⟨#[115, 117, 98, 46, 104, 111, 109, 101, 46]⟩, .string ⟨#[121, 46, 115, 117, 98, 46, 104, 111, 109, 101, 46]⟩] 9
 have g0 : w.grownBy ((w.alloc (.cells #[.slice none 0 0] 26)).alloc (.cells #[.string ⟨#[46]⟩, .string ⟨#[104, 111, 109, 101, 46]⟩, .string ⟨#[112, 99, 46, 104, 111, 109, 101, 46]⟩, .string ⟨#[116, 118, 46, 104, 111, 109, 101, 46]⟩, .string ⟨#[97, 46, 112, 99, 46, 104, 111, 109, 101, 46]⟩, .string ⟨#[99, 111, 109, 46]⟩, .string ⟨#[120, 46, 99, 111, 109, 46]⟩, .string ⟨#[119, 119, 119, 46, 120, 46, 99, 111, 109, 46]⟩, .string ⟨#[110, 115, 46, 99, 111, 109, 46]⟩, .string ⟨#[51, 46, 48, 46, 48, 46, 49, 48, 46, 105, 110, 45, 97, 100, 100, 114, 46, 97, 114, 112, 97, 46]⟩, .string ⟨#[115, 117, 98, 46, 104, 111, 109, 101, 46]⟩, .string ⟨#[121, 46, 115, 117, 98, 46, 104, 111, 109, 101, 46]⟩] 9)) (some g) := grown_own (grown_own (row := some g) ⟨rfl, rfl, rfl, Nat.le_refl _, fun _ _ _ => rfl⟩ (grown_alloc w (.cells #[.slice none 0 0] 26) none) (fun j e => by cases e)) (grown_alloc _ _ none) (fun j e => by cases e)
 have hc0 := hc.later (grown_own (grown_own (row := none) ⟨rfl, rfl, rfl, Nat.le_refl _, fun _ _ _ => rfl⟩ (grown_alloc w (.cells #[.slice none 0 0] 26) none) (fun j e => by cases e)) (grown_alloc _ (.cells #[.string ⟨#[46]⟩, .string ⟨#[104, 111, 109, 101, 46]⟩, .string ⟨#[112, 99, 46, 104, 111, 109, 101, 46]⟩, .string ⟨#[116, 118, 46, 104, 111, 109, 101, 46]⟩, .string ⟨#[97, 46, 112, 99, 46, 104, 111, 109, 101, 46]⟩, .string ⟨#[99, 111, 109, 46]⟩, .string ⟨#[120, 46, 99, 111, 109, 46]⟩, .string ⟨#[119, 119, 119, 46, 120, 46, 99, 111, 109, 46]⟩, .string ⟨#[110, 115, 46, 99, 111, 109, 46]⟩, .string ⟨#[51, 46, 48, 46, 48, 46, 49, 48, 46, 105, 110, 45, 97, 100, 100, 114, 46, 97, 114, 112, 97, 46]⟩, .string ⟨#[115, 117, 98, 46, 104, 111, 109, 101, 46]⟩, .string ⟨#[121, 46, 115, 117, 98, 46, 104, 111, 109, 101, 46]⟩] 9) none) (fun j e => by cases e)) (fun j e => by cases e)
 have hL0 := hL.later g0 (fun j e => by cases e; exact Nat.le_refl _)
 have HB := hide (l1Below_any 12 hc0 hL0 hm (by omega) (by omega))
 have K0 := hide k0
 have R0 := hide r0
 have G0 := hide g0
 clear hc hL k0 r0 g0 hc0 hL0
 go_enter Try.func82, Try.ntmps82
 go_wp2_with fail
 generalize (w.alloc (.cells #[.slice none 0 0] 26)).alloc (.cells #[.string ⟨#[46]⟩, .string ⟨#[104, 111, 109, 101, 46]⟩, .string ⟨#[112, 99, 46, 104, 111, 109, 101, 46]⟩, .string ⟨#[116, 118, 46, 104, 111, 109, 101, 46]⟩, .string ⟨#[97, 46, 112, 99, 46, 104, 111, 109, 101, 46]⟩, .string ⟨#[99, 111, 109, 46]⟩, .string ⟨#[120, 46, 99, 111, 109, 46]⟩, .string ⟨#[119, 119, 119, 46, 120, 46, 99, 111, 109, 46]⟩, .string ⟨#[110, 115, 46, 99, 111, 109, 46]⟩, .string ⟨#[51, 46, 48, 46, 48, 46, 49, 48, 46, 105, 110, 45, 97, 100, 100, 114, 46, 97, 114, 112, 97, 46]⟩, .string ⟨#[115, 117, 98, 46, 104, 111, 109, 101, 46]⟩, .string ⟨#[121, 46, 115, 117, 98, 46, 104, 111, 109, 101, 46]⟩] 9) = W at *
 refine (unhide HB).mono ?_
 rintro e w1 ⟨x, rfl, hx0, hx1, hc1, g1⟩
 obtain ⟨k, rfl⟩ := Int.eq_ofNat_of_zero_le hx0
 have hk : k < 12 := by omega
 have hk' : (k : Int) < 12 := by omega
 have K1 := hide (block_grown g1 (unhide K0) (by simp; omega))
 obtain ⟨s, hs, cs⟩ := text_cell (block_grown g1 (unhide R0) (by simp; omega)) hk
 have HS := hide hs
 have HO := hide (l2of_any s w1 (drawn_size s hs))
 have G1 := hide g1
 have C1 := hide hc1
 have z1 := g1.size
 have zk := block_lt (unhide K1)
 clear hs HB K0 R0 g1 hc1
 go_wp2_with fail
 refine (unhide HO).mono ?_
 rintro e w2 ⟨v2, rfl, o2, b2⟩
 obtain ⟨oa, oc, rfl, _⟩ := o2.hasL.form
 have k2 := block_kept b2 (unhide K1)
 have c2 := block_one k2
 have f2 := block_frozen k2 0
 generalize hR : (nameRead (numsOf s)).1 = R at *
 have K2 := hide (block_set k2 (.slice oa R.length oc))
 have O2 := hide o2
 have B2 := hide b2
 have HRR := hide hR
 clear o2 b2 k2 K1 HO hR
 go_wp2_with fail
 refine bodyPost_ret (results_cell_row rfl _ _ w.heap.size 26 #[.slice oa R.length oc] (0, 0) _ rfl (unhide K2) Try.underlying26 rfl (by kernel_rfl)) rfl ?_
 have gA : w.grownBy w1 (some g) := ⟨(unhide G1).os.trans (unhide G0).os, (unhide G1).tape.trans (unhide G0).tape, (unhide G1).output.trans (unhide G0).output, by have := (unhide G0).size; omega, fun i hi hn => ((unhide G1).block i (by have := (unhide G0).size; omega) hn).trans ((unhide G0).block i hi hn)⟩
 have zw := (unhide G0).size
 have g2 : w1.grownBy (w2.setCell ⟨w.heap.size, 0, none⟩ (.slice oa R.length oc)) (some w.heap.size) := ⟨(grown_setCell w2 _ _).os.trans (unhide B2).os, (grown_setCell w2 _ _).tape.trans (unhide B2).tape, (grown_setCell w2 _ _).output.trans (unhide B2).output, Nat.le_trans (unhide B2).size (grown_setCell w2 _ _).size, fun i hi hn => ((grown_setCell w2 ⟨w.heap.size, 0, none⟩ (.slice oa R.length oc)).block i (Nat.lt_of_lt_of_le hi (unhide B2).size) (by simpa using hn)).trans ((unhide B2).block i hi)⟩
 exact ⟨_, R, rfl, ⟨s, unhide HS, (unhide HRR).symm⟩, ((unhide O2).kept (grown_setCell _ _ _) (by show w.heap.size < _; omega)).mono (by omega), (unhide C1).later g2 (fun j e => by cases e; exact hg), grown_own gA g2 (fun j e => by cases e; exact Nat.le_refl _)⟩
end Go.Proofs.Ytjgfljndeolmoaa

namespace Go.Proofs.Ytjgfljndeolmoaa
open Go.RowKit
set_option linter.unusedVariables false

set_option maxHeartbeats 1000000 in
set_option maxRecDepth 100000 in
theorem l1PickIn_any {g : Nat} {a : Option Addr} {len cap : Nat} {w : World} (gl n : Nat) (p : Int → Prop) (hc : Cur w g a len cap) (hL : Code w g a len) (hm : len ≤ maxLen) (hn0 : 1 ≤ n) (hn1 : n ≤ 1048576) (hlt : gl < w.heap.size) (hgl : g < gl)
  (hcell : ∀ j, j < n → ∃ z, w.cell? ⟨gl, j, none⟩ = some (.int .i64 z) ∧ p z) :
  Calls Try.prog 83 #[.pointer (some ⟨g, 0, none⟩), .slice (some ⟨gl, 0, none⟩) n n] w fun e w' => ∃ z, e = .returned (.int .i64 z) ∧ p z ∧ Cur w' g a len cap ∧ w.grownBy w' (some g) := by
 have HM := hide hm
 clear hm
 have HC := hide hcell
 clear hcell
 go_enter Try.func83, Try.ntmps83
 go_wp2_with fail
 refine (l1Below_any n hc hL (unhide HM) (by omega) (by omega)).mono ?_
 rintro e w1 ⟨x, rfl, hx0, hx1, hc1, g1⟩
 obtain ⟨j, rfl⟩ := Int.eq_ofNat_of_zero_le hx0
 obtain ⟨z, hz, hp⟩ := (unhide HC) j (by omega)
 have hz1 : w1.cell? ⟨gl, j, none⟩ = some (.int .i64 z) := by
  rw [World.cell?_of_block (w := w) (g1.block gl hlt (by simp; omega))]; exact hz
 have HP := hide hp
 clear hz hp
 go_wp2
 go_ret
 exact ⟨z, rfl, unhide HP, hc1, g1⟩
end Go.Proofs.Ytjgfljndeolmoaa
