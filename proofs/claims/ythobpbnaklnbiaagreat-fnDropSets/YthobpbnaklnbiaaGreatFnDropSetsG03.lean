/-
  Contracts of the specification's cursor over the bytes of a draw (l1New, l1Byte, l1Below, l1Once, l1PickInt, l1some): what is drawn is within its bounds; nothing but the cursor's own block is written. Contracts of the specification's l5owned: one of seven names of the house. Plain facts: an own row of texts that are only looked at, whoever owns them (constant texts among them). Plain facts for l2bent: one label more in the box of a name that is drawn. Plain facts: what a drawn name has, and how it fares while more is drawn. Plain facts: an append of a text's bytes; what may be read of a slice of bytes while a row grows.
-/
import Derived.Test.YthobpbnaklnbiaaGreatFnDropSetsG02
import Derived.Lib.AppendStr
namespace Go.Proofs.YthobpbnaklnbiaaGreat
open Go.RowKit
set_option linter.unusedVariables false
set_option maxHeartbeats 1000000
set_option maxRecDepth 100000

def Cur (w : World) (g : Nat) (a : Option Addr) (len cap : Nat) : Prop :=
 ∃ i h : Int, w.heap[g]? = some (.cells #[.slice a len cap, .int .i64 i, .int .i64 h] 97 (0, 0)) ∧ 0 ≤ i ∧ i ≤ len

def Code (w : World) (g : Nat) (a : Option Addr) (len : Nat) : Prop :=
 ∃ l : List Int, l.length = len ∧ (∀ k, 0 ≤ l.getD k 0 ∧ l.getD k 0 ≤ 255) ∧
  (l = [] ∨ ∃ b off, a = some ⟨b, off, none⟩ ∧ b < w.heap.size ∧ b < g ∧ ∀ i, i < l.length → w.cell? ⟨b, off + i, none⟩ = some (.int .u8 (l.getD i 0)))

theorem G8 (y : Int) : 0 ≤ bits .and .i64 y 255 ∧ bits .and .i64 y 255 ≤ 255 := by
 have h : bits .and .i64 y 255 = IntKind.i64.wrap ((BitVec.ofInt 64 y &&& BitVec.ofInt 64 ((255 : Nat) : Int)).toNat : Int) := rfl
 rw [h, BitVec.toNat_and, ofInt_u64 255 (by omega)]
 have h2 : (BitVec.ofInt 64 y).toNat &&& 255 ≤ 255 := Nat.and_le_right
 rw [Bl _ (by omega)]
 omega

theorem Sc {w : World} {g : Nat} {x y z : Value} {t : TypeId} (h : w.heap[g]? = some (.cells #[x, y, z] t (0, 0))) :
  w.cell? ⟨g, 0, none⟩ = some x ∧ w.cell? ⟨g, 1, none⟩ = some y ∧ w.cell? ⟨g, 2, none⟩ = some z ∧ w.frozen? ⟨g, 1, none⟩ = false ∧ w.frozen? ⟨g, 2, none⟩ = false := by
 simp [World.cell?, World.frozen?, h]

theorem set_at1 {w : World} {g : Nat} {x y z : Value} {t : TypeId} (h : w.heap[g]? = some (.cells #[x, y, z] t (0, 0))) (u : Value) : (w.setCell ⟨g, 1, none⟩ u).heap[g]? = some (.cells #[x, u, z] t (0, 0)) := by
 simp [World.setCell, Array.getElem?_modify, h]
theorem set_at2 {w : World} {g : Nat} {x y z : Value} {t : TypeId} (h : w.heap[g]? = some (.cells #[x, y, z] t (0, 0))) (u : Value) : (w.setCell ⟨g, 2, none⟩ u).heap[g]? = some (.cells #[x, y, u] t (0, 0)) := by
 simp [World.setCell, Array.getElem?_modify, h]

theorem Qv (w : World) (g j : Nat) (u : Value) : w.grownBy (w.setCell ⟨g, j, none⟩ u) (some g) :=
 ⟨rfl, rfl, rfl, by simp, fun k _ hk => Below.heap_setCell w ⟨g, j, none⟩ u k (fun e => hk (by rw [e]))⟩

theorem Hs (w : World) (n : Nat) (row : Option Nat) : w.grownBy (w.drewN n) row := ⟨rfl, rfl, rfl, Nat.le_refl _, fun _ _ _ => rfl⟩

theorem Ep {g : Nat} {a : Option Addr} {len cap : Nat} {w : World} (hc : Cur w g a len cap) (hL : Code w g a len) (hm : len ≤ maxLen) :
  Calls Tryz.prog 110 #[.pointer (some ⟨g, 0, none⟩)] w fun e w' => ∃ x, e = .returned (.int .i64 x) ∧ 0 ≤ x ∧ x ≤ 255 ∧ Cur w' g a len cap ∧ w.grownBy w' (some g) := by
 obtain ⟨i, h, hg, hi0, hi1⟩ := hc
 obtain ⟨c0, c1, c2, f1, f2⟩ := Sc hg
 unfold maxLen at hm
 go_enter Tryz.func110, Tryz.ntmps110
 go_wp2
 generalize hh : wrap64 (wrap64 (h * 6364136223846793005) + 1442695040888963407) = h'
 clear hh
 have hg1 := set_at2 hg (.int .i64 h')
 have k1 := Qv w g 2 (.int .i64 h')
 obtain ⟨l, hln, hb, hLl⟩ := hL
 have HN := UC hln
 clear hln
 have hL1 : Lies (w.setCell ⟨g, 2, none⟩ (.int .i64 h')) a l := by
  rcases hLl with rfl | ⟨b, off, rfl, hlt, hlg, hcl⟩
  ·exact .inl rfl
  ·refine .inr ⟨b, off, rfl, by simpa using hlt, fun j hj => ?_⟩
   rw [World.cell?_of_block (w := w) (k1.block b hlt (by simp; omega))]
   exact hcl j hj
 clear c0 c1 c2 f1 f2 hLl hg
 generalize w.setCell ⟨g, 2, none⟩ (.int .i64 h') = W at *
 obtain ⟨c0, c1, c2, f1, f2⟩ := Sc hg1
 have HG := UC hg1
 clear hg1
 by_cases hlt : i < len
 ·obtain ⟨j, rfl⟩ := Int.eq_ofNat_of_zero_le hi0
  obtain ⟨b, off, rfl, _, hcj⟩ := hL1.here (k := j) (by rw [UB HN]; omega)
  have hx := hb j
  generalize l.getD j 0 = x at *
  have HB := UC hb
  clear hb
  go_quiet (fail)
  go_wp2
  go_quiet (fail)
  go_wp2
  go_quiet (fail)
  go_wp2
  go_ret
  refine ⟨_, rfl, (G8 _).1, (G8 _).2, ?_, ?_⟩
  ·exact ⟨(j : Int) + 1, h', set_at1 (w := W.drewN _) (UB HG) _, by omega, by omega⟩
  ·exact Ae k1 (Ae (Hs W _ _) (Qv _ g 1 _))
 ·have hlt' : decide (i < (len : Int)) = false := by simp; omega
  go_quiet (fail)
  go_wp2
  go_quiet (fail)
  go_wp2
  go_ret
  refine ⟨_, rfl, (G8 _).1, (G8 _).2, ⟨i, h', UB HG, by omega, by omega⟩, ?_⟩
  exact Ae k1 (Ae (Hs W _ _) (Hs _ _ _))

theorem Code.later {w w' : World} {g : Nat} {a : Option Addr} {len : Nat} {row : Option Nat} (h : Code w g a len) (hg : w.grownBy w' row) (hr : ∀ j, row = some j → g ≤ j) : Code w' g a len := by
 obtain ⟨l, h1, h2, h3⟩ := h
 refine ⟨l, h1, h2, ?_⟩
 rcases h3 with rfl | ⟨b, off, rfl, hlt, hlg, hcl⟩
 ·exact .inl rfl
 ·refine .inr ⟨b, off, rfl, Nat.lt_of_lt_of_le hlt hg.size, hlg, fun j hj => ?_⟩
  rw [World.cell?_of_block (w := w) (hg.block b hlt (by intro e; have := hr b e.symm; omega))]
  exact hcl j hj

theorem Code.grown {w w' : World} {g : Nat} {a : Option Addr} {len : Nat} (h : Code w g a len) (hg : w.grownBy w' (some g)) : Code w' g a len := h.later hg (fun j e => by simp at e; omega)

theorem A7 {g : Nat} {a : Option Addr} {len cap : Nat} {w : World} (n : Int) (hc : Cur w g a len cap) (hL : Code w g a len) (hm : len ≤ maxLen) (hn0 : 1 ≤ n) (hn1 : n ≤ 1099511627776) :
  Calls Tryz.prog 80 #[.pointer (some ⟨g, 0, none⟩), .int .i64 n] w fun e w' => ∃ x, e = .returned (.int .i64 x) ∧ 0 ≤ x ∧ x < n ∧ Cur w' g a len cap ∧ w.grownBy w' (some g) := by
 have HM := UC hm
 clear hm
 by_cases h256 : n ≤ 256
 ·go_enter Tryz.func80, Tryz.ntmps80
  go_wp2_with fail
  refine (Ep hc hL (UB HM)).mono ?_
  rintro e w1 ⟨x, rfl, hx0, hx1, hc1, g1⟩
  go_wp2
  go_ret
  exact ⟨_, rfl, Int.emod_nonneg _ (by omega), Int.emod_lt_of_pos _ (by omega), hc1, g1⟩
 ·go_enter Tryz.func80, Tryz.ntmps80
  go_wp2_with fail
  refine (Ep hc hL (UB HM)).mono ?_
  rintro e w1 ⟨x1, rfl, x10, x11, hc1, g1⟩
  have hL1 := hL.grown g1
  go_wp2_with fail
  refine (Ep hc1 hL1 (UB HM)).mono ?_
  rintro e w2 ⟨x2, rfl, x20, x21, hc2, g2⟩
  have hL2 := hL1.grown g2
  go_wp2_with fail
  refine (Ep hc2 hL2 (UB HM)).mono ?_
  rintro e w3 ⟨x3, rfl, x30, x31, hc3, g3⟩
  have hL3 := hL2.grown g3
  go_wp2_with fail
  refine (Ep hc3 hL3 (UB HM)).mono ?_
  rintro e w4 ⟨x4, rfl, x40, x41, hc4, g4⟩
  go_wp2
  go_ret
  exact ⟨_, rfl, Int.emod_nonneg _ (by omega), Int.emod_lt_of_pos _ (by omega), hc4, Ae (Ae (Ae g1 g2) g3) g4⟩

theorem Cur.lt {w : World} {g : Nat} {a : Option Addr} {len cap : Nat} (h : Cur w g a len cap) : g < w.heap.size := by
 obtain ⟨i, x, h1, _⟩ := h
 exact (Array.getElem?_eq_some_iff.1 h1).1

theorem Cur.later {w w' : World} {g : Nat} {a : Option Addr} {len cap : Nat} {row : Option Nat} (h : Cur w g a len cap) (hg : w.grownBy w' row) (hr : ∀ j, row = some j → g < j) : Cur w' g a len cap := by
 have hlt := h.lt
 obtain ⟨i, x, h1, h2⟩ := h
 refine ⟨i, x, ?_, h2⟩
 rw [hg.block g hlt (by intro e; have := hr g e.symm; omega)]
 exact h1

theorem Az (w : World) (o : Obj) (row : Option Nat) : w.grownBy (w.alloc o) row := World.grownBy_alloc w o row

theorem Ad {w a b : World} {row row' : Option Nat} (h : w.grownBy a row) (k : a.grownBy b row') (hr : ∀ j, row' = some j → w.heap.size ≤ j) : w.grownBy b row :=
 ⟨k.os.trans h.os, k.tape.trans h.tape, k.output.trans h.output, Nat.le_trans h.size k.size, fun i hi hn => (k.block i (Nat.lt_of_lt_of_le hi h.size) (by intro e; have := hr i e.symm; omega)).trans (h.block i hi hn)⟩

theorem Xc {a : Option Addr} {len cap : Nat} {w : World} (l : List Int) (hL : Lies w a l) (hn : l.length = len) (hb : ∀ k, 0 ≤ l.getD k 0 ∧ l.getD k 0 ≤ 255) (hm : len ≤ maxLen) :
  Calls Tryz.prog 47 #[.slice a len cap] w fun e w' => e = .returned (.pointer (some ⟨w.heap.size, 0, none⟩)) ∧ Cur w' w.heap.size a len cap ∧ Code w' w.heap.size a len ∧ Below w.heap.size w w' := by
 have HN := UC hn
 clear hn
 have HB := UC hb
 clear hb
 unfold maxLen at hm
 go_enter Tryz.func47, Tryz.ntmps47
 go_wp2
 go_loop [3, 4] (fun hv i => ∃ (k : Nat) (h : Int), k ≤ len ∧ i = .int .i64 k ∧ hv = .int .i64 h) (fun _ i => len - (intOf i).toNat)
 case atStart => exact ⟨0, _, Nat.zero_le _, rfl, rfl⟩
 case round =>
  obtain ⟨k, h, hk, rfl, rfl⟩ := hrel
  have fin : ∀ h' : Int, Cur (w.alloc (.cells #[.slice a len cap, .int .i64 0, .int .i64 h'] 97)) w.heap.size a len cap ∧ Code (w.alloc (.cells #[.slice a len cap, .int .i64 0, .int .i64 h'] 97)) w.heap.size a len ∧ Below w.heap.size w (w.alloc (.cells #[.slice a len cap, .int .i64 0, .int .i64 h'] 97)) := by
   intro h'
   have hbl : Below w.heap.size w (w.alloc (.cells #[.slice a len cap, .int .i64 0, .int .i64 h'] 97)) := (Below.refl _ _).alloc (Nat.le_refl _) _
   refine ⟨⟨0, h', heap_alloc_new w _, by omega, by omega⟩, ⟨l, UB HN, UB HB, ?_⟩, hbl⟩
   rcases hL.below hbl with rfl | ⟨b, off, e, hlt', hcl⟩
   ·exact .inl rfl
   ·rcases hL with rfl | ⟨b', off', e', hlt, _⟩
    ·exact .inl rfl
    ·rw [e] at e'
     simp at e'
     exact .inr ⟨b, off, e, hlt', by omega, hcl⟩
  have FIN := UC fin
  clear fin
  by_cases hlt : k < len
  ·by_cases h4000 : k < 4000
   ·obtain ⟨b, off, rfl, _, hc⟩ := hL.here (k := k) (by rw [UB HN]; exact hlt)
    have hx := (UB HB) k
    generalize l.getD k 0 = x at *
    go_wp2
    exact ⟨⟨k + 1, _, by omega, by go_num, rfl⟩, by simp [intOf]; omega⟩
   ·have i4 : ¬ (k : Int) < 4000 := by omega
    go_wp2
    go_ret
    exact ⟨rfl, UB FIN _⟩
  ·go_wp2
   go_ret
   exact ⟨rfl, UB FIN _⟩
def Cn : List ByteArray := [⟨#[104, 111, 109, 101, 46]⟩, ⟨#[112, 99, 46, 104, 111, 109, 101, 46]⟩, ⟨#[116, 118, 46, 104, 111, 109, 101, 46]⟩, ⟨#[97, 46, 112, 99, 46, 104, 111, 109, 101, 46]⟩, ⟨#[115, 117, 98, 46, 104, 111, 109, 101, 46]⟩, ⟨#[121, 46, 115, 117, 98, 46, 104, 111, 109, 101, 46]⟩, ⟨#[110, 115, 46, 115, 117, 98, 46, 104, 111, 109, 101, 46]⟩]
theorem Uh : ∀ s ∈ Cn, s.size ≤ 1048576 := by decide +kernel
theorem Yi : ∀ s ∈ Cn, Af (A2 (Ca s)).1 = true := by decide +kernel
theorem Vk {w : World} {b : Nat} {t : TypeId} (h : w.heap[b]? = some (.cells #[.string ⟨#[104, 111, 109, 101, 46]⟩, .string ⟨#[112, 99, 46, 104, 111, 109, 101, 46]⟩, .string ⟨#[116, 118, 46, 104, 111, 109, 101, 46]⟩, .string ⟨#[97, 46, 112, 99, 46, 104, 111, 109, 101, 46]⟩, .string ⟨#[115, 117, 98, 46, 104, 111, 109, 101, 46]⟩, .string ⟨#[121, 46, 115, 117, 98, 46, 104, 111, 109, 101, 46]⟩, .string ⟨#[110, 115, 46, 115, 117, 98, 46, 104, 111, 109, 101, 46]⟩] t)) {k : Nat} (hk : k < 7) : ∃ s ∈ Cn, w.cell? ⟨b, k, none⟩ = some (.string s) := by
 have hc := VE h k
 match k, hk with
 | 0, _ => exact ⟨⟨#[104, 111, 109, 101, 46]⟩, by simp [Cn], hc⟩
 | 1, _ => exact ⟨⟨#[112, 99, 46, 104, 111, 109, 101, 46]⟩, by simp [Cn], hc⟩
 | 2, _ => exact ⟨⟨#[116, 118, 46, 104, 111, 109, 101, 46]⟩, by simp [Cn], hc⟩
 | 3, _ => exact ⟨⟨#[97, 46, 112, 99, 46, 104, 111, 109, 101, 46]⟩, by simp [Cn], hc⟩
 | 4, _ => exact ⟨⟨#[115, 117, 98, 46, 104, 111, 109, 101, 46]⟩, by simp [Cn], hc⟩
 | 5, _ => exact ⟨⟨#[121, 46, 115, 117, 98, 46, 104, 111, 109, 101, 46]⟩, by simp [Cn], hc⟩
 | 6, _ => exact ⟨⟨#[110, 115, 46, 115, 117, 98, 46, 104, 111, 109, 101, 46]⟩, by simp [Cn], hc⟩

set_option maxHeartbeats 2000000 in
set_option maxRecDepth 100000 in
theorem It {g : Nat} {a : Option Addr} {len cap : Nat} {w : World} (hc : Cur w g a len cap) (hL : Code w g a len) (hm : len ≤ maxLen) :
  Calls Tryz.prog 52 #[.pointer (some ⟨g, 0, none⟩)] w fun e w' => ∃ v' n, e = .returned (.agg #[v']) ∧ Af n = true ∧ OwnL w.heap.size 22 5 w' v' n ∧ Cur w' g a len cap ∧ w.grownBy w' (some g) := by
 have hg := hc.lt
 obtain ⟨hsz, k0, r0⟩ := box2 w (.cells #[.slice none 0 0] 25) #[.string ⟨#[104, 111, 109, 101, 46]⟩, .string ⟨#[112, 99, 46, 104, 111, 109, 101, 46]⟩, .string ⟨#[116, 118, 46, 104, 111, 109, 101, 46]⟩, .string ⟨#[97, 46, 112, 99, 46, 104, 111, 109, 101, 46]⟩, .string ⟨#[115, 117, 98, 46, 104, 111, 109, 101, 46]⟩, .string ⟨#[121, 46, 115, 117, 98, 46, 104, 111, 109, 101, 46]⟩, .string ⟨#[110, 115, 46, 115, 117, 98, 46, 104, 111, 109, 101, 46]⟩] 9
 have g0 : w.grownBy ((w.alloc (.cells #[.slice none 0 0] 25)).alloc (.cells #[.string ⟨#[104, 111, 109, 101, 46]⟩, .string ⟨#[112, 99, 46, 104, 111, 109, 101, 46]⟩, .string ⟨#[116, 118, 46, 104, 111, 109, 101, 46]⟩, .string ⟨#[97, 46, 112, 99, 46, 104, 111, 109, 101, 46]⟩, .string ⟨#[115, 117, 98, 46, 104, 111, 109, 101, 46]⟩, .string ⟨#[121, 46, 115, 117, 98, 46, 104, 111, 109, 101, 46]⟩, .string ⟨#[110, 115, 46, 115, 117, 98, 46, 104, 111, 109, 101, 46]⟩] 9)) (some g) := Ad (Ad (row := some g) ⟨rfl, rfl, rfl, Nat.le_refl _, fun _ _ _ => rfl⟩ (Az w (.cells #[.slice none 0 0] 25) none) (fun j e => by cases e)) (Az _ _ none) (fun j e => by cases e)
 have hc0 := hc.later (Ad (Ad (row := none) ⟨rfl, rfl, rfl, Nat.le_refl _, fun _ _ _ => rfl⟩ (Az w (.cells #[.slice none 0 0] 25) none) (fun j e => by cases e)) (Az _ (.cells #[.string ⟨#[104, 111, 109, 101, 46]⟩, .string ⟨#[112, 99, 46, 104, 111, 109, 101, 46]⟩, .string ⟨#[116, 118, 46, 104, 111, 109, 101, 46]⟩, .string ⟨#[97, 46, 112, 99, 46, 104, 111, 109, 101, 46]⟩, .string ⟨#[115, 117, 98, 46, 104, 111, 109, 101, 46]⟩, .string ⟨#[121, 46, 115, 117, 98, 46, 104, 111, 109, 101, 46]⟩, .string ⟨#[110, 115, 46, 115, 117, 98, 46, 104, 111, 109, 101, 46]⟩] 9) none) (fun j e => by cases e)) (fun j e => by cases e)
 have hL0 := hL.later g0 (fun j e => by cases e; exact Nat.le_refl _)
 have HB := UC (A7 7 hc0 hL0 hm (by omega) (by omega))
 have K0 := UC k0
 have R0 := UC r0
 have G0 := UC g0
 clear hc hL k0 r0 g0 hc0 hL0
 go_enter Tryz.func52, Tryz.ntmps52
 go_wp2_with fail
 generalize (w.alloc (.cells #[.slice none 0 0] 25)).alloc (.cells #[.string ⟨#[104, 111, 109, 101, 46]⟩, .string ⟨#[112, 99, 46, 104, 111, 109, 101, 46]⟩, .string ⟨#[116, 118, 46, 104, 111, 109, 101, 46]⟩, .string ⟨#[97, 46, 112, 99, 46, 104, 111, 109, 101, 46]⟩, .string ⟨#[115, 117, 98, 46, 104, 111, 109, 101, 46]⟩, .string ⟨#[121, 46, 115, 117, 98, 46, 104, 111, 109, 101, 46]⟩, .string ⟨#[110, 115, 46, 115, 117, 98, 46, 104, 111, 109, 101, 46]⟩] 9) = W at *
 refine (UB HB).mono ?_
 rintro e w1 ⟨x, rfl, hx0, hx1, hc1, g1⟩
 obtain ⟨k, rfl⟩ := Int.eq_ofNat_of_zero_le hx0
 have hk : k < 7 := by omega
 have hk' : (k : Int) < 7 := by omega
 have K1 := UC (Ab g1 (UB K0) (by simp; omega))
 obtain ⟨s, hs, cs⟩ := Vk (Ab g1 (UB R0) (by simp; omega)) hk
 have HS := UC hs
 have HO := UC (Gp s w1 (Uh s hs))
 have G1 := UC g1
 have C1 := UC hc1
 have z1 := g1.size
 have zk := VC (UB K1)
 clear hs HB K0 R0 g1 hc1
 go_wp2_with fail
 refine (UB HO).mono ?_
 rintro e w2 ⟨v2, rfl, o2, b2⟩
 obtain ⟨oa, oc, rfl, _⟩ := o2.hasL.form
 have k2 := UE b2 (UB K1)
 have c2 := US k2
 have f2 := VG k2 0
 generalize hR : (A2 (Ca s)).1 = R at *
 have K2 := UC (At k2 (.slice oa R.length oc))
 have O2 := UC o2
 have B2 := UC b2
 have HRR := UC hR
 clear o2 b2 k2 K1 HO hR
 go_wp2_with fail
 refine bodyPost_ret (results_cell_row rfl _ _ w.heap.size 25 #[.slice oa R.length oc] (0, 0) _ rfl (UB K2) Tryz.underlying25 rfl (by kernel_rfl)) rfl ?_
 have gA : w.grownBy w1 (some g) := ⟨(UB G1).os.trans (UB G0).os, (UB G1).tape.trans (UB G0).tape, (UB G1).output.trans (UB G0).output, by have := (UB G0).size; omega, fun i hi hn => ((UB G1).block i (by have := (UB G0).size; omega) hn).trans ((UB G0).block i hi hn)⟩
 have zw := (UB G0).size
 have g2 : w1.grownBy (w2.setCell ⟨w.heap.size, 0, none⟩ (.slice oa R.length oc)) (some w.heap.size) := ⟨(Aa w2 _ _).os.trans (UB B2).os, (Aa w2 _ _).tape.trans (UB B2).tape, (Aa w2 _ _).output.trans (UB B2).output, Nat.le_trans (UB B2).size (Aa w2 _ _).size, fun i hi hn => ((Aa w2 ⟨w.heap.size, 0, none⟩ (.slice oa R.length oc)).block i (Nat.lt_of_lt_of_le hi (UB B2).size) (by simpa using hn)).trans ((UB B2).block i hi)⟩
 exact ⟨_, R, rfl, by rw [← UB HRR]; exact Yi s (UB HS), ((UB O2).kept (Aa _ _ _) (by show w.heap.size < _; omega)).mono (by omega), (UB C1).later g2 (fun j e => by cases e; exact hg), Ad gA g2 (fun j e => by cases e; exact Nat.le_refl _)⟩
def Cj (eb : TypeId) (w : World) (x : Value) : Prop := ∀ g off len cap, x = .slice (some ⟨g, off, none⟩) len cap → ∃ c fr, w.heap[g]? = some (.cells c eb fr)
def OwnT (B : Nat) (el eb : TypeId) (w : World) (v : Value) (n : List (List Int)) : Prop :=
 ∃ vs : List Value, w.ownsRow B el 1 v n.length vs ∧ ∀ i, i < n.length → ∃ x, vs[i]? = some x ∧ Has w x (n.getD i []) ∧ Cj eb w x
theorem Cj.nil (eb : TypeId) (w : World) : Cj eb w (.slice none 0 0) := fun g off len cap e => by cases e
theorem Cj.below {eb : TypeId} {w w' : World} {x : Value} (h : Cj eb w x) (hb : Below w.heap.size w w') : Cj eb w' x := fun g off len cap e => by
 obtain ⟨c, fr, h1⟩ := h g off len cap e
 exact ⟨c, fr, (hb.block g (VC h1)).trans h1⟩
theorem Own.typed {B : Nat} {eb : TypeId} {w : World} {x : Value} {l : List Int} (h : Own B eb w x l) : Cj eb w x := fun g off len cap e => by
 rcases h.2 with ⟨h1, _⟩ | ⟨g', cap', cur, h1, _, h2, _⟩
 ·rw [h1] at e; cases e
 ·rw [h1] at e; cases e
  exact ⟨_, _, h2⟩
theorem OwnL.ownT {B : Nat} {el eb : TypeId} {w : World} {v : Value} {n : List (List Int)} (h : OwnL B el eb w v n) : OwnT B el eb w v n := by
 obtain ⟨vs, h1, h2, _⟩ := h
 refine ⟨vs, h1, fun i hi => ?_⟩
 obtain ⟨x, h3, h4⟩ := h2 i hi
 exact ⟨x, h3, h4.has, h4.typed⟩
theorem OwnT.mono {B B' : Nat} {el eb : TypeId} {w : World} {v : Value} {n : List (List Int)} (h : OwnT B el eb w v n) (hB : B' ≤ B) : OwnT B' el eb w v n := by
 obtain ⟨vs, h1, h2⟩ := h
 exact ⟨vs, Fe h1 hB, h2⟩
theorem OwnT.below {B : Nat} {el eb : TypeId} {w w' : World} {v : Value} {n : List (List Int)} (h : OwnT B el eb w v n) (hb : Below w.heap.size w w') : OwnT B el eb w' v n := by
 obtain ⟨vs, h1, h2⟩ := h
 refine ⟨vs, Ay h1 hb, fun i hi => ?_⟩
 obtain ⟨x, h3, h4, h5⟩ := h2 i hi
 exact ⟨x, h3, h4.below hb, h5.below hb⟩
theorem Vi {B b n : Nat} {e t : TypeId} {w : World} {v : Value} {xs : List Value} {c : Array Value} {fr : Nat × Nat} (h : w.ownsRow B e 1 v n xs) (hb : w.heap[b]? = some (.cells c t fr)) (hne : t ≠ e) : v.ownBlock ≠ some b := by
 intro hq
 rcases h.2 with ⟨rfl, _⟩ | ⟨g, cap, cur, rfl, _, hg, _⟩
 ·simp [Value.ownBlock] at hq
 ·simp [Value.ownBlock] at hq
  subst hq
  rw [hg] at hb
  simp at hb
  exact hne hb.2.1.symm
theorem Has.off_row {B n : Nat} {el eb : TypeId} {w w' : World} {v x : Value} {xs : List Value} {l : List Int} (hr : w.ownsRow B el 1 v n xs) (hne : eb ≠ el) (h : Has w x l) (ht : Cj eb w x) (hg : w.grownBy w' v.ownBlock) : Has w' x l ∧ Cj eb w' x := by
 have key : ∀ g off len cap, x = .slice (some ⟨g, off, none⟩) len cap → w'.heap[g]? = w.heap[g]? := fun g off len cap e => by
  obtain ⟨c, fr, h1⟩ := ht g off len cap e
  have := Vi hr h1 hne
  exact hg.block g (VC h1) (fun q => this q.symm)
 refine ⟨?_, fun g off len cap e => ?_⟩
 ·rcases h with h | ⟨g, off, cap, e, h1, h2, h3, h4⟩
  ·exact .inl h
  ·refine .inr ⟨g, off, cap, e, Nat.lt_of_lt_of_le h1 hg.size, h2, h3, fun i hi => ?_⟩
   have hc := h4 i hi
   unfold World.cell? at hc ⊢
   rw [key g off _ cap e]
   exact hc
 ·obtain ⟨c, fr, h1⟩ := ht g off len cap e
  exact ⟨c, fr, (key g off len cap e).trans h1⟩
theorem OwnT.snoc {B m : Nat} {el eb : TypeId} {W w' : World} {v v' u : Value} {n : List (List Int)} {l : List Int} {vs : List Value} (hvs : W.ownsRow B el 1 v n.length vs) (hva : ∀ i, i < n.length → ∃ x, vs[i]? = some x ∧ Has W x (n.getD i []) ∧ Cj eb W x)
  (hu : Has W u l) (htu : Cj eb W u) (hne : eb ≠ el) (ho : w'.ownsRow B el 1 v' m (vs ++ [u])) (hm : m = n.length + 1) (hg : W.grownBy w' v.ownBlock) : OwnT B el eb w' v' (n ++ [l]) := by
 have hl : vs.length = n.length := by have := hvs.1; simpa using this
 subst hm
 refine ⟨vs ++ [u], by simpa using ho, fun i hi => ?_⟩
 simp at hi
 by_cases h : i < n.length
 ·obtain ⟨x, h1, h2, h3⟩ := hva i h
  have := Has.off_row hvs hne h2 h3 hg
  refine ⟨x, by rw [List.getElem?_append_left (by omega)]; exact h1, ?_, this.2⟩
  rw [List.getD_eq_getElem?_getD, List.getElem?_append_left h, ← List.getD_eq_getElem?_getD]
  exact this.1
 ·obtain rfl : i = n.length := by omega
  have := Has.off_row hvs hne hu htu hg
  refine ⟨u, by rw [← hl]; simp, ?_, this.2⟩
  rw [List.getD_eq_getElem?_getD]
  simp
  exact this.1
theorem Has.off_cell {eb t : TypeId} {w : World} {x : Value} {l : List Int} {q j : Nat} {c : Array Value} (h : Has w x l) (ht : Cj eb w x) (hk : w.heap[q]? = some (.cells c t)) (hne : t ≠ eb) (u : Value) : Has (w.setCell ⟨q, j, none⟩ u) x l ∧ Cj eb (w.setCell ⟨q, j, none⟩ u) x := by
 have hg := Aa w ⟨q, j, none⟩ u
 have key : ∀ g off len cap, x = .slice (some ⟨g, off, none⟩) len cap → (w.setCell ⟨q, j, none⟩ u).heap[g]? = w.heap[g]? := fun g off len cap e => by
  obtain ⟨c', fr, h1⟩ := ht g off len cap e
  refine hg.block g (VC h1) ?_
  intro e'
  have e2 : g = q := by simpa using e'
  subst e2
  rw [hk] at h1
  simp at h1
  exact hne h1.2.1
 refine ⟨?_, fun g off len cap e => ?_⟩
 ·rcases h with h | ⟨g, off, cap, e, h1, h2, h3, h4⟩
  ·exact .inl h
  ·refine .inr ⟨g, off, cap, e, Nat.lt_of_lt_of_le h1 hg.size, h2, h3, fun i hi => ?_⟩
   have hc := h4 i hi
   unfold World.cell? at hc ⊢
   rw [key g off _ cap e]
   exact hc
 ·obtain ⟨c', fr, h1⟩ := ht g off len cap e
  exact ⟨c', fr, (key g off len cap e).trans h1⟩
theorem OwnT.set {B q j : Nat} {el eb t : TypeId} {w : World} {v : Value} {n : List (List Int)} {c : Array Value} (h : OwnT B el eb w v n) (hk : w.heap[q]? = some (.cells c t)) (h1 : t ≠ el) (h2 : t ≠ eb) (u : Value) : OwnT B el eb (w.setCell ⟨q, j, none⟩ u) v n := by
 obtain ⟨vs, h3, h4⟩ := h
 have hap := Cr h3 hk h1
 refine ⟨vs, World.ownsRow.kept h3 (Aa w ⟨q, j, none⟩ u) (by cases hq : v.ownBlock with | none => exact .inl rfl | some r => exact .inr (by intro e; simp at e; rw [hq, e] at hap; exact hap rfl)), fun i hi => ?_⟩
 obtain ⟨x, h5, h6, h7⟩ := h4 i hi
 have := Has.off_cell (j := j) h6 h7 hk h2 u
 exact ⟨x, h5, this.1, this.2⟩
theorem D6 {n : List (List Int)} {l : List Int} {k : Nat} (h : ∀ i, i < n.length → (n.getD i []).length ≤ k) (hl : l.length ≤ k) : ∀ i, i < (n ++ [l]).length → ((n ++ [l]).getD i []).length ≤ k := by
 intro i hi
 simp at hi
 by_cases h1 : i < n.length
 ·rw [List.getD_eq_getElem?_getD, List.getElem?_append_left h1, ← List.getD_eq_getElem?_getD]
  exact h i h1
 ·obtain rfl : i = n.length := by omega
  rw [List.getD_eq_getElem?_getD]
  simpa using hl
theorem Ea (w : World) (eb : TypeId) (C : Array Value) (fr : Nat × Nat) (n c : Nat) : Cj eb (w.alloc (.cells C eb fr)) (.slice (some ⟨w.heap.size, 0, none⟩) n c) := fun g off len cap e => by
 cases e
 exact ⟨C, fr, heap_alloc_new w (.cells C eb fr)⟩
theorem OwnT.form {B : Nat} {el eb : TypeId} {w : World} {v : Value} {n : List (List Int)} (h : OwnT B el eb w v n) : ∃ oa oc, v = .slice oa n.length oc := by
 obtain ⟨vs, h1, _⟩ := h
 rcases h1.2 with ⟨rfl, h0⟩ | ⟨g, cap, _, rfl, _⟩
 ·exact ⟨none, 0, by rw [h0]⟩
 ·exact ⟨_, cap, rfl⟩
def Y4 (w W w1 : World) (g : Nat) (a : Option Addr) (len cap : Nat) (k : Nat) (wr : World) : Prop :=
 ∃ (n : List (List Int)) (v : Value), n.length + k = 7 ∧ (∀ i, i < n.length → (n.getD i []).length ≤ 16) ∧ wr.heap[w1.heap.size]? = some (.cells #[v] 25) ∧ wr.heap[w.heap.size]? = some (.cells #[.slice none 0 0] 25)
  ∧ OwnT W.heap.size 22 5 wr v n ∧ Cur wr g a len cap ∧ w.grownBy wr (some g)
theorem Em {B q r g m len cap : Nat} {a : Option Addr} {w0 w W w' : World} {v v' u z : Value} {n : List (List Int)} {l : List Int} {vs : List Value}
  (hvs : w.ownsRow B 22 1 v n.length vs) (hva : ∀ i, i < n.length → ∃ x, vs[i]? = some x ∧ Has w x (n.getD i []) ∧ Cj 5 w x) (hb : Below w.heap.size w W)
  (hu : Has W u l) (htu : Cj 5 W u) (ho : w'.ownsRow B 22 1 v' m (vs ++ [u])) (hm : m = n.length + 1) (hg : W.grownBy w' v.ownBlock)
  (hq : w.heap[q]? = some (.cells #[v] 25)) (hr : w.heap[r]? = some (.cells #[z] 25)) (hqr : q ≠ r) (hc : Cur w g a len cap) (hgB : g < B) (hgq : g < q) (h0 : w0.grownBy w (some g)) (hB : w0.heap.size ≤ B) (hq0 : w0.heap.size ≤ q) :
  w'.heap[q]? = some (.cells #[v] 25) ∧ OwnT B 22 5 (w'.setCell ⟨q, 0, none⟩ v') v' (n ++ [l]) ∧ (w'.setCell ⟨q, 0, none⟩ v').heap[q]? = some (.cells #[v'] 25) ∧ (w'.setCell ⟨q, 0, none⟩ v').heap[r]? = some (.cells #[z] 25)
   ∧ Cur (w'.setCell ⟨q, 0, none⟩ v') g a len cap ∧ w0.grownBy (w'.setCell ⟨q, 0, none⟩ v') (some g) := by
 have hW := Ay hvs hb
 have hap := Cr hW (UE hb hq) (by decide)
 have har := Cr hW (UE hb hr) (by decide)
 have k1 := Ab hg (UE hb hq) hap
 have k2 := Ab hg (UE hb hr) har
 have o1 : OwnT B 22 5 w' v' (n ++ [l]) := OwnT.snoc hW (fun i hi => by obtain ⟨x, h1, h2, h3⟩ := hva i hi; exact ⟨x, h1, h2.below hb, h3.below hb⟩) hu htu (by decide) ho hm hg
 have gs := Aa w' ⟨q, 0, none⟩ v'
 have hlt := World.ownsRow.lt hW
 have gb : w.grownBy W none := ⟨hb.os, hb.tape, hb.output, hb.size, fun i hi _ => hb.block i hi⟩
 refine ⟨k1, o1.set k1 (by decide) (by decide) _, At k1 v', Ab gs k2 (by simpa using hqr), ?_, ?_⟩
 ·exact ((hc.later gb (fun j e => by cases e)).later hg (fun j e => by have := (hlt j e).1; omega)).later gs (fun j e => by cases e; exact hgq)
 ·exact Ad (Ad (Ad h0 gb (fun j e => by cases e)) hg (fun j e => by have := (hlt j e).1; omega)) gs (fun j e => by cases e; exact hq0)
theorem OwnT.hasL {B : Nat} {el eb : TypeId} {w : World} {v : Value} {n : List (List Int)} (h : OwnT B el eb w v n) : HasL w v n := by
 obtain ⟨vs, h1, h2⟩ := h
 rcases h1.2 with ⟨rfl, hn⟩ | ⟨g, cap, cur, rfl, hb, hg, hn, hm, hs, ht⟩
 ·exact .inl ⟨rfl, List.eq_nil_of_length_eq_zero hn⟩
 ·refine .inr ⟨g, 0, cap, rfl, (World.ownsRow.lt h1 g rfl).2, hn, hm, fun i hi => ?_⟩
  obtain ⟨x, h3, h4, _⟩ := h2 i hi
  refine ⟨x, ?_, h4⟩
  rw [Nat.zero_add, World.ownsRow.cellAt h1 i (by omega), h3]
theorem OwnT.off {B q : Nat} {el eb t : TypeId} {w w' : World} {v : Value} {n : List (List Int)} {c : Array Value} (h : OwnT B el eb w v n) (hk : w.heap[q]? = some (.cells c t)) (h1 : t ≠ el) (h2 : t ≠ eb) (hg : w.grownBy w' (some q)) : OwnT B el eb w' v n := by
 obtain ⟨vs, h3, h4⟩ := h
 have hap := Cr h3 hk h1
 refine ⟨vs, World.ownsRow.kept h3 hg (.inr hap), fun i hi => ?_⟩
 obtain ⟨x, h5, h6, h7⟩ := h4 i hi
 have key : ∀ g off len cap, x = .slice (some ⟨g, off, none⟩) len cap → w'.heap[g]? = w.heap[g]? := fun g off len cap e => by
  obtain ⟨c', fr, e1⟩ := h7 g off len cap e
  refine hg.block g (VC e1) ?_
  intro e'
  have e2 : g = q := by simpa using e'
  subst e2
  rw [hk] at e1
  simp at e1
  exact h2 e1.2.1
 refine ⟨x, h5, ?_, fun g off len cap e => ?_⟩
 ·rcases h6 with h | ⟨g, off, cap, e, e1, e2, e3, e4⟩
  ·exact .inl h
  ·refine .inr ⟨g, off, cap, e, Nat.lt_of_lt_of_le e1 hg.size, e2, e3, fun i hi => ?_⟩
   have hc := e4 i hi
   unfold World.cell? at hc ⊢
   rw [key g off _ cap e]
   exact hc
 ·obtain ⟨c', fr, e1⟩ := h7 g off len cap e
  exact ⟨c', fr, (key g off len cap e).trans e1⟩
theorem OwnT.cur {B g len cap : Nat} {a : Option Addr} {w w' : World} {v : Value} {n : List (List Int)} (h : OwnT B 22 5 w v n) (hc : Cur w g a len cap) (hg : w.grownBy w' (some g)) : OwnT B 22 5 w' v n := by
 obtain ⟨i, x, h1, _⟩ := hc
 exact h.off h1 (by decide) (by decide) hg
section
variable {P : Program} {w : World}

end

theorem Has.head {w : World} {g off len cap : Nat} {l : List Int} (h : Has w (.slice (some ⟨g, off, none⟩) len cap) l) {i : Nat} (hi : i ≤ l.length) : Has w (.slice (some ⟨g, off, none⟩) i cap) (l.take i) := by
 have e : (l.take i).length = i := by simp; omega
 rcases h with ⟨hv, _⟩ | ⟨g', off', cap', hv, h1, h2, h3, hc⟩
 ·cases hv
 ·simp only [Value.slice.injEq, Option.some.injEq, Addr.mk.injEq] at hv
  obtain ⟨⟨rfl, rfl, _⟩, _, rfl⟩ := hv
  refine .inr ⟨g, off, cap, by rw [e], h1, by rw [e]; omega, h3, fun k hk => ?_⟩
  rw [e] at hk
  rw [hc k (by omega)]
  congr 2
  simp only [List.getD_eq_getElem?_getD]
  rw [List.getElem?_take_of_lt hk]
theorem Has.off {q : Nat} {eb t : TypeId} {w w' : World} {x : Value} {l : List Int} {c : Array Value} (h : Has w x l) (ht : Cj eb w x) (hk : w.heap[q]? = some (.cells c t)) (hne : t ≠ eb) (hg : w.grownBy w' (some q)) : Has w' x l ∧ Cj eb w' x := by
 have key : ∀ g off len cap, x = .slice (some ⟨g, off, none⟩) len cap → w'.heap[g]? = w.heap[g]? := fun g off len cap e => by
  obtain ⟨c', fr, h1⟩ := ht g off len cap e
  refine hg.block g (VC h1) ?_
  intro e'
  have e2 : g = q := by simpa using e'
  subst e2
  rw [hk] at h1
  simp at h1
  exact hne h1.2.1
 refine ⟨?_, fun g off len cap e => ?_⟩
 ·rcases h with h | ⟨g, off, cap, e, h1, h2, h3, h4⟩
  ·exact .inl h
  ·refine .inr ⟨g, off, cap, e, Nat.lt_of_lt_of_le h1 hg.size, h2, h3, fun i hi => ?_⟩
   have hc := h4 i hi
   unfold World.cell? at hc ⊢
   rw [key g off _ cap e]
   exact hc
 ·obtain ⟨c', fr, h1⟩ := ht g off len cap e
  exact ⟨c', fr, (key g off len cap e).trans h1⟩
theorem Has.cur {g len cap : Nat} {a : Option Addr} {w w' : World} {x : Value} {l : List Int} (h : Has w x l) (ht : Cj 5 w x) (hc : Cur w g a len cap) (hg : w.grownBy w' (some g)) : Has w' x l ∧ Cj 5 w' x := by
 obtain ⟨i, y, h1, _⟩ := hc
 exact h.off ht h1 (by decide) hg
end Go.Proofs.YthobpbnaklnbiaaGreat
