/-
  Contracts of the specification's cursor over the bytes of a draw (l1New, l1Byte, l1Below, l1Once, l1PickInt, l1some): what is drawn is within its bounds; nothing but the cursor's own block is written. Contracts of the specification's l2draw: one of twelve names.
-/
import Derived.Test.YtaconefooicplaaFnNameWireG03
import Derived.Test.YtaconefooicplaaFnNameWireG10
namespace Go.Proofs.Ytaconefooicplaa
open Go.RowKit
set_option linter.unusedVariables false

/-- A cursor over the slice (a, len, cap) lies in block g. -/
def Cur (w : World) (g : Nat) (a : Option Addr) (len cap : Nat) : Prop :=
  ∃ i h : Int, w.heap[g]? = some (.cells #[.slice a len cap, .int .i64 i, .int .i64 h] 106 (0, 0)) ∧ 0 ≤ i ∧ i ≤ len

/-- What is drawn from: bytes that lie below block g. -/
def Code (w : World) (g : Nat) (a : Option Addr) (len : Nat) : Prop :=
  ∃ l : List Int, l.length = len ∧ (∀ k, 0 ≤ l.getD k 0 ∧ l.getD k 0 ≤ 255) ∧
    (l = [] ∨ ∃ b off, a = some ⟨b, off, none⟩ ∧ b < w.heap.size ∧ b < g ∧ ∀ i, i < l.length → w.cell? ⟨b, off + i, none⟩ = some (.int .u8 (l.getD i 0)))

theorem and_255_bd (y : Int) : 0 ≤ bits .and .i64 y 255 ∧ bits .and .i64 y 255 ≤ 255 := by
  have h : bits .and .i64 y 255 = IntKind.i64.wrap ((BitVec.ofInt 64 y &&& BitVec.ofInt 64 ((255 : Nat) : Int)).toNat : Int) := rfl
  rw [h, BitVec.toNat_and, ofInt_u64 255 (by omega)]
  have h2 : (BitVec.ofInt 64 y).toNat &&& 255 ≤ 255 := Nat.and_le_right
  rw [wrap_small _ (by omega)]
  omega

theorem cells_at {w : World} {g : Nat} {x y z : Value} {t : TypeId} (h : w.heap[g]? = some (.cells #[x, y, z] t (0, 0))) :
    w.cell? ⟨g, 0, none⟩ = some x ∧ w.cell? ⟨g, 1, none⟩ = some y ∧ w.cell? ⟨g, 2, none⟩ = some z ∧ w.frozen? ⟨g, 1, none⟩ = false ∧ w.frozen? ⟨g, 2, none⟩ = false := by
  simp [World.cell?, World.frozen?, h]

theorem set_at1 {w : World} {g : Nat} {x y z : Value} {t : TypeId} (h : w.heap[g]? = some (.cells #[x, y, z] t (0, 0))) (u : Value) : (w.setCell ⟨g, 1, none⟩ u).heap[g]? = some (.cells #[x, u, z] t (0, 0)) := by
  simp [World.setCell, Array.getElem?_modify, h]
theorem set_at2 {w : World} {g : Nat} {x y z : Value} {t : TypeId} (h : w.heap[g]? = some (.cells #[x, y, z] t (0, 0))) (u : Value) : (w.setCell ⟨g, 2, none⟩ u).heap[g]? = some (.cells #[x, y, u] t (0, 0)) := by
  simp [World.setCell, Array.getElem?_modify, h]

theorem grown_set (w : World) (g j : Nat) (u : Value) : w.grownBy (w.setCell ⟨g, j, none⟩ u) (some g) :=
  ⟨rfl, rfl, rfl, by simp, fun k _ hk => Below.heap_setCell w ⟨g, j, none⟩ u k (fun e => hk (by rw [e]))⟩

theorem grown_draws (w : World) (n : Nat) (row : Option Nat) : w.grownBy (w.drewN n) row := ⟨rfl, rfl, rfl, Nat.le_refl _, fun _ _ _ => rfl⟩

set_option maxHeartbeats 1000000 in
set_option maxRecDepth 100000 in
theorem l1Byte_any {g : Nat} {a : Option Addr} {len cap : Nat} {w : World} (hc : Cur w g a len cap) (hL : Code w g a len) (hm : len ≤ maxLen) :
    Calls Try.prog 85 #[.pointer (some ⟨g, 0, none⟩)] w fun e w' => ∃ x, e = .returned (.int .i64 x) ∧ 0 ≤ x ∧ x ≤ 255 ∧ Cur w' g a len cap ∧ w.grownBy w' (some g) := by
  obtain ⟨i, h, hg, hi0, hi1⟩ := hc
  obtain ⟨c0, c1, c2, f1, f2⟩ := cells_at hg
  unfold maxLen at hm
  go_enter Try.func85, Try.ntmps85
  go_wp2
  generalize hh : wrap64 (wrap64 (h * 6364136223846793005) + 1442695040888963407) = h'
  clear hh
  have hg1 := set_at2 hg (.int .i64 h')
  have k1 := grown_set w g 2 (.int .i64 h')
  obtain ⟨l, hln, hb, hLl⟩ := hL
  have HN := hide hln
  clear hln
  have hL1 : Lies (w.setCell ⟨g, 2, none⟩ (.int .i64 h')) a l := by
    rcases hLl with rfl | ⟨b, off, rfl, hlt, hlg, hcl⟩
    · exact .inl rfl
    · refine .inr ⟨b, off, rfl, by simpa using hlt, fun j hj => ?_⟩
      rw [World.cell?_of_block (w := w) (k1.block b hlt (by simp; omega))]
      exact hcl j hj
  clear c0 c1 c2 f1 f2 hLl hg
  generalize w.setCell ⟨g, 2, none⟩ (.int .i64 h') = W at *
  obtain ⟨c0, c1, c2, f1, f2⟩ := cells_at hg1
  have HG := hide hg1
  clear hg1
  by_cases hlt : i < len
  · obtain ⟨j, rfl⟩ := Int.eq_ofNat_of_zero_le hi0
    obtain ⟨b, off, rfl, _, hcj⟩ := hL1.here (k := j) (by rw [unhide HN]; omega)
    have hx := hb j
    generalize l.getD j 0 = x at *
    have HB := hide hb
    clear hb
    go_quiet (fail)
    go_wp2
    go_quiet (fail)
    go_wp2
    go_quiet (fail)
    go_wp2
    go_ret
    refine ⟨_, rfl, (and_255_bd _).1, (and_255_bd _).2, ?_, ?_⟩
    · exact ⟨(j : Int) + 1, h', set_at1 (w := W.drewN _) (unhide HG) _, by omega, by omega⟩
    · exact grown_trans k1 (grown_trans (grown_draws W _ _) (grown_set _ g 1 _))
  · have hlt' : decide (i < (len : Int)) = false := by simp; omega
    go_quiet (fail)
    go_wp2
    go_quiet (fail)
    go_wp2
    go_ret
    refine ⟨_, rfl, (and_255_bd _).1, (and_255_bd _).2, ⟨i, h', unhide HG, by omega, by omega⟩, ?_⟩
    exact grown_trans k1 (grown_trans (grown_draws W _ _) (grown_draws _ _ _))

theorem Code.later {w w' : World} {g : Nat} {a : Option Addr} {len : Nat} {row : Option Nat} (h : Code w g a len) (hg : w.grownBy w' row) (hr : ∀ j, row = some j → g ≤ j) : Code w' g a len := by
  obtain ⟨l, h1, h2, h3⟩ := h
  refine ⟨l, h1, h2, ?_⟩
  rcases h3 with rfl | ⟨b, off, rfl, hlt, hlg, hcl⟩
  · exact .inl rfl
  · refine .inr ⟨b, off, rfl, Nat.lt_of_lt_of_le hlt hg.size, hlg, fun j hj => ?_⟩
    rw [World.cell?_of_block (w := w) (hg.block b hlt (by intro e; have := hr b e.symm; omega))]
    exact hcl j hj

theorem Code.grown {w w' : World} {g : Nat} {a : Option Addr} {len : Nat} (h : Code w g a len) (hg : w.grownBy w' (some g)) : Code w' g a len := h.later hg (fun j e => by simp at e; omega)

set_option maxHeartbeats 1000000 in
set_option maxRecDepth 100000 in
theorem l1Below_any {g : Nat} {a : Option Addr} {len cap : Nat} {w : World} (n : Int) (hc : Cur w g a len cap) (hL : Code w g a len) (hm : len ≤ maxLen) (hn0 : 1 ≤ n) (hn1 : n ≤ 1099511627776) :
    Calls Try.prog 47 #[.pointer (some ⟨g, 0, none⟩), .int .i64 n] w fun e w' => ∃ x, e = .returned (.int .i64 x) ∧ 0 ≤ x ∧ x < n ∧ Cur w' g a len cap ∧ w.grownBy w' (some g) := by
  have HM := hide hm
  clear hm
  by_cases h256 : n ≤ 256
  · go_enter Try.func47, Try.ntmps47
    go_wp2_with fail
    refine (l1Byte_any hc hL (unhide HM)).mono ?_
    rintro e w1 ⟨x, rfl, hx0, hx1, hc1, g1⟩
    go_wp2
    go_ret
    exact ⟨_, rfl, Int.emod_nonneg _ (by omega), Int.emod_lt_of_pos _ (by omega), hc1, g1⟩
  · go_enter Try.func47, Try.ntmps47
    go_wp2_with fail
    refine (l1Byte_any hc hL (unhide HM)).mono ?_
    rintro e w1 ⟨x1, rfl, x10, x11, hc1, g1⟩
    have hL1 := hL.grown g1
    go_wp2_with fail
    refine (l1Byte_any hc1 hL1 (unhide HM)).mono ?_
    rintro e w2 ⟨x2, rfl, x20, x21, hc2, g2⟩
    have hL2 := hL1.grown g2
    go_wp2_with fail
    refine (l1Byte_any hc2 hL2 (unhide HM)).mono ?_
    rintro e w3 ⟨x3, rfl, x30, x31, hc3, g3⟩
    have hL3 := hL2.grown g3
    go_wp2_with fail
    refine (l1Byte_any hc3 hL3 (unhide HM)).mono ?_
    rintro e w4 ⟨x4, rfl, x40, x41, hc4, g4⟩
    go_wp2
    go_ret
    exact ⟨_, rfl, Int.emod_nonneg _ (by omega), Int.emod_lt_of_pos _ (by omega), hc4, grown_trans (grown_trans (grown_trans g1 g2) g3) g4⟩

theorem Cur.lt {w : World} {g : Nat} {a : Option Addr} {len cap : Nat} (h : Cur w g a len cap) : g < w.heap.size := by
  obtain ⟨i, x, h1, _⟩ := h
  exact (Array.getElem?_eq_some_iff.1 h1).1

theorem Cur.later {w w' : World} {g : Nat} {a : Option Addr} {len cap : Nat} {row : Option Nat} (h : Cur w g a len cap) (hg : w.grownBy w' row) (hr : ∀ j, row = some j → g < j) : Cur w' g a len cap := by
  have hlt := h.lt
  obtain ⟨i, x, h1, h2⟩ := h
  refine ⟨i, x, ?_, h2⟩
  rw [hg.block g hlt (by intro e; have := hr g e.symm; omega)]
  exact h1

theorem grown_alloc (w : World) (o : Obj) (row : Option Nat) : w.grownBy (w.alloc o) row := World.grownBy_alloc w o row

/-- Writes to rows that were not there leave what 'row' names as it stood. -/
theorem grown_own {w a b : World} {row row' : Option Nat} (h : w.grownBy a row) (k : a.grownBy b row') (hr : ∀ j, row' = some j → w.heap.size ≤ j) : w.grownBy b row :=
  ⟨k.os.trans h.os, k.tape.trans h.tape, k.output.trans h.output, Nat.le_trans h.size k.size, fun i hi hn => (k.block i (Nat.lt_of_lt_of_le hi h.size) (by intro e; have := hr i e.symm; omega)).trans (h.block i hi hn)⟩

set_option maxHeartbeats 400000 in
set_option maxRecDepth 100000 in
theorem l1New_any {a : Option Addr} {len cap : Nat} {w : World} (l : List Int) (hL : Lies w a l) (hn : l.length = len) (hb : ∀ k, 0 ≤ l.getD k 0 ∧ l.getD k 0 ≤ 255) (hm : len ≤ maxLen) :
    Calls Try.prog 39 #[.slice a len cap] w fun e w' => e = .returned (.pointer (some ⟨w.heap.size, 0, none⟩)) ∧ Cur w' w.heap.size a len cap ∧ Code w' w.heap.size a len ∧ Below w.heap.size w w' := by
  have HN := hide hn
  clear hn
  have HB := hide hb
  clear hb
  unfold maxLen at hm
  go_enter Try.func39, Try.ntmps39
  go_wp2
  go_loop [3, 4] (fun hv i => ∃ (k : Nat) (h : Int), k ≤ len ∧ i = .int .i64 k ∧ hv = .int .i64 h) (fun _ i => len - (intOf i).toNat)
  case atStart => exact ⟨0, _, Nat.zero_le _, rfl, rfl⟩
  case round =>
    obtain ⟨k, h, hk, rfl, rfl⟩ := hrel
    have fin : ∀ h' : Int, Cur (w.alloc (.cells #[.slice a len cap, .int .i64 0, .int .i64 h'] 106)) w.heap.size a len cap ∧ Code (w.alloc (.cells #[.slice a len cap, .int .i64 0, .int .i64 h'] 106)) w.heap.size a len ∧ Below w.heap.size w (w.alloc (.cells #[.slice a len cap, .int .i64 0, .int .i64 h'] 106)) := by
      intro h'
      have hbl : Below w.heap.size w (w.alloc (.cells #[.slice a len cap, .int .i64 0, .int .i64 h'] 106)) := (Below.refl _ _).alloc (Nat.le_refl _) _
      refine ⟨⟨0, h', heap_alloc_new w _, by omega, by omega⟩, ⟨l, unhide HN, unhide HB, ?_⟩, hbl⟩
      rcases hL.below hbl with rfl | ⟨b, off, e, hlt', hcl⟩
      · exact .inl rfl
      · rcases hL with rfl | ⟨b', off', e', hlt, _⟩
        · exact .inl rfl
        · rw [e] at e'
          simp at e'
          exact .inr ⟨b, off, e, hlt', by omega, hcl⟩
    have FIN := hide fin
    clear fin
    by_cases hlt : k < len
    · by_cases h4000 : k < 4000
      · obtain ⟨b, off, rfl, _, hc⟩ := hL.here (k := k) (by rw [unhide HN]; exact hlt)
        have hx := (unhide HB) k
        generalize l.getD k 0 = x at *
        go_wp2
        exact ⟨⟨k + 1, _, by omega, by go_num, rfl⟩, by simp [intOf]; omega⟩
      · have i4 : ¬ (k : Int) < 4000 := by omega
        go_wp2
        go_ret
        exact ⟨rfl, unhide FIN _⟩
    · go_wp2
      go_ret
      exact ⟨rfl, unhide FIN _⟩
end Go.Proofs.Ytaconefooicplaa

namespace Go.Proofs.Ytaconefooicplaa
open Go.RowKit
set_option linter.unusedVariables false

/-- The texts of the drawn names. -/
def drawnTexts : List ByteArray := [⟨#[46]⟩, ⟨#[104, 111, 109, 101, 46]⟩, ⟨#[112, 99, 46, 104, 111, 109, 101, 46]⟩, ⟨#[116, 118, 46, 104, 111, 109, 101, 46]⟩, ⟨#[97, 46, 112, 99, 46, 104, 111, 109, 101, 46]⟩, ⟨#[99, 111, 109, 46]⟩, ⟨#[120, 46, 99, 111, 109, 46]⟩, ⟨#[119, 119, 119, 46, 120, 46, 99, 111, 109, 46]⟩, ⟨#[110, 115, 46, 99, 111, 109, 46]⟩, ⟨#[51, 46, 48, 46, 48, 46, 49, 48, 46, 105, 110, 45, 97, 100, 100, 114, 46, 97, 114, 112, 97, 46]⟩, ⟨#[115, 117, 98, 46, 104, 111, 109, 101, 46]⟩, ⟨#[121, 46, 115, 117, 98, 46, 104, 111, 109, 101, 46]⟩]
theorem drawn_size : ∀ s ∈ drawnTexts, s.size ≤ 1048576 := by decide +kernel
/-- A name that is drawn. -/
def Drawn (n : List (List Int)) : Prop := ∃ s ∈ drawnTexts, n = (nameRead (numsOf s)).1
theorem text_cell {w : World} {b : Nat} {t : TypeId} (h : w.heap[b]? = some (.cells #[.string ⟨#[46]⟩, .string ⟨#[104, 111, 109, 101, 46]⟩, .string ⟨#[112, 99, 46, 104, 111, 109, 101, 46]⟩, .string ⟨#[116, 118, 46, 104, 111, 109, 101, 46]⟩, .string ⟨#[97, 46, 112, 99, 46, 104, 111, 109, 101, 46]⟩, .string ⟨#[99, 111, 109, 46]⟩, .string ⟨#[120, 46, 99, 111, 109, 46]⟩, .string ⟨#[119, 119, 119, 46, 120, 46, 99, 111, 109, 46]⟩, .string ⟨#[110, 115, 46, 99, 111, 109, 46]⟩, .string ⟨#[51, 46, 48, 46, 48, 46, 49, 48, 46, 105, 110, 45, 97, 100, 100, 114, 46, 97, 114, 112, 97, 46]⟩, .string ⟨#[115, 117, 98, 46, 104, 111, 109, 101, 46]⟩, .string ⟨#[121, 46, 115, 117, 98, 46, 104, 111, 109, 101, 46]⟩] t)) {k : Nat} (hk : k < 12) : ∃ s ∈ drawnTexts, w.cell? ⟨b, k, none⟩ = some (.string s) := by
  have hc := block_cell h k
  match k, hk with
  | 0, _ => exact ⟨⟨#[46]⟩, by simp [drawnTexts], hc⟩
  | 1, _ => exact ⟨⟨#[104, 111, 109, 101, 46]⟩, by simp [drawnTexts], hc⟩
  | 2, _ => exact ⟨⟨#[112, 99, 46, 104, 111, 109, 101, 46]⟩, by simp [drawnTexts], hc⟩
  | 3, _ => exact ⟨⟨#[116, 118, 46, 104, 111, 109, 101, 46]⟩, by simp [drawnTexts], hc⟩
  | 4, _ => exact ⟨⟨#[97, 46, 112, 99, 46, 104, 111, 109, 101, 46]⟩, by simp [drawnTexts], hc⟩
  | 5, _ => exact ⟨⟨#[99, 111, 109, 46]⟩, by simp [drawnTexts], hc⟩
  | 6, _ => exact ⟨⟨#[120, 46, 99, 111, 109, 46]⟩, by simp [drawnTexts], hc⟩
  | 7, _ => exact ⟨⟨#[119, 119, 119, 46, 120, 46, 99, 111, 109, 46]⟩, by simp [drawnTexts], hc⟩
  | 8, _ => exact ⟨⟨#[110, 115, 46, 99, 111, 109, 46]⟩, by simp [drawnTexts], hc⟩
  | 9, _ => exact ⟨⟨#[51, 46, 48, 46, 48, 46, 49, 48, 46, 105, 110, 45, 97, 100, 100, 114, 46, 97, 114, 112, 97, 46]⟩, by simp [drawnTexts], hc⟩
  | 10, _ => exact ⟨⟨#[115, 117, 98, 46, 104, 111, 109, 101, 46]⟩, by simp [drawnTexts], hc⟩
  | 11, _ => exact ⟨⟨#[121, 46, 115, 117, 98, 46, 104, 111, 109, 101, 46]⟩, by simp [drawnTexts], hc⟩

set_option maxHeartbeats 2000000 in
set_option maxRecDepth 100000 in
theorem l2draw_any {g : Nat} {a : Option Addr} {len cap : Nat} {w : World} (hc : Cur w g a len cap) (hL : Code w g a len) (hm : len ≤ maxLen) :
    Calls Try.prog 45 #[.pointer (some ⟨g, 0, none⟩)] w fun e w' => ∃ v' n, e = .returned (.agg #[v']) ∧ Drawn n ∧ OwnL w.heap.size 22 5 w' v' n ∧ Cur w' g a len cap ∧ w.grownBy w' (some g) := by
  have hg := hc.lt
  obtain ⟨hsz, k0, r0⟩ := box2 w (.cells #[.slice none 0 0] 25) #[.string ⟨#[46]⟩, .string ⟨#[104, 111, 109, 101, 46]⟩, .string ⟨#[112, 99, 46, 104, 111, 109, 101, 46]⟩, .string ⟨#[116, 118, 46, 104, 111, 109, 101, 46]⟩, .string ⟨#[97, 46, 112, 99, 46, 104, 111, 109, 101, 46]⟩, .string ⟨#[99, 111, 109, 46]⟩, .string ⟨#[120, 46, 99, 111, 109, 46]⟩, .string ⟨#[119, 119, 119, 46, 120, 46, 99, 111, 109, 46]⟩, .string ⟨#[110, 115, 46, 99, 111, 109, 46]⟩, .string ⟨#[51, 46, 48, 46, 48, 46, 49, 48, 46, 105, 110, 45, 97, 100, 100, 114, 46, 97, 114, 112, 97, 46]⟩, .string ⟨#[115, 117, 98, 46, 104, 111, 109, 101, 46]⟩, .string ⟨#[121, 46, 115, 117, 98, 46, 104, 111, 109, 101, 46]⟩] 9
  have g0 : w.grownBy ((w.alloc (.cells #[.slice none 0 0] 25)).alloc (.cells #[.string ⟨#[46]⟩, .string ⟨#[104, 111, 109, 101, 46]⟩, .string ⟨#[112, 99, 46, 104, 111, 109, 101, 46]⟩, .string ⟨#[116, 118, 46, 104, 111, 109, 101, 46]⟩, .string ⟨#[97, 46, 112, 99, 46, 104, 111, 109, 101, 46]⟩, .string ⟨#[99, 111, 109, 46]⟩, .string ⟨#[120, 46, 99, 111, 109, 46]⟩, .string ⟨#[119, 119, 119, 46, 120, 46, 99, 111, 109, 46]⟩, .string ⟨#[110, 115, 46, 99, 111, 109, 46]⟩, .string ⟨#[51, 46, 48, 46, 48, 46, 49, 48, 46, 105, 110, 45, 97, 100, 100, 114, 46, 97, 114, 112, 97, 46]⟩, .string ⟨#[115, 117, 98, 46, 104, 111, 109, 101, 46]⟩, .string ⟨#[121, 46, 115, 117, 98, 46, 104, 111, 109, 101, 46]⟩] 9)) (some g) := grown_own (grown_own (row := some g) ⟨rfl, rfl, rfl, Nat.le_refl _, fun _ _ _ => rfl⟩ (grown_alloc w (.cells #[.slice none 0 0] 25) none) (fun j e => by cases e)) (grown_alloc _ _ none) (fun j e => by cases e)
  have hc0 := hc.later (grown_own (grown_own (row := none) ⟨rfl, rfl, rfl, Nat.le_refl _, fun _ _ _ => rfl⟩ (grown_alloc w (.cells #[.slice none 0 0] 25) none) (fun j e => by cases e)) (grown_alloc _ (.cells #[.string ⟨#[46]⟩, .string ⟨#[104, 111, 109, 101, 46]⟩, .string ⟨#[112, 99, 46, 104, 111, 109, 101, 46]⟩, .string ⟨#[116, 118, 46, 104, 111, 109, 101, 46]⟩, .string ⟨#[97, 46, 112, 99, 46, 104, 111, 109, 101, 46]⟩, .string ⟨#[99, 111, 109, 46]⟩, .string ⟨#[120, 46, 99, 111, 109, 46]⟩, .string ⟨#[119, 119, 119, 46, 120, 46, 99, 111, 109, 46]⟩, .string ⟨#[110, 115, 46, 99, 111, 109, 46]⟩, .string ⟨#[51, 46, 48, 46, 48, 46, 49, 48, 46, 105, 110, 45, 97, 100, 100, 114, 46, 97, 114, 112, 97, 46]⟩, .string ⟨#[115, 117, 98, 46, 104, 111, 109, 101, 46]⟩, .string ⟨#[121, 46, 115, 117, 98, 46, 104, 111, 109, 101, 46]⟩] 9) none) (fun j e => by cases e)) (fun j e => by cases e)
  have hL0 := hL.later g0 (fun j e => by cases e; exact Nat.le_refl _)
  have HB := hide (l1Below_any 12 hc0 hL0 hm (by omega) (by omega))
  have K0 := hide k0
  have R0 := hide r0
  have G0 := hide g0
  clear hc hL k0 r0 g0 hc0 hL0
  go_enter Try.func45, Try.ntmps45
  go_wp2_with fail
  generalize (w.alloc (.cells #[.slice none 0 0] 25)).alloc (.cells #[.string ⟨#[46]⟩, .string ⟨#[104, 111, 109, 101, 46]⟩, .string ⟨#[112, 99, 46, 104, 111, 109, 101, 46]⟩, .string ⟨#[116, 118, 46, 104, 111, 109, 101, 46]⟩, .string ⟨#[97, 46, 112, 99, 46, 104, 111, 109, 101, 46]⟩, .string ⟨#[99, 111, 109, 46]⟩, .string ⟨#[120, 46, 99, 111, 109, 46]⟩, .string ⟨#[119, 119, 119, 46, 120, 46, 99, 111, 109, 46]⟩, .string ⟨#[110, 115, 46, 99, 111, 109, 46]⟩, .string ⟨#[51, 46, 48, 46, 48, 46, 49, 48, 46, 105, 110, 45, 97, 100, 100, 114, 46, 97, 114, 112, 97, 46]⟩, .string ⟨#[115, 117, 98, 46, 104, 111, 109, 101, 46]⟩, .string ⟨#[121, 46, 115, 117, 98, 46, 104, 111, 109, 101, 46]⟩] 9) = W at *
  refine (unhide HB).mono ?_
  rintro e w1 ⟨x, rfl, hx0, hx1, hc1, g1⟩
  obtain ⟨k, rfl⟩ := Int.eq_ofNat_of_zero_le hx0
  have hk : k < 12 := by omega
  have hk' : (k : Int) < 12 := by omega
  have K1 := hide (block_grown g1 (unhide K0) (by simp; omega))
  obtain ⟨s, hs, cs⟩ := text_cell (block_grown g1 (unhide R0) (by simp; omega)) hk
  have HS := hide hs
  have HO := hide (l2of_any s w1 (drawn_size s hs))
  have G1 := hide g1
  have C1 := hide hc1
  have z1 := g1.size
  have zk := block_lt (unhide K1)
  clear hs HB K0 R0 g1 hc1
  go_wp2_with fail
  refine (unhide HO).mono ?_
  rintro e w2 ⟨v2, rfl, o2, b2⟩
  obtain ⟨oa, oc, rfl, _⟩ := o2.hasL.form
  have k2 := block_kept b2 (unhide K1)
  have c2 := block_one k2
  have f2 := block_frozen k2 0
  generalize hR : (nameRead (numsOf s)).1 = R at *
  have K2 := hide (block_set k2 (.slice oa R.length oc))
  have O2 := hide o2
  have B2 := hide b2
  have HRR := hide hR
  clear o2 b2 k2 K1 HO hR
  go_wp2_with fail
  refine bodyPost_ret (results_cell_row rfl _ _ w.heap.size 25 #[.slice oa R.length oc] (0, 0) _ rfl (unhide K2) Try.underlying25 rfl (by kernel_rfl)) rfl ?_
  have gA : w.grownBy w1 (some g) := ⟨(unhide G1).os.trans (unhide G0).os, (unhide G1).tape.trans (unhide G0).tape, (unhide G1).output.trans (unhide G0).output, by have := (unhide G0).size; omega, fun i hi hn => ((unhide G1).block i (by have := (unhide G0).size; omega) hn).trans ((unhide G0).block i hi hn)⟩
  have zw := (unhide G0).size
  have g2 : w1.grownBy (w2.setCell ⟨w.heap.size, 0, none⟩ (.slice oa R.length oc)) (some w.heap.size) := ⟨(grown_setCell w2 _ _).os.trans (unhide B2).os, (grown_setCell w2 _ _).tape.trans (unhide B2).tape, (grown_setCell w2 _ _).output.trans (unhide B2).output, Nat.le_trans (unhide B2).size (grown_setCell w2 _ _).size, fun i hi hn => ((grown_setCell w2 ⟨w.heap.size, 0, none⟩ (.slice oa R.length oc)).block i (Nat.lt_of_lt_of_le hi (unhide B2).size) (by simpa using hn)).trans ((unhide B2).block i hi)⟩
  exact ⟨_, R, rfl, ⟨s, unhide HS, (unhide HRR).symm⟩, ((unhide O2).kept (grown_setCell _ _ _) (by show w.heap.size < _; omega)).mono (by omega), (unhide C1).later g2 (fun j e => by cases e; exact hg), grown_own gA g2 (fun j e => by cases e; exact Nat.le_refl _)⟩
end Go.Proofs.Ytaconefooicplaa
