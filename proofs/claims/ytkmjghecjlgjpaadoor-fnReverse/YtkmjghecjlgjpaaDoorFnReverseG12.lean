/-
  Plain facts: names of addresses may be, lie under their zone, and differ where their numbers do. No program is named here. Contracts of the specification's cursor over the bytes of a draw (l1New, l1Byte, l1Below, l1Once, l1PickInt, l1some): what is drawn is within its bounds; nothing but the cursor's own block is written.
-/
import Derived.Test.YtkmjghecjlgjpaaDoorFnReverseG01
import Derived.Test.YtkmjghecjlgjpaaDoorFnReverseG11
import Derived.Test.YtkmjghecjlgjpaaDoorFnReverseG02
namespace Go.Proofs.YtkmjghecjlgjpaaDoor
open Go.RowKit
set_option linter.unusedVariables false
set_option linter.unusedSimpArgs false

theorem digs_signs (x : Int) (h0 : 0 ≤ x) (h1 : x ≤ 255) : ∀ c ∈ digs x, 48 ≤ c ∧ c ≤ 57 := by
  have one : ∀ y : Int, 0 ≤ y → y < 10 → ∀ c ∈ digs y, 48 ≤ c ∧ c ≤ 57 := fun y hy0 hy1 c hc => by
    rw [digs_lt y hy0 hy1] at hc
    simp only [List.mem_singleton] at hc
    omega
  have two : ∀ y : Int, 0 ≤ y → y < 100 → ∀ c ∈ digs y, 48 ≤ c ∧ c ≤ 57 := fun y hy0 hy1 c hc => by
    by_cases h : y < 10
    · exact one y hy0 h c hc
    · rw [digs_ge y (by omega)] at hc
      rcases List.mem_append.1 hc with hc | hc
      · exact one _ (by omega) (by omega) c hc
      · simp only [List.mem_singleton] at hc
        omega
  intro c hc
  by_cases h : x < 100
  · exact two x h0 h c hc
  · rw [digs_ge x (by omega)] at hc
    rcases List.mem_append.1 hc with hc | hc
    · exact two _ (by omega) (by omega) c hc
    · simp only [List.mem_singleton] at hc
      omega
/-- What a number's digits come to. -/
def valD (l : List Int) : Int := l.foldl (fun a c => 10 * a + (c - 48)) 0
theorem valD_snoc (l : List Int) (c : Int) : valD (l ++ [c]) = 10 * valD l + (c - 48) := by simp [valD]
theorem valD_digs (x : Int) (h0 : 0 ≤ x) (h1 : x ≤ 255) : valD (digs x) = x := by
  have one : ∀ y : Int, 0 ≤ y → y < 10 → valD (digs y) = y := fun y hy0 hy1 => by
    rw [digs_lt y hy0 hy1]
    simp [valD]
    omega
  have two : ∀ y : Int, 0 ≤ y → y < 100 → valD (digs y) = y := fun y hy0 hy1 => by
    by_cases h : y < 10
    · exact one y hy0 h
    · rw [digs_ge y (by omega), valD_snoc, one _ (by omega) (by omega)]
      omega
  by_cases h : x < 100
  · exact two x h0 h
  · rw [digs_ge x (by omega), valD_snoc, two _ (by omega) (by omega)]
    omega
theorem label_digs (x : Int) (h0 : 0 ≤ x) (h1 : x ≤ 255) : labelOk (digs x) = true := by
  have hl := digs_length x h0 h1
  refine labelOk_yes hl.1 (by omega) (fun j hj => ?_)
  have hm : (digs x).getD j 0 ∈ digs x := by
    rw [List.getD_eq_getElem?_getD, List.getElem?_eq_getElem hj]
    exact List.getElem_mem hj
  have := digs_signs x h0 h1 _ hm
  unfold signOk
  exact decide_eq_true (by omega)
theorem revN_eq (n : Int) : revN n = [digs (part n 3), digs (part n 2), digs (part n 1), digs (part n 0), inAddr, arpa] := rfl
theorem revN_ok (n : Int) (h0 : 0 ≤ n) (h1 : n ≤ 4294967295) : nameOk (revN n) = true := by
  rw [revN_eq]
  have hp := fun j => part_bd n j h0 h1
  refine nameOk_yes (by simp) (fun j hj => ?_)
  match j, hj with
  | 0, _ => exact label_digs _ (hp 3).1 (hp 3).2
  | 1, _ => exact label_digs _ (hp 2).1 (hp 2).2
  | 2, _ => exact label_digs _ (hp 1).1 (hp 1).2
  | 3, _ => exact label_digs _ (hp 0).1 (hp 0).2
  | 4, _ => exact (show labelOk inAddr = true by decide)
  | 5, _ => exact (show labelOk arpa = true by decide)
theorem cmp_ia : cmpN [inAddr, arpa] [inAddr, arpa] = 0 := by decide +kernel
theorem ok_ia : nameOk [inAddr, arpa] = true := by decide +kernel
theorem revN_under (n : Int) (h0 : 0 ≤ n) (h1 : n ≤ 4294967295) : under (revN n) [inAddr, arpa] = true := by
  unfold under
  rw [revN_ok n h0 h1, ok_ia, revN_eq]
  unfold endsWith
  have e : (List.drop ([digs (part n 3), digs (part n 2), digs (part n 1), digs (part n 0), inAddr, arpa].length - [inAddr, arpa].length) [digs (part n 3), digs (part n 2), digs (part n 1), digs (part n 0), inAddr, arpa]) = [inAddr, arpa] := rfl
  rw [e, cmp_ia]
  simp
theorem revN_ne (n m : Int) (h0 : 0 ≤ n) (h1 : n ≤ 4294967295) (k0 : 0 ≤ m) (k1 : m ≤ 4294967295) (hne : n % 256 ≠ m % 256) : revN n ≠ revN m := by
  intro e
  rw [revN_eq, revN_eq] at e
  have e1 : digs (part n 3) = digs (part m 3) := (List.cons.inj e).1
  have p1 := valD_digs (part n 3) (part_bd n 3 h0 h1).1 (part_bd n 3 h0 h1).2
  have p2 := valD_digs (part m 3) (part_bd m 3 k0 k1).1 (part_bd m 3 k0 k1).2
  rw [e1, p2] at p1
  have q1 : part n 3 = n % 256 := rfl
  have q2 : part m 3 = m % 256 := rfl
  omega
theorem xor_one (n : Int) (h0 : 0 ≤ n) (h1 : n ≤ 4294967295) : 0 ≤ bits .xor .i64 n 1 ∧ bits .xor .i64 n 1 ≤ 4294967295 ∧ n % 256 ≠ bits .xor .i64 n 1 % 256 := by
  obtain ⟨a, rfl⟩ := Int.eq_ofNat_of_zero_le h0
  have e : bits .xor .i64 (a : Int) 1 = ((a ^^^ 1 : Nat) : Int) := by
    show IntKind.i64.wrap ((BitVec.ofInt 64 (a : Int) ^^^ BitVec.ofInt 64 ((1 : Nat) : Int)).toNat : Int) = _
    have hx : a ^^^ 1 < 2 ^ 33 := Nat.xor_lt_two_pow (by omega) (by omega)
    rw [BitVec.toNat_xor, ofInt_u64 a (by omega), ofInt_u64 1 (by omega)]
    exact wrap_small _ (by omega)
  rw [e]
  have d2 : (a ^^^ 1) / 2 = a / 2 := by rw [Nat.xor_div_two]; simp
  have m2 : (a ^^^ 1) % 2 = (a + 1) % 2 := by
    rw [show (a ^^^ 1) % 2 = (a % 2) ^^^ (1 % 2) from Nat.xor_mod_two_pow (n := 1)]
    rcases Nat.mod_two_eq_zero_or_one a with h | h <;> rw [h] <;> simp <;> omega
  omega
end Go.Proofs.YtkmjghecjlgjpaaDoor

namespace Go.Proofs.YtkmjghecjlgjpaaDoor
open Go.RowKit
set_option linter.unusedVariables false

/-- A cursor over the slice (a, len, cap) lies in block g. -/
def Cur (w : World) (g : Nat) (a : Option Addr) (len cap : Nat) : Prop :=
  ∃ i h : Int, w.heap[g]? = some (.cells #[.slice a len cap, .int .i64 i, .int .i64 h] 90 (0, 0)) ∧ 0 ≤ i ∧ i ≤ len

/-- What is drawn from: bytes that lie below block g. -/
def Code (w : World) (g : Nat) (a : Option Addr) (len : Nat) : Prop :=
  ∃ l : List Int, l.length = len ∧ (∀ k, 0 ≤ l.getD k 0 ∧ l.getD k 0 ≤ 255) ∧
    (l = [] ∨ ∃ b off, a = some ⟨b, off, none⟩ ∧ b < w.heap.size ∧ b < g ∧ ∀ i, i < l.length → w.cell? ⟨b, off + i, none⟩ = some (.int .u8 (l.getD i 0)))

theorem and_255_bd (y : Int) : 0 ≤ bits .and .i64 y 255 ∧ bits .and .i64 y 255 ≤ 255 := by
  have h : bits .and .i64 y 255 = IntKind.i64.wrap ((BitVec.ofInt 64 y &&& BitVec.ofInt 64 ((255 : Nat) : Int)).toNat : Int) := rfl
  rw [h, BitVec.toNat_and, ofInt_u64 255 (by omega)]
  have h2 : (BitVec.ofInt 64 y).toNat &&& 255 ≤ 255 := Nat.and_le_right
  rw [wrap_small _ (by omega)]
  omega

theorem cells_at {w : World} {g : Nat} {x y z : Value} {t : TypeId} (h : w.heap[g]? = some (.cells #[x, y, z] t (0, 0))) :
    w.cell? ⟨g, 0, none⟩ = some x ∧ w.cell? ⟨g, 1, none⟩ = some y ∧ w.cell? ⟨g, 2, none⟩ = some z ∧ w.frozen? ⟨g, 1, none⟩ = false ∧ w.frozen? ⟨g, 2, none⟩ = false := by
  simp [World.cell?, World.frozen?, h]

theorem set_at1 {w : World} {g : Nat} {x y z : Value} {t : TypeId} (h : w.heap[g]? = some (.cells #[x, y, z] t (0, 0))) (u : Value) : (w.setCell ⟨g, 1, none⟩ u).heap[g]? = some (.cells #[x, u, z] t (0, 0)) := by
  simp [World.setCell, Array.getElem?_modify, h]
theorem set_at2 {w : World} {g : Nat} {x y z : Value} {t : TypeId} (h : w.heap[g]? = some (.cells #[x, y, z] t (0, 0))) (u : Value) : (w.setCell ⟨g, 2, none⟩ u).heap[g]? = some (.cells #[x, y, u] t (0, 0)) := by
  simp [World.setCell, Array.getElem?_modify, h]

theorem grown_set (w : World) (g j : Nat) (u : Value) : w.grownBy (w.setCell ⟨g, j, none⟩ u) (some g) :=
  ⟨rfl, rfl, rfl, by simp, fun k _ hk => Below.heap_setCell w ⟨g, j, none⟩ u k (fun e => hk (by rw [e]))⟩

theorem grown_draws (w : World) (n : Nat) (row : Option Nat) : w.grownBy (w.drewN n) row := ⟨rfl, rfl, rfl, Nat.le_refl _, fun _ _ _ => rfl⟩

set_option maxHeartbeats 1000000 in
set_option maxRecDepth 100000 in
theorem l1Byte_any {g : Nat} {a : Option Addr} {len cap : Nat} {w : World} (hc : Cur w g a len cap) (hL : Code w g a len) (hm : len ≤ maxLen) :
    Calls Tryd.prog 105 #[.pointer (some ⟨g, 0, none⟩)] w fun e w' => ∃ x, e = .returned (.int .i64 x) ∧ 0 ≤ x ∧ x ≤ 255 ∧ Cur w' g a len cap ∧ w.grownBy w' (some g) := by
  obtain ⟨i, h, hg, hi0, hi1⟩ := hc
  obtain ⟨c0, c1, c2, f1, f2⟩ := cells_at hg
  unfold maxLen at hm
  go_enter Tryd.func105, Tryd.ntmps105
  go_wp2
  generalize hh : wrap64 (wrap64 (h * 6364136223846793005) + 1442695040888963407) = h'
  clear hh
  have hg1 := set_at2 hg (.int .i64 h')
  have k1 := grown_set w g 2 (.int .i64 h')
  obtain ⟨l, hln, hb, hLl⟩ := hL
  have HN := hide hln
  clear hln
  have hL1 : Lies (w.setCell ⟨g, 2, none⟩ (.int .i64 h')) a l := by
    rcases hLl with rfl | ⟨b, off, rfl, hlt, hlg, hcl⟩
    · exact .inl rfl
    · refine .inr ⟨b, off, rfl, by simpa using hlt, fun j hj => ?_⟩
      rw [World.cell?_of_block (w := w) (k1.block b hlt (by simp; omega))]
      exact hcl j hj
  clear c0 c1 c2 f1 f2 hLl hg
  generalize w.setCell ⟨g, 2, none⟩ (.int .i64 h') = W at *
  obtain ⟨c0, c1, c2, f1, f2⟩ := cells_at hg1
  have HG := hide hg1
  clear hg1
  by_cases hlt : i < len
  · obtain ⟨j, rfl⟩ := Int.eq_ofNat_of_zero_le hi0
    obtain ⟨b, off, rfl, _, hcj⟩ := hL1.here (k := j) (by rw [unhide HN]; omega)
    have hx := hb j
    generalize l.getD j 0 = x at *
    have HB := hide hb
    clear hb
    go_quiet (fail)
    go_wp2
    go_quiet (fail)
    go_wp2
    go_quiet (fail)
    go_wp2
    go_ret
    refine ⟨_, rfl, (and_255_bd _).1, (and_255_bd _).2, ?_, ?_⟩
    · exact ⟨(j : Int) + 1, h', set_at1 (w := W.drewN _) (unhide HG) _, by omega, by omega⟩
    · exact grown_trans k1 (grown_trans (grown_draws W _ _) (grown_set _ g 1 _))
  · have hlt' : decide (i < (len : Int)) = false := by simp; omega
    go_quiet (fail)
    go_wp2
    go_quiet (fail)
    go_wp2
    go_ret
    refine ⟨_, rfl, (and_255_bd _).1, (and_255_bd _).2, ⟨i, h', unhide HG, by omega, by omega⟩, ?_⟩
    exact grown_trans k1 (grown_trans (grown_draws W _ _) (grown_draws _ _ _))

theorem Code.later {w w' : World} {g : Nat} {a : Option Addr} {len : Nat} {row : Option Nat} (h : Code w g a len) (hg : w.grownBy w' row) (hr : ∀ j, row = some j → g ≤ j) : Code w' g a len := by
  obtain ⟨l, h1, h2, h3⟩ := h
  refine ⟨l, h1, h2, ?_⟩
  rcases h3 with rfl | ⟨b, off, rfl, hlt, hlg, hcl⟩
  · exact .inl rfl
  · refine .inr ⟨b, off, rfl, Nat.lt_of_lt_of_le hlt hg.size, hlg, fun j hj => ?_⟩
    rw [World.cell?_of_block (w := w) (hg.block b hlt (by intro e; have := hr b e.symm; omega))]
    exact hcl j hj

theorem Code.grown {w w' : World} {g : Nat} {a : Option Addr} {len : Nat} (h : Code w g a len) (hg : w.grownBy w' (some g)) : Code w' g a len := h.later hg (fun j e => by simp at e; omega)

set_option maxHeartbeats 1000000 in
set_option maxRecDepth 100000 in
theorem l1Below_any {g : Nat} {a : Option Addr} {len cap : Nat} {w : World} (n : Int) (hc : Cur w g a len cap) (hL : Code w g a len) (hm : len ≤ maxLen) (hn0 : 1 ≤ n) (hn1 : n ≤ 1099511627776) :
    Calls Tryd.prog 75 #[.pointer (some ⟨g, 0, none⟩), .int .i64 n] w fun e w' => ∃ x, e = .returned (.int .i64 x) ∧ 0 ≤ x ∧ x < n ∧ Cur w' g a len cap ∧ w.grownBy w' (some g) := by
  have HM := hide hm
  clear hm
  by_cases h256 : n ≤ 256
  · go_enter Tryd.func75, Tryd.ntmps75
    go_wp2_with fail
    refine (l1Byte_any hc hL (unhide HM)).mono ?_
    rintro e w1 ⟨x, rfl, hx0, hx1, hc1, g1⟩
    go_wp2
    go_ret
    exact ⟨_, rfl, Int.emod_nonneg _ (by omega), Int.emod_lt_of_pos _ (by omega), hc1, g1⟩
  · go_enter Tryd.func75, Tryd.ntmps75
    go_wp2_with fail
    refine (l1Byte_any hc hL (unhide HM)).mono ?_
    rintro e w1 ⟨x1, rfl, x10, x11, hc1, g1⟩
    have hL1 := hL.grown g1
    go_wp2_with fail
    refine (l1Byte_any hc1 hL1 (unhide HM)).mono ?_
    rintro e w2 ⟨x2, rfl, x20, x21, hc2, g2⟩
    have hL2 := hL1.grown g2
    go_wp2_with fail
    refine (l1Byte_any hc2 hL2 (unhide HM)).mono ?_
    rintro e w3 ⟨x3, rfl, x30, x31, hc3, g3⟩
    have hL3 := hL2.grown g3
    go_wp2_with fail
    refine (l1Byte_any hc3 hL3 (unhide HM)).mono ?_
    rintro e w4 ⟨x4, rfl, x40, x41, hc4, g4⟩
    go_wp2
    go_ret
    exact ⟨_, rfl, Int.emod_nonneg _ (by omega), Int.emod_lt_of_pos _ (by omega), hc4, grown_trans (grown_trans (grown_trans g1 g2) g3) g4⟩

theorem Cur.lt {w : World} {g : Nat} {a : Option Addr} {len cap : Nat} (h : Cur w g a len cap) : g < w.heap.size := by
  obtain ⟨i, x, h1, _⟩ := h
  exact (Array.getElem?_eq_some_iff.1 h1).1

theorem Cur.later {w w' : World} {g : Nat} {a : Option Addr} {len cap : Nat} {row : Option Nat} (h : Cur w g a len cap) (hg : w.grownBy w' row) (hr : ∀ j, row = some j → g < j) : Cur w' g a len cap := by
  have hlt := h.lt
  obtain ⟨i, x, h1, h2⟩ := h
  refine ⟨i, x, ?_, h2⟩
  rw [hg.block g hlt (by intro e; have := hr g e.symm; omega)]
  exact h1

theorem grown_alloc (w : World) (o : Obj) (row : Option Nat) : w.grownBy (w.alloc o) row := World.grownBy_alloc w o row

/-- Writes to rows that were not there leave what 'row' names as it stood. -/
theorem grown_own {w a b : World} {row row' : Option Nat} (h : w.grownBy a row) (k : a.grownBy b row') (hr : ∀ j, row' = some j → w.heap.size ≤ j) : w.grownBy b row :=
  ⟨k.os.trans h.os, k.tape.trans h.tape, k.output.trans h.output, Nat.le_trans h.size k.size, fun i hi hn => (k.block i (Nat.lt_of_lt_of_le hi h.size) (by intro e; have := hr i e.symm; omega)).trans (h.block i hi hn)⟩

set_option maxHeartbeats 400000 in
set_option maxRecDepth 100000 in
theorem l1New_any {a : Option Addr} {len cap : Nat} {w : World} (l : List Int) (hL : Lies w a l) (hn : l.length = len) (hb : ∀ k, 0 ≤ l.getD k 0 ∧ l.getD k 0 ≤ 255) (hm : len ≤ maxLen) :
    Calls Tryd.prog 36 #[.slice a len cap] w fun e w' => e = .returned (.pointer (some ⟨w.heap.size, 0, none⟩)) ∧ Cur w' w.heap.size a len cap ∧ Code w' w.heap.size a len ∧ Below w.heap.size w w' := by
  have HN := hide hn
  clear hn
  have HB := hide hb
  clear hb
  unfold maxLen at hm
  go_enter Tryd.func36, Tryd.ntmps36
  go_wp2
  go_loop [3, 4] (fun hv i => ∃ (k : Nat) (h : Int), k ≤ len ∧ i = .int .i64 k ∧ hv = .int .i64 h) (fun _ i => len - (intOf i).toNat)
  case atStart => exact ⟨0, _, Nat.zero_le _, rfl, rfl⟩
  case round =>
    obtain ⟨k, h, hk, rfl, rfl⟩ := hrel
    have fin : ∀ h' : Int, Cur (w.alloc (.cells #[.slice a len cap, .int .i64 0, .int .i64 h'] 90)) w.heap.size a len cap ∧ Code (w.alloc (.cells #[.slice a len cap, .int .i64 0, .int .i64 h'] 90)) w.heap.size a len ∧ Below w.heap.size w (w.alloc (.cells #[.slice a len cap, .int .i64 0, .int .i64 h'] 90)) := by
      intro h'
      have hbl : Below w.heap.size w (w.alloc (.cells #[.slice a len cap, .int .i64 0, .int .i64 h'] 90)) := (Below.refl _ _).alloc (Nat.le_refl _) _
      refine ⟨⟨0, h', heap_alloc_new w _, by omega, by omega⟩, ⟨l, unhide HN, unhide HB, ?_⟩, hbl⟩
      rcases hL.below hbl with rfl | ⟨b, off, e, hlt', hcl⟩
      · exact .inl rfl
      · rcases hL with rfl | ⟨b', off', e', hlt, _⟩
        · exact .inl rfl
        · rw [e] at e'
          simp at e'
          exact .inr ⟨b, off, e, hlt', by omega, hcl⟩
    have FIN := hide fin
    clear fin
    by_cases hlt : k < len
    · by_cases h4000 : k < 4000
      · obtain ⟨b, off, rfl, _, hc⟩ := hL.here (k := k) (by rw [unhide HN]; exact hlt)
        have hx := (unhide HB) k
        generalize l.getD k 0 = x at *
        go_wp2
        exact ⟨⟨k + 1, _, by omega, by go_num, rfl⟩, by simp [intOf]; omega⟩
      · have i4 : ¬ (k : Int) < 4000 := by omega
        go_wp2
        go_ret
        exact ⟨rfl, unhide FIN _⟩
    · go_wp2
      go_ret
      exact ⟨rfl, unhide FIN _⟩
end Go.Proofs.YtkmjghecjlgjpaaDoor
