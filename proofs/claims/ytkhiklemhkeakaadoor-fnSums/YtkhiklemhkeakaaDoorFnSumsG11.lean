/-
  Contracts of the program's Get32. Contract of the program's fill: the words of a block.
-/
import Derived.Test.YtkhiklemhkeakaaDoorFnSumsG10
import Derived.Test.YtkhiklemhkeakaaDoorFnSumsG03
import Derived.Test.YtkhiklemhkeakaaDoorFnSumsG09
namespace Go.Proofs.YtkhiklemhkeakaaDoor
open Go.RowKit
set_option linter.unusedVariables false

set_option maxHeartbeats 400000 in
set_option maxRecDepth 100000 in
theorem implGet32_no (a : Option Addr) (len cap : Nat) (at' : Int) (w : World) (hl : len ≤ 2097152) (hat : at' ≤ 9223372036854775807) (h : at' < 0 ∨ (len : Int) - 4 < at') :
    Calls Tryd.prog 40 #[.slice a len cap, .int .i64 at'] w fun e w' => e = .returned (.tuple #[.int .i64 0, .int .i64 (-1)]) ∧ w = w' := by
  go_enter Tryd.func40, Tryd.ntmps40
  go_wp2_with (go_at_call 47; refine (allThere_no _ _ _ _ _ _ hl hat (by omega)).mono ?_; rintro e w' ⟨rfl, rfl⟩)
  go_ret2
  exact ⟨rfl, rfl⟩

set_option maxHeartbeats 800000 in
set_option maxRecDepth 100000 in
theorem implGet32_yes (a : Option Addr) (cap : Nat) (l : List Int) (i : Nat) (w : World) (hl : l.length ≤ 2097152) (h : Lies w a l) (hi : i + 4 ≤ l.length) (hb : ∀ k, 0 ≤ l.getD k 0 ∧ l.getD k 0 ≤ 255) :
    Calls Tryd.prog 40 #[.slice a l.length cap, .int .i64 i] w fun e w' => e = .returned (.tuple #[.int .i64 (l.getD i 0 * 16777216 + l.getD (i + 1) 0 * 65536 + l.getD (i + 2) 0 * 256 + l.getD (i + 3) 0), .int .i64 (i + 4)]) ∧ ∃ n, w' = w.drewN n := by
  obtain ⟨b, off, rfl, c0, c1, c2, c3⟩ := four_there h hi
  have h0 := hb i
  have h1 := hb (i + 1)
  have h2 := hb (i + 2)
  have h3 := hb (i + 3)
  generalize l.getD i 0 = x0 at *
  generalize l.getD (i + 1) 0 = x1 at *
  generalize l.getD (i + 2) 0 = x2 at *
  generalize l.getD (i + 3) 0 = x3 at *
  clear hb
  generalize hn : l.length = n at *
  have HN := hide hn
  clear hn
  go_enter Tryd.func40, Tryd.ntmps40
  go_wp2_with (go_at_call 47; refine (allThere_yes _ _ _ _ _ _ hl (by omega) (by omega) (by omega)).mono ?_; rintro e w' ⟨rfl, rfl⟩)
  go_quiet (fail)
  go_wp2
  go_quiet (fail)
  go_wp2
  go_ret2
  refine ⟨ret2_int ?_ rfl, _, rfl⟩
  rw [or_24 x0 x1 (by omega) (by omega) (by omega) (by omega), or_8 x2 x3 (by omega) (by omega) (by omega) (by omega), show x0 * 16777216 + x1 * 65536 = (x0 * 256 + x1) * 65536 from by omega,
    or_16 _ _ (by omega) (by omega) (by omega) (by omega)]
  omega

theorem implGet32_any {B : Nat} {v : Value} {l : List Int} (p : Int) {w : World} (h : Own B 5 w v l) (hl : l.length ≤ 2097152) (hp' : p ≤ 9223372036854775807) (hb : ∀ k, 0 ≤ l.getD k 0 ∧ l.getD k 0 ≤ 255) :
    Calls Tryd.prog 40 #[v, .int .i64 p] w fun e w' => e = .returned (.tuple #[.int .i64 (get32 l p).1, .int .i64 (get32 l p).2]) ∧ Below w.heap.size w w' := by
  obtain ⟨a, cap, rfl, hL⟩ := h.lies
  by_cases hp : 0 ≤ p ∧ p + 4 ≤ l.length
  · obtain ⟨i, rfl⟩ := Int.eq_ofNat_of_zero_le hp.1
    rw [get32_yes hp]
    refine (implGet32_yes a cap l i w hl hL (by omega) hb).mono ?_
    rintro e w' ⟨rfl, n, rfl⟩
    exact ⟨rfl, below_draws n⟩
  · have e : get32 l p = (0, -1) := by unfold get32; rw [if_neg hp]
    rw [e]
    exact (implGet32_no a l.length cap p w hl hp' (by omega)).mono fun e w' ⟨he, hw⟩ => ⟨he, hw ▸ Below.refl _ _⟩
end Go.Proofs.YtkhiklemhkeakaaDoor

namespace Go.Proofs.YtkhiklemhkeakaaDoor
open Go.RowKit
set_option linter.unusedVariables false
set_option linter.unusedSimpArgs false

theorem wd_ofInt (n : Int) : IntKind.u32.wrap n = wv (BitVec.ofInt 32 n) := by
  simp [wv, IntKind.wrap, IntKind.bits, IntKind.signed, BitVec.toNat_ofInt]
  omega
theorem fillW_word (bs : List Int) {k : Nat} (hk : k < 16) : (fillW bs k).set k (BitVec.ofInt 32 (bs.getD (4 * k) 0 * 16777216 + bs.getD (4 * k + 1) 0 * 65536 + bs.getD (4 * k + 2) 0 * 256 + bs.getD (4 * k + 3) 0)) = fillW bs (k + 1) := by
  show _ = (fillW bs k).set k (nextW bs (fillW bs k) k)
  unfold nextW word4
  rw [if_pos hk]
theorem outside_below {b : Nat} {w w' : World} (h : Below w.heap.size w w') : Outside b (b + 1) w w' := ⟨h.os, h.tape, h.output, h.size, fun k hk _ => h.block k hk⟩

set_option maxHeartbeats 2000000 in
set_option maxRecDepth 100000 in
theorem fill_is {b : Nat} {t : TypeId} {a : Option Addr} {cap : Nat} {bs : List Int} {w : World} (hk : w.heap[b]? = some (.cells (cellsU (fillW bs 0)) t)) (hl : bs.length = 64) (h8 : Bytes8 bs) (hL : ∀ w', Outside b (b + 1) w w' → Lies w' a bs) :
    Calls Tryd.prog 31 #[.pointer (some ⟨b, 0, none⟩), .slice a 64 cap] w fun e w' => (∃ v, e = .returned v) ∧ (∃ cw, Hid (fillW bs 64 = cw) ∧ w'.heap[b]? = some (.cells (cellsU cw) t)) ∧ Outside b (b + 1) w w' := by
  have HL := hide hL
  have H8 := hide h8
  have HLN := hide hl
  have G := hide (fun (w' : World) (ho : Outside b (b + 1) w w') (i : Nat) (hi : i + 4 ≤ 64) => by have := implGet32_yes a cap bs i w' (by omega) (hL w' ho) (by omega) h8; rwa [hl] at this)
  have HK := hide hk
  clear hk hL h8 hl
  go_enter Tryd.func31, Tryd.ntmps31
  go_wp2_with fail
  go_loopw [8] (fun i wr => ∃ (k : Nat), k ≤ 16 ∧ i = .int .i64 k ∧ Hid (wr.heap[b]? = some (.cells (cellsU (fillW bs k)) t) ∧ Outside b (b + 1) w wr)) (fun i _ => 16 - (intOf i).toNat)
  case atStart => exact ⟨0, Nat.zero_le _, rfl, hide ⟨unhide HK, Outside.refl _ _ _⟩⟩
  case round =>
    clear HK
    obtain ⟨k, hk, rfl, H⟩ := hrel
    by_cases hlt : k < 16
    · have e0 : IntKind.i64.wrap (4 * (k : Int)) = ((4 * k : Nat) : Int) := by rw [show (4 : Int) * k = ((4 * k : Nat) : Int) by omega]; exact wrap_small _ (by omega)
      have GG := hide (unhide G wr (unhide H).2 (4 * k) (by omega))
      have HX := hide (fillW_word bs hlt)
      have wf := wd_ofInt (bs.getD (4 * k) 0 * 16777216 + bs.getD (4 * k + 1) 0 * 65536 + bs.getD (4 * k + 2) 0 * 256 + bs.getD (4 * k + 3) 0)
      generalize bs.getD (4 * k) 0 * 16777216 + bs.getD (4 * k + 1) 0 * 65536 + bs.getD (4 * k + 2) 0 * 256 + bs.getD (4 * k + 3) 0 = X at *
      generalize 4 * k = m at *
      generalize BitVec.ofInt 32 X = Y at *
      go_wp2_with fail
      refine (unhide GG).mono ?_
      rintro e w1 ⟨rfl, n, rfl⟩
      have K1 := block_kept (below_draws (w := wr) n) (unhide H).1
      have kc := arr_cell K1 (i := k) (by rw [fillW_length]; omega)
      have kf := block_frozen K1 k
      have O1 := (unhide H).2.trans (outside_below (b := b) (below_draws (w := wr) n))
      have K2 := hide (arr_set K1 k Y)
      rw [unhide HX] at K2
      have O2 := hide (O1.trans (outside_set (wr.drewN n) b k (.int .u32 (wv Y))))
      have lk : (k : Int) < 64 := by omega
      have HLT := hide hlt
      generalize (fillW bs k).getD k 0 = old at *
      clear K1 O1 GG hlt
      go_wp2_with fail
      have hlt := unhide HLT
      exact ⟨⟨k + 1, by omega, by go_num, hide ⟨unhide K2, unhide O2⟩⟩, by simp [intOf]; omega⟩
    · have HE : Hid (wr.heap[b]? = some (.cells (cellsU (fillW bs 16)) t) ∧ Outside b (b + 1) w wr) := by
        have e : k = 16 := by omega
        rw [← e]
        exact H
      have e : ¬ ((k : Int) < 16) := by omega
      clear H hk hlt G H8 HLN HL
      go_wp2_with fail
      clear e
      go_loopw [7] (fun i wr => ∃ (k : Nat), 16 ≤ k ∧ k ≤ 64 ∧ i = .int .i64 k ∧ Hid (wr.heap[b]? = some (.cells (cellsU (fillW bs k)) t) ∧ Outside b (b + 1) w wr)) (fun i _ => 64 - (intOf i).toNat)
      case atStart => exact ⟨16, Nat.le_refl _, by omega, rfl, HE⟩
      case round =>
        clear HE
        obtain ⟨k, hk0, hk, rfl, H⟩ := hrel
        by_cases hlt : k < 64
        · go_wp2_with fail
          have e2 : IntKind.i64.wrap ((k : Int) - 2) = ((k - 2 : Nat) : Int) := by rw [show (k : Int) - 2 = ((k - 2 : Nat) : Int) by omega]; exact wrap_small _ (by omega)
          have e7 : IntKind.i64.wrap ((k : Int) - 7) = ((k - 7 : Nat) : Int) := by rw [show (k : Int) - 7 = ((k - 7 : Nat) : Int) by omega]; exact wrap_small _ (by omega)
          have e15 : IntKind.i64.wrap ((k : Int) - 15) = ((k - 15 : Nat) : Int) := by rw [show (k : Int) - 15 = ((k - 15 : Nat) : Int) by omega]; exact wrap_small _ (by omega)
          have e16 : IntKind.i64.wrap ((k : Int) - 16) = ((k - 16 : Nat) : Int) := by rw [show (k : Int) - 16 = ((k - 16 : Nat) : Int) by omega]; exact wrap_small _ (by omega)
          have l2 : ((k - 2 : Nat) : Int) < 64 := by omega
          have l7 : ((k - 7 : Nat) : Int) < 64 := by omega
          have l15 : ((k - 15 : Nat) : Int) < 64 := by omega
          have l16 : ((k - 16 : Nat) : Int) < 64 := by omega
          have lk : (k : Int) < 64 := by omega
          have HF := hide (fillW_next bs hk0)
          have SF := hide (fun (w' : World) (x : BitVec 32) (hb : w'.heap[b]? = some (.cells (cellsU (fillW bs k)) t) ∨ w'.heap[b]? = some (.cells (cellsU ((fillW bs k).set k x)) t)) => (⟨arr_or hb (by rw [fillW_length]; omega) (by omega), arr_or hb (by rw [fillW_length]; omega) (by omega), arr_or hb (by rw [fillW_length]; omega) (by omega), arr_or hb (by rw [fillW_length]; omega) (by omega)⟩ : w'.cell? ⟨b, k - 2, none⟩ = some (.int .u32 (wv ((fillW bs k).getD (k - 2) 0))) ∧ w'.cell? ⟨b, k - 7, none⟩ = some (.int .u32 (wv ((fillW bs k).getD (k - 7) 0))) ∧ w'.cell? ⟨b, k - 15, none⟩ = some (.int .u32 (wv ((fillW bs k).getD (k - 15) 0))) ∧ w'.cell? ⟨b, k - 16, none⟩ = some (.int .u32 (wv ((fillW bs k).getD (k - 16) 0)))))
          generalize (fillW bs k).getD (k - 2) 0 = X2 at *
          generalize (fillW bs k).getD (k - 7) 0 = X7 at *
          generalize (fillW bs k).getD (k - 15) 0 = X15 at *
          generalize (fillW bs k).getD (k - 16) 0 = X16 at *
          generalize k - 2 = p2 at *
          generalize k - 7 = p7 at *
          generalize k - 15 = p15 at *
          generalize k - 16 = p16 at *
          have HH := hide (⟨hk0, hk, hlt⟩ : 16 ≤ k ∧ k ≤ 64 ∧ k < 64)
          have K1 := hide (block_kept (below_drew (w := wr)) (unhide H).1)
          have O1 := hide ((unhide H).2.trans (outside_below (b := b) (below_drew (w := wr))))
          have A0 := wd_add X16 (turnR X15 7 ^^^ turnR X15 18 ^^^ X15 >>> 3)
          have A1 := wd_add (X16 + (turnR X15 7 ^^^ turnR X15 18 ^^^ X15 >>> 3)) X7
          have A2 := wd_add (X16 + (turnR X15 7 ^^^ turnR X15 18 ^^^ X15 >>> 3) + X7) (turnR X2 17 ^^^ turnR X2 19 ^^^ X2 >>> 10)
          clear hk0 hk hlt
          refine startF 34 (S := fun w' => w'.cell? ⟨b, p2, none⟩ = some (.int .u32 (wv X2)) ∧ w'.cell? ⟨b, p7, none⟩ = some (.int .u32 (wv X7)) ∧ w'.cell? ⟨b, p15, none⟩ = some (.int .u32 (wv X15)) ∧ w'.cell? ⟨b, p16, none⟩ = some (.int .u32 (wv X16))) (by kernel_rfl) rfl (unhide SF _ 0 (.inl (unhide K1))) (fun hHeld => ?_)
          simp only [List.replicate]
          repeat ((first | (refine tkF ?_ rfl (by kernel_rfl) (by rfl) (fun _ _ _ h => h) ?_ hHeld ?_; rotate_left; · (intro w hSw; (try dsimp only at hSw); go_simp <;> with_reducible rfl)) | refine skF rfl (by kernel_rfl) (by rfl) (fun _ _ _ h => h) hHeld ?_); simp only [Act.put, setF, List.setIfInBounds_toArray, List.set_cons_zero, List.set_cons_succ])
          refine tkI 16 ?_ rfl (by kernel_rfl) (by kernel_rfl) (fun _ _ _ h => h) ?_ hHeld ?_; rotate_left; (· (intro w hSw; (try dsimp only at hSw); go_simp <;> with_reducible rfl)); simp only [Act.put, List.setIfInBounds_toArray, List.set_cons_zero, List.set_cons_succ]
          refine tkI 17 ?_ rfl (by kernel_rfl) (by kernel_rfl) (fun _ _ _ h => h) ?_ hHeld ?_; rotate_left; (· (intro w hSw; (try dsimp only at hSw); go_simp <;> with_reducible rfl)); simp only [Act.put, List.setIfInBounds_toArray, List.set_cons_zero, List.set_cons_succ]
          refine tkI 18 ?_ rfl (by kernel_rfl) (by kernel_rfl) (fun _ _ _ h => h) ?_ hHeld ?_; rotate_left; (· (intro w hSw; (try dsimp only at hSw); go_simp <;> with_reducible rfl)); simp only [Act.put, List.setIfInBounds_toArray, List.set_cons_zero, List.set_cons_succ]
          refine tkI 19 ?_ rfl (by kernel_rfl) (by kernel_rfl) (fun _ _ _ h => h) ?_ hHeld ?_; rotate_left; (· (intro w hSw; (try dsimp only at hSw); go_simp <;> with_reducible rfl)); simp only [Act.put, List.setIfInBounds_toArray, List.set_cons_zero, List.set_cons_succ]
          refine tkI 20 ?_ rfl (by kernel_rfl) (by kernel_rfl) (fun _ _ _ h => h) ?_ hHeld ?_; rotate_left; (· (intro w hSw; (try dsimp only at hSw); go_simp <;> with_reducible rfl)); simp only [Act.put, List.setIfInBounds_toArray, List.set_cons_zero, List.set_cons_succ]
          refine tkI 21 ?_ rfl (by kernel_rfl) (by kernel_rfl) (fun _ _ _ h => h) ?_ hHeld ?_; rotate_left; (· (intro w hSw; (try dsimp only at hSw); go_simp <;> with_reducible rfl)); simp only [Act.put, List.setIfInBounds_toArray, List.set_cons_zero, List.set_cons_succ]
          refine tkI 23 ?_ rfl (by kernel_rfl) (by kernel_rfl) (fun _ _ _ h => h) ?_ hHeld ?_; rotate_left; (· (intro w hSw; (try dsimp only at hSw); go_simp <;> with_reducible rfl)); simp only [Act.put, List.setIfInBounds_toArray, List.set_cons_zero, List.set_cons_succ]
          refine tkI 24 ?_ rfl (by kernel_rfl) (by kernel_rfl) (fun _ _ _ h => h) ?_ hHeld ?_; rotate_left; (· (intro w hSw; (try dsimp only at hSw); go_simp <;> with_reducible rfl)); simp only [Act.put, List.setIfInBounds_toArray, List.set_cons_zero, List.set_cons_succ]
          refine tkI 25 ?_ rfl (by kernel_rfl) (by kernel_rfl) (fun _ _ _ h => h) ?_ hHeld ?_; rotate_left; (· (intro w hSw; (try dsimp only at hSw); go_simp <;> with_reducible rfl)); simp only [Act.put, List.setIfInBounds_toArray, List.set_cons_zero, List.set_cons_succ]
          refine tkI 26 ?_ rfl (by kernel_rfl) (by kernel_rfl) (fun _ _ _ h => h) ?_ hHeld ?_; rotate_left; (· (intro w hSw; (try dsimp only at hSw); go_simp <;> with_reducible rfl)); simp only [Act.put, List.setIfInBounds_toArray, List.set_cons_zero, List.set_cons_succ]
          refine tkI 27 ?_ rfl (by kernel_rfl) (by kernel_rfl) (fun _ _ _ h => h) ?_ hHeld ?_; rotate_left; (· (intro w hSw; (try dsimp only at hSw); go_simp <;> with_reducible rfl)); simp only [Act.put, List.setIfInBounds_toArray, List.set_cons_zero, List.set_cons_succ]
          refine tkI 28 ?_ rfl (by kernel_rfl) (by kernel_rfl) (fun _ _ _ h => h) ?_ hHeld ?_; rotate_left; (· (intro w hSw; (try dsimp only at hSw); go_simp <;> with_reducible rfl)); simp only [Act.put, List.setIfInBounds_toArray, List.set_cons_zero, List.set_cons_succ]
          refine tkI 31 ?_ rfl (by kernel_rfl) (by kernel_rfl) (fun _ _ _ h => h) ?_ hHeld ?_; rotate_left; (· (intro w hSw; (try dsimp only at hSw); go_simp <;> with_reducible rfl)); simp only [Act.put, List.setIfInBounds_toArray, List.set_cons_zero, List.set_cons_succ]
          refine runI 14 rfl (by kernel_rfl) (by kernel_rfl) (fun K hK => ?_)
          have HK := hide hK
          clear hK hHeld
          go_simp
          refine (spread_is X15 7 18 3 (by omega) (by omega) (by omega) _).mono ?_
          rintro e w1 ⟨rfl, b2⟩
          replace K1 := hide (block_kept b2 (unhide K1))
          replace O1 := hide ((unhide O1).trans (outside_below (b := b) b2))
          clear b2
          go_simp
          refine (unhide HK).out _ _ (unhide SF _ 0 (.inl (unhide K1))) (fun hHeld => ?_)
          clear HK K
          simp only [Act.put, List.setIfInBounds_toArray, List.set_cons_zero, List.set_cons_succ]
          repeat ((first | (refine tkF ?_ rfl (by kernel_rfl) (by rfl) (fun _ _ _ h => h) ?_ hHeld ?_; rotate_left; · (intro w hSw; (try dsimp only at hSw); go_simp <;> with_reducible rfl)) | refine skF rfl (by kernel_rfl) (by rfl) (fun _ _ _ h => h) hHeld ?_); simp only [Act.put, setF, List.setIfInBounds_toArray, List.set_cons_zero, List.set_cons_succ])
          refine runI 29 rfl (by kernel_rfl) (by kernel_rfl) (fun K hK => ?_)
          have HK := hide hK
          clear hK hHeld
          go_simp
          refine (spread_is X2 17 19 10 (by omega) (by omega) (by omega) _).mono ?_
          rintro e w2 ⟨rfl, b2⟩
          replace K1 := hide (block_kept b2 (unhide K1))
          replace O1 := hide ((unhide O1).trans (outside_below (b := b) b2))
          clear b2
          go_simp
          refine (unhide HK).out _ _ (unhide SF _ 0 (.inl (unhide K1))) (fun hHeld => ?_)
          clear HK K
          simp only [Act.put, List.setIfInBounds_toArray, List.set_cons_zero, List.set_cons_succ]
          repeat ((first | (refine tkF ?_ rfl (by kernel_rfl) (by rfl) (fun _ _ _ h => h) ?_ hHeld ?_; rotate_left; · (intro w hSw; (try dsimp only at hSw); go_simp <;> with_reducible rfl)) | refine skF rfl (by kernel_rfl) (by rfl) (fun _ _ _ h => h) hHeld ?_); simp only [Act.put, setF, List.setIfInBounds_toArray, List.set_cons_zero, List.set_cons_succ])
          have kc := arr_cell (unhide K1) (i := k) (by rw [fillW_length]; have := (unhide HH).2.2; omega)
          have kf := block_frozen (unhide K1) k
          generalize (fillW bs k).getD k 0 = old at *
          have K2 := hide (arr_set (unhide K1) k (X16 + (turnR X15 7 ^^^ turnR X15 18 ^^^ X15 >>> 3) + X7 + (turnR X2 17 ^^^ turnR X2 19 ^^^ X2 >>> 10)))
          have O2 := hide ((unhide O1).trans (outside_set w2 b k (.int .u32 (wv (X16 + (turnR X15 7 ^^^ turnR X15 18 ^^^ X15 >>> 3) + X7 + (turnR X2 17 ^^^ turnR X2 19 ^^^ X2 >>> 10))))))
          have SG := hide (unhide SF _ _ (.inr (unhide K2)))
          refine runI 33 rfl (by kernel_rfl) (by kernel_rfl) (fun K hK => ?_)
          have HK := hide hK
          clear hK hHeld
          go_simp
          refine (unhide HK).out _ _ (unhide SG) (fun hHeld => ?_)
          clear HK K
          simp only [Act.put, List.setIfInBounds_toArray, List.set_cons_zero, List.set_cons_succ]
          refine wpAnyH_done (by kernel_rfl) ?_ _
          clear hHeld kc kf A0 A1 A2 e2 e7 e15 e16 l2 l7 l15 l16
          have hf : (fillW bs k).set k (X16 + (turnR X15 7 ^^^ turnR X15 18 ^^^ X15 >>> 3) + X7 + (turnR X2 17 ^^^ turnR X2 19 ^^^ X2 >>> 10)) = fillW bs (k + 1) := (unhide HF).symm
          rw [hf] at K2
          generalize w2.setCell ⟨b, k, none⟩ (.int .u32 (wv (X16 + (turnR X15 7 ^^^ turnR X15 18 ^^^ X15 >>> 3) + X7 + (turnR X2 17 ^^^ turnR X2 19 ^^^ X2 >>> 10)))) = w3 at *
          clear hf
          have hh := unhide HH
          clear HF SF SG
          go_wp2_with fail
          exact ⟨⟨k + 1, by omega, by omega, by go_num, hide ⟨unhide K2, unhide O2⟩⟩, by simp [intOf]; omega⟩
        · have e : ¬ ((k : Int) < 64) := by omega
          have hk64 : k = 64 := by omega
          have HC : Hid (fillW bs 64 = fillW bs k) := hide (by rw [hk64])
          clear hk hk0 hlt hk64
          go_wp2_with fail
          go_end0
          exact ⟨⟨_, rfl⟩, ⟨_, HC, (unhide H).1⟩, (unhide H).2⟩
end Go.Proofs.YtkhiklemhkeakaaDoor
