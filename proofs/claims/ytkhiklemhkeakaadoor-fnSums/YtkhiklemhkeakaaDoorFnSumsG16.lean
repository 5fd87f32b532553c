/-
  Plain facts: one byte, made anew. No program is named here. Contract of the program's padded.
-/
import Derived.Test.YtkhiklemhkeakaaDoorFnSumsG00
import Derived.Test.YtkhiklemhkeakaaDoorFnSumsG14
import Derived.Test.YtkhiklemhkeakaaDoorFnSumsG15
namespace Go.Proofs.YtkhiklemhkeakaaDoor
open Go.RowKit

theorem own_byte1 (w : World) (B : Nat) (e : TypeId) (x : Int) (hB : B ≤ w.heap.size) : Own B e (w.alloc (.cells #[.int .u8 x] e)) (.slice (some ⟨w.heap.size, 0, none⟩) 1 1) [x] := own_lit w B e [x] hB (by simp [maxLen])
end Go.Proofs.YtkhiklemhkeakaaDoor

namespace Go.Proofs.YtkhiklemhkeakaaDoor
open Go.RowKit
set_option linter.unusedVariables false
set_option linter.unusedSimpArgs false

theorem be8_small {n : Nat} (hn : n < 4294967296) : be8 n 8 = [0, 0, 0, 0] ++ [(n : Int) / 16777216, (n : Int) / 65536 % 256, (n : Int) / 256 % 256, (n : Int) % 256] := by
  simp [be8]
  omega

set_option maxHeartbeats 600000 in
set_option maxRecDepth 100000 in
theorem padded_is {v : Value} {l : List Int} {w : World} (h : Has w v l) (hl : l.length ≤ 4096) :
    Calls Tryd.prog 12 #[v] w fun e w' => ∃ v', e = .returned v' ∧ Own w.heap.size 5 w' v' (paddedOf l) ∧ Below w.heap.size w w' := by
  obtain ⟨la, lc, hlv, _⟩ := h.form
  generalize hln : l.length = n at *
  have HLN := hide hln
  clear hln
  subst hlv
  go_enter Tryd.func12, Tryd.ntmps12
  go_wp2_with fail
  refine (copyBytes_reads h.reads (by rw [unhide HLN]; omega)).mono ?_
  rintro e w1 ⟨v1, rfl, o1, b1⟩
  have z1 := b1.size
  go_wp2_with (at_builtin; (refine append_bytes rfl _ _ 22 5 rfl Tryd.underlying22 info_u8 w.heap.size v1 _ l [128] rfl rfl (o1.alloc _) (own_byte1 w1 0 5 _ (Nat.zero_le _)).reads (by simp [unhide HLN]; omega) (by simp; omega) ?_))
  intro v2 w2 o2 hgrow
  have b2 : Below w.heap.size w w2 := (b1.alloc z1 _).grown hgrow (by simp; omega) (fun k hk => (o1.lt k hk).1)
  have z2 := b2.size
  have O2 : Hid (Own w.heap.size 5 w2 v2 (padK l 0)) := hide (by simpa [padK] using o2)
  have B2 := hide b2
  clear hgrow o1 b1 o2 b2 z1 z2
  have HZ := hide (fun j (hj : j < zerosN l.length) => zerosN_less hj)
  have HZ2 := hide (zerosN_is l.length)
  have HZ3 := hide (zerosN_lt l.length)
  rw [unhide HLN] at HZ HZ2 HZ3
  have HP := hide (show paddedOf l = padK l (zerosN n) ++ be8 (n * 8) 8 by rw [← unhide HLN]; rfl)
  go_wp2_with fail
  go_loopw [3] (fun a wr => ∃ (j : Nat), j ≤ zerosN n ∧ Hid (Own w.heap.size 5 wr a (padK l j)) ∧ Hid (Below w.heap.size w wr)) (fun a _ => 5000 - lenV a)
  case atStart => exact ⟨0, Nat.zero_le _, O2, B2⟩
  case round =>
    clear O2 B2
    obtain ⟨j, hj, ho, hb⟩ := hrel
    obtain ⟨a, cap, hv, _⟩ := (unhide ho).lies
    rw [padK_length, unhide HLN] at hv
    subst hv
    have zz := (unhide hb).size
    by_cases hlt : j < zerosN n
    · have hne := unhide HZ j hlt
      have hz3 := unhide HZ3
      have hm : ((n + 1 + j : Nat) : Int) % 64 ≠ 56 := by omega
      have hm2 : n + 1 + j < 5000 := by omega
      have hA : (padK l j).length + ([0] : List Int).length ≤ 1099511627776 := by rw [padK_length, unhide HLN]; simp only [List.length_cons, List.length_nil]; omega
      have HA := hide hA
      clear hA
      generalize hN : n + 1 + j = N at *
      have HN := hide hN
      clear hN hne hz3
      go_wp2_with (at_builtin; refine append_bytes rfl _ _ 22 5 rfl Tryd.underlying22 info_u8 w.heap.size (.slice a N cap) _ (padK l j) [0] rfl rfl ((unhide ho).alloc _) (own_byte1 wr 0 5 _ (Nat.zero_le _)).reads (unhide HA) (by simp; omega) ?_)
      intro v3 w3 o3 hgrow
      rw [padK_next] at o3
      have b3 : Below w.heap.size w w3 := ((unhide hb).alloc zz _).grown hgrow (by simp; omega) (fun k hk => ((unhide ho).lt k hk).1)
      have O3 := hide o3
      obtain ⟨a3, c3, hv3, _⟩ := o3.lies
      rw [padK_length, unhide HLN, show n + 1 + (j + 1) = N + 1 by have := unhide HN; omega] at hv3
      subst hv3
      have B3 := hide b3
      clear hgrow o3 b3
      go_wp2
      exact ⟨⟨j + 1, by omega, O3, B3⟩, by simp [lenV]; omega⟩
    · have hjz : j = zerosN n := by omega
      have hz2 := unhide HZ2
      rw [← hjz] at hz2
      have hm : ((n + 1 + j : Nat) : Int) % 64 = 56 := by omega
      have e8 : IntKind.i64.wrap (8 * (n : Int)) = ((n * 8 : Nat) : Int) := by rw [show (8 : Int) * n = ((n * 8 : Nat) : Int) by omega]; exact wrap_small (n * 8) (by omega)
      have hz3 := unhide HZ3
      have HPP := hide (show padK l j ++ [0, 0, 0, 0] ++ [((n * 8 : Nat) : Int) / 16777216, ((n * 8 : Nat) : Int) / 65536 % 256, ((n * 8 : Nat) : Int) / 256 % 256, ((n * 8 : Nat) : Int) % 256] = paddedOf l by rw [unhide HP, be8_small (by omega), ← hjz, List.append_assoc])
      have hL1 := hide (show (padK l j).length ≤ 1048576 by rw [padK_length, unhide HLN]; omega)
      have hL2 := hide (show (padK l j ++ [0, 0, 0, 0]).length ≤ 1048576 by rw [List.length_append, padK_length, unhide HLN]; simp only [List.length_cons, List.length_nil]; omega)
      have M0 := hide (show 0 ≤ ((n * 8 : Nat) : Int) ∧ ((n * 8 : Nat) : Int) ≤ 4294967295 by omega)
      clear hz2 hz3 hlt hj HZ hjz HP HZ2 HZ3
      generalize hN : n + 1 + j = N at *
      generalize ((n * 8 : Nat) : Int) = M at *
      clear hN
      go_wp2_with fail
      refine (implPut32_yes 0 (unhide ho) (unhide hL1) (by omega) (by omega)).mono ?_
      rintro e w3 ⟨v3, rfl, o3, b3⟩
      have O3 := hide (show Own wr.heap.size 5 w3 v3 (padK l j ++ [0, 0, 0, 0]) from o3)
      have B3 := hide (below_next (unhide hb) b3)
      clear o3 b3
      go_wp2_with fail
      refine (implPut32_yes M (unhide O3) (unhide hL2) (unhide M0).1 (unhide M0).2).mono ?_
      rintro e w4 ⟨v4, rfl, o4, b4⟩
      rw [unhide HPP] at o4
      go_wp2_with fail
      go_ret
      exact ⟨_, rfl, o4.mono (Nat.le_trans (unhide B3).size (Nat.le_refl _)), below_next (unhide B3) b4⟩
end Go.Proofs.YtkhiklemhkeakaaDoor
