/-
  Contracts of the library's Cut and TrimSuffix at a dot, in plain words.
-/
import Derived.Test.YtnloenkjfjlmeaaLabelsP
import Derived.Test.YtnloenkjfjlmeaaNames
import Derived.Test.YtnloenkjfjlmeaaShelf
namespace Go.Proofs.Ytnloenkjfjlmeaa
open Go.RowKit
set_option linter.unusedVariables false

theorem has_take {w : World} {g off cap : Nat} {r : List Int} (hg : g < w.heap.size) (hm : cap ≤ maxLen) (hl : r.length ≤ cap) (hc : ∀ i, i < r.length → w.cell? ⟨g, off + i, none⟩ = some (.int .u8 (r.getD i 0))) {i : Nat} (hi : i ≤ r.length) : Has w (.slice (some ⟨g, off, none⟩) i cap) (r.take i) := by
  have e : (r.take i).length = i := by simp; omega
  refine .inr ⟨g, off, cap, by rw [e], hg, by rw [e]; omega, hm, fun k hk => ?_⟩
  rw [e] at hk
  rw [hc k (by omega)]
  congr 2
  simp only [List.getD_eq_getElem?_getD]
  rw [List.getElem?_take_of_lt hk]
theorem has_from {w : World} {g off cap : Nat} {r : List Int} (hg : g < w.heap.size) (hm : cap ≤ maxLen) (hl : r.length ≤ cap) (hc : ∀ i, i < r.length → w.cell? ⟨g, off + i, none⟩ = some (.int .u8 (r.getD i 0))) {j : Nat} (hj : j ≤ r.length) : Has w (Lib.fromV (some ⟨g, off, none⟩) r.length cap j) (r.drop j) := by
  have e : (r.drop j).length = r.length - j := by simp
  unfold Lib.fromV
  by_cases hcj : cap = j
  · rw [if_pos hcj]
    refine .inr ⟨g, off, cap - j, by rw [e], hg, by rw [e]; omega, by omega, fun k hk => ?_⟩
    rw [e] at hk; omega
  · rw [if_neg hcj]
    refine .inr ⟨g, off + j, cap - j, ?_, hg, by rw [e]; omega, by omega, fun k hk => ?_⟩
    · rw [e, Option.map_some, WideShapes.add_plain]
    · rw [e] at hk
      rw [show off + j + k = off + (j + k) by omega, hc (j + k) (by omega)]
      congr 2
      simp only [List.getD_eq_getElem?_getD]
      rw [List.getElem?_drop]

/-- The same, of whatever world has it. -/
theorem Has.parts {w : World} {g off cap : Nat} {r : List Int} (h : Has w (.slice (some ⟨g, off, none⟩) r.length cap) r) : g < w.heap.size ∧ cap ≤ maxLen ∧ r.length ≤ cap ∧ ∀ i, i < r.length → w.cell? ⟨g, off + i, none⟩ = some (.int .u8 (r.getD i 0)) := by
  rcases h with ⟨h, _⟩ | ⟨g', off', cap', e, h1, h2, h3, h4⟩
  · cases h
  · cases e
    exact ⟨h1, h3, h2, h4⟩
theorem mem8 {l : List Int} (h : Bytes8 l) : ∀ x ∈ l, 0 ≤ x ∧ x ≤ 255 := fun c hc => by
  obtain ⟨i, hi, rfl⟩ := List.getElem_of_mem hc
  have := h i
  rwa [List.getD_eq_getElem?_getD, List.getElem?_eq_getElem hi] at this

/-- bytes.Cut at a dot. -/
theorem cut46 {w : World} {v : Value} {r : List Int} {d : Nat} (h : Has w v r) (hb : Bytes8 r) (hl : r.length ≤ 1048576) (hd : w.cell? ⟨d, 0, none⟩ = some (.int .u8 46)) :
    Calls Try.prog 105 #[v, .slice (some ⟨d, 0, none⟩) 1 1] w fun e w' => ∃ u v', e = .returned (.tuple #[u, v', .bool (hasDot r)]) ∧ (∀ w1, Has w1 v r → Has w1 u (headOf r) ∧ Has w1 v' (tailOf r)) ∧ ∃ q, w' = w.drewN q := by
  rcases h with ⟨rfl, rfl⟩ | ⟨g, off, cap, rfl, hg, hcap, hm, hc⟩
  · refine (Try.bytes_Cut_of none (some ⟨d, 0, none⟩) 0 0 1 1 (-1) w (Nat.le_refl _) (by omega) (by omega) (by omega) ((Try.bytes_Index_nil (some ⟨d, 0, none⟩) 1 1 w (by omega) (fun _ => ⟨d, 0, 46, rfl, hd⟩)).mono fun e w' ⟨h1, h2⟩ => ⟨h1, 0, h2⟩)).mono ?_
    rintro e w' ⟨rfl, q, rfl⟩
    exact ⟨.slice none 0 0, .slice none 0 0, rfl, fun w1 _ => ⟨.inl ⟨rfl, rfl⟩, .inl ⟨rfl, rfl⟩⟩, q, rfl⟩
  · have hI := Try.bytes_Index_one_at ⟨g, off, none⟩ r.length cap d 0 1 r 46 w rfl (fun i hi => by rw [WideShapes.add_plain]; exact hc i hi) hd
    obtain ⟨i1, i2⟩ := index46 r (mem8 hb)
    cases hh : hasDot r with
    | false =>
      obtain ⟨e1, e2⟩ := dot_none r hh
      rw [i1 hh] at hI
      refine (Try.bytes_Cut_of (some ⟨g, off, none⟩) (some ⟨d, 0, none⟩) r.length cap 1 1 (-1) w hcap (by omega) (by omega) (by omega) (hI.mono fun e w' ⟨h1, h2⟩ => ⟨h1, 0, h2⟩)).mono ?_
      rintro e w' ⟨rfl, q, rfl⟩
      refine ⟨_, _, rfl, fun w1 h1 => ⟨?_, .inl ⟨rfl, e2⟩⟩, q, rfl⟩
      rw [e1]
      exact h1
    | true =>
      obtain ⟨i, hi, e1, e2⟩ := dot_some r hh
      rw [i2 i hh e1 hi] at hI
      refine (Try.bytes_Cut_of (some ⟨g, off, none⟩) (some ⟨d, 0, none⟩) r.length cap 1 1 i w hcap (by omega) (by omega) (by omega) (hI.mono fun e w' ⟨h1, h2⟩ => ⟨h1, 0, h2⟩)).mono ?_
      rintro e w' ⟨rfl, q, rfl⟩
      refine ⟨.slice (some ⟨g, off, none⟩) i cap, Lib.fromV (some ⟨g, off, none⟩) r.length cap (i + 1), ?_, fun w1 h1 => ?_, q, rfl⟩
      · unfold Lib.cutV
        rw [if_pos (by omega), Int.toNat_natCast]
      · obtain ⟨p1, p2, p3, p4⟩ := h1.parts
        rw [e1, e2]
        exact ⟨has_take p1 p2 p3 p4 (by omega), has_from p1 p2 p3 p4 (by omega)⟩

theorem suffix_dot {l : List Int} (hb : Bytes8 l) : Lib.hasSuffix (Lib.bytesOf l) (Lib.bytesOf [46]) = decide (l.getLast? = some 46) := by
  have hm := mem8 hb
  rcases List.eq_nil_or_concat l with rfl | ⟨m, y, rfl⟩
  · rfl
  · rw [List.concat_eq_append] at *
    have hy := hm y (by simp)
    have e : Lib.bytesOf (m ++ [y]) = Lib.bytesOf m ++ [UInt8.ofNat y.toNat] := by simp [Lib.bytesOf]
    have e2 : Lib.bytesOf [46] = [UInt8.ofNat 46] := rfl
    have hbd := byte_dot hy.1 hy.2
    rw [show (46 : Int).toNat.toUInt8 = UInt8.ofNat 46 from rfl] at hbd
    have e3 : ((m ++ [y]).getLast? = some 46) ↔ y = 46 := by rw [List.getLast?_append]; simp
    unfold Lib.hasSuffix
    rw [e, e2, Bool.eq_iff_iff, decide_eq_true_iff, e3, List.isSuffixOf_iff_suffix]
    constructor
    · rintro ⟨t, ht⟩
      have := List.append_inj_right' ht rfl
      simp only [List.cons.injEq, and_true] at this
      rw [← this, beq_self_eq_true] at hbd
      exact of_decide_eq_true hbd.symm
    · rintro rfl
      exact ⟨Lib.bytesOf m, rfl⟩

/-- bytes.TrimSuffix of a dot. -/
theorem trim_dot {w : World} {v : Value} {l : List Int} {d : Nat} (h : Has w v l) (hb : Bytes8 l) (hl : l.length ≤ 1048576) (hd : w.cell? ⟨d, 0, none⟩ = some (.int .u8 46)) :
    Calls Try.prog 104 #[v, .slice (some ⟨d, 0, none⟩) 1 1] w fun e w' => ∃ u, e = .returned u ∧ (∀ w1, Has w1 v l → Has w1 u (trimD l)) ∧ w' = w := by
  rcases h with ⟨rfl, rfl⟩ | ⟨g, off, cap, rfl, hg, hcap, hm, hc⟩
  · refine (Try.bytes_TrimSuffix_e1 none (some ⟨d, 0, none⟩) 0 1 1 (by omega) w).mono ?_
    rintro e w' ⟨rfl, rfl⟩
    exact ⟨_, rfl, fun w1 _ => .inl ⟨rfl, rfl⟩, rfl⟩
  · have hd1 : ∀ i, i < 1 → w.cell? ⟨d, 0 + i, none⟩ = some (.int .u8 ([46].getD i 0)) := by
      intro i hi
      obtain rfl : i = 0 := by omega
      exact hd
    refine (Try.bytes_TrimSuffix g off l.length cap d 0 1 1 l [46] w rfl rfl hcap (by omega) hc hd1).mono ?_
    rintro e w' ⟨rfl, rfl⟩
    refine ⟨_, rfl, fun w1 h1 => ?_, rfl⟩
    obtain ⟨p1, p2, p3, p4⟩ := h1.parts
    unfold Lib.bytesTrimSuffix trimD Lib.sliceTo
    rw [suffix_dot hb]
    by_cases hs : l.getLast? = some 46
    · rw [if_pos (by simpa using hs), if_pos hs, List.dropLast_eq_take]
      have hne : l.length ≠ 0 := by intro q; rw [List.eq_nil_of_length_eq_zero q] at hs; cases hs
      exact has_take p1 p2 p3 p4 (by simp)
    · rw [if_neg (by simpa using hs), if_neg hs]
      exact h1
end Go.Proofs.Ytnloenkjfjlmeaa
