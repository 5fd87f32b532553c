/-
  Contracts of the program's own helper readPart: one number of an address.
-/
import Derived.Test.YtdbojhbdfcknfaaDoorBase
import Derived.Test.YtdbojhbdfcknfaaDoorRunes
import Derived.Test.YtdbojhbdfcknfaaDoorDotRead
namespace Go.Proofs.YtdbojhbdfcknfaaDoor
open Go.RowKit
set_option linter.unusedVariables false

/-- A reading as the program answers it. -/
def rp : Option Int → Int × Bool
  | none => (0, false)
  | some p => (p, true)

theorem str_cons (c : Int) (r : List Int) : (strOfNums (c :: r)).data.toList = UInt8.ofNat c.toNat :: (strOfNums r).data.toList := by simp [strOfNums]

theorem str_isEmpty (c : Int) (r : List Int) : (strOfNums (c :: r)).toList.isEmpty = false := by rw [ByteArray.toList_eq, str_cons]; rfl

theorem str_pos (c : Int) (r : List Int) : 0 < (strOfNums (c :: r)).size := by rw [strOfNums_size]; simp

theorem str_first (c : Int) (r : List Int) (h0 : 0 ≤ c) (h1 : c ≤ 255) (hp : 0 < (strOfNums (c :: r)).size) : (((strOfNums (c :: r))[0]'hp).toNat : Int) = c := by
  have e : (strOfNums (c :: r))[0]'hp = UInt8.ofNat c.toNat := by simp [strOfNums, ByteArray.getElem_eq_getElem_data]
  rw [e, UInt8.toNat_ofNat']
  omega

theorem str_is48 (c : Int) (r : List Int) (hb : ∀ x ∈ c :: r, 0 ≤ x ∧ x ≤ 255) (hc : c = 48) : (!(strOfNums (c :: r)).toList == [48]) = !decide (r = []) := by
  rw [ByteArray.toList_eq, str_cons]
  subst hc
  cases r with
  | nil => rfl
  | cons d r => rw [str_cons]; simp

theorem drop_step (t : List Int) (k : Nat) (h : k < t.length) : t.drop k = t.getD k 0 :: t.drop (k + 1) := by
  rw [List.drop_eq_getElem_cons h]
  simp [h]

theorem rrun_bad (c : Int) (r : List Int) (n : Int) (h : c < 48 ∨ 57 < c) : rrun (c :: r) n = none := by rw [rrun, if_pos h]
theorem rrun_big (c : Int) (r : List Int) (n : Int) (h : ¬ (c < 48 ∨ 57 < c)) (h2 : 255 < 10 * n + (c - 48)) : rrun (c :: r) n = none := by rw [rrun, if_neg h, if_pos h2]
theorem rrun_next (c : Int) (r : List Int) (n : Int) (h : ¬ (c < 48 ∨ 57 < c)) (h2 : ¬ 255 < 10 * n + (c - 48)) : rrun (c :: r) n = rrun r (10 * n + (c - 48)) := by rw [rrun, if_neg h, if_neg h2]

set_option maxHeartbeats 400000 in
set_option maxRecDepth 100000 in
theorem readPart_empty (w : World) :
    Calls Tryd.prog 48 #[.string (strOfNums [])] w fun e w' => e = .returned (.tuple #[.int .i64 0, .bool false]) ∧ w = w' := by
  have hs : strOfNums [] = ⟨#[]⟩ := rfl
  rw [hs]
  go_enter Tryd.func48, Tryd.ntmps48
  go_wp2
  go_ret2
  exact ⟨rfl, rfl⟩

set_option maxHeartbeats 400000 in
set_option maxRecDepth 100000 in
theorem readPart_zero (s : ByteArray) (w : World) (hE : s.toList.isEmpty = false) (hP : 0 < s.size) (h0 : ((s[0]'hP).toNat : Int) = 48) (hZ : (!s.toList == [48]) = true) :
    Calls Tryd.prog 48 #[.string s] w fun e w' => e = .returned (.tuple #[.int .i64 0, .bool false]) ∧ w = w' := by
  go_enter Tryd.func48, Tryd.ntmps48
  go_wp2
  go_ret2
  exact ⟨rfl, rfl⟩

set_option maxHeartbeats 1000000 in
set_option maxRecDepth 100000 in
theorem readPart_run (t : List Int) (s : ByteArray) (w : World) (hs : strOfNums t = s) (hl : t.length ≤ 2097152) (hb : ∀ k, 0 ≤ t.getD k 0 ∧ t.getD k 0 ≤ 255) (hE : s.toList.isEmpty = false) (hP : 0 < s.size)
    (h0 : ((s[0]'hP).toNat : Int) ≠ 48 ∨ (((s[0]'hP).toNat : Int) = 48 ∧ (!s.toList == [48]) = false)) :
    Calls Tryd.prog 48 #[.string s] w fun e w' => e = .returned (.tuple #[.int .i64 (rp (rrun t 0)).1, .bool (rp (rrun t 0)).2]) ∧ Below w.heap.size w w' := by
  have hsz := strOfNums_size t
  rw [hs] at hsz
  have HS := hide hs
  clear hs
  have HB := hide hb
  clear hb
  generalize hn : t.length = len at *
  have HN := hide hn
  clear hn
  generalize hR : rrun t 0 = R
  have HR := hide hR
  clear hR
  rcases h0 with h0 | ⟨h0, hZ⟩
  all_goals
    go_enter Tryd.func48, Tryd.ntmps48
    go_wp2
    go_loopw [4] (fun nv wr => ∃ (pos : Nat) (n : Int), pos ≤ len ∧ nv = .int .i64 n ∧ 0 ≤ n ∧ n ≤ 255 ∧ Hid (rrun (t.drop pos) n = R) ∧ wr = w.iter s pos) (fun _ wr => len - wr.iterPos w.heap.size)
    case atStart => exact ⟨0, 0, Nat.zero_le _, rfl, by omega, by omega, HR, rfl⟩
    case round =>
      obtain ⟨pos, n, hpos, rfl, hn0, hn1, hrun, rfl⟩ := hrel
      by_cases hlt : pos < len
      · have hp : pos < s.size := by omega
        have hnx : ∀ ty, (Instr.next (.pointer (some ⟨w.heap.size, 0, none⟩)) true ty).run Tryd.prog (w.iter s pos) = _ := fun ty => run_next_any w s pos ty hp
        have hd := hide (decode_l t (unhide HB) pos (by rw [unhide HN]; exact hlt))
        rw [unhide HS] at hd
        have hle := decode_le s pos
        generalize hde : Utf8.decode s pos = d at *
        clear hde
        obtain ⟨d1, d2⟩ := d
        simp only at hnx hle hd
        have hst := hide (drop_step t pos (by rw [unhide HN]; exact hlt))
        have hx := (unhide HB) pos
        generalize hxe : t.getD pos 0 = x at *
        have HX := hide hxe
        clear hxe
        rcases (unhide hd).2.2 with ⟨ha, he, rfl⟩ | ⟨ha, hall⟩
        · by_cases hA : x < 48 ∨ 57 < x
          · have hrr := hide (show R = none by rw [← unhide hrun, unhide hst, rrun_bad _ _ _ hA])
            rcases hA with hA | hA
            · go_wp2
              go_ret2
              rw [unhide hrr]
              exact ⟨rfl, (Below.refl _ _).alloc (Nat.le_refl _) _⟩
            · go_wp2
              go_ret2
              rw [unhide hrr]
              exact ⟨rfl, (Below.refl _ _).alloc (Nat.le_refl _) _⟩
          · have i1 : 48 ≤ x := by omega
            have i2 : x ≤ 57 := by omega
            by_cases hB2 : 255 < 10 * n + (x - 48)
            · have hrr := hide (show R = none by rw [← unhide hrun, unhide hst, rrun_big _ _ _ hA hB2])
              go_wp2
              go_ret2
              rw [unhide hrr]
              exact ⟨rfl, (Below.refl _ _).alloc (Nat.le_refl _) _⟩
            · have hrr := hide (show rrun (t.drop (pos + 1)) (10 * n + (x - 48)) = R by rw [← unhide hrun, unhide hst, rrun_next _ _ _ hA hB2])
              have i3 : 10 * n + (x - 48) ≤ 255 := by omega
              clear hB2 hA
              go_wp2
              refine ⟨⟨pos + 1, _, by omega, rfl, by omega, by omega, hrr, rfl⟩, ?_⟩
              rw [World.iterPos_iter, World.iterPos_iter]
              omega
        · have hA : x < 48 ∨ 57 < x := by
            have h1 := (unhide hd).1
            have h2 := hall pos (Nat.le_refl _) (by omega)
            rw [unhide HX] at h2
            omega
          clear hall
          have hrr := hide (show R = none by rw [← unhide hrun, unhide hst, rrun_bad _ _ _ hA])
          have i1 : 57 < (d1 : Int) := by omega
          go_wp2
          go_ret2
          rw [unhide hrr]
          exact ⟨rfl, (Below.refl _ _).alloc (Nat.le_refl _) _⟩
      · have hp : ¬ pos < s.size := by omega
        have hnx : ∀ ty, (Instr.next (.pointer (some ⟨w.heap.size, 0, none⟩)) true ty).run Tryd.prog (w.iter s pos) = _ := fun ty => run_next_end w s pos ty hp
        have hrr := hide (show R = some n by rw [← unhide hrun, List.drop_of_length_le (by rw [unhide HN]; omega)]; rfl)
        go_wp2
        go_ret2
        rw [unhide hrr]
        exact ⟨rfl, (Below.refl _ _).alloc (Nat.le_refl _) _⟩

theorem getD_bd {t : List Int} (hb : ∀ x ∈ t, 0 ≤ x ∧ x ≤ 255) : ∀ k, 0 ≤ t.getD k 0 ∧ t.getD k 0 ≤ 255 := by
  intro k
  by_cases h : k < t.length
  · have := hb t[k] (List.getElem_mem h)
    simpa [h] using this
  · simp [h]

/-- readPart, at every text. -/
theorem readPart_any (t : List Int) (w : World) (hl : t.length ≤ 2097152) (hb : ∀ x ∈ t, 0 ≤ x ∧ x ≤ 255) :
    Calls Tryd.prog 48 #[.string (strOfNums t)] w fun e w' => e = .returned (.tuple #[.int .i64 (rp (readP t)).1, .bool (rp (readP t)).2]) ∧ Below w.heap.size w w' := by
  match t, hl, hb with
  | [], _, _ => exact (readPart_empty w).mono fun e w' ⟨he, hw⟩ => ⟨he, hw ▸ Below.refl _ _⟩
  | c :: r, hl, hb =>
    have hc := hb c (by simp)
    have hf := str_first c r hc.1 hc.2 (str_pos c r)
    by_cases h48 : c = 48
    · by_cases hr : r = []
      · have e : readP (c :: r) = rrun (c :: r) 0 := by unfold readP; rw [if_neg (by simp [h48, hr])]
        rw [e]
        exact readPart_run (c :: r) _ w rfl hl (getD_bd hb) (str_isEmpty c r) (str_pos c r) (.inr ⟨by rw [hf]; exact h48, by rw [str_is48 c r hb h48]; simp [hr]⟩)
      · have e : readP (c :: r) = none := by unfold readP; rw [if_pos (by simp [h48, hr])]
        rw [e]
        exact (readPart_zero _ w (str_isEmpty c r) (str_pos c r) (by rw [hf]; exact h48) (by rw [str_is48 c r hb h48]; simp [hr])).mono fun e w' ⟨he, hw⟩ => ⟨he, hw ▸ Below.refl _ _⟩
    · have e : readP (c :: r) = rrun (c :: r) 0 := by unfold readP; rw [if_neg (by simp [h48])]
      rw [e]
      exact readPart_run (c :: r) _ w rfl hl (getD_bd hb) (str_isEmpty c r) (str_pos c r) (.inl (by rw [hf]; exact h48))
end Go.Proofs.YtdbojhbdfcknfaaDoor
