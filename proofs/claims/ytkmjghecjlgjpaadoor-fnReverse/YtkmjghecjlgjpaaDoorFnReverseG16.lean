/-
  A slice of bytes made into a text. Plain facts: an address read from its text, as the program does it and as the specification does it, and that both read the same. No program is named here.
-/
import Derived.Test.YtkmjghecjlgjpaaDoorFnReverseG02
import Derived.Test.YtkmjghecjlgjpaaDoorFnReverseG00
import Derived.Lib.Split
import Derived.Lib.SplitLaws
namespace Go.Proofs.YtkmjghecjlgjpaaDoor
open Go.RowKit

theorem conv_own {B : Nat} {v : Value} {l : List Int} {w : World} (h : Own B 5 w v l) : (convert 22 9 v).run Tryd.prog w = .ok (.string (strOfNums l)) w := by
  rcases h.form with ⟨rfl, rfl⟩ | ⟨g, cap, rfl, _, _, _, _, hc, _⟩
  · exact run_convert_bytes_nil w 22 5 Tryd.underlying22 Tryd.underlying5 0 0 9 Tryd.underlying9
  · exact run_convert_bytes_arg w 22 5 Tryd.underlying22 Tryd.underlying5 g 0 l.length cap l rfl (fun i hi => by rw [Nat.zero_add]; exact hc i hi) 9 Tryd.underlying9

theorem conv_has {v : Value} {l : List Int} {w : World} (h : Has w v l) : (convert 22 9 v).run Tryd.prog w = .ok (.string (strOfNums l)) w := by
  rcases h with ⟨rfl, rfl⟩ | ⟨g, off, cap, rfl, _, _, _, hc⟩
  · exact run_convert_bytes_nil w 22 5 Tryd.underlying22 Tryd.underlying5 0 0 9 Tryd.underlying9
  · exact run_convert_bytes_arg w 22 5 Tryd.underlying22 Tryd.underlying5 g off l.length cap l rfl hc 9 Tryd.underlying9
end Go.Proofs.YtkmjghecjlgjpaaDoor

namespace Go.Proofs.YtkmjghecjlgjpaaDoor
open Go.RowKit

/-- The digits of a number, one by one. -/
def rrun : List Int → Int → Option Int
  | [], n => some n
  | c :: r, n => if c < 48 ∨ 57 < c then none else if 255 < 10 * n + (c - 48) then none else rrun r (10 * n + (c - 48))

/-- One number of an address. -/
def readP (t : List Int) : Option Int := if t = [] ∨ (t.getD 0 0 = 48 ∧ t ≠ [48]) then none else rrun t 0

theorem rrun_bd (t : List Int) : ∀ n p, 0 ≤ n → n ≤ 255 → rrun t n = some p → 0 ≤ p ∧ p ≤ 255 := by
  induction t with
  | nil => intro n p h0 h1 h; simp [rrun] at h; omega
  | cons c r ih =>
    intro n p h0 h1 h
    unfold rrun at h
    split at h
    · simp at h
    · split at h
      · simp at h
      · exact ih _ p (by omega) (by omega) h

theorem rrun_sound (t : List Int) : ∀ n p, 1 ≤ n → rrun t n = some p → digs p = digs n ++ t := by
  induction t with
  | nil => intro n p _ h; simp [rrun] at h; subst h; simp
  | cons c r ih =>
    intro n p h0 h
    unfold rrun at h
    split at h
    · simp at h
    · split at h
      · simp at h
      · rename_i h1 h2
        have := ih _ p (by omega) h
        rw [this, digs_ge (10 * n + (c - 48)) (by omega), show (10 * n + (c - 48)) / 10 = n from by omega, show (48 : Int) + (10 * n + (c - 48)) % 10 = c from by omega]
        simp

theorem readP_sound {t : List Int} {p : Int} (h : readP t = some p) : 0 ≤ p ∧ p ≤ 255 ∧ t = digs p := by
  unfold readP at h
  split at h
  · simp at h
  · rename_i hn
    have hb := rrun_bd t 0 p (by omega) (by omega) h
    refine ⟨hb.1, hb.2, ?_⟩
    match t, hn, h with
    | [], hn, _ => simp at hn
    | c :: r, hn, h =>
      simp at hn
      unfold rrun at h
      split at h
      · simp at h
      · split at h
        · simp at h
        · rename_i h1 h2
          by_cases hc : c = 48
          · obtain ⟨_, rfl⟩ := hn hc
            subst hc
            simp [rrun] at h
            subst h
            rw [digs_lt 0 (by omega) (by omega)]; simp
          · have := rrun_sound r _ p (by omega) h
            rw [this, digs_lt _ (by omega) (by omega), show (48 : Int) + (10 * 0 + (c - 48)) = c from by omega]
            simp

theorem rrun_one (x n : Int) (r : List Int) (h0 : 0 ≤ x) (h1 : x ≤ 9) (h2 : 10 * n + x ≤ 255) : rrun ((48 + x) :: r) n = rrun r (10 * n + x) := by
  have e : 10 * n + (48 + x - 48) = 10 * n + x := by omega
  rw [rrun, if_neg (by omega), e, if_neg (by omega)]

theorem rrun_digs (x : Int) (r : List Int) (h0 : 0 ≤ x) (h1 : x ≤ 255) : rrun (digs x ++ r) 0 = rrun r x := by
  by_cases a : x < 10
  · rw [digs_lt x h0 a, List.singleton_append, rrun_one x 0 r h0 (by omega) (by omega)]
    congr 1; omega
  · rw [digs_ge x (by omega), List.append_assoc]
    by_cases b : x / 10 < 10
    · rw [digs_lt _ (by omega) b, List.singleton_append, rrun_one (x / 10) 0 _ (by omega) (by omega) (by omega), List.singleton_append, rrun_one _ _ _ (by omega) (by omega) (by omega)]
      congr 1; omega
    · rw [digs_ge (x / 10) (by omega), digs_lt (x / 10 / 10) (by omega) (by omega), List.append_assoc, List.singleton_append, rrun_one _ 0 _ (by omega) (by omega) (by omega), List.singleton_append, rrun_one _ _ _ (by omega) (by omega) (by omega), List.singleton_append, rrun_one _ _ _ (by omega) (by omega) (by omega)]
      congr 1; omega

theorem digs_head (x : Int) (h0 : 0 ≤ x) (h1 : x ≤ 255) : digs x ≠ [] ∧ ((digs x).getD 0 0 = 48 → digs x = [48]) := by
  by_cases a : x < 10
  · rw [digs_lt x h0 a]; simp
  · rw [digs_ge x (by omega)]
    by_cases b : x / 10 < 10
    · rw [digs_lt _ (by omega) b]; simp; omega
    · rw [digs_ge (x / 10) (by omega), digs_lt (x / 10 / 10) (by omega) (by omega)]; simp; omega

theorem readP_digs (x : Int) (h0 : 0 ≤ x) (h1 : x ≤ 255) : readP (digs x) = some x := by
  have hh := digs_head x h0 h1
  unfold readP
  rw [if_neg]
  · have := rrun_digs x [] h0 h1
    rw [List.append_nil] at this
    rw [this]; rfl
  · rintro (h | ⟨h, h'⟩)
    · exact hh.1 h
    · exact h' (hh.2 h)

/-- A text cut at its dots. -/
def cutDots : List Int → List (List Int)
  | [] => [[]]
  | c :: l => if c = 46 then [] :: cutDots l else ((c :: (cutDots l).headD []) :: (cutDots l).tail)

theorem cutDots_ne (l : List Int) : cutDots l ≠ [] := by
  cases l with
  | nil => simp [cutDots]
  | cons c l => unfold cutDots; split <;> simp

/-- Texts with dots between. -/
def joinDots : List (List Int) → List Int
  | [] => []
  | [a] => a
  | a :: b :: r => a ++ 46 :: joinDots (b :: r)

theorem joinDots_cons (a : List Int) (r : List (List Int)) (h : r ≠ []) : joinDots (a :: r) = a ++ 46 :: joinDots r := by
  match r, h with
  | [], h => exact absurd rfl h
  | b :: r, _ => rfl

theorem join_cut (l : List Int) : joinDots (cutDots l) = l := by
  induction l with
  | nil => rfl
  | cons c l ih =>
    unfold cutDots
    split
    · rename_i h
      rw [joinDots_cons _ _ (cutDots_ne l), ih, h]; rfl
    · match hc : cutDots l, cutDots_ne l with
      | [], h => exact absurd rfl h
      | [a], _ => rw [hc] at ih; simp [joinDots] at ih ⊢; exact ih
      | a :: b :: r, _ => rw [hc] at ih; simp [joinDots] at ih ⊢; exact ih

theorem cut_none (a : List Int) (h : ∀ x ∈ a, x ≠ 46) : cutDots a = [a] := by
  induction a with
  | nil => rfl
  | cons c a ih =>
    unfold cutDots
    rw [if_neg (h c (by simp)), ih (fun x hx => h x (by simp [hx]))]; rfl

theorem cut_dot (a r : List Int) (h : ∀ x ∈ a, x ≠ 46) : cutDots (a ++ 46 :: r) = a :: cutDots r := by
  induction a with
  | nil => simp [cutDots]
  | cons c a ih =>
    rw [List.cons_append, cutDots, if_neg (h c (by simp)), ih (fun x hx => h x (by simp [hx]))]; rfl

theorem digs_no_dot (x : Int) (h0 : 0 ≤ x) (h1 : x ≤ 255) : ∀ c ∈ digs x, c ≠ 46 := by
  intro c hc
  by_cases a : x < 10
  · rw [digs_lt x h0 a] at hc; simp at hc; omega
  · rw [digs_ge x (by omega)] at hc
    by_cases b : x / 10 < 10
    · rw [digs_lt _ (by omega) b] at hc; simp at hc; omega
    · rw [digs_ge (x / 10) (by omega), digs_lt (x / 10 / 10) (by omega) (by omega)] at hc; simp at hc; omega

/-- Four numbers, one behind the other. -/
def irun : List (List Int) → Int → Int × Bool
  | [], n => (n, true)
  | t :: r, n => match readP t with
    | none => (0, false)
    | some p => irun r (n * 256 + p)

/-- What the program's DottedRead answers. -/
def iread (l : List Int) : Int × Bool := if (cutDots l).length = 4 then irun (cutDots l) 0 else (0, false)

theorem idot_four (n : Int) : idot n 4 = digs (part n 0) ++ 46 :: (digs (part n 1) ++ 46 :: (digs (part n 2) ++ 46 :: digs (part n 3))) := by
  simp [idot]

theorem iread_complete (n : Int) (h0 : 0 ≤ n) (h1 : n ≤ 4294967295) : iread (idot n 4) = (n, true) := by
  have b := fun j => part_bd n j h0 h1
  have e : cutDots (idot n 4) = [digs (part n 0), digs (part n 1), digs (part n 2), digs (part n 3)] := by
    rw [idot_four, cut_dot _ _ (digs_no_dot _ (b 0).1 (b 0).2), cut_dot _ _ (digs_no_dot _ (b 1).1 (b 1).2), cut_dot _ _ (digs_no_dot _ (b 2).1 (b 2).2), cut_none _ (digs_no_dot _ (b 3).1 (b 3).2)]
  unfold iread
  rw [e, if_pos (show [digs (part n 0), digs (part n 1), digs (part n 2), digs (part n 3)].length = 4 from rfl)]
  simp only [irun, readP_digs _ (b 0).1 (b 0).2, readP_digs _ (b 1).1 (b 1).2, readP_digs _ (b 2).1 (b 2).2, readP_digs _ (b 3).1 (b 3).2]
  simp [part, parts]
  omega

theorem irun_false (ts : List (List Int)) : ∀ n, (irun ts n).2 = false → irun ts n = (0, false) := by
  induction ts with
  | nil => intro n h; simp [irun] at h
  | cons t r ih =>
    intro n h
    unfold irun at h ⊢
    split
    · rfl
    · rename_i p hp
      rw [hp] at h
      exact ih _ h

theorem iread_false (l : List Int) (h : (iread l).2 = false) : iread l = (0, false) := by
  unfold iread at h ⊢
  split
  · rename_i h4; rw [if_pos h4] at h; exact irun_false _ _ h
  · rfl

theorem iread_sound (l : List Int) (n : Int) (h : iread l = (n, true)) : 0 ≤ n ∧ n ≤ 4294967295 ∧ idot n 4 = l := by
  unfold iread at h
  split at h
  · rename_i h4
    have hj := join_cut l
    match hc : cutDots l, h4 with
    | [a, b, c, d], _ =>
      rw [hc] at h hj
      unfold irun at h
      split at h
      · simp at h
      · rename_i p0 e0
        unfold irun at h
        split at h
        · simp at h
        · rename_i p1 e1
          unfold irun at h
          split at h
          · simp at h
          · rename_i p2 e2
            unfold irun at h
            split at h
            · simp at h
            · rename_i p3 e3
              simp [irun] at h
              obtain ⟨l0, u0, rfl⟩ := readP_sound e0
              obtain ⟨l1, u1, rfl⟩ := readP_sound e1
              obtain ⟨l2, u2, rfl⟩ := readP_sound e2
              obtain ⟨l3, u3, rfl⟩ := readP_sound e3
              refine ⟨by omega, by omega, ?_⟩
              rw [← hj, idot_four]
              simp only [joinDots]
              rw [show part n 0 = p0 from by simp [part, parts]; omega, show part n 1 = p1 from by simp [part, parts]; omega, show part n 2 = p2 from by simp [part, parts]; omega, show part n 3 = p3 from by simp [part, parts]; omega]
  · simp at h

/-- The specification's loop: the number so far, the part, the dots. -/
def srun : List Int → Int → Int → Int → Option (Int × Int × Int)
  | [], n, p, s => some (n, p, s)
  | c :: r, n, p, s => if c = 46 then srun r (n * 256 + p % 256) 0 (s + 1) else if c < 48 ∨ 57 < c ∨ 255 < p then none else srun r n (p * 10 + (c - 48)) s

/-- What the specification's DottedRead answers. -/
def sread (l : List Int) : Int × Bool :=
  match (if l.length < 16 then srun l 0 0 0 else some (0, 0, 0)) with
  | none => (0, false)
  | some (n, p, s) => if s = 3 ∧ idot (n * 256 + p % 256) 4 = l then (n * 256 + p % 256, true) else (0, false)

theorem srun_bd (l : List Int) : ∀ n p s n' p' s', 0 ≤ n → (s = 0 → n = 0) → (s = 1 → n ≤ 255) → (s = 2 → n ≤ 65535) → (s = 3 → n ≤ 16777215) → 0 ≤ s → srun l n p s = some (n', p', s') → 0 ≤ n' ∧ (s' = 3 → n' ≤ 16777215) ∧ 0 ≤ s' := by
  induction l with
  | nil => intro n p s n' p' s' h0 _ _ _ h3 hs h; simp [srun] at h; omega
  | cons c r ih =>
    intro n p s n' p' s' h0 a0 a1 a2 a3 hs h
    unfold srun at h
    split at h
    · exact ih _ _ _ n' p' s' (by omega) (by omega) (by omega) (by omega) (by omega) (by omega) h
    · split at h
      · simp at h
      · exact ih _ _ _ n' p' s' h0 a0 a1 a2 a3 hs h

theorem sread_sound (l : List Int) (n : Int) (h : sread l = (n, true)) : 0 ≤ n ∧ n ≤ 4294967295 ∧ idot n 4 = l := by
  unfold sread at h
  split at h
  · simp at h
  · rename_i n' p' s' e
    split at h
    · rename_i hc
      simp at h
      subst h
      split at e
      · have hb := srun_bd l 0 0 0 n' p' s' (by omega) (by omega) (by omega) (by omega) (by omega) (by omega) e
        exact ⟨by omega, by omega, hc.2⟩
      · simp at e; omega
    · simp at h

theorem sread_false (l : List Int) (h : (sread l).2 = false) : sread l = (0, false) := by
  unfold sread at h ⊢
  split
  · rfl
  · rename_i e
    rw [e] at h
    simp only at h ⊢
    split
    · rename_i hc; rw [if_pos hc] at h; simp at h
    · rfl

theorem srun_digit (x n p s : Int) (r : List Int) (h0 : 0 ≤ x) (h1 : x ≤ 9) (hp : p ≤ 255) : srun ((48 + x) :: r) n p s = srun r n (p * 10 + x) s := by
  have e : p * 10 + (48 + x - 48) = p * 10 + x := by omega
  rw [srun, if_neg (by omega), if_neg (by omega), e]

theorem srun_digs (x n s : Int) (r : List Int) (h0 : 0 ≤ x) (h1 : x ≤ 255) : srun (digs x ++ r) n 0 s = srun r n x s := by
  by_cases a : x < 10
  · rw [digs_lt x h0 a, List.singleton_append, srun_digit x n 0 s r h0 (by omega) (by omega)]
    congr 1; omega
  · rw [digs_ge x (by omega), List.append_assoc]
    by_cases b : x / 10 < 10
    · rw [digs_lt _ (by omega) b, List.singleton_append, srun_digit (x / 10) n 0 s _ (by omega) (by omega) (by omega), List.singleton_append, srun_digit _ _ _ _ _ (by omega) (by omega) (by omega)]
      congr 1; omega
    · rw [digs_ge (x / 10) (by omega), digs_lt (x / 10 / 10) (by omega) (by omega), List.append_assoc, List.singleton_append, srun_digit _ n 0 _ _ (by omega) (by omega) (by omega), List.singleton_append, srun_digit _ _ _ _ _ (by omega) (by omega) (by omega), List.singleton_append, srun_digit _ _ _ _ _ (by omega) (by omega) (by omega)]
      congr 1; omega

theorem srun_dot (n p s : Int) (r : List Int) : srun (46 :: r) n p s = srun r (n * 256 + p % 256) 0 (s + 1) := by rw [srun, if_pos rfl]

theorem sread_complete (n : Int) (h0 : 0 ≤ n) (h1 : n ≤ 4294967295) : sread (idot n 4) = (n, true) := by
  have b := fun j => part_bd n j h0 h1
  have d := fun j => digs_length (part n j) (b j).1 (b j).2
  have hlen : (idot n 4).length < 16 := by
    rw [idot_four]
    have := d 0; have := d 1; have := d 2; have := d 3
    simp; omega
  have e : srun (idot n 4) 0 0 0 = some (((0 * 256 + part n 0 % 256) * 256 + part n 1 % 256) * 256 + part n 2 % 256, part n 3, 0 + 1 + 1 + 1) := by
    rw [idot_four, srun_digs _ _ _ _ (b 0).1 (b 0).2, srun_dot, srun_digs _ _ _ _ (b 1).1 (b 1).2, srun_dot, srun_digs _ _ _ _ (b 2).1 (b 2).2, srun_dot]
    have := srun_digs (part n 3) (((0 * 256 + part n 0 % 256) * 256 + part n 1 % 256) * 256 + part n 2 % 256) (0 + 1 + 1 + 1) [] (b 3).1 (b 3).2
    rw [List.append_nil] at this
    rw [this]; rfl
  have hn : (((0 * 256 + part n 0 % 256) * 256 + part n 1 % 256) * 256 + part n 2 % 256) * 256 + part n 3 % 256 = n := by
    have := b 0
    simp [part, parts] at this ⊢
    omega
  unfold sread
  rw [if_pos hlen, e]
  simp only
  rw [hn, if_pos ⟨by omega, rfl⟩]

/-- Both read the same. -/
theorem iread_sread (l : List Int) : iread l = sread l := by
  cases hi : (iread l).2 with
  | true =>
    obtain ⟨h0, h1, h2⟩ := iread_sound l (iread l).1 (by rw [← hi])
    rw [← h2, iread_complete _ h0 h1, sread_complete _ h0 h1]
  | false =>
    rw [iread_false l hi]
    cases hs : (sread l).2 with
    | true =>
      obtain ⟨h0, h1, h2⟩ := sread_sound l (sread l).1 (by rw [← hs])
      have := iread_complete _ h0 h1
      rw [h2] at this
      rw [this] at hi
      simp at hi
    | false => rw [sread_false l hs]

/-! ### The library's cut at dots is this one -/

theorem byte_46 (c : Int) (h0 : 0 ≤ c) (h1 : c ≤ 255) : (UInt8.ofNat c.toNat = 46) ↔ c = 46 := by
  constructor
  · intro h
    have := congrArg UInt8.toNat h
    rw [UInt8.toNat_ofNat'] at this
    simp at this
    omega
  · rintro rfl; rfl

theorem index_none (l : List UInt8) (h : ∀ x ∈ l, x ≠ 46) : Lib.index l [46] = -1 := by
  induction l with
  | nil => rfl
  | cons b l ih =>
    have hb := h b (by simp)
    have := ih (fun x hx => h x (by simp [hx]))
    unfold Lib.index
    rw [this]
    simp [List.isPrefixOf, Ne.symm hb]

theorem index_dot (a r : List UInt8) (h : ∀ x ∈ a, x ≠ 46) : Lib.index (a ++ 46 :: r) [46] = (a.length : Int) := by
  induction a with
  | nil => simp [Lib.index, List.isPrefixOf]
  | cons b a ih =>
    have hb := h b (by simp)
    have := ih (fun x hx => h x (by simp [hx]))
    rw [List.cons_append]
    unfold Lib.index
    rw [this]
    simp [List.isPrefixOf, Ne.symm hb]

theorem nums_append (a b : List Int) : (strOfNums (a ++ b)).data.toList = (strOfNums a).data.toList ++ (strOfNums b).data.toList := by
  simp [strOfNums]

def dotSep : ByteArray := ⟨#[46]⟩

theorem ba_ext {a b : ByteArray} (h : a.data.toList = b.data.toList) : a = b := by
  cases a; cases b; simp at h; simp [h]

/-- A list either has no dot, or opens with a part that has none and a dot. -/
theorem dot_or (l : List Int) : (∀ x ∈ l, x ≠ 46) ∨ ∃ a r, l = a ++ 46 :: r ∧ ∀ x ∈ a, x ≠ 46 := by
  induction l with
  | nil => left; simp
  | cons c l ih =>
    by_cases hc : c = 46
    · right; exact ⟨[], l, by simp [hc], by simp⟩
    · rcases ih with h | ⟨a, r, rfl, h⟩
      · left; intro x hx; simp at hx; rcases hx with rfl | hx
        · exact hc
        · exact h x hx
      · right; refine ⟨c :: a, r, rfl, ?_⟩
        intro x hx; simp at hx; rcases hx with rfl | hx
        · exact hc
        · exact h x hx

theorem no_dot_bytes (a : List Int) (hb : ∀ x ∈ a, 0 ≤ x ∧ x ≤ 255) (h : ∀ x ∈ a, x ≠ 46) : ∀ x ∈ (strOfNums a).data.toList, x ≠ 46 := by
  intro x hx
  rw [strOfNums_data] at hx
  obtain ⟨c, hc, rfl⟩ := List.mem_map.1 hx
  intro e
  exact h c hc ((byte_46 c (hb c hc).1 (hb c hc).2).1 e)

theorem split_cut : ∀ (k : Nat) (l : List Int), l.length ≤ k → (∀ x ∈ l, 0 ≤ x ∧ x ≤ 255) →
    Lib.countB (strOfNums l) dotSep + 1 = (cutDots l).length ∧ Lib.splitB dotSep 0 (Lib.countB (strOfNums l) dotSep) (strOfNums l) = (cutDots l).map strOfNums := by
  intro k
  induction k with
  | zero =>
    intro l hl _
    obtain rfl : l = [] := List.eq_nil_of_length_eq_zero (by omega)
    have hi : Lib.indexB (strOfNums []) dotSep = -1 := rfl
    rw [Lib.countB_miss _ _ hi]
    exact ⟨rfl, rfl⟩
  | succ k ih =>
    intro l hl hb
    rcases dot_or l with h | ⟨a, r, rfl, h⟩
    · have hi : Lib.indexB (strOfNums l) dotSep = -1 := index_none _ (no_dot_bytes l hb h)
      rw [Lib.countB_miss _ _ hi, cut_none l h]
      exact ⟨rfl, rfl⟩
    · have ha : ∀ x ∈ a, 0 ≤ x ∧ x ≤ 255 := fun x hx => hb x (by simp [hx])
      have hr : ∀ x ∈ r, 0 ≤ x ∧ x ≤ 255 := fun x hx => hb x (by simp [hx])
      have hd : (strOfNums (a ++ 46 :: r)).data.toList = (strOfNums a).data.toList ++ 46 :: (strOfNums r).data.toList := by simp [strOfNums]
      have hla : (strOfNums a).data.toList.length = a.length := by simp [strOfNums]
      have hi : Lib.indexB (strOfNums (a ++ 46 :: r)) dotSep = (a.length : Int) := by
        show Lib.index _ _ = _
        rw [hd, ← hla]
        exact index_dot _ _ (no_dot_bytes a ha h)
      have he : (strOfNums (a ++ 46 :: r)).extract (a.length + dotSep.size) (strOfNums (a ++ 46 :: r)).size = strOfNums r := by
        apply ba_ext
        rw [Lib.extract_to_end, hd]
        rw [show a.length + dotSep.size = (strOfNums a).data.toList.length + 1 from by rw [hla]; rfl]
        simp [List.drop_append]
      have hs : (strOfNums (a ++ 46 :: r)).extract 0 (a.length + 0) = strOfNums a := by
        apply ba_ext
        rw [Lib.extract_from_zero, hd, Nat.add_zero, ← hla, List.take_left]
      obtain ⟨i1, i2⟩ := ih r (by simp at hl; omega) hr
      rw [Lib.countB_hit _ _ a.length (by decide) hi, he, cut_dot a r h]
      refine ⟨by simp; omega, ?_⟩
      rw [Nat.add_comm, Lib.splitB_hit _ _ _ _ _ hi, he, hs, i2]
      rfl

theorem mem_bd {l : List Int} (hb : ∀ k, 0 ≤ l.getD k 0 ∧ l.getD k 0 ≤ 255) : ∀ x ∈ l, 0 ≤ x ∧ x ≤ 255 := by
  intro x hx
  obtain ⟨i, hi, rfl⟩ := List.getElem_of_mem hx
  have := hb i
  simpa [hi] using this

theorem digs_bytes (x : Int) : ∀ c ∈ digs x, 0 ≤ c ∧ c ≤ 255 := by
  intro c hc
  obtain ⟨b, _, rfl⟩ := List.mem_map.1 hc
  have := b.toNat_lt
  omega

theorem idot_bytes (n : Int) : ∀ c ∈ idot n 4, 0 ≤ c ∧ c ≤ 255 := by
  intro c hc
  rw [idot_four] at hc
  simp only [List.mem_append, List.mem_cons] at hc
  rcases hc with h | rfl | h | rfl | h | rfl | h
  all_goals first | exact digs_bytes _ _ h | omega

theorem str_eq (a b : List Int) (ha : ∀ c ∈ a, 0 ≤ c ∧ c ≤ 255) (hb : ∀ c ∈ b, 0 ≤ c ∧ c ≤ 255) : ((strOfNums a).toList == (strOfNums b).toList) = decide (a = b) := by
  rw [ByteArray.toList_eq, ByteArray.toList_eq, strOfNums_data, strOfNums_data]
  by_cases e : a = b
  · subst e; simp
  · rw [decide_eq_false e]
    apply beq_eq_false_iff_ne.2
    intro h
    apply e
    clear e
    induction a generalizing b with
    | nil => cases b with
      | nil => rfl
      | cons d b => simp at h
    | cons c a ih => cases b with
      | nil => simp at h
      | cons d b =>
        simp only [List.map_cons, List.cons.injEq] at h
        have h1 := ha c (by simp)
        have h2 := hb d (by simp)
        have h3 := congrArg UInt8.toNat h.1
        rw [UInt8.toNat_ofNat', UInt8.toNat_ofNat'] at h3
        have h4 : c = d := by omega
        rw [h4, ih b (fun x hx => ha x (by simp [hx])) (fun x hx => hb x (by simp [hx])) h.2]
end Go.Proofs.YtkmjghecjlgjpaaDoor
