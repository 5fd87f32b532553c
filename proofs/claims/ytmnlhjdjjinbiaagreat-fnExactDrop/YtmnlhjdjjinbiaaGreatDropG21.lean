/-
  Plain facts: an address read from its text, as the program does it and as the specification does it, and that both read the same. No program is named here. Plain facts: names that are the same, names that end with others, and their order. No program is named here. Plain facts: a page of a zone's book, in the order of its keys, is what the zone says of that name, in the zone's order. No program is named here. Plain facts: a page's records by ascending keys. No program is named here.
-/
import Derived.Test.YtmnlhjdjjinbiaaGreatDropG20
import Derived.Lib.Split
import Derived.Lib.SplitLaws
import Derived.Test.YtmnlhjdjjinbiaaGreatDropG18
import Derived.Test.YtmnlhjdjjinbiaaGreatDropG19
import Derived.Test.YtmnlhjdjjinbiaaGreatDropG10
import Derived.Test.YtmnlhjdjjinbiaaGreatDropG16
import Derived.Sort.KeysCollected
import Derived.Test.YtmnlhjdjjinbiaaGreatDropG09
namespace Go.Proofs.YtmnlhjdjjinbiaaGreat
open Go.RowKit

/-- The digits of a number, one by one. -/
def rrun : List Int → Int → Option Int
  | [], n => some n
  | c :: r, n => if c < 48 ∨ 57 < c then none else if 255 < 10 * n + (c - 48) then none else rrun r (10 * n + (c - 48))

/-- One number of an address. -/
def readP (t : List Int) : Option Int := if t = [] ∨ (t.getD 0 0 = 48 ∧ t ≠ [48]) then none else rrun t 0

theorem rrun_bd (t : List Int) : ∀ n p, 0 ≤ n → n ≤ 255 → rrun t n = some p → 0 ≤ p ∧ p ≤ 255 := by
  induction t with
  | nil => intro n p h0 h1 h; simp [rrun] at h; omega
  | cons c r ih =>
    intro n p h0 h1 h
    unfold rrun at h
    split at h
    · simp at h
    · split at h
      · simp at h
      · exact ih _ p (by omega) (by omega) h

theorem rrun_sound (t : List Int) : ∀ n p, 1 ≤ n → rrun t n = some p → digs p = digs n ++ t := by
  induction t with
  | nil => intro n p _ h; simp [rrun] at h; subst h; simp
  | cons c r ih =>
    intro n p h0 h
    unfold rrun at h
    split at h
    · simp at h
    · split at h
      · simp at h
      · rename_i h1 h2
        have := ih _ p (by omega) h
        rw [this, digs_ge (10 * n + (c - 48)) (by omega), show (10 * n + (c - 48)) / 10 = n from by omega, show (48 : Int) + (10 * n + (c - 48)) % 10 = c from by omega]
        simp

theorem readP_sound {t : List Int} {p : Int} (h : readP t = some p) : 0 ≤ p ∧ p ≤ 255 ∧ t = digs p := by
  unfold readP at h
  split at h
  · simp at h
  · rename_i hn
    have hb := rrun_bd t 0 p (by omega) (by omega) h
    refine ⟨hb.1, hb.2, ?_⟩
    match t, hn, h with
    | [], hn, _ => simp at hn
    | c :: r, hn, h =>
      simp at hn
      unfold rrun at h
      split at h
      · simp at h
      · split at h
        · simp at h
        · rename_i h1 h2
          by_cases hc : c = 48
          · obtain ⟨_, rfl⟩ := hn hc
            subst hc
            simp [rrun] at h
            subst h
            rw [digs_lt 0 (by omega) (by omega)]; simp
          · have := rrun_sound r _ p (by omega) h
            rw [this, digs_lt _ (by omega) (by omega), show (48 : Int) + (10 * 0 + (c - 48)) = c from by omega]
            simp

theorem rrun_one (x n : Int) (r : List Int) (h0 : 0 ≤ x) (h1 : x ≤ 9) (h2 : 10 * n + x ≤ 255) : rrun ((48 + x) :: r) n = rrun r (10 * n + x) := by
  have e : 10 * n + (48 + x - 48) = 10 * n + x := by omega
  rw [rrun, if_neg (by omega), e, if_neg (by omega)]

theorem rrun_digs (x : Int) (r : List Int) (h0 : 0 ≤ x) (h1 : x ≤ 255) : rrun (digs x ++ r) 0 = rrun r x := by
  by_cases a : x < 10
  · rw [digs_lt x h0 a, List.singleton_append, rrun_one x 0 r h0 (by omega) (by omega)]
    congr 1; omega
  · rw [digs_ge x (by omega), List.append_assoc]
    by_cases b : x / 10 < 10
    · rw [digs_lt _ (by omega) b, List.singleton_append, rrun_one (x / 10) 0 _ (by omega) (by omega) (by omega), List.singleton_append, rrun_one _ _ _ (by omega) (by omega) (by omega)]
      congr 1; omega
    · rw [digs_ge (x / 10) (by omega), digs_lt (x / 10 / 10) (by omega) (by omega), List.append_assoc, List.singleton_append, rrun_one _ 0 _ (by omega) (by omega) (by omega), List.singleton_append, rrun_one _ _ _ (by omega) (by omega) (by omega), List.singleton_append, rrun_one _ _ _ (by omega) (by omega) (by omega)]
      congr 1; omega

theorem digs_head (x : Int) (h0 : 0 ≤ x) (h1 : x ≤ 255) : digs x ≠ [] ∧ ((digs x).getD 0 0 = 48 → digs x = [48]) := by
  by_cases a : x < 10
  · rw [digs_lt x h0 a]; simp
  · rw [digs_ge x (by omega)]
    by_cases b : x / 10 < 10
    · rw [digs_lt _ (by omega) b]; simp; omega
    · rw [digs_ge (x / 10) (by omega), digs_lt (x / 10 / 10) (by omega) (by omega)]; simp; omega

theorem readP_digs (x : Int) (h0 : 0 ≤ x) (h1 : x ≤ 255) : readP (digs x) = some x := by
  have hh := digs_head x h0 h1
  unfold readP
  rw [if_neg]
  · have := rrun_digs x [] h0 h1
    rw [List.append_nil] at this
    rw [this]; rfl
  · rintro (h | ⟨h, h'⟩)
    · exact hh.1 h
    · exact h' (hh.2 h)

/-- A text cut at its dots. -/
def cutDots : List Int → List (List Int)
  | [] => [[]]
  | c :: l => if c = 46 then [] :: cutDots l else ((c :: (cutDots l).headD []) :: (cutDots l).tail)

theorem cutDots_ne (l : List Int) : cutDots l ≠ [] := by
  cases l with
  | nil => simp [cutDots]
  | cons c l => unfold cutDots; split <;> simp

/-- Texts with dots between. -/
def joinDots : List (List Int) → List Int
  | [] => []
  | [a] => a
  | a :: b :: r => a ++ 46 :: joinDots (b :: r)

theorem joinDots_cons (a : List Int) (r : List (List Int)) (h : r ≠ []) : joinDots (a :: r) = a ++ 46 :: joinDots r := by
  match r, h with
  | [], h => exact absurd rfl h
  | b :: r, _ => rfl

theorem join_cut (l : List Int) : joinDots (cutDots l) = l := by
  induction l with
  | nil => rfl
  | cons c l ih =>
    unfold cutDots
    split
    · rename_i h
      rw [joinDots_cons _ _ (cutDots_ne l), ih, h]; rfl
    · match hc : cutDots l, cutDots_ne l with
      | [], h => exact absurd rfl h
      | [a], _ => rw [hc] at ih; simp [joinDots] at ih ⊢; exact ih
      | a :: b :: r, _ => rw [hc] at ih; simp [joinDots] at ih ⊢; exact ih

theorem cut_none (a : List Int) (h : ∀ x ∈ a, x ≠ 46) : cutDots a = [a] := by
  induction a with
  | nil => rfl
  | cons c a ih =>
    unfold cutDots
    rw [if_neg (h c (by simp)), ih (fun x hx => h x (by simp [hx]))]; rfl

theorem cut_dot (a r : List Int) (h : ∀ x ∈ a, x ≠ 46) : cutDots (a ++ 46 :: r) = a :: cutDots r := by
  induction a with
  | nil => simp [cutDots]
  | cons c a ih =>
    rw [List.cons_append, cutDots, if_neg (h c (by simp)), ih (fun x hx => h x (by simp [hx]))]; rfl

theorem digs_no_dot (x : Int) (h0 : 0 ≤ x) (h1 : x ≤ 255) : ∀ c ∈ digs x, c ≠ 46 := by
  intro c hc
  by_cases a : x < 10
  · rw [digs_lt x h0 a] at hc; simp at hc; omega
  · rw [digs_ge x (by omega)] at hc
    by_cases b : x / 10 < 10
    · rw [digs_lt _ (by omega) b] at hc; simp at hc; omega
    · rw [digs_ge (x / 10) (by omega), digs_lt (x / 10 / 10) (by omega) (by omega)] at hc; simp at hc; omega

/-- Four numbers, one behind the other. -/
def irun : List (List Int) → Int → Int × Bool
  | [], n => (n, true)
  | t :: r, n => match readP t with
    | none => (0, false)
    | some p => irun r (n * 256 + p)

/-- What the program's DottedRead answers. -/
def iread (l : List Int) : Int × Bool := if (cutDots l).length = 4 then irun (cutDots l) 0 else (0, false)

theorem idot_four (n : Int) : idot n 4 = digs (part n 0) ++ 46 :: (digs (part n 1) ++ 46 :: (digs (part n 2) ++ 46 :: digs (part n 3))) := by
  simp [idot]

theorem iread_complete (n : Int) (h0 : 0 ≤ n) (h1 : n ≤ 4294967295) : iread (idot n 4) = (n, true) := by
  have b := fun j => part_bd n j h0 h1
  have e : cutDots (idot n 4) = [digs (part n 0), digs (part n 1), digs (part n 2), digs (part n 3)] := by
    rw [idot_four, cut_dot _ _ (digs_no_dot _ (b 0).1 (b 0).2), cut_dot _ _ (digs_no_dot _ (b 1).1 (b 1).2), cut_dot _ _ (digs_no_dot _ (b 2).1 (b 2).2), cut_none _ (digs_no_dot _ (b 3).1 (b 3).2)]
  unfold iread
  rw [e, if_pos (show [digs (part n 0), digs (part n 1), digs (part n 2), digs (part n 3)].length = 4 from rfl)]
  simp only [irun, readP_digs _ (b 0).1 (b 0).2, readP_digs _ (b 1).1 (b 1).2, readP_digs _ (b 2).1 (b 2).2, readP_digs _ (b 3).1 (b 3).2]
  simp [part, parts]
  omega

theorem irun_false (ts : List (List Int)) : ∀ n, (irun ts n).2 = false → irun ts n = (0, false) := by
  induction ts with
  | nil => intro n h; simp [irun] at h
  | cons t r ih =>
    intro n h
    unfold irun at h ⊢
    split
    · rfl
    · rename_i p hp
      rw [hp] at h
      exact ih _ h

theorem iread_false (l : List Int) (h : (iread l).2 = false) : iread l = (0, false) := by
  unfold iread at h ⊢
  split
  · rename_i h4; rw [if_pos h4] at h; exact irun_false _ _ h
  · rfl

theorem iread_sound (l : List Int) (n : Int) (h : iread l = (n, true)) : 0 ≤ n ∧ n ≤ 4294967295 ∧ idot n 4 = l := by
  unfold iread at h
  split at h
  · rename_i h4
    have hj := join_cut l
    match hc : cutDots l, h4 with
    | [a, b, c, d], _ =>
      rw [hc] at h hj
      unfold irun at h
      split at h
      · simp at h
      · rename_i p0 e0
        unfold irun at h
        split at h
        · simp at h
        · rename_i p1 e1
          unfold irun at h
          split at h
          · simp at h
          · rename_i p2 e2
            unfold irun at h
            split at h
            · simp at h
            · rename_i p3 e3
              simp [irun] at h
              obtain ⟨l0, u0, rfl⟩ := readP_sound e0
              obtain ⟨l1, u1, rfl⟩ := readP_sound e1
              obtain ⟨l2, u2, rfl⟩ := readP_sound e2
              obtain ⟨l3, u3, rfl⟩ := readP_sound e3
              refine ⟨by omega, by omega, ?_⟩
              rw [← hj, idot_four]
              simp only [joinDots]
              rw [show part n 0 = p0 from by simp [part, parts]; omega, show part n 1 = p1 from by simp [part, parts]; omega, show part n 2 = p2 from by simp [part, parts]; omega, show part n 3 = p3 from by simp [part, parts]; omega]
  · simp at h

/-- The specification's loop: the number so far, the part, the dots. -/
def srun : List Int → Int → Int → Int → Option (Int × Int × Int)
  | [], n, p, s => some (n, p, s)
  | c :: r, n, p, s => if c = 46 then srun r (n * 256 + p % 256) 0 (s + 1) else if c < 48 ∨ 57 < c ∨ 255 < p then none else srun r n (p * 10 + (c - 48)) s

/-- What the specification's DottedRead answers. -/
def sread (l : List Int) : Int × Bool :=
  match (if l.length < 16 then srun l 0 0 0 else some (0, 0, 0)) with
  | none => (0, false)
  | some (n, p, s) => if s = 3 ∧ idot (n * 256 + p % 256) 4 = l then (n * 256 + p % 256, true) else (0, false)

theorem srun_bd (l : List Int) : ∀ n p s n' p' s', 0 ≤ n → (s = 0 → n = 0) → (s = 1 → n ≤ 255) → (s = 2 → n ≤ 65535) → (s = 3 → n ≤ 16777215) → 0 ≤ s → srun l n p s = some (n', p', s') → 0 ≤ n' ∧ (s' = 3 → n' ≤ 16777215) ∧ 0 ≤ s' := by
  induction l with
  | nil => intro n p s n' p' s' h0 _ _ _ h3 hs h; simp [srun] at h; omega
  | cons c r ih =>
    intro n p s n' p' s' h0 a0 a1 a2 a3 hs h
    unfold srun at h
    split at h
    · exact ih _ _ _ n' p' s' (by omega) (by omega) (by omega) (by omega) (by omega) (by omega) h
    · split at h
      · simp at h
      · exact ih _ _ _ n' p' s' h0 a0 a1 a2 a3 hs h

theorem sread_sound (l : List Int) (n : Int) (h : sread l = (n, true)) : 0 ≤ n ∧ n ≤ 4294967295 ∧ idot n 4 = l := by
  unfold sread at h
  split at h
  · simp at h
  · rename_i n' p' s' e
    split at h
    · rename_i hc
      simp at h
      subst h
      split at e
      · have hb := srun_bd l 0 0 0 n' p' s' (by omega) (by omega) (by omega) (by omega) (by omega) (by omega) e
        exact ⟨by omega, by omega, hc.2⟩
      · simp at e; omega
    · simp at h

theorem sread_false (l : List Int) (h : (sread l).2 = false) : sread l = (0, false) := by
  unfold sread at h ⊢
  split
  · rfl
  · rename_i e
    rw [e] at h
    simp only at h ⊢
    split
    · rename_i hc; rw [if_pos hc] at h; simp at h
    · rfl

theorem srun_digit (x n p s : Int) (r : List Int) (h0 : 0 ≤ x) (h1 : x ≤ 9) (hp : p ≤ 255) : srun ((48 + x) :: r) n p s = srun r n (p * 10 + x) s := by
  have e : p * 10 + (48 + x - 48) = p * 10 + x := by omega
  rw [srun, if_neg (by omega), if_neg (by omega), e]

theorem srun_digs (x n s : Int) (r : List Int) (h0 : 0 ≤ x) (h1 : x ≤ 255) : srun (digs x ++ r) n 0 s = srun r n x s := by
  by_cases a : x < 10
  · rw [digs_lt x h0 a, List.singleton_append, srun_digit x n 0 s r h0 (by omega) (by omega)]
    congr 1; omega
  · rw [digs_ge x (by omega), List.append_assoc]
    by_cases b : x / 10 < 10
    · rw [digs_lt _ (by omega) b, List.singleton_append, srun_digit (x / 10) n 0 s _ (by omega) (by omega) (by omega), List.singleton_append, srun_digit _ _ _ _ _ (by omega) (by omega) (by omega)]
      congr 1; omega
    · rw [digs_ge (x / 10) (by omega), digs_lt (x / 10 / 10) (by omega) (by omega), List.append_assoc, List.singleton_append, srun_digit _ n 0 _ _ (by omega) (by omega) (by omega), List.singleton_append, srun_digit _ _ _ _ _ (by omega) (by omega) (by omega), List.singleton_append, srun_digit _ _ _ _ _ (by omega) (by omega) (by omega)]
      congr 1; omega

theorem srun_dot (n p s : Int) (r : List Int) : srun (46 :: r) n p s = srun r (n * 256 + p % 256) 0 (s + 1) := by rw [srun, if_pos rfl]

theorem sread_complete (n : Int) (h0 : 0 ≤ n) (h1 : n ≤ 4294967295) : sread (idot n 4) = (n, true) := by
  have b := fun j => part_bd n j h0 h1
  have d := fun j => digs_length (part n j) (b j).1 (b j).2
  have hlen : (idot n 4).length < 16 := by
    rw [idot_four]
    have := d 0; have := d 1; have := d 2; have := d 3
    simp; omega
  have e : srun (idot n 4) 0 0 0 = some (((0 * 256 + part n 0 % 256) * 256 + part n 1 % 256) * 256 + part n 2 % 256, part n 3, 0 + 1 + 1 + 1) := by
    rw [idot_four, srun_digs _ _ _ _ (b 0).1 (b 0).2, srun_dot, srun_digs _ _ _ _ (b 1).1 (b 1).2, srun_dot, srun_digs _ _ _ _ (b 2).1 (b 2).2, srun_dot]
    have := srun_digs (part n 3) (((0 * 256 + part n 0 % 256) * 256 + part n 1 % 256) * 256 + part n 2 % 256) (0 + 1 + 1 + 1) [] (b 3).1 (b 3).2
    rw [List.append_nil] at this
    rw [this]; rfl
  have hn : (((0 * 256 + part n 0 % 256) * 256 + part n 1 % 256) * 256 + part n 2 % 256) * 256 + part n 3 % 256 = n := by
    have := b 0
    simp [part, parts] at this ⊢
    omega
  unfold sread
  rw [if_pos hlen, e]
  simp only
  rw [hn, if_pos ⟨by omega, rfl⟩]

/-- Both read the same. -/
theorem iread_sread (l : List Int) : iread l = sread l := by
  cases hi : (iread l).2 with
  | true =>
    obtain ⟨h0, h1, h2⟩ := iread_sound l (iread l).1 (by rw [← hi])
    rw [← h2, iread_complete _ h0 h1, sread_complete _ h0 h1]
  | false =>
    rw [iread_false l hi]
    cases hs : (sread l).2 with
    | true =>
      obtain ⟨h0, h1, h2⟩ := sread_sound l (sread l).1 (by rw [← hs])
      have := iread_complete _ h0 h1
      rw [h2] at this
      rw [this] at hi
      simp at hi
    | false => rw [sread_false l hs]

/-! ### The library's cut at dots is this one -/

theorem byte_46 (c : Int) (h0 : 0 ≤ c) (h1 : c ≤ 255) : (UInt8.ofNat c.toNat = 46) ↔ c = 46 := by
  constructor
  · intro h
    have := congrArg UInt8.toNat h
    rw [UInt8.toNat_ofNat'] at this
    simp at this
    omega
  · rintro rfl; rfl

theorem index_none (l : List UInt8) (h : ∀ x ∈ l, x ≠ 46) : Lib.index l [46] = -1 := by
  induction l with
  | nil => rfl
  | cons b l ih =>
    have hb := h b (by simp)
    have := ih (fun x hx => h x (by simp [hx]))
    unfold Lib.index
    rw [this]
    simp [List.isPrefixOf, Ne.symm hb]

theorem index_dot (a r : List UInt8) (h : ∀ x ∈ a, x ≠ 46) : Lib.index (a ++ 46 :: r) [46] = (a.length : Int) := by
  induction a with
  | nil => simp [Lib.index, List.isPrefixOf]
  | cons b a ih =>
    have hb := h b (by simp)
    have := ih (fun x hx => h x (by simp [hx]))
    rw [List.cons_append]
    unfold Lib.index
    rw [this]
    simp [List.isPrefixOf, Ne.symm hb]

theorem nums_append (a b : List Int) : (strOfNums (a ++ b)).data.toList = (strOfNums a).data.toList ++ (strOfNums b).data.toList := by
  simp [strOfNums]

def dotSep : ByteArray := ⟨#[46]⟩

theorem ba_ext {a b : ByteArray} (h : a.data.toList = b.data.toList) : a = b := by
  cases a; cases b; simp at h; simp [h]

/-- A list either has no dot, or opens with a part that has none and a dot. -/
theorem dot_or (l : List Int) : (∀ x ∈ l, x ≠ 46) ∨ ∃ a r, l = a ++ 46 :: r ∧ ∀ x ∈ a, x ≠ 46 := by
  induction l with
  | nil => left; simp
  | cons c l ih =>
    by_cases hc : c = 46
    · right; exact ⟨[], l, by simp [hc], by simp⟩
    · rcases ih with h | ⟨a, r, rfl, h⟩
      · left; intro x hx; simp at hx; rcases hx with rfl | hx
        · exact hc
        · exact h x hx
      · right; refine ⟨c :: a, r, rfl, ?_⟩
        intro x hx; simp at hx; rcases hx with rfl | hx
        · exact hc
        · exact h x hx

theorem no_dot_bytes (a : List Int) (hb : ∀ x ∈ a, 0 ≤ x ∧ x ≤ 255) (h : ∀ x ∈ a, x ≠ 46) : ∀ x ∈ (strOfNums a).data.toList, x ≠ 46 := by
  intro x hx
  rw [strOfNums_data] at hx
  obtain ⟨c, hc, rfl⟩ := List.mem_map.1 hx
  intro e
  exact h c hc ((byte_46 c (hb c hc).1 (hb c hc).2).1 e)

theorem split_cut : ∀ (k : Nat) (l : List Int), l.length ≤ k → (∀ x ∈ l, 0 ≤ x ∧ x ≤ 255) →
    Lib.countB (strOfNums l) dotSep + 1 = (cutDots l).length ∧ Lib.splitB dotSep 0 (Lib.countB (strOfNums l) dotSep) (strOfNums l) = (cutDots l).map strOfNums := by
  intro k
  induction k with
  | zero =>
    intro l hl _
    obtain rfl : l = [] := List.eq_nil_of_length_eq_zero (by omega)
    have hi : Lib.indexB (strOfNums []) dotSep = -1 := rfl
    rw [Lib.countB_miss _ _ hi]
    exact ⟨rfl, rfl⟩
  | succ k ih =>
    intro l hl hb
    rcases dot_or l with h | ⟨a, r, rfl, h⟩
    · have hi : Lib.indexB (strOfNums l) dotSep = -1 := index_none _ (no_dot_bytes l hb h)
      rw [Lib.countB_miss _ _ hi, cut_none l h]
      exact ⟨rfl, rfl⟩
    · have ha : ∀ x ∈ a, 0 ≤ x ∧ x ≤ 255 := fun x hx => hb x (by simp [hx])
      have hr : ∀ x ∈ r, 0 ≤ x ∧ x ≤ 255 := fun x hx => hb x (by simp [hx])
      have hd : (strOfNums (a ++ 46 :: r)).data.toList = (strOfNums a).data.toList ++ 46 :: (strOfNums r).data.toList := by simp [strOfNums]
      have hla : (strOfNums a).data.toList.length = a.length := by simp [strOfNums]
      have hi : Lib.indexB (strOfNums (a ++ 46 :: r)) dotSep = (a.length : Int) := by
        show Lib.index _ _ = _
        rw [hd, ← hla]
        exact index_dot _ _ (no_dot_bytes a ha h)
      have he : (strOfNums (a ++ 46 :: r)).extract (a.length + dotSep.size) (strOfNums (a ++ 46 :: r)).size = strOfNums r := by
        apply ba_ext
        rw [Lib.extract_to_end, hd]
        rw [show a.length + dotSep.size = (strOfNums a).data.toList.length + 1 from by rw [hla]; rfl]
        simp [List.drop_append]
      have hs : (strOfNums (a ++ 46 :: r)).extract 0 (a.length + 0) = strOfNums a := by
        apply ba_ext
        rw [Lib.extract_from_zero, hd, Nat.add_zero, ← hla, List.take_left]
      obtain ⟨i1, i2⟩ := ih r (by simp at hl; omega) hr
      rw [Lib.countB_hit _ _ a.length (by decide) hi, he, cut_dot a r h]
      refine ⟨by simp; omega, ?_⟩
      rw [Nat.add_comm, Lib.splitB_hit _ _ _ _ _ hi, he, hs, i2]
      rfl

theorem mem_bd {l : List Int} (hb : ∀ k, 0 ≤ l.getD k 0 ∧ l.getD k 0 ≤ 255) : ∀ x ∈ l, 0 ≤ x ∧ x ≤ 255 := by
  intro x hx
  obtain ⟨i, hi, rfl⟩ := List.getElem_of_mem hx
  have := hb i
  simpa [hi] using this

theorem digs_bytes (x : Int) : ∀ c ∈ digs x, 0 ≤ c ∧ c ≤ 255 := by
  intro c hc
  obtain ⟨b, _, rfl⟩ := List.mem_map.1 hc
  have := b.toNat_lt
  omega

theorem idot_bytes (n : Int) : ∀ c ∈ idot n 4, 0 ≤ c ∧ c ≤ 255 := by
  intro c hc
  rw [idot_four] at hc
  simp only [List.mem_append, List.mem_cons] at hc
  rcases hc with h | rfl | h | rfl | h | rfl | h
  all_goals first | exact digs_bytes _ _ h | omega

theorem str_eq (a b : List Int) (ha : ∀ c ∈ a, 0 ≤ c ∧ c ≤ 255) (hb : ∀ c ∈ b, 0 ≤ c ∧ c ≤ 255) : ((strOfNums a).toList == (strOfNums b).toList) = decide (a = b) := by
  rw [ByteArray.toList_eq, ByteArray.toList_eq, strOfNums_data, strOfNums_data]
  by_cases e : a = b
  · subst e; simp
  · rw [decide_eq_false e]
    apply beq_eq_false_iff_ne.2
    intro h
    apply e
    clear e
    induction a generalizing b with
    | nil => cases b with
      | nil => rfl
      | cons d b => simp at h
    | cons c a ih => cases b with
      | nil => simp at h
      | cons d b =>
        simp only [List.map_cons, List.cons.injEq] at h
        have h1 := ha c (by simp)
        have h2 := hb d (by simp)
        have h3 := congrArg UInt8.toNat h.1
        rw [UInt8.toNat_ofNat', UInt8.toNat_ofNat'] at h3
        have h4 : c = d := by omega
        rw [h4, ih b (fun x hx => ha x (by simp [hx])) (fun x hx => hb x (by simp [hx])) h.2]
end Go.Proofs.YtmnlhjdjjinbiaaGreat

namespace Go.Proofs.YtmnlhjdjjinbiaaGreat
open Go.RowKit

theorem cmpB_eq {a b : List Int} (ha : ∀ c ∈ a, 0 ≤ c ∧ c ≤ 255) (hb : ∀ c ∈ b, 0 ≤ c ∧ c ≤ 255) : cmpB a b = 0 ↔ a = b := by
  have h1 := str_same a b
  rw [str_eq a b ha hb] at h1
  exact ⟨fun h => of_decide_eq_true (h1.trans (decide_eq_true h)), fun h => by subst h; exact cmpB_self a⟩

/-- All are bytes. -/
def ByteL (n : List (List Int)) : Prop := ∀ l ∈ n, ∀ c ∈ l, 0 ≤ c ∧ c ≤ 255
theorem cmpL_zero : ∀ {a b : List (List Int)}, ByteL a → ByteL b → cmpL a b = 0 → a = b
  | [], [], _, _, _ => rfl
  | [], _ :: _, _, _, h => by
    unfold cmpL at h
    omega
  | _ :: _, [], _, _, h => by
    unfold cmpL at h
    omega
  | x :: a, y :: b, ha, hb, h => by
    unfold cmpL at h
    by_cases e : cmpB x y = 0
    · simp only [e, ne_eq, not_true, if_false] at h
      rw [(cmpB_eq (ha x (by simp)) (hb y (by simp))).1 e, cmpL_zero (fun l hl => ha l (by simp [hl])) (fun l hl => hb l (by simp [hl])) h]
    · simp only [e, ne_eq, not_false_iff, if_true] at h
theorem cmpN_zero {a b : List (List Int)} (ha : ByteL a) (hb : ByteL b) : cmpN a b = 0 ↔ a = b := by
  refine ⟨fun h => ?_, fun h => by subst h; exact cmpN_self a⟩
  rw [cmpN_eq] at h
  have := cmpL_zero (fun l hl => ha l (by simpa using hl)) (fun l hl => hb l (by simpa using hl)) h
  simpa using congrArg List.reverse this
theorem labelOk_bytes {l : List Int} (h : labelOk l = true) : ∀ c ∈ l, 0 ≤ c ∧ c ≤ 255 := by
  intro c hc
  obtain ⟨j, hj, rfl⟩ := List.getElem_of_mem hc
  have h' := of_decide_eq_true h
  have := h'.2.2 j hj
  rw [List.getD_eq_getElem?_getD, List.getElem?_eq_getElem hj, Option.getD_some] at this
  have := of_decide_eq_true this
  omega
theorem nameOk_bytes {n : List (List Int)} (h : nameOk n = true) : ByteL n := by
  intro l hl
  obtain ⟨j, hj, rfl⟩ := List.getElem_of_mem hl
  have := (nameOk_parts h).2 j hj
  rw [List.getD_eq_getElem?_getD, List.getElem?_eq_getElem hj, Option.getD_some] at this
  exact labelOk_bytes this

theorem cmpL_prefix : ∀ (a b : List (List Int)), b ≠ [] → cmpL (a ++ b) a = 1
  | [], [], h => absurd rfl h
  | [], _ :: _, _ => rfl
  | x :: a, b, h => by
    show cmpL (x :: (a ++ b)) (x :: a) = 1
    unfold cmpL
    rw [cmpB_self]
    simp only [ne_eq, not_true, if_false]
    exact cmpL_prefix a b h
/-- A name under another, longer by k, comes behind it. -/
theorem cmpN_longer (a b : List (List Int)) (h : b ≠ []) : cmpN (b ++ a) a = 1 := by
  rw [cmpN_eq, List.reverse_append]
  exact cmpL_prefix _ _ (by simpa using h)
theorem endsWith_iff {n z : List (List Int)} (hn : ByteL n) (hz : ByteL z) : endsWith n z = true ↔ ∃ p, n = p ++ z := by
  constructor
  · intro h
    unfold endsWith at h
    simp only [Bool.and_eq_true, decide_eq_true_eq, beq_iff_eq] at h
    have := (cmpN_zero (fun l hl => hn l (List.mem_of_mem_drop hl)) hz).1 h.2
    refine ⟨n.take (n.length - z.length), ?_⟩
    conv => lhs; rw [← List.take_append_drop (n.length - z.length) n]
    rw [this]
  · rintro ⟨p, rfl⟩
    unfold endsWith
    have : (p ++ z).drop ((p ++ z).length - z.length) = z := by simp
    rw [this, cmpN_self]
    simp
theorem under_iff {n z : List (List Int)} (hn : nameOk n = true) (hz : nameOk z = true) : under n z = true ↔ ∃ p, n = p ++ z := by
  unfold under
  rw [hn, hz, Bool.true_and, Bool.true_and]
  exact endsWith_iff (nameOk_bytes hn) (nameOk_bytes hz)
end Go.Proofs.YtmnlhjdjjinbiaaGreat

namespace Go.Proofs.YtmnlhjdjjinbiaaGreat
open Go.RowKit
set_option linter.unusedVariables false

theorem bytes_of (l : List Int) : (strOfNums l).data.toList = l.map (fun n => UInt8.ofNat n.toNat) := by simp [strOfNums]
theorem less_of : ∀ (a b : List UInt8), Lib.compareBytes a b = -1 → a < b
  | [], [], h => by simp [Lib.compareBytes] at h
  | [], _ :: _, _ => List.nil_lt_cons _ _
  | _ :: _, [], h => by simp [Lib.compareBytes] at h
  | x :: a, y :: b, h => by
    unfold Lib.compareBytes at h
    rw [List.cons_lt_cons_iff]
    by_cases h1 : x < y
    · exact .inl h1
    · simp only [h1, if_false] at h
      by_cases h2 : y < x
      · simp [h2] at h
      · simp only [h2, if_false] at h
        exact .inr ⟨UInt8.le_antisymm (UInt8.not_lt.1 h2) (UInt8.not_lt.1 h1), less_of a b h⟩
theorem type_small {r : Rec} (h : rrOk r = true) : 0 ≤ r.type ∧ r.type ≤ 49 := by
  have ht := (rrOk_parts h).2.1
  unfold typeOk at ht
  have := of_decide_eq_true ht
  omega
/-- The keys of records of one name ascend as the records do. -/
theorem keys_lt {a b : Rec} (ha : rrOk a = true) (hb : rrOk b = true) (hn : cmpN a.name b.name = 0) (h : cmpR a b < 0) : cmpB (keyD a) (keyD b) = -1 := by
  have a1 := type_small ha
  have b1 := type_small hb
  have e0 : UInt8.ofNat (a.type / 256).toNat = UInt8.ofNat (b.type / 256).toNat := by
    rw [show a.type / 256 = 0 by omega, show b.type / 256 = 0 by omega]
  have k1 : cmpB (keyD a) (keyD b) = Lib.compareBytes (UInt8.ofNat (a.type / 256).toNat :: UInt8.ofNat (a.type % 256).toNat :: (strOfNums (dataB a)).data.toList) (UInt8.ofNat (b.type / 256).toNat :: UInt8.ofNat (b.type % 256).toNat :: (strOfNums (dataB b)).data.toList) := by
    unfold cmpB
    simp only [keyD, bytes_of, List.nil_append, List.map_cons, List.cons_append]
  rw [k1, e0]
  unfold cmpR at h
  rw [if_neg (by simp [hn])] at h
  unfold Lib.compareBytes
  rw [if_neg (UInt8.lt_irrefl _), if_neg (UInt8.lt_irrefl _)]
  by_cases ht : byLength a.type b.type = 0
  · rw [if_neg (by simp [ht])] at h
    have et := byLength_zero ht
    rw [et]
    unfold Lib.compareBytes
    rw [if_neg (UInt8.lt_irrefl _), if_neg (UInt8.lt_irrefl _)]
    show cmpB (dataB a) (dataB b) = -1
    have := cmpB_cases (dataB a) (dataB b)
    omega
  · rw [if_pos ht] at h
    have hlt : a.type < b.type := by
      unfold byLength at h
      split at h
      · assumption
      · split at h <;> omega
    have h2 : UInt8.ofNat (a.type % 256).toNat < UInt8.ofNat (b.type % 256).toNat := by
      rw [UInt8.lt_iff_toNat_lt]
      simp only [UInt8.toNat_ofNat']
      omega
    unfold Lib.compareBytes
    rw [if_pos h2]
theorem keys_far {o : List (List Int)} {rs : List Rec} (hg : ∀ i, i < rs.length → GoodS o rs i) (i : Nat) : ∀ d, i + (d + 1) < rs.length → cmpN (rs.getD i recZ).name (rs.getD (i + (d + 1)) recZ).name = 0 → cmpB (keyD (rs.getD i recZ)) (keyD (rs.getD (i + (d + 1)) recZ)) = -1
  | 0, hd, hn => keys_lt (hg i (by omega)).ok (hg _ hd).ok hn (by have := (hg _ hd).next (by omega); simpa using this)
  | d + 1, hd, hn => by
    have hnx := (hg _ hd).next (by omega)
    rw [show i + (d + 1 + 1) - 1 = i + (d + 1) by omega] at hnx
    have hs := sorted_le (rs := rs) (fun j _ hj => cmpR_name ((hg j hj).next (by omega))) (i := i) (j := i + (d + 1)) (by omega) (by omega)
    obtain ⟨e1, e2⟩ := cmpN_between hs (cmpR_name hnx) hn
    have k1 := keys_far hg i d (by omega) e1
    have k2 := keys_lt (hg _ (by omega)).ok (hg _ hd).ok e2 hnx
    have k3 := cmpB_trans (a := keyD (rs.getD i recZ)) (by omega : cmpB _ _ ≤ 0) (by omega : cmpB (keyD (rs.getD (i + (d + 1)) recZ)) (keyD (rs.getD (i + (d + 1 + 1)) recZ)) ≤ 0)
    rcases cmpB_cases (keyD (rs.getD i recZ)) (keyD (rs.getD (i + (d + 1 + 1)) recZ)) with h | h | h
    · exact h
    · have := cmpB_between (a := keyD (rs.getD i recZ)) (by omega) (by omega : cmpB (keyD (rs.getD (i + (d + 1)) recZ)) (keyD (rs.getD (i + (d + 1 + 1)) recZ)) ≤ 0) h
      omega
    · omega
theorem keys_asc {o : List (List Int)} {rs : List Rec} (hz : zoneOk o rs = true) : rs.Pairwise (fun a b => a.name = b.name → cmpB (keyD a) (keyD b) = -1) := by
  have hz' := of_decide_eq_true hz
  have hg := (good_iff hz'.1).1 hz'.2.2.1
  rw [List.pairwise_iff_getElem]
  intro i j hi hj hij hn
  have e1 : rs.getD i recZ = rs[i] := by simp [hi]
  have e2 : rs.getD j recZ = rs[j] := by simp [hj]
  have := keys_far hg i (j - i - 1) (by omega)
  rw [show i + (j - i - 1 + 1) = j by omega, e1, e2] at this
  exact this (by rw [hn]; exact cmpN_self _)
/-- What the records say of a name. -/
def ofName (n : List (List Int)) (rs : List Rec) : List Rec := rs.filter (fun r => decide (r.name = n))
theorem ofName_yes {n : List (List Int)} {l : List Rec} {r : Rec} (h : r.name = n) : ofName n (l ++ [r]) = ofName n l ++ [r] := by simp [ofName, h]
theorem ofName_no {n : List (List Int)} {l : List Rec} {r : Rec} (h : ¬ r.name = n) : ofName n (l ++ [r]) = ofName n l := by simp [ofName, h]
theorem lookA_put_other {κ α : Type} [DecidableEq κ] {k k' : κ} {v : α} (hne : k' ≠ k) : ∀ {l : List (κ × α)}, lookA k (putA k' v l) = lookA k l
  | [] => by simp [putA, lookA, hne]
  | (a, u) :: t => by
    by_cases e : a = k'
    · subst e
      simp [putA, lookA, hne]
    · simp only [putA, if_neg e, lookA]
      split
      · rfl
      · exact lookA_put_other hne
def keyR (r : Rec) : ByteArray := strOfNums (keyD r)
theorem page_is {n : List (List Int)} (hnn : nameOk n = true) : ∀ (rs : List Rec), (∀ r ∈ rs, nameOk r.name = true) → rs.Pairwise (fun a b => a.name = b.name → cmpB (keyD a) (keyD b) = -1) → ∀ f, f = keyR →
    (lookA (strOfNums (keyN n)) (rs.foldl (fun B r => bkPut (strOfNums (keyN r.name)) (f r) r B) [])).getD [] = (ofName n rs).map (fun r => (keyR r, r)) := by
  intro rs hok hasc f hf
  subst hf
  have key : ∀ k, k ≤ rs.length → (lookA (strOfNums (keyN n)) ((rs.take k).foldl (fun B r => bkPut (strOfNums (keyN r.name)) (keyR r) r B) [])).getD [] = (ofName n (rs.take k)).map (fun r => (keyR r, r)) := by
    intro k
    induction k with
    | zero => intro _; simp [lookA, ofName]
    | succ k ih =>
      intro hk
      have ih := ih (by omega)
      have hkl : k < rs.length := by omega
      rw [List.take_succ_eq_append_getElem hkl, List.foldl_append, List.foldl_cons, List.foldl_nil]
      generalize hB : (rs.take k).foldl (fun B r => bkPut (strOfNums (keyN r.name)) (keyR r) r B) [] = B at ih ⊢
      have hr := hok _ (List.getElem_mem hkl)
      unfold bkPut
      by_cases e : rs[k].name = n
      · rw [e, lookA_put, ih, Option.getD_some, putA_none]
        · rw [ofName_yes e, List.map_append]
          rfl
        · intro p hp
          obtain ⟨x, hx, rfl⟩ := List.mem_map.1 hp
          obtain ⟨hx1, hx2⟩ := List.mem_filter.1 hx
          simp only [decide_eq_true_eq] at hx2
          obtain ⟨i, hi, rfl⟩ := List.getElem_of_mem hx1
          have hik : i < k := by simp at hi; omega
          rw [List.getElem_take] at hx2 ⊢
          have := (List.pairwise_iff_getElem.1 hasc) i k (by omega) hkl hik (hx2.trans e.symm)
          intro he
          have e2 : cmpB (keyD rs[i]) (keyD rs[k]) = cmpB (keyD rs[k]) (keyD rs[k]) := by
            unfold cmpB
            rw [show strOfNums (keyD rs[i]) = strOfNums (keyD rs[k]) from he]
          rw [cmpB_self] at e2
          omega
      · rw [lookA_put_other (fun he => e (keyN_inj hr hnn he)), ih, ofName_no e]
  have := key rs.length (Nat.le_refl _)
  rwa [List.take_length] at this
theorem page_sorted {n : List (List Int)} {rs : List Rec} (hasc : rs.Pairwise (fun a b => a.name = b.name → cmpB (keyD a) (keyD b) = -1)) : ((ofName n rs).map (fun r => (keyR r).data.toList)).mergeSort leB = (ofName n rs).map (fun r => (keyR r).data.toList) := by
  refine List.mergeSort_of_pairwise ?_
  rw [List.pairwise_map]
  have h1 : (ofName n rs).Pairwise (fun a b => a.name = b.name → cmpB (keyD a) (keyD b) = -1) := hasc.filter _
  refine List.Pairwise.imp_of_mem ?_ h1
  intro a b ha hb h
  have na := (List.mem_filter.1 ha).2
  have nb := (List.mem_filter.1 hb).2
  simp only [decide_eq_true_eq] at na nb
  simp only [leB, decide_eq_true_eq]
  exact List.le_of_lt (less_of _ _ (h (na.trans nb.symm)))
end Go.Proofs.YtmnlhjdjjinbiaaGreat

namespace Go.Proofs.YtmnlhjdjjinbiaaGreat
open Go.RowKit
set_option linter.unusedVariables false

/-- A page's keys, ascending. -/
def keysP {α : Type} (P : List (ByteArray × α)) : List (List UInt8) := (P.map (fun p => p.1.data.toList)).mergeSort leB
theorem keysP_length {α : Type} (P : List (ByteArray × α)) : (keysP P).length = P.length := by simp [keysP]
def atKey (P : Pg) (k : List UInt8) : Rec := (lookA ⟨k.toArray⟩ P).getD recZ
/-- A page's records, by ascending keys. -/
def sortP (P : Pg) : List Rec := (keysP P).map (atKey P)
theorem keysP_mem {α : Type} {P : List (ByteArray × α)} {k : List UInt8} (h : k ∈ keysP P) : ∃ v, ((⟨k.toArray⟩ : ByteArray), v) ∈ P := by
  unfold keysP at h
  rw [List.mem_mergeSort] at h
  obtain ⟨p, hp, rfl⟩ := List.mem_map.1 h
  exact ⟨p.2, by simpa using hp⟩
theorem two_keysP {α β : Type} {Q : α → β → Prop} {l : List (ByteArray × α)} {m : List (ByteArray × β)} (h : Two (AtKeys ByteArray Q) l m) : keysP l = keysP m := by
  unfold keysP
  congr 1
  induction h with
  | nil => rfl
  | cons h1 _ ih => rw [List.map_cons, List.map_cons, h1.1, ih]
/-- What is at hand: no page, or one. -/
def OptPage (w : World) (mb : Option Nat) (P : Pg) : Prop := (mb = none ∧ P = []) ∨ ∃ p, mb = some p ∧ PageM w p P
theorem sortP_page {n : List (List Int)} {rs : List Rec} (hasc : rs.Pairwise (fun a b => a.name = b.name → cmpB (keyD a) (keyD b) = -1)) (hA : ((ofName n rs).map (fun r => (keyR r, r))).Pairwise (fun p q => p.1 ≠ q.1)) : sortP ((ofName n rs).map (fun r => (keyR r, r))) = ofName n rs := by
  unfold sortP keysP
  rw [List.map_map]
  have := page_sorted (n := n) hasc
  rw [show ((fun p : ByteArray × Rec => p.1.data.toList) ∘ fun r => (keyR r, r)) = fun r => (keyR r).data.toList from rfl, this, List.map_map]
  conv => rhs; rw [← List.map_id (ofName n rs)]
  refine List.map_congr_left (fun r hr => ?_)
  simp only [Function.comp, atKey, id]
  have hl : lookA (keyR r) ((ofName n rs).map (fun r => (keyR r, r))) = some r := lookA_mem hA (List.mem_map.2 ⟨r, hr, rfl⟩)
  rw [show (⟨(keyR r).data.toList.toArray⟩ : ByteArray) = keyR r by simp, hl]
  rfl
end Go.Proofs.YtmnlhjdjjinbiaaGreat
