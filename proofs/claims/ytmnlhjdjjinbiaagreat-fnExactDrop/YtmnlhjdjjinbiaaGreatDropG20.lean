/-
  Plain facts: a zone's records of a name and a type, the first SOA, and a row of records that is appended to. No program is named here. Plain facts: what one zone has alone. No program is named here. Plain facts: what HasName answers. No program is named here. Plain facts: the decimal digits of a byte, and an address as four numbers with dots between. No program is named here.
-/
import Derived.Test.YtmnlhjdjjinbiaaGreatDropG19
import Derived.Test.YtmnlhjdjjinbiaaGreatDropG00
import Derived.Lib.ItoaNum
import Derived.Lib.UnsafeStr
namespace Go.Proofs.YtmnlhjdjjinbiaaGreat
open Go.RowKit

def selB (n : List (List Int)) (t : Int) (r : Rec) : Bool := (cmpN r.name n == 0) && ((t == 255) || (r.type == t))
/-- Those of the first k. -/
def selK (n : List (List Int)) (t : Int) (rs : List Rec) : Nat → List Rec
  | 0 => []
  | k + 1 => if selB n t (rs.getD k recZ) = true then selK n t rs k ++ [rs.getD k recZ] else selK n t rs k
theorem selK_length (n : List (List Int)) (t : Int) (rs : List Rec) : ∀ k, (selK n t rs k).length ≤ k
  | 0 => Nat.le_refl _
  | k + 1 => by
    have := selK_length n t rs k
    unfold selK
    split
    · simp; omega
    · omega
theorem selK_none {n : List (List Int)} {t : Int} {rs : List Rec} : ∀ {k : Nat}, (∀ j, j < k → selB n t (rs.getD j recZ) = false) → selK n t rs k = []
  | 0, _ => rfl
  | k + 1, h => by
    unfold selK
    rw [h k (by omega), if_neg (by simp)]
    exact selK_none (fun j hj => h j (by omega))
/-- The first one that is met is the first of all. -/
theorem selK_first {n : List (List Int)} {t : Int} {rs : List Rec} {s : Nat} (h1 : selB n t (rs.getD s recZ) = true) (h0 : ∀ j, j < s → selB n t (rs.getD j recZ) = false) : ∀ d, 1 ≤ (selK n t rs (s + 1 + d)).length ∧ (selK n t rs (s + 1 + d)).getD 0 recZ = rs.getD s recZ
  | 0 => by
    rw [Nat.add_zero]
    unfold selK
    rw [if_pos h1, selK_none h0]
    simp
  | d + 1 => by
    obtain ⟨q1, q2⟩ := selK_first h1 h0 d
    have e : selK n t rs (s + 1 + (d + 1)) = if selB n t (rs.getD (s + 1 + d) recZ) = true then selK n t rs (s + 1 + d) ++ [rs.getD (s + 1 + d) recZ] else selK n t rs (s + 1 + d) := rfl
    rw [e]
    by_cases hq : selB n t (rs.getD (s + 1 + d) recZ) = true
    · rw [if_pos hq]
      refine ⟨by simp, ?_⟩
      rw [List.getD_eq_getElem?_getD, List.getElem?_append_left (by omega), ← List.getD_eq_getElem?_getD]
      exact q2
    · rw [if_neg hq]
      exact ⟨q1, q2⟩
/-- Where the SOA stands. -/
theorem soas_some {rs : List Rec} : ∀ {k : Nat}, 0 < soas rs k → ∃ s, s < k ∧ (rs.getD s recZ).type = 6 ∧ ∀ j, j < s → (rs.getD j recZ).type ≠ 6
  | 0, h => by simp [soas] at h
  | k + 1, h => by
    by_cases h0 : 0 < soas rs k
    · obtain ⟨s, h1, h2, h3⟩ := soas_some h0
      exact ⟨s, by omega, h2, h3⟩
    · unfold soas at h
      split at h
      · rename_i h6
        refine ⟨k, by omega, h6, fun j hj e => ?_⟩
        have : ∀ i, j < i → i ≤ k → 0 < soas rs i := by
          intro i hi hik
          induction i with
          | zero => omega
          | succ i ih =>
            unfold soas
            by_cases e2 : j = i
            · subst e2
              rw [if_pos e]
              omega
            · have := ih (by omega) (by omega)
              split <;> omega
        have := this k hj (Nat.le_refl _)
        omega
      · omega
/-- The serial's record. -/
theorem zone_soa {o : List (List Int)} {rs : List Rec} (h : zoneOk o rs = true) : ∃ s, s < rs.length ∧ (rs.getD s recZ).type = 6 ∧ (∀ j, j < s → (rs.getD j recZ).type ≠ 6) ∧ 1 ≤ (selK o 6 rs rs.length).length ∧ (selK o 6 rs rs.length).getD 0 recZ = rs.getD s recZ ∧ (rs.getD s recZ).nums.length = 2 := by
  have h' := of_decide_eq_true h
  obtain ⟨ho, h60, hg, h1⟩ := h'
  have hS := (good_iff ho).1 hg
  obtain ⟨s, hs, h6, hb⟩ := soas_some (rs := rs) (k := rs.length) (by omega)
  have q1 : selB o 6 (rs.getD s recZ) = true := by
    unfold selB
    rw [(hS s hs).soa h6, h6]
    rfl
  have q0 : ∀ j, j < s → selB o 6 (rs.getD j recZ) = false := fun j hj => by
    unfold selB
    have : ((rs.getD j recZ).type == (6 : Int)) = false := by
      rw [beq_eq_false_iff_ne]
      exact hb j hj
    rw [this]
    simp
  have hf := selK_first q1 q0 (rs.length - (s + 1))
  rw [show s + 1 + (rs.length - (s + 1)) = rs.length by omega] at hf
  refine ⟨s, hs, h6, hb, hf.1, hf.2, ?_⟩
  have hok := (hS s hs).ok
  unfold rrOk dataOk at hok
  simp only [Bool.and_eq_true, h6, if_true] at hok
  have := of_decide_eq_true hok.2.2.2.2.2.2
  exact this.1

/-- A row of records that the slice v owns, from block B on; their lists lie as they did in W. -/
def RowS (B : Nat) (e : TypeId) (W w : World) (v : Value) (rs : List Rec) : Prop :=
  ∃ xs, w.ownsRow B e 7 v rs.length xs ∧ ∀ i, i < rs.length → ∃ vn vt vx vi, (∀ j u, (cellsR vn vt vx vi (rs.getD i recZ))[j]? = some u → xs[i * 7 + j]? = some u) ∧ HasR W vn vt vx vi (rs.getD i recZ)
theorem RowS.nil (B : Nat) (e : TypeId) (W w : World) : RowS B e W w (.slice none 0 0) [] := ⟨[], World.ownsRow_nil _ _ _ _, fun i hi => absurd hi (by simp)⟩
theorem RowS.snoc {B : Nat} {e : TypeId} {W w' : World} {v' : Value} {rs : List Rec} {xs : List Value} {r : Rec} {vn vt vx vi : Value} (hl : xs.length = rs.length * 7)
    (hx : ∀ i, i < rs.length → ∃ vn vt vx vi, (∀ j u, (cellsR vn vt vx vi (rs.getD i recZ))[j]? = some u → xs[i * 7 + j]? = some u) ∧ HasR W vn vt vx vi (rs.getD i recZ))
    (ho : w'.ownsRow B e 7 v' (rs.length + 1) (xs ++ cellsR vn vt vx vi r)) (hr : HasR W vn vt vx vi r) : RowS B e W w' v' (rs ++ [r]) := by
  refine ⟨xs ++ cellsR vn vt vx vi r, by rw [List.length_append]; exact ho, fun i hi => ?_⟩
  rw [List.length_append] at hi
  simp only [List.length_cons, List.length_nil] at hi
  by_cases h : i < rs.length
  · obtain ⟨un, ut, ux, ui, q1, q2⟩ := hx i h
    have e1 : (rs ++ [r]).getD i recZ = rs.getD i recZ := by rw [List.getD_eq_getElem?_getD, List.getElem?_append_left h, ← List.getD_eq_getElem?_getD]
    rw [e1]
    refine ⟨un, ut, ux, ui, fun j u hj => ?_, q2⟩
    have hj7 : j < 7 := by
      have := (List.getElem?_eq_some_iff.1 hj).1
      simpa [cellsR] using this
    rw [List.getElem?_append_left (by omega)]
    exact q1 j u hj
  · obtain rfl : i = rs.length := by omega
    have e1 : (rs ++ [r]).getD rs.length recZ = r := by rw [List.getD_eq_getElem?_getD]; simp
    rw [e1]
    refine ⟨vn, vt, vx, vi, fun j u hj => ?_, hr⟩
    rw [List.getElem?_append_right (by omega), hl, Nat.add_sub_cancel_left]
    exact hj
theorem RowS.has {B : Nat} {e : TypeId} {W w : World} {v : Value} {rs : List Rec} (h : RowS B e W w v rs) (hb : Below W.heap.size W w) : HasRs w v rs := by
  obtain ⟨xs, ho, hx⟩ := h
  have ho' := ho
  rcases ho.2 with ⟨rfl, hn⟩ | ⟨g, cap, cur, rfl, hB, hg, hn, hm, hs, ht⟩
  · exact .inl ⟨rfl, List.eq_nil_of_length_eq_zero hn⟩
  · refine .inr ⟨g, 0, cap, rfl, block_lt hg, hn, hm, fun i hi => ?_⟩
    obtain ⟨vn, vt, vx, vi, q1, q2⟩ := hx i hi
    refine ⟨vn, vt, vx, vi, fun j u hj => ?_, q2.below hb⟩
    have hj7 : j < 7 := by
      have := (List.getElem?_eq_some_iff.1 hj).1
      simpa [cellsR] using this
    rw [Nat.zero_add, World.ownsRow.cellAt ho' (i * 7 + j) (by omega)]
    exact q1 j u hj
/-- The serial of a zone. -/
def serialOf (o : List (List Int)) (rs : List Rec) : Int := if zoneOk o rs = true then ((selK o 6 rs rs.length).getD 0 recZ).nums.getD 0 0 else 0

end Go.Proofs.YtmnlhjdjjinbiaaGreat

namespace Go.Proofs.YtmnlhjdjjinbiaaGreat
open Go.RowKit
set_option linter.unusedVariables false

/-- Is there one that is the same? -/
def hasRec (b : List Rec) (r : Rec) : Bool := b.any (fun x => cmpR x r == 0)
/-- Those of the first k that b lacks. -/
def onlyK (a b : List Rec) : Nat → List Rec
  | 0 => []
  | k + 1 => if hasRec b (a.getD k recZ) = true then onlyK a b k else onlyK a b k ++ [a.getD k recZ]
def onlyOf (a b : List Rec) : List Rec := onlyK a b a.length
def diffOf (o : List (List Int)) (a : List Rec) (p : List (List Int)) (b : List Rec) : List Rec × List Rec × Bool := if zoneOk o a = true ∧ zoneOk p b = true then (onlyOf a b, onlyOf b a, true) else ([], [], false)
theorem hasRec_yes {b : List Rec} {r : Rec} {j : Nat} (hj : j < b.length) (h : cmpR (b.getD j recZ) r = 0) : hasRec b r = true := by
  unfold hasRec
  rw [List.any_eq_true]
  refine ⟨b.getD j recZ, ?_, by rw [h]; rfl⟩
  simp [List.getD, hj]
theorem hasRec_no {b : List Rec} {r : Rec} (h : ∀ j, j < b.length → cmpR (b.getD j recZ) r ≠ 0) : hasRec b r = false := by
  unfold hasRec
  rw [List.any_eq_false]
  intro x hx
  obtain ⟨j, hj, e⟩ := List.mem_iff_getElem.1 hx
  have := h j hj
  have e2 : b.getD j recZ = x := by simp [List.getD, hj, e]
  rw [e2] at this
  simpa using this
theorem onlyK_length (a b : List Rec) : ∀ k, (onlyK a b k).length ≤ k
  | 0 => Nat.le_refl _
  | k + 1 => by
    have := onlyK_length a b k
    unfold onlyK
    split
    · omega
    · simp; omega
theorem onlyK_of {a b : List Rec} {P : Rec → Prop} : ∀ k, k ≤ a.length → (∀ i, i < a.length → P (a.getD i recZ)) → ∀ i, i < (onlyK a b k).length → P ((onlyK a b k).getD i recZ)
  | 0, _, _ => fun i hi => absurd hi (by simp [onlyK])
  | k + 1, hk, h => by
    have ih := onlyK_of (b := b) k (by omega) h
    unfold onlyK
    split
    · exact ih
    · intro i hi
      rw [List.length_append] at hi
      simp only [List.length_cons, List.length_nil] at hi
      by_cases hlt : i < (onlyK a b k).length
      · rw [List.getD_eq_getElem?_getD, List.getElem?_append_left hlt, ← List.getD_eq_getElem?_getD]
        exact ih i hlt
      · obtain rfl : i = (onlyK a b k).length := by omega
        have : (onlyK a b k ++ [a.getD k recZ]).getD (onlyK a b k).length recZ = a.getD k recZ := by rw [List.getD_eq_getElem?_getD]; simp
        rw [this]
        exact h k (by omega)
theorem onlyOf_short {o : List (List Int)} {a b : List Rec} (h : zoneOk o a = true) : (∀ i, i < (onlyOf a b).length → ShortR ((onlyOf a b).getD i recZ)) ∧ (onlyOf a b).length ≤ 60 := by
  have hs := zone_short h
  exact ⟨onlyK_of a.length (Nat.le_refl _) hs.2.1, Nat.le_trans (onlyK_length a b a.length) hs.2.2⟩
theorem diffOf_size (o : List (List Int)) (a : List Rec) (p : List (List Int)) (b : List Rec) : ((diffOf o a p b).1.length ≤ 60 ∧ ∀ i, i < (diffOf o a p b).1.length → SizeR 1048576 ((diffOf o a p b).1.getD i recZ)) ∧ ((diffOf o a p b).2.1.length ≤ 60 ∧ ∀ i, i < (diffOf o a p b).2.1.length → SizeR 1048576 ((diffOf o a p b).2.1.getD i recZ)) := by
  unfold diffOf
  by_cases h : zoneOk o a = true ∧ zoneOk p b = true
  · rw [if_pos h]
    have h1 := onlyOf_short (b := b) h.1
    have h2 := onlyOf_short (b := a) h.2
    exact ⟨⟨h1.2, fun i hi => size_of_short (h1.1 i hi)⟩, ⟨h2.2, fun i hi => size_of_short (h2.1 i hi)⟩⟩
  · rw [if_neg h]
    exact ⟨⟨by simp, fun i hi => absurd hi (by simp)⟩, ⟨by simp, fun i hi => absurd hi (by simp)⟩⟩
theorem zone_oks {o : List (List Int)} {rs : List Rec} (h : zoneOk o rs = true) : ∀ i, i < rs.length → rrOk (rs.getD i recZ) = true := fun i hi => (goodI_parts ((of_decide_eq_true h).2.2.1 i hi)).1
end Go.Proofs.YtmnlhjdjjinbiaaGreat

namespace Go.Proofs.YtmnlhjdjjinbiaaGreat
open Go.RowKit
set_option linter.unusedVariables false

def hasAny (rs : List Rec) (n : List (List Int)) : Bool := rs.any (fun r => under r.name n)
def hasNameOf (o : List (List Int)) (rs : List Rec) (n : List (List Int)) : Bool := zoneOk o rs && (nameOk n && hasAny rs n)
theorem any_getD {p : Rec → Bool} : ∀ {rs : List Rec} {k : Nat}, k < rs.length → p (rs.getD k recZ) = true → rs.any p = true := by
  intro rs k hk h
  rw [List.any_eq_true]
  exact ⟨_, List.getElem_mem hk, by simpa [hk] using h⟩
theorem any_none {p : Rec → Bool} {rs : List Rec} (h : ∀ k, k < rs.length → p (rs.getD k recZ) = false) : rs.any p = false := by
  rw [List.any_eq_false]
  intro x hx
  obtain ⟨i, hi, rfl⟩ := List.getElem_of_mem hx
  have := h i hi
  simp only [List.getD_eq_getElem?_getD, List.getElem?_eq_getElem hi, Option.getD_some] at this
  simp [this]
theorem fold_has {n : List (List Int)} : ∀ {rs : List Rec} {B : Bk}, Named B → (∀ r ∈ rs, nameOk r.name = true) → ∀ f : Rec → ByteArray, hasB n (rs.foldl (fun B r => bkPut (strOfNums (keyN r.name)) (f r) r B) B) = (hasB n B || hasAny rs n)
  | [], B, _, _, f => by simp [hasAny]
  | r :: t, B, hB, hr, f => by
    rw [List.foldl_cons, fold_has (named_put hB (hr r (List.mem_cons_self ..)) _) (fun x hx => hr x (List.mem_cons_of_mem _ hx)), hasB_put hB (hr r (List.mem_cons_self ..))]
    simp [hasAny, Bool.or_assoc]
theorem names_ok {rs : List Rec} (h : ∀ i, i < rs.length → rrOk (rs.getD i recZ) = true) : ∀ r ∈ rs, nameOk r.name = true := by
  intro r hr
  obtain ⟨i, hi, rfl⟩ := List.getElem_of_mem hr
  have := h i hi
  simp only [List.getD_eq_getElem?_getD, List.getElem?_eq_getElem hi, Option.getD_some] at this
  exact (rrOk_parts this).1
end Go.Proofs.YtmnlhjdjjinbiaaGreat

namespace Go.Proofs.YtmnlhjdjjinbiaaGreat
open Go.RowKit

/-- The decimal digits of a number that is not negative. -/
def digs (x : Int) : List Int := (Lib.decDigits x.toNat).map fun (b : UInt8) => (b.toNat : Int)

theorem digs_lt (x : Int) (h0 : 0 ≤ x) (h : x < 10) : digs x = [48 + x] := by
  unfold digs
  rw [Lib.decDigits, dif_pos (by omega)]
  simp
  omega

theorem digs_ge (x : Int) (h : 10 ≤ x) : digs x = digs (x / 10) ++ [48 + x % 10] := by
  unfold digs
  rw [Lib.decDigits, dif_neg (by omega)]
  simp
  refine ⟨?_, by omega⟩
  congr 2
  omega

theorem digs_length (x : Int) (h0 : 0 ≤ x) (h : x ≤ 255) : 1 ≤ (digs x).length ∧ (digs x).length ≤ 3 := by
  by_cases h1 : x < 10
  · rw [digs_lt x h0 h1]; simp
  · rw [digs_ge x (by omega)]
    by_cases h2 : x / 10 < 10
    · rw [digs_lt _ (by omega) h2]; simp
    · rw [digs_ge (x / 10) (by omega), digs_lt _ (by omega) (by omega)]; simp

theorem cells_digs (x : Int) (h0 : 0 ≤ x) : Lib.byteCells (Lib.itoa x) = (digs x).map (Value.int .u8) := by
  unfold Lib.itoa digs Lib.byteCells
  rw [if_neg (by omega)]
  simp

theorem itoa_digs (x : Int) (h0 : 0 ≤ x) : (Lib.itoa x).length = (digs x).length := by
  unfold Lib.itoa digs
  rw [if_neg (by omega)]
  simp

def parts (n : Int) : List Int := [n / 16777216, n / 65536 % 256, n / 256 % 256, n % 256]
def part (n : Int) (j : Nat) : Int := (parts n).getD j 0

theorem part_bd (n : Int) (j : Nat) (h0 : 0 ≤ n) (h1 : n ≤ 4294967295) : 0 ≤ part n j ∧ part n j ≤ 255 := by
  match j with
  | 0 => simp [part, parts]; omega
  | 1 => simp [part, parts]; omega
  | 2 => simp [part, parts]; omega
  | 3 => simp [part, parts]; omega
  | k + 4 => simp [part, parts]

/-- The text, a dot behind each number but the last. -/
def sdot (n : Int) : Nat → List Int
  | 0 => []
  | j + 1 => sdot n j ++ digs (part n j) ++ (if j < 3 then [46] else [])
/-- The text, a dot ahead of each number but the first. -/
def idot (n : Int) : Nat → List Int
  | 0 => []
  | j + 1 => idot n j ++ (if 0 < j then [46] else []) ++ digs (part n j)

theorem sdot_idot (n : Int) : sdot n 4 = idot n 4 := by simp [sdot, idot]

theorem sdot_length (n : Int) (h0 : 0 ≤ n) (h1 : n ≤ 4294967295) (j : Nat) : (sdot n j).length ≤ 4 * j := by
  induction j with
  | zero => simp [sdot]
  | succ j ih =>
    have hb := part_bd n j h0 h1
    have := (digs_length _ hb.1 hb.2).2
    simp only [sdot, List.length_append]
    split <;> simp <;> omega
theorem idot_length (n : Int) (h0 : 0 ≤ n) (h1 : n ≤ 4294967295) (j : Nat) : (idot n j).length ≤ 4 * j := by
  induction j with
  | zero => simp [idot]
  | succ j ih =>
    have hb := part_bd n j h0 h1
    have := (digs_length _ hb.1 hb.2).2
    simp only [idot, List.length_append]
    split <;> simp <;> omega

/-- An address as four numbers; nothing where it is none. -/
def dotted (n : Int) : List Int := if 0 ≤ n ∧ n ≤ 4294967295 then idot n 4 else []

theorem dotted_length (n : Int) : (dotted n).length ≤ 16 := by
  unfold dotted
  split
  · rename_i h; have := idot_length n h.1 h.2 4; omega
  · simp

theorem and_255 (x : Int) (h0 : 0 ≤ x) (h1 : x ≤ 4611686018427387903) : bits .and .i64 x 255 = x % 256 := by
  obtain ⟨a, rfl⟩ := Int.eq_ofNat_of_zero_le h0
  show IntKind.i64.wrap ((BitVec.ofInt 64 (a : Int) &&& BitVec.ofInt 64 ((255 : Nat) : Int)).toNat : Int) = _
  rw [BitVec.toNat_and, ofInt_u64 a (by omega), ofInt_u64 255 (by omega), nat_mask8]
  rw [wrap_small _ (by omega)]
  omega
end Go.Proofs.YtmnlhjdjjinbiaaGreat
