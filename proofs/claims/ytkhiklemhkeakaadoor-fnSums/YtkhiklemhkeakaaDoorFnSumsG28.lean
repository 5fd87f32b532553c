/-
  A slice of bytes made into a text. Plain facts: the decimal digits of a byte, and an address as four numbers with dots between. No program is named here.
-/
import Derived.Test.YtkhiklemhkeakaaDoorFnSumsG01
import Derived.Test.YtkhiklemhkeakaaDoorFnSumsG00
import Derived.Lib.ItoaNum
import Derived.Lib.UnsafeStr
namespace Go.Proofs.YtkhiklemhkeakaaDoor
open Go.RowKit

theorem conv_own {B : Nat} {v : Value} {l : List Int} {w : World} (h : Own B 5 w v l) : (convert 22 9 v).run Tryd.prog w = .ok (.string (strOfNums l)) w := by
  rcases h.form with ⟨rfl, rfl⟩ | ⟨g, cap, rfl, _, _, _, _, hc, _⟩
  · exact run_convert_bytes_nil w 22 5 Tryd.underlying22 Tryd.underlying5 0 0 9 Tryd.underlying9
  · exact run_convert_bytes_arg w 22 5 Tryd.underlying22 Tryd.underlying5 g 0 l.length cap l rfl (fun i hi => by rw [Nat.zero_add]; exact hc i hi) 9 Tryd.underlying9

theorem conv_has {v : Value} {l : List Int} {w : World} (h : Has w v l) : (convert 22 9 v).run Tryd.prog w = .ok (.string (strOfNums l)) w := by
  rcases h with ⟨rfl, rfl⟩ | ⟨g, off, cap, rfl, _, _, _, hc⟩
  · exact run_convert_bytes_nil w 22 5 Tryd.underlying22 Tryd.underlying5 0 0 9 Tryd.underlying9
  · exact run_convert_bytes_arg w 22 5 Tryd.underlying22 Tryd.underlying5 g off l.length cap l rfl hc 9 Tryd.underlying9
end Go.Proofs.YtkhiklemhkeakaaDoor

namespace Go.Proofs.YtkhiklemhkeakaaDoor
open Go.RowKit

/-- The decimal digits of a number that is not negative. -/
def digs (x : Int) : List Int := (Lib.decDigits x.toNat).map fun (b : UInt8) => (b.toNat : Int)

theorem digs_lt (x : Int) (h0 : 0 ≤ x) (h : x < 10) : digs x = [48 + x] := by
  unfold digs
  rw [Lib.decDigits, dif_pos (by omega)]
  simp
  omega

theorem digs_ge (x : Int) (h : 10 ≤ x) : digs x = digs (x / 10) ++ [48 + x % 10] := by
  unfold digs
  rw [Lib.decDigits, dif_neg (by omega)]
  simp
  refine ⟨?_, by omega⟩
  congr 2
  omega

theorem digs_length (x : Int) (h0 : 0 ≤ x) (h : x ≤ 255) : 1 ≤ (digs x).length ∧ (digs x).length ≤ 3 := by
  by_cases h1 : x < 10
  · rw [digs_lt x h0 h1]; simp
  · rw [digs_ge x (by omega)]
    by_cases h2 : x / 10 < 10
    · rw [digs_lt _ (by omega) h2]; simp
    · rw [digs_ge (x / 10) (by omega), digs_lt _ (by omega) (by omega)]; simp

theorem cells_digs (x : Int) (h0 : 0 ≤ x) : Lib.byteCells (Lib.itoa x) = (digs x).map (Value.int .u8) := by
  unfold Lib.itoa digs Lib.byteCells
  rw [if_neg (by omega)]
  simp

theorem itoa_digs (x : Int) (h0 : 0 ≤ x) : (Lib.itoa x).length = (digs x).length := by
  unfold Lib.itoa digs
  rw [if_neg (by omega)]
  simp

def parts (n : Int) : List Int := [n / 16777216, n / 65536 % 256, n / 256 % 256, n % 256]
def part (n : Int) (j : Nat) : Int := (parts n).getD j 0

theorem part_bd (n : Int) (j : Nat) (h0 : 0 ≤ n) (h1 : n ≤ 4294967295) : 0 ≤ part n j ∧ part n j ≤ 255 := by
  match j with
  | 0 => simp [part, parts]; omega
  | 1 => simp [part, parts]; omega
  | 2 => simp [part, parts]; omega
  | 3 => simp [part, parts]; omega
  | k + 4 => simp [part, parts]

/-- The text, a dot behind each number but the last. -/
def sdot (n : Int) : Nat → List Int
  | 0 => []
  | j + 1 => sdot n j ++ digs (part n j) ++ (if j < 3 then [46] else [])
/-- The text, a dot ahead of each number but the first. -/
def idot (n : Int) : Nat → List Int
  | 0 => []
  | j + 1 => idot n j ++ (if 0 < j then [46] else []) ++ digs (part n j)

theorem sdot_idot (n : Int) : sdot n 4 = idot n 4 := by simp [sdot, idot]

theorem sdot_length (n : Int) (h0 : 0 ≤ n) (h1 : n ≤ 4294967295) (j : Nat) : (sdot n j).length ≤ 4 * j := by
  induction j with
  | zero => simp [sdot]
  | succ j ih =>
    have hb := part_bd n j h0 h1
    have := (digs_length _ hb.1 hb.2).2
    simp only [sdot, List.length_append]
    split <;> simp <;> omega
theorem idot_length (n : Int) (h0 : 0 ≤ n) (h1 : n ≤ 4294967295) (j : Nat) : (idot n j).length ≤ 4 * j := by
  induction j with
  | zero => simp [idot]
  | succ j ih =>
    have hb := part_bd n j h0 h1
    have := (digs_length _ hb.1 hb.2).2
    simp only [idot, List.length_append]
    split <;> simp <;> omega

/-- An address as four numbers; nothing where it is none. -/
def dotted (n : Int) : List Int := if 0 ≤ n ∧ n ≤ 4294967295 then idot n 4 else []

theorem dotted_length (n : Int) : (dotted n).length ≤ 16 := by
  unfold dotted
  split
  · rename_i h; have := idot_length n h.1 h.2 4; omega
  · simp

theorem and_255 (x : Int) (h0 : 0 ≤ x) (h1 : x ≤ 4611686018427387903) : bits .and .i64 x 255 = x % 256 := by
  obtain ⟨a, rfl⟩ := Int.eq_ofNat_of_zero_le h0
  show IntKind.i64.wrap ((BitVec.ofInt 64 (a : Int) &&& BitVec.ofInt 64 ((255 : Nat) : Int)).toNat : Int) = _
  rw [BitVec.toNat_and, ofInt_u64 a (by omega), ofInt_u64 255 (by omega), nat_mask8]
  rw [wrap_small _ (by omega)]
  omega
end Go.Proofs.YtkhiklemhkeakaaDoor
