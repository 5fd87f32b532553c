/-
  Contracts of the laws' names: a name is read, and written. Contracts of the library's bytes.Compare and cmp.Compare at int.
-/
import Derived.Test.YtkmjghecjlgjpaaDoorFnReverseG20
import Derived.Test.YtkmjghecjlgjpaaDoorFnReverseG27
import Derived.Lib.SlBytesConst
import Derived.Test.YtkmjghecjlgjpaaDoorFnReverseG02
import Derived.Test.YtkmjghecjlgjpaaDoorFnReverseG11
namespace Go.Proofs.YtkmjghecjlgjpaaDoor
open Go.RowKit
set_option linter.unusedVariables false

theorem nameRead_ab : nameRead [65, 46, 98] = ([[97], [98]], true) := by decide +kernel
theorem nameText_ab : nameText [[97], [98]] = [97, 46, 98, 46] := by decide +kernel
theorem bytes8_of {l : List Int} (h : ∀ x ∈ l, 0 ≤ x ∧ x ≤ 255) : Bytes8 l := fun k => by
  rw [List.getD_eq_getElem?_getD]
  cases hk : l[k]? with
  | none => simp
  | some y => exact h y (List.mem_of_getElem? hk)

set_option maxHeartbeats 1000000 in
set_option maxRecDepth 100000 in
theorem names_any (w : World) : Calls Tryd.prog 10 #[] w fun e w' => e = .returned (.bool true) ∧ Below w.heap.size w w' := by
  have hcid := fun (w : World) (C : Array Value) (n c : Nat) => Lib.run_convert_bytes_const (P := Tryd.prog) w 22 5 C n c Tryd.underlying22 Tryd.underlying5
  have b0 := below_alloc (w := w) (.cells #[.int .u8 65, .int .u8 46, .int .u8 98] 5 (3, 4))
  have HR := implNameRead_has (l := [65, 46, 98]) (has_const w 5 [65, 46, 98] (3, 4) (by simp [maxLen])) (by simp) (bytes8_of (by simp))
  rw [nameRead_ab] at HR
  have HR := hide HR
  have HT := hide (fun (w : World) (v : Value) (h : HasL w v [[97], [98]]) => implNameText_has h)
  have HTB := hide nameText_ab
  go_enter Tryd.func10, Tryd.ntmps10
  go_wp2_with fail
  refine (unhide HR).mono ?_
  rintro e w1 ⟨v1, rfl, o1, b1⟩
  obtain ⟨oa, oc, rfl, _⟩ := o1.hasL.form
  have bm := below_alloc (w := w1) (.cells #[.slice oa 2 oc] 26)
  have K2 := hide (heap_alloc_new w1 (.cells #[.slice oa 2 oc] 26))
  have O2 := hide (o1.below bm).hasL
  have bb2 := below_next (below_next b0 b1) bm
  clear o1 b1 bm b0 HR
  have c2 := block_one (unhide K2)
  go_wp2_with fail
  generalize w1.alloc (.cells #[.slice oa 2 oc] 26) = w2 at *
  refine (unhide HT _ _ (unhide O2)).mono ?_
  rw [unhide HTB]
  rintro e w3 ⟨v3, rfl, o3, b3⟩
  have bb3 := below_next bb2 b3
  clear c2 K2 O2 bb2 b3
  have b4 := below_alloc (w := w3) (.cells #[.int .u8 97, .int .u8 46, .int .u8 98, .int .u8 46] 5 (4, 5))
  have HS := same_has (o3.alloc (.cells #[.int .u8 97, .int .u8 46, .int .u8 98, .int .u8 46] 5 (4, 5))).has (has_const w3 5 [97, 46, 98, 46] (4, 5) (by simp [maxLen])) (by simp) (by simp)
  rw [decide_eq_true rfl] at HS
  have HS := hide HS
  obtain ⟨va, vc, rfl, _⟩ := o3.lies
  clear o3
  go_wp2_with fail
  refine (unhide HS).mono ?_
  rintro e w4 ⟨rfl, rfl⟩
  go_wp2_with fail
  go_ret
  exact ⟨rfl, below_next bb3 b4⟩
end Go.Proofs.YtkmjghecjlgjpaaDoor

namespace Go.Proofs.YtkmjghecjlgjpaaDoor
open Go.RowKit
set_option linter.unusedVariables false

set_option maxHeartbeats 400000 in
set_option maxRecDepth 100000 in
theorem bytesCompare_has {v v' : Value} {l l' : List Int} {w : World} (h : Has w v l) (h' : Has w v' l') :
    Calls Tryd.prog 81 #[v, v'] w fun e w' => e = .returned (.int .i64 (cmpB l l')) ∧ w = w' := by
  go_enter Tryd.func81, Tryd.ntmps81
  go_wp2
  rw [run_callFunc_extern Tryd.func110 (by kernel_rfl) (by kernel_rfl) (by kernel_rfl) (e := Extern.BytealgCompare.compare) (by kernel_rfl), run_compare_has h h']
  simp only [Result.andThen]
  rw [Oper.upon_value]
  go_wp2
  go_ret
  exact ⟨rfl, rfl⟩

set_option maxHeartbeats 400000 in
set_option maxRecDepth 100000 in
theorem isNaN_int (x : Int) (w : World) :
    Calls Tryd.prog 111 #[.int .i64 x] w fun e w' => e = .returned (.bool false) ∧ w = w' := by
  go_enter Tryd.func111, Tryd.ntmps111
  go_wp2
  go_ret
  exact ⟨rfl, rfl⟩

set_option maxHeartbeats 400000 in
set_option maxRecDepth 100000 in
theorem cmpCompare_int (x y : Int) (w : World) :
    Calls Tryd.prog 82 #[.int .i64 x, .int .i64 y] w fun e w' => e = .returned (.int .i64 (byLength x y)) ∧ w = w' := by
  unfold byLength
  by_cases h1 : x < y
  · rw [if_pos h1]
    go_enter Tryd.func82, Tryd.ntmps82
    go_wp2_with fail
    refine (isNaN_int x _).mono ?_
    rintro e w1 ⟨rfl, rfl⟩
    go_wp2_with fail
    refine (isNaN_int y _).mono ?_
    rintro e w1 ⟨rfl, rfl⟩
    go_wp2
    go_ret
    exact ⟨rfl, rfl⟩
  · rw [if_neg h1]
    by_cases h2 : y < x
    · rw [if_pos h2]
      go_enter Tryd.func82, Tryd.ntmps82
      go_wp2_with fail
      refine (isNaN_int x _).mono ?_
      rintro e w1 ⟨rfl, rfl⟩
      go_wp2_with fail
      refine (isNaN_int y _).mono ?_
      rintro e w1 ⟨rfl, rfl⟩
      go_wp2
      go_ret
      exact ⟨rfl, rfl⟩
    · rw [if_neg h2]
      go_enter Tryd.func82, Tryd.ntmps82
      go_wp2_with fail
      refine (isNaN_int x _).mono ?_
      rintro e w1 ⟨rfl, rfl⟩
      go_wp2_with fail
      refine (isNaN_int y _).mono ?_
      rintro e w1 ⟨rfl, rfl⟩
      go_wp2
      go_ret
      exact ⟨rfl, rfl⟩
end Go.Proofs.YtkmjghecjlgjpaaDoor
