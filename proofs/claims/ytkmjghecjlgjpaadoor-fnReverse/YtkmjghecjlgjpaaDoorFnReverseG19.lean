/-
  Plain facts: the bytes of a text, as numbers, and a slice that is made of it. No program is named here. Contract of the laws' name: a name out of a text.
-/
import Derived.Test.YtkmjghecjlgjpaaDoorFnReverseG15
import Derived.Laws.IdiomStrings
import Derived.Test.YtkmjghecjlgjpaaDoorFnReverseG18
namespace Go.Proofs.YtkmjghecjlgjpaaDoor
open Go.RowKit
set_option linter.unusedVariables false

/-- The bytes of a text, as numbers. -/
def numsOf (s : ByteArray) : List Int := s.data.toList.map (fun b => (b.toNat : Int))
theorem numsOf_length (s : ByteArray) : (numsOf s).length = s.size := by simp [numsOf]
theorem numsOf_bytes (s : ByteArray) : Bytes8 (numsOf s) := fun k => by
  unfold numsOf
  rw [List.getD_eq_getElem?_getD, List.getElem?_map]
  cases hk : s.data.toList[k]? with
  | none => simp
  | some y =>
    have := y.toNat_lt
    simp
    omega
theorem has_str (w : World) (e : TypeId) (s : ByteArray) (c : Nat) (fz : Nat × Nat) (h1 : s.size ≤ c) (h2 : c ≤ maxLen) :
    Has (w.alloc (.cells (bytesRow s c) e fz)) (.slice (some ⟨w.heap.size, 0, none⟩) s.size c) (numsOf s) := by
  refine .inr ⟨w.heap.size, 0, c, by rw [numsOf_length], by show w.heap.size < (w.heap.push _).size; simp, by rw [numsOf_length]; exact h1, h2, fun i hi => ?_⟩
  rw [numsOf_length] at hi
  have hi' : i < s.data.size := hi
  have hh : (w.alloc (.cells (bytesRow s c) e fz)).heap[w.heap.size]? = some (.cells (bytesRow s c) e fz) := by
    show (w.heap.push _)[w.heap.size]? = _
    simp
  have hc := bytesRow_at s c i hi'
  have hn : (numsOf s).getD i 0 = (s.data[i].toNat : Int) := by
    unfold numsOf
    rw [List.getD_eq_getElem?_getD, List.getElem?_map]
    rw [Array.getElem?_toList, Array.getElem?_eq_getElem hi']
    rfl
  rw [hn, Nat.zero_add]
  unfold World.cell?
  simp only [hh]
  exact hc
end Go.Proofs.YtkmjghecjlgjpaaDoor

namespace Go.Proofs.YtkmjghecjlgjpaaDoor
open Go.RowKit
set_option linter.unusedVariables false

set_option maxHeartbeats 1000000 in
set_option maxRecDepth 100000 in
theorem name_any (s : ByteArray) (w : World) (hs : s.size ≤ 1048576) :
    Calls Tryd.prog 13 #[.string s] w fun e w' => ∃ v', e = .returned (.agg #[v']) ∧ OwnL w.heap.size 22 5 w' v' (nameRead (numsOf s)).1 ∧ Below w.heap.size w w' := by
  have b0 := below_alloc (w := w) (.cells #[.slice none 0 0] 26)
  have k0 := heap_alloc_new w (.cells #[.slice none 0 0] 26)
  have hcv := run_bytes_of_string (P := Tryd.prog) (w.alloc (.cells #[.slice none 0 0] 26)) 9 22 5 s Tryd.underlying9 Tryd.underlying22 Tryd.underlying5
  have hcap := grownCap_ge (w.alloc (.cells #[.slice none 0 0] 26)) s.size 0 5
  have hcap2 := grownCap_le_maxLen (w.alloc (.cells #[.slice none 0 0] 26)) s.size 0 5 (by unfold maxLen; omega)
  have hnl := numsOf_length s
  generalize grownCap (w.alloc (.cells #[.slice none 0 0] 26)) s.size 0 5 = C at *
  have esz : (w.alloc (.cells #[.slice none 0 0] 26)).heap.size = w.heap.size + 1 := by show (w.heap.push _).size = _; simp
  have ba := below_alloc (w := w.alloc (.cells #[.slice none 0 0] 26)) (.cells (bytesRow s C) 5 ((bytesRow s C).size, (bytesRow s C).size + 1))
  have bd := below_drew (w := (w.alloc (.cells #[.slice none 0 0] 26)).alloc (.cells (bytesRow s C) 5 ((bytesRow s C).size, (bytesRow s C).size + 1)))
  have HR := specNameRead_has ((has_str (w.alloc (.cells #[.slice none 0 0] 26)) 5 s C ((bytesRow s C).size, (bytesRow s C).size + 1) hcap hcap2).below bd) (by omega) (numsOf_bytes s)
  rw [esz] at HR
  have HR := hide HR
  have K1 := hide (block_kept bd (block_kept ba k0))
  have bb1 := below_next (below_next b0 ba) bd
  have z0 := block_lt k0
  have z1 := bb1.size
  have zk := block_lt (unhide K1)
  clear k0 b0 bd ba hcap hcap2 hnl esz
  generalize (nameRead (numsOf s)).1 = R at *
  generalize (nameRead (numsOf s)).2 = R2 at *
  go_enter Tryd.func13, Tryd.ntmps13
  go_wp2_with fail
  generalize ((w.alloc (.cells #[.slice none 0 0] 26)).alloc (.cells (bytesRow s C) 5 ((bytesRow s C).size, (bytesRow s C).size + 1))).drew = W at *
  refine (unhide HR).mono ?_
  rintro e w1 ⟨v1, rfl, o1, b1⟩
  obtain ⟨oa, oc, rfl, _⟩ := o1.hasL.form
  have bm := below_alloc (w := w1) (.cells #[.slice oa R.length oc] 26)
  have cm := block_one (heap_alloc_new w1 (.cells #[.slice oa R.length oc] 26))
  have k2 := block_kept bm (block_kept b1 (unhide K1))
  have c2 := block_one k2
  have f2 := block_frozen k2 0
  have K2 := hide (block_set k2 (.slice oa R.length oc))
  have O2 := hide (o1.below bm)
  have bb2 := below_next (below_next bb1 b1) bm
  have z2 := b1.size
  clear HR hcv o1 b1 bm k2 K1 bb1
  go_wp2_with fail
  refine bodyPost_ret (results_cell_row rfl _ _ w.heap.size 26 #[.slice oa R.length oc] (0, 0) _ rfl (unhide K2) Tryd.underlying26 rfl (by kernel_rfl)) rfl ?_
  exact ⟨_, rfl, ((unhide O2).kept (grown_setCell _ _ _) (by show w.heap.size < _; omega)).mono (by omega), bb2.setCell (Nat.le_refl _) _⟩
end Go.Proofs.YtkmjghecjlgjpaaDoor
