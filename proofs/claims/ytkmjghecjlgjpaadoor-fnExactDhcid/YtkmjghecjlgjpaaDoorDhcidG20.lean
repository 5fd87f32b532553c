/-
  Contracts of the program's Put32. Contract of the program's put: the bytes of a sum.
-/
import Derived.Test.YtkmjghecjlgjpaaDoorDhcidG19
import Derived.Test.YtkmjghecjlgjpaaDoorDhcidG18
import Derived.Test.YtkmjghecjlgjpaaDoorDhcidG08
namespace Go.Proofs.YtkmjghecjlgjpaaDoor
open Go.RowKit
set_option linter.unusedVariables false

set_option maxHeartbeats 800000 in
set_option maxRecDepth 100000 in
theorem implPut32_yes {B : Nat} {v : Value} {l : List Int} (n : Int) {w : World} (h : Own B 5 w v l) (hl : l.length ≤ 1048576) (h0 : 0 ≤ n) (h1 : n ≤ 4294967295) :
  Calls Tryd.prog 38 #[v, .int .i64 n] w fun e w' => ∃ v', e = .returned v' ∧ Own w.heap.size 5 w' v' (l ++ [n / 16777216, n / 65536 % 256, n / 256 % 256, n % 256]) ∧ Below w.heap.size w w' := by
 go_enter Tryd.func38, Tryd.ntmps38
 go_wp2_with fail
 refine (upTo_yes _ h0 h1).mono ?_
 rintro e w0 ⟨rfl, rfl⟩
 go_wp2_with fail
 refine (copyBytes_own h (by omega)).mono ?_
 rintro e w1 ⟨v1, rfl, o1, b1⟩
 have hsz := b1.size
 go_wp2_with (at_builtin; refine append_bytes rfl _ _ 22 5 rfl Tryd.underlying22 info_u8 w.heap.size v1 _ l [n / 16777216, n / 65536 % 256, n / 256 % 256, n % 256] rfl rfl (o1.alloc _) (own_put32 w1 0 5 n (Nat.zero_le _)).reads (by simp; omega) (by simp; omega) ?_)
 intro v' w2 hown hgrow
 go_wp2
 go_ret
 exact ⟨v', rfl, hown, (b1.alloc hsz _).grown hgrow (by simp; omega) (fun k hk => (o1.lt k hk).1)⟩

end Go.Proofs.YtkmjghecjlgjpaaDoor

namespace Go.Proofs.YtkmjghecjlgjpaaDoor
open Go.RowKit
set_option linter.unusedVariables false
set_option linter.unusedSimpArgs false

set_option maxHeartbeats 600000 in
set_option maxRecDepth 100000 in
theorem put_is {b : Nat} {t : TypeId} {s : S8} {w : World} (hk : w.heap[b]? = some (.cells (cellsU (l8 s)) t)) :
  Calls Tryd.prog 66 #[.pointer (some ⟨b, 0, none⟩)] w fun e w' => ∃ v, e = .returned v ∧ Own w.heap.size 5 w' v (outK s 8) ∧ Below w.heap.size w w' := by
 have HK := hide hk
 clear hk
 go_enter Tryd.func66, Tryd.ntmps66
 go_wp2_with (refine list_loadU rfl 80 (.tmp 7) rfl b rfl (l8 s) (unhide HK) Tryd.underlying80 rfl sizeSum ?_; simp only [Act.put, List.setIfInBounds_toArray, List.set_cons_zero, List.set_cons_succ])
 go_loopw [3, 9] (fun o i wr => ∃ (j : Nat), j ≤ 8 ∧ i = .int .i64 j ∧ Hid (Own w.heap.size 5 wr o (outK s j)) ∧ Hid (Below w.heap.size w wr)) (fun _ i _ => 8 - (intOf i).toNat)
 case atStart => exact ⟨0, by omega, rfl, hide (World.ownsRow_nil _ _ _ _), hide (Below.refl _ _)⟩
 case round =>
  obtain ⟨i, hi, rfl, ho, hb⟩ := hrel
  by_cases hlt : i < 8
  ·have HX := hide (show outK s (i + 1) = outK s i ++ bytesW ((l8 s).getD i 0) from rfl)
   have hix := cellsU_get (l8 s) (i := i) hlt
   have hin := run_indexU wr (t := 80) (cs := cellsU (l8 s)) Tryd.underlying80 Tryd.underlying78 size78 hlt hix
   have hL := hide (show (outK s i).length ≤ 1048576 by rw [outK_length]; omega)
   generalize (l8 s).getD i 0 = x at *
   have xl := wv_lt x
   have x0 : 0 ≤ wv x := by unfold wv; omega
   have hw : IntKind.i64.wrap (wv x) = wv x := by simp only [IntKind.wrap, IntKind.bits, IntKind.signed]; simp; omega
   have XL := hide xl
   have X0 := hide x0
   have li : (i : Int) < 8 := by omega
   have HLT := hide hlt
   clear hix xl x0 hlt hi
   go_wp2_with fail
   refine (implPut32_yes (wv x) (unhide ho) (unhide hL) (unhide X0) (by have := unhide XL; omega)).mono ?_
   rintro e w1 ⟨v1, rfl, o1, b1⟩
   have O1 := hide o1
   rw [show outK s i ++ [wv x / 16777216, wv x / 65536 % 256, wv x / 256 % 256, wv x % 256] = outK s (i + 1) from (unhide HX).symm] at O1
   replace O1 := hide ((unhide O1).mono (unhide hb).size)
   have B1 := hide (below_next (unhide hb) b1)
   clear o1 b1 hin hw li
   have hlt := unhide HLT
   go_wp2_with fail
   exact ⟨⟨i + 1, by omega, by go_num, O1, B1⟩, by simp [intOf]; omega⟩
  ·have e : ¬ ((i : Int) < 8) := by omega
   have HO : Hid (Own w.heap.size 5 wr u3 (outK s 8)) := by rw [show (8 : Nat) = i by omega]; exact ho
   clear ho hlt hi
   go_wp2_with fail
   go_ret
   exact ⟨_, rfl, unhide HO, unhide hb⟩
end Go.Proofs.YtkmjghecjlgjpaaDoor
