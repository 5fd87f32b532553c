/-
  Contracts of the program's Lower.
-/
import Derived.Test.YtbabmdiklefgcaaGreatDoorFnRepliesG22
import Derived.Test.YtbabmdiklefgcaaGreatDoorFnRepliesG07
namespace Go.Proofs.YtbabmdiklefgcaaGreatDoor
open Go.RowKit
set_option linter.unusedVariables false
set_option maxHeartbeats 400000
set_option maxRecDepth 100000

theorem implLower_some (g off cap : Nat) (l : List Int) (w : World) (hh : Has w (.slice (some ⟨g, off, none⟩) l.length cap) l) (hl : l.length ≤ 1048576) (hb : ∀ k, 0 ≤ l.getD k 0 ∧ l.getD k 0 ≤ 255) :
  Calls Tryz.prog 43 #[.slice (some ⟨g, off, none⟩) l.length cap] w fun e w' => ∃ v, e = .returned v ∧ Own w.heap.size 5 w' v (lowered l l.length) ∧ Below w.heap.size w w' := by
 have hl2 : l.length ≤ 2097152 := by omega
 have h := UC hh
 clear hh
 have HB := UC hb
 clear hb
 generalize hn : l.length = n at *
 have HN := UC hn
 clear hn
 have hsz := strOfNums_size l
 rw [UB HN] at hsz
 go_enter Tryz.func43, Tryz.ntmps43
 go_wp2_with fail
 refine (copyBytes_reads (UB h).reads (by rw [UB HN]; exact hl2)).mono ?_
 rintro e w1 ⟨v1, rfl, o1, b1⟩
 have hcv := conv_has ((UB h).below b1)
 generalize hs : strOfNums l = s at *
 have HS := UC hs
 clear hs
 have o2 : w1.ownsRow w.heap.size 5 1 v1 n ((lowered l 0).map (Value.int .u8)) := by
  rw [lowered_zero]; have o2 := o1; unfold Own at o2; rw [UB HN] at o2; exact o2
 go_wp2
 go_loopw [4] (fun i wr => ∃ pos : Nat, pos ≤ n ∧ wr.heap[w1.heap.size]? = some (.stringIter s pos) ∧ wr.ownsRow w.heap.size 5 1 v1 n ((lowered l pos).map (Value.int .u8)) ∧ Below w.heap.size w wr) (fun i wr => n - wr.iterPos w1.heap.size)
 case atStart => exact ⟨0, Nat.zero_le _, World.iter_heap w1 s 0, World.ownsRow.alloc o2 _, b1.alloc b1.size _⟩
 case round =>
  obtain ⟨pos, hpos, hit, ho, hbw⟩ := hrel
  by_cases hlt : pos < n
  ·have hp : pos < s.size := by omega
   have hnx : ∀ ty, (Instr.next (.pointer (some ⟨w1.heap.size, 0, none⟩)) true ty).run Tryz.prog wr = _ := fun ty => Lib.run_next_any_at wr w1.heap.size s pos ty hit hp
   have hd := UC (decode_l l (UB HB) pos (by rw [UB HN]; exact hlt))
   rw [UB HS] at hd
   have hle := decode_le s pos
   generalize hde : Utf8.decode s pos = d at *
   clear hde
   obtain ⟨d1, d2⟩ := d
   have ho2 := UC (ownsRow_iter ho hit (pos + d2))
   have hit2 := UC (Lib.iterAt_heap wr w1.heap.size s pos (pos + d2) hit)
   have hbw2 := UC (Lib.below_iterAt hbw b1.size s (pos + d2))
   simp only at hnx hle hd
   generalize hW : wr.iterAt w1.heap.size s (pos + d2) = W1 at *
   have HW := UC hW
   clear hW
   have HP := UC (iterPos_eq hit)
   have HP2 := UC (iterPos_eq (UB hit2))
   clear hit ho hbw
   by_cases hA : 65 ≤ d1 ∧ d1 ≤ 90
   ·obtain ⟨hA1, hA2⟩ := hA
    obtain ⟨hx1, rfl⟩ : l.getD pos 0 = (d1 : Int) ∧ d2 = 1 := by
     rcases (UB hd).2.2 with ⟨_, h2, h3⟩ | ⟨h2, _⟩
     ·exact ⟨h2.symm, h3⟩
     ·omega
    rcases o1.form with ⟨rfl, rfl⟩ | ⟨g1, cap1, hv1, hB1, hlt1, _⟩
    ·have := UB HN; simp at this; omega
    ·rw [UB HN] at hv1
     subst hv1
     have hc := World.ownsRow.cellAt (UB ho2) pos (by omega)
     rw [map_at _ _ (by rw [lowered_length, UB HN]; exact hlt), lowered_getD _ _ _ (Nat.le_refl _), hx1] at hc
     have hf := World.ownsRow.frozenAt (UB ho2) pos
     have hst := UC (World.ownsRow.stored (UB ho2) pos (.int .u8 (low (l.getD pos 0))))
     have hsucc := UC (lowered_succ l pos)
     have HX := UC hx1
     clear hx1
     have i65 : (65 : Int) ≤ (d1 : Int) := by omega
     have i90 : (d1 : Int) ≤ 90 := by omega
     go_wp2
     have e : ((d1 : Int) - 65 + 97) = low (l.getD pos 0) := by rw [UB HX, low_great _ i65 i90]; omega
     have hne : w1.heap.size ≠ g1 := by omega
     rw [e]
     refine ⟨⟨pos + 1, by omega, iter_setCell (UB hit2) hne, ?_, (UB hbw2).setCell hB1 _⟩, ?_⟩
     ·have := (UB hst).1
      rw [← List.map_set, UB hsucc] at this
      exact this
     ·rw [iterPos_eq (iter_setCell (UB hit2) hne), UB HP]; omega
   ·have hB : (d1 : Int) < 65 ∨ (90 : Int) < (d1 : Int) := by omega
    have hs2 := UC (lowered_same l pos (pos + d2) (by omega) (fun j h1 h2 => by
     rcases (UB hd).2.2 with ⟨_, h4, h3⟩ | ⟨_, h4⟩
     ·obtain rfl : j = pos := by omega
      omega
     ·have := h4 j h1 h2; omega))
    rcases hB with hB | hB
    ·go_wp2
     have hq := (UB hd).2.1
     rw [UB HN] at hq
     refine ⟨⟨pos + d2, hq, UB hit2, ?_, UB hbw2⟩, ?_⟩
     ·rw [UB hs2]; exact UB ho2
     ·rw [UB HP, UB HP2]; have := (UB hd).1; omega
    ·have hB' : ¬ (d1 : Int) ≤ 90 := by omega
     go_wp2
     have hq := (UB hd).2.1
     rw [UB HN] at hq
     refine ⟨⟨pos + d2, hq, UB hit2, ?_, UB hbw2⟩, ?_⟩
     ·rw [UB hs2]; exact UB ho2
     ·rw [UB HP, UB HP2]; have := (UB hd).1; omega
  ·have hp : ¬ pos < s.size := by omega
   have hnx : ∀ ty, (Instr.next (.pointer (some ⟨w1.heap.size, 0, none⟩)) true ty).run Tryz.prog wr = _ := fun ty => Lib.run_next_end_at wr w1.heap.size s pos ty hit hp
   go_wp2
   go_ret
   obtain rfl : pos = n := by omega
   refine ⟨_, rfl, ?_, hbw⟩
   unfold Own
   rw [lowered_length, UB HN]
   exact ho

theorem implLower_nil (w : World) :
  Calls Tryz.prog 43 #[.slice none 0 0] w fun e w' => ∃ v, e = .returned v ∧ Own w.heap.size 5 w' v [] ∧ Below w.heap.size w w' := by
 go_enter Tryz.func43, Tryz.ntmps43
 go_wp2_with fail
 refine (copyBytes_reads (l := []) (.inl ⟨rfl, rfl⟩) (by simp)).mono ?_
 rintro e w1 ⟨v1, rfl, o1, b1⟩
 have hcv := run_convert_bytes_nil (P := Tryz.prog) w1 22 5 Tryz.underlying22 Tryz.underlying5 0 0 9 Tryz.underlying9
 go_wp2
 go_loopw [4] (fun i wr => wr.heap[w1.heap.size]? = some (.stringIter ByteArray.empty 0) ∧ wr = w1.iter ByteArray.empty 0) (fun i wr => 0)
 case atStart => exact ⟨World.iter_heap w1 _ 0, rfl⟩
 case round =>
  obtain ⟨hit, rfl⟩ := hrel
  have hnx : ∀ ty, (Instr.next (.pointer (some ⟨w1.heap.size, 0, none⟩)) true ty).run Tryz.prog (w1.iter ByteArray.empty 0) = _ := fun ty => Lib.run_next_end_at _ w1.heap.size _ 0 ty hit (by simp)
  go_wp2
  go_ret
  exact ⟨_, rfl, o1.alloc _, b1.alloc b1.size _⟩

theorem implLower_has {v : Value} {l : List Int} {w : World} (h : Has w v l) (hl : l.length ≤ 1048576) (hb : ∀ k, 0 ≤ l.getD k 0 ∧ l.getD k 0 ≤ 255) :
  Calls Tryz.prog 43 #[v] w fun e w' => ∃ v', e = .returned v' ∧ Own w.heap.size 5 w' v' (lowered l l.length) ∧ Below w.heap.size w w' := by
 have h' := h
 rcases h with ⟨rfl, rfl⟩ | ⟨g, off, cap, rfl, _⟩
 ·exact implLower_nil w
 ·exact implLower_some g off cap l w h' hl hb

end Go.Proofs.YtbabmdiklefgcaaGreatDoor
