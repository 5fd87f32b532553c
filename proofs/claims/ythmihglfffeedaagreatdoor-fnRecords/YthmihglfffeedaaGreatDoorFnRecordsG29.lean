/-
  Contracts of the program's Lower. Contracts of the program's labelSign and LabelOk. Contracts of the program's NameOk.
-/
import Derived.Test.YthmihglfffeedaaGreatDoorFnRecordsG28
import Derived.Test.YthmihglfffeedaaGreatDoorFnRecordsG05
import Derived.Test.YthmihglfffeedaaGreatDoorFnRecordsG00
import Derived.Test.YthmihglfffeedaaGreatDoorFnRecordsG02
namespace Go.Proofs.YthmihglfffeedaaGreatDoor
open Go.RowKit
set_option linter.unusedVariables false
set_option maxHeartbeats 400000
set_option maxRecDepth 100000

theorem implLower_some (g off cap : Nat) (l : List Int) (w : World) (hh : Has w (.slice (some ⟨g, off, none⟩) l.length cap) l) (hl : l.length ≤ 1048576) (hb : ∀ k, 0 ≤ l.getD k 0 ∧ l.getD k 0 ≤ 255) :
  Calls Tryz.prog 67 #[.slice (some ⟨g, off, none⟩) l.length cap] w fun e w' => ∃ v, e = .returned v ∧ Own w.heap.size 5 w' v (lowered l l.length) ∧ Below w.heap.size w w' := by
 have hl2 : l.length ≤ 2097152 := by omega
 have h := UC hh
 clear hh
 have HB := UC hb
 clear hb
 generalize hn : l.length = n at *
 have HN := UC hn
 clear hn
 have hsz := strOfNums_size l
 rw [UB HN] at hsz
 go_enter Tryz.func67, Tryz.ntmps67
 go_wp2_with fail
 refine (copyBytes_reads (UB h).reads (by rw [UB HN]; exact hl2)).mono ?_
 rintro e w1 ⟨v1, rfl, o1, b1⟩
 have hcv := conv_has ((UB h).below b1)
 generalize hs : strOfNums l = s at *
 have HS := UC hs
 clear hs
 have o2 : w1.ownsRow w.heap.size 5 1 v1 n ((lowered l 0).map (Value.int .u8)) := by
  rw [lowered_zero]; have o2 := o1; unfold Own at o2; rw [UB HN] at o2; exact o2
 go_wp2
 go_loopw [4] (fun i wr => ∃ pos : Nat, pos ≤ n ∧ wr.heap[w1.heap.size]? = some (.stringIter s pos) ∧ wr.ownsRow w.heap.size 5 1 v1 n ((lowered l pos).map (Value.int .u8)) ∧ Below w.heap.size w wr) (fun i wr => n - wr.iterPos w1.heap.size)
 case atStart => exact ⟨0, Nat.zero_le _, World.iter_heap w1 s 0, World.ownsRow.alloc o2 _, b1.alloc b1.size _⟩
 case round =>
  obtain ⟨pos, hpos, hit, ho, hbw⟩ := hrel
  by_cases hlt : pos < n
  ·have hp : pos < s.size := by omega
   have hnx : ∀ ty, (Instr.next (.pointer (some ⟨w1.heap.size, 0, none⟩)) true ty).run Tryz.prog wr = _ := fun ty => Lib.run_next_any_at wr w1.heap.size s pos ty hit hp
   have hd := UC (decode_l l (UB HB) pos (by rw [UB HN]; exact hlt))
   rw [UB HS] at hd
   have hle := decode_le s pos
   generalize hde : Utf8.decode s pos = d at *
   clear hde
   obtain ⟨d1, d2⟩ := d
   have ho2 := UC (ownsRow_iter ho hit (pos + d2))
   have hit2 := UC (Lib.iterAt_heap wr w1.heap.size s pos (pos + d2) hit)
   have hbw2 := UC (Lib.below_iterAt hbw b1.size s (pos + d2))
   simp only at hnx hle hd
   generalize hW : wr.iterAt w1.heap.size s (pos + d2) = W1 at *
   have HW := UC hW
   clear hW
   have HP := UC (iterPos_eq hit)
   have HP2 := UC (iterPos_eq (UB hit2))
   clear hit ho hbw
   by_cases hA : 65 ≤ d1 ∧ d1 ≤ 90
   ·obtain ⟨hA1, hA2⟩ := hA
    obtain ⟨hx1, rfl⟩ : l.getD pos 0 = (d1 : Int) ∧ d2 = 1 := by
     rcases (UB hd).2.2 with ⟨_, h2, h3⟩ | ⟨h2, _⟩
     ·exact ⟨h2.symm, h3⟩
     ·omega
    rcases o1.form with ⟨rfl, rfl⟩ | ⟨g1, cap1, hv1, hB1, hlt1, _⟩
    ·have := UB HN; simp at this; omega
    ·rw [UB HN] at hv1
     subst hv1
     have hc := World.ownsRow.cellAt (UB ho2) pos (by omega)
     rw [map_at _ _ (by rw [lowered_length, UB HN]; exact hlt), lowered_getD _ _ _ (Nat.le_refl _), hx1] at hc
     have hf := World.ownsRow.frozenAt (UB ho2) pos
     have hst := UC (World.ownsRow.stored (UB ho2) pos (.int .u8 (low (l.getD pos 0))))
     have hsucc := UC (lowered_succ l pos)
     have HX := UC hx1
     clear hx1
     have i65 : (65 : Int) ≤ (d1 : Int) := by omega
     have i90 : (d1 : Int) ≤ 90 := by omega
     go_wp2
     have e : ((d1 : Int) - 65 + 97) = low (l.getD pos 0) := by rw [UB HX, low_great _ i65 i90]; omega
     have hne : w1.heap.size ≠ g1 := by omega
     rw [e]
     refine ⟨⟨pos + 1, by omega, iter_setCell (UB hit2) hne, ?_, (UB hbw2).setCell hB1 _⟩, ?_⟩
     ·have := (UB hst).1
      rw [← List.map_set, UB hsucc] at this
      exact this
     ·rw [iterPos_eq (iter_setCell (UB hit2) hne), UB HP]; omega
   ·have hB : (d1 : Int) < 65 ∨ (90 : Int) < (d1 : Int) := by omega
    have hs2 := UC (lowered_same l pos (pos + d2) (by omega) (fun j h1 h2 => by
     rcases (UB hd).2.2 with ⟨_, h4, h3⟩ | ⟨_, h4⟩
     ·obtain rfl : j = pos := by omega
      omega
     ·have := h4 j h1 h2; omega))
    rcases hB with hB | hB
    ·go_wp2
     have hq := (UB hd).2.1
     rw [UB HN] at hq
     refine ⟨⟨pos + d2, hq, UB hit2, ?_, UB hbw2⟩, ?_⟩
     ·rw [UB hs2]; exact UB ho2
     ·rw [UB HP, UB HP2]; have := (UB hd).1; omega
    ·have hB' : ¬ (d1 : Int) ≤ 90 := by omega
     go_wp2
     have hq := (UB hd).2.1
     rw [UB HN] at hq
     refine ⟨⟨pos + d2, hq, UB hit2, ?_, UB hbw2⟩, ?_⟩
     ·rw [UB hs2]; exact UB ho2
     ·rw [UB HP, UB HP2]; have := (UB hd).1; omega
  ·have hp : ¬ pos < s.size := by omega
   have hnx : ∀ ty, (Instr.next (.pointer (some ⟨w1.heap.size, 0, none⟩)) true ty).run Tryz.prog wr = _ := fun ty => Lib.run_next_end_at wr w1.heap.size s pos ty hit hp
   go_wp2
   go_ret
   obtain rfl : pos = n := by omega
   refine ⟨_, rfl, ?_, hbw⟩
   unfold Own
   rw [lowered_length, UB HN]
   exact ho

theorem implLower_nil (w : World) :
  Calls Tryz.prog 67 #[.slice none 0 0] w fun e w' => ∃ v, e = .returned v ∧ Own w.heap.size 5 w' v [] ∧ Below w.heap.size w w' := by
 go_enter Tryz.func67, Tryz.ntmps67
 go_wp2_with fail
 refine (copyBytes_reads (l := []) (.inl ⟨rfl, rfl⟩) (by simp)).mono ?_
 rintro e w1 ⟨v1, rfl, o1, b1⟩
 have hcv := run_convert_bytes_nil (P := Tryz.prog) w1 22 5 Tryz.underlying22 Tryz.underlying5 0 0 9 Tryz.underlying9
 go_wp2
 go_loopw [4] (fun i wr => wr.heap[w1.heap.size]? = some (.stringIter ByteArray.empty 0) ∧ wr = w1.iter ByteArray.empty 0) (fun i wr => 0)
 case atStart => exact ⟨World.iter_heap w1 _ 0, rfl⟩
 case round =>
  obtain ⟨hit, rfl⟩ := hrel
  have hnx : ∀ ty, (Instr.next (.pointer (some ⟨w1.heap.size, 0, none⟩)) true ty).run Tryz.prog (w1.iter ByteArray.empty 0) = _ := fun ty => Lib.run_next_end_at _ w1.heap.size _ 0 ty hit (by simp)
  go_wp2
  go_ret
  exact ⟨_, rfl, o1.alloc _, b1.alloc b1.size _⟩

theorem implLower_has {v : Value} {l : List Int} {w : World} (h : Has w v l) (hl : l.length ≤ 1048576) (hb : ∀ k, 0 ≤ l.getD k 0 ∧ l.getD k 0 ≤ 255) :
  Calls Tryz.prog 67 #[v] w fun e w' => ∃ v', e = .returned v' ∧ Own w.heap.size 5 w' v' (lowered l l.length) ∧ Below w.heap.size w w' := by
 have h' := h
 rcases h with ⟨rfl, rfl⟩ | ⟨g, off, cap, rfl, _⟩
 ·exact implLower_nil w
 ·exact implLower_some g off cap l w h' hl hb

theorem implLower_any {B : Nat} {v : Value} {l : List Int} {w : World} (h : Own B 5 w v l) (hl : l.length ≤ 1048576) (hb : ∀ k, 0 ≤ l.getD k 0 ∧ l.getD k 0 ≤ 255) :
  Calls Tryz.prog 67 #[v] w fun e w' => ∃ v', e = .returned v' ∧ Own w.heap.size 5 w' v' (lowered l l.length) ∧ Below w.heap.size w w' := implLower_has h.has hl hb
set_option maxHeartbeats 400000
set_option maxRecDepth 100000

theorem sign_cases (c : Int) : (97 ≤ c ∧ c ≤ 122) ∨ (97 ≤ c ∧ 122 < c) ∨ (c < 97 ∧ 48 ≤ c ∧ c ≤ 57) ∨ (c < 97 ∧ 48 ≤ c ∧ 57 < c ∧ c ≠ 45) ∨ (c < 97 ∧ c < 48 ∧ c = 45) ∨ (c < 97 ∧ c < 48 ∧ c ≠ 45) := by omega

theorem labelSign_any (c : Int) (w : World) :
  Calls Tryz.prog 70 #[.int .u8 c] w fun e w' => e = .returned (.bool (signOk c)) ∧ w = w' := by
 rcases sign_cases c with ⟨h1, h2⟩ | ⟨h1, h2⟩ | ⟨h1, h2, h3⟩ | ⟨h1, h2, h3, h4⟩ | ⟨h1, h2, rfl⟩ | ⟨h1, h2, h3⟩
 ·have hs : signOk c = true := decide_eq_true (by omega)
  rw [hs]
  go_enter Tryz.func70, Tryz.ntmps70
  go_wp2
  go_ret
  exact ⟨rfl, rfl⟩
 ·have hs : signOk c = false := decide_eq_false (by omega)
  rw [hs]
  have h5 : 48 ≤ c := by omega
  have h6 : ¬ c ≤ 57 := by omega
  have h7 : ¬ c ≤ 122 := by omega
  have h8 : (c == 45) = false := by simp; omega
  go_enter Tryz.func70, Tryz.ntmps70
  go_wp2
  go_ret
  exact ⟨rfl, rfl⟩
 ·have hs : signOk c = true := decide_eq_true (by omega)
  rw [hs]
  have h5 : ¬ 97 ≤ c := by omega
  go_enter Tryz.func70, Tryz.ntmps70
  go_wp2
  go_ret
  exact ⟨rfl, rfl⟩
 ·have hs : signOk c = false := decide_eq_false (by omega)
  rw [hs]
  have h5 : ¬ 97 ≤ c := by omega
  have h6 : ¬ c ≤ 57 := by omega
  have h8 : (c == 45) = false := by simp; omega
  go_enter Tryz.func70, Tryz.ntmps70
  go_wp2
  go_ret
  exact ⟨rfl, rfl⟩
 ·have hs : signOk 45 = true := rfl
  rw [hs]
  go_enter Tryz.func70, Tryz.ntmps70
  go_wp2
  go_ret
  exact ⟨rfl, rfl⟩
 ·have hs : signOk c = false := decide_eq_false (by omega)
  rw [hs]
  have h5 : ¬ 97 ≤ c := by omega
  have h6 : ¬ 48 ≤ c := by omega
  have h8 : (c == 45) = false := by simp; omega
  go_enter Tryz.func70, Tryz.ntmps70
  go_wp2
  go_ret
  exact ⟨rfl, rfl⟩

theorem implLabelOk_has {v : Value} {l : List Int} {w : World} (h : Has w v l) :
  Calls Tryz.prog 53 #[v] w fun e w' => e = .returned (.bool (labelOk l)) ∧ w = w' := by
 have hbd := h.bound
 unfold maxLen at hbd
 obtain ⟨a, cap, rfl, hL⟩ := h.form
 by_cases h0 : l.length = 0
 ·rw [labelOk_short (by omega), h0]
  go_enter Tryz.func53, Tryz.ntmps53
  go_wp2
  go_ret
  exact ⟨rfl, rfl⟩
 ·by_cases h1 : 15 < l.length
  ·rw [labelOk_short (by omega)]
   generalize hn : l.length = n at *
   have h3 : ((n : Int) == 0) = false := by simp; omega
   go_enter Tryz.func53, Tryz.ntmps53
   go_wp2
   go_ret
   exact ⟨rfl, rfl⟩
  ·have h2 : l.length ≤ 15 := by omega
   have hyes := UC (fun (hs : ∀ j, j < l.length → signOk (l.getD j 0) = true) => labelOk_yes (l := l) (by omega) h2 hs)
   have hno := UC (fun (j : Nat) (hj : j < l.length) (hs : signOk (l.getD j 0) = false) => labelOk_sign hj hs)
   generalize hok : labelOk l = ok at *
   clear hok
   generalize hn : l.length = n at *
   have HN := UC hn
   clear hn
   have h3 : ((n : Int) == 0) = false := by simp; omega
   go_enter Tryz.func53, Tryz.ntmps53
   go_wp2
   go_loop [15] (fun i => ∃ k : Nat, k ≤ n ∧ i = .int .i64 k ∧ Hid (∀ j, j < k → signOk (l.getD j 0) = true)) (fun i => n - (intOf i).toNat)
   case atStart => exact ⟨0, Nat.zero_le _, rfl, UC (fun j hj => absurd hj (Nat.not_lt_zero _))⟩
   case round =>
    obtain ⟨k, hk, rfl, hall⟩ := hrel
    by_cases hlt : k < n
    ·obtain ⟨b, off, rfl, hbl, hc⟩ := hL.here (k := k) (by rw [UB HN]; exact hlt)
     have hone := UC (fun (hs : signOk (l.getD k 0) = true) => (show ∀ j, j < k + 1 → signOk (l.getD j 0) = true from fun j hj => by
      by_cases e : j = k
      ·subst e; exact hs
      ·exact UB hall j (by omega)))
     have hnok := UC (fun (hs : signOk (l.getD k 0) = false) => UB hno k hlt hs)
     generalize hx : l.getD k 0 = x at *
     go_wp2_with fail
     refine (labelSign_any x _).mono ?_
     rintro e w1 ⟨rfl, rfl⟩
     cases hs : signOk x with
     | true =>
      go_wp2
      exact ⟨⟨k + 1, by omega, by go_num, UC (UB hone hs)⟩, by simp [intOf]; omega⟩
     | false =>
      have hq := UB hnok hs
      subst hq
      go_wp2
      go_ret
      exact ⟨rfl, rfl⟩
    ·obtain rfl : k = n := by omega
     have hq := UB hyes (UB hall)
     subst hq
     go_wp2
     go_ret
     exact ⟨rfl, rfl⟩
set_option maxHeartbeats 400000 in
set_option maxRecDepth 100000 in
theorem VP {v : Value} {n : List (List Int)} {w : World} (h : HasL w v n) :
  Calls Tryz.prog 25 #[.agg #[v]] w fun e w' => e = .returned (.bool (nameOk n)) ∧ Below w.heap.size w w' := by
 obtain ⟨a, cap, rfl, hl, hm⟩ := h.form
 unfold maxLen at hm
 by_cases h1 : 6 < n.length
 ·rw [nameOk_long h1]
  have H := UC h
  clear h
  generalize hn : n.length = m at *
  have HN := UC hn
  clear hn
  go_enter Tryz.func25, Tryz.ntmps25
  go_wp2
  go_ret
  exact ⟨rfl, UI _⟩
 ·have h2 : n.length ≤ 6 := by omega
  have hA := h.below (UI (.cells #[.slice a n.length cap] 25))
  have H := UC h
  clear h
  have hyes := UC (fun (hs : ∀ j, j < n.length → labelOk (n.getD j []) = true) => nameOk_yes (n := n) h2 hs)
  have hno := UC (fun (j : Nat) (hj : j < n.length) (hs : labelOk (n.getD j []) = false) => nameOk_label hj hs)
  generalize hok : nameOk n = ok at *
  clear hok
  generalize hn : n.length = m at *
  have HN := UC hn
  clear hn
  go_enter Tryz.func25, Tryz.ntmps25
  go_wp2
  go_loop [12] (fun i => ∃ k : Nat, k ≤ m ∧ i = .int .i64 k ∧ Hid (∀ j, j < k → labelOk (n.getD j []) = true)) (fun i => m - (intOf i).toNat)
  case atStart => exact ⟨0, Nat.zero_le _, rfl, UC (fun j hj => absurd hj (Nat.not_lt_zero _))⟩
  case round =>
   obtain ⟨k, hk, rfl, hall⟩ := hrel
   by_cases hlt : k < m
   ·obtain ⟨b, off, u, rfl, hbl, hc, hu⟩ := hA.here (k := k) (by rw [UB HN]; exact hlt)
    have hone := UC (fun (hs : labelOk (n.getD k []) = true) => (show ∀ j, j < k + 1 → labelOk (n.getD j []) = true from fun j hj => by
      by_cases e : j = k
      ·subst e; exact hs
      ·exact UB hall j (by omega)))
    have hnok := UC (fun (hs : labelOk (n.getD k []) = false) => UB hno k hlt hs)
    generalize hx : n.getD k [] = x at *
    have HU := UC hu
    obtain ⟨ua, uc, rfl, _⟩ := hu.form
    clear hu
    go_wp2_with fail
    refine (implLabelOk_has (UB HU)).mono ?_
    rintro e w1 ⟨rfl, rfl⟩
    cases hs : labelOk x with
    | true =>
     go_wp2
     exact ⟨⟨k + 1, by omega, by go_num, UC (UB hone hs)⟩, by simp [intOf]; omega⟩
    | false =>
     have hq := UB hnok hs
     subst hq
     go_wp2
     go_ret
     exact ⟨rfl, UI _⟩
   ·obtain rfl : k = m := by omega
    have hq := UB hyes (UB hall)
    subst hq
    go_wp2
    go_ret
    exact ⟨rfl, UI _⟩
end Go.Proofs.YthmihglfffeedaaGreatDoor
