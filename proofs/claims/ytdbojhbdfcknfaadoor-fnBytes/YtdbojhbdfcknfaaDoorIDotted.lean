/-
  Contracts of the program's Dotted; strconv.AppendInt by the library's contract.
-/
import Derived.Test.YtdbojhbdfcknfaaDoorIPut32
import Derived.Test.YtdbojhbdfcknfaaDoorDots
import Derived.Test.YtdbojhbdfcknfaaDoorShelf
namespace Go.Proofs.YtdbojhbdfcknfaaDoor
open Go.RowKit
set_option linter.unusedVariables false

/-- The table that strconv reads, in a world. -/
def Pow10 (w : World) : Prop := Lib.TabIs Tryd.prog w "internal/strconv.uint64pow10" .u64 Lib.pow10Tab

theorem Pow10.below {w w' : World} (h : Pow10 w) (hb : Below w.heap.size w w') : Pow10 w' := Lib.tabBelow_of_tabIs h w' hb

theorem appendInt_own {B : Nat} {v : Value} {l : List Int} (x : Int) {w : World} (h : Own B 5 w v l) (hl : l.length ≤ 1048576) (h0 : 0 ≤ x) (h1 : x ≤ 255) (hB : B ≤ w.heap.size) (ht : Lib.TabBelow Tryd.prog B w "internal/strconv.uint64pow10" .u64 Lib.pow10Tab) :
    Calls Tryd.prog 46 #[v, .int .i64 x, .int .i64 10] w fun e w' => ∃ v', e = .returned v' ∧ Own B 5 w' v' (l ++ digs x) ∧ Below B w w' := by
  refine (Tryd.strconv_AppendInt_10 B l.length x (by omega) (by omega) v (l.map (Value.int .u8)) w h hB (by omega) ht).mono ?_
  rintro e w' ⟨v', rfl, o, b, _⟩
  refine ⟨v', rfl, ?_, b⟩
  rw [cells_digs x h0, itoa_digs x h0] at o
  unfold Own
  rw [List.length_append, List.map_append]
  exact o

set_option maxHeartbeats 400000 in
set_option maxRecDepth 100000 in
theorem implDotted_no (n : Int) (w : World) (hn : n < 0 ∨ 4294967295 < n) :
    Calls Tryd.prog 13 #[.int .i64 n] w fun e w' => e = .returned (.slice none 0 0) ∧ w = w' := by
  go_enter Tryd.func13, Tryd.ntmps13
  go_wp2_with fail
  refine (upTo_no _ hn).mono ?_
  rintro e w0 ⟨rfl, rfl⟩
  go_wp2
  go_ret
  exact ⟨rfl, rfl⟩

theorem own_dot (w : World) (B : Nat) (e : TypeId) (x : Int) (hB : B ≤ w.heap.size) : Own B e (w.alloc (.cells #[.int .u8 x] e)) (.slice (some ⟨w.heap.size, 0, none⟩) 1 1) [x] := own_lit w B e [x] hB (by simp [maxLen])

set_option maxHeartbeats 1000000 in
set_option maxRecDepth 100000 in
theorem implDotted_yes (n : Int) (w : World) (h0 : 0 ≤ n) (h1 : n ≤ 4294967295) (ht : Pow10 w) :
    Calls Tryd.prog 13 #[.int .i64 n] w fun e w' => ∃ v, e = .returned v ∧ Own w.heap.size 5 w' v (idot n 4) ∧ Below w.heap.size w w' := by
  have HT := hide ht
  clear ht
  go_enter Tryd.func13, Tryd.ntmps13
  go_wp2_with fail
  refine (upTo_yes _ h0 h1).mono ?_
  rintro e w0 ⟨rfl, rfl⟩
  go_wp2_with fail
  refine (implPut32_yes (B := 0) (v := .slice none 0 0) (l := []) n (World.ownsRow_nil _ _ _ _) (by simp) h0 h1).mono ?_
  rintro e w1 ⟨v1, rfl, o1, b1⟩
  rw [List.nil_append] at o1
  have ht1 := hide (Lib.tabBelow_of_tabIs ((unhide HT).below b1))
  rcases o1.form with ⟨_, he⟩ | ⟨g, cap, rfl, hg0, hg, hcap, _, hc, _⟩
  · simp at he
  have hc' : ∀ j, j < 4 → w1.cell? ⟨g, j, none⟩ = some (.int .u8 (part n j)) := fun j hj => hc j (by simpa using hj)
  have HC := hide hc'
  clear hc hc'
  simp only [List.length_cons, List.length_nil, Nat.zero_add, Nat.reduceAdd] at *
  go_wp2
  go_loopw [3, 12] (fun b i wr => ∃ j : Nat, j ≤ 4 ∧ i = .int .i64 j ∧ Own w1.heap.size 5 wr b (idot n j) ∧ Below w1.heap.size w1 wr) (fun _ i _ => 4 - (intOf i).toNat)
  case atStart => exact ⟨0, by omega, rfl, World.ownsRow_nil _ _ _ _, Below.refl _ _⟩
  case round =>
    obtain ⟨j, hj, rfl, ho, hb⟩ := hrel
    have hsz := hb.size
    by_cases hlt : j < 4
    · have hcj := (hb.cell (p := ⟨g, j, none⟩) hg).trans (unhide HC j hlt)
      have hpb := part_bd n j h0 h1
      have hidl := hide (idot_length n h0 h1 j)
      have hid : idot n (j + 1) = idot n j ++ (if 0 < j then [46] else []) ++ digs (part n j) := rfl
      have HID := hide hid
      clear hid
      generalize hpe : part n j = p at *
      have HPE := hide hpe
      clear hpe
      generalize hse : idot n j = S at *
      have HSE := hide hse
      clear hse
      by_cases hj0 : 0 < j
      · go_wp2_with (at_builtin; refine append_bytes rfl _ _ 22 5 rfl Tryd.underlying22 info_u8 w1.heap.size u3 _ S [46] rfl rfl (ho.alloc _) (own_dot wr 0 5 _ (Nat.zero_le _)).reads (by have := unhide hidl; simp; omega) (by simp; omega) ?_)
        intro v2 w2 o2 g2
        have b2 : Below w1.heap.size w1 w2 := (hb.alloc hsz _).grown g2 (by simp; omega) (fun k hk => (ho.lt k hk).1)
        clear g2
        have z2 := b2.size
        go_wp2_with fail
        refine (appendInt_own p o2 (by have := unhide hidl; simp; omega) hpb.1 hpb.2 z2 ((unhide ht1).on b2)).mono ?_
        rintro e w3 ⟨v3, rfl, o3, b3⟩
        go_wp2
        refine ⟨⟨j + 1, by omega, by go_num, ?_, b2.trans b3⟩, by simp [intOf]; omega⟩
        rw [unhide HID, if_pos hj0]; exact o3
      · go_wp2_with fail
        refine (appendInt_own p ho (by have := unhide hidl; omega) hpb.1 hpb.2 hsz ((unhide ht1).on hb)).mono ?_
        rintro e w3 ⟨v3, rfl, o3, b3⟩
        go_wp2
        refine ⟨⟨j + 1, by omega, by go_num, ?_, hb.trans b3⟩, by simp [intOf]; omega⟩
        rw [unhide HID, if_neg hj0, List.append_nil]; exact o3
    · obtain rfl : j = 4 := by omega
      go_wp2
      go_ret
      exact ⟨_, rfl, ho.mono b1.size, below_next b1 hb⟩

theorem implDotted_any (n : Int) {w : World} (ht : Pow10 w) :
    Calls Tryd.prog 13 #[.int .i64 n] w fun e w' => ∃ v, e = .returned v ∧ Own w.heap.size 5 w' v (dotted n) ∧ Below w.heap.size w w' := by
  by_cases h : 0 ≤ n ∧ n ≤ 4294967295
  · have e : dotted n = idot n 4 := by unfold dotted; rw [if_pos h]
    rw [e]; exact implDotted_yes n w h.1 h.2 ht
  · have e : dotted n = [] := by unfold dotted; rw [if_neg h]
    rw [e]
    exact (implDotted_no n w (by omega)).mono fun e w' ⟨he, hw⟩ => ⟨_, he, by subst hw; exact World.ownsRow_nil _ _ _ _, hw ▸ Below.refl _ _⟩
end Go.Proofs.YtdbojhbdfcknfaaDoor
