/-
  Plain facts: one byte, made anew. No program is named here. Contracts of the specification's l1digits (of a byte) and l1dotted.
-/
import Derived.Test.YtkmjghecjlgjpaaDoorReverseG00
import Derived.Test.YtkmjghecjlgjpaaDoorReverseG02
namespace Go.Proofs.YtkmjghecjlgjpaaDoor
open Go.RowKit

theorem own_byte1 (w : World) (B : Nat) (e : TypeId) (x : Int) (hB : B ≤ w.heap.size) : Own B e (w.alloc (.cells #[.int .u8 x] e)) (.slice (some ⟨w.heap.size, 0, none⟩) 1 1) [x] := own_lit w B e [x] hB (by simp [maxLen])
end Go.Proofs.YtkmjghecjlgjpaaDoor

namespace Go.Proofs.YtkmjghecjlgjpaaDoor
open Go.RowKit
set_option linter.unusedVariables false


set_option maxHeartbeats 400000 in
set_option maxRecDepth 100000 in
theorem l1digits_lt (x : Int) (w : World) (h0 : 0 ≤ x) (h1 : x < 10) :
    Calls Tryd.prog 85 #[.int .i64 x] w fun e w' => ∃ v, e = .returned v ∧ Own w.heap.size 5 w' v (digs x) ∧ Below w.heap.size w w' := by
  rw [digs_lt x h0 h1]
  go_enter Tryd.func85, Tryd.ntmps85
  go_wp2
  go_ret
  exact ⟨_, rfl, own_byte1 w _ _ _ (Nat.le_refl _), (Below.refl _ _).alloc (Nat.le_refl _) _⟩

set_option maxHeartbeats 400000 in
set_option maxRecDepth 100000 in
theorem l1digits_ge (x : Int) (w : World) (h0 : 10 ≤ x) (h1 : x ≤ 255)
    (hrec : Hid (∀ w : World, Calls Tryd.prog 85 #[.int .i64 (x / 10)] w fun e w' => ∃ v, e = .returned v ∧ Own w.heap.size 5 w' v (digs (x / 10)) ∧ Below w.heap.size w w')) :
    Calls Tryd.prog 85 #[.int .i64 x] w fun e w' => ∃ v, e = .returned v ∧ Own w.heap.size 5 w' v (digs x) ∧ Below w.heap.size w w' := by
  have hd := digs_length (x / 10) (by omega) (by omega)
  rw [digs_ge x h0]
  generalize hD : digs (x / 10) = D at *
  have HD := hide hD
  clear hD
  go_enter Tryd.func85, Tryd.ntmps85
  go_wp2_with fail
  refine (unhide hrec _).mono ?_
  rintro e w1 ⟨v1, rfl, o1, b1⟩
  have hsz := b1.size
  go_wp2_with (at_builtin; refine append_bytes rfl _ _ 22 5 rfl Tryd.underlying22 info_u8 w.heap.size v1 _ D [48 + x % 10] rfl rfl (o1.alloc _) (own_byte1 w1 0 5 _ (Nat.zero_le _)).reads (by simp; omega) (by simp; omega) ?_)
  intro v' w2 hown hgrow
  go_wp2
  go_ret
  exact ⟨v', rfl, hown, (b1.alloc hsz _).grown hgrow (by simp; omega) (fun k hk => (o1.lt k hk).1)⟩

theorem l1digits_any (x : Int) (w : World) (h0 : 0 ≤ x) (h1 : x ≤ 255) :
    Calls Tryd.prog 85 #[.int .i64 x] w fun e w' => ∃ v, e = .returned v ∧ Own w.heap.size 5 w' v (digs x) ∧ Below w.heap.size w w' := by
  by_cases a : x < 10
  · exact l1digits_lt x w h0 a
  · refine l1digits_ge x w (by omega) h1 (hide fun w => ?_)
    by_cases b : x / 10 < 10
    · exact l1digits_lt _ w (by omega) b
    · exact l1digits_ge _ w (by omega) (by omega) (hide fun w => l1digits_lt _ w (by omega) (by omega))

set_option maxHeartbeats 1000000 in
set_option maxRecDepth 100000 in
theorem l1dotted_any (n : Int) (w : World) (h0 : 0 ≤ n) (h1 : n ≤ 4294967295) :
    Calls Tryd.prog 89 #[.int .i64 n] w fun e w' => ∃ v, e = .returned v ∧ Own w.heap.size 5 w' v (sdot n 4) ∧ Below w.heap.size w w' := by
  go_enter Tryd.func89, Tryd.ntmps89
  go_wp2
  go_loopw [3, 4] (fun b i wr => ∃ j : Nat, j ≤ 4 ∧ i = .int .i64 (3 - j) ∧ Own w.heap.size 5 wr b (sdot n j) ∧ Below w.heap.size w wr) (fun _ i _ => (intOf i + 1).toNat)
  case atStart => exact ⟨0, by omega, rfl, World.ownsRow_nil _ _ _ _, Below.refl _ _⟩
  case round =>
    obtain ⟨j, hj, rfl, ho, hb⟩ := hrel
    have hsd := hide (sdot_length n h0 h1 j)
    have hsz := hb.size
    match j, hj with
    | 0, _ =>
      rw [show ((3 : Int) - ((0 : Nat) : Int)) = 3 from rfl]
      have hL := unhide hsd
      have hp : bits .and .i64 (n / 16777216) 255 = part n 0 := by rw [and_255 _ (by omega) (by omega)]; simp [part, parts]; omega
      have HPT := hide hp
      clear hp
      have hs1 : sdot n (0 + 1) = sdot n 0 ++ digs (part n 0) ++ [46] := by simp [sdot]
      have HS1 := hide hs1
      clear hs1
      have hpb := part_bd n 0 h0 h1
      have hdl := digs_length _ hpb.1 hpb.2
      generalize hse : sdot n 0 = S at *
      have HSE := hide hse
      clear hse
      generalize hpe : part n 0 = p at *
      have HPE := hide hpe
      clear hpe
      have HDL := hide hdl
      clear hdl
      go_wp2_with fail
      rw [unhide HPT]
      refine (l1digits_any p _ hpb.1 hpb.2).mono ?_
      rintro e w1 ⟨v1, rfl, o1, b1⟩
      have c1 := (ho.below b1)
      have d1 := hb.trans (b1.mono hsz)
      have z1 := d1.size
      go_wp2_with (at_builtin; refine append_bytes rfl _ _ 22 5 rfl Tryd.underlying22 info_u8 w.heap.size u3 v1 S (digs p) rfl rfl c1 o1.reads (by have := unhide HDL; omega) z1 ?_)
      intro v2 w2 o2 g2
      have b2 : Below w.heap.size w w2 := d1.grown g2 z1 (fun k hk => (c1.lt k hk).1)
      clear g2
      have z2 := b2.size
      go_wp2_with (at_builtin; refine append_bytes rfl _ _ 22 5 rfl Tryd.underlying22 info_u8 w.heap.size v2 _ (S ++ digs p) [46] rfl rfl (o2.alloc _) (own_byte1 w2 0 5 _ (Nat.zero_le _)).reads (by have := unhide HDL; simp; omega) (by simp; omega) ?_)
      intro v3 w3 o3 g3
      have b3 : Below w.heap.size w w3 := (b2.alloc z2 _).grown g3 (by simp; omega) (fun k hk => (o2.lt k hk).1)
      clear g3
      go_wp2
      refine ⟨⟨0 + 1, by omega, rfl, ?_, b3⟩, by simp [intOf]⟩
      rw [unhide HS1, List.append_assoc]; exact o3
    | 1, _ =>
      rw [show ((3 : Int) - ((1 : Nat) : Int)) = 2 from rfl]
      have hL := unhide hsd
      have hp : bits .and .i64 (n / 65536) 255 = part n 1 := by rw [and_255 _ (by omega) (by omega)]; simp [part, parts]
      have HPT := hide hp
      clear hp
      have hs1 : sdot n (1 + 1) = sdot n 1 ++ digs (part n 1) ++ [46] := by simp [sdot]
      have HS1 := hide hs1
      clear hs1
      have hpb := part_bd n 1 h0 h1
      have hdl := digs_length _ hpb.1 hpb.2
      generalize hse : sdot n 1 = S at *
      have HSE := hide hse
      clear hse
      generalize hpe : part n 1 = p at *
      have HPE := hide hpe
      clear hpe
      have HDL := hide hdl
      clear hdl
      go_wp2_with fail
      rw [unhide HPT]
      refine (l1digits_any p _ hpb.1 hpb.2).mono ?_
      rintro e w1 ⟨v1, rfl, o1, b1⟩
      have c1 := (ho.below b1)
      have d1 := hb.trans (b1.mono hsz)
      have z1 := d1.size
      go_wp2_with (at_builtin; refine append_bytes rfl _ _ 22 5 rfl Tryd.underlying22 info_u8 w.heap.size u3 v1 S (digs p) rfl rfl c1 o1.reads (by have := unhide HDL; omega) z1 ?_)
      intro v2 w2 o2 g2
      have b2 : Below w.heap.size w w2 := d1.grown g2 z1 (fun k hk => (c1.lt k hk).1)
      clear g2
      have z2 := b2.size
      go_wp2_with (at_builtin; refine append_bytes rfl _ _ 22 5 rfl Tryd.underlying22 info_u8 w.heap.size v2 _ (S ++ digs p) [46] rfl rfl (o2.alloc _) (own_byte1 w2 0 5 _ (Nat.zero_le _)).reads (by have := unhide HDL; simp; omega) (by simp; omega) ?_)
      intro v3 w3 o3 g3
      have b3 : Below w.heap.size w w3 := (b2.alloc z2 _).grown g3 (by simp; omega) (fun k hk => (o2.lt k hk).1)
      clear g3
      go_wp2
      refine ⟨⟨1 + 1, by omega, rfl, ?_, b3⟩, by simp [intOf]⟩
      rw [unhide HS1, List.append_assoc]; exact o3
    | 2, _ =>
      rw [show ((3 : Int) - ((2 : Nat) : Int)) = 1 from rfl]
      have hL := unhide hsd
      have hp : bits .and .i64 (n / 256) 255 = part n 2 := by rw [and_255 _ (by omega) (by omega)]; simp [part, parts]
      have HPT := hide hp
      clear hp
      have hs1 : sdot n (2 + 1) = sdot n 2 ++ digs (part n 2) ++ [46] := by simp [sdot]
      have HS1 := hide hs1
      clear hs1
      have hpb := part_bd n 2 h0 h1
      have hdl := digs_length _ hpb.1 hpb.2
      generalize hse : sdot n 2 = S at *
      have HSE := hide hse
      clear hse
      generalize hpe : part n 2 = p at *
      have HPE := hide hpe
      clear hpe
      have HDL := hide hdl
      clear hdl
      go_wp2_with fail
      rw [unhide HPT]
      refine (l1digits_any p _ hpb.1 hpb.2).mono ?_
      rintro e w1 ⟨v1, rfl, o1, b1⟩
      have c1 := (ho.below b1)
      have d1 := hb.trans (b1.mono hsz)
      have z1 := d1.size
      go_wp2_with (at_builtin; refine append_bytes rfl _ _ 22 5 rfl Tryd.underlying22 info_u8 w.heap.size u3 v1 S (digs p) rfl rfl c1 o1.reads (by have := unhide HDL; omega) z1 ?_)
      intro v2 w2 o2 g2
      have b2 : Below w.heap.size w w2 := d1.grown g2 z1 (fun k hk => (c1.lt k hk).1)
      clear g2
      have z2 := b2.size
      go_wp2_with (at_builtin; refine append_bytes rfl _ _ 22 5 rfl Tryd.underlying22 info_u8 w.heap.size v2 _ (S ++ digs p) [46] rfl rfl (o2.alloc _) (own_byte1 w2 0 5 _ (Nat.zero_le _)).reads (by have := unhide HDL; simp; omega) (by simp; omega) ?_)
      intro v3 w3 o3 g3
      have b3 : Below w.heap.size w w3 := (b2.alloc z2 _).grown g3 (by simp; omega) (fun k hk => (o2.lt k hk).1)
      clear g3
      go_wp2
      refine ⟨⟨2 + 1, by omega, rfl, ?_, b3⟩, by simp [intOf]⟩
      rw [unhide HS1, List.append_assoc]; exact o3
    | 3, _ =>
      rw [show ((3 : Int) - ((3 : Nat) : Int)) = 0 from rfl]
      have hL := unhide hsd
      have hp : bits .and .i64 (n) 255 = part n 3 := by rw [and_255 _ (by omega) (by omega)]; simp [part, parts]
      have HPT := hide hp
      clear hp
      have hs1 : sdot n (3 + 1) = sdot n 3 ++ digs (part n 3) ++ [] := by simp [sdot]
      have HS1 := hide hs1
      clear hs1
      have hpb := part_bd n 3 h0 h1
      have hdl := digs_length _ hpb.1 hpb.2
      generalize hse : sdot n 3 = S at *
      have HSE := hide hse
      clear hse
      generalize hpe : part n 3 = p at *
      have HPE := hide hpe
      clear hpe
      have HDL := hide hdl
      clear hdl
      go_wp2_with fail
      rw [unhide HPT]
      refine (l1digits_any p _ hpb.1 hpb.2).mono ?_
      rintro e w1 ⟨v1, rfl, o1, b1⟩
      have c1 := (ho.below b1)
      have d1 := hb.trans (b1.mono hsz)
      have z1 := d1.size
      go_wp2_with (at_builtin; refine append_bytes rfl _ _ 22 5 rfl Tryd.underlying22 info_u8 w.heap.size u3 v1 S (digs p) rfl rfl c1 o1.reads (by have := unhide HDL; omega) z1 ?_)
      intro v2 w2 o2 g2
      have b2 : Below w.heap.size w w2 := d1.grown g2 z1 (fun k hk => (c1.lt k hk).1)
      clear g2
      have z2 := b2.size
      go_wp2
      refine ⟨⟨3 + 1, by omega, rfl, ?_, b2⟩, by simp [intOf]⟩
      rw [unhide HS1, List.append_nil]; exact o2
    | 4, _ =>
      rw [show ((3 : Int) - ((4 : Nat) : Int)) = -1 from rfl]
      go_wp2
      go_ret
      exact ⟨_, rfl, ho, hb⟩
end Go.Proofs.YtkmjghecjlgjpaaDoor
