/-
  Contract of the specification's DrawNameGet: a drawn message that may hold names, and a place in it. Plain facts: a name comes back from its bytes, wherever they stand, and by a pointer to them. No program is named here.
-/
import Derived.Test.YtaconefooicplaaFnNameWireG15
import Derived.Test.YtaconefooicplaaFnNameWireG16
import Derived.Test.YtaconefooicplaaFnNameWireG11
import Derived.Test.YtaconefooicplaaFnNameWireG17
import Derived.Test.YtaconefooicplaaFnNameWireG27
import Derived.Test.YtaconefooicplaaFnNameWireG02
import Derived.Test.YtaconefooicplaaFnNameWireG07
import Derived.Test.YtaconefooicplaaFnNameWireG19
namespace Go.Proofs.Ytaconefooicplaa
open Go.RowKit
set_option linter.unusedVariables false

theorem wrap_sub2 (L : Nat) (h : L ≤ 1000) : IntKind.i64.wrap ((L : Int) - 2) = (L : Int) - 2 := by
  match L, h with
  | 0, _ => decide
  | 1, _ => decide
  | L + 2, h =>
    rw [show (((L + 2 : Nat) : Int) - 2) = (L : Nat) by omega]
    exact wrap_small _ (by omega)
theorem wire_bytes {n : List (List Int)} (h : nameOk n = true) : ∀ x ∈ wire n, 0 ≤ x ∧ x ≤ 255 := by
  intro x hx
  unfold wire wires at hx
  rw [List.take_length] at hx
  simp only [List.mem_append, List.mem_flatten, List.mem_map] at hx
  rcases hx with ⟨y, ⟨l, hl, rfl⟩, hx⟩ | hx
  · obtain ⟨j, hj, rfl⟩ := List.getElem_of_mem hl
    have hlk := (nameOk_parts h).2 j hj
    rw [List.getD_eq_getElem?_getD, List.getElem?_eq_getElem hj, Option.getD_some] at hlk
    have hll := labelOk_length hlk
    rcases List.mem_cons.1 hx with rfl | hx
    · omega
    · have := of_decide_eq_true ((nameOk_signs h _ hl).2 x hx)
      omega
  · simp at hx
    omega
theorem drawn_ok {n : List (List Int)} (h : Drawn n) : nameOk n = true := by
  obtain ⟨s, _, rfl⟩ := h
  exact nameRead_always _
theorem wire_pos (n : List (List Int)) : 1 ≤ (wire n).length := by
  unfold wire
  simp
/-- What DrawNameGet answers. -/
def DrawnPlace (w : World) (e : Ending) (w' : World) : Prop := ∃ v m z, e = .returned (.tuple #[v, .int .i64 z]) ∧ Own w.heap.size 5 w' v m ∧ m.length ≤ 400 ∧ (∀ x ∈ m, 0 ≤ x ∧ x ≤ 255) ∧ (-1000 ≤ z ∧ z ≤ 1000) ∧ Below w.heap.size w w'

set_option maxHeartbeats 4000000 in
set_option maxRecDepth 100000 in
theorem drawNameGet_any {a : Option Addr} {len cap : Nat} {w : World} (l : List Int) (hL : Lies w a l) (hn : l.length = len) (hb : ∀ k, 0 ≤ l.getD k 0 ∧ l.getD k 0 ≤ 255) (hm : len ≤ maxLen) :
    Calls Try.prog 26 #[.slice a len cap] w (DrawnPlace w) := by
  have HM := hide hm
  clear hm
  have HN := hide hn
  clear hn
  go_enter Try.func26, Try.ntmps26
  go_wp2_with fail
  refine (l1New_any l hL (unhide HN) hb (unhide HM)).mono ?_
  rintro e w1 ⟨rfl, c1, L1, b1⟩
  clear hL hb
  have z1 := c1.lt
  go_wp2_with fail
  refine (l1some_any 3 c1 L1 (unhide HM) (by omega) (by omega)).mono ?_
  rintro e w2 ⟨vb, l0, rfl, ob, hl0, hb0, c2, g2⟩
  have L2 := L1.grown g2
  have bb2 := below_cursor b1 g2 (fun j e => by simp at e; omega)
  have z2 := g2.size
  obtain ⟨ba, bc, rfl, _⟩ := ob.lies
  have HB0 := hide hb0
  have hne : (Value.slice ba l0.length bc).ownBlock = none ∨ (Value.slice ba l0.length bc).ownBlock ≠ some w.heap.size := by
    cases hv : (Value.slice ba l0.length bc).ownBlock with
    | none => exact .inl rfl
    | some k => right; intro e; have := (ob.lt k hv).1; simp at e; omega
  have hvb : ∀ p, (Value.slice ba l0.length bc).ownBlock = some p → w1.heap.size ≤ p ∧ p < w2.heap.size := fun p hp => ob.lt p hp
  clear c1 L1 b1 hb0
  go_wp2_with fail
  refine (l2draw_any c2 L2 (unhide HM)).mono ?_
  rintro e w3 ⟨v3, n3, rfl, hd3, o3, c3, g3⟩
  have ob3 := ob.kept g3 hne
  have L3 := L2.grown g3
  have bb3 := below_cursor bb2 g3 (fun j e => by simp at e; omega)
  have z3 := g3.size
  have hok3 := drawn_ok hd3
  obtain ⟨h36, h315⟩ := hd3.bound
  obtain ⟨x3, y3, rfl, _⟩ := o3.hasL.form
  have hw3 := wire_length n3 hok3
  have hp3 := wire_pos n3
  have hwb3 := wire_bytes hok3
  have HP := hide (l2put_moved ob3 (by omega) (by omega) (fun p hp => (hvb p hp).2) o3.here h36 h315 (fun k => wires_length n3 hok3 k))
  have hcat : ∀ x ∈ l0 ++ wire n3, 0 ≤ x ∧ x ≤ 255 := fun x hx => by
    rcases List.mem_append.1 hx with h | h
    · exact unhide HB0 x h
    · exact hwb3 x h
  have hlc : (l0 ++ wire n3).length ≤ 100 ∧ 1 ≤ (l0 ++ wire n3).length := by rw [List.length_append]; omega
  generalize l0 ++ wire n3 = m4 at *
  have HCAT := hide hcat
  clear hcat hd3 hok3 h36 h315 hw3 hp3 hwb3 o3 ob ob3 c2 L2 g2 g3 bb2
  go_wp2_with fail
  refine (unhide HP).mono ?_
  rintro e w4 ⟨v4, rfl, o4, M4⟩
  have c4 := c3.later M4.kept (fun j e => by have := (hvb j e).1; omega)
  have L4 := L3.later M4.kept (fun j e => by have := (hvb j e).1; omega)
  have bb4 : Below w.heap.size w w4 := bb3.grown M4.kept bb3.size (fun j e => by have := (hvb j e).1; omega)
  have z4 := M4.kept.size
  obtain ⟨xa4, xc4, rfl, _⟩ := o4.lies
  have hv4 : ∀ p, (Value.slice xa4 m4.length xc4).ownBlock = some p → w1.heap.size ≤ p ∧ p < w4.heap.size := fun p hp => o4.lt p hp
  have hne4 : (Value.slice xa4 m4.length xc4).ownBlock = none ∨ (Value.slice xa4 m4.length xc4).ownBlock ≠ some w.heap.size := by
    cases hv : (Value.slice xa4 m4.length xc4).ownBlock with
    | none => exact .inl rfl
    | some k => right; intro e; have := (o4.lt k hv).1; simp at e; omega
  obtain ⟨hl4, hl4'⟩ := hlc
  clear HP M4 c3 L3 bb3 hne hvb
  go_wp2_with fail
  refine (l1Once_any 2 c4 L4 (unhide HM) (by omega) (by omega)).mono ?_
  rintro e w5 ⟨y, rfl, c5, g5⟩
  have o5 := o4.kept g5 hne4
  have L5 := L4.grown g5
  have bb5 := below_cursor bb4 g5 (fun j e => by simp at e; omega)
  have z5 := g5.size
  clear o4 c4 L4 g5 bb4
  cases y with
  | true =>
    have hwf : IntKind.u8.wrap (l0.length : Int) = l0.length := wrap_u8 _ (by omega)
    have RY := hide (own_lit w5 0 5 [1, 113, 192, (l0.length : Int)] (Nat.zero_le _) (by simp [maxLen])).reads
    have za := (below_alloc (w := w5) (.cells #[.int .u8 1, .int .u8 113, .int .u8 192, .int .u8 (l0.length : Int)] 5)).size
    have GA := hide (grown_alloc w5 (.cells #[.int .u8 1, .int .u8 113, .int .u8 192, .int .u8 (l0.length : Int)] 5) none)
    have O5 := hide o5
    have C5 := hide c5
    have HL5 := hide L5
    have BB5 := hide bb5
    clear o5 c5 L5 bb5
    go_wp2_with (at_builtin; refine append_bytes rfl _ _ 22 5 rfl Try.underlying22 info_u8 w1.heap.size (.slice xa4 m4.length xc4) _ m4 [1, 113, 192, (l0.length : Int)] rfl rfl ((unhide O5).alloc _) (unhide RY) (by simp; omega) (by omega) ?_)
    intro v7 w7 o7 g7
    have c7 := ((unhide C5).later (unhide GA) (fun j e => by cases e)).later g7 (fun j e => by have := (hv4 j e).1; omega)
    have L7 := ((unhide HL5).later (unhide GA) (fun j e => by cases e)).later g7 (fun j e => by have := (hv4 j e).1; omega)
    have bb7 : Below w.heap.size w w7 := ((unhide BB5).alloc (unhide BB5).size _).grown g7 (Nat.le_trans (unhide BB5).size za) (fun j e => by have := (hv4 j e).1; omega)
    have hcat : ∀ x ∈ m4 ++ [1, 113, 192, (l0.length : Int)], 0 ≤ x ∧ x ≤ 255 := fun x hx => by
      rcases List.mem_append.1 hx with h | h
      · exact unhide HCAT x h
      · simp at h
        omega
    have hl7 : (m4 ++ [1, 113, 192, (l0.length : Int)]).length ≤ 399 ∧ 1 ≤ (m4 ++ [1, 113, 192, (l0.length : Int)]).length := by simp; omega
    generalize m4 ++ [1, 113, 192, (l0.length : Int)] = m7 at *
    have HC7 := hide hcat
    have zw7 := bb7.size
    clear hcat g7 RY GA O5 C5 HL5 BB5 za hwf
    obtain ⟨xa7, xc7, rfl, _⟩ := o7.lies
    obtain ⟨hl7a, hl7b⟩ := hl7
    have hne7 : (Value.slice xa7 m7.length xc7).ownBlock = none ∨ (Value.slice xa7 m7.length xc7).ownBlock ≠ some w.heap.size := by
      cases hv : (Value.slice xa7 m7.length xc7).ownBlock with
      | none => exact .inl rfl
      | some k => right; intro e; have := (o7.lt k hv).1; simp at e; omega
    go_wp2_with fail
    refine (l1Once_any 3 c7 L7 (unhide HM) (by omega) (by omega)).mono ?_
    rintro e w8 ⟨y8, rfl, c8, g8⟩
    have o8 := o7.kept g8 hne7
    have L8 := L7.grown g8
    have bb8 := below_cursor bb7 g8 (fun j e => by simp at e; omega)
    have z8 := g8.size
    have zc8 := c8.lt
    clear o7 c7 L7 g8 bb7 hne7
    cases y8 with
    | false =>
      have hws := wrap_sub2 m7.length (by omega)
      have kz := heap_alloc_new w8 (.cells #[.int .i64 (m4.length : Nat), .int .i64 (l0.length : Nat), .int .i64 (m4.length : Nat), .int .i64 0, .int .i64 (-1), .int .i64 (m7.length : Nat), .int .i64 ((m7.length : Int) - 2)] 3)
      have gz := grown_alloc w8 (.cells #[.int .i64 (m4.length : Nat), .int .i64 (l0.length : Nat), .int .i64 (m4.length : Nat), .int .i64 0, .int .i64 (-1), .int .i64 (m7.length : Nat), .int .i64 ((m7.length : Int) - 2)] 3) none
      have bz := bb8.alloc bb8.size (.cells #[.int .i64 (m4.length : Nat), .int .i64 (l0.length : Nat), .int .i64 (m4.length : Nat), .int .i64 0, .int .i64 (-1), .int .i64 (m7.length : Nat), .int .i64 ((m7.length : Int) - 2)] 3)
      have HPK := hide (l1PickIn_any (w := w8.alloc (.cells #[.int .i64 (m4.length : Nat), .int .i64 (l0.length : Nat), .int .i64 (m4.length : Nat), .int .i64 0, .int .i64 (-1), .int .i64 (m7.length : Nat), .int .i64 ((m7.length : Int) - 2)] 3)) w8.heap.size 7 (fun z => -1000 ≤ z ∧ z ≤ 1000) (c8.later gz (fun j e => by cases e)) (L8.later gz (fun j e => by cases e)) (unhide HM) (by omega) (by omega) (block_lt kz) (by omega) (fun j hj => by
        have hq := block_cell kz j
        match j, hj with
        | 0, _ => exact ⟨_, hq, by omega⟩
        | 1, _ => exact ⟨_, hq, by omega⟩
        | 2, _ => exact ⟨_, hq, by omega⟩
        | 3, _ => exact ⟨_, hq, by omega⟩
        | 4, _ => exact ⟨_, hq, by omega⟩
        | 5, _ => exact ⟨_, hq, by omega⟩
        | 6, _ => exact ⟨_, hq, by omega⟩))
      have OZ := hide (o8.alloc (.cells #[.int .i64 (m4.length : Nat), .int .i64 (l0.length : Nat), .int .i64 (m4.length : Nat), .int .i64 0, .int .i64 (-1), .int .i64 (m7.length : Nat), .int .i64 ((m7.length : Int) - 2)] 3))
      have BZ := hide bz
      clear kz gz bz o8 c8 L8 bb8
      go_wp2_with fail
      refine (unhide HPK).mono ?_
      rintro e wz ⟨z, rfl, hz, cz, ggz⟩
      have bf := below_cursor (unhide BZ) ggz (fun j e => by simp at e; omega)
      have of := hide ((unhide OZ).kept ggz (by
        cases hv : (Value.slice xa7 m7.length xc7).ownBlock with
        | none => exact .inl rfl
        | some k => right; intro e; have := ((unhide OZ).lt k hv).1; simp at e; omega))
      clear ggz cz HPK OZ BZ hws
      go_wp2_with fail
      go_ret2
      exact ⟨_, m7, z, rfl, (unhide of).mono (by omega), by omega, unhide HC7, hz, bf⟩
    | true =>
      have HSP := hide (l1spoil_any c8 L8 (unhide HM) o8.has hl7b (by omega) (unhide HC7))
      have HL8 := hide L8
      clear o8 L8
      go_wp2_with fail
      refine (unhide HSP).mono ?_
      rintro e w9 ⟨v9, m9, rfl, o9, hl9, hb9, c9, g9⟩
      have L9 := (unhide HL8).grown g9
      have bb9 := below_cursor bb8 g9 (fun j e => by simp at e; omega)
      have z9 := g9.size
      have zc9 := c9.lt
      have HC9 := hide hb9
      obtain ⟨xa9, xc9, rfl, _⟩ := o9.lies
      clear HSP HL8 c8 g9 bb8 hb9
      have hws := wrap_sub2 m9.length (by omega)
      have kz := heap_alloc_new w9 (.cells #[.int .i64 (m4.length : Nat), .int .i64 (l0.length : Nat), .int .i64 (m4.length : Nat), .int .i64 0, .int .i64 (-1), .int .i64 (m9.length : Nat), .int .i64 ((m9.length : Int) - 2)] 3)
      have gz := grown_alloc w9 (.cells #[.int .i64 (m4.length : Nat), .int .i64 (l0.length : Nat), .int .i64 (m4.length : Nat), .int .i64 0, .int .i64 (-1), .int .i64 (m9.length : Nat), .int .i64 ((m9.length : Int) - 2)] 3) none
      have bz := bb9.alloc bb9.size (.cells #[.int .i64 (m4.length : Nat), .int .i64 (l0.length : Nat), .int .i64 (m4.length : Nat), .int .i64 0, .int .i64 (-1), .int .i64 (m9.length : Nat), .int .i64 ((m9.length : Int) - 2)] 3)
      have HPK := hide (l1PickIn_any (w := w9.alloc (.cells #[.int .i64 (m4.length : Nat), .int .i64 (l0.length : Nat), .int .i64 (m4.length : Nat), .int .i64 0, .int .i64 (-1), .int .i64 (m9.length : Nat), .int .i64 ((m9.length : Int) - 2)] 3)) w9.heap.size 7 (fun z => -1000 ≤ z ∧ z ≤ 1000) (c9.later gz (fun j e => by cases e)) (L9.later gz (fun j e => by cases e)) (unhide HM) (by omega) (by omega) (block_lt kz) (by omega) (fun j hj => by
        have hq := block_cell kz j
        match j, hj with
        | 0, _ => exact ⟨_, hq, by omega⟩
        | 1, _ => exact ⟨_, hq, by omega⟩
        | 2, _ => exact ⟨_, hq, by omega⟩
        | 3, _ => exact ⟨_, hq, by omega⟩
        | 4, _ => exact ⟨_, hq, by omega⟩
        | 5, _ => exact ⟨_, hq, by omega⟩
        | 6, _ => exact ⟨_, hq, by omega⟩))
      have OZ := hide (o9.alloc (.cells #[.int .i64 (m4.length : Nat), .int .i64 (l0.length : Nat), .int .i64 (m4.length : Nat), .int .i64 0, .int .i64 (-1), .int .i64 (m9.length : Nat), .int .i64 ((m9.length : Int) - 2)] 3))
      have BZ := hide bz
      clear kz gz bz o9 c9 L9 bb9
      go_wp2_with fail
      refine (unhide HPK).mono ?_
      rintro e wz ⟨z, rfl, hz, cz, ggz⟩
      have bf := below_cursor (unhide BZ) ggz (fun j e => by simp at e; omega)
      have of := hide ((unhide OZ).kept ggz (by
        cases hv : (Value.slice xa9 m9.length xc9).ownBlock with
        | none => exact .inl rfl
        | some k => right; intro e; have := ((unhide OZ).lt k hv).1; simp at e; omega))
      clear ggz cz HPK OZ BZ hws
      go_wp2_with fail
      go_ret2
      exact ⟨_, m9, z, rfl, (unhide of).mono (by omega), by omega, unhide HC9, hz, bf⟩
  | false =>
    have HD6 := hide (l2draw_any c5 L5 (unhide HM))
    have O5 := hide o5
    clear o5
    go_wp2_with fail
    refine (unhide HD6).mono ?_
    rintro e w6 ⟨v6, n6, rfl, hd6, o6, c6, g6⟩
    have o5' := (unhide O5).kept g6 hne4
    have L6 := L5.grown g6
    have bb6 := below_cursor bb5 g6 (fun j e => by simp at e; omega)
    have z6 := g6.size
    have hok6 := drawn_ok hd6
    obtain ⟨h66, h615⟩ := hd6.bound
    obtain ⟨x6, y6, rfl, _⟩ := o6.hasL.form
    have hw6 := wire_length n6 hok6
    have hp6 := wire_pos n6
    have hwb6 := wire_bytes hok6
    have HP := hide (l2put_moved o5' (by omega) (by omega) (fun p hp => by have := (hv4 p hp).2; omega) o6.here h66 h615 (fun k => wires_length n6 hok6 k))
    have hcat : ∀ x ∈ m4 ++ wire n6, 0 ≤ x ∧ x ≤ 255 := fun x hx => by
      rcases List.mem_append.1 hx with h | h
      · exact unhide HCAT x h
      · exact hwb6 x h
    have hl7 : (m4 ++ wire n6).length ≤ 399 ∧ 1 ≤ (m4 ++ wire n6).length := by rw [List.length_append]; omega
    generalize m4 ++ wire n6 = m7 at *
    have HC7 := hide hcat
    clear hcat hd6 hok6 h66 h615 hw6 hp6 hwb6 o6 o5' O5 c5 L5 g6 bb5 HD6
    go_wp2_with fail
    refine (unhide HP).mono ?_
    rintro e w7 ⟨v7, rfl, o7, M7⟩
    have c7 := c6.later M7.kept (fun j e => by have := (hv4 j e).1; omega)
    have L7 := L6.later M7.kept (fun j e => by have := (hv4 j e).1; omega)
    have bb7 : Below w.heap.size w w7 := bb6.grown M7.kept bb6.size (fun j e => by have := (hv4 j e).1; omega)
    have zw7 := bb7.size
    clear HP M7 c6 L6 bb6
    obtain ⟨xa7, xc7, rfl, _⟩ := o7.lies
    obtain ⟨hl7a, hl7b⟩ := hl7
    have hne7 : (Value.slice xa7 m7.length xc7).ownBlock = none ∨ (Value.slice xa7 m7.length xc7).ownBlock ≠ some w.heap.size := by
      cases hv : (Value.slice xa7 m7.length xc7).ownBlock with
      | none => exact .inl rfl
      | some k => right; intro e; have := (o7.lt k hv).1; simp at e; omega
    go_wp2_with fail
    refine (l1Once_any 3 c7 L7 (unhide HM) (by omega) (by omega)).mono ?_
    rintro e w8 ⟨y8, rfl, c8, g8⟩
    have o8 := o7.kept g8 hne7
    have L8 := L7.grown g8
    have bb8 := below_cursor bb7 g8 (fun j e => by simp at e; omega)
    have z8 := g8.size
    have zc8 := c8.lt
    clear o7 c7 L7 g8 bb7 hne7
    cases y8 with
    | false =>
      have hws := wrap_sub2 m7.length (by omega)
      have kz := heap_alloc_new w8 (.cells #[.int .i64 (m4.length : Nat), .int .i64 (l0.length : Nat), .int .i64 (m4.length : Nat), .int .i64 0, .int .i64 (-1), .int .i64 (m7.length : Nat), .int .i64 ((m7.length : Int) - 2)] 3)
      have gz := grown_alloc w8 (.cells #[.int .i64 (m4.length : Nat), .int .i64 (l0.length : Nat), .int .i64 (m4.length : Nat), .int .i64 0, .int .i64 (-1), .int .i64 (m7.length : Nat), .int .i64 ((m7.length : Int) - 2)] 3) none
      have bz := bb8.alloc bb8.size (.cells #[.int .i64 (m4.length : Nat), .int .i64 (l0.length : Nat), .int .i64 (m4.length : Nat), .int .i64 0, .int .i64 (-1), .int .i64 (m7.length : Nat), .int .i64 ((m7.length : Int) - 2)] 3)
      have HPK := hide (l1PickIn_any (w := w8.alloc (.cells #[.int .i64 (m4.length : Nat), .int .i64 (l0.length : Nat), .int .i64 (m4.length : Nat), .int .i64 0, .int .i64 (-1), .int .i64 (m7.length : Nat), .int .i64 ((m7.length : Int) - 2)] 3)) w8.heap.size 7 (fun z => -1000 ≤ z ∧ z ≤ 1000) (c8.later gz (fun j e => by cases e)) (L8.later gz (fun j e => by cases e)) (unhide HM) (by omega) (by omega) (block_lt kz) (by omega) (fun j hj => by
        have hq := block_cell kz j
        match j, hj with
        | 0, _ => exact ⟨_, hq, by omega⟩
        | 1, _ => exact ⟨_, hq, by omega⟩
        | 2, _ => exact ⟨_, hq, by omega⟩
        | 3, _ => exact ⟨_, hq, by omega⟩
        | 4, _ => exact ⟨_, hq, by omega⟩
        | 5, _ => exact ⟨_, hq, by omega⟩
        | 6, _ => exact ⟨_, hq, by omega⟩))
      have OZ := hide (o8.alloc (.cells #[.int .i64 (m4.length : Nat), .int .i64 (l0.length : Nat), .int .i64 (m4.length : Nat), .int .i64 0, .int .i64 (-1), .int .i64 (m7.length : Nat), .int .i64 ((m7.length : Int) - 2)] 3))
      have BZ := hide bz
      clear kz gz bz o8 c8 L8 bb8
      go_wp2_with fail
      refine (unhide HPK).mono ?_
      rintro e wz ⟨z, rfl, hz, cz, ggz⟩
      have bf := below_cursor (unhide BZ) ggz (fun j e => by simp at e; omega)
      have of := hide ((unhide OZ).kept ggz (by
        cases hv : (Value.slice xa7 m7.length xc7).ownBlock with
        | none => exact .inl rfl
        | some k => right; intro e; have := ((unhide OZ).lt k hv).1; simp at e; omega))
      clear ggz cz HPK OZ BZ hws
      go_wp2_with fail
      go_ret2
      exact ⟨_, m7, z, rfl, (unhide of).mono (by omega), by omega, unhide HC7, hz, bf⟩
    | true =>
      have HSP := hide (l1spoil_any c8 L8 (unhide HM) o8.has hl7b (by omega) (unhide HC7))
      have HL8 := hide L8
      clear o8 L8
      go_wp2_with fail
      refine (unhide HSP).mono ?_
      rintro e w9 ⟨v9, m9, rfl, o9, hl9, hb9, c9, g9⟩
      have L9 := (unhide HL8).grown g9
      have bb9 := below_cursor bb8 g9 (fun j e => by simp at e; omega)
      have z9 := g9.size
      have zc9 := c9.lt
      have HC9 := hide hb9
      obtain ⟨xa9, xc9, rfl, _⟩ := o9.lies
      clear HSP HL8 c8 g9 bb8 hb9
      have hws := wrap_sub2 m9.length (by omega)
      have kz := heap_alloc_new w9 (.cells #[.int .i64 (m4.length : Nat), .int .i64 (l0.length : Nat), .int .i64 (m4.length : Nat), .int .i64 0, .int .i64 (-1), .int .i64 (m9.length : Nat), .int .i64 ((m9.length : Int) - 2)] 3)
      have gz := grown_alloc w9 (.cells #[.int .i64 (m4.length : Nat), .int .i64 (l0.length : Nat), .int .i64 (m4.length : Nat), .int .i64 0, .int .i64 (-1), .int .i64 (m9.length : Nat), .int .i64 ((m9.length : Int) - 2)] 3) none
      have bz := bb9.alloc bb9.size (.cells #[.int .i64 (m4.length : Nat), .int .i64 (l0.length : Nat), .int .i64 (m4.length : Nat), .int .i64 0, .int .i64 (-1), .int .i64 (m9.length : Nat), .int .i64 ((m9.length : Int) - 2)] 3)
      have HPK := hide (l1PickIn_any (w := w9.alloc (.cells #[.int .i64 (m4.length : Nat), .int .i64 (l0.length : Nat), .int .i64 (m4.length : Nat), .int .i64 0, .int .i64 (-1), .int .i64 (m9.length : Nat), .int .i64 ((m9.length : Int) - 2)] 3)) w9.heap.size 7 (fun z => -1000 ≤ z ∧ z ≤ 1000) (c9.later gz (fun j e => by cases e)) (L9.later gz (fun j e => by cases e)) (unhide HM) (by omega) (by omega) (block_lt kz) (by omega) (fun j hj => by
        have hq := block_cell kz j
        match j, hj with
        | 0, _ => exact ⟨_, hq, by omega⟩
        | 1, _ => exact ⟨_, hq, by omega⟩
        | 2, _ => exact ⟨_, hq, by omega⟩
        | 3, _ => exact ⟨_, hq, by omega⟩
        | 4, _ => exact ⟨_, hq, by omega⟩
        | 5, _ => exact ⟨_, hq, by omega⟩
        | 6, _ => exact ⟨_, hq, by omega⟩))
      have OZ := hide (o9.alloc (.cells #[.int .i64 (m4.length : Nat), .int .i64 (l0.length : Nat), .int .i64 (m4.length : Nat), .int .i64 0, .int .i64 (-1), .int .i64 (m9.length : Nat), .int .i64 ((m9.length : Int) - 2)] 3))
      have BZ := hide bz
      clear kz gz bz o9 c9 L9 bb9
      go_wp2_with fail
      refine (unhide HPK).mono ?_
      rintro e wz ⟨z, rfl, hz, cz, ggz⟩
      have bf := below_cursor (unhide BZ) ggz (fun j e => by simp at e; omega)
      have of := hide ((unhide OZ).kept ggz (by
        cases hv : (Value.slice xa9 m9.length xc9).ownBlock with
        | none => exact .inl rfl
        | some k => right; intro e; have := ((unhide OZ).lt k hv).1; simp at e; omega))
      clear ggz cz HPK OZ BZ hws
      go_wp2_with fail
      go_ret2
      exact ⟨_, m9, z, rfl, (unhide of).mono (by omega), by omega, unhide HC9, hz, bf⟩
end Go.Proofs.Ytaconefooicplaa

namespace Go.Proofs.Ytaconefooicplaa
open Go.RowKit

theorem wire_nil : wire [] = [0] := by simp [wire, wires]
theorem wire_cons (l : List Int) (n : List (List Int)) : wire (l :: n) = (l.length : Int) :: (l ++ wire n) := by
  unfold wire wires
  rw [List.take_length, List.take_length]
  simp
theorem lowered_label {l : List Int} (h : ∀ c ∈ l, signOk c = true) : lowered l l.length = l := by
  rw [lowered_map]
  have : l.map low = l.map id := List.map_congr_left (fun c hc => by
    have := (keeps_id.sign c (h c hc)).2
    simpa using this)
  rw [this, List.map_id]
theorem getD_mid (a : List Int) (x : Int) (b : List Int) : (a ++ x :: b).getD a.length 0 = x := by
  rw [List.getD_eq_getElem?_getD]
  simp
theorem takeOf_mid (a l b : List Int) : takeOf (a ++ (l ++ b)) (a.length : Int) (l.length : Int) = (l, (a.length : Int) + l.length) := by
  have h := takeOf_yes (l := a ++ (l ++ b)) (i := a.length) (m := l.length) (by simp)
  rw [h]
  simp

theorem get_wire : ∀ (m : List (List Int)) (pre post : List Int) (acc : List (List Int)) (f h : Nat) (e : Int), nameOk (acc ++ m) = true → m.length + 1 ≤ f →
    getName (pre ++ (wire m ++ post)) f acc pre.length h e = (acc ++ m, if e < 0 then (pre.length : Int) + (wire m).length else e)
  | [], pre, post, acc, f, h, e, hok, hf => by
    obtain ⟨f, rfl⟩ : ∃ g, f = g + 1 := ⟨f - 1, by simp at hf; omega⟩
    rw [wire_nil]
    have e1 : (pre ++ ([0] ++ post)).getD ((pre.length : Int)).toNat 0 = 0 := by
      rw [Int.toNat_natCast]
      exact getD_mid pre 0 post
    rw [List.append_nil] at hok
    unfold getName
    rw [if_neg (by simp; omega), e1, if_pos rfl, if_pos hok]
    simp
  | l :: m, pre, post, acc, f, h, e, hok, hf => by
    obtain ⟨f, rfl⟩ : ∃ g, f = g + 1 := ⟨f - 1, by simp at hf; omega⟩
    have hlk : labelOk l = true := by
      have := (nameOk_parts hok).2 acc.length (by simp)
      rwa [List.getD_eq_getElem?_getD, List.getElem?_append_right (Nat.le_refl _), Nat.sub_self, List.getElem?_cons_zero, Option.getD_some] at this
    have hll := labelOk_length hlk
    have hac : acc.length < 6 := by
      have := (nameOk_parts hok).1
      simp at this
      omega
    have hsg : ∀ c ∈ l, signOk c = true := by
      have hd := of_decide_eq_true hlk
      intro c hc
      obtain ⟨i, hi, rfl⟩ := List.getElem_of_mem hc
      have := hd.2.2 i hi
      rwa [List.getD_eq_getElem?_getD, List.getElem?_eq_getElem hi, Option.getD_some] at this
    rw [wire_cons]
    have e0 : pre ++ ((l.length : Int) :: (l ++ wire m) ++ post) = pre ++ (l.length : Int) :: (l ++ (wire m ++ post)) := by simp
    have e0' : pre ++ (l.length : Int) :: (l ++ (wire m ++ post)) = (pre ++ [(l.length : Int)]) ++ (l ++ (wire m ++ post)) := by simp
    have e1 : (pre ++ (l.length : Int) :: (l ++ (wire m ++ post))).getD ((pre.length : Int)).toNat 0 = l.length := by
      rw [Int.toNat_natCast]
      exact getD_mid pre _ _
    have e2 : takeOf (pre ++ (l.length : Int) :: (l ++ (wire m ++ post))) ((pre.length : Int) + 1) (l.length : Int) = (l, (pre.length : Int) + 1 + l.length) := by
      rw [e0']
      have := takeOf_mid (pre ++ [(l.length : Int)]) l (wire m ++ post)
      simpa using this
    have e3 : pre ++ (l.length : Int) :: (l ++ (wire m ++ post)) = (pre ++ [(l.length : Int)] ++ l) ++ (wire m ++ post) := by simp
    rw [e0]
    unfold getName
    rw [if_neg (by simp; omega), e1, if_neg (by omega), if_neg (by omega), if_neg (by omega), e2]
    simp only []
    rw [if_neg (by omega), lowered_label hsg, e3]
    have ih := get_wire m (pre ++ [(l.length : Int)] ++ l) post (acc ++ [l]) f h e (by simpa using hok) (by simp at hf; omega)
    have hp : (pre.length : Int) + 1 + l.length = ((pre ++ [(l.length : Int)] ++ l).length : Nat) := by simp; omega
    rw [hp, ih]
    simp only [List.append_assoc, List.singleton_append, List.length_append, List.length_cons]
    congr 1
    split
    · simp
      omega
    · rfl

theorem get_put {b : List Int} {n : List (List Int)} (hok : nameOk n = true) (hb : b.length ≤ 3) : nameGet (b ++ wire n) b.length = (n, ((b ++ wire n).length : Int)) := by
  have hw := wire_length n hok
  have h6 := (nameOk_parts hok).1
  unfold nameGet
  rw [if_neg (by simp; omega)]
  have := get_wire n b [] [] 20 0 (-1) (by simpa using hok) (by omega)
  rw [List.append_nil] at this
  rw [this]
  simp
theorem get_back {b : List Int} {n : List (List Int)} (hok : nameOk n = true) (hb : b.length ≤ 3) : nameGet ((b ++ wire n) ++ [192, (b.length : Int)]) (b ++ wire n).length = (n, ((b ++ wire n).length : Int) + 2) := by
  have hw := wire_length n hok
  have h6 := (nameOk_parts hok).1
  have hwp : 1 ≤ (wire n).length := by unfold wire; simp
  have e1 : ((b ++ wire n) ++ [192, (b.length : Int)]).getD ((((b ++ wire n).length : Nat) : Int)).toNat 0 = 192 := by
    rw [Int.toNat_natCast]
    exact getD_mid (b ++ wire n) 192 [(b.length : Int)]
  have e2 : get16 ((b ++ wire n) ++ [192, (b.length : Int)]) (((b ++ wire n).length : Nat) : Int) = (49152 + (b.length : Int), (((b ++ wire n).length : Nat) : Int) + 2) := by
    unfold get16
    rw [if_pos (by simp; omega)]
    have e3 : ((b ++ wire n) ++ [192, (b.length : Int)]).getD ((((b ++ wire n).length : Nat) : Int).toNat + 1) 0 = b.length := by
      rw [Int.toNat_natCast, List.getD_eq_getElem?_getD, List.getElem?_append_right (by omega)]
      simp
    rw [e1, e3]
    simp
  unfold nameGet
  rw [if_neg (by simp; omega)]
  unfold getName
  rw [if_neg (by simp; omega), e1, if_neg (by omega), if_pos (by omega), e2]
  simp only []
  rw [if_neg (by simp; omega)]
  have e4 : (49152 : Int) + b.length - 49152 = (b.length : Nat) := by omega
  rw [e4, List.append_assoc]
  have := get_wire n b [192, (b.length : Int)] [] 19 1 (((b ++ wire n).length : Int) + 2) (by simpa using hok) (by omega)
  rw [if_pos (by omega)]
  rw [this]
  rw [if_neg (by omega)]
  simp

theorem get_told (l : List Int) : ∀ (f : Nat) (n : List (List Int)) (p : Int) (h : Nat) (e : Int), Bytes8 l →
    getName l f n p h e = ([], -1) ∨ (nameOk (getName l f n p h e).1 = true ∧ (0 ≤ e → (getName l f n p h e).2 = e) ∧ (e < 0 → p < (getName l f n p h e).2 ∧ (getName l f n p h e).2 ≤ l.length))
  | 0, _, _, _, _, _ => .inl rfl
  | f + 1, n, p, h, e, hb => by
    unfold getName
    by_cases h1 : p < 0 ∨ (l.length : Int) ≤ p
    · rw [if_pos h1]
      exact .inl rfl
    rw [if_neg h1]
    have hbp := hb p.toNat
    by_cases h2 : l.getD p.toNat 0 = 0
    · rw [if_pos h2]
      by_cases h3 : nameOk n = true
      · rw [if_pos h3]
        refine .inr ⟨h3, fun he => ?_, fun he => ?_⟩
        · show (if e < 0 then p + 1 else e) = e
          rw [if_neg (by omega)]
        · show p < (if e < 0 then p + 1 else e) ∧ (if e < 0 then p + 1 else e) ≤ _
          rw [if_pos he]
          omega
      · rw [if_neg h3]
        exact .inl rfl
    rw [if_neg h2]
    by_cases h3 : 192 ≤ l.getD p.toNat 0
    · rw [if_pos h3]
      by_cases h4 : (get16 l p).2 < 0 ∨ p ≤ (get16 l p).1 - 49152 ∨ 8 ≤ h
      · rw [if_pos h4]
        exact .inl rfl
      rw [if_neg h4]
      have h5 : (get16 l p).2 = p + 2 ∧ p + 2 ≤ l.length := by
        unfold get16 at h4 ⊢
        by_cases q : 0 ≤ p ∧ p + 2 ≤ (l.length : Int)
        · rw [if_pos q]
          exact ⟨rfl, q.2⟩
        · rw [if_neg q] at h4
          simp at h4
      rcases get_told l f n ((get16 l p).1 - 49152) (h + 1) (if e < 0 then (get16 l p).2 else e) hb with ih | ⟨i1, i2, i3⟩
      · exact .inl ih
      · refine .inr ⟨i1, fun he => ?_, fun he => ?_⟩
        · rw [if_neg (by omega)] at i2 ⊢
          exact i2 he
        · rw [if_pos he] at i2 ⊢
          have := i2 (by omega)
          omega
    rw [if_neg h3]
    by_cases h4 : 15 < l.getD p.toNat 0 ∨ 6 ≤ n.length
    · rw [if_pos h4]
      exact .inl rfl
    rw [if_neg h4]
    by_cases h5 : (takeOf l (p + 1) (l.getD p.toNat 0)).2 < 0
    · rw [if_pos h5]
      exact .inl rfl
    rw [if_neg h5]
    have h6 : p < (takeOf l (p + 1) (l.getD p.toNat 0)).2 := by
      unfold takeOf at h5 ⊢
      split
      · show p < p + 1 + l.getD p.toNat 0
        omega
      · rename_i q
        rw [if_neg q] at h5
        simp at h5
    rcases get_told l f (n ++ [lowered (takeOf l (p + 1) (l.getD p.toNat 0)).1 (takeOf l (p + 1) (l.getD p.toNat 0)).1.length]) (takeOf l (p + 1) (l.getD p.toNat 0)).2 h e hb with ih | ⟨i1, i2, i3⟩
    · exact .inl ih
    · refine .inr ⟨i1, i2, fun he => ?_⟩
      have := i3 he
      omega
theorem nameGet_told (l : List Int) (p : Int) (hb : Bytes8 l) : nameGet l p = ([], -1) ∨ (nameOk (nameGet l p).1 = true ∧ p < (nameGet l p).2 ∧ (nameGet l p).2 ≤ l.length) := by
  unfold nameGet
  split
  · exact .inl rfl
  · rcases get_told l 20 [] p 0 (-1) hb with h | ⟨h1, h2, h3⟩
    · exact .inl h
    · exact .inr ⟨h1, h3 (by omega)⟩
end Go.Proofs.Ytaconefooicplaa
