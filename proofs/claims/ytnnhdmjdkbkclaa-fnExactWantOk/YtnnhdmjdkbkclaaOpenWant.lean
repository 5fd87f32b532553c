/-
  What is known of a Want that came in as an argument: a record, a number and a mark.
-/
import Derived.Test.YtnnhdmjdkbkclaaOpenRec
namespace Go.Proofs.Ytnnhdmjdkbkclaa
open Go.RowKit Go.ChangeShapes Go.WideShapes Go.ChangeAt

theorem cellsWant : Try.prog.cellsOf 30 = 9 := by kernel_rfl
theorem cellsBool : Try.prog.cellsOf 4 = 1 := by kernel_rfl

theorem open_recCells {H : Type} {enc : TypeId × Value → H} {w : World} {sp : Nat → Bool} {held : Bool} {m : Nat} {c0 c1 c2 c3 c4 c5 c6 : Value} {y : DataW H × List MemPlace} (hsp : ∀ b, sp b = true)
    (hf0 : DataW.trod enc Try.prog w 0 sp held m 28 [c0, c1, c2, c3, c4, c5, c6] = some y) :
    ∃ (an : Option Addr) (cn : Nat) (ato : Option Addr) (ct : Nat) (ax : Option Addr) (cx : Nat) (ai : Option Addr) (ci : Nat) (q : Rec),
      [c0, c1, c2, c3, c4, c5, c6] = [.slice an q.name.length cn, .int .i64 q.type, .int .i64 q.ttl, .int .i64 q.addr, .slice ato q.to.length ct, .slice ax q.text.length cx, .slice ai q.nums.length ci] ∧ InR w an ato ax ai q ∧ SizeR maxLen q := by
  obtain ⟨xs, n, _, _, _, hlen, hf⟩ := DataW.trod_struct Try.underlying28 hf0
  match xs, hlen with
  | [y0, y1, y2, y3, y4, y5, y6], _ =>
    have h0 : DataW.trod enc Try.prog w 0 sp held n 24 (([c0, c1, c2, c3, c4, c5, c6].drop 0).take (Try.prog.cellsOf 24)) = some y0 := hf 0 _ rfl
    have h1 : DataW.trod enc Try.prog w 0 sp held n 3 (([c0, c1, c2, c3, c4, c5, c6].drop 1).take (Try.prog.cellsOf 3)) = some y1 := hf 1 _ rfl
    have h2 : DataW.trod enc Try.prog w 0 sp held n 3 (([c0, c1, c2, c3, c4, c5, c6].drop 2).take (Try.prog.cellsOf 3)) = some y2 := hf 2 _ rfl
    have h3 : DataW.trod enc Try.prog w 0 sp held n 3 (([c0, c1, c2, c3, c4, c5, c6].drop 3).take (Try.prog.cellsOf 3)) = some y3 := hf 3 _ rfl
    have h4 : DataW.trod enc Try.prog w 0 sp held n 24 (([c0, c1, c2, c3, c4, c5, c6].drop 4).take (Try.prog.cellsOf 24)) = some y4 := hf 4 _ rfl
    have h5 : DataW.trod enc Try.prog w 0 sp held n 25 (([c0, c1, c2, c3, c4, c5, c6].drop 5).take (Try.prog.cellsOf 25)) = some y5 := hf 5 _ rfl
    have h6 : DataW.trod enc Try.prog w 0 sp held n 26 (([c0, c1, c2, c3, c4, c5, c6].drop 6).take (Try.prog.cellsOf 26)) = some y6 := hf 6 _ rfl
    rw [cellsName] at h0 h4
    rw [cellsInt] at h1 h2 h3
    rw [cellsText] at h5
    rw [cellsNums] at h6
    simp only [List.drop_zero, List.drop_succ_cons, List.take_succ_cons, List.take_zero] at h0 h1 h2 h3 h4 h5 h6
    obtain ⟨an, cn, nm, rfl, a1, a2, a3⟩ := open_nameCell hsp h0
    obtain ⟨t1, e1, _, _⟩ := DataW.trod_int Try.underlying3 h1
    obtain ⟨t2, e2, _, _⟩ := DataW.trod_int Try.underlying3 h2
    obtain ⟨t3, e3, _, _⟩ := DataW.trod_int Try.underlying3 h3
    simp only [List.cons.injEq, and_true] at e1 e2 e3
    subst e1 e2 e3
    obtain ⟨ato, ct, to, rfl, f1, f2, f3⟩ := open_nameCell hsp h4
    obtain ⟨ax, cx, tx, rfl, g1, g2, _⟩ := ints_lies Try.underlying25 Try.underlying5 cellsByte hsp h5
    obtain ⟨ai, ci, nu, rfl, k1, k2⟩ := nums_lies Try.underlying26 Try.underlying3 cellsInt hsp h6
    exact ⟨an, cn, ato, ct, ax, cx, ai, ci, ⟨nm, t1, t2, t3, to, tx, nu⟩, rfl, ⟨a2, f2, g2, k2⟩, ⟨a1, a3, f1, f3, g1, k1⟩⟩

set_option maxRecDepth 100000 in
theorem open_want {H : Type} {enc : TypeId × Value → H} {w : World} {r : Reach} {b0 : Nat} {sp : Nat → Bool} {held : Bool} {v : Value} {d : DataW H} {ps : List MemPlace} (hsp : ∀ b, sp b = true)
    (hval : Value.okWide Try.prog w r b0 30 v) (h : DataW.Trod enc Try.prog w 0 sp held 30 v d ps) :
    ∃ (an : Option Addr) (cn : Nat) (ato : Option Addr) (ct : Nat) (ax : Option Addr) (cx : Nat) (ai : Option Addr) (ci : Nat) (q : Rec) (c : Int) (b : Bool),
      v = .agg #[.slice an q.name.length cn, .int .i64 q.type, .int .i64 q.ttl, .int .i64 q.addr, .slice ato q.to.length ct, .slice ax q.text.length cx, .slice ai q.nums.length ci, .int .i64 c, .bool b] ∧ InR w an ato ax ai q ∧ SizeR maxLen q := by
  obtain ⟨cs, rfl, hs⟩ := okWide_struct Try.underlying30 hval
  rw [cellsWant] at hs
  obtain ⟨c0, c1, c2, c3, c4, c5, c6, c7, c8, rfl⟩ : ∃ c0 c1 c2 c3 c4 c5 c6 c7 c8, cs = #[c0, c1, c2, c3, c4, c5, c6, c7, c8] := by
    cases cs with
    | mk l =>
      match l, hs with
      | [c0, c1, c2, c3, c4, c5, c6, c7, c8], _ => exact ⟨c0, c1, c2, c3, c4, c5, c6, c7, c8, rfl⟩
  obtain ⟨fuel, hf0⟩ := h
  have hcells : (Value.agg #[c0, c1, c2, c3, c4, c5, c6, c7, c8]).cells.toList = [c0, c1, c2, c3, c4, c5, c6, c7, c8] := by simp [Value.cells]
  rw [hcells] at hf0
  obtain ⟨xs, n, _, _, _, hlen, hf⟩ := DataW.trod_struct Try.underlying30 hf0
  match xs, hlen with
  | [y0, y1, y2], _ =>
    have h0 : DataW.trod enc Try.prog w 0 sp held n 28 (([c0, c1, c2, c3, c4, c5, c6, c7, c8].drop 0).take (Try.prog.cellsOf 28)) = some y0 := hf 0 _ rfl
    have h1 : DataW.trod enc Try.prog w 0 sp held n 3 (([c0, c1, c2, c3, c4, c5, c6, c7, c8].drop 7).take (Try.prog.cellsOf 3)) = some y1 := hf 1 _ rfl
    have h2 : DataW.trod enc Try.prog w 0 sp held n 4 (([c0, c1, c2, c3, c4, c5, c6, c7, c8].drop 8).take (Try.prog.cellsOf 4)) = some y2 := hf 2 _ rfl
    rw [cellsRr] at h0
    rw [cellsInt] at h1
    rw [cellsBool] at h2
    simp only [List.drop_zero, List.drop_succ_cons, List.take_succ_cons, List.take_zero] at h0 h1 h2
    obtain ⟨an, cn, ato, ct, ax, cx, ai, ci, q, e0, a1, a2⟩ := open_recCells hsp h0
    obtain ⟨t1, e1, _, _⟩ := DataW.trod_int Try.underlying3 h1
    obtain ⟨t2, e2, _⟩ := DataW.trod_bool Try.underlying4 h2
    simp only [List.cons.injEq, and_true] at e0 e1 e2
    obtain ⟨rfl, rfl, rfl, rfl, rfl, rfl, rfl⟩ := e0
    subst e1 e2
    exact ⟨an, cn, ato, ct, ax, cx, ai, ci, q, t1, t2, rfl, a1, a2⟩
end Go.Proofs.Ytnnhdmjdkbkclaa
