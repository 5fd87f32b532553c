/-
  What is known of a record that came in as an argument: a struct of two names, three numbers, a text and a list of numbers, wherever they lie. A record that came in as an argument: its text's numbers are bytes.
-/
import Derived.Test.YthmihglfffeedaaDoorRrTextG32
import Derived.Test.YthmihglfffeedaaDoorRrTextG03
import Derived.Test.YthmihglfffeedaaDoorProg
import Derived.Test.YthmihglfffeedaaDoorRrTextG06
namespace Go.Proofs.YthmihglfffeedaaDoor
open Go.RowKit Go.ChangeShapes Go.WideShapes Go.ChangeAt

theorem nums_lies {H : Type} {enc : TypeId × Value → H} {P : Program} {w : World} {sp : Nat → Bool} {held : Bool} {t e : TypeId} {fuel : Nat} {v : Value} {x : DataW H × List MemPlace}
  (ht : P.underlying t = some (.slice e)) (he : P.underlying e = some (.int .i64)) (hc : P.cellsOf e = 1) (hsp : ∀ b, sp b = true) (h : DataW.trod enc P w 0 sp held fuel t [v] = some x) :
  ∃ (a : Option Addr) (cap : Nat) (l : List Int), v = .slice a l.length cap ∧ l.length ≤ maxLen ∧ LiesI w a l := by
 have key : ∃ a len cap zs, v = .slice a len cap ∧ IsRow .i64 w a len cap zs := by
  rcases open_ints ht he hc h with ⟨hcs, _⟩ | ⟨x, l, c, zs, hcs, _, hl, hm, hz, _, hcell, hwz⟩
  ·simp at hcs
   exact ⟨none, 0, 0, [], hcs, .inl ⟨rfl, rfl, rfl, rfl⟩⟩
  ·simp at hcs
   exact ⟨some x, l, c, zs, hcs, .inr ⟨_, rfl, hl, hm, by simpa [hsp] using hz, hcell, hwz⟩⟩
 obtain ⟨a, len, cap, zs, rfl, hr⟩ := key
 obtain ⟨l, rfl, hm, hL⟩ := isRow_liesI hr
 exact ⟨a, cap, l, rfl, hm, hL⟩

theorem cellsRr : Tryd.prog.cellsOf 28 = 7 := by kernel_rfl
theorem cellsName : Tryd.prog.cellsOf 24 = 1 := by kernel_rfl
theorem cellsInt : Tryd.prog.cellsOf 3 = 1 := by kernel_rfl
theorem cellsText : Tryd.prog.cellsOf 25 = 1 := by kernel_rfl
theorem cellsTexts : Tryd.prog.cellsOf 22 = 1 := by kernel_rfl
theorem cellsNums : Tryd.prog.cellsOf 26 = 1 := by kernel_rfl
theorem cellsByte : Tryd.prog.cellsOf 5 = 1 := by kernel_rfl

theorem open_nameCell {H : Type} {enc : TypeId × Value → H} {w : World} {sp : Nat → Bool} {held : Bool} {n : Nat} {c : Value} {y : DataW H × List MemPlace} (hsp : ∀ b, sp b = true) (h : DataW.trod enc Tryd.prog w 0 sp held n 24 [c] = some y) :
  ∃ (a : Option Addr) (cap : Nat) (m : List (List Int)), c = .slice a m.length cap ∧ m.length ≤ maxLen ∧ LiesL w a m ∧ ∀ i, i < m.length → (m.getD i []).length ≤ maxLen := by
 obtain ⟨y0, k, _, _, hy⟩ := trod_struct1 Tryd.underlying24 h
 dsimp only at hy
 rw [cellsTexts] at hy
 simp only [List.drop_zero, List.take_succ_cons, List.take_zero] at hy
 obtain ⟨a, cap, m, rfl, hm, hL, hb⟩ := open_texts Tryd.underlying22 Tryd.underlying25 Tryd.underlying5 cellsText cellsByte hsp hy
 exact ⟨a, cap, m, rfl, hm, hL, fun i hi => (hb i hi).1⟩

end Go.Proofs.YthmihglfffeedaaDoor

namespace Go.Proofs.YthmihglfffeedaaDoor
open Go.RowKit Go.ChangeShapes Go.WideShapes Go.ChangeAt

set_option maxRecDepth 100000 in
theorem open_recB {H : Type} {enc : TypeId × Value → H} {w : World} {r : Reach} {b0 : Nat} {sp : Nat → Bool} {held : Bool} {v : Value} {d : DataW H} {ps : List MemPlace} (hsp : ∀ b, sp b = true)
  (hval : Value.okWide Tryd.prog w r b0 28 v) (h : DataW.Trod enc Tryd.prog w 0 sp held 28 v d ps) :
  ∃ (an : Option Addr) (cn : Nat) (ato : Option Addr) (ct : Nat) (ax : Option Addr) (cx : Nat) (ai : Option Addr) (ci : Nat) (q : Rec),
   v = .agg #[.slice an q.name.length cn, .int .i64 q.type, .int .i64 q.ttl, .int .i64 q.addr, .slice ato q.to.length ct, .slice ax q.text.length cx, .slice ai q.nums.length ci] ∧ InR w an ato ax ai q ∧ SizeR maxLen q ∧ Byt q.text := by
 obtain ⟨cs, rfl, hs⟩ := okWide_struct Tryd.underlying28 hval
 rw [cellsRr] at hs
 obtain ⟨c0, c1, c2, c3, c4, c5, c6, rfl⟩ : ∃ c0 c1 c2 c3 c4 c5 c6, cs = #[c0, c1, c2, c3, c4, c5, c6] := by
  cases cs with
  | mk l =>
   match l, hs with
   | [c0, c1, c2, c3, c4, c5, c6], _ => exact ⟨c0, c1, c2, c3, c4, c5, c6, rfl⟩
 obtain ⟨fuel, hf0⟩ := h
 have hcells : (Value.agg #[c0, c1, c2, c3, c4, c5, c6]).cells.toList = [c0, c1, c2, c3, c4, c5, c6] := by simp [Value.cells]
 rw [hcells] at hf0
 obtain ⟨xs, n, _, _, _, hlen, hf⟩ := DataW.trod_struct Tryd.underlying28 hf0
 match xs, hlen with
 | [y0, y1, y2, y3, y4, y5, y6], _ =>
  have h0 : DataW.trod enc Tryd.prog w 0 sp held n 24 (([c0, c1, c2, c3, c4, c5, c6].drop 0).take (Tryd.prog.cellsOf 24)) = some y0 := hf 0 _ rfl
  have h1 : DataW.trod enc Tryd.prog w 0 sp held n 3 (([c0, c1, c2, c3, c4, c5, c6].drop 1).take (Tryd.prog.cellsOf 3)) = some y1 := hf 1 _ rfl
  have h2 : DataW.trod enc Tryd.prog w 0 sp held n 3 (([c0, c1, c2, c3, c4, c5, c6].drop 2).take (Tryd.prog.cellsOf 3)) = some y2 := hf 2 _ rfl
  have h3 : DataW.trod enc Tryd.prog w 0 sp held n 3 (([c0, c1, c2, c3, c4, c5, c6].drop 3).take (Tryd.prog.cellsOf 3)) = some y3 := hf 3 _ rfl
  have h4 : DataW.trod enc Tryd.prog w 0 sp held n 24 (([c0, c1, c2, c3, c4, c5, c6].drop 4).take (Tryd.prog.cellsOf 24)) = some y4 := hf 4 _ rfl
  have h5 : DataW.trod enc Tryd.prog w 0 sp held n 25 (([c0, c1, c2, c3, c4, c5, c6].drop 5).take (Tryd.prog.cellsOf 25)) = some y5 := hf 5 _ rfl
  have h6 : DataW.trod enc Tryd.prog w 0 sp held n 26 (([c0, c1, c2, c3, c4, c5, c6].drop 6).take (Tryd.prog.cellsOf 26)) = some y6 := hf 6 _ rfl
  rw [cellsName] at h0 h4
  rw [cellsInt] at h1 h2 h3
  rw [cellsText] at h5
  rw [cellsNums] at h6
  simp only [List.drop_zero, List.drop_succ_cons, List.take_succ_cons, List.take_zero] at h0 h1 h2 h3 h4 h5 h6
  obtain ⟨an, cn, nm, rfl, a1, a2, a3⟩ := open_nameCell hsp h0
  obtain ⟨t1, e1, _, _⟩ := DataW.trod_int Tryd.underlying3 h1
  obtain ⟨t2, e2, _, _⟩ := DataW.trod_int Tryd.underlying3 h2
  obtain ⟨t3, e3, _, _⟩ := DataW.trod_int Tryd.underlying3 h3
  simp only [List.cons.injEq, and_true] at e1 e2 e3
  subst e1 e2 e3
  obtain ⟨ato, ct, to, rfl, f1, f2, f3⟩ := open_nameCell hsp h4
  obtain ⟨ax, cx, tx, rfl, g1, g2, g3⟩ := ints_lies Tryd.underlying25 Tryd.underlying5 cellsByte hsp h5
  obtain ⟨ai, ci, nu, rfl, k1, k2⟩ := nums_lies Tryd.underlying26 Tryd.underlying3 cellsInt hsp h6
  refine ⟨an, cn, ato, ct, ax, cx, ai, ci, ⟨nm, t1, t2, t3, to, tx, nu⟩, rfl, ⟨a2, f2, g2, k2⟩, ⟨a1, a3, f1, f3, g1, k1⟩, fun c hc => ?_⟩
  obtain ⟨i, hi, rfl⟩ := List.getElem_of_mem hc
  have h7 := g3 i
  rw [List.getD_eq_getElem?_getD, List.getElem?_eq_getElem hi] at h7
  exact h7
end Go.Proofs.YthmihglfffeedaaDoor
