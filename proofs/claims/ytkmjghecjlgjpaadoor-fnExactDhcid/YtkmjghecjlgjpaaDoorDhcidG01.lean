/-
  What is known of a name that came in as an argument: a struct of one slice of slices of bytes, wherever they lie. What is known of the type byte in this program.
-/
import Derived.Test.YtkmjghecjlgjpaaDoorDhcidG00
import Derived.ProofKit
import Derived.ChangeArms
import Derived.ChangeSame
import Derived.ChangeSlices
import Derived.Test.YtkmjghecjlgjpaaDoorProg
namespace Go.Proofs.YtkmjghecjlgjpaaDoor
open Go.RowKit Go.ChangeShapes Go.WideShapes Go.ChangeAt

theorem ints_lies {H : Type} {enc : TypeId × Value → H} {P : Program} {w : World} {sp : Nat → Bool} {held : Bool} {t e : TypeId} {fuel : Nat} {v : Value} {x : DataW H × List MemPlace}
  (ht : P.underlying t = some (.slice e)) (he : P.underlying e = some (.int .u8)) (hc : P.cellsOf e = 1) (hsp : ∀ b, sp b = true) (h : DataW.trod enc P w 0 sp held fuel t [v] = some x) :
  ∃ (a : Option Addr) (cap : Nat) (l : List Int), v = .slice a l.length cap ∧ l.length ≤ maxLen ∧ Lies w a l ∧ ∀ k, 0 ≤ l.getD k 0 ∧ l.getD k 0 ≤ 255 := by
 have key : ∃ a len cap zs, v = .slice a len cap ∧ IsRow .u8 w a len cap zs := by
  rcases open_ints ht he hc h with ⟨hcs, _⟩ | ⟨x, l, c, zs, hcs, _, hl, hm, hz, _, hcell, hwz⟩
  ·simp at hcs
   exact ⟨none, 0, 0, [], hcs, .inl ⟨rfl, rfl, rfl, rfl⟩⟩
  ·simp at hcs
   exact ⟨some x, l, c, zs, hcs, .inr ⟨_, rfl, hl, hm, by simpa [hsp] using hz, hcell, hwz⟩⟩
 obtain ⟨a, len, cap, zs, rfl, hr⟩ := key
 obtain ⟨l, rfl, hm, hL, hb⟩ := isRow_lies hr
 exact ⟨a, cap, l, rfl, hm, hL, hb⟩

theorem open_texts {H : Type} {enc : TypeId × Value → H} {P : Program} {w : World} {sp : Nat → Bool} {held : Bool} {t e u : TypeId} {fuel : Nat} {v : Value} {x : DataW H × List MemPlace}
  (ht : P.underlying t = some (.slice e)) (he : P.underlying e = some (.slice u)) (hu : P.underlying u = some (.int .u8)) (hc : P.cellsOf e = 1) (hcu : P.cellsOf u = 1) (hsp : ∀ b, sp b = true)
  (h : DataW.trod enc P w 0 sp held fuel t [v] = some x) :
  ∃ (a : Option Addr) (cap : Nat) (n : List (List Int)), v = .slice a n.length cap ∧ n.length ≤ maxLen ∧ LiesL w a n ∧ ∀ i, i < n.length → (n.getD i []).length ≤ maxLen ∧ ∀ k, 0 ≤ (n.getD i []).getD k 0 ∧ (n.getD i []).getD k 0 ≤ 255 := by
 rcases DataW.trod_slice ht h with ⟨hv, _⟩ | ⟨a, len, cap, elems, rest, n, _, hcs, hx, _, hl, hm, hlen, hel, _⟩
 ·simp at hv
  exact ⟨none, 0, [], hv, Nat.zero_le _, .inl rfl, by simp⟩
 ·simp at hcs
  subst hcs
  have each : ∀ i, i < len → ∃ c : Value, w.cell? (a.add i) = some c ∧ ∃ y, DataW.trod enc P w 0 sp held n e [c] = some y := by
   intro i hi
   have hE := hel i hi
   rw [hc, Nat.mul_one] at hE
   have hi' : i < elems.length := by omega
   rw [List.getElem?_eq_getElem hi'] at hE
   simp only [Option.bind_eq_some_iff] at hE
   obtain ⟨c1, hc1, hy1⟩ := hE
   have e0 : (a.add i).add 0 = a.add i := by simp [Addr.add]
   have : ∃ c, c1 = [c] ∧ w.cell? (a.add i) = some c := by
    unfold World.cells? at hc1
    split at hc1
    ·simp only [List.range_succ, List.range_zero, List.nil_append, List.mapM_cons, List.mapM_nil, e0] at hc1
     cases hcc : w.cell? (a.add i) with
     | none => simp [hcc] at hc1
     | some c => simp [hcc] at hc1; exact ⟨c, hc1.symm, rfl⟩
    ·cases hc1
   obtain ⟨c, rfl, hcell⟩ := this
   exact ⟨c, hcell, _, hy1⟩
  have each2 : ∀ i, i < len → ∃ (l : List Int), l.length ≤ maxLen ∧ (∀ k, 0 ≤ l.getD k 0 ∧ l.getD k 0 ≤ 255) ∧ ∃ ia ic, w.cell? (a.add i) = some (.slice ia l.length ic) ∧ Lies w ia l := by
   intro i hi
   obtain ⟨c, hcell, y, hy⟩ := each i hi
   obtain ⟨ia, ic, l, rfl, h1, h2, h3⟩ := ints_lies he hu hcu hsp hy
   exact ⟨l, h1, h3, ia, ic, hcell, h2⟩
  have hch : ∃ L : Nat → List Int, ∀ i, i < len → (L i).length ≤ maxLen ∧ (∀ k, 0 ≤ (L i).getD k 0 ∧ (L i).getD k 0 ≤ 255) ∧ ∃ ia ic, w.cell? (a.add i) = some (.slice ia (L i).length ic) ∧ Lies w ia (L i) := by
   refine ⟨fun i => if hi : i < len then (each2 i hi).choose else [], fun i hi => ?_⟩
   simp only [hi, dite_true]
   exact (each2 i hi).choose_spec
  obtain ⟨L, hL⟩ := hch
  have hln : ((List.range len).map L).length = len := by simp
  have hget : ∀ i, i < len → ((List.range len).map L).getD i [] = L i := fun i hi => by simp [hi]
  refine ⟨some a, cap, (List.range len).map L, by rw [hln], by omega, ?_, ?_⟩
  ·by_cases h0 : len = 0
   ·subst h0; exact .inl (by simp)
   ·right
    obtain ⟨b, off, spot⟩ := a
    obtain ⟨c, hc0, _⟩ := each 0 (by omega)
    have hspot : spot = none := by simpa [Addr.add] using World.cell?_spot hc0
    subst hspot
    refine ⟨b, off, rfl, cell_lt hc0, fun i hi => ?_⟩
    rw [hln] at hi
    rw [hget i hi]
    obtain ⟨_, _, ia, ic, h1, h2⟩ := hL i hi
    rw [Addr.add_lit] at h1
    exact ⟨ia, ic, h1, h2⟩
  ·intro i hi
   rw [hln] at hi
   rw [hget i hi]
   exact ⟨(hL i hi).1, (hL i hi).2.1⟩

/-- A name: a struct whose one field is such a slice. -/
theorem open_name {H : Type} {enc : TypeId × Value → H} {P : Program} {w : World} {r : Reach} {b0 : Nat} {sp : Nat → Bool} {held : Bool} {tn t e u : TypeId} {f0 : Field} {v : Value} {d : DataW H} {ps : List MemPlace}
  (hn : P.underlying tn = some (.struct #[f0])) (hf : f0.type = t) (ho : f0.offset = 0) (h1 : P.cellsOf tn = 1) (h1' : P.cellsOf t = 1)
  (ht : P.underlying t = some (.slice e)) (he : P.underlying e = some (.slice u)) (hu : P.underlying u = some (.int .u8)) (hc : P.cellsOf e = 1) (hcu : P.cellsOf u = 1) (hsp : ∀ b, sp b = true)
  (hval : Value.okWide P w r b0 tn v) (h : DataW.Trod enc P w 0 sp held tn v d ps) :
  ∃ (a : Option Addr) (cap : Nat) (n : List (List Int)), v = .agg #[.slice a n.length cap] ∧ n.length ≤ maxLen ∧ LiesL w a n ∧ ∀ i, i < n.length → (n.getD i []).length ≤ maxLen ∧ ∀ k, 0 ≤ (n.getD i []).getD k 0 ∧ (n.getD i []).getD k 0 ≤ 255 := by
 obtain ⟨cs, rfl, hs⟩ := okWide_struct hn hval
 rw [h1] at hs
 obtain ⟨c, rfl⟩ : ∃ c, cs = #[c] := by
  cases cs with
  | mk l =>
   match l, hs with
   | [c], _ => exact ⟨c, rfl⟩
 obtain ⟨fuel, hf0⟩ := h
 have hcells : (Value.agg #[c]).cells.toList = [c] := by simp [Value.cells]
 rw [hcells] at hf0
 obtain ⟨y0, n, _, _, hy⟩ := trod_struct1 hn hf0
 rw [hf, ho, h1'] at hy
 simp only [List.drop_zero, List.take_succ_cons, List.take_zero] at hy
 obtain ⟨a, cap, m, rfl, hm, hL, hb⟩ := open_texts ht he hu hc hcu hsp hy
 exact ⟨a, cap, m, rfl, hm, hL, hb⟩
end Go.Proofs.YtkmjghecjlgjpaaDoor

namespace Go.Proofs.YtkmjghecjlgjpaaDoor
open Go.RowKit

theorem info_u8 : (Tryd.prog.info? 5).map (fun i => (i.zero, i.size, i.bytes)) = some (some (.int .u8 0), 1, 1) := by kernel_rfl
end Go.Proofs.YtkmjghecjlgjpaaDoor
