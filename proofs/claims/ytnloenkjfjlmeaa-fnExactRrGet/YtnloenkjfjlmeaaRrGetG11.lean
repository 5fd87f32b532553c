/-
  Plain facts: records that are read, as answers. What classGet (l3read) and RrGet read, in plain words; and how they answer.
-/
import Derived.Test.YtnloenkjfjlmeaaRrGetG10
import Derived.Test.YtnloenkjfjlmeaaRrGetG04
import Derived.Test.YtnloenkjfjlmeaaRrGetG06
namespace Go.Proofs.Ytnloenkjfjlmeaa
open Go.RowKit
set_option linter.unusedVariables false

theorem ownN_nil (B E : Nat) (el eb : TypeId) (w : World) : OwnN B E el eb w (.slice none 0 0) [] :=
  ⟨[], by simpa using World.ownsRow_nil _ _ _ _, by simp, by simp, by simp [Value.ownBlock], by simp⟩
theorem ownB_nil (B E : Nat) (e : TypeId) (w : World) : OwnB B E e w (.slice none 0 0) [] := ⟨World.ownsRow_nil _ _ _ _, by simp [Value.ownBlock]⟩
theorem ownBI_nil (B E : Nat) (e : TypeId) (w : World) : OwnBI B E e w (.slice none 0 0) [] := ⟨World.ownsRow_nil _ _ _ _, by simp [Value.ownBlock]⟩
theorem ownR_nil {B E : Nat} (hBE : B ≤ E) (el eb ei : TypeId) (w : World) (t : Int) : OwnR B E el eb ei w (.slice none 0 0) (.slice none 0 0) (.slice none 0 0) (.slice none 0 0) (emptyR t) :=
  ⟨B, B, B, Nat.le_refl _, Nat.le_refl _, Nat.le_refl _, hBE, ownN_nil _ _ _ _ _, ownN_nil _ _ _ _ _, ownB_nil _ _ _ _, ownBI_nil _ _ _ _⟩

/-- What a reader of a record with a mark answers. -/
def GivesR (w : World) (r : Rec) (b : Bool) (e : Ending) (w' : World) : Prop :=
  ∃ vn vt vx vi, e = .returned (.tuple #[.agg #[vn, .int .i64 r.type, .int .i64 r.ttl, .int .i64 r.addr, vt, vx, vi], .bool b]) ∧ OwnR w.heap.size w'.heap.size 22 5 3 w' vn vt vx vi r ∧ Below w.heap.size w w'

theorem OwnR.wide {B E B' E' : Nat} {el eb ei : TypeId} {w : World} {vn vt vx vi : Value} {r : Rec} (h : OwnR B E el eb ei w vn vt vx vi r) (hB : B' ≤ B) (hE : E ≤ E') : OwnR B' E' el eb ei w vn vt vx vi r := by
  obtain ⟨s1, s2, s3, a1, a2, a3, a4, h1, h2, h3, h4⟩ := h
  exact ⟨s1, s2, s3, by omega, a2, a3, by omega, h1.wide hB (Nat.le_refl _), h2, h3, h4.wide (Nat.le_refl _) hE⟩
theorem dataGet_in {t : Int} {l : List Int} {p n : Int} (ht : typeOk t = true) (hl : l.length ≤ 512) (hp : 0 ≤ p) (hn0 : 0 ≤ n) (hn1 : n ≤ 512) :
    dataGet t l p n = if (kindGet t l p).2 < 0 ∨ (kindGet t l p).2 - p ≠ n ∨ rrOk (kindGet t l p).1 = false then (emptyR 0, false) else ((kindGet t l p).1, true) := by
  unfold dataGet
  by_cases h : (kindGet t l p).2 < 0 ∨ (kindGet t l p).2 - p ≠ n ∨ rrOk (kindGet t l p).1 = false
  · rw [if_pos h, if_pos (.inr (.inr (.inr (.inr (.inr h)))))]
  · rw [if_neg h, if_neg]
    rintro (q | q | q | q | q | q)
    · rw [ht] at q; cases q
    · omega
    · omega
    · omega
    · omega
    · exact h q
theorem dataGet_out {t : Int} {l : List Int} {p n : Int} (h : typeOk t = false ∨ 512 < l.length ∨ p < 0 ∨ n < 0 ∨ 512 < n) : dataGet t l p n = (emptyR 0, false) := by
  unfold dataGet
  rw [if_pos]
  rcases h with q | q | q | q | q
  · exact .inl q
  · exact .inr (.inl q)
  · exact .inr (.inr (.inl q))
  · exact .inr (.inr (.inr (.inl q)))
  · exact .inr (.inr (.inr (.inr (.inl q))))
theorem kindGet_size (t : Int) (l : List Int) (p : Int) (h : rrOk (kindGet t l p).1 = true) (hl : l.length ≤ 512) : SizeR 512 (kindGet t l p).1 := by
  have hn := nameGet_bound l p
  have ht : (countedOf l p).1.length ≤ 512 := by
    unfold countedOf
    split
    · simp
    · have := takeOf_length l (takeOf l p 1).2 (l.getD p.toNat 0); omega
  unfold kindGet
  split
  · exact ⟨by simp, by simp, by simp, by simp, by simp, by simp⟩
  split
  · exact ⟨by simp, by simp, by show (nameGet l p).1.length ≤ 512; omega, fun i hi => by have := hn.2 i hi; show ((nameGet l p).1.getD i []).length ≤ 512; omega, by simp, by simp⟩
  split
  · exact ⟨by simp, by simp, by show (nameGet l p).1.length ≤ 512; omega, fun i hi => by have := hn.2 i hi; show ((nameGet l p).1.getD i []).length ≤ 512; omega, by simp, by simp⟩
  · exact ⟨by simp, by simp, by simp, by simp, ht, by simp⟩
theorem dataGet_size (t : Int) (l : List Int) (p n : Int) : SizeR 512 (dataGet t l p n).1 := by
  by_cases h : typeOk t = false ∨ 512 < l.length ∨ p < 0 ∨ n < 0 ∨ 512 < n ∨ (kindGet t l p).2 < 0 ∨ (kindGet t l p).2 - p ≠ n ∨ rrOk (kindGet t l p).1 = false
  · unfold dataGet; rw [if_pos h]; exact ⟨by simp [emptyR], by simp [emptyR], by simp [emptyR], by simp [emptyR], by simp [emptyR], by simp [emptyR]⟩
  · have e : dataGet t l p n = ((kindGet t l p).1, true) := by unfold dataGet; rw [if_neg h]
    rw [e]
    refine kindGet_size t l p ?_ (by omega)
    cases q : rrOk (kindGet t l p).1 with
    | true => rfl
    | false => exact absurd (.inr (.inr (.inr (.inr (.inr (.inr (.inr q))))))) h
end Go.Proofs.Ytnloenkjfjlmeaa

namespace Go.Proofs.Ytnloenkjfjlmeaa
open Go.RowKit
set_option linter.unusedVariables false

/-- The places behind a record's parts: name, type, class, time, size. -/
def e0 (l : List Int) (p : Int) : Int := (nameGet l p).2
def e1 (l : List Int) (p : Int) : Int := (get16 l (e0 l p)).2
def e2 (l : List Int) (p : Int) : Int := (get16 l (e1 l p)).2
def e3 (l : List Int) (p : Int) : Int := (get32 l (e2 l p)).2
def e4 (l : List Int) (p : Int) : Int := (get16 l (e3 l p)).2
def tyAt (l : List Int) (p : Int) : Int := (get16 l (e0 l p)).1
def clAt (l : List Int) (p : Int) : Int := (get16 l (e1 l p)).1
def ttAt (l : List Int) (p : Int) : Int := (get32 l (e2 l p)).1
def szAt (l : List Int) (p : Int) : Int := (get16 l (e3 l p)).1
def dtAt (l : List Int) (p : Int) : Rec × Bool := dataGet (tyAt l p) l (e4 l p) (szAt l p)

/-- r with this name and this time. -/
def named2 (r : Rec) (n : List (List Int)) (t : Int) : Rec := ⟨n, r.type, t, r.addr, r.to, r.text, r.nums⟩
def recAt (l : List Int) (p : Int) : Rec := named2 (dtAt l p).1 (nameGet l p).1 (ttAt l p)
def readAt (l : List Int) (p : Int) : Rec × Int × Int := if (dtAt l p).2 = true ∧ rrOk (recAt l p) = true then (recAt l p, clAt l p, e4 l p + szAt l p) else (emptyR 0, 0, -1)
def rrGet (l : List Int) (p : Int) : Rec × Int := if (readAt l p).2.1 = 1 then ((readAt l p).1, (readAt l p).2.2) else (emptyR 0, -1)

theorem dataGet_yes {t : Int} {l : List Int} {p n : Int} (h : (dataGet t l p n).2 = true) : typeOk t = true ∧ l.length ≤ 512 ∧ 0 ≤ p ∧ 0 ≤ n ∧ n ≤ 512 ∧ p + n ≤ l.length := by
  unfold dataGet at h
  split at h
  · cases h
  · rename_i hc
    have he := kindGet_end t l p
    have ht : typeOk t = true := by
      cases q : typeOk t with
      | true => rfl
      | false => exact absurd (.inl q) hc
    exact ⟨ht, by omega, by omega, by omega, by omega, by omega⟩
theorem dataGet_no {t : Int} {l : List Int} {p n : Int} (h : (dataGet t l p n).2 = false) : (dataGet t l p n).1 = emptyR 0 := by
  unfold dataGet at h ⊢
  split at h
  · rename_i hc; rw [if_pos hc]
  · cases h
theorem named2_size {r : Rec} {n : List (List Int)} {t : Int} (h : SizeR 512 r) (h1 : n.length ≤ 6) (h2 : ∀ i, i < n.length → (n.getD i []).length ≤ 15) : SizeR 512 (named2 r n t) :=
  ⟨by show n.length ≤ 512; omega, fun i hi => by have := h2 i hi; show (n.getD i []).length ≤ 512; omega, h.to, h.tos, h.text, h.nums⟩
theorem emptyR_size (t : Int) : SizeR 512 (emptyR t) := ⟨by simp [emptyR], by simp [emptyR], by simp [emptyR], by simp [emptyR], by simp [emptyR], by simp [emptyR]⟩
theorem readAt_size (l : List Int) (p : Int) : SizeR 512 (readAt l p).1 := by
  unfold readAt
  split
  · exact named2_size (dataGet_size _ _ _ _) (nameGet_bound l p).1 (nameGet_bound l p).2
  · exact emptyR_size 0
theorem rrGet_size (l : List Int) (p : Int) : SizeR 512 (rrGet l p).1 := by
  unfold rrGet
  split
  · exact readAt_size l p
  · exact emptyR_size 0

/-- What a reader of a record with a number answers. -/
def GivesN (w : World) (r : Rec) (x : Int) (e : Ending) (w' : World) : Prop :=
  ∃ vn vt vx vi, e = .returned (.tuple #[.agg #[vn, .int .i64 r.type, .int .i64 r.ttl, .int .i64 r.addr, vt, vx, vi], .int .i64 x]) ∧ OwnR w.heap.size w'.heap.size 22 5 3 w' vn vt vx vi r ∧ Below w.heap.size w w'
/-- What a reader of a record with two numbers answers. -/
def GivesC (w : World) (r : Rec) (c x : Int) (e : Ending) (w' : World) : Prop :=
  ∃ vn vt vx vi, e = .returned (.tuple #[.agg #[vn, .int .i64 r.type, .int .i64 r.ttl, .int .i64 r.addr, vt, vx, vi], .int .i64 c, .int .i64 x]) ∧ OwnR w.heap.size w'.heap.size 22 5 3 w' vn vt vx vi r ∧ Below w.heap.size w w'

/-- A struct that lies in a block of its own and two values, as a function's three results. -/
theorem results_cell_tmp2 {fn : Func} {p u u2 : Tmp} {ty : TypeId} (h : fn.results = #[.cell p ty, .tmp u, .tmp u2]) (tmps : Array Value) (P : Program) (w : World) :
    (results fn tmps).run P w =
      ((asAddr (tmps.getD p undef)).run P w).andThen fun a w₁ => ((loadVar ty a).run P w₁).andThen fun v w₂ => .ok (.tuple #[v, tmps.getD u undef, tmps.getD u2 undef]) w₂ := by
  simp only [results, h]
  simp [Sem.run_bind, Result.andThen]
theorem results_cell_tmp2_row {P : Program} {fn : Func} {p u u2 : Tmp} {ty : TypeId} (h : fn.results = #[.cell p ty, .tmp u, .tmp u2]) (tmps : Array Value) (w : World) (g : Nat) (t : TypeId) (cs : Array Value) (fr : Nat × Nat) (d : TypeDesc)
    (hp : tmps.getD p undef = .pointer (some ⟨g, 0, none⟩)) (hg : w.heap[g]? = some (.cells cs t fr))
    (hu : P.underlying ty = some d) (hd : (match d with | .struct _ | .array _ _ => true | _ => false) = true) (hi : (P.info? ty).map (·.size) = some cs.size) :
    (results fn tmps).run P w = .ok (.tuple #[.agg cs, tmps.getD u undef, tmps.getD u2 undef]) w := by
  rw [results_cell_tmp2 h, hp]
  simp [asAddr, run_loadVar_row w g t ty cs fr d hg hu hd hi]

theorem OwnR.named2 {C B E : Nat} {el eb ei : TypeId} {w : World} {vn vn' vt vx vi : Value} {r : Rec} {n : List (List Int)} (t : Int) (h : OwnR B E el eb ei w vn vt vx vi r) (hn : OwnN C B el eb w vn' n) (hC : C ≤ B) : OwnR C E el eb ei w vn' vt vx vi (named2 r n t) := by
  obtain ⟨s1, s2, s3, a1, a2, a3, a4, h1, h2, h3, h4⟩ := h
  exact ⟨B, s2, s3, hC, by omega, a3, a4, hn, h2.wide a1 (Nat.le_refl _), h3, h4⟩
theorem ends_le (l : List Int) (p : Int) : e0 l p ≤ l.length ∧ e1 l p ≤ l.length ∧ e2 l p ≤ l.length ∧ e3 l p ≤ l.length ∧ e4 l p ≤ l.length := by
  have a := nameGet_end l p
  have b := get16_end l (e0 l p)
  have c := get16_end l (e1 l p)
  have d := get32_end l (e2 l p)
  have f := get16_end l (e3 l p)
  unfold e4 e3 e2 e1 e0 at *
  omega
theorem readAt_class {l : List Int} {p : Int} (h : (readAt l p).2.1 = 1) : 0 ≤ (readAt l p).2.2 ∧ l.length ≤ 512 := by
  unfold readAt at h ⊢
  split at h
  · rename_i hc
    rw [if_pos hc]
    obtain ⟨_, h1, h2, h3, _⟩ := dataGet_yes hc.1
    exact ⟨by show 0 ≤ e4 l p + szAt l p; unfold szAt at *; omega, h1⟩
  · simp at h
end Go.Proofs.Ytnloenkjfjlmeaa
