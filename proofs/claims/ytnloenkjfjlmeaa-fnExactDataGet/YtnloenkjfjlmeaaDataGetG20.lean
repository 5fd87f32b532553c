/-
  Contracts of the program's data: what each kind reads. Plain facts: records that are read, as answers.
-/
import Derived.Test.YtnloenkjfjlmeaaDataGetG10
import Derived.Test.YtnloenkjfjlmeaaDataGetG16
import Derived.Test.YtnloenkjfjlmeaaDataGetG17
import Derived.Test.YtnloenkjfjlmeaaDataGetG19
import Derived.Test.YtnloenkjfjlmeaaDataGetG04
namespace Go.Proofs.Ytnloenkjfjlmeaa
open Go.RowKit
set_option linter.unusedVariables false

set_option maxHeartbeats 400000 in
set_option maxRecDepth 100000 in
theorem addrGet_own {B : Nat} {v : Value} {l : List Int} (x p : Int) {w : World} (h : Own B 5 w v l) (hl : l.length ≤ 512) (hp : p ≤ 9223372036854775807) (hb : Bytes8 l) :
    Calls Try.prog 157 #[.agg #[.int .i64 x], v, .int .i64 p] w fun e w' => e = .returned (.tuple #[.iface 126 (.agg #[.int .i64 (get32 l p).1]), .int .i64 (get32 l p).2]) ∧ Below w.heap.size w w' := by
  have b0 := below_alloc (w := w) (.cells #[.int .i64 x] 126)
  have HG := hide (implGet32_any p (h.below b0) (by omega) hp hb)
  obtain ⟨a, cap, rfl, _⟩ := h.lies
  generalize (get32 l p).1 = g1 at *
  generalize (get32 l p).2 = g2 at *
  clear h
  go_enter Try.func157, Try.ntmps157
  go_wp2_with fail
  refine (unhide HG).mono ?_
  rintro e w1 ⟨rfl, b1⟩
  go_wp2_with fail
  go_ret2
  exact ⟨rfl, below_next b0 b1⟩

set_option maxHeartbeats 400000 in
set_option maxRecDepth 100000 in
theorem nameGetM_own {B : Nat} {v x : Value} {l : List Int} (p : Int) {w : World} (h : Own B 5 w v l) (hl : l.length ≤ 512) (hp : p ≤ 9223372036854775807) (hb : Bytes8 l) :
    Calls Try.prog 161 #[.agg #[.slice none 0 0], v, .int .i64 p] w fun e w' => ∃ v', e = .returned (.tuple #[.iface 128 (.agg #[v']), .int .i64 (nameGet l p).2]) ∧ OwnL w.heap.size 22 5 w' v' (nameGet l p).1 ∧ Below w.heap.size w w' := by
  have b0 := below_alloc (w := w) (.cells #[.slice none 0 0] 128)
  have HG := hide (implNameGet_own p (h.below b0) (by omega) hp hb)
  obtain ⟨a, cap, rfl, _⟩ := h.lies
  generalize (nameGet l p).1 = g1 at *
  generalize (nameGet l p).2 = g2 at *
  clear h
  go_enter Try.func161, Try.ntmps161
  go_wp2_with fail
  refine (unhide HG).mono ?_
  rintro e w1 ⟨v1, rfl, o1, b1⟩
  obtain ⟨oa, oc, rfl, _⟩ := o1.hasL.form
  have b2 := below_alloc (w := w1) (.cells #[.slice oa g1.length oc] 25)
  have O2 := hide (o1.below b2)
  have c2 := block_one (heap_alloc_new w1 (.cells #[.slice oa g1.length oc] 25))
  have z0 := b0.size
  clear o1
  go_wp2_with fail
  go_ret2
  exact ⟨_, rfl, (unhide O2).mono (by omega), below_next (below_next b0 b1) b2⟩

set_option maxHeartbeats 800000 in
set_option maxRecDepth 100000 in
theorem soaGet_own {B : Nat} {v : Value} {l : List Int} (p : Int) {w : World} (h : Own B 5 w v l) (hl : l.length ≤ 512) (hp : p ≤ 9223372036854775807) (hb : Bytes8 l) :
    Calls Try.prog 165 #[.agg #[.slice none 0 0, .slice none 0 0], v, .int .i64 p] w fun e w' => ∃ v' u' s, e = .returned (.tuple #[.iface 130 (.agg #[v', u']), .int .i64 (get32 l (get32 l (nameGet l p).2).2).2]) ∧ w.heap.size ≤ s ∧ s ≤ w'.heap.size ∧ OwnN w.heap.size s 22 5 w' v' (nameGet l p).1 ∧ OwnBI s w'.heap.size 3 w' u' [(get32 l (nameGet l p).2).1, (get32 l (get32 l (nameGet l p).2).2).1] ∧ Below w.heap.size w w' := by
  have b0 := below_alloc (w := w) (.cells #[.slice none 0 0, .slice none 0 0] 130)
  have HG := hide (implNameGet_own p (h.below b0) (by omega) hp hb)
  have e1 := nameGet_end l p
  have e2 := get32_end l (nameGet l p).2
  have H0 := hide (h.below b0)
  obtain ⟨a, cap, rfl, _⟩ := h.lies
  have H32 := hide (fun (w : World) (q : Int) (hq : q ≤ 9223372036854775807) (h : Own B 5 w (.slice a l.length cap) l) => implGet32_any q h (by omega) hq hb)
  have P1 := hide (fun (w : World) (h : Own B 5 w (.slice a l.length cap) l) => unhide H32 w (nameGet l p).2 (by omega) h)
  have P2 := hide (fun (w : World) (h : Own B 5 w (.slice a l.length cap) l) => unhide H32 w (get32 l (nameGet l p).2).2 (by omega) h)
  clear H32 h
  generalize (get32 l (get32 l (nameGet l p).2).2).1 = y1 at *
  generalize (get32 l (get32 l (nameGet l p).2).2).2 = y2 at *
  generalize (get32 l (nameGet l p).2).1 = x1 at *
  generalize (get32 l (nameGet l p).2).2 = x2 at *
  generalize (nameGet l p).1 = g1 at *
  generalize (nameGet l p).2 = g2 at *
  go_enter Try.func165, Try.ntmps165
  go_wp2_with fail
  generalize w.alloc (.cells #[.slice none 0 0, .slice none 0 0] 130) = W at *
  refine (unhide HG).mono ?_
  rintro e w1 ⟨v1, rfl, o1, b1⟩
  obtain ⟨oa, oc, rfl, _⟩ := o1.hasL.form
  have b2 := below_alloc (w := w1) (.cells #[.slice oa g1.length oc] 25)
  have K2 := hide (heap_alloc_new w1 (.cells #[.slice oa g1.length oc] 25))
  have O2 := hide (o1.below b2)
  have A2 := hide (((unhide H0).below b1).below b2)
  have bb2 := below_next (below_next b0 b1) b2
  have z0 := b0.size
  have z1 := b1.size
  have z2 := b2.size
  clear o1 b1 b2 H0
  go_wp2_with fail
  generalize w1.alloc (.cells #[.slice oa g1.length oc] 25) = w2 at *
  have zk := block_lt (unhide K2)
  refine (unhide P1 _ (unhide A2)).mono ?_
  rintro e w3 ⟨rfl, b3⟩
  have K3 := hide (block_kept b3 (unhide K2))
  have O3 := hide ((unhide O2).below b3)
  have A3 := hide ((unhide A2).below b3)
  have bb3 := below_next bb2 b3
  have z3 := b3.size
  clear K2 O2 A2 b3 bb2
  go_wp2_with fail
  refine (unhide P2 _ (unhide A3)).mono ?_
  rintro e w4 ⟨rfl, b4⟩
  have c4 := block_one (block_kept b4 (unhide K3))
  have O4 := hide ((unhide O3).below b4)
  have bb4 := below_next bb3 b4
  have z4 := b4.size
  clear K3 O3 A3 b4 bb3
  have b5 := below_alloc (w := w4) (.cells #[.int .i64 x1, .int .i64 y1] 3)
  have ca5 : ∀ o, (w4.alloc o).cell? ⟨w1.heap.size, 0, none⟩ = some (.slice oa g1.length oc) := fun o => ((below_alloc (w := w4) o).cell (p := ⟨w1.heap.size, 0, none⟩) (by show w1.heap.size < w4.heap.size; omega)).trans c4
  have I5 := hide (own_litI2 w4 w4.heap.size 3 x1 y1 (Nat.le_refl _))
  have z5 := b5.size
  go_wp2_with fail
  go_ret2
  exact ⟨_, _, w4.heap.size, rfl, by omega, by omega, ((unhide O4).here.wide (by omega) (Nat.le_refl _)).below b5, (unhide I5).here, below_next bb4 b5⟩

set_option maxHeartbeats 400000 in
set_option maxRecDepth 100000 in
theorem textGet_own {B : Nat} {v : Value} {l : List Int} (p : Int) {w : World} (h : Own B 5 w v l) (hl : l.length ≤ 512) (hp : p ≤ 9223372036854775807) (hb : Bytes8 l) :
    Calls Try.prog 169 #[.agg #[.slice none 0 0], v, .int .i64 p] w fun e w' => ∃ v', e = .returned (.tuple #[.iface 132 (.agg #[v']), .int .i64 (countedOf l p).2]) ∧ Own w.heap.size 5 w' v' (countedOf l p).1 ∧ Below w.heap.size w w' := by
  have b0 := below_alloc (w := w) (.cells #[.slice none 0 0] 132)
  have HG := hide (countedGet_own p (h.below b0) (by omega) hp hb)
  obtain ⟨a, cap, rfl, _⟩ := h.lies
  generalize (countedOf l p).1 = g1 at *
  generalize (countedOf l p).2 = g2 at *
  clear h
  go_enter Try.func169, Try.ntmps169
  go_wp2_with fail
  refine (unhide HG).mono ?_
  rintro e w1 ⟨v1, rfl, o1, b1⟩
  obtain ⟨oa, oc, rfl, _⟩ := o1.lies
  have z0 := b0.size
  have O1 := hide o1
  clear o1
  go_wp2_with fail
  go_ret2
  exact ⟨_, rfl, (unhide O1).mono (by omega), below_next b0 b1⟩
end Go.Proofs.Ytnloenkjfjlmeaa

namespace Go.Proofs.Ytnloenkjfjlmeaa
open Go.RowKit
set_option linter.unusedVariables false

theorem ownN_nil (B E : Nat) (el eb : TypeId) (w : World) : OwnN B E el eb w (.slice none 0 0) [] :=
  ⟨[], by simpa using World.ownsRow_nil _ _ _ _, by simp, by simp, by simp [Value.ownBlock], by simp⟩
theorem ownB_nil (B E : Nat) (e : TypeId) (w : World) : OwnB B E e w (.slice none 0 0) [] := ⟨World.ownsRow_nil _ _ _ _, by simp [Value.ownBlock]⟩
theorem ownBI_nil (B E : Nat) (e : TypeId) (w : World) : OwnBI B E e w (.slice none 0 0) [] := ⟨World.ownsRow_nil _ _ _ _, by simp [Value.ownBlock]⟩
theorem ownR_nil {B E : Nat} (hBE : B ≤ E) (el eb ei : TypeId) (w : World) (t : Int) : OwnR B E el eb ei w (.slice none 0 0) (.slice none 0 0) (.slice none 0 0) (.slice none 0 0) (emptyR t) :=
  ⟨B, B, B, Nat.le_refl _, Nat.le_refl _, Nat.le_refl _, hBE, ownN_nil _ _ _ _ _, ownN_nil _ _ _ _ _, ownB_nil _ _ _ _, ownBI_nil _ _ _ _⟩

/-- What a reader of a record with a mark answers. -/
def GivesR (w : World) (r : Rec) (b : Bool) (e : Ending) (w' : World) : Prop :=
  ∃ vn vt vx vi, e = .returned (.tuple #[.agg #[vn, .int .i64 r.type, .int .i64 r.ttl, .int .i64 r.addr, vt, vx, vi], .bool b]) ∧ OwnR w.heap.size w'.heap.size 22 5 3 w' vn vt vx vi r ∧ Below w.heap.size w w'

theorem OwnR.wide {B E B' E' : Nat} {el eb ei : TypeId} {w : World} {vn vt vx vi : Value} {r : Rec} (h : OwnR B E el eb ei w vn vt vx vi r) (hB : B' ≤ B) (hE : E ≤ E') : OwnR B' E' el eb ei w vn vt vx vi r := by
  obtain ⟨s1, s2, s3, a1, a2, a3, a4, h1, h2, h3, h4⟩ := h
  exact ⟨s1, s2, s3, by omega, a2, a3, by omega, h1.wide hB (Nat.le_refl _), h2, h3, h4.wide (Nat.le_refl _) hE⟩
theorem dataGet_in {t : Int} {l : List Int} {p n : Int} (ht : typeOk t = true) (hl : l.length ≤ 512) (hp : 0 ≤ p) (hn0 : 0 ≤ n) (hn1 : n ≤ 512) :
    dataGet t l p n = if (kindGet t l p).2 < 0 ∨ (kindGet t l p).2 - p ≠ n ∨ rrOk (kindGet t l p).1 = false then (emptyR 0, false) else ((kindGet t l p).1, true) := by
  unfold dataGet
  by_cases h : (kindGet t l p).2 < 0 ∨ (kindGet t l p).2 - p ≠ n ∨ rrOk (kindGet t l p).1 = false
  · rw [if_pos h, if_pos (.inr (.inr (.inr (.inr (.inr h)))))]
  · rw [if_neg h, if_neg]
    rintro (q | q | q | q | q | q)
    · rw [ht] at q; cases q
    · omega
    · omega
    · omega
    · omega
    · exact h q
theorem dataGet_out {t : Int} {l : List Int} {p n : Int} (h : typeOk t = false ∨ 512 < l.length ∨ p < 0 ∨ n < 0 ∨ 512 < n) : dataGet t l p n = (emptyR 0, false) := by
  unfold dataGet
  rw [if_pos]
  rcases h with q | q | q | q | q
  · exact .inl q
  · exact .inr (.inl q)
  · exact .inr (.inr (.inl q))
  · exact .inr (.inr (.inr (.inl q)))
  · exact .inr (.inr (.inr (.inr (.inl q))))
theorem kindGet_size (t : Int) (l : List Int) (p : Int) (h : rrOk (kindGet t l p).1 = true) (hl : l.length ≤ 512) : SizeR 512 (kindGet t l p).1 := by
  have hn := nameGet_bound l p
  have ht : (countedOf l p).1.length ≤ 512 := by
    unfold countedOf
    split
    · simp
    · have := takeOf_length l (takeOf l p 1).2 (l.getD p.toNat 0); omega
  unfold kindGet
  split
  · exact ⟨by simp, by simp, by simp, by simp, by simp, by simp⟩
  split
  · exact ⟨by simp, by simp, by show (nameGet l p).1.length ≤ 512; omega, fun i hi => by have := hn.2 i hi; show ((nameGet l p).1.getD i []).length ≤ 512; omega, by simp, by simp⟩
  split
  · exact ⟨by simp, by simp, by show (nameGet l p).1.length ≤ 512; omega, fun i hi => by have := hn.2 i hi; show ((nameGet l p).1.getD i []).length ≤ 512; omega, by simp, by simp⟩
  · exact ⟨by simp, by simp, by simp, by simp, ht, by simp⟩
theorem dataGet_size (t : Int) (l : List Int) (p n : Int) : SizeR 512 (dataGet t l p n).1 := by
  by_cases h : typeOk t = false ∨ 512 < l.length ∨ p < 0 ∨ n < 0 ∨ 512 < n ∨ (kindGet t l p).2 < 0 ∨ (kindGet t l p).2 - p ≠ n ∨ rrOk (kindGet t l p).1 = false
  · unfold dataGet; rw [if_pos h]; exact ⟨by simp [emptyR], by simp [emptyR], by simp [emptyR], by simp [emptyR], by simp [emptyR], by simp [emptyR]⟩
  · have e : dataGet t l p n = ((kindGet t l p).1, true) := by unfold dataGet; rw [if_neg h]
    rw [e]
    refine kindGet_size t l p ?_ (by omega)
    cases q : rrOk (kindGet t l p).1 with
    | true => rfl
    | false => exact absurd (.inr (.inr (.inr (.inr (.inr (.inr (.inr q))))))) h
end Go.Proofs.Ytnloenkjfjlmeaa
