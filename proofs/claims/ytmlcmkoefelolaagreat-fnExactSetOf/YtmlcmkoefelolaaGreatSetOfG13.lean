/-
  Plain facts: a name that ends with another, and the end of a list of texts in memory. No program is named here. Plain facts: whether a book has a record of a name, or of one under it. No program is named here. Plain facts: an append of bytes in a fenced walk. No program is named here.
-/
import Derived.Test.YtmlcmkoefelolaaGreatSetOfG12
import Derived.Test.YtmlcmkoefelolaaGreatSetOfG00
import Derived.OwnWalkIn
namespace Go.Proofs.YtmlcmkoefelolaaGreat
open Go.RowKit

/-- n ends with all labels of z. -/
def endsWith (n z : List (List Int)) : Bool := decide (z.length ≤ n.length) && (cmpN (n.drop (n.length - z.length)) z == 0)
def under (n z : List (List Int)) : Bool := nameOk n && (nameOk z && endsWith n z)

theorem endsWith_no {n z : List (List Int)} (h : n.length < z.length) : endsWith n z = false := by
 unfold endsWith
 rw [decide_eq_false (by omega)]
 rfl
theorem endsWith_yes {n z : List (List Int)} (h : z.length ≤ n.length) : endsWith n z = (cmpN (n.drop (n.length - z.length)) z == 0) := by
 unfold endsWith
 rw [decide_eq_true h]
 rfl

theorem nameOk_drop {n : List (List Int)} (h : nameOk n = true) (k : Nat) : nameOk (n.drop k) = true := by
 obtain ⟨h1, h2⟩ := nameOk_parts h
 refine nameOk_yes (by simp; omega) fun j hj => ?_
 simp at hj
 have := h2 (k + j) (by omega)
 have e : (n.drop k).getD j [] = n.getD (k + j) [] := by simp [List.getD]
 rw [e]; exact this

theorem HasL.drop {w : World} {a : Option Addr} {m cap k : Nat} {n : List (List Int)} (h : HasL w (.slice a m cap) n) (hn : n.length = m) (hk : k ≤ m) :
  (a = none ∧ m = 0 ∧ cap = 0) ∨ ∃ g off, a = some ⟨g, off, none⟩ ∧ HasL w (.slice (if cap = k then some ⟨g, off, none⟩ else some ⟨g, off + k, none⟩) (m - k) (cap - k)) (n.drop k) := by
 subst hn
 rcases h with ⟨hv, rfl⟩ | ⟨g, off, cap', hv, hlt, hl, hm, hc⟩
 ·simp only [Value.slice.injEq] at hv
  exact .inl ⟨hv.1, rfl, hv.2.2⟩
 ·simp only [Value.slice.injEq, true_and] at hv
  obtain ⟨rfl, rfl⟩ := hv
  right
  refine ⟨g, off, rfl, ?_⟩
  have hlen : (n.drop k).length = n.length - k := by simp
  by_cases e : cap = k
  ·rw [if_pos e]
   refine .inr ⟨g, off, cap - k, by rw [hlen], hlt, by rw [hlen]; omega, by omega, fun i hi => ?_⟩
   rw [hlen] at hi
   omega
  ·rw [if_neg e]
   refine .inr ⟨g, off + k, cap - k, by rw [hlen], hlt, by rw [hlen]; omega, by omega, fun i hi => ?_⟩
   rw [hlen] at hi
   obtain ⟨u, h1, h2⟩ := hc (k + i) (by omega)
   refine ⟨u, by rw [Nat.add_assoc]; exact h1, ?_⟩
   have e2 : (n.drop k).getD i [] = n.getD (k + i) [] := by simp [List.getD]
   rw [e2]; exact h2

end Go.Proofs.YtmlcmkoefelolaaGreat

namespace Go.Proofs.YtmlcmkoefelolaaGreat
open Go.RowKit
set_option linter.unusedVariables false

section
variable {κ α β : Type} [DecidableEq κ] {Q : α → β → Prop}
theorem lookA_mem {k : κ} {v : β} : ∀ {l : List (κ × β)}, l.Pairwise (fun p q => p.1 ≠ q.1) → (k, v) ∈ l → lookA k l = some v
 | [], _, h => by simp at h
 | (a, u) :: t, hd, h => by
  obtain ⟨h1, h2⟩ := List.pairwise_cons.1 hd
  rcases List.mem_cons.1 h with h | h
  ·cases h
   simp [lookA]
  ·rw [lookA, if_neg (h1 _ h), lookA_mem h2 h]
theorem lookA_in {k : κ} {v : β} : ∀ {l : List (κ × β)}, lookA k l = some v → (k, v) ∈ l
 | [], h => by simp [lookA] at h
 | (a, u) :: t, h => by
  by_cases e : a = k
  ·simp only [lookA, if_pos e, Option.some.injEq] at h
   rw [← e, ← h]
   exact List.mem_cons_self ..
  ·simp only [lookA, if_neg e] at h
   exact List.mem_cons_of_mem _ (lookA_in h)
theorem two_mem {k : κ} {v : α} {l : List (κ × α)} {m : List (κ × β)} (h : Two (AtKeys κ Q) l m) (hA : l.Pairwise (fun p q => p.1 ≠ q.1)) (hm : (k, v) ∈ l) : ∃ u, lookA k m = some u ∧ Q v u := by
 have hl := lookA_mem hA hm
 rcases two_look (k := k) h with ⟨h1, _⟩ | ⟨v', u, h1, h2, h3, _⟩
 ·rw [h1] at hl
  cases hl
 ·rw [h1] at hl
  cases hl
  exact ⟨u, h2, h3⟩
omit [DecidableEq κ] in
end
end Go.Proofs.YtmlcmkoefelolaaGreat

namespace Go.Proofs.YtmlcmkoefelolaaGreat
open Go.RowKit
set_option linter.unusedVariables false

theorem append_bytesIn {F : Fence} {n : Nat} {P : Program} {w : World} {ops : Array Oper} {rest : List Oper} {o : Oper} {a : Act} {Q : Exit → Act → World → Prop} (hgd : o.guard = none) (s x : Operand) (t e : TypeId)
  (ho : o.op = .call { callee := .builtin .append, args := #[s, x], argTypes := #[t, t] }) (ht : P.underlying t = some (.slice e))
  (hinfo : (P.info? e).map (fun i => (i.zero, i.size, i.bytes)) = some (some (.int .u8 0), 1, 1))
  (base : Nat) (v vx : Value) (l m : List Int) (hs : a.eval s = v) (hx : a.eval x = vx) (hown : Own base e w v l) (hr : Reads w vx m) (hlen : l.length + m.length ≤ 1099511627776) (hbase : base ≤ w.heap.size)
  (h : ∀ v' w', Own base e w' v' (l ++ m) → w.grownBy w' v.ownBlock → wpListIn F n P ops Q rest (a.put o.dst v') w') : wpListIn F n P ops Q (o :: rest) a w := by
 obtain ⟨i0, hi, hz0, hz1, hz2⟩ := info_parts hinfo
 rcases hr with ⟨rfl, rfl⟩ | ⟨ad, cap, rfl, hc⟩
 ·refine wpListIn_plain hgd fun K hK' => ?_
  have hrun := run_append_owned_none (P := P) w base t o.type e i0 1 ht hi v l.length (l.map (Value.int .u8)) hown
  unfold Oper.wpIn
  refine ⟨?_, ?_⟩
  ·simp [Oper.about, ho, resolve, Target.leads, Sem.run_pure]
  ·rw [Oper.semAt_plain F _ _ (by rw [ho]; intro c hc'; cases hc')]
   simp [execOp, ho, resolve, invoke, builtin, hs, hx, hrun, Result.andThen]
   exact hK' _ _ (h v w (by simpa using hown) ⟨rfl, rfl, rfl, Nat.le_refl _, fun _ _ _ => rfl⟩)
 ·refine wpListIn_append_own w hgd s x t ho base e i0 (.int .u8 0) 1 1 ht hi hz0 hz1 hz2 rfl (by decide) v l.length (l.map (Value.int .u8)) hs hown ad m.length cap (m.map (Value.int .u8)) hx (by simp) (news_of hc) (one_of m) (by unfold maxLen; omega) (by omega) hbase ?_
  intro v' w' ho' hg _
  exact h v' w' (by simpa [Own] using ho') hg
/-- A name, as it is told in a key: from the last label on, a 0 behind each. -/
def keyN (n : List (List Int)) : List Int := n.reverse.flatMap (· ++ [0])
/-- As many labels as have been told. -/
def keyP (ls : List (List Int)) : List Int := ls.flatMap (· ++ [0])
theorem keyP_snoc (ls : List (List Int)) (l : List Int) : keyP (ls ++ [l]) = keyP ls ++ l ++ [0] := by simp [keyP]
theorem keyP_len {ls : List (List Int)} (h : ∀ l ∈ ls, l.length ≤ 15) : (keyP ls).length ≤ 16 * ls.length := by
 induction ls with
 | nil => simp [keyP]
 | cons a t ih =>
  have h1 := ih (fun l hl => h l (List.mem_cons_of_mem _ hl))
  have h2 := h a (List.mem_cons_self ..)
  simp only [keyP, List.flatMap_cons, List.length_append, List.length_cons, List.length_nil] at h1 ⊢
  omega
end Go.Proofs.YtmlcmkoefelolaaGreat
