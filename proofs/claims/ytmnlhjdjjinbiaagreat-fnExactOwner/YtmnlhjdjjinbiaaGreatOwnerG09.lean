/-
  Plain facts: whether a book has a record of a name, or of one under it. No program is named here. Plain facts: an append of bytes in a fenced walk. No program is named here. Contracts of the program's kindOf and TypeOk, and of the specification's TypeOk.
-/
import Derived.Test.YtmnlhjdjjinbiaaGreatOwnerG08
import Derived.Test.YtmnlhjdjjinbiaaGreatOwnerG00
import Derived.OwnWalkIn
import Derived.Test.YtmnlhjdjjinbiaaGreatOwnerG04
namespace Go.Proofs.YtmnlhjdjjinbiaaGreat
open Go.RowKit
set_option linter.unusedVariables false

section
variable {κ α β : Type} [DecidableEq κ] {Q : α → β → Prop}
theorem lookA_mem {k : κ} {v : β} : ∀ {l : List (κ × β)}, l.Pairwise (fun p q => p.1 ≠ q.1) → (k, v) ∈ l → lookA k l = some v
  | [], _, h => by simp at h
  | (a, u) :: t, hd, h => by
    obtain ⟨h1, h2⟩ := List.pairwise_cons.1 hd
    rcases List.mem_cons.1 h with h | h
    · cases h
      simp [lookA]
    · rw [lookA, if_neg (h1 _ h), lookA_mem h2 h]
theorem lookA_in {k : κ} {v : β} : ∀ {l : List (κ × β)}, lookA k l = some v → (k, v) ∈ l
  | [], h => by simp [lookA] at h
  | (a, u) :: t, h => by
    by_cases e : a = k
    · simp only [lookA, if_pos e, Option.some.injEq] at h
      rw [← e, ← h]
      exact List.mem_cons_self ..
    · simp only [lookA, if_neg e] at h
      exact List.mem_cons_of_mem _ (lookA_in h)
theorem two_mem {k : κ} {v : α} {l : List (κ × α)} {m : List (κ × β)} (h : Two (AtKeys κ Q) l m) (hA : l.Pairwise (fun p q => p.1 ≠ q.1)) (hm : (k, v) ∈ l) : ∃ u, lookA k m = some u ∧ Q v u := by
  have hl := lookA_mem hA hm
  rcases two_look (k := k) h with ⟨h1, _⟩ | ⟨v', u, h1, h2, h3, _⟩
  · rw [h1] at hl
    cases hl
  · rw [h1] at hl
    cases hl
    exact ⟨u, h2, h3⟩
omit [DecidableEq κ] in
theorem two_keys {l : List (κ × α)} {m : List (κ × β)} (h : Two (AtKeys κ Q) l m) (hA : l.Pairwise (fun p q => p.1 ≠ q.1)) : m.Pairwise (fun p q => p.1 ≠ q.1) := by
  induction h with
  | nil => exact List.Pairwise.nil
  | cons h1 h0 ih =>
    obtain ⟨p1, p2⟩ := List.pairwise_cons.1 hA
    refine List.pairwise_cons.2 ⟨fun q hq e => ?_, ih p2⟩
    obtain ⟨a, ha, h2⟩ := h0.right q hq
    exact p1 a ha (h1.1.trans (e.trans h2.1.symm))
end
def hasP (n : List (List Int)) (P : Pg) : Bool := P.any (fun x => under x.2.name n)
def hasB (n : List (List Int)) (B : Bk) : Bool := B.any (fun q => hasP n q.2)
theorem hasP_none {n : List (List Int)} {ps : List (ByteArray × Value)} {P : Pg} {Q : Value → Rec → Prop} (h : Two (AtKeys ByteArray Q) ps P) (hA : ps.Pairwise (fun p q => p.1 ≠ q.1)) (hn : ∀ q ∈ ps, ∀ u, lookA q.1 P = some u → under u.name n = false) : hasP n P = false := by
  unfold hasP
  rw [List.any_eq_false]
  intro x hx
  obtain ⟨a, ha, h1, _⟩ := h.right x hx
  rw [hn a ha x.2 (by rw [h1]; exact lookA_mem (two_keys h hA) hx)]
  simp
theorem hasP_some {n : List (List Int)} {P : Pg} {k : ByteArray} {u : Rec} (h : lookA k P = some u) (hu : under u.name n = true) : hasP n P = true := by
  unfold hasP
  rw [List.any_eq_true]
  exact ⟨_, lookA_in h, hu⟩
theorem hasB_none {n : List (List Int)} {ps : List (ByteArray × Value)} {B : Bk} {Q : Value → Pg → Prop} (h : Two (AtKeys ByteArray Q) ps B) (hA : ps.Pairwise (fun p q => p.1 ≠ q.1)) (hn : ∀ q ∈ ps, ∀ u, lookA q.1 B = some u → hasP n u = false) : hasB n B = false := by
  unfold hasB
  rw [List.any_eq_false]
  intro x hx
  obtain ⟨a, ha, h1, _⟩ := h.right x hx
  rw [hn a ha x.2 (by rw [h1]; exact lookA_mem (two_keys h hA) hx)]
  simp
theorem hasB_some {n : List (List Int)} {B : Bk} {k : ByteArray} {P : Pg} (h : lookA k B = some P) (hu : hasP n P = true) : hasB n B = true := by
  unfold hasB
  rw [List.any_eq_true]
  exact ⟨_, lookA_in h, hu⟩
end Go.Proofs.YtmnlhjdjjinbiaaGreat

namespace Go.Proofs.YtmnlhjdjjinbiaaGreat
open Go.RowKit
set_option linter.unusedVariables false

theorem append_bytesIn {F : Fence} {n : Nat} {P : Program} {w : World} {ops : Array Oper} {rest : List Oper} {o : Oper} {a : Act} {Q : Exit → Act → World → Prop} (hgd : o.guard = none) (s x : Operand) (t e : TypeId)
    (ho : o.op = .call { callee := .builtin .append, args := #[s, x], argTypes := #[t, t] }) (ht : P.underlying t = some (.slice e))
    (hinfo : (P.info? e).map (fun i => (i.zero, i.size, i.bytes)) = some (some (.int .u8 0), 1, 1))
    (base : Nat) (v vx : Value) (l m : List Int) (hs : a.eval s = v) (hx : a.eval x = vx) (hown : Own base e w v l) (hr : Reads w vx m) (hlen : l.length + m.length ≤ 1099511627776) (hbase : base ≤ w.heap.size)
    (h : ∀ v' w', Own base e w' v' (l ++ m) → w.grownBy w' v.ownBlock → wpListIn F n P ops Q rest (a.put o.dst v') w') : wpListIn F n P ops Q (o :: rest) a w := by
  obtain ⟨i0, hi, hz0, hz1, hz2⟩ := info_parts hinfo
  rcases hr with ⟨rfl, rfl⟩ | ⟨ad, cap, rfl, hc⟩
  · refine wpListIn_plain hgd fun K hK' => ?_
    have hrun := run_append_owned_none (P := P) w base t o.type e i0 1 ht hi v l.length (l.map (Value.int .u8)) hown
    unfold Oper.wpIn
    refine ⟨?_, ?_⟩
    · simp [Oper.about, ho, resolve, Target.leads, Sem.run_pure]
    · rw [Oper.semAt_plain F _ _ (by rw [ho]; intro c hc'; cases hc')]
      simp [execOp, ho, resolve, invoke, builtin, hs, hx, hrun, Result.andThen]
      exact hK' _ _ (h v w (by simpa using hown) ⟨rfl, rfl, rfl, Nat.le_refl _, fun _ _ _ => rfl⟩)
  · refine wpListIn_append_own w hgd s x t ho base e i0 (.int .u8 0) 1 1 ht hi hz0 hz1 hz2 rfl (by decide) v l.length (l.map (Value.int .u8)) hs hown ad m.length cap (m.map (Value.int .u8)) hx (by simp) (news_of hc) (one_of m) (by unfold maxLen; omega) (by omega) hbase ?_
    intro v' w' ho' hg _
    exact h v' w' (by simpa [Own] using ho') hg
/-- A name, as it is told in a key: from the last label on, a 0 behind each. -/
def keyN (n : List (List Int)) : List Int := n.reverse.flatMap (· ++ [0])
/-- As many labels as have been told. -/
def keyP (ls : List (List Int)) : List Int := ls.flatMap (· ++ [0])
theorem keyP_snoc (ls : List (List Int)) (l : List Int) : keyP (ls ++ [l]) = keyP ls ++ l ++ [0] := by simp [keyP]
theorem keyP_len {ls : List (List Int)} (h : ∀ l ∈ ls, l.length ≤ 15) : (keyP ls).length ≤ 16 * ls.length := by
  induction ls with
  | nil => simp [keyP]
  | cons a t ih =>
    have h1 := ih (fun l hl => h l (List.mem_cons_of_mem _ hl))
    have h2 := h a (List.mem_cons_self ..)
    simp only [keyP, List.flatMap_cons, List.length_append, List.length_cons, List.length_nil] at h1 ⊢
    omega
end Go.Proofs.YtmnlhjdjjinbiaaGreat

namespace Go.Proofs.YtmnlhjdjjinbiaaGreat
open Go.RowKit
set_option linter.unusedVariables false

/-- The types of records. -/
def typeOk (t : Int) : Bool := decide (t = 1 ∨ t = 2 ∨ t = 5 ∨ t = 6 ∨ t = 12 ∨ t = 16 ∨ t = 49)

/-- Which data a type has. -/
def kindV (t : Int) : Value := if t = 1 then .iface 126 (.agg #[.int .i64 0]) else if t = 2 ∨ t = 5 ∨ t = 12 then .iface 128 (.agg #[.slice none 0 0]) else if t = 6 then .iface 130 (.agg #[.slice none 0 0, .slice none 0 0]) else if t = 16 ∨ t = 49 then .iface 132 (.agg #[.slice none 0 0]) else .nilIface

theorem type_cases (t : Int) : t = 1 ∨ t = 2 ∨ t = 5 ∨ t = 6 ∨ t = 12 ∨ t = 16 ∨ t = 49 ∨ typeOk t = false := by
  by_cases h : t = 1 ∨ t = 2 ∨ t = 5 ∨ t = 6 ∨ t = 12 ∨ t = 16 ∨ t = 49
  · omega
  · have : typeOk t = false := decide_eq_false h
    simp [this]
theorem type_other {t : Int} (h : typeOk t = false) : (t == 1) = false ∧ (t == 2) = false ∧ (t == 5) = false ∧ (t == 6) = false ∧ (t == 12) = false ∧ (t == 16) = false ∧ (t == 49) = false := by
  have h' : ¬ (t = 1 ∨ t = 2 ∨ t = 5 ∨ t = 6 ∨ t = 12 ∨ t = 16 ∨ t = 49) := of_decide_eq_false h
  simp only [beq_eq_false_iff_ne]
  omega
theorem kindV_other {t : Int} (h : typeOk t = false) : kindV t = .nilIface := by
  have h' : ¬ (t = 1 ∨ t = 2 ∨ t = 5 ∨ t = 6 ∨ t = 12 ∨ t = 16 ∨ t = 49) := of_decide_eq_false h
  unfold kindV
  rw [if_neg (by omega), if_neg (by omega), if_neg (by omega), if_neg (by omega)]

set_option maxHeartbeats 800000 in
set_option maxRecDepth 100000 in
theorem kindOf_any (t : Int) (w : World) : Calls Tryz.prog 115 #[.int .i64 t] w fun e w' => e = .returned (kindV t) ∧ w = w' := by
  rcases type_cases t with rfl | rfl | rfl | rfl | rfl | rfl | rfl | h
  iterate 7
    · go_enter Tryz.func115, Tryz.ntmps115
      go_wp2
      go_ret
      exact ⟨rfl, rfl⟩
  · obtain ⟨h1, h2, h3, h4, h5, h6, h7⟩ := type_other h
    rw [kindV_other h]
    go_enter Tryz.func115, Tryz.ntmps115
    go_wp2
    go_ret
    exact ⟨rfl, rfl⟩

set_option maxHeartbeats 800000 in
set_option maxRecDepth 100000 in
theorem specTypeOk_any (t : Int) (w : World) : Calls Tryz.prog 79 #[.int .i64 t] w fun e w' => e = .returned (.bool (typeOk t)) ∧ w = w' := by
  rcases type_cases t with rfl | rfl | rfl | rfl | rfl | rfl | rfl | h
  iterate 7
    · go_enter Tryz.func79, Tryz.ntmps79
      go_wp2
      go_ret
      exact ⟨rfl, rfl⟩
  · obtain ⟨h1, h2, h3, h4, h5, h6, h7⟩ := type_other h
    rw [h]
    go_enter Tryz.func79, Tryz.ntmps79
    go_wp2
    go_ret
    exact ⟨rfl, rfl⟩

set_option maxHeartbeats 800000 in
set_option maxRecDepth 100000 in
theorem implTypeOk_any (t : Int) (w : World) : Calls Tryz.prog 84 #[.int .i64 t] w fun e w' => e = .returned (.bool (typeOk t)) ∧ w = w' := by
  have hk : (kindV t = .nilIface ∧ typeOk t = false) ∨ ∃ ty v, kindV t = .iface ty v ∧ typeOk t = true := by
    rcases type_cases t with rfl | rfl | rfl | rfl | rfl | rfl | rfl | h
    iterate 7 exact .inr ⟨_, _, rfl, rfl⟩
    exact .inl ⟨kindV_other h, h⟩
  go_enter Tryz.func84, Tryz.ntmps84
  go_wp2_with fail
  refine (kindOf_any t _).mono ?_
  rintro e w1 ⟨rfl, rfl⟩
  rcases hk with ⟨h1, h2⟩ | ⟨ty, v, h1, h2⟩
  · rw [h1]
    go_wp2
    go_ret
    exact ⟨by rw [h2]; rfl, rfl⟩
  · rw [h1]
    go_wp2
    go_ret
    exact ⟨by rw [h2]; rfl, rfl⟩
end Go.Proofs.YtmnlhjdjjinbiaaGreat
