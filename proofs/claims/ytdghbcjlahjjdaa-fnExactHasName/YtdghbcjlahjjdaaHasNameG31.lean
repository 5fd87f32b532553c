/-
  Contracts of the program's Under. Plain facts: whether a book has a record of a name, or of one under it. No program is named here.
-/
import Derived.Test.YtdghbcjlahjjdaaHasNameG26
import Derived.Test.YtdghbcjlahjjdaaHasNameG30
import Derived.Test.YtdghbcjlahjjdaaHasNameG28
namespace Go.Proofs.Ytdghbcjlahjjdaa
open Go.RowKit
set_option linter.unusedVariables false

set_option maxHeartbeats 2000000 in
set_option maxRecDepth 100000 in
theorem implUnder_has {v v' : Value} {n n' : List (List Int)} {w : World} (h : HasL w v n) (h' : HasL w v' n') :
    Calls Try.prog 94 #[.agg #[v], .agg #[v']] w fun e w' => e = .returned (.bool (under n n')) ∧ Below w.heap.size w w' := by
  obtain ⟨a, cap, rfl, hcl, hcm⟩ := h.form
  obtain ⟨a', cap', rfl, _⟩ := h'.form
  unfold maxLen at hcm
  have b1 := below_alloc (w := w) (.cells #[.slice a n.length cap] 25)
  have k1 := heap_alloc_new w (.cells #[.slice a n.length cap] 25)
  have e1 : (w.alloc (.cells #[.slice a n.length cap] 25)).heap.size = w.heap.size + 1 := by show (w.heap.push _).size = _; simp
  have b2 := below_alloc (w := w.alloc (.cells #[.slice a n.length cap] 25)) (.cells #[.slice a' n'.length cap'] 25)
  have x2 := heap_alloc_new (w.alloc (.cells #[.slice a n.length cap] 25)) (.cells #[.slice a' n'.length cap'] 25)
  have k2 := block_kept b2 k1
  rw [e1] at x2
  have bb2 := below_next b1 b2
  have h2 := hide (h.below bb2)
  have h2' := hide (h'.below bb2)
  clear h h' b1 b2 k1 e1
  unfold under
  cases hok : nameOk n with
  | false =>
    rw [Bool.false_and]
    have HOK := hide hok
    clear hok
    go_enter Try.func94, Try.ntmps94
    go_wp2_with fail
    generalize (w.alloc (.cells #[.slice a n.length cap] 25)).alloc (.cells #[.slice a' n'.length cap'] 25) = W at *
    refine (implNameOk_has (unhide h2)).mono ?_
    rw [unhide HOK]
    rintro e w3 ⟨rfl, b3⟩
    go_wp2_with fail
    go_ret
    exact ⟨rfl, below_next bb2 b3⟩
  | true =>
    cases hok' : nameOk n' with
    | false =>
      rw [Bool.true_and, Bool.false_and]
      have HOK := hide hok
      have HOK' := hide hok'
      clear hok hok'
      go_enter Try.func94, Try.ntmps94
      go_wp2_with fail
      generalize (w.alloc (.cells #[.slice a n.length cap] 25)).alloc (.cells #[.slice a' n'.length cap'] 25) = W at *
      refine (implNameOk_has (unhide h2)).mono ?_
      rw [unhide HOK]
      rintro e w3 ⟨rfl, b3⟩
      have x3 := block_one (block_kept b3 x2)
      go_wp2_with fail
      refine (implNameOk_has ((unhide h2').below b3)).mono ?_
      rw [unhide HOK']
      rintro e w4 ⟨rfl, b4⟩
      go_wp2_with fail
      go_ret
      exact ⟨rfl, below_next bb2 (below_next b3 b4)⟩
    | true =>
      rw [Bool.true_and, Bool.true_and]
      have hs := (nameOk_parts hok).1
      have hs' := (nameOk_parts hok').1
      have hno := hide (fun (hlt : n.length < n'.length) => endsWith_no hlt)
      have hyes := hide (fun (hle : n'.length ≤ n.length) => (show endsWith n n' = (nameCmp (n.drop (n.length - n'.length)) n' == 0) by
        rw [endsWith_yes hle]; unfold nameCmp; rw [if_pos ⟨nameOk_drop hok _, hok'⟩]))
      have HOK := hide hok
      have HOK' := hide hok'
      clear hok hok'
      generalize endsWith n n' = R at *
      have hdrop := hide (fun (W : World) (hW : HasL W (.slice a n.length cap) n) (k : Nat) (hk : k ≤ n.length) => HasL.drop hW rfl hk)
      go_enter Try.func94, Try.ntmps94
      go_wp2_with fail
      generalize (w.alloc (.cells #[.slice a n.length cap] 25)).alloc (.cells #[.slice a' n'.length cap'] 25) = W0 at *
      refine (implNameOk_has (unhide h2)).mono ?_
      rw [unhide HOK]
      rintro e w3 ⟨rfl, b3⟩
      have x3 := block_one (block_kept b3 x2)
      go_wp2_with fail
      refine (implNameOk_has ((unhide h2').below b3)).mono ?_
      rw [unhide HOK']
      rintro e W ⟨rfl, b4⟩
      have b4 := below_next b3 b4
      have cx := block_one (block_kept b4 x2)
      have ck := block_one (block_kept b4 k2)
      have h4 := hide ((unhide h2).below b4)
      have h4' := hide ((unhide h2').below b4)
      have bb4 := below_next bb2 b4
      clear x3 x2 k2 h2 h2' b3 b4 bb2 HOK HOK'
      by_cases hle : n'.length ≤ n.length
      · have hr := unhide hyes hle
        have hd := unhide hdrop W (unhide h4) (n.length - n'.length) (by omega)
        clear hyes hno hdrop
        generalize hj : n.length - n'.length = j at *
        have hlen : (n.drop j).length = n.length - j := by simp
        generalize n.drop j = nd at *
        have i0 : ¬ (n.length : Int) < n'.length := by omega
        have s1 : (n.length : Int) - n'.length = j := by omega
        have wj : IntKind.i64.wrap (j : Int) = j := wrap_small j (by omega)
        have jl : j ≤ n.length := by omega
        have jc : j ≤ cap := by omega
        rcases hd with ⟨ha, hm0, hc0⟩ | ⟨g, off, ha, hd⟩
        · have hz' : n'.length = 0 := by omega
          have hz : j = 0 := by omega
          obtain rfl : nd = [] := List.eq_nil_of_length_eq_zero (by omega)
          obtain rfl : n' = [] := List.eq_nil_of_length_eq_zero hz'
          obtain rfl : n = [] := List.eq_nil_of_length_eq_zero hm0
          subst ha hc0 hz
          clear hj hlen i0 s1 wj jl jc hz' hm0 hle hs hs' hcl
          simp only [List.length_nil] at *
          have HD := hide (show HasL W (.slice none 0 0) [] from .inl ⟨rfl, rfl⟩)
          go_wp2_with fail
          refine (implNameCmp_has (unhide HD) (unhide h4')).mono ?_
          generalize nameCmp [] [] = c at *
          subst hr
          rintro e w5 ⟨rfl, b5⟩
          go_wp2_with fail
          go_ret
          exact ⟨rfl, below_next bb4 b5⟩
        · subst ha
          by_cases hcj : cap = j
          · have e2 : j = n.length := by omega
            have e1 : cap = n.length := by omega
            obtain rfl : n' = [] := List.eq_nil_of_length_eq_zero (by omega)
            obtain rfl : nd = [] := List.eq_nil_of_length_eq_zero (by omega)
            rw [if_pos hcj, e1, e2, Nat.sub_self] at hd
            have HD := hide hd
            subst e1 e2
            clear hd hj hlen hcj hle hs' jl jc s1 i0 hcl
            simp only [List.length_nil] at *
            generalize hn : n.length = m at *
            go_wp2_with fail
            refine (implNameCmp_has (unhide HD) (unhide h4')).mono ?_
            generalize nameCmp [] [] = c at *
            subst hr
            rintro e w5 ⟨rfl, b5⟩
            go_wp2_with fail
            go_ret
            exact ⟨rfl, below_next bb4 b5⟩
          · rw [if_neg hcj] at hd
            have HD := hide hd
            clear hd
            generalize hn : n.length = m at *
            generalize hn' : n'.length = m' at *
            go_wp2_with fail
            refine (implNameCmp_has (unhide HD) (unhide h4')).mono ?_
            generalize nameCmp nd n' = c at *
            subst hr
            rintro e w5 ⟨rfl, b5⟩
            go_wp2_with fail
            go_ret
            exact ⟨rfl, below_next bb4 b5⟩
      · have hr := unhide hno (by omega)
        subst hr
        have i0 : (n.length : Int) < n'.length := by omega
        go_wp2_with fail
        go_ret
        exact ⟨rfl, bb4⟩
end Go.Proofs.Ytdghbcjlahjjdaa

namespace Go.Proofs.Ytdghbcjlahjjdaa
open Go.RowKit
set_option linter.unusedVariables false

section
variable {κ α β : Type} [DecidableEq κ] {Q : α → β → Prop}
theorem lookA_mem {k : κ} {v : β} : ∀ {l : List (κ × β)}, l.Pairwise (fun p q => p.1 ≠ q.1) → (k, v) ∈ l → lookA k l = some v
  | [], _, h => by simp at h
  | (a, u) :: t, hd, h => by
    obtain ⟨h1, h2⟩ := List.pairwise_cons.1 hd
    rcases List.mem_cons.1 h with h | h
    · cases h
      simp [lookA]
    · rw [lookA, if_neg (h1 _ h), lookA_mem h2 h]
theorem lookA_in {k : κ} {v : β} : ∀ {l : List (κ × β)}, lookA k l = some v → (k, v) ∈ l
  | [], h => by simp [lookA] at h
  | (a, u) :: t, h => by
    by_cases e : a = k
    · simp only [lookA, if_pos e, Option.some.injEq] at h
      rw [← e, ← h]
      exact List.mem_cons_self ..
    · simp only [lookA, if_neg e] at h
      exact List.mem_cons_of_mem _ (lookA_in h)
theorem two_mem {k : κ} {v : α} {l : List (κ × α)} {m : List (κ × β)} (h : Two (AtKeys κ Q) l m) (hA : l.Pairwise (fun p q => p.1 ≠ q.1)) (hm : (k, v) ∈ l) : ∃ u, lookA k m = some u ∧ Q v u := by
  have hl := lookA_mem hA hm
  rcases two_look (k := k) h with ⟨h1, _⟩ | ⟨v', u, h1, h2, h3, _⟩
  · rw [h1] at hl
    cases hl
  · rw [h1] at hl
    cases hl
    exact ⟨u, h2, h3⟩
omit [DecidableEq κ] in
theorem two_keys {l : List (κ × α)} {m : List (κ × β)} (h : Two (AtKeys κ Q) l m) (hA : l.Pairwise (fun p q => p.1 ≠ q.1)) : m.Pairwise (fun p q => p.1 ≠ q.1) := by
  induction h with
  | nil => exact List.Pairwise.nil
  | cons h1 h0 ih =>
    obtain ⟨p1, p2⟩ := List.pairwise_cons.1 hA
    refine List.pairwise_cons.2 ⟨fun q hq e => ?_, ih p2⟩
    obtain ⟨a, ha, h2⟩ := h0.right q hq
    exact p1 a ha (h1.1.trans (e.trans h2.1.symm))
end
def hasP (n : List (List Int)) (P : Pg) : Bool := P.any (fun x => under x.2.name n)
def hasB (n : List (List Int)) (B : Bk) : Bool := B.any (fun q => hasP n q.2)
theorem hasP_none {n : List (List Int)} {ps : List (ByteArray × Value)} {P : Pg} {Q : Value → Rec → Prop} (h : Two (AtKeys ByteArray Q) ps P) (hA : ps.Pairwise (fun p q => p.1 ≠ q.1)) (hn : ∀ q ∈ ps, ∀ u, lookA q.1 P = some u → under u.name n = false) : hasP n P = false := by
  unfold hasP
  rw [List.any_eq_false]
  intro x hx
  obtain ⟨a, ha, h1, _⟩ := h.right x hx
  rw [hn a ha x.2 (by rw [h1]; exact lookA_mem (two_keys h hA) hx)]
  simp
theorem hasP_some {n : List (List Int)} {P : Pg} {k : ByteArray} {u : Rec} (h : lookA k P = some u) (hu : under u.name n = true) : hasP n P = true := by
  unfold hasP
  rw [List.any_eq_true]
  exact ⟨_, lookA_in h, hu⟩
theorem hasB_none {n : List (List Int)} {ps : List (ByteArray × Value)} {B : Bk} {Q : Value → Pg → Prop} (h : Two (AtKeys ByteArray Q) ps B) (hA : ps.Pairwise (fun p q => p.1 ≠ q.1)) (hn : ∀ q ∈ ps, ∀ u, lookA q.1 B = some u → hasP n u = false) : hasB n B = false := by
  unfold hasB
  rw [List.any_eq_false]
  intro x hx
  obtain ⟨a, ha, h1, _⟩ := h.right x hx
  rw [hn a ha x.2 (by rw [h1]; exact lookA_mem (two_keys h hA) hx)]
  simp
theorem hasB_some {n : List (List Int)} {B : Bk} {k : ByteArray} {P : Pg} (h : lookA k B = some P) (hu : hasP n P = true) : hasB n B = true := by
  unfold hasB
  rw [List.any_eq_true]
  exact ⟨_, lookA_in h, hu⟩
end Go.Proofs.Ytdghbcjlahjjdaa
