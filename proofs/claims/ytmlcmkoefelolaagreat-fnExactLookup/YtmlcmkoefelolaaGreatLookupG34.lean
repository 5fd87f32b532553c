/-
  Plain facts: what Lookup answers. No program is named here. Contract of the program's handedTo. Contracts of the program's Under.
-/
import Derived.Test.YtmlcmkoefelolaaGreatLookupG32
import Derived.Test.YtmlcmkoefelolaaGreatLookupG17
import Derived.Test.YtmlcmkoefelolaaGreatLookupG33
import Derived.Test.YtmlcmkoefelolaaGreatLookupG18
import Derived.Test.YtmlcmkoefelolaaGreatLookupG04
import Derived.Test.YtmlcmkoefelolaaGreatLookupG06
import Derived.Test.YtmlcmkoefelolaaGreatLookupG29
import Derived.Test.YtmlcmkoefelolaaGreatLookupG13
namespace Go.Proofs.YtmlcmkoefelolaaGreat
open Go.RowKit
set_option linter.unusedVariables false

/-- Of the names that have all but k - 1, .., all but none of n's labels: the servers of the first that has some. -/
def handedOf (n : List (List Int)) (rs : List Rec) : Nat → List Rec
 | 0 => []
 | k + 1 => if 0 < (selK (n.drop k) 2 rs rs.length).length then selK (n.drop k) 2 rs rs.length else handedOf n rs k
/-- And that name, by how many labels it lacks; none where k is met. -/
def cutOf (n : List (List Int)) (rs : List Rec) : Nat → Option Nat
 | 0 => none
 | k + 1 => if 0 < (selK (n.drop k) 2 rs rs.length).length then some k else cutOf n rs k
theorem handed_cut (n : List (List Int)) (rs : List Rec) : ∀ k, (match cutOf n rs k with | none => handedOf n rs k = [] | some j => j < k ∧ handedOf n rs k = selK (n.drop j) 2 rs rs.length ∧ 0 < (handedOf n rs k).length)
 | 0 => rfl
 | k + 1 => by
  unfold cutOf handedOf
  by_cases h : 0 < (selK (n.drop k) 2 rs rs.length).length
  ·rw [if_pos h, if_pos h]
   exact ⟨by omega, rfl, h⟩
  ·rw [if_neg h, if_neg h]
   have ih := handed_cut n rs k
   cases hc : cutOf n rs k with
   | none => rw [hc] at ih; exact ih
   | some j => rw [hc] at ih; exact ⟨by omega, ih.2⟩
def lookB (o : List (List Int)) (rs : List Rec) (n : List (List Int)) (t : Int) : List Rec × Int :=
 if under n o = false then ([], 5) else
 if 0 < (handedOf n rs (n.length - o.length)).length then (handedOf n rs (n.length - o.length), 2) else
 if 0 < (selK n t rs rs.length).length then (selK n t rs rs.length, 0) else
 if 0 < (selK n 5 rs rs.length).length then (selK n 5 rs rs.length, 1) else
 if hasAny rs n = true then ([], 3) else ([], 4)
def lookupOf (o : List (List Int)) (rs : List Rec) (n : List (List Int)) (t : Int) : List Rec × Int :=
 if zoneOk o rs = true ∧ nameOk n = true ∧ asked t = true then lookB o rs n t else ([], 5)
theorem under_le {n o : List (List Int)} (h : under n o = true) : o.length ≤ n.length := by
 unfold under at h
 by_cases hl : n.length < o.length
 ·rw [endsWith_no hl] at h
  simp at h
 ·omega
theorem handed_short {o n : List (List Int)} {rs : List Rec} (hz : zoneOk o rs = true) : ∀ k, (handedOf n rs k).length ≤ 60 ∧ ∀ i, i < (handedOf n rs k).length → rrOk ((handedOf n rs k).getD i recZ) = true
 | 0 => ⟨Nat.zero_le _, fun i hi => absurd hi (Nat.not_lt_zero _)⟩
 | k + 1 => by
  unfold handedOf
  by_cases h : 0 < (selK (n.drop k) 2 rs rs.length).length
  ·rw [if_pos h]; exact selK_short hz 2
  ·rw [if_neg h]; exact handed_short hz k
theorem lookB_short {o n : List (List Int)} {rs : List Rec} (hz : zoneOk o rs = true) (t : Int) : (lookB o rs n t).1.length ≤ 60 ∧ ∀ i, i < (lookB o rs n t).1.length → rrOk ((lookB o rs n t).1.getD i recZ) = true := by
 have e : ∀ l : List Rec, l = [] → l.length ≤ 60 ∧ ∀ i, i < l.length → rrOk (l.getD i recZ) = true := fun l hl => by
  subst hl
  exact ⟨Nat.zero_le _, fun i hi => absurd hi (Nat.not_lt_zero _)⟩
 unfold lookB
 split
 ·exact e _ rfl
 ·split
  ·exact handed_short hz _
  ·split
   ·exact selK_short hz t
   ·split
    ·exact selK_short hz 5
    ·split <;> exact e _ rfl
theorem lookup_size (o : List (List Int)) (rs : List Rec) (n : List (List Int)) (t : Int) : (lookupOf o rs n t).1.length ≤ 60 ∧ ∀ i, i < (lookupOf o rs n t).1.length → SizeR 1048576 ((lookupOf o rs n t).1.getD i recZ) := by
 unfold lookupOf
 by_cases h : zoneOk o rs = true ∧ nameOk n = true ∧ asked t = true
 ·rw [if_pos h]
  have := lookB_short (n := n) h.1 t
  exact ⟨this.1, fun i hi => size_of_short (short_rec (this.2 i hi))⟩
 ·rw [if_neg h]
  exact ⟨Nat.zero_le _, fun i hi => absurd hi (Nat.not_lt_zero _)⟩
end Go.Proofs.YtmlcmkoefelolaaGreat

namespace Go.Proofs.YtmlcmkoefelolaaGreat
open Go.RowKit Go.Shelf
set_option linter.unusedVariables false

set_option maxHeartbeats 2000000 in
set_option maxRecDepth 100000 in
theorem handedTo_own {n0 b : Nat} {vo v : Value} {q o n : List (List Int)} {rs : List Rec} {w : World} (hB : BookM n0 w b (bookIn rs)) (hz : zoneOk q rs = true) (hnm : nameOk n = true) (ho : HasL w vo o) (hn : HasL w v n) (hle : o.length ≤ n.length) :
  Calls Tryz.prog 115 #[.map (some b), .agg #[vo], .agg #[v]] w fun e w' => ∃ u, e = .returned u ∧ RowO w.heap.size w'.heap.size 52 44 5 3 w' u (handedOf n rs (n.length - o.length)) ∧ Below w.heap.size w w' := by
 obtain ⟨oa, oc, rfl, _⟩ := ho.form
 obtain ⟨a, cap, rfl, hcl, hcm⟩ := hn.form
 obtain ⟨hsz, k0, x0⟩ := box2 w (.cells #[.slice oa o.length oc] 32) #[.slice a n.length cap] 32
 have bb := below2 w (.cells #[.slice oa o.length oc] 32) (.cells #[.slice a n.length cap] 32)
 have hn6 := (nameOk_parts hnm).1
 have HB := hide (hB.below bb)
 have HN := hide (hn.below bb)
 have HDR := hide (fun k => nameOk_drop hnm k)
 have HZ := hide hz
 have KN := hide x0
 have c0 := block_one k0
 have c1 := block_one x0
 clear hB ho hn k0 x0 hsz hz hnm
 generalize hK : n.length - o.length = K at *
 generalize hR : handedOf n rs K = R
 have HR := hide hR
 have s1 : (n.length : Int) - o.length = K := by omega
 have wK : IntKind.i64.wrap (K : Int) = K := wrap_small K (by omega)
 have wK1 : IntKind.i64.wrap ((K : Int) - 1) = (K : Int) - 1 := by
  rcases Nat.eq_zero_or_pos K with h0 | h0
  ·subst h0; rfl
  ·have e : ((K : Int) - 1) = ((K - 1 : Nat) : Int) := by omega
   rw [e]; exact wrap_small _ (by omega)
 have hKn : K ≤ n.length := by omega
 clear hK hR
 go_enter Tryz.func115, Tryz.ntmps115
 go_wp2_with fail
 clear s1 wK wK1 c0 c1
 generalize (w.alloc (.cells #[.slice oa o.length oc] 32)).alloc (.cells #[.slice a n.length cap] 32) = W at *
 go_loopw [7] (fun i wr => ∃ k : Nat, k ≤ K ∧ i = .int .i64 ((k : Int) - 1) ∧ handedOf n rs k = R ∧ Below W.heap.size W wr) (fun i _ => (intOf i + 1).toNat)
 case atStart => exact ⟨K, Nat.le_refl _, rfl, unhide HR, Below.refl _ _⟩
 case round =>
  obtain ⟨k, hk, rfl, hh, hbw⟩ := hrel
  have zW := bb.size
  have zr := hbw.size
  cases k with
  | zero =>
   obtain rfl : R = [] := hh.symm
   go_wp2_with fail
   go_ret
   exact ⟨_, rfl, RowO.nil _ _ _ _ _ _ _, below_next bb hbw⟩
  | succ j =>
   have e1 : (((j + 1 : Nat) : Int) - 1) = (j : Int) := by omega
   rw [e1]
   clear e1
   have hj0 : ¬ (j : Int) < 0 := by omega
   have hjn : j < n.length := by omega
   have hd := HasL.drop (k := j) ((unhide HN).below hbw) rfl (by omega)
   rcases hd with ⟨_, hm0, _⟩ | ⟨g, off, rfl, hd⟩
   ·omega
   ·rw [if_neg (by omega)] at hd
    have hlen : n.length - j = (n.drop j).length := by simp
    rw [hlen] at hd
    have SB := setB_own 2 ((unhide HB).below hbw) (unhide HZ) (unhide HDR j) hd
    unfold handedOf at hh
    generalize selK (n.drop j) 2 rs rs.length = sel at *
    have HH := hide hh
    replace SB := hide SB
    have cN := block_one (block_kept hbw (unhide KN))
    have jc : j ≤ cap := by omega
    have jcc : ¬ cap = j := by omega
    have jl : j ≤ n.length := by omega
    have wj1 : IntKind.i64.wrap ((j : Int) - 1) = (j : Int) - 1 := by
     rcases Nat.eq_zero_or_pos j with h0 | h0
     ·subst h0; rfl
     ·have e : ((j : Int) - 1) = ((j - 1 : Nat) : Int) := by omega
      rw [e]; exact wrap_small _ (by omega)
    have HJ := hide wj1
    rw [← hlen] at SB
    clear hd hlen hh wj1
    go_wp2_with fail
    refine (unhide SB).mono ?_
    rintro e w2 ⟨u2, rfl, o2, b2⟩
    obtain ⟨ua, uc, rfl, _⟩ := o2.form
    have z2 := b2.size
    clear cN
    generalize hml : sel.length = ml at *
    have HML := hide hml
    clear hml
    by_cases hp : 0 < ml
    ·have hpi : (0 : Int) < ml := by omega
     have hr : sel = R := by have := unhide HH; rwa [if_pos hp] at this
     go_wp2_with fail
     go_ret
     subst hr
     exact ⟨_, rfl, o2.wide (by omega) (Nat.le_refl _), below_next bb (below_next hbw b2)⟩
    ·have hpi : ¬ (0 : Int) < ml := by omega
     have hr : handedOf n rs j = R := by have := unhide HH; rwa [if_neg hp] at this
     have wj1 := unhide HJ
     clear o2
     go_wp2_with fail
     go_roundw
     case rel => exact ⟨j, by omega, rfl, hr, below_next hbw b2⟩
     case measure => simp [intOf]
end Go.Proofs.YtmlcmkoefelolaaGreat

namespace Go.Proofs.YtmlcmkoefelolaaGreat
open Go.RowKit
set_option linter.unusedVariables false

set_option maxHeartbeats 2000000 in
set_option maxRecDepth 100000 in
theorem implUnder_has {v v' : Value} {n n' : List (List Int)} {w : World} (h : HasL w v n) (h' : HasL w v' n') :
  Calls Tryz.prog 114 #[.agg #[v], .agg #[v']] w fun e w' => e = .returned (.bool (under n n')) ∧ Below w.heap.size w w' := by
 obtain ⟨a, cap, rfl, hcl, hcm⟩ := h.form
 obtain ⟨a', cap', rfl, _⟩ := h'.form
 unfold maxLen at hcm
 have b1 := below_alloc (w := w) (.cells #[.slice a n.length cap] 32)
 have k1 := heap_alloc_new w (.cells #[.slice a n.length cap] 32)
 have e1 : (w.alloc (.cells #[.slice a n.length cap] 32)).heap.size = w.heap.size + 1 := by show (w.heap.push _).size = _; simp
 have b2 := below_alloc (w := w.alloc (.cells #[.slice a n.length cap] 32)) (.cells #[.slice a' n'.length cap'] 32)
 have x2 := heap_alloc_new (w.alloc (.cells #[.slice a n.length cap] 32)) (.cells #[.slice a' n'.length cap'] 32)
 have k2 := block_kept b2 k1
 rw [e1] at x2
 have bb2 := below_next b1 b2
 have h2 := hide (h.below bb2)
 have h2' := hide (h'.below bb2)
 clear h h' b1 b2 k1 e1
 unfold under
 cases hok : nameOk n with
 | false =>
  rw [Bool.false_and]
  have HOK := hide hok
  clear hok
  go_enter Tryz.func114, Tryz.ntmps114
  go_wp2_with fail
  generalize (w.alloc (.cells #[.slice a n.length cap] 32)).alloc (.cells #[.slice a' n'.length cap'] 32) = W at *
  refine (implNameOk_has (unhide h2)).mono ?_
  rw [unhide HOK]
  rintro e w3 ⟨rfl, b3⟩
  go_wp2_with fail
  go_ret
  exact ⟨rfl, below_next bb2 b3⟩
 | true =>
  cases hok' : nameOk n' with
  | false =>
   rw [Bool.true_and, Bool.false_and]
   have HOK := hide hok
   have HOK' := hide hok'
   clear hok hok'
   go_enter Tryz.func114, Tryz.ntmps114
   go_wp2_with fail
   generalize (w.alloc (.cells #[.slice a n.length cap] 32)).alloc (.cells #[.slice a' n'.length cap'] 32) = W at *
   refine (implNameOk_has (unhide h2)).mono ?_
   rw [unhide HOK]
   rintro e w3 ⟨rfl, b3⟩
   have x3 := block_one (block_kept b3 x2)
   go_wp2_with fail
   refine (implNameOk_has ((unhide h2').below b3)).mono ?_
   rw [unhide HOK']
   rintro e w4 ⟨rfl, b4⟩
   go_wp2_with fail
   go_ret
   exact ⟨rfl, below_next bb2 (below_next b3 b4)⟩
  | true =>
   rw [Bool.true_and, Bool.true_and]
   have hs := (nameOk_parts hok).1
   have hs' := (nameOk_parts hok').1
   have hno := hide (fun (hlt : n.length < n'.length) => endsWith_no hlt)
   have hyes := hide (fun (hle : n'.length ≤ n.length) => (show endsWith n n' = (nameCmp (n.drop (n.length - n'.length)) n' == 0) by
    rw [endsWith_yes hle]; unfold nameCmp; rw [if_pos ⟨nameOk_drop hok _, hok'⟩]))
   have HOK := hide hok
   have HOK' := hide hok'
   clear hok hok'
   generalize endsWith n n' = R at *
   have hdrop := hide (fun (W : World) (hW : HasL W (.slice a n.length cap) n) (k : Nat) (hk : k ≤ n.length) => HasL.drop hW rfl hk)
   go_enter Tryz.func114, Tryz.ntmps114
   go_wp2_with fail
   generalize (w.alloc (.cells #[.slice a n.length cap] 32)).alloc (.cells #[.slice a' n'.length cap'] 32) = W0 at *
   refine (implNameOk_has (unhide h2)).mono ?_
   rw [unhide HOK]
   rintro e w3 ⟨rfl, b3⟩
   have x3 := block_one (block_kept b3 x2)
   go_wp2_with fail
   refine (implNameOk_has ((unhide h2').below b3)).mono ?_
   rw [unhide HOK']
   rintro e W ⟨rfl, b4⟩
   have b4 := below_next b3 b4
   have cx := block_one (block_kept b4 x2)
   have ck := block_one (block_kept b4 k2)
   have h4 := hide ((unhide h2).below b4)
   have h4' := hide ((unhide h2').below b4)
   have bb4 := below_next bb2 b4
   clear x3 x2 k2 h2 h2' b3 b4 bb2 HOK HOK'
   by_cases hle : n'.length ≤ n.length
   ·have hr := unhide hyes hle
    have hd := unhide hdrop W (unhide h4) (n.length - n'.length) (by omega)
    clear hyes hno hdrop
    generalize hj : n.length - n'.length = j at *
    have hlen : (n.drop j).length = n.length - j := by simp
    generalize n.drop j = nd at *
    have i0 : ¬ (n.length : Int) < n'.length := by omega
    have s1 : (n.length : Int) - n'.length = j := by omega
    have wj : IntKind.i64.wrap (j : Int) = j := wrap_small j (by omega)
    have jl : j ≤ n.length := by omega
    have jc : j ≤ cap := by omega
    rcases hd with ⟨ha, hm0, hc0⟩ | ⟨g, off, ha, hd⟩
    ·have hz' : n'.length = 0 := by omega
     have hz : j = 0 := by omega
     obtain rfl : nd = [] := List.eq_nil_of_length_eq_zero (by omega)
     obtain rfl : n' = [] := List.eq_nil_of_length_eq_zero hz'
     obtain rfl : n = [] := List.eq_nil_of_length_eq_zero hm0
     subst ha hc0 hz
     clear hj hlen i0 s1 wj jl jc hz' hm0 hle hs hs' hcl
     simp only [List.length_nil] at *
     have HD := hide (show HasL W (.slice none 0 0) [] from .inl ⟨rfl, rfl⟩)
     go_wp2_with fail
     refine (implNameCmp_has (unhide HD) (unhide h4')).mono ?_
     generalize nameCmp [] [] = c at *
     subst hr
     rintro e w5 ⟨rfl, b5⟩
     go_wp2_with fail
     go_ret
     exact ⟨rfl, below_next bb4 b5⟩
    ·subst ha
     by_cases hcj : cap = j
     ·have e2 : j = n.length := by omega
      have e1 : cap = n.length := by omega
      obtain rfl : n' = [] := List.eq_nil_of_length_eq_zero (by omega)
      obtain rfl : nd = [] := List.eq_nil_of_length_eq_zero (by omega)
      rw [if_pos hcj, e1, e2, Nat.sub_self] at hd
      have HD := hide hd
      subst e1 e2
      clear hd hj hlen hcj hle hs' jl jc s1 i0 hcl
      simp only [List.length_nil] at *
      generalize hn : n.length = m at *
      go_wp2_with fail
      refine (implNameCmp_has (unhide HD) (unhide h4')).mono ?_
      generalize nameCmp [] [] = c at *
      subst hr
      rintro e w5 ⟨rfl, b5⟩
      go_wp2_with fail
      go_ret
      exact ⟨rfl, below_next bb4 b5⟩
     ·rw [if_neg hcj] at hd
      have HD := hide hd
      clear hd
      generalize hn : n.length = m at *
      generalize hn' : n'.length = m' at *
      go_wp2_with fail
      refine (implNameCmp_has (unhide HD) (unhide h4')).mono ?_
      generalize nameCmp nd n' = c at *
      subst hr
      rintro e w5 ⟨rfl, b5⟩
      go_wp2_with fail
      go_ret
      exact ⟨rfl, below_next bb4 b5⟩
   ·have hr := unhide hno (by omega)
    subst hr
    have i0 : (n.length : Int) < n'.length := by omega
    go_wp2_with fail
    go_ret
    exact ⟨rfl, bb4⟩
end Go.Proofs.YtmlcmkoefelolaaGreat
