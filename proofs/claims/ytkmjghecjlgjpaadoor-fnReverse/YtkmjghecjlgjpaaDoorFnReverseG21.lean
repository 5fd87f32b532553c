/-
  Contracts of the specification's l2text and NameText. Plain facts: a name comes back from its text, great letters being as small ones. No program is named here.
-/
import Derived.Test.YtkmjghecjlgjpaaDoorFnReverseG18
import Derived.Test.YtkmjghecjlgjpaaDoorFnReverseG20
import Derived.Lib.SlBytesConst
import Derived.Test.YtkmjghecjlgjpaaDoorFnReverseG15
namespace Go.Proofs.YtkmjghecjlgjpaaDoor
open Go.RowKit
set_option linter.unusedVariables false

set_option maxHeartbeats 1000000 in
set_option maxRecDepth 100000 in
theorem l2text_root {a : Option Addr} {cap : Nat} {w : World} :
    Calls Tryd.prog 84 #[.agg #[.slice a 0 cap]] w fun e w' => ∃ v', e = .returned v' ∧ Has w' v' [46] ∧ Below w.heap.size w w' := by
  have hcid := fun (w : World) (C : Array Value) (n c : Nat) => Lib.run_convert_bytes_const (P := Tryd.prog) w 22 5 C n c Tryd.underlying22 Tryd.underlying5
  have b0 := below_alloc (w := w) (.cells #[.slice a 0 cap] 26)
  have hz : (w.alloc (.cells #[.slice a 0 cap] 26)).heap.size = w.heap.size + 1 := by show (w.heap.push _).size = _; simp
  have hcid2 := fun (C : Array Value) (n c : Nat) => hcid (w.alloc (.cells #[.slice a 0 cap] 26)) C n c
  have hh := has_const (w.alloc (.cells #[.slice a 0 cap] 26)) 5 [46] (1, 2) (by simp [maxLen])
  rw [hz] at hcid2 hh
  have HH := hide hh
  clear hcid hz hh
  go_enter Tryd.func84, Tryd.ntmps84
  go_wp2
  go_ret
  exact ⟨_, rfl, unhide HH, b0.alloc b0.size _⟩

set_option maxHeartbeats 1000000 in
set_option maxRecDepth 100000 in
theorem l2text_some {a : Option Addr} {cap : Nat} {n : List (List Int)} {w : World} (h : HasL w (.slice a n.length cap) n) (hok : nameOk n = true) (hn0 : n.length ≠ 0) :
    Calls Tryd.prog 84 #[.agg #[.slice a n.length cap]] w fun e w' => ∃ v', e = .returned v' ∧ Own w.heap.size 5 w' v' (dots n n.length) ∧ Below w.heap.size w w' := by
  obtain ⟨a', cap', he, hl, hm⟩ := h.form
  simp only [Value.slice.injEq] at he
  obtain ⟨rfl, _, rfl⟩ := he
  unfold maxLen at hm
  have hdl := dots_length n hok
  have h6 := (nameOk_parts hok).1
  have HDS := hide (dots_succ n)
  have HD0 := hide (dots_zero n)
  have HLEN := hide (show ∀ k, k < n.length → (n.getD k []).length ≤ 15 from fun k hk => (labelOk_length ((nameOk_parts hok).2 k hk)).2)
  clear hok
  have hn1 : ((n.length : Int) == 0) = false := by rw [beq_eq_false_iff_ne]; omega
  have HDL := hide hdl
  clear hdl
  generalize dots n = D at *
  have b0 := below_alloc (w := w) (.cells #[.slice a n.length cap] 26)
  have k0 := heap_alloc_new w (.cells #[.slice a n.length cap] 26)
  have h0 := hide (h.below b0)
  have H := hide h
  clear h
  have z0 := block_lt k0
  generalize hn : n.length = m at *
  have HN := hide hn
  clear hn
  go_enter Tryd.func84, Tryd.ntmps84
  go_wp2
  generalize w.alloc (.cells #[.slice a m cap] 26) = w1 at *
  go_loopw [3, 4] (fun o i wr => ∃ k : Nat, k ≤ m ∧ i = .int .i64 k ∧ Own w1.heap.size 5 wr o (D k) ∧ Below w1.heap.size w1 wr) (fun _ i _ => m - (intOf i).toNat)
  case atStart => exact ⟨0, Nat.zero_le _, rfl, by rw [unhide HD0]; exact World.ownsRow_nil _ _ _ _, Below.refl _ _⟩
  case round =>
    obtain ⟨k, hk, rfl, ho, hb⟩ := hrel
    have c1 := block_one (block_kept hb k0)
    by_cases hlt : k < m
    · obtain ⟨b, off, u, rfl, hbl, hc, hu⟩ := ((unhide h0).below hb).here (k := k) (by rw [unhide HN]; exact hlt)
      have hds := hide (unhide HDS k hlt)
      have hlk := unhide HLEN k hlt
      have hdk := unhide HDL k
      generalize n.getD k [] = lab at *
      have HU := hide hu
      obtain ⟨ua, uc, rfl, _⟩ := hu.form
      clear hu
      have zb := hb.size
      go_wp2_with (at_builtin; refine append_bytes rfl _ _ 22 5 rfl Tryd.underlying22 info_u8 w1.heap.size _ (.slice ua lab.length uc) (D k) lab rfl rfl ho (unhide HU).reads (by omega) zb ?_)
      intro v2 w2 o2 g2
      have z2 := g2.size
      have hb2 : Below w1.heap.size w1 w2 := hb.grown g2 zb (fun q hq => (ho.lt q hq).1)
      clear g2 ho hb c1
      go_wp2_with (at_builtin; refine append_bytes rfl _ _ 22 5 rfl Tryd.underlying22 info_u8 w1.heap.size v2 _ (D k ++ lab) [46] rfl rfl (o2.alloc _) (own_lit w2 0 5 [46] (Nat.zero_le _) (by simp [maxLen])).reads (by simp; omega) (by simp; omega) ?_)
      intro v3 w3 o3 g3
      have hb3 : Below w1.heap.size w1 w3 := (hb2.alloc hb2.size _).grown g3 (by simp; omega) (fun q hq => (o2.lt q hq).1)
      clear g3 o2 hb2
      go_wp2_with fail
      exact ⟨⟨k + 1, by omega, by go_num, by rw [unhide hds, List.append_assoc]; exact o3, hb3⟩, by simp [intOf]; omega⟩
    · obtain rfl : k = m := by omega
      go_wp2_with fail
      go_ret
      exact ⟨_, rfl, ho.mono (Nat.le_of_lt z0), below_next b0 hb⟩

set_option maxHeartbeats 1000000 in
set_option maxRecDepth 100000 in
theorem specNameText_has {v : Value} {n : List (List Int)} {w : World} (h : HasL w v n) :
    Calls Tryd.prog 46 #[.agg #[v]] w fun e w' => ∃ v', e = .returned v' ∧ Has w' v' (nameText n) ∧ Below w.heap.size w w' := by
  obtain ⟨a, cap, rfl, hl, hm⟩ := h.form
  have b0 := below_alloc (w := w) (.cells #[.slice a n.length cap] 26)
  have k0 := heap_alloc_new w (.cells #[.slice a n.length cap] 26)
  have h0 := hide (h.below b0)
  clear h hm hl
  have HNO := hide (nameText_no (n := n))
  have HRO := hide (nameText_root (n := n))
  have HSO := hide (nameText_some (n := n))
  generalize hT : nameText n = T at *
  clear hT
  have hcall : ∀ w1, HasL w1 (.slice a n.length cap) n → nameOk n = true → Calls Tryd.prog 84 #[.agg #[.slice a n.length cap]] w1 fun e w' => ∃ v', e = .returned v' ∧ Has w' v' T ∧ Below w1.heap.size w1 w' := by
    intro w1 h1 hok
    by_cases hn0 : n.length = 0
    · rw [unhide HRO hok hn0, hn0]
      exact l2text_root
    · rw [unhide HSO hok hn0]
      exact (l2text_some h1 hok hn0).mono fun e w' ⟨v', he, ho, hb⟩ => ⟨v', he, ho.has, hb⟩
  have HC := hide hcall
  clear hcall
  cases hok : nameOk n with
  | false =>
    have hTn := unhide HNO hok
    subst hTn
    have HOK := hide hok
    clear hok
    go_enter Tryd.func46, Tryd.ntmps46
    go_wp2_with fail
    generalize w.alloc (.cells #[.slice a n.length cap] 26) = W0 at *
    refine (specNameOk_has (unhide h0)).mono ?_
    rw [unhide HOK]
    rintro e w1 ⟨rfl, b1⟩
    have bb1 := below_next b0 b1
    go_wp2_with fail
    go_ret
    exact ⟨_, rfl, .inl ⟨rfl, rfl⟩, bb1⟩
  | true =>
    have HOK := hide hok
    clear hok
    go_enter Tryd.func46, Tryd.ntmps46
    go_wp2_with fail
    generalize w.alloc (.cells #[.slice a n.length cap] 26) = W0 at *
    refine (specNameOk_has (unhide h0)).mono ?_
    rw [unhide HOK]
    rintro e w1 ⟨rfl, b1⟩
    have bb1 := below_next b0 b1
    have c1 := block_one (block_kept b1 k0)
    have h1 := hide ((unhide h0).below b1)
    go_wp2_with fail
    refine (unhide HC w1 (unhide h1) (unhide HOK)).mono ?_
    rintro e w2 ⟨v2, rfl, o2, b2⟩
    go_wp2_with fail
    go_ret
    exact ⟨_, rfl, o2, below_next bb1 b2⟩
end Go.Proofs.YtkmjghecjlgjpaaDoor

namespace Go.Proofs.YtkmjghecjlgjpaaDoor
open Go.RowKit

theorem lowered_map (l : List Int) : lowered l l.length = l.map low := by
  apply List.ext_getElem?
  intro j
  by_cases hj : j < l.length
  · simp [lowered, hj]
  · simp [lowered, hj]

theorem rest_one (e : Bool) (f : Int → Int) (h46 : f 46 = 46) : ∀ (l cur xs : List Int), (∀ c ∈ l, f c ≠ 46) → rest e ((l ++ 46 :: xs).map f) cur = (cur ++ l.map f).map low :: rest e (xs.map f) []
  | [], cur, xs, _ => by
    show rest e (f 46 :: xs.map f) cur = _
    rw [rest, if_pos h46, lowered_map]
    simp
  | x :: l, cur, xs, h => by
    show rest e (f x :: (l ++ 46 :: xs).map f) cur = _
    rw [rest, if_neg (h x (by simp)), rest_one e f h46 l _ xs (fun c hc => h c (by simp [hc]))]
    simp

/-- What leaves a sign as it is, or makes it great. -/
structure Keeps (f : Int → Int) : Prop where
  dot : f 46 = 46
  sign : ∀ c, signOk c = true → f c ≠ 46 ∧ low (f c) = c

def upC (x : Int) : Int := if 97 ≤ x ∧ x ≤ 122 then x - 32 else x
theorem keeps_id : Keeps id := ⟨rfl, fun c h => by
  have := of_decide_eq_true h
  simp only [id]
  unfold low
  split <;> omega⟩
theorem keeps_up : Keeps upC := ⟨by decide, fun c h => by
  have := of_decide_eq_true h
  unfold upC low
  split <;> split <;> omega⟩

theorem dots_cons (l : List Int) (n : List (List Int)) : dots (l :: n) (l :: n).length = l ++ 46 :: dots n n.length := by
  unfold dots
  rw [List.take_length, List.take_length]
  simp
theorem rest_text {f : Int → Int} (hf : Keeps f) : ∀ (n : List (List Int)), (∀ l ∈ n, ∀ c ∈ l, signOk c = true) → rest true ((dots n n.length).map f) [] = n
  | [], _ => rfl
  | l :: n, h => by
    rw [dots_cons, rest_one true f hf.dot l [] _ (fun c hc => (hf.sign c (h l (by simp) c hc)).1), rest_text hf n (fun l' hl => h l' (by simp [hl]))]
    congr 1
    rw [List.nil_append, List.map_map]
    have : l.map (low ∘ f) = l.map id := List.map_congr_left (fun c hc => (hf.sign c (h l (by simp) c hc)).2)
    rw [this, List.map_id]

theorem nameOk_signs {n : List (List Int)} (h : nameOk n = true) : ∀ l ∈ n, (1 ≤ l.length) ∧ ∀ c ∈ l, signOk c = true := by
  intro l hl
  obtain ⟨j, hj, rfl⟩ := List.getElem_of_mem hl
  have hk := (nameOk_parts h).2 j hj
  rw [List.getD_eq_getElem?_getD, List.getElem?_eq_getElem hj, Option.getD_some] at hk
  have hd := of_decide_eq_true hk
  refine ⟨hd.1, fun c hc => ?_⟩
  obtain ⟨i, hi, rfl⟩ := List.getElem_of_mem hc
  have := hd.2.2 i hi
  rwa [List.getD_eq_getElem?_getD, List.getElem?_eq_getElem hi, Option.getD_some] at this

theorem nameRead_text {f : Int → Int} (hf : Keeps f) {n : List (List Int)} (h : nameOk n = true) : nameRead ((nameText n).map f) = (n, true) := by
  by_cases h0 : n.length = 0
  · rw [nameText_root h h0]
    have : n = [] := List.eq_nil_of_length_eq_zero h0
    subst this
    unfold nameRead
    rw [if_pos (by simp [hf.dot])]
  · rw [nameText_some h h0]
    have hs := nameOk_signs h
    have hr := rest_text hf n (fun l hl => (hs l hl).2)
    match n, h0 with
    | l :: n, _ =>
      have hl := (hs l (by simp)).1
      have hlen : 2 ≤ ((dots (l :: n) (l :: n).length).map f).length := by
        rw [dots_cons]
        simp
        omega
      have hin : labelsIn ((dots (l :: n) (l :: n).length).map f) = l :: n := by
        unfold labelsIn
        rw [decide_eq_true (by omega)]
        exact hr
      unfold nameRead
      rw [if_neg (fun e => by rw [e] at hlen; simp at hlen), hin, if_pos h]

theorem nameRead_text' {n : List (List Int)} (h : nameOk n = true) : nameRead (nameText n) = (n, true) := by
  have := nameRead_text keeps_id h
  rwa [List.map_id] at this
theorem nameText_inj {n m : List (List Int)} (h : nameOk n = true) (h' : nameOk m = true) : nameText n = nameText m ↔ n = m := by
  refine ⟨fun e => ?_, fun e => by rw [e]⟩
  have h1 := nameRead_text' h
  rw [e, nameRead_text' h'] at h1
  exact (Prod.mk.inj h1).1.symm
theorem nameText_bytes (n : List (List Int)) : ∀ c ∈ nameText n, 0 ≤ c ∧ c ≤ 255 := by
  intro c hc
  unfold nameText at hc
  split at hc
  · rename_i h
    split at hc
    · simp at hc
      omega
    · unfold dots at hc
      rw [List.take_length] at hc
      simp only [List.mem_flatten, List.mem_map] at hc
      obtain ⟨x, ⟨l, hl, rfl⟩, hc⟩ := hc
      simp at hc
      rcases hc with hc | rfl
      · have := of_decide_eq_true ((nameOk_signs h l hl).2 c hc)
        omega
      · omega
  · simp at hc
theorem nameRead_ok (l : List Int) : (nameRead l).2 = true → nameOk (nameRead l).1 = true := by
  unfold nameRead
  split
  · intro _
    decide
  · split
    · intro _
      assumption
    · intro h
      cases h
end Go.Proofs.YtkmjghecjlgjpaaDoor
