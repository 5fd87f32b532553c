/-
  Contract of the laws' name: a name out of a text. Contracts of the laws' same. Plain facts: a name's text, label by label. No program is named here. Contracts of the specification's l2text and NameText. Plain facts: a name comes back from its text, great letters being as small ones. No program is named here. Contract of the laws' sameName.
-/
import Derived.Test.YtjgfljndeolmoaaFnInsidesG13
import Derived.Test.YtjgfljndeolmoaaFnInsidesG14
import Derived.Laws.IdiomStrings
import Derived.Test.YtjgfljndeolmoaaFnInsidesG12
import Derived.WalkKit
import Derived.Test.YtjgfljndeolmoaaFnInsidesG01
import Derived.Test.YtjgfljndeolmoaaFnInsidesG10
import Derived.Lib.SlBytesConst
import Derived.Test.YtjgfljndeolmoaaFnInsidesG03
import Derived.Deep.RegionHeld3
namespace Go.Proofs.Ytjgfljndeolmoaa
open Go.RowKit
set_option linter.unusedVariables false

set_option maxHeartbeats 1000000 in
set_option maxRecDepth 100000 in
theorem name_any (s : ByteArray) (w : World) (hs : s.size ≤ 1048576) :
  Calls Try.prog 48 #[.string s] w fun e w' => ∃ v', e = .returned (.agg #[v']) ∧ OwnL w.heap.size 22 5 w' v' (nameRead (numsOf s)).1 ∧ Below w.heap.size w w' := by
 have b0 := below_alloc (w := w) (.cells #[.slice none 0 0] 26)
 have k0 := heap_alloc_new w (.cells #[.slice none 0 0] 26)
 have hcv := run_bytes_of_string (P := Try.prog) (w.alloc (.cells #[.slice none 0 0] 26)) 9 22 5 s Try.underlying9 Try.underlying22 Try.underlying5
 have hcap := grownCap_ge (w.alloc (.cells #[.slice none 0 0] 26)) s.size 0 5
 have hcap2 := grownCap_le_maxLen (w.alloc (.cells #[.slice none 0 0] 26)) s.size 0 5 (by unfold maxLen; omega)
 have hnl := numsOf_length s
 generalize grownCap (w.alloc (.cells #[.slice none 0 0] 26)) s.size 0 5 = C at *
 have esz : (w.alloc (.cells #[.slice none 0 0] 26)).heap.size = w.heap.size + 1 := by show (w.heap.push _).size = _; simp
 have ba := below_alloc (w := w.alloc (.cells #[.slice none 0 0] 26)) (.cells (bytesRow s C) 5 ((bytesRow s C).size, (bytesRow s C).size + 1))
 have bd := below_drew (w := (w.alloc (.cells #[.slice none 0 0] 26)).alloc (.cells (bytesRow s C) 5 ((bytesRow s C).size, (bytesRow s C).size + 1)))
 have HR := specNameRead_has ((has_str (w.alloc (.cells #[.slice none 0 0] 26)) 5 s C ((bytesRow s C).size, (bytesRow s C).size + 1) hcap hcap2).below bd) (by omega) (numsOf_bytes s)
 rw [esz] at HR
 have HR := hide HR
 have K1 := hide (block_kept bd (block_kept ba k0))
 have bb1 := below_next (below_next b0 ba) bd
 have z0 := block_lt k0
 have z1 := bb1.size
 have zk := block_lt (unhide K1)
 clear k0 b0 bd ba hcap hcap2 hnl esz
 generalize (nameRead (numsOf s)).1 = R at *
 generalize (nameRead (numsOf s)).2 = R2 at *
 go_enter Try.func48, Try.ntmps48
 go_wp2_with fail
 generalize ((w.alloc (.cells #[.slice none 0 0] 26)).alloc (.cells (bytesRow s C) 5 ((bytesRow s C).size, (bytesRow s C).size + 1))).drew = W at *
 refine (unhide HR).mono ?_
 rintro e w1 ⟨v1, rfl, o1, b1⟩
 obtain ⟨oa, oc, rfl, _⟩ := o1.hasL.form
 have bm := below_alloc (w := w1) (.cells #[.slice oa R.length oc] 26)
 have cm := block_one (heap_alloc_new w1 (.cells #[.slice oa R.length oc] 26))
 have k2 := block_kept bm (block_kept b1 (unhide K1))
 have c2 := block_one k2
 have f2 := block_frozen k2 0
 have K2 := hide (block_set k2 (.slice oa R.length oc))
 have O2 := hide (o1.below bm)
 have bb2 := below_next (below_next bb1 b1) bm
 have z2 := b1.size
 clear HR hcv o1 b1 bm k2 K1 bb1
 go_wp2_with fail
 refine bodyPost_ret (results_cell_row rfl _ _ w.heap.size 26 #[.slice oa R.length oc] (0, 0) _ rfl (unhide K2) Try.underlying26 rfl (by kernel_rfl)) rfl ?_
 exact ⟨_, rfl, ((unhide O2).kept (grown_setCell _ _ _) (by show w.heap.size < _; omega)).mono (by omega), bb2.setCell (Nat.le_refl _) _⟩
end Go.Proofs.Ytjgfljndeolmoaa

namespace Go.Proofs.Ytjgfljndeolmoaa
open Go.RowKit
set_option linter.unusedVariables false

set_option maxHeartbeats 400000 in
set_option maxRecDepth 100000 in
theorem same_has {v v' : Value} {l l' : List Int} {w : World} (h : Has w v l) (h' : Has w v' l') (hb : ∀ c ∈ l, 0 ≤ c ∧ c ≤ 255) (hb' : ∀ c ∈ l', 0 ≤ c ∧ c ≤ 255) :
  Calls Try.prog 95 #[v, v'] w fun e w' => e = .returned (.bool (decide (l = l'))) ∧ w = w' := by
 have hc := conv_has h
 have hc' := conv_has h'
 have hs := str_eq l l' hb hb'
 generalize decide (l = l') = d at *
 clear h h' hb hb'
 go_enter Try.func95, Try.ntmps95
 go_wp2
 go_ret
 exact ⟨rfl, rfl⟩

end Go.Proofs.Ytjgfljndeolmoaa

namespace Go.Proofs.Ytjgfljndeolmoaa
open Go.RowKit

/-- The first k labels, a dot behind each. -/
def dots (n : List (List Int)) (k : Nat) : List Int := ((n.take k).map (fun l => l ++ [46])).flatten

theorem dots_zero (n : List (List Int)) : dots n 0 = [] := by simp [dots]
theorem dots_succ (n : List (List Int)) (k : Nat) (h : k < n.length) : dots n (k + 1) = dots n k ++ n.getD k [] ++ [46] := by
 unfold dots
 rw [List.take_succ_eq_append_getElem h, List.map_append, List.flatten_append, show n.getD k [] = n[k] by simp [h]]
 simp only [List.map_cons, List.map_nil, List.flatten_cons, List.flatten_nil, List.append_nil, List.append_assoc]

theorem dots_length (n : List (List Int)) (h : nameOk n = true) (k : Nat) : (dots n k).length ≤ 16 * k := by
 induction k with
 | zero => simp [dots]
 | succ k ih =>
  by_cases hk : k < n.length
  ·rw [dots_succ n k hk]
   have := (labelOk_length ((nameOk_parts h).2 k hk)).2
   simp only [List.length_append, List.length_cons, List.length_nil]
   omega
  ·have e : dots n (k + 1) = dots n k := by unfold dots; rw [List.take_of_length_le (by omega), List.take_of_length_le (by omega)]
   rw [e]; omega

/-- A name's text. -/
def nameText (n : List (List Int)) : List Int := if nameOk n = true then (if n.length = 0 then [46] else dots n n.length) else []

theorem nameText_no {n : List (List Int)} (h : nameOk n = false) : nameText n = [] := by simp [nameText, h]
theorem nameText_root {n : List (List Int)} (h : nameOk n = true) (h0 : n.length = 0) : nameText n = [46] := by simp [nameText, h, h0]
theorem nameText_some {n : List (List Int)} (h : nameOk n = true) (h0 : n.length ≠ 0) : nameText n = dots n n.length := by simp [nameText, h, h0]
end Go.Proofs.Ytjgfljndeolmoaa

namespace Go.Proofs.Ytjgfljndeolmoaa
open Go.RowKit
set_option linter.unusedVariables false

set_option maxHeartbeats 1000000 in
set_option maxRecDepth 100000 in
theorem l2text_root {a : Option Addr} {cap : Nat} {w : World} :
  Calls Try.prog 121 #[.agg #[.slice a 0 cap]] w fun e w' => ∃ v', e = .returned v' ∧ Has w' v' [46] ∧ Below w.heap.size w w' := by
 have hcid := fun (w : World) (C : Array Value) (n c : Nat) => Lib.run_convert_bytes_const (P := Try.prog) w 22 5 C n c Try.underlying22 Try.underlying5
 have b0 := below_alloc (w := w) (.cells #[.slice a 0 cap] 26)
 have hz : (w.alloc (.cells #[.slice a 0 cap] 26)).heap.size = w.heap.size + 1 := by show (w.heap.push _).size = _; simp
 have hcid2 := fun (C : Array Value) (n c : Nat) => hcid (w.alloc (.cells #[.slice a 0 cap] 26)) C n c
 have hh := has_const (w.alloc (.cells #[.slice a 0 cap] 26)) 5 [46] (1, 2) (by simp [maxLen])
 rw [hz] at hcid2 hh
 have HH := hide hh
 clear hcid hz hh
 go_enter Try.func121, Try.ntmps121
 go_wp2
 go_ret
 exact ⟨_, rfl, unhide HH, b0.alloc b0.size _⟩

set_option maxHeartbeats 1000000 in
set_option maxRecDepth 100000 in
theorem l2text_some {a : Option Addr} {cap : Nat} {n : List (List Int)} {w : World} (h : HasL w (.slice a n.length cap) n) (hok : nameOk n = true) (hn0 : n.length ≠ 0) :
  Calls Try.prog 121 #[.agg #[.slice a n.length cap]] w fun e w' => ∃ v', e = .returned v' ∧ Own w.heap.size 5 w' v' (dots n n.length) ∧ Below w.heap.size w w' := by
 obtain ⟨a', cap', he, hl, hm⟩ := h.form
 simp only [Value.slice.injEq] at he
 obtain ⟨rfl, _, rfl⟩ := he
 unfold maxLen at hm
 have hdl := dots_length n hok
 have h6 := (nameOk_parts hok).1
 have HDS := hide (dots_succ n)
 have HD0 := hide (dots_zero n)
 have HLEN := hide (show ∀ k, k < n.length → (n.getD k []).length ≤ 15 from fun k hk => (labelOk_length ((nameOk_parts hok).2 k hk)).2)
 clear hok
 have hn1 : ((n.length : Int) == 0) = false := by rw [beq_eq_false_iff_ne]; omega
 have HDL := hide hdl
 clear hdl
 generalize dots n = D at *
 have b0 := below_alloc (w := w) (.cells #[.slice a n.length cap] 26)
 have k0 := heap_alloc_new w (.cells #[.slice a n.length cap] 26)
 have h0 := hide (h.below b0)
 have H := hide h
 clear h
 have z0 := block_lt k0
 generalize hn : n.length = m at *
 have HN := hide hn
 clear hn
 go_enter Try.func121, Try.ntmps121
 go_wp2
 generalize w.alloc (.cells #[.slice a m cap] 26) = w1 at *
 go_loopw [3, 4] (fun o i wr => ∃ k : Nat, k ≤ m ∧ i = .int .i64 k ∧ Own w1.heap.size 5 wr o (D k) ∧ Below w1.heap.size w1 wr) (fun _ i _ => m - (intOf i).toNat)
 case atStart => exact ⟨0, Nat.zero_le _, rfl, by rw [unhide HD0]; exact World.ownsRow_nil _ _ _ _, Below.refl _ _⟩
 case round =>
  obtain ⟨k, hk, rfl, ho, hb⟩ := hrel
  have c1 := block_one (block_kept hb k0)
  by_cases hlt : k < m
  ·obtain ⟨b, off, u, rfl, hbl, hc, hu⟩ := ((unhide h0).below hb).here (k := k) (by rw [unhide HN]; exact hlt)
   have hds := hide (unhide HDS k hlt)
   have hlk := unhide HLEN k hlt
   have hdk := unhide HDL k
   generalize n.getD k [] = lab at *
   have HU := hide hu
   obtain ⟨ua, uc, rfl, _⟩ := hu.form
   clear hu
   have zb := hb.size
   go_wp2_with (at_builtin; refine append_bytes rfl _ _ 22 5 rfl Try.underlying22 info_u8 w1.heap.size _ (.slice ua lab.length uc) (D k) lab rfl rfl ho (unhide HU).reads (by omega) zb ?_)
   intro v2 w2 o2 g2
   have z2 := g2.size
   have hb2 : Below w1.heap.size w1 w2 := hb.grown g2 zb (fun q hq => (ho.lt q hq).1)
   clear g2 ho hb c1
   go_wp2_with (at_builtin; refine append_bytes rfl _ _ 22 5 rfl Try.underlying22 info_u8 w1.heap.size v2 _ (D k ++ lab) [46] rfl rfl (o2.alloc _) (own_lit w2 0 5 [46] (Nat.zero_le _) (by simp [maxLen])).reads (by simp; omega) (by simp; omega) ?_)
   intro v3 w3 o3 g3
   have hb3 : Below w1.heap.size w1 w3 := (hb2.alloc hb2.size _).grown g3 (by simp; omega) (fun q hq => (o2.lt q hq).1)
   clear g3 o2 hb2
   go_wp2_with fail
   exact ⟨⟨k + 1, by omega, by go_num, by rw [unhide hds, List.append_assoc]; exact o3, hb3⟩, by simp [intOf]; omega⟩
  ·obtain rfl : k = m := by omega
   go_wp2_with fail
   go_ret
   exact ⟨_, rfl, ho.mono (Nat.le_of_lt z0), below_next b0 hb⟩

set_option maxHeartbeats 1000000 in
set_option maxRecDepth 100000 in
theorem specNameText_has {v : Value} {n : List (List Int)} {w : World} (h : HasL w v n) :
  Calls Try.prog 96 #[.agg #[v]] w fun e w' => ∃ v', e = .returned v' ∧ Has w' v' (nameText n) ∧ Below w.heap.size w w' := by
 obtain ⟨a, cap, rfl, hl, hm⟩ := h.form
 have b0 := below_alloc (w := w) (.cells #[.slice a n.length cap] 26)
 have k0 := heap_alloc_new w (.cells #[.slice a n.length cap] 26)
 have h0 := hide (h.below b0)
 clear h hm hl
 have HNO := hide (nameText_no (n := n))
 have HRO := hide (nameText_root (n := n))
 have HSO := hide (nameText_some (n := n))
 generalize hT : nameText n = T at *
 clear hT
 have hcall : ∀ w1, HasL w1 (.slice a n.length cap) n → nameOk n = true → Calls Try.prog 121 #[.agg #[.slice a n.length cap]] w1 fun e w' => ∃ v', e = .returned v' ∧ Has w' v' T ∧ Below w1.heap.size w1 w' := by
  intro w1 h1 hok
  by_cases hn0 : n.length = 0
  ·rw [unhide HRO hok hn0, hn0]
   exact l2text_root
  ·rw [unhide HSO hok hn0]
   exact (l2text_some h1 hok hn0).mono fun e w' ⟨v', he, ho, hb⟩ => ⟨v', he, ho.has, hb⟩
 have HC := hide hcall
 clear hcall
 cases hok : nameOk n with
 | false =>
  have hTn := unhide HNO hok
  subst hTn
  have HOK := hide hok
  clear hok
  go_enter Try.func96, Try.ntmps96
  go_wp2_with fail
  generalize w.alloc (.cells #[.slice a n.length cap] 26) = W0 at *
  refine (specNameOk_has (unhide h0)).mono ?_
  rw [unhide HOK]
  rintro e w1 ⟨rfl, b1⟩
  have bb1 := below_next b0 b1
  go_wp2_with fail
  go_ret
  exact ⟨_, rfl, .inl ⟨rfl, rfl⟩, bb1⟩
 | true =>
  have HOK := hide hok
  clear hok
  go_enter Try.func96, Try.ntmps96
  go_wp2_with fail
  generalize w.alloc (.cells #[.slice a n.length cap] 26) = W0 at *
  refine (specNameOk_has (unhide h0)).mono ?_
  rw [unhide HOK]
  rintro e w1 ⟨rfl, b1⟩
  have bb1 := below_next b0 b1
  have c1 := block_one (block_kept b1 k0)
  have h1 := hide ((unhide h0).below b1)
  go_wp2_with fail
  refine (unhide HC w1 (unhide h1) (unhide HOK)).mono ?_
  rintro e w2 ⟨v2, rfl, o2, b2⟩
  go_wp2_with fail
  go_ret
  exact ⟨_, rfl, o2, below_next bb1 b2⟩
end Go.Proofs.Ytjgfljndeolmoaa

namespace Go.Proofs.Ytjgfljndeolmoaa
open Go.RowKit

theorem nameOk_signs {n : List (List Int)} (h : nameOk n = true) : ∀ l ∈ n, (1 ≤ l.length) ∧ ∀ c ∈ l, signOk c = true := by
 intro l hl
 obtain ⟨j, hj, rfl⟩ := List.getElem_of_mem hl
 have hk := (nameOk_parts h).2 j hj
 rw [List.getD_eq_getElem?_getD, List.getElem?_eq_getElem hj, Option.getD_some] at hk
 have hd := of_decide_eq_true hk
 refine ⟨hd.1, fun c hc => ?_⟩
 obtain ⟨i, hi, rfl⟩ := List.getElem_of_mem hc
 have := hd.2.2 i hi
 rwa [List.getD_eq_getElem?_getD, List.getElem?_eq_getElem hi, Option.getD_some] at this

theorem nameText_bytes (n : List (List Int)) : ∀ c ∈ nameText n, 0 ≤ c ∧ c ≤ 255 := by
 intro c hc
 unfold nameText at hc
 split at hc
 ·rename_i h
  split at hc
  ·simp at hc
   omega
  ·unfold dots at hc
   rw [List.take_length] at hc
   simp only [List.mem_flatten, List.mem_map] at hc
   obtain ⟨x, ⟨l, hl, rfl⟩, hc⟩ := hc
   simp at hc
   rcases hc with hc | rfl
   ·have := of_decide_eq_true ((nameOk_signs h l hl).2 c hc)
    omega
   ·omega
 ·simp at hc
end Go.Proofs.Ytjgfljndeolmoaa

namespace Go.Proofs.Ytjgfljndeolmoaa
open Go.RowKit
set_option linter.unusedVariables false

set_option maxHeartbeats 1000000 in
set_option maxRecDepth 100000 in
theorem sameName_has {v v' : Value} {n n' : List (List Int)} {w : World} (h : HasL w v n) (h' : HasL w v' n') :
  Calls Try.prog 50 #[.agg #[v], .agg #[v']] w fun e w' => e = .returned (.bool (decide (nameText n = nameText n'))) ∧ Below w.heap.size w w' := by
 obtain ⟨a, cap, rfl, _⟩ := h.form
 obtain ⟨a', cap', rfl, _⟩ := h'.form
 have b0 := below2 w (.cells #[.slice a n.length cap] 26) (.cells #[.slice a' n'.length cap'] 26)
 obtain ⟨hsz, k0, x0⟩ := box2 w (.cells #[.slice a n.length cap] 26) #[.slice a' n'.length cap'] 26
 have H0 := hide (h.below b0)
 have H0' := hide (h'.below b0)
 have K0 := hide k0
 have X0 := hide x0
 have hB := nameText_bytes n
 have hB' := nameText_bytes n'
 have SP := fun (w : World) (x : Value) (h : HasL w x n) => specNameText_has h
 have SP' := fun (w : World) (x : Value) (h : HasL w x n') => specNameText_has h
 have HBB := hide hB
 have HBB' := hide hB'
 replace SP := hide SP
 replace SP' := hide SP'
 clear h h' k0 x0 hB hB'
 generalize nameText n = T at *
 generalize nameText n' = T' at *
 go_enter Try.func50, Try.ntmps50
 go_wp2_with fail
 generalize (w.alloc (.cells #[.slice a n.length cap] 26)).alloc (.cells #[.slice a' n'.length cap'] 26) = W at *
 have bd := below_drew (w := W)
 have K1 := hide (block_kept bd (unhide K0))
 have X1 := hide (block_kept bd (unhide X0))
 have H1 := hide ((unhide H0).below bd)
 have H1' := hide ((unhide H0').below bd)
 have bb := below_next b0 bd
 have c1 := block_one (unhide K1)
 have c1' := block_one (unhide X1)
 clear bd b0 K0 X0 H0 H0' hsz
 go_region_held3 (fun w' => w'.cell? ⟨w.heap.size, 0, none⟩ = some (.slice a n.length cap) ∧ w'.cell? ⟨w.heap.size + 1, 0, none⟩ = some (.slice a' n'.length cap'))
  (first | exact ⟨block_one (unhide K1), block_one (unhide X1)⟩ | exact ⟨block_one (block_kept q3 (unhide K1)), block_one (block_kept q3 (unhide X1))⟩ | exact ⟨block_one (block_kept b2 (unhide K1)), block_one (block_kept b2 (unhide X1))⟩)
  (first
  | (go_at_call 95; refine (same_has (u2.below b3) u3 (unhide HBB) (unhide HBB')).mono ?_; rintro e w4 ⟨rfl, rfl⟩)
  | (go_at_call 96; refine (unhide SP _ _ (unhide H1)).mono ?_; rintro e w2 ⟨t2, rfl, u2, b2⟩; obtain ⟨ta2, tc2, rfl, _⟩ := u2.form)
  | (go_at_call 96; refine (unhide SP' _ _ ((unhide H1').below b2)).mono ?_; rintro e w3 ⟨t3, rfl, u3, b3⟩; obtain ⟨ta3, tc3, rfl, _⟩ := u3.form; have q3 := below_next b2 b3))
 go_wp2_with fail
 go_ret
 exact ⟨rfl, below_next bb q3⟩
end Go.Proofs.Ytjgfljndeolmoaa
