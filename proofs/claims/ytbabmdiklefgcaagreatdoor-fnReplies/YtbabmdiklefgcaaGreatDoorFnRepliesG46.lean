/-
  Contracts of the laws' names: a name is read, and written. Contracts of the specification's l2text. Contract of the specification's NameText. Plain facts: a name comes back from its text, great letters being as small ones. No program is named here. Contract of the laws' sameName.
-/
import Derived.Test.YtbabmdiklefgcaaGreatDoorFnRepliesG43
import Derived.Test.YtbabmdiklefgcaaGreatDoorFnRepliesG45
import Derived.Test.YtbabmdiklefgcaaGreatDoorFnRepliesG32
import Derived.Lib.SlBytesConst
import Derived.Test.YtbabmdiklefgcaaGreatDoorFnRepliesG00
import Derived.Test.YtbabmdiklefgcaaGreatDoorFnRepliesG01
import Derived.Test.YtbabmdiklefgcaaGreatDoorFnRepliesG06
import Derived.Test.YtbabmdiklefgcaaGreatDoorFnRepliesG08
import Derived.Test.YtbabmdiklefgcaaGreatDoorFnRepliesG07
import Derived.Deep.RegionHeld3
namespace Go.Proofs.YtbabmdiklefgcaaGreatDoor
open Go.RowKit
set_option linter.unusedVariables false

theorem nameRead_ab : nameRead [65, 46, 98] = ([[97], [98]], true) := by decide +kernel
theorem nameText_ab : nameText [[97], [98]] = [97, 46, 98, 46] := by decide +kernel
theorem bytes8_of {l : List Int} (h : ∀ x ∈ l, 0 ≤ x ∧ x ≤ 255) : Bytes8 l := fun k => by
 rw [List.getD_eq_getElem?_getD]
 cases hk : l[k]? with
 | none => simp
 | some y => exact h y (List.mem_of_getElem? hk)

set_option maxHeartbeats 1000000 in
set_option maxRecDepth 100000 in
theorem names_any (w : World) : Calls Tryz.prog 7 #[] w fun e w' => e = .returned (.bool true) ∧ Below w.heap.size w w' := by
 have hcid := fun (w : World) (C : Array Value) (n c : Nat) => Lib.run_convert_bytes_const (P := Tryz.prog) w 22 5 C n c Tryz.underlying22 Tryz.underlying5
 have b0 := UI (w := w) (.cells #[.int .u8 65, .int .u8 46, .int .u8 98] 5 (3, 4))
 have HR := implNameRead_has (l := [65, 46, 98]) (has_const w 5 [65, 46, 98] (3, 4) (by simp [maxLen])) (by simp) (bytes8_of (by simp))
 rw [nameRead_ab] at HR
 have HR := UC HR
 have HT := UC (fun (w : World) (v : Value) (h : HasL w v [[97], [98]]) => implNameText_has h)
 have HTB := UC nameText_ab
 go_enter Tryz.func7, Tryz.ntmps7
 go_wp2_with fail
 refine (UB HR).mono ?_
 rintro e w1 ⟨v1, rfl, o1, b1⟩
 obtain ⟨oa, oc, rfl, _⟩ := o1.hasL.form
 have bm := UI (w := w1) (.cells #[.slice oa 2 oc] 37)
 have K2 := UC (heap_alloc_new w1 (.cells #[.slice oa 2 oc] 37))
 have O2 := UC (o1.below bm).hasL
 have bb2 := UG (UG b0 b1) bm
 clear o1 b1 bm b0 HR
 have c2 := US (UB K2)
 go_wp2_with fail
 generalize w1.alloc (.cells #[.slice oa 2 oc] 37) = w2 at *
 refine (UB HT _ _ (UB O2)).mono ?_
 rw [UB HTB]
 rintro e w3 ⟨v3, rfl, o3, b3⟩
 have bb3 := UG bb2 b3
 clear c2 K2 O2 bb2 b3
 have b4 := UI (w := w3) (.cells #[.int .u8 97, .int .u8 46, .int .u8 98, .int .u8 46] 5 (4, 5))
 have HS := same_has (o3.alloc (.cells #[.int .u8 97, .int .u8 46, .int .u8 98, .int .u8 46] 5 (4, 5))).has (has_const w3 5 [97, 46, 98, 46] (4, 5) (by simp [maxLen])) (by simp) (by simp)
 rw [decide_eq_true rfl] at HS
 have HS := UC HS
 obtain ⟨va, vc, rfl, _⟩ := o3.lies
 clear o3
 go_wp2_with fail
 refine (UB HS).mono ?_
 rintro e w4 ⟨rfl, rfl⟩
 go_wp2_with fail
 go_ret
 exact ⟨rfl, UG bb3 b4⟩
set_option maxHeartbeats 1000000
set_option maxRecDepth 100000

theorem l2text_root {a : Option Addr} {cap : Nat} {w : World} :
  Calls Tryz.prog 53 #[.agg #[.slice a 0 cap]] w fun e w' => ∃ v', e = .returned v' ∧ Has w' v' [46] ∧ Below w.heap.size w w' := by
 have hcid := fun (w : World) (C : Array Value) (n c : Nat) => Lib.run_convert_bytes_const (P := Tryz.prog) w 22 5 C n c Tryz.underlying22 Tryz.underlying5
 have b0 := UI (w := w) (.cells #[.slice a 0 cap] 37)
 have hz : (w.alloc (.cells #[.slice a 0 cap] 37)).heap.size = w.heap.size + 1 := by show (w.heap.push _).size = _; simp
 have hcid2 := fun (C : Array Value) (n c : Nat) => hcid (w.alloc (.cells #[.slice a 0 cap] 37)) C n c
 have hh := has_const (w.alloc (.cells #[.slice a 0 cap] 37)) 5 [46] (1, 2) (by simp [maxLen])
 rw [hz] at hcid2 hh
 have HH := UC hh
 clear hcid hz hh
 go_enter Tryz.func53, Tryz.ntmps53
 go_wp2
 go_ret
 exact ⟨_, rfl, UB HH, b0.alloc b0.size _⟩

theorem l2text_some {a : Option Addr} {cap : Nat} {n : List (List Int)} {w : World} (h : HasL w (.slice a n.length cap) n) (hok : nameOk n = true) (hn0 : n.length ≠ 0) :
  Calls Tryz.prog 53 #[.agg #[.slice a n.length cap]] w fun e w' => ∃ v', e = .returned v' ∧ Own w.heap.size 5 w' v' (dots n n.length) ∧ Below w.heap.size w w' := by
 obtain ⟨a', cap', he, hl, hm⟩ := h.form
 simp only [Value.slice.injEq] at he
 obtain ⟨rfl, _, rfl⟩ := he
 unfold maxLen at hm
 have hdl := dots_length n hok
 have h6 := (nameOk_parts hok).1
 have HDS := UC (dots_succ n)
 have HD0 := UC (dots_zero n)
 have HLEN := UC (show ∀ k, k < n.length → (n.getD k []).length ≤ 15 from fun k hk => (labelOk_length ((nameOk_parts hok).2 k hk)).2)
 clear hok
 have hn1 : ((n.length : Int) == 0) = false := by rw [beq_eq_false_iff_ne]; omega
 have HDL := UC hdl
 clear hdl
 generalize dots n = D at *
 have b0 := UI (w := w) (.cells #[.slice a n.length cap] 37)
 have k0 := heap_alloc_new w (.cells #[.slice a n.length cap] 37)
 have h0 := UC (h.below b0)
 have H := UC h
 clear h
 have z0 := VC k0
 generalize hn : n.length = m at *
 have HN := UC hn
 clear hn
 go_enter Tryz.func53, Tryz.ntmps53
 go_wp2
 generalize w.alloc (.cells #[.slice a m cap] 37) = w1 at *
 go_loopw [3, 4] (fun o i wr => ∃ k : Nat, k ≤ m ∧ i = .int .i64 k ∧ Own w1.heap.size 5 wr o (D k) ∧ Below w1.heap.size w1 wr) (fun _ i _ => m - (intOf i).toNat)
 case atStart => exact ⟨0, Nat.zero_le _, rfl, by rw [UB HD0]; exact World.ownsRow_nil _ _ _ _, Below.refl _ _⟩
 case round =>
  obtain ⟨k, hk, rfl, ho, hb⟩ := hrel
  have c1 := US (UE hb k0)
  by_cases hlt : k < m
  ·obtain ⟨b, off, u, rfl, hbl, hc, hu⟩ := ((UB h0).below hb).here (k := k) (by rw [UB HN]; exact hlt)
   have hds := UC (UB HDS k hlt)
   have hlk := UB HLEN k hlt
   have hdk := UB HDL k
   generalize n.getD k [] = lab at *
   have HU := UC hu
   obtain ⟨ua, uc, rfl, _⟩ := hu.form
   clear hu
   have zb := hb.size
   go_wp2_with (at_builtin; refine append_bytes rfl _ _ 22 5 rfl Tryz.underlying22 VJ w1.heap.size _ (.slice ua lab.length uc) (D k) lab rfl rfl ho (UB HU).reads (by omega) zb ?_)
   intro v2 w2 o2 g2
   have z2 := g2.size
   have hb2 : Below w1.heap.size w1 w2 := hb.grown g2 zb (fun q hq => (ho.lt q hq).1)
   clear g2 ho hb c1
   go_wp2_with (at_builtin; refine append_bytes rfl _ _ 22 5 rfl Tryz.underlying22 VJ w1.heap.size v2 _ (D k ++ lab) [46] rfl rfl (o2.alloc _) (own_lit w2 0 5 [46] (Nat.zero_le _) (by simp [maxLen])).reads (by simp; omega) (by simp; omega) ?_)
   intro v3 w3 o3 g3
   have hb3 : Below w1.heap.size w1 w3 := (hb2.alloc hb2.size _).grown g3 (by simp; omega) (fun q hq => (o2.lt q hq).1)
   clear g3 o2 hb2
   go_wp2_with fail
   exact ⟨⟨k + 1, by omega, by go_num, by rw [UB hds, List.append_assoc]; exact o3, hb3⟩, by simp [intOf]; omega⟩
  ·obtain rfl : k = m := by omega
   go_wp2_with fail
   go_ret
   exact ⟨_, rfl, ho.mono (Nat.le_of_lt z0), UG b0 hb⟩
set_option maxHeartbeats 1000000 in
set_option maxRecDepth 100000 in
theorem specNameText_has {v : Value} {n : List (List Int)} {w : World} (h : HasL w v n) :
  Calls Tryz.prog 26 #[.agg #[v]] w fun e w' => ∃ v', e = .returned v' ∧ Has w' v' (nameText n) ∧ Below w.heap.size w w' := by
 obtain ⟨a, cap, rfl, hl, hm⟩ := h.form
 have b0 := UI (w := w) (.cells #[.slice a n.length cap] 37)
 have k0 := heap_alloc_new w (.cells #[.slice a n.length cap] 37)
 have h0 := UC (h.below b0)
 clear h hm hl
 have HNO := UC (nameText_no (n := n))
 have HRO := UC (nameText_root (n := n))
 have HSO := UC (nameText_some (n := n))
 generalize hT : nameText n = T at *
 clear hT
 have hcall : ∀ w1, HasL w1 (.slice a n.length cap) n → nameOk n = true → Calls Tryz.prog 53 #[.agg #[.slice a n.length cap]] w1 fun e w' => ∃ v', e = .returned v' ∧ Has w' v' T ∧ Below w1.heap.size w1 w' := by
  intro w1 h1 hok
  by_cases hn0 : n.length = 0
  ·rw [UB HRO hok hn0, hn0]
   exact l2text_root
  ·rw [UB HSO hok hn0]
   exact (l2text_some h1 hok hn0).mono fun e w' ⟨v', he, ho, hb⟩ => ⟨v', he, ho.has, hb⟩
 have HC := UC hcall
 clear hcall
 cases hok : nameOk n with
 | false =>
  have hTn := UB HNO hok
  subst hTn
  have HOK := UC hok
  clear hok
  go_enter Tryz.func26, Tryz.ntmps26
  go_wp2_with fail
  generalize w.alloc (.cells #[.slice a n.length cap] 37) = W0 at *
  refine (VO (UB h0)).mono ?_
  rw [UB HOK]
  rintro e w1 ⟨rfl, b1⟩
  have bb1 := UG b0 b1
  go_wp2_with fail
  go_ret
  exact ⟨_, rfl, .inl ⟨rfl, rfl⟩, bb1⟩
 | true =>
  have HOK := UC hok
  clear hok
  go_enter Tryz.func26, Tryz.ntmps26
  go_wp2_with fail
  generalize w.alloc (.cells #[.slice a n.length cap] 37) = W0 at *
  refine (VO (UB h0)).mono ?_
  rw [UB HOK]
  rintro e w1 ⟨rfl, b1⟩
  have bb1 := UG b0 b1
  have c1 := US (UE b1 k0)
  have h1 := UC ((UB h0).below b1)
  go_wp2_with fail
  refine (UB HC w1 (UB h1) (UB HOK)).mono ?_
  rintro e w2 ⟨v2, rfl, o2, b2⟩
  go_wp2_with fail
  go_ret
  exact ⟨_, rfl, o2, UG bb1 b2⟩
end Go.Proofs.YtbabmdiklefgcaaGreatDoor

namespace Go.Proofs.YtbabmdiklefgcaaGreatDoor
open Go.RowKit

theorem nameOk_signs {n : List (List Int)} (h : nameOk n = true) : ∀ l ∈ n, (1 ≤ l.length) ∧ ∀ c ∈ l, signOk c = true := by
 intro l hl
 obtain ⟨j, hj, rfl⟩ := List.getElem_of_mem hl
 have hk := (nameOk_parts h).2 j hj
 rw [List.getD_eq_getElem?_getD, List.getElem?_eq_getElem hj, Option.getD_some] at hk
 have hd := of_decide_eq_true hk
 refine ⟨hd.1, fun c hc => ?_⟩
 obtain ⟨i, hi, rfl⟩ := List.getElem_of_mem hc
 have := hd.2.2 i hi
 rwa [List.getD_eq_getElem?_getD, List.getElem?_eq_getElem hi, Option.getD_some] at this

theorem nameText_bytes (n : List (List Int)) : ∀ c ∈ nameText n, 0 ≤ c ∧ c ≤ 255 := by
 intro c hc
 unfold nameText at hc
 split at hc
 ·rename_i h
  split at hc
  ·simp at hc
   omega
  ·unfold dots at hc
   rw [List.take_length] at hc
   simp only [List.mem_flatten, List.mem_map] at hc
   obtain ⟨x, ⟨l, hl, rfl⟩, hc⟩ := hc
   simp at hc
   rcases hc with hc | rfl
   ·have := of_decide_eq_true ((nameOk_signs h l hl).2 c hc)
    omega
   ·omega
 ·simp at hc
end Go.Proofs.YtbabmdiklefgcaaGreatDoor

namespace Go.Proofs.YtbabmdiklefgcaaGreatDoor
open Go.RowKit
set_option linter.unusedVariables false

set_option maxHeartbeats 1000000 in
set_option maxRecDepth 100000 in
theorem sameName_has {v v' : Value} {n n' : List (List Int)} {w : World} (h : HasL w v n) (h' : HasL w v' n') :
  Calls Tryz.prog 10 #[.agg #[v], .agg #[v']] w fun e w' => e = .returned (.bool (decide (nameText n = nameText n'))) ∧ Below w.heap.size w w' := by
 obtain ⟨a, cap, rfl, _⟩ := h.form
 obtain ⟨a', cap', rfl, _⟩ := h'.form
 have b0 := below2 w (.cells #[.slice a n.length cap] 37) (.cells #[.slice a' n'.length cap'] 37)
 obtain ⟨hsz, k0, x0⟩ := box2 w (.cells #[.slice a n.length cap] 37) #[.slice a' n'.length cap'] 37
 have H0 := UC (h.below b0)
 have H0' := UC (h'.below b0)
 have K0 := UC k0
 have X0 := UC x0
 have hB := nameText_bytes n
 have hB' := nameText_bytes n'
 have SP := fun (w : World) (x : Value) (h : HasL w x n) => specNameText_has h
 have SP' := fun (w : World) (x : Value) (h : HasL w x n') => specNameText_has h
 have HBB := UC hB
 have HBB' := UC hB'
 replace SP := UC SP
 replace SP' := UC SP'
 clear h h' k0 x0 hB hB'
 generalize nameText n = T at *
 generalize nameText n' = T' at *
 go_enter Tryz.func10, Tryz.ntmps10
 go_wp2_with fail
 generalize (w.alloc (.cells #[.slice a n.length cap] 37)).alloc (.cells #[.slice a' n'.length cap'] 37) = W at *
 have bd := UX (w := W)
 have K1 := UC (UE bd (UB K0))
 have X1 := UC (UE bd (UB X0))
 have H1 := UC ((UB H0).below bd)
 have H1' := UC ((UB H0').below bd)
 have bb := UG b0 bd
 have c1 := US (UB K1)
 have c1' := US (UB X1)
 clear bd b0 K0 X0 H0 H0' hsz
 go_region_held3 (fun w' => w'.cell? ⟨w.heap.size, 0, none⟩ = some (.slice a n.length cap) ∧ w'.cell? ⟨w.heap.size + 1, 0, none⟩ = some (.slice a' n'.length cap'))
  (first | exact ⟨US (UB K1), US (UB X1)⟩ | exact ⟨US (UE q3 (UB K1)), US (UE q3 (UB X1))⟩ | exact ⟨US (UE b2 (UB K1)), US (UE b2 (UB X1))⟩)
  (first
  | (go_at_call 20; refine (same_has (u2.below b3) u3 (UB HBB) (UB HBB')).mono ?_; rintro e w4 ⟨rfl, rfl⟩)
  | (go_at_call 26; refine (UB SP _ _ (UB H1)).mono ?_; rintro e w2 ⟨t2, rfl, u2, b2⟩; obtain ⟨ta2, tc2, rfl, _⟩ := u2.form)
  | (go_at_call 26; refine (UB SP' _ _ ((UB H1').below b2)).mono ?_; rintro e w3 ⟨t3, rfl, u3, b3⟩; obtain ⟨ta3, tc3, rfl, _⟩ := u3.form; have q3 := UG b2 b3))
 go_wp2_with fail
 go_ret
 exact ⟨rfl, UG bb q3⟩
end Go.Proofs.YtbabmdiklefgcaaGreatDoor
