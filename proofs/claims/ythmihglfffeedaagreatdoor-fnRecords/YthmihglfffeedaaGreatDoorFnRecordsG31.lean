/-
  Contracts of the program's NameText. Contracts of the laws' names: a name is read, and written. Contracts of the specification's l2text. Contract of the specification's NameText. Contract of the laws' sameName. Plain facts: how long digits are; hex digits; which texts are bytes. No program is named here. A record's text in plain words. No program is named here. Contracts of the program's upTo.
-/
import Derived.Test.YthmihglfffeedaaGreatDoorFnRecordsG29
import Derived.Test.YthmihglfffeedaaGreatDoorFnRecordsG20
import Derived.Test.YthmihglfffeedaaGreatDoorFnRecordsG25
import Derived.Test.YthmihglfffeedaaGreatDoorFnRecordsG30
import Derived.Lib.SlBytesConst
import Derived.Test.YthmihglfffeedaaGreatDoorFnRecordsG00
import Derived.Test.YthmihglfffeedaaGreatDoorFnRecordsG02
import Derived.Test.YthmihglfffeedaaGreatDoorFnRecordsG06
import Derived.Test.YthmihglfffeedaaGreatDoorFnRecordsG03
import Derived.Deep.RegionHeld3
import Derived.Test.YthmihglfffeedaaGreatDoorFnRecordsG05
import Derived.Test.YthmihglfffeedaaGreatDoorFnRecordsG08
import Derived.Test.YthmihglfffeedaaGreatDoorFnRecordsG16
namespace Go.Proofs.YthmihglfffeedaaGreatDoor
open Go.RowKit
set_option linter.unusedVariables false

set_option maxHeartbeats 1000000 in
set_option maxRecDepth 100000 in
theorem implNameText_has {v : Value} {n : List (List Int)} {w : World} (h : HasL w v n) :
  Calls Tryz.prog 31 #[.agg #[v]] w fun e w' => ∃ v', e = .returned v' ∧ Own w.heap.size 5 w' v' (nameText n) ∧ Below w.heap.size w w' := by
 obtain ⟨a, cap, rfl, hl, hm⟩ := h.form
 unfold maxLen at hm
 have b0 := UI (w := w) (.cells #[.slice a n.length cap] 25)
 have k0 := heap_alloc_new w (.cells #[.slice a n.length cap] 25)
 have h0 := UC (h.below b0)
 clear h
 cases hok : nameOk n with
 | false =>
  rw [nameText_no hok]
  have HOK := UC hok
  clear hok
  go_enter Tryz.func31, Tryz.ntmps31
  go_wp2_with fail
  generalize w.alloc (.cells #[.slice a n.length cap] 25) = W0 at *
  refine (VP (UB h0)).mono ?_
  rw [UB HOK]
  rintro e w1 ⟨rfl, b1⟩
  have k1 := UE b1 k0
  have c1 := US k1
  have h1 := UC ((UB h0).below b1)
  have bb1 := UG b0 b1
  have z1 := VC k1
  clear b0 k0 h0 b1
  go_wp2_with fail
  go_ret
  exact ⟨_, rfl, World.ownsRow_nil _ _ _ _, bb1⟩
 | true =>
  have HOK := UC hok
  by_cases hn0 : n.length = 0
  ·rw [nameText_root hok hn0]
   clear hok
   obtain rfl : n = [] := List.eq_nil_of_length_eq_zero hn0
   simp only [List.length_nil] at *
   clear hn0
   go_enter Tryz.func31, Tryz.ntmps31
   go_wp2_with fail
   generalize w.alloc (.cells #[.slice a 0 cap] 25) = W0 at *
   refine (VP (UB h0)).mono ?_
   rw [UB HOK]
   rintro e w1 ⟨rfl, b1⟩
   have k1 := UE b1 k0
   have c1 := US k1
   have h1 := UC ((UB h0).below b1)
   have bb1 := UG b0 b1
   have z1 := VC k1
   clear b0 k0 h0 b1
   go_wp2
   go_ret
   exact ⟨_, rfl, own_lit w1 w.heap.size 5 [46] (by omega) (by simp [maxLen]), bb1.alloc bb1.size _⟩
  ·have hdl := dots_length n hok
   have h6 := (nameOk_parts hok).1
   have HDS := UC (dots_succ n)
   have HD0 := UC (dots_zero n)
   have HLEN := UC (show ∀ k, k < n.length → (n.getD k []).length ≤ 15 from fun k hk => (labelOk_length ((nameOk_parts hok).2 k hk)).2)
   rw [nameText_some hok hn0]
   clear hok
   have hn1 : ((n.length : Int) == 0) = false := by rw [beq_eq_false_iff_ne]; omega
   have HDL := UC hdl
   clear hdl
   generalize dots n = D at *
   go_enter Tryz.func31, Tryz.ntmps31
   go_wp2_with fail
   generalize w.alloc (.cells #[.slice a n.length cap] 25) = W0 at *
   refine (VP (UB h0)).mono ?_
   rw [UB HOK]
   rintro e w1 ⟨rfl, b1⟩
   have k1 := UE b1 k0
   have c1 := US k1
   have h1 := UC ((UB h0).below b1)
   have bb1 := UG b0 b1
   have z1 := VC k1
   clear b0 k0 h0 b1
   generalize hn : n.length = m at *
   have HN := UC hn
   clear hn
   have K1 := UC k1
   clear k1
   go_wp2
   go_loopw [3, 17] (fun o i wr => ∃ k : Nat, k ≤ m ∧ i = .int .i64 k ∧ Own w1.heap.size 5 wr o (D k) ∧ Below w1.heap.size w1 wr) (fun _ i _ => m - (intOf i).toNat)
   case atStart => exact ⟨0, Nat.zero_le _, rfl, by rw [UB HD0]; exact World.ownsRow_nil _ _ _ _, Below.refl _ _⟩
   case round =>
    obtain ⟨k, hk, rfl, ho, hb⟩ := hrel
    by_cases hlt : k < m
    ·obtain ⟨b, off, u, rfl, hbl, hc, hu⟩ := ((UB h1).below hb).here (k := k) (by rw [UB HN]; exact hlt)
     have hds := UC (UB HDS k hlt)
     have hlk := UB HLEN k hlt
     have hdk := UB HDL k
     generalize n.getD k [] = lab at *
     have HU := UC hu
     obtain ⟨ua, uc, rfl, _⟩ := hu.form
     clear hu
     have zb := hb.size
     go_wp2_with (at_builtin; refine append_bytes rfl _ _ 22 5 rfl Tryz.underlying22 VJ w1.heap.size _ (.slice ua lab.length uc) (D k) lab rfl rfl ho (UB HU).reads (by omega) zb ?_)
     intro v2 w2 o2 g2
     have z2 := g2.size
     have hb2 : Below w1.heap.size w1 w2 := hb.grown g2 zb (fun q hq => (ho.lt q hq).1)
     clear g2 ho hb
     go_wp2_with (at_builtin; refine append_bytes rfl _ _ 22 5 rfl Tryz.underlying22 VJ w1.heap.size v2 _ (D k ++ lab) [46] rfl rfl (o2.alloc _) (own_lit w2 0 5 [46] (Nat.zero_le _) (by simp [maxLen])).reads (by simp; omega) (by simp; omega) ?_)
     intro v3 w3 o3 g3
     have hb3 : Below w1.heap.size w1 w3 := (hb2.alloc hb2.size _).grown g3 (by simp; omega) (fun q hq => (o2.lt q hq).1)
     clear g3 o2 hb2
     go_wp2_with fail
     exact ⟨⟨k + 1, by omega, by go_num, by rw [UB hds, List.append_assoc]; exact o3, hb3⟩, by simp [intOf]; omega⟩
    ·obtain rfl : k = m := by omega
     go_wp2_with fail
     go_ret
     exact ⟨_, rfl, by rw [UB HN]; exact ho.mono (Nat.le_of_lt z1), UG bb1 hb⟩
theorem nameRead_ab : nameRead [65, 46, 98] = ([[97], [98]], true) := by decide +kernel
theorem nameText_ab : nameText [[97], [98]] = [97, 46, 98, 46] := by decide +kernel
theorem bytes8_of {l : List Int} (h : ∀ x ∈ l, 0 ≤ x ∧ x ≤ 255) : Bytes8 l := fun k => by
 rw [List.getD_eq_getElem?_getD]
 cases hk : l[k]? with
 | none => simp
 | some y => exact h y (List.mem_of_getElem? hk)

set_option maxHeartbeats 1000000 in
set_option maxRecDepth 100000 in
theorem names_any (w : World) : Calls Tryz.prog 17 #[] w fun e w' => e = .returned (.bool true) ∧ Below w.heap.size w w' := by
 have hcid := fun (w : World) (C : Array Value) (n c : Nat) => Lib.run_convert_bytes_const (P := Tryz.prog) w 22 5 C n c Tryz.underlying22 Tryz.underlying5
 have b0 := UI (w := w) (.cells #[.int .u8 65, .int .u8 46, .int .u8 98] 5 (3, 4))
 have HR := implNameRead_has (l := [65, 46, 98]) (has_const w 5 [65, 46, 98] (3, 4) (by simp [maxLen])) (by simp) (bytes8_of (by simp))
 rw [nameRead_ab] at HR
 have HR := UC HR
 have HT := UC (fun (w : World) (v : Value) (h : HasL w v [[97], [98]]) => implNameText_has h)
 have HTB := UC nameText_ab
 go_enter Tryz.func17, Tryz.ntmps17
 go_wp2_with fail
 refine (UB HR).mono ?_
 rintro e w1 ⟨v1, rfl, o1, b1⟩
 obtain ⟨oa, oc, rfl, _⟩ := o1.hasL.form
 have bm := UI (w := w1) (.cells #[.slice oa 2 oc] 25)
 have K2 := UC (heap_alloc_new w1 (.cells #[.slice oa 2 oc] 25))
 have O2 := UC (o1.below bm).hasL
 have bb2 := UG (UG b0 b1) bm
 clear o1 b1 bm b0 HR
 have c2 := US (UB K2)
 go_wp2_with fail
 generalize w1.alloc (.cells #[.slice oa 2 oc] 25) = w2 at *
 refine (UB HT _ _ (UB O2)).mono ?_
 rw [UB HTB]
 rintro e w3 ⟨v3, rfl, o3, b3⟩
 have bb3 := UG bb2 b3
 clear c2 K2 O2 bb2 b3
 have b4 := UI (w := w3) (.cells #[.int .u8 97, .int .u8 46, .int .u8 98, .int .u8 46] 5 (4, 5))
 have HS := same_has (o3.alloc (.cells #[.int .u8 97, .int .u8 46, .int .u8 98, .int .u8 46] 5 (4, 5))).has (has_const w3 5 [97, 46, 98, 46] (4, 5) (by simp [maxLen])) (by simp) (by simp)
 rw [decide_eq_true rfl] at HS
 have HS := UC HS
 obtain ⟨va, vc, rfl, _⟩ := o3.lies
 clear o3
 go_wp2_with fail
 refine (UB HS).mono ?_
 rintro e w4 ⟨rfl, rfl⟩
 go_wp2_with fail
 go_ret
 exact ⟨rfl, UG bb3 b4⟩
set_option maxHeartbeats 1000000
set_option maxRecDepth 100000

theorem l2text_root {a : Option Addr} {cap : Nat} {w : World} :
  Calls Tryz.prog 60 #[.agg #[.slice a 0 cap]] w fun e w' => ∃ v', e = .returned v' ∧ Has w' v' [46] ∧ Below w.heap.size w w' := by
 have hcid := fun (w : World) (C : Array Value) (n c : Nat) => Lib.run_convert_bytes_const (P := Tryz.prog) w 22 5 C n c Tryz.underlying22 Tryz.underlying5
 have b0 := UI (w := w) (.cells #[.slice a 0 cap] 25)
 have hz : (w.alloc (.cells #[.slice a 0 cap] 25)).heap.size = w.heap.size + 1 := by show (w.heap.push _).size = _; simp
 have hcid2 := fun (C : Array Value) (n c : Nat) => hcid (w.alloc (.cells #[.slice a 0 cap] 25)) C n c
 have hh := has_const (w.alloc (.cells #[.slice a 0 cap] 25)) 5 [46] (1, 2) (by simp [maxLen])
 rw [hz] at hcid2 hh
 have HH := UC hh
 clear hcid hz hh
 go_enter Tryz.func60, Tryz.ntmps60
 go_wp2
 go_ret
 exact ⟨_, rfl, UB HH, b0.alloc b0.size _⟩

theorem l2text_some {a : Option Addr} {cap : Nat} {n : List (List Int)} {w : World} (h : HasL w (.slice a n.length cap) n) (hok : nameOk n = true) (hn0 : n.length ≠ 0) :
  Calls Tryz.prog 60 #[.agg #[.slice a n.length cap]] w fun e w' => ∃ v', e = .returned v' ∧ Own w.heap.size 5 w' v' (dots n n.length) ∧ Below w.heap.size w w' := by
 obtain ⟨a', cap', he, hl, hm⟩ := h.form
 simp only [Value.slice.injEq] at he
 obtain ⟨rfl, _, rfl⟩ := he
 unfold maxLen at hm
 have hdl := dots_length n hok
 have h6 := (nameOk_parts hok).1
 have HDS := UC (dots_succ n)
 have HD0 := UC (dots_zero n)
 have HLEN := UC (show ∀ k, k < n.length → (n.getD k []).length ≤ 15 from fun k hk => (labelOk_length ((nameOk_parts hok).2 k hk)).2)
 clear hok
 have hn1 : ((n.length : Int) == 0) = false := by rw [beq_eq_false_iff_ne]; omega
 have HDL := UC hdl
 clear hdl
 generalize dots n = D at *
 have b0 := UI (w := w) (.cells #[.slice a n.length cap] 25)
 have k0 := heap_alloc_new w (.cells #[.slice a n.length cap] 25)
 have h0 := UC (h.below b0)
 have H := UC h
 clear h
 have z0 := VC k0
 generalize hn : n.length = m at *
 have HN := UC hn
 clear hn
 go_enter Tryz.func60, Tryz.ntmps60
 go_wp2
 generalize w.alloc (.cells #[.slice a m cap] 25) = w1 at *
 go_loopw [3, 4] (fun o i wr => ∃ k : Nat, k ≤ m ∧ i = .int .i64 k ∧ Own w1.heap.size 5 wr o (D k) ∧ Below w1.heap.size w1 wr) (fun _ i _ => m - (intOf i).toNat)
 case atStart => exact ⟨0, Nat.zero_le _, rfl, by rw [UB HD0]; exact World.ownsRow_nil _ _ _ _, Below.refl _ _⟩
 case round =>
  obtain ⟨k, hk, rfl, ho, hb⟩ := hrel
  have c1 := US (UE hb k0)
  by_cases hlt : k < m
  ·obtain ⟨b, off, u, rfl, hbl, hc, hu⟩ := ((UB h0).below hb).here (k := k) (by rw [UB HN]; exact hlt)
   have hds := UC (UB HDS k hlt)
   have hlk := UB HLEN k hlt
   have hdk := UB HDL k
   generalize n.getD k [] = lab at *
   have HU := UC hu
   obtain ⟨ua, uc, rfl, _⟩ := hu.form
   clear hu
   have zb := hb.size
   go_wp2_with (at_builtin; refine append_bytes rfl _ _ 22 5 rfl Tryz.underlying22 VJ w1.heap.size _ (.slice ua lab.length uc) (D k) lab rfl rfl ho (UB HU).reads (by omega) zb ?_)
   intro v2 w2 o2 g2
   have z2 := g2.size
   have hb2 : Below w1.heap.size w1 w2 := hb.grown g2 zb (fun q hq => (ho.lt q hq).1)
   clear g2 ho hb c1
   go_wp2_with (at_builtin; refine append_bytes rfl _ _ 22 5 rfl Tryz.underlying22 VJ w1.heap.size v2 _ (D k ++ lab) [46] rfl rfl (o2.alloc _) (own_lit w2 0 5 [46] (Nat.zero_le _) (by simp [maxLen])).reads (by simp; omega) (by simp; omega) ?_)
   intro v3 w3 o3 g3
   have hb3 : Below w1.heap.size w1 w3 := (hb2.alloc hb2.size _).grown g3 (by simp; omega) (fun q hq => (o2.lt q hq).1)
   clear g3 o2 hb2
   go_wp2_with fail
   exact ⟨⟨k + 1, by omega, by go_num, by rw [UB hds, List.append_assoc]; exact o3, hb3⟩, by simp [intOf]; omega⟩
  ·obtain rfl : k = m := by omega
   go_wp2_with fail
   go_ret
   exact ⟨_, rfl, ho.mono (Nat.le_of_lt z0), UG b0 hb⟩
set_option maxHeartbeats 1000000 in
set_option maxRecDepth 100000 in
theorem specNameText_has {v : Value} {n : List (List Int)} {w : World} (h : HasL w v n) :
  Calls Tryz.prog 37 #[.agg #[v]] w fun e w' => ∃ v', e = .returned v' ∧ Has w' v' (nameText n) ∧ Below w.heap.size w w' := by
 obtain ⟨a, cap, rfl, hl, hm⟩ := h.form
 have b0 := UI (w := w) (.cells #[.slice a n.length cap] 25)
 have k0 := heap_alloc_new w (.cells #[.slice a n.length cap] 25)
 have h0 := UC (h.below b0)
 clear h hm hl
 have HNO := UC (nameText_no (n := n))
 have HRO := UC (nameText_root (n := n))
 have HSO := UC (nameText_some (n := n))
 generalize hT : nameText n = T at *
 clear hT
 have hcall : ∀ w1, HasL w1 (.slice a n.length cap) n → nameOk n = true → Calls Tryz.prog 60 #[.agg #[.slice a n.length cap]] w1 fun e w' => ∃ v', e = .returned v' ∧ Has w' v' T ∧ Below w1.heap.size w1 w' := by
  intro w1 h1 hok
  by_cases hn0 : n.length = 0
  ·rw [UB HRO hok hn0, hn0]
   exact l2text_root
  ·rw [UB HSO hok hn0]
   exact (l2text_some h1 hok hn0).mono fun e w' ⟨v', he, ho, hb⟩ => ⟨v', he, ho.has, hb⟩
 have HC := UC hcall
 clear hcall
 cases hok : nameOk n with
 | false =>
  have hTn := UB HNO hok
  subst hTn
  have HOK := UC hok
  clear hok
  go_enter Tryz.func37, Tryz.ntmps37
  go_wp2_with fail
  generalize w.alloc (.cells #[.slice a n.length cap] 25) = W0 at *
  refine (VO (UB h0)).mono ?_
  rw [UB HOK]
  rintro e w1 ⟨rfl, b1⟩
  have bb1 := UG b0 b1
  go_wp2_with fail
  go_ret
  exact ⟨_, rfl, .inl ⟨rfl, rfl⟩, bb1⟩
 | true =>
  have HOK := UC hok
  clear hok
  go_enter Tryz.func37, Tryz.ntmps37
  go_wp2_with fail
  generalize w.alloc (.cells #[.slice a n.length cap] 25) = W0 at *
  refine (VO (UB h0)).mono ?_
  rw [UB HOK]
  rintro e w1 ⟨rfl, b1⟩
  have bb1 := UG b0 b1
  have c1 := US (UE b1 k0)
  have h1 := UC ((UB h0).below b1)
  go_wp2_with fail
  refine (UB HC w1 (UB h1) (UB HOK)).mono ?_
  rintro e w2 ⟨v2, rfl, o2, b2⟩
  go_wp2_with fail
  go_ret
  exact ⟨_, rfl, o2, UG bb1 b2⟩
set_option maxHeartbeats 1000000 in
set_option maxRecDepth 100000 in
theorem sameName_has {v v' : Value} {n n' : List (List Int)} {w : World} (h : HasL w v n) (h' : HasL w v' n') :
  Calls Tryz.prog 13 #[.agg #[v], .agg #[v']] w fun e w' => e = .returned (.bool (decide (nameText n = nameText n'))) ∧ Below w.heap.size w w' := by
 obtain ⟨a, cap, rfl, _⟩ := h.form
 obtain ⟨a', cap', rfl, _⟩ := h'.form
 have b0 := below2 w (.cells #[.slice a n.length cap] 25) (.cells #[.slice a' n'.length cap'] 25)
 obtain ⟨hsz, k0, x0⟩ := box2 w (.cells #[.slice a n.length cap] 25) #[.slice a' n'.length cap'] 25
 have H0 := UC (h.below b0)
 have H0' := UC (h'.below b0)
 have K0 := UC k0
 have X0 := UC x0
 have hB := nameText_bytes n
 have hB' := nameText_bytes n'
 have SP := fun (w : World) (x : Value) (h : HasL w x n) => specNameText_has h
 have SP' := fun (w : World) (x : Value) (h : HasL w x n') => specNameText_has h
 have HBB := UC hB
 have HBB' := UC hB'
 replace SP := UC SP
 replace SP' := UC SP'
 clear h h' k0 x0 hB hB'
 generalize nameText n = T at *
 generalize nameText n' = T' at *
 go_enter Tryz.func13, Tryz.ntmps13
 go_wp2_with fail
 generalize (w.alloc (.cells #[.slice a n.length cap] 25)).alloc (.cells #[.slice a' n'.length cap'] 25) = W at *
 have bd := UX (w := W)
 have K1 := UC (UE bd (UB K0))
 have X1 := UC (UE bd (UB X0))
 have H1 := UC ((UB H0).below bd)
 have H1' := UC ((UB H0').below bd)
 have bb := UG b0 bd
 have c1 := US (UB K1)
 have c1' := US (UB X1)
 clear bd b0 K0 X0 H0 H0' hsz
 go_region_held3 (fun w' => w'.cell? ⟨w.heap.size, 0, none⟩ = some (.slice a n.length cap) ∧ w'.cell? ⟨w.heap.size + 1, 0, none⟩ = some (.slice a' n'.length cap'))
  (first | exact ⟨US (UB K1), US (UB X1)⟩ | exact ⟨US (UE q3 (UB K1)), US (UE q3 (UB X1))⟩ | exact ⟨US (UE b2 (UB K1)), US (UE b2 (UB X1))⟩)
  (first
  | (go_at_call 14; refine (same_has (u2.below b3) u3 (UB HBB) (UB HBB')).mono ?_; rintro e w4 ⟨rfl, rfl⟩)
  | (go_at_call 37; refine (UB SP _ _ (UB H1)).mono ?_; rintro e w2 ⟨t2, rfl, u2, b2⟩; obtain ⟨ta2, tc2, rfl, _⟩ := u2.form)
  | (go_at_call 37; refine (UB SP' _ _ ((UB H1').below b2)).mono ?_; rintro e w3 ⟨t3, rfl, u3, b3⟩; obtain ⟨ta3, tc3, rfl, _⟩ := u3.form; have q3 := UG b2 b3))
 go_wp2_with fail
 go_ret
 exact ⟨rfl, UG bb q3⟩
theorem digs_len (k : Nat) : ∀ x : Int, 0 ≤ x → x < 10 ^ (k + 1) → 1 ≤ (digs x).length ∧ (digs x).length ≤ k + 1 := by
 induction k with
 | zero =>
  intro x h0 h1
  rw [digs_lt x h0 (by omega)]
  simp
 | succ k ih =>
  intro x h0 h1
  by_cases h : x < 10
  ·rw [digs_lt x h0 h]; simp
  ·have e : (10 : Int) ^ (k + 1 + 1) = 10 ^ (k + 1) * 10 := Int.pow_succ _ _
   rw [e] at h1
   generalize (10 : Int) ^ (k + 1) = p at *
   have := ih (x / 10) (by omega) (by omega)
   rw [digs_ge x (by omega)]
   simp only [List.length_append, List.length_cons, List.length_nil]
   omega
theorem digs_ten {x : Int} (h0 : 0 ≤ x) (h1 : x ≤ 4294967295) : 1 ≤ (digs x).length ∧ (digs x).length ≤ 10 := digs_len 9 x h0 (by omega)
theorem digs_byt (x : Int) : Byt (digs x) := by
 intro c hc
 obtain ⟨b, _, rfl⟩ := List.mem_map.1 hc
 have := b.toNat_lt
 omega
theorem byt_one {c : Int} (h : 0 ≤ c ∧ c ≤ 255) : Byt [c] := fun x hx => by
 obtain rfl := List.mem_singleton.1 hx
 exact h
theorem byt_nil : Byt [] := fun x hx => by cases hx
theorem byt_at {l : List Int} (h : ∀ j, j < l.length → 0 ≤ l.getD j 0 ∧ l.getD j 0 ≤ 255) : Byt l := fun c hc => by
 obtain ⟨i, hi, rfl⟩ := List.getElem_of_mem hc
 have := h i hi
 rw [List.getD_eq_getElem?_getD, List.getElem?_eq_getElem hi] at this
 exact this
theorem Byt.at_ {l : List Int} (h : Byt l) {j : Nat} (hj : j < l.length) : 0 ≤ l.getD j 0 ∧ l.getD j 0 ≤ 255 := by
 rw [List.getD_eq_getElem?_getD, List.getElem?_eq_getElem hj]
 exact h _ (List.getElem_mem hj)
theorem label_byt {l : List Int} (h : labelOk l = true) : Byt l := byt_at fun j hj => by
 have h1 := (of_decide_eq_true h).2.2 j hj
 have := of_decide_eq_true h1
 omega
theorem dots_byt {n : List (List Int)} (h : nameOk n = true) (k : Nat) : Byt (dots n k) := by
 induction k with
 | zero => rw [dots_zero]; exact byt_nil
 | succ k ih =>
  by_cases hk : k < n.length
  ·rw [dots_succ n k hk]
   exact (ih.app (label_byt ((nameOk_parts h).2 k hk))).app (byt_one (by omega))
  ·have e : dots n (k + 1) = dots n k := by unfold dots; rw [List.take_of_length_le (by omega), List.take_of_length_le (by omega)]
   rw [e]; exact ih
theorem nameText_byt (n : List (List Int)) : Byt (nameText n) := by
 unfold nameText
 split
 ·rename_i h
  split
  ·exact byt_one (by omega)
  ·exact dots_byt h _
 ·exact byt_nil
theorem idot_byt (n : Int) (j : Nat) : Byt (idot n j) := by
 induction j with
 | zero => exact byt_nil
 | succ j ih =>
  refine (ih.app ?_).app (digs_byt _)
  split
  ·exact byt_one (by omega)
  ·exact byt_nil
theorem dotted_byt (n : Int) : Byt (dotted n) := by
 unfold dotted
 split
 ·exact idot_byt n 4
 ·exact byt_nil

def hexD (d : Int) : Int := if d < 10 then 48 + d else 87 + d
theorem hexD_byte {d : Int} (h0 : 0 ≤ d) (h1 : d ≤ 15) : 0 ≤ hexD d ∧ hexD d ≤ 255 := by unfold hexD; split <;> omega
def hexs (l : List Int) (k : Nat) : List Int := ((l.take k).map (fun c => [hexD (c / 16), hexD (c % 16)])).flatten
theorem hexs_zero (l : List Int) : hexs l 0 = [] := by simp [hexs]
theorem hexs_succ (l : List Int) (k : Nat) (h : k < l.length) : hexs l (k + 1) = hexs l k ++ [hexD (l.getD k 0 / 16), hexD (l.getD k 0 % 16)] := by
 unfold hexs
 rw [List.take_succ_eq_append_getElem h, List.map_append, List.flatten_append, show l.getD k 0 = l[k] by simp [h]]
 rfl
theorem hexs_late (l : List Int) (k : Nat) (h : l.length ≤ k) : hexs l (k + 1) = hexs l k := by unfold hexs; rw [List.take_of_length_le (by omega), List.take_of_length_le (by omega)]
theorem hexs_length (l : List Int) (k : Nat) : (hexs l k).length ≤ 2 * k := by
 induction k with
 | zero => simp [hexs]
 | succ k ih =>
  by_cases h : k < l.length
  ·rw [hexs_succ l k h]
   simp only [List.length_append, List.length_cons, List.length_nil]
   omega
  ·rw [hexs_late l k (by omega)]; omega
theorem hexs_byt {l : List Int} (h : Byt l) (k : Nat) : Byt (hexs l k) := by
 induction k with
 | zero => rw [hexs_zero]; exact byt_nil
 | succ k ih =>
  by_cases hk : k < l.length
  ·rw [hexs_succ l k hk]
   have := h.at_ hk
   exact ih.app ((byt_one (hexD_byte (by omega) (by omega))).app (byt_one (hexD_byte (by omega) (by omega))))
  ·rw [hexs_late l k (by omega)]; exact ih

def typeT (t : Int) : List Int := if t = 1 then [65] else if t = 2 then [78, 83] else if t = 5 then [67, 78, 65, 77, 69] else if t = 6 then [83, 79, 65] else if t = 12 then [80, 84, 82] else if t = 16 then [84, 88, 84] else [68, 72, 67, 73, 68]
theorem typeT_length (t : Int) : 1 ≤ (typeT t).length ∧ (typeT t).length ≤ 5 := by
 unfold typeT
 repeat' split
 all_goals simp
theorem typeT_byt (t : Int) : Byt (typeT t) := by
 unfold typeT
 repeat' split
 all_goals
  intro c hc
  simp only [List.mem_cons, List.not_mem_nil, or_false] at hc
  omega
def dataT (r : Rec) : List Int :=
 if r.type = 1 then dotted r.addr
 else if r.type = 2 ∨ r.type = 5 ∨ r.type = 12 then nameText r.to
 else if r.type = 6 then nameText r.to ++ [32] ++ digs (r.nums.getD 0 0) ++ [32] ++ digs (r.nums.getD 1 0)
 else hexs r.text r.text.length
theorem dataT_A {r : Rec} (h : r.type = 1) : dataT r = dotted r.addr := if_pos h
theorem dataT_N {r : Rec} (h : r.type = 2 ∨ r.type = 5 ∨ r.type = 12) : dataT r = nameText r.to := by
 unfold dataT
 rw [if_neg (by omega), if_pos h]
theorem dataT_S {r : Rec} {x y : Int} (h : r.type = 6) (hn : r.nums = [x, y]) : dataT r = nameText r.to ++ [32] ++ digs x ++ [32] ++ digs y := by
 unfold dataT
 rw [if_neg (by omega), if_neg (by omega), if_pos h, hn]
 rfl
theorem dataT_X {r : Rec} (h : r.type = 16 ∨ r.type = 49) : dataT r = hexs r.text r.text.length := by
 unfold dataT
 rw [if_neg (by omega), if_neg (by omega), if_neg (by omega)]
theorem dataT_byt {r : Rec} (h : Byt r.text) : Byt (dataT r) := by
 unfold dataT
 split
 ·exact dotted_byt _
 split
 ·exact nameText_byt _
 split
 ·exact ((((nameText_byt _).app (byt_one (by omega))).app (digs_byt _)).app (byt_one (by omega))).app (digs_byt _)
 ·exact hexs_byt h _
theorem dataT_length {r : Rec} (h : rrOk r = true) : (dataT r).length ≤ 120 := by
 obtain ⟨_, ht, _, _, hd⟩ := rrOk_parts h
 rcases data_kinds ht hd with ⟨e, _, _, _⟩ | ⟨e, hn, _⟩ | ⟨e, hn, x, y, hxy, hx0, hx1, hy0, hy1, _⟩ | ⟨e, hx, _⟩
 ·rw [dataT_A e]; have := dotted_length r.addr; omega
 ·rw [dataT_N e]; have := nameText_length r.to; omega
 ·rw [dataT_S e hxy]
  have := nameText_length r.to
  have := digs_ten hx0 hx1
  have := digs_ten hy0 (by omega)
  simp only [List.length_append, List.length_cons, List.length_nil]
  omega
 ·rw [dataT_X e]; have := hexs_length r.text r.text.length; omega
def rrText (r : Rec) : List Int := if rrOk r = true then nameText r.name ++ [32] ++ digs r.ttl ++ [32] ++ typeT r.type ++ [32] ++ dataT r else []
theorem rrText_no {r : Rec} (h : rrOk r = false) : rrText r = [] := by simp [rrText, h]
theorem rrText_yes {r : Rec} (h : rrOk r = true) : rrText r = nameText r.name ++ [32] ++ digs r.ttl ++ [32] ++ typeT r.type ++ [32] ++ dataT r := by simp [rrText, h]
theorem rrText_some {r : Rec} (h : rrOk r = true) : 0 < (rrText r).length := by
 rw [rrText_yes h]
 simp only [List.length_append, List.length_cons, List.length_nil]
 omega
set_option maxHeartbeats 400000
set_option maxRecDepth 100000

theorem upTo_yes {n m : Int} (w : World) (h0 : 0 ≤ n) (h1 : n ≤ m) : Calls Tryz.prog 26 #[.int .i64 n, .int .i64 m] w fun e w' => e = .returned (.bool true) ∧ w = w' := by
 go_enter Tryz.func26, Tryz.ntmps26
 go_wp2
 go_ret
 exact ⟨rfl, rfl⟩

theorem upTo_no {n m : Int} (w : World) (h : n < 0 ∨ m < n) : Calls Tryz.prog 26 #[.int .i64 n, .int .i64 m] w fun e w' => e = .returned (.bool false) ∧ w = w' := by
 by_cases h0 : n < 0
 ·go_enter Tryz.func26, Tryz.ntmps26
  go_wp2
  go_ret
  exact ⟨rfl, rfl⟩
 ·have h1 : m < n := by omega
  have h2 : decide (n ≤ m) = false := decide_eq_false (by omega)
  go_enter Tryz.func26, Tryz.ntmps26
  go_wp2
  go_ret
  exact ⟨rfl, rfl⟩
theorem upTo_any (n m : Int) (w : World) : Calls Tryz.prog 26 #[.int .i64 n, .int .i64 m] w fun e w' => e = .returned (.bool (decide (0 ≤ n ∧ n ≤ m))) ∧ w = w' := by
 by_cases h : 0 ≤ n ∧ n ≤ m
 ·rw [decide_eq_true h]; exact upTo_yes w h.1 h.2
 ·rw [decide_eq_false h]; exact upTo_no w (by omega)
end Go.Proofs.YthmihglfffeedaaGreatDoor
