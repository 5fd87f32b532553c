/-
  Contracts of the program's Dotted; strconv.AppendInt by the library's contract. Contracts of the program's labelSign and LabelOk. Contracts of the program's NameOk. Contracts of the program's NameText.
-/
import Derived.Test.YthmihglfffeedaaDoorRrTextG07
import Derived.Test.YthmihglfffeedaaDoorRrTextG06
import Derived.Test.YthmihglfffeedaaDoorRrTextG08
import Derived.Test.YthmihglfffeedaaDoorRrTextG03
import Derived.Test.YthmihglfffeedaaDoorRrTextG01
namespace Go.Proofs.YthmihglfffeedaaDoor
open Go.RowKit
set_option linter.unusedVariables false
set_option maxHeartbeats 1000000
set_option maxRecDepth 100000

def Pow10 (w : World) : Prop := Lib.TabIs Tryd.prog w "internal/strconv.uint64pow10" .u64 Lib.pow10Tab

theorem Pow10.below {w w' : World} (h : Pow10 w) (hb : Below w.heap.size w w') : Pow10 w' := Lib.tabBelow_of_tabIs h w' hb

theorem appendInt_own {B : Nat} {v : Value} {l : List Int} (x : Int) {w : World} (h : Own B 5 w v l) (hl : l.length ≤ 1048576) (h0 : 0 ≤ x) (h1 : x ≤ 255) (hB : B ≤ w.heap.size) (ht : Lib.TabBelow Tryd.prog B w "internal/strconv.uint64pow10" .u64 Lib.pow10Tab) :
  Calls Tryd.prog 22 #[v, .int .i64 x, .int .i64 10] w fun e w' => ∃ v', e = .returned v' ∧ Own B 5 w' v' (l ++ digs x) ∧ Below B w w' := by
 refine (Tryd.strconv_AppendInt_10 B l.length x (by omega) (by omega) v (l.map (Value.int .u8)) w h hB (by omega) ht).mono ?_
 rintro e w' ⟨v', rfl, o, b, _⟩
 refine ⟨v', rfl, ?_, b⟩
 rw [cells_digs x h0, itoa_digs x h0] at o
 unfold Own
 rw [List.length_append, List.map_append]
 exact o

theorem implDotted_no (n : Int) (w : World) (hn : n < 0 ∨ 4294967295 < n) :
  Calls Tryd.prog 87 #[.int .i64 n] w fun e w' => e = .returned (.slice none 0 0) ∧ w = w' := by
 go_enter Tryd.func87, Tryd.ntmps87
 go_wp2_with fail
 refine (upTo_no _ hn).mono ?_
 rintro e w0 ⟨rfl, rfl⟩
 go_wp2
 go_ret
 exact ⟨rfl, rfl⟩

theorem own_dot (w : World) (B : Nat) (e : TypeId) (x : Int) (hB : B ≤ w.heap.size) : Own B e (w.alloc (.cells #[.int .u8 x] e)) (.slice (some ⟨w.heap.size, 0, none⟩) 1 1) [x] := own_lit w B e [x] hB (by simp [maxLen])

theorem implDotted_yes (n : Int) (w : World) (h0 : 0 ≤ n) (h1 : n ≤ 4294967295) (ht : Pow10 w) :
  Calls Tryd.prog 87 #[.int .i64 n] w fun e w' => ∃ v, e = .returned v ∧ Own w.heap.size 5 w' v (idot n 4) ∧ Below w.heap.size w w' := by
 have HT := UC ht
 clear ht
 go_enter Tryd.func87, Tryd.ntmps87
 go_wp2_with fail
 refine (upTo_yes _ h0 h1).mono ?_
 rintro e w0 ⟨rfl, rfl⟩
 go_wp2_with fail
 refine (implPut32_yes (B := 0) (v := .slice none 0 0) (l := []) n (World.ownsRow_nil _ _ _ _) (by simp) h0 h1).mono ?_
 rintro e w1 ⟨v1, rfl, o1, b1⟩
 rw [List.nil_append] at o1
 have ht1 := UC (Lib.tabBelow_of_tabIs ((UB HT).below b1))
 rcases o1.form with ⟨_, he⟩ | ⟨g, cap, rfl, hg0, hg, hcap, _, hc, _⟩
 ·simp at he
 have hc' : ∀ j, j < 4 → w1.cell? ⟨g, j, none⟩ = some (.int .u8 (part n j)) := fun j hj => hc j (by simpa using hj)
 have HC := UC hc'
 clear hc hc'
 simp only [List.length_cons, List.length_nil, Nat.zero_add, Nat.reduceAdd] at *
 go_wp2
 go_loopw [3, 12] (fun b i wr => ∃ j : Nat, j ≤ 4 ∧ i = .int .i64 j ∧ Own w1.heap.size 5 wr b (idot n j) ∧ Below w1.heap.size w1 wr) (fun _ i _ => 4 - (intOf i).toNat)
 case atStart => exact ⟨0, by omega, rfl, World.ownsRow_nil _ _ _ _, Below.refl _ _⟩
 case round =>
  obtain ⟨j, hj, rfl, ho, hb⟩ := hrel
  have hsz := hb.size
  by_cases hlt : j < 4
  ·have hcj := (hb.cell (p := ⟨g, j, none⟩) hg).trans (UB HC j hlt)
   have hpb := part_bd n j h0 h1
   have hidl := UC (idot_length n h0 h1 j)
   have hid : idot n (j + 1) = idot n j ++ (if 0 < j then [46] else []) ++ digs (part n j) := rfl
   have HID := UC hid
   clear hid
   generalize hpe : part n j = p at *
   have HPE := UC hpe
   clear hpe
   generalize hse : idot n j = S at *
   have HSE := UC hse
   clear hse
   by_cases hj0 : 0 < j
   ·go_wp2_with (at_builtin; refine append_bytes rfl _ _ 25 5 rfl Tryd.underlying25 VJ w1.heap.size u3 _ S [46] rfl rfl (ho.alloc _) (own_dot wr 0 5 _ (Nat.zero_le _)).reads (by have := UB hidl; simp; omega) (by simp; omega) ?_)
    intro v2 w2 o2 g2
    have b2 : Below w1.heap.size w1 w2 := (hb.alloc hsz _).grown g2 (by simp; omega) (fun k hk => (ho.lt k hk).1)
    clear g2
    have z2 := b2.size
    go_wp2_with fail
    refine (appendInt_own p o2 (by have := UB hidl; simp; omega) hpb.1 hpb.2 z2 ((UB ht1).on b2)).mono ?_
    rintro e w3 ⟨v3, rfl, o3, b3⟩
    go_wp2
    refine ⟨⟨j + 1, by omega, by go_num, ?_, b2.trans b3⟩, by simp [intOf]; omega⟩
    rw [UB HID, if_pos hj0]; exact o3
   ·go_wp2_with fail
    refine (appendInt_own p ho (by have := UB hidl; omega) hpb.1 hpb.2 hsz ((UB ht1).on hb)).mono ?_
    rintro e w3 ⟨v3, rfl, o3, b3⟩
    go_wp2
    refine ⟨⟨j + 1, by omega, by go_num, ?_, hb.trans b3⟩, by simp [intOf]; omega⟩
    rw [UB HID, if_neg hj0, List.append_nil]; exact o3
  ·obtain rfl : j = 4 := by omega
   go_wp2
   go_ret
   exact ⟨_, rfl, ho.mono b1.size, UG b1 hb⟩

theorem implDotted_any (n : Int) {w : World} (ht : Pow10 w) :
  Calls Tryd.prog 87 #[.int .i64 n] w fun e w' => ∃ v, e = .returned v ∧ Own w.heap.size 5 w' v (dotted n) ∧ Below w.heap.size w w' := by
 by_cases h : 0 ≤ n ∧ n ≤ 4294967295
 ·have e : dotted n = idot n 4 := by unfold dotted; rw [if_pos h]
  rw [e]; exact implDotted_yes n w h.1 h.2 ht
 ·have e : dotted n = [] := by unfold dotted; rw [if_neg h]
  rw [e]
  exact (implDotted_no n w (by omega)).mono fun e w' ⟨he, hw⟩ => ⟨_, he, by subst hw; exact World.ownsRow_nil _ _ _ _, hw ▸ Below.refl _ _⟩
set_option maxHeartbeats 400000
set_option maxRecDepth 100000

theorem sign_cases (c : Int) : (97 ≤ c ∧ c ≤ 122) ∨ (97 ≤ c ∧ 122 < c) ∨ (c < 97 ∧ 48 ≤ c ∧ c ≤ 57) ∨ (c < 97 ∧ 48 ≤ c ∧ 57 < c ∧ c ≠ 45) ∨ (c < 97 ∧ c < 48 ∧ c = 45) ∨ (c < 97 ∧ c < 48 ∧ c ≠ 45) := by omega

theorem labelSign_any (c : Int) (w : World) :
  Calls Tryd.prog 56 #[.int .u8 c] w fun e w' => e = .returned (.bool (signOk c)) ∧ w = w' := by
 rcases sign_cases c with ⟨h1, h2⟩ | ⟨h1, h2⟩ | ⟨h1, h2, h3⟩ | ⟨h1, h2, h3, h4⟩ | ⟨h1, h2, rfl⟩ | ⟨h1, h2, h3⟩
 ·have hs : signOk c = true := decide_eq_true (by omega)
  rw [hs]
  go_enter Tryd.func56, Tryd.ntmps56
  go_wp2
  go_ret
  exact ⟨rfl, rfl⟩
 ·have hs : signOk c = false := decide_eq_false (by omega)
  rw [hs]
  have h5 : 48 ≤ c := by omega
  have h6 : ¬ c ≤ 57 := by omega
  have h7 : ¬ c ≤ 122 := by omega
  have h8 : (c == 45) = false := by simp; omega
  go_enter Tryd.func56, Tryd.ntmps56
  go_wp2
  go_ret
  exact ⟨rfl, rfl⟩
 ·have hs : signOk c = true := decide_eq_true (by omega)
  rw [hs]
  have h5 : ¬ 97 ≤ c := by omega
  go_enter Tryd.func56, Tryd.ntmps56
  go_wp2
  go_ret
  exact ⟨rfl, rfl⟩
 ·have hs : signOk c = false := decide_eq_false (by omega)
  rw [hs]
  have h5 : ¬ 97 ≤ c := by omega
  have h6 : ¬ c ≤ 57 := by omega
  have h8 : (c == 45) = false := by simp; omega
  go_enter Tryd.func56, Tryd.ntmps56
  go_wp2
  go_ret
  exact ⟨rfl, rfl⟩
 ·have hs : signOk 45 = true := rfl
  rw [hs]
  go_enter Tryd.func56, Tryd.ntmps56
  go_wp2
  go_ret
  exact ⟨rfl, rfl⟩
 ·have hs : signOk c = false := decide_eq_false (by omega)
  rw [hs]
  have h5 : ¬ 97 ≤ c := by omega
  have h6 : ¬ 48 ≤ c := by omega
  have h8 : (c == 45) = false := by simp; omega
  go_enter Tryd.func56, Tryd.ntmps56
  go_wp2
  go_ret
  exact ⟨rfl, rfl⟩

theorem implLabelOk_has {v : Value} {l : List Int} {w : World} (h : Has w v l) :
  Calls Tryd.prog 54 #[v] w fun e w' => e = .returned (.bool (labelOk l)) ∧ w = w' := by
 have hbd := h.bound
 unfold maxLen at hbd
 obtain ⟨a, cap, rfl, hL⟩ := h.form
 by_cases h0 : l.length = 0
 ·rw [labelOk_short (by omega), h0]
  go_enter Tryd.func54, Tryd.ntmps54
  go_wp2
  go_ret
  exact ⟨rfl, rfl⟩
 ·by_cases h1 : 15 < l.length
  ·rw [labelOk_short (by omega)]
   generalize hn : l.length = n at *
   have h3 : ((n : Int) == 0) = false := by simp; omega
   go_enter Tryd.func54, Tryd.ntmps54
   go_wp2
   go_ret
   exact ⟨rfl, rfl⟩
  ·have h2 : l.length ≤ 15 := by omega
   have hyes := UC (fun (hs : ∀ j, j < l.length → signOk (l.getD j 0) = true) => labelOk_yes (l := l) (by omega) h2 hs)
   have hno := UC (fun (j : Nat) (hj : j < l.length) (hs : signOk (l.getD j 0) = false) => labelOk_sign hj hs)
   generalize hok : labelOk l = ok at *
   clear hok
   generalize hn : l.length = n at *
   have HN := UC hn
   clear hn
   have h3 : ((n : Int) == 0) = false := by simp; omega
   go_enter Tryd.func54, Tryd.ntmps54
   go_wp2
   go_loop [15] (fun i => ∃ k : Nat, k ≤ n ∧ i = .int .i64 k ∧ Hid (∀ j, j < k → signOk (l.getD j 0) = true)) (fun i => n - (intOf i).toNat)
   case atStart => exact ⟨0, Nat.zero_le _, rfl, UC (fun j hj => absurd hj (Nat.not_lt_zero _))⟩
   case round =>
    obtain ⟨k, hk, rfl, hall⟩ := hrel
    by_cases hlt : k < n
    ·obtain ⟨b, off, rfl, hbl, hc⟩ := hL.here (k := k) (by rw [UB HN]; exact hlt)
     have hone := UC (fun (hs : signOk (l.getD k 0) = true) => (show ∀ j, j < k + 1 → signOk (l.getD j 0) = true from fun j hj => by
      by_cases e : j = k
      ·subst e; exact hs
      ·exact UB hall j (by omega)))
     have hnok := UC (fun (hs : signOk (l.getD k 0) = false) => UB hno k hlt hs)
     generalize hx : l.getD k 0 = x at *
     go_wp2_with fail
     refine (labelSign_any x _).mono ?_
     rintro e w1 ⟨rfl, rfl⟩
     cases hs : signOk x with
     | true =>
      go_wp2
      exact ⟨⟨k + 1, by omega, by go_num, UC (UB hone hs)⟩, by simp [intOf]; omega⟩
     | false =>
      have hq := UB hnok hs
      subst hq
      go_wp2
      go_ret
      exact ⟨rfl, rfl⟩
    ·obtain rfl : k = n := by omega
     have hq := UB hyes (UB hall)
     subst hq
     go_wp2
     go_ret
     exact ⟨rfl, rfl⟩
set_option maxHeartbeats 400000 in
set_option maxRecDepth 100000 in
theorem VP {v : Value} {n : List (List Int)} {w : World} (h : HasL w v n) :
  Calls Tryd.prog 42 #[.agg #[v]] w fun e w' => e = .returned (.bool (nameOk n)) ∧ Below w.heap.size w w' := by
 obtain ⟨a, cap, rfl, hl, hm⟩ := h.form
 unfold maxLen at hm
 by_cases h1 : 6 < n.length
 ·rw [nameOk_long h1]
  have H := UC h
  clear h
  generalize hn : n.length = m at *
  have HN := UC hn
  clear hn
  go_enter Tryd.func42, Tryd.ntmps42
  go_wp2
  go_ret
  exact ⟨rfl, UI _⟩
 ·have h2 : n.length ≤ 6 := by omega
  have hA := h.below (UI (.cells #[.slice a n.length cap] 31))
  have H := UC h
  clear h
  have hyes := UC (fun (hs : ∀ j, j < n.length → labelOk (n.getD j []) = true) => nameOk_yes (n := n) h2 hs)
  have hno := UC (fun (j : Nat) (hj : j < n.length) (hs : labelOk (n.getD j []) = false) => nameOk_label hj hs)
  generalize hok : nameOk n = ok at *
  clear hok
  generalize hn : n.length = m at *
  have HN := UC hn
  clear hn
  go_enter Tryd.func42, Tryd.ntmps42
  go_wp2
  go_loop [12] (fun i => ∃ k : Nat, k ≤ m ∧ i = .int .i64 k ∧ Hid (∀ j, j < k → labelOk (n.getD j []) = true)) (fun i => m - (intOf i).toNat)
  case atStart => exact ⟨0, Nat.zero_le _, rfl, UC (fun j hj => absurd hj (Nat.not_lt_zero _))⟩
  case round =>
   obtain ⟨k, hk, rfl, hall⟩ := hrel
   by_cases hlt : k < m
   ·obtain ⟨b, off, u, rfl, hbl, hc, hu⟩ := hA.here (k := k) (by rw [UB HN]; exact hlt)
    have hone := UC (fun (hs : labelOk (n.getD k []) = true) => (show ∀ j, j < k + 1 → labelOk (n.getD j []) = true from fun j hj => by
      by_cases e : j = k
      ·subst e; exact hs
      ·exact UB hall j (by omega)))
    have hnok := UC (fun (hs : labelOk (n.getD k []) = false) => UB hno k hlt hs)
    generalize hx : n.getD k [] = x at *
    have HU := UC hu
    obtain ⟨ua, uc, rfl, _⟩ := hu.form
    clear hu
    go_wp2_with fail
    refine (implLabelOk_has (UB HU)).mono ?_
    rintro e w1 ⟨rfl, rfl⟩
    cases hs : labelOk x with
    | true =>
     go_wp2
     exact ⟨⟨k + 1, by omega, by go_num, UC (UB hone hs)⟩, by simp [intOf]; omega⟩
    | false =>
     have hq := UB hnok hs
     subst hq
     go_wp2
     go_ret
     exact ⟨rfl, UI _⟩
   ·obtain rfl : k = m := by omega
    have hq := UB hyes (UB hall)
    subst hq
    go_wp2
    go_ret
    exact ⟨rfl, UI _⟩
set_option maxHeartbeats 1000000 in
set_option maxRecDepth 100000 in
theorem implNameText_has {v : Value} {n : List (List Int)} {w : World} (h : HasL w v n) :
  Calls Tryd.prog 23 #[.agg #[v]] w fun e w' => ∃ v', e = .returned v' ∧ Own w.heap.size 5 w' v' (nameText n) ∧ Below w.heap.size w w' := by
 obtain ⟨a, cap, rfl, hl, hm⟩ := h.form
 unfold maxLen at hm
 have b0 := UI (w := w) (.cells #[.slice a n.length cap] 31)
 have k0 := heap_alloc_new w (.cells #[.slice a n.length cap] 31)
 have h0 := UC (h.below b0)
 clear h
 cases hok : nameOk n with
 | false =>
  rw [nameText_no hok]
  have HOK := UC hok
  clear hok
  go_enter Tryd.func23, Tryd.ntmps23
  go_wp2_with fail
  generalize w.alloc (.cells #[.slice a n.length cap] 31) = W0 at *
  refine (VP (UB h0)).mono ?_
  rw [UB HOK]
  rintro e w1 ⟨rfl, b1⟩
  have k1 := UE b1 k0
  have c1 := US k1
  have h1 := UC ((UB h0).below b1)
  have bb1 := UG b0 b1
  have z1 := VC k1
  clear b0 k0 h0 b1
  go_wp2_with fail
  go_ret
  exact ⟨_, rfl, World.ownsRow_nil _ _ _ _, bb1⟩
 | true =>
  have HOK := UC hok
  by_cases hn0 : n.length = 0
  ·rw [nameText_root hok hn0]
   clear hok
   obtain rfl : n = [] := List.eq_nil_of_length_eq_zero hn0
   simp only [List.length_nil] at *
   clear hn0
   go_enter Tryd.func23, Tryd.ntmps23
   go_wp2_with fail
   generalize w.alloc (.cells #[.slice a 0 cap] 31) = W0 at *
   refine (VP (UB h0)).mono ?_
   rw [UB HOK]
   rintro e w1 ⟨rfl, b1⟩
   have k1 := UE b1 k0
   have c1 := US k1
   have h1 := UC ((UB h0).below b1)
   have bb1 := UG b0 b1
   have z1 := VC k1
   clear b0 k0 h0 b1
   go_wp2
   go_ret
   exact ⟨_, rfl, own_lit w1 w.heap.size 5 [46] (by omega) (by simp [maxLen]), bb1.alloc bb1.size _⟩
  ·have hdl := dots_length n hok
   have h6 := (nameOk_parts hok).1
   have HDS := UC (dots_succ n)
   have HD0 := UC (dots_zero n)
   have HLEN := UC (show ∀ k, k < n.length → (n.getD k []).length ≤ 15 from fun k hk => (labelOk_length ((nameOk_parts hok).2 k hk)).2)
   rw [nameText_some hok hn0]
   clear hok
   have hn1 : ((n.length : Int) == 0) = false := by rw [beq_eq_false_iff_ne]; omega
   have HDL := UC hdl
   clear hdl
   generalize dots n = D at *
   go_enter Tryd.func23, Tryd.ntmps23
   go_wp2_with fail
   generalize w.alloc (.cells #[.slice a n.length cap] 31) = W0 at *
   refine (VP (UB h0)).mono ?_
   rw [UB HOK]
   rintro e w1 ⟨rfl, b1⟩
   have k1 := UE b1 k0
   have c1 := US k1
   have h1 := UC ((UB h0).below b1)
   have bb1 := UG b0 b1
   have z1 := VC k1
   clear b0 k0 h0 b1
   generalize hn : n.length = m at *
   have HN := UC hn
   clear hn
   have K1 := UC k1
   clear k1
   go_wp2
   go_loopw [3, 17] (fun o i wr => ∃ k : Nat, k ≤ m ∧ i = .int .i64 k ∧ Own w1.heap.size 5 wr o (D k) ∧ Below w1.heap.size w1 wr) (fun _ i _ => m - (intOf i).toNat)
   case atStart => exact ⟨0, Nat.zero_le _, rfl, by rw [UB HD0]; exact World.ownsRow_nil _ _ _ _, Below.refl _ _⟩
   case round =>
    obtain ⟨k, hk, rfl, ho, hb⟩ := hrel
    by_cases hlt : k < m
    ·obtain ⟨b, off, u, rfl, hbl, hc, hu⟩ := ((UB h1).below hb).here (k := k) (by rw [UB HN]; exact hlt)
     have hds := UC (UB HDS k hlt)
     have hlk := UB HLEN k hlt
     have hdk := UB HDL k
     generalize n.getD k [] = lab at *
     have HU := UC hu
     obtain ⟨ua, uc, rfl, _⟩ := hu.form
     clear hu
     have zb := hb.size
     go_wp2_with (at_builtin; refine append_bytes rfl _ _ 25 5 rfl Tryd.underlying25 VJ w1.heap.size _ (.slice ua lab.length uc) (D k) lab rfl rfl ho (UB HU).reads (by omega) zb ?_)
     intro v2 w2 o2 g2
     have z2 := g2.size
     have hb2 : Below w1.heap.size w1 w2 := hb.grown g2 zb (fun q hq => (ho.lt q hq).1)
     clear g2 ho hb
     go_wp2_with (at_builtin; refine append_bytes rfl _ _ 25 5 rfl Tryd.underlying25 VJ w1.heap.size v2 _ (D k ++ lab) [46] rfl rfl (o2.alloc _) (own_lit w2 0 5 [46] (Nat.zero_le _) (by simp [maxLen])).reads (by simp; omega) (by simp; omega) ?_)
     intro v3 w3 o3 g3
     have hb3 : Below w1.heap.size w1 w3 := (hb2.alloc hb2.size _).grown g3 (by simp; omega) (fun q hq => (o2.lt q hq).1)
     clear g3 o2 hb2
     go_wp2_with fail
     exact ⟨⟨k + 1, by omega, by go_num, by rw [UB hds, List.append_assoc]; exact o3, hb3⟩, by simp [intOf]; omega⟩
    ·obtain rfl : k = m := by omega
     go_wp2_with fail
     go_ret
     exact ⟨_, rfl, by rw [UB HN]; exact ho.mono (Nat.le_of_lt z1), UG bb1 hb⟩
end Go.Proofs.YthmihglfffeedaaDoor
