/-
  Contracts of the program's NameText. Contracts of the program's data: each kind's text. Contract of the program's typeText. A slice of bytes that is new and may be written to: what the library's contracts give. No program is named here. bytes.Join of four words with a blank between, by the library's contract. Contract of the program's RrText at one kind of data.
-/
import Derived.Test.YtbabmdiklefgcaaGreatDoorFnRepliesG23
import Derived.Test.YtbabmdiklefgcaaGreatDoorFnRepliesG06
import Derived.Test.YtbabmdiklefgcaaGreatDoorFnRepliesG31
import Derived.Test.YtbabmdiklefgcaaGreatDoorFnRepliesG04
import Derived.Lib.SlBytesConst
import Derived.Test.YtbabmdiklefgcaaGreatDoorFnRepliesG02
import Derived.Test.YtbabmdiklefgcaaGreatDoorFnRepliesG25
import Derived.Test.YtbabmdiklefgcaaGreatDoorFnRepliesG15
namespace Go.Proofs.YtbabmdiklefgcaaGreatDoor
open Go.RowKit
set_option linter.unusedVariables false

set_option maxHeartbeats 1000000 in
set_option maxRecDepth 100000 in
theorem implNameText_has {v : Value} {n : List (List Int)} {w : World} (h : HasL w v n) :
  Calls Tryz.prog 21 #[.agg #[v]] w fun e w' => ∃ v', e = .returned v' ∧ Own w.heap.size 5 w' v' (nameText n) ∧ Below w.heap.size w w' := by
 obtain ⟨a, cap, rfl, hl, hm⟩ := h.form
 unfold maxLen at hm
 have b0 := UI (w := w) (.cells #[.slice a n.length cap] 37)
 have k0 := heap_alloc_new w (.cells #[.slice a n.length cap] 37)
 have h0 := UC (h.below b0)
 clear h
 cases hok : nameOk n with
 | false =>
  rw [nameText_no hok]
  have HOK := UC hok
  clear hok
  go_enter Tryz.func21, Tryz.ntmps21
  go_wp2_with fail
  generalize w.alloc (.cells #[.slice a n.length cap] 37) = W0 at *
  refine (VP (UB h0)).mono ?_
  rw [UB HOK]
  rintro e w1 ⟨rfl, b1⟩
  have k1 := UE b1 k0
  have c1 := US k1
  have h1 := UC ((UB h0).below b1)
  have bb1 := UG b0 b1
  have z1 := VC k1
  clear b0 k0 h0 b1
  go_wp2_with fail
  go_ret
  exact ⟨_, rfl, World.ownsRow_nil _ _ _ _, bb1⟩
 | true =>
  have HOK := UC hok
  by_cases hn0 : n.length = 0
  ·rw [nameText_root hok hn0]
   clear hok
   obtain rfl : n = [] := List.eq_nil_of_length_eq_zero hn0
   simp only [List.length_nil] at *
   clear hn0
   go_enter Tryz.func21, Tryz.ntmps21
   go_wp2_with fail
   generalize w.alloc (.cells #[.slice a 0 cap] 37) = W0 at *
   refine (VP (UB h0)).mono ?_
   rw [UB HOK]
   rintro e w1 ⟨rfl, b1⟩
   have k1 := UE b1 k0
   have c1 := US k1
   have h1 := UC ((UB h0).below b1)
   have bb1 := UG b0 b1
   have z1 := VC k1
   clear b0 k0 h0 b1
   go_wp2
   go_ret
   exact ⟨_, rfl, own_lit w1 w.heap.size 5 [46] (by omega) (by simp [maxLen]), bb1.alloc bb1.size _⟩
  ·have hdl := dots_length n hok
   have h6 := (nameOk_parts hok).1
   have HDS := UC (dots_succ n)
   have HD0 := UC (dots_zero n)
   have HLEN := UC (show ∀ k, k < n.length → (n.getD k []).length ≤ 15 from fun k hk => (labelOk_length ((nameOk_parts hok).2 k hk)).2)
   rw [nameText_some hok hn0]
   clear hok
   have hn1 : ((n.length : Int) == 0) = false := by rw [beq_eq_false_iff_ne]; omega
   have HDL := UC hdl
   clear hdl
   generalize dots n = D at *
   go_enter Tryz.func21, Tryz.ntmps21
   go_wp2_with fail
   generalize w.alloc (.cells #[.slice a n.length cap] 37) = W0 at *
   refine (VP (UB h0)).mono ?_
   rw [UB HOK]
   rintro e w1 ⟨rfl, b1⟩
   have k1 := UE b1 k0
   have c1 := US k1
   have h1 := UC ((UB h0).below b1)
   have bb1 := UG b0 b1
   have z1 := VC k1
   clear b0 k0 h0 b1
   generalize hn : n.length = m at *
   have HN := UC hn
   clear hn
   have K1 := UC k1
   clear k1
   go_wp2
   go_loopw [3, 17] (fun o i wr => ∃ k : Nat, k ≤ m ∧ i = .int .i64 k ∧ Own w1.heap.size 5 wr o (D k) ∧ Below w1.heap.size w1 wr) (fun _ i _ => m - (intOf i).toNat)
   case atStart => exact ⟨0, Nat.zero_le _, rfl, by rw [UB HD0]; exact World.ownsRow_nil _ _ _ _, Below.refl _ _⟩
   case round =>
    obtain ⟨k, hk, rfl, ho, hb⟩ := hrel
    by_cases hlt : k < m
    ·obtain ⟨b, off, u, rfl, hbl, hc, hu⟩ := ((UB h1).below hb).here (k := k) (by rw [UB HN]; exact hlt)
     have hds := UC (UB HDS k hlt)
     have hlk := UB HLEN k hlt
     have hdk := UB HDL k
     generalize n.getD k [] = lab at *
     have HU := UC hu
     obtain ⟨ua, uc, rfl, _⟩ := hu.form
     clear hu
     have zb := hb.size
     go_wp2_with (at_builtin; refine append_bytes rfl _ _ 22 5 rfl Tryz.underlying22 VJ w1.heap.size _ (.slice ua lab.length uc) (D k) lab rfl rfl ho (UB HU).reads (by omega) zb ?_)
     intro v2 w2 o2 g2
     have z2 := g2.size
     have hb2 : Below w1.heap.size w1 w2 := hb.grown g2 zb (fun q hq => (ho.lt q hq).1)
     clear g2 ho hb
     go_wp2_with (at_builtin; refine append_bytes rfl _ _ 22 5 rfl Tryz.underlying22 VJ w1.heap.size v2 _ (D k ++ lab) [46] rfl rfl (o2.alloc _) (own_lit w2 0 5 [46] (Nat.zero_le _) (by simp [maxLen])).reads (by simp; omega) (by simp; omega) ?_)
     intro v3 w3 o3 g3
     have hb3 : Below w1.heap.size w1 w3 := (hb2.alloc hb2.size _).grown g3 (by simp; omega) (fun q hq => (o2.lt q hq).1)
     clear g3 o2 hb2
     go_wp2_with fail
     exact ⟨⟨k + 1, by omega, by go_num, by rw [UB hds, List.append_assoc]; exact o3, hb3⟩, by simp [intOf]; omega⟩
    ·obtain rfl : k = m := by omega
     go_wp2_with fail
     go_ret
     exact ⟨_, rfl, by rw [UB HN]; exact ho.mono (Nat.le_of_lt z1), UG bb1 hb⟩
set_option maxHeartbeats 1000000
set_option maxRecDepth 100000

theorem appendInt_own2 {B : Nat} {v : Value} {l : List Int} (x : Int) {w : World} (h : Own B 5 w v l) (hl : l.length ≤ 1048576) (h0 : 0 ≤ x) (h1 : x ≤ 4294967295) (hB : B ≤ w.heap.size) (ht : Lib.TabBelow Tryz.prog B w "internal/strconv.uint64pow10" .u64 Lib.pow10Tab) :
  Calls Tryz.prog 75 #[v, .int .i64 x, .int .i64 10] w fun e w' => ∃ v', e = .returned v' ∧ Own B 5 w' v' (l ++ digs x) ∧ Below B w w' := by
 refine (Tryz.strconv_AppendInt_10 B l.length x (by omega) (by omega) v (l.map (Value.int .u8)) w h hB (by omega) ht).mono ?_
 rintro e w' ⟨v', rfl, o, b, _⟩
 refine ⟨v', rfl, ?_, b⟩
 rw [cells_digs x h0, itoa_digs x h0] at o
 unfold Own
 rw [List.length_append, List.map_append]
 exact o
theorem addrWords_has (a : Int) {w : World} (ht : Pow10 w) : Calls Tryz.prog 151 #[.agg #[.int .i64 a]] w fun e w' => ∃ v', e = .returned v' ∧ Own w.heap.size 5 w' v' (dotted a) ∧ Below w.heap.size w w' := by
 have b0 := UI (w := w) (.cells #[.int .i64 a] 132)
 have hP := UC (implDotted_any a (ht.below b0))
 clear ht
 generalize dotted a = G at *
 go_enter Tryz.func151, Tryz.ntmps151
 go_wp2_with fail
 refine (UB hP).mono ?_
 rintro e w1 ⟨v1, rfl, o1, b1⟩
 go_wp2_with fail
 go_ret
 exact ⟨v1, rfl, o1.mono b0.size, UG b0 b1⟩
theorem nameWords_has {a : Option Addr} {cap : Nat} {n : List (List Int)} {w : World} (h : HasL w (.slice a n.length cap) n) (ht : Pow10 w) : Calls Tryz.prog 156 #[.agg #[.slice a n.length cap]] w fun e w' => ∃ v', e = .returned v' ∧ Own w.heap.size 5 w' v' (nameText n) ∧ Below w.heap.size w w' := by
 have b0 := UI (w := w) (.cells #[.slice a n.length cap] 134)
 have hP := UC (implNameText_has (h.below b0))
 clear h ht
 generalize nameText n = G at *
 go_enter Tryz.func156, Tryz.ntmps156
 go_wp2_with fail
 refine (UB hP).mono ?_
 rintro e w1 ⟨v1, rfl, o1, b1⟩
 go_wp2_with fail
 go_ret
 exact ⟨v1, rfl, o1.mono b0.size, UG b0 b1⟩
theorem soaWords_has {a : Option Addr} {cap : Nat} {n : List (List Int)} {ia : Option Addr} {ic : Nat} {x y : Int} {w : World} (h : HasL w (.slice a n.length cap) n) (hi : HasI w (.slice ia 2 ic) [x, y]) (hx0 : 0 ≤ x) (hx1 : x ≤ 4294967295) (hy0 : 0 ≤ y) (hy1 : y ≤ 4294967295) (ht : Pow10 w) :
  Calls Tryz.prog 160 #[.agg #[.slice a n.length cap, .slice ia 2 ic]] w fun e w' => ∃ v', e = .returned v' ∧ Own w.heap.size 5 w' v' (nameText n ++ [32] ++ digs x ++ [32] ++ digs y) ∧ Below w.heap.size w w' := by
 have b0 := UI (w := w) (.cells #[.slice a n.length cap, .slice ia 2 ic] 136)
 have k0 := heap_alloc_new w (.cells #[.slice a n.length cap, .slice ia 2 ic] 136)
 have HP := UC (implNameText_has (h.below b0))
 have I0 := UC (hi.below b0)
 have HT := UC (ht.below b0)
 have l1 := nameText_length n
 have lx := digs_ten hx0 hx1
 have ly := digs_ten hy0 hy1
 clear h hi ht
 generalize nameText n = G1 at *
 obtain ⟨G2, hG2⟩ : ∃ G, G = G1 ++ [32] ++ digs x := ⟨_, rfl⟩
 obtain ⟨G3, hG3⟩ : ∃ G, G = G2 ++ [32] ++ digs y := ⟨_, rfl⟩
 have l2 : G2.length ≤ 120 := by rw [hG2]; simp only [List.length_append, List.length_cons, List.length_nil]; omega
 have e3 : G1 ++ [32] ++ digs x ++ [32] ++ digs y = G3 := by rw [hG3, hG2]
 rw [e3]
 have HG2 := UC hG2
 have HG3 := UC hG3
 clear hG2 hG3 e3
 go_enter Tryz.func160, Tryz.ntmps160
 go_wp2_with fail
 generalize w.alloc (.cells #[.slice a n.length cap, .slice ia 2 ic] 136) = W at *
 refine (UB HP).mono ?_
 rintro e w1 ⟨v1, rfl, o1, b1⟩
 have ht1 := UC (Lib.tabBelow_of_tabIs (UB HT))
 have bb1 := b1
 have k1 := UE b1 k0
 have c1 := VE k1 1
 simp only [List.getElem?_toArray, List.getElem?_cons_zero, List.getElem?_cons_succ] at c1
 have z1 := b1.size
 have z0 := b0.size
 have o1' := UC o1
 clear k0 b1 k1 o1
 go_wp2
 go_loopw [3, 12] (fun o i wr => ∃ k : Nat, k ≤ 2 ∧ i = .int .i64 k ∧ Own W.heap.size 5 wr o (if k = 0 then G1 else if k = 1 then G2 else G3) ∧ Below W.heap.size W wr) (fun _ i _ => 2 - (intOf i).toNat)
 case atStart => exact ⟨0, by omega, rfl, UB o1', bb1⟩
 case round =>
  obtain ⟨k, hk, rfl, ho, hb⟩ := hrel
  obtain ⟨g, off, cp, hv, hg, n0, n1⟩ := ((UB I0).below hb).two
  simp only [Value.slice.injEq] at hv
  obtain ⟨rfl, _, rfl⟩ := hv
  have zb := hb.size
  by_cases e0 : k = 0
  ·subst e0
   go_wp2_with (at_builtin; refine append_bytes rfl _ _ 22 5 rfl Tryz.underlying22 VJ W.heap.size u3 _ G1 [32] rfl rfl (ho.alloc _) (own_lit wr 0 5 [32] (Nat.zero_le _) (by simp [maxLen])).reads (by simp; omega) (by simp; omega) ?_)
   intro v2 w2 o2 g2
   have b2 : Below W.heap.size W w2 := (hb.alloc hb.size _).grown g2 (by simp; omega) (fun q hq => (ho.lt q hq).1)
   clear g2
   have z2 := b2.size
   go_wp2_with fail
   refine (appendInt_own2 x o2 (by simp; omega) hx0 hx1 z2 ((UB ht1).on b2)).mono ?_
   rintro e w3 ⟨v3, rfl, o3, b3⟩
   go_wp2_with fail
   exact ⟨⟨1, by omega, by go_num, (by rw [UB HG2]; exact o3), b2.trans b3⟩, by simp [intOf]⟩
  by_cases e1 : k = 1
  ·subst e1
   go_wp2_with (at_builtin; refine append_bytes rfl _ _ 22 5 rfl Tryz.underlying22 VJ W.heap.size u3 _ G2 [32] rfl rfl (ho.alloc _) (own_lit wr 0 5 [32] (Nat.zero_le _) (by simp [maxLen])).reads (by simp; omega) (by simp; omega) ?_)
   intro v2 w2 o2 g2
   have b2 : Below W.heap.size W w2 := (hb.alloc hb.size _).grown g2 (by simp; omega) (fun q hq => (ho.lt q hq).1)
   clear g2
   have z2 := b2.size
   go_wp2_with fail
   refine (appendInt_own2 y o2 (by simp; omega) hy0 hy1 z2 ((UB ht1).on b2)).mono ?_
   rintro e w3 ⟨v3, rfl, o3, b3⟩
   go_wp2_with fail
   exact ⟨⟨2, by omega, by go_num, (by rw [UB HG3]; exact o3), b2.trans b3⟩, by simp [intOf]⟩
  ·obtain rfl : k = 2 := by omega
   go_wp2_with fail
   go_ret
   exact ⟨_, rfl, ho.mono z0, UG b0 hb⟩
set_option maxHeartbeats 400000
set_option maxRecDepth 100000

theorem typeText_1 {w : World} :
  Calls Tryz.prog 76 #[.int .i64 1] w fun e w' => ∃ v', e = .returned v' ∧ Has w' v' [65] ∧ Below w.heap.size w w' := by
 have hcid := fun (C : Array Value) (n c : Nat) => Lib.run_convert_bytes_const (P := Tryz.prog) w 22 5 C n c Tryz.underlying22 Tryz.underlying5
 have HH := UC (has_const w 5 [65] (1, 2) (by simp [maxLen]))
 go_enter Tryz.func76, Tryz.ntmps76
 go_wp2
 go_ret
 exact ⟨_, rfl, UB HH, (Below.refl _ _).alloc (Nat.le_refl _) _⟩
theorem typeText_2 {w : World} :
  Calls Tryz.prog 76 #[.int .i64 2] w fun e w' => ∃ v', e = .returned v' ∧ Has w' v' [78, 83] ∧ Below w.heap.size w w' := by
 have hcid := fun (C : Array Value) (n c : Nat) => Lib.run_convert_bytes_const (P := Tryz.prog) w 22 5 C n c Tryz.underlying22 Tryz.underlying5
 have HH := UC (has_const w 5 [78, 83] (2, 3) (by simp [maxLen]))
 go_enter Tryz.func76, Tryz.ntmps76
 go_wp2
 go_ret
 exact ⟨_, rfl, UB HH, (Below.refl _ _).alloc (Nat.le_refl _) _⟩
theorem typeText_5 {w : World} :
  Calls Tryz.prog 76 #[.int .i64 5] w fun e w' => ∃ v', e = .returned v' ∧ Has w' v' [67, 78, 65, 77, 69] ∧ Below w.heap.size w w' := by
 have hcid := fun (C : Array Value) (n c : Nat) => Lib.run_convert_bytes_const (P := Tryz.prog) w 22 5 C n c Tryz.underlying22 Tryz.underlying5
 have HH := UC (has_const w 5 [67, 78, 65, 77, 69] (5, 6) (by simp [maxLen]))
 go_enter Tryz.func76, Tryz.ntmps76
 go_wp2
 go_ret
 exact ⟨_, rfl, UB HH, (Below.refl _ _).alloc (Nat.le_refl _) _⟩
theorem typeText_6 {w : World} :
  Calls Tryz.prog 76 #[.int .i64 6] w fun e w' => ∃ v', e = .returned v' ∧ Has w' v' [83, 79, 65] ∧ Below w.heap.size w w' := by
 have hcid := fun (C : Array Value) (n c : Nat) => Lib.run_convert_bytes_const (P := Tryz.prog) w 22 5 C n c Tryz.underlying22 Tryz.underlying5
 have HH := UC (has_const w 5 [83, 79, 65] (3, 4) (by simp [maxLen]))
 go_enter Tryz.func76, Tryz.ntmps76
 go_wp2
 go_ret
 exact ⟨_, rfl, UB HH, (Below.refl _ _).alloc (Nat.le_refl _) _⟩
theorem typeText_12 {w : World} :
  Calls Tryz.prog 76 #[.int .i64 12] w fun e w' => ∃ v', e = .returned v' ∧ Has w' v' [80, 84, 82] ∧ Below w.heap.size w w' := by
 have hcid := fun (C : Array Value) (n c : Nat) => Lib.run_convert_bytes_const (P := Tryz.prog) w 22 5 C n c Tryz.underlying22 Tryz.underlying5
 have HH := UC (has_const w 5 [80, 84, 82] (3, 4) (by simp [maxLen]))
 go_enter Tryz.func76, Tryz.ntmps76
 go_wp2
 go_ret
 exact ⟨_, rfl, UB HH, (Below.refl _ _).alloc (Nat.le_refl _) _⟩
theorem typeText_16 {w : World} :
  Calls Tryz.prog 76 #[.int .i64 16] w fun e w' => ∃ v', e = .returned v' ∧ Has w' v' [84, 88, 84] ∧ Below w.heap.size w w' := by
 have hcid := fun (C : Array Value) (n c : Nat) => Lib.run_convert_bytes_const (P := Tryz.prog) w 22 5 C n c Tryz.underlying22 Tryz.underlying5
 have HH := UC (has_const w 5 [84, 88, 84] (3, 4) (by simp [maxLen]))
 go_enter Tryz.func76, Tryz.ntmps76
 go_wp2
 go_ret
 exact ⟨_, rfl, UB HH, (Below.refl _ _).alloc (Nat.le_refl _) _⟩
theorem typeText_49 {w : World} :
  Calls Tryz.prog 76 #[.int .i64 49] w fun e w' => ∃ v', e = .returned v' ∧ Has w' v' [68, 72, 67, 73, 68] ∧ Below w.heap.size w w' := by
 have hcid := fun (C : Array Value) (n c : Nat) => Lib.run_convert_bytes_const (P := Tryz.prog) w 22 5 C n c Tryz.underlying22 Tryz.underlying5
 have HH := UC (has_const w 5 [68, 72, 67, 73, 68] (5, 6) (by simp [maxLen]))
 go_enter Tryz.func76, Tryz.ntmps76
 go_wp2
 go_ret
 exact ⟨_, rfl, UB HH, (Below.refl _ _).alloc (Nat.le_refl _) _⟩
theorem implTypeText_has {t : Int} {w : World} (h : typeOk t = true) :
  Calls Tryz.prog 76 #[.int .i64 t] w fun e w' => ∃ v', e = .returned v' ∧ Has w' v' (typeT t) ∧ Below w.heap.size w w' := by
 have ht : t = 1 ∨ t = 2 ∨ t = 5 ∨ t = 6 ∨ t = 12 ∨ t = 16 ∨ t = 49 := of_decide_eq_true h
 rcases ht with rfl | rfl | rfl | rfl | rfl | rfl | rfl
 ·exact typeText_1
 ·exact typeText_2
 ·exact typeText_5
 ·exact typeText_6
 ·exact typeText_12
 ·exact typeText_16
 ·exact typeText_49
def Fr (B E : Nat) (w : World) (v : Value) (l : List Int) : Prop :=
 (v = .slice none 0 0 ∧ l = []) ∨ ∃ g cap, v = .slice (some ⟨g, 0, none⟩) l.length cap ∧ B ≤ g ∧ g < E ∧ g < w.heap.size ∧ l.length ≤ cap ∧ cap ≤ maxLen ∧ ∀ i, i < l.length → w.cell? ⟨g, i, none⟩ = some (.int .u8 (l.getD i 0)) ∧ w.frozen? ⟨g, i, none⟩ = false
theorem Fr.has {B E : Nat} {w : World} {v : Value} {l : List Int} (h : Fr B E w v l) : Has w v l := by
 rcases h with h | ⟨g, cap, rfl, _, _, hg, hc, hm, hh⟩
 ·exact .inl h
 ·exact .inr ⟨g, 0, cap, rfl, hg, hc, hm, fun i hi => by rw [Nat.zero_add]; exact (hh i hi).1⟩
theorem Fr.outside {B E C D : Nat} {w w' : World} {v : Value} {l : List Int} (h : Fr B E w v l) (u : Outside C D w w') (hd : E ≤ C ∨ D ≤ B) : Fr B E w' v l := by
 rcases h with h | ⟨g, cap, rfl, hB, hE, hg, hc, hm, hh⟩
 ·exact .inl h
 ·have hk := u.block g hg (by omega)
  exact .inr ⟨g, cap, rfl, hB, hE, Nat.lt_of_lt_of_le hg u.size, hc, hm, fun i hi => by
   rw [World.cell?_of_block (a := ⟨g, i, none⟩) hk, World.frozen?_of_block (a := ⟨g, i, none⟩) hk]
   exact hh i hi⟩
theorem Fr.below {B E : Nat} {w w' : World} {v : Value} {l : List Int} (h : Fr B E w v l) (hb : Below w.heap.size w w') : Fr B E w' v l := by
 rcases h with h | ⟨g, cap, rfl, hB, hE, hg, hc, hm, hh⟩
 ·exact .inl h
 ·have hk := hb.block g hg
  exact .inr ⟨g, cap, rfl, hB, hE, Nat.lt_of_lt_of_le hg hb.size, hc, hm, fun i hi => by
   rw [World.cell?_of_block (a := ⟨g, i, none⟩) hk, World.frozen?_of_block (a := ⟨g, i, none⟩) hk]
   exact hh i hi⟩
theorem Fr.lies {B E : Nat} {w : World} {v : Value} {l : List Int} (h : Fr B E w v l) : ∃ a cap, v = .slice a l.length cap ∧ Lies w a l := by
 rcases h with ⟨rfl, rfl⟩ | ⟨g, cap, rfl, hB, hE, hg, hc, hm, hh⟩
 ·exact ⟨none, 0, rfl, .inl rfl⟩
 ·exact ⟨_, cap, rfl, .inr ⟨g, 0, rfl, hg, fun i hi => by rw [Nat.zero_add]; exact (hh i hi).1⟩⟩

theorem Fr.here {B E : Nat} {w : World} {v : Value} {l : List Int} (h : Fr B E w v l) : Fr B E w v l := h
theorem fr_nil (B E : Nat) (w : World) : Fr B E w (.slice none 0 0) [] := .inl ⟨rfl, rfl⟩
theorem Fr.of {B : Nat} {w : World} {v : Value} {l : List Int} (h : FrB B w v l) (h0 : 0 < l.length) : Fr B w.heap.size w v l := by
 obtain ⟨g, cap, rfl, hB, hc, hm, hh⟩ := h
 exact .inr ⟨g, cap, rfl, hB, cell_lt (hh 0 h0).1, cell_lt (hh 0 h0).1, hc, hm, hh⟩
theorem join4 {w : World} {g : Nat} {v1 v2 v3 v4 sv : Value} {a b c d : List Int} (k : w.heap[g]? = some (.cells #[v1, v2, v3, v4] 22)) (h1 : Has w v1 a) (h2 : Has w v2 b) (h3 : Has w v3 c) (h4 : Has w v4 d) (hs : Has w sv [32])
  (ha : Byt a) (hb : Byt b) (hc : Byt c) (hd : Byt d) (hl : a.length + b.length + c.length + d.length ≤ 1000) :
  Calls Tryz.prog 78 #[.slice (some ⟨g, 0, none⟩) 4 4, sv] w fun e w' => ∃ v', e = .returned v' ∧ Fr w.heap.size w'.heap.size w' v' (a ++ [32] ++ b ++ [32] ++ c ++ [32] ++ d) ∧ Below w.heap.size w w' := by
 have hP : Lib.PartsAt w ⟨g, 0, none⟩ [v1, v2, v3, v4] [u8s a, u8s b, u8s c, u8s d] := by
  refine ⟨rfl, fun i v hv => ?_, fun i v l hv hl => ?_⟩
  ·rw [Addr.add_lit, Nat.zero_add]
   have := VE k i
   rw [List.getElem?_toArray, hv] at this
   exact this
  ·match i, hv, hl with
   | 0, hv, hl => cases hv; cases hl; exact h1.holds ha
   | 1, hv, hl => cases hv; cases hl; exact h2.holds hb
   | 2, hv, hl => cases hv; cases hl; exact h3.holds hc
   | 3, hv, hl => cases hv; cases hl; exact h4.holds hd
   | i + 4, hv, hl => simp at hv
 have hS : Lib.HoldsBytes w sv [32] := hs.holds (l := [32]) (fun x hx => by have := List.mem_singleton.1 hx; omega)
 refine (Tryz.bytes_Join_many g 0 4 4 [v1, v2, v3, v4] [u8s a, u8s b, u8s c, u8s d] sv [32] w rfl (by omega) hP (by omega) hS (by omega) (by simp [Lib.lens, u8s_length]; omega)).mono ?_
 rintro e w' ⟨v', rfl, hf, hbw⟩
 rw [u8s_join] at hf
 have hby : Byt (a ++ [32] ++ b ++ [32] ++ c ++ [32] ++ d) := by
  have h32 : Byt [32] := fun x hx => by have := List.mem_singleton.1 hx; omega
  exact (((((ha.app h32).app hb).app h32).app hc).app h32).app hd
 exact ⟨v', rfl, Fr.of (FrB.of hby hf) (by simp only [List.length_append, List.length_cons, List.length_nil]; omega), hbw⟩
theorem fr_wide {B B' E : Nat} {w : World} {v : Value} {l : List Int} (h : Fr B E w v l) (hB : B' ≤ B) : Fr B' E w v l := by
 rcases h with h | ⟨g, cap, rfl, h1, h2⟩
 ·exact .inl h
 ·exact .inr ⟨g, cap, rfl, by omega, h2⟩
set_option maxHeartbeats 4000000 in
set_option maxRecDepth 100000 in
theorem rrText_A {na : Option Addr} {nc : Nat} {ta : Option Addr} {tc : Nat} {xa : Option Addr} {xc : Nat} {ia : Option Addr} {ic : Nat} {nm to : List (List Int)} {tx nu : List Int} {tt ad : Int} {w : World} {D : List Int} (h : HasR w (.slice na nm.length nc) (.slice ta to.length tc) (.slice xa tx.length xc) (.slice ia nu.length ic) ⟨nm, 1, tt, ad, to, tx, nu⟩) (hok : rrOk ⟨nm, 1, tt, ad, to, tx, nu⟩ = true) (ht : Pow10 w)
  (PA : ∀ w1, Below w.heap.size w w1 → Calls Tryz.prog 151 #[.agg #[.int .i64 ad]] w1 fun e w' => ∃ v', e = .returned v' ∧ Own w1.heap.size 5 w' v' D ∧ Below w1.heap.size w1 w') (hD : Byt D) (hDl : D.length ≤ 120) :
  Calls Tryz.prog 47 #[.agg #[.slice na nm.length nc, .int .i64 1, .int .i64 tt, .int .i64 ad, .slice ta to.length tc, .slice xa tx.length xc, .slice ia nu.length ic]] w fun e w' => ∃ v', e = .returned v' ∧ Fr w.heap.size w'.heap.size w' v' (nameText nm ++ [32] ++ digs tt ++ [32] ++ typeT 1 ++ [32] ++ D) ∧ Below w.heap.size w w' := by
 have b0 := UI (w := w) (.cells #[.slice na nm.length nc, .int .i64 1, .int .i64 tt, .int .i64 ad, .slice ta to.length tc, .slice xa tx.length xc, .slice ia nu.length ic] 63)
 have K0 := UC (heap_alloc_new w (.cells #[.slice na nm.length nc, .int .i64 1, .int .i64 tt, .int .i64 ad, .slice ta to.length tc, .slice xa tx.length xc, .slice ia nu.length ic] 63))
 have HO := implRrOk_has (h.below b0)
 rw [hok] at HO
 replace HO := UC HO
 have PW := UC PA
 have F0 := UC (h.name.below b0)
 have HT := UC (ht.below b0)
 obtain ⟨_, hty, h0, h1, _⟩ := rrOk_parts hok
 simp only at hty h0 h1
 have PY := UC (show ∀ w1, Calls Tryz.prog 76 #[.int .i64 1] w1 fun e w' => ∃ v', e = .returned v' ∧ Has w' v' (typeT 1) ∧ Below w1.heap.size w1 w' from fun w1 => implTypeText_has hty)
 have YA := UC (nameText_byt nm)
 have YT := UC (digs_byt tt)
 have YY := UC (typeT_byt 1)
 have YD := UC hD
 have PI := UC (show ∀ w1, Pow10 w1 → Calls Tryz.prog 75 #[.slice none 0 0, .int .i64 tt, .int .i64 10] w1 fun e w' => ∃ v', e = .returned v' ∧ Own w1.heap.size 5 w' v' (digs tt) ∧ Below w1.heap.size w1 w' from fun w1 hp => by
  have := appendInt_own2 (B := w1.heap.size) (v := .slice none 0 0) (l := []) (w := w1) tt (World.ownsRow_nil _ _ _ _) (by simp) h0 (by omega) (Nat.le_refl _) (Lib.tabBelow_of_tabIs hp)
  rwa [List.nil_append] at this)
 have HLE : Hid ((nameText nm).length + (digs tt).length + (typeT 1).length + D.length ≤ 1000) := UC (by
  have := nameText_length nm
  have := digs_ten h0 (by omega)
  have := typeT_length 1
  omega)
 have PN := UC (show ∀ w1, HasL w1 (.slice na nm.length nc) nm → Calls Tryz.prog 21 #[.agg #[.slice na nm.length nc]] w1 fun e w' => ∃ v', e = .returned v' ∧ Own w1.heap.size 5 w' v' (nameText nm) ∧ Below w1.heap.size w1 w' from fun w1 hh => implNameText_has hh)
 skip
 clear h hok PA ht hty hD hDl
 generalize nameText nm = N at *
 generalize digs tt = T at *
 generalize hY : typeT 1 = Y at *
 clear hY
 go_enter Tryz.func47, Tryz.ntmps47
 go_wp2_with fail
 generalize w.alloc (.cells #[.slice na nm.length nc, .int .i64 1, .int .i64 tt, .int .i64 ad, .slice ta to.length tc, .slice xa tx.length xc, .slice ia nu.length ic] 63) = W at *
 refine (UB HO).mono ?_
 rintro e w1 ⟨rfl, b1⟩
 have KB1 := UE b1 (UB K0)
 obtain ⟨d0, d1, d2, d3, d4, d5, d6⟩ := UJ KB1
 have bb1 := UG b0 b1
 have z1 := bb1.size
 have P1 := (UB HT).below b1
 have F1 := (UB F0).below b1
 go_wp2_with fail
 refine (UB PI _ P1).mono ?_
 rintro e w2 ⟨v2, rfl, o2, b2⟩
 go_wp2_with fail
 have bd := UX (w := w2)
 have c3 := UG b2 bd
 have KB := UC (UE c3 KB1)
 have FN := UC (F1.below c3)
 have T2 := UC (o2.has.below bd)
 have bb3 := UG bb1 c3
 clear d0 d1 d2 d3 d4 d5 d6 KB1 F1 P1 o2 b2 bd c3 b1 b0 K0 F0
 refine startC [0, 1, 3, 4, 5, 7, 2, 6, 8, 9, 10, 11] (by kernel_rfl) ⟨by kernel_rfl, by kernel_rfl, by kernel_rfl, by kernel_rfl⟩ 6 [(1, fun w' => w'.cell? ⟨w.heap.size, 0, none⟩ = some (.slice na nm.length nc)), (5, fun w' => w'.cell? ⟨w.heap.size, 1, none⟩ = some (.int .i64 1)), (7, fun w' => w'.cell? ⟨w.heap.size, 0, none⟩ = some (.slice na nm.length nc) ∧ w'.cell? ⟨w.heap.size, 1, none⟩ = some (.int .i64 1) ∧ w'.cell? ⟨w.heap.size, 2, none⟩ = some (.int .i64 tt) ∧ w'.cell? ⟨w.heap.size, 3, none⟩ = some (.int .i64 ad) ∧ w'.cell? ⟨w.heap.size, 4, none⟩ = some (.slice ta to.length tc) ∧ w'.cell? ⟨w.heap.size, 5, none⟩ = some (.slice xa tx.length xc) ∧ w'.cell? ⟨w.heap.size, 6, none⟩ = some (.slice ia nu.length ic))] (fun hA => ?_)
 replace hA := UC hA
 repeat ((first | (refine VN ?_ (UB hA) rfl rfl rfl (by rfl) (fun _ _ _ h => h) ?_ ?_; rotate_left; · (intro w; go_simp <;> with_reducible rfl)) | refine VM (UB hA) rfl rfl (by rfl) (fun _ _ _ h => h) ?_); go_simp)
 refine takeC ?_ (UB hA) rfl rfl rfl (by rfl) (fun _ _ _ h => h) (.head _) (UJ (UB KB)).1 ?_ ?_; rotate_left; (· (intro w hSw; (try dsimp only at hSw); go_simp <;> with_reducible rfl)); go_simp
 repeat ((first | (refine VN ?_ (UB hA) rfl rfl rfl (by rfl) (fun _ _ _ h => h) ?_ ?_; rotate_left; · (intro w; go_simp <;> with_reducible rfl)) | refine VM (UB hA) rfl rfl (by rfl) (fun _ _ _ h => h) ?_); go_simp)
 refine takeC ?_ (UB hA) rfl rfl rfl (by rfl) (fun _ _ _ h => h) (.tail _ (.head _)) (UJ (UB KB)).2.1 ?_ ?_; rotate_left; (· (intro w hSw; (try dsimp only at hSw); go_simp <;> with_reducible rfl)); go_simp
 repeat ((first | (refine VN ?_ (UB hA) rfl rfl rfl (by rfl) (fun _ _ _ h => h) ?_ ?_; rotate_left; · (intro w; go_simp <;> with_reducible rfl)) | refine VM (UB hA) rfl rfl (by rfl) (fun _ _ _ h => h) ?_); go_simp)
 refine takeC ?_ (UB hA) rfl rfl rfl (by rfl) (fun _ _ _ h => h) (.tail _ (.tail _ (.head _))) (UJ (UB KB)) ?_ ?_; rotate_left; (· (intro w hSw; (try dsimp only at hSw); go_simp <;> with_reducible rfl)); go_simp
 repeat ((first | (refine VN ?_ (UB hA) rfl rfl rfl (by rfl) (fun _ _ _ h => h) ?_ ?_; rotate_left; · (intro w; go_simp <;> with_reducible rfl)) | refine VM (UB hA) rfl rfl (by rfl) (fun _ _ _ h => h) ?_); go_simp)
 refine runC (UB hA) rfl rfl (by kernel_rfl) (by kernel_rfl) (fun K hK => ?_)
 have HK := UC hK
 clear hK
 go_simp
 refine (UB PN _ (UB FN)).mono ?_
 rintro e w4 ⟨v4, rfl, o4, b4⟩
 have KB4 := UC (UE b4 (UB KB))
 have A4 := UC o4.has
 have T4 := UC ((UB T2).below b4)
 have bb4 := UG bb3 b4
 clear b4 o4
 refine (UB HK).out _ _ (VB (by kernel_rfl) (keepC_yes (UJ (UB KB4)).2.1 (keepC_yes (UJ (UB KB4)) VL))) ?_
 clear HK K
 go_simp
 repeat ((first | (refine VN ?_ (UB hA) rfl rfl rfl (by rfl) (fun _ _ _ h => h) ?_ ?_; rotate_left; · (intro w; go_simp <;> with_reducible rfl)) | refine VM (UB hA) rfl rfl (by rfl) (fun _ _ _ h => h) ?_); go_simp)
 refine runC (UB hA) rfl rfl (by kernel_rfl) (by kernel_rfl) (fun K hK => ?_)
 have HK := UC hK
 clear hK
 go_simp
 refine (UB PY _).mono ?_
 rintro e w5 ⟨v5, rfl, o5, b5⟩
 have KB5 := UC (UE b5 (UB KB4))
 have A5 := UC ((UB A4).below b5)
 have T5 := UC ((UB T4).below b5)
 have Y5 := UC o5
 have bb5 := UG bb4 b5
 clear b5 o5
 refine (UB HK).out _ _ (VB (by kernel_rfl) (VB (by kernel_rfl) (keepC_yes (UJ (UB KB5)) VL))) ?_
 clear HK K
 go_simp
 repeat ((first | (refine VN ?_ (UB hA) rfl rfl rfl (by rfl) (fun _ _ _ h => h) ?_ ?_; rotate_left; · (intro w; go_simp <;> with_reducible rfl)) | refine VM (UB hA) rfl rfl (by rfl) (fun _ _ _ h => h) ?_); go_simp)
 refine runC (UB hA) rfl rfl (by kernel_rfl) (by kernel_rfl) (fun K hK => ?_)
 have HK := UC hK
 clear hK
 go_simp
 refine (dataOf_A (na := na) (nc := nc) (ta := ta) (tc := tc) (xa := xa) (xc := xc) (ia := ia) (ic := ic) (nm := nm) (to := to) (tx := tx) (nu := nu) (tt := tt) (ad := ad)).mono ?_
 rintro e w6 ⟨rfl, b6⟩
 have A6 := UC ((UB A5).below b6)
 have T6 := UC ((UB T5).below b6)
 have Y6 := UC ((UB Y5).below b6)
 have bb6 := UG bb5 b6
 clear b6
 refine (UB HK).out _ _ (VB (by kernel_rfl) (VB (by kernel_rfl) (VB (by kernel_rfl) VL))) ?_
 clear HK K
 go_simp
 repeat ((first | (refine VN ?_ (UB hA) rfl rfl rfl (by rfl) (fun _ _ _ h => h) ?_ ?_; rotate_left; · (intro w; go_simp <;> with_reducible rfl)) | refine VM (UB hA) rfl rfl (by rfl) (fun _ _ _ h => h) ?_); go_simp)
 refine runC (UB hA) rfl rfl (by kernel_rfl) (by kernel_rfl) (fun K hK => ?_)
 have HK := UC hK
 clear hK
 go_simp
 refine (UB PW _ bb6).mono ?_
 rintro e w7 ⟨v7, rfl, o7, b7⟩
 have A7 := UC ((UB A6).below b7)
 have T7 := UC ((UB T6).below b7)
 have Y7 := UC ((UB Y6).below b7)
 have D7 := UC o7.has
 have bb7 := UG bb6 b7
 have z7 := bb7.size
 clear b7 o7
 refine (UB HK).out _ _ (VB (by kernel_rfl) (VB (by kernel_rfl) (VB (by kernel_rfl) VL))) ?_
 clear HK K
 go_simp
 repeat ((first | (refine VN ?_ (UB hA) rfl rfl rfl (by rfl) (fun _ _ _ h => h) ?_ ?_; rotate_left; · (intro w; go_simp <;> with_reducible rfl)) | refine VM (UB hA) rfl rfl (by rfl) (fun _ _ _ h => h) ?_); go_simp)
 obtain ⟨ea4, ec4, rfl, _⟩ := (UB A7).form
 obtain ⟨ea2, ec2, rfl, _⟩ := (UB T7).form
 obtain ⟨ea5, ec5, rfl, _⟩ := (UB Y7).form
 obtain ⟨ea7, ec7, rfl, _⟩ := (UB D7).form
 have b8 := (UI (w := w7) (.cells #[.slice ea4 N.length ec4, .slice ea2 T.length ec2, .slice ea5 Y.length ec5, .slice ea7 D.length ec7] 22))
 have k8 := heap_alloc_new w7 (.cells #[.slice ea4 N.length ec4, .slice ea2 T.length ec2, .slice ea5 Y.length ec5, .slice ea7 D.length ec7] 22)
 refine runC (UB hA) rfl rfl (by kernel_rfl) (by kernel_rfl) (fun K hK => ?_)
 have HK := UC hK
 clear hK
 go_simp
 refine (UB HK).out _ _ (VB (by kernel_rfl) (VB (by kernel_rfl) (VB (by kernel_rfl) VL))) ?_
 clear HK K
 go_simp
 repeat ((first | (refine VN ?_ (UB hA) rfl rfl rfl (by rfl) (fun _ _ _ h => h) ?_ ?_; rotate_left; · (intro w; go_simp <;> with_reducible rfl)) | refine VM (UB hA) rfl rfl (by rfl) (fun _ _ _ h => h) ?_); go_simp)
 refine doneC (UB hA) rfl ?_
 clear hA
 have hz8 : (w7.alloc (.cells #[.slice ea4 N.length ec4, .slice ea2 T.length ec2, .slice ea5 Y.length ec5, .slice ea7 D.length ec7] 22)).heap.size = w7.heap.size + 1 := by show (w7.heap.push _).size = _; simp
 have b9 := UI (w := w7.alloc (.cells #[.slice ea4 N.length ec4, .slice ea2 T.length ec2, .slice ea5 Y.length ec5, .slice ea7 D.length ec7] 22)) (.cells #[.int .u8 32] 5)
 have K9 := UC (UE b9 k8)
 have S9 : Hid (Has ((w7.alloc (.cells #[.slice ea4 N.length ec4, .slice ea2 T.length ec2, .slice ea5 Y.length ec5, .slice ea7 D.length ec7] 22)).alloc (.cells #[.int .u8 32] 5)) (.slice (some ⟨w7.heap.size + 1, 0, none⟩) 1 1) [32]) := UC (by rw [← hz8]; exact (own_lit (w7.alloc (.cells #[.slice ea4 N.length ec4, .slice ea2 T.length ec2, .slice ea5 Y.length ec5, .slice ea7 D.length ec7] 22)) 0 5 [32] (Nat.zero_le _) (by simp [maxLen])).has)
 have c9 := UG b8 b9
 have A9 := UC ((UB A7).below c9)
 have T9 := UC ((UB T7).below c9)
 have Y9 := UC ((UB Y7).below c9)
 have D9 := UC ((UB D7).below c9)
 have bb9 := UG bb7 c9
 clear b8 k8 b9 c9 hz8
 go_wp2_with fail
 generalize (w7.alloc (.cells #[.slice ea4 N.length ec4, .slice ea2 T.length ec2, .slice ea5 Y.length ec5, .slice ea7 D.length ec7] 22)).alloc (.cells #[.int .u8 32] 5) = w9 at *
 refine (join4 (UB K9) (UB A9) (UB T9) (UB Y9) (UB D9) (UB S9) (UB YA) (UB YT) (UB YY) (UB YD) (UB HLE)).mono ?_
 rintro e w10 ⟨v10, rfl, o10, b10⟩
 go_wp2_with fail
 go_ret
 exact ⟨v10, rfl, fr_wide o10 bb9.size, UG bb9 b10⟩
end Go.Proofs.YtbabmdiklefgcaaGreatDoor
