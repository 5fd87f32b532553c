/-
  Contracts of the program's data: each kind's text. Contract of the program's typeText. A slice of bytes that is new and may be written to: what the library's contracts give. No program is named here. bytes.Join of four words with a blank between, by the library's contract. Contracts of the program's nothingElse.
-/
import Derived.Test.YthmihglfffeedaaGreatDoorFnRecordsG31
import Derived.Test.YthmihglfffeedaaGreatDoorFnRecordsG32
import Derived.Test.YthmihglfffeedaaGreatDoorFnRecordsG08
import Derived.Lib.SlBytesConst
import Derived.Test.YthmihglfffeedaaGreatDoorFnRecordsG03
import Derived.Test.YthmihglfffeedaaGreatDoorFnRecordsG27
import Derived.Test.YthmihglfffeedaaGreatDoorFnRecordsG00
import Derived.Test.YthmihglfffeedaaGreatDoorFnRecordsG02
import Derived.WalkKit
namespace Go.Proofs.YthmihglfffeedaaGreatDoor
open Go.RowKit
set_option linter.unusedVariables false
set_option maxHeartbeats 1000000
set_option maxRecDepth 100000

theorem appendInt_own2 {B : Nat} {v : Value} {l : List Int} (x : Int) {w : World} (h : Own B 5 w v l) (hl : l.length ≤ 1048576) (h0 : 0 ≤ x) (h1 : x ≤ 4294967295) (hB : B ≤ w.heap.size) (ht : Lib.TabBelow Tryz.prog B w "internal/strconv.uint64pow10" .u64 Lib.pow10Tab) :
  Calls Tryz.prog 30 #[v, .int .i64 x, .int .i64 10] w fun e w' => ∃ v', e = .returned v' ∧ Own B 5 w' v' (l ++ digs x) ∧ Below B w w' := by
 refine (Tryz.strconv_AppendInt_10 B l.length x (by omega) (by omega) v (l.map (Value.int .u8)) w h hB (by omega) ht).mono ?_
 rintro e w' ⟨v', rfl, o, b, _⟩
 refine ⟨v', rfl, ?_, b⟩
 rw [cells_digs x h0, itoa_digs x h0] at o
 unfold Own
 rw [List.length_append, List.map_append]
 exact o
theorem addrWords_has (a : Int) {w : World} (ht : Pow10 w) : Calls Tryz.prog 125 #[.agg #[.int .i64 a]] w fun e w' => ∃ v', e = .returned v' ∧ Own w.heap.size 5 w' v' (dotted a) ∧ Below w.heap.size w w' := by
 have b0 := UI (w := w) (.cells #[.int .i64 a] 85)
 have hP := UC (implDotted_any a (ht.below b0))
 clear ht
 generalize dotted a = G at *
 go_enter Tryz.func125, Tryz.ntmps125
 go_wp2_with fail
 refine (UB hP).mono ?_
 rintro e w1 ⟨v1, rfl, o1, b1⟩
 go_wp2_with fail
 go_ret
 exact ⟨v1, rfl, o1.mono b0.size, UG b0 b1⟩
theorem nameWords_has {a : Option Addr} {cap : Nat} {n : List (List Int)} {w : World} (h : HasL w (.slice a n.length cap) n) (ht : Pow10 w) : Calls Tryz.prog 130 #[.agg #[.slice a n.length cap]] w fun e w' => ∃ v', e = .returned v' ∧ Own w.heap.size 5 w' v' (nameText n) ∧ Below w.heap.size w w' := by
 have b0 := UI (w := w) (.cells #[.slice a n.length cap] 87)
 have hP := UC (implNameText_has (h.below b0))
 clear h ht
 generalize nameText n = G at *
 go_enter Tryz.func130, Tryz.ntmps130
 go_wp2_with fail
 refine (UB hP).mono ?_
 rintro e w1 ⟨v1, rfl, o1, b1⟩
 go_wp2_with fail
 go_ret
 exact ⟨v1, rfl, o1.mono b0.size, UG b0 b1⟩
theorem soaWords_has {a : Option Addr} {cap : Nat} {n : List (List Int)} {ia : Option Addr} {ic : Nat} {x y : Int} {w : World} (h : HasL w (.slice a n.length cap) n) (hi : HasI w (.slice ia 2 ic) [x, y]) (hx0 : 0 ≤ x) (hx1 : x ≤ 4294967295) (hy0 : 0 ≤ y) (hy1 : y ≤ 4294967295) (ht : Pow10 w) :
  Calls Tryz.prog 134 #[.agg #[.slice a n.length cap, .slice ia 2 ic]] w fun e w' => ∃ v', e = .returned v' ∧ Own w.heap.size 5 w' v' (nameText n ++ [32] ++ digs x ++ [32] ++ digs y) ∧ Below w.heap.size w w' := by
 have b0 := UI (w := w) (.cells #[.slice a n.length cap, .slice ia 2 ic] 89)
 have k0 := heap_alloc_new w (.cells #[.slice a n.length cap, .slice ia 2 ic] 89)
 have HP := UC (implNameText_has (h.below b0))
 have I0 := UC (hi.below b0)
 have HT := UC (ht.below b0)
 have l1 := nameText_length n
 have lx := digs_ten hx0 hx1
 have ly := digs_ten hy0 hy1
 clear h hi ht
 generalize nameText n = G1 at *
 obtain ⟨G2, hG2⟩ : ∃ G, G = G1 ++ [32] ++ digs x := ⟨_, rfl⟩
 obtain ⟨G3, hG3⟩ : ∃ G, G = G2 ++ [32] ++ digs y := ⟨_, rfl⟩
 have l2 : G2.length ≤ 120 := by rw [hG2]; simp only [List.length_append, List.length_cons, List.length_nil]; omega
 have e3 : G1 ++ [32] ++ digs x ++ [32] ++ digs y = G3 := by rw [hG3, hG2]
 rw [e3]
 have HG2 := UC hG2
 have HG3 := UC hG3
 clear hG2 hG3 e3
 go_enter Tryz.func134, Tryz.ntmps134
 go_wp2_with fail
 generalize w.alloc (.cells #[.slice a n.length cap, .slice ia 2 ic] 89) = W at *
 refine (UB HP).mono ?_
 rintro e w1 ⟨v1, rfl, o1, b1⟩
 have ht1 := UC (Lib.tabBelow_of_tabIs (UB HT))
 have bb1 := b1
 have k1 := UE b1 k0
 have c1 := VE k1 1
 simp only [List.getElem?_toArray, List.getElem?_cons_zero, List.getElem?_cons_succ] at c1
 have z1 := b1.size
 have z0 := b0.size
 have o1' := UC o1
 clear k0 b1 k1 o1
 go_wp2
 go_loopw [3, 12] (fun o i wr => ∃ k : Nat, k ≤ 2 ∧ i = .int .i64 k ∧ Own W.heap.size 5 wr o (if k = 0 then G1 else if k = 1 then G2 else G3) ∧ Below W.heap.size W wr) (fun _ i _ => 2 - (intOf i).toNat)
 case atStart => exact ⟨0, by omega, rfl, UB o1', bb1⟩
 case round =>
  obtain ⟨k, hk, rfl, ho, hb⟩ := hrel
  obtain ⟨g, off, cp, hv, hg, n0, n1⟩ := ((UB I0).below hb).two
  simp only [Value.slice.injEq] at hv
  obtain ⟨rfl, _, rfl⟩ := hv
  have zb := hb.size
  by_cases e0 : k = 0
  ·subst e0
   go_wp2_with (at_builtin; refine append_bytes rfl _ _ 22 5 rfl Tryz.underlying22 VJ W.heap.size u3 _ G1 [32] rfl rfl (ho.alloc _) (own_lit wr 0 5 [32] (Nat.zero_le _) (by simp [maxLen])).reads (by simp; omega) (by simp; omega) ?_)
   intro v2 w2 o2 g2
   have b2 : Below W.heap.size W w2 := (hb.alloc hb.size _).grown g2 (by simp; omega) (fun q hq => (ho.lt q hq).1)
   clear g2
   have z2 := b2.size
   go_wp2_with fail
   refine (appendInt_own2 x o2 (by simp; omega) hx0 hx1 z2 ((UB ht1).on b2)).mono ?_
   rintro e w3 ⟨v3, rfl, o3, b3⟩
   go_wp2_with fail
   exact ⟨⟨1, by omega, by go_num, (by rw [UB HG2]; exact o3), b2.trans b3⟩, by simp [intOf]⟩
  by_cases e1 : k = 1
  ·subst e1
   go_wp2_with (at_builtin; refine append_bytes rfl _ _ 22 5 rfl Tryz.underlying22 VJ W.heap.size u3 _ G2 [32] rfl rfl (ho.alloc _) (own_lit wr 0 5 [32] (Nat.zero_le _) (by simp [maxLen])).reads (by simp; omega) (by simp; omega) ?_)
   intro v2 w2 o2 g2
   have b2 : Below W.heap.size W w2 := (hb.alloc hb.size _).grown g2 (by simp; omega) (fun q hq => (ho.lt q hq).1)
   clear g2
   have z2 := b2.size
   go_wp2_with fail
   refine (appendInt_own2 y o2 (by simp; omega) hy0 hy1 z2 ((UB ht1).on b2)).mono ?_
   rintro e w3 ⟨v3, rfl, o3, b3⟩
   go_wp2_with fail
   exact ⟨⟨2, by omega, by go_num, (by rw [UB HG3]; exact o3), b2.trans b3⟩, by simp [intOf]⟩
  ·obtain rfl : k = 2 := by omega
   go_wp2_with fail
   go_ret
   exact ⟨_, rfl, ho.mono z0, UG b0 hb⟩
set_option maxHeartbeats 400000
set_option maxRecDepth 100000

theorem typeText_1 {w : World} :
  Calls Tryz.prog 32 #[.int .i64 1] w fun e w' => ∃ v', e = .returned v' ∧ Has w' v' [65] ∧ Below w.heap.size w w' := by
 have hcid := fun (C : Array Value) (n c : Nat) => Lib.run_convert_bytes_const (P := Tryz.prog) w 22 5 C n c Tryz.underlying22 Tryz.underlying5
 have HH := UC (has_const w 5 [65] (1, 2) (by simp [maxLen]))
 go_enter Tryz.func32, Tryz.ntmps32
 go_wp2
 go_ret
 exact ⟨_, rfl, UB HH, (Below.refl _ _).alloc (Nat.le_refl _) _⟩
theorem typeText_2 {w : World} :
  Calls Tryz.prog 32 #[.int .i64 2] w fun e w' => ∃ v', e = .returned v' ∧ Has w' v' [78, 83] ∧ Below w.heap.size w w' := by
 have hcid := fun (C : Array Value) (n c : Nat) => Lib.run_convert_bytes_const (P := Tryz.prog) w 22 5 C n c Tryz.underlying22 Tryz.underlying5
 have HH := UC (has_const w 5 [78, 83] (2, 3) (by simp [maxLen]))
 go_enter Tryz.func32, Tryz.ntmps32
 go_wp2
 go_ret
 exact ⟨_, rfl, UB HH, (Below.refl _ _).alloc (Nat.le_refl _) _⟩
theorem typeText_5 {w : World} :
  Calls Tryz.prog 32 #[.int .i64 5] w fun e w' => ∃ v', e = .returned v' ∧ Has w' v' [67, 78, 65, 77, 69] ∧ Below w.heap.size w w' := by
 have hcid := fun (C : Array Value) (n c : Nat) => Lib.run_convert_bytes_const (P := Tryz.prog) w 22 5 C n c Tryz.underlying22 Tryz.underlying5
 have HH := UC (has_const w 5 [67, 78, 65, 77, 69] (5, 6) (by simp [maxLen]))
 go_enter Tryz.func32, Tryz.ntmps32
 go_wp2
 go_ret
 exact ⟨_, rfl, UB HH, (Below.refl _ _).alloc (Nat.le_refl _) _⟩
theorem typeText_6 {w : World} :
  Calls Tryz.prog 32 #[.int .i64 6] w fun e w' => ∃ v', e = .returned v' ∧ Has w' v' [83, 79, 65] ∧ Below w.heap.size w w' := by
 have hcid := fun (C : Array Value) (n c : Nat) => Lib.run_convert_bytes_const (P := Tryz.prog) w 22 5 C n c Tryz.underlying22 Tryz.underlying5
 have HH := UC (has_const w 5 [83, 79, 65] (3, 4) (by simp [maxLen]))
 go_enter Tryz.func32, Tryz.ntmps32
 go_wp2
 go_ret
 exact ⟨_, rfl, UB HH, (Below.refl _ _).alloc (Nat.le_refl _) _⟩
theorem typeText_12 {w : World} :
  Calls Tryz.prog 32 #[.int .i64 12] w fun e w' => ∃ v', e = .returned v' ∧ Has w' v' [80, 84, 82] ∧ Below w.heap.size w w' := by
 have hcid := fun (C : Array Value) (n c : Nat) => Lib.run_convert_bytes_const (P := Tryz.prog) w 22 5 C n c Tryz.underlying22 Tryz.underlying5
 have HH := UC (has_const w 5 [80, 84, 82] (3, 4) (by simp [maxLen]))
 go_enter Tryz.func32, Tryz.ntmps32
 go_wp2
 go_ret
 exact ⟨_, rfl, UB HH, (Below.refl _ _).alloc (Nat.le_refl _) _⟩
theorem typeText_16 {w : World} :
  Calls Tryz.prog 32 #[.int .i64 16] w fun e w' => ∃ v', e = .returned v' ∧ Has w' v' [84, 88, 84] ∧ Below w.heap.size w w' := by
 have hcid := fun (C : Array Value) (n c : Nat) => Lib.run_convert_bytes_const (P := Tryz.prog) w 22 5 C n c Tryz.underlying22 Tryz.underlying5
 have HH := UC (has_const w 5 [84, 88, 84] (3, 4) (by simp [maxLen]))
 go_enter Tryz.func32, Tryz.ntmps32
 go_wp2
 go_ret
 exact ⟨_, rfl, UB HH, (Below.refl _ _).alloc (Nat.le_refl _) _⟩
theorem typeText_49 {w : World} :
  Calls Tryz.prog 32 #[.int .i64 49] w fun e w' => ∃ v', e = .returned v' ∧ Has w' v' [68, 72, 67, 73, 68] ∧ Below w.heap.size w w' := by
 have hcid := fun (C : Array Value) (n c : Nat) => Lib.run_convert_bytes_const (P := Tryz.prog) w 22 5 C n c Tryz.underlying22 Tryz.underlying5
 have HH := UC (has_const w 5 [68, 72, 67, 73, 68] (5, 6) (by simp [maxLen]))
 go_enter Tryz.func32, Tryz.ntmps32
 go_wp2
 go_ret
 exact ⟨_, rfl, UB HH, (Below.refl _ _).alloc (Nat.le_refl _) _⟩
theorem implTypeText_has {t : Int} {w : World} (h : typeOk t = true) :
  Calls Tryz.prog 32 #[.int .i64 t] w fun e w' => ∃ v', e = .returned v' ∧ Has w' v' (typeT t) ∧ Below w.heap.size w w' := by
 have ht : t = 1 ∨ t = 2 ∨ t = 5 ∨ t = 6 ∨ t = 12 ∨ t = 16 ∨ t = 49 := of_decide_eq_true h
 rcases ht with rfl | rfl | rfl | rfl | rfl | rfl | rfl
 ·exact typeText_1
 ·exact typeText_2
 ·exact typeText_5
 ·exact typeText_6
 ·exact typeText_12
 ·exact typeText_16
 ·exact typeText_49
def Fr (B E : Nat) (w : World) (v : Value) (l : List Int) : Prop :=
 (v = .slice none 0 0 ∧ l = []) ∨ ∃ g cap, v = .slice (some ⟨g, 0, none⟩) l.length cap ∧ B ≤ g ∧ g < E ∧ g < w.heap.size ∧ l.length ≤ cap ∧ cap ≤ maxLen ∧ ∀ i, i < l.length → w.cell? ⟨g, i, none⟩ = some (.int .u8 (l.getD i 0)) ∧ w.frozen? ⟨g, i, none⟩ = false
theorem Fr.has {B E : Nat} {w : World} {v : Value} {l : List Int} (h : Fr B E w v l) : Has w v l := by
 rcases h with h | ⟨g, cap, rfl, _, _, hg, hc, hm, hh⟩
 ·exact .inl h
 ·exact .inr ⟨g, 0, cap, rfl, hg, hc, hm, fun i hi => by rw [Nat.zero_add]; exact (hh i hi).1⟩
theorem Fr.outside {B E C D : Nat} {w w' : World} {v : Value} {l : List Int} (h : Fr B E w v l) (u : Outside C D w w') (hd : E ≤ C ∨ D ≤ B) : Fr B E w' v l := by
 rcases h with h | ⟨g, cap, rfl, hB, hE, hg, hc, hm, hh⟩
 ·exact .inl h
 ·have hk := u.block g hg (by omega)
  exact .inr ⟨g, cap, rfl, hB, hE, Nat.lt_of_lt_of_le hg u.size, hc, hm, fun i hi => by
   rw [World.cell?_of_block (a := ⟨g, i, none⟩) hk, World.frozen?_of_block (a := ⟨g, i, none⟩) hk]
   exact hh i hi⟩
theorem Fr.below {B E : Nat} {w w' : World} {v : Value} {l : List Int} (h : Fr B E w v l) (hb : Below w.heap.size w w') : Fr B E w' v l := by
 rcases h with h | ⟨g, cap, rfl, hB, hE, hg, hc, hm, hh⟩
 ·exact .inl h
 ·have hk := hb.block g hg
  exact .inr ⟨g, cap, rfl, hB, hE, Nat.lt_of_lt_of_le hg hb.size, hc, hm, fun i hi => by
   rw [World.cell?_of_block (a := ⟨g, i, none⟩) hk, World.frozen?_of_block (a := ⟨g, i, none⟩) hk]
   exact hh i hi⟩
theorem Fr.lies {B E : Nat} {w : World} {v : Value} {l : List Int} (h : Fr B E w v l) : ∃ a cap, v = .slice a l.length cap ∧ Lies w a l := by
 rcases h with ⟨rfl, rfl⟩ | ⟨g, cap, rfl, hB, hE, hg, hc, hm, hh⟩
 ·exact ⟨none, 0, rfl, .inl rfl⟩
 ·exact ⟨_, cap, rfl, .inr ⟨g, 0, rfl, hg, fun i hi => by rw [Nat.zero_add]; exact (hh i hi).1⟩⟩

theorem Fr.here {B E : Nat} {w : World} {v : Value} {l : List Int} (h : Fr B E w v l) : Fr B E w v l := h
theorem fr_nil (B E : Nat) (w : World) : Fr B E w (.slice none 0 0) [] := .inl ⟨rfl, rfl⟩
theorem Fr.of {B : Nat} {w : World} {v : Value} {l : List Int} (h : FrB B w v l) (h0 : 0 < l.length) : Fr B w.heap.size w v l := by
 obtain ⟨g, cap, rfl, hB, hc, hm, hh⟩ := h
 exact .inr ⟨g, cap, rfl, hB, cell_lt (hh 0 h0).1, cell_lt (hh 0 h0).1, hc, hm, hh⟩
theorem join4 {w : World} {g : Nat} {v1 v2 v3 v4 sv : Value} {a b c d : List Int} (k : w.heap[g]? = some (.cells #[v1, v2, v3, v4] 22)) (h1 : Has w v1 a) (h2 : Has w v2 b) (h3 : Has w v3 c) (h4 : Has w v4 d) (hs : Has w sv [32])
  (ha : Byt a) (hb : Byt b) (hc : Byt c) (hd : Byt d) (hl : a.length + b.length + c.length + d.length ≤ 1000) :
  Calls Tryz.prog 33 #[.slice (some ⟨g, 0, none⟩) 4 4, sv] w fun e w' => ∃ v', e = .returned v' ∧ Fr w.heap.size w'.heap.size w' v' (a ++ [32] ++ b ++ [32] ++ c ++ [32] ++ d) ∧ Below w.heap.size w w' := by
 have hP : Lib.PartsAt w ⟨g, 0, none⟩ [v1, v2, v3, v4] [u8s a, u8s b, u8s c, u8s d] := by
  refine ⟨rfl, fun i v hv => ?_, fun i v l hv hl => ?_⟩
  ·rw [Addr.add_lit, Nat.zero_add]
   have := VE k i
   rw [List.getElem?_toArray, hv] at this
   exact this
  ·match i, hv, hl with
   | 0, hv, hl => cases hv; cases hl; exact h1.holds ha
   | 1, hv, hl => cases hv; cases hl; exact h2.holds hb
   | 2, hv, hl => cases hv; cases hl; exact h3.holds hc
   | 3, hv, hl => cases hv; cases hl; exact h4.holds hd
   | i + 4, hv, hl => simp at hv
 have hS : Lib.HoldsBytes w sv [32] := hs.holds (l := [32]) (fun x hx => by have := List.mem_singleton.1 hx; omega)
 refine (Tryz.bytes_Join_many g 0 4 4 [v1, v2, v3, v4] [u8s a, u8s b, u8s c, u8s d] sv [32] w rfl (by omega) hP (by omega) hS (by omega) (by simp [Lib.lens, u8s_length]; omega)).mono ?_
 rintro e w' ⟨v', rfl, hf, hbw⟩
 rw [u8s_join] at hf
 have hby : Byt (a ++ [32] ++ b ++ [32] ++ c ++ [32] ++ d) := by
  have h32 : Byt [32] := fun x hx => by have := List.mem_singleton.1 hx; omega
  exact (((((ha.app h32).app hb).app h32).app hc).app h32).app hd
 exact ⟨v', rfl, Fr.of (FrB.of hby hf) (by simp only [List.length_append, List.length_cons, List.length_nil]; omega), hbw⟩
set_option maxHeartbeats 800000 in
set_option maxRecDepth 100000 in
theorem nothingElse_any {na na' ta ta' xa xa' ia ia' : Option Addr} {nl nl' nc nc' tl tl' tc tc' xl xl' xc xc' il il' ic ic' : Nat} {ty ty' tt tt' ad ad' : Int} {w : World} :
  Calls Tryz.prog 28 #[.agg #[.slice na nl nc, .int .i64 ty, .int .i64 tt, .int .i64 ad, .slice ta tl tc, .slice xa xl xc, .slice ia il ic], .agg #[.slice na' nl' nc', .int .i64 ty', .int .i64 tt', .int .i64 ad', .slice ta' tl' tc', .slice xa' xl' xc', .slice ia' il' ic']] w fun e w' => e = .returned (.bool (decide (ad = ad' ∧ tl = tl' ∧ xl = xl' ∧ il = il'))) ∧ Below w.heap.size w w' := by
 have b0 := below2 w (.cells #[.slice na nl nc, .int .i64 ty, .int .i64 tt, .int .i64 ad, .slice ta tl tc, .slice xa xl xc, .slice ia il ic] 28) (.cells #[.slice na' nl' nc', .int .i64 ty', .int .i64 tt', .int .i64 ad', .slice ta' tl' tc', .slice xa' xl' xc', .slice ia' il' ic'] 28)

 by_cases h0 : ad ≠ ad'
 ·rw [decide_eq_false (by intro hh; exact h0 hh.1)]
  have e0 : (ad == ad') = false := by rw [beq_eq_false_iff_ne]; omega
  go_enter Tryz.func28, Tryz.ntmps28
  go_wp2
  go_ret
  exact ⟨rfl, below2 _ _ _⟩
 replace h0 : ad = ad' := by omega
 have e0 : (ad == ad') = true := by rw [beq_iff_eq]; omega
 by_cases h1 : tl ≠ tl'
 ·rw [decide_eq_false (by intro hh; exact h1 hh.2.1)]
  have e1 : ((tl : Int) == (tl' : Int)) = false := by rw [beq_eq_false_iff_ne]; omega
  go_enter Tryz.func28, Tryz.ntmps28
  go_wp2
  go_ret
  exact ⟨rfl, below2 _ _ _⟩
 replace h1 : tl = tl' := by omega
 have e1 : ((tl : Int) == (tl' : Int)) = true := by rw [beq_iff_eq]; omega
 by_cases h2 : xl ≠ xl'
 ·rw [decide_eq_false (by intro hh; exact h2 hh.2.2.1)]
  have e2 : ((xl : Int) == (xl' : Int)) = false := by rw [beq_eq_false_iff_ne]; omega
  go_enter Tryz.func28, Tryz.ntmps28
  go_wp2
  go_ret
  exact ⟨rfl, below2 _ _ _⟩
 replace h2 : xl = xl' := by omega
 have e2 : ((xl : Int) == (xl' : Int)) = true := by rw [beq_iff_eq]; omega
 by_cases h3 : il ≠ il'
 ·rw [decide_eq_false (by intro hh; exact h3 hh.2.2.2)]
  have e3 : ((il : Int) == (il' : Int)) = false := by rw [beq_eq_false_iff_ne]; omega
  go_enter Tryz.func28, Tryz.ntmps28
  go_wp2
  go_ret
  exact ⟨rfl, below2 _ _ _⟩
 replace h3 : il = il' := by omega
 have e3 : ((il : Int) == (il' : Int)) = true := by rw [beq_iff_eq]; omega
 rw [decide_eq_true ⟨h0, h1, h2, h3⟩]
 clear h0 h1 h2 h3
 go_enter Tryz.func28, Tryz.ntmps28
 go_wp2
 go_ret
 exact ⟨rfl, below2 _ _ _⟩
end Go.Proofs.YthmihglfffeedaaGreatDoor
