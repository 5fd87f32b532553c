/-
  Contracts of the program's dataOf and recordOf, kind by kind. Contracts of the program's data: each kind's bytes. Contracts of the program's Put16. Plain facts: texts held against each other byte by byte, names label by label from the last one on. No program is named here.
-/
import Derived.Test.YtmnlhjdjjinbiaaGreatDropSetG12
import Derived.RegionTactic
import Derived.Test.YtmnlhjdjjinbiaaGreatDropSetG10
import Derived.Test.YtmnlhjdjjinbiaaGreatDropSetG11
import Derived.Test.YtmnlhjdjjinbiaaGreatDropSetG00
import Derived.Lib.Bytealg
import Derived.Lib.BytesEntry
namespace Go.Proofs.YtmnlhjdjjinbiaaGreat
open Go.RowKit
set_option linter.unusedVariables false

set_option maxHeartbeats 400000 in
set_option maxRecDepth 100000 in
theorem dataOf_A {na : Option Addr} {nc : Nat} {ta : Option Addr} {tc : Nat} {xa : Option Addr} {xc : Nat} {ia : Option Addr} {ic : Nat} {nm to : List (List Int)} {tx nu : List Int} {tt ad : Int} {w : World} : Calls Tryz.prog 86 #[.agg #[.slice na nm.length nc, .int .i64 1, .int .i64 tt, .int .i64 ad, .slice ta to.length tc, .slice xa tx.length xc, .slice ia nu.length ic]] w fun e w' => e = .returned (.iface 126 (.agg #[.int .i64 ad])) ∧ Below w.heap.size w w' := by
  have b0 := below_alloc (w := w) (.cells #[.slice na nm.length nc, .int .i64 1, .int .i64 tt, .int .i64 ad, .slice ta to.length tc, .slice xa tx.length xc, .slice ia nu.length ic] 42)
  have ta := ta_aa
  have tn := ta_an
  have ts := ta_as
  have tx := ta_ax
  go_enter Tryz.func86, Tryz.ntmps86
  go_wp2_with fail
  refine (kindOf_any 1 _).mono ?_
  rw [show kindV 1 = .iface 126 (.agg #[.int .i64 0]) from rfl]
  rintro e w1 ⟨rfl, rfl⟩
  go_wp2
  go_ret
  exact ⟨rfl, b0⟩

set_option maxHeartbeats 800000 in
set_option maxRecDepth 100000 in
theorem recordOf_A {na : Option Addr} {nc : Nat} {ta : Option Addr} {tc : Nat} {xa : Option Addr} {xc : Nat} {ia : Option Addr} {ic : Nat} {nm to : List (List Int)} {tx nu : List Int} {tt ad : Int} {w : World} : Calls Tryz.prog 88 #[.int .i64 1, .iface 126 (.agg #[.int .i64 ad])] w fun e w' => e = .returned (.agg #[.slice none 0 0, .int .i64 1, .int .i64 0, .int .i64 ad, .slice none 0 0, .slice none 0 0, .slice none 0 0]) ∧ Below w.heap.size w w' := by
  have ta := ta_aa
  have tn := ta_an
  have ts := ta_as
  have tx := ta_ax
  go_enter Tryz.func88, Tryz.ntmps88
  go_wp2
  go_returns
  exact ⟨rfl, by go_grown⟩

set_option maxHeartbeats 400000 in
set_option maxRecDepth 100000 in
theorem dataOf_N {na : Option Addr} {nc : Nat} {ta : Option Addr} {tc : Nat} {xa : Option Addr} {xc : Nat} {ia : Option Addr} {ic : Nat} {nm to : List (List Int)} {tx nu : List Int} {tt ad : Int} {w : World} {ty : Int} (hk : kindV ty = .iface 128 (.agg #[.slice none 0 0])) (hto : typeOk ty = true) : Calls Tryz.prog 86 #[.agg #[.slice na nm.length nc, .int .i64 ty, .int .i64 tt, .int .i64 ad, .slice ta to.length tc, .slice xa tx.length xc, .slice ia nu.length ic]] w fun e w' => e = .returned (.iface 128 (.agg #[.slice ta to.length tc])) ∧ Below w.heap.size w w' := by
  have b0 := below_alloc (w := w) (.cells #[.slice na nm.length nc, .int .i64 ty, .int .i64 tt, .int .i64 ad, .slice ta to.length tc, .slice xa tx.length xc, .slice ia nu.length ic] 42)
  have HK := hide hk
  clear hk
  have ta := ta_na
  have tn := ta_nn
  have ts := ta_ns
  have tx := ta_nx
  go_enter Tryz.func86, Tryz.ntmps86
  go_wp2_with fail
  refine (kindOf_any ty _).mono ?_
  rw [unhide HK]
  rintro e w1 ⟨rfl, rfl⟩
  go_wp2
  go_ret
  exact ⟨rfl, b0⟩

set_option maxHeartbeats 800000 in
set_option maxRecDepth 100000 in
theorem recordOf_N {na : Option Addr} {nc : Nat} {ta : Option Addr} {tc : Nat} {xa : Option Addr} {xc : Nat} {ia : Option Addr} {ic : Nat} {nm to : List (List Int)} {tx nu : List Int} {tt ad : Int} {w : World} {ty : Int} : Calls Tryz.prog 88 #[.int .i64 ty, .iface 128 (.agg #[.slice ta to.length tc])] w fun e w' => e = .returned (.agg #[.slice none 0 0, .int .i64 ty, .int .i64 0, .int .i64 0, .slice ta to.length tc, .slice none 0 0, .slice none 0 0]) ∧ Below w.heap.size w w' := by
  have ta := ta_na
  have tn := ta_nn
  have ts := ta_ns
  have tx := ta_nx
  go_enter Tryz.func88, Tryz.ntmps88
  go_wp2
  go_returns
  exact ⟨rfl, by go_grown⟩

set_option maxHeartbeats 400000 in
set_option maxRecDepth 100000 in
theorem dataOf_S {na : Option Addr} {nc : Nat} {ta : Option Addr} {tc : Nat} {xa : Option Addr} {xc : Nat} {ia : Option Addr} {ic : Nat} {nm to : List (List Int)} {tx nu : List Int} {tt ad : Int} {w : World} : Calls Tryz.prog 86 #[.agg #[.slice na nm.length nc, .int .i64 6, .int .i64 tt, .int .i64 ad, .slice ta to.length tc, .slice xa tx.length xc, .slice ia nu.length ic]] w fun e w' => e = .returned (.iface 130 (.agg #[.slice ta to.length tc, .slice ia nu.length ic])) ∧ Below w.heap.size w w' := by
  have b0 := below_alloc (w := w) (.cells #[.slice na nm.length nc, .int .i64 6, .int .i64 tt, .int .i64 ad, .slice ta to.length tc, .slice xa tx.length xc, .slice ia nu.length ic] 42)
  have ta := ta_sa
  have tn := ta_sn
  have ts := ta_ss
  have tx := ta_sx
  go_enter Tryz.func86, Tryz.ntmps86
  go_wp2_with fail
  refine (kindOf_any 6 _).mono ?_
  rw [show kindV 6 = .iface 130 (.agg #[.slice none 0 0, .slice none 0 0]) from rfl]
  rintro e w1 ⟨rfl, rfl⟩
  go_wp2
  go_ret
  exact ⟨rfl, b0⟩

set_option maxHeartbeats 800000 in
set_option maxRecDepth 100000 in
theorem recordOf_S {na : Option Addr} {nc : Nat} {ta : Option Addr} {tc : Nat} {xa : Option Addr} {xc : Nat} {ia : Option Addr} {ic : Nat} {nm to : List (List Int)} {tx nu : List Int} {tt ad : Int} {w : World} : Calls Tryz.prog 88 #[.int .i64 6, .iface 130 (.agg #[.slice ta to.length tc, .slice ia nu.length ic])] w fun e w' => e = .returned (.agg #[.slice none 0 0, .int .i64 6, .int .i64 0, .int .i64 0, .slice ta to.length tc, .slice none 0 0, .slice ia nu.length ic]) ∧ Below w.heap.size w w' := by
  have ta := ta_sa
  have tn := ta_sn
  have ts := ta_ss
  have tx := ta_sx
  go_enter Tryz.func88, Tryz.ntmps88
  go_wp2
  go_region
  all_goals go_wp2
  all_goals
    go_returns
    exact ⟨rfl, by go_grown⟩

set_option maxHeartbeats 400000 in
set_option maxRecDepth 100000 in
theorem dataOf_X {na : Option Addr} {nc : Nat} {ta : Option Addr} {tc : Nat} {xa : Option Addr} {xc : Nat} {ia : Option Addr} {ic : Nat} {nm to : List (List Int)} {tx nu : List Int} {tt ad : Int} {w : World} {ty : Int} (hk : kindV ty = .iface 132 (.agg #[.slice none 0 0])) (hto : typeOk ty = true) : Calls Tryz.prog 86 #[.agg #[.slice na nm.length nc, .int .i64 ty, .int .i64 tt, .int .i64 ad, .slice ta to.length tc, .slice xa tx.length xc, .slice ia nu.length ic]] w fun e w' => e = .returned (.iface 132 (.agg #[.slice xa tx.length xc])) ∧ Below w.heap.size w w' := by
  have b0 := below_alloc (w := w) (.cells #[.slice na nm.length nc, .int .i64 ty, .int .i64 tt, .int .i64 ad, .slice ta to.length tc, .slice xa tx.length xc, .slice ia nu.length ic] 42)
  have HK := hide hk
  clear hk
  have ta := ta_xa
  have tn := ta_xn
  have ts := ta_xs
  have tx := ta_xx
  go_enter Tryz.func86, Tryz.ntmps86
  go_wp2_with fail
  refine (kindOf_any ty _).mono ?_
  rw [unhide HK]
  rintro e w1 ⟨rfl, rfl⟩
  go_wp2
  go_ret
  exact ⟨rfl, b0⟩

set_option maxHeartbeats 800000 in
set_option maxRecDepth 100000 in
theorem recordOf_X {na : Option Addr} {nc : Nat} {ta : Option Addr} {tc : Nat} {xa : Option Addr} {xc : Nat} {ia : Option Addr} {ic : Nat} {nm to : List (List Int)} {tx nu : List Int} {tt ad : Int} {w : World} {ty : Int} : Calls Tryz.prog 88 #[.int .i64 ty, .iface 132 (.agg #[.slice xa tx.length xc])] w fun e w' => e = .returned (.agg #[.slice none 0 0, .int .i64 ty, .int .i64 0, .int .i64 0, .slice none 0 0, .slice xa tx.length xc, .slice none 0 0]) ∧ Below w.heap.size w w' := by
  have ta := ta_xa
  have tn := ta_xn
  have ts := ta_xs
  have tx := ta_xx
  go_enter Tryz.func88, Tryz.ntmps88
  go_wp2
  go_returns
  exact ⟨rfl, by go_grown⟩

end Go.Proofs.YtmnlhjdjjinbiaaGreat

namespace Go.Proofs.YtmnlhjdjjinbiaaGreat
open Go.RowKit
set_option linter.unusedVariables false

theorem own_none (B : Nat) (e : TypeId) (w : World) : Own B e w (.slice none 0 0) [] := World.ownsRow_nil _ _ _ _

set_option maxHeartbeats 400000 in
set_option maxRecDepth 100000 in
theorem addrPut_any (a : Int) (w : World) : Calls Tryz.prog 175 #[.agg #[.int .i64 a]] w fun e w' => ∃ v', e = .returned v' ∧ Own w.heap.size 5 w' v' (put32 [] a) ∧ Below w.heap.size w w' := by
  have b0 := below_alloc (w := w) (.cells #[.int .i64 a] 126)
  have hP := hide (implPut32_any (B := 0) a (own_none 0 5 (w.alloc (.cells #[.int .i64 a] 126))) (by simp))
  generalize put32 [] a = G at *
  go_enter Tryz.func175, Tryz.ntmps175
  go_wp2_with fail
  refine (unhide hP).mono ?_
  rintro e w1 ⟨v1, rfl, o1, b1⟩
  go_wp2_with fail
  go_ret
  exact ⟨v1, rfl, o1.mono b0.size, below_next b0 b1⟩

set_option maxHeartbeats 400000 in
set_option maxRecDepth 100000 in
theorem namePutM_has {a : Option Addr} {cap : Nat} {n : List (List Int)} {w : World} (h : HasL w (.slice a n.length cap) n) (hok : nameOk n = true) : Calls Tryz.prog 180 #[.agg #[.slice a n.length cap]] w fun e w' => ∃ v', e = .returned v' ∧ Own w.heap.size 5 w' v' (wire n) ∧ Below w.heap.size w w' := by
  have b0 := below_alloc (w := w) (.cells #[.slice a n.length cap] 128)
  have hP := implNamePut_has (vb := .slice none 0 0) (l := []) (.inl ⟨rfl, rfl⟩) (by simp) (h.below b0)
  rw [namePut_yes hok, List.nil_append, hok] at hP
  have HP := hide hP
  clear hP h
  generalize wire n = G at *
  go_enter Tryz.func180, Tryz.ntmps180
  go_wp2_with fail
  refine (unhide HP).mono ?_
  rintro e w1 ⟨v1, rfl, o1, b1⟩
  go_wp2_with fail
  go_ret
  exact ⟨v1, rfl, o1.mono b0.size, below_next b0 b1⟩

set_option maxHeartbeats 400000 in
set_option maxRecDepth 100000 in
theorem textPut_has {a : Option Addr} {cap : Nat} {l : List Int} {w : World} (h : Has w (.slice a l.length cap) l) (hl : l.length ≤ 40) : Calls Tryz.prog 190 #[.agg #[.slice a l.length cap]] w fun e w' => ∃ v', e = .returned v' ∧ Own w.heap.size 5 w' v' ((l.length : Int) :: l) ∧ Below w.heap.size w w' := by
  have b0 := below_alloc (w := w) (.cells #[.slice a l.length cap] 132)
  have hP := appendCounted_own (B := (w.alloc (.cells #[.slice a l.length cap] 132)).heap.size) (own_none _ 5 (w.alloc (.cells #[.slice a l.length cap] 132))) (h.below b0).at (by simp) (by omega) (Nat.le_refl _)
  rw [List.nil_append] at hP
  have HP := hide hP
  clear hP h
  generalize hG : (l.length : Int) :: l = G at *
  clear hG
  go_enter Tryz.func190, Tryz.ntmps190
  go_wp2_with fail
  refine (unhide HP).mono ?_
  rintro e w1 ⟨v1, rfl, o1, b1⟩
  go_wp2_with fail
  go_ret
  exact ⟨v1, rfl, o1.mono b0.size, below_next b0 b1⟩

set_option maxHeartbeats 1000000 in
set_option maxRecDepth 100000 in
theorem soaPut_has {a : Option Addr} {cap : Nat} {n : List (List Int)} {ia : Option Addr} {ic : Nat} {x y : Int} {w : World} (h : HasL w (.slice a n.length cap) n) (hi : HasI w (.slice ia 2 ic) [x, y]) (hok : nameOk n = true) :
    Calls Tryz.prog 186 #[.agg #[.slice a n.length cap, .slice ia 2 ic]] w fun e w' => ∃ v', e = .returned v' ∧ Own w.heap.size 5 w' v' (put32 (put32 (wire n) x) y) ∧ Below w.heap.size w w' := by
  have b0 := below_alloc (w := w) (.cells #[.slice a n.length cap, .slice ia 2 ic] 130)
  have k0 := heap_alloc_new w (.cells #[.slice a n.length cap, .slice ia 2 ic] 130)
  have hP := implNamePut_has (vb := .slice none 0 0) (l := []) (.inl ⟨rfl, rfl⟩) (by simp) (h.below b0)
  rw [namePut_yes hok, List.nil_append, hok] at hP
  have HP := hide hP
  have I0 := hide (hi.below b0)
  have hw := wire_length n hok
  have hw2 := put32_length (wire n) x
  have hQ := hide (show ∀ (w1 : World) (B : Nat) (v : Value), Own B 5 w1 v (wire n) → Calls Tryz.prog 177 #[v, .int .i64 x] w1 fun e w' => ∃ v', e = .returned v' ∧ Own w1.heap.size 5 w' v' (put32 (wire n) x) ∧ Below w1.heap.size w1 w' from fun w1 B v ho => implPut32_any x ho (by omega))
  have hR := hide (show ∀ (w1 : World) (B : Nat) (v : Value), Own B 5 w1 v (put32 (wire n) x) → Calls Tryz.prog 177 #[v, .int .i64 y] w1 fun e w' => ∃ v', e = .returned v' ∧ Own w1.heap.size 5 w' v' (put32 (put32 (wire n) x) y) ∧ Below w1.heap.size w1 w' from fun w1 B v ho => implPut32_any y ho (by omega))
  clear h hi hP hw hw2
  generalize put32 (put32 (wire n) x) y = G3 at *
  generalize put32 (wire n) x = G2 at *
  generalize wire n = G1 at *
  go_enter Tryz.func186, Tryz.ntmps186
  go_wp2_with fail
  generalize w.alloc (.cells #[.slice a n.length cap, .slice ia 2 ic] 130) = W at *
  refine (unhide HP).mono ?_
  rintro e w1 ⟨v1, rfl, o1, b1⟩
  have bb1 := below_next b0 b1
  have k1 := block_kept b1 k0
  have c1 := block_cell k1 1
  simp only [List.getElem?_toArray, List.getElem?_cons_zero, List.getElem?_cons_succ] at c1
  have I1 := hide ((unhide I0).below b1)
  have z1 := b1.size
  have z0 := b0.size
  clear k0 b1 I0 k1
  go_wp2
  go_loopw [3, 16] (fun o i wr => ∃ k : Nat, k ≤ 2 ∧ i = .int .i64 k ∧ Own w.heap.size 5 wr o (if k = 0 then G1 else if k = 1 then G2 else G3) ∧ Below w1.heap.size w1 wr) (fun _ i _ => 2 - (intOf i).toNat)
  case atStart => exact ⟨0, by omega, rfl, o1.mono z0, Below.refl _ _⟩
  case round =>
    obtain ⟨k, hk, rfl, ho, hb⟩ := hrel
    obtain ⟨g, off, cp, hv, hg, n0, n1⟩ := ((unhide I1).below hb).two
    simp only [Value.slice.injEq] at hv
    obtain ⟨rfl, _, rfl⟩ := hv
    have zb := hb.size
    by_cases e0 : k = 0
    · subst e0
      go_wp2_with fail
      refine (unhide hQ _ _ _ ho).mono ?_
      rintro e w2 ⟨v2, rfl, o2, b2⟩
      go_wp2_with fail
      exact ⟨⟨1, by omega, by go_num, o2.mono (by omega), below_next hb b2⟩, by simp [intOf]⟩
    by_cases e1 : k = 1
    · subst e1
      go_wp2_with fail
      refine (unhide hR _ _ _ ho).mono ?_
      rintro e w2 ⟨v2, rfl, o2, b2⟩
      go_wp2_with fail
      exact ⟨⟨2, by omega, by go_num, o2.mono (by omega), below_next hb b2⟩, by simp [intOf]⟩
    · obtain rfl : k = 2 := by omega
      go_wp2_with fail
      go_ret
      exact ⟨_, rfl, ho, below_next bb1 hb⟩
end Go.Proofs.YtmnlhjdjjinbiaaGreat

namespace Go.Proofs.YtmnlhjdjjinbiaaGreat
open Go.RowKit
set_option linter.unusedVariables false

set_option maxHeartbeats 800000 in
set_option maxRecDepth 100000 in
theorem implPut16_yes {B : Nat} {v : Value} {l : List Int} (n : Int) {w : World} (h : Own B 5 w v l) (hl : l.length ≤ 1048576) (h0 : 0 ≤ n) (h1 : n ≤ 65535) :
    Calls Tryz.prog 124 #[v, .int .i64 n] w fun e w' => ∃ v', e = .returned v' ∧ Own w.heap.size 5 w' v' (l ++ [n / 256, n % 256]) ∧ Below w.heap.size w w' := by
  go_enter Tryz.func124, Tryz.ntmps124
  go_wp2_with fail
  refine (upTo_yes _ h0 h1).mono ?_
  rintro e w0 ⟨rfl, rfl⟩
  go_wp2_with fail
  refine (copyBytes_own h (by omega)).mono ?_
  rintro e w1 ⟨v1, rfl, o1, b1⟩
  have hsz := b1.size
  go_wp2_with (at_builtin; refine append_bytes rfl _ _ 28 5 rfl Tryz.underlying28 info_u8 w.heap.size v1 _ l [n / 256, n % 256] rfl rfl (o1.alloc _) (own_put16 w1 0 5 n (Nat.zero_le _)).reads (by simp; omega) (by simp; omega) ?_)
  intro v' w2 hown hgrow
  go_wp2
  go_ret
  exact ⟨v', rfl, hown, (b1.alloc hsz _).grown hgrow (by simp; omega) (fun k hk => (o1.lt k hk).1)⟩

set_option maxHeartbeats 400000 in
set_option maxRecDepth 100000 in
theorem implPut16_no {B : Nat} {v : Value} {l : List Int} (n : Int) {w : World} (h : Own B 5 w v l) (hl : l.length ≤ 1048576) (hn : n < 0 ∨ 65535 < n) :
    Calls Tryz.prog 124 #[v, .int .i64 n] w fun e w' => ∃ v', e = .returned v' ∧ Own w.heap.size 5 w' v' l ∧ Below w.heap.size w w' := by
  go_enter Tryz.func124, Tryz.ntmps124
  go_wp2_with fail
  refine (upTo_no _ hn).mono ?_
  rintro e w0 ⟨rfl, rfl⟩
  go_wp2_with fail
  refine (copyBytes_own h (by omega)).mono ?_
  rintro e w1 ⟨v1, rfl, o1, b1⟩
  go_wp2
  go_ret
  exact ⟨v1, rfl, o1, b1⟩

theorem implPut16_any {B : Nat} {v : Value} {l : List Int} (n : Int) {w : World} (h : Own B 5 w v l) (hl : l.length ≤ 1048576) :
    Calls Tryz.prog 124 #[v, .int .i64 n] w fun e w' => ∃ v', e = .returned v' ∧ Own w.heap.size 5 w' v' (put16 l n) ∧ Below w.heap.size w w' := by
  by_cases hn : 0 ≤ n ∧ n ≤ 65535
  · have e : put16 l n = l ++ [n / 256, n % 256] := by unfold put16; rw [if_pos hn]
    rw [e]; exact implPut16_yes n h hl hn.1 hn.2
  · have e : put16 l n = l := by unfold put16; rw [if_neg hn]
    rw [e]; exact implPut16_no n h hl (by omega)
end Go.Proofs.YtmnlhjdjjinbiaaGreat

namespace Go.Proofs.YtmnlhjdjjinbiaaGreat
open Go.RowKit

/-- Two texts held against each other: -1, 0, 1. -/
def cmpB (a b : List Int) : Int := Lib.compareBytes (strOfNums a).data.toList (strOfNums b).data.toList

theorem compare_less : ∀ (a b : List UInt8), Op.bytesLess a b = decide (Lib.compareBytes a b = -1)
  | [], [] => rfl
  | [], _ :: _ => rfl
  | _ :: _, [] => rfl
  | x :: a, y :: b => by
    have ih := compare_less a b
    unfold Op.bytesLess Lib.compareBytes
    by_cases h1 : x < y
    · simp [h1]
    · by_cases h2 : y < x
      · have : (x == y) = false := by
          apply beq_eq_false_iff_ne.2
          intro e; subst e; exact UInt8.lt_irrefl x h2
        simp [h1, h2, this]
      · have e : x = y := UInt8.le_antisymm (UInt8.not_lt.1 h2) (UInt8.not_lt.1 h1)
        subst e
        simp [h1, ih]

theorem compare_zero : ∀ (a b : List UInt8), (a == b) = decide (Lib.compareBytes a b = 0)
  | [], [] => rfl
  | [], _ :: _ => rfl
  | _ :: _, [] => rfl
  | x :: a, y :: b => by
    have ih := compare_zero a b
    unfold Lib.compareBytes
    rw [List.cons_beq_cons]
    by_cases h1 : x < y
    · have : (x == y) = false := by
        apply beq_eq_false_iff_ne.2
        intro e; subst e; exact UInt8.lt_irrefl x h1
      simp [h1, this]
    · by_cases h2 : y < x
      · have : (x == y) = false := by
          apply beq_eq_false_iff_ne.2
          intro e; subst e; exact UInt8.lt_irrefl x h2
        simp [h1, h2, this]
      · have e : x = y := UInt8.le_antisymm (UInt8.not_lt.1 h2) (UInt8.not_lt.1 h1)
        subst e
        simp only [h1, if_false, beq_self_eq_true, Bool.true_and]
        exact ih

theorem compare_cases : ∀ (a b : List UInt8), Lib.compareBytes a b = -1 ∨ Lib.compareBytes a b = 0 ∨ Lib.compareBytes a b = 1
  | [], [] => .inr (.inl rfl)
  | [], _ :: _ => .inl rfl
  | _ :: _, [] => .inr (.inr rfl)
  | x :: a, y :: b => by
    unfold Lib.compareBytes
    split
    · exact .inl rfl
    · split
      · exact .inr (.inr rfl)
      · exact compare_cases a b

theorem str_less (a b : List Int) : Op.bytesLess (strOfNums a).toList (strOfNums b).toList = decide (cmpB a b = -1) := by
  rw [ByteArray.toList_eq, ByteArray.toList_eq, compare_less]; rfl
theorem str_same (a b : List Int) : ((strOfNums a).toList == (strOfNums b).toList) = decide (cmpB a b = 0) := by
  rw [ByteArray.toList_eq, ByteArray.toList_eq, compare_zero]; rfl
theorem cmpB_cases (a b : List Int) : cmpB a b = -1 ∨ cmpB a b = 0 ∨ cmpB a b = 1 := compare_cases _ _

theorem run_bytesOf_has {P : Program} {w : World} {v : Value} {l : List Int} (h : Has w v l) : (Extern.Bytes.bytesOf v).run P w = .ok (strOfNums l) w := by
  rcases h with ⟨rfl, rfl⟩ | ⟨g, off, cap, rfl, _, _, _, hc⟩
  · rfl
  · have hl := Lib.run_loadBytesX (P := P) w l ⟨g, off, none⟩ .empty (fun j x hj => by
      have hjl : j < l.length := (List.getElem?_eq_some_iff.1 hj).1
      rw [Addr.add_lit, hc j hjl]
      simp [hj])
    show (Extern.Bytes.loadBytes ⟨g, off, none⟩ l.length .empty).run P w = _
    rw [hl]
    congr 1
    simp [strOfNums, Lib.bytesOf, ByteArray.empty, ByteArray.emptyWithCapacity]
    rfl

theorem run_compare_has {P : Program} {w : World} {v v' : Value} {l l' : List Int} (h : Has w v l) (h' : Has w v' l') :
    (Extern.BytealgCompare.compare #[v, v']).run P w = .ok (.int .i64 (cmpB l l')) w := by
  change Sem.run P (do pure (goInt (Extern.BytealgCompare.cmp (← Extern.Bytes.bytesOf v) (← Extern.Bytes.bytesOf v')))) w = _
  simp only [Sem.run_bind, run_bytesOf_has h, run_bytesOf_has h', Sem.run_pure, Result.andThen]
  rw [Lib.cmp_eq]
  rfl

/-- The labels that stand i places ahead of both ends. -/
def atEnd (a b : List (List Int)) (i : Nat) : Int := cmpB (a.getD (a.length - i) []) (b.getD (b.length - i) [])

theorem atEnd_eq (a b : List (List Int)) (i : Nat) : atEnd a b i = cmpB (a.getD (a.length - i) []) (b.getD (b.length - i) []) := rfl

/-- -1, 0, 1: by how many labels. -/
def byLength (x y : Int) : Int := if x < y then -1 else if y < x then 1 else 0

/-- Two names held against each other. -/
def cmpN (a b : List (List Int)) : Int :=
  match (List.range (min a.length b.length)).find? (fun j => atEnd a b (j + 1) != 0) with
  | some j => atEnd a b (j + 1)
  | none => byLength a.length b.length

theorem cmpN_hit {a b : List (List Int)} {k : Nat} (h1 : 1 ≤ k) (h2 : k ≤ a.length) (h3 : k ≤ b.length) (hz : ∀ j, 1 ≤ j → j < k → atEnd a b j = 0) (hk : atEnd a b k ≠ 0) : cmpN a b = atEnd a b k := by
  have : (List.range (min a.length b.length)).find? (fun j => atEnd a b (j + 1) != 0) = some (k - 1) := by
    rw [List.find?_range_eq_some]
    refine ⟨by rw [Nat.sub_add_cancel h1]; simpa using hk, by simp; omega, fun j hj => ?_⟩
    have := hz (j + 1) (by omega) (by omega)
    simp [this]
  unfold cmpN
  rw [this]
  show atEnd a b (k - 1 + 1) = _
  rw [Nat.sub_add_cancel h1]

theorem cmpN_none {a b : List (List Int)} {k : Nat} (hk : a.length < k ∨ b.length < k) (hz : ∀ j, 1 ≤ j → j < k → atEnd a b j = 0) : cmpN a b = byLength a.length b.length := by
  have : (List.range (min a.length b.length)).find? (fun j => atEnd a b (j + 1) != 0) = none := by
    rw [List.find?_range_eq_none]
    intro j hj
    have := hz (j + 1) (by omega) (by omega)
    simp [this]
  unfold cmpN
  rw [this]

/-- Two names held against each other; 0 where one is none. -/
def nameCmp (a b : List (List Int)) : Int := if nameOk a = true ∧ nameOk b = true then cmpN a b else 0
end Go.Proofs.YtmnlhjdjjinbiaaGreat
