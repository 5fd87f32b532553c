/-
  What an assertion on the program's data answers. Contracts of the program's dataOf and recordOf, kind by kind. Contracts of the program's data: each kind's bytes. Contracts of the program's Put16.
-/
import Derived.Test.YtfgcmjpkgdjcfaaGreatDropSetG12
import Derived.RegionTactic
import Derived.Test.YtfgcmjpkgdjcfaaGreatDropSetG10
import Derived.Test.YtfgcmjpkgdjcfaaGreatDropSetG11
namespace Go.Proofs.YtfgcmjpkgdjcfaaGreat
open Go.RowKit
set_option linter.unusedVariables false

theorem ta_aa (v : Value) (w : World) : Sem.run Tryz.prog (Instr.typeAssert (.iface 144 v) 118 144 true) w = .ok (.tuple #[v, .bool true]) w := by kernel_rfl
theorem ta_an (v : Value) (w : World) : Sem.run Tryz.prog (Instr.typeAssert (.iface 144 v) 118 146 true) w = .ok (.tuple #[.agg #[.slice none 0 0], .bool false]) w := by kernel_rfl
theorem ta_as (v : Value) (w : World) : Sem.run Tryz.prog (Instr.typeAssert (.iface 144 v) 118 148 true) w = .ok (.tuple #[.agg #[.slice none 0 0, .slice none 0 0], .bool false]) w := by kernel_rfl
theorem ta_ax (v : Value) (w : World) : Sem.run Tryz.prog (Instr.typeAssert (.iface 144 v) 118 150 true) w = .ok (.tuple #[.agg #[.slice none 0 0], .bool false]) w := by kernel_rfl
theorem ta_na (v : Value) (w : World) : Sem.run Tryz.prog (Instr.typeAssert (.iface 146 v) 118 144 true) w = .ok (.tuple #[.agg #[.int .i64 0], .bool false]) w := by kernel_rfl
theorem ta_nn (v : Value) (w : World) : Sem.run Tryz.prog (Instr.typeAssert (.iface 146 v) 118 146 true) w = .ok (.tuple #[v, .bool true]) w := by kernel_rfl
theorem ta_ns (v : Value) (w : World) : Sem.run Tryz.prog (Instr.typeAssert (.iface 146 v) 118 148 true) w = .ok (.tuple #[.agg #[.slice none 0 0, .slice none 0 0], .bool false]) w := by kernel_rfl
theorem ta_nx (v : Value) (w : World) : Sem.run Tryz.prog (Instr.typeAssert (.iface 146 v) 118 150 true) w = .ok (.tuple #[.agg #[.slice none 0 0], .bool false]) w := by kernel_rfl
theorem ta_sa (v : Value) (w : World) : Sem.run Tryz.prog (Instr.typeAssert (.iface 148 v) 118 144 true) w = .ok (.tuple #[.agg #[.int .i64 0], .bool false]) w := by kernel_rfl
theorem ta_sn (v : Value) (w : World) : Sem.run Tryz.prog (Instr.typeAssert (.iface 148 v) 118 146 true) w = .ok (.tuple #[.agg #[.slice none 0 0], .bool false]) w := by kernel_rfl
theorem ta_ss (v : Value) (w : World) : Sem.run Tryz.prog (Instr.typeAssert (.iface 148 v) 118 148 true) w = .ok (.tuple #[v, .bool true]) w := by kernel_rfl
theorem ta_sx (v : Value) (w : World) : Sem.run Tryz.prog (Instr.typeAssert (.iface 148 v) 118 150 true) w = .ok (.tuple #[.agg #[.slice none 0 0], .bool false]) w := by kernel_rfl
theorem ta_xa (v : Value) (w : World) : Sem.run Tryz.prog (Instr.typeAssert (.iface 150 v) 118 144 true) w = .ok (.tuple #[.agg #[.int .i64 0], .bool false]) w := by kernel_rfl
theorem ta_xn (v : Value) (w : World) : Sem.run Tryz.prog (Instr.typeAssert (.iface 150 v) 118 146 true) w = .ok (.tuple #[.agg #[.slice none 0 0], .bool false]) w := by kernel_rfl
theorem ta_xs (v : Value) (w : World) : Sem.run Tryz.prog (Instr.typeAssert (.iface 150 v) 118 148 true) w = .ok (.tuple #[.agg #[.slice none 0 0, .slice none 0 0], .bool false]) w := by kernel_rfl
theorem ta_xx (v : Value) (w : World) : Sem.run Tryz.prog (Instr.typeAssert (.iface 150 v) 118 150 true) w = .ok (.tuple #[v, .bool true]) w := by kernel_rfl
end Go.Proofs.YtfgcmjpkgdjcfaaGreat

namespace Go.Proofs.YtfgcmjpkgdjcfaaGreat
open Go.RowKit
set_option linter.unusedVariables false

set_option maxHeartbeats 400000 in
set_option maxRecDepth 100000 in
theorem dataOf_A {na : Option Addr} {nc : Nat} {ta : Option Addr} {tc : Nat} {xa : Option Addr} {xc : Nat} {ia : Option Addr} {ic : Nat} {nm to : List (List Int)} {tx nu : List Int} {tt ad : Int} {w : World} : Calls Tryz.prog 108 #[.agg #[.slice na nm.length nc, .int .i64 1, .int .i64 tt, .int .i64 ad, .slice ta to.length tc, .slice xa tx.length xc, .slice ia nu.length ic]] w fun e w' => e = .returned (.iface 144 (.agg #[.int .i64 ad])) ∧ Below w.heap.size w w' := by
 have b0 := below_alloc (w := w) (.cells #[.slice na nm.length nc, .int .i64 1, .int .i64 tt, .int .i64 ad, .slice ta to.length tc, .slice xa tx.length xc, .slice ia nu.length ic] 59)
 have ta := ta_aa
 have tn := ta_an
 have ts := ta_as
 have tx := ta_ax
 go_enter Tryz.func108, Tryz.ntmps108
 go_wp2_with fail
 refine (kindOf_any 1 _).mono ?_
 rw [show kindV 1 = .iface 144 (.agg #[.int .i64 0]) from rfl]
 rintro e w1 ⟨rfl, rfl⟩
 go_wp2
 go_ret
 exact ⟨rfl, b0⟩

set_option maxHeartbeats 800000 in
set_option maxRecDepth 100000 in
theorem recordOf_A {na : Option Addr} {nc : Nat} {ta : Option Addr} {tc : Nat} {xa : Option Addr} {xc : Nat} {ia : Option Addr} {ic : Nat} {nm to : List (List Int)} {tx nu : List Int} {tt ad : Int} {w : World} : Calls Tryz.prog 122 #[.int .i64 1, .iface 144 (.agg #[.int .i64 ad])] w fun e w' => e = .returned (.agg #[.slice none 0 0, .int .i64 1, .int .i64 0, .int .i64 ad, .slice none 0 0, .slice none 0 0, .slice none 0 0]) ∧ Below w.heap.size w w' := by
 have ta := ta_aa
 have tn := ta_an
 have ts := ta_as
 have tx := ta_ax
 go_enter Tryz.func122, Tryz.ntmps122
 go_wp2
 go_returns
 exact ⟨rfl, by go_grown⟩

set_option maxHeartbeats 400000 in
set_option maxRecDepth 100000 in
theorem dataOf_N {na : Option Addr} {nc : Nat} {ta : Option Addr} {tc : Nat} {xa : Option Addr} {xc : Nat} {ia : Option Addr} {ic : Nat} {nm to : List (List Int)} {tx nu : List Int} {tt ad : Int} {w : World} {ty : Int} (hk : kindV ty = .iface 146 (.agg #[.slice none 0 0])) (hto : typeOk ty = true) : Calls Tryz.prog 108 #[.agg #[.slice na nm.length nc, .int .i64 ty, .int .i64 tt, .int .i64 ad, .slice ta to.length tc, .slice xa tx.length xc, .slice ia nu.length ic]] w fun e w' => e = .returned (.iface 146 (.agg #[.slice ta to.length tc])) ∧ Below w.heap.size w w' := by
 have b0 := below_alloc (w := w) (.cells #[.slice na nm.length nc, .int .i64 ty, .int .i64 tt, .int .i64 ad, .slice ta to.length tc, .slice xa tx.length xc, .slice ia nu.length ic] 59)
 have HK := hide hk
 clear hk
 have ta := ta_na
 have tn := ta_nn
 have ts := ta_ns
 have tx := ta_nx
 go_enter Tryz.func108, Tryz.ntmps108
 go_wp2_with fail
 refine (kindOf_any ty _).mono ?_
 rw [unhide HK]
 rintro e w1 ⟨rfl, rfl⟩
 go_wp2
 go_ret
 exact ⟨rfl, b0⟩

set_option maxHeartbeats 800000 in
set_option maxRecDepth 100000 in
theorem recordOf_N {na : Option Addr} {nc : Nat} {ta : Option Addr} {tc : Nat} {xa : Option Addr} {xc : Nat} {ia : Option Addr} {ic : Nat} {nm to : List (List Int)} {tx nu : List Int} {tt ad : Int} {w : World} {ty : Int} : Calls Tryz.prog 122 #[.int .i64 ty, .iface 146 (.agg #[.slice ta to.length tc])] w fun e w' => e = .returned (.agg #[.slice none 0 0, .int .i64 ty, .int .i64 0, .int .i64 0, .slice ta to.length tc, .slice none 0 0, .slice none 0 0]) ∧ Below w.heap.size w w' := by
 have ta := ta_na
 have tn := ta_nn
 have ts := ta_ns
 have tx := ta_nx
 go_enter Tryz.func122, Tryz.ntmps122
 go_wp2
 go_returns
 exact ⟨rfl, by go_grown⟩

set_option maxHeartbeats 400000 in
set_option maxRecDepth 100000 in
theorem dataOf_S {na : Option Addr} {nc : Nat} {ta : Option Addr} {tc : Nat} {xa : Option Addr} {xc : Nat} {ia : Option Addr} {ic : Nat} {nm to : List (List Int)} {tx nu : List Int} {tt ad : Int} {w : World} : Calls Tryz.prog 108 #[.agg #[.slice na nm.length nc, .int .i64 6, .int .i64 tt, .int .i64 ad, .slice ta to.length tc, .slice xa tx.length xc, .slice ia nu.length ic]] w fun e w' => e = .returned (.iface 148 (.agg #[.slice ta to.length tc, .slice ia nu.length ic])) ∧ Below w.heap.size w w' := by
 have b0 := below_alloc (w := w) (.cells #[.slice na nm.length nc, .int .i64 6, .int .i64 tt, .int .i64 ad, .slice ta to.length tc, .slice xa tx.length xc, .slice ia nu.length ic] 59)
 have ta := ta_sa
 have tn := ta_sn
 have ts := ta_ss
 have tx := ta_sx
 go_enter Tryz.func108, Tryz.ntmps108
 go_wp2_with fail
 refine (kindOf_any 6 _).mono ?_
 rw [show kindV 6 = .iface 148 (.agg #[.slice none 0 0, .slice none 0 0]) from rfl]
 rintro e w1 ⟨rfl, rfl⟩
 go_wp2
 go_ret
 exact ⟨rfl, b0⟩

set_option maxHeartbeats 800000 in
set_option maxRecDepth 100000 in
theorem recordOf_S {na : Option Addr} {nc : Nat} {ta : Option Addr} {tc : Nat} {xa : Option Addr} {xc : Nat} {ia : Option Addr} {ic : Nat} {nm to : List (List Int)} {tx nu : List Int} {tt ad : Int} {w : World} : Calls Tryz.prog 122 #[.int .i64 6, .iface 148 (.agg #[.slice ta to.length tc, .slice ia nu.length ic])] w fun e w' => e = .returned (.agg #[.slice none 0 0, .int .i64 6, .int .i64 0, .int .i64 0, .slice ta to.length tc, .slice none 0 0, .slice ia nu.length ic]) ∧ Below w.heap.size w w' := by
 have ta := ta_sa
 have tn := ta_sn
 have ts := ta_ss
 have tx := ta_sx
 go_enter Tryz.func122, Tryz.ntmps122
 go_wp2
 go_region
 all_goals go_wp2
 all_goals
  go_returns
  exact ⟨rfl, by go_grown⟩

set_option maxHeartbeats 400000 in
set_option maxRecDepth 100000 in
theorem dataOf_X {na : Option Addr} {nc : Nat} {ta : Option Addr} {tc : Nat} {xa : Option Addr} {xc : Nat} {ia : Option Addr} {ic : Nat} {nm to : List (List Int)} {tx nu : List Int} {tt ad : Int} {w : World} {ty : Int} (hk : kindV ty = .iface 150 (.agg #[.slice none 0 0])) (hto : typeOk ty = true) : Calls Tryz.prog 108 #[.agg #[.slice na nm.length nc, .int .i64 ty, .int .i64 tt, .int .i64 ad, .slice ta to.length tc, .slice xa tx.length xc, .slice ia nu.length ic]] w fun e w' => e = .returned (.iface 150 (.agg #[.slice xa tx.length xc])) ∧ Below w.heap.size w w' := by
 have b0 := below_alloc (w := w) (.cells #[.slice na nm.length nc, .int .i64 ty, .int .i64 tt, .int .i64 ad, .slice ta to.length tc, .slice xa tx.length xc, .slice ia nu.length ic] 59)
 have HK := hide hk
 clear hk
 have ta := ta_xa
 have tn := ta_xn
 have ts := ta_xs
 have tx := ta_xx
 go_enter Tryz.func108, Tryz.ntmps108
 go_wp2_with fail
 refine (kindOf_any ty _).mono ?_
 rw [unhide HK]
 rintro e w1 ⟨rfl, rfl⟩
 go_wp2
 go_ret
 exact ⟨rfl, b0⟩

set_option maxHeartbeats 800000 in
set_option maxRecDepth 100000 in
theorem recordOf_X {na : Option Addr} {nc : Nat} {ta : Option Addr} {tc : Nat} {xa : Option Addr} {xc : Nat} {ia : Option Addr} {ic : Nat} {nm to : List (List Int)} {tx nu : List Int} {tt ad : Int} {w : World} {ty : Int} : Calls Tryz.prog 122 #[.int .i64 ty, .iface 150 (.agg #[.slice xa tx.length xc])] w fun e w' => e = .returned (.agg #[.slice none 0 0, .int .i64 ty, .int .i64 0, .int .i64 0, .slice none 0 0, .slice xa tx.length xc, .slice none 0 0]) ∧ Below w.heap.size w w' := by
 have ta := ta_xa
 have tn := ta_xn
 have ts := ta_xs
 have tx := ta_xx
 go_enter Tryz.func122, Tryz.ntmps122
 go_wp2
 go_returns
 exact ⟨rfl, by go_grown⟩

end Go.Proofs.YtfgcmjpkgdjcfaaGreat

namespace Go.Proofs.YtfgcmjpkgdjcfaaGreat
open Go.RowKit
set_option linter.unusedVariables false

theorem own_none (B : Nat) (e : TypeId) (w : World) : Own B e w (.slice none 0 0) [] := World.ownsRow_nil _ _ _ _

set_option maxHeartbeats 400000 in
set_option maxRecDepth 100000 in
theorem addrPut_any (a : Int) (w : World) : Calls Tryz.prog 185 #[.agg #[.int .i64 a]] w fun e w' => ∃ v', e = .returned v' ∧ Own w.heap.size 5 w' v' (put32 [] a) ∧ Below w.heap.size w w' := by
 have b0 := below_alloc (w := w) (.cells #[.int .i64 a] 144)
 have hP := hide (implPut32_any (B := 0) a (own_none 0 5 (w.alloc (.cells #[.int .i64 a] 144))) (by simp))
 generalize put32 [] a = G at *
 go_enter Tryz.func185, Tryz.ntmps185
 go_wp2_with fail
 refine (unhide hP).mono ?_
 rintro e w1 ⟨v1, rfl, o1, b1⟩
 go_wp2_with fail
 go_ret
 exact ⟨v1, rfl, o1.mono b0.size, below_next b0 b1⟩

set_option maxHeartbeats 400000 in
set_option maxRecDepth 100000 in
theorem namePutM_has {a : Option Addr} {cap : Nat} {n : List (List Int)} {w : World} (h : HasL w (.slice a n.length cap) n) (hok : nameOk n = true) : Calls Tryz.prog 190 #[.agg #[.slice a n.length cap]] w fun e w' => ∃ v', e = .returned v' ∧ Own w.heap.size 5 w' v' (wire n) ∧ Below w.heap.size w w' := by
 have b0 := below_alloc (w := w) (.cells #[.slice a n.length cap] 146)
 have hP := implNamePut_has (vb := .slice none 0 0) (l := []) (.inl ⟨rfl, rfl⟩) (by simp) (h.below b0)
 rw [namePut_yes hok, List.nil_append, hok] at hP
 have HP := hide hP
 clear hP h
 generalize wire n = G at *
 go_enter Tryz.func190, Tryz.ntmps190
 go_wp2_with fail
 refine (unhide HP).mono ?_
 rintro e w1 ⟨v1, rfl, o1, b1⟩
 go_wp2_with fail
 go_ret
 exact ⟨v1, rfl, o1.mono b0.size, below_next b0 b1⟩

set_option maxHeartbeats 400000 in
set_option maxRecDepth 100000 in
theorem textPut_has {a : Option Addr} {cap : Nat} {l : List Int} {w : World} (h : Has w (.slice a l.length cap) l) (hl : l.length ≤ 40) : Calls Tryz.prog 200 #[.agg #[.slice a l.length cap]] w fun e w' => ∃ v', e = .returned v' ∧ Own w.heap.size 5 w' v' ((l.length : Int) :: l) ∧ Below w.heap.size w w' := by
 have b0 := below_alloc (w := w) (.cells #[.slice a l.length cap] 150)
 have hP := appendCounted_own (B := (w.alloc (.cells #[.slice a l.length cap] 150)).heap.size) (own_none _ 5 (w.alloc (.cells #[.slice a l.length cap] 150))) (h.below b0).at (by simp) (by omega) (Nat.le_refl _)
 rw [List.nil_append] at hP
 have HP := hide hP
 clear hP h
 generalize hG : (l.length : Int) :: l = G at *
 clear hG
 go_enter Tryz.func200, Tryz.ntmps200
 go_wp2_with fail
 refine (unhide HP).mono ?_
 rintro e w1 ⟨v1, rfl, o1, b1⟩
 go_wp2_with fail
 go_ret
 exact ⟨v1, rfl, o1.mono b0.size, below_next b0 b1⟩

set_option maxHeartbeats 1000000 in
set_option maxRecDepth 100000 in
theorem soaPut_has {a : Option Addr} {cap : Nat} {n : List (List Int)} {ia : Option Addr} {ic : Nat} {x y : Int} {w : World} (h : HasL w (.slice a n.length cap) n) (hi : HasI w (.slice ia 2 ic) [x, y]) (hok : nameOk n = true) :
  Calls Tryz.prog 196 #[.agg #[.slice a n.length cap, .slice ia 2 ic]] w fun e w' => ∃ v', e = .returned v' ∧ Own w.heap.size 5 w' v' (put32 (put32 (wire n) x) y) ∧ Below w.heap.size w w' := by
 have b0 := below_alloc (w := w) (.cells #[.slice a n.length cap, .slice ia 2 ic] 148)
 have k0 := heap_alloc_new w (.cells #[.slice a n.length cap, .slice ia 2 ic] 148)
 have hP := implNamePut_has (vb := .slice none 0 0) (l := []) (.inl ⟨rfl, rfl⟩) (by simp) (h.below b0)
 rw [namePut_yes hok, List.nil_append, hok] at hP
 have HP := hide hP
 have I0 := hide (hi.below b0)
 have hw := wire_length n hok
 have hw2 := put32_length (wire n) x
 have hQ := hide (show ∀ (w1 : World) (B : Nat) (v : Value), Own B 5 w1 v (wire n) → Calls Tryz.prog 187 #[v, .int .i64 x] w1 fun e w' => ∃ v', e = .returned v' ∧ Own w1.heap.size 5 w' v' (put32 (wire n) x) ∧ Below w1.heap.size w1 w' from fun w1 B v ho => implPut32_any x ho (by omega))
 have hR := hide (show ∀ (w1 : World) (B : Nat) (v : Value), Own B 5 w1 v (put32 (wire n) x) → Calls Tryz.prog 187 #[v, .int .i64 y] w1 fun e w' => ∃ v', e = .returned v' ∧ Own w1.heap.size 5 w' v' (put32 (put32 (wire n) x) y) ∧ Below w1.heap.size w1 w' from fun w1 B v ho => implPut32_any y ho (by omega))
 clear h hi hP hw hw2
 generalize put32 (put32 (wire n) x) y = G3 at *
 generalize put32 (wire n) x = G2 at *
 generalize wire n = G1 at *
 go_enter Tryz.func196, Tryz.ntmps196
 go_wp2_with fail
 generalize w.alloc (.cells #[.slice a n.length cap, .slice ia 2 ic] 148) = W at *
 refine (unhide HP).mono ?_
 rintro e w1 ⟨v1, rfl, o1, b1⟩
 have bb1 := below_next b0 b1
 have k1 := block_kept b1 k0
 have c1 := block_cell k1 1
 simp only [List.getElem?_toArray, List.getElem?_cons_zero, List.getElem?_cons_succ] at c1
 have I1 := hide ((unhide I0).below b1)
 have z1 := b1.size
 have z0 := b0.size
 clear k0 b1 I0 k1
 go_wp2
 go_loopw [3, 16] (fun o i wr => ∃ k : Nat, k ≤ 2 ∧ i = .int .i64 k ∧ Own w.heap.size 5 wr o (if k = 0 then G1 else if k = 1 then G2 else G3) ∧ Below w1.heap.size w1 wr) (fun _ i _ => 2 - (intOf i).toNat)
 case atStart => exact ⟨0, by omega, rfl, o1.mono z0, Below.refl _ _⟩
 case round =>
  obtain ⟨k, hk, rfl, ho, hb⟩ := hrel
  obtain ⟨g, off, cp, hv, hg, n0, n1⟩ := ((unhide I1).below hb).two
  simp only [Value.slice.injEq] at hv
  obtain ⟨rfl, _, rfl⟩ := hv
  have zb := hb.size
  by_cases e0 : k = 0
  ·subst e0
   go_wp2_with fail
   refine (unhide hQ _ _ _ ho).mono ?_
   rintro e w2 ⟨v2, rfl, o2, b2⟩
   go_wp2_with fail
   exact ⟨⟨1, by omega, by go_num, o2.mono (by omega), below_next hb b2⟩, by simp [intOf]⟩
  by_cases e1 : k = 1
  ·subst e1
   go_wp2_with fail
   refine (unhide hR _ _ _ ho).mono ?_
   rintro e w2 ⟨v2, rfl, o2, b2⟩
   go_wp2_with fail
   exact ⟨⟨2, by omega, by go_num, o2.mono (by omega), below_next hb b2⟩, by simp [intOf]⟩
  ·obtain rfl : k = 2 := by omega
   go_wp2_with fail
   go_ret
   exact ⟨_, rfl, ho, below_next bb1 hb⟩
end Go.Proofs.YtfgcmjpkgdjcfaaGreat

namespace Go.Proofs.YtfgcmjpkgdjcfaaGreat
open Go.RowKit
set_option linter.unusedVariables false

set_option maxHeartbeats 800000 in
set_option maxRecDepth 100000 in
theorem implPut16_yes {B : Nat} {v : Value} {l : List Int} (n : Int) {w : World} (h : Own B 5 w v l) (hl : l.length ≤ 1048576) (h0 : 0 ≤ n) (h1 : n ≤ 65535) :
  Calls Tryz.prog 107 #[v, .int .i64 n] w fun e w' => ∃ v', e = .returned v' ∧ Own w.heap.size 5 w' v' (l ++ [n / 256, n % 256]) ∧ Below w.heap.size w w' := by
 go_enter Tryz.func107, Tryz.ntmps107
 go_wp2_with fail
 refine (upTo_yes _ h0 h1).mono ?_
 rintro e w0 ⟨rfl, rfl⟩
 go_wp2_with fail
 refine (copyBytes_own h (by omega)).mono ?_
 rintro e w1 ⟨v1, rfl, o1, b1⟩
 have hsz := b1.size
 go_wp2_with (at_builtin; refine append_bytes rfl _ _ 56 5 rfl Tryz.underlying56 info_u8 w.heap.size v1 _ l [n / 256, n % 256] rfl rfl (o1.alloc _) (own_put16 w1 0 5 n (Nat.zero_le _)).reads (by simp; omega) (by simp; omega) ?_)
 intro v' w2 hown hgrow
 go_wp2
 go_ret
 exact ⟨v', rfl, hown, (b1.alloc hsz _).grown hgrow (by simp; omega) (fun k hk => (o1.lt k hk).1)⟩

end Go.Proofs.YtfgcmjpkgdjcfaaGreat
