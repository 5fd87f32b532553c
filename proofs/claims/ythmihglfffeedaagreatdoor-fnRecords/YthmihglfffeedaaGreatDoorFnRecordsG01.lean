/-
  Contracts of the specification's cursor over the bytes of a draw (l1New, l1Byte, l1Below, l1Once, l1PickInt, l1some): what is drawn is within its bounds; nothing but the cursor's own block is written. Contract of the specification's l1PickInt. Contracts of the specification's draws of chapter 1: l1Once, l1PickInt, l1some. Contract of the specification's l1some: a few drawn bytes. Steps of a region that draws its order: an append to a row of the call's own. No program is named here.
-/
import Derived.Test.YthmihglfffeedaaGreatDoorFnRecordsG00
import Derived.Deep.RegionLaw
namespace Go.Proofs.YthmihglfffeedaaGreatDoor
open Go.RowKit
set_option linter.unusedVariables false
set_option maxHeartbeats 1000000
set_option maxRecDepth 100000

def Cur (w : World) (g : Nat) (a : Option Addr) (len cap : Nat) : Prop :=
 ∃ i h : Int, w.heap[g]? = some (.cells #[.slice a len cap, .int .i64 i, .int .i64 h] 78 (0, 0)) ∧ 0 ≤ i ∧ i ≤ len

def Code (w : World) (g : Nat) (a : Option Addr) (len : Nat) : Prop :=
 ∃ l : List Int, l.length = len ∧ (∀ k, 0 ≤ l.getD k 0 ∧ l.getD k 0 ≤ 255) ∧
  (l = [] ∨ ∃ b off, a = some ⟨b, off, none⟩ ∧ b < w.heap.size ∧ b < g ∧ ∀ i, i < l.length → w.cell? ⟨b, off + i, none⟩ = some (.int .u8 (l.getD i 0)))

theorem and_255_bd (y : Int) : 0 ≤ bits .and .i64 y 255 ∧ bits .and .i64 y 255 ≤ 255 := by
 have h : bits .and .i64 y 255 = IntKind.i64.wrap ((BitVec.ofInt 64 y &&& BitVec.ofInt 64 ((255 : Nat) : Int)).toNat : Int) := rfl
 rw [h, BitVec.toNat_and, ofInt_u64 255 (by omega)]
 have h2 : (BitVec.ofInt 64 y).toNat &&& 255 ≤ 255 := Nat.and_le_right
 rw [wrap_small _ (by omega)]
 omega

theorem cells_at {w : World} {g : Nat} {x y z : Value} {t : TypeId} (h : w.heap[g]? = some (.cells #[x, y, z] t (0, 0))) :
  w.cell? ⟨g, 0, none⟩ = some x ∧ w.cell? ⟨g, 1, none⟩ = some y ∧ w.cell? ⟨g, 2, none⟩ = some z ∧ w.frozen? ⟨g, 1, none⟩ = false ∧ w.frozen? ⟨g, 2, none⟩ = false := by
 simp [World.cell?, World.frozen?, h]

theorem set_at1 {w : World} {g : Nat} {x y z : Value} {t : TypeId} (h : w.heap[g]? = some (.cells #[x, y, z] t (0, 0))) (u : Value) : (w.setCell ⟨g, 1, none⟩ u).heap[g]? = some (.cells #[x, u, z] t (0, 0)) := by
 simp [World.setCell, Array.getElem?_modify, h]
theorem set_at2 {w : World} {g : Nat} {x y z : Value} {t : TypeId} (h : w.heap[g]? = some (.cells #[x, y, z] t (0, 0))) (u : Value) : (w.setCell ⟨g, 2, none⟩ u).heap[g]? = some (.cells #[x, y, u] t (0, 0)) := by
 simp [World.setCell, Array.getElem?_modify, h]

theorem grown_set (w : World) (g j : Nat) (u : Value) : w.grownBy (w.setCell ⟨g, j, none⟩ u) (some g) :=
 ⟨rfl, rfl, rfl, by simp, fun k _ hk => Below.heap_setCell w ⟨g, j, none⟩ u k (fun e => hk (by rw [e]))⟩

theorem grown_draws (w : World) (n : Nat) (row : Option Nat) : w.grownBy (w.drewN n) row := ⟨rfl, rfl, rfl, Nat.le_refl _, fun _ _ _ => rfl⟩

theorem l1Byte_any {g : Nat} {a : Option Addr} {len cap : Nat} {w : World} (hc : Cur w g a len cap) (hL : Code w g a len) (hm : len ≤ maxLen) :
  Calls Tryz.prog 45 #[.pointer (some ⟨g, 0, none⟩)] w fun e w' => ∃ x, e = .returned (.int .i64 x) ∧ 0 ≤ x ∧ x ≤ 255 ∧ Cur w' g a len cap ∧ w.grownBy w' (some g) := by
 obtain ⟨i, h, hg, hi0, hi1⟩ := hc
 obtain ⟨c0, c1, c2, f1, f2⟩ := cells_at hg
 unfold maxLen at hm
 go_enter Tryz.func45, Tryz.ntmps45
 go_wp2
 generalize hh : wrap64 (wrap64 (h * 6364136223846793005) + 1442695040888963407) = h'
 clear hh
 have hg1 := set_at2 hg (.int .i64 h')
 have k1 := grown_set w g 2 (.int .i64 h')
 obtain ⟨l, hln, hb, hLl⟩ := hL
 have HN := UC hln
 clear hln
 have hL1 : Lies (w.setCell ⟨g, 2, none⟩ (.int .i64 h')) a l := by
  rcases hLl with rfl | ⟨b, off, rfl, hlt, hlg, hcl⟩
  ·exact .inl rfl
  ·refine .inr ⟨b, off, rfl, by simpa using hlt, fun j hj => ?_⟩
   rw [World.cell?_of_block (w := w) (k1.block b hlt (by simp; omega))]
   exact hcl j hj
 clear c0 c1 c2 f1 f2 hLl hg
 generalize w.setCell ⟨g, 2, none⟩ (.int .i64 h') = W at *
 obtain ⟨c0, c1, c2, f1, f2⟩ := cells_at hg1
 have HG := UC hg1
 clear hg1
 by_cases hlt : i < len
 ·obtain ⟨j, rfl⟩ := Int.eq_ofNat_of_zero_le hi0
  obtain ⟨b, off, rfl, _, hcj⟩ := hL1.here (k := j) (by rw [UB HN]; omega)
  have hx := hb j
  generalize l.getD j 0 = x at *
  have HB := UC hb
  clear hb
  go_quiet (fail)
  go_wp2
  go_quiet (fail)
  go_wp2
  go_quiet (fail)
  go_wp2
  go_ret
  refine ⟨_, rfl, (and_255_bd _).1, (and_255_bd _).2, ?_, ?_⟩
  ·exact ⟨(j : Int) + 1, h', set_at1 (w := W.drewN _) (UB HG) _, by omega, by omega⟩
  ·exact grown_trans k1 (grown_trans (grown_draws W _ _) (grown_set _ g 1 _))
 ·have hlt' : decide (i < (len : Int)) = false := by simp; omega
  go_quiet (fail)
  go_wp2
  go_quiet (fail)
  go_wp2
  go_ret
  refine ⟨_, rfl, (and_255_bd _).1, (and_255_bd _).2, ⟨i, h', UB HG, by omega, by omega⟩, ?_⟩
  exact grown_trans k1 (grown_trans (grown_draws W _ _) (grown_draws _ _ _))

theorem Code.later {w w' : World} {g : Nat} {a : Option Addr} {len : Nat} {row : Option Nat} (h : Code w g a len) (hg : w.grownBy w' row) (hr : ∀ j, row = some j → g ≤ j) : Code w' g a len := by
 obtain ⟨l, h1, h2, h3⟩ := h
 refine ⟨l, h1, h2, ?_⟩
 rcases h3 with rfl | ⟨b, off, rfl, hlt, hlg, hcl⟩
 ·exact .inl rfl
 ·refine .inr ⟨b, off, rfl, Nat.lt_of_lt_of_le hlt hg.size, hlg, fun j hj => ?_⟩
  rw [World.cell?_of_block (w := w) (hg.block b hlt (by intro e; have := hr b e.symm; omega))]
  exact hcl j hj

theorem Code.grown {w w' : World} {g : Nat} {a : Option Addr} {len : Nat} (h : Code w g a len) (hg : w.grownBy w' (some g)) : Code w' g a len := h.later hg (fun j e => by simp at e; omega)

theorem l1Below_any {g : Nat} {a : Option Addr} {len cap : Nat} {w : World} (n : Int) (hc : Cur w g a len cap) (hL : Code w g a len) (hm : len ≤ maxLen) (hn0 : 1 ≤ n) (hn1 : n ≤ 1099511627776) :
  Calls Tryz.prog 44 #[.pointer (some ⟨g, 0, none⟩), .int .i64 n] w fun e w' => ∃ x, e = .returned (.int .i64 x) ∧ 0 ≤ x ∧ x < n ∧ Cur w' g a len cap ∧ w.grownBy w' (some g) := by
 have HM := UC hm
 clear hm
 by_cases h256 : n ≤ 256
 ·go_enter Tryz.func44, Tryz.ntmps44
  go_wp2_with fail
  refine (l1Byte_any hc hL (UB HM)).mono ?_
  rintro e w1 ⟨x, rfl, hx0, hx1, hc1, g1⟩
  go_wp2
  go_ret
  exact ⟨_, rfl, Int.emod_nonneg _ (by omega), Int.emod_lt_of_pos _ (by omega), hc1, g1⟩
 ·go_enter Tryz.func44, Tryz.ntmps44
  go_wp2_with fail
  refine (l1Byte_any hc hL (UB HM)).mono ?_
  rintro e w1 ⟨x1, rfl, x10, x11, hc1, g1⟩
  have hL1 := hL.grown g1
  go_wp2_with fail
  refine (l1Byte_any hc1 hL1 (UB HM)).mono ?_
  rintro e w2 ⟨x2, rfl, x20, x21, hc2, g2⟩
  have hL2 := hL1.grown g2
  go_wp2_with fail
  refine (l1Byte_any hc2 hL2 (UB HM)).mono ?_
  rintro e w3 ⟨x3, rfl, x30, x31, hc3, g3⟩
  have hL3 := hL2.grown g3
  go_wp2_with fail
  refine (l1Byte_any hc3 hL3 (UB HM)).mono ?_
  rintro e w4 ⟨x4, rfl, x40, x41, hc4, g4⟩
  go_wp2
  go_ret
  exact ⟨_, rfl, Int.emod_nonneg _ (by omega), Int.emod_lt_of_pos _ (by omega), hc4, grown_trans (grown_trans (grown_trans g1 g2) g3) g4⟩

theorem Cur.lt {w : World} {g : Nat} {a : Option Addr} {len cap : Nat} (h : Cur w g a len cap) : g < w.heap.size := by
 obtain ⟨i, x, h1, _⟩ := h
 exact (Array.getElem?_eq_some_iff.1 h1).1

theorem Cur.later {w w' : World} {g : Nat} {a : Option Addr} {len cap : Nat} {row : Option Nat} (h : Cur w g a len cap) (hg : w.grownBy w' row) (hr : ∀ j, row = some j → g < j) : Cur w' g a len cap := by
 have hlt := h.lt
 obtain ⟨i, x, h1, h2⟩ := h
 refine ⟨i, x, ?_, h2⟩
 rw [hg.block g hlt (by intro e; have := hr g e.symm; omega)]
 exact h1

theorem grown_alloc (w : World) (o : Obj) (row : Option Nat) : w.grownBy (w.alloc o) row := World.grownBy_alloc w o row

theorem grown_own {w a b : World} {row row' : Option Nat} (h : w.grownBy a row) (k : a.grownBy b row') (hr : ∀ j, row' = some j → w.heap.size ≤ j) : w.grownBy b row :=
 ⟨k.os.trans h.os, k.tape.trans h.tape, k.output.trans h.output, Nat.le_trans h.size k.size, fun i hi hn => (k.block i (Nat.lt_of_lt_of_le hi h.size) (by intro e; have := hr i e.symm; omega)).trans (h.block i hi hn)⟩

theorem l1New_any {a : Option Addr} {len cap : Nat} {w : World} (l : List Int) (hL : Lies w a l) (hn : l.length = len) (hb : ∀ k, 0 ≤ l.getD k 0 ∧ l.getD k 0 ≤ 255) (hm : len ≤ maxLen) :
  Calls Tryz.prog 18 #[.slice a len cap] w fun e w' => e = .returned (.pointer (some ⟨w.heap.size, 0, none⟩)) ∧ Cur w' w.heap.size a len cap ∧ Code w' w.heap.size a len ∧ Below w.heap.size w w' := by
 have HN := UC hn
 clear hn
 have HB := UC hb
 clear hb
 unfold maxLen at hm
 go_enter Tryz.func18, Tryz.ntmps18
 go_wp2
 go_loop [3, 4] (fun hv i => ∃ (k : Nat) (h : Int), k ≤ len ∧ i = .int .i64 k ∧ hv = .int .i64 h) (fun _ i => len - (intOf i).toNat)
 case atStart => exact ⟨0, _, Nat.zero_le _, rfl, rfl⟩
 case round =>
  obtain ⟨k, h, hk, rfl, rfl⟩ := hrel
  have fin : ∀ h' : Int, Cur (w.alloc (.cells #[.slice a len cap, .int .i64 0, .int .i64 h'] 78)) w.heap.size a len cap ∧ Code (w.alloc (.cells #[.slice a len cap, .int .i64 0, .int .i64 h'] 78)) w.heap.size a len ∧ Below w.heap.size w (w.alloc (.cells #[.slice a len cap, .int .i64 0, .int .i64 h'] 78)) := by
   intro h'
   have hbl : Below w.heap.size w (w.alloc (.cells #[.slice a len cap, .int .i64 0, .int .i64 h'] 78)) := (Below.refl _ _).alloc (Nat.le_refl _) _
   refine ⟨⟨0, h', heap_alloc_new w _, by omega, by omega⟩, ⟨l, UB HN, UB HB, ?_⟩, hbl⟩
   rcases hL.below hbl with rfl | ⟨b, off, e, hlt', hcl⟩
   ·exact .inl rfl
   ·rcases hL with rfl | ⟨b', off', e', hlt, _⟩
    ·exact .inl rfl
    ·rw [e] at e'
     simp at e'
     exact .inr ⟨b, off, e, hlt', by omega, hcl⟩
  have FIN := UC fin
  clear fin
  by_cases hlt : k < len
  ·by_cases h4000 : k < 4000
   ·obtain ⟨b, off, rfl, _, hc⟩ := hL.here (k := k) (by rw [UB HN]; exact hlt)
    have hx := (UB HB) k
    generalize l.getD k 0 = x at *
    go_wp2
    exact ⟨⟨k + 1, _, by omega, by go_num, rfl⟩, by simp [intOf]; omega⟩
   ·have i4 : ¬ (k : Int) < 4000 := by omega
    go_wp2
    go_ret
    exact ⟨rfl, UB FIN _⟩
  ·go_wp2
   go_ret
   exact ⟨rfl, UB FIN _⟩
theorem below_cursor {w w1 w2 : World} {row : Option Nat} (hb : Below w.heap.size w w1) (hg : w1.grownBy w2 row) (hr : ∀ j, row = some j → w.heap.size ≤ j) : Below w.heap.size w w2 := hb.grown hg hb.size hr
set_option maxHeartbeats 400000 in
set_option maxRecDepth 100000 in
theorem l1Once_any {g : Nat} {a : Option Addr} {len cap : Nat} {w : World} (n : Int) (hc : Cur w g a len cap) (hL : Code w g a len) (hm : len ≤ maxLen) (hn0 : 1 ≤ n) (hn1 : n ≤ 1099511627776) :
  Calls Tryz.prog 41 #[.pointer (some ⟨g, 0, none⟩), .int .i64 n] w fun e w' => ∃ x : Bool, e = .returned (.bool x) ∧ Cur w' g a len cap ∧ w.grownBy w' (some g) := by
 have HM := UC hm
 clear hm
 go_enter Tryz.func41, Tryz.ntmps41
 go_wp2_with fail
 refine (l1Below_any n hc hL (UB HM) hn0 hn1).mono ?_
 rintro e w1 ⟨x, rfl, hx0, hx1, hc1, g1⟩
 go_wp2
 go_ret
 exact ⟨_, rfl, hc1, g1⟩
set_option maxHeartbeats 1000000 in
set_option maxRecDepth 100000 in
theorem l1some_any {g : Nat} {a : Option Addr} {len cap : Nat} {w : World} (most : Int) (hc : Cur w g a len cap) (hL : Code w g a len) (hm : len ≤ maxLen) (hn0 : 1 ≤ most) (hn1 : most ≤ 1048576) :
  Calls Tryz.prog 19 #[.pointer (some ⟨g, 0, none⟩), .int .i64 most] w fun e w' => ∃ v l, e = .returned v ∧ Own w.heap.size 5 w' v l ∧ (l.length : Int) < most ∧ (∀ x ∈ l, 0 ≤ x ∧ x ≤ 255) ∧ Cur w' g a len cap ∧ w.grownBy w' (some g) := by
 have HM := UC hm
 clear hm
 have hgw := hc.lt
 go_enter Tryz.func19, Tryz.ntmps19
 go_wp2_with fail
 refine (l1Below_any most hc hL (UB HM) hn0 (by omega)).mono ?_
 rintro e w1 ⟨x, rfl, hx0, hx1, hc1, g1⟩
 have hL1 := hL.grown g1
 have HC1 := UC hc1
 clear hc1 hc hL
 obtain ⟨n, rfl⟩ := Int.eq_ofNat_of_zero_le hx0
 go_wp2
 go_loopw [5, 7] (fun b i wr => ∃ (k : Nat) (l : List Int), k ≤ n ∧ i = .int .i64 k ∧ l.length = k ∧ (∀ x ∈ l, 0 ≤ x ∧ x ≤ 255) ∧ Own w.heap.size 5 wr b l ∧ Hid (Cur wr g a len cap) ∧ Code wr g a len ∧ w.grownBy wr (some g)) (fun _ i _ => n - (intOf i).toNat)
 case atStart => exact ⟨0, [], Nat.zero_le _, rfl, rfl, by simp, World.ownsRow_nil _ _ _ _, HC1, hL1, g1⟩
 case round =>
  obtain ⟨k, l, hk, rfl, hlk, hlb, ho, hcr, hLr, gr⟩ := hrel
  have HLK := UC hlk
  clear hlk
  have HLB := UC hlb
  clear hlb
  have hsz := gr.size
  by_cases hlt : k < n
  ·go_wp2_with fail
   refine (l1Byte_any (UB hcr) hLr (UB HM)).mono ?_
   rintro e w2 ⟨y, rfl, hy0, hy1, hc2, g2⟩
   have hL2 := hLr.grown g2
   have o2 : Own w.heap.size 5 w2 u5 l := ho.kept g2 (by
    cases hv : u5.ownBlock with
    | none => exact .inl rfl
    | some j => right; intro e; have := (ho.lt j hv).1; simp at e; omega)
   have gr2 := grown_trans gr g2
   have z2 := gr2.size
   have HC2 := UC hc2
   clear hc2 g2 hLr ho gr
   go_wp2_with (at_builtin; refine append_bytes rfl _ _ 22 5 rfl Tryz.underlying22 VJ w.heap.size u5 _ l [y] rfl rfl (o2.alloc _) (own_lit w2 0 5 [y] (Nat.zero_le _) (by simp [maxLen])).reads (by rw [UB HLK]; simp; omega) (by simp; omega) ?_)
   intro v3 w3 o3 g3
   have hrow : ∀ j, u5.ownBlock = some j → w.heap.size ≤ j := fun j e => (o2.lt j e).1
   have g23 := grown_alloc w2 (.cells #[.int .u8 y] 5) none
   have c3 := UC (((UB HC2).later g23 (by simp)).later g3 (fun j e => by have := hrow j e; omega))
   have l3 := (hL2.later g23 (by simp)).later g3 (fun j e => by have := hrow j e; omega)
   have gr3 := grown_own (grown_own gr2 g23 (by simp)) g3 hrow
   clear g3 g23
   go_wp2
   refine ⟨⟨k + 1, l ++ [y], by omega, by go_num, by rw [List.length_append, UB HLK]; rfl, ?_, o3, c3, l3, gr3⟩, by simp [intOf]; omega⟩
   intro x hx
   simp at hx
   rcases hx with hx | rfl
   ·exact UB HLB x hx
   ·exact ⟨hy0, hy1⟩
  ·go_wp2
   go_ret
   exact ⟨_, l, rfl, ho, by rw [UB HLK]; omega, UB HLB, UB hcr, gr⟩
end Go.Proofs.YthmihglfffeedaaGreatDoor

namespace Go.Proofs.YthmihglfffeedaaGreatDoor
open Go.RowKit

section
variable {P : Program} {w : World}

theorem run_append_bytes (t ty e : TypeId) (ht : P.underlying t = some (.slice e)) (hinfo : (P.info? e).map (fun i => (i.zero, i.size, i.bytes)) = some (some (.int .u8 0), 1, 1))
  (base : Nat) (v vx : Value) (l m : List Int) (hown : Own base e w v l) (hr : Reads w vx m) (hlen : l.length + m.length ≤ 1099511627776) (hbase : base ≤ w.heap.size) :
  ∃ v' w', (Builtin.append_ #[t, t] ty #[v, vx]).run P w = .ok v' w' ∧ Own base e w' v' (l ++ m) ∧ w.grownBy w' v.ownBlock := by
 obtain ⟨i0, hi, hz0, hz1, hz2⟩ := info_parts hinfo
 rcases hr with ⟨rfl, rfl⟩ | ⟨ad, cap, rfl, hc⟩
 ·exact ⟨v, w, run_append_owned_none w base t ty e i0 1 ht hi v l.length (l.map (Value.int .u8)) hown, by simpa using hown, ⟨rfl, rfl, rfl, Nat.le_refl _, fun _ _ _ => rfl⟩⟩
 ·obtain ⟨v', w', h1, h2, h3, _⟩ := run_append_own (P := P) w base t ty e i0 (.int .u8 0) 1 1 ht hi hz0 hz1 hz2 rfl (by decide) v l.length (l.map (Value.int .u8)) hown ad m.length cap (m.map (Value.int .u8)) (by simp) (news_of hc) (one_of m) (by unfold maxLen; omega) (by omega) hbase
  exact ⟨v', w', h1, by simpa [Own] using h2, h3⟩

theorem step_append_bytes {ops : Array Oper} {o : Oper} {a : Act} {K : Act → World → Prop} {Q : Exit → Act → World → Prop} {E : Prop} (hgd : o.guard = none) (s x : Operand) (t e : TypeId)
  (ho : o.op = .call { callee := .builtin .append, args := #[s, x], argTypes := #[t, t] }) (ht : P.underlying t = some (.slice e))
  (hinfo : (P.info? e).map (fun i => (i.zero, i.size, i.bytes)) = some (some (.int .u8 0), 1, 1))
  (base : Nat) (v vx : Value) (l m : List Int) (hs : a.eval s = v) (hx : a.eval x = vx) (hown : Own base e w v l) (hr : Reads w vx m) (hlen : l.length + m.length ≤ 1099511627776) (hbase : base ≤ w.heap.size)
  (h : ∀ v' w', Own base e w' v' (l ++ m) → w.grownBy w' v.ownBlock → K (a.put o.dst v') w') : if Region.wanted o (yielded ops a.tmps) = true then Oper.wp P o a w K Q else E := by
 have hw : Region.wanted o (yielded ops a.tmps) = true := by simp [Region.wanted, hgd]
 rw [if_pos hw]
 obtain ⟨v', w', hr', h2, h3⟩ := run_append_bytes (P := P) t o.type e ht hinfo base v vx l m hown hr hlen hbase
 unfold Oper.wp execOp
 simp only [ho, resolve, invoke, builtin, Sem.run_bind, Sem.run_pure, Result.andThen_ok, List.map_toArray, List.map_cons, List.map_nil, hs, hx, hr']
 exact h v' w' h2 h3

theorem run_append_row (t ty e : TypeId) (ht : P.underlying t = some (.slice e)) (hinfo : (P.info? e).map (fun i => (i.zero, i.size, i.bytes)) = some (some (.slice none 0 0), 1, 24))
  (base : Nat) (v vx : Value) (xs us : List Value) (hown : w.ownsRow base e 1 v xs.length xs)
  (hr : (vx = .slice none 0 0 ∧ us = []) ∨ ∃ ad cap, vx = .slice (some ad) us.length cap ∧ ∀ j y, us[j]? = some y → w.cell? (ad.add j) = some y) (hu : ∀ y ∈ us, y.oneCell' = true)
  (hlen : xs.length + us.length ≤ 1099511627776) (hbase : base ≤ w.heap.size) :
  ∃ v' w', (Builtin.append_ #[t, t] ty #[v, vx]).run P w = .ok v' w' ∧ w'.ownsRow base e 1 v' (xs.length + us.length) (xs ++ us) ∧ w.grownBy w' v.ownBlock := by
 obtain ⟨i0, hi, hz0, hz1, hz2⟩ := info_parts hinfo
 rcases hr with ⟨rfl, rfl⟩ | ⟨ad, cap, rfl, hc⟩
 ·exact ⟨v, w, run_append_owned_none w base t ty e i0 1 ht hi v xs.length xs hown, by simpa using hown, ⟨rfl, rfl, rfl, Nat.le_refl _, fun _ _ _ => rfl⟩⟩
 ·obtain ⟨v', w', h1, h2, h3, _⟩ := run_append_own (P := P) w base t ty e i0 (.slice none 0 0) 1 24 ht hi hz0 hz1 hz2 rfl (by decide) v xs.length xs hown ad us.length cap us (by simp) hc hu (by unfold maxLen; omega) (by omega) hbase
  exact ⟨v', w', h1, h2, h3⟩

theorem step_append_row {ops : Array Oper} {o : Oper} {a : Act} {K : Act → World → Prop} {Q : Exit → Act → World → Prop} {E : Prop} (hgd : o.guard = none) (s x : Operand) (t e : TypeId)
  (ho : o.op = .call { callee := .builtin .append, args := #[s, x], argTypes := #[t, t] }) (ht : P.underlying t = some (.slice e))
  (hinfo : (P.info? e).map (fun i => (i.zero, i.size, i.bytes)) = some (some (.slice none 0 0), 1, 24))
  (base : Nat) (v vx : Value) (xs us : List Value) (hs : a.eval s = v) (hx : a.eval x = vx) (hown : w.ownsRow base e 1 v xs.length xs)
  (hr : (vx = .slice none 0 0 ∧ us = []) ∨ ∃ ad cap, vx = .slice (some ad) us.length cap ∧ ∀ j y, us[j]? = some y → w.cell? (ad.add j) = some y) (hu : ∀ y ∈ us, y.oneCell' = true)
  (hlen : xs.length + us.length ≤ 1099511627776) (hbase : base ≤ w.heap.size)
  (h : ∀ v' w', w'.ownsRow base e 1 v' (xs.length + us.length) (xs ++ us) → w.grownBy w' v.ownBlock → K (a.put o.dst v') w') : if Region.wanted o (yielded ops a.tmps) = true then Oper.wp P o a w K Q else E := by
 have hw : Region.wanted o (yielded ops a.tmps) = true := by simp [Region.wanted, hgd]
 rw [if_pos hw]
 obtain ⟨v', w', hr', h2, h3⟩ := run_append_row (P := P) t o.type e ht hinfo base v vx xs us hown hr hu hlen hbase
 unfold Oper.wp execOp
 simp only [ho, resolve, invoke, builtin, Sem.run_bind, Sem.run_pure, Result.andThen_ok, List.map_toArray, List.map_cons, List.map_nil, hs, hx, hr']
 exact h v' w' h2 h3

theorem one_more (w : World) (e : TypeId) (u : Value) : (Value.slice (some ⟨w.heap.size, 0, none⟩) 1 1 = .slice none 0 0 ∧ [u] = []) ∨ ∃ ad cap, Value.slice (some ⟨w.heap.size, 0, none⟩) 1 1 = .slice (some ad) [u].length cap ∧ ∀ j y, [u][j]? = some y → (w.alloc (.cells #[u] e)).cell? (ad.add j) = some y := by
 refine .inr ⟨_, 1, rfl, fun j y hj => ?_⟩
 have hj0 : j = 0 := by
  have := (List.getElem?_eq_some_iff.1 hj).1
  simp at this
  exact this
 subst hj0
 have hh : (w.alloc (.cells #[u] e)).heap[w.heap.size]? = some (.cells #[u] e) := by
  show (w.heap.push _)[w.heap.size]? = _
  simp
 rw [Addr.add_lit]
 unfold World.cell?
 simp only [hh]
 simpa using hj
end
end Go.Proofs.YthmihglfffeedaaGreatDoor
