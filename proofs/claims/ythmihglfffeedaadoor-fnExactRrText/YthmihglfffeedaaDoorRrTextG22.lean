/-
  Contracts of the specification's l1digits, up to 4294967295. Contracts of the specification's l2text. Plain facts: where an append to an own row of bytes leaves it: in its block, or in a new one. No program is named here. Plain facts: an append to a slice of bytes that is owned, or that is full. No program is named here.
-/
import Derived.Test.YthmihglfffeedaaDoorRrTextG21
import Derived.Test.YthmihglfffeedaaDoorRrTextG07
import Derived.Test.YthmihglfffeedaaDoorRrTextG03
import Derived.Test.YthmihglfffeedaaDoorRrTextG01
import Derived.Test.YthmihglfffeedaaDoorRrTextG06
import Derived.Lib.SlBytesConst
import Derived.Test.YthmihglfffeedaaDoorRrTextG20
import Derived.Test.YthmihglfffeedaaDoorRrTextG02
import Derived.Lib.AppendStr
import Derived.Lib.UnsafeStr
namespace Go.Proofs.YthmihglfffeedaaDoor
open Go.RowKit
set_option linter.unusedVariables false

set_option maxHeartbeats 400000 in
set_option maxRecDepth 100000 in
theorem l1digits_ge2 (x : Int) (w : World) (h0 : 10 ≤ x) (h1 : x ≤ 4294967295)
  (hrec : Hid (∀ w : World, Calls Tryd.prog 36 #[.int .i64 (x / 10)] w fun e w' => ∃ v, e = .returned v ∧ Own w.heap.size 5 w' v (digs (x / 10)) ∧ Below w.heap.size w w')) :
  Calls Tryd.prog 36 #[.int .i64 x] w fun e w' => ∃ v, e = .returned v ∧ Own w.heap.size 5 w' v (digs x) ∧ Below w.heap.size w w' := by
 have hd := digs_ten (x := x / 10) (by omega) (by omega)
 rw [digs_ge x h0]
 generalize hD : digs (x / 10) = D at *
 have HD := UC hD
 clear hD
 go_enter Tryd.func36, Tryd.ntmps36
 go_wp2_with fail
 refine (UB hrec _).mono ?_
 rintro e w1 ⟨v1, rfl, o1, b1⟩
 have hsz := b1.size
 go_wp2_with (at_builtin; refine append_bytes rfl _ _ 25 5 rfl Tryd.underlying25 VJ w.heap.size v1 _ D [48 + x % 10] rfl rfl (o1.alloc _) (own_byte1 w1 0 5 _ (Nat.zero_le _)).reads (by simp; omega) (by simp; omega) ?_)
 intro v' w2 hown hgrow
 go_wp2
 go_ret
 exact ⟨v', rfl, hown, (b1.alloc hsz _).grown hgrow (by simp; omega) (fun k hk => (o1.lt k hk).1)⟩

theorem l1digits_upto (k : Nat) : ∀ x : Int, 0 ≤ x → x ≤ 4294967295 → x < 10 ^ (k + 1) → ∀ w : World,
  Calls Tryd.prog 36 #[.int .i64 x] w fun e w' => ∃ v, e = .returned v ∧ Own w.heap.size 5 w' v (digs x) ∧ Below w.heap.size w w' := by
 induction k with
 | zero => exact fun x h0 _ h2 w => l1digits_lt x w h0 (by omega)
 | succ k ih =>
  intro x h0 h1 h2 w
  by_cases a : x < 10
  ·exact l1digits_lt x w h0 a
  ·have e : (10 : Int) ^ (k + 1 + 1) = 10 ^ (k + 1) * 10 := Int.pow_succ _ _
   rw [e] at h2
   generalize (10 : Int) ^ (k + 1) = p at *
   exact l1digits_ge2 x w (by omega) h1 (UC fun w => ih (x / 10) (by omega) (by omega) (by omega) w)
theorem l1digits_any2 (x : Int) (w : World) (h0 : 0 ≤ x) (h1 : x ≤ 4294967295) :
  Calls Tryd.prog 36 #[.int .i64 x] w fun e w' => ∃ v, e = .returned v ∧ Own w.heap.size 5 w' v (digs x) ∧ Below w.heap.size w w' := l1digits_upto 9 x h0 h1 (by omega) w
set_option maxHeartbeats 1000000 in
set_option maxRecDepth 100000 in
theorem l2text_some {a : Option Addr} {cap : Nat} {n : List (List Int)} {w : World} (h : HasL w (.slice a n.length cap) n) (hok : nameOk n = true) (hn0 : n.length ≠ 0) :
  Calls Tryd.prog 35 #[.agg #[.slice a n.length cap]] w fun e w' => ∃ v', e = .returned v' ∧ Own w.heap.size 5 w' v' (dots n n.length) ∧ Below w.heap.size w w' := by
 obtain ⟨a', cap', he, hl, hm⟩ := h.form
 simp only [Value.slice.injEq] at he
 obtain ⟨rfl, _, rfl⟩ := he
 unfold maxLen at hm
 have hdl := dots_length n hok
 have h6 := (nameOk_parts hok).1
 have HDS := UC (dots_succ n)
 have HD0 := UC (dots_zero n)
 have HLEN := UC (show ∀ k, k < n.length → (n.getD k []).length ≤ 15 from fun k hk => (labelOk_length ((nameOk_parts hok).2 k hk)).2)
 clear hok
 have hn1 : ((n.length : Int) == 0) = false := by rw [beq_eq_false_iff_ne]; omega
 have HDL := UC hdl
 clear hdl
 generalize dots n = D at *
 have b0 := UI (w := w) (.cells #[.slice a n.length cap] 31)
 have k0 := heap_alloc_new w (.cells #[.slice a n.length cap] 31)
 have h0 := UC (h.below b0)
 have H := UC h
 clear h
 have z0 := VC k0
 generalize hn : n.length = m at *
 have HN := UC hn
 clear hn
 go_enter Tryd.func35, Tryd.ntmps35
 go_wp2
 generalize w.alloc (.cells #[.slice a m cap] 31) = w1 at *
 go_loopw [3, 4] (fun o i wr => ∃ k : Nat, k ≤ m ∧ i = .int .i64 k ∧ Own w1.heap.size 5 wr o (D k) ∧ Below w1.heap.size w1 wr) (fun _ i _ => m - (intOf i).toNat)
 case atStart => exact ⟨0, Nat.zero_le _, rfl, by rw [UB HD0]; exact World.ownsRow_nil _ _ _ _, Below.refl _ _⟩
 case round =>
  obtain ⟨k, hk, rfl, ho, hb⟩ := hrel
  have c1 := US (UE hb k0)
  by_cases hlt : k < m
  ·obtain ⟨b, off, u, rfl, hbl, hc, hu⟩ := ((UB h0).below hb).here (k := k) (by rw [UB HN]; exact hlt)
   have hds := UC (UB HDS k hlt)
   have hlk := UB HLEN k hlt
   have hdk := UB HDL k
   generalize n.getD k [] = lab at *
   have HU := UC hu
   obtain ⟨ua, uc, rfl, _⟩ := hu.form
   clear hu
   have zb := hb.size
   go_wp2_with (at_builtin; refine append_bytes rfl _ _ 25 5 rfl Tryd.underlying25 VJ w1.heap.size _ (.slice ua lab.length uc) (D k) lab rfl rfl ho (UB HU).reads (by omega) zb ?_)
   intro v2 w2 o2 g2
   have z2 := g2.size
   have hb2 : Below w1.heap.size w1 w2 := hb.grown g2 zb (fun q hq => (ho.lt q hq).1)
   clear g2 ho hb c1
   go_wp2_with (at_builtin; refine append_bytes rfl _ _ 25 5 rfl Tryd.underlying25 VJ w1.heap.size v2 _ (D k ++ lab) [46] rfl rfl (o2.alloc _) (own_lit w2 0 5 [46] (Nat.zero_le _) (by simp [maxLen])).reads (by simp; omega) (by simp; omega) ?_)
   intro v3 w3 o3 g3
   have hb3 : Below w1.heap.size w1 w3 := (hb2.alloc hb2.size _).grown g3 (by simp; omega) (fun q hq => (o2.lt q hq).1)
   clear g3 o2 hb2
   go_wp2_with fail
   exact ⟨⟨k + 1, by omega, by go_num, by rw [UB hds, List.append_assoc]; exact o3, hb3⟩, by simp [intOf]; omega⟩
  ·obtain rfl : k = m := by omega
   go_wp2_with fail
   go_ret
   exact ⟨_, rfl, ho.mono (Nat.le_of_lt z0), UG b0 hb⟩
end Go.Proofs.YthmihglfffeedaaDoor

namespace Go.Proofs.YthmihglfffeedaaDoor
open Go.RowKit

section
variable {P : Program} {w : World}

theorem where_bytes {t ty e : TypeId} (ht : P.underlying t = some (.slice e)) (hinfo : (P.info? e).map (fun i => (i.zero, i.size, i.bytes)) = some (some (.int .u8 0), 1, 1))
  {base : Nat} {v vx : Value} {l m : List Int} (hown : Own base e w v l) (hr : Reads w vx m) (hlen : l.length + m.length ≤ 1099511627776) (hbase : base ≤ w.heap.size) {v' : Value} {w' : World}
  (hrun : (Builtin.append_ #[t, t] ty #[v, vx]).run P w = .ok v' w') : v'.ownBlock = v.ownBlock ∨ v'.ownBlock = some w.heap.size := by
 obtain ⟨i0, hi, hz0, hz1, hz2⟩ := info_parts hinfo
 rcases hr with ⟨rfl, rfl⟩ | ⟨ad, cap, rfl, hc⟩
 ·rw [run_append_owned_none w base t ty e i0 1 ht hi v l.length (l.map (Value.int .u8)) hown] at hrun
  simp only [Result.ok.injEq] at hrun
  left; rw [hrun.1]
 ·obtain ⟨v2, w2, h1, _, _, h4⟩ := run_append_own (P := P) w base t ty e i0 (.int .u8 0) 1 1 ht hi hz0 hz1 hz2 rfl (by decide) v l.length (l.map (Value.int .u8)) hown ad m.length cap (m.map (Value.int .u8)) (by simp) (news_of hc) (one_of m) (by unfold maxLen; omega) (by omega) hbase
  rcases hown.2 with ⟨rfl, h0⟩ | ⟨g, cp, cur, rfl, hbg, hg, hnc, hcm, hcs, htake⟩
  ·by_cases hm : m.length = 0
   ·rw [h1] at hrun
    simp only [Result.ok.injEq] at hrun
    have := h4.2 ⟨rfl, hm⟩
    rw [← hrun.1, this]
    exact .inl rfl
   ·rw [run_append_nil (P := P) w t ty e i0 (.int .u8 0) ht hi hz0 ad m.length cap (m.map (Value.int .u8)) (by simp [hz1]) (news_of hc) (by omega) (by omega) (by rw [hz2]; omega)] at hrun
    simp only [Result.ok.injEq] at hrun
    right; rw [← hrun.1]; rfl
  ·by_cases hroom : l.length + m.length ≤ cp
   ·rw [run_append_room (P := P) w t ty e i0 ht hi g l.length cp cur hg ad m.length cap (m.map (Value.int .u8)) (by simp [hz1]) (news_of hc) (one_of m) hroom (by rw [hz1]; simp; omega)] at hrun
    simp only [Result.ok.injEq] at hrun
    left; rw [← hrun.1]; rfl
   ·have holds : ∀ j u, (l.map (Value.int .u8))[j]? = some u → w.cell? ((⟨g, 0, none⟩ : Addr).add j) = some u := World.ownsRow.cells hown (g := g) rfl
    rw [run_append_grow (P := P) w t ty e i0 (.int .u8 0) ht hi hz0 ⟨g, 0, none⟩ l.length cp (l.map (Value.int .u8)) (by simp [hz1]) holds ad m.length cap (m.map (Value.int .u8)) (by simp [hz1]) (news_of hc) (by omega) (by omega) (growslice_fits (by omega) (by rw [hz2]; omega))] at hrun
    simp only [Result.ok.injEq] at hrun
    right; rw [← hrun.1]; rfl

end

structure Moved (w w' : World) (v v' : Value) : Prop where
 kept : w.grownBy w' v.ownBlock
 own : v'.ownBlock = v.ownBlock ∨ ∀ q, v'.ownBlock = some q → w.heap.size ≤ q
theorem Moved.refl (w : World) (v : Value) : Moved w w v v := ⟨⟨rfl, rfl, rfl, Nat.le_refl _, fun _ _ _ => rfl⟩, .inl rfl⟩
theorem Moved.below {w a b : World} {v u : Value} (h : Moved w a v u) (hb : Below a.heap.size a b) : Moved w b v u :=
 ⟨⟨hb.os.trans h.kept.os, hb.tape.trans h.kept.tape, hb.output.trans h.kept.output, Nat.le_trans h.kept.size hb.size, fun k hk hne => (hb.block k (Nat.lt_of_lt_of_le hk h.kept.size)).trans (h.kept.block k hk hne)⟩, h.own⟩
end Go.Proofs.YthmihglfffeedaaDoor

namespace Go.Proofs.YthmihglfffeedaaDoor
open Go.RowKit
set_option linter.unusedVariables false

def App (B : Nat) (e : TypeId) (w : World) (v : Value) (l : List Int) : Prop :=
 Own B e w v l ∨ ∃ a, v = .slice (some a) l.length l.length ∧ B ≤ a.block ∧ a.block < w.heap.size ∧ ∀ j, j < l.length → w.cell? (a.add j) = some (.int .u8 (l.getD j 0))
theorem App.reads {B : Nat} {e : TypeId} {w : World} {v : Value} {l : List Int} (h : App B e w v l) : Reads w v l := by
 rcases h with h | ⟨a, rfl, _, _, hc⟩
 ·exact h.reads
 ·exact .inr ⟨a, _, rfl, hc⟩
theorem App.mono {B B' : Nat} {e : TypeId} {w : World} {v : Value} {l : List Int} (h : App B e w v l) (hB : B' ≤ B) : App B' e w v l := by
 rcases h with h | ⟨a, rfl, hb, hc⟩
 ·exact .inl (h.mono hB)
 ·exact .inr ⟨a, rfl, by omega, hc⟩
theorem App.below {B : Nat} {e : TypeId} {w w' : World} {v : Value} {l : List Int} (h : App B e w v l) (hb : Below w.heap.size w w') : App B e w' v l := by
 rcases h with h | ⟨a, rfl, h1, h2, hc⟩
 ·exact .inl (h.below hb)
 ·exact .inr ⟨a, rfl, h1, Nat.lt_of_lt_of_le h2 hb.size, fun j hj => by
   have := hc j hj
   have hl := cell_lt this
   rw [hb.cell hl]; exact this⟩
theorem App.lt {B : Nat} {e : TypeId} {w : World} {v : Value} {l : List Int} (h : App B e w v l) : ∀ k, v.ownBlock = some k → B ≤ k ∧ k < w.heap.size := by
 rcases h with h | ⟨a, rfl, h1, h2, hc⟩
 ·exact h.lt
 ·intro k hk
  simp only [Value.ownBlock, Option.some.injEq] at hk
  omega
theorem App.alloc {B : Nat} {e : TypeId} {w : World} {v : Value} {l : List Int} (h : App B e w v l) (o : Obj) : App B e (w.alloc o) v l := h.below (UI o)

theorem run_append_app {P : Program} {w : World} (t ty e : TypeId) (ht : P.underlying t = some (.slice e))
  (hinfo : (P.info? e).map (fun i => (i.zero, i.size, i.bytes)) = some (some (.int .u8 0), 1, 1))
  (base : Nat) (v vx : Value) (l m : List Int) (hown : App base e w v l) (hr : Reads w vx m) (h0 : 0 < m.length) (hlen : l.length + m.length ≤ 1099511627776) (hbase : base ≤ w.heap.size) :
  ∃ v' w', (Builtin.append_ #[t, t] ty #[v, vx]).run P w = .ok v' w' ∧ Own base e w' v' (l ++ m) ∧ w.grownBy w' v.ownBlock ∧ (v'.ownBlock = v.ownBlock ∨ v'.ownBlock = some w.heap.size) := by
 obtain ⟨i0, hi, hz0, hz1, hz2⟩ := info_parts hinfo
 have hr0 := hr
 rcases hr with ⟨rfl, rfl⟩ | ⟨ad, cap, rfl, hc⟩
 ·simp at h0
 rcases hown with hown | ⟨a, rfl, hb, _, ho⟩
 ·obtain ⟨v', w', h1, h2, h3, _⟩ := run_append_own (P := P) w base t ty e i0 (.int .u8 0) 1 1 ht hi hz0 hz1 hz2 rfl (by decide) v l.length (l.map (Value.int .u8)) hown ad m.length cap (m.map (Value.int .u8)) (by simp) (news_of hc) (one_of m) (by unfold maxLen; omega) (by omega) hbase
  exact ⟨v', w', h1, by simpa [Own] using h2, h3, where_bytes ht hinfo hown hr0 hlen hbase h1⟩
 ·have hrun := run_append_grow (P := P) w t ty e i0 (.int .u8 0) ht hi hz0 a l.length l.length (l.map (Value.int .u8)) (by simp [hz1]) (news_of ho) ad m.length cap (m.map (Value.int .u8)) (by simp [hz1]) (news_of hc) (by omega) (by omega) (growslice_fits (by omega) (by rw [hz2]; omega))
  refine ⟨_, _, hrun, ?_, ?_, .inr rfl⟩
  ·have hgc := grownCap_ge w (l.length + m.length) l.length e
   have hgm := grownCap_le_maxLen w (l.length + m.length) l.length e (by unfold maxLen; omega)
   refine ⟨by simp, .inr ⟨w.heap.size, _, _, by rw [List.length_append], hbase, heap_alloc_new w.drew _, by rw [List.length_append]; exact hgc, hgm, ?_, ?_⟩⟩
   ·simp only [Array.size_append, List.size_toArray, List.length_map, size_zeroCells, Value.cells, Nat.mul_one]
    first | omega | (simp; omega)
   ·simp only [Array.toList_append, List.map_append, Nat.mul_one, List.length_append]
    rw [List.append_assoc, ← List.append_assoc, List.take_append_of_le_length (by simp), List.take_of_length_le (by simp)]
  ·exact ⟨rfl, rfl, rfl, by show w.heap.size ≤ (w.drew.heap.push _).size; rw [Array.size_push]; exact Nat.le_succ _, fun k hk _ => heap_alloc_old w.drew _ hk⟩
theorem app_wp {P : Program} {w : World} {o : Oper} {a : Act} {K : Act → World → Prop} {Q : Exit → Act → World → Prop} (s x : Operand) (t e : TypeId)
  (ho : o.op = .call { callee := .builtin .append, args := #[s, x], argTypes := #[t, t] }) (ht : P.underlying t = some (.slice e))
  (hinfo : (P.info? e).map (fun i => (i.zero, i.size, i.bytes)) = some (some (.int .u8 0), 1, 1))
  (base : Nat) (v vx : Value) (l m : List Int) (hs : a.eval s = v) (hx : a.eval x = vx) (hown : App base e w v l) (hr : Reads w vx m) (h0 : 0 < m.length) (hlen : l.length + m.length ≤ 1099511627776) (hbase : base ≤ w.heap.size)
  (h : ∀ v' w', Own base e w' v' (l ++ m) → w.grownBy w' v.ownBlock → (v'.ownBlock = v.ownBlock ∨ v'.ownBlock = some w.heap.size) → K (a.put o.dst v') w') : Oper.wp P o a w K Q := by
 obtain ⟨v', w', hr', h2, h3, h4⟩ := run_append_app (P := P) t o.type e ht hinfo base v vx l m hown hr h0 hlen hbase
 unfold Oper.wp execOp
 simp only [ho, resolve, invoke, builtin, Sem.run_bind, Sem.run_pure, Result.andThen_ok, List.map_toArray, List.map_cons, List.map_nil, hs, hx, hr']
 exact h v' w' h2 h3 h4
theorem strCells_int (t : List Int) (hb : ∀ x ∈ t, 0 ≤ x ∧ x ≤ 255) : Lib.strCells (strOfNums t) = t.map (Value.int .u8) := by
 rw [Lib.strCells_eq]
 unfold Lib.byteCells
 rw [strOfNums_data, List.map_map]
 apply List.map_congr_left
 intro x hx
 have := hb x hx
 simp only [Function.comp, UInt8.toNat_ofNat']
 congr 1
 omega
theorem apps_wp {P : Program} {w : World} {o : Oper} {a : Act} {K : Act → World → Prop} {Q : Exit → Act → World → Prop} (s x : Operand) (t u e : TypeId)
  (ho : o.op = .call { callee := .builtin .append, args := #[s, x], argTypes := #[t, u] }) (ht : P.underlying t = some (.slice e)) (hu : P.underlying u = some .string)
  (hinfo : (P.info? e).map (fun i => (i.zero, i.size, i.bytes)) = some (some (.int .u8 0), 1, 1))
  (base : Nat) (v : Value) (l m : List Int) (hs : a.eval s = v) (hx : a.eval x = .string (strOfNums m)) (hm : ∀ c ∈ m, 0 ≤ c ∧ c ≤ 255) (hown : Own base e w v l) (h0 : 0 < l.length) (hlen : l.length + m.length ≤ 1099511627776) (hbase : base ≤ w.heap.size)
  (h : ∀ v' w', Own base e w' v' (l ++ m) → w.grownBy w' v.ownBlock → (v'.ownBlock = v.ownBlock ∨ v'.ownBlock = some w.heap.size) → K (a.put o.dst v') w') : Oper.wp P o a w K Q := by
 obtain ⟨i0, hi, hz0, hz1, hz2⟩ := info_parts hinfo
 obtain ⟨v', w', hr', h2, h3, _⟩ := Lib.run_append_own_string (P := P) w base t u o.type e i0 ht hu hi hz0 hz1 hz2 v l.length (l.map (Value.int .u8)) hown (strOfNums m) (by rw [strOfNums_size]; unfold maxLen; omega) (by rw [strOfNums_size]; omega) hbase
 have h2' : Own base e w' v' (l ++ m) := by
  rw [strCells_int m hm, strOfNums_size] at h2
  simpa [Own] using h2
 have h4 : v'.ownBlock = v.ownBlock ∨ v'.ownBlock = some w.heap.size := by
  have hrun := hr'
  have hsz := strOfNums_size m
  rcases hown.2 with ⟨rfl, e0⟩ | ⟨g, cp, cur, rfl, hbg, hg, hnc, hcm, hcs, htake⟩
  ·omega
  ·by_cases hroom : l.length + (strOfNums m).size ≤ cp
   ·rw [Lib.run_append_room_string (P := P) w t u o.type e i0 ht hu hi hz1 g l.length cp cur hg (strOfNums m) hroom (by simp at hcs; omega)] at hrun
    simp only [Result.ok.injEq] at hrun
    left; rw [← hrun.1]; rfl
   ·have holds : ∀ j u, (l.map (Value.int .u8))[j]? = some u → w.cell? ((⟨g, 0, none⟩ : Addr).add j) = some u := World.ownsRow.cells hown (g := g) rfl
    rw [Lib.run_append_grow_string (P := P) w t u o.type e i0 (.int .u8 0) ht hu hi hz0 ⟨g, 0, none⟩ l.length cp (l.map (Value.int .u8)) (by rw [hz1]; simp) holds (strOfNums m) (by omega) (by omega) (by rw [hz2]; exact growslice_fits (by omega) (by omega))] at hrun
    simp only [Result.ok.injEq] at hrun
    right; rw [← hrun.1]; rfl
 unfold Oper.wp execOp
 simp only [ho, resolve, invoke, builtin, Sem.run_bind, Sem.run_pure, Result.andThen_ok, List.map_toArray, List.map_cons, List.map_nil, hs, hx, hr']
 exact h v' w' h2' h3 h4

def Sep (q : Nat) (e : TypeId) (w : World) : Prop := w.heap[q]? = some (.cells #[.int .u8 32] e)
theorem Sep.reads {q : Nat} {e : TypeId} {w : World} (h : Sep q e w) : Reads w (.slice (some ⟨q, 0, none⟩) 1 1) [32] := .inr ⟨_, 1, rfl, fun j hj => by
 obtain rfl : j = 0 := by simpa using hj
 rw [Addr.add_lit]
 exact VE h 0⟩
theorem Sep.below {q : Nat} {e : TypeId} {w w' : World} (h : Sep q e w) (hb : Below w.heap.size w w') : Sep q e w' := UE hb h
theorem Sep.grown {q : Nat} {e : TypeId} {w w' : World} {r : Option Nat} (h : Sep q e w) (g : w.grownBy w' r) (hne : r ≠ some q) : Sep q e w' := (g.block q (VC h) (Ne.symm hne)).trans h
theorem apart_next {q : Nat} {e : TypeId} {w : World} {v v' : Value} (h : Sep q e w) (hne : v.ownBlock ≠ some q) (hw : v'.ownBlock = v.ownBlock ∨ v'.ownBlock = some w.heap.size) : v'.ownBlock ≠ some q := by
 have hq := VC h
 rcases hw with e1 | e1
 ·rw [e1]; exact hne
 ·rw [e1]
  intro c
  cases c
  omega
end Go.Proofs.YthmihglfffeedaaDoor
