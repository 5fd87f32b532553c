/-
  Plain facts: where an append to an own row of bytes leaves it: in its block, or in a new one. No program is named here. Plain facts: a record's data as bytes. No program is named here. Plain facts: what DataPut and RrPut answer. No program is named here. Contracts of the specification's l2put and NamePut. Contracts of the specification's Put32.
-/
import Derived.Test.YthmihglfffeedaaGreatDoorFnRecordsG01
import Derived.Test.YthmihglfffeedaaGreatDoorFnRecordsG03
import Derived.Test.YthmihglfffeedaaGreatDoorFnRecordsG08
import Derived.Test.YthmihglfffeedaaGreatDoorFnRecordsG06
import Derived.Deep.RegionHeld3
import Derived.Test.YthmihglfffeedaaGreatDoorFnRecordsG02
import Derived.Test.YthmihglfffeedaaGreatDoorFnRecordsG00
namespace Go.Proofs.YthmihglfffeedaaGreatDoor
open Go.RowKit

section
variable {P : Program} {w : World}

theorem where_bytes {t ty e : TypeId} (ht : P.underlying t = some (.slice e)) (hinfo : (P.info? e).map (fun i => (i.zero, i.size, i.bytes)) = some (some (.int .u8 0), 1, 1))
  {base : Nat} {v vx : Value} {l m : List Int} (hown : Own base e w v l) (hr : Reads w vx m) (hlen : l.length + m.length ≤ 1099511627776) (hbase : base ≤ w.heap.size) {v' : Value} {w' : World}
  (hrun : (Builtin.append_ #[t, t] ty #[v, vx]).run P w = .ok v' w') : v'.ownBlock = v.ownBlock ∨ v'.ownBlock = some w.heap.size := by
 obtain ⟨i0, hi, hz0, hz1, hz2⟩ := info_parts hinfo
 rcases hr with ⟨rfl, rfl⟩ | ⟨ad, cap, rfl, hc⟩
 ·rw [run_append_owned_none w base t ty e i0 1 ht hi v l.length (l.map (Value.int .u8)) hown] at hrun
  simp only [Result.ok.injEq] at hrun
  left; rw [hrun.1]
 ·obtain ⟨v2, w2, h1, _, _, h4⟩ := run_append_own (P := P) w base t ty e i0 (.int .u8 0) 1 1 ht hi hz0 hz1 hz2 rfl (by decide) v l.length (l.map (Value.int .u8)) hown ad m.length cap (m.map (Value.int .u8)) (by simp) (news_of hc) (one_of m) (by unfold maxLen; omega) (by omega) hbase
  rcases hown.2 with ⟨rfl, h0⟩ | ⟨g, cp, cur, rfl, hbg, hg, hnc, hcm, hcs, htake⟩
  ·by_cases hm : m.length = 0
   ·rw [h1] at hrun
    simp only [Result.ok.injEq] at hrun
    have := h4.2 ⟨rfl, hm⟩
    rw [← hrun.1, this]
    exact .inl rfl
   ·rw [run_append_nil (P := P) w t ty e i0 (.int .u8 0) ht hi hz0 ad m.length cap (m.map (Value.int .u8)) (by simp [hz1]) (news_of hc) (by omega) (by omega) (by rw [hz2]; omega)] at hrun
    simp only [Result.ok.injEq] at hrun
    right; rw [← hrun.1]; rfl
  ·by_cases hroom : l.length + m.length ≤ cp
   ·rw [run_append_room (P := P) w t ty e i0 ht hi g l.length cp cur hg ad m.length cap (m.map (Value.int .u8)) (by simp [hz1]) (news_of hc) (one_of m) hroom (by rw [hz1]; simp; omega)] at hrun
    simp only [Result.ok.injEq] at hrun
    left; rw [← hrun.1]; rfl
   ·have holds : ∀ j u, (l.map (Value.int .u8))[j]? = some u → w.cell? ((⟨g, 0, none⟩ : Addr).add j) = some u := World.ownsRow.cells hown (g := g) rfl
    rw [run_append_grow (P := P) w t ty e i0 (.int .u8 0) ht hi hz0 ⟨g, 0, none⟩ l.length cp (l.map (Value.int .u8)) (by simp [hz1]) holds ad m.length cap (m.map (Value.int .u8)) (by simp [hz1]) (news_of hc) (by omega) (by omega) (growslice_fits (by omega) (by rw [hz2]; omega))] at hrun
    simp only [Result.ok.injEq] at hrun
    right; rw [← hrun.1]; rfl

theorem step_append_where {ops : Array Oper} {o : Oper} {a : Act} {K : Act → World → Prop} {Q : Exit → Act → World → Prop} {E : Prop} (hgd : o.guard = none) (s x : Operand) (t e : TypeId)
  (ho : o.op = .call { callee := .builtin .append, args := #[s, x], argTypes := #[t, t] }) (ht : P.underlying t = some (.slice e))
  (hinfo : (P.info? e).map (fun i => (i.zero, i.size, i.bytes)) = some (some (.int .u8 0), 1, 1))
  (base : Nat) (v vx : Value) (l m : List Int) (hs : a.eval s = v) (hx : a.eval x = vx) (hown : Own base e w v l) (hr : Reads w vx m) (hlen : l.length + m.length ≤ 1099511627776) (hbase : base ≤ w.heap.size)
  (h : ∀ v' w', Own base e w' v' (l ++ m) → w.grownBy w' v.ownBlock → (v'.ownBlock = v.ownBlock ∨ v'.ownBlock = some w.heap.size) → K (a.put o.dst v') w') : if Region.wanted o (yielded ops a.tmps) = true then Oper.wp P o a w K Q else E := by
 have hw : Region.wanted o (yielded ops a.tmps) = true := by simp [Region.wanted, hgd]
 rw [if_pos hw]
 obtain ⟨v', w', hr', h2, h3⟩ := run_append_bytes (P := P) t o.type e ht hinfo base v vx l m hown hr hlen hbase
 have h4 := where_bytes ht hinfo hown hr hlen hbase hr'
 unfold Oper.wp execOp
 simp only [ho, resolve, invoke, builtin, Sem.run_bind, Sem.run_pure, Result.andThen_ok, List.map_toArray, List.map_cons, List.map_nil, hs, hx, hr']
 exact h v' w' h2 h3 h4
theorem append_where {ops : Array Oper} {rest : List Oper} {o : Oper} {a : Act} {Q : Exit → Act → World → Prop} (hgd : o.guard = none) (s x : Operand) (t e : TypeId)
  (ho : o.op = .call { callee := .builtin .append, args := #[s, x], argTypes := #[t, t] }) (ht : P.underlying t = some (.slice e))
  (hinfo : (P.info? e).map (fun i => (i.zero, i.size, i.bytes)) = some (some (.int .u8 0), 1, 1))
  (base : Nat) (v vx : Value) (l m : List Int) (hs : a.eval s = v) (hx : a.eval x = vx) (hown : Own base e w v l) (hr : Reads w vx m) (hlen : l.length + m.length ≤ 1099511627776) (hbase : base ≤ w.heap.size)
  (h : ∀ v' w', Own base e w' v' (l ++ m) → w.grownBy w' v.ownBlock → (v'.ownBlock = v.ownBlock ∨ v'.ownBlock = some w.heap.size) → wpList P ops Q rest (a.put o.dst v') w') : wpList P ops Q (o :: rest) a w := by
 refine wpList_plain hgd fun _ hK => ?_
 obtain ⟨v', w', hr', h2, h3⟩ := run_append_bytes (P := P) t o.type e ht hinfo base v vx l m hown hr hlen hbase
 have h4 := where_bytes ht hinfo hown hr hlen hbase hr'
 unfold Oper.wp execOp
 simp only [ho, resolve, invoke, builtin, Sem.run_bind, Sem.run_pure, Result.andThen_ok, List.map_toArray, List.map_cons, List.map_nil, hs, hx, hr']
 exact hK _ _ (h v' w' h2 h3 h4)
end

structure Moved (w w' : World) (v v' : Value) : Prop where
 kept : w.grownBy w' v.ownBlock
 own : v'.ownBlock = v.ownBlock ∨ ∀ q, v'.ownBlock = some q → w.heap.size ≤ q
theorem Moved.refl (w : World) (v : Value) : Moved w w v v := ⟨⟨rfl, rfl, rfl, Nat.le_refl _, fun _ _ _ => rfl⟩, .inl rfl⟩
theorem Moved.step {w a b : World} {v u u' : Value} (h : Moved w a v u) (g : a.grownBy b u.ownBlock) (hw : u'.ownBlock = u.ownBlock ∨ u'.ownBlock = some a.heap.size) : Moved w b v u' := by
 refine ⟨⟨g.os.trans h.kept.os, g.tape.trans h.kept.tape, g.output.trans h.kept.output, Nat.le_trans h.kept.size g.size, fun k hk hne => ?_⟩, ?_⟩
 ·refine (g.block k (Nat.lt_of_lt_of_le hk h.kept.size) (fun e => ?_)).trans (h.kept.block k hk hne)
  rcases h.own with h1 | h1
  ·rw [h1] at e; exact hne e
  ·have := h1 k e.symm; omega
 ·rcases hw with hw | hw
  ·rw [hw]; exact h.own
  ·right
   intro q hq
   rw [hw] at hq
   have := h.kept.size
   simp at hq
   omega
theorem Moved.below {w a b : World} {v u : Value} (h : Moved w a v u) (hb : Below a.heap.size a b) : Moved w b v u :=
 ⟨⟨hb.os.trans h.kept.os, hb.tape.trans h.kept.tape, hb.output.trans h.kept.output, Nat.le_trans h.kept.size hb.size, fun k hk hne => (hb.block k (Nat.lt_of_lt_of_le hk h.kept.size)).trans (h.kept.block k hk hne)⟩, h.own⟩
end Go.Proofs.YthmihglfffeedaaGreatDoor

namespace Go.Proofs.YthmihglfffeedaaGreatDoor
open Go.RowKit

def dataB (r : Rec) : List Int :=
 if r.type = 1 then put32 [] r.addr else if r.type = 6 then put32 (put32 (wire r.to) (r.nums.getD 0 0)) (r.nums.getD 1 0) else if named r.type = true then wire r.to else (r.text.length : Int) :: r.text

theorem data_kinds {r : Rec} (ht : typeOk r.type = true) (h : dataOk r = true) :
  (r.type = 1 ∧ 0 ≤ r.addr ∧ r.addr ≤ 4294967295 ∧ dataB r = put32 [] r.addr) ∨ ((r.type = 2 ∨ r.type = 5 ∨ r.type = 12) ∧ nameOk r.to = true ∧ dataB r = wire r.to) ∨
  (r.type = 6 ∧ nameOk r.to = true ∧ (∃ x y, r.nums = [x, y] ∧ 0 ≤ x ∧ x ≤ 4294967295 ∧ 0 ≤ y ∧ y ≤ 100000 ∧ dataB r = put32 (put32 (wire r.to) x) y)) ∨ ((r.type = 16 ∨ r.type = 49) ∧ r.text.length ≤ 40 ∧ dataB r = (r.text.length : Int) :: r.text) := by
 have ht' : r.type = 1 ∨ r.type = 2 ∨ r.type = 5 ∨ r.type = 6 ∨ r.type = 12 ∨ r.type = 16 ∨ r.type = 49 := of_decide_eq_true ht
 unfold dataOk at h
 simp only [Bool.and_eq_true] at h
 obtain ⟨h1, h2, h3, h4⟩ := h
 by_cases e1 : r.type = 1
 ·left
  rw [if_pos e1] at h1
  have := of_decide_eq_true h1
  exact ⟨e1, this.1, this.2, by unfold dataB; rw [if_pos e1]⟩
 by_cases e6 : r.type = 6
 ·right; right; left
  have hn : named r.type = true := decide_eq_true (by omega)
  rw [if_pos hn] at h2
  rw [if_pos e6] at h4
  have h5 := of_decide_eq_true h4
  obtain ⟨x, y, hxy⟩ := two_of h5.1
  rw [hxy] at h5
  refine ⟨e6, h2, x, y, hxy, h5.2.1, h5.2.2.1, h5.2.2.2.1, h5.2.2.2.2, ?_⟩
  unfold dataB
  rw [if_neg e1, if_pos e6, hxy]
  rfl
 by_cases en : r.type = 2 ∨ r.type = 5 ∨ r.type = 12
 ·right; left
  have hn : named r.type = true := decide_eq_true (by omega)
  rw [if_pos hn] at h2
  exact ⟨en, h2, by unfold dataB; rw [if_neg e1, if_neg e6, if_pos hn]⟩
 ·right; right; right
  have hx : texted r.type = true := decide_eq_true (by omega)
  have hn : ¬ named r.type = true := by
   intro hh
   have : r.type = 2 ∨ r.type = 5 ∨ r.type = 6 ∨ r.type = 12 := of_decide_eq_true hh
   omega
  rw [if_pos hx] at h3
  exact ⟨by omega, of_decide_eq_true h3, by unfold dataB; rw [if_neg e1, if_neg e6, if_neg hn]⟩
theorem rrOk_parts {r : Rec} (h : rrOk r = true) : nameOk r.name = true ∧ typeOk r.type = true ∧ 0 ≤ r.ttl ∧ r.ttl ≤ 100000 ∧ dataOk r = true := by
 unfold rrOk at h
 simp only [Bool.and_eq_true] at h
 have := of_decide_eq_true h.2.2.1
 exact ⟨h.1, h.2.1, this.1, this.2, h.2.2.2⟩
theorem dataB_length {r : Rec} (h : rrOk r = true) : (dataB r).length ≤ 105 := by
 obtain ⟨_, ht, _, _, hd⟩ := rrOk_parts h
 rcases data_kinds ht hd with ⟨_, _, _, e⟩ | ⟨_, hn, e⟩ | ⟨_, hn, x, y, _, _, _, _, _, e⟩ | ⟨_, hx, e⟩
 ·rw [e]; have := put32_length [] r.addr; simp at this; omega
 ·rw [e]; have := wire_length r.to hn; omega
 ·rw [e]
  have h1 := wire_length r.to hn
  have h2 := put32_length (wire r.to) x
  have h3 := put32_length (put32 (wire r.to) x) y
  omega
 ·rw [e]; simp; omega
end Go.Proofs.YthmihglfffeedaaGreatDoor

namespace Go.Proofs.YthmihglfffeedaaGreatDoor
open Go.RowKit

def dataPut (r : Rec) : List Int × Bool := if rrOk r = true then (dataB r, true) else ([], false)
theorem dataPut_yes {r : Rec} (h : rrOk r = true) : dataPut r = (dataB r, true) := by unfold dataPut; rw [if_pos h]
theorem dataPut_no {r : Rec} (h : rrOk r = false) : dataPut r = ([], false) := by unfold dataPut; rw [if_neg (by simp [h])]
def classB (l : List Int) (r : Rec) (c : Int) (D : List Int) : List Int := put16 (put32 (put16 (put16 (l ++ wire r.name) r.type) c) r.ttl) D.length ++ D
def rrB (l : List Int) (r : Rec) : List Int := put16 (put32 (put16 (put16 (l ++ wire r.name) r.type) 1) r.ttl) (dataB r).length ++ dataB r
def rrPut (l : List Int) (r : Rec) : List Int × Bool := if rrOk r = true then (rrB l r, true) else ([], false)
theorem rrPut_yes {l : List Int} {r : Rec} (h : rrOk r = true) : rrPut l r = (rrB l r, true) := by unfold rrPut; rw [if_pos h]
theorem rrPut_no {l : List Int} {r : Rec} (h : rrOk r = false) : rrPut l r = ([], false) := by unfold rrPut; rw [if_neg (by simp [h])]
theorem rrB_length (l : List Int) {r : Rec} (h : rrOk r = true) : (rrB l r).length ≤ l.length + 212 := by
 have h1 := wire_length r.name (rrOk_parts h).1
 have h2 := dataB_length h
 have h3 := put16_length (l ++ wire r.name) r.type
 have h4 := put16_length (put16 (l ++ wire r.name) r.type) 1
 have h5 := put32_length (put16 (put16 (l ++ wire r.name) r.type) 1) r.ttl
 have h6 := put16_length (put32 (put16 (put16 (l ++ wire r.name) r.type) 1) r.ttl) (dataB r).length
 unfold rrB
 rw [List.length_append] at h3 ⊢
 omega
end Go.Proofs.YthmihglfffeedaaGreatDoor

namespace Go.Proofs.YthmihglfffeedaaGreatDoor
open Go.RowKit
set_option linter.unusedVariables false

set_option maxHeartbeats 2000000 in
set_option maxRecDepth 100000 in
theorem l2put_own {B : Nat} {vb v : Value} {l : List Int} {n : List (List Int)} {w : World} (hvb : Own B 5 w vb l) (hB : B ≤ w.heap.size) (hl : l.length ≤ 1099511620000) (h : HasLAt B w v n) (h6 : n.length ≤ 6) (hlen : ∀ k, k < n.length → (n.getD k []).length ≤ 15) (hdl : ∀ k, (wires n k).length ≤ 16 * k) :
  Calls Tryz.prog 64 #[vb, .agg #[v]] w fun e w' => ∃ v', e = .returned v' ∧ Own B 5 w' v' (l ++ wire n) ∧ Below B w w' := by
 obtain ⟨a, cap, rfl, hcl, hm⟩ := h.hasL.form
 unfold maxLen at hm
 have HDS := UC (wires_succ n)
 have HD0 := UC (wires_zero n)
 have HLEN := UC hlen
 have HDL := UC hdl
 clear hdl hlen
 unfold wire
 generalize wires n = D at *
 have b0 := UI (w := w) (.cells #[.slice a n.length cap] 25)
 have k0 := heap_alloc_new w (.cells #[.slice a n.length cap] 25)
 have h0 := UC (h.below b0)
 have v0 := UC (hvb.alloc (.cells #[.slice a n.length cap] 25))
 clear h hvb
 have z0 := VC k0
 generalize hn : n.length = m at *
 have HN := UC hn
 clear hn
 go_enter Tryz.func64, Tryz.ntmps64
 go_wp2
 generalize w.alloc (.cells #[.slice a m cap] 25) = w1 at *
 go_loopw [0, 5] (fun o i wr => ∃ k : Nat, k ≤ m ∧ i = .int .i64 k ∧ Own B 5 wr o (l ++ D k) ∧ Below B w1 wr ∧ wr.heap[w.heap.size]? = some (.cells #[.slice a m cap] 25)) (fun _ i _ => m - (intOf i).toNat)
 case atStart => exact ⟨0, Nat.zero_le _, rfl, by rw [UB HD0, List.append_nil]; exact UB v0, Below.refl _ _, k0⟩
 case round =>
  obtain ⟨k, hk, rfl, ho, hb, hk1⟩ := hrel
  have c1 := US hk1
  have zb : B ≤ wr.heap.size := by have := hb.size; omega
  have hdk := UB HDL k
  have hdk2 : (l ++ D k).length ≤ 1099511620000 + 96 := by rw [List.length_append]; omega
  by_cases hlt : k < m
  ·obtain ⟨b, off, u, rfl, hbl, hc, hu⟩ := ((UB h0).low hb (Nat.le_refl _)).here (k := k) (by rw [UB HN]; exact hlt)
   have hds := UC (UB HDS k hlt)
   have hlk := UB HLEN k hlt
   generalize n.getD k [] = lab at *
   have HU := UC hu
   obtain ⟨ua, uc, rfl, _⟩ := hu.form
   clear hu
   have hwrap := wrap_u8 lab.length (by omega)
   have hod := UC (ho.below (UX (w := wr)))
   have hbd := UC (hb.drew)
   have kd := UE (UX (w := wr)) hk1
   have hcd := US kd
   have hud : wr.drew.cell? ⟨b, off + k, none⟩ = some (.slice ua lab.length uc) := hc
   have HUAL := UC (show ∀ o, (wr.drew.alloc o).cell? ⟨b, off + k, none⟩ = some (.slice ua lab.length uc) from fun o => ((UI o).cell (p := ⟨b, off + k, none⟩) (by show b < wr.heap.size; omega)).trans hud)
   have KAL := UC (show ∀ o, (wr.drew.alloc o).heap[w.heap.size]? = some (.cells #[.slice (some ⟨b, off, none⟩) m cap] 25) from fun o => UE (UI o) kd)
   have BAL := UC (show ∀ o, Below B w1 (wr.drew.alloc o) from fun o => hb.drew.alloc zb o)
   have UAL := UC (show ∀ o, HasAt B (wr.drew.alloc o) (.slice ua lab.length uc) lab from fun o => (UB HU).low ((Below.refl B wr).drew.alloc zb o) (Nat.le_refl _))
   have ZAL := UC (show ∀ o, B ≤ (wr.drew.alloc o).heap.size from fun o => Nat.le_trans zb (UI (w := wr.drew) o).size)
   have KD := UC kd
   have HC := UC hc
   clear ho kd hud hcd hc
   go_wp2_with fail
   clear c1
   go_region_held3 (fun w' => w'.cell? ⟨w.heap.size, 0, none⟩ = some (.slice (some ⟨b, off, none⟩) m cap) ∧ w'.cell? ⟨b, off + k, none⟩ = some (.slice ua lab.length uc))
    (first | exact ⟨US (UB KD), UB HC⟩ | exact ⟨US (UB KAL _), UB HUAL _⟩ | exact ⟨US k2, u2⟩ | exact ⟨US k3, u3⟩)
    (first
    | (refine step_append_bytes rfl (.tmp 13) (.tmp 21) 22 5 rfl Tryz.underlying22 VJ B _ _ (l ++ D k) [(lab.length : Int)] (by simp [Act.eval]) (by simp [Act.eval]) ((UB hod).alloc _) (own_lit wr.drew 0 5 [(lab.length : Int)] (Nat.zero_le _) (by simp [maxLen])).reads (by simp only [List.length_cons, List.length_nil]; omega) (UB ZAL _) ?_; intro v2 w2 o2 g2; obtain ⟨k2, b2, z2, U2, u2⟩ := put_step g2 ((UB hod).alloc _) (UB ZAL _) (UB KAL _) (by decide) (UB BAL _) (UB UAL _) (UB HUAL _) hbl)
    | (refine step_append_bytes rfl (.tmp 22) (.tmp 27) 22 5 rfl Tryz.underlying22 VJ B _ _ ((l ++ D k) ++ [(lab.length : Int)]) lab (by simp [Act.eval]) (by simp [Act.eval]) o2 U2.has.reads (by rw [List.length_append, List.length_cons, List.length_nil]; omega) z2 ?_; intro v3 w3 o3 g3; obtain ⟨k3, b3, z3, U3, u3⟩ := put_step g3 o2 z2 k2 (by decide) b2 U2 u2 hbl))
   all_goals
    go_wp2_with fail
    exact ⟨⟨k + 1, by omega, by go_num, by rw [UB hds]; simpa only [List.append_assoc, List.singleton_append] using o3, b3, k3⟩, by simp [intOf]; omega⟩
  ·obtain rfl : k = m := by omega
   go_wp2_with (at_builtin; refine append_bytes rfl _ _ 22 5 rfl Tryz.underlying22 VJ B _ _ (l ++ D k) [0] rfl rfl (ho.alloc _) (own_lit wr 0 5 [0] (Nat.zero_le _) (by simp [maxLen])).reads (by simp only [List.length_cons, List.length_nil]; omega) (by simp; omega) ?_)
   intro v4 w4 o4 g4
   have b4 : Below B w1 w4 := (hb.alloc zb _).grown g4 (by simp; omega) (fun q hq => (ho.lt q hq).1)
   go_wp2_with fail
   go_ret
   exact ⟨v4, rfl, by simpa only [List.append_assoc] using o4, (b0.mono hB).trans b4⟩
set_option maxHeartbeats 800000
set_option maxRecDepth 100000

theorem specPut32_no {B : Nat} {v : Value} {l : List Int} (n : Int) {w : World} (h : Own B 5 w v l) (hl : l.length ≤ 1048576) (hn : n < 0 ∨ 4294967295 < n) :
  Calls Tryz.prog 62 #[v, .int .i64 n] w fun e w' => ∃ v', e = .returned v' ∧ Own w.heap.size 5 w' v' l ∧ Below w.heap.size w w' := by
 by_cases h0 : n < 0
 ·go_enter Tryz.func62, Tryz.ntmps62
  go_wp2_with (at_builtin; refine append_bytes rfl _ _ 22 5 rfl Tryz.underlying22 VJ w.heap.size _ v [] l rfl rfl (own_lit w w.heap.size 5 [] (Nat.le_refl _) (by simp)) (h.alloc _).reads (by simp; omega) (by simp) ?_)
  intro v' w2 hown hgrow
  go_wp2
  go_ret
  exact ⟨v', rfl, hown, ((Below.refl _ _).alloc (Nat.le_refl _) _).grown hgrow (by simp) (fun k hk => by simp [Value.ownBlock] at hk; omega)⟩
 ·have h1 : 4294967295 < n := by omega
  go_enter Tryz.func62, Tryz.ntmps62
  go_wp2_with (at_builtin; refine append_bytes rfl _ _ 22 5 rfl Tryz.underlying22 VJ w.heap.size _ v [] l rfl rfl (own_lit w w.heap.size 5 [] (Nat.le_refl _) (by simp)) (h.alloc _).reads (by simp; omega) (by simp) ?_)
  intro v' w2 hown hgrow
  go_wp2
  go_ret
  exact ⟨v', rfl, hown, ((Below.refl _ _).alloc (Nat.le_refl _) _).grown hgrow (by simp) (fun k hk => by simp [Value.ownBlock] at hk; omega)⟩

theorem specPut32_yes {B : Nat} {v : Value} {l : List Int} (n : Int) {w : World} (h : Own B 5 w v l) (hl : l.length ≤ 1048576) (h0 : 0 ≤ n) (h1 : n ≤ 4294967295) :
  Calls Tryz.prog 62 #[v, .int .i64 n] w fun e w' => ∃ v', e = .returned v' ∧ Own w.heap.size 5 w' v' (l ++ [n / 16777216, n / 65536 % 256, n / 256 % 256, n % 256]) ∧ Below w.heap.size w w' := by
 go_enter Tryz.func62, Tryz.ntmps62
 go_wp2_with (at_builtin; refine append_bytes rfl _ _ 22 5 rfl Tryz.underlying22 VJ w.heap.size _ v [] l rfl rfl (own_lit w w.heap.size 5 [] (Nat.le_refl _) (by simp)) (h.alloc _).reads (by simp; omega) (by simp) ?_)
 intro v1 w1 o1 hgrow
 have b1 : Below w.heap.size w w1 := ((Below.refl _ _).alloc (Nat.le_refl _) _).grown hgrow (by simp) (fun k hk => by simp [Value.ownBlock] at hk; omega)
 clear hgrow
 have hsz := b1.size
 go_wp2_with (at_builtin; refine append_bytes rfl _ _ 22 5 rfl Tryz.underlying22 VJ w.heap.size v1 _ l [n / 16777216, n / 65536 % 256, n / 256 % 256, n % 256] rfl rfl (o1.alloc _) (own_put32 w1 0 5 n (Nat.zero_le _)).reads (by simp; omega) (by simp; omega) ?_)
 intro v' w2 hown hgrow
 go_wp2
 go_ret
 exact ⟨v', rfl, hown, (b1.alloc hsz _).grown hgrow (by simp; omega) (fun k hk => (o1.lt k hk).1)⟩

theorem specPut32_any {B : Nat} {v : Value} {l : List Int} (n : Int) {w : World} (h : Own B 5 w v l) (hl : l.length ≤ 1048576) :
  Calls Tryz.prog 62 #[v, .int .i64 n] w fun e w' => ∃ v', e = .returned v' ∧ Own w.heap.size 5 w' v' (put32 l n) ∧ Below w.heap.size w w' := by
 by_cases hn : 0 ≤ n ∧ n ≤ 4294967295
 ·have e : put32 l n = l ++ [n / 16777216, n / 65536 % 256, n / 256 % 256, n % 256] := by unfold put32; rw [if_pos hn]
  rw [e]; exact specPut32_yes n h hl hn.1 hn.2
 ·have e : put32 l n = l := by unfold put32; rw [if_neg hn]
  rw [e]; exact specPut32_no n h hl (by omega)
end Go.Proofs.YthmihglfffeedaaGreatDoor
