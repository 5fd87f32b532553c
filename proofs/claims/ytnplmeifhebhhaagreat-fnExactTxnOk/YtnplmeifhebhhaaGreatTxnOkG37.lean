/-
  Contracts of the specification's l2put once more, with where it leaves the row; of its Put16 and Put32 for longer rows; of its l3rr and RrPut. Contract of the specification's l3rr.
-/
import Derived.Test.YtnplmeifhebhhaaGreatTxnOkG32
import Derived.Test.YtnplmeifhebhhaaGreatTxnOkG16
import Derived.Test.YtnplmeifhebhhaaGreatTxnOkG35
import Derived.Test.YtnplmeifhebhhaaGreatTxnOkG36
import Derived.Deep.RegionHeld3
import Derived.Deep.RegionWith
namespace Go.Proofs.YtnplmeifhebhhaaGreat
open Go.RowKit
set_option linter.unusedVariables false

set_option maxHeartbeats 2000000 in
set_option maxRecDepth 100000 in
theorem l2put_moved {B : Nat} {vb v : Value} {l : List Int} {n : List (List Int)} {w : World} (hvb : Own B 5 w vb l) (hB : B ≤ w.heap.size) (hl : l.length ≤ 1099511620000) (h : HasLAt B w v n) (h6 : n.length ≤ 6) (hlen : ∀ k, k < n.length → (n.getD k []).length ≤ 15) (hdl : ∀ k, (wires n k).length ≤ 16 * k) :
  Calls Tryz.prog 73 #[vb, .agg #[v]] w fun e w' => ∃ v', e = .returned v' ∧ Own B 5 w' v' (l ++ wire n) ∧ Below B w w' ∧ Moved w w' vb v' := by
 obtain ⟨a, cap, rfl, hcl, hm⟩ := h.hasL.form
 unfold maxLen at hm
 have HDS := hide (wires_succ n)
 have HD0 := hide (wires_zero n)
 have HLEN := hide hlen
 have HDL := hide hdl
 clear hdl hlen
 unfold wire
 generalize wires n = D at *
 have b0 := below_alloc (w := w) (.cells #[.slice a n.length cap] 69)
 have k0 := heap_alloc_new w (.cells #[.slice a n.length cap] 69)
 have h0 := hide (h.below b0)
 have v0 := hide (hvb.alloc (.cells #[.slice a n.length cap] 69))
 have MV0 := (Moved.refl w vb).below b0
 clear h hvb
 have z0 := block_lt k0
 generalize hn : n.length = m at *
 have HN := hide hn
 clear hn
 go_enter Tryz.func73, Tryz.ntmps73
 go_wp2
 generalize w.alloc (.cells #[.slice a m cap] 69) = w1 at *
 go_loopw [0, 5] (fun o i wr => ∃ k : Nat, k ≤ m ∧ i = .int .i64 k ∧ Own B 5 wr o (l ++ D k) ∧ Below B w1 wr ∧ wr.heap[w.heap.size]? = some (.cells #[.slice a m cap] 69) ∧ Moved w wr vb o) (fun _ i _ => m - (intOf i).toNat)
 case atStart => exact ⟨0, Nat.zero_le _, rfl, by rw [unhide HD0, List.append_nil]; exact unhide v0, Below.refl _ _, k0, MV0⟩
 case round =>
  obtain ⟨k, hk, rfl, ho, hb, hk1, hmv⟩ := hrel
  have c1 := block_one hk1
  have zb : B ≤ wr.heap.size := by have := hb.size; omega
  have hdk := unhide HDL k
  have hdk2 : (l ++ D k).length ≤ 1099511620000 + 96 := by rw [List.length_append]; omega
  by_cases hlt : k < m
  ·obtain ⟨b, off, u, rfl, hbl, hc, hu⟩ := ((unhide h0).low hb (Nat.le_refl _)).here (k := k) (by rw [unhide HN]; exact hlt)
   have hds := hide (unhide HDS k hlt)
   have hlk := unhide HLEN k hlt
   generalize n.getD k [] = lab at *
   have HU := hide hu
   obtain ⟨ua, uc, rfl, _⟩ := hu.form
   clear hu
   have hwrap := wrap_u8 lab.length (by omega)
   have hod := hide (ho.below (below_drew (w := wr)))
   have hbd := hide (hb.drew)
   have kd := block_kept (below_drew (w := wr)) hk1
   have hcd := block_one kd
   have hud : wr.drew.cell? ⟨b, off + k, none⟩ = some (.slice ua lab.length uc) := hc
   have HUAL := hide (show ∀ o, (wr.drew.alloc o).cell? ⟨b, off + k, none⟩ = some (.slice ua lab.length uc) from fun o => ((below_alloc o).cell (p := ⟨b, off + k, none⟩) (by show b < wr.heap.size; omega)).trans hud)
   have KAL := hide (show ∀ o, (wr.drew.alloc o).heap[w.heap.size]? = some (.cells #[.slice (some ⟨b, off, none⟩) m cap] 69) from fun o => block_kept (below_alloc o) kd)
   have BAL := hide (show ∀ o, Below B w1 (wr.drew.alloc o) from fun o => hb.drew.alloc zb o)
   have UAL := hide (show ∀ o, HasAt B (wr.drew.alloc o) (.slice ua lab.length uc) lab from fun o => (unhide HU).low ((Below.refl B wr).drew.alloc zb o) (Nat.le_refl _))
   have ZAL := hide (show ∀ o, B ≤ (wr.drew.alloc o).heap.size from fun o => Nat.le_trans zb (below_alloc (w := wr.drew) o).size)
   have MAL := hide (show ∀ o', Moved w (wr.drew.alloc o') vb _ from fun o' => (hmv.below below_drew).below (below_alloc o'))
   have KD := hide kd
   have HC := hide hc
   clear ho kd hud hcd hc
   go_wp2_with fail
   clear c1
   go_region_held3 (fun w' => w'.cell? ⟨w.heap.size, 0, none⟩ = some (.slice (some ⟨b, off, none⟩) m cap) ∧ w'.cell? ⟨b, off + k, none⟩ = some (.slice ua lab.length uc))
    (first | exact ⟨block_one (unhide KD), unhide HC⟩ | exact ⟨block_one (unhide KAL _), unhide HUAL _⟩ | exact ⟨block_one k2, u2⟩ | exact ⟨block_one k3, u3⟩)
    (first
    | (refine step_append_where rfl (.tmp 13) (.tmp 21) 37 5 rfl Tryz.underlying37 info_u8 B _ _ (l ++ D k) [(lab.length : Int)] (by simp [Act.eval]) (by simp [Act.eval]) ((unhide hod).alloc _) (own_lit wr.drew 0 5 [(lab.length : Int)] (Nat.zero_le _) (by simp [maxLen])).reads (by simp only [List.length_cons, List.length_nil]; omega) (unhide ZAL _) ?_; intro v2 w2 o2 g2 hw2; have m2 := (unhide MAL _).step g2 hw2; obtain ⟨k2, b2, z2, U2, u2⟩ := put_step g2 ((unhide hod).alloc _) (unhide ZAL _) (unhide KAL _) (by decide) (unhide BAL _) (unhide UAL _) (unhide HUAL _) hbl)
    | (refine step_append_where rfl (.tmp 22) (.tmp 27) 37 5 rfl Tryz.underlying37 info_u8 B _ _ ((l ++ D k) ++ [(lab.length : Int)]) lab (by simp [Act.eval]) (by simp [Act.eval]) o2 U2.has.reads (by rw [List.length_append, List.length_cons, List.length_nil]; omega) z2 ?_; intro v3 w3 o3 g3 hw3; have m3 := m2.step g3 hw3; obtain ⟨k3, b3, z3, U3, u3⟩ := put_step g3 o2 z2 k2 (by decide) b2 U2 u2 hbl))
   all_goals
    go_wp2_with fail
    exact ⟨⟨k + 1, by omega, by go_num, by rw [unhide hds]; simpa only [List.append_assoc, List.singleton_append] using o3, b3, k3, m3⟩, by simp [intOf]; omega⟩
  ·obtain rfl : k = m := by omega
   go_wp2_with (at_builtin; refine append_where rfl _ _ 37 5 rfl Tryz.underlying37 info_u8 B _ _ (l ++ D k) [0] rfl rfl (ho.alloc _) (own_lit wr 0 5 [0] (Nat.zero_le _) (by simp [maxLen])).reads (by simp only [List.length_cons, List.length_nil]; omega) (by simp; omega) ?_)
   intro v4 w4 o4 g4 hw4
   have m4 := Moved.step (u' := v4) (hmv.below (below_alloc _)) g4 (by rcases hw4 with h4 | h4; exact .inl h4; right; rw [h4]; simp)
   have b4 : Below B w1 w4 := (hb.alloc zb _).grown g4 (by simp; omega) (fun q hq => (ho.lt q hq).1)
   go_wp2_with fail
   go_ret
   exact ⟨v4, rfl, by simpa only [List.append_assoc] using o4, (b0.mono hB).trans b4, m4⟩

set_option maxHeartbeats 400000 in
set_option maxRecDepth 100000 in
theorem specPut16w_no {B : Nat} {v : Value} {l : List Int} (n : Int) {w : World} (h : Own B 5 w v l) (hl : l.length ≤ 2000000) (hn : n < 0 ∨ 65535 < n) :
  Calls Tryz.prog 72 #[v, .int .i64 n] w fun e w' => ∃ v', e = .returned v' ∧ Own w.heap.size 5 w' v' l ∧ Below w.heap.size w w' := by
 by_cases h0 : n < 0
 ·go_enter Tryz.func72, Tryz.ntmps72
  go_wp2_with (at_builtin; refine append_bytes rfl _ _ 37 5 rfl Tryz.underlying37 info_u8 w.heap.size _ v [] l rfl rfl (own_lit w w.heap.size 5 [] (Nat.le_refl _) (by simp)) (h.alloc _).reads (by simp; omega) (by simp) ?_)
  intro v' w2 hown hgrow
  go_wp2
  go_ret
  exact ⟨v', rfl, hown, ((Below.refl _ _).alloc (Nat.le_refl _) _).grown hgrow (by simp) (fun k hk => by simp [Value.ownBlock] at hk; omega)⟩
 ·have h1 : 65535 < n := by omega
  go_enter Tryz.func72, Tryz.ntmps72
  go_wp2_with (at_builtin; refine append_bytes rfl _ _ 37 5 rfl Tryz.underlying37 info_u8 w.heap.size _ v [] l rfl rfl (own_lit w w.heap.size 5 [] (Nat.le_refl _) (by simp)) (h.alloc _).reads (by simp; omega) (by simp) ?_)
  intro v' w2 hown hgrow
  go_wp2
  go_ret
  exact ⟨v', rfl, hown, ((Below.refl _ _).alloc (Nat.le_refl _) _).grown hgrow (by simp) (fun k hk => by simp [Value.ownBlock] at hk; omega)⟩

set_option maxHeartbeats 800000 in
set_option maxRecDepth 100000 in
theorem specPut16w_yes {B : Nat} {v : Value} {l : List Int} (n : Int) {w : World} (h : Own B 5 w v l) (hl : l.length ≤ 2000000) (h0 : 0 ≤ n) (h1 : n ≤ 65535) :
  Calls Tryz.prog 72 #[v, .int .i64 n] w fun e w' => ∃ v', e = .returned v' ∧ Own w.heap.size 5 w' v' (l ++ [n / 256, n % 256]) ∧ Below w.heap.size w w' := by
 go_enter Tryz.func72, Tryz.ntmps72
 go_wp2_with (at_builtin; refine append_bytes rfl _ _ 37 5 rfl Tryz.underlying37 info_u8 w.heap.size _ v [] l rfl rfl (own_lit w w.heap.size 5 [] (Nat.le_refl _) (by simp)) (h.alloc _).reads (by simp; omega) (by simp) ?_)
 intro v1 w1 o1 hgrow
 have b1 : Below w.heap.size w w1 := ((Below.refl _ _).alloc (Nat.le_refl _) _).grown hgrow (by simp) (fun k hk => by simp [Value.ownBlock] at hk; omega)
 clear hgrow
 have hsz := b1.size
 go_wp2_with (at_builtin; refine append_bytes rfl _ _ 37 5 rfl Tryz.underlying37 info_u8 w.heap.size v1 _ l [n / 256, n % 256] rfl rfl (o1.alloc _) (own_put16 w1 0 5 n (Nat.zero_le _)).reads (by simp; omega) (by simp; omega) ?_)
 intro v' w2 hown hgrow
 go_wp2
 go_ret
 exact ⟨v', rfl, hown, (b1.alloc hsz _).grown hgrow (by simp; omega) (fun k hk => (o1.lt k hk).1)⟩

theorem specPut16w_any {B : Nat} {v : Value} {l : List Int} (n : Int) {w : World} (h : Own B 5 w v l) (hl : l.length ≤ 2000000) :
  Calls Tryz.prog 72 #[v, .int .i64 n] w fun e w' => ∃ v', e = .returned v' ∧ Own w.heap.size 5 w' v' (put16 l n) ∧ Below w.heap.size w w' := by
 by_cases hn : 0 ≤ n ∧ n ≤ 65535
 ·have e : put16 l n = l ++ [n / 256, n % 256] := by unfold put16; rw [if_pos hn]
  rw [e]; exact specPut16w_yes n h hl hn.1 hn.2
 ·have e : put16 l n = l := by unfold put16; rw [if_neg hn]
  rw [e]; exact specPut16w_no n h hl (by omega)
set_option maxHeartbeats 400000 in
set_option maxRecDepth 100000 in
theorem specPut32w_no {B : Nat} {v : Value} {l : List Int} (n : Int) {w : World} (h : Own B 5 w v l) (hl : l.length ≤ 2000000) (hn : n < 0 ∨ 4294967295 < n) :
  Calls Tryz.prog 97 #[v, .int .i64 n] w fun e w' => ∃ v', e = .returned v' ∧ Own w.heap.size 5 w' v' l ∧ Below w.heap.size w w' := by
 by_cases h0 : n < 0
 ·go_enter Tryz.func97, Tryz.ntmps97
  go_wp2_with (at_builtin; refine append_bytes rfl _ _ 37 5 rfl Tryz.underlying37 info_u8 w.heap.size _ v [] l rfl rfl (own_lit w w.heap.size 5 [] (Nat.le_refl _) (by simp)) (h.alloc _).reads (by simp; omega) (by simp) ?_)
  intro v' w2 hown hgrow
  go_wp2
  go_ret
  exact ⟨v', rfl, hown, ((Below.refl _ _).alloc (Nat.le_refl _) _).grown hgrow (by simp) (fun k hk => by simp [Value.ownBlock] at hk; omega)⟩
 ·have h1 : 4294967295 < n := by omega
  go_enter Tryz.func97, Tryz.ntmps97
  go_wp2_with (at_builtin; refine append_bytes rfl _ _ 37 5 rfl Tryz.underlying37 info_u8 w.heap.size _ v [] l rfl rfl (own_lit w w.heap.size 5 [] (Nat.le_refl _) (by simp)) (h.alloc _).reads (by simp; omega) (by simp) ?_)
  intro v' w2 hown hgrow
  go_wp2
  go_ret
  exact ⟨v', rfl, hown, ((Below.refl _ _).alloc (Nat.le_refl _) _).grown hgrow (by simp) (fun k hk => by simp [Value.ownBlock] at hk; omega)⟩

set_option maxHeartbeats 800000 in
set_option maxRecDepth 100000 in
theorem specPut32w_yes {B : Nat} {v : Value} {l : List Int} (n : Int) {w : World} (h : Own B 5 w v l) (hl : l.length ≤ 2000000) (h0 : 0 ≤ n) (h1 : n ≤ 4294967295) :
  Calls Tryz.prog 97 #[v, .int .i64 n] w fun e w' => ∃ v', e = .returned v' ∧ Own w.heap.size 5 w' v' (l ++ [n / 16777216, n / 65536 % 256, n / 256 % 256, n % 256]) ∧ Below w.heap.size w w' := by
 go_enter Tryz.func97, Tryz.ntmps97
 go_wp2_with (at_builtin; refine append_bytes rfl _ _ 37 5 rfl Tryz.underlying37 info_u8 w.heap.size _ v [] l rfl rfl (own_lit w w.heap.size 5 [] (Nat.le_refl _) (by simp)) (h.alloc _).reads (by simp; omega) (by simp) ?_)
 intro v1 w1 o1 hgrow
 have b1 : Below w.heap.size w w1 := ((Below.refl _ _).alloc (Nat.le_refl _) _).grown hgrow (by simp) (fun k hk => by simp [Value.ownBlock] at hk; omega)
 clear hgrow
 have hsz := b1.size
 go_wp2_with (at_builtin; refine append_bytes rfl _ _ 37 5 rfl Tryz.underlying37 info_u8 w.heap.size v1 _ l [n / 16777216, n / 65536 % 256, n / 256 % 256, n % 256] rfl rfl (o1.alloc _) (own_put32 w1 0 5 n (Nat.zero_le _)).reads (by simp; omega) (by simp; omega) ?_)
 intro v' w2 hown hgrow
 go_wp2
 go_ret
 exact ⟨v', rfl, hown, (b1.alloc hsz _).grown hgrow (by simp; omega) (fun k hk => (o1.lt k hk).1)⟩

theorem specPut32w_any {B : Nat} {v : Value} {l : List Int} (n : Int) {w : World} (h : Own B 5 w v l) (hl : l.length ≤ 2000000) :
  Calls Tryz.prog 97 #[v, .int .i64 n] w fun e w' => ∃ v', e = .returned v' ∧ Own w.heap.size 5 w' v' (put32 l n) ∧ Below w.heap.size w w' := by
 by_cases hn : 0 ≤ n ∧ n ≤ 4294967295
 ·have e : put32 l n = l ++ [n / 16777216, n / 65536 % 256, n / 256 % 256, n % 256] := by unfold put32; rw [if_pos hn]
  rw [e]; exact specPut32w_yes n h hl hn.1 hn.2
 ·have e : put32 l n = l := by unfold put32; rw [if_neg hn]
  rw [e]; exact specPut32w_no n h hl (by omega)
end Go.Proofs.YtnplmeifhebhhaaGreat

namespace Go.Proofs.YtnplmeifhebhhaaGreat
open Go.RowKit
set_option linter.unusedVariables false

set_option maxHeartbeats 2000000 in
set_option maxRecDepth 100000 in
theorem l3rr_class (c : Int) {B : Nat} {vb vn vt vx vi : Value} {l : List Int} {r : Rec} {w : World} (hvb : Own B 5 w vb l) (hB : B ≤ w.heap.size) (hl : l.length ≤ 1048576) (h : HasR w vn vt vx vi r) (hA : HasLAt B w vn r.name) (hok : rrOk r = true) :
  Calls Tryz.prog 75 #[vb, .agg #[vn, .int .i64 r.type, .int .i64 r.ttl, .int .i64 r.addr, vt, vx, vi], .int .i64 c] w fun e w' => ∃ v', e = .returned v' ∧ Own B 5 w' v' (classB l r c (dataB r)) ∧ Below B w w' ∧ w.grownBy w' vb.ownBlock := by
 obtain ⟨na, nc, rfl, _⟩ := h.name.form
 obtain ⟨ta, tc, rfl, _⟩ := h.to.form
 obtain ⟨xa, xc, rfl, _⟩ := h.text.form
 obtain ⟨ia, ic, rfl, _⟩ := h.nums.form
 have b0 := below_alloc (w := w) (.cells #[.slice na r.name.length nc, .int .i64 r.type, .int .i64 r.ttl, .int .i64 r.addr, .slice ta r.to.length tc, .slice xa r.text.length xc, .slice ia r.nums.length ic] 108)
 have K0 := hide (heap_alloc_new w (.cells #[.slice na r.name.length nc, .int .i64 r.type, .int .i64 r.ttl, .int .i64 r.addr, .slice ta r.to.length tc, .slice xa r.text.length xc, .slice ia r.nums.length ic] 108))
 have H0 := hide (h.below b0)
 have V0 := hide (hvb.alloc (.cells #[.slice na r.name.length nc, .int .i64 r.type, .int .i64 r.ttl, .int .i64 r.addr, .slice ta r.to.length tc, .slice xa r.text.length xc, .slice ia r.nums.length ic] 108))
 have A0 := hide (hA.below b0)
 have hno := (rrOk_parts hok).1
 have HP := hide (fun (w : World) (vn vt vx vi : Value) (h : HasR w vn vt vx vi r) => l3put_has h hok)
 have q1 := wire_length r.name hno
 have q2 := dataB_length hok
 have q3 := put16_length (l ++ wire r.name) r.type
 have q4 := put16_length (put16 (l ++ wire r.name) r.type) c
 have q5 := put32_length (put16 (put16 (l ++ wire r.name) r.type) c) r.ttl
 have q6 := put16_length (put32 (put16 (put16 (l ++ wire r.name) r.type) c) r.ttl) (dataB r).length
 rw [List.length_append] at q3
 have hl1 : (l ++ wire r.name).length ≤ 2000000 := by rw [List.length_append]; omega
 have HL := hide (fun (w : World) (hv : Own B 5 w vb l) (hB : B ≤ w.heap.size) (hA : HasLAt B w (.slice na r.name.length nc) r.name) => l2put_moved hv hB (by omega) hA (nameOk_parts hno).1 (fun k hk => (labelOk_length ((nameOk_parts hno).2 k hk)).2) (wires_length r.name hno))
 have P1 := hide (fun (w : World) (C : Nat) (v : Value) (hv : Own C 5 w v (l ++ wire r.name)) => specPut16w_any r.type hv hl1)
 have P2 := hide (fun (w : World) (C : Nat) (v : Value) (hv : Own C 5 w v (put16 (l ++ wire r.name) r.type)) => specPut16w_any c hv (by omega))
 have P3 := hide (fun (w : World) (C : Nat) (v : Value) (hv : Own C 5 w v (put16 (put16 (l ++ wire r.name) r.type) c)) => specPut32w_any r.ttl hv (by omega))
 have P4 := hide (fun (w : World) (C : Nat) (v : Value) (hv : Own C 5 w v (put32 (put16 (put16 (l ++ wire r.name) r.type) c) r.ttl)) => specPut16w_any (dataB r).length hv (by omega))
 have hl4 : (put16 (put32 (put16 (put16 (l ++ wire r.name) r.type) c) r.ttl) (dataB r).length).length ≤ 2000000 := by omega
 unfold classB
 generalize put16 (put32 (put16 (put16 (l ++ wire r.name) r.type) c) r.ttl) (dataB r).length = G4 at *
 generalize put32 (put16 (put16 (l ++ wire r.name) r.type) c) r.ttl = G3 at *
 generalize put16 (put16 (l ++ wire r.name) r.type) c = G2 at *
 generalize put16 (l ++ wire r.name) r.type = G1 at *
 generalize dataB r = D at *
 clear h hvb hA hok hno q1 q3 q4 q5 q6
 go_enter Tryz.func75, Tryz.ntmps75
 go_wp2_with fail
 generalize w.alloc (.cells #[.slice na r.name.length nc, .int .i64 r.type, .int .i64 r.ttl, .int .i64 r.addr, .slice ta r.to.length tc, .slice xa r.text.length xc, .slice ia r.nums.length ic] 108) = W at *
 refine (unhide HP _ _ _ _ _ (unhide H0)).mono ?_
 rintro e w1 ⟨y1, rfl, o1, b1⟩
 obtain ⟨ya, yc, rfl, _⟩ := o1.lies
 have bd := below_next b1 (below_drew (w := w1))
 have KD := hide (block_kept bd (unhide K0))
 have VD := hide ((unhide V0).below bd)
 have AD := hide ((unhide A0).below bd)
 have OD := hide ((o1.below (below_drew (w := w1))).here)
 have z0 := b0.size
 have z1 := bd.size
 have zk := block_lt (unhide KD)
 have zB : B ≤ w1.drew.heap.size := by omega
 have BW : Below w.heap.size w w1.drew := below_next b0 bd
 have BD : Below B w w1.drew := (b0.mono hB).trans (bd.mono (by omega))
 have hap : (Value.slice ya D.length yc).ownBlock = none ∨ (Value.slice ya D.length yc).ownBlock ≠ vb.ownBlock := by
  cases hq : (Value.slice ya D.length yc).ownBlock with
  | none => exact .inl rfl
  | some k =>
   right
   intro e
   have h1 := (o1.lt k hq).1
   have h2 := ((unhide V0).lt k e.symm).2
   omega
 have HAP := hide hap
 clear b1 K0 V0 A0 H0 hap o1
 obtain ⟨d0, d1, d2, d3, d4, d5, d6⟩ := cells7 (unhide KD)
 go_wp2_with fail
 clear d0 d1 d2 d3 d4 d5 d6
 go_region_held3 (fun w' => w'.cell? ⟨w.heap.size, 0, none⟩ = some (.slice na r.name.length nc) ∧ w'.cell? ⟨w.heap.size, 1, none⟩ = some (.int .i64 r.type) ∧ w'.cell? ⟨w.heap.size, 2, none⟩ = some (.int .i64 r.ttl))
  (first
  | exact ⟨(cells7 (unhide KD)).1, (cells7 (unhide KD)).2.1, (cells7 (unhide KD)).2.2.1⟩
  | exact ⟨(cells7 k2).1, (cells7 k2).2.1, (cells7 k2).2.2.1⟩
  | exact ⟨(cells7 k3).1, (cells7 k3).2.1, (cells7 k3).2.2.1⟩
  | exact ⟨(cells7 k4).1, (cells7 k4).2.1, (cells7 k4).2.2.1⟩
  | exact ⟨(cells7 k5).1, (cells7 k5).2.1, (cells7 k5).2.2.1⟩)
  (first
  | (go_at_call 73; refine (unhide HL _ (unhide VD) zB (unhide AD)).mono ?_; rintro e w2 ⟨v2, rfl, o2, b2, m2⟩; have k2 := block_grown m2.kept (unhide KD) ((unhide VD).apart (unhide KD) (by decide)); have y2 := (unhide OD).1.kept m2.kept (unhide HAP); have z2 := b2.size; have mk2 := m2.kept; clear m2)
  | (go_at_call 72; refine (unhide P1 _ _ _ o2).mono ?_; rintro e w3 ⟨v3, rfl, o3, b3⟩; have k3 := block_kept b3 k2; have y3 := y2.below b3; have z3 := b3.size; clear o2 k2 y2)
  | (go_at_call 72; refine (unhide P2 _ _ _ o3).mono ?_; rintro e w4 ⟨v4, rfl, o4, b4⟩; have k4 := block_kept b4 k3; have y4 := y3.below b4; have z4 := b4.size; clear o3 k3 y3)
  | (go_at_call 97; refine (unhide P3 _ _ _ o4).mono ?_; rintro e w5 ⟨v5, rfl, o5, b5⟩; have k5 := block_kept b5 k4; have y5 := y4.below b5; have z5 := b5.size; clear o4 k4 y4))
 have zd : w1.drew.heap.size = w1.heap.size := rfl
 go_wp2_with fail
 refine (unhide P4 _ _ _ o5).mono ?_
 rintro e w6 ⟨v6, rfl, o6, b6⟩
 have y6 := y5.below b6
 have z6 := b6.size
 go_wp2_with (at_builtin; refine append_bytes rfl _ _ 37 5 rfl Tryz.underlying37 info_u8 w5.heap.size _ _ G4 D rfl rfl o6 y6.has.reads (by omega) z6 ?_)
 intro v7 w7 o7 g7
 have b7 : Below w5.heap.size w6 w7 := (Below.refl _ _).grown g7 z6 (fun q hq => (o6.lt q hq).1)
 go_wp2_with fail
 go_ret
 have BB := ((((((BD.trans b2).trans (b3.mono (by omega))).trans (b4.mono (by omega))).trans (b5.mono (by omega))).trans (b6.mono (by omega))).trans (b7.mono (by omega)))
 have zW := BW.size
 have z7 := b7.size
 refine ⟨v7, rfl, o7.mono (by omega), BB, ⟨BB.os, BB.tape, BB.output, by omega, fun k hk hne => ?_⟩⟩
 exact (b7.block k (by omega)).trans ((b6.block k (by omega)).trans ((b5.block k (by omega)).trans ((b4.block k (by omega)).trans ((b3.block k (by omega)).trans ((mk2.block k (by omega) hne).trans (BW.block k hk))))))

end Go.Proofs.YtnplmeifhebhhaaGreat
