/-
  Contracts of the specification's l2put once more, with where it leaves the row; of its Put16 and Put32 for longer rows; of its l3rr and RrPut. Contract of the specification's l3rr. Contract of the specification's l4want. Plain facts for the specification's l4bytes.
-/
import Derived.Test.YtbabmdiklefgcaaGreatDoorFnRepliesG30
import Derived.Test.YtbabmdiklefgcaaGreatDoorFnRepliesG05
import Derived.Test.YtbabmdiklefgcaaGreatDoorFnRepliesG36
import Derived.Test.YtbabmdiklefgcaaGreatDoorFnRepliesG35
import Derived.Deep.RegionHeld3
import Derived.Deep.RegionWith
import Derived.Test.YtbabmdiklefgcaaGreatDoorFnRepliesG06
import Derived.Test.YtbabmdiklefgcaaGreatDoorFnRepliesG14
import Derived.Test.YtbabmdiklefgcaaGreatDoorFnRepliesG28
namespace Go.Proofs.YtbabmdiklefgcaaGreatDoor
open Go.RowKit
set_option linter.unusedVariables false
set_option maxHeartbeats 2000000
set_option maxRecDepth 100000

theorem l2put_moved {B : Nat} {vb v : Value} {l : List Int} {n : List (List Int)} {w : World} (hvb : Own B 5 w vb l) (hB : B ≤ w.heap.size) (hl : l.length ≤ 1099511620000) (h : HasLAt B w v n) (h6 : n.length ≤ 6) (hlen : ∀ k, k < n.length → (n.getD k []).length ≤ 15) (hdl : ∀ k, (wires n k).length ≤ 16 * k) :
  Calls Tryz.prog 39 #[vb, .agg #[v]] w fun e w' => ∃ v', e = .returned v' ∧ Own B 5 w' v' (l ++ wire n) ∧ Below B w w' ∧ Moved w w' vb v' := by
 obtain ⟨a, cap, rfl, hcl, hm⟩ := h.hasL.form
 unfold maxLen at hm
 have HDS := UC (wires_succ n)
 have HD0 := UC (wires_zero n)
 have HLEN := UC hlen
 have HDL := UC hdl
 clear hdl hlen
 unfold wire
 generalize wires n = D at *
 have b0 := UI (w := w) (.cells #[.slice a n.length cap] 37)
 have k0 := heap_alloc_new w (.cells #[.slice a n.length cap] 37)
 have h0 := UC (h.below b0)
 have v0 := UC (hvb.alloc (.cells #[.slice a n.length cap] 37))
 have MV0 := (Moved.refl w vb).below b0
 clear h hvb
 have z0 := VC k0
 generalize hn : n.length = m at *
 have HN := UC hn
 clear hn
 go_enter Tryz.func39, Tryz.ntmps39
 go_wp2
 generalize w.alloc (.cells #[.slice a m cap] 37) = w1 at *
 go_loopw [0, 5] (fun o i wr => ∃ k : Nat, k ≤ m ∧ i = .int .i64 k ∧ Own B 5 wr o (l ++ D k) ∧ Below B w1 wr ∧ wr.heap[w.heap.size]? = some (.cells #[.slice a m cap] 37) ∧ Moved w wr vb o) (fun _ i _ => m - (intOf i).toNat)
 case atStart => exact ⟨0, Nat.zero_le _, rfl, by rw [UB HD0, List.append_nil]; exact UB v0, Below.refl _ _, k0, MV0⟩
 case round =>
  obtain ⟨k, hk, rfl, ho, hb, hk1, hmv⟩ := hrel
  have c1 := US hk1
  have zb : B ≤ wr.heap.size := by have := hb.size; omega
  have hdk := UB HDL k
  have hdk2 : (l ++ D k).length ≤ 1099511620000 + 96 := by rw [List.length_append]; omega
  by_cases hlt : k < m
  ·obtain ⟨b, off, u, rfl, hbl, hc, hu⟩ := ((UB h0).low hb (Nat.le_refl _)).here (k := k) (by rw [UB HN]; exact hlt)
   have hds := UC (UB HDS k hlt)
   have hlk := UB HLEN k hlt
   generalize n.getD k [] = lab at *
   have HU := UC hu
   obtain ⟨ua, uc, rfl, _⟩ := hu.form
   clear hu
   have hwrap := wrap_u8 lab.length (by omega)
   have hod := UC (ho.below (UX (w := wr)))
   have hbd := UC (hb.drew)
   have kd := UE (UX (w := wr)) hk1
   have hcd := US kd
   have hud : wr.drew.cell? ⟨b, off + k, none⟩ = some (.slice ua lab.length uc) := hc
   have HUAL := UC (show ∀ o, (wr.drew.alloc o).cell? ⟨b, off + k, none⟩ = some (.slice ua lab.length uc) from fun o => ((UI o).cell (p := ⟨b, off + k, none⟩) (by show b < wr.heap.size; omega)).trans hud)
   have KAL := UC (show ∀ o, (wr.drew.alloc o).heap[w.heap.size]? = some (.cells #[.slice (some ⟨b, off, none⟩) m cap] 37) from fun o => UE (UI o) kd)
   have BAL := UC (show ∀ o, Below B w1 (wr.drew.alloc o) from fun o => hb.drew.alloc zb o)
   have UAL := UC (show ∀ o, HasAt B (wr.drew.alloc o) (.slice ua lab.length uc) lab from fun o => (UB HU).low ((Below.refl B wr).drew.alloc zb o) (Nat.le_refl _))
   have ZAL := UC (show ∀ o, B ≤ (wr.drew.alloc o).heap.size from fun o => Nat.le_trans zb (UI (w := wr.drew) o).size)
   have MAL := UC (show ∀ o', Moved w (wr.drew.alloc o') vb _ from fun o' => (hmv.below UX).below (UI o'))
   have KD := UC kd
   have HC := UC hc
   clear ho kd hud hcd hc
   go_wp2_with fail
   clear c1
   go_region_held3 (fun w' => w'.cell? ⟨w.heap.size, 0, none⟩ = some (.slice (some ⟨b, off, none⟩) m cap) ∧ w'.cell? ⟨b, off + k, none⟩ = some (.slice ua lab.length uc))
    (first | exact ⟨US (UB KD), UB HC⟩ | exact ⟨US (UB KAL _), UB HUAL _⟩ | exact ⟨US k2, u2⟩ | exact ⟨US k3, u3⟩)
    (first
    | (refine step_append_where rfl (.tmp 13) (.tmp 21) 22 5 rfl Tryz.underlying22 VJ B _ _ (l ++ D k) [(lab.length : Int)] (by simp [Act.eval]) (by simp [Act.eval]) ((UB hod).alloc _) (own_lit wr.drew 0 5 [(lab.length : Int)] (Nat.zero_le _) (by simp [maxLen])).reads (by simp only [List.length_cons, List.length_nil]; omega) (UB ZAL _) ?_; intro v2 w2 o2 g2 hw2; have m2 := (UB MAL _).step g2 hw2; obtain ⟨k2, b2, z2, U2, u2⟩ := put_step g2 ((UB hod).alloc _) (UB ZAL _) (UB KAL _) (by decide) (UB BAL _) (UB UAL _) (UB HUAL _) hbl)
    | (refine step_append_where rfl (.tmp 22) (.tmp 27) 22 5 rfl Tryz.underlying22 VJ B _ _ ((l ++ D k) ++ [(lab.length : Int)]) lab (by simp [Act.eval]) (by simp [Act.eval]) o2 U2.has.reads (by rw [List.length_append, List.length_cons, List.length_nil]; omega) z2 ?_; intro v3 w3 o3 g3 hw3; have m3 := m2.step g3 hw3; obtain ⟨k3, b3, z3, U3, u3⟩ := put_step g3 o2 z2 k2 (by decide) b2 U2 u2 hbl))
   all_goals
    go_wp2_with fail
    exact ⟨⟨k + 1, by omega, by go_num, by rw [UB hds]; simpa only [List.append_assoc, List.singleton_append] using o3, b3, k3, m3⟩, by simp [intOf]; omega⟩
  ·obtain rfl : k = m := by omega
   go_wp2_with (at_builtin; refine append_where rfl _ _ 22 5 rfl Tryz.underlying22 VJ B _ _ (l ++ D k) [0] rfl rfl (ho.alloc _) (own_lit wr 0 5 [0] (Nat.zero_le _) (by simp [maxLen])).reads (by simp only [List.length_cons, List.length_nil]; omega) (by simp; omega) ?_)
   intro v4 w4 o4 g4 hw4
   have m4 := Moved.step (u' := v4) (hmv.below (UI _)) g4 (by rcases hw4 with h4 | h4; exact .inl h4; right; rw [h4]; simp)
   have b4 : Below B w1 w4 := (hb.alloc zb _).grown g4 (by simp; omega) (fun q hq => (ho.lt q hq).1)
   go_wp2_with fail
   go_ret
   exact ⟨v4, rfl, by simpa only [List.append_assoc] using o4, (b0.mono hB).trans b4, m4⟩

theorem specPut16w_no {B : Nat} {v : Value} {l : List Int} (n : Int) {w : World} (h : Own B 5 w v l) (hl : l.length ≤ 2000000) (hn : n < 0 ∨ 65535 < n) :
  Calls Tryz.prog 38 #[v, .int .i64 n] w fun e w' => ∃ v', e = .returned v' ∧ Own w.heap.size 5 w' v' l ∧ Below w.heap.size w w' := by
 by_cases h0 : n < 0
 ·go_enter Tryz.func38, Tryz.ntmps38
  go_wp2_with (at_builtin; refine append_bytes rfl _ _ 22 5 rfl Tryz.underlying22 VJ w.heap.size _ v [] l rfl rfl (own_lit w w.heap.size 5 [] (Nat.le_refl _) (by simp)) (h.alloc _).reads (by simp; omega) (by simp) ?_)
  intro v' w2 hown hgrow
  go_wp2
  go_ret
  exact ⟨v', rfl, hown, ((Below.refl _ _).alloc (Nat.le_refl _) _).grown hgrow (by simp) (fun k hk => by simp [Value.ownBlock] at hk; omega)⟩
 ·have h1 : 65535 < n := by omega
  go_enter Tryz.func38, Tryz.ntmps38
  go_wp2_with (at_builtin; refine append_bytes rfl _ _ 22 5 rfl Tryz.underlying22 VJ w.heap.size _ v [] l rfl rfl (own_lit w w.heap.size 5 [] (Nat.le_refl _) (by simp)) (h.alloc _).reads (by simp; omega) (by simp) ?_)
  intro v' w2 hown hgrow
  go_wp2
  go_ret
  exact ⟨v', rfl, hown, ((Below.refl _ _).alloc (Nat.le_refl _) _).grown hgrow (by simp) (fun k hk => by simp [Value.ownBlock] at hk; omega)⟩

theorem specPut16w_yes {B : Nat} {v : Value} {l : List Int} (n : Int) {w : World} (h : Own B 5 w v l) (hl : l.length ≤ 2000000) (h0 : 0 ≤ n) (h1 : n ≤ 65535) :
  Calls Tryz.prog 38 #[v, .int .i64 n] w fun e w' => ∃ v', e = .returned v' ∧ Own w.heap.size 5 w' v' (l ++ [n / 256, n % 256]) ∧ Below w.heap.size w w' := by
 go_enter Tryz.func38, Tryz.ntmps38
 go_wp2_with (at_builtin; refine append_bytes rfl _ _ 22 5 rfl Tryz.underlying22 VJ w.heap.size _ v [] l rfl rfl (own_lit w w.heap.size 5 [] (Nat.le_refl _) (by simp)) (h.alloc _).reads (by simp; omega) (by simp) ?_)
 intro v1 w1 o1 hgrow
 have b1 : Below w.heap.size w w1 := ((Below.refl _ _).alloc (Nat.le_refl _) _).grown hgrow (by simp) (fun k hk => by simp [Value.ownBlock] at hk; omega)
 clear hgrow
 have hsz := b1.size
 go_wp2_with (at_builtin; refine append_bytes rfl _ _ 22 5 rfl Tryz.underlying22 VJ w.heap.size v1 _ l [n / 256, n % 256] rfl rfl (o1.alloc _) (own_put16 w1 0 5 n (Nat.zero_le _)).reads (by simp; omega) (by simp; omega) ?_)
 intro v' w2 hown hgrow
 go_wp2
 go_ret
 exact ⟨v', rfl, hown, (b1.alloc hsz _).grown hgrow (by simp; omega) (fun k hk => (o1.lt k hk).1)⟩

theorem specPut16w_any {B : Nat} {v : Value} {l : List Int} (n : Int) {w : World} (h : Own B 5 w v l) (hl : l.length ≤ 2000000) :
  Calls Tryz.prog 38 #[v, .int .i64 n] w fun e w' => ∃ v', e = .returned v' ∧ Own w.heap.size 5 w' v' (put16 l n) ∧ Below w.heap.size w w' := by
 by_cases hn : 0 ≤ n ∧ n ≤ 65535
 ·have e : put16 l n = l ++ [n / 256, n % 256] := by unfold put16; rw [if_pos hn]
  rw [e]; exact specPut16w_yes n h hl hn.1 hn.2
 ·have e : put16 l n = l := by unfold put16; rw [if_neg hn]
  rw [e]; exact specPut16w_no n h hl (by omega)
theorem specPut32w_no {B : Nat} {v : Value} {l : List Int} (n : Int) {w : World} (h : Own B 5 w v l) (hl : l.length ≤ 2000000) (hn : n < 0 ∨ 4294967295 < n) :
  Calls Tryz.prog 64 #[v, .int .i64 n] w fun e w' => ∃ v', e = .returned v' ∧ Own w.heap.size 5 w' v' l ∧ Below w.heap.size w w' := by
 by_cases h0 : n < 0
 ·go_enter Tryz.func64, Tryz.ntmps64
  go_wp2_with (at_builtin; refine append_bytes rfl _ _ 22 5 rfl Tryz.underlying22 VJ w.heap.size _ v [] l rfl rfl (own_lit w w.heap.size 5 [] (Nat.le_refl _) (by simp)) (h.alloc _).reads (by simp; omega) (by simp) ?_)
  intro v' w2 hown hgrow
  go_wp2
  go_ret
  exact ⟨v', rfl, hown, ((Below.refl _ _).alloc (Nat.le_refl _) _).grown hgrow (by simp) (fun k hk => by simp [Value.ownBlock] at hk; omega)⟩
 ·have h1 : 4294967295 < n := by omega
  go_enter Tryz.func64, Tryz.ntmps64
  go_wp2_with (at_builtin; refine append_bytes rfl _ _ 22 5 rfl Tryz.underlying22 VJ w.heap.size _ v [] l rfl rfl (own_lit w w.heap.size 5 [] (Nat.le_refl _) (by simp)) (h.alloc _).reads (by simp; omega) (by simp) ?_)
  intro v' w2 hown hgrow
  go_wp2
  go_ret
  exact ⟨v', rfl, hown, ((Below.refl _ _).alloc (Nat.le_refl _) _).grown hgrow (by simp) (fun k hk => by simp [Value.ownBlock] at hk; omega)⟩

theorem specPut32w_yes {B : Nat} {v : Value} {l : List Int} (n : Int) {w : World} (h : Own B 5 w v l) (hl : l.length ≤ 2000000) (h0 : 0 ≤ n) (h1 : n ≤ 4294967295) :
  Calls Tryz.prog 64 #[v, .int .i64 n] w fun e w' => ∃ v', e = .returned v' ∧ Own w.heap.size 5 w' v' (l ++ [n / 16777216, n / 65536 % 256, n / 256 % 256, n % 256]) ∧ Below w.heap.size w w' := by
 go_enter Tryz.func64, Tryz.ntmps64
 go_wp2_with (at_builtin; refine append_bytes rfl _ _ 22 5 rfl Tryz.underlying22 VJ w.heap.size _ v [] l rfl rfl (own_lit w w.heap.size 5 [] (Nat.le_refl _) (by simp)) (h.alloc _).reads (by simp; omega) (by simp) ?_)
 intro v1 w1 o1 hgrow
 have b1 : Below w.heap.size w w1 := ((Below.refl _ _).alloc (Nat.le_refl _) _).grown hgrow (by simp) (fun k hk => by simp [Value.ownBlock] at hk; omega)
 clear hgrow
 have hsz := b1.size
 go_wp2_with (at_builtin; refine append_bytes rfl _ _ 22 5 rfl Tryz.underlying22 VJ w.heap.size v1 _ l [n / 16777216, n / 65536 % 256, n / 256 % 256, n % 256] rfl rfl (o1.alloc _) (own_put32 w1 0 5 n (Nat.zero_le _)).reads (by simp; omega) (by simp; omega) ?_)
 intro v' w2 hown hgrow
 go_wp2
 go_ret
 exact ⟨v', rfl, hown, (b1.alloc hsz _).grown hgrow (by simp; omega) (fun k hk => (o1.lt k hk).1)⟩

theorem specPut32w_any {B : Nat} {v : Value} {l : List Int} (n : Int) {w : World} (h : Own B 5 w v l) (hl : l.length ≤ 2000000) :
  Calls Tryz.prog 64 #[v, .int .i64 n] w fun e w' => ∃ v', e = .returned v' ∧ Own w.heap.size 5 w' v' (put32 l n) ∧ Below w.heap.size w w' := by
 by_cases hn : 0 ≤ n ∧ n ≤ 4294967295
 ·have e : put32 l n = l ++ [n / 16777216, n / 65536 % 256, n / 256 % 256, n % 256] := by unfold put32; rw [if_pos hn]
  rw [e]; exact specPut32w_yes n h hl hn.1 hn.2
 ·have e : put32 l n = l := by unfold put32; rw [if_neg hn]
  rw [e]; exact specPut32w_no n h hl (by omega)
set_option maxHeartbeats 2000000 in
set_option maxRecDepth 100000 in
theorem l3rr_class (c : Int) {B : Nat} {vb vn vt vx vi : Value} {l : List Int} {r : Rec} {w : World} (hvb : Own B 5 w vb l) (hB : B ≤ w.heap.size) (hl : l.length ≤ 1048576) (h : HasR w vn vt vx vi r) (hA : HasLAt B w vn r.name) (hok : rrOk r = true) :
  Calls Tryz.prog 41 #[vb, .agg #[vn, .int .i64 r.type, .int .i64 r.ttl, .int .i64 r.addr, vt, vx, vi], .int .i64 c] w fun e w' => ∃ v', e = .returned v' ∧ Own B 5 w' v' (classB l r c (dataB r)) ∧ Below B w w' ∧ w.grownBy w' vb.ownBlock := by
 obtain ⟨na, nc, rfl, _⟩ := h.name.form
 obtain ⟨ta, tc, rfl, _⟩ := h.to.form
 obtain ⟨xa, xc, rfl, _⟩ := h.text.form
 obtain ⟨ia, ic, rfl, _⟩ := h.nums.form
 have b0 := UI (w := w) (.cells #[.slice na r.name.length nc, .int .i64 r.type, .int .i64 r.ttl, .int .i64 r.addr, .slice ta r.to.length tc, .slice xa r.text.length xc, .slice ia r.nums.length ic] 63)
 have K0 := UC (heap_alloc_new w (.cells #[.slice na r.name.length nc, .int .i64 r.type, .int .i64 r.ttl, .int .i64 r.addr, .slice ta r.to.length tc, .slice xa r.text.length xc, .slice ia r.nums.length ic] 63))
 have H0 := UC (h.below b0)
 have V0 := UC (hvb.alloc (.cells #[.slice na r.name.length nc, .int .i64 r.type, .int .i64 r.ttl, .int .i64 r.addr, .slice ta r.to.length tc, .slice xa r.text.length xc, .slice ia r.nums.length ic] 63))
 have A0 := UC (hA.below b0)
 have hno := (rrOk_parts hok).1
 have HP := UC (fun (w : World) (vn vt vx vi : Value) (h : HasR w vn vt vx vi r) => l3put_has h hok)
 have q1 := wire_length r.name hno
 have q2 := dataB_length hok
 have q3 := put16_length (l ++ wire r.name) r.type
 have q4 := put16_length (put16 (l ++ wire r.name) r.type) c
 have q5 := put32_length (put16 (put16 (l ++ wire r.name) r.type) c) r.ttl
 have q6 := put16_length (put32 (put16 (put16 (l ++ wire r.name) r.type) c) r.ttl) (dataB r).length
 rw [List.length_append] at q3
 have hl1 : (l ++ wire r.name).length ≤ 2000000 := by rw [List.length_append]; omega
 have HL := UC (fun (w : World) (hv : Own B 5 w vb l) (hB : B ≤ w.heap.size) (hA : HasLAt B w (.slice na r.name.length nc) r.name) => l2put_moved hv hB (by omega) hA (nameOk_parts hno).1 (fun k hk => (labelOk_length ((nameOk_parts hno).2 k hk)).2) (wires_length r.name hno))
 have P1 := UC (fun (w : World) (C : Nat) (v : Value) (hv : Own C 5 w v (l ++ wire r.name)) => specPut16w_any r.type hv hl1)
 have P2 := UC (fun (w : World) (C : Nat) (v : Value) (hv : Own C 5 w v (put16 (l ++ wire r.name) r.type)) => specPut16w_any c hv (by omega))
 have P3 := UC (fun (w : World) (C : Nat) (v : Value) (hv : Own C 5 w v (put16 (put16 (l ++ wire r.name) r.type) c)) => specPut32w_any r.ttl hv (by omega))
 have P4 := UC (fun (w : World) (C : Nat) (v : Value) (hv : Own C 5 w v (put32 (put16 (put16 (l ++ wire r.name) r.type) c) r.ttl)) => specPut16w_any (dataB r).length hv (by omega))
 have hl4 : (put16 (put32 (put16 (put16 (l ++ wire r.name) r.type) c) r.ttl) (dataB r).length).length ≤ 2000000 := by omega
 unfold classB
 generalize put16 (put32 (put16 (put16 (l ++ wire r.name) r.type) c) r.ttl) (dataB r).length = G4 at *
 generalize put32 (put16 (put16 (l ++ wire r.name) r.type) c) r.ttl = G3 at *
 generalize put16 (put16 (l ++ wire r.name) r.type) c = G2 at *
 generalize put16 (l ++ wire r.name) r.type = G1 at *
 generalize dataB r = D at *
 clear h hvb hA hok hno q1 q3 q4 q5 q6
 go_enter Tryz.func41, Tryz.ntmps41
 go_wp2_with fail
 generalize w.alloc (.cells #[.slice na r.name.length nc, .int .i64 r.type, .int .i64 r.ttl, .int .i64 r.addr, .slice ta r.to.length tc, .slice xa r.text.length xc, .slice ia r.nums.length ic] 63) = W at *
 refine (UB HP _ _ _ _ _ (UB H0)).mono ?_
 rintro e w1 ⟨y1, rfl, o1, b1⟩
 obtain ⟨ya, yc, rfl, _⟩ := o1.lies
 have bd := UG b1 (UX (w := w1))
 have KD := UC (UE bd (UB K0))
 have VD := UC ((UB V0).below bd)
 have AD := UC ((UB A0).below bd)
 have OD := UC ((o1.below (UX (w := w1))).here)
 have z0 := b0.size
 have z1 := bd.size
 have zk := VC (UB KD)
 have zB : B ≤ w1.drew.heap.size := by omega
 have BW : Below w.heap.size w w1.drew := UG b0 bd
 have BD : Below B w w1.drew := (b0.mono hB).trans (bd.mono (by omega))
 have hap : (Value.slice ya D.length yc).ownBlock = none ∨ (Value.slice ya D.length yc).ownBlock ≠ vb.ownBlock := by
  cases hq : (Value.slice ya D.length yc).ownBlock with
  | none => exact .inl rfl
  | some k =>
   right
   intro e
   have h1 := (o1.lt k hq).1
   have h2 := ((UB V0).lt k e.symm).2
   omega
 have HAP := UC hap
 clear b1 K0 V0 A0 H0 hap o1
 obtain ⟨d0, d1, d2, d3, d4, d5, d6⟩ := UJ (UB KD)
 go_wp2_with fail
 clear d0 d1 d2 d3 d4 d5 d6
 go_region_held3 (fun w' => w'.cell? ⟨w.heap.size, 0, none⟩ = some (.slice na r.name.length nc) ∧ w'.cell? ⟨w.heap.size, 1, none⟩ = some (.int .i64 r.type) ∧ w'.cell? ⟨w.heap.size, 2, none⟩ = some (.int .i64 r.ttl))
  (first
  | exact ⟨(UJ (UB KD)).1, (UJ (UB KD)).2.1, (UJ (UB KD)).2.2.1⟩
  | exact ⟨(UJ k2).1, (UJ k2).2.1, (UJ k2).2.2.1⟩
  | exact ⟨(UJ k3).1, (UJ k3).2.1, (UJ k3).2.2.1⟩
  | exact ⟨(UJ k4).1, (UJ k4).2.1, (UJ k4).2.2.1⟩
  | exact ⟨(UJ k5).1, (UJ k5).2.1, (UJ k5).2.2.1⟩)
  (first
  | (go_at_call 39; refine (UB HL _ (UB VD) zB (UB AD)).mono ?_; rintro e w2 ⟨v2, rfl, o2, b2, m2⟩; have k2 := block_grown m2.kept (UB KD) ((UB VD).apart (UB KD) (by decide)); have y2 := (UB OD).1.kept m2.kept (UB HAP); have z2 := b2.size; have mk2 := m2.kept; clear m2)
  | (go_at_call 38; refine (UB P1 _ _ _ o2).mono ?_; rintro e w3 ⟨v3, rfl, o3, b3⟩; have k3 := UE b3 k2; have y3 := y2.below b3; have z3 := b3.size; clear o2 k2 y2)
  | (go_at_call 38; refine (UB P2 _ _ _ o3).mono ?_; rintro e w4 ⟨v4, rfl, o4, b4⟩; have k4 := UE b4 k3; have y4 := y3.below b4; have z4 := b4.size; clear o3 k3 y3)
  | (go_at_call 64; refine (UB P3 _ _ _ o4).mono ?_; rintro e w5 ⟨v5, rfl, o5, b5⟩; have k5 := UE b5 k4; have y5 := y4.below b5; have z5 := b5.size; clear o4 k4 y4))
 have zd : w1.drew.heap.size = w1.heap.size := rfl
 go_wp2_with fail
 refine (UB P4 _ _ _ o5).mono ?_
 rintro e w6 ⟨v6, rfl, o6, b6⟩
 have y6 := y5.below b6
 have z6 := b6.size
 go_wp2_with (at_builtin; refine append_bytes rfl _ _ 22 5 rfl Tryz.underlying22 VJ w5.heap.size _ _ G4 D rfl rfl o6 y6.has.reads (by omega) z6 ?_)
 intro v7 w7 o7 g7
 have b7 : Below w5.heap.size w6 w7 := (Below.refl _ _).grown g7 z6 (fun q hq => (o6.lt q hq).1)
 go_wp2_with fail
 go_ret
 have BB := ((((((BD.trans b2).trans (b3.mono (by omega))).trans (b4.mono (by omega))).trans (b5.mono (by omega))).trans (b6.mono (by omega))).trans (b7.mono (by omega)))
 have zW := BW.size
 have z7 := b7.size
 refine ⟨v7, rfl, o7.mono (by omega), BB, ⟨BB.os, BB.tape, BB.output, by omega, fun k hk hne => ?_⟩⟩
 exact (b7.block k (by omega)).trans ((b6.block k (by omega)).trans ((b5.block k (by omega)).trans ((b4.block k (by omega)).trans ((b3.block k (by omega)).trans ((mk2.block k (by omega) hne).trans (BW.block k hk))))))

theorem wntOk_ttl {x : Wnt} (h : wntOk x = true) (hb : x.bare = true) : x.rr.ttl = 0 := by
 unfold wntOk wantOk at h
 rw [if_pos hb] at h
 unfold bareOk at h
 simp only [Bool.and_eq_true, decide_eq_true_eq] at h
 exact h.2.2.2.1

set_option maxHeartbeats 2000000 in
set_option maxRecDepth 100000 in
theorem l4want_own {B : Nat} {vb vn vt vx vi : Value} {l : List Int} {x : Wnt} {w : World} (hvb : Own B 5 w vb l) (hB : B ≤ w.heap.size) (hl : l.length ≤ 1048576) (h : HasR w vn vt vx vi x.rr) (hA : HasLAt B w vn x.rr.name) (hok : wntOk x = true) :
  Calls Tryz.prog 40 #[vb, .agg #[vn, .int .i64 x.rr.type, .int .i64 x.rr.ttl, .int .i64 x.rr.addr, vt, vx, vi, .int .i64 x.cls, .bool x.bare]] w fun e w' => ∃ v', e = .returned v' ∧ Own B 5 w' v' (wntB l x) ∧ Below B w w' := by
 obtain ⟨na, nc, rfl, _⟩ := h.name.form
 obtain ⟨ta, tc, rfl, _⟩ := h.to.form
 obtain ⟨xa, xc, rfl, _⟩ := h.text.form
 obtain ⟨ia, ic, rfl, _⟩ := h.nums.form
 have hno := wntOk_name hok
 have hrr := wntOk_rr hok
 have htt := wntOk_ttl hok
 unfold wntB
 generalize x.rr = r at *
 generalize x.cls = c at *
 generalize x.bare = bb at *
 clear hok
 cases bb with
 | false =>
  have hok := hrr rfl
  rw [if_neg (by simp)]
  clear hrr htt
  have b0 := UI (w := w) (.cells #[.slice na r.name.length nc, .int .i64 r.type, .int .i64 r.ttl, .int .i64 r.addr, .slice ta r.to.length tc, .slice xa r.text.length xc, .slice ia r.nums.length ic, .int .i64 c, .bool false] 66)
  have KK := UC (heap_alloc_new w (.cells #[.slice na r.name.length nc, .int .i64 r.type, .int .i64 r.ttl, .int .i64 r.addr, .slice ta r.to.length tc, .slice xa r.text.length xc, .slice ia r.nums.length ic, .int .i64 c, .bool false] 66))
  have HC := UC (l3rr_class c (hvb.below b0) (Nat.le_trans hB b0.size) hl (h.below b0) (hA.below b0) hok)
  generalize classB l r c (dataB r) = G at *
  clear h hvb hA hok
  obtain ⟨d0, d1, d2, d3, d4, d5, d6, d7, d8⟩ := cells9 (UB KK)
  go_enter Tryz.func40, Tryz.ntmps40
  go_wp2_with fail
  clear d0 d1 d2 d3 d4 d5 d6 d7 d8
  generalize w.alloc (.cells #[.slice na r.name.length nc, .int .i64 r.type, .int .i64 r.ttl, .int .i64 r.addr, .slice ta r.to.length tc, .slice xa r.text.length xc, .slice ia r.nums.length ic, .int .i64 c, .bool false] 66) = W at *
  refine (UB HC).mono ?_
  rintro e w1 ⟨v1, rfl, o1, b1, _⟩
  go_wp2_with fail
  go_ret
  exact ⟨_, rfl, o1, (b0.mono hB).trans b1⟩
 | true =>
  have htt' := htt rfl
  rw [if_pos rfl]
  clear hrr htt
  have q1 := wire_length r.name hno
  have q3 := put16_length (l ++ wire r.name) r.type
  have q4 := put16_length (put16 (l ++ wire r.name) r.type) c
  have q5 := put32_length (put16 (put16 (l ++ wire r.name) r.type) c) 0
  rw [List.length_append] at q3
  have hl1 : (l ++ wire r.name).length ≤ 2000000 := by rw [List.length_append]; omega
  have b0 := UI (w := w) (.cells #[.slice na r.name.length nc, .int .i64 r.type, .int .i64 r.ttl, .int .i64 r.addr, .slice ta r.to.length tc, .slice xa r.text.length xc, .slice ia r.nums.length ic, .int .i64 c, .bool true] 66)
  have KK := UC (heap_alloc_new w (.cells #[.slice na r.name.length nc, .int .i64 r.type, .int .i64 r.ttl, .int .i64 r.addr, .slice ta r.to.length tc, .slice xa r.text.length xc, .slice ia r.nums.length ic, .int .i64 c, .bool true] 66))
  have HL := UC (fun (w : World) (hv : Own B 5 w vb l) (hB : B ≤ w.heap.size) (hA : HasLAt B w (.slice na r.name.length nc) r.name) => l2put_moved hv hB (by omega) hA (nameOk_parts hno).1 (fun k hk => (labelOk_length ((nameOk_parts hno).2 k hk)).2) (wires_length r.name hno))
  have P1 := UC (fun (w : World) (C : Nat) (v : Value) (hv : Own C 5 w v (l ++ wire r.name)) => specPut16w_any r.type hv hl1)
  have P2 := UC (fun (w : World) (C : Nat) (v : Value) (hv : Own C 5 w v (put16 (l ++ wire r.name) r.type)) => specPut16w_any c hv (by omega))
  have P3 := UC (fun (w : World) (C : Nat) (v : Value) (hv : Own C 5 w v (put16 (put16 (l ++ wire r.name) r.type) c)) => specPut32w_any 0 hv (by omega))
  have P4 := UC (fun (w : World) (C : Nat) (v : Value) (hv : Own C 5 w v (put32 (put16 (put16 (l ++ wire r.name) r.type) c) 0)) => specPut16w_any 0 hv (by omega))
  have hG : classB l r c [] = put16 (put32 (put16 (put16 (l ++ wire r.name) r.type) c) 0) 0 := by
   unfold classB
   rw [htt', List.append_nil]
   rfl
  rw [hG]
  clear hG
  clear htt'
  generalize put16 (put32 (put16 (put16 (l ++ wire r.name) r.type) c) 0) 0 = G4 at *
  generalize put32 (put16 (put16 (l ++ wire r.name) r.type) c) 0 = G3 at *
  generalize put16 (put16 (l ++ wire r.name) r.type) c = G2 at *
  generalize put16 (l ++ wire r.name) r.type = G1 at *
  generalize l ++ wire r.name = G0 at *
  have zB : B ≤ (w.alloc (.cells #[.slice na r.name.length nc, .int .i64 r.type, .int .i64 r.ttl, .int .i64 r.addr, .slice ta r.to.length tc, .slice xa r.text.length xc, .slice ia r.nums.length ic, .int .i64 c, .bool true] 66)).heap.size := Nat.le_trans hB b0.size
  have hv0 := hvb.below b0
  have hA0 := hA.below b0
  clear h hvb hA hno q1 q3 q4 q5
  obtain ⟨d0, d1, d2, d3, d4, d5, d6, d7, d8⟩ := cells9 (UB KK)
  go_enter Tryz.func40, Tryz.ntmps40
  go_wp2_with fail
  clear d0 d1 d2 d3 d4 d5 d6 d7 d8
  generalize w.alloc (.cells #[.slice na r.name.length nc, .int .i64 r.type, .int .i64 r.ttl, .int .i64 r.addr, .slice ta r.to.length tc, .slice xa r.text.length xc, .slice ia r.nums.length ic, .int .i64 c, .bool true] 66) = W at *
  have bd := UX (w := W)
  have KD := UC (UE bd (UB KK))
  have VD := UC (hv0.below bd)
  have AD := UC (hA0.below bd)
  have zD : B ≤ W.drew.heap.size := zB
  have BD : Below B w W.drew := ((b0.mono hB).trans (bd.mono zB))
  clear hv0 hA0 bd KK b0
  refine startF 15 (S := (fun w' => w'.cell? ⟨w.heap.size, 0, none⟩ = some (.slice na r.name.length nc) ∧ w'.cell? ⟨w.heap.size, 1, none⟩ = some (.int .i64 r.type) ∧ w'.cell? ⟨w.heap.size, 2, none⟩ = some (.int .i64 r.ttl) ∧ w'.cell? ⟨w.heap.size, 3, none⟩ = some (.int .i64 r.addr) ∧ w'.cell? ⟨w.heap.size, 4, none⟩ = some (.slice ta r.to.length tc) ∧ w'.cell? ⟨w.heap.size, 5, none⟩ = some (.slice xa r.text.length xc) ∧ w'.cell? ⟨w.heap.size, 6, none⟩ = some (.slice ia r.nums.length ic) ∧ w'.cell? ⟨w.heap.size, 7, none⟩ = some (.int .i64 c) ∧ w'.cell? ⟨w.heap.size, 8, none⟩ = some (.bool true))) (by kernel_rfl) rfl (cells9 (UB KD)) (fun hHeld => ?_)
  simp only [List.replicate]
  repeat ((first | (refine tkF ?_ rfl (by kernel_rfl) (by rfl) (fun _ _ _ h => h) ?_ hHeld ?_; rotate_left; · (intro w hSw; (try dsimp only at hSw); go_simp <;> with_reducible rfl)) | refine skF rfl (by kernel_rfl) (by rfl) (fun _ _ _ h => h) hHeld ?_); simp only [Act.put, setF, List.setIfInBounds_toArray, List.set_cons_zero, List.set_cons_succ])
  refine tkI 5 ?_ rfl (by kernel_rfl) (by kernel_rfl) (fun _ _ _ h => h) ?_ hHeld ?_; rotate_left; (· (intro w hSw; (try dsimp only at hSw); go_simp <;> with_reducible rfl)); simp only [Act.put, List.setIfInBounds_toArray, List.set_cons_zero, List.set_cons_succ]
  refine tkI 6 ?_ rfl (by kernel_rfl) (by kernel_rfl) (fun _ _ _ h => h) ?_ hHeld ?_; rotate_left; (· (intro w hSw; (try dsimp only at hSw); go_simp <;> with_reducible rfl)); simp only [Act.put, List.setIfInBounds_toArray, List.set_cons_zero, List.set_cons_succ]
  refine tkI 7 ?_ rfl (by kernel_rfl) (by kernel_rfl) (fun _ _ _ h => h) ?_ hHeld ?_; rotate_left; (· (intro w hSw; (try dsimp only at hSw); go_simp <;> with_reducible rfl)); simp only [Act.put, List.setIfInBounds_toArray, List.set_cons_zero, List.set_cons_succ]
  refine tkI 9 ?_ rfl (by kernel_rfl) (by kernel_rfl) (fun _ _ _ h => h) ?_ hHeld ?_; rotate_left; (· (intro w hSw; (try dsimp only at hSw); go_simp <;> with_reducible rfl)); simp only [Act.put, List.setIfInBounds_toArray, List.set_cons_zero, List.set_cons_succ]
  refine tkI 10 ?_ rfl (by kernel_rfl) (by kernel_rfl) (fun _ _ _ h => h) ?_ hHeld ?_; rotate_left; (· (intro w hSw; (try dsimp only at hSw); go_simp <;> with_reducible rfl)); simp only [Act.put, List.setIfInBounds_toArray, List.set_cons_zero, List.set_cons_succ]
  refine runI 4 rfl (by kernel_rfl) (by kernel_rfl) (fun K hK => ?_)
  have HK := UC hK
  clear hK hHeld
  go_simp
  refine (UB HL _ (UB VD) zD (UB AD)).mono ?_
  rintro e w2 ⟨v2, rfl, o2, b2, m2⟩
  have k2 := block_grown m2.kept (UB KD) ((UB VD).apart (UB KD) (by decide))
  have z2 := b2.size
  clear m2
  refine (UB HK).out _ _ (cells9 k2) (fun hHeld => ?_)
  clear HK K
  simp only [List.setIfInBounds_toArray, List.set_cons_zero, List.set_cons_succ]
  refine runI 8 rfl (by kernel_rfl) (by kernel_rfl) (fun K hK => ?_)
  have HK := UC hK
  clear hK hHeld
  go_simp
  refine (UB P1 _ _ _ o2).mono ?_
  rintro e w3 ⟨v3, rfl, o3, b3⟩
  have k3 := UE b3 k2
  have z3 := b3.size
  refine (UB HK).out _ _ (cells9 k3) (fun hHeld => ?_)
  clear HK K
  simp only [List.setIfInBounds_toArray, List.set_cons_zero, List.set_cons_succ]
  refine runI 11 rfl (by kernel_rfl) (by kernel_rfl) (fun K hK => ?_)
  have HK := UC hK
  clear hK hHeld
  go_simp
  refine (UB P2 _ _ _ o3).mono ?_
  rintro e w4 ⟨v4, rfl, o4, b4⟩
  have k4 := UE b4 k3
  have z4 := b4.size
  refine (UB HK).out _ _ (cells9 k4) (fun hHeld => ?_)
  clear HK K
  simp only [List.setIfInBounds_toArray, List.set_cons_zero, List.set_cons_succ]
  refine runI 12 rfl (by kernel_rfl) (by kernel_rfl) (fun K hK => ?_)
  have HK := UC hK
  clear hK hHeld
  go_simp
  refine (UB P3 _ _ _ o4).mono ?_
  rintro e w5 ⟨v5, rfl, o5, b5⟩
  have k5 := UE b5 k4
  have z5 := b5.size
  refine (UB HK).out _ _ (cells9 k5) (fun hHeld => ?_)
  clear HK K
  simp only [List.setIfInBounds_toArray, List.set_cons_zero, List.set_cons_succ]
  refine runI 13 rfl (by kernel_rfl) (by kernel_rfl) (fun K hK => ?_)
  have HK := UC hK
  clear hK hHeld
  go_simp
  refine (UB P4 _ _ _ o5).mono ?_
  rintro e w6 ⟨v6, rfl, o6, b6⟩
  have k6 := UE b6 k5
  have z6 := b6.size
  refine (UB HK).out _ _ (cells9 k6) (fun hHeld => ?_)
  clear HK K
  simp only [List.setIfInBounds_toArray, List.set_cons_zero, List.set_cons_succ]
  repeat ((first | (refine tkF ?_ rfl (by kernel_rfl) (by rfl) (fun _ _ _ h => h) ?_ hHeld ?_; rotate_left; · (intro w hSw; (try dsimp only at hSw); go_simp <;> with_reducible rfl)) | refine skF rfl (by kernel_rfl) (by rfl) (fun _ _ _ h => h) hHeld ?_); simp only [Act.put, setF, List.setIfInBounds_toArray, List.set_cons_zero, List.set_cons_succ])
  refine wpAnyH_done (by kernel_rfl) ?_ _
  clear hHeld
  go_wp2_with fail
  go_ret
  exact ⟨_, rfl, o6.mono (by omega), ((((BD.trans b2).trans (b3.mono (by omega))).trans (b4.mono (by omega))).trans (b5.mono (by omega))).trans (b6.mono (by omega))⟩
def HasRc (w : World) (vs : List Value) (r : Rec) : Prop := ∃ vn vt vx vi, vs = cellsR vn vt vx vi r ∧ HasR w vn vt vx vi r
theorem stays_HasRc : Stays HasRc := fun h hb => by obtain ⟨vn, vt, vx, vi, h1, h2⟩ := h; exact ⟨vn, vt, vx, vi, h1, h2.below hb⟩
theorem HasRc.len {w : World} {vs : List Value} {r : Rec} (h : HasRc w vs r) : vs.length = 7 := by obtain ⟨vn, vt, vx, vi, rfl, _⟩ := h; rfl
theorem HasRc.one {w : World} {vs : List Value} {r : Rec} (h : HasRc w vs r) : ∀ u ∈ vs, u.oneCell' = true := by
 obtain ⟨vn, vt, vx, vi, rfl, h2⟩ := h
 obtain ⟨na, nc, rfl, _⟩ := h2.name.form
 obtain ⟨ta, tc, rfl, _⟩ := h2.to.form
 obtain ⟨xa, xc, rfl, _⟩ := h2.text.form
 obtain ⟨ia, ic, rfl, _⟩ := h2.nums.form
 simp [cellsR, Value.oneCell']
theorem hasRs_G {w : World} {v : Value} {rs : List Rec} (h : HasRs w v rs) : HasG 7 HasRc recZ w v rs := by
 rcases h with h | ⟨g, off, cap, hv, hlt, hl, hm, hx⟩
 ·exact .inl h
 ·refine .inr ⟨g, off, cap, hv, hlt, hl, hm, fun i hi => ?_⟩
  obtain ⟨vn, vt, vx, vi, h1, h2⟩ := hx i hi
  exact ⟨_, h1, vn, vt, vx, vi, rfl, h2⟩
theorem wrap_intS (x : Int) (h0 : 0 ≤ x) (h1 : x < 9223372036854775808) : IntKind.i64.wrap x = x := by
 have := wrap_small x.toNat (by omega)
 rwa [Int.toNat_of_nonneg h0] at this
theorem wntsB_all (b : List Int) (l : List Wnt) : wntsB b l l.length = l.foldl wntB b := by unfold wntsB; rw [List.take_length]
def allM (m : Mg) : List Rec := m.ans ++ m.aus ++ m.more
theorem bytesM_all (m : Mg) : bytesM m = wntsB (wntsB (wntsB (queB (headM m) (que1 m)) m.pres m.pres.length) m.ups m.ups.length) ((allM m).map inCl) (allM m).length := by
 have e1 : bytesM m = wntsB (wntsB (wntsB (wntsB (wntsB (queB (headM m) (que1 m)) m.pres m.pres.length) m.ups m.ups.length) (m.ans.map inCl) m.ans.length) (m.aus.map inCl) m.aus.length) (m.more.map inCl) m.more.length := rfl
 rw [e1]
 generalize wntsB (wntsB (queB (headM m) (que1 m)) m.pres m.pres.length) m.ups m.ups.length = b
 have f : ∀ (b : List Int) (l : List Rec), wntsB b (l.map inCl) l.length = (l.map inCl).foldl wntB b := fun b l => by
  have := wntsB_all b (l.map inCl)
  rwa [List.length_map] at this
 rw [f, f, f, f]
 unfold allM
 rw [List.map_append, List.map_append, List.foldl_append, List.foldl_append]
theorem info_rrM : (Tryz.prog.info? 63).map (fun i => (i.zero, i.size, i.bytes)) = some (some (.agg #[.slice none 0 0, .int .i64 0, .int .i64 0, .int .i64 0, .slice none 0 0, .slice none 0 0, .slice none 0 0]), 7, 120) := by kernel_rfl
end Go.Proofs.YtbabmdiklefgcaaGreatDoor
