/-
  Contract of the specification's l2put where the name lies anywhere but in the row that is written on. Contract of the specification's l3rr where the record's name lies anywhere but in the row that is written on.
-/
import Derived.Test.YthmihglfffeedaaGreatDoorFnRecordsG18
namespace Go.Proofs.YthmihglfffeedaaGreatDoor
open Go.RowKit
set_option linter.unusedVariables false

def HasO (q : Option Nat) (w : World) (v : Value) (l : List Int) : Prop :=
 (v = .slice none 0 0 ∧ l = []) ∨ ∃ g off cap, v = .slice (some ⟨g, off, none⟩) l.length cap ∧ g < w.heap.size ∧ some g ≠ q ∧ l.length ≤ cap ∧ cap ≤ maxLen ∧ ∀ i, i < l.length → w.cell? ⟨g, off + i, none⟩ = some (.int .u8 (l.getD i 0))
def HasLO (q : Option Nat) (w : World) (v : Value) (n : List (List Int)) : Prop :=
 (v = .slice none 0 0 ∧ n = []) ∨ ∃ g off cap, v = .slice (some ⟨g, off, none⟩) n.length cap ∧ g < w.heap.size ∧ some g ≠ q ∧ n.length ≤ cap ∧ cap ≤ maxLen ∧
  ∀ i, i < n.length → ∃ u, w.cell? ⟨g, off + i, none⟩ = some u ∧ HasO q w u (n.getD i [])
theorem HasO.kept {q : Option Nat} {w w' : World} {v : Value} {l : List Int} (h : HasO q w v l) (hg : w.grownBy w' q) : HasO q w' v l := by
 rcases h with h | ⟨g, off, cap, e, h1, h2, h3, h4, h5⟩
 ·exact .inl h
 ·refine .inr ⟨g, off, cap, e, Nat.lt_of_lt_of_le h1 hg.size, h2, h3, h4, fun i hi => ?_⟩
  rw [World.cell?_of_block (w := w) (hg.block g h1 h2)]
  exact h5 i hi
theorem HasO.has {q : Option Nat} {w : World} {v : Value} {l : List Int} (h : HasO q w v l) : Has w v l := by
 rcases h with h | ⟨g, off, cap, e, h1, _, h3, h4, h5⟩
 ·exact .inl h
 ·exact .inr ⟨g, off, cap, e, h1, h3, h4, h5⟩
theorem grown_belowO {w w' : World} (q : Option Nat) (hb : Below w.heap.size w w') : w.grownBy w' q := ⟨hb.os, hb.tape, hb.output, hb.size, fun k hk _ => hb.block k hk⟩
theorem HasLO.kept {q : Option Nat} {w w' : World} {v : Value} {n : List (List Int)} (h : HasLO q w v n) (hg : w.grownBy w' q) : HasLO q w' v n := by
 rcases h with h | ⟨g, off, cap, e, h1, h2, h3, h4, h5⟩
 ·exact .inl h
 ·refine .inr ⟨g, off, cap, e, Nat.lt_of_lt_of_le h1 hg.size, h2, h3, h4, fun i hi => ?_⟩
  obtain ⟨u, h6, h7⟩ := h5 i hi
  refine ⟨u, ?_, h7.kept hg⟩
  rw [World.cell?_of_block (w := w) (hg.block g h1 h2)]
  exact h6
theorem HasLO.below {q : Option Nat} {w w' : World} {v : Value} {n : List (List Int)} (h : HasLO q w v n) (hb : Below w.heap.size w w') : HasLO q w' v n := h.kept (grown_belowO q hb)
theorem HasLO.form {q : Option Nat} {w : World} {v : Value} {n : List (List Int)} (h : HasLO q w v n) : ∃ a cap, v = .slice a n.length cap ∧ n.length ≤ maxLen := by
 rcases h with ⟨rfl, rfl⟩ | ⟨g, off, cap, e, _, _, h3, h4, _⟩
 ·exact ⟨none, 0, rfl, by simp⟩
 ·exact ⟨_, cap, e, by omega⟩
theorem HasLO.at_ {q : Option Nat} {w : World} {a : Option Addr} {m cap : Nat} {n : List (List Int)} (h : HasLO q w (.slice a m cap) n) (hm : n.length = m) {k : Nat} (hk : k < m) :
  ∃ b off u, a = some ⟨b, off, none⟩ ∧ b < w.heap.size ∧ some b ≠ q ∧ w.cell? ⟨b, off + k, none⟩ = some u ∧ HasO q w u (n.getD k []) := by
 rcases h with ⟨_, rfl⟩ | ⟨g, off, c, e, h1, h2, _, _, h5⟩
 ·simp at hm; omega
 ·simp only [Value.slice.injEq] at e
  obtain ⟨rfl, _, _⟩ := e
  obtain ⟨u, h6, h7⟩ := h5 k (by omega)
  exact ⟨g, off, u, rfl, h1, h2, h6, h7⟩

theorem put_stepO {B q : Nat} {e t : TypeId} {w w1 wa w2 : World} {vb v v2 : Value} {l : List Int} {c : Array Value} {X : World → Prop} (g : wa.grownBy w2 v.ownBlock) (ho : Own B e wa v l) (zB : B ≤ wa.heap.size) (hk : wa.heap[q]? = some (.cells c t)) (hne : t ≠ e) (hb : Below B w1 wa) (hM : Moved w wa vb v)
  (hw : v2.ownBlock = v.ownBlock ∨ v2.ownBlock = some wa.heap.size) (KN : ∀ W, w.grownBy W vb.ownBlock → X W) : w2.heap[q]? = some (.cells c t) ∧ Below B w1 w2 ∧ B ≤ w2.heap.size ∧ Moved w w2 vb v2 ∧ X w2 :=
 have m := hM.step g hw
 ⟨block_grown g hk (ho.apart hk hne), hb.grown g zB (fun q hq => (ho.lt q hq).1), Nat.le_trans zB g.size, m, KN _ m.kept⟩
set_option maxHeartbeats 2000000 in
set_option maxRecDepth 100000 in
theorem l2put_off {B : Nat} {vb v : Value} {l : List Int} {n : List (List Int)} {w : World} (hvb : Own B 5 w vb l) (hB : B ≤ w.heap.size) (hl : l.length ≤ 1099511620000) (h : HasLO vb.ownBlock w v n) (h6 : n.length ≤ 6) (hlen : ∀ k, k < n.length → (n.getD k []).length ≤ 15) (hdl : ∀ k, (wires n k).length ≤ 16 * k) :
  Calls Tryz.prog 64 #[vb, .agg #[v]] w fun e w' => ∃ v', e = .returned v' ∧ Own B 5 w' v' (l ++ wire n) ∧ Below B w w' ∧ Moved w w' vb v' := by
 obtain ⟨a, cap, rfl, hm⟩ := h.form
 unfold maxLen at hm
 have HDS := UC (wires_succ n)
 have HD0 := UC (wires_zero n)
 have HLEN := UC hlen
 have HDL := UC hdl
 clear hdl hlen
 unfold wire
 generalize wires n = D at *
 have b0 := UI (w := w) (.cells #[.slice a n.length cap] 25)
 have k0 := heap_alloc_new w (.cells #[.slice a n.length cap] 25)
 have v0 := UC (hvb.alloc (.cells #[.slice a n.length cap] 25))
 have MV0 := (Moved.refl w vb).below b0
 have H0 := UC h
 clear h hvb
 have z0 := VC k0
 generalize hn : n.length = m at *
 have HN := UC hn
 clear hn
 go_enter Tryz.func64, Tryz.ntmps64
 go_wp2
 generalize w.alloc (.cells #[.slice a m cap] 25) = w1 at *
 go_loopw [0, 5] (fun o i wr => ∃ k : Nat, k ≤ m ∧ i = .int .i64 k ∧ Own B 5 wr o (l ++ D k) ∧ Below B w1 wr ∧ wr.heap[w.heap.size]? = some (.cells #[.slice a m cap] 25) ∧ Moved w wr vb o) (fun _ i _ => m - (intOf i).toNat)
 case atStart => exact ⟨0, Nat.zero_le _, rfl, by rw [UB HD0, List.append_nil]; exact UB v0, Below.refl _ _, k0, MV0⟩
 case round =>
  obtain ⟨k, hk, rfl, ho, hb, hk1, hmv⟩ := hrel
  have c1 := US hk1
  have zb : B ≤ wr.heap.size := by have := hb.size; omega
  have hdk := UB HDL k
  have hdk2 : (l ++ D k).length ≤ 1099511620000 + 96 := by rw [List.length_append]; omega
  by_cases hlt : k < m
  ·obtain ⟨b, off, u, rfl, hbl, hbq, hc, hu⟩ := (UB H0).at_ (UB HN) hlt
   have hds := UC (UB HDS k hlt)
   have hlk := UB HLEN k hlt
   generalize n.getD k [] = lab at *
   obtain ⟨ua, uc, rfl, _⟩ := hu.has.form
   have KN := UC (show ∀ W, w.grownBy W vb.ownBlock → W.cell? ⟨b, off + k, none⟩ = some (.slice ua lab.length uc) ∧ Has W (.slice ua lab.length uc) lab from fun W hg => ⟨by rw [World.cell?_of_block (w := w) (hg.block b hbl hbq)]; exact hc, (hu.kept hg).has⟩)
   clear hc hu
   have hwrap := wrap_u8 lab.length (by omega)
   have hod := UC (ho.below (UX (w := wr)))
   have kd := UE (UX (w := wr)) hk1
   have hcd := US kd
   have MD := hmv.below (UX (w := wr))
   have hud := (UB KN _ MD.kept).1
   have HMAL := UC (show ∀ o', Moved w (wr.drew.alloc o') vb _ from fun o' => MD.below (UI o'))
   have HUAL := UC (show ∀ o, (wr.drew.alloc o).cell? ⟨b, off + k, none⟩ = some (.slice ua lab.length uc) from fun o => (UB KN _ (MD.below (UI o)).kept).1)
   have KAL := UC (show ∀ o, (wr.drew.alloc o).heap[w.heap.size]? = some (.cells #[.slice (some ⟨b, off, none⟩) m cap] 25) from fun o => UE (UI o) kd)
   have BAL := UC (show ∀ o, Below B w1 (wr.drew.alloc o) from fun o => hb.drew.alloc zb o)
   have ZAL := UC (show ∀ o, B ≤ (wr.drew.alloc o).heap.size from fun o => Nat.le_trans zb (UI (w := wr.drew) o).size)
   have KD := UC kd
   have HC := UC hud
   clear ho kd hud hcd MD
   go_wp2_with fail
   clear c1
   go_region_held3 (fun w' => w'.cell? ⟨w.heap.size, 0, none⟩ = some (.slice (some ⟨b, off, none⟩) m cap) ∧ w'.cell? ⟨b, off + k, none⟩ = some (.slice ua lab.length uc))
    (first | exact ⟨US (UB KD), UB HC⟩ | exact ⟨US (UB KAL _), UB HUAL _⟩ | exact ⟨US k2, u2⟩ | exact ⟨US k3, u3⟩)
    (first
    | (refine step_append_where rfl (.tmp 13) (.tmp 21) 22 5 rfl Tryz.underlying22 VJ B _ _ (l ++ D k) [(lab.length : Int)] (by simp [Act.eval]) (by simp [Act.eval]) ((UB hod).alloc _) (own_lit wr.drew 0 5 [(lab.length : Int)] (Nat.zero_le _) (by simp [maxLen])).reads (by simp only [List.length_cons, List.length_nil]; omega) (UB ZAL _) ?_; intro v2 w2 o2 g2 hw2; obtain ⟨k2, b2, z2, m2, u2, U2⟩ := put_stepO g2 ((UB hod).alloc _) (UB ZAL _) (UB KAL _) (by decide) (UB BAL _) (UB HMAL _) hw2 (UB KN))
    | (refine step_append_where rfl (.tmp 22) (.tmp 27) 22 5 rfl Tryz.underlying22 VJ B _ _ ((l ++ D k) ++ [(lab.length : Int)]) lab (by simp [Act.eval]) (by simp [Act.eval]) o2 U2.reads (by rw [List.length_append, List.length_cons, List.length_nil]; omega) z2 ?_; intro v3 w3 o3 g3 hw3; obtain ⟨k3, b3, z3, m3, u3, U3⟩ := put_stepO g3 o2 z2 k2 (by decide) b2 m2 hw3 (UB KN)))
   all_goals
    go_wp2_with fail
    exact ⟨⟨k + 1, by omega, by go_num, by rw [UB hds]; simpa only [List.append_assoc, List.singleton_append] using o3, b3, k3, m3⟩, by simp [intOf]; omega⟩
  ·obtain rfl : k = m := by omega
   go_wp2_with (at_builtin; refine append_where rfl _ _ 22 5 rfl Tryz.underlying22 VJ B _ _ (l ++ D k) [0] rfl rfl (ho.alloc _) (own_lit wr 0 5 [0] (Nat.zero_le _) (by simp [maxLen])).reads (by simp only [List.length_cons, List.length_nil]; omega) (by simp; omega) ?_)
   intro v4 w4 o4 g4 hw4
   have m4 := Moved.step (u' := v4) (hmv.below (UI _)) g4 (by rcases hw4 with h4 | h4; exact .inl h4; right; rw [h4]; simp)
   have b4 : Below B w1 w4 := (hb.alloc zb _).grown g4 (by simp; omega) (fun q hq => (ho.lt q hq).1)
   go_wp2_with fail
   go_ret
   exact ⟨v4, rfl, by simpa only [List.append_assoc] using o4, (b0.mono hB).trans b4, m4⟩
set_option maxHeartbeats 2000000 in
set_option maxRecDepth 100000 in
theorem l3rr_off (c : Int) {B : Nat} {vb vn vt vx vi : Value} {l : List Int} {r : Rec} {w : World} (hvb : Own B 5 w vb l) (hB : B ≤ w.heap.size) (hl : l.length ≤ 1048576) (h : HasR w vn vt vx vi r) (hA : HasLO vb.ownBlock w vn r.name) (hok : rrOk r = true) :
  Calls Tryz.prog 38 #[vb, .agg #[vn, .int .i64 r.type, .int .i64 r.ttl, .int .i64 r.addr, vt, vx, vi], .int .i64 c] w fun e w' => ∃ v', e = .returned v' ∧ Own B 5 w' v' (classB l r c (dataB r)) ∧ Below B w w' ∧ w.grownBy w' vb.ownBlock := by
 obtain ⟨na, nc, rfl, _⟩ := h.name.form
 obtain ⟨ta, tc, rfl, _⟩ := h.to.form
 obtain ⟨xa, xc, rfl, _⟩ := h.text.form
 obtain ⟨ia, ic, rfl, _⟩ := h.nums.form
 have b0 := UI (w := w) (.cells #[.slice na r.name.length nc, .int .i64 r.type, .int .i64 r.ttl, .int .i64 r.addr, .slice ta r.to.length tc, .slice xa r.text.length xc, .slice ia r.nums.length ic] 28)
 have K0 := UC (heap_alloc_new w (.cells #[.slice na r.name.length nc, .int .i64 r.type, .int .i64 r.ttl, .int .i64 r.addr, .slice ta r.to.length tc, .slice xa r.text.length xc, .slice ia r.nums.length ic] 28))
 have H0 := UC (h.below b0)
 have V0 := UC (hvb.alloc (.cells #[.slice na r.name.length nc, .int .i64 r.type, .int .i64 r.ttl, .int .i64 r.addr, .slice ta r.to.length tc, .slice xa r.text.length xc, .slice ia r.nums.length ic] 28))
 have A0 := UC (hA.below b0)
 have hno := (rrOk_parts hok).1
 have HP := UC (fun (w : World) (vn vt vx vi : Value) (h : HasR w vn vt vx vi r) => l3put_has h hok)
 have q1 := wire_length r.name hno
 have q2 := dataB_length hok
 have q3 := put16_length (l ++ wire r.name) r.type
 have q4 := put16_length (put16 (l ++ wire r.name) r.type) c
 have q5 := put32_length (put16 (put16 (l ++ wire r.name) r.type) c) r.ttl
 have q6 := put16_length (put32 (put16 (put16 (l ++ wire r.name) r.type) c) r.ttl) (dataB r).length
 rw [List.length_append] at q3
 have hl1 : (l ++ wire r.name).length ≤ 2000000 := by rw [List.length_append]; omega
 have HL := UC (fun (w : World) (hv : Own B 5 w vb l) (hB : B ≤ w.heap.size) (hA : HasLO vb.ownBlock w (.slice na r.name.length nc) r.name) => l2put_off hv hB (by omega) hA (nameOk_parts hno).1 (fun k hk => (labelOk_length ((nameOk_parts hno).2 k hk)).2) (wires_length r.name hno))
 have P1 := UC (fun (w : World) (C : Nat) (v : Value) (hv : Own C 5 w v (l ++ wire r.name)) => specPut16w_any r.type hv hl1)
 have P2 := UC (fun (w : World) (C : Nat) (v : Value) (hv : Own C 5 w v (put16 (l ++ wire r.name) r.type)) => specPut16w_any c hv (by omega))
 have P3 := UC (fun (w : World) (C : Nat) (v : Value) (hv : Own C 5 w v (put16 (put16 (l ++ wire r.name) r.type) c)) => specPut32w_any r.ttl hv (by omega))
 have P4 := UC (fun (w : World) (C : Nat) (v : Value) (hv : Own C 5 w v (put32 (put16 (put16 (l ++ wire r.name) r.type) c) r.ttl)) => specPut16w_any (dataB r).length hv (by omega))
 have hl4 : (put16 (put32 (put16 (put16 (l ++ wire r.name) r.type) c) r.ttl) (dataB r).length).length ≤ 2000000 := by omega
 unfold classB
 generalize put16 (put32 (put16 (put16 (l ++ wire r.name) r.type) c) r.ttl) (dataB r).length = G4 at *
 generalize put32 (put16 (put16 (l ++ wire r.name) r.type) c) r.ttl = G3 at *
 generalize put16 (put16 (l ++ wire r.name) r.type) c = G2 at *
 generalize put16 (l ++ wire r.name) r.type = G1 at *
 generalize dataB r = D at *
 clear h hvb hA hok hno q1 q3 q4 q5 q6
 go_enter Tryz.func38, Tryz.ntmps38
 go_wp2_with fail
 generalize w.alloc (.cells #[.slice na r.name.length nc, .int .i64 r.type, .int .i64 r.ttl, .int .i64 r.addr, .slice ta r.to.length tc, .slice xa r.text.length xc, .slice ia r.nums.length ic] 28) = W at *
 refine (UB HP _ _ _ _ _ (UB H0)).mono ?_
 rintro e w1 ⟨y1, rfl, o1, b1⟩
 obtain ⟨ya, yc, rfl, _⟩ := o1.lies
 have bd := UG b1 (UX (w := w1))
 have KD := UC (UE bd (UB K0))
 have VD := UC ((UB V0).below bd)
 have AD := UC ((UB A0).below bd)
 have OD := UC ((o1.below (UX (w := w1))).here)
 have z0 := b0.size
 have z1 := bd.size
 have zk := VC (UB KD)
 have zB : B ≤ w1.drew.heap.size := by omega
 have BW : Below w.heap.size w w1.drew := UG b0 bd
 have BD : Below B w w1.drew := (b0.mono hB).trans (bd.mono (by omega))
 have hap : (Value.slice ya D.length yc).ownBlock = none ∨ (Value.slice ya D.length yc).ownBlock ≠ vb.ownBlock := by
  cases hq : (Value.slice ya D.length yc).ownBlock with
  | none => exact .inl rfl
  | some k =>
   right
   intro e
   have h1 := (o1.lt k hq).1
   have h2 := ((UB V0).lt k e.symm).2
   omega
 have HAP := UC hap
 clear b1 K0 V0 A0 H0 hap o1
 obtain ⟨d0, d1, d2, d3, d4, d5, d6⟩ := UJ (UB KD)
 go_wp2_with fail
 clear d0 d1 d2 d3 d4 d5 d6
 go_region_held3 (fun w' => w'.cell? ⟨w.heap.size, 0, none⟩ = some (.slice na r.name.length nc) ∧ w'.cell? ⟨w.heap.size, 1, none⟩ = some (.int .i64 r.type) ∧ w'.cell? ⟨w.heap.size, 2, none⟩ = some (.int .i64 r.ttl))
  (first
  | exact ⟨(UJ (UB KD)).1, (UJ (UB KD)).2.1, (UJ (UB KD)).2.2.1⟩
  | exact ⟨(UJ k2).1, (UJ k2).2.1, (UJ k2).2.2.1⟩
  | exact ⟨(UJ k3).1, (UJ k3).2.1, (UJ k3).2.2.1⟩
  | exact ⟨(UJ k4).1, (UJ k4).2.1, (UJ k4).2.2.1⟩
  | exact ⟨(UJ k5).1, (UJ k5).2.1, (UJ k5).2.2.1⟩)
  (first
  | (go_at_call 64; refine (UB HL _ (UB VD) zB (UB AD)).mono ?_; rintro e w2 ⟨v2, rfl, o2, b2, m2⟩; have k2 := block_grown m2.kept (UB KD) ((UB VD).apart (UB KD) (by decide)); have y2 := (UB OD).1.kept m2.kept (UB HAP); have z2 := b2.size; have mk2 := m2.kept; clear m2)
  | (go_at_call 63; refine (UB P1 _ _ _ o2).mono ?_; rintro e w3 ⟨v3, rfl, o3, b3⟩; have k3 := UE b3 k2; have y3 := y2.below b3; have z3 := b3.size; clear o2 k2 y2)
  | (go_at_call 63; refine (UB P2 _ _ _ o3).mono ?_; rintro e w4 ⟨v4, rfl, o4, b4⟩; have k4 := UE b4 k3; have y4 := y3.below b4; have z4 := b4.size; clear o3 k3 y3)
  | (go_at_call 62; refine (UB P3 _ _ _ o4).mono ?_; rintro e w5 ⟨v5, rfl, o5, b5⟩; have k5 := UE b5 k4; have y5 := y4.below b5; have z5 := b5.size; clear o4 k4 y4))
 have zd : w1.drew.heap.size = w1.heap.size := rfl
 go_wp2_with fail
 refine (UB P4 _ _ _ o5).mono ?_
 rintro e w6 ⟨v6, rfl, o6, b6⟩
 have y6 := y5.below b6
 have z6 := b6.size
 go_wp2_with (at_builtin; refine append_bytes rfl _ _ 22 5 rfl Tryz.underlying22 VJ w5.heap.size _ _ G4 D rfl rfl o6 y6.has.reads (by omega) z6 ?_)
 intro v7 w7 o7 g7
 have b7 : Below w5.heap.size w6 w7 := (Below.refl _ _).grown g7 z6 (fun q hq => (o6.lt q hq).1)
 go_wp2_with fail
 go_ret
 have BB := ((((((BD.trans b2).trans (b3.mono (by omega))).trans (b4.mono (by omega))).trans (b5.mono (by omega))).trans (b6.mono (by omega))).trans (b7.mono (by omega)))
 have zW := BW.size
 have z7 := b7.size
 refine ⟨v7, rfl, o7.mono (by omega), BB, ⟨BB.os, BB.tape, BB.output, by omega, fun k hk hne => ?_⟩⟩
 exact (b7.block k (by omega)).trans ((b6.block k (by omega)).trans ((b5.block k (by omega)).trans ((b4.block k (by omega)).trans ((b3.block k (by omega)).trans ((mk2.block k (by omega) hne).trans (BW.block k hk))))))
end Go.Proofs.YthmihglfffeedaaGreatDoor
