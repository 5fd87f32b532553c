/-
  Contracts of the byte helpers of the laws (markByteS, heldByteS): what each answers and what it leaves in memory. Contracts of the name helpers of the laws (markName, heldName): what each answers and what it leaves in memory. Contracts of the name helpers of the laws (heldByteSS, heldName). Contracts of helpers of the laws for rows of names that are answers (markNameS, heldNameS). Plain facts: what a slice has lies behind its head. No program is named here.
-/
import Derived.Test.YtpolekinfobecaaGreatCacheNamesG10
import Derived.Test.YtpolekinfobecaaGreatCacheNamesG02
import Derived.Test.YtpolekinfobecaaGreatCacheNamesG15
import Derived.Test.YtpolekinfobecaaGreatCacheNamesG03
namespace Go.Proofs.YtpolekinfobecaaGreat
open Go.RowKit
set_option linter.unusedVariables false

set_option maxHeartbeats 400000 in
set_option maxRecDepth 100000 in
theorem markByteS_some (B g cap : Nat) (k0 : Int) (l : List Int) (w : World) (h : Own B 5 w (.slice (some ⟨g, 0, none⟩) l.length cap) l) (hl : l.length ≤ 2097152) (hk0 : 0 ≤ k0) (hk1 : k0 ≤ 9000000000000000000) :
  Calls Tryz.prog 64 #[.slice (some ⟨g, 0, none⟩) l.length cap, .int .i64 k0] w fun e w' => e = .returned (.int .i64 (k0 + l.length)) ∧
   Own B 5 w' (.slice (some ⟨g, 0, none⟩) l.length cap) (marks k0 l.length) ∧ w.grownBy w' (some g) := by
 generalize hn : l.length = n at *
 have HN := hide hn
 clear hn
 go_enter Tryz.func64, Tryz.ntmps64
 go_wp2
 go_loopw [1, 5] (fun kk i wr => ∃ k : Nat, k ≤ n ∧ i = .int .i64 k ∧ kk = .int .i64 (k0 + k) ∧ wr.ownsRow B 5 1 (.slice (some ⟨g, 0, none⟩) n cap) n ((marked l k0 k).map (Value.int .u8)) ∧ w.grownBy wr (some g)) (fun _ i _ => n - (intOf i).toNat)
 case atStart => exact ⟨0, Nat.zero_le _, rfl, by simp, by rw [marked_zero]; have h1 := h; unfold Own at h1; rw [unhide HN] at h1; exact h1, ⟨rfl, rfl, rfl, Nat.le_refl _, fun _ _ _ => rfl⟩⟩
 case round =>
  obtain ⟨k, hk, rfl, rfl, ho, hg⟩ := hrel
  by_cases hlt : k < n
  ·have hc := ho.cellAt k (by omega)
   rw [map_at _ _ (by rw [marked_length, unhide HN]; exact hlt)] at hc
   have hf := ho.frozenAt k
   have HO := hide ho
   clear ho
   go_wp2
   have hst := (unhide HO).stored k (.int .u8 ((k0 + k) % 256))
   refine ⟨⟨k + 1, by omega, by go_num, by go_num, ?_, ?_⟩, by simp [intOf]; omega⟩
   ·rw [← marked_succ, List.map_set]
    exact hst.1
   ·exact grown_trans hg hst.2
  ·go_wp2
   go_ret
   obtain rfl : k = n := by omega
   refine ⟨rfl, ?_, hg⟩
   unfold Own
   rw [marks_length]
   have e : marked l k0 k = marks k0 k := by have := marked_all l k0; rw [unhide HN] at this; exact this
   rw [← e]
   exact ho

set_option maxHeartbeats 400000 in
set_option maxRecDepth 100000 in
theorem markByteS_nil (k0 : Int) (w : World) (hk0 : 0 ≤ k0) (hk1 : k0 ≤ 9000000000000000000) :
  Calls Tryz.prog 64 #[.slice none 0 0, .int .i64 k0] w fun e w' => e = .returned (.int .i64 k0) ∧ w = w' := by
 go_enter Tryz.func64, Tryz.ntmps64
 go_wp2
 go_loop [1, 5] (fun kk i => i = .int .i64 0 ∧ kk = .int .i64 k0) (fun _ i => 0)
 case atStart => exact ⟨rfl, rfl⟩
 case round =>
  obtain ⟨rfl, rfl⟩ := hrel
  go_wp2
  go_ret
  exact ⟨rfl, rfl⟩

theorem markByteS_any {B : Nat} {v : Value} {l : List Int} (k0 : Int) {w : World} (h : Own B 5 w v l) (hl : l.length ≤ 2097152) (hk0 : 0 ≤ k0) (hk1 : k0 ≤ 9000000000000000000) :
  Calls Tryz.prog 64 #[v, .int .i64 k0] w fun e w' => e = .returned (.int .i64 (k0 + l.length)) ∧ Own B 5 w' v (marks k0 l.length) ∧ w.grownBy w' v.ownBlock := by
 rcases h.form with ⟨rfl, rfl⟩ | ⟨g, cap, rfl, _⟩
 ·refine (markByteS_nil k0 w hk0 hk1).mono fun e w' ⟨he, hw⟩ => ?_
  subst hw
  exact ⟨by simpa using he, h, ⟨rfl, rfl, rfl, Nat.le_refl _, fun _ _ _ => rfl⟩⟩
 ·exact markByteS_some B g cap k0 l w h hl hk0 hk1

set_option maxHeartbeats 400000 in
set_option maxRecDepth 100000 in
theorem heldByteS_marks (a : Option Addr) (cap n : Nat) (k0 : Int) (w : World) (h : Lies w a (marks k0 n)) (hl : n ≤ 2097152) (hk0 : 0 ≤ k0) (hk1 : k0 ≤ 9000000000000000000) :
  Calls Tryz.prog 65 #[.slice a n cap, .int .i64 k0] w fun e w' => e = .returned (.int .i64 (k0 + n)) ∧ w = w' := by
 go_enter Tryz.func65, Tryz.ntmps65
 go_wp2
 go_loop [1, 5] (fun kk i => ∃ k : Nat, k ≤ n ∧ i = .int .i64 k ∧ kk = .int .i64 (k0 + k)) (fun _ i => n - (intOf i).toNat)
 case atStart => exact ⟨0, Nat.zero_le _, rfl, by simp⟩
 case round =>
  obtain ⟨k, hk, rfl, rfl⟩ := hrel
  by_cases hlt : k < n
  ·obtain ⟨b, off, rfl, hbl, hc⟩ := h.here (k := k) (by rw [marks_length]; exact hlt)
   rw [marks_getD _ _ _ hlt] at hc
   go_wp2
   exact ⟨⟨k + 1, by omega, by go_num, by go_num⟩, by simp [intOf]; omega⟩
  ·go_wp2
   go_ret
   obtain rfl : k = n := by omega
   exact ⟨rfl, rfl⟩

end Go.Proofs.YtpolekinfobecaaGreat

namespace Go.Proofs.YtpolekinfobecaaGreat
open Go.RowKit
set_option linter.unusedVariables false

set_option maxHeartbeats 800000 in
set_option maxRecDepth 100000 in
theorem markByteSS_any {B E : Nat} {v : Value} {n : List (List Int)} (k0 : Int) {w : World} (h : OwnN B E 53 5 w v n) (hl : n.length ≤ 1048576) (hl2 : ∀ i, i < n.length → (n.getD i []).length ≤ 1048576) (hk0 : 0 ≤ k0) (hk1 : k0 ≤ 8000000000000000000) :
  Calls Tryz.prog 41 #[v, .int .i64 k0] w fun e w' => e = .returned (.int .i64 (pos n k0 n.length)) ∧ OwnN B E 53 5 w' v (markL n k0) ∧ Outside B E w w' := by
 obtain ⟨a, cap, rfl, hcl, hcm⟩ := h.ownL.hasL.form
 unfold maxLen at hcm
 obtain ⟨vs, ho, hu, hd, hv, he⟩ := h
 have hP := hide (fun j (hj : j ≤ n.length) => (show k0 ≤ pos n k0 j ∧ pos n k0 j ≤ 8000002000000000000 from by
  have := pos_le n k0 1048576 hl2 j hj
  have : j * 1048576 ≤ 1048576 * 1048576 := Nat.mul_le_mul_right _ (by omega)
  omega))
 have hPS := hide (pos_succ n k0)
 have hP0 := hide (pos_zero n k0)
 have hMG := hide (markL_getD n k0)
 have hML := hide (markL_length n k0)
 have HU := hide hu
 have HD := hide hd
 have HE := hide he
 have HV := hide hv
 have HO := hide ho
 have HL2 := hide hl2
 have hvl : vs.length = n.length := by have := ho.1; simpa using this
 clear hu hd he hv ho hl2
 generalize pos n k0 = P at *
 generalize markL n k0 = M at *
 generalize hn : n.length = m at *
 have HN := hide hn
 clear hn
 go_enter Tryz.func41, Tryz.ntmps41
 go_wp2
 go_loopw [1, 5] (fun kk i wr => ∃ k : Nat, k ≤ m ∧ i = .int .i64 k ∧ kk = .int .i64 (P k) ∧ Outside B E w wr ∧ wr.ownsRow B 53 1 (.slice a m cap) m vs ∧ Hid (∀ j, j < m → ∃ u, vs[j]? = some u ∧ Own B 5 wr u (if j < k then M.getD j [] else n.getD j []))) (fun _ i _ => m - (intOf i).toNat)
 case atStart => exact ⟨0, Nat.zero_le _, rfl, by rw [unhide hP0], Outside.refl _ _ _, unhide HO, hide (fun j hj => by obtain ⟨u, h1, h2⟩ := unhide HU j hj; exact ⟨u, h1, by simpa using h2⟩)⟩
 case round =>
  obtain ⟨k, hk, rfl, rfl, hout, hrow, hall⟩ := hrel
  by_cases hlt : k < m
  ·obtain ⟨u, hu1, hu2⟩ := unhide hall k hlt
   simp only [Nat.lt_irrefl, if_false] at hu2
   have hlk := unhide HL2 k hlt
   have hpk := unhide hP k (by omega)
   have hps := unhide hPS k hlt
   have hmg := unhide hMG k hlt
   have hcell : ∃ g, a = some ⟨g, 0, none⟩ := by
    rcases hrow.2 with ⟨hv, h0⟩ | ⟨g, cap', cur, hv, _⟩
    ·omega
    ·simp only [Value.slice.injEq] at hv; exact ⟨g, hv.1⟩
   obtain ⟨g, rfl⟩ := hcell
   have hc := World.ownsRow.cellAt hrow k (by omega)
   rw [hu1] at hc
   have hgl := (World.ownsRow.lt hrow g rfl)
   have hue := unhide HE k u
   have hude := hide hue
   clear hue
   generalize n.getD k [] = lab at *
   have HU2 := hide hu2
   have hur : ∃ ua uc, u = .slice ua lab.length uc := by obtain ⟨ua, uc, e, _⟩ := hu2.lies; exact ⟨ua, uc, e⟩
   clear hu2
   obtain ⟨ua, uc, rfl⟩ := hur
   have HR := hide hrow
   clear hrow
   go_wp2_with fail
   refine (markByteS_any (P k) (unhide HU2) (by omega) (by omega) (by omega)).mono ?_
   rintro e w1 ⟨rfl, o1, g1⟩
   go_wp2_with fail
   have hrange : ∀ q, (Value.slice ua lab.length uc).ownBlock = some q → B ≤ q ∧ q < E := fun q hq => ⟨((unhide HU2).lt q hq).1, unhide hude q hu1 hq⟩
   have hner : ∀ q, (Value.slice ua lab.length uc).ownBlock = some q → q ≠ g := by
    intro q hq e
    subst e
    rcases (unhide HU2).2 with ⟨h1, _⟩ | ⟨g', c', cur, h1, _, h2, _⟩
    ·rw [h1] at hq; simp [Value.ownBlock] at hq
    ·rw [h1] at hq
     simp [Value.ownBlock] at hq
     subst hq
     rcases (unhide HR).2 with ⟨h3, _⟩ | ⟨g3, c3, cur3, h3, _, h4, _⟩
     ·simp at h3
     ·simp only [Value.slice.injEq, Option.some.injEq, Addr.mk.injEq] at h3
      obtain ⟨⟨h5, _⟩, _⟩ := h3
      subst h5
      rw [h2] at h4
      simp at h4
   refine ⟨⟨k + 1, by omega, by go_num, by rw [hps], hout.trans (outside_grown g1 hrange), World.ownsRow.kept (unhide HR) g1 (.inr (fun e => hner g e.symm rfl)), hide ?_⟩, by simp [intOf]; omega⟩
   intro j hj
   by_cases e : j = k
   ·subst e
    refine ⟨_, hu1, ?_⟩
    rw [if_pos (by omega), hmg]
    exact o1
   ·obtain ⟨u', h1, h2⟩ := unhide hall j hj
    have : j < k + 1 ↔ j < k := by omega
    rw [show (if j < k + 1 then M.getD j [] else n.getD j []) = (if j < k then M.getD j [] else n.getD j []) by simp [this]]
    refine ⟨u', h1, h2.kept g1 ?_⟩
    rcases Nat.lt_or_gt_of_ne e with e1 | e1
    ·exact unhide HD j k u' _ e1 h1 hu1
    ·rcases unhide HD k j _ u' e1 hu1 h1 with e2 | e2
     ·cases hq : u'.ownBlock with
      | none => exact .inl rfl
      | some q => right; rw [e2]; simp
     ·exact .inr (fun e3 => e2 e3.symm)
  ·obtain rfl : k = m := by omega
   go_wp2_with fail
   go_ret
   have hMk := unhide hML
   refine ⟨rfl, ⟨vs, by rw [hMk]; exact hrow, fun i hi => ?_, unhide HD, unhide HV, unhide HE⟩, hout⟩
   rw [hMk] at hi
   obtain ⟨u, h1, h2⟩ := unhide hall i hi
   rw [if_pos hi] at h2
   exact ⟨u, h1, h2⟩
end Go.Proofs.YtpolekinfobecaaGreat

namespace Go.Proofs.YtpolekinfobecaaGreat
open Go.RowKit
set_option linter.unusedVariables false

set_option maxHeartbeats 800000 in
set_option maxRecDepth 100000 in
theorem heldByteSS_has {v : Value} {n : List (List Int)} (k0 : Int) {w : World} (h : HasL w v (markL n k0)) (hl : n.length ≤ 1048576) (hl2 : ∀ i, i < n.length → (n.getD i []).length ≤ 1048576) (hk0 : 0 ≤ k0) (hk1 : k0 ≤ 8000000000000000000) :
  Calls Tryz.prog 42 #[v, .int .i64 k0] w fun e w' => e = .returned (.int .i64 (pos n k0 n.length)) ∧ w = w' := by
 have hML := markL_length n k0
 obtain ⟨a, cap, rfl, hcl, hcm⟩ := h.form
 unfold maxLen at hcm
 rw [hML] at hcl h ⊢
 have hP := hide (fun j (hj : j ≤ n.length) => (show k0 ≤ pos n k0 j ∧ pos n k0 j ≤ 8000002000000000000 from by
  have := pos_le n k0 1048576 hl2 j hj
  have : j * 1048576 ≤ 1048576 * 1048576 := Nat.mul_le_mul_right _ (by omega)
  omega))
 have hPS := hide (pos_succ n k0)
 have hP0 := hide (pos_zero n k0)
 have hMG := hide (markL_getD n k0)
 have HML := hide hML
 have HL2 := hide hl2
 clear hl2 hML
 generalize pos n k0 = P at *
 generalize markL n k0 = M at *
 generalize hn : n.length = m at *
 have HN := hide hn
 clear hn
 go_enter Tryz.func42, Tryz.ntmps42
 go_wp2
 go_loop [1, 5] (fun kk i => ∃ k : Nat, k ≤ m ∧ i = .int .i64 k ∧ kk = .int .i64 (P k)) (fun _ i => m - (intOf i).toNat)
 case atStart => exact ⟨0, Nat.zero_le _, rfl, by rw [unhide hP0]⟩
 case round =>
  obtain ⟨k, hk, rfl, rfl⟩ := hrel
  by_cases hlt : k < m
  ·obtain ⟨b, off, u, rfl, hbl, hc, hu⟩ := h.here (k := k) (by rw [unhide HML]; exact hlt)
   have hlk := unhide HL2 k hlt
   have hpk := unhide hP k (by omega)
   have hpk1 := unhide hP (k + 1) (by omega)
   have hps := unhide hPS k hlt
   rw [unhide hMG k hlt] at hu
   generalize (n.getD k []).length = lk at *
   obtain ⟨ua, uc, rfl, hLu⟩ := hu.form
   rw [marks_length] at hc
   have HLU := hide hLu
   clear hu hLu
   go_wp2_with fail
   refine (heldByteS_marks ua uc lk (P k) _ (unhide HLU) (by omega) (by omega) (by omega)).mono ?_
   rintro e w1 ⟨rfl, rfl⟩
   have hneg : ¬ P k + (lk : Int) < 0 := by omega
   go_wp2
   exact ⟨⟨k + 1, by omega, by go_num, by rw [hps]⟩, by simp [intOf]; omega⟩
  ·obtain rfl : k = m := by omega
   go_wp2
   go_ret
   exact ⟨rfl, rfl⟩
end Go.Proofs.YtpolekinfobecaaGreat

namespace Go.Proofs.YtpolekinfobecaaGreat
open Go.RowKit
set_option linter.unusedVariables false

set_option maxHeartbeats 4000000 in
set_option maxRecDepth 100000 in
theorem markNameS_own {l : List (List (List Int))} (hs : ∀ i, i < l.length → SizeNm 1048576 (l.getD i namZ)) (hl : l.length ≤ 1048576) (k0 : Int) (hk0 : 0 ≤ k0) (hk1 : k0 ≤ 4620000000000000000) {B E : Nat} {v : Value} {w : World} (hEw : E ≤ w.heap.size)
  (h : RowX 1 (OwnNm 53 5) namZ B E 44 w v l) :
  Calls Tryz.prog 18 #[v, .int .i64 k0] w fun e w' => e = .returned (.int .i64 (posNs l k0 l.length)) ∧ RowX 1 (OwnNm 53 5) namZ B E 44 w' v (markNs l k0 l.length) ∧ Outside B E w w' := by
 obtain ⟨a, cap, rfl, _⟩ := h.form
 have HP := hide (fun i (hi : i ≤ l.length) => (show k0 ≤ posNs l k0 i ∧ posNs l k0 i ≤ 6930000000000000000 from by
  have q := posNs_bound hs k0 i hi
  have : i * 2199025352707 ≤ 1048576 * 2199025352707 := Nat.mul_le_mul_right _ (by omega)
  omega))
 have HS := hide hs
 have HPS := hide (fun i => (show posNs l k0 (i + 1) = pos (l.getD i namZ) (posNs l k0 i) (l.getD i namZ).length from rfl))
 have HMS := hide (fun i (hi : i < l.length) => markNs_succ l k0 i hi)
 have HMG := hide (fun m j (hj : j < l.length) => markNs_getD l k0 m j hj)
 have HML := hide (markNs_length l k0)
 have H0 := hide (show RowX 1 (OwnNm 53 5) namZ B E 44 w (.slice a l.length cap) (markNs l k0 0) by rw [markNs_zero]; exact h)
 have HZ := hide (show posNs l k0 0 = k0 from rfl)
 clear h hs
 generalize posNs l k0 = P at *
 generalize markNs l k0 = M at *
 generalize hn : l.length = m at *
 have HN := hide hn
 clear hn
 go_enter Tryz.func18, Tryz.ntmps18
 go_wp2
 go_loopw [1, 5] (fun kk i wr => ∃ k : Nat, k ≤ m ∧ i = .int .i64 k ∧ kk = .int .i64 (P k) ∧ Outside B E w wr ∧ RowX 1 (OwnNm 53 5) namZ B E 44 wr (.slice a m cap) (M k)) (fun _ i _ => m - (intOf i).toNat)
 case atStart => exact ⟨0, Nat.zero_le _, rfl, by rw [unhide HZ], Outside.refl _ _ _, unhide H0⟩
 case round =>
  clear H0
  obtain ⟨k, hk, rfl, rfl, hout, hrow⟩ := hrel
  by_cases hlt : k < m
  ·obtain ⟨xs, f, g, ho, hq, hx⟩ := hrow
   have hMl : (M k).length = m := unhide HML k
   rw [hMl] at ho hx
   have hmg : (M k).getD k namZ = l.getD k namZ := by rw [unhide HMG k k hlt, if_neg (Nat.lt_irrefl _)]
   have hms := unhide HMS k hlt
   have hps := unhide HPS k
   have hpk := unhide HP k (by omega)
   have hsk := unhide HS k hlt
   obtain ⟨hB1, hE1, hlow, hqk, vs, hcs, vn, rfl, hR⟩ := hx k hlt
   rw [hmg] at hR
   generalize l.getD k namZ = r at *
   obtain ⟨q, cur, rfl, _, hBq, hg, hnc, hcm, hcz, htk⟩ := ownsRow_atX ho (by omega)
   have hqE := hq q rfl
   have hqs := hqk q rfl
   have hzw := hout.size
   obtain ⟨na, nc, rfl, _⟩ := hR.hasL.form
   have e0 : cur[k]? = some (.slice na r.length nc) := by
    have := hcs 0 _ rfl
    rw [Nat.mul_one, Nat.add_zero, ← htk, take_atX (by omega)] at this
    exact this
   have M1 := hide (fun (w : World) (v : Value) (hh : OwnN (f k) (g k) 53 5 w v r) => markByteSS_any (P k) hh hsk.name hsk.names (by omega) (by omega))
   have HMSK := hide hms
   have HPSK := hide hps
   have HCS := hide hcs
   clear hms hps hcs
   generalize pos r (P k) r.length = P1 at *
   generalize markL r (P k) = MN at *
   have HX := hide hx
   have HG := hide hg
   have HQ := hide hq
   have HO := hide ho
   have c0 := (block_cell hg k).trans e0
   have HN1 := hide hR
   clear hx hg hR hq ho e0 hmg htk hsk
   go_wp2_with fail
   refine (unhide M1 _ _ (unhide HN1)).mono ?_
   rintro e w1 ⟨rfl, n1, u1⟩
   have z1 := u1.size
   have OUT : Hid (Outside B E w w1) := hout.trans (u1.wide (by omega) (by omega))
   have ROW : Hid (RowX 1 (OwnNm 53 5) namZ B E 44 w1 (.slice (some ⟨q, 0, none⟩) m cap) (M (k + 1))) := by
    have hMl : (M k).length = m := unhide HML k
    rw [← unhide HMSK]
    have HX' := unhide HX
    refine RowX.mark (ownsNm 53 5) (m := k) (cs := xs) (cs' := xs) (vs' := [.slice na r.length nc]) (f := f) (g := g) (w := wr) (by rw [hMl]; exact hlt) (unhide HQ) (by rw [hMl]; exact HX') ?_ (fun _ _ _ _ => rfl) (unhide HCS) ⟨_, rfl, n1⟩ ?_
    ·rw [hMl]
     exact ownsRow_out (unhide HO) u1 (fun q' e => by injection e with e; have e' : q = q' := e; omega)
    ·intro i hi hik us hR
     rw [hMl] at hi
     obtain ⟨i1, i2, i3, i4, _⟩ := HX' i hi
     have hdis : g i ≤ f k ∨ g k ≤ f i := by
      by_cases hlt' : i < k
      ·exact .inl (hlow i hlt')
      ·exact .inr (i3 k (by omega))
     exact (ownsNm 53 5).outside hR u1 (by omega)
   have hps := unhide HPSK
   clear n1 u1 HX M1 HO HQ HN1 HG c0 HCS
   go_wp2_with fail
   exact ⟨⟨k + 1, by omega, by go_num, by rw [hps], unhide OUT, unhide ROW⟩, by simp [intOf]; omega⟩
  ·obtain rfl : k = m := by omega
   go_wp2
   go_ret
   exact ⟨rfl, hrow, hout⟩

set_option maxHeartbeats 1000000 in
set_option maxRecDepth 100000 in
theorem heldNameS_has {l : List (List (List Int))} (hs : ∀ i, i < l.length → SizeNm 1048576 (l.getD i namZ)) (hl : l.length ≤ 1048576) (k0 : Int) (hk0 : 0 ≤ k0) (hk1 : k0 ≤ 4620000000000000000) {v : Value} {w : World}
  (h : HasNms w v (markNs l k0 l.length)) :
  Calls Tryz.prog 19 #[v, .int .i64 k0] w fun e w' => e = .returned (.int .i64 (posNs l k0 l.length)) ∧ w = w' := by
 obtain ⟨a, cap, rfl, _⟩ := h.form
 rw [markNs_length] at *
 have HP := hide (fun i (hi : i ≤ l.length) => (show k0 ≤ posNs l k0 i ∧ posNs l k0 i ≤ 6930000000000000000 from by
  have q := posNs_bound hs k0 i hi
  have : i * 2199025352707 ≤ 1048576 * 2199025352707 := Nat.mul_le_mul_right _ (by omega)
  omega))
 have HS := hide hs
 have HPS := hide (fun i => (show posNs l k0 (i + 1) = pos (l.getD i namZ) (posNs l k0 i) (l.getD i namZ).length from rfl))
 have HMG := hide (fun j (hj : j < l.length) => (show (markNs l k0 l.length).getD j namZ = markL (l.getD j namZ) (posNs l k0 j) by rw [markNs_getD l k0 l.length j hj, if_pos hj]))
 have HML := hide (markNs_length l k0 l.length)
 have H0 := hide h
 have HZ := hide (show posNs l k0 0 = k0 from rfl)
 clear h hs
 generalize markNs l k0 l.length = M at *
 generalize posNs l k0 = P at *
 generalize hn : l.length = m at *
 have HN := hide hn
 clear hn
 go_enter Tryz.func19, Tryz.ntmps19
 go_wp2
 go_loopw [1, 5] (fun kk i wr => ∃ k : Nat, k ≤ m ∧ i = .int .i64 k ∧ kk = .int .i64 (P k) ∧ wr = w) (fun _ i _ => m - (intOf i).toNat)
 case atStart => exact ⟨0, Nat.zero_le _, rfl, by rw [unhide HZ], rfl⟩
 case round =>
  obtain ⟨k, hk, rfl, rfl, rfl⟩ := hrel
  by_cases hlt : k < m
  ·have hmk := unhide HMG k hlt
   obtain ⟨b, off, vs, rfl, hbl, hc, vn, rfl, hR⟩ := (unhide H0).here (k := k) (by rw [unhide HML]; exact hlt)
   have hps := unhide HPS k
   have hpk := unhide HP k (by omega)
   have hsk := unhide HS k hlt
   rw [hmk] at hR
   generalize l.getD k namZ = r at *
   obtain ⟨na, nc, rfl, _⟩ := hR.form
   rw [Nat.mul_one] at hc
   have c0 := range1 hc
   have q1 : (markL r (P k)).length = r.length := markL_length _ _
   simp only [q1] at c0 hR
   have hpb := pos_bound' r (P k) hsk.name hsk.names
   have M1 := hide (heldByteSS_has (P k) hR hsk.name hsk.names (by omega) (by omega))
   have hneg : ¬ pos r (P k) r.length < 0 := by omega
   have HPS2 := hide hps
   clear hps hmk hc hR q1
   generalize pos r (P k) r.length = P1 at *
   go_wp2_with fail
   refine (unhide M1).mono ?_
   rintro e w1 ⟨rfl, rfl⟩
   go_wp2_with fail
   have hps := unhide HPS2
   exact ⟨⟨k + 1, by omega, by go_num, by rw [hps], by trivial⟩, by simp [intOf]; omega⟩
  ·obtain rfl : k = m := by omega
   go_wp2
   go_ret
   exact ⟨rfl, rfl⟩
end Go.Proofs.YtpolekinfobecaaGreat

namespace Go.Proofs.YtpolekinfobecaaGreat
open Go.RowKit
set_option linter.unusedVariables false

end Go.Proofs.YtpolekinfobecaaGreat
