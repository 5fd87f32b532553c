/-
  Contracts of the name helpers of the laws (markName, heldName): what each answers and what it leaves in memory. Plain facts: what a slice has lies behind its head. No program is named here. Contracts of the helpers of the laws for []int: markIntS, heldIntS. Contracts of the helpers of the laws for rows of records that are answers (markRrS, heldRrS).
-/
import Derived.Test.YtaehfeobfkaicaaGreatCacheGetG43
import Derived.Test.YtaehfeobfkaicaaGreatCacheGetG01
import Derived.Test.YtaehfeobfkaicaaGreatCacheGetG02
import Derived.Test.YtaehfeobfkaicaaGreatCacheGetG07
import Derived.Test.YtaehfeobfkaicaaGreatCacheGetG05
namespace Go.Proofs.YtaehfeobfkaicaaGreat
open Go.RowKit
set_option linter.unusedVariables false

set_option maxHeartbeats 800000 in
set_option maxRecDepth 100000 in
theorem markByteSS_any {B E : Nat} {v : Value} {n : List (List Int)} (k0 : Int) {w : World} (h : OwnN B E 56 5 w v n) (hl : n.length ≤ 1048576) (hl2 : ∀ i, i < n.length → (n.getD i []).length ≤ 1048576) (hk0 : 0 ≤ k0) (hk1 : k0 ≤ 8000000000000000000) :
  Calls Tryz.prog 41 #[v, .int .i64 k0] w fun e w' => e = .returned (.int .i64 (pos n k0 n.length)) ∧ OwnN B E 56 5 w' v (markL n k0) ∧ Outside B E w w' := by
 obtain ⟨a, cap, rfl, hcl, hcm⟩ := h.ownL.hasL.form
 unfold maxLen at hcm
 obtain ⟨vs, ho, hu, hd, hv, he⟩ := h
 have hP := UC (fun j (hj : j ≤ n.length) => (show k0 ≤ pos n k0 j ∧ pos n k0 j ≤ 8000002000000000000 from by
  have := pos_le n k0 1048576 hl2 j hj
  have : j * 1048576 ≤ 1048576 * 1048576 := Nat.mul_le_mul_right _ (by omega)
  omega))
 have hPS := UC (pos_succ n k0)
 have hP0 := UC (pos_zero n k0)
 have hMG := UC (markL_getD n k0)
 have hML := UC (markL_length n k0)
 have HU := UC hu
 have HD := UC hd
 have HE := UC he
 have HV := UC hv
 have HO := UC ho
 have HL2 := UC hl2
 have hvl : vs.length = n.length := by have := ho.1; simpa using this
 clear hu hd he hv ho hl2
 generalize pos n k0 = P at *
 generalize markL n k0 = M at *
 generalize hn : n.length = m at *
 have HN := UC hn
 clear hn
 go_enter Tryz.func41, Tryz.ntmps41
 go_wp2
 go_loopw [1, 5] (fun kk i wr => ∃ k : Nat, k ≤ m ∧ i = .int .i64 k ∧ kk = .int .i64 (P k) ∧ Outside B E w wr ∧ wr.ownsRow B 56 1 (.slice a m cap) m vs ∧ Hid (∀ j, j < m → ∃ u, vs[j]? = some u ∧ Own B 5 wr u (if j < k then M.getD j [] else n.getD j []))) (fun _ i _ => m - (intOf i).toNat)
 case atStart => exact ⟨0, Nat.zero_le _, rfl, by rw [UB hP0], Outside.refl _ _ _, UB HO, UC (fun j hj => by obtain ⟨u, h1, h2⟩ := UB HU j hj; exact ⟨u, h1, by simpa using h2⟩)⟩
 case round =>
  obtain ⟨k, hk, rfl, rfl, hout, hrow, hall⟩ := hrel
  by_cases hlt : k < m
  ·obtain ⟨u, hu1, hu2⟩ := UB hall k hlt
   simp only [Nat.lt_irrefl, if_false] at hu2
   have hlk := UB HL2 k hlt
   have hpk := UB hP k (by omega)
   have hps := UB hPS k hlt
   have hmg := UB hMG k hlt
   have hcell : ∃ g, a = some ⟨g, 0, none⟩ := by
    rcases hrow.2 with ⟨hv, h0⟩ | ⟨g, cap', cur, hv, _⟩
    ·omega
    ·simp only [Value.slice.injEq] at hv; exact ⟨g, hv.1⟩
   obtain ⟨g, rfl⟩ := hcell
   have hc := World.ownsRow.cellAt hrow k (by omega)
   rw [hu1] at hc
   have hgl := (World.ownsRow.lt hrow g rfl)
   have hue := UB HE k u
   have hude := UC hue
   clear hue
   generalize n.getD k [] = lab at *
   have HU2 := UC hu2
   have hur : ∃ ua uc, u = .slice ua lab.length uc := by obtain ⟨ua, uc, e, _⟩ := hu2.lies; exact ⟨ua, uc, e⟩
   clear hu2
   obtain ⟨ua, uc, rfl⟩ := hur
   have HR := UC hrow
   clear hrow
   go_wp2_with fail
   refine (markByteS_any (P k) (UB HU2) (by omega) (by omega) (by omega)).mono ?_
   rintro e w1 ⟨rfl, o1, g1⟩
   go_wp2_with fail
   have hrange : ∀ q, (Value.slice ua lab.length uc).ownBlock = some q → B ≤ q ∧ q < E := fun q hq => ⟨((UB HU2).lt q hq).1, UB hude q hu1 hq⟩
   have hner : ∀ q, (Value.slice ua lab.length uc).ownBlock = some q → q ≠ g := by
    intro q hq e
    subst e
    rcases (UB HU2).2 with ⟨h1, _⟩ | ⟨g', c', cur, h1, _, h2, _⟩
    ·rw [h1] at hq; simp [Value.ownBlock] at hq
    ·rw [h1] at hq
     simp [Value.ownBlock] at hq
     subst hq
     rcases (UB HR).2 with ⟨h3, _⟩ | ⟨g3, c3, cur3, h3, _, h4, _⟩
     ·simp at h3
     ·simp only [Value.slice.injEq, Option.some.injEq, Addr.mk.injEq] at h3
      obtain ⟨⟨h5, _⟩, _⟩ := h3
      subst h5
      rw [h2] at h4
      simp at h4
   refine ⟨⟨k + 1, by omega, by go_num, by rw [hps], hout.trans (outside_grown g1 hrange), World.ownsRow.kept (UB HR) g1 (.inr (fun e => hner g e.symm rfl)), UC ?_⟩, by simp [intOf]; omega⟩
   intro j hj
   by_cases e : j = k
   ·subst e
    refine ⟨_, hu1, ?_⟩
    rw [if_pos (by omega), hmg]
    exact o1
   ·obtain ⟨u', h1, h2⟩ := UB hall j hj
    have : j < k + 1 ↔ j < k := by omega
    rw [show (if j < k + 1 then M.getD j [] else n.getD j []) = (if j < k then M.getD j [] else n.getD j []) by simp [this]]
    refine ⟨u', h1, h2.kept g1 ?_⟩
    rcases Nat.lt_or_gt_of_ne e with e1 | e1
    ·exact UB HD j k u' _ e1 h1 hu1
    ·rcases UB HD k j _ u' e1 hu1 h1 with e2 | e2
     ·cases hq : u'.ownBlock with
      | none => exact .inl rfl
      | some q => right; rw [e2]; simp
     ·exact .inr (fun e3 => e2 e3.symm)
  ·obtain rfl : k = m := by omega
   go_wp2_with fail
   go_ret
   have hMk := UB hML
   refine ⟨rfl, ⟨vs, by rw [hMk]; exact hrow, fun i hi => ?_, UB HD, UB HV, UB HE⟩, hout⟩
   rw [hMk] at hi
   obtain ⟨u, h1, h2⟩ := UB hall i hi
   rw [if_pos hi] at h2
   exact ⟨u, h1, h2⟩
theorem has_lies {w : World} {a : Option Addr} {n cap : Nat} {l : List Int} (h : Has w (.slice a n cap) l) (hn : l.length = n) : Lies w a l := by
 obtain ⟨a', cap', e, hl⟩ := h.form
 injection e with e1 e2 e3
 subst e1
 exact hl
theorem hasI_lies {w : World} {a : Option Addr} {n cap : Nat} {l : List Int} (h : HasI w (.slice a n cap) l) (hn : l.length = n) : LiesI w a l := by
 obtain ⟨a', cap', e, hl⟩ := h.form
 injection e with e1 e2 e3
 subst e1
 exact hl
set_option maxHeartbeats 400000
set_option maxRecDepth 100000

theorem markIntS_some (B g cap : Nat) (k0 : Int) (l : List Int) (w : World) (h : OwnI B 3 w (.slice (some ⟨g, 0, none⟩) l.length cap) l) (hl : l.length ≤ 2097152) (hk0 : 0 ≤ k0) (hk1 : k0 ≤ 9000000000000000000) :
  Calls Tryz.prog 43 #[.slice (some ⟨g, 0, none⟩) l.length cap, .int .i64 k0] w fun e w' => e = .returned (.int .i64 (k0 + l.length)) ∧
   OwnI B 3 w' (.slice (some ⟨g, 0, none⟩) l.length cap) (marksI k0 l.length) ∧ w.grownBy w' (some g) := by
 generalize hn : l.length = n at *
 have HN := UC hn
 clear hn
 go_enter Tryz.func43, Tryz.ntmps43
 go_wp2
 go_loopw [1, 5] (fun kk i wr => ∃ k : Nat, k ≤ n ∧ i = .int .i64 k ∧ kk = .int .i64 (k0 + k) ∧ wr.ownsRow B 3 1 (.slice (some ⟨g, 0, none⟩) n cap) n ((markedI l k0 k).map (Value.int .i64)) ∧ w.grownBy wr (some g)) (fun _ i _ => n - (intOf i).toNat)
 case atStart => exact ⟨0, Nat.zero_le _, rfl, by simp, by rw [marked_zeroI]; have h1 := h; unfold OwnI at h1; rw [UB HN] at h1; exact h1, ⟨rfl, rfl, rfl, Nat.le_refl _, fun _ _ _ => rfl⟩⟩
 case round =>
  obtain ⟨k, hk, rfl, rfl, ho, hg⟩ := hrel
  by_cases hlt : k < n
  ·have hc := ho.cellAt k (by omega)
   rw [map_atI _ _ (by rw [marked_lengthI, UB HN]; exact hlt)] at hc
   have hf := ho.frozenAt k
   have HO := UC ho
   clear ho
   go_wp2
   have hst := (UB HO).stored k (.int .i64 (k0 + k))
   refine ⟨⟨k + 1, by omega, by go_num, by go_num, ?_, ?_⟩, by simp [intOf]; omega⟩
   ·rw [← marked_succI, List.map_set]
    exact hst.1
   ·exact grown_trans hg hst.2
  ·go_wp2
   go_ret
   obtain rfl : k = n := by omega
   refine ⟨rfl, ?_, hg⟩
   unfold OwnI
   rw [marks_lengthI]
   have e : markedI l k0 k = marksI k0 k := by have := marked_allI l k0; rw [UB HN] at this; exact this
   rw [← e]
   exact ho

theorem markIntS_nil (k0 : Int) (w : World) (hk0 : 0 ≤ k0) (hk1 : k0 ≤ 9000000000000000000) :
  Calls Tryz.prog 43 #[.slice none 0 0, .int .i64 k0] w fun e w' => e = .returned (.int .i64 k0) ∧ w = w' := by
 go_enter Tryz.func43, Tryz.ntmps43
 go_wp2
 go_loop [1, 5] (fun kk i => i = .int .i64 0 ∧ kk = .int .i64 k0) (fun _ i => 0)
 case atStart => exact ⟨rfl, rfl⟩
 case round =>
  obtain ⟨rfl, rfl⟩ := hrel
  go_wp2
  go_ret
  exact ⟨rfl, rfl⟩

theorem markIntS_any {B : Nat} {v : Value} {l : List Int} (k0 : Int) {w : World} (h : OwnI B 3 w v l) (hl : l.length ≤ 2097152) (hk0 : 0 ≤ k0) (hk1 : k0 ≤ 9000000000000000000) :
  Calls Tryz.prog 43 #[v, .int .i64 k0] w fun e w' => e = .returned (.int .i64 (k0 + l.length)) ∧ OwnI B 3 w' v (marksI k0 l.length) ∧ w.grownBy w' v.ownBlock := by
 rcases h.form with ⟨rfl, rfl⟩ | ⟨g, cap, rfl, _⟩
 ·refine (markIntS_nil k0 w hk0 hk1).mono fun e w' ⟨he, hw⟩ => ?_
  subst hw
  exact ⟨by simpa using he, h, ⟨rfl, rfl, rfl, Nat.le_refl _, fun _ _ _ => rfl⟩⟩
 ·exact markIntS_some B g cap k0 l w h hl hk0 hk1
theorem wrap_int (x : Int) (h0 : 0 ≤ x) (h1 : x < 9223372036854775808) : IntKind.i64.wrap x = x := by
 have := wrap_small x.toNat (by omega)
 rwa [Int.toNat_of_nonneg h0] at this
theorem ownsRow_at {B m cap n : Nat} {e : TypeId} {w : World} {a : Option Addr} {xs : List Value} (h : w.ownsRow B e 7 (.slice a m cap) n xs) (hn : 0 < n) : ∃ q cur, a = some ⟨q, 0, none⟩ ∧ m = n ∧ B ≤ q ∧ w.heap[q]? = some (.cells cur e) ∧ n ≤ cap ∧ cap ≤ maxLen ∧ cur.size = cap * 7 ∧ cur.toList.take (n * 7) = xs := by
 rcases h.2 with ⟨_, h0⟩ | ⟨q, cap', cur, hv, hB, hg, h1, h2, h3, h4⟩
 ·omega
 ·simp only [Value.slice.injEq] at hv
  obtain ⟨rfl, rfl, rfl⟩ := hv
  exact ⟨q, cur, rfl, rfl, hB, hg, h1, h2, h3, h4⟩
theorem take_at {cur : Array Value} {n j : Nat} (hj : j < n) : (cur.toList.take n)[j]? = cur[j]? := by
 rw [List.getElem?_take, if_pos hj, Array.getElem?_toList]

set_option maxHeartbeats 4000000 in
set_option maxRecDepth 100000 in
theorem markRrS_own {rs : List Rec} (hs : ∀ i, i < rs.length → SizeR 1048576 (rs.getD i recZ)) (hl : rs.length ≤ 1048576) (k0 : Int) (hk0 : 0 ≤ k0) (hk1 : k0 ≤ 4620000000000000000) {B E : Nat} {v : Value} {w : World} (hEw : E ≤ w.heap.size)
  (h : RowO B E 67 56 5 3 w v rs) :
  Calls Tryz.prog 15 #[v, .int .i64 k0] w fun e w' => e = .returned (.int .i64 (posRs rs k0 rs.length)) ∧ RowO B E 67 56 5 3 w' v (markRs rs k0 rs.length) ∧ Outside B E w w' := by
 obtain ⟨a, cap, rfl, _⟩ := h.form
 have HP := UC (fun i (hi : i ≤ rs.length) => (show k0 ≤ posRs rs k0 i ∧ posRs rs k0 i ≤ 6930000000000000000 from by
  have q := posRs_bound hs k0 i hi
  have : i * 2199025352707 ≤ 1048576 * 2199025352707 := Nat.mul_le_mul_right _ (by omega)
  omega))
 have HS := UC hs
 have HPS := UC (fun i => (show posRs rs k0 (i + 1) = posQ (rs.getD i recZ) (posRs rs k0 i) from rfl))
 have HMS := UC (fun i (hi : i < rs.length) => markRs_succ rs k0 i hi)
 have HMG := UC (fun m j (hj : j < rs.length) => markRs_getD rs k0 m j hj)
 have HML := UC (markRs_length rs k0)
 have H0 := UC (show RowO B E 67 56 5 3 w (.slice a rs.length cap) (markRs rs k0 0) by rw [markRs_zero]; exact h)
 have HZ := UC (show posRs rs k0 0 = k0 from rfl)
 clear h hs
 generalize posRs rs k0 = P at *
 generalize markRs rs k0 = M at *
 generalize hn : rs.length = m at *
 have HN := UC hn
 clear hn
 go_enter Tryz.func15, Tryz.ntmps15
 go_wp2
 go_loopw [1, 5] (fun kk i wr => ∃ k : Nat, k ≤ m ∧ i = .int .i64 k ∧ kk = .int .i64 (P k) ∧ Outside B E w wr ∧ RowO B E 67 56 5 3 wr (.slice a m cap) (M k)) (fun _ i _ => m - (intOf i).toNat)
 case atStart => exact ⟨0, Nat.zero_le _, rfl, by rw [UB HZ], Outside.refl _ _ _, UB H0⟩
 case round =>
  clear H0
  obtain ⟨k, hk, rfl, rfl, hout, hrow⟩ := hrel
  by_cases hlt : k < m
  ·obtain ⟨xs, f, g, ho, hq, hx⟩ := hrow
   have hMl : (M k).length = m := UB HML k
   rw [hMl] at ho hx
   have hmg : (M k).getD k recZ = rs.getD k recZ := by rw [UB HMG k k hlt, if_neg (Nat.lt_irrefl _)]
   have hms := UB HMS k hlt
   have hps := UB HPS k
   have hpk := UB HP k (by omega)
   have hsk := UB HS k hlt
   obtain ⟨hB1, hE1, hlow, hqk, vn, vt, vx, vi, hcs, hR⟩ := hx k hlt
   rw [hmg] at hcs hR
   generalize rs.getD k recZ = r at *
   have hpb := posQ_bound hsk (P k)
   have hNn := hsk.name
   have hNs := hsk.names
   have hTn := hsk.to
   have hTs := hsk.tos
   have hXl := hsk.text
   have hIl := hsk.nums
   obtain ⟨q, cur, rfl, _, hBq, hg, hnc, hcm, hcz, htk⟩ := ownsRow_at ho (by omega)
   have hqE := hq q rfl
   have hqs := hqk q rfl
   have hzw := hout.size
   obtain ⟨na, nc, rfl, _⟩ := hR.hasR.name.form
   obtain ⟨ta, tc, rfl, _⟩ := hR.hasR.to.form
   obtain ⟨xa, xc, rfl, _⟩ := hR.hasR.text.form
   obtain ⟨ia, ic, rfl, _⟩ := hR.hasR.nums.form
   obtain ⟨s1, s2, s3, a1, a2, a3, a4, h1, h2, h3, h4⟩ := hR
   have hcur : ∀ j u, (cellsR (.slice na r.name.length nc) (.slice ta r.to.length tc) (.slice xa r.text.length xc) (.slice ia r.nums.length ic) r)[j]? = some u → cur[k * 7 + j]? = some u := fun j u hj => by
    have := hcs j u hj
    rw [← htk, take_at (by have := cells_lt hj; omega)] at this
    exact this
   have e0 : cur[k * 7]? = some (.slice na r.name.length nc) := hcur 0 _ rfl
   have e1 : cur[k * 7 + 1]? = some (.int .i64 r.type) := hcur 1 _ rfl
   have e2 : cur[k * 7 + 2]? = some (.int .i64 r.ttl) := hcur 2 _ rfl
   have e3 : cur[k * 7 + 3]? = some (.int .i64 r.addr) := hcur 3 _ rfl
   have e4 : cur[k * 7 + 4]? = some (.slice ta r.to.length tc) := hcur 4 _ rfl
   have e5 : cur[k * 7 + 5]? = some (.slice xa r.text.length xc) := hcur 5 _ rfl
   have e6 : cur[k * 7 + 6]? = some (.slice ia r.nums.length ic) := hcur 6 _ rfl
   have hbig : k * 7 + 6 < cur.size := by rw [hcz]; omega
   have M1 := UC (fun (w : World) (v : Value) (hh : OwnN (f k) s1 56 5 w v r.name) => markByteSS_any (P k) hh hNn hNs (by omega) (by omega))
   have M2 := UC (fun (w : World) (v : Value) (hh : OwnN s1 s2 56 5 w v r.to) => markByteSS_any (posN r (P k) + 3) hh hTn hTs (by omega) (by omega))
   have hwrap : ∀ j : Int, 0 ≤ j → j ≤ 3 → IntKind.i64.wrap (posN r (P k) + j) = posN r (P k) + j := fun j _ _ => wrap_int _ (by omega) (by omega)
   have eP1 : pos r.name (P k) r.name.length = posN r (P k) := rfl
   have eP2 : pos r.to (posN r (P k) + 3) r.to.length = posT r (P k) := rfl
   rw [eP1] at M1
   rw [eP2] at M2
   have HR9 := UC (show ∀ (w : World) (vn vt vx vi : Value), OwnR (f k) (g k) 56 5 3 w vn vt vx vi ⟨markL r.name (P k), posN r (P k), posN r (P k) + 1, posN r (P k) + 2, markL r.to (posN r (P k) + 3), marks (posT r (P k)) r.text.length, marksI (posT r (P k) + r.text.length) r.nums.length⟩ → OwnR (f k) (g k) 56 5 3 w vn vt vx vi (markQ r (P k)) from fun _ _ _ _ _ q => q)
   have HCQ := UC (show ∀ (vn vt vx vi : Value), cellsR vn vt vx vi (markQ r (P k)) = [vn, .int .i64 (posN r (P k)), .int .i64 (posN r (P k) + 1), .int .i64 (posN r (P k) + 2), vt, vx, vi] from fun _ _ _ _ => rfl)
   have hpq : posQ r (P k) = posT r (P k) + r.text.length + r.nums.length := rfl
   rw [hpq] at hps hpb
   have HMSK := UC hms
   have HPSK := UC hps
   clear hms hps hpq eP1 eP2 hcur hcs
   generalize markQ r (P k) = RQ at *
   generalize markL r.to (posN r (P k) + 3) = MT at *
   generalize markL r.name (P k) = MN at *
   generalize posT r (P k) = P2 at *
   generalize posN r (P k) = P1 at *
   have HX := UC hx
   have HH2 := UC h2
   have HH3 := UC h3
   have HH4 := UC h4
   have HG := UC hg
   have HQ := UC hq
   have HO := UC ho
   have c0 := (VE hg (k * 7)).trans e0
   have hw1 := hwrap 1 (by omega) (by omega)
   have hw2 := hwrap 2 (by omega) (by omega)
   have hw3 := hwrap 3 (by omega) (by omega)
   have E4 := UC e4
   have E5 := UC e5
   have E6 := UC e6
   have E0 := UC e0
   have E1 := UC e1
   have E2 := UC e2
   have E3 := UC e3
   have HN1 := UC h1
   have HTK := UC htk
   clear hx hg h1 h2 h3 h4 hq ho e0 e1 e2 e3 e4 e5 e6 hwrap hmg htk hsk
   have hw2b : IntKind.i64.wrap (P1 + 1 + 1) = P1 + 2 := by rw [show P1 + 1 + 1 = P1 + 2 by omega]; exact hw2
   have hw3b : IntKind.i64.wrap (P1 + 2 + 1) = P1 + 3 := by rw [show P1 + 2 + 1 = P1 + 3 by omega]; exact hw3
   go_wp2_with fail
   refine (UB M1 _ _ (UB HN1)).mono ?_
   rintro e w1 ⟨rfl, n1, u1⟩
   have z1 := u1.size
   have G1 := u1.kept (UB HG) (by omega)
   have T1 := UC ((UB HH2).outside u1 (by omega))
   have X1 := UC ((UB HH3).outside u1 (by omega))
   have Y1 := UC ((UB HH4).outside u1 (by omega))
   have N1 := UC n1
   have U1 := UC u1
   have d1 := (VE G1 (k * 7 + 1)).trans (UB E1)
   have d2 := (VE G1 (k * 7 + 2)).trans (UB E2)
   have d3 := (VE G1 (k * 7 + 3)).trans (UB E3)
   have d4 := (VE G1 (k * 7 + 4)).trans (UB E4)
   have f1 := VG G1 (k * 7 + 1)
   have f2 := VG G1 (k * 7 + 2)
   have f3 := VG G1 (k * 7 + 3)
   have KG1 := UC G1
   clear n1 u1 G1 HH2 HH3 HH4 HN1 HG c0
   go_wp2_with fail
   clear d1 d2 d3 d4 f1 f2 f3 hw1 hw2 hw3 hw2b hw3b
   obtain ⟨cur2, g2, z2c, y1, y2, y3, yo, u2⟩ := three_sets (n := k * 7) (UB KG1) (.int .i64 P1) (.int .i64 (P1 + 1)) (.int .i64 (P1 + 2)) (by omega)
   generalize ((w1.setCell ⟨q, k * 7 + 1, none⟩ (.int .i64 P1)).setCell ⟨q, k * 7 + 2, none⟩ (.int .i64 (P1 + 1))).setCell ⟨q, k * 7 + 3, none⟩ (.int .i64 (P1 + 2)) = w2 at *
   replace N1 := UC ((UB N1).outside u2 (by omega))
   replace T1 := UC ((UB T1).outside u2 (by omega))
   replace X1 := UC ((UB X1).outside u2 (by omega))
   replace Y1 := UC ((UB Y1).outside u2 (by omega))
   have z2 := u2.size
   have U2 := UC u2
   have KG := UC g2
   have YO := UC yo
   have YA := UC y1
   have YB := UC y2
   have YC := UC y3
   clear u2 g2 yo y1 y2 y3 KG1
   refine (UB M2 _ _ (UB T1)).mono ?_
   rintro e w3 ⟨rfl, n3, u3⟩
   replace KG := UC (u3.kept (UB KG) (by omega))
   replace N1 := UC ((UB N1).outside u3 (by omega))
   replace X1 := UC ((UB X1).outside u3 (by omega))
   replace Y1 := UC ((UB Y1).outside u3 (by omega))
   have N3 := UC n3
   have U3 := UC u3
   have z3 := u3.size
   have d5 := (VE (UB KG) (k * 7 + 5)).trans ((UB YO (k * 7 + 5) (by omega) (by omega) (by omega)).trans (UB E5))
   clear n3 u3 T1
   go_wp2_with fail
   clear d5
   refine (markByteS_any P2 (UB X1).1 (by omega) (by omega) (by omega)).mono ?_
   rintro e w4 ⟨rfl, o4, g4⟩
   obtain ⟨x4, u4⟩ := (UB X1).marks o4 g4
   replace KG := UC (u4.kept (UB KG) (by omega))
   replace N1 := UC ((UB N1).outside u4 (by omega))
   replace N3 := UC ((UB N3).outside u4 (by omega))
   replace Y1 := UC ((UB Y1).outside u4 (by omega))
   have X4 := UC x4
   have U4 := UC u4
   have z4 := u4.size
   have d6 := (VE (UB KG) (k * 7 + 6)).trans ((UB YO (k * 7 + 6) (by omega) (by omega) (by omega)).trans (UB E6))
   clear o4 g4 x4 u4 X1
   go_wp2_with fail
   clear d6
   refine (markIntS_any (P2 + r.text.length) (UB Y1).1 (by omega) (by omega) (by omega)).mono ?_
   rintro e w5 ⟨rfl, o5, g5⟩
   obtain ⟨x5, u5⟩ := (UB Y1).marks o5 g5
   replace KG := UC (u5.kept (UB KG) (by omega))
   replace N1 := UC ((UB N1).outside u5 (by omega))
   replace N3 := UC ((UB N3).outside u5 (by omega))
   replace X4 := UC ((UB X4).outside u5 (by omega))
   have Y5 := UC x5
   have U5 := UC u5
   have z5 := u5.size
   clear o5 g5 x5 u5 Y1
   have RR := UC (UB HR9 w5 (.slice na r.name.length nc) (.slice ta r.to.length tc) (.slice xa r.text.length xc) (.slice ia r.nums.length ic) ⟨s1, s2, s3, a1, a2, a3, a4, UB N1, UB N3, UB X4, UB Y5⟩)
   have OUT : Hid (Outside B E w w5) := ((((hout.trans ((UB U1).wide (by omega) (by omega))).trans ((UB U2).wide (by omega) (by omega))).trans ((UB U3).wide (by omega) (by omega))).trans ((UB U4).wide (by omega) (by omega))).trans ((UB U5).wide (by omega) (by omega))
   have ROW : Hid (RowO B E 67 56 5 3 w5 (.slice (some ⟨q, 0, none⟩) m cap) (M (k + 1))) := by
    have hMl : (M k).length = m := UB HML k
    rw [← UB HMSK]
    have htk := UB HTK
    have HX' := UB HX
    refine RowO.mark (m := k) (xs := xs) (xs' := cur2.toList.take (m * 7)) (f := f) (g := g) (w := wr) (by rw [hMl]; exact hlt) (UB HQ) (by rw [hMl]; exact HX') ?_ ?_ ?_ (UB RR) ?_
    ·rw [hMl]
     exact ⟨by rw [List.length_take, Array.length_toList, z2c, hcz]; omega, .inr ⟨q, cap, cur2, rfl, hBq, UB KG, hnc, hcm, by rw [z2c, hcz], rfl⟩⟩
    ·intro i j hij hj7
     rw [← htk]
     by_cases hin : i * 7 + j < m * 7
     ·rw [take_at hin, take_at hin]
      exact UB YO _ (by omega) (by omega) (by omega)
     ·rw [List.getElem?_eq_none (by rw [List.length_take]; omega), List.getElem?_eq_none (by rw [List.length_take]; omega)]
    ·intro j u hj
     have hj7 := cells_lt hj
     rw [take_at (by omega)]
     rw [UB HCQ] at hj
     match j, hj7, hj with
     | 0, _, hj => cases hj; exact (UB YO (k * 7 + 0) (by omega) (by omega) (by omega)).trans (UB E0)
     | 1, _, hj => cases hj; exact UB YA
     | 2, _, hj => cases hj; exact UB YB
     | 3, _, hj => cases hj; exact UB YC
     | 4, _, hj => cases hj; exact (UB YO (k * 7 + 4) (by omega) (by omega) (by omega)).trans (UB E4)
     | 5, _, hj => cases hj; exact (UB YO (k * 7 + 5) (by omega) (by omega) (by omega)).trans (UB E5)
     | 6, _, hj => cases hj; exact (UB YO (k * 7 + 6) (by omega) (by omega) (by omega)).trans (UB E6)
    ·intro i hi hik un ut ux ui hR
     rw [hMl] at hi
     obtain ⟨i1, i2, i3, i4, _⟩ := HX' i hi
     have hqi := i4 q rfl
     have hdis : g i ≤ f k ∨ g k ≤ f i := by
      by_cases hlt' : i < k
      ·exact .inl (hlow i hlt')
      ·exact .inr (i3 k (by omega))
     exact ((((hR.outside (UB U1) (by omega)).outside (UB U2) (by omega)).outside (UB U3) (by omega)).outside (UB U4) (by omega)).outside (UB U5) (by omega)
   have hps := UB HPSK
   clear N1 N3 X4 Y5 U1 U2 U3 U4 U5 RR KG YO YA YB YC HX HTK E0 E1 E2 E3 E4 E5 E6 HCQ HR9 M1 M2 HO HQ
   go_wp2_with fail
   exact ⟨⟨k + 1, by omega, by go_num, by rw [hps], UB OUT, UB ROW⟩, by simp [intOf]; omega⟩
  ·obtain rfl : k = m := by omega
   go_wp2
   go_ret
   exact ⟨rfl, hrow, hout⟩
end Go.Proofs.YtaehfeobfkaicaaGreat
