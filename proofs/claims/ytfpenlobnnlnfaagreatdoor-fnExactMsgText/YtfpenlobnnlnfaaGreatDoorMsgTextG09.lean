/-
  Plain facts: marks in rows of questions. No program is named here. Contracts of the name helpers of the laws (markName, heldName): what each answers and what it leaves in memory. Contract of a helper of the laws for rows of questions that are answers (markQuestionS). Contracts of the helpers of the laws for []int: markIntS, heldIntS. Contract of a helper of the laws for rows of wants that came in (markWantS). Plain facts: what a slice has lies behind its head. No program is named here.
-/
import Derived.Test.YtfpenlobnnlnfaaGreatDoorMsgTextG04
import Derived.Test.YtfpenlobnnlnfaaGreatDoorMsgTextG03
import Derived.Test.YtfpenlobnnlnfaaGreatDoorMsgTextG08
import Derived.Test.YtfpenlobnnlnfaaGreatDoorMsgTextG01
namespace Go.Proofs.YtfpenlobnnlnfaaGreatDoor
open Go.RowKit
set_option linter.unusedVariables false

def posQu (q : Que) (k : Int) : Int := pos q.name k q.name.length + 1
def markQu (q : Que) (k : Int) : Que := ⟨markL q.name k, pos q.name k q.name.length⟩
def posQs (l : List Que) (k : Int) : Nat → Int
 | 0 => k
 | i + 1 => posQu (l.getD i queZ) (posQs l k i)
def markQs (l : List Que) (k : Int) (m : Nat) : List Que := (List.range l.length).map (fun j => if j < m then markQu (l.getD j queZ) (posQs l k j) else l.getD j queZ)
theorem markQs_length (l : List Que) (k : Int) (m : Nat) : (markQs l k m).length = l.length := by simp [markQs]
theorem markQs_getD (l : List Que) (k : Int) (m j : Nat) (h : j < l.length) : (markQs l k m).getD j queZ = if j < m then markQu (l.getD j queZ) (posQs l k j) else l.getD j queZ := by simp [markQs, h]
theorem markQs_zero (l : List Que) (k : Int) : markQs l k 0 = l := by
 apply List.ext_getElem?
 intro j
 by_cases hj : j < l.length <;> simp [markQs, hj]
theorem markQs_succ (l : List Que) (k : Int) (m : Nat) (hm : m < l.length) : (markQs l k m).set m (markQu (l.getD m queZ) (posQs l k m)) = markQs l k (m + 1) := by
 apply List.ext_getElem?
 intro j
 by_cases e : j = m
 ·subst e
  simp [markQs, hm]
 ·rw [List.getElem?_set_ne (Ne.symm e)]
  by_cases hj : j < l.length
  ·by_cases hjm : j < m
   ·simp [markQs, hj, hjm, show j < m + 1 by omega]
   ·simp [markQs, hj, hjm, show ¬ j < m + 1 by omega]
  ·simp [markQs, hj]
theorem posQs_bound {l : List Que} (hs : ∀ i, i < l.length → SizeQu 1048576 (l.getD i queZ)) (k : Int) : ∀ i, i ≤ l.length → k ≤ posQs l k i ∧ posQs l k i ≤ k + i * 2199025352707
 | 0, _ => by simp [posQs]
 | i + 1, hi => by
  have h1 := posQs_bound hs k i (by omega)
  have h2 := pos_bound' (l.getD i queZ).name (posQs l k i) (hs i (by omega)).name (hs i (by omega)).names
  unfold posQs posQu
  push_cast
  omega
theorem one_set {w : World} {q n : Nat} {cur : Array Value} {t : TypeId} (h : w.heap[q]? = some (.cells cur t)) (x : Value) (hn : n < cur.size) :
  ∃ cur2, (w.setCell ⟨q, n, none⟩ x).heap[q]? = some (.cells cur2 t) ∧ cur2.size = cur.size ∧ cur2[n]? = some x ∧ (∀ j, j ≠ n → cur2[j]? = cur[j]?) ∧ Outside q (q + 1) w (w.setCell ⟨q, n, none⟩ x) := by
 refine ⟨_, UV h n x, by simp, ?_, fun j h1 => ?_, UT _ _ _ _⟩
 ·simp [hn]
 ·simp [Ne.symm h1]
theorem wrap_intM (x : Int) (h0 : 0 ≤ x) (h1 : x < 9223372036854775808) : IntKind.i64.wrap x = x := by
 have := wrap_small x.toNat (by omega)
 rwa [Int.toNat_of_nonneg h0] at this
theorem take_atX {cur : Array Value} {n j : Nat} (hj : j < n) : (cur.toList.take n)[j]? = cur[j]? := by
 rw [List.getElem?_take, if_pos hj, Array.getElem?_toList]
set_option maxHeartbeats 800000 in
set_option maxRecDepth 100000 in
theorem markByteSS_any {B E : Nat} {v : Value} {n : List (List Int)} (k0 : Int) {w : World} (h : OwnN B E 28 5 w v n) (hl : n.length ≤ 1048576) (hl2 : ∀ i, i < n.length → (n.getD i []).length ≤ 1048576) (hk0 : 0 ≤ k0) (hk1 : k0 ≤ 8000000000000000000) :
  Calls Tryz.prog 51 #[v, .int .i64 k0] w fun e w' => e = .returned (.int .i64 (pos n k0 n.length)) ∧ OwnN B E 28 5 w' v (markL n k0) ∧ Outside B E w w' := by
 obtain ⟨a, cap, rfl, hcl, hcm⟩ := h.ownL.hasL.form
 unfold maxLen at hcm
 obtain ⟨vs, ho, hu, hd, hv, he⟩ := h
 have hP := UC (fun j (hj : j ≤ n.length) => (show k0 ≤ pos n k0 j ∧ pos n k0 j ≤ 8000002000000000000 from by
  have := pos_le n k0 1048576 hl2 j hj
  have : j * 1048576 ≤ 1048576 * 1048576 := Nat.mul_le_mul_right _ (by omega)
  omega))
 have hPS := UC (pos_succ n k0)
 have hP0 := UC (pos_zero n k0)
 have hMG := UC (markL_getD n k0)
 have hML := UC (markL_length n k0)
 have HU := UC hu
 have HD := UC hd
 have HE := UC he
 have HV := UC hv
 have HO := UC ho
 have HL2 := UC hl2
 have hvl : vs.length = n.length := by have := ho.1; simpa using this
 clear hu hd he hv ho hl2
 generalize pos n k0 = P at *
 generalize markL n k0 = M at *
 generalize hn : n.length = m at *
 have HN := UC hn
 clear hn
 go_enter Tryz.func51, Tryz.ntmps51
 go_wp2
 go_loopw [1, 5] (fun kk i wr => ∃ k : Nat, k ≤ m ∧ i = .int .i64 k ∧ kk = .int .i64 (P k) ∧ Outside B E w wr ∧ wr.ownsRow B 28 1 (.slice a m cap) m vs ∧ Hid (∀ j, j < m → ∃ u, vs[j]? = some u ∧ Own B 5 wr u (if j < k then M.getD j [] else n.getD j []))) (fun _ i _ => m - (intOf i).toNat)
 case atStart => exact ⟨0, Nat.zero_le _, rfl, by rw [UB hP0], Outside.refl _ _ _, UB HO, UC (fun j hj => by obtain ⟨u, h1, h2⟩ := UB HU j hj; exact ⟨u, h1, by simpa using h2⟩)⟩
 case round =>
  obtain ⟨k, hk, rfl, rfl, hout, hrow, hall⟩ := hrel
  by_cases hlt : k < m
  ·obtain ⟨u, hu1, hu2⟩ := UB hall k hlt
   simp only [Nat.lt_irrefl, if_false] at hu2
   have hlk := UB HL2 k hlt
   have hpk := UB hP k (by omega)
   have hps := UB hPS k hlt
   have hmg := UB hMG k hlt
   have hcell : ∃ g, a = some ⟨g, 0, none⟩ := by
    rcases hrow.2 with ⟨hv, h0⟩ | ⟨g, cap', cur, hv, _⟩
    ·omega
    ·simp only [Value.slice.injEq] at hv; exact ⟨g, hv.1⟩
   obtain ⟨g, rfl⟩ := hcell
   have hc := World.ownsRow.cellAt hrow k (by omega)
   rw [hu1] at hc
   have hgl := (World.ownsRow.lt hrow g rfl)
   have hue := UB HE k u
   have hude := UC hue
   clear hue
   generalize n.getD k [] = lab at *
   have HU2 := UC hu2
   have hur : ∃ ua uc, u = .slice ua lab.length uc := by obtain ⟨ua, uc, e, _⟩ := hu2.lies; exact ⟨ua, uc, e⟩
   clear hu2
   obtain ⟨ua, uc, rfl⟩ := hur
   have HR := UC hrow
   clear hrow
   go_wp2_with fail
   refine (markByteS_any (P k) (UB HU2) (by omega) (by omega) (by omega)).mono ?_
   rintro e w1 ⟨rfl, o1, g1⟩
   go_wp2_with fail
   have hrange : ∀ q, (Value.slice ua lab.length uc).ownBlock = some q → B ≤ q ∧ q < E := fun q hq => ⟨((UB HU2).lt q hq).1, UB hude q hu1 hq⟩
   have hner : ∀ q, (Value.slice ua lab.length uc).ownBlock = some q → q ≠ g := by
    intro q hq e
    subst e
    rcases (UB HU2).2 with ⟨h1, _⟩ | ⟨g', c', cur, h1, _, h2, _⟩
    ·rw [h1] at hq; simp [Value.ownBlock] at hq
    ·rw [h1] at hq
     simp [Value.ownBlock] at hq
     subst hq
     rcases (UB HR).2 with ⟨h3, _⟩ | ⟨g3, c3, cur3, h3, _, h4, _⟩
     ·simp at h3
     ·simp only [Value.slice.injEq, Option.some.injEq, Addr.mk.injEq] at h3
      obtain ⟨⟨h5, _⟩, _⟩ := h3
      subst h5
      rw [h2] at h4
      simp at h4
   refine ⟨⟨k + 1, by omega, by go_num, by rw [hps], hout.trans (outside_grown g1 hrange), World.ownsRow.kept (UB HR) g1 (.inr (fun e => hner g e.symm rfl)), UC ?_⟩, by simp [intOf]; omega⟩
   intro j hj
   by_cases e : j = k
   ·subst e
    refine ⟨_, hu1, ?_⟩
    rw [if_pos (by omega), hmg]
    exact o1
   ·obtain ⟨u', h1, h2⟩ := UB hall j hj
    have : j < k + 1 ↔ j < k := by omega
    rw [show (if j < k + 1 then M.getD j [] else n.getD j []) = (if j < k then M.getD j [] else n.getD j []) by simp [this]]
    refine ⟨u', h1, h2.kept g1 ?_⟩
    rcases Nat.lt_or_gt_of_ne e with e1 | e1
    ·exact UB HD j k u' _ e1 h1 hu1
    ·rcases UB HD k j _ u' e1 hu1 h1 with e2 | e2
     ·cases hq : u'.ownBlock with
      | none => exact .inl rfl
      | some q => right; rw [e2]; simp
     ·exact .inr (fun e3 => e2 e3.symm)
  ·obtain rfl : k = m := by omega
   go_wp2_with fail
   go_ret
   have hMk := UB hML
   refine ⟨rfl, ⟨vs, by rw [hMk]; exact hrow, fun i hi => ?_, UB HD, UB HV, UB HE⟩, hout⟩
   rw [hMk] at hi
   obtain ⟨u, h1, h2⟩ := UB hall i hi
   rw [if_pos hi] at h2
   exact ⟨u, h1, h2⟩
set_option maxHeartbeats 4000000 in
set_option maxRecDepth 100000 in
theorem markQuestionS_own {l : List Que} (hs : ∀ i, i < l.length → SizeQu 1048576 (l.getD i queZ)) (hl : l.length ≤ 1048576) (k0 : Int) (hk0 : 0 ≤ k0) (hk1 : k0 ≤ 4620000000000000000) {B E : Nat} {v : Value} {w : World} (hEw : E ≤ w.heap.size)
  (h : RowX 2 (OwnQu 28 5) queZ B E 51 w v l) :
  Calls Tryz.prog 31 #[v, .int .i64 k0] w fun e w' => e = .returned (.int .i64 (posQs l k0 l.length)) ∧ RowX 2 (OwnQu 28 5) queZ B E 51 w' v (markQs l k0 l.length) ∧ Outside B E w w' := by
 obtain ⟨a, cap, rfl, _⟩ := h.form
 have HP := UC (fun i (hi : i ≤ l.length) => (show k0 ≤ posQs l k0 i ∧ posQs l k0 i ≤ 6930000000000000000 from by
  have q := posQs_bound hs k0 i hi
  have : i * 2199025352707 ≤ 1048576 * 2199025352707 := Nat.mul_le_mul_right _ (by omega)
  omega))
 have HS := UC hs
 have HPS := UC (fun i => (show posQs l k0 (i + 1) = posQu (l.getD i queZ) (posQs l k0 i) from rfl))
 have HMS := UC (fun i (hi : i < l.length) => markQs_succ l k0 i hi)
 have HMG := UC (fun m j (hj : j < l.length) => markQs_getD l k0 m j hj)
 have HML := UC (markQs_length l k0)
 have H0 := UC (show RowX 2 (OwnQu 28 5) queZ B E 51 w (.slice a l.length cap) (markQs l k0 0) by rw [markQs_zero]; exact h)
 have HZ := UC (show posQs l k0 0 = k0 from rfl)
 clear h hs
 generalize posQs l k0 = P at *
 generalize markQs l k0 = M at *
 generalize hn : l.length = m at *
 have HN := UC hn
 clear hn
 go_enter Tryz.func31, Tryz.ntmps31
 go_wp2
 go_loopw [1, 5] (fun kk i wr => ∃ k : Nat, k ≤ m ∧ i = .int .i64 k ∧ kk = .int .i64 (P k) ∧ Outside B E w wr ∧ RowX 2 (OwnQu 28 5) queZ B E 51 wr (.slice a m cap) (M k)) (fun _ i _ => m - (intOf i).toNat)
 case atStart => exact ⟨0, Nat.zero_le _, rfl, by rw [UB HZ], Outside.refl _ _ _, UB H0⟩
 case round =>
  clear H0
  obtain ⟨k, hk, rfl, rfl, hout, hrow⟩ := hrel
  by_cases hlt : k < m
  ·obtain ⟨xs, f, g, ho, hq, hx⟩ := hrow
   have hMl : (M k).length = m := UB HML k
   rw [hMl] at ho hx
   have hmg : (M k).getD k queZ = l.getD k queZ := by rw [UB HMG k k hlt, if_neg (Nat.lt_irrefl _)]
   have hms := UB HMS k hlt
   have hps := UB HPS k
   have hpk := UB HP k (by omega)
   have hsk := UB HS k hlt
   obtain ⟨hB1, hE1, hlow, hqk, vs, hcs, vn, rfl, hR⟩ := hx k hlt
   rw [hmg] at hcs hR
   generalize l.getD k queZ = r at *
   have hpb := pos_bound' r.name (P k) hsk.name hsk.names
   obtain ⟨q, cur, rfl, _, hBq, hg, hnc, hcm, hcz, htk⟩ := ownsRow_atX ho (by omega)
   have hqE := hq q rfl
   have hqs := hqk q rfl
   have hzw := hout.size
   obtain ⟨na, nc, rfl, _⟩ := hR.hasL.form
   have hcur : ∀ j u, ([.slice na r.name.length nc, .int .i64 r.type] : List Value)[j]? = some u → cur[k * 2 + j]? = some u := fun j u hj => by
    have := hcs j u hj
    have hj2 : j < 2 := (List.getElem?_eq_some_iff.1 hj).1
    rw [← htk, take_atX (by omega)] at this
    exact this
   have e0 : cur[k * 2]? = some (.slice na r.name.length nc) := hcur 0 _ rfl
   have e1 : cur[k * 2 + 1]? = some (.int .i64 r.type) := hcur 1 _ rfl
   have hbig : k * 2 + 1 < cur.size := by rw [hcz]; omega
   have M1 := UC (fun (w : World) (v : Value) (hh : OwnN (f k) (g k) 28 5 w v r.name) => markByteSS_any (P k) hh hsk.name hsk.names (by omega) (by omega))
   have hmq : markQu r (P k) = ⟨markL r.name (P k), pos r.name (P k) r.name.length⟩ := rfl
   have hpq : posQu r (P k) = pos r.name (P k) r.name.length + 1 := rfl
   rw [hpq] at hps
   rw [hmq] at hms
   have hw1 : IntKind.i64.wrap (pos r.name (P k) r.name.length + 1) = pos r.name (P k) r.name.length + 1 := wrap_intM _ (by omega) (by omega)
   have HMSK := UC hms
   have HPSK := UC hps
   clear hms hps hpq hmq hcur hcs
   generalize pos r.name (P k) r.name.length = P1 at *
   generalize markL r.name (P k) = MN at *
   have HX := UC hx
   have HG := UC hg
   have HQ := UC hq
   have HO := UC ho
   have c0 := (VE hg (k * 2)).trans e0
   have E0 := UC e0
   have E1 := UC e1
   have HN1 := UC hR
   have HTK := UC htk
   clear hx hg hR hq ho e0 e1 hmg htk hsk
   go_wp2_with fail
   refine (UB M1 _ _ (UB HN1)).mono ?_
   rintro e w1 ⟨rfl, n1, u1⟩
   have z1 := u1.size
   have G1 := u1.kept (UB HG) (by omega)
   have N1 := UC n1
   have U1 := UC u1
   have d1 := (VE G1 (k * 2 + 1)).trans (UB E1)
   have f1 := VG G1 (k * 2 + 1)
   have KG1 := UC G1
   clear n1 u1 G1 HN1 HG c0
   obtain ⟨cur2, g2, z2c, y1, yo, u2⟩ := one_set (n := k * 2 + 1) (UB KG1) (.int .i64 P1) (by omega)
   have N2 := UC ((UB N1).outside u2 (by omega))
   have KG := UC g2
   have YO := UC yo
   have YA := UC y1
   have OUT : Hid (Outside B E w (w1.setCell ⟨q, k * 2 + 1, none⟩ (.int .i64 P1))) := (hout.trans ((UB U1).wide (by omega) (by omega))).trans (u2.wide (by omega) (by omega))
   have U2 := UC u2
   clear u2 g2 yo y1
   have ROW : Hid (RowX 2 (OwnQu 28 5) queZ B E 51 (w1.setCell ⟨q, k * 2 + 1, none⟩ (.int .i64 P1)) (.slice (some ⟨q, 0, none⟩) m cap) (M (k + 1))) := by
    have hMl : (M k).length = m := UB HML k
    rw [← UB HMSK]
    have htk := UB HTK
    have HX' := UB HX
    refine RowX.mark (ownsQu 28 5) (m := k) (cs := xs) (cs' := cur2.toList.take (m * 2)) (vs' := [.slice na r.name.length nc, .int .i64 P1]) (f := f) (g := g) (w := wr) (by rw [hMl]; exact hlt) (UB HQ) (by rw [hMl]; exact HX') ?_ ?_ ?_ ⟨_, rfl, UB N2⟩ ?_
    ·rw [hMl]
     exact ⟨by rw [List.length_take, Array.length_toList, z2c, hcz]; omega, .inr ⟨q, cap, cur2, rfl, hBq, UB KG, hnc, hcm, by rw [z2c, hcz], rfl⟩⟩
    ·intro i j hij hj2
     rw [← htk]
     by_cases hin : i * 2 + j < m * 2
     ·rw [take_atX hin, take_atX hin]
      exact UB YO _ (by omega)
     ·rw [List.getElem?_eq_none (by rw [List.length_take]; omega), List.getElem?_eq_none (by rw [List.length_take]; omega)]
    ·intro j u hj
     have hj2 : j < 2 := (List.getElem?_eq_some_iff.1 hj).1
     rw [take_atX (by omega)]
     match j, hj2, hj with
     | 0, _, hj => cases hj; exact (UB YO (k * 2 + 0) (by omega)).trans (UB E0)
     | 1, _, hj => cases hj; exact UB YA
    ·intro i hi hik us hR
     rw [hMl] at hi
     obtain ⟨i1, i2, i3, i4, _⟩ := HX' i hi
     have hqi := i4 q rfl
     have hdis : g i ≤ f k ∨ g k ≤ f i := by
      by_cases hlt' : i < k
      ·exact .inl (hlow i hlt')
      ·exact .inr (i3 k (by omega))
     exact (ownsQu 28 5).outside ((ownsQu 28 5).outside hR (UB U1) (by omega)) (UB U2) (by omega)
   have hps := UB HPSK
   clear N1 N2 U1 U2 KG YO YA HX HTK E0 E1 M1 HO HQ KG1
   go_wp2_with fail
   exact ⟨⟨k + 1, by omega, by go_num, by rw [hps], UB OUT, UB ROW⟩, by simp [intOf]; omega⟩
  ·obtain rfl : k = m := by omega
   go_wp2
   go_ret
   exact ⟨rfl, hrow, hout⟩
set_option maxHeartbeats 400000
set_option maxRecDepth 100000

theorem markIntS_some (B g cap : Nat) (k0 : Int) (l : List Int) (w : World) (h : OwnI B 3 w (.slice (some ⟨g, 0, none⟩) l.length cap) l) (hl : l.length ≤ 2097152) (hk0 : 0 ≤ k0) (hk1 : k0 ≤ 9000000000000000000) :
  Calls Tryz.prog 52 #[.slice (some ⟨g, 0, none⟩) l.length cap, .int .i64 k0] w fun e w' => e = .returned (.int .i64 (k0 + l.length)) ∧
   OwnI B 3 w' (.slice (some ⟨g, 0, none⟩) l.length cap) (marksI k0 l.length) ∧ w.grownBy w' (some g) := by
 generalize hn : l.length = n at *
 have HN := UC hn
 clear hn
 go_enter Tryz.func52, Tryz.ntmps52
 go_wp2
 go_loopw [1, 5] (fun kk i wr => ∃ k : Nat, k ≤ n ∧ i = .int .i64 k ∧ kk = .int .i64 (k0 + k) ∧ wr.ownsRow B 3 1 (.slice (some ⟨g, 0, none⟩) n cap) n ((markedI l k0 k).map (Value.int .i64)) ∧ w.grownBy wr (some g)) (fun _ i _ => n - (intOf i).toNat)
 case atStart => exact ⟨0, Nat.zero_le _, rfl, by simp, by rw [marked_zeroI]; have h1 := h; unfold OwnI at h1; rw [UB HN] at h1; exact h1, ⟨rfl, rfl, rfl, Nat.le_refl _, fun _ _ _ => rfl⟩⟩
 case round =>
  obtain ⟨k, hk, rfl, rfl, ho, hg⟩ := hrel
  by_cases hlt : k < n
  ·have hc := ho.cellAt k (by omega)
   rw [map_atI _ _ (by rw [marked_lengthI, UB HN]; exact hlt)] at hc
   have hf := ho.frozenAt k
   have HO := UC ho
   clear ho
   go_wp2
   have hst := (UB HO).stored k (.int .i64 (k0 + k))
   refine ⟨⟨k + 1, by omega, by go_num, by go_num, ?_, ?_⟩, by simp [intOf]; omega⟩
   ·rw [← marked_succI, List.map_set]
    exact hst.1
   ·exact grown_trans hg hst.2
  ·go_wp2
   go_ret
   obtain rfl : k = n := by omega
   refine ⟨rfl, ?_, hg⟩
   unfold OwnI
   rw [marks_lengthI]
   have e : markedI l k0 k = marksI k0 k := by have := marked_allI l k0; rw [UB HN] at this; exact this
   rw [← e]
   exact ho

theorem markIntS_nil (k0 : Int) (w : World) (hk0 : 0 ≤ k0) (hk1 : k0 ≤ 9000000000000000000) :
  Calls Tryz.prog 52 #[.slice none 0 0, .int .i64 k0] w fun e w' => e = .returned (.int .i64 k0) ∧ w = w' := by
 go_enter Tryz.func52, Tryz.ntmps52
 go_wp2
 go_loop [1, 5] (fun kk i => i = .int .i64 0 ∧ kk = .int .i64 k0) (fun _ i => 0)
 case atStart => exact ⟨rfl, rfl⟩
 case round =>
  obtain ⟨rfl, rfl⟩ := hrel
  go_wp2
  go_ret
  exact ⟨rfl, rfl⟩

theorem markIntS_any {B : Nat} {v : Value} {l : List Int} (k0 : Int) {w : World} (h : OwnI B 3 w v l) (hl : l.length ≤ 2097152) (hk0 : 0 ≤ k0) (hk1 : k0 ≤ 9000000000000000000) :
  Calls Tryz.prog 52 #[v, .int .i64 k0] w fun e w' => e = .returned (.int .i64 (k0 + l.length)) ∧ OwnI B 3 w' v (marksI k0 l.length) ∧ w.grownBy w' v.ownBlock := by
 rcases h.form with ⟨rfl, rfl⟩ | ⟨g, cap, rfl, _⟩
 ·refine (markIntS_nil k0 w hk0 hk1).mono fun e w' ⟨he, hw⟩ => ?_
  subst hw
  exact ⟨by simpa using he, h, ⟨rfl, rfl, rfl, Nat.le_refl _, fun _ _ _ => rfl⟩⟩
 ·exact markIntS_some B g cap k0 l w h hl hk0 hk1
set_option maxHeartbeats 4000000 in
set_option maxRecDepth 100000 in
theorem markWantS_any {l : List Wnt} (hs : ∀ i, i < l.length → SizeR 1048576 (l.getD i wntZ).rr) (hl : l.length ≤ 1048576) (k0 : Int) (hk0 : 0 ≤ k0) (hk1 : k0 ≤ 4620000000000000000) {B E : Nat} {v : Value} {w : World} (hEw : E ≤ w.heap.size)
  (h : RowX 9 (OwnWn 28 5 3) wntZ B E 81 w v l) :
  Calls Tryz.prog 33 #[v, .int .i64 k0] w fun e w' => (∃ P : Int, e = .returned (.int .i64 P) ∧ k0 ≤ P ∧ P ≤ k0 + l.length * 2199025352709) ∧ Outside B E w w' := by
 obtain ⟨a, cap, rfl, _⟩ := h.form
 have HS := UC hs
 have H0 := UC h
 clear h hs
 generalize hn : l.length = m at *
 have HN := UC hn
 clear hn
 go_enter Tryz.func33, Tryz.ntmps33
 go_wp2
 go_loopw [1, 5] (fun kk i wr => ∃ (k : Nat) (P : Int) (l' : List Wnt), k ≤ m ∧ i = .int .i64 k ∧ kk = .int .i64 P ∧ k0 ≤ P ∧ P ≤ k0 + k * 2199025352709 ∧ Outside B E w wr ∧ l'.length = m ∧ Hid (∀ j, k ≤ j → j < m → l'.getD j wntZ = l.getD j wntZ) ∧ RowX 9 (OwnWn 28 5 3) wntZ B E 81 wr (.slice a m cap) l') (fun _ i _ => m - (intOf i).toNat)
 case atStart => exact ⟨0, k0, l, Nat.zero_le _, rfl, rfl, by omega, by omega, Outside.refl _ _ _, UB HN, UC (fun _ _ _ => rfl), UB H0⟩
 case round =>
  clear H0
  obtain ⟨k, P, l', hk, rfl, rfl, hP0, hP1, hout, hl', hsame, hrow⟩ := hrel
  by_cases hlt : k < m
  ·have hPm : k * 2199025352709 ≤ 1048576 * 2199025352709 := Nat.mul_le_mul_right _ (by omega)
   obtain ⟨xs, f, g, ho, hq, hx⟩ := hrow
   rw [hl'] at ho hx
   have hmg := UB hsame k (Nat.le_refl _) hlt
   have hsk := UB HS k hlt
   obtain ⟨hB1, hE1, hlow, hqk, vs, hcs, vn, vt, vx, vi, rfl, hR⟩ := hx k hlt
   rw [hmg] at hcs hR
   generalize l.getD k wntZ = x at *
   generalize x.rr = r at *
   have hpb := posQ_bound hsk P
   have hNn := hsk.name
   have hNs := hsk.names
   have hTn := hsk.to
   have hTs := hsk.tos
   have hXl := hsk.text
   have hIl := hsk.nums
   obtain ⟨q, cur, rfl, _, hBq, hg, hnc, hcm, hcz, htk⟩ := ownsRow_atX ho (by omega)
   have hqE := hq q rfl
   have hqs := hqk q rfl
   have hzw := hout.size
   obtain ⟨na, nc, rfl, _⟩ := hR.hasR.name.form
   obtain ⟨ta, tc, rfl, _⟩ := hR.hasR.to.form
   obtain ⟨xa, xc, rfl, _⟩ := hR.hasR.text.form
   obtain ⟨ia, ic, rfl, _⟩ := hR.hasR.nums.form
   obtain ⟨s1, s2, s3, a1, a2, a3, a4, h1, h2, h3, h4⟩ := hR
   have hcur : ∀ j u, ([.slice na r.name.length nc, .int .i64 r.type, .int .i64 r.ttl, .int .i64 r.addr, .slice ta r.to.length tc, .slice xa r.text.length xc, .slice ia r.nums.length ic, .int .i64 x.cls, .bool x.bare] : List Value)[j]? = some u → cur[k * 9 + j]? = some u := fun j u hj => by
    have := hcs j u hj
    have hj9 : j < 9 := (List.getElem?_eq_some_iff.1 hj).1
    rw [← htk, take_atX (by omega)] at this
    exact this
   have e0 : cur[k * 9]? = some (.slice na r.name.length nc) := hcur 0 _ rfl
   have e1 : cur[k * 9 + 1]? = some (.int .i64 r.type) := hcur 1 _ rfl
   have e2 : cur[k * 9 + 2]? = some (.int .i64 r.ttl) := hcur 2 _ rfl
   have e3 : cur[k * 9 + 3]? = some (.int .i64 r.addr) := hcur 3 _ rfl
   have e4 : cur[k * 9 + 4]? = some (.slice ta r.to.length tc) := hcur 4 _ rfl
   have e5 : cur[k * 9 + 5]? = some (.slice xa r.text.length xc) := hcur 5 _ rfl
   have e6 : cur[k * 9 + 6]? = some (.slice ia r.nums.length ic) := hcur 6 _ rfl
   have e7 : cur[k * 9 + 7]? = some (.int .i64 x.cls) := hcur 7 _ rfl
   have e8 : cur[k * 9 + 8]? = some (.bool x.bare) := hcur 8 _ rfl
   have hbig : k * 9 + 8 < cur.size := by rw [hcz]; omega
   have M1 := UC (fun (w : World) (v : Value) (hh : OwnN (f k) s1 28 5 w v r.name) => markByteSS_any P hh hNn hNs (by omega) (by omega))
   have M2 := UC (fun (w : World) (v : Value) (hh : OwnN s1 s2 28 5 w v r.to) => markByteSS_any (posN r P + 3) hh hTn hTs (by omega) (by omega))
   have hwrap : ∀ j : Int, 0 ≤ j → j ≤ 3 → IntKind.i64.wrap (posN r P + j) = posN r P + j := fun j _ _ => wrap_intM _ (by omega) (by omega)
   have hpq : posQ r P = posT r P + r.text.length + r.nums.length := rfl
   have hv1 : IntKind.i64.wrap (posT r P + r.text.length + r.nums.length + 1) = posT r P + r.text.length + r.nums.length + 1 := wrap_intM _ (by omega) (by omega)
   have hv2 : IntKind.i64.wrap (posT r P + r.text.length + r.nums.length + 1 + 1) = posT r P + r.text.length + r.nums.length + 2 := by rw [wrap_intM _ (by omega) (by omega)]; omega
   have eP1 : pos r.name P r.name.length = posN r P := rfl
   have eP2 : pos r.to (posN r P + 3) r.to.length = posT r P := rfl
   rw [eP1] at M1
   rw [eP2] at M2
   rw [hpq] at hpb
   clear eP1 eP2 hpq hcur hcs hmg
   generalize markL r.to (posN r P + 3) = MT at *
   generalize markL r.name P = MN at *
   generalize posT r P = P2 at *
   generalize posN r P = P1 at *
   have HX := UC hx
   have HH2 := UC h2
   have HH3 := UC h3
   have HH4 := UC h4
   have HG := UC hg
   have HQ := UC hq
   have c0 := (VE hg (k * 9)).trans e0
   have hw1 := hwrap 1 (by omega) (by omega)
   have hw2 := hwrap 2 (by omega) (by omega)
   have hw3 := hwrap 3 (by omega) (by omega)
   have E0 := UC e0
   have E1 := UC e1
   have E2 := UC e2
   have E3 := UC e3
   have E4 := UC e4
   have E5 := UC e5
   have E6 := UC e6
   have E7 := UC e7
   have E8 := UC e8
   have HN1 := UC h1
   have HTK := UC htk
   clear hx hg h1 h2 h3 h4 hq ho e0 e1 e2 e3 e4 e5 e6 e7 e8 hwrap htk hsk
   have hw2b : IntKind.i64.wrap (P1 + 1 + 1) = P1 + 2 := by rw [show P1 + 1 + 1 = P1 + 2 by omega]; exact hw2
   have hw3b : IntKind.i64.wrap (P1 + 2 + 1) = P1 + 3 := by rw [show P1 + 2 + 1 = P1 + 3 by omega]; exact hw3
   go_wp2_with fail
   refine (UB M1 _ _ (UB HN1)).mono ?_
   rintro e w1 ⟨rfl, n1, u1⟩
   have z1 := u1.size
   have G1 := u1.kept (UB HG) (by omega)
   have T1 := UC ((UB HH2).outside u1 (by omega))
   have X1 := UC ((UB HH3).outside u1 (by omega))
   have Y1 := UC ((UB HH4).outside u1 (by omega))
   have N1 := UC n1
   have U1 := UC u1
   have d1 := (VE G1 (k * 9 + 1)).trans (UB E1)
   have d2 := (VE G1 (k * 9 + 2)).trans (UB E2)
   have d3 := (VE G1 (k * 9 + 3)).trans (UB E3)
   have d4 := (VE G1 (k * 9 + 4)).trans (UB E4)
   have f1 := VG G1 (k * 9 + 1)
   have f2 := VG G1 (k * 9 + 2)
   have f3 := VG G1 (k * 9 + 3)
   have KG1 := UC G1
   clear n1 u1 G1 HH2 HH3 HH4 HN1 HG c0
   go_wp2_with fail
   clear d1 d2 d3 d4 f1 f2 f3 hw1 hw2 hw3 hw2b hw3b
   obtain ⟨cur2, g2, z2c, y1, y2, y3, yo, u2⟩ := three_sets (n := k * 9) (UB KG1) (.int .i64 P1) (.int .i64 (P1 + 1)) (.int .i64 (P1 + 2)) (by omega)
   generalize ((w1.setCell ⟨q, k * 9 + 1, none⟩ (.int .i64 P1)).setCell ⟨q, k * 9 + 2, none⟩ (.int .i64 (P1 + 1))).setCell ⟨q, k * 9 + 3, none⟩ (.int .i64 (P1 + 2)) = w2 at *
   replace N1 := UC ((UB N1).outside u2 (by omega))
   replace T1 := UC ((UB T1).outside u2 (by omega))
   replace X1 := UC ((UB X1).outside u2 (by omega))
   replace Y1 := UC ((UB Y1).outside u2 (by omega))
   have z2 := u2.size
   have U2 := UC u2
   have KG := UC g2
   have YO := UC yo
   have YA := UC y1
   have YB := UC y2
   have YC := UC y3
   clear u2 g2 yo y1 y2 y3 KG1
   refine (UB M2 _ _ (UB T1)).mono ?_
   rintro e w3 ⟨rfl, n3, u3⟩
   replace KG := UC (u3.kept (UB KG) (by omega))
   replace N1 := UC ((UB N1).outside u3 (by omega))
   replace X1 := UC ((UB X1).outside u3 (by omega))
   replace Y1 := UC ((UB Y1).outside u3 (by omega))
   have N3 := UC n3
   have U3 := UC u3
   have z3 := u3.size
   have d5 := (VE (UB KG) (k * 9 + 5)).trans ((UB YO (k * 9 + 5) (by omega) (by omega) (by omega)).trans (UB E5))
   clear n3 u3 T1
   go_wp2_with fail
   clear d5
   refine (markByteS_any P2 (UB X1).1 (by omega) (by omega) (by omega)).mono ?_
   rintro e w4 ⟨rfl, o4, g4⟩
   obtain ⟨x4, u4⟩ := (UB X1).marks o4 g4
   replace KG := UC (u4.kept (UB KG) (by omega))
   replace N1 := UC ((UB N1).outside u4 (by omega))
   replace N3 := UC ((UB N3).outside u4 (by omega))
   replace Y1 := UC ((UB Y1).outside u4 (by omega))
   have X4 := UC x4
   have U4 := UC u4
   have z4 := u4.size
   have d6 := (VE (UB KG) (k * 9 + 6)).trans ((UB YO (k * 9 + 6) (by omega) (by omega) (by omega)).trans (UB E6))
   clear o4 g4 x4 u4 X1
   go_wp2_with fail
   clear d6
   refine (markIntS_any (P2 + r.text.length) (UB Y1).1 (by omega) (by omega) (by omega)).mono ?_
   rintro e w5 ⟨rfl, o5, g5⟩
   obtain ⟨x5, u5⟩ := (UB Y1).marks o5 g5
   replace KG := UC (u5.kept (UB KG) (by omega))
   replace N1 := UC ((UB N1).outside u5 (by omega))
   replace N3 := UC ((UB N3).outside u5 (by omega))
   replace X4 := UC ((UB X4).outside u5 (by omega))
   have Y5 := UC x5
   have U5 := UC u5
   have z5 := u5.size
   clear o5 g5 x5 u5 Y1
   generalize P2 + (r.text.length : Int) + r.nums.length = P6 at *
   have d7 := (VE (UB KG) (k * 9 + 7)).trans ((UB YO (k * 9 + 7) (by omega) (by omega) (by omega)).trans (UB E7))
   have d8 := (VE (UB KG) (k * 9 + 8)).trans ((UB YO (k * 9 + 8) (by omega) (by omega) (by omega)).trans (UB E8))
   have f7 := VG (UB KG) (k * 9 + 7)
   have f8 := VG (UB KG) (k * 9 + 8)
   have ALL : Hid (∀ X : Bool, Outside B E w ((w5.setCell ⟨q, k * 9 + 7, none⟩ (.int .i64 P6)).setCell ⟨q, k * 9 + 8, none⟩ (.bool X)) ∧ ∃ x', RowX 9 (OwnWn 28 5 3) wntZ B E 81 ((w5.setCell ⟨q, k * 9 + 7, none⟩ (.int .i64 P6)).setCell ⟨q, k * 9 + 8, none⟩ (.bool X)) (.slice (some ⟨q, 0, none⟩) m cap) (l'.set k x')) := by
    intro X
    obtain ⟨cur3, g3, z3c, t7, to7, v7⟩ := one_set (n := k * 9 + 7) (UB KG) (.int .i64 P6) (by omega)
    obtain ⟨cur4, g4, z4c, t8, to8, v8⟩ := one_set (n := k * 9 + 8) g3 (.bool X) (by omega)
    have v9 := v7.trans v8
    have OUT : Outside B E w ((w5.setCell ⟨q, k * 9 + 7, none⟩ (.int .i64 P6)).setCell ⟨q, k * 9 + 8, none⟩ (.bool X)) := (((((hout.trans ((UB U1).wide (by omega) (by omega))).trans ((UB U2).wide (by omega) (by omega))).trans ((UB U3).wide (by omega) (by omega))).trans ((UB U4).wide (by omega) (by omega))).trans ((UB U5).wide (by omega) (by omega))).trans (v9.wide (by omega) (by omega))
    refine ⟨OUT, ⟨⟨MN, P1, P1 + 1, P1 + 2, MT, marks P2 r.text.length, marksI (P2 + r.text.length) r.nums.length⟩, P6, X⟩, ?_⟩
    have htk := UB HTK
    have HX' := UB HX
    refine RowX.mark (ownsWn 28 5 3) (m := k) (cs := xs) (cs' := cur4.toList.take (m * 9)) (vs' := [.slice na r.name.length nc, .int .i64 P1, .int .i64 (P1 + 1), .int .i64 (P1 + 2), .slice ta r.to.length tc, .slice xa r.text.length xc, .slice ia r.nums.length ic, .int .i64 P6, .bool X]) (f := f) (g := g) (w := wr) (by rw [hl']; exact hlt) (UB HQ) (by rw [hl']; exact HX') ?_ ?_ ?_ ⟨_, _, _, _, rfl, s1, s2, s3, a1, a2, a3, a4, (UB N1).outside v9 (by omega), (UB N3).outside v9 (by omega), (UB X4).outside v9 (by omega), (UB Y5).outside v9 (by omega)⟩ ?_
    ·rw [hl']
     exact ⟨by rw [List.length_take, Array.length_toList, z4c, z3c, z2c, hcz]; omega, .inr ⟨q, cap, cur4, rfl, hBq, g4, hnc, hcm, by rw [z4c, z3c, z2c, hcz], rfl⟩⟩
    ·intro i j hij hj9
     rw [← htk]
     by_cases hin : i * 9 + j < m * 9
     ·rw [take_atX hin, take_atX hin, to8 _ (by omega), to7 _ (by omega)]
      exact UB YO _ (by omega) (by omega) (by omega)
     ·rw [List.getElem?_eq_none (by rw [List.length_take]; omega), List.getElem?_eq_none (by rw [List.length_take]; omega)]
    ·intro j u hj
     have hj9 : j < 9 := (List.getElem?_eq_some_iff.1 hj).1
     rw [take_atX (by omega)]
     match j, hj9, hj with
     | 0, _, hj => cases hj; exact ((to8 _ (by omega)).trans (to7 _ (by omega))).trans ((UB YO (k * 9 + 0) (by omega) (by omega) (by omega)).trans (UB E0))
     | 1, _, hj => cases hj; exact ((to8 _ (by omega)).trans (to7 _ (by omega))).trans (UB YA)
     | 2, _, hj => cases hj; exact ((to8 _ (by omega)).trans (to7 _ (by omega))).trans (UB YB)
     | 3, _, hj => cases hj; exact ((to8 _ (by omega)).trans (to7 _ (by omega))).trans (UB YC)
     | 4, _, hj => cases hj; exact ((to8 _ (by omega)).trans (to7 _ (by omega))).trans ((UB YO (k * 9 + 4) (by omega) (by omega) (by omega)).trans (UB E4))
     | 5, _, hj => cases hj; exact ((to8 _ (by omega)).trans (to7 _ (by omega))).trans ((UB YO (k * 9 + 5) (by omega) (by omega) (by omega)).trans (UB E5))
     | 6, _, hj => cases hj; exact ((to8 _ (by omega)).trans (to7 _ (by omega))).trans ((UB YO (k * 9 + 6) (by omega) (by omega) (by omega)).trans (UB E6))
     | 7, _, hj => cases hj; exact (to8 _ (by omega)).trans t7
     | 8, _, hj => cases hj; exact t8
    ·intro i hi hik us hR
     rw [hl'] at hi
     obtain ⟨i1, i2, i3, i4, _⟩ := HX' i hi
     have hqi := i4 q rfl
     have hdis : g i ≤ f k ∨ g k ≤ f i := by
      by_cases hlt' : i < k
      ·exact .inl (hlow i hlt')
      ·exact .inr (i3 k (by omega))
     have Ow := ownsWn 28 5 3
     exact Ow.outside (Ow.outside (Ow.outside (Ow.outside (Ow.outside (Ow.outside hR (UB U1) (by omega)) (UB U2) (by omega)) (UB U3) (by omega)) (UB U4) (by omega)) (UB U5) (by omega)) v9 (by omega)
   have HSM : Hid (∀ x' j, k + 1 ≤ j → j < m → (l'.set k x').getD j wntZ = l.getD j wntZ) := fun x' j h1 h2 => by
    rw [← UB hsame j (by omega) h2, List.getD_eq_getElem?_getD, List.getElem?_set_ne (by omega), ← List.getD_eq_getElem?_getD]
   clear N1 N3 X4 Y5 U1 U2 U3 U4 U5 KG YO YA YB YC HX HTK E0 E1 E2 E3 E4 E5 E6 E7 E8 M1 M2 HQ hsame hout
   go_wp2_with fail
   refine ⟨⟨k + 1, P6 + 2, l'.set k (UB ALL _).2.choose, by omega, by go_num, rfl, by omega, by omega, (UB ALL _).1, by rw [List.length_set]; exact hl', UC (UB HSM _), (UB ALL _).2.choose_spec⟩, by simp [intOf]; omega⟩
  ·obtain rfl : k = m := by omega
   go_wp2
   go_ret
   exact ⟨⟨P, rfl, hP0, hP1⟩, hout⟩
end Go.Proofs.YtfpenlobnnlnfaaGreatDoor
