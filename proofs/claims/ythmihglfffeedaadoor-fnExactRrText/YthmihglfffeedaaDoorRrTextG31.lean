/-
  Contract of the specification's RrText. Contracts of the name helpers of the laws (markName, heldName): what each answers and what it leaves in memory. Contracts of the helpers of the laws for names (markName). Contracts of the helpers of the laws for []int: markIntS, heldIntS. Contracts of the helpers of the laws for records (markRr).
-/
import Derived.Test.YthmihglfffeedaaDoorRrTextG26
import Derived.Test.YthmihglfffeedaaDoorRrTextG27
import Derived.Test.YthmihglfffeedaaDoorRrTextG28
import Derived.Test.YthmihglfffeedaaDoorRrTextG29
import Derived.Test.YthmihglfffeedaaDoorRrTextG30
import Derived.Test.YthmihglfffeedaaDoorRrTextG06
import Derived.Test.YthmihglfffeedaaDoorRrTextG01
import Derived.Test.YthmihglfffeedaaDoorRrTextG03
import Derived.Test.YthmihglfffeedaaDoorRrTextG02
import Derived.Test.YthmihglfffeedaaDoorRrTextG05
namespace Go.Proofs.YthmihglfffeedaaDoor
open Go.RowKit
set_option linter.unusedVariables false
set_option maxHeartbeats 800000
set_option maxRecDepth 100000

theorem l3text_has {vn vt vx vi : Value} {r : Rec} {w : World} (h : HasR w vn vt vx vi r) (hok : rrOk r = true) (h8 : Byt r.text) :
  Calls Tryd.prog 17 #[.agg #[vn, .int .i64 r.type, .int .i64 r.ttl, .int .i64 r.addr, vt, vx, vi]] w fun e w' => ∃ v', e = .returned v' ∧ Own w.heap.size 5 w' v' (rrText r) ∧ Below w.heap.size w w' := by
 rw [rrText_yes hok]
 obtain ⟨_, ht, _, _, hd⟩ := rrOk_parts hok
 obtain ⟨na, nc, rfl, _⟩ := h.name.form
 obtain ⟨ta, tc, rfl, _⟩ := h.«to».form
 obtain ⟨xa, xc, rfl, _⟩ := h.text.form
 rcases data_kinds ht hd with ⟨e, h0, h1, _⟩ | ⟨e, hn, _⟩ | ⟨e, hn, x, y, exy, hx0, hx1, hy0, hy1, _⟩ | ⟨e, hx, _⟩
 ·rw [dataT_A e]
  obtain ⟨ia, ic, rfl, _⟩ := h.nums.form
  obtain ⟨nm, ty, tt, ad, tq, tx, nu⟩ := r
  simp only at *
  subst e
  exact l3text_A h hok h0 h1
 ·rw [dataT_N e]
  obtain ⟨ia, ic, rfl, _⟩ := h.nums.form
  obtain ⟨nm, ty, tt, ad, tq, tx, nu⟩ := r
  simp only at *
  exact l3text_N h hok e hn
 ·rw [dataT_S e exy]
  obtain ⟨nm, ty, tt, ad, tq, tx, nu⟩ := r
  simp only at *
  subst e exy
  obtain ⟨ig, io, ic, rfl, _⟩ := h.nums.two
  exact l3text_S h hok hn hx0 hx1 hy0 (by omega)
 ·rw [dataT_X e]
  obtain ⟨ia, ic, rfl, _⟩ := h.nums.form
  obtain ⟨nm, ty, tt, ad, tq, tx, nu⟩ := r
  simp only at *
  exact l3text_X h hok e hx h8
theorem specRrText_has {vn vt vx vi : Value} {r : Rec} {w : World} (h : HasR w vn vt vx vi r) (h8 : Byt r.text) :
  Calls Tryd.prog 5 #[.agg #[vn, .int .i64 r.type, .int .i64 r.ttl, .int .i64 r.addr, vt, vx, vi]] w fun e w' => ∃ v', e = .returned v' ∧ Own w.heap.size 5 w' v' (rrText r) ∧ Below w.heap.size w w' := by
 have PL := UC (show ∀ w1 : World, HasR w1 vn vt vx vi r → rrOk r = true → Calls Tryd.prog 17 #[.agg #[vn, .int .i64 r.type, .int .i64 r.ttl, .int .i64 r.addr, vt, vx, vi]] w1 fun e w' => ∃ v', e = .returned v' ∧ Own w1.heap.size 5 w' v' (rrText r) ∧ Below w1.heap.size w1 w' from fun w1 hh ho => l3text_has hh ho h8)
 have HNO := UC (rrText_no (r := r))
 generalize rrText r = G at *
 obtain ⟨na, nc, rfl, _⟩ := h.name.form
 obtain ⟨ta, tc, rfl, _⟩ := h.«to».form
 obtain ⟨xa, xc, rfl, _⟩ := h.text.form
 obtain ⟨ia, ic, rfl, _⟩ := h.nums.form
 have b0 := UI (w := w) (.cells #[.slice na r.name.length nc, .int .i64 r.type, .int .i64 r.ttl, .int .i64 r.addr, .slice ta r.to.length tc, .slice xa r.text.length xc, .slice ia r.nums.length ic] 33)
 have K0 := UC (heap_alloc_new w (.cells #[.slice na r.name.length nc, .int .i64 r.type, .int .i64 r.ttl, .int .i64 r.addr, .slice ta r.to.length tc, .slice xa r.text.length xc, .slice ia r.nums.length ic] 33))
 have F0 := UC (h.below b0)
 have HO := specRrOk_has (h.below b0)
 cases hok : rrOk r with
 | false =>
  obtain rfl := UB HNO hok
  rw [hok] at HO
  replace HO := UC HO
  clear h hok
  go_enter Tryd.func5, Tryd.ntmps5
  go_wp2_with fail
  refine (UB HO).mono ?_
  rintro e w1 ⟨rfl, b1⟩
  go_wp2_with fail
  go_ret
  exact ⟨_, rfl, World.ownsRow_nil _ _ _ _, UG b0 b1⟩
 | true =>
  rw [hok] at HO
  replace HO := UC HO
  have HOK := UC hok
  clear h hok
  go_enter Tryd.func5, Tryd.ntmps5
  go_wp2_with fail
  generalize w.alloc (.cells #[.slice na r.name.length nc, .int .i64 r.type, .int .i64 r.ttl, .int .i64 r.addr, .slice ta r.to.length tc, .slice xa r.text.length xc, .slice ia r.nums.length ic] 33) = W at *
  refine (UB HO).mono ?_
  rintro e w1 ⟨rfl, b1⟩
  have F1 := UC ((UB F0).below b1)
  obtain ⟨d0, d1, d2, d3, d4, d5, d6⟩ := UJ (UE b1 (UB K0))
  have bb1 := UG b0 b1
  have z1 := bb1.size
  go_wp2_with fail
  refine (UB PL _ (UB F1) (UB HOK)).mono ?_
  rintro e w2 ⟨v2, rfl, o2, b2⟩
  have O2 := UC (o2.mono z1)
  clear o2
  go_wp2_with fail
  go_ret
  exact ⟨v2, rfl, UB O2, UG bb1 b2⟩
set_option maxHeartbeats 800000 in
set_option maxRecDepth 100000 in
theorem markByteSS_any {B E : Nat} {v : Value} {n : List (List Int)} (k0 : Int) {w : World} (h : OwnN B E 25 5 w v n) (hl : n.length ≤ 1048576) (hl2 : ∀ i, i < n.length → (n.getD i []).length ≤ 1048576) (hk0 : 0 ≤ k0) (hk1 : k0 ≤ 8000000000000000000) :
  Calls Tryd.prog 51 #[v, .int .i64 k0] w fun e w' => e = .returned (.int .i64 (pos n k0 n.length)) ∧ OwnN B E 25 5 w' v (markL n k0) ∧ Outside B E w w' := by
 obtain ⟨a, cap, rfl, hcl, hcm⟩ := h.ownL.hasL.form
 unfold maxLen at hcm
 obtain ⟨vs, ho, hu, hd, hv, he⟩ := h
 have hP := UC (fun j (hj : j ≤ n.length) => (show k0 ≤ pos n k0 j ∧ pos n k0 j ≤ 8000002000000000000 from by
  have := pos_le n k0 1048576 hl2 j hj
  have : j * 1048576 ≤ 1048576 * 1048576 := Nat.mul_le_mul_right _ (by omega)
  omega))
 have hPS := UC (pos_succ n k0)
 have hP0 := UC (pos_zero n k0)
 have hMG := UC (markL_getD n k0)
 have hML := UC (markL_length n k0)
 have HU := UC hu
 have HD := UC hd
 have HE := UC he
 have HV := UC hv
 have HO := UC ho
 have HL2 := UC hl2
 have hvl : vs.length = n.length := by have := ho.1; simpa using this
 clear hu hd he hv ho hl2
 generalize pos n k0 = P at *
 generalize markL n k0 = M at *
 generalize hn : n.length = m at *
 have HN := UC hn
 clear hn
 go_enter Tryd.func51, Tryd.ntmps51
 go_wp2
 go_loopw [1, 5] (fun kk i wr => ∃ k : Nat, k ≤ m ∧ i = .int .i64 k ∧ kk = .int .i64 (P k) ∧ Outside B E w wr ∧ wr.ownsRow B 25 1 (.slice a m cap) m vs ∧ Hid (∀ j, j < m → ∃ u, vs[j]? = some u ∧ Own B 5 wr u (if j < k then M.getD j [] else n.getD j []))) (fun _ i _ => m - (intOf i).toNat)
 case atStart => exact ⟨0, Nat.zero_le _, rfl, by rw [UB hP0], Outside.refl _ _ _, UB HO, UC (fun j hj => by obtain ⟨u, h1, h2⟩ := UB HU j hj; exact ⟨u, h1, by simpa using h2⟩)⟩
 case round =>
  obtain ⟨k, hk, rfl, rfl, hout, hrow, hall⟩ := hrel
  by_cases hlt : k < m
  ·obtain ⟨u, hu1, hu2⟩ := UB hall k hlt
   simp only [Nat.lt_irrefl, if_false] at hu2
   have hlk := UB HL2 k hlt
   have hpk := UB hP k (by omega)
   have hps := UB hPS k hlt
   have hmg := UB hMG k hlt
   have hcell : ∃ g, a = some ⟨g, 0, none⟩ := by
    rcases hrow.2 with ⟨hv, h0⟩ | ⟨g, cap', cur, hv, _⟩
    ·omega
    ·simp only [Value.slice.injEq] at hv; exact ⟨g, hv.1⟩
   obtain ⟨g, rfl⟩ := hcell
   have hc := World.ownsRow.cellAt hrow k (by omega)
   rw [hu1] at hc
   have hgl := (World.ownsRow.lt hrow g rfl)
   have hue := UB HE k u
   have hude := UC hue
   clear hue
   generalize n.getD k [] = lab at *
   have HU2 := UC hu2
   have hur : ∃ ua uc, u = .slice ua lab.length uc := by obtain ⟨ua, uc, e, _⟩ := hu2.lies; exact ⟨ua, uc, e⟩
   clear hu2
   obtain ⟨ua, uc, rfl⟩ := hur
   have HR := UC hrow
   clear hrow
   go_wp2_with fail
   refine (markByteS_any (P k) (UB HU2) (by omega) (by omega) (by omega)).mono ?_
   rintro e w1 ⟨rfl, o1, g1⟩
   go_wp2_with fail
   have hrange : ∀ q, (Value.slice ua lab.length uc).ownBlock = some q → B ≤ q ∧ q < E := fun q hq => ⟨((UB HU2).lt q hq).1, UB hude q hu1 hq⟩
   have hner : ∀ q, (Value.slice ua lab.length uc).ownBlock = some q → q ≠ g := by
    intro q hq e
    subst e
    rcases (UB HU2).2 with ⟨h1, _⟩ | ⟨g', c', cur, h1, _, h2, _⟩
    ·rw [h1] at hq; simp [Value.ownBlock] at hq
    ·rw [h1] at hq
     simp [Value.ownBlock] at hq
     subst hq
     rcases (UB HR).2 with ⟨h3, _⟩ | ⟨g3, c3, cur3, h3, _, h4, _⟩
     ·simp at h3
     ·simp only [Value.slice.injEq, Option.some.injEq, Addr.mk.injEq] at h3
      obtain ⟨⟨h5, _⟩, _⟩ := h3
      subst h5
      rw [h2] at h4
      simp at h4
   refine ⟨⟨k + 1, by omega, by go_num, by rw [hps], hout.trans (outside_grown g1 hrange), World.ownsRow.kept (UB HR) g1 (.inr (fun e => hner g e.symm rfl)), UC ?_⟩, by simp [intOf]; omega⟩
   intro j hj
   by_cases e : j = k
   ·subst e
    refine ⟨_, hu1, ?_⟩
    rw [if_pos (by omega), hmg]
    exact o1
   ·obtain ⟨u', h1, h2⟩ := UB hall j hj
    have : j < k + 1 ↔ j < k := by omega
    rw [show (if j < k + 1 then M.getD j [] else n.getD j []) = (if j < k then M.getD j [] else n.getD j []) by simp [this]]
    refine ⟨u', h1, h2.kept g1 ?_⟩
    rcases Nat.lt_or_gt_of_ne e with e1 | e1
    ·exact UB HD j k u' _ e1 h1 hu1
    ·rcases UB HD k j _ u' e1 hu1 h1 with e2 | e2
     ·cases hq : u'.ownBlock with
      | none => exact .inl rfl
      | some q => right; rw [e2]; simp
     ·exact .inr (fun e3 => e2 e3.symm)
  ·obtain rfl : k = m := by omega
   go_wp2_with fail
   go_ret
   have hMk := UB hML
   refine ⟨rfl, ⟨vs, by rw [hMk]; exact hrow, fun i hi => ?_, UB HD, UB HV, UB HE⟩, hout⟩
   rw [hMk] at hi
   obtain ⟨u, h1, h2⟩ := UB hall i hi
   rw [if_pos hi] at h2
   exact ⟨u, h1, h2⟩
set_option maxHeartbeats 400000 in
set_option maxRecDepth 100000 in
theorem markName_any {B E : Nat} {v : Value} {n : List (List Int)} (k0 : Int) {w : World} (h : OwnN B E 25 5 w v n) (hl : n.length ≤ 1048576) (hl2 : ∀ i, i < n.length → (n.getD i []).length ≤ 1048576) (hk0 : 0 ≤ k0) (hk1 : k0 ≤ 8000000000000000000) :
  Calls Tryd.prog 29 #[.agg #[v], .int .i64 k0] w fun e w' => e = .returned (.int .i64 (pos n k0 n.length)) ∧ OwnN B E 25 5 w' v (markL n k0) ∧ Outside B E w w' := by
 have hc := UC (markByteSS_any k0 (h.below (UI (.cells #[v] 31))) hl hl2 hk0 hk1)
 obtain ⟨a, cap, rfl, _⟩ := h.ownL.hasL.form
 have HL2 := UC hl2
 clear h hl2
 generalize pos n k0 n.length = P at *
 go_enter Tryd.func29, Tryd.ntmps29
 go_wp2_with fail
 refine (UB hc).mono ?_
 rintro e w1 ⟨rfl, o1, x1⟩
 go_wp2_with fail
 go_ret
 exact ⟨rfl, o1, (Below.outside (UI _)).trans x1⟩
set_option maxHeartbeats 400000
set_option maxRecDepth 100000

theorem markIntS_some (B g cap : Nat) (k0 : Int) (l : List Int) (w : World) (h : OwnI B 3 w (.slice (some ⟨g, 0, none⟩) l.length cap) l) (hl : l.length ≤ 2097152) (hk0 : 0 ≤ k0) (hk1 : k0 ≤ 9000000000000000000) :
  Calls Tryd.prog 30 #[.slice (some ⟨g, 0, none⟩) l.length cap, .int .i64 k0] w fun e w' => e = .returned (.int .i64 (k0 + l.length)) ∧
   OwnI B 3 w' (.slice (some ⟨g, 0, none⟩) l.length cap) (marksI k0 l.length) ∧ w.grownBy w' (some g) := by
 generalize hn : l.length = n at *
 have HN := UC hn
 clear hn
 go_enter Tryd.func30, Tryd.ntmps30
 go_wp2
 go_loopw [1, 5] (fun kk i wr => ∃ k : Nat, k ≤ n ∧ i = .int .i64 k ∧ kk = .int .i64 (k0 + k) ∧ wr.ownsRow B 3 1 (.slice (some ⟨g, 0, none⟩) n cap) n ((markedI l k0 k).map (Value.int .i64)) ∧ w.grownBy wr (some g)) (fun _ i _ => n - (intOf i).toNat)
 case atStart => exact ⟨0, Nat.zero_le _, rfl, by simp, by rw [marked_zeroI]; have h1 := h; unfold OwnI at h1; rw [UB HN] at h1; exact h1, ⟨rfl, rfl, rfl, Nat.le_refl _, fun _ _ _ => rfl⟩⟩
 case round =>
  obtain ⟨k, hk, rfl, rfl, ho, hg⟩ := hrel
  by_cases hlt : k < n
  ·have hc := ho.cellAt k (by omega)
   rw [map_atI _ _ (by rw [marked_lengthI, UB HN]; exact hlt)] at hc
   have hf := ho.frozenAt k
   have HO := UC ho
   clear ho
   go_wp2
   have hst := (UB HO).stored k (.int .i64 (k0 + k))
   refine ⟨⟨k + 1, by omega, by go_num, by go_num, ?_, ?_⟩, by simp [intOf]; omega⟩
   ·rw [← marked_succI, List.map_set]
    exact hst.1
   ·exact grown_trans hg hst.2
  ·go_wp2
   go_ret
   obtain rfl : k = n := by omega
   refine ⟨rfl, ?_, hg⟩
   unfold OwnI
   rw [marks_lengthI]
   have e : markedI l k0 k = marksI k0 k := by have := marked_allI l k0; rw [UB HN] at this; exact this
   rw [← e]
   exact ho

theorem markIntS_nil (k0 : Int) (w : World) (hk0 : 0 ≤ k0) (hk1 : k0 ≤ 9000000000000000000) :
  Calls Tryd.prog 30 #[.slice none 0 0, .int .i64 k0] w fun e w' => e = .returned (.int .i64 k0) ∧ w = w' := by
 go_enter Tryd.func30, Tryd.ntmps30
 go_wp2
 go_loop [1, 5] (fun kk i => i = .int .i64 0 ∧ kk = .int .i64 k0) (fun _ i => 0)
 case atStart => exact ⟨rfl, rfl⟩
 case round =>
  obtain ⟨rfl, rfl⟩ := hrel
  go_wp2
  go_ret
  exact ⟨rfl, rfl⟩

theorem markIntS_any {B : Nat} {v : Value} {l : List Int} (k0 : Int) {w : World} (h : OwnI B 3 w v l) (hl : l.length ≤ 2097152) (hk0 : 0 ≤ k0) (hk1 : k0 ≤ 9000000000000000000) :
  Calls Tryd.prog 30 #[v, .int .i64 k0] w fun e w' => e = .returned (.int .i64 (k0 + l.length)) ∧ OwnI B 3 w' v (marksI k0 l.length) ∧ w.grownBy w' v.ownBlock := by
 rcases h.form with ⟨rfl, rfl⟩ | ⟨g, cap, rfl, _⟩
 ·refine (markIntS_nil k0 w hk0 hk1).mono fun e w' ⟨he, hw⟩ => ?_
  subst hw
  exact ⟨by simpa using he, h, ⟨rfl, rfl, rfl, Nat.le_refl _, fun _ _ _ => rfl⟩⟩
 ·exact markIntS_some B g cap k0 l w h hl hk0 hk1
theorem pos_bound (n : List (List Int)) (k : Int) (hl : n.length ≤ 1048576) (hl2 : ∀ i, i < n.length → (n.getD i []).length ≤ 1048576) : k ≤ pos n k n.length ∧ pos n k n.length ≤ k + 1099511627776 := by
 have h1 := pos_le n k 1048576 hl2 n.length (Nat.le_refl _)
 have h2 : n.length * 1048576 ≤ 1048576 * 1048576 := Nat.mul_le_mul_right _ hl
 omega

set_option maxHeartbeats 1000000 in
set_option maxRecDepth 100000 in
theorem markRr_any {r : Rec} (hs : SizeR 1048576 r) (k0 : Int) (hk0 : 0 ≤ k0) (hk1 : k0 ≤ 4600000000000000000) :
  ∃ P : Int, k0 ≤ P ∧ P ≤ k0 + 4398046511104 ∧ ∀ (B E : Nat) (vn vt vx vi : Value) (w : World), E ≤ w.heap.size → OwnR B E 25 5 3 w vn vt vx vi r →
   Calls Tryd.prog 10 #[.agg #[vn, .int .i64 r.type, .int .i64 r.ttl, .int .i64 r.addr, vt, vx, vi], .int .i64 k0] w fun e w' => e = .returned (.int .i64 P) ∧ Outside B E w w' := by
 have p1 := pos_bound r.name k0 hs.name hs.names
 have p2 := pos_bound r.to (pos r.name k0 r.name.length) hs.to hs.tos
 refine ⟨pos r.to (pos r.name k0 r.name.length) r.to.length + r.text.length + r.nums.length, ?_, ?_, ?_⟩
 ·have := hs.text; have := hs.nums; omega
 ·have := hs.text; have := hs.nums; omega
 intro B E vn vt vx vi w hEw h
 obtain ⟨na, nc, rfl, _⟩ := h.hasR.name.form
 obtain ⟨ta, tc, rfl, _⟩ := h.hasR.to.form
 obtain ⟨xa, xc, rfl, _⟩ := h.hasR.text.form
 obtain ⟨ia, ic, rfl, _⟩ := h.hasR.nums.form
 have b0 := UI (w := w) (.cells #[.slice na r.name.length nc, .int .i64 r.type, .int .i64 r.ttl, .int .i64 r.addr, .slice ta r.to.length tc, .slice xa r.text.length xc, .slice ia r.nums.length ic] 33)
 have k0' := heap_alloc_new w (.cells #[.slice na r.name.length nc, .int .i64 r.type, .int .i64 r.ttl, .int .i64 r.addr, .slice ta r.to.length tc, .slice xa r.text.length xc, .slice ia r.nums.length ic] 33)
 obtain ⟨s1, s2, s3, a1, a2, a3, a4, h1, h2, h3, h4⟩ := h.below b0
 have HT := hs.text
 have HN := hs.nums
 have M1 := UC (fun (w : World) (v : Value) (hh : OwnN B s1 25 5 w v r.name) => markName_any k0 hh hs.name hs.names hk0 (by omega))
 have M2 := UC (fun (w : World) (v : Value) (hh : OwnN s1 s2 25 5 w v r.to) => markName_any (pos r.name k0 r.name.length) hh hs.to hs.tos (by omega) (by omega))
 generalize pos r.to (pos r.name k0 r.name.length) r.to.length = P2 at *
 generalize pos r.name k0 r.name.length = P1 at *
 have K0 := UC k0'
 have H1 := UC h1
 have H2 := UC h2
 have H3 := UC h3
 have H4 := UC h4
 clear h k0' h1 h2 h3 h4 hs
 go_enter Tryd.func10, Tryd.ntmps10
 go_wp2_with fail
 have u0 : Outside B E w (w.alloc (.cells #[.slice na r.name.length nc, .int .i64 r.type, .int .i64 r.ttl, .int .i64 r.addr, .slice ta r.to.length tc, .slice xa r.text.length xc, .slice ia r.nums.length ic] 33)) := Below.outside b0
 generalize w.alloc (.cells #[.slice na r.name.length nc, .int .i64 r.type, .int .i64 r.ttl, .int .i64 r.addr, .slice ta r.to.length tc, .slice xa r.text.length xc, .slice ia r.nums.length ic] 33) = W at *
 refine (UB M1 _ _ (UB H1)).mono ?_
 rintro e w1 ⟨rfl, _, u1⟩
 have U1 := u0.trans (u1.wide (B' := B) (E' := E) (by omega) (by omega))
 have K1 := UC (u1.kept (UB K0) (by omega))
 have T1 := UC ((UB H2).outside u1 (by omega))
 have X1 := UC ((UB H3).outside u1 (by omega))
 have Y1 := UC ((UB H4).outside u1 (by omega))
 obtain ⟨d0, d1, d2, d3, d4, d5, d6⟩ := UJ (UB K1)
 clear u0 u1 K0 H1 H2 H3 H4
 go_wp2_with fail
 clear d0 d1 d2 d3 d4 d5 d6
 refine (UB M2 _ _ (UB T1)).mono ?_
 rintro e w2 ⟨rfl, _, u2⟩
 have U2 := U1.trans (u2.wide (B' := B) (E' := E) (by omega) (by omega))
 have K2 := UC (u2.kept (UB K1) (by omega))
 have X2 := UC ((UB X1).outside u2 (by omega))
 have Y2 := UC ((UB Y1).outside u2 (by omega))
 obtain ⟨d0, d1, d2, d3, d4, d5, d6⟩ := UJ (UB K2)
 clear U1 u2 K1 T1 X1 Y1
 go_wp2_with fail
 clear d0 d1 d2 d3 d4 d5 d6
 refine (markByteS_any P2 (UB X2).1 (by omega) (by omega) (by omega)).mono ?_
 rintro e w3 ⟨rfl, o3, g3⟩
 obtain ⟨_, u3⟩ := (UB X2).marks o3 g3
 have U3 := U2.trans (u3.wide (B' := B) (E' := E) (by omega) (by omega))
 have K3 := UC (u3.kept (UB K2) (by omega))
 have Y3 := UC ((UB Y2).outside u3 (by omega))
 obtain ⟨d0, d1, d2, d3, d4, d5, d6⟩ := UJ (UB K3)
 clear U2 u3 K2 X2 Y2 o3 g3
 go_wp2_with fail
 clear d0 d1 d2 d3 d4 d5 d6
 refine (markIntS_any (P2 + r.text.length) (UB Y3).1 (by omega) (by omega) (by omega)).mono ?_
 rintro e w4 ⟨rfl, o4, g4⟩
 obtain ⟨_, u4⟩ := (UB Y3).marks o4 g4
 have U4 := U3.trans (u4.wide (B' := B) (E' := E) (by omega) (by omega))
 go_wp2_with fail
 go_ret
 exact ⟨rfl, U4⟩
end Go.Proofs.YthmihglfffeedaaDoor
