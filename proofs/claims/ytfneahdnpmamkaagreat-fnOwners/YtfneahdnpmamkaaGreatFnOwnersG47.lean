/-
  Contract of the program's Eb. Contract of the program's Owner. Contract of the program's SetOf. Contract of the laws' same, of any two texts; plain facts: what Owner answers of a zone's sets. The walk of laws.FnOwners.
-/
import Derived.Test.YtfneahdnpmamkaaGreatFnOwnersG46
import Derived.Test.YtfneahdnpmamkaaGreatFnOwnersG41
namespace Go.Proofs.YtfneahdnpmamkaaGreat
open Go.RowKit
set_option linter.unusedVariables false

set_option maxHeartbeats 2000000 in
set_option maxRecDepth 100000 in
theorem Sc {v vi : Value} {l : List Rec} {id : List Int} {w : World} (h : Cl w v l) (hi : Has w vi id) (h60 : l.length ≤ 1048576) :
  Calls Tryz.prog 21 #[v, vi] w fun e w' => e = .returned (.bool (Eb l id)) ∧ Below w.heap.size w w' := by
 obtain ⟨a, cap, rfl, _⟩ := h.form
 obtain ⟨ia', icap, rfl, _⟩ := hi.form
 generalize hm : l.length = m at *
 have HM := UC hm
 have H := UC h
 have HI := UC hi
 clear hm h hi
 generalize hR : Eb l id = R
 have HR := UC hR
 clear hR
 go_enter Tryz.func21, Tryz.ntmps21
 go_wp2_with fail
 go_loopw [9] (fun i wr => ∃ k : Nat, k ≤ m ∧ i = .int .i64 k ∧ (∀ j, j < k → eqT (l.getD j recZ).text id = true) ∧ Below w.heap.size w wr) (fun i _ => m - (intOf i).toNat)
 case atStart => exact ⟨0, Nat.zero_le _, rfl, fun j hj => absurd hj (Nat.not_lt_zero _), Below.refl _ _⟩
 case round =>
  obtain ⟨k, hk, rfl, hall, hbw⟩ := hrel
  have HALL := UC hall
  clear hall
  by_cases hlt : k < m
  ·have hkm : (k : Int) < m := by omega
   obtain ⟨g, off, na, nc, ta, tc, xa, xc, ia, ic, rfl, hbl, hc, hu⟩ := ((UB H).below hbw).here (k := k) (by rw [UB HM]; exact hlt)
   generalize hrk : l.getD k recZ = rk at *
   have HRK := UC hrk
   obtain ⟨c0, c1, c2, c3, c4, c5, c6⟩ := VH hc
   have b1 := UI (w := wr) (.cells #[.slice na rk.name.length nc, .int .i64 rk.type, .int .i64 rk.ttl, .int .i64 rk.addr, .slice ta rk.to.length tc, .slice xa rk.text.length xc, .slice ia rk.nums.length ic] 39)
   have EQ := Tryz.bytes_Equal_strs _ _ _ _ _ (Fl (hu.text.below b1)) (Fl (((UB HI).below hbw).below b1))
   cases hz : eqT rk.text id with
   | true =>
    rw [show ((strOfNums rk.text).toList == (strOfNums id).toList) = true from hz] at EQ
    replace EQ := UC EQ
    have B1 := UC b1
    clear hu hc hrk b1
    go_wp2_with fail
    refine (UB EQ).mono ?_
    rintro e w2 ⟨rfl, rfl⟩
    clear c0 c1 c2 c3 c4 c5 c6
    go_wp2_with fail
    go_roundw
    case rel => exact ⟨k + 1, by omega, by go_num, fun j hj => by
     by_cases hjk : j = k
     ·rw [hjk, UB HRK]; exact hz
     ·exact UB HALL j (by omega), UG hbw (UB B1)⟩
    case measure => simp [intOf]; omega
   | false =>
    rw [show ((strOfNums rk.text).toList == (strOfNums id).toList) = false from hz] at EQ
    replace EQ := UC EQ
    have B1 := UC b1
    clear hu hc hrk b1
    go_wp2_with fail
    refine (UB EQ).mono ?_
    rintro e w2 ⟨rfl, rfl⟩
    clear c0 c1 c2 c3 c4 c5 c6
    go_wp2_with fail
    go_ret
    have hr : R = false := by rw [← UB HR, Ux (i := k) (by rw [UB HM]; exact hlt) (by rw [UB HRK]; exact hz)]
    rw [hr]
    exact ⟨rfl, UG hbw (UB B1)⟩
  ·obtain rfl : k = m := by omega
   have hr : R = decide (0 < k) := by rw [← UB HR, Xg (fun i hi' => UB HALL i (by rw [UB HM] at hi'; exact hi')), UB HM]
   by_cases h0 : 0 < k
   ·have hkp : (0 : Int) < k := by omega
    rw [decide_eq_true h0] at hr
    subst hr
    go_wp2_with fail
    go_ret
    exact ⟨rfl, hbw⟩
   ·obtain rfl : k = 0 := by omega
    rw [decide_eq_false h0] at hr
    subst hr
    go_wp2_with fail
    go_ret
    exact ⟨rfl, hbw⟩
end Go.Proofs.YtfneahdnpmamkaaGreat

namespace Go.Proofs.YtfneahdnpmamkaaGreat
open Go.RowKit Go.Shelf
set_option linter.unusedVariables false

theorem Rf (l : List Rec) : l.isEmpty = ((l.length : Int) == 0) := by
 cases l with
 | nil => rfl
 | cons a l => rw [eq_comm]; simp only [List.isEmpty_cons, List.length_cons]; rw [beq_eq_false_iff_ne]; omega

set_option maxHeartbeats 2000000 in
set_option maxRecDepth 100000 in
theorem Ot {vo vr v vi : Value} {o n : List (List Int)} {rs : List Rec} {id : List Int} {w : World} (h : HasZ w vo vr o rs) (hn : HasL w v n) (hi : Has w vi id) :
  Calls Tryz.prog 5 #[.agg #[vo, vr], .agg #[v], vi] w fun e w' => e = .returned (.tuple #[.bool (E8 o rs n id).1, .bool (E8 o rs n id).2]) ∧ Below w.heap.size w w' := by
 obtain ⟨oa, oc, rfl, _⟩ := h.name.form
 obtain ⟨ra, rc, rfl, _⟩ := h.recs.form
 obtain ⟨a, cap, rfl, _⟩ := hn.form
 obtain ⟨ia, ic, rfl, _⟩ := hi.form
 obtain ⟨hsz, k0, x0⟩ := box2 w (.cells #[.slice oa o.length oc, .slice ra rs.length rc] 28) #[.slice a n.length cap] 25
 have bb := Bl w (.cells #[.slice oa o.length oc, .slice ra rs.length rc] 28) (.cells #[.slice a n.length cap] 25)
 have HH := UC (h.below bb)
 have HN := UC (hn.below bb)
 have HI := UC (hi.below bb)
 have HO := D8 (h.below bb)
 have KZ := UC k0
 have KN := UC x0
 obtain ⟨c0, c1⟩ := UM k0
 clear h hn hi hsz k0 x0
 generalize hres : E8 o rs n id = res
 unfold E8 at hres
 cases hz : Ar o rs with
 | false =>
  rw [if_neg (fun q => by rw [hz] at q; cases q.1)] at hres
  subst hres
  rw [hz] at HO
  replace HO := UC HO
  go_enter Tryz.func5, Tryz.ntmps5
  go_wp2_with fail
  refine (UB HO).mono ?_
  rintro e w1 ⟨rfl, b1⟩
  go_wp2_with fail
  go_ret2
  exact ⟨rfl, UG bb b1⟩
 | true =>
  rw [hz] at HO
  replace HO := UC HO
  cases hnm : Ag n with
  | false =>
   rw [if_neg (fun q => by rw [hnm] at q; cases q.2)] at hres
   subst hres
   go_enter Tryz.func5, Tryz.ntmps5
   go_wp2_with fail
   refine (UB HO).mono ?_
   rintro e w1 ⟨rfl, b1⟩
   have HM := VP ((UB HN).below b1)
   rw [hnm] at HM
   replace HM := UC HM
   have d2 := US (UE b1 (UB KN))
   replace bb := UG bb b1
   clear c0 c1
   go_wp2_with fail
   refine (UB HM).mono ?_
   rintro e w2 ⟨rfl, b2⟩
   go_wp2_with fail
   go_ret2
   exact ⟨rfl, UG bb b2⟩
  | true =>
   rw [if_pos ⟨hz, hnm⟩] at hres
   subst hres
   have hpg := Jz hz hnm
   have hsh := Ju (n := n) hz
   have hset := Tr hz hnm 255
   have hset9 := Tr hz hnm 49
   have hl2 := H9 n 255 rs rs.length
   have hl4 := H9 n 49 rs rs.length
   have HOK := UC (Ev hz)
   have h60 := (Bs hz).2.2
   have hsn := C8 hnm
   dsimp only
   generalize selK n 255 rs rs.length = S2 at *
   generalize selK n 49 rs rs.length = S4 at *
   rw [Rf]
   go_enter Tryz.func5, Tryz.ntmps5
   go_wp2_with fail
   refine (UB HO).mono ?_
   rintro e w1 ⟨rfl, b1⟩
   have HM := VP ((UB HN).below b1)
   rw [hnm] at HM
   replace HM := UC HM
   have d2 := US (UE b1 (UB KN))
   replace bb := UG bb b1
   replace HH := UC ((UB HH).below b1)
   replace HN := UC ((UB HN).below b1)
   replace HI := UC ((UB HI).below b1)
   replace KZ := UC (UE b1 (UB KZ))
   replace KN := UC (UE b1 (UB KN))
   clear c0 c1 b1 HO
   go_wp2_with fail
   refine (UB HM).mono ?_
   rintro e w2 ⟨rfl, b2⟩
   replace bb := UG bb b2
   replace HH := UC ((UB HH).below b2)
   replace HN := UC ((UB HN).below b2)
   replace HI := UC ((UB HI).below b2)
   replace KZ := UC (UE b2 (UB KZ))
   replace KN := UC (UE b2 (UB KN))
   clear d2 b2 HM
   have HPG := UC hpg
   have HSH := UC hsh
   have HSET := UC hset
   have HSET9 := UC hset9
   clear hpg hsh hset hset9
   have BK := UC (Nv (UB HH) (UB HOK) (by omega))
   obtain ⟨c0, c1⟩ := UM (UB KZ)
   go_wp2_with fail
   refine (UB BK).mono ?_
   rintro e w3 ⟨rfl, hB3, b3⟩
   have b4 := UG b3 (UX (w := w3))
   have HB := UC (hB3.below (UX (w := w3)))
   replace bb := UG bb b4
   replace HN := UC ((UB HN).below b4)
   replace HI := UC ((UB HI).below b4)
   replace KN := UC (UE b4 (UB KN))
   clear c0 c1 b3 hB3 BK HH KZ
   go_wp2_with fail
   go_region_held3 (fun w' => w'.cell? ⟨w.heap.size + 1, 0, none⟩ = some (.slice a n.length cap))
    (first | exact US (UB KN) | exact US (UE q5 (UB KN)) | exact US (UE q6 (UB KN)) | exact US (UE q7 (UB KN)))
    (first
    | (go_at_call 21; refine (Sc o6.has ((UB HI).below q6) (by omega)).mono ?_; rintro e w7 ⟨rfl, b7⟩; have q7 := UG q6 b7)
    | (go_at_call 20; have qq := q5; refine ((callsIn_wide (n := 7)).1 (Ue 49 ((UB HB).below q5) ((UB HN).below q5) hsn (by unfold Dr; rw [UB HPG]; exact (UB HSH).1) (by unfold Dr; rw [UB HPG]; exact (UB HSH).2))).mono ?_; rintro e w6 ⟨u6, rfl, o6, b6⟩; unfold Dr at o6; rw [UB HPG, UB HSET9] at o6; obtain ⟨ua6, uc6, rfl, _⟩ := o6.form; have q6 := UG q5 b6)
    | (go_at_call 20; refine ((callsIn_wide (n := 7)).1 (Ue 255 (UB HB) (UB HN) hsn (by unfold Dr; rw [UB HPG]; exact (UB HSH).1) (by unfold Dr; rw [UB HPG]; exact (UB HSH).2))).mono ?_; rintro e w5 ⟨u5, rfl, o5, q5⟩; unfold Dr at o5; rw [UB HPG, UB HSET] at o5; obtain ⟨ua5, uc5, rfl, _⟩ := o5.form))
   go_wp2_with fail
   go_ret2
   exact ⟨rfl, UG bb q7⟩
end Go.Proofs.YtfneahdnpmamkaaGreat

namespace Go.Proofs.YtfneahdnpmamkaaGreat
open Go.RowKit Go.Shelf
set_option linter.unusedVariables false

set_option maxHeartbeats 2000000 in
set_option maxRecDepth 100000 in
theorem O5 {vo vr v : Value} {o n : List (List Int)} {rs : List Rec} (t : Int) {w : World} (h : HasZ w vo vr o rs) (hn : HasL w v n) :
  Calls Tryz.prog 8 #[.agg #[vo, vr], .agg #[v], .int .i64 t] w fun e w' => ∃ u, e = .returned u ∧ RowO w.heap.size w'.heap.size 39 22 5 3 w' u (I2 o rs n t) ∧ Below w.heap.size w w' := by
 obtain ⟨oa, oc, rfl, _⟩ := h.name.form
 obtain ⟨ra, rc, rfl, _⟩ := h.recs.form
 obtain ⟨a, cap, rfl, _⟩ := hn.form
 obtain ⟨hsz, k0, x0⟩ := box2 w (.cells #[.slice oa o.length oc, .slice ra rs.length rc] 28) #[.slice a n.length cap] 25
 have bb := Bl w (.cells #[.slice oa o.length oc, .slice ra rs.length rc] 28) (.cells #[.slice a n.length cap] 25)
 have HH := UC (h.below bb)
 have HN := UC (hn.below bb)
 have HO := D8 (h.below bb)
 have KZ := UC k0
 have KN := UC x0
 obtain ⟨c0, c1⟩ := UM k0
 clear h hn hsz k0 x0
 generalize hres : I2 o rs n t = res
 unfold I2 at hres
 cases hz : Ar o rs with
 | false =>
  rw [if_neg (fun q => by rw [hz] at q; cases q.1)] at hres
  subst hres
  rw [hz] at HO
  replace HO := UC HO
  go_enter Tryz.func8, Tryz.ntmps8
  go_wp2_with fail
  refine (UB HO).mono ?_
  rintro e w1 ⟨rfl, b1⟩
  go_wp2_with fail
  go_ret
  exact ⟨_, rfl, RowO.nil _ _ _ _ _ _ _, UG bb b1⟩
 | true =>
  rw [hz] at HO
  replace HO := UC HO
  cases hnm : Ag n with
  | false =>
   rw [if_neg (fun q => by rw [hnm] at q; cases q.2)] at hres
   subst hres
   go_enter Tryz.func8, Tryz.ntmps8
   go_wp2_with fail
   refine (UB HO).mono ?_
   rintro e w1 ⟨rfl, b1⟩
   have HM := VP ((UB HN).below b1)
   rw [hnm] at HM
   replace HM := UC HM
   have d2 := US (UE b1 (UB KN))
   replace bb := UG bb b1
   clear c0 c1
   go_wp2_with fail
   refine (UB HM).mono ?_
   rintro e w2 ⟨rfl, b2⟩
   go_wp2_with fail
   go_ret
   exact ⟨_, rfl, RowO.nil _ _ _ _ _ _ _, UG bb b2⟩
  | true =>
   rw [if_pos ⟨hz, hnm⟩] at hres
   have hpg := Jz hz hnm
   have hsh := Ju (n := n) hz
   have hset := Tr hz hnm t
   rw [hres] at hset
   have HOK := UC (Ev hz)
   have h60 := (Bs hz).2.2
   have hsn := C8 hnm
   clear hres
   go_enter Tryz.func8, Tryz.ntmps8
   go_wp2_with fail
   refine (UB HO).mono ?_
   rintro e w1 ⟨rfl, b1⟩
   have HM := VP ((UB HN).below b1)
   rw [hnm] at HM
   replace HM := UC HM
   have d2 := US (UE b1 (UB KN))
   replace bb := UG bb b1
   replace HH := UC ((UB HH).below b1)
   replace HN := UC ((UB HN).below b1)
   replace KZ := UC (UE b1 (UB KZ))
   replace KN := UC (UE b1 (UB KN))
   clear c0 c1 b1 HO
   go_wp2_with fail
   refine (UB HM).mono ?_
   rintro e w2 ⟨rfl, b2⟩
   have b3 := UG b2 (UX (w := w2))
   replace bb := UG bb b3
   replace HH := UC ((UB HH).below b3)
   replace HN := UC ((UB HN).below b3)
   replace KZ := UC (UE b3 (UB KZ))
   replace KN := UC (UE b3 (UB KN))
   clear d2 b2 b3 HM
   have HPG := UC hpg
   have HSH := UC hsh
   have HSET := UC hset
   clear hpg hsh hset
   go_wp2_with fail
   go_region_held3 (fun w' => (w'.cell? ⟨w.heap.size, 0, none⟩ = some (.slice oa o.length oc) ∧ w'.cell? ⟨w.heap.size, 1, none⟩ = some (.slice ra rs.length rc)) ∧ w'.cell? ⟨w.heap.size + 1, 0, none⟩ = some (.slice a n.length cap))
    (first | exact ⟨UM (UB KZ), US (UB KN)⟩ | exact ⟨UM (UE q5 (UB KZ)), US (UE q5 (UB KN))⟩ | exact ⟨UM (UE b4 (UB KZ)), US (UE b4 (UB KN))⟩)
    (first
    | (go_at_call 19; refine (Nv (UB HH) (UB HOK) (by omega)).mono ?_; rintro e w4 ⟨rfl, hB4, b4⟩)
    | (go_at_call 20; refine ((callsIn_wide (n := 7)).1 (Ue t hB4 ((UB HN).below b4) hsn (by unfold Dr; rw [UB HPG]; exact (UB HSH).1) (by unfold Dr; rw [UB HPG]; exact (UB HSH).2))).mono ?_; rintro e w5 ⟨u5, rfl, o5, b5⟩; have q5 := UG b4 b5))
   unfold Dr at o5
   rw [UB HPG, UB HSET] at o5
   have z4 := b4.size
   have zz := bb.size
   go_wp2_with fail
   go_ret
   exact ⟨_, rfl, o5.wide (by omega) (Nat.le_refl _), UG bb q5⟩
end Go.Proofs.YtfneahdnpmamkaaGreat

namespace Go.Proofs.YtfneahdnpmamkaaGreat
open Go.RowKit
set_option linter.unusedVariables false

set_option maxHeartbeats 400000 in
set_option maxRecDepth 100000 in
theorem Vs {v v' : Value} {l l' : List Int} {w : World} (h : Has w v l) (h' : Has w v' l') :
  Calls Tryz.prog 9 #[v, v'] w fun e w' => e = .returned (.bool (eqT l l')) ∧ w = w' := by
 have hc := Fl h
 have hc' := Fl h'
 have hs : ((strOfNums l).toList == (strOfNums l').toList) = eqT l l' := rfl
 generalize eqT l l' = d at *
 clear h h'
 go_enter Tryz.func9, Tryz.ntmps9
 go_wp2
 go_ret
 exact ⟨rfl, rfl⟩
theorem Yu {o n : List (List Int)} {rs : List Rec} {id : List Int} (h : Ar o rs = false) : E8 o rs n id = (false, false) := by
 unfold E8
 rw [if_neg (fun q => by rw [h] at q; cases q.1)]
theorem Xl {o n : List (List Int)} {rs : List Rec} {id : List Int} (hn : Ag n = true) (h : Ar o rs = true) : E8 o rs n id = ((I2 o rs n 255).isEmpty, Eb (I2 o rs n 49) id) := by
 unfold E8 I2
 rw [if_pos ⟨h, hn⟩, if_pos ⟨h, hn⟩, if_pos ⟨h, hn⟩]
def Ms (ls : List Rec) (id : List Int) (k : Nat) (d : Bool) : Prop := d = true ↔ 0 < ls.length ∧ ∀ j, j < k → eqT (ls.getD j recZ).text id = true
theorem Td {ls : List Rec} {id : List Int} {k : Nat} {d : Bool} (h : Ms ls id k d) : Ms ls id (k + 1) (d && eqT (ls.getD k recZ).text id) := by
 unfold Ms at h ⊢
 rw [Bool.and_eq_true, h]
 constructor
 ·rintro ⟨⟨h1, h2⟩, h3⟩
  refine ⟨h1, fun j hj => ?_⟩
  by_cases e : j = k
  ·rw [e]; exact h3
  ·exact h2 j (by omega)
 ·exact fun q => ⟨⟨q.1, fun j hj => q.2 j (by omega)⟩, q.2 k (Nat.lt_succ_self k)⟩
theorem Wa {ls : List Rec} {id : List Int} {d : Bool} (h : Ms ls id ls.length d) : Eb ls id = d := by
 unfold Ms at h
 cases d
 ·by_cases h0 : 0 < ls.length
  ·have hne : ¬ ∀ j, j < ls.length → eqT (ls.getD j recZ).text id = true := fun q => by have := h.2 ⟨h0, q⟩; cases this
   by_cases hex : ∃ j, j < ls.length ∧ eqT (ls.getD j recZ).text id = false
   ·obtain ⟨j, hj, he⟩ := hex
    exact Ux hj he
   ·exact absurd (fun j hj => by
     cases he : eqT (ls.getD j recZ).text id with
     | true => rfl
     | false => exact absurd ⟨j, hj, he⟩ hex) hne
  ·obtain rfl : ls = [] := List.eq_nil_of_length_eq_zero (by omega)
   rfl
 ·have := h.1 rfl
  rw [Xg this.2, decide_eq_true this.1]
set_option maxHeartbeats 8000000 in
set_option maxRecDepth 100000 in
theorem Vj (a : Option Addr) (cap : Nat) (l : List Int) (w : World) (hL : Lies w a l) (hb : ∀ k, 0 ≤ l.getD k 0 ∧ l.getD k 0 ≤ 255) (hm : l.length ≤ maxLen) :
  Calls Tryz.prog 3 #[.slice a l.length cap] w fun e w' => e = .returned (.bool true) ∧ Below w.heap.size w w' := by
 have HD := UC (Ol (cap := cap) l hL rfl hb hm)
 clear hL hb hm
 have bb := Below.refl w.heap.size w
 go_enter Tryz.func3, Tryz.ntmps3
 go_wp2_with fail
 refine (UB HD).mono ?_
 rintro e w1 ⟨vo, vr, o, rs, v, n, vi, id, rfl, hz, hnm, hn, hok, hi, b1⟩
 clear HD
 obtain ⟨za, zc, rfl, _⟩ := hz.name.form
 obtain ⟨ya, yc, rfl, _⟩ := hz.recs.form
 obtain ⟨na, nc, rfl, _⟩ := hn.form
 obtain ⟨ia, ic, rfl, _⟩ := hi.form
 replace bb := UG bb b1
 have z0 := b1.size
 obtain ⟨hsz, kz, kn⟩ := box2 w1 (.cells #[.slice za o.length zc, .slice ya rs.length yc] 28) #[.slice na n.length nc] 25
 have ba := Bl w1 (.cells #[.slice za o.length zc, .slice ya rs.length yc] 28) (.cells #[.slice na n.length nc] 25)
 have KZ := UC kz
 have KN := UC kn
 have Z := UC (hz.below ba)
 have N := UC (hn.below ba)
 have ID := UC (hi.below ba)
 have HOW := UC (fun (w : World) (h : HasZ w (.slice za o.length zc) (.slice ya rs.length yc) o rs) (hn : HasL w (.slice na n.length nc) n) (hi : Has w (.slice ia id.length ic) id) => Ot h hn hi)
 have HZO := UC (fun (w : World) (h : HasZ w (.slice za o.length zc) (.slice ya rs.length yc) o rs) => Ec h hnm)
 have HST := UC (fun (t : Int) (w : World) (h : HasZ w (.slice za o.length zc) (.slice ya rs.length yc) o rs) (hn : HasL w (.slice na n.length nc) n) => O5 t h hn)
 have hno := UC (fun (h : Ar o rs = false) => Yu (n := n) (id := id) h)
 have hyes := UC (fun (h : Ar o rs = true) => Xl (id := id) hok h)
 obtain ⟨L, hL⟩ : ∃ L, E8 o rs n id = L := ⟨_, rfl⟩
 rw [hL] at HOW hno hyes
 obtain ⟨f, m⟩ := L
 dsimp only at HOW
 clear hL hnm hsz kz kn hz hn hi hok b1
 replace bb := UG bb ba
 have z1 := ba.size
 clear ba
 obtain ⟨k0, k1⟩ := UM (UB KZ)
 have n0 := US (UB KN)
 go_wp2_with fail
 clear k0 k1 n0
 generalize (w1.alloc (.cells #[.slice za o.length zc, .slice ya rs.length yc] 28)).alloc (.cells #[.slice na n.length nc] 25) = W1 at *
 refine (UB HOW _ (UB Z) (UB N) (UB ID)).mono ?_
 rintro e w2 ⟨rfl, b2⟩
 clear HOW
 replace bb := UG bb b2
 replace KZ := UC (UE b2 (UB KZ))
 replace KN := UC (UE b2 (UB KN))
 replace Z := UC ((UB Z).below b2)
 replace N := UC ((UB N).below b2)
 replace ID := UC ((UB ID).below b2)
 have z2 := b2.size
 clear b2
 obtain ⟨k0, k1⟩ := UM (UB KZ)
 have n0 := US (UB KN)
 go_wp2_with fail
 clear k0 k1 n0
 refine (UB HZO _ (UB Z)).mono ?_
 rintro e w3 ⟨rfl, b3⟩
 clear HZO
 replace bb := UG bb b3
 replace KZ := UC (UE b3 (UB KZ))
 replace KN := UC (UE b3 (UB KN))
 replace Z := UC ((UB Z).below b3)
 replace N := UC ((UB N).below b3)
 replace ID := UC ((UB ID).below b3)
 have z3 := b3.size
 clear b3
 cases hzk : Ar o rs
 ·-- no zone
  obtain ⟨rfl, rfl⟩ : f = false ∧ m = false := by simpa using UB hno hzk
  clear hno hyes HST
  go_wp2_with fail
  refine (Gp _).mono ?_
  rintro e w4 ⟨rfl, b4⟩
  go_wp2_with fail
  go_ret
  exact ⟨rfl, UG bb b4⟩
 ·-- a zone
  have hfm := UB hyes hzk
  clear hno hyes hzk
  obtain ⟨hf, hmm⟩ : f = (I2 o rs n 255).isEmpty ∧ m = Eb (I2 o rs n 49) id := by simpa using hfm
  clear hfm
  have HF := UC hf
  have HMM := UC hmm
  clear hf hmm
  obtain ⟨k0, k1⟩ := UM (UB KZ)
  have n0 := US (UB KN)
  go_wp2_with fail
  clear k0 k1 n0
  refine (UB HST 49 _ (UB Z) (UB N)).mono ?_
  rintro e w4 ⟨u, rfl, ol, b4⟩
  generalize I2 o rs n 49 = ls at *
  obtain ⟨la, lc, rfl, hlf⟩ := ol.has.form
  have HLm : Hid (ls.length ≤ 9223372036854775807) := UC (by have := hlf.1; have h2 := hlf.2; unfold maxLen at h2; omega)
  have HL := UC ol.has
  clear ol hlf
  replace bb := UG bb b4
  replace KZ := UC (UE b4 (UB KZ))
  replace KN := UC (UE b4 (UB KN))
  replace Z := UC ((UB Z).below b4)
  replace N := UC ((UB N).below b4)
  replace ID := UC ((UB ID).below b4)
  have z4 := b4.size
  clear b4
  go_wp2_with fail
  go_loopw [9, 10] (fun b i wr => ∃ (k : Nat) (d : Bool), k ≤ ls.length ∧ i = .int .i64 k ∧ b = .bool d ∧ Ms ls id k d ∧ Below w4.heap.size w4 wr) (fun _ i _ => ls.length - (intOf i).toNat)
  case atStart =>
   refine ⟨0, _, Nat.zero_le _, rfl, rfl, ?_, Below.refl _ _⟩
   simp [Ms]
  case round =>
   obtain ⟨k, d, hk, rfl, rfl, hd, hbr⟩ := hrel
   by_cases hlt : k < ls.length
   ·skip
    have hlt' : (k : Int) < ls.length := by omega
    have hlm := UB HLm
    have ND := UC (Td hd)
    have BR := UC hbr
    obtain ⟨b, off, yn, cyn, yt, cyt, yx, cyx, yi, cyi, rfl, hbl, hc, hu⟩ := ((UB HL).below hbr).here (k := k) hlt
    have IDr := UC ((UB ID).below hbr)
    generalize ls.getD k recZ = q at *
    have HU := UC hu.text
    clear hu hd
    cases d
    ·clear hc
     go_wp2_with fail
     go_roundw
     case rel => exact ⟨k + 1, _, by omega, by go_num, rfl, UB ND, UB BR⟩
     case measure => simp [intOf]; omega
    ·obtain ⟨c0, c1, c2, c3, c4, c5, c6⟩ := VH hc
     clear hc hbr
     have SM := UC (Vs (UB HU) (UB IDr))
     go_wp2_with fail
     refine (UB SM).mono ?_
     rintro e w5 ⟨rfl, rfl⟩
     clear c0 c1 c2 c3 c4 c5 c6
     have nd := UB ND
     rw [Bool.true_and] at nd
     generalize eqT q.text id = d2 at *
     go_wp2_with fail
     go_roundw
     case rel => exact ⟨k + 1, _, by omega, by go_num, rfl, nd, UB BR⟩
     case measure => simp [intOf]; omega
   ·skip
    obtain rfl : k = ls.length := by omega
    have hnn : ¬ ((ls.length : Int) < ls.length) := by omega
    rw [Wa hd] at HMM
    clear hd hlt
    replace bb := UG bb hbr
    replace KZ := UC (UE hbr (UB KZ))
    replace KN := UC (UE hbr (UB KN))
    replace Z := UC ((UB Z).below hbr)
    replace N := UC ((UB N).below hbr)
    replace ID := UC ((UB ID).below hbr)
    have z5 := hbr.size
    clear hbr
    obtain rfl := UB HMM
    clear HMM HL
    obtain ⟨k0, k1⟩ := UM (UB KZ)
    have n0 := US (UB KN)
    go_wp2_with fail
    clear k0 k1 n0
    refine (UB HST 255 _ (UB Z) (UB N)).mono ?_
    rintro e w5 ⟨u, rfl, ol, b5⟩
    generalize I2 o rs n 255 = l2 at *
    obtain ⟨l2a, l2c, rfl, hlf⟩ := ol.has.form
    replace bb := UG bb b5
    clear ol hlf b5
    have hf := UB HF
    clear HF
    rcases l2 with _ | ⟨x, xs⟩
    ·obtain rfl : f = true := hf
     cases m
     ·go_wp2_with fail
      refine (Gp _).mono ?_
      rintro e w4 ⟨rfl, b4⟩
      go_wp2_with fail
      go_ret
      exact ⟨rfl, UG bb b4⟩
     ·go_wp2_with fail
      refine (Gp _).mono ?_
      rintro e w4 ⟨rfl, b4⟩
      go_wp2_with fail
      go_ret
      exact ⟨rfl, UG bb b4⟩
    ·obtain rfl : f = false := hf
     have hl1 : (((x :: xs).length : Int) == 0) = false := by rw [beq_eq_false_iff_ne]; rw [List.length_cons]; omega
     generalize (x :: xs).length = lx at *
     cases m
     ·go_wp2_with fail
      refine (Gp _).mono ?_
      rintro e w4 ⟨rfl, b4⟩
      go_wp2_with fail
      go_ret
      exact ⟨rfl, UG bb b4⟩
     ·go_wp2_with fail
      refine (Gp _).mono ?_
      rintro e w4 ⟨rfl, b4⟩
      go_wp2_with fail
      go_ret
      exact ⟨rfl, UG bb b4⟩
end Go.Proofs.YtfneahdnpmamkaaGreat
