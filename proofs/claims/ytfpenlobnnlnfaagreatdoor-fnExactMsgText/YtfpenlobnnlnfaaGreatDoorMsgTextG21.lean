/-
  Contract of the program's RrText. A slice of bytes made into a text. Contract of the program's addRecords. Contract of the program's listOk of records. Contract of the program's codeOk. Contract of the program's askable. Contracts of the program's askable, bareOk and WantOk. Contracts of the program's codeOk, questionsOk, opOk, listOk, listsOk and partsOk.
-/
import Derived.Test.YtfpenlobnnlnfaaGreatDoorMsgTextG19
import Derived.Test.YtfpenlobnnlnfaaGreatDoorMsgTextG20
import Derived.Test.YtfpenlobnnlnfaaGreatDoorMsgTextG04
import Derived.Test.YtfpenlobnnlnfaaGreatDoorMsgTextG03
import Derived.Test.YtfpenlobnnlnfaaGreatDoorMsgTextG14
import Derived.Test.YtfpenlobnnlnfaaGreatDoorMsgTextG02
import Derived.Test.YtfpenlobnnlnfaaGreatDoorMsgTextG11
import Derived.Test.YtfpenlobnnlnfaaGreatDoorMsgTextG17
namespace Go.Proofs.YtfpenlobnnlnfaaGreatDoor
open Go.RowKit
set_option linter.unusedVariables false

set_option maxHeartbeats 800000 in
set_option maxRecDepth 100000 in
theorem implRrText_no {vn vt vx vi : Value} {r : Rec} {w : World} (h : HasR w vn vt vx vi r) (hok : rrOk r = false) :
  Calls Tryz.prog 47 #[.agg #[vn, .int .i64 r.type, .int .i64 r.ttl, .int .i64 r.addr, vt, vx, vi]] w fun e w' => ∃ v', e = .returned v' ∧ Fr w.heap.size w'.heap.size w' v' [] ∧ Below w.heap.size w w' := by
 obtain ⟨na, nc, rfl, _⟩ := h.name.form
 obtain ⟨ta, tc, rfl, _⟩ := h.to.form
 obtain ⟨xa, xc, rfl, _⟩ := h.text.form
 obtain ⟨ia, ic, rfl, _⟩ := h.nums.form
 have b0 := UI (w := w) (.cells #[.slice na r.name.length nc, .int .i64 r.type, .int .i64 r.ttl, .int .i64 r.addr, .slice ta r.to.length tc, .slice xa r.text.length xc, .slice ia r.nums.length ic] 77)
 have HO := implRrOk_has (h.below b0)
 rw [hok] at HO
 replace HO := UC HO
 clear h hok
 go_enter Tryz.func47, Tryz.ntmps47
 go_wp2_with fail
 refine (UB HO).mono ?_
 rintro e w1 ⟨rfl, b1⟩
 go_wp2_with fail
 go_ret
 exact ⟨_, rfl, fr_nil _ _ _, UG b0 b1⟩
theorem implRrText_has {vn vt vx vi : Value} {r : Rec} {w : World} (h : HasR w vn vt vx vi r) (h8 : Byt r.text) (hp : Pow10 w) :
  Calls Tryz.prog 47 #[.agg #[vn, .int .i64 r.type, .int .i64 r.ttl, .int .i64 r.addr, vt, vx, vi]] w fun e w' => ∃ v', e = .returned v' ∧ Fr w.heap.size w'.heap.size w' v' (rrText r) ∧ Below w.heap.size w w' := by
 cases hok : rrOk r with
 | false => rw [rrText_no hok]; exact implRrText_no h hok
 | true =>
  have hDl := dataT_length hok
  have hD := dataT_byt h8
  rw [rrText_yes hok]
  obtain ⟨_, ht, _, _, hd⟩ := rrOk_parts hok
  obtain ⟨na, nc, rfl, _⟩ := h.name.form
  obtain ⟨ta, tc, rfl, _⟩ := h.to.form
  obtain ⟨xa, xc, rfl, _⟩ := h.text.form
  obtain ⟨ia, ic, rfl, _⟩ := h.nums.form
  rcases data_kinds ht hd with ⟨e, h0, h1, _⟩ | ⟨e, hn, _⟩ | ⟨e, hn, x, y, exy, hx0, hx1, hy0, hy1, _⟩ | ⟨e, hx, _⟩
  ·rw [dataT_A e] at hD hDl ⊢
   obtain ⟨nm, ty, tt, ad, to, tx, nu⟩ := r
   simp only at *
   subst e
   exact rrText_A h hok hp (fun w1 hb => addrWords_has ad (hp.below hb)) hD hDl
  ·rw [dataT_N e] at hD hDl ⊢
   obtain ⟨nm, ty, tt, ad, to, tx, nu⟩ := r
   simp only at *
   exact rrText_N (kindV_N e) ht h hok hp (fun w1 hb => nameWords_has (h.to.below hb) (hp.below hb)) hD hDl
  ·rw [dataT_S e exy] at hD hDl ⊢
   obtain ⟨nm, ty, tt, ad, to, tx, nu⟩ := r
   simp only at *
   subst e exy
   exact rrText_S h hok hp (fun w1 hb => soaWords_has (h.to.below hb) (h.nums.below hb) hx0 hx1 hy0 (by omega) (hp.below hb)) hD hDl
  ·rw [dataT_X e] at hD hDl ⊢
   obtain ⟨nm, ty, tt, ad, to, tx, nu⟩ := r
   simp only at *
   exact rrText_X (kindV_X e) ht h hok hp (fun w1 hb => textWords_has (h.text.below hb) hx h8) hD hDl
end Go.Proofs.YtfpenlobnnlnfaaGreatDoor

namespace Go.Proofs.YtfpenlobnnlnfaaGreatDoor
open Go.RowKit

theorem conv_has {v : Value} {l : List Int} {w : World} (h : Has w v l) : (convert 28 9 v).run Tryz.prog w = .ok (.string (strOfNums l)) w := by
 rcases h with ⟨rfl, rfl⟩ | ⟨g, off, cap, rfl, _, _, _, hc⟩
 ·exact run_convert_bytes_nil w 28 5 Tryz.underlying28 Tryz.underlying5 0 0 9 Tryz.underlying9
 ·exact run_convert_bytes_arg w 28 5 Tryz.underlying28 Tryz.underlying5 g off l.length cap l rfl hc 9 Tryz.underlying9
end Go.Proofs.YtfpenlobnnlnfaaGreatDoor

namespace Go.Proofs.YtfpenlobnnlnfaaGreatDoor
open Go.RowKit
set_option linter.unusedVariables false

theorem rrText_byt {r : Rec} (h : Byt r.text) : Byt (rrText r) := by
 unfold rrText
 split
 ·exact ((((((nameText_byt _).app (byt_one (by omega))).app (digs_byt _)).app (byt_one (by omega))).app (typeT_byt _)).app (byt_one (by omega))).app (dataT_byt h)
 ·exact byt_nil
set_option maxHeartbeats 2000000 in
set_option maxRecDepth 100000 in
theorem addRecs_own {v vr : Value} {l ws : List Int} {rs : List Rec} {W0 w : World} (hr : HasRs W0 vr rs) (hb0 : Below W0.heap.size W0 w) (hv : Own W0.heap.size 5 w v l) (hl : l.length ≤ 20000) (h12 : rs.length ≤ 12) (hok : ∀ i, i < rs.length → rrOk (rs.getD i recZ) = true) (h8 : BytRs rs) (hw : ws.length ≤ 10) (hw8 : Byt ws) (ht : Pow10 W0) :
  Calls Tryz.prog 27 #[v, .string (strOfNums ws), vr] w fun e w' => ∃ v', e = .returned v' ∧ Own W0.heap.size 5 w' v' (secT l ws rs rs.length) ∧ Below W0.heap.size W0 w' := by
 obtain ⟨a, cap, rfl, _⟩ := hr.form
 have HR := UC hr
 have HV := UC hv
 have HB0 := UC hb0
 have HOK := UC hok
 have H8 := UC h8
 have HT := UC ht
 have HW8 := UC hw8
 have HS0 := UC (secT_zero l ws rs)
 have HSS := UC (secT_succ l ws rs)
 have HSL := UC (secT_length l rs hw)
 clear hr hv hb0 hok h8 ht hw8
 generalize secT l ws rs = G at *
 generalize hm : rs.length = m at *
 have HN := UC hm
 clear hm
 go_enter Tryz.func27, Tryz.ntmps27
 go_wp2_with fail
 go_loopw [0, 11] (fun o i wr => ∃ k : Nat, k ≤ m ∧ i = .int .i64 k ∧ Own W0.heap.size 5 wr o (G k) ∧ Below W0.heap.size W0 wr) (fun _ i _ => m - (intOf i).toNat)
 case atStart => exact ⟨0, Nat.zero_le _, rfl, by rw [UB HS0]; exact UB HV, UB HB0⟩
 case round =>
  obtain ⟨k, hk, rfl, ho, hb⟩ := hrel
  by_cases hlt : k < m
  ·have hkm : (k : Int) < m := by omega
   obtain ⟨g, off, rna, rnc, rta, rtc, rxa, rxc, ria, ric, rfl, hbl, hc, hu⟩ := ((UB HR).below hb).here (k := k) (by rw [UB HN]; exact hlt)
   have hrok := UB HOK k hlt
   have hr8 := UB H8 k (by rw [UB HN]; exact hlt)
   have HST2 := UC (UB HSS k hlt)
   have hgl := UB HSL k
   have hgl1 : (G k).length ≤ 30000 := by omega
   have hTl := rrText_length (rs.getD k recZ)
   have HT8 : Hid (Byt (rrText (rs.getD k recZ))) := UC (rrText_byt hr8)
   have HC := UC (fun (w : World) (hh : HasR w (.slice rna (rs.getD k recZ).name.length rnc) (.slice rta (rs.getD k recZ).to.length rtc) (.slice rxa (rs.getD k recZ).text.length rxc) (.slice ria (rs.getD k recZ).nums.length ric) (rs.getD k recZ)) (hp : Pow10 w) => implRrText_has hh hr8 hp)
   generalize rs.getD k recZ = r at *
   generalize rrText r = T at *
   have ba := UI (w := wr) (.cells #[.slice rna r.name.length rnc, .int .i64 r.type, .int .i64 r.ttl, .int .i64 r.addr, .slice rta r.to.length rtc, .slice rxa r.text.length rxc, .slice ria r.nums.length ric] 77)
   have kx := heap_alloc_new wr (.cells #[.slice rna r.name.length rnc, .int .i64 r.type, .int .i64 r.ttl, .int .i64 r.addr, .slice rta r.to.length rtc, .slice rxa r.text.length rxc, .slice ria r.nums.length ric] 77)
   have OV := UC (ho.below ba)
   have HU := UC (hu.below ba)
   have bb2 := hb.trans (ba.mono hb.size)
   obtain ⟨c0, c1, c2, c3, c4, c5, c6⟩ := VH hc
   obtain ⟨x0, x1, x2, x3, x4, x5, x6⟩ := UJ kx
   clear ho hu hc ba kx hb
   go_wp2_with fail
   clear c0 c1 c2 c3 c4 c5 c6 x0 x1 x2 x3 x4 x5 x6
   generalize wr.alloc (.cells #[.slice rna r.name.length rnc, .int .i64 r.type, .int .i64 r.ttl, .int .i64 r.addr, .slice rta r.to.length rtc, .slice rxa r.text.length rxc, .slice ria r.nums.length ric] 77) = w2 at *
   refine (UB HC _ (UB HU) ((UB HT).below bb2)).mono ?_
   rintro e w3 ⟨vt, rfl, ot, b3⟩
   have kc := conv_has ot.has
   have bb3 := bb2.trans (b3.mono bb2.size)
   have OV3 := UC ((UB OV).below b3)
   have k4 := heap_alloc_new w3 (.cells #[.string (strOfNums ws), .string (strOfNums T)] 9)
   have b4 := UI (w := w3) (.cells #[.string (strOfNums ws), .string (strOfNums T)] 9)
   have OV4 := (UB OV3).below b4
   have bb4 := bb3.trans (b4.mono bb3.size)
   have HL := UC (addLine2 OV4 bb4.size k4 (by omega) (by omega) (UB HW8) (UB HT8) (by omega))
   clear HC HU OV OV3 OV4 b3 k4 b4 ot
   go_wp2_with fail
   generalize w3.alloc (.cells #[.string (strOfNums ws), .string (strOfNums T)] 9) = w4 at *
   refine (UB HL).mono ?_
   rintro e w5 ⟨v5, rfl, o5, b5⟩
   have O5 := UC o5
   have bb5 := bb4.trans b5
   clear HL o5 b5 kc
   go_wp2_with fail
   exact ⟨⟨k + 1, by omega, by go_num, (by rw [UB HST2]; simpa only [List.append_assoc] using UB O5), bb5⟩, by simp [intOf]; omega⟩
  ·obtain rfl : k = m := by omega
   go_wp2_with fail
   go_ret
   exact ⟨_, rfl, ho, hb⟩
set_option maxHeartbeats 1000000 in
set_option maxRecDepth 100000 in
theorem listOkRr_has {v : Value} {l : List Rec} {w : World} (h : HasRs w v l) :
  Calls Tryz.prog 121 #[v, .func (Fn.func 81) #[] #[]] w fun e w' => e = .returned (.bool (rrsOk l)) ∧ Below w.heap.size w w' := by
 obtain ⟨a, cap, rfl, hl, hm⟩ := h.form
 unfold rrsOk maxLen at *
 have HA := UC (all_of (p := rrOk) l recZ)
 have HB := UC (fun k (hk : k < l.length) (hp : rrOk (l.getD k recZ) = false) => all_not (p := rrOk) l recZ hk hp)
 by_cases h12 : l.length ≤ 12
 ·rw [decide_eq_true h12, Bool.true_and]
  generalize l.all rrOk = R at *
  generalize hn : l.length = m at *
  have HN := UC hn
  have H := UC h
  clear hn h
  go_enter Tryz.func121, Tryz.ntmps121
  go_wp2
  go_loopw [12] (fun i wr => ∃ k : Nat, k ≤ m ∧ i = .int .i64 k ∧ Hid (∀ j, j < k → rrOk (l.getD j recZ) = true) ∧ Below w.heap.size w wr) (fun i _ => m - (intOf i).toNat)
  case atStart => exact ⟨0, Nat.zero_le _, rfl, UC (fun j hj => absurd hj (Nat.not_lt_zero _)), Below.refl _ _⟩
  case round =>
   obtain ⟨k, hk, rfl, hall, hb⟩ := hrel
   by_cases hlt : k < m
   ·obtain ⟨b, off, na, nc, ta, tc, xa, xc, ia, ic, rfl, hbl, hc, hu⟩ := ((UB H).below hb).here (k := k) (by rw [UB HN]; exact hlt)
    have hbk := UB HB k hlt
    have HBK := UC hbk
    have hone := UC (fun (hs : rrOk (l.getD k recZ) = true) => (show ∀ j, j < k + 1 → rrOk (l.getD j recZ) = true from fun j hj => by
      by_cases e : j = k
      ·subst e; exact hs
      ·exact UB hall j (by omega)))
    clear hbk
    generalize l.getD k recZ = rk at *
    have bA := fun o => UI (w := wr) o
    have HC := UC (fun o => implRrOk_has (hu.below (UI (w := wr) o)))
    obtain ⟨c0, c1, c2, c3, c4, c5, c6⟩ := VH hc
    clear hc hu
    cases hp : rrOk rk with
    | true =>
     have HC' := UB HC
     rw [show rrOk rk = true from hp] at HC'
     replace HC := UC HC'
     clear HC'
     go_wp2_with fail
     refine (UB HC _).mono ?_
     rintro e w1 ⟨rfl, b1⟩
     clear c0 c1 c2 c3 c4 c5 c6
     have b2 := UG (UG hb (bA _)) b1
     clear b1 bA
     go_wp2_with fail
     exact ⟨⟨k + 1, by omega, by go_num, UC (UB hone hp), b2⟩, by simp [intOf]; omega⟩
    | false =>
     have HC' := UB HC
     rw [show rrOk rk = false from hp] at HC'
     replace HC := UC HC'
     clear HC'
     have hR := UB HBK hp
     subst hR
     go_wp2_with fail
     refine (UB HC _).mono ?_
     rintro e w1 ⟨rfl, b1⟩
     clear c0 c1 c2 c3 c4 c5 c6
     have b2 := UG (UG hb (bA _)) b1
     clear b1 bA
     go_wp2_with fail
     go_ret
     exact ⟨rfl, b2⟩
   ·obtain rfl : k = m := by omega
    have hR := UB HA (UB hall)
    subst hR
    go_wp2
    go_ret
    exact ⟨rfl, hb⟩
 ·rw [decide_eq_false h12, Bool.false_and]
  clear HA HB h
  generalize l.length = m at *
  go_enter Tryz.func121, Tryz.ntmps121
  go_wp2
  go_ret
  exact ⟨rfl, Below.refl _ _⟩
set_option maxHeartbeats 400000 in
set_option maxRecDepth 100000 in
theorem codeOk_any (c : Int) (w : World) : Calls Tryz.prog 97 #[.int .i64 c] w fun e w' => e = .returned (.bool (decide (0 ≤ c ∧ c ≤ 10))) ∧ w = w' := by
 by_cases h0 : 0 ≤ c
 ·by_cases h1 : c ≤ 10
  ·rw [decide_eq_true ⟨h0, h1⟩]
   go_enter Tryz.func97, Tryz.ntmps97
   go_wp2
   go_ret
   exact ⟨rfl, rfl⟩
  ·rw [decide_eq_false (fun h => h1 h.2)]
   go_enter Tryz.func97, Tryz.ntmps97
   go_wp2
   go_ret
   exact ⟨rfl, rfl⟩
 ·rw [decide_eq_false (fun h => h0 h.1)]
  go_enter Tryz.func97, Tryz.ntmps97
  go_wp2
  go_ret
  exact ⟨rfl, rfl⟩
set_option maxHeartbeats 1000000 in
set_option maxRecDepth 100000 in
theorem askable_any (t : Int) (w : World) : Calls Tryz.prog 120 #[.int .i64 t] w fun e w' => e = .returned (.bool (asked t)) ∧ w = w' := by
 have HT := implTypeOk_any t w
 unfold asked
 cases ht : typeOk t with
 | true =>
  rw [ht] at HT
  replace HT := UC HT
  rw [Bool.true_or]
  go_enter Tryz.func120, Tryz.ntmps120
  go_wp2_with fail
  refine (UB HT).mono ?_
  rintro e w1 ⟨rfl, rfl⟩
  go_wp2_with fail
  go_ret
  exact ⟨rfl, rfl⟩
 | false =>
  rw [ht] at HT
  replace HT := UC HT
  rw [Bool.false_or]
  by_cases h5 : t = 255
  ·rw [decide_eq_true h5]
   have h5' : (t == 255) = true := by rw [beq_iff_eq]; exact h5
   clear ht h5
   go_enter Tryz.func120, Tryz.ntmps120
   go_wp2_with fail
   refine (UB HT).mono ?_
   rintro e w1 ⟨rfl, rfl⟩
   go_wp2_with fail
   go_ret
   exact ⟨rfl, rfl⟩
  ·rw [decide_eq_false h5]
   have h5' : (t == 255) = false := by rw [beq_eq_false_iff_ne]; exact h5
   clear ht h5
   go_enter Tryz.func120, Tryz.ntmps120
   go_wp2_with fail
   refine (UB HT).mono ?_
   rintro e w1 ⟨rfl, rfl⟩
   go_wp2_with fail
   go_ret
   exact ⟨rfl, rfl⟩

set_option maxHeartbeats 1000000
set_option maxRecDepth 100000

theorem implBareOk_has {vn vt vx vi : Value} {r : Rec} {w : World} (h : HasR w vn vt vx vi r) :
  Calls Tryz.prog 136 #[.agg #[vn, .int .i64 r.type, .int .i64 r.ttl, .int .i64 r.addr, vt, vx, vi]] w fun e w' => e = .returned (.bool (bareOk r)) ∧ Below w.heap.size w w' := by
 obtain ⟨na, nc, rfl, _⟩ := h.name.form
 obtain ⟨ta, tc, rfl, _⟩ := h.to.form
 obtain ⟨xa, xc, rfl, _⟩ := h.text.form
 obtain ⟨ia, ic, rfl, _⟩ := h.nums.form
 have b0 := UI (w := w) (.cells #[.slice na r.name.length nc, .int .i64 r.type, .int .i64 r.ttl, .int .i64 r.addr, .slice ta r.to.length tc, .slice xa r.text.length xc, .slice ia r.nums.length ic] 77)
 have K0 := UC (heap_alloc_new w (.cells #[.slice na r.name.length nc, .int .i64 r.type, .int .i64 r.ttl, .int .i64 r.addr, .slice ta r.to.length tc, .slice xa r.text.length xc, .slice ia r.nums.length ic] 77))
 have H0 := UC (h.below b0)
 have HN := VP (h.below b0).name
 unfold bareOk
 clear h
 cases hn : nameOk r.name with
 | false =>
  rw [hn] at HN
  replace HN := UC HN
  clear hn
  rw [Bool.false_and]
  go_enter Tryz.func136, Tryz.ntmps136
  go_wp2_with fail
  refine (UB HN).mono ?_
  rintro e w1 ⟨rfl, b1⟩
  go_wp2_with fail
  go_ret
  exact ⟨rfl, UG b0 b1⟩
 | true =>
  rw [hn] at HN
  replace HN := UC HN
  clear hn
  rw [Bool.true_and]
  generalize hRes : (asked r.type && (decide (r.ttl = 0) && emptyOk r)) = Res
  have HRES := UC hRes
  clear hRes
  go_enter Tryz.func136, Tryz.ntmps136
  go_wp2_with fail
  generalize w.alloc (.cells #[.slice na r.name.length nc, .int .i64 r.type, .int .i64 r.ttl, .int .i64 r.addr, .slice ta r.to.length tc, .slice xa r.text.length xc, .slice ia r.nums.length ic] 77) = W at *
  refine (UB HN).mono ?_
  rintro e w1 ⟨rfl, b1⟩
  have K1 := UC (UE b1 (UB K0))
  have bb1 := UG b0 b1
  clear HN K0 H0 b0 b1
  obtain ⟨d0, d1, d2, d3, d4, d5, d6⟩ := UJ (UB K1)
  go_wp2_with fail
  have HA := askable_any r.type w1
  cases ha : asked r.type with
  | false =>
   rw [ha] at HA
   have hRes := UB HRES
   rw [ha, Bool.false_and] at hRes
   subst hRes
   refine HA.mono ?_
   rintro e w2 ⟨rfl, rfl⟩
   clear ha HRES
   go_wp2_with fail
   go_ret
   exact ⟨rfl, bb1⟩
  | true =>
   rw [ha] at HA
   have hRes := UB HRES
   rw [ha, Bool.true_and] at hRes
   have HRES := UC hRes
   clear hRes
   refine HA.mono ?_
   rintro e w2 ⟨rfl, rfl⟩
   clear ha HA
   by_cases ht : r.ttl = 0
   ·have ht' : (r.ttl == 0) = true := by rw [beq_iff_eq]; exact ht
    have hRes := UB HRES
    rw [decide_eq_true ht, Bool.true_and] at hRes
    unfold emptyOk at hRes
    have HRES := UC hRes
    clear ht hRes
    go_wp2_with fail
    refine nothingElse_any.mono ?_
    rintro e w3 ⟨he, b3⟩
    rw [UB HRES] at he
    subst he
    go_wp2_with fail
    go_ret
    exact ⟨rfl, UG bb1 b3⟩
   ·have ht' : (r.ttl == 0) = false := by rw [beq_eq_false_iff_ne]; exact ht
    have hRes := UB HRES
    rw [decide_eq_false ht, Bool.false_and] at hRes
    subst hRes
    clear ht HRES
    go_wp2_with fail
    go_ret
    exact ⟨rfl, bb1⟩

theorem implWantOk_bareNo {vn vt vx vi : Value} {r : Rec} {c : Int} {w : World} (h : HasR w vn vt vx vi r) (h1 : (c == 254) = false) (h2 : (c == 255) = false) :
  Calls Tryz.prog 123 #[.agg #[vn, .int .i64 r.type, .int .i64 r.ttl, .int .i64 r.addr, vt, vx, vi, .int .i64 c, .bool true]] w fun e w' => e = .returned (.bool (false)) ∧ Below w.heap.size w w' := by
 obtain ⟨na, nc, rfl, _⟩ := h.name.form
 obtain ⟨ta, tc, rfl, _⟩ := h.to.form
 obtain ⟨xa, xc, rfl, _⟩ := h.text.form
 obtain ⟨ia, ic, rfl, _⟩ := h.nums.form
 have b0 := UI (w := w) (.cells #[.slice na r.name.length nc, .int .i64 r.type, .int .i64 r.ttl, .int .i64 r.addr, .slice ta r.to.length tc, .slice xa r.text.length xc, .slice ia r.nums.length ic, .int .i64 c, .bool true] 81)
 have K0 := UC (heap_alloc_new w (.cells #[.slice na r.name.length nc, .int .i64 r.type, .int .i64 r.ttl, .int .i64 r.addr, .slice ta r.to.length tc, .slice xa r.text.length xc, .slice ia r.nums.length ic, .int .i64 c, .bool true] 81))
 clear h
 obtain ⟨d0, d1, d2, d3, d4, d5, d6, d7, d8⟩ := cells9 (UB K0)
 go_enter Tryz.func123, Tryz.ntmps123
 go_wp2_with fail
 go_ret
 exact ⟨rfl, b0⟩

theorem implWantOk_bare254 {vn vt vx vi : Value} {r : Rec} {w : World} (h : HasR w vn vt vx vi r) :
  Calls Tryz.prog 123 #[.agg #[vn, .int .i64 r.type, .int .i64 r.ttl, .int .i64 r.addr, vt, vx, vi, .int .i64 254, .bool true]] w fun e w' => e = .returned (.bool (bareOk r)) ∧ Below w.heap.size w w' := by
 obtain ⟨na, nc, rfl, _⟩ := h.name.form
 obtain ⟨ta, tc, rfl, _⟩ := h.to.form
 obtain ⟨xa, xc, rfl, _⟩ := h.text.form
 obtain ⟨ia, ic, rfl, _⟩ := h.nums.form
 have b0 := UI (w := w) (.cells #[.slice na r.name.length nc, .int .i64 r.type, .int .i64 r.ttl, .int .i64 r.addr, .slice ta r.to.length tc, .slice xa r.text.length xc, .slice ia r.nums.length ic, .int .i64 254, .bool true] 81)
 have K0 := UC (heap_alloc_new w (.cells #[.slice na r.name.length nc, .int .i64 r.type, .int .i64 r.ttl, .int .i64 r.addr, .slice ta r.to.length tc, .slice xa r.text.length xc, .slice ia r.nums.length ic, .int .i64 254, .bool true] 81))
 have HB := UC (implBareOk_has (h.below b0))
 clear h
 obtain ⟨d0, d1, d2, d3, d4, d5, d6, d7, d8⟩ := cells9 (UB K0)
 go_enter Tryz.func123, Tryz.ntmps123
 go_wp2_with fail
 refine (UB HB).mono ?_
 rintro e w1 ⟨rfl, b1⟩
 go_wp2_with fail
 go_ret
 exact ⟨rfl, UG b0 b1⟩

theorem implWantOk_bare255 {vn vt vx vi : Value} {r : Rec} {w : World} (h : HasR w vn vt vx vi r) :
  Calls Tryz.prog 123 #[.agg #[vn, .int .i64 r.type, .int .i64 r.ttl, .int .i64 r.addr, vt, vx, vi, .int .i64 255, .bool true]] w fun e w' => e = .returned (.bool (bareOk r)) ∧ Below w.heap.size w w' := by
 obtain ⟨na, nc, rfl, _⟩ := h.name.form
 obtain ⟨ta, tc, rfl, _⟩ := h.to.form
 obtain ⟨xa, xc, rfl, _⟩ := h.text.form
 obtain ⟨ia, ic, rfl, _⟩ := h.nums.form
 have b0 := UI (w := w) (.cells #[.slice na r.name.length nc, .int .i64 r.type, .int .i64 r.ttl, .int .i64 r.addr, .slice ta r.to.length tc, .slice xa r.text.length xc, .slice ia r.nums.length ic, .int .i64 255, .bool true] 81)
 have K0 := UC (heap_alloc_new w (.cells #[.slice na r.name.length nc, .int .i64 r.type, .int .i64 r.ttl, .int .i64 r.addr, .slice ta r.to.length tc, .slice xa r.text.length xc, .slice ia r.nums.length ic, .int .i64 255, .bool true] 81))
 have HB := UC (implBareOk_has (h.below b0))
 clear h
 obtain ⟨d0, d1, d2, d3, d4, d5, d6, d7, d8⟩ := cells9 (UB K0)
 go_enter Tryz.func123, Tryz.ntmps123
 go_wp2_with fail
 refine (UB HB).mono ?_
 rintro e w1 ⟨rfl, b1⟩
 go_wp2_with fail
 go_ret
 exact ⟨rfl, UG b0 b1⟩

theorem implWantOk_in {vn vt vx vi : Value} {r : Rec} {w : World} (h : HasR w vn vt vx vi r) :
  Calls Tryz.prog 123 #[.agg #[vn, .int .i64 r.type, .int .i64 r.ttl, .int .i64 r.addr, vt, vx, vi, .int .i64 1, .bool false]] w fun e w' => e = .returned (.bool (rrOk r)) ∧ Below w.heap.size w w' := by
 obtain ⟨na, nc, rfl, _⟩ := h.name.form
 obtain ⟨ta, tc, rfl, _⟩ := h.to.form
 obtain ⟨xa, xc, rfl, _⟩ := h.text.form
 obtain ⟨ia, ic, rfl, _⟩ := h.nums.form
 have b0 := UI (w := w) (.cells #[.slice na r.name.length nc, .int .i64 r.type, .int .i64 r.ttl, .int .i64 r.addr, .slice ta r.to.length tc, .slice xa r.text.length xc, .slice ia r.nums.length ic, .int .i64 1, .bool false] 81)
 have K0 := UC (heap_alloc_new w (.cells #[.slice na r.name.length nc, .int .i64 r.type, .int .i64 r.ttl, .int .i64 r.addr, .slice ta r.to.length tc, .slice xa r.text.length xc, .slice ia r.nums.length ic, .int .i64 1, .bool false] 81))
 have HB := UC (implRrOk_has (h.below b0))
 clear h
 obtain ⟨d0, d1, d2, d3, d4, d5, d6, d7, d8⟩ := cells9 (UB K0)
 go_enter Tryz.func123, Tryz.ntmps123
 go_wp2_with fail
 refine (UB HB).mono ?_
 rintro e w1 ⟨rfl, b1⟩
 go_wp2_with fail
 go_ret
 exact ⟨rfl, UG b0 b1⟩

theorem implWantOk_none {vn vt vx vi : Value} {r : Rec} {w : World} (h : HasR w vn vt vx vi r) :
  Calls Tryz.prog 123 #[.agg #[vn, .int .i64 r.type, .int .i64 r.ttl, .int .i64 r.addr, vt, vx, vi, .int .i64 254, .bool false]] w fun e w' => e = .returned (.bool (rrOk r && decide (r.ttl = 0))) ∧ Below w.heap.size w w' := by
 obtain ⟨na, nc, rfl, _⟩ := h.name.form
 obtain ⟨ta, tc, rfl, _⟩ := h.to.form
 obtain ⟨xa, xc, rfl, _⟩ := h.text.form
 obtain ⟨ia, ic, rfl, _⟩ := h.nums.form
 have b0 := UI (w := w) (.cells #[.slice na r.name.length nc, .int .i64 r.type, .int .i64 r.ttl, .int .i64 r.addr, .slice ta r.to.length tc, .slice xa r.text.length xc, .slice ia r.nums.length ic, .int .i64 254, .bool false] 81)
 have K0 := UC (heap_alloc_new w (.cells #[.slice na r.name.length nc, .int .i64 r.type, .int .i64 r.ttl, .int .i64 r.addr, .slice ta r.to.length tc, .slice xa r.text.length xc, .slice ia r.nums.length ic, .int .i64 254, .bool false] 81))
 have HB := implRrOk_has (h.below b0)
 clear h
 obtain ⟨d0, d1, d2, d3, d4, d5, d6, d7, d8⟩ := cells9 (UB K0)
 cases hr : rrOk r with
 | false =>
  rw [hr] at HB
  replace HB := UC HB
  rw [Bool.false_and]
  clear hr
  go_enter Tryz.func123, Tryz.ntmps123
  go_wp2_with fail
  refine (UB HB).mono ?_
  rintro e w1 ⟨rfl, b1⟩
  go_wp2_with fail
  go_ret
  exact ⟨rfl, UG b0 b1⟩
 | true =>
  rw [hr] at HB
  replace HB := UC HB
  rw [Bool.true_and]
  clear hr d0 d1 d2 d3 d4 d5 d6 d7 d8
  by_cases ht : r.ttl = 0
  ·rw [decide_eq_true ht]
   have ht' : (r.ttl == 0) = true := by rw [beq_iff_eq]; exact ht
   clear ht
   obtain ⟨d0, d1, d2, d3, d4, d5, d6, d7, d8⟩ := cells9 (UB K0)
   go_enter Tryz.func123, Tryz.ntmps123
   go_wp2_with fail
   generalize w.alloc (.cells #[.slice na r.name.length nc, .int .i64 r.type, .int .i64 r.ttl, .int .i64 r.addr, .slice ta r.to.length tc, .slice xa r.text.length xc, .slice ia r.nums.length ic, .int .i64 254, .bool false] 81) = W at *
   refine (UB HB).mono ?_
   rintro e w1 ⟨rfl, b1⟩
   clear d0 d1 d2 d3 d4 d5 d6 d7 d8
   obtain ⟨d0, d1, d2, d3, d4, d5, d6, d7, d8⟩ := cells9 (UE b1 (UB K0))
   go_wp2_with fail
   go_ret
   exact ⟨rfl, UG b0 b1⟩
  ·rw [decide_eq_false ht]
   have ht' : (r.ttl == 0) = false := by rw [beq_eq_false_iff_ne]; exact ht
   clear ht
   obtain ⟨d0, d1, d2, d3, d4, d5, d6, d7, d8⟩ := cells9 (UB K0)
   go_enter Tryz.func123, Tryz.ntmps123
   go_wp2_with fail
   generalize w.alloc (.cells #[.slice na r.name.length nc, .int .i64 r.type, .int .i64 r.ttl, .int .i64 r.addr, .slice ta r.to.length tc, .slice xa r.text.length xc, .slice ia r.nums.length ic, .int .i64 254, .bool false] 81) = W at *
   refine (UB HB).mono ?_
   rintro e w1 ⟨rfl, b1⟩
   clear d0 d1 d2 d3 d4 d5 d6 d7 d8
   obtain ⟨d0, d1, d2, d3, d4, d5, d6, d7, d8⟩ := cells9 (UE b1 (UB K0))
   go_wp2_with fail
   go_ret
   exact ⟨rfl, UG b0 b1⟩

theorem implWantOk_no {vn vt vx vi : Value} {r : Rec} {c : Int} {w : World} (h : HasR w vn vt vx vi r) (h1 : (c == 1) = false) (h2 : (c == 254) = false) :
  Calls Tryz.prog 123 #[.agg #[vn, .int .i64 r.type, .int .i64 r.ttl, .int .i64 r.addr, vt, vx, vi, .int .i64 c, .bool false]] w fun e w' => e = .returned (.bool (false)) ∧ Below w.heap.size w w' := by
 obtain ⟨na, nc, rfl, _⟩ := h.name.form
 obtain ⟨ta, tc, rfl, _⟩ := h.to.form
 obtain ⟨xa, xc, rfl, _⟩ := h.text.form
 obtain ⟨ia, ic, rfl, _⟩ := h.nums.form
 have b0 := UI (w := w) (.cells #[.slice na r.name.length nc, .int .i64 r.type, .int .i64 r.ttl, .int .i64 r.addr, .slice ta r.to.length tc, .slice xa r.text.length xc, .slice ia r.nums.length ic, .int .i64 c, .bool false] 81)
 have K0 := UC (heap_alloc_new w (.cells #[.slice na r.name.length nc, .int .i64 r.type, .int .i64 r.ttl, .int .i64 r.addr, .slice ta r.to.length tc, .slice xa r.text.length xc, .slice ia r.nums.length ic, .int .i64 c, .bool false] 81))
 clear h
 obtain ⟨d0, d1, d2, d3, d4, d5, d6, d7, d8⟩ := cells9 (UB K0)
 go_enter Tryz.func123, Tryz.ntmps123
 go_wp2_with fail
 go_ret
 exact ⟨rfl, b0⟩

theorem implWantOk_has {vn vt vx vi : Value} {r : Rec} (c : Int) (b : Bool) {w : World} (h : HasR w vn vt vx vi r) :
  Calls Tryz.prog 123 #[.agg #[vn, .int .i64 r.type, .int .i64 r.ttl, .int .i64 r.addr, vt, vx, vi, .int .i64 c, .bool b]] w fun e w' => e = .returned (.bool (wantOk r c b)) ∧ Below w.heap.size w w' := by
 unfold wantOk
 cases b with
 | true =>
  rw [if_pos rfl]
  by_cases h1 : c = 254
  ·subst h1; rw [decide_eq_true (.inl rfl), Bool.true_and]; exact implWantOk_bare254 h
  by_cases h2 : c = 255
  ·subst h2; rw [decide_eq_true (.inr rfl), Bool.true_and]; exact implWantOk_bare255 h
  ·rw [decide_eq_false (by omega), Bool.false_and]; exact implWantOk_bareNo h (by rw [beq_eq_false_iff_ne]; exact h1) (by rw [beq_eq_false_iff_ne]; exact h2)
 | false =>
  rw [if_neg (by simp)]
  by_cases h1 : c = 1
  ·subst h1; rw [if_pos rfl]; exact implWantOk_in h
  by_cases h2 : c = 254
  ·subst h2; rw [if_neg (by omega), if_pos rfl]; exact implWantOk_none h
  ·rw [if_neg h1, if_neg h2]; exact implWantOk_no h (by rw [beq_eq_false_iff_ne]; exact h1) (by rw [beq_eq_false_iff_ne]; exact h2)
set_option maxHeartbeats 1000000 in
set_option maxRecDepth 100000 in
theorem questionsOk_has {v : Value} {l : List Que} {w : World} (h : HasQs w v l) :
  Calls Tryz.prog 98 #[v] w fun e w' => e = .returned (.bool (queOk l)) ∧ Below w.heap.size w w' := by
 obtain ⟨a, cap, rfl, hl, hm⟩ := h.form
 unfold queOk
 by_cases h1 : l.length = 1
 ·obtain ⟨b, off, vs, rfl, hbl, hc, vn, rfl, hu⟩ := h.here (k := 0) (by omega)
  rw [decide_eq_true h1, Bool.true_and]
  simp only [Nat.zero_mul, Nat.add_zero] at hc
  have HN := VP hu
  generalize l.getD 0 queZ = q at *
  obtain ⟨na, nc, rfl, _⟩ := hu.form
  obtain ⟨c0, c1⟩ := range2 hc
  have HC := UC hc
  clear hu hm hc
  generalize l.length = m at *
  subst h1
  cases hn : nameOk q.name with
  | false =>
   rw [hn] at HN
   replace HN := UC HN
   rw [Bool.false_and]
   go_enter Tryz.func98, Tryz.ntmps98
   go_wp2_with fail
   refine (UB HN).mono ?_
   rintro e w1 ⟨rfl, b1⟩
   clear c0 c1
   go_wp2_with fail
   go_ret
   exact ⟨rfl, b1⟩
  | true =>
   rw [hn] at HN
   replace HN := UC HN
   rw [Bool.true_and]
   have HA := fun w => askable_any q.type w
   generalize asked q.type = A at *
   replace HA := UC HA
   go_enter Tryz.func98, Tryz.ntmps98
   go_wp2_with fail
   refine (UB HN).mono ?_
   rintro e w1 ⟨rfl, b1⟩
   clear c0 c1
   obtain ⟨c0, c1⟩ := range2 (UW (UB HC) hbl b1)
   go_wp2_with fail
   refine (UB HA _).mono ?_
   rintro e w2 ⟨rfl, rfl⟩
   go_wp2_with fail
   go_ret
   exact ⟨rfl, b1⟩
 ·rw [decide_eq_false h1, Bool.false_and]
  clear h
  unfold maxLen at hm
  generalize l.length = m at *
  have h2 : ((m : Int) == 1) = false := by rw [beq_eq_false_iff_ne]; omega
  clear h1
  go_enter Tryz.func98, Tryz.ntmps98
  go_wp2_with fail
  go_ret
  exact ⟨rfl, Below.refl _ _⟩
end Go.Proofs.YtfpenlobnnlnfaaGreatDoor
