/-
  Plain facts: the first k bytes made great. No program is named here. The walk of laws.FnNameTexts.
-/
import Derived.Test.YtaconefooicplaaFnNameTextsG17
import Derived.Test.YtaconefooicplaaFnNameTextsG15
import Derived.Test.YtaconefooicplaaFnNameTextsG26
import Derived.Test.YtaconefooicplaaFnNameTextsG25
import Derived.Test.YtaconefooicplaaFnNameTextsG24
import Derived.Test.YtaconefooicplaaFnNameTextsG06
namespace Go.Proofs.Ytaconefooicplaa
open Go.RowKit

def upped (l : List Int) (k : Nat) : List Int := (List.range l.length).map fun (j : Nat) => if j < k then upC (l.getD j 0) else l.getD j 0
theorem upped_length (l : List Int) (k : Nat) : (upped l k).length = l.length := by simp [upped]
theorem upped_zero (l : List Int) : upped l 0 = l := by
  apply List.ext_getElem?
  intro j
  by_cases hj : j < l.length <;> simp [upped, hj]
theorem upped_getD (l : List Int) (k : Nat) (h : k < l.length) : (upped l k).getD k 0 = l.getD k 0 := by simp [upped, h]
theorem upped_succ (l : List Int) (k : Nat) : (upped l k).set k (upC (l.getD k 0)) = upped l (k + 1) := by
  apply List.ext_getElem?
  intro j
  by_cases hj : j < l.length
  · by_cases e : j = k
    · subst e
      rw [List.getElem?_set_self (by rw [upped_length]; exact hj)]
      simp [upped, hj]
    · rw [List.getElem?_set_ne (by omega)]
      have h1 : (j < k + 1) = (j < k) := by
        apply propext
        omega
      simp [upped, hj, h1]
  · rw [List.getElem?_eq_none (by rw [List.length_set, upped_length]; omega), List.getElem?_eq_none (by rw [upped_length]; omega)]
theorem upped_same (l : List Int) (k : Nat) (h : upC (l.getD k 0) = l.getD k 0) : upped l (k + 1) = upped l k := by
  apply List.ext_getElem?
  intro j
  by_cases hj : j < l.length
  · by_cases e : j = k
    · subst e
      have h' : upC l[j] = l[j] := by simpa [hj] using h
      simp [upped, hj, h']
    · have h1 : (j < k + 1) = (j < k) := by
        apply propext
        omega
      simp [upped, hj, h1]
  · rw [List.getElem?_eq_none (by rw [upped_length]; omega), List.getElem?_eq_none (by rw [upped_length]; omega)]
theorem upped_all (l : List Int) : upped l l.length = l.map upC := by
  apply List.ext_getElem?
  intro j
  by_cases hj : j < l.length <;> simp [upped, hj]
theorem upC_bytes {x : Int} (h0 : 0 ≤ x) (h1 : x ≤ 255) : 0 ≤ upC x ∧ upC x ≤ 255 := by
  unfold upC
  split <;> omega
end Go.Proofs.Ytaconefooicplaa

namespace Go.Proofs.Ytaconefooicplaa
open Go.RowKit
set_option linter.unusedVariables false

set_option maxHeartbeats 2000000 in
set_option maxRecDepth 100000 in
theorem lawNameTexts (a : Option Addr) (cap : Nat) (l : List Int) (w : World) (hL : Lies w a l) (hb : ∀ k, 0 ≤ l.getD k 0 ∧ l.getD k 0 ≤ 255) (hm : l.length ≤ maxLen) :
    Calls Try.prog 3 #[.slice a l.length cap] w fun e w' => e = .returned (.bool true) ∧ Below w.heap.size w w' := by
  have HD := hide (drawNameText_any (cap := cap) l hL rfl hb hm)
  have HL := hide hL
  have HB := hide hb
  have HM := hide hm
  clear hL hb hm
  go_enter Try.func3, Try.ntmps3
  go_wp2_with fail
  refine (unhide HD).mono ?_
  rintro e w1 ⟨v1, n1, rfl, m1, HA0, b1⟩
  clear HD
  obtain ⟨x1, y1, rfl, _⟩ := HA0.form
  have b2 := below_alloc (w := w1) (.cells #[.slice x1 n1.length y1] 25)
  have bb := below_next b1 b2
  have KA := hide (heap_alloc_new w1 (.cells #[.slice x1 n1.length y1] 25))
  have HA := hide (HA0.below b2)
  have zw := b1.size
  have zb := block_lt (unhide KA)
  clear HA0 b1 b2 m1
  have NT := fun (w : World) (h : HasL w (.slice x1 n1.length y1) n1) => implNameText_has h
  have SO := fun (w : World) (h : HasL w (.slice x1 n1.length y1) n1) => specNameOk_has h
  have IOK := fun (w : World) (h : HasL w (.slice x1 n1.length y1) n1) => implNameOk_has h
  have hTl := nameText_length n1
  have hTb := nameText_bytes n1
  cases hok : nameOk n1 with
  | false =>
    rw [nameText_no hok] at NT
    rw [hok] at SO IOK
    replace NT := hide NT
    replace SO := hide SO
    replace IOK := hide IOK
    clear hok hTl hTb
    have c_KA := block_one (unhide KA)
    go_wp2_with fail
    clear c_KA
    generalize w1.alloc (.cells #[.slice x1 n1.length y1] 25) = W at *
    refine (unhide NT _ (unhide HA)).mono ?_
    rintro e w3 ⟨vb, rfl, ob, b3⟩
    obtain ⟨ba, bc, rfl, _⟩ := ob.lies
    clear ob
    replace bb := below_next bb b3
    replace KA := hide (block_kept b3 (unhide KA))
    replace HA := hide ((unhide HA).below b3)
    have z3 := b3.size
    clear b3
    have c_KA := block_one (unhide KA)
    go_wp2_with fail
    clear c_KA
    refine (unhide SO _ (unhide HA)).mono ?_
    rintro e w4 ⟨rfl, b4⟩
    replace bb := below_next bb b4
    replace KA := hide (block_kept b4 (unhide KA))
    replace HA := hide ((unhide HA).below b4)
    have z4 := b4.size
    clear b4
    have c_KA := block_one (unhide KA)
    go_wp2_with fail
    clear c_KA
    refine (unhide IOK _ (unhide HA)).mono ?_
    rintro e w5 ⟨rfl, b5⟩
    replace bb := below_next bb b5
    replace KA := hide (block_kept b5 (unhide KA))
    replace HA := hide ((unhide HA).below b5)
    have z5 := b5.size
    clear b5
    have c_KA := block_one (unhide KA)
    go_wp2_with fail
    clear c_KA
    refine (names_any _).mono ?_
    rintro e w6 ⟨rfl, b6⟩
    replace bb := below_next bb b6
    replace KA := hide (block_kept b6 (unhide KA))
    replace HA := hide ((unhide HA).below b6)
    have z6 := b6.size
    clear b6
    have c_KA := block_one (unhide KA)
    go_wp2_with fail
    clear c_KA
    go_ret
    exact ⟨rfl, bb⟩
  | true =>
    rw [hok] at SO IOK
    have hnr := nameRead_text' hok
    have hnu := nameRead_text keeps_up hok
    have hTp := nameText_pos hok
    have SN := fun (w : World) (v : Value) (h : HasL w v n1) (h2 : HasL w (.slice x1 n1.length y1) n1) => sameName_has h h2
    rw [decide_eq_true rfl] at SN
    have hT8 := bytes8_of hTb
    have hU8 : Bytes8 ((nameText n1).map upC) := bytes8_of (fun x hx => by
      obtain ⟨y, hy, rfl⟩ := List.mem_map.1 hx
      exact upC_bytes (hTb y hy).1 (hTb y hy).2)
    have NR := fun (w : World) (v : Value) (h : Has w v (nameText n1)) => implNameRead_has h (by omega) hT8
    rw [hnr] at NR
    have NU := fun (w : World) (v : Value) (h : Has w v ((nameText n1).map upC)) => implNameRead_has h (by rw [List.length_map]; omega) hU8
    rw [hnu] at NU
    dsimp only at NR NU
    generalize nameText n1 = X at *
    replace NT := hide NT
    replace SO := hide SO
    replace IOK := hide IOK
    replace NR := hide NR
    replace NU := hide NU
    replace SN := hide SN
    have HTB := hide hTb
    clear hok hnr hnu hT8 hU8 hTb
    have c_KA := block_one (unhide KA)
    go_wp2_with fail
    clear c_KA
    generalize w1.alloc (.cells #[.slice x1 n1.length y1] 25) = W at *
    refine (unhide NT _ (unhide HA)).mono ?_
    rintro e w3 ⟨vb, rfl, ob, b3⟩
    obtain ⟨ba, bc, rfl, _⟩ := ob.lies
    have U := hide ob.has
    clear ob
    replace bb := below_next bb b3
    replace KA := hide (block_kept b3 (unhide KA))
    replace HA := hide ((unhide HA).below b3)
    have z3 := b3.size
    clear b3
    have c_KA := block_one (unhide KA)
    go_wp2_with fail
    clear c_KA
    refine (unhide SO _ (unhide HA)).mono ?_
    rintro e w4 ⟨rfl, b4⟩
    replace bb := below_next bb b4
    replace KA := hide (block_kept b4 (unhide KA))
    replace HA := hide ((unhide HA).below b4)
    replace U := hide ((unhide U).below b4)
    have z4 := b4.size
    clear b4
    have c_KA := block_one (unhide KA)
    go_wp2_with fail
    clear c_KA
    refine (unhide NR _ _ (unhide U)).mono ?_
    rintro e w5 ⟨v5, rfl, o5, b5⟩
    replace bb := below_next bb b5
    replace KA := hide (block_kept b5 (unhide KA))
    replace HA := hide ((unhide HA).below b5)
    replace U := hide ((unhide U).below b5)
    have z5 := b5.size
    clear b5
    obtain ⟨x5, y5, rfl, _⟩ := o5.hasL.form
    have bq := below_alloc (w := w5) (.cells #[.slice x5 n1.length y5] 25)
    have K5 := hide (heap_alloc_new w5 (.cells #[.slice x5 n1.length y5] 25))
    have H5 := hide (o5.hasL.below bq)
    replace bb := below_next bb bq
    replace KA := hide (block_kept bq (unhide KA))
    replace HA := hide ((unhide HA).below bq)
    replace U := hide ((unhide U).below bq)
    have esz : (w5.alloc (.cells #[.slice x5 n1.length y5] 25)).heap.size = w5.heap.size + 1 := by show (w5.heap.push _).size = _; simp
    have A1 : Own (w5.heap.size + 1) 5 ((w5.alloc (.cells #[.slice x5 n1.length y5] 25)).alloc (.cells #[] 5)) (.slice (some ⟨(w5.alloc (.cells #[.slice x5 n1.length y5] 25)).heap.size, 0, none⟩) 0 0) [] := own_lit (w5.alloc (.cells #[.slice x5 n1.length y5] 25)) (w5.heap.size + 1) 5 [] (by rw [esz]; exact Nat.le_refl _) (by simp)
    have be := below_alloc (w := w5.alloc (.cells #[.slice x5 n1.length y5] 25)) (.cells #[] 5)
    have A2 := hide ((unhide U).below be).reads
    have ze : ((w5.alloc (.cells #[.slice x5 n1.length y5] 25)).alloc (.cells #[] 5)).heap.size = w5.heap.size + 1 + 1 := by show ((w5.heap.push _).push _).size = _; simp
    rw [esz] at A1
    have HA1 := hide A1
    have BE := hide be
    have zB : w5.heap.size + 1 ≤ (w5.alloc (.cells #[.slice x5 n1.length y5] 25)).heap.size := by rw [esz]; exact Nat.le_refl _
    clear A1 o5 be NR bq
    have c_KA := block_one (unhide KA)
    have c_K5 := block_one (unhide K5)
    go_wp2_with (at_builtin; refine append_bytes rfl _ _ 22 5 rfl Try.underlying22 info_u8 (w5.heap.size + 1) (.slice (some ⟨w5.heap.size + 1, 0, none⟩) 0 0) (.slice ba X.length bc) [] X rfl rfl (unhide HA1) (unhide A2) (by simp; omega) (by rw [ze]; omega) ?_)
    intro v6 w6 o6 g6
    clear c_KA c_K5
    try rw [List.nil_append] at o6
    have bl : Below (w5.heap.size + 1) (w5.alloc (.cells #[.slice x5 n1.length y5] 25)) w6 := by
      have q := (unhide BE).mono (show w5.heap.size + 1 ≤ _ from zB)
      exact q.grown g6 (by rw [ze]; omega) (fun k hk => by simp [Value.ownBlock] at hk; omega)
    have zP : (w5.alloc (.cells #[.slice x5 n1.length y5] 25)).heap.size ≤ w5.heap.size + 1 := by rw [esz]; exact Nat.le_refl _
    generalize w5.alloc (.cells #[.slice x5 n1.length y5] 25) = W5 at *
    obtain ⟨p6, q6, r6, rfl, _, hr6, hm6⟩ := o6.has.slot hTp
    obtain rfl : q6 = 0 := by
      rcases o6.form with ⟨e, _⟩ | ⟨g', cap', e, _⟩
      · cases e
      · simp at e; exact e.1.2
    have O6 := hide o6
    have hp6 := (o6.lt p6 rfl)
    have U0 : Hid (w6.ownsRow (w5.heap.size + 1) 5 1 (.slice (some ⟨p6, 0, none⟩) X.length r6) X.length ((upped X 0).map (Value.int .u8))) := by rw [upped_zero]; exact o6
    have BL := hide bl
    clear g6 HA1 A2 BE bl o6 U
    generalize hXn : X.length = xn at *
    have HXN := hide hXn
    clear hXn
    go_wp2_with fail
    go_loopw [8] (fun x wr => ∃ k : Nat, k ≤ xn ∧ x = .int .i64 k ∧ wr.ownsRow (w5.heap.size + 1) 5 1 (.slice (some ⟨p6, 0, none⟩) xn r6) xn ((upped X k).map (Value.int .u8)) ∧ Below (w5.heap.size + 1) W5 wr) (fun x _ => xn - (intOf x).toNat)
    case atStart => exact ⟨0, Nat.zero_le _, rfl, unhide U0, unhide BL⟩
    case round =>
      clear U0 BL
      obtain ⟨k, hk, rfl, ho, hbl⟩ := hrel
      by_cases hlt : k < xn
      · have hc := World.ownsRow.cellAt ho k (by omega)
        have hf := World.ownsRow.frozenAt ho k
        rw [map_at _ _ (by rw [upped_length, unhide HXN]; exact hlt), upped_getD _ _ (by rw [unhide HXN]; exact hlt)] at hc
        have hcb : 0 ≤ X.getD k 0 ∧ X.getD k 0 ≤ 255 := by
          have hkx : k < X.length := by rw [unhide HXN]; exact hlt
          have e : X.getD k 0 = X[k] := by simp [hkx]
          rw [e]
          exact unhide HTB _ (List.getElem_mem hkx)
        have hup := upped_succ X k
        have hsm := upped_same X k
        have hst := World.ownsRow.stored ho k (.int .u8 (upC (X.getD k 0)))
        generalize hcc : X.getD k 0 = c at *
        clear hcc
        have HO := hide ho
        have HST := hide hst
        have HUP := hide hup
        have HSM := hide hsm
        clear ho hst hup hsm
        by_cases hA : 97 ≤ c ∧ c ≤ 122
        · obtain ⟨hA1, hA2⟩ := hA
          have eu : upC c = c - 32 := by unfold upC; rw [if_pos ⟨hA1, hA2⟩]
          have hwr : IntKind.u8.wrap (c - 32) = c - 32 := by
            obtain ⟨q, rfl⟩ := Int.eq_ofNat_of_zero_le hcb.1
            rw [show ((q : Int) - 32) = ((q - 32 : Nat) : Int) by omega]
            exact wrap_u8 _ (by omega)
          have hst := unhide HST
          rw [eu] at hst
          have hup := unhide HUP
          rw [eu] at hup
          have HS1 := hide hst.1
          have HS2 := hide hst.2
          have HUP2 := hide hup
          clear hst hup eu HST HUP HSM
          go_wp2
          refine ⟨⟨k + 1, by omega, by go_num, ?_, ?_⟩, by simp [intOf]; omega⟩
          · have := unhide HS1
            rw [← List.map_set, unhide HUP2] at this
            exact this
          · exact hbl.grown (unhide HS2) (Nat.le_trans (by omega) hbl.size) (fun q hq => by simp at hq; omega)
        · have eu : upC c = c := by unfold upC; rw [if_neg hA]
          have hsame := unhide HSM eu
          have HSAME := hide hsame
          have h2 : c < 97 ∨ 122 < c := by omega
          clear hsame eu hA HST HUP HSM
          rcases h2 with h2 | h2
          · have h3 : ¬ (97 ≤ c) := by omega
            go_wp2
            exact ⟨⟨k + 1, by omega, by go_num, by rw [unhide HSAME]; exact unhide HO, hbl⟩, by simp [intOf]; omega⟩
          · have h3 : 97 ≤ c := by omega
            have h4 : ¬ (c ≤ 122) := by omega
            go_wp2
            exact ⟨⟨k + 1, by omega, by go_num, by rw [unhide HSAME]; exact unhide HO, hbl⟩, by simp [intOf]; omega⟩
      · obtain rfl : k = xn := by omega
        have bq : Below W5.heap.size W5 wr := hbl.mono zP
        replace bb := below_next bb bq
        replace KA := hide (block_kept bq (unhide KA))
        replace HA := hide ((unhide HA).below bq)
        replace K5 := hide (block_kept bq (unhide K5))
        replace H5 := hide ((unhide H5).below bq)
        have ou : Own (w5.heap.size + 1) 5 wr (.slice (some ⟨p6, 0, none⟩) k r6) (X.map upC) := by
          have hk' := unhide HXN
          have e : X.map upC = upped X k := by rw [← hk', upped_all]
          rw [e]
          show wr.ownsRow _ _ 1 _ (upped X k).length _
          rw [upped_length, hk']
          exact ho
        have U := hide ou.has
        have zr := bq.size
        clear ou ho bq hbl
        have c_KA := block_one (unhide KA)
        have c_K5 := block_one (unhide K5)
        go_wp2_with fail
        clear c_KA c_K5
        refine (unhide NU _ _ (unhide U)).mono ?_
        rintro e w7 ⟨v7, rfl, o7, b7⟩
        replace bb := below_next bb b7
        replace KA := hide (block_kept b7 (unhide KA))
        replace HA := hide ((unhide HA).below b7)
        replace K5 := hide (block_kept b7 (unhide K5))
        replace H5 := hide ((unhide H5).below b7)
        replace U := hide ((unhide U).below b7)
        have z7 := b7.size
        clear b7
        clear U NU
        obtain ⟨x7, y7, rfl, _⟩ := o7.hasL.form
        have bq := below_alloc (w := w7) (.cells #[.slice x7 n1.length y7] 25)
        have K7 := hide (heap_alloc_new w7 (.cells #[.slice x7 n1.length y7] 25))
        have H7 := hide (o7.hasL.below bq)
        replace bb := below_next bb bq
        replace KA := hide (block_kept bq (unhide KA))
        replace HA := hide ((unhide HA).below bq)
        replace K5 := hide (block_kept bq (unhide K5))
        replace H5 := hide ((unhide H5).below bq)
        have z7a := bq.size
        clear bq o7
        have DR := hide (drawNameRead_any (cap := cap) l ((unhide HL).below bb) rfl (unhide HB) (unhide HM))
        have c_KA := block_one (unhide KA)
        have c_K5 := block_one (unhide K5)
        have c_K7 := block_one (unhide K7)
        go_wp2_with fail
        clear c_KA c_K5 c_K7
        generalize w7.alloc (.cells #[.slice x7 n1.length y7] 25) = W7 at *
        refine (unhide DR).mono ?_
        rintro e w8 ⟨v8, t8, rfl, u8, hl8, hb8, b8⟩
        obtain ⟨a8, c8, rfl, _⟩ := u8.form
        have GR := hide (implNameRead_has u8 (by omega) (bytes8_of hb8))
        have hz8 := nameRead_ok t8
        clear u8 hb8 DR
        replace bb := below_next bb b8
        replace KA := hide (block_kept b8 (unhide KA))
        replace HA := hide ((unhide HA).below b8)
        replace K5 := hide (block_kept b8 (unhide K5))
        replace H5 := hide ((unhide H5).below b8)
        replace K7 := hide (block_kept b8 (unhide K7))
        replace H7 := hide ((unhide H7).below b8)
        have z8 := b8.size
        clear b8
        generalize hn9 : (nameRead t8).1 = n9 at *
        generalize (nameRead t8).2 = good at *
        clear hn9
        have c_KA := block_one (unhide KA)
        have c_K5 := block_one (unhide K5)
        have c_K7 := block_one (unhide K7)
        go_wp2_with fail
        clear c_KA c_K5 c_K7
        refine (unhide GR).mono ?_
        rintro e w9 ⟨v9, rfl, o9, b9⟩
        replace bb := below_next bb b9
        replace KA := hide (block_kept b9 (unhide KA))
        replace HA := hide ((unhide HA).below b9)
        replace K5 := hide (block_kept b9 (unhide K5))
        replace H5 := hide ((unhide H5).below b9)
        replace K7 := hide (block_kept b9 (unhide K7))
        replace H7 := hide ((unhide H7).below b9)
        have z9 := b9.size
        clear b9
        clear GR
        obtain ⟨x9, y9, rfl, _⟩ := o9.hasL.form
        have bq := below_alloc (w := w9) (.cells #[.slice x9 n9.length y9] 25)
        have K9 := hide (heap_alloc_new w9 (.cells #[.slice x9 n9.length y9] 25))
        have H9 := hide (o9.hasL.below bq)
        replace bb := below_next bb bq
        replace KA := hide (block_kept bq (unhide KA))
        replace HA := hide ((unhide HA).below bq)
        replace K5 := hide (block_kept bq (unhide K5))
        replace H5 := hide ((unhide H5).below bq)
        replace K7 := hide (block_kept bq (unhide K7))
        replace H7 := hide ((unhide H7).below bq)
        have z9a := bq.size
        clear bq o9
        have c_KA := block_one (unhide KA)
        have c_K5 := block_one (unhide K5)
        have c_K7 := block_one (unhide K7)
        have c_K9 := block_one (unhide K9)
        go_wp2_with fail
        clear c_KA c_K5 c_K7 c_K9
        generalize w9.alloc (.cells #[.slice x9 n9.length y9] 25) = W9 at *
        refine (unhide SN _ _ (unhide H5) (unhide HA)).mono ?_
        rintro e w11 ⟨rfl, b11⟩
        replace bb := below_next bb b11
        replace KA := hide (block_kept b11 (unhide KA))
        replace HA := hide ((unhide HA).below b11)
        replace K5 := hide (block_kept b11 (unhide K5))
        replace H5 := hide ((unhide H5).below b11)
        replace K7 := hide (block_kept b11 (unhide K7))
        replace H7 := hide ((unhide H7).below b11)
        replace K9 := hide (block_kept b11 (unhide K9))
        replace H9 := hide ((unhide H9).below b11)
        have z11 := b11.size
        clear b11
        have c_KA := block_one (unhide KA)
        have c_K5 := block_one (unhide K5)
        have c_K7 := block_one (unhide K7)
        have c_K9 := block_one (unhide K9)
        go_wp2_with fail
        clear c_KA c_K5 c_K7 c_K9
        refine (unhide SN _ _ (unhide H7) (unhide HA)).mono ?_
        rintro e w12 ⟨rfl, b12⟩
        replace bb := below_next bb b12
        replace KA := hide (block_kept b12 (unhide KA))
        replace HA := hide ((unhide HA).below b12)
        replace K5 := hide (block_kept b12 (unhide K5))
        replace H5 := hide ((unhide H5).below b12)
        replace K7 := hide (block_kept b12 (unhide K7))
        replace H7 := hide ((unhide H7).below b12)
        replace K9 := hide (block_kept b12 (unhide K9))
        replace H9 := hide ((unhide H9).below b12)
        have z12 := b12.size
        clear b12
        have c_KA := block_one (unhide KA)
        have c_K5 := block_one (unhide K5)
        have c_K7 := block_one (unhide K7)
        have c_K9 := block_one (unhide K9)
        go_wp2_with fail
        clear c_KA c_K5 c_K7 c_K9
        refine (unhide IOK _ (unhide HA)).mono ?_
        rintro e w13 ⟨rfl, b13⟩
        replace bb := below_next bb b13
        replace KA := hide (block_kept b13 (unhide KA))
        replace HA := hide ((unhide HA).below b13)
        replace K5 := hide (block_kept b13 (unhide K5))
        replace H5 := hide ((unhide H5).below b13)
        replace K7 := hide (block_kept b13 (unhide K7))
        replace H7 := hide ((unhide H7).below b13)
        replace K9 := hide (block_kept b13 (unhide K9))
        replace H9 := hide ((unhide H9).below b13)
        have z13 := b13.size
        clear b13
        cases good with
        | false =>
          have c_KA := block_one (unhide KA)
          have c_K5 := block_one (unhide K5)
          have c_K7 := block_one (unhide K7)
          have c_K9 := block_one (unhide K9)
          go_wp2_with fail
          clear c_KA c_K5 c_K7 c_K9
          refine (names_any _).mono ?_
          rintro e w14 ⟨rfl, b14⟩
          replace bb := below_next bb b14
          replace KA := hide (block_kept b14 (unhide KA))
          replace HA := hide ((unhide HA).below b14)
          replace K5 := hide (block_kept b14 (unhide K5))
          replace H5 := hide ((unhide H5).below b14)
          replace K7 := hide (block_kept b14 (unhide K7))
          replace H7 := hide ((unhide H7).below b14)
          replace K9 := hide (block_kept b14 (unhide K9))
          replace H9 := hide ((unhide H9).below b14)
          have z14 := b14.size
          clear b14
          have c_KA := block_one (unhide KA)
          have c_K5 := block_one (unhide K5)
          have c_K7 := block_one (unhide K7)
          have c_K9 := block_one (unhide K9)
          go_wp2_with fail
          clear c_KA c_K5 c_K7 c_K9
          go_ret
          exact ⟨rfl, bb⟩
        | true =>
          have ZO := implNameOk_has (unhide H9)
          rw [hz8 rfl] at ZO
          replace ZO := hide ZO
          have c_KA := block_one (unhide KA)
          have c_K5 := block_one (unhide K5)
          have c_K7 := block_one (unhide K7)
          have c_K9 := block_one (unhide K9)
          go_wp2_with fail
          clear c_KA c_K5 c_K7 c_K9
          refine (unhide ZO).mono ?_
          rintro e w14 ⟨rfl, b14⟩
          replace bb := below_next bb b14
          replace KA := hide (block_kept b14 (unhide KA))
          replace HA := hide ((unhide HA).below b14)
          replace K5 := hide (block_kept b14 (unhide K5))
          replace H5 := hide ((unhide H5).below b14)
          replace K7 := hide (block_kept b14 (unhide K7))
          replace H7 := hide ((unhide H7).below b14)
          replace K9 := hide (block_kept b14 (unhide K9))
          replace H9 := hide ((unhide H9).below b14)
          have z14 := b14.size
          clear b14
          have c_KA := block_one (unhide KA)
          have c_K5 := block_one (unhide K5)
          have c_K7 := block_one (unhide K7)
          have c_K9 := block_one (unhide K9)
          go_wp2_with fail
          clear c_KA c_K5 c_K7 c_K9
          refine (names_any _).mono ?_
          rintro e w15 ⟨rfl, b15⟩
          replace bb := below_next bb b15
          replace KA := hide (block_kept b15 (unhide KA))
          replace HA := hide ((unhide HA).below b15)
          replace K5 := hide (block_kept b15 (unhide K5))
          replace H5 := hide ((unhide H5).below b15)
          replace K7 := hide (block_kept b15 (unhide K7))
          replace H7 := hide ((unhide H7).below b15)
          replace K9 := hide (block_kept b15 (unhide K9))
          replace H9 := hide ((unhide H9).below b15)
          have z15 := b15.size
          clear b15
          have c_KA := block_one (unhide KA)
          have c_K5 := block_one (unhide K5)
          have c_K7 := block_one (unhide K7)
          have c_K9 := block_one (unhide K9)
          go_wp2_with fail
          clear c_KA c_K5 c_K7 c_K9
          go_ret
          exact ⟨rfl, bb⟩
end Go.Proofs.Ytaconefooicplaa
