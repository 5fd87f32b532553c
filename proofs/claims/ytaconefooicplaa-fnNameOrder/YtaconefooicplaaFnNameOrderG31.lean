/-
  The walk of laws.FnNameOrder.
-/
import Derived.Test.YtaconefooicplaaFnNameOrderG15
import Derived.Test.YtaconefooicplaaFnNameOrderG17
import Derived.Test.YtaconefooicplaaFnNameOrderG24
import Derived.Test.YtaconefooicplaaFnNameOrderG27
import Derived.Test.YtaconefooicplaaFnNameOrderG28
import Derived.Test.YtaconefooicplaaFnNameOrderG29
import Derived.Test.YtaconefooicplaaFnNameOrderG30
import Derived.Test.YtaconefooicplaaFnNameOrderG06
namespace Go.Proofs.Ytaconefooicplaa
open Go.RowKit
set_option linter.unusedVariables false

set_option maxHeartbeats 4000000 in
set_option maxRecDepth 100000 in
theorem lawNameOrder (a : Option Addr) (cap : Nat) (l : List Int) (w : World) (hL : Lies w a l) (hb : ∀ k, 0 ≤ l.getD k 0 ∧ l.getD k 0 ≤ 255) (hm : l.length ≤ maxLen) :
    Calls Try.prog 4 #[.slice a l.length cap] w fun e w' => e = .returned (.bool true) ∧ Below w.heap.size w w' := by
  have HD := hide (drawNameCmp_any (cap := cap) l hL rfl hb hm)
  have hcid := fun (w : World) (C : Array Value) (n c : Nat) => Lib.run_convert_bytes_const (P := Try.prog) w 22 5 C n c Try.underlying22 Try.underlying5
  clear hL hb
  go_enter Try.func4, Try.ntmps4
  go_wp2_with fail
  refine (unhide HD).mono ?_
  rintro e w1 ⟨v1, n1, v2, n2, rfl, m1, m2, HA0, HB0, b1⟩
  clear HD
  obtain ⟨x1, y1, rfl, _⟩ := HA0.form
  obtain ⟨x2, y2, rfl, _⟩ := HB0.form
  obtain ⟨hsz, KA0, KB0⟩ := box2 w1 (.cells #[.slice x1 n1.length y1] 25) #[.slice x2 n2.length y2] 25
  have b2 := below2 w1 (.cells #[.slice x1 n1.length y1] 25) (.cells #[.slice x2 n2.length y2] 25)
  have bb := below_next b1 b2
  have KA := hide KA0
  have KB := hide KB0
  have HA := hide (HA0.below b2)
  have HB := hide (HB0.below b2)
  have zw := b1.size
  have zb := block_lt KB0
  have m1l := m1.1
  clear KA0 KB0 HA0 HB0 b1 b2 hsz
  have c_KA := block_one (unhide KA)
  have c_KB := block_one (unhide KB)
  go_wp2_with fail
  generalize (w1.alloc (.cells #[.slice x1 n1.length y1] 25)).alloc (.cells #[.slice x2 n2.length y2] 25) = W at *
  clear c_KA c_KB
  refine (implNameCmp_has (unhide HA) (unhide HB)).mono ?_
  rintro e w3 ⟨rfl, b3⟩
  replace bb := below_next bb b3
  replace KA := hide (block_kept b3 (unhide KA))
  replace KB := hide (block_kept b3 (unhide KB))
  replace HA := hide ((unhide HA).below b3)
  replace HB := hide ((unhide HB).below b3)
  have z3 := b3.size
  clear b3
  have HOA := fun (w : World) (h : HasL w (.slice x1 n1.length y1) n1) => specNameOk_has h
  have HOB := fun (w : World) (h : HasL w (.slice x2 n2.length y2) n2) => specNameOk_has h
  replace HOA := hide HOA
  replace HOB := hide HOB
  cases hA : nameOk n1 with
  | false =>
    have e0 := nameCmp_no (b := n2) (Or.inl hA)
    have e1 := under_no (b := n2) (Or.inl hA)
    have UN := fun (w : World) (h : HasL w (.slice x1 n1.length y1) n1) (h2 : HasL w (.slice x2 n2.length y2) n2) => implUnder_has h h2
    rw [e1] at UN
    replace UN := hide UN
    rw [hA] at HOA
    rw [e0]
    clear hA e0 e1
    have c_KA := block_one (unhide KA)
    have c_KB := block_one (unhide KB)
    go_wp2_with fail
    clear c_KA c_KB
    refine (unhide HOA _ (unhide HA)).mono ?_
    rintro e w4 ⟨rfl, b4⟩
    replace bb := below_next bb b4
    replace KA := hide (block_kept b4 (unhide KA))
    replace KB := hide (block_kept b4 (unhide KB))
    replace HA := hide ((unhide HA).below b4)
    replace HB := hide ((unhide HB).below b4)
    have z4 := b4.size
    clear b4
    have c_KA := block_one (unhide KA)
    have c_KB := block_one (unhide KB)
    go_wp2_with fail
    clear c_KA c_KB
    refine (unhide UN _ (unhide HA) (unhide HB)).mono ?_
    rintro e w5 ⟨rfl, b5⟩
    replace bb := below_next bb b5
    replace KA := hide (block_kept b5 (unhide KA))
    replace KB := hide (block_kept b5 (unhide KB))
    replace HA := hide ((unhide HA).below b5)
    replace HB := hide ((unhide HB).below b5)
    have z5 := b5.size
    clear b5
    have c_KA := block_one (unhide KA)
    have c_KB := block_one (unhide KB)
    go_wp2_with fail
    clear c_KA c_KB
    refine (names_any _).mono ?_
    rintro e w6 ⟨rfl, b6⟩
    replace bb := below_next bb b6
    replace KA := hide (block_kept b6 (unhide KA))
    replace KB := hide (block_kept b6 (unhide KB))
    replace HA := hide ((unhide HA).below b6)
    replace HB := hide ((unhide HB).below b6)
    have z6 := b6.size
    clear b6
    have c_KA := block_one (unhide KA)
    have c_KB := block_one (unhide KB)
    go_wp2_with fail
    clear c_KA c_KB
    go_ret
    exact ⟨rfl, bb⟩
  | true =>
    rw [hA] at HOA
    cases hB : nameOk n2 with
    | false =>
      have e0 := nameCmp_no (a := n1) (Or.inr hB)
      have e1 := under_no (a := n1) (Or.inr hB)
      have UN := fun (w : World) (h : HasL w (.slice x1 n1.length y1) n1) (h2 : HasL w (.slice x2 n2.length y2) n2) => implUnder_has h h2
      rw [e1] at UN
      replace UN := hide UN
      rw [hB] at HOB
      rw [e0]
      clear hA hB e0 e1
      have c_KA := block_one (unhide KA)
      have c_KB := block_one (unhide KB)
      go_wp2_with fail
      clear c_KA c_KB
      refine (unhide HOA _ (unhide HA)).mono ?_
      rintro e w4 ⟨rfl, b4⟩
      replace bb := below_next bb b4
      replace KA := hide (block_kept b4 (unhide KA))
      replace KB := hide (block_kept b4 (unhide KB))
      replace HA := hide ((unhide HA).below b4)
      replace HB := hide ((unhide HB).below b4)
      have z4 := b4.size
      clear b4
      have c_KA := block_one (unhide KA)
      have c_KB := block_one (unhide KB)
      go_wp2_with fail
      clear c_KA c_KB
      refine (unhide HOB _ (unhide HB)).mono ?_
      rintro e w5 ⟨rfl, b5⟩
      replace bb := below_next bb b5
      replace KA := hide (block_kept b5 (unhide KA))
      replace KB := hide (block_kept b5 (unhide KB))
      replace HA := hide ((unhide HA).below b5)
      replace HB := hide ((unhide HB).below b5)
      have z5 := b5.size
      clear b5
      have c_KA := block_one (unhide KA)
      have c_KB := block_one (unhide KB)
      go_wp2_with fail
      clear c_KA c_KB
      refine (unhide UN _ (unhide HA) (unhide HB)).mono ?_
      rintro e w6 ⟨rfl, b6⟩
      replace bb := below_next bb b6
      replace KA := hide (block_kept b6 (unhide KA))
      replace KB := hide (block_kept b6 (unhide KB))
      replace HA := hide ((unhide HA).below b6)
      replace HB := hide ((unhide HB).below b6)
      have z6 := b6.size
      clear b6
      have c_KA := block_one (unhide KA)
      have c_KB := block_one (unhide KB)
      go_wp2_with fail
      clear c_KA c_KB
      refine (names_any _).mono ?_
      rintro e w7 ⟨rfl, b7⟩
      replace bb := below_next bb b7
      replace KA := hide (block_kept b7 (unhide KA))
      replace KB := hide (block_kept b7 (unhide KB))
      replace HA := hide ((unhide HA).below b7)
      replace HB := hide ((unhide HB).below b7)
      have z7 := b7.size
      clear b7
      have c_KA := block_one (unhide KA)
      have c_KB := block_one (unhide KB)
      go_wp2_with fail
      clear c_KA c_KB
      go_ret
      exact ⟨rfl, bb⟩
    | true =>
      rw [hB] at HOB
      have hc3 := cmpN_cases n1 n2
      have e0 := nameCmp_ok hA hB
      have e1 := nameCmp_ok hB hA
      rw [cmpN_swap] at e1
      have e2 := text_same hA hB
      have e3 := under_behind hA hB
      rw [e0]
      have CB := fun (w : World) (h : HasL w (.slice x1 n1.length y1) n1) (h2 : HasL w (.slice x2 n2.length y2) n2) => implNameCmp_has h2 h
      rw [e1] at CB
      have SN := fun (w : World) (h : HasL w (.slice x1 n1.length y1) n1) (h2 : HasL w (.slice x2 n2.length y2) n2) => sameName_has h h2
      rw [e2] at SN
      have UN := fun (w : World) (h : HasL w (.slice x1 n1.length y1) n1) (h2 : HasL w (.slice x2 n2.length y2) n2) => implUnder_has h h2
      replace CB := hide CB
      replace SN := hide SN
      have OKA := hide hA
      generalize cmpN n1 n2 = c at *
      generalize under n1 n2 = und at *
      replace UN := hide UN
      have hw1 : IntKind.i64.wrap c = c := by rcases hc3 with rfl | rfl | rfl <;> rfl
      have hw2 : (c != c) = false := by simp
      have hw3 : ((c == 0) != (c == 0)) = false := by simp
      have hlt : und = true → (decide (c < 0)) = false := fun q => decide_eq_false (e3 q)
      have HLT := hide hlt
      clear e0 e1 e2 e3 hc3 hA hB hlt
      have c_KA := block_one (unhide KA)
      have c_KB := block_one (unhide KB)
      go_wp2_with fail
      clear c_KA c_KB
      refine (unhide HOA _ (unhide HA)).mono ?_
      rintro e w4 ⟨rfl, b4⟩
      replace bb := below_next bb b4
      replace KA := hide (block_kept b4 (unhide KA))
      replace KB := hide (block_kept b4 (unhide KB))
      replace HA := hide ((unhide HA).below b4)
      replace HB := hide ((unhide HB).below b4)
      have z4 := b4.size
      clear b4
      have c_KA := block_one (unhide KA)
      have c_KB := block_one (unhide KB)
      go_wp2_with fail
      clear c_KA c_KB
      refine (unhide HOB _ (unhide HB)).mono ?_
      rintro e w5 ⟨rfl, b5⟩
      replace bb := below_next bb b5
      replace KA := hide (block_kept b5 (unhide KA))
      replace KB := hide (block_kept b5 (unhide KB))
      replace HA := hide ((unhide HA).below b5)
      replace HB := hide ((unhide HB).below b5)
      have z5 := b5.size
      clear b5
      have c_KA := block_one (unhide KA)
      have c_KB := block_one (unhide KB)
      go_wp2_with fail
      clear c_KA c_KB
      refine (unhide CB _ (unhide HA) (unhide HB)).mono ?_
      rintro e w6 ⟨rfl, b6⟩
      replace bb := below_next bb b6
      replace KA := hide (block_kept b6 (unhide KA))
      replace KB := hide (block_kept b6 (unhide KB))
      replace HA := hide ((unhide HA).below b6)
      replace HB := hide ((unhide HB).below b6)
      have z6 := b6.size
      clear b6
      have c_KA := block_one (unhide KA)
      have c_KB := block_one (unhide KB)
      go_wp2_with fail
      clear c_KA c_KB
      refine (unhide SN _ (unhide HA) (unhide HB)).mono ?_
      rintro e w7 ⟨rfl, b7⟩
      replace bb := below_next bb b7
      replace KA := hide (block_kept b7 (unhide KA))
      replace KB := hide (block_kept b7 (unhide KB))
      replace HA := hide ((unhide HA).below b7)
      replace HB := hide ((unhide HB).below b7)
      have z7 := b7.size
      clear b7
      have c_KA := block_one (unhide KA)
      have c_KB := block_one (unhide KB)
      go_wp2_with fail
      clear c_KA c_KB
      refine (unhide UN _ (unhide HA) (unhide HB)).mono ?_
      rintro e w8 ⟨rfl, b8⟩
      replace bb := below_next bb b8
      replace KA := hide (block_kept b8 (unhide KA))
      replace KB := hide (block_kept b8 (unhide KB))
      replace HA := hide ((unhide HA).below b8)
      replace HB := hide ((unhide HB).below b8)
      have z8 := b8.size
      clear b8
      clear hw1
      clear HOA HOB CB SN UN HB
      have h06 : n1.length = 0 ∨ n1.length = 6 ∨ (n1.length ≠ 0 ∧ n1.length ≠ 6) := by omega
      cases und with
      | true =>
        have hlt := unhide HLT rfl
        clear HLT
        rcases h06 with h0 | h6 | ⟨h0, h6⟩
        · have h6 : n1.length ≠ 6 := by omega
          obtain rfl := List.eq_nil_of_length_eq_zero h0
          replace HA : Hid (HasL w8 (.slice x1 0 y1) []) := HA
          replace KA : Hid (w8.heap[w1.heap.size]? = some (.cells #[.slice x1 0 y1] 25)) := KA
          have PP := fun (w : World) (h : HasL w (.slice x1 0 y1) ([] : List (List Int))) => implParent_has h
          rw [parentOf_root rfl] at PP
          replace PP := hide PP
          have hkk := child_ok (l := [113]) (unhide OKA) h6 (by decide)
          have CC := fun (w : World) (v : Value) (h : HasL w (.slice x1 0 y1) ([] : List (List Int))) (h2 : Has w v [113]) => implChild_yes h h2 (unhide OKA) h6 (by decide)
          have PK := fun (w : World) (v : Value) (h : HasL w v ([113] :: ([] : List (List Int)))) => implParent_has h
          rw [parent_child hkk] at PK
          have UK := fun (w : World) (v : Value) (h : HasL w (.slice x1 0 y1) ([] : List (List Int))) (h2 : HasL w v ([113] :: ([] : List (List Int)))) => implUnder_has h2 h
          rw [under_child (unhide OKA) hkk] at UK
          have NK := fun (w : World) (v : Value) (h : HasL w (.slice x1 0 y1) ([] : List (List Int))) (h2 : HasL w v ([113] :: ([] : List (List Int)))) => implNameCmp_has h2 h
          rw [cmp_child (unhide OKA) hkk] at NK
          have SQ := fun (w : World) (v : Value) (h : HasL w (.slice x1 0 y1) ([] : List (List Int))) (h2 : HasL w v ([] : List (List Int))) => sameName_has h2 h
          rw [decide_eq_true rfl] at SQ
          replace CC := hide CC
          replace PK := hide PK
          replace UK := hide UK
          replace NK := hide NK
          replace SQ := hide SQ
          clear hkk
          generalize hKN : [113] :: ([] : List (List Int)) = kn at *
          clear hKN
          have UR := fun (w : World) (h : HasL w (.slice x1 0 y1) ([] : List (List Int))) => implUnder_has (v' := .slice none 0 0) (n' := []) h (.inl ⟨rfl, rfl⟩)
          rw [under_root (unhide OKA)] at UR
          replace UR := hide UR
          have hl0 : ((0 : Int) < 0) = False := by simp
          clear m1 m2 m1l h6
          have c_KA := block_one (unhide KA)
          have c_KB := block_one (unhide KB)
          go_wp2_with fail
          clear c_KA c_KB
          refine (unhide PP _ (unhide HA)).mono ?_
          rintro e w9 ⟨vp, rfl, op, b9⟩
          replace bb := below_next bb b9
          replace KA := hide (block_kept b9 (unhide KA))
          replace KB := hide (block_kept b9 (unhide KB))
          replace HA := hide ((unhide HA).below b9)
          have z9 := b9.size
          clear b9
          obtain ⟨xp, yp, rfl, _⟩ := op.hasL.form
          have bp := below_alloc (w := w9) (.cells #[.slice xp 0 yp] 25)
          have KP := hide (heap_alloc_new w9 (.cells #[.slice xp 0 yp] 25))
          have HP := hide (op.hasL.below bp)
          clear op PP
          replace bb := below_next bb bp
          replace KA := hide (block_kept bp (unhide KA))
          replace KB := hide (block_kept bp (unhide KB))
          replace HA := hide ((unhide HA).below bp)
          have zp := bp.size
          clear bp
          have bq := below_alloc (w := w9.alloc (.cells #[.slice xp 0 yp] 25)) (.cells #[.int .u8 113] 5 (1, 2))
          have esz : (w9.alloc (.cells #[.slice xp 0 yp] 25)).heap.size = w9.heap.size + 1 := by show (w9.heap.push _).size = _; simp
          have hcv := hcid (w9.alloc (.cells #[.slice xp 0 yp] 25)) #[.int .u8 113] 1 1
          rw [esz] at hcv
          have HQ0 : Has ((w9.alloc (.cells #[.slice xp 0 yp] 25)).alloc (.cells #[.int .u8 113] 5 (1, 2))) (.slice (some ⟨(w9.alloc (.cells #[.slice xp 0 yp] 25)).heap.size, 0, none⟩) 1 1) [113] := has_const (w9.alloc (.cells #[.slice xp 0 yp] 25)) 5 [113] (1, 2) (by decide)
          rw [esz] at HQ0
          have HQ := hide HQ0
          clear HQ0 esz
          have c_KA := block_one (unhide KA)
          have c_KB := block_one (unhide KB)
          have c_KP := block_one (unhide KP)
          go_wp2_with fail
          clear c_KA c_KB c_KP
          replace bb := below_next bb bq
          replace KA := hide (block_kept bq (unhide KA))
          replace KB := hide (block_kept bq (unhide KB))
          replace HA := hide ((unhide HA).below bq)
          replace KP := hide (block_kept bq (unhide KP))
          replace HP := hide ((unhide HP).below bq)
          have zq := bq.size
          clear bq hcv
          generalize (w9.alloc (.cells #[.slice xp 0 yp] 25)).alloc (.cells #[.int .u8 113] 5 (1, 2)) = WQ at *
          refine (unhide CC _ _ (unhide HA) (unhide HQ)).mono ?_
          rintro e w10 ⟨vk, rfl, ok, b10⟩
          replace bb := below_next bb b10
          replace KA := hide (block_kept b10 (unhide KA))
          replace KB := hide (block_kept b10 (unhide KB))
          replace HA := hide ((unhide HA).below b10)
          replace KP := hide (block_kept b10 (unhide KP))
          replace HP := hide ((unhide HP).below b10)
          have z10 := b10.size
          clear b10
          obtain ⟨xk, yk, rfl, _⟩ := ok.hasL.form
          have bk := below_alloc (w := w10) (.cells #[.slice xk kn.length yk] 25)
          have KK := hide (heap_alloc_new w10 (.cells #[.slice xk kn.length yk] 25))
          have HK := hide (ok.hasL.below bk)
          clear ok CC HQ
          replace bb := below_next bb bk
          replace KA := hide (block_kept bk (unhide KA))
          replace KB := hide (block_kept bk (unhide KB))
          replace HA := hide ((unhide HA).below bk)
          replace KP := hide (block_kept bk (unhide KP))
          replace HP := hide ((unhide HP).below bk)
          have zk := bk.size
          clear bk
          have c_KA := block_one (unhide KA)
          have c_KB := block_one (unhide KB)
          have c_KP := block_one (unhide KP)
          have c_KK := block_one (unhide KK)
          go_wp2_with fail
          clear c_KA c_KB c_KP c_KK
          generalize w10.alloc (.cells #[.slice xk kn.length yk] 25) = WK at *
          refine (unhide PK _ _ (unhide HK)).mono ?_
          rintro e w11 ⟨vq, rfl, oq, b11⟩
          replace bb := below_next bb b11
          replace KA := hide (block_kept b11 (unhide KA))
          replace KB := hide (block_kept b11 (unhide KB))
          replace HA := hide ((unhide HA).below b11)
          replace KP := hide (block_kept b11 (unhide KP))
          replace HP := hide ((unhide HP).below b11)
          replace KK := hide (block_kept b11 (unhide KK))
          replace HK := hide ((unhide HK).below b11)
          have z11 := b11.size
          clear b11
          obtain ⟨xq, yq, rfl, _⟩ := oq.hasL.form
          have bs := below_alloc (w := w11) (.cells #[.slice xq 0 yq] 25)
          have KQ := hide (heap_alloc_new w11 (.cells #[.slice xq 0 yq] 25))
          have HQ := hide (oq.hasL.below bs)
          clear oq PK
          replace bb := below_next bb bs
          replace KA := hide (block_kept bs (unhide KA))
          replace KB := hide (block_kept bs (unhide KB))
          replace HA := hide ((unhide HA).below bs)
          replace KP := hide (block_kept bs (unhide KP))
          replace HP := hide ((unhide HP).below bs)
          replace KK := hide (block_kept bs (unhide KK))
          replace HK := hide ((unhide HK).below bs)
          have zs := bs.size
          clear bs
          have c_KA := block_one (unhide KA)
          have c_KB := block_one (unhide KB)
          have c_KP := block_one (unhide KP)
          have c_KK := block_one (unhide KK)
          have c_KQ := block_one (unhide KQ)
          go_wp2_with fail
          clear c_KA c_KB c_KP c_KK c_KQ
          generalize w11.alloc (.cells #[.slice xq 0 yq] 25) = WS at *
          refine (unhide SQ _ _ (unhide HA) (unhide HQ)).mono ?_
          rintro e w12 ⟨rfl, b12⟩
          replace bb := below_next bb b12
          replace KA := hide (block_kept b12 (unhide KA))
          replace KB := hide (block_kept b12 (unhide KB))
          replace HA := hide ((unhide HA).below b12)
          replace KP := hide (block_kept b12 (unhide KP))
          replace HP := hide ((unhide HP).below b12)
          replace KK := hide (block_kept b12 (unhide KK))
          replace HK := hide ((unhide HK).below b12)
          replace KQ := hide (block_kept b12 (unhide KQ))
          replace HQ := hide ((unhide HQ).below b12)
          have z12 := b12.size
          clear b12
          have c_KA := block_one (unhide KA)
          have c_KB := block_one (unhide KB)
          have c_KP := block_one (unhide KP)
          have c_KK := block_one (unhide KK)
          have c_KQ := block_one (unhide KQ)
          go_wp2_with fail
          clear c_KA c_KB c_KP c_KK c_KQ
          refine (unhide UK _ _ (unhide HA) (unhide HK)).mono ?_
          rintro e w13 ⟨rfl, b13⟩
          replace bb := below_next bb b13
          replace KA := hide (block_kept b13 (unhide KA))
          replace KB := hide (block_kept b13 (unhide KB))
          replace HA := hide ((unhide HA).below b13)
          replace KP := hide (block_kept b13 (unhide KP))
          replace HP := hide ((unhide HP).below b13)
          replace KK := hide (block_kept b13 (unhide KK))
          replace HK := hide ((unhide HK).below b13)
          replace KQ := hide (block_kept b13 (unhide KQ))
          replace HQ := hide ((unhide HQ).below b13)
          have z13 := b13.size
          clear b13
          have c_KA := block_one (unhide KA)
          have c_KB := block_one (unhide KB)
          have c_KP := block_one (unhide KP)
          have c_KK := block_one (unhide KK)
          have c_KQ := block_one (unhide KQ)
          go_wp2_with fail
          clear c_KA c_KB c_KP c_KK c_KQ
          refine (unhide NK _ _ (unhide HA) (unhide HK)).mono ?_
          rintro e w14 ⟨rfl, b14⟩
          replace bb := below_next bb b14
          replace KA := hide (block_kept b14 (unhide KA))
          replace KB := hide (block_kept b14 (unhide KB))
          replace HA := hide ((unhide HA).below b14)
          replace KP := hide (block_kept b14 (unhide KP))
          replace HP := hide ((unhide HP).below b14)
          replace KK := hide (block_kept b14 (unhide KK))
          replace HK := hide ((unhide HK).below b14)
          replace KQ := hide (block_kept b14 (unhide KQ))
          replace HQ := hide ((unhide HQ).below b14)
          have z14 := b14.size
          clear b14
          clear SQ UK NK
          have c_KA := block_one (unhide KA)
          have c_KB := block_one (unhide KB)
          have c_KP := block_one (unhide KP)
          have c_KK := block_one (unhide KK)
          have c_KQ := block_one (unhide KQ)
          go_wp2_with fail
          clear c_KA c_KB c_KP c_KK c_KQ
          refine (unhide UR _ (unhide HA)).mono ?_
          rintro e w15 ⟨rfl, b15⟩
          replace bb := below_next bb b15
          replace KA := hide (block_kept b15 (unhide KA))
          replace KB := hide (block_kept b15 (unhide KB))
          replace HA := hide ((unhide HA).below b15)
          replace KP := hide (block_kept b15 (unhide KP))
          replace HP := hide ((unhide HP).below b15)
          replace KK := hide (block_kept b15 (unhide KK))
          replace HK := hide ((unhide HK).below b15)
          replace KQ := hide (block_kept b15 (unhide KQ))
          replace HQ := hide ((unhide HQ).below b15)
          have z15 := b15.size
          clear b15
          go_wp2_with fail
          refine (names_any _).mono ?_
          rintro e w16 ⟨rfl, b16⟩
          replace bb := below_next bb b16
          clear b16
          have HX0 : Has (w16.alloc (.cells #[.int .u8 97, .int .u8 45, .int .u8 49] 5 (3, 4))) (.slice (some ⟨w16.heap.size, 0, none⟩) 3 3) [97, 45, 49] := has_const w16 5 [97, 45, 49] (3, 4) (by decide)
          have HX := hide HX0
          clear HX0
          have bx := below_alloc (w := w16) (.cells #[.int .u8 97, .int .u8 45, .int .u8 49] 5 (3, 4))
          have LK := implLabelOk_has (unhide HX)
          rw [show labelOk [97, 45, 49] = true by decide] at LK
          replace LK := hide LK
          go_wp2_with fail
          refine (unhide LK).mono ?_
          rintro e w17 ⟨rfl, rfl⟩
          go_wp2_with fail
          go_ret
          exact ⟨rfl, below_next bb bx⟩
        · have h0 : n1.length ≠ 0 := by omega
          have PP := fun (w : World) (h : HasL w (.slice x1 n1.length y1) n1) => implParent_has h
          rw [parentOf_yes (unhide OKA) h0] at PP
          have UP := fun (w : World) (v : Value) (h : HasL w (.slice x1 n1.length y1) n1) (h2 : HasL w v (n1.drop 1)) => implUnder_has h h2
          rw [under_parent (unhide OKA)] at UP
          have UQ := fun (w : World) (v : Value) (h : HasL w (.slice x1 n1.length y1) n1) (h2 : HasL w v (n1.drop 1)) => implUnder_has h2 h
          rw [parent_not (unhide OKA) h0] at UQ
          replace UP := hide UP
          replace UQ := hide UQ
          generalize n1.drop 1 = pn at *
          replace PP := hide PP
          have CC := fun (w : World) (v : Value) (h : HasL w (.slice x1 n1.length y1) n1) (h2 : Has w v [113]) => implChild_no h h2 (Or.inr (Or.inl h6))
          replace CC := hide CC
          have UR := fun (w : World) (h : HasL w (.slice x1 n1.length y1) n1) => implUnder_has (v' := .slice none 0 0) (n' := []) h (.inl ⟨rfl, rfl⟩)
          rw [under_root (unhide OKA)] at UR
          replace UR := hide UR
          have hl0 : (0 : Int) < n1.length := by omega
          clear m1 m2 m1l h6 h0
          have c_KA := block_one (unhide KA)
          have c_KB := block_one (unhide KB)
          go_wp2_with fail
          clear c_KA c_KB
          refine (unhide PP _ (unhide HA)).mono ?_
          rintro e w9 ⟨vp, rfl, op, b9⟩
          replace bb := below_next bb b9
          replace KA := hide (block_kept b9 (unhide KA))
          replace KB := hide (block_kept b9 (unhide KB))
          replace HA := hide ((unhide HA).below b9)
          have z9 := b9.size
          clear b9
          obtain ⟨xp, yp, rfl, _⟩ := op.hasL.form
          have bp := below_alloc (w := w9) (.cells #[.slice xp pn.length yp] 25)
          have KP := hide (heap_alloc_new w9 (.cells #[.slice xp pn.length yp] 25))
          have HP := hide (op.hasL.below bp)
          clear op PP
          replace bb := below_next bb bp
          replace KA := hide (block_kept bp (unhide KA))
          replace KB := hide (block_kept bp (unhide KB))
          replace HA := hide ((unhide HA).below bp)
          have zp := bp.size
          clear bp
          have bq := below_alloc (w := w9.alloc (.cells #[.slice xp pn.length yp] 25)) (.cells #[.int .u8 113] 5 (1, 2))
          have esz : (w9.alloc (.cells #[.slice xp pn.length yp] 25)).heap.size = w9.heap.size + 1 := by show (w9.heap.push _).size = _; simp
          have hcv := hcid (w9.alloc (.cells #[.slice xp pn.length yp] 25)) #[.int .u8 113] 1 1
          rw [esz] at hcv
          have HQ0 : Has ((w9.alloc (.cells #[.slice xp pn.length yp] 25)).alloc (.cells #[.int .u8 113] 5 (1, 2))) (.slice (some ⟨(w9.alloc (.cells #[.slice xp pn.length yp] 25)).heap.size, 0, none⟩) 1 1) [113] := has_const (w9.alloc (.cells #[.slice xp pn.length yp] 25)) 5 [113] (1, 2) (by decide)
          rw [esz] at HQ0
          have HQ := hide HQ0
          clear HQ0 esz
          have c_KA := block_one (unhide KA)
          have c_KB := block_one (unhide KB)
          have c_KP := block_one (unhide KP)
          go_wp2_with fail
          clear c_KA c_KB c_KP
          replace bb := below_next bb bq
          replace KA := hide (block_kept bq (unhide KA))
          replace KB := hide (block_kept bq (unhide KB))
          replace HA := hide ((unhide HA).below bq)
          replace KP := hide (block_kept bq (unhide KP))
          replace HP := hide ((unhide HP).below bq)
          have zq := bq.size
          clear bq hcv
          generalize (w9.alloc (.cells #[.slice xp pn.length yp] 25)).alloc (.cells #[.int .u8 113] 5 (1, 2)) = WQ at *
          refine (unhide CC _ _ (unhide HA) (unhide HQ)).mono ?_
          rintro e w10 ⟨vk, rfl, ok, b10⟩
          replace bb := below_next bb b10
          replace KA := hide (block_kept b10 (unhide KA))
          replace KB := hide (block_kept b10 (unhide KB))
          replace HA := hide ((unhide HA).below b10)
          replace KP := hide (block_kept b10 (unhide KP))
          replace HP := hide ((unhide HP).below b10)
          have z10 := b10.size
          clear b10
          obtain ⟨xk, yk, rfl, _⟩ := ok.hasL.form
          have bk := below_alloc (w := w10) (.cells #[.slice xk 0 yk] 25)
          have KK := hide (heap_alloc_new w10 (.cells #[.slice xk 0 yk] 25))
          have HK := hide (ok.hasL.below bk)
          clear ok CC HQ
          replace bb := below_next bb bk
          replace KA := hide (block_kept bk (unhide KA))
          replace KB := hide (block_kept bk (unhide KB))
          replace HA := hide ((unhide HA).below bk)
          replace KP := hide (block_kept bk (unhide KP))
          replace HP := hide ((unhide HP).below bk)
          have zk := bk.size
          clear bk
          have c_KA := block_one (unhide KA)
          have c_KB := block_one (unhide KB)
          have c_KP := block_one (unhide KP)
          have c_KK := block_one (unhide KK)
          go_wp2_with fail
          clear c_KA c_KB c_KP c_KK
          generalize w10.alloc (.cells #[.slice xk 0 yk] 25) = WK at *
          refine (unhide UP _ _ (unhide HA) (unhide HP)).mono ?_
          rintro e w11 ⟨rfl, b11⟩
          replace bb := below_next bb b11
          replace KA := hide (block_kept b11 (unhide KA))
          replace KB := hide (block_kept b11 (unhide KB))
          replace HA := hide ((unhide HA).below b11)
          replace KP := hide (block_kept b11 (unhide KP))
          replace HP := hide ((unhide HP).below b11)
          replace KK := hide (block_kept b11 (unhide KK))
          replace HK := hide ((unhide HK).below b11)
          have z11 := b11.size
          clear b11
          have c_KA := block_one (unhide KA)
          have c_KB := block_one (unhide KB)
          have c_KP := block_one (unhide KP)
          have c_KK := block_one (unhide KK)
          go_wp2_with fail
          clear c_KA c_KB c_KP c_KK
          refine (unhide UQ _ _ (unhide HA) (unhide HP)).mono ?_
          rintro e w12 ⟨rfl, b12⟩
          replace bb := below_next bb b12
          replace KA := hide (block_kept b12 (unhide KA))
          replace KB := hide (block_kept b12 (unhide KB))
          replace HA := hide ((unhide HA).below b12)
          replace KP := hide (block_kept b12 (unhide KP))
          replace HP := hide ((unhide HP).below b12)
          replace KK := hide (block_kept b12 (unhide KK))
          replace HK := hide ((unhide HK).below b12)
          have z12 := b12.size
          clear b12
          clear UP UQ
          have c_KA := block_one (unhide KA)
          have c_KB := block_one (unhide KB)
          have c_KP := block_one (unhide KP)
          have c_KK := block_one (unhide KK)
          go_wp2_with fail
          clear c_KA c_KB c_KP c_KK
          refine (unhide UR _ (unhide HA)).mono ?_
          rintro e w13 ⟨rfl, b13⟩
          replace bb := below_next bb b13
          replace KA := hide (block_kept b13 (unhide KA))
          replace KB := hide (block_kept b13 (unhide KB))
          replace HA := hide ((unhide HA).below b13)
          replace KP := hide (block_kept b13 (unhide KP))
          replace HP := hide ((unhide HP).below b13)
          replace KK := hide (block_kept b13 (unhide KK))
          replace HK := hide ((unhide HK).below b13)
          have z13 := b13.size
          clear b13
          go_wp2_with fail
          refine (names_any _).mono ?_
          rintro e w14 ⟨rfl, b14⟩
          replace bb := below_next bb b14
          clear b14
          have HX0 : Has (w14.alloc (.cells #[.int .u8 97, .int .u8 45, .int .u8 49] 5 (3, 4))) (.slice (some ⟨w14.heap.size, 0, none⟩) 3 3) [97, 45, 49] := has_const w14 5 [97, 45, 49] (3, 4) (by decide)
          have HX := hide HX0
          clear HX0
          have bx := below_alloc (w := w14) (.cells #[.int .u8 97, .int .u8 45, .int .u8 49] 5 (3, 4))
          have LK := implLabelOk_has (unhide HX)
          rw [show labelOk [97, 45, 49] = true by decide] at LK
          replace LK := hide LK
          go_wp2_with fail
          refine (unhide LK).mono ?_
          rintro e w15 ⟨rfl, rfl⟩
          go_wp2_with fail
          go_ret
          exact ⟨rfl, below_next bb bx⟩
        · have PP := fun (w : World) (h : HasL w (.slice x1 n1.length y1) n1) => implParent_has h
          rw [parentOf_yes (unhide OKA) h0] at PP
          have UP := fun (w : World) (v : Value) (h : HasL w (.slice x1 n1.length y1) n1) (h2 : HasL w v (n1.drop 1)) => implUnder_has h h2
          rw [under_parent (unhide OKA)] at UP
          have UQ := fun (w : World) (v : Value) (h : HasL w (.slice x1 n1.length y1) n1) (h2 : HasL w v (n1.drop 1)) => implUnder_has h2 h
          rw [parent_not (unhide OKA) h0] at UQ
          replace UP := hide UP
          replace UQ := hide UQ
          generalize n1.drop 1 = pn at *
          replace PP := hide PP
          have hkk := child_ok (l := [113]) (unhide OKA) h6 (by decide)
          have CC := fun (w : World) (v : Value) (h : HasL w (.slice x1 n1.length y1) n1) (h2 : Has w v [113]) => implChild_yes h h2 (unhide OKA) h6 (by decide)
          have PK := fun (w : World) (v : Value) (h : HasL w v ([113] :: n1)) => implParent_has h
          rw [parent_child hkk] at PK
          have UK := fun (w : World) (v : Value) (h : HasL w (.slice x1 n1.length y1) n1) (h2 : HasL w v ([113] :: n1)) => implUnder_has h2 h
          rw [under_child (unhide OKA) hkk] at UK
          have NK := fun (w : World) (v : Value) (h : HasL w (.slice x1 n1.length y1) n1) (h2 : HasL w v ([113] :: n1)) => implNameCmp_has h2 h
          rw [cmp_child (unhide OKA) hkk] at NK
          have SQ := fun (w : World) (v : Value) (h : HasL w (.slice x1 n1.length y1) n1) (h2 : HasL w v n1) => sameName_has h2 h
          rw [decide_eq_true rfl] at SQ
          replace CC := hide CC
          replace PK := hide PK
          replace UK := hide UK
          replace NK := hide NK
          replace SQ := hide SQ
          clear hkk
          generalize hKN : [113] :: n1 = kn at *
          clear hKN
          have UR := fun (w : World) (h : HasL w (.slice x1 n1.length y1) n1) => implUnder_has (v' := .slice none 0 0) (n' := []) h (.inl ⟨rfl, rfl⟩)
          rw [under_root (unhide OKA)] at UR
          replace UR := hide UR
          have hl0 : (0 : Int) < n1.length := by omega
          clear m1 m2 m1l h6 h0
          have c_KA := block_one (unhide KA)
          have c_KB := block_one (unhide KB)
          go_wp2_with fail
          clear c_KA c_KB
          refine (unhide PP _ (unhide HA)).mono ?_
          rintro e w9 ⟨vp, rfl, op, b9⟩
          replace bb := below_next bb b9
          replace KA := hide (block_kept b9 (unhide KA))
          replace KB := hide (block_kept b9 (unhide KB))
          replace HA := hide ((unhide HA).below b9)
          have z9 := b9.size
          clear b9
          obtain ⟨xp, yp, rfl, _⟩ := op.hasL.form
          have bp := below_alloc (w := w9) (.cells #[.slice xp pn.length yp] 25)
          have KP := hide (heap_alloc_new w9 (.cells #[.slice xp pn.length yp] 25))
          have HP := hide (op.hasL.below bp)
          clear op PP
          replace bb := below_next bb bp
          replace KA := hide (block_kept bp (unhide KA))
          replace KB := hide (block_kept bp (unhide KB))
          replace HA := hide ((unhide HA).below bp)
          have zp := bp.size
          clear bp
          have bq := below_alloc (w := w9.alloc (.cells #[.slice xp pn.length yp] 25)) (.cells #[.int .u8 113] 5 (1, 2))
          have esz : (w9.alloc (.cells #[.slice xp pn.length yp] 25)).heap.size = w9.heap.size + 1 := by show (w9.heap.push _).size = _; simp
          have hcv := hcid (w9.alloc (.cells #[.slice xp pn.length yp] 25)) #[.int .u8 113] 1 1
          rw [esz] at hcv
          have HQ0 : Has ((w9.alloc (.cells #[.slice xp pn.length yp] 25)).alloc (.cells #[.int .u8 113] 5 (1, 2))) (.slice (some ⟨(w9.alloc (.cells #[.slice xp pn.length yp] 25)).heap.size, 0, none⟩) 1 1) [113] := has_const (w9.alloc (.cells #[.slice xp pn.length yp] 25)) 5 [113] (1, 2) (by decide)
          rw [esz] at HQ0
          have HQ := hide HQ0
          clear HQ0 esz
          have c_KA := block_one (unhide KA)
          have c_KB := block_one (unhide KB)
          have c_KP := block_one (unhide KP)
          go_wp2_with fail
          clear c_KA c_KB c_KP
          replace bb := below_next bb bq
          replace KA := hide (block_kept bq (unhide KA))
          replace KB := hide (block_kept bq (unhide KB))
          replace HA := hide ((unhide HA).below bq)
          replace KP := hide (block_kept bq (unhide KP))
          replace HP := hide ((unhide HP).below bq)
          have zq := bq.size
          clear bq hcv
          generalize (w9.alloc (.cells #[.slice xp pn.length yp] 25)).alloc (.cells #[.int .u8 113] 5 (1, 2)) = WQ at *
          refine (unhide CC _ _ (unhide HA) (unhide HQ)).mono ?_
          rintro e w10 ⟨vk, rfl, ok, b10⟩
          replace bb := below_next bb b10
          replace KA := hide (block_kept b10 (unhide KA))
          replace KB := hide (block_kept b10 (unhide KB))
          replace HA := hide ((unhide HA).below b10)
          replace KP := hide (block_kept b10 (unhide KP))
          replace HP := hide ((unhide HP).below b10)
          have z10 := b10.size
          clear b10
          obtain ⟨xk, yk, rfl, _⟩ := ok.hasL.form
          have bk := below_alloc (w := w10) (.cells #[.slice xk kn.length yk] 25)
          have KK := hide (heap_alloc_new w10 (.cells #[.slice xk kn.length yk] 25))
          have HK := hide (ok.hasL.below bk)
          clear ok CC HQ
          replace bb := below_next bb bk
          replace KA := hide (block_kept bk (unhide KA))
          replace KB := hide (block_kept bk (unhide KB))
          replace HA := hide ((unhide HA).below bk)
          replace KP := hide (block_kept bk (unhide KP))
          replace HP := hide ((unhide HP).below bk)
          have zk := bk.size
          clear bk
          have c_KA := block_one (unhide KA)
          have c_KB := block_one (unhide KB)
          have c_KP := block_one (unhide KP)
          have c_KK := block_one (unhide KK)
          go_wp2_with fail
          clear c_KA c_KB c_KP c_KK
          generalize w10.alloc (.cells #[.slice xk kn.length yk] 25) = WK at *
          refine (unhide UP _ _ (unhide HA) (unhide HP)).mono ?_
          rintro e w11 ⟨rfl, b11⟩
          replace bb := below_next bb b11
          replace KA := hide (block_kept b11 (unhide KA))
          replace KB := hide (block_kept b11 (unhide KB))
          replace HA := hide ((unhide HA).below b11)
          replace KP := hide (block_kept b11 (unhide KP))
          replace HP := hide ((unhide HP).below b11)
          replace KK := hide (block_kept b11 (unhide KK))
          replace HK := hide ((unhide HK).below b11)
          have z11 := b11.size
          clear b11
          have c_KA := block_one (unhide KA)
          have c_KB := block_one (unhide KB)
          have c_KP := block_one (unhide KP)
          have c_KK := block_one (unhide KK)
          go_wp2_with fail
          clear c_KA c_KB c_KP c_KK
          refine (unhide UQ _ _ (unhide HA) (unhide HP)).mono ?_
          rintro e w12 ⟨rfl, b12⟩
          replace bb := below_next bb b12
          replace KA := hide (block_kept b12 (unhide KA))
          replace KB := hide (block_kept b12 (unhide KB))
          replace HA := hide ((unhide HA).below b12)
          replace KP := hide (block_kept b12 (unhide KP))
          replace HP := hide ((unhide HP).below b12)
          replace KK := hide (block_kept b12 (unhide KK))
          replace HK := hide ((unhide HK).below b12)
          have z12 := b12.size
          clear b12
          clear UP UQ
          have c_KA := block_one (unhide KA)
          have c_KB := block_one (unhide KB)
          have c_KP := block_one (unhide KP)
          have c_KK := block_one (unhide KK)
          go_wp2_with fail
          clear c_KA c_KB c_KP c_KK
          refine (unhide PK _ _ (unhide HK)).mono ?_
          rintro e w13 ⟨vq, rfl, oq, b13⟩
          replace bb := below_next bb b13
          replace KA := hide (block_kept b13 (unhide KA))
          replace KB := hide (block_kept b13 (unhide KB))
          replace HA := hide ((unhide HA).below b13)
          replace KP := hide (block_kept b13 (unhide KP))
          replace HP := hide ((unhide HP).below b13)
          replace KK := hide (block_kept b13 (unhide KK))
          replace HK := hide ((unhide HK).below b13)
          have z13 := b13.size
          clear b13
          obtain ⟨xq, yq, rfl, _⟩ := oq.hasL.form
          have bs := below_alloc (w := w13) (.cells #[.slice xq n1.length yq] 25)
          have KQ := hide (heap_alloc_new w13 (.cells #[.slice xq n1.length yq] 25))
          have HQ := hide (oq.hasL.below bs)
          clear oq PK
          replace bb := below_next bb bs
          replace KA := hide (block_kept bs (unhide KA))
          replace KB := hide (block_kept bs (unhide KB))
          replace HA := hide ((unhide HA).below bs)
          replace KP := hide (block_kept bs (unhide KP))
          replace HP := hide ((unhide HP).below bs)
          replace KK := hide (block_kept bs (unhide KK))
          replace HK := hide ((unhide HK).below bs)
          have zs := bs.size
          clear bs
          have c_KA := block_one (unhide KA)
          have c_KB := block_one (unhide KB)
          have c_KP := block_one (unhide KP)
          have c_KK := block_one (unhide KK)
          have c_KQ := block_one (unhide KQ)
          go_wp2_with fail
          clear c_KA c_KB c_KP c_KK c_KQ
          generalize w13.alloc (.cells #[.slice xq n1.length yq] 25) = WS at *
          refine (unhide SQ _ _ (unhide HA) (unhide HQ)).mono ?_
          rintro e w14 ⟨rfl, b14⟩
          replace bb := below_next bb b14
          replace KA := hide (block_kept b14 (unhide KA))
          replace KB := hide (block_kept b14 (unhide KB))
          replace HA := hide ((unhide HA).below b14)
          replace KP := hide (block_kept b14 (unhide KP))
          replace HP := hide ((unhide HP).below b14)
          replace KK := hide (block_kept b14 (unhide KK))
          replace HK := hide ((unhide HK).below b14)
          replace KQ := hide (block_kept b14 (unhide KQ))
          replace HQ := hide ((unhide HQ).below b14)
          have z14 := b14.size
          clear b14
          have c_KA := block_one (unhide KA)
          have c_KB := block_one (unhide KB)
          have c_KP := block_one (unhide KP)
          have c_KK := block_one (unhide KK)
          have c_KQ := block_one (unhide KQ)
          go_wp2_with fail
          clear c_KA c_KB c_KP c_KK c_KQ
          refine (unhide UK _ _ (unhide HA) (unhide HK)).mono ?_
          rintro e w15 ⟨rfl, b15⟩
          replace bb := below_next bb b15
          replace KA := hide (block_kept b15 (unhide KA))
          replace KB := hide (block_kept b15 (unhide KB))
          replace HA := hide ((unhide HA).below b15)
          replace KP := hide (block_kept b15 (unhide KP))
          replace HP := hide ((unhide HP).below b15)
          replace KK := hide (block_kept b15 (unhide KK))
          replace HK := hide ((unhide HK).below b15)
          replace KQ := hide (block_kept b15 (unhide KQ))
          replace HQ := hide ((unhide HQ).below b15)
          have z15 := b15.size
          clear b15
          have c_KA := block_one (unhide KA)
          have c_KB := block_one (unhide KB)
          have c_KP := block_one (unhide KP)
          have c_KK := block_one (unhide KK)
          have c_KQ := block_one (unhide KQ)
          go_wp2_with fail
          clear c_KA c_KB c_KP c_KK c_KQ
          refine (unhide NK _ _ (unhide HA) (unhide HK)).mono ?_
          rintro e w16 ⟨rfl, b16⟩
          replace bb := below_next bb b16
          replace KA := hide (block_kept b16 (unhide KA))
          replace KB := hide (block_kept b16 (unhide KB))
          replace HA := hide ((unhide HA).below b16)
          replace KP := hide (block_kept b16 (unhide KP))
          replace HP := hide ((unhide HP).below b16)
          replace KK := hide (block_kept b16 (unhide KK))
          replace HK := hide ((unhide HK).below b16)
          replace KQ := hide (block_kept b16 (unhide KQ))
          replace HQ := hide ((unhide HQ).below b16)
          have z16 := b16.size
          clear b16
          clear SQ UK NK
          have c_KA := block_one (unhide KA)
          have c_KB := block_one (unhide KB)
          have c_KP := block_one (unhide KP)
          have c_KK := block_one (unhide KK)
          have c_KQ := block_one (unhide KQ)
          go_wp2_with fail
          clear c_KA c_KB c_KP c_KK c_KQ
          refine (unhide UR _ (unhide HA)).mono ?_
          rintro e w17 ⟨rfl, b17⟩
          replace bb := below_next bb b17
          replace KA := hide (block_kept b17 (unhide KA))
          replace KB := hide (block_kept b17 (unhide KB))
          replace HA := hide ((unhide HA).below b17)
          replace KP := hide (block_kept b17 (unhide KP))
          replace HP := hide ((unhide HP).below b17)
          replace KK := hide (block_kept b17 (unhide KK))
          replace HK := hide ((unhide HK).below b17)
          replace KQ := hide (block_kept b17 (unhide KQ))
          replace HQ := hide ((unhide HQ).below b17)
          have z17 := b17.size
          clear b17
          go_wp2_with fail
          refine (names_any _).mono ?_
          rintro e w18 ⟨rfl, b18⟩
          replace bb := below_next bb b18
          clear b18
          have HX0 : Has (w18.alloc (.cells #[.int .u8 97, .int .u8 45, .int .u8 49] 5 (3, 4))) (.slice (some ⟨w18.heap.size, 0, none⟩) 3 3) [97, 45, 49] := has_const w18 5 [97, 45, 49] (3, 4) (by decide)
          have HX := hide HX0
          clear HX0
          have bx := below_alloc (w := w18) (.cells #[.int .u8 97, .int .u8 45, .int .u8 49] 5 (3, 4))
          have LK := implLabelOk_has (unhide HX)
          rw [show labelOk [97, 45, 49] = true by decide] at LK
          replace LK := hide LK
          go_wp2_with fail
          refine (unhide LK).mono ?_
          rintro e w19 ⟨rfl, rfl⟩
          go_wp2_with fail
          go_ret
          exact ⟨rfl, below_next bb bx⟩
      | false =>
        clear HLT
        rcases h06 with h0 | h6 | ⟨h0, h6⟩
        · have h6 : n1.length ≠ 6 := by omega
          obtain rfl := List.eq_nil_of_length_eq_zero h0
          replace HA : Hid (HasL w8 (.slice x1 0 y1) []) := HA
          replace KA : Hid (w8.heap[w1.heap.size]? = some (.cells #[.slice x1 0 y1] 25)) := KA
          have PP := fun (w : World) (h : HasL w (.slice x1 0 y1) ([] : List (List Int))) => implParent_has h
          rw [parentOf_root rfl] at PP
          replace PP := hide PP
          have hkk := child_ok (l := [113]) (unhide OKA) h6 (by decide)
          have CC := fun (w : World) (v : Value) (h : HasL w (.slice x1 0 y1) ([] : List (List Int))) (h2 : Has w v [113]) => implChild_yes h h2 (unhide OKA) h6 (by decide)
          have PK := fun (w : World) (v : Value) (h : HasL w v ([113] :: ([] : List (List Int)))) => implParent_has h
          rw [parent_child hkk] at PK
          have UK := fun (w : World) (v : Value) (h : HasL w (.slice x1 0 y1) ([] : List (List Int))) (h2 : HasL w v ([113] :: ([] : List (List Int)))) => implUnder_has h2 h
          rw [under_child (unhide OKA) hkk] at UK
          have NK := fun (w : World) (v : Value) (h : HasL w (.slice x1 0 y1) ([] : List (List Int))) (h2 : HasL w v ([113] :: ([] : List (List Int)))) => implNameCmp_has h2 h
          rw [cmp_child (unhide OKA) hkk] at NK
          have SQ := fun (w : World) (v : Value) (h : HasL w (.slice x1 0 y1) ([] : List (List Int))) (h2 : HasL w v ([] : List (List Int))) => sameName_has h2 h
          rw [decide_eq_true rfl] at SQ
          replace CC := hide CC
          replace PK := hide PK
          replace UK := hide UK
          replace NK := hide NK
          replace SQ := hide SQ
          clear hkk
          generalize hKN : [113] :: ([] : List (List Int)) = kn at *
          clear hKN
          have UR := fun (w : World) (h : HasL w (.slice x1 0 y1) ([] : List (List Int))) => implUnder_has (v' := .slice none 0 0) (n' := []) h (.inl ⟨rfl, rfl⟩)
          rw [under_root (unhide OKA)] at UR
          replace UR := hide UR
          have hl0 : ((0 : Int) < 0) = False := by simp
          clear m1 m2 m1l h6
          have c_KA := block_one (unhide KA)
          have c_KB := block_one (unhide KB)
          go_wp2_with fail
          clear c_KA c_KB
          refine (unhide PP _ (unhide HA)).mono ?_
          rintro e w9 ⟨vp, rfl, op, b9⟩
          replace bb := below_next bb b9
          replace KA := hide (block_kept b9 (unhide KA))
          replace KB := hide (block_kept b9 (unhide KB))
          replace HA := hide ((unhide HA).below b9)
          have z9 := b9.size
          clear b9
          obtain ⟨xp, yp, rfl, _⟩ := op.hasL.form
          have bp := below_alloc (w := w9) (.cells #[.slice xp 0 yp] 25)
          have KP := hide (heap_alloc_new w9 (.cells #[.slice xp 0 yp] 25))
          have HP := hide (op.hasL.below bp)
          clear op PP
          replace bb := below_next bb bp
          replace KA := hide (block_kept bp (unhide KA))
          replace KB := hide (block_kept bp (unhide KB))
          replace HA := hide ((unhide HA).below bp)
          have zp := bp.size
          clear bp
          have bq := below_alloc (w := w9.alloc (.cells #[.slice xp 0 yp] 25)) (.cells #[.int .u8 113] 5 (1, 2))
          have esz : (w9.alloc (.cells #[.slice xp 0 yp] 25)).heap.size = w9.heap.size + 1 := by show (w9.heap.push _).size = _; simp
          have hcv := hcid (w9.alloc (.cells #[.slice xp 0 yp] 25)) #[.int .u8 113] 1 1
          rw [esz] at hcv
          have HQ0 : Has ((w9.alloc (.cells #[.slice xp 0 yp] 25)).alloc (.cells #[.int .u8 113] 5 (1, 2))) (.slice (some ⟨(w9.alloc (.cells #[.slice xp 0 yp] 25)).heap.size, 0, none⟩) 1 1) [113] := has_const (w9.alloc (.cells #[.slice xp 0 yp] 25)) 5 [113] (1, 2) (by decide)
          rw [esz] at HQ0
          have HQ := hide HQ0
          clear HQ0 esz
          have c_KA := block_one (unhide KA)
          have c_KB := block_one (unhide KB)
          have c_KP := block_one (unhide KP)
          go_wp2_with fail
          clear c_KA c_KB c_KP
          replace bb := below_next bb bq
          replace KA := hide (block_kept bq (unhide KA))
          replace KB := hide (block_kept bq (unhide KB))
          replace HA := hide ((unhide HA).below bq)
          replace KP := hide (block_kept bq (unhide KP))
          replace HP := hide ((unhide HP).below bq)
          have zq := bq.size
          clear bq hcv
          generalize (w9.alloc (.cells #[.slice xp 0 yp] 25)).alloc (.cells #[.int .u8 113] 5 (1, 2)) = WQ at *
          refine (unhide CC _ _ (unhide HA) (unhide HQ)).mono ?_
          rintro e w10 ⟨vk, rfl, ok, b10⟩
          replace bb := below_next bb b10
          replace KA := hide (block_kept b10 (unhide KA))
          replace KB := hide (block_kept b10 (unhide KB))
          replace HA := hide ((unhide HA).below b10)
          replace KP := hide (block_kept b10 (unhide KP))
          replace HP := hide ((unhide HP).below b10)
          have z10 := b10.size
          clear b10
          obtain ⟨xk, yk, rfl, _⟩ := ok.hasL.form
          have bk := below_alloc (w := w10) (.cells #[.slice xk kn.length yk] 25)
          have KK := hide (heap_alloc_new w10 (.cells #[.slice xk kn.length yk] 25))
          have HK := hide (ok.hasL.below bk)
          clear ok CC HQ
          replace bb := below_next bb bk
          replace KA := hide (block_kept bk (unhide KA))
          replace KB := hide (block_kept bk (unhide KB))
          replace HA := hide ((unhide HA).below bk)
          replace KP := hide (block_kept bk (unhide KP))
          replace HP := hide ((unhide HP).below bk)
          have zk := bk.size
          clear bk
          have c_KA := block_one (unhide KA)
          have c_KB := block_one (unhide KB)
          have c_KP := block_one (unhide KP)
          have c_KK := block_one (unhide KK)
          go_wp2_with fail
          clear c_KA c_KB c_KP c_KK
          generalize w10.alloc (.cells #[.slice xk kn.length yk] 25) = WK at *
          refine (unhide PK _ _ (unhide HK)).mono ?_
          rintro e w11 ⟨vq, rfl, oq, b11⟩
          replace bb := below_next bb b11
          replace KA := hide (block_kept b11 (unhide KA))
          replace KB := hide (block_kept b11 (unhide KB))
          replace HA := hide ((unhide HA).below b11)
          replace KP := hide (block_kept b11 (unhide KP))
          replace HP := hide ((unhide HP).below b11)
          replace KK := hide (block_kept b11 (unhide KK))
          replace HK := hide ((unhide HK).below b11)
          have z11 := b11.size
          clear b11
          obtain ⟨xq, yq, rfl, _⟩ := oq.hasL.form
          have bs := below_alloc (w := w11) (.cells #[.slice xq 0 yq] 25)
          have KQ := hide (heap_alloc_new w11 (.cells #[.slice xq 0 yq] 25))
          have HQ := hide (oq.hasL.below bs)
          clear oq PK
          replace bb := below_next bb bs
          replace KA := hide (block_kept bs (unhide KA))
          replace KB := hide (block_kept bs (unhide KB))
          replace HA := hide ((unhide HA).below bs)
          replace KP := hide (block_kept bs (unhide KP))
          replace HP := hide ((unhide HP).below bs)
          replace KK := hide (block_kept bs (unhide KK))
          replace HK := hide ((unhide HK).below bs)
          have zs := bs.size
          clear bs
          have c_KA := block_one (unhide KA)
          have c_KB := block_one (unhide KB)
          have c_KP := block_one (unhide KP)
          have c_KK := block_one (unhide KK)
          have c_KQ := block_one (unhide KQ)
          go_wp2_with fail
          clear c_KA c_KB c_KP c_KK c_KQ
          generalize w11.alloc (.cells #[.slice xq 0 yq] 25) = WS at *
          refine (unhide SQ _ _ (unhide HA) (unhide HQ)).mono ?_
          rintro e w12 ⟨rfl, b12⟩
          replace bb := below_next bb b12
          replace KA := hide (block_kept b12 (unhide KA))
          replace KB := hide (block_kept b12 (unhide KB))
          replace HA := hide ((unhide HA).below b12)
          replace KP := hide (block_kept b12 (unhide KP))
          replace HP := hide ((unhide HP).below b12)
          replace KK := hide (block_kept b12 (unhide KK))
          replace HK := hide ((unhide HK).below b12)
          replace KQ := hide (block_kept b12 (unhide KQ))
          replace HQ := hide ((unhide HQ).below b12)
          have z12 := b12.size
          clear b12
          have c_KA := block_one (unhide KA)
          have c_KB := block_one (unhide KB)
          have c_KP := block_one (unhide KP)
          have c_KK := block_one (unhide KK)
          have c_KQ := block_one (unhide KQ)
          go_wp2_with fail
          clear c_KA c_KB c_KP c_KK c_KQ
          refine (unhide UK _ _ (unhide HA) (unhide HK)).mono ?_
          rintro e w13 ⟨rfl, b13⟩
          replace bb := below_next bb b13
          replace KA := hide (block_kept b13 (unhide KA))
          replace KB := hide (block_kept b13 (unhide KB))
          replace HA := hide ((unhide HA).below b13)
          replace KP := hide (block_kept b13 (unhide KP))
          replace HP := hide ((unhide HP).below b13)
          replace KK := hide (block_kept b13 (unhide KK))
          replace HK := hide ((unhide HK).below b13)
          replace KQ := hide (block_kept b13 (unhide KQ))
          replace HQ := hide ((unhide HQ).below b13)
          have z13 := b13.size
          clear b13
          have c_KA := block_one (unhide KA)
          have c_KB := block_one (unhide KB)
          have c_KP := block_one (unhide KP)
          have c_KK := block_one (unhide KK)
          have c_KQ := block_one (unhide KQ)
          go_wp2_with fail
          clear c_KA c_KB c_KP c_KK c_KQ
          refine (unhide NK _ _ (unhide HA) (unhide HK)).mono ?_
          rintro e w14 ⟨rfl, b14⟩
          replace bb := below_next bb b14
          replace KA := hide (block_kept b14 (unhide KA))
          replace KB := hide (block_kept b14 (unhide KB))
          replace HA := hide ((unhide HA).below b14)
          replace KP := hide (block_kept b14 (unhide KP))
          replace HP := hide ((unhide HP).below b14)
          replace KK := hide (block_kept b14 (unhide KK))
          replace HK := hide ((unhide HK).below b14)
          replace KQ := hide (block_kept b14 (unhide KQ))
          replace HQ := hide ((unhide HQ).below b14)
          have z14 := b14.size
          clear b14
          clear SQ UK NK
          have c_KA := block_one (unhide KA)
          have c_KB := block_one (unhide KB)
          have c_KP := block_one (unhide KP)
          have c_KK := block_one (unhide KK)
          have c_KQ := block_one (unhide KQ)
          go_wp2_with fail
          clear c_KA c_KB c_KP c_KK c_KQ
          refine (unhide UR _ (unhide HA)).mono ?_
          rintro e w15 ⟨rfl, b15⟩
          replace bb := below_next bb b15
          replace KA := hide (block_kept b15 (unhide KA))
          replace KB := hide (block_kept b15 (unhide KB))
          replace HA := hide ((unhide HA).below b15)
          replace KP := hide (block_kept b15 (unhide KP))
          replace HP := hide ((unhide HP).below b15)
          replace KK := hide (block_kept b15 (unhide KK))
          replace HK := hide ((unhide HK).below b15)
          replace KQ := hide (block_kept b15 (unhide KQ))
          replace HQ := hide ((unhide HQ).below b15)
          have z15 := b15.size
          clear b15
          go_wp2_with fail
          refine (names_any _).mono ?_
          rintro e w16 ⟨rfl, b16⟩
          replace bb := below_next bb b16
          clear b16
          have HX0 : Has (w16.alloc (.cells #[.int .u8 97, .int .u8 45, .int .u8 49] 5 (3, 4))) (.slice (some ⟨w16.heap.size, 0, none⟩) 3 3) [97, 45, 49] := has_const w16 5 [97, 45, 49] (3, 4) (by decide)
          have HX := hide HX0
          clear HX0
          have bx := below_alloc (w := w16) (.cells #[.int .u8 97, .int .u8 45, .int .u8 49] 5 (3, 4))
          have LK := implLabelOk_has (unhide HX)
          rw [show labelOk [97, 45, 49] = true by decide] at LK
          replace LK := hide LK
          go_wp2_with fail
          refine (unhide LK).mono ?_
          rintro e w17 ⟨rfl, rfl⟩
          go_wp2_with fail
          go_ret
          exact ⟨rfl, below_next bb bx⟩
        · have h0 : n1.length ≠ 0 := by omega
          have PP := fun (w : World) (h : HasL w (.slice x1 n1.length y1) n1) => implParent_has h
          rw [parentOf_yes (unhide OKA) h0] at PP
          have UP := fun (w : World) (v : Value) (h : HasL w (.slice x1 n1.length y1) n1) (h2 : HasL w v (n1.drop 1)) => implUnder_has h h2
          rw [under_parent (unhide OKA)] at UP
          have UQ := fun (w : World) (v : Value) (h : HasL w (.slice x1 n1.length y1) n1) (h2 : HasL w v (n1.drop 1)) => implUnder_has h2 h
          rw [parent_not (unhide OKA) h0] at UQ
          replace UP := hide UP
          replace UQ := hide UQ
          generalize n1.drop 1 = pn at *
          replace PP := hide PP
          have CC := fun (w : World) (v : Value) (h : HasL w (.slice x1 n1.length y1) n1) (h2 : Has w v [113]) => implChild_no h h2 (Or.inr (Or.inl h6))
          replace CC := hide CC
          have UR := fun (w : World) (h : HasL w (.slice x1 n1.length y1) n1) => implUnder_has (v' := .slice none 0 0) (n' := []) h (.inl ⟨rfl, rfl⟩)
          rw [under_root (unhide OKA)] at UR
          replace UR := hide UR
          have hl0 : (0 : Int) < n1.length := by omega
          clear m1 m2 m1l h6 h0
          have c_KA := block_one (unhide KA)
          have c_KB := block_one (unhide KB)
          go_wp2_with fail
          clear c_KA c_KB
          refine (unhide PP _ (unhide HA)).mono ?_
          rintro e w9 ⟨vp, rfl, op, b9⟩
          replace bb := below_next bb b9
          replace KA := hide (block_kept b9 (unhide KA))
          replace KB := hide (block_kept b9 (unhide KB))
          replace HA := hide ((unhide HA).below b9)
          have z9 := b9.size
          clear b9
          obtain ⟨xp, yp, rfl, _⟩ := op.hasL.form
          have bp := below_alloc (w := w9) (.cells #[.slice xp pn.length yp] 25)
          have KP := hide (heap_alloc_new w9 (.cells #[.slice xp pn.length yp] 25))
          have HP := hide (op.hasL.below bp)
          clear op PP
          replace bb := below_next bb bp
          replace KA := hide (block_kept bp (unhide KA))
          replace KB := hide (block_kept bp (unhide KB))
          replace HA := hide ((unhide HA).below bp)
          have zp := bp.size
          clear bp
          have bq := below_alloc (w := w9.alloc (.cells #[.slice xp pn.length yp] 25)) (.cells #[.int .u8 113] 5 (1, 2))
          have esz : (w9.alloc (.cells #[.slice xp pn.length yp] 25)).heap.size = w9.heap.size + 1 := by show (w9.heap.push _).size = _; simp
          have hcv := hcid (w9.alloc (.cells #[.slice xp pn.length yp] 25)) #[.int .u8 113] 1 1
          rw [esz] at hcv
          have HQ0 : Has ((w9.alloc (.cells #[.slice xp pn.length yp] 25)).alloc (.cells #[.int .u8 113] 5 (1, 2))) (.slice (some ⟨(w9.alloc (.cells #[.slice xp pn.length yp] 25)).heap.size, 0, none⟩) 1 1) [113] := has_const (w9.alloc (.cells #[.slice xp pn.length yp] 25)) 5 [113] (1, 2) (by decide)
          rw [esz] at HQ0
          have HQ := hide HQ0
          clear HQ0 esz
          have c_KA := block_one (unhide KA)
          have c_KB := block_one (unhide KB)
          have c_KP := block_one (unhide KP)
          go_wp2_with fail
          clear c_KA c_KB c_KP
          replace bb := below_next bb bq
          replace KA := hide (block_kept bq (unhide KA))
          replace KB := hide (block_kept bq (unhide KB))
          replace HA := hide ((unhide HA).below bq)
          replace KP := hide (block_kept bq (unhide KP))
          replace HP := hide ((unhide HP).below bq)
          have zq := bq.size
          clear bq hcv
          generalize (w9.alloc (.cells #[.slice xp pn.length yp] 25)).alloc (.cells #[.int .u8 113] 5 (1, 2)) = WQ at *
          refine (unhide CC _ _ (unhide HA) (unhide HQ)).mono ?_
          rintro e w10 ⟨vk, rfl, ok, b10⟩
          replace bb := below_next bb b10
          replace KA := hide (block_kept b10 (unhide KA))
          replace KB := hide (block_kept b10 (unhide KB))
          replace HA := hide ((unhide HA).below b10)
          replace KP := hide (block_kept b10 (unhide KP))
          replace HP := hide ((unhide HP).below b10)
          have z10 := b10.size
          clear b10
          obtain ⟨xk, yk, rfl, _⟩ := ok.hasL.form
          have bk := below_alloc (w := w10) (.cells #[.slice xk 0 yk] 25)
          have KK := hide (heap_alloc_new w10 (.cells #[.slice xk 0 yk] 25))
          have HK := hide (ok.hasL.below bk)
          clear ok CC HQ
          replace bb := below_next bb bk
          replace KA := hide (block_kept bk (unhide KA))
          replace KB := hide (block_kept bk (unhide KB))
          replace HA := hide ((unhide HA).below bk)
          replace KP := hide (block_kept bk (unhide KP))
          replace HP := hide ((unhide HP).below bk)
          have zk := bk.size
          clear bk
          have c_KA := block_one (unhide KA)
          have c_KB := block_one (unhide KB)
          have c_KP := block_one (unhide KP)
          have c_KK := block_one (unhide KK)
          go_wp2_with fail
          clear c_KA c_KB c_KP c_KK
          generalize w10.alloc (.cells #[.slice xk 0 yk] 25) = WK at *
          refine (unhide UP _ _ (unhide HA) (unhide HP)).mono ?_
          rintro e w11 ⟨rfl, b11⟩
          replace bb := below_next bb b11
          replace KA := hide (block_kept b11 (unhide KA))
          replace KB := hide (block_kept b11 (unhide KB))
          replace HA := hide ((unhide HA).below b11)
          replace KP := hide (block_kept b11 (unhide KP))
          replace HP := hide ((unhide HP).below b11)
          replace KK := hide (block_kept b11 (unhide KK))
          replace HK := hide ((unhide HK).below b11)
          have z11 := b11.size
          clear b11
          have c_KA := block_one (unhide KA)
          have c_KB := block_one (unhide KB)
          have c_KP := block_one (unhide KP)
          have c_KK := block_one (unhide KK)
          go_wp2_with fail
          clear c_KA c_KB c_KP c_KK
          refine (unhide UQ _ _ (unhide HA) (unhide HP)).mono ?_
          rintro e w12 ⟨rfl, b12⟩
          replace bb := below_next bb b12
          replace KA := hide (block_kept b12 (unhide KA))
          replace KB := hide (block_kept b12 (unhide KB))
          replace HA := hide ((unhide HA).below b12)
          replace KP := hide (block_kept b12 (unhide KP))
          replace HP := hide ((unhide HP).below b12)
          replace KK := hide (block_kept b12 (unhide KK))
          replace HK := hide ((unhide HK).below b12)
          have z12 := b12.size
          clear b12
          clear UP UQ
          have c_KA := block_one (unhide KA)
          have c_KB := block_one (unhide KB)
          have c_KP := block_one (unhide KP)
          have c_KK := block_one (unhide KK)
          go_wp2_with fail
          clear c_KA c_KB c_KP c_KK
          refine (unhide UR _ (unhide HA)).mono ?_
          rintro e w13 ⟨rfl, b13⟩
          replace bb := below_next bb b13
          replace KA := hide (block_kept b13 (unhide KA))
          replace KB := hide (block_kept b13 (unhide KB))
          replace HA := hide ((unhide HA).below b13)
          replace KP := hide (block_kept b13 (unhide KP))
          replace HP := hide ((unhide HP).below b13)
          replace KK := hide (block_kept b13 (unhide KK))
          replace HK := hide ((unhide HK).below b13)
          have z13 := b13.size
          clear b13
          go_wp2_with fail
          refine (names_any _).mono ?_
          rintro e w14 ⟨rfl, b14⟩
          replace bb := below_next bb b14
          clear b14
          have HX0 : Has (w14.alloc (.cells #[.int .u8 97, .int .u8 45, .int .u8 49] 5 (3, 4))) (.slice (some ⟨w14.heap.size, 0, none⟩) 3 3) [97, 45, 49] := has_const w14 5 [97, 45, 49] (3, 4) (by decide)
          have HX := hide HX0
          clear HX0
          have bx := below_alloc (w := w14) (.cells #[.int .u8 97, .int .u8 45, .int .u8 49] 5 (3, 4))
          have LK := implLabelOk_has (unhide HX)
          rw [show labelOk [97, 45, 49] = true by decide] at LK
          replace LK := hide LK
          go_wp2_with fail
          refine (unhide LK).mono ?_
          rintro e w15 ⟨rfl, rfl⟩
          go_wp2_with fail
          go_ret
          exact ⟨rfl, below_next bb bx⟩
        · have PP := fun (w : World) (h : HasL w (.slice x1 n1.length y1) n1) => implParent_has h
          rw [parentOf_yes (unhide OKA) h0] at PP
          have UP := fun (w : World) (v : Value) (h : HasL w (.slice x1 n1.length y1) n1) (h2 : HasL w v (n1.drop 1)) => implUnder_has h h2
          rw [under_parent (unhide OKA)] at UP
          have UQ := fun (w : World) (v : Value) (h : HasL w (.slice x1 n1.length y1) n1) (h2 : HasL w v (n1.drop 1)) => implUnder_has h2 h
          rw [parent_not (unhide OKA) h0] at UQ
          replace UP := hide UP
          replace UQ := hide UQ
          generalize n1.drop 1 = pn at *
          replace PP := hide PP
          have hkk := child_ok (l := [113]) (unhide OKA) h6 (by decide)
          have CC := fun (w : World) (v : Value) (h : HasL w (.slice x1 n1.length y1) n1) (h2 : Has w v [113]) => implChild_yes h h2 (unhide OKA) h6 (by decide)
          have PK := fun (w : World) (v : Value) (h : HasL w v ([113] :: n1)) => implParent_has h
          rw [parent_child hkk] at PK
          have UK := fun (w : World) (v : Value) (h : HasL w (.slice x1 n1.length y1) n1) (h2 : HasL w v ([113] :: n1)) => implUnder_has h2 h
          rw [under_child (unhide OKA) hkk] at UK
          have NK := fun (w : World) (v : Value) (h : HasL w (.slice x1 n1.length y1) n1) (h2 : HasL w v ([113] :: n1)) => implNameCmp_has h2 h
          rw [cmp_child (unhide OKA) hkk] at NK
          have SQ := fun (w : World) (v : Value) (h : HasL w (.slice x1 n1.length y1) n1) (h2 : HasL w v n1) => sameName_has h2 h
          rw [decide_eq_true rfl] at SQ
          replace CC := hide CC
          replace PK := hide PK
          replace UK := hide UK
          replace NK := hide NK
          replace SQ := hide SQ
          clear hkk
          generalize hKN : [113] :: n1 = kn at *
          clear hKN
          have UR := fun (w : World) (h : HasL w (.slice x1 n1.length y1) n1) => implUnder_has (v' := .slice none 0 0) (n' := []) h (.inl ⟨rfl, rfl⟩)
          rw [under_root (unhide OKA)] at UR
          replace UR := hide UR
          have hl0 : (0 : Int) < n1.length := by omega
          clear m1 m2 m1l h6 h0
          have c_KA := block_one (unhide KA)
          have c_KB := block_one (unhide KB)
          go_wp2_with fail
          clear c_KA c_KB
          refine (unhide PP _ (unhide HA)).mono ?_
          rintro e w9 ⟨vp, rfl, op, b9⟩
          replace bb := below_next bb b9
          replace KA := hide (block_kept b9 (unhide KA))
          replace KB := hide (block_kept b9 (unhide KB))
          replace HA := hide ((unhide HA).below b9)
          have z9 := b9.size
          clear b9
          obtain ⟨xp, yp, rfl, _⟩ := op.hasL.form
          have bp := below_alloc (w := w9) (.cells #[.slice xp pn.length yp] 25)
          have KP := hide (heap_alloc_new w9 (.cells #[.slice xp pn.length yp] 25))
          have HP := hide (op.hasL.below bp)
          clear op PP
          replace bb := below_next bb bp
          replace KA := hide (block_kept bp (unhide KA))
          replace KB := hide (block_kept bp (unhide KB))
          replace HA := hide ((unhide HA).below bp)
          have zp := bp.size
          clear bp
          have bq := below_alloc (w := w9.alloc (.cells #[.slice xp pn.length yp] 25)) (.cells #[.int .u8 113] 5 (1, 2))
          have esz : (w9.alloc (.cells #[.slice xp pn.length yp] 25)).heap.size = w9.heap.size + 1 := by show (w9.heap.push _).size = _; simp
          have hcv := hcid (w9.alloc (.cells #[.slice xp pn.length yp] 25)) #[.int .u8 113] 1 1
          rw [esz] at hcv
          have HQ0 : Has ((w9.alloc (.cells #[.slice xp pn.length yp] 25)).alloc (.cells #[.int .u8 113] 5 (1, 2))) (.slice (some ⟨(w9.alloc (.cells #[.slice xp pn.length yp] 25)).heap.size, 0, none⟩) 1 1) [113] := has_const (w9.alloc (.cells #[.slice xp pn.length yp] 25)) 5 [113] (1, 2) (by decide)
          rw [esz] at HQ0
          have HQ := hide HQ0
          clear HQ0 esz
          have c_KA := block_one (unhide KA)
          have c_KB := block_one (unhide KB)
          have c_KP := block_one (unhide KP)
          go_wp2_with fail
          clear c_KA c_KB c_KP
          replace bb := below_next bb bq
          replace KA := hide (block_kept bq (unhide KA))
          replace KB := hide (block_kept bq (unhide KB))
          replace HA := hide ((unhide HA).below bq)
          replace KP := hide (block_kept bq (unhide KP))
          replace HP := hide ((unhide HP).below bq)
          have zq := bq.size
          clear bq hcv
          generalize (w9.alloc (.cells #[.slice xp pn.length yp] 25)).alloc (.cells #[.int .u8 113] 5 (1, 2)) = WQ at *
          refine (unhide CC _ _ (unhide HA) (unhide HQ)).mono ?_
          rintro e w10 ⟨vk, rfl, ok, b10⟩
          replace bb := below_next bb b10
          replace KA := hide (block_kept b10 (unhide KA))
          replace KB := hide (block_kept b10 (unhide KB))
          replace HA := hide ((unhide HA).below b10)
          replace KP := hide (block_kept b10 (unhide KP))
          replace HP := hide ((unhide HP).below b10)
          have z10 := b10.size
          clear b10
          obtain ⟨xk, yk, rfl, _⟩ := ok.hasL.form
          have bk := below_alloc (w := w10) (.cells #[.slice xk kn.length yk] 25)
          have KK := hide (heap_alloc_new w10 (.cells #[.slice xk kn.length yk] 25))
          have HK := hide (ok.hasL.below bk)
          clear ok CC HQ
          replace bb := below_next bb bk
          replace KA := hide (block_kept bk (unhide KA))
          replace KB := hide (block_kept bk (unhide KB))
          replace HA := hide ((unhide HA).below bk)
          replace KP := hide (block_kept bk (unhide KP))
          replace HP := hide ((unhide HP).below bk)
          have zk := bk.size
          clear bk
          have c_KA := block_one (unhide KA)
          have c_KB := block_one (unhide KB)
          have c_KP := block_one (unhide KP)
          have c_KK := block_one (unhide KK)
          go_wp2_with fail
          clear c_KA c_KB c_KP c_KK
          generalize w10.alloc (.cells #[.slice xk kn.length yk] 25) = WK at *
          refine (unhide UP _ _ (unhide HA) (unhide HP)).mono ?_
          rintro e w11 ⟨rfl, b11⟩
          replace bb := below_next bb b11
          replace KA := hide (block_kept b11 (unhide KA))
          replace KB := hide (block_kept b11 (unhide KB))
          replace HA := hide ((unhide HA).below b11)
          replace KP := hide (block_kept b11 (unhide KP))
          replace HP := hide ((unhide HP).below b11)
          replace KK := hide (block_kept b11 (unhide KK))
          replace HK := hide ((unhide HK).below b11)
          have z11 := b11.size
          clear b11
          have c_KA := block_one (unhide KA)
          have c_KB := block_one (unhide KB)
          have c_KP := block_one (unhide KP)
          have c_KK := block_one (unhide KK)
          go_wp2_with fail
          clear c_KA c_KB c_KP c_KK
          refine (unhide UQ _ _ (unhide HA) (unhide HP)).mono ?_
          rintro e w12 ⟨rfl, b12⟩
          replace bb := below_next bb b12
          replace KA := hide (block_kept b12 (unhide KA))
          replace KB := hide (block_kept b12 (unhide KB))
          replace HA := hide ((unhide HA).below b12)
          replace KP := hide (block_kept b12 (unhide KP))
          replace HP := hide ((unhide HP).below b12)
          replace KK := hide (block_kept b12 (unhide KK))
          replace HK := hide ((unhide HK).below b12)
          have z12 := b12.size
          clear b12
          clear UP UQ
          have c_KA := block_one (unhide KA)
          have c_KB := block_one (unhide KB)
          have c_KP := block_one (unhide KP)
          have c_KK := block_one (unhide KK)
          go_wp2_with fail
          clear c_KA c_KB c_KP c_KK
          refine (unhide PK _ _ (unhide HK)).mono ?_
          rintro e w13 ⟨vq, rfl, oq, b13⟩
          replace bb := below_next bb b13
          replace KA := hide (block_kept b13 (unhide KA))
          replace KB := hide (block_kept b13 (unhide KB))
          replace HA := hide ((unhide HA).below b13)
          replace KP := hide (block_kept b13 (unhide KP))
          replace HP := hide ((unhide HP).below b13)
          replace KK := hide (block_kept b13 (unhide KK))
          replace HK := hide ((unhide HK).below b13)
          have z13 := b13.size
          clear b13
          obtain ⟨xq, yq, rfl, _⟩ := oq.hasL.form
          have bs := below_alloc (w := w13) (.cells #[.slice xq n1.length yq] 25)
          have KQ := hide (heap_alloc_new w13 (.cells #[.slice xq n1.length yq] 25))
          have HQ := hide (oq.hasL.below bs)
          clear oq PK
          replace bb := below_next bb bs
          replace KA := hide (block_kept bs (unhide KA))
          replace KB := hide (block_kept bs (unhide KB))
          replace HA := hide ((unhide HA).below bs)
          replace KP := hide (block_kept bs (unhide KP))
          replace HP := hide ((unhide HP).below bs)
          replace KK := hide (block_kept bs (unhide KK))
          replace HK := hide ((unhide HK).below bs)
          have zs := bs.size
          clear bs
          have c_KA := block_one (unhide KA)
          have c_KB := block_one (unhide KB)
          have c_KP := block_one (unhide KP)
          have c_KK := block_one (unhide KK)
          have c_KQ := block_one (unhide KQ)
          go_wp2_with fail
          clear c_KA c_KB c_KP c_KK c_KQ
          generalize w13.alloc (.cells #[.slice xq n1.length yq] 25) = WS at *
          refine (unhide SQ _ _ (unhide HA) (unhide HQ)).mono ?_
          rintro e w14 ⟨rfl, b14⟩
          replace bb := below_next bb b14
          replace KA := hide (block_kept b14 (unhide KA))
          replace KB := hide (block_kept b14 (unhide KB))
          replace HA := hide ((unhide HA).below b14)
          replace KP := hide (block_kept b14 (unhide KP))
          replace HP := hide ((unhide HP).below b14)
          replace KK := hide (block_kept b14 (unhide KK))
          replace HK := hide ((unhide HK).below b14)
          replace KQ := hide (block_kept b14 (unhide KQ))
          replace HQ := hide ((unhide HQ).below b14)
          have z14 := b14.size
          clear b14
          have c_KA := block_one (unhide KA)
          have c_KB := block_one (unhide KB)
          have c_KP := block_one (unhide KP)
          have c_KK := block_one (unhide KK)
          have c_KQ := block_one (unhide KQ)
          go_wp2_with fail
          clear c_KA c_KB c_KP c_KK c_KQ
          refine (unhide UK _ _ (unhide HA) (unhide HK)).mono ?_
          rintro e w15 ⟨rfl, b15⟩
          replace bb := below_next bb b15
          replace KA := hide (block_kept b15 (unhide KA))
          replace KB := hide (block_kept b15 (unhide KB))
          replace HA := hide ((unhide HA).below b15)
          replace KP := hide (block_kept b15 (unhide KP))
          replace HP := hide ((unhide HP).below b15)
          replace KK := hide (block_kept b15 (unhide KK))
          replace HK := hide ((unhide HK).below b15)
          replace KQ := hide (block_kept b15 (unhide KQ))
          replace HQ := hide ((unhide HQ).below b15)
          have z15 := b15.size
          clear b15
          have c_KA := block_one (unhide KA)
          have c_KB := block_one (unhide KB)
          have c_KP := block_one (unhide KP)
          have c_KK := block_one (unhide KK)
          have c_KQ := block_one (unhide KQ)
          go_wp2_with fail
          clear c_KA c_KB c_KP c_KK c_KQ
          refine (unhide NK _ _ (unhide HA) (unhide HK)).mono ?_
          rintro e w16 ⟨rfl, b16⟩
          replace bb := below_next bb b16
          replace KA := hide (block_kept b16 (unhide KA))
          replace KB := hide (block_kept b16 (unhide KB))
          replace HA := hide ((unhide HA).below b16)
          replace KP := hide (block_kept b16 (unhide KP))
          replace HP := hide ((unhide HP).below b16)
          replace KK := hide (block_kept b16 (unhide KK))
          replace HK := hide ((unhide HK).below b16)
          replace KQ := hide (block_kept b16 (unhide KQ))
          replace HQ := hide ((unhide HQ).below b16)
          have z16 := b16.size
          clear b16
          clear SQ UK NK
          have c_KA := block_one (unhide KA)
          have c_KB := block_one (unhide KB)
          have c_KP := block_one (unhide KP)
          have c_KK := block_one (unhide KK)
          have c_KQ := block_one (unhide KQ)
          go_wp2_with fail
          clear c_KA c_KB c_KP c_KK c_KQ
          refine (unhide UR _ (unhide HA)).mono ?_
          rintro e w17 ⟨rfl, b17⟩
          replace bb := below_next bb b17
          replace KA := hide (block_kept b17 (unhide KA))
          replace KB := hide (block_kept b17 (unhide KB))
          replace HA := hide ((unhide HA).below b17)
          replace KP := hide (block_kept b17 (unhide KP))
          replace HP := hide ((unhide HP).below b17)
          replace KK := hide (block_kept b17 (unhide KK))
          replace HK := hide ((unhide HK).below b17)
          replace KQ := hide (block_kept b17 (unhide KQ))
          replace HQ := hide ((unhide HQ).below b17)
          have z17 := b17.size
          clear b17
          go_wp2_with fail
          refine (names_any _).mono ?_
          rintro e w18 ⟨rfl, b18⟩
          replace bb := below_next bb b18
          clear b18
          have HX0 : Has (w18.alloc (.cells #[.int .u8 97, .int .u8 45, .int .u8 49] 5 (3, 4))) (.slice (some ⟨w18.heap.size, 0, none⟩) 3 3) [97, 45, 49] := has_const w18 5 [97, 45, 49] (3, 4) (by decide)
          have HX := hide HX0
          clear HX0
          have bx := below_alloc (w := w18) (.cells #[.int .u8 97, .int .u8 45, .int .u8 49] 5 (3, 4))
          have LK := implLabelOk_has (unhide HX)
          rw [show labelOk [97, 45, 49] = true by decide] at LK
          replace LK := hide LK
          go_wp2_with fail
          refine (unhide LK).mono ?_
          rintro e w19 ⟨rfl, rfl⟩
          go_wp2_with fail
          go_ret
          exact ⟨rfl, below_next bb bx⟩
end Go.Proofs.Ytaconefooicplaa
