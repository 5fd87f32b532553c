/-
  Contracts of the program's RrPut. Plain facts: an own row of bytes, wherever. Contracts of the program's own helper allThere: are n bytes there from a place on? Contracts of the program's Get16. Contracts of the program's Take. Contracts of the program's countedGet, pointerGet and labelGet.
-/
import Derived.Test.YthmihglfffeedaaGreatDoorFnRecordsG39
import Derived.Test.YthmihglfffeedaaGreatDoorFnRecordsG03
import Derived.Test.YthmihglfffeedaaGreatDoorFnRecordsG00
import Derived.Test.YthmihglfffeedaaGreatDoorFnRecordsG28
import Derived.Test.YthmihglfffeedaaGreatDoorFnRecordsG05
import Derived.Test.YthmihglfffeedaaGreatDoorFnRecordsG29
namespace Go.Proofs.YthmihglfffeedaaGreatDoor
open Go.RowKit
set_option linter.unusedVariables false
set_option maxHeartbeats 2000000
set_option maxRecDepth 100000

theorem implRrPut_yes {vb vn vt vx vi : Value} {l : List Int} {r : Rec} {w : World} (hvb : Has w vb l) (hl : l.length ≤ 1048576) (h : HasR w vn vt vx vi r) (hok : rrOk r = true) :
  Calls Tryz.prog 5 #[vb, .agg #[vn, .int .i64 r.type, .int .i64 r.ttl, .int .i64 r.addr, vt, vx, vi]] w fun e w' => ∃ v', e = .returned (.tuple #[v', .bool true]) ∧ Own w.heap.size 5 w' v' (rrB l r) ∧ Below w.heap.size w w' := by
 obtain ⟨na, nc, rfl, _⟩ := h.name.form
 obtain ⟨ta, tc, rfl, _⟩ := h.to.form
 obtain ⟨xa, xc, rfl, _⟩ := h.text.form
 obtain ⟨ia, ic, rfl, _⟩ := h.nums.form
 have bb0 := UI (w := w) (.cells #[.slice na r.name.length nc, .int .i64 r.type, .int .i64 r.ttl, .int .i64 r.addr, .slice ta r.to.length tc, .slice xa r.text.length xc, .slice ia r.nums.length ic] 28)
 have K0 := UC (heap_alloc_new w (.cells #[.slice na r.name.length nc, .int .i64 r.type, .int .i64 r.ttl, .int .i64 r.addr, .slice ta r.to.length tc, .slice xa r.text.length xc, .slice ia r.nums.length ic] 28))
 have H0 := UC (h.below bb0)
 have V0 := UC (hvb.below bb0)
 have hno := (rrOk_parts hok).1
 have q2 := dataB_length hok
 have HP := UC (fun (w : World) (vn vt vx vi : Value) (h : HasR w vn vt vx vi r) => implDataPut_yes h hok)
 have HC := UC (fun (w : World) (vd vn vt vx vi : Value) (h0 : Has w vb l) (h : HasR w vn vt vx vi r) (hd : Has w vd (dataB r)) => classPut_has 1 h0 hl h hno hd (by omega))
 have hB : classB l r 1 (dataB r) = rrB l r := rfl
 rw [hB] at HC
 generalize rrB l r = G4 at *
 generalize dataB r = D at *
 clear h hvb hok hno hB
 go_enter Tryz.func5, Tryz.ntmps5
 go_wp2_with fail
 generalize w.alloc (.cells #[.slice na r.name.length nc, .int .i64 r.type, .int .i64 r.ttl, .int .i64 r.addr, .slice ta r.to.length tc, .slice xa r.text.length xc, .slice ia r.nums.length ic] 28) = W at *
 refine (UB HP _ _ _ _ _ (UB H0)).mono ?_
 rintro e w1 ⟨y1, rfl, o1, b1⟩
 obtain ⟨ya, yc, rfl, _⟩ := o1.lies
 have bb1 := UG bb0 b1
 have K1 := UC (UE b1 (UB K0))
 have H1 := UC ((UB H0).below b1)
 have V1 := UC ((UB V0).below b1)
 have Y1 := UC o1.has
 have z0 := bb0.size
 have z1 := b1.size
 clear bb0 K0 H0 V0 b1 o1
 obtain ⟨d0, d1, d2, d3, d4, d5, d6⟩ := UJ (UB K1)
 go_wp2_with fail
 clear d0 d1 d2 d3 d4 d5 d6
 refine (UB HC _ _ _ _ _ _ (UB V1) (UB H1) (UB Y1)).mono ?_
 rintro e w2 ⟨v2, rfl, o2, b2⟩
 go_wp2_with fail
 go_ret2
 exact ⟨v2, rfl, o2.mono (by omega), UG bb1 b2⟩

theorem implRrPut_no {vb vn vt vx vi : Value} {r : Rec} {w : World} (h : HasR w vn vt vx vi r) (hok : rrOk r = false) :
  Calls Tryz.prog 5 #[vb, .agg #[vn, .int .i64 r.type, .int .i64 r.ttl, .int .i64 r.addr, vt, vx, vi]] w fun e w' => ∃ v', e = .returned (.tuple #[v', .bool false]) ∧ Own w.heap.size 5 w' v' [] ∧ Below w.heap.size w w' := by
 obtain ⟨na, nc, rfl, _⟩ := h.name.form
 obtain ⟨ta, tc, rfl, _⟩ := h.to.form
 obtain ⟨xa, xc, rfl, _⟩ := h.text.form
 obtain ⟨ia, ic, rfl, _⟩ := h.nums.form
 have b0 := UI (w := w) (.cells #[.slice na r.name.length nc, .int .i64 r.type, .int .i64 r.ttl, .int .i64 r.addr, .slice ta r.to.length tc, .slice xa r.text.length xc, .slice ia r.nums.length ic] 28)
 have HO := UC (implDataPut_no (h.below b0) hok)
 clear h hok
 go_enter Tryz.func5, Tryz.ntmps5
 go_wp2_with fail
 refine (UB HO).mono ?_
 rintro e w1 ⟨v1, rfl, _, b1⟩
 go_wp2_with fail
 go_ret2
 exact ⟨_, rfl, World.ownsRow_nil _ _ _ _, UG b0 b1⟩

theorem implRrPut_has {vb vn vt vx vi : Value} {l : List Int} {r : Rec} {w : World} (hvb : Has w vb l) (hl : l.length ≤ 1048576) (h : HasR w vn vt vx vi r) :
  Calls Tryz.prog 5 #[vb, .agg #[vn, .int .i64 r.type, .int .i64 r.ttl, .int .i64 r.addr, vt, vx, vi]] w fun e w' => ∃ v', e = .returned (.tuple #[v', .bool (rrPut l r).2]) ∧ Own w.heap.size 5 w' v' (rrPut l r).1 ∧ Below w.heap.size w w' := by
 cases hok : rrOk r with
 | true => rw [rrPut_yes hok]; exact implRrPut_yes hvb hl h hok
 | false => rw [rrPut_no hok]; exact implRrPut_no h hok
def Row8 (w : World) (v : Value) (l : List Int) : Prop := ∃ B, Own B 5 w v l
theorem Row8.below {w w' : World} {v : Value} {l : List Int} (h : Row8 w v l) (hb : Below w.heap.size w w') : Row8 w' v l := h.elim fun B h => ⟨B, h.below hb⟩
theorem Row8.has {w : World} {v : Value} {l : List Int} (h : Row8 w v l) : Has w v l := h.elim fun B h => h.has
set_option maxHeartbeats 400000
set_option maxRecDepth 100000

theorem allThere_yes (a : Option Addr) (len cap : Nat) (at' n : Int) (w : World) (hl : len ≤ 2097152) (h0 : 0 ≤ at') (hn : 0 ≤ n) (h : n ≤ len - at') :
  Calls Tryz.prog 75 #[.slice a len cap, .int .i64 at', .int .i64 n] w fun e w' => e = .returned (.bool true) ∧ w = w' := by
 go_enter Tryz.func75, Tryz.ntmps75
 go_wp2
 go_ret
 exact ⟨rfl, rfl⟩

theorem allThere_no (a : Option Addr) (len cap : Nat) (at' n : Int) (w : World) (hl : len ≤ 2097152) (hat : at' ≤ 9223372036854775807) (h : at' < 0 ∨ n < 0 ∨ len - at' < n) :
  Calls Tryz.prog 75 #[.slice a len cap, .int .i64 at', .int .i64 n] w fun e w' => e = .returned (.bool false) ∧ w = w' := by
 by_cases h0 : at' < 0
 ·go_enter Tryz.func75, Tryz.ntmps75
  go_wp2
  go_ret
  exact ⟨rfl, rfl⟩
 ·by_cases h1 : n < 0
  ·go_enter Tryz.func75, Tryz.ntmps75
   go_wp2
   go_ret
   exact ⟨rfl, rfl⟩
  ·have h2 : decide (n ≤ (len : Int) - at') = false := by simp; omega
   go_enter Tryz.func75, Tryz.ntmps75
   go_wp2
   go_ret
   exact ⟨rfl, rfl⟩
set_option maxHeartbeats 400000
set_option maxRecDepth 100000

theorem implGet16_no (a : Option Addr) (len cap : Nat) (at' : Int) (w : World) (hl : len ≤ 2097152) (hat : at' ≤ 9223372036854775807) (h : at' < 0 ∨ (len : Int) - 2 < at') :
  Calls Tryz.prog 57 #[.slice a len cap, .int .i64 at'] w fun e w' => e = .returned (.tuple #[.int .i64 0, .int .i64 (-1)]) ∧ w = w' := by
 go_enter Tryz.func57, Tryz.ntmps57
 go_wp2_with (go_at_call 75; refine (allThere_no _ _ _ _ _ _ hl hat (by omega)).mono ?_; rintro e w' ⟨rfl, rfl⟩)
 go_ret2
 exact ⟨rfl, rfl⟩

theorem implGet16_yes (a : Option Addr) (cap : Nat) (l : List Int) (i : Nat) (w : World) (hl : l.length ≤ 2097152) (h : Lies w a l) (hi : i + 2 ≤ l.length) (hb : ∀ k, 0 ≤ l.getD k 0 ∧ l.getD k 0 ≤ 255) :
  Calls Tryz.prog 57 #[.slice a l.length cap, .int .i64 i] w fun e w' => e = .returned (.tuple #[.int .i64 (l.getD i 0 * 256 + l.getD (i + 1) 0), .int .i64 (i + 2)]) ∧ ∃ n, w' = w.drewN n := by
 obtain ⟨b, off, rfl, hlt, hc⟩ := h.here (k := i) (by omega)
 obtain ⟨b', off', e, hlt', hc'⟩ := h.here (k := i + 1) (by omega)
 simp at e
 obtain ⟨rfl, rfl⟩ := e
 have hx := hb i
 have hy := hb (i + 1)
 generalize l.getD i 0 = x at *
 generalize l.getD (i + 1) 0 = y at *
 clear hb
 generalize hn : l.length = n at *
 have HN := UC hn
 clear hn
 go_enter Tryz.func57, Tryz.ntmps57
 go_wp2_with (go_at_call 75; refine (allThere_yes _ _ _ _ _ _ hl (by omega) (by omega) (by omega)).mono ?_; rintro e w' ⟨rfl, rfl⟩)
 go_quiet (fail)
 go_wp2
 go_ret2
 exact ⟨ret2_int (or_8 x y (by omega) (by omega) (by omega) (by omega)) rfl, _, rfl⟩

theorem implGet16_any {B : Nat} {v : Value} {l : List Int} (p : Int) {w : World} (h : Own B 5 w v l) (hl : l.length ≤ 2097152) (hp' : p ≤ 9223372036854775807) (hb : ∀ k, 0 ≤ l.getD k 0 ∧ l.getD k 0 ≤ 255) :
  Calls Tryz.prog 57 #[v, .int .i64 p] w fun e w' => e = .returned (.tuple #[.int .i64 (get16 l p).1, .int .i64 (get16 l p).2]) ∧ Below w.heap.size w w' := by
 obtain ⟨a, cap, rfl, hL⟩ := h.lies
 by_cases hp : 0 ≤ p ∧ p + 2 ≤ l.length
 ·obtain ⟨i, rfl⟩ := Int.eq_ofNat_of_zero_le hp.1
  have e : get16 l i = (l.getD i 0 * 256 + l.getD (i + 1) 0, (i : Int) + 2) := by unfold get16; rw [if_pos hp]; rfl
  rw [e]
  refine (implGet16_yes a cap l i w hl hL (by omega) hb).mono ?_
  rintro e w' ⟨rfl, n, rfl⟩
  exact ⟨rfl, below_draws n⟩
 ·have e : get16 l p = (0, -1) := by unfold get16; rw [if_neg hp]
  rw [e]
  exact (implGet16_no a l.length cap p w hl hp' (by omega)).mono fun e w' ⟨he, hw⟩ => ⟨he, hw ▸ Below.refl _ _⟩
set_option maxHeartbeats 400000
set_option maxRecDepth 100000

theorem implTake_yes (B g cap : Nat) (l : List Int) (i m : Nat) (w : World) (h : Own B 5 w (.slice (some ⟨g, 0, none⟩) l.length cap) l) (hc : l.length ≤ cap) (hl : l.length ≤ 1048576) (hi : i + m ≤ l.length) :
  Calls Tryz.prog 96 #[.slice (some ⟨g, 0, none⟩) l.length cap, .int .i64 i, .int .i64 m] w fun e w' => ∃ v', e = .returned (.tuple #[v', .int .i64 (i + m)]) ∧ Own w.heap.size 5 w' v' ((l.drop i).take m) ∧ Below w.heap.size w w' := by
 have hl2 : l.length ≤ 2097152 := by omega
 generalize hn : l.length = n at *
 have HN := UC hn
 clear hn
 have H := UC h
 clear h
 go_enter Tryz.func96, Tryz.ntmps96
 go_wp2_with (go_at_call 75; refine (allThere_yes _ _ _ _ _ _ hl2 (by omega) (by omega) (by omega)).mono ?_; rintro e w' ⟨rfl, rfl⟩)
 all_goals
  refine (copyBytes_reads (sub_reads (UB H) (UB HN) hi _ _ (by omega)) (by simp; omega)).mono ?_
  rintro e w1 ⟨v1, rfl, o1, b1⟩
  go_wp2
  go_ret2
  exact ⟨v1, rfl, o1, b1⟩

theorem implTake_nil (w : World) :
  Calls Tryz.prog 96 #[.slice none 0 0, .int .i64 0, .int .i64 0] w fun e w' => ∃ v', e = .returned (.tuple #[v', .int .i64 0]) ∧ Own w.heap.size 5 w' v' [] ∧ Below w.heap.size w w' := by
 go_enter Tryz.func96, Tryz.ntmps96
 go_wp2_with (go_at_call 75; refine (allThere_yes _ _ _ _ _ _ (by omega) (by omega) (by omega) (by omega)).mono ?_; rintro e w' ⟨rfl, rfl⟩)
 refine (copyBytes_reads (.inl ⟨rfl, rfl⟩) (by simp)).mono ?_
 rintro e w1 ⟨v1, rfl, o1, b1⟩
 go_wp2
 go_ret2
 exact ⟨v1, rfl, o1, b1⟩

theorem implTake_no (a : Option Addr) (len cap : Nat) (p m : Int) (w : World) (hl : len ≤ 2097152) (hp : p ≤ 9223372036854775807) (h : ¬ (0 ≤ p ∧ 0 ≤ m ∧ p + m ≤ len)) :
  Calls Tryz.prog 96 #[.slice a len cap, .int .i64 p, .int .i64 m] w fun e w' => e = .returned (.tuple #[.slice none 0 0, .int .i64 (-1)]) ∧ w = w' := by
 go_enter Tryz.func96, Tryz.ntmps96
 go_wp2_with (go_at_call 75; refine (allThere_no _ _ _ _ _ _ hl hp (by omega)).mono ?_; rintro e w' ⟨rfl, rfl⟩)
 go_ret2
 exact ⟨rfl, rfl⟩

theorem implTake_any {B : Nat} {v : Value} {l : List Int} (p m : Int) {w : World} (h : Own B 5 w v l) (hl : l.length ≤ 1048576) (hp : p ≤ 9223372036854775807) :
  Calls Tryz.prog 96 #[v, .int .i64 p, .int .i64 m] w fun e w' => ∃ v', e = .returned (.tuple #[v', .int .i64 (takeOf l p m).2]) ∧ Own w.heap.size 5 w' v' (takeOf l p m).1 ∧ Below w.heap.size w w' := by
 by_cases hc : 0 ≤ p ∧ 0 ≤ m ∧ p + m ≤ l.length
 ·obtain ⟨i, rfl⟩ := Int.eq_ofNat_of_zero_le hc.1
  obtain ⟨k, rfl⟩ := Int.eq_ofNat_of_zero_le hc.2.1
  rw [takeOf_yes (by omega)]
  rcases h.form with ⟨rfl, rfl⟩ | ⟨g, cap, rfl, _, _, hcap, _⟩
  ·have hi : i = 0 := by simp at hc; omega
   have hk : k = 0 := by simp at hc; omega
   subst hi hk
   exact implTake_nil w
  ·exact implTake_yes B g cap l i k w h hcap hl (by omega)
 ·rw [takeOf_no hc]
  obtain ⟨a, cap, rfl, _⟩ := h.lies
  refine (implTake_no a l.length cap p m w (by omega) hp hc).mono fun e w' ⟨he, hw⟩ => ?_
  subst hw
  exact ⟨_, he, World.ownsRow_nil _ _ _ _, Below.refl _ _⟩
set_option maxHeartbeats 800000
set_option maxRecDepth 100000

theorem countedGet_own {B : Nat} {v : Value} {l : List Int} (p : Int) {w : World} (h : Own B 5 w v l) (hl : l.length ≤ 1048576) (hp : p ≤ 9223372036854775807) (hb : Bytes8 l) :
  Calls Tryz.prog 87 #[v, .int .i64 p] w fun e w' => ∃ v', e = .returned (.tuple #[v', .int .i64 (countedOf l p).2]) ∧ Own w.heap.size 5 w' v' (countedOf l p).1 ∧ Below w.heap.size w w' := by
 by_cases hc : 0 ≤ p ∧ p + 1 ≤ l.length
 ·obtain ⟨i, rfl⟩ := Int.eq_ofNat_of_zero_le hc.1
  have e1 : takeOf l i 1 = ([l.getD i 0], (i : Int) + 1) := by
   have := takeOf_yes (l := l) (i := i) (m := 1) (by omega)
   rw [show ((1 : Nat) : Int) = 1 from rfl] at this
   rw [this]
   congr 1
   have hi : i < l.length := by omega
   rw [List.drop_eq_getElem_cons hi, List.take_succ_cons, List.take_zero, List.getD_eq_getElem?_getD, List.getElem?_eq_getElem hi]
   rfl
  have hq : countedOf l i = takeOf l ((i : Int) + 1) (l.getD i 0) := by
   unfold countedOf; rw [e1]; rw [if_neg (by show ¬ (i : Int) + 1 < 0; omega)]; simp
  rw [hq]
  have hx := hb i
  have ht1 := implTake_any (i : Int) 1 h hl hp
  rw [e1] at ht1
  generalize l.getD i 0 = x at *
  have T1 := UC ht1
  have H := UC h
  clear ht1 hq e1 h hb
  generalize hR : takeOf l ((i : Int) + 1) x = R
  have HR := UC hR
  clear hR
  go_enter Tryz.func87, Tryz.ntmps87
  go_wp2_with fail
  refine (UB T1).mono ?_
  rintro e w1 ⟨v1, rfl, o1, b1⟩
  have h1 := UC ((UB H).below b1)
  rcases o1.form with ⟨_, he⟩ | ⟨g, cap, rfl, hg0, hg, hcap, _, hcx, _⟩
  ·simp at he
  have c0 : w1.cell? ⟨g, 0, none⟩ = some (.int .u8 x) := hcx 0 (by simp)
  clear hcx o1
  go_wp2_with fail
  refine (implTake_any ((i : Int) + 1) x (UB h1) hl (by omega)).mono ?_
  rw [UB HR]
  rintro e w2 ⟨v2, rfl, o2, b2⟩
  go_wp2
  go_ret2
  exact ⟨v2, rfl, o2.mono b1.size, UG b1 b2⟩
 ·have e1 : takeOf l p 1 = ([], -1) := takeOf_no (by omega)
  have hq : countedOf l p = ([], -1) := by unfold countedOf; rw [e1]; rfl
  rw [hq]
  have ht1 := implTake_any p 1 h hl hp
  rw [e1] at ht1
  have T1 := UC ht1
  clear ht1 hq e1 h hb
  go_enter Tryz.func87, Tryz.ntmps87
  go_wp2_with fail
  refine (UB T1).mono ?_
  rintro e w1 ⟨v1, rfl, o1, b1⟩
  go_wp2
  go_ret2
  exact ⟨_, rfl, World.ownsRow_nil _ _ _ _, b1⟩

theorem pointerGet_own {B : Nat} {v : Value} {l : List Int} (p : Int) {w : World} (h : Own B 5 w v l) (hl : l.length ≤ 1048576) (hp : p ≤ 9223372036854775807) (hb : Bytes8 l) :
  Calls Tryz.prog 72 #[v, .int .i64 p] w fun e w' => e = .returned (.tuple #[.int .i64 (pointerOf l p).1, .int .i64 (pointerOf l p).2]) ∧ Below w.heap.size w w' := by
 have hG := implGet16_any p h (by omega) hp hb
 have hbd := get16_bound hb p
 have hP : pointerOf l p = if (get16 l p).2 < 0 ∨ (get16 l p).1 < 49152 ∨ p ≤ (get16 l p).1 - 49152 then (0, -1) else ((get16 l p).1 - 49152, (get16 l p).2) := rfl
 rw [hP]
 generalize (get16 l p).1 = a at *
 generalize (get16 l p).2 = b at *
 have G := UC hG
 clear hG hP
 by_cases h1 : b < 0
 ·rw [if_pos (.inl h1)]
  go_enter Tryz.func72, Tryz.ntmps72
  go_wp2_with fail
  refine (UB G).mono ?_
  rintro e w1 ⟨rfl, b1⟩
  go_wp2
  go_ret2
  exact ⟨rfl, b1⟩
 ·by_cases h2 : a < 49152
  ·rw [if_pos (.inr (.inl h2))]
   go_enter Tryz.func72, Tryz.ntmps72
   go_wp2_with fail
   refine (UB G).mono ?_
   rintro e w1 ⟨rfl, b1⟩
   go_wp2
   go_ret2
   exact ⟨rfl, b1⟩
  ·by_cases h3 : p ≤ a - 49152
   ·rw [if_pos (.inr (.inr h3))]
    go_enter Tryz.func72, Tryz.ntmps72
    go_wp2_with fail
    refine (UB G).mono ?_
    rintro e w1 ⟨rfl, b1⟩
    go_wp2
    go_ret2
    exact ⟨rfl, b1⟩
   ·rw [if_neg (by omega)]
    go_enter Tryz.func72, Tryz.ntmps72
    go_wp2_with fail
    refine (UB G).mono ?_
    rintro e w1 ⟨rfl, b1⟩
    go_wp2
    go_ret2
    exact ⟨rfl, b1⟩

theorem labelGet_own {B : Nat} {v : Value} {l : List Int} (p : Int) {w : World} (h : Own B 5 w v l) (hl : l.length ≤ 1048576) (hp : p ≤ 9223372036854775807) (hb : Bytes8 l) :
  Calls Tryz.prog 73 #[v, .int .i64 p] w fun e w' => ∃ v', e = .returned (.tuple #[v', .int .i64 (labelOf l p).2]) ∧ Own w.heap.size 5 w' v' (labelOf l p).1 ∧ Below w.heap.size w w' := by
 have hC := countedGet_own p h hl hp hb
 have hb8 : Bytes8 (countedOf l p).1 := by
  unfold countedOf; split
  ·intro k; simp
  ·exact bytes8_take hb _ _
 have hP : labelOf l p = if 15 < (countedOf l p).1.length then ([], -1) else (lowered (countedOf l p).1 (countedOf l p).1.length, (countedOf l p).2) := rfl
 rw [hP]
 generalize (countedOf l p).1 = t at *
 generalize (countedOf l p).2 = b at *
 have C := UC hC
 have B8 := UC hb8
 clear hC hP hb8 hb h
 by_cases h1 : 15 < t.length
 ·rw [if_pos h1]
  go_enter Tryz.func73, Tryz.ntmps73
  go_wp2_with fail
  refine (UB C).mono ?_
  rintro e w1 ⟨v1, rfl, o1, b1⟩
  obtain ⟨a1, c1, rfl, _⟩ := o1.lies
  have hm := o1.has.bound
  unfold maxLen at hm
  clear o1
  go_wp2
  go_ret2
  exact ⟨_, rfl, World.ownsRow_nil _ _ _ _, b1⟩
 ·rw [if_neg h1]
  go_enter Tryz.func73, Tryz.ntmps73
  go_wp2_with fail
  refine (UB C).mono ?_
  rintro e w1 ⟨v1, rfl, o1, b1⟩
  have O1 := UC o1
  obtain ⟨a1, c1, rfl, _⟩ := o1.lies
  clear o1
  go_wp2_with fail
  refine (implLower_any (UB O1) (by omega) (UB B8)).mono ?_
  rintro e w2 ⟨v2, rfl, o2, b2⟩
  go_wp2
  go_ret2
  exact ⟨v2, rfl, o2.mono b1.size, UG b1 b2⟩
end Go.Proofs.YthmihglfffeedaaGreatDoor
