/-
  Contracts of the program's data: what each kind reads.
-/
import Derived.Test.YthmihglfffeedaaGreatDoorFnRecordsG24
import Derived.Test.YthmihglfffeedaaGreatDoorFnRecordsG41
import Derived.Test.YthmihglfffeedaaGreatDoorFnRecordsG32
import Derived.Test.YthmihglfffeedaaGreatDoorFnRecordsG12
namespace Go.Proofs.YthmihglfffeedaaGreatDoor
open Go.RowKit
set_option linter.unusedVariables false
set_option maxHeartbeats 800000
set_option maxRecDepth 100000

theorem addrGet_own {B : Nat} {v : Value} {l : List Int} (x p : Int) {w : World} (h : Own B 5 w v l) (hl : l.length ≤ 512) (hp : p ≤ 9223372036854775807) (hb : Bytes8 l) :
  Calls Tryz.prog 122 #[.agg #[.int .i64 x], v, .int .i64 p] w fun e w' => e = .returned (.tuple #[.iface 85 (.agg #[.int .i64 (get32 l p).1]), .int .i64 (get32 l p).2]) ∧ Below w.heap.size w w' := by
 have b0 := UI (w := w) (.cells #[.int .i64 x] 85)
 have HG := UC (implGet32_any p (h.below b0) (by omega) hp hb)
 obtain ⟨a, cap, rfl, _⟩ := h.lies
 generalize (get32 l p).1 = g1 at *
 generalize (get32 l p).2 = g2 at *
 clear h
 go_enter Tryz.func122, Tryz.ntmps122
 go_wp2_with fail
 refine (UB HG).mono ?_
 rintro e w1 ⟨rfl, b1⟩
 go_wp2_with fail
 go_ret2
 exact ⟨rfl, UG b0 b1⟩

theorem nameGetM_own {B : Nat} {v x : Value} {l : List Int} (p : Int) {w : World} (h : Own B 5 w v l) (hl : l.length ≤ 512) (hp : p ≤ 9223372036854775807) (hb : Bytes8 l) :
  Calls Tryz.prog 127 #[.agg #[.slice none 0 0], v, .int .i64 p] w fun e w' => ∃ v', e = .returned (.tuple #[.iface 87 (.agg #[v']), .int .i64 (nameGet l p).2]) ∧ OwnL w.heap.size 22 5 w' v' (nameGet l p).1 ∧ Below w.heap.size w w' := by
 have b0 := UI (w := w) (.cells #[.slice none 0 0] 87)
 have HG := UC (implNameGet_own p (h.below b0) (by omega) hp hb)
 obtain ⟨a, cap, rfl, _⟩ := h.lies
 generalize (nameGet l p).1 = g1 at *
 generalize (nameGet l p).2 = g2 at *
 clear h
 go_enter Tryz.func127, Tryz.ntmps127
 go_wp2_with fail
 refine (UB HG).mono ?_
 rintro e w1 ⟨v1, rfl, o1, b1⟩
 obtain ⟨oa, oc, rfl, _⟩ := o1.hasL.form
 have b2 := UI (w := w1) (.cells #[.slice oa g1.length oc] 25)
 have O2 := UC (o1.below b2)
 have c2 := US (heap_alloc_new w1 (.cells #[.slice oa g1.length oc] 25))
 have z0 := b0.size
 clear o1
 go_wp2_with fail
 go_ret2
 exact ⟨_, rfl, (UB O2).mono (by omega), UG (UG b0 b1) b2⟩

theorem soaGet_own {B : Nat} {v : Value} {l : List Int} (p : Int) {w : World} (h : Own B 5 w v l) (hl : l.length ≤ 512) (hp : p ≤ 9223372036854775807) (hb : Bytes8 l) :
  Calls Tryz.prog 131 #[.agg #[.slice none 0 0, .slice none 0 0], v, .int .i64 p] w fun e w' => ∃ v' u' s, e = .returned (.tuple #[.iface 89 (.agg #[v', u']), .int .i64 (get32 l (get32 l (nameGet l p).2).2).2]) ∧ w.heap.size ≤ s ∧ s ≤ w'.heap.size ∧ OwnN w.heap.size s 22 5 w' v' (nameGet l p).1 ∧ OwnBI s w'.heap.size 3 w' u' [(get32 l (nameGet l p).2).1, (get32 l (get32 l (nameGet l p).2).2).1] ∧ Below w.heap.size w w' := by
 have b0 := UI (w := w) (.cells #[.slice none 0 0, .slice none 0 0] 89)
 have HG := UC (implNameGet_own p (h.below b0) (by omega) hp hb)
 have e1 := nameGet_end l p
 have e2 := get32_end l (nameGet l p).2
 have H0 := UC (h.below b0)
 obtain ⟨a, cap, rfl, _⟩ := h.lies
 have H32 := UC (fun (w : World) (q : Int) (hq : q ≤ 9223372036854775807) (h : Own B 5 w (.slice a l.length cap) l) => implGet32_any q h (by omega) hq hb)
 have P1 := UC (fun (w : World) (h : Own B 5 w (.slice a l.length cap) l) => UB H32 w (nameGet l p).2 (by omega) h)
 have P2 := UC (fun (w : World) (h : Own B 5 w (.slice a l.length cap) l) => UB H32 w (get32 l (nameGet l p).2).2 (by omega) h)
 clear H32 h
 generalize (get32 l (get32 l (nameGet l p).2).2).1 = y1 at *
 generalize (get32 l (get32 l (nameGet l p).2).2).2 = y2 at *
 generalize (get32 l (nameGet l p).2).1 = x1 at *
 generalize (get32 l (nameGet l p).2).2 = x2 at *
 generalize (nameGet l p).1 = g1 at *
 generalize (nameGet l p).2 = g2 at *
 go_enter Tryz.func131, Tryz.ntmps131
 go_wp2_with fail
 generalize w.alloc (.cells #[.slice none 0 0, .slice none 0 0] 89) = W at *
 refine (UB HG).mono ?_
 rintro e w1 ⟨v1, rfl, o1, b1⟩
 obtain ⟨oa, oc, rfl, _⟩ := o1.hasL.form
 have b2 := UI (w := w1) (.cells #[.slice oa g1.length oc] 25)
 have K2 := UC (heap_alloc_new w1 (.cells #[.slice oa g1.length oc] 25))
 have O2 := UC (o1.below b2)
 have A2 := UC (((UB H0).below b1).below b2)
 have bb2 := UG (UG b0 b1) b2
 have z0 := b0.size
 have z1 := b1.size
 have z2 := b2.size
 clear o1 b1 b2 H0
 go_wp2_with fail
 generalize w1.alloc (.cells #[.slice oa g1.length oc] 25) = w2 at *
 have zk := VC (UB K2)
 refine (UB P1 _ (UB A2)).mono ?_
 rintro e w3 ⟨rfl, b3⟩
 have K3 := UC (UE b3 (UB K2))
 have O3 := UC ((UB O2).below b3)
 have A3 := UC ((UB A2).below b3)
 have bb3 := UG bb2 b3
 have z3 := b3.size
 clear K2 O2 A2 b3 bb2
 go_wp2_with fail
 refine (UB P2 _ (UB A3)).mono ?_
 rintro e w4 ⟨rfl, b4⟩
 have c4 := US (UE b4 (UB K3))
 have O4 := UC ((UB O3).below b4)
 have bb4 := UG bb3 b4
 have z4 := b4.size
 clear K3 O3 A3 b4 bb3
 have b5 := UI (w := w4) (.cells #[.int .i64 x1, .int .i64 y1] 3)
 have ca5 : ∀ o, (w4.alloc o).cell? ⟨w1.heap.size, 0, none⟩ = some (.slice oa g1.length oc) := fun o => ((UI (w := w4) o).cell (p := ⟨w1.heap.size, 0, none⟩) (by show w1.heap.size < w4.heap.size; omega)).trans c4
 have I5 := UC (own_litI2 w4 w4.heap.size 3 x1 y1 (Nat.le_refl _))
 have z5 := b5.size
 go_wp2_with fail
 go_ret2
 exact ⟨_, _, w4.heap.size, rfl, by omega, by omega, ((UB O4).here.wide (by omega) (Nat.le_refl _)).below b5, (UB I5).here, UG bb4 b5⟩

theorem textGet_own {B : Nat} {v : Value} {l : List Int} (p : Int) {w : World} (h : Own B 5 w v l) (hl : l.length ≤ 512) (hp : p ≤ 9223372036854775807) (hb : Bytes8 l) :
  Calls Tryz.prog 135 #[.agg #[.slice none 0 0], v, .int .i64 p] w fun e w' => ∃ v', e = .returned (.tuple #[.iface 91 (.agg #[v']), .int .i64 (countedOf l p).2]) ∧ Own w.heap.size 5 w' v' (countedOf l p).1 ∧ Below w.heap.size w w' := by
 have b0 := UI (w := w) (.cells #[.slice none 0 0] 91)
 have HG := UC (countedGet_own p (h.below b0) (by omega) hp hb)
 obtain ⟨a, cap, rfl, _⟩ := h.lies
 generalize (countedOf l p).1 = g1 at *
 generalize (countedOf l p).2 = g2 at *
 clear h
 go_enter Tryz.func135, Tryz.ntmps135
 go_wp2_with fail
 refine (UB HG).mono ?_
 rintro e w1 ⟨v1, rfl, o1, b1⟩
 obtain ⟨oa, oc, rfl, _⟩ := o1.lies
 have z0 := b0.size
 have O1 := UC o1
 clear o1
 go_wp2_with fail
 go_ret2
 exact ⟨_, rfl, (UB O1).mono (by omega), UG b0 b1⟩
end Go.Proofs.YthmihglfffeedaaGreatDoor
