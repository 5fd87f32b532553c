/-
  A region that draws its order, one way through it: what only looks is taken in the order of its number, whether its guard wants it or not. Contract of the program's isSet.
-/
import Derived.Test.YtaehfeobfkaicaaGreatCacheGetG05
import Derived.Deep.RegionHeld3
import Derived.Test.YtaehfeobfkaicaaGreatCacheGetG15
import Derived.Test.YtaehfeobfkaicaaGreatCacheGetG18
import Derived.Test.YtaehfeobfkaicaaGreatCacheGetG19
namespace Go.Proofs.YtaehfeobfkaicaaGreat
open Go.RowKit
set_option linter.unusedVariables false

def nextF : List Bool → Nat
 | true :: l => nextF l + 1
 | _ => 0
def setF : List Bool → List Bool
 | true :: l => true :: setF l
 | false :: l => true :: l
 | [] => []
def dropF {α : Type} : List Bool → List α → List α
 | true :: l, _ :: m => dropF l m
 | _, m => m
theorem setF_eq : ∀ l : List Bool, l.set (nextF l) true = setF l
 | [] => rfl
 | false :: _ => rfl
 | true :: l => by simp [nextF, setF, setF_eq l]
theorem dropF_get {α : Type} {o : α} {r : List α} : ∀ (l : List Bool) (m : List α), dropF l m = o :: r → m[nextF l]? = some o
 | [], m, h => by simp only [dropF] at h; subst h; rfl
 | false :: _, m, h => by simp only [dropF] at h; subst h; rfl
 | true :: l, [], h => by simp only [dropF] at h; cases h
 | true :: l, _ :: m, h => by simp only [dropF] at h; simpa [nextF] using dropF_get l m h
def callsF : Op → Bool
 | .call _ => true
 | _ => false

section
variable {P : Program} {ops : Array Oper} {Q : Exit → Act → World → Prop} {md : Region.Mode} {S : World → Prop}
theorem ops_next {l : List Bool} {oi : Oper} {rest : List Oper} (hi : dropF l ops.toList = oi :: rest) : ops[nextF l]? = some oi := by
 have := dropF_get l ops.toList hi
 rwa [Array.getElem?_toList] at this
theorem UY {i : Nat} {oi : Oper} {rest : List Oper} (hi : ops.toList.drop i = oi :: rest) : ops[i]? = some oi := by
 rw [← Array.getElem?_toList, ← List.head?_drop, hi]
 rfl
theorem listed_next (l : List Bool) : l.toArray.setIfInBounds (nextF l) true = (setF l).toArray := by
 rw [List.setIfInBounds_toArray, setF_eq]
theorem tkF (v : Value) {oi : Oper} {rest : List Oper} {fuel : Nat} {l : List Bool} {a : Act} {w : World} (hi : dropF l ops.toList = oi :: rest)
  (hk : (!callsF oi.op && Region.noSelect ops && Region.free md ops l.toArray (nextF l) && (Region.ready md ops l.toArray).contains (nextF l)) = true)
  (hb : Region.wanted oi (yielded ops a.tmps) = true) (hQ : ∀ c a w, Q (.panic c) (a.put oi.dst v) w → Q (.panic c) a w)
  (hy : ∀ w, S w → (execOp a.eval oi).run P w = .ok (.value v) w) (hS : S w)
  (h : wpAnyH P md ops Q S fuel (setF l).toArray (a.put oi.dst v) w) : wpAnyH P md ops Q S (fuel + 1) l.toArray a w := by
 simp only [Bool.and_eq_true] at hk
 refine wpAnyH_take (ops_next hi) hk.1.1.2 hk.1.2 hk.2 hQ (Or.inl ⟨hb, hy⟩) hS ?_
 rw [listed_next]
 exact h
theorem skF {oi : Oper} {rest : List Oper} {fuel : Nat} {l : List Bool} {a : Act} {w : World} (hi : dropF l ops.toList = oi :: rest)
  (hk : (Region.noSelect ops && Region.free md ops l.toArray (nextF l) && (Region.ready md ops l.toArray).contains (nextF l)) = true)
  (hb : Region.wanted oi (yielded ops a.tmps) = false) (hQ : ∀ c a w, Q (.panic c) (a.put oi.dst undef) w → Q (.panic c) a w) (hS : S w)
  (h : wpAnyH P md ops Q S fuel (setF l).toArray (a.put oi.dst undef) w) : wpAnyH P md ops Q S (fuel + 1) l.toArray a w := by
 simp only [Bool.and_eq_true] at hk
 refine wpAnyH_take (ops_next hi) hk.1.1 hk.1.2 hk.2 hQ (Or.inr ⟨hb, rfl⟩) hS ?_
 rw [listed_next]
 exact h
theorem tkI (i : Nat) (v : Value) {oi : Oper} {rest : List Oper} {fuel : Nat} {listed : Array Bool} {a : Act} {w : World} (hi : ops.toList.drop i = oi :: rest)
  (hk : (Region.noSelect ops && Region.free md ops listed i && (Region.ready md ops listed).contains i) = true)
  (hb : Region.wanted oi (yielded ops a.tmps) = true) (hQ : ∀ c a w, Q (.panic c) (a.put oi.dst v) w → Q (.panic c) a w)
  (hy : ∀ w, S w → (execOp a.eval oi).run P w = .ok (.value v) w) (hS : S w)
  (h : wpAnyH P md ops Q S fuel (listed.setIfInBounds i true) (a.put oi.dst v) w) : wpAnyH P md ops Q S (fuel + 1) listed a w := by
 simp only [Bool.and_eq_true] at hk
 exact wpAnyH_take (UY hi) hk.1.1 hk.1.2 hk.2 hQ (Or.inl ⟨hb, hy⟩) hS h
theorem runI (i : Nat) {oi : Oper} {rest : List Oper} {fuel : Nat} {listed : Array Bool} {a : Act} {w : World} (hi : ops.toList.drop i = oi :: rest)
  (hk : (Region.ready md ops listed == [i]) = true) (hb : Region.wanted oi (yielded ops a.tmps) = true)
  (h : ∀ K' : Act → World → Prop, Shut (∀ a w, S w → (S w → wpAnyH P md ops Q S fuel (listed.setIfInBounds i true) a w) → K' a w) → Oper.wp P oi a w K' Q) :
  wpAnyH P md ops Q S (fuel + 1) listed a w := by
 rw [beq_iff_eq] at hk
 refine wpAnyH_ready hk (by simp) (AllReadyH.cons (UY hi) (fun K hK => ?_) AllReadyH.nil)
 rw [if_pos hb]
 exact h K hK
theorem startF (n : Nat) {id : Nat} {a : Act} {w : World} (hm : P.follows .mixedOrders = true) (hn : ops.size = n) (hS : S w.drew)
  (h : S w.drew → wpAnyH P .any ops Q S n (List.replicate n false).toArray a w.drew) : (Code.region id ops true).wp P Q a w := by
 refine wp_region_held_drew hm hS (fun hH => ?_)
 have := h hH
 rw [← hn] at this
 rwa [← List.toArray_replicate]
end
set_option maxHeartbeats 8000000 in
set_option maxRecDepth 100000 in
theorem isSet_has {v : Value} {l : List Rec} {w : World} (h : HasRs w v l) :
  Calls Tryz.prog 35 #[v] w fun e w' => e = .returned (.bool (setOk l)) ∧ Below w.heap.size w w' := by
 have LO := listOkRr_has h
 by_cases hl0 : l.length = 0
 ·rw [setOk_bad (.inr hl0)]
  obtain ⟨a, cap, rfl, _⟩ := h.form
  generalize l.length = n at *
  subst hl0
  clear LO h
  go_enter Tryz.func35, Tryz.ntmps35
  go_wp2_with fail
  go_ret
  exact ⟨rfl, Below.refl _ _⟩
 cases hok : rrsOk l with
 | false =>
  rw [setOk_bad (.inl hok)]
  rw [hok] at LO
  obtain ⟨a, cap, rfl, _⟩ := h.form
  clear h hok
  generalize l.length = n at *
  have q0 : ((n : Int) == 0) = false := by rw [beq_eq_false_iff_ne]; omega
  replace LO := UC LO
  clear hl0
  go_enter Tryz.func35, Tryz.ntmps35
  go_wp2_with fail
  refine (UB LO).mono ?_
  rintro e w1 ⟨rfl, b1⟩
  go_wp2_with fail
  go_ret
  exact ⟨rfl, b1⟩
 | true =>
  rw [hok] at LO
  have HY := UC (fun hs => setOk_yes hok (by omega) hs)
  have HX := UC (fun i (h1 : 1 ≤ i) (hi : i < l.length) hs => setOk_no hok h1 hi hs)
  obtain ⟨a, cap, rfl, hcap, hmx⟩ := h.form
  unfold maxLen at hmx
  clear hok
  generalize setOk l = R at *
  generalize hn : l.length = n at *
  have HN := UC hn
  have H := UC h
  clear hn h
  have q0 : ((n : Int) == 0) = false := by rw [beq_eq_false_iff_ne]; omega
  have hn1 : 1 ≤ n := by omega
  replace LO := UC LO
  clear hl0
  go_enter Tryz.func35, Tryz.ntmps35
  go_wp2_with fail
  refine (UB LO).mono ?_
  rintro e w1 ⟨rfl, b1⟩
  clear LO
  go_wp2_with fail
  go_loopw [3] (fun i wr => ∃ k : Nat, 1 ≤ k ∧ k ≤ n ∧ i = .int .i64 k ∧ Hid (∀ j, 1 ≤ j → j < k → setI l j = true) ∧ Below w.heap.size w wr) (fun i _ => n - (intOf i).toNat)
  case atStart => exact ⟨1, Nat.le_refl _, hn1, rfl, UC (fun j h1 h2 => absurd h1 (by omega)), b1⟩
  case round =>
   clear b1 q0
   obtain ⟨k, hk1, hk, rfl, hall, hb⟩ := hrel
   by_cases hlt : k < n
   ·obtain ⟨k0, hke⟩ : ∃ k0, k = k0 + 1 := ⟨k - 1, by omega⟩
    obtain ⟨b, off, na, nc, ta, tc, xa, xc, ia, ic, rfl, hbl, hc, hu⟩ := ((UB H).below hb).here (k := k) (by rw [UB HN]; exact hlt)
    obtain ⟨b', off', na', nc', ta', tc', xa', xc', ia', ic', hbe, hbl', hp, hu'⟩ := ((UB H).below hb).here (k := k0) (by rw [UB HN]; omega)
    simp only [Option.some.injEq, Addr.mk.injEq, and_true] at hbe
    obtain ⟨rfl, rfl⟩ := hbe
    obtain ⟨b'', off'', na0, nc0, ta0, tc0, xa0, xc0, ia0, ic0, hbe, hbl'', hz, hu0⟩ := ((UB H).below hb).here (k := 0) (by rw [UB HN]; omega)
    simp only [Option.some.injEq, Addr.mk.injEq, and_true] at hbe
    obtain ⟨rfl, rfl⟩ := hbe
    rw [Nat.zero_mul, Nat.add_zero] at hz
    have hone := UC (fun (hs : setI l k = true) => (show ∀ j, 1 ≤ j → j < k + 1 → setI l j = true from fun j h1 hj => by
      by_cases e : j = k
      ·subst e; exact hs
      ·exact UB hall j h1 (by omega)))
    have HSI := UC (show setI l k = (oneB (l.getD 0 recZ) (l.getD k recZ) && decide (rrCmp (l.getD k0 recZ) (l.getD k recZ) < 0)) from by unfold setI; rw [show k - 1 = k0 by omega])
    have HXK := UC (UB HX k (by omega) hlt)
    generalize setI l k = SI at *
    generalize l.getD k recZ = rk at *
    generalize l.getD k0 recZ = rp at *
    generalize l.getD 0 recZ = r0 at *
    have bd := UX (w := wr)
    have hbd := UG hb bd
    have HC := UC (UW hc hbl bd)
    have HP := UC (UW hp hbl bd)
    have H0 := UC (UW hz hbl bd)
    have hbld : b < wr.drew.heap.size := hbl
    have HU := UC (hu.below bd)
    have HUP := UC (hu'.below bd)
    have HU0 := UC (hu0.below bd)
    clear hc hp hz hu hu' hu0 hb hbl hbl' hbl''
    have hkp : (0 : Int) < (k : Nat) := by omega
    have hsub : ((k : Nat) : Int) - 1 = (k0 : Nat) := by omega
    have hwr : IntKind.i64.wrap (k0 : Int) = (k0 : Nat) := by have := hlt; exact wrap_small k0 (by omega)
    have hkm : (k0 : Int) < n := by omega
    have hkm2 : ((k : Nat) : Int) < n := by omega
    have hn0 : (0 : Int) < n := by omega
    have hnp : 0 < n := by omega
    have HKE := UC hke
    clear hke
    have OS := ofOneSet_has (UB HU0) (UB HU)
    cases ho : oneB r0 rk with
    | false =>
     rw [ho] at OS
     replace OS := UC OS
     have hR := UB HXK (by rw [UB HSI, ho, Bool.false_and])
     subst hR
     clear ho HSI HXK hone
     go_wp2_with fail
     refine startF 22 (S := (fun w' => (w'.cell? ⟨b, off + k * 7, none⟩ = some (.slice na rk.name.length nc) ∧ w'.cell? ⟨b, off + k * 7 + 1, none⟩ = some (.int .i64 rk.type) ∧ w'.cell? ⟨b, off + k * 7 + 2, none⟩ = some (.int .i64 rk.ttl) ∧ w'.cell? ⟨b, off + k * 7 + 3, none⟩ = some (.int .i64 rk.addr) ∧ w'.cell? ⟨b, off + k * 7 + 4, none⟩ = some (.slice ta rk.to.length tc) ∧ w'.cell? ⟨b, off + k * 7 + 5, none⟩ = some (.slice xa rk.text.length xc) ∧ w'.cell? ⟨b, off + k * 7 + 6, none⟩ = some (.slice ia rk.nums.length ic)) ∧ (w'.cell? ⟨b, off + k0 * 7, none⟩ = some (.slice na' rp.name.length nc') ∧ w'.cell? ⟨b, off + k0 * 7 + 1, none⟩ = some (.int .i64 rp.type) ∧ w'.cell? ⟨b, off + k0 * 7 + 2, none⟩ = some (.int .i64 rp.ttl) ∧ w'.cell? ⟨b, off + k0 * 7 + 3, none⟩ = some (.int .i64 rp.addr) ∧ w'.cell? ⟨b, off + k0 * 7 + 4, none⟩ = some (.slice ta' rp.to.length tc') ∧ w'.cell? ⟨b, off + k0 * 7 + 5, none⟩ = some (.slice xa' rp.text.length xc') ∧ w'.cell? ⟨b, off + k0 * 7 + 6, none⟩ = some (.slice ia' rp.nums.length ic')) ∧ (w'.cell? ⟨b, off, none⟩ = some (.slice na0 r0.name.length nc0) ∧ w'.cell? ⟨b, off + 1, none⟩ = some (.int .i64 r0.type) ∧ w'.cell? ⟨b, off + 2, none⟩ = some (.int .i64 r0.ttl) ∧ w'.cell? ⟨b, off + 3, none⟩ = some (.int .i64 r0.addr) ∧ w'.cell? ⟨b, off + 4, none⟩ = some (.slice ta0 r0.to.length tc0) ∧ w'.cell? ⟨b, off + 5, none⟩ = some (.slice xa0 r0.text.length xc0) ∧ w'.cell? ⟨b, off + 6, none⟩ = some (.slice ia0 r0.nums.length ic0)))) (by kernel_rfl) rfl ⟨VH (UB HC), VH (UB HP), VH (UB H0)⟩ (fun hHeld => ?_)
     simp only [List.replicate]
     repeat ((first | (refine tkF ?_ rfl (by kernel_rfl) (by rfl) (fun _ _ _ h => h) ?_ hHeld ?_; rotate_left; · (intro w hSw; (try dsimp only at hSw); go_simp <;> with_reducible rfl)) | refine skF rfl (by kernel_rfl) (by rfl) (fun _ _ _ h => h) hHeld ?_); simp only [Act.put, setF, List.setIfInBounds_toArray, List.set_cons_zero, List.set_cons_succ])
     refine runI 7 rfl (by kernel_rfl) (by kernel_rfl) (fun K hK => ?_)
     have HK := UC hK
     clear hK hHeld
     go_simp
     refine (UB OS).mono ?_
     rintro e w5 ⟨rfl, b5⟩
     refine (UB HK).out _ _ ⟨VH (UW (UB HC) hbld b5), VH (UW (UB HP) hbld b5), VH (UW (UB H0) hbld b5)⟩ (fun hHeld => ?_)
     clear HK K
     simp only [List.setIfInBounds_toArray, List.set_cons_zero, List.set_cons_succ]
     repeat ((first | (refine tkF ?_ rfl (by kernel_rfl) (by rfl) (fun _ _ _ h => h) ?_ hHeld ?_; rotate_left; · (intro w hSw; (try dsimp only at hSw); go_simp <;> with_reducible rfl)) | refine skF rfl (by kernel_rfl) (by rfl) (fun _ _ _ h => h) hHeld ?_); simp only [Act.put, setF, List.setIfInBounds_toArray, List.set_cons_zero, List.set_cons_succ])
     refine wpAnyH_done (by kernel_rfl) ?_ _
     clear hHeld
     go_wp2_with fail
     go_ret
     exact ⟨rfl, UG hbd b5⟩
    | true =>
     rw [ho] at OS
     replace OS := UC OS
     rw [ho, Bool.true_and] at HSI
     have RC := fun (w : World) (h1 : HasR w (.slice na' rp.name.length nc') (.slice ta' rp.to.length tc') (.slice xa' rp.text.length xc') (.slice ia' rp.nums.length ic') rp) (h2 : HasR w (.slice na rk.name.length nc) (.slice ta rk.to.length tc) (.slice xa rk.text.length xc) (.slice ia rk.nums.length ic) rk) => implRrCmp_has h1 h2
     generalize rrCmp rp rk = N at *
     replace RC := UC RC
     by_cases hN : N < 0
     ·have hs := UB hone (by rw [UB HSI, decide_eq_true hN])
      have HS := UC hs
      have hN' : decide (0 ≤ N) = false := decide_eq_false (by omega)
      clear ho HSI HXK hone hs
      go_wp2_with fail
      refine startF 22 (S := (fun w' => (w'.cell? ⟨b, off + k * 7, none⟩ = some (.slice na rk.name.length nc) ∧ w'.cell? ⟨b, off + k * 7 + 1, none⟩ = some (.int .i64 rk.type) ∧ w'.cell? ⟨b, off + k * 7 + 2, none⟩ = some (.int .i64 rk.ttl) ∧ w'.cell? ⟨b, off + k * 7 + 3, none⟩ = some (.int .i64 rk.addr) ∧ w'.cell? ⟨b, off + k * 7 + 4, none⟩ = some (.slice ta rk.to.length tc) ∧ w'.cell? ⟨b, off + k * 7 + 5, none⟩ = some (.slice xa rk.text.length xc) ∧ w'.cell? ⟨b, off + k * 7 + 6, none⟩ = some (.slice ia rk.nums.length ic)) ∧ (w'.cell? ⟨b, off + k0 * 7, none⟩ = some (.slice na' rp.name.length nc') ∧ w'.cell? ⟨b, off + k0 * 7 + 1, none⟩ = some (.int .i64 rp.type) ∧ w'.cell? ⟨b, off + k0 * 7 + 2, none⟩ = some (.int .i64 rp.ttl) ∧ w'.cell? ⟨b, off + k0 * 7 + 3, none⟩ = some (.int .i64 rp.addr) ∧ w'.cell? ⟨b, off + k0 * 7 + 4, none⟩ = some (.slice ta' rp.to.length tc') ∧ w'.cell? ⟨b, off + k0 * 7 + 5, none⟩ = some (.slice xa' rp.text.length xc') ∧ w'.cell? ⟨b, off + k0 * 7 + 6, none⟩ = some (.slice ia' rp.nums.length ic')) ∧ (w'.cell? ⟨b, off, none⟩ = some (.slice na0 r0.name.length nc0) ∧ w'.cell? ⟨b, off + 1, none⟩ = some (.int .i64 r0.type) ∧ w'.cell? ⟨b, off + 2, none⟩ = some (.int .i64 r0.ttl) ∧ w'.cell? ⟨b, off + 3, none⟩ = some (.int .i64 r0.addr) ∧ w'.cell? ⟨b, off + 4, none⟩ = some (.slice ta0 r0.to.length tc0) ∧ w'.cell? ⟨b, off + 5, none⟩ = some (.slice xa0 r0.text.length xc0) ∧ w'.cell? ⟨b, off + 6, none⟩ = some (.slice ia0 r0.nums.length ic0)))) (by kernel_rfl) rfl ⟨VH (UB HC), VH (UB HP), VH (UB H0)⟩ (fun hHeld => ?_)
      simp only [List.replicate]
      repeat ((first | (refine tkF ?_ rfl (by kernel_rfl) (by rfl) (fun _ _ _ h => h) ?_ hHeld ?_; rotate_left; · (intro w hSw; (try dsimp only at hSw); go_simp <;> with_reducible rfl)) | refine skF rfl (by kernel_rfl) (by rfl) (fun _ _ _ h => h) hHeld ?_); simp only [Act.put, setF, List.setIfInBounds_toArray, List.set_cons_zero, List.set_cons_succ])
      refine runI 7 rfl (by kernel_rfl) (by kernel_rfl) (fun K hK => ?_)
      have HK := UC hK
      clear hK hHeld
      go_simp
      refine (UB OS).mono ?_
      rintro e w5 ⟨rfl, b5⟩
      refine (UB HK).out _ _ ⟨VH (UW (UB HC) hbld b5), VH (UW (UB HP) hbld b5), VH (UW (UB H0) hbld b5)⟩ (fun hHeld => ?_)
      clear HK K
      simp only [List.setIfInBounds_toArray, List.set_cons_zero, List.set_cons_succ]
      repeat ((first | (refine tkF ?_ rfl (by kernel_rfl) (by rfl) (fun _ _ _ h => h) ?_ hHeld ?_; rotate_left; · (intro w hSw; (try dsimp only at hSw); go_simp <;> with_reducible rfl)) | refine skF rfl (by kernel_rfl) (by rfl) (fun _ _ _ h => h) hHeld ?_); simp only [Act.put, setF, List.setIfInBounds_toArray, List.set_cons_zero, List.set_cons_succ])
      refine runI 19 rfl (by kernel_rfl) (by kernel_rfl) (fun K hK => ?_)
      have HK := UC hK
      clear hK hHeld
      go_simp
      refine (UB RC _ ((UB HUP).below b5) ((UB HU).below b5)).mono ?_
      rintro e w6 ⟨rfl, b6⟩
      have q6 := UG b5 b6
      refine (UB HK).out _ _ ⟨VH (UW (UB HC) hbld q6), VH (UW (UB HP) hbld q6), VH (UW (UB H0) hbld q6)⟩ (fun hHeld => ?_)
      clear HK K
      simp only [List.setIfInBounds_toArray, List.set_cons_zero, List.set_cons_succ]
      repeat ((first | (refine tkF ?_ rfl (by kernel_rfl) (by rfl) (fun _ _ _ h => h) ?_ hHeld ?_; rotate_left; · (intro w hSw; (try dsimp only at hSw); go_simp <;> with_reducible rfl)) | refine skF rfl (by kernel_rfl) (by rfl) (fun _ _ _ h => h) hHeld ?_); simp only [Act.put, setF, List.setIfInBounds_toArray, List.set_cons_zero, List.set_cons_succ])
      refine wpAnyH_done (by kernel_rfl) ?_ _
      clear hHeld
      clear hwr hsub
      go_wp2_with fail
      exact ⟨⟨k + 1, by omega, by omega, by go_num, UC (UB HS), UG hbd q6⟩, by simp [intOf]; omega⟩
     ·have hR := UB HXK (by rw [UB HSI, decide_eq_false hN])
      have hN' : decide (0 ≤ N) = true := decide_eq_true (by omega)
      have hN2 : 0 ≤ N := by omega
      subst hR
      clear ho HSI HXK hone hN
      go_wp2_with fail
      refine startF 22 (S := (fun w' => (w'.cell? ⟨b, off + k * 7, none⟩ = some (.slice na rk.name.length nc) ∧ w'.cell? ⟨b, off + k * 7 + 1, none⟩ = some (.int .i64 rk.type) ∧ w'.cell? ⟨b, off + k * 7 + 2, none⟩ = some (.int .i64 rk.ttl) ∧ w'.cell? ⟨b, off + k * 7 + 3, none⟩ = some (.int .i64 rk.addr) ∧ w'.cell? ⟨b, off + k * 7 + 4, none⟩ = some (.slice ta rk.to.length tc) ∧ w'.cell? ⟨b, off + k * 7 + 5, none⟩ = some (.slice xa rk.text.length xc) ∧ w'.cell? ⟨b, off + k * 7 + 6, none⟩ = some (.slice ia rk.nums.length ic)) ∧ (w'.cell? ⟨b, off + k0 * 7, none⟩ = some (.slice na' rp.name.length nc') ∧ w'.cell? ⟨b, off + k0 * 7 + 1, none⟩ = some (.int .i64 rp.type) ∧ w'.cell? ⟨b, off + k0 * 7 + 2, none⟩ = some (.int .i64 rp.ttl) ∧ w'.cell? ⟨b, off + k0 * 7 + 3, none⟩ = some (.int .i64 rp.addr) ∧ w'.cell? ⟨b, off + k0 * 7 + 4, none⟩ = some (.slice ta' rp.to.length tc') ∧ w'.cell? ⟨b, off + k0 * 7 + 5, none⟩ = some (.slice xa' rp.text.length xc') ∧ w'.cell? ⟨b, off + k0 * 7 + 6, none⟩ = some (.slice ia' rp.nums.length ic')) ∧ (w'.cell? ⟨b, off, none⟩ = some (.slice na0 r0.name.length nc0) ∧ w'.cell? ⟨b, off + 1, none⟩ = some (.int .i64 r0.type) ∧ w'.cell? ⟨b, off + 2, none⟩ = some (.int .i64 r0.ttl) ∧ w'.cell? ⟨b, off + 3, none⟩ = some (.int .i64 r0.addr) ∧ w'.cell? ⟨b, off + 4, none⟩ = some (.slice ta0 r0.to.length tc0) ∧ w'.cell? ⟨b, off + 5, none⟩ = some (.slice xa0 r0.text.length xc0) ∧ w'.cell? ⟨b, off + 6, none⟩ = some (.slice ia0 r0.nums.length ic0)))) (by kernel_rfl) rfl ⟨VH (UB HC), VH (UB HP), VH (UB H0)⟩ (fun hHeld => ?_)
      simp only [List.replicate]
      repeat ((first | (refine tkF ?_ rfl (by kernel_rfl) (by rfl) (fun _ _ _ h => h) ?_ hHeld ?_; rotate_left; · (intro w hSw; (try dsimp only at hSw); go_simp <;> with_reducible rfl)) | refine skF rfl (by kernel_rfl) (by rfl) (fun _ _ _ h => h) hHeld ?_); simp only [Act.put, setF, List.setIfInBounds_toArray, List.set_cons_zero, List.set_cons_succ])
      refine runI 7 rfl (by kernel_rfl) (by kernel_rfl) (fun K hK => ?_)
      have HK := UC hK
      clear hK hHeld
      go_simp
      refine (UB OS).mono ?_
      rintro e w5 ⟨rfl, b5⟩
      refine (UB HK).out _ _ ⟨VH (UW (UB HC) hbld b5), VH (UW (UB HP) hbld b5), VH (UW (UB H0) hbld b5)⟩ (fun hHeld => ?_)
      clear HK K
      simp only [List.setIfInBounds_toArray, List.set_cons_zero, List.set_cons_succ]
      repeat ((first | (refine tkF ?_ rfl (by kernel_rfl) (by rfl) (fun _ _ _ h => h) ?_ hHeld ?_; rotate_left; · (intro w hSw; (try dsimp only at hSw); go_simp <;> with_reducible rfl)) | refine skF rfl (by kernel_rfl) (by rfl) (fun _ _ _ h => h) hHeld ?_); simp only [Act.put, setF, List.setIfInBounds_toArray, List.set_cons_zero, List.set_cons_succ])
      refine runI 19 rfl (by kernel_rfl) (by kernel_rfl) (fun K hK => ?_)
      have HK := UC hK
      clear hK hHeld
      go_simp
      refine (UB RC _ ((UB HUP).below b5) ((UB HU).below b5)).mono ?_
      rintro e w6 ⟨rfl, b6⟩
      have q6 := UG b5 b6
      refine (UB HK).out _ _ ⟨VH (UW (UB HC) hbld q6), VH (UW (UB HP) hbld q6), VH (UW (UB H0) hbld q6)⟩ (fun hHeld => ?_)
      clear HK K
      simp only [List.setIfInBounds_toArray, List.set_cons_zero, List.set_cons_succ]
      repeat ((first | (refine tkF ?_ rfl (by kernel_rfl) (by rfl) (fun _ _ _ h => h) ?_ hHeld ?_; rotate_left; · (intro w hSw; (try dsimp only at hSw); go_simp <;> with_reducible rfl)) | refine skF rfl (by kernel_rfl) (by rfl) (fun _ _ _ h => h) hHeld ?_); simp only [Act.put, setF, List.setIfInBounds_toArray, List.set_cons_zero, List.set_cons_succ])
      refine wpAnyH_done (by kernel_rfl) ?_ _
      clear hHeld
      go_wp2_with fail
      go_ret
      exact ⟨rfl, UG hbd q6⟩
   ·obtain rfl : k = n := by omega
    have hR := UB HY (UB hall)
    subst hR
    go_wp2_with fail
    go_ret
    exact ⟨rfl, hb⟩
end Go.Proofs.YtaehfeobfkaicaaGreat
