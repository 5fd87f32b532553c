/-
  Contract of the program's holds. Contract of the program's drop. slices.Sorted(maps.Keys(m)) of the library, at a map of pages: the keys, ascending.
-/
import Derived.Test.YthobpbnaklnbiaaGreatFnDropSetsG42
namespace Go.Proofs.YthobpbnaklnbiaaGreat
open Go.RowKit Go.Shelf
open Go.ChangeMaps (setBlock heap_setBlock_same heap_setBlock_other)
open Go.MapKept (stamped_iff stamped_erase Stamped)
open Go.Maps (Keyed string_keyed)
open Go.WideMaps (keyOf_string_mk)
set_option linter.unusedVariables false

theorem Te {t k e : TypeId} {w : World} (ht : Tryz.prog.underlying t = some (.map k e)) (hk : Tryz.prog.underlying k = some .string) {z : Value} (hz : (zeroValue e).run Tryz.prog w = .ok z w) (s : ByteArray) (hs : s.size ≤ maxLen) :
  (Instr.lookup t (.map none) (.string s) true).run Tryz.prog w = .ok (.tuple #[z, .bool false]) w := by
 have hkey := keyOf_string_mk (P := Tryz.prog) hk hs
 have K := string_keyed hk
 rcases K.find w hkey [] (by simp) with ⟨h1, h2⟩ | ⟨j, e0, h1, h2, h3⟩
 ·simp [Instr.lookup, run_underlying ht, K.check w _ hkey, h1, hz, Result.andThen]
 ·simp at h2
theorem Q5 {n0 : Nat} {w : World} {b : Nat} {B : Bk} (hB : Ch n0 w b B) {kn : ByteArray} (hk : kn.size ≤ maxLen) : ∃ mb, (∀ w', Below w.heap.size w w' → (Instr.lookup 52 (.map (some b)) (.string kn) false).run Tryz.prog w' = .ok (.map mb) w') ∧ ((mb = none ∧ Aj kn B = none) ∨ ∃ p ps P, mb = some p ∧ MapV w b ps ∧ Aj kn ps = some (.map (some p)) ∧ Aj kn B = some P ∧ n0 ≤ p ∧ p ≠ b ∧ Ew w p P) := by
 obtain ⟨_, ps, hM, hT, _⟩ := hB
 rcases Ii (k := kn) hT with ⟨l1, l2⟩ | ⟨v, P, l1, l2, ⟨p, rfl, q1, q2, q3⟩, _⟩
 ·exact ⟨none, fun w' hb => Lt (hM.below hb) hk l1, .inl ⟨rfl, l2⟩⟩
 ·exact ⟨some p, fun w' hb => De (hM.below hb) hk l1, .inr ⟨p, ps, P, rfl, hM, l1, l2, q1, q2, q3⟩⟩
theorem Y8 {n0 : Nat} {w : World} {b : Nat} {B : Bk} (hB : Ch n0 w b B) {kn kd : ByteArray} (hk : kn.size ≤ maxLen) (hd : kd.size ≤ maxLen) : ∃ (mb : Option Nat) (ea : Option Addr) (el ec : Nat) (ety ett ead : Int) (fa : Option Addr) (fl fc : Nat) (ga : Option Addr) (gl gc : Nat) (ja : Option Addr) (jl jc : Nat), (∀ w', Below w.heap.size w w' → (Instr.lookup 52 (.map (some b)) (.string kn) false).run Tryz.prog w' = .ok (.map mb) w') ∧
  ∀ w', Below w.heap.size w w' → (Instr.lookup 80 (.map mb) (.string kd) true).run Tryz.prog w' = .ok (.tuple #[.agg #[.slice ea el ec, .int .i64 ety, .int .i64 ett, .int .i64 ead, .slice fa fl fc, .slice ga gl gc, .slice ja jl jc], .bool (Aj kd ((Aj kn B).getD [])).isSome]) w' := by
 obtain ⟨mb, h1, h2⟩ := Q5 hB hk
 rcases h2 with ⟨rfl, hno⟩ | ⟨p, ps, P, rfl, hMb, hlp, hlP, hnp, hpb, hPM⟩
 ·refine ⟨none, none, 0, 0, 0, 0, 0, none, 0, 0, none, 0, 0, none, 0, 0, h1, fun w' hb => ?_⟩
  rw [hno]
  exact Te (t := 80) Tryz.underlying80 Tryz.underlying9 (Kz w') kd hd
 ·have hPM' := hPM
  obtain ⟨qs, hMq, hTq⟩ := hPM
  rcases Ii (k := kd) hTq with ⟨l1, l2⟩ | ⟨v, u, l1, l2, ⟨un, ut, ux, ui, rfl, hRu⟩, _⟩
  ·refine ⟨some p, none, 0, 0, 0, 0, 0, none, 0, 0, none, 0, 0, none, 0, 0, h1, fun w' hb => ?_⟩
   have hlk := Kc (t := 80) Tryz.underlying80 Tryz.underlying9 (Kz w') (hMq.below hb) kd hd
   rw [hlP, Option.getD_some, l2]
   rw [l1] at hlk
   exact hlk
  ·obtain ⟨una, unc, rfl, _⟩ := hRu.name.form
   obtain ⟨uta, utc, rfl, _⟩ := hRu.to.form
   obtain ⟨uxa, uxc, rfl, _⟩ := hRu.text.form
   obtain ⟨uia, uic, rfl, _⟩ := hRu.nums.form
   refine ⟨some p, una, u.name.length, unc, u.type, u.ttl, u.addr, uta, u.to.length, utc, uxa, u.text.length, uxc, uia, u.nums.length, uic, h1, fun w' hb => ?_⟩
   have hlk := Kc (t := 80) Tryz.underlying80 Tryz.underlying9 (Kz w') (hMq.below hb) kd hd
   rw [hlP, Option.getD_some, l2]
   rw [l1] at hlk
   exact hlk

set_option maxHeartbeats 1000000 in
set_option maxRecDepth 100000 in
theorem Wg {n0 b : Nat} {B : Bk} {vn vt vx vi : Value} {r : Rec} {w : World} (hB : Ch n0 w b B) (h : HasR w vn vt vx vi r) (hok : rrOk r = true) :
  Calls Tryz.prog 59 #[.map (some b), .agg #[vn, .int .i64 r.type, .int .i64 r.ttl, .int .i64 r.addr, vt, vx, vi]] w fun e w' => e = .returned (.bool (Aj (strOfNums (keyD r)) ((Aj (strOfNums (keyN r.name)) B).getD [])).isSome) ∧ Below w.heap.size w w' := by
 obtain ⟨na, nc, rfl, _⟩ := h.name.form
 obtain ⟨ta, tc, rfl, _⟩ := h.to.form
 obtain ⟨xa, xc, rfl, _⟩ := h.text.form
 obtain ⟨ia, ic, rfl, _⟩ := h.nums.form
 have hsn := Ce (Ai hok).1
 have hkn := Gh hsn
 have hkd := Ja hok
 have b0 := UI (w := w) (.cells #[.slice na r.name.length nc, .int .i64 r.type, .int .i64 r.ttl, .int .i64 r.addr, .slice ta r.to.length tc, .slice xa r.text.length xc, .slice ia r.nums.length ic] 39)
 have k0 := heap_alloc_new w (.cells #[.slice na r.name.length nc, .int .i64 r.type, .int .i64 r.ttl, .int .i64 r.addr, .slice ta r.to.length tc, .slice xa r.text.length xc, .slice ia r.nums.length ic] 39)
 have bd := UX (w := w.alloc (.cells #[.slice na r.name.length nc, .int .i64 r.type, .int .i64 r.ttl, .int .i64 r.addr, .slice ta r.to.length tc, .slice xa r.text.length xc, .slice ia r.nums.length ic] 39))
 have bb := UG b0 bd
 have kk := UE bd k0
 obtain ⟨mb, ea, el, ec, ety, ett, ead, fa, fl, fc, ga, gl, gc, ja, jl, jc, hlook, hrec⟩ := Y8 (hB.below bb) hkn hkd
 have NK := UC (fun w' (hb : Below (w.alloc (.cells #[.slice na r.name.length nc, .int .i64 r.type, .int .i64 r.ttl, .int .i64 r.addr, .slice ta r.to.length tc, .slice xa r.text.length xc, .slice ia r.nums.length ic] 39)).drew.heap.size (w.alloc (.cells #[.slice na r.name.length nc, .int .i64 r.type, .int .i64 r.ttl, .int .i64 r.addr, .slice ta r.to.length tc, .slice xa r.text.length xc, .slice ia r.nums.length ic] 39)).drew w') => Fx ((h.name.below bb).below hb) hsn.1 hsn.2)
 have DK := UC (fun w' (hb : Below (w.alloc (.cells #[.slice na r.name.length nc, .int .i64 r.type, .int .i64 r.ttl, .int .i64 r.addr, .slice ta r.to.length tc, .slice xa r.text.length xc, .slice ia r.nums.length ic] 39)).drew.heap.size (w.alloc (.cells #[.slice na r.name.length nc, .int .i64 r.type, .int .i64 r.ttl, .int .i64 r.addr, .slice ta r.to.length tc, .slice xa r.text.length xc, .slice ia r.nums.length ic] 39)).drew w') => Fu ((h.below bb).below hb) hok)
 generalize strOfNums (keyN r.name) = kn at *
 generalize strOfNums (keyD r) = kd at *
 generalize (Aj kd ((Aj kn B).getD [])).isSome = res at *
 have S0 := UC (fun w' (hb : Below (w.alloc (.cells #[.slice na r.name.length nc, .int .i64 r.type, .int .i64 r.ttl, .int .i64 r.addr, .slice ta r.to.length tc, .slice xa r.text.length xc, .slice ia r.nums.length ic] 39)).drew.heap.size (w.alloc (.cells #[.slice na r.name.length nc, .int .i64 r.type, .int .i64 r.ttl, .int .i64 r.addr, .slice ta r.to.length tc, .slice xa r.text.length xc, .slice ia r.nums.length ic] 39)).drew w') => (⟨UJ (UE hb kk), hlook w' hb, hrec w' hb⟩ : (_ ∧ _ ∧ _ ∧ _ ∧ _ ∧ _ ∧ _) ∧ _ ∧ _))
 have BB := UC bb
 have zb := bb.size
 clear hB h k0 b0 bd bb kk hlook hrec
 go_enter Tryz.func59, Tryz.ntmps59
 go_wp2_with fail
 refine Zg 14 (S := (fun w' => (w'.cell? ⟨w.heap.size, 0, none⟩ = some (.slice na r.name.length nc) ∧ w'.cell? ⟨w.heap.size, 1, none⟩ = some (.int .i64 r.type) ∧ w'.cell? ⟨w.heap.size, 2, none⟩ = some (.int .i64 r.ttl) ∧ w'.cell? ⟨w.heap.size, 3, none⟩ = some (.int .i64 r.addr) ∧ w'.cell? ⟨w.heap.size, 4, none⟩ = some (.slice ta r.to.length tc) ∧ w'.cell? ⟨w.heap.size, 5, none⟩ = some (.slice xa r.text.length xc) ∧ w'.cell? ⟨w.heap.size, 6, none⟩ = some (.slice ia r.nums.length ic)) ∧ (Instr.lookup 52 (.map (some b)) (.string kn) false).run Tryz.prog w' = .ok (.map mb) w' ∧ (Instr.lookup 80 (.map mb) (.string kd) true).run Tryz.prog w' = .ok (.tuple #[.agg #[.slice ea el ec, .int .i64 ety, .int .i64 ett, .int .i64 ead, .slice fa fl fc, .slice ga gl gc, .slice ja jl jc], .bool res]) w')) (by kernel_rfl) rfl (UB S0 _ (Below.refl _ _)) (fun hHeld => ?_)
 simp only [List.replicate]
 have zW : w.heap.size ≤ (w.alloc (.cells #[.slice na r.name.length nc, .int .i64 r.type, .int .i64 r.ttl, .int .i64 r.addr, .slice ta r.to.length tc, .slice xa r.text.length xc, .slice ia r.nums.length ic] 39)).drew.heap.size := zb
 generalize (w.alloc (.cells #[.slice na r.name.length nc, .int .i64 r.type, .int .i64 r.ttl, .int .i64 r.addr, .slice ta r.to.length tc, .slice xa r.text.length xc, .slice ia r.nums.length ic] 39)).drew = W at *
 refine tkI 0 ?_ rfl (by kernel_rfl) (by kernel_rfl) (fun _ _ _ h => h) ?_ hHeld ?_; rotate_left; (· (intro w hSw; (try dsimp only at hSw); go_simp <;> with_reducible rfl)); simp only [Act.put, List.setIfInBounds_toArray, List.set_cons_zero, List.set_cons_succ]
 refine tkI 1 ?_ rfl (by kernel_rfl) (by kernel_rfl) (fun _ _ _ h => h) ?_ hHeld ?_; rotate_left; (· (intro w hSw; (try dsimp only at hSw); go_simp <;> with_reducible rfl)); simp only [Act.put, List.setIfInBounds_toArray, List.set_cons_zero, List.set_cons_succ]
 refine tkI 2 ?_ rfl (by kernel_rfl) (by kernel_rfl) (fun _ _ _ h => h) ?_ hHeld ?_; rotate_left; (· (intro w hSw; (try dsimp only at hSw); go_simp <;> with_reducible rfl)); simp only [Act.put, List.setIfInBounds_toArray, List.set_cons_zero, List.set_cons_succ]
 refine tkI 5 ?_ rfl (by kernel_rfl) (by kernel_rfl) (fun _ _ _ h => h) ?_ hHeld ?_; rotate_left; (· (intro w hSw; (try dsimp only at hSw); go_simp <;> with_reducible rfl)); simp only [Act.put, List.setIfInBounds_toArray, List.set_cons_zero, List.set_cons_succ]
 refine wpAnyH_ready (rs := [3, 11]) (by kernel_rfl) (by simp) (AllReadyH.cons (UY rfl) (fun K hK => ?_) (AllReadyH.cons (UY rfl) (fun K hK => ?_) AllReadyH.nil))
 ·have HK := UC hK
  clear hK hHeld
  go_simp
  refine (UB NK _ (Below.refl _ _)).mono ?_
  rintro e w1 ⟨rfl, b1⟩
  have q1 := b1
  go_simp
  refine (UB HK).out _ _ (UB S0 _ (q1)) (fun hHeld => ?_)
  clear HK K
  simp only [List.setIfInBounds_toArray, List.set_cons_zero, List.set_cons_succ]
  refine tkI 4 ?_ rfl (by kernel_rfl) (by kernel_rfl) (fun _ _ _ h => h) ?_ hHeld ?_; rotate_left; (· (intro w hSw; (try dsimp only at hSw); go_simp <;> with_reducible rfl)); simp only [Act.put, List.setIfInBounds_toArray, List.set_cons_zero, List.set_cons_succ]
  refine wpAnyH_ready (rs := [6, 11]) (by kernel_rfl) (by simp) (AllReadyH.cons (UY rfl) (fun K hK => ?_) (AllReadyH.cons (UY rfl) (fun K hK => ?_) AllReadyH.nil))
  ·have HK := UC hK
   clear hK hHeld
   go_simp
   refine (UB DK _ (q1)).mono ?_
   rintro e w2 ⟨rfl, b2⟩
   have q2 := UG q1 b2
   go_simp
   refine (UB HK).out _ _ (UB S0 _ (q2)) (fun hHeld => ?_)
   clear HK K
   simp only [List.setIfInBounds_toArray, List.set_cons_zero, List.set_cons_succ]
   refine tkI 7 ?_ rfl (by kernel_rfl) (by kernel_rfl) (fun _ _ _ h => h) ?_ hHeld ?_; rotate_left; (· (intro w hSw; (try dsimp only at hSw); go_simp <;> with_reducible rfl)); simp only [Act.put, List.setIfInBounds_toArray, List.set_cons_zero, List.set_cons_succ]
   refine tkI 8 ?_ rfl (by kernel_rfl) (by kernel_rfl) (fun _ _ _ h => h) ?_ hHeld ?_; rotate_left; (· (intro w hSw; (try dsimp only at hSw); go_simp <;> with_reducible rfl)); simp only [Act.put, List.setIfInBounds_toArray, List.set_cons_zero, List.set_cons_succ]
   refine tkI 9 ?_ rfl (by kernel_rfl) (by kernel_rfl) (fun _ _ _ h => h) ?_ hHeld ?_; rotate_left; (· (intro w hSw; (try dsimp only at hSw); go_simp <;> with_reducible rfl)); simp only [Act.put, List.setIfInBounds_toArray, List.set_cons_zero, List.set_cons_succ]
   refine tkI 10 ?_ rfl (by kernel_rfl) (by kernel_rfl) (fun _ _ _ h => h) ?_ hHeld ?_; rotate_left; (· (intro w hSw; (try dsimp only at hSw); go_simp <;> with_reducible rfl)); simp only [Act.put, List.setIfInBounds_toArray, List.set_cons_zero, List.set_cons_succ]
   refine wpAnyH_ready (rs := [11]) (by kernel_rfl) (by simp) (AllReadyH.cons (UY rfl) (fun K hK => ?_) AllReadyH.nil)
   have HK := UC hK
   clear hK hHeld
   go_simp
   skip
   refine (UB HK).out _ _ (UB S0 _ (UG q2 (UI _))) (fun hHeld => ?_)
   clear HK K
   simp only [List.setIfInBounds_toArray, List.set_cons_zero, List.set_cons_succ]
   have zz := q2.size
   have KA := UC (heap_alloc_new w2 (.cells #[.slice none 0 0, .int .i64 0, .int .i64 0, .int .i64 0, .slice none 0 0, .slice none 0 0, .slice none 0 0] 39))
   refine runI 12 rfl (by kernel_rfl) (by kernel_rfl) (fun K hK => ?_)
   have HK := UC hK
   clear hK hHeld
   refine I6 39 (.tmp 5) (.tmp 16) rfl w2.heap.size (.slice ea el ec) (.int .i64 ety) (.int .i64 ett) (.int .i64 ead) (.slice fa fl fc) (.slice ga gl gc) (.slice ja jl jc) rfl rfl (UB KA) (by kernel_rfl) (by kernel_rfl) ?_
   obtain ⟨_, u9⟩ := set7 (c0 := .slice ea el ec) (c1 := .int .i64 ety) (c2 := .int .i64 ett) (c3 := .int .i64 ead) (c4 := .slice fa fl fc) (c5 := .slice ga gl gc) (c6 := .slice ja jl jc) (UB KA)
   have q9 := u9.below (UG q2 (UI _)) (by omega)
   refine (UB HK).out _ _ (UB S0 _ q9) (fun hHeld => ?_)
   clear HK K
   simp only [Act.put, List.setIfInBounds_toArray, List.set_cons_zero, List.set_cons_succ]
   refine tkI 13 ?_ rfl (by kernel_rfl) (by kernel_rfl) (fun _ _ _ h => h) ?_ hHeld ?_; rotate_left; (· (intro w hSw; (try dsimp only at hSw); go_simp <;> with_reducible rfl)); simp only [Act.put, List.setIfInBounds_toArray, List.set_cons_zero, List.set_cons_succ]
   refine wpAnyH_done (by kernel_rfl) ?_ _
   clear hHeld
   go_wp2
   go_ret
   exact ⟨rfl, UG (UB BB) q9⟩
  ·have HK := UC hK
   clear hK hHeld
   go_simp
   skip
   refine (UB HK).out _ _ (UB S0 _ (UG q1 (UI _))) (fun hHeld => ?_)
   clear HK K
   simp only [List.setIfInBounds_toArray, List.set_cons_zero, List.set_cons_succ]
   refine wpAnyH_ready (rs := [6]) (by kernel_rfl) (by simp) (AllReadyH.cons (UY rfl) (fun K hK => ?_) AllReadyH.nil)
   have HK := UC hK
   clear hK hHeld
   go_simp
   refine (UB DK _ (UG q1 (UI _))).mono ?_
   rintro e w2 ⟨rfl, b2⟩
   have q2 := UG (UG q1 (UI _)) b2
   go_simp
   refine (UB HK).out _ _ (UB S0 _ (q2)) (fun hHeld => ?_)
   clear HK K
   simp only [List.setIfInBounds_toArray, List.set_cons_zero, List.set_cons_succ]
   refine tkI 7 ?_ rfl (by kernel_rfl) (by kernel_rfl) (fun _ _ _ h => h) ?_ hHeld ?_; rotate_left; (· (intro w hSw; (try dsimp only at hSw); go_simp <;> with_reducible rfl)); simp only [Act.put, List.setIfInBounds_toArray, List.set_cons_zero, List.set_cons_succ]
   refine tkI 8 ?_ rfl (by kernel_rfl) (by kernel_rfl) (fun _ _ _ h => h) ?_ hHeld ?_; rotate_left; (· (intro w hSw; (try dsimp only at hSw); go_simp <;> with_reducible rfl)); simp only [Act.put, List.setIfInBounds_toArray, List.set_cons_zero, List.set_cons_succ]
   refine tkI 9 ?_ rfl (by kernel_rfl) (by kernel_rfl) (fun _ _ _ h => h) ?_ hHeld ?_; rotate_left; (· (intro w hSw; (try dsimp only at hSw); go_simp <;> with_reducible rfl)); simp only [Act.put, List.setIfInBounds_toArray, List.set_cons_zero, List.set_cons_succ]
   refine tkI 10 ?_ rfl (by kernel_rfl) (by kernel_rfl) (fun _ _ _ h => h) ?_ hHeld ?_; rotate_left; (· (intro w hSw; (try dsimp only at hSw); go_simp <;> with_reducible rfl)); simp only [Act.put, List.setIfInBounds_toArray, List.set_cons_zero, List.set_cons_succ]
   have zz := q1.size
   have KA := UC (UE b2 (heap_alloc_new w1 _))
   refine runI 12 rfl (by kernel_rfl) (by kernel_rfl) (fun K hK => ?_)
   have HK := UC hK
   clear hK hHeld
   refine I6 39 (.tmp 5) (.tmp 16) rfl w1.heap.size (.slice ea el ec) (.int .i64 ety) (.int .i64 ett) (.int .i64 ead) (.slice fa fl fc) (.slice ga gl gc) (.slice ja jl jc) rfl rfl (UB KA) (by kernel_rfl) (by kernel_rfl) ?_
   obtain ⟨_, u9⟩ := set7 (c0 := .slice ea el ec) (c1 := .int .i64 ety) (c2 := .int .i64 ett) (c3 := .int .i64 ead) (c4 := .slice fa fl fc) (c5 := .slice ga gl gc) (c6 := .slice ja jl jc) (UB KA)
   have q9 := u9.below (q2) (by omega)
   refine (UB HK).out _ _ (UB S0 _ q9) (fun hHeld => ?_)
   clear HK K
   simp only [Act.put, List.setIfInBounds_toArray, List.set_cons_zero, List.set_cons_succ]
   refine tkI 13 ?_ rfl (by kernel_rfl) (by kernel_rfl) (fun _ _ _ h => h) ?_ hHeld ?_; rotate_left; (· (intro w hSw; (try dsimp only at hSw); go_simp <;> with_reducible rfl)); simp only [Act.put, List.setIfInBounds_toArray, List.set_cons_zero, List.set_cons_succ]
   refine wpAnyH_done (by kernel_rfl) ?_ _
   clear hHeld
   go_wp2
   go_ret
   exact ⟨rfl, UG (UB BB) q9⟩
 ·have HK := UC hK
  clear hK hHeld
  go_simp
  skip
  refine (UB HK).out _ _ (UB S0 _ (UI _)) (fun hHeld => ?_)
  clear HK K
  simp only [List.setIfInBounds_toArray, List.set_cons_zero, List.set_cons_succ]
  refine wpAnyH_ready (rs := [3]) (by kernel_rfl) (by simp) (AllReadyH.cons (UY rfl) (fun K hK => ?_) AllReadyH.nil)
  have HK := UC hK
  clear hK hHeld
  go_simp
  refine (UB NK _ (UI _)).mono ?_
  rintro e w1 ⟨rfl, b1⟩
  have q1 := UG (UI _) b1
  go_simp
  refine (UB HK).out _ _ (UB S0 _ (q1)) (fun hHeld => ?_)
  clear HK K
  simp only [List.setIfInBounds_toArray, List.set_cons_zero, List.set_cons_succ]
  refine tkI 4 ?_ rfl (by kernel_rfl) (by kernel_rfl) (fun _ _ _ h => h) ?_ hHeld ?_; rotate_left; (· (intro w hSw; (try dsimp only at hSw); go_simp <;> with_reducible rfl)); simp only [Act.put, List.setIfInBounds_toArray, List.set_cons_zero, List.set_cons_succ]
  refine wpAnyH_ready (rs := [6]) (by kernel_rfl) (by simp) (AllReadyH.cons (UY rfl) (fun K hK => ?_) AllReadyH.nil)
  have HK := UC hK
  clear hK hHeld
  go_simp
  refine (UB DK _ (q1)).mono ?_
  rintro e w2 ⟨rfl, b2⟩
  have q2 := UG q1 b2
  go_simp
  refine (UB HK).out _ _ (UB S0 _ (q2)) (fun hHeld => ?_)
  clear HK K
  simp only [List.setIfInBounds_toArray, List.set_cons_zero, List.set_cons_succ]
  refine tkI 7 ?_ rfl (by kernel_rfl) (by kernel_rfl) (fun _ _ _ h => h) ?_ hHeld ?_; rotate_left; (· (intro w hSw; (try dsimp only at hSw); go_simp <;> with_reducible rfl)); simp only [Act.put, List.setIfInBounds_toArray, List.set_cons_zero, List.set_cons_succ]
  refine tkI 8 ?_ rfl (by kernel_rfl) (by kernel_rfl) (fun _ _ _ h => h) ?_ hHeld ?_; rotate_left; (· (intro w hSw; (try dsimp only at hSw); go_simp <;> with_reducible rfl)); simp only [Act.put, List.setIfInBounds_toArray, List.set_cons_zero, List.set_cons_succ]
  refine tkI 9 ?_ rfl (by kernel_rfl) (by kernel_rfl) (fun _ _ _ h => h) ?_ hHeld ?_; rotate_left; (· (intro w hSw; (try dsimp only at hSw); go_simp <;> with_reducible rfl)); simp only [Act.put, List.setIfInBounds_toArray, List.set_cons_zero, List.set_cons_succ]
  refine tkI 10 ?_ rfl (by kernel_rfl) (by kernel_rfl) (fun _ _ _ h => h) ?_ hHeld ?_; rotate_left; (· (intro w hSw; (try dsimp only at hSw); go_simp <;> with_reducible rfl)); simp only [Act.put, List.setIfInBounds_toArray, List.set_cons_zero, List.set_cons_succ]
  have KA := UC (UE b2 (UE b1 (heap_alloc_new W _)))
  refine runI 12 rfl (by kernel_rfl) (by kernel_rfl) (fun K hK => ?_)
  have HK := UC hK
  clear hK hHeld
  refine I6 39 (.tmp 5) (.tmp 16) rfl W.heap.size (.slice ea el ec) (.int .i64 ety) (.int .i64 ett) (.int .i64 ead) (.slice fa fl fc) (.slice ga gl gc) (.slice ja jl jc) rfl rfl (UB KA) (by kernel_rfl) (by kernel_rfl) ?_
  obtain ⟨_, u9⟩ := set7 (c0 := .slice ea el ec) (c1 := .int .i64 ety) (c2 := .int .i64 ett) (c3 := .int .i64 ead) (c4 := .slice fa fl fc) (c5 := .slice ga gl gc) (c6 := .slice ja jl jc) (UB KA)
  have q9 := u9.below (q2) (by omega)
  refine (UB HK).out _ _ (UB S0 _ q9) (fun hHeld => ?_)
  clear HK K
  simp only [Act.put, List.setIfInBounds_toArray, List.set_cons_zero, List.set_cons_succ]
  refine tkI 13 ?_ rfl (by kernel_rfl) (by kernel_rfl) (fun _ _ _ h => h) ?_ hHeld ?_; rotate_left; (· (intro w hSw; (try dsimp only at hSw); go_simp <;> with_reducible rfl)); simp only [Act.put, List.setIfInBounds_toArray, List.set_cons_zero, List.set_cons_succ]
  refine wpAnyH_done (by kernel_rfl) ?_ _
  clear hHeld
  go_wp2
  go_ret
  exact ⟨rfl, UG (UB BB) q9⟩
end Go.Proofs.YthobpbnaklnbiaaGreat

namespace Go.Proofs.YthobpbnaklnbiaaGreat
open Go.RowKit Go.Shelf
open Go.ChangeMaps (setBlock heap_setBlock_same heap_setBlock_other)
open Go.MapKept (stamped_iff stamped_erase Stamped)
open Go.Maps (Keyed string_keyed)
open Go.WideMaps (keyOf_string_mk)
set_option linter.unusedVariables false

theorem two_map {α β : Type} {R R' : α → β → Prop} {f : β → β} : ∀ {l : List α} {m : List β}, Two R l m → (∀ a ∈ l, ∀ b, R a b → R' a (f b)) → Two R' l (m.map f) := by
 intro l m h
 induction h with
 | nil => intro _; exact .nil
 | cons h1 _ ih => intro hf; exact .cons (hf _ (List.mem_cons_self ..) _ h1) (ih (fun a ha => hf a (List.mem_cons_of_mem _ ha)))
theorem Tc {w : World} {p : Nat} {qs rs : List (ByteArray × Value)} (h : MapV w p qs) (h' : MapV w p rs) : qs = rs := by
 obtain ⟨es, c, hb, _, _, rfl⟩ := h
 obtain ⟨es', c', hb', _, _, rfl⟩ := h'
 rw [hb] at hb'
 cases hb'
 rfl
theorem Yp {n0 : Nat} {w w' : World} {b p : Nat} {kn kd : ByteArray} {ps : List (ByteArray × Value)} {B : Bk} (hB : Ch n0 w b B) (h1 : MapV w b ps) (hl : Aj kn ps = some (.map (some p))) (hpb : p ≠ b) (hm : ∀ qs, MapV w p qs → MapV w' p (delA kd qs)) (hg : w.grownBy w' (some p)) (hk : E5 w w') : Ch n0 w' b (Kj kn kd B) := by
 obtain ⟨h0, ps', h1', h2, h3⟩ := hB
 obtain rfl := Tc h1 h1'
 have hbl := h1.lt
 refine ⟨h0, ps, h1.kept (hg.block b hbl (fun e => by cases e; exact hpb rfl)), two_map h2 ?_, h3⟩
 rintro ⟨a1, a2⟩ ha ⟨q1, q2⟩ ⟨e1, p', e2, e3, e4, e5⟩
 dsimp only at e1 e2 e5
 subst e1 e2
 have hla := Bq h1.apart ha
 by_cases hq : a1 = kn
 ·subst hq
  rw [hl] at hla
  simp only [Option.some.injEq, Value.map.injEq] at hla
  subst hla
  rw [if_pos rfl]
  obtain ⟨qs, m1, m2⟩ := e5
  exact ⟨rfl, p, rfl, e3, e4, delA kd qs, hm qs m1, (two_del m2).mono (fun a c h => ⟨h.1, h.2.keptX hk⟩)⟩
 ·rw [if_neg hq]
  have hne : p' ≠ p := fun e => by
   subst e
   exact Nu h3 (Ed hl) _ ha hq rfl
  exact ⟨rfl, p', rfl, e3, e4, e5.kept (hg.block p' e5.lt (fun e => by cases e; exact hne rfl)) hk⟩

set_option maxHeartbeats 2000000 in
set_option maxRecDepth 100000 in
theorem Rs {n0 b : Nat} {B : Bk} {vn vt vx vi : Value} {r : Rec} {w : World} (hB : Ch n0 w b B) (h : HasR w vn vt vx vi r) (hok : rrOk r = true) (hz : n0 ≤ w.heap.size) :
  Calls Tryz.prog 26 #[.map (some b), .agg #[vn, .int .i64 r.type, .int .i64 r.ttl, .int .i64 r.addr, vt, vx, vi]] w fun e w' => e = .returned (.bool (Bs r B).2) ∧ Ch n0 w' b (Bs r B).1 ∧ Ey w w' ∧ Below n0 w w' := by
 obtain ⟨na, nc, rfl, _⟩ := h.name.form
 obtain ⟨ta, tc, rfl, _⟩ := h.to.form
 obtain ⟨xa, xc, rfl, _⟩ := h.text.form
 obtain ⟨ia, ic, rfl, _⟩ := h.nums.form
 have hsn := Ce (Ai hok).1
 have hkn := Gh hsn
 have hkd := Ja hok
 have b0 := UI (w := w) (.cells #[.slice na r.name.length nc, .int .i64 r.type, .int .i64 r.ttl, .int .i64 r.addr, .slice ta r.to.length tc, .slice xa r.text.length xc, .slice ia r.nums.length ic] 39)
 have k0 := heap_alloc_new w (.cells #[.slice na r.name.length nc, .int .i64 r.type, .int .i64 r.ttl, .int .i64 r.addr, .slice ta r.to.length tc, .slice xa r.text.length xc, .slice ia r.nums.length ic] 39)
 have HH := UC (Wg (hB.below b0) (h.below b0) hok)
 have NK := UC (fun w' (hb : Below w.heap.size w w') => Fx (h.name.below hb) hsn.1 hsn.2)
 have DK := UC (fun w' (hb : Below w.heap.size w w') => Fu (h.below hb) hok)
 have HB := UC hB
 have K0 := UC k0
 generalize hKN : strOfNums (keyN r.name) = kn at *
 generalize hKD : strOfNums (keyD r) = kd at *
 have hres : Bs r B = if (Aj kd ((Aj kn B).getD [])).isSome = true ∧ r.type ≠ 6 then (Kj kn kd B, true) else (B, false) := by
  unfold Bs keyR
  rw [hKN, hKD]
 generalize Bs r B = res at *
 have HRES := UC hres
 clear hB h k0 hKN hKD hres
 cases hhad : (Aj kd ((Aj kn B).getD [])).isSome with
 | false =>
  have hr := UB HRES
  rw [hhad, if_neg (by simp)] at hr
  subst hr
  rw [hhad] at HH
  clear hhad HRES NK DK
  obtain ⟨d0, d1, d2, d3, d4, d5, d6⟩ := UJ (UB K0)
  go_enter Tryz.func26, Tryz.ntmps26
  go_wp2_with fail
  refine (UB HH).mono ?_
  rintro e w1 ⟨rfl, b1⟩
  clear d0 d1 d2 d3 d4 d5 d6
  obtain ⟨e0, e1, e2, e3, e4, e5, e6⟩ := UJ (UE b1 (UB K0))
  go_wp2_with fail
  go_ret
  have bb := UG b0 b1
  exact ⟨rfl, (UB HB).below bb, By bb, bb.mono hz⟩
 | true =>
  rw [hhad] at HH
  by_cases h6 : r.type = 6
  ·have hr := UB HRES
   rw [if_neg (fun q => q.2 h6)] at hr
   subst hr
   have h6b : (r.type == 6) = true := by rw [h6]; rfl
   clear hhad HRES NK DK h6
   obtain ⟨d0, d1, d2, d3, d4, d5, d6⟩ := UJ (UB K0)
   go_enter Tryz.func26, Tryz.ntmps26
   go_wp2_with fail
   refine (UB HH).mono ?_
   rintro e w1 ⟨rfl, b1⟩
   clear d0 d1 d2 d3 d4 d5 d6
   obtain ⟨e0, e1, e2, e3, e4, e5, e6⟩ := UJ (UE b1 (UB K0))
   go_wp2_with fail
   go_ret
   have bb := UG b0 b1
   exact ⟨rfl, (UB HB).below bb, By bb, bb.mono hz⟩
  ·have hr := UB HRES
   rw [hhad, if_pos ⟨rfl, h6⟩] at hr
   subst hr
   have h6b : (r.type == 6) = false := by rw [beq_eq_false_iff_ne]; exact h6
   have HHAD := UC hhad
   clear hhad HRES h6
   obtain ⟨d0, d1, d2, d3, d4, d5, d6⟩ := UJ (UB K0)
   go_enter Tryz.func26, Tryz.ntmps26
   go_wp2_with fail
   refine (UB HH).mono ?_
   rintro e w1 ⟨rfl, b1⟩
   clear d0 d1 d2 d3 d4 d5 d6
   have q1 := UG b0 b1
   have K1 := UE b1 (UB K0)
   obtain ⟨e0, e1, e2, e3, e4, e5, e6⟩ := UJ K1
   have Q1 := UC q1
   have KK := UC K1
   clear q1 b1 b0 K1 K0 HH
   go_wp2_with fail
   clear e0 e1 e2 e3 e4 e5 e6
   have qd := UG (UB Q1) (UX (w := w1))
   have kd1 := UE (UX (w := w1)) (UB KK)
   obtain ⟨mb, hlook, hcase⟩ := Q5 (UB HB) hkn
   rcases hcase with ⟨rfl, hno⟩ | ⟨p, ps, P, rfl, hMb, hlp, hlP, hnp, hpb, hPM⟩
   ·have := UB HHAD
    rw [hno] at this
    simp [Aj] at this
   ·have hpl := hPM.lt
    have hbl := hMb.lt
    have S0 := UC (fun w' (hb : Below w1.drew.heap.size w1.drew w') => (⟨UJ (UE hb kd1), hlook w' (UG qd hb)⟩ : (_ ∧ _ ∧ _ ∧ _ ∧ _ ∧ _ ∧ _) ∧ _))
    have KD := UC kd1
    have QD := UC qd
    have HL := UC hlook
    clear kd1 qd hlook KK Q1
    refine Zg 8 (S := fun w' => (w'.cell? ⟨w.heap.size, 0, none⟩ = some (.slice na r.name.length nc) ∧ w'.cell? ⟨w.heap.size, 1, none⟩ = some (.int .i64 r.type) ∧ w'.cell? ⟨w.heap.size, 2, none⟩ = some (.int .i64 r.ttl) ∧ w'.cell? ⟨w.heap.size, 3, none⟩ = some (.int .i64 r.addr) ∧ w'.cell? ⟨w.heap.size, 4, none⟩ = some (.slice ta r.to.length tc) ∧ w'.cell? ⟨w.heap.size, 5, none⟩ = some (.slice xa r.text.length xc) ∧ w'.cell? ⟨w.heap.size, 6, none⟩ = some (.slice ia r.nums.length ic)) ∧ (Instr.lookup 52 (.map (some b)) (.string kn) false).run Tryz.prog w' = .ok (.map (some p)) w') (by kernel_rfl) rfl (UB S0 _ (Below.refl _ _)) (fun hHeld => ?_)
    simp only [List.replicate]
    generalize w1.drew = W at *
    refine tkI 0 ?_ rfl (by kernel_rfl) (by kernel_rfl) (fun _ _ _ h => h) ?_ hHeld ?_; rotate_left; (· (intro w hSw; (try dsimp only at hSw); go_simp <;> with_reducible rfl)); simp only [Act.put, List.setIfInBounds_toArray, List.set_cons_zero, List.set_cons_succ]
    refine tkI 1 ?_ rfl (by kernel_rfl) (by kernel_rfl) (fun _ _ _ h => h) ?_ hHeld ?_; rotate_left; (· (intro w hSw; (try dsimp only at hSw); go_simp <;> with_reducible rfl)); simp only [Act.put, List.setIfInBounds_toArray, List.set_cons_zero, List.set_cons_succ]
    refine tkI 2 ?_ rfl (by kernel_rfl) (by kernel_rfl) (fun _ _ _ h => h) ?_ hHeld ?_; rotate_left; (· (intro w hSw; (try dsimp only at hSw); go_simp <;> with_reducible rfl)); simp only [Act.put, List.setIfInBounds_toArray, List.set_cons_zero, List.set_cons_succ]
    refine tkI 5 ?_ rfl (by kernel_rfl) (by kernel_rfl) (fun _ _ _ h => h) ?_ hHeld ?_; rotate_left; (· (intro w hSw; (try dsimp only at hSw); go_simp <;> with_reducible rfl)); simp only [Act.put, List.setIfInBounds_toArray, List.set_cons_zero, List.set_cons_succ]
    refine runI 3 rfl (by kernel_rfl) (by kernel_rfl) (fun K hK => ?_)
    have HK := UC hK
    clear hK hHeld
    go_simp
    refine (UB NK _ (UB QD)).mono ?_
    rintro e w2 ⟨rfl, q2⟩
    go_simp
    refine (UB HK).out _ _ (UB S0 _ q2) (fun hHeld => ?_)
    clear HK K
    simp only [List.setIfInBounds_toArray, List.set_cons_zero, List.set_cons_succ]
    refine tkI 4 ?_ rfl (by kernel_rfl) (by kernel_rfl) (fun _ _ _ h => h) ?_ hHeld ?_; rotate_left; (· (intro w hSw; (try dsimp only at hSw); go_simp <;> with_reducible rfl)); simp only [Act.put, List.setIfInBounds_toArray, List.set_cons_zero, List.set_cons_succ]
    refine runI 6 rfl (by kernel_rfl) (by kernel_rfl) (fun K hK => ?_)
    have HK := UC hK
    clear hK hHeld
    go_simp
    refine (UB DK _ (UG (UB QD) q2)).mono ?_
    rintro e w3 ⟨rfl, b3⟩
    have q3 := UG q2 b3
    clear b3 q2
    go_simp
    refine (UB HK).out _ _ (UB S0 _ q3) (fun hHeld => ?_)
    clear HK K
    simp only [List.setIfInBounds_toArray, List.set_cons_zero, List.set_cons_succ]
    have qq := UG (UB QD) q3
    obtain ⟨qs, hMq, hTq⟩ := hPM.kept (qq.block p hPM.lt) (C2 qq)
    have hMb3 := hMb.below qq
    obtain ⟨w5, hdel, hM5, hg5⟩ := Zy (t := 80) 0 Tryz.underlying80 Tryz.underlying9 hMq kd hkd
    have hall : ∀ qs', MapV w3 p qs' → MapV w5 p (delA kd qs') := fun qs' h' => by rw [Tc h' hMq]; exact hM5
    have hko := Lk hg5 hMq
    have hB5 := UC (Yp ((UB HB).below qq) hMb3 hlp hpb hall hg5 hko.x)
    have hk5 := UC ((By qq).trans hko)
    have hb5 := UC ((qq.mono hz).trans ((Below.refl n0 w3).grown hg5 (by have := qq.size; omega) (fun k e => by cases e; exact hnp)))
    have k3 := UE q3 (UB KD)
    have k5 := (hg5.block w.heap.size (VC k3) (fun e => by cases e; omega)).trans k3
    have hMb5 := hMb3.kept (hg5.block b hMb3.lt (fun e => by cases e; exact hpb rfl))
    have S5 := UC (⟨UJ k5, De hMb5 hkn hlp⟩ : (_ ∧ _ ∧ _ ∧ _ ∧ _ ∧ _ ∧ _) ∧ _)
    clear qq hMq hTq hMb3 hM5 hg5 hall hko k3 k5 hMb5 hMb hPM q3
    refine runI 7 rfl (by kernel_rfl) (by kernel_rfl) (fun K hK => ?_)
    have HK := UC hK
    clear hK hHeld
    go_simp
    refine (UB HK).out _ _ (UB S5) (fun hHeld => ?_)
    clear HK K
    simp only [List.setIfInBounds_toArray, List.set_cons_zero, List.set_cons_succ]
    refine wpAnyH_done (by kernel_rfl) ?_ _
    clear hHeld
    go_wp2_with fail
    go_ret
    exact ⟨rfl, UB hB5, UB hk5, UB hb5⟩
end Go.Proofs.YthobpbnaklnbiaaGreat

namespace Go.Proofs.YthobpbnaklnbiaaGreat
open Go.RowKit Go.Maps Go.Sort Go.Shelf
open Go.WideElems (Fit rd rg rd_mk rg_of)
open Go.WideMaps (keyOf_string_mk)
set_option linter.unusedVariables false

theorem U0 (mb : Option Nat) (W : World) : CallsIn Fence.wide 5 Tryz.prog 95 #[.map mb] W fun e w' => e = .returned (.func (.func 116) #[] #[.pointer (some ⟨W.heap.size, 0, none⟩)]) ∧ w' = W.alloc (.cells #[.map mb] 51) :=
 AnyZ.keys_in Tryz.keys95 Fence.wide 5 trivial rfl mb W

set_option maxHeartbeats 1000000 in
theorem Rg {w : World} {b : Nat} {ps : List (ByteArray × Value)} (h : MapV w b ps) (hl : ps.length ≤ 1000) :
  CallsIn Fence.wide 5 Tryz.prog 88 #[.func (.func 116) #[] #[.pointer (some ⟨w.heap.size, 0, none⟩)]] (w.alloc (.cells #[.map (some b)] 51)) fun e w' => ∃ v, e = .returned v ∧
   w'.ownsRow (w.heap.size + 1) 9 1 v ps.length ((Bv ps).map encStr) ∧ Below w.heap.size w w' := by
 obtain ⟨D0, hown, hperm, hsize⟩ := Qk h (by unfold maxLen; omega)
 have hbl := hown.lt
 have hseq : SeqGives Fence.wide 2 Tryz.prog 116 #[.pointer (some ⟨w.heap.size, 0, none⟩)] encStr (fun ss => ss.Perm (strKeys D0)) (Maps.size D0) (w.alloc (.cells #[.map (some b)] 51)) :=
  AnyZ.keys_gives (ρ := Tryz.keys95_ren) { Tryz.keys95 with } Fence.wide _ trivial rfl (by omega) w.heap.size b ps.length D0 _ (by simp) (by simp) (by
   obtain ⟨es, clock, hb, Ft, hs, hD⟩ := hown
   exact ⟨es, clock, (Below.heap_alloc _ _ b hbl).trans hb, Ft, hs, hD⟩)
 have hS := AnyZ.sorted_in Tryz.sorted88 Fence.wide 5 trivial trivial trivial trivial rfl (by omega) (Uy _) (enters_of Tryz.func113 (by kernel_rfl) rfl) 116 #[.pointer (some ⟨w.heap.size, 0, none⟩)] trivial (enters_of Tryz.func116 (by kernel_rfl) rfl) _ _ (by rw [hsize]; unfold maxLen; omega) (by rw [hsize]; omega) _ hseq
 refine hS.mono ?_
 rintro e w' ⟨v, ss, rfl, hp, hrow, _, hb⟩
 have e1 : ss.length = ps.length := by rw [hp.length_eq, hperm.length_eq, List.length_map]
 have e2 : ss.mergeSort (fun x y => decide (x ≤ y)) = Bv ps := mergeSort_of_perm (hp.trans hperm)
 rw [e1, e2] at hrow
 have zs : (w.alloc (.cells #[.map (some b)] 51)).heap.size = w.heap.size + 1 := World.size_alloc w _
 rw [zs] at hrow hb
 exact ⟨v, rfl, hrow, (UI (w := w) _).trans (hb.mono (by omega))⟩
end Go.Proofs.YthobpbnaklnbiaaGreat
