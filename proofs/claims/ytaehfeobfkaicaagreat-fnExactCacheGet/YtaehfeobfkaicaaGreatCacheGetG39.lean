/-
  Contract of the specification's l3own: a record of its own with the same fields.
-/
import Derived.Test.YtaehfeobfkaicaaGreatCacheGetG38
import Derived.Test.YtaehfeobfkaicaaGreatCacheGetG28
import Derived.Test.YtaehfeobfkaicaaGreatCacheGetG20
namespace Go.Proofs.YtaehfeobfkaicaaGreat
open Go.RowKit
set_option linter.unusedVariables false

theorem info_int8 : (Tryz.prog.info? 3).map (fun i => (i.zero, i.size, i.bytes)) = some (some (.int .i64 0), 1, 8) := by kernel_rfl
theorem below_lit {w : World} (e : TypeId) : Below w.heap.size w (w.alloc (.cells #[] e)) := UI _
set_option maxHeartbeats 8000000 in
set_option maxRecDepth 100000 in
theorem l3own_has {vn vt vx vi : Value} {r : Rec} {w : World} (h : HasR w vn vt vx vi r) (hn : DrawnN r.name) (ht : DrawnN r.to) (hx : r.text.length ≤ 1048576) (hi : r.nums.length ≤ 1048576) :
  Calls Tryz.prog 105 #[.agg #[vn, .int .i64 r.type, .int .i64 r.ttl, .int .i64 r.addr, vt, vx, vi]] w fun e w' => ∃ un ut ux ui, e = .returned (.agg #[un, .int .i64 r.type, .int .i64 r.ttl, .int .i64 r.addr, ut, ux, ui]) ∧
   OwnL w.heap.size 56 5 w' un r.name ∧ OwnL w.heap.size 56 5 w' ut r.to ∧ Own w.heap.size 5 w' ux r.text ∧ OwnI w.heap.size 3 w' ui r.nums ∧ Below w.heap.size w w' := by
 obtain ⟨na, nc, rfl, _⟩ := h.name.form
 obtain ⟨ta, tc, rfl, _⟩ := h.to.form
 obtain ⟨xa, xc, rfl, _⟩ := h.text.form
 obtain ⟨ia, ic, rfl, _⟩ := h.nums.form
 obtain ⟨hsz, k0, r0⟩ := box2 w (.cells #[.slice na r.name.length nc, .int .i64 r.type, .int .i64 r.ttl, .int .i64 r.addr, .slice ta r.to.length tc, .slice xa r.text.length xc, .slice ia r.nums.length ic] 67) #[.slice none 0 0, .int .i64 0, .int .i64 0, .int .i64 0, .slice none 0 0, .slice none 0 0, .slice none 0 0] 67
 have b0 := below2 w (.cells #[.slice na r.name.length nc, .int .i64 r.type, .int .i64 r.ttl, .int .i64 r.addr, .slice ta r.to.length tc, .slice xa r.text.length xc, .slice ia r.nums.length ic] 67) (.cells #[.slice none 0 0, .int .i64 0, .int .i64 0, .int .i64 0, .slice none 0 0, .slice none 0 0, .slice none 0 0] 67)
 have h0 := h.below b0
 have HN := UC (fun (w : World) (hh : HasL w (.slice na r.name.length nc) r.name) => l2own_short hh hn.1 hn.2)
 have HT := UC (fun (w : World) (hh : HasL w (.slice ta r.to.length tc) r.to) => l2own_short hh ht.1 ht.2)
 have zz : w.heap.size + 1 < ((w.alloc (.cells #[.slice na r.name.length nc, .int .i64 r.type, .int .i64 r.ttl, .int .i64 r.addr, .slice ta r.to.length tc, .slice xa r.text.length xc, .slice ia r.nums.length ic] 67)).alloc (.cells #[.slice none 0 0, .int .i64 0, .int .i64 0, .int .i64 0, .slice none 0 0, .slice none 0 0, .slice none 0 0] 67)).heap.size := VC r0
 have KB := UC k0
 have KR := UC r0
 have F1 := UC h0.name
 have F2 := UC h0.to
 have F3 := UC h0.text
 have F4 := UC h0.nums
 clear hsz k0 r0 h h0 hn ht
 go_enter Tryz.func105, Tryz.ntmps105
 go_wp2_with fail
 generalize (w.alloc (.cells #[.slice na r.name.length nc, .int .i64 r.type, .int .i64 r.ttl, .int .i64 r.addr, .slice ta r.to.length tc, .slice xa r.text.length xc, .slice ia r.nums.length ic] 67)).alloc (.cells #[.slice none 0 0, .int .i64 0, .int .i64 0, .int .i64 0, .slice none 0 0, .slice none 0 0, .slice none 0 0] 67) = W at *
 have bd := UX (w := W)
 have bb := UG b0 bd
 replace KB := UC (UE bd (UB KB))
 replace KR := UC (UE bd (UB KR))
 replace F1 := UC ((UB F1).below bd)
 replace F2 := UC ((UB F2).below bd)
 replace F3 := UC ((UB F3).below bd)
 replace F4 := UC ((UB F4).below bd)
 have z0 := bd.size
 clear bd b0
 refine wp_region_held_drew (S := (fun w' => w'.cell? ⟨w.heap.size, 0, none⟩ = some (.slice na r.name.length nc) ∧ w'.cell? ⟨w.heap.size, 1, none⟩ = some (.int .i64 r.type) ∧ w'.cell? ⟨w.heap.size, 2, none⟩ = some (.int .i64 r.ttl) ∧ w'.cell? ⟨w.heap.size, 3, none⟩ = some (.int .i64 r.addr) ∧ w'.cell? ⟨w.heap.size, 4, none⟩ = some (.slice ta r.to.length tc) ∧ w'.cell? ⟨w.heap.size, 5, none⟩ = some (.slice xa r.text.length xc) ∧ w'.cell? ⟨w.heap.size, 6, none⟩ = some (.slice ia r.nums.length ic))) (by kernel_rfl) (UJ (UB KB)) (fun hHeld => ?_)
 show wpAnyH _ _ _ _ _ 22 #[false, false, false, false, false, false, false, false, false, false, false, false, false, false, false, false, false, false, false, false, false, false] _ _
 generalize W.drew = W0 at *
 refine tkF (.pointer (some ⟨w.heap.size, 0, none⟩)) rfl (by kernel_rfl) (by kernel_rfl) (fun _ _ _ h => h) ?_ hHeld ?_; (· (intro w hSw; (try dsimp only at hSw); go_simp)); simp only [Act.put, setF, List.setIfInBounds_toArray, List.set_cons_zero, List.set_cons_succ]
 refine tkF (.agg #[.slice na r.name.length nc]) rfl (by kernel_rfl) (by kernel_rfl) (fun _ _ _ h => h) ?_ hHeld ?_; (· (intro w hSw; (try dsimp only at hSw); go_simp)); simp only [Act.put, setF, List.setIfInBounds_toArray, List.set_cons_zero, List.set_cons_succ]
 refine tkI 3 (.pointer (some ⟨w.heap.size, 1, none⟩)) rfl (by kernel_rfl) (by kernel_rfl) (fun _ _ _ h => h) ?_ hHeld ?_
 ·(intro w hSw; (try dsimp only at hSw); go_simp)
 try simp only [Act.put, List.setIfInBounds_toArray, List.set_cons_zero, List.set_cons_succ]
 refine tkI 4 (.int .i64 r.type) rfl (by kernel_rfl) (by kernel_rfl) (fun _ _ _ h => h) ?_ hHeld ?_
 ·(intro w hSw; (try dsimp only at hSw); go_simp)
 try simp only [Act.put, List.setIfInBounds_toArray, List.set_cons_zero, List.set_cons_succ]
 refine tkI 5 (.pointer (some ⟨w.heap.size, 2, none⟩)) rfl (by kernel_rfl) (by kernel_rfl) (fun _ _ _ h => h) ?_ hHeld ?_
 ·(intro w hSw; (try dsimp only at hSw); go_simp)
 try simp only [Act.put, List.setIfInBounds_toArray, List.set_cons_zero, List.set_cons_succ]
 refine tkI 6 (.int .i64 r.ttl) rfl (by kernel_rfl) (by kernel_rfl) (fun _ _ _ h => h) ?_ hHeld ?_
 ·(intro w hSw; (try dsimp only at hSw); go_simp)
 try simp only [Act.put, List.setIfInBounds_toArray, List.set_cons_zero, List.set_cons_succ]
 refine tkI 7 (.pointer (some ⟨w.heap.size, 3, none⟩)) rfl (by kernel_rfl) (by kernel_rfl) (fun _ _ _ h => h) ?_ hHeld ?_
 ·(intro w hSw; (try dsimp only at hSw); go_simp)
 try simp only [Act.put, List.setIfInBounds_toArray, List.set_cons_zero, List.set_cons_succ]
 refine tkI 8 (.int .i64 r.addr) rfl (by kernel_rfl) (by kernel_rfl) (fun _ _ _ h => h) ?_ hHeld ?_
 ·(intro w hSw; (try dsimp only at hSw); go_simp)
 try simp only [Act.put, List.setIfInBounds_toArray, List.set_cons_zero, List.set_cons_succ]
 refine tkI 9 (.pointer (some ⟨w.heap.size, 4, none⟩)) rfl (by kernel_rfl) (by kernel_rfl) (fun _ _ _ h => h) ?_ hHeld ?_
 ·(intro w hSw; (try dsimp only at hSw); go_simp)
 try simp only [Act.put, List.setIfInBounds_toArray, List.set_cons_zero, List.set_cons_succ]
 refine tkI 10 (.agg #[.slice ta r.to.length tc]) rfl (by kernel_rfl) (by kernel_rfl) (fun _ _ _ h => h) ?_ hHeld ?_
 ·(intro w hSw; (try dsimp only at hSw); go_simp)
 try simp only [Act.put, List.setIfInBounds_toArray, List.set_cons_zero, List.set_cons_succ]
 refine tkI 13 (.pointer (some ⟨w.heap.size, 5, none⟩)) rfl (by kernel_rfl) (by kernel_rfl) (fun _ _ _ h => h) ?_ hHeld ?_
 ·(intro w hSw; (try dsimp only at hSw); go_simp)
 try simp only [Act.put, List.setIfInBounds_toArray, List.set_cons_zero, List.set_cons_succ]
 refine tkI 14 (.slice xa r.text.length xc) rfl (by kernel_rfl) (by kernel_rfl) (fun _ _ _ h => h) ?_ hHeld ?_
 ·(intro w hSw; (try dsimp only at hSw); go_simp)
 try simp only [Act.put, List.setIfInBounds_toArray, List.set_cons_zero, List.set_cons_succ]
 refine tkI 17 (.pointer (some ⟨w.heap.size, 6, none⟩)) rfl (by kernel_rfl) (by kernel_rfl) (fun _ _ _ h => h) ?_ hHeld ?_
 ·(intro w hSw; (try dsimp only at hSw); go_simp)
 try simp only [Act.put, List.setIfInBounds_toArray, List.set_cons_zero, List.set_cons_succ]
 refine tkI 18 (.slice ia r.nums.length ic) rfl (by kernel_rfl) (by kernel_rfl) (fun _ _ _ h => h) ?_ hHeld ?_
 ·(intro w hSw; (try dsimp only at hSw); go_simp)
 try simp only [Act.put, List.setIfInBounds_toArray, List.set_cons_zero, List.set_cons_succ]
 refine wpAnyH_ready (rs := [2, 12, 16]) (by kernel_rfl) (by simp) (AllReadyH.cons (UY rfl) (fun K hK => ?_) (AllReadyH.cons (UY rfl) (fun K hK => ?_) (AllReadyH.cons (UY rfl) (fun K hK => ?_) AllReadyH.nil)))
 ·have HK := UC hK
  clear hK hHeld
  go_simp
  refine (UB HN _ (UB F1)).mono ?_
  rintro e w1 ⟨vN1, rfl, oN1, b1⟩
  obtain ⟨p1, q1, rfl, _⟩ := oN1.hasL.form
  replace KB := UC (UE b1 (UB KB))
  replace KR := UC (UE b1 (UB KR))
  replace F1 := UC ((UB F1).below b1)
  replace F2 := UC ((UB F2).below b1)
  replace F3 := UC ((UB F3).below b1)
  replace F4 := UC ((UB F4).below b1)
  have N1 := UC (oN1.here.wide (C' := W.heap.size) (by omega) (Nat.le_refl _))
  clear oN1
  have zN1 := b1.size
  have bb2 := UG bb b1
  clear bb
  have bb := bb2
  clear bb2
  clear b1
  (try go_simp)
  refine (UB HK).out _ _ (UJ (UB KB)) (fun hHeld => ?_)
  clear HK K
  try simp only [List.setIfInBounds_toArray, List.set_cons_zero, List.set_cons_succ]
  refine wpAnyH_ready (rs := [11, 12, 16]) (by kernel_rfl) (by simp) (AllReadyH.cons (UY rfl) (fun K hK => ?_) (AllReadyH.cons (UY rfl) (fun K hK => ?_) (AllReadyH.cons (UY rfl) (fun K hK => ?_) AllReadyH.nil)))
  ·have HK := UC hK
   clear hK hHeld
   go_simp
   refine (UB HT _ (UB F2)).mono ?_
   rintro e w2 ⟨vN2, rfl, oN2, b2⟩
   obtain ⟨p2, q2, rfl, _⟩ := oN2.hasL.form
   replace KB := UC (UE b2 (UB KB))
   replace KR := UC (UE b2 (UB KR))
   replace F1 := UC ((UB F1).below b2)
   replace F2 := UC ((UB F2).below b2)
   replace F3 := UC ((UB F3).below b2)
   replace F4 := UC ((UB F4).below b2)
   replace N1 := UC ((UB N1).below b2)
   have N2 := UC (oN2.here.wide (C' := W.heap.size) (by omega) (Nat.le_refl _))
   clear oN2
   have zN2 := b2.size
   have bb2 := UG bb b2
   clear bb
   have bb := bb2
   clear bb2
   clear b2
   (try go_simp)
   refine (UB HK).out _ _ (UJ (UB KB)) (fun hHeld => ?_)
   clear HK K
   try simp only [List.setIfInBounds_toArray, List.set_cons_zero, List.set_cons_succ]
   refine wpAnyH_ready (rs := [12, 16]) (by kernel_rfl) (by simp) (AllReadyH.cons (UY rfl) (fun K hK => ?_) (AllReadyH.cons (UY rfl) (fun K hK => ?_) AllReadyH.nil))
   ·have HK := UC hK
    clear hK hHeld
    go_simp
    have b3 := below_lit (w := w2) 5
    replace KB := UC (UE b3 (UB KB))
    replace KR := UC (UE b3 (UB KR))
    replace F1 := UC ((UB F1).below b3)
    replace F2 := UC ((UB F2).below b3)
    replace F3 := UC ((UB F3).below b3)
    replace F4 := UC ((UB F4).below b3)
    replace N1 := UC ((UB N1).below b3)
    replace N2 := UC ((UB N2).below b3)
    have L1 := UC (heap_alloc_new w2 (.cells #[] 5))
    have zL1 := b3.size
    have bb2 := UG bb b3
    clear bb
    have bb := bb2
    clear bb2
    have hL1 : W.heap.size ≤ w2.heap.size := by omega
    generalize w2.alloc (.cells #[] 5) = w3 at *
    clear b3
    (try go_simp)
    refine (UB HK).out _ _ (UJ (UB KB)) (fun hHeld => ?_)
    clear HK K
    try simp only [List.setIfInBounds_toArray, List.set_cons_zero, List.set_cons_succ]
    refine wpAnyH_ready (rs := [15, 16]) (by kernel_rfl) (by simp) (AllReadyH.cons (UY rfl) (fun K hK => ?_) (AllReadyH.cons (UY rfl) (fun K hK => ?_) AllReadyH.nil))
    ·have HK := UC hK
     clear hK hHeld
     refine VU rfl (.tmp 15) (.tmp 17) 56 5 rfl Tryz.underlying56 (.int .u8 0) 1 VJ (by decide) (by decide) W.heap.size _ (by omega) (UB L1) _ _ rfl rfl (UB F3).readsV (one_of _) (by rw [List.length_map]; omega) ?_
     rintro vX1 w4 oX1 b4
     rw [List.length_map] at oX1
     replace oX1 : Own W.heap.size 5 w4 vX1 r.text := oX1
     obtain ⟨p3, q3, rfl, _⟩ := oX1.lies
     replace KB := UC (UE b4 (UB KB))
     replace KR := UC (UE b4 (UB KR))
     replace F1 := UC ((UB F1).below b4)
     replace F2 := UC ((UB F2).below b4)
     replace F3 := UC ((UB F3).below b4)
     replace F4 := UC ((UB F4).below b4)
     replace N1 := UC ((UB N1).below b4)
     replace N2 := UC ((UB N2).below b4)
     replace L1 := UC (UE b4 (UB L1))
     have X1 := UC oX1
     clear oX1
     have zX1 := b4.size
     have bb2 := UG bb b4
     clear bb
     have bb := bb2
     clear bb2
     clear b4
     (try go_simp)
     refine (UB HK).out _ _ (UJ (UB KB)) (fun hHeld => ?_)
     clear HK K
     try simp only [List.setIfInBounds_toArray, List.set_cons_zero, List.set_cons_succ]
     refine wpAnyH_ready (rs := [16]) (by kernel_rfl) (by simp) (AllReadyH.cons (UY rfl) (fun K hK => ?_) AllReadyH.nil)
     ·have HK := UC hK
      clear hK hHeld
      go_simp
      have b5 := below_lit (w := w4) 3
      replace KB := UC (UE b5 (UB KB))
      replace KR := UC (UE b5 (UB KR))
      replace F1 := UC ((UB F1).below b5)
      replace F2 := UC ((UB F2).below b5)
      replace F3 := UC ((UB F3).below b5)
      replace F4 := UC ((UB F4).below b5)
      replace N1 := UC ((UB N1).below b5)
      replace N2 := UC ((UB N2).below b5)
      replace X1 := UC ((UB X1).below b5)
      replace L1 := UC (UE b5 (UB L1))
      have L2 := UC (heap_alloc_new w4 (.cells #[] 3))
      have zL2 := b5.size
      have bb2 := UG bb b5
      clear bb
      have bb := bb2
      clear bb2
      have hL2 : W.heap.size ≤ w4.heap.size := by omega
      generalize w4.alloc (.cells #[] 3) = w5 at *
      clear b5
      (try go_simp)
      refine (UB HK).out _ _ (UJ (UB KB)) (fun hHeld => ?_)
      clear HK K
      try simp only [List.setIfInBounds_toArray, List.set_cons_zero, List.set_cons_succ]
      refine wpAnyH_ready (rs := [19]) (by kernel_rfl) (by simp) (AllReadyH.cons (UY rfl) (fun K hK => ?_) AllReadyH.nil)
      ·have HK := UC hK
       clear hK hHeld
       refine VU rfl (.tmp 19) (.tmp 21) 57 3 rfl Tryz.underlying57 (.int .i64 0) 8 info_int8 (by decide) (by decide) W.heap.size _ (by omega) (UB L2) _ _ rfl rfl (UB F4).readsV (one_ofI _) (by rw [List.length_map]; omega) ?_
       rintro vY1 w6 oY1 b6
       rw [List.length_map] at oY1
       replace oY1 : OwnI W.heap.size 3 w6 vY1 r.nums := oY1
       obtain ⟨p4, q4, rfl, _⟩ := oY1.lies
       replace KB := UC (UE b6 (UB KB))
       replace KR := UC (UE b6 (UB KR))
       replace F1 := UC ((UB F1).below b6)
       replace F2 := UC ((UB F2).below b6)
       replace F3 := UC ((UB F3).below b6)
       replace F4 := UC ((UB F4).below b6)
       replace N1 := UC ((UB N1).below b6)
       replace N2 := UC ((UB N2).below b6)
       replace X1 := UC ((UB X1).below b6)
       replace L1 := UC (UE b6 (UB L1))
       replace L2 := UC (UE b6 (UB L2))
       have Y1 := UC oY1
       clear oY1
       have zY1 := b6.size
       have bb2 := UG bb b6
       clear bb
       have bb := bb2
       clear bb2
       clear b6
       (try go_simp)
       refine (UB HK).out _ _ (UJ (UB KB)) (fun hHeld => ?_)
       clear HK K
       try simp only [List.setIfInBounds_toArray, List.set_cons_zero, List.set_cons_succ]
       refine tkI 20 (.agg #[.slice p1 r.name.length q1, .int .i64 r.type, .int .i64 r.ttl, .int .i64 r.addr, .slice p2 r.to.length q2, .slice p3 r.text.length q3, .slice p4 r.nums.length q4]) rfl (by kernel_rfl) (by kernel_rfl) (fun _ _ _ h => h) ?_ hHeld ?_
       ·(intro w hSw; (try dsimp only at hSw); go_simp)
       try simp only [Act.put, List.setIfInBounds_toArray, List.set_cons_zero, List.set_cons_succ]
       obtain ⟨R9, u9⟩ := set7 (c0 := .slice p1 r.name.length q1) (c1 := .int .i64 r.type) (c2 := .int .i64 r.ttl) (c3 := .int .i64 r.addr) (c4 := .slice p2 r.to.length q2) (c5 := .slice p3 r.text.length q3) (c6 := .slice p4 r.nums.length q4) (UB KR)
       refine wpAnyH_ready (rs := [21]) (by kernel_rfl) (by simp) (AllReadyH.cons (UY rfl) (fun K hK => ?_) AllReadyH.nil)
       rw [if_pos (by rfl)]
       refine wp_store7 67 (.tmp 2) (.tmp 23) rfl (w.heap.size + 1) (.slice p1 r.name.length q1) (.int .i64 r.type) (.int .i64 r.ttl) (.int .i64 r.addr) (.slice p2 r.to.length q2) (.slice p3 r.text.length q3) (.slice p4 r.nums.length q4) rfl rfl (UB KR) (by kernel_rfl) (by simp [Value.oneCell']) ?_
       refine hK.out _ _ (UJ (u9.kept (UB KB) (by omega))) (fun hHeld => ?_)
       clear hK K hHeld
       refine wpAnyH_done (by kernel_rfl) ?_ _
       go_wp2_with fail
       refine bodyPost_ret (results_cell_row rfl _ _ (w.heap.size + 1) 67 #[.slice p1 r.name.length q1, .int .i64 r.type, .int .i64 r.ttl, .int .i64 r.addr, .slice p2 r.to.length q2, .slice p3 r.text.length q3, .slice p4 r.nums.length q4] (0, 0) _ rfl R9 Tryz.underlying67 rfl (by kernel_rfl)) rfl ?_
       exact ⟨_, _, _, _, rfl, ((UB N1).outside u9 (.inr (by omega))).ownL.mono (by omega), ((UB N2).outside u9 (.inr (by omega))).ownL.mono (by omega), ((UB X1).outside u9 (by omega)).mono (by omega), (((UB Y1).here).outside u9 (.inr (by omega))).1.mono (by omega), u9.below bb (by omega)⟩
    ·have HK := UC hK
     clear hK hHeld
     go_simp
     have b7 := below_lit (w := w3) 3
     replace KB := UC (UE b7 (UB KB))
     replace KR := UC (UE b7 (UB KR))
     replace F1 := UC ((UB F1).below b7)
     replace F2 := UC ((UB F2).below b7)
     replace F3 := UC ((UB F3).below b7)
     replace F4 := UC ((UB F4).below b7)
     replace N1 := UC ((UB N1).below b7)
     replace N2 := UC ((UB N2).below b7)
     replace L1 := UC (UE b7 (UB L1))
     have L2 := UC (heap_alloc_new w3 (.cells #[] 3))
     have zL2 := b7.size
     have bb2 := UG bb b7
     clear bb
     have bb := bb2
     clear bb2
     have hL2 : W.heap.size ≤ w3.heap.size := by omega
     generalize w3.alloc (.cells #[] 3) = w7 at *
     clear b7
     (try go_simp)
     refine (UB HK).out _ _ (UJ (UB KB)) (fun hHeld => ?_)
     clear HK K
     try simp only [List.setIfInBounds_toArray, List.set_cons_zero, List.set_cons_succ]
     refine wpAnyH_ready (rs := [15]) (by kernel_rfl) (by simp) (AllReadyH.cons (UY rfl) (fun K hK => ?_) AllReadyH.nil)
     ·have HK := UC hK
      clear hK hHeld
      refine VU rfl (.tmp 15) (.tmp 17) 56 5 rfl Tryz.underlying56 (.int .u8 0) 1 VJ (by decide) (by decide) W.heap.size _ (by omega) (UB L1) _ _ rfl rfl (UB F3).readsV (one_of _) (by rw [List.length_map]; omega) ?_
      rintro vX1 w8 oX1 b8
      rw [List.length_map] at oX1
      replace oX1 : Own W.heap.size 5 w8 vX1 r.text := oX1
      obtain ⟨p3, q3, rfl, _⟩ := oX1.lies
      replace KB := UC (UE b8 (UB KB))
      replace KR := UC (UE b8 (UB KR))
      replace F1 := UC ((UB F1).below b8)
      replace F2 := UC ((UB F2).below b8)
      replace F3 := UC ((UB F3).below b8)
      replace F4 := UC ((UB F4).below b8)
      replace N1 := UC ((UB N1).below b8)
      replace N2 := UC ((UB N2).below b8)
      replace L1 := UC (UE b8 (UB L1))
      replace L2 := UC (UE b8 (UB L2))
      have X1 := UC oX1
      clear oX1
      have zX1 := b8.size
      have bb2 := UG bb b8
      clear bb
      have bb := bb2
      clear bb2
      clear b8
      (try go_simp)
      refine (UB HK).out _ _ (UJ (UB KB)) (fun hHeld => ?_)
      clear HK K
      try simp only [List.setIfInBounds_toArray, List.set_cons_zero, List.set_cons_succ]
      refine wpAnyH_ready (rs := [19]) (by kernel_rfl) (by simp) (AllReadyH.cons (UY rfl) (fun K hK => ?_) AllReadyH.nil)
      ·have HK := UC hK
       clear hK hHeld
       refine VU rfl (.tmp 19) (.tmp 21) 57 3 rfl Tryz.underlying57 (.int .i64 0) 8 info_int8 (by decide) (by decide) W.heap.size _ (by omega) (UB L2) _ _ rfl rfl (UB F4).readsV (one_ofI _) (by rw [List.length_map]; omega) ?_
       rintro vY1 w9 oY1 b9
       rw [List.length_map] at oY1
       replace oY1 : OwnI W.heap.size 3 w9 vY1 r.nums := oY1
       obtain ⟨p4, q4, rfl, _⟩ := oY1.lies
       replace KB := UC (UE b9 (UB KB))
       replace KR := UC (UE b9 (UB KR))
       replace F1 := UC ((UB F1).below b9)
       replace F2 := UC ((UB F2).below b9)
       replace F3 := UC ((UB F3).below b9)
       replace F4 := UC ((UB F4).below b9)
       replace N1 := UC ((UB N1).below b9)
       replace N2 := UC ((UB N2).below b9)
       replace X1 := UC ((UB X1).below b9)
       replace L1 := UC (UE b9 (UB L1))
       replace L2 := UC (UE b9 (UB L2))
       have Y1 := UC oY1
       clear oY1
       have zY1 := b9.size
       have bb2 := UG bb b9
       clear bb
       have bb := bb2
       clear bb2
       clear b9
       (try go_simp)
       refine (UB HK).out _ _ (UJ (UB KB)) (fun hHeld => ?_)
       clear HK K
       try simp only [List.setIfInBounds_toArray, List.set_cons_zero, List.set_cons_succ]
       refine tkI 20 (.agg #[.slice p1 r.name.length q1, .int .i64 r.type, .int .i64 r.ttl, .int .i64 r.addr, .slice p2 r.to.length q2, .slice p3 r.text.length q3, .slice p4 r.nums.length q4]) rfl (by kernel_rfl) (by kernel_rfl) (fun _ _ _ h => h) ?_ hHeld ?_
       ·(intro w hSw; (try dsimp only at hSw); go_simp)
       try simp only [Act.put, List.setIfInBounds_toArray, List.set_cons_zero, List.set_cons_succ]
       obtain ⟨R9, u9⟩ := set7 (c0 := .slice p1 r.name.length q1) (c1 := .int .i64 r.type) (c2 := .int .i64 r.ttl) (c3 := .int .i64 r.addr) (c4 := .slice p2 r.to.length q2) (c5 := .slice p3 r.text.length q3) (c6 := .slice p4 r.nums.length q4) (UB KR)
       refine wpAnyH_ready (rs := [21]) (by kernel_rfl) (by simp) (AllReadyH.cons (UY rfl) (fun K hK => ?_) AllReadyH.nil)
       rw [if_pos (by rfl)]
       refine wp_store7 67 (.tmp 2) (.tmp 23) rfl (w.heap.size + 1) (.slice p1 r.name.length q1) (.int .i64 r.type) (.int .i64 r.ttl) (.int .i64 r.addr) (.slice p2 r.to.length q2) (.slice p3 r.text.length q3) (.slice p4 r.nums.length q4) rfl rfl (UB KR) (by kernel_rfl) (by simp [Value.oneCell']) ?_
       refine hK.out _ _ (UJ (u9.kept (UB KB) (by omega))) (fun hHeld => ?_)
       clear hK K hHeld
       refine wpAnyH_done (by kernel_rfl) ?_ _
       go_wp2_with fail
       refine bodyPost_ret (results_cell_row rfl _ _ (w.heap.size + 1) 67 #[.slice p1 r.name.length q1, .int .i64 r.type, .int .i64 r.ttl, .int .i64 r.addr, .slice p2 r.to.length q2, .slice p3 r.text.length q3, .slice p4 r.nums.length q4] (0, 0) _ rfl R9 Tryz.underlying67 rfl (by kernel_rfl)) rfl ?_
       exact ⟨_, _, _, _, rfl, ((UB N1).outside u9 (.inr (by omega))).ownL.mono (by omega), ((UB N2).outside u9 (.inr (by omega))).ownL.mono (by omega), ((UB X1).outside u9 (by omega)).mono (by omega), (((UB Y1).here).outside u9 (.inr (by omega))).1.mono (by omega), u9.below bb (by omega)⟩
   ·have HK := UC hK
    clear hK hHeld
    go_simp
    have b10 := below_lit (w := w2) 3
    replace KB := UC (UE b10 (UB KB))
    replace KR := UC (UE b10 (UB KR))
    replace F1 := UC ((UB F1).below b10)
    replace F2 := UC ((UB F2).below b10)
    replace F3 := UC ((UB F3).below b10)
    replace F4 := UC ((UB F4).below b10)
    replace N1 := UC ((UB N1).below b10)
    replace N2 := UC ((UB N2).below b10)
    have L2 := UC (heap_alloc_new w2 (.cells #[] 3))
    have zL2 := b10.size
    have bb2 := UG bb b10
    clear bb
    have bb := bb2
    clear bb2
    have hL2 : W.heap.size ≤ w2.heap.size := by omega
    generalize w2.alloc (.cells #[] 3) = w10 at *
    clear b10
    (try go_simp)
    refine (UB HK).out _ _ (UJ (UB KB)) (fun hHeld => ?_)
    clear HK K
    try simp only [List.setIfInBounds_toArray, List.set_cons_zero, List.set_cons_succ]
    refine wpAnyH_ready (rs := [12]) (by kernel_rfl) (by simp) (AllReadyH.cons (UY rfl) (fun K hK => ?_) AllReadyH.nil)
    ·have HK := UC hK
     clear hK hHeld
     go_simp
     have b11 := below_lit (w := w10) 5
     replace KB := UC (UE b11 (UB KB))
     replace KR := UC (UE b11 (UB KR))
     replace F1 := UC ((UB F1).below b11)
     replace F2 := UC ((UB F2).below b11)
     replace F3 := UC ((UB F3).below b11)
     replace F4 := UC ((UB F4).below b11)
     replace N1 := UC ((UB N1).below b11)
     replace N2 := UC ((UB N2).below b11)
     replace L2 := UC (UE b11 (UB L2))
     have L1 := UC (heap_alloc_new w10 (.cells #[] 5))
     have zL1 := b11.size
     have bb2 := UG bb b11
     clear bb
     have bb := bb2
     clear bb2
     have hL1 : W.heap.size ≤ w10.heap.size := by omega
     generalize w10.alloc (.cells #[] 5) = w11 at *
     clear b11
     (try go_simp)
     refine (UB HK).out _ _ (UJ (UB KB)) (fun hHeld => ?_)
     clear HK K
     try simp only [List.setIfInBounds_toArray, List.set_cons_zero, List.set_cons_succ]
     refine wpAnyH_ready (rs := [15]) (by kernel_rfl) (by simp) (AllReadyH.cons (UY rfl) (fun K hK => ?_) AllReadyH.nil)
     ·have HK := UC hK
      clear hK hHeld
      refine VU rfl (.tmp 15) (.tmp 17) 56 5 rfl Tryz.underlying56 (.int .u8 0) 1 VJ (by decide) (by decide) W.heap.size _ (by omega) (UB L1) _ _ rfl rfl (UB F3).readsV (one_of _) (by rw [List.length_map]; omega) ?_
      rintro vX1 w12 oX1 b12
      rw [List.length_map] at oX1
      replace oX1 : Own W.heap.size 5 w12 vX1 r.text := oX1
      obtain ⟨p3, q3, rfl, _⟩ := oX1.lies
      replace KB := UC (UE b12 (UB KB))
      replace KR := UC (UE b12 (UB KR))
      replace F1 := UC ((UB F1).below b12)
      replace F2 := UC ((UB F2).below b12)
      replace F3 := UC ((UB F3).below b12)
      replace F4 := UC ((UB F4).below b12)
      replace N1 := UC ((UB N1).below b12)
      replace N2 := UC ((UB N2).below b12)
      replace L1 := UC (UE b12 (UB L1))
      replace L2 := UC (UE b12 (UB L2))
      have X1 := UC oX1
      clear oX1
      have zX1 := b12.size
      have bb2 := UG bb b12
      clear bb
      have bb := bb2
      clear bb2
      clear b12
      (try go_simp)
      refine (UB HK).out _ _ (UJ (UB KB)) (fun hHeld => ?_)
      clear HK K
      try simp only [List.setIfInBounds_toArray, List.set_cons_zero, List.set_cons_succ]
      refine wpAnyH_ready (rs := [19]) (by kernel_rfl) (by simp) (AllReadyH.cons (UY rfl) (fun K hK => ?_) AllReadyH.nil)
      ·have HK := UC hK
       clear hK hHeld
       refine VU rfl (.tmp 19) (.tmp 21) 57 3 rfl Tryz.underlying57 (.int .i64 0) 8 info_int8 (by decide) (by decide) W.heap.size _ (by omega) (UB L2) _ _ rfl rfl (UB F4).readsV (one_ofI _) (by rw [List.length_map]; omega) ?_
       rintro vY1 w13 oY1 b13
       rw [List.length_map] at oY1
       replace oY1 : OwnI W.heap.size 3 w13 vY1 r.nums := oY1
       obtain ⟨p4, q4, rfl, _⟩ := oY1.lies
       replace KB := UC (UE b13 (UB KB))
       replace KR := UC (UE b13 (UB KR))
       replace F1 := UC ((UB F1).below b13)
       replace F2 := UC ((UB F2).below b13)
       replace F3 := UC ((UB F3).below b13)
       replace F4 := UC ((UB F4).below b13)
       replace N1 := UC ((UB N1).below b13)
       replace N2 := UC ((UB N2).below b13)
       replace X1 := UC ((UB X1).below b13)
       replace L1 := UC (UE b13 (UB L1))
       replace L2 := UC (UE b13 (UB L2))
       have Y1 := UC oY1
       clear oY1
       have zY1 := b13.size
       have bb2 := UG bb b13
       clear bb
       have bb := bb2
       clear bb2
       clear b13
       (try go_simp)
       refine (UB HK).out _ _ (UJ (UB KB)) (fun hHeld => ?_)
       clear HK K
       try simp only [List.setIfInBounds_toArray, List.set_cons_zero, List.set_cons_succ]
       refine tkI 20 (.agg #[.slice p1 r.name.length q1, .int .i64 r.type, .int .i64 r.ttl, .int .i64 r.addr, .slice p2 r.to.length q2, .slice p3 r.text.length q3, .slice p4 r.nums.length q4]) rfl (by kernel_rfl) (by kernel_rfl) (fun _ _ _ h => h) ?_ hHeld ?_
       ·(intro w hSw; (try dsimp only at hSw); go_simp)
       try simp only [Act.put, List.setIfInBounds_toArray, List.set_cons_zero, List.set_cons_succ]
       obtain ⟨R9, u9⟩ := set7 (c0 := .slice p1 r.name.length q1) (c1 := .int .i64 r.type) (c2 := .int .i64 r.ttl) (c3 := .int .i64 r.addr) (c4 := .slice p2 r.to.length q2) (c5 := .slice p3 r.text.length q3) (c6 := .slice p4 r.nums.length q4) (UB KR)
       refine wpAnyH_ready (rs := [21]) (by kernel_rfl) (by simp) (AllReadyH.cons (UY rfl) (fun K hK => ?_) AllReadyH.nil)
       rw [if_pos (by rfl)]
       refine wp_store7 67 (.tmp 2) (.tmp 23) rfl (w.heap.size + 1) (.slice p1 r.name.length q1) (.int .i64 r.type) (.int .i64 r.ttl) (.int .i64 r.addr) (.slice p2 r.to.length q2) (.slice p3 r.text.length q3) (.slice p4 r.nums.length q4) rfl rfl (UB KR) (by kernel_rfl) (by simp [Value.oneCell']) ?_
       refine hK.out _ _ (UJ (u9.kept (UB KB) (by omega))) (fun hHeld => ?_)
       clear hK K hHeld
       refine wpAnyH_done (by kernel_rfl) ?_ _
       go_wp2_with fail
       refine bodyPost_ret (results_cell_row rfl _ _ (w.heap.size + 1) 67 #[.slice p1 r.name.length q1, .int .i64 r.type, .int .i64 r.ttl, .int .i64 r.addr, .slice p2 r.to.length q2, .slice p3 r.text.length q3, .slice p4 r.nums.length q4] (0, 0) _ rfl R9 Tryz.underlying67 rfl (by kernel_rfl)) rfl ?_
       exact ⟨_, _, _, _, rfl, ((UB N1).outside u9 (.inr (by omega))).ownL.mono (by omega), ((UB N2).outside u9 (.inr (by omega))).ownL.mono (by omega), ((UB X1).outside u9 (by omega)).mono (by omega), (((UB Y1).here).outside u9 (.inr (by omega))).1.mono (by omega), u9.below bb (by omega)⟩
  ·have HK := UC hK
   clear hK hHeld
   go_simp
   have b14 := below_lit (w := w1) 5
   replace KB := UC (UE b14 (UB KB))
   replace KR := UC (UE b14 (UB KR))
   replace F1 := UC ((UB F1).below b14)
   replace F2 := UC ((UB F2).below b14)
   replace F3 := UC ((UB F3).below b14)
   replace F4 := UC ((UB F4).below b14)
   replace N1 := UC ((UB N1).below b14)
   have L1 := UC (heap_alloc_new w1 (.cells #[] 5))
   have zL1 := b14.size
   have bb2 := UG bb b14
   clear bb
   have bb := bb2
   clear bb2
   have hL1 : W.heap.size ≤ w1.heap.size := by omega
   generalize w1.alloc (.cells #[] 5) = w14 at *
   clear b14
   (try go_simp)
   refine (UB HK).out _ _ (UJ (UB KB)) (fun hHeld => ?_)
   clear HK K
   try simp only [List.setIfInBounds_toArray, List.set_cons_zero, List.set_cons_succ]
   refine wpAnyH_ready (rs := [11, 16]) (by kernel_rfl) (by simp) (AllReadyH.cons (UY rfl) (fun K hK => ?_) (AllReadyH.cons (UY rfl) (fun K hK => ?_) AllReadyH.nil))
   ·have HK := UC hK
    clear hK hHeld
    go_simp
    refine (UB HT _ (UB F2)).mono ?_
    rintro e w15 ⟨vN2, rfl, oN2, b15⟩
    obtain ⟨p2, q2, rfl, _⟩ := oN2.hasL.form
    replace KB := UC (UE b15 (UB KB))
    replace KR := UC (UE b15 (UB KR))
    replace F1 := UC ((UB F1).below b15)
    replace F2 := UC ((UB F2).below b15)
    replace F3 := UC ((UB F3).below b15)
    replace F4 := UC ((UB F4).below b15)
    replace N1 := UC ((UB N1).below b15)
    replace L1 := UC (UE b15 (UB L1))
    have N2 := UC (oN2.here.wide (C' := W.heap.size) (by omega) (Nat.le_refl _))
    clear oN2
    have zN2 := b15.size
    have bb2 := UG bb b15
    clear bb
    have bb := bb2
    clear bb2
    clear b15
    (try go_simp)
    refine (UB HK).out _ _ (UJ (UB KB)) (fun hHeld => ?_)
    clear HK K
    try simp only [List.setIfInBounds_toArray, List.set_cons_zero, List.set_cons_succ]
    refine wpAnyH_ready (rs := [15, 16]) (by kernel_rfl) (by simp) (AllReadyH.cons (UY rfl) (fun K hK => ?_) (AllReadyH.cons (UY rfl) (fun K hK => ?_) AllReadyH.nil))
    ·have HK := UC hK
     clear hK hHeld
     refine VU rfl (.tmp 15) (.tmp 17) 56 5 rfl Tryz.underlying56 (.int .u8 0) 1 VJ (by decide) (by decide) W.heap.size _ (by omega) (UB L1) _ _ rfl rfl (UB F3).readsV (one_of _) (by rw [List.length_map]; omega) ?_
     rintro vX1 w16 oX1 b16
     rw [List.length_map] at oX1
     replace oX1 : Own W.heap.size 5 w16 vX1 r.text := oX1
     obtain ⟨p3, q3, rfl, _⟩ := oX1.lies
     replace KB := UC (UE b16 (UB KB))
     replace KR := UC (UE b16 (UB KR))
     replace F1 := UC ((UB F1).below b16)
     replace F2 := UC ((UB F2).below b16)
     replace F3 := UC ((UB F3).below b16)
     replace F4 := UC ((UB F4).below b16)
     replace N1 := UC ((UB N1).below b16)
     replace N2 := UC ((UB N2).below b16)
     replace L1 := UC (UE b16 (UB L1))
     have X1 := UC oX1
     clear oX1
     have zX1 := b16.size
     have bb2 := UG bb b16
     clear bb
     have bb := bb2
     clear bb2
     clear b16
     (try go_simp)
     refine (UB HK).out _ _ (UJ (UB KB)) (fun hHeld => ?_)
     clear HK K
     try simp only [List.setIfInBounds_toArray, List.set_cons_zero, List.set_cons_succ]
     refine wpAnyH_ready (rs := [16]) (by kernel_rfl) (by simp) (AllReadyH.cons (UY rfl) (fun K hK => ?_) AllReadyH.nil)
     ·have HK := UC hK
      clear hK hHeld
      go_simp
      have b17 := below_lit (w := w16) 3
      replace KB := UC (UE b17 (UB KB))
      replace KR := UC (UE b17 (UB KR))
      replace F1 := UC ((UB F1).below b17)
      replace F2 := UC ((UB F2).below b17)
      replace F3 := UC ((UB F3).below b17)
      replace F4 := UC ((UB F4).below b17)
      replace N1 := UC ((UB N1).below b17)
      replace N2 := UC ((UB N2).below b17)
      replace X1 := UC ((UB X1).below b17)
      replace L1 := UC (UE b17 (UB L1))
      have L2 := UC (heap_alloc_new w16 (.cells #[] 3))
      have zL2 := b17.size
      have bb2 := UG bb b17
      clear bb
      have bb := bb2
      clear bb2
      have hL2 : W.heap.size ≤ w16.heap.size := by omega
      generalize w16.alloc (.cells #[] 3) = w17 at *
      clear b17
      (try go_simp)
      refine (UB HK).out _ _ (UJ (UB KB)) (fun hHeld => ?_)
      clear HK K
      try simp only [List.setIfInBounds_toArray, List.set_cons_zero, List.set_cons_succ]
      refine wpAnyH_ready (rs := [19]) (by kernel_rfl) (by simp) (AllReadyH.cons (UY rfl) (fun K hK => ?_) AllReadyH.nil)
      ·have HK := UC hK
       clear hK hHeld
       refine VU rfl (.tmp 19) (.tmp 21) 57 3 rfl Tryz.underlying57 (.int .i64 0) 8 info_int8 (by decide) (by decide) W.heap.size _ (by omega) (UB L2) _ _ rfl rfl (UB F4).readsV (one_ofI _) (by rw [List.length_map]; omega) ?_
       rintro vY1 w18 oY1 b18
       rw [List.length_map] at oY1
       replace oY1 : OwnI W.heap.size 3 w18 vY1 r.nums := oY1
       obtain ⟨p4, q4, rfl, _⟩ := oY1.lies
       replace KB := UC (UE b18 (UB KB))
       replace KR := UC (UE b18 (UB KR))
       replace F1 := UC ((UB F1).below b18)
       replace F2 := UC ((UB F2).below b18)
       replace F3 := UC ((UB F3).below b18)
       replace F4 := UC ((UB F4).below b18)
       replace N1 := UC ((UB N1).below b18)
       replace N2 := UC ((UB N2).below b18)
       replace X1 := UC ((UB X1).below b18)
       replace L1 := UC (UE b18 (UB L1))
       replace L2 := UC (UE b18 (UB L2))
       have Y1 := UC oY1
       clear oY1
       have zY1 := b18.size
       have bb2 := UG bb b18
       clear bb
       have bb := bb2
       clear bb2
       clear b18
       (try go_simp)
       refine (UB HK).out _ _ (UJ (UB KB)) (fun hHeld => ?_)
       clear HK K
       try simp only [List.setIfInBounds_toArray, List.set_cons_zero, List.set_cons_succ]
       refine tkI 20 (.agg #[.slice p1 r.name.length q1, .int .i64 r.type, .int .i64 r.ttl, .int .i64 r.addr, .slice p2 r.to.length q2, .slice p3 r.text.length q3, .slice p4 r.nums.length q4]) rfl (by kernel_rfl) (by kernel_rfl) (fun _ _ _ h => h) ?_ hHeld ?_
       ·(intro w hSw; (try dsimp only at hSw); go_simp)
       try simp only [Act.put, List.setIfInBounds_toArray, List.set_cons_zero, List.set_cons_succ]
       obtain ⟨R9, u9⟩ := set7 (c0 := .slice p1 r.name.length q1) (c1 := .int .i64 r.type) (c2 := .int .i64 r.ttl) (c3 := .int .i64 r.addr) (c4 := .slice p2 r.to.length q2) (c5 := .slice p3 r.text.length q3) (c6 := .slice p4 r.nums.length q4) (UB KR)
       refine wpAnyH_ready (rs := [21]) (by kernel_rfl) (by simp) (AllReadyH.cons (UY rfl) (fun K hK => ?_) AllReadyH.nil)
       rw [if_pos (by rfl)]
       refine wp_store7 67 (.tmp 2) (.tmp 23) rfl (w.heap.size + 1) (.slice p1 r.name.length q1) (.int .i64 r.type) (.int .i64 r.ttl) (.int .i64 r.addr) (.slice p2 r.to.length q2) (.slice p3 r.text.length q3) (.slice p4 r.nums.length q4) rfl rfl (UB KR) (by kernel_rfl) (by simp [Value.oneCell']) ?_
       refine hK.out _ _ (UJ (u9.kept (UB KB) (by omega))) (fun hHeld => ?_)
       clear hK K hHeld
       refine wpAnyH_done (by kernel_rfl) ?_ _
       go_wp2_with fail
       refine bodyPost_ret (results_cell_row rfl _ _ (w.heap.size + 1) 67 #[.slice p1 r.name.length q1, .int .i64 r.type, .int .i64 r.ttl, .int .i64 r.addr, .slice p2 r.to.length q2, .slice p3 r.text.length q3, .slice p4 r.nums.length q4] (0, 0) _ rfl R9 Tryz.underlying67 rfl (by kernel_rfl)) rfl ?_
       exact ⟨_, _, _, _, rfl, ((UB N1).outside u9 (.inr (by omega))).ownL.mono (by omega), ((UB N2).outside u9 (.inr (by omega))).ownL.mono (by omega), ((UB X1).outside u9 (by omega)).mono (by omega), (((UB Y1).here).outside u9 (.inr (by omega))).1.mono (by omega), u9.below bb (by omega)⟩
    ·have HK := UC hK
     clear hK hHeld
     go_simp
     have b19 := below_lit (w := w15) 3
     replace KB := UC (UE b19 (UB KB))
     replace KR := UC (UE b19 (UB KR))
     replace F1 := UC ((UB F1).below b19)
     replace F2 := UC ((UB F2).below b19)
     replace F3 := UC ((UB F3).below b19)
     replace F4 := UC ((UB F4).below b19)
     replace N1 := UC ((UB N1).below b19)
     replace N2 := UC ((UB N2).below b19)
     replace L1 := UC (UE b19 (UB L1))
     have L2 := UC (heap_alloc_new w15 (.cells #[] 3))
     have zL2 := b19.size
     have bb2 := UG bb b19
     clear bb
     have bb := bb2
     clear bb2
     have hL2 : W.heap.size ≤ w15.heap.size := by omega
     generalize w15.alloc (.cells #[] 3) = w19 at *
     clear b19
     (try go_simp)
     refine (UB HK).out _ _ (UJ (UB KB)) (fun hHeld => ?_)
     clear HK K
     try simp only [List.setIfInBounds_toArray, List.set_cons_zero, List.set_cons_succ]
     refine wpAnyH_ready (rs := [15]) (by kernel_rfl) (by simp) (AllReadyH.cons (UY rfl) (fun K hK => ?_) AllReadyH.nil)
     ·have HK := UC hK
      clear hK hHeld
      refine VU rfl (.tmp 15) (.tmp 17) 56 5 rfl Tryz.underlying56 (.int .u8 0) 1 VJ (by decide) (by decide) W.heap.size _ (by omega) (UB L1) _ _ rfl rfl (UB F3).readsV (one_of _) (by rw [List.length_map]; omega) ?_
      rintro vX1 w20 oX1 b20
      rw [List.length_map] at oX1
      replace oX1 : Own W.heap.size 5 w20 vX1 r.text := oX1
      obtain ⟨p3, q3, rfl, _⟩ := oX1.lies
      replace KB := UC (UE b20 (UB KB))
      replace KR := UC (UE b20 (UB KR))
      replace F1 := UC ((UB F1).below b20)
      replace F2 := UC ((UB F2).below b20)
      replace F3 := UC ((UB F3).below b20)
      replace F4 := UC ((UB F4).below b20)
      replace N1 := UC ((UB N1).below b20)
      replace N2 := UC ((UB N2).below b20)
      replace L1 := UC (UE b20 (UB L1))
      replace L2 := UC (UE b20 (UB L2))
      have X1 := UC oX1
      clear oX1
      have zX1 := b20.size
      have bb2 := UG bb b20
      clear bb
      have bb := bb2
      clear bb2
      clear b20
      (try go_simp)
      refine (UB HK).out _ _ (UJ (UB KB)) (fun hHeld => ?_)
      clear HK K
      try simp only [List.setIfInBounds_toArray, List.set_cons_zero, List.set_cons_succ]
      refine wpAnyH_ready (rs := [19]) (by kernel_rfl) (by simp) (AllReadyH.cons (UY rfl) (fun K hK => ?_) AllReadyH.nil)
      ·have HK := UC hK
       clear hK hHeld
       refine VU rfl (.tmp 19) (.tmp 21) 57 3 rfl Tryz.underlying57 (.int .i64 0) 8 info_int8 (by decide) (by decide) W.heap.size _ (by omega) (UB L2) _ _ rfl rfl (UB F4).readsV (one_ofI _) (by rw [List.length_map]; omega) ?_
       rintro vY1 w21 oY1 b21
       rw [List.length_map] at oY1
       replace oY1 : OwnI W.heap.size 3 w21 vY1 r.nums := oY1
       obtain ⟨p4, q4, rfl, _⟩ := oY1.lies
       replace KB := UC (UE b21 (UB KB))
       replace KR := UC (UE b21 (UB KR))
       replace F1 := UC ((UB F1).below b21)
       replace F2 := UC ((UB F2).below b21)
       replace F3 := UC ((UB F3).below b21)
       replace F4 := UC ((UB F4).below b21)
       replace N1 := UC ((UB N1).below b21)
       replace N2 := UC ((UB N2).below b21)
       replace X1 := UC ((UB X1).below b21)
       replace L1 := UC (UE b21 (UB L1))
       replace L2 := UC (UE b21 (UB L2))
       have Y1 := UC oY1
       clear oY1
       have zY1 := b21.size
       have bb2 := UG bb b21
       clear bb
       have bb := bb2
       clear bb2
       clear b21
       (try go_simp)
       refine (UB HK).out _ _ (UJ (UB KB)) (fun hHeld => ?_)
       clear HK K
       try simp only [List.setIfInBounds_toArray, List.set_cons_zero, List.set_cons_succ]
       refine tkI 20 (.agg #[.slice p1 r.name.length q1, .int .i64 r.type, .int .i64 r.ttl, .int .i64 r.addr, .slice p2 r.to.length q2, .slice p3 r.text.length q3, .slice p4 r.nums.length q4]) rfl (by kernel_rfl) (by kernel_rfl) (fun _ _ _ h => h) ?_ hHeld ?_
       ·(intro w hSw; (try dsimp only at hSw); go_simp)
       try simp only [Act.put, List.setIfInBounds_toArray, List.set_cons_zero, List.set_cons_succ]
       obtain ⟨R9, u9⟩ := set7 (c0 := .slice p1 r.name.length q1) (c1 := .int .i64 r.type) (c2 := .int .i64 r.ttl) (c3 := .int .i64 r.addr) (c4 := .slice p2 r.to.length q2) (c5 := .slice p3 r.text.length q3) (c6 := .slice p4 r.nums.length q4) (UB KR)
       refine wpAnyH_ready (rs := [21]) (by kernel_rfl) (by simp) (AllReadyH.cons (UY rfl) (fun K hK => ?_) AllReadyH.nil)
       rw [if_pos (by rfl)]
       refine wp_store7 67 (.tmp 2) (.tmp 23) rfl (w.heap.size + 1) (.slice p1 r.name.length q1) (.int .i64 r.type) (.int .i64 r.ttl) (.int .i64 r.addr) (.slice p2 r.to.length q2) (.slice p3 r.text.length q3) (.slice p4 r.nums.length q4) rfl rfl (UB KR) (by kernel_rfl) (by simp [Value.oneCell']) ?_
       refine hK.out _ _ (UJ (u9.kept (UB KB) (by omega))) (fun hHeld => ?_)
       clear hK K hHeld
       refine wpAnyH_done (by kernel_rfl) ?_ _
       go_wp2_with fail
       refine bodyPost_ret (results_cell_row rfl _ _ (w.heap.size + 1) 67 #[.slice p1 r.name.length q1, .int .i64 r.type, .int .i64 r.ttl, .int .i64 r.addr, .slice p2 r.to.length q2, .slice p3 r.text.length q3, .slice p4 r.nums.length q4] (0, 0) _ rfl R9 Tryz.underlying67 rfl (by kernel_rfl)) rfl ?_
       exact ⟨_, _, _, _, rfl, ((UB N1).outside u9 (.inr (by omega))).ownL.mono (by omega), ((UB N2).outside u9 (.inr (by omega))).ownL.mono (by omega), ((UB X1).outside u9 (by omega)).mono (by omega), (((UB Y1).here).outside u9 (.inr (by omega))).1.mono (by omega), u9.below bb (by omega)⟩
   ·have HK := UC hK
    clear hK hHeld
    go_simp
    have b22 := below_lit (w := w14) 3
    replace KB := UC (UE b22 (UB KB))
    replace KR := UC (UE b22 (UB KR))
    replace F1 := UC ((UB F1).below b22)
    replace F2 := UC ((UB F2).below b22)
    replace F3 := UC ((UB F3).below b22)
    replace F4 := UC ((UB F4).below b22)
    replace N1 := UC ((UB N1).below b22)
    replace L1 := UC (UE b22 (UB L1))
    have L2 := UC (heap_alloc_new w14 (.cells #[] 3))
    have zL2 := b22.size
    have bb2 := UG bb b22
    clear bb
    have bb := bb2
    clear bb2
    have hL2 : W.heap.size ≤ w14.heap.size := by omega
    generalize w14.alloc (.cells #[] 3) = w22 at *
    clear b22
    (try go_simp)
    refine (UB HK).out _ _ (UJ (UB KB)) (fun hHeld => ?_)
    clear HK K
    try simp only [List.setIfInBounds_toArray, List.set_cons_zero, List.set_cons_succ]
    refine wpAnyH_ready (rs := [11]) (by kernel_rfl) (by simp) (AllReadyH.cons (UY rfl) (fun K hK => ?_) AllReadyH.nil)
    ·have HK := UC hK
     clear hK hHeld
     go_simp
     refine (UB HT _ (UB F2)).mono ?_
     rintro e w23 ⟨vN2, rfl, oN2, b23⟩
     obtain ⟨p2, q2, rfl, _⟩ := oN2.hasL.form
     replace KB := UC (UE b23 (UB KB))
     replace KR := UC (UE b23 (UB KR))
     replace F1 := UC ((UB F1).below b23)
     replace F2 := UC ((UB F2).below b23)
     replace F3 := UC ((UB F3).below b23)
     replace F4 := UC ((UB F4).below b23)
     replace N1 := UC ((UB N1).below b23)
     replace L1 := UC (UE b23 (UB L1))
     replace L2 := UC (UE b23 (UB L2))
     have N2 := UC (oN2.here.wide (C' := W.heap.size) (by omega) (Nat.le_refl _))
     clear oN2
     have zN2 := b23.size
     have bb2 := UG bb b23
     clear bb
     have bb := bb2
     clear bb2
     clear b23
     (try go_simp)
     refine (UB HK).out _ _ (UJ (UB KB)) (fun hHeld => ?_)
     clear HK K
     try simp only [List.setIfInBounds_toArray, List.set_cons_zero, List.set_cons_succ]
     refine wpAnyH_ready (rs := [15]) (by kernel_rfl) (by simp) (AllReadyH.cons (UY rfl) (fun K hK => ?_) AllReadyH.nil)
     ·have HK := UC hK
      clear hK hHeld
      refine VU rfl (.tmp 15) (.tmp 17) 56 5 rfl Tryz.underlying56 (.int .u8 0) 1 VJ (by decide) (by decide) W.heap.size _ (by omega) (UB L1) _ _ rfl rfl (UB F3).readsV (one_of _) (by rw [List.length_map]; omega) ?_
      rintro vX1 w24 oX1 b24
      rw [List.length_map] at oX1
      replace oX1 : Own W.heap.size 5 w24 vX1 r.text := oX1
      obtain ⟨p3, q3, rfl, _⟩ := oX1.lies
      replace KB := UC (UE b24 (UB KB))
      replace KR := UC (UE b24 (UB KR))
      replace F1 := UC ((UB F1).below b24)
      replace F2 := UC ((UB F2).below b24)
      replace F3 := UC ((UB F3).below b24)
      replace F4 := UC ((UB F4).below b24)
      replace N1 := UC ((UB N1).below b24)
      replace N2 := UC ((UB N2).below b24)
      replace L1 := UC (UE b24 (UB L1))
      replace L2 := UC (UE b24 (UB L2))
      have X1 := UC oX1
      clear oX1
      have zX1 := b24.size
      have bb2 := UG bb b24
      clear bb
      have bb := bb2
      clear bb2
      clear b24
      (try go_simp)
      refine (UB HK).out _ _ (UJ (UB KB)) (fun hHeld => ?_)
      clear HK K
      try simp only [List.setIfInBounds_toArray, List.set_cons_zero, List.set_cons_succ]
      refine wpAnyH_ready (rs := [19]) (by kernel_rfl) (by simp) (AllReadyH.cons (UY rfl) (fun K hK => ?_) AllReadyH.nil)
      ·have HK := UC hK
       clear hK hHeld
       refine VU rfl (.tmp 19) (.tmp 21) 57 3 rfl Tryz.underlying57 (.int .i64 0) 8 info_int8 (by decide) (by decide) W.heap.size _ (by omega) (UB L2) _ _ rfl rfl (UB F4).readsV (one_ofI _) (by rw [List.length_map]; omega) ?_
       rintro vY1 w25 oY1 b25
       rw [List.length_map] at oY1
       replace oY1 : OwnI W.heap.size 3 w25 vY1 r.nums := oY1
       obtain ⟨p4, q4, rfl, _⟩ := oY1.lies
       replace KB := UC (UE b25 (UB KB))
       replace KR := UC (UE b25 (UB KR))
       replace F1 := UC ((UB F1).below b25)
       replace F2 := UC ((UB F2).below b25)
       replace F3 := UC ((UB F3).below b25)
       replace F4 := UC ((UB F4).below b25)
       replace N1 := UC ((UB N1).below b25)
       replace N2 := UC ((UB N2).below b25)
       replace X1 := UC ((UB X1).below b25)
       replace L1 := UC (UE b25 (UB L1))
       replace L2 := UC (UE b25 (UB L2))
       have Y1 := UC oY1
       clear oY1
       have zY1 := b25.size
       have bb2 := UG bb b25
       clear bb
       have bb := bb2
       clear bb2
       clear b25
       (try go_simp)
       refine (UB HK).out _ _ (UJ (UB KB)) (fun hHeld => ?_)
       clear HK K
       try simp only [List.setIfInBounds_toArray, List.set_cons_zero, List.set_cons_succ]
       refine tkI 20 (.agg #[.slice p1 r.name.length q1, .int .i64 r.type, .int .i64 r.ttl, .int .i64 r.addr, .slice p2 r.to.length q2, .slice p3 r.text.length q3, .slice p4 r.nums.length q4]) rfl (by kernel_rfl) (by kernel_rfl) (fun _ _ _ h => h) ?_ hHeld ?_
       ·(intro w hSw; (try dsimp only at hSw); go_simp)
       try simp only [Act.put, List.setIfInBounds_toArray, List.set_cons_zero, List.set_cons_succ]
       obtain ⟨R9, u9⟩ := set7 (c0 := .slice p1 r.name.length q1) (c1 := .int .i64 r.type) (c2 := .int .i64 r.ttl) (c3 := .int .i64 r.addr) (c4 := .slice p2 r.to.length q2) (c5 := .slice p3 r.text.length q3) (c6 := .slice p4 r.nums.length q4) (UB KR)
       refine wpAnyH_ready (rs := [21]) (by kernel_rfl) (by simp) (AllReadyH.cons (UY rfl) (fun K hK => ?_) AllReadyH.nil)
       rw [if_pos (by rfl)]
       refine wp_store7 67 (.tmp 2) (.tmp 23) rfl (w.heap.size + 1) (.slice p1 r.name.length q1) (.int .i64 r.type) (.int .i64 r.ttl) (.int .i64 r.addr) (.slice p2 r.to.length q2) (.slice p3 r.text.length q3) (.slice p4 r.nums.length q4) rfl rfl (UB KR) (by kernel_rfl) (by simp [Value.oneCell']) ?_
       refine hK.out _ _ (UJ (u9.kept (UB KB) (by omega))) (fun hHeld => ?_)
       clear hK K hHeld
       refine wpAnyH_done (by kernel_rfl) ?_ _
       go_wp2_with fail
       refine bodyPost_ret (results_cell_row rfl _ _ (w.heap.size + 1) 67 #[.slice p1 r.name.length q1, .int .i64 r.type, .int .i64 r.ttl, .int .i64 r.addr, .slice p2 r.to.length q2, .slice p3 r.text.length q3, .slice p4 r.nums.length q4] (0, 0) _ rfl R9 Tryz.underlying67 rfl (by kernel_rfl)) rfl ?_
       exact ⟨_, _, _, _, rfl, ((UB N1).outside u9 (.inr (by omega))).ownL.mono (by omega), ((UB N2).outside u9 (.inr (by omega))).ownL.mono (by omega), ((UB X1).outside u9 (by omega)).mono (by omega), (((UB Y1).here).outside u9 (.inr (by omega))).1.mono (by omega), u9.below bb (by omega)⟩
  ·have HK := UC hK
   clear hK hHeld
   go_simp
   have b26 := below_lit (w := w1) 3
   replace KB := UC (UE b26 (UB KB))
   replace KR := UC (UE b26 (UB KR))
   replace F1 := UC ((UB F1).below b26)
   replace F2 := UC ((UB F2).below b26)
   replace F3 := UC ((UB F3).below b26)
   replace F4 := UC ((UB F4).below b26)
   replace N1 := UC ((UB N1).below b26)
   have L2 := UC (heap_alloc_new w1 (.cells #[] 3))
   have zL2 := b26.size
   have bb2 := UG bb b26
   clear bb
   have bb := bb2
   clear bb2
   have hL2 : W.heap.size ≤ w1.heap.size := by omega
   generalize w1.alloc (.cells #[] 3) = w26 at *
   clear b26
   (try go_simp)
   refine (UB HK).out _ _ (UJ (UB KB)) (fun hHeld => ?_)
   clear HK K
   try simp only [List.setIfInBounds_toArray, List.set_cons_zero, List.set_cons_succ]
   refine wpAnyH_ready (rs := [11, 12]) (by kernel_rfl) (by simp) (AllReadyH.cons (UY rfl) (fun K hK => ?_) (AllReadyH.cons (UY rfl) (fun K hK => ?_) AllReadyH.nil))
   ·have HK := UC hK
    clear hK hHeld
    go_simp
    refine (UB HT _ (UB F2)).mono ?_
    rintro e w27 ⟨vN2, rfl, oN2, b27⟩
    obtain ⟨p2, q2, rfl, _⟩ := oN2.hasL.form
    replace KB := UC (UE b27 (UB KB))
    replace KR := UC (UE b27 (UB KR))
    replace F1 := UC ((UB F1).below b27)
    replace F2 := UC ((UB F2).below b27)
    replace F3 := UC ((UB F3).below b27)
    replace F4 := UC ((UB F4).below b27)
    replace N1 := UC ((UB N1).below b27)
    replace L2 := UC (UE b27 (UB L2))
    have N2 := UC (oN2.here.wide (C' := W.heap.size) (by omega) (Nat.le_refl _))
    clear oN2
    have zN2 := b27.size
    have bb2 := UG bb b27
    clear bb
    have bb := bb2
    clear bb2
    clear b27
    (try go_simp)
    refine (UB HK).out _ _ (UJ (UB KB)) (fun hHeld => ?_)
    clear HK K
    try simp only [List.setIfInBounds_toArray, List.set_cons_zero, List.set_cons_succ]
    refine wpAnyH_ready (rs := [12]) (by kernel_rfl) (by simp) (AllReadyH.cons (UY rfl) (fun K hK => ?_) AllReadyH.nil)
    ·have HK := UC hK
     clear hK hHeld
     go_simp
     have b28 := below_lit (w := w27) 5
     replace KB := UC (UE b28 (UB KB))
     replace KR := UC (UE b28 (UB KR))
     replace F1 := UC ((UB F1).below b28)
     replace F2 := UC ((UB F2).below b28)
     replace F3 := UC ((UB F3).below b28)
     replace F4 := UC ((UB F4).below b28)
     replace N1 := UC ((UB N1).below b28)
     replace N2 := UC ((UB N2).below b28)
     replace L2 := UC (UE b28 (UB L2))
     have L1 := UC (heap_alloc_new w27 (.cells #[] 5))
     have zL1 := b28.size
     have bb2 := UG bb b28
     clear bb
     have bb := bb2
     clear bb2
     have hL1 : W.heap.size ≤ w27.heap.size := by omega
     generalize w27.alloc (.cells #[] 5) = w28 at *
     clear b28
     (try go_simp)
     refine (UB HK).out _ _ (UJ (UB KB)) (fun hHeld => ?_)
     clear HK K
     try simp only [List.setIfInBounds_toArray, List.set_cons_zero, List.set_cons_succ]
     refine wpAnyH_ready (rs := [15]) (by kernel_rfl) (by simp) (AllReadyH.cons (UY rfl) (fun K hK => ?_) AllReadyH.nil)
     ·have HK := UC hK
      clear hK hHeld
      refine VU rfl (.tmp 15) (.tmp 17) 56 5 rfl Tryz.underlying56 (.int .u8 0) 1 VJ (by decide) (by decide) W.heap.size _ (by omega) (UB L1) _ _ rfl rfl (UB F3).readsV (one_of _) (by rw [List.length_map]; omega) ?_
      rintro vX1 w29 oX1 b29
      rw [List.length_map] at oX1
      replace oX1 : Own W.heap.size 5 w29 vX1 r.text := oX1
      obtain ⟨p3, q3, rfl, _⟩ := oX1.lies
      replace KB := UC (UE b29 (UB KB))
      replace KR := UC (UE b29 (UB KR))
      replace F1 := UC ((UB F1).below b29)
      replace F2 := UC ((UB F2).below b29)
      replace F3 := UC ((UB F3).below b29)
      replace F4 := UC ((UB F4).below b29)
      replace N1 := UC ((UB N1).below b29)
      replace N2 := UC ((UB N2).below b29)
      replace L1 := UC (UE b29 (UB L1))
      replace L2 := UC (UE b29 (UB L2))
      have X1 := UC oX1
      clear oX1
      have zX1 := b29.size
      have bb2 := UG bb b29
      clear bb
      have bb := bb2
      clear bb2
      clear b29
      (try go_simp)
      refine (UB HK).out _ _ (UJ (UB KB)) (fun hHeld => ?_)
      clear HK K
      try simp only [List.setIfInBounds_toArray, List.set_cons_zero, List.set_cons_succ]
      refine wpAnyH_ready (rs := [19]) (by kernel_rfl) (by simp) (AllReadyH.cons (UY rfl) (fun K hK => ?_) AllReadyH.nil)
      ·have HK := UC hK
       clear hK hHeld
       refine VU rfl (.tmp 19) (.tmp 21) 57 3 rfl Tryz.underlying57 (.int .i64 0) 8 info_int8 (by decide) (by decide) W.heap.size _ (by omega) (UB L2) _ _ rfl rfl (UB F4).readsV (one_ofI _) (by rw [List.length_map]; omega) ?_
       rintro vY1 w30 oY1 b30
       rw [List.length_map] at oY1
       replace oY1 : OwnI W.heap.size 3 w30 vY1 r.nums := oY1
       obtain ⟨p4, q4, rfl, _⟩ := oY1.lies
       replace KB := UC (UE b30 (UB KB))
       replace KR := UC (UE b30 (UB KR))
       replace F1 := UC ((UB F1).below b30)
       replace F2 := UC ((UB F2).below b30)
       replace F3 := UC ((UB F3).below b30)
       replace F4 := UC ((UB F4).below b30)
       replace N1 := UC ((UB N1).below b30)
       replace N2 := UC ((UB N2).below b30)
       replace X1 := UC ((UB X1).below b30)
       replace L1 := UC (UE b30 (UB L1))
       replace L2 := UC (UE b30 (UB L2))
       have Y1 := UC oY1
       clear oY1
       have zY1 := b30.size
       have bb2 := UG bb b30
       clear bb
       have bb := bb2
       clear bb2
       clear b30
       (try go_simp)
       refine (UB HK).out _ _ (UJ (UB KB)) (fun hHeld => ?_)
       clear HK K
       try simp only [List.setIfInBounds_toArray, List.set_cons_zero, List.set_cons_succ]
       refine tkI 20 (.agg #[.slice p1 r.name.length q1, .int .i64 r.type, .int .i64 r.ttl, .int .i64 r.addr, .slice p2 r.to.length q2, .slice p3 r.text.length q3, .slice p4 r.nums.length q4]) rfl (by kernel_rfl) (by kernel_rfl) (fun _ _ _ h => h) ?_ hHeld ?_
       ·(intro w hSw; (try dsimp only at hSw); go_simp)
       try simp only [Act.put, List.setIfInBounds_toArray, List.set_cons_zero, List.set_cons_succ]
       obtain ⟨R9, u9⟩ := set7 (c0 := .slice p1 r.name.length q1) (c1 := .int .i64 r.type) (c2 := .int .i64 r.ttl) (c3 := .int .i64 r.addr) (c4 := .slice p2 r.to.length q2) (c5 := .slice p3 r.text.length q3) (c6 := .slice p4 r.nums.length q4) (UB KR)
       refine wpAnyH_ready (rs := [21]) (by kernel_rfl) (by simp) (AllReadyH.cons (UY rfl) (fun K hK => ?_) AllReadyH.nil)
       rw [if_pos (by rfl)]
       refine wp_store7 67 (.tmp 2) (.tmp 23) rfl (w.heap.size + 1) (.slice p1 r.name.length q1) (.int .i64 r.type) (.int .i64 r.ttl) (.int .i64 r.addr) (.slice p2 r.to.length q2) (.slice p3 r.text.length q3) (.slice p4 r.nums.length q4) rfl rfl (UB KR) (by kernel_rfl) (by simp [Value.oneCell']) ?_
       refine hK.out _ _ (UJ (u9.kept (UB KB) (by omega))) (fun hHeld => ?_)
       clear hK K hHeld
       refine wpAnyH_done (by kernel_rfl) ?_ _
       go_wp2_with fail
       refine bodyPost_ret (results_cell_row rfl _ _ (w.heap.size + 1) 67 #[.slice p1 r.name.length q1, .int .i64 r.type, .int .i64 r.ttl, .int .i64 r.addr, .slice p2 r.to.length q2, .slice p3 r.text.length q3, .slice p4 r.nums.length q4] (0, 0) _ rfl R9 Tryz.underlying67 rfl (by kernel_rfl)) rfl ?_
       exact ⟨_, _, _, _, rfl, ((UB N1).outside u9 (.inr (by omega))).ownL.mono (by omega), ((UB N2).outside u9 (.inr (by omega))).ownL.mono (by omega), ((UB X1).outside u9 (by omega)).mono (by omega), (((UB Y1).here).outside u9 (.inr (by omega))).1.mono (by omega), u9.below bb (by omega)⟩
   ·have HK := UC hK
    clear hK hHeld
    go_simp
    have b31 := below_lit (w := w26) 5
    replace KB := UC (UE b31 (UB KB))
    replace KR := UC (UE b31 (UB KR))
    replace F1 := UC ((UB F1).below b31)
    replace F2 := UC ((UB F2).below b31)
    replace F3 := UC ((UB F3).below b31)
    replace F4 := UC ((UB F4).below b31)
    replace N1 := UC ((UB N1).below b31)
    replace L2 := UC (UE b31 (UB L2))
    have L1 := UC (heap_alloc_new w26 (.cells #[] 5))
    have zL1 := b31.size
    have bb2 := UG bb b31
    clear bb
    have bb := bb2
    clear bb2
    have hL1 : W.heap.size ≤ w26.heap.size := by omega
    generalize w26.alloc (.cells #[] 5) = w31 at *
    clear b31
    (try go_simp)
    refine (UB HK).out _ _ (UJ (UB KB)) (fun hHeld => ?_)
    clear HK K
    try simp only [List.setIfInBounds_toArray, List.set_cons_zero, List.set_cons_succ]
    refine wpAnyH_ready (rs := [11]) (by kernel_rfl) (by simp) (AllReadyH.cons (UY rfl) (fun K hK => ?_) AllReadyH.nil)
    ·have HK := UC hK
     clear hK hHeld
     go_simp
     refine (UB HT _ (UB F2)).mono ?_
     rintro e w32 ⟨vN2, rfl, oN2, b32⟩
     obtain ⟨p2, q2, rfl, _⟩ := oN2.hasL.form
     replace KB := UC (UE b32 (UB KB))
     replace KR := UC (UE b32 (UB KR))
     replace F1 := UC ((UB F1).below b32)
     replace F2 := UC ((UB F2).below b32)
     replace F3 := UC ((UB F3).below b32)
     replace F4 := UC ((UB F4).below b32)
     replace N1 := UC ((UB N1).below b32)
     replace L1 := UC (UE b32 (UB L1))
     replace L2 := UC (UE b32 (UB L2))
     have N2 := UC (oN2.here.wide (C' := W.heap.size) (by omega) (Nat.le_refl _))
     clear oN2
     have zN2 := b32.size
     have bb2 := UG bb b32
     clear bb
     have bb := bb2
     clear bb2
     clear b32
     (try go_simp)
     refine (UB HK).out _ _ (UJ (UB KB)) (fun hHeld => ?_)
     clear HK K
     try simp only [List.setIfInBounds_toArray, List.set_cons_zero, List.set_cons_succ]
     refine wpAnyH_ready (rs := [15]) (by kernel_rfl) (by simp) (AllReadyH.cons (UY rfl) (fun K hK => ?_) AllReadyH.nil)
     ·have HK := UC hK
      clear hK hHeld
      refine VU rfl (.tmp 15) (.tmp 17) 56 5 rfl Tryz.underlying56 (.int .u8 0) 1 VJ (by decide) (by decide) W.heap.size _ (by omega) (UB L1) _ _ rfl rfl (UB F3).readsV (one_of _) (by rw [List.length_map]; omega) ?_
      rintro vX1 w33 oX1 b33
      rw [List.length_map] at oX1
      replace oX1 : Own W.heap.size 5 w33 vX1 r.text := oX1
      obtain ⟨p3, q3, rfl, _⟩ := oX1.lies
      replace KB := UC (UE b33 (UB KB))
      replace KR := UC (UE b33 (UB KR))
      replace F1 := UC ((UB F1).below b33)
      replace F2 := UC ((UB F2).below b33)
      replace F3 := UC ((UB F3).below b33)
      replace F4 := UC ((UB F4).below b33)
      replace N1 := UC ((UB N1).below b33)
      replace N2 := UC ((UB N2).below b33)
      replace L1 := UC (UE b33 (UB L1))
      replace L2 := UC (UE b33 (UB L2))
      have X1 := UC oX1
      clear oX1
      have zX1 := b33.size
      have bb2 := UG bb b33
      clear bb
      have bb := bb2
      clear bb2
      clear b33
      (try go_simp)
      refine (UB HK).out _ _ (UJ (UB KB)) (fun hHeld => ?_)
      clear HK K
      try simp only [List.setIfInBounds_toArray, List.set_cons_zero, List.set_cons_succ]
      refine wpAnyH_ready (rs := [19]) (by kernel_rfl) (by simp) (AllReadyH.cons (UY rfl) (fun K hK => ?_) AllReadyH.nil)
      ·have HK := UC hK
       clear hK hHeld
       refine VU rfl (.tmp 19) (.tmp 21) 57 3 rfl Tryz.underlying57 (.int .i64 0) 8 info_int8 (by decide) (by decide) W.heap.size _ (by omega) (UB L2) _ _ rfl rfl (UB F4).readsV (one_ofI _) (by rw [List.length_map]; omega) ?_
       rintro vY1 w34 oY1 b34
       rw [List.length_map] at oY1
       replace oY1 : OwnI W.heap.size 3 w34 vY1 r.nums := oY1
       obtain ⟨p4, q4, rfl, _⟩ := oY1.lies
       replace KB := UC (UE b34 (UB KB))
       replace KR := UC (UE b34 (UB KR))
       replace F1 := UC ((UB F1).below b34)
       replace F2 := UC ((UB F2).below b34)
       replace F3 := UC ((UB F3).below b34)
       replace F4 := UC ((UB F4).below b34)
       replace N1 := UC ((UB N1).below b34)
       replace N2 := UC ((UB N2).below b34)
       replace X1 := UC ((UB X1).below b34)
       replace L1 := UC (UE b34 (UB L1))
       replace L2 := UC (UE b34 (UB L2))
       have Y1 := UC oY1
       clear oY1
       have zY1 := b34.size
       have bb2 := UG bb b34
       clear bb
       have bb := bb2
       clear bb2
       clear b34
       (try go_simp)
       refine (UB HK).out _ _ (UJ (UB KB)) (fun hHeld => ?_)
       clear HK K
       try simp only [List.setIfInBounds_toArray, List.set_cons_zero, List.set_cons_succ]
       refine tkI 20 (.agg #[.slice p1 r.name.length q1, .int .i64 r.type, .int .i64 r.ttl, .int .i64 r.addr, .slice p2 r.to.length q2, .slice p3 r.text.length q3, .slice p4 r.nums.length q4]) rfl (by kernel_rfl) (by kernel_rfl) (fun _ _ _ h => h) ?_ hHeld ?_
       ·(intro w hSw; (try dsimp only at hSw); go_simp)
       try simp only [Act.put, List.setIfInBounds_toArray, List.set_cons_zero, List.set_cons_succ]
       obtain ⟨R9, u9⟩ := set7 (c0 := .slice p1 r.name.length q1) (c1 := .int .i64 r.type) (c2 := .int .i64 r.ttl) (c3 := .int .i64 r.addr) (c4 := .slice p2 r.to.length q2) (c5 := .slice p3 r.text.length q3) (c6 := .slice p4 r.nums.length q4) (UB KR)
       refine wpAnyH_ready (rs := [21]) (by kernel_rfl) (by simp) (AllReadyH.cons (UY rfl) (fun K hK => ?_) AllReadyH.nil)
       rw [if_pos (by rfl)]
       refine wp_store7 67 (.tmp 2) (.tmp 23) rfl (w.heap.size + 1) (.slice p1 r.name.length q1) (.int .i64 r.type) (.int .i64 r.ttl) (.int .i64 r.addr) (.slice p2 r.to.length q2) (.slice p3 r.text.length q3) (.slice p4 r.nums.length q4) rfl rfl (UB KR) (by kernel_rfl) (by simp [Value.oneCell']) ?_
       refine hK.out _ _ (UJ (u9.kept (UB KB) (by omega))) (fun hHeld => ?_)
       clear hK K hHeld
       refine wpAnyH_done (by kernel_rfl) ?_ _
       go_wp2_with fail
       refine bodyPost_ret (results_cell_row rfl _ _ (w.heap.size + 1) 67 #[.slice p1 r.name.length q1, .int .i64 r.type, .int .i64 r.ttl, .int .i64 r.addr, .slice p2 r.to.length q2, .slice p3 r.text.length q3, .slice p4 r.nums.length q4] (0, 0) _ rfl R9 Tryz.underlying67 rfl (by kernel_rfl)) rfl ?_
       exact ⟨_, _, _, _, rfl, ((UB N1).outside u9 (.inr (by omega))).ownL.mono (by omega), ((UB N2).outside u9 (.inr (by omega))).ownL.mono (by omega), ((UB X1).outside u9 (by omega)).mono (by omega), (((UB Y1).here).outside u9 (.inr (by omega))).1.mono (by omega), u9.below bb (by omega)⟩
 ·have HK := UC hK
  clear hK hHeld
  go_simp
  have b35 := below_lit (w := W0) 5
  replace KB := UC (UE b35 (UB KB))
  replace KR := UC (UE b35 (UB KR))
  replace F1 := UC ((UB F1).below b35)
  replace F2 := UC ((UB F2).below b35)
  replace F3 := UC ((UB F3).below b35)
  replace F4 := UC ((UB F4).below b35)
  have L1 := UC (heap_alloc_new W0 (.cells #[] 5))
  have zL1 := b35.size
  have bb2 := UG bb b35
  clear bb
  have bb := bb2
  clear bb2
  have hL1 : W.heap.size ≤ W0.heap.size := by omega
  generalize W0.alloc (.cells #[] 5) = w35 at *
  clear b35
  (try go_simp)
  refine (UB HK).out _ _ (UJ (UB KB)) (fun hHeld => ?_)
  clear HK K
  try simp only [List.setIfInBounds_toArray, List.set_cons_zero, List.set_cons_succ]
  refine wpAnyH_ready (rs := [2, 16]) (by kernel_rfl) (by simp) (AllReadyH.cons (UY rfl) (fun K hK => ?_) (AllReadyH.cons (UY rfl) (fun K hK => ?_) AllReadyH.nil))
  ·have HK := UC hK
   clear hK hHeld
   go_simp
   refine (UB HN _ (UB F1)).mono ?_
   rintro e w36 ⟨vN1, rfl, oN1, b36⟩
   obtain ⟨p1, q1, rfl, _⟩ := oN1.hasL.form
   replace KB := UC (UE b36 (UB KB))
   replace KR := UC (UE b36 (UB KR))
   replace F1 := UC ((UB F1).below b36)
   replace F2 := UC ((UB F2).below b36)
   replace F3 := UC ((UB F3).below b36)
   replace F4 := UC ((UB F4).below b36)
   replace L1 := UC (UE b36 (UB L1))
   have N1 := UC (oN1.here.wide (C' := W.heap.size) (by omega) (Nat.le_refl _))
   clear oN1
   have zN1 := b36.size
   have bb2 := UG bb b36
   clear bb
   have bb := bb2
   clear bb2
   clear b36
   (try go_simp)
   refine (UB HK).out _ _ (UJ (UB KB)) (fun hHeld => ?_)
   clear HK K
   try simp only [List.setIfInBounds_toArray, List.set_cons_zero, List.set_cons_succ]
   refine wpAnyH_ready (rs := [11, 16]) (by kernel_rfl) (by simp) (AllReadyH.cons (UY rfl) (fun K hK => ?_) (AllReadyH.cons (UY rfl) (fun K hK => ?_) AllReadyH.nil))
   ·have HK := UC hK
    clear hK hHeld
    go_simp
    refine (UB HT _ (UB F2)).mono ?_
    rintro e w37 ⟨vN2, rfl, oN2, b37⟩
    obtain ⟨p2, q2, rfl, _⟩ := oN2.hasL.form
    replace KB := UC (UE b37 (UB KB))
    replace KR := UC (UE b37 (UB KR))
    replace F1 := UC ((UB F1).below b37)
    replace F2 := UC ((UB F2).below b37)
    replace F3 := UC ((UB F3).below b37)
    replace F4 := UC ((UB F4).below b37)
    replace N1 := UC ((UB N1).below b37)
    replace L1 := UC (UE b37 (UB L1))
    have N2 := UC (oN2.here.wide (C' := W.heap.size) (by omega) (Nat.le_refl _))
    clear oN2
    have zN2 := b37.size
    have bb2 := UG bb b37
    clear bb
    have bb := bb2
    clear bb2
    clear b37
    (try go_simp)
    refine (UB HK).out _ _ (UJ (UB KB)) (fun hHeld => ?_)
    clear HK K
    try simp only [List.setIfInBounds_toArray, List.set_cons_zero, List.set_cons_succ]
    refine wpAnyH_ready (rs := [15, 16]) (by kernel_rfl) (by simp) (AllReadyH.cons (UY rfl) (fun K hK => ?_) (AllReadyH.cons (UY rfl) (fun K hK => ?_) AllReadyH.nil))
    ·have HK := UC hK
     clear hK hHeld
     refine VU rfl (.tmp 15) (.tmp 17) 56 5 rfl Tryz.underlying56 (.int .u8 0) 1 VJ (by decide) (by decide) W.heap.size _ (by omega) (UB L1) _ _ rfl rfl (UB F3).readsV (one_of _) (by rw [List.length_map]; omega) ?_
     rintro vX1 w38 oX1 b38
     rw [List.length_map] at oX1
     replace oX1 : Own W.heap.size 5 w38 vX1 r.text := oX1
     obtain ⟨p3, q3, rfl, _⟩ := oX1.lies
     replace KB := UC (UE b38 (UB KB))
     replace KR := UC (UE b38 (UB KR))
     replace F1 := UC ((UB F1).below b38)
     replace F2 := UC ((UB F2).below b38)
     replace F3 := UC ((UB F3).below b38)
     replace F4 := UC ((UB F4).below b38)
     replace N1 := UC ((UB N1).below b38)
     replace N2 := UC ((UB N2).below b38)
     replace L1 := UC (UE b38 (UB L1))
     have X1 := UC oX1
     clear oX1
     have zX1 := b38.size
     have bb2 := UG bb b38
     clear bb
     have bb := bb2
     clear bb2
     clear b38
     (try go_simp)
     refine (UB HK).out _ _ (UJ (UB KB)) (fun hHeld => ?_)
     clear HK K
     try simp only [List.setIfInBounds_toArray, List.set_cons_zero, List.set_cons_succ]
     refine wpAnyH_ready (rs := [16]) (by kernel_rfl) (by simp) (AllReadyH.cons (UY rfl) (fun K hK => ?_) AllReadyH.nil)
     ·have HK := UC hK
      clear hK hHeld
      go_simp
      have b39 := below_lit (w := w38) 3
      replace KB := UC (UE b39 (UB KB))
      replace KR := UC (UE b39 (UB KR))
      replace F1 := UC ((UB F1).below b39)
      replace F2 := UC ((UB F2).below b39)
      replace F3 := UC ((UB F3).below b39)
      replace F4 := UC ((UB F4).below b39)
      replace N1 := UC ((UB N1).below b39)
      replace N2 := UC ((UB N2).below b39)
      replace X1 := UC ((UB X1).below b39)
      replace L1 := UC (UE b39 (UB L1))
      have L2 := UC (heap_alloc_new w38 (.cells #[] 3))
      have zL2 := b39.size
      have bb2 := UG bb b39
      clear bb
      have bb := bb2
      clear bb2
      have hL2 : W.heap.size ≤ w38.heap.size := by omega
      generalize w38.alloc (.cells #[] 3) = w39 at *
      clear b39
      (try go_simp)
      refine (UB HK).out _ _ (UJ (UB KB)) (fun hHeld => ?_)
      clear HK K
      try simp only [List.setIfInBounds_toArray, List.set_cons_zero, List.set_cons_succ]
      refine wpAnyH_ready (rs := [19]) (by kernel_rfl) (by simp) (AllReadyH.cons (UY rfl) (fun K hK => ?_) AllReadyH.nil)
      ·have HK := UC hK
       clear hK hHeld
       refine VU rfl (.tmp 19) (.tmp 21) 57 3 rfl Tryz.underlying57 (.int .i64 0) 8 info_int8 (by decide) (by decide) W.heap.size _ (by omega) (UB L2) _ _ rfl rfl (UB F4).readsV (one_ofI _) (by rw [List.length_map]; omega) ?_
       rintro vY1 w40 oY1 b40
       rw [List.length_map] at oY1
       replace oY1 : OwnI W.heap.size 3 w40 vY1 r.nums := oY1
       obtain ⟨p4, q4, rfl, _⟩ := oY1.lies
       replace KB := UC (UE b40 (UB KB))
       replace KR := UC (UE b40 (UB KR))
       replace F1 := UC ((UB F1).below b40)
       replace F2 := UC ((UB F2).below b40)
       replace F3 := UC ((UB F3).below b40)
       replace F4 := UC ((UB F4).below b40)
       replace N1 := UC ((UB N1).below b40)
       replace N2 := UC ((UB N2).below b40)
       replace X1 := UC ((UB X1).below b40)
       replace L1 := UC (UE b40 (UB L1))
       replace L2 := UC (UE b40 (UB L2))
       have Y1 := UC oY1
       clear oY1
       have zY1 := b40.size
       have bb2 := UG bb b40
       clear bb
       have bb := bb2
       clear bb2
       clear b40
       (try go_simp)
       refine (UB HK).out _ _ (UJ (UB KB)) (fun hHeld => ?_)
       clear HK K
       try simp only [List.setIfInBounds_toArray, List.set_cons_zero, List.set_cons_succ]
       refine tkI 20 (.agg #[.slice p1 r.name.length q1, .int .i64 r.type, .int .i64 r.ttl, .int .i64 r.addr, .slice p2 r.to.length q2, .slice p3 r.text.length q3, .slice p4 r.nums.length q4]) rfl (by kernel_rfl) (by kernel_rfl) (fun _ _ _ h => h) ?_ hHeld ?_
       ·(intro w hSw; (try dsimp only at hSw); go_simp)
       try simp only [Act.put, List.setIfInBounds_toArray, List.set_cons_zero, List.set_cons_succ]
       obtain ⟨R9, u9⟩ := set7 (c0 := .slice p1 r.name.length q1) (c1 := .int .i64 r.type) (c2 := .int .i64 r.ttl) (c3 := .int .i64 r.addr) (c4 := .slice p2 r.to.length q2) (c5 := .slice p3 r.text.length q3) (c6 := .slice p4 r.nums.length q4) (UB KR)
       refine wpAnyH_ready (rs := [21]) (by kernel_rfl) (by simp) (AllReadyH.cons (UY rfl) (fun K hK => ?_) AllReadyH.nil)
       rw [if_pos (by rfl)]
       refine wp_store7 67 (.tmp 2) (.tmp 23) rfl (w.heap.size + 1) (.slice p1 r.name.length q1) (.int .i64 r.type) (.int .i64 r.ttl) (.int .i64 r.addr) (.slice p2 r.to.length q2) (.slice p3 r.text.length q3) (.slice p4 r.nums.length q4) rfl rfl (UB KR) (by kernel_rfl) (by simp [Value.oneCell']) ?_
       refine hK.out _ _ (UJ (u9.kept (UB KB) (by omega))) (fun hHeld => ?_)
       clear hK K hHeld
       refine wpAnyH_done (by kernel_rfl) ?_ _
       go_wp2_with fail
       refine bodyPost_ret (results_cell_row rfl _ _ (w.heap.size + 1) 67 #[.slice p1 r.name.length q1, .int .i64 r.type, .int .i64 r.ttl, .int .i64 r.addr, .slice p2 r.to.length q2, .slice p3 r.text.length q3, .slice p4 r.nums.length q4] (0, 0) _ rfl R9 Tryz.underlying67 rfl (by kernel_rfl)) rfl ?_
       exact ⟨_, _, _, _, rfl, ((UB N1).outside u9 (.inr (by omega))).ownL.mono (by omega), ((UB N2).outside u9 (.inr (by omega))).ownL.mono (by omega), ((UB X1).outside u9 (by omega)).mono (by omega), (((UB Y1).here).outside u9 (.inr (by omega))).1.mono (by omega), u9.below bb (by omega)⟩
    ·have HK := UC hK
     clear hK hHeld
     go_simp
     have b41 := below_lit (w := w37) 3
     replace KB := UC (UE b41 (UB KB))
     replace KR := UC (UE b41 (UB KR))
     replace F1 := UC ((UB F1).below b41)
     replace F2 := UC ((UB F2).below b41)
     replace F3 := UC ((UB F3).below b41)
     replace F4 := UC ((UB F4).below b41)
     replace N1 := UC ((UB N1).below b41)
     replace N2 := UC ((UB N2).below b41)
     replace L1 := UC (UE b41 (UB L1))
     have L2 := UC (heap_alloc_new w37 (.cells #[] 3))
     have zL2 := b41.size
     have bb2 := UG bb b41
     clear bb
     have bb := bb2
     clear bb2
     have hL2 : W.heap.size ≤ w37.heap.size := by omega
     generalize w37.alloc (.cells #[] 3) = w41 at *
     clear b41
     (try go_simp)
     refine (UB HK).out _ _ (UJ (UB KB)) (fun hHeld => ?_)
     clear HK K
     try simp only [List.setIfInBounds_toArray, List.set_cons_zero, List.set_cons_succ]
     refine wpAnyH_ready (rs := [15]) (by kernel_rfl) (by simp) (AllReadyH.cons (UY rfl) (fun K hK => ?_) AllReadyH.nil)
     ·have HK := UC hK
      clear hK hHeld
      refine VU rfl (.tmp 15) (.tmp 17) 56 5 rfl Tryz.underlying56 (.int .u8 0) 1 VJ (by decide) (by decide) W.heap.size _ (by omega) (UB L1) _ _ rfl rfl (UB F3).readsV (one_of _) (by rw [List.length_map]; omega) ?_
      rintro vX1 w42 oX1 b42
      rw [List.length_map] at oX1
      replace oX1 : Own W.heap.size 5 w42 vX1 r.text := oX1
      obtain ⟨p3, q3, rfl, _⟩ := oX1.lies
      replace KB := UC (UE b42 (UB KB))
      replace KR := UC (UE b42 (UB KR))
      replace F1 := UC ((UB F1).below b42)
      replace F2 := UC ((UB F2).below b42)
      replace F3 := UC ((UB F3).below b42)
      replace F4 := UC ((UB F4).below b42)
      replace N1 := UC ((UB N1).below b42)
      replace N2 := UC ((UB N2).below b42)
      replace L1 := UC (UE b42 (UB L1))
      replace L2 := UC (UE b42 (UB L2))
      have X1 := UC oX1
      clear oX1
      have zX1 := b42.size
      have bb2 := UG bb b42
      clear bb
      have bb := bb2
      clear bb2
      clear b42
      (try go_simp)
      refine (UB HK).out _ _ (UJ (UB KB)) (fun hHeld => ?_)
      clear HK K
      try simp only [List.setIfInBounds_toArray, List.set_cons_zero, List.set_cons_succ]
      refine wpAnyH_ready (rs := [19]) (by kernel_rfl) (by simp) (AllReadyH.cons (UY rfl) (fun K hK => ?_) AllReadyH.nil)
      ·have HK := UC hK
       clear hK hHeld
       refine VU rfl (.tmp 19) (.tmp 21) 57 3 rfl Tryz.underlying57 (.int .i64 0) 8 info_int8 (by decide) (by decide) W.heap.size _ (by omega) (UB L2) _ _ rfl rfl (UB F4).readsV (one_ofI _) (by rw [List.length_map]; omega) ?_
       rintro vY1 w43 oY1 b43
       rw [List.length_map] at oY1
       replace oY1 : OwnI W.heap.size 3 w43 vY1 r.nums := oY1
       obtain ⟨p4, q4, rfl, _⟩ := oY1.lies
       replace KB := UC (UE b43 (UB KB))
       replace KR := UC (UE b43 (UB KR))
       replace F1 := UC ((UB F1).below b43)
       replace F2 := UC ((UB F2).below b43)
       replace F3 := UC ((UB F3).below b43)
       replace F4 := UC ((UB F4).below b43)
       replace N1 := UC ((UB N1).below b43)
       replace N2 := UC ((UB N2).below b43)
       replace X1 := UC ((UB X1).below b43)
       replace L1 := UC (UE b43 (UB L1))
       replace L2 := UC (UE b43 (UB L2))
       have Y1 := UC oY1
       clear oY1
       have zY1 := b43.size
       have bb2 := UG bb b43
       clear bb
       have bb := bb2
       clear bb2
       clear b43
       (try go_simp)
       refine (UB HK).out _ _ (UJ (UB KB)) (fun hHeld => ?_)
       clear HK K
       try simp only [List.setIfInBounds_toArray, List.set_cons_zero, List.set_cons_succ]
       refine tkI 20 (.agg #[.slice p1 r.name.length q1, .int .i64 r.type, .int .i64 r.ttl, .int .i64 r.addr, .slice p2 r.to.length q2, .slice p3 r.text.length q3, .slice p4 r.nums.length q4]) rfl (by kernel_rfl) (by kernel_rfl) (fun _ _ _ h => h) ?_ hHeld ?_
       ·(intro w hSw; (try dsimp only at hSw); go_simp)
       try simp only [Act.put, List.setIfInBounds_toArray, List.set_cons_zero, List.set_cons_succ]
       obtain ⟨R9, u9⟩ := set7 (c0 := .slice p1 r.name.length q1) (c1 := .int .i64 r.type) (c2 := .int .i64 r.ttl) (c3 := .int .i64 r.addr) (c4 := .slice p2 r.to.length q2) (c5 := .slice p3 r.text.length q3) (c6 := .slice p4 r.nums.length q4) (UB KR)
       refine wpAnyH_ready (rs := [21]) (by kernel_rfl) (by simp) (AllReadyH.cons (UY rfl) (fun K hK => ?_) AllReadyH.nil)
       rw [if_pos (by rfl)]
       refine wp_store7 67 (.tmp 2) (.tmp 23) rfl (w.heap.size + 1) (.slice p1 r.name.length q1) (.int .i64 r.type) (.int .i64 r.ttl) (.int .i64 r.addr) (.slice p2 r.to.length q2) (.slice p3 r.text.length q3) (.slice p4 r.nums.length q4) rfl rfl (UB KR) (by kernel_rfl) (by simp [Value.oneCell']) ?_
       refine hK.out _ _ (UJ (u9.kept (UB KB) (by omega))) (fun hHeld => ?_)
       clear hK K hHeld
       refine wpAnyH_done (by kernel_rfl) ?_ _
       go_wp2_with fail
       refine bodyPost_ret (results_cell_row rfl _ _ (w.heap.size + 1) 67 #[.slice p1 r.name.length q1, .int .i64 r.type, .int .i64 r.ttl, .int .i64 r.addr, .slice p2 r.to.length q2, .slice p3 r.text.length q3, .slice p4 r.nums.length q4] (0, 0) _ rfl R9 Tryz.underlying67 rfl (by kernel_rfl)) rfl ?_
       exact ⟨_, _, _, _, rfl, ((UB N1).outside u9 (.inr (by omega))).ownL.mono (by omega), ((UB N2).outside u9 (.inr (by omega))).ownL.mono (by omega), ((UB X1).outside u9 (by omega)).mono (by omega), (((UB Y1).here).outside u9 (.inr (by omega))).1.mono (by omega), u9.below bb (by omega)⟩
   ·have HK := UC hK
    clear hK hHeld
    go_simp
    have b44 := below_lit (w := w36) 3
    replace KB := UC (UE b44 (UB KB))
    replace KR := UC (UE b44 (UB KR))
    replace F1 := UC ((UB F1).below b44)
    replace F2 := UC ((UB F2).below b44)
    replace F3 := UC ((UB F3).below b44)
    replace F4 := UC ((UB F4).below b44)
    replace N1 := UC ((UB N1).below b44)
    replace L1 := UC (UE b44 (UB L1))
    have L2 := UC (heap_alloc_new w36 (.cells #[] 3))
    have zL2 := b44.size
    have bb2 := UG bb b44
    clear bb
    have bb := bb2
    clear bb2
    have hL2 : W.heap.size ≤ w36.heap.size := by omega
    generalize w36.alloc (.cells #[] 3) = w44 at *
    clear b44
    (try go_simp)
    refine (UB HK).out _ _ (UJ (UB KB)) (fun hHeld => ?_)
    clear HK K
    try simp only [List.setIfInBounds_toArray, List.set_cons_zero, List.set_cons_succ]
    refine wpAnyH_ready (rs := [11]) (by kernel_rfl) (by simp) (AllReadyH.cons (UY rfl) (fun K hK => ?_) AllReadyH.nil)
    ·have HK := UC hK
     clear hK hHeld
     go_simp
     refine (UB HT _ (UB F2)).mono ?_
     rintro e w45 ⟨vN2, rfl, oN2, b45⟩
     obtain ⟨p2, q2, rfl, _⟩ := oN2.hasL.form
     replace KB := UC (UE b45 (UB KB))
     replace KR := UC (UE b45 (UB KR))
     replace F1 := UC ((UB F1).below b45)
     replace F2 := UC ((UB F2).below b45)
     replace F3 := UC ((UB F3).below b45)
     replace F4 := UC ((UB F4).below b45)
     replace N1 := UC ((UB N1).below b45)
     replace L1 := UC (UE b45 (UB L1))
     replace L2 := UC (UE b45 (UB L2))
     have N2 := UC (oN2.here.wide (C' := W.heap.size) (by omega) (Nat.le_refl _))
     clear oN2
     have zN2 := b45.size
     have bb2 := UG bb b45
     clear bb
     have bb := bb2
     clear bb2
     clear b45
     (try go_simp)
     refine (UB HK).out _ _ (UJ (UB KB)) (fun hHeld => ?_)
     clear HK K
     try simp only [List.setIfInBounds_toArray, List.set_cons_zero, List.set_cons_succ]
     refine wpAnyH_ready (rs := [15]) (by kernel_rfl) (by simp) (AllReadyH.cons (UY rfl) (fun K hK => ?_) AllReadyH.nil)
     ·have HK := UC hK
      clear hK hHeld
      refine VU rfl (.tmp 15) (.tmp 17) 56 5 rfl Tryz.underlying56 (.int .u8 0) 1 VJ (by decide) (by decide) W.heap.size _ (by omega) (UB L1) _ _ rfl rfl (UB F3).readsV (one_of _) (by rw [List.length_map]; omega) ?_
      rintro vX1 w46 oX1 b46
      rw [List.length_map] at oX1
      replace oX1 : Own W.heap.size 5 w46 vX1 r.text := oX1
      obtain ⟨p3, q3, rfl, _⟩ := oX1.lies
      replace KB := UC (UE b46 (UB KB))
      replace KR := UC (UE b46 (UB KR))
      replace F1 := UC ((UB F1).below b46)
      replace F2 := UC ((UB F2).below b46)
      replace F3 := UC ((UB F3).below b46)
      replace F4 := UC ((UB F4).below b46)
      replace N1 := UC ((UB N1).below b46)
      replace N2 := UC ((UB N2).below b46)
      replace L1 := UC (UE b46 (UB L1))
      replace L2 := UC (UE b46 (UB L2))
      have X1 := UC oX1
      clear oX1
      have zX1 := b46.size
      have bb2 := UG bb b46
      clear bb
      have bb := bb2
      clear bb2
      clear b46
      (try go_simp)
      refine (UB HK).out _ _ (UJ (UB KB)) (fun hHeld => ?_)
      clear HK K
      try simp only [List.setIfInBounds_toArray, List.set_cons_zero, List.set_cons_succ]
      refine wpAnyH_ready (rs := [19]) (by kernel_rfl) (by simp) (AllReadyH.cons (UY rfl) (fun K hK => ?_) AllReadyH.nil)
      ·have HK := UC hK
       clear hK hHeld
       refine VU rfl (.tmp 19) (.tmp 21) 57 3 rfl Tryz.underlying57 (.int .i64 0) 8 info_int8 (by decide) (by decide) W.heap.size _ (by omega) (UB L2) _ _ rfl rfl (UB F4).readsV (one_ofI _) (by rw [List.length_map]; omega) ?_
       rintro vY1 w47 oY1 b47
       rw [List.length_map] at oY1
       replace oY1 : OwnI W.heap.size 3 w47 vY1 r.nums := oY1
       obtain ⟨p4, q4, rfl, _⟩ := oY1.lies
       replace KB := UC (UE b47 (UB KB))
       replace KR := UC (UE b47 (UB KR))
       replace F1 := UC ((UB F1).below b47)
       replace F2 := UC ((UB F2).below b47)
       replace F3 := UC ((UB F3).below b47)
       replace F4 := UC ((UB F4).below b47)
       replace N1 := UC ((UB N1).below b47)
       replace N2 := UC ((UB N2).below b47)
       replace X1 := UC ((UB X1).below b47)
       replace L1 := UC (UE b47 (UB L1))
       replace L2 := UC (UE b47 (UB L2))
       have Y1 := UC oY1
       clear oY1
       have zY1 := b47.size
       have bb2 := UG bb b47
       clear bb
       have bb := bb2
       clear bb2
       clear b47
       (try go_simp)
       refine (UB HK).out _ _ (UJ (UB KB)) (fun hHeld => ?_)
       clear HK K
       try simp only [List.setIfInBounds_toArray, List.set_cons_zero, List.set_cons_succ]
       refine tkI 20 (.agg #[.slice p1 r.name.length q1, .int .i64 r.type, .int .i64 r.ttl, .int .i64 r.addr, .slice p2 r.to.length q2, .slice p3 r.text.length q3, .slice p4 r.nums.length q4]) rfl (by kernel_rfl) (by kernel_rfl) (fun _ _ _ h => h) ?_ hHeld ?_
       ·(intro w hSw; (try dsimp only at hSw); go_simp)
       try simp only [Act.put, List.setIfInBounds_toArray, List.set_cons_zero, List.set_cons_succ]
       obtain ⟨R9, u9⟩ := set7 (c0 := .slice p1 r.name.length q1) (c1 := .int .i64 r.type) (c2 := .int .i64 r.ttl) (c3 := .int .i64 r.addr) (c4 := .slice p2 r.to.length q2) (c5 := .slice p3 r.text.length q3) (c6 := .slice p4 r.nums.length q4) (UB KR)
       refine wpAnyH_ready (rs := [21]) (by kernel_rfl) (by simp) (AllReadyH.cons (UY rfl) (fun K hK => ?_) AllReadyH.nil)
       rw [if_pos (by rfl)]
       refine wp_store7 67 (.tmp 2) (.tmp 23) rfl (w.heap.size + 1) (.slice p1 r.name.length q1) (.int .i64 r.type) (.int .i64 r.ttl) (.int .i64 r.addr) (.slice p2 r.to.length q2) (.slice p3 r.text.length q3) (.slice p4 r.nums.length q4) rfl rfl (UB KR) (by kernel_rfl) (by simp [Value.oneCell']) ?_
       refine hK.out _ _ (UJ (u9.kept (UB KB) (by omega))) (fun hHeld => ?_)
       clear hK K hHeld
       refine wpAnyH_done (by kernel_rfl) ?_ _
       go_wp2_with fail
       refine bodyPost_ret (results_cell_row rfl _ _ (w.heap.size + 1) 67 #[.slice p1 r.name.length q1, .int .i64 r.type, .int .i64 r.ttl, .int .i64 r.addr, .slice p2 r.to.length q2, .slice p3 r.text.length q3, .slice p4 r.nums.length q4] (0, 0) _ rfl R9 Tryz.underlying67 rfl (by kernel_rfl)) rfl ?_
       exact ⟨_, _, _, _, rfl, ((UB N1).outside u9 (.inr (by omega))).ownL.mono (by omega), ((UB N2).outside u9 (.inr (by omega))).ownL.mono (by omega), ((UB X1).outside u9 (by omega)).mono (by omega), (((UB Y1).here).outside u9 (.inr (by omega))).1.mono (by omega), u9.below bb (by omega)⟩
  ·have HK := UC hK
   clear hK hHeld
   go_simp
   have b48 := below_lit (w := w35) 3
   replace KB := UC (UE b48 (UB KB))
   replace KR := UC (UE b48 (UB KR))
   replace F1 := UC ((UB F1).below b48)
   replace F2 := UC ((UB F2).below b48)
   replace F3 := UC ((UB F3).below b48)
   replace F4 := UC ((UB F4).below b48)
   replace L1 := UC (UE b48 (UB L1))
   have L2 := UC (heap_alloc_new w35 (.cells #[] 3))
   have zL2 := b48.size
   have bb2 := UG bb b48
   clear bb
   have bb := bb2
   clear bb2
   have hL2 : W.heap.size ≤ w35.heap.size := by omega
   generalize w35.alloc (.cells #[] 3) = w48 at *
   clear b48
   (try go_simp)
   refine (UB HK).out _ _ (UJ (UB KB)) (fun hHeld => ?_)
   clear HK K
   try simp only [List.setIfInBounds_toArray, List.set_cons_zero, List.set_cons_succ]
   refine wpAnyH_ready (rs := [2]) (by kernel_rfl) (by simp) (AllReadyH.cons (UY rfl) (fun K hK => ?_) AllReadyH.nil)
   ·have HK := UC hK
    clear hK hHeld
    go_simp
    refine (UB HN _ (UB F1)).mono ?_
    rintro e w49 ⟨vN1, rfl, oN1, b49⟩
    obtain ⟨p1, q1, rfl, _⟩ := oN1.hasL.form
    replace KB := UC (UE b49 (UB KB))
    replace KR := UC (UE b49 (UB KR))
    replace F1 := UC ((UB F1).below b49)
    replace F2 := UC ((UB F2).below b49)
    replace F3 := UC ((UB F3).below b49)
    replace F4 := UC ((UB F4).below b49)
    replace L1 := UC (UE b49 (UB L1))
    replace L2 := UC (UE b49 (UB L2))
    have N1 := UC (oN1.here.wide (C' := W.heap.size) (by omega) (Nat.le_refl _))
    clear oN1
    have zN1 := b49.size
    have bb2 := UG bb b49
    clear bb
    have bb := bb2
    clear bb2
    clear b49
    (try go_simp)
    refine (UB HK).out _ _ (UJ (UB KB)) (fun hHeld => ?_)
    clear HK K
    try simp only [List.setIfInBounds_toArray, List.set_cons_zero, List.set_cons_succ]
    refine wpAnyH_ready (rs := [11]) (by kernel_rfl) (by simp) (AllReadyH.cons (UY rfl) (fun K hK => ?_) AllReadyH.nil)
    ·have HK := UC hK
     clear hK hHeld
     go_simp
     refine (UB HT _ (UB F2)).mono ?_
     rintro e w50 ⟨vN2, rfl, oN2, b50⟩
     obtain ⟨p2, q2, rfl, _⟩ := oN2.hasL.form
     replace KB := UC (UE b50 (UB KB))
     replace KR := UC (UE b50 (UB KR))
     replace F1 := UC ((UB F1).below b50)
     replace F2 := UC ((UB F2).below b50)
     replace F3 := UC ((UB F3).below b50)
     replace F4 := UC ((UB F4).below b50)
     replace N1 := UC ((UB N1).below b50)
     replace L1 := UC (UE b50 (UB L1))
     replace L2 := UC (UE b50 (UB L2))
     have N2 := UC (oN2.here.wide (C' := W.heap.size) (by omega) (Nat.le_refl _))
     clear oN2
     have zN2 := b50.size
     have bb2 := UG bb b50
     clear bb
     have bb := bb2
     clear bb2
     clear b50
     (try go_simp)
     refine (UB HK).out _ _ (UJ (UB KB)) (fun hHeld => ?_)
     clear HK K
     try simp only [List.setIfInBounds_toArray, List.set_cons_zero, List.set_cons_succ]
     refine wpAnyH_ready (rs := [15]) (by kernel_rfl) (by simp) (AllReadyH.cons (UY rfl) (fun K hK => ?_) AllReadyH.nil)
     ·have HK := UC hK
      clear hK hHeld
      refine VU rfl (.tmp 15) (.tmp 17) 56 5 rfl Tryz.underlying56 (.int .u8 0) 1 VJ (by decide) (by decide) W.heap.size _ (by omega) (UB L1) _ _ rfl rfl (UB F3).readsV (one_of _) (by rw [List.length_map]; omega) ?_
      rintro vX1 w51 oX1 b51
      rw [List.length_map] at oX1
      replace oX1 : Own W.heap.size 5 w51 vX1 r.text := oX1
      obtain ⟨p3, q3, rfl, _⟩ := oX1.lies
      replace KB := UC (UE b51 (UB KB))
      replace KR := UC (UE b51 (UB KR))
      replace F1 := UC ((UB F1).below b51)
      replace F2 := UC ((UB F2).below b51)
      replace F3 := UC ((UB F3).below b51)
      replace F4 := UC ((UB F4).below b51)
      replace N1 := UC ((UB N1).below b51)
      replace N2 := UC ((UB N2).below b51)
      replace L1 := UC (UE b51 (UB L1))
      replace L2 := UC (UE b51 (UB L2))
      have X1 := UC oX1
      clear oX1
      have zX1 := b51.size
      have bb2 := UG bb b51
      clear bb
      have bb := bb2
      clear bb2
      clear b51
      (try go_simp)
      refine (UB HK).out _ _ (UJ (UB KB)) (fun hHeld => ?_)
      clear HK K
      try simp only [List.setIfInBounds_toArray, List.set_cons_zero, List.set_cons_succ]
      refine wpAnyH_ready (rs := [19]) (by kernel_rfl) (by simp) (AllReadyH.cons (UY rfl) (fun K hK => ?_) AllReadyH.nil)
      ·have HK := UC hK
       clear hK hHeld
       refine VU rfl (.tmp 19) (.tmp 21) 57 3 rfl Tryz.underlying57 (.int .i64 0) 8 info_int8 (by decide) (by decide) W.heap.size _ (by omega) (UB L2) _ _ rfl rfl (UB F4).readsV (one_ofI _) (by rw [List.length_map]; omega) ?_
       rintro vY1 w52 oY1 b52
       rw [List.length_map] at oY1
       replace oY1 : OwnI W.heap.size 3 w52 vY1 r.nums := oY1
       obtain ⟨p4, q4, rfl, _⟩ := oY1.lies
       replace KB := UC (UE b52 (UB KB))
       replace KR := UC (UE b52 (UB KR))
       replace F1 := UC ((UB F1).below b52)
       replace F2 := UC ((UB F2).below b52)
       replace F3 := UC ((UB F3).below b52)
       replace F4 := UC ((UB F4).below b52)
       replace N1 := UC ((UB N1).below b52)
       replace N2 := UC ((UB N2).below b52)
       replace X1 := UC ((UB X1).below b52)
       replace L1 := UC (UE b52 (UB L1))
       replace L2 := UC (UE b52 (UB L2))
       have Y1 := UC oY1
       clear oY1
       have zY1 := b52.size
       have bb2 := UG bb b52
       clear bb
       have bb := bb2
       clear bb2
       clear b52
       (try go_simp)
       refine (UB HK).out _ _ (UJ (UB KB)) (fun hHeld => ?_)
       clear HK K
       try simp only [List.setIfInBounds_toArray, List.set_cons_zero, List.set_cons_succ]
       refine tkI 20 (.agg #[.slice p1 r.name.length q1, .int .i64 r.type, .int .i64 r.ttl, .int .i64 r.addr, .slice p2 r.to.length q2, .slice p3 r.text.length q3, .slice p4 r.nums.length q4]) rfl (by kernel_rfl) (by kernel_rfl) (fun _ _ _ h => h) ?_ hHeld ?_
       ·(intro w hSw; (try dsimp only at hSw); go_simp)
       try simp only [Act.put, List.setIfInBounds_toArray, List.set_cons_zero, List.set_cons_succ]
       obtain ⟨R9, u9⟩ := set7 (c0 := .slice p1 r.name.length q1) (c1 := .int .i64 r.type) (c2 := .int .i64 r.ttl) (c3 := .int .i64 r.addr) (c4 := .slice p2 r.to.length q2) (c5 := .slice p3 r.text.length q3) (c6 := .slice p4 r.nums.length q4) (UB KR)
       refine wpAnyH_ready (rs := [21]) (by kernel_rfl) (by simp) (AllReadyH.cons (UY rfl) (fun K hK => ?_) AllReadyH.nil)
       rw [if_pos (by rfl)]
       refine wp_store7 67 (.tmp 2) (.tmp 23) rfl (w.heap.size + 1) (.slice p1 r.name.length q1) (.int .i64 r.type) (.int .i64 r.ttl) (.int .i64 r.addr) (.slice p2 r.to.length q2) (.slice p3 r.text.length q3) (.slice p4 r.nums.length q4) rfl rfl (UB KR) (by kernel_rfl) (by simp [Value.oneCell']) ?_
       refine hK.out _ _ (UJ (u9.kept (UB KB) (by omega))) (fun hHeld => ?_)
       clear hK K hHeld
       refine wpAnyH_done (by kernel_rfl) ?_ _
       go_wp2_with fail
       refine bodyPost_ret (results_cell_row rfl _ _ (w.heap.size + 1) 67 #[.slice p1 r.name.length q1, .int .i64 r.type, .int .i64 r.ttl, .int .i64 r.addr, .slice p2 r.to.length q2, .slice p3 r.text.length q3, .slice p4 r.nums.length q4] (0, 0) _ rfl R9 Tryz.underlying67 rfl (by kernel_rfl)) rfl ?_
       exact ⟨_, _, _, _, rfl, ((UB N1).outside u9 (.inr (by omega))).ownL.mono (by omega), ((UB N2).outside u9 (.inr (by omega))).ownL.mono (by omega), ((UB X1).outside u9 (by omega)).mono (by omega), (((UB Y1).here).outside u9 (.inr (by omega))).1.mono (by omega), u9.below bb (by omega)⟩
 ·have HK := UC hK
  clear hK hHeld
  go_simp
  have b53 := below_lit (w := W0) 3
  replace KB := UC (UE b53 (UB KB))
  replace KR := UC (UE b53 (UB KR))
  replace F1 := UC ((UB F1).below b53)
  replace F2 := UC ((UB F2).below b53)
  replace F3 := UC ((UB F3).below b53)
  replace F4 := UC ((UB F4).below b53)
  have L2 := UC (heap_alloc_new W0 (.cells #[] 3))
  have zL2 := b53.size
  have bb2 := UG bb b53
  clear bb
  have bb := bb2
  clear bb2
  have hL2 : W.heap.size ≤ W0.heap.size := by omega
  generalize W0.alloc (.cells #[] 3) = w53 at *
  clear b53
  (try go_simp)
  refine (UB HK).out _ _ (UJ (UB KB)) (fun hHeld => ?_)
  clear HK K
  try simp only [List.setIfInBounds_toArray, List.set_cons_zero, List.set_cons_succ]
  refine wpAnyH_ready (rs := [2, 12]) (by kernel_rfl) (by simp) (AllReadyH.cons (UY rfl) (fun K hK => ?_) (AllReadyH.cons (UY rfl) (fun K hK => ?_) AllReadyH.nil))
  ·have HK := UC hK
   clear hK hHeld
   go_simp
   refine (UB HN _ (UB F1)).mono ?_
   rintro e w54 ⟨vN1, rfl, oN1, b54⟩
   obtain ⟨p1, q1, rfl, _⟩ := oN1.hasL.form
   replace KB := UC (UE b54 (UB KB))
   replace KR := UC (UE b54 (UB KR))
   replace F1 := UC ((UB F1).below b54)
   replace F2 := UC ((UB F2).below b54)
   replace F3 := UC ((UB F3).below b54)
   replace F4 := UC ((UB F4).below b54)
   replace L2 := UC (UE b54 (UB L2))
   have N1 := UC (oN1.here.wide (C' := W.heap.size) (by omega) (Nat.le_refl _))
   clear oN1
   have zN1 := b54.size
   have bb2 := UG bb b54
   clear bb
   have bb := bb2
   clear bb2
   clear b54
   (try go_simp)
   refine (UB HK).out _ _ (UJ (UB KB)) (fun hHeld => ?_)
   clear HK K
   try simp only [List.setIfInBounds_toArray, List.set_cons_zero, List.set_cons_succ]
   refine wpAnyH_ready (rs := [11, 12]) (by kernel_rfl) (by simp) (AllReadyH.cons (UY rfl) (fun K hK => ?_) (AllReadyH.cons (UY rfl) (fun K hK => ?_) AllReadyH.nil))
   ·have HK := UC hK
    clear hK hHeld
    go_simp
    refine (UB HT _ (UB F2)).mono ?_
    rintro e w55 ⟨vN2, rfl, oN2, b55⟩
    obtain ⟨p2, q2, rfl, _⟩ := oN2.hasL.form
    replace KB := UC (UE b55 (UB KB))
    replace KR := UC (UE b55 (UB KR))
    replace F1 := UC ((UB F1).below b55)
    replace F2 := UC ((UB F2).below b55)
    replace F3 := UC ((UB F3).below b55)
    replace F4 := UC ((UB F4).below b55)
    replace N1 := UC ((UB N1).below b55)
    replace L2 := UC (UE b55 (UB L2))
    have N2 := UC (oN2.here.wide (C' := W.heap.size) (by omega) (Nat.le_refl _))
    clear oN2
    have zN2 := b55.size
    have bb2 := UG bb b55
    clear bb
    have bb := bb2
    clear bb2
    clear b55
    (try go_simp)
    refine (UB HK).out _ _ (UJ (UB KB)) (fun hHeld => ?_)
    clear HK K
    try simp only [List.setIfInBounds_toArray, List.set_cons_zero, List.set_cons_succ]
    refine wpAnyH_ready (rs := [12]) (by kernel_rfl) (by simp) (AllReadyH.cons (UY rfl) (fun K hK => ?_) AllReadyH.nil)
    ·have HK := UC hK
     clear hK hHeld
     go_simp
     have b56 := below_lit (w := w55) 5
     replace KB := UC (UE b56 (UB KB))
     replace KR := UC (UE b56 (UB KR))
     replace F1 := UC ((UB F1).below b56)
     replace F2 := UC ((UB F2).below b56)
     replace F3 := UC ((UB F3).below b56)
     replace F4 := UC ((UB F4).below b56)
     replace N1 := UC ((UB N1).below b56)
     replace N2 := UC ((UB N2).below b56)
     replace L2 := UC (UE b56 (UB L2))
     have L1 := UC (heap_alloc_new w55 (.cells #[] 5))
     have zL1 := b56.size
     have bb2 := UG bb b56
     clear bb
     have bb := bb2
     clear bb2
     have hL1 : W.heap.size ≤ w55.heap.size := by omega
     generalize w55.alloc (.cells #[] 5) = w56 at *
     clear b56
     (try go_simp)
     refine (UB HK).out _ _ (UJ (UB KB)) (fun hHeld => ?_)
     clear HK K
     try simp only [List.setIfInBounds_toArray, List.set_cons_zero, List.set_cons_succ]
     refine wpAnyH_ready (rs := [15]) (by kernel_rfl) (by simp) (AllReadyH.cons (UY rfl) (fun K hK => ?_) AllReadyH.nil)
     ·have HK := UC hK
      clear hK hHeld
      refine VU rfl (.tmp 15) (.tmp 17) 56 5 rfl Tryz.underlying56 (.int .u8 0) 1 VJ (by decide) (by decide) W.heap.size _ (by omega) (UB L1) _ _ rfl rfl (UB F3).readsV (one_of _) (by rw [List.length_map]; omega) ?_
      rintro vX1 w57 oX1 b57
      rw [List.length_map] at oX1
      replace oX1 : Own W.heap.size 5 w57 vX1 r.text := oX1
      obtain ⟨p3, q3, rfl, _⟩ := oX1.lies
      replace KB := UC (UE b57 (UB KB))
      replace KR := UC (UE b57 (UB KR))
      replace F1 := UC ((UB F1).below b57)
      replace F2 := UC ((UB F2).below b57)
      replace F3 := UC ((UB F3).below b57)
      replace F4 := UC ((UB F4).below b57)
      replace N1 := UC ((UB N1).below b57)
      replace N2 := UC ((UB N2).below b57)
      replace L1 := UC (UE b57 (UB L1))
      replace L2 := UC (UE b57 (UB L2))
      have X1 := UC oX1
      clear oX1
      have zX1 := b57.size
      have bb2 := UG bb b57
      clear bb
      have bb := bb2
      clear bb2
      clear b57
      (try go_simp)
      refine (UB HK).out _ _ (UJ (UB KB)) (fun hHeld => ?_)
      clear HK K
      try simp only [List.setIfInBounds_toArray, List.set_cons_zero, List.set_cons_succ]
      refine wpAnyH_ready (rs := [19]) (by kernel_rfl) (by simp) (AllReadyH.cons (UY rfl) (fun K hK => ?_) AllReadyH.nil)
      ·have HK := UC hK
       clear hK hHeld
       refine VU rfl (.tmp 19) (.tmp 21) 57 3 rfl Tryz.underlying57 (.int .i64 0) 8 info_int8 (by decide) (by decide) W.heap.size _ (by omega) (UB L2) _ _ rfl rfl (UB F4).readsV (one_ofI _) (by rw [List.length_map]; omega) ?_
       rintro vY1 w58 oY1 b58
       rw [List.length_map] at oY1
       replace oY1 : OwnI W.heap.size 3 w58 vY1 r.nums := oY1
       obtain ⟨p4, q4, rfl, _⟩ := oY1.lies
       replace KB := UC (UE b58 (UB KB))
       replace KR := UC (UE b58 (UB KR))
       replace F1 := UC ((UB F1).below b58)
       replace F2 := UC ((UB F2).below b58)
       replace F3 := UC ((UB F3).below b58)
       replace F4 := UC ((UB F4).below b58)
       replace N1 := UC ((UB N1).below b58)
       replace N2 := UC ((UB N2).below b58)
       replace X1 := UC ((UB X1).below b58)
       replace L1 := UC (UE b58 (UB L1))
       replace L2 := UC (UE b58 (UB L2))
       have Y1 := UC oY1
       clear oY1
       have zY1 := b58.size
       have bb2 := UG bb b58
       clear bb
       have bb := bb2
       clear bb2
       clear b58
       (try go_simp)
       refine (UB HK).out _ _ (UJ (UB KB)) (fun hHeld => ?_)
       clear HK K
       try simp only [List.setIfInBounds_toArray, List.set_cons_zero, List.set_cons_succ]
       refine tkI 20 (.agg #[.slice p1 r.name.length q1, .int .i64 r.type, .int .i64 r.ttl, .int .i64 r.addr, .slice p2 r.to.length q2, .slice p3 r.text.length q3, .slice p4 r.nums.length q4]) rfl (by kernel_rfl) (by kernel_rfl) (fun _ _ _ h => h) ?_ hHeld ?_
       ·(intro w hSw; (try dsimp only at hSw); go_simp)
       try simp only [Act.put, List.setIfInBounds_toArray, List.set_cons_zero, List.set_cons_succ]
       obtain ⟨R9, u9⟩ := set7 (c0 := .slice p1 r.name.length q1) (c1 := .int .i64 r.type) (c2 := .int .i64 r.ttl) (c3 := .int .i64 r.addr) (c4 := .slice p2 r.to.length q2) (c5 := .slice p3 r.text.length q3) (c6 := .slice p4 r.nums.length q4) (UB KR)
       refine wpAnyH_ready (rs := [21]) (by kernel_rfl) (by simp) (AllReadyH.cons (UY rfl) (fun K hK => ?_) AllReadyH.nil)
       rw [if_pos (by rfl)]
       refine wp_store7 67 (.tmp 2) (.tmp 23) rfl (w.heap.size + 1) (.slice p1 r.name.length q1) (.int .i64 r.type) (.int .i64 r.ttl) (.int .i64 r.addr) (.slice p2 r.to.length q2) (.slice p3 r.text.length q3) (.slice p4 r.nums.length q4) rfl rfl (UB KR) (by kernel_rfl) (by simp [Value.oneCell']) ?_
       refine hK.out _ _ (UJ (u9.kept (UB KB) (by omega))) (fun hHeld => ?_)
       clear hK K hHeld
       refine wpAnyH_done (by kernel_rfl) ?_ _
       go_wp2_with fail
       refine bodyPost_ret (results_cell_row rfl _ _ (w.heap.size + 1) 67 #[.slice p1 r.name.length q1, .int .i64 r.type, .int .i64 r.ttl, .int .i64 r.addr, .slice p2 r.to.length q2, .slice p3 r.text.length q3, .slice p4 r.nums.length q4] (0, 0) _ rfl R9 Tryz.underlying67 rfl (by kernel_rfl)) rfl ?_
       exact ⟨_, _, _, _, rfl, ((UB N1).outside u9 (.inr (by omega))).ownL.mono (by omega), ((UB N2).outside u9 (.inr (by omega))).ownL.mono (by omega), ((UB X1).outside u9 (by omega)).mono (by omega), (((UB Y1).here).outside u9 (.inr (by omega))).1.mono (by omega), u9.below bb (by omega)⟩
   ·have HK := UC hK
    clear hK hHeld
    go_simp
    have b59 := below_lit (w := w54) 5
    replace KB := UC (UE b59 (UB KB))
    replace KR := UC (UE b59 (UB KR))
    replace F1 := UC ((UB F1).below b59)
    replace F2 := UC ((UB F2).below b59)
    replace F3 := UC ((UB F3).below b59)
    replace F4 := UC ((UB F4).below b59)
    replace N1 := UC ((UB N1).below b59)
    replace L2 := UC (UE b59 (UB L2))
    have L1 := UC (heap_alloc_new w54 (.cells #[] 5))
    have zL1 := b59.size
    have bb2 := UG bb b59
    clear bb
    have bb := bb2
    clear bb2
    have hL1 : W.heap.size ≤ w54.heap.size := by omega
    generalize w54.alloc (.cells #[] 5) = w59 at *
    clear b59
    (try go_simp)
    refine (UB HK).out _ _ (UJ (UB KB)) (fun hHeld => ?_)
    clear HK K
    try simp only [List.setIfInBounds_toArray, List.set_cons_zero, List.set_cons_succ]
    refine wpAnyH_ready (rs := [11]) (by kernel_rfl) (by simp) (AllReadyH.cons (UY rfl) (fun K hK => ?_) AllReadyH.nil)
    ·have HK := UC hK
     clear hK hHeld
     go_simp
     refine (UB HT _ (UB F2)).mono ?_
     rintro e w60 ⟨vN2, rfl, oN2, b60⟩
     obtain ⟨p2, q2, rfl, _⟩ := oN2.hasL.form
     replace KB := UC (UE b60 (UB KB))
     replace KR := UC (UE b60 (UB KR))
     replace F1 := UC ((UB F1).below b60)
     replace F2 := UC ((UB F2).below b60)
     replace F3 := UC ((UB F3).below b60)
     replace F4 := UC ((UB F4).below b60)
     replace N1 := UC ((UB N1).below b60)
     replace L1 := UC (UE b60 (UB L1))
     replace L2 := UC (UE b60 (UB L2))
     have N2 := UC (oN2.here.wide (C' := W.heap.size) (by omega) (Nat.le_refl _))
     clear oN2
     have zN2 := b60.size
     have bb2 := UG bb b60
     clear bb
     have bb := bb2
     clear bb2
     clear b60
     (try go_simp)
     refine (UB HK).out _ _ (UJ (UB KB)) (fun hHeld => ?_)
     clear HK K
     try simp only [List.setIfInBounds_toArray, List.set_cons_zero, List.set_cons_succ]
     refine wpAnyH_ready (rs := [15]) (by kernel_rfl) (by simp) (AllReadyH.cons (UY rfl) (fun K hK => ?_) AllReadyH.nil)
     ·have HK := UC hK
      clear hK hHeld
      refine VU rfl (.tmp 15) (.tmp 17) 56 5 rfl Tryz.underlying56 (.int .u8 0) 1 VJ (by decide) (by decide) W.heap.size _ (by omega) (UB L1) _ _ rfl rfl (UB F3).readsV (one_of _) (by rw [List.length_map]; omega) ?_
      rintro vX1 w61 oX1 b61
      rw [List.length_map] at oX1
      replace oX1 : Own W.heap.size 5 w61 vX1 r.text := oX1
      obtain ⟨p3, q3, rfl, _⟩ := oX1.lies
      replace KB := UC (UE b61 (UB KB))
      replace KR := UC (UE b61 (UB KR))
      replace F1 := UC ((UB F1).below b61)
      replace F2 := UC ((UB F2).below b61)
      replace F3 := UC ((UB F3).below b61)
      replace F4 := UC ((UB F4).below b61)
      replace N1 := UC ((UB N1).below b61)
      replace N2 := UC ((UB N2).below b61)
      replace L1 := UC (UE b61 (UB L1))
      replace L2 := UC (UE b61 (UB L2))
      have X1 := UC oX1
      clear oX1
      have zX1 := b61.size
      have bb2 := UG bb b61
      clear bb
      have bb := bb2
      clear bb2
      clear b61
      (try go_simp)
      refine (UB HK).out _ _ (UJ (UB KB)) (fun hHeld => ?_)
      clear HK K
      try simp only [List.setIfInBounds_toArray, List.set_cons_zero, List.set_cons_succ]
      refine wpAnyH_ready (rs := [19]) (by kernel_rfl) (by simp) (AllReadyH.cons (UY rfl) (fun K hK => ?_) AllReadyH.nil)
      ·have HK := UC hK
       clear hK hHeld
       refine VU rfl (.tmp 19) (.tmp 21) 57 3 rfl Tryz.underlying57 (.int .i64 0) 8 info_int8 (by decide) (by decide) W.heap.size _ (by omega) (UB L2) _ _ rfl rfl (UB F4).readsV (one_ofI _) (by rw [List.length_map]; omega) ?_
       rintro vY1 w62 oY1 b62
       rw [List.length_map] at oY1
       replace oY1 : OwnI W.heap.size 3 w62 vY1 r.nums := oY1
       obtain ⟨p4, q4, rfl, _⟩ := oY1.lies
       replace KB := UC (UE b62 (UB KB))
       replace KR := UC (UE b62 (UB KR))
       replace F1 := UC ((UB F1).below b62)
       replace F2 := UC ((UB F2).below b62)
       replace F3 := UC ((UB F3).below b62)
       replace F4 := UC ((UB F4).below b62)
       replace N1 := UC ((UB N1).below b62)
       replace N2 := UC ((UB N2).below b62)
       replace X1 := UC ((UB X1).below b62)
       replace L1 := UC (UE b62 (UB L1))
       replace L2 := UC (UE b62 (UB L2))
       have Y1 := UC oY1
       clear oY1
       have zY1 := b62.size
       have bb2 := UG bb b62
       clear bb
       have bb := bb2
       clear bb2
       clear b62
       (try go_simp)
       refine (UB HK).out _ _ (UJ (UB KB)) (fun hHeld => ?_)
       clear HK K
       try simp only [List.setIfInBounds_toArray, List.set_cons_zero, List.set_cons_succ]
       refine tkI 20 (.agg #[.slice p1 r.name.length q1, .int .i64 r.type, .int .i64 r.ttl, .int .i64 r.addr, .slice p2 r.to.length q2, .slice p3 r.text.length q3, .slice p4 r.nums.length q4]) rfl (by kernel_rfl) (by kernel_rfl) (fun _ _ _ h => h) ?_ hHeld ?_
       ·(intro w hSw; (try dsimp only at hSw); go_simp)
       try simp only [Act.put, List.setIfInBounds_toArray, List.set_cons_zero, List.set_cons_succ]
       obtain ⟨R9, u9⟩ := set7 (c0 := .slice p1 r.name.length q1) (c1 := .int .i64 r.type) (c2 := .int .i64 r.ttl) (c3 := .int .i64 r.addr) (c4 := .slice p2 r.to.length q2) (c5 := .slice p3 r.text.length q3) (c6 := .slice p4 r.nums.length q4) (UB KR)
       refine wpAnyH_ready (rs := [21]) (by kernel_rfl) (by simp) (AllReadyH.cons (UY rfl) (fun K hK => ?_) AllReadyH.nil)
       rw [if_pos (by rfl)]
       refine wp_store7 67 (.tmp 2) (.tmp 23) rfl (w.heap.size + 1) (.slice p1 r.name.length q1) (.int .i64 r.type) (.int .i64 r.ttl) (.int .i64 r.addr) (.slice p2 r.to.length q2) (.slice p3 r.text.length q3) (.slice p4 r.nums.length q4) rfl rfl (UB KR) (by kernel_rfl) (by simp [Value.oneCell']) ?_
       refine hK.out _ _ (UJ (u9.kept (UB KB) (by omega))) (fun hHeld => ?_)
       clear hK K hHeld
       refine wpAnyH_done (by kernel_rfl) ?_ _
       go_wp2_with fail
       refine bodyPost_ret (results_cell_row rfl _ _ (w.heap.size + 1) 67 #[.slice p1 r.name.length q1, .int .i64 r.type, .int .i64 r.ttl, .int .i64 r.addr, .slice p2 r.to.length q2, .slice p3 r.text.length q3, .slice p4 r.nums.length q4] (0, 0) _ rfl R9 Tryz.underlying67 rfl (by kernel_rfl)) rfl ?_
       exact ⟨_, _, _, _, rfl, ((UB N1).outside u9 (.inr (by omega))).ownL.mono (by omega), ((UB N2).outside u9 (.inr (by omega))).ownL.mono (by omega), ((UB X1).outside u9 (by omega)).mono (by omega), (((UB Y1).here).outside u9 (.inr (by omega))).1.mono (by omega), u9.below bb (by omega)⟩
  ·have HK := UC hK
   clear hK hHeld
   go_simp
   have b63 := below_lit (w := w53) 5
   replace KB := UC (UE b63 (UB KB))
   replace KR := UC (UE b63 (UB KR))
   replace F1 := UC ((UB F1).below b63)
   replace F2 := UC ((UB F2).below b63)
   replace F3 := UC ((UB F3).below b63)
   replace F4 := UC ((UB F4).below b63)
   replace L2 := UC (UE b63 (UB L2))
   have L1 := UC (heap_alloc_new w53 (.cells #[] 5))
   have zL1 := b63.size
   have bb2 := UG bb b63
   clear bb
   have bb := bb2
   clear bb2
   have hL1 : W.heap.size ≤ w53.heap.size := by omega
   generalize w53.alloc (.cells #[] 5) = w63 at *
   clear b63
   (try go_simp)
   refine (UB HK).out _ _ (UJ (UB KB)) (fun hHeld => ?_)
   clear HK K
   try simp only [List.setIfInBounds_toArray, List.set_cons_zero, List.set_cons_succ]
   refine wpAnyH_ready (rs := [2]) (by kernel_rfl) (by simp) (AllReadyH.cons (UY rfl) (fun K hK => ?_) AllReadyH.nil)
   ·have HK := UC hK
    clear hK hHeld
    go_simp
    refine (UB HN _ (UB F1)).mono ?_
    rintro e w64 ⟨vN1, rfl, oN1, b64⟩
    obtain ⟨p1, q1, rfl, _⟩ := oN1.hasL.form
    replace KB := UC (UE b64 (UB KB))
    replace KR := UC (UE b64 (UB KR))
    replace F1 := UC ((UB F1).below b64)
    replace F2 := UC ((UB F2).below b64)
    replace F3 := UC ((UB F3).below b64)
    replace F4 := UC ((UB F4).below b64)
    replace L1 := UC (UE b64 (UB L1))
    replace L2 := UC (UE b64 (UB L2))
    have N1 := UC (oN1.here.wide (C' := W.heap.size) (by omega) (Nat.le_refl _))
    clear oN1
    have zN1 := b64.size
    have bb2 := UG bb b64
    clear bb
    have bb := bb2
    clear bb2
    clear b64
    (try go_simp)
    refine (UB HK).out _ _ (UJ (UB KB)) (fun hHeld => ?_)
    clear HK K
    try simp only [List.setIfInBounds_toArray, List.set_cons_zero, List.set_cons_succ]
    refine wpAnyH_ready (rs := [11]) (by kernel_rfl) (by simp) (AllReadyH.cons (UY rfl) (fun K hK => ?_) AllReadyH.nil)
    ·have HK := UC hK
     clear hK hHeld
     go_simp
     refine (UB HT _ (UB F2)).mono ?_
     rintro e w65 ⟨vN2, rfl, oN2, b65⟩
     obtain ⟨p2, q2, rfl, _⟩ := oN2.hasL.form
     replace KB := UC (UE b65 (UB KB))
     replace KR := UC (UE b65 (UB KR))
     replace F1 := UC ((UB F1).below b65)
     replace F2 := UC ((UB F2).below b65)
     replace F3 := UC ((UB F3).below b65)
     replace F4 := UC ((UB F4).below b65)
     replace N1 := UC ((UB N1).below b65)
     replace L1 := UC (UE b65 (UB L1))
     replace L2 := UC (UE b65 (UB L2))
     have N2 := UC (oN2.here.wide (C' := W.heap.size) (by omega) (Nat.le_refl _))
     clear oN2
     have zN2 := b65.size
     have bb2 := UG bb b65
     clear bb
     have bb := bb2
     clear bb2
     clear b65
     (try go_simp)
     refine (UB HK).out _ _ (UJ (UB KB)) (fun hHeld => ?_)
     clear HK K
     try simp only [List.setIfInBounds_toArray, List.set_cons_zero, List.set_cons_succ]
     refine wpAnyH_ready (rs := [15]) (by kernel_rfl) (by simp) (AllReadyH.cons (UY rfl) (fun K hK => ?_) AllReadyH.nil)
     ·have HK := UC hK
      clear hK hHeld
      refine VU rfl (.tmp 15) (.tmp 17) 56 5 rfl Tryz.underlying56 (.int .u8 0) 1 VJ (by decide) (by decide) W.heap.size _ (by omega) (UB L1) _ _ rfl rfl (UB F3).readsV (one_of _) (by rw [List.length_map]; omega) ?_
      rintro vX1 w66 oX1 b66
      rw [List.length_map] at oX1
      replace oX1 : Own W.heap.size 5 w66 vX1 r.text := oX1
      obtain ⟨p3, q3, rfl, _⟩ := oX1.lies
      replace KB := UC (UE b66 (UB KB))
      replace KR := UC (UE b66 (UB KR))
      replace F1 := UC ((UB F1).below b66)
      replace F2 := UC ((UB F2).below b66)
      replace F3 := UC ((UB F3).below b66)
      replace F4 := UC ((UB F4).below b66)
      replace N1 := UC ((UB N1).below b66)
      replace N2 := UC ((UB N2).below b66)
      replace L1 := UC (UE b66 (UB L1))
      replace L2 := UC (UE b66 (UB L2))
      have X1 := UC oX1
      clear oX1
      have zX1 := b66.size
      have bb2 := UG bb b66
      clear bb
      have bb := bb2
      clear bb2
      clear b66
      (try go_simp)
      refine (UB HK).out _ _ (UJ (UB KB)) (fun hHeld => ?_)
      clear HK K
      try simp only [List.setIfInBounds_toArray, List.set_cons_zero, List.set_cons_succ]
      refine wpAnyH_ready (rs := [19]) (by kernel_rfl) (by simp) (AllReadyH.cons (UY rfl) (fun K hK => ?_) AllReadyH.nil)
      ·have HK := UC hK
       clear hK hHeld
       refine VU rfl (.tmp 19) (.tmp 21) 57 3 rfl Tryz.underlying57 (.int .i64 0) 8 info_int8 (by decide) (by decide) W.heap.size _ (by omega) (UB L2) _ _ rfl rfl (UB F4).readsV (one_ofI _) (by rw [List.length_map]; omega) ?_
       rintro vY1 w67 oY1 b67
       rw [List.length_map] at oY1
       replace oY1 : OwnI W.heap.size 3 w67 vY1 r.nums := oY1
       obtain ⟨p4, q4, rfl, _⟩ := oY1.lies
       replace KB := UC (UE b67 (UB KB))
       replace KR := UC (UE b67 (UB KR))
       replace F1 := UC ((UB F1).below b67)
       replace F2 := UC ((UB F2).below b67)
       replace F3 := UC ((UB F3).below b67)
       replace F4 := UC ((UB F4).below b67)
       replace N1 := UC ((UB N1).below b67)
       replace N2 := UC ((UB N2).below b67)
       replace X1 := UC ((UB X1).below b67)
       replace L1 := UC (UE b67 (UB L1))
       replace L2 := UC (UE b67 (UB L2))
       have Y1 := UC oY1
       clear oY1
       have zY1 := b67.size
       have bb2 := UG bb b67
       clear bb
       have bb := bb2
       clear bb2
       clear b67
       (try go_simp)
       refine (UB HK).out _ _ (UJ (UB KB)) (fun hHeld => ?_)
       clear HK K
       try simp only [List.setIfInBounds_toArray, List.set_cons_zero, List.set_cons_succ]
       refine tkI 20 (.agg #[.slice p1 r.name.length q1, .int .i64 r.type, .int .i64 r.ttl, .int .i64 r.addr, .slice p2 r.to.length q2, .slice p3 r.text.length q3, .slice p4 r.nums.length q4]) rfl (by kernel_rfl) (by kernel_rfl) (fun _ _ _ h => h) ?_ hHeld ?_
       ·(intro w hSw; (try dsimp only at hSw); go_simp)
       try simp only [Act.put, List.setIfInBounds_toArray, List.set_cons_zero, List.set_cons_succ]
       obtain ⟨R9, u9⟩ := set7 (c0 := .slice p1 r.name.length q1) (c1 := .int .i64 r.type) (c2 := .int .i64 r.ttl) (c3 := .int .i64 r.addr) (c4 := .slice p2 r.to.length q2) (c5 := .slice p3 r.text.length q3) (c6 := .slice p4 r.nums.length q4) (UB KR)
       refine wpAnyH_ready (rs := [21]) (by kernel_rfl) (by simp) (AllReadyH.cons (UY rfl) (fun K hK => ?_) AllReadyH.nil)
       rw [if_pos (by rfl)]
       refine wp_store7 67 (.tmp 2) (.tmp 23) rfl (w.heap.size + 1) (.slice p1 r.name.length q1) (.int .i64 r.type) (.int .i64 r.ttl) (.int .i64 r.addr) (.slice p2 r.to.length q2) (.slice p3 r.text.length q3) (.slice p4 r.nums.length q4) rfl rfl (UB KR) (by kernel_rfl) (by simp [Value.oneCell']) ?_
       refine hK.out _ _ (UJ (u9.kept (UB KB) (by omega))) (fun hHeld => ?_)
       clear hK K hHeld
       refine wpAnyH_done (by kernel_rfl) ?_ _
       go_wp2_with fail
       refine bodyPost_ret (results_cell_row rfl _ _ (w.heap.size + 1) 67 #[.slice p1 r.name.length q1, .int .i64 r.type, .int .i64 r.ttl, .int .i64 r.addr, .slice p2 r.to.length q2, .slice p3 r.text.length q3, .slice p4 r.nums.length q4] (0, 0) _ rfl R9 Tryz.underlying67 rfl (by kernel_rfl)) rfl ?_
       exact ⟨_, _, _, _, rfl, ((UB N1).outside u9 (.inr (by omega))).ownL.mono (by omega), ((UB N2).outside u9 (.inr (by omega))).ownL.mono (by omega), ((UB X1).outside u9 (by omega)).mono (by omega), (((UB Y1).here).outside u9 (.inr (by omega))).1.mono (by omega), u9.below bb (by omega)⟩
end Go.Proofs.YtaehfeobfkaicaaGreat
