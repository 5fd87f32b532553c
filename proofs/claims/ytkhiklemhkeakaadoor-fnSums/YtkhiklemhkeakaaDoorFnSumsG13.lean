/-
  Contract of the program's take: a block of 64 bytes. Contracts of the program's copyBytes: new memory with the same bytes.
-/
import Derived.Test.YtkhiklemhkeakaaDoorFnSumsG10
import Derived.Test.YtkhiklemhkeakaaDoorFnSumsG11
import Derived.Test.YtkhiklemhkeakaaDoorFnSumsG12
import Derived.Test.YtkhiklemhkeakaaDoorFnSumsG01
namespace Go.Proofs.YtkhiklemhkeakaaDoor
open Go.RowKit
set_option linter.unusedVariables false
set_option linter.unusedSimpArgs false

theorem sizeSch : (Tryd.prog.info? 55).map (·.size) = some 64 := by kernel_rfl
theorem sizeSum : (Tryd.prog.info? 35).map (·.size) = some 8 := by kernel_rfl

theorem size78 : (Tryd.prog.info? 33).map (·.size) = some 1 := by kernel_rfl
set_option maxHeartbeats 600000 in
set_option maxRecDepth 100000 in
theorem take_is {b : Nat} {t : TypeId} {s : S8} {v : Value} {bs : List Int} {w : World} (hk : w.heap[b]? = some (.cells (cellsU (l8 s)) t)) (hG : TabW w 1 kW) (hne : b ≠ 1) (hv : ∃ g off cap, v = .slice (some ⟨g, off, none⟩) 64 cap ∧ g < w.heap.size ∧ g ≠ b ∧ ∀ i, i < 64 → w.cell? ⟨g, off + i, none⟩ = some (.int .u8 (bs.getD i 0))) (hl : bs.length = 64) (h8 : Bytes8 bs) :
    Calls Tryd.prog 13 #[.pointer (some ⟨b, 0, none⟩), v] w fun e w' => (∃ v, e = .returned v) ∧ (∃ s', Hid (blockS s bs = s') ∧ w'.heap[b]? = some (.cells (cellsU (l8 s')) t)) ∧ Outside b (b + 1) w w' := by
  obtain ⟨g, off, cap, rfl, hg, hgb, hcell⟩ := hv
  obtain ⟨KW, HKW⟩ : ∃ KW, Hid (kW = KW) := ⟨_, hide rfl⟩
  rw [unhide HKW] at hG
  have HKL := hide (show KW.length = 64 by rw [← unhide HKW]; exact kW_length)
  have HSG := hide (show (Tryd.prog.info? 54).map (·.size) = some KW.length by rw [unhide HKL]; exact size110)
  have k0 := heap_alloc_new w (.cells (cellsU (List.replicate 64 0)) 55)
  have b0 := below_alloc (w := w) (.cells (cellsU (List.replicate 64 0)) 55)
  have FI := hide (fill_is (b := w.heap.size) (a := some ⟨g, off, none⟩) (cap := cap) (bs := bs) k0 hl h8 (fun w' ho => .inr ⟨g, off, rfl, by have h1 := ho.size; have h2 := b0.size; omega, fun i hi => by
    rw [hl] at hi
    have hblk : w'.heap[g]? = w.heap[g]? := (ho.block g (Nat.lt_of_lt_of_le hg b0.size) (.inl hg)).trans (b0.block g hg)
    have := hcell i hi
    unfold World.cell? at this ⊢
    rw [hblk]
    exact this⟩))
  have HK := hide hk
  have HG := hide hG
  have B0 := hide b0
  have ZB := hide (block_lt hk)
  have HNE := hide hne
  clear hk hG k0 hcell hg hgb h8 hl hne b0
  go_enter Tryd.func13, Tryd.ntmps13
  go_wp2_with (first
    | (refine list_alloc (v := .pointer (some ⟨w.heap.size, 0, none⟩)) (w' := w.alloc (.cells (cellsU (List.replicate 64 0)) 55)) rfl rfl (by kernel_rfl) ?_))
  refine (unhide FI).mono ?_
  rintro e w1 ⟨⟨x1, rfl⟩, ⟨cw, hcw, k1⟩, o1⟩
  have MX := hide (fun (n : Nat) => (show mixS bs s (n + 1) = roundS (mixS bs s n) (KW.getD n 0) (cw.getD n 0) by rw [← unhide hcw, ← unhide HKW]; rfl))
  have HCL := hide (show cw.length = 64 by rw [← unhide hcw]; exact fillW_length bs 64)
  clear hcw HKW
  have bw : Below w.heap.size w w1 := o1.below (unhide B0) (Nat.le_refl _)
  have kb1 := block_kept bw (unhide HK)
  have kg1 := (unhide HG).below bw
  have ka := heap_alloc_new w1 (.cells (cellsU (List.replicate 8 0)) 35)
  have ba := below_alloc (w := w1) (.cells (cellsU (List.replicate 8 0)) 35)
  have HT := hide (block_there ka (n := (cellsU (l8 s)).size) (by rw [cellsU_size, cellsU_size]; rfl))
  have u2 := outside_sets w1.heap.size (cellsU (l8 s)).toList 0 (w1.alloc (.cells (cellsU (List.replicate 8 0)) 35))
  have KQ := hide (block_whole ka (cs := cellsU (l8 s)) (by rw [cellsU_size, cellsU_size]; rfl))
  have b2 := u2.below ba (Nat.le_refl _)
  have KB2 := hide (block_kept b2 kb1)
  have KG2 := hide (kg1.below b2)
  have KC2 := hide (block_kept b2 k1)
  have BW2 := hide (below_next bw b2)
  have ZQ := hide bw.size
  have KB1 := hide kb1
  have ZN := hide (block_lt k1)
  have hsz : (Tryd.prog.info? 35).map (·.size) = some (cellsU (l8 s)).size := by rw [cellsU_size]; exact sizeSum
  have HSZ := hide hsz
  clear hsz bw kb1 kg1 ka ba u2 b2 k1 o1 FI B0
  generalize hN : w.heap.size = N at *
  have HN := hide hN
  clear hN
  go_wp2_with (first
    | (refine list_loadU rfl 35 (.tmp 13) rfl b rfl (l8 s) (unhide KB1) Tryd.underlying35 rfl sizeSum ?_)
    | (refine list_alloc (v := .pointer (some ⟨w1.heap.size, 0, none⟩)) (w' := w1.alloc (.cells (cellsU (List.replicate 8 0)) 35)) rfl rfl (by kernel_rfl) ?_)
    | (refine wpList_store_mid rfl 35 (.tmp 5) (.tmp 14) rfl w1.heap.size 0 (cellsU (l8 s)) rfl rfl (unhide HT) (unhide HSZ) (cellsU_one _) ?_; generalize (w1.alloc (.cells (cellsU (List.replicate 8 0)) 35)).setCells w1.heap.size 0 (cellsU (l8 s)).toList = W2 at *; generalize w1.heap.size = q at *; refine unhide ?_))
  clear HT HSZ KB1
  refine hide ?_
  iterate 6 (first | go_values | go_skip | go_guarded | go_step | go_upon)
  refine list_loadT rfl 54 (.global 1) rfl 1 rfl KW (unhide KG2) Tryd.underlying54 rfl (unhide HSG) ?_
  simp only [Act.put, List.setIfInBounds_toArray, List.set_cons_zero, List.set_cons_succ]
  clear KG2
  go_wp2_with fail
  go_loopw [16] (fun i wr => ∃ (k : Nat), k ≤ 64 ∧ i = .int .i64 k ∧ Hid (wr.heap[q]? = some (.cells (cellsU (l8 (mixS bs s k))) 35) ∧ Outside q (q + 1) W2 wr)) (fun i _ => 64 - (intOf i).toNat)
  case atStart => exact ⟨0, Nat.zero_le _, rfl, hide ⟨unhide KQ, Outside.refl _ _ _⟩⟩
  case round =>
    clear KQ
    obtain ⟨n, hn, rfl, H⟩ := hrel
    by_cases hlt : n < 64
    · have lk : (n : Int) < 64 := by omega
      have hcl := unhide HCL
      obtain ⟨M1, HM1⟩ : ∃ M1, Hid (mixS bs s (n + 1) = M1) := ⟨_, hide rfl⟩
      have HX := hide (show roundS (mixS bs s n) (KW.getD n 0) (cw.getD n 0) = M1 by rw [← unhide HM1]; exact (unhide MX n).symm)
      have hix := cellsU_get KW (i := n) (by rw [unhide HKL]; exact hlt)
      have kc := arr_cell ((unhide H).2.kept (unhide KC2) (.inl (unhide ZN))) (i := n) (by rw [hcl]; exact hlt)
      have HQ := hide (unhide H).1
      have HO := hide (unhide H).2
      clear H
      generalize mixS bs s n = M at *
      generalize KW.getD n 0 = kk at *
      generalize cw.getD n 0 = ww at *
      have xa := wd_add ww kk
      have HLT := hide hlt
      clear hcl hlt hn
      have hin := run_indexU wr (t := 54) (cs := cellsU KW) Tryd.underlying54 Tryd.underlying33 size78 (unhide HLT) hix
      clear hix
      go_wp2_with fail
      refine (round_is (s := M) (y := ww + kk) ⟨_, unhide HQ⟩).mono ?_
      rintro e w3 ⟨⟨x2, rfl⟩, ⟨s3, hs3, h3⟩, o3⟩
      have HQ3 := hide (h3 _ (unhide HQ))
      have e3 : s3 = M1 := ((unhide hs3) kk ww rfl).symm.trans (unhide HX)
      rw [e3, ← unhide HM1] at HQ3
      have HO3 := hide ((unhide HO).trans o3)
      clear e3 hs3 h3 o3 HQ HO HX HM1 kc hin xa
      have hlt := unhide HLT
      go_wp2_with fail
      exact ⟨⟨n + 1, by omega, by go_num, hide ⟨unhide HQ3, unhide HO3⟩⟩, by simp [intOf]; omega⟩
    · have lk : ¬ ((n : Int) < 64) := by omega
      have hn64 : n = 64 := by omega
      have HM := hide (show mixS bs s 64 = mixS bs s n by rw [hn64])
      have HQ := hide (unhide H).1
      have hq0 : w.heap.size ≤ q := by rw [unhide HN]; exact unhide ZQ
      have hbw : Below w.heap.size w W2 := by rw [unhide HN]; exact unhide BW2
      have B2 := hide ((unhide H).2.below hbw hq0)
      have HB1 := hide ((unhide H).2.kept (unhide KB2) (.inl (by have := unhide ZB; have := unhide ZQ; have := unhide HN; omega)))
      clear hbw hq0 hn64 hlt hn H MX HKL HCL HSG KC2 ZN
      generalize mixS bs s n = M at *
      go_wp2_with (first
        | (refine list_loadU rfl 35 (.tmp 5) rfl q rfl (l8 M) (unhide HQ) Tryd.underlying35 rfl sizeSum ?_; simp only [Act.put, List.setIfInBounds_toArray, List.set_cons_zero, List.set_cons_succ]))
      clear lk
      generalize wr = V0 at *
      go_loopw [28] (fun i wq => ∃ (k : Nat), k ≤ 8 ∧ i = .int .i64 k ∧ Hid (wq.heap[b]? = some (.cells (cellsU (addK (l8 s) (l8 M) k)) t) ∧ Outside b (b + 1) V0 wq)) (fun i _ => 8 - (intOf i).toNat)
      case atStart => exact ⟨0, Nat.zero_le _, rfl, hide ⟨by rw [addK_zero]; exact unhide HB1, Outside.refl _ _ _⟩⟩
      case round =>
        clear HB1 HQ
        obtain ⟨k, hk, rfl, H⟩ := hrel
        by_cases hlt : k < 8
        · have lk : (k : Int) < 8 := by omega
          have HX := hide (addK_set (l8 s) (l8 M) hlt)
          have hix := cellsU_get (l8 M) (i := k) hlt
          have kc := arr_cell (unhide H).1 (i := k) (by rw [addK_length]; exact hlt)
          rw [addK_at _ _ hlt] at kc
          have CF := hide (fun (w' : World) (x : BitVec 32) (hb : w'.heap[b]? = some (.cells (cellsU (addK (l8 s) (l8 M) k)) t)) => (arr_cell hb (i := k) (by rw [addK_length]; exact hlt)).trans (by rw [addK_at _ _ hlt]))
          generalize (l8 M).getD k 0 = mm at *
          generalize (l8 s).getD k 0 = ss at *
          have xa := wd_add ss mm
          have hin := run_indexU wr (t := 35) (cs := cellsU (l8 M)) Tryd.underlying35 Tryd.underlying33 size78 hlt hix
          have K0 := hide (block_kept (below_drew (w := wr)) (unhide H).1)
          have O0 := hide ((unhide H).2.trans (outside_below (b := b) (below_drew (w := wr))))
          have HLT := hide hlt
          clear hix kc hlt hk H
          go_wp2_with fail
          refine startF 10 (S := fun _ => True) (by kernel_rfl) rfl trivial (fun hHeld => ?_)
          simp only [List.replicate]
          generalize wr.drew = wd at *
          refine tkI 0 ?_ rfl (by kernel_rfl) (by kernel_rfl) (fun _ _ _ h => h) ?_ hHeld ?_; rotate_left; (· (intro w hSw; (try dsimp only at hSw); go_simp <;> with_reducible rfl)); simp only [Act.put, List.setIfInBounds_toArray, List.set_cons_zero, List.set_cons_succ]
          refine tkI 1 ?_ rfl (by kernel_rfl) (by kernel_rfl) (fun _ _ _ h => h) ?_ hHeld ?_; rotate_left; (· (intro w hSw; (try dsimp only at hSw); go_simp <;> with_reducible rfl)); simp only [Act.put, List.setIfInBounds_toArray, List.set_cons_zero, List.set_cons_succ]
          refine tkI 2 ?_ rfl (by kernel_rfl) (by kernel_rfl) (fun _ _ _ h => h) ?_ hHeld ?_; rotate_left; (· (intro w hSw; (try dsimp only at hSw); go_simp <;> with_reducible rfl)); simp only [Act.put, List.setIfInBounds_toArray, List.set_cons_zero, List.set_cons_succ]
          refine tkI 3 ?_ rfl (by kernel_rfl) (by kernel_rfl) (fun _ _ _ h => h) ?_ hHeld ?_; rotate_left; (· (intro w hSw; (try dsimp only at hSw); go_simp <;> with_reducible rfl)); simp only [Act.put, List.setIfInBounds_toArray, List.set_cons_zero, List.set_cons_succ]
          refine tkI 5 ?_ rfl (by kernel_rfl) (by kernel_rfl) (fun _ _ _ h => h) ?_ hHeld ?_; rotate_left; (· (intro w hSw; (try dsimp only at hSw); go_simp <;> with_reducible rfl)); simp only [Act.put, List.setIfInBounds_toArray, List.set_cons_zero, List.set_cons_succ]
          refine tkI 7 ?_ rfl (by kernel_rfl) (by kernel_rfl) (fun _ _ _ h => h) ?_ hHeld ?_; rotate_left; (· (intro w hSw; (try dsimp only at hSw); go_simp <;> with_reducible rfl)); simp only [Act.put, List.setIfInBounds_toArray, List.set_cons_zero, List.set_cons_succ]
          have kc := unhide CF _ 0 (unhide K0)
          refine runI 4 rfl (by kernel_rfl) (by kernel_rfl) (fun K hK => ?_)
          have HK := hide hK
          clear hK hHeld
          go_simp
          refine (unhide HK).out _ _ trivial (fun hHeld => ?_)
          clear HK K
          simp only [Act.put, List.setIfInBounds_toArray, List.set_cons_zero, List.set_cons_succ]
          refine tkI 6 ?_ rfl (by kernel_rfl) (by kernel_rfl) (fun _ _ _ h => h) ?_ hHeld ?_; rotate_left; (· (intro w hSw; (try dsimp only at hSw); go_simp <;> with_reducible rfl)); simp only [Act.put, List.setIfInBounds_toArray, List.set_cons_zero, List.set_cons_succ]
          refine tkI 8 ?_ rfl (by kernel_rfl) (by kernel_rfl) (fun _ _ _ h => h) ?_ hHeld ?_; rotate_left; (· (intro w hSw; (try dsimp only at hSw); go_simp <;> with_reducible rfl)); simp only [Act.put, List.setIfInBounds_toArray, List.set_cons_zero, List.set_cons_succ]
          have kf := block_frozen (unhide K0) k
          have K2 := hide (arr_set (unhide K0) k (ss + mm))
          rw [unhide HX] at K2
          have O2 := hide ((unhide O0).trans (outside_set wd b k (.int .u32 (wv (ss + mm)))))
          refine runI 9 rfl (by kernel_rfl) (by kernel_rfl) (fun K hK => ?_)
          have HK := hide hK
          clear hK hHeld
          go_simp
          refine (unhide HK).out _ _ trivial (fun hHeld => ?_)
          clear HK K
          simp only [Act.put, List.setIfInBounds_toArray, List.set_cons_zero, List.set_cons_succ]
          refine wpAnyH_done (by kernel_rfl) ?_ _
          clear hHeld kc kf xa hin CF K0 O0 HX
          generalize wd.setCell ⟨b, k, none⟩ (.int .u32 (wv (ss + mm))) = w3 at *
          have hlt := unhide HLT
          go_wp2_with fail
          exact ⟨⟨k + 1, by omega, by go_num, hide ⟨unhide K2, unhide O2⟩⟩, by simp [intOf]; omega⟩
        · have e : ¬ ((k : Int) < 8) := by omega
          have hk8 : k = 8 := by omega
          have HC : Hid (wr.heap[b]? = some (.cells (cellsU (l8 (addS s M))) t)) := hide (by rw [← addK_all, ← hk8]; exact (unhide H).1)
          have HO := hide (unhide H).2
          clear hk hlt hk8 H
          go_wp2_with fail
          go_end0
          refine ⟨⟨_, rfl⟩, ⟨addS s M, hide ?_, unhide HC⟩, ?_⟩
          · rw [← unhide HM]
            rfl
          · exact (outside_below (unhide B2)).trans (unhide HO)
end Go.Proofs.YtkhiklemhkeakaaDoor

namespace Go.Proofs.YtkhiklemhkeakaaDoor
open Go.RowKit
set_option linter.unusedVariables false

set_option maxHeartbeats 400000 in
set_option maxRecDepth 100000 in
theorem copyBytes_reads {v : Value} {l : List Int} {w : World} (h : Reads w v l) (hl : l.length ≤ 2097152) :
    Calls Tryd.prog 29 #[v] w fun e w' => ∃ v', e = .returned v' ∧ Own w.heap.size 5 w' v' l ∧ Below w.heap.size w w' := by
  go_enter Tryd.func29, Tryd.ntmps29
  go_wp2_with (at_builtin; refine append_bytes rfl _ _ 22 5 rfl Tryd.underlying22 info_u8 w.heap.size (.slice none 0 0) v [] l rfl rfl (World.ownsRow_nil _ _ _ _) h ?c1 (Nat.le_refl _) ?_)
  case c1 => simp; omega
  intro v' w1 hown hgrow
  go_wp2
  go_ret
  exact ⟨v', rfl, hown, below_of_grown hgrow⟩

theorem copyBytes_own {B : Nat} {v : Value} {l : List Int} {w : World} (h : Own B 5 w v l) (hl : l.length ≤ 2097152) :
    Calls Tryd.prog 29 #[v] w fun e w' => ∃ v', e = .returned v' ∧ Own w.heap.size 5 w' v' l ∧ Below w.heap.size w w' := copyBytes_reads h.reads hl
end Go.Proofs.YtkhiklemhkeakaaDoor
