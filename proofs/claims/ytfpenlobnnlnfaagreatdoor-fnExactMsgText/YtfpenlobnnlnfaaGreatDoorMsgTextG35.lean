/-
  Contract of the specification's l4section.
-/
import Derived.Test.YtfpenlobnnlnfaaGreatDoorMsgTextG11
import Derived.Test.YtfpenlobnnlnfaaGreatDoorMsgTextG34
import Derived.Test.YtfpenlobnnlnfaaGreatDoorMsgTextG26
import Derived.Test.YtfpenlobnnlnfaaGreatDoorMsgTextG28
import Derived.Test.YtfpenlobnnlnfaaGreatDoorMsgTextG02
import Derived.Test.YtfpenlobnnlnfaaGreatDoorMsgTextG03
namespace Go.Proofs.YtfpenlobnnlnfaaGreatDoor
open Go.RowKit
set_option linter.unusedVariables false

set_option maxHeartbeats 8000000 in
set_option maxRecDepth 100000 in
theorem l4sec_own {v vr : Value} {l ws : List Int} {rs : List Rec} {W0 w : World} (hr : HasRs W0 vr rs) (hb0 : Below W0.heap.size W0 w) (hv : OwnK W0.heap.size 5 w v l) (hl : l.length ≤ 20000) (h12 : rs.length ≤ 12) (hok : ∀ i, i < rs.length → rrOk (rs.getD i recZ) = true) (h8 : BytRs rs) (hw : ws.length ≤ 10) (hw8 : Byt ws) :
  Calls Tryz.prog 19 #[v, .string (strOfNums ws), vr] w fun e w' => ∃ v', e = .returned v' ∧ OwnK W0.heap.size 5 w' v' (secT l ws rs rs.length) ∧ Below W0.heap.size W0 w' := by
 obtain ⟨a, cap, rfl, _⟩ := hr.form
 have HR := UC hr
 have HV := UC hv
 have HB0 := UC hb0
 have HOK := UC hok
 have H8 := UC h8
 have HW8 : Hid (∀ c ∈ ws, 0 ≤ c ∧ c ≤ 255) := UC hw8
 have HS0 := UC (secT_zero l ws rs)
 have HSS := UC (secT_succ l ws rs)
 have HSL := UC (secT_length l rs hw)
 clear hr hv hb0 hok h8 hw8
 generalize secT l ws rs = G at *
 generalize hm : rs.length = m at *
 have HN := UC hm
 clear hm
 go_enter Tryz.func19, Tryz.ntmps19
 go_wp2_with fail
 go_loopw [0, 7] (fun o i wr => ∃ k : Nat, k ≤ m ∧ i = .int .i64 k ∧ OwnK W0.heap.size 5 wr o (G k) ∧ Below W0.heap.size W0 wr) (fun _ i _ => m - (intOf i).toNat)
 case atStart => exact ⟨0, Nat.zero_le _, rfl, by rw [UB HS0]; exact UB HV, UB HB0⟩
 case round =>
  obtain ⟨k, hk, rfl, ho, hb⟩ := hrel
  by_cases hlt : k < m
  ·have hkm : (k : Int) < m := by omega
   obtain ⟨g, off, rna, rnc, rta, rtc, rxa, rxc, ria, ric, rfl, hbl, hc, hu⟩ := (UB HR).here (k := k) (by rw [UB HN]; exact hlt)
   have hrok := UB HOK k hlt
   have hr8 := UB H8 k (by rw [UB HN]; exact hlt)
   have HST2 := UC (UB HSS k hlt)
   have hgl := UB HSL k
   have hgl1 : (G k).length ≤ 30000 := by omega
   have lT := rrText_length (rs.getD k recZ)
   have lT1 : 1 ≤ (rrText (rs.getD k recZ)).length := rrText_some hrok
   have PL := UC (fun (w : World) (hh : HasR w (.slice rna (rs.getD k recZ).name.length rnc) (.slice rta (rs.getD k recZ).to.length rtc) (.slice rxa (rs.getD k recZ).text.length rxc) (.slice ria (rs.getD k recZ).nums.length ric) (rs.getD k recZ)) => l3text_has hh hrok hr8)
   generalize rs.getD k recZ = r at *
   generalize rrText r = T at *
   obtain ⟨c0, c1, c2, c3, c4, c5, c6⟩ := VH hc
   have HRG := UC (show ∀ w' : World, Below W0.heap.size W0 w' → w'.cell? ⟨g, off + k * 7, none⟩ = some (.slice rna r.name.length rnc) ∧ w'.cell? ⟨g, off + k * 7 + 1, none⟩ = some (.int .i64 r.type) ∧ w'.cell? ⟨g, off + k * 7 + 2, none⟩ = some (.int .i64 r.ttl) ∧ w'.cell? ⟨g, off + k * 7 + 3, none⟩ = some (.int .i64 r.addr) ∧ w'.cell? ⟨g, off + k * 7 + 4, none⟩ = some (.slice rta r.to.length rtc) ∧ w'.cell? ⟨g, off + k * 7 + 5, none⟩ = some (.slice rxa r.text.length rxc) ∧ w'.cell? ⟨g, off + k * 7 + 6, none⟩ = some (.slice ria r.nums.length ric) from fun w' hbw => ⟨(hbw.cell (p := ⟨g, off + k * 7, none⟩) hbl).trans c0, (hbw.cell (p := ⟨g, off + k * 7 + 1, none⟩) hbl).trans c1, (hbw.cell (p := ⟨g, off + k * 7 + 2, none⟩) hbl).trans c2, (hbw.cell (p := ⟨g, off + k * 7 + 3, none⟩) hbl).trans c3, (hbw.cell (p := ⟨g, off + k * 7 + 4, none⟩) hbl).trans c4, (hbw.cell (p := ⟨g, off + k * 7 + 5, none⟩) hbl).trans c5, (hbw.cell (p := ⟨g, off + k * 7 + 6, none⟩) hbl).trans c6⟩)
   have HU := UC (show ∀ w' : World, Below W0.heap.size W0 w' → HasR w' (.slice rna r.name.length rnc) (.slice rta r.to.length rtc) (.slice rxa r.text.length rxc) (.slice ria r.nums.length ric) r from fun w' hbw => hu.below hbw)
   have RO := UC ho
   have zb := hb.size
   clear ho hc hu c0 c1 c2 c3 c4 c5 c6
   go_wp2_with fail
   have bb0 := hb.trans ((UX (w := wr)).mono hb.size)
   refine startD [2, 3, 4, 9, 10, 11, 12] [0, 1, 5, 6, 7, 8, 2, 3, 4, 9, 10, 11, 12, 13] (by kernel_rfl) ⟨by kernel_rfl, by kernel_rfl, by kernel_rfl, by kernel_rfl⟩ 8 [(8, fun w' => w'.cell? ⟨g, off + k * 7, none⟩ = some (.slice rna r.name.length rnc) ∧ w'.cell? ⟨g, off + k * 7 + 1, none⟩ = some (.int .i64 r.type) ∧ w'.cell? ⟨g, off + k * 7 + 2, none⟩ = some (.int .i64 r.ttl) ∧ w'.cell? ⟨g, off + k * 7 + 3, none⟩ = some (.int .i64 r.addr) ∧ w'.cell? ⟨g, off + k * 7 + 4, none⟩ = some (.slice rta r.to.length rtc) ∧ w'.cell? ⟨g, off + k * 7 + 5, none⟩ = some (.slice rxa r.text.length rxc) ∧ w'.cell? ⟨g, off + k * 7 + 6, none⟩ = some (.slice ria r.nums.length ric))] (fun hA => ?_)
   replace hA := UC hA
   have RD := UC ((UB RO).below (UX (w := wr)))
   generalize wr.drew = w0 at *
   go_simp
   repeat ((refine lookD ?_ (UB hA) rfl rfl rfl (by rfl) (fun _ _ _ h => h) ?_ ?_; rotate_left; · (intro w; go_simp <;> with_reducible rfl)); go_simp)
   refine takeD ?_ (UB hA) rfl rfl rfl (by rfl) (fun _ _ _ h => h) (.head _) (UB HRG _ bb0) ?_ ?_; rotate_left; (· (intro w hSw; (try dsimp only at hSw); go_simp <;> with_reducible rfl)); go_simp
   repeat ((refine lookD ?_ (UB hA) rfl rfl rfl (by rfl) (fun _ _ _ h => h) ?_ ?_; rotate_left; · (intro w; go_simp <;> with_reducible rfl)); go_simp)
   refine fork3D [0, 1, 5, 6, 7, 8, 3, 2, 4, 9, 10, 11, 12, 13] [0, 1, 5, 6, 7, 8, 11, 2, 3, 4, 9, 10, 12, 13] (UB hA) rfl rfl ⟨by kernel_rfl, by kernel_rfl, by kernel_rfl, by kernel_rfl⟩ rfl rfl rfl ⟨by kernel_rfl, by kernel_rfl, by kernel_rfl, by kernel_rfl⟩ rfl rfl rfl (by kernel_rfl) (by kernel_rfl) (by kernel_rfl) (by kernel_rfl) (fun K hK => ?_) (fun hA2 K hK => ?_) (fun hA2 K hK => ?_)
   ·have HK := UC hK
    clear hK
    refine appM_wp (.tmp 14) (.tmp 15) 28 9 5 rfl Tryz.underlying28 VJ W0.heap.size u0 _ (G k) ws rfl rfl (UB RD) (.inr ⟨Tryz.underlying9, rfl, (UB HW8)⟩) (by first | omega | (simp only [List.length_cons, List.length_nil]; omega) | (simp only [List.length_append]; omega) | (simp only [List.length_append, List.length_cons, List.length_nil]; omega)) bb0.size ?_
    intro v1 w1 o1 g1 h1
    have bb1 : Below W0.heap.size W0 w1 := bb0.grown g1 bb0.size (fun q hq => ((UB RD).lt q hq).1)
    have R1 := UC o1
    clear o1 g1 h1
    refine (UB HK).out _ _ (keepC_yes (UB HRG _ bb1) VL) ?_
    clear HK K
    go_simp
    repeat ((refine lookD ?_ (UB hA) rfl rfl rfl (by rfl) (fun _ _ _ h => h) ?_ ?_; rotate_left; · (intro w; go_simp <;> with_reducible rfl)); go_simp)
    refine forkD [0, 1, 5, 6, 7, 8, 2, 11, 3, 4, 9, 10, 12, 13] (UB hA) rfl rfl ⟨by kernel_rfl, by kernel_rfl, by kernel_rfl, by kernel_rfl⟩ rfl rfl rfl (by kernel_rfl) (by kernel_rfl) (by kernel_rfl) (fun K hK => ?_) (fun hA2 K hK => ?_)
    ·have HK := UC hK
     clear hK
     have ba2 := UI (w := w1) (.cells #[.int .u8 32] 5)
     have NE2 : Hid (v1.ownBlock ≠ some w1.heap.size) := UC (fun c => by have := ((UB R1).lt _ c).2; omega)
     have R2 := UC ((UB R1).below ba2)
     have S2_3 : Hid (Sep w1.heap.size 5 (w1.alloc (.cells #[.int .u8 32] 5))) := UC (heap_alloc_new w1 (.cells #[.int .u8 32] 5))
     have bb2 := UG bb1 ba2
     clear ba2
     go_simp
     refine (UB HK).out _ _ (keepC_yes (UB HRG _ bb2) VL) ?_
     clear HK K
     go_simp
     repeat ((refine lookD ?_ (UB hA) rfl rfl rfl (by rfl) (fun _ _ _ h => h) ?_ ?_; rotate_left; · (intro w; go_simp <;> with_reducible rfl)); go_simp)
     generalize w1.alloc (.cells #[.int .u8 32] 5) = w2 at *
     refine forkD [0, 1, 5, 6, 7, 8, 2, 3, 11, 4, 9, 10, 12, 13] (UB hA) rfl rfl ⟨by kernel_rfl, by kernel_rfl, by kernel_rfl, by kernel_rfl⟩ rfl rfl rfl (by kernel_rfl) (by kernel_rfl) (by kernel_rfl) (fun K hK => ?_) (fun hA2 K hK => ?_)
     ·have HK := UC hK
      clear hK
      refine appM_wp (.tmp 16) (.tmp 17) 28 28 5 rfl Tryz.underlying28 VJ W0.heap.size v1 _ (G k ++ ws) [32] rfl rfl (UB R2) (rd_bytes (UB S2_3).reads (by first | omega | (simp only [List.length_cons, List.length_nil]; omega) | (simp only [List.length_append]; omega) | (simp only [List.length_append, List.length_cons, List.length_nil]; omega))) (by first | omega | (simp only [List.length_cons, List.length_nil]; omega) | (simp only [List.length_append]; omega) | (simp only [List.length_append, List.length_cons, List.length_nil]; omega)) bb2.size ?_
      intro v3 w3 o3 g3 h3
      have bb3 : Below W0.heap.size W0 w3 := bb2.grown g3 bb2.size (fun q hq => ((UB R2).lt q hq).1)
      have R3 := UC o3
      clear o3 g3 h3
      refine (UB HK).out _ _ (keepC_yes (UB HRG _ bb3) VL) ?_
      clear HK K
      go_simp
      repeat ((refine lookD ?_ (UB hA) rfl rfl rfl (by rfl) (fun _ _ _ h => h) ?_ ?_; rotate_left; · (intro w; go_simp <;> with_reducible rfl)); go_simp)
      refine forkD [0, 1, 5, 6, 7, 8, 2, 3, 4, 11, 9, 10, 12, 13] (UB hA) rfl rfl ⟨by kernel_rfl, by kernel_rfl, by kernel_rfl, by kernel_rfl⟩ rfl rfl rfl (by kernel_rfl) (by kernel_rfl) (by kernel_rfl) (fun K hK => ?_) (fun hA2 K hK => ?_)
      ·have HK := UC hK
       clear hK
       go_simp
       refine (UB PL _ (UB HU _ bb3)).mono ?_
       rintro e w4 ⟨v4, rfl, o, b4⟩
       have o4 := UC o
       clear o
       have R4 := UC ((UB R3).below b4)
       have bb4 := UG bb3 b4
       refine (UB HK).out _ _ (VB (by kernel_rfl) VL) ?_
       clear HK K
       go_simp
       repeat ((refine lookD ?_ (UB hA) rfl rfl rfl (by rfl) (fun _ _ _ h => h) ?_ ?_; rotate_left; · (intro w; go_simp <;> with_reducible rfl)); go_simp)
       refine forkD [0, 1, 5, 6, 7, 8, 2, 3, 4, 9, 11, 10, 12, 13] (UB hA) rfl rfl ⟨by kernel_rfl, by kernel_rfl, by kernel_rfl, by kernel_rfl⟩ rfl rfl rfl (by kernel_rfl) (by kernel_rfl) (by kernel_rfl) (fun K hK => ?_) (fun hA2 K hK => ?_)
       ·have HK := UC hK
        clear hK
        refine appM_wp (.tmp 18) (.tmp 23) 28 28 5 rfl Tryz.underlying28 VJ W0.heap.size v3 _ (G k ++ ws ++ [32]) T rfl rfl (UB R4) (rd_bytes (UB o4).reads (by first | omega | (simp only [List.length_cons, List.length_nil]; omega) | (simp only [List.length_append]; omega) | (simp only [List.length_append, List.length_cons, List.length_nil]; omega))) (by first | omega | (simp only [List.length_cons, List.length_nil]; omega) | (simp only [List.length_append]; omega) | (simp only [List.length_append, List.length_cons, List.length_nil]; omega)) bb4.size ?_
        intro v5 w5 o5 g5 h5
        have bb5 : Below W0.heap.size W0 w5 := bb4.grown g5 bb4.size (fun q hq => ((UB R4).lt q hq).1)
        have R5 := UC o5
        clear o5 g5 h5
        refine (UB HK).out _ _ (VB (by kernel_rfl) VL) ?_
        clear HK K
        go_simp
        repeat ((refine lookD ?_ (UB hA) rfl rfl rfl (by rfl) (fun _ _ _ h => h) ?_ ?_; rotate_left; · (intro w; go_simp <;> with_reducible rfl)); go_simp)
        refine runD (UB hA) rfl rfl (by kernel_rfl) (by kernel_rfl) (fun K hK => ?_)
        have HK := UC hK
        clear hK
        have ba6 := UI (w := w5) (.cells #[.int .u8 10] 5)
        have NE6 : Hid (v5.ownBlock ≠ some w5.heap.size) := UC (fun c => by have := ((UB R5).lt _ c).2; omega)
        have R6 := UC ((UB R5).below ba6)
        have S6_11 : Hid (SepC 10 w5.heap.size 5 (w5.alloc (.cells #[.int .u8 10] 5))) := UC (heap_alloc_new w5 (.cells #[.int .u8 10] 5))
        have bb6 := UG bb5 ba6
        clear ba6
        go_simp
        refine (UB HK).out _ _ (keepC_yes (UB HRG _ bb6) VL) ?_
        clear HK K
        go_simp
        repeat ((refine lookD ?_ (UB hA) rfl rfl rfl (by rfl) (fun _ _ _ h => h) ?_ ?_; rotate_left; · (intro w; go_simp <;> with_reducible rfl)); go_simp)
        generalize w5.alloc (.cells #[.int .u8 10] 5) = w6 at *
        refine runD (UB hA) rfl rfl (by kernel_rfl) (by kernel_rfl) (fun K hK => ?_)
        have HK := UC hK
        clear hK
        refine appM_wp (.tmp 24) (.tmp 25) 28 28 5 rfl Tryz.underlying28 VJ W0.heap.size v5 _ (G k ++ ws ++ [32] ++ T) [10] rfl rfl (UB R6) (rd_bytes (UB S6_11).reads (by first | omega | (simp only [List.length_cons, List.length_nil]; omega) | (simp only [List.length_append]; omega) | (simp only [List.length_append, List.length_cons, List.length_nil]; omega))) (by first | omega | (simp only [List.length_cons, List.length_nil]; omega) | (simp only [List.length_append]; omega) | (simp only [List.length_append, List.length_cons, List.length_nil]; omega)) bb6.size ?_
        intro v7 w7 o7 g7 h7
        have bb7 : Below W0.heap.size W0 w7 := bb6.grown g7 bb6.size (fun q hq => ((UB R6).lt q hq).1)
        have R7 := UC o7
        clear o7 g7 h7
        refine (UB HK).out _ _ (VB (by kernel_rfl) VL) ?_
        clear HK K
        go_simp
        repeat ((refine lookD ?_ (UB hA) rfl rfl rfl (by rfl) (fun _ _ _ h => h) ?_ ?_; rotate_left; · (intro w; go_simp <;> with_reducible rfl)); go_simp)
        refine doneD (UB hA) rfl ?_
        clear hA
        go_wp2_with fail
        exact ⟨⟨k + 1, by omega, by go_num, (by rw [UB HST2]; simpa only [List.append_assoc] using UB R7), bb7⟩, by simp [intOf]; omega⟩
       ·replace hA := UC hA2
        clear hA2
        have HK := UC hK
        clear hK
        have ba8 := UI (w := w4) (.cells #[.int .u8 10] 5)
        have NE8 : Hid (v3.ownBlock ≠ some w4.heap.size) := UC (fun c => by have := ((UB R4).lt _ c).2; omega)
        have R8 := UC ((UB R4).below ba8)
        have P8_9 := UC ((UB o4).below ba8)
        have S8_11 : Hid (SepC 10 w4.heap.size 5 (w4.alloc (.cells #[.int .u8 10] 5))) := UC (heap_alloc_new w4 (.cells #[.int .u8 10] 5))
        have bb8 := UG bb4 ba8
        clear ba8
        go_simp
        refine (UB HK).out _ _ (keepC_yes (UB HRG _ bb8) VL) ?_
        clear HK K
        go_simp
        repeat ((refine lookD ?_ (UB hA) rfl rfl rfl (by rfl) (fun _ _ _ h => h) ?_ ?_; rotate_left; · (intro w; go_simp <;> with_reducible rfl)); go_simp)
        generalize w4.alloc (.cells #[.int .u8 10] 5) = w8 at *
        refine runD (UB hA) rfl rfl (by kernel_rfl) (by kernel_rfl) (fun K hK => ?_)
        have HK := UC hK
        clear hK
        refine appM_wp (.tmp 18) (.tmp 23) 28 28 5 rfl Tryz.underlying28 VJ W0.heap.size v3 _ (G k ++ ws ++ [32]) T rfl rfl (UB R8) (rd_bytes (UB P8_9).reads (by first | omega | (simp only [List.length_cons, List.length_nil]; omega) | (simp only [List.length_append]; omega) | (simp only [List.length_append, List.length_cons, List.length_nil]; omega))) (by first | omega | (simp only [List.length_cons, List.length_nil]; omega) | (simp only [List.length_append]; omega) | (simp only [List.length_append, List.length_cons, List.length_nil]; omega)) bb8.size ?_
        intro v9 w9 o9 g9 h9
        have bb9 : Below W0.heap.size W0 w9 := bb8.grown g9 bb8.size (fun q hq => ((UB R8).lt q hq).1)
        have NE9_11 := UC (apart_nextC (UB S8_11) (UB NE8) h9)
        have S9_11 := UC ((UB S8_11).grown g9 (UB NE8))
        have R9 := UC o9
        clear o9 g9 h9
        refine (UB HK).out _ _ (VB (by kernel_rfl) VL) ?_
        clear HK K
        go_simp
        repeat ((refine lookD ?_ (UB hA) rfl rfl rfl (by rfl) (fun _ _ _ h => h) ?_ ?_; rotate_left; · (intro w; go_simp <;> with_reducible rfl)); go_simp)
        refine runD (UB hA) rfl rfl (by kernel_rfl) (by kernel_rfl) (fun K hK => ?_)
        have HK := UC hK
        clear hK
        refine appM_wp (.tmp 24) (.tmp 25) 28 28 5 rfl Tryz.underlying28 VJ W0.heap.size v9 _ (G k ++ ws ++ [32] ++ T) [10] rfl rfl (UB R9) (rd_bytes (UB S9_11).reads (by first | omega | (simp only [List.length_cons, List.length_nil]; omega) | (simp only [List.length_append]; omega) | (simp only [List.length_append, List.length_cons, List.length_nil]; omega))) (by first | omega | (simp only [List.length_cons, List.length_nil]; omega) | (simp only [List.length_append]; omega) | (simp only [List.length_append, List.length_cons, List.length_nil]; omega)) bb9.size ?_
        intro v10 w10 o10 g10 h10
        have bb10 : Below W0.heap.size W0 w10 := bb9.grown g10 bb9.size (fun q hq => ((UB R9).lt q hq).1)
        have R10 := UC o10
        clear o10 g10 h10
        refine (UB HK).out _ _ (VB (by kernel_rfl) VL) ?_
        clear HK K
        go_simp
        repeat ((refine lookD ?_ (UB hA) rfl rfl rfl (by rfl) (fun _ _ _ h => h) ?_ ?_; rotate_left; · (intro w; go_simp <;> with_reducible rfl)); go_simp)
        refine doneD (UB hA) rfl ?_
        clear hA
        go_wp2_with fail
        exact ⟨⟨k + 1, by omega, by go_num, (by rw [UB HST2]; simpa only [List.append_assoc] using UB R10), bb10⟩, by simp [intOf]; omega⟩
      ·replace hA := UC hA2
       clear hA2
       have HK := UC hK
       clear hK
       have ba11 := UI (w := w3) (.cells #[.int .u8 10] 5)
       have NE11 : Hid (v3.ownBlock ≠ some w3.heap.size) := UC (fun c => by have := ((UB R3).lt _ c).2; omega)
       have R11 := UC ((UB R3).below ba11)
       have S11_11 : Hid (SepC 10 w3.heap.size 5 (w3.alloc (.cells #[.int .u8 10] 5))) := UC (heap_alloc_new w3 (.cells #[.int .u8 10] 5))
       have bb11 := UG bb3 ba11
       clear ba11
       go_simp
       refine (UB HK).out _ _ (keepC_yes (UB HRG _ bb11) VL) ?_
       clear HK K
       go_simp
       repeat ((refine lookD ?_ (UB hA) rfl rfl rfl (by rfl) (fun _ _ _ h => h) ?_ ?_; rotate_left; · (intro w; go_simp <;> with_reducible rfl)); go_simp)
       generalize w3.alloc (.cells #[.int .u8 10] 5) = w11 at *
       refine runD (UB hA) rfl rfl (by kernel_rfl) (by kernel_rfl) (fun K hK => ?_)
       have HK := UC hK
       clear hK
       go_simp
       refine (UB PL _ (UB HU _ bb11)).mono ?_
       rintro e w12 ⟨v12, rfl, o, b12⟩
       have o12 := UC o
       clear o
       have R12 := UC ((UB R11).below b12)
       have S12_11 := UC ((UB S11_11).below b12)
       have bb12 := UG bb11 b12
       refine (UB HK).out _ _ (VB (by kernel_rfl) VL) ?_
       clear HK K
       go_simp
       repeat ((refine lookD ?_ (UB hA) rfl rfl rfl (by rfl) (fun _ _ _ h => h) ?_ ?_; rotate_left; · (intro w; go_simp <;> with_reducible rfl)); go_simp)
       refine runD (UB hA) rfl rfl (by kernel_rfl) (by kernel_rfl) (fun K hK => ?_)
       have HK := UC hK
       clear hK
       refine appM_wp (.tmp 18) (.tmp 23) 28 28 5 rfl Tryz.underlying28 VJ W0.heap.size v3 _ (G k ++ ws ++ [32]) T rfl rfl (UB R12) (rd_bytes (UB o12).reads (by first | omega | (simp only [List.length_cons, List.length_nil]; omega) | (simp only [List.length_append]; omega) | (simp only [List.length_append, List.length_cons, List.length_nil]; omega))) (by first | omega | (simp only [List.length_cons, List.length_nil]; omega) | (simp only [List.length_append]; omega) | (simp only [List.length_append, List.length_cons, List.length_nil]; omega)) bb12.size ?_
       intro v13 w13 o13 g13 h13
       have bb13 : Below W0.heap.size W0 w13 := bb12.grown g13 bb12.size (fun q hq => ((UB R12).lt q hq).1)
       have NE13_11 := UC (apart_nextC (UB S12_11) (UB NE11) h13)
       have S13_11 := UC ((UB S12_11).grown g13 (UB NE11))
       have R13 := UC o13
       clear o13 g13 h13
       refine (UB HK).out _ _ (VB (by kernel_rfl) VL) ?_
       clear HK K
       go_simp
       repeat ((refine lookD ?_ (UB hA) rfl rfl rfl (by rfl) (fun _ _ _ h => h) ?_ ?_; rotate_left; · (intro w; go_simp <;> with_reducible rfl)); go_simp)
       refine runD (UB hA) rfl rfl (by kernel_rfl) (by kernel_rfl) (fun K hK => ?_)
       have HK := UC hK
       clear hK
       refine appM_wp (.tmp 24) (.tmp 25) 28 28 5 rfl Tryz.underlying28 VJ W0.heap.size v13 _ (G k ++ ws ++ [32] ++ T) [10] rfl rfl (UB R13) (rd_bytes (UB S13_11).reads (by first | omega | (simp only [List.length_cons, List.length_nil]; omega) | (simp only [List.length_append]; omega) | (simp only [List.length_append, List.length_cons, List.length_nil]; omega))) (by first | omega | (simp only [List.length_cons, List.length_nil]; omega) | (simp only [List.length_append]; omega) | (simp only [List.length_append, List.length_cons, List.length_nil]; omega)) bb13.size ?_
       intro v14 w14 o14 g14 h14
       have bb14 : Below W0.heap.size W0 w14 := bb13.grown g14 bb13.size (fun q hq => ((UB R13).lt q hq).1)
       have R14 := UC o14
       clear o14 g14 h14
       refine (UB HK).out _ _ (VB (by kernel_rfl) VL) ?_
       clear HK K
       go_simp
       repeat ((refine lookD ?_ (UB hA) rfl rfl rfl (by rfl) (fun _ _ _ h => h) ?_ ?_; rotate_left; · (intro w; go_simp <;> with_reducible rfl)); go_simp)
       refine doneD (UB hA) rfl ?_
       clear hA
       go_wp2_with fail
       exact ⟨⟨k + 1, by omega, by go_num, (by rw [UB HST2]; simpa only [List.append_assoc] using UB R14), bb14⟩, by simp [intOf]; omega⟩
     ·replace hA := UC hA2
      clear hA2
      have HK := UC hK
      clear hK
      have ba15 := UI (w := w2) (.cells #[.int .u8 10] 5)
      have NE15 : Hid (v1.ownBlock ≠ some w2.heap.size) := UC (fun c => by have := ((UB R2).lt _ c).2; omega)
      have R15 := UC ((UB R2).below ba15)
      have S15_3 := UC ((UB S2_3).below ba15)
      have S15_11 : Hid (SepC 10 w2.heap.size 5 (w2.alloc (.cells #[.int .u8 10] 5))) := UC (heap_alloc_new w2 (.cells #[.int .u8 10] 5))
      have bb15 := UG bb2 ba15
      clear ba15
      go_simp
      refine (UB HK).out _ _ (keepC_yes (UB HRG _ bb15) VL) ?_
      clear HK K
      go_simp
      repeat ((refine lookD ?_ (UB hA) rfl rfl rfl (by rfl) (fun _ _ _ h => h) ?_ ?_; rotate_left; · (intro w; go_simp <;> with_reducible rfl)); go_simp)
      generalize w2.alloc (.cells #[.int .u8 10] 5) = w15 at *
      refine runD (UB hA) rfl rfl (by kernel_rfl) (by kernel_rfl) (fun K hK => ?_)
      have HK := UC hK
      clear hK
      refine appM_wp (.tmp 16) (.tmp 17) 28 28 5 rfl Tryz.underlying28 VJ W0.heap.size v1 _ (G k ++ ws) [32] rfl rfl (UB R15) (rd_bytes (UB S15_3).reads (by first | omega | (simp only [List.length_cons, List.length_nil]; omega) | (simp only [List.length_append]; omega) | (simp only [List.length_append, List.length_cons, List.length_nil]; omega))) (by first | omega | (simp only [List.length_cons, List.length_nil]; omega) | (simp only [List.length_append]; omega) | (simp only [List.length_append, List.length_cons, List.length_nil]; omega)) bb15.size ?_
      intro v16 w16 o16 g16 h16
      have bb16 : Below W0.heap.size W0 w16 := bb15.grown g16 bb15.size (fun q hq => ((UB R15).lt q hq).1)
      have NE16_11 := UC (apart_nextC (UB S15_11) (UB NE15) h16)
      have S16_11 := UC ((UB S15_11).grown g16 (UB NE15))
      have R16 := UC o16
      clear o16 g16 h16
      refine (UB HK).out _ _ (keepC_yes (UB HRG _ bb16) VL) ?_
      clear HK K
      go_simp
      repeat ((refine lookD ?_ (UB hA) rfl rfl rfl (by rfl) (fun _ _ _ h => h) ?_ ?_; rotate_left; · (intro w; go_simp <;> with_reducible rfl)); go_simp)
      refine runD (UB hA) rfl rfl (by kernel_rfl) (by kernel_rfl) (fun K hK => ?_)
      have HK := UC hK
      clear hK
      go_simp
      refine (UB PL _ (UB HU _ bb16)).mono ?_
      rintro e w17 ⟨v17, rfl, o, b17⟩
      have o17 := UC o
      clear o
      have R17 := UC ((UB R16).below b17)
      have S17_11 := UC ((UB S16_11).below b17)
      have bb17 := UG bb16 b17
      refine (UB HK).out _ _ (VB (by kernel_rfl) VL) ?_
      clear HK K
      go_simp
      repeat ((refine lookD ?_ (UB hA) rfl rfl rfl (by rfl) (fun _ _ _ h => h) ?_ ?_; rotate_left; · (intro w; go_simp <;> with_reducible rfl)); go_simp)
      refine runD (UB hA) rfl rfl (by kernel_rfl) (by kernel_rfl) (fun K hK => ?_)
      have HK := UC hK
      clear hK
      refine appM_wp (.tmp 18) (.tmp 23) 28 28 5 rfl Tryz.underlying28 VJ W0.heap.size v16 _ (G k ++ ws ++ [32]) T rfl rfl (UB R17) (rd_bytes (UB o17).reads (by first | omega | (simp only [List.length_cons, List.length_nil]; omega) | (simp only [List.length_append]; omega) | (simp only [List.length_append, List.length_cons, List.length_nil]; omega))) (by first | omega | (simp only [List.length_cons, List.length_nil]; omega) | (simp only [List.length_append]; omega) | (simp only [List.length_append, List.length_cons, List.length_nil]; omega)) bb17.size ?_
      intro v18 w18 o18 g18 h18
      have bb18 : Below W0.heap.size W0 w18 := bb17.grown g18 bb17.size (fun q hq => ((UB R17).lt q hq).1)
      have NE18_11 := UC (apart_nextC (UB S17_11) (UB NE16_11) h18)
      have S18_11 := UC ((UB S17_11).grown g18 (UB NE16_11))
      have R18 := UC o18
      clear o18 g18 h18
      refine (UB HK).out _ _ (VB (by kernel_rfl) VL) ?_
      clear HK K
      go_simp
      repeat ((refine lookD ?_ (UB hA) rfl rfl rfl (by rfl) (fun _ _ _ h => h) ?_ ?_; rotate_left; · (intro w; go_simp <;> with_reducible rfl)); go_simp)
      refine runD (UB hA) rfl rfl (by kernel_rfl) (by kernel_rfl) (fun K hK => ?_)
      have HK := UC hK
      clear hK
      refine appM_wp (.tmp 24) (.tmp 25) 28 28 5 rfl Tryz.underlying28 VJ W0.heap.size v18 _ (G k ++ ws ++ [32] ++ T) [10] rfl rfl (UB R18) (rd_bytes (UB S18_11).reads (by first | omega | (simp only [List.length_cons, List.length_nil]; omega) | (simp only [List.length_append]; omega) | (simp only [List.length_append, List.length_cons, List.length_nil]; omega))) (by first | omega | (simp only [List.length_cons, List.length_nil]; omega) | (simp only [List.length_append]; omega) | (simp only [List.length_append, List.length_cons, List.length_nil]; omega)) bb18.size ?_
      intro v19 w19 o19 g19 h19
      have bb19 : Below W0.heap.size W0 w19 := bb18.grown g19 bb18.size (fun q hq => ((UB R18).lt q hq).1)
      have R19 := UC o19
      clear o19 g19 h19
      refine (UB HK).out _ _ (VB (by kernel_rfl) VL) ?_
      clear HK K
      go_simp
      repeat ((refine lookD ?_ (UB hA) rfl rfl rfl (by rfl) (fun _ _ _ h => h) ?_ ?_; rotate_left; · (intro w; go_simp <;> with_reducible rfl)); go_simp)
      refine doneD (UB hA) rfl ?_
      clear hA
      go_wp2_with fail
      exact ⟨⟨k + 1, by omega, by go_num, (by rw [UB HST2]; simpa only [List.append_assoc] using UB R19), bb19⟩, by simp [intOf]; omega⟩
    ·replace hA := UC hA2
     clear hA2
     have HK := UC hK
     clear hK
     have ba20 := UI (w := w1) (.cells #[.int .u8 10] 5)
     have NE20 : Hid (v1.ownBlock ≠ some w1.heap.size) := UC (fun c => by have := ((UB R1).lt _ c).2; omega)
     have R20 := UC ((UB R1).below ba20)
     have S20_11 : Hid (SepC 10 w1.heap.size 5 (w1.alloc (.cells #[.int .u8 10] 5))) := UC (heap_alloc_new w1 (.cells #[.int .u8 10] 5))
     have bb20 := UG bb1 ba20
     clear ba20
     go_simp
     refine (UB HK).out _ _ (keepC_yes (UB HRG _ bb20) VL) ?_
     clear HK K
     go_simp
     repeat ((refine lookD ?_ (UB hA) rfl rfl rfl (by rfl) (fun _ _ _ h => h) ?_ ?_; rotate_left; · (intro w; go_simp <;> with_reducible rfl)); go_simp)
     generalize w1.alloc (.cells #[.int .u8 10] 5) = w20 at *
     refine runD (UB hA) rfl rfl (by kernel_rfl) (by kernel_rfl) (fun K hK => ?_)
     have HK := UC hK
     clear hK
     have ba21 := UI (w := w20) (.cells #[.int .u8 32] 5)
     have NE21 : Hid (v1.ownBlock ≠ some w20.heap.size) := UC (fun c => by have := ((UB R20).lt _ c).2; omega)
     have R21 := UC ((UB R20).below ba21)
     have S21_11 := UC ((UB S20_11).below ba21)
     have S21_3 : Hid (Sep w20.heap.size 5 (w20.alloc (.cells #[.int .u8 32] 5))) := UC (heap_alloc_new w20 (.cells #[.int .u8 32] 5))
     have bb21 := UG bb20 ba21
     clear ba21
     go_simp
     refine (UB HK).out _ _ (keepC_yes (UB HRG _ bb21) VL) ?_
     clear HK K
     go_simp
     repeat ((refine lookD ?_ (UB hA) rfl rfl rfl (by rfl) (fun _ _ _ h => h) ?_ ?_; rotate_left; · (intro w; go_simp <;> with_reducible rfl)); go_simp)
     generalize w20.alloc (.cells #[.int .u8 32] 5) = w21 at *
     refine runD (UB hA) rfl rfl (by kernel_rfl) (by kernel_rfl) (fun K hK => ?_)
     have HK := UC hK
     clear hK
     refine appM_wp (.tmp 16) (.tmp 17) 28 28 5 rfl Tryz.underlying28 VJ W0.heap.size v1 _ (G k ++ ws) [32] rfl rfl (UB R21) (rd_bytes (UB S21_3).reads (by first | omega | (simp only [List.length_cons, List.length_nil]; omega) | (simp only [List.length_append]; omega) | (simp only [List.length_append, List.length_cons, List.length_nil]; omega))) (by first | omega | (simp only [List.length_cons, List.length_nil]; omega) | (simp only [List.length_append]; omega) | (simp only [List.length_append, List.length_cons, List.length_nil]; omega)) bb21.size ?_
     intro v22 w22 o22 g22 h22
     have bb22 : Below W0.heap.size W0 w22 := bb21.grown g22 bb21.size (fun q hq => ((UB R21).lt q hq).1)
     have NE22_11 := UC (apart_nextC (UB S21_11) (UB NE20) h22)
     have S22_11 := UC ((UB S21_11).grown g22 (UB NE20))
     have R22 := UC o22
     clear o22 g22 h22
     refine (UB HK).out _ _ (keepC_yes (UB HRG _ bb22) VL) ?_
     clear HK K
     go_simp
     repeat ((refine lookD ?_ (UB hA) rfl rfl rfl (by rfl) (fun _ _ _ h => h) ?_ ?_; rotate_left; · (intro w; go_simp <;> with_reducible rfl)); go_simp)
     refine runD (UB hA) rfl rfl (by kernel_rfl) (by kernel_rfl) (fun K hK => ?_)
     have HK := UC hK
     clear hK
     go_simp
     refine (UB PL _ (UB HU _ bb22)).mono ?_
     rintro e w23 ⟨v23, rfl, o, b23⟩
     have o23 := UC o
     clear o
     have R23 := UC ((UB R22).below b23)
     have S23_11 := UC ((UB S22_11).below b23)
     have bb23 := UG bb22 b23
     refine (UB HK).out _ _ (VB (by kernel_rfl) VL) ?_
     clear HK K
     go_simp
     repeat ((refine lookD ?_ (UB hA) rfl rfl rfl (by rfl) (fun _ _ _ h => h) ?_ ?_; rotate_left; · (intro w; go_simp <;> with_reducible rfl)); go_simp)
     refine runD (UB hA) rfl rfl (by kernel_rfl) (by kernel_rfl) (fun K hK => ?_)
     have HK := UC hK
     clear hK
     refine appM_wp (.tmp 18) (.tmp 23) 28 28 5 rfl Tryz.underlying28 VJ W0.heap.size v22 _ (G k ++ ws ++ [32]) T rfl rfl (UB R23) (rd_bytes (UB o23).reads (by first | omega | (simp only [List.length_cons, List.length_nil]; omega) | (simp only [List.length_append]; omega) | (simp only [List.length_append, List.length_cons, List.length_nil]; omega))) (by first | omega | (simp only [List.length_cons, List.length_nil]; omega) | (simp only [List.length_append]; omega) | (simp only [List.length_append, List.length_cons, List.length_nil]; omega)) bb23.size ?_
     intro v24 w24 o24 g24 h24
     have bb24 : Below W0.heap.size W0 w24 := bb23.grown g24 bb23.size (fun q hq => ((UB R23).lt q hq).1)
     have NE24_11 := UC (apart_nextC (UB S23_11) (UB NE22_11) h24)
     have S24_11 := UC ((UB S23_11).grown g24 (UB NE22_11))
     have R24 := UC o24
     clear o24 g24 h24
     refine (UB HK).out _ _ (VB (by kernel_rfl) VL) ?_
     clear HK K
     go_simp
     repeat ((refine lookD ?_ (UB hA) rfl rfl rfl (by rfl) (fun _ _ _ h => h) ?_ ?_; rotate_left; · (intro w; go_simp <;> with_reducible rfl)); go_simp)
     refine runD (UB hA) rfl rfl (by kernel_rfl) (by kernel_rfl) (fun K hK => ?_)
     have HK := UC hK
     clear hK
     refine appM_wp (.tmp 24) (.tmp 25) 28 28 5 rfl Tryz.underlying28 VJ W0.heap.size v24 _ (G k ++ ws ++ [32] ++ T) [10] rfl rfl (UB R24) (rd_bytes (UB S24_11).reads (by first | omega | (simp only [List.length_cons, List.length_nil]; omega) | (simp only [List.length_append]; omega) | (simp only [List.length_append, List.length_cons, List.length_nil]; omega))) (by first | omega | (simp only [List.length_cons, List.length_nil]; omega) | (simp only [List.length_append]; omega) | (simp only [List.length_append, List.length_cons, List.length_nil]; omega)) bb24.size ?_
     intro v25 w25 o25 g25 h25
     have bb25 : Below W0.heap.size W0 w25 := bb24.grown g25 bb24.size (fun q hq => ((UB R24).lt q hq).1)
     have R25 := UC o25
     clear o25 g25 h25
     refine (UB HK).out _ _ (VB (by kernel_rfl) VL) ?_
     clear HK K
     go_simp
     repeat ((refine lookD ?_ (UB hA) rfl rfl rfl (by rfl) (fun _ _ _ h => h) ?_ ?_; rotate_left; · (intro w; go_simp <;> with_reducible rfl)); go_simp)
     refine doneD (UB hA) rfl ?_
     clear hA
     go_wp2_with fail
     exact ⟨⟨k + 1, by omega, by go_num, (by rw [UB HST2]; simpa only [List.append_assoc] using UB R25), bb25⟩, by simp [intOf]; omega⟩
   ·replace hA := UC hA2
    clear hA2
    have HK := UC hK
    clear hK
    have ba26 := UI (w := w0) (.cells #[.int .u8 32] 5)
    have NE26 : Hid (u0.ownBlock ≠ some w0.heap.size) := UC (fun c => by have := ((UB RD).lt _ c).2; omega)
    have R26 := UC ((UB RD).below ba26)
    have S26_3 : Hid (Sep w0.heap.size 5 (w0.alloc (.cells #[.int .u8 32] 5))) := UC (heap_alloc_new w0 (.cells #[.int .u8 32] 5))
    have bb26 := UG bb0 ba26
    clear ba26
    go_simp
    refine (UB HK).out _ _ (keepC_yes (UB HRG _ bb26) VL) ?_
    clear HK K
    go_simp
    repeat ((refine lookD ?_ (UB hA) rfl rfl rfl (by rfl) (fun _ _ _ h => h) ?_ ?_; rotate_left; · (intro w; go_simp <;> with_reducible rfl)); go_simp)
    generalize w0.alloc (.cells #[.int .u8 32] 5) = w26 at *
    refine forkD [0, 1, 5, 6, 7, 8, 3, 11, 2, 4, 9, 10, 12, 13] (UB hA) rfl rfl ⟨by kernel_rfl, by kernel_rfl, by kernel_rfl, by kernel_rfl⟩ rfl rfl rfl (by kernel_rfl) (by kernel_rfl) (by kernel_rfl) (fun K hK => ?_) (fun hA2 K hK => ?_)
    ·have HK := UC hK
     clear hK
     refine appM_wp (.tmp 14) (.tmp 15) 28 9 5 rfl Tryz.underlying28 VJ W0.heap.size u0 _ (G k) ws rfl rfl (UB R26) (.inr ⟨Tryz.underlying9, rfl, (UB HW8)⟩) (by first | omega | (simp only [List.length_cons, List.length_nil]; omega) | (simp only [List.length_append]; omega) | (simp only [List.length_append, List.length_cons, List.length_nil]; omega)) bb26.size ?_
     intro v27 w27 o27 g27 h27
     have bb27 : Below W0.heap.size W0 w27 := bb26.grown g27 bb26.size (fun q hq => ((UB R26).lt q hq).1)
     have NE27_3 := UC (apart_next (UB S26_3) (UB NE26) h27)
     have S27_3 := UC ((UB S26_3).grown g27 (UB NE26))
     have R27 := UC o27
     clear o27 g27 h27
     refine (UB HK).out _ _ (keepC_yes (UB HRG _ bb27) VL) ?_
     clear HK K
     go_simp
     repeat ((refine lookD ?_ (UB hA) rfl rfl rfl (by rfl) (fun _ _ _ h => h) ?_ ?_; rotate_left; · (intro w; go_simp <;> with_reducible rfl)); go_simp)
     refine forkD [0, 1, 5, 6, 7, 8, 3, 2, 11, 4, 9, 10, 12, 13] (UB hA) rfl rfl ⟨by kernel_rfl, by kernel_rfl, by kernel_rfl, by kernel_rfl⟩ rfl rfl rfl (by kernel_rfl) (by kernel_rfl) (by kernel_rfl) (fun K hK => ?_) (fun hA2 K hK => ?_)
     ·have HK := UC hK
      clear hK
      refine appM_wp (.tmp 16) (.tmp 17) 28 28 5 rfl Tryz.underlying28 VJ W0.heap.size v27 _ (G k ++ ws) [32] rfl rfl (UB R27) (rd_bytes (UB S27_3).reads (by first | omega | (simp only [List.length_cons, List.length_nil]; omega) | (simp only [List.length_append]; omega) | (simp only [List.length_append, List.length_cons, List.length_nil]; omega))) (by first | omega | (simp only [List.length_cons, List.length_nil]; omega) | (simp only [List.length_append]; omega) | (simp only [List.length_append, List.length_cons, List.length_nil]; omega)) bb27.size ?_
      intro v28 w28 o28 g28 h28
      have bb28 : Below W0.heap.size W0 w28 := bb27.grown g28 bb27.size (fun q hq => ((UB R27).lt q hq).1)
      have R28 := UC o28
      clear o28 g28 h28
      refine (UB HK).out _ _ (keepC_yes (UB HRG _ bb28) VL) ?_
      clear HK K
      go_simp
      repeat ((refine lookD ?_ (UB hA) rfl rfl rfl (by rfl) (fun _ _ _ h => h) ?_ ?_; rotate_left; · (intro w; go_simp <;> with_reducible rfl)); go_simp)
      refine forkD [0, 1, 5, 6, 7, 8, 3, 2, 4, 11, 9, 10, 12, 13] (UB hA) rfl rfl ⟨by kernel_rfl, by kernel_rfl, by kernel_rfl, by kernel_rfl⟩ rfl rfl rfl (by kernel_rfl) (by kernel_rfl) (by kernel_rfl) (fun K hK => ?_) (fun hA2 K hK => ?_)
      ·have HK := UC hK
       clear hK
       go_simp
       refine (UB PL _ (UB HU _ bb28)).mono ?_
       rintro e w29 ⟨v29, rfl, o, b29⟩
       have o29 := UC o
       clear o
       have R29 := UC ((UB R28).below b29)
       have bb29 := UG bb28 b29
       refine (UB HK).out _ _ (VB (by kernel_rfl) VL) ?_
       clear HK K
       go_simp
       repeat ((refine lookD ?_ (UB hA) rfl rfl rfl (by rfl) (fun _ _ _ h => h) ?_ ?_; rotate_left; · (intro w; go_simp <;> with_reducible rfl)); go_simp)
       refine forkD [0, 1, 5, 6, 7, 8, 3, 2, 4, 9, 11, 10, 12, 13] (UB hA) rfl rfl ⟨by kernel_rfl, by kernel_rfl, by kernel_rfl, by kernel_rfl⟩ rfl rfl rfl (by kernel_rfl) (by kernel_rfl) (by kernel_rfl) (fun K hK => ?_) (fun hA2 K hK => ?_)
       ·have HK := UC hK
        clear hK
        refine appM_wp (.tmp 18) (.tmp 23) 28 28 5 rfl Tryz.underlying28 VJ W0.heap.size v28 _ (G k ++ ws ++ [32]) T rfl rfl (UB R29) (rd_bytes (UB o29).reads (by first | omega | (simp only [List.length_cons, List.length_nil]; omega) | (simp only [List.length_append]; omega) | (simp only [List.length_append, List.length_cons, List.length_nil]; omega))) (by first | omega | (simp only [List.length_cons, List.length_nil]; omega) | (simp only [List.length_append]; omega) | (simp only [List.length_append, List.length_cons, List.length_nil]; omega)) bb29.size ?_
        intro v30 w30 o30 g30 h30
        have bb30 : Below W0.heap.size W0 w30 := bb29.grown g30 bb29.size (fun q hq => ((UB R29).lt q hq).1)
        have R30 := UC o30
        clear o30 g30 h30
        refine (UB HK).out _ _ (VB (by kernel_rfl) VL) ?_
        clear HK K
        go_simp
        repeat ((refine lookD ?_ (UB hA) rfl rfl rfl (by rfl) (fun _ _ _ h => h) ?_ ?_; rotate_left; · (intro w; go_simp <;> with_reducible rfl)); go_simp)
        refine runD (UB hA) rfl rfl (by kernel_rfl) (by kernel_rfl) (fun K hK => ?_)
        have HK := UC hK
        clear hK
        have ba31 := UI (w := w30) (.cells #[.int .u8 10] 5)
        have NE31 : Hid (v30.ownBlock ≠ some w30.heap.size) := UC (fun c => by have := ((UB R30).lt _ c).2; omega)
        have R31 := UC ((UB R30).below ba31)
        have S31_11 : Hid (SepC 10 w30.heap.size 5 (w30.alloc (.cells #[.int .u8 10] 5))) := UC (heap_alloc_new w30 (.cells #[.int .u8 10] 5))
        have bb31 := UG bb30 ba31
        clear ba31
        go_simp
        refine (UB HK).out _ _ (keepC_yes (UB HRG _ bb31) VL) ?_
        clear HK K
        go_simp
        repeat ((refine lookD ?_ (UB hA) rfl rfl rfl (by rfl) (fun _ _ _ h => h) ?_ ?_; rotate_left; · (intro w; go_simp <;> with_reducible rfl)); go_simp)
        generalize w30.alloc (.cells #[.int .u8 10] 5) = w31 at *
        refine runD (UB hA) rfl rfl (by kernel_rfl) (by kernel_rfl) (fun K hK => ?_)
        have HK := UC hK
        clear hK
        refine appM_wp (.tmp 24) (.tmp 25) 28 28 5 rfl Tryz.underlying28 VJ W0.heap.size v30 _ (G k ++ ws ++ [32] ++ T) [10] rfl rfl (UB R31) (rd_bytes (UB S31_11).reads (by first | omega | (simp only [List.length_cons, List.length_nil]; omega) | (simp only [List.length_append]; omega) | (simp only [List.length_append, List.length_cons, List.length_nil]; omega))) (by first | omega | (simp only [List.length_cons, List.length_nil]; omega) | (simp only [List.length_append]; omega) | (simp only [List.length_append, List.length_cons, List.length_nil]; omega)) bb31.size ?_
        intro v32 w32 o32 g32 h32
        have bb32 : Below W0.heap.size W0 w32 := bb31.grown g32 bb31.size (fun q hq => ((UB R31).lt q hq).1)
        have R32 := UC o32
        clear o32 g32 h32
        refine (UB HK).out _ _ (VB (by kernel_rfl) VL) ?_
        clear HK K
        go_simp
        repeat ((refine lookD ?_ (UB hA) rfl rfl rfl (by rfl) (fun _ _ _ h => h) ?_ ?_; rotate_left; · (intro w; go_simp <;> with_reducible rfl)); go_simp)
        refine doneD (UB hA) rfl ?_
        clear hA
        go_wp2_with fail
        exact ⟨⟨k + 1, by omega, by go_num, (by rw [UB HST2]; simpa only [List.append_assoc] using UB R32), bb32⟩, by simp [intOf]; omega⟩
       ·replace hA := UC hA2
        clear hA2
        have HK := UC hK
        clear hK
        have ba33 := UI (w := w29) (.cells #[.int .u8 10] 5)
        have NE33 : Hid (v28.ownBlock ≠ some w29.heap.size) := UC (fun c => by have := ((UB R29).lt _ c).2; omega)
        have R33 := UC ((UB R29).below ba33)
        have P33_9 := UC ((UB o29).below ba33)
        have S33_11 : Hid (SepC 10 w29.heap.size 5 (w29.alloc (.cells #[.int .u8 10] 5))) := UC (heap_alloc_new w29 (.cells #[.int .u8 10] 5))
        have bb33 := UG bb29 ba33
        clear ba33
        go_simp
        refine (UB HK).out _ _ (keepC_yes (UB HRG _ bb33) VL) ?_
        clear HK K
        go_simp
        repeat ((refine lookD ?_ (UB hA) rfl rfl rfl (by rfl) (fun _ _ _ h => h) ?_ ?_; rotate_left; · (intro w; go_simp <;> with_reducible rfl)); go_simp)
        generalize w29.alloc (.cells #[.int .u8 10] 5) = w33 at *
        refine runD (UB hA) rfl rfl (by kernel_rfl) (by kernel_rfl) (fun K hK => ?_)
        have HK := UC hK
        clear hK
        refine appM_wp (.tmp 18) (.tmp 23) 28 28 5 rfl Tryz.underlying28 VJ W0.heap.size v28 _ (G k ++ ws ++ [32]) T rfl rfl (UB R33) (rd_bytes (UB P33_9).reads (by first | omega | (simp only [List.length_cons, List.length_nil]; omega) | (simp only [List.length_append]; omega) | (simp only [List.length_append, List.length_cons, List.length_nil]; omega))) (by first | omega | (simp only [List.length_cons, List.length_nil]; omega) | (simp only [List.length_append]; omega) | (simp only [List.length_append, List.length_cons, List.length_nil]; omega)) bb33.size ?_
        intro v34 w34 o34 g34 h34
        have bb34 : Below W0.heap.size W0 w34 := bb33.grown g34 bb33.size (fun q hq => ((UB R33).lt q hq).1)
        have NE34_11 := UC (apart_nextC (UB S33_11) (UB NE33) h34)
        have S34_11 := UC ((UB S33_11).grown g34 (UB NE33))
        have R34 := UC o34
        clear o34 g34 h34
        refine (UB HK).out _ _ (VB (by kernel_rfl) VL) ?_
        clear HK K
        go_simp
        repeat ((refine lookD ?_ (UB hA) rfl rfl rfl (by rfl) (fun _ _ _ h => h) ?_ ?_; rotate_left; · (intro w; go_simp <;> with_reducible rfl)); go_simp)
        refine runD (UB hA) rfl rfl (by kernel_rfl) (by kernel_rfl) (fun K hK => ?_)
        have HK := UC hK
        clear hK
        refine appM_wp (.tmp 24) (.tmp 25) 28 28 5 rfl Tryz.underlying28 VJ W0.heap.size v34 _ (G k ++ ws ++ [32] ++ T) [10] rfl rfl (UB R34) (rd_bytes (UB S34_11).reads (by first | omega | (simp only [List.length_cons, List.length_nil]; omega) | (simp only [List.length_append]; omega) | (simp only [List.length_append, List.length_cons, List.length_nil]; omega))) (by first | omega | (simp only [List.length_cons, List.length_nil]; omega) | (simp only [List.length_append]; omega) | (simp only [List.length_append, List.length_cons, List.length_nil]; omega)) bb34.size ?_
        intro v35 w35 o35 g35 h35
        have bb35 : Below W0.heap.size W0 w35 := bb34.grown g35 bb34.size (fun q hq => ((UB R34).lt q hq).1)
        have R35 := UC o35
        clear o35 g35 h35
        refine (UB HK).out _ _ (VB (by kernel_rfl) VL) ?_
        clear HK K
        go_simp
        repeat ((refine lookD ?_ (UB hA) rfl rfl rfl (by rfl) (fun _ _ _ h => h) ?_ ?_; rotate_left; · (intro w; go_simp <;> with_reducible rfl)); go_simp)
        refine doneD (UB hA) rfl ?_
        clear hA
        go_wp2_with fail
        exact ⟨⟨k + 1, by omega, by go_num, (by rw [UB HST2]; simpa only [List.append_assoc] using UB R35), bb35⟩, by simp [intOf]; omega⟩
      ·replace hA := UC hA2
       clear hA2
       have HK := UC hK
       clear hK
       have ba36 := UI (w := w28) (.cells #[.int .u8 10] 5)
       have NE36 : Hid (v28.ownBlock ≠ some w28.heap.size) := UC (fun c => by have := ((UB R28).lt _ c).2; omega)
       have R36 := UC ((UB R28).below ba36)
       have S36_11 : Hid (SepC 10 w28.heap.size 5 (w28.alloc (.cells #[.int .u8 10] 5))) := UC (heap_alloc_new w28 (.cells #[.int .u8 10] 5))
       have bb36 := UG bb28 ba36
       clear ba36
       go_simp
       refine (UB HK).out _ _ (keepC_yes (UB HRG _ bb36) VL) ?_
       clear HK K
       go_simp
       repeat ((refine lookD ?_ (UB hA) rfl rfl rfl (by rfl) (fun _ _ _ h => h) ?_ ?_; rotate_left; · (intro w; go_simp <;> with_reducible rfl)); go_simp)
       generalize w28.alloc (.cells #[.int .u8 10] 5) = w36 at *
       refine runD (UB hA) rfl rfl (by kernel_rfl) (by kernel_rfl) (fun K hK => ?_)
       have HK := UC hK
       clear hK
       go_simp
       refine (UB PL _ (UB HU _ bb36)).mono ?_
       rintro e w37 ⟨v37, rfl, o, b37⟩
       have o37 := UC o
       clear o
       have R37 := UC ((UB R36).below b37)
       have S37_11 := UC ((UB S36_11).below b37)
       have bb37 := UG bb36 b37
       refine (UB HK).out _ _ (VB (by kernel_rfl) VL) ?_
       clear HK K
       go_simp
       repeat ((refine lookD ?_ (UB hA) rfl rfl rfl (by rfl) (fun _ _ _ h => h) ?_ ?_; rotate_left; · (intro w; go_simp <;> with_reducible rfl)); go_simp)
       refine runD (UB hA) rfl rfl (by kernel_rfl) (by kernel_rfl) (fun K hK => ?_)
       have HK := UC hK
       clear hK
       refine appM_wp (.tmp 18) (.tmp 23) 28 28 5 rfl Tryz.underlying28 VJ W0.heap.size v28 _ (G k ++ ws ++ [32]) T rfl rfl (UB R37) (rd_bytes (UB o37).reads (by first | omega | (simp only [List.length_cons, List.length_nil]; omega) | (simp only [List.length_append]; omega) | (simp only [List.length_append, List.length_cons, List.length_nil]; omega))) (by first | omega | (simp only [List.length_cons, List.length_nil]; omega) | (simp only [List.length_append]; omega) | (simp only [List.length_append, List.length_cons, List.length_nil]; omega)) bb37.size ?_
       intro v38 w38 o38 g38 h38
       have bb38 : Below W0.heap.size W0 w38 := bb37.grown g38 bb37.size (fun q hq => ((UB R37).lt q hq).1)
       have NE38_11 := UC (apart_nextC (UB S37_11) (UB NE36) h38)
       have S38_11 := UC ((UB S37_11).grown g38 (UB NE36))
       have R38 := UC o38
       clear o38 g38 h38
       refine (UB HK).out _ _ (VB (by kernel_rfl) VL) ?_
       clear HK K
       go_simp
       repeat ((refine lookD ?_ (UB hA) rfl rfl rfl (by rfl) (fun _ _ _ h => h) ?_ ?_; rotate_left; · (intro w; go_simp <;> with_reducible rfl)); go_simp)
       refine runD (UB hA) rfl rfl (by kernel_rfl) (by kernel_rfl) (fun K hK => ?_)
       have HK := UC hK
       clear hK
       refine appM_wp (.tmp 24) (.tmp 25) 28 28 5 rfl Tryz.underlying28 VJ W0.heap.size v38 _ (G k ++ ws ++ [32] ++ T) [10] rfl rfl (UB R38) (rd_bytes (UB S38_11).reads (by first | omega | (simp only [List.length_cons, List.length_nil]; omega) | (simp only [List.length_append]; omega) | (simp only [List.length_append, List.length_cons, List.length_nil]; omega))) (by first | omega | (simp only [List.length_cons, List.length_nil]; omega) | (simp only [List.length_append]; omega) | (simp only [List.length_append, List.length_cons, List.length_nil]; omega)) bb38.size ?_
       intro v39 w39 o39 g39 h39
       have bb39 : Below W0.heap.size W0 w39 := bb38.grown g39 bb38.size (fun q hq => ((UB R38).lt q hq).1)
       have R39 := UC o39
       clear o39 g39 h39
       refine (UB HK).out _ _ (VB (by kernel_rfl) VL) ?_
       clear HK K
       go_simp
       repeat ((refine lookD ?_ (UB hA) rfl rfl rfl (by rfl) (fun _ _ _ h => h) ?_ ?_; rotate_left; · (intro w; go_simp <;> with_reducible rfl)); go_simp)
       refine doneD (UB hA) rfl ?_
       clear hA
       go_wp2_with fail
       exact ⟨⟨k + 1, by omega, by go_num, (by rw [UB HST2]; simpa only [List.append_assoc] using UB R39), bb39⟩, by simp [intOf]; omega⟩
     ·replace hA := UC hA2
      clear hA2
      have HK := UC hK
      clear hK
      have ba40 := UI (w := w27) (.cells #[.int .u8 10] 5)
      have NE40 : Hid (v27.ownBlock ≠ some w27.heap.size) := UC (fun c => by have := ((UB R27).lt _ c).2; omega)
      have R40 := UC ((UB R27).below ba40)
      have S40_3 := UC ((UB S27_3).below ba40)
      have S40_11 : Hid (SepC 10 w27.heap.size 5 (w27.alloc (.cells #[.int .u8 10] 5))) := UC (heap_alloc_new w27 (.cells #[.int .u8 10] 5))
      have bb40 := UG bb27 ba40
      clear ba40
      go_simp
      refine (UB HK).out _ _ (keepC_yes (UB HRG _ bb40) VL) ?_
      clear HK K
      go_simp
      repeat ((refine lookD ?_ (UB hA) rfl rfl rfl (by rfl) (fun _ _ _ h => h) ?_ ?_; rotate_left; · (intro w; go_simp <;> with_reducible rfl)); go_simp)
      generalize w27.alloc (.cells #[.int .u8 10] 5) = w40 at *
      refine runD (UB hA) rfl rfl (by kernel_rfl) (by kernel_rfl) (fun K hK => ?_)
      have HK := UC hK
      clear hK
      refine appM_wp (.tmp 16) (.tmp 17) 28 28 5 rfl Tryz.underlying28 VJ W0.heap.size v27 _ (G k ++ ws) [32] rfl rfl (UB R40) (rd_bytes (UB S40_3).reads (by first | omega | (simp only [List.length_cons, List.length_nil]; omega) | (simp only [List.length_append]; omega) | (simp only [List.length_append, List.length_cons, List.length_nil]; omega))) (by first | omega | (simp only [List.length_cons, List.length_nil]; omega) | (simp only [List.length_append]; omega) | (simp only [List.length_append, List.length_cons, List.length_nil]; omega)) bb40.size ?_
      intro v41 w41 o41 g41 h41
      have bb41 : Below W0.heap.size W0 w41 := bb40.grown g41 bb40.size (fun q hq => ((UB R40).lt q hq).1)
      have NE41_11 := UC (apart_nextC (UB S40_11) (UB NE40) h41)
      have S41_11 := UC ((UB S40_11).grown g41 (UB NE40))
      have R41 := UC o41
      clear o41 g41 h41
      refine (UB HK).out _ _ (keepC_yes (UB HRG _ bb41) VL) ?_
      clear HK K
      go_simp
      repeat ((refine lookD ?_ (UB hA) rfl rfl rfl (by rfl) (fun _ _ _ h => h) ?_ ?_; rotate_left; · (intro w; go_simp <;> with_reducible rfl)); go_simp)
      refine runD (UB hA) rfl rfl (by kernel_rfl) (by kernel_rfl) (fun K hK => ?_)
      have HK := UC hK
      clear hK
      go_simp
      refine (UB PL _ (UB HU _ bb41)).mono ?_
      rintro e w42 ⟨v42, rfl, o, b42⟩
      have o42 := UC o
      clear o
      have R42 := UC ((UB R41).below b42)
      have S42_11 := UC ((UB S41_11).below b42)
      have bb42 := UG bb41 b42
      refine (UB HK).out _ _ (VB (by kernel_rfl) VL) ?_
      clear HK K
      go_simp
      repeat ((refine lookD ?_ (UB hA) rfl rfl rfl (by rfl) (fun _ _ _ h => h) ?_ ?_; rotate_left; · (intro w; go_simp <;> with_reducible rfl)); go_simp)
      refine runD (UB hA) rfl rfl (by kernel_rfl) (by kernel_rfl) (fun K hK => ?_)
      have HK := UC hK
      clear hK
      refine appM_wp (.tmp 18) (.tmp 23) 28 28 5 rfl Tryz.underlying28 VJ W0.heap.size v41 _ (G k ++ ws ++ [32]) T rfl rfl (UB R42) (rd_bytes (UB o42).reads (by first | omega | (simp only [List.length_cons, List.length_nil]; omega) | (simp only [List.length_append]; omega) | (simp only [List.length_append, List.length_cons, List.length_nil]; omega))) (by first | omega | (simp only [List.length_cons, List.length_nil]; omega) | (simp only [List.length_append]; omega) | (simp only [List.length_append, List.length_cons, List.length_nil]; omega)) bb42.size ?_
      intro v43 w43 o43 g43 h43
      have bb43 : Below W0.heap.size W0 w43 := bb42.grown g43 bb42.size (fun q hq => ((UB R42).lt q hq).1)
      have NE43_11 := UC (apart_nextC (UB S42_11) (UB NE41_11) h43)
      have S43_11 := UC ((UB S42_11).grown g43 (UB NE41_11))
      have R43 := UC o43
      clear o43 g43 h43
      refine (UB HK).out _ _ (VB (by kernel_rfl) VL) ?_
      clear HK K
      go_simp
      repeat ((refine lookD ?_ (UB hA) rfl rfl rfl (by rfl) (fun _ _ _ h => h) ?_ ?_; rotate_left; · (intro w; go_simp <;> with_reducible rfl)); go_simp)
      refine runD (UB hA) rfl rfl (by kernel_rfl) (by kernel_rfl) (fun K hK => ?_)
      have HK := UC hK
      clear hK
      refine appM_wp (.tmp 24) (.tmp 25) 28 28 5 rfl Tryz.underlying28 VJ W0.heap.size v43 _ (G k ++ ws ++ [32] ++ T) [10] rfl rfl (UB R43) (rd_bytes (UB S43_11).reads (by first | omega | (simp only [List.length_cons, List.length_nil]; omega) | (simp only [List.length_append]; omega) | (simp only [List.length_append, List.length_cons, List.length_nil]; omega))) (by first | omega | (simp only [List.length_cons, List.length_nil]; omega) | (simp only [List.length_append]; omega) | (simp only [List.length_append, List.length_cons, List.length_nil]; omega)) bb43.size ?_
      intro v44 w44 o44 g44 h44
      have bb44 : Below W0.heap.size W0 w44 := bb43.grown g44 bb43.size (fun q hq => ((UB R43).lt q hq).1)
      have R44 := UC o44
      clear o44 g44 h44
      refine (UB HK).out _ _ (VB (by kernel_rfl) VL) ?_
      clear HK K
      go_simp
      repeat ((refine lookD ?_ (UB hA) rfl rfl rfl (by rfl) (fun _ _ _ h => h) ?_ ?_; rotate_left; · (intro w; go_simp <;> with_reducible rfl)); go_simp)
      refine doneD (UB hA) rfl ?_
      clear hA
      go_wp2_with fail
      exact ⟨⟨k + 1, by omega, by go_num, (by rw [UB HST2]; simpa only [List.append_assoc] using UB R44), bb44⟩, by simp [intOf]; omega⟩
    ·replace hA := UC hA2
     clear hA2
     have HK := UC hK
     clear hK
     have ba45 := UI (w := w26) (.cells #[.int .u8 10] 5)
     have NE45 : Hid (u0.ownBlock ≠ some w26.heap.size) := UC (fun c => by have := ((UB R26).lt _ c).2; omega)
     have R45 := UC ((UB R26).below ba45)
     have S45_3 := UC ((UB S26_3).below ba45)
     have S45_11 : Hid (SepC 10 w26.heap.size 5 (w26.alloc (.cells #[.int .u8 10] 5))) := UC (heap_alloc_new w26 (.cells #[.int .u8 10] 5))
     have bb45 := UG bb26 ba45
     clear ba45
     go_simp
     refine (UB HK).out _ _ (keepC_yes (UB HRG _ bb45) VL) ?_
     clear HK K
     go_simp
     repeat ((refine lookD ?_ (UB hA) rfl rfl rfl (by rfl) (fun _ _ _ h => h) ?_ ?_; rotate_left; · (intro w; go_simp <;> with_reducible rfl)); go_simp)
     generalize w26.alloc (.cells #[.int .u8 10] 5) = w45 at *
     refine runD (UB hA) rfl rfl (by kernel_rfl) (by kernel_rfl) (fun K hK => ?_)
     have HK := UC hK
     clear hK
     refine appM_wp (.tmp 14) (.tmp 15) 28 9 5 rfl Tryz.underlying28 VJ W0.heap.size u0 _ (G k) ws rfl rfl (UB R45) (.inr ⟨Tryz.underlying9, rfl, (UB HW8)⟩) (by first | omega | (simp only [List.length_cons, List.length_nil]; omega) | (simp only [List.length_append]; omega) | (simp only [List.length_append, List.length_cons, List.length_nil]; omega)) bb45.size ?_
     intro v46 w46 o46 g46 h46
     have bb46 : Below W0.heap.size W0 w46 := bb45.grown g46 bb45.size (fun q hq => ((UB R45).lt q hq).1)
     have NE46_3 := UC (apart_next (UB S45_3) (UB NE26) h46)
     have S46_3 := UC ((UB S45_3).grown g46 (UB NE26))
     have NE46_11 := UC (apart_nextC (UB S45_11) (UB NE45) h46)
     have S46_11 := UC ((UB S45_11).grown g46 (UB NE45))
     have R46 := UC o46
     clear o46 g46 h46
     refine (UB HK).out _ _ (keepC_yes (UB HRG _ bb46) VL) ?_
     clear HK K
     go_simp
     repeat ((refine lookD ?_ (UB hA) rfl rfl rfl (by rfl) (fun _ _ _ h => h) ?_ ?_; rotate_left; · (intro w; go_simp <;> with_reducible rfl)); go_simp)
     refine runD (UB hA) rfl rfl (by kernel_rfl) (by kernel_rfl) (fun K hK => ?_)
     have HK := UC hK
     clear hK
     refine appM_wp (.tmp 16) (.tmp 17) 28 28 5 rfl Tryz.underlying28 VJ W0.heap.size v46 _ (G k ++ ws) [32] rfl rfl (UB R46) (rd_bytes (UB S46_3).reads (by first | omega | (simp only [List.length_cons, List.length_nil]; omega) | (simp only [List.length_append]; omega) | (simp only [List.length_append, List.length_cons, List.length_nil]; omega))) (by first | omega | (simp only [List.length_cons, List.length_nil]; omega) | (simp only [List.length_append]; omega) | (simp only [List.length_append, List.length_cons, List.length_nil]; omega)) bb46.size ?_
     intro v47 w47 o47 g47 h47
     have bb47 : Below W0.heap.size W0 w47 := bb46.grown g47 bb46.size (fun q hq => ((UB R46).lt q hq).1)
     have NE47_11 := UC (apart_nextC (UB S46_11) (UB NE46_11) h47)
     have S47_11 := UC ((UB S46_11).grown g47 (UB NE46_11))
     have R47 := UC o47
     clear o47 g47 h47
     refine (UB HK).out _ _ (keepC_yes (UB HRG _ bb47) VL) ?_
     clear HK K
     go_simp
     repeat ((refine lookD ?_ (UB hA) rfl rfl rfl (by rfl) (fun _ _ _ h => h) ?_ ?_; rotate_left; · (intro w; go_simp <;> with_reducible rfl)); go_simp)
     refine runD (UB hA) rfl rfl (by kernel_rfl) (by kernel_rfl) (fun K hK => ?_)
     have HK := UC hK
     clear hK
     go_simp
     refine (UB PL _ (UB HU _ bb47)).mono ?_
     rintro e w48 ⟨v48, rfl, o, b48⟩
     have o48 := UC o
     clear o
     have R48 := UC ((UB R47).below b48)
     have S48_11 := UC ((UB S47_11).below b48)
     have bb48 := UG bb47 b48
     refine (UB HK).out _ _ (VB (by kernel_rfl) VL) ?_
     clear HK K
     go_simp
     repeat ((refine lookD ?_ (UB hA) rfl rfl rfl (by rfl) (fun _ _ _ h => h) ?_ ?_; rotate_left; · (intro w; go_simp <;> with_reducible rfl)); go_simp)
     refine runD (UB hA) rfl rfl (by kernel_rfl) (by kernel_rfl) (fun K hK => ?_)
     have HK := UC hK
     clear hK
     refine appM_wp (.tmp 18) (.tmp 23) 28 28 5 rfl Tryz.underlying28 VJ W0.heap.size v47 _ (G k ++ ws ++ [32]) T rfl rfl (UB R48) (rd_bytes (UB o48).reads (by first | omega | (simp only [List.length_cons, List.length_nil]; omega) | (simp only [List.length_append]; omega) | (simp only [List.length_append, List.length_cons, List.length_nil]; omega))) (by first | omega | (simp only [List.length_cons, List.length_nil]; omega) | (simp only [List.length_append]; omega) | (simp only [List.length_append, List.length_cons, List.length_nil]; omega)) bb48.size ?_
     intro v49 w49 o49 g49 h49
     have bb49 : Below W0.heap.size W0 w49 := bb48.grown g49 bb48.size (fun q hq => ((UB R48).lt q hq).1)
     have NE49_11 := UC (apart_nextC (UB S48_11) (UB NE47_11) h49)
     have S49_11 := UC ((UB S48_11).grown g49 (UB NE47_11))
     have R49 := UC o49
     clear o49 g49 h49
     refine (UB HK).out _ _ (VB (by kernel_rfl) VL) ?_
     clear HK K
     go_simp
     repeat ((refine lookD ?_ (UB hA) rfl rfl rfl (by rfl) (fun _ _ _ h => h) ?_ ?_; rotate_left; · (intro w; go_simp <;> with_reducible rfl)); go_simp)
     refine runD (UB hA) rfl rfl (by kernel_rfl) (by kernel_rfl) (fun K hK => ?_)
     have HK := UC hK
     clear hK
     refine appM_wp (.tmp 24) (.tmp 25) 28 28 5 rfl Tryz.underlying28 VJ W0.heap.size v49 _ (G k ++ ws ++ [32] ++ T) [10] rfl rfl (UB R49) (rd_bytes (UB S49_11).reads (by first | omega | (simp only [List.length_cons, List.length_nil]; omega) | (simp only [List.length_append]; omega) | (simp only [List.length_append, List.length_cons, List.length_nil]; omega))) (by first | omega | (simp only [List.length_cons, List.length_nil]; omega) | (simp only [List.length_append]; omega) | (simp only [List.length_append, List.length_cons, List.length_nil]; omega)) bb49.size ?_
     intro v50 w50 o50 g50 h50
     have bb50 : Below W0.heap.size W0 w50 := bb49.grown g50 bb49.size (fun q hq => ((UB R49).lt q hq).1)
     have R50 := UC o50
     clear o50 g50 h50
     refine (UB HK).out _ _ (VB (by kernel_rfl) VL) ?_
     clear HK K
     go_simp
     repeat ((refine lookD ?_ (UB hA) rfl rfl rfl (by rfl) (fun _ _ _ h => h) ?_ ?_; rotate_left; · (intro w; go_simp <;> with_reducible rfl)); go_simp)
     refine doneD (UB hA) rfl ?_
     clear hA
     go_wp2_with fail
     exact ⟨⟨k + 1, by omega, by go_num, (by rw [UB HST2]; simpa only [List.append_assoc] using UB R50), bb50⟩, by simp [intOf]; omega⟩
   ·replace hA := UC hA2
    clear hA2
    have HK := UC hK
    clear hK
    have ba51 := UI (w := w0) (.cells #[.int .u8 10] 5)
    have NE51 : Hid (u0.ownBlock ≠ some w0.heap.size) := UC (fun c => by have := ((UB RD).lt _ c).2; omega)
    have R51 := UC ((UB RD).below ba51)
    have S51_11 : Hid (SepC 10 w0.heap.size 5 (w0.alloc (.cells #[.int .u8 10] 5))) := UC (heap_alloc_new w0 (.cells #[.int .u8 10] 5))
    have bb51 := UG bb0 ba51
    clear ba51
    go_simp
    refine (UB HK).out _ _ (keepC_yes (UB HRG _ bb51) VL) ?_
    clear HK K
    go_simp
    repeat ((refine lookD ?_ (UB hA) rfl rfl rfl (by rfl) (fun _ _ _ h => h) ?_ ?_; rotate_left; · (intro w; go_simp <;> with_reducible rfl)); go_simp)
    generalize w0.alloc (.cells #[.int .u8 10] 5) = w51 at *
    refine forkD [0, 1, 5, 6, 7, 8, 11, 3, 2, 4, 9, 10, 12, 13] (UB hA) rfl rfl ⟨by kernel_rfl, by kernel_rfl, by kernel_rfl, by kernel_rfl⟩ rfl rfl rfl (by kernel_rfl) (by kernel_rfl) (by kernel_rfl) (fun K hK => ?_) (fun hA2 K hK => ?_)
    ·have HK := UC hK
     clear hK
     refine appM_wp (.tmp 14) (.tmp 15) 28 9 5 rfl Tryz.underlying28 VJ W0.heap.size u0 _ (G k) ws rfl rfl (UB R51) (.inr ⟨Tryz.underlying9, rfl, (UB HW8)⟩) (by first | omega | (simp only [List.length_cons, List.length_nil]; omega) | (simp only [List.length_append]; omega) | (simp only [List.length_append, List.length_cons, List.length_nil]; omega)) bb51.size ?_
     intro v52 w52 o52 g52 h52
     have bb52 : Below W0.heap.size W0 w52 := bb51.grown g52 bb51.size (fun q hq => ((UB R51).lt q hq).1)
     have NE52_11 := UC (apart_nextC (UB S51_11) (UB NE51) h52)
     have S52_11 := UC ((UB S51_11).grown g52 (UB NE51))
     have R52 := UC o52
     clear o52 g52 h52
     refine (UB HK).out _ _ (keepC_yes (UB HRG _ bb52) VL) ?_
     clear HK K
     go_simp
     repeat ((refine lookD ?_ (UB hA) rfl rfl rfl (by rfl) (fun _ _ _ h => h) ?_ ?_; rotate_left; · (intro w; go_simp <;> with_reducible rfl)); go_simp)
     refine runD (UB hA) rfl rfl (by kernel_rfl) (by kernel_rfl) (fun K hK => ?_)
     have HK := UC hK
     clear hK
     have ba53 := UI (w := w52) (.cells #[.int .u8 32] 5)
     have NE53 : Hid (v52.ownBlock ≠ some w52.heap.size) := UC (fun c => by have := ((UB R52).lt _ c).2; omega)
     have R53 := UC ((UB R52).below ba53)
     have S53_11 := UC ((UB S52_11).below ba53)
     have S53_3 : Hid (Sep w52.heap.size 5 (w52.alloc (.cells #[.int .u8 32] 5))) := UC (heap_alloc_new w52 (.cells #[.int .u8 32] 5))
     have bb53 := UG bb52 ba53
     clear ba53
     go_simp
     refine (UB HK).out _ _ (keepC_yes (UB HRG _ bb53) VL) ?_
     clear HK K
     go_simp
     repeat ((refine lookD ?_ (UB hA) rfl rfl rfl (by rfl) (fun _ _ _ h => h) ?_ ?_; rotate_left; · (intro w; go_simp <;> with_reducible rfl)); go_simp)
     generalize w52.alloc (.cells #[.int .u8 32] 5) = w53 at *
     refine runD (UB hA) rfl rfl (by kernel_rfl) (by kernel_rfl) (fun K hK => ?_)
     have HK := UC hK
     clear hK
     refine appM_wp (.tmp 16) (.tmp 17) 28 28 5 rfl Tryz.underlying28 VJ W0.heap.size v52 _ (G k ++ ws) [32] rfl rfl (UB R53) (rd_bytes (UB S53_3).reads (by first | omega | (simp only [List.length_cons, List.length_nil]; omega) | (simp only [List.length_append]; omega) | (simp only [List.length_append, List.length_cons, List.length_nil]; omega))) (by first | omega | (simp only [List.length_cons, List.length_nil]; omega) | (simp only [List.length_append]; omega) | (simp only [List.length_append, List.length_cons, List.length_nil]; omega)) bb53.size ?_
     intro v54 w54 o54 g54 h54
     have bb54 : Below W0.heap.size W0 w54 := bb53.grown g54 bb53.size (fun q hq => ((UB R53).lt q hq).1)
     have NE54_11 := UC (apart_nextC (UB S53_11) (UB NE52_11) h54)
     have S54_11 := UC ((UB S53_11).grown g54 (UB NE52_11))
     have R54 := UC o54
     clear o54 g54 h54
     refine (UB HK).out _ _ (keepC_yes (UB HRG _ bb54) VL) ?_
     clear HK K
     go_simp
     repeat ((refine lookD ?_ (UB hA) rfl rfl rfl (by rfl) (fun _ _ _ h => h) ?_ ?_; rotate_left; · (intro w; go_simp <;> with_reducible rfl)); go_simp)
     refine runD (UB hA) rfl rfl (by kernel_rfl) (by kernel_rfl) (fun K hK => ?_)
     have HK := UC hK
     clear hK
     go_simp
     refine (UB PL _ (UB HU _ bb54)).mono ?_
     rintro e w55 ⟨v55, rfl, o, b55⟩
     have o55 := UC o
     clear o
     have R55 := UC ((UB R54).below b55)
     have S55_11 := UC ((UB S54_11).below b55)
     have bb55 := UG bb54 b55
     refine (UB HK).out _ _ (VB (by kernel_rfl) VL) ?_
     clear HK K
     go_simp
     repeat ((refine lookD ?_ (UB hA) rfl rfl rfl (by rfl) (fun _ _ _ h => h) ?_ ?_; rotate_left; · (intro w; go_simp <;> with_reducible rfl)); go_simp)
     refine runD (UB hA) rfl rfl (by kernel_rfl) (by kernel_rfl) (fun K hK => ?_)
     have HK := UC hK
     clear hK
     refine appM_wp (.tmp 18) (.tmp 23) 28 28 5 rfl Tryz.underlying28 VJ W0.heap.size v54 _ (G k ++ ws ++ [32]) T rfl rfl (UB R55) (rd_bytes (UB o55).reads (by first | omega | (simp only [List.length_cons, List.length_nil]; omega) | (simp only [List.length_append]; omega) | (simp only [List.length_append, List.length_cons, List.length_nil]; omega))) (by first | omega | (simp only [List.length_cons, List.length_nil]; omega) | (simp only [List.length_append]; omega) | (simp only [List.length_append, List.length_cons, List.length_nil]; omega)) bb55.size ?_
     intro v56 w56 o56 g56 h56
     have bb56 : Below W0.heap.size W0 w56 := bb55.grown g56 bb55.size (fun q hq => ((UB R55).lt q hq).1)
     have NE56_11 := UC (apart_nextC (UB S55_11) (UB NE54_11) h56)
     have S56_11 := UC ((UB S55_11).grown g56 (UB NE54_11))
     have R56 := UC o56
     clear o56 g56 h56
     refine (UB HK).out _ _ (VB (by kernel_rfl) VL) ?_
     clear HK K
     go_simp
     repeat ((refine lookD ?_ (UB hA) rfl rfl rfl (by rfl) (fun _ _ _ h => h) ?_ ?_; rotate_left; · (intro w; go_simp <;> with_reducible rfl)); go_simp)
     refine runD (UB hA) rfl rfl (by kernel_rfl) (by kernel_rfl) (fun K hK => ?_)
     have HK := UC hK
     clear hK
     refine appM_wp (.tmp 24) (.tmp 25) 28 28 5 rfl Tryz.underlying28 VJ W0.heap.size v56 _ (G k ++ ws ++ [32] ++ T) [10] rfl rfl (UB R56) (rd_bytes (UB S56_11).reads (by first | omega | (simp only [List.length_cons, List.length_nil]; omega) | (simp only [List.length_append]; omega) | (simp only [List.length_append, List.length_cons, List.length_nil]; omega))) (by first | omega | (simp only [List.length_cons, List.length_nil]; omega) | (simp only [List.length_append]; omega) | (simp only [List.length_append, List.length_cons, List.length_nil]; omega)) bb56.size ?_
     intro v57 w57 o57 g57 h57
     have bb57 : Below W0.heap.size W0 w57 := bb56.grown g57 bb56.size (fun q hq => ((UB R56).lt q hq).1)
     have R57 := UC o57
     clear o57 g57 h57
     refine (UB HK).out _ _ (VB (by kernel_rfl) VL) ?_
     clear HK K
     go_simp
     repeat ((refine lookD ?_ (UB hA) rfl rfl rfl (by rfl) (fun _ _ _ h => h) ?_ ?_; rotate_left; · (intro w; go_simp <;> with_reducible rfl)); go_simp)
     refine doneD (UB hA) rfl ?_
     clear hA
     go_wp2_with fail
     exact ⟨⟨k + 1, by omega, by go_num, (by rw [UB HST2]; simpa only [List.append_assoc] using UB R57), bb57⟩, by simp [intOf]; omega⟩
    ·replace hA := UC hA2
     clear hA2
     have HK := UC hK
     clear hK
     have ba58 := UI (w := w51) (.cells #[.int .u8 32] 5)
     have NE58 : Hid (u0.ownBlock ≠ some w51.heap.size) := UC (fun c => by have := ((UB R51).lt _ c).2; omega)
     have R58 := UC ((UB R51).below ba58)
     have S58_11 := UC ((UB S51_11).below ba58)
     have S58_3 : Hid (Sep w51.heap.size 5 (w51.alloc (.cells #[.int .u8 32] 5))) := UC (heap_alloc_new w51 (.cells #[.int .u8 32] 5))
     have bb58 := UG bb51 ba58
     clear ba58
     go_simp
     refine (UB HK).out _ _ (keepC_yes (UB HRG _ bb58) VL) ?_
     clear HK K
     go_simp
     repeat ((refine lookD ?_ (UB hA) rfl rfl rfl (by rfl) (fun _ _ _ h => h) ?_ ?_; rotate_left; · (intro w; go_simp <;> with_reducible rfl)); go_simp)
     generalize w51.alloc (.cells #[.int .u8 32] 5) = w58 at *
     refine runD (UB hA) rfl rfl (by kernel_rfl) (by kernel_rfl) (fun K hK => ?_)
     have HK := UC hK
     clear hK
     refine appM_wp (.tmp 14) (.tmp 15) 28 9 5 rfl Tryz.underlying28 VJ W0.heap.size u0 _ (G k) ws rfl rfl (UB R58) (.inr ⟨Tryz.underlying9, rfl, (UB HW8)⟩) (by first | omega | (simp only [List.length_cons, List.length_nil]; omega) | (simp only [List.length_append]; omega) | (simp only [List.length_append, List.length_cons, List.length_nil]; omega)) bb58.size ?_
     intro v59 w59 o59 g59 h59
     have bb59 : Below W0.heap.size W0 w59 := bb58.grown g59 bb58.size (fun q hq => ((UB R58).lt q hq).1)
     have NE59_11 := UC (apart_nextC (UB S58_11) (UB NE51) h59)
     have S59_11 := UC ((UB S58_11).grown g59 (UB NE51))
     have NE59_3 := UC (apart_next (UB S58_3) (UB NE58) h59)
     have S59_3 := UC ((UB S58_3).grown g59 (UB NE58))
     have R59 := UC o59
     clear o59 g59 h59
     refine (UB HK).out _ _ (keepC_yes (UB HRG _ bb59) VL) ?_
     clear HK K
     go_simp
     repeat ((refine lookD ?_ (UB hA) rfl rfl rfl (by rfl) (fun _ _ _ h => h) ?_ ?_; rotate_left; · (intro w; go_simp <;> with_reducible rfl)); go_simp)
     refine runD (UB hA) rfl rfl (by kernel_rfl) (by kernel_rfl) (fun K hK => ?_)
     have HK := UC hK
     clear hK
     refine appM_wp (.tmp 16) (.tmp 17) 28 28 5 rfl Tryz.underlying28 VJ W0.heap.size v59 _ (G k ++ ws) [32] rfl rfl (UB R59) (rd_bytes (UB S59_3).reads (by first | omega | (simp only [List.length_cons, List.length_nil]; omega) | (simp only [List.length_append]; omega) | (simp only [List.length_append, List.length_cons, List.length_nil]; omega))) (by first | omega | (simp only [List.length_cons, List.length_nil]; omega) | (simp only [List.length_append]; omega) | (simp only [List.length_append, List.length_cons, List.length_nil]; omega)) bb59.size ?_
     intro v60 w60 o60 g60 h60
     have bb60 : Below W0.heap.size W0 w60 := bb59.grown g60 bb59.size (fun q hq => ((UB R59).lt q hq).1)
     have NE60_11 := UC (apart_nextC (UB S59_11) (UB NE59_11) h60)
     have S60_11 := UC ((UB S59_11).grown g60 (UB NE59_11))
     have R60 := UC o60
     clear o60 g60 h60
     refine (UB HK).out _ _ (keepC_yes (UB HRG _ bb60) VL) ?_
     clear HK K
     go_simp
     repeat ((refine lookD ?_ (UB hA) rfl rfl rfl (by rfl) (fun _ _ _ h => h) ?_ ?_; rotate_left; · (intro w; go_simp <;> with_reducible rfl)); go_simp)
     refine runD (UB hA) rfl rfl (by kernel_rfl) (by kernel_rfl) (fun K hK => ?_)
     have HK := UC hK
     clear hK
     go_simp
     refine (UB PL _ (UB HU _ bb60)).mono ?_
     rintro e w61 ⟨v61, rfl, o, b61⟩
     have o61 := UC o
     clear o
     have R61 := UC ((UB R60).below b61)
     have S61_11 := UC ((UB S60_11).below b61)
     have bb61 := UG bb60 b61
     refine (UB HK).out _ _ (VB (by kernel_rfl) VL) ?_
     clear HK K
     go_simp
     repeat ((refine lookD ?_ (UB hA) rfl rfl rfl (by rfl) (fun _ _ _ h => h) ?_ ?_; rotate_left; · (intro w; go_simp <;> with_reducible rfl)); go_simp)
     refine runD (UB hA) rfl rfl (by kernel_rfl) (by kernel_rfl) (fun K hK => ?_)
     have HK := UC hK
     clear hK
     refine appM_wp (.tmp 18) (.tmp 23) 28 28 5 rfl Tryz.underlying28 VJ W0.heap.size v60 _ (G k ++ ws ++ [32]) T rfl rfl (UB R61) (rd_bytes (UB o61).reads (by first | omega | (simp only [List.length_cons, List.length_nil]; omega) | (simp only [List.length_append]; omega) | (simp only [List.length_append, List.length_cons, List.length_nil]; omega))) (by first | omega | (simp only [List.length_cons, List.length_nil]; omega) | (simp only [List.length_append]; omega) | (simp only [List.length_append, List.length_cons, List.length_nil]; omega)) bb61.size ?_
     intro v62 w62 o62 g62 h62
     have bb62 : Below W0.heap.size W0 w62 := bb61.grown g62 bb61.size (fun q hq => ((UB R61).lt q hq).1)
     have NE62_11 := UC (apart_nextC (UB S61_11) (UB NE60_11) h62)
     have S62_11 := UC ((UB S61_11).grown g62 (UB NE60_11))
     have R62 := UC o62
     clear o62 g62 h62
     refine (UB HK).out _ _ (VB (by kernel_rfl) VL) ?_
     clear HK K
     go_simp
     repeat ((refine lookD ?_ (UB hA) rfl rfl rfl (by rfl) (fun _ _ _ h => h) ?_ ?_; rotate_left; · (intro w; go_simp <;> with_reducible rfl)); go_simp)
     refine runD (UB hA) rfl rfl (by kernel_rfl) (by kernel_rfl) (fun K hK => ?_)
     have HK := UC hK
     clear hK
     refine appM_wp (.tmp 24) (.tmp 25) 28 28 5 rfl Tryz.underlying28 VJ W0.heap.size v62 _ (G k ++ ws ++ [32] ++ T) [10] rfl rfl (UB R62) (rd_bytes (UB S62_11).reads (by first | omega | (simp only [List.length_cons, List.length_nil]; omega) | (simp only [List.length_append]; omega) | (simp only [List.length_append, List.length_cons, List.length_nil]; omega))) (by first | omega | (simp only [List.length_cons, List.length_nil]; omega) | (simp only [List.length_append]; omega) | (simp only [List.length_append, List.length_cons, List.length_nil]; omega)) bb62.size ?_
     intro v63 w63 o63 g63 h63
     have bb63 : Below W0.heap.size W0 w63 := bb62.grown g63 bb62.size (fun q hq => ((UB R62).lt q hq).1)
     have R63 := UC o63
     clear o63 g63 h63
     refine (UB HK).out _ _ (VB (by kernel_rfl) VL) ?_
     clear HK K
     go_simp
     repeat ((refine lookD ?_ (UB hA) rfl rfl rfl (by rfl) (fun _ _ _ h => h) ?_ ?_; rotate_left; · (intro w; go_simp <;> with_reducible rfl)); go_simp)
     refine doneD (UB hA) rfl ?_
     clear hA
     go_wp2_with fail
     exact ⟨⟨k + 1, by omega, by go_num, (by rw [UB HST2]; simpa only [List.append_assoc] using UB R63), bb63⟩, by simp [intOf]; omega⟩
  ·obtain rfl : k = m := by omega
   go_wp2_with fail
   go_ret
   exact ⟨_, rfl, ho, hb⟩
end Go.Proofs.YtfpenlobnnlnfaaGreatDoor
