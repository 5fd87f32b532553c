/-
  Contract of the specification's l7dhcid.
-/
import Derived.Test.YtfneahdnpmamkaaGreatFnOwnersG30
namespace Go.Proofs.YtfneahdnpmamkaaGreat
open Go.RowKit
set_option linter.unusedVariables false
set_option linter.unusedSimpArgs false

theorem Be {w : World} {b B : Nat} {e : TypeId} (h : w.heap[b]? = some (.cells #[.int .u8 0, .int .u8 1, .int .u8 1] e)) (hB : B ≤ b) : Own B e w (.slice (some ⟨b, 0, none⟩) 3 3) [0, 1, 1] :=
 ⟨rfl, .inr ⟨b, 3, _, rfl, hB, h, Nat.le_refl _, by unfold maxLen; omega, rfl, rfl⟩⟩

set_option maxHeartbeats 2000000 in
set_option maxRecDepth 100000 in
theorem Ls {vb v : Value} {l : List Int} {n : List (List Int)} {w : World} (hvb : Has w vb l) (hl : l.length ≤ 16) (h8 : Dd l) (h : HasL w v n) (hok : Ag n = true) :
  Calls Tryz.prog 13 #[vb, .agg #[v]] w fun e w' => ∃ v', e = .returned v' ∧ Own w.heap.size 5 w' v' ([0, 1, 1] ++ Ge (l ++ wire n)) ∧ Below w.heap.size w w' := by
 obtain ⟨a, cap, rfl, hcl, hm⟩ := h.form
 obtain ⟨ba, bc, rfl, _⟩ := hvb.form
 have b0 := UG (UI (w := w) (.cells #[.slice a n.length cap] 25)) UX
 have KK := UC (UE (UX (w := w.alloc (.cells #[.slice a n.length cap] 25))) (heap_alloc_new w (.cells #[.slice a n.length cap] 25)))
 have BB := UC b0
 have HH := UC h
 have HV := UC hvb
 have hw := Ex n hok
 have HWL := UC (show l.length + (wire n).length ≤ 1099511627776 by omega)
 have HLN := UC (show (l ++ wire n).length ≤ 4096 by rw [List.length_append]; omega)
 have HB8 := UC (Sh h8 hok)
 have HN6 := UC (Ai hok).1
 have HN15 := UC (show ∀ k, k < n.length → (n.getD k []).length ≤ 15 from fun k hk => (B6 ((Ai hok).2 k hk)).2)
 have HWS := UC (Ee n hok)
 clear h hvb hok h8 hw b0
 have ZB := (UB BB).size
 go_enter Tryz.func13, Tryz.ntmps13
 go_wp2_with fail
 refine Fi 10 (S := fun w' => w'.cell? ⟨w.heap.size, 0, none⟩ = some (.slice a n.length cap)) (by kernel_rfl) rfl (US (UB KK)) (fun hHeld => ?_)
 simp only [List.replicate]
 generalize (w.alloc (.cells #[.slice a n.length cap] 25)).drew = W0 at *
 refine tkI 2 ?_ rfl (by kernel_rfl) (by kernel_rfl) (fun _ _ _ h => h) ?_ hHeld ?_; rotate_left; (· (intro w hSw; (try dsimp only at hSw); go_simp <;> with_reducible rfl)); simp only [Act.put, List.setIfInBounds_toArray, List.set_cons_zero, List.set_cons_succ]
 refine tkI 4 ?_ rfl (by kernel_rfl) (by kernel_rfl) (fun _ _ _ h => h) ?_ hHeld ?_; rotate_left; (· (intro w hSw; (try dsimp only at hSw); go_simp <;> with_reducible rfl)); simp only [Act.put, List.setIfInBounds_toArray, List.set_cons_zero, List.set_cons_succ]
 refine wpAnyH_ready (rs := [0, 1]) (by kernel_rfl) (by simp) (AllReadyH.cons (UY rfl) (fun K hK => ?_) (AllReadyH.cons (UY rfl) (fun K hK => ?_) AllReadyH.nil))
 ·have HK := UC hK
  clear hK hHeld
  go_simp
  have ba := UI (w := W0) (.cells #[.int .u8 0, .int .u8 1, .int .u8 1] 5)
  replace KK := UC (UE ba (UB KK))
  replace BB := UC (UG (UB BB) ba)
  have K5 := UC (heap_alloc_new W0 (.cells #[.int .u8 0, .int .u8 1, .int .u8 1] 5))
  have Z5 := UC (show w.heap.size ≤ W0.heap.size from ZB)
  clear ba
  refine (UB HK).out _ _ (US (UB KK)) (fun hHeld => ?_)
  clear HK K
  simp only [Act.put, List.setIfInBounds_toArray, List.set_cons_zero, List.set_cons_succ]
  generalize W0.alloc (.cells #[.int .u8 0, .int .u8 1, .int .u8 1] 5) = W1 at *
  clear ZB
  have ZB := (UB BB).size
  have L5 := UC (VC (UB K5))
  refine wpAnyH_ready (rs := [1]) (by kernel_rfl) (by simp) (AllReadyH.cons (UY rfl) (fun K hK => ?_) AllReadyH.nil)
  have HK := UC hK
  clear hK hHeld
  go_simp
  have ba := UI (w := W1) (.cells #[] 5)
  replace KK := UC (UE ba (UB KK))
  replace BB := UC (UG (UB BB) ba)
  replace K5 := UC (UE ba (UB K5))
  have RO : Hid (Own w.heap.size 5 (W1.alloc (.cells #[] 5)) (.slice (some ⟨W1.heap.size, 0, none⟩) 0 0 : Value) []) := UC (B4 W1 w.heap.size 5 [] ZB (by simp))
  have N5 := UC (show ((.slice (some ⟨W1.heap.size, 0, none⟩) 0 0 : Value)).ownBlock ≠ some W0.heap.size from fun q => by simp [Value.ownBlock] at q; have := UB L5; omega)
  clear ba
  refine (UB HK).out _ _ (US (UB KK)) (fun hHeld => ?_)
  clear HK K
  simp only [Act.put, List.setIfInBounds_toArray, List.set_cons_zero, List.set_cons_succ]
  generalize W1.alloc (.cells #[] 5) = W2 at *
  clear ZB
  have ZB := (UB BB).size
  have RL := UC (fun q e => ((UB RO).lt q e).2)
  refine wpAnyH_ready (rs := [3]) (by kernel_rfl) (by simp) (AllReadyH.cons (UY rfl) (fun K hK => ?_) AllReadyH.nil)
  have HK := UC hK
  clear hK hHeld
  refine An rfl (.tmp 6) (.tmp 7) 22 5 rfl Tryz.underlying22 VJ w.heap.size (.slice (some ⟨W1.heap.size, 0, none⟩) 0 0 : Value) (.slice ba l.length bc) [] l rfl rfl (UB RO) ((UB HV).below (UB BB)).reads (by simp; omega) ZB ?_
  intro v66 W65 o2 g2 h2
  replace KK := UC (Aa g2 (UB KK) (Own.apart (UB RO) (UB KK) (by decide)))
  have zg := g2.size
  replace BB := UC ((UB BB).grown g2 ZB (fun k hk => ((UB RO).lt k hk).1))
  have L5b := VC (UB K5)
  replace K5 := UC (Aa g2 (UB K5) (UB N5))
  replace N5 := UC (show v66.ownBlock ≠ some W0.heap.size from fun q => by rcases h2 with h2 | h2; (· exact UB N5 (h2 ▸ q)); rw [h2] at q; simp at q; omega)
  clear L5b
  replace RO := UC o2
  replace RO : Hid (Own w.heap.size 5 W65 v66 l) := RO
  clear o2 g2 h2 zg
  refine (UB HK).out _ _ (US (UB KK)) (fun hHeld => ?_)
  clear HK K
  simp only [Act.put, List.setIfInBounds_toArray, List.set_cons_zero, List.set_cons_succ]
  clear ZB
  have ZB := (UB BB).size
  replace RL := UC (fun q e => ((UB RO).lt q e).2)
  refine wpAnyH_ready (rs := [5]) (by kernel_rfl) (by simp) (AllReadyH.cons (UY rfl) (fun K hK => ?_) AllReadyH.nil)
  have HK := UC hK
  clear hK hHeld
  go_simp
  refine (Fd (B := W65.heap.size) (vb := .slice none 0 0) (l := []) (World.ownsRow_nil _ _ _ _) (Nat.le_refl _) (by simp) ((UB HH).below (UB BB)).at (UB HN6) (UB HN15) (UB HWS)).mono ?_
  rintro e W97 ⟨v98, rfl, o2, b2⟩
  replace KK := UC (UE b2 (UB KK))
  replace BB := UC (UG (UB BB) b2)
  replace RO := UC ((UB RO).below b2)
  replace K5 := UC (UE b2 (UB K5))
  have SO := UC (show Own W65.heap.size 5 W97 v98 (wire n) from o2)
  clear o2 b2
  go_simp
  refine (UB HK).out _ _ (US (UB KK)) (fun hHeld => ?_)
  clear HK K
  simp only [Act.put, List.setIfInBounds_toArray, List.set_cons_zero, List.set_cons_succ]
  clear ZB
  have ZB := (UB BB).size
  replace RL := UC (fun q e => ((UB RO).lt q e).2)
  refine wpAnyH_ready (rs := [6]) (by kernel_rfl) (by simp) (AllReadyH.cons (UY rfl) (fun K hK => ?_) AllReadyH.nil)
  have HK := UC hK
  clear hK hHeld
  refine An rfl (.tmp 8) (.tmp 10) 22 5 rfl Tryz.underlying22 VJ w.heap.size v66 v98 l (wire n) rfl rfl (UB RO) (UB SO).reads (by have := UB HWL; omega) ZB ?_
  intro v114 W113 o2 g2 h2
  replace KK := UC (Aa g2 (UB KK) (Own.apart (UB RO) (UB KK) (by decide)))
  have zg := g2.size
  replace BB := UC ((UB BB).grown g2 ZB (fun k hk => ((UB RO).lt k hk).1))
  have L5b := VC (UB K5)
  replace K5 := UC (Aa g2 (UB K5) (UB N5))
  replace N5 := UC (show v114.ownBlock ≠ some W0.heap.size from fun q => by rcases h2 with h2 | h2; (· exact UB N5 (h2 ▸ q)); rw [h2] at q; simp at q; omega)
  clear L5b
  replace RO := UC o2
  clear o2 g2 h2 zg
  clear SO
  refine (UB HK).out _ _ (US (UB KK)) (fun hHeld => ?_)
  clear HK K
  simp only [Act.put, List.setIfInBounds_toArray, List.set_cons_zero, List.set_cons_succ]
  clear ZB
  have ZB := (UB BB).size
  replace RL := UC (fun q e => ((UB RO).lt q e).2)
  refine wpAnyH_ready (rs := [7]) (by kernel_rfl) (by simp) (AllReadyH.cons (UY rfl) (fun K hK => ?_) AllReadyH.nil)
  have HK := UC hK
  clear hK hHeld
  go_simp
  refine (Fe (UB RO).has (UB HLN) (UB HB8)).mono ?_
  rintro e W121 ⟨v122, rfl, o2, b2⟩
  replace KK := UC (UE b2 (UB KK))
  replace BB := UC (UG (UB BB) b2)
  replace RO := UC ((UB RO).below b2)
  replace K5 := UC (UE b2 (UB K5))
  have SO := UC o2
  clear o2 b2
  go_simp
  refine (UB HK).out _ _ (US (UB KK)) (fun hHeld => ?_)
  clear HK K
  simp only [Act.put, List.setIfInBounds_toArray, List.set_cons_zero, List.set_cons_succ]
  clear ZB
  have ZB := (UB BB).size
  replace RL := UC (fun q e => ((UB RO).lt q e).2)
  refine wpAnyH_ready (rs := [8]) (by kernel_rfl) (by simp) (AllReadyH.cons (UY rfl) (fun K hK => ?_) AllReadyH.nil)
  have HK := UC hK
  clear hK hHeld
  refine An rfl (.tmp 5) (.tmp 12) 22 5 rfl Tryz.underlying22 VJ w.heap.size (.slice (some ⟨W0.heap.size, 0, none⟩) 3 3) v122 [0, 1, 1] (Ge (l ++ wire n)) rfl rfl (Be (UB K5) (UB Z5)) (UB SO).reads (by rw [De]; simp) ZB ?_
  intro v126 W125 o2 g2 h2
  have b2 := (UB BB).grown g2 ZB (fun k hk => ((Be (UB K5) (UB Z5)).lt k hk).1)
  have KK2 := UC (Aa g2 (UB KK) (Own.apart (Be (UB K5) (UB Z5)) (UB KK) (by decide)))
  have O2 := UC o2
  have B2 := UC b2
  clear o2 g2 h2 b2 KK BB K5 SO RO RL N5
  refine (UB HK).out _ _ (US (UB KK2)) (fun hHeld => ?_)
  clear HK K
  simp only [Act.put, List.setIfInBounds_toArray, List.set_cons_zero, List.set_cons_succ]
  refine tkI 9 ?_ rfl (by kernel_rfl) (by kernel_rfl) (fun _ _ _ h => h) ?_ hHeld ?_; rotate_left; (· (intro w hSw; (try dsimp only at hSw); go_simp <;> with_reducible rfl)); simp only [Act.put, List.setIfInBounds_toArray, List.set_cons_zero, List.set_cons_succ]
  refine wpAnyH_done (by kernel_rfl) ?_ _
  clear hHeld
  go_wp2_with fail
  go_ret
  exact ⟨_, rfl, UB O2, UB B2⟩
 ·have HK := UC hK
  clear hK hHeld
  go_simp
  have ba := UI (w := W0) (.cells #[] 5)
  replace KK := UC (UE ba (UB KK))
  replace BB := UC (UG (UB BB) ba)
  have RO : Hid (Own w.heap.size 5 (W0.alloc (.cells #[] 5)) (.slice (some ⟨W0.heap.size, 0, none⟩) 0 0 : Value) []) := UC (B4 W0 w.heap.size 5 [] ZB (by simp))
  clear ba
  refine (UB HK).out _ _ (US (UB KK)) (fun hHeld => ?_)
  clear HK K
  simp only [Act.put, List.setIfInBounds_toArray, List.set_cons_zero, List.set_cons_succ]
  generalize W0.alloc (.cells #[] 5) = W127 at *
  clear ZB
  have ZB := (UB BB).size
  have RL := UC (fun q e => ((UB RO).lt q e).2)
  refine wpAnyH_ready (rs := [0, 3]) (by kernel_rfl) (by simp) (AllReadyH.cons (UY rfl) (fun K hK => ?_) (AllReadyH.cons (UY rfl) (fun K hK => ?_) AllReadyH.nil))
  ·have HK := UC hK
   clear hK hHeld
   go_simp
   have ba := UI (w := W127) (.cells #[.int .u8 0, .int .u8 1, .int .u8 1] 5)
   replace KK := UC (UE ba (UB KK))
   replace BB := UC (UG (UB BB) ba)
   replace RO := UC ((UB RO).below ba)
   have K5 := UC (heap_alloc_new W127 (.cells #[.int .u8 0, .int .u8 1, .int .u8 1] 5))
   have Z5 := UC (show w.heap.size ≤ W127.heap.size from ZB)
   have N5 := UC (show ((.slice (some ⟨W0.heap.size, 0, none⟩) 0 0 : Value)).ownBlock ≠ some W127.heap.size from fun q => by have := (UB RL _ q); omega)
   clear ba
   refine (UB HK).out _ _ (US (UB KK)) (fun hHeld => ?_)
   clear HK K
   simp only [Act.put, List.setIfInBounds_toArray, List.set_cons_zero, List.set_cons_succ]
   generalize W127.alloc (.cells #[.int .u8 0, .int .u8 1, .int .u8 1] 5) = W128 at *
   clear ZB
   have ZB := (UB BB).size
   replace RL := UC (fun q e => ((UB RO).lt q e).2)
   refine wpAnyH_ready (rs := [3]) (by kernel_rfl) (by simp) (AllReadyH.cons (UY rfl) (fun K hK => ?_) AllReadyH.nil)
   have HK := UC hK
   clear hK hHeld
   refine An rfl (.tmp 6) (.tmp 7) 22 5 rfl Tryz.underlying22 VJ w.heap.size (.slice (some ⟨W0.heap.size, 0, none⟩) 0 0 : Value) (.slice ba l.length bc) [] l rfl rfl (UB RO) ((UB HV).below (UB BB)).reads (by simp; omega) ZB ?_
   intro v130 W129 o2 g2 h2
   replace KK := UC (Aa g2 (UB KK) (Own.apart (UB RO) (UB KK) (by decide)))
   have zg := g2.size
   replace BB := UC ((UB BB).grown g2 ZB (fun k hk => ((UB RO).lt k hk).1))
   have L5b := VC (UB K5)
   replace K5 := UC (Aa g2 (UB K5) (UB N5))
   replace N5 := UC (show v130.ownBlock ≠ some W127.heap.size from fun q => by rcases h2 with h2 | h2; (· exact UB N5 (h2 ▸ q)); rw [h2] at q; simp at q; omega)
   clear L5b
   replace RO := UC o2
   replace RO : Hid (Own w.heap.size 5 W129 v130 l) := RO
   clear o2 g2 h2 zg
   refine (UB HK).out _ _ (US (UB KK)) (fun hHeld => ?_)
   clear HK K
   simp only [Act.put, List.setIfInBounds_toArray, List.set_cons_zero, List.set_cons_succ]
   clear ZB
   have ZB := (UB BB).size
   replace RL := UC (fun q e => ((UB RO).lt q e).2)
   refine wpAnyH_ready (rs := [5]) (by kernel_rfl) (by simp) (AllReadyH.cons (UY rfl) (fun K hK => ?_) AllReadyH.nil)
   have HK := UC hK
   clear hK hHeld
   go_simp
   refine (Fd (B := W129.heap.size) (vb := .slice none 0 0) (l := []) (World.ownsRow_nil _ _ _ _) (Nat.le_refl _) (by simp) ((UB HH).below (UB BB)).at (UB HN6) (UB HN15) (UB HWS)).mono ?_
   rintro e W161 ⟨v162, rfl, o2, b2⟩
   replace KK := UC (UE b2 (UB KK))
   replace BB := UC (UG (UB BB) b2)
   replace RO := UC ((UB RO).below b2)
   replace K5 := UC (UE b2 (UB K5))
   have SO := UC (show Own W129.heap.size 5 W161 v162 (wire n) from o2)
   clear o2 b2
   go_simp
   refine (UB HK).out _ _ (US (UB KK)) (fun hHeld => ?_)
   clear HK K
   simp only [Act.put, List.setIfInBounds_toArray, List.set_cons_zero, List.set_cons_succ]
   clear ZB
   have ZB := (UB BB).size
   replace RL := UC (fun q e => ((UB RO).lt q e).2)
   refine wpAnyH_ready (rs := [6]) (by kernel_rfl) (by simp) (AllReadyH.cons (UY rfl) (fun K hK => ?_) AllReadyH.nil)
   have HK := UC hK
   clear hK hHeld
   refine An rfl (.tmp 8) (.tmp 10) 22 5 rfl Tryz.underlying22 VJ w.heap.size v130 v162 l (wire n) rfl rfl (UB RO) (UB SO).reads (by have := UB HWL; omega) ZB ?_
   intro v178 W177 o2 g2 h2
   replace KK := UC (Aa g2 (UB KK) (Own.apart (UB RO) (UB KK) (by decide)))
   have zg := g2.size
   replace BB := UC ((UB BB).grown g2 ZB (fun k hk => ((UB RO).lt k hk).1))
   have L5b := VC (UB K5)
   replace K5 := UC (Aa g2 (UB K5) (UB N5))
   replace N5 := UC (show v178.ownBlock ≠ some W127.heap.size from fun q => by rcases h2 with h2 | h2; (· exact UB N5 (h2 ▸ q)); rw [h2] at q; simp at q; omega)
   clear L5b
   replace RO := UC o2
   clear o2 g2 h2 zg
   clear SO
   refine (UB HK).out _ _ (US (UB KK)) (fun hHeld => ?_)
   clear HK K
   simp only [Act.put, List.setIfInBounds_toArray, List.set_cons_zero, List.set_cons_succ]
   clear ZB
   have ZB := (UB BB).size
   replace RL := UC (fun q e => ((UB RO).lt q e).2)
   refine wpAnyH_ready (rs := [7]) (by kernel_rfl) (by simp) (AllReadyH.cons (UY rfl) (fun K hK => ?_) AllReadyH.nil)
   have HK := UC hK
   clear hK hHeld
   go_simp
   refine (Fe (UB RO).has (UB HLN) (UB HB8)).mono ?_
   rintro e W185 ⟨v186, rfl, o2, b2⟩
   replace KK := UC (UE b2 (UB KK))
   replace BB := UC (UG (UB BB) b2)
   replace RO := UC ((UB RO).below b2)
   replace K5 := UC (UE b2 (UB K5))
   have SO := UC o2
   clear o2 b2
   go_simp
   refine (UB HK).out _ _ (US (UB KK)) (fun hHeld => ?_)
   clear HK K
   simp only [Act.put, List.setIfInBounds_toArray, List.set_cons_zero, List.set_cons_succ]
   clear ZB
   have ZB := (UB BB).size
   replace RL := UC (fun q e => ((UB RO).lt q e).2)
   refine wpAnyH_ready (rs := [8]) (by kernel_rfl) (by simp) (AllReadyH.cons (UY rfl) (fun K hK => ?_) AllReadyH.nil)
   have HK := UC hK
   clear hK hHeld
   refine An rfl (.tmp 5) (.tmp 12) 22 5 rfl Tryz.underlying22 VJ w.heap.size (.slice (some ⟨W127.heap.size, 0, none⟩) 3 3) v186 [0, 1, 1] (Ge (l ++ wire n)) rfl rfl (Be (UB K5) (UB Z5)) (UB SO).reads (by rw [De]; simp) ZB ?_
   intro v190 W189 o2 g2 h2
   have b2 := (UB BB).grown g2 ZB (fun k hk => ((Be (UB K5) (UB Z5)).lt k hk).1)
   have KK2 := UC (Aa g2 (UB KK) (Own.apart (Be (UB K5) (UB Z5)) (UB KK) (by decide)))
   have O2 := UC o2
   have B2 := UC b2
   clear o2 g2 h2 b2 KK BB K5 SO RO RL N5
   refine (UB HK).out _ _ (US (UB KK2)) (fun hHeld => ?_)
   clear HK K
   simp only [Act.put, List.setIfInBounds_toArray, List.set_cons_zero, List.set_cons_succ]
   refine tkI 9 ?_ rfl (by kernel_rfl) (by kernel_rfl) (fun _ _ _ h => h) ?_ hHeld ?_; rotate_left; (· (intro w hSw; (try dsimp only at hSw); go_simp <;> with_reducible rfl)); simp only [Act.put, List.setIfInBounds_toArray, List.set_cons_zero, List.set_cons_succ]
   refine wpAnyH_done (by kernel_rfl) ?_ _
   clear hHeld
   go_wp2_with fail
   go_ret
   exact ⟨_, rfl, UB O2, UB B2⟩
  ·have HK := UC hK
   clear hK hHeld
   refine An rfl (.tmp 6) (.tmp 7) 22 5 rfl Tryz.underlying22 VJ w.heap.size (.slice (some ⟨W0.heap.size, 0, none⟩) 0 0 : Value) (.slice ba l.length bc) [] l rfl rfl (UB RO) ((UB HV).below (UB BB)).reads (by simp; omega) ZB ?_
   intro v192 W191 o2 g2 h2
   replace KK := UC (Aa g2 (UB KK) (Own.apart (UB RO) (UB KK) (by decide)))
   have zg := g2.size
   replace BB := UC ((UB BB).grown g2 ZB (fun k hk => ((UB RO).lt k hk).1))
   replace RO := UC o2
   replace RO : Hid (Own w.heap.size 5 W191 v192 l) := RO
   clear o2 g2 h2 zg
   refine (UB HK).out _ _ (US (UB KK)) (fun hHeld => ?_)
   clear HK K
   simp only [Act.put, List.setIfInBounds_toArray, List.set_cons_zero, List.set_cons_succ]
   clear ZB
   have ZB := (UB BB).size
   replace RL := UC (fun q e => ((UB RO).lt q e).2)
   refine wpAnyH_ready (rs := [0, 5]) (by kernel_rfl) (by simp) (AllReadyH.cons (UY rfl) (fun K hK => ?_) (AllReadyH.cons (UY rfl) (fun K hK => ?_) AllReadyH.nil))
   ·have HK := UC hK
    clear hK hHeld
    go_simp
    have ba := UI (w := W191) (.cells #[.int .u8 0, .int .u8 1, .int .u8 1] 5)
    replace KK := UC (UE ba (UB KK))
    replace BB := UC (UG (UB BB) ba)
    replace RO := UC ((UB RO).below ba)
    have K5 := UC (heap_alloc_new W191 (.cells #[.int .u8 0, .int .u8 1, .int .u8 1] 5))
    have Z5 := UC (show w.heap.size ≤ W191.heap.size from ZB)
    have N5 := UC (show (v192).ownBlock ≠ some W191.heap.size from fun q => by have := (UB RL _ q); omega)
    clear ba
    refine (UB HK).out _ _ (US (UB KK)) (fun hHeld => ?_)
    clear HK K
    simp only [Act.put, List.setIfInBounds_toArray, List.set_cons_zero, List.set_cons_succ]
    generalize W191.alloc (.cells #[.int .u8 0, .int .u8 1, .int .u8 1] 5) = W193 at *
    clear ZB
    have ZB := (UB BB).size
    replace RL := UC (fun q e => ((UB RO).lt q e).2)
    refine wpAnyH_ready (rs := [5]) (by kernel_rfl) (by simp) (AllReadyH.cons (UY rfl) (fun K hK => ?_) AllReadyH.nil)
    have HK := UC hK
    clear hK hHeld
    go_simp
    refine (Fd (B := W193.heap.size) (vb := .slice none 0 0) (l := []) (World.ownsRow_nil _ _ _ _) (Nat.le_refl _) (by simp) ((UB HH).below (UB BB)).at (UB HN6) (UB HN15) (UB HWS)).mono ?_
    rintro e W194 ⟨v195, rfl, o2, b2⟩
    replace KK := UC (UE b2 (UB KK))
    replace BB := UC (UG (UB BB) b2)
    replace RO := UC ((UB RO).below b2)
    replace K5 := UC (UE b2 (UB K5))
    have SO := UC (show Own W193.heap.size 5 W194 v195 (wire n) from o2)
    clear o2 b2
    go_simp
    refine (UB HK).out _ _ (US (UB KK)) (fun hHeld => ?_)
    clear HK K
    simp only [Act.put, List.setIfInBounds_toArray, List.set_cons_zero, List.set_cons_succ]
    clear ZB
    have ZB := (UB BB).size
    replace RL := UC (fun q e => ((UB RO).lt q e).2)
    refine wpAnyH_ready (rs := [6]) (by kernel_rfl) (by simp) (AllReadyH.cons (UY rfl) (fun K hK => ?_) AllReadyH.nil)
    have HK := UC hK
    clear hK hHeld
    refine An rfl (.tmp 8) (.tmp 10) 22 5 rfl Tryz.underlying22 VJ w.heap.size v192 v195 l (wire n) rfl rfl (UB RO) (UB SO).reads (by have := UB HWL; omega) ZB ?_
    intro v211 W210 o2 g2 h2
    replace KK := UC (Aa g2 (UB KK) (Own.apart (UB RO) (UB KK) (by decide)))
    have zg := g2.size
    replace BB := UC ((UB BB).grown g2 ZB (fun k hk => ((UB RO).lt k hk).1))
    have L5b := VC (UB K5)
    replace K5 := UC (Aa g2 (UB K5) (UB N5))
    replace N5 := UC (show v211.ownBlock ≠ some W191.heap.size from fun q => by rcases h2 with h2 | h2; (· exact UB N5 (h2 ▸ q)); rw [h2] at q; simp at q; omega)
    clear L5b
    replace RO := UC o2
    clear o2 g2 h2 zg
    clear SO
    refine (UB HK).out _ _ (US (UB KK)) (fun hHeld => ?_)
    clear HK K
    simp only [Act.put, List.setIfInBounds_toArray, List.set_cons_zero, List.set_cons_succ]
    clear ZB
    have ZB := (UB BB).size
    replace RL := UC (fun q e => ((UB RO).lt q e).2)
    refine wpAnyH_ready (rs := [7]) (by kernel_rfl) (by simp) (AllReadyH.cons (UY rfl) (fun K hK => ?_) AllReadyH.nil)
    have HK := UC hK
    clear hK hHeld
    go_simp
    refine (Fe (UB RO).has (UB HLN) (UB HB8)).mono ?_
    rintro e W218 ⟨v219, rfl, o2, b2⟩
    replace KK := UC (UE b2 (UB KK))
    replace BB := UC (UG (UB BB) b2)
    replace RO := UC ((UB RO).below b2)
    replace K5 := UC (UE b2 (UB K5))
    have SO := UC o2
    clear o2 b2
    go_simp
    refine (UB HK).out _ _ (US (UB KK)) (fun hHeld => ?_)
    clear HK K
    simp only [Act.put, List.setIfInBounds_toArray, List.set_cons_zero, List.set_cons_succ]
    clear ZB
    have ZB := (UB BB).size
    replace RL := UC (fun q e => ((UB RO).lt q e).2)
    refine wpAnyH_ready (rs := [8]) (by kernel_rfl) (by simp) (AllReadyH.cons (UY rfl) (fun K hK => ?_) AllReadyH.nil)
    have HK := UC hK
    clear hK hHeld
    refine An rfl (.tmp 5) (.tmp 12) 22 5 rfl Tryz.underlying22 VJ w.heap.size (.slice (some ⟨W191.heap.size, 0, none⟩) 3 3) v219 [0, 1, 1] (Ge (l ++ wire n)) rfl rfl (Be (UB K5) (UB Z5)) (UB SO).reads (by rw [De]; simp) ZB ?_
    intro v223 W222 o2 g2 h2
    have b2 := (UB BB).grown g2 ZB (fun k hk => ((Be (UB K5) (UB Z5)).lt k hk).1)
    have KK2 := UC (Aa g2 (UB KK) (Own.apart (Be (UB K5) (UB Z5)) (UB KK) (by decide)))
    have O2 := UC o2
    have B2 := UC b2
    clear o2 g2 h2 b2 KK BB K5 SO RO RL N5
    refine (UB HK).out _ _ (US (UB KK2)) (fun hHeld => ?_)
    clear HK K
    simp only [Act.put, List.setIfInBounds_toArray, List.set_cons_zero, List.set_cons_succ]
    refine tkI 9 ?_ rfl (by kernel_rfl) (by kernel_rfl) (fun _ _ _ h => h) ?_ hHeld ?_; rotate_left; (· (intro w hSw; (try dsimp only at hSw); go_simp <;> with_reducible rfl)); simp only [Act.put, List.setIfInBounds_toArray, List.set_cons_zero, List.set_cons_succ]
    refine wpAnyH_done (by kernel_rfl) ?_ _
    clear hHeld
    go_wp2_with fail
    go_ret
    exact ⟨_, rfl, UB O2, UB B2⟩
   ·have HK := UC hK
    clear hK hHeld
    go_simp
    refine (Fd (B := W191.heap.size) (vb := .slice none 0 0) (l := []) (World.ownsRow_nil _ _ _ _) (Nat.le_refl _) (by simp) ((UB HH).below (UB BB)).at (UB HN6) (UB HN15) (UB HWS)).mono ?_
    rintro e W224 ⟨v225, rfl, o2, b2⟩
    replace KK := UC (UE b2 (UB KK))
    replace BB := UC (UG (UB BB) b2)
    replace RO := UC ((UB RO).below b2)
    have SO := UC (show Own W191.heap.size 5 W224 v225 (wire n) from o2)
    clear o2 b2
    go_simp
    refine (UB HK).out _ _ (US (UB KK)) (fun hHeld => ?_)
    clear HK K
    simp only [Act.put, List.setIfInBounds_toArray, List.set_cons_zero, List.set_cons_succ]
    clear ZB
    have ZB := (UB BB).size
    replace RL := UC (fun q e => ((UB RO).lt q e).2)
    refine wpAnyH_ready (rs := [0, 6]) (by kernel_rfl) (by simp) (AllReadyH.cons (UY rfl) (fun K hK => ?_) (AllReadyH.cons (UY rfl) (fun K hK => ?_) AllReadyH.nil))
    ·have HK := UC hK
     clear hK hHeld
     go_simp
     have ba := UI (w := W224) (.cells #[.int .u8 0, .int .u8 1, .int .u8 1] 5)
     replace KK := UC (UE ba (UB KK))
     replace BB := UC (UG (UB BB) ba)
     replace RO := UC ((UB RO).below ba)
     replace SO := UC ((UB SO).below ba)
     have K5 := UC (heap_alloc_new W224 (.cells #[.int .u8 0, .int .u8 1, .int .u8 1] 5))
     have Z5 := UC (show w.heap.size ≤ W224.heap.size from ZB)
     have N5 := UC (show (v192).ownBlock ≠ some W224.heap.size from fun q => by have := (UB RL _ q); omega)
     clear ba
     refine (UB HK).out _ _ (US (UB KK)) (fun hHeld => ?_)
     clear HK K
     simp only [Act.put, List.setIfInBounds_toArray, List.set_cons_zero, List.set_cons_succ]
     generalize W224.alloc (.cells #[.int .u8 0, .int .u8 1, .int .u8 1] 5) = W226 at *
     clear ZB
     have ZB := (UB BB).size
     replace RL := UC (fun q e => ((UB RO).lt q e).2)
     refine wpAnyH_ready (rs := [6]) (by kernel_rfl) (by simp) (AllReadyH.cons (UY rfl) (fun K hK => ?_) AllReadyH.nil)
     have HK := UC hK
     clear hK hHeld
     refine An rfl (.tmp 8) (.tmp 10) 22 5 rfl Tryz.underlying22 VJ w.heap.size v192 v225 l (wire n) rfl rfl (UB RO) (UB SO).reads (by have := UB HWL; omega) ZB ?_
     intro v228 W227 o2 g2 h2
     replace KK := UC (Aa g2 (UB KK) (Own.apart (UB RO) (UB KK) (by decide)))
     have zg := g2.size
     replace BB := UC ((UB BB).grown g2 ZB (fun k hk => ((UB RO).lt k hk).1))
     have L5b := VC (UB K5)
     replace K5 := UC (Aa g2 (UB K5) (UB N5))
     replace N5 := UC (show v228.ownBlock ≠ some W224.heap.size from fun q => by rcases h2 with h2 | h2; (· exact UB N5 (h2 ▸ q)); rw [h2] at q; simp at q; omega)
     clear L5b
     replace RO := UC o2
     clear o2 g2 h2 zg
     clear SO
     refine (UB HK).out _ _ (US (UB KK)) (fun hHeld => ?_)
     clear HK K
     simp only [Act.put, List.setIfInBounds_toArray, List.set_cons_zero, List.set_cons_succ]
     clear ZB
     have ZB := (UB BB).size
     replace RL := UC (fun q e => ((UB RO).lt q e).2)
     refine wpAnyH_ready (rs := [7]) (by kernel_rfl) (by simp) (AllReadyH.cons (UY rfl) (fun K hK => ?_) AllReadyH.nil)
     have HK := UC hK
     clear hK hHeld
     go_simp
     refine (Fe (UB RO).has (UB HLN) (UB HB8)).mono ?_
     rintro e W235 ⟨v236, rfl, o2, b2⟩
     replace KK := UC (UE b2 (UB KK))
     replace BB := UC (UG (UB BB) b2)
     replace RO := UC ((UB RO).below b2)
     replace K5 := UC (UE b2 (UB K5))
     have SO := UC o2
     clear o2 b2
     go_simp
     refine (UB HK).out _ _ (US (UB KK)) (fun hHeld => ?_)
     clear HK K
     simp only [Act.put, List.setIfInBounds_toArray, List.set_cons_zero, List.set_cons_succ]
     clear ZB
     have ZB := (UB BB).size
     replace RL := UC (fun q e => ((UB RO).lt q e).2)
     refine wpAnyH_ready (rs := [8]) (by kernel_rfl) (by simp) (AllReadyH.cons (UY rfl) (fun K hK => ?_) AllReadyH.nil)
     have HK := UC hK
     clear hK hHeld
     refine An rfl (.tmp 5) (.tmp 12) 22 5 rfl Tryz.underlying22 VJ w.heap.size (.slice (some ⟨W224.heap.size, 0, none⟩) 3 3) v236 [0, 1, 1] (Ge (l ++ wire n)) rfl rfl (Be (UB K5) (UB Z5)) (UB SO).reads (by rw [De]; simp) ZB ?_
     intro v240 W239 o2 g2 h2
     have b2 := (UB BB).grown g2 ZB (fun k hk => ((Be (UB K5) (UB Z5)).lt k hk).1)
     have KK2 := UC (Aa g2 (UB KK) (Own.apart (Be (UB K5) (UB Z5)) (UB KK) (by decide)))
     have O2 := UC o2
     have B2 := UC b2
     clear o2 g2 h2 b2 KK BB K5 SO RO RL N5
     refine (UB HK).out _ _ (US (UB KK2)) (fun hHeld => ?_)
     clear HK K
     simp only [Act.put, List.setIfInBounds_toArray, List.set_cons_zero, List.set_cons_succ]
     refine tkI 9 ?_ rfl (by kernel_rfl) (by kernel_rfl) (fun _ _ _ h => h) ?_ hHeld ?_; rotate_left; (· (intro w hSw; (try dsimp only at hSw); go_simp <;> with_reducible rfl)); simp only [Act.put, List.setIfInBounds_toArray, List.set_cons_zero, List.set_cons_succ]
     refine wpAnyH_done (by kernel_rfl) ?_ _
     clear hHeld
     go_wp2_with fail
     go_ret
     exact ⟨_, rfl, UB O2, UB B2⟩
    ·have HK := UC hK
     clear hK hHeld
     refine An rfl (.tmp 8) (.tmp 10) 22 5 rfl Tryz.underlying22 VJ w.heap.size v192 v225 l (wire n) rfl rfl (UB RO) (UB SO).reads (by have := UB HWL; omega) ZB ?_
     intro v242 W241 o2 g2 h2
     replace KK := UC (Aa g2 (UB KK) (Own.apart (UB RO) (UB KK) (by decide)))
     have zg := g2.size
     replace BB := UC ((UB BB).grown g2 ZB (fun k hk => ((UB RO).lt k hk).1))
     replace RO := UC o2
     clear o2 g2 h2 zg
     clear SO
     refine (UB HK).out _ _ (US (UB KK)) (fun hHeld => ?_)
     clear HK K
     simp only [Act.put, List.setIfInBounds_toArray, List.set_cons_zero, List.set_cons_succ]
     clear ZB
     have ZB := (UB BB).size
     replace RL := UC (fun q e => ((UB RO).lt q e).2)
     refine wpAnyH_ready (rs := [0, 7]) (by kernel_rfl) (by simp) (AllReadyH.cons (UY rfl) (fun K hK => ?_) (AllReadyH.cons (UY rfl) (fun K hK => ?_) AllReadyH.nil))
     ·have HK := UC hK
      clear hK hHeld
      go_simp
      have ba := UI (w := W241) (.cells #[.int .u8 0, .int .u8 1, .int .u8 1] 5)
      replace KK := UC (UE ba (UB KK))
      replace BB := UC (UG (UB BB) ba)
      replace RO := UC ((UB RO).below ba)
      have K5 := UC (heap_alloc_new W241 (.cells #[.int .u8 0, .int .u8 1, .int .u8 1] 5))
      have Z5 := UC (show w.heap.size ≤ W241.heap.size from ZB)
      have N5 := UC (show (v242).ownBlock ≠ some W241.heap.size from fun q => by have := (UB RL _ q); omega)
      clear ba
      refine (UB HK).out _ _ (US (UB KK)) (fun hHeld => ?_)
      clear HK K
      simp only [Act.put, List.setIfInBounds_toArray, List.set_cons_zero, List.set_cons_succ]
      generalize W241.alloc (.cells #[.int .u8 0, .int .u8 1, .int .u8 1] 5) = W243 at *
      clear ZB
      have ZB := (UB BB).size
      replace RL := UC (fun q e => ((UB RO).lt q e).2)
      refine wpAnyH_ready (rs := [7]) (by kernel_rfl) (by simp) (AllReadyH.cons (UY rfl) (fun K hK => ?_) AllReadyH.nil)
      have HK := UC hK
      clear hK hHeld
      go_simp
      refine (Fe (UB RO).has (UB HLN) (UB HB8)).mono ?_
      rintro e W244 ⟨v245, rfl, o2, b2⟩
      replace KK := UC (UE b2 (UB KK))
      replace BB := UC (UG (UB BB) b2)
      replace RO := UC ((UB RO).below b2)
      replace K5 := UC (UE b2 (UB K5))
      have SO := UC o2
      clear o2 b2
      go_simp
      refine (UB HK).out _ _ (US (UB KK)) (fun hHeld => ?_)
      clear HK K
      simp only [Act.put, List.setIfInBounds_toArray, List.set_cons_zero, List.set_cons_succ]
      clear ZB
      have ZB := (UB BB).size
      replace RL := UC (fun q e => ((UB RO).lt q e).2)
      refine wpAnyH_ready (rs := [8]) (by kernel_rfl) (by simp) (AllReadyH.cons (UY rfl) (fun K hK => ?_) AllReadyH.nil)
      have HK := UC hK
      clear hK hHeld
      refine An rfl (.tmp 5) (.tmp 12) 22 5 rfl Tryz.underlying22 VJ w.heap.size (.slice (some ⟨W241.heap.size, 0, none⟩) 3 3) v245 [0, 1, 1] (Ge (l ++ wire n)) rfl rfl (Be (UB K5) (UB Z5)) (UB SO).reads (by rw [De]; simp) ZB ?_
      intro v249 W248 o2 g2 h2
      have b2 := (UB BB).grown g2 ZB (fun k hk => ((Be (UB K5) (UB Z5)).lt k hk).1)
      have KK2 := UC (Aa g2 (UB KK) (Own.apart (Be (UB K5) (UB Z5)) (UB KK) (by decide)))
      have O2 := UC o2
      have B2 := UC b2
      clear o2 g2 h2 b2 KK BB K5 SO RO RL N5
      refine (UB HK).out _ _ (US (UB KK2)) (fun hHeld => ?_)
      clear HK K
      simp only [Act.put, List.setIfInBounds_toArray, List.set_cons_zero, List.set_cons_succ]
      refine tkI 9 ?_ rfl (by kernel_rfl) (by kernel_rfl) (fun _ _ _ h => h) ?_ hHeld ?_; rotate_left; (· (intro w hSw; (try dsimp only at hSw); go_simp <;> with_reducible rfl)); simp only [Act.put, List.setIfInBounds_toArray, List.set_cons_zero, List.set_cons_succ]
      refine wpAnyH_done (by kernel_rfl) ?_ _
      clear hHeld
      go_wp2_with fail
      go_ret
      exact ⟨_, rfl, UB O2, UB B2⟩
     ·have HK := UC hK
      clear hK hHeld
      go_simp
      refine (Fe (UB RO).has (UB HLN) (UB HB8)).mono ?_
      rintro e W250 ⟨v251, rfl, o2, b2⟩
      replace KK := UC (UE b2 (UB KK))
      replace BB := UC (UG (UB BB) b2)
      replace RO := UC ((UB RO).below b2)
      have SO := UC o2
      clear o2 b2
      go_simp
      refine (UB HK).out _ _ (US (UB KK)) (fun hHeld => ?_)
      clear HK K
      simp only [Act.put, List.setIfInBounds_toArray, List.set_cons_zero, List.set_cons_succ]
      clear ZB
      have ZB := (UB BB).size
      replace RL := UC (fun q e => ((UB RO).lt q e).2)
      refine wpAnyH_ready (rs := [0]) (by kernel_rfl) (by simp) (AllReadyH.cons (UY rfl) (fun K hK => ?_) AllReadyH.nil)
      have HK := UC hK
      clear hK hHeld
      go_simp
      have ba := UI (w := W250) (.cells #[.int .u8 0, .int .u8 1, .int .u8 1] 5)
      replace KK := UC (UE ba (UB KK))
      replace BB := UC (UG (UB BB) ba)
      replace RO := UC ((UB RO).below ba)
      replace SO := UC ((UB SO).below ba)
      have K5 := UC (heap_alloc_new W250 (.cells #[.int .u8 0, .int .u8 1, .int .u8 1] 5))
      have Z5 := UC (show w.heap.size ≤ W250.heap.size from ZB)
      have N5 := UC (show (v242).ownBlock ≠ some W250.heap.size from fun q => by have := (UB RL _ q); omega)
      clear ba
      refine (UB HK).out _ _ (US (UB KK)) (fun hHeld => ?_)
      clear HK K
      simp only [Act.put, List.setIfInBounds_toArray, List.set_cons_zero, List.set_cons_succ]
      generalize W250.alloc (.cells #[.int .u8 0, .int .u8 1, .int .u8 1] 5) = W252 at *
      clear ZB
      have ZB := (UB BB).size
      replace RL := UC (fun q e => ((UB RO).lt q e).2)
      refine wpAnyH_ready (rs := [8]) (by kernel_rfl) (by simp) (AllReadyH.cons (UY rfl) (fun K hK => ?_) AllReadyH.nil)
      have HK := UC hK
      clear hK hHeld
      refine An rfl (.tmp 5) (.tmp 12) 22 5 rfl Tryz.underlying22 VJ w.heap.size (.slice (some ⟨W250.heap.size, 0, none⟩) 3 3) v251 [0, 1, 1] (Ge (l ++ wire n)) rfl rfl (Be (UB K5) (UB Z5)) (UB SO).reads (by rw [De]; simp) ZB ?_
      intro v256 W255 o2 g2 h2
      have b2 := (UB BB).grown g2 ZB (fun k hk => ((Be (UB K5) (UB Z5)).lt k hk).1)
      have KK2 := UC (Aa g2 (UB KK) (Own.apart (Be (UB K5) (UB Z5)) (UB KK) (by decide)))
      have O2 := UC o2
      have B2 := UC b2
      clear o2 g2 h2 b2 KK BB K5 SO RO RL N5
      refine (UB HK).out _ _ (US (UB KK2)) (fun hHeld => ?_)
      clear HK K
      simp only [Act.put, List.setIfInBounds_toArray, List.set_cons_zero, List.set_cons_succ]
      refine tkI 9 ?_ rfl (by kernel_rfl) (by kernel_rfl) (fun _ _ _ h => h) ?_ hHeld ?_; rotate_left; (· (intro w hSw; (try dsimp only at hSw); go_simp <;> with_reducible rfl)); simp only [Act.put, List.setIfInBounds_toArray, List.set_cons_zero, List.set_cons_succ]
      refine wpAnyH_done (by kernel_rfl) ?_ _
      clear hHeld
      go_wp2_with fail
      go_ret
      exact ⟨_, rfl, UB O2, UB B2⟩
end Go.Proofs.YtfneahdnpmamkaaGreat
