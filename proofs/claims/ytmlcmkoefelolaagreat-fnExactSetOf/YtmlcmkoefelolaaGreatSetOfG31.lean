/-
  Contract of the program's put: a record more in a book. Contract of the program's bookOf: the book of a zone's records. Plain facts: a region whose order is open, inside a round of a range over a function, by the laws for one outside.
-/
import Derived.Test.YtmlcmkoefelolaaGreatSetOfG23
import Derived.Test.YtmlcmkoefelolaaGreatSetOfG30
import Derived.Test.YtmlcmkoefelolaaGreatSetOfG12
import Derived.Test.YtmlcmkoefelolaaGreatSetOfG16
import Derived.Test.YtmlcmkoefelolaaGreatSetOfG04
import Derived.WalkSpells
import Derived.Test.YtmlcmkoefelolaaGreatSetOfG07
import Derived.Test.YtmlcmkoefelolaaGreatSetOfG03
import Derived.Test.YtmlcmkoefelolaaGreatSetOfG00
import Derived.OrdersIn
import Derived.OrdersHeld
import Derived.RangeFuncCalls
import Derived.TacticsIn
namespace Go.Proofs.YtmlcmkoefelolaaGreat
open Go.RowKit
set_option linter.unusedVariables false

theorem zero_page (w : World) : (zeroValue 116).run Tryz.prog w = .ok (.map none) w := by
 have h : (Tryz.prog.info? 116).map (fun i => i.zero) = some (some (.map none)) := by kernel_rfl
 obtain ⟨i, h1, h2⟩ := Option.map_eq_some_iff.1 h
 simp [zeroValue, typeInfo, h1, h2, go_sem]
theorem look_page {w : World} {b p : Nat} {ps : List (ByteArray × Value)} {kn : ByteArray} (h : MapV w b ps) (hk : kn.size ≤ maxLen) (hl : lookA kn ps = some (.map (some p))) : (Instr.lookup 79 (.map (some b)) (.string kn) false).run Tryz.prog w = .ok (.map (some p)) w := by
 have := mapV_look (e := 116) (t := 79) Tryz.underlying79 Tryz.underlying9 (zero_page w) h kn hk
 rw [hl] at this
 exact this
theorem look_none {w : World} {b : Nat} {ps : List (ByteArray × Value)} {kn : ByteArray} (h : MapV w b ps) (hk : kn.size ≤ maxLen) (hl : lookA kn ps = none) : (Instr.lookup 79 (.map (some b)) (.string kn) false).run Tryz.prog w = .ok (.map none) w := by
 have := mapV_look (e := 116) (t := 79) Tryz.underlying79 Tryz.underlying9 (zero_page w) h kn hk
 rw [hl] at this
 exact this
theorem keyN_size {n : List (List Int)} (h : ShortN n) : (strOfNums (keyN n)).size ≤ maxLen := by
 rw [strOfNums_size]
 have : (keyP n.reverse).length ≤ 16 * n.reverse.length := keyP_len (fun l hl => by
  obtain ⟨i, hi, rfl⟩ := List.getElem_of_mem (List.mem_reverse.1 hl)
  have := h.2 i hi
  simpa [hi] using this)
 have h1 := h.1
 have e : keyN n = keyP n.reverse := rfl
 rw [List.length_reverse] at this
 rw [e]
 unfold maxLen
 omega
theorem keyD_size {r : Rec} (h : rrOk r = true) : (strOfNums (keyD r)).size ≤ maxLen := by
 rw [strOfNums_size]
 have := dataB_length h
 simp [keyD, maxLen]
 omega

set_option maxHeartbeats 1000000 in
set_option maxRecDepth 100000 in
theorem put_there {n0 b p : Nat} {ps : List (ByteArray × Value)} {P : Pg} {na : Option Addr} {nc : Nat} {ta : Option Addr} {tc : Nat} {xa : Option Addr} {xc : Nat} {ia : Option Addr} {ic : Nat} {r : Rec} {w : World}
  (h : HasR w (.slice na r.name.length nc) (.slice ta r.to.length tc) (.slice xa r.text.length xc) (.slice ia r.nums.length ic) r) (hok : rrOk r = true)
  (hM : MapV w b ps) (hl : lookA (strOfNums (keyN r.name)) ps = some (.map (some p))) (hP : PageM w p P) (hne : p ≠ b) (hp : n0 ≤ p) (hz : n0 ≤ w.heap.size) :
  Calls Tryz.prog 94 #[.map (some b), .agg #[.slice na r.name.length nc, .int .i64 r.type, .int .i64 r.ttl, .int .i64 r.addr, .slice ta r.to.length tc, .slice xa r.text.length xc, .slice ia r.nums.length ic]] w fun e w' => (∃ v, e = .returned v) ∧ PageM w' p (putA (strOfNums (keyD r)) r P) ∧ MapV w' b ps ∧ KeptO w w' ∧ Below n0 w w' ∧ (∀ q, q ≠ p → q < w.heap.size → w'.heap[q]? = w.heap[q]?) := by
 have MB := hide hM
 have HPP := hide hP
 have HRR := hide h
 clear hM hP
 have b0 := below_alloc (w := w) (.cells #[.slice na r.name.length nc, .int .i64 r.type, .int .i64 r.ttl, .int .i64 r.addr, .slice ta r.to.length tc, .slice xa r.text.length xc, .slice ia r.nums.length ic] 52)
 have KB := hide (heap_alloc_new w (.cells #[.slice na r.name.length nc, .int .i64 r.type, .int .i64 r.ttl, .int .i64 r.addr, .slice ta r.to.length tc, .slice xa r.text.length xc, .slice ia r.nums.length ic] 52))
 have hn := short_name (rrOk_parts hok).1
 have HN := hide (nameKey_has (h.name.below b0) hn.1 hn.2)
 have HD := hide (fun (w : World) (hh : HasR w (.slice na r.name.length nc) (.slice ta r.to.length tc) (.slice xa r.text.length xc) (.slice ia r.nums.length ic) r) => dataKey_has hh hok)
 have hkn := keyN_size hn
 have hkd := keyD_size hok
 obtain ⟨d0, d1, d2, d3, d4, d5, d6⟩ := cells7 (unhide KB)
 generalize hKN : strOfNums (keyN r.name) = kn at *
 generalize hKD : strOfNums (keyD r) = kd at *
 clear hKN hKD hn hok
 go_enter Tryz.func94, Tryz.ntmps94
 go_wp2_with fail
 generalize w.alloc (.cells #[.slice na r.name.length nc, .int .i64 r.type, .int .i64 r.ttl, .int .i64 r.addr, .slice ta r.to.length tc, .slice xa r.text.length xc, .slice ia r.nums.length ic] 52) = W at *
 refine (unhide HN).mono ?_
 rintro e w1 ⟨rfl, b1⟩
 replace KB := hide (block_kept b1 (unhide KB))
 have bb := below_next b0 b1
 clear b0 b1 d0 d1 d2 d3 d4 d5 d6 HN
 clear h
 replace MB := hide ((unhide MB).below bb)
 replace HPP := hide ((unhide HPP).kept (bb.block _ (unhide HPP).lt) (keptX_below bb))
 replace HRR := hide ((unhide HRR).below bb)
 have KO := hide (keptO_below bb)
 have BN := hide (bb.mono hz)
 have hz0 := hz
 replace hz : n0 ≤ w1.heap.size := Nat.le_trans hz bb.size
 have BB := hide bb
 clear bb
 have hlook := look_page (unhide MB) hkn hl
 have heql := run_eql_map_nil w1 116 9 52 (some p) Tryz.underlying116
 simp only [Option.isNone_some] at heql
 go_wp2_with fail
 clear hlook heql
 have bd := below_drew (w := w1)
 replace KB := hide (block_kept bd (unhide KB))
 replace MB := hide ((unhide MB).below bd)
 replace HPP := hide ((unhide HPP).kept (bd.block _ (unhide HPP).lt) (keptX_below bd))
 replace HRR := hide ((unhide HRR).below bd)
 replace KO := hide ((unhide KO).trans (keptO_below bd))
 replace BN := hide ((unhide BN).trans (bd.mono hz))
 have zd := bd.size
 clear bd
 refine wp_region_held_drew (S := (fun w' => (w'.cell? ⟨w.heap.size, 0, none⟩ = some (.slice na r.name.length nc) ∧ w'.cell? ⟨w.heap.size, 1, none⟩ = some (.int .i64 r.type) ∧ w'.cell? ⟨w.heap.size, 2, none⟩ = some (.int .i64 r.ttl) ∧ w'.cell? ⟨w.heap.size, 3, none⟩ = some (.int .i64 r.addr) ∧ w'.cell? ⟨w.heap.size, 4, none⟩ = some (.slice ta r.to.length tc) ∧ w'.cell? ⟨w.heap.size, 5, none⟩ = some (.slice xa r.text.length xc) ∧ w'.cell? ⟨w.heap.size, 6, none⟩ = some (.slice ia r.nums.length ic)) ∧ (Instr.lookup 79 (.map (some b)) (.string kn) false).run Tryz.prog w' = .ok (.map (some p)) w')) (by kernel_rfl) ⟨cells7 (unhide KB), look_page (unhide MB) hkn hl⟩ (fun hHeld => ?_)
 show wpAnyH _ _ _ _ _ 7 #[false, false, false, false, false, false, false] _ _
 have HD2 : Hid (∀ q : Nat, w1.drew.heap[q]? = w1.heap[q]?) := fun _ => rfl
 generalize w1.drew = W0 at *
 refine tkF (.map (some b)) rfl (by kernel_rfl) (by kernel_rfl) (fun _ _ _ h => h) ?_ hHeld ?_; (· (intro w hSw; (try dsimp only at hSw); go_simp)); simp only [Act.put, setF, List.setIfInBounds_toArray, List.set_cons_zero, List.set_cons_succ]
 refine tkF (.string kn) rfl (by kernel_rfl) (by kernel_rfl) (fun _ _ _ h => h) ?_ hHeld ?_; (· (intro w hSw; (try dsimp only at hSw); go_simp)); simp only [Act.put, setF, List.setIfInBounds_toArray, List.set_cons_zero, List.set_cons_succ]
 refine tkF (.map (some p)) rfl (by kernel_rfl) (by kernel_rfl) (fun _ _ _ h => h) ?_ hHeld ?_; (· (intro w hSw; (try dsimp only at hSw); go_simp)); simp only [Act.put, setF, List.setIfInBounds_toArray, List.set_cons_zero, List.set_cons_succ]
 refine tkF (.agg #[.slice na r.name.length nc, .int .i64 r.type, .int .i64 r.ttl, .int .i64 r.addr, .slice ta r.to.length tc, .slice xa r.text.length xc, .slice ia r.nums.length ic]) rfl (by kernel_rfl) (by kernel_rfl) (fun _ _ _ h => h) ?_ hHeld ?_; (· (intro w hSw; (try dsimp only at hSw); go_simp)); simp only [Act.put, setF, List.setIfInBounds_toArray, List.set_cons_zero, List.set_cons_succ]
 refine tkI 5 (.agg #[.slice na r.name.length nc, .int .i64 r.type, .int .i64 r.ttl, .int .i64 r.addr, .slice ta r.to.length tc, .slice xa r.text.length xc, .slice ia r.nums.length ic]) rfl (by kernel_rfl) (by kernel_rfl) (fun _ _ _ h => h) ?_ hHeld ?_
 ·(intro w hSw; (try dsimp only at hSw); go_simp)
 try simp only [Act.put, List.setIfInBounds_toArray, List.set_cons_zero, List.set_cons_succ]
 refine wpAnyH_ready (rs := [4]) (by kernel_rfl) (by simp) (AllReadyH.cons (ops_drop rfl) (fun K hK => ?_) AllReadyH.nil)
 have HK := hide hK
 clear hK hHeld
 go_simp
 refine (unhide HD _ (unhide HRR)).mono ?_
 rintro e w4 ⟨rfl, b4⟩
 replace KB := hide (block_kept b4 (unhide KB))
 replace MB := hide ((unhide MB).below b4)
 replace HPP := hide ((unhide HPP).kept (b4.block _ (unhide HPP).lt) (keptX_below b4))
 replace HRR := hide ((unhide HRR).below b4)
 replace KO := hide ((unhide KO).trans (keptO_below b4))
 replace BN := hide ((unhide BN).trans (b4.mono (by omega)))
 have z4 := b4.size
 have HB4 := hide b4
 clear b4
 go_simp
 refine (unhide HK).out _ _ ⟨cells7 (unhide KB), look_page (unhide MB) hkn hl⟩ (fun hHeld => ?_)
 clear HK K
 try simp only [List.setIfInBounds_toArray, List.set_cons_zero, List.set_cons_succ]
 refine wpAnyH_ready (rs := [6]) (by kernel_rfl) (by simp) (AllReadyH.cons (ops_drop rfl) (fun K hK => ?_) AllReadyH.nil)
 have HK := hide hK
 clear hK hHeld
 obtain ⟨w5, hrun, hp5, g5, k5⟩ := page_put (t := 116) Tryz.underlying116 Tryz.underlying9 (unhide HPP) kd hkd ⟨_, _, _, _, rfl, unhide HRR⟩
 refine step_put rfl (.tmp 17) (.tmp 19) (.tmp 20) 116 rfl (.map (some p)) (.string kd) (.agg #[.slice na r.name.length nc, .int .i64 r.type, .int .i64 r.ttl, .int .i64 r.addr, .slice ta r.to.length tc, .slice xa r.text.length xc, .slice ia r.nums.length ic]) (by simp [Act.eval]) (by simp [Act.eval]) (by simp [Act.eval]) hrun ?_
 have m5 := (unhide MB).grown g5 (by simpa using hne)
 have kb5 := k5.2 _ _ (unhide KB) rfl
 replace KO := hide ((unhide KO).trans k5)
 replace BN := hide ((unhide BN).grown g5 (by omega) (fun k e => by simp at e; omega))
 clear hrun
 refine (unhide HK).out _ _ ⟨cells7 kb5, look_page m5 hkn hl⟩ (fun hHeld => ?_)
 clear HK K
 try simp only [List.setIfInBounds_toArray, List.set_cons_zero, List.set_cons_succ]
 refine wpAnyH_done (by kernel_rfl) ?_ _
 clear hHeld
 go_wp2_with fail
 go_end0
 refine ⟨⟨_, rfl⟩, hp5, m5, unhide KO, unhide BN, fun q hq hlt => ?_⟩
 have zz := (unhide BB).size
 rw [g5.block q (by omega) (by simpa using hq), (unhide HB4).block q (by omega), show W0.heap[q]? = w1.heap[q]? from unhide HD2 q]
 exact (unhide BB).block q hlt

set_option maxHeartbeats 1000000 in
set_option maxRecDepth 100000 in
theorem put_new {n0 b : Nat} {ps : List (ByteArray × Value)} {na : Option Addr} {nc : Nat} {ta : Option Addr} {tc : Nat} {xa : Option Addr} {xc : Nat} {ia : Option Addr} {ic : Nat} {r : Rec} {w : World}
  (h : HasR w (.slice na r.name.length nc) (.slice ta r.to.length tc) (.slice xa r.text.length xc) (.slice ia r.nums.length ic) r) (hok : rrOk r = true)
  (hM : MapV w b ps) (hl : lookA (strOfNums (keyN r.name)) ps = none) (hb : n0 ≤ b) (hz : n0 ≤ w.heap.size) :
  Calls Tryz.prog 94 #[.map (some b), .agg #[.slice na r.name.length nc, .int .i64 r.type, .int .i64 r.ttl, .int .i64 r.addr, .slice ta r.to.length tc, .slice xa r.text.length xc, .slice ia r.nums.length ic]] w fun e w' => (∃ v, e = .returned v) ∧ ∃ p, w.heap.size ≤ p ∧ PageM w' p (putA (strOfNums (keyD r)) r []) ∧ MapV w' b (putA (strOfNums (keyN r.name)) (.map (some p)) ps) ∧ KeptO w w' ∧ Below n0 w w' ∧ (∀ q, q ≠ b → q < w.heap.size → w'.heap[q]? = w.heap[q]?) := by
 have MB := hide hM
 have HRR := hide h
 have zb := hM.lt
 clear hM
 have b0 := below_alloc (w := w) (.cells #[.slice na r.name.length nc, .int .i64 r.type, .int .i64 r.ttl, .int .i64 r.addr, .slice ta r.to.length tc, .slice xa r.text.length xc, .slice ia r.nums.length ic] 52)
 have KB := hide (heap_alloc_new w (.cells #[.slice na r.name.length nc, .int .i64 r.type, .int .i64 r.ttl, .int .i64 r.addr, .slice ta r.to.length tc, .slice xa r.text.length xc, .slice ia r.nums.length ic] 52))
 have hn := short_name (rrOk_parts hok).1
 have HN := hide (nameKey_has (h.name.below b0) hn.1 hn.2)
 have HD := hide (fun (w : World) (hh : HasR w (.slice na r.name.length nc) (.slice ta r.to.length tc) (.slice xa r.text.length xc) (.slice ia r.nums.length ic) r) => dataKey_has hh hok)
 have hkn := keyN_size hn
 have hkd := keyD_size hok
 obtain ⟨d0, d1, d2, d3, d4, d5, d6⟩ := cells7 (unhide KB)
 generalize hKN : strOfNums (keyN r.name) = kn at *
 generalize hKD : strOfNums (keyD r) = kd at *
 clear hKN hKD hn hok
 go_enter Tryz.func94, Tryz.ntmps94
 go_wp2_with fail
 generalize w.alloc (.cells #[.slice na r.name.length nc, .int .i64 r.type, .int .i64 r.ttl, .int .i64 r.addr, .slice ta r.to.length tc, .slice xa r.text.length xc, .slice ia r.nums.length ic] 52) = W at *
 refine (unhide HN).mono ?_
 rintro e w1 ⟨rfl, b1⟩
 replace KB := hide (block_kept b1 (unhide KB))
 have bb := below_next b0 b1
 clear b0 b1 d0 d1 d2 d3 d4 d5 d6 HN
 clear h
 replace MB := hide ((unhide MB).below bb)
 replace HRR := hide ((unhide HRR).below bb)
 have KO := hide (keptO_below bb)
 have BN := hide (bb.mono hz)
 have zw := bb.size
 have BB := hide bb
 clear bb
 have hlook := look_none (unhide MB) hkn hl
 have heql := run_eql_map_nil w1 116 9 52 none Tryz.underlying116
 simp only [Option.isNone_none] at heql
 obtain ⟨w2, hrun2, m2, g2⟩ := mapV_put (t := 79) Tryz.underlying79 Tryz.underlying9 ((unhide MB).below (below_alloc (.map #[] 0))) kn hkn (.map (some w1.heap.size))
 have hmk := run_makeMap (P := Tryz.prog) 116 w1
 go_wp2_with (first | (at_mapUpdate; refine list_put rfl (.tmp 12) (.tmp 13) (.tmp 14) 79 rfl (.map (some b)) (.string kn) (.map (some w1.heap.size)) (by simp [Act.eval]) (by simp [Act.eval]) (by simp [Act.eval]) hrun2 ?_))
 have ba := below_alloc (w := w1) (.map #[] 0)
 have za : (w1.alloc (.map #[] 0)).heap.size = w1.heap.size + 1 := World.size_alloc w1 _
 have ko2 := (keptO_below ba).trans (keptO_map g2 ((unhide MB).below ba))
 have hpg : PageM w2 w1.heap.size [] := ⟨[], (mapV_made w1).grown g2 (by simp; omega), .nil⟩
 replace KB := hide (ko2.2 _ _ (unhide KB) rfl)
 replace HRR := hide ((unhide HRR).keptX ko2.x)
 replace KO := hide ((unhide KO).trans ko2)
 have z2 := g2.size
 replace BN := hide ((unhide BN).trans (((ba.mono (by omega)).grown g2 (by omega) (fun k e => by simp at e; omega))))
 have hl2 : lookA kn (putA kn (.map (some w1.heap.size)) ps) = some (.map (some w1.heap.size)) := lookA_put
 have HPP := hide hpg
 replace MB := hide m2
 have G2 := hide g2
 have hne : w1.heap.size ≠ b := by omega
 have hp : n0 ≤ w1.heap.size := by omega
 have ZA := hide za
 have BA := hide ba
 clear hlook heql hmk hrun2 m2 g2 hl ba ko2 hpg za
 have hz0 := hz
 replace hz : n0 ≤ w2.heap.size := by have := unhide ZA; omega
 rename lookA kn (putA kn (.map (some w1.heap.size)) ps) = some (.map (some w1.heap.size)) => hl
 have hsz : w1.heap.size ≤ w2.heap.size := by have := unhide ZA; omega
 generalize hp0 : w1.heap.size = p at *
 have bd := below_drew (w := w2)
 replace KB := hide (block_kept bd (unhide KB))
 replace MB := hide ((unhide MB).below bd)
 replace HPP := hide ((unhide HPP).kept (bd.block _ (unhide HPP).lt) (keptX_below bd))
 replace HRR := hide ((unhide HRR).below bd)
 replace KO := hide ((unhide KO).trans (keptO_below bd))
 replace BN := hide ((unhide BN).trans (bd.mono hz))
 have zd := bd.size
 clear bd
 refine wp_region_held_drew (S := (fun w' => (w'.cell? ⟨w.heap.size, 0, none⟩ = some (.slice na r.name.length nc) ∧ w'.cell? ⟨w.heap.size, 1, none⟩ = some (.int .i64 r.type) ∧ w'.cell? ⟨w.heap.size, 2, none⟩ = some (.int .i64 r.ttl) ∧ w'.cell? ⟨w.heap.size, 3, none⟩ = some (.int .i64 r.addr) ∧ w'.cell? ⟨w.heap.size, 4, none⟩ = some (.slice ta r.to.length tc) ∧ w'.cell? ⟨w.heap.size, 5, none⟩ = some (.slice xa r.text.length xc) ∧ w'.cell? ⟨w.heap.size, 6, none⟩ = some (.slice ia r.nums.length ic)) ∧ (Instr.lookup 79 (.map (some b)) (.string kn) false).run Tryz.prog w' = .ok (.map (some p)) w')) (by kernel_rfl) ⟨cells7 (unhide KB), look_page (unhide MB) hkn hl⟩ (fun hHeld => ?_)
 show wpAnyH _ _ _ _ _ 7 #[false, false, false, false, false, false, false] _ _
 have HD2 : Hid (∀ q : Nat, w2.drew.heap[q]? = w2.heap[q]?) := fun _ => rfl
 generalize w2.drew = W0 at *
 refine tkF (.map (some b)) rfl (by kernel_rfl) (by kernel_rfl) (fun _ _ _ h => h) ?_ hHeld ?_; (· (intro w hSw; (try dsimp only at hSw); go_simp)); simp only [Act.put, setF, List.setIfInBounds_toArray, List.set_cons_zero, List.set_cons_succ]
 refine tkF (.string kn) rfl (by kernel_rfl) (by kernel_rfl) (fun _ _ _ h => h) ?_ hHeld ?_; (· (intro w hSw; (try dsimp only at hSw); go_simp)); simp only [Act.put, setF, List.setIfInBounds_toArray, List.set_cons_zero, List.set_cons_succ]
 refine tkF (.map (some p)) rfl (by kernel_rfl) (by kernel_rfl) (fun _ _ _ h => h) ?_ hHeld ?_; (· (intro w hSw; (try dsimp only at hSw); go_simp)); simp only [Act.put, setF, List.setIfInBounds_toArray, List.set_cons_zero, List.set_cons_succ]
 refine tkF (.agg #[.slice na r.name.length nc, .int .i64 r.type, .int .i64 r.ttl, .int .i64 r.addr, .slice ta r.to.length tc, .slice xa r.text.length xc, .slice ia r.nums.length ic]) rfl (by kernel_rfl) (by kernel_rfl) (fun _ _ _ h => h) ?_ hHeld ?_; (· (intro w hSw; (try dsimp only at hSw); go_simp)); simp only [Act.put, setF, List.setIfInBounds_toArray, List.set_cons_zero, List.set_cons_succ]
 refine tkI 5 (.agg #[.slice na r.name.length nc, .int .i64 r.type, .int .i64 r.ttl, .int .i64 r.addr, .slice ta r.to.length tc, .slice xa r.text.length xc, .slice ia r.nums.length ic]) rfl (by kernel_rfl) (by kernel_rfl) (fun _ _ _ h => h) ?_ hHeld ?_
 ·(intro w hSw; (try dsimp only at hSw); go_simp)
 try simp only [Act.put, List.setIfInBounds_toArray, List.set_cons_zero, List.set_cons_succ]
 refine wpAnyH_ready (rs := [4]) (by kernel_rfl) (by simp) (AllReadyH.cons (ops_drop rfl) (fun K hK => ?_) AllReadyH.nil)
 have HK := hide hK
 clear hK hHeld
 go_simp
 refine (unhide HD _ (unhide HRR)).mono ?_
 rintro e w4 ⟨rfl, b4⟩
 replace KB := hide (block_kept b4 (unhide KB))
 replace MB := hide ((unhide MB).below b4)
 replace HPP := hide ((unhide HPP).kept (b4.block _ (unhide HPP).lt) (keptX_below b4))
 replace HRR := hide ((unhide HRR).below b4)
 replace KO := hide ((unhide KO).trans (keptO_below b4))
 replace BN := hide ((unhide BN).trans (b4.mono (by omega)))
 have z4 := b4.size
 have HB4 := hide b4
 clear b4
 go_simp
 refine (unhide HK).out _ _ ⟨cells7 (unhide KB), look_page (unhide MB) hkn hl⟩ (fun hHeld => ?_)
 clear HK K
 try simp only [List.setIfInBounds_toArray, List.set_cons_zero, List.set_cons_succ]
 refine wpAnyH_ready (rs := [6]) (by kernel_rfl) (by simp) (AllReadyH.cons (ops_drop rfl) (fun K hK => ?_) AllReadyH.nil)
 have HK := hide hK
 clear hK hHeld
 obtain ⟨w5, hrun, hp5, g5, k5⟩ := page_put (t := 116) Tryz.underlying116 Tryz.underlying9 (unhide HPP) kd hkd ⟨_, _, _, _, rfl, unhide HRR⟩
 refine step_put rfl (.tmp 17) (.tmp 19) (.tmp 20) 116 rfl (.map (some p)) (.string kd) (.agg #[.slice na r.name.length nc, .int .i64 r.type, .int .i64 r.ttl, .int .i64 r.addr, .slice ta r.to.length tc, .slice xa r.text.length xc, .slice ia r.nums.length ic]) (by simp [Act.eval]) (by simp [Act.eval]) (by simp [Act.eval]) hrun ?_
 have m5 := (unhide MB).grown g5 (by simpa using hne)
 have kb5 := k5.2 _ _ (unhide KB) rfl
 replace KO := hide ((unhide KO).trans k5)
 replace BN := hide ((unhide BN).grown g5 (by omega) (fun k e => by simp at e; omega))
 clear hrun
 refine (unhide HK).out _ _ ⟨cells7 kb5, look_page m5 hkn hl⟩ (fun hHeld => ?_)
 clear HK K
 try simp only [List.setIfInBounds_toArray, List.set_cons_zero, List.set_cons_succ]
 refine wpAnyH_done (by kernel_rfl) ?_ _
 clear hHeld
 go_wp2_with fail
 go_end0
 refine ⟨⟨_, rfl⟩, p, by omega, hp5, m5, unhide KO, unhide BN, fun q hq hlt => ?_⟩
 rw [g5.block q (by omega) (by simp; omega), (unhide HB4).block q (by omega)]
 rw [show W0.heap[q]? = w2.heap[q]? from unhide HD2 q, (unhide G2).block q (by have := unhide ZA; omega) (by simpa using hq), (unhide BA).block q (by omega)]
 exact (unhide BB).block q hlt

theorem bookPut_has {n0 b : Nat} {B : Bk} {vn vt vx vi : Value} {r : Rec} {w : World} (hB : BookM n0 w b B) (h : HasR w vn vt vx vi r) (hok : rrOk r = true) (hz : n0 ≤ w.heap.size) :
  Calls Tryz.prog 94 #[.map (some b), .agg #[vn, .int .i64 r.type, .int .i64 r.ttl, .int .i64 r.addr, vt, vx, vi]] w fun e w' => (∃ v, e = .returned v) ∧ BookM n0 w' b (bkPut (strOfNums (keyN r.name)) (strOfNums (keyD r)) r B) ∧ KeptO w w' ∧ Below n0 w w' := by
 obtain ⟨na, nc, rfl, _⟩ := h.name.form
 obtain ⟨ta, tc, rfl, _⟩ := h.to.form
 obtain ⟨xa, xc, rfl, _⟩ := h.text.form
 obtain ⟨ia, ic, rfl, _⟩ := h.nums.form
 obtain ⟨h0, ps, h1, h2, h3⟩ := hB
 unfold bkPut
 rcases two_look (k := strOfNums (keyN r.name)) h2 with ⟨l1, l2⟩ | ⟨v, P, l1, l2, ⟨p, rfl, q1, q2, q3⟩, l4⟩
 ·rw [l2]
  refine (put_new h hok h1 l1 h0 hz).mono ?_
  rintro e w' ⟨he, p, hp, p1, p2, p3, p4, p5⟩
  have zb := h1.lt
  refine ⟨he, book_put h0 h1 h2 h3 p2 p1 (by omega) (by omega) (fun q hq _ e => ?_) p3.x (fun q _ q2 q3 => p5 q q2 q3), p3, p4⟩
  obtain ⟨c, _, _, p', e1, _, _, e2⟩ := h2.left q hq
  rw [e] at e1
  cases e1
  have := e2.lt
  omega
 ·rw [l2]
  refine (put_there h hok h1 l1 q3 q2 q1 hz).mono ?_
  rintro e w' ⟨he, p1, p2, p3, p4, p5⟩
  exact ⟨he, book_put h0 h1 h2 h3 (by rw [putA_same l1]; exact p2) p1 q1 q2 (other_page h3 l4) p3.x (fun q e1 _ q3 => p5 q e1 q3), p3, p4⟩
end Go.Proofs.YtmlcmkoefelolaaGreat

namespace Go.Proofs.YtmlcmkoefelolaaGreat
open Go.RowKit
set_option linter.unusedVariables false

/-- The book of these records. -/
def bookIn (rs : List Rec) : Bk := rs.foldl (fun B r => bkPut (strOfNums (keyN r.name)) (strOfNums (keyD r)) r B) []
theorem bookIn_snoc (rs : List Rec) (r : Rec) : bookIn (rs ++ [r]) = bkPut (strOfNums (keyN r.name)) (strOfNums (keyD r)) r (bookIn rs) := by simp [bookIn]

set_option maxHeartbeats 2000000 in
set_option maxRecDepth 100000 in
theorem bookOf_has {vo vr : Value} {o : List (List Int)} {rs : List Rec} {w : World} (h : HasZ w vo vr o rs) (hok : ∀ i, i < rs.length → rrOk (rs.getD i recZ) = true) (hlen : rs.length ≤ 1000) :
  Calls Tryz.prog 51 #[.agg #[vo, vr]] w fun e w' => e = .returned (.map (some (w.heap.size + 1))) ∧ BookM w.heap.size w' (w.heap.size + 1) (bookIn rs) ∧ Below w.heap.size w w' := by
 obtain ⟨oa, oc, rfl, _⟩ := h.name.form
 obtain ⟨ra, rc, rfl, _⟩ := h.recs.form
 have b0 := below_alloc (w := w) (.cells #[.slice oa o.length oc, .slice ra rs.length rc] 34)
 have k0 := heap_alloc_new w (.cells #[.slice oa o.length oc, .slice ra rs.length rc] 34)
 have z0 : (w.alloc (.cells #[.slice oa o.length oc, .slice ra rs.length rc] 34)).heap.size = w.heap.size + 1 := World.size_alloc w _
 have hmk := run_makeMap (P := Tryz.prog) 79 (w.alloc (.cells #[.slice oa o.length oc, .slice ra rs.length rc] 34))
 have b1 := below_alloc (w := w.alloc (.cells #[.slice oa o.length oc, .slice ra rs.length rc] 34)) (.map #[] 0)
 have BM := hide (bookM_made (n0 := w.heap.size) (w.alloc (.cells #[.slice oa o.length oc, .slice ra rs.length rc] 34)) (by omega))
 obtain ⟨c0, c1⟩ := cells2 (block_kept b1 k0)
 have bb := below_next b0 b1
 have HT := hide h.recs
 have HOK := hide hok
 clear h hok b0 b1 k0
 generalize hm : rs.length = m at *
 have HM := hide hm
 go_enter Tryz.func51, Tryz.ntmps51
 go_wp2_with fail
 clear c0 c1 hmk hm
 rw [z0] at BM
 clear z0
 generalize (w.alloc (.cells #[.slice oa o.length oc, .slice ra m rc] 34)).alloc (.map #[] 0) = W at *
 go_loopw [10] (fun i wr => ∃ k : Nat, k ≤ m ∧ i = .int .i64 k ∧ BookM w.heap.size wr (w.heap.size + 1) (bookIn (rs.take k)) ∧ Below w.heap.size w wr) (fun i _ => m - (intOf i).toNat)
 case atStart => exact ⟨0, Nat.zero_le _, rfl, by simpa [bookIn] using unhide BM, bb⟩
 case round =>
  obtain ⟨k, hk, rfl, hBk, hbl⟩ := hrel
  by_cases hlt : k < m
  ·obtain ⟨b, off, na, nc, ta, tc, xa, xc, ia, ic, rfl, hb1, hc, hR⟩ := (unhide HT).here (k := k) (by rw [unhide HM]; exact hlt)
   have hsk := unhide HOK k hlt
   have htk := hide (show rs.take (k + 1) = rs.take k ++ [rs.getD k recZ] by rw [List.take_succ_eq_append_getElem (by rw [unhide HM]; exact hlt)]; simp [show k < rs.length by rw [unhide HM]; exact hlt])
   obtain ⟨c0, c1, c2, c3, c4, c5, c6⟩ := range7 (range_below hc hb1 hbl)
   generalize rs.getD k recZ = r at *
   have ba := below_alloc (w := wr) (.cells #[.slice na r.name.length nc, .int .i64 r.type, .int .i64 r.ttl, .int .i64 r.addr, .slice ta r.to.length tc, .slice xa r.text.length xc, .slice ia r.nums.length ic] 52)
   obtain ⟨d0, d1, d2, d3, d4, d5, d6⟩ := cells7 (heap_alloc_new wr (.cells #[.slice na r.name.length nc, .int .i64 r.type, .int .i64 r.ttl, .int .i64 r.addr, .slice ta r.to.length tc, .slice xa r.text.length xc, .slice ia r.nums.length ic] 52))
   have HP := hide (bookPut_has (hBk.below ba) ((hR.below hbl).below ba) hsk (Nat.le_trans hbl.size ba.size))
   have HB := hide (below_next hbl ba)
   clear ba hc hR hsk hbl hBk
   go_wp2_with fail
   refine (unhide HP).mono ?_
   rintro e w3 ⟨⟨v3, rfl⟩, hB3, hK3, hb3⟩
   have hb4 := (unhide HB).trans hb3
   clear HP HB d0 d1 d2 d3 d4 d5 d6 c0 c1 c2 c3 c4 c5 c6 hb3 hK3
   go_wp2
   go_roundw
   case rel => exact ⟨k + 1, by omega, by go_num, by rw [unhide htk, bookIn_snoc]; exact hB3, hb4⟩
   case measure => simp [intOf]; omega
  ·obtain rfl : k = m := by omega
   have hall : rs.take k = rs := List.take_of_length_le (by rw [unhide HM]; exact Nat.le_refl _)
   rw [hall] at hBk
   clear hall
   go_wp2
   go_ret
   exact ⟨rfl, hBk, hbl⟩
end Go.Proofs.YtmlcmkoefelolaaGreat

namespace Go.Proofs.YtmlcmkoefelolaaGreat
open Go.RowKit
set_option linter.unusedVariables false

theorem operIn_of {l n : Nat} {P : Program} {o : Oper} {a : Act} {w : World} {K K' : Act → World → Prop} {Q : Exit → Act → World → Prop} (hnd : ∀ c, o.op ≠ .defer c) (hk : ∀ a w, K a w → K' a w) (h : o.wp P a w K Q) :
  o.wpIn (Fence.wide.inRound l) n P a w K' Q := by
 refine ⟨fun f _ => trivial, ?_⟩
 rw [Fence.inRound_round, Oper.semAt_some l _ o hnd]
 unfold Oper.wp at h
 generalize (execOp a.eval o).run P w = r at *
 cases r with
 | ok x w' =>
  cases x with
  | value v => exact hk _ _ h
  | skip => exact hk _ _ h
  | defer d => exact hk _ _ h
  | enter f args => exact ⟨fun q => by simp [Fence.inRound, Fence.wide] at q, CallsIn.inRound l (callsIn_wide.2 (Calls.mono h (fun e w'' he => by cases e <;> first | exact hk _ _ he | exact he)))⟩
  | row row args => exact ⟨fun q => by simp [Fence.inRound, Fence.wide] at q, fun c cs _ => let ⟨v, w'', r, s⟩ := h c cs; ⟨v, w'', hk _ _ r, stepsIn_wide.2 s⟩⟩
  | _ => exact False.elim h
 | halt x w' => cases x <;> first | exact h | exact False.elim h

theorem anyIn_of {l n : Nat} {P : Program} {md : Region.Mode} {ops : Array Oper} {Q : Exit → Act → World → Prop} (hL : ¬ LetsOut Q) (hnd : ∀ (i : Nat) (o : Oper), ops[i]? = some o → ∀ c, o.op ≠ .defer c) :
  ∀ (fuel : Nat) (listed : Array Bool) (a : Act) (w : World), wpAny P md ops Q fuel listed a w → wpAnyIn (Fence.wide.inRound l) n P md ops Q fuel listed a w
 | 0, _, _, _, h => h
 | fuel + 1, listed, a, w, h => by
  refine ⟨h.1, fun i hi => ?_⟩
  have hop := h.2 i hi
  unfold wpOp at hop
  unfold wpOpIn
  cases ho : ops[i]? with
  | none =>
   rw [ho] at hop
   exact anyIn_of hL hnd fuel _ _ _ hop
  | some o =>
   rw [ho] at hop
   dsimp only at hop ⊢
   by_cases hw : Region.wanted o (yielded ops a.tmps) = true
   ·rw [if_pos hw] at hop ⊢
    rcases hop with hop | hop
    ·exact operIn_of (hnd i o ho) (fun a w q => anyIn_of hL hnd fuel _ a w q) hop
    ·exact absurd hop.2 hL
   ·rw [if_neg hw] at hop ⊢
    exact ⟨fun f _ => trivial, anyIn_of hL hnd fuel _ _ _ hop⟩
theorem regionIn_any {l n : Nat} {P : Program} {id : Nat} {ops : Array Oper} {Q : Exit → Act → World → Prop} {a : Act} {w : World} (hL : ¬ LetsOut Q) (hnd : ops.all (fun o => match o.op with | .defer _ => false | _ => true) = true) (hm : P.follows .mixedOrders = true)
  (h : wpAny P .any ops Q ops.size (Array.replicate ops.size false) a w.drew) : (Code.region id ops true).wpIn (Fence.wide.inRound l) n P Q a w := by
 refine wpIn_region_any hm (anyIn_of hL ?_ _ _ _ _ h)
 intro i o ho c hc
 have := Array.all_eq_true.1 hnd i (Array.getElem?_eq_some_iff.1 ho).1
 rw [(Array.getElem?_eq_some_iff.1 ho).2] at this
 simp [hc] at this
end Go.Proofs.YtmlcmkoefelolaaGreat
