/-
  Plain facts: records that may be are short. No program is named here. Contract of the program's put: a record more in a book. The library functions that gather and sort the keys of maps, by the contracts that lie compiled in the library, laid at this program by the shelf's own command in plain words. Plain facts: a name that ends with another, and the end of a list of texts in memory. No program is named here.
-/
import Derived.Test.YtfgcmjpkgdjcfaaGreatDropSetG02
import Derived.Test.YtfgcmjpkgdjcfaaGreatDropSetG00
import Derived.Test.YtfgcmjpkgdjcfaaGreatDropSetG10
import Derived.Test.YtfgcmjpkgdjcfaaGreatDropSetG17
import Derived.Test.YtfgcmjpkgdjcfaaGreatDropSetG03
import Derived.WalkSpells
import Derived.Shelf.SlIter.Nil
import Derived.Shelf.SortM.Plain
import Derived.Shelf.SortM.SortNone
import Derived.Ground.GgzProg
import Derived.Ground.SlgmProg
import Derived.Test.YtfgcmjpkgdjcfaaGreatProg
import Derived.Test.YtfgcmjpkgdjcfaaGreatDropSetG14
namespace Go.Proofs.YtfgcmjpkgdjcfaaGreat
open Go.RowKit

/-- A name is short. -/
def ShortN (n : List (List Int)) : Prop := n.length ≤ 6 ∧ ∀ k, k < n.length → (n.getD k []).length ≤ 15
/-- A record is short. -/
def ShortR (r : Rec) : Prop := (r.name.length ≤ 6 ∧ ∀ k, k < r.name.length → (r.name.getD k []).length ≤ 15) ∧ (r.to.length ≤ 6 ∧ ∀ k, k < r.to.length → (r.to.getD k []).length ≤ 15) ∧ r.text.length ≤ 1048576 ∧ r.nums.length ≤ 1048576
theorem short_name {n : List (List Int)} (h : nameOk n = true) : ShortN n := ⟨(nameOk_parts h).1, fun k hk => (labelOk_length ((nameOk_parts h).2 k hk)).2⟩
theorem short_nil : ShortN [] := ⟨by simp, fun k hk => absurd hk (by simp)⟩
end Go.Proofs.YtfgcmjpkgdjcfaaGreat

namespace Go.Proofs.YtfgcmjpkgdjcfaaGreat
open Go.RowKit
set_option linter.unusedVariables false

theorem zero_page (w : World) : (zeroValue 98).run Tryz.prog w = .ok (.map none) w := by
 have h : (Tryz.prog.info? 98).map (fun i => i.zero) = some (some (.map none)) := by kernel_rfl
 obtain ⟨i, h1, h2⟩ := Option.map_eq_some_iff.1 h
 simp [zeroValue, typeInfo, h1, h2, go_sem]
theorem look_page {w : World} {b p : Nat} {ps : List (ByteArray × Value)} {kn : ByteArray} (h : MapV w b ps) (hk : kn.size ≤ maxLen) (hl : lookA kn ps = some (.map (some p))) : (Instr.lookup 64 (.map (some b)) (.string kn) false).run Tryz.prog w = .ok (.map (some p)) w := by
 have := mapV_look (e := 98) (t := 64) Tryz.underlying64 Tryz.underlying9 (zero_page w) h kn hk
 rw [hl] at this
 exact this
theorem look_none {w : World} {b : Nat} {ps : List (ByteArray × Value)} {kn : ByteArray} (h : MapV w b ps) (hk : kn.size ≤ maxLen) (hl : lookA kn ps = none) : (Instr.lookup 64 (.map (some b)) (.string kn) false).run Tryz.prog w = .ok (.map none) w := by
 have := mapV_look (e := 98) (t := 64) Tryz.underlying64 Tryz.underlying9 (zero_page w) h kn hk
 rw [hl] at this
 exact this
theorem keyN_size {n : List (List Int)} (h : ShortN n) : (strOfNums (keyN n)).size ≤ maxLen := by
 rw [strOfNums_size]
 have : (keyP n.reverse).length ≤ 16 * n.reverse.length := keyP_len (fun l hl => by
  obtain ⟨i, hi, rfl⟩ := List.getElem_of_mem (List.mem_reverse.1 hl)
  have := h.2 i hi
  simpa [hi] using this)
 have h1 := h.1
 have e : keyN n = keyP n.reverse := rfl
 rw [List.length_reverse] at this
 rw [e]
 unfold maxLen
 omega
theorem keyD_size {r : Rec} (h : rrOk r = true) : (strOfNums (keyD r)).size ≤ maxLen := by
 rw [strOfNums_size]
 have := dataB_length h
 simp [keyD, maxLen]
 omega

set_option maxHeartbeats 1000000 in
set_option maxRecDepth 100000 in
theorem put_there {n0 b p : Nat} {ps : List (ByteArray × Value)} {P : Pg} {na : Option Addr} {nc : Nat} {ta : Option Addr} {tc : Nat} {xa : Option Addr} {xc : Nat} {ia : Option Addr} {ic : Nat} {r : Rec} {w : World}
  (h : HasR w (.slice na r.name.length nc) (.slice ta r.to.length tc) (.slice xa r.text.length xc) (.slice ia r.nums.length ic) r) (hok : rrOk r = true)
  (hM : MapV w b ps) (hl : lookA (strOfNums (keyN r.name)) ps = some (.map (some p))) (hP : PageM w p P) (hne : p ≠ b) (hp : n0 ≤ p) (hz : n0 ≤ w.heap.size) :
  Calls Tryz.prog 69 #[.map (some b), .agg #[.slice na r.name.length nc, .int .i64 r.type, .int .i64 r.ttl, .int .i64 r.addr, .slice ta r.to.length tc, .slice xa r.text.length xc, .slice ia r.nums.length ic]] w fun e w' => (∃ v, e = .returned v) ∧ PageM w' p (putA (strOfNums (keyD r)) r P) ∧ MapV w' b ps ∧ KeptO w w' ∧ Below n0 w w' ∧ (∀ q, q ≠ p → q < w.heap.size → w'.heap[q]? = w.heap[q]?) := by
 have MB := hide hM
 have HPP := hide hP
 have HRR := hide h
 clear hM hP
 have b0 := below_alloc (w := w) (.cells #[.slice na r.name.length nc, .int .i64 r.type, .int .i64 r.ttl, .int .i64 r.addr, .slice ta r.to.length tc, .slice xa r.text.length xc, .slice ia r.nums.length ic] 59)
 have KB := hide (heap_alloc_new w (.cells #[.slice na r.name.length nc, .int .i64 r.type, .int .i64 r.ttl, .int .i64 r.addr, .slice ta r.to.length tc, .slice xa r.text.length xc, .slice ia r.nums.length ic] 59))
 have hn := short_name (rrOk_parts hok).1
 have HN := hide (nameKey_has (h.name.below b0) hn.1 hn.2)
 have HD := hide (fun (w : World) (hh : HasR w (.slice na r.name.length nc) (.slice ta r.to.length tc) (.slice xa r.text.length xc) (.slice ia r.nums.length ic) r) => dataKey_has hh hok)
 have hkn := keyN_size hn
 have hkd := keyD_size hok
 obtain ⟨d0, d1, d2, d3, d4, d5, d6⟩ := cells7 (unhide KB)
 generalize hKN : strOfNums (keyN r.name) = kn at *
 generalize hKD : strOfNums (keyD r) = kd at *
 clear hKN hKD hn hok
 go_enter Tryz.func69, Tryz.ntmps69
 go_wp2_with fail
 generalize w.alloc (.cells #[.slice na r.name.length nc, .int .i64 r.type, .int .i64 r.ttl, .int .i64 r.addr, .slice ta r.to.length tc, .slice xa r.text.length xc, .slice ia r.nums.length ic] 59) = W at *
 refine (unhide HN).mono ?_
 rintro e w1 ⟨rfl, b1⟩
 replace KB := hide (block_kept b1 (unhide KB))
 have bb := below_next b0 b1
 clear b0 b1 d0 d1 d2 d3 d4 d5 d6 HN
 clear h
 replace MB := hide ((unhide MB).below bb)
 replace HPP := hide ((unhide HPP).kept (bb.block _ (unhide HPP).lt) (keptX_below bb))
 replace HRR := hide ((unhide HRR).below bb)
 have KO := hide (keptO_below bb)
 have BN := hide (bb.mono hz)
 have hz0 := hz
 replace hz : n0 ≤ w1.heap.size := Nat.le_trans hz bb.size
 have BB := hide bb
 clear bb
 have hlook := look_page (unhide MB) hkn hl
 have heql := run_eql_map_nil w1 98 9 59 (some p) Tryz.underlying98
 simp only [Option.isNone_some] at heql
 go_wp2_with fail
 clear hlook heql
 have bd := below_drew (w := w1)
 replace KB := hide (block_kept bd (unhide KB))
 replace MB := hide ((unhide MB).below bd)
 replace HPP := hide ((unhide HPP).kept (bd.block _ (unhide HPP).lt) (keptX_below bd))
 replace HRR := hide ((unhide HRR).below bd)
 replace KO := hide ((unhide KO).trans (keptO_below bd))
 replace BN := hide ((unhide BN).trans (bd.mono hz))
 have zd := bd.size
 clear bd
 refine wp_region_held_drew (S := (fun w' => (w'.cell? ⟨w.heap.size, 0, none⟩ = some (.slice na r.name.length nc) ∧ w'.cell? ⟨w.heap.size, 1, none⟩ = some (.int .i64 r.type) ∧ w'.cell? ⟨w.heap.size, 2, none⟩ = some (.int .i64 r.ttl) ∧ w'.cell? ⟨w.heap.size, 3, none⟩ = some (.int .i64 r.addr) ∧ w'.cell? ⟨w.heap.size, 4, none⟩ = some (.slice ta r.to.length tc) ∧ w'.cell? ⟨w.heap.size, 5, none⟩ = some (.slice xa r.text.length xc) ∧ w'.cell? ⟨w.heap.size, 6, none⟩ = some (.slice ia r.nums.length ic)) ∧ (Instr.lookup 64 (.map (some b)) (.string kn) false).run Tryz.prog w' = .ok (.map (some p)) w')) (by kernel_rfl) ⟨cells7 (unhide KB), look_page (unhide MB) hkn hl⟩ (fun hHeld => ?_)
 show wpAnyH _ _ _ _ _ 7 #[false, false, false, false, false, false, false] _ _
 have HD2 : Hid (∀ q : Nat, w1.drew.heap[q]? = w1.heap[q]?) := fun _ => rfl
 generalize w1.drew = W0 at *
 refine tkF (.map (some b)) rfl (by kernel_rfl) (by kernel_rfl) (fun _ _ _ h => h) ?_ hHeld ?_; (· (intro w hSw; (try dsimp only at hSw); go_simp)); simp only [Act.put, setF, List.setIfInBounds_toArray, List.set_cons_zero, List.set_cons_succ]
 refine tkF (.string kn) rfl (by kernel_rfl) (by kernel_rfl) (fun _ _ _ h => h) ?_ hHeld ?_; (· (intro w hSw; (try dsimp only at hSw); go_simp)); simp only [Act.put, setF, List.setIfInBounds_toArray, List.set_cons_zero, List.set_cons_succ]
 refine tkF (.map (some p)) rfl (by kernel_rfl) (by kernel_rfl) (fun _ _ _ h => h) ?_ hHeld ?_; (· (intro w hSw; (try dsimp only at hSw); go_simp)); simp only [Act.put, setF, List.setIfInBounds_toArray, List.set_cons_zero, List.set_cons_succ]
 refine tkF (.agg #[.slice na r.name.length nc, .int .i64 r.type, .int .i64 r.ttl, .int .i64 r.addr, .slice ta r.to.length tc, .slice xa r.text.length xc, .slice ia r.nums.length ic]) rfl (by kernel_rfl) (by kernel_rfl) (fun _ _ _ h => h) ?_ hHeld ?_; (· (intro w hSw; (try dsimp only at hSw); go_simp)); simp only [Act.put, setF, List.setIfInBounds_toArray, List.set_cons_zero, List.set_cons_succ]
 refine tkI 5 (.agg #[.slice na r.name.length nc, .int .i64 r.type, .int .i64 r.ttl, .int .i64 r.addr, .slice ta r.to.length tc, .slice xa r.text.length xc, .slice ia r.nums.length ic]) rfl (by kernel_rfl) (by kernel_rfl) (fun _ _ _ h => h) ?_ hHeld ?_
 ·(intro w hSw; (try dsimp only at hSw); go_simp)
 try simp only [Act.put, List.setIfInBounds_toArray, List.set_cons_zero, List.set_cons_succ]
 refine wpAnyH_ready (rs := [4]) (by kernel_rfl) (by simp) (AllReadyH.cons (ops_drop rfl) (fun K hK => ?_) AllReadyH.nil)
 have HK := hide hK
 clear hK hHeld
 go_simp
 refine (unhide HD _ (unhide HRR)).mono ?_
 rintro e w4 ⟨rfl, b4⟩
 replace KB := hide (block_kept b4 (unhide KB))
 replace MB := hide ((unhide MB).below b4)
 replace HPP := hide ((unhide HPP).kept (b4.block _ (unhide HPP).lt) (keptX_below b4))
 replace HRR := hide ((unhide HRR).below b4)
 replace KO := hide ((unhide KO).trans (keptO_below b4))
 replace BN := hide ((unhide BN).trans (b4.mono (by omega)))
 have z4 := b4.size
 have HB4 := hide b4
 clear b4
 go_simp
 refine (unhide HK).out _ _ ⟨cells7 (unhide KB), look_page (unhide MB) hkn hl⟩ (fun hHeld => ?_)
 clear HK K
 try simp only [List.setIfInBounds_toArray, List.set_cons_zero, List.set_cons_succ]
 refine wpAnyH_ready (rs := [6]) (by kernel_rfl) (by simp) (AllReadyH.cons (ops_drop rfl) (fun K hK => ?_) AllReadyH.nil)
 have HK := hide hK
 clear hK hHeld
 obtain ⟨w5, hrun, hp5, g5, k5⟩ := page_put (t := 98) Tryz.underlying98 Tryz.underlying9 (unhide HPP) kd hkd ⟨_, _, _, _, rfl, unhide HRR⟩
 refine step_put rfl (.tmp 17) (.tmp 19) (.tmp 20) 98 rfl (.map (some p)) (.string kd) (.agg #[.slice na r.name.length nc, .int .i64 r.type, .int .i64 r.ttl, .int .i64 r.addr, .slice ta r.to.length tc, .slice xa r.text.length xc, .slice ia r.nums.length ic]) (by simp [Act.eval]) (by simp [Act.eval]) (by simp [Act.eval]) hrun ?_
 have m5 := (unhide MB).grown g5 (by simpa using hne)
 have kb5 := k5.2 _ _ (unhide KB) rfl
 replace KO := hide ((unhide KO).trans k5)
 replace BN := hide ((unhide BN).grown g5 (by omega) (fun k e => by simp at e; omega))
 clear hrun
 refine (unhide HK).out _ _ ⟨cells7 kb5, look_page m5 hkn hl⟩ (fun hHeld => ?_)
 clear HK K
 try simp only [List.setIfInBounds_toArray, List.set_cons_zero, List.set_cons_succ]
 refine wpAnyH_done (by kernel_rfl) ?_ _
 clear hHeld
 go_wp2_with fail
 go_end0
 refine ⟨⟨_, rfl⟩, hp5, m5, unhide KO, unhide BN, fun q hq hlt => ?_⟩
 have zz := (unhide BB).size
 rw [g5.block q (by omega) (by simpa using hq), (unhide HB4).block q (by omega), show W0.heap[q]? = w1.heap[q]? from unhide HD2 q]
 exact (unhide BB).block q hlt

set_option maxHeartbeats 1000000 in
set_option maxRecDepth 100000 in
theorem put_new {n0 b : Nat} {ps : List (ByteArray × Value)} {na : Option Addr} {nc : Nat} {ta : Option Addr} {tc : Nat} {xa : Option Addr} {xc : Nat} {ia : Option Addr} {ic : Nat} {r : Rec} {w : World}
  (h : HasR w (.slice na r.name.length nc) (.slice ta r.to.length tc) (.slice xa r.text.length xc) (.slice ia r.nums.length ic) r) (hok : rrOk r = true)
  (hM : MapV w b ps) (hl : lookA (strOfNums (keyN r.name)) ps = none) (hb : n0 ≤ b) (hz : n0 ≤ w.heap.size) :
  Calls Tryz.prog 69 #[.map (some b), .agg #[.slice na r.name.length nc, .int .i64 r.type, .int .i64 r.ttl, .int .i64 r.addr, .slice ta r.to.length tc, .slice xa r.text.length xc, .slice ia r.nums.length ic]] w fun e w' => (∃ v, e = .returned v) ∧ ∃ p, w.heap.size ≤ p ∧ PageM w' p (putA (strOfNums (keyD r)) r []) ∧ MapV w' b (putA (strOfNums (keyN r.name)) (.map (some p)) ps) ∧ KeptO w w' ∧ Below n0 w w' ∧ (∀ q, q ≠ b → q < w.heap.size → w'.heap[q]? = w.heap[q]?) := by
 have MB := hide hM
 have HRR := hide h
 have zb := hM.lt
 clear hM
 have b0 := below_alloc (w := w) (.cells #[.slice na r.name.length nc, .int .i64 r.type, .int .i64 r.ttl, .int .i64 r.addr, .slice ta r.to.length tc, .slice xa r.text.length xc, .slice ia r.nums.length ic] 59)
 have KB := hide (heap_alloc_new w (.cells #[.slice na r.name.length nc, .int .i64 r.type, .int .i64 r.ttl, .int .i64 r.addr, .slice ta r.to.length tc, .slice xa r.text.length xc, .slice ia r.nums.length ic] 59))
 have hn := short_name (rrOk_parts hok).1
 have HN := hide (nameKey_has (h.name.below b0) hn.1 hn.2)
 have HD := hide (fun (w : World) (hh : HasR w (.slice na r.name.length nc) (.slice ta r.to.length tc) (.slice xa r.text.length xc) (.slice ia r.nums.length ic) r) => dataKey_has hh hok)
 have hkn := keyN_size hn
 have hkd := keyD_size hok
 obtain ⟨d0, d1, d2, d3, d4, d5, d6⟩ := cells7 (unhide KB)
 generalize hKN : strOfNums (keyN r.name) = kn at *
 generalize hKD : strOfNums (keyD r) = kd at *
 clear hKN hKD hn hok
 go_enter Tryz.func69, Tryz.ntmps69
 go_wp2_with fail
 generalize w.alloc (.cells #[.slice na r.name.length nc, .int .i64 r.type, .int .i64 r.ttl, .int .i64 r.addr, .slice ta r.to.length tc, .slice xa r.text.length xc, .slice ia r.nums.length ic] 59) = W at *
 refine (unhide HN).mono ?_
 rintro e w1 ⟨rfl, b1⟩
 replace KB := hide (block_kept b1 (unhide KB))
 have bb := below_next b0 b1
 clear b0 b1 d0 d1 d2 d3 d4 d5 d6 HN
 clear h
 replace MB := hide ((unhide MB).below bb)
 replace HRR := hide ((unhide HRR).below bb)
 have KO := hide (keptO_below bb)
 have BN := hide (bb.mono hz)
 have zw := bb.size
 have BB := hide bb
 clear bb
 have hlook := look_none (unhide MB) hkn hl
 have heql := run_eql_map_nil w1 98 9 59 none Tryz.underlying98
 simp only [Option.isNone_none] at heql
 obtain ⟨w2, hrun2, m2, g2⟩ := mapV_put (t := 64) Tryz.underlying64 Tryz.underlying9 ((unhide MB).below (below_alloc (.map #[] 0))) kn hkn (.map (some w1.heap.size))
 have hmk := run_makeMap (P := Tryz.prog) 98 w1
 go_wp2_with (first | (at_mapUpdate; refine list_put rfl (.tmp 12) (.tmp 13) (.tmp 14) 64 rfl (.map (some b)) (.string kn) (.map (some w1.heap.size)) (by simp [Act.eval]) (by simp [Act.eval]) (by simp [Act.eval]) hrun2 ?_))
 have ba := below_alloc (w := w1) (.map #[] 0)
 have za : (w1.alloc (.map #[] 0)).heap.size = w1.heap.size + 1 := World.size_alloc w1 _
 have ko2 := (keptO_below ba).trans (keptO_map g2 ((unhide MB).below ba))
 have hpg : PageM w2 w1.heap.size [] := ⟨[], (mapV_made w1).grown g2 (by simp; omega), .nil⟩
 replace KB := hide (ko2.2 _ _ (unhide KB) rfl)
 replace HRR := hide ((unhide HRR).keptX ko2.x)
 replace KO := hide ((unhide KO).trans ko2)
 have z2 := g2.size
 replace BN := hide ((unhide BN).trans (((ba.mono (by omega)).grown g2 (by omega) (fun k e => by simp at e; omega))))
 have hl2 : lookA kn (putA kn (.map (some w1.heap.size)) ps) = some (.map (some w1.heap.size)) := lookA_put
 have HPP := hide hpg
 replace MB := hide m2
 have G2 := hide g2
 have hne : w1.heap.size ≠ b := by omega
 have hp : n0 ≤ w1.heap.size := by omega
 have ZA := hide za
 have BA := hide ba
 clear hlook heql hmk hrun2 m2 g2 hl ba ko2 hpg za
 have hz0 := hz
 replace hz : n0 ≤ w2.heap.size := by have := unhide ZA; omega
 rename lookA kn (putA kn (.map (some w1.heap.size)) ps) = some (.map (some w1.heap.size)) => hl
 have hsz : w1.heap.size ≤ w2.heap.size := by have := unhide ZA; omega
 generalize hp0 : w1.heap.size = p at *
 have bd := below_drew (w := w2)
 replace KB := hide (block_kept bd (unhide KB))
 replace MB := hide ((unhide MB).below bd)
 replace HPP := hide ((unhide HPP).kept (bd.block _ (unhide HPP).lt) (keptX_below bd))
 replace HRR := hide ((unhide HRR).below bd)
 replace KO := hide ((unhide KO).trans (keptO_below bd))
 replace BN := hide ((unhide BN).trans (bd.mono hz))
 have zd := bd.size
 clear bd
 refine wp_region_held_drew (S := (fun w' => (w'.cell? ⟨w.heap.size, 0, none⟩ = some (.slice na r.name.length nc) ∧ w'.cell? ⟨w.heap.size, 1, none⟩ = some (.int .i64 r.type) ∧ w'.cell? ⟨w.heap.size, 2, none⟩ = some (.int .i64 r.ttl) ∧ w'.cell? ⟨w.heap.size, 3, none⟩ = some (.int .i64 r.addr) ∧ w'.cell? ⟨w.heap.size, 4, none⟩ = some (.slice ta r.to.length tc) ∧ w'.cell? ⟨w.heap.size, 5, none⟩ = some (.slice xa r.text.length xc) ∧ w'.cell? ⟨w.heap.size, 6, none⟩ = some (.slice ia r.nums.length ic)) ∧ (Instr.lookup 64 (.map (some b)) (.string kn) false).run Tryz.prog w' = .ok (.map (some p)) w')) (by kernel_rfl) ⟨cells7 (unhide KB), look_page (unhide MB) hkn hl⟩ (fun hHeld => ?_)
 show wpAnyH _ _ _ _ _ 7 #[false, false, false, false, false, false, false] _ _
 have HD2 : Hid (∀ q : Nat, w2.drew.heap[q]? = w2.heap[q]?) := fun _ => rfl
 generalize w2.drew = W0 at *
 refine tkF (.map (some b)) rfl (by kernel_rfl) (by kernel_rfl) (fun _ _ _ h => h) ?_ hHeld ?_; (· (intro w hSw; (try dsimp only at hSw); go_simp)); simp only [Act.put, setF, List.setIfInBounds_toArray, List.set_cons_zero, List.set_cons_succ]
 refine tkF (.string kn) rfl (by kernel_rfl) (by kernel_rfl) (fun _ _ _ h => h) ?_ hHeld ?_; (· (intro w hSw; (try dsimp only at hSw); go_simp)); simp only [Act.put, setF, List.setIfInBounds_toArray, List.set_cons_zero, List.set_cons_succ]
 refine tkF (.map (some p)) rfl (by kernel_rfl) (by kernel_rfl) (fun _ _ _ h => h) ?_ hHeld ?_; (· (intro w hSw; (try dsimp only at hSw); go_simp)); simp only [Act.put, setF, List.setIfInBounds_toArray, List.set_cons_zero, List.set_cons_succ]
 refine tkF (.agg #[.slice na r.name.length nc, .int .i64 r.type, .int .i64 r.ttl, .int .i64 r.addr, .slice ta r.to.length tc, .slice xa r.text.length xc, .slice ia r.nums.length ic]) rfl (by kernel_rfl) (by kernel_rfl) (fun _ _ _ h => h) ?_ hHeld ?_; (· (intro w hSw; (try dsimp only at hSw); go_simp)); simp only [Act.put, setF, List.setIfInBounds_toArray, List.set_cons_zero, List.set_cons_succ]
 refine tkI 5 (.agg #[.slice na r.name.length nc, .int .i64 r.type, .int .i64 r.ttl, .int .i64 r.addr, .slice ta r.to.length tc, .slice xa r.text.length xc, .slice ia r.nums.length ic]) rfl (by kernel_rfl) (by kernel_rfl) (fun _ _ _ h => h) ?_ hHeld ?_
 ·(intro w hSw; (try dsimp only at hSw); go_simp)
 try simp only [Act.put, List.setIfInBounds_toArray, List.set_cons_zero, List.set_cons_succ]
 refine wpAnyH_ready (rs := [4]) (by kernel_rfl) (by simp) (AllReadyH.cons (ops_drop rfl) (fun K hK => ?_) AllReadyH.nil)
 have HK := hide hK
 clear hK hHeld
 go_simp
 refine (unhide HD _ (unhide HRR)).mono ?_
 rintro e w4 ⟨rfl, b4⟩
 replace KB := hide (block_kept b4 (unhide KB))
 replace MB := hide ((unhide MB).below b4)
 replace HPP := hide ((unhide HPP).kept (b4.block _ (unhide HPP).lt) (keptX_below b4))
 replace HRR := hide ((unhide HRR).below b4)
 replace KO := hide ((unhide KO).trans (keptO_below b4))
 replace BN := hide ((unhide BN).trans (b4.mono (by omega)))
 have z4 := b4.size
 have HB4 := hide b4
 clear b4
 go_simp
 refine (unhide HK).out _ _ ⟨cells7 (unhide KB), look_page (unhide MB) hkn hl⟩ (fun hHeld => ?_)
 clear HK K
 try simp only [List.setIfInBounds_toArray, List.set_cons_zero, List.set_cons_succ]
 refine wpAnyH_ready (rs := [6]) (by kernel_rfl) (by simp) (AllReadyH.cons (ops_drop rfl) (fun K hK => ?_) AllReadyH.nil)
 have HK := hide hK
 clear hK hHeld
 obtain ⟨w5, hrun, hp5, g5, k5⟩ := page_put (t := 98) Tryz.underlying98 Tryz.underlying9 (unhide HPP) kd hkd ⟨_, _, _, _, rfl, unhide HRR⟩
 refine step_put rfl (.tmp 17) (.tmp 19) (.tmp 20) 98 rfl (.map (some p)) (.string kd) (.agg #[.slice na r.name.length nc, .int .i64 r.type, .int .i64 r.ttl, .int .i64 r.addr, .slice ta r.to.length tc, .slice xa r.text.length xc, .slice ia r.nums.length ic]) (by simp [Act.eval]) (by simp [Act.eval]) (by simp [Act.eval]) hrun ?_
 have m5 := (unhide MB).grown g5 (by simpa using hne)
 have kb5 := k5.2 _ _ (unhide KB) rfl
 replace KO := hide ((unhide KO).trans k5)
 replace BN := hide ((unhide BN).grown g5 (by omega) (fun k e => by simp at e; omega))
 clear hrun
 refine (unhide HK).out _ _ ⟨cells7 kb5, look_page m5 hkn hl⟩ (fun hHeld => ?_)
 clear HK K
 try simp only [List.setIfInBounds_toArray, List.set_cons_zero, List.set_cons_succ]
 refine wpAnyH_done (by kernel_rfl) ?_ _
 clear hHeld
 go_wp2_with fail
 go_end0
 refine ⟨⟨_, rfl⟩, p, by omega, hp5, m5, unhide KO, unhide BN, fun q hq hlt => ?_⟩
 rw [g5.block q (by omega) (by simp; omega), (unhide HB4).block q (by omega)]
 rw [show W0.heap[q]? = w2.heap[q]? from unhide HD2 q, (unhide G2).block q (by have := unhide ZA; omega) (by simpa using hq), (unhide BA).block q (by omega)]
 exact (unhide BB).block q hlt

theorem bookPut_has {n0 b : Nat} {B : Bk} {vn vt vx vi : Value} {r : Rec} {w : World} (hB : BookM n0 w b B) (h : HasR w vn vt vx vi r) (hok : rrOk r = true) (hz : n0 ≤ w.heap.size) :
  Calls Tryz.prog 69 #[.map (some b), .agg #[vn, .int .i64 r.type, .int .i64 r.ttl, .int .i64 r.addr, vt, vx, vi]] w fun e w' => (∃ v, e = .returned v) ∧ BookM n0 w' b (bkPut (strOfNums (keyN r.name)) (strOfNums (keyD r)) r B) ∧ KeptO w w' ∧ Below n0 w w' := by
 obtain ⟨na, nc, rfl, _⟩ := h.name.form
 obtain ⟨ta, tc, rfl, _⟩ := h.to.form
 obtain ⟨xa, xc, rfl, _⟩ := h.text.form
 obtain ⟨ia, ic, rfl, _⟩ := h.nums.form
 obtain ⟨h0, ps, h1, h2, h3⟩ := hB
 unfold bkPut
 rcases two_look (k := strOfNums (keyN r.name)) h2 with ⟨l1, l2⟩ | ⟨v, P, l1, l2, ⟨p, rfl, q1, q2, q3⟩, l4⟩
 ·rw [l2]
  refine (put_new h hok h1 l1 h0 hz).mono ?_
  rintro e w' ⟨he, p, hp, p1, p2, p3, p4, p5⟩
  have zb := h1.lt
  refine ⟨he, book_put h0 h1 h2 h3 p2 p1 (by omega) (by omega) (fun q hq _ e => ?_) p3.x (fun q _ q2 q3 => p5 q q2 q3), p3, p4⟩
  obtain ⟨c, _, _, p', e1, _, _, e2⟩ := h2.left q hq
  rw [e] at e1
  cases e1
  have := e2.lt
  omega
 ·rw [l2]
  refine (put_there h hok h1 l1 q3 q2 q1 hz).mono ?_
  rintro e w' ⟨he, p1, p2, p3, p4, p5⟩
  exact ⟨he, book_put h0 h1 h2 h3 (by rw [putA_same l1]; exact p2) p1 q1 q2 (other_page h3 l4) p3.x (fun q e1 _ q3 => p5 q e1 q3), p3, p4⟩
end Go.Proofs.YtfgcmjpkgdjcfaaGreat

namespace Go.Proofs
open Go.Shelf
def Tryz.sort126_ren : Go.Shelf.Ren := ⟨fun | 6 => 126 | 8 => 139 | 9 => 138 | 19 => 151 | 20 => 152 | 21 => 142 | 22 => 143 | 23 => 144 | 24 => 145 | 25 => 146 | 26 => 147 | 27 => 148 | 28 => 149 | 29 => 150 | 36 => 158 | 31 => 159 | 32 => 160 | 37 => 161 | 38 => 162 | 39 => 163 | 41 => 166 | n => n, fun | 27 => 120 | 29 => 9 | 3 => 3 | 32 => 154 | 26 => 120 | 0 => 0 | 44 => 175 | 46 => 177 | 4 => 4 | 36 => 167 | 35 => 166 | 41 => 172 | 5 => 5 | 9 => 9 | 53 => 180 | 57 => 184 | 63 => 188 | 64 => 189 | n => n, fun | n => n⟩
theorem Tryz.sort126 : Go.Proofs.SlLaysM.n6 Tryz.prog Tryz.sort126_ren := {
  mixed := by kernel_rfl
  f6 := ⟨Tryz.f126.name, by decide, Tryz.func126.trans (congrArg some (by kernel_rfl))⟩
  f8 := Tryz.func139.trans (congrArg some (by kernel_rfl))
  f9 := ⟨Tryz.f138.name, by decide, Tryz.func138.trans (congrArg some (by kernel_rfl))⟩
  f19 := Tryz.func151.trans (congrArg some (by kernel_rfl))
  f20 := Tryz.func152.trans (congrArg some (by kernel_rfl))
  f21 := ⟨Tryz.f142.name, by decide, Tryz.func142.trans (congrArg some (by kernel_rfl))⟩
  f22 := ⟨Tryz.f143.name, by decide, Tryz.func143.trans (congrArg some (by kernel_rfl))⟩
  f23 := ⟨Tryz.f144.name, by decide, Tryz.func144.trans (congrArg some (by kernel_rfl))⟩
  f24 := ⟨Tryz.f145.name, by decide, Tryz.func145.trans (congrArg some (by kernel_rfl))⟩
  f25 := ⟨Tryz.f146.name, by decide, Tryz.func146.trans (congrArg some (by kernel_rfl))⟩
  f26 := ⟨Tryz.f147.name, by decide, Tryz.func147.trans (congrArg some (by kernel_rfl))⟩
  f27 := ⟨Tryz.f148.name, by decide, Tryz.func148.trans (congrArg some (by kernel_rfl))⟩
  f28 := ⟨Tryz.f149.name, by decide, Tryz.func149.trans (congrArg some (by kernel_rfl))⟩
  f29 := ⟨Tryz.f150.name, by decide, Tryz.func150.trans (congrArg some (by kernel_rfl))⟩
  f31 := Tryz.func159.trans (congrArg some (by kernel_rfl))
  f32 := Tryz.func160.trans (congrArg some (by kernel_rfl))
  f36 := ⟨Tryz.f158.name, by decide, Tryz.func158.trans (congrArg some (by kernel_rfl))⟩
  f37 := ⟨Tryz.f161.name, by decide, Tryz.func161.trans (congrArg some (by kernel_rfl))⟩
  f38 := ⟨Tryz.f162.name, by decide, Tryz.func162.trans (congrArg some (by kernel_rfl))⟩
  f39 := ⟨Tryz.f163.name, by decide, Tryz.func163.trans (congrArg some (by kernel_rfl))⟩
  f41 := ⟨Tryz.f166.name, by decide, Tryz.func166.trans (congrArg some (by kernel_rfl))⟩
  t0 := Tryz.underlying0
  a0 := Tryz.isAgg0
  z0 := Tryz.sizeOf0
  v0 := Tryz.zeroValue0
  t3 := Tryz.underlying3
  a3 := Tryz.isAgg3
  z3 := Tryz.sizeOf3
  v3 := Tryz.zeroValue3
  t4 := Tryz.underlying4
  a4 := Tryz.isAgg4
  z4 := Tryz.sizeOf4
  v4 := Tryz.zeroValue4
  t5 := Tryz.underlying5
  a5 := Tryz.isAgg5
  z5 := Tryz.sizeOf5
  v5 := Tryz.zeroValue5
  t9 := Tryz.underlying9
  a9 := Tryz.isAgg9
  z9 := Tryz.sizeOf9
  v9 := Tryz.zeroValue9
  t26 := Tryz.underlying120
  a26 := Tryz.isAgg120
  z26 := Tryz.sizeOf120
  v26 := Tryz.zeroValue120
  t27 := Tryz.underlying120
  a27 := Tryz.isAgg120
  z27 := Tryz.sizeOf120
  v27 := Tryz.zeroValue120
  t29 := Tryz.underlying9
  a29 := Tryz.isAgg9
  z29 := Tryz.sizeOf9
  v29 := Tryz.zeroValue9
  t32 := Tryz.underlying154
  a32 := Tryz.isAgg154
  z32 := Tryz.sizeOf154
  v32 := Tryz.zeroValue154
  t35 := Tryz.underlying166
  a35 := Tryz.isAgg166
  z35 := Tryz.sizeOf166
  v35 := Tryz.zeroValue166
  t36 := Tryz.underlying167
  a36 := Tryz.isAgg167
  z36 := Tryz.sizeOf167
  v36 := Tryz.zeroValue167
  t41 := Tryz.underlying172
  a41 := Tryz.isAgg172
  z41 := Tryz.sizeOf172
  v41 := Tryz.zeroValue172
  t44 := Tryz.underlying175
  a44 := Tryz.isAgg175
  z44 := Tryz.sizeOf175
  v44 := Tryz.zeroValue175
  t46 := Tryz.underlying177
  a46 := Tryz.isAgg177
  z46 := Tryz.sizeOf177
  v46 := Tryz.zeroValue177
  t53 := Tryz.underlying180
  a53 := Tryz.isAgg180
  z53 := Tryz.sizeOf180
  v53 := Tryz.zeroValue180
  t57 := Tryz.underlying184
  a57 := Tryz.isAgg184
  z57 := Tryz.sizeOf184
  v57 := Tryz.zeroValue184
  t63 := Tryz.underlying188
  a63 := Tryz.isAgg188
  z63 := Tryz.sizeOf188
  v63 := Tryz.zeroValue188
  t64 := Tryz.underlying189
  a64 := Tryz.isAgg189
  z64 := Tryz.sizeOf189
  v64 := Tryz.zeroValue189 }
def Tryz.sorted103_ren : Go.Shelf.Ren := ⟨fun | 6 => 103 | 8 => 125 | 9 => 126 | 11 => 137 | 13 => 139 | 12 => 138 | 23 => 151 | 24 => 152 | 14 => 142 | 15 => 143 | 16 => 144 | 17 => 145 | 18 => 146 | 19 => 147 | 20 => 148 | 21 => 149 | 22 => 150 | 25 => 158 | 26 => 159 | 27 => 160 | 28 => 161 | 29 => 162 | 30 => 163 | 31 => 166 | n => n, fun | 26 => 9 | 28 => 123 | 24 => 120 | 0 => 0 | 3 => 3 | 37 => 154 | 48 => 175 | 50 => 177 | 4 => 4 | 40 => 167 | 39 => 166 | 45 => 172 | 5 => 5 | 9 => 9 | 51 => 180 | 55 => 184 | 57 => 188 | 58 => 189 | 33 => 152 | n => n, fun | n => n⟩
theorem Tryz.sorted103 : Go.Proofs.SlLaysZ.n6 Tryz.prog Tryz.sorted103_ren := {
  mixed := by kernel_rfl
  f6 := ⟨Tryz.f103.name, by decide, Tryz.func103.trans (congrArg some (by kernel_rfl))⟩
  f8 := ⟨Tryz.f125.name, by decide, Tryz.func125.trans (congrArg some (by kernel_rfl))⟩
  f11 := ⟨Tryz.f137.name, by decide, Tryz.func137.trans (congrArg some (by kernel_rfl))⟩
  t0 := Tryz.underlying0
  a0 := Tryz.isAgg0
  z0 := Tryz.sizeOf0
  v0 := Tryz.zeroValue0
  t24 := Tryz.underlying120
  a24 := Tryz.isAgg120
  z24 := Tryz.sizeOf120
  v24 := Tryz.zeroValue120
  t26 := Tryz.underlying9
  a26 := Tryz.isAgg9
  z26 := Tryz.sizeOf9
  v26 := Tryz.zeroValue9
  t28 := Tryz.underlying123
  a28 := Tryz.isAgg123
  z28 := Tryz.sizeOf123
  v28 := Tryz.zeroValue123
  i26 := by kernel_rfl }
def Tryz.keys104_ren : Go.Shelf.Ren := ⟨fun | 7 => 104 | 10 => 127 | n => n, fun | 23 => 97 | 26 => 9 | 3 => 59 | 28 => 123 | 0 => 0 | 27 => 122 | 33 => 152 | 4 => 4 | n => n, fun | n => n⟩
theorem Tryz.keys104 : Go.Proofs.SlLaysZ.n7 Tryz.prog Tryz.keys104_ren := {
  mixed := by kernel_rfl
  f7 := ⟨Tryz.f104.name, by decide, Tryz.func104.trans (congrArg some (by kernel_rfl))⟩
  f10 := ⟨Tryz.f127.name, by decide, Tryz.func127.trans (congrArg some (by kernel_rfl))⟩
  t0 := Tryz.underlying0
  a0 := Tryz.isAgg0
  z0 := Tryz.sizeOf0
  v0 := Tryz.zeroValue0
  t4 := Tryz.underlying4
  a4 := Tryz.isAgg4
  z4 := Tryz.sizeOf4
  v4 := Tryz.zeroValue4
  t23 := Tryz.underlying97
  a23 := Tryz.isAgg97
  z23 := Tryz.sizeOf97
  v23 := Tryz.zeroValue97
  t26 := Tryz.underlying9
  a26 := Tryz.isAgg9
  z26 := Tryz.sizeOf9
  v26 := Tryz.zeroValue9
  t27 := Tryz.underlying122
  a27 := Tryz.isAgg122
  z27 := Tryz.sizeOf122
  v27 := Tryz.zeroValue122
  t28 := Tryz.underlying123
  a28 := Tryz.isAgg123
  z28 := Tryz.sizeOf123
  v28 := Tryz.zeroValue123
  t33 := Tryz.underlying152
  a33 := Tryz.isAgg152
  z33 := Tryz.sizeOf152
  v33 := Tryz.zeroValue152 }
def Tryz.keys110_ren : Go.Shelf.Ren := ⟨fun | 7 => 110 | 10 => 129 | n => n, fun | 23 => 63 | 26 => 9 | 3 => 98 | 28 => 123 | 0 => 0 | 27 => 122 | 33 => 152 | 4 => 4 | n => n, fun | n => n⟩
theorem Tryz.keys110 : Go.Proofs.SlLaysZ.n7 Tryz.prog Tryz.keys110_ren := {
  mixed := by kernel_rfl
  f7 := ⟨Tryz.f110.name, by decide, Tryz.func110.trans (congrArg some (by kernel_rfl))⟩
  f10 := ⟨Tryz.f129.name, by decide, Tryz.func129.trans (congrArg some (by kernel_rfl))⟩
  t0 := Tryz.underlying0
  a0 := Tryz.isAgg0
  z0 := Tryz.sizeOf0
  v0 := Tryz.zeroValue0
  t4 := Tryz.underlying4
  a4 := Tryz.isAgg4
  z4 := Tryz.sizeOf4
  v4 := Tryz.zeroValue4
  t23 := Tryz.underlying63
  a23 := Tryz.isAgg63
  z23 := Tryz.sizeOf63
  v23 := Tryz.zeroValue63
  t26 := Tryz.underlying9
  a26 := Tryz.isAgg9
  z26 := Tryz.sizeOf9
  v26 := Tryz.zeroValue9
  t27 := Tryz.underlying122
  a27 := Tryz.isAgg122
  z27 := Tryz.sizeOf122
  v27 := Tryz.zeroValue122
  t28 := Tryz.underlying123
  a28 := Tryz.isAgg123
  z28 := Tryz.sizeOf123
  v28 := Tryz.zeroValue123
  t33 := Tryz.underlying152
  a33 := Tryz.isAgg152
  z33 := Tryz.sizeOf152
  v33 := Tryz.zeroValue152 }
end Go.Proofs

namespace Go.Proofs.YtfgcmjpkgdjcfaaGreat
open Go.RowKit

/-- n ends with all labels of z. -/
def endsWith (n z : List (List Int)) : Bool := decide (z.length ≤ n.length) && (cmpN (n.drop (n.length - z.length)) z == 0)
def under (n z : List (List Int)) : Bool := nameOk n && (nameOk z && endsWith n z)

theorem endsWith_no {n z : List (List Int)} (h : n.length < z.length) : endsWith n z = false := by
 unfold endsWith
 rw [decide_eq_false (by omega)]
 rfl
theorem endsWith_yes {n z : List (List Int)} (h : z.length ≤ n.length) : endsWith n z = (cmpN (n.drop (n.length - z.length)) z == 0) := by
 unfold endsWith
 rw [decide_eq_true h]
 rfl

theorem nameOk_drop {n : List (List Int)} (h : nameOk n = true) (k : Nat) : nameOk (n.drop k) = true := by
 obtain ⟨h1, h2⟩ := nameOk_parts h
 refine nameOk_yes (by simp; omega) fun j hj => ?_
 simp at hj
 have := h2 (k + j) (by omega)
 have e : (n.drop k).getD j [] = n.getD (k + j) [] := by simp [List.getD]
 rw [e]; exact this

theorem HasL.drop {w : World} {a : Option Addr} {m cap k : Nat} {n : List (List Int)} (h : HasL w (.slice a m cap) n) (hn : n.length = m) (hk : k ≤ m) :
  (a = none ∧ m = 0 ∧ cap = 0) ∨ ∃ g off, a = some ⟨g, off, none⟩ ∧ HasL w (.slice (if cap = k then some ⟨g, off, none⟩ else some ⟨g, off + k, none⟩) (m - k) (cap - k)) (n.drop k) := by
 subst hn
 rcases h with ⟨hv, rfl⟩ | ⟨g, off, cap', hv, hlt, hl, hm, hc⟩
 ·simp only [Value.slice.injEq] at hv
  exact .inl ⟨hv.1, rfl, hv.2.2⟩
 ·simp only [Value.slice.injEq, true_and] at hv
  obtain ⟨rfl, rfl⟩ := hv
  right
  refine ⟨g, off, rfl, ?_⟩
  have hlen : (n.drop k).length = n.length - k := by simp
  by_cases e : cap = k
  ·rw [if_pos e]
   refine .inr ⟨g, off, cap - k, by rw [hlen], hlt, by rw [hlen]; omega, by omega, fun i hi => ?_⟩
   rw [hlen] at hi
   omega
  ·rw [if_neg e]
   refine .inr ⟨g, off + k, cap - k, by rw [hlen], hlt, by rw [hlen]; omega, by omega, fun i hi => ?_⟩
   rw [hlen] at hi
   obtain ⟨u, h1, h2⟩ := hc (k + i) (by omega)
   refine ⟨u, by rw [Nat.add_assoc]; exact h1, ?_⟩
   have e2 : (n.drop k).getD i [] = n.getD (k + i) [] := by simp [List.getD]
   rw [e2]; exact h2

end Go.Proofs.YtfgcmjpkgdjcfaaGreat
