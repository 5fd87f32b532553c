/-
  Contract of the program's put: a record more in a book. The library functions that gather and sort the keys of maps, by the contracts that lie compiled in the library, laid at this program by the shelf's own command in plain words. slices.Sorted(maps.Keys(m)) of the library, at maps of records: the keys, ascending.
-/
import Derived.Test.YthobpbnaklnbiaaGreatFnDropSetsG39
import Derived.Shelf.SlIter.Nil
import Derived.Shelf.SortM.Plain
import Derived.Shelf.SortM.SortNone
import Derived.Ground.GgzProg
import Derived.Ground.SlgmProg
import Derived.Test.YthobpbnaklnbiaaGreatProg
namespace Go.Proofs.YthobpbnaklnbiaaGreat
open Go.RowKit
set_option linter.unusedVariables false
set_option maxHeartbeats 1000000
set_option maxRecDepth 100000

theorem Qq (w : World) : (zeroValue 80).run Tryz.prog w = .ok (.map none) w := by
 have h : (Tryz.prog.info? 80).map (fun i => i.zero) = some (some (.map none)) := by kernel_rfl
 obtain ⟨i, h1, h2⟩ := Option.map_eq_some_iff.1 h
 simp [zeroValue, typeInfo, h1, h2, go_sem]
theorem De {w : World} {b p : Nat} {ps : List (ByteArray × Value)} {kn : ByteArray} (h : MapV w b ps) (hk : kn.size ≤ maxLen) (hl : Aj kn ps = some (.map (some p))) : (Instr.lookup 52 (.map (some b)) (.string kn) false).run Tryz.prog w = .ok (.map (some p)) w := by
 have := Jb (e := 80) (t := 52) Tryz.underlying52 Tryz.underlying9 (Qq w) h kn hk
 rw [hl] at this
 exact this
theorem Lt {w : World} {b : Nat} {ps : List (ByteArray × Value)} {kn : ByteArray} (h : MapV w b ps) (hk : kn.size ≤ maxLen) (hl : Aj kn ps = none) : (Instr.lookup 52 (.map (some b)) (.string kn) false).run Tryz.prog w = .ok (.map none) w := by
 have := Jb (e := 80) (t := 52) Tryz.underlying52 Tryz.underlying9 (Qq w) h kn hk
 rw [hl] at this
 exact this
theorem Gh {n : List (List Int)} (h : Lz n) : (strOfNums (keyN n)).size ≤ maxLen := by
 rw [strOfNums_size]
 have : (keyP n.reverse).length ≤ 16 * n.reverse.length := Tw (fun l hl => by
  obtain ⟨i, hi, rfl⟩ := List.getElem_of_mem (List.mem_reverse.1 hl)
  have := h.2 i hi
  simpa [hi] using this)
 have h1 := h.1
 have e : keyN n = keyP n.reverse := rfl
 rw [List.length_reverse] at this
 rw [e]
 unfold maxLen
 omega
theorem Ja {r : Rec} (h : rrOk r = true) : (strOfNums (keyD r)).size ≤ maxLen := by
 rw [strOfNums_size]
 have := Kn h
 simp [keyD, maxLen]
 omega

theorem Ws {n0 b p : Nat} {ps : List (ByteArray × Value)} {P : Pg} {na : Option Addr} {nc : Nat} {ta : Option Addr} {tc : Nat} {xa : Option Addr} {xc : Nat} {ia : Option Addr} {ic : Nat} {r : Rec} {w : World}
  (h : HasR w (.slice na r.name.length nc) (.slice ta r.to.length tc) (.slice xa r.text.length xc) (.slice ia r.nums.length ic) r) (hok : rrOk r = true)
  (hM : MapV w b ps) (hl : Aj (strOfNums (keyN r.name)) ps = some (.map (some p))) (hP : Ew w p P) (hne : p ≠ b) (hp : n0 ≤ p) (hz : n0 ≤ w.heap.size) :
  Calls Tryz.prog 55 #[.map (some b), .agg #[.slice na r.name.length nc, .int .i64 r.type, .int .i64 r.ttl, .int .i64 r.addr, .slice ta r.to.length tc, .slice xa r.text.length xc, .slice ia r.nums.length ic]] w fun e w' => (∃ v, e = .returned v) ∧ Ew w' p (putA (strOfNums (keyD r)) r P) ∧ MapV w' b ps ∧ Ey w w' ∧ Below n0 w w' ∧ (∀ q, q ≠ p → q < w.heap.size → w'.heap[q]? = w.heap[q]?) := by
 have MB := UC hM
 have HPP := UC hP
 have HRR := UC h
 clear hM hP
 have b0 := UI (w := w) (.cells #[.slice na r.name.length nc, .int .i64 r.type, .int .i64 r.ttl, .int .i64 r.addr, .slice ta r.to.length tc, .slice xa r.text.length xc, .slice ia r.nums.length ic] 39)
 have KB := UC (heap_alloc_new w (.cells #[.slice na r.name.length nc, .int .i64 r.type, .int .i64 r.ttl, .int .i64 r.addr, .slice ta r.to.length tc, .slice xa r.text.length xc, .slice ia r.nums.length ic] 39))
 have hn := Ce (Ai hok).1
 have HN := UC (Fx (h.name.below b0) hn.1 hn.2)
 have HD := UC (fun (w : World) (hh : HasR w (.slice na r.name.length nc) (.slice ta r.to.length tc) (.slice xa r.text.length xc) (.slice ia r.nums.length ic) r) => Fu hh hok)
 have hkn := Gh hn
 have hkd := Ja hok
 obtain ⟨d0, d1, d2, d3, d4, d5, d6⟩ := UJ (UB KB)
 generalize hKN : strOfNums (keyN r.name) = kn at *
 generalize hKD : strOfNums (keyD r) = kd at *
 clear hKN hKD hn hok
 go_enter Tryz.func55, Tryz.ntmps55
 go_wp2_with fail
 generalize w.alloc (.cells #[.slice na r.name.length nc, .int .i64 r.type, .int .i64 r.ttl, .int .i64 r.addr, .slice ta r.to.length tc, .slice xa r.text.length xc, .slice ia r.nums.length ic] 39) = W at *
 refine (UB HN).mono ?_
 rintro e w1 ⟨rfl, b1⟩
 replace KB := UC (UE b1 (UB KB))
 have bb := UG b0 b1
 clear b0 b1 d0 d1 d2 d3 d4 d5 d6 HN
 clear h
 replace MB := UC ((UB MB).below bb)
 replace HPP := UC ((UB HPP).kept (bb.block _ (UB HPP).lt) (C2 bb))
 replace HRR := UC ((UB HRR).below bb)
 have KO := UC (By bb)
 have BN := UC (bb.mono hz)
 have hz0 := hz
 replace hz : n0 ≤ w1.heap.size := Nat.le_trans hz bb.size
 have BB := UC bb
 clear bb
 have hlook := De (UB MB) hkn hl
 have heql := run_eql_map_nil w1 80 9 39 (some p) Tryz.underlying80
 simp only [Option.isNone_some] at heql
 go_wp2_with fail
 clear hlook heql
 have bd := UX (w := w1)
 replace KB := UC (UE bd (UB KB))
 replace MB := UC ((UB MB).below bd)
 replace HPP := UC ((UB HPP).kept (bd.block _ (UB HPP).lt) (C2 bd))
 replace HRR := UC ((UB HRR).below bd)
 replace KO := UC ((UB KO).trans (By bd))
 replace BN := UC ((UB BN).trans (bd.mono hz))
 have zd := bd.size
 clear bd
 refine wp_region_held_drew (S := (fun w' => (w'.cell? ⟨w.heap.size, 0, none⟩ = some (.slice na r.name.length nc) ∧ w'.cell? ⟨w.heap.size, 1, none⟩ = some (.int .i64 r.type) ∧ w'.cell? ⟨w.heap.size, 2, none⟩ = some (.int .i64 r.ttl) ∧ w'.cell? ⟨w.heap.size, 3, none⟩ = some (.int .i64 r.addr) ∧ w'.cell? ⟨w.heap.size, 4, none⟩ = some (.slice ta r.to.length tc) ∧ w'.cell? ⟨w.heap.size, 5, none⟩ = some (.slice xa r.text.length xc) ∧ w'.cell? ⟨w.heap.size, 6, none⟩ = some (.slice ia r.nums.length ic)) ∧ (Instr.lookup 52 (.map (some b)) (.string kn) false).run Tryz.prog w' = .ok (.map (some p)) w')) (by kernel_rfl) ⟨UJ (UB KB), De (UB MB) hkn hl⟩ (fun hHeld => ?_)
 show wpAnyH _ _ _ _ _ 7 #[false, false, false, false, false, false, false] _ _
 have HD2 : Hid (∀ q : Nat, w1.drew.heap[q]? = w1.heap[q]?) := fun _ => rfl
 generalize w1.drew = W0 at *
 refine tkF (.map (some b)) rfl (by kernel_rfl) (by kernel_rfl) (fun _ _ _ h => h) ?_ hHeld ?_; (· (intro w hSw; (try dsimp only at hSw); go_simp)); simp only [Act.put, setF, List.setIfInBounds_toArray, List.set_cons_zero, List.set_cons_succ]
 refine tkF (.string kn) rfl (by kernel_rfl) (by kernel_rfl) (fun _ _ _ h => h) ?_ hHeld ?_; (· (intro w hSw; (try dsimp only at hSw); go_simp)); simp only [Act.put, setF, List.setIfInBounds_toArray, List.set_cons_zero, List.set_cons_succ]
 refine tkF (.map (some p)) rfl (by kernel_rfl) (by kernel_rfl) (fun _ _ _ h => h) ?_ hHeld ?_; (· (intro w hSw; (try dsimp only at hSw); go_simp)); simp only [Act.put, setF, List.setIfInBounds_toArray, List.set_cons_zero, List.set_cons_succ]
 refine tkF (.agg #[.slice na r.name.length nc, .int .i64 r.type, .int .i64 r.ttl, .int .i64 r.addr, .slice ta r.to.length tc, .slice xa r.text.length xc, .slice ia r.nums.length ic]) rfl (by kernel_rfl) (by kernel_rfl) (fun _ _ _ h => h) ?_ hHeld ?_; (· (intro w hSw; (try dsimp only at hSw); go_simp)); simp only [Act.put, setF, List.setIfInBounds_toArray, List.set_cons_zero, List.set_cons_succ]
 refine tkI 5 (.agg #[.slice na r.name.length nc, .int .i64 r.type, .int .i64 r.ttl, .int .i64 r.addr, .slice ta r.to.length tc, .slice xa r.text.length xc, .slice ia r.nums.length ic]) rfl (by kernel_rfl) (by kernel_rfl) (fun _ _ _ h => h) ?_ hHeld ?_
 ·(intro w hSw; (try dsimp only at hSw); go_simp)
 try simp only [Act.put, List.setIfInBounds_toArray, List.set_cons_zero, List.set_cons_succ]
 refine wpAnyH_ready (rs := [4]) (by kernel_rfl) (by simp) (AllReadyH.cons (UY rfl) (fun K hK => ?_) AllReadyH.nil)
 have HK := UC hK
 clear hK hHeld
 go_simp
 refine (UB HD _ (UB HRR)).mono ?_
 rintro e w4 ⟨rfl, b4⟩
 replace KB := UC (UE b4 (UB KB))
 replace MB := UC ((UB MB).below b4)
 replace HPP := UC ((UB HPP).kept (b4.block _ (UB HPP).lt) (C2 b4))
 replace HRR := UC ((UB HRR).below b4)
 replace KO := UC ((UB KO).trans (By b4))
 replace BN := UC ((UB BN).trans (b4.mono (by omega)))
 have z4 := b4.size
 have HB4 := UC b4
 clear b4
 go_simp
 refine (UB HK).out _ _ ⟨UJ (UB KB), De (UB MB) hkn hl⟩ (fun hHeld => ?_)
 clear HK K
 try simp only [List.setIfInBounds_toArray, List.set_cons_zero, List.set_cons_succ]
 refine wpAnyH_ready (rs := [6]) (by kernel_rfl) (by simp) (AllReadyH.cons (UY rfl) (fun K hK => ?_) AllReadyH.nil)
 have HK := UC hK
 clear hK hHeld
 obtain ⟨w5, hrun, hp5, g5, k5⟩ := Ta (t := 80) Tryz.underlying80 Tryz.underlying9 (UB HPP) kd hkd ⟨_, _, _, _, rfl, UB HRR⟩
 refine T0 rfl (.tmp 17) (.tmp 19) (.tmp 20) 80 rfl (.map (some p)) (.string kd) (.agg #[.slice na r.name.length nc, .int .i64 r.type, .int .i64 r.ttl, .int .i64 r.addr, .slice ta r.to.length tc, .slice xa r.text.length xc, .slice ia r.nums.length ic]) (by simp [Act.eval]) (by simp [Act.eval]) (by simp [Act.eval]) hrun ?_
 have m5 := (UB MB).grown g5 (by simpa using hne)
 have kb5 := k5.2 _ _ (UB KB) rfl
 replace KO := UC ((UB KO).trans k5)
 replace BN := UC ((UB BN).grown g5 (by omega) (fun k e => by simp at e; omega))
 clear hrun
 refine (UB HK).out _ _ ⟨UJ kb5, De m5 hkn hl⟩ (fun hHeld => ?_)
 clear HK K
 try simp only [List.setIfInBounds_toArray, List.set_cons_zero, List.set_cons_succ]
 refine wpAnyH_done (by kernel_rfl) ?_ _
 clear hHeld
 go_wp2_with fail
 go_end0
 refine ⟨⟨_, rfl⟩, hp5, m5, UB KO, UB BN, fun q hq hlt => ?_⟩
 have zz := (UB BB).size
 rw [g5.block q (by omega) (by simpa using hq), (UB HB4).block q (by omega), show W0.heap[q]? = w1.heap[q]? from UB HD2 q]
 exact (UB BB).block q hlt

theorem put_new {n0 b : Nat} {ps : List (ByteArray × Value)} {na : Option Addr} {nc : Nat} {ta : Option Addr} {tc : Nat} {xa : Option Addr} {xc : Nat} {ia : Option Addr} {ic : Nat} {r : Rec} {w : World}
  (h : HasR w (.slice na r.name.length nc) (.slice ta r.to.length tc) (.slice xa r.text.length xc) (.slice ia r.nums.length ic) r) (hok : rrOk r = true)
  (hM : MapV w b ps) (hl : Aj (strOfNums (keyN r.name)) ps = none) (hb : n0 ≤ b) (hz : n0 ≤ w.heap.size) :
  Calls Tryz.prog 55 #[.map (some b), .agg #[.slice na r.name.length nc, .int .i64 r.type, .int .i64 r.ttl, .int .i64 r.addr, .slice ta r.to.length tc, .slice xa r.text.length xc, .slice ia r.nums.length ic]] w fun e w' => (∃ v, e = .returned v) ∧ ∃ p, w.heap.size ≤ p ∧ Ew w' p (putA (strOfNums (keyD r)) r []) ∧ MapV w' b (putA (strOfNums (keyN r.name)) (.map (some p)) ps) ∧ Ey w w' ∧ Below n0 w w' ∧ (∀ q, q ≠ b → q < w.heap.size → w'.heap[q]? = w.heap[q]?) := by
 have MB := UC hM
 have HRR := UC h
 have zb := hM.lt
 clear hM
 have b0 := UI (w := w) (.cells #[.slice na r.name.length nc, .int .i64 r.type, .int .i64 r.ttl, .int .i64 r.addr, .slice ta r.to.length tc, .slice xa r.text.length xc, .slice ia r.nums.length ic] 39)
 have KB := UC (heap_alloc_new w (.cells #[.slice na r.name.length nc, .int .i64 r.type, .int .i64 r.ttl, .int .i64 r.addr, .slice ta r.to.length tc, .slice xa r.text.length xc, .slice ia r.nums.length ic] 39))
 have hn := Ce (Ai hok).1
 have HN := UC (Fx (h.name.below b0) hn.1 hn.2)
 have HD := UC (fun (w : World) (hh : HasR w (.slice na r.name.length nc) (.slice ta r.to.length tc) (.slice xa r.text.length xc) (.slice ia r.nums.length ic) r) => Fu hh hok)
 have hkn := Gh hn
 have hkd := Ja hok
 obtain ⟨d0, d1, d2, d3, d4, d5, d6⟩ := UJ (UB KB)
 generalize hKN : strOfNums (keyN r.name) = kn at *
 generalize hKD : strOfNums (keyD r) = kd at *
 clear hKN hKD hn hok
 go_enter Tryz.func55, Tryz.ntmps55
 go_wp2_with fail
 generalize w.alloc (.cells #[.slice na r.name.length nc, .int .i64 r.type, .int .i64 r.ttl, .int .i64 r.addr, .slice ta r.to.length tc, .slice xa r.text.length xc, .slice ia r.nums.length ic] 39) = W at *
 refine (UB HN).mono ?_
 rintro e w1 ⟨rfl, b1⟩
 replace KB := UC (UE b1 (UB KB))
 have bb := UG b0 b1
 clear b0 b1 d0 d1 d2 d3 d4 d5 d6 HN
 clear h
 replace MB := UC ((UB MB).below bb)
 replace HRR := UC ((UB HRR).below bb)
 have KO := UC (By bb)
 have BN := UC (bb.mono hz)
 have zw := bb.size
 have BB := UC bb
 clear bb
 have hlook := Lt (UB MB) hkn hl
 have heql := run_eql_map_nil w1 80 9 39 none Tryz.underlying80
 simp only [Option.isNone_none] at heql
 obtain ⟨w2, hrun2, m2, g2⟩ := Sg (t := 52) Tryz.underlying52 Tryz.underlying9 ((UB MB).below (UI (.map #[] 0))) kn hkn (.map (some w1.heap.size))
 have hmk := run_makeMap (P := Tryz.prog) 80 w1
 go_wp2_with (first | (at_mapUpdate; refine Yw rfl (.tmp 12) (.tmp 13) (.tmp 14) 52 rfl (.map (some b)) (.string kn) (.map (some w1.heap.size)) (by simp [Act.eval]) (by simp [Act.eval]) (by simp [Act.eval]) hrun2 ?_))
 have ba := UI (w := w1) (.map #[] 0)
 have za : (w1.alloc (.map #[] 0)).heap.size = w1.heap.size + 1 := World.size_alloc w1 _
 have ko2 := (By ba).trans (Lk g2 ((UB MB).below ba))
 have hpg : Ew w2 w1.heap.size [] := ⟨[], (Qj w1).grown g2 (by simp; omega), .nil⟩
 replace KB := UC (ko2.2 _ _ (UB KB) rfl)
 replace HRR := UC ((UB HRR).keptX ko2.x)
 replace KO := UC ((UB KO).trans ko2)
 have z2 := g2.size
 replace BN := UC ((UB BN).trans (((ba.mono (by omega)).grown g2 (by omega) (fun k e => by simp at e; omega))))
 have hl2 : Aj kn (putA kn (.map (some w1.heap.size)) ps) = some (.map (some w1.heap.size)) := Lc
 have HPP := UC hpg
 replace MB := UC m2
 have G2 := UC g2
 have hne : w1.heap.size ≠ b := by omega
 have hp : n0 ≤ w1.heap.size := by omega
 have ZA := UC za
 have BA := UC ba
 clear hlook heql hmk hrun2 m2 g2 hl ba ko2 hpg za
 have hz0 := hz
 replace hz : n0 ≤ w2.heap.size := by have := UB ZA; omega
 rename Aj kn (putA kn (.map (some w1.heap.size)) ps) = some (.map (some w1.heap.size)) => hl
 have hsz : w1.heap.size ≤ w2.heap.size := by have := UB ZA; omega
 generalize hp0 : w1.heap.size = p at *
 have bd := UX (w := w2)
 replace KB := UC (UE bd (UB KB))
 replace MB := UC ((UB MB).below bd)
 replace HPP := UC ((UB HPP).kept (bd.block _ (UB HPP).lt) (C2 bd))
 replace HRR := UC ((UB HRR).below bd)
 replace KO := UC ((UB KO).trans (By bd))
 replace BN := UC ((UB BN).trans (bd.mono hz))
 have zd := bd.size
 clear bd
 refine wp_region_held_drew (S := (fun w' => (w'.cell? ⟨w.heap.size, 0, none⟩ = some (.slice na r.name.length nc) ∧ w'.cell? ⟨w.heap.size, 1, none⟩ = some (.int .i64 r.type) ∧ w'.cell? ⟨w.heap.size, 2, none⟩ = some (.int .i64 r.ttl) ∧ w'.cell? ⟨w.heap.size, 3, none⟩ = some (.int .i64 r.addr) ∧ w'.cell? ⟨w.heap.size, 4, none⟩ = some (.slice ta r.to.length tc) ∧ w'.cell? ⟨w.heap.size, 5, none⟩ = some (.slice xa r.text.length xc) ∧ w'.cell? ⟨w.heap.size, 6, none⟩ = some (.slice ia r.nums.length ic)) ∧ (Instr.lookup 52 (.map (some b)) (.string kn) false).run Tryz.prog w' = .ok (.map (some p)) w')) (by kernel_rfl) ⟨UJ (UB KB), De (UB MB) hkn hl⟩ (fun hHeld => ?_)
 show wpAnyH _ _ _ _ _ 7 #[false, false, false, false, false, false, false] _ _
 have HD2 : Hid (∀ q : Nat, w2.drew.heap[q]? = w2.heap[q]?) := fun _ => rfl
 generalize w2.drew = W0 at *
 refine tkF (.map (some b)) rfl (by kernel_rfl) (by kernel_rfl) (fun _ _ _ h => h) ?_ hHeld ?_; (· (intro w hSw; (try dsimp only at hSw); go_simp)); simp only [Act.put, setF, List.setIfInBounds_toArray, List.set_cons_zero, List.set_cons_succ]
 refine tkF (.string kn) rfl (by kernel_rfl) (by kernel_rfl) (fun _ _ _ h => h) ?_ hHeld ?_; (· (intro w hSw; (try dsimp only at hSw); go_simp)); simp only [Act.put, setF, List.setIfInBounds_toArray, List.set_cons_zero, List.set_cons_succ]
 refine tkF (.map (some p)) rfl (by kernel_rfl) (by kernel_rfl) (fun _ _ _ h => h) ?_ hHeld ?_; (· (intro w hSw; (try dsimp only at hSw); go_simp)); simp only [Act.put, setF, List.setIfInBounds_toArray, List.set_cons_zero, List.set_cons_succ]
 refine tkF (.agg #[.slice na r.name.length nc, .int .i64 r.type, .int .i64 r.ttl, .int .i64 r.addr, .slice ta r.to.length tc, .slice xa r.text.length xc, .slice ia r.nums.length ic]) rfl (by kernel_rfl) (by kernel_rfl) (fun _ _ _ h => h) ?_ hHeld ?_; (· (intro w hSw; (try dsimp only at hSw); go_simp)); simp only [Act.put, setF, List.setIfInBounds_toArray, List.set_cons_zero, List.set_cons_succ]
 refine tkI 5 (.agg #[.slice na r.name.length nc, .int .i64 r.type, .int .i64 r.ttl, .int .i64 r.addr, .slice ta r.to.length tc, .slice xa r.text.length xc, .slice ia r.nums.length ic]) rfl (by kernel_rfl) (by kernel_rfl) (fun _ _ _ h => h) ?_ hHeld ?_
 ·(intro w hSw; (try dsimp only at hSw); go_simp)
 try simp only [Act.put, List.setIfInBounds_toArray, List.set_cons_zero, List.set_cons_succ]
 refine wpAnyH_ready (rs := [4]) (by kernel_rfl) (by simp) (AllReadyH.cons (UY rfl) (fun K hK => ?_) AllReadyH.nil)
 have HK := UC hK
 clear hK hHeld
 go_simp
 refine (UB HD _ (UB HRR)).mono ?_
 rintro e w4 ⟨rfl, b4⟩
 replace KB := UC (UE b4 (UB KB))
 replace MB := UC ((UB MB).below b4)
 replace HPP := UC ((UB HPP).kept (b4.block _ (UB HPP).lt) (C2 b4))
 replace HRR := UC ((UB HRR).below b4)
 replace KO := UC ((UB KO).trans (By b4))
 replace BN := UC ((UB BN).trans (b4.mono (by omega)))
 have z4 := b4.size
 have HB4 := UC b4
 clear b4
 go_simp
 refine (UB HK).out _ _ ⟨UJ (UB KB), De (UB MB) hkn hl⟩ (fun hHeld => ?_)
 clear HK K
 try simp only [List.setIfInBounds_toArray, List.set_cons_zero, List.set_cons_succ]
 refine wpAnyH_ready (rs := [6]) (by kernel_rfl) (by simp) (AllReadyH.cons (UY rfl) (fun K hK => ?_) AllReadyH.nil)
 have HK := UC hK
 clear hK hHeld
 obtain ⟨w5, hrun, hp5, g5, k5⟩ := Ta (t := 80) Tryz.underlying80 Tryz.underlying9 (UB HPP) kd hkd ⟨_, _, _, _, rfl, UB HRR⟩
 refine T0 rfl (.tmp 17) (.tmp 19) (.tmp 20) 80 rfl (.map (some p)) (.string kd) (.agg #[.slice na r.name.length nc, .int .i64 r.type, .int .i64 r.ttl, .int .i64 r.addr, .slice ta r.to.length tc, .slice xa r.text.length xc, .slice ia r.nums.length ic]) (by simp [Act.eval]) (by simp [Act.eval]) (by simp [Act.eval]) hrun ?_
 have m5 := (UB MB).grown g5 (by simpa using hne)
 have kb5 := k5.2 _ _ (UB KB) rfl
 replace KO := UC ((UB KO).trans k5)
 replace BN := UC ((UB BN).grown g5 (by omega) (fun k e => by simp at e; omega))
 clear hrun
 refine (UB HK).out _ _ ⟨UJ kb5, De m5 hkn hl⟩ (fun hHeld => ?_)
 clear HK K
 try simp only [List.setIfInBounds_toArray, List.set_cons_zero, List.set_cons_succ]
 refine wpAnyH_done (by kernel_rfl) ?_ _
 clear hHeld
 go_wp2_with fail
 go_end0
 refine ⟨⟨_, rfl⟩, p, by omega, hp5, m5, UB KO, UB BN, fun q hq hlt => ?_⟩
 rw [g5.block q (by omega) (by simp; omega), (UB HB4).block q (by omega)]
 rw [show W0.heap[q]? = w2.heap[q]? from UB HD2 q, (UB G2).block q (by have := UB ZA; omega) (by simpa using hq), (UB BA).block q (by omega)]
 exact (UB BB).block q hlt

theorem S2 {n0 b : Nat} {B : Bk} {vn vt vx vi : Value} {r : Rec} {w : World} (hB : Ch n0 w b B) (h : HasR w vn vt vx vi r) (hok : rrOk r = true) (hz : n0 ≤ w.heap.size) :
  Calls Tryz.prog 55 #[.map (some b), .agg #[vn, .int .i64 r.type, .int .i64 r.ttl, .int .i64 r.addr, vt, vx, vi]] w fun e w' => (∃ v, e = .returned v) ∧ Ch n0 w' b (E7 (strOfNums (keyN r.name)) (strOfNums (keyD r)) r B) ∧ Ey w w' ∧ Below n0 w w' := by
 obtain ⟨na, nc, rfl, _⟩ := h.name.form
 obtain ⟨ta, tc, rfl, _⟩ := h.to.form
 obtain ⟨xa, xc, rfl, _⟩ := h.text.form
 obtain ⟨ia, ic, rfl, _⟩ := h.nums.form
 obtain ⟨h0, ps, h1, h2, h3⟩ := hB
 unfold E7
 rcases Ii (k := strOfNums (keyN r.name)) h2 with ⟨l1, l2⟩ | ⟨v, P, l1, l2, ⟨p, rfl, q1, q2, q3⟩, l4⟩
 ·rw [l2]
  refine (put_new h hok h1 l1 h0 hz).mono ?_
  rintro e w' ⟨he, p, hp, p1, p2, p3, p4, p5⟩
  have zb := h1.lt
  refine ⟨he, S7 h0 h1 h2 h3 p2 p1 (by omega) (by omega) (fun q hq _ e => ?_) p3.x (fun q _ q2 q3 => p5 q q2 q3), p3, p4⟩
  obtain ⟨c, _, _, p', e1, _, _, e2⟩ := h2.left q hq
  rw [e] at e1
  cases e1
  have := e2.lt
  omega
 ·rw [l2]
  refine (Ws h hok h1 l1 q3 q2 q1 hz).mono ?_
  rintro e w' ⟨he, p1, p2, p3, p4, p5⟩
  exact ⟨he, S7 h0 h1 h2 h3 (by rw [Qt l1]; exact p2) p1 q1 q2 (Nu h3 l4) p3.x (fun q e1 _ q3 => p5 q e1 q3), p3, p4⟩
end Go.Proofs.YthobpbnaklnbiaaGreat

namespace Go.Proofs
open Go.Shelf
def Tryz.sort113_ren : Go.Shelf.Ren := ⟨fun | 6 => 113 | 8 => 122 | 9 => 121 | 19 => 134 | 20 => 135 | 21 => 125 | 22 => 126 | 23 => 127 | 24 => 128 | 25 => 129 | 26 => 130 | 27 => 131 | 28 => 132 | 29 => 133 | 36 => 137 | 31 => 138 | 32 => 139 | 37 => 140 | 38 => 141 | 39 => 142 | 41 => 143 | n => n, fun | 27 => 100 | 29 => 9 | 3 => 3 | 32 => 135 | 26 => 100 | 0 => 0 | 44 => 156 | 46 => 158 | 4 => 4 | 36 => 148 | 35 => 147 | 41 => 153 | 5 => 5 | 9 => 9 | 53 => 159 | 57 => 163 | 63 => 165 | 64 => 166 | n => n, fun | n => n⟩
theorem Tryz.sort113 : Go.Proofs.SlLaysM.n6 Tryz.prog Tryz.sort113_ren := {
  mixed := by kernel_rfl
  f6 := ⟨Tryz.f113.name, by decide, Tryz.func113.trans (congrArg some (by kernel_rfl))⟩
  f8 := Tryz.func122.trans (congrArg some (by kernel_rfl))
  f9 := ⟨Tryz.f121.name, by decide, Tryz.func121.trans (congrArg some (by kernel_rfl))⟩
  f19 := Tryz.func134.trans (congrArg some (by kernel_rfl))
  f20 := Tryz.func135.trans (congrArg some (by kernel_rfl))
  f21 := ⟨Tryz.f125.name, by decide, Tryz.func125.trans (congrArg some (by kernel_rfl))⟩
  f22 := ⟨Tryz.f126.name, by decide, Tryz.func126.trans (congrArg some (by kernel_rfl))⟩
  f23 := ⟨Tryz.f127.name, by decide, Tryz.func127.trans (congrArg some (by kernel_rfl))⟩
  f24 := ⟨Tryz.f128.name, by decide, Tryz.func128.trans (congrArg some (by kernel_rfl))⟩
  f25 := ⟨Tryz.f129.name, by decide, Tryz.func129.trans (congrArg some (by kernel_rfl))⟩
  f26 := ⟨Tryz.f130.name, by decide, Tryz.func130.trans (congrArg some (by kernel_rfl))⟩
  f27 := ⟨Tryz.f131.name, by decide, Tryz.func131.trans (congrArg some (by kernel_rfl))⟩
  f28 := ⟨Tryz.f132.name, by decide, Tryz.func132.trans (congrArg some (by kernel_rfl))⟩
  f29 := ⟨Tryz.f133.name, by decide, Tryz.func133.trans (congrArg some (by kernel_rfl))⟩
  f31 := Tryz.func138.trans (congrArg some (by kernel_rfl))
  f32 := Tryz.func139.trans (congrArg some (by kernel_rfl))
  f36 := ⟨Tryz.f137.name, by decide, Tryz.func137.trans (congrArg some (by kernel_rfl))⟩
  f37 := ⟨Tryz.f140.name, by decide, Tryz.func140.trans (congrArg some (by kernel_rfl))⟩
  f38 := ⟨Tryz.f141.name, by decide, Tryz.func141.trans (congrArg some (by kernel_rfl))⟩
  f39 := ⟨Tryz.f142.name, by decide, Tryz.func142.trans (congrArg some (by kernel_rfl))⟩
  f41 := ⟨Tryz.f143.name, by decide, Tryz.func143.trans (congrArg some (by kernel_rfl))⟩
  t0 := Tryz.underlying0
  a0 := Tryz.isAgg0
  z0 := Tryz.sizeOf0
  v0 := Tryz.zeroValue0
  t3 := Tryz.underlying3
  a3 := Tryz.isAgg3
  z3 := Tryz.sizeOf3
  v3 := Tryz.zeroValue3
  t4 := Tryz.underlying4
  a4 := Tryz.isAgg4
  z4 := Tryz.sizeOf4
  v4 := Tryz.zeroValue4
  t5 := Tryz.underlying5
  a5 := Tryz.isAgg5
  z5 := Tryz.sizeOf5
  v5 := Tryz.zeroValue5
  t9 := Tryz.underlying9
  a9 := Tryz.isAgg9
  z9 := Tryz.sizeOf9
  v9 := Tryz.zeroValue9
  t26 := Tryz.underlying100
  a26 := Tryz.isAgg100
  z26 := Tryz.sizeOf100
  v26 := Tryz.zeroValue100
  t27 := Tryz.underlying100
  a27 := Tryz.isAgg100
  z27 := Tryz.sizeOf100
  v27 := Tryz.zeroValue100
  t29 := Tryz.underlying9
  a29 := Tryz.isAgg9
  z29 := Tryz.sizeOf9
  v29 := Tryz.zeroValue9
  t32 := Tryz.underlying135
  a32 := Tryz.isAgg135
  z32 := Tryz.sizeOf135
  v32 := Tryz.zeroValue135
  t35 := Tryz.underlying147
  a35 := Tryz.isAgg147
  z35 := Tryz.sizeOf147
  v35 := Tryz.zeroValue147
  t36 := Tryz.underlying148
  a36 := Tryz.isAgg148
  z36 := Tryz.sizeOf148
  v36 := Tryz.zeroValue148
  t41 := Tryz.underlying153
  a41 := Tryz.isAgg153
  z41 := Tryz.sizeOf153
  v41 := Tryz.zeroValue153
  t44 := Tryz.underlying156
  a44 := Tryz.isAgg156
  z44 := Tryz.sizeOf156
  v44 := Tryz.zeroValue156
  t46 := Tryz.underlying158
  a46 := Tryz.isAgg158
  z46 := Tryz.sizeOf158
  v46 := Tryz.zeroValue158
  t53 := Tryz.underlying159
  a53 := Tryz.isAgg159
  z53 := Tryz.sizeOf159
  v53 := Tryz.zeroValue159
  t57 := Tryz.underlying163
  a57 := Tryz.isAgg163
  z57 := Tryz.sizeOf163
  v57 := Tryz.zeroValue163
  t63 := Tryz.underlying165
  a63 := Tryz.isAgg165
  z63 := Tryz.sizeOf165
  v63 := Tryz.zeroValue165
  t64 := Tryz.underlying166
  a64 := Tryz.isAgg166
  z64 := Tryz.sizeOf166
  v64 := Tryz.zeroValue166 }
def Tryz.sorted88_ren : Go.Shelf.Ren := ⟨fun | 6 => 88 | 8 => 112 | 9 => 113 | 11 => 120 | 13 => 122 | 12 => 121 | 23 => 134 | 24 => 135 | 14 => 125 | 15 => 126 | 16 => 127 | 17 => 128 | 18 => 129 | 19 => 130 | 20 => 131 | 21 => 132 | 22 => 133 | 25 => 137 | 26 => 138 | 27 => 139 | 28 => 140 | 29 => 141 | 30 => 142 | 31 => 143 | n => n, fun | 26 => 9 | 28 => 108 | 24 => 100 | 0 => 0 | 3 => 3 | 37 => 135 | 48 => 156 | 50 => 158 | 4 => 4 | 40 => 148 | 39 => 147 | 45 => 153 | 5 => 5 | 9 => 9 | 51 => 159 | 55 => 163 | 57 => 165 | 58 => 166 | 33 => 133 | n => n, fun | n => n⟩
theorem Tryz.sorted88 : Go.Proofs.SlLaysZ.n6 Tryz.prog Tryz.sorted88_ren := {
  mixed := by kernel_rfl
  f6 := ⟨Tryz.f88.name, by decide, Tryz.func88.trans (congrArg some (by kernel_rfl))⟩
  f8 := ⟨Tryz.f112.name, by decide, Tryz.func112.trans (congrArg some (by kernel_rfl))⟩
  f11 := ⟨Tryz.f120.name, by decide, Tryz.func120.trans (congrArg some (by kernel_rfl))⟩
  t0 := Tryz.underlying0
  a0 := Tryz.isAgg0
  z0 := Tryz.sizeOf0
  v0 := Tryz.zeroValue0
  t24 := Tryz.underlying100
  a24 := Tryz.isAgg100
  z24 := Tryz.sizeOf100
  v24 := Tryz.zeroValue100
  t26 := Tryz.underlying9
  a26 := Tryz.isAgg9
  z26 := Tryz.sizeOf9
  v26 := Tryz.zeroValue9
  t28 := Tryz.underlying108
  a28 := Tryz.isAgg108
  z28 := Tryz.sizeOf108
  v28 := Tryz.zeroValue108
  i26 := by kernel_rfl }
def Tryz.keys89_ren : Go.Shelf.Ren := ⟨fun | 7 => 89 | 10 => 114 | n => n, fun | 23 => 79 | 26 => 9 | 3 => 39 | 28 => 108 | 0 => 0 | 27 => 107 | 33 => 133 | 4 => 4 | n => n, fun | n => n⟩
theorem Tryz.keys89 : Go.Proofs.SlLaysZ.n7 Tryz.prog Tryz.keys89_ren := {
  mixed := by kernel_rfl
  f7 := ⟨Tryz.f89.name, by decide, Tryz.func89.trans (congrArg some (by kernel_rfl))⟩
  f10 := ⟨Tryz.f114.name, by decide, Tryz.func114.trans (congrArg some (by kernel_rfl))⟩
  t0 := Tryz.underlying0
  a0 := Tryz.isAgg0
  z0 := Tryz.sizeOf0
  v0 := Tryz.zeroValue0
  t4 := Tryz.underlying4
  a4 := Tryz.isAgg4
  z4 := Tryz.sizeOf4
  v4 := Tryz.zeroValue4
  t23 := Tryz.underlying79
  a23 := Tryz.isAgg79
  z23 := Tryz.sizeOf79
  v23 := Tryz.zeroValue79
  t26 := Tryz.underlying9
  a26 := Tryz.isAgg9
  z26 := Tryz.sizeOf9
  v26 := Tryz.zeroValue9
  t27 := Tryz.underlying107
  a27 := Tryz.isAgg107
  z27 := Tryz.sizeOf107
  v27 := Tryz.zeroValue107
  t28 := Tryz.underlying108
  a28 := Tryz.isAgg108
  z28 := Tryz.sizeOf108
  v28 := Tryz.zeroValue108
  t33 := Tryz.underlying133
  a33 := Tryz.isAgg133
  z33 := Tryz.sizeOf133
  v33 := Tryz.zeroValue133 }
def Tryz.keys95_ren : Go.Shelf.Ren := ⟨fun | 7 => 95 | 10 => 116 | n => n, fun | 23 => 51 | 26 => 9 | 3 => 80 | 28 => 108 | 0 => 0 | 27 => 107 | 33 => 133 | 4 => 4 | n => n, fun | n => n⟩
theorem Tryz.keys95 : Go.Proofs.SlLaysZ.n7 Tryz.prog Tryz.keys95_ren := {
  mixed := by kernel_rfl
  f7 := ⟨Tryz.f95.name, by decide, Tryz.func95.trans (congrArg some (by kernel_rfl))⟩
  f10 := ⟨Tryz.f116.name, by decide, Tryz.func116.trans (congrArg some (by kernel_rfl))⟩
  t0 := Tryz.underlying0
  a0 := Tryz.isAgg0
  z0 := Tryz.sizeOf0
  v0 := Tryz.zeroValue0
  t4 := Tryz.underlying4
  a4 := Tryz.isAgg4
  z4 := Tryz.sizeOf4
  v4 := Tryz.zeroValue4
  t23 := Tryz.underlying51
  a23 := Tryz.isAgg51
  z23 := Tryz.sizeOf51
  v23 := Tryz.zeroValue51
  t26 := Tryz.underlying9
  a26 := Tryz.isAgg9
  z26 := Tryz.sizeOf9
  v26 := Tryz.zeroValue9
  t27 := Tryz.underlying107
  a27 := Tryz.isAgg107
  z27 := Tryz.sizeOf107
  v27 := Tryz.zeroValue107
  t28 := Tryz.underlying108
  a28 := Tryz.isAgg108
  z28 := Tryz.sizeOf108
  v28 := Tryz.zeroValue108
  t33 := Tryz.underlying133
  a33 := Tryz.isAgg133
  z33 := Tryz.sizeOf133
  v33 := Tryz.zeroValue133 }
end Go.Proofs

namespace Go.Proofs.YthobpbnaklnbiaaGreat
open Go.RowKit Go.Maps Go.Sort Go.Shelf
open Go.WideElems (Fit rd rg rd_mk rg_of)
open Go.WideMaps (keyOf_string_mk)
set_option linter.unusedVariables false
set_option maxHeartbeats 1000000
set_option maxRecDepth 100000

theorem Uy (m : Nat) : AnyZ.SortsIn Tryz.prog Tryz.sorted88_ren Fence.wide m :=
  ⟨fun blk off cap ss W hH hblk hsz => callsIn_wide.2 (AnyM.slices_Sort_string Tryz.sort113 blk off cap ss W hH hblk hsz),
   fun p cap W => callsIn_wide.2 (AnyM.slices_Sort_string_none Tryz.sort113 p cap W)⟩

def anyR (v : Value) : Option (DataW Unit × List MemPlace) := some (.nil, [])
theorem Qk {w : World} {b : Nat} {ps : List (ByteArray × Value)} (h : MapV w b ps) (hl : ps.length ≤ maxLen) : ∃ D0 : DataW Unit, w.ownsMap Tryz.prog 9 anyR b ps.length D0 ∧ (strKeys D0).Perm (ps.map (fun p => p.1.data.toList)) ∧ Maps.size D0 = ps.length := by
  obtain ⟨es, clock, hb, hS, hK, rfl⟩ := h
  have hrd : ∀ x ∈ es.toList, rd Tryz.prog 9 anyR x = some (.string (toPV x).1.data.toList, .nil) := by
    intro x hx
    obtain ⟨s, h1, h2⟩ := hK x hx
    have hk := keyOf_string_mk (P := Tryz.prog) Tryz.underlying9 h2
    obtain ⟨key, val, born⟩ := x
    simp only at h1
    subst h1
    exact rd_mk (R := anyR) (yv := (.nil, [])) hk rfl
  have hrg : es.toList.map (rg Tryz.prog 9 anyR) = es.toList.map (fun x => (Lit.string (toPV x).1.data.toList, DataW.nil)) := List.map_congr_left (fun x hx => by rw [rg_of (hrd x hx)])
  refine ⟨_, ⟨es, clock, hb, ⟨by simpa using hl, hS, fun x hx => ⟨_, hrd x hx⟩⟩, by simp, rfl⟩, ?_, ?_⟩
  · rw [hrg]
    simp only [strKeys]
    have hp := WideShapes.sorted_perm (es.toList.map (fun x => (Lit.string (toPV x).1.data.toList, (DataW.nil : DataW Unit))))
    have h2 := hp.map (fun p => strOf p.1)
    rw [List.map_map] at h2 ⊢
    exact h2
  · simp [Maps.size, length_sorted]

theorem Xa (mb : Option Nat) (W : World) : CallsIn Fence.wide 5 Tryz.prog 89 #[.map mb] W fun e w' => e = .returned (.func (.func 114) #[] #[.pointer (some ⟨W.heap.size, 0, none⟩)]) ∧ w' = W.alloc (.cells #[.map mb] 79) :=
  AnyZ.keys_in Tryz.keys89 Fence.wide 5 trivial rfl mb W

theorem Tx {w : World} {b : Nat} {ps : List (ByteArray × Value)} (h : MapV w b ps) (hl : ps.length ≤ 1000) :
    CallsIn Fence.wide 5 Tryz.prog 88 #[.func (.func 114) #[] #[.pointer (some ⟨w.heap.size, 0, none⟩)]] (w.alloc (.cells #[.map (some b)] 79)) fun e w' => ∃ v, e = .returned v ∧
      w'.ownsRow (w.heap.size + 1) 9 1 v ps.length ((Bv ps).map encStr) ∧ Below w.heap.size w w' := by
  obtain ⟨D0, hown, hperm, hsize⟩ := Qk h (by unfold maxLen; omega)
  have hbl := hown.lt
  have hseq : SeqGives Fence.wide 2 Tryz.prog 114 #[.pointer (some ⟨w.heap.size, 0, none⟩)] encStr (fun ss => ss.Perm (strKeys D0)) (Maps.size D0) (w.alloc (.cells #[.map (some b)] 79)) :=
    AnyZ.keys_gives (ρ := Tryz.keys89_ren) { Tryz.keys89 with } Fence.wide _ trivial rfl (by omega) w.heap.size b ps.length D0 _ (by simp) (by simp) (by
      obtain ⟨es, clock, hb, Ft, hs, hD⟩ := hown
      exact ⟨es, clock, (Below.heap_alloc _ _ b hbl).trans hb, Ft, hs, hD⟩)
  have hS := AnyZ.sorted_in Tryz.sorted88 Fence.wide 5 trivial trivial trivial trivial rfl (by omega) (Uy _) (enters_of Tryz.func113 (by kernel_rfl) rfl) 114 #[.pointer (some ⟨w.heap.size, 0, none⟩)] trivial (enters_of Tryz.func114 (by kernel_rfl) rfl) _ _ (by rw [hsize]; unfold maxLen; omega) (by rw [hsize]; omega) _ hseq
  refine hS.mono ?_
  rintro e w' ⟨v, ss, rfl, hp, hrow, _, hb⟩
  have e1 : ss.length = ps.length := by rw [hp.length_eq, hperm.length_eq, List.length_map]
  have e2 : ss.mergeSort (fun x y => decide (x ≤ y)) = Bv ps := mergeSort_of_perm (hp.trans hperm)
  rw [e1, e2] at hrow
  have zs : (w.alloc (.cells #[.map (some b)] 79)).heap.size = w.heap.size + 1 := World.size_alloc w _
  rw [zs] at hrow hb
  exact ⟨v, rfl, hrow, (UI (w := w) _).trans (hb.mono (by omega))⟩

theorem Ru (w : World) :
    CallsIn Fence.wide 5 Tryz.prog 88 #[.func (.func 114) #[] #[.pointer (some ⟨w.heap.size, 0, none⟩)]] (w.alloc (.cells #[.map none] 79)) fun e w' => ∃ v, e = .returned v ∧
      w'.ownsRow (w.heap.size + 1) 9 1 v 0 [] ∧ Below w.heap.size w w' := by
  have hseq : SeqGives Fence.wide 2 Tryz.prog 114 #[.pointer (some ⟨w.heap.size, 0, none⟩)] encStr (fun ss : List (List UInt8) => ss = []) 0 (w.alloc (.cells #[.map none] 79)) :=
    AnyZ.keys_gives_nil (ρ := Tryz.keys89_ren) { Tryz.keys89 with } Fence.wide _ trivial rfl w.heap.size _ (by simp) (by simp)
  have hS := AnyZ.sorted_in Tryz.sorted88 Fence.wide 5 trivial trivial trivial trivial rfl (by omega) (Uy _) (enters_of Tryz.func113 (by kernel_rfl) rfl) 114 #[.pointer (some ⟨w.heap.size, 0, none⟩)] trivial (enters_of Tryz.func114 (by kernel_rfl) rfl) _ 0 (Nat.zero_le _) (by omega) _ hseq
  refine hS.mono ?_
  rintro e w' ⟨v, ss, rfl, hp, hrow, _, hb⟩
  subst hp
  have zs : (w.alloc (.cells #[.map none] 79)).heap.size = w.heap.size + 1 := World.size_alloc w _
  rw [zs] at hrow hb
  have hr2 : w'.ownsRow (w.heap.size + 1) 9 1 v 0 ((([] : List (List UInt8)).mergeSort (fun x y => decide (x ≤ y))).map encStr) := hrow
  exact ⟨v, rfl, by simpa using hr2, (UI (w := w) _).trans (hb.mono (by omega))⟩
end Go.Proofs.YthobpbnaklnbiaaGreat
