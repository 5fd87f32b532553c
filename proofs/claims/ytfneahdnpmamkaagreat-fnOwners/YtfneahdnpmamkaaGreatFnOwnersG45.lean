/-
  Contract of the program's put: a record more in a book. Contract of the program's bookOf: the book of a zone's records.
-/
import Derived.Test.YtfneahdnpmamkaaGreatFnOwnersG44
namespace Go.Proofs.YtfneahdnpmamkaaGreat
open Go.RowKit
set_option linter.unusedVariables false
set_option maxHeartbeats 1000000
set_option maxRecDepth 100000

theorem Pc (w : World) : (zeroValue 79).run Tryz.prog w = .ok (.map none) w := by
 have h : (Tryz.prog.info? 79).map (fun i => i.zero) = some (some (.map none)) := by kernel_rfl
 obtain ⟨i, h1, h2⟩ := Option.map_eq_some_iff.1 h
 simp [zeroValue, typeInfo, h1, h2, go_sem]
theorem Du {w : World} {b p : Nat} {ps : List (ByteArray × Value)} {kn : ByteArray} (h : MapV w b ps) (hk : kn.size ≤ maxLen) (hl : Aw kn ps = some (.map (some p))) : (Instr.lookup 52 (.map (some b)) (.string kn) false).run Tryz.prog w = .ok (.map (some p)) w := by
 have := Kf (e := 79) (t := 52) Tryz.underlying52 Tryz.underlying9 (Pc w) h kn hk
 rw [hl] at this
 exact this
theorem Pf {w : World} {b : Nat} {ps : List (ByteArray × Value)} {kn : ByteArray} (h : MapV w b ps) (hk : kn.size ≤ maxLen) (hl : Aw kn ps = none) : (Instr.lookup 52 (.map (some b)) (.string kn) false).run Tryz.prog w = .ok (.map none) w := by
 have := Kf (e := 79) (t := 52) Tryz.underlying52 Tryz.underlying9 (Pc w) h kn hk
 rw [hl] at this
 exact this
theorem Kr {n : List (List Int)} (h : Kz n) : (strOfNums (keyN n)).size ≤ maxLen := by
 rw [strOfNums_size]
 have : (keyP n.reverse).length ≤ 16 * n.reverse.length := Rj (fun l hl => by
  obtain ⟨i, hi, rfl⟩ := List.getElem_of_mem (List.mem_reverse.1 hl)
  have := h.2 i hi
  simpa [hi] using this)
 have h1 := h.1
 have e : keyN n = keyP n.reverse := rfl
 rw [List.length_reverse] at this
 rw [e]
 unfold maxLen
 omega
theorem Pe {r : Rec} (h : rrOk r = true) : (strOfNums (keyD r)).size ≤ maxLen := by
 rw [strOfNums_size]
 have := Jw h
 simp [keyD, maxLen]
 omega

theorem V4 {n0 b p : Nat} {ps : List (ByteArray × Value)} {P : Pg} {na : Option Addr} {nc : Nat} {ta : Option Addr} {tc : Nat} {xa : Option Addr} {xc : Nat} {ia : Option Addr} {ic : Nat} {r : Rec} {w : World}
  (h : HasR w (.slice na r.name.length nc) (.slice ta r.to.length tc) (.slice xa r.text.length xc) (.slice ia r.nums.length ic) r) (hok : rrOk r = true)
  (hM : MapV w b ps) (hl : Aw (strOfNums (keyN r.name)) ps = some (.map (some p))) (hP : F4 w p P) (hne : p ≠ b) (hp : n0 ≤ p) (hz : n0 ≤ w.heap.size) :
  Calls Tryz.prog 43 #[.map (some b), .agg #[.slice na r.name.length nc, .int .i64 r.type, .int .i64 r.ttl, .int .i64 r.addr, .slice ta r.to.length tc, .slice xa r.text.length xc, .slice ia r.nums.length ic]] w fun e w' => (∃ v, e = .returned v) ∧ F4 w' p (putA (strOfNums (keyD r)) r P) ∧ MapV w' b ps ∧ Fw w w' ∧ Below n0 w w' ∧ (∀ q, q ≠ p → q < w.heap.size → w'.heap[q]? = w.heap[q]?) := by
 have MB := UC hM
 have HPP := UC hP
 have HRR := UC h
 clear hM hP
 have b0 := UI (w := w) (.cells #[.slice na r.name.length nc, .int .i64 r.type, .int .i64 r.ttl, .int .i64 r.addr, .slice ta r.to.length tc, .slice xa r.text.length xc, .slice ia r.nums.length ic] 39)
 have KB := UC (heap_alloc_new w (.cells #[.slice na r.name.length nc, .int .i64 r.type, .int .i64 r.ttl, .int .i64 r.addr, .slice ta r.to.length tc, .slice xa r.text.length xc, .slice ia r.nums.length ic] 39))
 have hn := C8 (A2 hok).1
 have HN := UC (Lf (h.name.below b0) hn.1 hn.2)
 have HD := UC (fun (w : World) (hh : HasR w (.slice na r.name.length nc) (.slice ta r.to.length tc) (.slice xa r.text.length xc) (.slice ia r.nums.length ic) r) => Lp hh hok)
 have hkn := Kr hn
 have hkd := Pe hok
 obtain ⟨d0, d1, d2, d3, d4, d5, d6⟩ := UJ (UB KB)
 generalize hKN : strOfNums (keyN r.name) = kn at *
 generalize hKD : strOfNums (keyD r) = kd at *
 clear hKN hKD hn hok
 go_enter Tryz.func43, Tryz.ntmps43
 go_wp2_with fail
 generalize w.alloc (.cells #[.slice na r.name.length nc, .int .i64 r.type, .int .i64 r.ttl, .int .i64 r.addr, .slice ta r.to.length tc, .slice xa r.text.length xc, .slice ia r.nums.length ic] 39) = W at *
 refine (UB HN).mono ?_
 rintro e w1 ⟨rfl, b1⟩
 replace KB := UC (UE b1 (UB KB))
 have bb := UG b0 b1
 clear b0 b1 d0 d1 d2 d3 d4 d5 d6 HN
 clear h
 replace MB := UC ((UB MB).below bb)
 replace HPP := UC ((UB HPP).kept (bb.block _ (UB HPP).lt) (Da bb))
 replace HRR := UC ((UB HRR).below bb)
 have KO := UC (C5 bb)
 have BN := UC (bb.mono hz)
 have hz0 := hz
 replace hz : n0 ≤ w1.heap.size := Nat.le_trans hz bb.size
 have BB := UC bb
 clear bb
 have hlook := Du (UB MB) hkn hl
 have heql := run_eql_map_nil w1 79 9 39 (some p) Tryz.underlying79
 simp only [Option.isNone_some] at heql
 go_wp2_with fail
 clear hlook heql
 have bd := UX (w := w1)
 replace KB := UC (UE bd (UB KB))
 replace MB := UC ((UB MB).below bd)
 replace HPP := UC ((UB HPP).kept (bd.block _ (UB HPP).lt) (Da bd))
 replace HRR := UC ((UB HRR).below bd)
 replace KO := UC ((UB KO).trans (C5 bd))
 replace BN := UC ((UB BN).trans (bd.mono hz))
 have zd := bd.size
 clear bd
 refine wp_region_held_drew (S := (fun w' => (w'.cell? ⟨w.heap.size, 0, none⟩ = some (.slice na r.name.length nc) ∧ w'.cell? ⟨w.heap.size, 1, none⟩ = some (.int .i64 r.type) ∧ w'.cell? ⟨w.heap.size, 2, none⟩ = some (.int .i64 r.ttl) ∧ w'.cell? ⟨w.heap.size, 3, none⟩ = some (.int .i64 r.addr) ∧ w'.cell? ⟨w.heap.size, 4, none⟩ = some (.slice ta r.to.length tc) ∧ w'.cell? ⟨w.heap.size, 5, none⟩ = some (.slice xa r.text.length xc) ∧ w'.cell? ⟨w.heap.size, 6, none⟩ = some (.slice ia r.nums.length ic)) ∧ (Instr.lookup 52 (.map (some b)) (.string kn) false).run Tryz.prog w' = .ok (.map (some p)) w')) (by kernel_rfl) ⟨UJ (UB KB), Du (UB MB) hkn hl⟩ (fun hHeld => ?_)
 show wpAnyH _ _ _ _ _ 7 #[false, false, false, false, false, false, false] _ _
 have HD2 : Hid (∀ q : Nat, w1.drew.heap[q]? = w1.heap[q]?) := fun _ => rfl
 generalize w1.drew = W0 at *
 refine tkF (.map (some b)) rfl (by kernel_rfl) (by kernel_rfl) (fun _ _ _ h => h) ?_ hHeld ?_; (· (intro w hSw; (try dsimp only at hSw); go_simp)); simp only [Act.put, setF, List.setIfInBounds_toArray, List.set_cons_zero, List.set_cons_succ]
 refine tkF (.string kn) rfl (by kernel_rfl) (by kernel_rfl) (fun _ _ _ h => h) ?_ hHeld ?_; (· (intro w hSw; (try dsimp only at hSw); go_simp)); simp only [Act.put, setF, List.setIfInBounds_toArray, List.set_cons_zero, List.set_cons_succ]
 refine tkF (.map (some p)) rfl (by kernel_rfl) (by kernel_rfl) (fun _ _ _ h => h) ?_ hHeld ?_; (· (intro w hSw; (try dsimp only at hSw); go_simp)); simp only [Act.put, setF, List.setIfInBounds_toArray, List.set_cons_zero, List.set_cons_succ]
 refine tkF (.agg #[.slice na r.name.length nc, .int .i64 r.type, .int .i64 r.ttl, .int .i64 r.addr, .slice ta r.to.length tc, .slice xa r.text.length xc, .slice ia r.nums.length ic]) rfl (by kernel_rfl) (by kernel_rfl) (fun _ _ _ h => h) ?_ hHeld ?_; (· (intro w hSw; (try dsimp only at hSw); go_simp)); simp only [Act.put, setF, List.setIfInBounds_toArray, List.set_cons_zero, List.set_cons_succ]
 refine tkI 5 (.agg #[.slice na r.name.length nc, .int .i64 r.type, .int .i64 r.ttl, .int .i64 r.addr, .slice ta r.to.length tc, .slice xa r.text.length xc, .slice ia r.nums.length ic]) rfl (by kernel_rfl) (by kernel_rfl) (fun _ _ _ h => h) ?_ hHeld ?_
 ·(intro w hSw; (try dsimp only at hSw); go_simp)
 try simp only [Act.put, List.setIfInBounds_toArray, List.set_cons_zero, List.set_cons_succ]
 refine wpAnyH_ready (rs := [4]) (by kernel_rfl) (by simp) (AllReadyH.cons (UY rfl) (fun K hK => ?_) AllReadyH.nil)
 have HK := UC hK
 clear hK hHeld
 go_simp
 refine (UB HD _ (UB HRR)).mono ?_
 rintro e w4 ⟨rfl, b4⟩
 replace KB := UC (UE b4 (UB KB))
 replace MB := UC ((UB MB).below b4)
 replace HPP := UC ((UB HPP).kept (b4.block _ (UB HPP).lt) (Da b4))
 replace HRR := UC ((UB HRR).below b4)
 replace KO := UC ((UB KO).trans (C5 b4))
 replace BN := UC ((UB BN).trans (b4.mono (by omega)))
 have z4 := b4.size
 have HB4 := UC b4
 clear b4
 go_simp
 refine (UB HK).out _ _ ⟨UJ (UB KB), Du (UB MB) hkn hl⟩ (fun hHeld => ?_)
 clear HK K
 try simp only [List.setIfInBounds_toArray, List.set_cons_zero, List.set_cons_succ]
 refine wpAnyH_ready (rs := [6]) (by kernel_rfl) (by simp) (AllReadyH.cons (UY rfl) (fun K hK => ?_) AllReadyH.nil)
 have HK := UC hK
 clear hK hHeld
 obtain ⟨w5, hrun, hp5, g5, k5⟩ := Sz (t := 79) Tryz.underlying79 Tryz.underlying9 (UB HPP) kd hkd ⟨_, _, _, _, rfl, UB HRR⟩
 refine Rc rfl (.tmp 17) (.tmp 19) (.tmp 20) 79 rfl (.map (some p)) (.string kd) (.agg #[.slice na r.name.length nc, .int .i64 r.type, .int .i64 r.ttl, .int .i64 r.addr, .slice ta r.to.length tc, .slice xa r.text.length xc, .slice ia r.nums.length ic]) (by simp [Act.eval]) (by simp [Act.eval]) (by simp [Act.eval]) hrun ?_
 have m5 := (UB MB).grown g5 (by simpa using hne)
 have kb5 := k5.2 _ _ (UB KB) rfl
 replace KO := UC ((UB KO).trans k5)
 replace BN := UC ((UB BN).grown g5 (by omega) (fun k e => by simp at e; omega))
 clear hrun
 refine (UB HK).out _ _ ⟨UJ kb5, Du m5 hkn hl⟩ (fun hHeld => ?_)
 clear HK K
 try simp only [List.setIfInBounds_toArray, List.set_cons_zero, List.set_cons_succ]
 refine wpAnyH_done (by kernel_rfl) ?_ _
 clear hHeld
 go_wp2_with fail
 go_end0
 refine ⟨⟨_, rfl⟩, hp5, m5, UB KO, UB BN, fun q hq hlt => ?_⟩
 have zz := (UB BB).size
 rw [g5.block q (by omega) (by simpa using hq), (UB HB4).block q (by omega), show W0.heap[q]? = w1.heap[q]? from UB HD2 q]
 exact (UB BB).block q hlt

theorem Zr {n0 b : Nat} {ps : List (ByteArray × Value)} {na : Option Addr} {nc : Nat} {ta : Option Addr} {tc : Nat} {xa : Option Addr} {xc : Nat} {ia : Option Addr} {ic : Nat} {r : Rec} {w : World}
  (h : HasR w (.slice na r.name.length nc) (.slice ta r.to.length tc) (.slice xa r.text.length xc) (.slice ia r.nums.length ic) r) (hok : rrOk r = true)
  (hM : MapV w b ps) (hl : Aw (strOfNums (keyN r.name)) ps = none) (hb : n0 ≤ b) (hz : n0 ≤ w.heap.size) :
  Calls Tryz.prog 43 #[.map (some b), .agg #[.slice na r.name.length nc, .int .i64 r.type, .int .i64 r.ttl, .int .i64 r.addr, .slice ta r.to.length tc, .slice xa r.text.length xc, .slice ia r.nums.length ic]] w fun e w' => (∃ v, e = .returned v) ∧ ∃ p, w.heap.size ≤ p ∧ F4 w' p (putA (strOfNums (keyD r)) r []) ∧ MapV w' b (putA (strOfNums (keyN r.name)) (.map (some p)) ps) ∧ Fw w w' ∧ Below n0 w w' ∧ (∀ q, q ≠ b → q < w.heap.size → w'.heap[q]? = w.heap[q]?) := by
 have MB := UC hM
 have HRR := UC h
 have zb := hM.lt
 clear hM
 have b0 := UI (w := w) (.cells #[.slice na r.name.length nc, .int .i64 r.type, .int .i64 r.ttl, .int .i64 r.addr, .slice ta r.to.length tc, .slice xa r.text.length xc, .slice ia r.nums.length ic] 39)
 have KB := UC (heap_alloc_new w (.cells #[.slice na r.name.length nc, .int .i64 r.type, .int .i64 r.ttl, .int .i64 r.addr, .slice ta r.to.length tc, .slice xa r.text.length xc, .slice ia r.nums.length ic] 39))
 have hn := C8 (A2 hok).1
 have HN := UC (Lf (h.name.below b0) hn.1 hn.2)
 have HD := UC (fun (w : World) (hh : HasR w (.slice na r.name.length nc) (.slice ta r.to.length tc) (.slice xa r.text.length xc) (.slice ia r.nums.length ic) r) => Lp hh hok)
 have hkn := Kr hn
 have hkd := Pe hok
 obtain ⟨d0, d1, d2, d3, d4, d5, d6⟩ := UJ (UB KB)
 generalize hKN : strOfNums (keyN r.name) = kn at *
 generalize hKD : strOfNums (keyD r) = kd at *
 clear hKN hKD hn hok
 go_enter Tryz.func43, Tryz.ntmps43
 go_wp2_with fail
 generalize w.alloc (.cells #[.slice na r.name.length nc, .int .i64 r.type, .int .i64 r.ttl, .int .i64 r.addr, .slice ta r.to.length tc, .slice xa r.text.length xc, .slice ia r.nums.length ic] 39) = W at *
 refine (UB HN).mono ?_
 rintro e w1 ⟨rfl, b1⟩
 replace KB := UC (UE b1 (UB KB))
 have bb := UG b0 b1
 clear b0 b1 d0 d1 d2 d3 d4 d5 d6 HN
 clear h
 replace MB := UC ((UB MB).below bb)
 replace HRR := UC ((UB HRR).below bb)
 have KO := UC (C5 bb)
 have BN := UC (bb.mono hz)
 have zw := bb.size
 have BB := UC bb
 clear bb
 have hlook := Pf (UB MB) hkn hl
 have heql := run_eql_map_nil w1 79 9 39 none Tryz.underlying79
 simp only [Option.isNone_none] at heql
 obtain ⟨w2, hrun2, m2, g2⟩ := Q5 (t := 52) Tryz.underlying52 Tryz.underlying9 ((UB MB).below (UI (.map #[] 0))) kn hkn (.map (some w1.heap.size))
 have hmk := run_makeMap (P := Tryz.prog) 79 w1
 go_wp2_with (first | (at_mapUpdate; refine Xv rfl (.tmp 12) (.tmp 13) (.tmp 14) 52 rfl (.map (some b)) (.string kn) (.map (some w1.heap.size)) (by simp [Act.eval]) (by simp [Act.eval]) (by simp [Act.eval]) hrun2 ?_))
 have ba := UI (w := w1) (.map #[] 0)
 have za : (w1.alloc (.map #[] 0)).heap.size = w1.heap.size + 1 := World.size_alloc w1 _
 have ko2 := (C5 ba).trans (P2 g2 ((UB MB).below ba))
 have hpg : F4 w2 w1.heap.size [] := ⟨[], (O9 w1).grown g2 (by simp; omega), .nil⟩
 replace KB := UC (ko2.2 _ _ (UB KB) rfl)
 replace HRR := UC ((UB HRR).keptX ko2.x)
 replace KO := UC ((UB KO).trans ko2)
 have z2 := g2.size
 replace BN := UC ((UB BN).trans (((ba.mono (by omega)).grown g2 (by omega) (fun k e => by simp at e; omega))))
 have hl2 : Aw kn (putA kn (.map (some w1.heap.size)) ps) = some (.map (some w1.heap.size)) := Ku
 have HPP := UC hpg
 replace MB := UC m2
 have G2 := UC g2
 have hne : w1.heap.size ≠ b := by omega
 have hp : n0 ≤ w1.heap.size := by omega
 have ZA := UC za
 have BA := UC ba
 clear hlook heql hmk hrun2 m2 g2 hl ba ko2 hpg za
 have hz0 := hz
 replace hz : n0 ≤ w2.heap.size := by have := UB ZA; omega
 rename Aw kn (putA kn (.map (some w1.heap.size)) ps) = some (.map (some w1.heap.size)) => hl
 have hsz : w1.heap.size ≤ w2.heap.size := by have := UB ZA; omega
 generalize hp0 : w1.heap.size = p at *
 have bd := UX (w := w2)
 replace KB := UC (UE bd (UB KB))
 replace MB := UC ((UB MB).below bd)
 replace HPP := UC ((UB HPP).kept (bd.block _ (UB HPP).lt) (Da bd))
 replace HRR := UC ((UB HRR).below bd)
 replace KO := UC ((UB KO).trans (C5 bd))
 replace BN := UC ((UB BN).trans (bd.mono hz))
 have zd := bd.size
 clear bd
 refine wp_region_held_drew (S := (fun w' => (w'.cell? ⟨w.heap.size, 0, none⟩ = some (.slice na r.name.length nc) ∧ w'.cell? ⟨w.heap.size, 1, none⟩ = some (.int .i64 r.type) ∧ w'.cell? ⟨w.heap.size, 2, none⟩ = some (.int .i64 r.ttl) ∧ w'.cell? ⟨w.heap.size, 3, none⟩ = some (.int .i64 r.addr) ∧ w'.cell? ⟨w.heap.size, 4, none⟩ = some (.slice ta r.to.length tc) ∧ w'.cell? ⟨w.heap.size, 5, none⟩ = some (.slice xa r.text.length xc) ∧ w'.cell? ⟨w.heap.size, 6, none⟩ = some (.slice ia r.nums.length ic)) ∧ (Instr.lookup 52 (.map (some b)) (.string kn) false).run Tryz.prog w' = .ok (.map (some p)) w')) (by kernel_rfl) ⟨UJ (UB KB), Du (UB MB) hkn hl⟩ (fun hHeld => ?_)
 show wpAnyH _ _ _ _ _ 7 #[false, false, false, false, false, false, false] _ _
 have HD2 : Hid (∀ q : Nat, w2.drew.heap[q]? = w2.heap[q]?) := fun _ => rfl
 generalize w2.drew = W0 at *
 refine tkF (.map (some b)) rfl (by kernel_rfl) (by kernel_rfl) (fun _ _ _ h => h) ?_ hHeld ?_; (· (intro w hSw; (try dsimp only at hSw); go_simp)); simp only [Act.put, setF, List.setIfInBounds_toArray, List.set_cons_zero, List.set_cons_succ]
 refine tkF (.string kn) rfl (by kernel_rfl) (by kernel_rfl) (fun _ _ _ h => h) ?_ hHeld ?_; (· (intro w hSw; (try dsimp only at hSw); go_simp)); simp only [Act.put, setF, List.setIfInBounds_toArray, List.set_cons_zero, List.set_cons_succ]
 refine tkF (.map (some p)) rfl (by kernel_rfl) (by kernel_rfl) (fun _ _ _ h => h) ?_ hHeld ?_; (· (intro w hSw; (try dsimp only at hSw); go_simp)); simp only [Act.put, setF, List.setIfInBounds_toArray, List.set_cons_zero, List.set_cons_succ]
 refine tkF (.agg #[.slice na r.name.length nc, .int .i64 r.type, .int .i64 r.ttl, .int .i64 r.addr, .slice ta r.to.length tc, .slice xa r.text.length xc, .slice ia r.nums.length ic]) rfl (by kernel_rfl) (by kernel_rfl) (fun _ _ _ h => h) ?_ hHeld ?_; (· (intro w hSw; (try dsimp only at hSw); go_simp)); simp only [Act.put, setF, List.setIfInBounds_toArray, List.set_cons_zero, List.set_cons_succ]
 refine tkI 5 (.agg #[.slice na r.name.length nc, .int .i64 r.type, .int .i64 r.ttl, .int .i64 r.addr, .slice ta r.to.length tc, .slice xa r.text.length xc, .slice ia r.nums.length ic]) rfl (by kernel_rfl) (by kernel_rfl) (fun _ _ _ h => h) ?_ hHeld ?_
 ·(intro w hSw; (try dsimp only at hSw); go_simp)
 try simp only [Act.put, List.setIfInBounds_toArray, List.set_cons_zero, List.set_cons_succ]
 refine wpAnyH_ready (rs := [4]) (by kernel_rfl) (by simp) (AllReadyH.cons (UY rfl) (fun K hK => ?_) AllReadyH.nil)
 have HK := UC hK
 clear hK hHeld
 go_simp
 refine (UB HD _ (UB HRR)).mono ?_
 rintro e w4 ⟨rfl, b4⟩
 replace KB := UC (UE b4 (UB KB))
 replace MB := UC ((UB MB).below b4)
 replace HPP := UC ((UB HPP).kept (b4.block _ (UB HPP).lt) (Da b4))
 replace HRR := UC ((UB HRR).below b4)
 replace KO := UC ((UB KO).trans (C5 b4))
 replace BN := UC ((UB BN).trans (b4.mono (by omega)))
 have z4 := b4.size
 have HB4 := UC b4
 clear b4
 go_simp
 refine (UB HK).out _ _ ⟨UJ (UB KB), Du (UB MB) hkn hl⟩ (fun hHeld => ?_)
 clear HK K
 try simp only [List.setIfInBounds_toArray, List.set_cons_zero, List.set_cons_succ]
 refine wpAnyH_ready (rs := [6]) (by kernel_rfl) (by simp) (AllReadyH.cons (UY rfl) (fun K hK => ?_) AllReadyH.nil)
 have HK := UC hK
 clear hK hHeld
 obtain ⟨w5, hrun, hp5, g5, k5⟩ := Sz (t := 79) Tryz.underlying79 Tryz.underlying9 (UB HPP) kd hkd ⟨_, _, _, _, rfl, UB HRR⟩
 refine Rc rfl (.tmp 17) (.tmp 19) (.tmp 20) 79 rfl (.map (some p)) (.string kd) (.agg #[.slice na r.name.length nc, .int .i64 r.type, .int .i64 r.ttl, .int .i64 r.addr, .slice ta r.to.length tc, .slice xa r.text.length xc, .slice ia r.nums.length ic]) (by simp [Act.eval]) (by simp [Act.eval]) (by simp [Act.eval]) hrun ?_
 have m5 := (UB MB).grown g5 (by simpa using hne)
 have kb5 := k5.2 _ _ (UB KB) rfl
 replace KO := UC ((UB KO).trans k5)
 replace BN := UC ((UB BN).grown g5 (by omega) (fun k e => by simp at e; omega))
 clear hrun
 refine (UB HK).out _ _ ⟨UJ kb5, Du m5 hkn hl⟩ (fun hHeld => ?_)
 clear HK K
 try simp only [List.setIfInBounds_toArray, List.set_cons_zero, List.set_cons_succ]
 refine wpAnyH_done (by kernel_rfl) ?_ _
 clear hHeld
 go_wp2_with fail
 go_end0
 refine ⟨⟨_, rfl⟩, p, by omega, hp5, m5, UB KO, UB BN, fun q hq hlt => ?_⟩
 rw [g5.block q (by omega) (by simp; omega), (UB HB4).block q (by omega)]
 rw [show W0.heap[q]? = w2.heap[q]? from UB HD2 q, (UB G2).block q (by have := UB ZA; omega) (by simpa using hq), (UB BA).block q (by omega)]
 exact (UB BB).block q hlt

theorem Su {n0 b : Nat} {B : Bk} {vn vt vx vi : Value} {r : Rec} {w : World} (hB : Gd n0 w b B) (h : HasR w vn vt vx vi r) (hok : rrOk r = true) (hz : n0 ≤ w.heap.size) :
  Calls Tryz.prog 43 #[.map (some b), .agg #[vn, .int .i64 r.type, .int .i64 r.ttl, .int .i64 r.addr, vt, vx, vi]] w fun e w' => (∃ v, e = .returned v) ∧ Gd n0 w' b (Hk (strOfNums (keyN r.name)) (strOfNums (keyD r)) r B) ∧ Fw w w' ∧ Below n0 w w' := by
 obtain ⟨na, nc, rfl, _⟩ := h.name.form
 obtain ⟨ta, tc, rfl, _⟩ := h.to.form
 obtain ⟨xa, xc, rfl, _⟩ := h.text.form
 obtain ⟨ia, ic, rfl, _⟩ := h.nums.form
 obtain ⟨h0, ps, h1, h2, h3⟩ := hB
 unfold Hk
 rcases Oi (k := strOfNums (keyN r.name)) h2 with ⟨l1, l2⟩ | ⟨v, P, l1, l2, ⟨p, rfl, q1, q2, q3⟩, l4⟩
 ·rw [l2]
  refine (Zr h hok h1 l1 h0 hz).mono ?_
  rintro e w' ⟨he, p, hp, p1, p2, p3, p4, p5⟩
  have zb := h1.lt
  refine ⟨he, Sl h0 h1 h2 h3 p2 p1 (by omega) (by omega) (fun q hq _ e => ?_) p3.x (fun q _ q2 q3 => p5 q q2 q3), p3, p4⟩
  obtain ⟨c, _, _, p', e1, _, _, e2⟩ := h2.left q hq
  rw [e] at e1
  cases e1
  have := e2.lt
  omega
 ·rw [l2]
  refine (V4 h hok h1 l1 q3 q2 q1 hz).mono ?_
  rintro e w' ⟨he, p1, p2, p3, p4, p5⟩
  exact ⟨he, Sl h0 h1 h2 h3 (by rw [P7 l1]; exact p2) p1 q1 q2 (Tl h3 l4) p3.x (fun q e1 _ q3 => p5 q e1 q3), p3, p4⟩
def Dr (rs : List Rec) : Bk := rs.foldl (fun B r => Hk (strOfNums (keyN r.name)) (strOfNums (keyD r)) r B) []
theorem Tb (rs : List Rec) (r : Rec) : Dr (rs ++ [r]) = Hk (strOfNums (keyN r.name)) (strOfNums (keyD r)) r (Dr rs) := by simp [Dr]

set_option maxHeartbeats 2000000 in
set_option maxRecDepth 100000 in
theorem Nv {vo vr : Value} {o : List (List Int)} {rs : List Rec} {w : World} (h : HasZ w vo vr o rs) (hok : ∀ i, i < rs.length → rrOk (rs.getD i recZ) = true) (hlen : rs.length ≤ 1000) :
  Calls Tryz.prog 19 #[.agg #[vo, vr]] w fun e w' => e = .returned (.map (some (w.heap.size + 1))) ∧ Gd w.heap.size w' (w.heap.size + 1) (Dr rs) ∧ Below w.heap.size w w' := by
 obtain ⟨oa, oc, rfl, _⟩ := h.name.form
 obtain ⟨ra, rc, rfl, _⟩ := h.recs.form
 have b0 := UI (w := w) (.cells #[.slice oa o.length oc, .slice ra rs.length rc] 28)
 have k0 := heap_alloc_new w (.cells #[.slice oa o.length oc, .slice ra rs.length rc] 28)
 have z0 : (w.alloc (.cells #[.slice oa o.length oc, .slice ra rs.length rc] 28)).heap.size = w.heap.size + 1 := World.size_alloc w _
 have hmk := run_makeMap (P := Tryz.prog) 52 (w.alloc (.cells #[.slice oa o.length oc, .slice ra rs.length rc] 28))
 have b1 := UI (w := w.alloc (.cells #[.slice oa o.length oc, .slice ra rs.length rc] 28)) (.map #[] 0)
 have BM := UC (Ud (n0 := w.heap.size) (w.alloc (.cells #[.slice oa o.length oc, .slice ra rs.length rc] 28)) (by omega))
 obtain ⟨c0, c1⟩ := UM (UE b1 k0)
 have bb := UG b0 b1
 have HT := UC h.recs
 have HOK := UC hok
 clear h hok b0 b1 k0
 generalize hm : rs.length = m at *
 have HM := UC hm
 go_enter Tryz.func19, Tryz.ntmps19
 go_wp2_with fail
 clear c0 c1 hmk hm
 rw [z0] at BM
 clear z0
 generalize (w.alloc (.cells #[.slice oa o.length oc, .slice ra m rc] 28)).alloc (.map #[] 0) = W at *
 go_loopw [10] (fun i wr => ∃ k : Nat, k ≤ m ∧ i = .int .i64 k ∧ Gd w.heap.size wr (w.heap.size + 1) (Dr (rs.take k)) ∧ Below w.heap.size w wr) (fun i _ => m - (intOf i).toNat)
 case atStart => exact ⟨0, Nat.zero_le _, rfl, by simpa [Dr] using UB BM, bb⟩
 case round =>
  obtain ⟨k, hk, rfl, hBk, hbl⟩ := hrel
  by_cases hlt : k < m
  ·obtain ⟨b, off, na, nc, ta, tc, xa, xc, ia, ic, rfl, hb1, hc, hR⟩ := (UB HT).here (k := k) (by rw [UB HM]; exact hlt)
   have hsk := UB HOK k hlt
   have htk := UC (show rs.take (k + 1) = rs.take k ++ [rs.getD k recZ] by rw [List.take_succ_eq_append_getElem (by rw [UB HM]; exact hlt)]; simp [show k < rs.length by rw [UB HM]; exact hlt])
   obtain ⟨c0, c1, c2, c3, c4, c5, c6⟩ := VH (UW hc hb1 hbl)
   generalize rs.getD k recZ = r at *
   have ba := UI (w := wr) (.cells #[.slice na r.name.length nc, .int .i64 r.type, .int .i64 r.ttl, .int .i64 r.addr, .slice ta r.to.length tc, .slice xa r.text.length xc, .slice ia r.nums.length ic] 39)
   obtain ⟨d0, d1, d2, d3, d4, d5, d6⟩ := UJ (heap_alloc_new wr (.cells #[.slice na r.name.length nc, .int .i64 r.type, .int .i64 r.ttl, .int .i64 r.addr, .slice ta r.to.length tc, .slice xa r.text.length xc, .slice ia r.nums.length ic] 39))
   have HP := UC (Su (hBk.below ba) ((hR.below hbl).below ba) hsk (Nat.le_trans hbl.size ba.size))
   have HB := UC (UG hbl ba)
   clear ba hc hR hsk hbl hBk
   go_wp2_with fail
   refine (UB HP).mono ?_
   rintro e w3 ⟨⟨v3, rfl⟩, hB3, hK3, hb3⟩
   have hb4 := (UB HB).trans hb3
   clear HP HB d0 d1 d2 d3 d4 d5 d6 c0 c1 c2 c3 c4 c5 c6 hb3 hK3
   go_wp2
   go_roundw
   case rel => exact ⟨k + 1, by omega, by go_num, by rw [UB htk, Tb]; exact hB3, hb4⟩
   case measure => simp [intOf]; omega
  ·obtain rfl : k = m := by omega
   have hall : rs.take k = rs := List.take_of_length_le (by rw [UB HM]; exact Nat.le_refl _)
   rw [hall] at hBk
   clear hall
   go_wp2
   go_ret
   exact ⟨rfl, hBk, hbl⟩
end Go.Proofs.YtfneahdnpmamkaaGreat
