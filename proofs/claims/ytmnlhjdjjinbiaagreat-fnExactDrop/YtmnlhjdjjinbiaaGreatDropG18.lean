/-
  Contract of the program's put: a record more in a book. The library functions that gather and sort the keys of maps, by the contracts that lie compiled in the library, laid at this program by the shelf's own command in plain words. Plain facts: a name that ends with another, and the end of a list of texts in memory. No program is named here. Plain facts: whether a book has a record of a name, or of one under it. No program is named here.
-/
import Derived.Test.YtmnlhjdjjinbiaaGreatDropG10
import Derived.Test.YtmnlhjdjjinbiaaGreatDropG17
import Derived.Test.YtmnlhjdjjinbiaaGreatDropG03
import Derived.WalkSpells
import Derived.Shelf.SlIter.Nil
import Derived.Shelf.SortM.Plain
import Derived.Shelf.SortM.SortNone
import Derived.Ground.GgzProg
import Derived.Ground.SlgmProg
import Derived.Test.YtmnlhjdjjinbiaaGreatProg
import Derived.Test.YtmnlhjdjjinbiaaGreatDropG14
namespace Go.Proofs.YtmnlhjdjjinbiaaGreat
open Go.RowKit
set_option linter.unusedVariables false

theorem zero_page (w : World) : (zeroValue 109).run Tryz.prog w = .ok (.map none) w := by
  have h : (Tryz.prog.info? 109).map (fun i => i.zero) = some (some (.map none)) := by kernel_rfl
  obtain ⟨i, h1, h2⟩ := Option.map_eq_some_iff.1 h
  simp [zeroValue, typeInfo, h1, h2, go_sem]
theorem look_page {w : World} {b p : Nat} {ps : List (ByteArray × Value)} {kn : ByteArray} (h : MapV w b ps) (hk : kn.size ≤ maxLen) (hl : lookA kn ps = some (.map (some p))) : (Instr.lookup 75 (.map (some b)) (.string kn) false).run Tryz.prog w = .ok (.map (some p)) w := by
  have := mapV_look (e := 109) (t := 75) Tryz.underlying75 Tryz.underlying9 (zero_page w) h kn hk
  rw [hl] at this
  exact this
theorem look_none {w : World} {b : Nat} {ps : List (ByteArray × Value)} {kn : ByteArray} (h : MapV w b ps) (hk : kn.size ≤ maxLen) (hl : lookA kn ps = none) : (Instr.lookup 75 (.map (some b)) (.string kn) false).run Tryz.prog w = .ok (.map none) w := by
  have := mapV_look (e := 109) (t := 75) Tryz.underlying75 Tryz.underlying9 (zero_page w) h kn hk
  rw [hl] at this
  exact this
theorem keyN_size {n : List (List Int)} (h : ShortN n) : (strOfNums (keyN n)).size ≤ maxLen := by
  rw [strOfNums_size]
  have : (keyP n.reverse).length ≤ 16 * n.reverse.length := keyP_len (fun l hl => by
    obtain ⟨i, hi, rfl⟩ := List.getElem_of_mem (List.mem_reverse.1 hl)
    have := h.2 i hi
    simpa [hi] using this)
  have h1 := h.1
  have e : keyN n = keyP n.reverse := rfl
  rw [List.length_reverse] at this
  rw [e]
  unfold maxLen
  omega
theorem keyD_size {r : Rec} (h : rrOk r = true) : (strOfNums (keyD r)).size ≤ maxLen := by
  rw [strOfNums_size]
  have := dataB_length h
  simp [keyD, maxLen]
  omega

set_option maxHeartbeats 1000000 in
set_option maxRecDepth 100000 in
theorem put_there {n0 b p : Nat} {ps : List (ByteArray × Value)} {P : Pg} {na : Option Addr} {nc : Nat} {ta : Option Addr} {tc : Nat} {xa : Option Addr} {xc : Nat} {ia : Option Addr} {ic : Nat} {r : Rec} {w : World}
    (h : HasR w (.slice na r.name.length nc) (.slice ta r.to.length tc) (.slice xa r.text.length xc) (.slice ia r.nums.length ic) r) (hok : rrOk r = true)
    (hM : MapV w b ps) (hl : lookA (strOfNums (keyN r.name)) ps = some (.map (some p))) (hP : PageM w p P) (hne : p ≠ b) (hp : n0 ≤ p) (hz : n0 ≤ w.heap.size) :
    Calls Tryz.prog 89 #[.map (some b), .agg #[.slice na r.name.length nc, .int .i64 r.type, .int .i64 r.ttl, .int .i64 r.addr, .slice ta r.to.length tc, .slice xa r.text.length xc, .slice ia r.nums.length ic]] w fun e w' => (∃ v, e = .returned v) ∧ PageM w' p (putA (strOfNums (keyD r)) r P) ∧ MapV w' b ps ∧ KeptO w w' ∧ Below n0 w w' ∧ (∀ q, q ≠ p → q < w.heap.size → w'.heap[q]? = w.heap[q]?) := by
  have MB := hide hM
  have HPP := hide hP
  have HRR := hide h
  clear hM hP
  have b0 := below_alloc (w := w) (.cells #[.slice na r.name.length nc, .int .i64 r.type, .int .i64 r.ttl, .int .i64 r.addr, .slice ta r.to.length tc, .slice xa r.text.length xc, .slice ia r.nums.length ic] 42)
  have KB := hide (heap_alloc_new w (.cells #[.slice na r.name.length nc, .int .i64 r.type, .int .i64 r.ttl, .int .i64 r.addr, .slice ta r.to.length tc, .slice xa r.text.length xc, .slice ia r.nums.length ic] 42))
  have hn := short_name (rrOk_parts hok).1
  have HN := hide (nameKey_has (h.name.below b0) hn.1 hn.2)
  have HD := hide (fun (w : World) (hh : HasR w (.slice na r.name.length nc) (.slice ta r.to.length tc) (.slice xa r.text.length xc) (.slice ia r.nums.length ic) r) => dataKey_has hh hok)
  have hkn := keyN_size hn
  have hkd := keyD_size hok
  obtain ⟨d0, d1, d2, d3, d4, d5, d6⟩ := cells7 (unhide KB)
  generalize hKN : strOfNums (keyN r.name) = kn at *
  generalize hKD : strOfNums (keyD r) = kd at *
  clear hKN hKD hn hok
  go_enter Tryz.func89, Tryz.ntmps89
  go_wp2_with fail
  generalize w.alloc (.cells #[.slice na r.name.length nc, .int .i64 r.type, .int .i64 r.ttl, .int .i64 r.addr, .slice ta r.to.length tc, .slice xa r.text.length xc, .slice ia r.nums.length ic] 42) = W at *
  refine (unhide HN).mono ?_
  rintro e w1 ⟨rfl, b1⟩
  replace KB := hide (block_kept b1 (unhide KB))
  have bb := below_next b0 b1
  clear b0 b1 d0 d1 d2 d3 d4 d5 d6 HN
  clear h
  replace MB := hide ((unhide MB).below bb)
  replace HPP := hide ((unhide HPP).kept (bb.block _ (unhide HPP).lt) (keptX_below bb))
  replace HRR := hide ((unhide HRR).below bb)
  have KO := hide (keptO_below bb)
  have BN := hide (bb.mono hz)
  have hz0 := hz
  replace hz : n0 ≤ w1.heap.size := Nat.le_trans hz bb.size
  have BB := hide bb
  clear bb
  have hlook := look_page (unhide MB) hkn hl
  have heql := run_eql_map_nil w1 109 9 42 (some p) Tryz.underlying109
  simp only [Option.isNone_some] at heql
  go_wp2_with fail
  clear hlook heql
  have bd := below_drew (w := w1)
  replace KB := hide (block_kept bd (unhide KB))
  replace MB := hide ((unhide MB).below bd)
  replace HPP := hide ((unhide HPP).kept (bd.block _ (unhide HPP).lt) (keptX_below bd))
  replace HRR := hide ((unhide HRR).below bd)
  replace KO := hide ((unhide KO).trans (keptO_below bd))
  replace BN := hide ((unhide BN).trans (bd.mono hz))
  have zd := bd.size
  clear bd
  refine wp_region_held_drew (S := (fun w' => (w'.cell? ⟨w.heap.size, 0, none⟩ = some (.slice na r.name.length nc) ∧ w'.cell? ⟨w.heap.size, 1, none⟩ = some (.int .i64 r.type) ∧ w'.cell? ⟨w.heap.size, 2, none⟩ = some (.int .i64 r.ttl) ∧ w'.cell? ⟨w.heap.size, 3, none⟩ = some (.int .i64 r.addr) ∧ w'.cell? ⟨w.heap.size, 4, none⟩ = some (.slice ta r.to.length tc) ∧ w'.cell? ⟨w.heap.size, 5, none⟩ = some (.slice xa r.text.length xc) ∧ w'.cell? ⟨w.heap.size, 6, none⟩ = some (.slice ia r.nums.length ic)) ∧ (Instr.lookup 75 (.map (some b)) (.string kn) false).run Tryz.prog w' = .ok (.map (some p)) w')) (by kernel_rfl) ⟨cells7 (unhide KB), look_page (unhide MB) hkn hl⟩ (fun hHeld => ?_)
  show wpAnyH _ _ _ _ _ 7 #[false, false, false, false, false, false, false] _ _
  have HD2 : Hid (∀ q : Nat, w1.drew.heap[q]? = w1.heap[q]?) := fun _ => rfl
  generalize w1.drew = W0 at *
  refine wpAnyH_take (i := 0) (oi := { dst := some 15, op := Op.move (Operand.tmp 0), type := 75, pos := "l05_zone.go:65", after := #[], guard := none }) (v := .map (some b)) rfl (by kernel_rfl) (by kernel_rfl) (by kernel_rfl) (fun _ _ _ h => h) (Or.inl ⟨by rfl, ?_⟩) hHeld ?_
  · (intro w hSw; (try dsimp only at hSw); go_simp)
  try simp only [Act.put, List.setIfInBounds_toArray, List.set_cons_zero, List.set_cons_succ]
  refine wpAnyH_take (i := 1) (oi := { dst := some 16, op := Op.move (Operand.tmp 4), type := 9, pos := "l05_zone.go:65", after := #[], guard := none }) (v := .string kn) rfl (by kernel_rfl) (by kernel_rfl) (by kernel_rfl) (fun _ _ _ h => h) (Or.inl ⟨by rfl, ?_⟩) hHeld ?_
  · (intro w hSw; (try dsimp only at hSw); go_simp)
  try simp only [Act.put, List.setIfInBounds_toArray, List.set_cons_zero, List.set_cons_succ]
  refine wpAnyH_take (i := 2) (oi := { dst := some 17, op := Op.lookup 75 (Operand.tmp 15) (Operand.tmp 16) false, type := 109, pos := "l05_zone.go:65", after := #[{ on := 0, ground := Ground.data }, { on := 1, ground := Ground.data }], guard := none }) (v := .map (some p)) rfl (by kernel_rfl) (by kernel_rfl) (by kernel_rfl) (fun _ _ _ h => h) (Or.inl ⟨by rfl, ?_⟩) hHeld ?_
  · (intro w hSw; (try dsimp only at hSw); go_simp)
  try simp only [Act.put, List.setIfInBounds_toArray, List.set_cons_zero, List.set_cons_succ]
  refine wpAnyH_take (i := 3) (oi := { dst := some 18, op := Op.load 42 (Operand.tmp 3), type := 42, pos := "l05_zone.go:65", after := #[], guard := none }) (v := .agg #[.slice na r.name.length nc, .int .i64 r.type, .int .i64 r.ttl, .int .i64 r.addr, .slice ta r.to.length tc, .slice xa r.text.length xc, .slice ia r.nums.length ic]) rfl (by kernel_rfl) (by kernel_rfl) (by kernel_rfl) (fun _ _ _ h => h) (Or.inl ⟨by rfl, ?_⟩) hHeld ?_
  · (intro w hSw; (try dsimp only at hSw); go_simp)
  try simp only [Act.put, List.setIfInBounds_toArray, List.set_cons_zero, List.set_cons_succ]
  refine wpAnyH_take (i := 5) (oi := { dst := some 20, op := Op.load 42 (Operand.tmp 3), type := 42, pos := "l05_zone.go:65", after := #[], guard := none }) (v := .agg #[.slice na r.name.length nc, .int .i64 r.type, .int .i64 r.ttl, .int .i64 r.addr, .slice ta r.to.length tc, .slice xa r.text.length xc, .slice ia r.nums.length ic]) rfl (by kernel_rfl) (by kernel_rfl) (by kernel_rfl) (fun _ _ _ h => h) (Or.inl ⟨by rfl, ?_⟩) hHeld ?_
  · (intro w hSw; (try dsimp only at hSw); go_simp)
  try simp only [Act.put, List.setIfInBounds_toArray, List.set_cons_zero, List.set_cons_succ]
  refine wpAnyH_ready (rs := [4]) (by kernel_rfl) (by simp) (AllReadyH.cons (o := { dst := some 19, op := Op.call { callee := Callee.value (Operand.func 97), args := #[Operand.tmp 18], argTypes := #[42] }, type := 9, pos := "l05_zone.go:65", after := #[{ on := 3, ground := Ground.data }], guard := none }) rfl (fun K hK => ?_) AllReadyH.nil)
  have HK := hide hK
  clear hK hHeld
  go_simp
  refine (unhide HD _ (unhide HRR)).mono ?_
  rintro e w4 ⟨rfl, b4⟩
  replace KB := hide (block_kept b4 (unhide KB))
  replace MB := hide ((unhide MB).below b4)
  replace HPP := hide ((unhide HPP).kept (b4.block _ (unhide HPP).lt) (keptX_below b4))
  replace HRR := hide ((unhide HRR).below b4)
  replace KO := hide ((unhide KO).trans (keptO_below b4))
  replace BN := hide ((unhide BN).trans (b4.mono (by omega)))
  have z4 := b4.size
  have HB4 := hide b4
  clear b4
  go_simp
  refine (unhide HK).out _ _ ⟨cells7 (unhide KB), look_page (unhide MB) hkn hl⟩ (fun hHeld => ?_)
  clear HK K
  try simp only [List.setIfInBounds_toArray, List.set_cons_zero, List.set_cons_succ]
  refine wpAnyH_ready (rs := [6]) (by kernel_rfl) (by simp) (AllReadyH.cons (o := { dst := none, op := Op.mapUpdate 109 (Operand.tmp 17) (Operand.tmp 19) (Operand.tmp 20), type := 0, pos := "l05_zone.go:65", after := #[{ on := 2, ground := Ground.data }, { on := 4, ground := Ground.data }, { on := 5, ground := Ground.data }, { on := 4, ground := Ground.chain }, { on := 0, ground := Ground.phase }, { on := 1, ground := Ground.phase }, { on := 2, ground := Ground.phase }, { on := 3, ground := Ground.phase }, { on := 4, ground := Ground.phase }, { on := 5, ground := Ground.phase }], guard := none }) rfl (fun K hK => ?_) AllReadyH.nil)
  have HK := hide hK
  clear hK hHeld
  obtain ⟨w5, hrun, hp5, g5, k5⟩ := page_put (t := 109) Tryz.underlying109 Tryz.underlying9 (unhide HPP) kd hkd ⟨_, _, _, _, rfl, unhide HRR⟩
  refine step_put rfl (.tmp 17) (.tmp 19) (.tmp 20) 109 rfl (.map (some p)) (.string kd) (.agg #[.slice na r.name.length nc, .int .i64 r.type, .int .i64 r.ttl, .int .i64 r.addr, .slice ta r.to.length tc, .slice xa r.text.length xc, .slice ia r.nums.length ic]) (by simp [Act.eval]) (by simp [Act.eval]) (by simp [Act.eval]) hrun ?_
  have m5 := (unhide MB).grown g5 (by simpa using hne)
  have kb5 := k5.2 _ _ (unhide KB) rfl
  replace KO := hide ((unhide KO).trans k5)
  replace BN := hide ((unhide BN).grown g5 (by omega) (fun k e => by simp at e; omega))
  clear hrun
  refine (unhide HK).out _ _ ⟨cells7 kb5, look_page m5 hkn hl⟩ (fun hHeld => ?_)
  clear HK K
  try simp only [List.setIfInBounds_toArray, List.set_cons_zero, List.set_cons_succ]
  refine wpAnyH_done (by kernel_rfl) ?_ _
  clear hHeld
  go_wp2_with fail
  go_end0
  refine ⟨⟨_, rfl⟩, hp5, m5, unhide KO, unhide BN, fun q hq hlt => ?_⟩
  have zz := (unhide BB).size
  rw [g5.block q (by omega) (by simpa using hq), (unhide HB4).block q (by omega), show W0.heap[q]? = w1.heap[q]? from unhide HD2 q]
  exact (unhide BB).block q hlt

set_option maxHeartbeats 1000000 in
set_option maxRecDepth 100000 in
theorem put_new {n0 b : Nat} {ps : List (ByteArray × Value)} {na : Option Addr} {nc : Nat} {ta : Option Addr} {tc : Nat} {xa : Option Addr} {xc : Nat} {ia : Option Addr} {ic : Nat} {r : Rec} {w : World}
    (h : HasR w (.slice na r.name.length nc) (.slice ta r.to.length tc) (.slice xa r.text.length xc) (.slice ia r.nums.length ic) r) (hok : rrOk r = true)
    (hM : MapV w b ps) (hl : lookA (strOfNums (keyN r.name)) ps = none) (hb : n0 ≤ b) (hz : n0 ≤ w.heap.size) :
    Calls Tryz.prog 89 #[.map (some b), .agg #[.slice na r.name.length nc, .int .i64 r.type, .int .i64 r.ttl, .int .i64 r.addr, .slice ta r.to.length tc, .slice xa r.text.length xc, .slice ia r.nums.length ic]] w fun e w' => (∃ v, e = .returned v) ∧ ∃ p, w.heap.size ≤ p ∧ PageM w' p (putA (strOfNums (keyD r)) r []) ∧ MapV w' b (putA (strOfNums (keyN r.name)) (.map (some p)) ps) ∧ KeptO w w' ∧ Below n0 w w' ∧ (∀ q, q ≠ b → q < w.heap.size → w'.heap[q]? = w.heap[q]?) := by
  have MB := hide hM
  have HRR := hide h
  have zb := hM.lt
  clear hM
  have b0 := below_alloc (w := w) (.cells #[.slice na r.name.length nc, .int .i64 r.type, .int .i64 r.ttl, .int .i64 r.addr, .slice ta r.to.length tc, .slice xa r.text.length xc, .slice ia r.nums.length ic] 42)
  have KB := hide (heap_alloc_new w (.cells #[.slice na r.name.length nc, .int .i64 r.type, .int .i64 r.ttl, .int .i64 r.addr, .slice ta r.to.length tc, .slice xa r.text.length xc, .slice ia r.nums.length ic] 42))
  have hn := short_name (rrOk_parts hok).1
  have HN := hide (nameKey_has (h.name.below b0) hn.1 hn.2)
  have HD := hide (fun (w : World) (hh : HasR w (.slice na r.name.length nc) (.slice ta r.to.length tc) (.slice xa r.text.length xc) (.slice ia r.nums.length ic) r) => dataKey_has hh hok)
  have hkn := keyN_size hn
  have hkd := keyD_size hok
  obtain ⟨d0, d1, d2, d3, d4, d5, d6⟩ := cells7 (unhide KB)
  generalize hKN : strOfNums (keyN r.name) = kn at *
  generalize hKD : strOfNums (keyD r) = kd at *
  clear hKN hKD hn hok
  go_enter Tryz.func89, Tryz.ntmps89
  go_wp2_with fail
  generalize w.alloc (.cells #[.slice na r.name.length nc, .int .i64 r.type, .int .i64 r.ttl, .int .i64 r.addr, .slice ta r.to.length tc, .slice xa r.text.length xc, .slice ia r.nums.length ic] 42) = W at *
  refine (unhide HN).mono ?_
  rintro e w1 ⟨rfl, b1⟩
  replace KB := hide (block_kept b1 (unhide KB))
  have bb := below_next b0 b1
  clear b0 b1 d0 d1 d2 d3 d4 d5 d6 HN
  clear h
  replace MB := hide ((unhide MB).below bb)
  replace HRR := hide ((unhide HRR).below bb)
  have KO := hide (keptO_below bb)
  have BN := hide (bb.mono hz)
  have zw := bb.size
  have BB := hide bb
  clear bb
  have hlook := look_none (unhide MB) hkn hl
  have heql := run_eql_map_nil w1 109 9 42 none Tryz.underlying109
  simp only [Option.isNone_none] at heql
  obtain ⟨w2, hrun2, m2, g2⟩ := mapV_put (t := 75) Tryz.underlying75 Tryz.underlying9 ((unhide MB).below (below_alloc (.map #[] 0))) kn hkn (.map (some w1.heap.size))
  have hmk := run_makeMap (P := Tryz.prog) 109 w1
  go_wp2_with (first | (at_mapUpdate; refine list_put rfl (.tmp 12) (.tmp 13) (.tmp 14) 75 rfl (.map (some b)) (.string kn) (.map (some w1.heap.size)) (by simp [Act.eval]) (by simp [Act.eval]) (by simp [Act.eval]) hrun2 ?_))
  have ba := below_alloc (w := w1) (.map #[] 0)
  have za : (w1.alloc (.map #[] 0)).heap.size = w1.heap.size + 1 := World.size_alloc w1 _
  have ko2 := (keptO_below ba).trans (keptO_map g2 ((unhide MB).below ba))
  have hpg : PageM w2 w1.heap.size [] := ⟨[], (mapV_made w1).grown g2 (by simp; omega), .nil⟩
  replace KB := hide (ko2.2 _ _ (unhide KB) rfl)
  replace HRR := hide ((unhide HRR).keptX ko2.x)
  replace KO := hide ((unhide KO).trans ko2)
  have z2 := g2.size
  replace BN := hide ((unhide BN).trans (((ba.mono (by omega)).grown g2 (by omega) (fun k e => by simp at e; omega))))
  have hl2 : lookA kn (putA kn (.map (some w1.heap.size)) ps) = some (.map (some w1.heap.size)) := lookA_put
  have HPP := hide hpg
  replace MB := hide m2
  have G2 := hide g2
  have hne : w1.heap.size ≠ b := by omega
  have hp : n0 ≤ w1.heap.size := by omega
  have ZA := hide za
  have BA := hide ba
  clear hlook heql hmk hrun2 m2 g2 hl ba ko2 hpg za
  have hz0 := hz
  replace hz : n0 ≤ w2.heap.size := by have := unhide ZA; omega
  rename lookA kn (putA kn (.map (some w1.heap.size)) ps) = some (.map (some w1.heap.size)) => hl
  have hsz : w1.heap.size ≤ w2.heap.size := by have := unhide ZA; omega
  generalize hp0 : w1.heap.size = p at *
  have bd := below_drew (w := w2)
  replace KB := hide (block_kept bd (unhide KB))
  replace MB := hide ((unhide MB).below bd)
  replace HPP := hide ((unhide HPP).kept (bd.block _ (unhide HPP).lt) (keptX_below bd))
  replace HRR := hide ((unhide HRR).below bd)
  replace KO := hide ((unhide KO).trans (keptO_below bd))
  replace BN := hide ((unhide BN).trans (bd.mono hz))
  have zd := bd.size
  clear bd
  refine wp_region_held_drew (S := (fun w' => (w'.cell? ⟨w.heap.size, 0, none⟩ = some (.slice na r.name.length nc) ∧ w'.cell? ⟨w.heap.size, 1, none⟩ = some (.int .i64 r.type) ∧ w'.cell? ⟨w.heap.size, 2, none⟩ = some (.int .i64 r.ttl) ∧ w'.cell? ⟨w.heap.size, 3, none⟩ = some (.int .i64 r.addr) ∧ w'.cell? ⟨w.heap.size, 4, none⟩ = some (.slice ta r.to.length tc) ∧ w'.cell? ⟨w.heap.size, 5, none⟩ = some (.slice xa r.text.length xc) ∧ w'.cell? ⟨w.heap.size, 6, none⟩ = some (.slice ia r.nums.length ic)) ∧ (Instr.lookup 75 (.map (some b)) (.string kn) false).run Tryz.prog w' = .ok (.map (some p)) w')) (by kernel_rfl) ⟨cells7 (unhide KB), look_page (unhide MB) hkn hl⟩ (fun hHeld => ?_)
  show wpAnyH _ _ _ _ _ 7 #[false, false, false, false, false, false, false] _ _
  have HD2 : Hid (∀ q : Nat, w2.drew.heap[q]? = w2.heap[q]?) := fun _ => rfl
  generalize w2.drew = W0 at *
  refine wpAnyH_take (i := 0) (oi := { dst := some 15, op := Op.move (Operand.tmp 0), type := 75, pos := "l05_zone.go:65", after := #[], guard := none }) (v := .map (some b)) rfl (by kernel_rfl) (by kernel_rfl) (by kernel_rfl) (fun _ _ _ h => h) (Or.inl ⟨by rfl, ?_⟩) hHeld ?_
  · (intro w hSw; (try dsimp only at hSw); go_simp)
  try simp only [Act.put, List.setIfInBounds_toArray, List.set_cons_zero, List.set_cons_succ]
  refine wpAnyH_take (i := 1) (oi := { dst := some 16, op := Op.move (Operand.tmp 4), type := 9, pos := "l05_zone.go:65", after := #[], guard := none }) (v := .string kn) rfl (by kernel_rfl) (by kernel_rfl) (by kernel_rfl) (fun _ _ _ h => h) (Or.inl ⟨by rfl, ?_⟩) hHeld ?_
  · (intro w hSw; (try dsimp only at hSw); go_simp)
  try simp only [Act.put, List.setIfInBounds_toArray, List.set_cons_zero, List.set_cons_succ]
  refine wpAnyH_take (i := 2) (oi := { dst := some 17, op := Op.lookup 75 (Operand.tmp 15) (Operand.tmp 16) false, type := 109, pos := "l05_zone.go:65", after := #[{ on := 0, ground := Ground.data }, { on := 1, ground := Ground.data }], guard := none }) (v := .map (some p)) rfl (by kernel_rfl) (by kernel_rfl) (by kernel_rfl) (fun _ _ _ h => h) (Or.inl ⟨by rfl, ?_⟩) hHeld ?_
  · (intro w hSw; (try dsimp only at hSw); go_simp)
  try simp only [Act.put, List.setIfInBounds_toArray, List.set_cons_zero, List.set_cons_succ]
  refine wpAnyH_take (i := 3) (oi := { dst := some 18, op := Op.load 42 (Operand.tmp 3), type := 42, pos := "l05_zone.go:65", after := #[], guard := none }) (v := .agg #[.slice na r.name.length nc, .int .i64 r.type, .int .i64 r.ttl, .int .i64 r.addr, .slice ta r.to.length tc, .slice xa r.text.length xc, .slice ia r.nums.length ic]) rfl (by kernel_rfl) (by kernel_rfl) (by kernel_rfl) (fun _ _ _ h => h) (Or.inl ⟨by rfl, ?_⟩) hHeld ?_
  · (intro w hSw; (try dsimp only at hSw); go_simp)
  try simp only [Act.put, List.setIfInBounds_toArray, List.set_cons_zero, List.set_cons_succ]
  refine wpAnyH_take (i := 5) (oi := { dst := some 20, op := Op.load 42 (Operand.tmp 3), type := 42, pos := "l05_zone.go:65", after := #[], guard := none }) (v := .agg #[.slice na r.name.length nc, .int .i64 r.type, .int .i64 r.ttl, .int .i64 r.addr, .slice ta r.to.length tc, .slice xa r.text.length xc, .slice ia r.nums.length ic]) rfl (by kernel_rfl) (by kernel_rfl) (by kernel_rfl) (fun _ _ _ h => h) (Or.inl ⟨by rfl, ?_⟩) hHeld ?_
  · (intro w hSw; (try dsimp only at hSw); go_simp)
  try simp only [Act.put, List.setIfInBounds_toArray, List.set_cons_zero, List.set_cons_succ]
  refine wpAnyH_ready (rs := [4]) (by kernel_rfl) (by simp) (AllReadyH.cons (o := { dst := some 19, op := Op.call { callee := Callee.value (Operand.func 97), args := #[Operand.tmp 18], argTypes := #[42] }, type := 9, pos := "l05_zone.go:65", after := #[{ on := 3, ground := Ground.data }], guard := none }) rfl (fun K hK => ?_) AllReadyH.nil)
  have HK := hide hK
  clear hK hHeld
  go_simp
  refine (unhide HD _ (unhide HRR)).mono ?_
  rintro e w4 ⟨rfl, b4⟩
  replace KB := hide (block_kept b4 (unhide KB))
  replace MB := hide ((unhide MB).below b4)
  replace HPP := hide ((unhide HPP).kept (b4.block _ (unhide HPP).lt) (keptX_below b4))
  replace HRR := hide ((unhide HRR).below b4)
  replace KO := hide ((unhide KO).trans (keptO_below b4))
  replace BN := hide ((unhide BN).trans (b4.mono (by omega)))
  have z4 := b4.size
  have HB4 := hide b4
  clear b4
  go_simp
  refine (unhide HK).out _ _ ⟨cells7 (unhide KB), look_page (unhide MB) hkn hl⟩ (fun hHeld => ?_)
  clear HK K
  try simp only [List.setIfInBounds_toArray, List.set_cons_zero, List.set_cons_succ]
  refine wpAnyH_ready (rs := [6]) (by kernel_rfl) (by simp) (AllReadyH.cons (o := { dst := none, op := Op.mapUpdate 109 (Operand.tmp 17) (Operand.tmp 19) (Operand.tmp 20), type := 0, pos := "l05_zone.go:65", after := #[{ on := 2, ground := Ground.data }, { on := 4, ground := Ground.data }, { on := 5, ground := Ground.data }, { on := 4, ground := Ground.chain }, { on := 0, ground := Ground.phase }, { on := 1, ground := Ground.phase }, { on := 2, ground := Ground.phase }, { on := 3, ground := Ground.phase }, { on := 4, ground := Ground.phase }, { on := 5, ground := Ground.phase }], guard := none }) rfl (fun K hK => ?_) AllReadyH.nil)
  have HK := hide hK
  clear hK hHeld
  obtain ⟨w5, hrun, hp5, g5, k5⟩ := page_put (t := 109) Tryz.underlying109 Tryz.underlying9 (unhide HPP) kd hkd ⟨_, _, _, _, rfl, unhide HRR⟩
  refine step_put rfl (.tmp 17) (.tmp 19) (.tmp 20) 109 rfl (.map (some p)) (.string kd) (.agg #[.slice na r.name.length nc, .int .i64 r.type, .int .i64 r.ttl, .int .i64 r.addr, .slice ta r.to.length tc, .slice xa r.text.length xc, .slice ia r.nums.length ic]) (by simp [Act.eval]) (by simp [Act.eval]) (by simp [Act.eval]) hrun ?_
  have m5 := (unhide MB).grown g5 (by simpa using hne)
  have kb5 := k5.2 _ _ (unhide KB) rfl
  replace KO := hide ((unhide KO).trans k5)
  replace BN := hide ((unhide BN).grown g5 (by omega) (fun k e => by simp at e; omega))
  clear hrun
  refine (unhide HK).out _ _ ⟨cells7 kb5, look_page m5 hkn hl⟩ (fun hHeld => ?_)
  clear HK K
  try simp only [List.setIfInBounds_toArray, List.set_cons_zero, List.set_cons_succ]
  refine wpAnyH_done (by kernel_rfl) ?_ _
  clear hHeld
  go_wp2_with fail
  go_end0
  refine ⟨⟨_, rfl⟩, p, by omega, hp5, m5, unhide KO, unhide BN, fun q hq hlt => ?_⟩
  rw [g5.block q (by omega) (by simp; omega), (unhide HB4).block q (by omega)]
  rw [show W0.heap[q]? = w2.heap[q]? from unhide HD2 q, (unhide G2).block q (by have := unhide ZA; omega) (by simpa using hq), (unhide BA).block q (by omega)]
  exact (unhide BB).block q hlt

theorem bookPut_has {n0 b : Nat} {B : Bk} {vn vt vx vi : Value} {r : Rec} {w : World} (hB : BookM n0 w b B) (h : HasR w vn vt vx vi r) (hok : rrOk r = true) (hz : n0 ≤ w.heap.size) :
    Calls Tryz.prog 89 #[.map (some b), .agg #[vn, .int .i64 r.type, .int .i64 r.ttl, .int .i64 r.addr, vt, vx, vi]] w fun e w' => (∃ v, e = .returned v) ∧ BookM n0 w' b (bkPut (strOfNums (keyN r.name)) (strOfNums (keyD r)) r B) ∧ KeptO w w' ∧ Below n0 w w' := by
  obtain ⟨na, nc, rfl, _⟩ := h.name.form
  obtain ⟨ta, tc, rfl, _⟩ := h.to.form
  obtain ⟨xa, xc, rfl, _⟩ := h.text.form
  obtain ⟨ia, ic, rfl, _⟩ := h.nums.form
  obtain ⟨h0, ps, h1, h2, h3⟩ := hB
  unfold bkPut
  rcases two_look (k := strOfNums (keyN r.name)) h2 with ⟨l1, l2⟩ | ⟨v, P, l1, l2, ⟨p, rfl, q1, q2, q3⟩, l4⟩
  · rw [l2]
    refine (put_new h hok h1 l1 h0 hz).mono ?_
    rintro e w' ⟨he, p, hp, p1, p2, p3, p4, p5⟩
    have zb := h1.lt
    refine ⟨he, book_put h0 h1 h2 h3 p2 p1 (by omega) (by omega) (fun q hq _ e => ?_) p3.x (fun q _ q2 q3 => p5 q q2 q3), p3, p4⟩
    obtain ⟨c, _, _, p', e1, _, _, e2⟩ := h2.left q hq
    rw [e] at e1
    cases e1
    have := e2.lt
    omega
  · rw [l2]
    refine (put_there h hok h1 l1 q3 q2 q1 hz).mono ?_
    rintro e w' ⟨he, p1, p2, p3, p4, p5⟩
    exact ⟨he, book_put h0 h1 h2 h3 (by rw [putA_same l1]; exact p2) p1 q1 q2 (other_page h3 l4) p3.x (fun q e1 _ q3 => p5 q e1 q3), p3, p4⟩
end Go.Proofs.YtmnlhjdjjinbiaaGreat

namespace Go.Proofs
open Go.Shelf
def Tryz.sort131_ren : Go.Shelf.Ren := ⟨fun | 6 => 131 | 8 => 139 | 9 => 138 | 19 => 149 | 20 => 150 | 21 => 140 | 22 => 141 | 23 => 142 | 24 => 143 | 25 => 144 | 26 => 145 | 27 => 146 | 28 => 147 | 29 => 148 | 36 => 151 | 31 => 152 | 32 => 153 | 37 => 154 | 38 => 155 | 39 => 156 | 41 => 157 | n => n, fun | 27 => 138 | 29 => 9 | 3 => 3 | 32 => 154 | 26 => 138 | 0 => 0 | 44 => 168 | 46 => 170 | 4 => 4 | 36 => 160 | 35 => 159 | 41 => 165 | 5 => 5 | 9 => 9 | 53 => 171 | 57 => 175 | 63 => 177 | 64 => 178 | n => n, fun | n => n⟩
theorem Tryz.sort131 : Go.Proofs.SlLaysM.n6 Tryz.prog Tryz.sort131_ren := {
  mixed := by kernel_rfl
  f6 := ⟨Tryz.f131.name, by decide, Tryz.func131.trans (congrArg some (by kernel_rfl))⟩
  f8 := Tryz.func139.trans (congrArg some (by kernel_rfl))
  f9 := ⟨Tryz.f138.name, by decide, Tryz.func138.trans (congrArg some (by kernel_rfl))⟩
  f19 := Tryz.func149.trans (congrArg some (by kernel_rfl))
  f20 := Tryz.func150.trans (congrArg some (by kernel_rfl))
  f21 := ⟨Tryz.f140.name, by decide, Tryz.func140.trans (congrArg some (by kernel_rfl))⟩
  f22 := ⟨Tryz.f141.name, by decide, Tryz.func141.trans (congrArg some (by kernel_rfl))⟩
  f23 := ⟨Tryz.f142.name, by decide, Tryz.func142.trans (congrArg some (by kernel_rfl))⟩
  f24 := ⟨Tryz.f143.name, by decide, Tryz.func143.trans (congrArg some (by kernel_rfl))⟩
  f25 := ⟨Tryz.f144.name, by decide, Tryz.func144.trans (congrArg some (by kernel_rfl))⟩
  f26 := ⟨Tryz.f145.name, by decide, Tryz.func145.trans (congrArg some (by kernel_rfl))⟩
  f27 := ⟨Tryz.f146.name, by decide, Tryz.func146.trans (congrArg some (by kernel_rfl))⟩
  f28 := ⟨Tryz.f147.name, by decide, Tryz.func147.trans (congrArg some (by kernel_rfl))⟩
  f29 := ⟨Tryz.f148.name, by decide, Tryz.func148.trans (congrArg some (by kernel_rfl))⟩
  f31 := Tryz.func152.trans (congrArg some (by kernel_rfl))
  f32 := Tryz.func153.trans (congrArg some (by kernel_rfl))
  f36 := ⟨Tryz.f151.name, by decide, Tryz.func151.trans (congrArg some (by kernel_rfl))⟩
  f37 := ⟨Tryz.f154.name, by decide, Tryz.func154.trans (congrArg some (by kernel_rfl))⟩
  f38 := ⟨Tryz.f155.name, by decide, Tryz.func155.trans (congrArg some (by kernel_rfl))⟩
  f39 := ⟨Tryz.f156.name, by decide, Tryz.func156.trans (congrArg some (by kernel_rfl))⟩
  f41 := ⟨Tryz.f157.name, by decide, Tryz.func157.trans (congrArg some (by kernel_rfl))⟩
  t0 := Tryz.underlying0
  a0 := Tryz.isAgg0
  z0 := Tryz.sizeOf0
  v0 := Tryz.zeroValue0
  t3 := Tryz.underlying3
  a3 := Tryz.isAgg3
  z3 := Tryz.sizeOf3
  v3 := Tryz.zeroValue3
  t4 := Tryz.underlying4
  a4 := Tryz.isAgg4
  z4 := Tryz.sizeOf4
  v4 := Tryz.zeroValue4
  t5 := Tryz.underlying5
  a5 := Tryz.isAgg5
  z5 := Tryz.sizeOf5
  v5 := Tryz.zeroValue5
  t9 := Tryz.underlying9
  a9 := Tryz.isAgg9
  z9 := Tryz.sizeOf9
  v9 := Tryz.zeroValue9
  t26 := Tryz.underlying138
  a26 := Tryz.isAgg138
  z26 := Tryz.sizeOf138
  v26 := Tryz.zeroValue138
  t27 := Tryz.underlying138
  a27 := Tryz.isAgg138
  z27 := Tryz.sizeOf138
  v27 := Tryz.zeroValue138
  t29 := Tryz.underlying9
  a29 := Tryz.isAgg9
  z29 := Tryz.sizeOf9
  v29 := Tryz.zeroValue9
  t32 := Tryz.underlying154
  a32 := Tryz.isAgg154
  z32 := Tryz.sizeOf154
  v32 := Tryz.zeroValue154
  t35 := Tryz.underlying159
  a35 := Tryz.isAgg159
  z35 := Tryz.sizeOf159
  v35 := Tryz.zeroValue159
  t36 := Tryz.underlying160
  a36 := Tryz.isAgg160
  z36 := Tryz.sizeOf160
  v36 := Tryz.zeroValue160
  t41 := Tryz.underlying165
  a41 := Tryz.isAgg165
  z41 := Tryz.sizeOf165
  v41 := Tryz.zeroValue165
  t44 := Tryz.underlying168
  a44 := Tryz.isAgg168
  z44 := Tryz.sizeOf168
  v44 := Tryz.zeroValue168
  t46 := Tryz.underlying170
  a46 := Tryz.isAgg170
  z46 := Tryz.sizeOf170
  v46 := Tryz.zeroValue170
  t53 := Tryz.underlying171
  a53 := Tryz.isAgg171
  z53 := Tryz.sizeOf171
  v53 := Tryz.zeroValue171
  t57 := Tryz.underlying175
  a57 := Tryz.isAgg175
  z57 := Tryz.sizeOf175
  v57 := Tryz.zeroValue175
  t63 := Tryz.underlying177
  a63 := Tryz.isAgg177
  z63 := Tryz.sizeOf177
  v63 := Tryz.zeroValue177
  t64 := Tryz.underlying178
  a64 := Tryz.isAgg178
  z64 := Tryz.sizeOf178
  v64 := Tryz.zeroValue178 }
def Tryz.sorted118_ren : Go.Shelf.Ren := ⟨fun | 6 => 118 | 8 => 130 | 9 => 131 | 11 => 137 | 13 => 139 | 12 => 138 | 23 => 149 | 24 => 150 | 14 => 140 | 15 => 141 | 16 => 142 | 17 => 143 | 18 => 144 | 19 => 145 | 20 => 146 | 21 => 147 | 22 => 148 | 25 => 151 | 26 => 152 | 27 => 153 | 28 => 154 | 29 => 155 | 30 => 156 | 31 => 157 | n => n, fun | 26 => 9 | 28 => 141 | 24 => 138 | 0 => 0 | 3 => 3 | 37 => 154 | 48 => 168 | 50 => 170 | 4 => 4 | 40 => 160 | 39 => 159 | 45 => 165 | 5 => 5 | 9 => 9 | 51 => 171 | 55 => 175 | 57 => 177 | 58 => 178 | 33 => 152 | n => n, fun | n => n⟩
theorem Tryz.sorted118 : Go.Proofs.SlLaysZ.n6 Tryz.prog Tryz.sorted118_ren := {
  mixed := by kernel_rfl
  f6 := ⟨Tryz.f118.name, by decide, Tryz.func118.trans (congrArg some (by kernel_rfl))⟩
  f8 := ⟨Tryz.f130.name, by decide, Tryz.func130.trans (congrArg some (by kernel_rfl))⟩
  f11 := ⟨Tryz.f137.name, by decide, Tryz.func137.trans (congrArg some (by kernel_rfl))⟩
  t0 := Tryz.underlying0
  a0 := Tryz.isAgg0
  z0 := Tryz.sizeOf0
  v0 := Tryz.zeroValue0
  t24 := Tryz.underlying138
  a24 := Tryz.isAgg138
  z24 := Tryz.sizeOf138
  v24 := Tryz.zeroValue138
  t26 := Tryz.underlying9
  a26 := Tryz.isAgg9
  z26 := Tryz.sizeOf9
  v26 := Tryz.zeroValue9
  t28 := Tryz.underlying141
  a28 := Tryz.isAgg141
  z28 := Tryz.sizeOf141
  v28 := Tryz.zeroValue141
  i26 := by kernel_rfl }
def Tryz.keys119_ren : Go.Shelf.Ren := ⟨fun | 7 => 119 | 10 => 132 | n => n, fun | 23 => 74 | 26 => 9 | 3 => 109 | 28 => 141 | 0 => 0 | 27 => 140 | 33 => 152 | 4 => 4 | n => n, fun | n => n⟩
theorem Tryz.keys119 : Go.Proofs.SlLaysZ.n7 Tryz.prog Tryz.keys119_ren := {
  mixed := by kernel_rfl
  f7 := ⟨Tryz.f119.name, by decide, Tryz.func119.trans (congrArg some (by kernel_rfl))⟩
  f10 := ⟨Tryz.f132.name, by decide, Tryz.func132.trans (congrArg some (by kernel_rfl))⟩
  t0 := Tryz.underlying0
  a0 := Tryz.isAgg0
  z0 := Tryz.sizeOf0
  v0 := Tryz.zeroValue0
  t4 := Tryz.underlying4
  a4 := Tryz.isAgg4
  z4 := Tryz.sizeOf4
  v4 := Tryz.zeroValue4
  t23 := Tryz.underlying74
  a23 := Tryz.isAgg74
  z23 := Tryz.sizeOf74
  v23 := Tryz.zeroValue74
  t26 := Tryz.underlying9
  a26 := Tryz.isAgg9
  z26 := Tryz.sizeOf9
  v26 := Tryz.zeroValue9
  t27 := Tryz.underlying140
  a27 := Tryz.isAgg140
  z27 := Tryz.sizeOf140
  v27 := Tryz.zeroValue140
  t28 := Tryz.underlying141
  a28 := Tryz.isAgg141
  z28 := Tryz.sizeOf141
  v28 := Tryz.zeroValue141
  t33 := Tryz.underlying152
  a33 := Tryz.isAgg152
  z33 := Tryz.sizeOf152
  v33 := Tryz.zeroValue152 }
def Tryz.keys121_ren : Go.Shelf.Ren := ⟨fun | 7 => 121 | 10 => 133 | n => n, fun | 23 => 108 | 26 => 9 | 3 => 42 | 28 => 141 | 0 => 0 | 27 => 140 | 33 => 152 | 4 => 4 | n => n, fun | n => n⟩
theorem Tryz.keys121 : Go.Proofs.SlLaysZ.n7 Tryz.prog Tryz.keys121_ren := {
  mixed := by kernel_rfl
  f7 := ⟨Tryz.f121.name, by decide, Tryz.func121.trans (congrArg some (by kernel_rfl))⟩
  f10 := ⟨Tryz.f133.name, by decide, Tryz.func133.trans (congrArg some (by kernel_rfl))⟩
  t0 := Tryz.underlying0
  a0 := Tryz.isAgg0
  z0 := Tryz.sizeOf0
  v0 := Tryz.zeroValue0
  t4 := Tryz.underlying4
  a4 := Tryz.isAgg4
  z4 := Tryz.sizeOf4
  v4 := Tryz.zeroValue4
  t23 := Tryz.underlying108
  a23 := Tryz.isAgg108
  z23 := Tryz.sizeOf108
  v23 := Tryz.zeroValue108
  t26 := Tryz.underlying9
  a26 := Tryz.isAgg9
  z26 := Tryz.sizeOf9
  v26 := Tryz.zeroValue9
  t27 := Tryz.underlying140
  a27 := Tryz.isAgg140
  z27 := Tryz.sizeOf140
  v27 := Tryz.zeroValue140
  t28 := Tryz.underlying141
  a28 := Tryz.isAgg141
  z28 := Tryz.sizeOf141
  v28 := Tryz.zeroValue141
  t33 := Tryz.underlying152
  a33 := Tryz.isAgg152
  z33 := Tryz.sizeOf152
  v33 := Tryz.zeroValue152 }
end Go.Proofs

namespace Go.Proofs.YtmnlhjdjjinbiaaGreat
open Go.RowKit

/-- n ends with all labels of z. -/
def endsWith (n z : List (List Int)) : Bool := decide (z.length ≤ n.length) && (cmpN (n.drop (n.length - z.length)) z == 0)
def under (n z : List (List Int)) : Bool := nameOk n && (nameOk z && endsWith n z)

theorem endsWith_no {n z : List (List Int)} (h : n.length < z.length) : endsWith n z = false := by
  unfold endsWith
  rw [decide_eq_false (by omega)]
  rfl
theorem endsWith_yes {n z : List (List Int)} (h : z.length ≤ n.length) : endsWith n z = (cmpN (n.drop (n.length - z.length)) z == 0) := by
  unfold endsWith
  rw [decide_eq_true h]
  rfl

theorem nameOk_drop {n : List (List Int)} (h : nameOk n = true) (k : Nat) : nameOk (n.drop k) = true := by
  obtain ⟨h1, h2⟩ := nameOk_parts h
  refine nameOk_yes (by simp; omega) fun j hj => ?_
  simp at hj
  have := h2 (k + j) (by omega)
  have e : (n.drop k).getD j [] = n.getD (k + j) [] := by simp [List.getD]
  rw [e]; exact this

theorem HasL.drop {w : World} {a : Option Addr} {m cap k : Nat} {n : List (List Int)} (h : HasL w (.slice a m cap) n) (hn : n.length = m) (hk : k ≤ m) :
    (a = none ∧ m = 0 ∧ cap = 0) ∨ ∃ g off, a = some ⟨g, off, none⟩ ∧ HasL w (.slice (if cap = k then some ⟨g, off, none⟩ else some ⟨g, off + k, none⟩) (m - k) (cap - k)) (n.drop k) := by
  subst hn
  rcases h with ⟨hv, rfl⟩ | ⟨g, off, cap', hv, hlt, hl, hm, hc⟩
  · simp only [Value.slice.injEq] at hv
    exact .inl ⟨hv.1, rfl, hv.2.2⟩
  · simp only [Value.slice.injEq, true_and] at hv
    obtain ⟨rfl, rfl⟩ := hv
    right
    refine ⟨g, off, rfl, ?_⟩
    have hlen : (n.drop k).length = n.length - k := by simp
    by_cases e : cap = k
    · rw [if_pos e]
      refine .inr ⟨g, off, cap - k, by rw [hlen], hlt, by rw [hlen]; omega, by omega, fun i hi => ?_⟩
      rw [hlen] at hi
      omega
    · rw [if_neg e]
      refine .inr ⟨g, off + k, cap - k, by rw [hlen], hlt, by rw [hlen]; omega, by omega, fun i hi => ?_⟩
      rw [hlen] at hi
      obtain ⟨u, h1, h2⟩ := hc (k + i) (by omega)
      refine ⟨u, by rw [Nat.add_assoc]; exact h1, ?_⟩
      have e2 : (n.drop k).getD i [] = n.getD (k + i) [] := by simp [List.getD]
      rw [e2]; exact h2

theorem HasL.drop_cases {w : World} {g off m cap k : Nat} {n : List (List Int)} (h : HasL w (.slice (if cap = k then some ⟨g, off, none⟩ else some ⟨g, off + k, none⟩) (m - k) (cap - k)) (n.drop k)) :
    (cap = k ∧ HasL w (.slice (some ⟨g, off, none⟩) (m - k) 0) (n.drop k)) ∨ (cap ≠ k ∧ HasL w (.slice (some ⟨g, off + k, none⟩) (m - k) (cap - k)) (n.drop k)) := by
  by_cases e : cap = k
  · rw [if_pos e, e, Nat.sub_self] at h
    exact .inl ⟨e, h⟩
  · rw [if_neg e] at h
    exact .inr ⟨e, h⟩
end Go.Proofs.YtmnlhjdjjinbiaaGreat

namespace Go.Proofs.YtmnlhjdjjinbiaaGreat
open Go.RowKit
set_option linter.unusedVariables false

section
variable {κ α β : Type} [DecidableEq κ] {Q : α → β → Prop}
theorem lookA_mem {k : κ} {v : β} : ∀ {l : List (κ × β)}, l.Pairwise (fun p q => p.1 ≠ q.1) → (k, v) ∈ l → lookA k l = some v
  | [], _, h => by simp at h
  | (a, u) :: t, hd, h => by
    obtain ⟨h1, h2⟩ := List.pairwise_cons.1 hd
    rcases List.mem_cons.1 h with h | h
    · cases h
      simp [lookA]
    · rw [lookA, if_neg (h1 _ h), lookA_mem h2 h]
theorem lookA_in {k : κ} {v : β} : ∀ {l : List (κ × β)}, lookA k l = some v → (k, v) ∈ l
  | [], h => by simp [lookA] at h
  | (a, u) :: t, h => by
    by_cases e : a = k
    · simp only [lookA, if_pos e, Option.some.injEq] at h
      rw [← e, ← h]
      exact List.mem_cons_self ..
    · simp only [lookA, if_neg e] at h
      exact List.mem_cons_of_mem _ (lookA_in h)
theorem two_mem {k : κ} {v : α} {l : List (κ × α)} {m : List (κ × β)} (h : Two (AtKeys κ Q) l m) (hA : l.Pairwise (fun p q => p.1 ≠ q.1)) (hm : (k, v) ∈ l) : ∃ u, lookA k m = some u ∧ Q v u := by
  have hl := lookA_mem hA hm
  rcases two_look (k := k) h with ⟨h1, _⟩ | ⟨v', u, h1, h2, h3, _⟩
  · rw [h1] at hl
    cases hl
  · rw [h1] at hl
    cases hl
    exact ⟨u, h2, h3⟩
omit [DecidableEq κ] in
theorem two_keys {l : List (κ × α)} {m : List (κ × β)} (h : Two (AtKeys κ Q) l m) (hA : l.Pairwise (fun p q => p.1 ≠ q.1)) : m.Pairwise (fun p q => p.1 ≠ q.1) := by
  induction h with
  | nil => exact List.Pairwise.nil
  | cons h1 h0 ih =>
    obtain ⟨p1, p2⟩ := List.pairwise_cons.1 hA
    refine List.pairwise_cons.2 ⟨fun q hq e => ?_, ih p2⟩
    obtain ⟨a, ha, h2⟩ := h0.right q hq
    exact p1 a ha (h1.1.trans (e.trans h2.1.symm))
end
def hasP (n : List (List Int)) (P : Pg) : Bool := P.any (fun x => under x.2.name n)
def hasB (n : List (List Int)) (B : Bk) : Bool := B.any (fun q => hasP n q.2)
theorem hasP_none {n : List (List Int)} {ps : List (ByteArray × Value)} {P : Pg} {Q : Value → Rec → Prop} (h : Two (AtKeys ByteArray Q) ps P) (hA : ps.Pairwise (fun p q => p.1 ≠ q.1)) (hn : ∀ q ∈ ps, ∀ u, lookA q.1 P = some u → under u.name n = false) : hasP n P = false := by
  unfold hasP
  rw [List.any_eq_false]
  intro x hx
  obtain ⟨a, ha, h1, _⟩ := h.right x hx
  rw [hn a ha x.2 (by rw [h1]; exact lookA_mem (two_keys h hA) hx)]
  simp
theorem hasP_some {n : List (List Int)} {P : Pg} {k : ByteArray} {u : Rec} (h : lookA k P = some u) (hu : under u.name n = true) : hasP n P = true := by
  unfold hasP
  rw [List.any_eq_true]
  exact ⟨_, lookA_in h, hu⟩
theorem hasB_none {n : List (List Int)} {ps : List (ByteArray × Value)} {B : Bk} {Q : Value → Pg → Prop} (h : Two (AtKeys ByteArray Q) ps B) (hA : ps.Pairwise (fun p q => p.1 ≠ q.1)) (hn : ∀ q ∈ ps, ∀ u, lookA q.1 B = some u → hasP n u = false) : hasB n B = false := by
  unfold hasB
  rw [List.any_eq_false]
  intro x hx
  obtain ⟨a, ha, h1, _⟩ := h.right x hx
  rw [hn a ha x.2 (by rw [h1]; exact lookA_mem (two_keys h hA) hx)]
  simp
theorem hasB_some {n : List (List Int)} {B : Bk} {k : ByteArray} {P : Pg} (h : lookA k B = some P) (hu : hasP n P = true) : hasB n B = true := by
  unfold hasB
  rw [List.any_eq_true]
  exact ⟨_, lookA_in h, hu⟩
end Go.Proofs.YtmnlhjdjjinbiaaGreat
