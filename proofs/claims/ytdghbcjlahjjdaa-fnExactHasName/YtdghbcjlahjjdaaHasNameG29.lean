/-
  Plain facts: records that may be are short. No program is named here. Contract of the program's put: a record more in a book.
-/
import Derived.Test.YtdghbcjlahjjdaaHasNameG04
import Derived.Test.YtdghbcjlahjjdaaHasNameG00
import Derived.Test.YtdghbcjlahjjdaaHasNameG14
import Derived.Test.YtdghbcjlahjjdaaHasNameG27
import Derived.Test.YtdghbcjlahjjdaaHasNameG28
import Derived.Test.YtdghbcjlahjjdaaHasNameG13
import Derived.WalkSpells
namespace Go.Proofs.Ytdghbcjlahjjdaa
open Go.RowKit

/-- A name is short. -/
def ShortN (n : List (List Int)) : Prop := n.length ≤ 6 ∧ ∀ k, k < n.length → (n.getD k []).length ≤ 15
/-- A record is short. -/
def ShortR (r : Rec) : Prop := (r.name.length ≤ 6 ∧ ∀ k, k < r.name.length → (r.name.getD k []).length ≤ 15) ∧ (r.to.length ≤ 6 ∧ ∀ k, k < r.to.length → (r.to.getD k []).length ≤ 15) ∧ r.text.length ≤ 1048576 ∧ r.nums.length ≤ 1048576
theorem short_name {n : List (List Int)} (h : nameOk n = true) : ShortN n := ⟨(nameOk_parts h).1, fun k hk => (labelOk_length ((nameOk_parts h).2 k hk)).2⟩
theorem short_nil : ShortN [] := ⟨by simp, fun k hk => absurd hk (by simp)⟩
end Go.Proofs.Ytdghbcjlahjjdaa

namespace Go.Proofs.Ytdghbcjlahjjdaa
open Go.RowKit
set_option linter.unusedVariables false

theorem zero_page (w : World) : (zeroValue 118).run Try.prog w = .ok (.map none) w := by
  have h : (Try.prog.info? 118).map (fun i => i.zero) = some (some (.map none)) := by kernel_rfl
  obtain ⟨i, h1, h2⟩ := Option.map_eq_some_iff.1 h
  simp [zeroValue, typeInfo, h1, h2, go_sem]
theorem look_page {w : World} {b p : Nat} {ps : List (ByteArray × Value)} {kn : ByteArray} (h : MapV w b ps) (hk : kn.size ≤ maxLen) (hl : lookA kn ps = some (.map (some p))) : (Instr.lookup 79 (.map (some b)) (.string kn) false).run Try.prog w = .ok (.map (some p)) w := by
  have := mapV_look (e := 118) (t := 79) Try.underlying79 Try.underlying9 (zero_page w) h kn hk
  rw [hl] at this
  exact this
theorem look_none {w : World} {b : Nat} {ps : List (ByteArray × Value)} {kn : ByteArray} (h : MapV w b ps) (hk : kn.size ≤ maxLen) (hl : lookA kn ps = none) : (Instr.lookup 79 (.map (some b)) (.string kn) false).run Try.prog w = .ok (.map none) w := by
  have := mapV_look (e := 118) (t := 79) Try.underlying79 Try.underlying9 (zero_page w) h kn hk
  rw [hl] at this
  exact this
theorem keyN_size {n : List (List Int)} (h : ShortN n) : (strOfNums (keyN n)).size ≤ maxLen := by
  rw [strOfNums_size]
  have : (keyP n.reverse).length ≤ 16 * n.reverse.length := keyP_len (fun l hl => by
    obtain ⟨i, hi, rfl⟩ := List.getElem_of_mem (List.mem_reverse.1 hl)
    have := h.2 i hi
    simpa [hi] using this)
  have h1 := h.1
  have e : keyN n = keyP n.reverse := rfl
  rw [List.length_reverse] at this
  rw [e]
  unfold maxLen
  omega
theorem keyD_size {r : Rec} (h : rrOk r = true) : (strOfNums (keyD r)).size ≤ maxLen := by
  rw [strOfNums_size]
  have := dataB_length h
  simp [keyD, maxLen]
  omega

set_option maxHeartbeats 1000000 in
set_option maxRecDepth 100000 in
theorem put_there {n0 b p : Nat} {ps : List (ByteArray × Value)} {P : Pg} {na : Option Addr} {nc : Nat} {ta : Option Addr} {tc : Nat} {xa : Option Addr} {xc : Nat} {ia : Option Addr} {ic : Nat} {r : Rec} {w : World}
    (h : HasR w (.slice na r.name.length nc) (.slice ta r.to.length tc) (.slice xa r.text.length xc) (.slice ia r.nums.length ic) r) (hok : rrOk r = true)
    (hM : MapV w b ps) (hl : lookA (strOfNums (keyN r.name)) ps = some (.map (some p))) (hP : PageM w p P) (hne : p ≠ b) (hp : n0 ≤ p) (hz : n0 ≤ w.heap.size) :
    Calls Try.prog 93 #[.map (some b), .agg #[.slice na r.name.length nc, .int .i64 r.type, .int .i64 r.ttl, .int .i64 r.addr, .slice ta r.to.length tc, .slice xa r.text.length xc, .slice ia r.nums.length ic]] w fun e w' => (∃ v, e = .returned v) ∧ PageM w' p (putA (strOfNums (keyD r)) r P) ∧ MapV w' b ps ∧ KeptO w w' ∧ Below n0 w w' ∧ (∀ q, q ≠ p → q < w.heap.size → w'.heap[q]? = w.heap[q]?) := by
  have MB := hide hM
  have HPP := hide hP
  have HRR := hide h
  clear hM hP
  have b0 := below_alloc (w := w) (.cells #[.slice na r.name.length nc, .int .i64 r.type, .int .i64 r.ttl, .int .i64 r.addr, .slice ta r.to.length tc, .slice xa r.text.length xc, .slice ia r.nums.length ic] 28)
  have KB := hide (heap_alloc_new w (.cells #[.slice na r.name.length nc, .int .i64 r.type, .int .i64 r.ttl, .int .i64 r.addr, .slice ta r.to.length tc, .slice xa r.text.length xc, .slice ia r.nums.length ic] 28))
  have hn := short_name (rrOk_parts hok).1
  have HN := hide (nameKey_has (h.name.below b0) hn.1 hn.2)
  have HD := hide (fun (w : World) (hh : HasR w (.slice na r.name.length nc) (.slice ta r.to.length tc) (.slice xa r.text.length xc) (.slice ia r.nums.length ic) r) => dataKey_has hh hok)
  have hkn := keyN_size hn
  have hkd := keyD_size hok
  obtain ⟨d0, d1, d2, d3, d4, d5, d6⟩ := cells7 (unhide KB)
  generalize hKN : strOfNums (keyN r.name) = kn at *
  generalize hKD : strOfNums (keyD r) = kd at *
  clear hKN hKD hn hok
  go_enter Try.func93, Try.ntmps93
  go_wp2_with fail
  generalize w.alloc (.cells #[.slice na r.name.length nc, .int .i64 r.type, .int .i64 r.ttl, .int .i64 r.addr, .slice ta r.to.length tc, .slice xa r.text.length xc, .slice ia r.nums.length ic] 28) = W at *
  refine (unhide HN).mono ?_
  rintro e w1 ⟨rfl, b1⟩
  replace KB := hide (block_kept b1 (unhide KB))
  have bb := below_next b0 b1
  clear b0 b1 d0 d1 d2 d3 d4 d5 d6 HN
  clear h
  replace MB := hide ((unhide MB).below bb)
  replace HPP := hide ((unhide HPP).kept (bb.block _ (unhide HPP).lt) (keptX_below bb))
  replace HRR := hide ((unhide HRR).below bb)
  have KO := hide (keptO_below bb)
  have BN := hide (bb.mono hz)
  have hz0 := hz
  replace hz : n0 ≤ w1.heap.size := Nat.le_trans hz bb.size
  have BB := hide bb
  clear bb
  have hlook := look_page (unhide MB) hkn hl
  have heql := run_eql_map_nil w1 118 9 28 (some p) Try.underlying118
  simp only [Option.isNone_some] at heql
  go_wp2_with fail
  clear hlook heql
  have bd := below_drew (w := w1)
  replace KB := hide (block_kept bd (unhide KB))
  replace MB := hide ((unhide MB).below bd)
  replace HPP := hide ((unhide HPP).kept (bd.block _ (unhide HPP).lt) (keptX_below bd))
  replace HRR := hide ((unhide HRR).below bd)
  replace KO := hide ((unhide KO).trans (keptO_below bd))
  replace BN := hide ((unhide BN).trans (bd.mono hz))
  have zd := bd.size
  clear bd
  refine wp_region_held_drew (S := (fun w' => (w'.cell? ⟨w.heap.size, 0, none⟩ = some (.slice na r.name.length nc) ∧ w'.cell? ⟨w.heap.size, 1, none⟩ = some (.int .i64 r.type) ∧ w'.cell? ⟨w.heap.size, 2, none⟩ = some (.int .i64 r.ttl) ∧ w'.cell? ⟨w.heap.size, 3, none⟩ = some (.int .i64 r.addr) ∧ w'.cell? ⟨w.heap.size, 4, none⟩ = some (.slice ta r.to.length tc) ∧ w'.cell? ⟨w.heap.size, 5, none⟩ = some (.slice xa r.text.length xc) ∧ w'.cell? ⟨w.heap.size, 6, none⟩ = some (.slice ia r.nums.length ic)) ∧ (Instr.lookup 79 (.map (some b)) (.string kn) false).run Try.prog w' = .ok (.map (some p)) w')) (by kernel_rfl) ⟨cells7 (unhide KB), look_page (unhide MB) hkn hl⟩ (fun hHeld => ?_)
  show wpAnyH _ _ _ _ _ 7 #[false, false, false, false, false, false, false] _ _
  have HD2 : Hid (∀ q : Nat, w1.drew.heap[q]? = w1.heap[q]?) := fun _ => rfl
  generalize w1.drew = W0 at *
  refine wpAnyH_take (i := 0) (oi := { dst := some 15, op := Op.move (Operand.tmp 0), type := 79, pos := "l05_zone.go:65", after := #[], guard := none }) (v := .map (some b)) rfl (by kernel_rfl) (by kernel_rfl) (by kernel_rfl) (fun _ _ _ h => h) (Or.inl ⟨by rfl, ?_⟩) hHeld ?_
  · (intro w hSw; (try dsimp only at hSw); go_simp)
  try simp only [Act.put, List.setIfInBounds_toArray, List.set_cons_zero, List.set_cons_succ]
  refine wpAnyH_take (i := 1) (oi := { dst := some 16, op := Op.move (Operand.tmp 4), type := 9, pos := "l05_zone.go:65", after := #[], guard := none }) (v := .string kn) rfl (by kernel_rfl) (by kernel_rfl) (by kernel_rfl) (fun _ _ _ h => h) (Or.inl ⟨by rfl, ?_⟩) hHeld ?_
  · (intro w hSw; (try dsimp only at hSw); go_simp)
  try simp only [Act.put, List.setIfInBounds_toArray, List.set_cons_zero, List.set_cons_succ]
  refine wpAnyH_take (i := 2) (oi := { dst := some 17, op := Op.lookup 79 (Operand.tmp 15) (Operand.tmp 16) false, type := 118, pos := "l05_zone.go:65", after := #[{ on := 0, ground := Ground.data }, { on := 1, ground := Ground.data }], guard := none }) (v := .map (some p)) rfl (by kernel_rfl) (by kernel_rfl) (by kernel_rfl) (fun _ _ _ h => h) (Or.inl ⟨by rfl, ?_⟩) hHeld ?_
  · (intro w hSw; (try dsimp only at hSw); go_simp)
  try simp only [Act.put, List.setIfInBounds_toArray, List.set_cons_zero, List.set_cons_succ]
  refine wpAnyH_take (i := 3) (oi := { dst := some 18, op := Op.load 28 (Operand.tmp 3), type := 28, pos := "l05_zone.go:65", after := #[], guard := none }) (v := .agg #[.slice na r.name.length nc, .int .i64 r.type, .int .i64 r.ttl, .int .i64 r.addr, .slice ta r.to.length tc, .slice xa r.text.length xc, .slice ia r.nums.length ic]) rfl (by kernel_rfl) (by kernel_rfl) (by kernel_rfl) (fun _ _ _ h => h) (Or.inl ⟨by rfl, ?_⟩) hHeld ?_
  · (intro w hSw; (try dsimp only at hSw); go_simp)
  try simp only [Act.put, List.setIfInBounds_toArray, List.set_cons_zero, List.set_cons_succ]
  refine wpAnyH_take (i := 5) (oi := { dst := some 20, op := Op.load 28 (Operand.tmp 3), type := 28, pos := "l05_zone.go:65", after := #[], guard := none }) (v := .agg #[.slice na r.name.length nc, .int .i64 r.type, .int .i64 r.ttl, .int .i64 r.addr, .slice ta r.to.length tc, .slice xa r.text.length xc, .slice ia r.nums.length ic]) rfl (by kernel_rfl) (by kernel_rfl) (by kernel_rfl) (fun _ _ _ h => h) (Or.inl ⟨by rfl, ?_⟩) hHeld ?_
  · (intro w hSw; (try dsimp only at hSw); go_simp)
  try simp only [Act.put, List.setIfInBounds_toArray, List.set_cons_zero, List.set_cons_succ]
  refine wpAnyH_ready (rs := [4]) (by kernel_rfl) (by simp) (AllReadyH.cons (o := { dst := some 19, op := Op.call { callee := Callee.value (Operand.func 114), args := #[Operand.tmp 18], argTypes := #[28] }, type := 9, pos := "l05_zone.go:65", after := #[{ on := 3, ground := Ground.data }], guard := none }) rfl (fun K hK => ?_) AllReadyH.nil)
  have HK := hide hK
  clear hK hHeld
  go_simp
  refine (unhide HD _ (unhide HRR)).mono ?_
  rintro e w4 ⟨rfl, b4⟩
  replace KB := hide (block_kept b4 (unhide KB))
  replace MB := hide ((unhide MB).below b4)
  replace HPP := hide ((unhide HPP).kept (b4.block _ (unhide HPP).lt) (keptX_below b4))
  replace HRR := hide ((unhide HRR).below b4)
  replace KO := hide ((unhide KO).trans (keptO_below b4))
  replace BN := hide ((unhide BN).trans (b4.mono (by omega)))
  have z4 := b4.size
  have HB4 := hide b4
  clear b4
  go_simp
  refine (unhide HK).out _ _ ⟨cells7 (unhide KB), look_page (unhide MB) hkn hl⟩ (fun hHeld => ?_)
  clear HK K
  try simp only [List.setIfInBounds_toArray, List.set_cons_zero, List.set_cons_succ]
  refine wpAnyH_ready (rs := [6]) (by kernel_rfl) (by simp) (AllReadyH.cons (o := { dst := none, op := Op.mapUpdate 118 (Operand.tmp 17) (Operand.tmp 19) (Operand.tmp 20), type := 0, pos := "l05_zone.go:65", after := #[{ on := 2, ground := Ground.data }, { on := 4, ground := Ground.data }, { on := 5, ground := Ground.data }, { on := 4, ground := Ground.chain }, { on := 0, ground := Ground.phase }, { on := 1, ground := Ground.phase }, { on := 2, ground := Ground.phase }, { on := 3, ground := Ground.phase }, { on := 4, ground := Ground.phase }, { on := 5, ground := Ground.phase }], guard := none }) rfl (fun K hK => ?_) AllReadyH.nil)
  have HK := hide hK
  clear hK hHeld
  obtain ⟨w5, hrun, hp5, g5, k5⟩ := page_put (t := 118) Try.underlying118 Try.underlying9 (unhide HPP) kd hkd ⟨_, _, _, _, rfl, unhide HRR⟩
  refine step_put rfl (.tmp 17) (.tmp 19) (.tmp 20) 118 rfl (.map (some p)) (.string kd) (.agg #[.slice na r.name.length nc, .int .i64 r.type, .int .i64 r.ttl, .int .i64 r.addr, .slice ta r.to.length tc, .slice xa r.text.length xc, .slice ia r.nums.length ic]) (by simp [Act.eval]) (by simp [Act.eval]) (by simp [Act.eval]) hrun ?_
  have m5 := (unhide MB).grown g5 (by simpa using hne)
  have kb5 := k5.2 _ _ (unhide KB) rfl
  replace KO := hide ((unhide KO).trans k5)
  replace BN := hide ((unhide BN).grown g5 (by omega) (fun k e => by simp at e; omega))
  clear hrun
  refine (unhide HK).out _ _ ⟨cells7 kb5, look_page m5 hkn hl⟩ (fun hHeld => ?_)
  clear HK K
  try simp only [List.setIfInBounds_toArray, List.set_cons_zero, List.set_cons_succ]
  refine wpAnyH_done (by kernel_rfl) ?_ _
  clear hHeld
  go_wp2_with fail
  go_end0
  refine ⟨⟨_, rfl⟩, hp5, m5, unhide KO, unhide BN, fun q hq hlt => ?_⟩
  have zz := (unhide BB).size
  rw [g5.block q (by omega) (by simpa using hq), (unhide HB4).block q (by omega), show W0.heap[q]? = w1.heap[q]? from unhide HD2 q]
  exact (unhide BB).block q hlt

set_option maxHeartbeats 1000000 in
set_option maxRecDepth 100000 in
theorem put_new {n0 b : Nat} {ps : List (ByteArray × Value)} {na : Option Addr} {nc : Nat} {ta : Option Addr} {tc : Nat} {xa : Option Addr} {xc : Nat} {ia : Option Addr} {ic : Nat} {r : Rec} {w : World}
    (h : HasR w (.slice na r.name.length nc) (.slice ta r.to.length tc) (.slice xa r.text.length xc) (.slice ia r.nums.length ic) r) (hok : rrOk r = true)
    (hM : MapV w b ps) (hl : lookA (strOfNums (keyN r.name)) ps = none) (hb : n0 ≤ b) (hz : n0 ≤ w.heap.size) :
    Calls Try.prog 93 #[.map (some b), .agg #[.slice na r.name.length nc, .int .i64 r.type, .int .i64 r.ttl, .int .i64 r.addr, .slice ta r.to.length tc, .slice xa r.text.length xc, .slice ia r.nums.length ic]] w fun e w' => (∃ v, e = .returned v) ∧ ∃ p, w.heap.size ≤ p ∧ PageM w' p (putA (strOfNums (keyD r)) r []) ∧ MapV w' b (putA (strOfNums (keyN r.name)) (.map (some p)) ps) ∧ KeptO w w' ∧ Below n0 w w' ∧ (∀ q, q ≠ b → q < w.heap.size → w'.heap[q]? = w.heap[q]?) := by
  have MB := hide hM
  have HRR := hide h
  have zb := hM.lt
  clear hM
  have b0 := below_alloc (w := w) (.cells #[.slice na r.name.length nc, .int .i64 r.type, .int .i64 r.ttl, .int .i64 r.addr, .slice ta r.to.length tc, .slice xa r.text.length xc, .slice ia r.nums.length ic] 28)
  have KB := hide (heap_alloc_new w (.cells #[.slice na r.name.length nc, .int .i64 r.type, .int .i64 r.ttl, .int .i64 r.addr, .slice ta r.to.length tc, .slice xa r.text.length xc, .slice ia r.nums.length ic] 28))
  have hn := short_name (rrOk_parts hok).1
  have HN := hide (nameKey_has (h.name.below b0) hn.1 hn.2)
  have HD := hide (fun (w : World) (hh : HasR w (.slice na r.name.length nc) (.slice ta r.to.length tc) (.slice xa r.text.length xc) (.slice ia r.nums.length ic) r) => dataKey_has hh hok)
  have hkn := keyN_size hn
  have hkd := keyD_size hok
  obtain ⟨d0, d1, d2, d3, d4, d5, d6⟩ := cells7 (unhide KB)
  generalize hKN : strOfNums (keyN r.name) = kn at *
  generalize hKD : strOfNums (keyD r) = kd at *
  clear hKN hKD hn hok
  go_enter Try.func93, Try.ntmps93
  go_wp2_with fail
  generalize w.alloc (.cells #[.slice na r.name.length nc, .int .i64 r.type, .int .i64 r.ttl, .int .i64 r.addr, .slice ta r.to.length tc, .slice xa r.text.length xc, .slice ia r.nums.length ic] 28) = W at *
  refine (unhide HN).mono ?_
  rintro e w1 ⟨rfl, b1⟩
  replace KB := hide (block_kept b1 (unhide KB))
  have bb := below_next b0 b1
  clear b0 b1 d0 d1 d2 d3 d4 d5 d6 HN
  clear h
  replace MB := hide ((unhide MB).below bb)
  replace HRR := hide ((unhide HRR).below bb)
  have KO := hide (keptO_below bb)
  have BN := hide (bb.mono hz)
  have zw := bb.size
  have BB := hide bb
  clear bb
  have hlook := look_none (unhide MB) hkn hl
  have heql := run_eql_map_nil w1 118 9 28 none Try.underlying118
  simp only [Option.isNone_none] at heql
  obtain ⟨w2, hrun2, m2, g2⟩ := mapV_put (t := 79) Try.underlying79 Try.underlying9 ((unhide MB).below (below_alloc (.map #[] 0))) kn hkn (.map (some w1.heap.size))
  have hmk := run_makeMap (P := Try.prog) 118 w1
  go_wp2_with (first | (at_mapUpdate; refine list_put rfl (.tmp 12) (.tmp 13) (.tmp 14) 79 rfl (.map (some b)) (.string kn) (.map (some w1.heap.size)) (by simp [Act.eval]) (by simp [Act.eval]) (by simp [Act.eval]) hrun2 ?_))
  have ba := below_alloc (w := w1) (.map #[] 0)
  have za : (w1.alloc (.map #[] 0)).heap.size = w1.heap.size + 1 := World.size_alloc w1 _
  have ko2 := (keptO_below ba).trans (keptO_map g2 ((unhide MB).below ba))
  have hpg : PageM w2 w1.heap.size [] := ⟨[], (mapV_made w1).grown g2 (by simp; omega), .nil⟩
  replace KB := hide (ko2.2 _ _ (unhide KB) rfl)
  replace HRR := hide ((unhide HRR).keptX ko2.x)
  replace KO := hide ((unhide KO).trans ko2)
  have z2 := g2.size
  replace BN := hide ((unhide BN).trans (((ba.mono (by omega)).grown g2 (by omega) (fun k e => by simp at e; omega))))
  have hl2 : lookA kn (putA kn (.map (some w1.heap.size)) ps) = some (.map (some w1.heap.size)) := lookA_put
  have HPP := hide hpg
  replace MB := hide m2
  have G2 := hide g2
  have hne : w1.heap.size ≠ b := by omega
  have hp : n0 ≤ w1.heap.size := by omega
  have ZA := hide za
  have BA := hide ba
  clear hlook heql hmk hrun2 m2 g2 hl ba ko2 hpg za
  have hz0 := hz
  replace hz : n0 ≤ w2.heap.size := by have := unhide ZA; omega
  rename lookA kn (putA kn (.map (some w1.heap.size)) ps) = some (.map (some w1.heap.size)) => hl
  have hsz : w1.heap.size ≤ w2.heap.size := by have := unhide ZA; omega
  generalize hp0 : w1.heap.size = p at *
  have bd := below_drew (w := w2)
  replace KB := hide (block_kept bd (unhide KB))
  replace MB := hide ((unhide MB).below bd)
  replace HPP := hide ((unhide HPP).kept (bd.block _ (unhide HPP).lt) (keptX_below bd))
  replace HRR := hide ((unhide HRR).below bd)
  replace KO := hide ((unhide KO).trans (keptO_below bd))
  replace BN := hide ((unhide BN).trans (bd.mono hz))
  have zd := bd.size
  clear bd
  refine wp_region_held_drew (S := (fun w' => (w'.cell? ⟨w.heap.size, 0, none⟩ = some (.slice na r.name.length nc) ∧ w'.cell? ⟨w.heap.size, 1, none⟩ = some (.int .i64 r.type) ∧ w'.cell? ⟨w.heap.size, 2, none⟩ = some (.int .i64 r.ttl) ∧ w'.cell? ⟨w.heap.size, 3, none⟩ = some (.int .i64 r.addr) ∧ w'.cell? ⟨w.heap.size, 4, none⟩ = some (.slice ta r.to.length tc) ∧ w'.cell? ⟨w.heap.size, 5, none⟩ = some (.slice xa r.text.length xc) ∧ w'.cell? ⟨w.heap.size, 6, none⟩ = some (.slice ia r.nums.length ic)) ∧ (Instr.lookup 79 (.map (some b)) (.string kn) false).run Try.prog w' = .ok (.map (some p)) w')) (by kernel_rfl) ⟨cells7 (unhide KB), look_page (unhide MB) hkn hl⟩ (fun hHeld => ?_)
  show wpAnyH _ _ _ _ _ 7 #[false, false, false, false, false, false, false] _ _
  have HD2 : Hid (∀ q : Nat, w2.drew.heap[q]? = w2.heap[q]?) := fun _ => rfl
  generalize w2.drew = W0 at *
  refine wpAnyH_take (i := 0) (oi := { dst := some 15, op := Op.move (Operand.tmp 0), type := 79, pos := "l05_zone.go:65", after := #[], guard := none }) (v := .map (some b)) rfl (by kernel_rfl) (by kernel_rfl) (by kernel_rfl) (fun _ _ _ h => h) (Or.inl ⟨by rfl, ?_⟩) hHeld ?_
  · (intro w hSw; (try dsimp only at hSw); go_simp)
  try simp only [Act.put, List.setIfInBounds_toArray, List.set_cons_zero, List.set_cons_succ]
  refine wpAnyH_take (i := 1) (oi := { dst := some 16, op := Op.move (Operand.tmp 4), type := 9, pos := "l05_zone.go:65", after := #[], guard := none }) (v := .string kn) rfl (by kernel_rfl) (by kernel_rfl) (by kernel_rfl) (fun _ _ _ h => h) (Or.inl ⟨by rfl, ?_⟩) hHeld ?_
  · (intro w hSw; (try dsimp only at hSw); go_simp)
  try simp only [Act.put, List.setIfInBounds_toArray, List.set_cons_zero, List.set_cons_succ]
  refine wpAnyH_take (i := 2) (oi := { dst := some 17, op := Op.lookup 79 (Operand.tmp 15) (Operand.tmp 16) false, type := 118, pos := "l05_zone.go:65", after := #[{ on := 0, ground := Ground.data }, { on := 1, ground := Ground.data }], guard := none }) (v := .map (some p)) rfl (by kernel_rfl) (by kernel_rfl) (by kernel_rfl) (fun _ _ _ h => h) (Or.inl ⟨by rfl, ?_⟩) hHeld ?_
  · (intro w hSw; (try dsimp only at hSw); go_simp)
  try simp only [Act.put, List.setIfInBounds_toArray, List.set_cons_zero, List.set_cons_succ]
  refine wpAnyH_take (i := 3) (oi := { dst := some 18, op := Op.load 28 (Operand.tmp 3), type := 28, pos := "l05_zone.go:65", after := #[], guard := none }) (v := .agg #[.slice na r.name.length nc, .int .i64 r.type, .int .i64 r.ttl, .int .i64 r.addr, .slice ta r.to.length tc, .slice xa r.text.length xc, .slice ia r.nums.length ic]) rfl (by kernel_rfl) (by kernel_rfl) (by kernel_rfl) (fun _ _ _ h => h) (Or.inl ⟨by rfl, ?_⟩) hHeld ?_
  · (intro w hSw; (try dsimp only at hSw); go_simp)
  try simp only [Act.put, List.setIfInBounds_toArray, List.set_cons_zero, List.set_cons_succ]
  refine wpAnyH_take (i := 5) (oi := { dst := some 20, op := Op.load 28 (Operand.tmp 3), type := 28, pos := "l05_zone.go:65", after := #[], guard := none }) (v := .agg #[.slice na r.name.length nc, .int .i64 r.type, .int .i64 r.ttl, .int .i64 r.addr, .slice ta r.to.length tc, .slice xa r.text.length xc, .slice ia r.nums.length ic]) rfl (by kernel_rfl) (by kernel_rfl) (by kernel_rfl) (fun _ _ _ h => h) (Or.inl ⟨by rfl, ?_⟩) hHeld ?_
  · (intro w hSw; (try dsimp only at hSw); go_simp)
  try simp only [Act.put, List.setIfInBounds_toArray, List.set_cons_zero, List.set_cons_succ]
  refine wpAnyH_ready (rs := [4]) (by kernel_rfl) (by simp) (AllReadyH.cons (o := { dst := some 19, op := Op.call { callee := Callee.value (Operand.func 114), args := #[Operand.tmp 18], argTypes := #[28] }, type := 9, pos := "l05_zone.go:65", after := #[{ on := 3, ground := Ground.data }], guard := none }) rfl (fun K hK => ?_) AllReadyH.nil)
  have HK := hide hK
  clear hK hHeld
  go_simp
  refine (unhide HD _ (unhide HRR)).mono ?_
  rintro e w4 ⟨rfl, b4⟩
  replace KB := hide (block_kept b4 (unhide KB))
  replace MB := hide ((unhide MB).below b4)
  replace HPP := hide ((unhide HPP).kept (b4.block _ (unhide HPP).lt) (keptX_below b4))
  replace HRR := hide ((unhide HRR).below b4)
  replace KO := hide ((unhide KO).trans (keptO_below b4))
  replace BN := hide ((unhide BN).trans (b4.mono (by omega)))
  have z4 := b4.size
  have HB4 := hide b4
  clear b4
  go_simp
  refine (unhide HK).out _ _ ⟨cells7 (unhide KB), look_page (unhide MB) hkn hl⟩ (fun hHeld => ?_)
  clear HK K
  try simp only [List.setIfInBounds_toArray, List.set_cons_zero, List.set_cons_succ]
  refine wpAnyH_ready (rs := [6]) (by kernel_rfl) (by simp) (AllReadyH.cons (o := { dst := none, op := Op.mapUpdate 118 (Operand.tmp 17) (Operand.tmp 19) (Operand.tmp 20), type := 0, pos := "l05_zone.go:65", after := #[{ on := 2, ground := Ground.data }, { on := 4, ground := Ground.data }, { on := 5, ground := Ground.data }, { on := 4, ground := Ground.chain }, { on := 0, ground := Ground.phase }, { on := 1, ground := Ground.phase }, { on := 2, ground := Ground.phase }, { on := 3, ground := Ground.phase }, { on := 4, ground := Ground.phase }, { on := 5, ground := Ground.phase }], guard := none }) rfl (fun K hK => ?_) AllReadyH.nil)
  have HK := hide hK
  clear hK hHeld
  obtain ⟨w5, hrun, hp5, g5, k5⟩ := page_put (t := 118) Try.underlying118 Try.underlying9 (unhide HPP) kd hkd ⟨_, _, _, _, rfl, unhide HRR⟩
  refine step_put rfl (.tmp 17) (.tmp 19) (.tmp 20) 118 rfl (.map (some p)) (.string kd) (.agg #[.slice na r.name.length nc, .int .i64 r.type, .int .i64 r.ttl, .int .i64 r.addr, .slice ta r.to.length tc, .slice xa r.text.length xc, .slice ia r.nums.length ic]) (by simp [Act.eval]) (by simp [Act.eval]) (by simp [Act.eval]) hrun ?_
  have m5 := (unhide MB).grown g5 (by simpa using hne)
  have kb5 := k5.2 _ _ (unhide KB) rfl
  replace KO := hide ((unhide KO).trans k5)
  replace BN := hide ((unhide BN).grown g5 (by omega) (fun k e => by simp at e; omega))
  clear hrun
  refine (unhide HK).out _ _ ⟨cells7 kb5, look_page m5 hkn hl⟩ (fun hHeld => ?_)
  clear HK K
  try simp only [List.setIfInBounds_toArray, List.set_cons_zero, List.set_cons_succ]
  refine wpAnyH_done (by kernel_rfl) ?_ _
  clear hHeld
  go_wp2_with fail
  go_end0
  refine ⟨⟨_, rfl⟩, p, by omega, hp5, m5, unhide KO, unhide BN, fun q hq hlt => ?_⟩
  rw [g5.block q (by omega) (by simp; omega), (unhide HB4).block q (by omega)]
  rw [show W0.heap[q]? = w2.heap[q]? from unhide HD2 q, (unhide G2).block q (by have := unhide ZA; omega) (by simpa using hq), (unhide BA).block q (by omega)]
  exact (unhide BB).block q hlt

theorem bookPut_has {n0 b : Nat} {B : Bk} {vn vt vx vi : Value} {r : Rec} {w : World} (hB : BookM n0 w b B) (h : HasR w vn vt vx vi r) (hok : rrOk r = true) (hz : n0 ≤ w.heap.size) :
    Calls Try.prog 93 #[.map (some b), .agg #[vn, .int .i64 r.type, .int .i64 r.ttl, .int .i64 r.addr, vt, vx, vi]] w fun e w' => (∃ v, e = .returned v) ∧ BookM n0 w' b (bkPut (strOfNums (keyN r.name)) (strOfNums (keyD r)) r B) ∧ KeptO w w' ∧ Below n0 w w' := by
  obtain ⟨na, nc, rfl, _⟩ := h.name.form
  obtain ⟨ta, tc, rfl, _⟩ := h.to.form
  obtain ⟨xa, xc, rfl, _⟩ := h.text.form
  obtain ⟨ia, ic, rfl, _⟩ := h.nums.form
  obtain ⟨h0, ps, h1, h2, h3⟩ := hB
  unfold bkPut
  rcases two_look (k := strOfNums (keyN r.name)) h2 with ⟨l1, l2⟩ | ⟨v, P, l1, l2, ⟨p, rfl, q1, q2, q3⟩, l4⟩
  · rw [l2]
    refine (put_new h hok h1 l1 h0 hz).mono ?_
    rintro e w' ⟨he, p, hp, p1, p2, p3, p4, p5⟩
    have zb := h1.lt
    refine ⟨he, book_put h0 h1 h2 h3 p2 p1 (by omega) (by omega) (fun q hq _ e => ?_) p3.x (fun q _ q2 q3 => p5 q q2 q3), p3, p4⟩
    obtain ⟨c, _, _, p', e1, _, _, e2⟩ := h2.left q hq
    rw [e] at e1
    cases e1
    have := e2.lt
    omega
  · rw [l2]
    refine (put_there h hok h1 l1 q3 q2 q1 hz).mono ?_
    rintro e w' ⟨he, p1, p2, p3, p4, p5⟩
    exact ⟨he, book_put h0 h1 h2 h3 (by rw [putA_same l1]; exact p2) p1 q1 q2 (other_page h3 l4) p3.x (fun q e1 _ q3 => p5 q e1 q3), p3, p4⟩
end Go.Proofs.Ytdghbcjlahjjdaa
