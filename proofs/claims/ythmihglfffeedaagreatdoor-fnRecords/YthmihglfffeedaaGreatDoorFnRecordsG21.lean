/-
  Contracts of the specification's DrawRrPut and DrawRrGet. Plain facts: texts held against each other byte by byte, names label by label from the last one on. No program is named here. Plain facts: the order of records. No program is named here. Contracts of the specification's l2bytes and l2cmp.
-/
import Derived.Test.YthmihglfffeedaaGreatDoorFnRecordsG15
import Derived.Test.YthmihglfffeedaaGreatDoorFnRecordsG19
import Derived.Test.YthmihglfffeedaaGreatDoorFnRecordsG20
import Derived.Test.YthmihglfffeedaaGreatDoorFnRecordsG01
import Derived.Test.YthmihglfffeedaaGreatDoorFnRecordsG02
import Derived.Lib.Bytealg
import Derived.Lib.BytesEntry
import Derived.Test.YthmihglfffeedaaGreatDoorFnRecordsG16
import Derived.Test.YthmihglfffeedaaGreatDoorFnRecordsG06
import Derived.Test.YthmihglfffeedaaGreatDoorFnRecordsG05
import Derived.WalkLawsBesides
namespace Go.Proofs.YthmihglfffeedaaGreatDoor
open Go.RowKit
set_option linter.unusedVariables false
set_option maxHeartbeats 4000000
set_option maxRecDepth 100000

theorem results_tcR {P : Program} {fn : Func} {p q : Tmp} {ty : TypeId} (h : fn.results = #[.tmp p, .cell q ty]) (tmps : Array Value) (w : World) (g : Nat) (t : TypeId) (cs : Array Value) (fr : Nat × Nat) (d : TypeDesc)
  (hp : tmps.getD q undef = .pointer (some ⟨g, 0, none⟩)) (hg : w.heap[g]? = some (.cells cs t fr))
  (hu : P.underlying ty = some d) (hd : (match d with | .struct _ | .array _ _ => true | _ => false) = true) (hi : (P.info? ty).map (·.size) = some cs.size) :
  (results fn tmps).run P w = .ok (.tuple #[tmps.getD p undef, .agg cs]) w := by
 have hp' := hp
 simp only [Array.getD_eq_getD_getElem?] at hp'
 simp only [results, h]
 simp [hp', asAddr, run_loadVar_row w g t ty cs fr d hg hu hd hi]
theorem OwnF.hasLO {B : Nat} {el eb : TypeId} {w : World} {v : Value} {n : List (List Int)} {q : Option Nat} (h : OwnF B el eb w v n) (hq : ∀ p, q = some p → p < B) : HasLO q w v n := by
 obtain ⟨vs, h1, h2⟩ := h
 have h1' := h1
 rcases h1.2 with ⟨rfl, h0⟩ | ⟨g, cap, cur, rfl, hB, hg, hcap, hm, _, _⟩
 ·exact .inl ⟨rfl, List.eq_nil_of_length_eq_zero h0⟩
 ·refine .inr ⟨g, 0, cap, rfl, VC hg, fun e => ?_, hcap, hm, fun i hi => ?_⟩
  ·have := hq g e.symm
   omega
  ·obtain ⟨x, h3, h4, h5, h6⟩ := h2 i hi
   refine ⟨x, by rw [Nat.zero_add, World.ownsRow.cellAt h1' i (by omega), h3], ?_⟩
   rcases h4 with h4 | ⟨g2, off, c2, e, k1, k2, k3, k4⟩
   ·exact .inl h4
   ·refine .inr ⟨g2, off, c2, e, k1, fun e2 => ?_, k2, k3, k4⟩
    have := hq g2 e2.symm
    have := h6 g2 off _ c2 e
    omega
theorem put16_byt {l : List Int} (h : Byt l) (n : Int) : Byt (put16 l n) := by
 unfold put16
 split
 ·rename_i hc
  refine h.app fun x hx => ?_
  simp only [List.mem_cons, List.not_mem_nil, or_false] at hx
  omega
 ·exact h
theorem put32_byt {l : List Int} (h : Byt l) (n : Int) : Byt (put32 l n) := by
 unfold put32
 split
 ·rename_i hc
  refine h.app fun x hx => ?_
  simp only [List.mem_cons, List.not_mem_nil, or_false] at hx
  omega
 ·exact h
theorem sign_byte {l : List Int} (h : labelOk l = true) : Byt l := fun c hc => by
 obtain ⟨i, hi, rfl⟩ := List.getElem_of_mem hc
 have h1 := (of_decide_eq_true h).2.2 i hi
 rw [List.getD_eq_getElem?_getD, List.getElem?_eq_getElem hi, Option.getD_some] at h1
 have := of_decide_eq_true h1
 omega
theorem wire_byt {n : List (List Int)} (h : nameOk n = true) : Byt (wire n) := by
 intro x hx
 unfold wire wires at hx
 rw [List.take_length] at hx
 simp only [List.mem_append, List.mem_flatten, List.mem_map] at hx
 rcases hx with ⟨y, ⟨l, hl, rfl⟩, hx⟩ | hx
 ·obtain ⟨j, hj, rfl⟩ := List.getElem_of_mem hl
  have hlk := (nameOk_parts h).2 j hj
  rw [List.getD_eq_getElem?_getD, List.getElem?_eq_getElem hj, Option.getD_some] at hlk
  have hll := labelOk_length hlk
  rcases List.mem_cons.1 hx with rfl | hx
  ·omega
  ·exact sign_byte hlk x hx
 ·simp at hx
  omega
theorem dataB_byt {r : Rec} (h : rrOk r = true) (h8 : Byt r.text) : Byt (dataB r) := by
 obtain ⟨_, ht, _, _, hd⟩ := rrOk_parts h
 rcases data_kinds ht hd with ⟨_, _, _, e⟩ | ⟨_, hn, e⟩ | ⟨_, hn, x, y, _, _, _, _, _, e⟩ | ⟨_, hx, e⟩
 ·rw [e]; exact put32_byt byt_empty _
 ·rw [e]; exact wire_byt hn
 ·rw [e]; exact put32_byt (put32_byt (wire_byt hn) _) _
 ·rw [e]
  intro c hc
  rcases List.mem_cons.1 hc with rfl | hc
  ·omega
  ·exact h8 c hc
theorem classB_byt {l : List Int} {r : Rec} (c : Int) (hl : Byt l) (h : rrOk r = true) (h8 : Byt r.text) : Byt (classB l r c (dataB r)) :=
 (put16_byt (put32_byt (put16_byt (put16_byt (hl.app (wire_byt (rrOk_parts h).1)) _) _) _) _).app (dataB_byt h h8)
theorem classB_len {l : List Int} {r : Rec} (c : Int) (h : rrOk r = true) : 1 ≤ (classB l r c (dataB r)).length ∧ (classB l r c (dataB r)).length ≤ l.length + 212 := by
 have h1 := wire_length r.name (rrOk_parts h).1
 have h2 := dataB_length h
 have h3 : 1 ≤ (dataB r).length := by
  obtain ⟨_, ht, _, _, hd⟩ := rrOk_parts h
  rcases data_kinds ht hd with ⟨_, h0, h1, e⟩ | ⟨_, hn, e⟩ | ⟨_, hn, x, y, _, hx0, hx1, hy0, hy1, e⟩ | ⟨_, hx, e⟩
  ·rw [e]; unfold put32; rw [if_pos ⟨h0, h1⟩]; simp
  ·rw [e]; unfold wire; simp
  ·rw [e]; unfold put32; rw [if_pos ⟨hy0, by omega⟩]; simp
  ·rw [e]; simp
 unfold classB
 have q3 := put16_length (l ++ wire r.name) r.type
 have q4 := put16_length (put16 (l ++ wire r.name) r.type) c
 have q5 := put32_length (put16 (put16 (l ++ wire r.name) r.type) c) r.ttl
 have q6 := put16_length (put32 (put16 (put16 (l ++ wire r.name) r.type) c) r.ttl) (dataB r).length
 rw [List.length_append] at q3 ⊢
 omega

theorem drawRrPut_any {a : Option Addr} {len cap : Nat} {w : World} (l : List Int) (hL : Lies w a l) (hn : l.length = len) (hb : ∀ k, 0 ≤ l.getD k 0 ∧ l.getD k 0 ≤ 255) (hm : len ≤ maxLen) :
  Calls Tryz.prog 4 #[.slice a len cap] w fun e w' => ∃ vb m vn vt vx vi r, e = .returned (.tuple #[vb, .agg #[vn, .int .i64 r.type, .int .i64 r.ttl, .int .i64 r.addr, vt, vx, vi]]) ∧ Own 0 5 w' vb m ∧ m.length ≤ 2 ∧ Byt m ∧ HasR w' vn vt vx vi r ∧ Byt r.text ∧ DrawnS 3 r ∧ Below w.heap.size w w' := by
 have b0 := UI (w := w) (.cells #[.slice none 0 0, .int .i64 0, .int .i64 0, .int .i64 0, .slice none 0 0, .slice none 0 0, .slice none 0 0] 28)
 have KR := heap_alloc_new w (.cells #[.slice none 0 0, .int .i64 0, .int .i64 0, .int .i64 0, .slice none 0 0, .slice none 0 0, .slice none 0 0] 28)
 have HNEW := UC (l1New_any (cap := cap) l (hL.below b0) hn hb hm)
 have HM := UC hm
 have zr := VC KR
 replace KR := UC KR
 clear hL hn hb hm
 go_enter Tryz.func4, Tryz.ntmps4
 go_wp2_with fail
 generalize w.alloc (.cells #[.slice none 0 0, .int .i64 0, .int .i64 0, .int .i64 0, .slice none 0 0, .slice none 0 0, .slice none 0 0] 28) = W at *
 refine (UB HNEW).mono ?_
 rintro e w1 ⟨rfl, c1, L1, b1⟩
 replace KR := UC (UE b1 (UB KR))
 have bb1 := UG b0 b1
 have z1 := c1.lt
 go_wp2_with fail
 refine (l1some_any 3 c1 L1 (UB HM) (by omega) (by omega)).mono ?_
 rintro e w2 ⟨vb, m, rfl, ob, hlen, hmb, c2, g2⟩
 have L2 := L1.grown g2
 have zg : w.heap.size < W.heap.size := zr
 replace KR := UC (block_grown g2 (UB KR) (by simp; omega))
 have bb2 := below_cursor bb1 g2 (fun j e => by simp at e; omega)
 have z2 := g2.size
 have hvb : ∀ p, vb.ownBlock = some p → w1.heap.size ≤ p ∧ p < w2.heap.size := fun p hp => ob.lt p hp
 have HB0 := UC hmb
 clear c1 L1 b1 hmb
 go_wp2_with fail
 refine (l3bentQ_any c2 L2 (UB HM)).mono ?_
 rintro e w3 ⟨vn, vt, vx, vi, r, rfl, hd, hvi, DR, _, c3, g3⟩
 have ne : vb.ownBlock = none ∨ vb.ownBlock ≠ some W.heap.size := by
  cases hv : vb.ownBlock with
  | none => exact .inl rfl
  | some k => right; intro e; have := (hvb k hv).1; simp at e; omega
 have ob3 := ob.kept g3 ne
 replace KR := UC (block_grown g3 (UB KR) (by simp; omega))
 have bb3 := below_cursor bb2 g3 (fun j e => by simp at e; omega)
 have z3 := g3.size
 obtain ⟨x1, xc1, rfl, _⟩ := DR.hasR.name.form
 obtain ⟨x2, xc2, rfl, _⟩ := DR.hasR.to.form
 obtain ⟨x3, xc3, rfl, _⟩ := DR.hasR.text.form
 obtain ⟨x4, xc4, rfl, _⟩ := DR.hasR.nums.form
 obtain ⟨R2, ou2⟩ := set7 (c0 := .slice x1 r.name.length xc1) (c1 := .int .i64 r.type) (c2 := .int .i64 r.ttl) (c3 := .int .i64 r.addr) (c4 := .slice x2 r.to.length xc2) (c5 := .slice x3 r.text.length xc3) (c6 := .slice x4 r.nums.length xc4) (UB KR)
 have gF := grown_sets7 w3 w.heap.size (c0 := .slice x1 r.name.length xc1) (c1 := .int .i64 r.type) (c2 := .int .i64 r.ttl) (c3 := .int .i64 r.addr) (c4 := .slice x2 r.to.length xc2) (c5 := .slice x3 r.text.length xc3) (c6 := .slice x4 r.nums.length xc4)
 have DF := UC (DR.off (UB KR) (by decide) (by decide) (by decide) gF).hasR
 have OF : Own w1.heap.size 5 _ vb m := ob3.kept gF (by
  cases hv : vb.ownBlock with
  | none => exact .inl rfl
  | some k => right; intro e; have := (hvb k hv).1; simp at e; omega)
 have OF' := UC (OF.mono (Nat.zero_le _))
 have BF := UC (ou2.below bb3 (Nat.le_refl _))
 have HR2 := UC R2
 have HD := UC hd
 obtain ⟨p0, p1, p2, p3, p4, p5, p6⟩ := UJ (UB KR)
 obtain ⟨q0, q1, q2, q3, q4, q5, q6⟩ := VI (UB KR)
 clear R2 ou2 gF OF ob ob3 c2 L2 g2 c3 g3 DR hd hvi bb1 bb2 bb3
 go_wp2_with fail
 clear p0 p1 p2 p3 p4 p5 p6 q0 q1 q2 q3 q4 q5 q6
 refine bodyPost_ret (results_tcR rfl _ _ w.heap.size 28 #[.slice x1 r.name.length xc1, .int .i64 r.type, .int .i64 r.ttl, .int .i64 r.addr, .slice x2 r.to.length xc2, .slice x3 r.text.length xc3, .slice x4 r.nums.length xc4] (0, 0) _ rfl (UB HR2) Tryz.underlying28 rfl (by kernel_rfl)) rfl ?_
 exact ⟨_, m, _, _, _, _, r, rfl, UB OF', by omega, UB HB0, UB DF, (UB HD).2.1, (UB HD).1, UB BF⟩

theorem drawRrGet_any {a : Option Addr} {len cap : Nat} {w : World} (l : List Int) (hL : Lies w a l) (hn : l.length = len) (hb : ∀ k, 0 ≤ l.getD k 0 ∧ l.getD k 0 ≤ 255) (hm : len ≤ maxLen) :
  Calls Tryz.prog 16 #[.slice a len cap] w fun e w' => ∃ vb m z, e = .returned (.tuple #[vb, .int .i64 z]) ∧ Own w.heap.size 5 w' vb m ∧ m.length ≤ 400 ∧ Byt m ∧ 0 ≤ z ∧ z ≤ 3 ∧ Below w.heap.size w w' := by
 have HM := UC hm
 have HN := UC hn
 clear hm hn
 go_enter Tryz.func16, Tryz.ntmps16
 go_wp2_with fail
 refine (l1New_any l hL (UB HN) hb (UB HM)).mono ?_
 rintro e w1 ⟨rfl, c1, L1, b1⟩
 clear hL hb
 have z1 := c1.lt
 go_wp2_with fail
 refine (l1some_any 3 c1 L1 (UB HM) (by omega) (by omega)).mono ?_
 rintro e w2 ⟨vb, m, rfl, ob, hlen, hmb, c2, g2⟩
 have L2 := L1.grown g2
 have bb2 := below_cursor b1 g2 (fun j e => by simp at e; omega)
 have z2 := g2.size
 obtain ⟨ba, bc, rfl, _⟩ := ob.lies
 have HB0 : Hid (Byt m) := UC hmb
 have hvb : ∀ p, (Value.slice ba m.length bc).ownBlock = some p → w1.heap.size ≤ p ∧ p < w2.heap.size := fun p hp => ob.lt p hp
 have hne : (Value.slice ba m.length bc).ownBlock = none ∨ (Value.slice ba m.length bc).ownBlock ≠ some w.heap.size := by
  cases hv : (Value.slice ba m.length bc).ownBlock with
  | none => exact .inl rfl
  | some k => right; intro e; have := (hvb k hv).1; simp at e; omega
 clear c1 L1 b1 hmb
 go_wp2_with fail
 refine (l3drawQ_any c2 L2 (UB HM)).mono ?_
 rintro e w3 ⟨vn, vt, vx, vi, r, rfl, hd, hvi, DR, NF, c3, g3⟩
 have ob3 := ob.kept g3 hne
 have L3 := L2.grown g3
 have bb3 := below_cursor bb2 g3 (fun j e => by simp at e; omega)
 have z3 := g3.size
 have hok := hd.2.2 rfl
 obtain ⟨x1, xc1, rfl, _⟩ := DR.hasR.name.form
 obtain ⟨x2, xc2, rfl, _⟩ := DR.hasR.to.form
 obtain ⟨x3, xc3, rfl, _⟩ := DR.hasR.text.form
 obtain ⟨x4, xc4, rfl, _⟩ := DR.hasR.nums.form
 have CB := UC (fun c => classB_byt (l := m) c (UB HB0) hok hd.2.1)
 have CL := UC (fun c => classB_len (l := m) (r := r) c hok)
 have NF3 := NF rfl
 clear NF hd hvi ob c2 L2 g2 g3 bb2
 have kz := heap_alloc_new w3 (.cells #[.int .i64 1, .int .i64 1, .int .i64 1, .int .i64 1, .int .i64 255] 3)
 have bz := UI (w := w3) (.cells #[.int .i64 1, .int .i64 1, .int .i64 1, .int .i64 1, .int .i64 255] 3)
 have C4 := UC (c3.later (grown_of_below bz) (by simp))
 have L4 := UC (L3.later (grown_of_below bz) (by simp))
 have B4 := UC (UG bb3 bz)
 have O4 := UC (ob3.below bz)
 have N4 := UC (NF3.below bz)
 have R4 := UC (DR.below bz)
 have z4 := bz.size
 have HPK := UC (l1PickIn_any (w := w3.alloc (.cells #[.int .i64 1, .int .i64 1, .int .i64 1, .int .i64 1, .int .i64 255] 3)) w3.heap.size 5 (fun z => True) (UB C4) (UB L4) (UB HM) (by omega) (by omega) (VC kz) (by omega) (fun j hj => by
  have hq := VE kz j
  match j, hj with
  | 0, _ => exact ⟨_, hq, trivial⟩
  | 1, _ => exact ⟨_, hq, trivial⟩
  | 2, _ => exact ⟨_, hq, trivial⟩
  | 3, _ => exact ⟨_, hq, trivial⟩
  | 4, _ => exact ⟨_, hq, trivial⟩))
 clear kz bz c3 L3 bb3 ob3 NF3 DR
 go_wp2_with fail
 generalize w3.alloc (.cells #[.int .i64 1, .int .i64 1, .int .i64 1, .int .i64 1, .int .i64 255] 3) = W3 at *
 refine (UB HPK).mono ?_
 rintro e w5 ⟨z, rfl, _, c5, g5⟩
 have O5 := (UB O4).kept g5 hne
 have N5 := ((UB N4).cur (UB C4) g5).hasLO (q := (Value.slice ba m.length bc).ownBlock) (fun p hp => (hvb p hp).2)
 have R5 := ((UB R4).cur (UB C4) g5).hasR
 have L5 := UC ((UB L4).grown g5)
 have C5 := UC c5
 have B5 := UC (below_cursor (UB B4) g5 (fun j e => by simp at e; omega))
 have z5 := g5.size
 have HP := UC (l3rr_off z O5 (by omega) (by omega) R5 N5 hok)
 obtain ⟨h1, h2⟩ := UB CL z
 have h8 := UC (UB CB z)
 generalize classB m r z (dataB r) = X at *
 clear CB CL C4 L4 B4 O4 N4 R4 O5 N5 R5 g5 c5 HPK
 go_wp2_with fail
 refine (UB HP).mono ?_
 rintro e w6 ⟨v6, rfl, o6, b6, g6⟩
 clear HP
 have c6 := (UB C5).later g6 (fun j e => by have := (hvb j e).1; omega)
 have L6 := (UB L5).later g6 (fun j e => by have := (hvb j e).1; omega)
 have bb6 := (UB B5).trans (b6.mono (by omega))
 have z6 := g6.size
 have hv6 : v6.ownBlock = none ∨ v6.ownBlock ≠ some w.heap.size := by
  cases hv : v6.ownBlock with
  | none => exact .inl rfl
  | some k => right; intro e; have := (o6.lt k hv).1; simp at e; omega
 clear b6 C5 L5 B5 g6
 obtain ⟨xa6, xc6, rfl, _⟩ := o6.lies
 go_wp2_with fail
 refine (l1Once_any 3 c6 L6 (UB HM) (by omega) (by omega)).mono ?_
 rintro e w7 ⟨y, rfl, c7, g7⟩
 have o7 := o6.kept g7 hv6
 have L7 := L6.grown g7
 have bb7 := below_cursor bb6 g7 (fun j e => by simp at e; omega)
 have z7 := g7.size
 clear o6 c6 L6 g7 bb6
 cases y with
 | true =>
  have HS := UC (l1spoil_any c7 L7 (UB HM) o7.has h1 (by omega) (UB h8))
  have B7 := UC bb7
  clear c7 L7 o7 bb7
  go_wp2_with fail
  refine (UB HS).mono ?_
  rintro e w8 ⟨v8, l8, rfl, o8, hl8, hb8, c8, g8⟩
  have B8 := UC (below_cursor (UB B7) g8 (fun j e => by simp at e; omega))
  have O8 := UC (o8.mono (B' := w.heap.size) (by omega))
  have H8 := UC hb8
  clear c8 g8 o8 hb8
  go_wp2_with fail
  go_ret2
  exact ⟨_, l8, (m.length : Int), rfl, UB O8, by omega, UB H8, by omega, by omega, UB B8⟩
 | false =>
  have O7 := UC (o7.mono (B' := w.heap.size) (by omega))
  have B7 := UC bb7
  clear c7 L7 o7 bb7
  go_wp2_with fail
  go_ret2
  exact ⟨_, X, (m.length : Int), rfl, UB O7, by omega, UB h8, by omega, by omega, UB B7⟩
end Go.Proofs.YthmihglfffeedaaGreatDoor

namespace Go.Proofs.YthmihglfffeedaaGreatDoor
open Go.RowKit

def cmpB (a b : List Int) : Int := Lib.compareBytes (strOfNums a).data.toList (strOfNums b).data.toList

theorem compare_less : ∀ (a b : List UInt8), Op.bytesLess a b = decide (Lib.compareBytes a b = -1)
 | [], [] => rfl
 | [], _ :: _ => rfl
 | _ :: _, [] => rfl
 | x :: a, y :: b => by
  have ih := compare_less a b
  unfold Op.bytesLess Lib.compareBytes
  by_cases h1 : x < y
  ·simp [h1]
  ·by_cases h2 : y < x
   ·have : (x == y) = false := by
     apply beq_eq_false_iff_ne.2
     intro e; subst e; exact UInt8.lt_irrefl x h2
    simp [h1, h2, this]
   ·have e : x = y := UInt8.le_antisymm (UInt8.not_lt.1 h2) (UInt8.not_lt.1 h1)
    subst e
    simp [h1, ih]

theorem compare_zero : ∀ (a b : List UInt8), (a == b) = decide (Lib.compareBytes a b = 0)
 | [], [] => rfl
 | [], _ :: _ => rfl
 | _ :: _, [] => rfl
 | x :: a, y :: b => by
  have ih := compare_zero a b
  unfold Lib.compareBytes
  rw [List.cons_beq_cons]
  by_cases h1 : x < y
  ·have : (x == y) = false := by
    apply beq_eq_false_iff_ne.2
    intro e; subst e; exact UInt8.lt_irrefl x h1
   simp [h1, this]
  ·by_cases h2 : y < x
   ·have : (x == y) = false := by
     apply beq_eq_false_iff_ne.2
     intro e; subst e; exact UInt8.lt_irrefl x h2
    simp [h1, h2, this]
   ·have e : x = y := UInt8.le_antisymm (UInt8.not_lt.1 h2) (UInt8.not_lt.1 h1)
    subst e
    simp only [h1, if_false, beq_self_eq_true, Bool.true_and]
    exact ih

theorem compare_cases : ∀ (a b : List UInt8), Lib.compareBytes a b = -1 ∨ Lib.compareBytes a b = 0 ∨ Lib.compareBytes a b = 1
 | [], [] => .inr (.inl rfl)
 | [], _ :: _ => .inl rfl
 | _ :: _, [] => .inr (.inr rfl)
 | x :: a, y :: b => by
  unfold Lib.compareBytes
  split
  ·exact .inl rfl
  ·split
   ·exact .inr (.inr rfl)
   ·exact compare_cases a b

theorem str_less (a b : List Int) : Op.bytesLess (strOfNums a).toList (strOfNums b).toList = decide (cmpB a b = -1) := by
 rw [ByteArray.toList_eq, ByteArray.toList_eq, compare_less]; rfl
theorem str_same (a b : List Int) : ((strOfNums a).toList == (strOfNums b).toList) = decide (cmpB a b = 0) := by
 rw [ByteArray.toList_eq, ByteArray.toList_eq, compare_zero]; rfl
theorem cmpB_cases (a b : List Int) : cmpB a b = -1 ∨ cmpB a b = 0 ∨ cmpB a b = 1 := compare_cases _ _

def atEnd (a b : List (List Int)) (i : Nat) : Int := cmpB (a.getD (a.length - i) []) (b.getD (b.length - i) [])

theorem atEnd_eq (a b : List (List Int)) (i : Nat) : atEnd a b i = cmpB (a.getD (a.length - i) []) (b.getD (b.length - i) []) := rfl

def byLength (x y : Int) : Int := if x < y then -1 else if y < x then 1 else 0

def cmpN (a b : List (List Int)) : Int :=
 match (List.range (min a.length b.length)).find? (fun j => atEnd a b (j + 1) != 0) with
 | some j => atEnd a b (j + 1)
 | none => byLength a.length b.length

theorem cmpN_hit {a b : List (List Int)} {k : Nat} (h1 : 1 ≤ k) (h2 : k ≤ a.length) (h3 : k ≤ b.length) (hz : ∀ j, 1 ≤ j → j < k → atEnd a b j = 0) (hk : atEnd a b k ≠ 0) : cmpN a b = atEnd a b k := by
 have : (List.range (min a.length b.length)).find? (fun j => atEnd a b (j + 1) != 0) = some (k - 1) := by
  rw [List.find?_range_eq_some]
  refine ⟨by rw [Nat.sub_add_cancel h1]; simpa using hk, by simp; omega, fun j hj => ?_⟩
  have := hz (j + 1) (by omega) (by omega)
  simp [this]
 unfold cmpN
 rw [this]
 show atEnd a b (k - 1 + 1) = _
 rw [Nat.sub_add_cancel h1]

theorem cmpN_none {a b : List (List Int)} {k : Nat} (hk : a.length < k ∨ b.length < k) (hz : ∀ j, 1 ≤ j → j < k → atEnd a b j = 0) : cmpN a b = byLength a.length b.length := by
 have : (List.range (min a.length b.length)).find? (fun j => atEnd a b (j + 1) != 0) = none := by
  rw [List.find?_range_eq_none]
  intro j hj
  have := hz (j + 1) (by omega) (by omega)
  simp [this]
 unfold cmpN
 rw [this]

end Go.Proofs.YthmihglfffeedaaGreatDoor

namespace Go.Proofs.YthmihglfffeedaaGreatDoor
open Go.RowKit

def cmpR (a b : Rec) : Int := if cmpN a.name b.name ≠ 0 then cmpN a.name b.name else if byLength a.type b.type ≠ 0 then byLength a.type b.type else cmpB (dataB a) (dataB b)
def rrSame (a b : Rec) : Bool := rrOk a && (rrOk b && (cmpR a b == 0))
end Go.Proofs.YthmihglfffeedaaGreatDoor

namespace Go.Proofs.YthmihglfffeedaaGreatDoor
open Go.RowKit
set_option linter.unusedVariables false
set_option maxHeartbeats 1000000
set_option maxRecDepth 100000

theorem l2bytes_has {v v' : Value} {l l' : List Int} {w : World} (h : Has w v l) (h' : Has w v' l') :
  Calls Tryz.prog 78 #[v, v'] w fun e w' => e = .returned (.int .i64 (cmpB l l')) ∧ w = w' := by
 have hc := conv_has h
 have hc' := conv_has h'
 have hlt := str_less l l'
 have heq := str_same l l'
 clear h h'
 rcases cmpB_cases l l' with e | e | e
 ·rw [e] at hlt heq ⊢
  simp only [decide_true] at hlt
  clear heq e
  go_enter Tryz.func78, Tryz.ntmps78
  go_wp2
  go_ret
  exact ⟨rfl, rfl⟩
 ·rw [e] at hlt heq ⊢
  simp only [decide_true] at heq
  rw [decide_eq_false (by omega)] at hlt
  clear e
  go_enter Tryz.func78, Tryz.ntmps78
  go_wp2
  go_ret
  exact ⟨rfl, rfl⟩
 ·rw [e] at hlt heq ⊢
  rw [decide_eq_false (by omega)] at hlt heq
  clear e
  go_enter Tryz.func78, Tryz.ntmps78
  go_wp2
  go_ret
  exact ⟨rfl, rfl⟩

theorem l2bytes_quiet {v v' : Value} {l l' : List Int} {w : World} (h : Has w v l) (h' : Has w v' l') (n : Nat) :
  Calls Tryz.prog 78 #[v, v'] (w.drewN n) fun e w'' => e = .returned (.int .i64 (cmpB l l')) ∧ ∃ m, w'' = w.drewN m :=
 (l2bytes_has (h.below (below_draws n)) (h'.below (below_draws n))).mono fun e w' ⟨he, hw⟩ => ⟨he, n, hw.symm⟩

theorem l2cmp_has {v v' : Value} {n n' : List (List Int)} {w : World} (h : HasL w v n) (h' : HasL w v' n') (hs : n.length ≤ 1048576) (hs' : n'.length ≤ 1048576) :
  Calls Tryz.prog 76 #[.agg #[v], .agg #[v']] w fun e w' => e = .returned (.int .i64 (cmpN n n')) ∧ Below w.heap.size w w' := by
 obtain ⟨a, cap, rfl, hl, hm⟩ := h.form
 obtain ⟨a', cap', rfl, hl', hm'⟩ := h'.form
 unfold maxLen at hm hm'
 have HIT := UC (fun (k : Nat) => cmpN_hit (a := n) (b := n') (k := k))
 have NON := UC (fun (k : Nat) => cmpN_none (a := n) (b := n') (k := k))
 have HAT := UC (atEnd_eq n n')
 generalize hR : cmpN n n' = R at *
 clear hR
 generalize hC : atEnd n n' = C at *
 clear hC
 have b1 := UI (w := w) (.cells #[.slice a n.length cap] 25)
 have k1 := heap_alloc_new w (.cells #[.slice a n.length cap] 25)
 have e1 : (w.alloc (.cells #[.slice a n.length cap] 25)).heap.size = w.heap.size + 1 := by show (w.heap.push _).size = _; simp
 have b2 := UI (w := w.alloc (.cells #[.slice a n.length cap] 25)) (.cells #[.slice a' n'.length cap'] 25)
 have x2 := heap_alloc_new (w.alloc (.cells #[.slice a n.length cap] 25)) (.cells #[.slice a' n'.length cap'] 25)
 have k2 := UE b2 k1
 rw [e1] at x2
 have bb2 := UG b1 b2
 have h2 := UC (h.below bb2)
 have h2' := UC (h'.below bb2)
 have HH := UC h
 have HH' := UC h'
 clear h h' b1 b2 k1 e1
 generalize hn : n.length = m at *
 have HN := UC hn
 clear hn
 generalize hn' : n'.length = m' at *
 have HN' := UC hn'
 clear hn'
 go_enter Tryz.func76, Tryz.ntmps76
 go_wp2
 generalize (w.alloc (.cells #[.slice a m cap] 25)).alloc (.cells #[.slice a' m' cap'] 25) = W at *
 go_loopw [5] (fun i wr => ∃ k : Nat, 1 ≤ k ∧ k ≤ m + 1 ∧ k ≤ m' + 1 ∧ i = .int .i64 k ∧ Hid (∀ j, 1 ≤ j → j < k → C j = 0) ∧ Below W.heap.size W wr) (fun i _ => m + 1 - (intOf i).toNat)
 case atStart => exact ⟨1, Nat.le_refl _, by omega, by omega, rfl, UC (fun j h1 h2 => absurd h2 (by omega)), Below.refl _ _⟩
 case round =>
  obtain ⟨k, hk1, hk2, hk3, rfl, hall, hb⟩ := hrel
  have c1 := US (UE hb k2)
  have c2 := US (UE hb x2)
  by_cases hlt : k ≤ m
  ·by_cases hlt' : k ≤ m'
   ·obtain ⟨b, off, u, rfl, hbl, hc, hu⟩ := ((UB h2).below hb).here (k := m - k) (by rw [UB HN]; omega)
    obtain ⟨b', off', u', rfl, hbl', hc', hu'⟩ := ((UB h2').below hb).here (k := m' - k) (by rw [UB HN']; omega)
    have hat := UC (UB HAT k)
    have hhit := UC (fun (hz : C k ≠ 0) => UB HIT k hk1 hlt hlt' (UB hall) hz)
    have hone := UC (fun (hz : C k = 0) => (show ∀ j, 1 ≤ j → j < k + 1 → C j = 0 from fun j h1 h2 => by
      by_cases e : j = k
      ·subst e; exact hz
      ·exact UB hall j h1 (by omega)))
    generalize n.getD (m - k) [] = lab at *
    generalize n'.getD (m' - k) [] = lab' at *
    obtain ⟨j, hj⟩ : ∃ j : Nat, m - k = j := ⟨_, rfl⟩
    obtain ⟨j', hj'⟩ : ∃ j' : Nat, m' - k = j' := ⟨_, rfl⟩
    rw [hj] at hc
    rw [hj'] at hc'
    have s1 : (m : Int) - k = j := by omega
    have s2 : (m' : Int) - k = j' := by omega
    have jl : j < m := by omega
    have jl' : j' < m' := by omega
    have wj : IntKind.i64.wrap (j : Int) = j := wrap_small j (by omega)
    have wj' : IntKind.i64.wrap (j' : Int) = j' := wrap_small j' (by omega)
    have HU := UC hu
    have HU' := UC hu'
    obtain ⟨ua, uc, rfl, _⟩ := hu.form
    obtain ⟨ua', uc', rfl, _⟩ := hu'.form
    clear hu hu'
    have i1 : (k : Int) ≤ m := by omega
    have i2 : (k : Int) ≤ m' := by omega
    go_wp2
    go_quiet (first | (exact l2bytes_quiet (UB HU) (UB HU') _))
    clear wj wj' s1 s2 hj hj' jl jl' hc hc' c1 c2 i1 i2 hl hl' hm hm'
    have bb := UG hb (below_draws (w := wr) nq)
    have hcs := cmpB_cases lab lab'
    generalize cmpB lab lab' = c at *
    rcases hcs with rfl | rfl | rfl
    ·have hr := UB hhit (by rw [UB hat]; omega)
     rw [UB hat] at hr
     subst hr
     go_wp2
     go_ret
     exact ⟨rfl, UG bb2 bb⟩
    ·go_wp2
     exact ⟨⟨k + 1, by omega, by omega, by omega, by go_num, UC (UB hone (UB hat)), bb⟩, by simp [intOf]; omega⟩
    ·have hr := UB hhit (by rw [UB hat]; omega)
     rw [UB hat] at hr
     subst hr
     go_wp2
     go_ret
     exact ⟨rfl, UG bb2 bb⟩
   ·have hr := UB NON k (.inr (by omega)) (UB hall)
    unfold byLength at hr
    rw [if_neg (by omega), if_pos (by omega)] at hr
    subst hr
    have i1 : (k : Int) ≤ m := by omega
    have i2 : ¬ (k : Int) ≤ m' := by omega
    have i3 : ((m : Int) == m') = false := by rw [beq_eq_false_iff_ne]; omega
    have i4 : ¬ (m : Int) < m' := by omega
    go_wp2
    go_ret
    exact ⟨rfl, UG bb2 hb⟩
  ·have i1 : ¬ (k : Int) ≤ m := by omega
   have hr := UB NON k (.inl (by omega)) (UB hall)
   unfold byLength at hr
   by_cases he : m = m'
   ·subst he
    rw [if_neg (by omega), if_neg (by omega)] at hr
    subst hr
    go_wp2
    go_ret
    exact ⟨rfl, UG bb2 hb⟩
   ·rw [if_pos (by omega)] at hr
    subst hr
    have i3 : ((m : Int) == m') = false := by rw [beq_eq_false_iff_ne]; omega
    have i4 : (m : Int) < m' := by omega
    go_wp2
    go_ret
    exact ⟨rfl, UG bb2 hb⟩

end Go.Proofs.YthmihglfffeedaaGreatDoor
