/-
  Contracts of the name helpers of the laws (szName, toName, eqName): what each answers and what it leaves in memory. The library functions that this program calls, by the contracts that lie compiled in the library, laid at this program by the shelf's own command in plain words.
-/
import Derived.Test.YtaconefooicplaaFnNameTextsG19
import Derived.Test.YtaconefooicplaaFnNameTextsG00
import Derived.Shelf.Strings.Search1
import Derived.Ground.Names2Prog
import Derived.Shelf.Slices.SearchI
import Derived.Shelf.Bytes.SlIndexSmall
import Derived.Shelf.Bytes.SlIndexAt
import Derived.Shelf.Bytes.SlSearch0
import Derived.Shelf.Bytes.SlSearch1
import Derived.Shelf.Bytes.SlSearch2
import Derived.Shelf.Bytes.SlIndexWhole
import Derived.Shelf.LaysM
import Derived.Shelf.Bytes.SlSmallAll
import Derived.Ground.SlbtProg
import Derived.Shelf.Bytes.SlCut
import Derived.Shelf.Bytes.Small
import Derived.Shelf.Bytes.IndexByte
import Derived.Test.YtaconefooicplaaProg
namespace Go.Proofs.Ytaconefooicplaa
open Go.RowKit
set_option linter.unusedVariables false

theorem info_bs : (Try.prog.info? 22).map (fun i => (i.zero, i.size, i.bytes)) = some (some (.slice none 0 0), 1, 24) := by kernel_rfl

set_option maxHeartbeats 400000 in
set_option maxRecDepth 100000 in
theorem szByteS_any (a : Option Addr) (len cap : Nat) (left : Int) (w : World) (hm : len ≤ maxLen) (h0 : 0 ≤ left) (h1 : left ≤ 1048576) :
    Calls Try.prog 118 #[.slice a len cap, .int .i64 left] w fun e w' => e = .returned (.int .i64 (if (len : Int) ≤ left then left - len else -1)) ∧ w = w' := by
  unfold maxLen at hm
  by_cases h : (len : Int) ≤ left
  · rw [if_pos h]
    go_enter Try.func118, Try.ntmps118
    go_wp2
    go_ret
    exact ⟨rfl, rfl⟩
  · rw [if_neg h]
    go_enter Try.func118, Try.ntmps118
    go_wp2
    go_ret
    exact ⟨rfl, rfl⟩

set_option maxHeartbeats 400000 in
set_option maxRecDepth 100000 in
theorem szByteSS_any (a : Option Addr) (cap : Nat) (n : List (List Int)) (left : Int) (w : World) (h : LiesL w a n) (hm : n.length ≤ maxLen) (hm2 : ∀ i, i < n.length → (n.getD i []).length ≤ maxLen) (h0 : 0 ≤ left) (h1 : left ≤ 1048576) :
    Calls Try.prog 99 #[.slice a n.length cap, .int .i64 left] w fun e w' => (∃ r : Int, e = .returned (.int .i64 r) ∧ -1 ≤ r ∧ r ≤ left ∧ (0 ≤ r → (n.length : Int) ≤ left ∧ ∀ i, i < n.length → ((n.getD i []).length : Int) ≤ left)) ∧ w = w' := by
  generalize hn : n.length = m at *
  have HN := hide hn
  clear hn
  have HM := hide hm2
  clear hm2
  unfold maxLen at hm
  by_cases hlen : (m : Int) ≤ left
  · go_enter Try.func99, Try.ntmps99
    go_wp2
    go_loop [1, 5] (fun r i => ∃ (k : Nat) (x : Int), k ≤ m ∧ i = .int .i64 k ∧ r = .int .i64 x ∧ 0 ≤ x ∧ x ≤ left ∧ Hid (∀ j, j < k → ((n.getD j []).length : Int) ≤ left)) (fun _ i => m - (intOf i).toNat)
    case atStart => exact ⟨0, left - m, Nat.zero_le _, rfl, rfl, by omega, by omega, hide (fun j hj => absurd hj (Nat.not_lt_zero _))⟩
    case round =>
      obtain ⟨k, x, hk, rfl, rfl, hx0, hx1, hall⟩ := hrel
      by_cases hlt : k < m
      · obtain ⟨b, off, ia, ic, rfl, hbl, hc, hLi⟩ := h.here (k := k) (by rw [unhide HN]; exact hlt)
        have hmk := unhide HM k hlt
        have hone := hide (fun (hs : ((n.getD k []).length : Int) ≤ left) => (show ∀ j, j < k + 1 → ((n.getD j []).length : Int) ≤ left from fun j hj => by
            by_cases e : j = k
            · subst e; exact hs
            · exact unhide hall j (by omega)))
        generalize (n.getD k []).length = lk at *
        go_wp2_with fail
        refine (szByteS_any ia lk ic x _ hmk hx0 (by omega)).mono ?_
        rintro e w1 ⟨rfl, rfl⟩
        by_cases hle : (lk : Int) ≤ x
        · rw [if_pos hle]
          have hy : 0 ≤ x - lk := by omega
          go_wp2
          exact ⟨⟨k + 1, x - lk, by omega, by go_num, rfl, by omega, by omega, hide (unhide hone (by omega))⟩, by simp [intOf]; omega⟩
        · rw [if_neg hle]
          go_wp2
          go_ret
          exact ⟨⟨-1, rfl, by omega, by omega, fun hneg => by omega⟩, rfl⟩
      · obtain rfl : k = m := by omega
        go_wp2
        go_ret
        exact ⟨⟨x, rfl, by omega, hx1, fun _ => by first | exact ⟨hlen, unhide hall⟩ | (have hq := unhide hall; simpa using hq)⟩, rfl⟩
  · go_enter Try.func99, Try.ntmps99
    go_wp2
    go_ret
    exact ⟨⟨-1, rfl, by omega, by omega, fun hneg => by omega⟩, rfl⟩

set_option maxHeartbeats 400000 in
set_option maxRecDepth 100000 in
theorem szName_any (a : Option Addr) (cap : Nat) (n : List (List Int)) (left : Int) (w : World) (h : LiesL w a n) (hm : n.length ≤ maxLen) (hm2 : ∀ i, i < n.length → (n.getD i []).length ≤ maxLen) (h0 : 0 ≤ left) (h1 : left ≤ 1048576) :
    Calls Try.prog 67 #[.agg #[.slice a n.length cap], .int .i64 left] w fun e w' => (∃ r : Int, e = .returned (.int .i64 r) ∧ -1 ≤ r ∧ r ≤ left ∧ (0 ≤ r → (n.length : Int) ≤ left ∧ ∀ i, i < n.length → ((n.getD i []).length : Int) ≤ left)) ∧ Below w.heap.size w w' := by
  have hA := h.below (below_alloc (.cells #[.slice a n.length cap] 56))
  have hsz := hide (szByteSS_any a cap n left _ hA hm hm2 h0 h1)
  generalize hn : n.length = m at *
  have HN := hide hn
  clear hn
  have HM := hide hm2
  clear hm2
  go_enter Try.func67, Try.ntmps67
  go_wp2_with fail
  refine (unhide hsz).mono ?_
  rintro e w1 ⟨⟨r, rfl, hr0, hr1, hr2⟩, rfl⟩
  have HR := hide hr2
  clear hr2
  by_cases hneg : r < 0
  · go_wp2
    go_ret
    exact ⟨⟨-1, rfl, by omega, by omega, fun hneg => by omega⟩, below_alloc _⟩
  · go_wp2
    go_ret
    exact ⟨⟨r, rfl, hr0, hr1, unhide HR⟩, below_alloc _⟩

set_option maxHeartbeats 400000 in
set_option maxRecDepth 100000 in
theorem toByteSS_any (a : Option Addr) (cap : Nat) (n : List (List Int)) (w : World) (h : LiesL w a n) (hl : n.length ≤ 1048576) (hl2 : ∀ i, i < n.length → (n.getD i []).length ≤ 1048576) :
    Calls Try.prog 104 #[.slice a n.length cap] w fun e w' => ∃ v, e = .returned v ∧ OwnL w.heap.size 22 5 w' v n ∧ Below w.heap.size w w' := by
  have hmk := run_make_row' (P := Try.prog) 23 22 (.slice none 0 0) 24 Try.underlying23 info_bs rfl .i64 .i64 n.length (by omega) (by omega)
  generalize hn : n.length = m at *
  have HN := hide hn
  clear hn
  have HL := hide hl2
  clear hl2
  go_enter Try.func104, Try.ntmps104
  go_wp2
  go_loopw [4] (fun i wr => ∃ (k : Nat) (xs : List Value), k ≤ m ∧ i = .int .i64 k ∧ wr.ownsRow w.heap.size 22 1 (.slice (some ⟨w.heap.size, 0, none⟩) m m) m xs ∧ Hid (∀ j, j < k → ∃ u, xs[j]? = some u ∧ Own (w.heap.size + 1) 5 wr u (n.getD j [])) ∧
      Hid (∀ (i j : Nat) (u u' : Value), i < j → j < k → xs[i]? = some u → xs[j]? = some u' → u.ownBlock = none ∨ u.ownBlock ≠ u'.ownBlock) ∧ Below w.heap.size w wr) (fun i _ => m - (intOf i).toNat)
  case atStart => exact ⟨0, _, Nat.zero_le _, rfl, ownsRow_of_rowIs (World.rowIs_made w _ m 22) (Nat.le_refl _) (by unfold maxLen; omega), hide (fun j hj => absurd hj (Nat.not_lt_zero _)), hide (fun i j u u' _ hj => absurd hj (Nat.not_lt_zero _)), below_alloc _⟩
  case round =>
    obtain ⟨k, xs, hk, rfl, ho, hown, hdis, hb⟩ := hrel
    by_cases hlt : k < m
    · obtain ⟨b, off, ia, ic, rfl, hbl, hc0, hLi⟩ := h.here (k := k) (by rw [unhide HN]; exact hlt)
      have hc := (hb.cell (p := ⟨b, off + k, none⟩) hbl).trans hc0
      have hLi' := hLi.below hb
      have hlk := unhide HL k hlt
      clear hc0 hLi
      have HO := hide ho
      clear ho
      generalize hlab : n.getD k [] = lab at *
      have HLAB := hide hlab
      clear hlab
      go_wp2_with fail
      refine (toByteS_any ia ic lab _ hLi' hlk).mono ?_
      rintro e w1 ⟨u, rfl, ou, b1⟩
      obtain ⟨ua, uc, rfl, _⟩ := ou.lies
      have hsz : w.heap.size < wr.heap.size := (World.ownsRow.lt (unhide HO) w.heap.size rfl).2
      have ho1 := World.ownsRow.kept (unhide HO) (grown_of_below b1) (.inr (by simp [Value.ownBlock]))
      have hxl : xs.length = m := by have := ho1.1; simpa using this
      have hf := World.ownsRow.frozenAt ho1 k
      have hcell : ∃ y, w1.cell? ⟨w.heap.size, k, none⟩ = some y := by
        rw [World.ownsRow.cellAt ho1 k (by omega), List.getElem?_eq_getElem (by omega)]; exact ⟨_, rfl⟩
      obtain ⟨y, hcy⟩ := hcell
      have hst := hide (World.ownsRow.stored ho1 k (.slice ua lab.length uc))
      have HO1 := hide ho1
      clear ho1
      go_wp2
      have hst1 := (unhide hst).1
      have hst2 := (unhide hst).2
      have hxl' : k < xs.length := by omega
      refine ⟨⟨k + 1, xs.set k (.slice ua lab.length uc), by omega, by go_num, hst1, hide ?_, hide ?_, ?_⟩, by simp [intOf]; omega⟩
      · intro j hj
        by_cases e : j = k
        · subst e
          refine ⟨.slice ua lab.length uc, by simp [hxl'], ?_⟩
          rw [unhide HLAB]
          refine (ou.mono (by omega)).kept hst2 ?_
          cases hu : (Value.slice ua lab.length uc).ownBlock with
          | none => exact .inl rfl
          | some q =>
            right
            have := (ou.lt q hu).1
            intro hq
            simp at hq
            omega
        · obtain ⟨u', h1, h2⟩ := unhide hown j (by omega)
          refine ⟨u', by rw [List.getElem?_set_ne (by omega)]; exact h1, ?_⟩
          refine (h2.below b1).kept hst2 ?_
          cases hu : u'.ownBlock with
          | none => exact .inl rfl
          | some q =>
            right
            have := (h2.lt q hu).1
            intro hq
            simp at hq
            omega
      · intro i j p p' hij hj hp hp'
        rw [List.getElem?_set_ne (by omega)] at hp
        by_cases e : j = k
        · subst e
          rw [List.getElem?_set_self hxl'] at hp'
          obtain rfl : Value.slice ua lab.length uc = p' := by simpa using hp'
          obtain ⟨u', h1, h2⟩ := unhide hown i hij
          rw [hp] at h1
          obtain rfl : p = u' := by simpa using h1
          cases hq : p.ownBlock with
          | none => exact .inl rfl
          | some q =>
            right
            intro hq'
            have h3 := (h2.lt q hq).2
            have h4 := (ou.lt q hq'.symm).1
            omega
        · rw [List.getElem?_set_ne (by omega)] at hp'
          exact unhide hdis i j p p' hij (by omega) hp hp'
      · exact ((below_next hb b1).grown hst2 (below_next hb b1).size (fun q hq => by simp at hq; omega))
    · obtain rfl : k = m := by omega
      go_wp2
      go_ret
      refine ⟨_, rfl, ⟨xs, by rw [unhide HN]; exact ho, fun i hi => ?_, fun i j u u' hij hu hu' => ?_⟩, hb⟩
      · obtain ⟨u, h1, h2⟩ := unhide hown i (by rw [← unhide HN]; exact hi)
        exact ⟨u, h1, h2.mono (by omega)⟩
      · have hxl : xs.length = k := by have := ho.1; simpa using this
        exact unhide hdis i j u u' hij (by rw [← hxl]; exact (List.getElem?_eq_some_iff.1 hu').1) hu hu'

set_option maxHeartbeats 400000 in
set_option maxRecDepth 100000 in
theorem toName_any (a : Option Addr) (cap : Nat) (n : List (List Int)) (w : World) (h : LiesL w a n) (hl : n.length ≤ 1048576) (hl2 : ∀ i, i < n.length → (n.getD i []).length ≤ 1048576) :
    Calls Try.prog 73 #[.agg #[.slice a n.length cap]] w fun e w' => ∃ v, e = .returned (.agg #[v]) ∧ OwnL w.heap.size 22 5 w' v n ∧ Below w.heap.size w w' := by
  have hb3 : Below w.heap.size w (((w.alloc (.cells #[.slice a n.length cap] 56)).alloc (.cells #[.slice none 0 0] 25)).alloc (.cells #[.slice none 0 0] 25)) :=
    ((below_alloc _).alloc (below_alloc _).size _).alloc ((below_alloc _).alloc (below_alloc _).size _).size _
  have hA := hide (h.below hb3)
  have HL2 := hide hl2
  clear hl2
  have HH := hide h
  clear h
  go_enter Try.func73, Try.ntmps73
  go_wp2_with fail
  refine (toByteSS_any a cap n _ (unhide hA) hl (unhide HL2)).mono ?_
  rintro e w1 ⟨v, rfl, o1, b1⟩
  have b2 := below_next hb3 b1
  obtain ⟨hsz, h1, h2⟩ := box3 w (.cells #[.slice a n.length cap] 56) #[.slice none 0 0] #[.slice none 0 0] 25 25
  have k1 := (b1.block _ (by rw [hsz]; omega)).trans h1
  have k2 := (b1.block _ (by rw [hsz]; omega)).trans h2
  obtain ⟨va, vc, rfl, _⟩ := o1.hasL.form
  have o2 := hide o1
  clear o1
  have c2 := block_cell k2 0
  have c1 := block_cell k1 0
  have f2 := block_frozen k2 0
  have f1 := block_frozen k1 0
  have m2 := block_set k2 (.slice va n.length vc)
  have m1 := block_set (block_other k1 (b' := w.heap.size + 1 + 1) (by omega) 0 (.slice va n.length vc)) (.slice va n.length vc)
  have d2 := block_cell m2 0
  have d1 := block_cell (block_other k1 (b' := w.heap.size + 1 + 1) (by omega) 0 (.slice va n.length vc)) 0
  have g1 := block_frozen (block_other k1 (b' := w.heap.size + 1 + 1) (by omega) 0 (.slice va n.length vc)) 0
  simp only [List.getElem?_toArray, List.getElem?_cons_zero] at c1 c2 d1 d2
  have M1 := hide m1
  clear m1 m2 k1 k2 h1 h2
  have B1 := hide b1
  clear b1
  have HSZ := hide hsz
  clear hsz hb3
  go_wp2
  refine bodyPost_ret (results_cell_row rfl _ _ (w.heap.size + 1) 25 #[.slice va n.length vc] (0, 0) _ rfl (unhide M1) Try.underlying25 rfl (by kernel_rfl)) rfl ?_
  refine ⟨_, rfl, ?_, (b2.setCell (by show w.heap.size ≤ w.heap.size + 1 + 1; omega) _).setCell (by show w.heap.size ≤ w.heap.size + 1; omega) _⟩
  have o3 := unhide o2
  rw [unhide HSZ] at o3
  exact ((o3.kept (grown_setCell _ _ _) (by show w.heap.size + 1 + 1 < _; omega)).kept (grown_setCell _ _ _) (by show w.heap.size + 1 < _; omega)).mono (by omega)

theorem Has.draws {w : World} {v : Value} {l : List Int} (h : Has w v l) (n : Nat) : Has (w.drewN n) v l := h.below (below_draws n)

theorem eqByteS_has {v v' : Value} {l : List Int} {w : World} (h : Has w v l) (h' : Has w v' l) (hl : l.length ≤ 2097152) :
    Calls Try.prog 123 #[v, v'] w fun e w' => e = .returned (.bool true) ∧ ∃ n, w' = w.drewN n := by
  obtain ⟨a, cap, rfl, hL⟩ := h.form
  obtain ⟨a', cap', rfl, hL'⟩ := h'.form
  exact eqByteS_eq a a' cap cap' l w hL hL' hl

set_option maxHeartbeats 400000 in
set_option maxRecDepth 100000 in
theorem eqByteSS_has {v v' : Value} {n : List (List Int)} {w : World} (h : HasL w v n) (h' : HasL w v' n) (hl2 : ∀ i, i < n.length → (n.getD i []).length ≤ 2097152) :
    Calls Try.prog 106 #[v, v'] w fun e w' => e = .returned (.bool true) ∧ ∃ n, w' = w.drewN n := by
  obtain ⟨a, cap, rfl, hl, hm⟩ := h.form
  obtain ⟨a', cap', rfl, hl', hm'⟩ := h'.form
  unfold maxLen at hm hm'
  have HL := hide hl2
  clear hl2
  generalize hn : n.length = m at *
  have HN := hide hn
  clear hn
  go_enter Try.func106, Try.ntmps106
  go_wp2
  go_loopw [5] (fun i wr => ∃ k : Nat, k ≤ m ∧ i = .int .i64 k ∧ ∃ q, wr = w.drewN q) (fun i _ => m - (intOf i).toNat)
  case atStart => exact ⟨0, Nat.zero_le _, rfl, 0, rfl⟩
  case round =>
    obtain ⟨k, hk, rfl, q, hq⟩ := hrel
    have hwr : Below w.heap.size w wr := by rw [hq]; exact below_draws q
    have HQ := hide hq
    clear hq
    by_cases hlt : k < m
    · obtain ⟨b, off, u, rfl, hbl, hc, hu⟩ := (h.below hwr).here (k := k) (by rw [unhide HN]; exact hlt)
      obtain ⟨b', off', u', rfl, hbl', hc', hu'⟩ := (h'.below hwr).here (k := k) (by rw [unhide HN]; exact hlt)
      have hlk := unhide HL k hlt
      generalize n.getD k [] = lab at *
      have HU := hide hu
      have HU' := hide hu'
      obtain ⟨ua, uc, rfl, _⟩ := hu.form
      obtain ⟨ua', uc', rfl, _⟩ := hu'.form
      clear hu hu'
      go_wp2
      go_quiet (first | (exact Calls.quiet_of (v := .bool true) (eqByteS_has ((unhide HU).draws _) ((unhide HU').draws _) hlk)))
      go_wp2
      exact ⟨⟨k + 1, by omega, by go_num, q + nq, by rw [unhide HQ, World.drewN_drewN]⟩, by simp [intOf]; omega⟩
    · go_wp2
      go_ret
      exact ⟨rfl, q, unhide HQ⟩

set_option maxHeartbeats 400000 in
set_option maxRecDepth 100000 in
theorem eqName_has {v v' : Value} {n : List (List Int)} {w : World} (h : HasL w v n) (h' : HasL w v' n) (hl2 : ∀ i, i < n.length → (n.getD i []).length ≤ 2097152) :
    Calls Try.prog 77 #[.agg #[v], .agg #[v']] w fun e w' => e = .returned (.bool true) ∧ Below w.heap.size w w' := by
  have hb2 : Below w.heap.size w ((w.alloc (.cells #[v] 25)).alloc (.cells #[v'] 25)) := (below_alloc _).alloc (below_alloc _).size _
  have hc := hide (eqByteSS_has (h.below hb2) (h'.below hb2) hl2)
  have HL := hide hl2
  clear hl2
  obtain ⟨a, cap, rfl, _⟩ := h.form
  obtain ⟨a', cap', rfl, _⟩ := h'.form
  have H := hide h
  have H' := hide h'
  clear h h'
  go_enter Try.func77, Try.ntmps77
  go_wp2_with fail
  refine (unhide hc).mono ?_
  rintro e w1 ⟨rfl, q, rfl⟩
  go_wp2
  go_ret
  exact ⟨rfl, below_next hb2 (below_draws q)⟩
end Go.Proofs.Ytaconefooicplaa

namespace Go.Proofs
open Go.Shelf
def Try.lays224_ren : Go.Shelf.Ren := ⟨fun | 224 => 128 | n => n, fun | 3 => 3 | n => n, fun | n => n⟩
theorem Try.lays224 : Go.Proofs.Lays.n224 Try.prog Try.lays224_ren := {
  mixed := by kernel_rfl
  f224 := Try.func128.trans (congrArg some (by kernel_rfl))
  t3 := Try.underlying3
  a3 := Try.isAgg3
  z3 := Try.sizeOf3
  v3 := Try.zeroValue3 }
open Go.RowKit Go.Lib in
theorem Try.bytealg_Cutover (n : Int) (h0 : 0 ≤ n) (h1 : n < 4611686018427387904) (w : World) :
    Calls Try.prog 128 #[.int .i64 n] w fun e w' => e = .returned (.int .i64 ((n + 16) / 8)) ∧ w' = w := Any.bytealg_Cutover Try.lays224 n h0 h1 w
def Try.laysNm237_ren : Go.Shelf.Ren := ⟨fun | 37 => 87 | n => n, fun | 3 => 3 | 4 => 4 | n => n, fun | n => n⟩
theorem Try.laysNm237 : Go.Proofs.Lays2.n37 Try.prog Try.laysNm237_ren := {
  mixed := by kernel_rfl
  f37 := Try.func87.trans (congrArg some (by kernel_rfl))
  t3 := Try.underlying3
  a3 := Try.isAgg3
  z3 := Try.sizeOf3
  v3 := Try.zeroValue3
  t4 := Try.underlying4
  a4 := Try.isAgg4
  z4 := Try.sizeOf4
  v4 := Try.zeroValue4 }
open Go.RowKit Go.Lib in
theorem Try.cmp_isNaN_int2 (x : Int) (w : World) :
    Calls Try.prog 87 #[.int .i64 x] w fun e w' => e = .returned (.bool false) ∧ w' = w := Any.cmp_isNaN_int2 Try.laysNm237 x w
def Try.lays185_ren : Go.Shelf.Ren := ⟨fun | 185 => 112 | 187 => 126 | 115 => 125 | 253 => 127 | 224 => 128 | 254 => 129 | 255 => 131 | 291 => 132 | n => n, fun | 37 => 22 | 3 => 3 | 4 => 4 | 0 => 0 | 5 => 5 | 46 => 134 | 9 => 9 | 146 => 149 | 51 => 148 | n => n, fun | 1 => 0 | n => n⟩
theorem Try.lays185 : Go.Proofs.Lays.n185 Try.prog Try.lays185_ren := {
  mixed := by kernel_rfl
  f115 := Try.func125.trans (congrArg some (by kernel_rfl))
  f185 := Try.func112.trans (congrArg some (by kernel_rfl))
  f187 := Try.func126.trans (congrArg some (by kernel_rfl))
  f224 := Try.func128.trans (congrArg some (by kernel_rfl))
  f253 := Try.func127.trans (congrArg some (by kernel_rfl))
  f254 := Try.func129.trans (congrArg some (by kernel_rfl))
  f255 := Try.func131.trans (congrArg some (by kernel_rfl))
  f291 := Try.func132.trans (congrArg some (by kernel_rfl))
  t0 := Try.underlying0
  a0 := Try.isAgg0
  z0 := Try.sizeOf0
  v0 := Try.zeroValue0
  t3 := Try.underlying3
  a3 := Try.isAgg3
  z3 := Try.sizeOf3
  v3 := Try.zeroValue3
  t4 := Try.underlying4
  a4 := Try.isAgg4
  z4 := Try.sizeOf4
  v4 := Try.zeroValue4
  t5 := Try.underlying5
  a5 := Try.isAgg5
  z5 := Try.sizeOf5
  v5 := Try.zeroValue5
  t9 := Try.underlying9
  a9 := Try.isAgg9
  z9 := Try.sizeOf9
  v9 := Try.zeroValue9
  t37 := Try.underlying22
  a37 := Try.isAgg22
  z37 := Try.sizeOf22
  v37 := Try.zeroValue22
  t46 := Try.underlying134
  a46 := Try.isAgg134
  z46 := Try.sizeOf134
  v46 := Try.zeroValue134
  t51 := Try.underlying148
  a51 := Try.isAgg148
  z51 := Try.sizeOf148
  v51 := Try.zeroValue148
  t146 := Try.underlying149
  a146 := Try.isAgg149
  z146 := Try.sizeOf149
  v146 := Try.zeroValue149
  g1 := by kernel_rfl }
open Go.RowKit Go.Lib in
theorem Try.bytes_Index_one (b o n c b2 o2 d : Nat) (xs : List Int) (cv : Int) (w : World) (hx : xs.length = n) (hc : ∀ i, i < n → w.cell? ⟨b, o + i, none⟩ = some (.int .u8 (xs.getD i 0))) (hc2 : w.cell? ⟨b2, o2, none⟩ = some (.int .u8 cv)) :
    Calls Try.prog 112 #[.slice (some ⟨b, o, none⟩) n c, .slice (some ⟨b2, o2, none⟩) 1 d] w fun e w' => e = .returned (.int .i64 (Lib.indexByte (Lib.bytesOf xs) cv.toNat.toUInt8)) ∧ w' = w := Any.bytes_Index_one Try.lays185 b o n c b2 o2 d xs cv w hx hc hc2
open Go.RowKit Go.Lib in
theorem Try.bytes_Index_one_nil (b2 o2 d : Nat) (cv : Int) (w : World) (hc2 : w.cell? ⟨b2, o2, none⟩ = some (.int .u8 cv)) :
    Calls Try.prog 112 #[.slice none 0 0, .slice (some ⟨b2, o2, none⟩) 1 d] w fun e w' => e = .returned (.int .i64 (-1)) ∧ w' = w := Any.bytes_Index_one_nil Try.lays185 b2 o2 d cv w hc2
open Go.RowKit Go.Lib in
theorem Try.bytes_Index_none (p q : Option Addr) (n c d : Nat) (w : World) :
    Calls Try.prog 112 #[.slice p n c, .slice q 0 d] w fun e w' => e = .returned (.int .i64 0) ∧ w' = w := Any.bytes_Index_none Try.lays185 p q n c d w
open Go.RowKit Go.Lib in
theorem Try.bytes_Index_longer (p q : Option Addr) (n c m d : Nat) (w : World) (h2 : 2 ≤ m) (hnm : n < m) (hm : m ≤ 9223372036854775807) :
    Calls Try.prog 112 #[.slice p n c, .slice q m d] w fun e w' => e = .returned (.int .i64 (-1)) ∧ w' = w := Any.bytes_Index_longer Try.lays185 p q n c m d w h2 hnm hm
open Go.RowKit Go.Lib in
theorem Try.bytes_Index_same (b o c b2 o2 d n : Nat) (xs ys : List Int) (w : World) (h2 : 2 ≤ n) (hm : n ≤ 9223372036854775807) (hx : xs.length = n) (hy : ys.length = n) (hc : ∀ i, i < n → w.cell? ⟨b, o + i, none⟩ = some (.int .u8 (xs.getD i 0))) (hc2 : ∀ i, i < n → w.cell? ⟨b2, o2 + i, none⟩ = some (.int .u8 (ys.getD i 0))) :
    Calls Try.prog 112 #[.slice (some ⟨b, o, none⟩) n c, .slice (some ⟨b2, o2, none⟩) n d] w fun e w' => e = .returned (.int .i64 (if Lib.bytesOf ys == Lib.bytesOf xs then 0 else -1)) ∧ w' = w := Any.bytes_Index_same Try.lays185 b o c b2 o2 d n xs ys w h2 hm hx hy hc hc2
def Try.lays187_ren : Go.Shelf.Ren := ⟨fun | 187 => 126 | 255 => 131 | n => n, fun | 37 => 22 | 5 => 5 | 3 => 3 | n => n, fun | n => n⟩
theorem Try.lays187 : Go.Proofs.Lays.n187 Try.prog Try.lays187_ren := {
  mixed := by kernel_rfl
  f187 := Try.func126.trans (congrArg some (by kernel_rfl))
  f255 := Try.func131.trans (congrArg some (by kernel_rfl))
  t3 := Try.underlying3
  a3 := Try.isAgg3
  z3 := Try.sizeOf3
  v3 := Try.zeroValue3
  t5 := Try.underlying5
  a5 := Try.isAgg5
  z5 := Try.sizeOf5
  v5 := Try.zeroValue5
  t37 := Try.underlying22
  a37 := Try.isAgg22
  z37 := Try.sizeOf22
  v37 := Try.zeroValue22 }
open Go.RowKit Go.Lib in
theorem Try.bytes_IndexByte_at (a : Addr) (n c : Nat) (xs : List Int) (cv : Int) (w : World) (hx : xs.length = n) (hc : ∀ i, i < n → w.cell? (a.add i) = some (.int .u8 (xs.getD i 0))) :
    Calls Try.prog 126 #[.slice (some a) n c, .int .u8 cv] w fun e w' => e = .returned (.int .i64 (Lib.indexByte (Lib.bytesOf xs) cv.toNat.toUInt8)) ∧ w' = w := Any.bytes_IndexByte_at Try.lays187 a n c xs cv w hx hc
open Go.RowKit Go.Lib in
theorem Try.bytes_Index_one_at (a : Addr) (n c b2 o2 d : Nat) (xs : List Int) (cv : Int) (w : World) (hx : xs.length = n) (hc : ∀ i, i < n → w.cell? (a.add i) = some (.int .u8 (xs.getD i 0))) (hc2 : w.cell? ⟨b2, o2, none⟩ = some (.int .u8 cv)) :
    Calls Try.prog 112 #[.slice (some a) n c, .slice (some ⟨b2, o2, none⟩) 1 d] w fun e w' => e = .returned (.int .i64 (Lib.indexByte (Lib.bytesOf xs) cv.toNat.toUInt8)) ∧ w' = w := Any.bytes_Index_one_at Try.lays185 a n c b2 o2 d xs cv w hx hc hc2
open Go.Proofs Go.RowKit Go.Lib in
theorem Try.bytes_IndexByte_bytes (b o cap : Nat) (t : ByteArray) (cv : Int) (w : World) (hc : Lib.Bytes w b o t) :
    Calls Try.prog 126 #[.slice (some ⟨b, o, none⟩) t.size cap, .int .u8 cv] w fun e w' => e = .returned (.int .i64 (Lib.indexByte t.data.toList cv.toNat.toUInt8)) ∧ w' = w := Any.bytes_IndexByte_bytes Try.lays187 b o cap t cv w hc
def Try.lays115_ren : Go.Shelf.Ren := ⟨fun | 115 => 125 | n => n, fun | 37 => 22 | 4 => 4 | 9 => 9 | 5 => 5 | n => n, fun | n => n⟩
theorem Try.lays115 : Go.Proofs.Lays.n115 Try.prog Try.lays115_ren := {
  mixed := by kernel_rfl
  f115 := Try.func125.trans (congrArg some (by kernel_rfl))
  t4 := Try.underlying4
  a4 := Try.isAgg4
  z4 := Try.sizeOf4
  v4 := Try.zeroValue4
  t9 := Try.underlying9
  a9 := Try.isAgg9
  z9 := Try.sizeOf9
  v9 := Try.zeroValue9
  t37 := Try.underlying22
  a37 := Try.isAgg22
  z37 := Try.sizeOf22
  v37 := Try.zeroValue22 }
open Go.Proofs Go.RowKit Go.Lib in
theorem Try.bytes_Equal_strs (v1 v2 : Value) (t1 t2 : ByteArray) (w : World) (h1 : (convert 22 9 v1).run Try.prog w = .ok (.string t1) w) (h2 : (convert 22 9 v2).run Try.prog w = .ok (.string t2) w) :
    Calls Try.prog 125 #[v1, v2] w fun e w' => e = .returned (.bool (t1.toList == t2.toList)) ∧ w' = w := Any.bytes_Equal_strs Try.lays115 v1 v2 t1 t2 w h1 h2
def Try.lays291_ren : Go.Shelf.Ren := ⟨fun | 291 => 132 | n => n, fun | 37 => 22 | 51 => 148 | 3 => 3 | 4 => 4 | 0 => 0 | 5 => 5 | 46 => 134 | n => n, fun | n => n⟩
theorem Try.lays291 : Go.Proofs.Lays.n291 Try.prog Try.lays291_ren := {
  mixed := by kernel_rfl
  f291 := Try.func132.trans (congrArg some (by kernel_rfl))
  t0 := Try.underlying0
  a0 := Try.isAgg0
  z0 := Try.sizeOf0
  v0 := Try.zeroValue0
  t3 := Try.underlying3
  a3 := Try.isAgg3
  z3 := Try.sizeOf3
  v3 := Try.zeroValue3
  t4 := Try.underlying4
  a4 := Try.isAgg4
  z4 := Try.sizeOf4
  v4 := Try.zeroValue4
  t5 := Try.underlying5
  a5 := Try.isAgg5
  z5 := Try.sizeOf5
  v5 := Try.zeroValue5
  t37 := Try.underlying22
  a37 := Try.isAgg22
  z37 := Try.sizeOf22
  v37 := Try.zeroValue22
  t46 := Try.underlying134
  a46 := Try.isAgg134
  z46 := Try.sizeOf134
  v46 := Try.zeroValue134
  t51 := Try.underlying148
  a51 := Try.isAgg148
  z51 := Try.sizeOf148
  v51 := Try.zeroValue148 }
open Go.RowKit Go.Lib in
theorem Try.bytealg_hashStr_bytes (b o c : Nat) (sep : ByteArray) (hs : sep.size < 4294967281) (w : World) (hc : Lib.Bytes w b o sep) :
    Calls Try.prog 132 #[.slice (some ⟨b, o, none⟩) sep.size c] w fun e w' => e = .returned (.tuple #[.int .u32 (RK.H sep.data.toList % 4294967296), .int .u32 (16777619 ^ sep.size % 4294967296)]) ∧ w' = w := Any.bytealg_hashStr_bytes Try.lays291 b o c sep hs w hc
def Try.lays254_ren : Go.Shelf.Ren := ⟨fun | 254 => 129 | 291 => 132 | n => n, fun | 37 => 22 | 3 => 3 | 146 => 149 | 51 => 148 | 4 => 4 | 0 => 0 | 5 => 5 | 9 => 9 | 46 => 134 | n => n, fun | n => n⟩
theorem Try.lays254 : Go.Proofs.Lays.n254 Try.prog Try.lays254_ren := {
  mixed := by kernel_rfl
  f254 := Try.func129.trans (congrArg some (by kernel_rfl))
  f291 := Try.func132.trans (congrArg some (by kernel_rfl))
  t0 := Try.underlying0
  a0 := Try.isAgg0
  z0 := Try.sizeOf0
  v0 := Try.zeroValue0
  t3 := Try.underlying3
  a3 := Try.isAgg3
  z3 := Try.sizeOf3
  v3 := Try.zeroValue3
  t4 := Try.underlying4
  a4 := Try.isAgg4
  z4 := Try.sizeOf4
  v4 := Try.zeroValue4
  t5 := Try.underlying5
  a5 := Try.isAgg5
  z5 := Try.sizeOf5
  v5 := Try.zeroValue5
  t9 := Try.underlying9
  a9 := Try.isAgg9
  z9 := Try.sizeOf9
  v9 := Try.zeroValue9
  t37 := Try.underlying22
  a37 := Try.isAgg22
  z37 := Try.sizeOf22
  v37 := Try.zeroValue22
  t46 := Try.underlying134
  a46 := Try.isAgg134
  z46 := Try.sizeOf134
  v46 := Try.zeroValue134
  t51 := Try.underlying148
  a51 := Try.isAgg148
  z51 := Try.sizeOf148
  v51 := Try.zeroValue148
  t146 := Try.underlying149
  a146 := Try.isAgg149
  z146 := Try.sizeOf149
  v146 := Try.zeroValue149 }
open Go.RowKit Go.Lib in
theorem Try.bytealg_IndexRabinKarp_bytes (b1 o1 c1 b2 o2 c2 : Nat) (s sep : ByteArray) (h1 : 1 ≤ sep.size) (h2 : sep.size ≤ s.size) (hs : s.size < 4294967281) (w : World) (hc1 : Lib.Bytes w b1 o1 s) (hc2 : Lib.Bytes w b2 o2 sep) (hcap : s.size ≤ c1) :
    Calls Try.prog 129 #[.slice (some ⟨b1, o1, none⟩) s.size c1, .slice (some ⟨b2, o2, none⟩) sep.size c2] w fun e w' => e = .returned (.int .i64 (Lib.index s.data.toList sep.data.toList)) ∧ ∃ q, w' = w.drewN q := Any.bytealg_IndexRabinKarp_bytes Try.lays254 b1 o1 c1 b2 o2 c2 s sep h1 h2 hs w hc1 hc2 hcap
open Go.RowKit Go.Lib in
theorem Try.bytes_Index_search (b1 o1 c1 b2 o2 c2 : Nat) (s sub : ByteArray) (m : Int) (w : World) (hs : s.size < 4294967281) (hm : w.cell? ⟨0, 0, none⟩ = some (.int .i64 m)) (hc1 : Lib.Bytes w b1 o1 s) (hc2 : Lib.Bytes w b2 o2 sub) (hcap : s.size ≤ c1) (hn2 : 2 ≤ sub.size) (hls : sub.size < s.size) :
    Calls Try.prog 112 #[.slice (some ⟨b1, o1, none⟩) s.size c1, .slice (some ⟨b2, o2, none⟩) sub.size c2] w fun e w' => e = .returned (.int .i64 (Lib.index s.data.toList sub.data.toList)) ∧ ∃ q, w' = w.drewN q := Any.bytes_Index_search Try.lays185 b1 o1 c1 b2 o2 c2 s sub m w hs hm hc1 hc2 hcap hn2 hls
open Go.Proofs Go.RowKit Go.Lib in
theorem Try.bytes_Index_at (a1 a2 : Addr) (n c1 k c2 : Nat) (xs ys : List Int) (m : Int) (w : World) (hx : xs.length = n) (hy : ys.length = k) (hr1 : ∀ x ∈ xs, 0 ≤ x ∧ x < 256) (hr2 : ∀ y ∈ ys, 0 ≤ y ∧ y < 256) (hc1 : ∀ i, i < n → w.cell? (a1.add i) = some (.int .u8 (xs.getD i 0))) (hc2 : ∀ i, i < k → w.cell? (a2.add i) = some (.int .u8 (ys.getD i 0))) (hcap : n ≤ c1) (hs : n < 4294967281) (hk : k ≤ 9223372036854775807) (hm : w.cell? ⟨0, 0, none⟩ = some (.int .i64 m)) :
    Calls Try.prog 112 #[.slice (some a1) n c1, .slice (some a2) k c2] w fun e w' => e = .returned (.int .i64 (Lib.index (Lib.bytesOf xs) (Lib.bytesOf ys))) ∧ ∃ q, w' = w.drewN q := Any.bytes_Index_at Try.lays185 a1 a2 n c1 k c2 xs ys m w hx hy hr1 hr2 hc1 hc2 hcap hs hk hm
open Go.Proofs Go.RowKit Go.Lib in
theorem Try.bytes_Index_nil (p2 : Option Addr) (k c2 : Nat) (w : World) (hk : k ≤ 9223372036854775807) (h1 : k = 1 → ∃ b2 o2 cv, p2 = some ⟨b2, o2, none⟩ ∧ w.cell? ⟨b2, o2, none⟩ = some (.int .u8 cv)) :
    Calls Try.prog 112 #[.slice none 0 0, .slice p2 k c2] w fun e w' => e = .returned (.int .i64 (if k = 0 then 0 else -1)) ∧ w' = w := Any.bytes_Index_nil Try.lays185 p2 k c2 w hk h1
def Try.laysM185_ren : Go.Shelf.Ren := ⟨fun | 185 => 112 | 187 => 126 | 115 => 125 | 253 => 127 | 224 => 128 | 254 => 129 | 255 => 131 | 291 => 132 | n => n, fun | 37 => 22 | 3 => 3 | 4 => 4 | 0 => 0 | 5 => 5 | 46 => 134 | 9 => 9 | 146 => 149 | 51 => 148 | n => n, fun | 1 => 0 | n => n⟩
theorem Try.laysM185 : Go.Proofs.LaysM.n185 Try.prog Try.laysM185_ren := {
  mixed := by kernel_rfl
  f115 := Try.func125.trans (congrArg some (by kernel_rfl))
  f185 := Try.func112.trans (congrArg some (by kernel_rfl))
  f187 := Try.func126.trans (congrArg some (by kernel_rfl))
  f224 := Try.func128.trans (congrArg some (by kernel_rfl))
  f253 := Try.func127.trans (congrArg some (by kernel_rfl))
  f254 := Try.func129.trans (congrArg some (by kernel_rfl))
  f255 := Try.func131.trans (congrArg some (by kernel_rfl))
  f291 := Try.func132.trans (congrArg some (by kernel_rfl))
  t0 := Try.underlying0
  a0 := Try.isAgg0
  z0 := Try.sizeOf0
  v0 := Try.zeroValue0
  t3 := Try.underlying3
  a3 := Try.isAgg3
  z3 := Try.sizeOf3
  v3 := Try.zeroValue3
  t4 := Try.underlying4
  a4 := Try.isAgg4
  z4 := Try.sizeOf4
  v4 := Try.zeroValue4
  t5 := Try.underlying5
  a5 := Try.isAgg5
  z5 := Try.sizeOf5
  v5 := Try.zeroValue5
  t9 := Try.underlying9
  a9 := Try.isAgg9
  z9 := Try.sizeOf9
  v9 := Try.zeroValue9
  t37 := Try.underlying22
  a37 := Try.isAgg22
  z37 := Try.sizeOf22
  v37 := Try.zeroValue22
  t46 := Try.underlying134
  a46 := Try.isAgg134
  z46 := Try.sizeOf134
  v46 := Try.zeroValue134
  t51 := Try.underlying148
  a51 := Try.isAgg148
  z51 := Try.sizeOf148
  v51 := Try.zeroValue148
  t146 := Try.underlying149
  a146 := Try.isAgg149
  z146 := Try.sizeOf149
  v146 := Try.zeroValue149
  g1 := by kernel_rfl
  i0 := by kernel_rfl
  i3 := by kernel_rfl
  i4 := by kernel_rfl
  i5 := by kernel_rfl
  i9 := by kernel_rfl
  i37 := by kernel_rfl
  i46 := by kernel_rfl
  i51 := by kernel_rfl
  i146 := by kernel_rfl
  m1 := by kernel_rfl
  s1_3 := fun w h => Go.Proofs.cell_of_shapedOpen_int (zero := #[.int .i64 0]) (t := 3) h (of_decide_eq_true (by kernel_rfl)) (by kernel_rfl) rfl (by kernel_rfl) (by kernel_rfl) Try.underlying3 }
open Go.Proofs Go.RowKit Go.Lib in
theorem Try.bytes_Index_at_shaped (a1 a2 : Addr) (n c1 k c2 : Nat) (xs ys : List Int) (w : World) (hx : xs.length = n) (hy : ys.length = k) (hr1 : ∀ x ∈ xs, 0 ≤ x ∧ x < 256) (hr2 : ∀ y ∈ ys, 0 ≤ y ∧ y < 256) (hc1 : ∀ i, i < n → w.cell? (a1.add i) = some (.int .u8 (xs.getD i 0))) (hc2 : ∀ i, i < k → w.cell? (a2.add i) = some (.int .u8 (ys.getD i 0))) (hcap : n ≤ c1) (hs : n < 4294967281) (hk : k ≤ 9223372036854775807) (h : w.ShapedOpen Try.prog) :
    Calls Try.prog 112 #[.slice (some a1) n c1, .slice (some a2) k c2] w fun e w' => e = .returned (.int .i64 (Lib.index (Lib.bytesOf xs) (Lib.bytesOf ys))) ∧ ∃ q, w' = w.drewN q := Any.bytes_Index_at_shaped Try.laysM185 a1 a2 n c1 k c2 xs ys w hx hy hr1 hr2 hc1 hc2 hcap hs hk h
def Try.laysnb117_ren : Go.Shelf.Ren := ⟨fun | 117 => 111 | 115 => 125 | n => n, fun | 37 => 22 | 4 => 4 | 3 => 3 | 9 => 9 | 5 => 5 | n => n, fun | n => n⟩
theorem Try.laysnb117 : Go.Proofs.Lays.nb117 Try.prog Try.laysnb117_ren := {
  mixed := by kernel_rfl
  f115 := Try.func125.trans (congrArg some (by kernel_rfl))
  f117 := Try.func111.trans (congrArg some (by kernel_rfl))
  t3 := Try.underlying3
  a3 := Try.isAgg3
  z3 := Try.sizeOf3
  v3 := Try.zeroValue3
  t4 := Try.underlying4
  a4 := Try.isAgg4
  z4 := Try.sizeOf4
  v4 := Try.zeroValue4
  t9 := Try.underlying9
  a9 := Try.isAgg9
  z9 := Try.sizeOf9
  v9 := Try.zeroValue9
  t37 := Try.underlying22
  a37 := Try.isAgg22
  z37 := Try.sizeOf22
  v37 := Try.zeroValue22
  t5 := Try.underlying5
  a5 := Try.isAgg5
  z5 := Try.sizeOf5
  v5 := Try.zeroValue5 }
theorem Try.bytes_HasSuffix_e2 (p1 p2 : Option Addr) (n c d : Nat) (_hnc : n ≤ c) (hbig : n ≤ 9223372036854775807) (w : World) :
    Calls Try.prog 111 #[.slice p1 n c, .slice p2 0 d] w fun e w' => e = .returned (.bool true) ∧ w' = w := Any.bytes_HasSuffix_e2 Try.laysnb117 p1 p2 n c d _hnc hbig w
theorem Try.bytes_HasSuffix_e1 (p1 p2 : Option Addr) (c m d : Nat) (hm : 0 < m) (w : World) :
    Calls Try.prog 111 #[.slice p1 0 c, .slice p2 m d] w fun e w' => e = .returned (.bool false) ∧ w' = w := Any.bytes_HasSuffix_e1 Try.laysnb117 p1 p2 c m d hm w
def Try.laysnb140_ren : Go.Shelf.Ren := ⟨fun | 140 => 82 | 117 => 111 | 115 => 125 | n => n, fun | 37 => 22 | 4 => 4 | 3 => 3 | 9 => 9 | 5 => 5 | n => n, fun | n => n⟩
theorem Try.laysnb140 : Go.Proofs.Lays.nb140 Try.prog Try.laysnb140_ren := {
  mixed := by kernel_rfl
  f115 := Try.func125.trans (congrArg some (by kernel_rfl))
  f117 := Try.func111.trans (congrArg some (by kernel_rfl))
  f140 := Try.func82.trans (congrArg some (by kernel_rfl))
  t3 := Try.underlying3
  a3 := Try.isAgg3
  z3 := Try.sizeOf3
  v3 := Try.zeroValue3
  t4 := Try.underlying4
  a4 := Try.isAgg4
  z4 := Try.sizeOf4
  v4 := Try.zeroValue4
  t9 := Try.underlying9
  a9 := Try.isAgg9
  z9 := Try.sizeOf9
  v9 := Try.zeroValue9
  t37 := Try.underlying22
  a37 := Try.isAgg22
  z37 := Try.sizeOf22
  v37 := Try.zeroValue22
  t5 := Try.underlying5
  a5 := Try.isAgg5
  z5 := Try.sizeOf5
  v5 := Try.zeroValue5 }
theorem Try.bytes_TrimSuffix_e2 (p1 p2 : Option Addr) (n c d : Nat) (hnc : n ≤ c) (hbig : n ≤ 9223372036854775807) (w : World) :
    Calls Try.prog 82 #[.slice p1 n c, .slice p2 0 d] w fun e w' => e = .returned (.slice p1 n c) ∧ w' = w := Any.bytes_TrimSuffix_e2 Try.laysnb140 p1 p2 n c d hnc hbig w
theorem Try.bytes_TrimSuffix_e1 (p1 p2 : Option Addr) (c m d : Nat) (hm : 0 < m) (w : World) :
    Calls Try.prog 82 #[.slice p1 0 c, .slice p2 m d] w fun e w' => e = .returned (.slice p1 0 c) ∧ w' = w := Any.bytes_TrimSuffix_e1 Try.laysnb140 p1 p2 c m d hm w
theorem Try.bytes_HasSuffix_all (p1 p2 : Option Addr) (n c m d : Nat) (xs ys : List Int) (w : World) (hx : xs.length = n) (hy : ys.length = m) (hnc : n ≤ c) (hbig : n ≤ 9223372036854775807) (h1 : Lib.BytesIn w p1 n xs) (h2 : Lib.BytesIn w p2 m ys) :
    Calls Try.prog 111 #[.slice p1 n c, .slice p2 m d] w fun e w' => e = .returned (.bool (Lib.hasSuffix (Lib.bytesOf xs) (Lib.bytesOf ys))) ∧ w' = w := Any.bytes_HasSuffix_all Try.laysnb117 p1 p2 n c m d xs ys w hx hy hnc hbig h1 h2
theorem Try.bytes_TrimSuffix_all (p1 p2 : Option Addr) (n c m d : Nat) (xs ys : List Int) (w : World) (hx : xs.length = n) (hy : ys.length = m) (hnc : n ≤ c) (hbig : n ≤ 9223372036854775807) (h1 : Lib.BytesIn w p1 n xs) (h2 : Lib.BytesIn w p2 m ys) :
    Calls Try.prog 82 #[.slice p1 n c, .slice p2 m d] w fun e w' => e = .returned (Lib.trimSuffixV p1 n c xs ys) ∧ w' = w := Any.bytes_TrimSuffix_all Try.laysnb140 p1 p2 n c m d xs ys w hx hy hnc hbig h1 h2
def Try.laysSlT4_ren : Go.Shelf.Ren := ⟨fun | 4 => 83 | 5 => 112 | 6 => 126 | 7 => 125 | 8 => 127 | 9 => 128 | 10 => 129 | 11 => 131 | 12 => 132 | n => n, fun | 22 => 22 | 4 => 4 | 3 => 3 | 0 => 0 | 5 => 5 | 29 => 134 | 9 => 9 | 31 => 149 | 30 => 148 | n => n, fun | 0 => 0 | n => n⟩
theorem Try.laysSlT4 : Go.Proofs.SlLaysT.n4 Try.prog Try.laysSlT4_ren := {
  mixed := by kernel_rfl
  f4 := Try.func83.trans (congrArg some (by kernel_rfl))
  f5 := Try.func112.trans (congrArg some (by kernel_rfl))
  f6 := Try.func126.trans (congrArg some (by kernel_rfl))
  f7 := Try.func125.trans (congrArg some (by kernel_rfl))
  f8 := Try.func127.trans (congrArg some (by kernel_rfl))
  f9 := Try.func128.trans (congrArg some (by kernel_rfl))
  f10 := Try.func129.trans (congrArg some (by kernel_rfl))
  f11 := Try.func131.trans (congrArg some (by kernel_rfl))
  f12 := Try.func132.trans (congrArg some (by kernel_rfl))
  t0 := Try.underlying0
  a0 := Try.isAgg0
  z0 := Try.sizeOf0
  v0 := Try.zeroValue0
  t3 := Try.underlying3
  a3 := Try.isAgg3
  z3 := Try.sizeOf3
  v3 := Try.zeroValue3
  t4 := Try.underlying4
  a4 := Try.isAgg4
  z4 := Try.sizeOf4
  v4 := Try.zeroValue4
  t5 := Try.underlying5
  a5 := Try.isAgg5
  z5 := Try.sizeOf5
  v5 := Try.zeroValue5
  t9 := Try.underlying9
  a9 := Try.isAgg9
  z9 := Try.sizeOf9
  v9 := Try.zeroValue9
  t22 := Try.underlying22
  a22 := Try.isAgg22
  z22 := Try.sizeOf22
  v22 := Try.zeroValue22
  t29 := Try.underlying134
  a29 := Try.isAgg134
  z29 := Try.sizeOf134
  v29 := Try.zeroValue134
  t30 := Try.underlying148
  a30 := Try.isAgg148
  z30 := Try.sizeOf148
  v30 := Try.zeroValue148
  t31 := Try.underlying149
  a31 := Try.isAgg149
  z31 := Try.sizeOf149
  v31 := Try.zeroValue149
  g0 := by kernel_rfl }
theorem Try.bytes_Cut_of (p1 p2 : Option Addr) (n c1 k c2 : Nat) (i : Int) (w : World) (hcap : n ≤ c1) (hlo : -1 ≤ i) (hroom : 0 ≤ i → i + k ≤ n) (hn : n ≤ 4611686018427387904) (hidx : Calls Try.prog 112 #[.slice p1 n c1, .slice p2 k c2] w fun e w' => e = .returned (.int .i64 i) ∧ ∃ q, w' = w.drewN q) :
    Calls Try.prog 83 #[.slice p1 n c1, .slice p2 k c2] w fun e w' => e = .returned (Lib.cutV p1 n c1 k i) ∧ ∃ q, w' = w.drewN q := Any.bytes_Cut_of Try.laysSlT4 p1 p2 n c1 k c2 i w hcap hlo hroom hn hidx
theorem Try.bytes_Cut_all (p1 p2 : Option Addr) (n c1 k c2 : Nat) (xs ys : List Int) (m : Int) (w : World) (hx : xs.length = n) (hy : ys.length = k) (hr1 : ∀ x ∈ xs, 0 ≤ x ∧ x < 256) (hr2 : ∀ y ∈ ys, 0 ≤ y ∧ y < 256) (h1 : Lib.BytesIn w p1 n xs) (h2 : Lib.BytesIn w p2 k ys) (hp1 : p1 = none → c1 = 0) (hcap : n ≤ c1) (hs : n < 4294967281) (hk : k ≤ 9223372036854775807) (hm : w.cell? ⟨0, 0, none⟩ = some (.int .i64 m)) :
    Calls Try.prog 83 #[.slice p1 n c1, .slice p2 k c2] w fun e w' => e = .returned (Lib.cutV p1 n c1 k (Lib.index (Lib.bytesOf xs) (Lib.bytesOf ys))) ∧ ∃ q, w' = w.drewN q := Any.bytes_Cut_all Try.laysSlT4 p1 p2 n c1 k c2 xs ys m w hx hy hr1 hr2 h1 h2 hp1 hcap hs hk hm
theorem Try.bytes_Equal (v1 v2 : Value) (xs ys : List Int) (w : World) (h1 : (convert 22 9 v1).run Try.prog w = .ok (.string (strOfNums xs)) w) (h2 : (convert 22 9 v2).run Try.prog w = .ok (.string (strOfNums ys)) w) :
    Calls Try.prog 125 #[v1, v2] w fun e w' => e = .returned (.bool (Lib.bytesOf xs == Lib.bytesOf ys)) ∧ w' = w := Any.bytes_Equal Try.lays115 v1 v2 xs ys w h1 h2
theorem Try.bytes_HasSuffix (b1 o1 n c b2 o2 m d : Nat) (xs ys : List Int) (w : World) (hx : xs.length = n) (hy : ys.length = m) (hnc : n ≤ c) (hbig : n ≤ 9223372036854775807) (hc1 : ∀ i, i < n → w.cell? ⟨b1, o1 + i, none⟩ = some (.int .u8 (xs.getD i 0))) (hc2 : ∀ i, i < m → w.cell? ⟨b2, o2 + i, none⟩ = some (.int .u8 (ys.getD i 0))) :
    Calls Try.prog 111 #[.slice (some ⟨b1, o1, none⟩) n c, .slice (some ⟨b2, o2, none⟩) m d] w fun e w' => e = .returned (.bool (Lib.hasSuffix (Lib.bytesOf xs) (Lib.bytesOf ys))) ∧ w' = w := Any.bytes_HasSuffix Try.laysnb117 b1 o1 n c b2 o2 m d xs ys w hx hy hnc hbig hc1 hc2
theorem Try.bytes_TrimSuffix (b1 o1 n c b2 o2 m d : Nat) (xs ys : List Int) (w : World) (hx : xs.length = n) (hy : ys.length = m) (hnc : n ≤ c) (hbig : n ≤ 9223372036854775807) (hc1 : ∀ i, i < n → w.cell? ⟨b1, o1 + i, none⟩ = some (.int .u8 (xs.getD i 0))) (hc2 : ∀ i, i < m → w.cell? ⟨b2, o2 + i, none⟩ = some (.int .u8 (ys.getD i 0))) :
    Calls Try.prog 82 #[.slice (some ⟨b1, o1, none⟩) n c, .slice (some ⟨b2, o2, none⟩) m d] w fun e w' => e = .returned (Lib.bytesTrimSuffix b1 o1 n c xs ys) ∧ w' = w := Any.bytes_TrimSuffix Try.laysnb140 b1 o1 n c b2 o2 m d xs ys w hx hy hnc hbig hc1 hc2
theorem Try.bytes_IndexByte (b o n c : Nat) (xs : List Int) (cv : Int) (w : World) (hx : xs.length = n) (hc : ∀ i, i < n → w.cell? ⟨b, o + i, none⟩ = some (.int .u8 (xs.getD i 0))) :
    Calls Try.prog 126 #[.slice (some ⟨b, o, none⟩) n c, .int .u8 cv] w fun e w' => e = .returned (.int .i64 (Lib.indexByte (Lib.bytesOf xs) cv.toNat.toUInt8)) ∧ w' = w := Any.bytes_IndexByte Try.lays187 b o n c xs cv w hx hc
theorem Try.bytes_IndexByte_nil (cv : Int) (w : World) :
    Calls Try.prog 126 #[.slice none 0 0, .int .u8 cv] w fun e w' => e = .returned (.int .i64 (-1)) ∧ w' = w := Any.bytes_IndexByte_nil Try.lays187 cv w
end Go.Proofs
