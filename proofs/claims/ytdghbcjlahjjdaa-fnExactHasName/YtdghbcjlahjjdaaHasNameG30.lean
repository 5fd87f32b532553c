/-
  Contract of the program's bookOf: the book of a zone's records. Plain facts: a name that ends with another, and the end of a list of texts in memory. No program is named here.
-/
import Derived.Test.YtdghbcjlahjjdaaHasNameG29
import Derived.Test.YtdghbcjlahjjdaaHasNameG10
import Derived.Test.YtdghbcjlahjjdaaHasNameG05
import Derived.Test.YtdghbcjlahjjdaaHasNameG22
namespace Go.Proofs.Ytdghbcjlahjjdaa
open Go.RowKit
set_option linter.unusedVariables false

/-- The book of these records. -/
def bookIn (rs : List Rec) : Bk := rs.foldl (fun B r => bkPut (strOfNums (keyN r.name)) (strOfNums (keyD r)) r B) []
theorem bookIn_snoc (rs : List Rec) (r : Rec) : bookIn (rs ++ [r]) = bkPut (strOfNums (keyN r.name)) (strOfNums (keyD r)) r (bookIn rs) := by simp [bookIn]

set_option maxHeartbeats 2000000 in
set_option maxRecDepth 100000 in
theorem bookOf_has {vo vr : Value} {o : List (List Int)} {rs : List Rec} {w : World} (h : HasZ w vo vr o rs) (hok : ∀ i, i < rs.length → rrOk (rs.getD i recZ) = true) (hlen : rs.length ≤ 1000) :
    Calls Try.prog 52 #[.agg #[vo, vr]] w fun e w' => e = .returned (.map (some (w.heap.size + 1))) ∧ BookM w.heap.size w' (w.heap.size + 1) (bookIn rs) ∧ Below w.heap.size w w' := by
  obtain ⟨oa, oc, rfl, _⟩ := h.name.form
  obtain ⟨ra, rc, rfl, _⟩ := h.recs.form
  have b0 := below_alloc (w := w) (.cells #[.slice oa o.length oc, .slice ra rs.length rc] 40)
  have k0 := heap_alloc_new w (.cells #[.slice oa o.length oc, .slice ra rs.length rc] 40)
  have z0 : (w.alloc (.cells #[.slice oa o.length oc, .slice ra rs.length rc] 40)).heap.size = w.heap.size + 1 := World.size_alloc w _
  have hmk := run_makeMap (P := Try.prog) 79 (w.alloc (.cells #[.slice oa o.length oc, .slice ra rs.length rc] 40))
  have b1 := below_alloc (w := w.alloc (.cells #[.slice oa o.length oc, .slice ra rs.length rc] 40)) (.map #[] 0)
  have BM := hide (bookM_made (n0 := w.heap.size) (w.alloc (.cells #[.slice oa o.length oc, .slice ra rs.length rc] 40)) (by omega))
  obtain ⟨c0, c1⟩ := cells2 (block_kept b1 k0)
  have bb := below_next b0 b1
  have HT := hide h.recs
  have HOK := hide hok
  clear h hok b0 b1 k0
  generalize hm : rs.length = m at *
  have HM := hide hm
  go_enter Try.func52, Try.ntmps52
  go_wp2_with fail
  clear c0 c1 hmk hm
  rw [z0] at BM
  clear z0
  generalize (w.alloc (.cells #[.slice oa o.length oc, .slice ra m rc] 40)).alloc (.map #[] 0) = W at *
  go_loopw [10] (fun i wr => ∃ k : Nat, k ≤ m ∧ i = .int .i64 k ∧ BookM w.heap.size wr (w.heap.size + 1) (bookIn (rs.take k)) ∧ Below w.heap.size w wr) (fun i _ => m - (intOf i).toNat)
  case atStart => exact ⟨0, Nat.zero_le _, rfl, by simpa [bookIn] using unhide BM, bb⟩
  case round =>
    obtain ⟨k, hk, rfl, hBk, hbl⟩ := hrel
    by_cases hlt : k < m
    · obtain ⟨b, off, na, nc, ta, tc, xa, xc, ia, ic, rfl, hb1, hc, hR⟩ := (unhide HT).here (k := k) (by rw [unhide HM]; exact hlt)
      have hsk := unhide HOK k hlt
      have htk := hide (show rs.take (k + 1) = rs.take k ++ [rs.getD k recZ] by rw [List.take_succ_eq_append_getElem (by rw [unhide HM]; exact hlt)]; simp [show k < rs.length by rw [unhide HM]; exact hlt])
      obtain ⟨c0, c1, c2, c3, c4, c5, c6⟩ := range7 (range_below hc hb1 hbl)
      generalize rs.getD k recZ = r at *
      have ba := below_alloc (w := wr) (.cells #[.slice na r.name.length nc, .int .i64 r.type, .int .i64 r.ttl, .int .i64 r.addr, .slice ta r.to.length tc, .slice xa r.text.length xc, .slice ia r.nums.length ic] 28)
      obtain ⟨d0, d1, d2, d3, d4, d5, d6⟩ := cells7 (heap_alloc_new wr (.cells #[.slice na r.name.length nc, .int .i64 r.type, .int .i64 r.ttl, .int .i64 r.addr, .slice ta r.to.length tc, .slice xa r.text.length xc, .slice ia r.nums.length ic] 28))
      have HP := hide (bookPut_has (hBk.below ba) ((hR.below hbl).below ba) hsk (Nat.le_trans hbl.size ba.size))
      have HB := hide (below_next hbl ba)
      clear ba hc hR hsk hbl hBk
      go_wp2_with fail
      refine (unhide HP).mono ?_
      rintro e w3 ⟨⟨v3, rfl⟩, hB3, hK3, hb3⟩
      have hb4 := (unhide HB).trans hb3
      clear HP HB d0 d1 d2 d3 d4 d5 d6 c0 c1 c2 c3 c4 c5 c6 hb3 hK3
      go_wp2
      go_roundw
      case rel => exact ⟨k + 1, by omega, by go_num, by rw [unhide htk, bookIn_snoc]; exact hB3, hb4⟩
      case measure => simp [intOf]; omega
    · obtain rfl : k = m := by omega
      have hall : rs.take k = rs := List.take_of_length_le (by rw [unhide HM]; exact Nat.le_refl _)
      rw [hall] at hBk
      clear hall
      go_wp2
      go_ret
      exact ⟨rfl, hBk, hbl⟩
end Go.Proofs.Ytdghbcjlahjjdaa

namespace Go.Proofs.Ytdghbcjlahjjdaa
open Go.RowKit

/-- n ends with all labels of z. -/
def endsWith (n z : List (List Int)) : Bool := decide (z.length ≤ n.length) && (cmpN (n.drop (n.length - z.length)) z == 0)
def under (n z : List (List Int)) : Bool := nameOk n && (nameOk z && endsWith n z)

theorem endsWith_no {n z : List (List Int)} (h : n.length < z.length) : endsWith n z = false := by
  unfold endsWith
  rw [decide_eq_false (by omega)]
  rfl
theorem endsWith_yes {n z : List (List Int)} (h : z.length ≤ n.length) : endsWith n z = (cmpN (n.drop (n.length - z.length)) z == 0) := by
  unfold endsWith
  rw [decide_eq_true h]
  rfl

theorem nameOk_drop {n : List (List Int)} (h : nameOk n = true) (k : Nat) : nameOk (n.drop k) = true := by
  obtain ⟨h1, h2⟩ := nameOk_parts h
  refine nameOk_yes (by simp; omega) fun j hj => ?_
  simp at hj
  have := h2 (k + j) (by omega)
  have e : (n.drop k).getD j [] = n.getD (k + j) [] := by simp [List.getD]
  rw [e]; exact this

theorem HasL.drop {w : World} {a : Option Addr} {m cap k : Nat} {n : List (List Int)} (h : HasL w (.slice a m cap) n) (hn : n.length = m) (hk : k ≤ m) :
    (a = none ∧ m = 0 ∧ cap = 0) ∨ ∃ g off, a = some ⟨g, off, none⟩ ∧ HasL w (.slice (if cap = k then some ⟨g, off, none⟩ else some ⟨g, off + k, none⟩) (m - k) (cap - k)) (n.drop k) := by
  subst hn
  rcases h with ⟨hv, rfl⟩ | ⟨g, off, cap', hv, hlt, hl, hm, hc⟩
  · simp only [Value.slice.injEq] at hv
    exact .inl ⟨hv.1, rfl, hv.2.2⟩
  · simp only [Value.slice.injEq, true_and] at hv
    obtain ⟨rfl, rfl⟩ := hv
    right
    refine ⟨g, off, rfl, ?_⟩
    have hlen : (n.drop k).length = n.length - k := by simp
    by_cases e : cap = k
    · rw [if_pos e]
      refine .inr ⟨g, off, cap - k, by rw [hlen], hlt, by rw [hlen]; omega, by omega, fun i hi => ?_⟩
      rw [hlen] at hi
      omega
    · rw [if_neg e]
      refine .inr ⟨g, off + k, cap - k, by rw [hlen], hlt, by rw [hlen]; omega, by omega, fun i hi => ?_⟩
      rw [hlen] at hi
      obtain ⟨u, h1, h2⟩ := hc (k + i) (by omega)
      refine ⟨u, by rw [Nat.add_assoc]; exact h1, ?_⟩
      have e2 : (n.drop k).getD i [] = n.getD (k + i) [] := by simp [List.getD]
      rw [e2]; exact h2

theorem HasL.drop_cases {w : World} {g off m cap k : Nat} {n : List (List Int)} (h : HasL w (.slice (if cap = k then some ⟨g, off, none⟩ else some ⟨g, off + k, none⟩) (m - k) (cap - k)) (n.drop k)) :
    (cap = k ∧ HasL w (.slice (some ⟨g, off, none⟩) (m - k) 0) (n.drop k)) ∨ (cap ≠ k ∧ HasL w (.slice (some ⟨g, off + k, none⟩) (m - k) (cap - k)) (n.drop k)) := by
  by_cases e : cap = k
  · rw [if_pos e, e, Nat.sub_self] at h
    exact .inl ⟨e, h⟩
  · rw [if_neg e] at h
    exact .inr ⟨e, h⟩
end Go.Proofs.Ytdghbcjlahjjdaa
