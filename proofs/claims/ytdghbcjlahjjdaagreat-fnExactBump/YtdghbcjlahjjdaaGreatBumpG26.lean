/-
  Plain facts: zones that may be are short; a new zone. No program is named here. Plain facts: a row of records that a slice owns, whose lists are owned wherever they lie. No program is named here. Plain facts: a zone with its serial one more. No program is named here.
-/
import Derived.Test.YtdghbcjlahjjdaaGreatBumpG17
import Derived.Test.YtdghbcjlahjjdaaGreatBumpG12
import Derived.Test.YtdghbcjlahjjdaaGreatBumpG07
import Derived.Test.YtdghbcjlahjjdaaGreatBumpG05
import Derived.Test.YtdghbcjlahjjdaaGreatBumpG18
import Derived.Test.YtdghbcjlahjjdaaGreatBumpG08
namespace Go.Proofs.YtdghbcjlahjjdaaGreat
open Go.RowKit

theorem short_rec {r : Rec} (h : rrOk r = true) : ShortR r := by
  unfold rrOk dataOk at h
  simp only [Bool.and_eq_true] at h
  obtain ⟨h1, h2, h3, h4, h5, h6, h7⟩ := h
  refine ⟨short_name h1, ?_, ?_, ?_⟩
  · by_cases e : named r.type = true
    · rw [if_pos e] at h5
      exact short_name h5
    · rw [if_neg e] at h5
      have := of_decide_eq_true h5
      rw [List.eq_nil_of_length_eq_zero this]
      exact short_nil
  · by_cases e : texted r.type = true
    · rw [if_pos e] at h6
      have := of_decide_eq_true h6
      omega
    · rw [if_neg e] at h6
      have := of_decide_eq_true h6
      omega
  · by_cases e : r.type = 6
    · rw [if_pos e] at h7
      have := (of_decide_eq_true h7).1
      omega
    · rw [if_neg e] at h7
      have := of_decide_eq_true h7
      omega
theorem zone_short {o : List (List Int)} {rs : List Rec} (h : zoneOk o rs = true) : ShortN o ∧ (∀ i, i < rs.length → ShortR (rs.getD i recZ)) ∧ rs.length ≤ 60 := by
  obtain ⟨h1, h2, h3, _⟩ := of_decide_eq_true h
  exact ⟨short_name h1, fun i hi => short_rec (goodI_parts (h3 i hi)).1, h2⟩
/-- The one record of a new zone. -/
def soaOf (o : List (List Int)) (s : Int) : Rec := ⟨o, 6, 60, 0, o, [], [s, 60]⟩
def zoneNewOf (o : List (List Int)) (s : Int) : (List (List Int) × List Rec) × Bool := if zoneOk o [soaOf o s] = true then ((o, [soaOf o s]), true) else (([], []), false)
theorem zoneNewOf_size (o : List (List Int)) (s : Int) : ShortN (zoneNewOf o s).1.1 ∧ (∀ i, i < (zoneNewOf o s).1.2.length → ShortR ((zoneNewOf o s).1.2.getD i recZ)) ∧ (zoneNewOf o s).1.2.length ≤ 60 := by
  unfold zoneNewOf
  by_cases h : zoneOk o [soaOf o s] = true
  · rw [if_pos h]
    exact zone_short h
  · rw [if_neg h]
    exact ⟨short_nil, fun i hi => absurd hi (by simp), by simp⟩
theorem size_of_short {r : Rec} (h : ShortR r) : SizeR 1048576 r :=
  ⟨Nat.le_trans h.1.1 (by decide), fun i hi => Nat.le_trans (h.1.2 i hi) (by decide), Nat.le_trans h.2.1.1 (by decide), fun i hi => Nat.le_trans (h.2.1.2 i hi) (by decide), h.2.2.1, h.2.2.2⟩
end Go.Proofs.YtdghbcjlahjjdaaGreat

namespace Go.Proofs.YtdghbcjlahjjdaaGreat
open Go.RowKit
set_option linter.unusedVariables false

/-- The four lists of a record are owned, in blocks from B on. -/
structure OwnQ (B : Nat) (el eb ei : TypeId) (w : World) (vn vt vx vi : Value) (r : Rec) : Prop where
  name : OwnL B el eb w vn r.name
  to : OwnL B el eb w vt r.to
  text : Own B eb w vx r.text
  nums : OwnI B ei w vi r.nums
theorem OwnQ.hasR {B : Nat} {el eb ei : TypeId} {w : World} {vn vt vx vi : Value} {r : Rec} (h : OwnQ B el eb ei w vn vt vx vi r) : HasR w vn vt vx vi r := ⟨h.name.hasL, h.to.hasL, h.text.has, h.nums.has⟩
theorem OwnQ.below {B : Nat} {el eb ei : TypeId} {w w' : World} {vn vt vx vi : Value} {r : Rec} (h : OwnQ B el eb ei w vn vt vx vi r) (hb : Below w.heap.size w w') : OwnQ B el eb ei w' vn vt vx vi r := ⟨h.name.below hb, h.to.below hb, h.text.below hb, h.nums.below hb⟩
theorem OwnQ.mono {B B' : Nat} {el eb ei : TypeId} {w : World} {vn vt vx vi : Value} {r : Rec} (h : OwnQ B el eb ei w vn vt vx vi r) (hB : B' ≤ B) : OwnQ B' el eb ei w vn vt vx vi r := ⟨h.name.mono hB, h.to.mono hB, h.text.mono hB, h.nums.mono hB⟩
theorem ownsRow_off {B n s : Nat} {e : TypeId} {w w' : World} {v : Value} {xs : List Value} {row : Option Nat} (h : w.ownsRow B e s v n xs) (hg : w.grownBy w' row) (hr : ∀ q, row = some q → ∃ c t, w.heap[q]? = some (.cells c t) ∧ t ≠ e) : w'.ownsRow B e s v n xs := by
  refine World.ownsRow.kept h hg ?_
  cases hv : v.ownBlock with
  | none => exact .inl rfl
  | some k =>
    right
    intro e1
    obtain ⟨c, t, h1, h2⟩ := hr k e1.symm
    rcases h.2 with ⟨rfl, _⟩ | ⟨g, cap, cur, rfl, _, hg', _⟩
    · simp [Value.ownBlock] at hv
    · simp [Value.ownBlock] at hv
      subst hv
      rw [hg'] at h1
      cases h1
      exact h2 rfl
theorem OwnL.offR {B : Nat} {el eb : TypeId} {w w' : World} {v : Value} {n : List (List Int)} {row : Option Nat} (h : OwnL B el eb w v n) (hg : w.grownBy w' row) (hr : ∀ q, row = some q → ∃ c t, w.heap[q]? = some (.cells c t) ∧ t ≠ el ∧ t ≠ eb) : OwnL B el eb w' v n := by
  obtain ⟨vs, ho, hu, hd⟩ := h
  refine ⟨vs, ownsRow_off ho hg (fun q e => by obtain ⟨c, t, h1, h2, h3⟩ := hr q e; exact ⟨c, t, h1, h2⟩), fun i hi => ?_, hd⟩
  obtain ⟨x, h1, h2⟩ := hu i hi
  exact ⟨x, h1, ownsRow_off h2 hg (fun q e => by obtain ⟨c, t, h1, h2, h3⟩ := hr q e; exact ⟨c, t, h1, h3⟩)⟩
theorem OwnQ.offR {B : Nat} {el eb ei : TypeId} {w w' : World} {vn vt vx vi : Value} {r : Rec} {row : Option Nat} (h : OwnQ B el eb ei w vn vt vx vi r) (hg : w.grownBy w' row) (hr : ∀ q, row = some q → ∃ c t, w.heap[q]? = some (.cells c t) ∧ t ≠ el ∧ t ≠ eb ∧ t ≠ ei) : OwnQ B el eb ei w' vn vt vx vi r :=
  ⟨h.name.offR hg (fun q e => by obtain ⟨c, t, h1, h2, h3, h4⟩ := hr q e; exact ⟨c, t, h1, h2, h3⟩), h.to.offR hg (fun q e => by obtain ⟨c, t, h1, h2, h3, h4⟩ := hr q e; exact ⟨c, t, h1, h2, h3⟩),
   ownsRow_off h.text hg (fun q e => by obtain ⟨c, t, h1, h2, h3, h4⟩ := hr q e; exact ⟨c, t, h1, h3⟩), ownsRow_off h.nums hg (fun q e => by obtain ⟨c, t, h1, h2, h3, h4⟩ := hr q e; exact ⟨c, t, h1, h4⟩)⟩

/-- The slice v owns a row of these records; their lists are owned, too. -/
def RowQ (B : Nat) (er el eb ei : TypeId) (w : World) (v : Value) (rs : List Rec) : Prop :=
  ∃ xs, w.ownsRow B er 7 v rs.length xs ∧ ∀ i, i < rs.length → ∃ vn vt vx vi, (∀ j u, (cellsR vn vt vx vi (rs.getD i recZ))[j]? = some u → xs[i * 7 + j]? = some u) ∧ OwnQ B el eb ei w vn vt vx vi (rs.getD i recZ)
theorem RowQ.nil (B : Nat) (er el eb ei : TypeId) (w : World) : RowQ B er el eb ei w (.slice none 0 0) [] := ⟨[], World.ownsRow_nil _ _ _ _, fun i hi => absurd hi (by simp)⟩
theorem RowQ.has {B : Nat} {er el eb ei : TypeId} {w : World} {v : Value} {rs : List Rec} (h : RowQ B er el eb ei w v rs) : HasRs w v rs := by
  obtain ⟨xs, ho, hx⟩ := h
  have ho' := ho
  rcases ho.2 with ⟨rfl, hn⟩ | ⟨b, cap, cur, rfl, hB, hg, hn, hm, hs, ht⟩
  · exact .inl ⟨rfl, List.eq_nil_of_length_eq_zero hn⟩
  · refine .inr ⟨b, 0, cap, rfl, block_lt hg, hn, hm, fun i hi => ?_⟩
    obtain ⟨vn, vt, vx, vi, q1, q2⟩ := hx i hi
    refine ⟨vn, vt, vx, vi, fun j u hj => ?_, q2.hasR⟩
    have hj7 := cells_lt hj
    rw [Nat.zero_add, World.ownsRow.cellAt ho' (i * 7 + j) (by omega)]
    exact q1 j u hj
theorem RowQ.form {B : Nat} {er el eb ei : TypeId} {w : World} {v : Value} {rs : List Rec} (h : RowQ B er el eb ei w v rs) : ∃ a cap, v = .slice a rs.length cap ∧ rs.length ≤ cap ∧ cap ≤ maxLen := h.has.form
theorem RowQ.below {B : Nat} {er el eb ei : TypeId} {w w' : World} {v : Value} {rs : List Rec} (h : RowQ B er el eb ei w v rs) (hb : Below w.heap.size w w') : RowQ B er el eb ei w' v rs := by
  obtain ⟨xs, ho, hx⟩ := h
  refine ⟨xs, row_later ho hb, fun i hi => ?_⟩
  obtain ⟨vn, vt, vx, vi, q1, q2⟩ := hx i hi
  exact ⟨vn, vt, vx, vi, q1, q2.below hb⟩
theorem RowQ.mono {B B' : Nat} {er el eb ei : TypeId} {w : World} {v : Value} {rs : List Rec} (h : RowQ B er el eb ei w v rs) (hB : B' ≤ B) : RowQ B' er el eb ei w v rs := by
  obtain ⟨xs, ho, hx⟩ := h
  refine ⟨xs, ⟨ho.1, ?_⟩, fun i hi => ?_⟩
  · rcases ho.2 with hn | ⟨b, cap, cur, hv, hb, rest⟩
    · exact .inl hn
    · exact .inr ⟨b, cap, cur, hv, Nat.le_trans hB hb, rest⟩
  · obtain ⟨vn, vt, vx, vi, q1, q2⟩ := hx i hi
    exact ⟨vn, vt, vx, vi, q1, q2.mono hB⟩
theorem RowQ.off {B q : Nat} {er el eb ei t : TypeId} {w w' : World} {v : Value} {rs : List Rec} {c : Array Value} (h : RowQ B er el eb ei w v rs) (hk : w.heap[q]? = some (.cells c t)) (h1 : t ≠ er) (h2 : t ≠ el) (h3 : t ≠ eb) (h4 : t ≠ ei) (hg : w.grownBy w' (some q)) : RowQ B er el eb ei w' v rs := by
  obtain ⟨xs, ho, hx⟩ := h
  refine ⟨xs, ownsRow_off ho hg (fun k e => by cases e; exact ⟨c, t, hk, h1⟩), fun i hi => ?_⟩
  obtain ⟨vn, vt, vx, vi, q1, q2⟩ := hx i hi
  exact ⟨vn, vt, vx, vi, q1, q2.offR hg (fun k e => by cases e; exact ⟨c, t, hk, h2, h3, h4⟩)⟩
/-- One record more. -/
theorem RowQ.snoc {B : Nat} {er el eb ei : TypeId} {W w' : World} {v v' : Value} {rs : List Rec} {r : Rec} {vn vt vx vi : Value} (h1 : er ≠ el) (h2 : er ≠ eb) (h3 : er ≠ ei) (h : RowQ B er el eb ei W v rs)
    (hr : OwnQ B el eb ei W vn vt vx vi r) (hg : W.grownBy w' v.ownBlock)
    (ho : ∀ xs, W.ownsRow B er 7 v rs.length xs → w'.ownsRow B er 7 v' (rs.length + 1) (xs ++ cellsR vn vt vx vi r)) : RowQ B er el eb ei w' v' (rs ++ [r]) := by
  obtain ⟨xs, h0, hx⟩ := h
  have ho' := ho xs h0
  have hlen : xs.length = rs.length * 7 := h0.1
  have hrow : ∀ q, v.ownBlock = some q → ∃ c t, W.heap[q]? = some (.cells c t) ∧ t ≠ el ∧ t ≠ eb ∧ t ≠ ei := fun q e => by
    rcases h0.2 with ⟨rfl, _⟩ | ⟨g, cap, cur, rfl, _, hg', _⟩
    · simp [Value.ownBlock] at e
    · simp [Value.ownBlock] at e
      subst e
      exact ⟨cur, er, hg', h1, h2, h3⟩
  refine ⟨xs ++ cellsR vn vt vx vi r, by rw [List.length_append]; exact ho', fun i hi => ?_⟩
  rw [List.length_append] at hi
  simp only [List.length_cons, List.length_nil] at hi
  by_cases hlt : i < rs.length
  · obtain ⟨un, ut, ux, ui, q1, q2⟩ := hx i hlt
    have e1 : (rs ++ [r]).getD i recZ = rs.getD i recZ := by rw [List.getD_eq_getElem?_getD, List.getElem?_append_left hlt, ← List.getD_eq_getElem?_getD]
    rw [e1]
    refine ⟨un, ut, ux, ui, fun j u hj => ?_, q2.offR hg hrow⟩
    have hj7 := cells_lt hj
    rw [List.getElem?_append_left (by omega)]
    exact q1 j u hj
  · obtain rfl : i = rs.length := by omega
    have e1 : (rs ++ [r]).getD rs.length recZ = r := by rw [List.getD_eq_getElem?_getD]; simp
    rw [e1]
    refine ⟨vn, vt, vx, vi, fun j u hj => ?_, hr.offR hg hrow⟩
    rw [List.getElem?_append_right (by omega), hlen, Nat.add_sub_cancel_left]
    exact hj
end Go.Proofs.YtdghbcjlahjjdaaGreat

namespace Go.Proofs.YtdghbcjlahjjdaaGreat
open Go.RowKit
set_option linter.unusedVariables false

def nextS (x : Int) : Int := (x + 1) % 4294967296
def bumpR (r : Rec) : Rec := ⟨r.name, r.type, r.ttl, r.addr, r.to, r.text, r.nums.set 0 (nextS (r.nums.getD 0 0))⟩
def bumpRs (rs : List Rec) : List Rec := rs.map (fun r => if r.type = 6 then bumpR r else r)
def bumpOf (o : List (List Int)) (rs : List Rec) : (List (List Int) × List Rec) × Bool := if zoneOk o rs = true then ((o, bumpRs rs), true) else (([], []), false)
theorem and_round (x : Int) (h0 : 0 ≤ x) (h1 : x ≤ 4294967295) : bits .and .i64 (x + 1) 4294967295 = nextS x := by
  unfold nextS
  obtain ⟨n, rfl⟩ := Int.eq_ofNat_of_zero_le h0
  have e : ((n : Int) + 1) = ((n + 1 : Nat) : Int) := by omega
  rw [e]
  show IntKind.i64.wrap ((BitVec.ofInt 64 ((n + 1 : Nat) : Int) &&& BitVec.ofInt 64 ((4294967295 : Nat) : Int)).toNat : Int) = _
  rw [BitVec.toNat_and, ofInt_u64 (n + 1) (by omega), ofInt_u64 4294967295 (by omega), nat_mask32]
  rw [wrap_small _ (by omega)]
  omega
theorem short_bump {r : Rec} (h : ShortR r) : ShortR (bumpR r) := by
  refine ⟨h.1, h.2.1, h.2.2.1, ?_⟩
  show (r.nums.set 0 _).length ≤ 1048576
  rw [List.length_set]
  exact h.2.2.2
theorem bumpRs_length (rs : List Rec) : (bumpRs rs).length = rs.length := by simp [bumpRs]
theorem bumpRs_getD (rs : List Rec) (i : Nat) (h : i < rs.length) : (bumpRs rs).getD i recZ = if (rs.getD i recZ).type = 6 then bumpR (rs.getD i recZ) else rs.getD i recZ := by
  simp [bumpRs, List.getD, h]
theorem bumpOf_short (o : List (List Int)) (rs : List Rec) : ShortN (bumpOf o rs).1.1 ∧ (∀ i, i < (bumpOf o rs).1.2.length → ShortR ((bumpOf o rs).1.2.getD i recZ)) ∧ (bumpOf o rs).1.2.length ≤ 60 := by
  unfold bumpOf
  by_cases h : zoneOk o rs = true
  · rw [if_pos h]
    have hs := zone_short h
    refine ⟨hs.1, fun i hi => ?_, by show (bumpRs rs).length ≤ 60; rw [bumpRs_length]; exact hs.2.2⟩
    have hi' : i < rs.length := by rw [← bumpRs_length rs]; exact hi
    show ShortR ((bumpRs rs).getD i recZ)
    rw [bumpRs_getD rs i hi']
    split
    · exact short_bump (hs.2.1 i hi')
    · exact hs.2.1 i hi'
  · rw [if_neg h]
    exact ⟨short_nil, fun i hi => absurd hi (by simp), by simp⟩
/-- Behind the first SOA there is no other. -/
theorem soas_one {rs : List Rec} : ∀ {n s : Nat}, s < n → (rs.getD s recZ).type = 6 → soas rs n ≤ 1 → ∀ j, j < n → (rs.getD j recZ).type = 6 → j = s
  | 0, _, hs, _, _ => by omega
  | n + 1, s, hs, h6, h1 => by
    intro j hj h6j
    unfold soas at h1
    have hpos : ∀ k m, k < m → (rs.getD k recZ).type = 6 → 0 < soas rs m := by
      intro k m hk hk6
      induction m with
      | zero => omega
      | succ m ih =>
        unfold soas
        by_cases e : k = m
        · subst e
          rw [if_pos hk6]
          omega
        · have := ih (by omega)
          omega
    by_cases es : s = n
    · subst es
      rw [if_pos h6] at h1
      by_cases ej : j = s
      · exact ej
      · have := hpos j s (by omega) h6j
        omega
    · by_cases ej : j = n
      · subst ej
        rw [if_pos h6j] at h1
        have := hpos s j (by omega) h6
        omega
      · exact soas_one (n := n) (by omega) h6 (by split at h1 <;> omega) j (by omega) h6j
theorem bumpRs_set {rs : List Rec} {s : Nat} (hs : s < rs.length) (h6 : (rs.getD s recZ).type = 6) (h1 : soas rs rs.length = 1) : rs.set s (bumpR (rs.getD s recZ)) = bumpRs rs := by
  apply List.ext_getElem?
  intro j
  by_cases e : j = s
  · subst e
    have hg : rs[j]? = some (rs.getD j recZ) := by simp [List.getD, hs]
    simp only [bumpRs, List.getElem?_map, hg, Option.map_some]
    rw [if_pos h6]
    simp [hs]
  · rw [List.getElem?_set_ne (Ne.symm e)]
    by_cases hj : j < rs.length
    · have hne : (rs.getD j recZ).type ≠ 6 := fun q => e (soas_one hs h6 (by omega) j hj q)
      have hg : rs[j]? = some (rs.getD j recZ) := by simp [List.getD, hj]
      simp only [bumpRs, List.getElem?_map, hg, Option.map_some]
      rw [if_neg hne]
    · simp [bumpRs, hj]
/-- The first of two numbers of an own row is turned. -/
theorem row_set0 {B : Nat} {e : TypeId} {w : World} {v : Value} {a b : Value} (h : w.ownsRow B e 1 v 2 [a, b]) : ∃ q cap, v = .slice (some ⟨q, 0, none⟩) 2 cap ∧ B ≤ q ∧ (∃ cur, w.heap[q]? = some (.cells cur e)) ∧ w.cell? ⟨q, 0, none⟩ = some a ∧ w.frozen? ⟨q, 0, none⟩ = false ∧ ∀ z, (w.setCell ⟨q, 0, none⟩ z).ownsRow B e 1 v 2 [z, b] := by
  have h' := h
  rcases h.2 with ⟨_, h0⟩ | ⟨q, cap, cur, rfl, hB, hg, hn, hm, hs, ht⟩
  · omega
  · refine ⟨q, cap, rfl, hB, ⟨cur, hg⟩, ?_, block_frozen hg 0, fun z => ?_⟩
    · have := World.ownsRow.cellAt h' 0 (by omega)
      simpa using this
    · refine ⟨rfl, .inr ⟨q, cap, _, rfl, hB, block_setAt hg 0 z, hn, hm, by simpa using hs, ?_⟩⟩
      have hcs : cur.toList = a :: b :: cur.toList.drop 2 := by
        have h2 := List.take_append_drop 2 cur.toList
        have ht' : cur.toList.take 2 = [a, b] := by simpa using ht
        rw [ht'] at h2
        exact h2.symm
      rw [Array.toList_setIfInBounds, hcs]
      simp
/-- One record's first number is turned. -/
theorem RowO.bump {B E : Nat} {er el eb ei : TypeId} {w : World} {v : Value} {rs : List Rec} {s : Nat} {x y : Int} (h : RowO B E er el eb ei w v rs) (hs : s < rs.length) (hn : (rs.getD s recZ).nums = [x, y]) :
    ∃ g q cap ic, v = .slice (some ⟨g, 0, none⟩) rs.length cap ∧ w.cell? ⟨g, s * 7 + 6, none⟩ = some (.slice (some ⟨q, 0, none⟩) 2 ic) ∧ B ≤ q ∧ q < E ∧ g < w.heap.size ∧ q < w.heap.size ∧ w.cell? ⟨q, 0, none⟩ = some (.int .i64 x) ∧ w.frozen? ⟨q, 0, none⟩ = false ∧
      ∀ z, RowO B E er el eb ei (w.setCell ⟨q, 0, none⟩ (.int .i64 z)) v (rs.set s ⟨(rs.getD s recZ).name, (rs.getD s recZ).type, (rs.getD s recZ).ttl, (rs.getD s recZ).addr, (rs.getD s recZ).to, (rs.getD s recZ).text, [z, y]⟩) := by
  obtain ⟨xs, f, g, ho, hq, hx⟩ := h
  have hx' := hx
  obtain ⟨hB1, hE1, hlow, hqk, vn, vt, vx, vi, hcs, hR⟩ := hx s hs
  obtain ⟨s1, s2, s3, a1, a2, a3, a4, h1, h2, h3, h4⟩ := hR
  rw [hn] at h4
  have h4' : w.ownsRow s3 ei 1 vi 2 [.int .i64 x, .int .i64 y] := h4.1
  obtain ⟨q, ic, rfl, hqB, ⟨cu, hcu⟩, c0, fz, hset⟩ := row_set0 h4'
  have hqE := h4.2 q rfl
  have ho' := ho
  rcases ho.2 with ⟨_, h0⟩ | ⟨b, cap, cur, rfl, hb, hg, hnc, hcm, hcz, htk⟩
  · omega
  have hbs := hqk b rfl
  refine ⟨b, q, cap, ic, rfl, ?_, by omega, by omega, block_lt hg, block_lt hcu, c0, fz, fun z => ?_⟩
  · rw [World.ownsRow.cellAt ho' (s * 7 + 6) (by omega)]
    exact hcs 6 _ rfl
  · have u := outside_set w q 0 (.int .i64 z)
    refine RowO.mark (m := s) (xs := xs) (xs' := xs) (f := f) (g := g) (w := w) hs hq hx' (ownsRow_out ho u (fun k hk => ?_)) (fun _ _ _ _ => rfl) (vn := vn) (vt := vt) (vx := vx) (vi := .slice (some ⟨q, 0, none⟩) 2 ic) hcs ?_ ?_
    · injection hk with hk
      have hk' : b = k := hk
      omega
    · refine ⟨s1, s2, s3, a1, a2, a3, a4, h1.outside u (by omega), h2.outside u (by omega), h3.outside u (by omega), ?_, h4.2⟩
      exact hset (.int .i64 z)
    · intro i hi hne un ut ux ui hO
      have hdis : g i ≤ f s ∨ g s ≤ f i := by
        by_cases hlt : i < s
        · exact .inl (hlow i hlt)
        · exact .inr ((hx' i hi).2.2.1 s (by omega))
      exact hO.outside u (by omega)
/-- The same in a row whose lists lie anywhere; the others have no numbers. -/
theorem ownI_setAny {B q : Nat} {e : TypeId} {w : World} {v : Value} {z : Value} (h : OwnI B e w v []) : OwnI B e (w.setCell ⟨q, 0, none⟩ z) v [] := by
  refine ⟨h.1, ?_⟩
  rcases h.2 with hn | ⟨g, cap, cur, hv, hb, hg, h1, h2, h3, h4⟩
  · exact .inl hn
  · by_cases e : q = g
    · subst e
      exact .inr ⟨q, cap, _, hv, hb, block_setAt hg 0 z, h1, h2, by simpa using h3, by simp⟩
    · exact .inr ⟨g, cap, cur, hv, hb, block_grown (grown_setCell w ⟨q, 0, none⟩ z) hg (by simp; omega), h1, h2, h3, h4⟩
theorem RowQ.bump {B : Nat} {er el eb ei : TypeId} {w : World} {v : Value} {rs : List Rec} {s : Nat} {x y : Int} (h1 : er ≠ ei) (h2 : el ≠ ei) (h3 : eb ≠ ei) (h : RowQ B er el eb ei w v rs) (hs : s < rs.length) (hn : (rs.getD s recZ).nums = [x, y]) (ho : ∀ j, j < rs.length → j ≠ s → (rs.getD j recZ).nums = []) :
    ∃ g q cap ic, v = .slice (some ⟨g, 0, none⟩) rs.length cap ∧ w.cell? ⟨g, s * 7 + 6, none⟩ = some (.slice (some ⟨q, 0, none⟩) 2 ic) ∧ B ≤ q ∧ g < w.heap.size ∧ w.cell? ⟨q, 0, none⟩ = some (.int .i64 x) ∧ w.frozen? ⟨q, 0, none⟩ = false ∧ (∃ cu, w.heap[q]? = some (.cells cu ei)) ∧ q ≠ g ∧
      ∀ z, RowQ B er el eb ei (w.setCell ⟨q, 0, none⟩ (.int .i64 z)) v (rs.set s ⟨(rs.getD s recZ).name, (rs.getD s recZ).type, (rs.getD s recZ).ttl, (rs.getD s recZ).addr, (rs.getD s recZ).to, (rs.getD s recZ).text, [z, y]⟩) := by
  obtain ⟨xs, hr, hx⟩ := h
  obtain ⟨vn, vt, vx, vi, hcs, hR⟩ := hx s hs
  have h4 := hR.nums
  rw [hn] at h4
  have h4' : w.ownsRow B ei 1 vi 2 [.int .i64 x, .int .i64 y] := h4
  obtain ⟨q, ic, rfl, hqB, ⟨cu, hcu⟩, c0, fz, hset⟩ := row_set0 h4'
  have hr' := hr
  rcases hr.2 with ⟨_, h0⟩ | ⟨b, cap, cur, rfl, hb, hg, hnc, hcm, hcz, htk⟩
  · omega
  refine ⟨b, q, cap, ic, rfl, ?_, hqB, block_lt hg, c0, fz, ⟨cu, hcu⟩, (fun e => by rw [e, hg] at hcu; simp at hcu; exact h1 hcu.2), fun z => ?_⟩
  · rw [World.ownsRow.cellAt hr' (s * 7 + 6) (by omega)]
    exact hcs 6 _ rfl
  · have gs := grown_setCell w ⟨q, 0, none⟩ (.int .i64 z)
    have hoff : ∀ k, some q = some k → ∃ c t, w.heap[k]? = some (.cells c t) ∧ t ≠ el ∧ t ≠ eb := fun k e => by cases e; exact ⟨cu, ei, hcu, Ne.symm h2, Ne.symm h3⟩
    refine ⟨xs, by rw [List.length_set]; exact ownsRow_off hr' gs (fun k e => by cases e; exact ⟨cu, ei, hcu, Ne.symm h1⟩), fun i hi => ?_⟩
    rw [List.length_set] at hi
    by_cases e : i = s
    · subst e
      have e1 : (rs.set i ⟨(rs.getD i recZ).name, (rs.getD i recZ).type, (rs.getD i recZ).ttl, (rs.getD i recZ).addr, (rs.getD i recZ).to, (rs.getD i recZ).text, [z, y]⟩).getD i recZ = ⟨(rs.getD i recZ).name, (rs.getD i recZ).type, (rs.getD i recZ).ttl, (rs.getD i recZ).addr, (rs.getD i recZ).to, (rs.getD i recZ).text, [z, y]⟩ := by simp [List.getD, hs]
      rw [e1]
      exact ⟨vn, vt, vx, .slice (some ⟨q, 0, none⟩) 2 ic, hcs, ⟨hR.name.offR gs hoff, hR.to.offR gs hoff, ownsRow_off hR.text gs (fun k e => by cases e; exact ⟨cu, ei, hcu, Ne.symm h3⟩), hset (.int .i64 z)⟩⟩
    · obtain ⟨un, ut, ux, ui, q1, q2⟩ := hx i hi
      have e1 : ∀ r', (rs.set s r').getD i recZ = rs.getD i recZ := fun r' => by simp [List.getD, List.getElem?_set_ne (Ne.symm e)]
      rw [e1]
      refine ⟨un, ut, ux, ui, q1, ⟨q2.name.offR gs hoff, q2.to.offR gs hoff, ownsRow_off q2.text gs (fun k e => by cases e; exact ⟨cu, ei, hcu, Ne.symm h3⟩), ?_⟩⟩
      have hnil := ho i hi e
      have q2n := q2.nums
      rw [hnil] at q2n ⊢
      exact ownI_setAny q2n
theorem bumpR_eq {r : Rec} {x y : Int} (h : r.nums = [x, y]) : bumpR r = ⟨r.name, r.type, r.ttl, r.addr, r.to, r.text, [nextS x, y]⟩ := by
  unfold bumpR
  rw [h]
  rfl
/-- What is known of the SOA of a zone, and of the others. -/
theorem zone_bump {o : List (List Int)} {rs : List Rec} (h : zoneOk o rs = true) : ∃ s x y, s < rs.length ∧ (rs.getD s recZ).type = 6 ∧ (∀ j, j < s → (rs.getD j recZ).type ≠ 6) ∧ (∀ j, j < rs.length → j ≠ s → (rs.getD j recZ).type ≠ 6) ∧ (∀ j, j < rs.length → j ≠ s → (rs.getD j recZ).nums = []) ∧ (rs.getD s recZ).nums = [x, y] ∧ 0 ≤ x ∧ x ≤ 4294967295 ∧ bumpRs rs = rs.set s (bumpR (rs.getD s recZ)) := by
  obtain ⟨s, hs, h6, hb, _, _, hn⟩ := zone_soa h
  obtain ⟨ho, h60, hg, h1⟩ := of_decide_eq_true h
  obtain ⟨x, y, hxy⟩ := two_of hn
  have hok := (goodI_parts (hg s hs)).1
  unfold rrOk dataOk at hok
  simp only [Bool.and_eq_true, h6, if_true] at hok
  have hd := of_decide_eq_true hok.2.2.2.2.2.2
  rw [hxy] at hd
  have hne : ∀ j, j < rs.length → j ≠ s → (rs.getD j recZ).type ≠ 6 := fun j hj e q => e (soas_one hs h6 (by omega) j hj q)
  refine ⟨s, x, y, hs, h6, hb, hne, fun j hj e => ?_, hxy, hd.2.1, hd.2.2.1, (bumpRs_set hs h6 h1).symm⟩
  have hokj := (goodI_parts (hg j hj)).1
  unfold rrOk dataOk at hokj
  simp only [Bool.and_eq_true] at hokj
  have hlast := hokj.2.2.2.2.2.2
  rw [if_neg (hne j hj e)] at hlast
  exact List.eq_nil_of_length_eq_zero (of_decide_eq_true hlast)
end Go.Proofs.YtdghbcjlahjjdaaGreat
