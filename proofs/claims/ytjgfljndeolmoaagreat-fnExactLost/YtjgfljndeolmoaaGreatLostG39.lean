/-
  Plain facts: a row of records that a slice owns, whose lists are owned wherever they lie. No program is named here. Contract of the specification's l3ownAll.
-/
import Derived.Test.YtjgfljndeolmoaaGreatLostG07
import Derived.Test.YtjgfljndeolmoaaGreatLostG13
import Derived.Test.YtjgfljndeolmoaaGreatLostG38
import Derived.Test.YtjgfljndeolmoaaGreatLostG17
import Derived.Test.YtjgfljndeolmoaaGreatLostG14
namespace Go.Proofs.YtjgfljndeolmoaaGreat
open Go.RowKit
set_option linter.unusedVariables false

/-- The four lists of a record are owned, in blocks from B on. -/
structure OwnQ (B : Nat) (el eb ei : TypeId) (w : World) (vn vt vx vi : Value) (r : Rec) : Prop where
  name : OwnL B el eb w vn r.name
  to : OwnL B el eb w vt r.to
  text : Own B eb w vx r.text
  nums : OwnI B ei w vi r.nums
theorem OwnQ.hasR {B : Nat} {el eb ei : TypeId} {w : World} {vn vt vx vi : Value} {r : Rec} (h : OwnQ B el eb ei w vn vt vx vi r) : HasR w vn vt vx vi r := ⟨h.name.hasL, h.to.hasL, h.text.has, h.nums.has⟩
theorem OwnQ.below {B : Nat} {el eb ei : TypeId} {w w' : World} {vn vt vx vi : Value} {r : Rec} (h : OwnQ B el eb ei w vn vt vx vi r) (hb : Below w.heap.size w w') : OwnQ B el eb ei w' vn vt vx vi r := ⟨h.name.below hb, h.to.below hb, h.text.below hb, h.nums.below hb⟩
theorem OwnQ.mono {B B' : Nat} {el eb ei : TypeId} {w : World} {vn vt vx vi : Value} {r : Rec} (h : OwnQ B el eb ei w vn vt vx vi r) (hB : B' ≤ B) : OwnQ B' el eb ei w vn vt vx vi r := ⟨h.name.mono hB, h.to.mono hB, h.text.mono hB, h.nums.mono hB⟩
theorem ownsRow_off {B n s : Nat} {e : TypeId} {w w' : World} {v : Value} {xs : List Value} {row : Option Nat} (h : w.ownsRow B e s v n xs) (hg : w.grownBy w' row) (hr : ∀ q, row = some q → ∃ c t, w.heap[q]? = some (.cells c t) ∧ t ≠ e) : w'.ownsRow B e s v n xs := by
  refine World.ownsRow.kept h hg ?_
  cases hv : v.ownBlock with
  | none => exact .inl rfl
  | some k =>
    right
    intro e1
    obtain ⟨c, t, h1, h2⟩ := hr k e1.symm
    rcases h.2 with ⟨rfl, _⟩ | ⟨g, cap, cur, rfl, _, hg', _⟩
    · simp [Value.ownBlock] at hv
    · simp [Value.ownBlock] at hv
      subst hv
      rw [hg'] at h1
      cases h1
      exact h2 rfl
theorem OwnL.offR {B : Nat} {el eb : TypeId} {w w' : World} {v : Value} {n : List (List Int)} {row : Option Nat} (h : OwnL B el eb w v n) (hg : w.grownBy w' row) (hr : ∀ q, row = some q → ∃ c t, w.heap[q]? = some (.cells c t) ∧ t ≠ el ∧ t ≠ eb) : OwnL B el eb w' v n := by
  obtain ⟨vs, ho, hu, hd⟩ := h
  refine ⟨vs, ownsRow_off ho hg (fun q e => by obtain ⟨c, t, h1, h2, h3⟩ := hr q e; exact ⟨c, t, h1, h2⟩), fun i hi => ?_, hd⟩
  obtain ⟨x, h1, h2⟩ := hu i hi
  exact ⟨x, h1, ownsRow_off h2 hg (fun q e => by obtain ⟨c, t, h1, h2, h3⟩ := hr q e; exact ⟨c, t, h1, h3⟩)⟩
theorem OwnQ.offR {B : Nat} {el eb ei : TypeId} {w w' : World} {vn vt vx vi : Value} {r : Rec} {row : Option Nat} (h : OwnQ B el eb ei w vn vt vx vi r) (hg : w.grownBy w' row) (hr : ∀ q, row = some q → ∃ c t, w.heap[q]? = some (.cells c t) ∧ t ≠ el ∧ t ≠ eb ∧ t ≠ ei) : OwnQ B el eb ei w' vn vt vx vi r :=
  ⟨h.name.offR hg (fun q e => by obtain ⟨c, t, h1, h2, h3, h4⟩ := hr q e; exact ⟨c, t, h1, h2, h3⟩), h.to.offR hg (fun q e => by obtain ⟨c, t, h1, h2, h3, h4⟩ := hr q e; exact ⟨c, t, h1, h2, h3⟩),
   ownsRow_off h.text hg (fun q e => by obtain ⟨c, t, h1, h2, h3, h4⟩ := hr q e; exact ⟨c, t, h1, h3⟩), ownsRow_off h.nums hg (fun q e => by obtain ⟨c, t, h1, h2, h3, h4⟩ := hr q e; exact ⟨c, t, h1, h4⟩)⟩

/-- The slice v owns a row of these records; their lists are owned, too. -/
def RowQ (B : Nat) (er el eb ei : TypeId) (w : World) (v : Value) (rs : List Rec) : Prop :=
  ∃ xs, w.ownsRow B er 7 v rs.length xs ∧ ∀ i, i < rs.length → ∃ vn vt vx vi, (∀ j u, (cellsR vn vt vx vi (rs.getD i recZ))[j]? = some u → xs[i * 7 + j]? = some u) ∧ OwnQ B el eb ei w vn vt vx vi (rs.getD i recZ)
theorem RowQ.nil (B : Nat) (er el eb ei : TypeId) (w : World) : RowQ B er el eb ei w (.slice none 0 0) [] := ⟨[], World.ownsRow_nil _ _ _ _, fun i hi => absurd hi (by simp)⟩
theorem RowQ.has {B : Nat} {er el eb ei : TypeId} {w : World} {v : Value} {rs : List Rec} (h : RowQ B er el eb ei w v rs) : HasRs w v rs := by
  obtain ⟨xs, ho, hx⟩ := h
  have ho' := ho
  rcases ho.2 with ⟨rfl, hn⟩ | ⟨b, cap, cur, rfl, hB, hg, hn, hm, hs, ht⟩
  · exact .inl ⟨rfl, List.eq_nil_of_length_eq_zero hn⟩
  · refine .inr ⟨b, 0, cap, rfl, block_lt hg, hn, hm, fun i hi => ?_⟩
    obtain ⟨vn, vt, vx, vi, q1, q2⟩ := hx i hi
    refine ⟨vn, vt, vx, vi, fun j u hj => ?_, q2.hasR⟩
    have hj7 := cells_lt hj
    rw [Nat.zero_add, World.ownsRow.cellAt ho' (i * 7 + j) (by omega)]
    exact q1 j u hj
theorem RowQ.form {B : Nat} {er el eb ei : TypeId} {w : World} {v : Value} {rs : List Rec} (h : RowQ B er el eb ei w v rs) : ∃ a cap, v = .slice a rs.length cap ∧ rs.length ≤ cap ∧ cap ≤ maxLen := h.has.form
theorem RowQ.below {B : Nat} {er el eb ei : TypeId} {w w' : World} {v : Value} {rs : List Rec} (h : RowQ B er el eb ei w v rs) (hb : Below w.heap.size w w') : RowQ B er el eb ei w' v rs := by
  obtain ⟨xs, ho, hx⟩ := h
  refine ⟨xs, row_later ho hb, fun i hi => ?_⟩
  obtain ⟨vn, vt, vx, vi, q1, q2⟩ := hx i hi
  exact ⟨vn, vt, vx, vi, q1, q2.below hb⟩
theorem RowQ.mono {B B' : Nat} {er el eb ei : TypeId} {w : World} {v : Value} {rs : List Rec} (h : RowQ B er el eb ei w v rs) (hB : B' ≤ B) : RowQ B' er el eb ei w v rs := by
  obtain ⟨xs, ho, hx⟩ := h
  refine ⟨xs, ⟨ho.1, ?_⟩, fun i hi => ?_⟩
  · rcases ho.2 with hn | ⟨b, cap, cur, hv, hb, rest⟩
    · exact .inl hn
    · exact .inr ⟨b, cap, cur, hv, Nat.le_trans hB hb, rest⟩
  · obtain ⟨vn, vt, vx, vi, q1, q2⟩ := hx i hi
    exact ⟨vn, vt, vx, vi, q1, q2.mono hB⟩
theorem RowQ.off {B q : Nat} {er el eb ei t : TypeId} {w w' : World} {v : Value} {rs : List Rec} {c : Array Value} (h : RowQ B er el eb ei w v rs) (hk : w.heap[q]? = some (.cells c t)) (h1 : t ≠ er) (h2 : t ≠ el) (h3 : t ≠ eb) (h4 : t ≠ ei) (hg : w.grownBy w' (some q)) : RowQ B er el eb ei w' v rs := by
  obtain ⟨xs, ho, hx⟩ := h
  refine ⟨xs, ownsRow_off ho hg (fun k e => by cases e; exact ⟨c, t, hk, h1⟩), fun i hi => ?_⟩
  obtain ⟨vn, vt, vx, vi, q1, q2⟩ := hx i hi
  exact ⟨vn, vt, vx, vi, q1, q2.offR hg (fun k e => by cases e; exact ⟨c, t, hk, h2, h3, h4⟩)⟩
/-- One record more. -/
theorem RowQ.snoc {B : Nat} {er el eb ei : TypeId} {W w' : World} {v v' : Value} {rs : List Rec} {r : Rec} {vn vt vx vi : Value} (h1 : er ≠ el) (h2 : er ≠ eb) (h3 : er ≠ ei) (h : RowQ B er el eb ei W v rs)
    (hr : OwnQ B el eb ei W vn vt vx vi r) (hg : W.grownBy w' v.ownBlock)
    (ho : ∀ xs, W.ownsRow B er 7 v rs.length xs → w'.ownsRow B er 7 v' (rs.length + 1) (xs ++ cellsR vn vt vx vi r)) : RowQ B er el eb ei w' v' (rs ++ [r]) := by
  obtain ⟨xs, h0, hx⟩ := h
  have ho' := ho xs h0
  have hlen : xs.length = rs.length * 7 := h0.1
  have hrow : ∀ q, v.ownBlock = some q → ∃ c t, W.heap[q]? = some (.cells c t) ∧ t ≠ el ∧ t ≠ eb ∧ t ≠ ei := fun q e => by
    rcases h0.2 with ⟨rfl, _⟩ | ⟨g, cap, cur, rfl, _, hg', _⟩
    · simp [Value.ownBlock] at e
    · simp [Value.ownBlock] at e
      subst e
      exact ⟨cur, er, hg', h1, h2, h3⟩
  refine ⟨xs ++ cellsR vn vt vx vi r, by rw [List.length_append]; exact ho', fun i hi => ?_⟩
  rw [List.length_append] at hi
  simp only [List.length_cons, List.length_nil] at hi
  by_cases hlt : i < rs.length
  · obtain ⟨un, ut, ux, ui, q1, q2⟩ := hx i hlt
    have e1 : (rs ++ [r]).getD i recZ = rs.getD i recZ := by rw [List.getD_eq_getElem?_getD, List.getElem?_append_left hlt, ← List.getD_eq_getElem?_getD]
    rw [e1]
    refine ⟨un, ut, ux, ui, fun j u hj => ?_, q2.offR hg hrow⟩
    have hj7 := cells_lt hj
    rw [List.getElem?_append_left (by omega)]
    exact q1 j u hj
  · obtain rfl : i = rs.length := by omega
    have e1 : (rs ++ [r]).getD rs.length recZ = r := by rw [List.getD_eq_getElem?_getD]; simp
    rw [e1]
    refine ⟨vn, vt, vx, vi, fun j u hj => ?_, hr.offR hg hrow⟩
    rw [List.getElem?_append_right (by omega), hlen, Nat.add_sub_cancel_left]
    exact hj
end Go.Proofs.YtjgfljndeolmoaaGreat

namespace Go.Proofs.YtjgfljndeolmoaaGreat
open Go.RowKit
set_option linter.unusedVariables false

theorem drawn_of_short {n : List (List Int)} (h : n.length ≤ 6 ∧ ∀ k, k < n.length → (n.getD k []).length ≤ 15) : DrawnN n := ⟨Nat.le_trans h.1 (by decide), fun k hk => Nat.le_trans (h.2 k hk) (by decide)⟩
theorem info_rrQ : (Tryz.prog.info? 137).map (fun i => (i.zero, i.size, i.bytes)) = some (some (.agg #[.slice none 0 0, .int .i64 0, .int .i64 0, .int .i64 0, .slice none 0 0, .slice none 0 0, .slice none 0 0]), 7, 120) := by kernel_rfl

set_option maxHeartbeats 4000000 in
set_option maxRecDepth 100000 in
theorem l3ownAll_has {v : Value} {rs : List Rec} {w : World} (h : HasRs w v rs) (hsh : ∀ i, i < rs.length → ShortR (rs.getD i recZ)) (hl : rs.length ≤ 1000) :
  Calls Tryz.prog 102 #[v] w fun e w' => ∃ u, e = .returned u ∧ RowQ w.heap.size 137 27 5 3 w' u rs ∧ Below w.heap.size w w' := by
 obtain ⟨a, cap, rfl, _⟩ := h.form
 have H := hide h
 have HS := hide hsh
 clear h hsh
 generalize hn : rs.length = m at *
 have HN := hide hn
 clear hn
 go_enter Tryz.func102, Tryz.ntmps102
 go_wp2
 go_loopw [3, 4] (fun o i wr => ∃ k : Nat, k ≤ m ∧ i = .int .i64 k ∧ RowQ w.heap.size 137 27 5 3 wr o (rs.take k) ∧ Below w.heap.size w wr) (fun _ i _ => m - (intOf i).toNat)
 case atStart => exact ⟨0, Nat.zero_le _, rfl, by simpa using RowQ.nil _ _ _ _ _ _, Below.refl _ _⟩
 case round =>
  obtain ⟨k, hk, rfl, ho, hb⟩ := hrel
  by_cases hlt : k < m
  ·obtain ⟨b, off, na, nc, ta, tc, xa, xc, ia, ic, rfl, hbl, hc, hR⟩ := ((unhide H).below hb).here (k := k) (by rw [unhide HN]; exact hlt)
   have hsk := unhide HS k hlt
   have htk := hide (show rs.take (k + 1) = rs.take k ++ [rs.getD k recZ] by rw [List.take_succ_eq_append_getElem (by rw [unhide HN]; exact hlt)]; simp [show k < rs.length by rw [unhide HN]; exact hlt])
   have htl : (rs.take k).length = k := by rw [List.length_take, unhide HN]; omega
   obtain ⟨c0, c1, c2, c3, c4, c5, c6⟩ := range7 hc
   generalize rs.getD k recZ = r at *
   generalize rs.take k = rk at *
   obtain ⟨oa, oc, hv, _⟩ := ho.form
   rw [htl] at hv
   subst hv
   have HO := hide ho
   have HL := hide (l3own_has hR (drawn_of_short hsk.1) (drawn_of_short hsk.2.1) hsk.2.2.1 hsk.2.2.2)
   have zB := hb.size
   clear ho hR hsk hc
   go_wp2_with fail
   clear c0 c1 c2 c3 c4 c5 c6
   refine (unhide HL).mono ?_
   rintro e w1 ⟨un, ut, ux, ui, rfl, o1, o2, o3, o4, b1⟩
   obtain ⟨pa, pc, rfl, _⟩ := o1.hasL.form
   obtain ⟨qa, qc, rfl, _⟩ := o2.hasL.form
   obtain ⟨ya, yc, rfl, _⟩ := o3.lies
   obtain ⟨za, zc, rfl, _⟩ := o4.lies
   have ba := below_alloc (w := w1) (.cells #[.slice pa r.name.length pc, .int .i64 r.type, .int .i64 r.ttl, .int .i64 r.addr, .slice qa r.to.length qc, .slice ya r.text.length yc, .slice za r.nums.length zc] 137)
   have g1 := heap_alloc_new w1 (.cells #[.slice pa r.name.length pc, .int .i64 r.type, .int .i64 r.ttl, .int .i64 r.addr, .slice qa r.to.length qc, .slice ya r.text.length yc, .slice za r.nums.length zc] 137)
   have OQ := hide ((⟨o1.mono (by omega), o2.mono (by omega), o3.mono (by omega), o4.mono (by omega)⟩ : OwnQ w.heap.size 27 5 3 w1 (.slice pa r.name.length pc) (.slice qa r.to.length qc) (.slice ya r.text.length yc) (.slice za r.nums.length zc) r).below ba)
   have HO2 := hide (((unhide HO).below b1).below ba)
   have bb := below_next (below_next hb b1) ba
   have z1 := b1.size
   have z2 := ba.size
   obtain ⟨xs0, hx0, hx1⟩ := unhide HO2
   rw [htl] at hx0
   clear o1 o2 o3 o4 b1 ba HL HO
   go_wp2_with (at_builtin; refine append_rec' rfl _ _ 34 137 rfl Tryz.underlying34 _ info_rrQ rfl w.heap.size (.slice oa k oc) k rfl w1.heap.size [.slice pa r.name.length pc, .int .i64 r.type, .int .i64 r.ttl, .int .i64 r.addr, .slice qa r.to.length qc, .slice ya r.text.length yc, .slice za r.nums.length zc] rfl ⟨xs0, hx0⟩ g1 rfl (by simp [Value.oneCell']) (by omega) (by simp; omega) ?_)
   intro v2 w2 h2 g2 hw2
   have row2 := RowQ.snoc (by decide) (by decide) (by decide) (unhide HO2) (unhide OQ) g2 (by rw [htl]; exact h2)
   rw [← unhide htk] at row2
   have bb2 := bb.grown g2 bb.size (fun j e => (World.ownsRow.lt hx0 j e).1)
   clear hx0 hx1 h2 g2 hw2 OQ HO2 g1 bb
   go_wp2
   exact ⟨⟨k + 1, by omega, by go_num, row2, bb2⟩, by simp [intOf]; omega⟩
  ·obtain rfl : k = m := by omega
   have hall : rs.take k = rs := List.take_of_length_le (by rw [unhide HN]; exact Nat.le_refl _)
   rw [hall] at ho
   clear hall
   go_wp2
   go_ret
   exact ⟨_, rfl, ho, hb⟩
end Go.Proofs.YtjgfljndeolmoaaGreat
