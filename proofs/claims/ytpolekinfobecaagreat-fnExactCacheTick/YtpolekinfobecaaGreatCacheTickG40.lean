/-
  Plain facts: a row of records that a slice owns, whose lists are owned wherever they lie. No program is named here. Plain facts: slots whose lists are owned in a stretch of blocks, wherever they lie in it. No program is named here. Contracts of the specification's l2own: a name of its own with the same labels. Plain facts: the store of a struct of seven cells, and steps of a region whose order is open. Plain facts: how long a drawn name is. No program is named here.
-/
import Derived.Test.YtpolekinfobecaaGreatCacheTickG06
import Derived.Test.YtpolekinfobecaaGreatCacheTickG10
import Derived.Test.YtpolekinfobecaaGreatCacheTickG08
import Derived.Test.YtpolekinfobecaaGreatCacheTickG31
import Derived.Test.YtpolekinfobecaaGreatCacheTickG02
import Derived.Test.YtpolekinfobecaaGreatCacheTickG07
import Derived.Test.YtpolekinfobecaaGreatCacheTickG05
import Derived.Test.YtpolekinfobecaaGreatCacheTickG03
import Derived.Deep.RegionHeld3
import Derived.Deep.MidRow
import Derived.Test.YtpolekinfobecaaGreatCacheTickG01
namespace Go.Proofs.YtpolekinfobecaaGreat
open Go.RowKit
set_option linter.unusedVariables false

/-- The four lists of a record are owned, in blocks from B on. -/
structure OwnQ (B : Nat) (el eb ei : TypeId) (w : World) (vn vt vx vi : Value) (r : Rec) : Prop where
  name : OwnL B el eb w vn r.name
  to : OwnL B el eb w vt r.to
  text : Own B eb w vx r.text
  nums : OwnI B ei w vi r.nums
theorem OwnQ.hasR {B : Nat} {el eb ei : TypeId} {w : World} {vn vt vx vi : Value} {r : Rec} (h : OwnQ B el eb ei w vn vt vx vi r) : HasR w vn vt vx vi r := ⟨h.name.hasL, h.to.hasL, h.text.has, h.nums.has⟩
theorem OwnQ.below {B : Nat} {el eb ei : TypeId} {w w' : World} {vn vt vx vi : Value} {r : Rec} (h : OwnQ B el eb ei w vn vt vx vi r) (hb : Below w.heap.size w w') : OwnQ B el eb ei w' vn vt vx vi r := ⟨h.name.below hb, h.to.below hb, h.text.below hb, h.nums.below hb⟩
theorem OwnQ.mono {B B' : Nat} {el eb ei : TypeId} {w : World} {vn vt vx vi : Value} {r : Rec} (h : OwnQ B el eb ei w vn vt vx vi r) (hB : B' ≤ B) : OwnQ B' el eb ei w vn vt vx vi r := ⟨h.name.mono hB, h.to.mono hB, h.text.mono hB, h.nums.mono hB⟩
theorem ownsRow_off {B n s : Nat} {e : TypeId} {w w' : World} {v : Value} {xs : List Value} {row : Option Nat} (h : w.ownsRow B e s v n xs) (hg : w.grownBy w' row) (hr : ∀ q, row = some q → ∃ c t, w.heap[q]? = some (.cells c t) ∧ t ≠ e) : w'.ownsRow B e s v n xs := by
  refine World.ownsRow.kept h hg ?_
  cases hv : v.ownBlock with
  | none => exact .inl rfl
  | some k =>
    right
    intro e1
    obtain ⟨c, t, h1, h2⟩ := hr k e1.symm
    rcases h.2 with ⟨rfl, _⟩ | ⟨g, cap, cur, rfl, _, hg', _⟩
    · simp [Value.ownBlock] at hv
    · simp [Value.ownBlock] at hv
      subst hv
      rw [hg'] at h1
      cases h1
      exact h2 rfl
theorem OwnL.offR {B : Nat} {el eb : TypeId} {w w' : World} {v : Value} {n : List (List Int)} {row : Option Nat} (h : OwnL B el eb w v n) (hg : w.grownBy w' row) (hr : ∀ q, row = some q → ∃ c t, w.heap[q]? = some (.cells c t) ∧ t ≠ el ∧ t ≠ eb) : OwnL B el eb w' v n := by
  obtain ⟨vs, ho, hu, hd⟩ := h
  refine ⟨vs, ownsRow_off ho hg (fun q e => by obtain ⟨c, t, h1, h2, h3⟩ := hr q e; exact ⟨c, t, h1, h2⟩), fun i hi => ?_, hd⟩
  obtain ⟨x, h1, h2⟩ := hu i hi
  exact ⟨x, h1, ownsRow_off h2 hg (fun q e => by obtain ⟨c, t, h1, h2, h3⟩ := hr q e; exact ⟨c, t, h1, h3⟩)⟩
theorem OwnQ.offR {B : Nat} {el eb ei : TypeId} {w w' : World} {vn vt vx vi : Value} {r : Rec} {row : Option Nat} (h : OwnQ B el eb ei w vn vt vx vi r) (hg : w.grownBy w' row) (hr : ∀ q, row = some q → ∃ c t, w.heap[q]? = some (.cells c t) ∧ t ≠ el ∧ t ≠ eb ∧ t ≠ ei) : OwnQ B el eb ei w' vn vt vx vi r :=
  ⟨h.name.offR hg (fun q e => by obtain ⟨c, t, h1, h2, h3, h4⟩ := hr q e; exact ⟨c, t, h1, h2, h3⟩), h.to.offR hg (fun q e => by obtain ⟨c, t, h1, h2, h3, h4⟩ := hr q e; exact ⟨c, t, h1, h2, h3⟩),
   ownsRow_off h.text hg (fun q e => by obtain ⟨c, t, h1, h2, h3, h4⟩ := hr q e; exact ⟨c, t, h1, h3⟩), ownsRow_off h.nums hg (fun q e => by obtain ⟨c, t, h1, h2, h3, h4⟩ := hr q e; exact ⟨c, t, h1, h4⟩)⟩

/-- The slice v owns a row of these records; their lists are owned, too. -/
def RowQ (B : Nat) (er el eb ei : TypeId) (w : World) (v : Value) (rs : List Rec) : Prop :=
  ∃ xs, w.ownsRow B er 7 v rs.length xs ∧ ∀ i, i < rs.length → ∃ vn vt vx vi, (∀ j u, (cellsR vn vt vx vi (rs.getD i recZ))[j]? = some u → xs[i * 7 + j]? = some u) ∧ OwnQ B el eb ei w vn vt vx vi (rs.getD i recZ)
theorem RowQ.nil (B : Nat) (er el eb ei : TypeId) (w : World) : RowQ B er el eb ei w (.slice none 0 0) [] := ⟨[], World.ownsRow_nil _ _ _ _, fun i hi => absurd hi (by simp)⟩
theorem RowQ.has {B : Nat} {er el eb ei : TypeId} {w : World} {v : Value} {rs : List Rec} (h : RowQ B er el eb ei w v rs) : HasRs w v rs := by
  obtain ⟨xs, ho, hx⟩ := h
  have ho' := ho
  rcases ho.2 with ⟨rfl, hn⟩ | ⟨b, cap, cur, rfl, hB, hg, hn, hm, hs, ht⟩
  · exact .inl ⟨rfl, List.eq_nil_of_length_eq_zero hn⟩
  · refine .inr ⟨b, 0, cap, rfl, block_lt hg, hn, hm, fun i hi => ?_⟩
    obtain ⟨vn, vt, vx, vi, q1, q2⟩ := hx i hi
    refine ⟨vn, vt, vx, vi, fun j u hj => ?_, q2.hasR⟩
    have hj7 := cells_lt hj
    rw [Nat.zero_add, World.ownsRow.cellAt ho' (i * 7 + j) (by omega)]
    exact q1 j u hj
theorem RowQ.form {B : Nat} {er el eb ei : TypeId} {w : World} {v : Value} {rs : List Rec} (h : RowQ B er el eb ei w v rs) : ∃ a cap, v = .slice a rs.length cap ∧ rs.length ≤ cap ∧ cap ≤ maxLen := h.has.form
theorem RowQ.below {B : Nat} {er el eb ei : TypeId} {w w' : World} {v : Value} {rs : List Rec} (h : RowQ B er el eb ei w v rs) (hb : Below w.heap.size w w') : RowQ B er el eb ei w' v rs := by
  obtain ⟨xs, ho, hx⟩ := h
  refine ⟨xs, row_later ho hb, fun i hi => ?_⟩
  obtain ⟨vn, vt, vx, vi, q1, q2⟩ := hx i hi
  exact ⟨vn, vt, vx, vi, q1, q2.below hb⟩
theorem RowQ.mono {B B' : Nat} {er el eb ei : TypeId} {w : World} {v : Value} {rs : List Rec} (h : RowQ B er el eb ei w v rs) (hB : B' ≤ B) : RowQ B' er el eb ei w v rs := by
  obtain ⟨xs, ho, hx⟩ := h
  refine ⟨xs, ⟨ho.1, ?_⟩, fun i hi => ?_⟩
  · rcases ho.2 with hn | ⟨b, cap, cur, hv, hb, rest⟩
    · exact .inl hn
    · exact .inr ⟨b, cap, cur, hv, Nat.le_trans hB hb, rest⟩
  · obtain ⟨vn, vt, vx, vi, q1, q2⟩ := hx i hi
    exact ⟨vn, vt, vx, vi, q1, q2.mono hB⟩
theorem RowQ.off {B q : Nat} {er el eb ei t : TypeId} {w w' : World} {v : Value} {rs : List Rec} {c : Array Value} (h : RowQ B er el eb ei w v rs) (hk : w.heap[q]? = some (.cells c t)) (h1 : t ≠ er) (h2 : t ≠ el) (h3 : t ≠ eb) (h4 : t ≠ ei) (hg : w.grownBy w' (some q)) : RowQ B er el eb ei w' v rs := by
  obtain ⟨xs, ho, hx⟩ := h
  refine ⟨xs, ownsRow_off ho hg (fun k e => by cases e; exact ⟨c, t, hk, h1⟩), fun i hi => ?_⟩
  obtain ⟨vn, vt, vx, vi, q1, q2⟩ := hx i hi
  exact ⟨vn, vt, vx, vi, q1, q2.offR hg (fun k e => by cases e; exact ⟨c, t, hk, h2, h3, h4⟩)⟩
/-- One record more. -/
theorem RowQ.snoc {B : Nat} {er el eb ei : TypeId} {W w' : World} {v v' : Value} {rs : List Rec} {r : Rec} {vn vt vx vi : Value} (h1 : er ≠ el) (h2 : er ≠ eb) (h3 : er ≠ ei) (h : RowQ B er el eb ei W v rs)
    (hr : OwnQ B el eb ei W vn vt vx vi r) (hg : W.grownBy w' v.ownBlock)
    (ho : ∀ xs, W.ownsRow B er 7 v rs.length xs → w'.ownsRow B er 7 v' (rs.length + 1) (xs ++ cellsR vn vt vx vi r)) : RowQ B er el eb ei w' v' (rs ++ [r]) := by
  obtain ⟨xs, h0, hx⟩ := h
  have ho' := ho xs h0
  have hlen : xs.length = rs.length * 7 := h0.1
  have hrow : ∀ q, v.ownBlock = some q → ∃ c t, W.heap[q]? = some (.cells c t) ∧ t ≠ el ∧ t ≠ eb ∧ t ≠ ei := fun q e => by
    rcases h0.2 with ⟨rfl, _⟩ | ⟨g, cap, cur, rfl, _, hg', _⟩
    · simp [Value.ownBlock] at e
    · simp [Value.ownBlock] at e
      subst e
      exact ⟨cur, er, hg', h1, h2, h3⟩
  refine ⟨xs ++ cellsR vn vt vx vi r, by rw [List.length_append]; exact ho', fun i hi => ?_⟩
  rw [List.length_append] at hi
  simp only [List.length_cons, List.length_nil] at hi
  by_cases hlt : i < rs.length
  · obtain ⟨un, ut, ux, ui, q1, q2⟩ := hx i hlt
    have e1 : (rs ++ [r]).getD i recZ = rs.getD i recZ := by rw [List.getD_eq_getElem?_getD, List.getElem?_append_left hlt, ← List.getD_eq_getElem?_getD]
    rw [e1]
    refine ⟨un, ut, ux, ui, fun j u hj => ?_, q2.offR hg hrow⟩
    have hj7 := cells_lt hj
    rw [List.getElem?_append_left (by omega)]
    exact q1 j u hj
  · obtain rfl : i = rs.length := by omega
    have e1 : (rs ++ [r]).getD rs.length recZ = r := by rw [List.getD_eq_getElem?_getD]; simp
    rw [e1]
    refine ⟨vn, vt, vx, vi, fun j u hj => ?_, hr.offR hg hrow⟩
    rw [List.getElem?_append_right (by omega), hlen, Nat.add_sub_cancel_left]
    exact hj
end Go.Proofs.YtpolekinfobecaaGreat

namespace Go.Proofs.YtpolekinfobecaaGreat
open Go.RowKit
set_option linter.unusedVariables false

theorem OwnL.after {B : Nat} {el eb : TypeId} {w w' : World} {v : Value} {n : List (List Int)} (h : OwnL B el eb w v n) (u : Outside 0 B w w') : OwnL B el eb w' v n := by
 obtain ⟨vs, ho, hu, hd⟩ := h
 refine ⟨vs, ownsRow_out ho u (fun q e => .inr (World.ownsRow.lt ho q e).1), fun i hi => ?_, hd⟩
 obtain ⟨x, h1, h2⟩ := hu i hi
 exact ⟨x, h1, ownsRow_out h2 u (fun q e => .inr (World.ownsRow.lt h2 q e).1)⟩
theorem OwnQ.after {B : Nat} {el eb ei : TypeId} {w w' : World} {vn vt vx vi : Value} {r : Rec} (h : OwnQ B el eb ei w vn vt vx vi r) (u : Outside 0 B w w') : OwnQ B el eb ei w' vn vt vx vi r :=
 ⟨h.name.after u, h.to.after u, ownsRow_out h.text u (fun q e => .inr (World.ownsRow.lt h.text q e).1), ownsRow_out h.nums u (fun q e => .inr (World.ownsRow.lt h.nums q e).1)⟩
theorem RowQ.after {B : Nat} {er el eb ei : TypeId} {w w' : World} {v : Value} {rs : List Rec} (h : RowQ B er el eb ei w v rs) (u : Outside 0 B w w') : RowQ B er el eb ei w' v rs := by
 obtain ⟨xs, ho, hx⟩ := h
 refine ⟨xs, ownsRow_out ho u (fun q e => .inr (World.ownsRow.lt ho q e).1), fun i hi => ?_⟩
 obtain ⟨vn, vt, vx, vi, q1, q2⟩ := hx i hi
 exact ⟨vn, vt, vx, vi, q1, q2.after u⟩
/-- A slot's cells, its lists owned in blocks of B .. E - 1. -/
def OwnSQ (er el eb ei : TypeId) (B E : Nat) (w : World) (vs : List Value) (x : Slt) : Prop := ∃ vn vr, vs = [vn, .int .i64 x.type, .int .i64 x.kind, vr, .int .i64 x.rank, .int .i64 x.till, .int .i64 x.used] ∧
 ∃ B0 w0, B ≤ B0 ∧ w0.heap.size ≤ E ∧ Outside 0 B0 w0 w ∧ OwnL B0 el eb w0 vn x.name ∧ RowQ B0 er el eb ei w0 vr x.rrs
theorem OwnSQ.has {er el eb ei : TypeId} {B E : Nat} {w : World} {vs : List Value} {x : Slt} (h : OwnSQ er el eb ei B E w vs x) : HasSl w vs x := by
 obtain ⟨vn, vr, h1, B0, w0, _, _, u, h2, h3⟩ := h
 exact ⟨vn, vr, h1, (h2.after u).hasL, (h3.after u).has⟩
theorem ownsSQ (er el eb ei : TypeId) : OwnsG 7 (OwnSQ er el eb ei) where
 cells := fun h => by obtain ⟨vn, vr, rfl, _⟩ := h; rfl
 below := fun h hb => by obtain ⟨vn, vr, h1, B0, w0, h2, h3, u, h4⟩ := h; exact ⟨vn, vr, h1, B0, w0, h2, h3, u.trans ⟨hb.os, hb.tape, hb.output, hb.size, fun k hk _ => hb.block k hk⟩, h4⟩
 outside := fun h u hd => by
  obtain ⟨vn, vr, h1, B0, w0, h2, h3, v, h4⟩ := h
  refine ⟨vn, vr, h1, B0, w0, h2, h3, ⟨u.os.trans v.os, u.tape.trans v.tape, u.output.trans v.output, Nat.le_trans v.size u.size, fun k hk hor => ?_⟩, h4⟩
  have hs := v.size
  exact (u.block k (by omega) (by omega)).trans (v.block k hk hor)
 wide := fun h h1 h2 => by obtain ⟨vn, vr, h3, B0, w0, h4, h5, h6⟩ := h; exact ⟨vn, vr, h3, B0, w0, Nat.le_trans h1 h4, Nat.le_trans h5 h2, h6⟩
end Go.Proofs.YtpolekinfobecaaGreat

namespace Go.Proofs.YtpolekinfobecaaGreat
open Go.RowKit
set_option linter.unusedVariables false

theorem info_sl2 : (Tryz.prog.info? 53).map (fun i => (i.zero, i.size, i.bytes)) = some (some (.slice none 0 0), 1, 24) := by kernel_rfl

set_option maxHeartbeats 2000000 in
set_option maxRecDepth 100000 in
theorem l2own_short {v : Value} {n : List (List Int)} {w : World} (h : HasL w v n) (hs : n.length ≤ 7) (hs2 : ∀ k, k < n.length → (n.getD k []).length ≤ 16) :
  Calls Tryz.prog 37 #[.agg #[v]] w fun e w' => ∃ v', e = .returned (.agg #[v']) ∧ OwnL w.heap.size 53 5 w' v' n ∧ Below w.heap.size w w' := by
 obtain ⟨a, cap, rfl, hcl, hcm⟩ := h.form
 unfold maxLen at hcm
 obtain ⟨hsz, h1, h2⟩ := box3 w (.cells #[.slice a n.length cap] 44) #[.slice none 0 0] #[.slice none 0 0] 44 44
 have bb : Below w.heap.size w (((w.alloc (.cells #[.slice a n.length cap] 44)).alloc (.cells #[.slice none 0 0] 44)).alloc (.cells #[.slice none 0 0] 44)) :=
  ((below_alloc _).alloc (below_alloc _).size _).alloc ((below_alloc _).alloc (below_alloc _).size _).size _
 have hbx : (((w.alloc (.cells #[.slice a n.length cap] 44)).alloc (.cells #[.slice none 0 0] 44)).alloc (.cells #[.slice none 0 0] 44)).heap[w.heap.size]? = some (.cells #[.slice a n.length cap] 44) :=
  block_kept (below_alloc _) (block_kept (below_alloc _) (heap_alloc_new w _))
 have H := hide h
 clear h
 have HS2 := hide hs2
 clear hs2
 generalize hn : n.length = m at *
 have HN := hide hn
 clear hn
 go_enter Tryz.func37, Tryz.ntmps37
 go_wp2
 generalize ((w.alloc (.cells #[.slice a m cap] 44)).alloc (.cells #[.slice none 0 0] 44)).alloc (.cells #[.slice none 0 0] 44) = W at *
 go_loopw [4] (fun i wr => ∃ (k : Nat) (o : Value), k ≤ m ∧ i = .int .i64 k ∧ wr.heap[w.heap.size]? = some (.cells #[.slice a m cap] 44) ∧ wr.heap[w.heap.size + 1]? = some (.cells #[.slice none 0 0] 44) ∧ wr.heap[w.heap.size + 1 + 1]? = some (.cells #[o] 44) ∧ OwnL (w.heap.size + 3) 53 5 wr o (n.take k) ∧ Below w.heap.size w wr) (fun i _ => m - (intOf i).toNat)
 case atStart => exact ⟨0, .slice none 0 0, Nat.zero_le _, rfl, hbx, h1, h2, ⟨[], by simpa using World.ownsRow_nil _ _ _ _, by simp, by simp⟩, bb⟩
 case round =>
  obtain ⟨k, o, hk, rfl, hr0, hr1, hr2, ho, hb⟩ := hrel
  have c0 := block_one hr0
  by_cases hlt : k < m
  ·obtain ⟨b, off, u, rfl, hbl, hc, hu⟩ := ((unhide H).below hb).here (k := k) (by rw [unhide HN]; exact hlt)
   have hlk := unhide HS2 k hlt
   have htk := hide (show n.take (k + 1) = n.take k ++ [n.getD k []] by rw [List.take_succ_eq_append_getElem (by rw [unhide HN]; exact hlt)]; simp [show k < n.length by rw [unhide HN]; exact hlt])
   have htl : (n.take k).length = k := by rw [List.length_take, unhide HN]; omega
   generalize n.getD k [] = lab at *
   generalize n.take k = nk at *
   subst htl
   have HU := hide hu
   obtain ⟨ua, uc, rfl, _⟩ := hu.form
   clear hu
   obtain ⟨oa, oc, rfl, _⟩ := ho.hasL.form
   have hod := ho.below (below_drew (w := wr))
   clear ho
   have HO := hide hod
   obtain ⟨vs, hvs, hva, hvd⟩ := hod
   have hvl : vs.length = nk.length := by have := hvs.1; simpa using this
   have kd2 := block_kept (below_drew (w := wr)) hr2
   have kd1 := block_kept (below_drew (w := wr)) hr1
   have bd := below_next hb (below_drew (w := wr))
   have cod := block_one kd2
   have HUd := hide ((unhide HU).below below_drew)
   have HVS := hide hvs
   have HVA := hide hva
   have HVD := hide hvd
   have z3 := block_lt hr2
   have zb : w.heap.size + 3 ≤ wr.drew.heap.size := by show w.heap.size + 3 ≤ wr.heap.size; omega
   clear hva hvd hvs
   have kd0 := block_kept (below_drew (w := wr)) hr0
   have KD0 := hide kd0
   have KD2 := hide kd2
   have KD1 := hide kd1
   have cd0 := block_one kd0
   have cul : wr.drew.cell? ⟨b, off + nk.length, none⟩ = some (.slice ua lab.length uc) := hc
   have ca0 : ∀ o, (wr.alloc o).cell? ⟨w.heap.size, 0, none⟩ = some (.slice (some ⟨b, off, none⟩) m cap) := fun o => block_one (block_kept (below_alloc o) hr0)
   have ca2 : ∀ o, (wr.alloc o).cell? ⟨w.heap.size + 1 + 1, 0, none⟩ = some (.slice oa nk.length oc) := fun o => block_one (block_kept (below_alloc o) hr2)
   have cau : ∀ o, (wr.alloc o).cell? ⟨b, off + nk.length, none⟩ = some (.slice ua lab.length uc) := fun o => ((below_alloc o).cell (p := ⟨b, off + nk.length, none⟩) hbl).trans hc
   have HUA := hide (show ∀ o, Has (wr.drew.alloc o) (.slice ua lab.length uc) lab from fun o => (unhide HUd).below (below_alloc o))
   clear kd2 kd1 kd0
   go_wp2_with fail
   go_region_law (first
    | (refine step_append_bytes rfl (.tmp 14) (.tmp 19) 53 5 rfl Tryz.underlying53 info_u8 wr.drew.heap.size _ _ [] lab (by simp [Act.eval]) (by simp [Act.eval]) (own_lit wr.drew wr.drew.heap.size 5 [] (Nat.le_refl _) (by simp)) (unhide HUA _).reads (by simp only [List.length_nil]; omega) (below_alloc _).size ?_; intro u1 w1 ou g1; have b1 := lit_grown (w := wr.drew) g1; obtain ⟨u1a, u1c, rfl, _⟩ := ou.lies; have OU := hide ou; have B1 := hide b1; have co1 := block_one (block_kept b1 (unhide KD2)); have ca1 : ∀ o, (w1.alloc o).cell? ⟨w.heap.size + 1 + 1, 0, none⟩ = some (.slice oa nk.length oc) := (fun o => block_one (block_kept (below_alloc o) (block_kept b1 (unhide KD2)))); clear ou b1 g1)
    | (refine step_append_row rfl (.tmp 13) (.tmp 21) 42 53 rfl Tryz.underlying42 info_sl2 (w.heap.size + 3) (.slice oa nk.length oc) _ vs [.slice u1a lab.length u1c] (by simp [Act.eval]) (by simp [Act.eval]) (by rw [hvl]; exact World.ownsRow.alloc (ownsRow_kept' (unhide HVS) (unhide B1)) _) (one_more w1 53 _) (by intro y hy; simp at hy; subst hy; rfl) (by rw [hvl]; simp; omega) (by have := (unhide B1).size; simp; omega) ?_; intro v2 w2 o2 g2; obtain ⟨p2, k2, y2⟩ := snoc_step g2 o2 rfl (unhide HVS) (unhide HVA) (unhide HVD) ((unhide B1).alloc (unhide B1).size _) ((unhide OU).alloc _) zb (by decide) (block_kept (below_alloc _) (block_kept (unhide B1) (unhide KD2))) (by decide); obtain ⟨v2a, v2c, rfl, _⟩ := p2.hasL.form; have co2 := block_one k2; have fo2 := block_frozen k2 0))
   all_goals
    go_wp2_with fail
    have k1 := (y2.block (w.heap.size + 1) (by omega)).trans (unhide KD1)
    have k0 := (y2.block w.heap.size (by omega)).trans (unhide KD0)
    refine ⟨⟨nk.length + 1, _, by omega, by go_num, block_other k0 (by omega) 0 _, block_other k1 (by omega) 0 _, block_set k2 _, ?_, (bd.trans (y2.mono (by omega))).setCell (by show w.heap.size ≤ w.heap.size + 1 + 1; omega) _⟩, by simp [intOf]; omega⟩
    rw [unhide htk]
    simp only [List.length_append, List.length_cons, List.length_nil] at p2
    exact p2.kept (grown_setCell _ _ _) (by show w.heap.size + 1 + 1 < _; omega)
  ·obtain rfl : k = m := by omega
   obtain ⟨oa, oc, rfl, _⟩ := ho.hasL.form
   have htk : n.take k = n := List.take_of_length_le (by rw [unhide HN]; omega)
   rw [htk] at ho
   have HLK := hide (show (n.take k).length = n.length by rw [htk])
   rw [unhide HLK] at hr2
   have HO := hide ho
   have c2 := block_one hr2
   have c1 := block_one hr1
   have f1 := block_frozen hr1 0
   have M1 := hide (block_set hr1 (.slice oa n.length oc))
   clear ho htk hr1 hr2 HLK
   go_wp2
   refine bodyPost_ret (results_cell_row rfl _ _ (w.heap.size + 1) 44 #[.slice oa n.length oc] (0, 0) _ rfl (unhide M1) Tryz.underlying44 rfl (by kernel_rfl)) rfl ?_
   exact ⟨_, rfl, ((unhide HO).kept (grown_setCell _ _ _) (by show w.heap.size + 1 < _; omega)).mono (by omega), hb.setCell (by show w.heap.size ≤ w.heap.size + 1; omega) _⟩
theorem l2own_has {v : Value} {n : List (List Int)} {w : World} (h : HasL w v n) (hs : n.length ≤ 6) (hs2 : ∀ k, k < n.length → (n.getD k []).length ≤ 15) :
  Calls Tryz.prog 37 #[.agg #[v]] w fun e w' => ∃ v', e = .returned (.agg #[v']) ∧ OwnL w.heap.size 53 5 w' v' n ∧ Below w.heap.size w w' :=
 l2own_short h (Nat.le_trans hs (by decide)) (fun k hk => Nat.le_trans (hs2 k hk) (by decide))
end Go.Proofs.YtpolekinfobecaaGreat

namespace Go.Proofs.YtpolekinfobecaaGreat
open Go.RowKit
set_option linter.unusedVariables false

theorem there7 {w : World} {b : Nat} {c0 c1 c2 c3 c4 c5 c6 : Value} {t : TypeId} (h : w.heap[b]? = some (.cells #[c0, c1, c2, c3, c4, c5, c6] t)) : w.there b 0 7 := by
 intro j hj
 obtain ⟨f0, f1, f2, f3, f4, f5, f6⟩ := cells7 h
 rw [Nat.zero_add]
 refine ⟨?_, block_frozen h j⟩
 match j, hj with
 | 0, _ => rw [f0]; rfl
 | 1, _ => rw [f1]; rfl
 | 2, _ => rw [f2]; rfl
 | 3, _ => rw [f3]; rfl
 | 4, _ => rw [f4]; rfl
 | 5, _ => rw [f5]; rfl
 | 6, _ => rw [f6]; rfl
theorem wp_store7 {P : Program} {op : Oper} {a : Act} {w : World} {K : Act → World → Prop} {Q : Exit → Act → World → Prop} (ty : TypeId) (x y : Operand) (ho : op.op = .store ty x y)
  (b : Nat) (c0 c1 c2 c3 c4 c5 c6 : Value) {a0 a1 a2 a3 a4 a5 a6 : Value} {t : TypeId} (hx : a.eval x = .pointer (some ⟨b, 0, none⟩)) (hy : a.eval y = .agg #[c0, c1, c2, c3, c4, c5, c6])
  (hk : w.heap[b]? = some (.cells #[a0, a1, a2, a3, a4, a5, a6] t)) (hi : (P.info? ty).map (·.size) = some 7) (h1 : #[c0, c1, c2, c3, c4, c5, c6].all (·.oneCell') = true)
  (h : K (a.put op.dst undef) (((((((w.setCell ⟨b, 0, none⟩ c0).setCell ⟨b, 1, none⟩ c1).setCell ⟨b, 2, none⟩ c2).setCell ⟨b, 3, none⟩ c3).setCell ⟨b, 4, none⟩ c4).setCell ⟨b, 5, none⟩ c5).setCell ⟨b, 6, none⟩ c6)) : op.wp P a w K Q :=
 wp_store_mid ty x y ho b 0 #[c0, c1, c2, c3, c4, c5, c6] hx hy (there7 hk) hi h1 h
end Go.Proofs.YtpolekinfobecaaGreat

namespace Go.Proofs.YtpolekinfobecaaGreat
open Go.RowKit

/-- A drawn name is short. -/
def DrawnN (n : List (List Int)) : Prop := n.length ≤ 7 ∧ ∀ k, k < n.length → (n.getD k []).length ≤ 16
end Go.Proofs.YtpolekinfobecaaGreat
