/-
  Plain facts: a record as lists and numbers, and how it lies in memory. No program is named here. Contract of the program's Reverse.
-/
import Derived.Test.YtkmjghecjlgjpaaDoorFnReverseG09
import Derived.Test.YtkmjghecjlgjpaaDoorFnReverseG01
import Derived.Test.YtkmjghecjlgjpaaDoorFnReverseG04
import Derived.Test.YtkmjghecjlgjpaaDoorFnReverseG06
import Derived.Test.YtkmjghecjlgjpaaDoorFnReverseG07
import Derived.Test.YtkmjghecjlgjpaaDoorFnReverseG08
import Derived.Lib.SlBytesConst
namespace Go.Proofs.YtkmjghecjlgjpaaDoor
open Go.RowKit

/-- A record. -/
structure Rec where
  name : List (List Int)
  type : Int
  ttl : Int
  addr : Int
  to : List (List Int)
  text : List Int
  nums : List Int

/-- A record that came in. -/
structure InR (w : World) (an ato ax ai : Option Addr) (r : Rec) : Prop where
  name : LiesL w an r.name
  to : LiesL w ato r.to
  text : Lies w ax r.text
  nums : LiesI w ai r.nums
theorem InR.below {w w' : World} {an ato ax ai : Option Addr} {r : Rec} (h : InR w an ato ax ai r) (hb : Below w.heap.size w w') : InR w' an ato ax ai r := ⟨h.name.below hb, h.to.below hb, h.text.below hb, h.nums.below hb⟩

/-- How long its lists are. -/
structure SizeR (m : Nat) (r : Rec) : Prop where
  name : r.name.length ≤ m
  names : ∀ i, i < r.name.length → (r.name.getD i []).length ≤ m
  to : r.to.length ≤ m
  tos : ∀ i, i < r.to.length → (r.to.getD i []).length ≤ m
  text : r.text.length ≤ m
  nums : r.nums.length ≤ m
theorem SizeR.mono {m m' : Nat} {r : Rec} (h : SizeR m r) (hm : m ≤ m') : SizeR m' r :=
  ⟨Nat.le_trans h.name hm, fun i hi => Nat.le_trans (h.names i hi) hm, Nat.le_trans h.to hm, fun i hi => Nat.le_trans (h.tos i hi) hm, Nat.le_trans h.text hm, Nat.le_trans h.nums hm⟩

/-- The slices of a record's lists have them. -/
structure HasR (w : World) (vn vt vx vi : Value) (r : Rec) : Prop where
  name : HasL w vn r.name
  to : HasL w vt r.to
  text : Has w vx r.text
  nums : HasI w vi r.nums
theorem HasR.below {w w' : World} {vn vt vx vi : Value} {r : Rec} (h : HasR w vn vt vx vi r) (hb : Below w.heap.size w w') : HasR w' vn vt vx vi r := ⟨h.name.below hb, h.to.below hb, h.text.below hb, h.nums.below hb⟩

/-- The record's lists are owned, in blocks of B .. E - 1, each list in a stretch of its own. -/
def OwnR (B E : Nat) (el eb ei : TypeId) (w : World) (vn vt vx vi : Value) (r : Rec) : Prop :=
  ∃ s1 s2 s3, B ≤ s1 ∧ s1 ≤ s2 ∧ s2 ≤ s3 ∧ s3 ≤ E ∧ OwnN B s1 el eb w vn r.name ∧ OwnN s1 s2 el eb w vt r.to ∧ OwnB s2 s3 eb w vx r.text ∧ OwnBI s3 E ei w vi r.nums
theorem OwnR.hasR {B E : Nat} {el eb ei : TypeId} {w : World} {vn vt vx vi : Value} {r : Rec} (h : OwnR B E el eb ei w vn vt vx vi r) : HasR w vn vt vx vi r := by
  obtain ⟨s1, s2, s3, _, _, _, _, h1, h2, h3, h4⟩ := h
  exact ⟨h1.hasL, h2.hasL, h3.has, h4.has⟩
theorem OwnR.below {B E : Nat} {el eb ei : TypeId} {w w' : World} {vn vt vx vi : Value} {r : Rec} (h : OwnR B E el eb ei w vn vt vx vi r) (hb : Below w.heap.size w w') : OwnR B E el eb ei w' vn vt vx vi r := by
  obtain ⟨s1, s2, s3, a1, a2, a3, a4, h1, h2, h3, h4⟩ := h
  exact ⟨s1, s2, s3, a1, a2, a3, a4, h1.below hb, h2.below hb, h3.below hb, h4.below hb⟩
theorem OwnR.outside {B E C D : Nat} {el eb ei : TypeId} {w w' : World} {vn vt vx vi : Value} {r : Rec} (h : OwnR B E el eb ei w vn vt vx vi r) (u : Outside C D w w') (hd : E ≤ C ∨ D ≤ B) : OwnR B E el eb ei w' vn vt vx vi r := by
  obtain ⟨s1, s2, s3, a1, a2, a3, a4, h1, h2, h3, h4⟩ := h
  exact ⟨s1, s2, s3, a1, a2, a3, a4, h1.outside u (by omega), h2.outside u (by omega), h3.outside u (by omega), h4.outside u (by omega)⟩

/-- A block of seven cells, as the walk reads it. -/
theorem cells7 {w : World} {b : Nat} {c0 c1 c2 c3 c4 c5 c6 : Value} {t : TypeId} (h : w.heap[b]? = some (.cells #[c0, c1, c2, c3, c4, c5, c6] t)) :
    w.cell? ⟨b, 0, none⟩ = some c0 ∧ w.cell? ⟨b, 1, none⟩ = some c1 ∧ w.cell? ⟨b, 2, none⟩ = some c2 ∧ w.cell? ⟨b, 3, none⟩ = some c3 ∧ w.cell? ⟨b, 4, none⟩ = some c4 ∧ w.cell? ⟨b, 5, none⟩ = some c5 ∧ w.cell? ⟨b, 6, none⟩ = some c6 :=
  ⟨block_cell h 0, block_cell h 1, block_cell h 2, block_cell h 3, block_cell h 4, block_cell h 5, block_cell h 6⟩
theorem frozen7 {w : World} {b : Nat} {c : Array Value} {t : TypeId} (h : w.heap[b]? = some (.cells c t)) :
    w.frozen? ⟨b, 0, none⟩ = false ∧ w.frozen? ⟨b, 1, none⟩ = false ∧ w.frozen? ⟨b, 2, none⟩ = false ∧ w.frozen? ⟨b, 3, none⟩ = false ∧ w.frozen? ⟨b, 4, none⟩ = false ∧ w.frozen? ⟨b, 5, none⟩ = false ∧ w.frozen? ⟨b, 6, none⟩ = false :=
  ⟨block_frozen h 0, block_frozen h 1, block_frozen h 2, block_frozen h 3, block_frozen h 4, block_frozen h 5, block_frozen h 6⟩
theorem block_setAt {w : World} {b : Nat} {c : Array Value} {t : TypeId} (h : w.heap[b]? = some (.cells c t)) (i : Nat) (v : Value) : (w.setCell ⟨b, i, none⟩ v).heap[b]? = some (.cells (c.setIfInBounds i v) t) := by
  simp [World.setCell, Array.getElem?_modify, h]

theorem outside_set (w : World) (b i : Nat) (v : Value) : Outside b (b + 1) w (w.setCell ⟨b, i, none⟩ v) := outside_grown (grown_setCell w ⟨b, i, none⟩ v) (fun k hk => by simp at hk; omega)
theorem Outside.wide {B E B' E' : Nat} {w w' : World} (h : Outside B E w w') (hB : B' ≤ B) (hE : E ≤ E') : Outside B' E' w w' := ⟨h.os, h.tape, h.output, h.size, fun k hk hn => h.block k hk (by omega)⟩
theorem OwnN.wide {C E C' E' : Nat} {el eb : TypeId} {w : World} {v : Value} {n : List (List Int)} (h : OwnN C E el eb w v n) (hC : C' ≤ C) (hE : E ≤ E') : OwnN C' E' el eb w v n := by
  obtain ⟨vs, ho, hu, hd, hv, he⟩ := h
  refine ⟨vs, ownsRow_mono ho hC, fun i hi => ?_, hd, fun q hq => Nat.lt_of_lt_of_le (hv q hq) hE, fun i u q h1 h2 => Nat.lt_of_lt_of_le (he i u q h1 h2) hE⟩
  obtain ⟨x, h1, h2⟩ := hu i hi
  exact ⟨x, h1, h2.mono hC⟩
theorem OwnB.wide {C E C' E' : Nat} {e : TypeId} {w : World} {v : Value} {l : List Int} (h : OwnB C E e w v l) (hC : C' ≤ C) (hE : E ≤ E') : OwnB C' E' e w v l := ⟨h.1.mono hC, fun q hq => Nat.lt_of_lt_of_le (h.2 q hq) hE⟩
theorem OwnBI.wide {C E C' E' : Nat} {e : TypeId} {w : World} {v : Value} {l : List Int} (h : OwnBI C E e w v l) (hC : C' ≤ C) (hE : E ≤ E') : OwnBI C' E' e w v l := ⟨h.1.mono hC, fun q hq => Nat.lt_of_lt_of_le (h.2 q hq) hE⟩
/-- The same cells, elsewhere. -/
theorem set7h {w0 : World} {b : Nat} {c0 c1 c2 c3 c4 c5 c6 a0 a1 a2 a3 a4 a5 a6 : Value} {t : TypeId} (h0 : w0.heap[b]? = some (.cells #[a0, a1, a2, a3, a4, a5, a6] t)) :
    (((((((w0.setCell ⟨b, 0, none⟩ c0).setCell ⟨b, 1, none⟩ c1).setCell ⟨b, 2, none⟩ c2).setCell ⟨b, 3, none⟩ c3).setCell ⟨b, 4, none⟩ c4).setCell ⟨b, 5, none⟩ c5).setCell ⟨b, 6, none⟩ c6).heap[b]? = some (.cells #[c0, c1, c2, c3, c4, c5, c6] t) := by
  have h1 : (w0.setCell ⟨b, 0, none⟩ c0).heap[b]? = some (.cells #[c0, a1, a2, a3, a4, a5, a6] t) := block_setAt h0 0 c0
  generalize w0.setCell ⟨b, 0, none⟩ c0 = w1 at h1 ⊢
  have h2 : (w1.setCell ⟨b, 1, none⟩ c1).heap[b]? = some (.cells #[c0, c1, a2, a3, a4, a5, a6] t) := block_setAt h1 1 c1
  generalize w1.setCell ⟨b, 1, none⟩ c1 = w2 at h2 ⊢
  have h3 : (w2.setCell ⟨b, 2, none⟩ c2).heap[b]? = some (.cells #[c0, c1, c2, a3, a4, a5, a6] t) := block_setAt h2 2 c2
  generalize w2.setCell ⟨b, 2, none⟩ c2 = w3 at h3 ⊢
  have h4 : (w3.setCell ⟨b, 3, none⟩ c3).heap[b]? = some (.cells #[c0, c1, c2, c3, a4, a5, a6] t) := block_setAt h3 3 c3
  generalize w3.setCell ⟨b, 3, none⟩ c3 = w4 at h4 ⊢
  have h5 : (w4.setCell ⟨b, 4, none⟩ c4).heap[b]? = some (.cells #[c0, c1, c2, c3, c4, a5, a6] t) := block_setAt h4 4 c4
  generalize w4.setCell ⟨b, 4, none⟩ c4 = w5 at h5 ⊢
  have h6 : (w5.setCell ⟨b, 5, none⟩ c5).heap[b]? = some (.cells #[c0, c1, c2, c3, c4, c5, a6] t) := block_setAt h5 5 c5
  generalize w5.setCell ⟨b, 5, none⟩ c5 = w6 at h6 ⊢
  have h7 : (w6.setCell ⟨b, 6, none⟩ c6).heap[b]? = some (.cells #[c0, c1, c2, c3, c4, c5, c6] t) := block_setAt h6 6 c6
  exact h7
theorem set7 {w0 : World} {b : Nat} {c0 c1 c2 c3 c4 c5 c6 a0 a1 a2 a3 a4 a5 a6 : Value} {t : TypeId} (h0 : w0.heap[b]? = some (.cells #[a0, a1, a2, a3, a4, a5, a6] t)) :
    (((((((w0.setCell ⟨b, 0, none⟩ c0).setCell ⟨b, 1, none⟩ c1).setCell ⟨b, 2, none⟩ c2).setCell ⟨b, 3, none⟩ c3).setCell ⟨b, 4, none⟩ c4).setCell ⟨b, 5, none⟩ c5).setCell ⟨b, 6, none⟩ c6).heap[b]? = some (.cells #[c0, c1, c2, c3, c4, c5, c6] t) ∧ Outside b (b + 1) w0 (((((((w0.setCell ⟨b, 0, none⟩ c0).setCell ⟨b, 1, none⟩ c1).setCell ⟨b, 2, none⟩ c2).setCell ⟨b, 3, none⟩ c3).setCell ⟨b, 4, none⟩ c4).setCell ⟨b, 5, none⟩ c5).setCell ⟨b, 6, none⟩ c6) :=
  ⟨set7h h0, ((((((outside_set _ _ _ _).trans (outside_set _ _ _ _)).trans (outside_set _ _ _ _)).trans (outside_set _ _ _ _)).trans (outside_set _ _ _ _)).trans (outside_set _ _ _ _)).trans (outside_set _ _ _ _)⟩
end Go.Proofs.YtkmjghecjlgjpaaDoor

namespace Go.Proofs.YtkmjghecjlgjpaaDoor
open Go.RowKit
set_option linter.unusedVariables false
set_option linter.unusedSimpArgs false

theorem info_slI : (Tryd.prog.info? 22).map (fun i => (i.zero, i.size, i.bytes)) = some (some (.slice none 0 0), 1, 24) := by kernel_rfl
set_option maxHeartbeats 600000 in
set_option maxRecDepth 100000 in
theorem implReverse_yes (n : Int) (w : World) (h0 : 0 ≤ n) (h1 : n ≤ 4294967295) (ht : Pow10 w) :
    Calls Tryd.prog 9 #[.int .i64 n] w fun e w' => ∃ v', e = .returned (.tuple #[.agg #[v'], .bool true]) ∧ OwnNF (w.heap.size + 2) w'.heap.size 22 5 w' v' (revN n) ∧ Below w.heap.size w w' := by
  have HT := hide ht
  clear ht
  obtain ⟨hsz, k0, r0⟩ := box2 w (.cells #[.slice none 0 0] 26) #[.slice none 0 0] 26
  have b0 := below2 w (.cells #[.slice none 0 0] 26) (.cells #[.slice none 0 0] 26)
  go_enter Tryd.func9, Tryd.ntmps9
  go_wp2_with fail
  refine (upTo_yes _ h0 h1).mono ?_
  rintro e wu ⟨rfl, rfl⟩
  go_wp2_with fail
  have K0 := hide k0
  have R0 := hide r0
  have zz := block_lt r0
  clear k0 r0 hsz
  generalize (w.alloc (.cells #[.slice none 0 0] 26)).alloc (.cells #[.slice none 0 0] 26) = W at *
  refine (implPut32_yes (B := 0) (v := .slice none 0 0) (l := []) n (World.ownsRow_nil _ _ _ _) (by simp) h0 h1).mono ?_
  rintro e w1 ⟨v1, rfl, o1, b1⟩
  rw [List.nil_append] at o1
  obtain ⟨g, cap, cur, rfl, hg0, hgb, hgc⟩ : ∃ g cap cur, v1 = .slice (some ⟨g, 0, none⟩) 4 cap ∧ W.heap.size ≤ g ∧ w1.heap[g]? = some (.cells cur 5) ∧ ∀ i, i < 4 → cur[i]? = some (.int .u8 (part n i)) := by
    rcases o1.2 with ⟨_, he⟩ | ⟨g, cap, cur, rfl, hB, hg, hlen, hm, hs, htake⟩
    · simp at he
    · refine ⟨g, cap, cur, rfl, hB, hg, fun i hi => ?_⟩
      have := World.ownsRow.cellAt o1 i (by simpa using hi)
      rw [block_cell hg i] at this
      rw [this]
      match i, hi with
      | 0, _ => rfl
      | 1, _ => rfl
      | 2, _ => rfl
      | 3, _ => rfl
  have bb1 := below_next b0 b1
  have K1 := hide (block_kept b1 (unhide K0))
  have R1 := hide (block_kept b1 (unhide R0))
  have HGC := hide hgc
  have HGB := hide hgb
  have z1 := b1.size
  clear o1 b1 b0 K0 R0 hgc hgb
  go_wp2_with fail
  go_loopw [6] (fun i wr => ∃ (j : Nat) (o : Value), j ≤ 4 ∧ i = .int .i64 (3 - j) ∧ wr.heap[w.heap.size]? = some (.cells #[.slice none 0 0] 26) ∧ wr.heap[w.heap.size + 1]? = some (.cells #[o] 26) ∧ OwnL (w.heap.size + 2) 22 5 wr o (revL n j) ∧ Below w.heap.size w wr ∧ wr.heap[g]? = some (.cells cur 5)) (fun i _ => (intOf i + 1).toNat)
  case atStart => exact ⟨0, .slice none 0 0, Nat.zero_le _, rfl, unhide K1, unhide R1, ⟨[], World.ownsRow_nil _ _ _ _, fun i hi => absurd hi (by simp [revL]), by simp⟩, bb1, unhide HGB⟩
  case round =>
    obtain ⟨j, o, hj, rfl, hr1, hr2, ho, hb, hgk⟩ := hrel
    by_cases hlt : j < 4
    · have HRL := hide (show revL n (j + 1) = revL n j ++ [digs (part n (3 - j))] from rfl)
      have hpb := part_bd n (3 - j) h0 h1
      have hrl := revL_length n j
      generalize hrv : revL n j = nk at *
      obtain ⟨oa, oc, hov, _⟩ := ho.hasL.form
      rw [hrl] at hov
      subst hov
      have hod := ho.below (below_drew (w := wr))
      clear ho hrv
      obtain ⟨vs, hvs, hva, hvd⟩ := hod
      have hvl : vs.length = j := by have := hvs.1; rw [hrl] at this; simpa using this
      have HVS2 := hide hvs
      rw [hrl] at hvs
      have kd2 := block_kept (below_drew (w := wr)) hr2
      have kd1 := block_kept (below_drew (w := wr)) hr1
      have bd := below_next hb (below_drew (w := wr))
      have cod := block_one kd2
      have HVS := hide hvs
      have HVA := hide hva
      have HVD := hide hvd
      have z3 := block_lt hr2
      have zb : w.heap.size + 2 ≤ wr.drew.heap.size := by show w.heap.size + 2 ≤ wr.heap.size; omega
      clear hva hvd hvs
      have KD2 := hide kd2
      have KD1 := hide kd1
      have HJ := hide (And.intro hj hlt)
      have q0 : (0 : Int) ≤ 3 - j := by omega
      have q1 : (3 : Int) - j < 4 := by omega
      have q2 : ((3 : Int) - j).toNat = 3 - j := by omega
      have kg := block_kept (below_drew (w := wr)) hgk
      have cg : wr.drew.cell? ⟨g, 3 - j, none⟩ = some (.int .u8 (part n (3 - j))) := by rw [block_cell kg]; exact unhide HGC (3 - j) (by omega)
      have KG := hide kg
      have HGX := hide (unhide HGC (3 - j) (by omega))
      generalize hxx : part n (3 - j) = x at *
      generalize hlab : digs x = lab at *
      have HLAB := hide hlab
      have HX := hide hpb
      have hll : lab.length ≤ 3 := by rw [← hlab]; exact (digs_length x hpb.1 hpb.2).2
      have DG : Hid (Calls Tryd.prog 39 #[.slice none 0 0, .int .i64 x, .int .i64 10] wr.drew fun e w' => ∃ v', e = .returned v' ∧ Own wr.drew.heap.size 5 w' v' lab ∧ Below wr.drew.heap.size wr.drew w') := hide (by
        have := appendInt_own (B := wr.drew.heap.size) (v := .slice none 0 0) (l := []) x (World.ownsRow_nil _ _ _ _) (by simp) hpb.1 hpb.2 (Nat.le_refl _) (Lib.tabBelow_of_tabIs ((unhide HT).below bd))
        rw [List.nil_append, hlab] at this
        exact this)
      have hcx : IntKind.i64.wrap x = x := by rw [show x = ((x.toNat : Nat) : Int) by omega]; exact wrap_small _ (by omega)
      clear kd2 kd1 hlab hxx kg hgk
      go_wp2_with fail
      go_region_law (first
        | (refine step_append_row rfl (.tmp 21) (.tmp 28) 24 22 rfl Tryd.underlying24 info_slI (w.heap.size + 2) (.slice oa j oc) _ vs [.slice u1a lab.length u1c] (by simp [Act.eval]) (by simp [Act.eval]) (by rw [hvl]; exact World.ownsRow.alloc (ownsRow_kept' (unhide HVS) (unhide B1)) _) (one_more w1 22 _) (by intro y hy; simp at hy; subst hy; rfl) (by rw [hvl]; simp; omega) (by have := (unhide B1).size; simp; omega) ?_; intro v2 w2 o2 g2; obtain ⟨p2, k2, y2⟩ := snoc_step g2 o2 rfl (unhide HVS2) (unhide HVA) (unhide HVD) ((unhide B1).alloc (unhide B1).size _) ((unhide OU).alloc _) zb (by decide) (block_kept (below_alloc _) (block_kept (unhide B1) (unhide KD2))) (by decide); obtain ⟨v2a, v2c, rfl, _⟩ := p2.hasL.form; have co2 := block_one k2; have fo2 := block_frozen k2 0)
        | (go_simp; go_at_call 39; refine (unhide DG).mono ?_; rintro e w1 ⟨u1, rfl, ou, b1⟩; obtain ⟨u1a, u1c, rfl, _⟩ := (show Own wr.drew.heap.size 5 w1 u1 lab from ou).lies; have OU : Hid (Own wr.drew.heap.size 5 w1 (.slice u1a lab.length u1c) lab) := hide ou; have B1 := hide b1; have cg1 : w1.cell? ⟨g, 3 - j, none⟩ = some (.int .u8 x) := (block_cell (block_kept b1 (unhide KG)) (3 - j)).trans (unhide HGX); have cg2 : ∀ o, (w1.alloc o).cell? ⟨g, 3 - j, none⟩ = some (.int .u8 x) := (fun o => (block_cell (block_kept (below_alloc o) (block_kept b1 (unhide KG))) (3 - j)).trans (unhide HGX)); have co1 := block_one (block_kept b1 (unhide KD2)); have ca1 : ∀ o, (w1.alloc o).cell? ⟨w.heap.size + 1, 0, none⟩ = some (.slice oa j oc) := (fun o => block_one (block_kept (below_alloc o) (block_kept b1 (unhide KD2)))); clear ou b1))
      all_goals
        go_wp2_with fail
        have hW2 := World.ownsRow.alloc (ownsRow_kept' (unhide HVS) (unhide B1)) (.cells #[.slice u1a lab.length u1c] 22)
        have kgA := block_kept (below_alloc (w := w1) (.cells #[.slice u1a lab.length u1c] 22)) (block_kept (unhide B1) (unhide KG))
        have kg2 := block_grown g2 kgA (row_apart hW2 kgA (by decide))
        have k1 := (y2.block w.heap.size (by omega)).trans (unhide KD1)
        have hj4 := unhide HJ
        refine ⟨⟨j + 1, _, by omega, by go_num, block_other k1 (by omega) 0 _, block_set k2 _, ?_, (bd.trans (y2.mono (by omega))).setCell (by show w.heap.size ≤ w.heap.size + 1; omega) _, block_other kg2 (by omega) 0 _⟩, by simp [intOf]; omega⟩
        rw [unhide HRL]
        simp only [List.length_append, List.length_cons, List.length_nil, hrl] at p2
        exact p2.kept (grown_setCell _ _ _) (by show w.heap.size + 1 < _; omega)
    · have hj4 : j = 4 := by omega
      have HRN := hide (show revL n j ++ [[105, 110, 45, 97, 100, 100, 114], [97, 114, 112, 97]] = revN n by rw [hj4]; rfl)
      have hrl := revL_length n j
      have lk : ¬ ((0 : Int) ≤ 3 - j) := by omega
      have HJ4 := hide hj
      generalize hrv : revL n j = nk at *
      obtain ⟨oa, oc, hov, _⟩ := ho.hasL.form
      rw [hrl] at hov
      subst hov
      have z3 := block_lt hr2
      have zb : w.heap.size + 2 ≤ wr.heap.size := by omega
      have bA := below_alloc (w := wr) (.cells #[.int .u8 105, .int .u8 110, .int .u8 45, .int .u8 97, .int .u8 100, .int .u8 100, .int .u8 114] 5 (7, 8))
      have eA : (wr.alloc (.cells #[.int .u8 105, .int .u8 110, .int .u8 45, .int .u8 97, .int .u8 100, .int .u8 100, .int .u8 114] 5 (7, 8))).heap.size = wr.heap.size + 1 := by show (wr.heap.push _).size = _; simp
      have bB := below_alloc (w := wr.alloc (.cells #[.int .u8 105, .int .u8 110, .int .u8 45, .int .u8 97, .int .u8 100, .int .u8 100, .int .u8 114] 5 (7, 8))) (.cells #[.int .u8 97, .int .u8 114, .int .u8 112, .int .u8 97] 5 (4, 5))
      have eB : ((wr.alloc (.cells #[.int .u8 105, .int .u8 110, .int .u8 45, .int .u8 97, .int .u8 100, .int .u8 100, .int .u8 114] 5 (7, 8))).alloc (.cells #[.int .u8 97, .int .u8 114, .int .u8 112, .int .u8 97] 5 (4, 5))).heap.size = wr.heap.size + 1 + 1 := by show ((wr.heap.push _).push _).size = _; simp
      have bR := below_alloc (w := (wr.alloc (.cells #[.int .u8 105, .int .u8 110, .int .u8 45, .int .u8 97, .int .u8 100, .int .u8 100, .int .u8 114] 5 (7, 8))).alloc (.cells #[.int .u8 97, .int .u8 114, .int .u8 112, .int .u8 97] 5 (4, 5))) (.cells #[.slice (some ⟨wr.heap.size, 0, none⟩) 7 7, .slice (some ⟨wr.heap.size + 1, 0, none⟩) 4 4] 22)
      have C1 : OwnC (w.heap.size + 2) 5 (wr.alloc (.cells #[.int .u8 105, .int .u8 110, .int .u8 45, .int .u8 97, .int .u8 100, .int .u8 100, .int .u8 114] 5 (7, 8))) (.slice (some ⟨wr.heap.size, 0, none⟩) 7 7) [105, 110, 45, 97, 100, 100, 114] := own_constC wr (w.heap.size + 2) 5 [105, 110, 45, 97, 100, 100, 114] zb (by simp [maxLen])
      have C2 : OwnC (w.heap.size + 2) 5 ((wr.alloc (.cells #[.int .u8 105, .int .u8 110, .int .u8 45, .int .u8 97, .int .u8 100, .int .u8 100, .int .u8 114] 5 (7, 8))).alloc (.cells #[.int .u8 97, .int .u8 114, .int .u8 112, .int .u8 97] 5 (4, 5))) (.slice (some ⟨wr.heap.size + 1, 0, none⟩) 4 4) [97, 114, 112, 97] := by
        have := own_constC (wr.alloc (.cells #[.int .u8 105, .int .u8 110, .int .u8 45, .int .u8 97, .int .u8 100, .int .u8 100, .int .u8 114] 5 (7, 8))) (w.heap.size + 2) 5 [97, 114, 112, 97] (by omega) (by simp [maxLen])
        rw [eA] at this
        exact this
      have bABR := below_next (below_next bA bB) bR
      have hR : ∀ j y, [Value.slice (some ⟨wr.heap.size, 0, none⟩) 7 7, .slice (some ⟨wr.heap.size + 1, 0, none⟩) 4 4][j]? = some y → (((wr.alloc (.cells #[.int .u8 105, .int .u8 110, .int .u8 45, .int .u8 97, .int .u8 100, .int .u8 100, .int .u8 114] 5 (7, 8))).alloc (.cells #[.int .u8 97, .int .u8 114, .int .u8 112, .int .u8 97] 5 (4, 5))).alloc (.cells #[.slice (some ⟨wr.heap.size, 0, none⟩) 7 7, .slice (some ⟨wr.heap.size + 1, 0, none⟩) 4 4] 22)).cell? ((⟨wr.heap.size + 1 + 1, 0, none⟩ : Addr).add j) = some y := fun j y hj => by
        have hb := heap_alloc_new ((wr.alloc (.cells #[.int .u8 105, .int .u8 110, .int .u8 45, .int .u8 97, .int .u8 100, .int .u8 100, .int .u8 114] 5 (7, 8))).alloc (.cells #[.int .u8 97, .int .u8 114, .int .u8 112, .int .u8 97] 5 (4, 5))) (.cells #[.slice (some ⟨wr.heap.size, 0, none⟩) 7 7, .slice (some ⟨wr.heap.size + 1, 0, none⟩) 4 4] 22)
        rw [eB] at hb
        rw [Addr.add_lit, Nat.zero_add, block_cell hb j]
        rw [← hj]
        simp
      have D1 : OwnC (w.heap.size + 2) 5 (((wr.alloc (.cells #[.int .u8 105, .int .u8 110, .int .u8 45, .int .u8 97, .int .u8 100, .int .u8 100, .int .u8 114] 5 (7, 8))).alloc (.cells #[.int .u8 97, .int .u8 114, .int .u8 112, .int .u8 97] 5 (4, 5))).alloc (.cells #[.slice (some ⟨wr.heap.size, 0, none⟩) 7 7, .slice (some ⟨wr.heap.size + 1, 0, none⟩) 4 4] 22)) (.slice (some ⟨wr.heap.size, 0, none⟩) 7 7) [105, 110, 45, 97, 100, 100, 114] := (C1.below bB).below bR
      have D2 : OwnC (w.heap.size + 2) 5 (((wr.alloc (.cells #[.int .u8 105, .int .u8 110, .int .u8 45, .int .u8 97, .int .u8 100, .int .u8 100, .int .u8 114] 5 (7, 8))).alloc (.cells #[.int .u8 97, .int .u8 114, .int .u8 112, .int .u8 97] 5 (4, 5))).alloc (.cells #[.slice (some ⟨wr.heap.size, 0, none⟩) 7 7, .slice (some ⟨wr.heap.size + 1, 0, none⟩) 4 4] 22)) (.slice (some ⟨wr.heap.size + 1, 0, none⟩) 4 4) [97, 114, 112, 97] := C2.below bR
      obtain ⟨vs, hvs, hva, hvd⟩ := ho
      have hvl : vs.length = j := by have := hvs.1; rw [hrl] at this; simpa using this
      have HAP := hide (fun (i : Nat) (x : Value) (hx : vs[i]? = some x) => (show ∀ q, x.ownBlock = some q → q < wr.heap.size from fun q hq => by
        have hi := (List.getElem?_eq_some_iff.1 hx).1
        obtain ⟨u, h1, h2⟩ := hva i (by omega)
        rw [hx] at h1
        obtain rfl := Option.some.inj h1
        exact (h2.lt q hq).2))
      have VS := hide (ownsRow_kept' hvs bABR)
      have VA := hide (fun i (hi : i < nk.length) => let ⟨x, h1, h2⟩ := hva i hi; (⟨x, h1, h2.below bABR⟩ : ∃ x, vs[i]? = some x ∧ Own (w.heap.size + 2) 5 (((wr.alloc (.cells #[.int .u8 105, .int .u8 110, .int .u8 45, .int .u8 97, .int .u8 100, .int .u8 100, .int .u8 114] 5 (7, 8))).alloc (.cells #[.int .u8 97, .int .u8 114, .int .u8 112, .int .u8 97] 5 (4, 5))).alloc (.cells #[.slice (some ⟨wr.heap.size, 0, none⟩) 7 7, .slice (some ⟨wr.heap.size + 1, 0, none⟩) 4 4] 22)) x (nk.getD i [])))
      have VD := hide hvd
      have HR := hide hR
      have HD1 := hide D1
      have HD2 := hide D2
      have HVL := hide hvl
      have HRL := hide hrl
      have K1 := hide (block_kept bABR hr1)
      have K2 := hide (block_kept bABR hr2)
      have BB7 := hide (below_next hb bABR)
      have c2 := block_one hr2
      have cA : ∀ o, (wr.alloc o).cell? ⟨w.heap.size + 1, 0, none⟩ = some (.slice oa j oc) := fun o => block_one (block_kept (below_alloc o) hr2)
      have EB := hide eB
      have zR := hide bABR.size
      have hcid := fun (w : World) (C : Array Value) (n c : Nat) => Lib.run_convert_bytes_const (P := Tryd.prog) w 22 5 C n c Tryd.underlying22 Tryd.underlying5
      have hcB := hcid (wr.alloc (.cells #[.int .u8 105, .int .u8 110, .int .u8 45, .int .u8 97, .int .u8 100, .int .u8 100, .int .u8 114] 5 (7, 8))) #[.int .u8 97, .int .u8 114, .int .u8 112, .int .u8 97] 4 4
      rw [eA] at hcB
      clear bA bB bR eA eB C1 C2 D1 D2 hR hvs hva hvd bABR hr1 hr2 hb hrv hj4 hlt hj hvl hrl
      go_wp2_with (at_builtin; generalize ((wr.alloc (.cells #[.int .u8 105, .int .u8 110, .int .u8 45, .int .u8 97, .int .u8 100, .int .u8 100, .int .u8 114] 5 (7, 8))).alloc (.cells #[.int .u8 97, .int .u8 114, .int .u8 112, .int .u8 97] 5 (4, 5))).alloc (.cells #[.slice (some ⟨wr.heap.size, 0, none⟩) 7 7, .slice (some ⟨wr.heap.size + 1, 0, none⟩) 4 4] 22) = W7 at *; (refine append_row rfl (.tmp 32) (.tmp 37) 24 22 rfl Tryd.underlying24 info_slI (w.heap.size + 2) (.slice oa j oc) (.slice (some ⟨wr.heap.size + 1 + 1, 0, none⟩) 2 2) vs [.slice (some ⟨wr.heap.size, 0, none⟩) 7 7, .slice (some ⟨wr.heap.size + 1, 0, none⟩) 4 4] rfl rfl (by have := unhide VS; rw [unhide HVL]; rw [unhide HRL] at this; exact this) (.inr ⟨_, 2, rfl, unhide HR⟩) (by simp [Value.oneCell']) (by have := unhide HJ4; rw [unhide HVL]; simp; omega) (by have := unhide zR; omega) ?_))
      intro v9 w9 o9 g9
      have NF := rev_row (unhide VS) (unhide VA) (unhide VD) (unhide HD1) (unhide HD2) (by simp [Value.ownBlock]) (fun i x hx => by cases hq : x.ownBlock with
        | none => exact .inl rfl
        | some q => right; intro e; have := unhide HAP i x hx q hq; simp [Value.ownBlock] at e; omega) (fun i x hx => by cases hq : x.ownBlock with
        | none => exact .inl rfl
        | some q => right; intro e; have := unhide HAP i x hx q hq; simp [Value.ownBlock] at e; omega) (by have := o9; rw [unhide HVL] at this; rw [unhide HRL]; exact this) g9 (by decide)
      rw [unhide HRN] at NF
      have k9 := block_grown g9 (unhide K2) (row_apart (unhide VS) (unhide K2) (by decide))
      have k8 := block_grown g9 (unhide K1) (row_apart (unhide VS) (unhide K1) (by decide))
      have b9 := (unhide BB7).grown g9 (by have := unhide zR; omega) (fun k hk => by have := ((unhide VS).lt k hk).1; omega)
      have z9 := g9.size
      obtain ⟨va, vc, hv9, _⟩ := NF.hasL.form
      generalize hRL : (revN n).length = rl at *
      subst hv9
      have c9 := block_one k9
      have f9 := block_frozen k9 0
      have c8 := block_one k8
      have f8 := block_frozen k8 0
      have u1 := outside_set w9 (w.heap.size + 1) 0 (.slice va rl vc)
      have K8 := u1.kept k8 (by omega)
      have KF := hide (block_set K8 (.slice va rl vc))
      have u2 := outside_set (w9.setCell ⟨w.heap.size + 1, 0, none⟩ (.slice va rl vc)) w.heap.size 0 (.slice va rl vc)
      have NF2 := hide ((NF.outside u1 (by omega)).outside u2 (by omega))
      have BF := hide (u2.below (u1.below b9 (by omega)) (by omega))
      have ZF := hide (Nat.le_trans u1.size u2.size)
      clear u1 u2 K8 NF g9 o9 k8 k9 b9
      go_wp2_with fail
      clear c9 f9 c8 f8
      refine bodyPost_ret (results_cell_tmp_row rfl _ _ w.heap.size 26 #[.slice va rl vc] (0, 0) _ rfl (unhide KF) Tryd.underlying26 rfl (by kernel_rfl)) rfl ?_
      exact ⟨_, rfl, (unhide NF2).wide (Nat.le_refl _) (unhide ZF), unhide BF⟩
set_option maxHeartbeats 600000 in
set_option maxRecDepth 100000 in
theorem implReverse_no (n : Int) (w : World) (hn : n < 0 ∨ 4294967295 < n) :
    Calls Tryd.prog 9 #[.int .i64 n] w fun e w' => e = .returned (.tuple #[.agg #[.slice none 0 0], .bool false]) ∧ Below w.heap.size w w' := by
  have b0 := below_alloc (w := w) (.cells #[.slice none 0 0] 26)
  have K0 := hide (heap_alloc_new w (.cells #[.slice none 0 0] 26))
  go_enter Tryd.func9, Tryd.ntmps9
  go_wp2_with fail
  refine (upTo_no _ hn).mono ?_
  rintro e wu ⟨rfl, rfl⟩
  go_wp2_with fail
  refine bodyPost_ret (results_cell_tmp_row rfl _ _ w.heap.size 26 #[.slice none 0 0] (0, 0) _ rfl (unhide K0) Tryd.underlying26 rfl (by kernel_rfl)) rfl ?_
  exact ⟨rfl, b0⟩
theorem implReverse_own (n : Int) {w : World} (ht : Pow10 w) :
    Calls Tryd.prog 9 #[.int .i64 n] w fun e w' => ∃ v', e = .returned (.tuple #[.agg #[v'], .bool (revOk n)]) ∧ OwnNF w.heap.size w'.heap.size 22 5 w' v' (revOf n) ∧ Below w.heap.size w w' := by
  cases hok : revOk n with
  | true =>
    have hn : 0 ≤ n ∧ n ≤ 4294967295 := by unfold revOk at hok; simpa using hok
    rw [show revOf n = revN n by unfold revOf; rw [hok]; rfl]
    exact (implReverse_yes n w hn.1 hn.2 ht).mono fun e w' ⟨v', h1, h2, h3⟩ => ⟨v', h1, h2.wide (by omega) (Nat.le_refl _), h3⟩
  | false =>
    have hn : n < 0 ∨ 4294967295 < n := by unfold revOk at hok; simp at hok; omega
    rw [show revOf n = [] by unfold revOf; rw [hok]; rfl]
    exact (implReverse_no n w hn).mono fun e w' ⟨h1, h2⟩ => ⟨_, h1, ownNF_nil _ _ _ _ _, h2⟩
end Go.Proofs.YtkmjghecjlgjpaaDoor
