/-
  Plain facts: what a book does to drop records of a name and a type is what the specification does. No program is named here. Contract of the program's bookOf: the book of a zone's records. Plain facts: a region whose order is open, inside a round of a range over a function, by the laws for one outside. Plain facts: in a region whose order is open, a load may be taken first, even if what waits for it writes the cell that it reads. No program is named here.
-/
import Derived.Test.YtmnlhjdjjinbiaaGreatDropSetG26
import Derived.Test.YtmnlhjdjjinbiaaGreatDropSetG17
import Derived.Test.YtmnlhjdjjinbiaaGreatDropSetG05
import Derived.Test.YtmnlhjdjjinbiaaGreatDropSetG02
import Derived.Test.YtmnlhjdjjinbiaaGreatDropSetG00
import Derived.OrdersIn
import Derived.OrdersHeld
import Derived.RangeFuncCalls
import Derived.TacticsIn
import Derived.RegionTactic
namespace Go.Proofs.YtmnlhjdjjinbiaaGreat
open Go.RowKit
set_option linter.unusedVariables false

/-- What drop does to a book, and what it says: the one record of its type that makes a zone stays. -/
def bkDrop (r : Rec) (B : Bk) : Bk × Bool := if (lookA (keyR r) ((lookA (strOfNums (keyN r.name)) B).getD [])).isSome = true ∧ r.type ≠ 6 then (bkDel (strOfNums (keyN r.name)) (keyR r) B, true) else (B, false)
theorem had_iff {B : Bk} (h : GoodB B) {r : Rec} (hr : rrOk r = true) : (lookA (keyR r) ((lookA (strOfNums (keyN r.name)) B).getD [])).isSome = true ↔ ∃ x, InB B x ∧ cmpR x r = 0 := by
  have hp := h.page (strOfNums (keyN r.name))
  constructor
  · intro hs
    obtain ⟨x, hx⟩ := Option.isSome_iff_exists.1 hs
    have hm := lookA_in hx
    have hk := hp.keys _ hm
    simp only at hk
    obtain ⟨P, p1, p2⟩ := page_of _ B hm
    rw [hk.1] at p2
    exact ⟨x, ⟨_, p1, p2⟩, (cmpR_zero_iff hk.2.1 hr).2 ⟨(keyN_inj (rrOk_parts hr).1 (rrOk_parts hk.2.1).1 hk.2.2).symm, hk.1.symm⟩⟩
  · rintro ⟨x, ⟨q, hq, hm⟩, hc⟩
    have hk := (h.pages q hq).keys _ hm
    simp only at hk
    obtain ⟨e1, e2⟩ := (cmpR_zero_iff hk.2.1 hr).1 hc
    have hl := lookA_mem h.apart (k := q.1) (v := q.2) hq
    rw [hk.2.2, e1] at hl
    rw [hl, Option.getD_some, ← e2, lookA_mem (h.pages q hq).apart hm]
    rfl
theorem bkDrop_good {B : Bk} (h : GoodB B) (r : Rec) : GoodB (bkDrop r B).1 := by
  unfold bkDrop
  split
  · exact h.del _ _
  · exact h
theorem bkDrop_mem {B : Bk} (h : GoodB B) {r : Rec} (hr : rrOk r = true) {x : Rec} (hx : rrOk x = true) : InB (bkDrop r B).1 x ↔ InB B x ∧ ¬ (cmpR x r = 0 ∧ r.type ≠ 6) := by
  unfold bkDrop
  by_cases e : (lookA (keyR r) ((lookA (strOfNums (keyN r.name)) B).getD [])).isSome = true ∧ r.type ≠ 6
  · rw [if_pos e]
    rw [show InB (bkDel (strOfNums (keyN r.name)) (keyR r) B) x ↔ _ from bkDel_mem h hr hx]
    constructor
    · rintro ⟨h1, h2⟩
      exact ⟨h1, fun q => h2 q.1⟩
    · rintro ⟨h1, h2⟩
      exact ⟨h1, fun q => h2 ⟨q, e.2⟩⟩
  · rw [if_neg e]
    constructor
    · intro hx'
      refine ⟨hx', fun q => e ⟨(had_iff h hr).2 ⟨x, hx', q.1⟩, q.2⟩⟩
    · exact fun q => q.1
/-- Several, and how many were there. -/
def dropAll : List Rec → Bk → Bk × Nat
  | [], B => (B, 0)
  | r :: t, B => ((dropAll t (bkDrop r B).1).1, (dropAll t (bkDrop r B).1).2 + if (bkDrop r B).2 = true then 1 else 0)
theorem dropAll_mem : ∀ {L : List Rec} {B : Bk}, GoodB B → (∀ l ∈ L, rrOk l = true) → GoodB (dropAll L B).1 ∧ ∀ {x : Rec}, rrOk x = true → (InB (dropAll L B).1 x ↔ InB B x ∧ ∀ l ∈ L, ¬ (cmpR x l = 0 ∧ l.type ≠ 6))
  | [], B, h, _ => ⟨h, fun {x} _ => by simp [dropAll]⟩
  | l :: t, B, h, hL => by
    have hl := hL l (List.mem_cons_self ..)
    obtain ⟨i1, i2⟩ := dropAll_mem (L := t) (bkDrop_good h l) (fun z hz => hL z (List.mem_cons_of_mem _ hz))
    refine ⟨i1, fun {x} hx => ?_⟩
    show InB (dropAll t (bkDrop l B).1).1 x ↔ _
    rw [i2 hx, bkDrop_mem h hl hx]
    constructor
    · rintro ⟨⟨h1, h2⟩, h3⟩
      refine ⟨h1, fun z hz => ?_⟩
      rcases List.mem_cons.1 hz with rfl | hz
      · exact h2
      · exact h3 z hz
    · rintro ⟨h1, h2⟩
      exact ⟨⟨h1, h2 l (List.mem_cons_self ..)⟩, fun z hz => h2 z (List.mem_cons_of_mem _ hz)⟩
/-- All of a list that is in the book, no two alike: as many as are not the zone's own. -/
theorem dropAll_count : ∀ {L : List Rec} {B : Bk}, GoodB B → (∀ l ∈ L, rrOk l = true ∧ InB B l) → L.Pairwise (fun a b => cmpR a b ≠ 0) → (dropAll L B).2 = (L.filter (fun l => decide (l.type ≠ 6))).length
  | [], B, _, _, _ => rfl
  | l :: t, B, h, hL, hd => by
    obtain ⟨d1, d2⟩ := List.pairwise_cons.1 hd
    have hl := hL l (List.mem_cons_self ..)
    have ih := dropAll_count (L := t) (bkDrop_good h l) (fun z hz => by
      have hz' := hL z (List.mem_cons_of_mem _ hz)
      refine ⟨hz'.1, (bkDrop_mem h hl.1 hz'.1).2 ⟨hz'.2, fun q => ?_⟩⟩
      have := cmpR_swap l z
      exact d1 z hz (by omega)) d2
    show (dropAll t (bkDrop l B).1).2 + _ = _
    rw [ih]
    have hs : (lookA (keyR l) ((lookA (strOfNums (keyN l.name)) B).getD [])).isSome = true := (had_iff h hl.1).2 ⟨l, hl.2, cmpR_self l⟩
    by_cases e : l.type = 6
    · have : (bkDrop l B).2 = false := by unfold bkDrop; rw [if_neg (fun q => q.2 e)]
      rw [this, List.filter_cons_of_neg (by simp [e])]
      simp
    · have : (bkDrop l B).2 = true := by unfold bkDrop; rw [if_pos ⟨hs, e⟩]
      rw [this, List.filter_cons_of_pos (by simp [e])]
      simp
def goneS (n : List (List Int)) (t : Int) (x : Rec) : Bool := selB n t x && decide (x.type ≠ 6)
/-- What DropSet leaves, and how many it takes. -/
theorem droppedSet_sorted {o n : List (List Int)} {rs : List Rec} (hz : zoneOk o rs = true) (hn : nameOk n = true) (t : Int) :
    sortB (dropAll (setB n t (bookZ rs)) (bookZ rs)).1 = rs.filter (fun x => !goneS n t x) ∧ (dropAll (setB n t (bookZ rs)) (bookZ rs)).2 = (rs.filter (goneS n t)).length ∧ GoodB (dropAll (setB n t (bookZ rs)) (bookZ rs)).1 := by
  have hB := bookZ_good hz
  have ms : ∀ x, x ∈ setB n t (bookZ rs) ↔ x ∈ rs ∧ x.name = n ∧ selT t x = true := fun x => by
    rw [mem_setB hB hn, show InB (bookZ rs) x ↔ x ∈ rs from (bookZ_mem hz x).symm]
  have hset : setB n t (bookZ rs) = rs.filter (selB n t) := by
    have := set_is hz hn t
    rw [selK_filter] at this
    rw [← this]
    unfold setB
    rw [show (lookA (strOfNums (keyN n)) (bookZ rs)).getD [] = (ofName n rs).map (fun r => (keyR r, r)) from page_of_zone hz hn]
  have hok : ∀ l ∈ setB n t (bookZ rs), rrOk l = true := fun l hl => oks_of hz l ((ms l).1 hl).1
  obtain ⟨g, hm⟩ := dropAll_mem hB hok
  refine ⟨?_, ?_, g⟩
  · refine sortB_is g ((zone_asc hz).filter _) (fun x => ?_)
    have key : ∀ (hx : x ∈ rs), (selB n t x = true ↔ x.name = n ∧ selT t x = true) := fun hx => by
      have : x ∈ rs.filter (selB n t) ↔ x ∈ rs ∧ x.name = n ∧ selT t x = true := by rw [← hset, ms]
      rw [List.mem_filter] at this
      exact ⟨fun h => (this.1 ⟨hx, h⟩).2, fun h => (this.2 ⟨hx, h⟩).2⟩
    rw [List.mem_filter]
    constructor
    · rintro ⟨h1, h2⟩
      have ho := oks_of hz x h1
      refine (hm ho).2 ⟨(bookZ_mem hz x).1 h1, fun l hl hq => ?_⟩
      have hl' := (ms l).1 hl
      have e := (cmpR_zero_iff ho (hok l hl)).1 hq.1
      have et := cmpR_type hq.1
      have hsel : selB n t x = true := (key h1).2 ⟨e.1.trans hl'.2.1, by have := hl'.2.2; unfold selT at this ⊢; rwa [et]⟩
      have : goneS n t x = true := by
        unfold goneS
        rw [hsel, Bool.true_and, decide_eq_true_iff, et]
        exact hq.2
      rw [this] at h2
      cases h2
    · intro hx
      have ho := InB.ok g hx
      obtain ⟨h1, h2⟩ := (hm ho).1 hx
      have hxr := (bookZ_mem hz x).2 h1
      refine ⟨hxr, ?_⟩
      rw [Bool.not_eq_true']
      cases hgo : goneS n t x with
      | false => rfl
      | true =>
        unfold goneS at hgo
        rw [Bool.and_eq_true, decide_eq_true_iff] at hgo
        exact absurd ⟨cmpR_self x, hgo.2⟩ (h2 x ((ms x).2 ⟨hxr, (key hxr).1 hgo.1⟩))
  · rw [dropAll_count hB (fun l hl => ⟨hok l hl, (bookZ_mem hz l).1 ((ms l).1 hl).1⟩), hset, List.filter_filter]
    · congr 1
      refine List.filter_congr (fun x _ => ?_)
      unfold goneS
      rw [Bool.and_comm]
    · rw [hset]
      exact ((zone_asc hz).filter _).imp (fun {a b} h => by omega)
end Go.Proofs.YtmnlhjdjjinbiaaGreat

namespace Go.Proofs.YtmnlhjdjjinbiaaGreat
open Go.RowKit
set_option linter.unusedVariables false

/-- The book of these records. -/
def bookIn (rs : List Rec) : Bk := rs.foldl (fun B r => bkPut (strOfNums (keyN r.name)) (strOfNums (keyD r)) r B) []
theorem bookIn_snoc (rs : List Rec) (r : Rec) : bookIn (rs ++ [r]) = bkPut (strOfNums (keyN r.name)) (strOfNums (keyD r)) r (bookIn rs) := by simp [bookIn]

set_option maxHeartbeats 2000000 in
set_option maxRecDepth 100000 in
theorem bookOf_has {vo vr : Value} {o : List (List Int)} {rs : List Rec} {w : World} (h : HasZ w vo vr o rs) (hok : ∀ i, i < rs.length → rrOk (rs.getD i recZ) = true) (hlen : rs.length ≤ 1000) :
    Calls Tryz.prog 47 #[.agg #[vo, vr]] w fun e w' => e = .returned (.map (some (w.heap.size + 1))) ∧ BookM w.heap.size w' (w.heap.size + 1) (bookIn rs) ∧ Below w.heap.size w w' := by
  obtain ⟨oa, oc, rfl, _⟩ := h.name.form
  obtain ⟨ra, rc, rfl, _⟩ := h.recs.form
  have b0 := below_alloc (w := w) (.cells #[.slice oa o.length oc, .slice ra rs.length rc] 37)
  have k0 := heap_alloc_new w (.cells #[.slice oa o.length oc, .slice ra rs.length rc] 37)
  have z0 : (w.alloc (.cells #[.slice oa o.length oc, .slice ra rs.length rc] 37)).heap.size = w.heap.size + 1 := World.size_alloc w _
  have hmk := run_makeMap (P := Tryz.prog) 75 (w.alloc (.cells #[.slice oa o.length oc, .slice ra rs.length rc] 37))
  have b1 := below_alloc (w := w.alloc (.cells #[.slice oa o.length oc, .slice ra rs.length rc] 37)) (.map #[] 0)
  have BM := hide (bookM_made (n0 := w.heap.size) (w.alloc (.cells #[.slice oa o.length oc, .slice ra rs.length rc] 37)) (by omega))
  obtain ⟨c0, c1⟩ := cells2 (block_kept b1 k0)
  have bb := below_next b0 b1
  have HT := hide h.recs
  have HOK := hide hok
  clear h hok b0 b1 k0
  generalize hm : rs.length = m at *
  have HM := hide hm
  go_enter Tryz.func47, Tryz.ntmps47
  go_wp2_with fail
  clear c0 c1 hmk hm
  rw [z0] at BM
  clear z0
  generalize (w.alloc (.cells #[.slice oa o.length oc, .slice ra m rc] 37)).alloc (.map #[] 0) = W at *
  go_loopw [10] (fun i wr => ∃ k : Nat, k ≤ m ∧ i = .int .i64 k ∧ BookM w.heap.size wr (w.heap.size + 1) (bookIn (rs.take k)) ∧ Below w.heap.size w wr) (fun i _ => m - (intOf i).toNat)
  case atStart => exact ⟨0, Nat.zero_le _, rfl, by simpa [bookIn] using unhide BM, bb⟩
  case round =>
    obtain ⟨k, hk, rfl, hBk, hbl⟩ := hrel
    by_cases hlt : k < m
    · obtain ⟨b, off, na, nc, ta, tc, xa, xc, ia, ic, rfl, hb1, hc, hR⟩ := (unhide HT).here (k := k) (by rw [unhide HM]; exact hlt)
      have hsk := unhide HOK k hlt
      have htk := hide (show rs.take (k + 1) = rs.take k ++ [rs.getD k recZ] by rw [List.take_succ_eq_append_getElem (by rw [unhide HM]; exact hlt)]; simp [show k < rs.length by rw [unhide HM]; exact hlt])
      obtain ⟨c0, c1, c2, c3, c4, c5, c6⟩ := range7 (range_below hc hb1 hbl)
      generalize rs.getD k recZ = r at *
      have ba := below_alloc (w := wr) (.cells #[.slice na r.name.length nc, .int .i64 r.type, .int .i64 r.ttl, .int .i64 r.addr, .slice ta r.to.length tc, .slice xa r.text.length xc, .slice ia r.nums.length ic] 42)
      obtain ⟨d0, d1, d2, d3, d4, d5, d6⟩ := cells7 (heap_alloc_new wr (.cells #[.slice na r.name.length nc, .int .i64 r.type, .int .i64 r.ttl, .int .i64 r.addr, .slice ta r.to.length tc, .slice xa r.text.length xc, .slice ia r.nums.length ic] 42))
      have HP := hide (bookPut_has (hBk.below ba) ((hR.below hbl).below ba) hsk (Nat.le_trans hbl.size ba.size))
      have HB := hide (below_next hbl ba)
      clear ba hc hR hsk hbl hBk
      go_wp2_with fail
      refine (unhide HP).mono ?_
      rintro e w3 ⟨⟨v3, rfl⟩, hB3, hK3, hb3⟩
      have hb4 := (unhide HB).trans hb3
      clear HP HB d0 d1 d2 d3 d4 d5 d6 c0 c1 c2 c3 c4 c5 c6 hb3 hK3
      go_wp2
      go_roundw
      case rel => exact ⟨k + 1, by omega, by go_num, by rw [unhide htk, bookIn_snoc]; exact hB3, hb4⟩
      case measure => simp [intOf]; omega
    · obtain rfl : k = m := by omega
      have hall : rs.take k = rs := List.take_of_length_le (by rw [unhide HM]; exact Nat.le_refl _)
      rw [hall] at hBk
      clear hall
      go_wp2
      go_ret
      exact ⟨rfl, hBk, hbl⟩
end Go.Proofs.YtmnlhjdjjinbiaaGreat

namespace Go.Proofs.YtmnlhjdjjinbiaaGreat
open Go.RowKit
set_option linter.unusedVariables false

theorem operIn_of {l n : Nat} {P : Program} {o : Oper} {a : Act} {w : World} {K K' : Act → World → Prop} {Q : Exit → Act → World → Prop} (hnd : ∀ c, o.op ≠ .defer c) (hk : ∀ a w, K a w → K' a w) (h : o.wp P a w K Q) :
    o.wpIn (Fence.wide.inRound l) n P a w K' Q := by
  refine ⟨fun f _ => trivial, ?_⟩
  rw [Fence.inRound_round, Oper.semAt_some l _ o hnd]
  unfold Oper.wp at h
  generalize (execOp a.eval o).run P w = r at *
  cases r with
  | ok x w' =>
    cases x with
    | value v => exact hk _ _ h
    | skip => exact hk _ _ h
    | defer d => exact hk _ _ h
    | enter f args => exact ⟨fun q => by simp [Fence.inRound, Fence.wide] at q, CallsIn.inRound l (callsIn_wide.2 (Calls.mono h (fun e w'' he => by cases e <;> first | exact hk _ _ he | exact he)))⟩
    | row row args => exact ⟨fun q => by simp [Fence.inRound, Fence.wide] at q, fun c cs _ => let ⟨v, w'', r, s⟩ := h c cs; ⟨v, w'', hk _ _ r, stepsIn_wide.2 s⟩⟩
    | _ => exact False.elim h
  | halt x w' => cases x <;> first | exact h | exact False.elim h

theorem anyIn_of {l n : Nat} {P : Program} {md : Region.Mode} {ops : Array Oper} {Q : Exit → Act → World → Prop} (hL : ¬ LetsOut Q) (hnd : ∀ (i : Nat) (o : Oper), ops[i]? = some o → ∀ c, o.op ≠ .defer c) :
    ∀ (fuel : Nat) (listed : Array Bool) (a : Act) (w : World), wpAny P md ops Q fuel listed a w → wpAnyIn (Fence.wide.inRound l) n P md ops Q fuel listed a w
  | 0, _, _, _, h => h
  | fuel + 1, listed, a, w, h => by
    refine ⟨h.1, fun i hi => ?_⟩
    have hop := h.2 i hi
    unfold wpOp at hop
    unfold wpOpIn
    cases ho : ops[i]? with
    | none =>
      rw [ho] at hop
      exact anyIn_of hL hnd fuel _ _ _ hop
    | some o =>
      rw [ho] at hop
      dsimp only at hop ⊢
      by_cases hw : Region.wanted o (yielded ops a.tmps) = true
      · rw [if_pos hw] at hop ⊢
        rcases hop with hop | hop
        · exact operIn_of (hnd i o ho) (fun a w q => anyIn_of hL hnd fuel _ a w q) hop
        · exact absurd hop.2 hL
      · rw [if_neg hw] at hop ⊢
        exact ⟨fun f _ => trivial, anyIn_of hL hnd fuel _ _ _ hop⟩
theorem regionIn_any {l n : Nat} {P : Program} {id : Nat} {ops : Array Oper} {Q : Exit → Act → World → Prop} {a : Act} {w : World} (hL : ¬ LetsOut Q) (hnd : ops.all (fun o => match o.op with | .defer _ => false | _ => true) = true) (hm : P.follows .mixedOrders = true)
    (h : wpAny P .any ops Q ops.size (Array.replicate ops.size false) a w.drew) : (Code.region id ops true).wpIn (Fence.wide.inRound l) n P Q a w := by
  refine wpIn_region_any hm (anyIn_of hL ?_ _ _ _ _ h)
  intro i o ho c hc
  have := Array.all_eq_true.1 hnd i (Array.getElem?_eq_some_iff.1 ho).1
  rw [(Array.getElem?_eq_some_iff.1 ho).2] at this
  simp [hc] at this
/-- The beginning: what is held is shown once, and handed on. -/
theorem regionIn_held {l n : Nat} {P : Program} {id : Nat} {ops : Array Oper} {Q : Exit → Act → World → Prop} {S : World → Prop} {a : Act} {w : World} (hL : ¬ LetsOut Q) (hnd : ops.all (fun o => match o.op with | .defer _ => false | _ => true) = true) (hm : P.follows .mixedOrders = true) (hS : S w.drew)
    (h : S w.drew → wpAnyH P .any ops Q S ops.size (Array.replicate ops.size false) a w.drew) : (Code.region id ops true).wpIn (Fence.wide.inRound l) n P Q a w := by
  refine wpIn_region_any hm (anyIn_of hL ?_ _ _ _ _ (wpAny_of_held _ _ _ _ (h hS)))
  intro i o ho c hc
  have := Array.all_eq_true.1 hnd i (Array.getElem?_eq_some_iff.1 ho).1
  rw [(Array.getElem?_eq_some_iff.1 ho).2] at this
  simp [hc] at this
end Go.Proofs.YtmnlhjdjjinbiaaGreat

namespace Go.Proofs.YtmnlhjdjjinbiaaGreat
open Go.RowKit

section
variable {P : Program} {ops : Array Oper} {Q : Exit → Act → World → Prop} {md : Region.Mode} {S : World → Prop} {T : Nat → Bool}

/-- Whatever comes up next; behind those of T the world is as S says. -/
def AnyT (P : Program) (md : Region.Mode) (ops : Array Oper) (Q : Exit → Act → World → Prop) (S : World → Prop) (T : Nat → Bool) : Nat → Array Bool → Act → World → Prop
  | 0, done, a, w => Region.ready md ops done = [] ∧ Q .normal a w
  | n + 1, done, a, w => (Region.ready md ops done = [] → Q .normal a w) ∧ ∀ j, j ∈ Region.ready md ops done → wpOp P ops Q j (fun a1 w1 => (T j = true → S w1) ∧ AnyT P md ops Q S T n (done.setIfInBounds j true) a1 w1) a w

/-- Once all of T have come up, nothing more is asked. -/
theorem AnyT.of_any : ∀ (n : Nat) (done : Array Bool) (a : Act) (w : World), (∀ j, T j = true → done.getD j true = true) → wpAny P md ops Q n done a w → AnyT P md ops Q S T n done a w
  | 0, _, _, _, _, h => h
  | n + 1, done, a, w, hT, h => by
    refine ⟨h.1, fun j hj => wpOp_mono (fun a1 w1 h1 => ⟨fun ht => ?_, AnyT.of_any n _ a1 w1 (fun k hk => ?_) h1⟩) (h.2 j hj)⟩
    · have := (mem_ready.1 hj).1
      rw [hT j ht] at this
      cases this
    · by_cases e : j = k
      · subst e
        by_cases hlt : j < done.size <;> simp [hlt]
      · rw [getD_set_ne true e]
        exact hT k hk

theorem AnyT.over (n : Nat) (done : Array Bool) (a : Act) (w : World) (hT : (List.range done.size).all (fun j => !T j || done.getD j true) = true) (h : wpAny P md ops Q n done a w) : AnyT P md ops Q S T n done a w := by
  refine AnyT.of_any n done a w (fun j hj => ?_) h
  by_cases hlt : j < done.size
  · have := List.all_eq_true.1 hT j (by simpa using hlt)
    rw [hj] at this
    simpa using this
  · simp [hlt]

/-- Number i is taken first: T are those that might come ahead of it. -/
theorem any_firstT {i : Nat} {oi : Oper} {v : Value} (hi : ops[i]? = some oi) (hsel : ∀ (j : Nat) (o : Oper) cs b, ops[j]? = some o → o.op ≠ .select cs b) (hQ : ∀ c a w, Q (.panic c) (a.put oi.dst v) w → Q (.panic c) a w)
    (hT : ∀ (j : Nat) (oj : Oper), ops[j]? = some oj → j ≠ i → (∀ e ∈ oj.after, Region.binds md e = true → e.on ≠ i) → T j = true) (n : Nat) :
    ∀ (done : Array Bool) (a : Act) (w : World), (∀ j oj, ops[j]? = some oj → j ≠ i → done.getD j true = false → (∀ e ∈ oj.after, Region.binds md e = true → e.on ≠ i) → oi.apart ops oj = true) →
      i ∈ Region.ready md ops done → YieldsIf P ops S oi v a → S w → AnyT P md ops Q S T n (done.setIfInBounds i true) (a.put oi.dst v) w → wpAny P md ops Q (n + 1) done a w := by
  induction n with
  | zero =>
    intro done a w _ hr hy hS H
    refine ⟨fun q => absurd (q ▸ hr) (by simp), fun j hj => ?_⟩
    rcases Decidable.em (j = i) with rfl | hji
    · exact hy.wpOp hi hS H
    · have hq := ready_mono hj hji
      rw [H.1] at hq
      exact absurd hq (by simp)
  | succ n ih =>
    intro done a w hfree hr hy hS H
    refine ⟨fun q => absurd (q ▸ hr) (by simp), fun j hj => ?_⟩
    rcases Decidable.em (j = i) with rfl | hji
    · refine hy.wpOp hi hS ?_
      have strip : ∀ (m : Nat) (d : Array Bool) (a : Act) (w : World), AnyT P md ops Q S T m d a w → wpAny P md ops Q m d a w := by
        intro m
        induction m with
        | zero => intro d a w h; exact h
        | succ m im => intro d a w h; exact ⟨h.1, fun k hk => wpOp_mono (fun a1 w1 h1 => im _ _ _ h1.2) (h.2 k hk)⟩
      exact strip _ _ _ _ H
    · obtain ⟨hun, oj, hoj, hall⟩ := mem_ready.1 hj
      have hno : ∀ e ∈ oj.after, Region.binds md e = true → e.on ≠ i := by
        intro e he hb q
        have h1 := hall e he hb
        have h0 := (mem_ready.1 hr).1
        rw [q] at h1
        by_cases hlt : i < done.size
        · simp [hlt] at h0 h1
          rw [h0] at h1
          cases h1
        · simp [hlt] at h0
      have step := wpOp_putIf hoj (hfree j oj hoj hji hun hno) (fun cs b => hsel i oi cs b hi) (fun cs b => hsel j oj cs b hoj) hQ hy (H.2 j (ready_mono hj hji))
      refine wpOp_mono (fun a1 w1 h1 => ?_) step
      refine ih (done.setIfInBounds j true) a1 w1 (fun k ok hk hki hu hn => hfree k ok hk hki ?_ hn) (ready_mono hr (Ne.symm hji)) h1.1 (h1.2.1 (hT j oj hoj hji hno)) ?_
      · rcases Decidable.em (j = k) with rfl | hjk
        · exact hun
        · rwa [getD_set_ne true hjk] at hu
      · have e : (done.setIfInBounds j true).setIfInBounds i true = (done.setIfInBounds i true).setIfInBounds j true := Array.setIfInBounds_comm _ _ hji
        rw [e]
        exact h1.2.2

/-- Those that wait for number i, as a Bool. -/
def waits (md : Region.Mode) (ops : Array Oper) (i : Nat) (j : Nat) : Bool := match ops[j]? with
  | some o => o.after.any (fun e => Region.binds md e && (e.on == i))
  | none => false
theorem any_takeT {i : Nat} {oi : Oper} {v : Value} {n : Nat} {done : Array Bool} {a : Act} {w : World} (S : World → Prop) (hi : ops[i]? = some oi) (hs : Region.noSelect ops = true) (hf : Region.free md ops done i = true) (hr : (Region.ready md ops done).contains i = true)
    (hQ : ∀ c a w, Q (.panic c) (a.put oi.dst v) w → Q (.panic c) a w) (hy : YieldsIf P ops S oi v a) (hS : S w)
    (h : AnyT P md ops Q S (fun j => !waits md ops i j) n (done.setIfInBounds i true) (a.put oi.dst v) w) : wpAny P md ops Q (n + 1) done a w := by
  refine any_firstT hi (Region.noSelect_spec hs) hQ (fun j oj hj hji hno => ?_) n done a w (Region.free_spec hi hf) (by simpa using hr) hy hS h
  unfold waits
  rw [hj]
  simp only [Bool.not_eq_true', Array.any_eq_false']
  intro e he q
  simp only [Bool.and_eq_true, beq_iff_eq] at q
  exact hno e he q.1 q.2

def AllT (P : Program) (md : Region.Mode) (ops : Array Oper) (Q : Exit → Act → World → Prop) (S : World → Prop) (T : Nat → Bool) (n : Nat) (done : Array Bool) (a : Act) (w : World) (js : List Nat) : Prop :=
  ∀ j, j ∈ js → wpOp P ops Q j (fun a1 w1 => (T j = true → S w1) ∧ AnyT P md ops Q S T n (done.setIfInBounds j true) a1 w1) a w
theorem AllT.nil {n : Nat} {done : Array Bool} {a : Act} {w : World} : AllT P md ops Q S T n done a w [] := fun _ h => absurd h (by simp)
theorem AllT.cons {n : Nat} {done : Array Bool} {a : Act} {w : World} {j : Nat} {o : Oper} {js : List Nat} (ho : ops[j]? = some o)
    (h : ∀ K : Act → World → Prop, (∀ a1 w1, S w1 → AnyT P md ops Q S T n (done.setIfInBounds j true) a1 w1 → K a1 w1) → if Region.wanted o (yielded ops a.tmps) = true then Oper.wp P o a w K Q else K (a.put o.dst undef) w)
    (hs : AllT P md ops Q S T n done a w js) : AllT P md ops Q S T n done a w (j :: js) := by
  intro k hk
  rcases List.mem_cons.1 hk with rfl | hk
  · exact wpOp_step ho (fun K hK => h K (fun a1 w1 q1 q2 => hK a1 w1 ⟨fun _ => q1, q2⟩))
  · exact hs k hk
theorem anyT_ready {n : Nat} {done : Array Bool} {a : Act} {w : World} {js : List Nat} (hr : Region.ready md ops done = js) (hne : js ≠ []) (h : AllT P md ops Q S T n done a w js) : AnyT P md ops Q S T (n + 1) done a w :=
  ⟨fun q => absurd (hr.symm.trans q) hne, fun j hj => h j (hr ▸ hj)⟩
end
end Go.Proofs.YtmnlhjdjjinbiaaGreat
