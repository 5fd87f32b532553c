/-
  Plain facts: questions, wants and messages as lists and numbers, and how they lie in memory. No program is named here. Plain facts: slots and caches as lists and numbers, and how they lie in memory. No program is named here. What is known of a cache that came in as an argument. Plain facts: marks in rows of questions. No program is named here.
-/
import Derived.Test.YtaehfeobfkaicaaGreatCacheGetG05
import Derived.Test.YtaehfeobfkaicaaGreatCacheGetG04
import Derived.Test.YtaehfeobfkaicaaGreatCacheGetG02
import Derived.Test.YtaehfeobfkaicaaGreatCacheGetG03
namespace Go.Proofs.YtaehfeobfkaicaaGreat
open Go.RowKit
set_option linter.unusedVariables false

structure Que where
 name : List (List Int)
 type : Int
structure Wnt where
 rr : Rec
 cls : Int
 bare : Bool
structure Mg where
 id : Int
 reply : Bool
 op : Int
 auth : Bool
 code : Int
 qs : List Que
 ans : List Rec
 aus : List Rec
 more : List Rec
 pres : List Wnt
 ups : List Wnt
def queZ : Que := ⟨[], 0⟩
def wntZ : Wnt := ⟨recZ, 0, false⟩

def InQu (w : World) (vs : List Value) (q : Que) : Prop := ∃ a c, vs = [.slice a q.name.length c, .int .i64 q.type] ∧ LiesL w a q.name
def HasQu (w : World) (vs : List Value) (q : Que) : Prop := ∃ v, vs = [v, .int .i64 q.type] ∧ HasL w v q.name
def OwnQu (el eb : TypeId) (B E : Nat) (w : World) (vs : List Value) (q : Que) : Prop := ∃ v, vs = [v, .int .i64 q.type] ∧ OwnN B E el eb w v q.name
def InWn (w : World) (vs : List Value) (x : Wnt) : Prop := ∃ an cn ato ct ax cx ai ci, vs = [.slice an x.rr.name.length cn, .int .i64 x.rr.type, .int .i64 x.rr.ttl, .int .i64 x.rr.addr, .slice ato x.rr.to.length ct, .slice ax x.rr.text.length cx, .slice ai x.rr.nums.length ci, .int .i64 x.cls, .bool x.bare] ∧ InR w an ato ax ai x.rr
def HasWn (w : World) (vs : List Value) (x : Wnt) : Prop := ∃ vn vt vx vi, vs = [vn, .int .i64 x.rr.type, .int .i64 x.rr.ttl, .int .i64 x.rr.addr, vt, vx, vi, .int .i64 x.cls, .bool x.bare] ∧ HasR w vn vt vx vi x.rr
def OwnWn (el eb ei : TypeId) (B E : Nat) (w : World) (vs : List Value) (x : Wnt) : Prop := ∃ vn vt vx vi, vs = [vn, .int .i64 x.rr.type, .int .i64 x.rr.ttl, .int .i64 x.rr.addr, vt, vx, vi, .int .i64 x.cls, .bool x.bare] ∧ OwnR B E el eb ei w vn vt vx vi x.rr
theorem stays_InQu : Stays InQu := fun h hb => by obtain ⟨a, c, h1, h2⟩ := h; exact ⟨a, c, h1, h2.below hb⟩
theorem stays_HasQu : Stays HasQu := fun h hb => by obtain ⟨v, h1, h2⟩ := h; exact ⟨v, h1, h2.below hb⟩
theorem stays_InWn : Stays InWn := fun h hb => by obtain ⟨an, cn, ato, ct, ax, cx, ai, ci, h1, h2⟩ := h; exact ⟨an, cn, ato, ct, ax, cx, ai, ci, h1, h2.below hb⟩
theorem stays_HasWn : Stays HasWn := fun h hb => by obtain ⟨vn, vt, vx, vi, h1, h2⟩ := h; exact ⟨vn, vt, vx, vi, h1, h2.below hb⟩
theorem OwnQu.has {el eb : TypeId} {B E : Nat} {w : World} {vs : List Value} {q : Que} (h : OwnQu el eb B E w vs q) : HasQu w vs q := by obtain ⟨v, h1, h2⟩ := h; exact ⟨v, h1, h2.hasL⟩
theorem OwnWn.has {el eb ei : TypeId} {B E : Nat} {w : World} {vs : List Value} {x : Wnt} (h : OwnWn el eb ei B E w vs x) : HasWn w vs x := by obtain ⟨vn, vt, vx, vi, h1, h2⟩ := h; exact ⟨vn, vt, vx, vi, h1, h2.hasR⟩
structure SizeQu (m : Nat) (q : Que) : Prop where
 name : q.name.length ≤ m
 names : ∀ i, i < q.name.length → (q.name.getD i []).length ≤ m
theorem SizeQu.mono {m m' : Nat} {q : Que} (h : SizeQu m q) (hm : m ≤ m') : SizeQu m' q := ⟨Nat.le_trans h.name hm, fun i hi => Nat.le_trans (h.names i hi) hm⟩

abbrev LiesQs (w : World) (a : Option Addr) (l : List Que) : Prop := LiesG 2 InQu queZ w a l
abbrev HasQs (w : World) (v : Value) (l : List Que) : Prop := HasG 2 HasQu queZ w v l
abbrev LiesWs (w : World) (a : Option Addr) (l : List Wnt) : Prop := LiesG 9 InWn wntZ w a l
abbrev HasWs (w : World) (v : Value) (l : List Wnt) : Prop := HasG 9 HasWn wntZ w v l

structure InM (w : World) (aq aa ab am ap au : Option Addr) (m : Mg) : Prop where
 qs : LiesQs w aq m.qs
 ans : LiesRs w aa m.ans
 aus : LiesRs w ab m.aus
 more : LiesRs w am m.more
 pres : LiesWs w ap m.pres
 ups : LiesWs w au m.ups
theorem InM.below {w w' : World} {aq aa ab am ap au : Option Addr} {m : Mg} (h : InM w aq aa ab am ap au m) (hb : Below w.heap.size w w') : InM w' aq aa ab am ap au m :=
 ⟨LiesG.below stays_InQu h.qs hb, h.ans.below hb, h.aus.below hb, h.more.below hb, LiesG.below stays_InWn h.pres hb, LiesG.below stays_InWn h.ups hb⟩
structure HasM (w : World) (vq va vb vm vp vu : Value) (m : Mg) : Prop where
 qs : HasQs w vq m.qs
 ans : HasRs w va m.ans
 aus : HasRs w vb m.aus
 more : HasRs w vm m.more
 pres : HasWs w vp m.pres
 ups : HasWs w vu m.ups
theorem HasM.below {w w' : World} {vq va vb vm vp vu : Value} {m : Mg} (h : HasM w vq va vb vm vp vu m) (hb : Below w.heap.size w w') : HasM w' vq va vb vm vp vu m :=
 ⟨HasG.below stays_HasQu h.qs hb, h.ans.below hb, h.aus.below hb, h.more.below hb, HasG.below stays_HasWn h.pres hb, HasG.below stays_HasWn h.ups hb⟩
structure SizeM (s : Nat) (m : Mg) : Prop where
 qs : ∀ i, i < m.qs.length → SizeQu s (m.qs.getD i queZ)
 ans : ∀ i, i < m.ans.length → SizeR s (m.ans.getD i recZ)
 aus : ∀ i, i < m.aus.length → SizeR s (m.aus.getD i recZ)
 more : ∀ i, i < m.more.length → SizeR s (m.more.getD i recZ)
 pres : ∀ i, i < m.pres.length → SizeR s (m.pres.getD i wntZ).rr
 ups : ∀ i, i < m.ups.length → SizeR s (m.ups.getD i wntZ).rr
theorem SizeM.mono {s s' : Nat} {m : Mg} (h : SizeM s m) (hm : s ≤ s') : SizeM s' m :=
 ⟨fun i hi => (h.qs i hi).mono hm, fun i hi => (h.ans i hi).mono hm, fun i hi => (h.aus i hi).mono hm, fun i hi => (h.more i hi).mono hm, fun i hi => (h.pres i hi).mono hm, fun i hi => (h.ups i hi).mono hm⟩
theorem there_cell {w : World} {b o n : Nat} (h : w.there b o n) {j : Nat} (hj : j < n) : (∃ y, w.cell? ⟨b, o + j, none⟩ = some y) ∧ w.frozen? ⟨b, o + j, none⟩ = false :=
 ⟨Option.isSome_iff_exists.1 (h j hj).1, (h j hj).2⟩
theorem there_cell0 {w : World} {b o n : Nat} (h : w.there b o n) (hj : 0 < n) : (∃ y, w.cell? ⟨b, o, none⟩ = some y) ∧ w.frozen? ⟨b, o, none⟩ = false := there_cell h hj
structure Slt where
 name : List (List Int)
 type : Int
 kind : Int
 rrs : List Rec
 rank : Int
 till : Int
 used : Int
structure Ca where
 now : Int
 turn : Int
 slots : List Slt
def VK : Slt := ⟨[], 0, 0, [], 0, 0, 0⟩
structure InS2 (w : World) (na ra : Option Addr) (x : Slt) : Prop where
 name : LiesL w na x.name
 rrs : LiesRs w ra x.rrs
theorem InS2.below {w w' : World} {na ra : Option Addr} {x : Slt} (h : InS2 w na ra x) (hb : Below w.heap.size w w') : InS2 w' na ra x := ⟨h.name.below hb, h.rrs.below hb⟩
structure HasS2 (w : World) (vn vr : Value) (x : Slt) : Prop where
 name : HasL w vn x.name
 rrs : HasRs w vr x.rrs
theorem HasS2.below {w w' : World} {vn vr : Value} {x : Slt} (h : HasS2 w vn vr x) (hb : Below w.heap.size w w') : HasS2 w' vn vr x := ⟨h.name.below hb, h.rrs.below hb⟩
def OwnS2 (er el eb ei : TypeId) (B E : Nat) (w : World) (vn vr : Value) (x : Slt) : Prop := ∃ s, B ≤ s ∧ s ≤ E ∧ OwnN B s el eb w vn x.name ∧ RowO s E er el eb ei w vr x.rrs
theorem OwnS2.has {er el eb ei : TypeId} {B E : Nat} {w : World} {vn vr : Value} {x : Slt} (h : OwnS2 er el eb ei B E w vn vr x) : HasS2 w vn vr x := by obtain ⟨s, _, _, h1, h2⟩ := h; exact ⟨h1.hasL, h2.has⟩
theorem OwnS2.below {er el eb ei : TypeId} {B E : Nat} {w w' : World} {vn vr : Value} {x : Slt} (h : OwnS2 er el eb ei B E w vn vr x) (hb : Below w.heap.size w w') : OwnS2 er el eb ei B E w' vn vr x := by obtain ⟨s, a1, a2, h1, h2⟩ := h; exact ⟨s, a1, a2, h1.below hb, h2.below hb⟩
theorem OwnS2.outside {er el eb ei : TypeId} {B E C D : Nat} {w w' : World} {vn vr : Value} {x : Slt} (h : OwnS2 er el eb ei B E w vn vr x) (u : Outside C D w w') (hd : E ≤ C ∨ D ≤ B) : OwnS2 er el eb ei B E w' vn vr x := by obtain ⟨s, a1, a2, h1, h2⟩ := h; exact ⟨s, a1, a2, h1.outside u (by omega), h2.outside u (by omega)⟩
theorem OwnS2.wide {er el eb ei : TypeId} {B E B' E' : Nat} {w : World} {vn vr : Value} {x : Slt} (h : OwnS2 er el eb ei B E w vn vr x) (hB : B' ≤ B) (hE : E ≤ E') : OwnS2 er el eb ei B' E' w vn vr x := by obtain ⟨s, a1, a2, h1, h2⟩ := h; exact ⟨s, by omega, by omega, h1.wide hB (Nat.le_refl _), h2.wide (Nat.le_refl _) hE⟩
def InSl (w : World) (vs : List Value) (x : Slt) : Prop := ∃ na nc ra rc, vs = [.slice na x.name.length nc, .int .i64 x.type, .int .i64 x.kind, .slice ra x.rrs.length rc, .int .i64 x.rank, .int .i64 x.till, .int .i64 x.used] ∧ InS2 w na ra x
def HasSl (w : World) (vs : List Value) (x : Slt) : Prop := ∃ vn vr, vs = [vn, .int .i64 x.type, .int .i64 x.kind, vr, .int .i64 x.rank, .int .i64 x.till, .int .i64 x.used] ∧ HasS2 w vn vr x
def OwnSl (er el eb ei : TypeId) (B E : Nat) (w : World) (vs : List Value) (x : Slt) : Prop := ∃ vn vr, vs = [vn, .int .i64 x.type, .int .i64 x.kind, vr, .int .i64 x.rank, .int .i64 x.till, .int .i64 x.used] ∧ OwnS2 er el eb ei B E w vn vr x
theorem stays_InSl : Stays InSl := fun h hb => by obtain ⟨na, nc, ra, rc, h1, h2⟩ := h; exact ⟨na, nc, ra, rc, h1, h2.below hb⟩
theorem stays_HasSl : Stays HasSl := fun h hb => by obtain ⟨vn, vr, h1, h2⟩ := h; exact ⟨vn, vr, h1, h2.below hb⟩
theorem ownsSl (er el eb ei : TypeId) : OwnsG 7 (OwnSl er el eb ei) where
 cells := fun h => by obtain ⟨vn, vr, rfl, _⟩ := h; rfl
 below := fun h hb => by obtain ⟨vn, vr, h1, h2⟩ := h; exact ⟨vn, vr, h1, h2.below hb⟩
 outside := fun h u hd => by obtain ⟨vn, vr, h1, h2⟩ := h; exact ⟨vn, vr, h1, h2.outside u hd⟩
 wide := fun h h1 h2 => by obtain ⟨vn, vr, h3, h4⟩ := h; exact ⟨vn, vr, h3, h4.wide h1 h2⟩
theorem OwnSl.has {er el eb ei : TypeId} {B E : Nat} {w : World} {vs : List Value} {x : Slt} (h : OwnSl er el eb ei B E w vs x) : HasSl w vs x := by obtain ⟨vn, vr, h1, h2⟩ := h; exact ⟨vn, vr, h1, h2.has⟩
structure SizeSl (m : Nat) (x : Slt) : Prop where
 name : x.name.length ≤ m
 names : ∀ i, i < x.name.length → (x.name.getD i []).length ≤ m
 rrs : x.rrs.length ≤ m
 rrss : ∀ i, i < x.rrs.length → SizeR m (x.rrs.getD i recZ)
theorem SizeSl.mono {m m' : Nat} {x : Slt} (h : SizeSl m x) (hm : m ≤ m') : SizeSl m' x := ⟨Nat.le_trans h.name hm, fun i hi => Nat.le_trans (h.names i hi) hm, Nat.le_trans h.rrs hm, fun i hi => (h.rrss i hi).mono hm⟩
abbrev LiesSs (w : World) (a : Option Addr) (l : List Slt) : Prop := LiesG 7 InSl VK w a l
abbrev HasSs (w : World) (v : Value) (l : List Slt) : Prop := HasG 7 HasSl VK w v l
theorem lowSs {w w' : World} {a : Option Addr} {l : List Slt} (h : LiesSs w a l) (hb : Below w.heap.size w w') : LiesSs w' a l := LiesG.below stays_InSl h hb
theorem VF {w w' : World} {v : Value} {l : List Slt} (h : HasSs w v l) (hb : Below w.heap.size w w') : HasSs w' v l := HasG.below stays_HasSl h hb
abbrev RowSl (er el eb ei es : TypeId) (B E : Nat) (w : World) (v : Value) (l : List Slt) : Prop := RowX 7 (OwnSl er el eb ei) VK B E es w v l
theorem RowSl.hasS {er el eb ei es : TypeId} {B E : Nat} {w : World} {v : Value} {l : List Slt} (h : RowSl er el eb ei es B E w v l) : HasSs w v l := RowX.has (ownsSl er el eb ei) (fun h => h.has) h
structure SizeCa (m : Nat) (c : Ca) : Prop where
 slots : c.slots.length ≤ m
 each : ∀ i, i < c.slots.length → SizeSl m (c.slots.getD i VK)
theorem SizeCa.mono {m m' : Nat} {c : Ca} (h : SizeCa m c) (hm : m ≤ m') : SizeCa m' c := ⟨Nat.le_trans h.slots hm, fun i hi => (h.each i hi).mono hm⟩
theorem UL {w : World} {b : Nat} {c0 c1 c2 : Value} {t : TypeId} (h : w.heap[b]? = some (.cells #[c0, c1, c2] t)) :
  w.cell? ⟨b, 0, none⟩ = some c0 ∧ w.cell? ⟨b, 1, none⟩ = some c1 ∧ w.cell? ⟨b, 2, none⟩ = some c2 :=
 ⟨VE h 0, VE h 1, VE h 2⟩
theorem frozen3 {w : World} {b : Nat} {c : Array Value} {t : TypeId} (h : w.heap[b]? = some (.cells c t)) :
  w.frozen? ⟨b, 0, none⟩ = false ∧ w.frozen? ⟨b, 1, none⟩ = false ∧ w.frozen? ⟨b, 2, none⟩ = false :=
 ⟨VG h 0, VG h 1, VG h 2⟩
def set3 (w : World) (b : Nat) (c0 c1 c2 : Value) : World := ((w.setCell ⟨b, 0, none⟩ c0).setCell ⟨b, 1, none⟩ c1).setCell ⟨b, 2, none⟩ c2
theorem set3_is {w : World} {b : Nat} {c0 c1 c2 a0 a1 a2 : Value} {t : TypeId} (h : w.heap[b]? = some (.cells #[a0, a1, a2] t)) :
  (set3 w b c0 c1 c2).heap[b]? = some (.cells #[c0, c1, c2] t) ∧ Outside b (b + 1) w (set3 w b c0 c1 c2) := by
 unfold set3
 have u0 : Outside b (b + 1) w w := Outside.refl _ _ _
 have h1 : (w.setCell ⟨b, 0, none⟩ c0).heap[b]? = some (.cells #[c0, a1, a2] t) := UV h 0 c0
 have u1 := u0.trans (UT w b 0 c0)
 generalize w.setCell ⟨b, 0, none⟩ c0 = w1 at *
 have h2 : (w1.setCell ⟨b, 1, none⟩ c1).heap[b]? = some (.cells #[c0, c1, a2] t) := UV h1 1 c1
 have u2 := u1.trans (UT w1 b 1 c1)
 generalize w1.setCell ⟨b, 1, none⟩ c1 = w2 at *
 have h3 : (w2.setCell ⟨b, 2, none⟩ c2).heap[b]? = some (.cells #[c0, c1, c2] t) := UV h2 2 c2
 have u3 := u2.trans (UT w2 b 2 c2)
 exact ⟨h3, u3⟩
def setA (w : World) (b : Nat) (c0 c1 c2 : Value) : World := ((w.setCell ⟨b, 0, none⟩ c0).setCell ⟨b, 1, none⟩ c1).setCell ⟨b, 2, none⟩ c2
theorem setA_is {w : World} {b : Nat} {c0 c1 c2 a0 a1 a2 a3 a4 a5 a6 : Value} {t : TypeId} (h : w.heap[b]? = some (.cells #[a0, a1, a2, a3, a4, a5, a6] t)) :
  (setA w b c0 c1 c2).heap[b]? = some (.cells #[c0, c1, c2, a3, a4, a5, a6] t) ∧ Outside b (b + 1) w (setA w b c0 c1 c2) := by
 unfold setA
 have u0 : Outside b (b + 1) w w := Outside.refl _ _ _
 have h1 : (w.setCell ⟨b, 0, none⟩ c0).heap[b]? = some (.cells #[c0, a1, a2, a3, a4, a5, a6] t) := UV h 0 c0
 have u1 := u0.trans (UT w b 0 c0)
 generalize w.setCell ⟨b, 0, none⟩ c0 = w1 at *
 have h2 : (w1.setCell ⟨b, 1, none⟩ c1).heap[b]? = some (.cells #[c0, c1, a2, a3, a4, a5, a6] t) := UV h1 1 c1
 have u2 := u1.trans (UT w1 b 1 c1)
 generalize w1.setCell ⟨b, 1, none⟩ c1 = w2 at *
 have h3 : (w2.setCell ⟨b, 2, none⟩ c2).heap[b]? = some (.cells #[c0, c1, c2, a3, a4, a5, a6] t) := UV h2 2 c2
 have u3 := u2.trans (UT w2 b 2 c2)
 exact ⟨h3, u3⟩
def setB (w : World) (b : Nat) (c3 c4 c5 c6 : Value) : World := (((w.setCell ⟨b, 3, none⟩ c3).setCell ⟨b, 4, none⟩ c4).setCell ⟨b, 5, none⟩ c5).setCell ⟨b, 6, none⟩ c6
theorem setB_is {w : World} {b : Nat} {c3 c4 c5 c6 a0 a1 a2 a3 a4 a5 a6 : Value} {t : TypeId} (h : w.heap[b]? = some (.cells #[a0, a1, a2, a3, a4, a5, a6] t)) :
  (setB w b c3 c4 c5 c6).heap[b]? = some (.cells #[a0, a1, a2, c3, c4, c5, c6] t) ∧ Outside b (b + 1) w (setB w b c3 c4 c5 c6) := by
 unfold setB
 have u0 : Outside b (b + 1) w w := Outside.refl _ _ _
 have h1 : (w.setCell ⟨b, 3, none⟩ c3).heap[b]? = some (.cells #[a0, a1, a2, c3, a4, a5, a6] t) := UV h 3 c3
 have u1 := u0.trans (UT w b 3 c3)
 generalize w.setCell ⟨b, 3, none⟩ c3 = w1 at *
 have h2 : (w1.setCell ⟨b, 4, none⟩ c4).heap[b]? = some (.cells #[a0, a1, a2, c3, c4, a5, a6] t) := UV h1 4 c4
 have u2 := u1.trans (UT w1 b 4 c4)
 generalize w1.setCell ⟨b, 4, none⟩ c4 = w2 at *
 have h3 : (w2.setCell ⟨b, 5, none⟩ c5).heap[b]? = some (.cells #[a0, a1, a2, c3, c4, c5, a6] t) := UV h2 5 c5
 have u3 := u2.trans (UT w2 b 5 c5)
 generalize w2.setCell ⟨b, 5, none⟩ c5 = w3 at *
 have h4 : (w3.setCell ⟨b, 6, none⟩ c6).heap[b]? = some (.cells #[a0, a1, a2, c3, c4, c5, c6] t) := UV h3 6 c6
 have u4 := u3.trans (UT w3 b 6 c6)
 exact ⟨h4, u4⟩
def setS (w : World) (b : Nat) (c0 c1 c2 c3 c4 c5 c6 : Value) : World := ((((((w.setCell ⟨b, 0, none⟩ c0).setCell ⟨b, 1, none⟩ c1).setCell ⟨b, 2, none⟩ c2).setCell ⟨b, 3, none⟩ c3).setCell ⟨b, 4, none⟩ c4).setCell ⟨b, 5, none⟩ c5).setCell ⟨b, 6, none⟩ c6
theorem setS_is {w : World} {b : Nat} {c0 c1 c2 c3 c4 c5 c6 a0 a1 a2 a3 a4 a5 a6 : Value} {t : TypeId} (h : w.heap[b]? = some (.cells #[a0, a1, a2, a3, a4, a5, a6] t)) :
  (setS w b c0 c1 c2 c3 c4 c5 c6).heap[b]? = some (.cells #[c0, c1, c2, c3, c4, c5, c6] t) ∧ Outside b (b + 1) w (setS w b c0 c1 c2 c3 c4 c5 c6) := by
 unfold setS
 have u0 : Outside b (b + 1) w w := Outside.refl _ _ _
 have h1 : (w.setCell ⟨b, 0, none⟩ c0).heap[b]? = some (.cells #[c0, a1, a2, a3, a4, a5, a6] t) := UV h 0 c0
 have u1 := u0.trans (UT w b 0 c0)
 generalize w.setCell ⟨b, 0, none⟩ c0 = w1 at *
 have h2 : (w1.setCell ⟨b, 1, none⟩ c1).heap[b]? = some (.cells #[c0, c1, a2, a3, a4, a5, a6] t) := UV h1 1 c1
 have u2 := u1.trans (UT w1 b 1 c1)
 generalize w1.setCell ⟨b, 1, none⟩ c1 = w2 at *
 have h3 : (w2.setCell ⟨b, 2, none⟩ c2).heap[b]? = some (.cells #[c0, c1, c2, a3, a4, a5, a6] t) := UV h2 2 c2
 have u3 := u2.trans (UT w2 b 2 c2)
 generalize w2.setCell ⟨b, 2, none⟩ c2 = w3 at *
 have h4 : (w3.setCell ⟨b, 3, none⟩ c3).heap[b]? = some (.cells #[c0, c1, c2, c3, a4, a5, a6] t) := UV h3 3 c3
 have u4 := u3.trans (UT w3 b 3 c3)
 generalize w3.setCell ⟨b, 3, none⟩ c3 = w4 at *
 have h5 : (w4.setCell ⟨b, 4, none⟩ c4).heap[b]? = some (.cells #[c0, c1, c2, c3, c4, a5, a6] t) := UV h4 4 c4
 have u5 := u4.trans (UT w4 b 4 c4)
 generalize w4.setCell ⟨b, 4, none⟩ c4 = w5 at *
 have h6 : (w5.setCell ⟨b, 5, none⟩ c5).heap[b]? = some (.cells #[c0, c1, c2, c3, c4, c5, a6] t) := UV h5 5 c5
 have u6 := u5.trans (UT w5 b 5 c5)
 generalize w5.setCell ⟨b, 5, none⟩ c5 = w6 at *
 have h7 : (w6.setCell ⟨b, 6, none⟩ c6).heap[b]? = some (.cells #[c0, c1, c2, c3, c4, c5, c6] t) := UV h6 6 c6
 have u7 := u6.trans (UT w6 b 6 c6)
 exact ⟨h7, u7⟩
end Go.Proofs.YtaehfeobfkaicaaGreat

namespace Go.Proofs.YtaehfeobfkaicaaGreat
open Go.RowKit Go.ChangeShapes Go.WideShapes Go.ChangeAt

set_option maxRecDepth 100000 in
theorem open_slotCells {H : Type} {enc : TypeId × Value → H} {w : World} {sp : Nat → Bool} {held : Bool} {fuel : Nat} {e0 e1 e2 e3 e4 e5 e6 : Value} {x : DataW H × List MemPlace} (hsp : ∀ b, sp b = true) (hf0 : DataW.trod enc Tryz.prog w 0 sp held fuel 100 [e0, e1, e2, e3, e4, e5, e6] = some x) :
  ∃ (na : Option Addr) (nc : Nat) (ra : Option Addr) (rc : Nat) (x : Slt), [e0, e1, e2, e3, e4, e5, e6] = [.slice na x.name.length nc, .int .i64 x.type, .int .i64 x.kind, .slice ra x.rrs.length rc, .int .i64 x.rank, .int .i64 x.till, .int .i64 x.used] ∧ InS2 w na ra x ∧ SizeSl maxLen x := by
 obtain ⟨xs, n, _, _, _, hlen, hf⟩ := DataW.trod_struct Tryz.underlying100 hf0
 match xs, hlen with
 | [y0, y1, y2, y3, y4, y5, y6], _ =>
  have h0 : DataW.trod enc Tryz.prog w 0 sp held n 43 (([e0, e1, e2, e3, e4, e5, e6].drop 0).take (Tryz.prog.cellsOf 43)) = some y0 := hf 0 _ rfl
  have h1 : DataW.trod enc Tryz.prog w 0 sp held n 3 (([e0, e1, e2, e3, e4, e5, e6].drop 1).take (Tryz.prog.cellsOf 3)) = some y1 := hf 1 _ rfl
  have h2 : DataW.trod enc Tryz.prog w 0 sp held n 3 (([e0, e1, e2, e3, e4, e5, e6].drop 2).take (Tryz.prog.cellsOf 3)) = some y2 := hf 2 _ rfl
  have h3 : DataW.trod enc Tryz.prog w 0 sp held n 25 (([e0, e1, e2, e3, e4, e5, e6].drop 3).take (Tryz.prog.cellsOf 25)) = some y3 := hf 3 _ rfl
  have h4 : DataW.trod enc Tryz.prog w 0 sp held n 3 (([e0, e1, e2, e3, e4, e5, e6].drop 4).take (Tryz.prog.cellsOf 3)) = some y4 := hf 4 _ rfl
  have h5 : DataW.trod enc Tryz.prog w 0 sp held n 3 (([e0, e1, e2, e3, e4, e5, e6].drop 5).take (Tryz.prog.cellsOf 3)) = some y5 := hf 5 _ rfl
  have h6 : DataW.trod enc Tryz.prog w 0 sp held n 3 (([e0, e1, e2, e3, e4, e5, e6].drop 6).take (Tryz.prog.cellsOf 3)) = some y6 := hf 6 _ rfl
  rw [cellsName] at h0
  rw [cellsInt] at h1
  rw [cellsInt] at h2
  rw [cellsRecs] at h3
  rw [cellsInt] at h4
  rw [cellsInt] at h5
  rw [cellsInt] at h6
  simp only [List.drop_zero, List.drop_succ_cons, List.take_succ_cons, List.take_zero] at h0 h1 h2 h3 h4 h5 h6
  obtain ⟨na, nc, nm, g0, n1, n2, n3⟩ := open_nameCell hsp h0
  obtain ⟨ra, rc, rs, g3, r1, r2, r3⟩ := open_recs hsp h3
  obtain ⟨t1, f1, _, _⟩ := DataW.trod_int Tryz.underlying3 h1
  obtain ⟨t2, f2, _, _⟩ := DataW.trod_int Tryz.underlying3 h2
  obtain ⟨t4, f4, _, _⟩ := DataW.trod_int Tryz.underlying3 h4
  obtain ⟨t5, f5, _, _⟩ := DataW.trod_int Tryz.underlying3 h5
  obtain ⟨t6, f6, _, _⟩ := DataW.trod_int Tryz.underlying3 h6
  simp only [List.cons.injEq, and_true] at f1 f2 f4 f5 f6
  subst f1 f2 f4 f5 f6 g0 g3
  exact ⟨na, nc, ra, rc, ⟨nm, t1, t2, rs, t4, t5, t6⟩, rfl, ⟨n2, r2⟩, ⟨n1, n3, r1, r3⟩⟩
def SltIn (w : World) (a : Addr) (x : Slt) : Prop := SizeSl maxLen x ∧ ∃ vs, (∀ j v, vs[j]? = some v → w.cell? (a.add j) = some v) ∧ InSl w vs x
theorem cellsSlot : Tryz.prog.cellsOf 100 = 7 := by kernel_rfl
theorem cellsSlots : Tryz.prog.cellsOf 22 = 1 := by kernel_rfl
theorem cellsCache : Tryz.prog.cellsOf 24 = 3 := by kernel_rfl
theorem open_slots {H : Type} {enc : TypeId × Value → H} {w : World} {sp : Nat → Bool} {held : Bool} {fuel : Nat} {v : Value} {x : DataW H × List MemPlace} (hsp : ∀ b, sp b = true)
  (h : DataW.trod enc Tryz.prog w 0 sp held fuel 22 [v] = some x) :
  ∃ (a : Option Addr) (cap : Nat) (xs : List Slt), v = .slice a xs.length cap ∧ xs.length ≤ maxLen ∧ LiesSs w a xs ∧ ∀ i, i < xs.length → SizeSl maxLen (xs.getD i VK) := by
 rcases DataW.trod_slice Tryz.underlying22 h with ⟨hv, _⟩ | ⟨a, len, cap, elems, rest, n, _, hcs, hx, _, hl, hm, hlen, hel, _⟩
 ·simp at hv
  exact ⟨none, 0, [], hv, Nat.zero_le _, .inl rfl, by simp⟩
 ·simp at hcs
  subst hcs
  have each : ∀ i, i < len → ∃ r : Slt, SltIn w (a.add (i * 7)) r := by
   intro i hi
   have hE := hel i hi
   rw [cellsSlot] at hE
   have hi' : i < elems.length := by omega
   rw [List.getElem?_eq_getElem hi'] at hE
   simp only [Option.bind_eq_some_iff] at hE
   obtain ⟨c1, hc1, hy1⟩ := hE
   obtain ⟨_, hn, hc⟩ := World.cells?_some hc1
   match c1, hn with
   | [e0, e1, e2, e3, e4, e5, e6], _ =>
    obtain ⟨na, nc, ra, rc, q, he, h1, h2⟩ := open_slotCells hsp hy1
    refine ⟨q, h2, [e0, e1, e2, e3, e4, e5, e6], fun j u hj => ?_, na, nc, ra, rc, he, h1⟩
    rw [← hj]
    exact hc j (by have := (List.getElem?_eq_some_iff.1 hj).1; simpa using this)
  have hch : ∃ L : Nat → Slt, ∀ i, i < len → SltIn w (a.add (i * 7)) (L i) := by
   refine ⟨fun i => if hi : i < len then (each i hi).choose else VK, fun i hi => ?_⟩
   simp only [hi, dite_true]
   exact (each i hi).choose_spec
  obtain ⟨L, hL⟩ := hch
  have hln : ((List.range len).map L).length = len := by simp
  have hget : ∀ i, i < len → ((List.range len).map L).getD i VK = L i := fun i hi => by simp [hi]
  refine ⟨some a, cap, (List.range len).map L, by rw [hln], by omega, ?_, ?_⟩
  ·by_cases h0 : len = 0
   ·subst h0; exact .inl (by simp)
   ·right
    obtain ⟨b, off, spot⟩ := a
    obtain ⟨_, vs, hc, na, nc, ra, rc, e1, _⟩ := hL 0 (by omega)
    have hc0 := hc 0 _ (by rw [e1]; rfl)
    have hspot : spot = none := by simpa [Addr.add] using World.cell?_spot hc0
    subst hspot
    refine ⟨b, off, rfl, ?_, fun i hi => ?_⟩
    ·have := cell_lt hc0
     simpa [Addr.add] using this
    rw [hln] at hi
    rw [hget i hi]
    obtain ⟨_, vs, hc, h2⟩ := hL i hi
    refine ⟨vs, fun j u hj => ?_, h2⟩
    have := hc j u hj
    rwa [Addr.add_mid, Addr.add_mid] at this
  ·intro i hi
   rw [hln] at hi
   rw [hget i hi]
   exact (hL i hi).1
set_option maxRecDepth 100000 in
theorem open_cache {H : Type} {enc : TypeId × Value → H} {w : World} {r : Reach} {b0 : Nat} {sp : Nat → Bool} {held : Bool} {v : Value} {d : DataW H} {ps : List MemPlace} (hsp : ∀ b, sp b = true)
  (hval : Value.okWide Tryz.prog w r b0 24 v) (h : DataW.Trod enc Tryz.prog w 0 sp held 24 v d ps) :
  ∃ (a : Option Addr) (k : Nat) (c : Ca), v = .agg #[.int .i64 c.now, .int .i64 c.turn, .slice a c.slots.length k] ∧ LiesSs w a c.slots ∧ SizeCa maxLen c := by
 obtain ⟨cs, rfl, hs⟩ := okWide_struct Tryz.underlying24 hval
 rw [cellsCache] at hs
 obtain ⟨e0, e1, e2, rfl⟩ : ∃ e0 e1 e2, cs = #[e0, e1, e2] := by
  cases cs with
  | mk l =>
   match l, hs with
   | [e0, e1, e2], _ => exact ⟨e0, e1, e2, rfl⟩
 obtain ⟨fuel, hf0⟩ := h
 have hcells : (Value.agg #[e0, e1, e2]).cells.toList = [e0, e1, e2] := by simp [Value.cells]
 rw [hcells] at hf0
 obtain ⟨xs, n, _, _, _, hlen, hf⟩ := DataW.trod_struct Tryz.underlying24 hf0
 match xs, hlen with
 | [y0, y1, y2], _ =>
  have h0 : DataW.trod enc Tryz.prog w 0 sp held n 3 (([e0, e1, e2].drop 0).take (Tryz.prog.cellsOf 3)) = some y0 := hf 0 _ rfl
  have h1 : DataW.trod enc Tryz.prog w 0 sp held n 3 (([e0, e1, e2].drop 1).take (Tryz.prog.cellsOf 3)) = some y1 := hf 1 _ rfl
  have h2 : DataW.trod enc Tryz.prog w 0 sp held n 22 (([e0, e1, e2].drop 2).take (Tryz.prog.cellsOf 22)) = some y2 := hf 2 _ rfl
  rw [cellsInt] at h0 h1
  rw [cellsSlots] at h2
  simp only [List.drop_zero, List.drop_succ_cons, List.take_succ_cons, List.take_zero] at h0 h1 h2
  obtain ⟨t0, f0, _, _⟩ := DataW.trod_int Tryz.underlying3 h0
  obtain ⟨t1, f1, _, _⟩ := DataW.trod_int Tryz.underlying3 h1
  obtain ⟨a, k, l, g2, l1, l2, l3⟩ := open_slots hsp h2
  simp only [List.cons.injEq, and_true] at f0 f1
  subst f0 f1 g2
  exact ⟨a, k, ⟨t0, t1, l⟩, rfl, l2, ⟨l1, l3⟩⟩
end Go.Proofs.YtaehfeobfkaicaaGreat

namespace Go.Proofs.YtaehfeobfkaicaaGreat
open Go.RowKit
set_option linter.unusedVariables false

theorem wrap_intM (x : Int) (h0 : 0 ≤ x) (h1 : x < 9223372036854775808) : IntKind.i64.wrap x = x := by
 have := wrap_small x.toNat (by omega)
 rwa [Int.toNat_of_nonneg h0] at this
theorem take_atX {cur : Array Value} {n j : Nat} (hj : j < n) : (cur.toList.take n)[j]? = cur[j]? := by
 rw [List.getElem?_take, if_pos hj, Array.getElem?_toList]
end Go.Proofs.YtaehfeobfkaicaaGreat
