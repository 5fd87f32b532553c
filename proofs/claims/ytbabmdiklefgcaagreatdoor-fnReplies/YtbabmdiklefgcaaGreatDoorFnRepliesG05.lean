/-
  Plain facts: what an update asks for. No program is named here. Plain facts: questions, wants and messages as lists and numbers, and how they lie in memory. No program is named here. Rows of drawn structs: their cells, and what these lead to, in blocks that are known by their types. Plain facts: a record's data as bytes. No program is named here. Plain facts: what DataPut and RrPut answer. No program is named here.
-/
import Derived.Test.YtbabmdiklefgcaaGreatDoorFnRepliesG04
import Derived.Test.YtbabmdiklefgcaaGreatDoorFnRepliesG03
namespace Go.Proofs.YtbabmdiklefgcaaGreatDoor
open Go.RowKit
set_option linter.unusedVariables false

def asked (t : Int) : Bool := typeOk t || decide (t = 255)
def emptyOk (r : Rec) : Bool := decide (r.addr = 0 ∧ r.to.length = 0 ∧ r.text.length = 0 ∧ r.nums.length = 0)
def bareOk (r : Rec) : Bool := nameOk r.name && (asked r.type && (decide (r.ttl = 0) && emptyOk r))
def wantOk (r : Rec) (c : Int) (b : Bool) : Bool := if b = true then decide (c = 254 ∨ c = 255) && bareOk r else if c = 1 then rrOk r else if c = 254 then rrOk r && decide (r.ttl = 0) else false

theorem cells9 {w : World} {b : Nat} {c0 c1 c2 c3 c4 c5 c6 c7 c8 : Value} {t : TypeId} (h : w.heap[b]? = some (.cells #[c0, c1, c2, c3, c4, c5, c6, c7, c8] t)) :
  w.cell? ⟨b, 0, none⟩ = some c0 ∧ w.cell? ⟨b, 1, none⟩ = some c1 ∧ w.cell? ⟨b, 2, none⟩ = some c2 ∧ w.cell? ⟨b, 3, none⟩ = some c3 ∧ w.cell? ⟨b, 4, none⟩ = some c4 ∧ w.cell? ⟨b, 5, none⟩ = some c5 ∧ w.cell? ⟨b, 6, none⟩ = some c6 ∧ w.cell? ⟨b, 7, none⟩ = some c7 ∧ w.cell? ⟨b, 8, none⟩ = some c8 :=
 ⟨VE h 0, VE h 1, VE h 2, VE h 3, VE h 4, VE h 5, VE h 6, VE h 7, VE h 8⟩
theorem frozen9 {w : World} {b : Nat} {c : Array Value} {t : TypeId} (h : w.heap[b]? = some (.cells c t)) :
  w.frozen? ⟨b, 0, none⟩ = false ∧ w.frozen? ⟨b, 1, none⟩ = false ∧ w.frozen? ⟨b, 2, none⟩ = false ∧ w.frozen? ⟨b, 3, none⟩ = false ∧ w.frozen? ⟨b, 4, none⟩ = false ∧ w.frozen? ⟨b, 5, none⟩ = false ∧ w.frozen? ⟨b, 6, none⟩ = false ∧ w.frozen? ⟨b, 7, none⟩ = false ∧ w.frozen? ⟨b, 8, none⟩ = false :=
 ⟨VG h 0, VG h 1, VG h 2, VG h 3, VG h 4, VG h 5, VG h 6, VG h 7, VG h 8⟩
def set9 (w : World) (b : Nat) (c0 c1 c2 c3 c4 c5 c6 c7 c8 : Value) : World := ((((((((w.setCell ⟨b, 0, none⟩ c0).setCell ⟨b, 1, none⟩ c1).setCell ⟨b, 2, none⟩ c2).setCell ⟨b, 3, none⟩ c3).setCell ⟨b, 4, none⟩ c4).setCell ⟨b, 5, none⟩ c5).setCell ⟨b, 6, none⟩ c6).setCell ⟨b, 7, none⟩ c7).setCell ⟨b, 8, none⟩ c8
theorem set9_is {w : World} {b : Nat} {c0 c1 c2 c3 c4 c5 c6 c7 c8 a0 a1 a2 a3 a4 a5 a6 a7 a8 : Value} {t : TypeId} (h : w.heap[b]? = some (.cells #[a0, a1, a2, a3, a4, a5, a6, a7, a8] t)) :
  (set9 w b c0 c1 c2 c3 c4 c5 c6 c7 c8).heap[b]? = some (.cells #[c0, c1, c2, c3, c4, c5, c6, c7, c8] t) ∧ Outside b (b + 1) w (set9 w b c0 c1 c2 c3 c4 c5 c6 c7 c8) := by
 have h1 : (w.setCell ⟨b, 0, none⟩ c0).heap[b]? = some (.cells #[c0, a1, a2, a3, a4, a5, a6, a7, a8] t) := UV h 0 c0
 have h2 : ((w.setCell ⟨b, 0, none⟩ c0).setCell ⟨b, 1, none⟩ c1).heap[b]? = some (.cells #[c0, c1, a2, a3, a4, a5, a6, a7, a8] t) := UV h1 1 c1
 have u2 : Outside b (b + 1) w ((w.setCell ⟨b, 0, none⟩ c0).setCell ⟨b, 1, none⟩ c1) := (UT _ _ _ _).trans (UT _ _ _ _)
 unfold set9
 generalize (w.setCell ⟨b, 0, none⟩ c0).setCell ⟨b, 1, none⟩ c1 = w2 at *
 have h3 : (w2.setCell ⟨b, 2, none⟩ c2).heap[b]? = some (.cells #[c0, c1, c2, a3, a4, a5, a6, a7, a8] t) := UV h2 2 c2
 have u3 := u2.trans (UT w2 b 2 c2)
 generalize w2.setCell ⟨b, 2, none⟩ c2 = w3 at *
 have h4 : (w3.setCell ⟨b, 3, none⟩ c3).heap[b]? = some (.cells #[c0, c1, c2, c3, a4, a5, a6, a7, a8] t) := UV h3 3 c3
 have u4 := u3.trans (UT w3 b 3 c3)
 generalize w3.setCell ⟨b, 3, none⟩ c3 = w4 at *
 have h5 : (w4.setCell ⟨b, 4, none⟩ c4).heap[b]? = some (.cells #[c0, c1, c2, c3, c4, a5, a6, a7, a8] t) := UV h4 4 c4
 have u5 := u4.trans (UT w4 b 4 c4)
 generalize w4.setCell ⟨b, 4, none⟩ c4 = w5 at *
 have h6 : (w5.setCell ⟨b, 5, none⟩ c5).heap[b]? = some (.cells #[c0, c1, c2, c3, c4, c5, a6, a7, a8] t) := UV h5 5 c5
 have u6 := u5.trans (UT w5 b 5 c5)
 generalize w5.setCell ⟨b, 5, none⟩ c5 = w6 at *
 have h7 : (w6.setCell ⟨b, 6, none⟩ c6).heap[b]? = some (.cells #[c0, c1, c2, c3, c4, c5, c6, a7, a8] t) := UV h6 6 c6
 have u7 := u6.trans (UT w6 b 6 c6)
 generalize w6.setCell ⟨b, 6, none⟩ c6 = w7 at *
 have h8 : (w7.setCell ⟨b, 7, none⟩ c7).heap[b]? = some (.cells #[c0, c1, c2, c3, c4, c5, c6, c7, a8] t) := UV h7 7 c7
 have u8 := u7.trans (UT w7 b 7 c7)
 generalize w7.setCell ⟨b, 7, none⟩ c7 = w8 at *
 exact ⟨UV h8 8 c8, u8.trans (UT w8 b 8 c8)⟩
structure Que where
 name : List (List Int)
 type : Int
structure Wnt where
 rr : Rec
 cls : Int
 bare : Bool
structure Mg where
 id : Int
 reply : Bool
 op : Int
 auth : Bool
 code : Int
 qs : List Que
 ans : List Rec
 aus : List Rec
 more : List Rec
 pres : List Wnt
 ups : List Wnt
def queZ : Que := ⟨[], 0⟩
def wntZ : Wnt := ⟨recZ, 0, false⟩

def InQu (w : World) (vs : List Value) (q : Que) : Prop := ∃ a c, vs = [.slice a q.name.length c, .int .i64 q.type] ∧ LiesL w a q.name
def HasQu (w : World) (vs : List Value) (q : Que) : Prop := ∃ v, vs = [v, .int .i64 q.type] ∧ HasL w v q.name
def OwnQu (el eb : TypeId) (B E : Nat) (w : World) (vs : List Value) (q : Que) : Prop := ∃ v, vs = [v, .int .i64 q.type] ∧ OwnN B E el eb w v q.name
def InWn (w : World) (vs : List Value) (x : Wnt) : Prop := ∃ an cn ato ct ax cx ai ci, vs = [.slice an x.rr.name.length cn, .int .i64 x.rr.type, .int .i64 x.rr.ttl, .int .i64 x.rr.addr, .slice ato x.rr.to.length ct, .slice ax x.rr.text.length cx, .slice ai x.rr.nums.length ci, .int .i64 x.cls, .bool x.bare] ∧ InR w an ato ax ai x.rr
def HasWn (w : World) (vs : List Value) (x : Wnt) : Prop := ∃ vn vt vx vi, vs = [vn, .int .i64 x.rr.type, .int .i64 x.rr.ttl, .int .i64 x.rr.addr, vt, vx, vi, .int .i64 x.cls, .bool x.bare] ∧ HasR w vn vt vx vi x.rr
def OwnWn (el eb ei : TypeId) (B E : Nat) (w : World) (vs : List Value) (x : Wnt) : Prop := ∃ vn vt vx vi, vs = [vn, .int .i64 x.rr.type, .int .i64 x.rr.ttl, .int .i64 x.rr.addr, vt, vx, vi, .int .i64 x.cls, .bool x.bare] ∧ OwnR B E el eb ei w vn vt vx vi x.rr
theorem stays_InQu : Stays InQu := fun h hb => by obtain ⟨a, c, h1, h2⟩ := h; exact ⟨a, c, h1, h2.below hb⟩
theorem stays_HasQu : Stays HasQu := fun h hb => by obtain ⟨v, h1, h2⟩ := h; exact ⟨v, h1, h2.below hb⟩
theorem stays_InWn : Stays InWn := fun h hb => by obtain ⟨an, cn, ato, ct, ax, cx, ai, ci, h1, h2⟩ := h; exact ⟨an, cn, ato, ct, ax, cx, ai, ci, h1, h2.below hb⟩
theorem stays_HasWn : Stays HasWn := fun h hb => by obtain ⟨vn, vt, vx, vi, h1, h2⟩ := h; exact ⟨vn, vt, vx, vi, h1, h2.below hb⟩
theorem ownsQu (el eb : TypeId) : OwnsG 2 (OwnQu el eb) where
 cells := fun h => by obtain ⟨v, rfl, _⟩ := h; rfl
 below := fun h hb => by obtain ⟨v, h1, h2⟩ := h; exact ⟨v, h1, h2.below hb⟩
 outside := fun h u hd => by obtain ⟨v, h1, h2⟩ := h; exact ⟨v, h1, h2.outside u hd⟩
 wide := fun h h1 h2 => by obtain ⟨v, h3, h4⟩ := h; exact ⟨v, h3, h4.wide h1 h2⟩
theorem ownsWn (el eb ei : TypeId) : OwnsG 9 (OwnWn el eb ei) where
 cells := fun h => by obtain ⟨vn, vt, vx, vi, rfl, _⟩ := h; rfl
 below := fun h hb => by obtain ⟨vn, vt, vx, vi, h1, h2⟩ := h; exact ⟨vn, vt, vx, vi, h1, h2.below hb⟩
 outside := fun h u hd => by obtain ⟨vn, vt, vx, vi, h1, h2⟩ := h; exact ⟨vn, vt, vx, vi, h1, h2.outside u hd⟩
 wide := fun h h1 h2 => by obtain ⟨vn, vt, vx, vi, h3, h4⟩ := h; exact ⟨vn, vt, vx, vi, h3, h4.wide h1 h2⟩
theorem OwnQu.has {el eb : TypeId} {B E : Nat} {w : World} {vs : List Value} {q : Que} (h : OwnQu el eb B E w vs q) : HasQu w vs q := by obtain ⟨v, h1, h2⟩ := h; exact ⟨v, h1, h2.hasL⟩
theorem OwnWn.has {el eb ei : TypeId} {B E : Nat} {w : World} {vs : List Value} {x : Wnt} (h : OwnWn el eb ei B E w vs x) : HasWn w vs x := by obtain ⟨vn, vt, vx, vi, h1, h2⟩ := h; exact ⟨vn, vt, vx, vi, h1, h2.hasR⟩
structure SizeQu (m : Nat) (q : Que) : Prop where
 name : q.name.length ≤ m
 names : ∀ i, i < q.name.length → (q.name.getD i []).length ≤ m
theorem SizeQu.mono {m m' : Nat} {q : Que} (h : SizeQu m q) (hm : m ≤ m') : SizeQu m' q := ⟨Nat.le_trans h.name hm, fun i hi => Nat.le_trans (h.names i hi) hm⟩

abbrev LiesQs (w : World) (a : Option Addr) (l : List Que) : Prop := LiesG 2 InQu queZ w a l
abbrev HasQs (w : World) (v : Value) (l : List Que) : Prop := HasG 2 HasQu queZ w v l
abbrev LiesWs (w : World) (a : Option Addr) (l : List Wnt) : Prop := LiesG 9 InWn wntZ w a l
abbrev HasWs (w : World) (v : Value) (l : List Wnt) : Prop := HasG 9 HasWn wntZ w v l

theorem keptQs {w w' : World} {v : Value} {l : List Que} (h : HasQs w v l) (hb : Below w.heap.size w w') : HasQs w' v l := HasG.below stays_HasQu h hb
theorem keptWs {w w' : World} {v : Value} {l : List Wnt} (h : HasWs w v l) (hb : Below w.heap.size w w') : HasWs w' v l := HasG.below stays_HasWn h hb

structure InM (w : World) (aq aa ab am ap au : Option Addr) (m : Mg) : Prop where
 qs : LiesQs w aq m.qs
 ans : LiesRs w aa m.ans
 aus : LiesRs w ab m.aus
 more : LiesRs w am m.more
 pres : LiesWs w ap m.pres
 ups : LiesWs w au m.ups
theorem InM.below {w w' : World} {aq aa ab am ap au : Option Addr} {m : Mg} (h : InM w aq aa ab am ap au m) (hb : Below w.heap.size w w') : InM w' aq aa ab am ap au m :=
 ⟨LiesG.below stays_InQu h.qs hb, h.ans.below hb, h.aus.below hb, h.more.below hb, LiesG.below stays_InWn h.pres hb, LiesG.below stays_InWn h.ups hb⟩
structure HasM (w : World) (vq va vb vm vp vu : Value) (m : Mg) : Prop where
 qs : HasQs w vq m.qs
 ans : HasRs w va m.ans
 aus : HasRs w vb m.aus
 more : HasRs w vm m.more
 pres : HasWs w vp m.pres
 ups : HasWs w vu m.ups
theorem HasM.below {w w' : World} {vq va vb vm vp vu : Value} {m : Mg} (h : HasM w vq va vb vm vp vu m) (hb : Below w.heap.size w w') : HasM w' vq va vb vm vp vu m :=
 ⟨HasG.below stays_HasQu h.qs hb, h.ans.below hb, h.aus.below hb, h.more.below hb, HasG.below stays_HasWn h.pres hb, HasG.below stays_HasWn h.ups hb⟩
structure SizeM (s : Nat) (m : Mg) : Prop where
 qs : ∀ i, i < m.qs.length → SizeQu s (m.qs.getD i queZ)
 ans : ∀ i, i < m.ans.length → SizeR s (m.ans.getD i recZ)
 aus : ∀ i, i < m.aus.length → SizeR s (m.aus.getD i recZ)
 more : ∀ i, i < m.more.length → SizeR s (m.more.getD i recZ)
 pres : ∀ i, i < m.pres.length → SizeR s (m.pres.getD i wntZ).rr
 ups : ∀ i, i < m.ups.length → SizeR s (m.ups.getD i wntZ).rr
theorem SizeM.mono {s s' : Nat} {m : Mg} (h : SizeM s m) (hm : s ≤ s') : SizeM s' m :=
 ⟨fun i hi => (h.qs i hi).mono hm, fun i hi => (h.ans i hi).mono hm, fun i hi => (h.aus i hi).mono hm, fun i hi => (h.more i hi).mono hm, fun i hi => (h.pres i hi).mono hm, fun i hi => (h.ups i hi).mono hm⟩
def Mg.count (m : Mg) : Nat := m.qs.length + m.ans.length + m.aus.length + m.more.length + m.pres.length + m.ups.length

theorem cells11 {w : World} {b : Nat} {c0 c1 c2 c3 c4 c5 c6 c7 c8 c9 c10 : Value} {t : TypeId} (h : w.heap[b]? = some (.cells #[c0, c1, c2, c3, c4, c5, c6, c7, c8, c9, c10] t)) :
  w.cell? ⟨b, 0, none⟩ = some c0 ∧ w.cell? ⟨b, 1, none⟩ = some c1 ∧ w.cell? ⟨b, 2, none⟩ = some c2 ∧ w.cell? ⟨b, 3, none⟩ = some c3 ∧ w.cell? ⟨b, 4, none⟩ = some c4 ∧ w.cell? ⟨b, 5, none⟩ = some c5 ∧ w.cell? ⟨b, 6, none⟩ = some c6 ∧ w.cell? ⟨b, 7, none⟩ = some c7 ∧ w.cell? ⟨b, 8, none⟩ = some c8 ∧ w.cell? ⟨b, 9, none⟩ = some c9 ∧ w.cell? ⟨b, 10, none⟩ = some c10 :=
 ⟨VE h 0, VE h 1, VE h 2, VE h 3, VE h 4, VE h 5, VE h 6, VE h 7, VE h 8, VE h 9, VE h 10⟩
theorem frozen11 {w : World} {b : Nat} {c : Array Value} {t : TypeId} (h : w.heap[b]? = some (.cells c t)) :
  w.frozen? ⟨b, 0, none⟩ = false ∧ w.frozen? ⟨b, 1, none⟩ = false ∧ w.frozen? ⟨b, 2, none⟩ = false ∧ w.frozen? ⟨b, 3, none⟩ = false ∧ w.frozen? ⟨b, 4, none⟩ = false ∧ w.frozen? ⟨b, 5, none⟩ = false ∧ w.frozen? ⟨b, 6, none⟩ = false ∧ w.frozen? ⟨b, 7, none⟩ = false ∧ w.frozen? ⟨b, 8, none⟩ = false ∧ w.frozen? ⟨b, 9, none⟩ = false ∧ w.frozen? ⟨b, 10, none⟩ = false :=
 ⟨VG h 0, VG h 1, VG h 2, VG h 3, VG h 4, VG h 5, VG h 6, VG h 7, VG h 8, VG h 9, VG h 10⟩
def set11 (w : World) (b : Nat) (c0 c1 c2 c3 c4 c5 c6 c7 c8 c9 c10 : Value) : World := ((((((((((w.setCell ⟨b, 0, none⟩ c0).setCell ⟨b, 1, none⟩ c1).setCell ⟨b, 2, none⟩ c2).setCell ⟨b, 3, none⟩ c3).setCell ⟨b, 4, none⟩ c4).setCell ⟨b, 5, none⟩ c5).setCell ⟨b, 6, none⟩ c6).setCell ⟨b, 7, none⟩ c7).setCell ⟨b, 8, none⟩ c8).setCell ⟨b, 9, none⟩ c9).setCell ⟨b, 10, none⟩ c10
theorem set11_is {w : World} {b : Nat} {c0 c1 c2 c3 c4 c5 c6 c7 c8 c9 c10 a0 a1 a2 a3 a4 a5 a6 a7 a8 a9 a10 : Value} {t : TypeId} (h : w.heap[b]? = some (.cells #[a0, a1, a2, a3, a4, a5, a6, a7, a8, a9, a10] t)) :
  (set11 w b c0 c1 c2 c3 c4 c5 c6 c7 c8 c9 c10).heap[b]? = some (.cells #[c0, c1, c2, c3, c4, c5, c6, c7, c8, c9, c10] t) ∧ Outside b (b + 1) w (set11 w b c0 c1 c2 c3 c4 c5 c6 c7 c8 c9 c10) := by
 unfold set11
 have u0 : Outside b (b + 1) w w := Outside.refl _ _ _
 have h1 : (w.setCell ⟨b, 0, none⟩ c0).heap[b]? = some (.cells #[c0, a1, a2, a3, a4, a5, a6, a7, a8, a9, a10] t) := UV h 0 c0
 have u1 := u0.trans (UT w b 0 c0)
 generalize w.setCell ⟨b, 0, none⟩ c0 = w1 at *
 have h2 : (w1.setCell ⟨b, 1, none⟩ c1).heap[b]? = some (.cells #[c0, c1, a2, a3, a4, a5, a6, a7, a8, a9, a10] t) := UV h1 1 c1
 have u2 := u1.trans (UT w1 b 1 c1)
 generalize w1.setCell ⟨b, 1, none⟩ c1 = w2 at *
 have h3 : (w2.setCell ⟨b, 2, none⟩ c2).heap[b]? = some (.cells #[c0, c1, c2, a3, a4, a5, a6, a7, a8, a9, a10] t) := UV h2 2 c2
 have u3 := u2.trans (UT w2 b 2 c2)
 generalize w2.setCell ⟨b, 2, none⟩ c2 = w3 at *
 have h4 : (w3.setCell ⟨b, 3, none⟩ c3).heap[b]? = some (.cells #[c0, c1, c2, c3, a4, a5, a6, a7, a8, a9, a10] t) := UV h3 3 c3
 have u4 := u3.trans (UT w3 b 3 c3)
 generalize w3.setCell ⟨b, 3, none⟩ c3 = w4 at *
 have h5 : (w4.setCell ⟨b, 4, none⟩ c4).heap[b]? = some (.cells #[c0, c1, c2, c3, c4, a5, a6, a7, a8, a9, a10] t) := UV h4 4 c4
 have u5 := u4.trans (UT w4 b 4 c4)
 generalize w4.setCell ⟨b, 4, none⟩ c4 = w5 at *
 have h6 : (w5.setCell ⟨b, 5, none⟩ c5).heap[b]? = some (.cells #[c0, c1, c2, c3, c4, c5, a6, a7, a8, a9, a10] t) := UV h5 5 c5
 have u6 := u5.trans (UT w5 b 5 c5)
 generalize w5.setCell ⟨b, 5, none⟩ c5 = w6 at *
 have h7 : (w6.setCell ⟨b, 6, none⟩ c6).heap[b]? = some (.cells #[c0, c1, c2, c3, c4, c5, c6, a7, a8, a9, a10] t) := UV h6 6 c6
 have u7 := u6.trans (UT w6 b 6 c6)
 generalize w6.setCell ⟨b, 6, none⟩ c6 = w7 at *
 have h8 : (w7.setCell ⟨b, 7, none⟩ c7).heap[b]? = some (.cells #[c0, c1, c2, c3, c4, c5, c6, c7, a8, a9, a10] t) := UV h7 7 c7
 have u8 := u7.trans (UT w7 b 7 c7)
 generalize w7.setCell ⟨b, 7, none⟩ c7 = w8 at *
 have h9 : (w8.setCell ⟨b, 8, none⟩ c8).heap[b]? = some (.cells #[c0, c1, c2, c3, c4, c5, c6, c7, c8, a9, a10] t) := UV h8 8 c8
 have u9 := u8.trans (UT w8 b 8 c8)
 generalize w8.setCell ⟨b, 8, none⟩ c8 = w9 at *
 have h10 : (w9.setCell ⟨b, 9, none⟩ c9).heap[b]? = some (.cells #[c0, c1, c2, c3, c4, c5, c6, c7, c8, c9, a10] t) := UV h9 9 c9
 have u10 := u9.trans (UT w9 b 9 c9)
 generalize w9.setCell ⟨b, 9, none⟩ c9 = w10 at *
 have h11 : (w10.setCell ⟨b, 10, none⟩ c10).heap[b]? = some (.cells #[c0, c1, c2, c3, c4, c5, c6, c7, c8, c9, c10] t) := UV h10 10 c10
 have u11 := u10.trans (UT w10 b 10 c10)
 exact ⟨h11, u11⟩
theorem range2 {w : World} {b o : Nat} {c0 c1 : Value} (h : w.rangeAt b o [c0, c1]) : w.cell? ⟨b, o, none⟩ = some c0 ∧ w.cell? ⟨b, o + 1, none⟩ = some c1 := ⟨h 0 c0 rfl, h 1 c1 rfl⟩
theorem range9 {w : World} {b o : Nat} {c0 c1 c2 c3 c4 c5 c6 c7 c8 : Value} (h : w.rangeAt b o [c0, c1, c2, c3, c4, c5, c6, c7, c8]) :
  w.cell? ⟨b, o, none⟩ = some c0 ∧ w.cell? ⟨b, o + 1, none⟩ = some c1 ∧ w.cell? ⟨b, o + 2, none⟩ = some c2 ∧ w.cell? ⟨b, o + 3, none⟩ = some c3 ∧ w.cell? ⟨b, o + 4, none⟩ = some c4 ∧ w.cell? ⟨b, o + 5, none⟩ = some c5 ∧ w.cell? ⟨b, o + 6, none⟩ = some c6 ∧ w.cell? ⟨b, o + 7, none⟩ = some c7 ∧ w.cell? ⟨b, o + 8, none⟩ = some c8 :=
 ⟨h 0 c0 rfl, h 1 c1 rfl, h 2 c2 rfl, h 3 c3 rfl, h 4 c4 rfl, h 5 c5 rfl, h 6 c6 rfl, h 7 c7 rfl, h 8 c8 rfl⟩
structure DrawnG {α : Type} (c : Nat) (T : List TypeId) (D : World → List Value → α → Prop) : Prop where
 cells : ∀ {w : World} {vs : List Value} {x : α}, D w vs x → vs.length = c
 below : ∀ {w w' : World} {vs : List Value} {x : α}, D w vs x → Below w.heap.size w w' → D w' vs x
 off : ∀ {w w' : World} {vs : List Value} {x : α} {q : Nat} {t : TypeId} {cc : Array Value}, D w vs x → w.heap[q]? = some (.cells cc t) → t ∉ T → w.grownBy w' (some q) → D w' vs x
def RowDr {α : Type} (c : Nat) (D : World → List Value → α → Prop) (d : α) (B E : Nat) (e : TypeId) (w : World) (v : Value) (xs : List α) : Prop :=
 ∃ cs : List Value, w.ownsRow B e c v xs.length cs ∧ (∀ q, v.ownBlock = some q → q < E) ∧ ∀ i, i < xs.length → ∃ vs, (∀ j u, vs[j]? = some u → cs[i * c + j]? = some u) ∧ D w vs (xs.getD i d)
section
variable {α : Type} {c : Nat} {T : List TypeId} {D : World → List Value → α → Prop} {d : α} {B E : Nat} {e : TypeId} {w w' : World} {v : Value} {xs : List α}
theorem RowDr.nil (w : World) : RowDr c D d B E e w (.slice none 0 0) [] :=
 ⟨[], World.ownsRow_nil _ _ _ _, (fun q hq => by cases hq), fun i hi => absurd hi (by simp)⟩
theorem RowDr.own (h : RowDr c D d B E e w v xs) : ∃ cs, w.ownsRow B e c v xs.length cs := by obtain ⟨cs, h1, _⟩ := h; exact ⟨cs, h1⟩
theorem RowDr.where_ (h : RowDr c D d B E e w v xs) {q : Nat} (hq : v.ownBlock = some q) : B ≤ q ∧ q < E ∧ ∃ cur, w.heap[q]? = some (.cells cur e) := by
 obtain ⟨cs, h1, h2, _⟩ := h
 rcases h1.2 with ⟨rfl, _⟩ | ⟨g, cap, cur, rfl, hb, hg, _⟩
 ·cases hq
 ·have e1 : g = q := by simpa [Value.ownBlock] using hq
  subst e1
  exact ⟨hb, h2 g rfl, cur, hg⟩
theorem RowDr.keep (h : RowDr c D d B E e w v xs) (hg : w.grownBy w' v.ownBlock) {q : Nat} {t : TypeId} {cc : Array Value} (hk : w.heap[q]? = some (.cells cc t)) (ht : t ≠ e) : w'.heap[q]? = some (.cells cc t) := by
 refine (hg.block q (VC hk) fun e1 => ?_).trans hk
 obtain ⟨_, _, cur, h3⟩ := h.where_ e1.symm
 rw [hk] at h3
 simp at h3
 exact ht h3.2
theorem RowDr.wide {B' E' : Nat} (h : RowDr c D d B E e w v xs) (hB : B' ≤ B) (hE : E ≤ E') : RowDr c D d B' E' e w v xs := by
 obtain ⟨cs, h1, h2, h3⟩ := h
 refine ⟨cs, ⟨h1.1, ?_⟩, fun q hq => Nat.lt_of_lt_of_le (h2 q hq) hE, h3⟩
 rcases h1.2 with hn | ⟨g, cap, cur, hv, hb, rest⟩
 ·exact .inl hn
 ·exact .inr ⟨g, cap, cur, hv, Nat.le_trans hB hb, rest⟩
theorem RowDr.below (hD : DrawnG c T D) (h : RowDr c D d B E e w v xs) (hb : Below w.heap.size w w') : RowDr c D d B E e w' v xs := by
 obtain ⟨cs, h1, h2, h3⟩ := h
 refine ⟨cs, row_later h1 hb, h2, fun i hi => ?_⟩
 obtain ⟨vs, h4, h5⟩ := h3 i hi
 exact ⟨vs, h4, hD.below h5 hb⟩
theorem RowDr.off (hD : DrawnG c T D) (h : RowDr c D d B E e w v xs) {q : Nat} {t : TypeId} {cc : Array Value} (hk : w.heap[q]? = some (.cells cc t)) (ht : t ∉ T) (hq : t ≠ e ∨ q < B ∨ E ≤ q) (hg : w.grownBy w' (some q)) : RowDr c D d B E e w' v xs := by
 have hap : v.ownBlock ≠ some q := fun e1 => by
  obtain ⟨h1, h2, cur, h3⟩ := h.where_ e1
  rw [hk] at h3
  simp at h3
  rcases hq with hq | hq
  ·exact hq h3.2
  ·omega
 obtain ⟨cs, h1, h2, h3⟩ := h
 refine ⟨cs, World.ownsRow.kept h1 hg (.inr hap), h2, fun i hi => ?_⟩
 obtain ⟨vs, h4, h5⟩ := h3 i hi
 exact ⟨vs, h4, hD.off h5 hk ht hg⟩
theorem RowDr.apart (hD : DrawnG c T D) (h : RowDr c D d B E e w v xs) {c2 n B2 : Nat} {e2 : TypeId} {v2 : Value} {ys : List Value} (h2 : w.ownsRow B2 e2 c2 v2 n ys) (ht : e2 ∉ T) (hq : e2 ≠ e ∨ ∀ q, v2.ownBlock = some q → q < B ∨ E ≤ q) (hg : w.grownBy w' v2.ownBlock) : RowDr c D d B E e w' v xs := by
 rcases h2.2 with ⟨rfl, _⟩ | ⟨g, cap, cur, rfl, hb, hk, _⟩
 ·exact h.below hD (below_of_grown hg)
 ·refine h.off hD hk ht ?_ hg
  rcases hq with hq | hq
  ·exact .inl hq
  ·exact .inr (hq g rfl)
theorem RowDr.hasG {H : World → List Value → α → Prop} (hD : DrawnG c T D) (hH : ∀ {w : World} {vs : List Value} {x : α}, D w vs x → H w vs x) (h : RowDr c D d B E e w v xs) : HasG c H d w v xs := by
 obtain ⟨cs, ho, _, hx⟩ := h
 have ho' := ho
 rcases ho.2 with ⟨rfl, hn⟩ | ⟨b, cap, cur, rfl, hB, hg, hn, hm, hs, ht⟩
 ·exact .inl ⟨rfl, List.eq_nil_of_length_eq_zero hn⟩
 ·refine .inr ⟨b, 0, cap, rfl, VC hg, hn, hm, fun i hi => ?_⟩
  obtain ⟨vs, q1, q2⟩ := hx i hi
  refine ⟨vs, fun j u hj => ?_, hH q2⟩
  have hj7 : j < c := by have := (List.getElem?_eq_some_iff.1 hj).1; rw [hD.cells q2] at this; exact this
  rw [Nat.zero_add, World.ownsRow.cellAt ho' (i * c + j) (idx_lt hi hj7)]
  exact q1 j u hj
theorem RowDr.form (h : RowDr c D d B E e w v xs) : ∃ a cap, v = .slice a xs.length cap ∧ xs.length ≤ cap ∧ cap ≤ maxLen := by
 obtain ⟨cs, ho, _⟩ := h
 rcases ho.2 with ⟨rfl, hn⟩ | ⟨b, cap, cur, rfl, hB, hg, hn, hm, hs, ht⟩
 ·exact ⟨none, 0, by rw [hn], by omega, Nat.zero_le _⟩
 ·exact ⟨_, cap, rfl, hn, hm⟩
theorem RowDr.snoc (hD : DrawnG c T D) (h : RowDr c D d B E e w v xs) {v' : Value} {vs : List Value} {x : α} (hx : D w vs x) (he : e ∉ T) (hg : w.grownBy w' v.ownBlock)
  (ho : ∀ cs, w.ownsRow B e c v xs.length cs → w'.ownsRow B e c v' (xs.length + 1) (cs ++ vs)) : RowDr c D d B w'.heap.size e w' v' (xs ++ [x]) := by
 have keep : ∀ {vs : List Value} {x : α}, D w vs x → D w' vs x := fun {vs x} hd => by
  cases hb : v.ownBlock with
  | none => rw [hb] at hg; exact hD.below hd (below_of_grown hg)
  | some q =>
   obtain ⟨_, _, cur, hk⟩ := h.where_ hb
   rw [hb] at hg
   exact hD.off hd hk he hg
 obtain ⟨cs, h0, _, h2⟩ := h
 have ho' := ho cs h0
 have hlen : cs.length = xs.length * c := h0.1
 refine ⟨cs ++ vs, by rw [List.length_append]; exact ho', fun q e1 => (World.ownsRow.lt ho' q e1).2, fun i hi => ?_⟩
 rw [List.length_append] at hi
 simp only [List.length_cons, List.length_nil] at hi
 by_cases hlt : i < xs.length
 ·obtain ⟨us, q1, q2⟩ := h2 i hlt
  have e1 : (xs ++ [x]).getD i d = xs.getD i d := by rw [List.getD_eq_getElem?_getD, List.getElem?_append_left hlt, ← List.getD_eq_getElem?_getD]
  rw [e1]
  refine ⟨us, fun j u hj => ?_, keep q2⟩
  have := q1 j u hj
  have hl := (List.getElem?_eq_some_iff.1 this).1
  rw [List.getElem?_append_left hl]
  exact this
 ·obtain rfl : i = xs.length := by omega
  have e1 : (xs ++ [x]).getD xs.length d = x := by rw [List.getD_eq_getElem?_getD]; simp
  rw [e1]
  refine ⟨vs, fun j u hj => ?_, keep hx⟩
  rw [List.getElem?_append_right (by omega), hlen, Nat.add_sub_cancel_left]
  exact hj
theorem RowDr.one {q : Nat} {vs : List Value} {x : α} (hD : DrawnG c T D) (hk : w.heap[q]? = some (.cells vs.toArray e)) (hx : D w vs x) (hB : B ≤ q) (hE : q < E) : RowDr c D d B E e w (.slice (some ⟨q, 0, none⟩) 1 1) [x] := by
 have hl := hD.cells hx
 refine ⟨vs, ⟨by simp [hl], .inr ⟨q, 1, vs.toArray, rfl, hB, hk, Nat.le_refl _, by unfold maxLen; omega, by simp [hl], List.take_of_length_le (by simp [hl])⟩⟩, fun q' e1 => ?_, fun i hi => ?_⟩
 ·have : q = q' := by simpa [Value.ownBlock] using e1
  omega
 ·obtain rfl : i = 0 := by simpa using hi
  exact ⟨vs, fun j u hj => by rw [Nat.zero_mul, Nat.zero_add]; exact hj, hx⟩
end
def DrawQu (w : World) (vs : List Value) (q : Que) : Prop := ∃ v, vs = [v, .int .i64 q.type] ∧ OwnT 0 22 5 w v q.name
def DrawRr (w : World) (vs : List Value) (r : Rec) : Prop := ∃ vn vt vx vi, vs = cellsR vn vt vx vi r ∧ DrawR w vn vt vx vi r
def DrawWn (w : World) (vs : List Value) (x : Wnt) : Prop := ∃ vn vt vx vi, vs = [vn, .int .i64 x.rr.type, .int .i64 x.rr.ttl, .int .i64 x.rr.addr, vt, vx, vi, .int .i64 x.cls, .bool x.bare] ∧ DrawR w vn vt vx vi x.rr
abbrev tysR : List TypeId := [22, 5, 3]
theorem drawnQu : DrawnG 2 tysR DrawQu where
 cells := fun h => by obtain ⟨v, rfl, _⟩ := h; rfl
 below := fun h hb => by obtain ⟨v, h1, h2⟩ := h; exact ⟨v, h1, h2.below hb⟩
 off := fun h hk ht hg => by
  obtain ⟨v, h1, h2⟩ := h
  simp only [List.mem_cons, List.not_mem_nil, or_false, not_or] at ht
  exact ⟨v, h1, h2.off hk ht.1 ht.2.1 hg⟩
theorem drawnRr : DrawnG 7 tysR DrawRr where
 cells := fun h => by obtain ⟨vn, vt, vx, vi, rfl, _⟩ := h; rfl
 below := fun h hb => by obtain ⟨vn, vt, vx, vi, h1, h2⟩ := h; exact ⟨vn, vt, vx, vi, h1, h2.below hb⟩
 off := fun h hk ht hg => by
  obtain ⟨vn, vt, vx, vi, h1, h2⟩ := h
  simp only [List.mem_cons, List.not_mem_nil, or_false, not_or] at ht
  exact ⟨vn, vt, vx, vi, h1, h2.off hk ht.1 ht.2.1 ht.2.2 hg⟩
theorem drawnWn : DrawnG 9 tysR DrawWn where
 cells := fun h => by obtain ⟨vn, vt, vx, vi, rfl, _⟩ := h; rfl
 below := fun h hb => by obtain ⟨vn, vt, vx, vi, h1, h2⟩ := h; exact ⟨vn, vt, vx, vi, h1, h2.below hb⟩
 off := fun h hk ht hg => by
  obtain ⟨vn, vt, vx, vi, h1, h2⟩ := h
  simp only [List.mem_cons, List.not_mem_nil, or_false, not_or] at ht
  exact ⟨vn, vt, vx, vi, h1, h2.off hk ht.1 ht.2.1 ht.2.2 hg⟩
abbrev RowQd (B E : Nat) (w : World) (v : Value) (l : List Que) : Prop := RowDr 2 DrawQu queZ B E 39 w v l
abbrev RowRd (B E : Nat) (w : World) (v : Value) (l : List Rec) : Prop := RowDr 7 DrawRr recZ B E 63 w v l
abbrev RowWd (B E : Nat) (w : World) (v : Value) (l : List Wnt) : Prop := RowDr 9 DrawWn wntZ B E 66 w v l
theorem RowQd.has {B E : Nat} {w : World} {v : Value} {l : List Que} (h : RowQd B E w v l) : HasQs w v l := RowDr.hasG drawnQu (fun h => by obtain ⟨v, h1, h2⟩ := h; exact ⟨v, h1, h2.hasL⟩) h
theorem RowWd.has {B E : Nat} {w : World} {v : Value} {l : List Wnt} (h : RowWd B E w v l) : HasWs w v l := RowDr.hasG drawnWn (fun h => by obtain ⟨vn, vt, vx, vi, h1, h2⟩ := h; exact ⟨vn, vt, vx, vi, h1, h2.hasR⟩) h
theorem RowRd.has {B E : Nat} {w : World} {v : Value} {l : List Rec} (h : RowRd B E w v l) : HasRs w v l := by
 have h' : HasG 7 (fun w vs r => ∃ vn vt vx vi, vs = cellsR vn vt vx vi r ∧ HasR w vn vt vx vi r) recZ w v l := RowDr.hasG drawnRr (fun h => by obtain ⟨vn, vt, vx, vi, h1, h2⟩ := h; exact ⟨vn, vt, vx, vi, h1, h2.hasR⟩) h
 rcases h' with h | ⟨g, off, cap, hv, hlt, hl, hm, hc⟩
 ·exact .inl h
 ·refine .inr ⟨g, off, cap, hv, hlt, hl, hm, fun i hi => ?_⟩
  obtain ⟨vs, h1, vn, vt, vx, vi, rfl, h3⟩ := hc i hi
  exact ⟨vn, vt, vx, vi, h1, h3⟩
end Go.Proofs.YtbabmdiklefgcaaGreatDoor

namespace Go.Proofs.YtbabmdiklefgcaaGreatDoor
open Go.RowKit

def dataB (r : Rec) : List Int :=
 if r.type = 1 then put32 [] r.addr else if r.type = 6 then put32 (put32 (wire r.to) (r.nums.getD 0 0)) (r.nums.getD 1 0) else if named r.type = true then wire r.to else (r.text.length : Int) :: r.text

theorem data_kinds {r : Rec} (ht : typeOk r.type = true) (h : dataOk r = true) :
  (r.type = 1 ∧ 0 ≤ r.addr ∧ r.addr ≤ 4294967295 ∧ dataB r = put32 [] r.addr) ∨ ((r.type = 2 ∨ r.type = 5 ∨ r.type = 12) ∧ nameOk r.to = true ∧ dataB r = wire r.to) ∨
  (r.type = 6 ∧ nameOk r.to = true ∧ (∃ x y, r.nums = [x, y] ∧ 0 ≤ x ∧ x ≤ 4294967295 ∧ 0 ≤ y ∧ y ≤ 100000 ∧ dataB r = put32 (put32 (wire r.to) x) y)) ∨ ((r.type = 16 ∨ r.type = 49) ∧ r.text.length ≤ 40 ∧ dataB r = (r.text.length : Int) :: r.text) := by
 have ht' : r.type = 1 ∨ r.type = 2 ∨ r.type = 5 ∨ r.type = 6 ∨ r.type = 12 ∨ r.type = 16 ∨ r.type = 49 := of_decide_eq_true ht
 unfold dataOk at h
 simp only [Bool.and_eq_true] at h
 obtain ⟨h1, h2, h3, h4⟩ := h
 by_cases e1 : r.type = 1
 ·left
  rw [if_pos e1] at h1
  have := of_decide_eq_true h1
  exact ⟨e1, this.1, this.2, by unfold dataB; rw [if_pos e1]⟩
 by_cases e6 : r.type = 6
 ·right; right; left
  have hn : named r.type = true := decide_eq_true (by omega)
  rw [if_pos hn] at h2
  rw [if_pos e6] at h4
  have h5 := of_decide_eq_true h4
  obtain ⟨x, y, hxy⟩ := two_of h5.1
  rw [hxy] at h5
  refine ⟨e6, h2, x, y, hxy, h5.2.1, h5.2.2.1, h5.2.2.2.1, h5.2.2.2.2, ?_⟩
  unfold dataB
  rw [if_neg e1, if_pos e6, hxy]
  rfl
 by_cases en : r.type = 2 ∨ r.type = 5 ∨ r.type = 12
 ·right; left
  have hn : named r.type = true := decide_eq_true (by omega)
  rw [if_pos hn] at h2
  exact ⟨en, h2, by unfold dataB; rw [if_neg e1, if_neg e6, if_pos hn]⟩
 ·right; right; right
  have hx : texted r.type = true := decide_eq_true (by omega)
  have hn : ¬ named r.type = true := by
   intro hh
   have : r.type = 2 ∨ r.type = 5 ∨ r.type = 6 ∨ r.type = 12 := of_decide_eq_true hh
   omega
  rw [if_pos hx] at h3
  exact ⟨by omega, of_decide_eq_true h3, by unfold dataB; rw [if_neg e1, if_neg e6, if_neg hn]⟩
theorem rrOk_parts {r : Rec} (h : rrOk r = true) : nameOk r.name = true ∧ typeOk r.type = true ∧ 0 ≤ r.ttl ∧ r.ttl ≤ 100000 ∧ dataOk r = true := by
 unfold rrOk at h
 simp only [Bool.and_eq_true] at h
 have := of_decide_eq_true h.2.2.1
 exact ⟨h.1, h.2.1, this.1, this.2, h.2.2.2⟩
theorem dataB_length {r : Rec} (h : rrOk r = true) : (dataB r).length ≤ 105 := by
 obtain ⟨_, ht, _, _, hd⟩ := rrOk_parts h
 rcases data_kinds ht hd with ⟨_, _, _, e⟩ | ⟨_, hn, e⟩ | ⟨_, hn, x, y, _, _, _, _, _, e⟩ | ⟨_, hx, e⟩
 ·rw [e]; have := put32_length [] r.addr; simp at this; omega
 ·rw [e]; have := wire_length r.to hn; omega
 ·rw [e]
  have h1 := wire_length r.to hn
  have h2 := put32_length (wire r.to) x
  have h3 := put32_length (put32 (wire r.to) x) y
  omega
 ·rw [e]; simp; omega
end Go.Proofs.YtbabmdiklefgcaaGreatDoor

namespace Go.Proofs.YtbabmdiklefgcaaGreatDoor
open Go.RowKit

def classB (l : List Int) (r : Rec) (c : Int) (D : List Int) : List Int := put16 (put32 (put16 (put16 (l ++ wire r.name) r.type) c) r.ttl) D.length ++ D
end Go.Proofs.YtbabmdiklefgcaaGreatDoor
