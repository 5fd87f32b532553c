/-
  Contracts of the program's kindOf and TypeOk, and of the specification's TypeOk. Plain facts: which records may be. No program is named here. Plain facts: what an update asks for. No program is named here. Plain facts: questions, wants and messages as lists and numbers, and how they lie in memory. No program is named here. Messages that own their lists. Plain facts: a block of two cells. Contracts of the helpers of the laws for slices of numbers (toIntS, eqIntS, markIntS, heldIntS). Contracts of the byte helpers of the laws (toByteS, eqByteS): what each answers and what it leaves in memory, for every slice of at most 1048576 bytes.
-/
import Derived.Test.YtfpenlobnnlnfaaGreatDoorMsgTextG03
import Derived.Test.YtfpenlobnnlnfaaGreatDoorMsgTextG02
import Derived.Test.YtfpenlobnnlnfaaGreatDoorMsgTextG00
import Derived.Test.YtfpenlobnnlnfaaGreatDoorMsgTextG01
namespace Go.Proofs.YtfpenlobnnlnfaaGreatDoor
open Go.RowKit
set_option linter.unusedVariables false
set_option maxHeartbeats 800000
set_option maxRecDepth 100000

def typeOk (t : Int) : Bool := decide (t = 1 ∨ t = 2 ∨ t = 5 ∨ t = 6 ∨ t = 12 ∨ t = 16 ∨ t = 49)

def kindV (t : Int) : Value := if t = 1 then .iface 148 (.agg #[.int .i64 0]) else if t = 2 ∨ t = 5 ∨ t = 12 then .iface 150 (.agg #[.slice none 0 0]) else if t = 6 then .iface 152 (.agg #[.slice none 0 0, .slice none 0 0]) else if t = 16 ∨ t = 49 then .iface 154 (.agg #[.slice none 0 0]) else .nilIface

theorem type_cases (t : Int) : t = 1 ∨ t = 2 ∨ t = 5 ∨ t = 6 ∨ t = 12 ∨ t = 16 ∨ t = 49 ∨ typeOk t = false := by
 by_cases h : t = 1 ∨ t = 2 ∨ t = 5 ∨ t = 6 ∨ t = 12 ∨ t = 16 ∨ t = 49
 ·omega
 ·have : typeOk t = false := decide_eq_false h
  simp [this]
theorem type_other {t : Int} (h : typeOk t = false) : (t == 1) = false ∧ (t == 2) = false ∧ (t == 5) = false ∧ (t == 6) = false ∧ (t == 12) = false ∧ (t == 16) = false ∧ (t == 49) = false := by
 have h' : ¬ (t = 1 ∨ t = 2 ∨ t = 5 ∨ t = 6 ∨ t = 12 ∨ t = 16 ∨ t = 49) := of_decide_eq_false h
 simp only [beq_eq_false_iff_ne]
 omega
theorem kindV_other {t : Int} (h : typeOk t = false) : kindV t = .nilIface := by
 have h' : ¬ (t = 1 ∨ t = 2 ∨ t = 5 ∨ t = 6 ∨ t = 12 ∨ t = 16 ∨ t = 49) := of_decide_eq_false h
 unfold kindV
 rw [if_neg (by omega), if_neg (by omega), if_neg (by omega), if_neg (by omega)]

theorem kindOf_any (t : Int) (w : World) : Calls Tryz.prog 116 #[.int .i64 t] w fun e w' => e = .returned (kindV t) ∧ w = w' := by
 rcases type_cases t with rfl | rfl | rfl | rfl | rfl | rfl | rfl | h
 iterate 7
  ·go_enter Tryz.func116, Tryz.ntmps116
   go_wp2
   go_ret
   exact ⟨rfl, rfl⟩
 ·obtain ⟨h1, h2, h3, h4, h5, h6, h7⟩ := type_other h
  rw [kindV_other h]
  go_enter Tryz.func116, Tryz.ntmps116
  go_wp2
  go_ret
  exact ⟨rfl, rfl⟩

theorem specTypeOk_any (t : Int) (w : World) : Calls Tryz.prog 90 #[.int .i64 t] w fun e w' => e = .returned (.bool (typeOk t)) ∧ w = w' := by
 rcases type_cases t with rfl | rfl | rfl | rfl | rfl | rfl | rfl | h
 iterate 7
  ·go_enter Tryz.func90, Tryz.ntmps90
   go_wp2
   go_ret
   exact ⟨rfl, rfl⟩
 ·obtain ⟨h1, h2, h3, h4, h5, h6, h7⟩ := type_other h
  rw [h]
  go_enter Tryz.func90, Tryz.ntmps90
  go_wp2
  go_ret
  exact ⟨rfl, rfl⟩

theorem implTypeOk_any (t : Int) (w : World) : Calls Tryz.prog 112 #[.int .i64 t] w fun e w' => e = .returned (.bool (typeOk t)) ∧ w = w' := by
 have hk : (kindV t = .nilIface ∧ typeOk t = false) ∨ ∃ ty v, kindV t = .iface ty v ∧ typeOk t = true := by
  rcases type_cases t with rfl | rfl | rfl | rfl | rfl | rfl | rfl | h
  iterate 7 exact .inr ⟨_, _, rfl, rfl⟩
  exact .inl ⟨kindV_other h, h⟩
 go_enter Tryz.func112, Tryz.ntmps112
 go_wp2_with fail
 refine (kindOf_any t _).mono ?_
 rintro e w1 ⟨rfl, rfl⟩
 rcases hk with ⟨h1, h2⟩ | ⟨ty, v, h1, h2⟩
 ·rw [h1]
  go_wp2
  go_ret
  exact ⟨by rw [h2]; rfl, rfl⟩
 ·rw [h1]
  go_wp2
  go_ret
  exact ⟨by rw [h2]; rfl, rfl⟩
end Go.Proofs.YtfpenlobnnlnfaaGreatDoor

namespace Go.Proofs.YtfpenlobnnlnfaaGreatDoor
open Go.RowKit

def named (t : Int) : Bool := decide (t = 2 ∨ t = 5 ∨ t = 6 ∨ t = 12)
def texted (t : Int) : Bool := decide (t = 16 ∨ t = 49)

def dataOk (r : Rec) : Bool :=
 (if r.type = 1 then decide (0 ≤ r.addr ∧ r.addr ≤ 4294967295) else decide (r.addr = 0)) && ((if named r.type = true then nameOk r.to else decide (r.to.length = 0)) && ((if texted r.type = true then decide (r.text.length ≤ 40) else decide (r.text.length = 0)) &&
 (if r.type = 6 then decide (r.nums.length = 2 ∧ 0 ≤ r.nums.getD 0 0 ∧ r.nums.getD 0 0 ≤ 4294967295 ∧ 0 ≤ r.nums.getD 1 0 ∧ r.nums.getD 1 0 ≤ 100000) else decide (r.nums.length = 0))))
def rrOk (r : Rec) : Bool := nameOk r.name && (typeOk r.type && (decide (0 ≤ r.ttl ∧ r.ttl ≤ 100000) && dataOk r))

theorem HasI.two {w : World} {v : Value} {x y : Int} (h : HasI w v [x, y]) : ∃ g off cap, v = .slice (some ⟨g, off, none⟩) 2 cap ∧ g < w.heap.size ∧ w.cell? ⟨g, off, none⟩ = some (.int .i64 x) ∧ w.cell? ⟨g, off + 1, none⟩ = some (.int .i64 y) := by
 rcases h with ⟨_, h⟩ | ⟨g, off, cap, hv, hlt, _, _, hc⟩
 ·cases h
 ·exact ⟨g, off, cap, hv, hlt, hc 0 (by simp), hc 1 (by simp)⟩
theorem two_of {l : List Int} (h : l.length = 2) : ∃ x y, l = [x, y] := by
 match l, h with
 | [x, y], _ => exact ⟨x, y, rfl⟩
theorem nil_of {α : Type} {l : List α} (h : l.length = 0) : l = [] := List.eq_nil_of_length_eq_zero h
end Go.Proofs.YtfpenlobnnlnfaaGreatDoor

namespace Go.Proofs.YtfpenlobnnlnfaaGreatDoor
open Go.RowKit
set_option linter.unusedVariables false

def asked (t : Int) : Bool := typeOk t || decide (t = 255)
def emptyOk (r : Rec) : Bool := decide (r.addr = 0 ∧ r.to.length = 0 ∧ r.text.length = 0 ∧ r.nums.length = 0)
def bareOk (r : Rec) : Bool := nameOk r.name && (asked r.type && (decide (r.ttl = 0) && emptyOk r))
def wantOk (r : Rec) (c : Int) (b : Bool) : Bool := if b = true then decide (c = 254 ∨ c = 255) && bareOk r else if c = 1 then rrOk r else if c = 254 then rrOk r && decide (r.ttl = 0) else false

theorem cells9 {w : World} {b : Nat} {c0 c1 c2 c3 c4 c5 c6 c7 c8 : Value} {t : TypeId} (h : w.heap[b]? = some (.cells #[c0, c1, c2, c3, c4, c5, c6, c7, c8] t)) :
  w.cell? ⟨b, 0, none⟩ = some c0 ∧ w.cell? ⟨b, 1, none⟩ = some c1 ∧ w.cell? ⟨b, 2, none⟩ = some c2 ∧ w.cell? ⟨b, 3, none⟩ = some c3 ∧ w.cell? ⟨b, 4, none⟩ = some c4 ∧ w.cell? ⟨b, 5, none⟩ = some c5 ∧ w.cell? ⟨b, 6, none⟩ = some c6 ∧ w.cell? ⟨b, 7, none⟩ = some c7 ∧ w.cell? ⟨b, 8, none⟩ = some c8 :=
 ⟨VE h 0, VE h 1, VE h 2, VE h 3, VE h 4, VE h 5, VE h 6, VE h 7, VE h 8⟩
theorem frozen9 {w : World} {b : Nat} {c : Array Value} {t : TypeId} (h : w.heap[b]? = some (.cells c t)) :
  w.frozen? ⟨b, 0, none⟩ = false ∧ w.frozen? ⟨b, 1, none⟩ = false ∧ w.frozen? ⟨b, 2, none⟩ = false ∧ w.frozen? ⟨b, 3, none⟩ = false ∧ w.frozen? ⟨b, 4, none⟩ = false ∧ w.frozen? ⟨b, 5, none⟩ = false ∧ w.frozen? ⟨b, 6, none⟩ = false ∧ w.frozen? ⟨b, 7, none⟩ = false ∧ w.frozen? ⟨b, 8, none⟩ = false :=
 ⟨VG h 0, VG h 1, VG h 2, VG h 3, VG h 4, VG h 5, VG h 6, VG h 7, VG h 8⟩
def set9 (w : World) (b : Nat) (c0 c1 c2 c3 c4 c5 c6 c7 c8 : Value) : World := ((((((((w.setCell ⟨b, 0, none⟩ c0).setCell ⟨b, 1, none⟩ c1).setCell ⟨b, 2, none⟩ c2).setCell ⟨b, 3, none⟩ c3).setCell ⟨b, 4, none⟩ c4).setCell ⟨b, 5, none⟩ c5).setCell ⟨b, 6, none⟩ c6).setCell ⟨b, 7, none⟩ c7).setCell ⟨b, 8, none⟩ c8
theorem set9_is {w : World} {b : Nat} {c0 c1 c2 c3 c4 c5 c6 c7 c8 a0 a1 a2 a3 a4 a5 a6 a7 a8 : Value} {t : TypeId} (h : w.heap[b]? = some (.cells #[a0, a1, a2, a3, a4, a5, a6, a7, a8] t)) :
  (set9 w b c0 c1 c2 c3 c4 c5 c6 c7 c8).heap[b]? = some (.cells #[c0, c1, c2, c3, c4, c5, c6, c7, c8] t) ∧ Outside b (b + 1) w (set9 w b c0 c1 c2 c3 c4 c5 c6 c7 c8) := by
 have h1 : (w.setCell ⟨b, 0, none⟩ c0).heap[b]? = some (.cells #[c0, a1, a2, a3, a4, a5, a6, a7, a8] t) := UV h 0 c0
 have h2 : ((w.setCell ⟨b, 0, none⟩ c0).setCell ⟨b, 1, none⟩ c1).heap[b]? = some (.cells #[c0, c1, a2, a3, a4, a5, a6, a7, a8] t) := UV h1 1 c1
 have u2 : Outside b (b + 1) w ((w.setCell ⟨b, 0, none⟩ c0).setCell ⟨b, 1, none⟩ c1) := (UT _ _ _ _).trans (UT _ _ _ _)
 unfold set9
 generalize (w.setCell ⟨b, 0, none⟩ c0).setCell ⟨b, 1, none⟩ c1 = w2 at *
 have h3 : (w2.setCell ⟨b, 2, none⟩ c2).heap[b]? = some (.cells #[c0, c1, c2, a3, a4, a5, a6, a7, a8] t) := UV h2 2 c2
 have u3 := u2.trans (UT w2 b 2 c2)
 generalize w2.setCell ⟨b, 2, none⟩ c2 = w3 at *
 have h4 : (w3.setCell ⟨b, 3, none⟩ c3).heap[b]? = some (.cells #[c0, c1, c2, c3, a4, a5, a6, a7, a8] t) := UV h3 3 c3
 have u4 := u3.trans (UT w3 b 3 c3)
 generalize w3.setCell ⟨b, 3, none⟩ c3 = w4 at *
 have h5 : (w4.setCell ⟨b, 4, none⟩ c4).heap[b]? = some (.cells #[c0, c1, c2, c3, c4, a5, a6, a7, a8] t) := UV h4 4 c4
 have u5 := u4.trans (UT w4 b 4 c4)
 generalize w4.setCell ⟨b, 4, none⟩ c4 = w5 at *
 have h6 : (w5.setCell ⟨b, 5, none⟩ c5).heap[b]? = some (.cells #[c0, c1, c2, c3, c4, c5, a6, a7, a8] t) := UV h5 5 c5
 have u6 := u5.trans (UT w5 b 5 c5)
 generalize w5.setCell ⟨b, 5, none⟩ c5 = w6 at *
 have h7 : (w6.setCell ⟨b, 6, none⟩ c6).heap[b]? = some (.cells #[c0, c1, c2, c3, c4, c5, c6, a7, a8] t) := UV h6 6 c6
 have u7 := u6.trans (UT w6 b 6 c6)
 generalize w6.setCell ⟨b, 6, none⟩ c6 = w7 at *
 have h8 : (w7.setCell ⟨b, 7, none⟩ c7).heap[b]? = some (.cells #[c0, c1, c2, c3, c4, c5, c6, c7, a8] t) := UV h7 7 c7
 have u8 := u7.trans (UT w7 b 7 c7)
 generalize w7.setCell ⟨b, 7, none⟩ c7 = w8 at *
 exact ⟨UV h8 8 c8, u8.trans (UT w8 b 8 c8)⟩
structure Que where
 name : List (List Int)
 type : Int
structure Wnt where
 rr : Rec
 cls : Int
 bare : Bool
structure Mg where
 id : Int
 reply : Bool
 op : Int
 auth : Bool
 code : Int
 qs : List Que
 ans : List Rec
 aus : List Rec
 more : List Rec
 pres : List Wnt
 ups : List Wnt
def queZ : Que := ⟨[], 0⟩
def wntZ : Wnt := ⟨recZ, 0, false⟩

def InQu (w : World) (vs : List Value) (q : Que) : Prop := ∃ a c, vs = [.slice a q.name.length c, .int .i64 q.type] ∧ LiesL w a q.name
def HasQu (w : World) (vs : List Value) (q : Que) : Prop := ∃ v, vs = [v, .int .i64 q.type] ∧ HasL w v q.name
def OwnQu (el eb : TypeId) (B E : Nat) (w : World) (vs : List Value) (q : Que) : Prop := ∃ v, vs = [v, .int .i64 q.type] ∧ OwnN B E el eb w v q.name
def InWn (w : World) (vs : List Value) (x : Wnt) : Prop := ∃ an cn ato ct ax cx ai ci, vs = [.slice an x.rr.name.length cn, .int .i64 x.rr.type, .int .i64 x.rr.ttl, .int .i64 x.rr.addr, .slice ato x.rr.to.length ct, .slice ax x.rr.text.length cx, .slice ai x.rr.nums.length ci, .int .i64 x.cls, .bool x.bare] ∧ InR w an ato ax ai x.rr
def HasWn (w : World) (vs : List Value) (x : Wnt) : Prop := ∃ vn vt vx vi, vs = [vn, .int .i64 x.rr.type, .int .i64 x.rr.ttl, .int .i64 x.rr.addr, vt, vx, vi, .int .i64 x.cls, .bool x.bare] ∧ HasR w vn vt vx vi x.rr
def OwnWn (el eb ei : TypeId) (B E : Nat) (w : World) (vs : List Value) (x : Wnt) : Prop := ∃ vn vt vx vi, vs = [vn, .int .i64 x.rr.type, .int .i64 x.rr.ttl, .int .i64 x.rr.addr, vt, vx, vi, .int .i64 x.cls, .bool x.bare] ∧ OwnR B E el eb ei w vn vt vx vi x.rr
theorem stays_InQu : Stays InQu := fun h hb => by obtain ⟨a, c, h1, h2⟩ := h; exact ⟨a, c, h1, h2.below hb⟩
theorem stays_HasQu : Stays HasQu := fun h hb => by obtain ⟨v, h1, h2⟩ := h; exact ⟨v, h1, h2.below hb⟩
theorem stays_InWn : Stays InWn := fun h hb => by obtain ⟨an, cn, ato, ct, ax, cx, ai, ci, h1, h2⟩ := h; exact ⟨an, cn, ato, ct, ax, cx, ai, ci, h1, h2.below hb⟩
theorem stays_HasWn : Stays HasWn := fun h hb => by obtain ⟨vn, vt, vx, vi, h1, h2⟩ := h; exact ⟨vn, vt, vx, vi, h1, h2.below hb⟩
theorem ownsQu (el eb : TypeId) : OwnsG 2 (OwnQu el eb) where
 cells := fun h => by obtain ⟨v, rfl, _⟩ := h; rfl
 below := fun h hb => by obtain ⟨v, h1, h2⟩ := h; exact ⟨v, h1, h2.below hb⟩
 outside := fun h u hd => by obtain ⟨v, h1, h2⟩ := h; exact ⟨v, h1, h2.outside u hd⟩
 wide := fun h h1 h2 => by obtain ⟨v, h3, h4⟩ := h; exact ⟨v, h3, h4.wide h1 h2⟩
theorem ownsWn (el eb ei : TypeId) : OwnsG 9 (OwnWn el eb ei) where
 cells := fun h => by obtain ⟨vn, vt, vx, vi, rfl, _⟩ := h; rfl
 below := fun h hb => by obtain ⟨vn, vt, vx, vi, h1, h2⟩ := h; exact ⟨vn, vt, vx, vi, h1, h2.below hb⟩
 outside := fun h u hd => by obtain ⟨vn, vt, vx, vi, h1, h2⟩ := h; exact ⟨vn, vt, vx, vi, h1, h2.outside u hd⟩
 wide := fun h h1 h2 => by obtain ⟨vn, vt, vx, vi, h3, h4⟩ := h; exact ⟨vn, vt, vx, vi, h3, h4.wide h1 h2⟩
theorem OwnQu.has {el eb : TypeId} {B E : Nat} {w : World} {vs : List Value} {q : Que} (h : OwnQu el eb B E w vs q) : HasQu w vs q := by obtain ⟨v, h1, h2⟩ := h; exact ⟨v, h1, h2.hasL⟩
theorem OwnWn.has {el eb ei : TypeId} {B E : Nat} {w : World} {vs : List Value} {x : Wnt} (h : OwnWn el eb ei B E w vs x) : HasWn w vs x := by obtain ⟨vn, vt, vx, vi, h1, h2⟩ := h; exact ⟨vn, vt, vx, vi, h1, h2.hasR⟩
structure SizeQu (m : Nat) (q : Que) : Prop where
 name : q.name.length ≤ m
 names : ∀ i, i < q.name.length → (q.name.getD i []).length ≤ m
theorem SizeQu.mono {m m' : Nat} {q : Que} (h : SizeQu m q) (hm : m ≤ m') : SizeQu m' q := ⟨Nat.le_trans h.name hm, fun i hi => Nat.le_trans (h.names i hi) hm⟩

abbrev LiesQs (w : World) (a : Option Addr) (l : List Que) : Prop := LiesG 2 InQu queZ w a l
abbrev HasQs (w : World) (v : Value) (l : List Que) : Prop := HasG 2 HasQu queZ w v l
abbrev LiesWs (w : World) (a : Option Addr) (l : List Wnt) : Prop := LiesG 9 InWn wntZ w a l
abbrev HasWs (w : World) (v : Value) (l : List Wnt) : Prop := HasG 9 HasWn wntZ w v l

theorem lowQs {w w' : World} {a : Option Addr} {l : List Que} (h : LiesQs w a l) (hb : Below w.heap.size w w') : LiesQs w' a l := LiesG.below stays_InQu h hb
theorem lowWs {w w' : World} {a : Option Addr} {l : List Wnt} (h : LiesWs w a l) (hb : Below w.heap.size w w') : LiesWs w' a l := LiesG.below stays_InWn h hb
theorem keptQs {w w' : World} {v : Value} {l : List Que} (h : HasQs w v l) (hb : Below w.heap.size w w') : HasQs w' v l := HasG.below stays_HasQu h hb
theorem keptWs {w w' : World} {v : Value} {l : List Wnt} (h : HasWs w v l) (hb : Below w.heap.size w w') : HasWs w' v l := HasG.below stays_HasWn h hb

structure InM (w : World) (aq aa ab am ap au : Option Addr) (m : Mg) : Prop where
 qs : LiesQs w aq m.qs
 ans : LiesRs w aa m.ans
 aus : LiesRs w ab m.aus
 more : LiesRs w am m.more
 pres : LiesWs w ap m.pres
 ups : LiesWs w au m.ups
theorem InM.below {w w' : World} {aq aa ab am ap au : Option Addr} {m : Mg} (h : InM w aq aa ab am ap au m) (hb : Below w.heap.size w w') : InM w' aq aa ab am ap au m :=
 ⟨LiesG.below stays_InQu h.qs hb, h.ans.below hb, h.aus.below hb, h.more.below hb, LiesG.below stays_InWn h.pres hb, LiesG.below stays_InWn h.ups hb⟩
structure HasM (w : World) (vq va vb vm vp vu : Value) (m : Mg) : Prop where
 qs : HasQs w vq m.qs
 ans : HasRs w va m.ans
 aus : HasRs w vb m.aus
 more : HasRs w vm m.more
 pres : HasWs w vp m.pres
 ups : HasWs w vu m.ups
theorem HasM.below {w w' : World} {vq va vb vm vp vu : Value} {m : Mg} (h : HasM w vq va vb vm vp vu m) (hb : Below w.heap.size w w') : HasM w' vq va vb vm vp vu m :=
 ⟨HasG.below stays_HasQu h.qs hb, h.ans.below hb, h.aus.below hb, h.more.below hb, HasG.below stays_HasWn h.pres hb, HasG.below stays_HasWn h.ups hb⟩
structure SizeM (s : Nat) (m : Mg) : Prop where
 qs : ∀ i, i < m.qs.length → SizeQu s (m.qs.getD i queZ)
 ans : ∀ i, i < m.ans.length → SizeR s (m.ans.getD i recZ)
 aus : ∀ i, i < m.aus.length → SizeR s (m.aus.getD i recZ)
 more : ∀ i, i < m.more.length → SizeR s (m.more.getD i recZ)
 pres : ∀ i, i < m.pres.length → SizeR s (m.pres.getD i wntZ).rr
 ups : ∀ i, i < m.ups.length → SizeR s (m.ups.getD i wntZ).rr
theorem SizeM.mono {s s' : Nat} {m : Mg} (h : SizeM s m) (hm : s ≤ s') : SizeM s' m :=
 ⟨fun i hi => (h.qs i hi).mono hm, fun i hi => (h.ans i hi).mono hm, fun i hi => (h.aus i hi).mono hm, fun i hi => (h.more i hi).mono hm, fun i hi => (h.pres i hi).mono hm, fun i hi => (h.ups i hi).mono hm⟩
def Mg.count (m : Mg) : Nat := m.qs.length + m.ans.length + m.aus.length + m.more.length + m.pres.length + m.ups.length

theorem cells11 {w : World} {b : Nat} {c0 c1 c2 c3 c4 c5 c6 c7 c8 c9 c10 : Value} {t : TypeId} (h : w.heap[b]? = some (.cells #[c0, c1, c2, c3, c4, c5, c6, c7, c8, c9, c10] t)) :
  w.cell? ⟨b, 0, none⟩ = some c0 ∧ w.cell? ⟨b, 1, none⟩ = some c1 ∧ w.cell? ⟨b, 2, none⟩ = some c2 ∧ w.cell? ⟨b, 3, none⟩ = some c3 ∧ w.cell? ⟨b, 4, none⟩ = some c4 ∧ w.cell? ⟨b, 5, none⟩ = some c5 ∧ w.cell? ⟨b, 6, none⟩ = some c6 ∧ w.cell? ⟨b, 7, none⟩ = some c7 ∧ w.cell? ⟨b, 8, none⟩ = some c8 ∧ w.cell? ⟨b, 9, none⟩ = some c9 ∧ w.cell? ⟨b, 10, none⟩ = some c10 :=
 ⟨VE h 0, VE h 1, VE h 2, VE h 3, VE h 4, VE h 5, VE h 6, VE h 7, VE h 8, VE h 9, VE h 10⟩
theorem frozen11 {w : World} {b : Nat} {c : Array Value} {t : TypeId} (h : w.heap[b]? = some (.cells c t)) :
  w.frozen? ⟨b, 0, none⟩ = false ∧ w.frozen? ⟨b, 1, none⟩ = false ∧ w.frozen? ⟨b, 2, none⟩ = false ∧ w.frozen? ⟨b, 3, none⟩ = false ∧ w.frozen? ⟨b, 4, none⟩ = false ∧ w.frozen? ⟨b, 5, none⟩ = false ∧ w.frozen? ⟨b, 6, none⟩ = false ∧ w.frozen? ⟨b, 7, none⟩ = false ∧ w.frozen? ⟨b, 8, none⟩ = false ∧ w.frozen? ⟨b, 9, none⟩ = false ∧ w.frozen? ⟨b, 10, none⟩ = false :=
 ⟨VG h 0, VG h 1, VG h 2, VG h 3, VG h 4, VG h 5, VG h 6, VG h 7, VG h 8, VG h 9, VG h 10⟩
def set11 (w : World) (b : Nat) (c0 c1 c2 c3 c4 c5 c6 c7 c8 c9 c10 : Value) : World := ((((((((((w.setCell ⟨b, 0, none⟩ c0).setCell ⟨b, 1, none⟩ c1).setCell ⟨b, 2, none⟩ c2).setCell ⟨b, 3, none⟩ c3).setCell ⟨b, 4, none⟩ c4).setCell ⟨b, 5, none⟩ c5).setCell ⟨b, 6, none⟩ c6).setCell ⟨b, 7, none⟩ c7).setCell ⟨b, 8, none⟩ c8).setCell ⟨b, 9, none⟩ c9).setCell ⟨b, 10, none⟩ c10
theorem set11_is {w : World} {b : Nat} {c0 c1 c2 c3 c4 c5 c6 c7 c8 c9 c10 a0 a1 a2 a3 a4 a5 a6 a7 a8 a9 a10 : Value} {t : TypeId} (h : w.heap[b]? = some (.cells #[a0, a1, a2, a3, a4, a5, a6, a7, a8, a9, a10] t)) :
  (set11 w b c0 c1 c2 c3 c4 c5 c6 c7 c8 c9 c10).heap[b]? = some (.cells #[c0, c1, c2, c3, c4, c5, c6, c7, c8, c9, c10] t) ∧ Outside b (b + 1) w (set11 w b c0 c1 c2 c3 c4 c5 c6 c7 c8 c9 c10) := by
 unfold set11
 have u0 : Outside b (b + 1) w w := Outside.refl _ _ _
 have h1 : (w.setCell ⟨b, 0, none⟩ c0).heap[b]? = some (.cells #[c0, a1, a2, a3, a4, a5, a6, a7, a8, a9, a10] t) := UV h 0 c0
 have u1 := u0.trans (UT w b 0 c0)
 generalize w.setCell ⟨b, 0, none⟩ c0 = w1 at *
 have h2 : (w1.setCell ⟨b, 1, none⟩ c1).heap[b]? = some (.cells #[c0, c1, a2, a3, a4, a5, a6, a7, a8, a9, a10] t) := UV h1 1 c1
 have u2 := u1.trans (UT w1 b 1 c1)
 generalize w1.setCell ⟨b, 1, none⟩ c1 = w2 at *
 have h3 : (w2.setCell ⟨b, 2, none⟩ c2).heap[b]? = some (.cells #[c0, c1, c2, a3, a4, a5, a6, a7, a8, a9, a10] t) := UV h2 2 c2
 have u3 := u2.trans (UT w2 b 2 c2)
 generalize w2.setCell ⟨b, 2, none⟩ c2 = w3 at *
 have h4 : (w3.setCell ⟨b, 3, none⟩ c3).heap[b]? = some (.cells #[c0, c1, c2, c3, a4, a5, a6, a7, a8, a9, a10] t) := UV h3 3 c3
 have u4 := u3.trans (UT w3 b 3 c3)
 generalize w3.setCell ⟨b, 3, none⟩ c3 = w4 at *
 have h5 : (w4.setCell ⟨b, 4, none⟩ c4).heap[b]? = some (.cells #[c0, c1, c2, c3, c4, a5, a6, a7, a8, a9, a10] t) := UV h4 4 c4
 have u5 := u4.trans (UT w4 b 4 c4)
 generalize w4.setCell ⟨b, 4, none⟩ c4 = w5 at *
 have h6 : (w5.setCell ⟨b, 5, none⟩ c5).heap[b]? = some (.cells #[c0, c1, c2, c3, c4, c5, a6, a7, a8, a9, a10] t) := UV h5 5 c5
 have u6 := u5.trans (UT w5 b 5 c5)
 generalize w5.setCell ⟨b, 5, none⟩ c5 = w6 at *
 have h7 : (w6.setCell ⟨b, 6, none⟩ c6).heap[b]? = some (.cells #[c0, c1, c2, c3, c4, c5, c6, a7, a8, a9, a10] t) := UV h6 6 c6
 have u7 := u6.trans (UT w6 b 6 c6)
 generalize w6.setCell ⟨b, 6, none⟩ c6 = w7 at *
 have h8 : (w7.setCell ⟨b, 7, none⟩ c7).heap[b]? = some (.cells #[c0, c1, c2, c3, c4, c5, c6, c7, a8, a9, a10] t) := UV h7 7 c7
 have u8 := u7.trans (UT w7 b 7 c7)
 generalize w7.setCell ⟨b, 7, none⟩ c7 = w8 at *
 have h9 : (w8.setCell ⟨b, 8, none⟩ c8).heap[b]? = some (.cells #[c0, c1, c2, c3, c4, c5, c6, c7, c8, a9, a10] t) := UV h8 8 c8
 have u9 := u8.trans (UT w8 b 8 c8)
 generalize w8.setCell ⟨b, 8, none⟩ c8 = w9 at *
 have h10 : (w9.setCell ⟨b, 9, none⟩ c9).heap[b]? = some (.cells #[c0, c1, c2, c3, c4, c5, c6, c7, c8, c9, a10] t) := UV h9 9 c9
 have u10 := u9.trans (UT w9 b 9 c9)
 generalize w9.setCell ⟨b, 9, none⟩ c9 = w10 at *
 have h11 : (w10.setCell ⟨b, 10, none⟩ c10).heap[b]? = some (.cells #[c0, c1, c2, c3, c4, c5, c6, c7, c8, c9, c10] t) := UV h10 10 c10
 have u11 := u10.trans (UT w10 b 10 c10)
 exact ⟨h11, u11⟩
theorem range2 {w : World} {b o : Nat} {c0 c1 : Value} (h : w.rangeAt b o [c0, c1]) : w.cell? ⟨b, o, none⟩ = some c0 ∧ w.cell? ⟨b, o + 1, none⟩ = some c1 := ⟨h 0 c0 rfl, h 1 c1 rfl⟩
theorem range9 {w : World} {b o : Nat} {c0 c1 c2 c3 c4 c5 c6 c7 c8 : Value} (h : w.rangeAt b o [c0, c1, c2, c3, c4, c5, c6, c7, c8]) :
  w.cell? ⟨b, o, none⟩ = some c0 ∧ w.cell? ⟨b, o + 1, none⟩ = some c1 ∧ w.cell? ⟨b, o + 2, none⟩ = some c2 ∧ w.cell? ⟨b, o + 3, none⟩ = some c3 ∧ w.cell? ⟨b, o + 4, none⟩ = some c4 ∧ w.cell? ⟨b, o + 5, none⟩ = some c5 ∧ w.cell? ⟨b, o + 6, none⟩ = some c6 ∧ w.cell? ⟨b, o + 7, none⟩ = some c7 ∧ w.cell? ⟨b, o + 8, none⟩ = some c8 :=
 ⟨h 0 c0 rfl, h 1 c1 rfl, h 2 c2 rfl, h 3 c3 rfl, h 4 c4 rfl, h 5 c5 rfl, h 6 c6 rfl, h 7 c7 rfl, h 8 c8 rfl⟩
theorem there_cell {w : World} {b o n : Nat} (h : w.there b o n) {j : Nat} (hj : j < n) : (∃ y, w.cell? ⟨b, o + j, none⟩ = some y) ∧ w.frozen? ⟨b, o + j, none⟩ = false :=
 ⟨Option.isSome_iff_exists.1 (h j hj).1, (h j hj).2⟩
theorem there_cell0 {w : World} {b o n : Nat} (h : w.there b o n) (hj : 0 < n) : (∃ y, w.cell? ⟨b, o, none⟩ = some y) ∧ w.frozen? ⟨b, o, none⟩ = false := there_cell h hj
def OwnM (B E : Nat) (w : World) (vq va vb vm vp vu : Value) (m : Mg) : Prop := ∃ s1 s2 s3 s4 s5, B ≤ s1 ∧ s1 ≤ s2 ∧ s2 ≤ s3 ∧ s3 ≤ s4 ∧ s4 ≤ s5 ∧ s5 ≤ E ∧ RowX 2 (OwnQu 28 5) queZ B s1 51 w vq m.qs ∧ RowO s1 s2 77 28 5 3 w va m.ans ∧ RowO s2 s3 77 28 5 3 w vb m.aus ∧ RowO s3 s4 77 28 5 3 w vm m.more ∧ RowX 9 (OwnWn 28 5 3) wntZ s4 s5 81 w vp m.pres ∧ RowX 9 (OwnWn 28 5 3) wntZ s5 E 81 w vu m.ups
theorem OwnM.below {B E : Nat} {w w' : World} {vq va vb vm vp vu : Value} {m : Mg} (h : OwnM B E w vq va vb vm vp vu m) (hb : Below w.heap.size w w') : OwnM B E w' vq va vb vm vp vu m := by
 obtain ⟨s1, s2, s3, s4, s5, a0, a1, a2, a3, a4, a5, h0, h1, h2, h3, h4, h5⟩ := h
 exact ⟨s1, s2, s3, s4, s5, a0, a1, a2, a3, a4, a5, RowX.below (ownsQu 28 5) h0 hb, RowO.below h1 hb, RowO.below h2 hb, RowO.below h3 hb, RowX.below (ownsWn 28 5 3) h4 hb, RowX.below (ownsWn 28 5 3) h5 hb⟩
theorem OwnM.outside {B E C D : Nat} {w w' : World} {vq va vb vm vp vu : Value} {m : Mg} (h : OwnM B E w vq va vb vm vp vu m) (u : Outside C D w w') (hd : E ≤ C ∨ D ≤ B) : OwnM B E w' vq va vb vm vp vu m := by
 obtain ⟨s1, s2, s3, s4, s5, a0, a1, a2, a3, a4, a5, h0, h1, h2, h3, h4, h5⟩ := h
 exact ⟨s1, s2, s3, s4, s5, a0, a1, a2, a3, a4, a5, RowX.outside (ownsQu 28 5) h0 u (by omega), RowO.outside h1 u (by omega), RowO.outside h2 u (by omega), RowO.outside h3 u (by omega), RowX.outside (ownsWn 28 5 3) h4 u (by omega), RowX.outside (ownsWn 28 5 3) h5 u (by omega)⟩
theorem OwnM.has {B E : Nat} {w : World} {vq va vb vm vp vu : Value} {m : Mg} (h : OwnM B E w vq va vb vm vp vu m) : HasM w vq va vb vm vp vu m := by
 obtain ⟨s1, s2, s3, s4, s5, a0, a1, a2, a3, a4, a5, h0, h1, h2, h3, h4, h5⟩ := h
 exact ⟨RowX.has (ownsQu 28 5) OwnQu.has h0, RowO.has h1, RowO.has h2, RowO.has h3, RowX.has (ownsWn 28 5 3) OwnWn.has h4, RowX.has (ownsWn 28 5 3) OwnWn.has h5⟩
end Go.Proofs.YtfpenlobnnlnfaaGreatDoor

namespace Go.Proofs.YtfpenlobnnlnfaaGreatDoor
open Go.RowKit

theorem UM {w : World} {b : Nat} {c0 c1 : Value} {t : TypeId} (h : w.heap[b]? = some (.cells #[c0, c1] t)) : w.cell? ⟨b, 0, none⟩ = some c0 ∧ w.cell? ⟨b, 1, none⟩ = some c1 := ⟨VE h 0, VE h 1⟩
theorem frozen2 {w : World} {b : Nat} {c : Array Value} {t : TypeId} (h : w.heap[b]? = some (.cells c t)) : w.frozen? ⟨b, 0, none⟩ = false ∧ w.frozen? ⟨b, 1, none⟩ = false := ⟨VG h 0, VG h 1⟩
end Go.Proofs.YtfpenlobnnlnfaaGreatDoor

namespace Go.Proofs.YtfpenlobnnlnfaaGreatDoor
open Go.RowKit
set_option linter.unusedVariables false
set_option maxHeartbeats 400000
set_option maxRecDepth 100000

theorem info_int : (Tryz.prog.info? 3).map (fun i => (i.zero, i.size, i.bytes)) = some (some (.int .i64 0), 1, 8) := by kernel_rfl

theorem toIntS_row (a : Option Addr) (cap : Nat) (l : List Int) (w : World) (h : LiesI w a l) (hl : l.length ≤ 1048576) :
  Calls Tryz.prog 70 #[.slice a l.length cap] w fun e w' => e = .returned (.slice (some ⟨w.heap.size, 0, none⟩) l.length l.length) ∧
   w'.rowIs w.heap.size 3 l.length (fun i => .int .i64 (l.getD i 0)) ∧ Below w.heap.size w w' := by
 have hmk := run_make_row' (P := Tryz.prog) 69 3 (.int .i64 0) 8 Tryz.underlying69 info_int rfl .i64 .i64 l.length (by omega) (by omega)
 generalize hn : l.length = n at *
 have HN := UC hn
 clear hn
 go_enter Tryz.func70, Tryz.ntmps70
 go_wp2
 go_loopw [4] (fun i wr => ∃ k : Nat, k ≤ n ∧ i = .int .i64 k ∧ wr.rowIs w.heap.size 3 n (fun j => if j < k then .int .i64 (l.getD j 0) else .int .i64 0) ∧ Below w.heap.size w wr) (fun i _ => n - (intOf i).toNat)
 case atStart => exact ⟨0, Nat.zero_le _, rfl, by simpa using World.rowIs_made w _ n 3, (Below.refl _ _).alloc (Nat.le_refl _) _⟩
 case round =>
  obtain ⟨k, hk, rfl, hr, hb⟩ := hrel
  by_cases hlt : k < n
  ·obtain ⟨b, off, rfl, hbl, hc⟩ := h.cell hb (k := k) (by rw [UB HN]; exact hlt)
   have hc2 := hr.cell hlt
   simp only [Nat.lt_irrefl, if_false] at hc2
   have hf2 := hr.frozen k
   have HR := UC hr
   clear hr
   go_wp2
   go_roundw
   case rel =>
    refine ⟨k + 1, by omega, by go_num, ?_, hb.setCell (Nat.le_refl _) _⟩
    refine ((UB HR).set k _).congr fun j hj => ?_
    by_cases e : j = k
    ·subst e; simp
    ·have : j < k + 1 ↔ j < k := by omega
     simp [e, this]
   case measure => simp [intOf]; omega
  ·go_wp2
   go_ret
   obtain rfl : k = n := by omega
   refine ⟨rfl, hr.congr fun j hj => by simp [hj], hb⟩

theorem toIntS_any (a : Option Addr) (cap : Nat) (l : List Int) (w : World) (h : LiesI w a l) (hl : l.length ≤ 1048576) :
  Calls Tryz.prog 70 #[.slice a l.length cap] w fun e w' => ∃ v, e = .returned v ∧ OwnI w.heap.size 3 w' v l ∧ Below w.heap.size w w' :=
 (toIntS_row a cap l w h hl).mono fun e w' ⟨he, hr, hb⟩ => ⟨_, he, OwnI.ofRow hr (Nat.le_refl _) (by unfold maxLen; omega), hb⟩

theorem eqIntS_eq (a a' : Option Addr) (cap cap' : Nat) (l : List Int) (w : World) (h : LiesI w a l) (h' : LiesI w a' l) (hl : l.length ≤ 2097152) :
  Calls Tryz.prog 87 #[.slice a l.length cap, .slice a' l.length cap'] w fun e w' => e = .returned (.bool true) ∧ ∃ n, w' = w.drewN n := by
 generalize hn : l.length = n at *
 have HN := UC hn
 clear hn
 go_enter Tryz.func87, Tryz.ntmps87
 go_wp2
 go_loopw [5] (fun i wr => ∃ k : Nat, k ≤ n ∧ i = .int .i64 k ∧ ∃ m, wr = w.drewN m) (fun i _ => n - (intOf i).toNat)
 case atStart => exact ⟨0, Nat.zero_le _, rfl, 0, rfl⟩
 case round =>
  obtain ⟨k, hk, rfl, m, rfl⟩ := hrel
  by_cases hlt : k < n
  ·obtain ⟨b, off, rfl, hbl, hc⟩ := h.here (k := k) (by rw [UB HN]; exact hlt)
   obtain ⟨b', off', rfl, hbl', hc'⟩ := h'.here (k := k) (by rw [UB HN]; exact hlt)
   go_wp2
   go_quiet (fail)
   go_wp2
   exact ⟨⟨k + 1, by omega, by go_num, _, rfl⟩, by simp [intOf]; omega⟩
  ·go_wp2
   go_ret
   exact ⟨rfl, m, rfl⟩

set_option maxHeartbeats 400000
set_option maxRecDepth 100000

theorem toByteS_row (a : Option Addr) (cap : Nat) (l : List Int) (w : World) (h : Lies w a l) (hl : l.length ≤ 1048576) :
  Calls Tryz.prog 69 #[.slice a l.length cap] w fun e w' => e = .returned (.slice (some ⟨w.heap.size, 0, none⟩) l.length l.length) ∧
   w'.rowIs w.heap.size 5 l.length (fun i => .int .u8 (l.getD i 0)) ∧ Below w.heap.size w w' := by
 have hmk := run_make_row' (P := Tryz.prog) 28 5 (.int .u8 0) 1 Tryz.underlying28 VJ rfl .i64 .i64 l.length (by omega) (by omega)
 generalize hn : l.length = n at *
 have HN := UC hn
 clear hn
 go_enter Tryz.func69, Tryz.ntmps69
 go_wp2
 go_loopw [4] (fun i wr => ∃ k : Nat, k ≤ n ∧ i = .int .i64 k ∧ wr.rowIs w.heap.size 5 n (fun j => if j < k then .int .u8 (l.getD j 0) else .int .u8 0) ∧ Below w.heap.size w wr) (fun i _ => n - (intOf i).toNat)
 case atStart => exact ⟨0, Nat.zero_le _, rfl, by simpa using World.rowIs_made w _ n 5, (Below.refl _ _).alloc (Nat.le_refl _) _⟩
 case round =>
  obtain ⟨k, hk, rfl, hr, hb⟩ := hrel
  by_cases hlt : k < n
  ·obtain ⟨b, off, rfl, hbl, hc⟩ := h.cell hb (k := k) (by rw [UB HN]; exact hlt)
   have hc2 := hr.cell hlt
   simp only [Nat.lt_irrefl, if_false] at hc2
   have hf2 := hr.frozen k
   have HR := UC hr
   clear hr
   go_wp2
   go_roundw
   case rel =>
    refine ⟨k + 1, by omega, by go_num, ?_, hb.setCell (Nat.le_refl _) _⟩
    refine ((UB HR).set k _).congr fun j hj => ?_
    by_cases e : j = k
    ·subst e; simp
    ·have : j < k + 1 ↔ j < k := by omega
     simp [e, this]
   case measure => simp [intOf]; omega
  ·go_wp2
   go_ret
   obtain rfl : k = n := by omega
   refine ⟨rfl, hr.congr fun j hj => by simp [hj], hb⟩

theorem toByteS_any (a : Option Addr) (cap : Nat) (l : List Int) (w : World) (h : Lies w a l) (hl : l.length ≤ 1048576) :
  Calls Tryz.prog 69 #[.slice a l.length cap] w fun e w' => ∃ v, e = .returned v ∧ Own w.heap.size 5 w' v l ∧ Below w.heap.size w w' :=
 (toByteS_row a cap l w h hl).mono fun e w' ⟨he, hr, hb⟩ => ⟨_, he, Own.ofRow hr (Nat.le_refl _) (by unfold maxLen; omega), hb⟩

theorem eqByteS_eq (a a' : Option Addr) (cap cap' : Nat) (l : List Int) (w : World) (h : Lies w a l) (h' : Lies w a' l) (hl : l.length ≤ 2097152) :
  Calls Tryz.prog 8 #[.slice a l.length cap, .slice a' l.length cap'] w fun e w' => e = .returned (.bool true) ∧ ∃ n, w' = w.drewN n := by
 generalize hn : l.length = n at *
 have HN := UC hn
 clear hn
 go_enter Tryz.func8, Tryz.ntmps8
 go_wp2
 go_loopw [5] (fun i wr => ∃ k : Nat, k ≤ n ∧ i = .int .i64 k ∧ ∃ m, wr = w.drewN m) (fun i _ => n - (intOf i).toNat)
 case atStart => exact ⟨0, Nat.zero_le _, rfl, 0, rfl⟩
 case round =>
  obtain ⟨k, hk, rfl, m, rfl⟩ := hrel
  by_cases hlt : k < n
  ·obtain ⟨b, off, rfl, hbl, hc⟩ := h.here (k := k) (by rw [UB HN]; exact hlt)
   obtain ⟨b', off', rfl, hbl', hc'⟩ := h'.here (k := k) (by rw [UB HN]; exact hlt)
   go_wp2
   go_quiet (fail)
   go_wp2
   exact ⟨⟨k + 1, by omega, by go_num, _, rfl⟩, by simp [intOf]; omega⟩
  ·go_wp2
   go_ret
   exact ⟨rfl, m, rfl⟩

end Go.Proofs.YtfpenlobnnlnfaaGreatDoor
