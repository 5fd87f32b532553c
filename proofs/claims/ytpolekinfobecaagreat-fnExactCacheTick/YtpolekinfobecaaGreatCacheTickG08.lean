/-
  Contracts of the program's kindOf and TypeOk, and of the specification's TypeOk. Plain facts: which records may be. No program is named here. Plain facts: what an update asks for. No program is named here. Plain facts: questions, wants and messages as lists and numbers, and how they lie in memory. No program is named here. Plain facts: slots and caches as lists and numbers, and how they lie in memory. No program is named here.
-/
import Derived.Test.YtpolekinfobecaaGreatCacheTickG07
import Derived.Test.YtpolekinfobecaaGreatCacheTickG03
import Derived.Test.YtpolekinfobecaaGreatCacheTickG06
namespace Go.Proofs.YtpolekinfobecaaGreat
open Go.RowKit
set_option linter.unusedVariables false

/-- The types of records. -/
def typeOk (t : Int) : Bool := decide (t = 1 ∨ t = 2 ∨ t = 5 ∨ t = 6 ∨ t = 12 ∨ t = 16 ∨ t = 49)

/-- Which data a type has. -/
def kindV (t : Int) : Value := if t = 1 then .iface 115 (.agg #[.int .i64 0]) else if t = 2 ∨ t = 5 ∨ t = 12 then .iface 117 (.agg #[.slice none 0 0]) else if t = 6 then .iface 119 (.agg #[.slice none 0 0, .slice none 0 0]) else if t = 16 ∨ t = 49 then .iface 121 (.agg #[.slice none 0 0]) else .nilIface

theorem type_cases (t : Int) : t = 1 ∨ t = 2 ∨ t = 5 ∨ t = 6 ∨ t = 12 ∨ t = 16 ∨ t = 49 ∨ typeOk t = false := by
 by_cases h : t = 1 ∨ t = 2 ∨ t = 5 ∨ t = 6 ∨ t = 12 ∨ t = 16 ∨ t = 49
 ·omega
 ·have : typeOk t = false := decide_eq_false h
  simp [this]
theorem type_other {t : Int} (h : typeOk t = false) : (t == 1) = false ∧ (t == 2) = false ∧ (t == 5) = false ∧ (t == 6) = false ∧ (t == 12) = false ∧ (t == 16) = false ∧ (t == 49) = false := by
 have h' : ¬ (t = 1 ∨ t = 2 ∨ t = 5 ∨ t = 6 ∨ t = 12 ∨ t = 16 ∨ t = 49) := of_decide_eq_false h
 simp only [beq_eq_false_iff_ne]
 omega
theorem kindV_other {t : Int} (h : typeOk t = false) : kindV t = .nilIface := by
 have h' : ¬ (t = 1 ∨ t = 2 ∨ t = 5 ∨ t = 6 ∨ t = 12 ∨ t = 16 ∨ t = 49) := of_decide_eq_false h
 unfold kindV
 rw [if_neg (by omega), if_neg (by omega), if_neg (by omega), if_neg (by omega)]

set_option maxHeartbeats 800000 in
set_option maxRecDepth 100000 in
theorem kindOf_any (t : Int) (w : World) : Calls Tryz.prog 74 #[.int .i64 t] w fun e w' => e = .returned (kindV t) ∧ w = w' := by
 rcases type_cases t with rfl | rfl | rfl | rfl | rfl | rfl | rfl | h
 iterate 7
  ·go_enter Tryz.func74, Tryz.ntmps74
   go_wp2
   go_ret
   exact ⟨rfl, rfl⟩
 ·obtain ⟨h1, h2, h3, h4, h5, h6, h7⟩ := type_other h
  rw [kindV_other h]
  go_enter Tryz.func74, Tryz.ntmps74
  go_wp2
  go_ret
  exact ⟨rfl, rfl⟩

set_option maxHeartbeats 800000 in
set_option maxRecDepth 100000 in
theorem specTypeOk_any (t : Int) (w : World) : Calls Tryz.prog 22 #[.int .i64 t] w fun e w' => e = .returned (.bool (typeOk t)) ∧ w = w' := by
 rcases type_cases t with rfl | rfl | rfl | rfl | rfl | rfl | rfl | h
 iterate 7
  ·go_enter Tryz.func22, Tryz.ntmps22
   go_wp2
   go_ret
   exact ⟨rfl, rfl⟩
 ·obtain ⟨h1, h2, h3, h4, h5, h6, h7⟩ := type_other h
  rw [h]
  go_enter Tryz.func22, Tryz.ntmps22
  go_wp2
  go_ret
  exact ⟨rfl, rfl⟩

set_option maxHeartbeats 800000 in
set_option maxRecDepth 100000 in
theorem implTypeOk_any (t : Int) (w : World) : Calls Tryz.prog 50 #[.int .i64 t] w fun e w' => e = .returned (.bool (typeOk t)) ∧ w = w' := by
 have hk : (kindV t = .nilIface ∧ typeOk t = false) ∨ ∃ ty v, kindV t = .iface ty v ∧ typeOk t = true := by
  rcases type_cases t with rfl | rfl | rfl | rfl | rfl | rfl | rfl | h
  iterate 7 exact .inr ⟨_, _, rfl, rfl⟩
  exact .inl ⟨kindV_other h, h⟩
 go_enter Tryz.func50, Tryz.ntmps50
 go_wp2_with fail
 refine (kindOf_any t _).mono ?_
 rintro e w1 ⟨rfl, rfl⟩
 rcases hk with ⟨h1, h2⟩ | ⟨ty, v, h1, h2⟩
 ·rw [h1]
  go_wp2
  go_ret
  exact ⟨by rw [h2]; rfl, rfl⟩
 ·rw [h1]
  go_wp2
  go_ret
  exact ⟨by rw [h2]; rfl, rfl⟩
end Go.Proofs.YtpolekinfobecaaGreat

namespace Go.Proofs.YtpolekinfobecaaGreat
open Go.RowKit

def named (t : Int) : Bool := decide (t = 2 ∨ t = 5 ∨ t = 6 ∨ t = 12)
def texted (t : Int) : Bool := decide (t = 16 ∨ t = 49)

/-- The data are as the type wants them. -/
def dataOk (r : Rec) : Bool :=
 (if r.type = 1 then decide (0 ≤ r.addr ∧ r.addr ≤ 4294967295) else decide (r.addr = 0)) && ((if named r.type = true then nameOk r.to else decide (r.to.length = 0)) && ((if texted r.type = true then decide (r.text.length ≤ 40) else decide (r.text.length = 0)) &&
 (if r.type = 6 then decide (r.nums.length = 2 ∧ 0 ≤ r.nums.getD 0 0 ∧ r.nums.getD 0 0 ≤ 4294967295 ∧ 0 ≤ r.nums.getD 1 0 ∧ r.nums.getD 1 0 ≤ 100000) else decide (r.nums.length = 0))))
def rrOk (r : Rec) : Bool := nameOk r.name && (typeOk r.type && (decide (0 ≤ r.ttl ∧ r.ttl ≤ 100000) && dataOk r))

theorem HasI.two {w : World} {v : Value} {x y : Int} (h : HasI w v [x, y]) : ∃ g off cap, v = .slice (some ⟨g, off, none⟩) 2 cap ∧ g < w.heap.size ∧ w.cell? ⟨g, off, none⟩ = some (.int .i64 x) ∧ w.cell? ⟨g, off + 1, none⟩ = some (.int .i64 y) := by
 rcases h with ⟨_, h⟩ | ⟨g, off, cap, hv, hlt, _, _, hc⟩
 ·cases h
 ·exact ⟨g, off, cap, hv, hlt, hc 0 (by simp), hc 1 (by simp)⟩
theorem two_of {l : List Int} (h : l.length = 2) : ∃ x y, l = [x, y] := by
 match l, h with
 | [x, y], _ => exact ⟨x, y, rfl⟩
theorem nil_of {α : Type} {l : List α} (h : l.length = 0) : l = [] := List.eq_nil_of_length_eq_zero h
end Go.Proofs.YtpolekinfobecaaGreat

namespace Go.Proofs.YtpolekinfobecaaGreat
open Go.RowKit
set_option linter.unusedVariables false

end Go.Proofs.YtpolekinfobecaaGreat

namespace Go.Proofs.YtpolekinfobecaaGreat
open Go.RowKit
set_option linter.unusedVariables false

structure Que where
 name : List (List Int)
 type : Int
structure Wnt where
 rr : Rec
 cls : Int
 bare : Bool
structure Mg where
 id : Int
 reply : Bool
 op : Int
 auth : Bool
 code : Int
 qs : List Que
 ans : List Rec
 aus : List Rec
 more : List Rec
 pres : List Wnt
 ups : List Wnt
def queZ : Que := ⟨[], 0⟩
def wntZ : Wnt := ⟨recZ, 0, false⟩

/-- A question's two cells, as it came in; as it is had; as it is owned. -/
def InQu (w : World) (vs : List Value) (q : Que) : Prop := ∃ a c, vs = [.slice a q.name.length c, .int .i64 q.type] ∧ LiesL w a q.name
def HasQu (w : World) (vs : List Value) (q : Que) : Prop := ∃ v, vs = [v, .int .i64 q.type] ∧ HasL w v q.name
def OwnQu (el eb : TypeId) (B E : Nat) (w : World) (vs : List Value) (q : Que) : Prop := ∃ v, vs = [v, .int .i64 q.type] ∧ OwnN B E el eb w v q.name
def InWn (w : World) (vs : List Value) (x : Wnt) : Prop := ∃ an cn ato ct ax cx ai ci, vs = [.slice an x.rr.name.length cn, .int .i64 x.rr.type, .int .i64 x.rr.ttl, .int .i64 x.rr.addr, .slice ato x.rr.to.length ct, .slice ax x.rr.text.length cx, .slice ai x.rr.nums.length ci, .int .i64 x.cls, .bool x.bare] ∧ InR w an ato ax ai x.rr
def HasWn (w : World) (vs : List Value) (x : Wnt) : Prop := ∃ vn vt vx vi, vs = [vn, .int .i64 x.rr.type, .int .i64 x.rr.ttl, .int .i64 x.rr.addr, vt, vx, vi, .int .i64 x.cls, .bool x.bare] ∧ HasR w vn vt vx vi x.rr
def OwnWn (el eb ei : TypeId) (B E : Nat) (w : World) (vs : List Value) (x : Wnt) : Prop := ∃ vn vt vx vi, vs = [vn, .int .i64 x.rr.type, .int .i64 x.rr.ttl, .int .i64 x.rr.addr, vt, vx, vi, .int .i64 x.cls, .bool x.bare] ∧ OwnR B E el eb ei w vn vt vx vi x.rr
theorem stays_InQu : Stays InQu := fun h hb => by obtain ⟨a, c, h1, h2⟩ := h; exact ⟨a, c, h1, h2.below hb⟩
theorem stays_HasQu : Stays HasQu := fun h hb => by obtain ⟨v, h1, h2⟩ := h; exact ⟨v, h1, h2.below hb⟩
theorem stays_InWn : Stays InWn := fun h hb => by obtain ⟨an, cn, ato, ct, ax, cx, ai, ci, h1, h2⟩ := h; exact ⟨an, cn, ato, ct, ax, cx, ai, ci, h1, h2.below hb⟩
theorem stays_HasWn : Stays HasWn := fun h hb => by obtain ⟨vn, vt, vx, vi, h1, h2⟩ := h; exact ⟨vn, vt, vx, vi, h1, h2.below hb⟩
theorem OwnQu.has {el eb : TypeId} {B E : Nat} {w : World} {vs : List Value} {q : Que} (h : OwnQu el eb B E w vs q) : HasQu w vs q := by obtain ⟨v, h1, h2⟩ := h; exact ⟨v, h1, h2.hasL⟩
theorem OwnWn.has {el eb ei : TypeId} {B E : Nat} {w : World} {vs : List Value} {x : Wnt} (h : OwnWn el eb ei B E w vs x) : HasWn w vs x := by obtain ⟨vn, vt, vx, vi, h1, h2⟩ := h; exact ⟨vn, vt, vx, vi, h1, h2.hasR⟩
/-- How long a question's lists are. -/
structure SizeQu (m : Nat) (q : Que) : Prop where
 name : q.name.length ≤ m
 names : ∀ i, i < q.name.length → (q.name.getD i []).length ≤ m
theorem SizeQu.mono {m m' : Nat} {q : Que} (h : SizeQu m q) (hm : m ≤ m') : SizeQu m' q := ⟨Nat.le_trans h.name hm, fun i hi => Nat.le_trans (h.names i hi) hm⟩

/-- Rows of questions, of wants. -/
abbrev LiesQs (w : World) (a : Option Addr) (l : List Que) : Prop := LiesG 2 InQu queZ w a l
abbrev HasQs (w : World) (v : Value) (l : List Que) : Prop := HasG 2 HasQu queZ w v l
abbrev LiesWs (w : World) (a : Option Addr) (l : List Wnt) : Prop := LiesG 9 InWn wntZ w a l
abbrev HasWs (w : World) (v : Value) (l : List Wnt) : Prop := HasG 9 HasWn wntZ w v l

structure InM (w : World) (aq aa ab am ap au : Option Addr) (m : Mg) : Prop where
 qs : LiesQs w aq m.qs
 ans : LiesRs w aa m.ans
 aus : LiesRs w ab m.aus
 more : LiesRs w am m.more
 pres : LiesWs w ap m.pres
 ups : LiesWs w au m.ups
theorem InM.below {w w' : World} {aq aa ab am ap au : Option Addr} {m : Mg} (h : InM w aq aa ab am ap au m) (hb : Below w.heap.size w w') : InM w' aq aa ab am ap au m :=
 ⟨LiesG.below stays_InQu h.qs hb, h.ans.below hb, h.aus.below hb, h.more.below hb, LiesG.below stays_InWn h.pres hb, LiesG.below stays_InWn h.ups hb⟩
structure HasM (w : World) (vq va vb vm vp vu : Value) (m : Mg) : Prop where
 qs : HasQs w vq m.qs
 ans : HasRs w va m.ans
 aus : HasRs w vb m.aus
 more : HasRs w vm m.more
 pres : HasWs w vp m.pres
 ups : HasWs w vu m.ups
theorem HasM.below {w w' : World} {vq va vb vm vp vu : Value} {m : Mg} (h : HasM w vq va vb vm vp vu m) (hb : Below w.heap.size w w') : HasM w' vq va vb vm vp vu m :=
 ⟨HasG.below stays_HasQu h.qs hb, h.ans.below hb, h.aus.below hb, h.more.below hb, HasG.below stays_HasWn h.pres hb, HasG.below stays_HasWn h.ups hb⟩
/-- How long the lists are: each by itself, and how many there are in all. -/
structure SizeM (s : Nat) (m : Mg) : Prop where
 qs : ∀ i, i < m.qs.length → SizeQu s (m.qs.getD i queZ)
 ans : ∀ i, i < m.ans.length → SizeR s (m.ans.getD i recZ)
 aus : ∀ i, i < m.aus.length → SizeR s (m.aus.getD i recZ)
 more : ∀ i, i < m.more.length → SizeR s (m.more.getD i recZ)
 pres : ∀ i, i < m.pres.length → SizeR s (m.pres.getD i wntZ).rr
 ups : ∀ i, i < m.ups.length → SizeR s (m.ups.getD i wntZ).rr
theorem SizeM.mono {s s' : Nat} {m : Mg} (h : SizeM s m) (hm : s ≤ s') : SizeM s' m :=
 ⟨fun i hi => (h.qs i hi).mono hm, fun i hi => (h.ans i hi).mono hm, fun i hi => (h.aus i hi).mono hm, fun i hi => (h.more i hi).mono hm, fun i hi => (h.pres i hi).mono hm, fun i hi => (h.ups i hi).mono hm⟩
theorem there_cell {w : World} {b o n : Nat} (h : w.there b o n) {j : Nat} (hj : j < n) : (∃ y, w.cell? ⟨b, o + j, none⟩ = some y) ∧ w.frozen? ⟨b, o + j, none⟩ = false :=
 ⟨Option.isSome_iff_exists.1 (h j hj).1, (h j hj).2⟩
theorem there_cell0 {w : World} {b o n : Nat} (h : w.there b o n) (hj : 0 < n) : (∃ y, w.cell? ⟨b, o, none⟩ = some y) ∧ w.frozen? ⟨b, o, none⟩ = false := there_cell h hj
end Go.Proofs.YtpolekinfobecaaGreat

namespace Go.Proofs.YtpolekinfobecaaGreat
open Go.RowKit
set_option linter.unusedVariables false

/-- A slot and a cache in plain words. -/
structure Slt where
 name : List (List Int)
 type : Int
 kind : Int
 rrs : List Rec
 rank : Int
 till : Int
 used : Int
structure Ca where
 now : Int
 turn : Int
 slots : List Slt
def sltZ : Slt := ⟨[], 0, 0, [], 0, 0, 0⟩
structure InS2 (w : World) (na ra : Option Addr) (x : Slt) : Prop where
 name : LiesL w na x.name
 rrs : LiesRs w ra x.rrs
theorem InS2.below {w w' : World} {na ra : Option Addr} {x : Slt} (h : InS2 w na ra x) (hb : Below w.heap.size w w') : InS2 w' na ra x := ⟨h.name.below hb, h.rrs.below hb⟩
structure HasS2 (w : World) (vn vr : Value) (x : Slt) : Prop where
 name : HasL w vn x.name
 rrs : HasRs w vr x.rrs
theorem HasS2.below {w w' : World} {vn vr : Value} {x : Slt} (h : HasS2 w vn vr x) (hb : Below w.heap.size w w') : HasS2 w' vn vr x := ⟨h.name.below hb, h.rrs.below hb⟩
/-- The slices of a slot own its lists, in blocks of B .. E - 1. -/
def OwnS2 (er el eb ei : TypeId) (B E : Nat) (w : World) (vn vr : Value) (x : Slt) : Prop := ∃ s, B ≤ s ∧ s ≤ E ∧ OwnN B s el eb w vn x.name ∧ RowO s E er el eb ei w vr x.rrs
theorem OwnS2.has {er el eb ei : TypeId} {B E : Nat} {w : World} {vn vr : Value} {x : Slt} (h : OwnS2 er el eb ei B E w vn vr x) : HasS2 w vn vr x := by obtain ⟨s, _, _, h1, h2⟩ := h; exact ⟨h1.hasL, h2.has⟩
theorem OwnS2.below {er el eb ei : TypeId} {B E : Nat} {w w' : World} {vn vr : Value} {x : Slt} (h : OwnS2 er el eb ei B E w vn vr x) (hb : Below w.heap.size w w') : OwnS2 er el eb ei B E w' vn vr x := by obtain ⟨s, a1, a2, h1, h2⟩ := h; exact ⟨s, a1, a2, h1.below hb, h2.below hb⟩
theorem OwnS2.outside {er el eb ei : TypeId} {B E C D : Nat} {w w' : World} {vn vr : Value} {x : Slt} (h : OwnS2 er el eb ei B E w vn vr x) (u : Outside C D w w') (hd : E ≤ C ∨ D ≤ B) : OwnS2 er el eb ei B E w' vn vr x := by obtain ⟨s, a1, a2, h1, h2⟩ := h; exact ⟨s, a1, a2, h1.outside u (by omega), h2.outside u (by omega)⟩
theorem OwnS2.wide {er el eb ei : TypeId} {B E B' E' : Nat} {w : World} {vn vr : Value} {x : Slt} (h : OwnS2 er el eb ei B E w vn vr x) (hB : B' ≤ B) (hE : E ≤ E') : OwnS2 er el eb ei B' E' w vn vr x := by obtain ⟨s, a1, a2, h1, h2⟩ := h; exact ⟨s, by omega, by omega, h1.wide hB (Nat.le_refl _), h2.wide (Nat.le_refl _) hE⟩
def InSl (w : World) (vs : List Value) (x : Slt) : Prop := ∃ na nc ra rc, vs = [.slice na x.name.length nc, .int .i64 x.type, .int .i64 x.kind, .slice ra x.rrs.length rc, .int .i64 x.rank, .int .i64 x.till, .int .i64 x.used] ∧ InS2 w na ra x
def HasSl (w : World) (vs : List Value) (x : Slt) : Prop := ∃ vn vr, vs = [vn, .int .i64 x.type, .int .i64 x.kind, vr, .int .i64 x.rank, .int .i64 x.till, .int .i64 x.used] ∧ HasS2 w vn vr x
def OwnSl (er el eb ei : TypeId) (B E : Nat) (w : World) (vs : List Value) (x : Slt) : Prop := ∃ vn vr, vs = [vn, .int .i64 x.type, .int .i64 x.kind, vr, .int .i64 x.rank, .int .i64 x.till, .int .i64 x.used] ∧ OwnS2 er el eb ei B E w vn vr x
theorem stays_InSl : Stays InSl := fun h hb => by obtain ⟨na, nc, ra, rc, h1, h2⟩ := h; exact ⟨na, nc, ra, rc, h1, h2.below hb⟩
theorem stays_HasSl : Stays HasSl := fun h hb => by obtain ⟨vn, vr, h1, h2⟩ := h; exact ⟨vn, vr, h1, h2.below hb⟩
theorem ownsSl (er el eb ei : TypeId) : OwnsG 7 (OwnSl er el eb ei) where
 cells := fun h => by obtain ⟨vn, vr, rfl, _⟩ := h; rfl
 below := fun h hb => by obtain ⟨vn, vr, h1, h2⟩ := h; exact ⟨vn, vr, h1, h2.below hb⟩
 outside := fun h u hd => by obtain ⟨vn, vr, h1, h2⟩ := h; exact ⟨vn, vr, h1, h2.outside u hd⟩
 wide := fun h h1 h2 => by obtain ⟨vn, vr, h3, h4⟩ := h; exact ⟨vn, vr, h3, h4.wide h1 h2⟩
theorem OwnSl.has {er el eb ei : TypeId} {B E : Nat} {w : World} {vs : List Value} {x : Slt} (h : OwnSl er el eb ei B E w vs x) : HasSl w vs x := by obtain ⟨vn, vr, h1, h2⟩ := h; exact ⟨vn, vr, h1, h2.has⟩
structure SizeSl (m : Nat) (x : Slt) : Prop where
 name : x.name.length ≤ m
 names : ∀ i, i < x.name.length → (x.name.getD i []).length ≤ m
 rrs : x.rrs.length ≤ m
 rrss : ∀ i, i < x.rrs.length → SizeR m (x.rrs.getD i recZ)
theorem SizeSl.mono {m m' : Nat} {x : Slt} (h : SizeSl m x) (hm : m ≤ m') : SizeSl m' x := ⟨Nat.le_trans h.name hm, fun i hi => Nat.le_trans (h.names i hi) hm, Nat.le_trans h.rrs hm, fun i hi => (h.rrss i hi).mono hm⟩
abbrev LiesSs (w : World) (a : Option Addr) (l : List Slt) : Prop := LiesG 7 InSl sltZ w a l
abbrev HasSs (w : World) (v : Value) (l : List Slt) : Prop := HasG 7 HasSl sltZ w v l
theorem lowSs {w w' : World} {a : Option Addr} {l : List Slt} (h : LiesSs w a l) (hb : Below w.heap.size w w') : LiesSs w' a l := LiesG.below stays_InSl h hb
theorem keptSs {w w' : World} {v : Value} {l : List Slt} (h : HasSs w v l) (hb : Below w.heap.size w w') : HasSs w' v l := HasG.below stays_HasSl h hb
/-- The slice v owns these slots, in blocks of B .. E - 1. -/
abbrev RowSl (er el eb ei es : TypeId) (B E : Nat) (w : World) (v : Value) (l : List Slt) : Prop := RowX 7 (OwnSl er el eb ei) sltZ B E es w v l
theorem RowSl.hasS {er el eb ei es : TypeId} {B E : Nat} {w : World} {v : Value} {l : List Slt} (h : RowSl er el eb ei es B E w v l) : HasSs w v l := RowX.has (ownsSl er el eb ei) (fun h => h.has) h
structure SizeCa (m : Nat) (c : Ca) : Prop where
 slots : c.slots.length ≤ m
 each : ∀ i, i < c.slots.length → SizeSl m (c.slots.getD i sltZ)
theorem SizeCa.mono {m m' : Nat} {c : Ca} (h : SizeCa m c) (hm : m ≤ m') : SizeCa m' c := ⟨Nat.le_trans h.slots hm, fun i hi => (h.each i hi).mono hm⟩
theorem cells3 {w : World} {b : Nat} {c0 c1 c2 : Value} {t : TypeId} (h : w.heap[b]? = some (.cells #[c0, c1, c2] t)) :
  w.cell? ⟨b, 0, none⟩ = some c0 ∧ w.cell? ⟨b, 1, none⟩ = some c1 ∧ w.cell? ⟨b, 2, none⟩ = some c2 :=
 ⟨block_cell h 0, block_cell h 1, block_cell h 2⟩
theorem frozen3 {w : World} {b : Nat} {c : Array Value} {t : TypeId} (h : w.heap[b]? = some (.cells c t)) :
  w.frozen? ⟨b, 0, none⟩ = false ∧ w.frozen? ⟨b, 1, none⟩ = false ∧ w.frozen? ⟨b, 2, none⟩ = false :=
 ⟨block_frozen h 0, block_frozen h 1, block_frozen h 2⟩
def set3 (w : World) (b : Nat) (c0 c1 c2 : Value) : World := ((w.setCell ⟨b, 0, none⟩ c0).setCell ⟨b, 1, none⟩ c1).setCell ⟨b, 2, none⟩ c2
theorem set3_is {w : World} {b : Nat} {c0 c1 c2 a0 a1 a2 : Value} {t : TypeId} (h : w.heap[b]? = some (.cells #[a0, a1, a2] t)) :
  (set3 w b c0 c1 c2).heap[b]? = some (.cells #[c0, c1, c2] t) ∧ Outside b (b + 1) w (set3 w b c0 c1 c2) := by
 unfold set3
 have u0 : Outside b (b + 1) w w := Outside.refl _ _ _
 have h1 : (w.setCell ⟨b, 0, none⟩ c0).heap[b]? = some (.cells #[c0, a1, a2] t) := block_setAt h 0 c0
 have u1 := u0.trans (outside_set w b 0 c0)
 generalize w.setCell ⟨b, 0, none⟩ c0 = w1 at *
 have h2 : (w1.setCell ⟨b, 1, none⟩ c1).heap[b]? = some (.cells #[c0, c1, a2] t) := block_setAt h1 1 c1
 have u2 := u1.trans (outside_set w1 b 1 c1)
 generalize w1.setCell ⟨b, 1, none⟩ c1 = w2 at *
 have h3 : (w2.setCell ⟨b, 2, none⟩ c2).heap[b]? = some (.cells #[c0, c1, c2] t) := block_setAt h2 2 c2
 have u3 := u2.trans (outside_set w2 b 2 c2)
 exact ⟨h3, u3⟩
def setA (w : World) (b : Nat) (c0 c1 c2 : Value) : World := ((w.setCell ⟨b, 0, none⟩ c0).setCell ⟨b, 1, none⟩ c1).setCell ⟨b, 2, none⟩ c2
theorem setA_is {w : World} {b : Nat} {c0 c1 c2 a0 a1 a2 a3 a4 a5 a6 : Value} {t : TypeId} (h : w.heap[b]? = some (.cells #[a0, a1, a2, a3, a4, a5, a6] t)) :
  (setA w b c0 c1 c2).heap[b]? = some (.cells #[c0, c1, c2, a3, a4, a5, a6] t) ∧ Outside b (b + 1) w (setA w b c0 c1 c2) := by
 unfold setA
 have u0 : Outside b (b + 1) w w := Outside.refl _ _ _
 have h1 : (w.setCell ⟨b, 0, none⟩ c0).heap[b]? = some (.cells #[c0, a1, a2, a3, a4, a5, a6] t) := block_setAt h 0 c0
 have u1 := u0.trans (outside_set w b 0 c0)
 generalize w.setCell ⟨b, 0, none⟩ c0 = w1 at *
 have h2 : (w1.setCell ⟨b, 1, none⟩ c1).heap[b]? = some (.cells #[c0, c1, a2, a3, a4, a5, a6] t) := block_setAt h1 1 c1
 have u2 := u1.trans (outside_set w1 b 1 c1)
 generalize w1.setCell ⟨b, 1, none⟩ c1 = w2 at *
 have h3 : (w2.setCell ⟨b, 2, none⟩ c2).heap[b]? = some (.cells #[c0, c1, c2, a3, a4, a5, a6] t) := block_setAt h2 2 c2
 have u3 := u2.trans (outside_set w2 b 2 c2)
 exact ⟨h3, u3⟩
def setB (w : World) (b : Nat) (c3 c4 c5 c6 : Value) : World := (((w.setCell ⟨b, 3, none⟩ c3).setCell ⟨b, 4, none⟩ c4).setCell ⟨b, 5, none⟩ c5).setCell ⟨b, 6, none⟩ c6
theorem setB_is {w : World} {b : Nat} {c3 c4 c5 c6 a0 a1 a2 a3 a4 a5 a6 : Value} {t : TypeId} (h : w.heap[b]? = some (.cells #[a0, a1, a2, a3, a4, a5, a6] t)) :
  (setB w b c3 c4 c5 c6).heap[b]? = some (.cells #[a0, a1, a2, c3, c4, c5, c6] t) ∧ Outside b (b + 1) w (setB w b c3 c4 c5 c6) := by
 unfold setB
 have u0 : Outside b (b + 1) w w := Outside.refl _ _ _
 have h1 : (w.setCell ⟨b, 3, none⟩ c3).heap[b]? = some (.cells #[a0, a1, a2, c3, a4, a5, a6] t) := block_setAt h 3 c3
 have u1 := u0.trans (outside_set w b 3 c3)
 generalize w.setCell ⟨b, 3, none⟩ c3 = w1 at *
 have h2 : (w1.setCell ⟨b, 4, none⟩ c4).heap[b]? = some (.cells #[a0, a1, a2, c3, c4, a5, a6] t) := block_setAt h1 4 c4
 have u2 := u1.trans (outside_set w1 b 4 c4)
 generalize w1.setCell ⟨b, 4, none⟩ c4 = w2 at *
 have h3 : (w2.setCell ⟨b, 5, none⟩ c5).heap[b]? = some (.cells #[a0, a1, a2, c3, c4, c5, a6] t) := block_setAt h2 5 c5
 have u3 := u2.trans (outside_set w2 b 5 c5)
 generalize w2.setCell ⟨b, 5, none⟩ c5 = w3 at *
 have h4 : (w3.setCell ⟨b, 6, none⟩ c6).heap[b]? = some (.cells #[a0, a1, a2, c3, c4, c5, c6] t) := block_setAt h3 6 c6
 have u4 := u3.trans (outside_set w3 b 6 c6)
 exact ⟨h4, u4⟩
def setS (w : World) (b : Nat) (c0 c1 c2 c3 c4 c5 c6 : Value) : World := ((((((w.setCell ⟨b, 0, none⟩ c0).setCell ⟨b, 1, none⟩ c1).setCell ⟨b, 2, none⟩ c2).setCell ⟨b, 3, none⟩ c3).setCell ⟨b, 4, none⟩ c4).setCell ⟨b, 5, none⟩ c5).setCell ⟨b, 6, none⟩ c6
theorem setS_is {w : World} {b : Nat} {c0 c1 c2 c3 c4 c5 c6 a0 a1 a2 a3 a4 a5 a6 : Value} {t : TypeId} (h : w.heap[b]? = some (.cells #[a0, a1, a2, a3, a4, a5, a6] t)) :
  (setS w b c0 c1 c2 c3 c4 c5 c6).heap[b]? = some (.cells #[c0, c1, c2, c3, c4, c5, c6] t) ∧ Outside b (b + 1) w (setS w b c0 c1 c2 c3 c4 c5 c6) := by
 unfold setS
 have u0 : Outside b (b + 1) w w := Outside.refl _ _ _
 have h1 : (w.setCell ⟨b, 0, none⟩ c0).heap[b]? = some (.cells #[c0, a1, a2, a3, a4, a5, a6] t) := block_setAt h 0 c0
 have u1 := u0.trans (outside_set w b 0 c0)
 generalize w.setCell ⟨b, 0, none⟩ c0 = w1 at *
 have h2 : (w1.setCell ⟨b, 1, none⟩ c1).heap[b]? = some (.cells #[c0, c1, a2, a3, a4, a5, a6] t) := block_setAt h1 1 c1
 have u2 := u1.trans (outside_set w1 b 1 c1)
 generalize w1.setCell ⟨b, 1, none⟩ c1 = w2 at *
 have h3 : (w2.setCell ⟨b, 2, none⟩ c2).heap[b]? = some (.cells #[c0, c1, c2, a3, a4, a5, a6] t) := block_setAt h2 2 c2
 have u3 := u2.trans (outside_set w2 b 2 c2)
 generalize w2.setCell ⟨b, 2, none⟩ c2 = w3 at *
 have h4 : (w3.setCell ⟨b, 3, none⟩ c3).heap[b]? = some (.cells #[c0, c1, c2, c3, a4, a5, a6] t) := block_setAt h3 3 c3
 have u4 := u3.trans (outside_set w3 b 3 c3)
 generalize w3.setCell ⟨b, 3, none⟩ c3 = w4 at *
 have h5 : (w4.setCell ⟨b, 4, none⟩ c4).heap[b]? = some (.cells #[c0, c1, c2, c3, c4, a5, a6] t) := block_setAt h4 4 c4
 have u5 := u4.trans (outside_set w4 b 4 c4)
 generalize w4.setCell ⟨b, 4, none⟩ c4 = w5 at *
 have h6 : (w5.setCell ⟨b, 5, none⟩ c5).heap[b]? = some (.cells #[c0, c1, c2, c3, c4, c5, a6] t) := block_setAt h5 5 c5
 have u6 := u5.trans (outside_set w5 b 5 c5)
 generalize w5.setCell ⟨b, 5, none⟩ c5 = w6 at *
 have h7 : (w6.setCell ⟨b, 6, none⟩ c6).heap[b]? = some (.cells #[c0, c1, c2, c3, c4, c5, c6] t) := block_setAt h6 6 c6
 have u7 := u6.trans (outside_set w6 b 6 c6)
 exact ⟨h7, u7⟩
end Go.Proofs.YtpolekinfobecaaGreat
