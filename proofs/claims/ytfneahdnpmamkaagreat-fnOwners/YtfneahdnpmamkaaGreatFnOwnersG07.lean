/-
  Contracts of the program's kindOf and TypeOk, and of the specification's TypeOk. Plain facts: which records may be. No program is named here. Plain facts: what an update asks for. No program is named here. Plain facts: questions, wants and messages as lists and numbers, and how they lie in memory. No program is named here. Rows of drawn structs: their cells, and what these lead to, in blocks that are known by their types. The cursor of a draw, and what has turned since it began. Plain facts: a row of records that a slice owns, whose lists are owned wherever they lie. No program is named here. Plain facts: a block of two cells. What the type of records is. A zone as it came in, and as it is had.
-/
import Derived.Test.YtfneahdnpmamkaaGreatFnOwnersG06
import Derived.Deep.RegionHeld3
namespace Go.Proofs.YtfneahdnpmamkaaGreat
open Go.RowKit
set_option linter.unusedVariables false
set_option maxHeartbeats 800000
set_option maxRecDepth 100000

def Ax (t : Int) : Bool := decide (t = 1 ∨ t = 2 ∨ t = 5 ∨ t = 6 ∨ t = 12 ∨ t = 16 ∨ t = 49)

def Ed (t : Int) : Value := if t = 1 then .iface 125 (.agg #[.int .i64 0]) else if t = 2 ∨ t = 5 ∨ t = 12 then .iface 127 (.agg #[.slice none 0 0]) else if t = 6 then .iface 129 (.agg #[.slice none 0 0, .slice none 0 0]) else if t = 16 ∨ t = 49 then .iface 131 (.agg #[.slice none 0 0]) else .nilIface

theorem Db (t : Int) : t = 1 ∨ t = 2 ∨ t = 5 ∨ t = 6 ∨ t = 12 ∨ t = 16 ∨ t = 49 ∨ Ax t = false := by
 by_cases h : t = 1 ∨ t = 2 ∨ t = 5 ∨ t = 6 ∨ t = 12 ∨ t = 16 ∨ t = 49
 ·omega
 ·have : Ax t = false := decide_eq_false h
  simp [this]
theorem Oa {t : Int} (h : Ax t = false) : (t == 1) = false ∧ (t == 2) = false ∧ (t == 5) = false ∧ (t == 6) = false ∧ (t == 12) = false ∧ (t == 16) = false ∧ (t == 49) = false := by
 have h' : ¬ (t = 1 ∨ t = 2 ∨ t = 5 ∨ t = 6 ∨ t = 12 ∨ t = 16 ∨ t = 49) := of_decide_eq_false h
 simp only [beq_eq_false_iff_ne]
 omega
theorem Lg {t : Int} (h : Ax t = false) : Ed t = .nilIface := by
 have h' : ¬ (t = 1 ∨ t = 2 ∨ t = 5 ∨ t = 6 ∨ t = 12 ∨ t = 16 ∨ t = 49) := of_decide_eq_false h
 unfold Ed
 rw [if_neg (by omega), if_neg (by omega), if_neg (by omega), if_neg (by omega)]

theorem Fs (t : Int) (w : World) : Calls Tryz.prog 104 #[.int .i64 t] w fun e w' => e = .returned (Ed t) ∧ w = w' := by
 rcases Db t with rfl | rfl | rfl | rfl | rfl | rfl | rfl | h
 iterate 7
  ·go_enter Tryz.func104, Tryz.ntmps104
   go_wp2
   go_ret
   exact ⟨rfl, rfl⟩
 ·obtain ⟨h1, h2, h3, h4, h5, h6, h7⟩ := Oa h
  rw [Lg h]
  go_enter Tryz.func104, Tryz.ntmps104
  go_wp2
  go_ret
  exact ⟨rfl, rfl⟩

theorem Mk (t : Int) (w : World) : Calls Tryz.prog 49 #[.int .i64 t] w fun e w' => e = .returned (.bool (Ax t)) ∧ w = w' := by
 rcases Db t with rfl | rfl | rfl | rfl | rfl | rfl | rfl | h
 iterate 7
  ·go_enter Tryz.func49, Tryz.ntmps49
   go_wp2
   go_ret
   exact ⟨rfl, rfl⟩
 ·obtain ⟨h1, h2, h3, h4, h5, h6, h7⟩ := Oa h
  rw [h]
  go_enter Tryz.func49, Tryz.ntmps49
  go_wp2
  go_ret
  exact ⟨rfl, rfl⟩

theorem Bf (t : Int) (w : World) : Calls Tryz.prog 91 #[.int .i64 t] w fun e w' => e = .returned (.bool (Ax t)) ∧ w = w' := by
 have hk : (Ed t = .nilIface ∧ Ax t = false) ∨ ∃ ty v, Ed t = .iface ty v ∧ Ax t = true := by
  rcases Db t with rfl | rfl | rfl | rfl | rfl | rfl | rfl | h
  iterate 7 exact .inr ⟨_, _, rfl, rfl⟩
  exact .inl ⟨Lg h, h⟩
 go_enter Tryz.func91, Tryz.ntmps91
 go_wp2_with fail
 refine (Fs t _).mono ?_
 rintro e w1 ⟨rfl, rfl⟩
 rcases hk with ⟨h1, h2⟩ | ⟨ty, v, h1, h2⟩
 ·rw [h1]
  go_wp2
  go_ret
  exact ⟨by rw [h2]; rfl, rfl⟩
 ·rw [h1]
  go_wp2
  go_ret
  exact ⟨by rw [h2]; rfl, rfl⟩
end Go.Proofs.YtfneahdnpmamkaaGreat

namespace Go.Proofs.YtfneahdnpmamkaaGreat
open Go.RowKit

def named (t : Int) : Bool := decide (t = 2 ∨ t = 5 ∨ t = 6 ∨ t = 12)
def Cc (t : Int) : Bool := decide (t = 16 ∨ t = 49)

def Bg (r : Rec) : Bool :=
 (if r.type = 1 then decide (0 ≤ r.addr ∧ r.addr ≤ 4294967295) else decide (r.addr = 0)) && ((if named r.type = true then Ag r.to else decide (r.to.length = 0)) && ((if Cc r.type = true then decide (r.text.length ≤ 40) else decide (r.text.length = 0)) &&
 (if r.type = 6 then decide (r.nums.length = 2 ∧ 0 ≤ r.nums.getD 0 0 ∧ r.nums.getD 0 0 ≤ 4294967295 ∧ 0 ≤ r.nums.getD 1 0 ∧ r.nums.getD 1 0 ≤ 100000) else decide (r.nums.length = 0))))
def rrOk (r : Rec) : Bool := Ag r.name && (Ax r.type && (decide (0 ≤ r.ttl ∧ r.ttl ≤ 100000) && Bg r))

theorem HasI.two {w : World} {v : Value} {x y : Int} (h : HasI w v [x, y]) : ∃ g off cap, v = .slice (some ⟨g, off, none⟩) 2 cap ∧ g < w.heap.size ∧ w.cell? ⟨g, off, none⟩ = some (.int .i64 x) ∧ w.cell? ⟨g, off + 1, none⟩ = some (.int .i64 y) := by
 rcases h with ⟨_, h⟩ | ⟨g, off, cap, hv, hlt, _, _, hc⟩
 ·cases h
 ·exact ⟨g, off, cap, hv, hlt, hc 0 (by simp), hc 1 (by simp)⟩
theorem Q1 {l : List Int} (h : l.length = 2) : ∃ x y, l = [x, y] := by
 match l, h with
 | [x, y], _ => exact ⟨x, y, rfl⟩
theorem N3 {α : Type} {l : List α} (h : l.length = 0) : l = [] := List.eq_nil_of_length_eq_zero h
end Go.Proofs.YtfneahdnpmamkaaGreat

namespace Go.Proofs.YtfneahdnpmamkaaGreat
open Go.RowKit
set_option linter.unusedVariables false

def asked (t : Int) : Bool := Ax t || decide (t = 255)
structure Que where
 name : List (List Int)
 type : Int
structure Wnt where
 rr : Rec
 cls : Int
 bare : Bool
structure Mg where
 id : Int
 reply : Bool
 op : Int
 auth : Bool
 code : Int
 qs : List Que
 ans : List Rec
 aus : List Rec
 more : List Rec
 pres : List Wnt
 ups : List Wnt
def queZ : Que := ⟨[], 0⟩
def wntZ : Wnt := ⟨recZ, 0, false⟩

def InQu (w : World) (vs : List Value) (q : Que) : Prop := ∃ a c, vs = [.slice a q.name.length c, .int .i64 q.type] ∧ Jq w a q.name
def Xq (w : World) (vs : List Value) (q : Que) : Prop := ∃ v, vs = [v, .int .i64 q.type] ∧ HasL w v q.name
def OwnQu (el eb : TypeId) (B E : Nat) (w : World) (vs : List Value) (q : Que) : Prop := ∃ v, vs = [v, .int .i64 q.type] ∧ OwnN B E el eb w v q.name
def InWn (w : World) (vs : List Value) (x : Wnt) : Prop := ∃ an cn ato ct ax cx ai ci, vs = [.slice an x.rr.name.length cn, .int .i64 x.rr.type, .int .i64 x.rr.ttl, .int .i64 x.rr.addr, .slice ato x.rr.to.length ct, .slice ax x.rr.text.length cx, .slice ai x.rr.nums.length ci, .int .i64 x.cls, .bool x.bare] ∧ InR w an ato ax ai x.rr
def Yz (w : World) (vs : List Value) (x : Wnt) : Prop := ∃ vn vt vx vi, vs = [vn, .int .i64 x.rr.type, .int .i64 x.rr.ttl, .int .i64 x.rr.addr, vt, vx, vi, .int .i64 x.cls, .bool x.bare] ∧ HasR w vn vt vx vi x.rr
def OwnWn (el eb ei : TypeId) (B E : Nat) (w : World) (vs : List Value) (x : Wnt) : Prop := ∃ vn vt vx vi, vs = [vn, .int .i64 x.rr.type, .int .i64 x.rr.ttl, .int .i64 x.rr.addr, vt, vx, vi, .int .i64 x.cls, .bool x.bare] ∧ OwnR B E el eb ei w vn vt vx vi x.rr
theorem Tg : Pt InQu := fun h hb => by obtain ⟨a, c, h1, h2⟩ := h; exact ⟨a, c, h1, h2.below hb⟩
theorem Q8 : Pt Xq := fun h hb => by obtain ⟨v, h1, h2⟩ := h; exact ⟨v, h1, h2.below hb⟩
theorem Mr : Pt InWn := fun h hb => by obtain ⟨an, cn, ato, ct, ax, cx, ai, ci, h1, h2⟩ := h; exact ⟨an, cn, ato, ct, ax, cx, ai, ci, h1, h2.below hb⟩
theorem L4 : Pt Yz := fun h hb => by obtain ⟨vn, vt, vx, vi, h1, h2⟩ := h; exact ⟨vn, vt, vx, vi, h1, h2.below hb⟩
theorem OwnQu.has {el eb : TypeId} {B E : Nat} {w : World} {vs : List Value} {q : Que} (h : OwnQu el eb B E w vs q) : Xq w vs q := by obtain ⟨v, h1, h2⟩ := h; exact ⟨v, h1, h2.hasL⟩
theorem OwnWn.has {el eb ei : TypeId} {B E : Nat} {w : World} {vs : List Value} {x : Wnt} (h : OwnWn el eb ei B E w vs x) : Yz w vs x := by obtain ⟨vn, vt, vx, vi, h1, h2⟩ := h; exact ⟨vn, vt, vx, vi, h1, h2.hasR⟩
structure Qj (m : Nat) (q : Que) : Prop where
 name : q.name.length ≤ m
 names : ∀ i, i < q.name.length → (q.name.getD i []).length ≤ m
theorem Qj.mono {m m' : Nat} {q : Que} (h : Qj m q) (hm : m ≤ m') : Qj m' q := ⟨Nat.le_trans h.name hm, fun i hi => Nat.le_trans (h.names i hi) hm⟩

abbrev LiesQs (w : World) (a : Option Addr) (l : List Que) : Prop := I5 2 InQu queZ w a l
abbrev HasQs (w : World) (v : Value) (l : List Que) : Prop := HasG 2 Xq queZ w v l
abbrev Yd (w : World) (a : Option Addr) (l : List Wnt) : Prop := I5 9 InWn wntZ w a l
abbrev HasWs (w : World) (v : Value) (l : List Wnt) : Prop := HasG 9 Yz wntZ w v l

structure InM (w : World) (aq aa ab am ap au : Option Addr) (m : Mg) : Prop where
 qs : LiesQs w aq m.qs
 ans : Ha w aa m.ans
 aus : Ha w ab m.aus
 more : Ha w am m.more
 pres : Yd w ap m.pres
 ups : Yd w au m.ups
theorem InM.below {w w' : World} {aq aa ab am ap au : Option Addr} {m : Mg} (h : InM w aq aa ab am ap au m) (hb : Below w.heap.size w w') : InM w' aq aa ab am ap au m :=
 ⟨I5.below Tg h.qs hb, h.ans.below hb, h.aus.below hb, h.more.below hb, I5.below Mr h.pres hb, I5.below Mr h.ups hb⟩
structure HasM (w : World) (vq va vb vm vp vu : Value) (m : Mg) : Prop where
 qs : HasQs w vq m.qs
 ans : Cl w va m.ans
 aus : Cl w vb m.aus
 more : Cl w vm m.more
 pres : HasWs w vp m.pres
 ups : HasWs w vu m.ups
theorem HasM.below {w w' : World} {vq va vb vm vp vu : Value} {m : Mg} (h : HasM w vq va vb vm vp vu m) (hb : Below w.heap.size w w') : HasM w' vq va vb vm vp vu m :=
 ⟨HasG.below Q8 h.qs hb, h.ans.below hb, h.aus.below hb, h.more.below hb, HasG.below L4 h.pres hb, HasG.below L4 h.ups hb⟩
structure Yt (s : Nat) (m : Mg) : Prop where
 qs : ∀ i, i < m.qs.length → Qj s (m.qs.getD i queZ)
 ans : ∀ i, i < m.ans.length → J7 s (m.ans.getD i recZ)
 aus : ∀ i, i < m.aus.length → J7 s (m.aus.getD i recZ)
 more : ∀ i, i < m.more.length → J7 s (m.more.getD i recZ)
 pres : ∀ i, i < m.pres.length → J7 s (m.pres.getD i wntZ).rr
 ups : ∀ i, i < m.ups.length → J7 s (m.ups.getD i wntZ).rr
theorem Yt.mono {s s' : Nat} {m : Mg} (h : Yt s m) (hm : s ≤ s') : Yt s' m :=
 ⟨fun i hi => (h.qs i hi).mono hm, fun i hi => (h.ans i hi).mono hm, fun i hi => (h.aus i hi).mono hm, fun i hi => (h.more i hi).mono hm, fun i hi => (h.pres i hi).mono hm, fun i hi => (h.ups i hi).mono hm⟩
def Mg.count (m : Mg) : Nat := m.qs.length + m.ans.length + m.aus.length + m.more.length + m.pres.length + m.ups.length

structure Hy {α : Type} (c : Nat) (T : List TypeId) (D : World → List Value → α → Prop) : Prop where
 cells : ∀ {w : World} {vs : List Value} {x : α}, D w vs x → vs.length = c
 below : ∀ {w w' : World} {vs : List Value} {x : α}, D w vs x → Below w.heap.size w w' → D w' vs x
 off : ∀ {w w' : World} {vs : List Value} {x : α} {q : Nat} {t : TypeId} {cc : Array Value}, D w vs x → w.heap[q]? = some (.cells cc t) → t ∉ T → w.grownBy w' (some q) → D w' vs x
def A6 {α : Type} (c : Nat) (D : World → List Value → α → Prop) (d : α) (B E : Nat) (e : TypeId) (w : World) (v : Value) (xs : List α) : Prop :=
 ∃ cs : List Value, w.ownsRow B e c v xs.length cs ∧ (∀ q, v.ownBlock = some q → q < E) ∧ ∀ i, i < xs.length → ∃ vs, (∀ j u, vs[j]? = some u → cs[i * c + j]? = some u) ∧ D w vs (xs.getD i d)
section
variable {α : Type} {c : Nat} {T : List TypeId} {D : World → List Value → α → Prop} {d : α} {B E : Nat} {e : TypeId} {w w' : World} {v : Value} {xs : List α}
theorem A6.nil (w : World) : A6 c D d B E e w (.slice none 0 0) [] :=
 ⟨[], World.ownsRow_nil _ _ _ _, (fun q hq => by cases hq), fun i hi => absurd hi (by simp)⟩
theorem A6.own (h : A6 c D d B E e w v xs) : ∃ cs, w.ownsRow B e c v xs.length cs := by obtain ⟨cs, h1, _⟩ := h; exact ⟨cs, h1⟩
theorem A6.where_ (h : A6 c D d B E e w v xs) {q : Nat} (hq : v.ownBlock = some q) : B ≤ q ∧ q < E ∧ ∃ cur, w.heap[q]? = some (.cells cur e) := by
 obtain ⟨cs, h1, h2, _⟩ := h
 rcases h1.2 with ⟨rfl, _⟩ | ⟨g, cap, cur, rfl, hb, hg, _⟩
 ·cases hq
 ·have e1 : g = q := by simpa [Value.ownBlock] using hq
  subst e1
  exact ⟨hb, h2 g rfl, cur, hg⟩
theorem A6.keep (h : A6 c D d B E e w v xs) (hg : w.grownBy w' v.ownBlock) {q : Nat} {t : TypeId} {cc : Array Value} (hk : w.heap[q]? = some (.cells cc t)) (ht : t ≠ e) : w'.heap[q]? = some (.cells cc t) := by
 refine (hg.block q (VC hk) fun e1 => ?_).trans hk
 obtain ⟨_, _, cur, h3⟩ := h.where_ e1.symm
 rw [hk] at h3
 simp at h3
 exact ht h3.2
theorem A6.wide {B' E' : Nat} (h : A6 c D d B E e w v xs) (hB : B' ≤ B) (hE : E ≤ E') : A6 c D d B' E' e w v xs := by
 obtain ⟨cs, h1, h2, h3⟩ := h
 refine ⟨cs, ⟨h1.1, ?_⟩, fun q hq => Nat.lt_of_lt_of_le (h2 q hq) hE, h3⟩
 rcases h1.2 with hn | ⟨g, cap, cur, hv, hb, rest⟩
 ·exact .inl hn
 ·exact .inr ⟨g, cap, cur, hv, Nat.le_trans hB hb, rest⟩
theorem A6.below (hD : Hy c T D) (h : A6 c D d B E e w v xs) (hb : Below w.heap.size w w') : A6 c D d B E e w' v xs := by
 obtain ⟨cs, h1, h2, h3⟩ := h
 refine ⟨cs, Iy h1 hb, h2, fun i hi => ?_⟩
 obtain ⟨vs, h4, h5⟩ := h3 i hi
 exact ⟨vs, h4, hD.below h5 hb⟩
theorem A6.off (hD : Hy c T D) (h : A6 c D d B E e w v xs) {q : Nat} {t : TypeId} {cc : Array Value} (hk : w.heap[q]? = some (.cells cc t)) (ht : t ∉ T) (hq : t ≠ e ∨ q < B ∨ E ≤ q) (hg : w.grownBy w' (some q)) : A6 c D d B E e w' v xs := by
 have hap : v.ownBlock ≠ some q := fun e1 => by
  obtain ⟨h1, h2, cur, h3⟩ := h.where_ e1
  rw [hk] at h3
  simp at h3
  rcases hq with hq | hq
  ·exact hq h3.2
  ·omega
 obtain ⟨cs, h1, h2, h3⟩ := h
 refine ⟨cs, World.ownsRow.kept h1 hg (.inr hap), h2, fun i hi => ?_⟩
 obtain ⟨vs, h4, h5⟩ := h3 i hi
 exact ⟨vs, h4, hD.off h5 hk ht hg⟩
theorem A6.apart (hD : Hy c T D) (h : A6 c D d B E e w v xs) {c2 n B2 : Nat} {e2 : TypeId} {v2 : Value} {ys : List Value} (h2 : w.ownsRow B2 e2 c2 v2 n ys) (ht : e2 ∉ T) (hq : e2 ≠ e ∨ ∀ q, v2.ownBlock = some q → q < B ∨ E ≤ q) (hg : w.grownBy w' v2.ownBlock) : A6 c D d B E e w' v xs := by
 rcases h2.2 with ⟨rfl, _⟩ | ⟨g, cap, cur, rfl, hb, hk, _⟩
 ·exact h.below hD (Ch hg)
 ·refine h.off hD hk ht ?_ hg
  rcases hq with hq | hq
  ·exact .inl hq
  ·exact .inr (hq g rfl)
theorem A6.hasG {H : World → List Value → α → Prop} (hD : Hy c T D) (hH : ∀ {w : World} {vs : List Value} {x : α}, D w vs x → H w vs x) (h : A6 c D d B E e w v xs) : HasG c H d w v xs := by
 obtain ⟨cs, ho, _, hx⟩ := h
 have ho' := ho
 rcases ho.2 with ⟨rfl, hn⟩ | ⟨b, cap, cur, rfl, hB, hg, hn, hm, hs, ht⟩
 ·exact .inl ⟨rfl, List.eq_nil_of_length_eq_zero hn⟩
 ·refine .inr ⟨b, 0, cap, rfl, VC hg, hn, hm, fun i hi => ?_⟩
  obtain ⟨vs, q1, q2⟩ := hx i hi
  refine ⟨vs, fun j u hj => ?_, hH q2⟩
  have hj7 : j < c := by have := (List.getElem?_eq_some_iff.1 hj).1; rw [hD.cells q2] at this; exact this
  rw [Nat.zero_add, World.ownsRow.cellAt ho' (i * c + j) (Nk hi hj7)]
  exact q1 j u hj
theorem A6.form (h : A6 c D d B E e w v xs) : ∃ a cap, v = .slice a xs.length cap ∧ xs.length ≤ cap ∧ cap ≤ maxLen := by
 obtain ⟨cs, ho, _⟩ := h
 rcases ho.2 with ⟨rfl, hn⟩ | ⟨b, cap, cur, rfl, hB, hg, hn, hm, hs, ht⟩
 ·exact ⟨none, 0, by rw [hn], by omega, Nat.zero_le _⟩
 ·exact ⟨_, cap, rfl, hn, hm⟩
theorem A6.snoc (hD : Hy c T D) (h : A6 c D d B E e w v xs) {v' : Value} {vs : List Value} {x : α} (hx : D w vs x) (he : e ∉ T) (hg : w.grownBy w' v.ownBlock)
  (ho : ∀ cs, w.ownsRow B e c v xs.length cs → w'.ownsRow B e c v' (xs.length + 1) (cs ++ vs)) : A6 c D d B w'.heap.size e w' v' (xs ++ [x]) := by
 have keep : ∀ {vs : List Value} {x : α}, D w vs x → D w' vs x := fun {vs x} hd => by
  cases hb : v.ownBlock with
  | none => rw [hb] at hg; exact hD.below hd (Ch hg)
  | some q =>
   obtain ⟨_, _, cur, hk⟩ := h.where_ hb
   rw [hb] at hg
   exact hD.off hd hk he hg
 obtain ⟨cs, h0, _, h2⟩ := h
 have ho' := ho cs h0
 have hlen : cs.length = xs.length * c := h0.1
 refine ⟨cs ++ vs, by rw [List.length_append]; exact ho', fun q e1 => (World.ownsRow.lt ho' q e1).2, fun i hi => ?_⟩
 rw [List.length_append] at hi
 simp only [List.length_cons, List.length_nil] at hi
 by_cases hlt : i < xs.length
 ·obtain ⟨us, q1, q2⟩ := h2 i hlt
  have e1 : (xs ++ [x]).getD i d = xs.getD i d := by rw [List.getD_eq_getElem?_getD, List.getElem?_append_left hlt, ← List.getD_eq_getElem?_getD]
  rw [e1]
  refine ⟨us, fun j u hj => ?_, keep q2⟩
  have := q1 j u hj
  have hl := (List.getElem?_eq_some_iff.1 this).1
  rw [List.getElem?_append_left hl]
  exact this
 ·obtain rfl : i = xs.length := by omega
  have e1 : (xs ++ [x]).getD xs.length d = x := by rw [List.getD_eq_getElem?_getD]; simp
  rw [e1]
  refine ⟨vs, fun j u hj => ?_, keep hx⟩
  rw [List.getElem?_append_right (by omega), hlen, Nat.add_sub_cancel_left]
  exact hj
theorem A6.one {q : Nat} {vs : List Value} {x : α} (hD : Hy c T D) (hk : w.heap[q]? = some (.cells vs.toArray e)) (hx : D w vs x) (hB : B ≤ q) (hE : q < E) : A6 c D d B E e w (.slice (some ⟨q, 0, none⟩) 1 1) [x] := by
 have hl := hD.cells hx
 refine ⟨vs, ⟨by simp [hl], .inr ⟨q, 1, vs.toArray, rfl, hB, hk, Nat.le_refl _, by unfold maxLen; omega, by simp [hl], List.take_of_length_le (by simp [hl])⟩⟩, fun q' e1 => ?_, fun i hi => ?_⟩
 ·have : q = q' := by simpa [Value.ownBlock] using e1
  omega
 ·obtain rfl : i = 0 := by simpa using hi
  exact ⟨vs, fun j u hj => by rw [Nat.zero_mul, Nat.zero_add]; exact hj, hx⟩
end
def Qm (w : World) (vs : List Value) (r : Rec) : Prop := ∃ vn vt vx vi, vs = Ah vn vt vx vi r ∧ B9 w vn vt vx vi r
abbrev tysR : List TypeId := [22, 5, 3]
theorem Fb : Hy 7 tysR Qm where
 cells := fun h => by obtain ⟨vn, vt, vx, vi, rfl, _⟩ := h; rfl
 below := fun h hb => by obtain ⟨vn, vt, vx, vi, h1, h2⟩ := h; exact ⟨vn, vt, vx, vi, h1, h2.below hb⟩
 off := fun h hk ht hg => by
  obtain ⟨vn, vt, vx, vi, h1, h2⟩ := h
  simp only [List.mem_cons, List.not_mem_nil, or_false, not_or] at ht
  exact ⟨vn, vt, vx, vi, h1, h2.off hk ht.1 ht.2.1 ht.2.2 hg⟩
abbrev Ii (B E : Nat) (w : World) (v : Value) (l : List Rec) : Prop := A6 7 Qm recZ B E 39 w v l
theorem Ii.has {B E : Nat} {w : World} {v : Value} {l : List Rec} (h : Ii B E w v l) : Cl w v l := by
 have h' : HasG 7 (fun w vs r => ∃ vn vt vx vi, vs = Ah vn vt vx vi r ∧ HasR w vn vt vx vi r) recZ w v l := A6.hasG Fb (fun h => by obtain ⟨vn, vt, vx, vi, h1, h2⟩ := h; exact ⟨vn, vt, vx, vi, h1, h2.hasR⟩) h
 rcases h' with h | ⟨g, off, cap, hv, hlt, hl, hm, hc⟩
 ·exact .inl h
 ·refine .inr ⟨g, off, cap, hv, hlt, hl, hm, fun i hi => ?_⟩
  obtain ⟨vs, h1, vn, vt, vx, vi, rfl, h3⟩ := hc i hi
  exact ⟨vn, vt, vx, vi, h1, h3⟩
structure CurX (w0 w : World) (g : Nat) (a : Option Addr) (len cap : Nat) : Prop where
 cur : Cur w g a len cap
 code : Code w g a len
 grown : w0.grownBy w (some g)
 lt : g < w0.heap.size
theorem CurX.row {w0 w w' : World} {g len cap : Nat} {a : Option Addr} {row : Option Nat} (h : CurX w0 w g a len cap) (hg : w.grownBy w' row) (hr : ∀ j, row = some j → w0.heap.size ≤ j) : CurX w0 w' g a len cap :=
 ⟨h.cur.later hg (fun j e => Nat.lt_of_lt_of_le h.lt (hr j e)), h.code.later hg (fun j e => Nat.le_of_lt (Nat.lt_of_lt_of_le h.lt (hr j e))), Ae h.grown hg hr, h.lt⟩
theorem CurX.below {w0 w w' : World} {g len cap : Nat} {a : Option Addr} (h : CurX w0 w g a len cap) (hb : Below w.heap.size w w') : CurX w0 w' g a len cap := h.row (Ac hb) (fun j e => by cases e)
theorem CurX.step {w0 w w' : World} {g len cap : Nat} {a : Option Addr} (h : CurX w0 w g a len cap) (hc : Cur w' g a len cap) (hg : w.grownBy w' (some g)) : CurX w0 w' g a len cap := ⟨hc, h.code.grown hg, Ad h.grown hg, h.lt⟩
theorem CurX.start {w : World} {g len cap : Nat} {a : Option Addr} (hc : Cur w g a len cap) (hL : Code w g a len) : CurX w w g a len cap := ⟨hc, hL, ⟨rfl, rfl, rfl, Nat.le_refl _, fun _ _ _ => rfl⟩, hc.lt⟩
structure OwnQ (B : Nat) (el eb ei : TypeId) (w : World) (vn vt vx vi : Value) (r : Rec) : Prop where
  name : OwnL B el eb w vn r.name
  to : OwnL B el eb w vt r.to
  text : Own B eb w vx r.text
  nums : OwnI B ei w vi r.nums
theorem OwnQ.hasR {B : Nat} {el eb ei : TypeId} {w : World} {vn vt vx vi : Value} {r : Rec} (h : OwnQ B el eb ei w vn vt vx vi r) : HasR w vn vt vx vi r := ⟨h.name.hasL, h.to.hasL, h.text.has, h.nums.has⟩
theorem OwnQ.below {B : Nat} {el eb ei : TypeId} {w w' : World} {vn vt vx vi : Value} {r : Rec} (h : OwnQ B el eb ei w vn vt vx vi r) (hb : Below w.heap.size w w') : OwnQ B el eb ei w' vn vt vx vi r := ⟨h.name.below hb, h.to.below hb, h.text.below hb, h.nums.below hb⟩
theorem OwnQ.mono {B B' : Nat} {el eb ei : TypeId} {w : World} {vn vt vx vi : Value} {r : Rec} (h : OwnQ B el eb ei w vn vt vx vi r) (hB : B' ≤ B) : OwnQ B' el eb ei w vn vt vx vi r := ⟨h.name.mono hB, h.to.mono hB, h.text.mono hB, h.nums.mono hB⟩
theorem Ez {B n s : Nat} {e : TypeId} {w w' : World} {v : Value} {xs : List Value} {row : Option Nat} (h : w.ownsRow B e s v n xs) (hg : w.grownBy w' row) (hr : ∀ q, row = some q → ∃ c t, w.heap[q]? = some (.cells c t) ∧ t ≠ e) : w'.ownsRow B e s v n xs := by
  refine World.ownsRow.kept h hg ?_
  cases hv : v.ownBlock with
  | none => exact .inl rfl
  | some k =>
    right
    intro e1
    obtain ⟨c, t, h1, h2⟩ := hr k e1.symm
    rcases h.2 with ⟨rfl, _⟩ | ⟨g, cap, cur, rfl, _, hg', _⟩
    · simp [Value.ownBlock] at hv
    · simp [Value.ownBlock] at hv
      subst hv
      rw [hg'] at h1
      cases h1
      exact h2 rfl
theorem OwnL.offR {B : Nat} {el eb : TypeId} {w w' : World} {v : Value} {n : List (List Int)} {row : Option Nat} (h : OwnL B el eb w v n) (hg : w.grownBy w' row) (hr : ∀ q, row = some q → ∃ c t, w.heap[q]? = some (.cells c t) ∧ t ≠ el ∧ t ≠ eb) : OwnL B el eb w' v n := by
  obtain ⟨vs, ho, hu, hd⟩ := h
  refine ⟨vs, Ez ho hg (fun q e => by obtain ⟨c, t, h1, h2, h3⟩ := hr q e; exact ⟨c, t, h1, h2⟩), fun i hi => ?_, hd⟩
  obtain ⟨x, h1, h2⟩ := hu i hi
  exact ⟨x, h1, Ez h2 hg (fun q e => by obtain ⟨c, t, h1, h2, h3⟩ := hr q e; exact ⟨c, t, h1, h3⟩)⟩
theorem OwnQ.offR {B : Nat} {el eb ei : TypeId} {w w' : World} {vn vt vx vi : Value} {r : Rec} {row : Option Nat} (h : OwnQ B el eb ei w vn vt vx vi r) (hg : w.grownBy w' row) (hr : ∀ q, row = some q → ∃ c t, w.heap[q]? = some (.cells c t) ∧ t ≠ el ∧ t ≠ eb ∧ t ≠ ei) : OwnQ B el eb ei w' vn vt vx vi r :=
  ⟨h.name.offR hg (fun q e => by obtain ⟨c, t, h1, h2, h3, h4⟩ := hr q e; exact ⟨c, t, h1, h2, h3⟩), h.to.offR hg (fun q e => by obtain ⟨c, t, h1, h2, h3, h4⟩ := hr q e; exact ⟨c, t, h1, h2, h3⟩),
   Ez h.text hg (fun q e => by obtain ⟨c, t, h1, h2, h3, h4⟩ := hr q e; exact ⟨c, t, h1, h3⟩), Ez h.nums hg (fun q e => by obtain ⟨c, t, h1, h2, h3, h4⟩ := hr q e; exact ⟨c, t, h1, h4⟩)⟩

def RowQ (B : Nat) (er el eb ei : TypeId) (w : World) (v : Value) (rs : List Rec) : Prop :=
  ∃ xs, w.ownsRow B er 7 v rs.length xs ∧ ∀ i, i < rs.length → ∃ vn vt vx vi, (∀ j u, (Ah vn vt vx vi (rs.getD i recZ))[j]? = some u → xs[i * 7 + j]? = some u) ∧ OwnQ B el eb ei w vn vt vx vi (rs.getD i recZ)
theorem RowQ.nil (B : Nat) (er el eb ei : TypeId) (w : World) : RowQ B er el eb ei w (.slice none 0 0) [] := ⟨[], World.ownsRow_nil _ _ _ _, fun i hi => absurd hi (by simp)⟩
theorem RowQ.has {B : Nat} {er el eb ei : TypeId} {w : World} {v : Value} {rs : List Rec} (h : RowQ B er el eb ei w v rs) : Cl w v rs := by
  obtain ⟨xs, ho, hx⟩ := h
  have ho' := ho
  rcases ho.2 with ⟨rfl, hn⟩ | ⟨b, cap, cur, rfl, hB, hg, hn, hm, hs, ht⟩
  · exact .inl ⟨rfl, List.eq_nil_of_length_eq_zero hn⟩
  · refine .inr ⟨b, 0, cap, rfl, VC hg, hn, hm, fun i hi => ?_⟩
    obtain ⟨vn, vt, vx, vi, q1, q2⟩ := hx i hi
    refine ⟨vn, vt, vx, vi, fun j u hj => ?_, q2.hasR⟩
    have hj7 := Hz hj
    rw [Nat.zero_add, World.ownsRow.cellAt ho' (i * 7 + j) (by omega)]
    exact q1 j u hj
theorem RowQ.form {B : Nat} {er el eb ei : TypeId} {w : World} {v : Value} {rs : List Rec} (h : RowQ B er el eb ei w v rs) : ∃ a cap, v = .slice a rs.length cap ∧ rs.length ≤ cap ∧ cap ≤ maxLen := h.has.form
theorem RowQ.below {B : Nat} {er el eb ei : TypeId} {w w' : World} {v : Value} {rs : List Rec} (h : RowQ B er el eb ei w v rs) (hb : Below w.heap.size w w') : RowQ B er el eb ei w' v rs := by
  obtain ⟨xs, ho, hx⟩ := h
  refine ⟨xs, Iy ho hb, fun i hi => ?_⟩
  obtain ⟨vn, vt, vx, vi, q1, q2⟩ := hx i hi
  exact ⟨vn, vt, vx, vi, q1, q2.below hb⟩
theorem RowQ.mono {B B' : Nat} {er el eb ei : TypeId} {w : World} {v : Value} {rs : List Rec} (h : RowQ B er el eb ei w v rs) (hB : B' ≤ B) : RowQ B' er el eb ei w v rs := by
  obtain ⟨xs, ho, hx⟩ := h
  refine ⟨xs, ⟨ho.1, ?_⟩, fun i hi => ?_⟩
  · rcases ho.2 with hn | ⟨b, cap, cur, hv, hb, rest⟩
    · exact .inl hn
    · exact .inr ⟨b, cap, cur, hv, Nat.le_trans hB hb, rest⟩
  · obtain ⟨vn, vt, vx, vi, q1, q2⟩ := hx i hi
    exact ⟨vn, vt, vx, vi, q1, q2.mono hB⟩
theorem RowQ.off {B q : Nat} {er el eb ei t : TypeId} {w w' : World} {v : Value} {rs : List Rec} {c : Array Value} (h : RowQ B er el eb ei w v rs) (hk : w.heap[q]? = some (.cells c t)) (h1 : t ≠ er) (h2 : t ≠ el) (h3 : t ≠ eb) (h4 : t ≠ ei) (hg : w.grownBy w' (some q)) : RowQ B er el eb ei w' v rs := by
  obtain ⟨xs, ho, hx⟩ := h
  refine ⟨xs, Ez ho hg (fun k e => by cases e; exact ⟨c, t, hk, h1⟩), fun i hi => ?_⟩
  obtain ⟨vn, vt, vx, vi, q1, q2⟩ := hx i hi
  exact ⟨vn, vt, vx, vi, q1, q2.offR hg (fun k e => by cases e; exact ⟨c, t, hk, h2, h3, h4⟩)⟩
theorem RowQ.snoc {B : Nat} {er el eb ei : TypeId} {W w' : World} {v v' : Value} {rs : List Rec} {r : Rec} {vn vt vx vi : Value} (h1 : er ≠ el) (h2 : er ≠ eb) (h3 : er ≠ ei) (h : RowQ B er el eb ei W v rs)
    (hr : OwnQ B el eb ei W vn vt vx vi r) (hg : W.grownBy w' v.ownBlock)
    (ho : ∀ xs, W.ownsRow B er 7 v rs.length xs → w'.ownsRow B er 7 v' (rs.length + 1) (xs ++ Ah vn vt vx vi r)) : RowQ B er el eb ei w' v' (rs ++ [r]) := by
  obtain ⟨xs, h0, hx⟩ := h
  have ho' := ho xs h0
  have hlen : xs.length = rs.length * 7 := h0.1
  have hrow : ∀ q, v.ownBlock = some q → ∃ c t, W.heap[q]? = some (.cells c t) ∧ t ≠ el ∧ t ≠ eb ∧ t ≠ ei := fun q e => by
    rcases h0.2 with ⟨rfl, _⟩ | ⟨g, cap, cur, rfl, _, hg', _⟩
    · simp [Value.ownBlock] at e
    · simp [Value.ownBlock] at e
      subst e
      exact ⟨cur, er, hg', h1, h2, h3⟩
  refine ⟨xs ++ Ah vn vt vx vi r, by rw [List.length_append]; exact ho', fun i hi => ?_⟩
  rw [List.length_append] at hi
  simp only [List.length_cons, List.length_nil] at hi
  by_cases hlt : i < rs.length
  · obtain ⟨un, ut, ux, ui, q1, q2⟩ := hx i hlt
    have e1 : (rs ++ [r]).getD i recZ = rs.getD i recZ := by rw [List.getD_eq_getElem?_getD, List.getElem?_append_left hlt, ← List.getD_eq_getElem?_getD]
    rw [e1]
    refine ⟨un, ut, ux, ui, fun j u hj => ?_, q2.offR hg hrow⟩
    have hj7 := Hz hj
    rw [List.getElem?_append_left (by omega)]
    exact q1 j u hj
  · obtain rfl : i = rs.length := by omega
    have e1 : (rs ++ [r]).getD rs.length recZ = r := by rw [List.getD_eq_getElem?_getD]; simp
    rw [e1]
    refine ⟨vn, vt, vx, vi, fun j u hj => ?_, hr.offR hg hrow⟩
    rw [List.getElem?_append_right (by omega), hlen, Nat.add_sub_cancel_left]
    exact hj
end Go.Proofs.YtfneahdnpmamkaaGreat

namespace Go.Proofs.YtfneahdnpmamkaaGreat
open Go.RowKit

theorem UM {w : World} {b : Nat} {c0 c1 : Value} {t : TypeId} (h : w.heap[b]? = some (.cells #[c0, c1] t)) : w.cell? ⟨b, 0, none⟩ = some c0 ∧ w.cell? ⟨b, 1, none⟩ = some c1 := ⟨VE h 0, VE h 1⟩
theorem Am {w : World} {b : Nat} {c : Array Value} {t : TypeId} (h : w.heap[b]? = some (.cells c t)) : w.frozen? ⟨b, 0, none⟩ = false ∧ w.frozen? ⟨b, 1, none⟩ = false := ⟨VG h 0, VG h 1⟩
end Go.Proofs.YtfneahdnpmamkaaGreat

namespace Go.Proofs.YtfneahdnpmamkaaGreat
open Go.RowKit
set_option linter.unusedVariables false

theorem Ca : (Tryz.prog.info? 39).map (fun i => (i.zero, i.size, i.bytes)) = some (some (.agg #[.slice none 0 0, .int .i64 0, .int .i64 0, .int .i64 0, .slice none 0 0, .slice none 0 0, .slice none 0 0]), 7, 120) := by kernel_rfl
structure InZ (w : World) (ao ar : Option Addr) (o : List (List Int)) (rs : List Rec) : Prop where
 name : Jq w ao o
 recs : Ha w ar rs
theorem InZ.below {w w' : World} {ao ar : Option Addr} {o : List (List Int)} {rs : List Rec} (h : InZ w ao ar o rs) (hb : Below w.heap.size w w') : InZ w' ao ar o rs := ⟨h.name.below hb, h.recs.below hb⟩
structure Yl (m : Nat) (o : List (List Int)) (rs : List Rec) : Prop where
 name : o.length ≤ m
 names : ∀ i, i < o.length → (o.getD i []).length ≤ m
 count : rs.length ≤ m
 recs : ∀ i, i < rs.length → J7 m (rs.getD i recZ)
theorem Yl.mono {m m' : Nat} {o : List (List Int)} {rs : List Rec} (h : Yl m o rs) (hm : m ≤ m') : Yl m' o rs := ⟨Nat.le_trans h.name hm, fun i hi => Nat.le_trans (h.names i hi) hm, Nat.le_trans h.count hm, fun i hi => (h.recs i hi).mono hm⟩
structure HasZ (w : World) (vo vr : Value) (o : List (List Int)) (rs : List Rec) : Prop where
 name : HasL w vo o
 recs : Cl w vr rs
theorem HasZ.below {w w' : World} {vo vr : Value} {o : List (List Int)} {rs : List Rec} (h : HasZ w vo vr o rs) (hb : Below w.heap.size w w') : HasZ w' vo vr o rs := ⟨h.name.below hb, h.recs.below hb⟩
end Go.Proofs.YtfneahdnpmamkaaGreat
