/-
  Plain facts: a record's data as bytes. No program is named here. Plain facts: what DataPut and RrPut answer. No program is named here. Plain facts: which messages may be, and their bytes. No program is named here. Plain facts: texts held against each other byte by byte, names label by label from the last one on. No program is named here. Plain facts: a name that ends with another, and the end of a list of texts in memory. No program is named here. Plain facts: the order of records. No program is named here. Plain facts: the order of names is one. No program is named here. Plain facts: which records may be a zone's, said by neighbours and said by all. No program is named here. Plain facts: records that may be are short. No program is named here. Plain facts: zones that may be are short; a new zone. No program is named here. Records that lie in a zone, in plain words. Plain facts: which tasks may be. No program is named here but the kinds. Contracts of the helpers of the laws for Want (szWant, toWant, eqWant). Contracts of the helpers of the laws for questions and for rows of questions, records and wants (sz.., to.., eq..).
-/
import Derived.Test.YtjgfljndeolmoaaGreatLostG09
import Derived.Test.YtjgfljndeolmoaaGreatLostG10
import Derived.Test.YtjgfljndeolmoaaGreatLostG01
import Derived.Lib.Bytealg
import Derived.Lib.BytesEntry
import Derived.Test.YtjgfljndeolmoaaGreatLostG05
import Derived.Test.YtjgfljndeolmoaaGreatLostG04
import Derived.Test.YtjgfljndeolmoaaGreatLostG14
import Derived.Test.YtjgfljndeolmoaaGreatLostG15
namespace Go.Proofs.YtjgfljndeolmoaaGreat
open Go.RowKit

/-- The data, as bytes. -/
def dataB (r : Rec) : List Int :=
 if r.type = 1 then put32 [] r.addr else if r.type = 6 then put32 (put32 (wire r.to) (r.nums.getD 0 0)) (r.nums.getD 1 0) else if named r.type = true then wire r.to else (r.text.length : Int) :: r.text

end Go.Proofs.YtjgfljndeolmoaaGreat

namespace Go.Proofs.YtjgfljndeolmoaaGreat
open Go.RowKit

end Go.Proofs.YtjgfljndeolmoaaGreat

namespace Go.Proofs.YtjgfljndeolmoaaGreat
open Go.RowKit
set_option linter.unusedVariables false

def rrsOk (l : List Rec) : Bool := decide (l.length ≤ 12) && l.all rrOk
theorem all_take {α : Type} {p : α → Bool} (l : List α) (d : α) : ∀ k, (∀ j, j < k → j < l.length → p (l.getD j d) = true) → (l.take k).all p = true := by
 intro k hk
 rw [List.all_eq_true]
 intro x hx
 obtain ⟨j, hj, e⟩ := List.getElem_of_mem hx
 rw [List.length_take] at hj
 have := hk j (by omega) (by omega)
 rw [List.getD_eq_getElem?_getD, List.getElem?_eq_getElem (by omega), Option.getD_some] at this
 rw [← e, List.getElem_take]
 exact this
theorem all_of {α : Type} {p : α → Bool} (l : List α) (d : α) (h : ∀ j, j < l.length → p (l.getD j d) = true) : l.all p = true := by
 have := all_take (p := p) l d l.length (fun j _ hj => h j hj)
 rwa [List.take_length] at this
theorem all_not {α : Type} {p : α → Bool} (l : List α) (d : α) {k : Nat} (hk : k < l.length) (h : p (l.getD k d) = false) : l.all p = false := by
 rw [List.all_eq_false]
 refine ⟨l[k], List.getElem_mem hk, ?_⟩
 rw [List.getD_eq_getElem?_getD, List.getElem?_eq_getElem hk, Option.getD_some] at h
 simp [h]
/-! Bytes. -/
end Go.Proofs.YtjgfljndeolmoaaGreat

namespace Go.Proofs.YtjgfljndeolmoaaGreat
open Go.RowKit

/-- Two texts held against each other: -1, 0, 1. -/
def cmpB (a b : List Int) : Int := Lib.compareBytes (strOfNums a).data.toList (strOfNums b).data.toList

theorem compare_less : ∀ (a b : List UInt8), Op.bytesLess a b = decide (Lib.compareBytes a b = -1)
 | [], [] => rfl
 | [], _ :: _ => rfl
 | _ :: _, [] => rfl
 | x :: a, y :: b => by
  have ih := compare_less a b
  unfold Op.bytesLess Lib.compareBytes
  by_cases h1 : x < y
  ·simp [h1]
  ·by_cases h2 : y < x
   ·have : (x == y) = false := by
     apply beq_eq_false_iff_ne.2
     intro e; subst e; exact UInt8.lt_irrefl x h2
    simp [h1, h2, this]
   ·have e : x = y := UInt8.le_antisymm (UInt8.not_lt.1 h2) (UInt8.not_lt.1 h1)
    subst e
    simp [h1, ih]

theorem compare_zero : ∀ (a b : List UInt8), (a == b) = decide (Lib.compareBytes a b = 0)
 | [], [] => rfl
 | [], _ :: _ => rfl
 | _ :: _, [] => rfl
 | x :: a, y :: b => by
  have ih := compare_zero a b
  unfold Lib.compareBytes
  rw [List.cons_beq_cons]
  by_cases h1 : x < y
  ·have : (x == y) = false := by
    apply beq_eq_false_iff_ne.2
    intro e; subst e; exact UInt8.lt_irrefl x h1
   simp [h1, this]
  ·by_cases h2 : y < x
   ·have : (x == y) = false := by
     apply beq_eq_false_iff_ne.2
     intro e; subst e; exact UInt8.lt_irrefl x h2
    simp [h1, h2, this]
   ·have e : x = y := UInt8.le_antisymm (UInt8.not_lt.1 h2) (UInt8.not_lt.1 h1)
    subst e
    simp only [h1, if_false, beq_self_eq_true, Bool.true_and]
    exact ih

theorem compare_cases : ∀ (a b : List UInt8), Lib.compareBytes a b = -1 ∨ Lib.compareBytes a b = 0 ∨ Lib.compareBytes a b = 1
 | [], [] => .inr (.inl rfl)
 | [], _ :: _ => .inl rfl
 | _ :: _, [] => .inr (.inr rfl)
 | x :: a, y :: b => by
  unfold Lib.compareBytes
  split
  ·exact .inl rfl
  ·split
   ·exact .inr (.inr rfl)
   ·exact compare_cases a b

theorem str_less (a b : List Int) : Op.bytesLess (strOfNums a).toList (strOfNums b).toList = decide (cmpB a b = -1) := by
 rw [ByteArray.toList_eq, ByteArray.toList_eq, compare_less]; rfl
theorem str_same (a b : List Int) : ((strOfNums a).toList == (strOfNums b).toList) = decide (cmpB a b = 0) := by
 rw [ByteArray.toList_eq, ByteArray.toList_eq, compare_zero]; rfl
theorem cmpB_cases (a b : List Int) : cmpB a b = -1 ∨ cmpB a b = 0 ∨ cmpB a b = 1 := compare_cases _ _

theorem run_bytesOf_has {P : Program} {w : World} {v : Value} {l : List Int} (h : Has w v l) : (Extern.Bytes.bytesOf v).run P w = .ok (strOfNums l) w := by
 rcases h with ⟨rfl, rfl⟩ | ⟨g, off, cap, rfl, _, _, _, hc⟩
 ·rfl
 ·have hl := Lib.run_loadBytesX (P := P) w l ⟨g, off, none⟩ .empty (fun j x hj => by
   have hjl : j < l.length := (List.getElem?_eq_some_iff.1 hj).1
   rw [Addr.add_lit, hc j hjl]
   simp [hj])
  show (Extern.Bytes.loadBytes ⟨g, off, none⟩ l.length .empty).run P w = _
  rw [hl]
  congr 1
  simp [strOfNums, Lib.bytesOf, ByteArray.empty, ByteArray.emptyWithCapacity]
  rfl

theorem run_compare_has {P : Program} {w : World} {v v' : Value} {l l' : List Int} (h : Has w v l) (h' : Has w v' l') :
  (Extern.BytealgCompare.compare #[v, v']).run P w = .ok (.int .i64 (cmpB l l')) w := by
 change Sem.run P (do pure (goInt (Extern.BytealgCompare.cmp (← Extern.Bytes.bytesOf v) (← Extern.Bytes.bytesOf v')))) w = _
 simp only [Sem.run_bind, run_bytesOf_has h, run_bytesOf_has h', Sem.run_pure, Result.andThen]
 rw [Lib.cmp_eq]
 rfl

/-- The labels that stand i places ahead of both ends. -/
def atEnd (a b : List (List Int)) (i : Nat) : Int := cmpB (a.getD (a.length - i) []) (b.getD (b.length - i) [])

theorem atEnd_eq (a b : List (List Int)) (i : Nat) : atEnd a b i = cmpB (a.getD (a.length - i) []) (b.getD (b.length - i) []) := rfl

/-- -1, 0, 1: by how many labels. -/
def byLength (x y : Int) : Int := if x < y then -1 else if y < x then 1 else 0

/-- Two names held against each other. -/
def cmpN (a b : List (List Int)) : Int :=
 match (List.range (min a.length b.length)).find? (fun j => atEnd a b (j + 1) != 0) with
 | some j => atEnd a b (j + 1)
 | none => byLength a.length b.length

theorem cmpN_hit {a b : List (List Int)} {k : Nat} (h1 : 1 ≤ k) (h2 : k ≤ a.length) (h3 : k ≤ b.length) (hz : ∀ j, 1 ≤ j → j < k → atEnd a b j = 0) (hk : atEnd a b k ≠ 0) : cmpN a b = atEnd a b k := by
 have : (List.range (min a.length b.length)).find? (fun j => atEnd a b (j + 1) != 0) = some (k - 1) := by
  rw [List.find?_range_eq_some]
  refine ⟨by rw [Nat.sub_add_cancel h1]; simpa using hk, by simp; omega, fun j hj => ?_⟩
  have := hz (j + 1) (by omega) (by omega)
  simp [this]
 unfold cmpN
 rw [this]
 show atEnd a b (k - 1 + 1) = _
 rw [Nat.sub_add_cancel h1]

theorem cmpN_none {a b : List (List Int)} {k : Nat} (hk : a.length < k ∨ b.length < k) (hz : ∀ j, 1 ≤ j → j < k → atEnd a b j = 0) : cmpN a b = byLength a.length b.length := by
 have : (List.range (min a.length b.length)).find? (fun j => atEnd a b (j + 1) != 0) = none := by
  rw [List.find?_range_eq_none]
  intro j hj
  have := hz (j + 1) (by omega) (by omega)
  simp [this]
 unfold cmpN
 rw [this]

/-- Two names held against each other; 0 where one is none. -/
def nameCmp (a b : List (List Int)) : Int := if nameOk a = true ∧ nameOk b = true then cmpN a b else 0
end Go.Proofs.YtjgfljndeolmoaaGreat

namespace Go.Proofs.YtjgfljndeolmoaaGreat
open Go.RowKit

/-- n ends with all labels of z. -/
def endsWith (n z : List (List Int)) : Bool := decide (z.length ≤ n.length) && (cmpN (n.drop (n.length - z.length)) z == 0)
def under (n z : List (List Int)) : Bool := nameOk n && (nameOk z && endsWith n z)

theorem endsWith_no {n z : List (List Int)} (h : n.length < z.length) : endsWith n z = false := by
 unfold endsWith
 rw [decide_eq_false (by omega)]
 rfl
theorem endsWith_yes {n z : List (List Int)} (h : z.length ≤ n.length) : endsWith n z = (cmpN (n.drop (n.length - z.length)) z == 0) := by
 unfold endsWith
 rw [decide_eq_true h]
 rfl

theorem nameOk_drop {n : List (List Int)} (h : nameOk n = true) (k : Nat) : nameOk (n.drop k) = true := by
 obtain ⟨h1, h2⟩ := nameOk_parts h
 refine nameOk_yes (by simp; omega) fun j hj => ?_
 simp at hj
 have := h2 (k + j) (by omega)
 have e : (n.drop k).getD j [] = n.getD (k + j) [] := by simp [List.getD]
 rw [e]; exact this

theorem HasL.drop {w : World} {a : Option Addr} {m cap k : Nat} {n : List (List Int)} (h : HasL w (.slice a m cap) n) (hn : n.length = m) (hk : k ≤ m) :
  (a = none ∧ m = 0 ∧ cap = 0) ∨ ∃ g off, a = some ⟨g, off, none⟩ ∧ HasL w (.slice (if cap = k then some ⟨g, off, none⟩ else some ⟨g, off + k, none⟩) (m - k) (cap - k)) (n.drop k) := by
 subst hn
 rcases h with ⟨hv, rfl⟩ | ⟨g, off, cap', hv, hlt, hl, hm, hc⟩
 ·simp only [Value.slice.injEq] at hv
  exact .inl ⟨hv.1, rfl, hv.2.2⟩
 ·simp only [Value.slice.injEq, true_and] at hv
  obtain ⟨rfl, rfl⟩ := hv
  right
  refine ⟨g, off, rfl, ?_⟩
  have hlen : (n.drop k).length = n.length - k := by simp
  by_cases e : cap = k
  ·rw [if_pos e]
   refine .inr ⟨g, off, cap - k, by rw [hlen], hlt, by rw [hlen]; omega, by omega, fun i hi => ?_⟩
   rw [hlen] at hi
   omega
  ·rw [if_neg e]
   refine .inr ⟨g, off + k, cap - k, by rw [hlen], hlt, by rw [hlen]; omega, by omega, fun i hi => ?_⟩
   rw [hlen] at hi
   obtain ⟨u, h1, h2⟩ := hc (k + i) (by omega)
   refine ⟨u, by rw [Nat.add_assoc]; exact h1, ?_⟩
   have e2 : (n.drop k).getD i [] = n.getD (k + i) [] := by simp [List.getD]
   rw [e2]; exact h2

end Go.Proofs.YtjgfljndeolmoaaGreat

namespace Go.Proofs.YtjgfljndeolmoaaGreat
open Go.RowKit

/-- By name, type, data. -/
def cmpR (a b : Rec) : Int := if cmpN a.name b.name ≠ 0 then cmpN a.name b.name else if byLength a.type b.type ≠ 0 then byLength a.type b.type else cmpB (dataB a) (dataB b)
def rrCmp (a b : Rec) : Int := if rrOk a = true ∧ rrOk b = true then cmpR a b else 0
end Go.Proofs.YtjgfljndeolmoaaGreat

namespace Go.Proofs.YtjgfljndeolmoaaGreat
open Go.RowKit

end Go.Proofs.YtjgfljndeolmoaaGreat

namespace Go.Proofs.YtjgfljndeolmoaaGreat
open Go.RowKit


/-- May b come next to a. -/
def follows (a b : Rec) : Bool := decide (rrCmp a b < 0) && ((decide (a.type ≠ 5) && decide (b.type ≠ 5)) || decide (nameCmp a.name b.name ≠ 0))
/-- No other one has its name, if it is an alias. -/
def alone (rs : List Rec) (i : Nat) : Prop := (rs.getD i recZ).type = 5 → ∀ k, k < rs.length → k ≠ i → cmpN (rs.getD k recZ).name (rs.getD i recZ).name ≠ 0
end Go.Proofs.YtjgfljndeolmoaaGreat

namespace Go.Proofs.YtjgfljndeolmoaaGreat
open Go.RowKit

/-- A name is short. -/
def ShortN (n : List (List Int)) : Prop := n.length ≤ 6 ∧ ∀ k, k < n.length → (n.getD k []).length ≤ 15
/-- A record is short. -/
def ShortR (r : Rec) : Prop := (r.name.length ≤ 6 ∧ ∀ k, k < r.name.length → (r.name.getD k []).length ≤ 15) ∧ (r.to.length ≤ 6 ∧ ∀ k, k < r.to.length → (r.to.getD k []).length ≤ 15) ∧ r.text.length ≤ 1048576 ∧ r.nums.length ≤ 1048576
theorem short_name {n : List (List Int)} (h : nameOk n = true) : ShortN n := ⟨(nameOk_parts h).1, fun k hk => (labelOk_length ((nameOk_parts h).2 k hk)).2⟩
theorem short_nil : ShortN [] := ⟨by simp, fun k hk => absurd hk (by simp)⟩
end Go.Proofs.YtjgfljndeolmoaaGreat

namespace Go.Proofs.YtjgfljndeolmoaaGreat
open Go.RowKit

theorem short_rec {r : Rec} (h : rrOk r = true) : ShortR r := by
 unfold rrOk dataOk at h
 simp only [Bool.and_eq_true] at h
 obtain ⟨h1, h2, h3, h4, h5, h6, h7⟩ := h
 refine ⟨short_name h1, ?_, ?_, ?_⟩
 ·by_cases e : named r.type = true
  ·rw [if_pos e] at h5
   exact short_name h5
  ·rw [if_neg e] at h5
   have := of_decide_eq_true h5
   rw [List.eq_nil_of_length_eq_zero this]
   exact short_nil
 ·by_cases e : texted r.type = true
  ·rw [if_pos e] at h6
   have := of_decide_eq_true h6
   omega
  ·rw [if_neg e] at h6
   have := of_decide_eq_true h6
   omega
 ·by_cases e : r.type = 6
  ·rw [if_pos e] at h7
   have := (of_decide_eq_true h7).1
   omega
  ·rw [if_neg e] at h7
   have := of_decide_eq_true h7
   omega
end Go.Proofs.YtjgfljndeolmoaaGreat

namespace Go.Proofs.YtjgfljndeolmoaaGreat
open Go.RowKit

theorem rrsOk_parts {l : List Rec} (h : rrsOk l = true) : l.length ≤ 12 ∧ ∀ i, i < l.length → rrOk (l.getD i recZ) = true := by
 unfold rrsOk at h
 rw [Bool.and_eq_true] at h
 refine ⟨of_decide_eq_true h.1, fun i hi => List.all_eq_true.1 h.2 _ ?_⟩
 simp [List.getD, hi]
end Go.Proofs.YtjgfljndeolmoaaGreat

namespace Go.Proofs.YtjgfljndeolmoaaGreat
open Go.RowKit
set_option linter.unusedVariables false

def upB (x m : Int) : Bool := decide (0 ≤ x ∧ x ≤ m)
def ipsB (l : List Int) : Bool := l.all (fun x => upB x 4294967295)
def serversB (l : List Int) : Bool := decide (1 ≤ l.length) && (decide (l.length ≤ 4) && ipsB l)
def askB (t : Tk) : Bool := upB t.id 65535 && (nameOk t.fst.name && (typeOk t.fst.type && under t.name t.zone))
def srvB (t : Tk) : Bool := serversB t.hints && (serversB t.servers && upB t.turn ((t.servers.length : Int) - 1))
def stateB (t : Tk) : Bool := if t.state = 0 then (decide (t.code = 0) && (upB t.sends 11 && upB t.steps 5)) else if t.state = 1 then (upB t.code 10 && (upB t.sends 12 && upB t.steps 6)) else false
def taskOk (t : Tk) : Bool := askB t && (srvB t && (stateB t && rrsOk t.ans))
theorem ipsB_yes {l : List Int} (h : ∀ j, j < l.length → 0 ≤ l.getD j 0 ∧ l.getD j 0 ≤ 4294967295) : ipsB l = true := by
 unfold ipsB
 rw [List.all_eq_true]
 intro x hx
 obtain ⟨j, hj, e⟩ := List.mem_iff_getElem.1 hx
 have := h j hj
 rw [show l.getD j 0 = x by simp [List.getD, hj, e]] at this
 exact decide_eq_true this
theorem ipsB_no {l : List Int} {k : Nat} (hk : k < l.length) (h : ¬ (0 ≤ l.getD k 0 ∧ l.getD k 0 ≤ 4294967295)) : ipsB l = false := by
 rw [Bool.eq_false_iff]
 intro q
 unfold ipsB at q
 exact h (of_decide_eq_true (List.all_eq_true.1 q _ (by simp [List.getD, hk])))
theorem upB_iff {x m : Int} : upB x m = true ↔ 0 ≤ x ∧ x ≤ m := decide_eq_true_iff
theorem stateB_iff {t : Tk} : stateB t = true ↔ (0 ≤ t.state ∧ t.state ≤ 1 ∧ 0 ≤ t.sends ∧ t.sends ≤ 12 ∧ 0 ≤ t.steps ∧ t.steps ≤ 6 ∧ 0 ≤ t.code ∧ t.code ≤ 10 ∧ (t.state = 1 ∨ (t.code = 0 ∧ t.sends < 12 ∧ t.steps < 6))) := by
 unfold stateB
 by_cases h0 : t.state = 0
 ·rw [if_pos h0]
  simp only [Bool.and_eq_true, upB_iff, decide_eq_true_iff]
  constructor
  ·rintro ⟨a, ⟨b, c⟩, d, e⟩
   omega
  ·intro h
   omega
 ·rw [if_neg h0]
  by_cases h1 : t.state = 1
  ·rw [if_pos h1]
   simp only [Bool.and_eq_true, upB_iff]
   omega
  ·rw [if_neg h1]
   constructor
   ·intro h; cases h
   ·intro h; omega
theorem taskOk_iff {t : Tk} : taskOk t = true ↔ ((0 ≤ t.id ∧ t.id ≤ 65535 ∧ 0 ≤ t.turn ∧ t.turn < t.servers.length ∧ 0 ≤ t.state ∧ t.state ≤ 1 ∧ 0 ≤ t.sends ∧ t.sends ≤ 12 ∧ 0 ≤ t.steps ∧ t.steps ≤ 6 ∧ 0 ≤ t.code ∧ t.code ≤ 10 ∧ (t.state = 1 ∨ (t.code = 0 ∧ t.sends < 12 ∧ t.steps < 6))) ∧ nameOk t.fst.name = true ∧ typeOk t.fst.type = true ∧ nameOk t.name = true ∧ nameOk t.zone = true ∧ serversB t.hints = true ∧ serversB t.servers = true ∧ rrsOk t.ans = true ∧ endsWith t.name t.zone = true) := by
 unfold taskOk askB srvB under
 simp only [Bool.and_eq_true, upB_iff, stateB_iff]
 constructor
 ·rintro ⟨⟨⟨a1, a2⟩, a3, a4, a5, a6, a7⟩, ⟨b1, b2, b3, b4⟩, c, d⟩
  exact ⟨by omega, a3, a4, a5, a6, b1, b2, d, a7⟩
 ·rintro ⟨a, a3, a4, a5, a6, b1, b2, d, a7⟩
  exact ⟨⟨⟨by omega, by omega⟩, a3, a4, a5, a6, a7⟩, ⟨b1, b2, by omega, by omega⟩, by omega, d⟩
end Go.Proofs.YtjgfljndeolmoaaGreat

namespace Go.Proofs.YtjgfljndeolmoaaGreat
open Go.RowKit
set_option linter.unusedVariables false

end Go.Proofs.YtjgfljndeolmoaaGreat

namespace Go.Proofs.YtjgfljndeolmoaaGreat
open Go.RowKit
set_option linter.unusedVariables false

end Go.Proofs.YtjgfljndeolmoaaGreat
