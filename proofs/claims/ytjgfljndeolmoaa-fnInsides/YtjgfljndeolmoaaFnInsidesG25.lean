/-
  Plain facts: which messages may be, and their bytes. No program is named here. Plain facts: records that may be are short. No program is named here. Plain facts: zones that may be are short; a new zone. No program is named here. Records that lie in a zone, in plain words. Plain facts: which tasks may be. No program is named here but the kinds. Plain facts: a block of two cells. Contracts of the helpers of the laws for questions. Contract of a helper of the laws: rows of records that are made of what came in, and own their memory (toRrS). Contracts of the helpers of the laws for tasks (szTask, toTask, eqTask). Plain facts: what Begin makes. Contracts of the program's upTo. Contract of the program's codeOk. Contracts of the program's labelSign and LabelOk.
-/
import Derived.Test.YtjgfljndeolmoaaFnInsidesG24
import Derived.Test.YtjgfljndeolmoaaFnInsidesG05
import Derived.Test.YtjgfljndeolmoaaFnInsidesG01
import Derived.Test.YtjgfljndeolmoaaFnInsidesG09
import Derived.Test.YtjgfljndeolmoaaFnInsidesG08
import Derived.Test.YtjgfljndeolmoaaFnInsidesG03
import Derived.Test.YtjgfljndeolmoaaFnInsidesG04
import Derived.Test.YtjgfljndeolmoaaFnInsidesG22
import Derived.Test.YtjgfljndeolmoaaFnInsidesG02
namespace Go.Proofs.Ytjgfljndeolmoaa
open Go.RowKit
set_option linter.unusedVariables false

def rrsOk (l : List Rec) : Bool := decide (l.length ≤ 12) && l.all rrOk
theorem all_take {α : Type} {p : α → Bool} (l : List α) (d : α) : ∀ k, (∀ j, j < k → j < l.length → p (l.getD j d) = true) → (l.take k).all p = true := by
 intro k hk
 rw [List.all_eq_true]
 intro x hx
 obtain ⟨j, hj, e⟩ := List.getElem_of_mem hx
 rw [List.length_take] at hj
 have := hk j (by omega) (by omega)
 rw [List.getD_eq_getElem?_getD, List.getElem?_eq_getElem (by omega), Option.getD_some] at this
 rw [← e, List.getElem_take]
 exact this
theorem all_of {α : Type} {p : α → Bool} (l : List α) (d : α) (h : ∀ j, j < l.length → p (l.getD j d) = true) : l.all p = true := by
 have := all_take (p := p) l d l.length (fun j _ hj => h j hj)
 rwa [List.take_length] at this
theorem all_not {α : Type} {p : α → Bool} (l : List α) (d : α) {k : Nat} (hk : k < l.length) (h : p (l.getD k d) = false) : l.all p = false := by
 rw [List.all_eq_false]
 refine ⟨l[k], List.getElem_mem hk, ?_⟩
 rw [List.getD_eq_getElem?_getD, List.getElem?_eq_getElem hk, Option.getD_some] at h
 simp [h]
/-! Bytes. -/
end Go.Proofs.Ytjgfljndeolmoaa

namespace Go.Proofs.Ytjgfljndeolmoaa
open Go.RowKit

/-- A name is short. -/
def ShortN (n : List (List Int)) : Prop := n.length ≤ 6 ∧ ∀ k, k < n.length → (n.getD k []).length ≤ 15
/-- A record is short. -/
def ShortR (r : Rec) : Prop := (r.name.length ≤ 6 ∧ ∀ k, k < r.name.length → (r.name.getD k []).length ≤ 15) ∧ (r.to.length ≤ 6 ∧ ∀ k, k < r.to.length → (r.to.getD k []).length ≤ 15) ∧ r.text.length ≤ 1048576 ∧ r.nums.length ≤ 1048576
theorem short_name {n : List (List Int)} (h : nameOk n = true) : ShortN n := ⟨(nameOk_parts h).1, fun k hk => (labelOk_length ((nameOk_parts h).2 k hk)).2⟩
theorem short_nil : ShortN [] := ⟨by simp, fun k hk => absurd hk (by simp)⟩
end Go.Proofs.Ytjgfljndeolmoaa

namespace Go.Proofs.Ytjgfljndeolmoaa
open Go.RowKit

theorem short_rec {r : Rec} (h : rrOk r = true) : ShortR r := by
 unfold rrOk dataOk at h
 simp only [Bool.and_eq_true] at h
 obtain ⟨h1, h2, h3, h4, h5, h6, h7⟩ := h
 refine ⟨short_name h1, ?_, ?_, ?_⟩
 ·by_cases e : named r.type = true
  ·rw [if_pos e] at h5
   exact short_name h5
  ·rw [if_neg e] at h5
   have := of_decide_eq_true h5
   rw [List.eq_nil_of_length_eq_zero this]
   exact short_nil
 ·by_cases e : texted r.type = true
  ·rw [if_pos e] at h6
   have := of_decide_eq_true h6
   omega
  ·rw [if_neg e] at h6
   have := of_decide_eq_true h6
   omega
 ·by_cases e : r.type = 6
  ·rw [if_pos e] at h7
   have := (of_decide_eq_true h7).1
   omega
  ·rw [if_neg e] at h7
   have := of_decide_eq_true h7
   omega
end Go.Proofs.Ytjgfljndeolmoaa

namespace Go.Proofs.Ytjgfljndeolmoaa
open Go.RowKit

/-- Those of the first k whose names lie in z. -/
def inK (z : List (List Int)) (rs : List Rec) : Nat → List Rec
 | 0 => []
 | k + 1 => if endsWith (rs.getD k recZ).name z = true then inK z rs k ++ [rs.getD k recZ] else inK z rs k
def insideOf (rs : List Rec) (z : List (List Int)) : List Rec := if rrsOk rs = true ∧ nameOk z = true then inK z rs rs.length else []
theorem inK_length (z : List (List Int)) (rs : List Rec) : ∀ k, (inK z rs k).length ≤ k
 | 0 => Nat.le_refl _
 | k + 1 => by
  have := inK_length z rs k
  unfold inK
  split
  ·simp; omega
  ·omega
theorem rrsOk_parts {l : List Rec} (h : rrsOk l = true) : l.length ≤ 12 ∧ ∀ i, i < l.length → rrOk (l.getD i recZ) = true := by
 unfold rrsOk at h
 rw [Bool.and_eq_true] at h
 refine ⟨of_decide_eq_true h.1, fun i hi => List.all_eq_true.1 h.2 _ ?_⟩
 simp [List.getD, hi]
theorem under_in {n z : List (List Int)} (h : nameOk n = true) (h' : nameOk z = true) : under n z = endsWith n z := by
 unfold under
 rw [h, h', Bool.true_and, Bool.true_and]
end Go.Proofs.Ytjgfljndeolmoaa

namespace Go.Proofs.Ytjgfljndeolmoaa
open Go.RowKit
set_option linter.unusedVariables false

def upB (x m : Int) : Bool := decide (0 ≤ x ∧ x ≤ m)
def ipsB (l : List Int) : Bool := l.all (fun x => upB x 4294967295)
def serversB (l : List Int) : Bool := decide (1 ≤ l.length) && (decide (l.length ≤ 4) && ipsB l)
def askB (t : Tk) : Bool := upB t.id 65535 && (nameOk t.fst.name && (typeOk t.fst.type && under t.name t.zone))
def srvB (t : Tk) : Bool := serversB t.hints && (serversB t.servers && upB t.turn ((t.servers.length : Int) - 1))
def stateB (t : Tk) : Bool := if t.state = 0 then (decide (t.code = 0) && (upB t.sends 11 && upB t.steps 5)) else if t.state = 1 then (upB t.code 10 && (upB t.sends 12 && upB t.steps 6)) else false
def taskOk (t : Tk) : Bool := askB t && (srvB t && (stateB t && rrsOk t.ans))
theorem ipsB_yes {l : List Int} (h : ∀ j, j < l.length → 0 ≤ l.getD j 0 ∧ l.getD j 0 ≤ 4294967295) : ipsB l = true := by
 unfold ipsB
 rw [List.all_eq_true]
 intro x hx
 obtain ⟨j, hj, e⟩ := List.mem_iff_getElem.1 hx
 have := h j hj
 rw [show l.getD j 0 = x by simp [List.getD, hj, e]] at this
 exact decide_eq_true this
theorem ipsB_no {l : List Int} {k : Nat} (hk : k < l.length) (h : ¬ (0 ≤ l.getD k 0 ∧ l.getD k 0 ≤ 4294967295)) : ipsB l = false := by
 rw [Bool.eq_false_iff]
 intro q
 unfold ipsB at q
 exact h (of_decide_eq_true (List.all_eq_true.1 q _ (by simp [List.getD, hk])))
theorem upB_iff {x m : Int} : upB x m = true ↔ 0 ≤ x ∧ x ≤ m := decide_eq_true_iff
theorem stateB_iff {t : Tk} : stateB t = true ↔ (0 ≤ t.state ∧ t.state ≤ 1 ∧ 0 ≤ t.sends ∧ t.sends ≤ 12 ∧ 0 ≤ t.steps ∧ t.steps ≤ 6 ∧ 0 ≤ t.code ∧ t.code ≤ 10 ∧ (t.state = 1 ∨ (t.code = 0 ∧ t.sends < 12 ∧ t.steps < 6))) := by
 unfold stateB
 by_cases h0 : t.state = 0
 ·rw [if_pos h0]
  simp only [Bool.and_eq_true, upB_iff, decide_eq_true_iff]
  constructor
  ·rintro ⟨a, ⟨b, c⟩, d, e⟩
   omega
  ·intro h
   omega
 ·rw [if_neg h0]
  by_cases h1 : t.state = 1
  ·rw [if_pos h1]
   simp only [Bool.and_eq_true, upB_iff]
   omega
  ·rw [if_neg h1]
   constructor
   ·intro h; cases h
   ·intro h; omega
theorem taskOk_iff {t : Tk} : taskOk t = true ↔ ((0 ≤ t.id ∧ t.id ≤ 65535 ∧ 0 ≤ t.turn ∧ t.turn < t.servers.length ∧ 0 ≤ t.state ∧ t.state ≤ 1 ∧ 0 ≤ t.sends ∧ t.sends ≤ 12 ∧ 0 ≤ t.steps ∧ t.steps ≤ 6 ∧ 0 ≤ t.code ∧ t.code ≤ 10 ∧ (t.state = 1 ∨ (t.code = 0 ∧ t.sends < 12 ∧ t.steps < 6))) ∧ nameOk t.fst.name = true ∧ typeOk t.fst.type = true ∧ nameOk t.name = true ∧ nameOk t.zone = true ∧ serversB t.hints = true ∧ serversB t.servers = true ∧ rrsOk t.ans = true ∧ endsWith t.name t.zone = true) := by
 unfold taskOk askB srvB under
 simp only [Bool.and_eq_true, upB_iff, stateB_iff]
 constructor
 ·rintro ⟨⟨⟨a1, a2⟩, a3, a4, a5, a6, a7⟩, ⟨b1, b2, b3, b4⟩, c, d⟩
  exact ⟨by omega, a3, a4, a5, a6, b1, b2, d, a7⟩
 ·rintro ⟨a, a3, a4, a5, a6, b1, b2, d, a7⟩
  exact ⟨⟨⟨by omega, by omega⟩, a3, a4, a5, a6, a7⟩, ⟨b1, b2, by omega, by omega⟩, by omega, d⟩
end Go.Proofs.Ytjgfljndeolmoaa

namespace Go.Proofs.Ytjgfljndeolmoaa
open Go.RowKit

theorem cells2 {w : World} {b : Nat} {c0 c1 : Value} {t : TypeId} (h : w.heap[b]? = some (.cells #[c0, c1] t)) : w.cell? ⟨b, 0, none⟩ = some c0 ∧ w.cell? ⟨b, 1, none⟩ = some c1 := ⟨block_cell h 0, block_cell h 1⟩
theorem frozen2 {w : World} {b : Nat} {c : Array Value} {t : TypeId} (h : w.heap[b]? = some (.cells c t)) : w.frozen? ⟨b, 0, none⟩ = false ∧ w.frozen? ⟨b, 1, none⟩ = false := ⟨block_frozen h 0, block_frozen h 1⟩
end Go.Proofs.Ytjgfljndeolmoaa

namespace Go.Proofs.Ytjgfljndeolmoaa
open Go.RowKit
set_option linter.unusedVariables false


end Go.Proofs.Ytjgfljndeolmoaa

namespace Go.Proofs.Ytjgfljndeolmoaa
open Go.RowKit
set_option linter.unusedVariables false

end Go.Proofs.Ytjgfljndeolmoaa

namespace Go.Proofs.Ytjgfljndeolmoaa
open Go.RowKit
set_option linter.unusedVariables false

/-- The slices of a task own its lists, in blocks of B .. E - 1. -/
def OwnTk (B E : Nat) (w : World) (vf vn vz vh vr va : Value) (t : Tk) : Prop := ∃ s1 s2 s3 s4 s5, B ≤ s1 ∧ s1 ≤ s2 ∧ s2 ≤ s3 ∧ s3 ≤ s4 ∧ s4 ≤ s5 ∧ s5 ≤ E ∧ OwnN B s1 22 5 w vf t.fst.name ∧ OwnN s1 s2 22 5 w vn t.name ∧ OwnN s2 s3 22 5 w vz t.zone ∧ OwnBI s3 s4 3 w vh t.hints ∧ OwnBI s4 s5 3 w vr t.servers ∧ RowO s5 E 34 22 5 3 w va t.ans
theorem OwnTk.below {B E : Nat} {w w' : World} {vf vn vz vh vr va : Value} {t : Tk} (h : OwnTk B E w vf vn vz vh vr va t) (hb : Below w.heap.size w w') : OwnTk B E w' vf vn vz vh vr va t := by
 obtain ⟨s1, s2, s3, s4, s5, a1, a2, a3, a4, a5, a6, h1, h2, h3, h4, h5, h6⟩ := h
 exact ⟨s1, s2, s3, s4, s5, a1, a2, a3, a4, a5, a6, h1.below hb, h2.below hb, h3.below hb, h4.below hb, h5.below hb, h6.below hb⟩
theorem OwnTk.outside {B E C D : Nat} {w w' : World} {vf vn vz vh vr va : Value} {t : Tk} (h : OwnTk B E w vf vn vz vh vr va t) (u : Outside C D w w') (hd : E ≤ C ∨ D ≤ B) : OwnTk B E w' vf vn vz vh vr va t := by
 obtain ⟨s1, s2, s3, s4, s5, a1, a2, a3, a4, a5, a6, h1, h2, h3, h4, h5, h6⟩ := h
 exact ⟨s1, s2, s3, s4, s5, a1, a2, a3, a4, a5, a6, h1.outside u (by omega), h2.outside u (by omega), h3.outside u (by omega), h4.outside u (by omega), h5.outside u (by omega), h6.outside u (by omega)⟩
theorem OwnTk.has {B E : Nat} {w : World} {vf vn vz vh vr va : Value} {t : Tk} (h : OwnTk B E w vf vn vz vh vr va t) : HasTk w vf vn vz vh vr va t := by
 obtain ⟨s1, s2, s3, s4, s5, a1, a2, a3, a4, a5, a6, h1, h2, h3, h4, h5, h6⟩ := h
 exact ⟨h1.hasL, h2.hasL, h3.hasL, h4.has, h5.has, h6.has⟩

end Go.Proofs.Ytjgfljndeolmoaa

namespace Go.Proofs.Ytjgfljndeolmoaa
open Go.RowKit
set_option linter.unusedVariables false

/-- What Begin makes. -/
def begTk (q : Que) (hs : List Int) (id : Int) : Tk := ⟨0, id, q, q.name, [], hs, hs, 0, 0, 0, 0, []⟩
def zeroTk : Tk := ⟨0, 0, ⟨[], 0⟩, [], [], [], [], 0, 0, 0, 0, []⟩
def begB (q : Que) (hs : List Int) (id : Int) : Bool := taskOk (begTk q hs id)
def begT (q : Que) (hs : List Int) (id : Int) : Tk := if begB q hs id = true then begTk q hs id else zeroTk
theorem ownN_nil (B E : Nat) (el eb : TypeId) (w : World) : OwnN B E el eb w (.slice none 0 0) [] :=
 ⟨[], World.ownsRow_nil _ _ _ _, fun i hi => absurd hi (by simp), fun i j u u' _ h => by simp at h, fun q h => by simp [Value.ownBlock] at h, fun i u q h => by simp at h⟩
theorem ownBI_nil (B E : Nat) (e : TypeId) (w : World) : OwnBI B E e w (.slice none 0 0) [] := ⟨by simpa [OwnI] using World.ownsRow_nil w B e 1, fun q h => by simp [Value.ownBlock] at h⟩
theorem ownTk_nil (B E : Nat) (hBE : B ≤ E) (w : World) : OwnTk B E w (.slice none 0 0) (.slice none 0 0) (.slice none 0 0) (.slice none 0 0) (.slice none 0 0) (.slice none 0 0) zeroTk :=
 ⟨B, B, B, B, B, Nat.le_refl _, Nat.le_refl _, Nat.le_refl _, Nat.le_refl _, Nat.le_refl _, hBE, ownN_nil _ _ _ _ _, ownN_nil _ _ _ _ _, ownN_nil _ _ _ _ _, ownBI_nil _ _ _ _, ownBI_nil _ _ _ _, RowO.nil _ _ _ _ _ _ _⟩
theorem begTk_has {w : World} {v vh : Value} {q : Que} {hs : List Int} (id : Int) (h : HasL w v q.name) (hh : HasI w vh hs) : HasTk w v v (.slice none 0 0) vh vh (.slice none 0 0) (begTk q hs id) :=
 ⟨h, h, (ownN_nil 0 0 22 5 w).hasL, hh, hh, (RowO.nil 0 0 34 22 5 3 w).has⟩
end Go.Proofs.Ytjgfljndeolmoaa

namespace Go.Proofs.Ytjgfljndeolmoaa
open Go.RowKit
set_option linter.unusedVariables false

set_option maxHeartbeats 400000 in
set_option maxRecDepth 100000 in
theorem upTo_yes {n m : Int} (w : World) (h0 : 0 ≤ n) (h1 : n ≤ m) : Calls Try.prog 60 #[.int .i64 n, .int .i64 m] w fun e w' => e = .returned (.bool true) ∧ w = w' := by
 go_enter Try.func60, Try.ntmps60
 go_wp2
 go_ret
 exact ⟨rfl, rfl⟩

set_option maxHeartbeats 400000 in
set_option maxRecDepth 100000 in
theorem upTo_no {n m : Int} (w : World) (h : n < 0 ∨ m < n) : Calls Try.prog 60 #[.int .i64 n, .int .i64 m] w fun e w' => e = .returned (.bool false) ∧ w = w' := by
 by_cases h0 : n < 0
 ·go_enter Try.func60, Try.ntmps60
  go_wp2
  go_ret
  exact ⟨rfl, rfl⟩
 ·have h1 : m < n := by omega
  have h2 : decide (n ≤ m) = false := decide_eq_false (by omega)
  go_enter Try.func60, Try.ntmps60
  go_wp2
  go_ret
  exact ⟨rfl, rfl⟩
theorem upTo_any (n m : Int) (w : World) : Calls Try.prog 60 #[.int .i64 n, .int .i64 m] w fun e w' => e = .returned (.bool (decide (0 ≤ n ∧ n ≤ m))) ∧ w = w' := by
 by_cases h : 0 ≤ n ∧ n ≤ m
 ·rw [decide_eq_true h]; exact upTo_yes w h.1 h.2
 ·rw [decide_eq_false h]; exact upTo_no w (by omega)
end Go.Proofs.Ytjgfljndeolmoaa

namespace Go.Proofs.Ytjgfljndeolmoaa
open Go.RowKit
set_option linter.unusedVariables false

set_option maxHeartbeats 400000 in
set_option maxRecDepth 100000 in
theorem codeOk_any (c : Int) (w : World) : Calls Try.prog 108 #[.int .i64 c] w fun e w' => e = .returned (.bool (decide (0 ≤ c ∧ c ≤ 10))) ∧ w = w' := by
 by_cases h0 : 0 ≤ c
 ·by_cases h1 : c ≤ 10
  ·rw [decide_eq_true ⟨h0, h1⟩]
   go_enter Try.func108, Try.ntmps108
   go_wp2
   go_ret
   exact ⟨rfl, rfl⟩
  ·rw [decide_eq_false (fun h => h1 h.2)]
   go_enter Try.func108, Try.ntmps108
   go_wp2
   go_ret
   exact ⟨rfl, rfl⟩
 ·rw [decide_eq_false (fun h => h0 h.1)]
  go_enter Try.func108, Try.ntmps108
  go_wp2
  go_ret
  exact ⟨rfl, rfl⟩
end Go.Proofs.Ytjgfljndeolmoaa

namespace Go.Proofs.Ytjgfljndeolmoaa
open Go.RowKit
set_option linter.unusedVariables false

theorem sign_cases (c : Int) : (97 ≤ c ∧ c ≤ 122) ∨ (97 ≤ c ∧ 122 < c) ∨ (c < 97 ∧ 48 ≤ c ∧ c ≤ 57) ∨ (c < 97 ∧ 48 ≤ c ∧ 57 < c ∧ c ≠ 45) ∨ (c < 97 ∧ c < 48 ∧ c = 45) ∨ (c < 97 ∧ c < 48 ∧ c ≠ 45) := by omega

set_option maxHeartbeats 400000 in
set_option maxRecDepth 100000 in
theorem labelSign_any (c : Int) (w : World) :
  Calls Try.prog 118 #[.int .u8 c] w fun e w' => e = .returned (.bool (signOk c)) ∧ w = w' := by
 rcases sign_cases c with ⟨h1, h2⟩ | ⟨h1, h2⟩ | ⟨h1, h2, h3⟩ | ⟨h1, h2, h3, h4⟩ | ⟨h1, h2, rfl⟩ | ⟨h1, h2, h3⟩
 ·have hs : signOk c = true := decide_eq_true (by omega)
  rw [hs]
  go_enter Try.func118, Try.ntmps118
  go_wp2
  go_ret
  exact ⟨rfl, rfl⟩
 ·have hs : signOk c = false := decide_eq_false (by omega)
  rw [hs]
  have h5 : 48 ≤ c := by omega
  have h6 : ¬ c ≤ 57 := by omega
  have h7 : ¬ c ≤ 122 := by omega
  have h8 : (c == 45) = false := by simp; omega
  go_enter Try.func118, Try.ntmps118
  go_wp2
  go_ret
  exact ⟨rfl, rfl⟩
 ·have hs : signOk c = true := decide_eq_true (by omega)
  rw [hs]
  have h5 : ¬ 97 ≤ c := by omega
  go_enter Try.func118, Try.ntmps118
  go_wp2
  go_ret
  exact ⟨rfl, rfl⟩
 ·have hs : signOk c = false := decide_eq_false (by omega)
  rw [hs]
  have h5 : ¬ 97 ≤ c := by omega
  have h6 : ¬ c ≤ 57 := by omega
  have h8 : (c == 45) = false := by simp; omega
  go_enter Try.func118, Try.ntmps118
  go_wp2
  go_ret
  exact ⟨rfl, rfl⟩
 ·have hs : signOk 45 = true := rfl
  rw [hs]
  go_enter Try.func118, Try.ntmps118
  go_wp2
  go_ret
  exact ⟨rfl, rfl⟩
 ·have hs : signOk c = false := decide_eq_false (by omega)
  rw [hs]
  have h5 : ¬ 97 ≤ c := by omega
  have h6 : ¬ 48 ≤ c := by omega
  have h8 : (c == 45) = false := by simp; omega
  go_enter Try.func118, Try.ntmps118
  go_wp2
  go_ret
  exact ⟨rfl, rfl⟩

set_option maxHeartbeats 400000 in
set_option maxRecDepth 100000 in
theorem implLabelOk_has {v : Value} {l : List Int} {w : World} (h : Has w v l) :
  Calls Try.prog 89 #[v] w fun e w' => e = .returned (.bool (labelOk l)) ∧ w = w' := by
 have hbd := h.bound
 unfold maxLen at hbd
 obtain ⟨a, cap, rfl, hL⟩ := h.form
 by_cases h0 : l.length = 0
 ·rw [labelOk_short (by omega), h0]
  go_enter Try.func89, Try.ntmps89
  go_wp2
  go_ret
  exact ⟨rfl, rfl⟩
 ·by_cases h1 : 15 < l.length
  ·rw [labelOk_short (by omega)]
   generalize hn : l.length = n at *
   have h3 : ((n : Int) == 0) = false := by simp; omega
   go_enter Try.func89, Try.ntmps89
   go_wp2
   go_ret
   exact ⟨rfl, rfl⟩
  ·have h2 : l.length ≤ 15 := by omega
   have hyes := hide (fun (hs : ∀ j, j < l.length → signOk (l.getD j 0) = true) => labelOk_yes (l := l) (by omega) h2 hs)
   have hno := hide (fun (j : Nat) (hj : j < l.length) (hs : signOk (l.getD j 0) = false) => labelOk_sign hj hs)
   generalize hok : labelOk l = ok at *
   clear hok
   generalize hn : l.length = n at *
   have HN := hide hn
   clear hn
   have h3 : ((n : Int) == 0) = false := by simp; omega
   go_enter Try.func89, Try.ntmps89
   go_wp2
   go_loop [15] (fun i => ∃ k : Nat, k ≤ n ∧ i = .int .i64 k ∧ Hid (∀ j, j < k → signOk (l.getD j 0) = true)) (fun i => n - (intOf i).toNat)
   case atStart => exact ⟨0, Nat.zero_le _, rfl, hide (fun j hj => absurd hj (Nat.not_lt_zero _))⟩
   case round =>
    obtain ⟨k, hk, rfl, hall⟩ := hrel
    by_cases hlt : k < n
    ·obtain ⟨b, off, rfl, hbl, hc⟩ := hL.here (k := k) (by rw [unhide HN]; exact hlt)
     have hone := hide (fun (hs : signOk (l.getD k 0) = true) => (show ∀ j, j < k + 1 → signOk (l.getD j 0) = true from fun j hj => by
      by_cases e : j = k
      ·subst e; exact hs
      ·exact unhide hall j (by omega)))
     have hnok := hide (fun (hs : signOk (l.getD k 0) = false) => unhide hno k hlt hs)
     generalize hx : l.getD k 0 = x at *
     go_wp2_with fail
     refine (labelSign_any x _).mono ?_
     rintro e w1 ⟨rfl, rfl⟩
     cases hs : signOk x with
     | true =>
      go_wp2
      exact ⟨⟨k + 1, by omega, by go_num, hide (unhide hone hs)⟩, by simp [intOf]; omega⟩
     | false =>
      have hq := unhide hnok hs
      subst hq
      go_wp2
      go_ret
      exact ⟨rfl, rfl⟩
    ·obtain rfl : k = n := by omega
     have hq := unhide hyes (unhide hall)
     subst hq
     go_wp2
     go_ret
     exact ⟨rfl, rfl⟩
end Go.Proofs.Ytjgfljndeolmoaa
