/-
  A message that is being drawn: its rows, and how they fare while it is. Contract of the specification's l1PickInt. Contracts of the specification's draws of chapter 1: l1Once, l1PickInt, l1some. Contract of the specification's l1some: a few drawn bytes. Plain facts: a text of bytes gone through rune by rune, and great letters turned into small ones. No program is named here. What NameGet reads, in plain words: one step after another, each a label or a pointer. What NameRead reads, in plain words. A slice of bytes made into a text. Plain facts: an address read from its text, as the program does it and as the specification does it, and that both read the same. No program is named here.
-/
import Derived.Test.YtbabmdiklefgcaaGreatDoorFnRepliesG05
import Derived.Test.YtbabmdiklefgcaaGreatDoorFnRepliesG06
import Derived.Test.YtbabmdiklefgcaaGreatDoorFnRepliesG00
import Derived.Lib.OthersKept
import Derived.Test.YtbabmdiklefgcaaGreatDoorFnRepliesG01
import Derived.Lib.Split
import Derived.Lib.SplitLaws
namespace Go.Proofs.YtbabmdiklefgcaaGreatDoor
open Go.RowKit
set_option linter.unusedVariables false

structure CurX (w0 w : World) (g : Nat) (a : Option Addr) (len cap : Nat) : Prop where
 cur : Cur w g a len cap
 code : Code w g a len
 grown : w0.grownBy w (some g)
 lt : g < w0.heap.size
theorem CurX.row {w0 w w' : World} {g len cap : Nat} {a : Option Addr} {row : Option Nat} (h : CurX w0 w g a len cap) (hg : w.grownBy w' row) (hr : ∀ j, row = some j → w0.heap.size ≤ j) : CurX w0 w' g a len cap :=
 ⟨h.cur.later hg (fun j e => Nat.lt_of_lt_of_le h.lt (hr j e)), h.code.later hg (fun j e => Nat.le_of_lt (Nat.lt_of_lt_of_le h.lt (hr j e))), grown_own h.grown hg hr, h.lt⟩
theorem CurX.below {w0 w w' : World} {g len cap : Nat} {a : Option Addr} (h : CurX w0 w g a len cap) (hb : Below w.heap.size w w') : CurX w0 w' g a len cap := h.row (grown_of_below hb) (fun j e => by cases e)
theorem CurX.step {w0 w w' : World} {g len cap : Nat} {a : Option Addr} (h : CurX w0 w g a len cap) (hc : Cur w' g a len cap) (hg : w.grownBy w' (some g)) : CurX w0 w' g a len cap := ⟨hc, h.code.grown hg, grown_trans h.grown hg, h.lt⟩
theorem CurX.start {w : World} {g len cap : Nat} {a : Option Addr} (hc : Cur w g a len cap) (hL : Code w g a len) : CurX w w g a len cap := ⟨hc, hL, ⟨rfl, rfl, rfl, Nat.le_refl _, fun _ _ _ => rfl⟩, hc.lt⟩

abbrev nilV : Value := .slice none 0 0
abbrev tysM : List TypeId := [39, 63, 66, 22, 5, 3]
theorem tysM_R {t : TypeId} (h : t ∉ tysM) : t ∉ tysR ∧ t ≠ 39 ∧ t ≠ 63 ∧ t ≠ 66 := by
 simp only [List.mem_cons, List.not_mem_nil, or_false, not_or] at h ⊢
 obtain ⟨h1, h2, h3, h4, h5, h6⟩ := h
 exact ⟨⟨h4, h5, h6⟩, h1, h2, h3⟩
theorem q_tysR : 39 ∉ tysR := by decide
theorem r_tysR : 63 ∉ tysR := by decide
theorem w_tysR : 66 ∉ tysR := by decide
structure DrawMs (B s1 s2 s3 : Nat) (w : World) (vq va vb vm vp vu : Value) (m : Mg) : Prop where
 qs : RowQd B w.heap.size w vq m.qs
 ans : RowRd B s1 w va m.ans
 aus : RowRd s1 s2 w vb m.aus
 more : RowRd s2 w.heap.size w vm m.more
 pres : RowWd B s3 w vp m.pres
 ups : RowWd s3 w.heap.size w vu m.ups
 b1 : B ≤ s1
 b2 : s1 ≤ s2
 b3 : s2 ≤ w.heap.size
 b4 : B ≤ s3
 b5 : s3 ≤ w.heap.size
 byt : BytM m
structure DrawMw (B : Nat) (w : World) (vq va vb vm vp vu : Value) (m : Mg) : Prop where
 qs : RowQd B w.heap.size w vq m.qs
 ans : RowRd B w.heap.size w va m.ans
 aus : RowRd B w.heap.size w vb m.aus
 more : RowRd B w.heap.size w vm m.more
 pres : RowWd B w.heap.size w vp m.pres
 ups : RowWd B w.heap.size w vu m.ups
 byt : BytM m
section
variable {B s1 s2 s3 : Nat} {w w' : World} {vq va vb vm vp vu : Value} {m : Mg}
theorem DrawMs.weak (h : DrawMs B s1 s2 s3 w vq va vb vm vp vu m) : DrawMw B w vq va vb vm vp vu m := by
 have h1 := h.b1
 have h2 := h.b2
 have h3 := h.b3
 have h4 := h.b4
 have h5 := h.b5
 exact ⟨h.qs, h.ans.wide (Nat.le_refl _) (by omega), h.aus.wide (by omega) (by omega), h.more.wide (by omega) (Nat.le_refl _), h.pres.wide (Nat.le_refl _) (by omega), h.ups.wide (by omega) (Nat.le_refl _), h.byt⟩
theorem DrawMs.heads (h : DrawMs B s1 s2 s3 w vq va vb vm vp vu m) (i o c : Int) (r a : Bool) : DrawMs B s1 s2 s3 w vq va vb vm vp vu ⟨i, r, o, a, c, m.qs, m.ans, m.aus, m.more, m.pres, m.ups⟩ := ⟨h.qs, h.ans, h.aus, h.more, h.pres, h.ups, h.b1, h.b2, h.b3, h.b4, h.b5, h.byt⟩
theorem DrawMw.hasM (h : DrawMw B w vq va vb vm vp vu m) : HasM w vq va vb vm vp vu m := ⟨h.qs.has, h.ans.has, h.aus.has, h.more.has, h.pres.has, h.ups.has⟩
theorem DrawMs.below (h : DrawMs B s1 s2 s3 w vq va vb vm vp vu m) (hb : Below w.heap.size w w') : DrawMs B s1 s2 s3 w' vq va vb vm vp vu m :=
 ⟨(RowDr.below drawnQu h.qs hb).wide (Nat.le_refl _) hb.size, RowDr.below drawnRr h.ans hb, RowDr.below drawnRr h.aus hb, (RowDr.below drawnRr h.more hb).wide (Nat.le_refl _) hb.size, RowDr.below drawnWn h.pres hb, (RowDr.below drawnWn h.ups hb).wide (Nat.le_refl _) hb.size, h.b1, h.b2, Nat.le_trans h.b3 hb.size, h.b4, Nat.le_trans h.b5 hb.size, h.byt⟩
theorem DrawMw.below (h : DrawMw B w vq va vb vm vp vu m) (hb : Below w.heap.size w w') : DrawMw B w' vq va vb vm vp vu m :=
 ⟨(RowDr.below drawnQu h.qs hb).wide (Nat.le_refl _) hb.size, (RowDr.below drawnRr h.ans hb).wide (Nat.le_refl _) hb.size, (RowDr.below drawnRr h.aus hb).wide (Nat.le_refl _) hb.size, (RowDr.below drawnRr h.more hb).wide (Nat.le_refl _) hb.size, (RowDr.below drawnWn h.pres hb).wide (Nat.le_refl _) hb.size, (RowDr.below drawnWn h.ups hb).wide (Nat.le_refl _) hb.size, h.byt⟩
theorem DrawMs.off (h : DrawMs B s1 s2 s3 w vq va vb vm vp vu m) {q : Nat} {t : TypeId} {cc : Array Value} (hk : w.heap[q]? = some (.cells cc t)) (ht : t ∉ tysM) (hg : w.grownBy w' (some q)) : DrawMs B s1 s2 s3 w' vq va vb vm vp vu m := by
 obtain ⟨h1, h2, h3, h4⟩ := tysM_R ht
 exact ⟨(RowDr.off drawnQu h.qs hk h1 (.inl h2) hg).wide (Nat.le_refl _) hg.size, RowDr.off drawnRr h.ans hk h1 (.inl h3) hg, RowDr.off drawnRr h.aus hk h1 (.inl h3) hg, (RowDr.off drawnRr h.more hk h1 (.inl h3) hg).wide (Nat.le_refl _) hg.size, RowDr.off drawnWn h.pres hk h1 (.inl h4) hg, (RowDr.off drawnWn h.ups hk h1 (.inl h4) hg).wide (Nat.le_refl _) hg.size, h.b1, h.b2, Nat.le_trans h.b3 hg.size, h.b4, Nat.le_trans h.b5 hg.size, h.byt⟩
theorem DrawMw.off (h : DrawMw B w vq va vb vm vp vu m) {q : Nat} {t : TypeId} {cc : Array Value} (hk : w.heap[q]? = some (.cells cc t)) (ht : t ∉ tysM) (hg : w.grownBy w' (some q)) : DrawMw B w' vq va vb vm vp vu m := by
 obtain ⟨h1, h2, h3, h4⟩ := tysM_R ht
 exact ⟨(RowDr.off drawnQu h.qs hk h1 (.inl h2) hg).wide (Nat.le_refl _) hg.size, (RowDr.off drawnRr h.ans hk h1 (.inl h3) hg).wide (Nat.le_refl _) hg.size, (RowDr.off drawnRr h.aus hk h1 (.inl h3) hg).wide (Nat.le_refl _) hg.size, (RowDr.off drawnRr h.more hk h1 (.inl h3) hg).wide (Nat.le_refl _) hg.size, (RowDr.off drawnWn h.pres hk h1 (.inl h4) hg).wide (Nat.le_refl _) hg.size, (RowDr.off drawnWn h.ups hk h1 (.inl h4) hg).wide (Nat.le_refl _) hg.size, h.byt⟩
theorem DrawMs.cur {g len cap : Nat} {a : Option Addr} (h : DrawMs B s1 s2 s3 w vq va vb vm vp vu m) (hc : Cur w g a len cap) (hg : w.grownBy w' (some g)) : DrawMs B s1 s2 s3 w' vq va vb vm vp vu m := by
 obtain ⟨i, x, h1, _⟩ := hc
 exact h.off h1 (by decide) hg
theorem DrawMw.cur {g len cap : Nat} {a : Option Addr} (h : DrawMw B w vq va vb vm vp vu m) (hc : Cur w g a len cap) (hg : w.grownBy w' (some g)) : DrawMw B w' vq va vb vm vp vu m := by
 obtain ⟨i, x, h1, _⟩ := hc
 exact h.off h1 (by decide) hg
theorem bytRs_snoc {rs : List Rec} {r : Rec} (h : BytRs rs) (hr : Byt r.text) : BytRs (rs ++ [r]) := fun i hi => by
 rw [List.length_append] at hi
 simp only [List.length_cons, List.length_nil] at hi
 by_cases hlt : i < rs.length
 ·rw [List.getD_eq_getElem?_getD, List.getElem?_append_left hlt, ← List.getD_eq_getElem?_getD]; exact h i hlt
 ·obtain rfl : i = rs.length := by omega
  rw [List.getD_eq_getElem?_getD]
  simpa using hr
theorem bytRs_nil : BytRs [] := fun i hi => absurd hi (by simp)
theorem DrawMs.snocA (h : DrawMs B s1 s2 s3 w vq va nilV nilV vp vu m) (h1 : m.aus = []) (h2 : m.more = []) {va' : Value} {vs : List Value} {r : Rec} (hr : DrawRr w vs r) (h8 : Byt r.text) (hg : w.grownBy w' va.ownBlock)
  (ho : ∀ cs, w.ownsRow B 63 7 va m.ans.length cs → w'.ownsRow B 63 7 va' (m.ans.length + 1) (cs ++ vs)) : DrawMs B w'.heap.size w'.heap.size s3 w' vq va' nilV nilV vp vu { m with ans := m.ans ++ [r] } := by
 obtain ⟨cs, hc⟩ := h.ans.own
 have z := hg.size
 have e3 := h.b3
 have e2 := h.b2
 have e1 := h.b1
 refine ⟨(RowDr.apart drawnQu h.qs hc r_tysR (.inl (by decide)) hg).wide (Nat.le_refl _) z, RowDr.snoc drawnRr h.ans hr r_tysR hg ho, ?_, ?_, RowDr.apart drawnWn h.pres hc r_tysR (.inl (by decide)) hg, (RowDr.apart drawnWn h.ups hc r_tysR (.inl (by decide)) hg).wide (Nat.le_refl _) z, by omega, Nat.le_refl _, Nat.le_refl _, h.b4, Nat.le_trans h.b5 z, ⟨bytRs_snoc h.byt.1 h8, h.byt.2.1, h.byt.2.2⟩⟩
 ·show RowRd _ _ w' nilV m.aus
  rw [h1]; exact RowDr.nil w'
 ·show RowRd _ _ w' nilV m.more
  rw [h2]; exact RowDr.nil w'
theorem DrawMs.snocB (h : DrawMs B s1 s2 s3 w vq va vb nilV vp vu m) (h2 : m.more = []) {vb' : Value} {vs : List Value} {r : Rec} (hr : DrawRr w vs r) (h8 : Byt r.text) (hg : w.grownBy w' vb.ownBlock)
  (ho : ∀ cs, w.ownsRow s1 63 7 vb m.aus.length cs → w'.ownsRow s1 63 7 vb' (m.aus.length + 1) (cs ++ vs)) : DrawMs B s1 w'.heap.size s3 w' vq va vb' nilV vp vu { m with aus := m.aus ++ [r] } := by
 obtain ⟨cs, hc⟩ := h.aus.own
 have z := hg.size
 have e3 := h.b3
 have e2 := h.b2
 have e1 := h.b1
 refine ⟨(RowDr.apart drawnQu h.qs hc r_tysR (.inl (by decide)) hg).wide (Nat.le_refl _) z, RowDr.apart drawnRr h.ans hc r_tysR (.inr fun q e => .inr (h.aus.where_ e).1) hg, RowDr.snoc drawnRr h.aus hr r_tysR hg ho, ?_, RowDr.apart drawnWn h.pres hc r_tysR (.inl (by decide)) hg, (RowDr.apart drawnWn h.ups hc r_tysR (.inl (by decide)) hg).wide (Nat.le_refl _) z, h.b1, by omega, Nat.le_refl _, h.b4, Nat.le_trans h.b5 z, ⟨h.byt.1, bytRs_snoc h.byt.2.1 h8, h.byt.2.2⟩⟩
 show RowRd _ _ w' nilV m.more
 rw [h2]; exact RowDr.nil w'
theorem DrawMs.snocC (h : DrawMs B s1 s2 s3 w vq va vb vm vp vu m) {vm' : Value} {vs : List Value} {r : Rec} (hr : DrawRr w vs r) (h8 : Byt r.text) (hg : w.grownBy w' vm.ownBlock)
  (ho : ∀ cs, w.ownsRow s2 63 7 vm m.more.length cs → w'.ownsRow s2 63 7 vm' (m.more.length + 1) (cs ++ vs)) : DrawMs B s1 s2 s3 w' vq va vb vm' vp vu { m with more := m.more ++ [r] } := by
 obtain ⟨cs, hc⟩ := h.more.own
 have z := hg.size
 have e2 := h.b2
 exact ⟨(RowDr.apart drawnQu h.qs hc r_tysR (.inl (by decide)) hg).wide (Nat.le_refl _) z, RowDr.apart drawnRr h.ans hc r_tysR (.inr fun q e => .inr (by have := (h.more.where_ e).1; omega)) hg, RowDr.apart drawnRr h.aus hc r_tysR (.inr fun q e => .inr (h.more.where_ e).1) hg, RowDr.snoc drawnRr h.more hr r_tysR hg ho, RowDr.apart drawnWn h.pres hc r_tysR (.inl (by decide)) hg, (RowDr.apart drawnWn h.ups hc r_tysR (.inl (by decide)) hg).wide (Nat.le_refl _) z, h.b1, h.b2, Nat.le_trans h.b3 z, h.b4, Nat.le_trans h.b5 z, ⟨h.byt.1, h.byt.2.1, bytRs_snoc h.byt.2.2 h8⟩⟩
theorem DrawMs.snocP (h : DrawMs B s1 s2 s3 w vq va vb vm vp nilV m) (h2 : m.ups = []) {vp' : Value} {vs : List Value} {x : Wnt} (hr : DrawWn w vs x) (hg : w.grownBy w' vp.ownBlock)
  (ho : ∀ cs, w.ownsRow B 66 9 vp m.pres.length cs → w'.ownsRow B 66 9 vp' (m.pres.length + 1) (cs ++ vs)) : DrawMs B s1 s2 w'.heap.size w' vq va vb vm vp' nilV { m with pres := m.pres ++ [x] } := by
 obtain ⟨cs, hc⟩ := h.pres.own
 have z := hg.size
 have e4 := h.b4
 have e5 := h.b5
 refine ⟨(RowDr.apart drawnQu h.qs hc w_tysR (.inl (by decide)) hg).wide (Nat.le_refl _) z, RowDr.apart drawnRr h.ans hc w_tysR (.inl (by decide)) hg, RowDr.apart drawnRr h.aus hc w_tysR (.inl (by decide)) hg, (RowDr.apart drawnRr h.more hc w_tysR (.inl (by decide)) hg).wide (Nat.le_refl _) z, RowDr.snoc drawnWn h.pres hr w_tysR hg ho, ?_, h.b1, h.b2, Nat.le_trans h.b3 z, by omega, Nat.le_refl _, h.byt⟩
 show RowWd _ _ w' nilV m.ups
 rw [h2]; exact RowDr.nil w'
theorem DrawMs.snocU (h : DrawMs B s1 s2 s3 w vq va vb vm vp vu m) {vu' : Value} {vs : List Value} {x : Wnt} (hr : DrawWn w vs x) (hg : w.grownBy w' vu.ownBlock)
  (ho : ∀ cs, w.ownsRow s3 66 9 vu m.ups.length cs → w'.ownsRow s3 66 9 vu' (m.ups.length + 1) (cs ++ vs)) : DrawMs B s1 s2 s3 w' vq va vb vm vp vu' { m with ups := m.ups ++ [x] } := by
 obtain ⟨cs, hc⟩ := h.ups.own
 have z := hg.size
 exact ⟨(RowDr.apart drawnQu h.qs hc w_tysR (.inl (by decide)) hg).wide (Nat.le_refl _) z, RowDr.apart drawnRr h.ans hc w_tysR (.inl (by decide)) hg, RowDr.apart drawnRr h.aus hc w_tysR (.inl (by decide)) hg, (RowDr.apart drawnRr h.more hc w_tysR (.inl (by decide)) hg).wide (Nat.le_refl _) z, RowDr.apart drawnWn h.pres hc w_tysR (.inr fun q e => .inr (h.ups.where_ e).1) hg, RowDr.snoc drawnWn h.ups hr w_tysR hg ho, h.b1, h.b2, Nat.le_trans h.b3 z, h.b4, Nat.le_trans h.b5 z, h.byt⟩
theorem DrawMs.snocQ (h : DrawMs B s1 s2 s3 w vq va vb vm vp vu m) {vq' : Value} {vs : List Value} {x : Que} (hr : DrawQu w vs x) (hg : w.grownBy w' vq.ownBlock)
  (ho : ∀ cs, w.ownsRow B 39 2 vq m.qs.length cs → w'.ownsRow B 39 2 vq' (m.qs.length + 1) (cs ++ vs)) : DrawMs B s1 s2 s3 w' vq' va vb vm vp vu { m with qs := m.qs ++ [x] } := by
 obtain ⟨cs, hc⟩ := h.qs.own
 have z := hg.size
 exact ⟨RowDr.snoc drawnQu h.qs hr q_tysR hg ho, RowDr.apart drawnRr h.ans hc q_tysR (.inl (by decide)) hg, RowDr.apart drawnRr h.aus hc q_tysR (.inl (by decide)) hg, (RowDr.apart drawnRr h.more hc q_tysR (.inl (by decide)) hg).wide (Nat.le_refl _) z, RowDr.apart drawnWn h.pres hc q_tysR (.inl (by decide)) hg, (RowDr.apart drawnWn h.ups hc q_tysR (.inl (by decide)) hg).wide (Nat.le_refl _) z, h.b1, h.b2, Nat.le_trans h.b3 z, h.b4, Nat.le_trans h.b5 z, h.byt⟩
theorem DrawMs.snocZ (h : DrawMs B s1 s2 s3 w vq va vb vm vp vu m) {va' : Value} {vs : List Value} {r : Rec} (hr : DrawRr w vs r) (h8 : Byt r.text) (hg : w.grownBy w' va.ownBlock)
  (ho : ∀ cs, w.ownsRow B 63 7 va m.ans.length cs → w'.ownsRow B 63 7 va' (m.ans.length + 1) (cs ++ vs)) : DrawMw B w' vq va' vb vm vp vu { m with ans := m.ans ++ [r] } := by
 obtain ⟨cs, hc⟩ := h.ans.own
 have z := hg.size
 have e1 := h.b1
 have e2 := h.b2
 have e3 := h.b3
 have e4 := h.b4
 have e5 := h.b5
 exact ⟨(RowDr.apart drawnQu h.qs hc r_tysR (.inl (by decide)) hg).wide (Nat.le_refl _) z, RowDr.snoc drawnRr h.ans hr r_tysR hg ho, (RowDr.apart drawnRr h.aus hc r_tysR (.inr fun q e => .inl (h.ans.where_ e).2.1) hg).wide e1 (by omega), (RowDr.apart drawnRr h.more hc r_tysR (.inr fun q e => .inl (by have := (h.ans.where_ e).2.1; omega)) hg).wide (by omega) z, (RowDr.apart drawnWn h.pres hc r_tysR (.inl (by decide)) hg).wide (Nat.le_refl _) (by omega), (RowDr.apart drawnWn h.ups hc r_tysR (.inl (by decide)) hg).wide (by omega) z, ⟨bytRs_snoc h.byt.1 h8, h.byt.2.1, h.byt.2.2⟩⟩
theorem DrawMs.typ {qb : Nat} {vn : Value} {q : Que} {x t : Int} (h : DrawMs B s1 s2 s3 w (.slice (some ⟨qb, 0, none⟩) 1 1) va vb vm vp vu m) (hq : m.qs = [q]) (hk : w.heap[qb]? = some (.cells #[vn, .int .i64 x] 39)) (hn : OwnT 0 22 5 w vn q.name) :
  DrawMs B s1 s2 s3 (w.setCell ⟨qb, 1, none⟩ (.int .i64 t)) (.slice (some ⟨qb, 0, none⟩) 1 1) va vb vm vp vu { m with qs := [⟨q.name, t⟩] } := by
 have hg := grown_setCell w ⟨qb, 1, none⟩ (.int .i64 t)
 have z : (w.setCell ⟨qb, 1, none⟩ (.int .i64 t)).heap.size = w.heap.size := by simp [World.setCell]
 have hB := h.qs.where_ (q := qb) rfl
 have hk' : (w.setCell ⟨qb, 1, none⟩ (.int .i64 t)).heap[qb]? = some (.cells #[vn, .int .i64 t] 39) := UV hk 1 _
 refine ⟨RowDr.one drawnQu (vs := [vn, .int .i64 t]) hk' ⟨vn, rfl, hn.off hk (by decide) (by decide) hg⟩ hB.1 (by rw [z]; exact hB.2.1), RowDr.off drawnRr h.ans hk q_tysR (.inl (by decide)) hg, RowDr.off drawnRr h.aus hk q_tysR (.inl (by decide)) hg, ?_, RowDr.off drawnWn h.pres hk q_tysR (.inl (by decide)) hg, ?_, h.b1, h.b2, by rw [z]; exact h.b3, h.b4, by rw [z]; exact h.b5, h.byt⟩
 ·rw [z]; exact RowDr.off drawnRr h.more hk q_tysR (.inl (by decide)) hg
 ·rw [z]; exact RowDr.off drawnWn h.ups hk q_tysR (.inl (by decide)) hg
end
set_option maxHeartbeats 400000 in
set_option maxRecDepth 100000 in
theorem l1PickInt_any {g : Nat} {a : Option Addr} {len cap : Nat} {w : World} (gl n : Nat) (hc : Cur w g a len cap) (hL : Code w g a len) (hm : len ≤ maxLen) (hn0 : 1 ≤ n) (hn1 : n ≤ 1048576) (hlt : gl < w.heap.size) (hgl : g < gl)
  (hcell : ∀ j, j < n → ∃ z, w.cell? ⟨gl, j, none⟩ = some (.int .i64 z)) :
  Calls Tryz.prog 29 #[.pointer (some ⟨g, 0, none⟩), .slice (some ⟨gl, 0, none⟩) n n] w fun e w' => ∃ z, e = .returned (.int .i64 z) ∧ Cur w' g a len cap ∧ w.grownBy w' (some g) := by
 have HM := UC hm
 clear hm
 have HC := UC hcell
 clear hcell
 go_enter Tryz.func29, Tryz.ntmps29
 go_wp2_with fail
 refine (l1Below_any n hc hL (UB HM) (by omega) (by omega)).mono ?_
 rintro e w1 ⟨x, rfl, hx0, hx1, hc1, g1⟩
 obtain ⟨j, rfl⟩ := Int.eq_ofNat_of_zero_le hx0
 obtain ⟨z, hz⟩ := (UB HC) j (by omega)
 have hz1 : w1.cell? ⟨gl, j, none⟩ = some (.int .i64 z) := by
  rw [World.cell?_of_block (w := w) (g1.block gl hlt (by simp; omega))]; exact hz
 clear hz
 go_wp2
 go_ret
 exact ⟨z, rfl, hc1, g1⟩

theorem below_cursor {w w1 w2 : World} {row : Option Nat} (hb : Below w.heap.size w w1) (hg : w1.grownBy w2 row) (hr : ∀ j, row = some j → w.heap.size ≤ j) : Below w.heap.size w w2 := hb.grown hg hb.size hr
set_option maxHeartbeats 400000 in
set_option maxRecDepth 100000 in
theorem l1Once_any {g : Nat} {a : Option Addr} {len cap : Nat} {w : World} (n : Int) (hc : Cur w g a len cap) (hL : Code w g a len) (hm : len ≤ maxLen) (hn0 : 1 ≤ n) (hn1 : n ≤ 1099511627776) :
  Calls Tryz.prog 28 #[.pointer (some ⟨g, 0, none⟩), .int .i64 n] w fun e w' => ∃ x : Bool, e = .returned (.bool x) ∧ Cur w' g a len cap ∧ w.grownBy w' (some g) := by
 have HM := UC hm
 clear hm
 go_enter Tryz.func28, Tryz.ntmps28
 go_wp2_with fail
 refine (l1Below_any n hc hL (UB HM) hn0 hn1).mono ?_
 rintro e w1 ⟨x, rfl, hx0, hx1, hc1, g1⟩
 go_wp2
 go_ret
 exact ⟨_, rfl, hc1, g1⟩
set_option maxHeartbeats 1000000 in
set_option maxRecDepth 100000 in
theorem l1some_any {g : Nat} {a : Option Addr} {len cap : Nat} {w : World} (most : Int) (hc : Cur w g a len cap) (hL : Code w g a len) (hm : len ≤ maxLen) (hn0 : 1 ≤ most) (hn1 : most ≤ 1048576) :
  Calls Tryz.prog 58 #[.pointer (some ⟨g, 0, none⟩), .int .i64 most] w fun e w' => ∃ v l, e = .returned v ∧ Own w.heap.size 5 w' v l ∧ (l.length : Int) < most ∧ (∀ x ∈ l, 0 ≤ x ∧ x ≤ 255) ∧ Cur w' g a len cap ∧ w.grownBy w' (some g) := by
 have HM := UC hm
 clear hm
 have hgw := hc.lt
 go_enter Tryz.func58, Tryz.ntmps58
 go_wp2_with fail
 refine (l1Below_any most hc hL (UB HM) hn0 (by omega)).mono ?_
 rintro e w1 ⟨x, rfl, hx0, hx1, hc1, g1⟩
 have hL1 := hL.grown g1
 have HC1 := UC hc1
 clear hc1 hc hL
 obtain ⟨n, rfl⟩ := Int.eq_ofNat_of_zero_le hx0
 go_wp2
 go_loopw [5, 7] (fun b i wr => ∃ (k : Nat) (l : List Int), k ≤ n ∧ i = .int .i64 k ∧ l.length = k ∧ (∀ x ∈ l, 0 ≤ x ∧ x ≤ 255) ∧ Own w.heap.size 5 wr b l ∧ Hid (Cur wr g a len cap) ∧ Code wr g a len ∧ w.grownBy wr (some g)) (fun _ i _ => n - (intOf i).toNat)
 case atStart => exact ⟨0, [], Nat.zero_le _, rfl, rfl, by simp, World.ownsRow_nil _ _ _ _, HC1, hL1, g1⟩
 case round =>
  obtain ⟨k, l, hk, rfl, hlk, hlb, ho, hcr, hLr, gr⟩ := hrel
  have HLK := UC hlk
  clear hlk
  have HLB := UC hlb
  clear hlb
  have hsz := gr.size
  by_cases hlt : k < n
  ·go_wp2_with fail
   refine (l1Byte_any (UB hcr) hLr (UB HM)).mono ?_
   rintro e w2 ⟨y, rfl, hy0, hy1, hc2, g2⟩
   have hL2 := hLr.grown g2
   have o2 : Own w.heap.size 5 w2 u5 l := ho.kept g2 (by
    cases hv : u5.ownBlock with
    | none => exact .inl rfl
    | some j => right; intro e; have := (ho.lt j hv).1; simp at e; omega)
   have gr2 := grown_trans gr g2
   have z2 := gr2.size
   have HC2 := UC hc2
   clear hc2 g2 hLr ho gr
   go_wp2_with (at_builtin; refine append_bytes rfl _ _ 22 5 rfl Tryz.underlying22 VJ w.heap.size u5 _ l [y] rfl rfl (o2.alloc _) (own_lit w2 0 5 [y] (Nat.zero_le _) (by simp [maxLen])).reads (by rw [UB HLK]; simp; omega) (by simp; omega) ?_)
   intro v3 w3 o3 g3
   have hrow : ∀ j, u5.ownBlock = some j → w.heap.size ≤ j := fun j e => (o2.lt j e).1
   have g23 := grown_alloc w2 (.cells #[.int .u8 y] 5) none
   have c3 := UC (((UB HC2).later g23 (by simp)).later g3 (fun j e => by have := hrow j e; omega))
   have l3 := (hL2.later g23 (by simp)).later g3 (fun j e => by have := hrow j e; omega)
   have gr3 := grown_own (grown_own gr2 g23 (by simp)) g3 hrow
   clear g3 g23
   go_wp2
   refine ⟨⟨k + 1, l ++ [y], by omega, by go_num, by rw [List.length_append, UB HLK]; rfl, ?_, o3, c3, l3, gr3⟩, by simp [intOf]; omega⟩
   intro x hx
   simp at hx
   rcases hx with hx | rfl
   ·exact UB HLB x hx
   ·exact ⟨hy0, hy1⟩
  ·go_wp2
   go_ret
   exact ⟨_, l, rfl, ho, by rw [UB HLK]; omega, UB HLB, UB hcr, gr⟩
end Go.Proofs.YtbabmdiklefgcaaGreatDoor

namespace Go.Proofs.YtbabmdiklefgcaaGreatDoor
open Go.RowKit

def low (x : Int) : Int := if 65 ≤ x ∧ x ≤ 90 then x + 32 else x
def lowered (l : List Int) (k : Nat) : List Int := (List.range l.length).map fun (j : Nat) => if j < k then low (l.getD j 0) else l.getD j 0

theorem lowered_length (l : List Int) (k : Nat) : (lowered l k).length = l.length := by simp [lowered]
theorem lowered_zero (l : List Int) : lowered l 0 = l := by
  apply List.ext_getElem?
  intro j
  by_cases hj : j < l.length <;> simp [lowered, hj]
theorem lowered_getD (l : List Int) (k i : Nat) (h : k ≤ i) : (lowered l k).getD i 0 = l.getD i 0 := by
  by_cases hi : i < l.length
  · simp [lowered, hi, Nat.not_lt.2 h]
  · simp [lowered, hi]
theorem lowered_succ (l : List Int) (k : Nat) : (lowered l k).set k (low (l.getD k 0)) = lowered l (k + 1) := by
  apply List.ext_getElem?
  intro j
  rw [List.getElem?_set]
  by_cases hj : j < l.length
  · by_cases e : k = j
    · subst e; simp [lowered, hj]
    · have : j < k + 1 ↔ j < k := by omega
      simp [lowered, hj, e, this]
  · simp [lowered, hj]
    omega
theorem low_high (x : Int) (h : x < 65 ∨ 90 < x) : low x = x := by unfold low; rw [if_neg (by omega)]
theorem low_great (x : Int) (h : 65 ≤ x) (h' : x ≤ 90) : low x = x + 32 := by unfold low; rw [if_pos ⟨h, h'⟩]
theorem lowered_same (l : List Int) (k k' : Nat) (hk : k ≤ k') (h : ∀ j, k ≤ j → j < k' → l.getD j 0 < 65 ∨ 90 < l.getD j 0) : lowered l k' = lowered l k := by
  unfold lowered
  apply List.map_congr_left
  intro j hj
  by_cases h1 : j < k
  · rw [if_pos h1, if_pos (by omega)]
  · rw [if_neg h1]
    by_cases h2 : j < k'
    · rw [if_pos h2, low_high _ (h j (by omega) h2)]
    · rw [if_neg h2]

theorem str_get (l : List Int) (k : Nat) (h : k < l.length) : (strOfNums l).get! k = UInt8.ofNat (l.getD k 0).toNat := by
  have hs : k < (strOfNums l).size := by rw [strOfNums_size]; exact h
  simp [ByteArray.get!, strOfNums, h]

theorem str_toNat (l : List Int) (hb : ∀ k, 0 ≤ l.getD k 0 ∧ l.getD k 0 ≤ 255) (k : Nat) (h : k < l.length) : (((strOfNums l).get! k).toNat : Int) = l.getD k 0 := by
  rw [str_get l k h]
  have := hb k
  rw [UInt8.toNat_ofNat']
  omega

theorem decode_l (l : List Int) (hb : ∀ k, 0 ≤ l.getD k 0 ∧ l.getD k 0 ≤ 255) (pos : Nat) (h : pos < l.length) :
    1 ≤ (Utf8.decode (strOfNums l) pos).2 ∧ pos + (Utf8.decode (strOfNums l) pos).2 ≤ l.length ∧
      ((l.getD pos 0 < 128 ∧ ((Utf8.decode (strOfNums l) pos).1 : Int) = l.getD pos 0 ∧ (Utf8.decode (strOfNums l) pos).2 = 1) ∨
       (128 ≤ (Utf8.decode (strOfNums l) pos).1 ∧ ∀ j, pos ≤ j → j < pos + (Utf8.decode (strOfNums l) pos).2 → 128 ≤ l.getD j 0)) := by
  have h0 := str_toNat l hb pos h
  have hs := strOfNums_size l
  have hc : ∀ k, pos + k < l.length → (((strOfNums l).get! (pos + k)).toNat : Int) = l.getD (pos + k) 0 := fun k hk => str_toNat l hb (pos + k) hk
  have hlt : ∀ k, ((strOfNums l).get! (pos + k)).toNat < 256 := fun k => UInt8.toNat_lt _
  simp only [Utf8.decode, hs, Nat.add_zero]
  by_cases ha : ((strOfNums l).get! pos).toNat < 128
  · rw [if_pos ha]
    exact ⟨Nat.le_refl _, by show pos + 1 ≤ _; omega, .inl ⟨by omega, by simpa using h0, rfl⟩⟩
  · rw [if_neg ha]
    have hp : 128 ≤ l.getD pos 0 := by omega
    have one : ∀ j, pos ≤ j → j < pos + 1 → 128 ≤ l.getD j 0 := fun j h1 h2 => by
      have e : j = pos := by omega
      rw [e]; exact hp
    have step : ∀ k, decide (pos + k < l.length) = true → ((strOfNums l).get! (pos + k)).toNat / 64 = 2 → 128 ≤ l.getD (pos + k) 0 := fun k hk h2 => by
      have := hc k (by simpa using hk)
      omega
    have fin : ∀ r : Nat × Nat, (1 ≤ r.2 ∧ pos + r.2 ≤ l.length ∧ 128 ≤ r.1 ∧ ∀ j, pos ≤ j → j < pos + r.2 → 128 ≤ l.getD j 0) →
        1 ≤ r.2 ∧ pos + r.2 ≤ l.length ∧ ((l.getD pos 0 < 128 ∧ (r.1 : Int) = l.getD pos 0 ∧ r.2 = 1) ∨ (128 ≤ r.1 ∧ ∀ j, pos ≤ j → j < pos + r.2 → 128 ≤ l.getD j 0)) := fun r hr => ⟨hr.1, hr.2.1, .inr hr.2.2⟩
    apply fin
    have err : 1 ≤ (Utf8.runeError, 1).2 ∧ pos + (Utf8.runeError, 1).2 ≤ l.length ∧ 128 ≤ (Utf8.runeError, 1).1 ∧ ∀ j, pos ≤ j → j < pos + (Utf8.runeError, 1).2 → 128 ≤ l.getD j 0 :=
      ⟨Nat.le_refl _, by show pos + 1 ≤ _; omega, by decide, one⟩
    have h1 := hlt 0
    rw [Nat.add_zero] at h1
    split
    · rename_i hx
      simp only [Bool.and_eq_true, decide_eq_true_eq, beq_iff_eq] at hx
      have s1 := step 1 (by simpa using hx.2.1) hx.2.2
      split
      · rename_i hge
        refine ⟨by show 1 ≤ 2; omega, by show pos + 2 ≤ _; omega, by show 128 ≤ _; omega, fun j hj hj' => ?_⟩
        have hj2 : j < pos + 2 := hj'
        by_cases e : j = pos
        · rw [e]; exact hp
        · have e1 : j = pos + 1 := by omega
          rw [e1]; exact s1
      · exact err
    · split
      · rename_i hx
        simp only [Bool.and_eq_true, decide_eq_true_eq, beq_iff_eq] at hx
        have s1 := step 1 (by simpa using hx.1.2.1) hx.1.2.2
        have s2 := step 2 (by simpa using hx.2.1) hx.2.2
        split
        · rename_i hge
          simp only [Bool.and_eq_true, decide_eq_true_eq] at hge
          refine ⟨by show 1 ≤ 3; omega, by show pos + 3 ≤ _; omega, by show 128 ≤ _; omega, fun j hj hj' => ?_⟩
          have hj2 : j < pos + 3 := hj'
          by_cases e : j = pos
          · rw [e]; exact hp
          · by_cases e1 : j = pos + 1
            · rw [e1]; exact s1
            · have e2 : j = pos + 2 := by omega
              rw [e2]; exact s2
        · exact err
      · split
        · rename_i hx
          simp only [Bool.and_eq_true, decide_eq_true_eq, beq_iff_eq] at hx
          have s1 := step 1 (by simpa using hx.1.1.2.1) hx.1.1.2.2
          have s2 := step 2 (by simpa using hx.1.2.1) hx.1.2.2
          have s3 := step 3 (by simpa using hx.2.1) hx.2.2
          split
          · rename_i hge
            simp only [Bool.and_eq_true, decide_eq_true_eq] at hge
            refine ⟨by show 1 ≤ 4; omega, by show pos + 4 ≤ _; omega, by show 128 ≤ _; omega, fun j hj hj' => ?_⟩
            have hj2 : j < pos + 4 := hj'
            by_cases e : j = pos
            · rw [e]; exact hp
            · by_cases e1 : j = pos + 1
              · rw [e1]; exact s1
              · by_cases e2 : j = pos + 2
                · rw [e2]; exact s2
                · have e3 : j = pos + 3 := by omega
                  rw [e3]; exact s3
          · exact err
        · exact err

theorem ownsRow_iter {w : World} {base : Nat} {e : TypeId} {size : Nat} {v : Value} {n : Nat} {xs : List Value} (h : w.ownsRow base e size v n xs) {k : Nat} {s : ByteArray} {pos : Nat} (hk : w.heap[k]? = some (.stringIter s pos)) (p : Nat) : (w.iterAt k s p).ownsRow base e size v n xs := by
  refine ⟨h.1, ?_⟩
  rcases h.2 with hn | ⟨g, cap, cur, a, b, c, d⟩
  · exact .inl hn
  · have hkg : g ≠ k := by
      intro e1
      rw [e1, hk] at c
      cases c
    exact .inr ⟨g, cap, cur, a, b, (Lib.iterAt_other w k g s p hkg).trans c, d⟩

theorem iter_setCell {w : World} {k g : Nat} {s : ByteArray} {pos j : Nat} {u : Value} (hk : w.heap[k]? = some (.stringIter s pos)) (hne : k ≠ g) : (w.setCell ⟨g, j, none⟩ u).heap[k]? = some (.stringIter s pos) := by
  rw [Below.heap_setCell _ _ _ _ hne]; exact hk

theorem iterPos_eq {w : World} {k : Nat} {s : ByteArray} {pos : Nat} (hk : w.heap[k]? = some (.stringIter s pos)) : w.iterPos k = pos := by
  simp [World.iterPos, hk]
end Go.Proofs.YtbabmdiklefgcaaGreatDoor

namespace Go.Proofs.YtbabmdiklefgcaaGreatDoor
set_option linter.unusedVariables false

def Bytes8 (l : List Int) : Prop := ∀ k, 0 ≤ l.getD k 0 ∧ l.getD k 0 ≤ 255

end Go.Proofs.YtbabmdiklefgcaaGreatDoor

namespace Go.Proofs.YtbabmdiklefgcaaGreatDoor
set_option linter.unusedVariables false

def rest (e : Bool) : List Int → List Int → List (List Int)
 | [], cur => if cur.length = 0 ∧ e = true then [] else [lowered cur cur.length]
 | x :: xs, cur => if x = 46 then lowered cur cur.length :: rest e xs [] else rest e xs (cur ++ [x])

def labelsIn (l : List Int) : List (List Int) := rest (decide (0 < l.length)) l []

def nameRead (l : List Int) : List (List Int) × Bool := if l = [46] then ([], true) else if nameOk (labelsIn l) = true then (labelsIn l, true) else ([], false)

theorem drop_at {l : List Int} {i : Nat} (h : i < l.length) : l.drop i = l.getD i 0 :: l.drop (i + 1) := by
 rw [List.drop_eq_getElem_cons h, List.getD_eq_getElem?_getD, List.getElem?_eq_getElem h]; rfl
theorem rest_label {e : Bool} {l cur : List Int} {i : Nat} (h : i < l.length) (hx : l.getD i 0 ≠ 46) : rest e (l.drop i) cur = rest e (l.drop (i + 1)) (cur ++ [l.getD i 0]) := by
 rw [drop_at h, rest, if_neg hx]
theorem rest_dot {e : Bool} {l cur : List Int} {i : Nat} (h : i < l.length) (hx : l.getD i 0 = 46) : rest e (l.drop i) cur = lowered cur cur.length :: rest e (l.drop (i + 1)) [] := by
 rw [drop_at h, rest, if_pos hx]
theorem rest_end {e : Bool} {l cur : List Int} : rest e (l.drop l.length) cur = if cur.length = 0 ∧ e = true then [] else [lowered cur cur.length] := by
 rw [List.drop_length, rest]

theorem bytes8_nil : Bytes8 [] := fun k => by simp
theorem bytes8_snoc {l : List Int} (h : Bytes8 l) {x : Int} (h0 : 0 ≤ x) (h1 : x ≤ 255) : Bytes8 (l ++ [x]) := by
 intro k
 have := h k
 rw [List.getD_eq_getElem?_getD] at this ⊢
 by_cases hk : k < l.length
 ·rw [List.getElem?_append_left hk]; exact this
 ·rw [List.getElem?_append_right (by omega)]
  cases hq : k - l.length with
  | zero => simp; omega
  | succ q => simp
theorem nameRead_bound (l : List Int) : (nameRead l).1.length ≤ 6 ∧ ∀ i, i < (nameRead l).1.length → ((nameRead l).1.getD i []).length ≤ 15 := by
 unfold nameRead
 split
 ·simp
 ·split
  ·rename_i hok
   exact ⟨(nameOk_parts hok).1, fun i hi => (labelOk_length ((nameOk_parts hok).2 i hi)).2⟩
  ·simp
end Go.Proofs.YtbabmdiklefgcaaGreatDoor

namespace Go.Proofs.YtbabmdiklefgcaaGreatDoor
open Go.RowKit

theorem conv_has {v : Value} {l : List Int} {w : World} (h : Has w v l) : (convert 22 9 v).run Tryz.prog w = .ok (.string (strOfNums l)) w := by
 rcases h with ⟨rfl, rfl⟩ | ⟨g, off, cap, rfl, _, _, _, hc⟩
 ·exact run_convert_bytes_nil w 22 5 Tryz.underlying22 Tryz.underlying5 0 0 9 Tryz.underlying9
 ·exact run_convert_bytes_arg w 22 5 Tryz.underlying22 Tryz.underlying5 g off l.length cap l rfl hc 9 Tryz.underlying9
end Go.Proofs.YtbabmdiklefgcaaGreatDoor

namespace Go.Proofs.YtbabmdiklefgcaaGreatDoor
open Go.RowKit

/-! ### The library's cut at dots is this one -/

theorem str_eq (a b : List Int) (ha : ∀ c ∈ a, 0 ≤ c ∧ c ≤ 255) (hb : ∀ c ∈ b, 0 ≤ c ∧ c ≤ 255) : ((strOfNums a).toList == (strOfNums b).toList) = decide (a = b) := by
 rw [ByteArray.toList_eq, ByteArray.toList_eq, strOfNums_data, strOfNums_data]
 by_cases e : a = b
 ·subst e; simp
 ·rw [decide_eq_false e]
  apply beq_eq_false_iff_ne.2
  intro h
  apply e
  clear e
  induction a generalizing b with
  | nil => cases b with
   | nil => rfl
   | cons d b => simp at h
  | cons c a ih => cases b with
   | nil => simp at h
   | cons d b =>
    simp only [List.map_cons, List.cons.injEq] at h
    have h1 := ha c (by simp)
    have h2 := hb d (by simp)
    have h3 := congrArg UInt8.toNat h.1
    rw [UInt8.toNat_ofNat', UInt8.toNat_ofNat'] at h3
    have h4 : c = d := by omega
    rw [h4, ih b (fun x hx => ha x (by simp [hx])) (fun x hx => hb x (by simp [hx])) h.2]
end Go.Proofs.YtbabmdiklefgcaaGreatDoor
