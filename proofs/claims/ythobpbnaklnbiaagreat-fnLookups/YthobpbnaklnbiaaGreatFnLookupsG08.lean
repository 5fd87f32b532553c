/-
  Plain facts: a row of records that a slice owns, whose lists are owned wherever they lie. No program is named here. Plain facts: a block of two cells. What the type of records is. A zone as it came in, and as it is had. Plain facts: maps whose keys are texts, whatever their elements, and ranges over them. No program is named here.
-/
import Derived.Test.YthobpbnaklnbiaaGreatFnLookupsG06
import Derived.Test.YthobpbnaklnbiaaGreatFnLookupsG02
import Derived.Test.YthobpbnaklnbiaaGreatFnLookupsG00
import Derived.Test.YthobpbnaklnbiaaGreatFnLookupsG05
import Derived.Test.YthobpbnaklnbiaaGreatFnLookupsG01
import Derived.Deep.RegionHeld3
import Derived.Maps.RangeWalk
import Derived.RangeFuncNested
namespace Go.Proofs.YthobpbnaklnbiaaGreat
open Go.RowKit
set_option linter.unusedVariables false

structure OwnQ (B : Nat) (el eb ei : TypeId) (w : World) (vn vt vx vi : Value) (r : Rec) : Prop where
  name : OwnL B el eb w vn r.name
  to : OwnL B el eb w vt r.to
  text : Own B eb w vx r.text
  nums : OwnI B ei w vi r.nums
theorem OwnQ.hasR {B : Nat} {el eb ei : TypeId} {w : World} {vn vt vx vi : Value} {r : Rec} (h : OwnQ B el eb ei w vn vt vx vi r) : HasR w vn vt vx vi r := ⟨h.name.hasL, h.to.hasL, h.text.has, h.nums.has⟩
theorem OwnQ.below {B : Nat} {el eb ei : TypeId} {w w' : World} {vn vt vx vi : Value} {r : Rec} (h : OwnQ B el eb ei w vn vt vx vi r) (hb : Below w.heap.size w w') : OwnQ B el eb ei w' vn vt vx vi r := ⟨h.name.below hb, h.to.below hb, h.text.below hb, h.nums.below hb⟩
theorem OwnQ.mono {B B' : Nat} {el eb ei : TypeId} {w : World} {vn vt vx vi : Value} {r : Rec} (h : OwnQ B el eb ei w vn vt vx vi r) (hB : B' ≤ B) : OwnQ B' el eb ei w vn vt vx vi r := ⟨h.name.mono hB, h.to.mono hB, h.text.mono hB, h.nums.mono hB⟩
theorem ownsRow_off {B n s : Nat} {e : TypeId} {w w' : World} {v : Value} {xs : List Value} {row : Option Nat} (h : w.ownsRow B e s v n xs) (hg : w.grownBy w' row) (hr : ∀ q, row = some q → ∃ c t, w.heap[q]? = some (.cells c t) ∧ t ≠ e) : w'.ownsRow B e s v n xs := by
  refine World.ownsRow.kept h hg ?_
  cases hv : v.ownBlock with
  | none => exact .inl rfl
  | some k =>
    right
    intro e1
    obtain ⟨c, t, h1, h2⟩ := hr k e1.symm
    rcases h.2 with ⟨rfl, _⟩ | ⟨g, cap, cur, rfl, _, hg', _⟩
    · simp [Value.ownBlock] at hv
    · simp [Value.ownBlock] at hv
      subst hv
      rw [hg'] at h1
      cases h1
      exact h2 rfl
theorem OwnL.offR {B : Nat} {el eb : TypeId} {w w' : World} {v : Value} {n : List (List Int)} {row : Option Nat} (h : OwnL B el eb w v n) (hg : w.grownBy w' row) (hr : ∀ q, row = some q → ∃ c t, w.heap[q]? = some (.cells c t) ∧ t ≠ el ∧ t ≠ eb) : OwnL B el eb w' v n := by
  obtain ⟨vs, ho, hu, hd⟩ := h
  refine ⟨vs, ownsRow_off ho hg (fun q e => by obtain ⟨c, t, h1, h2, h3⟩ := hr q e; exact ⟨c, t, h1, h2⟩), fun i hi => ?_, hd⟩
  obtain ⟨x, h1, h2⟩ := hu i hi
  exact ⟨x, h1, ownsRow_off h2 hg (fun q e => by obtain ⟨c, t, h1, h2, h3⟩ := hr q e; exact ⟨c, t, h1, h3⟩)⟩
theorem OwnQ.offR {B : Nat} {el eb ei : TypeId} {w w' : World} {vn vt vx vi : Value} {r : Rec} {row : Option Nat} (h : OwnQ B el eb ei w vn vt vx vi r) (hg : w.grownBy w' row) (hr : ∀ q, row = some q → ∃ c t, w.heap[q]? = some (.cells c t) ∧ t ≠ el ∧ t ≠ eb ∧ t ≠ ei) : OwnQ B el eb ei w' vn vt vx vi r :=
  ⟨h.name.offR hg (fun q e => by obtain ⟨c, t, h1, h2, h3, h4⟩ := hr q e; exact ⟨c, t, h1, h2, h3⟩), h.to.offR hg (fun q e => by obtain ⟨c, t, h1, h2, h3, h4⟩ := hr q e; exact ⟨c, t, h1, h2, h3⟩),
   ownsRow_off h.text hg (fun q e => by obtain ⟨c, t, h1, h2, h3, h4⟩ := hr q e; exact ⟨c, t, h1, h3⟩), ownsRow_off h.nums hg (fun q e => by obtain ⟨c, t, h1, h2, h3, h4⟩ := hr q e; exact ⟨c, t, h1, h4⟩)⟩

def RowQ (B : Nat) (er el eb ei : TypeId) (w : World) (v : Value) (rs : List Rec) : Prop :=
  ∃ xs, w.ownsRow B er 7 v rs.length xs ∧ ∀ i, i < rs.length → ∃ vn vt vx vi, (∀ j u, (cellsR vn vt vx vi (rs.getD i recZ))[j]? = some u → xs[i * 7 + j]? = some u) ∧ OwnQ B el eb ei w vn vt vx vi (rs.getD i recZ)
theorem RowQ.nil (B : Nat) (er el eb ei : TypeId) (w : World) : RowQ B er el eb ei w (.slice none 0 0) [] := ⟨[], World.ownsRow_nil _ _ _ _, fun i hi => absurd hi (by simp)⟩
theorem RowQ.has {B : Nat} {er el eb ei : TypeId} {w : World} {v : Value} {rs : List Rec} (h : RowQ B er el eb ei w v rs) : HasRs w v rs := by
  obtain ⟨xs, ho, hx⟩ := h
  have ho' := ho
  rcases ho.2 with ⟨rfl, hn⟩ | ⟨b, cap, cur, rfl, hB, hg, hn, hm, hs, ht⟩
  · exact .inl ⟨rfl, List.eq_nil_of_length_eq_zero hn⟩
  · refine .inr ⟨b, 0, cap, rfl, VC hg, hn, hm, fun i hi => ?_⟩
    obtain ⟨vn, vt, vx, vi, q1, q2⟩ := hx i hi
    refine ⟨vn, vt, vx, vi, fun j u hj => ?_, q2.hasR⟩
    have hj7 := cells_lt hj
    rw [Nat.zero_add, World.ownsRow.cellAt ho' (i * 7 + j) (by omega)]
    exact q1 j u hj
theorem RowQ.form {B : Nat} {er el eb ei : TypeId} {w : World} {v : Value} {rs : List Rec} (h : RowQ B er el eb ei w v rs) : ∃ a cap, v = .slice a rs.length cap ∧ rs.length ≤ cap ∧ cap ≤ maxLen := h.has.form
theorem RowQ.below {B : Nat} {er el eb ei : TypeId} {w w' : World} {v : Value} {rs : List Rec} (h : RowQ B er el eb ei w v rs) (hb : Below w.heap.size w w') : RowQ B er el eb ei w' v rs := by
  obtain ⟨xs, ho, hx⟩ := h
  refine ⟨xs, row_later ho hb, fun i hi => ?_⟩
  obtain ⟨vn, vt, vx, vi, q1, q2⟩ := hx i hi
  exact ⟨vn, vt, vx, vi, q1, q2.below hb⟩
theorem RowQ.mono {B B' : Nat} {er el eb ei : TypeId} {w : World} {v : Value} {rs : List Rec} (h : RowQ B er el eb ei w v rs) (hB : B' ≤ B) : RowQ B' er el eb ei w v rs := by
  obtain ⟨xs, ho, hx⟩ := h
  refine ⟨xs, ⟨ho.1, ?_⟩, fun i hi => ?_⟩
  · rcases ho.2 with hn | ⟨b, cap, cur, hv, hb, rest⟩
    · exact .inl hn
    · exact .inr ⟨b, cap, cur, hv, Nat.le_trans hB hb, rest⟩
  · obtain ⟨vn, vt, vx, vi, q1, q2⟩ := hx i hi
    exact ⟨vn, vt, vx, vi, q1, q2.mono hB⟩
theorem RowQ.off {B q : Nat} {er el eb ei t : TypeId} {w w' : World} {v : Value} {rs : List Rec} {c : Array Value} (h : RowQ B er el eb ei w v rs) (hk : w.heap[q]? = some (.cells c t)) (h1 : t ≠ er) (h2 : t ≠ el) (h3 : t ≠ eb) (h4 : t ≠ ei) (hg : w.grownBy w' (some q)) : RowQ B er el eb ei w' v rs := by
  obtain ⟨xs, ho, hx⟩ := h
  refine ⟨xs, ownsRow_off ho hg (fun k e => by cases e; exact ⟨c, t, hk, h1⟩), fun i hi => ?_⟩
  obtain ⟨vn, vt, vx, vi, q1, q2⟩ := hx i hi
  exact ⟨vn, vt, vx, vi, q1, q2.offR hg (fun k e => by cases e; exact ⟨c, t, hk, h2, h3, h4⟩)⟩
theorem RowQ.snoc {B : Nat} {er el eb ei : TypeId} {W w' : World} {v v' : Value} {rs : List Rec} {r : Rec} {vn vt vx vi : Value} (h1 : er ≠ el) (h2 : er ≠ eb) (h3 : er ≠ ei) (h : RowQ B er el eb ei W v rs)
    (hr : OwnQ B el eb ei W vn vt vx vi r) (hg : W.grownBy w' v.ownBlock)
    (ho : ∀ xs, W.ownsRow B er 7 v rs.length xs → w'.ownsRow B er 7 v' (rs.length + 1) (xs ++ cellsR vn vt vx vi r)) : RowQ B er el eb ei w' v' (rs ++ [r]) := by
  obtain ⟨xs, h0, hx⟩ := h
  have ho' := ho xs h0
  have hlen : xs.length = rs.length * 7 := h0.1
  have hrow : ∀ q, v.ownBlock = some q → ∃ c t, W.heap[q]? = some (.cells c t) ∧ t ≠ el ∧ t ≠ eb ∧ t ≠ ei := fun q e => by
    rcases h0.2 with ⟨rfl, _⟩ | ⟨g, cap, cur, rfl, _, hg', _⟩
    · simp [Value.ownBlock] at e
    · simp [Value.ownBlock] at e
      subst e
      exact ⟨cur, er, hg', h1, h2, h3⟩
  refine ⟨xs ++ cellsR vn vt vx vi r, by rw [List.length_append]; exact ho', fun i hi => ?_⟩
  rw [List.length_append] at hi
  simp only [List.length_cons, List.length_nil] at hi
  by_cases hlt : i < rs.length
  · obtain ⟨un, ut, ux, ui, q1, q2⟩ := hx i hlt
    have e1 : (rs ++ [r]).getD i recZ = rs.getD i recZ := by rw [List.getD_eq_getElem?_getD, List.getElem?_append_left hlt, ← List.getD_eq_getElem?_getD]
    rw [e1]
    refine ⟨un, ut, ux, ui, fun j u hj => ?_, q2.offR hg hrow⟩
    have hj7 := cells_lt hj
    rw [List.getElem?_append_left (by omega)]
    exact q1 j u hj
  · obtain rfl : i = rs.length := by omega
    have e1 : (rs ++ [r]).getD rs.length recZ = r := by rw [List.getD_eq_getElem?_getD]; simp
    rw [e1]
    refine ⟨vn, vt, vx, vi, fun j u hj => ?_, hr.offR hg hrow⟩
    rw [List.getElem?_append_right (by omega), hlen, Nat.add_sub_cancel_left]
    exact hj
end Go.Proofs.YthobpbnaklnbiaaGreat

namespace Go.Proofs.YthobpbnaklnbiaaGreat
open Go.RowKit

theorem UM {w : World} {b : Nat} {c0 c1 : Value} {t : TypeId} (h : w.heap[b]? = some (.cells #[c0, c1] t)) : w.cell? ⟨b, 0, none⟩ = some c0 ∧ w.cell? ⟨b, 1, none⟩ = some c1 := ⟨VE h 0, VE h 1⟩
theorem frozen2 {w : World} {b : Nat} {c : Array Value} {t : TypeId} (h : w.heap[b]? = some (.cells c t)) : w.frozen? ⟨b, 0, none⟩ = false ∧ w.frozen? ⟨b, 1, none⟩ = false := ⟨VG h 0, VG h 1⟩
end Go.Proofs.YthobpbnaklnbiaaGreat

namespace Go.Proofs.YthobpbnaklnbiaaGreat
open Go.RowKit
set_option linter.unusedVariables false

theorem info_rr : (Tryz.prog.info? 39).map (fun i => (i.zero, i.size, i.bytes)) = some (some (.agg #[.slice none 0 0, .int .i64 0, .int .i64 0, .int .i64 0, .slice none 0 0, .slice none 0 0, .slice none 0 0]), 7, 120) := by kernel_rfl
structure InZ (w : World) (ao ar : Option Addr) (o : List (List Int)) (rs : List Rec) : Prop where
 name : LiesL w ao o
 recs : LiesRs w ar rs
theorem InZ.below {w w' : World} {ao ar : Option Addr} {o : List (List Int)} {rs : List Rec} (h : InZ w ao ar o rs) (hb : Below w.heap.size w w') : InZ w' ao ar o rs := ⟨h.name.below hb, h.recs.below hb⟩
structure SizeZ (m : Nat) (o : List (List Int)) (rs : List Rec) : Prop where
 name : o.length ≤ m
 names : ∀ i, i < o.length → (o.getD i []).length ≤ m
 count : rs.length ≤ m
 recs : ∀ i, i < rs.length → SizeR m (rs.getD i recZ)
theorem SizeZ.mono {m m' : Nat} {o : List (List Int)} {rs : List Rec} (h : SizeZ m o rs) (hm : m ≤ m') : SizeZ m' o rs := ⟨Nat.le_trans h.name hm, fun i hi => Nat.le_trans (h.names i hi) hm, Nat.le_trans h.count hm, fun i hi => (h.recs i hi).mono hm⟩
structure HasZ (w : World) (vo vr : Value) (o : List (List Int)) (rs : List Rec) : Prop where
 name : HasL w vo o
 recs : HasRs w vr rs
theorem HasZ.below {w w' : World} {vo vr : Value} {o : List (List Int)} {rs : List Rec} (h : HasZ w vo vr o rs) (hb : Below w.heap.size w w') : HasZ w' vo vr o rs := ⟨h.name.below hb, h.recs.below hb⟩
end Go.Proofs.YthobpbnaklnbiaaGreat

namespace Go.Proofs.YthobpbnaklnbiaaGreat
open Go.RowKit
open Go.ChangeMaps (setBlock heap_setBlock_same heap_setBlock_other modify_eq_set)
open Go.MapKept (stamped_iff stamped_empty stamped_push stamped_modify Stamped)
open Go.Maps (Keyed string_keyed)
open Go.WideMaps (keyOf_string_mk)
set_option linter.unusedVariables false

section lists
variable {α β : Type} [DecidableEq α]
def lookA (k : α) : List (α × β) → Option β
 | [] => none
 | (a, v) :: t => if a = k then some v else lookA k t
def putA (k : α) (v : β) : List (α × β) → List (α × β)
 | [] => [(k, v)]
 | (a, u) :: t => if a = k then (k, v) :: t else (a, u) :: putA k v t
theorem lookA_none {k : α} : ∀ {ps : List (α × β)}, (∀ p ∈ ps, p.1 ≠ k) → lookA k ps = none
 | [], _ => rfl
 | (a, v) :: t, h => by
  rw [lookA, if_neg (h (a, v) (List.mem_cons_self ..))]
  exact lookA_none (fun p hp => h p (List.mem_cons_of_mem _ hp))
theorem putA_none {k : α} {v : β} : ∀ {ps : List (α × β)}, (∀ p ∈ ps, p.1 ≠ k) → putA k v ps = ps ++ [(k, v)]
 | [], _ => rfl
 | (a, u) :: t, h => by
  rw [putA, if_neg (h (a, u) (List.mem_cons_self ..)), putA_none (fun p hp => h p (List.mem_cons_of_mem _ hp))]
  rfl
theorem lookA_at {k : α} {v : β} : ∀ {ps : List (α × β)} {j : Nat}, ps.Pairwise (fun p q => p.1 ≠ q.1) → ps[j]? = some (k, v) → lookA k ps = some v
 | [], j, _, h => by simp at h
 | (a, u) :: t, 0, hd, h => by
  simp only [List.getElem?_cons_zero, Option.some.injEq, Prod.mk.injEq] at h
  rw [lookA, if_pos h.1, h.2]
 | (a, u) :: t, j + 1, hd, h => by
  simp only [List.getElem?_cons_succ] at h
  obtain ⟨h1, h2⟩ := List.pairwise_cons.1 hd
  rw [lookA, if_neg (h1 _ (List.mem_of_getElem? h)), lookA_at h2 h]
theorem putA_at {k : α} {v v' : β} : ∀ {ps : List (α × β)} {j : Nat}, ps.Pairwise (fun p q => p.1 ≠ q.1) → ps[j]? = some (k, v) → putA k v' ps = ps.set j (k, v')
 | [], j, _, h => by simp at h
 | (a, u) :: t, 0, hd, h => by
  simp only [List.getElem?_cons_zero, Option.some.injEq, Prod.mk.injEq] at h
  rw [putA, if_pos h.1]
  rfl
 | (a, u) :: t, j + 1, hd, h => by
  simp only [List.getElem?_cons_succ] at h
  obtain ⟨h1, h2⟩ := List.pairwise_cons.1 hd
  rw [putA, if_neg (h1 _ (List.mem_of_getElem? h)), putA_at h2 h]
  rfl
end lists

def keyE : Value → ByteArray
 | .string s => s
 | _ => default
def toPV (e : MapEntry) : ByteArray × Value := (keyE e.key, e.val)
def MapV (w : World) (b : Nat) (ps : List (ByteArray × Value)) : Prop :=
 ∃ es clock, w.heap[b]? = some (.map es clock) ∧ Stamped es clock ∧ (∀ e ∈ es.toList, ∃ s : ByteArray, e.key = .string s ∧ s.size ≤ maxLen) ∧ ps = es.toList.map toPV
theorem MapV.lt {w : World} {b : Nat} {ps : List (ByteArray × Value)} (h : MapV w b ps) : b < w.heap.size := by
 obtain ⟨es, clock, hb, _⟩ := h
 exact (Array.getElem?_eq_some_iff.1 hb).1
theorem MapV.kept {w w' : World} {b : Nat} {ps : List (ByteArray × Value)} (h : MapV w b ps) (hk : w'.heap[b]? = w.heap[b]?) : MapV w' b ps := by
 obtain ⟨es, clock, hb, rest⟩ := h
 exact ⟨es, clock, hk.trans hb, rest⟩
theorem MapV.below {w w' : World} {b : Nat} {ps : List (ByteArray × Value)} (h : MapV w b ps) (hb : Below w.heap.size w w') : MapV w' b ps := h.kept (hb.block b h.lt)
theorem MapV.grown {w w' : World} {b : Nat} {row : Option Nat} {ps : List (ByteArray × Value)} (h : MapV w b ps) (hg : w.grownBy w' row) (hr : row ≠ some b) : MapV w' b ps := h.kept (hg.block b h.lt (fun e => hr e.symm))
theorem mapV_made (w : World) : MapV (w.alloc (.map #[] 0)) w.heap.size [] := ⟨#[], 0, heap_alloc_new w _, stamped_empty 0, by simp, by simp⟩
theorem pv_apart {es : Array MapEntry} {clock : Nat} (hS : Stamped es clock) (hK : ∀ e ∈ es.toList, ∃ s : ByteArray, e.key = .string s ∧ s.size ≤ maxLen) : (es.toList.map toPV).Pairwise (fun p q => p.1 ≠ q.1) := by
 rw [List.pairwise_map]
 refine List.Pairwise.imp_of_mem ?_ ((stamped_iff es clock).1 hS).2.2
 intro a b ha hb h e
 obtain ⟨s, h1, _⟩ := hK a ha
 obtain ⟨s', h2, _⟩ := hK b hb
 simp only [toPV, h1, h2, keyE] at e
 rw [h1, h2, e] at h
 exact h rfl
theorem MapV.apart {w : World} {b : Nat} {ps : List (ByteArray × Value)} (h : MapV w b ps) : ps.Pairwise (fun p q => p.1 ≠ q.1) := by
 obtain ⟨es, clock, _, hS, hK, rfl⟩ := h
 exact pv_apart hS hK

section
variable {P : Program} {t k e : TypeId} {w : World} {b : Nat} {ps : List (ByteArray × Value)}
theorem keys_of {es : Array MapEntry} (hk : P.underlying k = some .string) (hK : ∀ e ∈ es.toList, ∃ s : ByteArray, e.key = .string s ∧ s.size ≤ maxLen) : ∀ e ∈ es.toList, ∃ l, keyOf P k e.key = some l := fun e he => by
 obtain ⟨s, h1, h2⟩ := hK e he
 exact ⟨_, h1 ▸ keyOf_string_mk hk h2⟩
theorem not_key {es : Array MapEntry} {s : ByteArray} (hK : ∀ e ∈ es.toList, ∃ s : ByteArray, e.key = .string s ∧ s.size ≤ maxLen) (h : ∀ e ∈ es.toList, e.key ≠ .string s) : ∀ p ∈ es.toList.map toPV, p.1 ≠ s := by
 intro p hp e
 obtain ⟨x, hx, rfl⟩ := List.mem_map.1 hp
 obtain ⟨s', h1, _⟩ := hK x hx
 refine h x hx ?_
 rw [h1, ← e, toPV, h1]
 rfl
theorem the_key {es : Array MapEntry} {s : ByteArray} {j : Nat} {e0 : MapEntry} (h2 : es.toList[j]? = some e0) (h3 : e0.key = .string s) : (es.toList.map toPV)[j]? = some (s, e0.val) := by
 rw [List.getElem?_map, h2]
 simp [toPV, h3, keyE]
theorem mapV_look (ht : P.underlying t = some (.map k e)) (hk : P.underlying k = some .string) {z : Value} (hz : (zeroValue e).run P w = .ok z w) (h : MapV w b ps) (s : ByteArray) (hs : s.size ≤ maxLen) :
  (Instr.lookup t (.map (some b)) (.string s) false).run P w = .ok ((lookA s ps).getD z) w := by
 have hA := h.apart
 obtain ⟨es, clock, hb, hS, hK, rfl⟩ := h
 have hkey := keyOf_string_mk hk hs
 have K := string_keyed hk
 rcases K.find w hkey es.toList (keys_of hk hK) with ⟨h1, h2⟩ | ⟨j, e0, h1, h2, h3⟩
 ·rw [lookA_none (not_key hK h2)]
  simp [Instr.lookup, run_underlying ht, MapKept.run_getObj_map hb, K.check w _ hkey, h1, hz, Result.andThen]
 ·rw [lookA_at hA (the_key h2 h3)]
  simp [Instr.lookup, run_underlying ht, MapKept.run_getObj_map hb, K.check w _ hkey, h1, Result.andThen]
theorem mapV_put (ht : P.underlying t = some (.map k e)) (hk : P.underlying k = some .string) (h : MapV w b ps) (s : ByteArray) (hs : s.size ≤ maxLen) (v : Value) :
  ∃ w', (Instr.mapUpdate t (.map (some b)) (.string s) v).run P w = .ok () w' ∧ MapV w' b (putA s v ps) ∧ w.grownBy w' (some b) := by
 have hA := h.apart
 obtain ⟨es, clock, hb, hS, hK, rfl⟩ := h
 have hkey := keyOf_string_mk hk hs
 have K := string_keyed hk
 rcases K.find w hkey es.toList (keys_of hk hK) with ⟨h1, h2⟩ | ⟨j, e0, h1, h2, h3⟩
 ·refine ⟨setBlock w b (.map (es.push ⟨.string s, v, clock⟩) (clock + 1)), ?_, ⟨_, _, heap_setBlock_same hb _, stamped_push hS h2, ?_, ?_⟩, ⟨rfl, rfl, rfl, by simp [setBlock], fun i _ hi => heap_setBlock_other hb _ (fun e => hi (by rw [e]))⟩⟩
  ·simp [Instr.mapUpdate, run_underlying ht, MapKept.run_getObj_map hb, K.check w false hkey, h1, MapKept.run_setObj_map _ hb, Result.andThen, setBlock]
  ·intro x hx
   simp only [Array.toList_push, List.mem_append, List.mem_singleton] at hx
   rcases hx with hx | rfl
   ·exact hK x hx
   ·exact ⟨s, rfl, hs⟩
  ·rw [putA_none (not_key hK h2)]
   simp [toPV, keyE]
 ·have hj : es[j]? = some e0 := by simpa using h2
  have hkeyf : ∀ e', es[j]? = some e' → ({ e' with key := .string s, val := v } : MapEntry).key = e'.key := fun e' he' => by rw [hj] at he'; cases he'; exact h3.symm
  have hlist : (es.modify j (fun e' => { e' with key := .string s, val := v })).toList = es.toList.set j { e0 with key := .string s, val := v } := by rw [Array.toList_modify, modify_eq_set _ _ _ _ h2]
  refine ⟨setBlock w b (.map (es.modify j (fun e' => { e' with key := .string s, val := v })) clock), ?_, ⟨_, _, heap_setBlock_same hb _, stamped_modify hS _ _ (fun _ _ => rfl) (fun e' _ he' => hkeyf e' he'), ?_, ?_⟩, ⟨rfl, rfl, rfl, by simp [setBlock], fun i _ hi => heap_setBlock_other hb _ (fun e => hi (by rw [e]))⟩⟩
  ·simp [Instr.mapUpdate, run_underlying ht, MapKept.run_getObj_map hb, K.check w false hkey, h1, hj, h3, K.stays w hkey, MapKept.run_setObj_map _ hb, Result.andThen, setBlock]
  ·intro x hx
   rw [hlist] at hx
   rcases List.mem_or_eq_of_mem_set hx with hx | rfl
   ·exact hK x hx
   ·exact ⟨s, rfl, hs⟩
  ·rw [putA_at hA (the_key h2 h3), hlist, List.map_set]
   simp [toPV, keyE]
def RangeV (w : World) (b r : Nat) (ps L : List (ByteArray × Value)) : Prop :=
 ∃ es clock since seen c0, w.heap[b]? = some (.map es clock) ∧ Stamped es clock ∧ (∀ e ∈ es.toList, ∃ s : ByteArray, e.key = .string s ∧ s.size ≤ maxLen) ∧ ps = es.toList.map toPV ∧ w.heap[r]? = some (.mapIter (some b) since seen c0) ∧
  (∀ x ∈ es.toList, x.born < since) ∧ since ≤ c0 ∧ since ≤ clock ∧ L = (leftOf es seen).toList.map toPV
theorem RangeV.lt {r : Nat} {L : List (ByteArray × Value)} (h : RangeV w b r ps L) : b < w.heap.size ∧ r < w.heap.size ∧ r ≠ b := by
 obtain ⟨es, clock, since, seen, c0, hb, _, _, _, hr, _⟩ := h
 refine ⟨(Array.getElem?_eq_some_iff.1 hb).1, (Array.getElem?_eq_some_iff.1 hr).1, fun e => ?_⟩
 rw [e, hb] at hr
 cases hr
theorem RangeV.kept {w' : World} {r : Nat} {L : List (ByteArray × Value)} (h : RangeV w b r ps L) (hk : w'.heap[b]? = w.heap[b]?) (hk' : w'.heap[r]? = w.heap[r]?) : RangeV w' b r ps L := by
 obtain ⟨es, clock, since, seen, c0, hb, h1, h2, h3, hr, rest⟩ := h
 exact ⟨es, clock, since, seen, c0, hk.trans hb, h1, h2, h3, hk'.trans hr, rest⟩
theorem RangeV.below {w' : World} {r : Nat} {L : List (ByteArray × Value)} (h : RangeV w b r ps L) (hb : Below w.heap.size w w') : RangeV w' b r ps L := h.kept (hb.block b h.lt.1) (hb.block r h.lt.2.1)
theorem RangeV.left_eq {r : Nat} {L : List (ByteArray × Value)} (h : RangeV w b r ps L) : w.rangeLeft b r = L.length := by
 obtain ⟨es, clock, since, seen, c0, hb, _, _, _, hr, _, _, _, rfl⟩ := h
 simp [World.rangeLeft, hb, hr]
theorem mapV_range (ht : P.underlying t = some (.map k e)) (h : MapV w b ps) :
  ∃ o : Obj, (Instr.range t (.map (some b))).run P w = .ok (.pointer (some ⟨w.heap.size, 0, none⟩)) (w.alloc o) ∧ RangeV (w.alloc o) b w.heap.size ps ps ∧ o.isCells = false := by
 have hlt := h.lt
 obtain ⟨es, clock, hb, hS, hK, rfl⟩ := h
 refine ⟨_, run_range_map w t k e b es clock ht hb, ⟨es, clock, clock, #[], clock, ((MapKept.heap_alloc w _).2 b hlt).trans hb, hS, hK, rfl, (MapKept.heap_alloc w _).1, ((stamped_iff es clock).1 hS).1, Nat.le_refl _, Nat.le_refl _, ?_⟩, rfl⟩
 rw [show leftOf es #[] = es from Array.filter_eq_self.2 (fun _ _ => by simp)]
theorem rangeV_next {r : Nat} {L : List (ByteArray × Value)} (ty : TypeId) (h : RangeV w b r ps L) :
  (L = [] ∧ (Instr.next (.pointer (some ⟨r, 0, none⟩)) false ty).run P w = .ok (.tuple #[.bool false]) w) ∨
  ∃ p L' w', p ∈ L ∧ L'.length < L.length ∧ (∀ q ∈ L, q = p ∨ q ∈ L') ∧ (∀ q ∈ L', q ∈ L) ∧ (Instr.next (.pointer (some ⟨r, 0, none⟩)) false ty).run P w = .ok (.tuple #[.bool true, .string p.1, p.2]) w' ∧ RangeV w' b r ps L' ∧ w.grownBy w' (some r) ∧ w'.heap.size = w.heap.size ∧
   (Instr.entry (.pointer (some ⟨r, 0, none⟩))).run P w' = .ok (.tuple #[.string p.1, p.2]) w' := by
 have hne := h.lt.2.2
 obtain ⟨es, clock, since, seen, c0, hb, hS, hK, rfl, hr, hold, hsc, hsk, rfl⟩ := h
 rcases run_next_at (P := P) w ty r b since c0 seen es clock hr hb hold hsc with ⟨h0, hrun⟩ | ⟨e, he, w1, hal, hrun⟩
 ·refine Or.inl ⟨?_, hrun⟩
  rw [List.map_eq_nil_iff]
  exact List.eq_nil_of_length_eq_zero (by simpa using h0)
 ·obtain ⟨hem, hes⟩ := mem_left he
  obtain ⟨s, hs1, hs2⟩ := hK e hem
  have hpe : toPV e = (s, e.val) := by simp [toPV, hs1, keyE]
  have hr1 : w1.heap[r]? = some (.mapIter (some b) since seen c0) := by rcases hal with rfl | rfl <;> exact hr
  have hb1 : w1.heap[b]? = some (.map es clock) := by rcases hal with rfl | rfl <;> exact hb
  have hset := MapKept.heap_set (o' := .mapIter (some b) since (seen.push e.born) clock) hr1
  have hb' : (setBlock w1 r (.mapIter (some b) since (seen.push e.born) clock)).heap[b]? = some (.map es clock) := (hset.2 b (fun e1 => hne e1.symm)).trans hb1
  rw [hs1] at hrun
  have hen := run_entry_at (P := P) _ r b since seen es clock e hset.1 hb' hem ((stamped_iff es clock).1 hS).2.1
  rw [hs1] at hen
  refine Or.inr ⟨(s, e.val), (leftOf es (seen.push e.born)).toList.map toPV, _, ?_, ?_, ?_, ?_, hrun, ⟨es, clock, since, seen.push e.born, clock, hb', hS, hK, rfl, hset.1, hold, hsk, hsk, rfl⟩, ?_, ?_, hen⟩
  ·rw [← hpe]; exact List.mem_map.2 ⟨e, he, rfl⟩
  ·simpa using left_shrinks es seen e he
  ·intro q hq
   obtain ⟨x, hx, rfl⟩ := List.mem_map.1 hq
   obtain ⟨hxm, hxs⟩ := mem_left hx
   by_cases hbo : x.born = e.born
   ·left
    rw [born_inj ((stamped_iff es clock).1 hS).2.1 hxm hem hbo, hpe]
   ·right
    refine List.mem_map.2 ⟨x, ?_, rfl⟩
    simp only [leftOf, Array.toList_filter, List.mem_filter, contains_push, hxs, Bool.false_or, Bool.not_eq_true']
    exact ⟨hxm, by simp [hbo]⟩
  ·intro q hq
   obtain ⟨x, hx, rfl⟩ := List.mem_map.1 hq
   obtain ⟨hxm, hxs⟩ := mem_left hx
   refine List.mem_map.2 ⟨x, ?_, rfl⟩
   rw [contains_push, Bool.or_eq_false_iff] at hxs
   simp only [leftOf, Array.toList_filter, List.mem_filter, hxs.1]
   exact ⟨hxm, rfl⟩
  ·rcases hal with rfl | rfl <;> exact ⟨rfl, rfl, rfl, by simp [setBlock], fun i _ hi => hset.2 i (fun e1 => hi (by rw [e1]))⟩
  ·rcases hal with rfl | rfl <;> simp [setBlock]
end
end Go.Proofs.YthobpbnaklnbiaaGreat
