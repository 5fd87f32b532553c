/-
  Plain facts: a record as lists and numbers, and how it lies in memory. No program is named here. Plain facts: how long a drawn name is. No program is named here. Plain facts: a record that is being drawn: its lists, and how they fare while other blocks are written. Plain facts: a row of records in memory, seven cells each. No program is named here. Plain facts: a row of structs in memory, c cells each, whatever they are. No program is named here.
-/
import Derived.Test.YtfneahdnpmamkaaGreatFnOwnersG04
import Derived.Deep.MidRow
namespace Go.Proofs.YtfneahdnpmamkaaGreat
open Go.RowKit

structure Rec where
 name : List (List Int)
 type : Int
 ttl : Int
 addr : Int
 to : List (List Int)
 text : List Int
 nums : List Int

structure InR (w : World) (an ato ax ai : Option Addr) (r : Rec) : Prop where
 name : Jq w an r.name
 to : Jq w ato r.to
 text : Lies w ax r.text
 nums : Iz w ai r.nums
theorem InR.below {w w' : World} {an ato ax ai : Option Addr} {r : Rec} (h : InR w an ato ax ai r) (hb : Below w.heap.size w w') : InR w' an ato ax ai r := ⟨h.name.below hb, h.to.below hb, h.text.below hb, h.nums.below hb⟩

structure J7 (m : Nat) (r : Rec) : Prop where
 name : r.name.length ≤ m
 names : ∀ i, i < r.name.length → (r.name.getD i []).length ≤ m
 to : r.to.length ≤ m
 tos : ∀ i, i < r.to.length → (r.to.getD i []).length ≤ m
 text : r.text.length ≤ m
 nums : r.nums.length ≤ m
theorem J7.mono {m m' : Nat} {r : Rec} (h : J7 m r) (hm : m ≤ m') : J7 m' r :=
 ⟨Nat.le_trans h.name hm, fun i hi => Nat.le_trans (h.names i hi) hm, Nat.le_trans h.to hm, fun i hi => Nat.le_trans (h.tos i hi) hm, Nat.le_trans h.text hm, Nat.le_trans h.nums hm⟩

structure HasR (w : World) (vn vt vx vi : Value) (r : Rec) : Prop where
 name : HasL w vn r.name
 to : HasL w vt r.to
 text : Has w vx r.text
 nums : HasI w vi r.nums
theorem HasR.below {w w' : World} {vn vt vx vi : Value} {r : Rec} (h : HasR w vn vt vx vi r) (hb : Below w.heap.size w w') : HasR w' vn vt vx vi r := ⟨h.name.below hb, h.to.below hb, h.text.below hb, h.nums.below hb⟩

def OwnR (B E : Nat) (el eb ei : TypeId) (w : World) (vn vt vx vi : Value) (r : Rec) : Prop :=
 ∃ s1 s2 s3, B ≤ s1 ∧ s1 ≤ s2 ∧ s2 ≤ s3 ∧ s3 ≤ E ∧ OwnN B s1 el eb w vn r.name ∧ OwnN s1 s2 el eb w vt r.to ∧ OwnB s2 s3 eb w vx r.text ∧ E4 s3 E ei w vi r.nums
theorem OwnR.hasR {B E : Nat} {el eb ei : TypeId} {w : World} {vn vt vx vi : Value} {r : Rec} (h : OwnR B E el eb ei w vn vt vx vi r) : HasR w vn vt vx vi r := by
 obtain ⟨s1, s2, s3, _, _, _, _, h1, h2, h3, h4⟩ := h
 exact ⟨h1.hasL, h2.hasL, h3.has, h4.has⟩
theorem OwnR.below {B E : Nat} {el eb ei : TypeId} {w w' : World} {vn vt vx vi : Value} {r : Rec} (h : OwnR B E el eb ei w vn vt vx vi r) (hb : Below w.heap.size w w') : OwnR B E el eb ei w' vn vt vx vi r := by
 obtain ⟨s1, s2, s3, a1, a2, a3, a4, h1, h2, h3, h4⟩ := h
 exact ⟨s1, s2, s3, a1, a2, a3, a4, h1.below hb, h2.below hb, h3.below hb, h4.below hb⟩
theorem OwnR.outside {B E C D : Nat} {el eb ei : TypeId} {w w' : World} {vn vt vx vi : Value} {r : Rec} (h : OwnR B E el eb ei w vn vt vx vi r) (u : Ap C D w w') (hd : E ≤ C ∨ D ≤ B) : OwnR B E el eb ei w' vn vt vx vi r := by
 obtain ⟨s1, s2, s3, a1, a2, a3, a4, h1, h2, h3, h4⟩ := h
 exact ⟨s1, s2, s3, a1, a2, a3, a4, h1.outside u (by omega), h2.outside u (by omega), h3.outside u (by omega), h4.outside u (by omega)⟩

theorem UJ {w : World} {b : Nat} {c0 c1 c2 c3 c4 c5 c6 : Value} {t : TypeId} (h : w.heap[b]? = some (.cells #[c0, c1, c2, c3, c4, c5, c6] t)) :
  w.cell? ⟨b, 0, none⟩ = some c0 ∧ w.cell? ⟨b, 1, none⟩ = some c1 ∧ w.cell? ⟨b, 2, none⟩ = some c2 ∧ w.cell? ⟨b, 3, none⟩ = some c3 ∧ w.cell? ⟨b, 4, none⟩ = some c4 ∧ w.cell? ⟨b, 5, none⟩ = some c5 ∧ w.cell? ⟨b, 6, none⟩ = some c6 :=
 ⟨VE h 0, VE h 1, VE h 2, VE h 3, VE h 4, VE h 5, VE h 6⟩
theorem VI {w : World} {b : Nat} {c : Array Value} {t : TypeId} (h : w.heap[b]? = some (.cells c t)) :
  w.frozen? ⟨b, 0, none⟩ = false ∧ w.frozen? ⟨b, 1, none⟩ = false ∧ w.frozen? ⟨b, 2, none⟩ = false ∧ w.frozen? ⟨b, 3, none⟩ = false ∧ w.frozen? ⟨b, 4, none⟩ = false ∧ w.frozen? ⟨b, 5, none⟩ = false ∧ w.frozen? ⟨b, 6, none⟩ = false :=
 ⟨VG h 0, VG h 1, VG h 2, VG h 3, VG h 4, VG h 5, VG h 6⟩
theorem UV {w : World} {b : Nat} {c : Array Value} {t : TypeId} (h : w.heap[b]? = some (.cells c t)) (i : Nat) (v : Value) : (w.setCell ⟨b, i, none⟩ v).heap[b]? = some (.cells (c.setIfInBounds i v) t) := by
 simp [World.setCell, Array.getElem?_modify, h]

theorem UT (w : World) (b i : Nat) (v : Value) : Ap b (b + 1) w (w.setCell ⟨b, i, none⟩ v) := Cx (Ab w ⟨b, i, none⟩ v) (fun k hk => by simp at hk; omega)
theorem Ap.wide {B E B' E' : Nat} {w w' : World} (h : Ap B E w w') (hB : B' ≤ B) (hE : E ≤ E') : Ap B' E' w w' := ⟨h.os, h.tape, h.output, h.size, fun k hk hn => h.block k hk (by omega)⟩
theorem OwnN.wide {C E C' E' : Nat} {el eb : TypeId} {w : World} {v : Value} {n : List (List Int)} (h : OwnN C E el eb w v n) (hC : C' ≤ C) (hE : E ≤ E') : OwnN C' E' el eb w v n := by
 obtain ⟨vs, ho, hu, hd, hv, he⟩ := h
 refine ⟨vs, E9 ho hC, fun i hi => ?_, hd, fun q hq => Nat.lt_of_lt_of_le (hv q hq) hE, fun i u q h1 h2 => Nat.lt_of_lt_of_le (he i u q h1 h2) hE⟩
 obtain ⟨x, h1, h2⟩ := hu i hi
 exact ⟨x, h1, h2.mono hC⟩
theorem OwnB.wide {C E C' E' : Nat} {e : TypeId} {w : World} {v : Value} {l : List Int} (h : OwnB C E e w v l) (hC : C' ≤ C) (hE : E ≤ E') : OwnB C' E' e w v l := ⟨h.1.mono hC, fun q hq => Nat.lt_of_lt_of_le (h.2 q hq) hE⟩
theorem E4.wide {C E C' E' : Nat} {e : TypeId} {w : World} {v : Value} {l : List Int} (h : E4 C E e w v l) (hC : C' ≤ C) (hE : E ≤ E') : E4 C' E' e w v l := ⟨h.1.mono hC, fun q hq => Nat.lt_of_lt_of_le (h.2 q hq) hE⟩
theorem Ur {w0 : World} {b : Nat} {c0 c1 c2 c3 c4 c5 c6 a0 a1 a2 a3 a4 a5 a6 : Value} {t : TypeId} (h0 : w0.heap[b]? = some (.cells #[a0, a1, a2, a3, a4, a5, a6] t)) :
  (((((((w0.setCell ⟨b, 0, none⟩ c0).setCell ⟨b, 1, none⟩ c1).setCell ⟨b, 2, none⟩ c2).setCell ⟨b, 3, none⟩ c3).setCell ⟨b, 4, none⟩ c4).setCell ⟨b, 5, none⟩ c5).setCell ⟨b, 6, none⟩ c6).heap[b]? = some (.cells #[c0, c1, c2, c3, c4, c5, c6] t) := by
 have h1 : (w0.setCell ⟨b, 0, none⟩ c0).heap[b]? = some (.cells #[c0, a1, a2, a3, a4, a5, a6] t) := UV h0 0 c0
 generalize w0.setCell ⟨b, 0, none⟩ c0 = w1 at h1 ⊢
 have h2 : (w1.setCell ⟨b, 1, none⟩ c1).heap[b]? = some (.cells #[c0, c1, a2, a3, a4, a5, a6] t) := UV h1 1 c1
 generalize w1.setCell ⟨b, 1, none⟩ c1 = w2 at h2 ⊢
 have h3 : (w2.setCell ⟨b, 2, none⟩ c2).heap[b]? = some (.cells #[c0, c1, c2, a3, a4, a5, a6] t) := UV h2 2 c2
 generalize w2.setCell ⟨b, 2, none⟩ c2 = w3 at h3 ⊢
 have h4 : (w3.setCell ⟨b, 3, none⟩ c3).heap[b]? = some (.cells #[c0, c1, c2, c3, a4, a5, a6] t) := UV h3 3 c3
 generalize w3.setCell ⟨b, 3, none⟩ c3 = w4 at h4 ⊢
 have h5 : (w4.setCell ⟨b, 4, none⟩ c4).heap[b]? = some (.cells #[c0, c1, c2, c3, c4, a5, a6] t) := UV h4 4 c4
 generalize w4.setCell ⟨b, 4, none⟩ c4 = w5 at h5 ⊢
 have h6 : (w5.setCell ⟨b, 5, none⟩ c5).heap[b]? = some (.cells #[c0, c1, c2, c3, c4, c5, a6] t) := UV h5 5 c5
 generalize w5.setCell ⟨b, 5, none⟩ c5 = w6 at h6 ⊢
 have h7 : (w6.setCell ⟨b, 6, none⟩ c6).heap[b]? = some (.cells #[c0, c1, c2, c3, c4, c5, c6] t) := UV h6 6 c6
 exact h7
theorem set7 {w0 : World} {b : Nat} {c0 c1 c2 c3 c4 c5 c6 a0 a1 a2 a3 a4 a5 a6 : Value} {t : TypeId} (h0 : w0.heap[b]? = some (.cells #[a0, a1, a2, a3, a4, a5, a6] t)) :
  (((((((w0.setCell ⟨b, 0, none⟩ c0).setCell ⟨b, 1, none⟩ c1).setCell ⟨b, 2, none⟩ c2).setCell ⟨b, 3, none⟩ c3).setCell ⟨b, 4, none⟩ c4).setCell ⟨b, 5, none⟩ c5).setCell ⟨b, 6, none⟩ c6).heap[b]? = some (.cells #[c0, c1, c2, c3, c4, c5, c6] t) ∧ Ap b (b + 1) w0 (((((((w0.setCell ⟨b, 0, none⟩ c0).setCell ⟨b, 1, none⟩ c1).setCell ⟨b, 2, none⟩ c2).setCell ⟨b, 3, none⟩ c3).setCell ⟨b, 4, none⟩ c4).setCell ⟨b, 5, none⟩ c5).setCell ⟨b, 6, none⟩ c6) :=
 ⟨Ur h0, ((((((UT _ _ _ _).trans (UT _ _ _ _)).trans (UT _ _ _ _)).trans (UT _ _ _ _)).trans (UT _ _ _ _)).trans (UT _ _ _ _)).trans (UT _ _ _ _)⟩
end Go.Proofs.YtfneahdnpmamkaaGreat

namespace Go.Proofs.YtfneahdnpmamkaaGreat
open Go.RowKit

def Ej (n : List (List Int)) : Prop := n.length ≤ 7 ∧ ∀ k, k < n.length → (n.getD k []).length ≤ 16
theorem G8 : Ej [] := ⟨by simp, fun k hk => absurd hk (by simp)⟩
end Go.Proofs.YtfneahdnpmamkaaGreat

namespace Go.Proofs.YtfneahdnpmamkaaGreat
open Go.RowKit
set_option linter.unusedVariables false

structure B9 (w : World) (vn vt vx vi : Value) (r : Rec) : Prop where
 name : OwnT 0 22 5 w vn r.name
 to : OwnT 0 22 5 w vt r.to
 text : Has w vx r.text ∧ Ci 5 w vx
 nums : OwnI 0 3 w vi r.nums
theorem B9.hasR {w : World} {vn vt vx vi : Value} {r : Rec} (h : B9 w vn vt vx vi r) : HasR w vn vt vx vi r := ⟨h.name.hasL, h.to.hasL, h.text.1, h.nums.has⟩
theorem B9.below {w w' : World} {vn vt vx vi : Value} {r : Rec} (h : B9 w vn vt vx vi r) (hb : Below w.heap.size w w') : B9 w' vn vt vx vi r := ⟨h.name.below hb, h.to.below hb, ⟨h.text.1.below hb, h.text.2.below hb⟩, h.nums.below hb⟩
theorem B9.off {w w' : World} {vn vt vx vi : Value} {r : Rec} {q : Nat} {t : TypeId} {c : Array Value} (h : B9 w vn vt vx vi r) (hk : w.heap[q]? = some (.cells c t)) (h1 : t ≠ 22) (h2 : t ≠ 5) (h3 : t ≠ 3) (hg : w.grownBy w' (some q)) : B9 w' vn vt vx vi r :=
 ⟨h.name.off hk h1 h2 hg, h.to.off hk h1 h2 hg, h.text.1.off h.text.2 hk h2 hg, h.nums.kept hg (.inr (Cp h.nums hk h3))⟩
theorem B9.cur {w w' : World} {vn vt vx vi : Value} {r : Rec} {g len cap : Nat} {a : Option Addr} (h : B9 w vn vt vx vi r) (hc : Cur w g a len cap) (hg : w.grownBy w' (some g)) : B9 w' vn vt vx vi r := by
 obtain ⟨i, x, h1, _⟩ := hc
 exact h.off h1 (by decide) (by decide) (by decide) hg
theorem Sw (w : World) : OwnT 0 22 5 w (.slice none 0 0) [] := ⟨[], World.ownsRow_nil _ _ _ _, fun i hi => absurd hi (by simp)⟩
theorem Yc (w : World) : OwnI 0 3 w (.slice none 0 0) [] := World.ownsRow_nil _ _ _ _
theorem Xw (w : World) : Has w (.slice none 0 0) [] ∧ Ci 5 w (.slice none 0 0) := ⟨.inl ⟨rfl, rfl⟩, Ci.nil _ _⟩
theorem A8 (w : World) (b : Nat) {c0 c1 c2 c3 c4 c5 c6 : Value} : w.grownBy (((((((w.setCell ⟨b, 0, none⟩ c0).setCell ⟨b, 1, none⟩ c1).setCell ⟨b, 2, none⟩ c2).setCell ⟨b, 3, none⟩ c3).setCell ⟨b, 4, none⟩ c4).setCell ⟨b, 5, none⟩ c5).setCell ⟨b, 6, none⟩ c6) (some b) :=
 Ad (Ad (Ad (Ad (Ad (Ad (Ab w ⟨b, 0, none⟩ c0) (Ab _ ⟨b, 1, none⟩ c1)) (Ab _ ⟨b, 2, none⟩ c2)) (Ab _ ⟨b, 3, none⟩ c3)) (Ab _ ⟨b, 4, none⟩ c4)) (Ab _ ⟨b, 5, none⟩ c5)) (Ab _ ⟨b, 6, none⟩ c6)
def DrawnS (k : Nat) (r : Rec) : Prop := r.nums.length ≤ k ∧ Ej r.name ∧ Ej r.to ∧ r.text.length ≤ 41
end Go.Proofs.YtfneahdnpmamkaaGreat

namespace Go.Proofs.YtfneahdnpmamkaaGreat
open Go.RowKit

def recZ : Rec := ⟨[], 0, 0, 0, [], [], []⟩
def Ah (vn vt vx vi : Value) (r : Rec) : List Value := [vn, .int .i64 r.type, .int .i64 r.ttl, .int .i64 r.addr, vt, vx, vi]

theorem UW {w w' : World} {b o : Nat} {cs : List Value} (h : w.rangeAt b o cs) (hlt : b < w.heap.size) (hb : Below w.heap.size w w') : w'.rangeAt b o cs := fun j v hv => (hb.cell (p := ⟨b, o + j, none⟩) hlt).trans (h j v hv)
theorem VH {w : World} {b o : Nat} {c0 c1 c2 c3 c4 c5 c6 : Value} (h : w.rangeAt b o [c0, c1, c2, c3, c4, c5, c6]) :
  w.cell? ⟨b, o, none⟩ = some c0 ∧ w.cell? ⟨b, o + 1, none⟩ = some c1 ∧ w.cell? ⟨b, o + 2, none⟩ = some c2 ∧ w.cell? ⟨b, o + 3, none⟩ = some c3 ∧ w.cell? ⟨b, o + 4, none⟩ = some c4 ∧ w.cell? ⟨b, o + 5, none⟩ = some c5 ∧ w.cell? ⟨b, o + 6, none⟩ = some c6 :=
 ⟨h 0 c0 rfl, h 1 c1 rfl, h 2 c2 rfl, h 3 c3 rfl, h 4 c4 rfl, h 5 c5 rfl, h 6 c6 rfl⟩

def Ha (w : World) (a : Option Addr) (rs : List Rec) : Prop :=
 rs = [] ∨ ∃ b off, a = some ⟨b, off, none⟩ ∧ b < w.heap.size ∧ ∀ i, i < rs.length → ∃ an cn ato ct ax cx ai ci,
  w.rangeAt b (off + i * 7) (Ah (.slice an (rs.getD i recZ).name.length cn) (.slice ato (rs.getD i recZ).to.length ct) (.slice ax (rs.getD i recZ).text.length cx) (.slice ai (rs.getD i recZ).nums.length ci) (rs.getD i recZ)) ∧ InR w an ato ax ai (rs.getD i recZ)
theorem Ha.below {w w' : World} {a : Option Addr} {rs : List Rec} (h : Ha w a rs) (hb : Below w.heap.size w w') : Ha w' a rs := by
 rcases h with h | ⟨b, off, ha, hlt, hc⟩
 ·exact .inl h
 ·refine .inr ⟨b, off, ha, Nat.lt_of_lt_of_le hlt hb.size, fun i hi => ?_⟩
  obtain ⟨an, cn, ato, ct, ax, cx, ai, ci, h1, h2⟩ := hc i hi
  exact ⟨an, cn, ato, ct, ax, cx, ai, ci, UW h1 hlt hb, h2.below hb⟩
theorem Ha.here {w : World} {a : Option Addr} {rs : List Rec} (h : Ha w a rs) {k : Nat} (hk : k < rs.length) :
  ∃ b off an cn ato ct ax cx ai ci, a = some ⟨b, off, none⟩ ∧ b < w.heap.size ∧ w.rangeAt b (off + k * 7) (Ah (.slice an (rs.getD k recZ).name.length cn) (.slice ato (rs.getD k recZ).to.length ct) (.slice ax (rs.getD k recZ).text.length cx) (.slice ai (rs.getD k recZ).nums.length ci) (rs.getD k recZ)) ∧ InR w an ato ax ai (rs.getD k recZ) := by
 rcases h with rfl | ⟨b, off, ha, hlt, hc⟩
 ·simp at hk
 ·obtain ⟨an, cn, ato, ct, ax, cx, ai, ci, h1, h2⟩ := hc k hk
  exact ⟨b, off, an, cn, ato, ct, ax, cx, ai, ci, ha, hlt, h1, h2⟩

def Cl (w : World) (v : Value) (rs : List Rec) : Prop :=
 (v = .slice none 0 0 ∧ rs = []) ∨ ∃ g off cap, v = .slice (some ⟨g, off, none⟩) rs.length cap ∧ g < w.heap.size ∧ rs.length ≤ cap ∧ cap ≤ maxLen ∧ ∀ i, i < rs.length → ∃ vn vt vx vi,
  w.rangeAt g (off + i * 7) (Ah vn vt vx vi (rs.getD i recZ)) ∧ HasR w vn vt vx vi (rs.getD i recZ)
theorem Cl.below {w w' : World} {v : Value} {rs : List Rec} (h : Cl w v rs) (hb : Below w.heap.size w w') : Cl w' v rs := by
 rcases h with h | ⟨g, off, cap, hv, hlt, hl, hm, hc⟩
 ·exact .inl h
 ·refine .inr ⟨g, off, cap, hv, Nat.lt_of_lt_of_le hlt hb.size, hl, hm, fun i hi => ?_⟩
  obtain ⟨vn, vt, vx, vi, h1, h2⟩ := hc i hi
  exact ⟨vn, vt, vx, vi, UW h1 hlt hb, h2.below hb⟩
theorem Cl.form {w : World} {v : Value} {rs : List Rec} (h : Cl w v rs) : ∃ a cap, v = .slice a rs.length cap ∧ rs.length ≤ cap ∧ cap ≤ maxLen := by
 rcases h with ⟨rfl, rfl⟩ | ⟨g, off, cap, hv, hlt, hl, hm, hc⟩
 ·exact ⟨none, 0, rfl, Nat.le_refl _, Nat.zero_le _⟩
 ·exact ⟨_, cap, hv, hl, hm⟩
theorem Cl.here {w : World} {a : Option Addr} {len cap : Nat} {rs : List Rec} (h : Cl w (.slice a len cap) rs) {k : Nat} (hk : k < rs.length) :
  ∃ b off na nc ta tc xa xc ia ic, a = some ⟨b, off, none⟩ ∧ b < w.heap.size ∧ w.rangeAt b (off + k * 7) (Ah (.slice na (rs.getD k recZ).name.length nc) (.slice ta (rs.getD k recZ).to.length tc) (.slice xa (rs.getD k recZ).text.length xc) (.slice ia (rs.getD k recZ).nums.length ic) (rs.getD k recZ)) ∧
   HasR w (.slice na (rs.getD k recZ).name.length nc) (.slice ta (rs.getD k recZ).to.length tc) (.slice xa (rs.getD k recZ).text.length xc) (.slice ia (rs.getD k recZ).nums.length ic) (rs.getD k recZ) := by
 rcases h with ⟨_, rfl⟩ | ⟨g, off, cap', hv, hlt, hl, hm, hc⟩
 ·simp at hk
 ·simp only [Value.slice.injEq] at hv
  obtain ⟨vn, vt, vx, vi, h1, h2⟩ := hc k hk
  obtain ⟨na, nc, rfl, _⟩ := h2.name.form
  obtain ⟨ta, tc, rfl, _⟩ := h2.to.form
  obtain ⟨xa, xc, rfl, _⟩ := h2.text.form
  obtain ⟨ia, ic, rfl, _⟩ := h2.nums.form
  exact ⟨g, off, na, nc, ta, tc, xa, xc, ia, ic, hv.1, hlt, h1, h2⟩

theorem Bu (b : Nat) : ∀ (vs : List Value) (o : Nat) (w : World), Ap b (b + 1) w (w.setCells b o vs)
 | [], _, _ => ⟨rfl, rfl, rfl, Nat.le_refl _, fun _ _ _ => rfl⟩
 | v :: vs, o, w => (UT w b o v).trans (Bu b vs (o + 1) _)
def F6 (g : Nat) (n k : Nat) (el eb ei : TypeId) (w : World) (rs : List Rec) : Prop :=
 g < w.heap.size ∧ w.there g 0 (n * 7) ∧ ∀ i, i < k → ∃ vn vt vx vi, w.rangeAt g (i * 7) (Ah vn vt vx vi (rs.getD i recZ)) ∧ OwnR (g + 1) w.heap.size el eb ei w vn vt vx vi (rs.getD i recZ)
theorem OwnR.wide {B E B' E' : Nat} {el eb ei : TypeId} {w : World} {vn vt vx vi : Value} {r : Rec} (h : OwnR B E el eb ei w vn vt vx vi r) (hB : B' ≤ B) (hE : E ≤ E') : OwnR B' E' el eb ei w vn vt vx vi r := by
 obtain ⟨s1, s2, s3, a1, a2, a3, a4, h1, h2, h3, h4⟩ := h
 exact ⟨s1, s2, s3, by omega, a2, a3, by omega, h1.wide hB (Nat.le_refl _), h2, h3, h4.wide (Nat.le_refl _) hE⟩
theorem F6.below {g n k : Nat} {el eb ei : TypeId} {w w' : World} {rs : List Rec} (h : F6 g n k el eb ei w rs) (hb : Below w.heap.size w w') : F6 g n k el eb ei w' rs := by
 obtain ⟨h0, h1, h2⟩ := h
 refine ⟨Nat.lt_of_lt_of_le h0 hb.size, fun j hj => ?_, fun i hi => ?_⟩
 ·have := h1 j hj
  rw [← hb.cell (p := ⟨g, 0 + j, none⟩) h0, ← hb.frozen (p := ⟨g, 0 + j, none⟩) h0] at this
  exact this
 ·obtain ⟨vn, vt, vx, vi, q1, q2⟩ := h2 i hi
  exact ⟨vn, vt, vx, vi, UW q1 h0 hb, (q2.below hb).wide (Nat.le_refl _) hb.size⟩
theorem F6.here {g n k : Nat} {el eb ei : TypeId} {w : World} {rs : List Rec} (h : F6 g n k el eb ei w rs) (hk : k < n) : w.there g (k * 7) 7 := fun j hj => by
 have := h.2.1 (k * 7 + j) (by omega)
 rwa [Nat.zero_add] at this
theorem F6.step {g n k : Nat} {el eb ei : TypeId} {w : World} {rs : List Rec} (h : F6 g n k el eb ei w rs) (hk : k < n) {vn vt vx vi : Value} (ho : OwnR (g + 1) w.heap.size el eb ei w vn vt vx vi (rs.getD k recZ)) :
  F6 g n (k + 1) el eb ei (w.setCells g (k * 7) (Ah vn vt vx vi (rs.getD k recZ))) rs := by
 have u := Bu g (Ah vn vt vx vi (rs.getD k recZ)) (k * 7) w
 have ht := h.here hk
 obtain ⟨h0, h1, h2⟩ := h
 refine ⟨Nat.lt_of_lt_of_le h0 u.size, World.there_setCells h1 _ _ _, fun i hi => ?_⟩
 by_cases e : i = k
 ·subst e
  exact ⟨vn, vt, vx, vi, World.rangeAt_setCells_same _ _ _ _ ht, (ho.outside u (.inr (Nat.le_refl _))).wide (Nat.le_refl _) u.size⟩
 ·obtain ⟨xn, xt, xx, xi, q1, q2⟩ := h2 i (by omega)
  refine ⟨xn, xt, xx, xi, World.rangeAt_setCells_apart q1 _ _ _ (.inr (.inl ?_)), (q2.outside u (.inr (Nat.le_refl _))).wide (Nat.le_refl _) u.size⟩
  show i * 7 + 7 ≤ k * 7
  omega
theorem F6.has {g n : Nat} {el eb ei : TypeId} {w : World} {rs : List Rec} (h : F6 g n n el eb ei w rs) (hn : rs.length = n) (hm : n ≤ maxLen) : Cl w (.slice (some ⟨g, 0, none⟩) n n) rs := by
 subst hn
 refine .inr ⟨g, 0, rs.length, rfl, h.1, Nat.le_refl _, hm, fun i hi => ?_⟩
 obtain ⟨vn, vt, vx, vi, q1, q2⟩ := h.2.2 i hi
 exact ⟨vn, vt, vx, vi, by rw [Nat.zero_add]; exact q1, q2.hasR⟩
theorem F6.outside {g n k C D : Nat} {el eb ei : TypeId} {w w' : World} {rs : List Rec} (h : F6 g n k el eb ei w rs) (u : Ap C D w w') (hd : D ≤ g) : F6 g n k el eb ei w' rs := by
 obtain ⟨h0, h1, h2⟩ := h
 have hk : w'.heap[g]? = w.heap[g]? := u.block g h0 (by omega)
 have hc : ∀ j, w'.cell? ⟨g, j, none⟩ = w.cell? ⟨g, j, none⟩ := fun j => by unfold World.cell?; rw [hk]
 have hf : ∀ j, w'.frozen? ⟨g, j, none⟩ = w.frozen? ⟨g, j, none⟩ := fun j => by unfold World.frozen?; rw [hk]
 refine ⟨Nat.lt_of_lt_of_le h0 u.size, fun j hj => by rw [hc, hf]; exact h1 j hj, fun i hi => ?_⟩
 obtain ⟨vn, vt, vx, vi, q1, q2⟩ := h2 i hi
 exact ⟨vn, vt, vx, vi, fun j v hv => (hc _).trans (q1 j v hv), (q2.outside u (.inr (by omega))).wide (Nat.le_refl _) u.size⟩
def Rl (B : Nat) (el eb ei : TypeId) (w : World) (v : Value) (rs : List Rec) : Prop := ∃ g, v = .slice (some ⟨g, 0, none⟩) rs.length rs.length ∧ B ≤ g ∧ rs.length ≤ maxLen ∧ F6 g rs.length rs.length el eb ei w rs
theorem Rl.has {B : Nat} {el eb ei : TypeId} {w : World} {v : Value} {rs : List Rec} (h : Rl B el eb ei w v rs) : Cl w v rs := by
 obtain ⟨g, rfl, _, hm, hf⟩ := h
 exact hf.has rfl hm
theorem Rl.outside {B C D : Nat} {el eb ei : TypeId} {w w' : World} {v : Value} {rs : List Rec} (h : Rl B el eb ei w v rs) (u : Ap C D w w') (hd : D ≤ B) : Rl B el eb ei w' v rs := by
 obtain ⟨g, hv, hB, hm, hf⟩ := h
 exact ⟨g, hv, hB, hm, hf.outside u (by omega)⟩
end Go.Proofs.YtfneahdnpmamkaaGreat

namespace Go.Proofs.YtfneahdnpmamkaaGreat
open Go.RowKit
set_option linter.unusedVariables false

def Pt {α : Type} (E : World → List Value → α → Prop) : Prop := ∀ {w w' : World} {vs : List Value} {x : α}, E w vs x → Below w.heap.size w w' → E w' vs x
def I5 {α : Type} (c : Nat) (E : World → List Value → α → Prop) (d : α) (w : World) (a : Option Addr) (xs : List α) : Prop :=
 xs = [] ∨ ∃ b off, a = some ⟨b, off, none⟩ ∧ b < w.heap.size ∧ ∀ i, i < xs.length → ∃ vs, w.rangeAt b (off + i * c) vs ∧ E w vs (xs.getD i d)
def HasG {α : Type} (c : Nat) (E : World → List Value → α → Prop) (d : α) (w : World) (v : Value) (xs : List α) : Prop :=
 (v = .slice none 0 0 ∧ xs = []) ∨ ∃ g off cap, v = .slice (some ⟨g, off, none⟩) xs.length cap ∧ g < w.heap.size ∧ xs.length ≤ cap ∧ cap ≤ maxLen ∧ ∀ i, i < xs.length → ∃ vs, w.rangeAt g (off + i * c) vs ∧ E w vs (xs.getD i d)
section
variable {α : Type} {c : Nat} {E : World → List Value → α → Prop} {d : α} {w w' : World} {a : Option Addr} {v : Value} {xs : List α}
theorem I5.below (hE : Pt E) (h : I5 c E d w a xs) (hb : Below w.heap.size w w') : I5 c E d w' a xs := by
 rcases h with h | ⟨b, off, ha, hlt, hc⟩
 ·exact .inl h
 ·refine .inr ⟨b, off, ha, Nat.lt_of_lt_of_le hlt hb.size, fun i hi => ?_⟩
  obtain ⟨vs, h1, h2⟩ := hc i hi
  exact ⟨vs, UW h1 hlt hb, hE h2 hb⟩
theorem I5.here (h : I5 c E d w a xs) {k : Nat} (hk : k < xs.length) : ∃ b off vs, a = some ⟨b, off, none⟩ ∧ b < w.heap.size ∧ w.rangeAt b (off + k * c) vs ∧ E w vs (xs.getD k d) := by
 rcases h with rfl | ⟨b, off, ha, hlt, hc⟩
 ·simp at hk
 ·obtain ⟨vs, h1, h2⟩ := hc k hk
  exact ⟨b, off, vs, ha, hlt, h1, h2⟩
theorem HasG.below (hE : Pt E) (h : HasG c E d w v xs) (hb : Below w.heap.size w w') : HasG c E d w' v xs := by
 rcases h with h | ⟨g, off, cap, hv, hlt, hl, hm, hc⟩
 ·exact .inl h
 ·refine .inr ⟨g, off, cap, hv, Nat.lt_of_lt_of_le hlt hb.size, hl, hm, fun i hi => ?_⟩
  obtain ⟨vs, h1, h2⟩ := hc i hi
  exact ⟨vs, UW h1 hlt hb, hE h2 hb⟩
theorem HasG.form (h : HasG c E d w v xs) : ∃ a cap, v = .slice a xs.length cap ∧ xs.length ≤ cap ∧ cap ≤ maxLen := by
 rcases h with ⟨rfl, rfl⟩ | ⟨g, off, cap, hv, hlt, hl, hm, hc⟩
 ·exact ⟨none, 0, rfl, Nat.le_refl _, Nat.zero_le _⟩
 ·exact ⟨_, cap, hv, hl, hm⟩
theorem HasG.here {len cap : Nat} (h : HasG c E d w (.slice a len cap) xs) {k : Nat} (hk : k < xs.length) : ∃ b off vs, a = some ⟨b, off, none⟩ ∧ b < w.heap.size ∧ w.rangeAt b (off + k * c) vs ∧ E w vs (xs.getD k d) := by
 rcases h with ⟨_, rfl⟩ | ⟨g, off, cap', hv, hlt, hl, hm, hc⟩
 ·simp at hk
 ·simp only [Value.slice.injEq] at hv
  obtain ⟨vs, h1, h2⟩ := hc k hk
  exact ⟨g, off, vs, hv.1, hlt, h1, h2⟩
theorem HasG.map {E' : World → List Value → α → Prop} (hE : ∀ vs x, E w vs x → E' w vs x) (h : HasG c E d w v xs) : HasG c E' d w v xs := by
 rcases h with h | ⟨g, off, cap, hv, hlt, hl, hm, hc⟩
 ·exact .inl h
 ·refine .inr ⟨g, off, cap, hv, hlt, hl, hm, fun i hi => ?_⟩
  obtain ⟨vs, h1, h2⟩ := hc i hi
  exact ⟨vs, h1, hE _ _ h2⟩
end

structure E7 {α : Type} (c : Nat) (O : Nat → Nat → World → List Value → α → Prop) : Prop where
 cells : ∀ {B e : Nat} {w : World} {vs : List Value} {x : α}, O B e w vs x → vs.length = c
 below : ∀ {B e : Nat} {w w' : World} {vs : List Value} {x : α}, O B e w vs x → Below w.heap.size w w' → O B e w' vs x
 outside : ∀ {B e C D : Nat} {w w' : World} {vs : List Value} {x : α}, O B e w vs x → Ap C D w w' → e ≤ C ∨ D ≤ B → O B e w' vs x
 wide : ∀ {B e B' e' : Nat} {w : World} {vs : List Value} {x : α}, O B e w vs x → B' ≤ B → e ≤ e' → O B' e' w vs x
def Ho {α : Type} (c : Nat) (O : Nat → Nat → World → List Value → α → Prop) (d : α) (g n k : Nat) (w : World) (xs : List α) : Prop :=
 g < w.heap.size ∧ w.there g 0 (n * c) ∧ ∀ i, i < k → ∃ vs, w.rangeAt g (i * c) vs ∧ O (g + 1) w.heap.size w vs (xs.getD i d)
section
variable {α : Type} {c : Nat} {O : Nat → Nat → World → List Value → α → Prop} {d : α} {w w' : World} {v : Value} {xs : List α} {g n k : Nat}
theorem Ho.below (hO : E7 c O) (h : Ho c O d g n k w xs) (hb : Below w.heap.size w w') : Ho c O d g n k w' xs := by
 obtain ⟨h0, h1, h2⟩ := h
 refine ⟨Nat.lt_of_lt_of_le h0 hb.size, fun j hj => ?_, fun i hi => ?_⟩
 ·have := h1 j hj
  rw [← hb.cell (p := ⟨g, 0 + j, none⟩) h0, ← hb.frozen (p := ⟨g, 0 + j, none⟩) h0] at this
  exact this
 ·obtain ⟨vs, q1, q2⟩ := h2 i hi
  exact ⟨vs, UW q1 h0 hb, hO.wide (hO.below q2 hb) (Nat.le_refl _) hb.size⟩
theorem Ho.here (h : Ho c O d g n k w xs) (hk : k < n) : w.there g (k * c) c := fun j hj => by
 have hle : k * c + c ≤ n * c := by
  have := Nat.mul_le_mul_right c (show k + 1 ≤ n from hk)
  rwa [Nat.add_mul, Nat.one_mul] at this
 have := h.2.1 (k * c + j) (by omega)
 rwa [Nat.zero_add] at this
theorem Ho.step (hO : E7 c O) (h : Ho c O d g n k w xs) (hk : k < n) {vs : List Value} (ho : O (g + 1) w.heap.size w vs (xs.getD k d)) : Ho c O d g n (k + 1) (w.setCells g (k * c) vs) xs := by
 have u := Bu g vs (k * c) w
 have ht := h.here hk
 have hc := hO.cells ho
 obtain ⟨h0, h1, h2⟩ := h
 refine ⟨Nat.lt_of_lt_of_le h0 u.size, World.there_setCells h1 _ _ _, fun i hi => ?_⟩
 by_cases e : i = k
 ·subst e
  exact ⟨vs, World.rangeAt_setCells_same _ _ _ _ (by rw [hc]; exact ht), hO.wide (hO.outside ho u (.inr (Nat.le_refl _))) (Nat.le_refl _) u.size⟩
 ·obtain ⟨us, q1, q2⟩ := h2 i (by omega)
  have hl : i * c + c ≤ k * c := by
   have := Nat.mul_le_mul_right c (show i + 1 ≤ k by omega)
   rwa [Nat.add_mul, Nat.one_mul] at this
  refine ⟨us, World.rangeAt_setCells_apart q1 _ _ _ (.inr (.inl ?_)), hO.wide (hO.outside q2 u (.inr (Nat.le_refl _))) (Nat.le_refl _) u.size⟩
  rw [hO.cells q2]
  exact hl
theorem Ho.outside (hO : E7 c O) {C D : Nat} (h : Ho c O d g n k w xs) (u : Ap C D w w') (hd : D ≤ g) : Ho c O d g n k w' xs := by
 obtain ⟨h0, h1, h2⟩ := h
 have hk : w'.heap[g]? = w.heap[g]? := u.block g h0 (by omega)
 have hc : ∀ j, w'.cell? ⟨g, j, none⟩ = w.cell? ⟨g, j, none⟩ := fun j => by unfold World.cell?; rw [hk]
 have hf : ∀ j, w'.frozen? ⟨g, j, none⟩ = w.frozen? ⟨g, j, none⟩ := fun j => by unfold World.frozen?; rw [hk]
 refine ⟨Nat.lt_of_lt_of_le h0 u.size, fun j hj => by rw [hc, hf]; exact h1 j hj, fun i hi => ?_⟩
 obtain ⟨vs, q1, q2⟩ := h2 i hi
 exact ⟨vs, fun j v hv => (hc _).trans (q1 j v hv), hO.wide (hO.outside q2 u (.inr (by omega))) (Nat.le_refl _) u.size⟩
end
def OwnG {α : Type} (c : Nat) (O : Nat → Nat → World → List Value → α → Prop) (d : α) (B : Nat) (w : World) (v : Value) (xs : List α) : Prop :=
 ∃ g, v = .slice (some ⟨g, 0, none⟩) xs.length xs.length ∧ B ≤ g ∧ xs.length ≤ maxLen ∧ Ho c O d g xs.length xs.length w xs
section
variable {α : Type} {c : Nat} {O : Nat → Nat → World → List Value → α → Prop} {d : α} {w w' : World} {v : Value} {xs : List α} {B : Nat}
theorem OwnG.has {E : World → List Value → α → Prop} (hE : ∀ {B e : Nat} {w : World} {vs : List Value} {x : α}, O B e w vs x → E w vs x) (h : OwnG c O d B w v xs) : HasG c E d w v xs := by
 obtain ⟨g, rfl, _, hm, hf⟩ := h
 refine .inr ⟨g, 0, xs.length, rfl, hf.1, Nat.le_refl _, hm, fun i hi => ?_⟩
 obtain ⟨vs, q1, q2⟩ := hf.2.2 i hi
 exact ⟨vs, by rw [Nat.zero_add]; exact q1, hE q2⟩
theorem OwnG.outside (hO : E7 c O) {C D : Nat} (h : OwnG c O d B w v xs) (u : Ap C D w w') (hd : D ≤ B) : OwnG c O d B w' v xs := by
 obtain ⟨g, hv, hB, hm, hf⟩ := h
 exact ⟨g, hv, hB, hm, hf.outside hO u (by omega)⟩
theorem OwnG.below (hO : E7 c O) (h : OwnG c O d B w v xs) (hb : Below w.heap.size w w') : OwnG c O d B w' v xs := by
 obtain ⟨g, hv, hB, hm, hf⟩ := h
 exact ⟨g, hv, hB, hm, hf.below hO hb⟩
end
end Go.Proofs.YtfneahdnpmamkaaGreat
