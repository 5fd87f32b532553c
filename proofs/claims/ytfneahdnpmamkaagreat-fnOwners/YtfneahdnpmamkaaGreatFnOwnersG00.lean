/-
  Plain facts on worlds and lists of bytes: a slice of bytes that reads as a list, one that owns its row, and how both fare as the world goes on. No program is named here. Plain facts: labels and names as lists of numbers, and how they lie in memory. No program is named here. What is known of a name that came in as an argument: a struct of one slice of slices of bytes, wherever they lie. What the frame asks of the whole program, once for all statements of the seat: the word on how it was cut is laid out as numbers first, so that the kernel need not take a long text apart. Plain facts: a text of bytes gone through rune by rune, and great letters turned into small ones. No program is named here. What NameGet reads, in plain J9: one step after another, each a label or a pointer.
-/
import Derived.WalkKit
import Derived.WalkSpells
import Derived.Deep.OwnRows
import Derived.Below
import Derived.Laws.AppendOwnNone
import Derived.BigQuiet
import Derived.Deep.QuietTactic
import Derived.ProofKit
import Derived.ChangeArms
import Derived.ChangeSame
import Derived.ChangeSlices
import Derived.Test.YtfneahdnpmamkaaGreatRows
import Derived.JoinedOf
import Derived.Lib.OthersKept
namespace Go.Proofs.YtfneahdnpmamkaaGreat
open Go.RowKit

theorem UC {p : Prop} (h : p) : Hid p := h
theorem UB {p : Prop} (h : Hid p) : p := h

def Lies (w : World) (a : Option Addr) (l : List Int) : Prop :=
 l = [] ∨ ∃ b off, a = some ⟨b, off, none⟩ ∧ b < w.heap.size ∧ ∀ i, i < l.length → w.cell? ⟨b, off + i, none⟩ = some (.int .u8 (l.getD i 0))

def Own (B : Nat) (e : TypeId) (w : World) (v : Value) (l : List Int) : Prop := w.ownsRow B e 1 v l.length (l.map (Value.int .u8))

theorem Lies.below {w w' : World} {a : Option Addr} {l : List Int} (h : Lies w a l) (hb : Below w.heap.size w w') : Lies w' a l := by
 rcases h with rfl | ⟨b, off, rfl, hlt, hc⟩
 ·exact .inl rfl
 ·exact .inr ⟨b, off, rfl, Nat.lt_of_lt_of_le hlt hb.size, fun i hi => (hb.cell (p := ⟨b, off + i, none⟩) hlt).trans (hc i hi)⟩

theorem Lies.cell {w w' : World} {a : Option Addr} {l : List Int} (h : Lies w a l) (hb : Below w.heap.size w w') {k : Nat} (hk : k < l.length) :
  ∃ b off, a = some ⟨b, off, none⟩ ∧ b < w.heap.size ∧ w'.cell? ⟨b, off + k, none⟩ = some (.int .u8 (l.getD k 0)) := by
 rcases h with rfl | ⟨b, off, rfl, hlt, hc⟩
 ·simp at hk
 ·exact ⟨b, off, rfl, hlt, (hb.cell (p := ⟨b, off + k, none⟩) hlt).trans (hc k hk)⟩

theorem Lies.here {w : World} {a : Option Addr} {l : List Int} (h : Lies w a l) {k : Nat} (hk : k < l.length) :
  ∃ b off, a = some ⟨b, off, none⟩ ∧ b < w.heap.size ∧ w.cell? ⟨b, off + k, none⟩ = some (.int .u8 (l.getD k 0)) := h.cell (Below.refl _ _) hk

theorem Qh (l : List Int) (j : Nat) (hj : j < l.length) : (l.map (Value.int .u8))[j]? = some (.int .u8 (l.getD j 0)) := by
 simp [hj]

section
variable {B : Nat} {e : TypeId} {w w' : World} {v : Value} {l : List Int}

theorem Own.form (h : Own B e w v l) : (v = .slice none 0 0 ∧ l = []) ∨
  ∃ g cap, v = .slice (some ⟨g, 0, none⟩) l.length cap ∧ B ≤ g ∧ g < w.heap.size ∧ l.length ≤ cap ∧ cap ≤ maxLen ∧
   (∀ i, i < l.length → w.cell? ⟨g, i, none⟩ = some (.int .u8 (l.getD i 0))) ∧ ∀ i, w.frozen? ⟨g, i, none⟩ = false := by
 have h' := h
 rcases h.2 with ⟨rfl, hn⟩ | ⟨g, cap, cur, rfl, hb, hg, hn, hm, hs, ht⟩
 ·exact .inl ⟨rfl, List.eq_nil_of_length_eq_zero hn⟩
 ·refine .inr ⟨g, cap, rfl, hb, (h'.lt g rfl).2, hn, hm, fun i hi => ?_, fun i => World.ownsRow.frozenAt h' i⟩
  rw [World.ownsRow.cellAt h' i (by omega), Qh l i hi]

theorem Own.lies (h : Own B e w v l) : ∃ a cap, v = .slice a l.length cap ∧ Lies w a l := by
 rcases h.form with ⟨rfl, rfl⟩ | ⟨g, cap, rfl, _, hlt, _, _, hc, _⟩
 ·exact ⟨none, 0, rfl, .inl rfl⟩
 ·exact ⟨_, cap, rfl, .inr ⟨g, 0, rfl, hlt, fun i hi => by simpa using hc i hi⟩⟩

theorem Own.mono {B' : Nat} (h : Own B e w v l) (hB : B' ≤ B) : Own B' e w v l := by
 refine ⟨h.1, ?_⟩
 rcases h.2 with hn | ⟨g, cap, cur, hv, hb, rest⟩
 ·exact .inl hn
 ·exact .inr ⟨g, cap, cur, hv, Nat.le_trans hB hb, rest⟩

theorem Own.lt (h : Own B e w v l) : ∀ k, v.ownBlock = some k → B ≤ k ∧ k < w.heap.size := World.ownsRow.lt h

theorem Own.kept {row : Option Nat} (h : Own B e w v l) (hg : w.grownBy w' row) (hne : v.ownBlock = none ∨ v.ownBlock ≠ row) : Own B e w' v l := World.ownsRow.kept h hg hne

theorem Ac (hb : Below w.heap.size w w') : w.grownBy w' none := ⟨hb.os, hb.tape, hb.output, hb.size, fun k hk _ => hb.block k hk⟩
theorem Ch (hb : w.grownBy w' none) : Below w.heap.size w w' := ⟨hb.os, hb.tape, hb.output, hb.size, fun k hk => hb.block k hk (by simp)⟩

theorem Ad {a b c : World} {row : Option Nat} (h : a.grownBy b row) (k : b.grownBy c row) : a.grownBy c row :=
 ⟨k.os.trans h.os, k.tape.trans h.tape, k.output.trans h.output, Nat.le_trans h.size k.size, fun i hi hn => (k.block i (Nat.lt_of_lt_of_le hi h.size) hn).trans (h.block i hi hn)⟩

theorem Cr {w : World} (n : Nat) : Below w.heap.size w (w.drewN n) := ⟨rfl, rfl, rfl, Nat.le_refl _, fun _ _ => rfl⟩
theorem UG {a b c : World} (h : Below a.heap.size a b) (k : Below b.heap.size b c) : Below a.heap.size a c := h.trans (k.mono h.size)

theorem Own.below (h : Own B e w v l) (hb : Below w.heap.size w w') : Own B e w' v l := by
 refine h.kept (Ac hb) ?_
 cases hv : v.ownBlock with
 | none => exact .inl rfl
 | some k => exact .inr (by simp)

end

def marked (l : List Int) (k : Int) (m : Nat) : List Int := (List.range l.length).map fun (j : Nat) => if j < m then (k + j) % 256 else l.getD j 0

theorem Az (n : Nat) (h : n < 9223372036854775808) : IntKind.i64.wrap (n : Int) = (n : Int) := by
 have e : (n : Int) % 2 ^ 64 = n := Int.emod_eq_of_lt (by omega) (by omega)
 simp only [IntKind.wrap, IntKind.bits, IntKind.signed, e]
 rw [if_neg]
 simp
 omega

def IsRow (k : IntKind) (w : World) (a : Option Addr) (len cap : Nat) (zs : List Int) : Prop :=
 (a = none ∧ len = 0 ∧ cap = 0 ∧ zs = []) ∨
 ∃ x, a = some x ∧ len ≤ cap ∧ cap ≤ maxLen ∧ zs.length = cap ∧ (∀ i, i < zs.length → w.cell? (x.add i) = some (.int k (zs.getD i 0))) ∧ ∀ n ∈ zs, (Lit.int k n).wf = true

theorem Zt {w : World} {a : Addr} {v : Value} (h : w.cell? a = some v) : a.block < w.heap.size := by
 by_cases hb : a.block < w.heap.size
 ·exact hb
 ·have hn : w.heap[a.block]? = none := by simp; omega
  simp [World.cell?, hn] at h

theorem Tq {w : World} {a : Option Addr} {len cap : Nat} {zs : List Int} (h : IsRow .u8 w a len cap zs) :
  ∃ l : List Int, l.length = len ∧ len ≤ maxLen ∧ Lies w a l ∧ ∀ k, 0 ≤ l.getD k 0 ∧ l.getD k 0 ≤ 255 := by
 rcases h with ⟨rfl, rfl, rfl, rfl⟩ | ⟨x, rfl, hl, hm, hz, hcell, hwf⟩
 ·exact ⟨[], rfl, Nat.zero_le _, .inl rfl, by simp⟩
 ·refine ⟨zs.take len, by simp; omega, by omega, ?_, ?_⟩
  ·by_cases h0 : len = 0
   ·subst h0; exact .inl (by simp)
   ·right
    obtain ⟨b, off, spot⟩ := x
    have hc := hcell 0 (by omega)
    have hspot : spot = none := by simpa [Addr.add] using World.cell?_spot hc
    subst hspot
    refine ⟨b, off, rfl, Zt hc, fun i hi => ?_⟩
    simp at hi
    have hci := hcell i (by omega)
    rw [Addr.add_lit] at hci
    rw [hci, List.getD_eq_getElem?_getD, List.getD_eq_getElem?_getD, List.getElem?_take, if_pos (by omega)]
  ·intro k
   by_cases hk : k < (zs.take len).length
   ·have hmem : (zs.take len).getD k 0 ∈ zs := by
     rw [List.getD_eq_getElem?_getD, List.getElem?_eq_getElem hk, Option.getD_some]
     exact List.mem_of_mem_take (List.getElem_mem hk)
    simpa [Lit.wf, IntKind.min, IntKind.max, IntKind.signed, IntKind.bits] using hwf _ hmem
   ·rw [List.getD_eq_getElem?_getD, List.getElem?_eq_none (by omega)]
    simp

def Jr (w : World) (v : Value) (m : List Int) : Prop :=
 (v = .slice none 0 0 ∧ m = []) ∨ ∃ ad cap, v = .slice (some ad) m.length cap ∧ ∀ j, j < m.length → w.cell? (ad.add j) = some (.int .u8 (m.getD j 0))

theorem Own.reads {B : Nat} {e : TypeId} {w : World} {v : Value} {l : List Int} (h : Own B e w v l) : Jr w v l := by
 rcases h.form with h | ⟨g, cap, hv, _, _, _, _, hc, _⟩
 ·exact .inl h
 ·exact .inr ⟨_, cap, hv, fun j hj => by rw [Addr.add_lit, Nat.zero_add]; exact hc j hj⟩

theorem F5 {w : World} {ad : Addr} {l : List Int} (hc : ∀ j, j < l.length → w.cell? (ad.add j) = some (.int .u8 (l.getD j 0))) : ∀ j u, (l.map (Value.int .u8))[j]? = some u → w.cell? (ad.add j) = some u := by
 intro j u hj
 by_cases h : j < l.length
 ·rw [Qh l j h] at hj
  rw [← hj]; exact hc j h
 ·simp [h] at hj

theorem Je (l : List Int) : ∀ u ∈ l.map (Value.int .u8), u.oneCell' = true := by
 intro u hu
 obtain ⟨x, _, rfl⟩ := List.mem_map.1 hu
 rfl

theorem B4 (w : World) (B : Nat) (e : TypeId) (l : List Int) (hB : B ≤ w.heap.size) (hm : l.length ≤ maxLen) :
  Own B e (w.alloc (.cells (l.map (Value.int .u8)).toArray e)) (.slice (some ⟨w.heap.size, 0, none⟩) l.length l.length) l := by
 have h := World.ownsRow_lit (base := B) (e := e) (size := 1) w (l.map (Value.int .u8)).toArray l.length hB hm (by simp)
 simpa [Own] using h

theorem Own.alloc {B : Nat} {e : TypeId} {w : World} {v : Value} {l : List Int} (h : Own B e w v l) (o : Obj) : Own B e (w.alloc o) v l := World.ownsRow.alloc h o

theorem Aq {P : Program} {w : World} {ops : Array Oper} {rest : List Oper} {o : Oper} {a : Act} {Q : Exit → Act → World → Prop} (hgd : o.guard = none) (s x : Operand) (t e : TypeId)
  (ho : o.op = .call { callee := .builtin .append, args := #[s, x], argTypes := #[t, t] }) (ht : P.underlying t = some (.slice e))
  (hinfo : (P.info? e).map (fun i => (i.zero, i.size, i.bytes)) = some (some (.int .u8 0), 1, 1))
  (base : Nat) (v vx : Value) (l m : List Int) (hs : a.eval s = v) (hx : a.eval x = vx) (hown : Own base e w v l) (hr : Jr w vx m) (hlen : l.length + m.length ≤ 1099511627776) (hbase : base ≤ w.heap.size)
  (h : ∀ v' w', Own base e w' v' (l ++ m) → w.grownBy w' v.ownBlock → wpList P ops Q rest (a.put o.dst v') w') : wpList P ops Q (o :: rest) a w := by
 obtain ⟨i0, hi, hz0, hz1, hz2⟩ := info_parts hinfo
 rcases hr with ⟨rfl, rfl⟩ | ⟨ad, cap, rfl, hc⟩
 ·refine wpList_append_own_none hgd s x t ho base e i0 1 ht hi v l.length (l.map (Value.int .u8)) hs hown hx ?_
  exact h v w (by simpa using hown) ⟨rfl, rfl, rfl, Nat.le_refl _, fun _ _ _ => rfl⟩
 ·refine wpList_append_own w hgd s x t ho base e i0 (.int .u8 0) 1 1 ht hi hz0 hz1 hz2 rfl (by decide) v l.length (l.map (Value.int .u8)) hs hown ad m.length cap (m.map (Value.int .u8)) hx (by simp) (F5 hc) (Je m) (by unfold maxLen; omega) (by omega) hbase ?_
  intro v' w' ho' hg _
  exact h v' w' (by simpa [Own] using ho') hg

theorem V6 {B B' : Nat} {e e' : TypeId} {w w' : World} {v v' : Value} {l l' : List Int} (h : Own B e w v l) (h' : Own B' e' w' v' l') (hlt : w.heap.size ≤ B') : v.ownBlock = none ∨ v.ownBlock ≠ v'.ownBlock := by
 cases hv : v.ownBlock with
 | none => exact .inl rfl
 | some k =>
  right
  intro hk
  have h1 := h.lt k hv
  have h2 := h'.lt k hk.symm
  omega

theorem Vy (w : World) (B : Nat) (e : TypeId) (n : Int) (hB : B ≤ w.heap.size) :
  Own B e (w.alloc (.cells #[.int .u8 (n / 256), .int .u8 (n % 256)] e)) (.slice (some ⟨w.heap.size, 0, none⟩) 2 2) [n / 256, n % 256] := B4 w B e [n / 256, n % 256] hB (by simp [maxLen])

def Bn (l : List Int) (n : Int) : List Int := if 0 ≤ n ∧ n ≤ 4294967295 then l ++ [n / 16777216, n / 65536 % 256, n / 256 % 256, n % 256] else l

theorem D6 (l : List Int) (n : Int) : (Bn l n).length ≤ l.length + 4 := by
 unfold Bn; split <;> simp

theorem Pb (w : World) (B : Nat) (e : TypeId) (n : Int) (hB : B ≤ w.heap.size) :
  Own B e (w.alloc (.cells #[.int .u8 (n / 16777216), .int .u8 (n / 65536 % 256), .int .u8 (n / 256 % 256), .int .u8 (n % 256)] e)) (.slice (some ⟨w.heap.size, 0, none⟩) 4 4) [n / 16777216, n / 65536 % 256, n / 256 % 256, n % 256] := B4 w B e [n / 16777216, n / 65536 % 256, n / 256 % 256, n % 256] hB (by simp [maxLen])

def Has (w : World) (v : Value) (l : List Int) : Prop :=
 (v = .slice none 0 0 ∧ l = []) ∨ ∃ g off cap, v = .slice (some ⟨g, off, none⟩) l.length cap ∧ g < w.heap.size ∧ l.length ≤ cap ∧ cap ≤ maxLen ∧ ∀ i, i < l.length → w.cell? ⟨g, off + i, none⟩ = some (.int .u8 (l.getD i 0))

theorem Own.has {B : Nat} {e : TypeId} {w : World} {v : Value} {l : List Int} (h : Own B e w v l) : Has w v l := by
 rcases h.form with h | ⟨g, cap, hv, _, hlt, hl, hm, hc, _⟩
 ·exact .inl h
 ·exact .inr ⟨g, 0, cap, hv, hlt, hl, hm, fun i hi => by rw [Nat.zero_add]; exact hc i hi⟩

theorem Has.reads {w : World} {v : Value} {l : List Int} (h : Has w v l) : Jr w v l := by
 rcases h with h | ⟨g, off, cap, hv, _, _, _, hc⟩
 ·exact .inl h
 ·exact .inr ⟨_, cap, hv, fun j hj => by rw [Addr.add_lit]; exact hc j hj⟩

theorem Has.below {w w' : World} {v : Value} {l : List Int} (h : Has w v l) (hb : Below w.heap.size w w') : Has w' v l := by
 rcases h with h | ⟨g, off, cap, hv, hlt, hl, hm, hc⟩
 ·exact .inl h
 ·exact .inr ⟨g, off, cap, hv, Nat.lt_of_lt_of_le hlt hb.size, hl, hm, fun i hi => (hb.cell (p := ⟨g, off + i, none⟩) hlt).trans (hc i hi)⟩

theorem Has.form {w : World} {v : Value} {l : List Int} (h : Has w v l) : ∃ a cap, v = .slice a l.length cap ∧ Lies w a l := by
 rcases h with ⟨rfl, rfl⟩ | ⟨g, off, cap, rfl, hlt, _, _, hc⟩
 ·exact ⟨none, 0, rfl, .inl rfl⟩
 ·exact ⟨_, cap, rfl, .inr ⟨g, off, rfl, hlt, hc⟩⟩

theorem Ph (w : World) (e : TypeId) (l : List Int) (fz : Nat × Nat) (hm : l.length ≤ maxLen) :
  Has (w.alloc (.cells (l.map (Value.int .u8)).toArray e fz)) (.slice (some ⟨w.heap.size, 0, none⟩) l.length l.length) l := by
 refine .inr ⟨w.heap.size, 0, l.length, rfl, by show w.heap.size < (w.heap.push _).size; simp, Nat.le_refl _, hm, fun i hi => ?_⟩
 have hh : (w.alloc (.cells (l.map (Value.int .u8)).toArray e fz)).heap[w.heap.size]? = some (.cells (l.map (Value.int .u8)).toArray e fz) := by
  show (w.heap.push _)[w.heap.size]? = _
  simp
 unfold World.cell?
 simp only [hh]
 rw [Nat.zero_add]
 simpa using Qh l i hi
end Go.Proofs.YtfneahdnpmamkaaGreat

namespace Go.Proofs.YtfneahdnpmamkaaGreat
open Go.RowKit

def Br (c : Int) : Bool := decide ((97 ≤ c ∧ c ≤ 122) ∨ (48 ≤ c ∧ c ≤ 57) ∨ c = 45)

def Bd (l : List Int) : Bool := decide (1 ≤ l.length ∧ l.length ≤ 15 ∧ ∀ j, j < l.length → Br (l.getD j 0) = true)

theorem Ln {l : List Int} (h0 : 1 ≤ l.length) (h1 : l.length ≤ 15) (h : ∀ j, j < l.length → Br (l.getD j 0) = true) : Bd l = true := decide_eq_true ⟨h0, h1, h⟩
theorem Es {l : List Int} (h : ¬ (1 ≤ l.length ∧ l.length ≤ 15)) : Bd l = false := decide_eq_false fun h' => h ⟨h'.1, h'.2.1⟩
theorem Jn {l : List Int} {j : Nat} (hj : j < l.length) (h : Br (l.getD j 0) = false) : Bd l = false := decide_eq_false fun h' => by
 have := h'.2.2 j hj
 rw [h] at this
 cases this
theorem B6 {l : List Int} (h : Bd l = true) : 1 ≤ l.length ∧ l.length ≤ 15 := by
 have := of_decide_eq_true h
 exact ⟨this.1, this.2.1⟩

def Ag (n : List (List Int)) : Bool := decide (n.length ≤ 6 ∧ ∀ j, j < n.length → Bd (n.getD j []) = true)

theorem Ja {n : List (List Int)} (h1 : n.length ≤ 6) (h : ∀ j, j < n.length → Bd (n.getD j []) = true) : Ag n = true := decide_eq_true ⟨h1, h⟩
theorem Ly {n : List (List Int)} (h : 6 < n.length) : Ag n = false := decide_eq_false fun h' => by omega
theorem Js {n : List (List Int)} {j : Nat} (hj : j < n.length) (h : Bd (n.getD j []) = false) : Ag n = false := decide_eq_false fun h' => by
 have := h'.2 j hj
 rw [h] at this
 cases this
theorem Ai {n : List (List Int)} (h : Ag n = true) : n.length ≤ 6 ∧ ∀ j, j < n.length → Bd (n.getD j []) = true := of_decide_eq_true h

def Jq (w : World) (a : Option Addr) (n : List (List Int)) : Prop :=
 n = [] ∨ ∃ b off, a = some ⟨b, off, none⟩ ∧ b < w.heap.size ∧ ∀ i, i < n.length → ∃ ia ic, w.cell? ⟨b, off + i, none⟩ = some (.slice ia (n.getD i []).length ic) ∧ Lies w ia (n.getD i [])

theorem Jq.below {w w' : World} {a : Option Addr} {n : List (List Int)} (h : Jq w a n) (hb : Below w.heap.size w w') : Jq w' a n := by
 rcases h with rfl | ⟨b, off, rfl, hlt, hc⟩
 ·exact .inl rfl
 ·refine .inr ⟨b, off, rfl, Nat.lt_of_lt_of_le hlt hb.size, fun i hi => ?_⟩
  obtain ⟨ia, ic, h1, h2⟩ := hc i hi
  exact ⟨ia, ic, (hb.cell (p := ⟨b, off + i, none⟩) hlt).trans h1, h2.below hb⟩

theorem Jq.here {w : World} {a : Option Addr} {n : List (List Int)} (h : Jq w a n) {k : Nat} (hk : k < n.length) :
  ∃ b off ia ic, a = some ⟨b, off, none⟩ ∧ b < w.heap.size ∧ w.cell? ⟨b, off + k, none⟩ = some (.slice ia (n.getD k []).length ic) ∧ Lies w ia (n.getD k []) := by
 rcases h with rfl | ⟨b, off, rfl, hlt, hc⟩
 ·simp at hk
 ·obtain ⟨ia, ic, h1, h2⟩ := hc k hk
  exact ⟨b, off, ia, ic, rfl, hlt, h1, h2⟩

def HasL (w : World) (v : Value) (n : List (List Int)) : Prop :=
 (v = .slice none 0 0 ∧ n = []) ∨ ∃ g off cap, v = .slice (some ⟨g, off, none⟩) n.length cap ∧ g < w.heap.size ∧ n.length ≤ cap ∧ cap ≤ maxLen ∧
  ∀ i, i < n.length → ∃ u, w.cell? ⟨g, off + i, none⟩ = some u ∧ Has w u (n.getD i [])

theorem HasL.below {w w' : World} {v : Value} {n : List (List Int)} (h : HasL w v n) (hb : Below w.heap.size w w') : HasL w' v n := by
 rcases h with h | ⟨g, off, cap, hv, hlt, hl, hm, hc⟩
 ·exact .inl h
 ·refine .inr ⟨g, off, cap, hv, Nat.lt_of_lt_of_le hlt hb.size, hl, hm, fun i hi => ?_⟩
  obtain ⟨u, h1, h2⟩ := hc i hi
  exact ⟨u, (hb.cell (p := ⟨g, off + i, none⟩) hlt).trans h1, h2.below hb⟩

theorem HasL.here {w : World} {a : Option Addr} {len cap : Nat} {n : List (List Int)} (h : HasL w (.slice a len cap) n) {k : Nat} (hk : k < n.length) :
  ∃ b off u, a = some ⟨b, off, none⟩ ∧ b < w.heap.size ∧ w.cell? ⟨b, off + k, none⟩ = some u ∧ Has w u (n.getD k []) := by
 rcases h with ⟨_, rfl⟩ | ⟨g, off, cap, hv, hlt, _, _, hc⟩
 ·simp at hk
 ·simp only [Value.slice.injEq] at hv
  obtain ⟨u, h1, h2⟩ := hc k hk
  exact ⟨g, off, u, hv.1, hlt, h1, h2⟩

theorem HasL.form {w : World} {v : Value} {n : List (List Int)} (h : HasL w v n) : ∃ a cap, v = .slice a n.length cap ∧ n.length ≤ cap ∧ cap ≤ maxLen := by
 rcases h with ⟨rfl, rfl⟩ | ⟨g, off, cap, rfl, _, hl, hm, _⟩
 ·exact ⟨none, 0, rfl, Nat.le_refl _, Nat.zero_le _⟩
 ·exact ⟨_, cap, rfl, hl, hm⟩

theorem Has.bound {w : World} {v : Value} {l : List Int} (h : Has w v l) : l.length ≤ maxLen := by
 rcases h with ⟨_, rfl⟩ | ⟨_, _, _, _, _, hl, hm, _⟩
 ·exact Nat.zero_le _
 ·omega

def OwnL (B : Nat) (el eb : TypeId) (w : World) (v : Value) (n : List (List Int)) : Prop :=
 ∃ vs : List Value, w.ownsRow B el 1 v n.length vs ∧ (∀ i, i < n.length → ∃ u, vs[i]? = some u ∧ Own B eb w u (n.getD i [])) ∧
  ∀ (i j : Nat) (u u' : Value), i < j → vs[i]? = some u → vs[j]? = some u' → u.ownBlock = none ∨ u.ownBlock ≠ u'.ownBlock

theorem OwnL.hasL {B : Nat} {el eb : TypeId} {w : World} {v : Value} {n : List (List Int)} (h : OwnL B el eb w v n) : HasL w v n := by
 obtain ⟨vs, ho, hu, _⟩ := h
 have ho' := ho
 rcases ho.2 with ⟨rfl, hn⟩ | ⟨g, cap, cur, rfl, hb, hg, hn, hm, hs, ht⟩
 ·exact .inl ⟨rfl, List.eq_nil_of_length_eq_zero hn⟩
 ·refine .inr ⟨g, 0, cap, rfl, (ho'.lt g rfl).2, hn, hm, fun i hi => ?_⟩
  obtain ⟨u, h1, h2⟩ := hu i hi
  refine ⟨u, ?_, h2.has⟩
  rw [Nat.zero_add, World.ownsRow.cellAt ho' i (by omega), h1]

theorem OwnL.below {B : Nat} {el eb : TypeId} {w w' : World} {v : Value} {n : List (List Int)} (h : OwnL B el eb w v n) (hb : Below w.heap.size w w') : OwnL B el eb w' v n := by
 obtain ⟨vs, ho, hu, hd⟩ := h
 refine ⟨vs, World.ownsRow.kept ho (Ac hb) ?_, fun i hi => ?_, hd⟩
 ·cases hv : v.ownBlock with
  | none => exact .inl rfl
  | some k => exact .inr (by simp)
 ·obtain ⟨u, h1, h2⟩ := hu i hi
  exact ⟨u, h1, h2.below hb⟩

theorem UI {w : World} (o : Obj) : Below w.heap.size w (w.alloc o) := (Below.refl _ _).alloc (Nat.le_refl _) o

theorem Ab (w : World) (a : Addr) (v : Value) : w.grownBy (w.setCell a v) (some a.block) := by
 refine ⟨rfl, rfl, rfl, by simp [World.setCell], fun k hk hne => ?_⟩
 have : a.block ≠ k := fun e => hne (by rw [e])
 simp [World.setCell, Array.getElem?_modify, this]

theorem OwnL.kept {B q : Nat} {el eb : TypeId} {w w' : World} {v : Value} {n : List (List Int)} (h : OwnL B el eb w v n) (hg : w.grownBy w' (some q)) (hq : q < B) : OwnL B el eb w' v n := by
 obtain ⟨vs, ho, hu, hd⟩ := h
 refine ⟨vs, World.ownsRow.kept ho hg ?_, fun i hi => ?_, hd⟩
 ·cases hv : v.ownBlock with
  | none => exact .inl rfl
  | some k =>
   right
   intro e
   have := (World.ownsRow.lt ho k hv).1
   simp at e
   omega
 ·obtain ⟨u, h1, h2⟩ := hu i hi
  refine ⟨u, h1, h2.kept hg ?_⟩
  cases hv : u.ownBlock with
  | none => exact .inl rfl
  | some k =>
   right
   intro e
   have := (h2.lt k hv).1
   simp at e
   omega

theorem E9 {B B' : Nat} {e : TypeId} {w : World} {v : Value} {n : Nat} {xs : List Value} (h : w.ownsRow B e 1 v n xs) (hB : B' ≤ B) : w.ownsRow B' e 1 v n xs := by
 refine ⟨h.1, ?_⟩
 rcases h.2 with hn | ⟨g, cap, cur, hv, hb, rest⟩
 ·exact .inl hn
 ·exact .inr ⟨g, cap, cur, hv, Nat.le_trans hB hb, rest⟩

theorem OwnL.mono {B B' : Nat} {el eb : TypeId} {w : World} {v : Value} {n : List (List Int)} (h : OwnL B el eb w v n) (hB : B' ≤ B) : OwnL B' el eb w v n := by
 obtain ⟨vs, ho, hu, hd⟩ := h
 refine ⟨vs, E9 ho hB, fun i hi => ?_, hd⟩
 obtain ⟨u, h1, h2⟩ := hu i hi
 exact ⟨u, h1, h2.mono hB⟩

theorem box3 (w : World) (o : Obj) (c2 c3 : Array Value) (t2 t3 : TypeId) :
  (((w.alloc o).alloc (.cells c2 t2)).alloc (.cells c3 t3)).heap.size = w.heap.size + 3 ∧
  (((w.alloc o).alloc (.cells c2 t2)).alloc (.cells c3 t3)).heap[w.heap.size + 1]? = some (.cells c2 t2) ∧
  (((w.alloc o).alloc (.cells c2 t2)).alloc (.cells c3 t3)).heap[w.heap.size + 1 + 1]? = some (.cells c3 t3) := by
 have e1 : (w.alloc o).heap.size = w.heap.size + 1 := by show (w.heap.push o).size = _; simp
 have e2 : ((w.alloc o).alloc (.cells c2 t2)).heap.size = w.heap.size + 1 + 1 := by rw [← e1]; show ((w.alloc o).heap.push _).size = _; simp
 have e3 : (((w.alloc o).alloc (.cells c2 t2)).alloc (.cells c3 t3)).heap.size = w.heap.size + 1 + 1 + 1 := by rw [← e2]; show (((w.alloc o).alloc (.cells c2 t2)).heap.push _).size = _; simp
 refine ⟨e3, ?_, ?_⟩
 ·exact ((UI _).block _ (by rw [e2]; omega)).trans (by rw [← e1]; exact heap_alloc_new _ _)
 ·rw [← e2]; exact heap_alloc_new _ _

theorem VE {w : World} {b : Nat} {c : Array Value} {t : TypeId} (h : w.heap[b]? = some (.cells c t)) (i : Nat) : w.cell? ⟨b, i, none⟩ = c[i]? := by simp [World.cell?, h]
theorem VG {w : World} {b : Nat} {c : Array Value} {t : TypeId} (h : w.heap[b]? = some (.cells c t)) (i : Nat) : w.frozen? ⟨b, i, none⟩ = false := by simp [World.frozen?, h]
theorem Av {w : World} {b : Nat} {x : Value} {t : TypeId} (h : w.heap[b]? = some (.cells #[x] t)) (v : Value) : (w.setCell ⟨b, 0, none⟩ v).heap[b]? = some (.cells #[v] t) := by
 simp [World.setCell, Array.getElem?_modify, h]
theorem Dy {w : World} {b b' : Nat} {o : Option Obj} (h : w.heap[b]? = o) (hne : b' ≠ b) (i : Nat) (v : Value) : (w.setCell ⟨b', i, none⟩ v).heap[b]? = o := by
 simp [World.setCell, Array.getElem?_modify, hne, h]

theorem UX {w : World} : Below w.heap.size w w.drew := ⟨rfl, rfl, rfl, Nat.le_refl _, fun _ _ => rfl⟩

theorem US {w : World} {b : Nat} {v : Value} {t : TypeId} (h : w.heap[b]? = some (.cells #[v] t)) : w.cell? ⟨b, 0, none⟩ = some v := by rw [VE h]; rfl
theorem VC {w : World} {b : Nat} {o : Obj} (h : w.heap[b]? = some o) : b < w.heap.size := (Array.getElem?_eq_some_iff.1 h).1
theorem UE {w w' : World} {b : Nat} {o : Obj} (hb : Below w.heap.size w w') (h : w.heap[b]? = some o) : w'.heap[b]? = some o := (hb.block b (VC h)).trans h
end Go.Proofs.YtfneahdnpmamkaaGreat

namespace Go.Proofs.YtfneahdnpmamkaaGreat
open Go.RowKit Go.ChangeShapes Go.WideShapes Go.ChangeAt

theorem Vv {H : Type} {enc : TypeId × Value → H} {P : Program} {w : World} {sp : Nat → Bool} {held : Bool} {t e : TypeId} {fuel : Nat} {v : Value} {x : DataW H × List MemPlace}
  (ht : P.underlying t = some (.slice e)) (he : P.underlying e = some (.int .u8)) (hc : P.cellsOf e = 1) (hsp : ∀ b, sp b = true) (h : DataW.trod enc P w 0 sp held fuel t [v] = some x) :
  ∃ (a : Option Addr) (cap : Nat) (l : List Int), v = .slice a l.length cap ∧ l.length ≤ maxLen ∧ Lies w a l ∧ ∀ k, 0 ≤ l.getD k 0 ∧ l.getD k 0 ≤ 255 := by
 have key : ∃ a len cap zs, v = .slice a len cap ∧ IsRow .u8 w a len cap zs := by
  rcases open_ints ht he hc h with ⟨hcs, _⟩ | ⟨x, l, c, zs, hcs, _, hl, hm, hz, _, hcell, hwz⟩
  ·simp at hcs
   exact ⟨none, 0, 0, [], hcs, .inl ⟨rfl, rfl, rfl, rfl⟩⟩
  ·simp at hcs
   exact ⟨some x, l, c, zs, hcs, .inr ⟨_, rfl, hl, hm, by simpa [hsp] using hz, hcell, hwz⟩⟩
 obtain ⟨a, len, cap, zs, rfl, hr⟩ := key
 obtain ⟨l, rfl, hm, hL, hb⟩ := Tq hr
 exact ⟨a, cap, l, rfl, hm, hL, hb⟩

end Go.Proofs.YtfneahdnpmamkaaGreat

namespace Go.Proofs.YtfneahdnpmamkaaGreat

def Dn : List Char := [Char.ofNat 99, Char.ofNat 117, Char.ofNat 116]
theorem Yq : (Dn == "gc".toList) = false := by kernel_rfl
theorem Q7 : (Dn == "spec".toList) = false := by kernel_rfl
theorem S9 : (Dn == "carried".toList) = false := by kernel_rfl
theorem cut_cut : (Dn == "cut".toList) = true := by kernel_rfl
theorem Se (W : List (List Char)) : (List.head? (Dn :: W) == some "cut".toList) = true := by kernel_rfl
theorem Qq (W : List (List Char)) : (List.head? (Dn :: W) == some "carried".toList) = false := by kernel_rfl
theorem Pj (W : List (List Char)) : stripLifts liftWords (Dn :: W) = ([], Dn :: W) := by kernel_rfl

theorem Zm {P : Program} {l : List Char} {W : List (List Char)} (h : P.initOrder.toList = l) (hw : behindMainWord (wordsSigns l) = Dn :: W) (h1 : P.laysLater = false) (h2 : P.bearsReflect = false) (h3 : P.doorFits [] = true) : P.mayEnter = true := by
 unfold Program.mayEnter
 rw [h, hw]
 simp only [Pj, h1, h2, h3, Yq, Q7, S9, Se]
 rfl
theorem Zl {P : Program} {l : List Char} {W : List (List Char)} (h : P.initOrder.toList = l) (hw : behindMainWord (wordsSigns l) = Dn :: W) : P.liftsFinal = false := by
 unfold Program.liftsFinal Program.headLifts
 rw [h, hw]
 simp only [Pj, Qq, Se]
 rfl
theorem make_of {P : Program} {l : List Char} {W : List (List Char)} (h : P.initOrder.toList = l) (hw : behindMainWord (wordsSigns l) = Dn :: W) : P.make = some .cut := by
 unfold Program.make
 rw [h, hw]
 simp only [Yq, Q7, cut_cut]
 rfl

def Y5 : List Char := [104, 97, 114, 110, 101, 115, 115, 32, 49, 54, 49, 52, 97, 56, 53, 99, 101, 102, 51, 55, 101, 51, 97, 50, 50, 54, 55, 51, 54, 55, 97, 56, 97, 98, 101, 102, 49, 49, 48, 56, 99, 102, 53, 99, 56, 55, 49, 49, 100, 57, 48, 48, 49, 100, 53, 102, 55, 55, 51, 99, 51, 98, 52, 51, 52, 98, 98, 51, 97, 98, 50, 51, 32, 99, 117, 116, 32].map Char.ofNat
def Rd : List Char := [97, 116, 32, 108, 111, 111, 112, 46, 101, 120, 97, 109, 112, 108, 101, 47, 103, 48, 48, 52, 50, 50, 47, 108, 97, 119, 115, 46, 70, 110, 79, 119, 110, 101, 114, 115].map Char.ofNat
theorem Wc : Tryz.prog.initOrder = String.ofList (Y5 ++ Rd) := by kernel_rfl
theorem Kt : Tryz.prog.initOrder.toList = Y5 ++ Rd := by rw [Wc, String.toList_ofList]
theorem J9 (R : List Char) : behindMainWord (wordsSigns (Y5 ++ R)) = Dn :: wordsSigns R := by kernel_rfl
theorem c_laid : laidOutB Tryz.prog = true := by kernel_rfl
theorem c_maps : mapsRowed Tryz.prog = true := by kernel_rfl
theorem c_stops : (Tryz.prog.stops == []) = true := by kernel_rfl
theorem Z8 : (Tryz.prog.stopKnobs == []) = true := by kernel_rfl
theorem c_heard : Tryz.prog.stopsHeard = true := by kernel_rfl
theorem Zq : Tryz.prog.laysLater = false := by kernel_rfl
theorem Ww : Tryz.prog.bearsReflect = false := by kernel_rfl
theorem c_door : Tryz.prog.doorFits [] = true := by kernel_rfl
theorem c_keys : Tryz.prog.plainKeys = true := by kernel_rfl
theorem c_enter : Tryz.prog.mayEnter = true := Zm Kt (J9 Rd) Zq Ww c_door
theorem Z1 : Tryz.prog.liftsFinal = false := Zl Kt (J9 Rd)
theorem c_make : Tryz.prog.make = some .cut := make_of Kt (J9 Rd)

theorem both {a b : Bool} (h : a = true) (k : b = true) : (a && b) = true := by rw [h, k]; rfl

set_option maxRecDepth 100000 in
theorem Wk {f : FuncId} {fn : Func} {s : ChangeSpec} {c : OpenClaim} (k1 : c.wf (OpenSpec.ofChange s) = true) (k4 : fn.params.all (Tryz.prog.readableRec ·) = true) (k5 : namedTie Tryz.prog c.named s.vars = true) (k6 : (c.stops == []) = true) (k8 : (c.knobs == []) = true)
  (k10 : (c.inPlace == Tryz.prog.inPlace f) = true) (k11 : (c.unfollowed == Tryz.prog.unfollowed f) = true) (k12 : (c.recurses == Tryz.prog.recurses f) = true) (k13 : (c.named == Tryz.prog.varsNamed f) = true)
  (k14 : (c.maps == (fn.params.toList ++ s.plain.varTypes Tryz.prog).any (Tryz.prog.mapsRec ·)) = true) (k15 : (c.ifaces == (fn.params.toList ++ s.plain.varTypes Tryz.prog).any (Tryz.prog.ifacesRec ·)) = true) (k16 : (c.mapsOut == Tryz.prog.mapsAmong fn.resultTypes.toList) = true)
  (k17 : (c.loops == (fn.params.toList ++ s.plain.varTypes Tryz.prog).any (Tryz.prog.loopsFrom ·)) = true) (k17b : (c.wideKeys == (fn.params.toList ++ s.plain.varTypes Tryz.prog ++ fn.resultTypes.toList).any (Tryz.prog.wideKeysFrom ·)) = true)
  (k18 : s.vars.all (Tryz.prog.varReadable ·) = true) (k19 : fn.resultTypes.all (fun t => Tryz.prog.readableRec t && decide (t < Tryz.prog.types.size)) = true) (k20 : (c.ifacesOut == fn.resultTypes.toList.any (Tryz.prog.ifacesRec ·)) = true) (k21 : (c.loopsOut == fn.resultTypes.toList.any (Tryz.prog.loopsFrom ·)) = true)
  (k22 : c.plainKeys = true) (k23 : c.shortTexts.isNone = true) (k24b : c.lifted = false) (k24c : c.make = .cut)
  (k25 : (c.kinds == (if c.domain.isEmpty then [] else fn.params.toList.map fun t => match Tryz.prog.underlying t with | some (.int k) => some k | _ => none)) = true) (k26 : (c.pinned == c.pinnedBy) = true)
  (k27 : (c.veiled == (fn.params.toList ++ s.plain.varTypes Tryz.prog ++ fn.resultTypes.toList).any (Tryz.prog.veiledRec ·)) = true) (k28 : c.veiledFits Tryz.prog fn.params.toList (fn.params.toList ++ s.plain.varTypes Tryz.prog ++ fn.resultTypes.toList) = true) :
  joinedFacts Tryz.prog f fn s c = true := by
 have e22 : (c.plainKeys == Tryz.prog.plainKeys) = true := by rw [k22, c_keys]; rfl
 have e24b : (c.lifted == Tryz.prog.liftsFinal) = true := by rw [k24b, Z1]; rfl
 have e24c : (Tryz.prog.make == some c.make) = true := by rw [k24c, c_make]; rfl
 unfold joinedFacts
 exact both (both (both (both (both (both (both (both (both (both (both (both (both (both (both (both (both (both (both (both (both (both (both (both (both (both (both (both (both (both (both k1 c_laid) c_maps) k4) k5) k6) c_stops) k8) Z8) k10) k11) k12) k13) k14) k15) k16) k17) k17b) k18) k19) k20) k21) e22) k23) c_heard) c_enter) e24b) e24c) k25) k26) k27) k28
end Go.Proofs.YtfneahdnpmamkaaGreat

namespace Go.Proofs.YtfneahdnpmamkaaGreat
open Go.RowKit

def low (x : Int) : Int := if 65 ≤ x ∧ x ≤ 90 then x + 32 else x
def Bi (l : List Int) (k : Nat) : List Int := (List.range l.length).map fun (j : Nat) => if j < k then low (l.getD j 0) else l.getD j 0

theorem Hu (l : List Int) (k : Nat) : (Bi l k).length = l.length := by simp [Bi]
theorem Qc (l : List Int) : Bi l 0 = l := by
 apply List.ext_getElem?
 intro j
 by_cases hj : j < l.length <;> simp [Bi, hj]
theorem Qt (l : List Int) (k i : Nat) (h : k ≤ i) : (Bi l k).getD i 0 = l.getD i 0 := by
 by_cases hi : i < l.length
 ·simp [Bi, hi, Nat.not_lt.2 h]
 ·simp [Bi, hi]
theorem Qr (l : List Int) (k : Nat) : (Bi l k).set k (low (l.getD k 0)) = Bi l (k + 1) := by
 apply List.ext_getElem?
 intro j
 rw [List.getElem?_set]
 by_cases hj : j < l.length
 ·by_cases e : k = j
  ·subst e; simp [Bi, hj]
  ·have : j < k + 1 ↔ j < k := by omega
   simp [Bi, hj, e, this]
 ·simp [Bi, hj]
  omega
theorem Ze (x : Int) (h : x < 65 ∨ 90 < x) : low x = x := by unfold low; rw [if_neg (by omega)]
theorem Vq (x : Int) (h : 65 ≤ x) (h' : x ≤ 90) : low x = x + 32 := by unfold low; rw [if_pos ⟨h, h'⟩]
theorem Qk (l : List Int) (k k' : Nat) (hk : k ≤ k') (h : ∀ j, k ≤ j → j < k' → l.getD j 0 < 65 ∨ 90 < l.getD j 0) : Bi l k' = Bi l k := by
 unfold Bi
 apply List.map_congr_left
 intro j hj
 by_cases h1 : j < k
 ·rw [if_pos h1, if_pos (by omega)]
 ·rw [if_neg h1]
  by_cases h2 : j < k'
  ·rw [if_pos h2, Ze _ (h j (by omega) h2)]
  ·rw [if_neg h2]

end Go.Proofs.YtfneahdnpmamkaaGreat

namespace Go.Proofs.YtfneahdnpmamkaaGreat
set_option linter.unusedVariables false

def Dd (l : List Int) : Prop := ∀ k, 0 ≤ l.getD k 0 ∧ l.getD k 0 ≤ 255

end Go.Proofs.YtfneahdnpmamkaaGreat
