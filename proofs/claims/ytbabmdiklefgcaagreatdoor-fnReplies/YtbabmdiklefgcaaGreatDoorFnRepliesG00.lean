/-
  Plain facts on worlds and lists of bytes: a slice of bytes that reads as a list, one that owns its row, and how both fare as the world goes on. No program is named here. Steps of a region that draws its order: an append to a row of the call's own. No program is named here. What is known of the type byte in this program. Contracts of the specification's cursor over the bytes of a draw (l1New, l1Byte, l1Below, l1Once, l1PickInt, l1some): what is drawn is within its bounds; nothing but the cursor's own block is written.
-/
import Derived.WalkKit
import Derived.WalkSpells
import Derived.Deep.OwnRows
import Derived.Below
import Derived.Laws.AppendOwnNone
import Derived.BigQuiet
import Derived.Deep.QuietTactic
import Derived.Deep.RegionLaw
import Derived.Test.YtbabmdiklefgcaaGreatDoorProg
namespace Go.Proofs.YtbabmdiklefgcaaGreatDoor
open Go.RowKit

theorem UC {p : Prop} (h : p) : Hid p := h
theorem UB {p : Prop} (h : Hid p) : p := h

def Lies (w : World) (a : Option Addr) (l : List Int) : Prop :=
 l = [] ∨ ∃ b off, a = some ⟨b, off, none⟩ ∧ b < w.heap.size ∧ ∀ i, i < l.length → w.cell? ⟨b, off + i, none⟩ = some (.int .u8 (l.getD i 0))

def Own (B : Nat) (e : TypeId) (w : World) (v : Value) (l : List Int) : Prop := w.ownsRow B e 1 v l.length (l.map (Value.int .u8))

theorem Lies.below {w w' : World} {a : Option Addr} {l : List Int} (h : Lies w a l) (hb : Below w.heap.size w w') : Lies w' a l := by
 rcases h with rfl | ⟨b, off, rfl, hlt, hc⟩
 ·exact .inl rfl
 ·exact .inr ⟨b, off, rfl, Nat.lt_of_lt_of_le hlt hb.size, fun i hi => (hb.cell (p := ⟨b, off + i, none⟩) hlt).trans (hc i hi)⟩

theorem Lies.cell {w w' : World} {a : Option Addr} {l : List Int} (h : Lies w a l) (hb : Below w.heap.size w w') {k : Nat} (hk : k < l.length) :
  ∃ b off, a = some ⟨b, off, none⟩ ∧ b < w.heap.size ∧ w'.cell? ⟨b, off + k, none⟩ = some (.int .u8 (l.getD k 0)) := by
 rcases h with rfl | ⟨b, off, rfl, hlt, hc⟩
 ·simp at hk
 ·exact ⟨b, off, rfl, hlt, (hb.cell (p := ⟨b, off + k, none⟩) hlt).trans (hc k hk)⟩

theorem Lies.here {w : World} {a : Option Addr} {l : List Int} (h : Lies w a l) {k : Nat} (hk : k < l.length) :
  ∃ b off, a = some ⟨b, off, none⟩ ∧ b < w.heap.size ∧ w.cell? ⟨b, off + k, none⟩ = some (.int .u8 (l.getD k 0)) := h.cell (Below.refl _ _) hk

theorem map_at (l : List Int) (j : Nat) (hj : j < l.length) : (l.map (Value.int .u8))[j]? = some (.int .u8 (l.getD j 0)) := by
 simp [hj]

section
variable {B : Nat} {e : TypeId} {w w' : World} {v : Value} {l : List Int}

theorem Own.form (h : Own B e w v l) : (v = .slice none 0 0 ∧ l = []) ∨
  ∃ g cap, v = .slice (some ⟨g, 0, none⟩) l.length cap ∧ B ≤ g ∧ g < w.heap.size ∧ l.length ≤ cap ∧ cap ≤ maxLen ∧
   (∀ i, i < l.length → w.cell? ⟨g, i, none⟩ = some (.int .u8 (l.getD i 0))) ∧ ∀ i, w.frozen? ⟨g, i, none⟩ = false := by
 have h' := h
 rcases h.2 with ⟨rfl, hn⟩ | ⟨g, cap, cur, rfl, hb, hg, hn, hm, hs, ht⟩
 ·exact .inl ⟨rfl, List.eq_nil_of_length_eq_zero hn⟩
 ·refine .inr ⟨g, cap, rfl, hb, (h'.lt g rfl).2, hn, hm, fun i hi => ?_, fun i => World.ownsRow.frozenAt h' i⟩
  rw [World.ownsRow.cellAt h' i (by omega), map_at l i hi]

theorem Own.lies (h : Own B e w v l) : ∃ a cap, v = .slice a l.length cap ∧ Lies w a l := by
 rcases h.form with ⟨rfl, rfl⟩ | ⟨g, cap, rfl, _, hlt, _, _, hc, _⟩
 ·exact ⟨none, 0, rfl, .inl rfl⟩
 ·exact ⟨_, cap, rfl, .inr ⟨g, 0, rfl, hlt, fun i hi => by simpa using hc i hi⟩⟩

theorem Own.mono {B' : Nat} (h : Own B e w v l) (hB : B' ≤ B) : Own B' e w v l := by
 refine ⟨h.1, ?_⟩
 rcases h.2 with hn | ⟨g, cap, cur, hv, hb, rest⟩
 ·exact .inl hn
 ·exact .inr ⟨g, cap, cur, hv, Nat.le_trans hB hb, rest⟩

theorem Own.lt (h : Own B e w v l) : ∀ k, v.ownBlock = some k → B ≤ k ∧ k < w.heap.size := World.ownsRow.lt h

theorem Own.kept {row : Option Nat} (h : Own B e w v l) (hg : w.grownBy w' row) (hne : v.ownBlock = none ∨ v.ownBlock ≠ row) : Own B e w' v l := World.ownsRow.kept h hg hne

theorem grown_of_below (hb : Below w.heap.size w w') : w.grownBy w' none := ⟨hb.os, hb.tape, hb.output, hb.size, fun k hk _ => hb.block k hk⟩
theorem below_of_grown (hb : w.grownBy w' none) : Below w.heap.size w w' := ⟨hb.os, hb.tape, hb.output, hb.size, fun k hk => hb.block k hk (by simp)⟩

theorem grown_trans {a b c : World} {row : Option Nat} (h : a.grownBy b row) (k : b.grownBy c row) : a.grownBy c row :=
 ⟨k.os.trans h.os, k.tape.trans h.tape, k.output.trans h.output, Nat.le_trans h.size k.size, fun i hi hn => (k.block i (Nat.lt_of_lt_of_le hi h.size) hn).trans (h.block i hi hn)⟩

theorem below_draws {w : World} (n : Nat) : Below w.heap.size w (w.drewN n) := ⟨rfl, rfl, rfl, Nat.le_refl _, fun _ _ => rfl⟩
theorem UG {a b c : World} (h : Below a.heap.size a b) (k : Below b.heap.size b c) : Below a.heap.size a c := h.trans (k.mono h.size)

theorem Own.below (h : Own B e w v l) (hb : Below w.heap.size w w') : Own B e w' v l := by
 refine h.kept (grown_of_below hb) ?_
 cases hv : v.ownBlock with
 | none => exact .inl rfl
 | some k => exact .inr (by simp)

end

def marked (l : List Int) (k : Int) (m : Nat) : List Int := (List.range l.length).map fun (j : Nat) => if j < m then (k + j) % 256 else l.getD j 0

theorem wrap_small (n : Nat) (h : n < 9223372036854775808) : IntKind.i64.wrap (n : Int) = (n : Int) := by
 have e : (n : Int) % 2 ^ 64 = n := Int.emod_eq_of_lt (by omega) (by omega)
 simp only [IntKind.wrap, IntKind.bits, IntKind.signed, e]
 rw [if_neg]
 simp
 omega

theorem ret_int {k : IntKind} {a b : Int} (h : a = b) : Ending.returned (.int k a) = .returned (.int k b) := by rw [h]

def IsRow (k : IntKind) (w : World) (a : Option Addr) (len cap : Nat) (zs : List Int) : Prop :=
 (a = none ∧ len = 0 ∧ cap = 0 ∧ zs = []) ∨
 ∃ x, a = some x ∧ len ≤ cap ∧ cap ≤ maxLen ∧ zs.length = cap ∧ (∀ i, i < zs.length → w.cell? (x.add i) = some (.int k (zs.getD i 0))) ∧ ∀ n ∈ zs, (Lit.int k n).wf = true

theorem cell_lt {w : World} {a : Addr} {v : Value} (h : w.cell? a = some v) : a.block < w.heap.size := by
 by_cases hb : a.block < w.heap.size
 ·exact hb
 ·have hn : w.heap[a.block]? = none := by simp; omega
  simp [World.cell?, hn] at h

theorem isRow_lies {w : World} {a : Option Addr} {len cap : Nat} {zs : List Int} (h : IsRow .u8 w a len cap zs) :
  ∃ l : List Int, l.length = len ∧ len ≤ maxLen ∧ Lies w a l ∧ ∀ k, 0 ≤ l.getD k 0 ∧ l.getD k 0 ≤ 255 := by
 rcases h with ⟨rfl, rfl, rfl, rfl⟩ | ⟨x, rfl, hl, hm, hz, hcell, hwf⟩
 ·exact ⟨[], rfl, Nat.zero_le _, .inl rfl, by simp⟩
 ·refine ⟨zs.take len, by simp; omega, by omega, ?_, ?_⟩
  ·by_cases h0 : len = 0
   ·subst h0; exact .inl (by simp)
   ·right
    obtain ⟨b, off, spot⟩ := x
    have hc := hcell 0 (by omega)
    have hspot : spot = none := by simpa [Addr.add] using World.cell?_spot hc
    subst hspot
    refine ⟨b, off, rfl, cell_lt hc, fun i hi => ?_⟩
    simp at hi
    have hci := hcell i (by omega)
    rw [Addr.add_lit] at hci
    rw [hci, List.getD_eq_getElem?_getD, List.getD_eq_getElem?_getD, List.getElem?_take, if_pos (by omega)]
  ·intro k
   by_cases hk : k < (zs.take len).length
   ·have hmem : (zs.take len).getD k 0 ∈ zs := by
     rw [List.getD_eq_getElem?_getD, List.getElem?_eq_getElem hk, Option.getD_some]
     exact List.mem_of_mem_take (List.getElem_mem hk)
    simpa [Lit.wf, IntKind.min, IntKind.max, IntKind.signed, IntKind.bits] using hwf _ hmem
   ·rw [List.getD_eq_getElem?_getD, List.getElem?_eq_none (by omega)]
    simp

def Reads (w : World) (v : Value) (m : List Int) : Prop :=
 (v = .slice none 0 0 ∧ m = []) ∨ ∃ ad cap, v = .slice (some ad) m.length cap ∧ ∀ j, j < m.length → w.cell? (ad.add j) = some (.int .u8 (m.getD j 0))

theorem Own.reads {B : Nat} {e : TypeId} {w : World} {v : Value} {l : List Int} (h : Own B e w v l) : Reads w v l := by
 rcases h.form with h | ⟨g, cap, hv, _, _, _, _, hc, _⟩
 ·exact .inl h
 ·exact .inr ⟨_, cap, hv, fun j hj => by rw [Addr.add_lit, Nat.zero_add]; exact hc j hj⟩

theorem news_of {w : World} {ad : Addr} {l : List Int} (hc : ∀ j, j < l.length → w.cell? (ad.add j) = some (.int .u8 (l.getD j 0))) : ∀ j u, (l.map (Value.int .u8))[j]? = some u → w.cell? (ad.add j) = some u := by
 intro j u hj
 by_cases h : j < l.length
 ·rw [map_at l j h] at hj
  rw [← hj]; exact hc j h
 ·simp [h] at hj

theorem one_of (l : List Int) : ∀ u ∈ l.map (Value.int .u8), u.oneCell' = true := by
 intro u hu
 obtain ⟨x, _, rfl⟩ := List.mem_map.1 hu
 rfl

theorem own_lit (w : World) (B : Nat) (e : TypeId) (l : List Int) (hB : B ≤ w.heap.size) (hm : l.length ≤ maxLen) :
  Own B e (w.alloc (.cells (l.map (Value.int .u8)).toArray e)) (.slice (some ⟨w.heap.size, 0, none⟩) l.length l.length) l := by
 have h := World.ownsRow_lit (base := B) (e := e) (size := 1) w (l.map (Value.int .u8)).toArray l.length hB hm (by simp)
 simpa [Own] using h

theorem Own.alloc {B : Nat} {e : TypeId} {w : World} {v : Value} {l : List Int} (h : Own B e w v l) (o : Obj) : Own B e (w.alloc o) v l := World.ownsRow.alloc h o

theorem append_bytes {P : Program} {w : World} {ops : Array Oper} {rest : List Oper} {o : Oper} {a : Act} {Q : Exit → Act → World → Prop} (hgd : o.guard = none) (s x : Operand) (t e : TypeId)
  (ho : o.op = .call { callee := .builtin .append, args := #[s, x], argTypes := #[t, t] }) (ht : P.underlying t = some (.slice e))
  (hinfo : (P.info? e).map (fun i => (i.zero, i.size, i.bytes)) = some (some (.int .u8 0), 1, 1))
  (base : Nat) (v vx : Value) (l m : List Int) (hs : a.eval s = v) (hx : a.eval x = vx) (hown : Own base e w v l) (hr : Reads w vx m) (hlen : l.length + m.length ≤ 1099511627776) (hbase : base ≤ w.heap.size)
  (h : ∀ v' w', Own base e w' v' (l ++ m) → w.grownBy w' v.ownBlock → wpList P ops Q rest (a.put o.dst v') w') : wpList P ops Q (o :: rest) a w := by
 obtain ⟨i0, hi, hz0, hz1, hz2⟩ := info_parts hinfo
 rcases hr with ⟨rfl, rfl⟩ | ⟨ad, cap, rfl, hc⟩
 ·refine wpList_append_own_none hgd s x t ho base e i0 1 ht hi v l.length (l.map (Value.int .u8)) hs hown hx ?_
  exact h v w (by simpa using hown) ⟨rfl, rfl, rfl, Nat.le_refl _, fun _ _ _ => rfl⟩
 ·refine wpList_append_own w hgd s x t ho base e i0 (.int .u8 0) 1 1 ht hi hz0 hz1 hz2 rfl (by decide) v l.length (l.map (Value.int .u8)) hs hown ad m.length cap (m.map (Value.int .u8)) hx (by simp) (news_of hc) (one_of m) (by unfold maxLen; omega) (by omega) hbase ?_
  intro v' w' ho' hg _
  exact h v' w' (by simpa [Own] using ho') hg

theorem own_apart {B B' : Nat} {e e' : TypeId} {w w' : World} {v v' : Value} {l l' : List Int} (h : Own B e w v l) (h' : Own B' e' w' v' l') (hlt : w.heap.size ≤ B') : v.ownBlock = none ∨ v.ownBlock ≠ v'.ownBlock := by
 cases hv : v.ownBlock with
 | none => exact .inl rfl
 | some k =>
  right
  intro hk
  have h1 := h.lt k hv
  have h2 := h'.lt k hk.symm
  omega

def put16 (l : List Int) (n : Int) : List Int := if 0 ≤ n ∧ n ≤ 65535 then l ++ [n / 256, n % 256] else l

theorem put16_length (l : List Int) (n : Int) : (put16 l n).length ≤ l.length + 2 := by
 unfold put16; split <;> simp

theorem own_put16 (w : World) (B : Nat) (e : TypeId) (n : Int) (hB : B ≤ w.heap.size) :
  Own B e (w.alloc (.cells #[.int .u8 (n / 256), .int .u8 (n % 256)] e)) (.slice (some ⟨w.heap.size, 0, none⟩) 2 2) [n / 256, n % 256] := own_lit w B e [n / 256, n % 256] hB (by simp [maxLen])

def put32 (l : List Int) (n : Int) : List Int := if 0 ≤ n ∧ n ≤ 4294967295 then l ++ [n / 16777216, n / 65536 % 256, n / 256 % 256, n % 256] else l

theorem put32_length (l : List Int) (n : Int) : (put32 l n).length ≤ l.length + 4 := by
 unfold put32; split <;> simp

theorem own_put32 (w : World) (B : Nat) (e : TypeId) (n : Int) (hB : B ≤ w.heap.size) :
  Own B e (w.alloc (.cells #[.int .u8 (n / 16777216), .int .u8 (n / 65536 % 256), .int .u8 (n / 256 % 256), .int .u8 (n % 256)] e)) (.slice (some ⟨w.heap.size, 0, none⟩) 4 4) [n / 16777216, n / 65536 % 256, n / 256 % 256, n % 256] := own_lit w B e [n / 16777216, n / 65536 % 256, n / 256 % 256, n % 256] hB (by simp [maxLen])

def Has (w : World) (v : Value) (l : List Int) : Prop :=
 (v = .slice none 0 0 ∧ l = []) ∨ ∃ g off cap, v = .slice (some ⟨g, off, none⟩) l.length cap ∧ g < w.heap.size ∧ l.length ≤ cap ∧ cap ≤ maxLen ∧ ∀ i, i < l.length → w.cell? ⟨g, off + i, none⟩ = some (.int .u8 (l.getD i 0))

theorem Own.has {B : Nat} {e : TypeId} {w : World} {v : Value} {l : List Int} (h : Own B e w v l) : Has w v l := by
 rcases h.form with h | ⟨g, cap, hv, _, hlt, hl, hm, hc, _⟩
 ·exact .inl h
 ·exact .inr ⟨g, 0, cap, hv, hlt, hl, hm, fun i hi => by rw [Nat.zero_add]; exact hc i hi⟩

theorem Has.reads {w : World} {v : Value} {l : List Int} (h : Has w v l) : Reads w v l := by
 rcases h with h | ⟨g, off, cap, hv, _, _, _, hc⟩
 ·exact .inl h
 ·exact .inr ⟨_, cap, hv, fun j hj => by rw [Addr.add_lit]; exact hc j hj⟩

theorem Has.below {w w' : World} {v : Value} {l : List Int} (h : Has w v l) (hb : Below w.heap.size w w') : Has w' v l := by
 rcases h with h | ⟨g, off, cap, hv, hlt, hl, hm, hc⟩
 ·exact .inl h
 ·exact .inr ⟨g, off, cap, hv, Nat.lt_of_lt_of_le hlt hb.size, hl, hm, fun i hi => (hb.cell (p := ⟨g, off + i, none⟩) hlt).trans (hc i hi)⟩

theorem Has.form {w : World} {v : Value} {l : List Int} (h : Has w v l) : ∃ a cap, v = .slice a l.length cap ∧ Lies w a l := by
 rcases h with ⟨rfl, rfl⟩ | ⟨g, off, cap, rfl, hlt, _, _, hc⟩
 ·exact ⟨none, 0, rfl, .inl rfl⟩
 ·exact ⟨_, cap, rfl, .inr ⟨g, off, rfl, hlt, hc⟩⟩

theorem has_const (w : World) (e : TypeId) (l : List Int) (fz : Nat × Nat) (hm : l.length ≤ maxLen) :
  Has (w.alloc (.cells (l.map (Value.int .u8)).toArray e fz)) (.slice (some ⟨w.heap.size, 0, none⟩) l.length l.length) l := by
 refine .inr ⟨w.heap.size, 0, l.length, rfl, by show w.heap.size < (w.heap.push _).size; simp, Nat.le_refl _, hm, fun i hi => ?_⟩
 have hh : (w.alloc (.cells (l.map (Value.int .u8)).toArray e fz)).heap[w.heap.size]? = some (.cells (l.map (Value.int .u8)).toArray e fz) := by
  show (w.heap.push _)[w.heap.size]? = _
  simp
 unfold World.cell?
 simp only [hh]
 rw [Nat.zero_add]
 simpa using map_at l i hi
end Go.Proofs.YtbabmdiklefgcaaGreatDoor

namespace Go.Proofs.YtbabmdiklefgcaaGreatDoor
open Go.RowKit

section
variable {P : Program} {w : World}

theorem run_append_bytes (t ty e : TypeId) (ht : P.underlying t = some (.slice e)) (hinfo : (P.info? e).map (fun i => (i.zero, i.size, i.bytes)) = some (some (.int .u8 0), 1, 1))
  (base : Nat) (v vx : Value) (l m : List Int) (hown : Own base e w v l) (hr : Reads w vx m) (hlen : l.length + m.length ≤ 1099511627776) (hbase : base ≤ w.heap.size) :
  ∃ v' w', (Builtin.append_ #[t, t] ty #[v, vx]).run P w = .ok v' w' ∧ Own base e w' v' (l ++ m) ∧ w.grownBy w' v.ownBlock := by
 obtain ⟨i0, hi, hz0, hz1, hz2⟩ := info_parts hinfo
 rcases hr with ⟨rfl, rfl⟩ | ⟨ad, cap, rfl, hc⟩
 ·exact ⟨v, w, run_append_owned_none w base t ty e i0 1 ht hi v l.length (l.map (Value.int .u8)) hown, by simpa using hown, ⟨rfl, rfl, rfl, Nat.le_refl _, fun _ _ _ => rfl⟩⟩
 ·obtain ⟨v', w', h1, h2, h3, _⟩ := run_append_own (P := P) w base t ty e i0 (.int .u8 0) 1 1 ht hi hz0 hz1 hz2 rfl (by decide) v l.length (l.map (Value.int .u8)) hown ad m.length cap (m.map (Value.int .u8)) (by simp) (news_of hc) (one_of m) (by unfold maxLen; omega) (by omega) hbase
  exact ⟨v', w', h1, by simpa [Own] using h2, h3⟩

theorem step_append_bytes {ops : Array Oper} {o : Oper} {a : Act} {K : Act → World → Prop} {Q : Exit → Act → World → Prop} {E : Prop} (hgd : o.guard = none) (s x : Operand) (t e : TypeId)
  (ho : o.op = .call { callee := .builtin .append, args := #[s, x], argTypes := #[t, t] }) (ht : P.underlying t = some (.slice e))
  (hinfo : (P.info? e).map (fun i => (i.zero, i.size, i.bytes)) = some (some (.int .u8 0), 1, 1))
  (base : Nat) (v vx : Value) (l m : List Int) (hs : a.eval s = v) (hx : a.eval x = vx) (hown : Own base e w v l) (hr : Reads w vx m) (hlen : l.length + m.length ≤ 1099511627776) (hbase : base ≤ w.heap.size)
  (h : ∀ v' w', Own base e w' v' (l ++ m) → w.grownBy w' v.ownBlock → K (a.put o.dst v') w') : if Region.wanted o (yielded ops a.tmps) = true then Oper.wp P o a w K Q else E := by
 have hw : Region.wanted o (yielded ops a.tmps) = true := by simp [Region.wanted, hgd]
 rw [if_pos hw]
 obtain ⟨v', w', hr', h2, h3⟩ := run_append_bytes (P := P) t o.type e ht hinfo base v vx l m hown hr hlen hbase
 unfold Oper.wp execOp
 simp only [ho, resolve, invoke, builtin, Sem.run_bind, Sem.run_pure, Result.andThen_ok, List.map_toArray, List.map_cons, List.map_nil, hs, hx, hr']
 exact h v' w' h2 h3

theorem run_append_row (t ty e : TypeId) (ht : P.underlying t = some (.slice e)) (hinfo : (P.info? e).map (fun i => (i.zero, i.size, i.bytes)) = some (some (.slice none 0 0), 1, 24))
  (base : Nat) (v vx : Value) (xs us : List Value) (hown : w.ownsRow base e 1 v xs.length xs)
  (hr : (vx = .slice none 0 0 ∧ us = []) ∨ ∃ ad cap, vx = .slice (some ad) us.length cap ∧ ∀ j y, us[j]? = some y → w.cell? (ad.add j) = some y) (hu : ∀ y ∈ us, y.oneCell' = true)
  (hlen : xs.length + us.length ≤ 1099511627776) (hbase : base ≤ w.heap.size) :
  ∃ v' w', (Builtin.append_ #[t, t] ty #[v, vx]).run P w = .ok v' w' ∧ w'.ownsRow base e 1 v' (xs.length + us.length) (xs ++ us) ∧ w.grownBy w' v.ownBlock := by
 obtain ⟨i0, hi, hz0, hz1, hz2⟩ := info_parts hinfo
 rcases hr with ⟨rfl, rfl⟩ | ⟨ad, cap, rfl, hc⟩
 ·exact ⟨v, w, run_append_owned_none w base t ty e i0 1 ht hi v xs.length xs hown, by simpa using hown, ⟨rfl, rfl, rfl, Nat.le_refl _, fun _ _ _ => rfl⟩⟩
 ·obtain ⟨v', w', h1, h2, h3, _⟩ := run_append_own (P := P) w base t ty e i0 (.slice none 0 0) 1 24 ht hi hz0 hz1 hz2 rfl (by decide) v xs.length xs hown ad us.length cap us (by simp) hc hu (by unfold maxLen; omega) (by omega) hbase
  exact ⟨v', w', h1, h2, h3⟩

theorem step_append_row {ops : Array Oper} {o : Oper} {a : Act} {K : Act → World → Prop} {Q : Exit → Act → World → Prop} {E : Prop} (hgd : o.guard = none) (s x : Operand) (t e : TypeId)
  (ho : o.op = .call { callee := .builtin .append, args := #[s, x], argTypes := #[t, t] }) (ht : P.underlying t = some (.slice e))
  (hinfo : (P.info? e).map (fun i => (i.zero, i.size, i.bytes)) = some (some (.slice none 0 0), 1, 24))
  (base : Nat) (v vx : Value) (xs us : List Value) (hs : a.eval s = v) (hx : a.eval x = vx) (hown : w.ownsRow base e 1 v xs.length xs)
  (hr : (vx = .slice none 0 0 ∧ us = []) ∨ ∃ ad cap, vx = .slice (some ad) us.length cap ∧ ∀ j y, us[j]? = some y → w.cell? (ad.add j) = some y) (hu : ∀ y ∈ us, y.oneCell' = true)
  (hlen : xs.length + us.length ≤ 1099511627776) (hbase : base ≤ w.heap.size)
  (h : ∀ v' w', w'.ownsRow base e 1 v' (xs.length + us.length) (xs ++ us) → w.grownBy w' v.ownBlock → K (a.put o.dst v') w') : if Region.wanted o (yielded ops a.tmps) = true then Oper.wp P o a w K Q else E := by
 have hw : Region.wanted o (yielded ops a.tmps) = true := by simp [Region.wanted, hgd]
 rw [if_pos hw]
 obtain ⟨v', w', hr', h2, h3⟩ := run_append_row (P := P) t o.type e ht hinfo base v vx xs us hown hr hu hlen hbase
 unfold Oper.wp execOp
 simp only [ho, resolve, invoke, builtin, Sem.run_bind, Sem.run_pure, Result.andThen_ok, List.map_toArray, List.map_cons, List.map_nil, hs, hx, hr']
 exact h v' w' h2 h3

theorem one_more (w : World) (e : TypeId) (u : Value) : (Value.slice (some ⟨w.heap.size, 0, none⟩) 1 1 = .slice none 0 0 ∧ [u] = []) ∨ ∃ ad cap, Value.slice (some ⟨w.heap.size, 0, none⟩) 1 1 = .slice (some ad) [u].length cap ∧ ∀ j y, [u][j]? = some y → (w.alloc (.cells #[u] e)).cell? (ad.add j) = some y := by
 refine .inr ⟨_, 1, rfl, fun j y hj => ?_⟩
 have hj0 : j = 0 := by
  have := (List.getElem?_eq_some_iff.1 hj).1
  simp at this
  exact this
 subst hj0
 have hh : (w.alloc (.cells #[u] e)).heap[w.heap.size]? = some (.cells #[u] e) := by
  show (w.heap.push _)[w.heap.size]? = _
  simp
 rw [Addr.add_lit]
 unfold World.cell?
 simp only [hh]
 simpa using hj
end
end Go.Proofs.YtbabmdiklefgcaaGreatDoor

namespace Go.Proofs.YtbabmdiklefgcaaGreatDoor
open Go.RowKit

theorem VJ : (Tryz.prog.info? 5).map (fun i => (i.zero, i.size, i.bytes)) = some (some (.int .u8 0), 1, 1) := by kernel_rfl
end Go.Proofs.YtbabmdiklefgcaaGreatDoor

namespace Go.Proofs.YtbabmdiklefgcaaGreatDoor
open Go.RowKit
set_option linter.unusedVariables false
set_option maxHeartbeats 1000000
set_option maxRecDepth 100000

def Cur (w : World) (g : Nat) (a : Option Addr) (len cap : Nat) : Prop :=
 ∃ i h : Int, w.heap[g]? = some (.cells #[.slice a len cap, .int .i64 i, .int .i64 h] 58 (0, 0)) ∧ 0 ≤ i ∧ i ≤ len

def Code (w : World) (g : Nat) (a : Option Addr) (len : Nat) : Prop :=
 ∃ l : List Int, l.length = len ∧ (∀ k, 0 ≤ l.getD k 0 ∧ l.getD k 0 ≤ 255) ∧
  (l = [] ∨ ∃ b off, a = some ⟨b, off, none⟩ ∧ b < w.heap.size ∧ b < g ∧ ∀ i, i < l.length → w.cell? ⟨b, off + i, none⟩ = some (.int .u8 (l.getD i 0)))

theorem and_255_bd (y : Int) : 0 ≤ bits .and .i64 y 255 ∧ bits .and .i64 y 255 ≤ 255 := by
 have h : bits .and .i64 y 255 = IntKind.i64.wrap ((BitVec.ofInt 64 y &&& BitVec.ofInt 64 ((255 : Nat) : Int)).toNat : Int) := rfl
 rw [h, BitVec.toNat_and, ofInt_u64 255 (by omega)]
 have h2 : (BitVec.ofInt 64 y).toNat &&& 255 ≤ 255 := Nat.and_le_right
 rw [wrap_small _ (by omega)]
 omega

theorem cells_at {w : World} {g : Nat} {x y z : Value} {t : TypeId} (h : w.heap[g]? = some (.cells #[x, y, z] t (0, 0))) :
  w.cell? ⟨g, 0, none⟩ = some x ∧ w.cell? ⟨g, 1, none⟩ = some y ∧ w.cell? ⟨g, 2, none⟩ = some z ∧ w.frozen? ⟨g, 1, none⟩ = false ∧ w.frozen? ⟨g, 2, none⟩ = false := by
 simp [World.cell?, World.frozen?, h]

theorem set_at1 {w : World} {g : Nat} {x y z : Value} {t : TypeId} (h : w.heap[g]? = some (.cells #[x, y, z] t (0, 0))) (u : Value) : (w.setCell ⟨g, 1, none⟩ u).heap[g]? = some (.cells #[x, u, z] t (0, 0)) := by
 simp [World.setCell, Array.getElem?_modify, h]
theorem set_at2 {w : World} {g : Nat} {x y z : Value} {t : TypeId} (h : w.heap[g]? = some (.cells #[x, y, z] t (0, 0))) (u : Value) : (w.setCell ⟨g, 2, none⟩ u).heap[g]? = some (.cells #[x, y, u] t (0, 0)) := by
 simp [World.setCell, Array.getElem?_modify, h]

theorem grown_set (w : World) (g j : Nat) (u : Value) : w.grownBy (w.setCell ⟨g, j, none⟩ u) (some g) :=
 ⟨rfl, rfl, rfl, by simp, fun k _ hk => Below.heap_setCell w ⟨g, j, none⟩ u k (fun e => hk (by rw [e]))⟩

theorem grown_draws (w : World) (n : Nat) (row : Option Nat) : w.grownBy (w.drewN n) row := ⟨rfl, rfl, rfl, Nat.le_refl _, fun _ _ _ => rfl⟩

theorem l1Byte_any {g : Nat} {a : Option Addr} {len cap : Nat} {w : World} (hc : Cur w g a len cap) (hL : Code w g a len) (hm : len ≤ maxLen) :
  Calls Tryz.prog 32 #[.pointer (some ⟨g, 0, none⟩)] w fun e w' => ∃ x, e = .returned (.int .i64 x) ∧ 0 ≤ x ∧ x ≤ 255 ∧ Cur w' g a len cap ∧ w.grownBy w' (some g) := by
 obtain ⟨i, h, hg, hi0, hi1⟩ := hc
 obtain ⟨c0, c1, c2, f1, f2⟩ := cells_at hg
 unfold maxLen at hm
 go_enter Tryz.func32, Tryz.ntmps32
 go_wp2
 generalize hh : wrap64 (wrap64 (h * 6364136223846793005) + 1442695040888963407) = h'
 clear hh
 have hg1 := set_at2 hg (.int .i64 h')
 have k1 := grown_set w g 2 (.int .i64 h')
 obtain ⟨l, hln, hb, hLl⟩ := hL
 have HN := UC hln
 clear hln
 have hL1 : Lies (w.setCell ⟨g, 2, none⟩ (.int .i64 h')) a l := by
  rcases hLl with rfl | ⟨b, off, rfl, hlt, hlg, hcl⟩
  ·exact .inl rfl
  ·refine .inr ⟨b, off, rfl, by simpa using hlt, fun j hj => ?_⟩
   rw [World.cell?_of_block (w := w) (k1.block b hlt (by simp; omega))]
   exact hcl j hj
 clear c0 c1 c2 f1 f2 hLl hg
 generalize w.setCell ⟨g, 2, none⟩ (.int .i64 h') = W at *
 obtain ⟨c0, c1, c2, f1, f2⟩ := cells_at hg1
 have HG := UC hg1
 clear hg1
 by_cases hlt : i < len
 ·obtain ⟨j, rfl⟩ := Int.eq_ofNat_of_zero_le hi0
  obtain ⟨b, off, rfl, _, hcj⟩ := hL1.here (k := j) (by rw [UB HN]; omega)
  have hx := hb j
  generalize l.getD j 0 = x at *
  have HB := UC hb
  clear hb
  go_quiet (fail)
  go_wp2
  go_quiet (fail)
  go_wp2
  go_quiet (fail)
  go_wp2
  go_ret
  refine ⟨_, rfl, (and_255_bd _).1, (and_255_bd _).2, ?_, ?_⟩
  ·exact ⟨(j : Int) + 1, h', set_at1 (w := W.drewN _) (UB HG) _, by omega, by omega⟩
  ·exact grown_trans k1 (grown_trans (grown_draws W _ _) (grown_set _ g 1 _))
 ·have hlt' : decide (i < (len : Int)) = false := by simp; omega
  go_quiet (fail)
  go_wp2
  go_quiet (fail)
  go_wp2
  go_ret
  refine ⟨_, rfl, (and_255_bd _).1, (and_255_bd _).2, ⟨i, h', UB HG, by omega, by omega⟩, ?_⟩
  exact grown_trans k1 (grown_trans (grown_draws W _ _) (grown_draws _ _ _))

theorem Code.later {w w' : World} {g : Nat} {a : Option Addr} {len : Nat} {row : Option Nat} (h : Code w g a len) (hg : w.grownBy w' row) (hr : ∀ j, row = some j → g ≤ j) : Code w' g a len := by
 obtain ⟨l, h1, h2, h3⟩ := h
 refine ⟨l, h1, h2, ?_⟩
 rcases h3 with rfl | ⟨b, off, rfl, hlt, hlg, hcl⟩
 ·exact .inl rfl
 ·refine .inr ⟨b, off, rfl, Nat.lt_of_lt_of_le hlt hg.size, hlg, fun j hj => ?_⟩
  rw [World.cell?_of_block (w := w) (hg.block b hlt (by intro e; have := hr b e.symm; omega))]
  exact hcl j hj

theorem Code.grown {w w' : World} {g : Nat} {a : Option Addr} {len : Nat} (h : Code w g a len) (hg : w.grownBy w' (some g)) : Code w' g a len := h.later hg (fun j e => by simp at e; omega)

theorem l1Below_any {g : Nat} {a : Option Addr} {len cap : Nat} {w : World} (n : Int) (hc : Cur w g a len cap) (hL : Code w g a len) (hm : len ≤ maxLen) (hn0 : 1 ≤ n) (hn1 : n ≤ 1099511627776) :
  Calls Tryz.prog 13 #[.pointer (some ⟨g, 0, none⟩), .int .i64 n] w fun e w' => ∃ x, e = .returned (.int .i64 x) ∧ 0 ≤ x ∧ x < n ∧ Cur w' g a len cap ∧ w.grownBy w' (some g) := by
 have HM := UC hm
 clear hm
 by_cases h256 : n ≤ 256
 ·go_enter Tryz.func13, Tryz.ntmps13
  go_wp2_with fail
  refine (l1Byte_any hc hL (UB HM)).mono ?_
  rintro e w1 ⟨x, rfl, hx0, hx1, hc1, g1⟩
  go_wp2
  go_ret
  exact ⟨_, rfl, Int.emod_nonneg _ (by omega), Int.emod_lt_of_pos _ (by omega), hc1, g1⟩
 ·go_enter Tryz.func13, Tryz.ntmps13
  go_wp2_with fail
  refine (l1Byte_any hc hL (UB HM)).mono ?_
  rintro e w1 ⟨x1, rfl, x10, x11, hc1, g1⟩
  have hL1 := hL.grown g1
  go_wp2_with fail
  refine (l1Byte_any hc1 hL1 (UB HM)).mono ?_
  rintro e w2 ⟨x2, rfl, x20, x21, hc2, g2⟩
  have hL2 := hL1.grown g2
  go_wp2_with fail
  refine (l1Byte_any hc2 hL2 (UB HM)).mono ?_
  rintro e w3 ⟨x3, rfl, x30, x31, hc3, g3⟩
  have hL3 := hL2.grown g3
  go_wp2_with fail
  refine (l1Byte_any hc3 hL3 (UB HM)).mono ?_
  rintro e w4 ⟨x4, rfl, x40, x41, hc4, g4⟩
  go_wp2
  go_ret
  exact ⟨_, rfl, Int.emod_nonneg _ (by omega), Int.emod_lt_of_pos _ (by omega), hc4, grown_trans (grown_trans (grown_trans g1 g2) g3) g4⟩

theorem Cur.lt {w : World} {g : Nat} {a : Option Addr} {len cap : Nat} (h : Cur w g a len cap) : g < w.heap.size := by
 obtain ⟨i, x, h1, _⟩ := h
 exact (Array.getElem?_eq_some_iff.1 h1).1

theorem Cur.later {w w' : World} {g : Nat} {a : Option Addr} {len cap : Nat} {row : Option Nat} (h : Cur w g a len cap) (hg : w.grownBy w' row) (hr : ∀ j, row = some j → g < j) : Cur w' g a len cap := by
 have hlt := h.lt
 obtain ⟨i, x, h1, h2⟩ := h
 refine ⟨i, x, ?_, h2⟩
 rw [hg.block g hlt (by intro e; have := hr g e.symm; omega)]
 exact h1

theorem grown_alloc (w : World) (o : Obj) (row : Option Nat) : w.grownBy (w.alloc o) row := World.grownBy_alloc w o row

theorem grown_own {w a b : World} {row row' : Option Nat} (h : w.grownBy a row) (k : a.grownBy b row') (hr : ∀ j, row' = some j → w.heap.size ≤ j) : w.grownBy b row :=
 ⟨k.os.trans h.os, k.tape.trans h.tape, k.output.trans h.output, Nat.le_trans h.size k.size, fun i hi hn => (k.block i (Nat.lt_of_lt_of_le hi h.size) (by intro e; have := hr i e.symm; omega)).trans (h.block i hi hn)⟩

theorem l1New_any {a : Option Addr} {len cap : Nat} {w : World} (l : List Int) (hL : Lies w a l) (hn : l.length = len) (hb : ∀ k, 0 ≤ l.getD k 0 ∧ l.getD k 0 ≤ 255) (hm : len ≤ maxLen) :
  Calls Tryz.prog 11 #[.slice a len cap] w fun e w' => e = .returned (.pointer (some ⟨w.heap.size, 0, none⟩)) ∧ Cur w' w.heap.size a len cap ∧ Code w' w.heap.size a len ∧ Below w.heap.size w w' := by
 have HN := UC hn
 clear hn
 have HB := UC hb
 clear hb
 unfold maxLen at hm
 go_enter Tryz.func11, Tryz.ntmps11
 go_wp2
 go_loop [3, 4] (fun hv i => ∃ (k : Nat) (h : Int), k ≤ len ∧ i = .int .i64 k ∧ hv = .int .i64 h) (fun _ i => len - (intOf i).toNat)
 case atStart => exact ⟨0, _, Nat.zero_le _, rfl, rfl⟩
 case round =>
  obtain ⟨k, h, hk, rfl, rfl⟩ := hrel
  have fin : ∀ h' : Int, Cur (w.alloc (.cells #[.slice a len cap, .int .i64 0, .int .i64 h'] 58)) w.heap.size a len cap ∧ Code (w.alloc (.cells #[.slice a len cap, .int .i64 0, .int .i64 h'] 58)) w.heap.size a len ∧ Below w.heap.size w (w.alloc (.cells #[.slice a len cap, .int .i64 0, .int .i64 h'] 58)) := by
   intro h'
   have hbl : Below w.heap.size w (w.alloc (.cells #[.slice a len cap, .int .i64 0, .int .i64 h'] 58)) := (Below.refl _ _).alloc (Nat.le_refl _) _
   refine ⟨⟨0, h', heap_alloc_new w _, by omega, by omega⟩, ⟨l, UB HN, UB HB, ?_⟩, hbl⟩
   rcases hL.below hbl with rfl | ⟨b, off, e, hlt', hcl⟩
   ·exact .inl rfl
   ·rcases hL with rfl | ⟨b', off', e', hlt, _⟩
    ·exact .inl rfl
    ·rw [e] at e'
     simp at e'
     exact .inr ⟨b, off, e, hlt', by omega, hcl⟩
  have FIN := UC fin
  clear fin
  by_cases hlt : k < len
  ·by_cases h4000 : k < 4000
   ·obtain ⟨b, off, rfl, _, hc⟩ := hL.here (k := k) (by rw [UB HN]; exact hlt)
    have hx := (UB HB) k
    generalize l.getD k 0 = x at *
    go_wp2
    exact ⟨⟨k + 1, _, by omega, by go_num, rfl⟩, by simp [intOf]; omega⟩
   ·have i4 : ¬ (k : Int) < 4000 := by omega
    go_wp2
    go_ret
    exact ⟨rfl, UB FIN _⟩
  ·go_wp2
   go_ret
   exact ⟨rfl, UB FIN _⟩
end Go.Proofs.YtbabmdiklefgcaaGreatDoor
