/-
  Plain facts on worlds and lists of bytes: a slice of bytes that reads as a list, one that owns its row, and how both fare as the world goes on. No program is named here. What is known of the type byte in this program.
-/
import Derived.WalkKit
import Derived.WalkSpells
import Derived.Deep.OwnRows
import Derived.Below
import Derived.Laws.AppendOwnNone
import Derived.BigQuiet
import Derived.Deep.QuietTactic
import Derived.Test.YthmihglfffeedaaGreatDoorProg
namespace Go.Proofs.YthmihglfffeedaaGreatDoor
open Go.RowKit

theorem UC {p : Prop} (h : p) : Hid p := h
theorem UB {p : Prop} (h : Hid p) : p := h

def Lies (w : World) (a : Option Addr) (l : List Int) : Prop :=
 l = [] ∨ ∃ b off, a = some ⟨b, off, none⟩ ∧ b < w.heap.size ∧ ∀ i, i < l.length → w.cell? ⟨b, off + i, none⟩ = some (.int .u8 (l.getD i 0))

def Own (B : Nat) (e : TypeId) (w : World) (v : Value) (l : List Int) : Prop := w.ownsRow B e 1 v l.length (l.map (Value.int .u8))

theorem Lies.below {w w' : World} {a : Option Addr} {l : List Int} (h : Lies w a l) (hb : Below w.heap.size w w') : Lies w' a l := by
 rcases h with rfl | ⟨b, off, rfl, hlt, hc⟩
 ·exact .inl rfl
 ·exact .inr ⟨b, off, rfl, Nat.lt_of_lt_of_le hlt hb.size, fun i hi => (hb.cell (p := ⟨b, off + i, none⟩) hlt).trans (hc i hi)⟩

theorem Lies.cell {w w' : World} {a : Option Addr} {l : List Int} (h : Lies w a l) (hb : Below w.heap.size w w') {k : Nat} (hk : k < l.length) :
  ∃ b off, a = some ⟨b, off, none⟩ ∧ b < w.heap.size ∧ w'.cell? ⟨b, off + k, none⟩ = some (.int .u8 (l.getD k 0)) := by
 rcases h with rfl | ⟨b, off, rfl, hlt, hc⟩
 ·simp at hk
 ·exact ⟨b, off, rfl, hlt, (hb.cell (p := ⟨b, off + k, none⟩) hlt).trans (hc k hk)⟩

theorem Lies.here {w : World} {a : Option Addr} {l : List Int} (h : Lies w a l) {k : Nat} (hk : k < l.length) :
  ∃ b off, a = some ⟨b, off, none⟩ ∧ b < w.heap.size ∧ w.cell? ⟨b, off + k, none⟩ = some (.int .u8 (l.getD k 0)) := h.cell (Below.refl _ _) hk

theorem map_at (l : List Int) (j : Nat) (hj : j < l.length) : (l.map (Value.int .u8))[j]? = some (.int .u8 (l.getD j 0)) := by
 simp [hj]

section
variable {B : Nat} {e : TypeId} {w w' : World} {v : Value} {l : List Int}

theorem Own.form (h : Own B e w v l) : (v = .slice none 0 0 ∧ l = []) ∨
  ∃ g cap, v = .slice (some ⟨g, 0, none⟩) l.length cap ∧ B ≤ g ∧ g < w.heap.size ∧ l.length ≤ cap ∧ cap ≤ maxLen ∧
   (∀ i, i < l.length → w.cell? ⟨g, i, none⟩ = some (.int .u8 (l.getD i 0))) ∧ ∀ i, w.frozen? ⟨g, i, none⟩ = false := by
 have h' := h
 rcases h.2 with ⟨rfl, hn⟩ | ⟨g, cap, cur, rfl, hb, hg, hn, hm, hs, ht⟩
 ·exact .inl ⟨rfl, List.eq_nil_of_length_eq_zero hn⟩
 ·refine .inr ⟨g, cap, rfl, hb, (h'.lt g rfl).2, hn, hm, fun i hi => ?_, fun i => World.ownsRow.frozenAt h' i⟩
  rw [World.ownsRow.cellAt h' i (by omega), map_at l i hi]

theorem Own.lies (h : Own B e w v l) : ∃ a cap, v = .slice a l.length cap ∧ Lies w a l := by
 rcases h.form with ⟨rfl, rfl⟩ | ⟨g, cap, rfl, _, hlt, _, _, hc, _⟩
 ·exact ⟨none, 0, rfl, .inl rfl⟩
 ·exact ⟨_, cap, rfl, .inr ⟨g, 0, rfl, hlt, fun i hi => by simpa using hc i hi⟩⟩

theorem Own.mono {B' : Nat} (h : Own B e w v l) (hB : B' ≤ B) : Own B' e w v l := by
 refine ⟨h.1, ?_⟩
 rcases h.2 with hn | ⟨g, cap, cur, hv, hb, rest⟩
 ·exact .inl hn
 ·exact .inr ⟨g, cap, cur, hv, Nat.le_trans hB hb, rest⟩

theorem Own.lt (h : Own B e w v l) : ∀ k, v.ownBlock = some k → B ≤ k ∧ k < w.heap.size := World.ownsRow.lt h

theorem Own.kept {row : Option Nat} (h : Own B e w v l) (hg : w.grownBy w' row) (hne : v.ownBlock = none ∨ v.ownBlock ≠ row) : Own B e w' v l := World.ownsRow.kept h hg hne

theorem grown_of_below (hb : Below w.heap.size w w') : w.grownBy w' none := ⟨hb.os, hb.tape, hb.output, hb.size, fun k hk _ => hb.block k hk⟩
theorem below_of_grown (hb : w.grownBy w' none) : Below w.heap.size w w' := ⟨hb.os, hb.tape, hb.output, hb.size, fun k hk => hb.block k hk (by simp)⟩

theorem grown_trans {a b c : World} {row : Option Nat} (h : a.grownBy b row) (k : b.grownBy c row) : a.grownBy c row :=
 ⟨k.os.trans h.os, k.tape.trans h.tape, k.output.trans h.output, Nat.le_trans h.size k.size, fun i hi hn => (k.block i (Nat.lt_of_lt_of_le hi h.size) hn).trans (h.block i hi hn)⟩

theorem below_draws {w : World} (n : Nat) : Below w.heap.size w (w.drewN n) := ⟨rfl, rfl, rfl, Nat.le_refl _, fun _ _ => rfl⟩
theorem UG {a b c : World} (h : Below a.heap.size a b) (k : Below b.heap.size b c) : Below a.heap.size a c := h.trans (k.mono h.size)

theorem Own.below (h : Own B e w v l) (hb : Below w.heap.size w w') : Own B e w' v l := by
 refine h.kept (grown_of_below hb) ?_
 cases hv : v.ownBlock with
 | none => exact .inl rfl
 | some k => exact .inr (by simp)

end

def marked (l : List Int) (k : Int) (m : Nat) : List Int := (List.range l.length).map fun (j : Nat) => if j < m then (k + j) % 256 else l.getD j 0

theorem wrap_small (n : Nat) (h : n < 9223372036854775808) : IntKind.i64.wrap (n : Int) = (n : Int) := by
 have e : (n : Int) % 2 ^ 64 = n := Int.emod_eq_of_lt (by omega) (by omega)
 simp only [IntKind.wrap, IntKind.bits, IntKind.signed, e]
 rw [if_neg]
 simp
 omega

theorem or_nat_i64 (i a b : Nat) (ha : a % 2 ^ i = 0) (hb : b < 2 ^ i) (h : a + b < 4611686018427387904) : bits .or .i64 (a : Int) (b : Int) = ((a + b : Nat) : Int) := by
 show IntKind.i64.wrap ((BitVec.ofInt 64 (a : Int) ||| BitVec.ofInt 64 (b : Int)).toNat : Int) = _
 rw [BitVec.toNat_or, ofInt_u64 a (by omega), ofInt_u64 b (by omega), nat_join i a b ha hb]
 exact wrap_small _ (by omega)

theorem or_8 (x y : Int) (hx : 0 ≤ x) (hx' : x ≤ 1099511627776) (hy : 0 ≤ y) (hy' : y ≤ 255) : bits .or .i64 (x * 256) y = x * 256 + y := by
 have h := or_nat_i64 8 (x.toNat * 256) y.toNat (by simp) (by omega) (by omega)
 rw [show ((x.toNat * 256 : Nat) : Int) = x * 256 from by omega, show (y.toNat : Int) = y from by omega] at h
 rw [h]; omega
theorem or_16 (x y : Int) (hx : 0 ≤ x) (hx' : x ≤ 1099511627776) (hy : 0 ≤ y) (hy' : y ≤ 65535) : bits .or .i64 (x * 65536) y = x * 65536 + y := by
 have h := or_nat_i64 16 (x.toNat * 65536) y.toNat (by simp) (by omega) (by omega)
 rw [show ((x.toNat * 65536 : Nat) : Int) = x * 65536 from by omega, show (y.toNat : Int) = y from by omega] at h
 rw [h]; omega

theorem or_24 (x y : Int) (hx : 0 ≤ x) (hx' : x ≤ 255) (hy : 0 ≤ y) (hy' : y ≤ 255) : bits .or .i64 (x * 16777216) (y * 65536) = x * 16777216 + y * 65536 := by
 have h := or_nat_i64 24 (x.toNat * 16777216) (y.toNat * 65536) (by simp) (by omega) (by omega)
 rw [show ((x.toNat * 16777216 : Nat) : Int) = x * 16777216 from by omega, show ((y.toNat * 65536 : Nat) : Int) = y * 65536 from by omega] at h
 rw [h]; omega

theorem ret2_int {k : IntKind} {a b c d : Int} (h : a = b) (h' : c = d) : Ending.returned (.tuple #[.int k a, .int k c]) = .returned (.tuple #[.int k b, .int k d]) := by rw [h, h']
def IsRow (k : IntKind) (w : World) (a : Option Addr) (len cap : Nat) (zs : List Int) : Prop :=
 (a = none ∧ len = 0 ∧ cap = 0 ∧ zs = []) ∨
 ∃ x, a = some x ∧ len ≤ cap ∧ cap ≤ maxLen ∧ zs.length = cap ∧ (∀ i, i < zs.length → w.cell? (x.add i) = some (.int k (zs.getD i 0))) ∧ ∀ n ∈ zs, (Lit.int k n).wf = true

theorem cell_lt {w : World} {a : Addr} {v : Value} (h : w.cell? a = some v) : a.block < w.heap.size := by
 by_cases hb : a.block < w.heap.size
 ·exact hb
 ·have hn : w.heap[a.block]? = none := by simp; omega
  simp [World.cell?, hn] at h

theorem isRow_lies {w : World} {a : Option Addr} {len cap : Nat} {zs : List Int} (h : IsRow .u8 w a len cap zs) :
  ∃ l : List Int, l.length = len ∧ len ≤ maxLen ∧ Lies w a l ∧ ∀ k, 0 ≤ l.getD k 0 ∧ l.getD k 0 ≤ 255 := by
 rcases h with ⟨rfl, rfl, rfl, rfl⟩ | ⟨x, rfl, hl, hm, hz, hcell, hwf⟩
 ·exact ⟨[], rfl, Nat.zero_le _, .inl rfl, by simp⟩
 ·refine ⟨zs.take len, by simp; omega, by omega, ?_, ?_⟩
  ·by_cases h0 : len = 0
   ·subst h0; exact .inl (by simp)
   ·right
    obtain ⟨b, off, spot⟩ := x
    have hc := hcell 0 (by omega)
    have hspot : spot = none := by simpa [Addr.add] using World.cell?_spot hc
    subst hspot
    refine ⟨b, off, rfl, cell_lt hc, fun i hi => ?_⟩
    simp at hi
    have hci := hcell i (by omega)
    rw [Addr.add_lit] at hci
    rw [hci, List.getD_eq_getElem?_getD, List.getD_eq_getElem?_getD, List.getElem?_take, if_pos (by omega)]
  ·intro k
   by_cases hk : k < (zs.take len).length
   ·have hmem : (zs.take len).getD k 0 ∈ zs := by
     rw [List.getD_eq_getElem?_getD, List.getElem?_eq_getElem hk, Option.getD_some]
     exact List.mem_of_mem_take (List.getElem_mem hk)
    simpa [Lit.wf, IntKind.min, IntKind.max, IntKind.signed, IntKind.bits] using hwf _ hmem
   ·rw [List.getD_eq_getElem?_getD, List.getElem?_eq_none (by omega)]
    simp

def Reads (w : World) (v : Value) (m : List Int) : Prop :=
 (v = .slice none 0 0 ∧ m = []) ∨ ∃ ad cap, v = .slice (some ad) m.length cap ∧ ∀ j, j < m.length → w.cell? (ad.add j) = some (.int .u8 (m.getD j 0))

theorem Own.reads {B : Nat} {e : TypeId} {w : World} {v : Value} {l : List Int} (h : Own B e w v l) : Reads w v l := by
 rcases h.form with h | ⟨g, cap, hv, _, _, _, _, hc, _⟩
 ·exact .inl h
 ·exact .inr ⟨_, cap, hv, fun j hj => by rw [Addr.add_lit, Nat.zero_add]; exact hc j hj⟩

theorem news_of {w : World} {ad : Addr} {l : List Int} (hc : ∀ j, j < l.length → w.cell? (ad.add j) = some (.int .u8 (l.getD j 0))) : ∀ j u, (l.map (Value.int .u8))[j]? = some u → w.cell? (ad.add j) = some u := by
 intro j u hj
 by_cases h : j < l.length
 ·rw [map_at l j h] at hj
  rw [← hj]; exact hc j h
 ·simp [h] at hj

theorem one_of (l : List Int) : ∀ u ∈ l.map (Value.int .u8), u.oneCell' = true := by
 intro u hu
 obtain ⟨x, _, rfl⟩ := List.mem_map.1 hu
 rfl

theorem own_lit (w : World) (B : Nat) (e : TypeId) (l : List Int) (hB : B ≤ w.heap.size) (hm : l.length ≤ maxLen) :
  Own B e (w.alloc (.cells (l.map (Value.int .u8)).toArray e)) (.slice (some ⟨w.heap.size, 0, none⟩) l.length l.length) l := by
 have h := World.ownsRow_lit (base := B) (e := e) (size := 1) w (l.map (Value.int .u8)).toArray l.length hB hm (by simp)
 simpa [Own] using h

theorem Own.alloc {B : Nat} {e : TypeId} {w : World} {v : Value} {l : List Int} (h : Own B e w v l) (o : Obj) : Own B e (w.alloc o) v l := World.ownsRow.alloc h o

theorem append_bytes {P : Program} {w : World} {ops : Array Oper} {rest : List Oper} {o : Oper} {a : Act} {Q : Exit → Act → World → Prop} (hgd : o.guard = none) (s x : Operand) (t e : TypeId)
  (ho : o.op = .call { callee := .builtin .append, args := #[s, x], argTypes := #[t, t] }) (ht : P.underlying t = some (.slice e))
  (hinfo : (P.info? e).map (fun i => (i.zero, i.size, i.bytes)) = some (some (.int .u8 0), 1, 1))
  (base : Nat) (v vx : Value) (l m : List Int) (hs : a.eval s = v) (hx : a.eval x = vx) (hown : Own base e w v l) (hr : Reads w vx m) (hlen : l.length + m.length ≤ 1099511627776) (hbase : base ≤ w.heap.size)
  (h : ∀ v' w', Own base e w' v' (l ++ m) → w.grownBy w' v.ownBlock → wpList P ops Q rest (a.put o.dst v') w') : wpList P ops Q (o :: rest) a w := by
 obtain ⟨i0, hi, hz0, hz1, hz2⟩ := info_parts hinfo
 rcases hr with ⟨rfl, rfl⟩ | ⟨ad, cap, rfl, hc⟩
 ·refine wpList_append_own_none hgd s x t ho base e i0 1 ht hi v l.length (l.map (Value.int .u8)) hs hown hx ?_
  exact h v w (by simpa using hown) ⟨rfl, rfl, rfl, Nat.le_refl _, fun _ _ _ => rfl⟩
 ·refine wpList_append_own w hgd s x t ho base e i0 (.int .u8 0) 1 1 ht hi hz0 hz1 hz2 rfl (by decide) v l.length (l.map (Value.int .u8)) hs hown ad m.length cap (m.map (Value.int .u8)) hx (by simp) (news_of hc) (one_of m) (by unfold maxLen; omega) (by omega) hbase ?_
  intro v' w' ho' hg _
  exact h v' w' (by simpa [Own] using ho') hg

theorem own_apart {B B' : Nat} {e e' : TypeId} {w w' : World} {v v' : Value} {l l' : List Int} (h : Own B e w v l) (h' : Own B' e' w' v' l') (hlt : w.heap.size ≤ B') : v.ownBlock = none ∨ v.ownBlock ≠ v'.ownBlock := by
 cases hv : v.ownBlock with
 | none => exact .inl rfl
 | some k =>
  right
  intro hk
  have h1 := h.lt k hv
  have h2 := h'.lt k hk.symm
  omega

theorem sub_reads {B g n cap : Nat} {e : TypeId} {w : World} {l : List Int} (h : Own B e w (.slice (some ⟨g, 0, none⟩) n cap) l) (hn : l.length = n) {i m : Nat} (hi : i + m ≤ n) (off c : Nat) (ho : off = i ∨ m = 0) :
  Reads w (.slice (some ⟨g, off, none⟩) m c) ((l.drop i).take m) := by
 subst hn
 have hlen : ((l.drop i).take m).length = m := by simp; omega
 refine .inr ⟨⟨g, off, none⟩, c, by rw [hlen], fun j hj => ?_⟩
 rw [hlen] at hj
 have he : off = i := by omega
 subst he
 rcases h.form with ⟨hv, _⟩ | ⟨g', cap', hv, _, _, _, _, hc, _⟩
 ·simp at hv
 ·simp only [Value.slice.injEq, Option.some.injEq, Addr.mk.injEq, and_true, true_and] at hv
  obtain ⟨rfl, rfl⟩ := hv
  rw [Addr.add_lit, hc (off + j) (by omega)]
  simp [hj]

theorem sub_reads_if {B g n cap : Nat} {e : TypeId} {w : World} {l : List Int} (h : Own B e w (.slice (some ⟨g, 0, none⟩) n cap) l) (hn : l.length = n) {i m : Nat} (hi : i + m ≤ n) (hc : n ≤ cap) :
  Reads w (.slice (if cap = i then some ⟨g, 0, none⟩ else some ⟨g, i, none⟩) (i + m - i) (cap - i)) ((l.drop i).take m) := by
 rw [Nat.add_sub_cancel_left]
 by_cases e : cap = i
 ·rw [if_pos e]; exact sub_reads h hn hi _ _ (by omega)
 ·rw [if_neg e]; exact sub_reads h hn hi _ _ (by omega)

def takeOf (l : List Int) (p n : Int) : List Int × Int := if 0 ≤ p ∧ 0 ≤ n ∧ p + n ≤ l.length then ((l.drop p.toNat).take n.toNat, p + n) else ([], -1)

theorem takeOf_yes {l : List Int} {i m : Nat} (h : i + m ≤ l.length) : takeOf l i m = ((l.drop i).take m, (i : Int) + m) := by
 unfold takeOf; rw [if_pos ⟨by omega, by omega, by omega⟩]; rfl
theorem takeOf_no {l : List Int} {p n : Int} (h : ¬ (0 ≤ p ∧ 0 ≤ n ∧ p + n ≤ l.length)) : takeOf l p n = ([], -1) := by
 unfold takeOf; rw [if_neg h]

def put16 (l : List Int) (n : Int) : List Int := if 0 ≤ n ∧ n ≤ 65535 then l ++ [n / 256, n % 256] else l

theorem put16_length (l : List Int) (n : Int) : (put16 l n).length ≤ l.length + 2 := by
 unfold put16; split <;> simp

theorem own_put16 (w : World) (B : Nat) (e : TypeId) (n : Int) (hB : B ≤ w.heap.size) :
  Own B e (w.alloc (.cells #[.int .u8 (n / 256), .int .u8 (n % 256)] e)) (.slice (some ⟨w.heap.size, 0, none⟩) 2 2) [n / 256, n % 256] := own_lit w B e [n / 256, n % 256] hB (by simp [maxLen])

def put32 (l : List Int) (n : Int) : List Int := if 0 ≤ n ∧ n ≤ 4294967295 then l ++ [n / 16777216, n / 65536 % 256, n / 256 % 256, n % 256] else l

theorem put32_length (l : List Int) (n : Int) : (put32 l n).length ≤ l.length + 4 := by
 unfold put32; split <;> simp

theorem own_put32 (w : World) (B : Nat) (e : TypeId) (n : Int) (hB : B ≤ w.heap.size) :
  Own B e (w.alloc (.cells #[.int .u8 (n / 16777216), .int .u8 (n / 65536 % 256), .int .u8 (n / 256 % 256), .int .u8 (n % 256)] e)) (.slice (some ⟨w.heap.size, 0, none⟩) 4 4) [n / 16777216, n / 65536 % 256, n / 256 % 256, n % 256] := own_lit w B e [n / 16777216, n / 65536 % 256, n / 256 % 256, n % 256] hB (by simp [maxLen])

def get16 (l : List Int) (p : Int) : Int × Int := if 0 ≤ p ∧ p + 2 ≤ l.length then (l.getD p.toNat 0 * 256 + l.getD (p.toNat + 1) 0, p + 2) else (0, -1)

theorem four_there {w : World} {a : Option Addr} {l : List Int} (h : Lies w a l) {i : Nat} (hi : i + 4 ≤ l.length) :
  ∃ b off, a = some ⟨b, off, none⟩ ∧ w.cell? ⟨b, off + i, none⟩ = some (.int .u8 (l.getD i 0)) ∧ w.cell? ⟨b, off + (i + 1), none⟩ = some (.int .u8 (l.getD (i + 1) 0)) ∧
   w.cell? ⟨b, off + (i + 2), none⟩ = some (.int .u8 (l.getD (i + 2) 0)) ∧ w.cell? ⟨b, off + (i + 3), none⟩ = some (.int .u8 (l.getD (i + 3) 0)) := by
 rcases h with rfl | ⟨b, off, rfl, hlt, hc⟩
 ·simp at hi
 ·exact ⟨b, off, rfl, hc i (by omega), hc (i + 1) (by omega), hc (i + 2) (by omega), hc (i + 3) (by omega)⟩

def get32 (l : List Int) (p : Int) : Int × Int := if 0 ≤ p ∧ p + 4 ≤ l.length then (l.getD p.toNat 0 * 16777216 + l.getD (p.toNat + 1) 0 * 65536 + l.getD (p.toNat + 2) 0 * 256 + l.getD (p.toNat + 3) 0, p + 4) else (0, -1)

theorem get32_yes {l : List Int} {i : Nat} (hp : 0 ≤ (i : Int) ∧ (i : Int) + 4 ≤ l.length) : get32 l i = (l.getD i 0 * 16777216 + l.getD (i + 1) 0 * 65536 + l.getD (i + 2) 0 * 256 + l.getD (i + 3) 0, (i : Int) + 4) := by
 unfold get32; rw [if_pos hp]; rfl

def Has (w : World) (v : Value) (l : List Int) : Prop :=
 (v = .slice none 0 0 ∧ l = []) ∨ ∃ g off cap, v = .slice (some ⟨g, off, none⟩) l.length cap ∧ g < w.heap.size ∧ l.length ≤ cap ∧ cap ≤ maxLen ∧ ∀ i, i < l.length → w.cell? ⟨g, off + i, none⟩ = some (.int .u8 (l.getD i 0))

theorem Own.has {B : Nat} {e : TypeId} {w : World} {v : Value} {l : List Int} (h : Own B e w v l) : Has w v l := by
 rcases h.form with h | ⟨g, cap, hv, _, hlt, hl, hm, hc, _⟩
 ·exact .inl h
 ·exact .inr ⟨g, 0, cap, hv, hlt, hl, hm, fun i hi => by rw [Nat.zero_add]; exact hc i hi⟩

theorem Has.reads {w : World} {v : Value} {l : List Int} (h : Has w v l) : Reads w v l := by
 rcases h with h | ⟨g, off, cap, hv, _, _, _, hc⟩
 ·exact .inl h
 ·exact .inr ⟨_, cap, hv, fun j hj => by rw [Addr.add_lit]; exact hc j hj⟩

theorem Has.below {w w' : World} {v : Value} {l : List Int} (h : Has w v l) (hb : Below w.heap.size w w') : Has w' v l := by
 rcases h with h | ⟨g, off, cap, hv, hlt, hl, hm, hc⟩
 ·exact .inl h
 ·exact .inr ⟨g, off, cap, hv, Nat.lt_of_lt_of_le hlt hb.size, hl, hm, fun i hi => (hb.cell (p := ⟨g, off + i, none⟩) hlt).trans (hc i hi)⟩

theorem Has.form {w : World} {v : Value} {l : List Int} (h : Has w v l) : ∃ a cap, v = .slice a l.length cap ∧ Lies w a l := by
 rcases h with ⟨rfl, rfl⟩ | ⟨g, off, cap, rfl, hlt, _, _, hc⟩
 ·exact ⟨none, 0, rfl, .inl rfl⟩
 ·exact ⟨_, cap, rfl, .inr ⟨g, off, rfl, hlt, hc⟩⟩

theorem has_const (w : World) (e : TypeId) (l : List Int) (fz : Nat × Nat) (hm : l.length ≤ maxLen) :
  Has (w.alloc (.cells (l.map (Value.int .u8)).toArray e fz)) (.slice (some ⟨w.heap.size, 0, none⟩) l.length l.length) l := by
 refine .inr ⟨w.heap.size, 0, l.length, rfl, by show w.heap.size < (w.heap.push _).size; simp, Nat.le_refl _, hm, fun i hi => ?_⟩
 have hh : (w.alloc (.cells (l.map (Value.int .u8)).toArray e fz)).heap[w.heap.size]? = some (.cells (l.map (Value.int .u8)).toArray e fz) := by
  show (w.heap.push _)[w.heap.size]? = _
  simp
 unfold World.cell?
 simp only [hh]
 rw [Nat.zero_add]
 simpa using map_at l i hi
end Go.Proofs.YthmihglfffeedaaGreatDoor

namespace Go.Proofs.YthmihglfffeedaaGreatDoor
open Go.RowKit

theorem VJ : (Tryz.prog.info? 5).map (fun i => (i.zero, i.size, i.bytes)) = some (some (.int .u8 0), 1, 1) := by kernel_rfl
end Go.Proofs.YthmihglfffeedaaGreatDoor
