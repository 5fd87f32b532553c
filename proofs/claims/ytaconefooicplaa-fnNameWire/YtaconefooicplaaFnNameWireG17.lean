/-
  Plain facts: an append of a text's bytes; what may be read of a slice of bytes while a row grows. Contract of the specification's l1spoil: a text with one byte turned, taken away or more.
-/
import Derived.Test.YtaconefooicplaaFnNameWireG08
import Derived.Test.YtaconefooicplaaFnNameWireG14
import Derived.Lib.AppendStr
import Derived.Lib.UnsafeStr
import Derived.Deep.RegionLaw
import Derived.Test.YtaconefooicplaaFnNameWireG12
namespace Go.Proofs.Ytaconefooicplaa
open Go.RowKit
set_option linter.unusedVariables false

theorem strCells_text (t : List Int) (hb : ∀ x ∈ t, 0 ≤ x ∧ x ≤ 255) : Lib.strCells (strOfNums t) = t.map (Value.int .u8) := by
  rw [Lib.strCells_eq]
  unfold Lib.byteCells
  rw [strOfNums_data, List.map_map]
  apply List.map_congr_left
  intro x hx
  have := hb x hx
  simp only [Function.comp, UInt8.toNat_ofNat']
  congr 1
  omega

section
variable {P : Program} {w : World}

theorem step_append_text {ops : Array Oper} {o : Oper} {a : Act} {K : Act → World → Prop} {Q : Exit → Act → World → Prop} {E : Prop} (hgd : o.guard = none) (s x : Operand) (t u e : TypeId)
    (ho : o.op = .call { callee := .builtin .append, args := #[s, x], argTypes := #[t, u] }) (ht : P.underlying t = some (.slice e)) (hu : P.underlying u = some .string)
    (hinfo : (P.info? e).map (fun i => (i.zero, i.size, i.bytes)) = some (some (.int .u8 0), 1, 1))
    (base : Nat) (v : Value) (l m : List Int) (hs : a.eval s = v) (hx : a.eval x = .string (strOfNums m)) (hm : ∀ c ∈ m, 0 ≤ c ∧ c ≤ 255) (hown : Own base e w v l) (hlen : l.length + m.length ≤ 1099511627776) (hbase : base ≤ w.heap.size)
    (h : ∀ v' w', Own base e w' v' (l ++ m) → w.grownBy w' v.ownBlock → K (a.put o.dst v') w') : if Region.wanted o (yielded ops a.tmps) = true then Oper.wp P o a w K Q else E := by
  have hw : Region.wanted o (yielded ops a.tmps) = true := by simp [Region.wanted, hgd]
  rw [if_pos hw]
  obtain ⟨i0, hi, hz0, hz1, hz2⟩ := info_parts hinfo
  obtain ⟨v', w', hr', h2, h3, _⟩ := Lib.run_append_own_string (P := P) w base t u o.type e i0 ht hu hi hz0 hz1 hz2 v l.length (l.map (Value.int .u8)) hown (strOfNums m) (by rw [strOfNums_size]; unfold maxLen; omega) (by rw [strOfNums_size]; omega) hbase
  have h2' : Own base e w' v' (l ++ m) := by
    rw [strCells_text m hm, strOfNums_size] at h2
    simpa [Own] using h2
  unfold Oper.wp execOp
  simp only [ho, resolve, invoke, builtin, Sem.run_bind, Sem.run_pure, Result.andThen_ok, List.map_toArray, List.map_cons, List.map_nil, hs, hx, hr']
  exact h v' w' h2' h3
end

theorem Reads.keptS {w w' : World} {row : Option Nat} {v : Value} {m : List Int} (h : Reads w v m) (hg : w.grownBy w' row) (hb : ∀ ad n c, v = .slice (some ad) n c → ad.block < w.heap.size ∧ some ad.block ≠ row) : Reads w' v m := by
  rcases h with h | ⟨ad, cap, rfl, hc⟩
  · exact .inl h
  · refine .inr ⟨_, _, rfl, fun j hj => ?_⟩
    have hk := hb ad _ _ rfl
    have e : (ad.add j).block = ad.block := by unfold Addr.add; split <;> rfl
    rw [World.cell?_of_block (w := w) (by rw [e]; exact hg.block _ hk.1 hk.2)]
    exact hc j hj

/-- A part of a slice that has its bytes, and where it lies. -/
theorem Has.part {w : World} {g off len cap : Nat} {l : List Int} (h : Has w (.slice (some ⟨g, off, none⟩) len cap) l) {i m : Nat} (hi : i + m ≤ l.length) (o c : Nat) (ho : o = off + i ∨ m = 0) : Reads w (.slice (some ⟨g, o, none⟩) m c) ((l.drop i).take m) := by
  have hlen : ((l.drop i).take m).length = m := by simp; omega
  refine .inr ⟨⟨g, o, none⟩, c, by rw [hlen], fun j hj => ?_⟩
  rw [hlen] at hj
  obtain rfl : o = off + i := by omega
  rcases h with ⟨hv, _⟩ | ⟨g', off', cap', hv, _, _, _, hc⟩
  · cases hv
  · simp only [Value.slice.injEq, Option.some.injEq, Addr.mk.injEq] at hv
    obtain ⟨⟨rfl, rfl, _⟩, _, _⟩ := hv
    rw [Addr.add_lit, Nat.add_assoc, hc (i + j) (by omega)]
    congr 2
    simp only [List.getD_eq_getElem?_getD]
    rw [List.getElem?_take_of_lt hj, List.getElem?_drop]
theorem Has.head {w : World} {g off len cap : Nat} {l : List Int} (h : Has w (.slice (some ⟨g, off, none⟩) len cap) l) {i : Nat} (hi : i ≤ l.length) : Has w (.slice (some ⟨g, off, none⟩) i cap) (l.take i) := by
  have e : (l.take i).length = i := by simp; omega
  rcases h with ⟨hv, _⟩ | ⟨g', off', cap', hv, h1, h2, h3, hc⟩
  · cases hv
  · simp only [Value.slice.injEq, Option.some.injEq, Addr.mk.injEq] at hv
    obtain ⟨⟨rfl, rfl, _⟩, _, rfl⟩ := hv
    refine .inr ⟨g, off, cap, by rw [e], h1, by rw [e]; omega, h3, fun k hk => ?_⟩
    rw [e] at hk
    rw [hc k (by omega)]
    congr 2
    simp only [List.getD_eq_getElem?_getD]
    rw [List.getElem?_take_of_lt hk]
theorem Has.off {q : Nat} {eb t : TypeId} {w w' : World} {x : Value} {l : List Int} {c : Array Value} (h : Has w x l) (ht : Typed eb w x) (hk : w.heap[q]? = some (.cells c t)) (hne : t ≠ eb) (hg : w.grownBy w' (some q)) : Has w' x l ∧ Typed eb w' x := by
  have key : ∀ g off len cap, x = .slice (some ⟨g, off, none⟩) len cap → w'.heap[g]? = w.heap[g]? := fun g off len cap e => by
    obtain ⟨c', fr, h1⟩ := ht g off len cap e
    refine hg.block g (block_lt h1) ?_
    intro e'
    have e2 : g = q := by simpa using e'
    subst e2
    rw [hk] at h1
    simp at h1
    exact hne h1.2.1
  refine ⟨?_, fun g off len cap e => ?_⟩
  · rcases h with h | ⟨g, off, cap, e, h1, h2, h3, h4⟩
    · exact .inl h
    · refine .inr ⟨g, off, cap, e, Nat.lt_of_lt_of_le h1 hg.size, h2, h3, fun i hi => ?_⟩
      have hc := h4 i hi
      unfold World.cell? at hc ⊢
      rw [key g off _ cap e]
      exact hc
  · obtain ⟨c', fr, h1⟩ := ht g off len cap e
    exact ⟨c', fr, (key g off len cap e).trans h1⟩
theorem Has.cur {g len cap : Nat} {a : Option Addr} {w w' : World} {x : Value} {l : List Int} (h : Has w x l) (ht : Typed 5 w x) (hc : Cur w g a len cap) (hg : w.grownBy w' (some g)) : Has w' x l ∧ Typed 5 w' x := by
  obtain ⟨i, y, h1, _⟩ := hc
  exact h.off ht h1 (by decide) hg
theorem Has.slot {w : World} {x : Value} {l : List Int} (h : Has w x l) (hl : 1 ≤ l.length) : ∃ g off cap, x = .slice (some ⟨g, off, none⟩) l.length cap ∧ g < w.heap.size ∧ l.length ≤ cap ∧ cap ≤ maxLen := by
  rcases h with ⟨_, rfl⟩ | ⟨g, off, cap, e, h1, h2, h3, _⟩
  · simp at hl
  · exact ⟨g, off, cap, e, h1, h2, h3⟩
end Go.Proofs.Ytaconefooicplaa

namespace Go.Proofs.Ytaconefooicplaa
open Go.RowKit
set_option linter.unusedVariables false

theorem Own.prefix {B g n cap : Nat} {e : TypeId} {w : World} {l : List Int} (h : Own B e w (.slice (some ⟨g, 0, none⟩) n cap) l) (hn : l.length = n) {i : Nat} (hi : i ≤ n) : Own B e w (.slice (some ⟨g, 0, none⟩) i cap) (l.take i) := by
  subst hn
  have hl : (l.take i).length = i := by simp; omega
  rcases h.2 with ⟨hv, _⟩ | ⟨g', cap', cur, hv, hb, hg, h1, h2, h3, h4⟩
  · cases hv
  · simp only [Value.slice.injEq, Option.some.injEq, Addr.mk.injEq, true_and, and_true] at hv
    obtain ⟨rfl, rfl⟩ := hv
    refine ⟨by simp, .inr ⟨g, cap, cur, by rw [hl], hb, hg, by rw [hl]; omega, h2, h3, ?_⟩⟩
    rw [hl, Nat.mul_one]
    rw [Nat.mul_one] at h4
    have : cur.toList.take i = (cur.toList.take l.length).take i := by rw [List.take_take]; congr 1; omega
    rw [this, h4, ← List.map_take]
/-- What l1spoil answers. -/
def Spoilt (w : World) (g : Nat) (a : Option Addr) (len cap : Nat) (l : List Int) (e : Ending) (w' : World) : Prop :=
  ∃ v' l', e = .returned v' ∧ Own w.heap.size 5 w' v' l' ∧ l'.length ≤ l.length + 1 ∧ (∀ x ∈ l', 0 ≤ x ∧ x ≤ 255) ∧ Cur w' g a len cap ∧ w.grownBy w' (some g)

theorem mem_set_bytes {l : List Int} {i : Nat} {y : Int} (h : ∀ x ∈ l, 0 ≤ x ∧ x ≤ 255) (hy : 0 ≤ y ∧ y ≤ 255) : ∀ x ∈ l.set i y, 0 ≤ x ∧ x ≤ 255 := by
  intro x hx
  rcases List.mem_or_eq_of_mem_set hx with hx | rfl
  · exact h x hx
  · exact hy

set_option maxHeartbeats 800000 in
set_option maxRecDepth 100000 in
theorem l1spoil_any {g : Nat} {a : Option Addr} {len cap : Nat} {w : World} {vb : Value} {l : List Int} (hc : Cur w g a len cap) (hL : Code w g a len) (hm : len ≤ maxLen) (u : Has w vb l) (hl0 : 1 ≤ l.length) (hl1 : l.length ≤ 400) (hb : ∀ x ∈ l, 0 ≤ x ∧ x ≤ 255) :
    Calls Try.prog 60 #[.pointer (some ⟨g, 0, none⟩), vb] w (Spoilt w g a len cap l) := by
  have hg := hc.lt
  have be := below_alloc (w := w) (.cells #[] 5)
  obtain ⟨gb, offb, capb, rfl, _, hcapb, hmaxb⟩ := u.slot hl0
  have A1 : Own w.heap.size 5 (w.alloc (.cells #[] 5)) (.slice (some ⟨w.heap.size, 0, none⟩) 0 0) [] := own_lit w w.heap.size 5 [] (Nat.le_refl _) (by simp)
  have HA1 := hide A1
  have A2 := hide (u.below be).reads
  have HC := hide hc
  have HLL := hide hL
  have HB := hide hb
  have HM := hide hm
  have BE := hide be
  have ze : w.heap.size ≤ (w.alloc (.cells #[] 5)).heap.size := be.size
  clear hc hL hb hm u A1 be
  go_enter Try.func60, Try.ntmps60
  go_wp2_with (at_builtin; refine append_bytes rfl _ _ 22 5 rfl Try.underlying22 info_u8 w.heap.size (.slice (some ⟨w.heap.size, 0, none⟩) 0 0) (.slice (some ⟨gb, offb, none⟩) l.length capb) [] l rfl rfl (unhide HA1) (unhide A2) (by simp; omega) ze ?_)
  intro v1 w1 o1 g1
  try rw [List.nil_append] at o1
  have b1 : Below w.heap.size w w1 := (unhide BE).grown g1 ze (fun k hk => by simp [Value.ownBlock] at hk; omega)
  have gw1 : w.grownBy w1 (some g) := ⟨b1.os, b1.tape, b1.output, b1.size, fun i hi _ => b1.block i hi⟩
  have c1 := (unhide HC).later (grown_of_below b1) (by simp)
  have L1 := (unhide HLL).later (grown_of_below b1) (by simp)
  obtain ⟨p1, q1, r1, rfl, _, hr1, hm1⟩ := o1.has.slot hl0
  obtain rfl : q1 = 0 := by
    rcases o1.form with ⟨e, _⟩ | ⟨g', cap', e, _⟩
    · cases e
    · simp at e; exact e.1.2
  have hp1 := o1.lt p1 rfl
  have hn0 : ((l.length : Int) == 0) = false := by rw [beq_eq_false_iff_ne]; omega
  have HB1 := hide (l1Below_any (l.length : Int) c1 L1 (unhide HM) (by omega) (by omega))
  have O1 := hide o1
  have GW1 := hide gw1
  have hne : (Value.slice (some ⟨p1, 0, none⟩) l.length r1).ownBlock = none ∨ (Value.slice (some ⟨p1, 0, none⟩) l.length r1).ownBlock ≠ some g := .inr (by simp [Value.ownBlock]; omega)
  have HNE := hide hne
  have HLC := hide L1
  clear g1 b1 gw1 c1 L1 o1 HA1 A2 BE HC HLL hne
  go_wp2_with fail
  refine (unhide HB1).mono ?_
  rintro e w2 ⟨z, rfl, hz0, hz1, c2, g2⟩
  obtain ⟨i, rfl⟩ := Int.eq_ofNat_of_zero_le hz0
  have L2 := (unhide HLC).grown g2
  have HB2 := hide (l1Below_any 4 c2 L2 (unhide HM) (by omega) (by omega))
  have O2 := hide ((unhide O1).kept g2 (unhide HNE))
  have GW2 := hide (grown_trans (unhide GW1) g2)
  have HL2 := hide L2
  have hzz : w1.heap.size ≤ w2.heap.size := g2.size
  clear HB1 O1 GW1 HLC c2 L2 g2
  go_wp2_with fail
  refine (unhide HB2).mono ?_
  rintro e w3 ⟨x, rfl, hx0, hx1, c3, g3⟩
  have L3 := (unhide HL2).grown g3
  have O3 := hide ((unhide O2).kept g3 (unhide HNE))
  have GW3 := hide (grown_trans (unhide GW2) g3)
  have C3 := hide c3
  have HL3 := hide L3
  have HBY := hide (l1Byte_any c3 L3 (unhide HM))
  have zz3 := g3.size
  have hil : i < l.length := by omega
  have hx : x = 0 ∨ x = 1 ∨ x = 2 ∨ x = 3 := by omega
  clear HB2 O2 GW2 HL2 c3 L3 g3 hx0 hx1
  rcases hx with rfl | rfl | rfl | rfl
  · go_wp2_with fail
    refine (unhide HBY).mono ?_
    rintro e w4 ⟨y, rfl, hy0, hy1, c4, g4⟩
    have O4 := hide ((unhide O3).kept g4 (unhide HNE))
    have GW4 := hide (grown_trans (unhide GW3) g4)
    have C4 := hide c4
    have hwy : IntKind.u8.wrap y = y := by
      obtain ⟨q, rfl⟩ := Int.eq_ofNat_of_zero_le hy0
      exact wrap_u8 _ (by omega)
    have hcl := World.ownsRow.cellAt (unhide O4) i (by omega)
    rw [map_at l i hil] at hcl
    have hfz := World.ownsRow.frozenAt (unhide O4) i
    have hst := World.ownsRow.stored (unhide O4) i (.int .u8 y)
    have e5 : (l.map (Value.int .u8)).set i (.int .u8 y) = (l.set i y).map (Value.int .u8) := by rw [List.map_set]
    rw [e5] at hst
    have OS : Own w.heap.size 5 (w4.setCell ⟨p1, i, none⟩ (.int .u8 y)) (.slice (some ⟨p1, 0, none⟩) l.length r1) (l.set i y) := by
      have := hst.1
      show World.ownsRow _ _ _ 1 _ (l.set i y).length _
      rw [List.length_set]
      exact this
    have HOS := hide OS
    have GS := hide (grown_setCell w4 ⟨p1, i, none⟩ (.int .u8 y))
    clear hst OS e5
    have hii : (i : Int) < l.length := by omega
    clear HBY O3 GW3 C3 HL3 c4 g4
    go_wp2_with fail
    go_ret
    exact ⟨_, l.set i y, rfl, unhide HOS, by rw [List.length_set]; omega, mem_set_bytes (unhide HB) ⟨hy0, hy1⟩, (unhide C4).later (unhide GS) (fun j e => by cases e; omega), grown_own (unhide GW4) (unhide GS) (fun j e => by cases e; omega)⟩
  · have OD : Own w.heap.size 5 w3.drew (.slice (some ⟨p1, 0, none⟩) l.length r1) l := (unhide O3).below (below_drew (w := w3))
    have P1 := hide (OD.prefix rfl (i := i) (by omega))
    have R1 : Reads w3.drew (.slice (if r1 = i + 1 then some ⟨p1, 0, none⟩ else some ⟨p1, i + 1, none⟩) (l.length - (i + 1)) (r1 - (i + 1))) (l.drop (i + 1)) := by
      have := sub_reads_if (i := i + 1) (m := l.length - (i + 1)) OD rfl (by omega) hr1
      rw [show i + 1 + (l.length - (i + 1)) - (i + 1) = l.length - (i + 1) from by omega, List.take_of_length_le (by simp)] at this
      exact this
    have HR1 := hide R1
    have hi1 : (0 : Int) ≤ (i : Int) := by omega
    have hi6 : (0 : Int) ≤ (i : Int) + 1 := by omega
    have hi2 : (i : Int) ≤ (r1 : Int) := by omega
    have hi3 : (i : Int) + 1 ≤ (l.length : Int) := by omega
    have hi4 : IntKind.i64.wrap ((i : Int) + 1) = ((i + 1 : Nat) : Int) := by rw [show ((i : Int) + 1) = ((i + 1 : Nat) : Int) by omega]; exact wrap_small _ (by omega)
    have hi5 : ((i + 1 : Nat) : Int) ≤ (r1 : Int) := by omega
    have hlt1 : (l.take i).length + (l.drop (i + 1)).length ≤ l.length := by simp; omega
    have HZ : w.heap.size ≤ w3.drew.heap.size := by show w.heap.size ≤ w3.heap.size; omega
    clear OD R1 HBY HL3
    go_wp2_with fail
    go_region_law (first
      | (refine step_append_bytes rfl (.tmp 42) (.tmp 46) 22 5 rfl Try.underlying22 info_u8 w.heap.size (.slice (some ⟨p1, 0, none⟩) i r1) (.slice (if r1 = i + 1 then some ⟨p1, 0, none⟩ else some ⟨p1, i + 1, none⟩) (l.length - (i + 1)) (r1 - (i + 1))) (l.take i) (l.drop (i + 1)) (by simp [Act.eval, Act.put]) (by simp [Act.eval, Act.put]) (unhide P1) (unhide HR1) (by omega) HZ ?_; intro v5 w5 o5 g5))
    all_goals
      have gd : w3.grownBy w3.drew none := ⟨rfl, rfl, rfl, Nat.le_refl _, fun _ _ _ => rfl⟩
      have C5 := hide (((unhide C3).later gd (fun j e => by cases e)).later g5 (fun j e => by simp [Value.ownBlock] at e; omega))
      have GW5 := hide (grown_own (grown_own (unhide GW3) gd (fun j e => by cases e)) g5 (fun j e => by simp [Value.ownBlock] at e; omega))
      have O5 := hide o5
      clear o5 g5 gd
      go_wp2_with fail
      all_goals
        go_ret
        exact ⟨_, l.take i ++ l.drop (i + 1), rfl, unhide O5, by rw [List.length_append]; omega, fun c hc => by
          rcases List.mem_append.1 hc with h | h
          · exact unhide HB c (List.mem_of_mem_take h)
          · exact unhide HB c (List.mem_of_mem_drop h), unhide C5, unhide GW5⟩
  · go_wp2_with fail
    refine (unhide HBY).mono ?_
    rintro e w4 ⟨y, rfl, hy0, hy1, c4, g4⟩
    have O4 := hide ((unhide O3).kept g4 (unhide HNE))
    have GW4 := hide (grown_trans (unhide GW3) g4)
    have C4 := hide c4
    have hwy : IntKind.u8.wrap y = y := by
      obtain ⟨q, rfl⟩ := Int.eq_ofNat_of_zero_le hy0
      exact wrap_u8 _ (by omega)
    have RY := hide (own_lit w4 0 5 [y] (Nat.zero_le _) (by simp [maxLen])).reads
    have zz4 := g4.size
    have za := (below_alloc (w := w4) (.cells #[.int .u8 y] 5)).size
    have GA := hide (grown_alloc w4 (.cells #[.int .u8 y] 5) none)
    clear HBY O3 GW3 C3 HL3 c4 g4
    go_wp2_with (at_builtin; refine append_bytes rfl _ _ 22 5 rfl Try.underlying22 info_u8 w.heap.size (.slice (some ⟨p1, 0, none⟩) l.length r1) _ l [y] rfl rfl ((unhide O4).alloc _) (unhide RY) (by simp; omega) (by omega) ?_)
    intro v5 w5 o5 g5
    have C5 := hide (((unhide C4).later (unhide GA) (fun j e => by cases e)).later g5 (fun j e => by simp [Value.ownBlock] at e; omega))
    have GW5 := hide (grown_own (grown_own (unhide GW4) (unhide GA) (fun j e => by cases e)) g5 (fun j e => by simp [Value.ownBlock] at e; omega))
    have O5 := hide o5
    clear o5 g5
    go_wp2_with fail
    go_ret
    exact ⟨_, l ++ [y], rfl, unhide O5, by simp, fun c hc => by
      rcases List.mem_append.1 hc with h | h
      · exact unhide HB c h
      · simp at h; omega, unhide C5, unhide GW5⟩
  · have hcb : 0 ≤ l.getD i 0 ∧ l.getD i 0 ≤ 255 := by
      have e : l.getD i 0 = l[i] := by simp [hil]
      rw [e]
      exact unhide HB _ (List.getElem_mem hil)
    have O4 := O3
    have GW4 := GW3
    have C4 := C3
    have hcl := World.ownsRow.cellAt (unhide O4) i (by omega)
    rw [map_at l i hil] at hcl
    generalize l.getD i 0 = c at *
    have hy0 : 0 ≤ (c + 1) % 256 := by omega
    have hy1 : (c + 1) % 256 ≤ 255 := by omega
    have hfz := World.ownsRow.frozenAt (unhide O4) i
    have hst := World.ownsRow.stored (unhide O4) i (.int .u8 ((c + 1) % 256))
    have e5 : (l.map (Value.int .u8)).set i (.int .u8 ((c + 1) % 256)) = (l.set i ((c + 1) % 256)).map (Value.int .u8) := by rw [List.map_set]
    rw [e5] at hst
    have OS : Own w.heap.size 5 (w3.setCell ⟨p1, i, none⟩ (.int .u8 ((c + 1) % 256))) (.slice (some ⟨p1, 0, none⟩) l.length r1) (l.set i ((c + 1) % 256)) := by
      have := hst.1
      show World.ownsRow _ _ _ 1 _ (l.set i ((c + 1) % 256)).length _
      rw [List.length_set]
      exact this
    have HOS := hide OS
    have GS := hide (grown_setCell w3 ⟨p1, i, none⟩ (.int .u8 ((c + 1) % 256)))
    clear hst OS e5
    have hii : (i : Int) < l.length := by omega
    clear HBY O3 GW3 C3 HL3
    go_wp2_with fail
    go_ret
    exact ⟨_, l.set i ((c + 1) % 256), rfl, unhide HOS, by rw [List.length_set]; omega, mem_set_bytes (unhide HB) ⟨hy0, hy1⟩, (unhide C4).later (unhide GS) (fun j e => by cases e; omega), grown_own (unhide GW4) (unhide GS) (fun j e => by cases e; omega)⟩
end Go.Proofs.Ytaconefooicplaa
