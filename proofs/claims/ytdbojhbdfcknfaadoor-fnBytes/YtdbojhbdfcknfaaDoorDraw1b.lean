/-
  Contracts of the specification's DrawDottedRead.
-/
import Derived.Test.YtdbojhbdfcknfaaDoorDraw1
import Derived.Test.YtdbojhbdfcknfaaDoorSDigits
import Derived.Test.YtdbojhbdfcknfaaDoorDotRead
import Derived.Lib.AppendStr
import Derived.Deep.RegionLaw
namespace Go.Proofs.YtdbojhbdfcknfaaDoor
open Go.RowKit
set_option linter.unusedVariables false

/-- A byte that is no great letter. -/
def Small (x : Int) : Prop := 0 ≤ x ∧ x ≤ 255 ∧ (x < 65 ∨ 90 < x)

theorem digs_small (x : Int) (h0 : 0 ≤ x) (h1 : x ≤ 255) : ∀ c ∈ digs x, Small c := by
  intro c hc
  by_cases a : x < 10
  · rw [digs_lt x h0 a] at hc; simp at hc; unfold Small; omega
  · rw [digs_ge x (by omega)] at hc
    by_cases b : x / 10 < 10
    · rw [digs_lt _ (by omega) b] at hc; simp at hc; unfold Small; omega
    · rw [digs_ge (x / 10) (by omega), digs_lt (x / 10 / 10) (by omega) (by omega)] at hc; simp at hc; unfold Small; omega

theorem sdot_small (n : Int) (h0 : 0 ≤ n) (h1 : n ≤ 4294967295) : ∀ c ∈ sdot n 4, Small c := by
  intro c hc
  rw [sdot_idot, idot_four] at hc
  have b := fun j => part_bd n j h0 h1
  simp only [List.mem_append, List.mem_cons] at hc
  rcases hc with h | rfl | h | rfl | h | rfl | h
  all_goals first | exact digs_small _ (b _).1 (b _).2 _ h | (unfold Small; omega)

theorem sdot_pos (n : Int) : 1 ≤ (sdot n 4).length := by
  rw [sdot_idot, idot_four]; simp; omega

theorem strCells_nums (t : List Int) (hb : ∀ x ∈ t, 0 ≤ x ∧ x ≤ 255) : Lib.strCells (strOfNums t) = t.map (Value.int .u8) := by
  rw [Lib.strCells_eq]
  unfold Lib.byteCells
  rw [strOfNums_data, List.map_map]
  apply List.map_congr_left
  intro x hx
  have := hb x hx
  simp only [Function.comp, UInt8.toNat_ofNat']
  congr 1
  omega

section
variable {P : Program} {w : World}

theorem run_append_bytes (t ty e : TypeId) (ht : P.underlying t = some (.slice e)) (hinfo : (P.info? e).map (fun i => (i.zero, i.size, i.bytes)) = some (some (.int .u8 0), 1, 1))
    (base : Nat) (v vx : Value) (l m : List Int) (hown : Own base e w v l) (hr : Reads w vx m) (hlen : l.length + m.length ≤ 1099511627776) (hbase : base ≤ w.heap.size) :
    ∃ v' w', (Builtin.append_ #[t, t] ty #[v, vx]).run P w = .ok v' w' ∧ Own base e w' v' (l ++ m) ∧ w.grownBy w' v.ownBlock := by
  obtain ⟨i0, hi, hz0, hz1, hz2⟩ := info_parts hinfo
  rcases hr with ⟨rfl, rfl⟩ | ⟨ad, cap, rfl, hc⟩
  · exact ⟨v, w, run_append_owned_none w base t ty e i0 1 ht hi v l.length (l.map (Value.int .u8)) hown, by simpa using hown, ⟨rfl, rfl, rfl, Nat.le_refl _, fun _ _ _ => rfl⟩⟩
  · obtain ⟨v', w', h1, h2, h3, _⟩ := run_append_own (P := P) w base t ty e i0 (.int .u8 0) 1 1 ht hi hz0 hz1 hz2 rfl (by decide) v l.length (l.map (Value.int .u8)) hown ad m.length cap (m.map (Value.int .u8)) (by simp) (news_of hc) (one_of m) (by unfold maxLen; omega) (by omega) hbase
    exact ⟨v', w', h1, by simpa [Own] using h2, h3⟩

theorem step_append_bytes {ops : Array Oper} {o : Oper} {a : Act} {K : Act → World → Prop} {Q : Exit → Act → World → Prop} {E : Prop} (hgd : o.guard = none) (s x : Operand) (t e : TypeId)
    (ho : o.op = .call { callee := .builtin .append, args := #[s, x], argTypes := #[t, t] }) (ht : P.underlying t = some (.slice e))
    (hinfo : (P.info? e).map (fun i => (i.zero, i.size, i.bytes)) = some (some (.int .u8 0), 1, 1))
    (base : Nat) (v vx : Value) (l m : List Int) (hs : a.eval s = v) (hx : a.eval x = vx) (hown : Own base e w v l) (hr : Reads w vx m) (hlen : l.length + m.length ≤ 1099511627776) (hbase : base ≤ w.heap.size)
    (h : ∀ v' w', Own base e w' v' (l ++ m) → w.grownBy w' v.ownBlock → K (a.put o.dst v') w') : if Region.wanted o (yielded ops a.tmps) = true then Oper.wp P o a w K Q else E := by
  have hw : Region.wanted o (yielded ops a.tmps) = true := by simp [Region.wanted, hgd]
  rw [if_pos hw]
  obtain ⟨v', w', hr', h2, h3⟩ := run_append_bytes (P := P) t o.type e ht hinfo base v vx l m hown hr hlen hbase
  unfold Oper.wp execOp
  simp only [ho, resolve, invoke, builtin, Sem.run_bind, Sem.run_pure, Result.andThen_ok, List.map_toArray, List.map_cons, List.map_nil, hs, hx, hr']
  exact h v' w' h2 h3

theorem step_append_str {ops : Array Oper} {o : Oper} {a : Act} {K : Act → World → Prop} {Q : Exit → Act → World → Prop} {E : Prop} (hgd : o.guard = none) (s x : Operand) (t u e : TypeId)
    (ho : o.op = .call { callee := .builtin .append, args := #[s, x], argTypes := #[t, u] }) (ht : P.underlying t = some (.slice e)) (hu : P.underlying u = some .string)
    (hinfo : (P.info? e).map (fun i => (i.zero, i.size, i.bytes)) = some (some (.int .u8 0), 1, 1))
    (base : Nat) (v : Value) (l m : List Int) (hs : a.eval s = v) (hx : a.eval x = .string (strOfNums m)) (hm : ∀ c ∈ m, 0 ≤ c ∧ c ≤ 255) (hown : Own base e w v l) (hlen : l.length + m.length ≤ 1099511627776) (hbase : base ≤ w.heap.size)
    (h : ∀ v' w', Own base e w' v' (l ++ m) → w.grownBy w' v.ownBlock → K (a.put o.dst v') w') : if Region.wanted o (yielded ops a.tmps) = true then Oper.wp P o a w K Q else E := by
  have hw : Region.wanted o (yielded ops a.tmps) = true := by simp [Region.wanted, hgd]
  rw [if_pos hw]
  obtain ⟨i0, hi, hz0, hz1, hz2⟩ := info_parts hinfo
  obtain ⟨v', w', hr', h2, h3, _⟩ := Lib.run_append_own_string (P := P) w base t u o.type e i0 ht hu hi hz0 hz1 hz2 v l.length (l.map (Value.int .u8)) hown (strOfNums m) (by rw [strOfNums_size]; unfold maxLen; omega) (by rw [strOfNums_size]; omega) hbase
  have h2' : Own base e w' v' (l ++ m) := by
    rw [strCells_nums m hm, strOfNums_size] at h2
    simpa [Own] using h2
  unfold Oper.wp execOp
  simp only [ho, resolve, invoke, builtin, Sem.run_bind, Sem.run_pure, Result.andThen_ok, List.map_toArray, List.map_cons, List.map_nil, hs, hx, hr']
  exact h v' w' h2' h3
end

theorem Reads.kept {w w' : World} {row : Option Nat} {v : Value} {m : List Int} (h : Reads w v m) (hg : w.grownBy w' row) (hb : ∀ ad n c, v = .slice (some ad) n c → ad.block < w.heap.size ∧ some ad.block ≠ row) : Reads w' v m := by
  rcases h with h | ⟨ad, cap, rfl, hc⟩
  · exact .inl h
  · refine .inr ⟨_, _, rfl, fun j hj => ?_⟩
    have hk := hb ad _ _ rfl
    have e : (ad.add j).block = ad.block := by unfold Addr.add; split <;> rfl
    rw [World.cell?_of_block (w := w) (by rw [e]; exact hg.block _ hk.1 hk.2)]
    exact hc j hj

set_option maxHeartbeats 4000000 in
set_option maxRecDepth 100000 in
theorem drawDottedRead_any {a : Option Addr} {len cap : Nat} {w : World} (l : List Int) (hL : Lies w a l) (hn : l.length = len) (hb : ∀ k, 0 ≤ l.getD k 0 ∧ l.getD k 0 ≤ 255) (hm : len ≤ maxLen) :
    Calls Tryd.prog 15 #[.slice a len cap] w fun e w' => ∃ v m, e = .returned v ∧ Own w.heap.size 5 w' v m ∧ m.length ≤ 40 ∧ (∀ x ∈ m, Small x) ∧ Below w.heap.size w w' := by
  have HM := hide hm
  clear hm
  have HN := hide hn
  clear hn
  go_enter Tryd.func15, Tryd.ntmps15
  go_wp2_with fail
  refine (l1New_any l hL (unhide HN) hb (unhide HM)).mono ?_
  rintro e w1 ⟨rfl, hc1, hL1, b1⟩
  have hlt1 := hc1.lt
  go_wp2_with fail
  refine (l1Below_any 1073741824 hc1 hL1 (unhide HM) (by omega) (by omega)).mono ?_
  rintro e w2 ⟨x, rfl, hx0, hx1, hc2, g2⟩
  have hL2 := hL1.grown g2
  have b2 := below_cursor b1 g2 (fun j e => by simp at e; omega)
  have hs2 := hc2.lt
  go_wp2_with fail
  refine (l1dotted_any x _ hx0 (by omega)).mono ?_
  rintro e w3 ⟨v3, rfl, o3, c3⟩
  have hc3 := hc2.later (grown_of_below c3) (by simp)
  have hL3 := hL2.later (grown_of_below c3) (by simp)
  have b3 := below_next b2 c3
  have hms := hide (sdot_small x hx0 (by omega))
  have hml := sdot_length x hx0 (by omega) 4
  have hmp := sdot_pos x
  generalize sdot x 4 = m at *
  have hne3 : v3.ownBlock = none ∨ v3.ownBlock ≠ some w.heap.size := by
    cases hv : v3.ownBlock with
    | none => exact .inl rfl
    | some j => right; intro e; have := (o3.lt j hv).1; simp at e; omega
  go_wp2_with fail
  refine (l1Once_any 3 hc3 hL3 (unhide HM) (by omega) (by omega)).mono ?_
  rintro e w4 ⟨y, rfl, hc4, g4⟩
  have hL4 := hL3.grown g4
  have b4 := below_cursor b3 g4 (fun j e => by simp at e; omega)
  have o4 := o3.kept g4 hne3
  cases y with
  | false =>
    go_wp2
    go_ret
    exact ⟨v3, m, rfl, o4.mono b2.size, by omega, unhide hms, b4⟩
  | true =>
    rcases o4.form with ⟨rfl, rfl⟩ | ⟨gb, capb, rfl, hgb, hgb2, hcapb, hmaxb, _⟩
    · simp at hmp
    · go_wp2_with fail
      refine (l1Below_any ((m.length : Int) + 1) hc4 hL4 (unhide HM) (by omega) (by omega)).mono ?_
      rintro e w5 ⟨z, rfl, hz0, hz1, hc5, g5⟩
      have hL5 := hL4.grown g5
      have b5 := below_cursor b4 g5 (fun j e => by simp at e; omega)
      have o5 := o4.kept g5 hne3
      obtain ⟨i, rfl⟩ := Int.eq_ofNat_of_zero_le hz0
      go_wp2_with fail
      refine (l1Below_any (w := w5.alloc _) 6 (hc5.later (grown_alloc w5 _ none) (by simp)) (hL5.later (grown_alloc w5 _ none) (by simp)) (unhide HM) (by omega) (by omega)).mono ?_
      rintro e w6 ⟨z6, rfl, hz60, hz61, hc6, g6⟩
      obtain ⟨j, rfl⟩ := Int.eq_ofNat_of_zero_le hz60
      have hlt5 := hc5.lt
      obtain ⟨t, hcell, htl, hts⟩ : ∃ t : List Int, w6.cell? ⟨w5.heap.size, j, none⟩ = some (.string (strOfNums t)) ∧ t.length ≤ 3 ∧ ∀ c ∈ t, Small c := by
        have hk : w6.cell? ⟨w5.heap.size, j, none⟩ = _ := World.cell?_of_block (w := w5.alloc _) (a := ⟨w5.heap.size, j, none⟩) (g6.block w5.heap.size (by simp) (by simp; omega))
        rw [hk]
        match j, (by omega : j < 6) with
        | 0, _ => exact ⟨[48], by simp; rfl, by simp, by simp [Small]⟩
        | 1, _ => exact ⟨[46], by simp; rfl, by simp, by simp [Small]⟩
        | 2, _ => exact ⟨[57], by simp; rfl, by simp, by simp [Small]⟩
        | 3, _ => exact ⟨[120], by simp; rfl, by simp, by simp [Small]⟩
        | 4, _ => exact ⟨[32], by simp; rfl, by simp, by simp [Small]⟩
        | 5, _ => exact ⟨[50, 53, 54], by simp; rfl, by simp, by simp [Small]⟩
      have b6 := below_cursor (b5.alloc b5.size _) g6 (fun j e => by simp at e; omega)
      have o6 : Own w2.heap.size 5 w6 (.slice (some ⟨gb, 0, none⟩) m.length capb) m := (o5.alloc _).kept g6 hne3
      have hz5 : w5.heap.size < w6.heap.size := by have := g6.size; simp at this; omega
      generalize hq : w5.heap.size = q5 at *
      clear hq
      have hi : i ≤ m.length := by omega
      have hgb6 : gb < w6.heap.size := (o6.lt gb rfl).2
      have hb6 := b6.size
      have hwb : w.heap.size ≤ gb := Nat.le_trans b2.size hgb
      go_wp2
      clear g2 g4 g5 g6 c3 hc1 hc2 hc3 hc4 hc5 hc6 hL1 hL2 hL3 hL4 hL5 o3 o4 o5 b1 b2 b3 b4 b5 hcell hb hL hne3 hlt1 hlt5 hs2 hz0 hz60 hz61
      have HMS := hide (fun c (hc : c ∈ m) => unhide hms c hc)
      have HTS := hide hts
      clear hts hms
      have hic : i ≤ capb := by omega
      have hic' : (i : Int) ≤ (capb : Int) := by omega
      have hi0' : (0 : Int) ≤ (i : Int) := by omega
      have hil' : (i : Int) ≤ (m.length : Int) := by omega
      have A1 : Own w6.heap.size 5 (w6.alloc (.cells #[] 5)).drew (.slice (some ⟨w6.heap.size, 0, none⟩) 0 0) [] := own_lit w6 w6.heap.size 5 [] (Nat.le_refl _) (by simp)
      have oA := o6.alloc (.cells #[] 5)
      have A2 : Reads (w6.alloc (.cells #[] 5)).drew (.slice (some ⟨gb, 0, none⟩) i capb) (m.take i) := by
        have := sub_reads (i := 0) (m := i) oA rfl (by omega) 0 capb (.inl rfl)
        rw [List.drop_zero] at this
        exact this
      have A3 : Reads (w6.alloc (.cells #[] 5)).drew (.slice (if capb = i then some ⟨gb, 0, none⟩ else some ⟨gb, i, none⟩) (m.length - i) (capb - i)) (m.drop i) := by
        have := sub_reads_if (i := i) (m := m.length - i) oA rfl (by omega) hcapb
        rw [show i + (m.length - i) - i = m.length - i from by omega, List.take_of_length_le (by simp)] at this
        exact this
      have hblk : ∀ ad n c, (Value.slice (if capb = i then some ⟨gb, 0, none⟩ else some ⟨gb, i, none⟩) (m.length - i) (capb - i)) = .slice (some ad) n c → ad.block = gb := by
        intro ad n c e
        simp only [Value.slice.injEq] at e
        have e1 := e.1
        split at e1
        · simp at e1; rw [← e1]
        · simp at e1; rw [← e1]
      have HA1 := hide A1
      have HA2 := hide A2
      have HA3 := hide A3
      have HBL := hide hblk
      clear A1 A2 A3 hblk oA
      have htb := hide (fun c (hc : c ∈ t) => (show 0 ≤ c ∧ c ≤ 255 from ⟨(unhide HTS c hc).1, (unhide HTS c hc).2.1⟩))
      go_region_law (first
        | (refine step_append_bytes rfl (.tmp 24) (.tmp 27) 22 5 rfl Tryd.underlying22 info_u8 w6.heap.size (.slice (some ⟨w6.heap.size, 0, none⟩) 0 0) (.slice (some ⟨gb, 0, none⟩) i capb) [] (m.take i) (by simp [Act.eval]) (by simp [Act.eval]) (unhide HA1) (unhide HA2) (by simp; omega) (by simp) ?_; intro v1 w7 o7 g7)
        | (refine step_append_str rfl (.tmp 28) (.tmp 29) 22 9 5 rfl Tryd.underlying22 Tryd.underlying9 info_u8 w6.heap.size v1 ([] ++ m.take i) t (by simp [Act.eval]) (by simp [Act.eval]) (unhide htb) o7 (by simp; omega) (by have := g7.size; simp at this; omega) ?_; intro v2 w8 o8 g8)
        | (refine step_append_bytes rfl (.tmp 30) (.tmp 33) 22 5 rfl Tryd.underlying22 info_u8 w6.heap.size v2 (.slice (if capb = i then some ⟨gb, 0, none⟩ else some ⟨gb, i, none⟩) (m.length - i) (capb - i)) ([] ++ m.take i ++ t) (m.drop i) (by simp [Act.eval]) (by simp [Act.eval]) o8 (((unhide HA3).kept g7 (fun ad n c e => by rw [unhide HBL ad n c e]; exact ⟨by simp; omega, by simp [Value.ownBlock]; omega⟩)).kept g8 (fun ad n c e => by rw [unhide HBL ad n c e]; exact ⟨by have := g7.size; simp at this; omega, by intro e2; have := (o7.lt gb e2.symm).1; omega⟩)) (by simp; omega) (by have := g7.size; have := g8.size; simp at *; omega) ?_; intro v3 w9 o9 g9))
      all_goals
        have b7 : Below w.heap.size w w7 := ((b6.alloc hb6 _).drew).grown g7 (by show w.heap.size ≤ (w6.alloc _).heap.size; simp; omega) (fun k hk => by simp [Value.ownBlock] at hk; omega)
        have b8 : Below w.heap.size w w8 := b7.grown g8 b7.size (fun k hk => Nat.le_trans hb6 (o7.lt k hk).1)
        have b9 : Below w.heap.size w w9 := b8.grown g9 b8.size (fun k hk => Nat.le_trans hb6 (o8.lt k hk).1)
        clear g7 g8 g9
        have hlen9 : ([] ++ m.take i ++ t ++ m.drop i).length ≤ 40 := by simp; omega
        have hall9 : ∀ c ∈ [] ++ m.take i ++ t ++ m.drop i, Small c := by
          intro c hc
          simp only [List.nil_append, List.mem_append] at hc
          rcases hc with (hc | hc) | hc
          · exact unhide HMS c (List.mem_of_mem_take hc)
          · exact unhide HTS c hc
          · exact unhide HMS c (List.mem_of_mem_drop hc)
        have H9 := hide (show ∃ m', Own w.heap.size 5 w9 v3 m' ∧ m'.length ≤ 40 ∧ (∀ x ∈ m', Small x) ∧ Below w.heap.size w w9 from ⟨_, o9.mono hb6, hlen9, hall9, b9⟩)
        clear hlen9 hall9
        go_wp2
        all_goals
          go_ret
          exact ⟨v3, rfl, unhide H9⟩
end Go.Proofs.YtdbojhbdfcknfaaDoor
