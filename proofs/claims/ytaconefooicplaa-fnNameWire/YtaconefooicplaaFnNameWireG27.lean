/-
  Contracts of the laws' names: a name is read, and written. Contract of the specification's DrawNameRead: a drawn text, perhaps not one of a name.
-/
import Derived.Test.YtaconefooicplaaFnNameWireG20
import Derived.Test.YtaconefooicplaaFnNameWireG26
import Derived.Lib.SlBytesConst
import Derived.Test.YtaconefooicplaaFnNameWireG17
import Derived.Test.YtaconefooicplaaFnNameWireG19
import Derived.Test.YtaconefooicplaaFnNameWireG11
import Derived.Test.YtaconefooicplaaFnNameWireG12
namespace Go.Proofs.Ytaconefooicplaa
open Go.RowKit
set_option linter.unusedVariables false

theorem nameRead_ab : nameRead [65, 46, 98] = ([[97], [98]], true) := by decide +kernel
theorem nameText_ab : nameText [[97], [98]] = [97, 46, 98, 46] := by decide +kernel
theorem bytes8_of {l : List Int} (h : ∀ x ∈ l, 0 ≤ x ∧ x ≤ 255) : Bytes8 l := fun k => by
  rw [List.getD_eq_getElem?_getD]
  cases hk : l[k]? with
  | none => simp
  | some y => exact h y (List.mem_of_getElem? hk)

set_option maxHeartbeats 1000000 in
set_option maxRecDepth 100000 in
theorem names_any (w : World) : Calls Try.prog 13 #[] w fun e w' => e = .returned (.bool true) ∧ Below w.heap.size w w' := by
  have hcid := fun (w : World) (C : Array Value) (n c : Nat) => Lib.run_convert_bytes_const (P := Try.prog) w 22 5 C n c Try.underlying22 Try.underlying5
  have b0 := below_alloc (w := w) (.cells #[.int .u8 65, .int .u8 46, .int .u8 98] 5 (3, 4))
  have HR := implNameRead_has (l := [65, 46, 98]) (has_const w 5 [65, 46, 98] (3, 4) (by simp [maxLen])) (by simp) (bytes8_of (by simp))
  rw [nameRead_ab] at HR
  have HR := hide HR
  have HT := hide (fun (w : World) (v : Value) (h : HasL w v [[97], [98]]) => implNameText_has h)
  have HTB := hide nameText_ab
  go_enter Try.func13, Try.ntmps13
  go_wp2_with fail
  refine (unhide HR).mono ?_
  rintro e w1 ⟨v1, rfl, o1, b1⟩
  obtain ⟨oa, oc, rfl, _⟩ := o1.hasL.form
  have bm := below_alloc (w := w1) (.cells #[.slice oa 2 oc] 25)
  have K2 := hide (heap_alloc_new w1 (.cells #[.slice oa 2 oc] 25))
  have O2 := hide (o1.below bm).hasL
  have bb2 := below_next (below_next b0 b1) bm
  clear o1 b1 bm b0 HR
  have c2 := block_one (unhide K2)
  go_wp2_with fail
  generalize w1.alloc (.cells #[.slice oa 2 oc] 25) = w2 at *
  refine (unhide HT _ _ (unhide O2)).mono ?_
  rw [unhide HTB]
  rintro e w3 ⟨v3, rfl, o3, b3⟩
  have bb3 := below_next bb2 b3
  clear c2 K2 O2 bb2 b3
  have b4 := below_alloc (w := w3) (.cells #[.int .u8 97, .int .u8 46, .int .u8 98, .int .u8 46] 5 (4, 5))
  have HS := same_has (o3.alloc (.cells #[.int .u8 97, .int .u8 46, .int .u8 98, .int .u8 46] 5 (4, 5))).has (has_const w3 5 [97, 46, 98, 46] (4, 5) (by simp [maxLen])) (by simp) (by simp)
  rw [decide_eq_true rfl] at HS
  have HS := hide HS
  obtain ⟨va, vc, rfl, _⟩ := o3.lies
  clear o3
  go_wp2_with fail
  refine (unhide HS).mono ?_
  rintro e w4 ⟨rfl, rfl⟩
  go_wp2_with fail
  go_ret
  exact ⟨rfl, below_next bb3 b4⟩
end Go.Proofs.Ytaconefooicplaa

namespace Go.Proofs.Ytaconefooicplaa
open Go.RowKit
set_option linter.unusedVariables false

theorem nameRead_always (l : List Int) : nameOk (nameRead l).1 = true := by
  unfold nameRead
  split
  · decide
  · split
    · assumption
    · decide
theorem nameText_pos {n : List (List Int)} (h : nameOk n = true) : 1 ≤ (nameText n).length := by
  by_cases h0 : n.length = 0
  · rw [nameText_root h h0]
    simp
  · rw [nameText_some h h0]
    match n, h0 with
    | l :: n, _ =>
      rw [dots_cons]
      simp
      omega
/-- What DrawNameRead answers. -/
def DrawnText (w : World) (e : Ending) (w' : World) : Prop := ∃ v m, e = .returned v ∧ Has w' v m ∧ m.length ≤ 200 ∧ (∀ x ∈ m, 0 ≤ x ∧ x ≤ 255) ∧ Below w.heap.size w w'
def textsR : List (List Int) := [[46], [65], [120], [95], [45], [97, 98, 99, 100, 101, 102, 103, 104, 105, 106, 107, 108]]

set_option maxHeartbeats 2000000 in
set_option maxRecDepth 100000 in
theorem drawNameRead_any {a : Option Addr} {len cap : Nat} {w : World} (l : List Int) (hL : Lies w a l) (hn : l.length = len) (hb : ∀ k, 0 ≤ l.getD k 0 ∧ l.getD k 0 ≤ 255) (hm : len ≤ maxLen) :
    Calls Try.prog 15 #[.slice a len cap] w (DrawnText w) := by
  have HM := hide hm
  clear hm
  have HN := hide hn
  clear hn
  go_enter Try.func15, Try.ntmps15
  go_wp2_with fail
  refine (l1New_any l hL (unhide HN) hb (unhide HM)).mono ?_
  rintro e w1 ⟨rfl, hc1, hL1, b1⟩
  clear hL hb
  have hlt1 := hc1.lt
  go_wp2_with fail
  refine (l2draw_any hc1 hL1 (unhide HM)).mono ?_
  rintro e w2 ⟨v2, n, rfl, hdn, o2, hc2, g2⟩
  have hL2 := hL1.grown g2
  have b2 := below_cursor b1 g2 (fun j e => by simp at e; omega)
  obtain ⟨x2, y2, rfl, _⟩ := o2.hasL.form
  have hok : nameOk n = true := by
    obtain ⟨s, _, rfl⟩ := hdn
    exact nameRead_always _
  have HTX := hide (l2text_ok o2.hasL hok)
  have hml := nameText_length n
  have hmp := nameText_pos hok
  have hmb := nameText_bytes n
  generalize nameText n = m at *
  have HMB := hide hmb
  clear hmb hok hdn o2 g2 hc1 hL1 b1
  go_wp2_with fail
  refine (unhide HTX).mono ?_
  rintro e w3 ⟨v3, rfl, u3, t3, b3⟩
  have hc3 := hc2.later (grown_of_below b3) (by simp)
  have hL3 := hL2.later (grown_of_below b3) (by simp)
  have bb3 := below_next b2 b3
  obtain ⟨gb, offb, capb, rfl, _, hcapb, hmaxb⟩ := u3.slot hmp
  clear HTX hc2 hL2 b2 b3
  go_wp2_with fail
  refine (l1Once_any 2 hc3 hL3 (unhide HM) (by omega) (by omega)).mono ?_
  rintro e w4 ⟨y, rfl, hc4, g4⟩
  have hL4 := hL3.grown g4
  have b4 := below_cursor bb3 g4 (fun j e => by simp at e; omega)
  obtain ⟨u4, t4⟩ := u3.cur t3 hc3 g4
  have hs4 := hc4.lt
  clear hc3 hL3 g4 u3 t3 bb3
  cases y with
  | false =>
    go_wp2_with fail
    refine (l1Once_any 4 hc4 hL4 (unhide HM) (by omega) (by omega)).mono ?_
    rintro e wz ⟨yz, rfl, hcz, gz⟩
    have bz := below_cursor b4 gz (fun j e => by simp at e; omega)
    obtain ⟨uz, _⟩ := u4.cur t4 hc4 gz
    have UZ := hide uz
    have ZL := hide (show m.length ≤ 200 by omega)
    have ZB := hide (unhide HMB)
    clear uz hcz gz u4 t4 hc4 hL4 b4
    cases yz with
    | false =>
      go_wp2_with fail
      go_ret
      exact ⟨_, m, rfl, unhide UZ, unhide ZL, unhide ZB, bz⟩
    | true =>
      have zl := unhide ZL
      have hp0 : (0 : Int) < m.length := by omega
      have hp1 : (m.length : Int) - 1 = ((m.length - 1 : Nat) : Int) := by omega
      have hw1 : IntKind.i64.wrap ((m.length - 1 : Nat) : Int) = ((m.length - 1 : Nat) : Int) := wrap_small _ (by omega)
      have hp2 : ((m.length - 1 : Nat) : Int) ≤ (capb : Int) := by omega
      have UH := hide ((unhide UZ).head (i := m.length - 1) (by omega))
      clear UZ zl
      go_wp2_with fail
      go_ret
      exact ⟨_, m.take (m.length - 1), rfl, unhide UH, by have := unhide ZL; rw [List.length_take]; omega, fun x hx => unhide ZB x (List.mem_of_mem_take hx), bz⟩
  | true =>
    have gb4 : gb < w4.heap.size := by
      obtain ⟨c, fr, h1⟩ := t4 gb offb m.length capb rfl
      exact block_lt h1
    go_wp2_with fail
    refine (l1Below_any ((m.length : Int) + 1) hc4 hL4 (unhide HM) (by omega) (by omega)).mono ?_
    rintro e w5 ⟨z, rfl, hz0, hz1, hc5, g5⟩
    have hL5 := hL4.grown g5
    have b5 := below_cursor b4 g5 (fun j e => by simp at e; omega)
    obtain ⟨u5, t5⟩ := u4.cur t4 hc4 g5
    obtain ⟨i, rfl⟩ := Int.eq_ofNat_of_zero_le hz0
    have z5 := g5.size
    clear hc4 hL4 g5 u4 t4 b4
    go_wp2_with fail
    refine (l1Below_any (w := w5.alloc _) 6 (hc5.later (grown_alloc w5 _ none) (by simp)) (hL5.later (grown_alloc w5 _ none) (by simp)) (unhide HM) (by omega) (by omega)).mono ?_
    rintro e w6 ⟨z6, rfl, hz60, hz61, hc6, g6⟩
    obtain ⟨j, rfl⟩ := Int.eq_ofNat_of_zero_le hz60
    have hlt5 := hc5.lt
    obtain ⟨t, hcell, htl, htp, hts⟩ : ∃ t : List Int, w6.cell? ⟨w5.heap.size, j, none⟩ = some (.string (strOfNums t)) ∧ t.length ≤ 12 ∧ 1 ≤ t.length ∧ ∀ c ∈ t, 0 ≤ c ∧ c ≤ 255 := by
      have hk : w6.cell? ⟨w5.heap.size, j, none⟩ = _ := World.cell?_of_block (w := w5.alloc _) (a := ⟨w5.heap.size, j, none⟩) (g6.block w5.heap.size (by simp) (by simp; omega))
      rw [hk]
      match j, (by omega : j < 6) with
      | 0, _ => exact ⟨[46], by simp; rfl, by simp, by simp, by simp⟩
      | 1, _ => exact ⟨[65], by simp; rfl, by simp, by simp, by simp⟩
      | 2, _ => exact ⟨[120], by simp; rfl, by simp, by simp, by simp⟩
      | 3, _ => exact ⟨[95], by simp; rfl, by simp, by simp, by simp⟩
      | 4, _ => exact ⟨[45], by simp; rfl, by simp, by simp, by simp⟩
      | 5, _ => exact ⟨[97, 98, 99, 100, 101, 102, 103, 104, 105, 106, 107, 108], by simp; rfl, by simp, by simp, by simp⟩
    have b6 := below_cursor (b5.alloc b5.size _) g6 (fun j e => by simp at e; omega)
    obtain ⟨u6, t6⟩ := (u5.below (below_alloc _)).cur (t5.below (below_alloc _)) (hc5.later (grown_alloc w5 _ none) (by simp)) g6
    have hL6 := (hL5.later (grown_alloc w5 _ none) (by simp)).grown g6
    have hz5 : w5.heap.size < w6.heap.size := by have := g6.size; simp at this; omega
    generalize hq : w5.heap.size = q5 at *
    clear hq
    have hi : i ≤ m.length := by omega
    have hgb6 : gb < w6.heap.size := by omega
    have hb6 := b6.size
    have hg6 := hc6.lt
    go_wp2
    clear g6 hc5 hL5 u5 t5 b5 hcell
    have HTS := hide hts
    clear hts
    have hic : i ≤ capb := by omega
    have hic' : (i : Int) ≤ (capb : Int) := by omega
    have hi0' : (0 : Int) ≤ (i : Int) := by omega
    have hil' : (i : Int) ≤ (m.length : Int) := by omega
    have bW := below_next (below_alloc (w := w6) (.cells #[] 5)) (below_drew (w := w6.alloc (.cells #[] 5)))
    have A1 : Own w6.heap.size 5 (w6.alloc (.cells #[] 5)).drew (.slice (some ⟨w6.heap.size, 0, none⟩) 0 0) [] := own_lit w6 w6.heap.size 5 [] (Nat.le_refl _) (by simp)
    have uA := u6.below bW
    have A2 : Reads (w6.alloc (.cells #[] 5)).drew (.slice (some ⟨gb, offb, none⟩) i capb) (m.take i) := by
      have := uA.part (i := 0) (m := i) (by omega) offb capb (.inl rfl)
      rw [List.drop_zero] at this
      exact this
    have A3 : Reads (w6.alloc (.cells #[] 5)).drew (.slice (if capb = i then some ⟨gb, offb, none⟩ else some ⟨gb, offb + i, none⟩) (m.length - i) (capb - i)) (m.drop i) := by
      have e : (m.drop i).take (m.length - i) = m.drop i := List.take_of_length_le (by simp)
      by_cases q : capb = i
      · rw [if_pos q]
        have := uA.part (i := i) (m := m.length - i) (by omega) offb (capb - i) (.inr (by omega))
        rwa [e] at this
      · rw [if_neg q]
        have := uA.part (i := i) (m := m.length - i) (by omega) (offb + i) (capb - i) (.inl rfl)
        rwa [e] at this
    have hblk : ∀ ad n c, (Value.slice (if capb = i then some ⟨gb, offb, none⟩ else some ⟨gb, offb + i, none⟩) (m.length - i) (capb - i)) = .slice (some ad) n c → ad.block = gb := by
      intro ad n c e
      simp only [Value.slice.injEq] at e
      have e1 := e.1
      split at e1
      · simp at e1; rw [← e1]
      · simp at e1; rw [← e1]
    have HA1 := hide A1
    have HA2 := hide A2
    have HA3 := hide A3
    have HBL := hide hblk
    have HC6 := hide hc6
    have HL6 := hide hL6
    clear A1 A2 A3 hblk uA u6 t6 bW hc6 hL6
    go_region_law (first
      | (refine step_append_bytes rfl (.tmp 24) (.tmp 27) 22 5 rfl Try.underlying22 info_u8 w6.heap.size (.slice (some ⟨w6.heap.size, 0, none⟩) 0 0) (.slice (some ⟨gb, offb, none⟩) i capb) [] (m.take i) (by simp [Act.eval]) (by simp [Act.eval]) (unhide HA1) (unhide HA2) (by simp; omega) (by simp) ?_; intro v1 w7 o7 g7)
      | (refine step_append_text rfl (.tmp 28) (.tmp 29) 22 9 5 rfl Try.underlying22 Try.underlying9 info_u8 w6.heap.size v1 ([] ++ m.take i) t (by simp [Act.eval]) (by simp [Act.eval]) (unhide HTS) o7 (by simp; omega) (by have := g7.size; simp at this; omega) ?_; intro v2 w8 o8 g8)
      | (refine step_append_bytes rfl (.tmp 30) (.tmp 33) 22 5 rfl Try.underlying22 info_u8 w6.heap.size v2 (.slice (if capb = i then some ⟨gb, offb, none⟩ else some ⟨gb, offb + i, none⟩) (m.length - i) (capb - i)) ([] ++ m.take i ++ t) (m.drop i) (by simp [Act.eval]) (by simp [Act.eval]) o8 (((unhide HA3).keptS g7 (fun ad n c e => by rw [unhide HBL ad n c e]; exact ⟨by simp; omega, by simp [Value.ownBlock]; omega⟩)).keptS g8 (fun ad n c e => by rw [unhide HBL ad n c e]; exact ⟨by have := g7.size; simp at this; omega, fun e => by have := (o7.lt gb e.symm).1; omega⟩)) (by simp; omega) (by have := g7.size; have := g8.size; simp at *; omega) ?_; intro v9 w9 o9 g9))
    all_goals
      have gA : w6.grownBy (w6.alloc (.cells #[] 5)).drew none := grown_of_below (below_next (below_alloc (w := w6) (.cells #[] 5)) (below_drew (w := w6.alloc (.cells #[] 5))))
      have c9 := ((((unhide HC6).later gA (fun j e => by cases e)).later g7 (fun j e => by simp [Value.ownBlock] at e; omega)).later g8 (fun j e => by have := (o7.lt j e).1; omega)).later g9 (fun j e => by have := (o8.lt j e).1; omega)
      have L9 := ((((unhide HL6).later gA (fun j e => by cases e)).later g7 (fun j e => by simp [Value.ownBlock] at e; omega)).later g8 (fun j e => by have := (o7.lt j e).1; omega)).later g9 (fun j e => by have := (o8.lt j e).1; omega)
      have b7 : Below w.heap.size w w7 := ((b6.alloc hb6 _).drew).grown g7 (by show w.heap.size ≤ (w6.alloc _).heap.size; simp; omega) (fun k hk => by simp [Value.ownBlock] at hk; omega)
      have b8 : Below w.heap.size w w8 := b7.grown g8 b7.size (fun k hk => Nat.le_trans hb6 (o7.lt k hk).1)
      have b9 : Below w.heap.size w w9 := b8.grown g9 b8.size (fun k hk => Nat.le_trans hb6 (o8.lt k hk).1)
      have hlen9 : ([] ++ m.take i ++ t ++ m.drop i).length ≤ 200 := by simp; omega
      have hpos9 : 1 ≤ ([] ++ m.take i ++ t ++ m.drop i).length := by simp; omega
      have hall9 : ∀ c ∈ [] ++ m.take i ++ t ++ m.drop i, 0 ≤ c ∧ c ≤ 255 := by
        intro c hc
        simp only [List.nil_append, List.mem_append] at hc
        rcases hc with (hc | hc) | hc
        · exact unhide HMB c (List.mem_of_mem_take hc)
        · exact unhide HTS c hc
        · exact unhide HMB c (List.mem_of_mem_drop hc)
      have z9 := c9.lt
      clear g7 g8 g9 gA o7 o8 b7 b8 HA1 HA2 HA3 HBL HC6 HL6
      generalize [] ++ m.take i ++ t ++ m.drop i = m9 at *
      obtain ⟨g9, off9, cap9, rfl, _, hcap9, hmax9⟩ := o9.has.slot hpos9
      have u9 := o9.has
      have t9 := o9.typed
      have HALL9 := hide hall9
      clear o9 hall9
      go_wp2_with fail
      all_goals
        refine (l1Once_any 4 c9 L9 (unhide HM) (by omega) (by omega)).mono ?_
        rintro e wz ⟨yz, rfl, hcz, gz⟩
        have bz := below_cursor b9 gz (fun j e => by simp at e; omega)
        obtain ⟨uz, _⟩ := u9.cur t9 c9 gz
        have UZ := hide uz
        have ZL := hide hlen9
        have ZB := hide (unhide HALL9)
        clear uz hcz gz u9 t9 c9 L9 b9
        cases yz with
        | false =>
          go_wp2_with fail
          go_ret
          exact ⟨_, m9, rfl, unhide UZ, unhide ZL, unhide ZB, bz⟩
        | true =>
          have zl := unhide ZL
          have hp0 : (0 : Int) < m9.length := by omega
          have hp1 : (m9.length : Int) - 1 = ((m9.length - 1 : Nat) : Int) := by omega
          have hw1 : IntKind.i64.wrap ((m9.length - 1 : Nat) : Int) = ((m9.length - 1 : Nat) : Int) := wrap_small _ (by omega)
          have hp2 : ((m9.length - 1 : Nat) : Int) ≤ (cap9 : Int) := by omega
          have UH := hide ((unhide UZ).head (i := m9.length - 1) (by omega))
          clear UZ zl
          go_wp2_with fail
          go_ret
          exact ⟨_, m9.take (m9.length - 1), rfl, unhide UH, by have := unhide ZL; rw [List.length_take]; omega, fun x hx => unhide ZB x (List.mem_of_mem_take hx), bz⟩
end Go.Proofs.Ytaconefooicplaa
