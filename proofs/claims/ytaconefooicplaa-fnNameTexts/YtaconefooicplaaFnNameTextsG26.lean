/-
  Contract of the specification's DrawNameRead: a drawn text, perhaps not one of a name. Contract of the laws' sameName.
-/
import Derived.Test.YtaconefooicplaaFnNameTextsG16
import Derived.Test.YtaconefooicplaaFnNameTextsG18
import Derived.Test.YtaconefooicplaaFnNameTextsG11
import Derived.Test.YtaconefooicplaaFnNameTextsG12
import Derived.Test.YtaconefooicplaaFnNameTextsG25
import Derived.Test.YtaconefooicplaaFnNameTextsG17
import Derived.Test.YtaconefooicplaaFnNameTextsG08
import Derived.Deep.RegionHeld3
namespace Go.Proofs.Ytaconefooicplaa
open Go.RowKit
set_option linter.unusedVariables false

theorem nameRead_always (l : List Int) : nameOk (nameRead l).1 = true := by
  unfold nameRead
  split
  · decide
  · split
    · assumption
    · decide
theorem nameText_pos {n : List (List Int)} (h : nameOk n = true) : 1 ≤ (nameText n).length := by
  by_cases h0 : n.length = 0
  · rw [nameText_root h h0]
    simp
  · rw [nameText_some h h0]
    match n, h0 with
    | l :: n, _ =>
      rw [dots_cons]
      simp
      omega
/-- What DrawNameRead answers. -/
def DrawnText (w : World) (e : Ending) (w' : World) : Prop := ∃ v m, e = .returned v ∧ Has w' v m ∧ m.length ≤ 200 ∧ (∀ x ∈ m, 0 ≤ x ∧ x ≤ 255) ∧ Below w.heap.size w w'
def textsR : List (List Int) := [[46], [65], [120], [95], [45], [97, 98, 99, 100, 101, 102, 103, 104, 105, 106, 107, 108]]

set_option maxHeartbeats 2000000 in
set_option maxRecDepth 100000 in
theorem drawNameRead_any {a : Option Addr} {len cap : Nat} {w : World} (l : List Int) (hL : Lies w a l) (hn : l.length = len) (hb : ∀ k, 0 ≤ l.getD k 0 ∧ l.getD k 0 ≤ 255) (hm : len ≤ maxLen) :
    Calls Try.prog 15 #[.slice a len cap] w (DrawnText w) := by
  have HM := hide hm
  clear hm
  have HN := hide hn
  clear hn
  go_enter Try.func15, Try.ntmps15
  go_wp2_with fail
  refine (l1New_any l hL (unhide HN) hb (unhide HM)).mono ?_
  rintro e w1 ⟨rfl, hc1, hL1, b1⟩
  clear hL hb
  have hlt1 := hc1.lt
  go_wp2_with fail
  refine (l2draw_any hc1 hL1 (unhide HM)).mono ?_
  rintro e w2 ⟨v2, n, rfl, hdn, o2, hc2, g2⟩
  have hL2 := hL1.grown g2
  have b2 := below_cursor b1 g2 (fun j e => by simp at e; omega)
  obtain ⟨x2, y2, rfl, _⟩ := o2.hasL.form
  have hok : nameOk n = true := by
    obtain ⟨s, _, rfl⟩ := hdn
    exact nameRead_always _
  have HTX := hide (l2text_ok o2.hasL hok)
  have hml := nameText_length n
  have hmp := nameText_pos hok
  have hmb := nameText_bytes n
  generalize nameText n = m at *
  have HMB := hide hmb
  clear hmb hok hdn o2 g2 hc1 hL1 b1
  go_wp2_with fail
  refine (unhide HTX).mono ?_
  rintro e w3 ⟨v3, rfl, u3, t3, b3⟩
  have hc3 := hc2.later (grown_of_below b3) (by simp)
  have hL3 := hL2.later (grown_of_below b3) (by simp)
  have bb3 := below_next b2 b3
  obtain ⟨gb, offb, capb, rfl, _, hcapb, hmaxb⟩ := u3.slot hmp
  clear HTX hc2 hL2 b2 b3
  go_wp2_with fail
  refine (l1Once_any 2 hc3 hL3 (unhide HM) (by omega) (by omega)).mono ?_
  rintro e w4 ⟨y, rfl, hc4, g4⟩
  have hL4 := hL3.grown g4
  have b4 := below_cursor bb3 g4 (fun j e => by simp at e; omega)
  obtain ⟨u4, t4⟩ := u3.cur t3 hc3 g4
  have hs4 := hc4.lt
  clear hc3 hL3 g4 u3 t3 bb3
  cases y with
  | false =>
    go_wp2_with fail
    refine (l1Once_any 4 hc4 hL4 (unhide HM) (by omega) (by omega)).mono ?_
    rintro e wz ⟨yz, rfl, hcz, gz⟩
    have bz := below_cursor b4 gz (fun j e => by simp at e; omega)
    obtain ⟨uz, _⟩ := u4.cur t4 hc4 gz
    have UZ := hide uz
    have ZL := hide (show m.length ≤ 200 by omega)
    have ZB := hide (unhide HMB)
    clear uz hcz gz u4 t4 hc4 hL4 b4
    cases yz with
    | false =>
      go_wp2_with fail
      go_ret
      exact ⟨_, m, rfl, unhide UZ, unhide ZL, unhide ZB, bz⟩
    | true =>
      have zl := unhide ZL
      have hp0 : (0 : Int) < m.length := by omega
      have hp1 : (m.length : Int) - 1 = ((m.length - 1 : Nat) : Int) := by omega
      have hw1 : IntKind.i64.wrap ((m.length - 1 : Nat) : Int) = ((m.length - 1 : Nat) : Int) := wrap_small _ (by omega)
      have hp2 : ((m.length - 1 : Nat) : Int) ≤ (capb : Int) := by omega
      have UH := hide ((unhide UZ).head (i := m.length - 1) (by omega))
      clear UZ zl
      go_wp2_with fail
      go_ret
      exact ⟨_, m.take (m.length - 1), rfl, unhide UH, by have := unhide ZL; rw [List.length_take]; omega, fun x hx => unhide ZB x (List.mem_of_mem_take hx), bz⟩
  | true =>
    have gb4 : gb < w4.heap.size := by
      obtain ⟨c, fr, h1⟩ := t4 gb offb m.length capb rfl
      exact block_lt h1
    go_wp2_with fail
    refine (l1Below_any ((m.length : Int) + 1) hc4 hL4 (unhide HM) (by omega) (by omega)).mono ?_
    rintro e w5 ⟨z, rfl, hz0, hz1, hc5, g5⟩
    have hL5 := hL4.grown g5
    have b5 := below_cursor b4 g5 (fun j e => by simp at e; omega)
    obtain ⟨u5, t5⟩ := u4.cur t4 hc4 g5
    obtain ⟨i, rfl⟩ := Int.eq_ofNat_of_zero_le hz0
    have z5 := g5.size
    clear hc4 hL4 g5 u4 t4 b4
    go_wp2_with fail
    refine (l1Below_any (w := w5.alloc _) 6 (hc5.later (grown_alloc w5 _ none) (by simp)) (hL5.later (grown_alloc w5 _ none) (by simp)) (unhide HM) (by omega) (by omega)).mono ?_
    rintro e w6 ⟨z6, rfl, hz60, hz61, hc6, g6⟩
    obtain ⟨j, rfl⟩ := Int.eq_ofNat_of_zero_le hz60
    have hlt5 := hc5.lt
    obtain ⟨t, hcell, htl, htp, hts⟩ : ∃ t : List Int, w6.cell? ⟨w5.heap.size, j, none⟩ = some (.string (strOfNums t)) ∧ t.length ≤ 12 ∧ 1 ≤ t.length ∧ ∀ c ∈ t, 0 ≤ c ∧ c ≤ 255 := by
      have hk : w6.cell? ⟨w5.heap.size, j, none⟩ = _ := World.cell?_of_block (w := w5.alloc _) (a := ⟨w5.heap.size, j, none⟩) (g6.block w5.heap.size (by simp) (by simp; omega))
      rw [hk]
      match j, (by omega : j < 6) with
      | 0, _ => exact ⟨[46], by simp; rfl, by simp, by simp, by simp⟩
      | 1, _ => exact ⟨[65], by simp; rfl, by simp, by simp, by simp⟩
      | 2, _ => exact ⟨[120], by simp; rfl, by simp, by simp, by simp⟩
      | 3, _ => exact ⟨[95], by simp; rfl, by simp, by simp, by simp⟩
      | 4, _ => exact ⟨[45], by simp; rfl, by simp, by simp, by simp⟩
      | 5, _ => exact ⟨[97, 98, 99, 100, 101, 102, 103, 104, 105, 106, 107, 108], by simp; rfl, by simp, by simp, by simp⟩
    have b6 := below_cursor (b5.alloc b5.size _) g6 (fun j e => by simp at e; omega)
    obtain ⟨u6, t6⟩ := (u5.below (below_alloc _)).cur (t5.below (below_alloc _)) (hc5.later (grown_alloc w5 _ none) (by simp)) g6
    have hL6 := (hL5.later (grown_alloc w5 _ none) (by simp)).grown g6
    have hz5 : w5.heap.size < w6.heap.size := by have := g6.size; simp at this; omega
    generalize hq : w5.heap.size = q5 at *
    clear hq
    have hi : i ≤ m.length := by omega
    have hgb6 : gb < w6.heap.size := by omega
    have hb6 := b6.size
    have hg6 := hc6.lt
    go_wp2
    clear g6 hc5 hL5 u5 t5 b5 hcell
    have HTS := hide hts
    clear hts
    have hic : i ≤ capb := by omega
    have hic' : (i : Int) ≤ (capb : Int) := by omega
    have hi0' : (0 : Int) ≤ (i : Int) := by omega
    have hil' : (i : Int) ≤ (m.length : Int) := by omega
    have bW := below_next (below_alloc (w := w6) (.cells #[] 5)) (below_drew (w := w6.alloc (.cells #[] 5)))
    have A1 : Own w6.heap.size 5 (w6.alloc (.cells #[] 5)).drew (.slice (some ⟨w6.heap.size, 0, none⟩) 0 0) [] := own_lit w6 w6.heap.size 5 [] (Nat.le_refl _) (by simp)
    have uA := u6.below bW
    have A2 : Reads (w6.alloc (.cells #[] 5)).drew (.slice (some ⟨gb, offb, none⟩) i capb) (m.take i) := by
      have := uA.part (i := 0) (m := i) (by omega) offb capb (.inl rfl)
      rw [List.drop_zero] at this
      exact this
    have A3 : Reads (w6.alloc (.cells #[] 5)).drew (.slice (if capb = i then some ⟨gb, offb, none⟩ else some ⟨gb, offb + i, none⟩) (m.length - i) (capb - i)) (m.drop i) := by
      have e : (m.drop i).take (m.length - i) = m.drop i := List.take_of_length_le (by simp)
      by_cases q : capb = i
      · rw [if_pos q]
        have := uA.part (i := i) (m := m.length - i) (by omega) offb (capb - i) (.inr (by omega))
        rwa [e] at this
      · rw [if_neg q]
        have := uA.part (i := i) (m := m.length - i) (by omega) (offb + i) (capb - i) (.inl rfl)
        rwa [e] at this
    have hblk : ∀ ad n c, (Value.slice (if capb = i then some ⟨gb, offb, none⟩ else some ⟨gb, offb + i, none⟩) (m.length - i) (capb - i)) = .slice (some ad) n c → ad.block = gb := by
      intro ad n c e
      simp only [Value.slice.injEq] at e
      have e1 := e.1
      split at e1
      · simp at e1; rw [← e1]
      · simp at e1; rw [← e1]
    have HA1 := hide A1
    have HA2 := hide A2
    have HA3 := hide A3
    have HBL := hide hblk
    have HC6 := hide hc6
    have HL6 := hide hL6
    clear A1 A2 A3 hblk uA u6 t6 bW hc6 hL6
    go_region_law (first
      | (refine step_append_bytes rfl (.tmp 24) (.tmp 27) 22 5 rfl Try.underlying22 info_u8 w6.heap.size (.slice (some ⟨w6.heap.size, 0, none⟩) 0 0) (.slice (some ⟨gb, offb, none⟩) i capb) [] (m.take i) (by simp [Act.eval]) (by simp [Act.eval]) (unhide HA1) (unhide HA2) (by simp; omega) (by simp) ?_; intro v1 w7 o7 g7)
      | (refine step_append_text rfl (.tmp 28) (.tmp 29) 22 9 5 rfl Try.underlying22 Try.underlying9 info_u8 w6.heap.size v1 ([] ++ m.take i) t (by simp [Act.eval]) (by simp [Act.eval]) (unhide HTS) o7 (by simp; omega) (by have := g7.size; simp at this; omega) ?_; intro v2 w8 o8 g8)
      | (refine step_append_bytes rfl (.tmp 30) (.tmp 33) 22 5 rfl Try.underlying22 info_u8 w6.heap.size v2 (.slice (if capb = i then some ⟨gb, offb, none⟩ else some ⟨gb, offb + i, none⟩) (m.length - i) (capb - i)) ([] ++ m.take i ++ t) (m.drop i) (by simp [Act.eval]) (by simp [Act.eval]) o8 (((unhide HA3).keptS g7 (fun ad n c e => by rw [unhide HBL ad n c e]; exact ⟨by simp; omega, by simp [Value.ownBlock]; omega⟩)).keptS g8 (fun ad n c e => by rw [unhide HBL ad n c e]; exact ⟨by have := g7.size; simp at this; omega, fun e => by have := (o7.lt gb e.symm).1; omega⟩)) (by simp; omega) (by have := g7.size; have := g8.size; simp at *; omega) ?_; intro v9 w9 o9 g9))
    all_goals
      have gA : w6.grownBy (w6.alloc (.cells #[] 5)).drew none := grown_of_below (below_next (below_alloc (w := w6) (.cells #[] 5)) (below_drew (w := w6.alloc (.cells #[] 5))))
      have c9 := ((((unhide HC6).later gA (fun j e => by cases e)).later g7 (fun j e => by simp [Value.ownBlock] at e; omega)).later g8 (fun j e => by have := (o7.lt j e).1; omega)).later g9 (fun j e => by have := (o8.lt j e).1; omega)
      have L9 := ((((unhide HL6).later gA (fun j e => by cases e)).later g7 (fun j e => by simp [Value.ownBlock] at e; omega)).later g8 (fun j e => by have := (o7.lt j e).1; omega)).later g9 (fun j e => by have := (o8.lt j e).1; omega)
      have b7 : Below w.heap.size w w7 := ((b6.alloc hb6 _).drew).grown g7 (by show w.heap.size ≤ (w6.alloc _).heap.size; simp; omega) (fun k hk => by simp [Value.ownBlock] at hk; omega)
      have b8 : Below w.heap.size w w8 := b7.grown g8 b7.size (fun k hk => Nat.le_trans hb6 (o7.lt k hk).1)
      have b9 : Below w.heap.size w w9 := b8.grown g9 b8.size (fun k hk => Nat.le_trans hb6 (o8.lt k hk).1)
      have hlen9 : ([] ++ m.take i ++ t ++ m.drop i).length ≤ 200 := by simp; omega
      have hpos9 : 1 ≤ ([] ++ m.take i ++ t ++ m.drop i).length := by simp; omega
      have hall9 : ∀ c ∈ [] ++ m.take i ++ t ++ m.drop i, 0 ≤ c ∧ c ≤ 255 := by
        intro c hc
        simp only [List.nil_append, List.mem_append] at hc
        rcases hc with (hc | hc) | hc
        · exact unhide HMB c (List.mem_of_mem_take hc)
        · exact unhide HTS c hc
        · exact unhide HMB c (List.mem_of_mem_drop hc)
      have z9 := c9.lt
      clear g7 g8 g9 gA o7 o8 b7 b8 HA1 HA2 HA3 HBL HC6 HL6
      generalize [] ++ m.take i ++ t ++ m.drop i = m9 at *
      obtain ⟨g9, off9, cap9, rfl, _, hcap9, hmax9⟩ := o9.has.slot hpos9
      have u9 := o9.has
      have t9 := o9.typed
      have HALL9 := hide hall9
      clear o9 hall9
      go_wp2_with fail
      all_goals
        refine (l1Once_any 4 c9 L9 (unhide HM) (by omega) (by omega)).mono ?_
        rintro e wz ⟨yz, rfl, hcz, gz⟩
        have bz := below_cursor b9 gz (fun j e => by simp at e; omega)
        obtain ⟨uz, _⟩ := u9.cur t9 c9 gz
        have UZ := hide uz
        have ZL := hide hlen9
        have ZB := hide (unhide HALL9)
        clear uz hcz gz u9 t9 c9 L9 b9
        cases yz with
        | false =>
          go_wp2_with fail
          go_ret
          exact ⟨_, m9, rfl, unhide UZ, unhide ZL, unhide ZB, bz⟩
        | true =>
          have zl := unhide ZL
          have hp0 : (0 : Int) < m9.length := by omega
          have hp1 : (m9.length : Int) - 1 = ((m9.length - 1 : Nat) : Int) := by omega
          have hw1 : IntKind.i64.wrap ((m9.length - 1 : Nat) : Int) = ((m9.length - 1 : Nat) : Int) := wrap_small _ (by omega)
          have hp2 : ((m9.length - 1 : Nat) : Int) ≤ (cap9 : Int) := by omega
          have UH := hide ((unhide UZ).head (i := m9.length - 1) (by omega))
          clear UZ zl
          go_wp2_with fail
          go_ret
          exact ⟨_, m9.take (m9.length - 1), rfl, unhide UH, by have := unhide ZL; rw [List.length_take]; omega, fun x hx => unhide ZB x (List.mem_of_mem_take hx), bz⟩
end Go.Proofs.Ytaconefooicplaa

namespace Go.Proofs.Ytaconefooicplaa
open Go.RowKit
set_option linter.unusedVariables false

set_option maxHeartbeats 1000000 in
set_option maxRecDepth 100000 in
theorem sameName_has {v v' : Value} {n n' : List (List Int)} {w : World} (h : HasL w v n) (h' : HasL w v' n') :
    Calls Try.prog 16 #[.agg #[v], .agg #[v']] w fun e w' => e = .returned (.bool (decide (nameText n = nameText n'))) ∧ Below w.heap.size w w' := by
  obtain ⟨a, cap, rfl, _⟩ := h.form
  obtain ⟨a', cap', rfl, _⟩ := h'.form
  have b0 := below2 w (.cells #[.slice a n.length cap] 25) (.cells #[.slice a' n'.length cap'] 25)
  obtain ⟨hsz, k0, x0⟩ := box2 w (.cells #[.slice a n.length cap] 25) #[.slice a' n'.length cap'] 25
  have H0 := hide (h.below b0)
  have H0' := hide (h'.below b0)
  have K0 := hide k0
  have X0 := hide x0
  have hB := nameText_bytes n
  have hB' := nameText_bytes n'
  have SP := fun (w : World) (x : Value) (h : HasL w x n) => specNameText_has h
  have SP' := fun (w : World) (x : Value) (h : HasL w x n') => specNameText_has h
  have HBB := hide hB
  have HBB' := hide hB'
  replace SP := hide SP
  replace SP' := hide SP'
  clear h h' k0 x0 hB hB'
  generalize nameText n = T at *
  generalize nameText n' = T' at *
  go_enter Try.func16, Try.ntmps16
  go_wp2_with fail
  generalize (w.alloc (.cells #[.slice a n.length cap] 25)).alloc (.cells #[.slice a' n'.length cap'] 25) = W at *
  have bd := below_drew (w := W)
  have K1 := hide (block_kept bd (unhide K0))
  have X1 := hide (block_kept bd (unhide X0))
  have H1 := hide ((unhide H0).below bd)
  have H1' := hide ((unhide H0').below bd)
  have bb := below_next b0 bd
  have c1 := block_one (unhide K1)
  have c1' := block_one (unhide X1)
  clear bd b0 K0 X0 H0 H0' hsz
  go_region_held3 (fun w' => w'.cell? ⟨w.heap.size, 0, none⟩ = some (.slice a n.length cap) ∧ w'.cell? ⟨w.heap.size + 1, 0, none⟩ = some (.slice a' n'.length cap'))
    (first | exact ⟨block_one (unhide K1), block_one (unhide X1)⟩ | exact ⟨block_one (block_kept q3 (unhide K1)), block_one (block_kept q3 (unhide X1))⟩ | exact ⟨block_one (block_kept b2 (unhide K1)), block_one (block_kept b2 (unhide X1))⟩)
    (first
    | (go_at_call 41; refine (same_has (u2.below b3) u3 (unhide HBB) (unhide HBB')).mono ?_; rintro e w4 ⟨rfl, rfl⟩)
    | (go_at_call 48; refine (unhide SP _ _ (unhide H1)).mono ?_; rintro e w2 ⟨t2, rfl, u2, b2⟩; obtain ⟨ta2, tc2, rfl, _⟩ := u2.form)
    | (go_at_call 48; refine (unhide SP' _ _ ((unhide H1').below b2)).mono ?_; rintro e w3 ⟨t3, rfl, u3, b3⟩; obtain ⟨ta3, tc3, rfl, _⟩ := u3.form; have q3 := below_next b2 b3))
  go_wp2_with fail
  go_ret
  exact ⟨rfl, below_next bb q3⟩
end Go.Proofs.Ytaconefooicplaa
