/-
  Contracts of the specification's l11inside and Inside.
-/
import Derived.Test.YtjgfljndeolmoaaInsideG24
import Derived.Test.YtjgfljndeolmoaaInsideG09
import Derived.Test.YtjgfljndeolmoaaInsideG25
import Derived.Test.YtjgfljndeolmoaaInsideG28
import Derived.Test.YtjgfljndeolmoaaInsideG30
import Derived.Test.YtjgfljndeolmoaaInsideG23
import Derived.Deep.RegionHeld3
namespace Go.Proofs.Ytjgfljndeolmoaa
open Go.RowKit
set_option linter.unusedVariables false

set_option maxHeartbeats 4000000 in
set_option maxRecDepth 100000 in
theorem l11inside_has {v u : Value} {l : List Rec} {z : List (List Int)} {w : World} (h : HasRs w v l) (hz : HasL w u z) (hok : rrsOk l = true) (hnm : nameOk z = true) :
  Calls Try.prog 67 #[v, .agg #[u]] w fun e w' => ∃ x B, e = .returned x ∧ RowS B 34 w w' x (inK z l l.length) ∧ Below w.heap.size w w' := by
 obtain ⟨a, cap, rfl, _⟩ := h.form
 obtain ⟨za, zc, rfl, _⟩ := hz.form
 obtain ⟨h12, hoks⟩ := rrsOk_parts hok
 have b0 := below_alloc (w := w) (.cells #[.slice za z.length zc] 26)
 have KZ := hide (heap_alloc_new w (.cells #[.slice za z.length zc] 26))
 have HL := hide h
 have HZ := hide (hz.below b0)
 have zk := block_lt (unhide KZ)
 have HOK := hide hoks
 have hz6 := (nameOk_parts hnm).1
 clear h hz hoks hok
 generalize hm : l.length = m at *
 have HN := hide hm
 clear hm
 go_enter Try.func67, Try.ntmps67
 go_wp2_with fail
 generalize w.alloc (.cells #[.slice za z.length zc] 26) = W at *
 go_loopw [5, 6] (fun v i wr => ∃ k : Nat, k ≤ m ∧ i = .int .i64 k ∧ RowS W.heap.size 34 w wr v (inK z l k) ∧ Below W.heap.size W wr) (fun _ i _ => m - (intOf i).toNat)
 case atStart => exact ⟨0, Nat.zero_le _, rfl, RowS.nil _ _ _ _, Below.refl _ _⟩
 case round =>
  obtain ⟨k, hk, rfl, hrow, hb⟩ := hrel
  have hsl := inK_length z l k
  by_cases hlt : k < m
  ·have hkm : (k : Int) < m := by omega
   obtain ⟨b, off, na, nc, ta, tc, xa, xc, ia, ic, rfl, hbl, hc, hu⟩ := (unhide HL).here (k := k) (by rw [unhide HN]; exact hlt)
   have hok := unhide HOK k hlt
   have hn6 := (nameOk_parts (rrOk_name hok)).1
   have HST := hide (show inK z l (k + 1) = if endsWith (l.getD k recZ).name z = true then inK z l k ++ [l.getD k recZ] else inK z l k from rfl)
   generalize l.getD k recZ = rk at *
   have bd := below_next hb (below_drew (w := wr))
   have KD := hide (block_kept bd (unhide KZ))
   have bwd := below_next b0 bd
   have hbld : b < wr.drew.heap.size := Nat.lt_of_lt_of_le hbl bwd.size
   have HC := hide (range_below hc hbl bwd)
   have UD := hide (hu.below bwd).name
   have CM := l2under_has (unhide UD) ((unhide HZ).below bd) hn6 hz6
   have HU := hide hu
   have HROW := hide hrow
   clear hc hu hrow hok bwd
   cases he : endsWith rk.name z with
   | false =>
    rw [he] at CM
    have hst := unhide HST
    rw [he, if_neg (by simp)] at hst
    have HS1 := hide hst
    replace CM := hide CM
    clear HST hst
    go_wp2_with fail
    go_region_held3 (fun w' => w'.cell? ⟨w.heap.size, 0, none⟩ = some (.slice za z.length zc) ∧ w'.cell? ⟨b, off + k * 7, none⟩ = some (.slice na rk.name.length nc))
     (first | exact ⟨block_one (unhide KD), (range7 (unhide HC)).1⟩ | exact ⟨block_one (block_kept b2 (unhide KD)), (range7 (range_below (unhide HC) hbld b2)).1⟩)
     (first | (go_at_call 59; refine (unhide CM).mono ?_; rintro e w2 ⟨rfl, b2⟩))
    have bw2 := below_next bd b2
    have R3 : RowS W.heap.size 34 w w2 u5 (inK z l (k + 1)) := by
     rw [unhide HS1]
     obtain ⟨xs, hxo, hxs⟩ := unhide HROW
     exact ⟨xs, ownsRow_later hxo (below_next (below_drew (w := wr)) b2), hxs⟩
    have HR3 := hide R3
    clear R3
    go_wp2_with fail
    exact ⟨⟨k + 1, by omega, by go_num, unhide HR3, bw2⟩, by simp [intOf]; omega⟩
   | true =>
    rw [he] at CM
    have hst := unhide HST
    rw [he, if_pos rfl] at hst
    have HS1 := hide hst
    replace CM := hide CM
    clear HST hst
    go_wp2_with fail
    go_region_held3 (fun w' => w'.cell? ⟨w.heap.size, 0, none⟩ = some (.slice za z.length zc) ∧ w'.cell? ⟨b, off + k * 7, none⟩ = some (.slice na rk.name.length nc))
     (first | exact ⟨block_one (unhide KD), (range7 (unhide HC)).1⟩ | exact ⟨block_one (block_kept b2 (unhide KD)), (range7 (range_below (unhide HC) hbld b2)).1⟩)
     (first | (go_at_call 59; refine (unhide CM).mono ?_; rintro e w2 ⟨rfl, b2⟩))
    have bw2 := below_next bd b2
    obtain ⟨c0, c1, c2, c3, c4, c5, c6⟩ := range7 (range_below (unhide HC) hbld b2)
    obtain ⟨xs, hxo, hxs⟩ := unhide HROW
    have hxl : xs.length = (inK z l k).length * 7 := hxo.1
    have HXO := hide (ownsRow_later hxo (below_next (below_drew (w := wr)) b2))
    have HXS := hide hxs
    have bx := below_alloc (w := w2) (.cells #[.slice na rk.name.length nc, .int .i64 rk.type, .int .i64 rk.ttl, .int .i64 rk.addr, .slice ta rk.to.length tc, .slice xa rk.text.length xc, .slice ia rk.nums.length ic] 34)
    have KX := hide (heap_alloc_new w2 (.cells #[.slice na rk.name.length nc, .int .i64 rk.type, .int .i64 rk.ttl, .int .i64 rk.addr, .slice ta rk.to.length tc, .slice xa rk.text.length xc, .slice ia rk.nums.length ic] 34))
    have BX := hide bx
    have zx2 := bw2.size
    clear hxo hxs bx bd
    go_wp2_with (at_builtin; refine append_rec rfl _ _ 23 34 rfl Try.underlying23 _ info_rr rfl W.heap.size _ (inK z l k).length xs rfl (ownsRow_later (unhide HXO) (unhide BX)) w2.heap.size (cellsR (.slice na rk.name.length nc) (.slice ta rk.to.length tc) (.slice xa rk.text.length xc) (.slice ia rk.nums.length ic) rk) rfl (unhide KX) rfl (by simp [cellsR, Value.oneCell']) (by omega) (Nat.le_trans zx2 (unhide BX).size) ?_)
    intro v3 w3 o3 g3
    have bw3 : Below W.heap.size W w3 := (below_next bw2 (unhide BX)).grown g3 (below_next bw2 (unhide BX)).size (fun q hq => (World.ownsRow.lt (unhide HXO) q hq).1)
    have R3 := RowS.snoc hxl (unhide HXS) o3 (unhide HU)
    rw [← unhide HS1] at R3
    have HR3 := hide R3
    clear o3 g3 R3
    go_wp2_with fail
    exact ⟨⟨k + 1, by omega, by go_num, unhide HR3, bw3⟩, by simp [intOf]; omega⟩
  ·obtain rfl : k = m := by omega
   go_wp2_with fail
   go_ret
   exact ⟨_, _, rfl, hrow, below_next b0 hb⟩
set_option maxHeartbeats 1000000 in
set_option maxRecDepth 100000 in
theorem specInside_has {v u : Value} {l : List Rec} {z : List (List Int)} {w : World} (h : HasRs w v l) (hz : HasL w u z) :
  Calls Try.prog 19 #[v, .agg #[u]] w fun e w' => ∃ x, e = .returned x ∧ HasRs w' x (insideOf l z) ∧ Below w.heap.size w w' := by
 obtain ⟨a, cap, rfl, _⟩ := h.form
 obtain ⟨za, zc, rfl, _⟩ := hz.form
 have b0 := below_alloc (w := w) (.cells #[.slice za z.length zc] 26)
 have KZ := hide (heap_alloc_new w (.cells #[.slice za z.length zc] 26))
 have HL := hide (h.below b0)
 have HZ := hide (hz.below b0)
 have HO := l4rrs_has (h.below b0)
 clear h hz
 generalize hres : insideOf l z = res
 unfold insideOf at hres
 go_enter Try.func19, Try.ntmps19
 cases hok : rrsOk l with
 | false =>
  rw [if_neg (fun q => by rw [hok] at q; cases q.1)] at hres
  subst hres
  rw [hok] at HO
  replace HO := hide HO
  go_wp2_with fail
  refine (unhide HO).mono ?_
  rintro e w1 ⟨rfl, b1⟩
  go_wp2_with fail
  go_ret
  exact ⟨_, rfl, .inl ⟨rfl, rfl⟩, below_next b0 b1⟩
 | true =>
  rw [hok] at HO
  replace HO := hide HO
  cases hnm : nameOk z with
  | false =>
   rw [if_neg (fun q => by rw [hnm] at q; cases q.2)] at hres
   subst hres
   go_wp2_with fail
   refine (unhide HO).mono ?_
   rintro e w1 ⟨rfl, b1⟩
   have HM := specNameOk_has ((unhide HZ).below b1)
   rw [hnm] at HM
   replace HM := hide HM
   have d2 := block_one (block_kept b1 (unhide KZ))
   replace b0 := below_next b0 b1
   go_wp2_with fail
   refine (unhide HM).mono ?_
   rintro e w2 ⟨rfl, b2⟩
   go_wp2_with fail
   go_ret
   exact ⟨_, rfl, .inl ⟨rfl, rfl⟩, below_next b0 b2⟩
  | true =>
   rw [if_pos ⟨hok, hnm⟩] at hres
   have hsel := inside_short (z := z) hok
   rw [hres] at hsel
   go_wp2_with fail
   refine (unhide HO).mono ?_
   rintro e w1 ⟨rfl, b1⟩
   have HM := specNameOk_has ((unhide HZ).below b1)
   rw [hnm] at HM
   replace HM := hide HM
   have d2 := block_one (block_kept b1 (unhide KZ))
   replace b0 := below_next b0 b1
   replace HL := hide ((unhide HL).below b1)
   replace HZ := hide ((unhide HZ).below b1)
   replace KZ := hide (block_kept b1 (unhide KZ))
   clear b1 HO
   go_wp2_with fail
   refine (unhide HM).mono ?_
   rintro e w2 ⟨rfl, b2⟩
   replace b0 := below_next b0 b2
   replace HL := hide ((unhide HL).below b2)
   replace HZ := hide ((unhide HZ).below b2)
   replace KZ := hide (block_kept b2 (unhide KZ))
   clear d2 b2 HM
   have HA := l11inside_has (unhide HL) (unhide HZ) hok hnm
   rw [hres] at HA
   replace HA := hide HA
   have HSEL := hide hsel
   have e2 := block_one (unhide KZ)
   clear hsel hres
   go_wp2_with fail
   refine (unhide HA).mono ?_
   rintro e w3 ⟨v3, B3, rfl, r3, b3⟩
   have h3 := r3.has b3
   have HL3 := hide (l3ownAll_has h3 (fun i hi => short_rec ((unhide HSEL).2 i hi)) (by have := (unhide HSEL).1; omega))
   obtain ⟨pa, pc, rfl, _⟩ := h3.form
   have bb3 := below_next b0 b3
   clear e2 r3 b3 h3
   go_wp2_with fail
   refine (unhide HL3).mono ?_
   rintro e w4 ⟨u4, rfl, r4, b4⟩
   obtain ⟨qa, qc, rfl, _⟩ := r4.has.form
   go_wp2_with fail
   go_ret
   exact ⟨_, rfl, r4.has, below_next bb3 b4⟩
end Go.Proofs.Ytjgfljndeolmoaa
