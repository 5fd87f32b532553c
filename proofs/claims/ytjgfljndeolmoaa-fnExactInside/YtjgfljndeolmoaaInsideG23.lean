/-
  Contract of the program's listOk of records. Plain facts: the order of records. No program is named here. Plain facts: the order of names is one. No program is named here. Plain facts: which records may be a zone's, said by neighbours and said by all. No program is named here. Plain facts: zones that may be are short; a new zone. No program is named here. Records that lie in a zone, in plain words. Plain facts: three results of a function. No program is named here. Contract of the program's Inside.
-/
import Derived.Test.YtjgfljndeolmoaaInsideG19
import Derived.Test.YtjgfljndeolmoaaInsideG22
import Derived.Test.YtjgfljndeolmoaaInsideG16
import Derived.Test.YtjgfljndeolmoaaInsideG05
import Derived.Test.YtjgfljndeolmoaaInsideG14
import Derived.Test.YtjgfljndeolmoaaInsideG00
import Derived.Test.YtjgfljndeolmoaaInsideG15
import Derived.Test.YtjgfljndeolmoaaInsideG10
import Derived.Test.YtjgfljndeolmoaaInsideG17
import Derived.Test.YtjgfljndeolmoaaInsideG09
import Derived.Deep.RegionHeld3
namespace Go.Proofs.Ytjgfljndeolmoaa
open Go.RowKit
set_option linter.unusedVariables false

set_option maxHeartbeats 1000000 in
set_option maxRecDepth 100000 in
theorem listOkRr_has {v : Value} {l : List Rec} {w : World} (h : HasRs w v l) :
  Calls Try.prog 44 #[v, .func (Fn.func 45) #[] #[]] w fun e w' => e = .returned (.bool (rrsOk l)) ∧ Below w.heap.size w w' := by
 obtain ⟨a, cap, rfl, hl, hm⟩ := h.form
 unfold rrsOk maxLen at *
 have HA := hide (all_of (p := rrOk) l recZ)
 have HB := hide (fun k (hk : k < l.length) (hp : rrOk (l.getD k recZ) = false) => all_not (p := rrOk) l recZ hk hp)
 by_cases h12 : l.length ≤ 12
 ·rw [decide_eq_true h12, Bool.true_and]
  generalize l.all rrOk = R at *
  generalize hn : l.length = m at *
  have HN := hide hn
  have H := hide h
  clear hn h
  go_enter Try.func44, Try.ntmps44
  go_wp2
  go_loopw [12] (fun i wr => ∃ k : Nat, k ≤ m ∧ i = .int .i64 k ∧ Hid (∀ j, j < k → rrOk (l.getD j recZ) = true) ∧ Below w.heap.size w wr) (fun i _ => m - (intOf i).toNat)
  case atStart => exact ⟨0, Nat.zero_le _, rfl, hide (fun j hj => absurd hj (Nat.not_lt_zero _)), Below.refl _ _⟩
  case round =>
   obtain ⟨k, hk, rfl, hall, hb⟩ := hrel
   by_cases hlt : k < m
   ·obtain ⟨b, off, na, nc, ta, tc, xa, xc, ia, ic, rfl, hbl, hc, hu⟩ := ((unhide H).below hb).here (k := k) (by rw [unhide HN]; exact hlt)
    have hbk := unhide HB k hlt
    have HBK := hide hbk
    have hone := hide (fun (hs : rrOk (l.getD k recZ) = true) => (show ∀ j, j < k + 1 → rrOk (l.getD j recZ) = true from fun j hj => by
      by_cases e : j = k
      ·subst e; exact hs
      ·exact unhide hall j (by omega)))
    clear hbk
    generalize l.getD k recZ = rk at *
    have bA := fun o => below_alloc (w := wr) o
    have HC := hide (fun o => implRrOk_has (hu.below (below_alloc (w := wr) o)))
    obtain ⟨c0, c1, c2, c3, c4, c5, c6⟩ := range7 hc
    clear hc hu
    cases hp : rrOk rk with
    | true =>
     have HC' := unhide HC
     rw [show rrOk rk = true from hp] at HC'
     replace HC := hide HC'
     clear HC'
     go_wp2_with fail
     refine (unhide HC _).mono ?_
     rintro e w1 ⟨rfl, b1⟩
     clear c0 c1 c2 c3 c4 c5 c6
     have b2 := below_next (below_next hb (bA _)) b1
     clear b1 bA
     go_wp2_with fail
     exact ⟨⟨k + 1, by omega, by go_num, hide (unhide hone hp), b2⟩, by simp [intOf]; omega⟩
    | false =>
     have HC' := unhide HC
     rw [show rrOk rk = false from hp] at HC'
     replace HC := hide HC'
     clear HC'
     have hR := unhide HBK hp
     subst hR
     go_wp2_with fail
     refine (unhide HC _).mono ?_
     rintro e w1 ⟨rfl, b1⟩
     clear c0 c1 c2 c3 c4 c5 c6
     have b2 := below_next (below_next hb (bA _)) b1
     clear b1 bA
     go_wp2_with fail
     go_ret
     exact ⟨rfl, b2⟩
   ·obtain rfl : k = m := by omega
    have hR := unhide HA (unhide hall)
    subst hR
    go_wp2
    go_ret
    exact ⟨rfl, hb⟩
 ·rw [decide_eq_false h12, Bool.false_and]
  clear HA HB h
  generalize l.length = m at *
  go_enter Try.func44, Try.ntmps44
  go_wp2
  go_ret
  exact ⟨rfl, Below.refl _ _⟩
end Go.Proofs.Ytjgfljndeolmoaa

namespace Go.Proofs.Ytjgfljndeolmoaa
open Go.RowKit

end Go.Proofs.Ytjgfljndeolmoaa

namespace Go.Proofs.Ytjgfljndeolmoaa
open Go.RowKit

end Go.Proofs.Ytjgfljndeolmoaa

namespace Go.Proofs.Ytjgfljndeolmoaa
open Go.RowKit


theorem rrOk_name {r : Rec} (h : rrOk r = true) : nameOk r.name = true := by
 unfold rrOk at h
 simp only [Bool.and_eq_true] at h
 exact h.1
end Go.Proofs.Ytjgfljndeolmoaa

namespace Go.Proofs.Ytjgfljndeolmoaa
open Go.RowKit

theorem short_rec {r : Rec} (h : rrOk r = true) : ShortR r := by
 unfold rrOk dataOk at h
 simp only [Bool.and_eq_true] at h
 obtain ⟨h1, h2, h3, h4, h5, h6, h7⟩ := h
 refine ⟨short_name h1, ?_, ?_, ?_⟩
 ·by_cases e : named r.type = true
  ·rw [if_pos e] at h5
   exact short_name h5
  ·rw [if_neg e] at h5
   have := of_decide_eq_true h5
   rw [List.eq_nil_of_length_eq_zero this]
   exact short_nil
 ·by_cases e : texted r.type = true
  ·rw [if_pos e] at h6
   have := of_decide_eq_true h6
   omega
  ·rw [if_neg e] at h6
   have := of_decide_eq_true h6
   omega
 ·by_cases e : r.type = 6
  ·rw [if_pos e] at h7
   have := (of_decide_eq_true h7).1
   omega
  ·rw [if_neg e] at h7
   have := of_decide_eq_true h7
   omega
theorem size_of_short {r : Rec} (h : ShortR r) : SizeR 1048576 r :=
 ⟨Nat.le_trans h.1.1 (by decide), fun i hi => Nat.le_trans (h.1.2 i hi) (by decide), Nat.le_trans h.2.1.1 (by decide), fun i hi => Nat.le_trans (h.2.1.2 i hi) (by decide), h.2.2.1, h.2.2.2⟩
end Go.Proofs.Ytjgfljndeolmoaa

namespace Go.Proofs.Ytjgfljndeolmoaa
open Go.RowKit

/-- Those of the first k whose names lie in z. -/
def inK (z : List (List Int)) (rs : List Rec) : Nat → List Rec
 | 0 => []
 | k + 1 => if endsWith (rs.getD k recZ).name z = true then inK z rs k ++ [rs.getD k recZ] else inK z rs k
def insideOf (rs : List Rec) (z : List (List Int)) : List Rec := if rrsOk rs = true ∧ nameOk z = true then inK z rs rs.length else []
theorem inK_length (z : List (List Int)) (rs : List Rec) : ∀ k, (inK z rs k).length ≤ k
 | 0 => Nat.le_refl _
 | k + 1 => by
  have := inK_length z rs k
  unfold inK
  split
  ·simp; omega
  ·omega
theorem inK_ok (z : List (List Int)) {rs : List Rec} (h : ∀ i, i < rs.length → rrOk (rs.getD i recZ) = true) : ∀ k, k ≤ rs.length → ∀ r ∈ inK z rs k, rrOk r = true
 | 0, _ => fun r hr => by simp [inK] at hr
 | k + 1, hk => by
  have ih := inK_ok z h k (by omega)
  unfold inK
  split
  ·intro r hr
   rcases List.mem_append.1 hr with h1 | h1
   ·exact ih r h1
   ·rw [List.mem_singleton] at h1
    rw [h1]
    exact h k (by omega)
  ·exact ih
theorem rrsOk_parts {l : List Rec} (h : rrsOk l = true) : l.length ≤ 12 ∧ ∀ i, i < l.length → rrOk (l.getD i recZ) = true := by
 unfold rrsOk at h
 rw [Bool.and_eq_true] at h
 refine ⟨of_decide_eq_true h.1, fun i hi => List.all_eq_true.1 h.2 _ ?_⟩
 simp [List.getD, hi]
theorem inside_short {rs : List Rec} {z : List (List Int)} (h : rrsOk rs = true) : (inK z rs rs.length).length ≤ 12 ∧ ∀ i, i < (inK z rs rs.length).length → rrOk ((inK z rs rs.length).getD i recZ) = true := by
 obtain ⟨h1, h2⟩ := rrsOk_parts h
 refine ⟨Nat.le_trans (inK_length z rs _) h1, fun i hi => inK_ok z h2 _ (Nat.le_refl _) _ ?_⟩
 simp [List.getD, hi]
theorem inside_size (rs : List Rec) (z : List (List Int)) : (insideOf rs z).length ≤ 60 ∧ ∀ i, i < (insideOf rs z).length → SizeR 1048576 ((insideOf rs z).getD i recZ) := by
 unfold insideOf
 by_cases h : rrsOk rs = true ∧ nameOk z = true
 ·rw [if_pos h]
  have h1 := inside_short (z := z) h.1
  exact ⟨Nat.le_trans h1.1 (by decide), fun i hi => size_of_short (short_rec (h1.2 i hi))⟩
 ·rw [if_neg h]
  exact ⟨by simp, fun i hi => absurd hi (by simp)⟩
theorem under_in {n z : List (List Int)} (h : nameOk n = true) (h' : nameOk z = true) : under n z = endsWith n z := by
 unfold under
 rw [h, h', Bool.true_and, Bool.true_and]
end Go.Proofs.Ytjgfljndeolmoaa

namespace Go.Proofs.Ytjgfljndeolmoaa
open Go.RowKit

end Go.Proofs.Ytjgfljndeolmoaa

namespace Go.Proofs.Ytjgfljndeolmoaa
open Go.RowKit
set_option linter.unusedVariables false

theorem info_rrI : (Try.prog.info? 34).map (fun i => (i.zero, i.size, i.bytes)) = some (some (.agg #[.slice none 0 0, .int .i64 0, .int .i64 0, .int .i64 0, .slice none 0 0, .slice none 0 0, .slice none 0 0]), 7, 120) := by kernel_rfl
set_option maxHeartbeats 4000000 in
set_option maxRecDepth 100000 in
theorem implInside_own {v u : Value} {l : List Rec} {z : List (List Int)} {w : World} (h : HasRs w v l) (hz : HasL w u z) :
  Calls Try.prog 8 #[v, .agg #[u]] w fun e w' => ∃ x, e = .returned x ∧ RowO w.heap.size w'.heap.size 34 22 5 3 w' x (insideOf l z) ∧ Below w.heap.size w w' := by
 obtain ⟨a, cap, rfl, _⟩ := h.form
 obtain ⟨za, zc, rfl, _⟩ := hz.form
 have b0 := below_alloc (w := w) (.cells #[.slice za z.length zc] 26)
 have KZ := hide (heap_alloc_new w (.cells #[.slice za z.length zc] 26))
 have HL := hide (h.below b0)
 have HZ := hide (hz.below b0)
 have zk := block_lt (unhide KZ)
 have HO := listOkRr_has (h.below b0)
 clear h hz
 generalize hres : insideOf l z = res
 unfold insideOf at hres
 go_enter Try.func8, Try.ntmps8
 cases hok : rrsOk l with
 | false =>
  rw [if_neg (fun q => by rw [hok] at q; cases q.1)] at hres
  subst hres
  rw [hok] at HO
  replace HO := hide HO
  go_wp2_with fail
  refine (unhide HO).mono ?_
  rintro e w1 ⟨rfl, b1⟩
  go_wp2_with fail
  go_ret
  exact ⟨_, rfl, RowO.nil _ _ _ _ _ _ _, below_next b0 b1⟩
 | true =>
  rw [hok] at HO
  replace HO := hide HO
  cases hnm : nameOk z with
  | false =>
   rw [if_neg (fun q => by rw [hnm] at q; cases q.2)] at hres
   subst hres
   go_wp2_with fail
   refine (unhide HO).mono ?_
   rintro e w1 ⟨rfl, b1⟩
   have HM := implNameOk_has ((unhide HZ).below b1)
   rw [hnm] at HM
   replace HM := hide HM
   have d2 := block_one (block_kept b1 (unhide KZ))
   replace b0 := below_next b0 b1
   go_wp2_with fail
   refine (unhide HM).mono ?_
   rintro e w2 ⟨rfl, b2⟩
   go_wp2_with fail
   go_ret
   exact ⟨_, rfl, RowO.nil _ _ _ _ _ _ _, below_next b0 b2⟩
  | true =>
   rw [if_pos ⟨hok, hnm⟩] at hres
   subst hres
   obtain ⟨h12, hoks⟩ := rrsOk_parts hok
   have HOK := hide hoks
   clear hoks hok
   generalize hm : l.length = m at *
   have HN := hide hm
   clear hm
   go_wp2_with fail
   generalize w.alloc (.cells #[.slice za z.length zc] 26) = W0 at *
   refine (unhide HO).mono ?_
   rintro e w1 ⟨rfl, b1⟩
   have HM := implNameOk_has ((unhide HZ).below b1)
   rw [hnm] at HM
   replace HM := hide HM
   have d2 := block_one (block_kept b1 (unhide KZ))
   replace b0 := below_next b0 b1
   replace HL := hide ((unhide HL).below b1)
   replace HZ := hide ((unhide HZ).below b1)
   replace KZ := hide (block_kept b1 (unhide KZ))
   clear b1 HO
   go_wp2_with fail
   refine (unhide HM).mono ?_
   rintro e W ⟨rfl, b2⟩
   replace b0 := below_next b0 b2
   replace HL := hide ((unhide HL).below b2)
   replace HZ := hide ((unhide HZ).below b2)
   replace KZ := hide (block_kept b2 (unhide KZ))
   have zW := block_lt (unhide KZ)
   clear b2 HM d2
   go_wp2_with fail
   go_loopw [5, 18] (fun v i wr => ∃ k : Nat, k ≤ m ∧ i = .int .i64 k ∧ RowO W.heap.size wr.heap.size 34 22 5 3 wr v (inK z l k) ∧ Below W.heap.size W wr) (fun _ i _ => m - (intOf i).toNat)
   case atStart => exact ⟨0, Nat.zero_le _, rfl, RowO.nil _ _ _ _ _ _ _, Below.refl _ _⟩
   case round =>
    obtain ⟨k, hk, rfl, hrow, hbw⟩ := hrel
    by_cases hlt : k < m
    ·have hkm : (k : Int) < m := by omega
     obtain ⟨g, off, rna, rnc, rta, rtc, rxa, rxc, ria, ric, rfl, hbl, hc, hu⟩ := ((unhide HL).below hbw).here (k := k) (by rw [unhide HN]; exact hlt)
     have hok := unhide HOK k hlt
     have hsh := short_rec hok
     have hnr := rrOk_name hok
     have HST := hide (show inK z l (k + 1) = if endsWith (l.getD k recZ).name z = true then inK z l k ++ [l.getD k recZ] else inK z l k from rfl)
     have hlen := inK_length z l k
     generalize l.getD k recZ = r at *
     obtain ⟨va, vc, rfl, _⟩ := hrow.form
     have ba := below_alloc (w := wr) (.cells #[.slice rna r.name.length rnc, .int .i64 r.type, .int .i64 r.ttl, .int .i64 r.addr, .slice rta r.to.length rtc, .slice rxa r.text.length rxc, .slice ria r.nums.length ric] 34)
     have kx := heap_alloc_new wr (.cells #[.slice rna r.name.length rnc, .int .i64 r.type, .int .i64 r.ttl, .int .i64 r.addr, .slice rta r.to.length rtc, .slice rxa r.text.length rxc, .slice ria r.nums.length ric] 34)
     have CS := implUnder_has (hu.below ba).name (((unhide HZ).below hbw).below ba)
     rw [under_in hnr hnm] at CS
     have HR := hide ((hrow.below ba).wide (Nat.le_refl _) ba.size)
     have KX := hide kx
     have HU := hide (hu.below ba)
     have bb := below_next hbw ba
     obtain ⟨c0, c1, c2, c3, c4, c5, c6⟩ := range7 hc
     obtain ⟨x0, x1, x2, x3, x4, x5, x6⟩ := cells7 kx
     have d0 := block_one (block_kept bb (unhide KZ))
     have z1 := hbw.size
     have z2 := ba.size
     clear hrow hu hc ba kx hbw hok hnr
     cases he : endsWith r.name z with
     | false =>
      rw [he] at CS
      have hst := unhide HST
      rw [he, if_neg (by simp)] at hst
      have HST2 := hide hst
      replace CS := hide CS
      clear HST hst
      go_wp2_with fail
      clear c0 c1 c2 c3 c4 c5 c6 x0 x1 x2 x3 x4 x5 x6 d0
      generalize wr.alloc (.cells #[.slice rna r.name.length rnc, .int .i64 r.type, .int .i64 r.ttl, .int .i64 r.addr, .slice rta r.to.length rtc, .slice rxa r.text.length rxc, .slice ria r.nums.length ric] 34) = W2 at *
      refine (unhide CS).mono ?_
      rintro e w2 ⟨rfl, b2⟩
      have R2 := hide (((unhide HR).below b2).wide (Nat.le_refl _) b2.size)
      have bb2 := below_next bb b2
      clear HR b2 CS
      go_wp2_with fail
      exact ⟨⟨k + 1, by omega, by go_num, by rw [unhide HST2]; exact unhide R2, bb2⟩, by simp [intOf]; omega⟩
     | true =>
      rw [he] at CS
      have hst := unhide HST
      rw [he, if_pos rfl] at hst
      have HST2 := hide hst
      replace CS := hide CS
      clear HST hst
      go_wp2_with fail
      clear c0 c1 c2 c3 c4 c5 c6 x0 x1 x2 x3 x4 x5 x6 d0
      generalize wr.alloc (.cells #[.slice rna r.name.length rnc, .int .i64 r.type, .int .i64 r.ttl, .int .i64 r.addr, .slice rta r.to.length rtc, .slice rxa r.text.length rxc, .slice ria r.nums.length ric] 34) = W2 at *
      refine (unhide CS).mono ?_
      rintro e w2 ⟨rfl, b2⟩
      have R2 := hide (((unhide HR).below b2).wide (Nat.le_refl _) b2.size)
      have bb2 := below_next bb b2
      obtain ⟨c0, c1, c2, c3, c4, c5, c6⟩ := cells7 (block_kept b2 (unhide KX))
      have HC := hide (copyRr_own ((unhide HU).below b2) hsh)
      have z3 := b2.size
      clear HR b2 CS KX HU bb
      go_wp2_with fail
      clear c0 c1 c2 c3 c4 c5 c6
      refine (unhide HC).mono ?_
      rintro e w3 ⟨un, ut, ux, ui, rfl, oR, b3⟩
      obtain ⟨una, unc, rfl, _⟩ := oR.hasR.name.form
      obtain ⟨uta, utc, rfl, _⟩ := oR.hasR.to.form
      obtain ⟨uxa, uxc, rfl, _⟩ := oR.hasR.text.form
      obtain ⟨uia, uic, rfl, _⟩ := oR.hasR.nums.form
      have b4 := below_alloc (w := w3) (.cells #[.slice una r.name.length unc, .int .i64 r.type, .int .i64 r.ttl, .int .i64 r.addr, .slice uta r.to.length utc, .slice uxa r.text.length uxc, .slice uia r.nums.length uic] 34)
      have g4 := heap_alloc_new w3 (.cells #[.slice una r.name.length unc, .int .i64 r.type, .int .i64 r.ttl, .int .i64 r.addr, .slice uta r.to.length utc, .slice uxa r.text.length uxc, .slice uia r.nums.length uic] 34)
      have row4 := ((unhide R2).below b3).below b4
      have OR4 := hide (oR.below b4)
      have bb4 := below_next (below_next bb2 b3) b4
      have z4 := b3.size
      have z5 := b4.size
      have ROW4 := hide row4
      obtain ⟨xs0, f0, g0, hx0, hq0, hh0⟩ := row4
      have zB := bb4.size
      clear oR b3 b4 HC R2 bb2 hq0 hh0
      go_wp2_with (at_builtin; refine append_rec' rfl _ _ 23 34 rfl Try.underlying23 _ info_rrI rfl W.heap.size (.slice va (inK z l k).length vc) (inK z l k).length rfl w3.heap.size [.slice una r.name.length unc, .int .i64 r.type, .int .i64 r.ttl, .int .i64 r.addr, .slice uta r.to.length utc, .slice uxa r.text.length uxc, .slice uia r.nums.length uic] rfl ⟨xs0, hx0⟩ g4 rfl (by simp [Value.oneCell']) (by omega) (by simp; omega) ?_)
      intro v5 w5 h5 g5 hw5
      have row5 := RowO.snoc (unhide ROW4) (C := w2.heap.size) (D := w3.heap.size) (by omega) z5 (unhide OR4) (by omega) g5 (by rw [World.size_alloc]; exact hw5) h5
      rw [← unhide HST2] at row5
      have bb5 := bb4.grown g5 bb4.size (fun j e => (World.ownsRow.lt hx0 j e).1)
      clear hx0 h5 g5 hw5 OR4 ROW4 g4 bb4
      go_wp2
      exact ⟨⟨k + 1, by omega, by go_num, row5, bb5⟩, by simp [intOf]; omega⟩
    ·obtain rfl : k = m := by omega
     have z1 := hbw.size
     have z0 := b0.size
     go_wp2
     go_ret
     exact ⟨_, rfl, hrow.wide (by omega) (Nat.le_refl _), below_next b0 hbw⟩
end Go.Proofs.Ytjgfljndeolmoaa
