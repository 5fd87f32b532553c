/-
  Plain facts: what one zone has alone. No program is named here. Plain facts: three results of a function. No program is named here. Contracts of the program's onlyIn, and of the library's IndexFunc and ContainsFunc with its closure.
-/
import Derived.Test.YtdghbcjlahjjdaaGreatZoneDiffG22
import Derived.Test.YtdghbcjlahjjdaaGreatZoneDiffG00
import Derived.Test.YtdghbcjlahjjdaaGreatZoneDiffG13
import Derived.Test.YtdghbcjlahjjdaaGreatZoneDiffG07
import Derived.Test.YtdghbcjlahjjdaaGreatZoneDiffG21
import Derived.Deep.RegionHeld3
namespace Go.Proofs.YtdghbcjlahjjdaaGreat
open Go.RowKit
set_option linter.unusedVariables false

/-- Is there one that is the same? -/
def hasRec (b : List Rec) (r : Rec) : Bool := b.any (fun x => cmpR x r == 0)
/-- Those of the first k that b lacks. -/
def onlyK (a b : List Rec) : Nat → List Rec
  | 0 => []
  | k + 1 => if hasRec b (a.getD k recZ) = true then onlyK a b k else onlyK a b k ++ [a.getD k recZ]
def onlyOf (a b : List Rec) : List Rec := onlyK a b a.length
def diffOf (o : List (List Int)) (a : List Rec) (p : List (List Int)) (b : List Rec) : List Rec × List Rec × Bool := if zoneOk o a = true ∧ zoneOk p b = true then (onlyOf a b, onlyOf b a, true) else ([], [], false)
theorem hasRec_yes {b : List Rec} {r : Rec} {j : Nat} (hj : j < b.length) (h : cmpR (b.getD j recZ) r = 0) : hasRec b r = true := by
  unfold hasRec
  rw [List.any_eq_true]
  refine ⟨b.getD j recZ, ?_, by rw [h]; rfl⟩
  simp [List.getD, hj]
theorem hasRec_no {b : List Rec} {r : Rec} (h : ∀ j, j < b.length → cmpR (b.getD j recZ) r ≠ 0) : hasRec b r = false := by
  unfold hasRec
  rw [List.any_eq_false]
  intro x hx
  obtain ⟨j, hj, e⟩ := List.mem_iff_getElem.1 hx
  have := h j hj
  have e2 : b.getD j recZ = x := by simp [List.getD, hj, e]
  rw [e2] at this
  simpa using this
theorem onlyK_length (a b : List Rec) : ∀ k, (onlyK a b k).length ≤ k
  | 0 => Nat.le_refl _
  | k + 1 => by
    have := onlyK_length a b k
    unfold onlyK
    split
    · omega
    · simp; omega
theorem onlyK_of {a b : List Rec} {P : Rec → Prop} : ∀ k, k ≤ a.length → (∀ i, i < a.length → P (a.getD i recZ)) → ∀ i, i < (onlyK a b k).length → P ((onlyK a b k).getD i recZ)
  | 0, _, _ => fun i hi => absurd hi (by simp [onlyK])
  | k + 1, hk, h => by
    have ih := onlyK_of (b := b) k (by omega) h
    unfold onlyK
    split
    · exact ih
    · intro i hi
      rw [List.length_append] at hi
      simp only [List.length_cons, List.length_nil] at hi
      by_cases hlt : i < (onlyK a b k).length
      · rw [List.getD_eq_getElem?_getD, List.getElem?_append_left hlt, ← List.getD_eq_getElem?_getD]
        exact ih i hlt
      · obtain rfl : i = (onlyK a b k).length := by omega
        have : (onlyK a b k ++ [a.getD k recZ]).getD (onlyK a b k).length recZ = a.getD k recZ := by rw [List.getD_eq_getElem?_getD]; simp
        rw [this]
        exact h k (by omega)
theorem onlyOf_short {o : List (List Int)} {a b : List Rec} (h : zoneOk o a = true) : (∀ i, i < (onlyOf a b).length → ShortR ((onlyOf a b).getD i recZ)) ∧ (onlyOf a b).length ≤ 60 := by
  have hs := zone_short h
  exact ⟨onlyK_of a.length (Nat.le_refl _) hs.2.1, Nat.le_trans (onlyK_length a b a.length) hs.2.2⟩
theorem diffOf_size (o : List (List Int)) (a : List Rec) (p : List (List Int)) (b : List Rec) : ((diffOf o a p b).1.length ≤ 60 ∧ ∀ i, i < (diffOf o a p b).1.length → SizeR 1048576 ((diffOf o a p b).1.getD i recZ)) ∧ ((diffOf o a p b).2.1.length ≤ 60 ∧ ∀ i, i < (diffOf o a p b).2.1.length → SizeR 1048576 ((diffOf o a p b).2.1.getD i recZ)) := by
  unfold diffOf
  by_cases h : zoneOk o a = true ∧ zoneOk p b = true
  · rw [if_pos h]
    have h1 := onlyOf_short (b := b) h.1
    have h2 := onlyOf_short (b := a) h.2
    exact ⟨⟨h1.2, fun i hi => size_of_short (h1.1 i hi)⟩, ⟨h2.2, fun i hi => size_of_short (h2.1 i hi)⟩⟩
  · rw [if_neg h]
    exact ⟨⟨by simp, fun i hi => absurd hi (by simp)⟩, ⟨by simp, fun i hi => absurd hi (by simp)⟩⟩
theorem zone_oks {o : List (List Int)} {rs : List Rec} (h : zoneOk o rs = true) : ∀ i, i < rs.length → rrOk (rs.getD i recZ) = true := fun i hi => (goodI_parts ((of_decide_eq_true h).2.2.1 i hi)).1
end Go.Proofs.YtdghbcjlahjjdaaGreat

namespace Go.Proofs.YtdghbcjlahjjdaaGreat
open Go.RowKit

theorem results_tmp3 {fn : Func} {p q r : Tmp} (h : fn.results = #[.tmp p, .tmp q, .tmp r]) (tmps : Array Value) (P : Program) (w : World) : (results fn tmps).run P w = .ok (.tuple #[tmps.getD p undef, tmps.getD q undef, tmps.getD r undef]) w := by
  simp only [results, h]
  simp
end Go.Proofs.YtdghbcjlahjjdaaGreat

namespace Go.Proofs.YtdghbcjlahjjdaaGreat
open Go.RowKit
set_option linter.unusedVariables false

set_option maxHeartbeats 4000000 in
set_option maxRecDepth 100000 in
theorem isSame_has {vn vt vx vi : Value} {x r : Rec} {w : World} {Bx : Nat} (h : HasR w vn vt vx vi x) {rna rta rxa ria : Option Addr} {rnc rtc rxc ric : Nat} (hr : HasR w (.slice rna r.name.length rnc) (.slice rta r.to.length rtc) (.slice rxa r.text.length rxc) (.slice ria r.nums.length ric) r) (hb : w.heap[Bx]? = some (.cells #[.slice rna r.name.length rnc, .int .i64 r.type, .int .i64 r.ttl, .int .i64 r.addr, .slice rta r.to.length rtc, .slice rxa r.text.length rxc, .slice ria r.nums.length ric] 101)) (hx : rrOk x = true) (ho : rrOk r = true) :
    Calls Tryz.prog 133 #[.agg #[vn, .int .i64 x.type, .int .i64 x.ttl, .int .i64 x.addr, vt, vx, vi], .pointer (some ⟨Bx, 0, none⟩)] w fun e w' => e = .returned (.bool (cmpR x r == 0)) ∧ Below w.heap.size w w' := by
  obtain ⟨xna, xnc, rfl, _⟩ := h.name.form
  obtain ⟨xta, xtc, rfl, _⟩ := h.to.form
  obtain ⟨xxa, xxc, rfl, _⟩ := h.text.form
  obtain ⟨xia, xic, rfl, _⟩ := h.nums.form
  have b0 := below_alloc (w := w) (.cells #[.slice xna x.name.length xnc, .int .i64 x.type, .int .i64 x.ttl, .int .i64 x.addr, .slice xta x.to.length xtc, .slice xxa x.text.length xxc, .slice xia x.nums.length xic] 101)
  have k0 := heap_alloc_new w (.cells #[.slice xna x.name.length xnc, .int .i64 x.type, .int .i64 x.ttl, .int .i64 x.addr, .slice xta x.to.length xtc, .slice xxa x.text.length xxc, .slice xia x.nums.length xic] 101)
  have SM := implRrSame_has (h.below b0) (hr.below b0)
  unfold rrSame at SM
  rw [hx, ho, Bool.true_and, Bool.true_and] at SM
  replace SM := hide SM
  obtain ⟨c0, c1, c2, c3, c4, c5, c6⟩ := cells7 k0
  obtain ⟨d0, d1, d2, d3, d4, d5, d6⟩ := cells7 (block_kept b0 hb)
  clear h hr hb k0 hx ho
  go_enter Tryz.func133, Tryz.ntmps133
  go_wp2_with fail
  refine (unhide SM).mono ?_
  rintro e w1 ⟨rfl, b1⟩
  go_wp2_with fail
  go_ret
  exact ⟨rfl, below_next b0 b1⟩
set_option maxHeartbeats 4000000 in
set_option maxRecDepth 100000 in
theorem indexSame_has {v : Value} {b : List Rec} {r : Rec} {w : World} {Bx : Nat} (h : HasRs w v b) {rna rta rxa ria : Option Addr} {rnc rtc rxc ric : Nat} (hr : HasR w (.slice rna r.name.length rnc) (.slice rta r.to.length rtc) (.slice rxa r.text.length rxc) (.slice ria r.nums.length ric) r) (hb : w.heap[Bx]? = some (.cells #[.slice rna r.name.length rnc, .int .i64 r.type, .int .i64 r.ttl, .int .i64 r.addr, .slice rta r.to.length rtc, .slice rxa r.text.length rxc, .slice ria r.nums.length ric] 101)) (hx : ∀ j, j < b.length → rrOk (b.getD j recZ) = true) (ho : rrOk r = true) (h60 : b.length ≤ 60) :
    Calls Tryz.prog 130 #[v, .func (Fn.func 133) #[] #[.pointer (some ⟨Bx, 0, none⟩)]] w fun e w' => ∃ i : Int, e = .returned (.int .i64 i) ∧ -1 ≤ i ∧ i ≤ 60 ∧ decide (0 ≤ i) = hasRec b r ∧ Below w.heap.size w w' := by
  obtain ⟨a, cap, rfl, _⟩ := h.form
  generalize hm : b.length = m at *
  have HN := hide hm
  have HX := hide hx
  have H := hide h
  have HR := hide hr
  have HB := hide hb
  clear hm hx h hr hb
  go_enter Tryz.func130, Tryz.ntmps130
  go_wp2_with fail
  go_loopw [8] (fun i wr => ∃ k : Nat, k ≤ m ∧ i = .int .i64 k ∧ (∀ j, j < k → cmpR (b.getD j recZ) r ≠ 0) ∧ Below w.heap.size w wr) (fun i _ => m - (intOf i).toNat)
  case atStart => exact ⟨0, Nat.zero_le _, rfl, fun j hj => absurd hj (Nat.not_lt_zero _), Below.refl _ _⟩
  case round =>
    obtain ⟨k, hk, rfl, hno, hbw⟩ := hrel
    have HNO := hide hno
    clear hno
    by_cases hlt : k < m
    · have hkm : (k : Int) < m := by omega
      obtain ⟨g, off, na, nc, ta, tc, xa, xc, ia, ic, rfl, hbl, hc, hu⟩ := ((unhide H).below hbw).here (k := k) (by rw [unhide HN]; exact hlt)
      have hxk := unhide HX k hlt
      generalize hrk : b.getD k recZ = rk at *
      have HRK := hide hrk
      have CL := isSame_has hu ((unhide HR).below hbw) (block_kept hbw (unhide HB)) hxk ho
      obtain ⟨c0, c1, c2, c3, c4, c5, c6⟩ := range7 hc
      clear hu hc hxk hrk
      cases hz : (cmpR rk r == 0) with
      | true =>
        rw [hz] at CL
        replace CL := hide CL
        go_wp2_with fail
        refine (unhide CL).mono ?_
        rintro e w2 ⟨rfl, b2⟩
        clear c0 c1 c2 c3 c4 c5 c6
        go_wp2_with fail
        go_ret
        exact ⟨k, rfl, by omega, by omega, by rw [hasRec_yes (j := k) (by rw [unhide HN]; exact hlt) (by rw [unhide HRK]; exact beq_iff_eq.1 hz)]; simp, below_next hbw b2⟩
      | false =>
        rw [hz] at CL
        replace CL := hide CL
        go_wp2_with fail
        refine (unhide CL).mono ?_
        rintro e w2 ⟨rfl, b2⟩
        clear c0 c1 c2 c3 c4 c5 c6
        have hno2 : ∀ j, j < k + 1 → cmpR (b.getD j recZ) r ≠ 0 := fun j hj => by
          by_cases e : j = k
          · subst e
            rw [unhide HRK]
            exact beq_eq_false_iff_ne.1 hz
          · exact unhide HNO j (by omega)
        have HNO2 := hide hno2
        clear hno2
        go_wp2_with fail
        exact ⟨⟨k + 1, by omega, by go_num, unhide HNO2, below_next hbw b2⟩, by simp [intOf]; omega⟩
    · obtain rfl : k = m := by omega
      go_wp2_with fail
      go_ret
      exact ⟨-1, rfl, by omega, by omega, by rw [hasRec_no (fun j hj => unhide HNO j (by rw [unhide HN] at hj; exact hj))]; rfl, hbw⟩
theorem containsSame_has {v : Value} {b : List Rec} {r : Rec} {w : World} {Bx : Nat} (h : HasRs w v b) {rna rta rxa ria : Option Addr} {rnc rtc rxc ric : Nat} (hr : HasR w (.slice rna r.name.length rnc) (.slice rta r.to.length rtc) (.slice rxa r.text.length rxc) (.slice ria r.nums.length ric) r) (hb : w.heap[Bx]? = some (.cells #[.slice rna r.name.length rnc, .int .i64 r.type, .int .i64 r.ttl, .int .i64 r.addr, .slice rta r.to.length rtc, .slice rxa r.text.length rxc, .slice ria r.nums.length ric] 101)) (hx : ∀ j, j < b.length → rrOk (b.getD j recZ) = true) (ho : rrOk r = true) (h60 : b.length ≤ 60) :
    Calls Tryz.prog 132 #[v, .func (Fn.func 133) #[] #[.pointer (some ⟨Bx, 0, none⟩)]] w fun e w' => e = .returned (.bool (hasRec b r)) ∧ Below w.heap.size w w' := by
  have IX := hide (indexSame_has h hr hb hx ho h60)
  obtain ⟨a, cap, rfl, _⟩ := h.form
  clear h hr hb hx
  generalize hasRec b r = G at *
  go_enter Tryz.func132, Tryz.ntmps132
  go_wp2_with fail
  refine (unhide IX).mono ?_
  rintro e w1 ⟨i, rfl, i0, i1, hi, b1⟩
  subst hi
  go_wp2_with fail
  go_ret
  exact ⟨rfl, b1⟩
theorem info_rrD : (Tryz.prog.info? 101).map (fun i => (i.zero, i.size, i.bytes)) = some (some (.agg #[.slice none 0 0, .int .i64 0, .int .i64 0, .int .i64 0, .slice none 0 0, .slice none 0 0, .slice none 0 0]), 7, 120) := by kernel_rfl
set_option maxHeartbeats 4000000 in
set_option maxRecDepth 100000 in
theorem onlyIn_own {vo vr uo ur : Value} {o p : List (List Int)} {a b : List Rec} {w : World} (h : HasZ w vo vr o a) (h' : HasZ w uo ur p b) (ha : zoneOk o a = true) (hb : zoneOk p b = true) :
    Calls Tryz.prog 84 #[.agg #[vo, vr], .agg #[uo, ur]] w fun e w' => ∃ v, e = .returned v ∧ RowO w.heap.size w'.heap.size 101 37 5 3 w' v (onlyOf a b) ∧ Below w.heap.size w w' := by
  have hsa := zone_short ha
  have hsb := zone_short hb
  have hoa := zone_oks ha
  have hob := zone_oks hb
  obtain ⟨oa, oc, rfl, _⟩ := h.name.form
  obtain ⟨ra, rc, rfl, _⟩ := h.recs.form
  obtain ⟨pa, pc, rfl, _⟩ := h'.name.form
  obtain ⟨sa, sc, rfl, _⟩ := h'.recs.form
  obtain ⟨hsz, k0, x0⟩ := box2 w (.cells #[.slice oa o.length oc, .slice ra a.length rc] 55) #[.slice pa p.length pc, .slice sa b.length sc] 55
  have b0 := below2 w (.cells #[.slice oa o.length oc, .slice ra a.length rc] 55) (.cells #[.slice pa p.length pc, .slice sa b.length sc] 55)
  have HA := hide (h.below b0).recs
  have HB := hide (h'.below b0).recs
  have K0 := hide k0
  have X0 := hide x0
  have zx := block_lt x0
  have HSA := hide hsa.2.1
  have HOA := hide hoa
  have HOB := hide hob
  have l1 := hsa.2.2
  have l2 := hsb.2.2
  obtain ⟨c0, c1⟩ := cells2 k0
  unfold onlyOf
  clear h h' ha hb hsa hsb hoa hob hsz k0 x0
  generalize hm : a.length = m at *
  have HN := hide hm
  clear hm
  go_enter Tryz.func84, Tryz.ntmps84
  go_wp2_with fail
  clear c0 c1
  generalize (w.alloc (.cells #[.slice oa o.length oc, .slice ra m rc] 55)).alloc (.cells #[.slice pa p.length pc, .slice sa b.length sc] 55) = W at *
  go_loopw [5, 11] (fun v i wr => ∃ k : Nat, k ≤ m ∧ i = .int .i64 k ∧ RowO W.heap.size wr.heap.size 101 37 5 3 wr v (onlyK a b k) ∧ Below W.heap.size W wr) (fun _ i _ => m - (intOf i).toNat)
  case atStart => exact ⟨0, Nat.zero_le _, rfl, RowO.nil _ _ _ _ _ _ _, Below.refl _ _⟩
  case round =>
    obtain ⟨k, hk, rfl, hrow, hbw⟩ := hrel
    by_cases hlt : k < m
    · have hkm : (k : Int) < m := by omega
      obtain ⟨g, off, rna, rnc, rta, rtc, rxa, rxc, ria, ric, rfl, hbl, hc, hu⟩ := ((unhide HA).below hbw).here (k := k) (by rw [unhide HN]; exact hlt)
      have hok := unhide HOA k hlt
      have hsh := unhide HSA k hlt
      have HST := hide (show onlyK a b (k + 1) = if hasRec b (a.getD k recZ) = true then onlyK a b k else onlyK a b k ++ [a.getD k recZ] from rfl)
      have hlen := onlyK_length a b k
      generalize a.getD k recZ = r at *
      obtain ⟨va, vc, rfl, _⟩ := hrow.form
      have ba := below_alloc (w := wr) (.cells #[.slice rna r.name.length rnc, .int .i64 r.type, .int .i64 r.ttl, .int .i64 r.addr, .slice rta r.to.length rtc, .slice rxa r.text.length rxc, .slice ria r.nums.length ric] 101)
      have kx := heap_alloc_new wr (.cells #[.slice rna r.name.length rnc, .int .i64 r.type, .int .i64 r.ttl, .int .i64 r.addr, .slice rta r.to.length rtc, .slice rxa r.text.length rxc, .slice ria r.nums.length ric] 101)
      have CS := containsSame_has (((unhide HB).below hbw).below ba) (hu.below ba) kx (unhide HOB) hok l2
      have HR := hide ((hrow.below ba).wide (Nat.le_refl _) ba.size)
      have KX := hide kx
      have HU := hide (hu.below ba)
      have bb := below_next hbw ba
      obtain ⟨c0, c1, c2, c3, c4, c5, c6⟩ := range7 hc
      obtain ⟨d0, d1⟩ := cells2 (block_kept bb (unhide X0))
      have z1 := hbw.size
      have z2 := ba.size
      clear hrow hu hc ba kx hbw hok
      cases hz : hasRec b r with
      | true =>
        rw [hz] at CS
        have hst := unhide HST
        rw [hz, if_pos rfl] at hst
        have HST2 := hide hst
        replace CS := hide CS
        clear HST hst
        go_wp2_with fail
        clear c0 c1 c2 c3 c4 c5 c6 d0 d1
        generalize wr.alloc (.cells #[.slice rna r.name.length rnc, .int .i64 r.type, .int .i64 r.ttl, .int .i64 r.addr, .slice rta r.to.length rtc, .slice rxa r.text.length rxc, .slice ria r.nums.length ric] 101) = W2 at *
        refine (unhide CS).mono ?_
        rintro e w2 ⟨rfl, b2⟩
        have R2 := hide (((unhide HR).below b2).wide (Nat.le_refl _) b2.size)
        have bb2 := below_next bb b2
        clear HR b2 CS
        go_wp2_with fail
        exact ⟨⟨k + 1, by omega, by go_num, by rw [unhide HST2]; exact unhide R2, bb2⟩, by simp [intOf]; omega⟩
      | false =>
        rw [hz] at CS
        have hst := unhide HST
        rw [hz, if_neg (by simp)] at hst
        have HST2 := hide hst
        replace CS := hide CS
        clear HST hst
        go_wp2_with fail
        clear c0 c1 c2 c3 c4 c5 c6 d0 d1
        generalize wr.alloc (.cells #[.slice rna r.name.length rnc, .int .i64 r.type, .int .i64 r.ttl, .int .i64 r.addr, .slice rta r.to.length rtc, .slice rxa r.text.length rxc, .slice ria r.nums.length ric] 101) = W2 at *
        refine (unhide CS).mono ?_
        rintro e w2 ⟨rfl, b2⟩
        have R2 := hide (((unhide HR).below b2).wide (Nat.le_refl _) b2.size)
        have bb2 := below_next bb b2
        obtain ⟨c0, c1, c2, c3, c4, c5, c6⟩ := cells7 (block_kept b2 (unhide KX))
        have HC := hide (copyRr_own ((unhide HU).below b2) hsh)
        have z3 := b2.size
        clear HR b2 CS KX HU bb
        go_wp2_with fail
        clear c0 c1 c2 c3 c4 c5 c6
        refine (unhide HC).mono ?_
        rintro e w3 ⟨un, ut, ux, ui, rfl, oR, b3⟩
        obtain ⟨una, unc, rfl, _⟩ := oR.hasR.name.form
        obtain ⟨uta, utc, rfl, _⟩ := oR.hasR.to.form
        obtain ⟨uxa, uxc, rfl, _⟩ := oR.hasR.text.form
        obtain ⟨uia, uic, rfl, _⟩ := oR.hasR.nums.form
        have b4 := below_alloc (w := w3) (.cells #[.slice una r.name.length unc, .int .i64 r.type, .int .i64 r.ttl, .int .i64 r.addr, .slice uta r.to.length utc, .slice uxa r.text.length uxc, .slice uia r.nums.length uic] 101)
        have g4 := heap_alloc_new w3 (.cells #[.slice una r.name.length unc, .int .i64 r.type, .int .i64 r.ttl, .int .i64 r.addr, .slice uta r.to.length utc, .slice uxa r.text.length uxc, .slice uia r.nums.length uic] 101)
        have row4 := ((unhide R2).below b3).below b4
        have OR4 := hide (oR.below b4)
        have bb4 := below_next (below_next bb2 b3) b4
        have z4 := b3.size
        have z5 := b4.size
        have ROW4 := hide row4
        obtain ⟨xs0, f0, g0, hx0, hq0, hh0⟩ := row4
        have zB := bb4.size
        clear oR b3 b4 HC R2 bb2 hq0 hh0
        go_wp2_with (at_builtin; refine append_rec' rfl _ _ 30 101 rfl Tryz.underlying30 _ info_rrD rfl W.heap.size (.slice va (onlyK a b k).length vc) (onlyK a b k).length rfl w3.heap.size [.slice una r.name.length unc, .int .i64 r.type, .int .i64 r.ttl, .int .i64 r.addr, .slice uta r.to.length utc, .slice uxa r.text.length uxc, .slice uia r.nums.length uic] rfl ⟨xs0, hx0⟩ g4 rfl (by simp [Value.oneCell']) (by omega) (by simp; omega) ?_)
        intro v5 w5 h5 g5 hw5
        have row5 := RowO.snoc (unhide ROW4) (C := w2.heap.size) (D := w3.heap.size) (by omega) z5 (unhide OR4) (by omega) g5 (by rw [World.size_alloc]; exact hw5) h5
        rw [← unhide HST2] at row5
        have bb5 := bb4.grown g5 bb4.size (fun j e => (World.ownsRow.lt hx0 j e).1)
        clear hx0 h5 g5 hw5 OR4 ROW4 g4 bb4
        go_wp2
        exact ⟨⟨k + 1, by omega, by go_num, row5, bb5⟩, by simp [intOf]; omega⟩
    · obtain rfl : k = m := by omega
      have z1 := hbw.size
      go_wp2
      go_ret
      exact ⟨_, rfl, hrow.wide (by omega) (Nat.le_refl _), below_next b0 hbw⟩
end Go.Proofs.YtdghbcjlahjjdaaGreat
