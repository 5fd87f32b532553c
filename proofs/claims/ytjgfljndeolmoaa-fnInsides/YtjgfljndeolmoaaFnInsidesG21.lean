/-
  Contract of the specification's DrawInside.
-/
import Derived.Test.YtjgfljndeolmoaaFnInsidesG08
import Derived.Test.YtjgfljndeolmoaaFnInsidesG09
import Derived.Test.YtjgfljndeolmoaaFnInsidesG18
import Derived.Test.YtjgfljndeolmoaaFnInsidesG20
import Derived.Test.YtjgfljndeolmoaaFnInsidesG16
import Derived.Test.YtjgfljndeolmoaaFnInsidesG04
import Derived.Test.YtjgfljndeolmoaaFnInsidesG03
namespace Go.Proofs.Ytjgfljndeolmoaa
open Go.RowKit
set_option linter.unusedVariables false

theorem results_tc {P : Program} {fn : Func} {p q : Tmp} {ty : TypeId} (h : fn.results = #[.tmp p, .cell q ty]) (tmps : Array Value) (w : World) (g : Nat) (t : TypeId) (cs : Array Value) (fr : Nat × Nat) (d : TypeDesc)
  (hp : tmps.getD q undef = .pointer (some ⟨g, 0, none⟩)) (hg : w.heap[g]? = some (.cells cs t fr))
  (hu : P.underlying ty = some d) (hd : (match d with | .struct _ | .array _ _ => true | _ => false) = true) (hi : (P.info? ty).map (·.size) = some cs.size) :
  (results fn tmps).run P w = .ok (.tuple #[tmps.getD p undef, .agg cs]) w := by
 have hp' := hp
 simp only [Array.getD_eq_getD_getElem?] at hp'
 simp only [results, h]
 simp [hp', asAddr, run_loadVar_row w g t ty cs fr d hg hu hd hi]
theorem drawn_snoc {rs : List Rec} {r : Rec} (h : ∀ j, j < rs.length → DrawnS 3 (rs.getD j recZ)) (hr : DrawnS 3 r) : ∀ j, j < (rs ++ [r]).length → DrawnS 3 ((rs ++ [r]).getD j recZ) := by
 intro j hj
 rw [List.length_append] at hj
 simp only [List.length_cons, List.length_nil] at hj
 by_cases hlt : j < rs.length
 ·rw [List.getD_eq_getElem?_getD, List.getElem?_append_left hlt, ← List.getD_eq_getElem?_getD]
  exact h j hlt
 ·obtain rfl : j = rs.length := by omega
  rw [List.getD_eq_getElem?_getD]
  simpa using hr
theorem DrawnS.up {r : Rec} (h : DrawnS 2 r) : DrawnS 3 r := ⟨Nat.le_trans h.1 (by decide), h.2⟩

set_option maxHeartbeats 4000000 in
set_option maxRecDepth 100000 in
theorem drawInside_any {a : Option Addr} {len cap : Nat} {w : World} (l : List Int) (hL : Lies w a l) (hn : l.length = len) (hb : ∀ k, 0 ≤ l.getD k 0 ∧ l.getD k 0 ≤ 255) (hm : len ≤ maxLen) :
  Calls Try.prog 7 #[.slice a len cap] w fun e w' => ∃ v rs u z, e = .returned (.tuple #[v, .agg #[u]]) ∧ HasRs w' v rs ∧ rs.length ≤ 7 ∧ (∀ j, j < rs.length → DrawnS 3 (rs.getD j recZ)) ∧ HasL w' u z ∧ (z.length ≤ 7 ∧ ∀ i, i < z.length → (z.getD i []).length ≤ 16) ∧ Below w.heap.size w w' := by
 have b0 := below_alloc (w := w) (.cells #[.slice none 0 0] 26)
 have KN := hide (heap_alloc_new w (.cells #[.slice none 0 0] 26))
 have HNEW := hide (l1New_any (cap := cap) l (hL.below b0) hn hb hm)
 have zz := block_lt (unhide KN)
 have HM := hide hm
 clear hL hn hb hm
 go_enter Try.func7, Try.ntmps7
 go_wp2_with fail
 generalize w.alloc (.cells #[.slice none 0 0] 26) = W at *
 refine (unhide HNEW).mono ?_
 rintro e w1 ⟨rfl, c1, L1, b1⟩
 replace KN := hide (block_kept b1 (unhide KN))
 have bb := below_next b0 b1
 have z1 := c1.lt
 have HO := hide (l1Below_any 6 c1 L1 (unhide HM) (by omega) (by omega))
 have C := hide c1
 have L := hide L1
 clear HNEW b0 c1 L1 b1
 go_wp2_with fail
 refine (unhide HO).mono ?_
 rintro e w2 ⟨n, rfl, hn0, hn1, c2, g2⟩
 replace KN := hide (block_grown g2 (unhide KN) (by simp; omega))
 replace bb := below_cursor bb g2 (fun j e => by simp at e; omega)
 replace L := hide ((unhide L).grown g2)
 replace C := hide c2
 have z2 := g2.size
 clear c2 g2 HO
 obtain ⟨B0, hB0⟩ : ∃ B0, B0 = w2.heap.size := ⟨_, rfl⟩
 have hB1 : W.heap.size < B0 := by omega
 have hB2 : B0 ≤ w2.heap.size := by omega
 clear hB0
 go_wp2_with fail
 go_loopw [5, 7] (fun v i wr => ∃ (k : Nat) (rs : List Rec), i = .int .i64 k ∧ (k : Int) ≤ n ∧ rs.length ≤ k ∧ (∀ j, j < rs.length → DrawnS 3 (rs.getD j recZ)) ∧ RowD B0 wr v rs ∧ Cur wr W.heap.size a len cap ∧ Code wr W.heap.size a len ∧ wr.heap[w.heap.size]? = some (.cells #[.slice none 0 0] 26) ∧ B0 ≤ wr.heap.size ∧ Below w.heap.size w wr) (fun _ i _ => (n - intOf i).toNat)
 case atStart => exact ⟨0, [], rfl, by omega, by simp, fun j hj => absurd hj (by simp), RowD.nil _ _, unhide C, unhide L, unhide KN, hB2, bb⟩
 case round =>
  obtain ⟨k, rs, rfl, hkn, hlen, hds, hrow, hc, hL, hkn2, hB3, hbw⟩ := hrel
  have RW := hide hrow
  have HD0 := hide hds
  clear C L KN bb
  have C := hide hc
  have L := hide hL
  have KN := hide hkn2
  have bb := hbw
  have zb := hbw.size
  obtain ⟨va, vc, rfl, _⟩ := hrow.has.form
  clear hrow hds hc hL hkn2 hbw
  by_cases hlt : (k : Int) < n
  ·have HD := hide ((l3draw_any (unhide C) (unhide L) (unhide HM)).mono (fun e w' h => by
    obtain ⟨vn, vt, vx, vi, r, h1, h2, h3⟩ := h
    exact (⟨vn, vt, vx, vi, r, h1, h2.up, h3⟩ : DrawnR 3 wr W.heap.size a len cap e w')))
   go_wp2_with fail
   refine (unhide HD).mono ?_
   rintro e w2 ⟨vn, vt, vx, vi, r, rfl, hd, hvb, DR, c2, g2⟩
   clear HD hvb
   obtain ⟨x1, xc1, rfl, _⟩ := DR.hasR.name.form
   obtain ⟨x2, xc2, rfl, _⟩ := DR.hasR.to.form
   obtain ⟨x3, xc3, rfl, _⟩ := DR.hasR.text.form
   obtain ⟨x4, xc4, rfl, _⟩ := DR.hasR.nums.form
   replace RW := hide ((unhide RW).cur (unhide C) g2)
   replace KN := hide (block_grown g2 (unhide KN) (by simp; omega))
   replace bb := below_cursor bb g2 (fun j e => by simp at e; omega)
   replace L := hide ((unhide L).grown g2)
   replace C := hide c2
   have z2 := g2.size
   clear c2 g2
   have ba := below_alloc (w := w2) (.cells #[.slice x1 r.name.length xc1, .int .i64 r.type, .int .i64 r.ttl, .int .i64 r.addr, .slice x2 r.to.length xc2, .slice x3 r.text.length xc3, .slice x4 r.nums.length xc4] 34)
   have ka := heap_alloc_new w2 (.cells #[.slice x1 r.name.length xc1, .int .i64 r.type, .int .i64 r.ttl, .int .i64 r.addr, .slice x2 r.to.length xc2, .slice x3 r.text.length xc3, .slice x4 r.nums.length xc4] 34)
   replace RW := hide ((unhide RW).below ba)
   have DD := hide (DR.below ba)
   replace KN := hide (block_kept ba (unhide KN))
   replace bb := below_next bb ba
   replace C := hide ((unhide C).later (grown_of_below ba) (by simp))
   replace L := hide ((unhide L).later (grown_of_below ba) (by simp))
   have HS := hide hd
   have z3 := ba.size
   clear ba DR hd
   obtain ⟨xs, h0, hx⟩ := unhide RW
   have HX := hide hx
   have H0 := hide h0
   clear h0 hx
   go_wp2_with (at_builtin; refine append_rec rfl _ _ 23 34 rfl Try.underlying23 _ info_rr rfl B0 _ rs.length xs rfl (unhide H0) w2.heap.size (cellsR (.slice x1 r.name.length xc1) (.slice x2 r.to.length xc2) (.slice x3 r.text.length xc3) (.slice x4 r.nums.length xc4) r) rfl ka rfl (by simp [cellsR, Value.oneCell']) (by omega) (by omega) ?_)
   intro v3 w3 o3 g3
   have hr3 : ∀ j, Value.ownBlock (.slice va rs.length vc) = some j → B0 ≤ j := fun j e => (World.ownsRow.lt (unhide H0) j e).1
   have RW2 := hide (RowD.snocX (unhide H0) (unhide HX) (unhide DD) g3 o3)
   replace KN := hide (block_grown g3 (unhide KN) (fun e => by have := hr3 _ e; omega))
   replace bb := below_cursor bb g3 (fun j e => by have := hr3 j e; omega)
   replace L := hide ((unhide L).later g3 (fun j e => by have := hr3 j e; omega))
   replace C := hide ((unhide C).later g3 (fun j e => by have := hr3 j e; omega))
   have z4 := g3.size
   have hdd := hide (drawn_snoc (unhide HD0) (unhide HS))
   clear o3 g3 hr3 H0 HX DD RW HS HD0 ka
   obtain ⟨va3, vc3, rfl, _⟩ := (unhide RW2).has.form
   go_wp2_with fail
   exact ⟨⟨k + 1, rs ++ [r], by go_num, by omega, by simp; omega, unhide hdd, unhide RW2, unhide C, unhide L, unhide KN, by omega, bb⟩, by simp [intOf]; omega⟩
  ·have HO := hide (l1Once_any 15 (unhide C) (unhide L) (unhide HM) (by omega) (by omega))
   go_wp2_with fail
   refine (unhide HO).mono ?_
   rintro e u1 ⟨o, rfl, c3, g3⟩
   replace RW := hide ((unhide RW).cur (unhide C) g3)
   replace KN := hide (block_grown g3 (unhide KN) (by simp; omega))
   replace bb := below_cursor bb g3 (fun j e => by simp at e; omega)
   replace L := hide ((unhide L).grown g3)
   replace C := hide c3
   have z7 := g3.size
   clear g3 c3 HO
   rcases o with _ | _
   ·replace hlen : rs.length ≤ 7 := by omega
    clear hlt
    have HB := hide (l2bent_any (unhide C) (unhide L) (unhide HM))
    go_wp2_with fail
    refine (unhide HB).mono ?_
    rintro e w6 ⟨v6, z, rfl, hz1, hz2, o6, c6, g6⟩
    obtain ⟨x6, y6, rfl, _⟩ := o6.hasL.form
    replace RW := hide ((unhide RW).cur (unhide C) g6)
    replace KN := hide (block_grown g6 (unhide KN) (by simp; omega))
    replace bb := below_cursor bb g6 (fun j e => by simp at e; omega)
    have O6 := hide o6
    have z6 := g6.size
    clear o6 c6 g6 C L HB
    have k6 := block_one (unhide KN)
    have f6 := block_frozen (unhide KN) 0
    go_wp2_with fail
    have K7 := block_setAt (unhide KN) 0 (.slice x6 z.length y6)
    have g7 := grown_setCell w6 ⟨w.heap.size, 0, none⟩ (.slice x6 z.length y6)
    have R7 := hide (RowD.off (unhide RW) (unhide KN) (by decide) (by decide) (by decide) (by decide) g7)
    have O7 := hide ((unhide O6).off (unhide KN) (by decide) (by decide) g7)
    replace bb := below_cursor bb g7 (fun j e => by simp at e; omega)
    clear k6 f6
    refine bodyPost_ret (results_tc rfl _ _ w.heap.size 26 #[.slice x6 z.length y6] (0, 0) _ rfl K7 Try.underlying26 rfl (by kernel_rfl)) rfl ?_
    exact ⟨_, rs, _, z, rfl, (unhide R7).has, hlen, unhide HD0, (unhide O7).hasL, ⟨hz1, hz2⟩, bb⟩
   ·have HD := hide (l3bent_any (unhide C) (unhide L) (unhide HM))
    go_wp2_with fail
    refine (unhide HD).mono ?_
    rintro e w2 ⟨vn, vt, vx, vi, r, rfl, hd, hvb, DR, c2, g2⟩
    clear HD hvb
    obtain ⟨x1, xc1, rfl, _⟩ := DR.hasR.name.form
    obtain ⟨x2, xc2, rfl, _⟩ := DR.hasR.to.form
    obtain ⟨x3, xc3, rfl, _⟩ := DR.hasR.text.form
    obtain ⟨x4, xc4, rfl, _⟩ := DR.hasR.nums.form
    replace RW := hide ((unhide RW).cur (unhide C) g2)
    replace KN := hide (block_grown g2 (unhide KN) (by simp; omega))
    replace bb := below_cursor bb g2 (fun j e => by simp at e; omega)
    replace L := hide ((unhide L).grown g2)
    replace C := hide c2
    have z2 := g2.size
    clear c2 g2
    have ba := below_alloc (w := w2) (.cells #[.slice x1 r.name.length xc1, .int .i64 r.type, .int .i64 r.ttl, .int .i64 r.addr, .slice x2 r.to.length xc2, .slice x3 r.text.length xc3, .slice x4 r.nums.length xc4] 34)
    have ka := heap_alloc_new w2 (.cells #[.slice x1 r.name.length xc1, .int .i64 r.type, .int .i64 r.ttl, .int .i64 r.addr, .slice x2 r.to.length xc2, .slice x3 r.text.length xc3, .slice x4 r.nums.length xc4] 34)
    replace RW := hide ((unhide RW).below ba)
    have DD := hide (DR.below ba)
    replace KN := hide (block_kept ba (unhide KN))
    replace bb := below_next bb ba
    replace C := hide ((unhide C).later (grown_of_below ba) (by simp))
    replace L := hide ((unhide L).later (grown_of_below ba) (by simp))
    have HS := hide hd
    have z3 := ba.size
    clear ba DR hd
    obtain ⟨xs, h0, hx⟩ := unhide RW
    have HX := hide hx
    have H0 := hide h0
    clear h0 hx
    go_wp2_with (at_builtin; refine append_rec rfl _ _ 23 34 rfl Try.underlying23 _ info_rr rfl B0 _ rs.length xs rfl (unhide H0) w2.heap.size (cellsR (.slice x1 r.name.length xc1) (.slice x2 r.to.length xc2) (.slice x3 r.text.length xc3) (.slice x4 r.nums.length xc4) r) rfl ka rfl (by simp [cellsR, Value.oneCell']) (by omega) (by omega) ?_)
    intro v3 w3 o3 g3
    have hr3 : ∀ j, Value.ownBlock (.slice va rs.length vc) = some j → B0 ≤ j := fun j e => (World.ownsRow.lt (unhide H0) j e).1
    have RW2 := hide (RowD.snocX (unhide H0) (unhide HX) (unhide DD) g3 o3)
    replace KN := hide (block_grown g3 (unhide KN) (fun e => by have := hr3 _ e; omega))
    replace bb := below_cursor bb g3 (fun j e => by have := hr3 j e; omega)
    replace L := hide ((unhide L).later g3 (fun j e => by have := hr3 j e; omega))
    replace C := hide ((unhide C).later g3 (fun j e => by have := hr3 j e; omega))
    have z4 := g3.size
    have hdd := hide (drawn_snoc (unhide HD0) (unhide HS))
    clear o3 g3 hr3 H0 HX DD RW HS HD0 ka
    obtain ⟨va3, vc3, rfl, _⟩ := (unhide RW2).has.form
    go_wp2_with fail
    have RW := hide (unhide RW2)
    replace hlen : (rs ++ [r]).length ≤ 7 := by simp; omega
    have HD0 := hide (unhide hdd)
    clear RW2 hdd hlt
    generalize rs ++ [r] = rs at *
    have HB := hide (l2bent_any (unhide C) (unhide L) (unhide HM))
    go_wp2_with fail
    refine (unhide HB).mono ?_
    rintro e w6 ⟨v6, z, rfl, hz1, hz2, o6, c6, g6⟩
    obtain ⟨x6, y6, rfl, _⟩ := o6.hasL.form
    replace RW := hide ((unhide RW).cur (unhide C) g6)
    replace KN := hide (block_grown g6 (unhide KN) (by simp; omega))
    replace bb := below_cursor bb g6 (fun j e => by simp at e; omega)
    have O6 := hide o6
    have z6 := g6.size
    clear o6 c6 g6 C L HB
    have k6 := block_one (unhide KN)
    have f6 := block_frozen (unhide KN) 0
    go_wp2_with fail
    have K7 := block_setAt (unhide KN) 0 (.slice x6 z.length y6)
    have g7 := grown_setCell w6 ⟨w.heap.size, 0, none⟩ (.slice x6 z.length y6)
    have R7 := hide (RowD.off (unhide RW) (unhide KN) (by decide) (by decide) (by decide) (by decide) g7)
    have O7 := hide ((unhide O6).off (unhide KN) (by decide) (by decide) g7)
    replace bb := below_cursor bb g7 (fun j e => by simp at e; omega)
    clear k6 f6
    refine bodyPost_ret (results_tc rfl _ _ w.heap.size 26 #[.slice x6 z.length y6] (0, 0) _ rfl K7 Try.underlying26 rfl (by kernel_rfl)) rfl ?_
    exact ⟨_, rs, _, z, rfl, (unhide R7).has, hlen, unhide HD0, (unhide O7).hasL, ⟨hz1, hz2⟩, bb⟩
end Go.Proofs.Ytjgfljndeolmoaa
