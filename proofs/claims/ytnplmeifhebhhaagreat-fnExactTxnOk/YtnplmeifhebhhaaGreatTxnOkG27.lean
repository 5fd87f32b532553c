/-
  Contracts of the program's putQuestion, putWant, inClass and putSections.
-/
import Derived.Test.YtnplmeifhebhhaaGreatTxnOkG25
import Derived.Test.YtnplmeifhebhhaaGreatTxnOkG26
import Derived.Test.YtnplmeifhebhhaaGreatTxnOkG12
namespace Go.Proofs.YtnplmeifhebhhaaGreat
open Go.RowKit
set_option linter.unusedVariables false

theorem has_nilB (w : World) : Has w (.slice none 0 0) [] := (show Own 0 5 w (.slice none 0 0) [] from World.ownsRow_nil _ _ _ _).has

set_option maxHeartbeats 1000000 in
set_option maxRecDepth 100000 in
theorem putQuestion_has {vb v : Value} {l : List Int} {q : Que} {w : World} (hvb : Has w vb l) (hl : l.length ≤ 1048576) (h : HasL w v q.name) (hok : nameOk q.name = true) :
  Calls Tryz.prog 42 #[vb, .agg #[v, .int .i64 q.type]] w fun e w' => ∃ v', e = .returned v' ∧ Own w.heap.size 5 w' v' (queB l q) ∧ Below w.heap.size w w' := by
 obtain ⟨na, nc, rfl, _⟩ := h.form
 have b0 := below_alloc (w := w) (.cells #[.slice na q.name.length nc, .int .i64 q.type] 71)
 have KK := hide (heap_alloc_new w (.cells #[.slice na q.name.length nc, .int .i64 q.type] 71))
 have q1 := wire_length q.name hok
 have q3 := put16_length (l ++ wire q.name) q.type
 have hl0 : (l ++ wire q.name).length ≤ 2000000 := by rw [List.length_append]; omega
 have hl1 : (put16 (l ++ wire q.name) q.type).length ≤ 2000000 := by rw [List.length_append] at hl0 q3; omega
 have HP := implNamePut_has (hvb.below b0) hl (h.below b0)
 rw [hok, namePut_yes hok] at HP
 replace HP := hide HP
 unfold queB
 generalize l ++ wire q.name = L1 at *
 have P1 := hide (fun (C : Nat) (w : World) (v : Value) (hv : Own C 5 w v L1) => implPut16w_any q.type hv hl0)
 generalize put16 L1 q.type = L2 at *
 have P2 := hide (fun (C : Nat) (w : World) (v : Value) (hv : Own C 5 w v L2) => implPut16w_any 1 hv hl1)
 clear h hvb hok q1 q3
 obtain ⟨d0, d1⟩ := cells2 (unhide KK)
 go_enter Tryz.func42, Tryz.ntmps42
 go_wp2_with fail
 clear d0 d1
 have zz := b0.size
 generalize w.alloc (.cells #[.slice na q.name.length nc, .int .i64 q.type] 71) = W at *
 refine (unhide HP).mono ?_
 rintro e w1 ⟨v1, rfl, o1, b1⟩
 replace b0 := below_next b0 b1
 have z1 := b1.size
 obtain ⟨d0, d1⟩ := cells2 (block_kept b1 (unhide KK))
 clear b1 HP KK
 go_wp2_with fail
 clear d0 d1
 refine (unhide P1 _ _ _ o1).mono ?_
 rintro e w2 ⟨v2, rfl, o2, b2⟩
 replace b0 := below_next b0 b2
 have z2 := b2.size
 clear b2
 go_wp2_with fail
 refine (unhide P2 _ _ _ o2).mono ?_
 rintro e w3 ⟨v3, rfl, o3, b3⟩
 replace b0 := below_next b0 b3
 go_wp2_with fail
 go_ret
 exact ⟨_, rfl, o3.mono (by omega), b0⟩

set_option maxHeartbeats 1000000 in
set_option maxRecDepth 100000 in
theorem putWant_has {vb vn vt vx vi : Value} {l : List Int} {x : Wnt} {w : World} (hvb : Has w vb l) (hl : l.length ≤ 1048576) (h : HasR w vn vt vx vi x.rr) (hok : wntOk x = true) :
  Calls Tryz.prog 89 #[vb, .agg #[vn, .int .i64 x.rr.type, .int .i64 x.rr.ttl, .int .i64 x.rr.addr, vt, vx, vi, .int .i64 x.cls, .bool x.bare]] w fun e w' => ∃ v', e = .returned v' ∧ Own w.heap.size 5 w' v' (wntB l x) ∧ Below w.heap.size w w' := by
 obtain ⟨na, nc, rfl, _⟩ := h.name.form
 obtain ⟨ta, tc, rfl, _⟩ := h.to.form
 obtain ⟨xa, xc, rfl, _⟩ := h.text.form
 obtain ⟨ia, ic, rfl, _⟩ := h.nums.form
 have hname := wntOk_name hok
 have hrr := wntOk_rr hok
 unfold wntB
 generalize x.rr = r at *
 generalize x.cls = c at *
 generalize x.bare = bb at *
 have b0 := below_alloc (w := w) (.cells #[.slice na r.name.length nc, .int .i64 r.type, .int .i64 r.ttl, .int .i64 r.addr, .slice ta r.to.length tc, .slice xa r.text.length xc, .slice ia r.nums.length ic, .int .i64 c, .bool bb] 110)
 have KK := hide (heap_alloc_new w (.cells #[.slice na r.name.length nc, .int .i64 r.type, .int .i64 r.ttl, .int .i64 r.addr, .slice ta r.to.length tc, .slice xa r.text.length xc, .slice ia r.nums.length ic, .int .i64 c, .bool bb] 110))
 have HC := hide (fun (w : World) (vd : Value) (D : List Int) (h0 : Has w vb l) (h : HasR w (.slice na r.name.length nc) (.slice ta r.to.length tc) (.slice xa r.text.length xc) (.slice ia r.nums.length ic) r) (hd : Has w vd D) (hD : D.length ≤ 1000) => classPut_has c h0 hl h hname hd hD)
 have H := hide (h.below b0)
 have HV := hide (hvb.below b0)
 have zz := b0.size
 obtain ⟨d0, d1, d2, d3, d4, d5, d6, d7, d8⟩ := cells9 (unhide KK)
 clear h hvb hok
 cases bb with
 | true =>
  rw [if_pos rfl]
  clear hrr
  go_enter Tryz.func89, Tryz.ntmps89
  go_wp2_with fail
  clear d0 d1 d2 d3 d4 d5 d6 d7 d8
  generalize w.alloc (.cells #[.slice na r.name.length nc, .int .i64 r.type, .int .i64 r.ttl, .int .i64 r.addr, .slice ta r.to.length tc, .slice xa r.text.length xc, .slice ia r.nums.length ic, .int .i64 c, .bool true] 110) = W at *
  refine (unhide HC _ _ [] (unhide HV) (unhide H) (has_nilB _) (by simp)).mono ?_
  rintro e w1 ⟨v1, rfl, o1, b1⟩
  go_wp2_with fail
  go_ret
  exact ⟨_, rfl, o1.mono (by omega), below_next b0 b1⟩
 | false =>
  rw [if_neg (by simp)]
  have hok := hrr rfl
  have hdl := dataB_length hok
  have HP := hide (implDataPut_yes (unhide H) hok)
  clear hrr hok
  generalize dataB r = D at *
  go_enter Tryz.func89, Tryz.ntmps89
  go_wp2_with fail
  clear d0 d1 d2 d3 d4 d5 d6 d7 d8
  generalize w.alloc (.cells #[.slice na r.name.length nc, .int .i64 r.type, .int .i64 r.ttl, .int .i64 r.addr, .slice ta r.to.length tc, .slice xa r.text.length xc, .slice ia r.nums.length ic, .int .i64 c, .bool false] 110) = W at *
  refine (unhide HP).mono ?_
  rintro e w1 ⟨y1, rfl, o1, b1⟩
  obtain ⟨ya, yc, rfl, _⟩ := o1.lies
  replace b0 := below_next b0 b1
  have H1 := hide ((unhide H).below b1)
  have V1 := hide ((unhide HV).below b1)
  have O1 := hide o1.has
  have z1 := b1.size
  obtain ⟨d0, d1, d2, d3, d4, d5, d6, d7, d8⟩ := cells9 (block_kept b1 (unhide KK))
  clear b1 HP KK H HV o1
  go_wp2_with fail
  clear d0 d1 d2 d3 d4 d5 d6 d7 d8
  refine (unhide HC _ _ D (unhide V1) (unhide H1) (unhide O1) (by omega)).mono ?_
  rintro e w2 ⟨v2, rfl, o2, b2⟩
  go_wp2_with fail
  go_ret
  exact ⟨_, rfl, o2.mono (by omega), below_next b0 b2⟩

set_option maxHeartbeats 1000000 in
set_option maxRecDepth 100000 in
theorem inClass_has {v : Value} {l : List Rec} {w : World} (h : HasRs w v l) (h12 : l.length ≤ 12) :
  Calls Tryz.prog 45 #[v] w fun e w' => ∃ v', e = .returned v' ∧ HasWs w' v' (l.map inCl) ∧ Below w.heap.size w w' := by
 obtain ⟨a, cap, rfl, hl, hm⟩ := h.form
 unfold maxLen at *
 have HS := hide (fun k (hk : k < l.length) => (show (l.take (k + 1)).map inCl = (l.take k).map inCl ++ [inCl (l.getD k recZ)] by
  rw [List.take_succ_eq_append_getElem hk, List.map_append, List.getD_eq_getElem?_getD, List.getElem?_eq_getElem hk]; rfl))
 have HT := hide (show (l.take l.length).map inCl = l.map inCl by rw [List.take_length])
 have HZ := hide (show (l.take 0).map inCl = [] from rfl)
 have HLN := hide (fun k (hk : k ≤ l.length) => (show ((l.take k).map inCl).length = k by rw [List.length_map, List.length_take]; omega))
 generalize hmk : (fun k => (l.take k).map inCl) = M at *
 have HM := hide (fun k => congrFun hmk k)
 generalize hn : l.length = m at *
 have HN := hide hn
 have H := hide h
 clear hn h hmk
 go_enter Tryz.func45, Tryz.ntmps45
 go_wp2
 go_loopw [3, 8] (fun o i wr => ∃ k : Nat, k ≤ m ∧ i = .int .i64 k ∧ RowSG 9 HasWn wntZ w.heap.size 110 w wr o (M k) ∧ Below w.heap.size w wr) (fun _ i _ => m - (intOf i).toNat)
 case atStart => exact ⟨0, Nat.zero_le _, rfl, by rw [← unhide HM]; exact RowSG.nil _ _, Below.refl _ _⟩
 case round =>
  obtain ⟨k, hk, rfl, ho, hb⟩ := hrel
  by_cases hlt : k < m
  ·obtain ⟨b, off, na, nc, ta, tc, xa, xc, ia, ic, rfl, hbl, hc, hu⟩ := (unhide H).here (k := k) (by rw [unhide HN]; exact hlt)
   have hst := unhide HS k hlt
   rw [unhide HM, unhide HM] at hst
   have hln := unhide HLN k hk
   rw [unhide HM] at hln
   generalize l.getD k recZ = r at *
   obtain ⟨cs, hown, hx⟩ := ho
   rw [hln] at hown
   obtain ⟨c0, c1, c2, c3, c4, c5, c6⟩ := range7 (range_below hc hbl hb)
   obtain ⟨hsz, k0, x0⟩ := box2 wr (.cells #[.slice na r.name.length nc, .int .i64 r.type, .int .i64 r.ttl, .int .i64 r.addr, .slice ta r.to.length tc, .slice xa r.text.length xc, .slice ia r.nums.length ic] 108) #[.slice na r.name.length nc, .int .i64 r.type, .int .i64 r.ttl, .int .i64 r.addr, .slice ta r.to.length tc, .slice xa r.text.length xc, .slice ia r.nums.length ic, .int .i64 1, .bool false] 110
   have b2 := below2 wr (.cells #[.slice na r.name.length nc, .int .i64 r.type, .int .i64 r.ttl, .int .i64 r.addr, .slice ta r.to.length tc, .slice xa r.text.length xc, .slice ia r.nums.length ic] 108) (.cells #[.slice na r.name.length nc, .int .i64 r.type, .int .i64 r.ttl, .int .i64 r.addr, .slice ta r.to.length tc, .slice xa r.text.length xc, .slice ia r.nums.length ic, .int .i64 1, .bool false] 110)
   have hown2 := row_later hown b2
   have bb2 := below_next hb b2
   have z0 := hb.size
   have z2 := bb2.size
   have HST := hide hst
   have HX := hide hx
   have HU := hide hu
   have HLK := hide hln
   have HO := hide hown2
   have X0 := hide x0
   have hcl := hown.1
   have HCL := hide hcl
   have hform : ∃ va vc, u3 = .slice va k vc := by
    rcases hown.2 with ⟨e, e0⟩ | ⟨g, vc, cur, e, _⟩
    ·exact ⟨none, 0, by rw [e, e0]⟩
    ·exact ⟨_, _, e⟩
   obtain ⟨va, vc, rfl⟩ := hform
   clear hst hx hu hln hown2 hown hc x0 k0 b2 hcl hsz
   go_wp2_with (at_builtin; refine append_one rfl _ _ 31 110 rfl Tryz.underlying31 _ 9 136 (by omega) (by omega) info_Want rfl w.heap.size (.slice va k vc) k cs rfl (unhide HO) (wr.heap.size + 1) [.slice na r.name.length nc, .int .i64 r.type, .int .i64 r.ttl, .int .i64 r.addr, .slice ta r.to.length tc, .slice xa r.text.length xc, .slice ia r.nums.length ic, .int .i64 1, .bool false] rfl (unhide X0) rfl (by simp [Value.oneCell']) (by omega) z2 ?_)
   intro v5 w5 h5 g5
   have bb5 := bb2.grown g5 bb2.size (fun j e => (World.ownsRow.lt (unhide HO) j e).1)
   have row5 : RowSG 9 HasWn wntZ w.heap.size 110 w w5 v5 (M (k + 1)) := by
    rw [unhide HST]
    have hlk := unhide HLK
    exact RowSG.snoc (us := [.slice na r.name.length nc, .int .i64 r.type, .int .i64 r.ttl, .int .i64 r.addr, .slice ta r.to.length tc, .slice xa r.text.length xc, .slice ia r.nums.length ic, .int .i64 1, .bool false]) (by rw [hlk]; exact unhide HCL) (unhide HX) (by rw [hlk]; exact h5) rfl ⟨_, _, _, _, rfl, unhide HU⟩
   have ROW5 := hide row5
   clear h5 g5 row5 c0 c1 c2 c3 c4 c5 c6 bb2 HO X0 HX HU hb
   go_wp2_with fail
   exact ⟨⟨k + 1, by omega, by go_num, unhide ROW5, bb5⟩, by simp [intOf]; omega⟩
  ·obtain rfl : k = m := by omega
   go_wp2
   go_ret
   have hh : HasWs wr u3 (M k) := RowSG.has stays_HasWn ho hb
   rw [← unhide HM, unhide HT] at hh
   exact ⟨_, rfl, hh, hb⟩

/-- Sections behind some bytes, the first k. -/
def secB (b : List Int) (ls : List (List Wnt)) : Nat → List Int
 | 0 => b
 | k + 1 => wntsB (secB b ls k) (ls.getD k []) (ls.getD k []).length

set_option maxHeartbeats 2000000 in
set_option maxRecDepth 100000 in
theorem putSections_has {vb : Value} {l : List Int} {ls : List (List Wnt)} {g : Nat} {w : World} {B : Nat} (hvb : Own B 5 w vb l) (hB : B ≤ w.heap.size) (hg : g < w.heap.size) (hn5 : ls.length = 5)
  (hcell : ∀ i, i < 5 → ∃ v, w.cell? ⟨g, i, none⟩ = some v ∧ HasWs w v (ls.getD i [])) (h12 : ∀ i, i < 5 → (ls.getD i []).length ≤ 12) (hok : ∀ i, i < 5 → ∀ j, j < (ls.getD i []).length → wntOk ((ls.getD i []).getD j wntZ) = true) (hl : l.length ≤ 113) :
  Calls Tryz.prog 44 #[vb, .slice (some ⟨g, 0, none⟩) 5 5] w fun e w' => ∃ v', e = .returned v' ∧ Own B 5 w' v' (secB l ls 5) ∧ Below w.heap.size w w' := by
 have hlen : ∀ k, k ≤ 5 → (secB l ls k).length ≤ 113 + 2544 * k := by
  intro k
  induction k with
  | zero => intro _; exact hl
  | succ k ih =>
   intro hk
   have h1 := ih (by omega)
   have h2 := wntsB_length (secB l ls k) (hok k (by omega)) (ls.getD k []).length (Nat.le_refl _)
   have h3 := h12 k (by omega)
   show (wntsB (secB l ls k) (ls.getD k []) (ls.getD k []).length).length ≤ _
   omega
 have hin : ∀ k, k < 5 → ∀ j, j ≤ (ls.getD k []).length → (wntsB (secB l ls k) (ls.getD k []) j).length ≤ 20000 := by
  intro k hk j hj
  have h1 := hlen k (by omega)
  have h2 := wntsB_length (secB l ls k) (hok k hk) j hj
  have h3 := h12 k hk
  omega
 have HS := hide (fun k => (show secB l ls (k + 1) = wntsB (secB l ls k) (ls.getD k []) (ls.getD k []).length from rfl))
 have H0 := hide (show secB l ls 0 = l from rfl)
 have HLEN := hide hlen
 have HIN := hide hin
 have HC := hide hcell
 have H12 := hide h12
 have HOK := hide hok
 generalize secB l ls = SB at *
 generalize (fun k => ls.getD k []) = LL at *
 clear hlen hin hcell h12 hok hn5
 go_enter Tryz.func44, Tryz.ntmps44
 go_wp2
 go_loopw [0, 11] (fun o i wr => ∃ k : Nat, k ≤ 5 ∧ i = .int .i64 k ∧ Own B 5 wr o (SB k) ∧ Below w.heap.size w wr) (fun _ i _ => 5 - (intOf i).toNat)
 case atStart => exact ⟨0, Nat.zero_le _, rfl, by rw [unhide H0]; exact hvb, Below.refl _ _⟩
 case round =>
  clear hvb
  obtain ⟨k, hk, rfl, ho, hb⟩ := hrel
  by_cases hlt : k < 5
  ·have hk5 : (k : Int) < 5 := by omega
   obtain ⟨v, hv, hh⟩ := unhide HC k hlt
   have hs1 := unhide HS k
   have h12k := unhide H12 k hlt
   have hokk := unhide HOK k hlt
   have hink := unhide HIN k hlt
   have hsk := unhide HLEN k (by omega)
   have hv' := (hb.cell (p := ⟨g, k, none⟩) hg).trans hv
   generalize ls.getD k [] = L at *
   obtain ⟨sa, sc, rfl, hsc, hsm⟩ := hh.form
   unfold maxLen at hsm
   have HH := hide hh
   have HS1 := hide hs1
   have HOKK := hide hokk
   have HINK := hide hink
   have HW := hide (wntsB_succ (SB k) L)
   have HW0 := hide (wntsB_zero (SB k) L)
   clear hh hs1 hokk hink hv
   generalize wntsB (SB k) L = WB at *
   generalize hn : L.length = n at *
   have HN := hide hn
   clear hn
   go_wp2_with fail
   clear hv'
   go_loopw [0, 17] (fun o i wr => ∃ j : Nat, j ≤ n ∧ i = .int .i64 j ∧ Own B 5 wr o (WB j) ∧ Below w.heap.size w wr) (fun _ i _ => n - (intOf i).toNat)
   case atStart => exact ⟨0, Nat.zero_le _, rfl, by rw [unhide HW0]; exact ho, hb⟩
   case round =>
    clear ho hb
    obtain ⟨j, hj, rfl, ho, hb⟩ := hrel
    by_cases hjt : j < n
    ·obtain ⟨b, off, vs, rfl, hbl, hc, vn, vt, vx, vi, rfl, hu⟩ := (keptWs (unhide HH) hb).here (k := j) (by rw [unhide HN]; exact hjt)
     have hws := unhide HW j hjt
     have hokj := unhide HOKK j hjt
     have hlj := unhide HINK j hj
     generalize L.getD j wntZ = x at *
     obtain ⟨na, nc, rfl, _⟩ := hu.name.form
     obtain ⟨ta, tc, rfl, _⟩ := hu.to.form
     obtain ⟨xa, xc, rfl, _⟩ := hu.text.form
     obtain ⟨ia, ic, rfl, _⟩ := hu.nums.form
     obtain ⟨c0, c1, c2, c3, c4, c5, c6, c7, c8⟩ := range9 hc
     have bA := below_alloc (w := wr) (.cells #[.slice na x.rr.name.length nc, .int .i64 x.rr.type, .int .i64 x.rr.ttl, .int .i64 x.rr.addr, .slice ta x.rr.to.length tc, .slice xa x.rr.text.length xc, .slice ia x.rr.nums.length ic, .int .i64 x.cls, .bool x.bare] 110)
     have PW := hide (putWant_has (ho.has.below bA) (by omega) (hu.below bA) hokj)
     have HWS := hide hws
     have zz := hb.size
     have zA := bA.size
     clear hc hu hokj hws ho
     go_wp2_with fail
     refine (unhide PW).mono ?_
     rintro e w1 ⟨v1, rfl, o1, b1⟩
     clear c0 c1 c2 c3 c4 c5 c6 c7 c8
     have bb := below_next (below_next hb bA) b1
     have O1 := hide o1
     clear o1 b1 bA hb PW
     go_wp2_with fail
     exact ⟨⟨j + 1, by omega, by go_num, by rw [unhide HWS]; exact (unhide O1).mono (by omega), bb⟩, by simp [intOf]; omega⟩
    ·obtain rfl : j = n := by omega
     go_wp2_with fail
     exact ⟨⟨k + 1, by omega, by go_num, by rw [unhide HS1]; exact ho, hb⟩, by simp [intOf]; omega⟩
  ·obtain rfl : k = 5 := by omega
   go_wp2
   go_ret
   exact ⟨_, rfl, ho, hb⟩
end Go.Proofs.YtnplmeifhebhhaaGreat
