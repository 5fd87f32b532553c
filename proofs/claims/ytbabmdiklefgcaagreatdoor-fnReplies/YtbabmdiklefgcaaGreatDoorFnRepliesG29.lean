/-
  Contracts of the program's putQuestion, putWant, inClass and putSections. Contract of the program's MsgBytes where a message may be.
-/
import Derived.Test.YtbabmdiklefgcaaGreatDoorFnRepliesG28
import Derived.Test.YtbabmdiklefgcaaGreatDoorFnRepliesG22
import Derived.Deep.RegionHeld3
namespace Go.Proofs.YtbabmdiklefgcaaGreatDoor
open Go.RowKit
set_option linter.unusedVariables false
set_option maxHeartbeats 2000000
set_option maxRecDepth 100000

theorem has_nilB (w : World) : Has w (.slice none 0 0) [] := (show Own 0 5 w (.slice none 0 0) [] from World.ownsRow_nil _ _ _ _).has

theorem putQuestion_has {vb v : Value} {l : List Int} {q : Que} {w : World} (hvb : Has w vb l) (hl : l.length ≤ 1048576) (h : HasL w v q.name) (hok : nameOk q.name = true) :
  Calls Tryz.prog 49 #[vb, .agg #[v, .int .i64 q.type]] w fun e w' => ∃ v', e = .returned v' ∧ Own w.heap.size 5 w' v' (queB l q) ∧ Below w.heap.size w w' := by
 obtain ⟨na, nc, rfl, _⟩ := h.form
 have b0 := UI (w := w) (.cells #[.slice na q.name.length nc, .int .i64 q.type] 39)
 have KK := UC (heap_alloc_new w (.cells #[.slice na q.name.length nc, .int .i64 q.type] 39))
 have q1 := wire_length q.name hok
 have q3 := put16_length (l ++ wire q.name) q.type
 have hl0 : (l ++ wire q.name).length ≤ 2000000 := by rw [List.length_append]; omega
 have hl1 : (put16 (l ++ wire q.name) q.type).length ≤ 2000000 := by rw [List.length_append] at hl0 q3; omega
 have HP := implNamePut_has (hvb.below b0) hl (h.below b0)
 rw [hok, namePut_yes hok] at HP
 replace HP := UC HP
 unfold queB
 generalize l ++ wire q.name = L1 at *
 have P1 := UC (fun (C : Nat) (w : World) (v : Value) (hv : Own C 5 w v L1) => implPut16w_any q.type hv hl0)
 generalize put16 L1 q.type = L2 at *
 have P2 := UC (fun (C : Nat) (w : World) (v : Value) (hv : Own C 5 w v L2) => implPut16w_any 1 hv hl1)
 clear h hvb hok q1 q3
 obtain ⟨d0, d1⟩ := UM (UB KK)
 go_enter Tryz.func49, Tryz.ntmps49
 go_wp2_with fail
 clear d0 d1
 have zz := b0.size
 generalize w.alloc (.cells #[.slice na q.name.length nc, .int .i64 q.type] 39) = W at *
 refine (UB HP).mono ?_
 rintro e w1 ⟨v1, rfl, o1, b1⟩
 replace b0 := UG b0 b1
 have z1 := b1.size
 obtain ⟨d0, d1⟩ := UM (UE b1 (UB KK))
 clear b1 HP KK
 go_wp2_with fail
 clear d0 d1
 refine (UB P1 _ _ _ o1).mono ?_
 rintro e w2 ⟨v2, rfl, o2, b2⟩
 replace b0 := UG b0 b2
 have z2 := b2.size
 clear b2
 go_wp2_with fail
 refine (UB P2 _ _ _ o2).mono ?_
 rintro e w3 ⟨v3, rfl, o3, b3⟩
 replace b0 := UG b0 b3
 go_wp2_with fail
 go_ret
 exact ⟨_, rfl, o3.mono (by omega), b0⟩

theorem putWant_has {vb vn vt vx vi : Value} {l : List Int} {x : Wnt} {w : World} (hvb : Has w vb l) (hl : l.length ≤ 1048576) (h : HasR w vn vt vx vi x.rr) (hok : wntOk x = true) :
  Calls Tryz.prog 86 #[vb, .agg #[vn, .int .i64 x.rr.type, .int .i64 x.rr.ttl, .int .i64 x.rr.addr, vt, vx, vi, .int .i64 x.cls, .bool x.bare]] w fun e w' => ∃ v', e = .returned v' ∧ Own w.heap.size 5 w' v' (wntB l x) ∧ Below w.heap.size w w' := by
 obtain ⟨na, nc, rfl, _⟩ := h.name.form
 obtain ⟨ta, tc, rfl, _⟩ := h.to.form
 obtain ⟨xa, xc, rfl, _⟩ := h.text.form
 obtain ⟨ia, ic, rfl, _⟩ := h.nums.form
 have hname := wntOk_name hok
 have hrr := wntOk_rr hok
 unfold wntB
 generalize x.rr = r at *
 generalize x.cls = c at *
 generalize x.bare = bb at *
 have b0 := UI (w := w) (.cells #[.slice na r.name.length nc, .int .i64 r.type, .int .i64 r.ttl, .int .i64 r.addr, .slice ta r.to.length tc, .slice xa r.text.length xc, .slice ia r.nums.length ic, .int .i64 c, .bool bb] 66)
 have KK := UC (heap_alloc_new w (.cells #[.slice na r.name.length nc, .int .i64 r.type, .int .i64 r.ttl, .int .i64 r.addr, .slice ta r.to.length tc, .slice xa r.text.length xc, .slice ia r.nums.length ic, .int .i64 c, .bool bb] 66))
 have HC := UC (fun (w : World) (vd : Value) (D : List Int) (h0 : Has w vb l) (h : HasR w (.slice na r.name.length nc) (.slice ta r.to.length tc) (.slice xa r.text.length xc) (.slice ia r.nums.length ic) r) (hd : Has w vd D) (hD : D.length ≤ 1000) => classPut_has c h0 hl h hname hd hD)
 have H := UC (h.below b0)
 have HV := UC (hvb.below b0)
 have zz := b0.size
 obtain ⟨d0, d1, d2, d3, d4, d5, d6, d7, d8⟩ := cells9 (UB KK)
 clear h hvb hok
 cases bb with
 | true =>
  rw [if_pos rfl]
  clear hrr
  go_enter Tryz.func86, Tryz.ntmps86
  go_wp2_with fail
  clear d0 d1 d2 d3 d4 d5 d6 d7 d8
  generalize w.alloc (.cells #[.slice na r.name.length nc, .int .i64 r.type, .int .i64 r.ttl, .int .i64 r.addr, .slice ta r.to.length tc, .slice xa r.text.length xc, .slice ia r.nums.length ic, .int .i64 c, .bool true] 66) = W at *
  refine (UB HC _ _ [] (UB HV) (UB H) (has_nilB _) (by simp)).mono ?_
  rintro e w1 ⟨v1, rfl, o1, b1⟩
  go_wp2_with fail
  go_ret
  exact ⟨_, rfl, o1.mono (by omega), UG b0 b1⟩
 | false =>
  rw [if_neg (by simp)]
  have hok := hrr rfl
  have hdl := dataB_length hok
  have HP := UC (implDataPut_yes (UB H) hok)
  clear hrr hok
  generalize dataB r = D at *
  go_enter Tryz.func86, Tryz.ntmps86
  go_wp2_with fail
  clear d0 d1 d2 d3 d4 d5 d6 d7 d8
  generalize w.alloc (.cells #[.slice na r.name.length nc, .int .i64 r.type, .int .i64 r.ttl, .int .i64 r.addr, .slice ta r.to.length tc, .slice xa r.text.length xc, .slice ia r.nums.length ic, .int .i64 c, .bool false] 66) = W at *
  refine (UB HP).mono ?_
  rintro e w1 ⟨y1, rfl, o1, b1⟩
  obtain ⟨ya, yc, rfl, _⟩ := o1.lies
  replace b0 := UG b0 b1
  have H1 := UC ((UB H).below b1)
  have V1 := UC ((UB HV).below b1)
  have O1 := UC o1.has
  have z1 := b1.size
  obtain ⟨d0, d1, d2, d3, d4, d5, d6, d7, d8⟩ := cells9 (UE b1 (UB KK))
  clear b1 HP KK H HV o1
  go_wp2_with fail
  clear d0 d1 d2 d3 d4 d5 d6 d7 d8
  refine (UB HC _ _ D (UB V1) (UB H1) (UB O1) (by omega)).mono ?_
  rintro e w2 ⟨v2, rfl, o2, b2⟩
  go_wp2_with fail
  go_ret
  exact ⟨_, rfl, o2.mono (by omega), UG b0 b2⟩

theorem inClass_has {v : Value} {l : List Rec} {w : World} (h : HasRs w v l) (h12 : l.length ≤ 12) :
  Calls Tryz.prog 52 #[v] w fun e w' => ∃ v', e = .returned v' ∧ HasWs w' v' (l.map inCl) ∧ Below w.heap.size w w' := by
 obtain ⟨a, cap, rfl, hl, hm⟩ := h.form
 unfold maxLen at *
 have HS := UC (fun k (hk : k < l.length) => (show (l.take (k + 1)).map inCl = (l.take k).map inCl ++ [inCl (l.getD k recZ)] by
  rw [List.take_succ_eq_append_getElem hk, List.map_append, List.getD_eq_getElem?_getD, List.getElem?_eq_getElem hk]; rfl))
 have HT := UC (show (l.take l.length).map inCl = l.map inCl by rw [List.take_length])
 have HZ := UC (show (l.take 0).map inCl = [] from rfl)
 have HLN := UC (fun k (hk : k ≤ l.length) => (show ((l.take k).map inCl).length = k by rw [List.length_map, List.length_take]; omega))
 generalize hmk : (fun k => (l.take k).map inCl) = M at *
 have HM := UC (fun k => congrFun hmk k)
 generalize hn : l.length = m at *
 have HN := UC hn
 have H := UC h
 clear hn h hmk
 go_enter Tryz.func52, Tryz.ntmps52
 go_wp2
 go_loopw [3, 8] (fun o i wr => ∃ k : Nat, k ≤ m ∧ i = .int .i64 k ∧ RowSG 9 HasWn wntZ w.heap.size 66 w wr o (M k) ∧ Below w.heap.size w wr) (fun _ i _ => m - (intOf i).toNat)
 case atStart => exact ⟨0, Nat.zero_le _, rfl, by rw [← UB HM]; exact RowSG.nil _ _, Below.refl _ _⟩
 case round =>
  obtain ⟨k, hk, rfl, ho, hb⟩ := hrel
  by_cases hlt : k < m
  ·obtain ⟨b, off, na, nc, ta, tc, xa, xc, ia, ic, rfl, hbl, hc, hu⟩ := (UB H).here (k := k) (by rw [UB HN]; exact hlt)
   have hst := UB HS k hlt
   rw [UB HM, UB HM] at hst
   have hln := UB HLN k hk
   rw [UB HM] at hln
   generalize l.getD k recZ = r at *
   obtain ⟨cs, hown, hx⟩ := ho
   rw [hln] at hown
   obtain ⟨c0, c1, c2, c3, c4, c5, c6⟩ := VH (UW hc hbl hb)
   obtain ⟨hsz, k0, x0⟩ := box2 wr (.cells #[.slice na r.name.length nc, .int .i64 r.type, .int .i64 r.ttl, .int .i64 r.addr, .slice ta r.to.length tc, .slice xa r.text.length xc, .slice ia r.nums.length ic] 63) #[.slice na r.name.length nc, .int .i64 r.type, .int .i64 r.ttl, .int .i64 r.addr, .slice ta r.to.length tc, .slice xa r.text.length xc, .slice ia r.nums.length ic, .int .i64 1, .bool false] 66
   have b2 := below2 wr (.cells #[.slice na r.name.length nc, .int .i64 r.type, .int .i64 r.ttl, .int .i64 r.addr, .slice ta r.to.length tc, .slice xa r.text.length xc, .slice ia r.nums.length ic] 63) (.cells #[.slice na r.name.length nc, .int .i64 r.type, .int .i64 r.ttl, .int .i64 r.addr, .slice ta r.to.length tc, .slice xa r.text.length xc, .slice ia r.nums.length ic, .int .i64 1, .bool false] 66)
   have hown2 := row_later hown b2
   have bb2 := UG hb b2
   have z0 := hb.size
   have z2 := bb2.size
   have HST := UC hst
   have HX := UC hx
   have HU := UC hu
   have HLK := UC hln
   have HO := UC hown2
   have X0 := UC x0
   have hcl := hown.1
   have HCL := UC hcl
   have hform : ∃ va vc, u3 = .slice va k vc := by
    rcases hown.2 with ⟨e, e0⟩ | ⟨g, vc, cur, e, _⟩
    ·exact ⟨none, 0, by rw [e, e0]⟩
    ·exact ⟨_, _, e⟩
   obtain ⟨va, vc, rfl⟩ := hform
   clear hst hx hu hln hown2 hown hc x0 k0 b2 hcl hsz
   go_wp2_with (at_builtin; refine append_one rfl _ _ 25 66 rfl Tryz.underlying25 _ 9 136 (by omega) (by omega) info_Want rfl w.heap.size (.slice va k vc) k cs rfl (UB HO) (wr.heap.size + 1) [.slice na r.name.length nc, .int .i64 r.type, .int .i64 r.ttl, .int .i64 r.addr, .slice ta r.to.length tc, .slice xa r.text.length xc, .slice ia r.nums.length ic, .int .i64 1, .bool false] rfl (UB X0) rfl (by simp [Value.oneCell']) (by omega) z2 ?_)
   intro v5 w5 h5 g5
   have bb5 := bb2.grown g5 bb2.size (fun j e => (World.ownsRow.lt (UB HO) j e).1)
   have row5 : RowSG 9 HasWn wntZ w.heap.size 66 w w5 v5 (M (k + 1)) := by
    rw [UB HST]
    have hlk := UB HLK
    exact RowSG.snoc (us := [.slice na r.name.length nc, .int .i64 r.type, .int .i64 r.ttl, .int .i64 r.addr, .slice ta r.to.length tc, .slice xa r.text.length xc, .slice ia r.nums.length ic, .int .i64 1, .bool false]) (by rw [hlk]; exact UB HCL) (UB HX) (by rw [hlk]; exact h5) rfl ⟨_, _, _, _, rfl, UB HU⟩
   have ROW5 := UC row5
   clear h5 g5 row5 c0 c1 c2 c3 c4 c5 c6 bb2 HO X0 HX HU hb
   go_wp2_with fail
   exact ⟨⟨k + 1, by omega, by go_num, UB ROW5, bb5⟩, by simp [intOf]; omega⟩
  ·obtain rfl : k = m := by omega
   go_wp2
   go_ret
   have hh : HasWs wr u3 (M k) := RowSG.has stays_HasWn ho hb
   rw [← UB HM, UB HT] at hh
   exact ⟨_, rfl, hh, hb⟩

def secB (b : List Int) (ls : List (List Wnt)) : Nat → List Int
 | 0 => b
 | k + 1 => wntsB (secB b ls k) (ls.getD k []) (ls.getD k []).length

theorem putSections_has {vb : Value} {l : List Int} {ls : List (List Wnt)} {g : Nat} {w : World} {B : Nat} (hvb : Own B 5 w vb l) (hB : B ≤ w.heap.size) (hg : g < w.heap.size) (hn5 : ls.length = 5)
  (hcell : ∀ i, i < 5 → ∃ v, w.cell? ⟨g, i, none⟩ = some v ∧ HasWs w v (ls.getD i [])) (h12 : ∀ i, i < 5 → (ls.getD i []).length ≤ 12) (hok : ∀ i, i < 5 → ∀ j, j < (ls.getD i []).length → wntOk ((ls.getD i []).getD j wntZ) = true) (hl : l.length ≤ 113) :
  Calls Tryz.prog 51 #[vb, .slice (some ⟨g, 0, none⟩) 5 5] w fun e w' => ∃ v', e = .returned v' ∧ Own B 5 w' v' (secB l ls 5) ∧ Below w.heap.size w w' := by
 have hlen : ∀ k, k ≤ 5 → (secB l ls k).length ≤ 113 + 2544 * k := by
  intro k
  induction k with
  | zero => intro _; exact hl
  | succ k ih =>
   intro hk
   have h1 := ih (by omega)
   have h2 := wntsB_length (secB l ls k) (hok k (by omega)) (ls.getD k []).length (Nat.le_refl _)
   have h3 := h12 k (by omega)
   show (wntsB (secB l ls k) (ls.getD k []) (ls.getD k []).length).length ≤ _
   omega
 have hin : ∀ k, k < 5 → ∀ j, j ≤ (ls.getD k []).length → (wntsB (secB l ls k) (ls.getD k []) j).length ≤ 20000 := by
  intro k hk j hj
  have h1 := hlen k (by omega)
  have h2 := wntsB_length (secB l ls k) (hok k hk) j hj
  have h3 := h12 k hk
  omega
 have HS := UC (fun k => (show secB l ls (k + 1) = wntsB (secB l ls k) (ls.getD k []) (ls.getD k []).length from rfl))
 have H0 := UC (show secB l ls 0 = l from rfl)
 have HLEN := UC hlen
 have HIN := UC hin
 have HC := UC hcell
 have H12 := UC h12
 have HOK := UC hok
 generalize secB l ls = SB at *
 generalize (fun k => ls.getD k []) = LL at *
 clear hlen hin hcell h12 hok hn5
 go_enter Tryz.func51, Tryz.ntmps51
 go_wp2
 go_loopw [0, 11] (fun o i wr => ∃ k : Nat, k ≤ 5 ∧ i = .int .i64 k ∧ Own B 5 wr o (SB k) ∧ Below w.heap.size w wr) (fun _ i _ => 5 - (intOf i).toNat)
 case atStart => exact ⟨0, Nat.zero_le _, rfl, by rw [UB H0]; exact hvb, Below.refl _ _⟩
 case round =>
  clear hvb
  obtain ⟨k, hk, rfl, ho, hb⟩ := hrel
  by_cases hlt : k < 5
  ·have hk5 : (k : Int) < 5 := by omega
   obtain ⟨v, hv, hh⟩ := UB HC k hlt
   have hs1 := UB HS k
   have h12k := UB H12 k hlt
   have hokk := UB HOK k hlt
   have hink := UB HIN k hlt
   have hsk := UB HLEN k (by omega)
   have hv' := (hb.cell (p := ⟨g, k, none⟩) hg).trans hv
   generalize ls.getD k [] = L at *
   obtain ⟨sa, sc, rfl, hsc, hsm⟩ := hh.form
   unfold maxLen at hsm
   have HH := UC hh
   have HS1 := UC hs1
   have HOKK := UC hokk
   have HINK := UC hink
   have HW := UC (wntsB_succ (SB k) L)
   have HW0 := UC (wntsB_zero (SB k) L)
   clear hh hs1 hokk hink hv
   generalize wntsB (SB k) L = WB at *
   generalize hn : L.length = n at *
   have HN := UC hn
   clear hn
   go_wp2_with fail
   clear hv'
   go_loopw [0, 17] (fun o i wr => ∃ j : Nat, j ≤ n ∧ i = .int .i64 j ∧ Own B 5 wr o (WB j) ∧ Below w.heap.size w wr) (fun _ i _ => n - (intOf i).toNat)
   case atStart => exact ⟨0, Nat.zero_le _, rfl, by rw [UB HW0]; exact ho, hb⟩
   case round =>
    clear ho hb
    obtain ⟨j, hj, rfl, ho, hb⟩ := hrel
    by_cases hjt : j < n
    ·obtain ⟨b, off, vs, rfl, hbl, hc, vn, vt, vx, vi, rfl, hu⟩ := (keptWs (UB HH) hb).here (k := j) (by rw [UB HN]; exact hjt)
     have hws := UB HW j hjt
     have hokj := UB HOKK j hjt
     have hlj := UB HINK j hj
     generalize L.getD j wntZ = x at *
     obtain ⟨na, nc, rfl, _⟩ := hu.name.form
     obtain ⟨ta, tc, rfl, _⟩ := hu.to.form
     obtain ⟨xa, xc, rfl, _⟩ := hu.text.form
     obtain ⟨ia, ic, rfl, _⟩ := hu.nums.form
     obtain ⟨c0, c1, c2, c3, c4, c5, c6, c7, c8⟩ := range9 hc
     have bA := UI (w := wr) (.cells #[.slice na x.rr.name.length nc, .int .i64 x.rr.type, .int .i64 x.rr.ttl, .int .i64 x.rr.addr, .slice ta x.rr.to.length tc, .slice xa x.rr.text.length xc, .slice ia x.rr.nums.length ic, .int .i64 x.cls, .bool x.bare] 66)
     have PW := UC (putWant_has (ho.has.below bA) (by omega) (hu.below bA) hokj)
     have HWS := UC hws
     have zz := hb.size
     have zA := bA.size
     clear hc hu hokj hws ho
     go_wp2_with fail
     refine (UB PW).mono ?_
     rintro e w1 ⟨v1, rfl, o1, b1⟩
     clear c0 c1 c2 c3 c4 c5 c6 c7 c8
     have bb := UG (UG hb bA) b1
     have O1 := UC o1
     clear o1 b1 bA hb PW
     go_wp2_with fail
     exact ⟨⟨j + 1, by omega, by go_num, by rw [UB HWS]; exact (UB O1).mono (by omega), bb⟩, by simp [intOf]; omega⟩
    ·obtain rfl : j = n := by omega
     go_wp2_with fail
     exact ⟨⟨k + 1, by omega, by go_num, by rw [UB HS1]; exact ho, hb⟩, by simp [intOf]; omega⟩
  ·obtain rfl : k = 5 := by omega
   go_wp2
   go_ret
   exact ⟨_, rfl, ho, hb⟩
theorem bytesM_len {m : Mg} (h : mayM m = true) : (bytesM m).length ≤ 12833 := by
 obtain ⟨_, _, _, _, _, _, _, _, _, _, _, _, _, _, _, _, hbl⟩ := bytesM_parts h
 exact hbl
def msgPut (m : Mg) : List Int × Bool := if okM m = true then (bytesM m, true) else ([], false)
theorem secB_all (m : Mg) (b : List Int) : secB b [m.pres, m.ups, m.ans.map inCl, m.aus.map inCl, m.more.map inCl] 5 = wntsB (wntsB (wntsB (wntsB (wntsB b m.pres m.pres.length) m.ups m.ups.length) (m.ans.map inCl) m.ans.length) (m.aus.map inCl) m.aus.length) (m.more.map inCl) m.more.length := by
 simp only [secB, List.getD_cons_zero, List.getD_cons_succ, List.length_map]
theorem bytesM_sec (m : Mg) : bytesM m = secB (queB (headM m) (que1 m)) [m.pres, m.ups, m.ans.map inCl, m.aus.map inCl, m.more.map inCl] 5 := by
 rw [secB_all]
 rfl

set_option maxHeartbeats 4000000 in
set_option maxRecDepth 100000 in
theorem implMsgBytes_may {vq va vb vm vp vu : Value} {m : Mg} {w : World} (h : HasM w vq va vb vm vp vu m) (hmay : mayM m = true) :
  Calls Tryz.prog 25 #[.agg #[.int .i64 m.id, .bool m.reply, .int .i64 m.op, .bool m.auth, .int .i64 m.code, vq, va, vb, vm, vp, vu]] w fun e w' => ∃ v', e = .returned (.tuple #[v', .bool (decide ((bytesM m).length ≤ 512))]) ∧ Own w.heap.size 5 w' v' (if (bytesM m).length ≤ 512 then bytesM m else []) ∧ Below w.heap.size w w' := by
 have hpo := partsOk_has (h.below (UI (w := w) (.cells #[.int .i64 m.id, .bool m.reply, .int .i64 m.op, .bool m.auth, .int .i64 m.code, vq, va, vb, vm, vp, vu] 27)))
 rw [hmay] at hpo
 have HPO := UC hpo
 obtain ⟨_, ⟨hc0, hc1⟩, hq1, hqn, _, hop, ⟨n1, n2, n3, n4, n5⟩, k1, k2, k3, k4, k5⟩ := mayM_parts hmay
 obtain ⟨xq, yq, rfl, _, zq⟩ := h.qs.form
 obtain ⟨xa, ya, rfl, _, za⟩ := h.ans.form
 obtain ⟨xb, yb, rfl, _, zb⟩ := h.aus.form
 obtain ⟨xm, ym, rfl, _, zm⟩ := h.more.form
 obtain ⟨xp, yp, rfl, _, zp⟩ := h.pres.form
 obtain ⟨xu, yu, rfl, _, zu⟩ := h.ups.form
 have b0 := UI (w := w) (.cells #[.int .i64 m.id, .bool m.reply, .int .i64 m.op, .bool m.auth, .int .i64 m.code, .slice xq m.qs.length yq, .slice xa m.ans.length ya, .slice xb m.aus.length yb, .slice xm m.more.length ym, .slice xp m.pres.length yp, .slice xu m.ups.length yu] 27)
 have KK := UC (heap_alloc_new w (.cells #[.int .i64 m.id, .bool m.reply, .int .i64 m.op, .bool m.auth, .int .i64 m.code, .slice xq m.qs.length yq, .slice xa m.ans.length ya, .slice xb m.aus.length yb, .slice xm m.more.length ym, .slice xp m.pres.length yp, .slice xu m.ups.length yu] 27))
 have H := UC (h.below b0)
 have HHD := UC (fun (w : World) (h : HasM w (.slice xq m.qs.length yq) (.slice xa m.ans.length ya) (.slice xb m.aus.length yb) (.slice xm m.more.length ym) (.slice xp m.pres.length yp) (.slice xu m.ups.length yu) m) => putHead_has h hop hc0 hc1 hq1)
 have hhl := headM_length m
 have hql := queB_length (headM m) hqn
 have HPS := UC (fun (B : Nat) (w : World) (vb : Value) (g : Nat) (hvb : Own B 5 w vb (queB (headM m) (que1 m))) (hB : B ≤ w.heap.size) (hg : g < w.heap.size) (hcell : ∀ i, i < 5 → ∃ v, w.cell? ⟨g, i, none⟩ = some v ∧ HasWs w v ([m.pres, m.ups, m.ans.map inCl, m.aus.map inCl, m.more.map inCl].getD i [])) => putSections_has hvb hB hg rfl hcell (fun i hi => by
   match i, hi with
   | 0, _ => exact n4
   | 1, _ => exact n5
   | 2, _ => simpa using n1
   | 3, _ => simpa using n2
   | 4, _ => simpa using n3) (fun i hi j hj => by
   match i, hi, hj with
   | 0, _, hj => exact k4 j hj
   | 1, _, hj => exact k5 j hj
   | 2, _, hj => exact (by have hj' : j < m.ans.length := (by simpa using hj); show wntOk ((m.ans.map inCl).getD j wntZ) = true; rw [map_getD _ hj']; exact wntOk_in (k1 j hj'))
   | 3, _, hj => exact (by have hj' : j < m.aus.length := (by simpa using hj); show wntOk ((m.aus.map inCl).getD j wntZ) = true; rw [map_getD _ hj']; exact wntOk_in (k2 j hj'))
   | 4, _, hj => exact (by have hj' : j < m.more.length := (by simpa using hj); show wntOk ((m.more.map inCl).getD j wntZ) = true; rw [map_getD _ hj']; exact wntOk_in (k3 j hj'))) (by omega))
 rw [← bytesM_sec] at HPS
 obtain ⟨qb, qoff, vs, rfl, hqbl, hqc, vn, rfl, hqu⟩ := h.qs.here (k := 0) (by omega)
 simp only [Nat.zero_mul, Nat.add_zero] at hqc
 have hque : m.qs.getD 0 queZ = que1 m := rfl
 rw [hque] at hqc hqu
 have HPQ := UC (fun (w : World) (vb : Value) (hvb : Has w vb (headM m)) (h : HasL w vn (que1 m).name) => putQuestion_has hvb (by omega) h hqn)
 generalize headM m = HDM at *
 generalize queB HDM (que1 m) = QB at *
 have hbl := bytesM_len hmay
 have HR := UC (show ((bytesM m).length ≤ 512 → decide ((bytesM m).length ≤ 512) = true ∧ (if (bytesM m).length ≤ 512 then bytesM m else []) = bytesM m) ∧ (¬ (bytesM m).length ≤ 512 → decide ((bytesM m).length ≤ 512) = false ∧ (if (bytesM m).length ≤ 512 then bytesM m else []) = []) from ⟨fun h => ⟨decide_eq_true h, if_pos h⟩, fun h => ⟨decide_eq_false h, if_neg h⟩⟩)
 generalize decide ((bytesM m).length ≤ 512) = FL at *
 generalize (if (bytesM m).length ≤ 512 then bytesM m else []) = RL at *
 generalize bytesM m = BM at *
 generalize que1 m = q at *
 obtain ⟨qna, qnc, rfl, _⟩ := hqu.form
 have hqpos : 0 < m.qs.length := by omega
 have HI1 := UC (fun (w : World) (h : HasM w (.slice (some ⟨qb, qoff, none⟩) m.qs.length yq) (.slice xa m.ans.length ya) (.slice xb m.aus.length yb) (.slice xm m.more.length ym) (.slice xp m.pres.length yp) (.slice xu m.ups.length yu) m) => inClass_has h.ans n1)
 have HI2 := UC (fun (w : World) (h : HasM w (.slice (some ⟨qb, qoff, none⟩) m.qs.length yq) (.slice xa m.ans.length ya) (.slice xb m.aus.length yb) (.slice xm m.more.length ym) (.slice xp m.pres.length yp) (.slice xu m.ups.length yu) m) => inClass_has h.aus n2)
 have HI3 := UC (fun (w : World) (h : HasM w (.slice (some ⟨qb, qoff, none⟩) m.qs.length yq) (.slice xa m.ans.length ya) (.slice xb m.aus.length yb) (.slice xm m.more.length ym) (.slice xp m.pres.length yp) (.slice xu m.ups.length yu) m) => inClass_has h.more n3)
 have HQC := UC (UW hqc hqbl b0)
 have HQU := UC (hqu.below b0)
 have zz := b0.size
 unfold maxLen at *
 clear h hpo hqc hqu hop hc0 hc1 hq1 n1 n2 n3 n4 n5 k1 k2 k3 k4 k5 hmay hque hqn hhl hql
 obtain ⟨d0, d1, d2, d3, d4, d5, d6, d7, d8, d9, d10⟩ := cells11 (UB KK)
 go_enter Tryz.func25, Tryz.ntmps25
 go_wp2_with fail
 clear d0 d1 d2 d3 d4 d5 d6 d7 d8 d9 d10
 have hqblW : qb < (w.alloc (.cells #[.int .i64 m.id, .bool m.reply, .int .i64 m.op, .bool m.auth, .int .i64 m.code, .slice (some ⟨qb, qoff, none⟩) m.qs.length yq, .slice xa m.ans.length ya, .slice xb m.aus.length yb, .slice xm m.more.length ym, .slice xp m.pres.length yp, .slice xu m.ups.length yu] 27)).heap.size := Nat.lt_of_lt_of_le hqbl zz
 generalize w.alloc (.cells #[.int .i64 m.id, .bool m.reply, .int .i64 m.op, .bool m.auth, .int .i64 m.code, .slice (some ⟨qb, qoff, none⟩) m.qs.length yq, .slice xa m.ans.length ya, .slice xb m.aus.length yb, .slice xm m.more.length ym, .slice xp m.pres.length yp, .slice xu m.ups.length yu] 27) = W at *
 refine (UB HPO).mono ?_
 rintro e w1 ⟨rfl, b1⟩
 have bd := UG b1 (UX (w := w1))
 replace b0 := UG b0 bd
 replace H := UC ((UB H).below bd)
 replace KK := UC (UE bd (UB KK))
 replace HQC := UC (UW (UB HQC) hqblW bd)
 replace HQU := UC ((UB HQU).below bd)
 have z1 := bd.size
 have hqbl1 : qb < w1.drew.heap.size := Nat.lt_of_lt_of_le hqblW z1
 clear bd b1 HPO
 go_wp2_with fail
 go_region_held3 (fun w' => (w'.cell? ⟨w.heap.size, 0, none⟩ = some (.int .i64 m.id) ∧ w'.cell? ⟨w.heap.size, 1, none⟩ = some (.bool m.reply) ∧ w'.cell? ⟨w.heap.size, 2, none⟩ = some (.int .i64 m.op) ∧ w'.cell? ⟨w.heap.size, 3, none⟩ = some (.bool m.auth) ∧ w'.cell? ⟨w.heap.size, 4, none⟩ = some (.int .i64 m.code) ∧ w'.cell? ⟨w.heap.size, 5, none⟩ = some (.slice (some ⟨qb, qoff, none⟩) m.qs.length yq) ∧ w'.cell? ⟨w.heap.size, 6, none⟩ = some (.slice xa m.ans.length ya) ∧ w'.cell? ⟨w.heap.size, 7, none⟩ = some (.slice xb m.aus.length yb) ∧ w'.cell? ⟨w.heap.size, 8, none⟩ = some (.slice xm m.more.length ym) ∧ w'.cell? ⟨w.heap.size, 9, none⟩ = some (.slice xp m.pres.length yp) ∧ w'.cell? ⟨w.heap.size, 10, none⟩ = some (.slice xu m.ups.length yu)) ∧ (w'.cell? ⟨qb, qoff, none⟩ = some (.slice qna q.name.length qnc) ∧ w'.cell? ⟨qb, qoff + 1, none⟩ = some (.int .i64 q.type)))
  (first | exact ⟨cells11 (UB KK), range2 (UB HQC)⟩ | exact ⟨cells11 (UE b2 (UB KK)), range2 (UW (UB HQC) hqbl1 b2)⟩ | exact ⟨cells11 (UE (UG b2 b3) (UB KK)), range2 (UW (UB HQC) hqbl1 (UG b2 b3))⟩)
  (first
  | (go_at_call 50; refine (UB HHD _ (UB H)).mono ?_; rintro e w2 ⟨v2, rfl, o2, b2⟩)
  | (go_at_call 49; refine (UB HPQ _ _ o2.has ((UB HQU).below b2)).mono ?_; rintro e w3 ⟨v3, rfl, o3, b3⟩))
 have bd := UG (UG b2 b3) (UX (w := w3))
 replace b0 := UG b0 bd
 replace H := UC ((UB H).below bd)
 replace KK := UC (UE bd (UB KK))
 have O3 := UC ((o3.below (UX (w := w3))))
 have z2 := b2.size
 have z3 := b3.size
 have zd : w3.drew.heap.size = w3.heap.size := rfl
 have zdd : w2.heap.size ≤ w3.drew.heap.size := by rw [zd]; exact z3
 have zk := VC (UB KK)
 clear bd b2 b3 o2 o3 HHD HPQ HQC HQU zd
 obtain ⟨v3a, v3c, rfl, _⟩ := (UB O3).lies
 go_wp2_with fail
 refine startF 17 (S := (fun w' => w'.cell? ⟨w.heap.size, 0, none⟩ = some (.int .i64 m.id) ∧ w'.cell? ⟨w.heap.size, 1, none⟩ = some (.bool m.reply) ∧ w'.cell? ⟨w.heap.size, 2, none⟩ = some (.int .i64 m.op) ∧ w'.cell? ⟨w.heap.size, 3, none⟩ = some (.bool m.auth) ∧ w'.cell? ⟨w.heap.size, 4, none⟩ = some (.int .i64 m.code) ∧ w'.cell? ⟨w.heap.size, 5, none⟩ = some (.slice (some ⟨qb, qoff, none⟩) m.qs.length yq) ∧ w'.cell? ⟨w.heap.size, 6, none⟩ = some (.slice xa m.ans.length ya) ∧ w'.cell? ⟨w.heap.size, 7, none⟩ = some (.slice xb m.aus.length yb) ∧ w'.cell? ⟨w.heap.size, 8, none⟩ = some (.slice xm m.more.length ym) ∧ w'.cell? ⟨w.heap.size, 9, none⟩ = some (.slice xp m.pres.length yp) ∧ w'.cell? ⟨w.heap.size, 10, none⟩ = some (.slice xu m.ups.length yu))) (by kernel_rfl) rfl (cells11 (UB KK)) (fun hHeld => ?_)
 simp only [List.replicate]
 repeat ((first | (refine tkF ?_ rfl (by kernel_rfl) (by rfl) (fun _ _ _ h => h) ?_ hHeld ?_; rotate_left; · (intro w hSw; (try dsimp only at hSw); go_simp <;> with_reducible rfl)) | refine skF rfl (by kernel_rfl) (by rfl) (fun _ _ _ h => h) hHeld ?_); simp only [Act.put, setF, List.setIfInBounds_toArray, List.set_cons_zero, List.set_cons_succ])
 refine tkI 8 ?_ rfl (by kernel_rfl) (by kernel_rfl) (fun _ _ _ h => h) ?_ hHeld ?_; rotate_left; (· (intro w hSw; (try dsimp only at hSw); go_simp <;> with_reducible rfl)); simp only [Act.put, List.setIfInBounds_toArray, List.set_cons_zero, List.set_cons_succ]
 refine tkI 9 ?_ rfl (by kernel_rfl) (by kernel_rfl) (fun _ _ _ h => h) ?_ hHeld ?_; rotate_left; (· (intro w hSw; (try dsimp only at hSw); go_simp <;> with_reducible rfl)); simp only [Act.put, List.setIfInBounds_toArray, List.set_cons_zero, List.set_cons_succ]
 refine tkI 11 ?_ rfl (by kernel_rfl) (by kernel_rfl) (fun _ _ _ h => h) ?_ hHeld ?_; rotate_left; (· (intro w hSw; (try dsimp only at hSw); go_simp <;> with_reducible rfl)); simp only [Act.put, List.setIfInBounds_toArray, List.set_cons_zero, List.set_cons_succ]
 refine tkI 12 ?_ rfl (by kernel_rfl) (by kernel_rfl) (fun _ _ _ h => h) ?_ hHeld ?_; rotate_left; (· (intro w hSw; (try dsimp only at hSw); go_simp <;> with_reducible rfl)); simp only [Act.put, List.setIfInBounds_toArray, List.set_cons_zero, List.set_cons_succ]
 refine runI 7 rfl (by kernel_rfl) (by kernel_rfl) (fun K hK => ?_)
 have HK := UC hK
 clear hK hHeld
 go_simp
 refine (UB HI1 _ (UB H)).mono ?_
 rintro e w4 ⟨v4, rfl, h4, b4⟩
 obtain ⟨v4a, v4c, rfl, _⟩ := h4.form
 simp only [List.length_map]
 refine (UB HK).out _ _ (cells11 (UE b4 (UB KK))) (fun hHeld => ?_)
 clear HK K
 simp only [List.setIfInBounds_toArray, List.set_cons_zero, List.set_cons_succ]
 refine runI 10 rfl (by kernel_rfl) (by kernel_rfl) (fun K hK => ?_)
 have HK := UC hK
 clear hK hHeld
 go_simp
 refine (UB HI2 _ ((UB H).below b4)).mono ?_
 rintro e w5 ⟨v5, rfl, h5, b5⟩
 obtain ⟨v5a, v5c, rfl, _⟩ := h5.form
 simp only [List.length_map]
 have b45 := UG b4 b5
 refine (UB HK).out _ _ (cells11 (UE b45 (UB KK))) (fun hHeld => ?_)
 clear HK K
 simp only [List.setIfInBounds_toArray, List.set_cons_zero, List.set_cons_succ]
 refine runI 13 rfl (by kernel_rfl) (by kernel_rfl) (fun K hK => ?_)
 have HK := UC hK
 clear hK hHeld
 go_simp
 refine (UB HI3 _ ((UB H).below b45)).mono ?_
 rintro e w6 ⟨v6, rfl, h6, b6⟩
 obtain ⟨v6a, v6c, rfl, _⟩ := h6.form
 simp only [List.length_map]
 have b46 := UG b45 b6
 refine (UB HK).out _ _ (cells11 (UE b46 (UB KK))) (fun hHeld => ?_)
 clear HK K
 simp only [List.setIfInBounds_toArray, List.set_cons_zero, List.set_cons_succ]
 have bA := UI (w := w6) (.cells #[.slice xp m.pres.length yp, .slice xu m.ups.length yu, .slice v4a m.ans.length v4c, .slice v5a m.aus.length v5c, .slice v6a m.more.length v6c] 25)
 have gA := heap_alloc_new w6 (.cells #[.slice xp m.pres.length yp, .slice xu m.ups.length yu, .slice v4a m.ans.length v4c, .slice v5a m.aus.length v5c, .slice v6a m.more.length v6c] 25)
 have b47 := UG b46 bA
 have H7 := UC ((UB H).below b47)
 have OA := UC ((UB O3).below b47)
 have HA4 := UC (keptWs h4 (UG b5 (UG b6 bA)))
 have HA5 := UC (keptWs h5 (UG b6 bA))
 have HA6 := UC (keptWs h6 bA)
 have zA := b47.size
 have GA := UC gA
 clear h4 h5 h6 gA
 refine runI 14 rfl (by kernel_rfl) (by kernel_rfl) (fun K hK => ?_)
 have HK := UC hK
 clear hK hHeld
 go_simp
 refine (UB HK).out _ _ (cells11 (UE b47 (UB KK))) (fun hHeld => ?_)
 clear HK K
 simp only [List.setIfInBounds_toArray, List.set_cons_zero, List.set_cons_succ]
 generalize hW7 : w6.alloc (.cells #[.slice xp m.pres.length yp, .slice xu m.ups.length yu, .slice v4a m.ans.length v4c, .slice v5a m.aus.length v5c, .slice v6a m.more.length v6c] 25) = W7 at *
 clear hW7
 have zg := VC (UB GA)
 refine runI 15 rfl (by kernel_rfl) (by kernel_rfl) (fun K hK => ?_)
 have HK := UC hK
 clear hK hHeld
 go_simp
 refine (UB HPS w2.heap.size _ _ _ (UB OA) (by omega) zg (fun i hi => ?_)).mono ?_
 ·match i, hi with
  | 0, _ => exact ⟨_, VE (UB GA) 0, (UB H7).pres⟩
  | 1, _ => exact ⟨_, VE (UB GA) 1, (UB H7).ups⟩
  | 2, _ => exact ⟨_, VE (UB GA) 2, by have := UB HA4; simpa using this⟩
  | 3, _ => exact ⟨_, VE (UB GA) 3, by have := UB HA5; simpa using this⟩
  | 4, _ => exact ⟨_, VE (UB GA) 4, by have := UB HA6; simpa using this⟩
 rintro e w8 ⟨v8, rfl, o8, b8⟩
 obtain ⟨v8a, v8c, rfl, _⟩ := o8.lies
 have b48 := UG b47 b8
 refine (UB HK).out _ _ (cells11 (UE b48 (UB KK))) (fun hHeld => ?_)
 clear HK K
 simp only [List.setIfInBounds_toArray, List.set_cons_zero, List.set_cons_succ]
 repeat ((first | (refine tkF ?_ rfl (by kernel_rfl) (by rfl) (fun _ _ _ h => h) ?_ hHeld ?_; rotate_left; · (intro w hSw; (try dsimp only at hSw); go_simp <;> with_reducible rfl)) | refine skF rfl (by kernel_rfl) (by rfl) (fun _ _ _ h => h) hHeld ?_); simp only [Act.put, setF, List.setIfInBounds_toArray, List.set_cons_zero, List.set_cons_succ])
 refine wpAnyH_done (by kernel_rfl) ?_ _
 clear hHeld
 replace b0 := UG b0 b48
 have O8 := UC o8
 clear o8 b8 b48 b47 b46 b45 b4 b5 b6 HI1 HI2 HI3 HPS O3 OA HA4 HA5 HA6 GA bA H H7 KK
 by_cases h512 : BM.length ≤ 512
 ·obtain ⟨rfl, rfl⟩ := (UB HR).1 h512
  clear HR
  go_wp2_with fail
  go_ret2
  exact ⟨_, rfl, (UB O8).mono (by omega), b0⟩
 ·obtain ⟨rfl, rfl⟩ := (UB HR).2 h512
  clear HR
  go_wp2_with fail
  go_ret2
  exact ⟨_, rfl, World.ownsRow_nil _ _ _ _, b0⟩
end Go.Proofs.YtbabmdiklefgcaaGreatDoor
