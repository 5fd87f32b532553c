/-
  Contract of the specification's l3ownAll. Contracts of the specification's l3ownAll and l5own: records and zones of their own. Contract of the specification's l2under. Contract of the specification's l5alone.
-/
import Derived.Test.YtfneahdnpmamkaaGreatFnOwnersG20
namespace Go.Proofs.YtfneahdnpmamkaaGreat
open Go.RowKit
set_option linter.unusedVariables false

theorem D9 {n : List (List Int)} (h : n.length ≤ 6 ∧ ∀ k, k < n.length → (n.getD k []).length ≤ 15) : Ej n := ⟨Nat.le_trans h.1 (by decide), fun k hk => Nat.le_trans (h.2 k hk) (by decide)⟩
theorem Xj : (Tryz.prog.info? 39).map (fun i => (i.zero, i.size, i.bytes)) = some (some (.agg #[.slice none 0 0, .int .i64 0, .int .i64 0, .int .i64 0, .slice none 0 0, .slice none 0 0, .slice none 0 0]), 7, 120) := by kernel_rfl

set_option maxHeartbeats 4000000 in
set_option maxRecDepth 100000 in
theorem Qd {v : Value} {rs : List Rec} {w : World} (h : Cl w v rs) (hsh : ∀ i, i < rs.length → Em (rs.getD i recZ)) (hl : rs.length ≤ 1000) :
  Calls Tryz.prog 66 #[v] w fun e w' => ∃ u, e = .returned u ∧ RowQ w.heap.size 39 22 5 3 w' u rs ∧ Below w.heap.size w w' := by
 obtain ⟨a, cap, rfl, _⟩ := h.form
 have H := UC h
 have HS := UC hsh
 clear h hsh
 generalize hn : rs.length = m at *
 have HN := UC hn
 clear hn
 go_enter Tryz.func66, Tryz.ntmps66
 go_wp2
 go_loopw [3, 4] (fun o i wr => ∃ k : Nat, k ≤ m ∧ i = .int .i64 k ∧ RowQ w.heap.size 39 22 5 3 wr o (rs.take k) ∧ Below w.heap.size w wr) (fun _ i _ => m - (intOf i).toNat)
 case atStart => exact ⟨0, Nat.zero_le _, rfl, by simpa using RowQ.nil _ _ _ _ _ _, Below.refl _ _⟩
 case round =>
  obtain ⟨k, hk, rfl, ho, hb⟩ := hrel
  by_cases hlt : k < m
  ·obtain ⟨b, off, na, nc, ta, tc, xa, xc, ia, ic, rfl, hbl, hc, hR⟩ := ((UB H).below hb).here (k := k) (by rw [UB HN]; exact hlt)
   have hsk := UB HS k hlt
   have htk := UC (show rs.take (k + 1) = rs.take k ++ [rs.getD k recZ] by rw [List.take_succ_eq_append_getElem (by rw [UB HN]; exact hlt)]; simp [show k < rs.length by rw [UB HN]; exact hlt])
   have htl : (rs.take k).length = k := by rw [List.length_take, UB HN]; omega
   obtain ⟨c0, c1, c2, c3, c4, c5, c6⟩ := VH hc
   generalize rs.getD k recZ = r at *
   generalize rs.take k = rk at *
   obtain ⟨oa, oc, hv, _⟩ := ho.form
   rw [htl] at hv
   subst hv
   have HO := UC ho
   have HL := UC (Wb hR (D9 hsk.1) (D9 hsk.2.1) hsk.2.2.1 hsk.2.2.2)
   have zB := hb.size
   clear ho hR hsk hc
   go_wp2_with fail
   clear c0 c1 c2 c3 c4 c5 c6
   refine (UB HL).mono ?_
   rintro e w1 ⟨un, ut, ux, ui, rfl, o1, o2, o3, o4, b1⟩
   obtain ⟨pa, pc, rfl, _⟩ := o1.hasL.form
   obtain ⟨qa, qc, rfl, _⟩ := o2.hasL.form
   obtain ⟨ya, yc, rfl, _⟩ := o3.lies
   obtain ⟨za, zc, rfl, _⟩ := o4.lies
   have ba := UI (w := w1) (.cells #[.slice pa r.name.length pc, .int .i64 r.type, .int .i64 r.ttl, .int .i64 r.addr, .slice qa r.to.length qc, .slice ya r.text.length yc, .slice za r.nums.length zc] 39)
   have g1 := heap_alloc_new w1 (.cells #[.slice pa r.name.length pc, .int .i64 r.type, .int .i64 r.ttl, .int .i64 r.addr, .slice qa r.to.length qc, .slice ya r.text.length yc, .slice za r.nums.length zc] 39)
   have OQ := UC ((⟨o1.mono (by omega), o2.mono (by omega), o3.mono (by omega), o4.mono (by omega)⟩ : OwnQ w.heap.size 22 5 3 w1 (.slice pa r.name.length pc) (.slice qa r.to.length qc) (.slice ya r.text.length yc) (.slice za r.nums.length zc) r).below ba)
   have HO2 := UC (((UB HO).below b1).below ba)
   have bb := UG (UG hb b1) ba
   have z1 := b1.size
   have z2 := ba.size
   obtain ⟨xs0, hx0, hx1⟩ := UB HO2
   rw [htl] at hx0
   clear o1 o2 o3 o4 b1 ba HL HO
   go_wp2_with (at_builtin; refine Ss rfl _ _ 26 39 rfl Tryz.underlying26 _ Xj rfl w.heap.size (.slice oa k oc) k rfl w1.heap.size [.slice pa r.name.length pc, .int .i64 r.type, .int .i64 r.ttl, .int .i64 r.addr, .slice qa r.to.length qc, .slice ya r.text.length yc, .slice za r.nums.length zc] rfl ⟨xs0, hx0⟩ g1 rfl (by simp [Value.oneCell']) (by omega) (by simp; omega) ?_)
   intro v2 w2 h2 g2 hw2
   have row2 := RowQ.snoc (by decide) (by decide) (by decide) (UB HO2) (UB OQ) g2 (by rw [htl]; exact h2)
   rw [← UB htk] at row2
   have bb2 := bb.grown g2 bb.size (fun j e => (World.ownsRow.lt hx0 j e).1)
   clear hx0 hx1 h2 g2 hw2 OQ HO2 g1 bb
   go_wp2
   exact ⟨⟨k + 1, by omega, by go_num, row2, bb2⟩, by simp [intOf]; omega⟩
  ·obtain rfl : k = m := by omega
   have hall : rs.take k = rs := List.take_of_length_le (by rw [UB HN]; exact Nat.le_refl _)
   rw [hall] at ho
   clear hall
   go_wp2
   go_ret
   exact ⟨_, rfl, ho, hb⟩
set_option maxHeartbeats 4000000 in
set_option maxRecDepth 100000 in
theorem Kh {vo vr : Value} {o : List (List Int)} {rs : List Rec} {w : World} (h : HasZ w vo vr o rs) (ho : Kz o) (hsh : ∀ i, i < rs.length → Em (rs.getD i recZ)) (hl : rs.length ≤ 1000) :
  Calls Tryz.prog 39 #[.agg #[vo, vr]] w fun e w' => ∃ uo ur, e = .returned (.agg #[uo, ur]) ∧ OwnL w.heap.size 22 5 w' uo o ∧ RowQ w.heap.size 39 22 5 3 w' ur rs ∧ Below w.heap.size w w' := by
 obtain ⟨oa, oc, rfl, _⟩ := h.name.form
 obtain ⟨ra, rc, rfl, _⟩ := h.recs.form
 obtain ⟨hsz, k0, r0⟩ := box2 w (.cells #[.slice oa o.length oc, .slice ra rs.length rc] 28) #[.slice none 0 0, .slice none 0 0] 28
 have b0 := Bl w (.cells #[.slice oa o.length oc, .slice ra rs.length rc] 28) (.cells #[.slice none 0 0, .slice none 0 0] 28)
 have h0 := h.below b0
 have HN := UC (fun (w : World) (hh : HasL w (.slice oa o.length oc) o) => Iq hh (D9 ho).1 (D9 ho).2)
 have HR := UC (fun (w : World) (hh : Cl w (.slice ra rs.length rc) rs) => Qd hh hsh hl)
 have KB := UC k0
 have KR := UC r0
 have zz := VC r0
 have F1 := UC h0.name
 have F2 := UC h0.recs
 clear hsz k0 r0 h h0 ho hsh
 go_enter Tryz.func39, Tryz.ntmps39
 go_wp2_with fail
 generalize (w.alloc (.cells #[.slice oa o.length oc, .slice ra rs.length rc] 28)).alloc (.cells #[.slice none 0 0, .slice none 0 0] 28) = W at *
 have bd := UX (w := W)
 have bb := UG b0 bd
 replace KB := UC (UE bd (UB KB))
 replace KR := UC (UE bd (UB KR))
 replace F1 := UC ((UB F1).below bd)
 replace F2 := UC ((UB F2).below bd)
 have z0 := bd.size
 clear bd b0
 have cz := UM (UB KB)
 have c0 := cz.1
 have c1 := cz.2
 clear cz
 go_region_law (first
  | (go_simp; go_at_call 65; refine (UB HN _ (UB F1)).mono ?_; rintro e w1 ⟨v1, rfl, o1, b1⟩; obtain ⟨p1, q1, rfl, _⟩ := o1.hasL.form; have N1 := UC o1.here; have KB1 := UC (UE b1 (UB KB)); have KR1 := UC (UE b1 (UB KR)); have F21 := UC ((UB F2).below b1); have bb1 := UG bb b1; have z1 := b1.size; have c11 := (UM (UB KB1)).2; clear b1 o1)
  | (go_simp; go_at_call 66; refine (UB HR _ (UB F21)).mono ?_; rintro e w2 ⟨v2, rfl, o2, b2⟩; obtain ⟨p2, q2, rfl, _⟩ := o2.form; have N2 := UC o2; have N12 := UC ((UB N1).below b2); have KB2 := UC (UE b2 (UB KB1)); have KR2 := UC (UE b2 (UB KR1)); have bb2 := UG bb1 b2; have z2 := b2.size; obtain ⟨d0, d1⟩ := UM (UB KR2); obtain ⟨f0, f1⟩ := Am (UB KR2); clear b2 o2))
 all_goals
  clear d0 d1 f0 f1 c0 c1 c11
  have kf : ((w2.setCell ⟨w.heap.size + 1, 0, none⟩ (.slice p1 o.length q1)).setCell ⟨w.heap.size + 1, 1, none⟩ (.slice p2 rs.length q2)).heap[w.heap.size + 1]? = some (.cells #[.slice p1 o.length q1, .slice p2 rs.length q2] 28) := UV (UV (UB KR2) 0 _) 1 _
  have u5 := (UT w2 (w.heap.size + 1) 0 (.slice p1 o.length q1)).trans (UT _ (w.heap.size + 1) 1 (.slice p2 rs.length q2))
  have g5 := Ad (Ab w2 ⟨w.heap.size + 1, 0, none⟩ (.slice p1 o.length q1)) (Ab _ ⟨w.heap.size + 1, 1, none⟩ (.slice p2 rs.length q2))
  have M1 := ((UB N12).outside u5 (.inr (by omega))).ownL.mono (B' := w.heap.size) (by omega)
  have M2 := ((UB N2).off (UB KR2) (by decide) (by decide) (by decide) (by decide) g5).mono (B' := w.heap.size) (by omega)
  have bb5 := u5.below bb2 (by omega)
  clear u5 g5
  go_wp2_with fail
  refine bodyPost_ret (results_cell_row rfl _ _ (w.heap.size + 1) 28 #[.slice p1 o.length q1, .slice p2 rs.length q2] (0, 0) _ rfl kf Tryz.underlying28 rfl (by kernel_rfl)) rfl ?_
  exact ⟨_, _, rfl, M1, M2, bb5⟩
set_option maxHeartbeats 2000000 in
set_option maxRecDepth 100000 in
theorem Rh {v v' : Value} {n n' : List (List Int)} {w : World} (h : HasL w v n) (h' : HasL w v' n') (hs : n.length ≤ 6) (hs' : n'.length ≤ 6) :
  Calls Tryz.prog 24 #[.agg #[v], .agg #[v']] w fun e w' => e = .returned (.bool (Cy n n')) ∧ Below w.heap.size w w' := by
 obtain ⟨a, cap, rfl, hcl, hcm⟩ := h.form
 obtain ⟨a', cap', rfl, _⟩ := h'.form
 unfold maxLen at hcm
 have b1 := UI (w := w) (.cells #[.slice a n.length cap] 25)
 have k1 := heap_alloc_new w (.cells #[.slice a n.length cap] 25)
 have e1 : (w.alloc (.cells #[.slice a n.length cap] 25)).heap.size = w.heap.size + 1 := by show (w.heap.push _).size = _; simp
 have b2 := UI (w := w.alloc (.cells #[.slice a n.length cap] 25)) (.cells #[.slice a' n'.length cap'] 25)
 have x2 := heap_alloc_new (w.alloc (.cells #[.slice a n.length cap] 25)) (.cells #[.slice a' n'.length cap'] 25)
 have k2 := UE b2 k1
 rw [e1] at x2
 have bb2 := UG b1 b2
 have h2 := UC (h.below bb2)
 have h2' := UC (h'.below bb2)
 clear h h' b1 b2 k1 e1
 have hno := UC (fun (hlt : n.length < n'.length) => Lc hlt)
 have hyes := UC (fun (hle : n'.length ≤ n.length) => Jl hle)
 generalize Cy n n' = R at *
 have hdrop := UC (fun (W : World) (hW : HasL W (.slice a n.length cap) n) (k : Nat) (hk : k ≤ n.length) => HasL.drop hW rfl hk)
 by_cases hle : n'.length ≤ n.length
 ·have hr := UB hyes hle
  have HDR := UC (UB hdrop _ ((UB h2).below UX) (n.length - n'.length) (by omega))
  clear hyes hno hdrop
  generalize hj : n.length - n'.length = j at *
  have hlen : (n.drop j).length = n.length - j := by simp
  generalize n.drop j = nd at *
  have s1 : (n.length : Int) - n'.length = j := by omega
  have wj : IntKind.i64.wrap (j : Int) = j := Az j (by omega)
  have jl : j ≤ n.length := by omega
  have jc : j ≤ cap := by omega
  have j0 : (0 : Int) ≤ j := by omega
  go_enter Tryz.func24, Tryz.ntmps24
  go_wp2_with fail
  generalize (w.alloc (.cells #[.slice a n.length cap] 25)).alloc (.cells #[.slice a' n'.length cap'] 25) = W at *
  have kd := UE (UX (w := W)) k2
  have xd := UE (UX (w := W)) x2
  have ck := US kd
  have cx := US xd
  have KD := UC kd
  have XD := UC xd
  clear kd xd k2 x2
  rcases UB HDR with ⟨ha, hm0, hc0⟩ | ⟨g, off, ha, hd⟩
  ·clear HDR
   have hz' : n'.length = 0 := by omega
   have hz : j = 0 := by omega
   obtain rfl : nd = [] := List.eq_nil_of_length_eq_zero (by omega)
   obtain rfl : n' = [] := List.eq_nil_of_length_eq_zero hz'
   obtain rfl : n = [] := List.eq_nil_of_length_eq_zero hm0
   subst ha hc0 hz
   clear hj hlen s1 wj jl jc hz' hm0 hle hs hs' hcl j0
   simp only [List.length_nil] at *
   have HD := UC (show HasL W.drew (.slice none 0 0) [] from .inl ⟨rfl, rfl⟩)
   have hS := UC (El (UB HD) ((UB h2').below UX) (by simp) (by simp))
   go_region_held3 (fun w' => w'.cell? ⟨w.heap.size, 0, none⟩ = some (.slice none 0 0) ∧ w'.cell? ⟨w.heap.size + 1, 0, none⟩ = some (.slice a' 0 cap'))
    (first | (exact ⟨ck, cx⟩) | (exact ⟨c5k, c5x⟩))
    (first | (go_at_call 27; refine (UB hS).mono ?_; generalize cmpN [] [] = c at *; subst hr; rintro e w5 ⟨rfl, b5⟩; have c5k := US (UE b5 (UB KD)); have c5x := US (UE b5 (UB XD))))
   all_goals
    go_wp2_with fail
    go_ret
    exact ⟨rfl, UG (UG bb2 UX) b5⟩
  ·clear HDR
   subst ha
   by_cases hcj : cap = j
   ·have e2 : j = n.length := by omega
    have e1 : cap = n.length := by omega
    obtain rfl : n' = [] := List.eq_nil_of_length_eq_zero (by omega)
    obtain rfl : nd = [] := List.eq_nil_of_length_eq_zero (by omega)
    rw [if_pos hcj, e1, e2, Nat.sub_self] at hd
    have HD := UC hd
    subst e1 e2
    clear hd hj hlen hcj hle hs' jl jc s1 hcl
    simp only [List.length_nil] at *
    generalize hn : n.length = m at *
    have hS := UC (El (UB HD) ((UB h2').below UX) (by simp) (by simp))
    go_region_held3 (fun w' => w'.cell? ⟨w.heap.size, 0, none⟩ = some (.slice (some ⟨g, off, none⟩) m m) ∧ w'.cell? ⟨w.heap.size + 1, 0, none⟩ = some (.slice a' 0 cap'))
     (first | (exact ⟨ck, cx⟩) | (exact ⟨c5k, c5x⟩))
     (first | (go_at_call 27; refine (UB hS).mono ?_; generalize cmpN [] [] = c at *; subst hr; rintro e w5 ⟨rfl, b5⟩; have c5k := US (UE b5 (UB KD)); have c5x := US (UE b5 (UB XD))))
    all_goals
     go_wp2_with fail
     go_ret
     exact ⟨rfl, UG (UG bb2 UX) b5⟩
   ·rw [if_neg hcj] at hd
    have HD := UC hd
    clear hd
    have hS := UC (El (UB HD) ((UB h2').below UX) (by omega) (by omega))
    go_region_held3 (fun w' => w'.cell? ⟨w.heap.size, 0, none⟩ = some (.slice (some ⟨g, off, none⟩) n.length cap) ∧ w'.cell? ⟨w.heap.size + 1, 0, none⟩ = some (.slice a' n'.length cap'))
     (first | (exact ⟨ck, cx⟩) | (exact ⟨c5k, c5x⟩))
     (first | (go_at_call 27; refine (UB hS).mono ?_; generalize cmpN nd n' = c at *; subst hr; rintro e w5 ⟨rfl, b5⟩; have c5k := US (UE b5 (UB KD)); have c5x := US (UE b5 (UB XD))))
    all_goals
     go_wp2_with fail
     go_ret
     exact ⟨rfl, UG (UG bb2 UX) b5⟩
 ·have hr := UB hno (by omega)
  subst hr
  have s1 : wrap64 ((n.length : Int) - n'.length) = (n.length : Int) - n'.length := by unfold wrap64; omega
  clear hyes hno hdrop
  have s2 : ¬ (0 : Int) ≤ (n.length : Int) - n'.length := by omega
  have KD := UC k2
  have XD := UC x2
  go_enter Tryz.func24, Tryz.ntmps24
  go_wp2_with fail
  generalize (w.alloc (.cells #[.slice a n.length cap] 25)).alloc (.cells #[.slice a' n'.length cap'] 25) = W at *
  have ck := US (UB KD)
  have cx := US (UB XD)
  clear k2 x2
  go_quiet (fail)
  go_wp2
  go_ret
  exact ⟨rfl, UG bb2 (Cr nq)⟩
def E2 (rs : List Rec) (i : Nat) : Bool := decide ((rs.getD i recZ).type ≠ 5) || decide (∀ k, k < rs.length → k ≠ i → cmpN (rs.getD k recZ).name (rs.getD i recZ).name ≠ 0)
theorem Nu (rs : List Rec) (i : Nat) : E2 rs i = true ↔ alone rs i := by
 unfold E2 alone
 rw [Bool.or_eq_true, decide_eq_true_iff, decide_eq_true_iff]
 constructor
 ·intro h e
  exact h.resolve_left (fun q => q e)
 ·intro h
  by_cases e : (rs.getD i recZ).type = 5
  ·exact .inr (h e)
  ·exact .inl e
theorem Rk {rs : List Rec} {i : Nat} (h : (rs.getD i recZ).type ≠ 5) : E2 rs i = true := by
 unfold E2
 rw [decide_eq_true h, Bool.true_or]
theorem Tt {rs : List Rec} {i : Nat} (h : ∀ k, k < rs.length → k ≠ i → cmpN (rs.getD k recZ).name (rs.getD i recZ).name ≠ 0) : E2 rs i = true := by
 unfold E2
 rw [decide_eq_true h, Bool.or_true]
theorem Tz {rs : List Rec} {i k : Nat} (h5 : (rs.getD i recZ).type = 5) (hk : k < rs.length) (hne : k ≠ i) (h0 : cmpN (rs.getD k recZ).name (rs.getD i recZ).name = 0) : E2 rs i = false := by
 cases h : E2 rs i with
 | false => rfl
 | true => exact absurd h0 ((Nu rs i).1 h h5 k hk hne)

set_option maxHeartbeats 1000000 in
set_option maxRecDepth 100000 in
theorem Rg {v : Value} {rs : List Rec} {i : Nat} {w : World} (h : Cl w v rs) (hi : i < rs.length) (h60 : rs.length ≤ 60) (hs : ∀ k, k < rs.length → (rs.getD k recZ).name.length ≤ 1048576) :
  Calls Tryz.prog 26 #[v, .int .i64 i] w fun e w' => e = .returned (.bool (E2 rs i)) ∧ Below w.heap.size w w' := by
 obtain ⟨a, cap, rfl, _⟩ := h.form
 obtain ⟨b, off, na, nc, ta, tc, xa, xc, ia, ic, rfl, hbl, hc, hu⟩ := h.here hi
 generalize hAL : E2 rs i = AL
 have HAL := UC hAL
 clear hAL
 generalize hri : rs.getD i recZ = ri at *
 have HRI := UC hri
 clear hri
 have HS := UC hs
 clear hs
 have hii : (i : Int) < rs.length := by omega
 generalize hn : rs.length = m at *
 have HN := UC hn
 clear hn
 obtain ⟨c0, c1, c2, c3, c4, c5, c6⟩ := VH hc
 have HC := UC hc
 have HU := UC hu
 clear hc hu
 by_cases h5 : ri.type = 5
 ·have e5 : (ri.type != 5) = false := by rw [h5]; rfl
  have H5 := UC h5
  clear h5
  go_enter Tryz.func26, Tryz.ntmps26
  go_wp2_with fail
  clear c0 c1 c2 c3 c4 c5 c6 e5
  go_loopw [5] (fun x wr => ∃ k : Nat, k ≤ m ∧ x = .int .i64 k ∧ Hid (∀ j, j < k → j ≠ i → cmpN (rs.getD j recZ).name ri.name ≠ 0) ∧ Below w.heap.size w wr) (fun x _ => m - (intOf x).toNat)
  case atStart => exact ⟨0, Nat.zero_le _, rfl, UC (fun j hj => absurd hj (Nat.not_lt_zero _)), Below.refl _ _⟩
  case round =>
   obtain ⟨k, hk, rfl, hall, hb⟩ := hrel
   by_cases hlt : k < m
   ·have bd := UX (w := wr)
    have hbd := UG hb bd
    by_cases hki : k = i
    ·have e1 : ((k : Int) != i) = false := by rw [hki]; simp
     have hall' : ∀ j, j < k + 1 → j ≠ i → cmpN (rs.getD j recZ).name ri.name ≠ 0 := fun j hj hne => UB hall j (by omega) hne
     have HALL := UC hall'
     clear hall' hki
     go_wp2_with fail
     refine wp_region_held_drew (S := (fun _ => True)) (by kernel_rfl) trivial (fun hHeld => ?_)
     show wpAnyH _ _ _ _ _ 17 #[false, false, false, false, false, false, false, false, false, false, false, false, false, false, false, false, false] _ _
     iterate 2 (refine tkF ?_ rfl (by kernel_rfl) (by kernel_rfl) (fun _ _ _ h => h) ?_ hHeld ?_; rotate_left; (· (intro w hSw; (try dsimp only at hSw); go_simp <;> with_reducible rfl)); simp only [Act.put, setF, List.setIfInBounds_toArray, List.set_cons_zero, List.set_cons_succ])
     refine tkF (.bool false) rfl (by kernel_rfl) (by kernel_rfl) (fun _ _ _ h => h) ?_ hHeld ?_; (· (intro w hSw; (try dsimp only at hSw); go_simp)); simp only [Act.put, setF, List.setIfInBounds_toArray, List.set_cons_zero, List.set_cons_succ]
     refine tkF (.bool false) rfl (by kernel_rfl) (by kernel_rfl) (fun _ _ _ h => h) ?_ hHeld ?_; (· (intro w hSw; (try dsimp only at hSw); go_simp)); simp only [Act.put, setF, List.setIfInBounds_toArray, List.set_cons_zero, List.set_cons_succ]
     iterate 12 (refine skF rfl (by kernel_rfl) (by kernel_rfl) (fun _ _ _ h => h) hHeld ?_; simp only [Act.put, setF, List.setIfInBounds_toArray, List.set_cons_zero, List.set_cons_succ])
     refine tkF ?_ rfl (by kernel_rfl) (by kernel_rfl) (fun _ _ _ h => h) ?_ hHeld ?_; rotate_left; (· (intro w hSw; (try dsimp only at hSw); go_simp <;> with_reducible rfl)); simp only [Act.put, setF, List.setIfInBounds_toArray, List.set_cons_zero, List.set_cons_succ]
     refine wpAnyH_done (by kernel_rfl) ?_ _
     clear hHeld
     go_wp2_with fail
     exact ⟨⟨k + 1, by omega, by go_num, HALL, hbd⟩, by simp [intOf]; omega⟩
    ·obtain ⟨b', off', na', nc', ta', tc', xa', xc', ia', ic', hbe, hbl', hc', hu'⟩ := (h.below hb).here (k := k) (by rw [UB HN]; exact hlt)
     simp only [Option.some.injEq, Addr.mk.injEq, and_true] at hbe
     obtain ⟨rfl, rfl⟩ := hbe
     have hsk := UB HS k hlt
     have hsi : ri.name.length ≤ 1048576 := by have := UB HS i (by omega); rw [UB HRI] at this; exact this
     have e1 : ((k : Int) != i) = true := by rw [bne_iff_ne]; omega
     have hkm : (k : Int) < m := by omega
     have hlim := hlt
     generalize hrk : rs.getD k recZ = rk at *
     have HRK := UC hrk
     clear hrk
     have CM := fun (w : World) (h1 : HasL w (.slice na' rk.name.length nc') rk.name) (h2 : HasL w (.slice na ri.name.length nc) ri.name) => El h1 h2 hsk hsi
     have HC4 := UC (UW hc' hbl' bd)
     have HC5 := UC (UW (UW (UB HC) hbl hb) (Nat.lt_of_lt_of_le hbl hb.size) bd)
     have hbl4 : b < wr.drew.heap.size := hbl'
     have U4 := UC (hu'.name.below bd)
     have U5 := UC ((UB HU).name.below hbd)
     clear hc' hu' hsk hsi
     by_cases hz : cmpN rk.name ri.name = 0
     ·have hA := Tz (rs := rs) (i := i) (k := k) (by rw [UB HRI]; exact UB H5) (by rw [UB HN]; exact hlt) hki (by rw [UB HRK, UB HRI]; exact hz)
      rw [UB HAL] at hA
      subst hA
      rw [hz] at CM
      replace CM := UC CM
      clear hz HAL hall hki
      go_wp2_with fail
      refine wp_region_held_drew (S := (fun w' => w'.cell? ⟨b, off + k * 7, none⟩ = some (.slice na' rk.name.length nc') ∧ w'.cell? ⟨b, off + i * 7, none⟩ = some (.slice na ri.name.length nc))) (by kernel_rfl) ⟨(VH (UB HC4)).1, (VH (UB HC5)).1⟩ (fun hHeld => ?_)
      show wpAnyH _ _ _ _ _ 17 #[false, false, false, false, false, false, false, false, false, false, false, false, false, false, false, false, false] _ _
      iterate 2 (refine tkF ?_ rfl (by kernel_rfl) (by kernel_rfl) (fun _ _ _ h => h) ?_ hHeld ?_; rotate_left; (· (intro w hSw; (try dsimp only at hSw); go_simp <;> with_reducible rfl)); simp only [Act.put, setF, List.setIfInBounds_toArray, List.set_cons_zero, List.set_cons_succ])
      refine tkF (.bool true) rfl (by kernel_rfl) (by kernel_rfl) (fun _ _ _ h => h) ?_ hHeld ?_; (· (intro w hSw; (try dsimp only at hSw); go_simp)); simp only [Act.put, setF, List.setIfInBounds_toArray, List.set_cons_zero, List.set_cons_succ]
      refine tkF (.bool true) rfl (by kernel_rfl) (by kernel_rfl) (fun _ _ _ h => h) ?_ hHeld ?_; (· (intro w hSw; (try dsimp only at hSw); go_simp)); simp only [Act.put, setF, List.setIfInBounds_toArray, List.set_cons_zero, List.set_cons_succ]
      iterate 2 (refine tkF ?_ rfl (by kernel_rfl) (by kernel_rfl) (fun _ _ _ h => h) ?_ hHeld ?_; rotate_left; (· (intro w hSw; (try dsimp only at hSw); go_simp <;> with_reducible rfl)); simp only [Act.put, setF, List.setIfInBounds_toArray, List.set_cons_zero, List.set_cons_succ])
      refine tkF (.pointer (some ⟨b, off + k * 7, none⟩)) rfl (by kernel_rfl) (by kernel_rfl) (fun _ _ _ h => h) ?_ hHeld ?_; (· (intro w hSw; (try dsimp only at hSw); go_simp)); simp only [Act.put, setF, List.setIfInBounds_toArray, List.set_cons_zero, List.set_cons_succ]
      iterate 4 (refine tkF ?_ rfl (by kernel_rfl) (by kernel_rfl) (fun _ _ _ h => h) ?_ hHeld ?_; rotate_left; (· (intro w hSw; (try dsimp only at hSw); go_simp <;> with_reducible rfl)); simp only [Act.put, setF, List.setIfInBounds_toArray, List.set_cons_zero, List.set_cons_succ])
      refine tkF (.pointer (some ⟨b, off + i * 7, none⟩)) rfl (by kernel_rfl) (by kernel_rfl) (fun _ _ _ h => h) ?_ hHeld ?_; (· (intro w hSw; (try dsimp only at hSw); go_simp)); simp only [Act.put, setF, List.setIfInBounds_toArray, List.set_cons_zero, List.set_cons_succ]
      iterate 2 (refine tkF ?_ rfl (by kernel_rfl) (by kernel_rfl) (fun _ _ _ h => h) ?_ hHeld ?_; rotate_left; (· (intro w hSw; (try dsimp only at hSw); go_simp <;> with_reducible rfl)); simp only [Act.put, setF, List.setIfInBounds_toArray, List.set_cons_zero, List.set_cons_succ])
      refine runI 14 rfl (by kernel_rfl) (by kernel_rfl) (fun K hK => ?_)
      have HK := UC hK
      clear hK hHeld
      go_simp
      refine (UB CM _ (UB U4) (UB U5)).mono ?_
      rintro e w2 ⟨rfl, b2⟩
      go_simp
      refine (UB HK).out _ _ ⟨(VH (UW (UB HC4) hbl4 b2)).1, (VH (UW (UB HC5) hbl4 b2)).1⟩ (fun hHeld => ?_)
      clear HK K
      try simp only [List.setIfInBounds_toArray, List.set_cons_zero, List.set_cons_succ]
      refine tkF (.bool true) rfl (by kernel_rfl) (by kernel_rfl) (fun _ _ _ h => h) ?_ hHeld ?_; (· (intro w hSw; (try dsimp only at hSw); go_simp)); simp only [Act.put, setF, List.setIfInBounds_toArray, List.set_cons_zero, List.set_cons_succ]
      refine tkF (.bool true) rfl (by kernel_rfl) (by kernel_rfl) (fun _ _ _ h => h) ?_ hHeld ?_; (· (intro w hSw; (try dsimp only at hSw); go_simp)); simp only [Act.put, setF, List.setIfInBounds_toArray, List.set_cons_zero, List.set_cons_succ]
      refine wpAnyH_done (by kernel_rfl) ?_ _
      clear hHeld
      go_wp2_with fail
      go_ret
      exact ⟨rfl, UG hbd b2⟩
     ·have hall' : ∀ j, j < k + 1 → j ≠ i → cmpN (rs.getD j recZ).name ri.name ≠ 0 := fun j hj hne => by
       by_cases e : j = k
       ·subst e; rw [UB HRK]; exact hz
       ·exact UB hall j (by omega) hne
      have HALL := UC hall'
      have e2 : (cmpN rk.name ri.name == 0) = false := by rw [beq_eq_false_iff_ne]; exact hz
      generalize cmpN rk.name ri.name = c at *
      replace CM := UC CM
      clear hall' hz hki
      go_wp2_with fail
      refine wp_region_held_drew (S := (fun w' => w'.cell? ⟨b, off + k * 7, none⟩ = some (.slice na' rk.name.length nc') ∧ w'.cell? ⟨b, off + i * 7, none⟩ = some (.slice na ri.name.length nc))) (by kernel_rfl) ⟨(VH (UB HC4)).1, (VH (UB HC5)).1⟩ (fun hHeld => ?_)
      show wpAnyH _ _ _ _ _ 17 #[false, false, false, false, false, false, false, false, false, false, false, false, false, false, false, false, false] _ _
      iterate 2 (refine tkF ?_ rfl (by kernel_rfl) (by kernel_rfl) (fun _ _ _ h => h) ?_ hHeld ?_; rotate_left; (· (intro w hSw; (try dsimp only at hSw); go_simp <;> with_reducible rfl)); simp only [Act.put, setF, List.setIfInBounds_toArray, List.set_cons_zero, List.set_cons_succ])
      refine tkF (.bool true) rfl (by kernel_rfl) (by kernel_rfl) (fun _ _ _ h => h) ?_ hHeld ?_; (· (intro w hSw; (try dsimp only at hSw); go_simp)); simp only [Act.put, setF, List.setIfInBounds_toArray, List.set_cons_zero, List.set_cons_succ]
      refine tkF (.bool true) rfl (by kernel_rfl) (by kernel_rfl) (fun _ _ _ h => h) ?_ hHeld ?_; (· (intro w hSw; (try dsimp only at hSw); go_simp)); simp only [Act.put, setF, List.setIfInBounds_toArray, List.set_cons_zero, List.set_cons_succ]
      iterate 2 (refine tkF ?_ rfl (by kernel_rfl) (by kernel_rfl) (fun _ _ _ h => h) ?_ hHeld ?_; rotate_left; (· (intro w hSw; (try dsimp only at hSw); go_simp <;> with_reducible rfl)); simp only [Act.put, setF, List.setIfInBounds_toArray, List.set_cons_zero, List.set_cons_succ])
      refine tkF (.pointer (some ⟨b, off + k * 7, none⟩)) rfl (by kernel_rfl) (by kernel_rfl) (fun _ _ _ h => h) ?_ hHeld ?_; (· (intro w hSw; (try dsimp only at hSw); go_simp)); simp only [Act.put, setF, List.setIfInBounds_toArray, List.set_cons_zero, List.set_cons_succ]
      iterate 4 (refine tkF ?_ rfl (by kernel_rfl) (by kernel_rfl) (fun _ _ _ h => h) ?_ hHeld ?_; rotate_left; (· (intro w hSw; (try dsimp only at hSw); go_simp <;> with_reducible rfl)); simp only [Act.put, setF, List.setIfInBounds_toArray, List.set_cons_zero, List.set_cons_succ])
      refine tkF (.pointer (some ⟨b, off + i * 7, none⟩)) rfl (by kernel_rfl) (by kernel_rfl) (fun _ _ _ h => h) ?_ hHeld ?_; (· (intro w hSw; (try dsimp only at hSw); go_simp)); simp only [Act.put, setF, List.setIfInBounds_toArray, List.set_cons_zero, List.set_cons_succ]
      iterate 2 (refine tkF ?_ rfl (by kernel_rfl) (by kernel_rfl) (fun _ _ _ h => h) ?_ hHeld ?_; rotate_left; (· (intro w hSw; (try dsimp only at hSw); go_simp <;> with_reducible rfl)); simp only [Act.put, setF, List.setIfInBounds_toArray, List.set_cons_zero, List.set_cons_succ])
      refine runI 14 rfl (by kernel_rfl) (by kernel_rfl) (fun K hK => ?_)
      have HK := UC hK
      clear hK hHeld
      go_simp
      refine (UB CM _ (UB U4) (UB U5)).mono ?_
      rintro e w2 ⟨rfl, b2⟩
      go_simp
      refine (UB HK).out _ _ ⟨(VH (UW (UB HC4) hbl4 b2)).1, (VH (UW (UB HC5) hbl4 b2)).1⟩ (fun hHeld => ?_)
      clear HK K
      try simp only [List.setIfInBounds_toArray, List.set_cons_zero, List.set_cons_succ]
      refine tkF (.bool false) rfl (by kernel_rfl) (by kernel_rfl) (fun _ _ _ h => h) ?_ hHeld ?_; (· (intro w hSw; (try dsimp only at hSw); go_simp)); simp only [Act.put, setF, List.setIfInBounds_toArray, List.set_cons_zero, List.set_cons_succ]
      refine tkF (.bool false) rfl (by kernel_rfl) (by kernel_rfl) (fun _ _ _ h => h) ?_ hHeld ?_; (· (intro w hSw; (try dsimp only at hSw); go_simp)); simp only [Act.put, setF, List.setIfInBounds_toArray, List.set_cons_zero, List.set_cons_succ]
      refine wpAnyH_done (by kernel_rfl) ?_ _
      clear hHeld
      go_wp2_with fail
      exact ⟨⟨k + 1, by omega, by go_num, HALL, UG hbd b2⟩, by simp [intOf]; omega⟩
   ·obtain rfl : k = m := by omega
    have hA := Tt (rs := rs) (i := i) (fun j hj hne => by rw [UB HRI]; exact UB hall j (by rw [UB HN] at hj; exact hj) hne)
    rw [UB HAL] at hA
    subst hA
    go_wp2
    go_ret
    exact ⟨rfl, hb⟩
 ·have hA := Rk (rs := rs) (i := i) (by rw [UB HRI]; exact h5)
  rw [UB HAL] at hA
  subst hA
  have e5 : (ri.type != 5) = true := by rw [bne_iff_ne]; exact h5
  clear h5
  go_enter Tryz.func26, Tryz.ntmps26
  go_wp2_with fail
  go_ret
  exact ⟨rfl, Below.refl _ _⟩
end Go.Proofs.YtfneahdnpmamkaaGreat
