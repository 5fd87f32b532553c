/-
  Contract of the specification's l3ownAll. Contract of the specification's l10own.
-/
import Derived.Test.YtaehfeobfkaicaaGreatCacheGetG39
import Derived.Test.YtaehfeobfkaicaaGreatCacheGetG14
import Derived.Test.YtaehfeobfkaicaaGreatCacheGetG12
import Derived.Test.YtaehfeobfkaicaaGreatCacheGetG09
import Derived.Test.YtaehfeobfkaicaaGreatCacheGetG38
import Derived.Test.YtaehfeobfkaicaaGreatCacheGetG29
import Derived.Test.YtaehfeobfkaicaaGreatCacheGetG22
namespace Go.Proofs.YtaehfeobfkaicaaGreat
open Go.RowKit
set_option linter.unusedVariables false

theorem drawn_of_short {n : List (List Int)} (h : n.length ≤ 6 ∧ ∀ k, k < n.length → (n.getD k []).length ≤ 15) : DrawnN n := ⟨Nat.le_trans h.1 (by decide), fun k hk => Nat.le_trans (h.2 k hk) (by decide)⟩
theorem info_rrQ : (Tryz.prog.info? 67).map (fun i => (i.zero, i.size, i.bytes)) = some (some (.agg #[.slice none 0 0, .int .i64 0, .int .i64 0, .int .i64 0, .slice none 0 0, .slice none 0 0, .slice none 0 0]), 7, 120) := by kernel_rfl

set_option maxHeartbeats 4000000 in
set_option maxRecDepth 100000 in
theorem l3ownAll_has {v : Value} {rs : List Rec} {w : World} (h : HasRs w v rs) (hsh : ∀ i, i < rs.length → ShortR (rs.getD i recZ)) (hl : rs.length ≤ 1000) :
  Calls Tryz.prog 74 #[v] w fun e w' => ∃ u, e = .returned u ∧ RowQ w.heap.size 67 56 5 3 w' u rs ∧ Below w.heap.size w w' := by
 obtain ⟨a, cap, rfl, _⟩ := h.form
 have H := UC h
 have HS := UC hsh
 clear h hsh
 generalize hn : rs.length = m at *
 have HN := UC hn
 clear hn
 go_enter Tryz.func74, Tryz.ntmps74
 go_wp2
 go_loopw [3, 4] (fun o i wr => ∃ k : Nat, k ≤ m ∧ i = .int .i64 k ∧ RowQ w.heap.size 67 56 5 3 wr o (rs.take k) ∧ Below w.heap.size w wr) (fun _ i _ => m - (intOf i).toNat)
 case atStart => exact ⟨0, Nat.zero_le _, rfl, by simpa using RowQ.nil _ _ _ _ _ _, Below.refl _ _⟩
 case round =>
  obtain ⟨k, hk, rfl, ho, hb⟩ := hrel
  by_cases hlt : k < m
  ·obtain ⟨b, off, na, nc, ta, tc, xa, xc, ia, ic, rfl, hbl, hc, hR⟩ := ((UB H).below hb).here (k := k) (by rw [UB HN]; exact hlt)
   have hsk := UB HS k hlt
   have htk := UC (show rs.take (k + 1) = rs.take k ++ [rs.getD k recZ] by rw [List.take_succ_eq_append_getElem (by rw [UB HN]; exact hlt)]; simp [show k < rs.length by rw [UB HN]; exact hlt])
   have htl : (rs.take k).length = k := by rw [List.length_take, UB HN]; omega
   obtain ⟨c0, c1, c2, c3, c4, c5, c6⟩ := VH hc
   generalize rs.getD k recZ = r at *
   generalize rs.take k = rk at *
   obtain ⟨oa, oc, hv, _⟩ := ho.form
   rw [htl] at hv
   subst hv
   have HO := UC ho
   have HL := UC (l3own_has hR (drawn_of_short hsk.1) (drawn_of_short hsk.2.1) hsk.2.2.1 hsk.2.2.2)
   have zB := hb.size
   clear ho hR hsk hc
   go_wp2_with fail
   clear c0 c1 c2 c3 c4 c5 c6
   refine (UB HL).mono ?_
   rintro e w1 ⟨un, ut, ux, ui, rfl, o1, o2, o3, o4, b1⟩
   obtain ⟨pa, pc, rfl, _⟩ := o1.hasL.form
   obtain ⟨qa, qc, rfl, _⟩ := o2.hasL.form
   obtain ⟨ya, yc, rfl, _⟩ := o3.lies
   obtain ⟨za, zc, rfl, _⟩ := o4.lies
   have ba := UI (w := w1) (.cells #[.slice pa r.name.length pc, .int .i64 r.type, .int .i64 r.ttl, .int .i64 r.addr, .slice qa r.to.length qc, .slice ya r.text.length yc, .slice za r.nums.length zc] 67)
   have g1 := heap_alloc_new w1 (.cells #[.slice pa r.name.length pc, .int .i64 r.type, .int .i64 r.ttl, .int .i64 r.addr, .slice qa r.to.length qc, .slice ya r.text.length yc, .slice za r.nums.length zc] 67)
   have OQ := UC ((⟨o1.mono (by omega), o2.mono (by omega), o3.mono (by omega), o4.mono (by omega)⟩ : OwnQ w.heap.size 56 5 3 w1 (.slice pa r.name.length pc) (.slice qa r.to.length qc) (.slice ya r.text.length yc) (.slice za r.nums.length zc) r).below ba)
   have HO2 := UC (((UB HO).below b1).below ba)
   have bb := UG (UG hb b1) ba
   have z1 := b1.size
   have z2 := ba.size
   obtain ⟨xs0, hx0, hx1⟩ := UB HO2
   rw [htl] at hx0
   clear o1 o2 o3 o4 b1 ba HL HO
   go_wp2_with (at_builtin; refine append_rec' rfl _ _ 34 67 rfl Tryz.underlying34 _ info_rrQ rfl w.heap.size (.slice oa k oc) k rfl w1.heap.size [.slice pa r.name.length pc, .int .i64 r.type, .int .i64 r.ttl, .int .i64 r.addr, .slice qa r.to.length qc, .slice ya r.text.length yc, .slice za r.nums.length zc] rfl ⟨xs0, hx0⟩ g1 rfl (by simp [Value.oneCell']) (by omega) (by simp; omega) ?_)
   intro v2 w2 h2 g2 hw2
   have row2 := RowQ.snoc (by decide) (by decide) (by decide) (UB HO2) (UB OQ) g2 (by rw [htl]; exact h2)
   rw [← UB htk] at row2
   have bb2 := bb.grown g2 bb.size (fun j e => (World.ownsRow.lt hx0 j e).1)
   clear hx0 hx1 h2 g2 hw2 OQ HO2 g1 bb
   go_wp2
   exact ⟨⟨k + 1, by omega, by go_num, row2, bb2⟩, by simp [intOf]; omega⟩
  ·obtain rfl : k = m := by omega
   have hall : rs.take k = rs := List.take_of_length_le (by rw [UB HN]; exact Nat.le_refl _)
   rw [hall] at ho
   clear hall
   go_wp2
   go_ret
   exact ⟨_, rfl, ho, hb⟩
theorem info_SlQ : (Tryz.prog.info? 71).map (fun i => (i.zero, i.size, i.bytes)) = some (some (.agg #[.slice none 0 0, .int .i64 0, .int .i64 0, .slice none 0 0, .int .i64 0, .int .i64 0, .int .i64 0]), 7, 88) := by kernel_rfl

set_option maxHeartbeats 4000000 in
set_option maxRecDepth 100000 in
theorem l10own_has {v : Value} {l : List Slt} {now turn : Int} {w : World} (h : HasSs w v l) (h8 : l.length ≤ 8) (hsh : ∀ j, j < l.length → ShortS (l.getD j VK)) :
  Calls Tryz.prog 30 #[.agg #[.int .i64 now, .int .i64 turn, v]] w fun e w' => ∃ v', e = .returned (.agg #[.int .i64 now, .int .i64 turn, v']) ∧ RowX 7 (OwnSQ 67 56 5 3) VK w.heap.size w'.heap.size 71 w' v' l ∧ Below w.heap.size w w' := by
 obtain ⟨a, ca, rfl, hla, hma⟩ := h.form
 unfold maxLen at hma
 have HS := UC (fun k (hk : k < l.length) => (show l.take (k + 1) = l.take k ++ [l.getD k VK] by
  rw [List.take_succ_eq_append_getElem hk, List.getD_eq_getElem?_getD, List.getElem?_eq_getElem hk]; rfl))
 have HT := UC (show l.take l.length = l from List.take_length)
 have HLN := UC (fun k (hk : k ≤ l.length) => (show (l.take k).length = k by rw [List.length_take]; omega))
 have HSH := UC hsh
 generalize hmk : (fun k => l.take k) = M at *
 have HM := UC (fun k => congrFun hmk k)
 generalize hn : l.length = n at *
 have HN := UC hn
 have H := UC h
 clear hn h hmk hsh
 obtain ⟨hsz, r0, v0⟩ := box3 w (.cells #[.int .i64 now, .int .i64 turn, .slice a n ca] 30) #[.int .i64 0, .int .i64 0, .slice none 0 0] #[.int .i64 now, .int .i64 turn, .slice none 0 0] 30 30
 have b0 : Below w.heap.size w (((w.alloc (.cells #[.int .i64 now, .int .i64 turn, .slice a n ca] 30)).alloc (.cells #[.int .i64 0, .int .i64 0, .slice none 0 0] 30)).alloc (.cells #[.int .i64 now, .int .i64 turn, .slice none 0 0] 30)) := ((UI _).alloc (UI _).size _).alloc ((UI _).alloc (UI _).size _).size _
 have k0 : (((w.alloc (.cells #[.int .i64 now, .int .i64 turn, .slice a n ca] 30)).alloc (.cells #[.int .i64 0, .int .i64 0, .slice none 0 0] 30)).alloc (.cells #[.int .i64 now, .int .i64 turn, .slice none 0 0] 30)).heap[w.heap.size]? = some (.cells #[.int .i64 now, .int .i64 turn, .slice a n ca] 30) := UE (UI _) (UE (UI _) (heap_alloc_new w _))
 have hszu : w.heap.size + 3 ≤ (((w.alloc (.cells #[.int .i64 now, .int .i64 turn, .slice a n ca] 30)).alloc (.cells #[.int .i64 0, .int .i64 0, .slice none 0 0] 30)).alloc (.cells #[.int .i64 now, .int .i64 turn, .slice none 0 0] 30)).heap.size := by rw [hsz]; exact Nat.le_refl _
 clear hsz
 obtain ⟨d0, d1, d2⟩ := UL (heap_alloc_new w (.cells #[.int .i64 now, .int .i64 turn, .slice a n ca] 30))
 obtain ⟨x0, x1, x2⟩ := UL (UE (UI (w := w.alloc (.cells #[.int .i64 now, .int .i64 turn, .slice a n ca] 30)) (.cells #[.int .i64 0, .int .i64 0, .slice none 0 0] 30)) (heap_alloc_new w (.cells #[.int .i64 now, .int .i64 turn, .slice a n ca] 30)))
 go_enter Tryz.func30, Tryz.ntmps30
 go_wp2_with fail
 clear d0 d1 d2 x0 x1 x2
 generalize ((w.alloc (.cells #[.int .i64 now, .int .i64 turn, .slice a n ca] 30)).alloc (.cells #[.int .i64 0, .int .i64 0, .slice none 0 0] 30)).alloc (.cells #[.int .i64 now, .int .i64 turn, .slice none 0 0] 30) = W at *
 go_loopw [4] (fun i wr => ∃ (k : Nat) (o : Value), k ≤ n ∧ i = .int .i64 k ∧ wr.heap[w.heap.size]? = some (.cells #[.int .i64 now, .int .i64 turn, .slice a n ca] 30) ∧ wr.heap[w.heap.size + 1]? = some (.cells #[.int .i64 0, .int .i64 0, .slice none 0 0] 30) ∧ wr.heap[w.heap.size + 1 + 1]? = some (.cells #[.int .i64 now, .int .i64 turn, o] 30) ∧ RowX 7 (OwnSQ 67 56 5 3) VK (w.heap.size + 3) wr.heap.size 71 wr (o) (M k) ∧ Below w.heap.size w wr) (fun i _ => n - (intOf i).toNat)
 case atStart => exact ⟨0, .slice none 0 0, Nat.zero_le _, rfl, k0, r0, v0, by rw [← UB HM]; exact RowX.nil _, b0⟩
 case round =>
  clear k0 r0 v0
  obtain ⟨k, o, hk, rfl, kc, ks, ko, hr, hb⟩ := hrel
  have HR := UC (VF (UB H) hb)
  obtain ⟨va, vc, rfl, _⟩ := hr.form
  by_cases hlt : k < n
  ·obtain ⟨b, off, vs, rfl, hbl, hc, vn, vr, rfl, hu⟩ := (UB HR).here (k := k) (by rw [UB HN]; exact hlt)
   obtain ⟨na, nc, rfl, _⟩ := hu.name.form
   obtain ⟨ra, rc, rfl, _⟩ := hu.rrs.form
   have hst := UB HS k hlt
   rw [UB HM, UB HM] at hst
   have hln := UB HLN k hk
   rw [UB HM] at hln
   have HSHK := UC (UB HSH k hlt)
   have hki : (k : Int) < n := by omega
   generalize l.getD k VK = rk at *
   have HMS := UC hst
   rw [hln] at hr ko
   have HLEN := UC hln
   obtain ⟨c0, c1, c2, c3, c4, c5, c6⟩ := VH hc
   have KC := UC kc
   have KS := UC ks
   have KO := UC ko
   have RO := UC hr
   have HU := UC hu
   have zo := VC ko
   have ba := UI (w := wr) (.cells #[.slice na rk.name.length nc, .int .i64 rk.type, .int .i64 rk.kind, .slice ra rk.rrs.length rc, .int .i64 rk.rank, .int .i64 rk.till, .int .i64 rk.used] 71)
   have K1 := UC (heap_alloc_new wr (.cells #[.slice na rk.name.length nc, .int .i64 rk.type, .int .i64 rk.kind, .slice ra rk.rrs.length rc, .int .i64 rk.rank, .int .i64 rk.till, .int .i64 rk.used] 71))
   have zA := ba.size
   have zAu : wr.heap.size < (wr.alloc (.cells #[.slice na rk.name.length nc, .int .i64 rk.type, .int .i64 rk.kind, .slice ra rk.rrs.length rc, .int .i64 rk.rank, .int .i64 rk.till, .int .i64 rk.used] 71)).heap.size := VC (UB K1)
   have CN := UC (l2own_has (hu.name.below ba) (UB HSHK).1.1 (UB HSHK).1.2)
   have bb := UG hb ba
   obtain ⟨d0, d1, d2⟩ := UL kc
   obtain ⟨x0, x1, x2⟩ := UL (UE ba kc)
   obtain ⟨s0, s1, s2, s3, s4, s5, s6⟩ := UJ (UB K1)
   clear hst hln hc hu hr HR kc ks ko
   go_wp2_with fail
   clear c0 s0 c1 s1 c2 s2 c3 s3 c4 s4 c5 s5 c6 s6 d0 d1 d2 x0 x1 x2
   generalize hWA : wr.alloc (.cells #[.slice na rk.name.length nc, .int .i64 rk.type, .int .i64 rk.kind, .slice ra rk.rrs.length rc, .int .i64 rk.rank, .int .i64 rk.till, .int .i64 rk.used] 71) = WA at *
   clear hWA
   refine (UB CN).mono ?_
   rintro e w5 ⟨v5, rfl, o5, b5⟩
   obtain ⟨na5, nc5, rfl, _⟩ := o5.hasL.form
   have K15 := UC (UE b5 (UB K1))
   have KC5 := UC (UE b5 (UE ba (UB KC)))
   have KS5 := UC (UE b5 (UE ba (UB KS)))
   have KO5 := UC (UE b5 (UE ba (UB KO)))
   have RO5 := UC (RowX.below (ownsSQ 67 56 5 3) (RowX.below (ownsSQ 67 56 5 3) (UB RO) ba) b5)
   have ab := UG ba b5
   have bb5 := UG bb b5
   have z5 := b5.size
   have O5 := UC o5
   clear o5 b5 K1 KC KS KO RO CN bb ba
   have u6 := UT w5 wr.heap.size 0 (.slice na5 rk.name.length nc5)
   have K16 : Hid ((w5.setCell ⟨wr.heap.size, 0, none⟩ (.slice na5 rk.name.length nc5)).heap[wr.heap.size]? = some (.cells #[.slice na5 rk.name.length nc5, .int .i64 rk.type, .int .i64 rk.kind, .slice ra rk.rrs.length rc, .int .i64 rk.rank, .int .i64 rk.till, .int .i64 rk.used] 71)) := UV (UB K15) 0 _
   have ab6 := u6.below ab (Nat.le_refl _)
   have bb6 := u6.below bb5 (by omega)
   obtain ⟨s0, s1, s2, s3, s4, s5, s6⟩ := UJ (UB K15)
   obtain ⟨f0, f1, f2, f3, f4, f5, f6⟩ := VI (UB K15)
   obtain ⟨t0, t1, t2, t3, t4, t5, t6⟩ := UJ (UB K16)
   go_wp2_with fail
   clear s0 f0 t0 s1 f1 t1 s2 f2 t2 s3 f3 t3 s4 f4 t4 s5 f5 t5 s6 f6 t6
   have KC6 := UC (u6.kept (UB KC5) (by omega))
   have KS6 := UC (u6.kept (UB KS5) (by omega))
   have KO6 := UC (u6.kept (UB KO5) (by omega))
   have RO6 := UC (RowX.outside (ownsSQ 67 56 5 3) (UB RO5) u6 (.inl (Nat.le_refl _)))
   have O6 := UC (OwnL.after (UB O5) (u6.wide (B' := 0) (E' := WA.heap.size) (by omega) (by omega)))
   have z6 := u6.size
   generalize w5.setCell ⟨wr.heap.size, 0, none⟩ (.slice na5 rk.name.length nc5) = w6 at *
   clear u6 KC5 KS5 KO5 RO5 O5 K15 ab bb5
   refine (l3ownAll_has ((UB HU).below ab6).rrs (UB HSHK).2.2 (by have := (UB HSHK).2.1; omega)).mono ?_
   rintro e w7 ⟨v7, rfl, o7, b7⟩
   obtain ⟨ra6, rc6, rfl, _⟩ := o7.form
   have K17 := UC (UE b7 (UB K16))
   have z7 := b7.size
   have u8 := UT w7 wr.heap.size 3 (.slice ra6 rk.rrs.length rc6)
   have K18 : Hid ((w7.setCell ⟨wr.heap.size, 3, none⟩ (.slice ra6 rk.rrs.length rc6)).heap[wr.heap.size]? = some (.cells #[.slice na5 rk.name.length nc5, .int .i64 rk.type, .int .i64 rk.kind, .slice ra6 rk.rrs.length rc6, .int .i64 rk.rank, .int .i64 rk.till, .int .i64 rk.used] 71)) := UV (UB K17) 3 _
   have KC8 := UC (u8.kept (UE b7 (UB KC6)) (by omega))
   have KS8 := UC (u8.kept (UE b7 (UB KS6)) (by omega))
   have KO8 := UC (u8.kept (UE b7 (UB KO6)) (by omega))
   have RO8 := UC (RowX.outside (ownsSQ 67 56 5 3) (RowX.below (ownsSQ 67 56 5 3) (UB RO6) b7) u8 (.inl (Nat.le_refl _)))
   have uw := u8.wide (B' := 0) (E' := WA.heap.size) (by omega) (by omega)
   have O8 := UC (OwnL.after (OwnL.below (UB O6) b7) uw)
   have Q8 := UC (RowQ.after (RowQ.mono (B' := WA.heap.size) o7 (by omega)) uw)
   have z8 := u8.size
   have bb8 := u8.below (UG bb6 b7) (by omega)
   obtain ⟨s0, s1, s2, s3, s4, s5, s6⟩ := UJ (UB K17)
   obtain ⟨f0, f1, f2, f3, f4, f5, f6⟩ := VI (UB K17)
   obtain ⟨t0, t1, t2, t3, t4, t5, t6⟩ := UJ (UB K18)
   obtain ⟨o0, o1, o2⟩ := UL (UB KO8)
   generalize hw8 : w7.setCell ⟨wr.heap.size, 3, none⟩ (.slice ra6 rk.rrs.length rc6) = w8 at *
   have b9 := UI (w := w8) (.cells #[.slice na5 rk.name.length nc5, .int .i64 rk.type, .int .i64 rk.kind, .slice ra6 rk.rrs.length rc6, .int .i64 rk.rank, .int .i64 rk.till, .int .i64 rk.used] 71)
   have G9 := UC (heap_alloc_new w8 (.cells #[.slice na5 rk.name.length nc5, .int .i64 rk.type, .int .i64 rk.kind, .slice ra6 rk.rrs.length rc6, .int .i64 rk.rank, .int .i64 rk.till, .int .i64 rk.used] 71))
   have RO9 := UC (RowX.below (ownsSQ 67 56 5 3) (UB RO8) b9)
   have z9 := b9.size
   obtain ⟨cs0, f00, g00, hx0, _⟩ := UB RO9
   rw [UB HLEN] at hx0
   have bb9 := UG bb8 b9
   have KC9 := UC (UE b9 (UB KC8))
   have KS9 := UC (UE b9 (UB KS8))
   have KO9 := UC (UE b9 (UB KO8))
   have OS9 := UC (show OwnSQ 67 56 5 3 WA.heap.size w8.heap.size (w8.alloc (.cells #[.slice na5 rk.name.length nc5, .int .i64 rk.type, .int .i64 rk.kind, .slice ra6 rk.rrs.length rc6, .int .i64 rk.rank, .int .i64 rk.till, .int .i64 rk.used] 71)) [.slice na5 rk.name.length nc5, .int .i64 rk.type, .int .i64 rk.kind, .slice ra6 rk.rrs.length rc6, .int .i64 rk.rank, .int .i64 rk.till, .int .i64 rk.used] rk from ⟨_, _, rfl, WA.heap.size, w8, Nat.le_refl _, Nat.le_refl _, ⟨b9.os, b9.tape, b9.output, b9.size, fun k hk _ => b9.block k hk⟩, UB O8, UB Q8⟩)
   clear b7 u8 uw o7 b9 KC6 KS6 KO6 RO6 O6 K16 K17 K18 KC8 KS8 KO8 RO8 O8 Q8 bb6 bb8
   go_wp2_with (at_builtin; refine append_oneX rfl _ _ 28 71 rfl Tryz.underlying28 _ 7 88 (by omega) (by omega) info_SlQ rfl (w.heap.size + 3) (.slice va k vc) k rfl w8.heap.size [.slice na5 rk.name.length nc5, .int .i64 rk.type, .int .i64 rk.kind, .slice ra6 rk.rrs.length rc6, .int .i64 rk.rank, .int .i64 rk.till, .int .i64 rk.used] rfl ⟨cs0, hx0⟩ (UB G9) rfl (by simp [Value.oneCell']) (by omega) (by omega) ?_)
   intro v8 w9 h8 g8 hw8'
   have row8 := RowX.snoc (ownsSQ 67 56 5 3) (x := rk) (us := [.slice na5 rk.name.length nc5, .int .i64 rk.type, .int .i64 rk.kind, .slice ra6 rk.rrs.length rc6, .int .i64 rk.rank, .int .i64 rk.till, .int .i64 rk.used]) (UB RO9) (C := WA.heap.size) (D := w8.heap.size) (by omega) (by omega) (by omega) (UB OS9) (by omega) g8 (by rw [World.size_alloc]; exact hw8') (by rw [UB HLEN]; exact h8)
   have hown : ∀ j, (Value.slice va k vc).ownBlock = some j → w.heap.size + 3 ≤ j := fun j e => (World.ownsRow.lt hx0 j e).1
   have KC10 : Hid (w9.heap[w.heap.size]? = some (.cells #[.int .i64 now, .int .i64 turn, .slice (some ⟨b, off, none⟩) n ca] 30)) := (g8.block _ (by omega) (fun e => by have := hown _ e.symm; omega)).trans (UB KC9)
   have KS10 : Hid (w9.heap[w.heap.size + 1]? = some (.cells #[.int .i64 0, .int .i64 0, .slice none 0 0] 30)) := (g8.block _ (by omega) (fun e => by have := hown _ e.symm; omega)).trans (UB KS9)
   have KO10 : Hid (w9.heap[w.heap.size + 1 + 1]? = some (.cells #[.int .i64 now, .int .i64 turn, .slice va k vc] 30)) := (g8.block _ (by omega) (fun e => by have := hown _ e.symm; omega)).trans (UB KO9)
   have bb10 := below_grow bb9 g8 (fun j e => by have := hown j e; omega)
   have z10 := g8.size
   rw [← UB HMS] at row8
   obtain ⟨va8, vc8, rfl, _⟩ := row8.form
   have ROW8 := UC row8
   have u11 := UT w9 (w.heap.size + 1 + 1) 2 (.slice va8 (M (k + 1)).length vc8)
   have KO11 : Hid ((w9.setCell ⟨w.heap.size + 1 + 1, 2, none⟩ (.slice va8 (M (k + 1)).length vc8)).heap[w.heap.size + 1 + 1]? = some (.cells #[.int .i64 now, .int .i64 turn, .slice va8 (M (k + 1)).length vc8] 30)) := UV (UB KO10) 2 _
   have KC11 := UC (u11.kept (UB KC10) (by omega))
   have KS11 := UC (u11.kept (UB KS10) (by omega))
   have RO11 := UC (RowX.wide (RowX.outside (ownsSQ 67 56 5 3) (UB ROW8) u11 (.inr (by omega))) (Nat.le_refl _) u11.size)
   have bb11 := u11.below bb10 (by omega)
   obtain ⟨o0, o1, o2⟩ := UL (UB KO10)
   obtain ⟨f0, f1, f2⟩ := frozen3 (UB KO10)
   clear hx0 h8 g8 hw8' row8 hown RO9 OS9 G9 KC9 KS9 KO9 KC10 KS10 ROW8 u11 bb9 bb10
   go_wp2_with fail
   exact ⟨⟨k + 1, _, by omega, by go_num, UB KC11, UB KS11, UB KO11, UB RO11, bb11⟩, by simp [intOf]; omega⟩
  ·obtain rfl : k = n := by omega
   obtain ⟨d0, d1, d2⟩ := UL kc
   obtain ⟨o0, o1, o2⟩ := UL ko
   obtain ⟨g0, g1, g2⟩ := UL ks
   obtain ⟨f0, f1, f2⟩ := frozen3 ks
   have kf : (((wr.setCell ⟨w.heap.size + 1, 0, none⟩ (.int .i64 now)).setCell ⟨w.heap.size + 1, 1, none⟩ (.int .i64 turn)).setCell ⟨w.heap.size + 1, 2, none⟩ (.slice va (M k).length vc)).heap[w.heap.size + 1]? = some (.cells #[.int .i64 now, .int .i64 turn, .slice va (M k).length vc] 30) := UV (UV (UV ks 0 _) 1 _) 2 _
   have u5 := ((UT wr (w.heap.size + 1) 0 (.int .i64 now)).trans (UT _ (w.heap.size + 1) 1 (.int .i64 turn))).trans (UT _ (w.heap.size + 1) 2 (.slice va (M k).length vc))
   have RO := RowX.outside (ownsSQ 67 56 5 3) hr u5 (.inr (by omega))
   have bb := u5.below hb (by omega)
   have hMl : M k = l := by rw [← UB HM]; exact UB HT
   have HMl := UC hMl
   clear hMl
   have RH := UC (RowX.wide (B' := w.heap.size) (E' := _) RO (by omega) u5.size)
   have zz := VC ko
   clear hr hb u5 ko kc HR RO
   go_wp2_with fail
   refine bodyPost_ret (results_cell_row rfl _ _ (w.heap.size + 1) 30 #[.int .i64 now, .int .i64 turn, .slice va (M k).length vc] (0, 0) _ rfl kf Tryz.underlying30 rfl (by kernel_rfl)) rfl ?_
   exact ⟨_, rfl, by rw [show l = M k from (UB HMl).symm]; exact UB RH, bb⟩
end Go.Proofs.YtaehfeobfkaicaaGreat
