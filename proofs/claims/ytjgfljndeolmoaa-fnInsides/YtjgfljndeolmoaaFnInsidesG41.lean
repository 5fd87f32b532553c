/-
  Contract of the laws' tasks. Contract of the program's Inside.
-/
import Derived.Test.YtjgfljndeolmoaaFnInsidesG36
import Derived.Test.YtjgfljndeolmoaaFnInsidesG39
import Derived.Test.YtjgfljndeolmoaaFnInsidesG40
import Derived.Test.YtjgfljndeolmoaaFnInsidesG37
import Derived.Test.YtjgfljndeolmoaaFnInsidesG33
import Derived.Test.YtjgfljndeolmoaaFnInsidesG07
import Derived.Test.YtjgfljndeolmoaaFnInsidesG26
import Derived.Test.YtjgfljndeolmoaaFnInsidesG30
import Derived.Test.YtjgfljndeolmoaaFnInsidesG25
import Derived.Test.YtjgfljndeolmoaaFnInsidesG09
import Derived.Deep.RegionHeld3
namespace Go.Proofs.Ytjgfljndeolmoaa
open Go.RowKit
set_option linter.unusedVariables false

theorem tasks_name : (nameRead (numsOf { data := #[97, 46] })).1 = [[97]] := by decide +kernel
theorem tasks_beg : begB ⟨[[97]], 1⟩ [1] 5 = true := by decide +kernel
theorem tasks_ask : askT (begTk ⟨[[97]], 1⟩ [1] 5) = true := by decide +kernel

set_option maxHeartbeats 4000000 in
set_option maxRecDepth 100000 in
theorem tasks_any (w : World) : Calls Try.prog 9 #[] w fun e w' => e = .returned (.bool true) ∧ Below w.heap.size w w' := by
 have NM := fun (w : World) => name_any { data := #[97, 46] } w (by decide)
 rw [tasks_name] at NM
 replace NM := hide NM
 have BG := fun (w : World) (v vh : Value) (h : HasL w v [[97]]) (hh : HasI w vh [1]) => implBegin_own (q := ⟨[[97]], 1⟩) (hs := [1]) 5 h hh (by decide)
 have eT : begT ⟨[[97]], 1⟩ [1] 5 = begTk ⟨[[97]], 1⟩ [1] 5 := by unfold begT; rw [tasks_beg]; rfl
 rw [tasks_beg, eT] at BG
 simp only [begTk] at BG
 replace BG := hide BG
 have AS := fun (w : World) (vf vn vz vh vr va : Value) (h : HasTk w vf vn vz vh vr va (begTk ⟨[[97]], 1⟩ [1] 5)) => implAskOf_own h (by decide) (by decide)
 have eI : askI (begTk ⟨[[97]], 1⟩ [1] 5) = 1 := by unfold askI; rw [tasks_ask]; rfl
 have eR : askR (begTk ⟨[[97]], 1⟩ [1] 5) = askM (begTk ⟨[[97]], 1⟩ [1] 5) := by unfold askR; rw [tasks_ask]; rfl
 rw [eI, eR, tasks_ask] at AS
 simp only [begTk, askM] at AS
 replace AS := hide AS
 have SM := fun (w : World) (v v' : Value) (h : HasL w v [[97]]) (h' : HasL w v' [[97]]) => sameName_has h h'
 rw [decide_eq_true rfl] at SM
 replace SM := hide SM
 clear eT eI eR
 go_enter Try.func9, Try.ntmps9
 go_wp2_with fail
 refine (unhide NM _).mono ?_
 rintro e w1 ⟨v1, rfl, o1, b1⟩
 obtain ⟨x1, y1, rfl⟩ : ∃ a c, v1 = .slice a 1 c := by obtain ⟨a, c, e, _⟩ := o1.hasL.form; exact ⟨a, c, e⟩
 have b2 := below_alloc (w := w1) (.cells #[.int .i64 1] 3)
 have k2 := heap_alloc_new w1 (.cells #[.int .i64 1] 3)
 have HI : HasI (w1.alloc (.cells #[.int .i64 1] 3)) (.slice (some ⟨w1.heap.size, 0, none⟩) 1 1) [1] := .inr ⟨w1.heap.size, 0, 1, rfl, block_lt k2, Nat.le_refl _, by decide, fun i hi => by
  obtain rfl : i = 0 := by simp at hi; omega
  exact block_one k2⟩
 have HI2 := hide HI
 have O1 := hide (o1.hasL.below b2)
 have bb := below_next b1 b2
 clear o1 b1 b2 k2 HI
 go_wp2_with fail
 refine (unhide BG _ _ _ (unhide O1) (unhide HI2)).mono ?_
 rintro e w3 ⟨vf, vn, vz, vh, vr, va, rfl, o3, b3⟩
 obtain ⟨xf, yf, rfl⟩ : ∃ a c, vf = .slice a 1 c := by obtain ⟨a, c, e, _⟩ := o3.has.fst.form; exact ⟨a, c, e⟩
 obtain ⟨xn, yn, rfl⟩ : ∃ a c, vn = .slice a 1 c := by obtain ⟨a, c, e, _⟩ := o3.has.name.form; exact ⟨a, c, e⟩
 obtain ⟨xz, yz, rfl⟩ : ∃ a c, vz = .slice a 0 c := by obtain ⟨a, c, e, _⟩ := o3.has.zone.form; exact ⟨a, c, e⟩
 obtain ⟨xh, yh, rfl⟩ : ∃ a c, vh = .slice a 1 c := by obtain ⟨a, c, e, _⟩ := o3.has.hints.form; exact ⟨a, c, e⟩
 obtain ⟨xr, yr, rfl⟩ : ∃ a c, vr = .slice a 1 c := by obtain ⟨a, c, e, _⟩ := o3.has.servers.form; exact ⟨a, c, e⟩
 obtain ⟨xa, ya, rfl⟩ : ∃ a c, va = .slice a 0 c := by obtain ⟨a, c, e, _⟩ := o3.has.ans.form; exact ⟨a, c, e⟩
 replace bb := below_next bb b3
 have b4 := below_alloc (w := w3) (.cells #[.int .i64 0, .int .i64 5, .slice xf 1 yf, .int .i64 1, .slice xn 1 yn, .slice xz 0 yz, .slice xh 1 yh, .slice xr 1 yr, .int .i64 0, .int .i64 0, .int .i64 0, .int .i64 0, .slice xa 0 ya] 48)
 have K4 := heap_alloc_new w3 (.cells #[.int .i64 0, .int .i64 5, .slice xf 1 yf, .int .i64 1, .slice xn 1 yn, .slice xz 0 yz, .slice xh 1 yh, .slice xr 1 yr, .int .i64 0, .int .i64 0, .int .i64 0, .int .i64 0, .slice xa 0 ya] 48)
 have O3 := hide (o3.has.below b4)
 obtain ⟨d0, d1, d2, d3, d4, d5, d6, d7, d8, d9, d10, d11, d12⟩ := cells13 K4
 clear o3 b3 O1 HI2 K4
 go_wp2_with fail
 clear d0 d1 d2 d3 d4 d5 d6 d7 d8 d9 d10 d11 d12
 replace bb := below_next bb b4
 clear b4
 generalize w3.alloc (.cells #[.int .i64 0, .int .i64 5, .slice xf 1 yf, .int .i64 1, .slice xn 1 yn, .slice xz 0 yz, .slice xh 1 yh, .slice xr 1 yr, .int .i64 0, .int .i64 0, .int .i64 0, .int .i64 0, .slice xa 0 ya] 48) = w4 at *
 refine (unhide AS _ _ _ _ _ _ _ (unhide O3)).mono ?_
 rintro e w5 ⟨kq, ka, kb, km, kp, ku, rfl, o5, b5⟩
 obtain ⟨ua, va, rfl⟩ : ∃ a c, ka = .slice a 0 c := by obtain ⟨a, c, e, _⟩ := o5.has.ans.form; exact ⟨a, c, e⟩
 obtain ⟨ub, vb, rfl⟩ : ∃ a c, kb = .slice a 0 c := by obtain ⟨a, c, e, _⟩ := o5.has.aus.form; exact ⟨a, c, e⟩
 obtain ⟨um, vm, rfl⟩ : ∃ a c, km = .slice a 0 c := by obtain ⟨a, c, e, _⟩ := o5.has.more.form; exact ⟨a, c, e⟩
 obtain ⟨up, vp, rfl⟩ : ∃ a c, kp = .slice a 0 c := by obtain ⟨a, c, e, _⟩ := o5.has.pres.form; exact ⟨a, c, e⟩
 obtain ⟨uu, vu, rfl⟩ : ∃ a c, ku = .slice a 0 c := by obtain ⟨a, c, e, _⟩ := o5.has.ups.form; exact ⟨a, c, e⟩
 obtain ⟨qb, qo, qc, rfl, hqbl, vn2, hqc, hqn⟩ : ∃ b off c, kq = .slice (some ⟨b, off, none⟩) 1 c ∧ b < w5.heap.size ∧ ∃ v, w5.rangeAt b off [v, .int .i64 1] ∧ HasL w5 v [[97]] := by
  obtain ⟨xq, yq, rfl, _⟩ := o5.has.qs.form
  obtain ⟨b, off, vs, rfl, h1, h2, v, rfl, h3⟩ := o5.has.qs.here (k := 0) (by decide)
  simp only [Nat.zero_mul, Nat.add_zero] at h2
  exact ⟨b, off, _, rfl, h1, v, h2, h3⟩
 obtain ⟨na, nc, rfl⟩ : ∃ a c, vn2 = .slice a 1 c := by obtain ⟨a, c, e, _⟩ := hqn.form; exact ⟨a, c, e⟩
 replace bb := below_next bb b5
 have b6 := below_alloc (w := w5) (.cells #[.int .i64 5, .bool false, .int .i64 0, .bool false, .int .i64 0, .slice (some ⟨qb, qo, none⟩) 1 qc, .slice ua 0 va, .slice ub 0 vb, .slice um 0 vm, .slice up 0 vp, .slice uu 0 vu] 85)
 have K6 := heap_alloc_new w5 (.cells #[.int .i64 5, .bool false, .int .i64 0, .bool false, .int .i64 0, .slice (some ⟨qb, qo, none⟩) 1 qc, .slice ua 0 va, .slice ub 0 vb, .slice um 0 vm, .slice up 0 vp, .slice uu 0 vu] 85)
 have bd := below_next b6 (below_drew (w := w5.alloc (.cells #[.int .i64 5, .bool false, .int .i64 0, .bool false, .int .i64 0, .slice (some ⟨qb, qo, none⟩) 1 qc, .slice ua 0 va, .slice ub 0 vb, .slice um 0 vm, .slice up 0 vp, .slice uu 0 vu] 85)))
 have KD := hide (block_kept (below_drew (w := w5.alloc (.cells #[.int .i64 5, .bool false, .int .i64 0, .bool false, .int .i64 0, .slice (some ⟨qb, qo, none⟩) 1 qc, .slice ua 0 va, .slice ub 0 vb, .slice um 0 vm, .slice up 0 vp, .slice uu 0 vu] 85))) K6)
 have QD := hide (range_below hqc hqbl bd)
 have ND := hide (hqn.below bd)
 have zq : qb < (w5.alloc (.cells #[.int .i64 5, .bool false, .int .i64 0, .bool false, .int .i64 0, .slice (some ⟨qb, qo, none⟩) 1 qc, .slice ua 0 va, .slice ub 0 vb, .slice um 0 vm, .slice up 0 vp, .slice uu 0 vu] 85)).drew.heap.size := Nat.lt_of_lt_of_le hqbl bd.size
 replace bb := below_next bb bd
 clear o5 b5 hqc hqn O3 K6 bd b6
 go_wp2_with fail
 refine startF 23 (S := (fun w' => (w'.cell? ⟨w5.heap.size, 0, none⟩ = some (.int .i64 5) ∧ w'.cell? ⟨w5.heap.size, 1, none⟩ = some (.bool false) ∧ w'.cell? ⟨w5.heap.size, 2, none⟩ = some (.int .i64 0) ∧ w'.cell? ⟨w5.heap.size, 3, none⟩ = some (.bool false) ∧ w'.cell? ⟨w5.heap.size, 4, none⟩ = some (.int .i64 0) ∧ w'.cell? ⟨w5.heap.size, 5, none⟩ = some (.slice (some ⟨qb, qo, none⟩) 1 qc) ∧ w'.cell? ⟨w5.heap.size, 6, none⟩ = some (.slice ua 0 va) ∧ w'.cell? ⟨w5.heap.size, 7, none⟩ = some (.slice ub 0 vb) ∧ w'.cell? ⟨w5.heap.size, 8, none⟩ = some (.slice um 0 vm) ∧ w'.cell? ⟨w5.heap.size, 9, none⟩ = some (.slice up 0 vp) ∧ w'.cell? ⟨w5.heap.size, 10, none⟩ = some (.slice uu 0 vu)) ∧ (w'.cell? ⟨qb, qo, none⟩ = some (.slice na 1 nc) ∧ w'.cell? ⟨qb, qo + 1, none⟩ = some (.int .i64 1)))) (by kernel_rfl) rfl ⟨cells11 (unhide KD), range2 (unhide QD)⟩ (fun hHeld => ?_)
 simp only [List.replicate]
 generalize (w5.alloc (.cells #[.int .i64 5, .bool false, .int .i64 0, .bool false, .int .i64 0, .slice (some ⟨qb, qo, none⟩) 1 qc, .slice ua 0 va, .slice ub 0 vb, .slice um 0 vm, .slice up 0 vp, .slice uu 0 vu] 85)).drew = V at *
 repeat ((first | (refine tkF ?_ rfl (by kernel_rfl) (by rfl) (fun _ _ _ h => h) ?_ hHeld ?_; rotate_left; · (intro w hSw; (try dsimp only at hSw); go_simp <;> with_reducible rfl)) | refine skF rfl (by kernel_rfl) (by rfl) (fun _ _ _ h => h) hHeld ?_); simp only [Act.put, setF, List.setIfInBounds_toArray, List.set_cons_zero, List.set_cons_succ])
 refine runI 19 rfl (by kernel_rfl) (by kernel_rfl) (fun K hK => ?_)
 have HK := hide hK
 clear hK hHeld
 go_simp
 refine (unhide NM _).mono ?_
 rintro e w7 ⟨v7, rfl, o7, b7⟩
 obtain ⟨x7, y7, rfl⟩ : ∃ a c, v7 = .slice a 1 c := by obtain ⟨a, c, e, _⟩ := o7.hasL.form; exact ⟨a, c, e⟩
 refine (unhide HK).out _ _ ⟨cells11 (block_kept b7 (unhide KD)), range2 (range_below (unhide QD) zq b7)⟩ (fun hHeld => ?_)
 clear HK K
 simp only [List.setIfInBounds_toArray, List.set_cons_zero, List.set_cons_succ]
 refine runI 20 rfl (by kernel_rfl) (by kernel_rfl) (fun K hK => ?_)
 have HK := hide hK
 clear hK hHeld
 go_simp
 refine (unhide SM _ _ _ ((unhide ND).below b7) o7.hasL).mono ?_
 rintro e w8 ⟨rfl, b8⟩
 have q8 := below_next b7 b8
 refine (unhide HK).out _ _ ⟨cells11 (block_kept q8 (unhide KD)), range2 (range_below (unhide QD) zq q8)⟩ (fun hHeld => ?_)
 clear HK K
 simp only [List.setIfInBounds_toArray, List.set_cons_zero, List.set_cons_succ]
 repeat ((first | (refine tkF ?_ rfl (by kernel_rfl) (by rfl) (fun _ _ _ h => h) ?_ hHeld ?_; rotate_left; · (intro w hSw; (try dsimp only at hSw); go_simp <;> with_reducible rfl)) | refine skF rfl (by kernel_rfl) (by rfl) (fun _ _ _ h => h) hHeld ?_); simp only [Act.put, setF, List.setIfInBounds_toArray, List.set_cons_zero, List.set_cons_succ])
 refine wpAnyH_done (by kernel_rfl) ?_ _
 clear hHeld
 replace bb := below_next bb q8
 go_wp2_with fail
 go_ret
 exact ⟨rfl, bb⟩
end Go.Proofs.Ytjgfljndeolmoaa

namespace Go.Proofs.Ytjgfljndeolmoaa
open Go.RowKit
set_option linter.unusedVariables false

theorem info_rrI : (Try.prog.info? 34).map (fun i => (i.zero, i.size, i.bytes)) = some (some (.agg #[.slice none 0 0, .int .i64 0, .int .i64 0, .int .i64 0, .slice none 0 0, .slice none 0 0, .slice none 0 0]), 7, 120) := by kernel_rfl
set_option maxHeartbeats 4000000 in
set_option maxRecDepth 100000 in
theorem implInside_own {v u : Value} {l : List Rec} {z : List (List Int)} {w : World} (h : HasRs w v l) (hz : HasL w u z) :
  Calls Try.prog 8 #[v, .agg #[u]] w fun e w' => ∃ x, e = .returned x ∧ RowO w.heap.size w'.heap.size 34 22 5 3 w' x (insideOf l z) ∧ Below w.heap.size w w' := by
 obtain ⟨a, cap, rfl, _⟩ := h.form
 obtain ⟨za, zc, rfl, _⟩ := hz.form
 have b0 := below_alloc (w := w) (.cells #[.slice za z.length zc] 26)
 have KZ := hide (heap_alloc_new w (.cells #[.slice za z.length zc] 26))
 have HL := hide (h.below b0)
 have HZ := hide (hz.below b0)
 have zk := block_lt (unhide KZ)
 have HO := listOkRr_has (h.below b0)
 clear h hz
 generalize hres : insideOf l z = res
 unfold insideOf at hres
 go_enter Try.func8, Try.ntmps8
 cases hok : rrsOk l with
 | false =>
  rw [if_neg (fun q => by rw [hok] at q; cases q.1)] at hres
  subst hres
  rw [hok] at HO
  replace HO := hide HO
  go_wp2_with fail
  refine (unhide HO).mono ?_
  rintro e w1 ⟨rfl, b1⟩
  go_wp2_with fail
  go_ret
  exact ⟨_, rfl, RowO.nil _ _ _ _ _ _ _, below_next b0 b1⟩
 | true =>
  rw [hok] at HO
  replace HO := hide HO
  cases hnm : nameOk z with
  | false =>
   rw [if_neg (fun q => by rw [hnm] at q; cases q.2)] at hres
   subst hres
   go_wp2_with fail
   refine (unhide HO).mono ?_
   rintro e w1 ⟨rfl, b1⟩
   have HM := implNameOk_has ((unhide HZ).below b1)
   rw [hnm] at HM
   replace HM := hide HM
   have d2 := block_one (block_kept b1 (unhide KZ))
   replace b0 := below_next b0 b1
   go_wp2_with fail
   refine (unhide HM).mono ?_
   rintro e w2 ⟨rfl, b2⟩
   go_wp2_with fail
   go_ret
   exact ⟨_, rfl, RowO.nil _ _ _ _ _ _ _, below_next b0 b2⟩
  | true =>
   rw [if_pos ⟨hok, hnm⟩] at hres
   subst hres
   obtain ⟨h12, hoks⟩ := rrsOk_parts hok
   have HOK := hide hoks
   clear hoks hok
   generalize hm : l.length = m at *
   have HN := hide hm
   clear hm
   go_wp2_with fail
   generalize w.alloc (.cells #[.slice za z.length zc] 26) = W0 at *
   refine (unhide HO).mono ?_
   rintro e w1 ⟨rfl, b1⟩
   have HM := implNameOk_has ((unhide HZ).below b1)
   rw [hnm] at HM
   replace HM := hide HM
   have d2 := block_one (block_kept b1 (unhide KZ))
   replace b0 := below_next b0 b1
   replace HL := hide ((unhide HL).below b1)
   replace HZ := hide ((unhide HZ).below b1)
   replace KZ := hide (block_kept b1 (unhide KZ))
   clear b1 HO
   go_wp2_with fail
   refine (unhide HM).mono ?_
   rintro e W ⟨rfl, b2⟩
   replace b0 := below_next b0 b2
   replace HL := hide ((unhide HL).below b2)
   replace HZ := hide ((unhide HZ).below b2)
   replace KZ := hide (block_kept b2 (unhide KZ))
   have zW := block_lt (unhide KZ)
   clear b2 HM d2
   go_wp2_with fail
   go_loopw [5, 18] (fun v i wr => ∃ k : Nat, k ≤ m ∧ i = .int .i64 k ∧ RowO W.heap.size wr.heap.size 34 22 5 3 wr v (inK z l k) ∧ Below W.heap.size W wr) (fun _ i _ => m - (intOf i).toNat)
   case atStart => exact ⟨0, Nat.zero_le _, rfl, RowO.nil _ _ _ _ _ _ _, Below.refl _ _⟩
   case round =>
    obtain ⟨k, hk, rfl, hrow, hbw⟩ := hrel
    by_cases hlt : k < m
    ·have hkm : (k : Int) < m := by omega
     obtain ⟨g, off, rna, rnc, rta, rtc, rxa, rxc, ria, ric, rfl, hbl, hc, hu⟩ := ((unhide HL).below hbw).here (k := k) (by rw [unhide HN]; exact hlt)
     have hok := unhide HOK k hlt
     have hsh := short_rec hok
     have hnr := rrOk_name hok
     have HST := hide (show inK z l (k + 1) = if endsWith (l.getD k recZ).name z = true then inK z l k ++ [l.getD k recZ] else inK z l k from rfl)
     have hlen := inK_length z l k
     generalize l.getD k recZ = r at *
     obtain ⟨va, vc, rfl, _⟩ := hrow.form
     have ba := below_alloc (w := wr) (.cells #[.slice rna r.name.length rnc, .int .i64 r.type, .int .i64 r.ttl, .int .i64 r.addr, .slice rta r.to.length rtc, .slice rxa r.text.length rxc, .slice ria r.nums.length ric] 34)
     have kx := heap_alloc_new wr (.cells #[.slice rna r.name.length rnc, .int .i64 r.type, .int .i64 r.ttl, .int .i64 r.addr, .slice rta r.to.length rtc, .slice rxa r.text.length rxc, .slice ria r.nums.length ric] 34)
     have CS := implUnder_has (hu.below ba).name (((unhide HZ).below hbw).below ba)
     rw [under_in hnr hnm] at CS
     have HR := hide ((hrow.below ba).wide (Nat.le_refl _) ba.size)
     have KX := hide kx
     have HU := hide (hu.below ba)
     have bb := below_next hbw ba
     obtain ⟨c0, c1, c2, c3, c4, c5, c6⟩ := range7 hc
     obtain ⟨x0, x1, x2, x3, x4, x5, x6⟩ := cells7 kx
     have d0 := block_one (block_kept bb (unhide KZ))
     have z1 := hbw.size
     have z2 := ba.size
     clear hrow hu hc ba kx hbw hok hnr
     cases he : endsWith r.name z with
     | false =>
      rw [he] at CS
      have hst := unhide HST
      rw [he, if_neg (by simp)] at hst
      have HST2 := hide hst
      replace CS := hide CS
      clear HST hst
      go_wp2_with fail
      clear c0 c1 c2 c3 c4 c5 c6 x0 x1 x2 x3 x4 x5 x6 d0
      generalize wr.alloc (.cells #[.slice rna r.name.length rnc, .int .i64 r.type, .int .i64 r.ttl, .int .i64 r.addr, .slice rta r.to.length rtc, .slice rxa r.text.length rxc, .slice ria r.nums.length ric] 34) = W2 at *
      refine (unhide CS).mono ?_
      rintro e w2 ⟨rfl, b2⟩
      have R2 := hide (((unhide HR).below b2).wide (Nat.le_refl _) b2.size)
      have bb2 := below_next bb b2
      clear HR b2 CS
      go_wp2_with fail
      exact ⟨⟨k + 1, by omega, by go_num, by rw [unhide HST2]; exact unhide R2, bb2⟩, by simp [intOf]; omega⟩
     | true =>
      rw [he] at CS
      have hst := unhide HST
      rw [he, if_pos rfl] at hst
      have HST2 := hide hst
      replace CS := hide CS
      clear HST hst
      go_wp2_with fail
      clear c0 c1 c2 c3 c4 c5 c6 x0 x1 x2 x3 x4 x5 x6 d0
      generalize wr.alloc (.cells #[.slice rna r.name.length rnc, .int .i64 r.type, .int .i64 r.ttl, .int .i64 r.addr, .slice rta r.to.length rtc, .slice rxa r.text.length rxc, .slice ria r.nums.length ric] 34) = W2 at *
      refine (unhide CS).mono ?_
      rintro e w2 ⟨rfl, b2⟩
      have R2 := hide (((unhide HR).below b2).wide (Nat.le_refl _) b2.size)
      have bb2 := below_next bb b2
      obtain ⟨c0, c1, c2, c3, c4, c5, c6⟩ := cells7 (block_kept b2 (unhide KX))
      have HC := hide (copyRr_own ((unhide HU).below b2) hsh)
      have z3 := b2.size
      clear HR b2 CS KX HU bb
      go_wp2_with fail
      clear c0 c1 c2 c3 c4 c5 c6
      refine (unhide HC).mono ?_
      rintro e w3 ⟨un, ut, ux, ui, rfl, oR, b3⟩
      obtain ⟨una, unc, rfl, _⟩ := oR.hasR.name.form
      obtain ⟨uta, utc, rfl, _⟩ := oR.hasR.to.form
      obtain ⟨uxa, uxc, rfl, _⟩ := oR.hasR.text.form
      obtain ⟨uia, uic, rfl, _⟩ := oR.hasR.nums.form
      have b4 := below_alloc (w := w3) (.cells #[.slice una r.name.length unc, .int .i64 r.type, .int .i64 r.ttl, .int .i64 r.addr, .slice uta r.to.length utc, .slice uxa r.text.length uxc, .slice uia r.nums.length uic] 34)
      have g4 := heap_alloc_new w3 (.cells #[.slice una r.name.length unc, .int .i64 r.type, .int .i64 r.ttl, .int .i64 r.addr, .slice uta r.to.length utc, .slice uxa r.text.length uxc, .slice uia r.nums.length uic] 34)
      have row4 := ((unhide R2).below b3).below b4
      have OR4 := hide (oR.below b4)
      have bb4 := below_next (below_next bb2 b3) b4
      have z4 := b3.size
      have z5 := b4.size
      have ROW4 := hide row4
      obtain ⟨xs0, f0, g0, hx0, hq0, hh0⟩ := row4
      have zB := bb4.size
      clear oR b3 b4 HC R2 bb2 hq0 hh0
      go_wp2_with (at_builtin; refine append_rec' rfl _ _ 23 34 rfl Try.underlying23 _ info_rrI rfl W.heap.size (.slice va (inK z l k).length vc) (inK z l k).length rfl w3.heap.size [.slice una r.name.length unc, .int .i64 r.type, .int .i64 r.ttl, .int .i64 r.addr, .slice uta r.to.length utc, .slice uxa r.text.length uxc, .slice uia r.nums.length uic] rfl ⟨xs0, hx0⟩ g4 rfl (by simp [Value.oneCell']) (by omega) (by simp; omega) ?_)
      intro v5 w5 h5 g5 hw5
      have row5 := RowO.snoc (unhide ROW4) (C := w2.heap.size) (D := w3.heap.size) (by omega) z5 (unhide OR4) (by omega) g5 (by rw [World.size_alloc]; exact hw5) h5
      rw [← unhide HST2] at row5
      have bb5 := bb4.grown g5 bb4.size (fun j e => (World.ownsRow.lt hx0 j e).1)
      clear hx0 h5 g5 hw5 OR4 ROW4 g4 bb4
      go_wp2
      exact ⟨⟨k + 1, by omega, by go_num, row5, bb5⟩, by simp [intOf]; omega⟩
    ·obtain rfl : k = m := by omega
     have z1 := hbw.size
     have z0 := b0.size
     go_wp2
     go_ret
     exact ⟨_, rfl, hrow.wide (by omega) (Nat.le_refl _), below_next b0 hbw⟩
end Go.Proofs.Ytjgfljndeolmoaa
