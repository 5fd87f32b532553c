/-
  The walk of laws.FnLookups.
-/
import Derived.Test.YthobpbnaklnbiaaGreatFnLookupsG29
import Derived.Test.YthobpbnaklnbiaaGreatFnLookupsG30
import Derived.Test.YthobpbnaklnbiaaGreatFnLookupsG39
import Derived.Test.YthobpbnaklnbiaaGreatFnLookupsG40
import Derived.Test.YthobpbnaklnbiaaGreatFnLookupsG45
import Derived.Test.YthobpbnaklnbiaaGreatFnLookupsG46
import Derived.Test.YthobpbnaklnbiaaGreatFnLookupsG37
import Derived.Test.YthobpbnaklnbiaaGreatFnLookupsG23
import Derived.Test.YthobpbnaklnbiaaGreatFnLookupsG01
import Derived.Test.YthobpbnaklnbiaaGreatFnLookupsG20
import Derived.Deep.Cut
namespace Go.Proofs.YthobpbnaklnbiaaGreat
open Go.RowKit
set_option linter.unusedVariables false

set_option maxHeartbeats 8000000 in
set_option maxRecDepth 100000 in
theorem lawLookups (a : Option Addr) (cap : Nat) (l : List Int) (w : World) (hL : Lies w a l) (hb : ∀ k, 0 ≤ l.getD k 0 ∧ l.getD k 0 ≤ 255) (hm : l.length ≤ maxLen) :
  Calls Tryz.prog 4 #[.slice a l.length cap] w fun e w' => e = .returned (.bool true) ∧ Below w.heap.size w w' := by
 have HD := UC (drawLookup_any (cap := cap) l hL rfl hb hm)
 clear hL hb hm
 have bb := Below.refl w.heap.size w
 go_enter Tryz.func4, Tryz.ntmps4
 go_wp2_with fail
 refine (UB HD).mono ?_
 rintro e w1 ⟨vo, vr, o, rs, v, n, t, rfl, zt, hnm, on, _, b1⟩
 clear HD
 have hz := zt.hasZ
 have hn := on.hasL
 clear zt on
 obtain ⟨za, zc, rfl, _⟩ := hz.name.form
 obtain ⟨ya, yc, rfl, _⟩ := hz.recs.form
 obtain ⟨na, nc, rfl, _⟩ := hn.form
 replace bb := UG bb b1
 have z0 := b1.size
 obtain ⟨hsz, kz, kn⟩ := box2 w1 (.cells #[.slice za o.length zc, .slice ya rs.length yc] 28) #[.slice na n.length nc] 25
 have ba := below2 w1 (.cells #[.slice za o.length zc, .slice ya rs.length yc] 28) (.cells #[.slice na n.length nc] 25)
 have KZ := UC kz
 have KN := UC kn
 have Z := UC hz
 have N := UC hn
 replace Z := UC ((UB Z).below ba)
 replace N := UC ((UB N).below ba)
 have HLK := UC (fun (w : World) (h : HasZ w (.slice za o.length zc) (.slice ya rs.length yc) o rs) (hn : HasL w (.slice na n.length nc) n) => implLookup_own t h hn)
 have HZO := UC (fun (w : World) (h : HasZ w (.slice za o.length zc) (.slice ya rs.length yc) o rs) => specZoneOk_has h hnm)
 have HNO := UC (fun (w : World) (hn : HasL w (.slice na n.length nc) n) => VO hn)
 have HST := UC (fun (w : World) (h : HasZ w (.slice za o.length zc) (.slice ya rs.length yc) o rs) (hn : HasL w (.slice na n.length nc) n) => implSetOf_own t h hn)
 have HNM := UC (fun (w : World) (h : HasZ w (.slice za o.length zc) (.slice ya rs.length yc) o rs) (hn : HasL w (.slice na n.length nc) n) => implHasName_has h hn)
 have hno := UC (look_no (o := o) (rs := rs) (n := n) (t := t))
 have hyes := UC (look_is (o := o) (rs := rs) (n := n) (t := t))
 obtain ⟨L, hL⟩ : ∃ L, lookupOf o rs n t = L := ⟨_, rfl⟩
 rw [hL] at HLK hno hyes
 obtain ⟨ls, c⟩ := L
 dsimp only at HLK hno hyes
 clear hL hnm hsz kz kn hz hn b1
 replace bb := UG bb ba
 have z1 := ba.size
 clear ba
 obtain ⟨k0, k1⟩ := UM (UB KZ)
 have n0 := US (UB KN)
 go_wp2_with fail
 clear k0 k1 n0
 generalize (w1.alloc (.cells #[.slice za o.length zc, .slice ya rs.length yc] 28)).alloc (.cells #[.slice na n.length nc] 25) = W1 at *
 refine (UB HLK _ (UB Z) (UB N)).mono ?_
 rintro e w22 ⟨u, rfl, ol, b2⟩
 obtain ⟨la, lc, rfl, hlf⟩ := ol.has.form
 have HLm : Hid (ls.length ≤ 9223372036854775807) := UC (by have := hlf.1; have h2 := hlf.2; unfold maxLen at h2; omega)
 have HL := UC ol.has
 clear ol HLK hlf
 replace bb := UG bb b2
 replace KZ := UC (UE b2 (UB KZ))
 replace KN := UC (UE b2 (UB KN))
 replace Z := UC ((UB Z).below b2)
 replace N := UC ((UB N).below b2)
 have z3 := b2.size
 clear b2
 obtain ⟨k0, k1⟩ := UM (UB KZ)
 have n0 := US (UB KN)
 go_wp2_with fail
 clear k0 k1 n0
 refine (UB HZO _ (UB Z)).mono ?_
 rintro e w24 ⟨rfl, b3⟩
 replace bb := UG bb b3
 replace KZ := UC (UE b3 (UB KZ))
 replace KN := UC (UE b3 (UB KN))
 replace Z := UC ((UB Z).below b3)
 replace N := UC ((UB N).below b3)
 replace HL := UC ((UB HL).below b3)
 have z5 := b3.size
 clear b3
 clear HZO
 cases hzk : zoneOk o rs
 ·-- no zone
  replace hno := UB hno (by rw [hzk]; simp)
  clear hyes
  obtain ⟨rfl, rfl⟩ : ls = [] ∧ c = 5 := by simpa using hno
  go_wp2_with fail
  refine (zones_any _).mono ?_
  rintro e w26 ⟨rfl, b5⟩
  replace bb := UG bb b5
  replace KZ := UC (UE b5 (UB KZ))
  replace KN := UC (UE b5 (UB KN))
  replace Z := UC ((UB Z).below b5)
  replace N := UC ((UB N).below b5)
  replace HL := UC ((UB HL).below b5)
  have z7 := b5.size
  clear b5
  go_wp2_with fail
  go_ret
  exact ⟨rfl, bb⟩
 ·-- a zone
  obtain ⟨k0, k1⟩ := UM (UB KZ)
  have n0 := US (UB KN)
  go_wp2_with fail
  clear k0 k1 n0
  refine (UB HNO _ (UB N)).mono ?_
  rintro e w26 ⟨rfl, b4⟩
  replace bb := UG bb b4
  replace KZ := UC (UE b4 (UB KZ))
  replace KN := UC (UE b4 (UB KN))
  replace Z := UC ((UB Z).below b4)
  replace N := UC ((UB N).below b4)
  replace HL := UC ((UB HL).below b4)
  have z7 := b4.size
  clear b4
  clear HNO
  cases hnk : nameOk n
  ·-- no name
   replace hno := UB hno (by rw [hnk]; simp)
   clear hyes
   obtain ⟨rfl, rfl⟩ : ls = [] ∧ c = 5 := by simpa using hno
   go_wp2_with fail
   refine (zones_any _).mono ?_
   rintro e w28 ⟨rfl, b5⟩
   replace bb := UG bb b5
   replace KZ := UC (UE b5 (UB KZ))
   replace KN := UC (UE b5 (UB KN))
   replace Z := UC ((UB Z).below b5)
   replace N := UC ((UB N).below b5)
   replace HL := UC ((UB HL).below b5)
   have z9 := b5.size
   clear b5
   go_wp2_with fail
   go_ret
   exact ⟨rfl, bb⟩
  ·-- both may be
   obtain ⟨hlook, hof⟩ := UB hyes hzk hnk
   have HOF := UC hof
   have HLO := UC hlook
   clear hyes hno hof hlook
   go_wp2_with fail
   go_loopw [8] (fun i wr => ∃ k : Nat, k ≤ ls.length ∧ i = .int .i64 k ∧ Below w26.heap.size w26 wr) (fun i _ => ls.length - (intOf i).toNat)
   case atStart => exact ⟨0, by omega, rfl, Below.refl _ _⟩
   case round =>
    obtain ⟨k, hk, rfl, hbr⟩ := hrel
    by_cases hlt : k < ls.length
    ·have hlt' : (k : Int) < ls.length := by omega
     have hlm := UB HLm
     have bw := UG hbr (UX (w := wr))
     have KZd := UC (UE bw (UB KZ))
     have HLd := UC ((UB HL).below bw)
     have Zd := UC ((UB Z).below bw)
     obtain ⟨hok, j, hj, hsm⟩ := UB HOF k hlt
     obtain ⟨b, off, yn, cyn, yt, cyt, yx, cyx, yi, cyi, rfl, hbl, hc, hu⟩ := (UB HLd).here (k := k) hlt
     generalize ls.getD k recZ = q at *
     have HU := UC hu
     have HC := UC (VH hc)
     have HSM := UC hsm
     clear hc hu hok hsm
     go_upto_region 8 with fail
     refine startC [0, 1, 2, 3, 4, 5, 6, 7] (by kernel_rfl) ⟨by kernel_rfl, by kernel_rfl, by kernel_rfl, by kernel_rfl⟩ 10 [(1, fun w' => w'.cell? ⟨w1.heap.size, 1, none⟩ = some (.slice ya rs.length yc)), (5, fun w' => (fun w' => w'.cell? ⟨b, off + k * 7, none⟩ = some (.slice yn q.name.length cyn) ∧ w'.cell? ⟨b, off + k * 7 + 1, none⟩ = some (.int .i64 q.type) ∧ w'.cell? ⟨b, off + k * 7 + 2, none⟩ = some (.int .i64 q.ttl) ∧ w'.cell? ⟨b, off + k * 7 + 3, none⟩ = some (.int .i64 q.addr) ∧ w'.cell? ⟨b, off + k * 7 + 4, none⟩ = some (.slice yt q.to.length cyt) ∧ w'.cell? ⟨b, off + k * 7 + 5, none⟩ = some (.slice yx q.text.length cyx) ∧ w'.cell? ⟨b, off + k * 7 + 6, none⟩ = some (.slice yi q.nums.length cyi)) w')] (fun hA => ?_)
     replace hA := UC hA
     go_simp
     generalize hWD : wr.drew = WD at *
     clear hWD
     repeat ((first | (refine VN ?_ (UB hA) rfl rfl rfl (by rfl) (fun _ _ _ h => h) ?_ ?_; rotate_left; · (intro w; go_simp <;> with_reducible rfl)) | refine VM (UB hA) rfl rfl (by rfl) (fun _ _ _ h => h) ?_); go_simp)
     refine takeC ?_ (UB hA) rfl rfl rfl (by rfl) (fun _ _ _ h => h) (.head _) (UM (UB KZd)).2 ?_ ?_; rotate_left; (· (intro w hSw; (try dsimp only at hSw); go_simp <;> with_reducible rfl)); go_simp
     repeat ((first | (refine VN ?_ (UB hA) rfl rfl rfl (by rfl) (fun _ _ _ h => h) ?_ ?_; rotate_left; · (intro w; go_simp <;> with_reducible rfl)) | refine VM (UB hA) rfl rfl (by rfl) (fun _ _ _ h => h) ?_); go_simp)
     refine takeC ?_ (UB hA) rfl rfl rfl (by rfl) (fun _ _ _ h => h) (.tail _ (.head _)) (UB HC) ?_ ?_; rotate_left; (· (intro w hSw; (try dsimp only at hSw); go_simp <;> with_reducible rfl)); go_simp
     repeat ((first | (refine VN ?_ (UB hA) rfl rfl rfl (by rfl) (fun _ _ _ h => h) ?_ ?_; rotate_left; · (intro w; go_simp <;> with_reducible rfl)) | refine VM (UB hA) rfl rfl (by rfl) (fun _ _ _ h => h) ?_); go_simp)
     refine runC (UB hA) rfl rfl (by kernel_rfl) (by kernel_rfl) (fun K hK => ?_)
     have HK := UC hK
     clear hK
     go_simp
     refine (place_has (UB Zd).recs (UB HU)).mono ?_
     rintro e w9 ⟨x, rfl, hx, b9⟩
     have hx0 := hx.2.2 ⟨j, hj, UB HSM⟩
     have hxn : ¬ x < 0 := by omega
     have bq := UG bw b9
     refine (UB HK).out _ _ (VB (by kernel_rfl) (VB (by kernel_rfl) VL)) ?_
     clear HK K
     go_simp
     repeat ((first | (refine VN ?_ (UB hA) rfl rfl rfl (by rfl) (fun _ _ _ h => h) ?_ ?_; rotate_left; · (intro w; go_simp <;> with_reducible rfl)) | refine VM (UB hA) rfl rfl (by rfl) (fun _ _ _ h => h) ?_); go_simp)
     refine doneC (UB hA) rfl ?_
     clear hA
     go_wp2_with fail
     exact ⟨⟨k + 1, by omega, by go_num, bq⟩, by simp [intOf]; omega⟩
    ·obtain rfl : k = ls.length := by omega
     have hnn : ¬ ((ls.length : Int) < ls.length) := by omega
     replace bb := UG bb hbr
     replace KZ := UC (UE hbr (UB KZ))
     replace KN := UC (UE hbr (UB KN))
     replace Z := UC ((UB Z).below hbr)
     replace N := UC ((UB N).below hbr)
     replace HL := UC ((UB HL).below hbr)
     have z8 := hbr.size
     clear hbr
     as_aux_lemma =>
      rcases UB HLO with ⟨rfl, rfl⟩ | ⟨rfl, hls, hpos⟩ | ⟨rfl, hl1, ht5, hn5⟩ | ⟨rfl, hpos, ht2, hun, hne⟩ | ⟨rfl, rfl, hhn, hs0⟩ | ⟨rfl, rfl, hhn⟩
      ·-- outside
       clear HLO
       go_wp2_with fail
       go_ret
       exact ⟨rfl, bb⟩
      ·-- an answer
       clear HLO
       have HPOS := UC hpos
       have hpi : (0 : Int) < ls.length := by omega
       have HS := UC hls
       clear hls hnn hpos
       obtain ⟨k0, k1⟩ := UM (UB KZ)
       have n0 := US (UB KN)
       go_wp2_with fail
       clear k0 k1 n0
       refine (UB HST _ (UB Z) (UB N)).mono ?_
       rintro e w29 ⟨u2, rfl, o2, b6⟩
       rw [← UB HS] at o2
       obtain ⟨sa, sc, rfl, _⟩ := o2.has.form
       have H2 := UC o2.has
       clear o2
       replace bb := UG bb b6
       replace KZ := UC (UE b6 (UB KZ))
       replace KN := UC (UE b6 (UB KN))
       replace Z := UC ((UB Z).below b6)
       replace N := UC ((UB N).below b6)
       replace HL := UC ((UB HL).below b6)
       have z10 := b6.size
       clear b6
       go_wp2_with fail
       refine (sameRrs_self (UB HL) (UB H2) (fun k hk => (UB HOF k hk).1)).mono ?_
       rintro e w31 ⟨rfl, b7⟩
       replace bb := UG bb b7
       replace KZ := UC (UE b7 (UB KZ))
       replace KN := UC (UE b7 (UB KN))
       replace Z := UC ((UB Z).below b7)
       replace N := UC ((UB N).below b7)
       replace HL := UC ((UB HL).below b7)
       replace H2 := UC ((UB H2).below b7)
       have z12 := b7.size
       clear b7
       have hpos := UB HPOS
       go_wp2_with fail
       go_ret
       exact ⟨rfl, bb⟩
      ·-- an alias
       clear HLO
       have hpos : 0 < ls.length := by omega
       have hl1b : ((ls.length : Int) == 1) = true := by rw [hl1]; rfl
       clear hl1 hnn
       have bd := UX (w := wr)
       replace bb := UG bb bd
       replace KZ := UC (UE bd (UB KZ))
       replace KN := UC (UE bd (UB KN))
       replace Z := UC ((UB Z).below bd)
       replace N := UC ((UB N).below bd)
       replace HL := UC ((UB HL).below bd)
       have z9 := bd.size
       clear bd
       obtain ⟨b, off, yn, cyn, yt, cyt, yx, cyx, yi, cyi, rfl, hbl, hc, hu⟩ := (UB HL).here (k := 0) hpos
       rw [Nat.zero_mul, Nat.add_zero] at hc
       generalize ls.getD 0 recZ = q at *
       have HC := UC (VH hc)
       have HU := UC hu.name
       clear hc hu
       have hty : (q.type == 5) = true := by rw [ht5]; rfl
       have HN5 := UC hn5
       clear ht5 hn5
       go_upto_region 14 with fail
       refine startC [0, 1, 2, 3, 4, 5, 6, 7, 8, 9, 10, 11, 12, 13, 14, 15, 16, 17, 18] (by kernel_rfl) ⟨by kernel_rfl, by kernel_rfl, by kernel_rfl, by kernel_rfl⟩ 12 [(7, fun w' => w'.cell? ⟨b, off + 1, none⟩ = some (.int .i64 q.type)), (14, fun w' => w'.cell? ⟨b, off, none⟩ = some (.slice yn q.name.length cyn)), (15, fun w' => w'.cell? ⟨w1.heap.size + 1, 0, none⟩ = some (.slice na n.length nc))] (fun hA => ?_)
       replace hA := UC hA
       go_simp
       generalize hWD : wr.drew = WD at *
       clear hWD
       repeat ((first | (refine VN ?_ (UB hA) rfl rfl rfl (by rfl) (fun _ _ _ h => h) ?_ ?_; rotate_left; · (intro w; go_simp <;> with_reducible rfl)) | refine VM (UB hA) rfl rfl (by rfl) (fun _ _ _ h => h) ?_); go_simp)
       refine takeC ?_ (UB hA) rfl rfl rfl (by rfl) (fun _ _ _ h => h) (.head _) (UB HC).2.1 ?_ ?_; rotate_left; (· (intro w hSw; (try dsimp only at hSw); go_simp <;> with_reducible rfl)); go_simp
       repeat ((first | (refine VN ?_ (UB hA) rfl rfl rfl (by rfl) (fun _ _ _ h => h) ?_ ?_; rotate_left; · (intro w; go_simp <;> with_reducible rfl)) | refine VM (UB hA) rfl rfl (by rfl) (fun _ _ _ h => h) ?_); go_simp)
       refine takeC ?_ (UB hA) rfl rfl rfl (by rfl) (fun _ _ _ h => h) (.tail _ (.head _)) (UB HC).1 ?_ ?_; rotate_left; (· (intro w hSw; (try dsimp only at hSw); go_simp <;> with_reducible rfl)); go_simp
       repeat ((first | (refine VN ?_ (UB hA) rfl rfl rfl (by rfl) (fun _ _ _ h => h) ?_ ?_; rotate_left; · (intro w; go_simp <;> with_reducible rfl)) | refine VM (UB hA) rfl rfl (by rfl) (fun _ _ _ h => h) ?_); go_simp)
       refine takeC ?_ (UB hA) rfl rfl rfl (by rfl) (fun _ _ _ h => h) (.tail _ (.tail _ (.head _))) (US (UB KN)) ?_ ?_; rotate_left; (· (intro w hSw; (try dsimp only at hSw); go_simp <;> with_reducible rfl)); go_simp
       repeat ((first | (refine VN ?_ (UB hA) rfl rfl rfl (by rfl) (fun _ _ _ h => h) ?_ ?_; rotate_left; · (intro w; go_simp <;> with_reducible rfl)) | refine VM (UB hA) rfl rfl (by rfl) (fun _ _ _ h => h) ?_); go_simp)
       refine runC (UB hA) rfl rfl (by kernel_rfl) (by kernel_rfl) (fun K hK => ?_)
       have HK := UC hK
       clear hK
       go_simp
       refine (sameName_has (UB HU) (UB N)).mono ?_
       rw [UB HN5, decide_eq_true rfl]
       rintro e w8 ⟨rfl, b8⟩
       have bq := UG bb b8
       refine (UB HK).out _ _ (VB (by kernel_rfl) (VB (by kernel_rfl) (VB (by kernel_rfl) VL))) ?_
       clear HK K
       go_simp
       repeat ((first | (refine VN ?_ (UB hA) rfl rfl rfl (by rfl) (fun _ _ _ h => h) ?_ ?_; rotate_left; · (intro w; go_simp <;> with_reducible rfl)) | refine VM (UB hA) rfl rfl (by rfl) (fun _ _ _ h => h) ?_); go_simp)
       refine doneC (UB hA) rfl ?_
       clear hA
       go_wp2_with fail
       go_ret
       exact ⟨rfl, bq⟩
      ·-- handed on
       clear HLO hnn
       have hpi : (0 : Int) < ls.length := by omega
       have bd := UX (w := wr)
       replace bb := UG bb bd
       replace KZ := UC (UE bd (UB KZ))
       replace KN := UC (UE bd (UB KN))
       replace Z := UC ((UB Z).below bd)
       replace N := UC ((UB N).below bd)
       replace HL := UC ((UB HL).below bd)
       have z9 := bd.size
       clear bd
       obtain ⟨b, off, yn, cyn, yt, cyt, yx, cyx, yi, cyi, rfl, hbl, hc, hu⟩ := (UB HL).here (k := 0) hpos
       rw [Nat.zero_mul, Nat.add_zero] at hc
       generalize ls.getD 0 recZ = q at *
       have HC := UC (VH hc)
       have HU := UC hu.name
       clear hc hu
       have hty : (q.type == 2) = true := by rw [ht2]; rfl
       have HUN := UC hun
       have HNE := UC (decide_eq_false hne)
       clear ht2 hun hne
       go_upto_region 16 with fail
       refine startC [0, 1, 2, 3, 4, 5, 6, 7, 8, 9, 10, 11, 12, 13, 14, 15, 16, 17, 18, 19, 20, 21, 22, 23, 24, 25, 26, 27, 28] (by kernel_rfl) ⟨by kernel_rfl, by kernel_rfl, by kernel_rfl, by kernel_rfl⟩ 12 [(7, fun w' => w'.cell? ⟨b, off + 1, none⟩ = some (.int .i64 q.type)), (11, fun w' => w'.cell? ⟨w1.heap.size + 1, 0, none⟩ = some (.slice na n.length nc)), (15, fun w' => w'.cell? ⟨b, off, none⟩ = some (.slice yn q.name.length cyn)), (22, fun w' => w'.cell? ⟨b, off, none⟩ = some (.slice yn q.name.length cyn)), (24, fun w' => w'.cell? ⟨w1.heap.size, 0, none⟩ = some (.slice za o.length zc))] (fun hA => ?_)
       replace hA := UC hA
       go_simp
       generalize hWD : wr.drew = WD at *
       clear hWD
       repeat ((first | (refine VN ?_ (UB hA) rfl rfl rfl (by rfl) (fun _ _ _ h => h) ?_ ?_; rotate_left; · (intro w; go_simp <;> with_reducible rfl)) | refine VM (UB hA) rfl rfl (by rfl) (fun _ _ _ h => h) ?_); go_simp)
       refine takeC ?_ (UB hA) rfl rfl rfl (by rfl) (fun _ _ _ h => h) (.head _) (UB HC).2.1 ?_ ?_; rotate_left; (· (intro w hSw; (try dsimp only at hSw); go_simp <;> with_reducible rfl)); go_simp
       repeat ((first | (refine VN ?_ (UB hA) rfl rfl rfl (by rfl) (fun _ _ _ h => h) ?_ ?_; rotate_left; · (intro w; go_simp <;> with_reducible rfl)) | refine VM (UB hA) rfl rfl (by rfl) (fun _ _ _ h => h) ?_); go_simp)
       refine takeC ?_ (UB hA) rfl rfl rfl (by rfl) (fun _ _ _ h => h) (.tail _ (.head _)) (US (UB KN)) ?_ ?_; rotate_left; (· (intro w hSw; (try dsimp only at hSw); go_simp <;> with_reducible rfl)); go_simp
       repeat ((first | (refine VN ?_ (UB hA) rfl rfl rfl (by rfl) (fun _ _ _ h => h) ?_ ?_; rotate_left; · (intro w; go_simp <;> with_reducible rfl)) | refine VM (UB hA) rfl rfl (by rfl) (fun _ _ _ h => h) ?_); go_simp)
       refine takeC ?_ (UB hA) rfl rfl rfl (by rfl) (fun _ _ _ h => h) (.tail _ (.tail _ (.head _))) (UB HC).1 ?_ ?_; rotate_left; (· (intro w hSw; (try dsimp only at hSw); go_simp <;> with_reducible rfl)); go_simp
       repeat ((first | (refine VN ?_ (UB hA) rfl rfl rfl (by rfl) (fun _ _ _ h => h) ?_ ?_; rotate_left; · (intro w; go_simp <;> with_reducible rfl)) | refine VM (UB hA) rfl rfl (by rfl) (fun _ _ _ h => h) ?_); go_simp)
       refine runC (UB hA) rfl rfl (by kernel_rfl) (by kernel_rfl) (fun K hK => ?_)
       have HK := UC hK
       clear hK
       go_simp
       refine (implUnder_has (UB N) (UB HU)).mono ?_
       rw [UB HUN]
       rintro e w8 ⟨rfl, b8⟩
       have bq := UG bb b8
       have KZ2 := UC (UE b8 (UB KZ))
       have HU2 := UC ((UB HU).below b8)
       have Z2 := UC ((UB Z).below b8)
       have HC2 := UC ((b8.cell (p := ⟨b, off, none⟩) hbl).trans (UB HC).1)
       refine (UB HK).out _ _ (VB (by kernel_rfl) (VB (by kernel_rfl) (VB (by kernel_rfl) (keepC_yes (UB HC2) (keepC_yes (UM (UB KZ2)).1 VL))))) ?_
       clear HK K
       go_simp
       repeat ((first | (refine VN ?_ (UB hA) rfl rfl rfl (by rfl) (fun _ _ _ h => h) ?_ ?_; rotate_left; · (intro w; go_simp <;> with_reducible rfl)) | refine VM (UB hA) rfl rfl (by rfl) (fun _ _ _ h => h) ?_); go_simp)
       refine takeC ?_ (UB hA) rfl rfl rfl (by rfl) (fun _ _ _ h => h) (.tail _ (.tail _ (.tail _ (.head _)))) (UB HC2) ?_ ?_; rotate_left; (· (intro w hSw; (try dsimp only at hSw); go_simp <;> with_reducible rfl)); go_simp
       repeat ((first | (refine VN ?_ (UB hA) rfl rfl rfl (by rfl) (fun _ _ _ h => h) ?_ ?_; rotate_left; · (intro w; go_simp <;> with_reducible rfl)) | refine VM (UB hA) rfl rfl (by rfl) (fun _ _ _ h => h) ?_); go_simp)
       refine takeC ?_ (UB hA) rfl rfl rfl (by rfl) (fun _ _ _ h => h) (.tail _ (.tail _ (.tail _ (.tail _ (.head _))))) (UM (UB KZ2)).1 ?_ ?_; rotate_left; (· (intro w hSw; (try dsimp only at hSw); go_simp <;> with_reducible rfl)); go_simp
       repeat ((first | (refine VN ?_ (UB hA) rfl rfl rfl (by rfl) (fun _ _ _ h => h) ?_ ?_; rotate_left; · (intro w; go_simp <;> with_reducible rfl)) | refine VM (UB hA) rfl rfl (by rfl) (fun _ _ _ h => h) ?_); go_simp)
       refine runC (UB hA) rfl rfl (by kernel_rfl) (by kernel_rfl) (fun K hK => ?_)
       have HK := UC hK
       clear hK
       go_simp
       refine (sameName_has (UB HU2) (UB Z2).name).mono ?_
       rw [UB HNE]
       rintro e w9 ⟨rfl, b9⟩
       replace bq := UG bq b9
       refine (UB HK).out _ _ (VB (by kernel_rfl) (VB (by kernel_rfl) (VB (by kernel_rfl) (VB (by kernel_rfl) (VB (by kernel_rfl) VL))))) ?_
       clear HK K
       go_simp
       repeat ((first | (refine VN ?_ (UB hA) rfl rfl rfl (by rfl) (fun _ _ _ h => h) ?_ ?_; rotate_left; · (intro w; go_simp <;> with_reducible rfl)) | refine VM (UB hA) rfl rfl (by rfl) (fun _ _ _ h => h) ?_); go_simp)
       refine doneC (UB hA) rfl ?_
       clear hA
       go_wp2_with fail
       go_ret
       exact ⟨rfl, bq⟩
      ·-- no data
       clear HLO
       have HH := UC hhn
       have HS0 := UC hs0
       clear hhn hs0
       obtain ⟨k0, k1⟩ := UM (UB KZ)
       have n0 := US (UB KN)
       go_wp2_with fail
       clear k0 k1 n0
       refine (UB HNM _ (UB Z) (UB N)).mono ?_
       rw [UB HH]
       rintro e w29 ⟨rfl, b6⟩
       replace bb := UG bb b6
       replace KZ := UC (UE b6 (UB KZ))
       replace KN := UC (UE b6 (UB KN))
       replace Z := UC ((UB Z).below b6)
       replace N := UC ((UB N).below b6)
       replace HL := UC ((UB HL).below b6)
       have z10 := b6.size
       clear b6
       obtain ⟨k0, k1⟩ := UM (UB KZ)
       have n0 := US (UB KN)
       go_wp2_with fail
       clear k0 k1 n0
       refine (UB HST _ (UB Z) (UB N)).mono ?_
       rintro e w31 ⟨u2, rfl, o2, b7⟩
       obtain ⟨sa, sc, rfl, _⟩ := o2.has.form
       clear o2
       replace bb := UG bb b7
       replace KZ := UC (UE b7 (UB KZ))
       replace KN := UC (UE b7 (UB KN))
       replace Z := UC ((UB Z).below b7)
       replace N := UC ((UB N).below b7)
       replace HL := UC ((UB HL).below b7)
       have z12 := b7.size
       clear b7
       rw [UB HS0]
       go_wp2_with fail
       go_ret
       exact ⟨rfl, bb⟩
      ·-- no name
       clear HLO
       have HH := UC hhn
       clear hhn
       obtain ⟨k0, k1⟩ := UM (UB KZ)
       have n0 := US (UB KN)
       go_wp2_with fail
       clear k0 k1 n0
       refine (UB HNM _ (UB Z) (UB N)).mono ?_
       rw [UB HH]
       rintro e w29 ⟨rfl, b6⟩
       replace bb := UG bb b6
       replace KZ := UC (UE b6 (UB KZ))
       replace KN := UC (UE b6 (UB KN))
       replace Z := UC ((UB Z).below b6)
       replace N := UC ((UB N).below b6)
       replace HL := UC ((UB HL).below b6)
       have z10 := b6.size
       clear b6
       go_wp2_with fail
       go_ret
       exact ⟨rfl, bb⟩
end Go.Proofs.YthobpbnaklnbiaaGreat
