/-
  The walk of laws.FnDropSets.
-/
import Derived.Test.YthobpbnaklnbiaaGreatFnDropSetsG46
namespace Go.Proofs.YthobpbnaklnbiaaGreat
open Go.RowKit
set_option linter.unusedVariables false

set_option maxHeartbeats 8000000 in
set_option maxRecDepth 100000 in
theorem To (a : Option Addr) (cap : Nat) (l : List Int) (w : World) (hL : Lies w a l) (hb : ∀ k, 0 ≤ l.getD k 0 ∧ l.getD k 0 ≤ 255) (hm : l.length ≤ maxLen) :
  Calls Tryz.prog 3 #[.slice a l.length cap] w fun e w' => e = .returned (.bool true) ∧ Below w.heap.size w w' := by
 have HD := UC (Mr (cap := cap) l hL rfl hb hm)
 clear hL hb hm
 have bb := Below.refl w.heap.size w
 go_enter Tryz.func3, Tryz.ntmps3
 go_wp2_with fail
 refine (UB HD).mono ?_
 rintro e w1 ⟨vo, vr, o, rs, v, n, t, rfl, zt, hnm, on, _, b1⟩
 clear HD
 have hz := zt.hasZ
 have hn := on.hasL
 clear zt on
 obtain ⟨za, zc, rfl, _⟩ := hz.name.form
 obtain ⟨ya, yc, rfl, _⟩ := hz.recs.form
 obtain ⟨na, nc, rfl, _⟩ := hn.form
 replace bb := UG bb b1
 have z0 := b1.size
 obtain ⟨hsz, kz, kn⟩ := box2 w1 (.cells #[.slice za o.length zc, .slice ya rs.length yc] 28) #[.slice na n.length nc] 25
 have ba := Ba w1 (.cells #[.slice za o.length zc, .slice ya rs.length yc] 28) (.cells #[.slice na n.length nc] 25)
 have KZ := UC kz
 have KN := UC kn
 have Z := UC (hz.below ba)
 have N := UC (hn.below ba)
 have HDS := UC (fun (w : World) (h : HasZ w (.slice za o.length zc) (.slice ya rs.length yc) o rs) (hn : HasL w (.slice na n.length nc) n) => Ms t h hn)
 have HZO := UC (fun (w : World) (h : HasZ w (.slice za o.length zc) (.slice ya rs.length yc) o rs) => Ef h hnm)
 have HNO := UC (fun (w : World) (hn : HasL w (.slice na n.length nc) n) => VO hn)
 have HST := UC (fun (w : World) (h : HasZ w (.slice za o.length zc) (.slice ya rs.length yc) o rs) (hn : HasL w (.slice na n.length nc) n) => Jf t h hn)
 have HBU := UC (fun (w : World) (h : HasZ w (.slice za o.length zc) (.slice ya rs.length yc) o rs) => Rx h)
 have HSE := UC (fun (w : World) (h : HasZ w (.slice za o.length zc) (.slice ya rs.length yc) o rs) => Fp h)
 have hbad := UC (fun (h : ¬ (Ak o rs = true ∧ Af n = true ∧ Hj t = true)) => drop_no (o := o) h)
 have hyes := UC (fun (h : Ak o rs = true ∧ Af n = true ∧ Hj t = true) => drop_is h.1 h.2.1 h.2.2)
 obtain ⟨L, hL⟩ : ∃ L, Bb o rs n t = L := ⟨_, rfl⟩
 rw [hL] at HDS hbad hyes
 obtain ⟨⟨xo, xr⟩, kk⟩ := L
 dsimp only at HDS
 clear hL hnm hsz kz kn hz hn b1
 replace bb := UG bb ba
 have z1 := ba.size
 clear ba
 obtain ⟨k0, k1⟩ := UM (UB KZ)
 have n0 := US (UB KN)
 go_wp2_with fail
 clear k0 k1 n0
 generalize (w1.alloc (.cells #[.slice za o.length zc, .slice ya rs.length yc] 28)).alloc (.cells #[.slice na n.length nc] 25) = W1 at *
 refine (UB HDS _ (UB Z) (UB N)).mono ?_
 rintro e w2 ⟨uo, ur, rfl, oz, b2⟩
 have hx := oz.hasZ
 clear oz HDS
 obtain ⟨xa, xc, rfl, _⟩ := hx.name.form
 obtain ⟨xra, xrc, rfl, _⟩ := hx.recs.form
 have XZ := UC hx
 clear hx
 replace bb := UG bb b2
 replace KZ := UC (UE b2 (UB KZ))
 replace KN := UC (UE b2 (UB KN))
 replace Z := UC ((UB Z).below b2)
 replace N := UC ((UB N).below b2)
 have z2 := b2.size
 clear b2
 have ba := UI (w := w2) (.cells #[.slice xa xo.length xc, .slice xra xr.length xrc] 28)
 have KX := UC (heap_alloc_new w2 (.cells #[.slice xa xo.length xc, .slice xra xr.length xrc] 28))
 replace bb := UG bb ba
 replace KZ := UC (UE ba (UB KZ))
 replace KN := UC (UE ba (UB KN))
 replace Z := UC ((UB Z).below ba)
 replace N := UC ((UB N).below ba)
 replace XZ := UC ((UB XZ).below ba)
 have z3 := ba.size
 clear ba
 obtain ⟨k0, k1⟩ := UM (UB KZ)
 have n0 := US (UB KN)
 go_wp2_with fail
 clear k0 k1 n0
 generalize w2.alloc (.cells #[.slice xa xo.length xc, .slice xra xr.length xrc] 28) = W2 at *
 refine (UB HZO _ (UB Z)).mono ?_
 rintro e w3 ⟨rfl, b3⟩
 replace bb := UG bb b3
 replace KZ := UC (UE b3 (UB KZ))
 replace KN := UC (UE b3 (UB KN))
 replace Z := UC ((UB Z).below b3)
 replace N := UC ((UB N).below b3)
 replace XZ := UC ((UB XZ).below b3)
 replace KX := UC (UE b3 (UB KX))
 have z4 := b3.size
 clear b3
 clear HZO
 cases hzk : Ak o rs
 ·-- no zone
  replace hbad := UB hbad (by rw [hzk]; simp)
  clear hyes
  obtain ⟨⟨rfl, rfl⟩, rfl⟩ : (xo = [] ∧ xr = []) ∧ kk = 0 := by simpa using hbad
  obtain ⟨x0, x1⟩ := UM (UB KX)
  go_wp2_with fail
  clear x0 x1
  refine (Lu _).mono ?_
  rintro e w9 ⟨rfl, b9⟩
  replace bb := UG bb b9
  replace KZ := UC (UE b9 (UB KZ))
  replace KN := UC (UE b9 (UB KN))
  replace Z := UC ((UB Z).below b9)
  replace N := UC ((UB N).below b9)
  replace XZ := UC ((UB XZ).below b9)
  replace KX := UC (UE b9 (UB KX))
  have z5 := b9.size
  clear b9
  go_wp2_with fail
  go_ret
  exact ⟨rfl, bb⟩
 ·-- a zone
  obtain ⟨k0, k1⟩ := UM (UB KZ)
  have n0 := US (UB KN)
  go_wp2_with fail
  clear k0 k1 n0
  refine (UB HNO _ (UB N)).mono ?_
  rintro e w25 ⟨rfl, b4⟩
  replace bb := UG bb b4
  replace KZ := UC (UE b4 (UB KZ))
  replace KN := UC (UE b4 (UB KN))
  replace Z := UC ((UB Z).below b4)
  replace N := UC ((UB N).below b4)
  replace XZ := UC ((UB XZ).below b4)
  replace KX := UC (UE b4 (UB KX))
  have z6 := b4.size
  clear b4
  clear HNO
  cases hnk : Af n
  ·-- no name
   replace hbad := UB hbad (by rw [hnk]; simp)
   clear hyes
   obtain ⟨⟨rfl, rfl⟩, rfl⟩ : (xo = [] ∧ xr = []) ∧ kk = 0 := by simpa using hbad
   obtain ⟨x0, x1⟩ := UM (UB KX)
   go_wp2_with fail
   clear x0 x1
   refine (Lu _).mono ?_
   rintro e w9 ⟨rfl, b9⟩
   replace bb := UG bb b9
   replace KZ := UC (UE b9 (UB KZ))
   replace KN := UC (UE b9 (UB KN))
   replace Z := UC ((UB Z).below b9)
   replace N := UC ((UB N).below b9)
   replace XZ := UC ((UB XZ).below b9)
   replace KX := UC (UE b9 (UB KX))
   have z7 := b9.size
   clear b9
   go_wp2_with fail
   go_ret
   exact ⟨rfl, bb⟩
  ·-- a name
   cases hak : Hj t
   ·-- no type that may be Hj for
    replace hbad := UB hbad (by rw [hak]; simp)
    clear hyes
    obtain ⟨⟨rfl, rfl⟩, rfl⟩ : (xo = [] ∧ xr = []) ∧ kk = 0 := by simpa using hbad
    obtain ⟨x0, x1⟩ := UM (UB KX)
    go_wp2_with fail
    clear x0 x1
    refine (Lu _).mono ?_
    rintro e w9 ⟨rfl, b9⟩
    replace bb := UG bb b9
    replace KZ := UC (UE b9 (UB KZ))
    replace KN := UC (UE b9 (UB KN))
    replace Z := UC ((UB Z).below b9)
    replace N := UC ((UB N).below b9)
    replace XZ := UC ((UB XZ).below b9)
    replace KX := UC (UE b9 (UB KX))
    have z7 := b9.size
    clear b9
    go_wp2_with fail
    go_ret
    exact ⟨rfl, bb⟩
   ·-- all three may be
    obtain ⟨rfl, hxz, hpos, hw1, hset, hw2⟩ := UB hyes ⟨hzk, hnk, hak⟩
    have hse := Sr hzk
    have hbz : Jm o rs = ((o, Cx rs), true) := by unfold Jm; rw [if_pos hzk]
    rw [hbz] at HBU
    dsimp only at HBU
    have HSX := UC (fun (w : World) (h : HasZ w (.slice xa o.length xc) (.slice xra xr.length xrc) o xr) (hn : HasL w (.slice na n.length nc) n) => Jf t h hn)
    have HZX := UC (fun (w : World) (h : HasZ w (.slice xa o.length xc) (.slice xra xr.length xrc) o xr) => Ct h)
    rw [hxz] at HZX
    have HXZ := UC hxz
    obtain ⟨SB, hSB⟩ : ∃ x, x = Cu o (Cx rs) := ⟨_, rfl⟩
    obtain ⟨SZ, hSZ⟩ : ∃ x, x = Cu o rs := ⟨_, rfl⟩
    rw [← hSB, ← hSZ] at hse
    rw [← hSZ] at HSE
    have HSB := UC hSB
    obtain ⟨ls, hls⟩ : ∃ x, x = Gt o xr n t := ⟨_, rfl⟩
    obtain ⟨sl, hsl⟩ : ∃ x, x = Gt o rs n t := ⟨_, rfl⟩
    rw [← hls] at HSX hset hw2
    rw [← hsl] at HST hw2
    have HS6 := UC hset
    have HW1 := UC hw1
    have HW2 := UC hw2
    have HSR := UC hse
    have hpe : ((xr.length : Int) == 0) = false := by rw [beq_eq_false_iff_ne]; omega
    clear hls hsl hset hw1 hw2 hse hSZ hSB hxz hbz hyes hbad hzk hnk hak
    obtain ⟨x0, x1⟩ := UM (UB KX)
    have n0 := US (UB KN)
    go_wp2_with fail
    clear x0 x1 n0
    refine (UB HSX _ (UB XZ) (UB N)).mono ?_
    rintro e w5 ⟨u, rfl, ol, b5⟩
    obtain ⟨la, lc, rfl, hlf⟩ := ol.has.form
    have HLm : Hid (ls.length ≤ 9223372036854775807) := UC (by have := hlf.1; have h2 := hlf.2; unfold maxLen at h2; omega)
    have HL := UC ol.has
    clear ol HSX hlf
    replace bb := UG bb b5
    replace KZ := UC (UE b5 (UB KZ))
    replace KN := UC (UE b5 (UB KN))
    replace Z := UC ((UB Z).below b5)
    replace N := UC ((UB N).below b5)
    replace XZ := UC ((UB XZ).below b5)
    replace KX := UC (UE b5 (UB KX))
    have z7 := b5.size
    clear b5
    go_wp2_with fail
    go_loopw [9] (fun i wr => ∃ k : Nat, k ≤ ls.length ∧ i = .int .i64 k ∧ Below w5.heap.size w5 wr) (fun i _ => ls.length - (intOf i).toNat)
    case atStart => exact ⟨0, by omega, rfl, Below.refl _ _⟩
    case round =>
     obtain ⟨k, hk, rfl, hbr⟩ := hrel
     by_cases hlt : k < ls.length
     ·have hlt' : (k : Int) < ls.length := by omega
      have hlm := UB HLm
      obtain ⟨b, off, yn, cyn, yt, cyt, yx, cyx, yi, cyi, rfl, hbl, hc, hu⟩ := ((UB HL).below hbr).here (k := k) hlt
      have h6 := UB HS6 k hlt
      generalize ls.getD k recZ = q at *
      have hc1 := (VH hc).2.1
      have hne : (q.type != 6) = false := by rw [h6]; rfl
      clear hc hu h6
      go_wp2_with fail
      exact ⟨⟨k + 1, by omega, by go_num, hbr⟩, by simp [intOf]; omega⟩
     ·obtain rfl : k = ls.length := by omega
      have hnn : ¬ ((ls.length : Int) < ls.length) := by omega
      replace bb := UG bb hbr
      replace KZ := UC (UE hbr (UB KZ))
      replace KN := UC (UE hbr (UB KN))
      replace Z := UC ((UB Z).below hbr)
      replace N := UC ((UB N).below hbr)
      replace XZ := UC ((UB XZ).below hbr)
      replace KX := UC (UE hbr (UB KX))
      replace HL := UC ((UB HL).below hbr)
      have z8 := hbr.size
      clear hbr
      as_aux_lemma =>
       obtain ⟨k0, k1⟩ := UM (UB KZ)
       have n0 := US (UB KN)
       go_wp2_with fail
       clear k0 k1 n0
       clear hnn
       refine (UB HBU _ (UB Z)).mono ?_
       rintro e w6 ⟨bo, br, rfl, oz, b6⟩
       have hx := oz.hasZ
       clear oz HBU
       obtain ⟨ba_, bc, rfl, _⟩ := hx.name.form
       obtain ⟨bra, brc, rfl, _⟩ := hx.recs.form
       have hsb := Gd rs
       generalize Cx rs = rb at *
       have BZ := UC hx
       clear hx hsb
       replace bb := UG bb b6
       replace KZ := UC (UE b6 (UB KZ))
       replace KN := UC (UE b6 (UB KN))
       replace Z := UC ((UB Z).below b6)
       replace N := UC ((UB N).below b6)
       replace XZ := UC ((UB XZ).below b6)
       replace KX := UC (UE b6 (UB KX))
       replace HL := UC ((UB HL).below b6)
       have z9 := b6.size
       clear b6
       have ba := UI (w := w6) (.cells #[.slice ba_ o.length bc, .slice bra rb.length brc] 28)
       have KB := UC (heap_alloc_new w6 (.cells #[.slice ba_ o.length bc, .slice bra rb.length brc] 28))
       replace bb := UG bb ba
       replace KZ := UC (UE ba (UB KZ))
       replace KN := UC (UE ba (UB KN))
       replace Z := UC ((UB Z).below ba)
       replace N := UC ((UB N).below ba)
       replace XZ := UC ((UB XZ).below ba)
       replace KX := UC (UE ba (UB KX))
       replace HL := UC ((UB HL).below ba)
       replace BZ := UC ((UB BZ).below ba)
       have z10 := ba.size
       clear ba
       have HSV := UC (fun (w : World) (h : HasZ w (.slice ba_ o.length bc) (.slice bra rb.length brc) o rb) => Fp h)
       rw [← UB HSB] at HSV
       go_upto_region 12 with fail
       generalize w6.alloc (.cells #[.slice ba_ o.length bc, .slice bra rb.length brc] 28) = W6 at *
       have bd := UX (w := W6)
       replace bb := UG bb bd
       replace KZ := UC (UE bd (UB KZ))
       replace KN := UC (UE bd (UB KN))
       replace Z := UC ((UB Z).below bd)
       replace N := UC ((UB N).below bd)
       replace XZ := UC ((UB XZ).below bd)
       replace KX := UC (UE bd (UB KX))
       replace HL := UC ((UB HL).below bd)
       replace BZ := UC ((UB BZ).below bd)
       replace KB := UC (UE bd (UB KB))
       have z11 := bd.size
       clear bd
       have hw1 := UB HW1
       have hw2 := UB HW2
       refine Jn [0, 1, 2, 3, 4, 5, 6, 7, 8, 9, 10, 11, 12, 13, 14, 15, 16, 19, 20, 21, 22, 17, 18, 23, 24, 25, 26, 28, 27, 29, 30, 31, 32, 33, 34] (by kernel_rfl) ⟨by kernel_rfl, by kernel_rfl, by kernel_rfl, by kernel_rfl⟩ 14 [(0, fun w' => (fun w' => w'.cell? ⟨w2.heap.size, 0, none⟩ = some (.slice xa o.length xc) ∧ w'.cell? ⟨w2.heap.size, 1, none⟩ = some (.slice xra xr.length xrc)) w'), (4, fun w' => w'.cell? ⟨w2.heap.size, 1, none⟩ = some (.slice xra xr.length xrc)), (9, fun w' => w'.cell? ⟨w1.heap.size, 1, none⟩ = some (.slice ya rs.length yc)), (14, fun w' => (fun w' => w'.cell? ⟨w1.heap.size, 0, none⟩ = some (.slice za o.length zc) ∧ w'.cell? ⟨w1.heap.size, 1, none⟩ = some (.slice ya rs.length yc)) w'), (15, fun w' => w'.cell? ⟨w1.heap.size + 1, 0, none⟩ = some (.slice na n.length nc)), (26, fun w' => (fun w' => w'.cell? ⟨w6.heap.size, 0, none⟩ = some (.slice ba_ o.length bc) ∧ w'.cell? ⟨w6.heap.size, 1, none⟩ = some (.slice bra rb.length brc)) w'), (28, fun w' => (fun w' => w'.cell? ⟨w1.heap.size, 0, none⟩ = some (.slice za o.length zc) ∧ w'.cell? ⟨w1.heap.size, 1, none⟩ = some (.slice ya rs.length yc)) w')] (fun hA => ?_)
       replace hA := UC hA
       go_simp
       generalize hWD : W6.drew = WD at *
       clear hWD
       repeat ((first | (refine VN ?_ (UB hA) rfl rfl rfl (by rfl) (fun _ _ _ h => h) ?_ ?_; rotate_left; · (intro w; go_simp <;> with_reducible rfl)) | refine VM (UB hA) rfl rfl (by rfl) (fun _ _ _ h => h) ?_); go_simp)
       refine Ge ?_ (UB hA) rfl rfl rfl (by rfl) (fun _ _ _ h => h) (.head _) (UM (UB KX)) ?_ ?_; rotate_left; (· (intro w hSw; (try dsimp only at hSw); go_simp <;> with_reducible rfl)); go_simp
       repeat ((first | (refine VN ?_ (UB hA) rfl rfl rfl (by rfl) (fun _ _ _ h => h) ?_ ?_; rotate_left; · (intro w; go_simp <;> with_reducible rfl)) | refine VM (UB hA) rfl rfl (by rfl) (fun _ _ _ h => h) ?_); go_simp)
       refine runC (UB hA) rfl rfl (by kernel_rfl) (by kernel_rfl) (fun K hK => ?_)
       have HK := UC hK
       clear hK
       go_simp
       refine (UB HZX _ (UB XZ)).mono ?_
       rintro e v1 ⟨rfl, c1⟩
       replace bb := UG bb c1
       replace KZ := UC (UE c1 (UB KZ))
       replace KN := UC (UE c1 (UB KN))
       replace KX := UC (UE c1 (UB KX))
       replace KB := UC (UE c1 (UB KB))
       replace Z := UC ((UB Z).below c1)
       replace N := UC ((UB N).below c1)
       replace XZ := UC ((UB XZ).below c1)
       replace BZ := UC ((UB BZ).below c1)
       clear c1
       refine (UB HK).out _ _ (VB (by kernel_rfl) (Av (UM (UB KX)).2 (Av (UM (UB KZ)).2 (Av (UM (UB KZ)) (Av (US (UB KN)) (Av (UM (UB KB)) (Av (UM (UB KZ)) VL))))))) ?_
       clear HK K
       go_simp
       repeat ((first | (refine VN ?_ (UB hA) rfl rfl rfl (by rfl) (fun _ _ _ h => h) ?_ ?_; rotate_left; · (intro w; go_simp <;> with_reducible rfl)) | refine VM (UB hA) rfl rfl (by rfl) (fun _ _ _ h => h) ?_); go_simp)
       refine Ge ?_ (UB hA) rfl rfl rfl (by rfl) (fun _ _ _ h => h) (.tail _ (.head _)) (UM (UB KX)).2 ?_ ?_; rotate_left; (· (intro w hSw; (try dsimp only at hSw); go_simp <;> with_reducible rfl)); go_simp
       repeat ((first | (refine VN ?_ (UB hA) rfl rfl rfl (by rfl) (fun _ _ _ h => h) ?_ ?_; rotate_left; · (intro w; go_simp <;> with_reducible rfl)) | refine VM (UB hA) rfl rfl (by rfl) (fun _ _ _ h => h) ?_); go_simp)
       refine Ge ?_ (UB hA) rfl rfl rfl (by rfl) (fun _ _ _ h => h) (.tail _ (.tail _ (.head _))) (UM (UB KZ)).2 ?_ ?_; rotate_left; (· (intro w hSw; (try dsimp only at hSw); go_simp <;> with_reducible rfl)); go_simp
       repeat ((first | (refine VN ?_ (UB hA) rfl rfl rfl (by rfl) (fun _ _ _ h => h) ?_ ?_; rotate_left; · (intro w; go_simp <;> with_reducible rfl)) | refine VM (UB hA) rfl rfl (by rfl) (fun _ _ _ h => h) ?_); go_simp)
       refine Ge ?_ (UB hA) rfl rfl rfl (by rfl) (fun _ _ _ h => h) (.tail _ (.tail _ (.tail _ (.head _)))) (UM (UB KZ)) ?_ ?_; rotate_left; (· (intro w hSw; (try dsimp only at hSw); go_simp <;> with_reducible rfl)); go_simp
       repeat ((first | (refine VN ?_ (UB hA) rfl rfl rfl (by rfl) (fun _ _ _ h => h) ?_ ?_; rotate_left; · (intro w; go_simp <;> with_reducible rfl)) | refine VM (UB hA) rfl rfl (by rfl) (fun _ _ _ h => h) ?_); go_simp)
       refine Ge ?_ (UB hA) rfl rfl rfl (by rfl) (fun _ _ _ h => h) (.tail _ (.tail _ (.tail _ (.tail _ (.head _))))) (US (UB KN)) ?_ ?_; rotate_left; (· (intro w hSw; (try dsimp only at hSw); go_simp <;> with_reducible rfl)); go_simp
       repeat ((first | (refine VN ?_ (UB hA) rfl rfl rfl (by rfl) (fun _ _ _ h => h) ?_ ?_; rotate_left; · (intro w; go_simp <;> with_reducible rfl)) | refine VM (UB hA) rfl rfl (by rfl) (fun _ _ _ h => h) ?_); go_simp)
       refine runC (UB hA) rfl rfl (by kernel_rfl) (by kernel_rfl) (fun K hK => ?_)
       have HK := UC hK
       clear hK
       go_simp
       refine (UB HST _ (UB Z) (UB N)).mono ?_
       rintro e v2 ⟨u2, rfl, o2, c2⟩
       obtain ⟨sa, sc, rfl, _⟩ := o2.has.form
       clear o2
       replace bb := UG bb c2
       replace KZ := UC (UE c2 (UB KZ))
       replace KN := UC (UE c2 (UB KN))
       replace KX := UC (UE c2 (UB KX))
       replace KB := UC (UE c2 (UB KB))
       replace Z := UC ((UB Z).below c2)
       replace N := UC ((UB N).below c2)
       replace XZ := UC ((UB XZ).below c2)
       replace BZ := UC ((UB BZ).below c2)
       clear c2
       refine (UB HK).out _ _ (VB (by kernel_rfl) (VB (by kernel_rfl) (VB (by kernel_rfl) (VB (by kernel_rfl) (VB (by kernel_rfl) (Av (UM (UB KB)) (Av (UM (UB KZ)) VL))))))) ?_
       clear HK K
       go_simp
       repeat ((first | (refine VN ?_ (UB hA) rfl rfl rfl (by rfl) (fun _ _ _ h => h) ?_ ?_; rotate_left; · (intro w; go_simp <;> with_reducible rfl)) | refine VM (UB hA) rfl rfl (by rfl) (fun _ _ _ h => h) ?_); go_simp)
       refine Ge ?_ (UB hA) rfl rfl rfl (by rfl) (fun _ _ _ h => h) (.tail _ (.tail _ (.tail _ (.tail _ (.tail _ (.head _)))))) (UM (UB KB)) ?_ ?_; rotate_left; (· (intro w hSw; (try dsimp only at hSw); go_simp <;> with_reducible rfl)); go_simp
       repeat ((first | (refine VN ?_ (UB hA) rfl rfl rfl (by rfl) (fun _ _ _ h => h) ?_ ?_; rotate_left; · (intro w; go_simp <;> with_reducible rfl)) | refine VM (UB hA) rfl rfl (by rfl) (fun _ _ _ h => h) ?_); go_simp)
       refine Ge ?_ (UB hA) rfl rfl rfl (by rfl) (fun _ _ _ h => h) (.tail _ (.tail _ (.tail _ (.tail _ (.tail _ (.tail _ (.head _))))))) (UM (UB KZ)) ?_ ?_; rotate_left; (· (intro w hSw; (try dsimp only at hSw); go_simp <;> with_reducible rfl)); go_simp
       repeat ((first | (refine VN ?_ (UB hA) rfl rfl rfl (by rfl) (fun _ _ _ h => h) ?_ ?_; rotate_left; · (intro w; go_simp <;> with_reducible rfl)) | refine VM (UB hA) rfl rfl (by rfl) (fun _ _ _ h => h) ?_); go_simp)
       refine runC (UB hA) rfl rfl (by kernel_rfl) (by kernel_rfl) (fun K hK => ?_)
       have HK := UC hK
       clear hK
       go_simp
       refine (UB HSV _ (UB BZ)).mono ?_
       rintro e v3 ⟨rfl, c3⟩
       replace bb := UG bb c3
       replace KZ := UC (UE c3 (UB KZ))
       replace KN := UC (UE c3 (UB KN))
       replace KX := UC (UE c3 (UB KX))
       replace KB := UC (UE c3 (UB KB))
       replace Z := UC ((UB Z).below c3)
       replace N := UC ((UB N).below c3)
       replace XZ := UC ((UB XZ).below c3)
       replace BZ := UC ((UB BZ).below c3)
       clear c3
       refine (UB HK).out _ _ (VB (by kernel_rfl) (VB (by kernel_rfl) (VB (by kernel_rfl) (VB (by kernel_rfl) (VB (by kernel_rfl) (VB (by kernel_rfl) (Av (UM (UB KZ)) VL))))))) ?_
       clear HK K
       go_simp
       repeat ((first | (refine VN ?_ (UB hA) rfl rfl rfl (by rfl) (fun _ _ _ h => h) ?_ ?_; rotate_left; · (intro w; go_simp <;> with_reducible rfl)) | refine VM (UB hA) rfl rfl (by rfl) (fun _ _ _ h => h) ?_); go_simp)
       refine runC (UB hA) rfl rfl (by kernel_rfl) (by kernel_rfl) (fun K hK => ?_)
       have HK := UC hK
       clear hK
       go_simp
       refine (UB HSE _ (UB Z)).mono ?_
       rintro e v4 ⟨rfl, c4⟩
       replace bb := UG bb c4
       refine (UB HK).out _ _ (VB (by kernel_rfl) (VB (by kernel_rfl) (VB (by kernel_rfl) (VB (by kernel_rfl) (VB (by kernel_rfl) (VB (by kernel_rfl) (VB (by kernel_rfl) VL))))))) ?_
       clear HK K
       go_simp
       repeat ((first | (refine VN ?_ (UB hA) rfl rfl rfl (by rfl) (fun _ _ _ h => h) ?_ ?_; rotate_left; · (intro w; go_simp <;> with_reducible rfl)) | refine VM (UB hA) rfl rfl (by rfl) (fun _ _ _ h => h) ?_); go_simp)
       refine Pb (UB hA) rfl ?_
       clear hA
       have hsr := UB HSR
       obtain ⟨e1, h0, h1⟩ := hsr
       have hwr : IntKind.i64.wrap (SZ + 1) = SZ + 1 := by have q := Bl (SZ + 1).toNat (by omega); have q2 : (((SZ + 1).toNat : Nat) : Int) = SZ + 1 := (by omega); rwa [q2] at q
       have hrm : (SZ + 1).tmod 4294967296 = SB := by rw [e1]; exact Int.tmod_eq_emod_of_nonneg (by omega)
       rw [hwr, hrm, beq_self_eq_true]
       go_wp2_with fail
       go_ret
       exact ⟨rfl, bb⟩
end Go.Proofs.YthobpbnaklnbiaaGreat
