/-
  Contract of the specification's l5draw: a zone of the house. Plain facts: one number more behind an own row of numbers; a text of zeros.
-/
import Derived.Test.YtfneahdnpmamkaaGreatFnOwnersG23
namespace Go.Proofs.YtfneahdnpmamkaaGreat
open Go.RowKit
set_option linter.unusedVariables false

theorem Vu : (A3 (Bz ⟨#[104, 111, 109, 101, 46]⟩)).1 = Aj := by decide +kernel
abbrev subN : List (List Int) := [[115, 117, 98], [104, 111, 109, 101]]
abbrev nsN : List (List Int) := [[110, 115], [115, 117, 98], [104, 111, 109, 101]]
theorem Zg : (A3 (Bz ⟨#[115, 117, 98, 46, 104, 111, 109, 101, 46]⟩)).1 = subN := by decide +kernel
theorem U9 : (A3 (Bz ⟨#[110, 115, 46, 115, 117, 98, 46, 104, 111, 109, 101, 46]⟩)).1 = nsN := by decide +kernel
theorem sub_ok : rrOk ⟨subN, 2, 60, 0, nsN, [], []⟩ = true := by decide +kernel
theorem ns_ok : rrOk ⟨nsN, 1, 60, 167772169, [], [], []⟩ = true := by decide +kernel
set_option maxHeartbeats 4000000 in
set_option maxRecDepth 100000 in
theorem Tn {g : Nat} {a : Option Addr} {len cap : Nat} {w : World} (hc : Cur w g a len cap) (hL : Code w g a len) (hm : len ≤ maxLen) :
  Calls Tryz.prog 31 #[.pointer (some ⟨g, 0, none⟩)] w fun e w' => ∃ vo vr rs, e = .returned (.agg #[vo, vr]) ∧ Ar Aj rs = true ∧ Cm w.heap.size w' vo vr Aj rs ∧ Cur w' g a len cap ∧ w.grownBy w' (some g) := by
 have hg := hc.lt
 have HM := UC hm
 have X0 := CurX.start hc hL
 have ba := UI (w := w) (.cells #[.slice none 0 0, .slice none 0 0] 28)
 have KB := UC (heap_alloc_new w (.cells #[.slice none 0 0, .slice none 0 0] 28))
 have X := UC (X0.below ba)
 have zb := VC (UB KB)
 clear hc hL hm X0 ba
 go_enter Tryz.func31, Tryz.ntmps31
 go_wp2_with fail
 generalize w.alloc (.cells #[.slice none 0 0, .slice none 0 0] 28) = W at *
 refine (Gr ⟨#[104, 111, 109, 101, 46]⟩ W (by decide)).mono ?_
 rw [Vu]
 rintro e w1 ⟨v1, rfl, o1, b1⟩
 obtain ⟨ha, hcp, rfl, _⟩ := o1.hasL.form
 have O := UC (o1.ownT.mono (Nat.zero_le _))
 clear o1
 replace X := UC ((UB X).below b1)
 replace KB := UC (UE b1 (UB KB))
 have zw1 := b1.size
 clear b1
 have KZ := UC (heap_alloc_new w1 (.cells #[.int .i64 1, .int .i64 7, .int .i64 4294967295] 3))
 have bz := UI (w := w1) (.cells #[.int .i64 1, .int .i64 7, .int .i64 4294967295] 3)
 replace X := UC ((UB X).below bz)
 replace KB := UC (UE bz (UB KB))
 replace O := UC ((UB O).below bz)
 have zz := VC (UB KZ)
 have zb1 := bz.size
 clear bz
 go_wp2_with fail
 generalize hW2 : w1.alloc (.cells #[.int .i64 1, .int .i64 7, .int .i64 4294967295] 3) = W2 at *
 refine (Cj w1.heap.size 3 (fun z => z = 1 ∨ z = 7 ∨ z = 4294967295) (UB X).cur (UB X).code (UB HM) (by omega) (by omega) zz (by omega) (fun j hj => by match j, hj with | 0, _ => exact ⟨_, VE (UB KZ) 0, .inl rfl⟩ | 1, _ => exact ⟨_, VE (UB KZ) 1, .inr (.inl rfl)⟩ | 2, _ => exact ⟨_, VE (UB KZ) 2, .inr (.inr rfl)⟩)).mono ?_
 rintro e w3 ⟨z, rfl, hz, c3, g3⟩
 clear KZ zz hW2
 replace O := UC ((UB O).cur (UB X).cur g3)
 replace KB := UC (Aa g3 (UB KB) (by simp; omega))
 replace X := UC ((UB X).step c3 g3)
 have zg3 := g3.size
 clear c3 g3
 go_wp2_with fail
 refine (Om (o := Aj) (s := z) (UB O).hasL (by decide)).mono ?_
 obtain ⟨hzn, hzk⟩ := Yj hz
 rw [hzn]
 rintro e w4 ⟨uo, ur, rfl, ⟨ho, hr⟩, b4⟩
 dsimp only at ho hr
 generalize hrs0 : [Fx Aj z] = rs0 at *
 have ZD := UC (Cm.of (B' := w.heap.size) (by omega) ho hr)
 obtain ⟨za, zc, rfl, _⟩ := ho.hasL.form
 obtain ⟨ya, yc, rfl, _⟩ := hr.form
 clear ho hr hzn hrs0 O hz
 replace X := UC ((UB X).below b4)
 replace KB := UC (UE b4 (UB KB))
 have zw4 := b4.size
 clear b4
 have ba := UI (w := w4) (.cells #[.slice za Aj.length zc, .slice ya rs0.length yc] 28)
 have KR := UC (heap_alloc_new w4 (.cells #[.slice za Aj.length zc, .slice ya rs0.length yc] 28))
 replace X := UC ((UB X).below ba)
 replace KB := UC (UE ba (UB KB))
 replace ZD := UC ((UB ZD).below ba)
 have zr := VC (UB KR)
 clear ba
 go_wp2_with fail
 generalize w4.alloc (.cells #[.slice za Aj.length zc, .slice ya rs0.length yc] 28) = W5 at *
 refine (A9 9 (UB X).cur (UB X).code (UB HM) (by omega) (by omega)).mono ?_
 rintro e w6 ⟨y, rfl, hy0, hy1, c6, g6⟩
 replace KB := UC (Aa g6 (UB KB) (by simp; omega))
 replace KR := UC (Aa g6 (UB KR) (by simp; omega))
 replace ZD := UC ((UB ZD).cur (UB X).cur g6)
 replace X := UC ((UB X).step c6 g6)
 have zg6 := g6.size
 clear c6 g6
 obtain ⟨n, rfl⟩ := Int.eq_ofNat_of_zero_le hy0
 have HZK := UC hzk
 clear hzk
 go_wp2_with fail
 go_loopw [6] (fun i wr => ∃ (k : Nat) (vo vr : Value) (rs : List Rec), k ≤ n ∧ i = .int .i64 k ∧ Hid (Ar Aj rs = true) ∧ wr.heap[w4.heap.size]? = some (.cells #[vo, vr] 28) ∧ Cm w.heap.size wr vo vr Aj rs ∧ wr.heap[w.heap.size]? = some (.cells #[.slice none 0 0, .slice none 0 0] 28) ∧ CurX w wr g a len cap ∧ w6.heap.size ≤ wr.heap.size) (fun i _ => n - (intOf i).toNat)
 case atStart => exact ⟨0, _, _, rs0, by omega, rfl, HZK, UB KR, UB ZD, UB KB, UB X, by omega⟩
 case round =>
  obtain ⟨k, vo, vr, rs, hk, rfl, HZK, kr, zd, kb, x, hz⟩ := hrel
  clear KR ZD KB X
  have KR := UC kr
  have ZD := UC zd
  have KB := UC kb
  have X := UC x
  obtain ⟨za, zc, rfl, _⟩ := zd.hasZ.name.form
  obtain ⟨ya, yc, rfl, _⟩ := zd.hasZ.recs.form
  clear kr zd kb x
  by_cases hlt : k < n
  ·-- one more
   have hlt' : (k : Int) < n := by omega
   go_upto_region 6 with fail
   have bd := UX (w := wr)
   replace X := UC ((UB X).below bd)
   replace KB := UC (UE bd (UB KB))
   replace KR := UC (UE bd (UB KR))
   replace ZD := UC ((UB ZD).below bd)
   have zdwr := bd.size
   clear bd
   refine Hx [0, 1, 2, 3, 4, 5, 6, 7] (by kernel_rfl) ⟨by kernel_rfl, by kernel_rfl, by kernel_rfl, by kernel_rfl⟩ 10 [(0, fun w' => (fun w' => w'.cell? ⟨w4.heap.size, 0, none⟩ = some (.slice za Aj.length zc) ∧ w'.cell? ⟨w4.heap.size, 1, none⟩ = some (.slice ya rs.length yc)) w')] (fun hA => ?_)
   replace hA := UC hA
   go_simp
   generalize hWD : wr.drew = WD at *
   clear hWD
   refine Hj ?_ (UB hA) rfl rfl rfl (by rfl) (fun _ _ _ h => h) (.head _) (UM (UB KR)) ?_ ?_; rotate_left; (· (intro w hSw; (try dsimp only at hSw); go_simp <;> with_reducible rfl)); go_simp
   repeat ((first | (refine VN ?_ (UB hA) rfl rfl rfl (by rfl) (fun _ _ _ h => h) ?_ ?_; rotate_left; · (intro w; go_simp <;> with_reducible rfl)) | refine VM (UB hA) rfl rfl (by rfl) (fun _ _ _ h => h) ?_); go_simp)
   refine runC (UB hA) rfl rfl (by kernel_rfl) (by kernel_rfl) (fun K hK => ?_)
   have HK := UC hK
   clear hK
   go_simp
   refine (Xz (UB X).cur (UB X).code (UB HM)).mono ?_
   rintro e u1 ⟨vn, vt, vx, vi, r, rfl, hok, DR, c1, g1⟩
   obtain ⟨n1, n2, rfl, _⟩ := DR.hasR.name.form
   obtain ⟨t1, t2, rfl, _⟩ := DR.hasR.to.form
   obtain ⟨x1, x2, rfl, _⟩ := DR.hasR.text.form
   obtain ⟨i1, i2, rfl, _⟩ := DR.hasR.nums.form
   replace KB := UC (Aa g1 (UB KB) (by simp; omega))
   replace KR := UC (Aa g1 (UB KR) (by simp; omega))
   replace ZD := UC ((UB ZD).cur (UB X).cur g1)
   replace X := UC ((UB X).step c1 g1)
   have zg1 := g1.size
   clear c1 g1
   have DD := UC DR
   have HOK := UC hok
   clear DR hok
   refine (UB HK).out _ _ (A7 (UM (UB KR)) VL) ?_
   clear HK K
   go_simp
   repeat ((first | (refine VN ?_ (UB hA) rfl rfl rfl (by rfl) (fun _ _ _ h => h) ?_ ?_; rotate_left; · (intro w; go_simp <;> with_reducible rfl)) | refine VM (UB hA) rfl rfl (by rfl) (fun _ _ _ h => h) ?_); go_simp)
   refine runC (UB hA) rfl rfl (by kernel_rfl) (by kernel_rfl) (fun K hK => ?_)
   have HK := UC hK
   clear hK
   go_simp
   refine (Fy (r := r) (UB ZD).hasZ (UB DD).hasR (Cv (UB HZK))).mono ?_
   obtain ⟨hk1, hk2⟩ := Kj (r := r) (UB HZK) (UB HOK)
   rw [hk1]
   generalize (Ef Aj rs r).1.2 = rs2 at *
   generalize (Ef Aj rs r).2 = good at *
   rintro e u2 ⟨uo, ur, rfl, ho, hr, bq⟩
   clear ZD
   have ZD := UC (Cm.of (B' := w.heap.size) (by omega) ho hr)
   obtain ⟨sa, sc, rfl, _⟩ := ho.hasL.form
   obtain ⟨qa, qc, rfl, _⟩ := hr.form
   replace X := UC ((UB X).below bq)
   replace KB := UC (UE bq (UB KB))
   replace KR := UC (UE bq (UB KR))
   have zq := bq.size
   clear ho hr bq hk1 HZK
   have HZK := UC hk2
   clear hk2
   obtain ⟨d0, d1⟩ := UM (UB KR)
   obtain ⟨f0, f1⟩ := Am (UB KR)
   clear DD HOK
   refine (UB HK).out _ _ (VB (by kernel_rfl) VL) ?_
   clear HK K
   go_simp
   repeat ((first | (refine VN ?_ (UB hA) rfl rfl rfl (by rfl) (fun _ _ _ h => h) ?_ ?_; rotate_left; · (intro w; go_simp <;> with_reducible rfl)) | refine VM (UB hA) rfl rfl (by rfl) (fun _ _ _ h => h) ?_); go_simp)
   refine runC (UB hA) rfl rfl (by kernel_rfl) (by kernel_rfl) (fun K hK => ?_)
   have HK := UC hK
   clear hK
   go_simp
   refine (UB HK).out _ _ (VB (by kernel_rfl) VL) ?_
   clear HK K
   go_simp
   refine Lt (UB hA) rfl ?_
   clear hA
   clear d0 d1 f0 f1
   have gs := Ad (Ab u2 ⟨w4.heap.size, 0, none⟩ (.slice sa Aj.length sc)) (Ab _ ⟨w4.heap.size, 1, none⟩ (.slice qa rs2.length qc))
   replace X := UC ((UB X).row gs (fun j e => by cases e; show w.heap.size ≤ w4.heap.size; omega))
   replace KB := UC (Aa gs (UB KB) (by simp; omega))
   replace ZD := UC ((UB ZD).off (UB KR) (by decide) gs)
   have KR2 := UC (UV (UV (UB KR) 0 (.slice sa Aj.length sc)) 1 (.slice qa rs2.length qc))
   clear KR
   have KR : Hid (((u2.setCell ⟨w4.heap.size, 0, none⟩ (.slice sa Aj.length sc)).setCell ⟨w4.heap.size, 1, none⟩ (.slice qa rs2.length qc)).heap[w4.heap.size]? = some (.cells #[.slice sa Aj.length sc, .slice qa rs2.length qc] 28)) := KR2
   clear KR2
   have zgsu3 := gs.size
   clear gs
   generalize (u2.setCell ⟨w4.heap.size, 0, none⟩ (.slice sa Aj.length sc)).setCell ⟨w4.heap.size, 1, none⟩ (.slice qa rs2.length qc) = u3 at *
   go_wp2_with fail
   exact ⟨⟨k + 1, _, _, rs2, by omega, by go_num, HZK, UB KR, UB ZD, UB KB, UB X, by omega⟩, by simp [intOf]; omega⟩
  ·-- all
   obtain rfl : k = n := by omega
   have hnn : ¬ ((k : Int) < k) := by omega
   go_wp2_with fail
   clear hnn
   refine (Eg 4 (UB X).cur (UB X).code (UB HM) (by omega) (by omega)).mono ?_
   rintro e w7 ⟨more, rfl, c7, g7⟩
   replace KB := UC (Aa g7 (UB KB) (by simp; omega))
   replace KR := UC (Aa g7 (UB KR) (by simp; omega))
   replace ZD := UC ((UB ZD).cur (UB X).cur g7)
   replace X := UC ((UB X).step c7 g7)
   have zg7 := g7.size
   clear c7 g7
   cases more
   ·-- no more
    obtain ⟨d0, d1⟩ := UM (UB KR)
    obtain ⟨p0, p1⟩ := UM (UB KB)
    obtain ⟨q0, q1⟩ := Am (UB KB)
    go_wp2_with fail
    clear d0 d1 p0 p1 q0 q1
    have gf := Ad (Ab w7 ⟨w.heap.size, 0, none⟩ (.slice za Aj.length zc)) (Ab _ ⟨w.heap.size, 1, none⟩ (.slice ya rs.length yc))
    have kf := UV (UV (UB KB) 0 (.slice za Aj.length zc)) 1 (.slice ya rs.length yc)
    have DF := (UB ZD).off (UB KB) (by decide) gf
    have XF := (UB X).row gf (fun j e => by cases e; exact Nat.le_refl _)
    refine bodyPost_ret (results_cell_row rfl _ _ w.heap.size 28 #[.slice za Aj.length zc, .slice ya rs.length yc] (0, 0) _ rfl kf Tryz.underlying28 rfl (by kernel_rfl)) rfl ?_
    exact ⟨_, _, rs, rfl, UB HZK, DF, XF.cur, XF.grown⟩
   ·-- two more
    go_upto_region 8 with fail
    have bd := UX (w := w7)
    replace X := UC ((UB X).below bd)
    replace KB := UC (UE bd (UB KB))
    replace KR := UC (UE bd (UB KR))
    replace ZD := UC ((UB ZD).below bd)
    have zdw7 := bd.size
    clear bd
    refine Hx [0, 1, 2, 3, 4, 5, 6, 7, 8] (by kernel_rfl) ⟨by kernel_rfl, by kernel_rfl, by kernel_rfl, by kernel_rfl⟩ 10 [(0, fun w' => (fun w' => w'.cell? ⟨w4.heap.size, 0, none⟩ = some (.slice za Aj.length zc) ∧ w'.cell? ⟨w4.heap.size, 1, none⟩ = some (.slice ya rs.length yc)) w')] (fun hA => ?_)
    replace hA := UC hA
    go_simp
    generalize hWD : w7.drew = WD at *
    clear hWD
    refine Hj ?_ (UB hA) rfl rfl rfl (by rfl) (fun _ _ _ h => h) (.head _) (UM (UB KR)) ?_ ?_; rotate_left; (· (intro w hSw; (try dsimp only at hSw); go_simp <;> with_reducible rfl)); go_simp
    repeat ((first | (refine VN ?_ (UB hA) rfl rfl rfl (by rfl) (fun _ _ _ h => h) ?_ ?_; rotate_left; · (intro w; go_simp <;> with_reducible rfl)) | refine VM (UB hA) rfl rfl (by rfl) (fun _ _ _ h => h) ?_); go_simp)
    refine runC (UB hA) rfl rfl (by kernel_rfl) (by kernel_rfl) (fun K hK => ?_)
    have HK := UC hK
    clear hK
    go_simp
    refine (Gr ⟨#[115, 117, 98, 46, 104, 111, 109, 101, 46]⟩ WD (by decide)).mono ?_
    rw [Zg]
    rintro e t1 ⟨vN, rfl, oN, bl⟩
    obtain ⟨N1, N2, rfl, _⟩ := oN.hasL.form
    have N := UC oN.hasL
    clear oN
    replace X := UC ((UB X).below bl)
    replace KB := UC (UE bl (UB KB))
    replace KR := UC (UE bl (UB KR))
    replace ZD := UC ((UB ZD).below bl)
    have zl0 := bl.size
    clear bl
    refine (UB HK).out _ _ (A7 (UM (UB KR)) VL) ?_
    clear HK K
    go_simp
    repeat ((first | (refine VN ?_ (UB hA) rfl rfl rfl (by rfl) (fun _ _ _ h => h) ?_ ?_; rotate_left; · (intro w; go_simp <;> with_reducible rfl)) | refine VM (UB hA) rfl rfl (by rfl) (fun _ _ _ h => h) ?_); go_simp)
    refine runC (UB hA) rfl rfl (by kernel_rfl) (by kernel_rfl) (fun K hK => ?_)
    have HK := UC hK
    clear hK
    go_simp
    refine (Gr ⟨#[110, 115, 46, 115, 117, 98, 46, 104, 111, 109, 101, 46]⟩ t1 (by decide)).mono ?_
    rw [U9]
    rintro e t2 ⟨vT, rfl, oT, bl⟩
    obtain ⟨T1, T2, rfl, _⟩ := oT.hasL.form
    have T := UC oT.hasL
    clear oT
    replace X := UC ((UB X).below bl)
    replace KB := UC (UE bl (UB KB))
    replace KR := UC (UE bl (UB KR))
    replace ZD := UC ((UB ZD).below bl)
    replace N := UC ((UB N).below bl)
    have zl1 := bl.size
    clear bl
    refine (UB HK).out _ _ (A7 (UM (UB KR)) VL) ?_
    clear HK K
    go_simp
    repeat ((first | (refine VN ?_ (UB hA) rfl rfl rfl (by rfl) (fun _ _ _ h => h) ?_ ?_; rotate_left; · (intro w; go_simp <;> with_reducible rfl)) | refine VM (UB hA) rfl rfl (by rfl) (fun _ _ _ h => h) ?_); go_simp)
    refine runC (UB hA) rfl rfl (by kernel_rfl) (by kernel_rfl) (fun K hK => ?_)
    have HK := UC hK
    clear hK
    go_simp
    refine (Fy (r := ⟨subN, 2, 60, 0, nsN, [], []⟩) (UB ZD).hasZ ⟨UB N, UB T, .inl ⟨rfl, rfl⟩, .inl ⟨rfl, rfl⟩⟩ (Cv (UB HZK))).mono ?_
    obtain ⟨hk1, hk2⟩ := Kj (r := ⟨subN, 2, 60, 0, nsN, [], []⟩) (UB HZK) sub_ok
    rw [hk1]
    generalize (Ef Aj rs ⟨subN, 2, 60, 0, nsN, [], []⟩).1.2 = rs0a at *
    generalize (Ef Aj rs ⟨subN, 2, 60, 0, nsN, [], []⟩).2 = good at *
    rintro e t8 ⟨uo, ur, rfl, ho, hr, bq⟩
    clear ZD
    have ZD := UC (Cm.of (B' := w.heap.size) (by omega) ho hr)
    obtain ⟨sa0, sc0, rfl, _⟩ := ho.hasL.form
    obtain ⟨qa0, qc0, rfl, _⟩ := hr.form
    replace X := UC ((UB X).below bq)
    replace KB := UC (UE bq (UB KB))
    replace KR := UC (UE bq (UB KR))
    have zq := bq.size
    clear ho hr bq hk1 HZK
    have HZK := UC hk2
    clear hk2
    obtain ⟨d0, d1⟩ := UM (UB KR)
    obtain ⟨f0, f1⟩ := Am (UB KR)
    clear N T
    refine (UB HK).out _ _ (VB (by kernel_rfl) VL) ?_
    clear HK K
    go_simp
    repeat ((first | (refine VN ?_ (UB hA) rfl rfl rfl (by rfl) (fun _ _ _ h => h) ?_ ?_; rotate_left; · (intro w; go_simp <;> with_reducible rfl)) | refine VM (UB hA) rfl rfl (by rfl) (fun _ _ _ h => h) ?_); go_simp)
    refine runC (UB hA) rfl rfl (by kernel_rfl) (by kernel_rfl) (fun K hK => ?_)
    have HK := UC hK
    clear hK
    go_simp
    refine (UB HK).out _ _ (VB (by kernel_rfl) VL) ?_
    clear HK K
    go_simp
    refine Lt (UB hA) rfl ?_
    clear hA
    clear d0 d1 f0 f1
    have gs := Ad (Ab t8 ⟨w4.heap.size, 0, none⟩ (.slice sa0 Aj.length sc0)) (Ab _ ⟨w4.heap.size, 1, none⟩ (.slice qa0 rs0a.length qc0))
    replace X := UC ((UB X).row gs (fun j e => by cases e; show w.heap.size ≤ w4.heap.size; omega))
    replace KB := UC (Aa gs (UB KB) (by simp; omega))
    replace ZD := UC ((UB ZD).off (UB KR) (by decide) gs)
    have KR2 := UC (UV (UV (UB KR) 0 (.slice sa0 Aj.length sc0)) 1 (.slice qa0 rs0a.length qc0))
    clear KR
    have KR : Hid (((t8.setCell ⟨w4.heap.size, 0, none⟩ (.slice sa0 Aj.length sc0)).setCell ⟨w4.heap.size, 1, none⟩ (.slice qa0 rs0a.length qc0)).heap[w4.heap.size]? = some (.cells #[.slice sa0 Aj.length sc0, .slice qa0 rs0a.length qc0] 28)) := KR2
    clear KR2
    have zgst9 := gs.size
    clear gs
    generalize (t8.setCell ⟨w4.heap.size, 0, none⟩ (.slice sa0 Aj.length sc0)).setCell ⟨w4.heap.size, 1, none⟩ (.slice qa0 rs0a.length qc0) = t9 at *
    clear hlt
    go_upto_region 9 with fail
    have bd := UX (w := t9)
    replace X := UC ((UB X).below bd)
    replace KB := UC (UE bd (UB KB))
    replace KR := UC (UE bd (UB KR))
    replace ZD := UC ((UB ZD).below bd)
    have zdt9 := bd.size
    clear bd
    refine Hx [0, 1, 2, 3, 4, 5, 6, 7] (by kernel_rfl) ⟨by kernel_rfl, by kernel_rfl, by kernel_rfl, by kernel_rfl⟩ 10 [(0, fun w' => (fun w' => w'.cell? ⟨w4.heap.size, 0, none⟩ = some (.slice sa0 Aj.length sc0) ∧ w'.cell? ⟨w4.heap.size, 1, none⟩ = some (.slice qa0 rs0a.length qc0)) w')] (fun hA => ?_)
    replace hA := UC hA
    go_simp
    generalize hWD : t9.drew = WD at *
    clear hWD
    refine Hj ?_ (UB hA) rfl rfl rfl (by rfl) (fun _ _ _ h => h) (.head _) (UM (UB KR)) ?_ ?_; rotate_left; (· (intro w hSw; (try dsimp only at hSw); go_simp <;> with_reducible rfl)); go_simp
    repeat ((first | (refine VN ?_ (UB hA) rfl rfl rfl (by rfl) (fun _ _ _ h => h) ?_ ?_; rotate_left; · (intro w; go_simp <;> with_reducible rfl)) | refine VM (UB hA) rfl rfl (by rfl) (fun _ _ _ h => h) ?_); go_simp)
    refine runC (UB hA) rfl rfl (by kernel_rfl) (by kernel_rfl) (fun K hK => ?_)
    have HK := UC hK
    clear hK
    go_simp
    refine (Gr ⟨#[110, 115, 46, 115, 117, 98, 46, 104, 111, 109, 101, 46]⟩ WD (by decide)).mono ?_
    rw [U9]
    rintro e u1 ⟨vN, rfl, oN, bl⟩
    obtain ⟨N1, N2, rfl, _⟩ := oN.hasL.form
    have N := UC oN.hasL
    clear oN
    replace X := UC ((UB X).below bl)
    replace KB := UC (UE bl (UB KB))
    replace KR := UC (UE bl (UB KR))
    replace ZD := UC ((UB ZD).below bl)
    have zl0 := bl.size
    clear bl
    refine (UB HK).out _ _ (A7 (UM (UB KR)) VL) ?_
    clear HK K
    go_simp
    repeat ((first | (refine VN ?_ (UB hA) rfl rfl rfl (by rfl) (fun _ _ _ h => h) ?_ ?_; rotate_left; · (intro w; go_simp <;> with_reducible rfl)) | refine VM (UB hA) rfl rfl (by rfl) (fun _ _ _ h => h) ?_); go_simp)
    refine runC (UB hA) rfl rfl (by kernel_rfl) (by kernel_rfl) (fun K hK => ?_)
    have HK := UC hK
    clear hK
    go_simp
    refine (Fy (r := ⟨nsN, 1, 60, 167772169, [], [], []⟩) (UB ZD).hasZ ⟨UB N, .inl ⟨rfl, rfl⟩, .inl ⟨rfl, rfl⟩, .inl ⟨rfl, rfl⟩⟩ (Cv (UB HZK))).mono ?_
    obtain ⟨hk1, hk2⟩ := Kj (r := ⟨nsN, 1, 60, 167772169, [], [], []⟩) (UB HZK) ns_ok
    rw [hk1]
    generalize (Ef Aj rs0a ⟨nsN, 1, 60, 167772169, [], [], []⟩).1.2 = rs2 at *
    generalize (Ef Aj rs0a ⟨nsN, 1, 60, 167772169, [], [], []⟩).2 = good at *
    rintro e u8 ⟨uo, ur, rfl, ho, hr, bq⟩
    clear ZD
    have ZD := UC (Cm.of (B' := w.heap.size) (by omega) ho hr)
    obtain ⟨sa, sc, rfl, _⟩ := ho.hasL.form
    obtain ⟨qa, qc, rfl, _⟩ := hr.form
    replace X := UC ((UB X).below bq)
    replace KB := UC (UE bq (UB KB))
    replace KR := UC (UE bq (UB KR))
    have zq := bq.size
    clear ho hr bq hk1 HZK
    have HZK := UC hk2
    clear hk2
    obtain ⟨d0, d1⟩ := UM (UB KR)
    obtain ⟨f0, f1⟩ := Am (UB KR)
    clear N
    refine (UB HK).out _ _ (VB (by kernel_rfl) VL) ?_
    clear HK K
    go_simp
    repeat ((first | (refine VN ?_ (UB hA) rfl rfl rfl (by rfl) (fun _ _ _ h => h) ?_ ?_; rotate_left; · (intro w; go_simp <;> with_reducible rfl)) | refine VM (UB hA) rfl rfl (by rfl) (fun _ _ _ h => h) ?_); go_simp)
    refine runC (UB hA) rfl rfl (by kernel_rfl) (by kernel_rfl) (fun K hK => ?_)
    have HK := UC hK
    clear hK
    go_simp
    refine (UB HK).out _ _ (VB (by kernel_rfl) VL) ?_
    clear HK K
    go_simp
    refine Lt (UB hA) rfl ?_
    clear hA
    clear d0 d1 f0 f1
    have gs := Ad (Ab u8 ⟨w4.heap.size, 0, none⟩ (.slice sa Aj.length sc)) (Ab _ ⟨w4.heap.size, 1, none⟩ (.slice qa rs2.length qc))
    replace X := UC ((UB X).row gs (fun j e => by cases e; show w.heap.size ≤ w4.heap.size; omega))
    replace KB := UC (Aa gs (UB KB) (by simp; omega))
    replace ZD := UC ((UB ZD).off (UB KR) (by decide) gs)
    have KR2 := UC (UV (UV (UB KR) 0 (.slice sa Aj.length sc)) 1 (.slice qa rs2.length qc))
    clear KR
    have KR : Hid (((u8.setCell ⟨w4.heap.size, 0, none⟩ (.slice sa Aj.length sc)).setCell ⟨w4.heap.size, 1, none⟩ (.slice qa rs2.length qc)).heap[w4.heap.size]? = some (.cells #[.slice sa Aj.length sc, .slice qa rs2.length qc] 28)) := KR2
    clear KR2
    have zgsu9 := gs.size
    clear gs
    generalize (u8.setCell ⟨w4.heap.size, 0, none⟩ (.slice sa Aj.length sc)).setCell ⟨w4.heap.size, 1, none⟩ (.slice qa rs2.length qc) = u9 at *
    obtain ⟨d0, d1⟩ := UM (UB KR)
    obtain ⟨p0, p1⟩ := UM (UB KB)
    obtain ⟨q0, q1⟩ := Am (UB KB)
    go_wp2_with fail
    clear d0 d1 p0 p1 q0 q1
    have gf := Ad (Ab u9 ⟨w.heap.size, 0, none⟩ (.slice sa Aj.length sc)) (Ab _ ⟨w.heap.size, 1, none⟩ (.slice qa rs2.length qc))
    have kf := UV (UV (UB KB) 0 (.slice sa Aj.length sc)) 1 (.slice qa rs2.length qc)
    have DF := (UB ZD).off (UB KB) (by decide) gf
    have XF := (UB X).row gf (fun j e => by cases e; exact Nat.le_refl _)
    refine bodyPost_ret (results_cell_row rfl _ _ w.heap.size 28 #[.slice sa Aj.length sc, .slice qa rs2.length qc] (0, 0) _ rfl kf Tryz.underlying28 rfl (by kernel_rfl)) rfl ?_
    exact ⟨_, _, rs2, rfl, UB HZK, DF, XF.cur, XF.grown⟩
theorem Px (w : World) (n : Nat) (e : TypeId) (hn : n ≤ maxLen) : Has (w.alloc (.cells (madeCells #[.int .u8 0] n) e)) (.slice (some ⟨w.heap.size, 0, none⟩) n n) (List.replicate n 0) ∧ Ci e (w.alloc (.cells (madeCells #[.int .u8 0] n) e)) (.slice (some ⟨w.heap.size, 0, none⟩) n n) := by
 have hb := heap_alloc_new w (.cells (madeCells #[.int .u8 0] n) e)
 refine ⟨.inr ⟨w.heap.size, 0, n, by simp, VC hb, by simp, hn, fun i hi => ?_⟩, fun g off len cap h => ?_⟩
 ·have hi2 : i < n := by simpa using hi
  rw [VE hb, Nat.zero_add]
  simp [madeCells, hi2, Nat.mod_one]
 ·cases h
  exact ⟨_, _, hb⟩

theorem OwnI.up {B : Nat} {e : TypeId} {w : World} {v : Value} {l : List Int} (h : OwnI 0 e w v l) (hb : ∀ j, v.ownBlock = some j → B ≤ j) : OwnI B e w v l := by
 refine ⟨h.1, ?_⟩
 rcases h.2 with h0 | ⟨g, cap, cur, rfl, hB, h'⟩
 ·exact .inl h0
 ·exact .inr ⟨g, cap, cur, rfl, hb g rfl, h'⟩
theorem OwnI.low {B : Nat} {e : TypeId} {w : World} {v : Value} {l : List Int} (h : OwnI B e w v l) : ∀ j, v.ownBlock = some j → B ≤ j := fun j e => (h.lt j e).1
theorem B9.numsOn {w w' : World} {vn vt vx vi : Value} {r : Rec} {q : Nat} {t : TypeId} {c : Array Value} (h : B9 w vn vt vx vi r) (hk : w.heap[q]? = some (.cells c t)) (h1 : t ≠ 22) (h2 : t ≠ 5) (hg : w.grownBy w' vi.ownBlock) :
  OwnT 0 22 5 w' vn r.name ∧ OwnT 0 22 5 w' vt r.to ∧ Has w' vx r.text ∧ Ci 5 w' vx := by
 rcases h.nums.2 with ⟨h0, _⟩ | ⟨g, cap, cur, h0, hB, hc', _⟩
 ·rw [h0] at hg
  have hg2 : w.grownBy w' (some q) := ⟨hg.os, hg.tape, hg.output, hg.size, fun i hi _ => hg.block i hi (by simp [Value.ownBlock])⟩
  exact ⟨h.name.off hk h1 h2 hg2, h.to.off hk h1 h2 hg2, h.text.1.off h.text.2 hk h2 hg2⟩
 ·rw [h0] at hg
  have hg2 : w.grownBy w' (some g) := hg
  exact ⟨h.name.off hc' (by decide) (by decide) hg2, h.to.off hc' (by decide) (by decide) hg2, h.text.1.off h.text.2 hc' (by decide) hg2⟩
theorem Cur.numsOn {w w' : World} {v : Value} {l : List Int} {B g len cap : Nat} {a : Option Addr} (hc : Cur w g a len cap) (h : OwnI B 3 w v l) (hg : w.grownBy w' v.ownBlock) : Cur w' g a len cap := by
 obtain ⟨i, x, h1, h2⟩ := hc
 exact ⟨i, x, Aa hg h1 (Cp h h1 (by decide)), h2⟩
section
variable {P : Program} {w : World}
theorem L7 {ops : Array Oper} {o : Oper} {a : Act} {K : Act → World → Prop} {Q : Exit → Act → World → Prop} {E : Prop} (hgd : o.guard = none) (s x : Operand) (t e : TypeId)
  (ho : o.op = .call { callee := .builtin .append, args := #[s, x], argTypes := #[t, t] }) (ht : P.underlying t = some (.slice e))
  (hinfo : (P.info? e).map (fun i => (i.zero, i.size, i.bytes)) = some (some (.int .i64 0), 1, 8))
  (base : Nat) (v : Value) (l : List Int) (W : World) (z : Int) (hs : a.eval s = v) (hx : a.eval x = .slice (some ⟨W.heap.size, 0, none⟩) 1 1) (hw : w = W.alloc (.cells #[.int .i64 z] e)) (hown : OwnI base e W v l)
  (hlen : l.length + 1 ≤ 1099511627776) (hbase : base ≤ W.heap.size)
  (h : ∀ v' w', OwnI base e w' v' (l ++ [z]) → w.grownBy w' v.ownBlock → K (a.put o.dst v') w') : if Region.wanted o (yielded ops a.tmps) = true then Oper.wp P o a w K Q else E := by
 have hwt : Region.wanted o (yielded ops a.tmps) = true := by simp [Region.wanted, hgd]
 rw [if_pos hwt]
 obtain ⟨i0, hi, hzz⟩ := Option.map_eq_some_iff.1 hinfo
 simp only [Prod.mk.injEq] at hzz
 obtain ⟨hz0, hz1, hz2⟩ := hzz
 have hown2 : w.ownsRow base e 1 v l.length (l.map (Value.int .i64)) := by rw [hw]; exact OwnI.alloc hown _
 rcases Cn W e (.int .i64 z) with ⟨h0, _⟩ | ⟨ad, cap, hv, hc⟩
 ·cases h0
 ·rw [← hw] at hc
  obtain ⟨v', w', h1, h2, h3, _⟩ := run_append_own (P := P) w base t o.type e i0 (.int .i64 0) 1 8 ht hi hz0 hz1 hz2 rfl (by decide) v l.length (l.map (Value.int .i64)) hown2 ad 1 cap [.int .i64 z] (by simp) hc (by intro y hy; simp at hy; subst hy; rfl) (by unfold maxLen; omega) (by omega) (by rw [hw]; exact Nat.le_trans hbase (UI _).size)
  have hx2 : a.eval x = .slice (some ad) 1 cap := by rw [hx]; exact hv
  unfold Oper.wp execOp
  simp only [ho, resolve, invoke, builtin, Sem.run_bind, Sem.run_pure, Result.andThen_ok, List.map_toArray, List.map_cons, List.map_nil, hs, hx2, h1]
  exact h v' w' (by simpa [OwnI] using h2) h3
end
end Go.Proofs.YtfneahdnpmamkaaGreat
