/-
  Contracts of the specification's l5type, DrawSetOf, DrawLookup, DrawDropSet. Contract of the specification's DrawDropSet. Plain facts: what l5drop takes away is what drop does. No program is named here. Plain facts: what DropSet answers. No program is named here. Plain facts: a zone with its serial one more. No program is named here.
-/
import Derived.Test.YthobpbnaklnbiaaGreatFnDropSetsG27
namespace Go.Proofs.YthobpbnaklnbiaaGreat
open Go.RowKit
set_option linter.unusedVariables false

theorem Ij {P : Program} {fn : Func} {p q r : Tmp} {ty ty2 : TypeId} (h : fn.results = #[.cell p ty, .cell q ty2, .tmp r]) (tmps : Array Value) (w : World) (g g2 : Nat) (t t2 : TypeId) (cs cs2 : Array Value) (fr fr2 : Nat × Nat) (d d2 : TypeDesc)
  (hp : tmps.getD p undef = .pointer (some ⟨g, 0, none⟩)) (hg : w.heap[g]? = some (.cells cs t fr)) (hq : tmps.getD q undef = .pointer (some ⟨g2, 0, none⟩)) (hg2 : w.heap[g2]? = some (.cells cs2 t2 fr2))
  (hu : P.underlying ty = some d) (hd : (match d with | .struct _ | .array _ _ => true | _ => false) = true) (hi : (P.info? ty).map (·.size) = some cs.size)
  (hu2 : P.underlying ty2 = some d2) (hd2 : (match d2 with | .struct _ | .array _ _ => true | _ => false) = true) (hi2 : (P.info? ty2).map (·.size) = some cs2.size) :
  (results fn tmps).run P w = .ok (.tuple #[.agg cs, .agg cs2, tmps.getD r undef]) w := by
 have hp' := hp
 have hq' := hq
 simp only [Array.getD_eq_getD_getElem?] at hp' hq'
 simp only [results, h]
 simp [hp', hq', asAddr, run_loadVar_row w g t ty cs fr d hg hu hd hi, run_loadVar_row w g2 t2 ty2 cs2 fr2 d2 hg2 hu2 hd2 hi2]
theorem Pd {g : Nat} {a : Option Addr} {len cap : Nat} {w : World} (hc : Cur w g a len cap) (hL : Code w g a len) (hm : len ≤ maxLen) :
  Calls Tryz.prog 51 #[.pointer (some ⟨g, 0, none⟩)] w fun e w' => ∃ t, e = .returned (.int .i64 t) ∧ Cur w' g a len cap ∧ w.grownBy w' (some g) := by
 have hg := hc.lt
 have HM := UC hm
 have X0 := CurX.start hc hL
 have bz := UI (w := w) (.cells #[.int .i64 1, .int .i64 1, .int .i64 2, .int .i64 5, .int .i64 255, .int .i64 6, .int .i64 16, .int .i64 28] 3)
 have KZ := UC (heap_alloc_new w (.cells #[.int .i64 1, .int .i64 1, .int .i64 2, .int .i64 5, .int .i64 255, .int .i64 6, .int .i64 16, .int .i64 28] 3))
 have X := UC (X0.below bz)
 have zz := VC (UB KZ)
 clear hc hL hm X0 bz
 go_enter Tryz.func51, Tryz.ntmps51
 go_wp2_with fail
 generalize w.alloc (.cells #[.int .i64 1, .int .i64 1, .int .i64 2, .int .i64 5, .int .i64 255, .int .i64 6, .int .i64 16, .int .i64 28] 3) = W at *
 refine (Pn w.heap.size 8 (UB X).cur (UB X).code (UB HM) (by omega) (by omega) zz (by omega) (fun j hj => by match j, hj with | 0, _ => exact ⟨_, VE (UB KZ) 0⟩ | 1, _ => exact ⟨_, VE (UB KZ) 1⟩ | 2, _ => exact ⟨_, VE (UB KZ) 2⟩ | 3, _ => exact ⟨_, VE (UB KZ) 3⟩ | 4, _ => exact ⟨_, VE (UB KZ) 4⟩ | 5, _ => exact ⟨_, VE (UB KZ) 5⟩ | 6, _ => exact ⟨_, VE (UB KZ) 6⟩ | 7, _ => exact ⟨_, VE (UB KZ) 7⟩)).mono ?_
 rintro e w1 ⟨z, rfl, c1, g1⟩
 have X1 := (UB X).step c1 g1
 go_wp2_with fail
 go_ret
 exact ⟨z, rfl, X1.cur, X1.grown⟩
def Tj (w : World) (e : Ending) (w' : World) : Prop := ∃ vo vr o rs v n t, e = .returned (.tuple #[.agg #[vo, vr], .agg #[v], .int .i64 t]) ∧ Ds w' vo vr o rs ∧ (∀ k, k < rs.length → (rs.getD k recZ).name.length ≤ 1048576) ∧ OwnT 0 22 5 w' v n ∧ (n.length ≤ 7 ∧ ∀ i, i < n.length → (n.getD i []).length ≤ 16) ∧ Below w.heap.size w w'
set_option maxHeartbeats 4000000 in
set_option maxRecDepth 100000 in
theorem Pk {a : Option Addr} {len cap : Nat} {w : World} (l : List Int) (hL : Lies w a l) (hn : l.length = len) (hb : ∀ k, 0 ≤ l.getD k 0 ∧ l.getD k 0 ≤ 255) (hm : len ≤ maxLen) :
  Calls Tryz.prog 21 #[.slice a len cap] w (Tj w) := by
 obtain ⟨hsz, k0, r0⟩ := box2 w (.cells #[.slice none 0 0, .slice none 0 0] 28) #[.slice none 0 0] 25
 have b0 := Ba w (.cells #[.slice none 0 0, .slice none 0 0] 28) (.cells #[.slice none 0 0] 25)
 have KB := UC k0
 have KN := UC r0
 have HNEW := UC (Xc (cap := cap) l (hL.below b0) hn hb hm)
 have HM := UC hm
 have zb := VC (UB KN)
 clear hL hn hb hm hsz k0 r0
 go_enter Tryz.func21, Tryz.ntmps21
 go_wp2_with fail
 generalize (w.alloc (.cells #[.slice none 0 0, .slice none 0 0] 28)).alloc (.cells #[.slice none 0 0] 25) = W at *
 refine (UB HNEW).mono ?_
 rintro e w1 ⟨rfl, c1, L1, b1⟩
 replace KB := UC (UE b1 (UB KB))
 replace KN := UC (UE b1 (UB KN))
 have bb1 := UG b0 b1
 have zg1 := c1.lt
 have X := UC (CurX.start c1 L1)
 clear HNEW b0 b1 c1 L1
 go_wp2_with fail
 refine (Vh (UB X).cur (UB X).code (UB HM)).mono ?_
 rintro e w2 ⟨vo, vr, o, rs, rfl, zt, hnm, c2, g2⟩
 obtain ⟨za, zc, rfl, _⟩ := zt.hasZ.name.form
 obtain ⟨ya, yc, rfl, _⟩ := zt.hasZ.recs.form
 have ZT := UC zt
 have HNM := UC hnm
 clear zt hnm
 replace KB := UC (Ab g2 (UB KB) (by simp; omega))
 replace KN := UC (Ab g2 (UB KN) (by simp; omega))
 replace X := UC ((UB X).step c2 g2)
 have z2 := g2.size
 clear c2 g2
 have KR := UC (heap_alloc_new w2 (.cells #[.slice za o.length zc, .slice ya rs.length yc] 28))
 have ba := UI (w := w2) (.cells #[.slice za o.length zc, .slice ya rs.length yc] 28)
 replace X := UC ((UB X).below ba)
 replace KB := UC (UE ba (UB KB))
 replace KN := UC (UE ba (UB KN))
 replace ZT := UC ((UB ZT).below ba)
 have zr := VC (UB KR)
 clear ba
 go_wp2_with fail
 generalize w2.alloc (.cells #[.slice za o.length zc, .slice ya rs.length yc] 28) = W3 at *
 refine (El 6 (UB X).cur (UB X).code (UB HM) (by omega) (by omega)).mono ?_
 rintro e w4 ⟨bent, rfl, c4, g4⟩
 replace KB := UC (Ab g4 (UB KB) (by simp; omega))
 replace KN := UC (Ab g4 (UB KN) (by simp; omega))
 replace KR := UC (Ab g4 (UB KR) (by simp; omega))
 replace ZT := UC ((UB ZT).cur (UB X).cur g4)
 replace X := UC ((UB X).step c4 g4)
 have z4 := g4.size
 clear c4 g4
 cases bent
 ·-- a name of the house
  go_upto_region 5 with fail
  have bd := UX (w := w4)
  replace X := UC ((UB X).below bd)
  replace KB := UC (UE bd (UB KB))
  replace KN := UC (UE bd (UB KN))
  replace KR := UC (UE bd (UB KR))
  replace ZT := UC ((UB ZT).below bd)
  have zd := bd.size
  clear bd
  refine Jn [0, 1, 3, 2, 4, 5, 6, 7] (by kernel_rfl) ⟨by kernel_rfl, by kernel_rfl, by kernel_rfl, by kernel_rfl⟩ 10 [(0, fun w' => (fun w' => w'.cell? ⟨w2.heap.size, 0, none⟩ = some (.slice za o.length zc) ∧ w'.cell? ⟨w2.heap.size, 1, none⟩ = some (.slice ya rs.length yc)) w')] (fun hA => ?_)
  replace hA := UC hA
  go_simp
  generalize hWD : w4.drew = WD at *
  clear hWD
  refine Ge ?_ (UB hA) rfl rfl rfl (by rfl) (fun _ _ _ h => h) (.head _) (UM (UB KR)) ?_ ?_; rotate_left; (· (intro w hSw; (try dsimp only at hSw); go_simp <;> with_reducible rfl)); go_simp
  repeat ((first | (refine VN ?_ (UB hA) rfl rfl rfl (by rfl) (fun _ _ _ h => h) ?_ ?_; rotate_left; · (intro w; go_simp <;> with_reducible rfl)) | refine VM (UB hA) rfl rfl (by rfl) (fun _ _ _ h => h) ?_); go_simp)
  refine runC (UB hA) rfl rfl (by kernel_rfl) (by kernel_rfl) (fun K hK => ?_)
  have HK := UC hK
  clear hK
  go_simp
  refine (It (UB X).cur (UB X).code (UB HM)).mono ?_
  rintro e u1 ⟨v3, n, rfl, hn3, on, cn, gn⟩
  obtain ⟨na, nc, rfl, _⟩ := on.hasL.form
  have N := UC (on.ownT.mono (Nat.zero_le _))
  have hns := Ce hn3
  have HNS := UC (show n.length ≤ 7 ∧ ∀ i, i < n.length → (n.getD i []).length ≤ 16 from ⟨by have := hns.1; omega, fun i hi => by have := hns.2 i hi; omega⟩)
  clear hn3 hns
  replace KB := UC (Ab gn (UB KB) (by simp; omega))
  replace KN := UC (Ab gn (UB KN) (by simp; omega))
  replace KR := UC (Ab gn (UB KR) (by simp; omega))
  replace ZT := UC ((UB ZT).cur (UB X).cur gn)
  replace X := UC ((UB X).step cn gn)
  have zn := gn.size
  clear cn gn on
  refine (UB HK).out _ _ (Av (UM (UB KR)) VL) ?_
  clear HK K
  go_simp
  repeat ((first | (refine VN ?_ (UB hA) rfl rfl rfl (by rfl) (fun _ _ _ h => h) ?_ ?_; rotate_left; · (intro w; go_simp <;> with_reducible rfl)) | refine VM (UB hA) rfl rfl (by rfl) (fun _ _ _ h => h) ?_); go_simp)
  refine runC (UB hA) rfl rfl (by kernel_rfl) (by kernel_rfl) (fun K hK => ?_)
  have HK := UC hK
  clear hK
  go_simp
  refine (Pd (UB X).cur (UB X).code (UB HM)).mono ?_
  rintro e u2 ⟨t, rfl, ct, gt⟩
  replace KB := UC (Ab gt (UB KB) (by simp; omega))
  replace KN := UC (Ab gt (UB KN) (by simp; omega))
  replace KR := UC (Ab gt (UB KR) (by simp; omega))
  replace ZT := UC ((UB ZT).cur (UB X).cur gt)
  replace N := UC ((UB N).cur (UB X).cur gt)
  replace X := UC ((UB X).step ct gt)
  have zt := gt.size
  clear ct gt
  obtain ⟨d0, d1⟩ := UM (UB KB)
  obtain ⟨f0, f1⟩ := Ao (UB KB)
  have c0 := US (UB KN)
  have f2 := VG (UB KN) 0
  refine (UB HK).out _ _ (Av (UM (UB KR)) VL) ?_
  clear HK K
  go_simp
  repeat ((first | (refine VN ?_ (UB hA) rfl rfl rfl (by rfl) (fun _ _ _ h => h) ?_ ?_; rotate_left; · (intro w; go_simp <;> with_reducible rfl)) | refine VM (UB hA) rfl rfl (by rfl) (fun _ _ _ h => h) ?_); go_simp)
  refine runC (UB hA) rfl rfl (by kernel_rfl) (by kernel_rfl) (fun K hK => ?_)
  have HK := UC hK
  clear hK
  go_simp
  refine (UB HK).out _ _ (VB (by kernel_rfl) VL) ?_
  clear HK K
  go_simp
  clear d0 d1 f0 f1
  have gs := Ae (Aa u2 ⟨w.heap.size, 0, none⟩ (.slice za o.length zc)) (Aa _ ⟨w.heap.size, 1, none⟩ (.slice ya rs.length yc))
  have KB2 := UC (UV (UV (UB KB) 0 (.slice za o.length zc)) 1 (.slice ya rs.length yc))
  have BB := Cl bb1 (UB X).grown (fun j e => by cases e; omega)
  have BB2 := Cl BB gs (fun j e => by cases e; exact Nat.le_refl _)
  replace ZT := UC ((UB ZT).off (UB KB) (by decide) gs)
  replace N := UC ((UB N).off (UB KB) (by decide) (by decide) gs)
  replace KN := UC (Ab gs (UB KN) (by simp))
  have KB : Hid (((u2.setCell ⟨w.heap.size, 0, none⟩ (.slice za o.length zc)).setCell ⟨w.heap.size, 1, none⟩ (.slice ya rs.length yc)).heap[w.heap.size]? = some (.cells #[.slice za o.length zc, .slice ya rs.length yc] 28)) := KB2
  clear gs KB2 BB X KR bb1
  generalize (u2.setCell ⟨w.heap.size, 0, none⟩ (.slice za o.length zc)).setCell ⟨w.heap.size, 1, none⟩ (.slice ya rs.length yc) = u3 at *
  clear c0 f2
  have c0 := US (UB KN)
  have f2 := VG (UB KN) 0
  refine runC (UB hA) rfl rfl (by kernel_rfl) (by kernel_rfl) (fun K hK => ?_)
  have HK := UC hK
  clear hK
  go_simp
  refine (UB HK).out _ _ (VB (by kernel_rfl) VL) ?_
  clear HK K
  go_simp
  clear c0 f2
  have gs := Aa u3 ⟨w.heap.size + 1, 0, none⟩ (.slice na n.length nc)
  have BF := Cl BB2 gs (fun j e => by cases e; exact Nat.le_succ _)
  have ZF := (UB ZT).off (UB KN) (by decide) gs
  have NF := (UB N).off (UB KN) (by decide) (by decide) gs
  have KF := Ab gs (UB KB) (by simp)
  have KNF := At (UB KN) (.slice na n.length nc)
  first | skip
  repeat ((first | (refine VN ?_ (UB hA) rfl rfl rfl (by rfl) (fun _ _ _ h => h) ?_ ?_; rotate_left; · (intro w; go_simp <;> with_reducible rfl)) | refine VM (UB hA) rfl rfl (by rfl) (fun _ _ _ h => h) ?_); go_simp)
  refine Pb (UB hA) rfl ?_
  clear hA
  go_wp2_with fail
  refine bodyPost_ret (Ij rfl _ _ w.heap.size (w.heap.size + 1) 28 25 #[.slice za o.length zc, .slice ya rs.length yc] #[.slice na n.length nc] (0, 0) (0, 0) _ _ rfl KF rfl KNF Tryz.underlying28 rfl (by kernel_rfl) Tryz.underlying25 rfl (by kernel_rfl)) rfl ?_
  exact ⟨_, _, o, rs, _, n, t, rfl, ZF, UB HNM, NF, UB HNS, BF⟩
 ·-- any name
  go_upto_region 4 with fail
  have bd := UX (w := w4)
  replace X := UC ((UB X).below bd)
  replace KB := UC (UE bd (UB KB))
  replace KN := UC (UE bd (UB KN))
  replace KR := UC (UE bd (UB KR))
  replace ZT := UC ((UB ZT).below bd)
  have zd := bd.size
  clear bd
  refine Jn [0, 1, 3, 2, 4, 5, 6, 7] (by kernel_rfl) ⟨by kernel_rfl, by kernel_rfl, by kernel_rfl, by kernel_rfl⟩ 10 [(0, fun w' => (fun w' => w'.cell? ⟨w2.heap.size, 0, none⟩ = some (.slice za o.length zc) ∧ w'.cell? ⟨w2.heap.size, 1, none⟩ = some (.slice ya rs.length yc)) w')] (fun hA => ?_)
  replace hA := UC hA
  go_simp
  generalize hWD : w4.drew = WD at *
  clear hWD
  refine Ge ?_ (UB hA) rfl rfl rfl (by rfl) (fun _ _ _ h => h) (.head _) (UM (UB KR)) ?_ ?_; rotate_left; (· (intro w hSw; (try dsimp only at hSw); go_simp <;> with_reducible rfl)); go_simp
  repeat ((first | (refine VN ?_ (UB hA) rfl rfl rfl (by rfl) (fun _ _ _ h => h) ?_ ?_; rotate_left; · (intro w; go_simp <;> with_reducible rfl)) | refine VM (UB hA) rfl rfl (by rfl) (fun _ _ _ h => h) ?_); go_simp)
  refine runC (UB hA) rfl rfl (by kernel_rfl) (by kernel_rfl) (fun K hK => ?_)
  have HK := UC hK
  clear hK
  go_simp
  refine (Gv (UB X).cur (UB X).code (UB HM)).mono ?_
  rintro e u1 ⟨v3, n, rfl, hn7, hn16, on, cn, gn⟩
  obtain ⟨na, nc, rfl, _⟩ := on.hasL.form
  have N := UC (on.mono (Nat.zero_le _))
  have HNS := UC (show n.length ≤ 7 ∧ ∀ i, i < n.length → (n.getD i []).length ≤ 16 from ⟨hn7, hn16⟩)
  clear hn7 hn16
  replace KB := UC (Ab gn (UB KB) (by simp; omega))
  replace KN := UC (Ab gn (UB KN) (by simp; omega))
  replace KR := UC (Ab gn (UB KR) (by simp; omega))
  replace ZT := UC ((UB ZT).cur (UB X).cur gn)
  replace X := UC ((UB X).step cn gn)
  have zn := gn.size
  clear cn gn on
  refine (UB HK).out _ _ (Av (UM (UB KR)) VL) ?_
  clear HK K
  go_simp
  repeat ((first | (refine VN ?_ (UB hA) rfl rfl rfl (by rfl) (fun _ _ _ h => h) ?_ ?_; rotate_left; · (intro w; go_simp <;> with_reducible rfl)) | refine VM (UB hA) rfl rfl (by rfl) (fun _ _ _ h => h) ?_); go_simp)
  refine runC (UB hA) rfl rfl (by kernel_rfl) (by kernel_rfl) (fun K hK => ?_)
  have HK := UC hK
  clear hK
  go_simp
  refine (Pd (UB X).cur (UB X).code (UB HM)).mono ?_
  rintro e u2 ⟨t, rfl, ct, gt⟩
  replace KB := UC (Ab gt (UB KB) (by simp; omega))
  replace KN := UC (Ab gt (UB KN) (by simp; omega))
  replace KR := UC (Ab gt (UB KR) (by simp; omega))
  replace ZT := UC ((UB ZT).cur (UB X).cur gt)
  replace N := UC ((UB N).cur (UB X).cur gt)
  replace X := UC ((UB X).step ct gt)
  have zt := gt.size
  clear ct gt
  obtain ⟨d0, d1⟩ := UM (UB KB)
  obtain ⟨f0, f1⟩ := Ao (UB KB)
  have c0 := US (UB KN)
  have f2 := VG (UB KN) 0
  refine (UB HK).out _ _ (Av (UM (UB KR)) VL) ?_
  clear HK K
  go_simp
  repeat ((first | (refine VN ?_ (UB hA) rfl rfl rfl (by rfl) (fun _ _ _ h => h) ?_ ?_; rotate_left; · (intro w; go_simp <;> with_reducible rfl)) | refine VM (UB hA) rfl rfl (by rfl) (fun _ _ _ h => h) ?_); go_simp)
  refine runC (UB hA) rfl rfl (by kernel_rfl) (by kernel_rfl) (fun K hK => ?_)
  have HK := UC hK
  clear hK
  go_simp
  refine (UB HK).out _ _ (VB (by kernel_rfl) VL) ?_
  clear HK K
  go_simp
  clear d0 d1 f0 f1
  have gs := Ae (Aa u2 ⟨w.heap.size, 0, none⟩ (.slice za o.length zc)) (Aa _ ⟨w.heap.size, 1, none⟩ (.slice ya rs.length yc))
  have KB2 := UC (UV (UV (UB KB) 0 (.slice za o.length zc)) 1 (.slice ya rs.length yc))
  have BB := Cl bb1 (UB X).grown (fun j e => by cases e; omega)
  have BB2 := Cl BB gs (fun j e => by cases e; exact Nat.le_refl _)
  replace ZT := UC ((UB ZT).off (UB KB) (by decide) gs)
  replace N := UC ((UB N).off (UB KB) (by decide) (by decide) gs)
  replace KN := UC (Ab gs (UB KN) (by simp))
  have KB : Hid (((u2.setCell ⟨w.heap.size, 0, none⟩ (.slice za o.length zc)).setCell ⟨w.heap.size, 1, none⟩ (.slice ya rs.length yc)).heap[w.heap.size]? = some (.cells #[.slice za o.length zc, .slice ya rs.length yc] 28)) := KB2
  clear gs KB2 BB X KR bb1
  generalize (u2.setCell ⟨w.heap.size, 0, none⟩ (.slice za o.length zc)).setCell ⟨w.heap.size, 1, none⟩ (.slice ya rs.length yc) = u3 at *
  clear c0 f2
  have c0 := US (UB KN)
  have f2 := VG (UB KN) 0
  refine runC (UB hA) rfl rfl (by kernel_rfl) (by kernel_rfl) (fun K hK => ?_)
  have HK := UC hK
  clear hK
  go_simp
  refine (UB HK).out _ _ (VB (by kernel_rfl) VL) ?_
  clear HK K
  go_simp
  clear c0 f2
  have gs := Aa u3 ⟨w.heap.size + 1, 0, none⟩ (.slice na n.length nc)
  have BF := Cl BB2 gs (fun j e => by cases e; exact Nat.le_succ _)
  have ZF := (UB ZT).off (UB KN) (by decide) gs
  have NF := (UB N).off (UB KN) (by decide) (by decide) gs
  have KF := Ab gs (UB KB) (by simp)
  have KNF := At (UB KN) (.slice na n.length nc)
  first | skip
  repeat ((first | (refine VN ?_ (UB hA) rfl rfl rfl (by rfl) (fun _ _ _ h => h) ?_ ?_; rotate_left; · (intro w; go_simp <;> with_reducible rfl)) | refine VM (UB hA) rfl rfl (by rfl) (fun _ _ _ h => h) ?_); go_simp)
  refine Pb (UB hA) rfl ?_
  clear hA
  go_wp2_with fail
  refine bodyPost_ret (Ij rfl _ _ w.heap.size (w.heap.size + 1) 28 25 #[.slice za o.length zc, .slice ya rs.length yc] #[.slice na n.length nc] (0, 0) (0, 0) _ _ rfl KF rfl KNF Tryz.underlying28 rfl (by kernel_rfl) Tryz.underlying25 rfl (by kernel_rfl)) rfl ?_
  exact ⟨_, _, o, rs, _, n, t, rfl, ZF, UB HNM, NF, UB HNS, BF⟩
set_option maxHeartbeats 4000000 in
set_option maxRecDepth 100000 in
theorem Mr {a : Option Addr} {len cap : Nat} {w : World} (l : List Int) (hL : Lies w a l) (hn : l.length = len) (hb : ∀ k, 0 ≤ l.getD k 0 ∧ l.getD k 0 ≤ 255) (hm : len ≤ maxLen) :
  Calls Tryz.prog 5 #[.slice a len cap] w (Tj w) := by
 obtain ⟨hsz, k0, r0⟩ := box2 w (.cells #[.slice none 0 0, .slice none 0 0] 28) #[.slice none 0 0] 25
 have b0 := Ba w (.cells #[.slice none 0 0, .slice none 0 0] 28) (.cells #[.slice none 0 0] 25)
 have KB := UC k0
 have KN := UC r0
 have HD := UC (Pk (cap := cap) l (hL.below b0) hn hb hm)
 have zb := VC (UB KN)
 clear hL hn hb hm hsz k0 r0
 go_enter Tryz.func5, Tryz.ntmps5
 go_wp2_with fail
 generalize (w.alloc (.cells #[.slice none 0 0, .slice none 0 0] 28)).alloc (.cells #[.slice none 0 0] 25) = W at *
 refine (UB HD).mono ?_
 rintro e w1 ⟨vo, vr, o, rs, v, n, t, rfl, zt, hnm, on, hns, b1⟩
 obtain ⟨za, zc, rfl, _⟩ := zt.hasZ.name.form
 obtain ⟨ya, yc, rfl, _⟩ := zt.hasZ.recs.form
 obtain ⟨na, nc, rfl, _⟩ := on.hasL.form
 have BB := UG b0 b1
 have k1 := UE b1 (UB KB)
 have n1 := UE b1 (UB KN)
 have zz1 := b1.size
 have gs := Ae (Aa w1 ⟨w.heap.size, 0, none⟩ (.slice za o.length zc)) (Aa _ ⟨w.heap.size, 1, none⟩ (.slice ya rs.length yc))
 have k2 := UV (UV k1 0 (.slice za o.length zc)) 1 (.slice ya rs.length yc)
 have n2 := Ab gs n1 (by simp)
 have gn := Aa ((w1.setCell ⟨w.heap.size, 0, none⟩ (.slice za o.length zc)).setCell ⟨w.heap.size, 1, none⟩ (.slice ya rs.length yc)) ⟨w.heap.size + 1, 0, none⟩ (.slice na n.length nc)
 have KF := UC (Ab gn k2 (by simp))
 have KNF := UC (At n2 (.slice na n.length nc))
 have ZF := UC ((zt.off k1 (by decide) gs).off n2 (by decide) gn)
 have NF := UC ((on.off k1 (by decide) (by decide) gs).off n2 (by decide) (by decide) gn)
 have BF := UC (Cl (Cl BB gs (fun j e => by cases e; exact Nat.le_refl _)) gn (fun j e => by cases e; exact Nat.le_succ _))
 have HNM := UC hnm
 have HNS := UC hns
 obtain ⟨d0, d1⟩ := UM k1
 obtain ⟨f0, f1⟩ := Ao k1
 have c0 := US n1
 have f2 := VG n1 0
 clear zt on gs gn k2 n2 hnm hns BB b1 b0 HD k1 n1
 go_wp2_with fail
 refine bodyPost_ret (Ij rfl _ _ w.heap.size (w.heap.size + 1) 28 25 #[.slice za o.length zc, .slice ya rs.length yc] #[.slice na n.length nc] (0, 0) (0, 0) _ _ rfl (UB KF) rfl (UB KNF) Tryz.underlying28 rfl (by kernel_rfl) Tryz.underlying25 rfl (by kernel_rfl)) rfl ?_
 exact ⟨_, _, o, rs, _, n, t, rfl, UB ZF, UB HNM, UB NF, UB HNS, UB BF⟩
def Dt (n : List (List Int)) (t : Int) (rs : List Rec) : List Rec := rs.filter (fun x => !Dr n t x)
def Bb (o : List (List Int)) (rs : List Rec) (n : List (List Int)) (t : Int) : (List (List Int) × List Rec) × Int :=
 if Ak o rs = true ∧ Af n = true ∧ Hj t = true then ((o, Dt n t rs), ((rs.filter (Dr n t)).length : Int)) else (([], []), 0)
theorem S9 {o n : List (List Int)} {rs : List Rec} (hz : Ak o rs = true) (t : Int) : (Dt n t rs).length ≤ 60 ∧ ∀ i, i < (Dt n t rs).length → rrOk ((Dt n t rs).getD i recZ) = true := by
 refine ⟨Nat.le_trans (List.length_filter_le _ _) (Au hz).2.2, fun i hi => ?_⟩
 have hm : (Dt n t rs).getD i recZ ∈ Dt n t rs := by
  rw [List.getD_eq_getElem?_getD, List.getElem?_eq_getElem hi]
  exact List.getElem_mem hi
 exact Jo hz _ (List.mem_filter.1 hm).1
theorem setB_Z {o n : List (List Int)} {rs : List Rec} (hz : Ak o rs = true) (hn : Af n = true) (t : Int) : setB n t (Cp rs) = selK n t rs rs.length := by
 unfold setB Cp
 have := Dp hz hn
 unfold keyR
 rw [this]
 exact Rq hz hn t
theorem J6 : ∀ {B : Bk}, Ci B → ∀ L : List Rec, Ci (dropAll L B).1
 | B, h, [] => h
 | B, h, r :: t => J6 (Ie h r) t
theorem Nm : ∀ (L : List Rec) (B : Bk), (dropAll L B).2 ≤ L.length
 | [], B => Nat.le_refl _
 | r :: t, B => by
  have := Nm t (Bs r B).1
  simp only [dropAll, List.length_cons]
  split <;> omega
theorem Kt : ∀ (L : List Rec) (B : Bk) (r : Rec), (dropAll (L ++ [r]) B).1 = (Bs r (dropAll L B).1).1 ∧ (dropAll (L ++ [r]) B).2 = (dropAll L B).2 + (Bs r (dropAll L B).1).2.toNat
 | [], B, r => by
  refine ⟨rfl, ?_⟩
  simp only [List.nil_append, dropAll]
  cases (Bs r B).2 <;> rfl
 | x :: t, B, r => by
  have := Kt t (Bs x B).1 r
  simp only [List.cons_append, dropAll]
  refine ⟨this.1, ?_⟩
  rw [this.2]
  omega
theorem Re {L : List Rec} {k : Nat} {B : Bk} (h : k < L.length) : (dropAll (L.take (k + 1)) B).1 = (Bs (L.getD k recZ) (dropAll (L.take k) B).1).1 ∧ (dropAll (L.take (k + 1)) B).2 = (dropAll (L.take k) B).2 + (Bs (L.getD k recZ) (dropAll (L.take k) B).1).2.toNat := by
 rw [Xw h]
 exact Kt _ _ _
def Fv (x : Int) : Int := (x + 1) % 4294967296
def Gq (r : Rec) : Rec := ⟨r.name, r.type, r.ttl, r.addr, r.to, r.text, r.nums.set 0 (Fv (r.nums.getD 0 0))⟩
def Cx (rs : List Rec) : List Rec := rs.map (fun r => if r.type = 6 then Gq r else r)
def Jm (o : List (List Int)) (rs : List Rec) : (List (List Int) × List Rec) × Bool := if Ak o rs = true then ((o, Cx rs), true) else (([], []), false)
theorem Wh (x : Int) (h0 : 0 ≤ x) (h1 : x ≤ 4294967295) : bits .and .i64 (x + 1) 4294967295 = Fv x := by
 unfold Fv
 obtain ⟨n, rfl⟩ := Int.eq_ofNat_of_zero_le h0
 have e : ((n : Int) + 1) = ((n + 1 : Nat) : Int) := by omega
 rw [e]
 show IntKind.i64.wrap ((BitVec.ofInt 64 ((n + 1 : Nat) : Int) &&& BitVec.ofInt 64 ((4294967295 : Nat) : Int)).toNat : Int) = _
 rw [BitVec.toNat_and, ofInt_u64 (n + 1) (by omega), ofInt_u64 4294967295 (by omega), nat_mask32]
 rw [Bl _ (by omega)]
 omega
theorem Gd (rs : List Rec) : (Cx rs).length = rs.length := by simp [Cx]
theorem Nn {rs : List Rec} : ∀ {n s : Nat}, s < n → (rs.getD s recZ).type = 6 → soas rs n ≤ 1 → ∀ j, j < n → (rs.getD j recZ).type = 6 → j = s
 | 0, _, hs, _, _ => by omega
 | n + 1, s, hs, h6, h1 => by
  intro j hj h6j
  unfold soas at h1
  have hpos : ∀ k m, k < m → (rs.getD k recZ).type = 6 → 0 < soas rs m := by
   intro k m hk hk6
   induction m with
   | zero => omega
   | succ m ih =>
    unfold soas
    by_cases e : k = m
    ·subst e
     rw [if_pos hk6]
     omega
    ·have := ih (by omega)
     omega
  by_cases es : s = n
  ·subst es
   rw [if_pos h6] at h1
   by_cases ej : j = s
   ·exact ej
   ·have := hpos j s (by omega) h6j
    omega
  ·by_cases ej : j = n
   ·subst ej
    rw [if_pos h6j] at h1
    have := hpos s j (by omega) h6
    omega
   ·exact Nn (n := n) (by omega) h6 (by split at h1 <;> omega) j (by omega) h6j
theorem Up {rs : List Rec} {s : Nat} (hs : s < rs.length) (h6 : (rs.getD s recZ).type = 6) (h1 : soas rs rs.length = 1) : rs.set s (Gq (rs.getD s recZ)) = Cx rs := by
 apply List.ext_getElem?
 intro j
 by_cases e : j = s
 ·subst e
  have hg : rs[j]? = some (rs.getD j recZ) := by simp [List.getD, hs]
  simp only [Cx, List.getElem?_map, hg, Option.map_some]
  rw [if_pos h6]
  simp [hs]
 ·rw [List.getElem?_set_ne (Ne.symm e)]
  by_cases hj : j < rs.length
  ·have hne : (rs.getD j recZ).type ≠ 6 := fun q => e (Nn hs h6 (by omega) j hj q)
   have hg : rs[j]? = some (rs.getD j recZ) := by simp [List.getD, hj]
   simp only [Cx, List.getElem?_map, hg, Option.map_some]
   rw [if_neg hne]
  ·simp [Cx, hj]
theorem Rz {B : Nat} {e : TypeId} {w : World} {v : Value} {a b : Value} (h : w.ownsRow B e 1 v 2 [a, b]) : ∃ q cap, v = .slice (some ⟨q, 0, none⟩) 2 cap ∧ B ≤ q ∧ (∃ cur, w.heap[q]? = some (.cells cur e)) ∧ w.cell? ⟨q, 0, none⟩ = some a ∧ w.frozen? ⟨q, 0, none⟩ = false ∧ ∀ z, (w.setCell ⟨q, 0, none⟩ z).ownsRow B e 1 v 2 [z, b] := by
 have h' := h
 rcases h.2 with ⟨_, h0⟩ | ⟨q, cap, cur, rfl, hB, hg, hn, hm, hs, ht⟩
 ·omega
 ·refine ⟨q, cap, rfl, hB, ⟨cur, hg⟩, ?_, VG hg 0, fun z => ?_⟩
  ·have := World.ownsRow.cellAt h' 0 (by omega)
   simpa using this
  ·refine ⟨rfl, .inr ⟨q, cap, _, rfl, hB, UV hg 0 z, hn, hm, by simpa using hs, ?_⟩⟩
   have hcs : cur.toList = a :: b :: cur.toList.drop 2 := by
    have h2 := List.take_append_drop 2 cur.toList
    have ht' : cur.toList.take 2 = [a, b] := by simpa using ht
    rw [ht'] at h2
    exact h2.symm
   rw [Array.toList_setIfInBounds, hcs]
   simp
theorem RowO.bump {B E : Nat} {er el eb ei : TypeId} {w : World} {v : Value} {rs : List Rec} {s : Nat} {x y : Int} (h : RowO B E er el eb ei w v rs) (hs : s < rs.length) (hn : (rs.getD s recZ).nums = [x, y]) :
  ∃ g q cap ic, v = .slice (some ⟨g, 0, none⟩) rs.length cap ∧ w.cell? ⟨g, s * 7 + 6, none⟩ = some (.slice (some ⟨q, 0, none⟩) 2 ic) ∧ B ≤ q ∧ q < E ∧ g < w.heap.size ∧ q < w.heap.size ∧ w.cell? ⟨q, 0, none⟩ = some (.int .i64 x) ∧ w.frozen? ⟨q, 0, none⟩ = false ∧
   ∀ z, RowO B E er el eb ei (w.setCell ⟨q, 0, none⟩ (.int .i64 z)) v (rs.set s ⟨(rs.getD s recZ).name, (rs.getD s recZ).type, (rs.getD s recZ).ttl, (rs.getD s recZ).addr, (rs.getD s recZ).to, (rs.getD s recZ).text, [z, y]⟩) := by
 obtain ⟨xs, f, g, ho, hq, hx⟩ := h
 have hx' := hx
 obtain ⟨hB1, hE1, hlow, hqk, vn, vt, vx, vi, hcs, hR⟩ := hx s hs
 obtain ⟨s1, s2, s3, a1, a2, a3, a4, h1, h2, h3, h4⟩ := hR
 rw [hn] at h4
 have h4' : w.ownsRow s3 ei 1 vi 2 [.int .i64 x, .int .i64 y] := h4.1
 obtain ⟨q, ic, rfl, hqB, ⟨cu, hcu⟩, c0, fz, hset⟩ := Rz h4'
 have hqE := h4.2 q rfl
 have ho' := ho
 rcases ho.2 with ⟨_, h0⟩ | ⟨b, cap, cur, rfl, hb, hg, hnc, hcm, hcz, htk⟩
 ·omega
 have hbs := hqk b rfl
 refine ⟨b, q, cap, ic, rfl, ?_, by omega, by omega, VC hg, VC hcu, c0, fz, fun z => ?_⟩
 ·rw [World.ownsRow.cellAt ho' (s * 7 + 6) (by omega)]
  exact hcs 6 _ rfl
 ·have u := UT w q 0 (.int .i64 z)
  refine RowO.mark (m := s) (xs := xs) (xs' := xs) (f := f) (g := g) (w := w) hs hq hx' (Hy ho u (fun k hk => ?_)) (fun _ _ _ _ => rfl) (vn := vn) (vt := vt) (vx := vx) (vi := .slice (some ⟨q, 0, none⟩) 2 ic) hcs ?_ ?_
  ·injection hk with hk
   have hk' : b = k := hk
   omega
  ·refine ⟨s1, s2, s3, a1, a2, a3, a4, h1.outside u (by omega), h2.outside u (by omega), h3.outside u (by omega), ?_, h4.2⟩
   exact hset (.int .i64 z)
  ·intro i hi hne un ut ux ui hO
   have hdis : g i ≤ f s ∨ g s ≤ f i := by
    by_cases hlt : i < s
    ·exact .inl (hlow i hlt)
    ·exact .inr ((hx' i hi).2.2.1 s (by omega))
   exact hO.outside u (by omega)
theorem Tt {B q : Nat} {e : TypeId} {w : World} {v : Value} {z : Value} (h : OwnI B e w v []) : OwnI B e (w.setCell ⟨q, 0, none⟩ z) v [] := by
 refine ⟨h.1, ?_⟩
 rcases h.2 with hn | ⟨g, cap, cur, hv, hb, hg, h1, h2, h3, h4⟩
 ·exact .inl hn
 ·by_cases e : q = g
  ·subst e
   exact .inr ⟨q, cap, _, hv, hb, UV hg 0 z, h1, h2, by simpa using h3, by simp⟩
  ·exact .inr ⟨g, cap, cur, hv, hb, Ab (Aa w ⟨q, 0, none⟩ z) hg (by simp; omega), h1, h2, h3, h4⟩
theorem RowQ.bump {B : Nat} {er el eb ei : TypeId} {w : World} {v : Value} {rs : List Rec} {s : Nat} {x y : Int} (h1 : er ≠ ei) (h2 : el ≠ ei) (h3 : eb ≠ ei) (h : RowQ B er el eb ei w v rs) (hs : s < rs.length) (hn : (rs.getD s recZ).nums = [x, y]) (ho : ∀ j, j < rs.length → j ≠ s → (rs.getD j recZ).nums = []) :
  ∃ g q cap ic, v = .slice (some ⟨g, 0, none⟩) rs.length cap ∧ w.cell? ⟨g, s * 7 + 6, none⟩ = some (.slice (some ⟨q, 0, none⟩) 2 ic) ∧ B ≤ q ∧ g < w.heap.size ∧ w.cell? ⟨q, 0, none⟩ = some (.int .i64 x) ∧ w.frozen? ⟨q, 0, none⟩ = false ∧ (∃ cu, w.heap[q]? = some (.cells cu ei)) ∧ q ≠ g ∧
   ∀ z, RowQ B er el eb ei (w.setCell ⟨q, 0, none⟩ (.int .i64 z)) v (rs.set s ⟨(rs.getD s recZ).name, (rs.getD s recZ).type, (rs.getD s recZ).ttl, (rs.getD s recZ).addr, (rs.getD s recZ).to, (rs.getD s recZ).text, [z, y]⟩) := by
 obtain ⟨xs, hr, hx⟩ := h
 obtain ⟨vn, vt, vx, vi, hcs, hR⟩ := hx s hs
 have h4 := hR.nums
 rw [hn] at h4
 have h4' : w.ownsRow B ei 1 vi 2 [.int .i64 x, .int .i64 y] := h4
 obtain ⟨q, ic, rfl, hqB, ⟨cu, hcu⟩, c0, fz, hset⟩ := Rz h4'
 have hr' := hr
 rcases hr.2 with ⟨_, h0⟩ | ⟨b, cap, cur, rfl, hb, hg, hnc, hcm, hcz, htk⟩
 ·omega
 refine ⟨b, q, cap, ic, rfl, ?_, hqB, VC hg, c0, fz, ⟨cu, hcu⟩, (fun e => by rw [e, hg] at hcu; simp at hcu; exact h1 hcu.2), fun z => ?_⟩
 ·rw [World.ownsRow.cellAt hr' (s * 7 + 6) (by omega)]
  exact hcs 6 _ rfl
 ·have gs := Aa w ⟨q, 0, none⟩ (.int .i64 z)
  have hoff : ∀ k, some q = some k → ∃ c t, w.heap[k]? = some (.cells c t) ∧ t ≠ el ∧ t ≠ eb := fun k e => by cases e; exact ⟨cu, ei, hcu, Ne.symm h2, Ne.symm h3⟩
  refine ⟨xs, by rw [List.length_set]; exact Cy hr' gs (fun k e => by cases e; exact ⟨cu, ei, hcu, Ne.symm h1⟩), fun i hi => ?_⟩
  rw [List.length_set] at hi
  by_cases e : i = s
  ·subst e
   have e1 : (rs.set i ⟨(rs.getD i recZ).name, (rs.getD i recZ).type, (rs.getD i recZ).ttl, (rs.getD i recZ).addr, (rs.getD i recZ).to, (rs.getD i recZ).text, [z, y]⟩).getD i recZ = ⟨(rs.getD i recZ).name, (rs.getD i recZ).type, (rs.getD i recZ).ttl, (rs.getD i recZ).addr, (rs.getD i recZ).to, (rs.getD i recZ).text, [z, y]⟩ := by simp [List.getD, hs]
   rw [e1]
   exact ⟨vn, vt, vx, .slice (some ⟨q, 0, none⟩) 2 ic, hcs, ⟨hR.name.offR gs hoff, hR.to.offR gs hoff, Cy hR.text gs (fun k e => by cases e; exact ⟨cu, ei, hcu, Ne.symm h3⟩), hset (.int .i64 z)⟩⟩
  ·obtain ⟨un, ut, ux, ui, q1, q2⟩ := hx i hi
   have e1 : ∀ r', (rs.set s r').getD i recZ = rs.getD i recZ := fun r' => by simp [List.getD, List.getElem?_set_ne (Ne.symm e)]
   rw [e1]
   refine ⟨un, ut, ux, ui, q1, ⟨q2.name.offR gs hoff, q2.to.offR gs hoff, Cy q2.text gs (fun k e => by cases e; exact ⟨cu, ei, hcu, Ne.symm h3⟩), ?_⟩⟩
   have hnil := ho i hi e
   have q2n := q2.nums
   rw [hnil] at q2n ⊢
   exact Tt q2n
theorem Pf {r : Rec} {x y : Int} (h : r.nums = [x, y]) : Gq r = ⟨r.name, r.type, r.ttl, r.addr, r.to, r.text, [Fv x, y]⟩ := by
 unfold Gq
 rw [h]
 rfl
theorem Xn {o : List (List Int)} {rs : List Rec} (h : Ak o rs = true) : ∃ s x y, s < rs.length ∧ (rs.getD s recZ).type = 6 ∧ (∀ j, j < s → (rs.getD j recZ).type ≠ 6) ∧ (∀ j, j < rs.length → j ≠ s → (rs.getD j recZ).type ≠ 6) ∧ (∀ j, j < rs.length → j ≠ s → (rs.getD j recZ).nums = []) ∧ (rs.getD s recZ).nums = [x, y] ∧ 0 ≤ x ∧ x ≤ 4294967295 ∧ Cx rs = rs.set s (Gq (rs.getD s recZ)) := by
 obtain ⟨s, hs, h6, hb, _, _, hn⟩ := Ub h
 obtain ⟨ho, h60, hg, h1⟩ := of_decide_eq_true h
 obtain ⟨x, y, hxy⟩ := J4 hn
 have hok := (Di (hg s hs)).1
 unfold rrOk A6 at hok
 simp only [Bool.and_eq_true, h6, if_true] at hok
 have hd := of_decide_eq_true hok.2.2.2.2.2.2
 rw [hxy] at hd
 have hne : ∀ j, j < rs.length → j ≠ s → (rs.getD j recZ).type ≠ 6 := fun j hj e q => e (Nn hs h6 (by omega) j hj q)
 refine ⟨s, x, y, hs, h6, hb, hne, fun j hj e => ?_, hxy, hd.2.1, hd.2.2.1, (Up hs h6 h1).symm⟩
 have hokj := (Di (hg j hj)).1
 unfold rrOk A6 at hokj
 simp only [Bool.and_eq_true] at hokj
 have hlast := hokj.2.2.2.2.2.2
 rw [if_neg (hne j hj e)] at hlast
 exact List.eq_nil_of_length_eq_zero (of_decide_eq_true hlast)
end Go.Proofs.YthobpbnaklnbiaaGreat
