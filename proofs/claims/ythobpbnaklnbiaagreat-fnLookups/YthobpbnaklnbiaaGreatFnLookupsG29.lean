/-
  Contracts of the specification's l5type, DrawSetOf, DrawLookup, DrawDropSet. Contract of the specification's DrawLookup. Plain facts: what Lookup answers. No program is named here. Plain facts: a record that may be is the same as itself. Plain facts: what Lookup answers is of the zone, and is what is asked for. No program is named here.
-/
import Derived.Test.YthobpbnaklnbiaaGreatFnLookupsG28
import Derived.Test.YthobpbnaklnbiaaGreatFnLookupsG12
import Derived.Deep.Cut
import Derived.Test.YthobpbnaklnbiaaGreatFnLookupsG11
import Derived.Test.YthobpbnaklnbiaaGreatFnLookupsG10
import Derived.Test.YthobpbnaklnbiaaGreatFnLookupsG07
namespace Go.Proofs.YthobpbnaklnbiaaGreat
open Go.RowKit
set_option linter.unusedVariables false

theorem results_cct {P : Program} {fn : Func} {p q r : Tmp} {ty ty2 : TypeId} (h : fn.results = #[.cell p ty, .cell q ty2, .tmp r]) (tmps : Array Value) (w : World) (g g2 : Nat) (t t2 : TypeId) (cs cs2 : Array Value) (fr fr2 : Nat × Nat) (d d2 : TypeDesc)
  (hp : tmps.getD p undef = .pointer (some ⟨g, 0, none⟩)) (hg : w.heap[g]? = some (.cells cs t fr)) (hq : tmps.getD q undef = .pointer (some ⟨g2, 0, none⟩)) (hg2 : w.heap[g2]? = some (.cells cs2 t2 fr2))
  (hu : P.underlying ty = some d) (hd : (match d with | .struct _ | .array _ _ => true | _ => false) = true) (hi : (P.info? ty).map (·.size) = some cs.size)
  (hu2 : P.underlying ty2 = some d2) (hd2 : (match d2 with | .struct _ | .array _ _ => true | _ => false) = true) (hi2 : (P.info? ty2).map (·.size) = some cs2.size) :
  (results fn tmps).run P w = .ok (.tuple #[.agg cs, .agg cs2, tmps.getD r undef]) w := by
 have hp' := hp
 have hq' := hq
 simp only [Array.getD_eq_getD_getElem?] at hp' hq'
 simp only [results, h]
 simp [hp', hq', asAddr, run_loadVar_row w g t ty cs fr d hg hu hd hi, run_loadVar_row w g2 t2 ty2 cs2 fr2 d2 hg2 hu2 hd2 hi2]
theorem l5type_any {g : Nat} {a : Option Addr} {len cap : Nat} {w : World} (hc : Cur w g a len cap) (hL : Code w g a len) (hm : len ≤ maxLen) :
  Calls Tryz.prog 51 #[.pointer (some ⟨g, 0, none⟩)] w fun e w' => ∃ t, e = .returned (.int .i64 t) ∧ Cur w' g a len cap ∧ w.grownBy w' (some g) := by
 have hg := hc.lt
 have HM := UC hm
 have X0 := CurX.start hc hL
 have bz := UI (w := w) (.cells #[.int .i64 1, .int .i64 1, .int .i64 2, .int .i64 5, .int .i64 255, .int .i64 6, .int .i64 16, .int .i64 28] 3)
 have KZ := UC (heap_alloc_new w (.cells #[.int .i64 1, .int .i64 1, .int .i64 2, .int .i64 5, .int .i64 255, .int .i64 6, .int .i64 16, .int .i64 28] 3))
 have X := UC (X0.below bz)
 have zz := VC (UB KZ)
 clear hc hL hm X0 bz
 go_enter Tryz.func51, Tryz.ntmps51
 go_wp2_with fail
 generalize w.alloc (.cells #[.int .i64 1, .int .i64 1, .int .i64 2, .int .i64 5, .int .i64 255, .int .i64 6, .int .i64 16, .int .i64 28] 3) = W at *
 refine (l1PickInt_any w.heap.size 8 (UB X).cur (UB X).code (UB HM) (by omega) (by omega) zz (by omega) (fun j hj => by match j, hj with | 0, _ => exact ⟨_, VE (UB KZ) 0⟩ | 1, _ => exact ⟨_, VE (UB KZ) 1⟩ | 2, _ => exact ⟨_, VE (UB KZ) 2⟩ | 3, _ => exact ⟨_, VE (UB KZ) 3⟩ | 4, _ => exact ⟨_, VE (UB KZ) 4⟩ | 5, _ => exact ⟨_, VE (UB KZ) 5⟩ | 6, _ => exact ⟨_, VE (UB KZ) 6⟩ | 7, _ => exact ⟨_, VE (UB KZ) 7⟩)).mono ?_
 rintro e w1 ⟨z, rfl, c1, g1⟩
 have X1 := (UB X).step c1 g1
 go_wp2_with fail
 go_ret
 exact ⟨z, rfl, X1.cur, X1.grown⟩
def DrawnSet (w : World) (e : Ending) (w' : World) : Prop := ∃ vo vr o rs v n t, e = .returned (.tuple #[.agg #[vo, vr], .agg #[v], .int .i64 t]) ∧ ZoneT w' vo vr o rs ∧ (∀ k, k < rs.length → (rs.getD k recZ).name.length ≤ 1048576) ∧ OwnT 0 22 5 w' v n ∧ (n.length ≤ 7 ∧ ∀ i, i < n.length → (n.getD i []).length ≤ 16) ∧ Below w.heap.size w w'
set_option maxHeartbeats 4000000 in
set_option maxRecDepth 100000 in
theorem drawSetOf_any {a : Option Addr} {len cap : Nat} {w : World} (l : List Int) (hL : Lies w a l) (hn : l.length = len) (hb : ∀ k, 0 ≤ l.getD k 0 ∧ l.getD k 0 ≤ 255) (hm : len ≤ maxLen) :
  Calls Tryz.prog 21 #[.slice a len cap] w (DrawnSet w) := by
 obtain ⟨hsz, k0, r0⟩ := box2 w (.cells #[.slice none 0 0, .slice none 0 0] 28) #[.slice none 0 0] 25
 have b0 := below2 w (.cells #[.slice none 0 0, .slice none 0 0] 28) (.cells #[.slice none 0 0] 25)
 have KB := UC k0
 have KN := UC r0
 have HNEW := UC (l1New_any (cap := cap) l (hL.below b0) hn hb hm)
 have HM := UC hm
 have zb := VC (UB KN)
 clear hL hn hb hm hsz k0 r0
 go_enter Tryz.func21, Tryz.ntmps21
 go_wp2_with fail
 generalize (w.alloc (.cells #[.slice none 0 0, .slice none 0 0] 28)).alloc (.cells #[.slice none 0 0] 25) = W at *
 refine (UB HNEW).mono ?_
 rintro e w1 ⟨rfl, c1, L1, b1⟩
 replace KB := UC (UE b1 (UB KB))
 replace KN := UC (UE b1 (UB KN))
 have bb1 := UG b0 b1
 have zg1 := c1.lt
 have X := UC (CurX.start c1 L1)
 clear HNEW b0 b1 c1 L1
 go_wp2_with fail
 refine (l5bent_any (UB X).cur (UB X).code (UB HM)).mono ?_
 rintro e w2 ⟨vo, vr, o, rs, rfl, zt, hnm, c2, g2⟩
 obtain ⟨za, zc, rfl, _⟩ := zt.hasZ.name.form
 obtain ⟨ya, yc, rfl, _⟩ := zt.hasZ.recs.form
 have ZT := UC zt
 have HNM := UC hnm
 clear zt hnm
 replace KB := UC (block_grown g2 (UB KB) (by simp; omega))
 replace KN := UC (block_grown g2 (UB KN) (by simp; omega))
 replace X := UC ((UB X).step c2 g2)
 have z2 := g2.size
 clear c2 g2
 have KR := UC (heap_alloc_new w2 (.cells #[.slice za o.length zc, .slice ya rs.length yc] 28))
 have ba := UI (w := w2) (.cells #[.slice za o.length zc, .slice ya rs.length yc] 28)
 replace X := UC ((UB X).below ba)
 replace KB := UC (UE ba (UB KB))
 replace KN := UC (UE ba (UB KN))
 replace ZT := UC ((UB ZT).below ba)
 have zr := VC (UB KR)
 clear ba
 go_wp2_with fail
 generalize w2.alloc (.cells #[.slice za o.length zc, .slice ya rs.length yc] 28) = W3 at *
 refine (l1Once_any 6 (UB X).cur (UB X).code (UB HM) (by omega) (by omega)).mono ?_
 rintro e w4 ⟨bent, rfl, c4, g4⟩
 replace KB := UC (block_grown g4 (UB KB) (by simp; omega))
 replace KN := UC (block_grown g4 (UB KN) (by simp; omega))
 replace KR := UC (block_grown g4 (UB KR) (by simp; omega))
 replace ZT := UC ((UB ZT).cur (UB X).cur g4)
 replace X := UC ((UB X).step c4 g4)
 have z4 := g4.size
 clear c4 g4
 cases bent
 ·-- a name of the house
  go_upto_region 5 with fail
  have bd := UX (w := w4)
  replace X := UC ((UB X).below bd)
  replace KB := UC (UE bd (UB KB))
  replace KN := UC (UE bd (UB KN))
  replace KR := UC (UE bd (UB KR))
  replace ZT := UC ((UB ZT).below bd)
  have zd := bd.size
  clear bd
  refine startC [0, 1, 3, 2, 4, 5, 6, 7] (by kernel_rfl) ⟨by kernel_rfl, by kernel_rfl, by kernel_rfl, by kernel_rfl⟩ 10 [(0, fun w' => (fun w' => w'.cell? ⟨w2.heap.size, 0, none⟩ = some (.slice za o.length zc) ∧ w'.cell? ⟨w2.heap.size, 1, none⟩ = some (.slice ya rs.length yc)) w')] (fun hA => ?_)
  replace hA := UC hA
  go_simp
  generalize hWD : w4.drew = WD at *
  clear hWD
  refine takeC ?_ (UB hA) rfl rfl rfl (by rfl) (fun _ _ _ h => h) (.head _) (UM (UB KR)) ?_ ?_; rotate_left; (· (intro w hSw; (try dsimp only at hSw); go_simp <;> with_reducible rfl)); go_simp
  repeat ((first | (refine VN ?_ (UB hA) rfl rfl rfl (by rfl) (fun _ _ _ h => h) ?_ ?_; rotate_left; · (intro w; go_simp <;> with_reducible rfl)) | refine VM (UB hA) rfl rfl (by rfl) (fun _ _ _ h => h) ?_); go_simp)
  refine runC (UB hA) rfl rfl (by kernel_rfl) (by kernel_rfl) (fun K hK => ?_)
  have HK := UC hK
  clear hK
  go_simp
  refine (l5owned_any (UB X).cur (UB X).code (UB HM)).mono ?_
  rintro e u1 ⟨v3, n, rfl, hn3, on, cn, gn⟩
  obtain ⟨na, nc, rfl, _⟩ := on.hasL.form
  have N := UC (on.ownT.mono (Nat.zero_le _))
  have hns := short_name hn3
  have HNS := UC (show n.length ≤ 7 ∧ ∀ i, i < n.length → (n.getD i []).length ≤ 16 from ⟨by have := hns.1; omega, fun i hi => by have := hns.2 i hi; omega⟩)
  clear hn3 hns
  replace KB := UC (block_grown gn (UB KB) (by simp; omega))
  replace KN := UC (block_grown gn (UB KN) (by simp; omega))
  replace KR := UC (block_grown gn (UB KR) (by simp; omega))
  replace ZT := UC ((UB ZT).cur (UB X).cur gn)
  replace X := UC ((UB X).step cn gn)
  have zn := gn.size
  clear cn gn on
  refine (UB HK).out _ _ (keepC_yes (UM (UB KR)) VL) ?_
  clear HK K
  go_simp
  repeat ((first | (refine VN ?_ (UB hA) rfl rfl rfl (by rfl) (fun _ _ _ h => h) ?_ ?_; rotate_left; · (intro w; go_simp <;> with_reducible rfl)) | refine VM (UB hA) rfl rfl (by rfl) (fun _ _ _ h => h) ?_); go_simp)
  refine runC (UB hA) rfl rfl (by kernel_rfl) (by kernel_rfl) (fun K hK => ?_)
  have HK := UC hK
  clear hK
  go_simp
  refine (l5type_any (UB X).cur (UB X).code (UB HM)).mono ?_
  rintro e u2 ⟨t, rfl, ct, gt⟩
  replace KB := UC (block_grown gt (UB KB) (by simp; omega))
  replace KN := UC (block_grown gt (UB KN) (by simp; omega))
  replace KR := UC (block_grown gt (UB KR) (by simp; omega))
  replace ZT := UC ((UB ZT).cur (UB X).cur gt)
  replace N := UC ((UB N).cur (UB X).cur gt)
  replace X := UC ((UB X).step ct gt)
  have zt := gt.size
  clear ct gt
  obtain ⟨d0, d1⟩ := UM (UB KB)
  obtain ⟨f0, f1⟩ := frozen2 (UB KB)
  have c0 := US (UB KN)
  have f2 := VG (UB KN) 0
  refine (UB HK).out _ _ (keepC_yes (UM (UB KR)) VL) ?_
  clear HK K
  go_simp
  repeat ((first | (refine VN ?_ (UB hA) rfl rfl rfl (by rfl) (fun _ _ _ h => h) ?_ ?_; rotate_left; · (intro w; go_simp <;> with_reducible rfl)) | refine VM (UB hA) rfl rfl (by rfl) (fun _ _ _ h => h) ?_); go_simp)
  refine runC (UB hA) rfl rfl (by kernel_rfl) (by kernel_rfl) (fun K hK => ?_)
  have HK := UC hK
  clear hK
  go_simp
  refine (UB HK).out _ _ (VB (by kernel_rfl) VL) ?_
  clear HK K
  go_simp
  clear d0 d1 f0 f1
  have gs := grown_trans (grown_setCell u2 ⟨w.heap.size, 0, none⟩ (.slice za o.length zc)) (grown_setCell _ ⟨w.heap.size, 1, none⟩ (.slice ya rs.length yc))
  have KB2 := UC (UV (UV (UB KB) 0 (.slice za o.length zc)) 1 (.slice ya rs.length yc))
  have BB := below_cursor bb1 (UB X).grown (fun j e => by cases e; omega)
  have BB2 := below_cursor BB gs (fun j e => by cases e; exact Nat.le_refl _)
  replace ZT := UC ((UB ZT).off (UB KB) (by decide) gs)
  replace N := UC ((UB N).off (UB KB) (by decide) (by decide) gs)
  replace KN := UC (block_grown gs (UB KN) (by simp))
  have KB : Hid (((u2.setCell ⟨w.heap.size, 0, none⟩ (.slice za o.length zc)).setCell ⟨w.heap.size, 1, none⟩ (.slice ya rs.length yc)).heap[w.heap.size]? = some (.cells #[.slice za o.length zc, .slice ya rs.length yc] 28)) := KB2
  clear gs KB2 BB X KR bb1
  generalize (u2.setCell ⟨w.heap.size, 0, none⟩ (.slice za o.length zc)).setCell ⟨w.heap.size, 1, none⟩ (.slice ya rs.length yc) = u3 at *
  clear c0 f2
  have c0 := US (UB KN)
  have f2 := VG (UB KN) 0
  refine runC (UB hA) rfl rfl (by kernel_rfl) (by kernel_rfl) (fun K hK => ?_)
  have HK := UC hK
  clear hK
  go_simp
  refine (UB HK).out _ _ (VB (by kernel_rfl) VL) ?_
  clear HK K
  go_simp
  clear c0 f2
  have gs := grown_setCell u3 ⟨w.heap.size + 1, 0, none⟩ (.slice na n.length nc)
  have BF := below_cursor BB2 gs (fun j e => by cases e; exact Nat.le_succ _)
  have ZF := (UB ZT).off (UB KN) (by decide) gs
  have NF := (UB N).off (UB KN) (by decide) (by decide) gs
  have KF := block_grown gs (UB KB) (by simp)
  have KNF := block_set (UB KN) (.slice na n.length nc)
  first | skip
  repeat ((first | (refine VN ?_ (UB hA) rfl rfl rfl (by rfl) (fun _ _ _ h => h) ?_ ?_; rotate_left; · (intro w; go_simp <;> with_reducible rfl)) | refine VM (UB hA) rfl rfl (by rfl) (fun _ _ _ h => h) ?_); go_simp)
  refine doneC (UB hA) rfl ?_
  clear hA
  go_wp2_with fail
  refine bodyPost_ret (results_cct rfl _ _ w.heap.size (w.heap.size + 1) 28 25 #[.slice za o.length zc, .slice ya rs.length yc] #[.slice na n.length nc] (0, 0) (0, 0) _ _ rfl KF rfl KNF Tryz.underlying28 rfl (by kernel_rfl) Tryz.underlying25 rfl (by kernel_rfl)) rfl ?_
  exact ⟨_, _, o, rs, _, n, t, rfl, ZF, UB HNM, NF, UB HNS, BF⟩
 ·-- any name
  go_upto_region 4 with fail
  have bd := UX (w := w4)
  replace X := UC ((UB X).below bd)
  replace KB := UC (UE bd (UB KB))
  replace KN := UC (UE bd (UB KN))
  replace KR := UC (UE bd (UB KR))
  replace ZT := UC ((UB ZT).below bd)
  have zd := bd.size
  clear bd
  refine startC [0, 1, 3, 2, 4, 5, 6, 7] (by kernel_rfl) ⟨by kernel_rfl, by kernel_rfl, by kernel_rfl, by kernel_rfl⟩ 10 [(0, fun w' => (fun w' => w'.cell? ⟨w2.heap.size, 0, none⟩ = some (.slice za o.length zc) ∧ w'.cell? ⟨w2.heap.size, 1, none⟩ = some (.slice ya rs.length yc)) w')] (fun hA => ?_)
  replace hA := UC hA
  go_simp
  generalize hWD : w4.drew = WD at *
  clear hWD
  refine takeC ?_ (UB hA) rfl rfl rfl (by rfl) (fun _ _ _ h => h) (.head _) (UM (UB KR)) ?_ ?_; rotate_left; (· (intro w hSw; (try dsimp only at hSw); go_simp <;> with_reducible rfl)); go_simp
  repeat ((first | (refine VN ?_ (UB hA) rfl rfl rfl (by rfl) (fun _ _ _ h => h) ?_ ?_; rotate_left; · (intro w; go_simp <;> with_reducible rfl)) | refine VM (UB hA) rfl rfl (by rfl) (fun _ _ _ h => h) ?_); go_simp)
  refine runC (UB hA) rfl rfl (by kernel_rfl) (by kernel_rfl) (fun K hK => ?_)
  have HK := UC hK
  clear hK
  go_simp
  refine (l2bent_any (UB X).cur (UB X).code (UB HM)).mono ?_
  rintro e u1 ⟨v3, n, rfl, hn7, hn16, on, cn, gn⟩
  obtain ⟨na, nc, rfl, _⟩ := on.hasL.form
  have N := UC (on.mono (Nat.zero_le _))
  have HNS := UC (show n.length ≤ 7 ∧ ∀ i, i < n.length → (n.getD i []).length ≤ 16 from ⟨hn7, hn16⟩)
  clear hn7 hn16
  replace KB := UC (block_grown gn (UB KB) (by simp; omega))
  replace KN := UC (block_grown gn (UB KN) (by simp; omega))
  replace KR := UC (block_grown gn (UB KR) (by simp; omega))
  replace ZT := UC ((UB ZT).cur (UB X).cur gn)
  replace X := UC ((UB X).step cn gn)
  have zn := gn.size
  clear cn gn on
  refine (UB HK).out _ _ (keepC_yes (UM (UB KR)) VL) ?_
  clear HK K
  go_simp
  repeat ((first | (refine VN ?_ (UB hA) rfl rfl rfl (by rfl) (fun _ _ _ h => h) ?_ ?_; rotate_left; · (intro w; go_simp <;> with_reducible rfl)) | refine VM (UB hA) rfl rfl (by rfl) (fun _ _ _ h => h) ?_); go_simp)
  refine runC (UB hA) rfl rfl (by kernel_rfl) (by kernel_rfl) (fun K hK => ?_)
  have HK := UC hK
  clear hK
  go_simp
  refine (l5type_any (UB X).cur (UB X).code (UB HM)).mono ?_
  rintro e u2 ⟨t, rfl, ct, gt⟩
  replace KB := UC (block_grown gt (UB KB) (by simp; omega))
  replace KN := UC (block_grown gt (UB KN) (by simp; omega))
  replace KR := UC (block_grown gt (UB KR) (by simp; omega))
  replace ZT := UC ((UB ZT).cur (UB X).cur gt)
  replace N := UC ((UB N).cur (UB X).cur gt)
  replace X := UC ((UB X).step ct gt)
  have zt := gt.size
  clear ct gt
  obtain ⟨d0, d1⟩ := UM (UB KB)
  obtain ⟨f0, f1⟩ := frozen2 (UB KB)
  have c0 := US (UB KN)
  have f2 := VG (UB KN) 0
  refine (UB HK).out _ _ (keepC_yes (UM (UB KR)) VL) ?_
  clear HK K
  go_simp
  repeat ((first | (refine VN ?_ (UB hA) rfl rfl rfl (by rfl) (fun _ _ _ h => h) ?_ ?_; rotate_left; · (intro w; go_simp <;> with_reducible rfl)) | refine VM (UB hA) rfl rfl (by rfl) (fun _ _ _ h => h) ?_); go_simp)
  refine runC (UB hA) rfl rfl (by kernel_rfl) (by kernel_rfl) (fun K hK => ?_)
  have HK := UC hK
  clear hK
  go_simp
  refine (UB HK).out _ _ (VB (by kernel_rfl) VL) ?_
  clear HK K
  go_simp
  clear d0 d1 f0 f1
  have gs := grown_trans (grown_setCell u2 ⟨w.heap.size, 0, none⟩ (.slice za o.length zc)) (grown_setCell _ ⟨w.heap.size, 1, none⟩ (.slice ya rs.length yc))
  have KB2 := UC (UV (UV (UB KB) 0 (.slice za o.length zc)) 1 (.slice ya rs.length yc))
  have BB := below_cursor bb1 (UB X).grown (fun j e => by cases e; omega)
  have BB2 := below_cursor BB gs (fun j e => by cases e; exact Nat.le_refl _)
  replace ZT := UC ((UB ZT).off (UB KB) (by decide) gs)
  replace N := UC ((UB N).off (UB KB) (by decide) (by decide) gs)
  replace KN := UC (block_grown gs (UB KN) (by simp))
  have KB : Hid (((u2.setCell ⟨w.heap.size, 0, none⟩ (.slice za o.length zc)).setCell ⟨w.heap.size, 1, none⟩ (.slice ya rs.length yc)).heap[w.heap.size]? = some (.cells #[.slice za o.length zc, .slice ya rs.length yc] 28)) := KB2
  clear gs KB2 BB X KR bb1
  generalize (u2.setCell ⟨w.heap.size, 0, none⟩ (.slice za o.length zc)).setCell ⟨w.heap.size, 1, none⟩ (.slice ya rs.length yc) = u3 at *
  clear c0 f2
  have c0 := US (UB KN)
  have f2 := VG (UB KN) 0
  refine runC (UB hA) rfl rfl (by kernel_rfl) (by kernel_rfl) (fun K hK => ?_)
  have HK := UC hK
  clear hK
  go_simp
  refine (UB HK).out _ _ (VB (by kernel_rfl) VL) ?_
  clear HK K
  go_simp
  clear c0 f2
  have gs := grown_setCell u3 ⟨w.heap.size + 1, 0, none⟩ (.slice na n.length nc)
  have BF := below_cursor BB2 gs (fun j e => by cases e; exact Nat.le_succ _)
  have ZF := (UB ZT).off (UB KN) (by decide) gs
  have NF := (UB N).off (UB KN) (by decide) (by decide) gs
  have KF := block_grown gs (UB KB) (by simp)
  have KNF := block_set (UB KN) (.slice na n.length nc)
  first | skip
  repeat ((first | (refine VN ?_ (UB hA) rfl rfl rfl (by rfl) (fun _ _ _ h => h) ?_ ?_; rotate_left; · (intro w; go_simp <;> with_reducible rfl)) | refine VM (UB hA) rfl rfl (by rfl) (fun _ _ _ h => h) ?_); go_simp)
  refine doneC (UB hA) rfl ?_
  clear hA
  go_wp2_with fail
  refine bodyPost_ret (results_cct rfl _ _ w.heap.size (w.heap.size + 1) 28 25 #[.slice za o.length zc, .slice ya rs.length yc] #[.slice na n.length nc] (0, 0) (0, 0) _ _ rfl KF rfl KNF Tryz.underlying28 rfl (by kernel_rfl) Tryz.underlying25 rfl (by kernel_rfl)) rfl ?_
  exact ⟨_, _, o, rs, _, n, t, rfl, ZF, UB HNM, NF, UB HNS, BF⟩
set_option maxHeartbeats 4000000 in
set_option maxRecDepth 100000 in
theorem drawLookup_any {a : Option Addr} {len cap : Nat} {w : World} (l : List Int) (hL : Lies w a l) (hn : l.length = len) (hb : ∀ k, 0 ≤ l.getD k 0 ∧ l.getD k 0 ≤ 255) (hm : len ≤ maxLen) :
  Calls Tryz.prog 14 #[.slice a len cap] w (DrawnSet w) := by
 obtain ⟨hsz, k0, r0⟩ := box2 w (.cells #[.slice none 0 0, .slice none 0 0] 28) #[.slice none 0 0] 25
 have b0 := below2 w (.cells #[.slice none 0 0, .slice none 0 0] 28) (.cells #[.slice none 0 0] 25)
 have KB := UC k0
 have KN := UC r0
 have HD := UC (drawSetOf_any (cap := cap) l (hL.below b0) hn hb hm)
 have zb := VC (UB KN)
 clear hL hn hb hm hsz k0 r0
 go_enter Tryz.func14, Tryz.ntmps14
 go_wp2_with fail
 generalize (w.alloc (.cells #[.slice none 0 0, .slice none 0 0] 28)).alloc (.cells #[.slice none 0 0] 25) = W at *
 refine (UB HD).mono ?_
 rintro e w1 ⟨vo, vr, o, rs, v, n, t, rfl, zt, hnm, on, hns, b1⟩
 obtain ⟨za, zc, rfl, _⟩ := zt.hasZ.name.form
 obtain ⟨ya, yc, rfl, _⟩ := zt.hasZ.recs.form
 obtain ⟨na, nc, rfl, _⟩ := on.hasL.form
 have BB := UG b0 b1
 have k1 := UE b1 (UB KB)
 have n1 := UE b1 (UB KN)
 have zz1 := b1.size
 have gs := grown_trans (grown_setCell w1 ⟨w.heap.size, 0, none⟩ (.slice za o.length zc)) (grown_setCell _ ⟨w.heap.size, 1, none⟩ (.slice ya rs.length yc))
 have k2 := UV (UV k1 0 (.slice za o.length zc)) 1 (.slice ya rs.length yc)
 have n2 := block_grown gs n1 (by simp)
 have gn := grown_setCell ((w1.setCell ⟨w.heap.size, 0, none⟩ (.slice za o.length zc)).setCell ⟨w.heap.size, 1, none⟩ (.slice ya rs.length yc)) ⟨w.heap.size + 1, 0, none⟩ (.slice na n.length nc)
 have KF := UC (block_grown gn k2 (by simp))
 have KNF := UC (block_set n2 (.slice na n.length nc))
 have ZF := UC ((zt.off k1 (by decide) gs).off n2 (by decide) gn)
 have NF := UC ((on.off k1 (by decide) (by decide) gs).off n2 (by decide) (by decide) gn)
 have BF := UC (below_cursor (below_cursor BB gs (fun j e => by cases e; exact Nat.le_refl _)) gn (fun j e => by cases e; exact Nat.le_succ _))
 have HNM := UC hnm
 have HNS := UC hns
 obtain ⟨d0, d1⟩ := UM k1
 obtain ⟨f0, f1⟩ := frozen2 k1
 have c0 := US n1
 have f2 := VG n1 0
 clear zt on gs gn k2 n2 hnm hns BB b1 b0 HD k1 n1
 go_wp2_with fail
 refine bodyPost_ret (results_cct rfl _ _ w.heap.size (w.heap.size + 1) 28 25 #[.slice za o.length zc, .slice ya rs.length yc] #[.slice na n.length nc] (0, 0) (0, 0) _ _ rfl (UB KF) rfl (UB KNF) Tryz.underlying28 rfl (by kernel_rfl) Tryz.underlying25 rfl (by kernel_rfl)) rfl ?_
 exact ⟨_, _, o, rs, _, n, t, rfl, UB ZF, UB HNM, UB NF, UB HNS, UB BF⟩
def handedOf (n : List (List Int)) (rs : List Rec) : Nat → List Rec
 | 0 => []
 | k + 1 => if 0 < (selK (n.drop k) 2 rs rs.length).length then selK (n.drop k) 2 rs rs.length else handedOf n rs k
def cutOf (n : List (List Int)) (rs : List Rec) : Nat → Option Nat
 | 0 => none
 | k + 1 => if 0 < (selK (n.drop k) 2 rs rs.length).length then some k else cutOf n rs k
theorem handed_cut (n : List (List Int)) (rs : List Rec) : ∀ k, (match cutOf n rs k with | none => handedOf n rs k = [] | some j => j < k ∧ handedOf n rs k = selK (n.drop j) 2 rs rs.length ∧ 0 < (handedOf n rs k).length)
 | 0 => rfl
 | k + 1 => by
  unfold cutOf handedOf
  by_cases h : 0 < (selK (n.drop k) 2 rs rs.length).length
  ·rw [if_pos h, if_pos h]
   exact ⟨by omega, rfl, h⟩
  ·rw [if_neg h, if_neg h]
   have ih := handed_cut n rs k
   cases hc : cutOf n rs k with
   | none => rw [hc] at ih; exact ih
   | some j => rw [hc] at ih; exact ⟨by omega, ih.2⟩
def lookB (o : List (List Int)) (rs : List Rec) (n : List (List Int)) (t : Int) : List Rec × Int :=
 if under n o = false then ([], 5) else
 if 0 < (handedOf n rs (n.length - o.length)).length then (handedOf n rs (n.length - o.length), 2) else
 if 0 < (selK n t rs rs.length).length then (selK n t rs rs.length, 0) else
 if 0 < (selK n 5 rs rs.length).length then (selK n 5 rs rs.length, 1) else
 if hasAny rs n = true then ([], 3) else ([], 4)
def lookupOf (o : List (List Int)) (rs : List Rec) (n : List (List Int)) (t : Int) : List Rec × Int :=
 if zoneOk o rs = true ∧ nameOk n = true ∧ asked t = true then lookB o rs n t else ([], 5)
theorem under_le {n o : List (List Int)} (h : under n o = true) : o.length ≤ n.length := by
 unfold under at h
 by_cases hl : n.length < o.length
 ·rw [endsWith_no hl] at h
  simp at h
 ·omega
theorem rrSame_self {r : Rec} (h : rrOk r = true) : rrSame r r = true := by
 unfold rrSame
 rw [h, cmpR_self]
 rfl
theorem sel_mem {n : List (List Int)} {t : Int} {rs : List Rec} {i : Nat} (hi : i < (selK n t rs rs.length).length) : ∃ j, j < rs.length ∧ (selK n t rs rs.length).getD i recZ = rs.getD j recZ ∧ selB n t (rs.getD j recZ) = true := by
 rw [selK_filter] at hi ⊢
 have hm : (rs.filter (selB n t))[i] ∈ rs.filter (selB n t) := List.getElem_mem hi
 rw [List.mem_filter] at hm
 obtain ⟨j, hj, e⟩ := List.getElem_of_mem hm.1
 have e2 : rs.getD j recZ = (rs.filter (selB n t))[i] := by rw [← e]; simp [hj]
 refine ⟨j, hj, ?_, by rw [e2]; exact hm.2⟩
 rw [e2, List.getD_eq_getElem?_getD, List.getElem?_eq_getElem hi, Option.getD_some]
theorem selB_parts {n : List (List Int)} {t : Int} {r : Rec} (h : selB n t r = true) : cmpN r.name n = 0 ∧ (t = 255 ∨ r.type = t) := by
 unfold selB at h
 simp only [Bool.and_eq_true, Bool.or_eq_true, beq_iff_eq] at h
 exact h
theorem sel_name {o n m : List (List Int)} {t : Int} {rs : List Rec} {j : Nat} (hz : zoneOk o rs = true) (hm : ByteL m) (hj : j < rs.length) (h : selB m t (rs.getD j recZ) = true) : (rs.getD j recZ).name = m :=
 (cmpN_zero (nameOk_bytes (rrOk_name (zone_oks hz j hj))) hm).1 (selB_parts h).1
theorem sel_one {n : List (List Int)} {t : Int} {rs : List Rec} {s : Nat} (h1 : selB n t (rs.getD s recZ) = true) (h0 : ∀ k, k < rs.length → k ≠ s → selB n t (rs.getD k recZ) = false) : ∀ m, m ≤ rs.length → (selK n t rs m).length = if s < m then 1 else 0
 | 0, _ => rfl
 | m + 1, hm => by
  have ih := sel_one h1 h0 m (by omega)
  unfold selK
  by_cases e : m = s
  ·subst e
   rw [if_pos h1, List.length_append, ih, if_neg (Nat.lt_irrefl _), if_pos (Nat.lt_succ_self _)]
   rfl
  ·rw [if_neg (by rw [h0 m (by omega) e]; exact Bool.false_ne_true), ih]
   by_cases hs : s < m
   ·rw [if_pos hs, if_pos (by omega)]
   ·rw [if_neg hs, if_neg (by omega)]
def LookR (o : List (List Int)) (rs : List Rec) (n : List (List Int)) (t : Int) (l : List Rec) (c : Int) : Prop :=
 (c = 5 ∧ l = []) ∨ (c = 0 ∧ l = setOf o rs n t ∧ 0 < l.length) ∨ (c = 1 ∧ l.length = 1 ∧ (l.getD 0 recZ).type = 5 ∧ (l.getD 0 recZ).name = n) ∨
 (c = 2 ∧ 0 < l.length ∧ (l.getD 0 recZ).type = 2 ∧ under n (l.getD 0 recZ).name = true ∧ nameText (l.getD 0 recZ).name ≠ nameText o) ∨
 (c = 3 ∧ l = [] ∧ hasNameOf o rs n = true ∧ (setOf o rs n t).length = 0) ∨ (c = 4 ∧ l = [] ∧ hasNameOf o rs n = false)
def OfZ (rs l : List Rec) : Prop := ∀ i, i < l.length → rrOk (l.getD i recZ) = true ∧ ∃ j, j < rs.length ∧ rrSame (rs.getD j recZ) (l.getD i recZ) = true
theorem ofZ_nil (rs : List Rec) : OfZ rs [] := fun i hi => absurd hi (Nat.not_lt_zero _)
theorem ofZ_sel {o n : List (List Int)} {t : Int} {rs : List Rec} (hz : zoneOk o rs = true) : OfZ rs (selK n t rs rs.length) := fun i hi => by
 obtain ⟨j, hj, e, _⟩ := sel_mem hi
 rw [e]
 have := zone_oks hz j hj
 exact ⟨this, j, hj, rrSame_self this⟩
theorem look_is {o n : List (List Int)} {t : Int} {rs : List Rec} (hz : zoneOk o rs = true) (hn : nameOk n = true) : LookR o rs n t (lookupOf o rs n t).1 (lookupOf o rs n t).2 ∧ OfZ rs (lookupOf o rs n t).1 := by
 have hset : setOf o rs n t = selK n t rs rs.length := by unfold setOf; rw [if_pos ⟨hz, hn⟩]
 have hnb := nameOk_bytes hn
 have ho := (of_decide_eq_true hz).1
 unfold lookupOf
 by_cases ha : asked t = true
 ·rw [if_pos ⟨hz, hn, ha⟩]
  unfold lookB
  by_cases hu : under n o = false
  ·rw [if_pos hu]; exact ⟨.inl ⟨rfl, rfl⟩, ofZ_nil _⟩
  rw [if_neg hu]
  by_cases hh : 0 < (handedOf n rs (n.length - o.length)).length
  ·rw [if_pos hh]
   have hc := handed_cut n rs (n.length - o.length)
   cases hcut : cutOf n rs (n.length - o.length) with
   | none => rw [hcut] at hc; dsimp only at hc; rw [hc] at hh; exact absurd hh (by simp)
   | some j =>
    rw [hcut] at hc
    dsimp only at hc
    obtain ⟨hj, e, _⟩ := hc
    rw [e] at hh ⊢
    dsimp only
    refine ⟨.inr (.inr (.inr (.inl ⟨rfl, hh, ?_⟩))), ofZ_sel hz⟩
    obtain ⟨s, hs, e2, hb⟩ := sel_mem hh
    rw [e2]
    have hbd : ByteL (n.drop j) := fun l hl => hnb l (List.mem_of_mem_drop hl)
    have hnm := sel_name (n := n) hz hbd hs hb
    have hok := rrOk_name (zone_oks hz s hs)
    refine ⟨(selB_parts hb).2.resolve_left (by decide), (under_iff hn hok).2 ⟨n.take j, by rw [hnm, List.take_append_drop]⟩, fun q => ?_⟩
    have q2 := (nameText_inj hok ho).1 q
    have := congrArg List.length q2
    rw [hnm, List.length_drop] at this
    omega
  rw [if_neg hh]
  by_cases hs : 0 < (selK n t rs rs.length).length
  ·rw [if_pos hs]
   exact ⟨.inr (.inl ⟨rfl, hset.symm, hs⟩), ofZ_sel hz⟩
  rw [if_neg hs]
  by_cases h5 : 0 < (selK n 5 rs rs.length).length
  ·rw [if_pos h5]
   dsimp only
   obtain ⟨s, hs5, e2, hb⟩ := sel_mem h5
   have hnm := sel_name (n := n) hz hnb hs5 hb
   have ht5 := (selB_parts hb).2.resolve_left (by decide)
   have hal := ((good_iff ho).1 (of_decide_eq_true hz).2.2.1 s hs5).alone ht5
   refine ⟨.inr (.inr (.inl ⟨rfl, ?_, by rw [e2]; exact ht5, by rw [e2]; exact hnm⟩)), ofZ_sel hz⟩
   rw [sel_one hb (fun k hk hne => ?_) _ (Nat.le_refl _), if_pos hs5]
   cases hq : selB n 5 (rs.getD k recZ) with
   | false => rfl
   | true =>
    have := sel_name (n := n) hz hnb hk hq
    exact absurd (by rw [this, hnm]; exact cmpN_self n) (hal k hk hne)
  rw [if_neg h5]
  by_cases hy : hasAny rs n = true
  ·rw [if_pos hy]
   exact ⟨.inr (.inr (.inr (.inr (.inl ⟨rfl, rfl, by unfold hasNameOf; rw [hz, hn, hy]; rfl, by rw [hset]; omega⟩)))), ofZ_nil _⟩
  ·rw [if_neg hy]
   exact ⟨.inr (.inr (.inr (.inr (.inr ⟨rfl, rfl, by unfold hasNameOf; rw [hz, hn]; simpa using hy⟩)))), ofZ_nil _⟩
 ·rw [if_neg (fun q => ha q.2.2)]
  exact ⟨.inl ⟨rfl, rfl⟩, ofZ_nil _⟩
theorem look_no {o n : List (List Int)} {t : Int} {rs : List Rec} (h : ¬ (zoneOk o rs = true ∧ nameOk n = true)) : lookupOf o rs n t = ([], 5) := by
 unfold lookupOf
 rw [if_neg (fun q => h ⟨q.1, q.2.1⟩)]
end Go.Proofs.YthobpbnaklnbiaaGreat
