/-
  Contract of the specification's l7drawClient: one of three texts. Contract of the specification's DrawOwner. Contracts of the program's copyBytes: new memory with the same bytes.
-/
import Derived.Test.YtfneahdnpmamkaaGreatFnOwnersG31
namespace Go.Proofs.YtfneahdnpmamkaaGreat
open Go.RowKit
set_option linter.unusedVariables false

def Eu : List ByteArray := [⟨#[109, 49]⟩, ⟨#[109, 50]⟩, ⟨#[109, 51]⟩]
theorem Sg : ∀ s ∈ Eu, s.size = 2 := by decide +kernel
theorem Ra {w : World} {b : Nat} {t : TypeId} (h : w.heap[b]? = some (.cells #[.string ⟨#[109, 49]⟩, .string ⟨#[109, 50]⟩, .string ⟨#[109, 51]⟩] t)) {k : Nat} (hk : k < 3) : ∃ s, s ∈ Eu ∧ w.cell? ⟨b, k, none⟩ = some (.string s) := by
 have hc := VE h k
 match k, hk with
 | 0, _ => exact ⟨⟨#[109, 49]⟩, by simp [Eu], hc⟩
 | 1, _ => exact ⟨⟨#[109, 50]⟩, by simp [Eu], hc⟩
 | 2, _ => exact ⟨⟨#[109, 51]⟩, by simp [Eu], hc⟩
set_option maxHeartbeats 1000000 in
set_option maxRecDepth 100000 in
theorem Gn {g : Nat} {a : Option Addr} {len cap : Nat} {w : World} (hc : Cur w g a len cap) (hL : Code w g a len) (hm : len ≤ maxLen) :
  Calls Tryz.prog 14 #[.pointer (some ⟨g, 0, none⟩)] w fun e w' => ∃ b c m, e = .returned (.slice (some ⟨b, 0, none⟩) 2 c) ∧ w.heap.size ≤ b ∧ b < w'.heap.size ∧ Has w' (.slice (some ⟨b, 0, none⟩) 2 c) m ∧ m.length = 2 ∧ Dd m ∧ Cur w' g a len cap ∧ w.grownBy w' (some g) := by
 have hg := hc.lt
 have ga := Au w (.cells #[.string ⟨#[109, 49]⟩, .string ⟨#[109, 50]⟩, .string ⟨#[109, 51]⟩] 9) (some g)
 have gn := Au w (.cells #[.string ⟨#[109, 49]⟩, .string ⟨#[109, 50]⟩, .string ⟨#[109, 51]⟩] 9) none
 have K0 := UC (heap_alloc_new w (.cells #[.string ⟨#[109, 49]⟩, .string ⟨#[109, 50]⟩, .string ⟨#[109, 51]⟩] 9))
 have HB := UC (A9 3 (hc.later gn (by simp)) (hL.later gn (by simp)) hm (by omega) (by omega))
 have G0 := UC ga
 clear hc hL ga gn
 go_enter Tryz.func14, Tryz.ntmps14
 go_wp2_with fail
 generalize w.alloc (.cells #[.string ⟨#[109, 49]⟩, .string ⟨#[109, 50]⟩, .string ⟨#[109, 51]⟩] 9) = W at *
 refine (UB HB).mono ?_
 rintro e w1 ⟨x, rfl, hx0, hx1, hc1, g1⟩
 obtain ⟨k, rfl⟩ := Int.eq_ofNat_of_zero_le hx0
 have hk' : (k : Int) < 3 := by omega
 obtain ⟨s, hs, cs⟩ := Ra (Aa g1 (UB K0) (by simp; omega)) (k := k) (by omega)
 have hsz := Sg s hs
 have hcv := run_bytes_of_string (P := Tryz.prog) w1 9 22 5 s Tryz.underlying9 Tryz.underlying22 Tryz.underlying5
 have hcap := grownCap_ge w1 s.size 0 5
 have hcap2 := grownCap_le_maxLen w1 s.size 0 5 (by unfold maxLen; omega)
 have hnl := Bq s
 generalize grownCap w1 s.size 0 5 = C at *
 have HS := UC (Hc w1.drew 5 s C ((bytesRow s C).size, (bytesRow s C).size + 1) hcap hcap2)
 have gd : w1.grownBy (w1.drew.alloc (.cells (bytesRow s C) 5 ((bytesRow s C).size, (bytesRow s C).size + 1))) none := Ad (F3 w1 1 none) (Au w1.drew _ none)
 have HC := UC (hc1.later gd (by simp))
 have HG := UC (Ae (Ad (UB G0) g1) gd (by simp))
 have H8 := UC (Gs s)
 have HNL := UC (show (Bz s).length = 2 by rw [hnl, hsz])
 have zz := (UB G0).size
 have z1 := g1.size
 have zl : w1.heap.size < (w1.drew.alloc (.cells (bytesRow s C) 5 ((bytesRow s C).size, (bytesRow s C).size + 1))).heap.size := by show w1.heap.size < (w1.heap.push _).size; simp
 have ZL := UC zl
 clear hc1 g1 gd HB G0 K0 hs hcap hcap2 hnl zl
 rw [hsz] at HS hcv
 go_wp2_with fail
 go_ret
 exact ⟨_, _, Bz s, rfl, by omega, UB ZL, UB HS, UB HNL, UB H8, UB HC, UB HG⟩
def Zj (w : World) (e : Ending) (w' : World) : Prop := ∃ vo vr o rs v n vi id, e = .returned (.tuple #[.agg #[vo, vr], .agg #[v], vi]) ∧ HasZ w' vo vr o rs ∧ (∀ k, k < rs.length → (rs.getD k recZ).name.length ≤ 1048576) ∧ HasL w' v n ∧ Ag n = true ∧ Has w' vi id ∧ Below w.heap.size w w'
theorem Ei {B q : Nat} {e : TypeId} {w w' : World} {v : Value} {l : List Int} (h : Own B e w v l) (hg : w.grownBy w' (some q)) (hq : q < B) : Own B e w' v l :=
 h.kept hg (.inr (fun x => by have := (h.lt q x).1; omega))
theorem V3 {o : List (List Int)} {rs : List Rec} {r : Rec} (hs : ∀ k, k < rs.length → (rs.getD k recZ).name.length ≤ 1048576) : ∀ k, k < (Ef o rs r).1.2.length → ((Ef o rs r).1.2.getD k recZ).name.length ≤ 1048576 := by
 unfold Ef
 by_cases h : Ar o rs = true ∧ rrOk r = true
 ·rw [if_pos h]
  by_cases h2 : Ar o (addL r rs false) = true
  ·rw [if_pos h2]; exact Of h.1 h.2
  ·rw [if_neg h2]; exact hs
 ·rw [if_neg h]; exact fun k hk => absurd hk (Nat.not_lt_zero _)
theorem Lu {P : Program} {fn : Func} {p q r : Tmp} {ty ty2 : TypeId} (h : fn.results = #[.cell p ty, .cell q ty2, .tmp r]) (tmps : Array Value) (w : World) (g g2 : Nat) (t t2 : TypeId) (cs cs2 : Array Value) (fr fr2 : Nat × Nat) (d d2 : TypeDesc)
  (hp : tmps.getD p undef = .pointer (some ⟨g, 0, none⟩)) (hg : w.heap[g]? = some (.cells cs t fr)) (hq : tmps.getD q undef = .pointer (some ⟨g2, 0, none⟩)) (hg2 : w.heap[g2]? = some (.cells cs2 t2 fr2))
  (hu : P.underlying ty = some d) (hd : (match d with | .struct _ | .array _ _ => true | _ => false) = true) (hi : (P.info? ty).map (·.size) = some cs.size)
  (hu2 : P.underlying ty2 = some d2) (hd2 : (match d2 with | .struct _ | .array _ _ => true | _ => false) = true) (hi2 : (P.info? ty2).map (·.size) = some cs2.size) :
  (results fn tmps).run P w = .ok (.tuple #[.agg cs, .agg cs2, tmps.getD r undef]) w := by
 have hp' := hp
 have hq' := hq
 simp only [Array.getD_eq_getD_getElem?] at hp' hq'
 simp only [results, h]
 simp [hp', hq', asAddr, run_loadVar_row w g t ty cs fr d hg hu hd hi, run_loadVar_row w g2 t2 ty2 cs2 fr2 d2 hg2 hu2 hd2 hi2]
set_option maxHeartbeats 8000000 in
set_option maxRecDepth 100000 in
theorem Ol {a : Option Addr} {len cap : Nat} {w : World} (l : List Int) (hL : Lies w a l) (hn : l.length = len) (hb : ∀ k, 0 ≤ l.getD k 0 ∧ l.getD k 0 ≤ 255) (hm : len ≤ maxLen) :
  Calls Tryz.prog 4 #[.slice a len cap] w (Zj w) := by
 obtain ⟨hsz, k0, r0⟩ := box2 w (.cells #[.slice none 0 0, .slice none 0 0] 28) #[.slice none 0 0] 25
 have b0 := Bl w (.cells #[.slice none 0 0, .slice none 0 0] 28) (.cells #[.slice none 0 0] 25)
 have KB := UC k0
 have KN := UC r0
 have HNEW := UC (Vm (cap := cap) l (hL.below b0) hn hb hm)
 have HM := UC hm
 have zb := VC (UB KN)
 clear hL hn hb hm hsz k0 r0
 go_enter Tryz.func4, Tryz.ntmps4
 go_wp2_with fail
 generalize (w.alloc (.cells #[.slice none 0 0, .slice none 0 0] 28)).alloc (.cells #[.slice none 0 0] 25) = W at *
 refine (UB HNEW).mono ?_
 rintro e w1 ⟨rfl, c1, L1, b1⟩
 replace KB := UC (UE b1 (UB KB))
 replace KN := UC (UE b1 (UB KN))
 have bb1 := UC (UG b0 b1)
 have zg1 := c1.lt
 have X := UC (CurX.start c1 L1)
 clear HNEW b0 b1 c1 L1
 go_wp2_with fail
 refine (Tp (UB X).cur (UB X).code (UB HM)).mono ?_
 rintro e w2 ⟨vo, vr, o, rs, rfl, zt, hnm, c2, g2⟩
 obtain ⟨za, zc, rfl, _⟩ := zt.hasZ.name.form
 obtain ⟨ya, yc, rfl, _⟩ := zt.hasZ.recs.form
 have Z := UC zt
 have HNM := UC hnm
 clear zt hnm
 replace KB := UC (Aa g2 (UB KB) (by simp; omega))
 replace KN := UC (Aa g2 (UB KN) (by simp; omega))
 replace X := UC ((UB X).step c2 g2)
 have z2 := g2.size
 clear c2 g2
 have KR := UC (heap_alloc_new w2 (.cells #[.slice za o.length zc, .slice ya rs.length yc] 28))
 have ba := UI (w := w2) (.cells #[.slice za o.length zc, .slice ya rs.length yc] 28)
 replace X := UC ((UB X).below ba)
 replace KB := UC (UE ba (UB KB))
 replace KN := UC (UE ba (UB KN))
 replace Z := UC ((UB Z).below ba)
 have zr := VC (UB KR)
 clear ba
 go_wp2_with fail
 generalize w2.alloc (.cells #[.slice za o.length zc, .slice ya rs.length yc] 28) = W3 at *
 refine (Ig (UB X).cur (UB X).code (UB HM)).mono ?_
 rintro e w4 ⟨vn, n, rfl, hnok, on, c4, g4⟩
 obtain ⟨na, nc, rfl, _⟩ := on.hasL.form
 have N := UC (on.ownT.mono (Nat.zero_le _))
 have HOK := UC hnok
 replace KB := UC (Aa g4 (UB KB) (by simp; omega))
 replace KN := UC (Aa g4 (UB KN) (by simp; omega))
 replace KR := UC (Aa g4 (UB KR) (by simp; omega))
 replace Z := UC ((UB Z).cur (UB X).cur g4)
 replace X := UC ((UB X).step c4 g4)
 have z4 := g4.size
 clear c4 g4 on hnok
 have KQ := UC (heap_alloc_new w4 (.cells #[.slice na n.length nc] 25))
 have ba := UI (w := w4) (.cells #[.slice na n.length nc] 25)
 replace X := UC ((UB X).below ba)
 replace KB := UC (UE ba (UB KB))
 replace KN := UC (UE ba (UB KN))
 replace KR := UC (UE ba (UB KR))
 replace Z := UC ((UB Z).below ba)
 replace N := UC ((UB N).below ba)
 have zq := VC (UB KQ)
 clear ba
 go_upto_region 4 with fail
 generalize w4.alloc (.cells #[.slice na n.length nc] 25) = W5 at *
 have bd := UX (w := W5)
 replace KB := UC (UE bd (UB KB))
 replace KN := UC (UE bd (UB KN))
 replace KR := UC (UE bd (UB KR))
 replace KQ := UC (UE bd (UB KQ))
 replace Z := UC ((UB Z).below bd)
 replace N := UC ((UB N).below bd)
 replace X := UC ((UB X).below bd)
 have zd := bd.size
 clear bd
 refine Hx [0, 2, 1, 3, 4] (by kernel_rfl) ⟨by kernel_rfl, by kernel_rfl, by kernel_rfl, by kernel_rfl⟩ 10 [(2, fun w' => w'.cell? ⟨w4.heap.size, 0, none⟩ = some (.slice na n.length nc))] (fun hA => ?_)
 replace hA := UC hA
 go_simp
 generalize hWD : W5.drew = W6 at *
 clear hWD
 repeat ((first | (refine VN ?_ (UB hA) rfl rfl rfl (by rfl) (fun _ _ _ h => h) ?_ ?_; rotate_left; · (intro w; go_simp <;> with_reducible rfl)) | refine VM (UB hA) rfl rfl (by rfl) (fun _ _ _ h => h) ?_); go_simp)
 refine Hj ?_ (UB hA) rfl rfl rfl (by rfl) (fun _ _ _ h => h) (.head _) (US (UB KQ)) ?_ ?_; rotate_left; (· (intro w hSw; (try dsimp only at hSw); go_simp <;> with_reducible rfl)); go_simp
 repeat ((first | (refine VN ?_ (UB hA) rfl rfl rfl (by rfl) (fun _ _ _ h => h) ?_ ?_; rotate_left; · (intro w; go_simp <;> with_reducible rfl)) | refine VM (UB hA) rfl rfl (by rfl) (fun _ _ _ h => h) ?_); go_simp)
 refine runC (UB hA) rfl rfl (by kernel_rfl) (by kernel_rfl) (fun K hK => ?_)
 have HK := UC hK
 clear hK
 go_simp
 refine (Gn (UB X).cur (UB X).code (UB HM)).mono ?_
 rintro e u1 ⟨cb, cc, m, rfl, _, _, hcl, hm2, h8, ct, gt⟩
 have HC := UC hcl
 have H8 := UC h8
 have HM2 := UC hm2
 clear hcl h8 hm2
 replace KB := UC (Aa gt (UB KB) (by simp; omega))
 replace KN := UC (Aa gt (UB KN) (by simp; omega))
 replace KR := UC (Aa gt (UB KR) (by simp; omega))
 replace KQ := UC (Aa gt (UB KQ) (by simp; omega))
 replace Z := UC ((UB Z).cur (UB X).cur gt)
 replace N := UC ((UB N).cur (UB X).cur gt)
 replace X := UC ((UB X).step ct gt)
 have z5 := gt.size
 clear ct gt
 refine (UB HK).out _ _ (A7 (US (UB KQ)) VL) ?_
 clear HK K
 go_simp
 repeat ((first | (refine VN ?_ (UB hA) rfl rfl rfl (by rfl) (fun _ _ _ h => h) ?_ ?_; rotate_left; · (intro w; go_simp <;> with_reducible rfl)) | refine VM (UB hA) rfl rfl (by rfl) (fun _ _ _ h => h) ?_); go_simp)
 refine runC (UB hA) rfl rfl (by kernel_rfl) (by kernel_rfl) (fun K hK => ?_)
 have HK := UC hK
 clear hK
 go_simp
 refine (Ls (UB HC) (by rw [UB HM2]; decide) (UB H8) (UB N).hasL (UB HOK)).mono ?_
 rintro e u2 ⟨vi, rfl, oi, bi⟩
 obtain ⟨id, hid⟩ : ∃ x, [0, 1, 1] ++ Ge (m ++ wire n) = x := ⟨_, rfl⟩
 rw [hid] at oi
 clear hid HC H8 HM2
 replace KB := UC (UE bi (UB KB))
 replace KN := UC (UE bi (UB KN))
 replace KR := UC (UE bi (UB KR))
 replace KQ := UC (UE bi (UB KQ))
 replace Z := UC ((UB Z).below bi)
 replace N := UC ((UB N).below bi)
 replace X := UC ((UB X).below bi)
 have z6 := bi.size
 have ID := UC oi
 clear oi bi
 refine (UB HK).out _ _ (VB (by kernel_rfl) VL) ?_
 clear HK K
 go_simp
 repeat ((first | (refine VN ?_ (UB hA) rfl rfl rfl (by rfl) (fun _ _ _ h => h) ?_ ?_; rotate_left; · (intro w; go_simp <;> with_reducible rfl)) | refine VM (UB hA) rfl rfl (by rfl) (fun _ _ _ h => h) ?_); go_simp)
 refine Lt (UB hA) rfl ?_
 clear hA
 go_wp2_with fail
 refine (Eg 2 (UB X).cur (UB X).code (UB HM) (by omega) (by omega)).mono ?_
 rintro e w7 ⟨more, rfl, c7, g7⟩
 replace KB := UC (Aa g7 (UB KB) (by simp; omega))
 replace KN := UC (Aa g7 (UB KN) (by simp; omega))
 replace KR := UC (Aa g7 (UB KR) (by simp; omega))
 replace KQ := UC (Aa g7 (UB KQ) (by simp; omega))
 replace Z := UC ((UB Z).cur (UB X).cur g7)
 replace N := UC ((UB N).cur (UB X).cur g7)
 replace ID := UC (Ei (UB ID) g7 (by omega))
 replace X := UC ((UB X).step c7 g7)
 have z7 := g7.size
 clear c7 g7
 cases more
 ·-- as it is
  have BB := UC (Ct (UB bb1) (UB X).grown (fun j e => by cases e; omega))
  clear X bb1 HM
  go_upto_region 7 with fail
  have bd := UX (w := w7)
  replace KB := UC (UE bd (UB KB))
  replace KN := UC (UE bd (UB KN))
  replace KR := UC (UE bd (UB KR))
  replace KQ := UC (UE bd (UB KQ))
  replace Z := UC ((UB Z).below bd)
  replace N := UC ((UB N).below bd)
  replace ID := UC ((UB ID).below bd)
  have BB0 := UG (UB BB) bd
  clear bd
  refine Hx [0, 1, 2, 3, 4, 5] (by kernel_rfl) ⟨by kernel_rfl, by kernel_rfl, by kernel_rfl, by kernel_rfl⟩ 10 [(0, fun w' => (fun w' => w'.cell? ⟨w2.heap.size, 0, none⟩ = some (.slice za o.length zc) ∧ w'.cell? ⟨w2.heap.size, 1, none⟩ = some (.slice ya rs.length yc)) w'), (1, fun w' => w'.cell? ⟨w4.heap.size, 0, none⟩ = some (.slice na n.length nc))] (fun hA => ?_)
  replace hA := UC hA
  go_simp
  generalize hWD : w7.drew = WD at *
  clear hWD
  repeat ((first | (refine VN ?_ (UB hA) rfl rfl rfl (by rfl) (fun _ _ _ h => h) ?_ ?_; rotate_left; · (intro w; go_simp <;> with_reducible rfl)) | refine VM (UB hA) rfl rfl (by rfl) (fun _ _ _ h => h) ?_); go_simp)
  refine Hj ?_ (UB hA) rfl rfl rfl (by rfl) (fun _ _ _ h => h) (.head _) (UM (UB KR)) ?_ ?_; rotate_left; (· (intro w hSw; (try dsimp only at hSw); go_simp <;> with_reducible rfl)); go_simp
  repeat ((first | (refine VN ?_ (UB hA) rfl rfl rfl (by rfl) (fun _ _ _ h => h) ?_ ?_; rotate_left; · (intro w; go_simp <;> with_reducible rfl)) | refine VM (UB hA) rfl rfl (by rfl) (fun _ _ _ h => h) ?_); go_simp)
  refine Hj ?_ (UB hA) rfl rfl rfl (by rfl) (fun _ _ _ h => h) (.tail _ (.head _)) (US (UB KQ)) ?_ ?_; rotate_left; (· (intro w hSw; (try dsimp only at hSw); go_simp <;> with_reducible rfl)); go_simp
  repeat ((first | (refine VN ?_ (UB hA) rfl rfl rfl (by rfl) (fun _ _ _ h => h) ?_ ?_; rotate_left; · (intro w; go_simp <;> with_reducible rfl)) | refine VM (UB hA) rfl rfl (by rfl) (fun _ _ _ h => h) ?_); go_simp)
  obtain ⟨d0, d1⟩ := UM (UB KB)
  obtain ⟨f0, f1⟩ := Am (UB KB)
  have gs := Ad (Ab WD ⟨w.heap.size, 0, none⟩ (.slice za o.length zc)) (Ab _ ⟨w.heap.size, 1, none⟩ (.slice ya rs.length yc))
  have KQ2 := UC (Aa gs (UB KQ) (by simp; omega))
  have KN2 := UC (Aa gs (UB KN) (by simp))
  have KB2 := UC (UV (UV (UB KB) 0 (.slice za o.length zc)) 1 (.slice ya rs.length yc))
  have Z2 := UC ((UB Z).off (UB KB) (by decide) gs)
  have N2 := UC ((UB N).off (UB KB) (by decide) (by decide) gs)
  have ID2 := UC (Ei (q := w.heap.size) (UB ID) gs (by omega))
  have BB2 := UC (Ct BB0 gs (fun j e => by cases e; exact Nat.le_refl _))
  refine runC (UB hA) rfl rfl (by kernel_rfl) (by kernel_rfl) (fun K hK => ?_)
  have HK := UC hK
  clear hK
  go_simp
  refine (UB HK).out _ _ (VB (by kernel_rfl) (A7 (US (UB KQ2)) VL)) ?_
  clear HK K
  go_simp
  clear d0 d1 f0 f1 gs KR KB KN KQ Z N ID BB0
  replace KB2 : Hid (((WD.setCell ⟨w.heap.size, 0, none⟩ (.slice za o.length zc)).setCell ⟨w.heap.size, 1, none⟩ (.slice ya rs.length yc)).heap[w.heap.size]? = some (.cells #[.slice za o.length zc, .slice ya rs.length yc] 28)) := KB2
  generalize (WD.setCell ⟨w.heap.size, 0, none⟩ (.slice za o.length zc)).setCell ⟨w.heap.size, 1, none⟩ (.slice ya rs.length yc) = u3 at *
  have c0 := US (UB KN2)
  have f2 := VG (UB KN2) 0
  repeat ((first | (refine VN ?_ (UB hA) rfl rfl rfl (by rfl) (fun _ _ _ h => h) ?_ ?_; rotate_left; · (intro w; go_simp <;> with_reducible rfl)) | refine VM (UB hA) rfl rfl (by rfl) (fun _ _ _ h => h) ?_); go_simp)
  refine runC (UB hA) rfl rfl (by kernel_rfl) (by kernel_rfl) (fun K hK => ?_)
  have HK := UC hK
  clear hK
  go_simp
  refine (UB HK).out _ _ (VB (by kernel_rfl) (VB (by kernel_rfl) VL)) ?_
  clear HK K
  go_simp
  clear c0 f2
  have gs := Ab u3 ⟨w.heap.size + 1, 0, none⟩ (.slice na n.length nc)
  have BF := Ct (UB BB2) gs (fun j e => by cases e; exact Nat.le_succ _)
  have ZF := (UB Z2).off (UB KN2) (by decide) gs
  have NF := (UB N2).off (UB KN2) (by decide) (by decide) gs
  have IF := (Ei (q := w.heap.size + 1) (UB ID2) gs (by omega)).has
  have KF := Aa gs (UB KB2) (by simp)
  have KNF := Av (UB KN2) (.slice na n.length nc)
  first | skip
  repeat ((first | (refine VN ?_ (UB hA) rfl rfl rfl (by rfl) (fun _ _ _ h => h) ?_ ?_; rotate_left; · (intro w; go_simp <;> with_reducible rfl)) | refine VM (UB hA) rfl rfl (by rfl) (fun _ _ _ h => h) ?_); go_simp)
  refine Lt (UB hA) rfl ?_
  clear hA
  go_wp2_with fail
  refine bodyPost_ret (Lu rfl _ _ w.heap.size (w.heap.size + 1) 28 25 #[.slice za o.length zc, .slice ya rs.length yc] #[.slice na n.length nc] (0, 0) (0, 0) _ _ rfl KF rfl KNF Tryz.underlying28 rfl (by kernel_rfl) Tryz.underlying25 rfl (by kernel_rfl)) rfl ?_
  exact ⟨_, _, o, rs, _, n, _, id, rfl, ZF.hasZ, UB HNM, NF.hasL, UB HOK, IF, BF⟩
 ·-- with a sum of another
  go_upto_region 6 with fail
  have bd := UX (w := w7)
  replace KB := UC (UE bd (UB KB))
  replace KN := UC (UE bd (UB KN))
  replace KR := UC (UE bd (UB KR))
  replace KQ := UC (UE bd (UB KQ))
  replace Z := UC ((UB Z).below bd)
  replace N := UC ((UB N).below bd)
  replace X := UC ((UB X).below bd)
  replace ID := UC ((UB ID).below bd)
  have zd := bd.size
  clear bd
  refine Hx [0, 1, 2, 4, 3, 5, 6, 7, 8, 9, 10, 11] (by kernel_rfl) ⟨by kernel_rfl, by kernel_rfl, by kernel_rfl, by kernel_rfl⟩ 12 [(0, fun w' => (fun w' => w'.cell? ⟨w2.heap.size, 0, none⟩ = some (.slice za o.length zc) ∧ w'.cell? ⟨w2.heap.size, 1, none⟩ = some (.slice ya rs.length yc)) w'), (1, fun w' => w'.cell? ⟨w4.heap.size, 0, none⟩ = some (.slice na n.length nc)), (4, fun w' => w'.cell? ⟨w4.heap.size, 0, none⟩ = some (.slice na n.length nc))] (fun hA => ?_)
  replace hA := UC hA
  go_simp
  generalize hWD : w7.drew = W8 at *
  clear hWD
  repeat ((first | (refine VN ?_ (UB hA) rfl rfl rfl (by rfl) (fun _ _ _ h => h) ?_ ?_; rotate_left; · (intro w; go_simp <;> with_reducible rfl)) | refine VM (UB hA) rfl rfl (by rfl) (fun _ _ _ h => h) ?_); go_simp)
  refine Hj ?_ (UB hA) rfl rfl rfl (by rfl) (fun _ _ _ h => h) (.head _) (UM (UB KR)) ?_ ?_; rotate_left; (· (intro w hSw; (try dsimp only at hSw); go_simp <;> with_reducible rfl)); go_simp
  repeat ((first | (refine VN ?_ (UB hA) rfl rfl rfl (by rfl) (fun _ _ _ h => h) ?_ ?_; rotate_left; · (intro w; go_simp <;> with_reducible rfl)) | refine VM (UB hA) rfl rfl (by rfl) (fun _ _ _ h => h) ?_); go_simp)
  refine Hj ?_ (UB hA) rfl rfl rfl (by rfl) (fun _ _ _ h => h) (.tail _ (.head _)) (US (UB KQ)) ?_ ?_; rotate_left; (· (intro w hSw; (try dsimp only at hSw); go_simp <;> with_reducible rfl)); go_simp
  repeat ((first | (refine VN ?_ (UB hA) rfl rfl rfl (by rfl) (fun _ _ _ h => h) ?_ ?_; rotate_left; · (intro w; go_simp <;> with_reducible rfl)) | refine VM (UB hA) rfl rfl (by rfl) (fun _ _ _ h => h) ?_); go_simp)
  refine Hj ?_ (UB hA) rfl rfl rfl (by rfl) (fun _ _ _ h => h) (.tail _ (.tail _ (.head _))) (US (UB KQ)) ?_ ?_; rotate_left; (· (intro w hSw; (try dsimp only at hSw); go_simp <;> with_reducible rfl)); go_simp
  repeat ((first | (refine VN ?_ (UB hA) rfl rfl rfl (by rfl) (fun _ _ _ h => h) ?_ ?_; rotate_left; · (intro w; go_simp <;> with_reducible rfl)) | refine VM (UB hA) rfl rfl (by rfl) (fun _ _ _ h => h) ?_); go_simp)
  refine runC (UB hA) rfl rfl (by kernel_rfl) (by kernel_rfl) (fun K hK => ?_)
  have HK := UC hK
  clear hK
  go_simp
  refine (Gn (UB X).cur (UB X).code (UB HM)).mono ?_
  rintro e u3 ⟨cb, cc, m2, rfl, _, _, hcl, hm2, h8, ct, gt⟩
  have HC := UC hcl
  have H8 := UC h8
  have HM2 := UC hm2
  clear hcl h8 hm2
  replace KB := UC (Aa gt (UB KB) (by simp; omega))
  replace KN := UC (Aa gt (UB KN) (by simp; omega))
  replace KR := UC (Aa gt (UB KR) (by simp; omega))
  replace KQ := UC (Aa gt (UB KQ) (by simp; omega))
  replace ID := UC (Ei (UB ID) gt (by omega))
  replace Z := UC ((UB Z).cur (UB X).cur gt)
  replace N := UC ((UB N).cur (UB X).cur gt)
  replace X := UC ((UB X).step ct gt)
  have z8 := gt.size
  clear ct gt
  refine (UB HK).out _ _ (A7 (UM (UB KR)) (A7 (US (UB KQ)) (A7 (US (UB KQ)) VL))) ?_
  clear HK K
  go_simp
  repeat ((first | (refine VN ?_ (UB hA) rfl rfl rfl (by rfl) (fun _ _ _ h => h) ?_ ?_; rotate_left; · (intro w; go_simp <;> with_reducible rfl)) | refine VM (UB hA) rfl rfl (by rfl) (fun _ _ _ h => h) ?_); go_simp)
  refine runC (UB hA) rfl rfl (by kernel_rfl) (by kernel_rfl) (fun K hK => ?_)
  have HK := UC hK
  clear hK
  go_simp
  refine (Ls (UB HC) (by rw [UB HM2]; decide) (UB H8) (UB N).hasL (UB HOK)).mono ?_
  rintro e u4 ⟨vj, rfl, oi, bi⟩
  obtain ⟨jd, hid⟩ : ∃ x, [0, 1, 1] ++ Ge (m2 ++ wire n) = x := ⟨_, rfl⟩
  rw [hid] at oi
  clear hid HC H8 HM2
  replace KB := UC (UE bi (UB KB))
  replace KN := UC (UE bi (UB KN))
  replace KR := UC (UE bi (UB KR))
  replace KQ := UC (UE bi (UB KQ))
  replace Z := UC ((UB Z).below bi)
  replace N := UC ((UB N).below bi)
  replace X := UC ((UB X).below bi)
  replace ID := UC ((UB ID).below bi)
  have z9 := bi.size
  obtain ⟨ja, jc, rfl, _⟩ := oi.has.form
  have JD := UC oi.has
  clear oi bi
  refine (UB HK).out _ _ (A7 (UM (UB KR)) (A7 (US (UB KQ)) (VB (by kernel_rfl) VL))) ?_
  clear HK K
  go_simp
  repeat ((first | (refine VN ?_ (UB hA) rfl rfl rfl (by rfl) (fun _ _ _ h => h) ?_ ?_; rotate_left; · (intro w; go_simp <;> with_reducible rfl)) | refine VM (UB hA) rfl rfl (by rfl) (fun _ _ _ h => h) ?_); go_simp)
  refine runC (UB hA) rfl rfl (by kernel_rfl) (by kernel_rfl) (fun K hK => ?_)
  have HK := UC hK
  clear hK
  go_simp
  refine (Fy (r := ⟨n, 49, 9, 0, [], jd, []⟩) (UB Z).hasZ ⟨(UB N).hasL, .inl ⟨rfl, rfl⟩, UB JD, .inl ⟨rfl, rfl⟩⟩ (UB HNM)).mono ?_
  rintro e u5 ⟨uo, ur, rfl, o1, r1, b5⟩
  replace HNM := UC (V3 (o := o) (r := ⟨n, 49, 9, 0, [], jd, []⟩) (UB HNM))
  generalize Ef o rs ⟨n, 49, 9, 0, [], jd, []⟩ = R at *
  obtain ⟨⟨p, ps⟩, fit⟩ := R
  dsimp only at o1 r1 HNM ⊢
  replace KB := UC (UE b5 (UB KB))
  replace KN := UC (UE b5 (UB KN))
  replace KR := UC (UE b5 (UB KR))
  replace KQ := UC (UE b5 (UB KQ))
  replace N := UC ((UB N).below b5)
  replace ID := UC ((UB ID).below b5)
  replace X := UC ((UB X).below b5)
  have z10 := b5.size
  have zd5 := Cm.of (Nat.zero_le _) o1 r1
  replace Z : Hid (Df u5 uo ur p ps) := UC ⟨zd5.name, .inl zd5.recs⟩
  clear b5 o1 r1 zd5 JD
  obtain ⟨pa, pc, rfl, _⟩ := (UB Z).hasZ.name.form
  obtain ⟨qa, qc, rfl, _⟩ := (UB Z).hasZ.recs.form
  obtain ⟨d0, d1⟩ := UM (UB KR)
  obtain ⟨f0, f1⟩ := Am (UB KR)
  refine (UB HK).out _ _ (VB (by kernel_rfl) (VB (by kernel_rfl) (VB (by kernel_rfl) VL))) ?_
  clear HK K
  go_simp
  repeat ((first | (refine VN ?_ (UB hA) rfl rfl rfl (by rfl) (fun _ _ _ h => h) ?_ ?_; rotate_left; · (intro w; go_simp <;> with_reducible rfl)) | refine VM (UB hA) rfl rfl (by rfl) (fun _ _ _ h => h) ?_); go_simp)
  refine runC (UB hA) rfl rfl (by kernel_rfl) (by kernel_rfl) (fun K hK => ?_)
  have HK := UC hK
  clear hK
  go_simp
  refine (UB HK).out _ _ (VB (by kernel_rfl) (VB (by kernel_rfl) (VB (by kernel_rfl) VL))) ?_
  clear HK K
  go_simp
  clear d0 d1 f0 f1
  have gs := Ad (Ab u5 ⟨w2.heap.size, 0, none⟩ (.slice pa p.length pc)) (Ab _ ⟨w2.heap.size, 1, none⟩ (.slice qa ps.length qc))
  replace KB := UC (Aa gs (UB KB) (by simp; omega))
  replace KN := UC (Aa gs (UB KN) (by simp; omega))
  replace KQ := UC (Aa gs (UB KQ) (by simp; omega))
  replace Z := UC ((UB Z).off (UB KR) (by decide) gs)
  replace N := UC ((UB N).off (UB KR) (by decide) (by decide) gs)
  replace ID := UC (Ei (q := w2.heap.size) (UB ID) gs (by omega))
  have KR2 := UC (UV (UV (UB KR) 0 (.slice pa p.length pc)) 1 (.slice qa ps.length qc))
  have BB := UC (Ct (Ct (UB bb1) (UB X).grown (fun j e => by cases e; omega)) gs (fun j e => by cases e; show w.heap.size ≤ w2.heap.size; omega))
  have zs := gs.size
  clear gs KR X bb1 HM
  replace KR2 : Hid (((u5.setCell ⟨w2.heap.size, 0, none⟩ (.slice pa p.length pc)).setCell ⟨w2.heap.size, 1, none⟩ (.slice qa ps.length qc)).heap[w2.heap.size]? = some (.cells #[.slice pa p.length pc, .slice qa ps.length qc] 28)) := KR2
  generalize (u5.setCell ⟨w2.heap.size, 0, none⟩ (.slice pa p.length pc)).setCell ⟨w2.heap.size, 1, none⟩ (.slice qa ps.length qc) = u6 at *
  have KR := KR2
  clear KR2
  repeat ((first | (refine VN ?_ (UB hA) rfl rfl rfl (by rfl) (fun _ _ _ h => h) ?_ ?_; rotate_left; · (intro w; go_simp <;> with_reducible rfl)) | refine VM (UB hA) rfl rfl (by rfl) (fun _ _ _ h => h) ?_); go_simp)
  refine Lt (UB hA) rfl ?_
  clear hA
  go_upto_region 7 with fail
  have bd := UX (w := u6)
  replace KB := UC (UE bd (UB KB))
  replace KN := UC (UE bd (UB KN))
  replace KR := UC (UE bd (UB KR))
  replace KQ := UC (UE bd (UB KQ))
  replace Z := UC ((UB Z).below bd)
  replace N := UC ((UB N).below bd)
  replace ID := UC ((UB ID).below bd)
  have BB0 := UG (UB BB) bd
  clear bd
  refine Hx [0, 1, 2, 3, 4, 5] (by kernel_rfl) ⟨by kernel_rfl, by kernel_rfl, by kernel_rfl, by kernel_rfl⟩ 10 [(0, fun w' => (fun w' => w'.cell? ⟨w2.heap.size, 0, none⟩ = some (.slice pa p.length pc) ∧ w'.cell? ⟨w2.heap.size, 1, none⟩ = some (.slice qa ps.length qc)) w'), (1, fun w' => w'.cell? ⟨w4.heap.size, 0, none⟩ = some (.slice na n.length nc))] (fun hA => ?_)
  replace hA := UC hA
  go_simp
  generalize hWD : u6.drew = WD at *
  clear hWD
  repeat ((first | (refine VN ?_ (UB hA) rfl rfl rfl (by rfl) (fun _ _ _ h => h) ?_ ?_; rotate_left; · (intro w; go_simp <;> with_reducible rfl)) | refine VM (UB hA) rfl rfl (by rfl) (fun _ _ _ h => h) ?_); go_simp)
  refine Hj ?_ (UB hA) rfl rfl rfl (by rfl) (fun _ _ _ h => h) (.head _) (UM (UB KR)) ?_ ?_; rotate_left; (· (intro w hSw; (try dsimp only at hSw); go_simp <;> with_reducible rfl)); go_simp
  repeat ((first | (refine VN ?_ (UB hA) rfl rfl rfl (by rfl) (fun _ _ _ h => h) ?_ ?_; rotate_left; · (intro w; go_simp <;> with_reducible rfl)) | refine VM (UB hA) rfl rfl (by rfl) (fun _ _ _ h => h) ?_); go_simp)
  refine Hj ?_ (UB hA) rfl rfl rfl (by rfl) (fun _ _ _ h => h) (.tail _ (.head _)) (US (UB KQ)) ?_ ?_; rotate_left; (· (intro w hSw; (try dsimp only at hSw); go_simp <;> with_reducible rfl)); go_simp
  repeat ((first | (refine VN ?_ (UB hA) rfl rfl rfl (by rfl) (fun _ _ _ h => h) ?_ ?_; rotate_left; · (intro w; go_simp <;> with_reducible rfl)) | refine VM (UB hA) rfl rfl (by rfl) (fun _ _ _ h => h) ?_); go_simp)
  obtain ⟨d0, d1⟩ := UM (UB KB)
  obtain ⟨f0, f1⟩ := Am (UB KB)
  have gs := Ad (Ab WD ⟨w.heap.size, 0, none⟩ (.slice pa p.length pc)) (Ab _ ⟨w.heap.size, 1, none⟩ (.slice qa ps.length qc))
  have KQ2 := UC (Aa gs (UB KQ) (by simp; omega))
  have KN2 := UC (Aa gs (UB KN) (by simp))
  have KB2 := UC (UV (UV (UB KB) 0 (.slice pa p.length pc)) 1 (.slice qa ps.length qc))
  have Z2 := UC ((UB Z).off (UB KB) (by decide) gs)
  have N2 := UC ((UB N).off (UB KB) (by decide) (by decide) gs)
  have ID2 := UC (Ei (q := w.heap.size) (UB ID) gs (by omega))
  have BB2 := UC (Ct BB0 gs (fun j e => by cases e; exact Nat.le_refl _))
  refine runC (UB hA) rfl rfl (by kernel_rfl) (by kernel_rfl) (fun K hK => ?_)
  have HK := UC hK
  clear hK
  go_simp
  refine (UB HK).out _ _ (VB (by kernel_rfl) (A7 (US (UB KQ2)) VL)) ?_
  clear HK K
  go_simp
  clear d0 d1 f0 f1 gs KR KB KN KQ Z N ID BB0
  replace KB2 : Hid (((WD.setCell ⟨w.heap.size, 0, none⟩ (.slice pa p.length pc)).setCell ⟨w.heap.size, 1, none⟩ (.slice qa ps.length qc)).heap[w.heap.size]? = some (.cells #[.slice pa p.length pc, .slice qa ps.length qc] 28)) := KB2
  generalize (WD.setCell ⟨w.heap.size, 0, none⟩ (.slice pa p.length pc)).setCell ⟨w.heap.size, 1, none⟩ (.slice qa ps.length qc) = u3 at *
  have c0 := US (UB KN2)
  have f2 := VG (UB KN2) 0
  repeat ((first | (refine VN ?_ (UB hA) rfl rfl rfl (by rfl) (fun _ _ _ h => h) ?_ ?_; rotate_left; · (intro w; go_simp <;> with_reducible rfl)) | refine VM (UB hA) rfl rfl (by rfl) (fun _ _ _ h => h) ?_); go_simp)
  refine runC (UB hA) rfl rfl (by kernel_rfl) (by kernel_rfl) (fun K hK => ?_)
  have HK := UC hK
  clear hK
  go_simp
  refine (UB HK).out _ _ (VB (by kernel_rfl) (VB (by kernel_rfl) VL)) ?_
  clear HK K
  go_simp
  clear c0 f2
  have gs := Ab u3 ⟨w.heap.size + 1, 0, none⟩ (.slice na n.length nc)
  have BF := Ct (UB BB2) gs (fun j e => by cases e; exact Nat.le_succ _)
  have ZF := (UB Z2).off (UB KN2) (by decide) gs
  have NF := (UB N2).off (UB KN2) (by decide) (by decide) gs
  have IF := (Ei (q := w.heap.size + 1) (UB ID2) gs (by omega)).has
  have KF := Aa gs (UB KB2) (by simp)
  have KNF := Av (UB KN2) (.slice na n.length nc)
  first | skip
  repeat ((first | (refine VN ?_ (UB hA) rfl rfl rfl (by rfl) (fun _ _ _ h => h) ?_ ?_; rotate_left; · (intro w; go_simp <;> with_reducible rfl)) | refine VM (UB hA) rfl rfl (by rfl) (fun _ _ _ h => h) ?_); go_simp)
  refine Lt (UB hA) rfl ?_
  clear hA
  go_wp2_with fail
  refine bodyPost_ret (Lu rfl _ _ w.heap.size (w.heap.size + 1) 28 25 #[.slice pa p.length pc, .slice qa ps.length qc] #[.slice na n.length nc] (0, 0) (0, 0) _ _ rfl KF rfl KNF Tryz.underlying28 rfl (by kernel_rfl) Tryz.underlying25 rfl (by kernel_rfl)) rfl ?_
  exact ⟨_, _, p, ps, _, n, _, id, rfl, ZF.hasZ, UB HNM, NF.hasL, UB HOK, IF, BF⟩
set_option maxHeartbeats 400000 in
set_option maxRecDepth 100000 in
theorem Dl {v : Value} {l : List Int} {w : World} (h : Jr w v l) (hl : l.length ≤ 2097152) :
  Calls Tryz.prog 78 #[v] w fun e w' => ∃ v', e = .returned v' ∧ Own w.heap.size 5 w' v' l ∧ Below w.heap.size w w' := by
 go_enter Tryz.func78, Tryz.ntmps78
 go_wp2_with (at_builtin; refine Aq rfl _ _ 22 5 rfl Tryz.underlying22 VJ w.heap.size (.slice none 0 0) v [] l rfl rfl (World.ownsRow_nil _ _ _ _) h ?c1 (Nat.le_refl _) ?_)
 case c1 => simp; omega
 intro v' w1 hown hgrow
 go_wp2
 go_ret
 exact ⟨v', rfl, hown, Ch hgrow⟩

theorem Ga {B : Nat} {v : Value} {l : List Int} {w : World} (h : Own B 5 w v l) (hl : l.length ≤ 2097152) :
  Calls Tryz.prog 78 #[v] w fun e w' => ∃ v', e = .returned v' ∧ Own w.heap.size 5 w' v' l ∧ Below w.heap.size w w' := Dl h.reads hl
end Go.Proofs.YtfneahdnpmamkaaGreat
