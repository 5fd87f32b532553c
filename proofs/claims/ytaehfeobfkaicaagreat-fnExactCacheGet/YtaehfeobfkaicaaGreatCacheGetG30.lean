/-
  Contract of the program's cache of a shelf. Contract of the program's aged. Contract of the program's copyCache. Plain facts: maps whose keys are texts: look-ups that say whether the key is there, and deletions. No program is named here.
-/
import Derived.Test.YtaehfeobfkaicaaGreatCacheGetG27
import Derived.Test.YtaehfeobfkaicaaGreatCacheGetG29
import Derived.Test.YtaehfeobfkaicaaGreatCacheGetG28
import Derived.Test.YtaehfeobfkaicaaGreatCacheGetG14
import Derived.Test.YtaehfeobfkaicaaGreatCacheGetG24
import Derived.Test.YtaehfeobfkaicaaGreatCacheGetG12
namespace Go.Proofs.YtaehfeobfkaicaaGreat
open Go.RowKit
set_option linter.unusedVariables false

theorem zero_slV (w : World) : (zeroValue 71).run Tryz.prog w = .ok (.agg #[.slice none 0 0, .int .i64 0, .int .i64 0, .slice none 0 0, .int .i64 0, .int .i64 0, .int .i64 0]) w := by
 have h : (Tryz.prog.info? 71).map (fun i => i.zero) = some (some (.agg #[.slice none 0 0, .int .i64 0, .int .i64 0, .slice none 0 0, .int .i64 0, .int .i64 0, .int .i64 0])) := by kernel_rfl
 obtain ⟨i, h1, h2⟩ := Option.map_eq_some_iff.1 h
 simp [zeroValue, typeInfo, h1, h2, go_sem]

set_option maxHeartbeats 4000000 in
set_option maxRecDepth 100000 in
theorem cacheS_own {w0 w : World} {b : Nat} {turn now : Int} {l : List Slt} (hp : w.heap[b + 1]? = some (.cells #[.int .i64 turn, .map (some b)] 94)) (em : EntM w0 w b (l.map kx)) (hk : KeyOk l) (h8 : l.length ≤ 8) (hsh : ∀ j, j < l.length → ShortS (l.getD j VK)) (hw : Below w0.heap.size w0 w) :
  Calls Tryz.prog 61 #[(.pointer (some ⟨b + 1, 0, none⟩)), .int .i64 now] w fun e w' => ∃ v', e = .returned (.agg #[.int .i64 now, .int .i64 turn, v']) ∧ RowX 7 (OwnSl 67 56 5 3) VK w.heap.size w'.heap.size 71 w' v' (l) ∧ Below w.heap.size w w' := by
 have ba := UI (w := w) (.cells #[.int .i64 0, .int .i64 0, .slice none 0 0] 30)
 have KR := UC (heap_alloc_new w (.cells #[.int .i64 0, .int .i64 0, .slice none 0 0] 30))
 have bb := ba.alloc ba.size (.cells #[.int .i64 now, .int .i64 turn, .slice none 0 0] 30)
 have KR1 := UC (UE (UI (w := w.alloc (.cells #[.int .i64 0, .int .i64 0, .slice none 0 0] 30)) (.cells #[.int .i64 now, .int .i64 turn, .slice none 0 0] 30)) (UB KR))
 have KO := UC (heap_alloc_new (w.alloc (.cells #[.int .i64 0, .int .i64 0, .slice none 0 0] 30)) (.cells #[.int .i64 now, .int .i64 turn, .slice none 0 0] 30))
 rw [World.size_alloc] at KO
 have HP := UC (UE bb hp)
 have EM := UC (em.below bb)
 have zz : ((w.alloc (.cells #[.int .i64 0, .int .i64 0, .slice none 0 0] 30)).alloc (.cells #[.int .i64 now, .int .i64 turn, .slice none 0 0] 30)).heap.size = w.heap.size + 2 := by simp only [World.size_alloc]
 obtain ⟨d0, d1⟩ := cells2S (UE ba hp)
 have zp := VC hp
 have zb := em.lt
 have HKS := UC hk.sorted
 have HKM := UC hk.mem
 have HKA := UC hk.apart
 have HSH := UC hsh
 have HW := UC hw
 clear hp em hk hsh hw ba KR
 go_enter Tryz.func61, Tryz.ntmps61
 go_wp2_with fail
 clear d0 d1
 generalize (w.alloc (.cells #[.int .i64 0, .int .i64 0, .slice none 0 0] 30)).alloc (.cells #[.int .i64 now, .int .i64 turn, .slice none 0 0] 30) = W at *
 refine (keysS_has (UB HP) (UB EM) (by rw [List.length_map]; omega)).mono ?_
 rintro e W1 ⟨kv, rfl, ok, b1⟩
 replace HP := UC (UE b1 (UB HP))
 replace EM := UC ((UB EM).below b1)
 replace KO := UC (UE b1 (UB KO))
 replace KR1 := UC (UE b1 (UB KR1))
 replace bb := UG bb b1
 have z1 := b1.size
 rw [List.length_map, UB HKS] at ok
 have OKK := UC ok
 obtain ⟨ka, kc, rfl⟩ : ∃ ka kc, kv = .slice ka l.length kc := by
  rcases ok.2 with ⟨e1, e0⟩ | ⟨g, vc, cur, e1, _⟩
  ·exact ⟨none, 0, by rw [e1, e0]⟩
  ·exact ⟨_, _, e1⟩
 clear ok b1
 go_wp2_with fail
 go_loopw [17] (fun i wr => ∃ (k : Nat) (o : Value), k ≤ l.length ∧ i = .int .i64 k ∧ wr.heap[(w.heap.size + 1)]? = some (.cells #[.int .i64 now, .int .i64 turn, o] 30) ∧ RowX 7 (OwnSl 67 56 5 3) VK W1.heap.size wr.heap.size 71 wr o (l.take k) ∧ Outside (w.heap.size + 1) (w.heap.size + 2) W1 wr) (fun i _ => l.length - (intOf i).toNat)
 case atStart => exact ⟨0, .slice none 0 0, Nat.zero_le _, rfl, UB KO, by simpa using RowX.nil _, Outside.refl _ _ _⟩
 case round =>
  clear KO
  obtain ⟨k, o, hk, rfl, ko, hr, ou⟩ := hrel
  have hpr := ou.kept (UB HP) (by omega)
  have hem := (UB EM).kept (ou.block b (UB EM).lt (by omega))
  have hz := ou.size
  have hw0 := (UB HW).size
  have hbw : Below w0.heap.size w0 wr := ou.below ((UB HW).trans (bb.mono hw0)) (by omega)
  by_cases hlt : k < l.length
  ·have hki : (k : Int) < l.length := by omega
   obtain ⟨va, vc, rfl, _⟩ := hr.form
   have hg : l.getD k VK = l[k] := by rw [List.getD_eq_getElem?_getD, List.getElem?_eq_getElem hlt, Option.getD_some]
   have okk := ownsRow_out (UB OKK) ou (fun q hq => by have := ((UB OKK).lt q hq).1; omega)
   obtain ⟨kg, rfl⟩ : ∃ g, ka = some ⟨g, 0, none⟩ := by
    rcases okk.2 with ⟨_, e0⟩ | ⟨g, cp, cur, e1, hB, hgg, _⟩
    ·omega
    ·simp only [Value.slice.injEq] at e1
     exact ⟨g, e1.1⟩
   have ck : wr.cell? ⟨kg, k, none⟩ = some (.string (ksB (l.getD k VK).name (l.getD k VK).type)) := by
    have := World.ownsRow.cellAt okk k (by omega)
    rw [this, List.getElem?_map, List.getElem?_map, List.getElem?_eq_getElem hlt, hg]
    simp [encStr]
   obtain ⟨ps, hM, hcase⟩ := entM_look hem (ksB (l.getD k VK).name (l.getD k VK).type)
   have hla : lookA (ksB (l.getD k VK).name (l.getD k VK).type) (l.map kx) = some (l.getD k VK) := lookA_at (j := k) (UB HKA) (by rw [List.getElem?_map, List.getElem?_eq_getElem hlt, hg]; rfl)
   have hss := UB HSH k hlt
   have hks := ksB_size (t := (l.getD k VK).type) hss.1.1 hss.1.2
   rcases hcase with ⟨_, q⟩ | ⟨sv, sx, q1, q2, hsl⟩
   ·rw [hla] at q
    cases q
   rw [hla] at q2
   cases q2
   obtain ⟨na, nc, ra, rc, rfl, hu⟩ := hsl
   have HLK := UC (fun (w' : World) (h' : MapV w' b ps) => mapV_look (t := 92) Tryz.underlying92 Tryz.underlying9 (zero_slV w') h' _ hks)
   rw [q1, Option.getD_some] at HLK
   have HM := UC hM
   have HU := UC (hu.below hbw)
   have HSK := UC hss
   have HMS := UC (show l.take (k + 1) = l.take k ++ [l.getD k VK] by rw [List.take_succ_eq_append_getElem hlt]; simp [hlt])
   have hlen : (l.take k).length ≤ k := by rw [List.length_take]; omega
   have RO := UC hr
   have KO := UC ko
   have KP := UC hpr
   have OU := UC ou
   clear hM hem hla hss hks q1 hu hr ko hpr ou okk hg hbw
   generalize ksB (l.getD k VK).name (l.getD k VK).type = key at *
   generalize l.getD k VK = rk at *
   generalize l.take k = lk at *
   generalize hk1 : l.take (k + 1) = lk1 at *
   have HK1 := UC hk1
   generalize hLL : lk.length = L at *
   have HLEN := UC hLL
   clear hLL hk1
   go_wp2_with fail
   clear ck
   have bd := UX (w := wr)
   replace HM := UC ((UB HM).below bd)
   replace HU := UC ((UB HU).below bd)
   replace RO := UC (RowX.below (ownsSl 67 56 5 3) (UB RO) bd)
   replace KO := UC (UE bd (UB KO))
   replace KP := UC (UE bd (UB KP))
   have bw : Below W1.heap.size wr wr.drew := bd.mono hz
   have zd := bd.size
   have zk := VC (UB KO)
   clear bd
   refine startC [0, 1, 2, 3, 4, 5, 6, 7, 8, 9, 10, 11, 12] (by kernel_rfl) ⟨by kernel_rfl, by kernel_rfl, by kernel_rfl, by kernel_rfl⟩ 6 [(1, fun w' => (fun w' => w'.cell? ⟨(w.heap.size + 1), 2, none⟩ = some (.slice va L vc)) w'), (5, fun w' => (fun w' => w'.cell? ⟨b + 1, 1, none⟩ = some (.map (some b))) w')] (fun hA => ?_)
   replace hA := UC hA
   generalize hWD : wr.drew = WD at *
   clear hWD
   repeat ((first | (refine VN ?_ (UB hA) rfl rfl rfl (by rfl) (fun _ _ _ h => h) ?_ ?_; rotate_left; · (intro w; go_simp <;> with_reducible rfl)) | refine VM (UB hA) rfl rfl (by rfl) (fun _ _ _ h => h) ?_); go_simp)
   refine takeC ?_ (UB hA) rfl rfl rfl (by rfl) (fun _ _ _ h => h) (.head _) (UL (UB KO)).2.2 ?_ ?_; rotate_left; (· (intro w hSw; (try dsimp only at hSw); go_simp <;> with_reducible rfl)); go_simp
   repeat ((first | (refine VN ?_ (UB hA) rfl rfl rfl (by rfl) (fun _ _ _ h => h) ?_ ?_; rotate_left; · (intro w; go_simp <;> with_reducible rfl)) | refine VM (UB hA) rfl rfl (by rfl) (fun _ _ _ h => h) ?_); go_simp)
   refine takeC ?_ (UB hA) rfl rfl rfl (by rfl) (fun _ _ _ h => h) (.tail _ (.head _)) (cells2S (UB KP)).2 ?_ ?_; rotate_left; (· (intro w hSw; (try dsimp only at hSw); go_simp <;> with_reducible rfl)); go_simp
   repeat ((first | (refine VN ?_ (UB hA) rfl rfl rfl (by rfl) (fun _ _ _ h => h) ?_ ?_; rotate_left; · (intro w; go_simp <;> with_reducible rfl)) | refine VM (UB hA) rfl rfl (by rfl) (fun _ _ _ h => h) ?_); go_simp)
   have hlk := UB HLK _ (UB HM)
   refine runC (UB hA) rfl rfl (by kernel_rfl) (by kernel_rfl) (fun K hK => ?_)
   have HK := UC hK
   clear hK
   go_simp
   clear hlk
   refine (UB HK).out _ _ (keepC_yes (UL (UB KO)).2.2 (VB (by kernel_rfl) VL)) ?_
   clear HK K
   go_simp
   refine runC (UB hA) rfl rfl (by kernel_rfl) (by kernel_rfl) (fun K hK => ?_)
   have HK := UC hK
   clear hK
   go_simp
   refine (copySlot_own (UB HU) (UB HSK)).mono ?_
   rintro e w6 ⟨un, ur, rfl, o6, b6⟩
   obtain ⟨s6, t1, t2, p6, r6⟩ := id o6
   obtain ⟨na6, nc6, rfl, _⟩ := p6.hasL.form
   obtain ⟨ra6, rc6, rfl, _⟩ := r6.form
   have KO6 := UC (UE b6 (UB KO))
   have O6 := UC o6
   have RO6 := UC (RowX.below (ownsSl 67 56 5 3) (UB RO) b6)
   have bw6 := bw.trans (b6.mono (by omega))
   have z6 := b6.size
   clear o6 p6 r6 b6 RO KO HU
   refine (UB HK).out _ _ (keepC_yes (UL (UB KO6)).2.2 (VB (by kernel_rfl) VL)) ?_
   clear HK K
   go_simp
   repeat ((first | (refine VN ?_ (UB hA) rfl rfl rfl (by rfl) (fun _ _ _ h => h) ?_ ?_; rotate_left; · (intro w; go_simp <;> with_reducible rfl)) | refine VM (UB hA) rfl rfl (by rfl) (fun _ _ _ h => h) ?_); go_simp)
   refine runC (UB hA) rfl rfl (by kernel_rfl) (by kernel_rfl) (fun K hK => ?_)
   have HK := UC hK
   clear hK
   go_simp
   have b7 := UI (w := w6) (.cells #[.slice na6 rk.name.length nc6, .int .i64 rk.type, .int .i64 rk.kind, .slice ra6 rk.rrs.length rc6, .int .i64 rk.rank, .int .i64 rk.till, .int .i64 rk.used] 71)
   have G7 := UC (heap_alloc_new w6 (.cells #[.slice na6 rk.name.length nc6, .int .i64 rk.type, .int .i64 rk.kind, .slice ra6 rk.rrs.length rc6, .int .i64 rk.rank, .int .i64 rk.till, .int .i64 rk.used] 71))
   have KO7 := UC (UE b7 (UB KO6))
   have RO7 := UC (RowX.below (ownsSl 67 56 5 3) (UB RO6) b7)
   have O7 := UC (OwnS2.below (UB O6) b7)
   have bw7 := bw6.trans (b7.mono (by omega))
   have z7 := b7.size
   clear b7 RO6 KO6 O6
   refine (UB HK).out _ _ (keepC_yes (UL (UB KO7)).2.2 (VB (by kernel_rfl) VL)) ?_
   clear HK K
   go_simp
   obtain ⟨cs0, f0, g0, hx0, _⟩ := UB RO7
   rw [UB HLEN] at hx0
   refine runC (UB hA) rfl rfl (by kernel_rfl) (by kernel_rfl) (fun K hK => ?_)
   have HK := UC hK
   clear hK
   refine append_oneW _ _ 28 71 rfl Tryz.underlying28 _ 7 88 (by omega) (by omega) info_SlG rfl W1.heap.size (.slice va L vc) L rfl w6.heap.size [.slice na6 rk.name.length nc6, .int .i64 rk.type, .int .i64 rk.kind, .slice ra6 rk.rrs.length rc6, .int .i64 rk.rank, .int .i64 rk.till, .int .i64 rk.used] rfl ⟨cs0, hx0⟩ (UB G7) rfl (by simp [Value.oneCell']) (by omega) (by omega) ?_
   intro v8 w8 h8' g8 hw8
   have row8 := RowX.snoc (ownsSl 67 56 5 3) (x := rk) (us := [.slice na6 rk.name.length nc6, .int .i64 rk.type, .int .i64 rk.kind, .slice ra6 rk.rrs.length rc6, .int .i64 rk.rank, .int .i64 rk.till, .int .i64 rk.used]) (UB RO7) (C := WD.heap.size) (D := w6.heap.size) (by omega) (by omega) (by omega) ⟨_, _, rfl, UB O7⟩ (by omega) g8 hw8 (by rw [UB HLEN]; exact h8')
   have hown : ∀ j, (Value.slice va L vc).ownBlock = some j → W1.heap.size ≤ j := fun j e => (World.ownsRow.lt hx0 j e).1
   have KO8 : Hid (w8.heap[(w.heap.size + 1)]? = some (.cells #[.int .i64 now, .int .i64 turn, .slice va L vc] 30)) := (g8.block (w.heap.size + 1) (by omega) (fun e => by have := hown _ e.symm; omega)).trans (UB KO7)
   have bw8 : Below W1.heap.size wr w8 := bw7.trans ((Below.refl W1.heap.size _).grown g8 (by omega) hown)
   have z8 := g8.size
   rw [← UB HMS] at row8
   obtain ⟨va8, vc8, rfl, _⟩ := row8.form
   have ROW8 := UC row8
   obtain ⟨o0, o1, o2⟩ := UL (UB KO8)
   obtain ⟨f0, f1, f2⟩ := frozen3 (UB KO8)
   clear hx0 h8' g8 hw8 row8 RO7 O7 KO7 G7 hown
   refine (UB HK).out _ _ (VB (by kernel_rfl) (VB (by kernel_rfl) VL)) ?_
   clear HK K
   go_simp
   repeat ((first | (refine VN ?_ (UB hA) rfl rfl rfl (by rfl) (fun _ _ _ h => h) ?_ ?_; rotate_left; · (intro w; go_simp <;> with_reducible rfl)) | refine VM (UB hA) rfl rfl (by rfl) (fun _ _ _ h => h) ?_); go_simp)
   refine runC (UB hA) rfl rfl (by kernel_rfl) (by kernel_rfl) (fun K hK => ?_)
   have HK := UC hK
   clear hK
   go_simp
   refine (UB HK).out _ _ (VB (by kernel_rfl) (VB (by kernel_rfl) VL)) ?_
   clear HK K
   go_simp
   refine doneC (UB hA) rfl ?_
   clear hA
   clear o0 o1 o2 f0 f1 f2
   have u9 := UT w8 (w.heap.size + 1) 2 (.slice va8 lk1.length vc8)
   have KO9 : Hid ((w8.setCell ⟨(w.heap.size + 1), 2, none⟩ (.slice va8 lk1.length vc8)).heap[(w.heap.size + 1)]? = some (.cells #[.int .i64 now, .int .i64 turn, .slice va8 lk1.length vc8] 30)) := UV (UB KO8) 2 _
   have RO9 := UC (RowX.wide (RowX.outside (ownsSl 67 56 5 3) (UB ROW8) u9 (.inr (by omega))) (Nat.le_refl _) u9.size)
   have OU9 : Hid (Outside (w.heap.size + 1) (w.heap.size + 2) W1 (w8.setCell ⟨(w.heap.size + 1), 2, none⟩ (.slice va8 lk1.length vc8))) := by
    have ou := UB OU
    have o8 : Outside (w.heap.size + 1) (w.heap.size + 2) W1 w8 := ⟨bw8.os.trans ou.os, bw8.tape.trans ou.tape, bw8.output.trans ou.output, by omega, fun j hj hn => (bw8.block j hj).trans (ou.block j hj hn)⟩
    exact UC (o8.trans (u9.wide (by omega) (by omega)))
   clear u9 KO8 ROW8 bw8 bw7 bw6 bw
   go_wp2_with fail
   exact ⟨⟨k + 1, .slice va8 lk1.length vc8, by omega, by go_num, UB KO9, by rw [UB HK1]; exact UB RO9, UB OU9⟩, by simp [intOf]; omega⟩
  ·obtain rfl : k = l.length := by omega
   rw [List.take_length] at hr
   obtain ⟨xa, xc, rfl, _⟩ := hr.form
   obtain ⟨o0, o1, o2⟩ := UL ko
   have R1 := ou.kept (UB KR1) (by omega)
   obtain ⟨g0, g1, g2⟩ := UL R1
   obtain ⟨f0, f1, f2⟩ := frozen3 R1
   go_wp2_with fail
   have u5 := ((UT wr w.heap.size 0 (.int .i64 now)).trans (UT _ w.heap.size 1 (.int .i64 turn))).trans (UT _ w.heap.size 2 (.slice xa l.length xc))
   have kf : (((wr.setCell ⟨w.heap.size, 0, none⟩ (.int .i64 now)).setCell ⟨w.heap.size, 1, none⟩ (.int .i64 turn)).setCell ⟨w.heap.size, 2, none⟩ (.slice xa l.length xc)).heap[w.heap.size]? = some (.cells #[.int .i64 now, .int .i64 turn, .slice xa l.length xc] 30) := UV (UV (UV R1 0 _) 1 _) 2 _
   have O2 := RowX.outside (ownsSl 67 56 5 3) hr u5 (.inr (by omega))
   have z5 := u5.size
   have bf : Below w.heap.size w wr := ou.below bb (by omega)
   refine bodyPost_ret (results_cell_row rfl _ _ w.heap.size 30 #[.int .i64 now, .int .i64 turn, .slice xa l.length xc] (0, 0) _ rfl kf Tryz.underlying30 rfl (by kernel_rfl)) rfl ?_
   exact ⟨_, rfl, RowX.wide O2 (by omega) (by omega), u5.below bf (by omega)⟩
set_option maxHeartbeats 4000000 in
set_option maxRecDepth 100000 in
theorem aged_own {v : Value} {l : List Rec} {left : Int} {w : World} (h : HasRs w v l) (h12 : l.length ≤ 1000) (hsh : ∀ i, i < l.length → ShortR (l.getD i recZ)) :
  Calls Tryz.prog 62 #[v, .int .i64 left] w fun e w' => ∃ x, e = .returned x ∧ RowO w.heap.size w'.heap.size 67 56 5 3 w' x (agedK l left l.length) ∧ Below w.heap.size w w' := by
 obtain ⟨a, ca, rfl, _⟩ := h.form
 have CC := UC (copyAllR_own h h12 hsh)
 have HSU := UC (agedK_succ l left)
 have HSA := UC (agedK_same l left)
 have HHE := UC (agedK_here l left)
 have HLE := UC (agedK_length l left)
 have H0 := UC (agedK_zero l left)
 clear h hsh
 go_enter Tryz.func62, Tryz.ntmps62
 go_wp2_with fail
 refine (UB CC).mono ?_
 rintro e w1 ⟨x1, rfl, o1, b1⟩
 obtain ⟨xa, xc, rfl, _⟩ := o1.form
 have z1 := b1.size
 rw [← UB H0] at o1
 have O1 := UC o1
 rw [UB HLE 0] at O1
 clear o1 CC
 generalize hM : agedK l left = M at *
 have HM := UC hM
 generalize hn : l.length = n at *
 have HN := UC hn
 clear hn hM
 go_wp2_with fail
 go_loopw [11] (fun i wr => ∃ k : Nat, k ≤ n ∧ i = .int .i64 k ∧ RowO w.heap.size w1.heap.size 67 56 5 3 wr (.slice xa n xc) (M k) ∧ Below w.heap.size w wr ∧ w1.heap.size ≤ wr.heap.size) (fun i _ => n - (intOf i).toNat)
 case atStart => exact ⟨0, Nat.zero_le _, rfl, UB O1, b1, Nat.le_refl _⟩
 case round =>
  clear O1 b1
  obtain ⟨k, hk, rfl, hr, hb, hz⟩ := hrel
  by_cases hlt : k < n
  ·have hki : (k : Int) < n := by omega
   have hr' := hr
   obtain ⟨q, cap, hv, hBq, hqw, hqE, c2, f2, hset⟩ := hr.ttl (m := k) (by rw [UB HLE k]; exact hlt)
   rw [UB HHE k hlt] at c2 hset
   have HSK := UC (UB HSU k hlt)
   have HSM := UC (UB HSA k hlt)
   have hset' := UC hset
   have hv2 := hv
   simp only [Value.slice.injEq] at hv
   obtain ⟨rfl, _, rfl⟩ := hv
   clear hv2 hset
   have hra : agedR left (l.getD k recZ) = if left < (l.getD k recZ).ttl then ttlR (l.getD k recZ) left else l.getD k recZ := rfl
   by_cases hlv : left < (l.getD k recZ).ttl
   ·rw [if_pos hlv] at hra
    rw [hra] at HSK
    have hrow := UB hset' left
    rw [UB HSK] at hrow
    have u := UT wr q (k * 7 + 2) (.int .i64 left)
    have bb := u.below hb (by omega)
    have HROW := UC hrow
    have hz2 := u.size
    clear hr hr' hra HSK HSM hset' hb u hrow
    generalize (l.getD k recZ).ttl = y at *
    have hmn : min y left = left := by omega
    go_wp2_with fail
    exact ⟨⟨k + 1, by omega, by go_num, UB HROW, bb, by omega⟩, by simp [intOf]; omega⟩
   ·have hrow := UB hset' (l.getD k recZ).ttl
    have u := UT wr q (k * 7 + 2) (.int .i64 (l.getD k recZ).ttl)
    have bb := u.below hb (by omega)
    rw [if_neg hlv] at hra
    rw [hra] at HSK
    have e1 : ttlR (l.getD k recZ) (l.getD k recZ).ttl = l.getD k recZ := rfl
    rw [e1, UB HSK] at hrow
    have HROW := UC hrow
    have hz2 := u.size
    clear hr hr' hra HSK HSM hset' hb u hrow e1
    generalize (l.getD k recZ).ttl = y at *
    have hmn : min y left = y := by omega
    go_wp2_with fail
    exact ⟨⟨k + 1, by omega, by go_num, UB HROW, bb, by omega⟩, by simp [intOf]; omega⟩
  ·obtain rfl : k = n := by omega
   go_wp2_with fail
   go_ret
   exact ⟨_, rfl, by rw [UB HM, UB HN]; exact hr.wide (Nat.le_refl _) hz, hb⟩
set_option maxHeartbeats 4000000 in
set_option maxRecDepth 100000 in
theorem copyCache_own {v : Value} {l : List Slt} {now turn : Int} {w : World} (h : HasSs w v l) (h8 : l.length ≤ 8) (hsh : ∀ j, j < l.length → ShortS (l.getD j VK)) :
  Calls Tryz.prog 59 #[.agg #[.int .i64 now, .int .i64 turn, v]] w fun e w' => ∃ v', e = .returned (.agg #[.int .i64 now, .int .i64 turn, v']) ∧ RowX 7 (OwnSl 67 56 5 3) VK w.heap.size w'.heap.size 71 w' v' (l) ∧ Below w.heap.size w w' := by
 obtain ⟨a, ca, rfl, _⟩ := h.form
 obtain ⟨hsz, k0, r0⟩ := box2 w (.cells #[.int .i64 now, .int .i64 turn, .slice a l.length ca] 30) #[.int .i64 0, .int .i64 0, .slice none 0 0] 30
 have b0 := below2 w (.cells #[.int .i64 now, .int .i64 turn, .slice a l.length ca] 30) (.cells #[.int .i64 0, .int .i64 0, .slice none 0 0] 30)
 have CC := UC (copyAllS_own (VF h b0) h8 hsh)
 have KK := UC k0
 have KR := UC r0
 have zr := VC r0
 have z0 := b0.size
 obtain ⟨d0, d1, d2⟩ := UL (UB KK)
 clear hsz k0 r0 h h8 hsh
 go_enter Tryz.func59, Tryz.ntmps59
 go_wp2_with fail
 clear d0 d1 d2
 generalize (w.alloc (.cells #[.int .i64 now, .int .i64 turn, .slice a l.length ca] 30)).alloc (.cells #[.int .i64 0, .int .i64 0, .slice none 0 0] 30) = W at *
 refine (UB CC).mono ?_
 rintro e w1 ⟨x1, rfl, o1, b1⟩
 obtain ⟨xa, xc, rfl, _⟩ := o1.form
 have bb := UG b0 b1
 have R1 := UC (UE b1 (UB KR))
 have K1 := UC (UE b1 (UB KK))
 have O1 := UC o1
 have z1 := b1.size
 clear b1 o1 CC KK KR b0
 obtain ⟨d0, d1, d2⟩ := UL (UB K1)
 obtain ⟨e0, e1, e2⟩ := frozen3 (UB K1)
 obtain ⟨g0, g1, g2⟩ := UL (UB R1)
 obtain ⟨f0, f1, f2⟩ := frozen3 (UB R1)
 go_wp2_with fail
 clear d0 d1 d2 e0 e1 e2 g0 g1 g2 f0 f1 f2
 have u2 := UT w1 w.heap.size 2 (.slice xa l.length xc)
 have R2 := u2.kept (UB R1) (by omega)
 have u5 := ((UT (w1.setCell ⟨w.heap.size, 2, none⟩ (.slice xa l.length xc)) (w.heap.size + 1) 0 (.int .i64 now)).trans (UT _ (w.heap.size + 1) 1 (.int .i64 turn))).trans (UT _ (w.heap.size + 1) 2 (.slice xa l.length xc))
 have kf : ((((w1.setCell ⟨w.heap.size, 2, none⟩ (.slice xa l.length xc)).setCell ⟨w.heap.size + 1, 0, none⟩ (.int .i64 now)).setCell ⟨w.heap.size + 1, 1, none⟩ (.int .i64 turn)).setCell ⟨w.heap.size + 1, 2, none⟩ (.slice xa l.length xc)).heap[w.heap.size + 1]? = some (.cells #[.int .i64 now, .int .i64 turn, .slice xa l.length xc] 30) := UV (UV (UV R2 0 _) 1 _) 2 _
 have O2 := RowX.outside (ownsSl 67 56 5 3) (RowX.outside (ownsSl 67 56 5 3) (UB O1) u2 (.inr (by omega))) u5 (.inr (by omega))
 refine bodyPost_ret (results_cell_row rfl _ _ (w.heap.size + 1) 30 #[.int .i64 now, .int .i64 turn, .slice xa l.length xc] (0, 0) _ rfl kf Tryz.underlying30 rfl (by kernel_rfl)) rfl ?_
 have z2 := u2.size
 have z5 := u5.size
 exact ⟨_, rfl, RowX.wide O2 (by omega) (by omega), u5.below (u2.below bb (by omega)) (by omega)⟩
end Go.Proofs.YtaehfeobfkaicaaGreat

namespace Go.Proofs.YtaehfeobfkaicaaGreat
open Go.RowKit
open Go.ChangeMaps (setBlock heap_setBlock_same heap_setBlock_other)
open Go.MapKept (stamped_iff stamped_erase Stamped)
open Go.Maps (Keyed string_keyed)
open Go.WideMaps (keyOf_string_mk)
set_option linter.unusedVariables false

section
variable {P : Program} {t k e : TypeId} {w : World} {b : Nat} {ps : List (ByteArray × Value)}
theorem mapV_look_ok (ht : P.underlying t = some (.map k e)) (hk : P.underlying k = some .string) {z : Value} (hz : (zeroValue e).run P w = .ok z w) (h : MapV w b ps) (s : ByteArray) (hs : s.size ≤ maxLen) :
  (Instr.lookup t (.map (some b)) (.string s) true).run P w = .ok (.tuple #[(lookA s ps).getD z, .bool (lookA s ps).isSome]) w := by
 have hA := h.apart
 obtain ⟨es, clock, hb, hS, hK, rfl⟩ := h
 have hkey := keyOf_string_mk hk hs
 have K := string_keyed hk
 rcases K.find w hkey es.toList (keys_of hk hK) with ⟨h1, h2⟩ | ⟨j, e0, h1, h2, h3⟩
 ·rw [lookA_none (not_key hK h2)]
  simp [Instr.lookup, run_underlying ht, MapKept.run_getObj_map hb, K.check w _ hkey, h1, hz, Result.andThen]
 ·rw [lookA_at hA (the_key h2 h3)]
  simp [Instr.lookup, run_underlying ht, MapKept.run_getObj_map hb, K.check w _ hkey, h1, Result.andThen]
end
end Go.Proofs.YtaehfeobfkaicaaGreat
