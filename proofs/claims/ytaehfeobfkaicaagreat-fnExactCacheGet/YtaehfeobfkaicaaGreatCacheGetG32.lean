/-
  Contract of the program's CacheGet. Contracts of the specification's LabelOk. Contracts of the specification's NameOk.
-/
import Derived.Test.YtaehfeobfkaicaaGreatCacheGetG31
import Derived.Test.YtaehfeobfkaicaaGreatCacheGetG05
import Derived.Test.YtaehfeobfkaicaaGreatCacheGetG00
namespace Go.Proofs.YtaehfeobfkaicaaGreat
open Go.RowKit
set_option linter.unusedVariables false

theorem putS_any {w0 w : World} {b : Nat} {turn : Int} {E : List (ByteArray × Slt)} {key : ByteArray} {x : Slt} {na ra : Option Addr} {nc rc : Nat} (hp : w.heap[b + 1]? = some (.cells #[.int .i64 turn, .map (some b)] 94)) (em : EntM w0 w b E) (hs : key.size ≤ maxLen) (hx : HasS2 w0 (.slice na x.name.length nc) (.slice ra x.rrs.length rc) x) (h0 : 0 ≤ turn) :
  Calls Tryz.prog 60 #[(.pointer (some ⟨b + 1, 0, none⟩)), .string key, .agg #[.slice na x.name.length nc, .int .i64 x.type, .int .i64 x.kind, .slice ra x.rrs.length rc, .int .i64 x.rank, .int .i64 x.till, .int .i64 x.used]] w fun e w' => (∃ v, e = .returned v) ∧ w'.heap[b + 1]? = some (.cells #[.int .i64 (turnN turn), .map (some b)] 94) ∧ EntM w0 w' b (putA key (updS turn x) E) ∧ Outside b (b + 2) w w' := by
 unfold turnN updS
 by_cases ht : turn < 1000000
 ·rw [if_pos ht, if_pos ht]
  exact putS_yes hp em hs hx h0 ht
 ·rw [if_neg ht, if_neg ht]
  exact putS_no hp em hs hx h0 ht

set_option maxHeartbeats 8000000 in
set_option maxRecDepth 100000 in
theorem implCacheGet_some {v vn : Value} {c : Ca} {n : List (List Int)} {t : Int} {w : World} (h : HasSs w v c.slots) (hn : HasL w vn n) {i : Nat} (hg : getOk c n t = true) (hf : findS n t c.slots = some i) :
  Calls Tryz.prog 24 #[.agg #[.int .i64 c.now, .int .i64 c.turn, v], .agg #[vn], .int .i64 t] w fun e w' => ∃ v' u s, e = .returned (.tuple #[.agg #[.int .i64 (getC c n t).now, .int .i64 (getC c n t).turn, v'], u, .int .i64 (getK c n t)]) ∧ w.heap.size ≤ s ∧ s ≤ w'.heap.size ∧ RowX 7 (OwnSl 67 56 5 3) VK w.heap.size s 71 w' v' (getC c n t).slots ∧ RowO s w'.heap.size 67 56 5 3 w' u (getL c n t) ∧ Below w.heap.size w w' := by
 obtain ⟨a, ca, rfl, _⟩ := h.form
 obtain ⟨na, nc, rfl, _⟩ := hn.form
 have b1 := UI (w := w) (.cells #[.int .i64 c.now, .int .i64 c.turn, .slice a c.slots.length ca] 30)
 have b2 := b1.alloc b1.size (.cells #[.slice na n.length nc] 46)
 have b3 := b2.alloc b2.size (.cells #[.int .i64 0, .int .i64 0, .slice none 0 0] 30)
 have KC := UC (UE (UI (w := (w.alloc (.cells #[.int .i64 c.now, .int .i64 c.turn, .slice a c.slots.length ca] 30)).alloc (.cells #[.slice na n.length nc] 46)) (.cells #[.int .i64 0, .int .i64 0, .slice none 0 0] 30)) (UE (UI (w := w.alloc (.cells #[.int .i64 c.now, .int .i64 c.turn, .slice a c.slots.length ca] 30)) (.cells #[.slice na n.length nc] 46)) (heap_alloc_new w (.cells #[.int .i64 c.now, .int .i64 c.turn, .slice a c.slots.length ca] 30))))
 have KN := UE (UI (w := (w.alloc (.cells #[.int .i64 c.now, .int .i64 c.turn, .slice a c.slots.length ca] 30)).alloc (.cells #[.slice na n.length nc] 46)) (.cells #[.int .i64 0, .int .i64 0, .slice none 0 0] 30)) (heap_alloc_new (w.alloc (.cells #[.int .i64 c.now, .int .i64 c.turn, .slice a c.slots.length ca] 30)) (.cells #[.slice na n.length nc] 46))
 have KR := heap_alloc_new ((w.alloc (.cells #[.int .i64 c.now, .int .i64 c.turn, .slice a c.slots.length ca] 30)).alloc (.cells #[.slice na n.length nc] 46)) (.cells #[.int .i64 0, .int .i64 0, .slice none 0 0] 30)
 simp only [World.size_alloc] at KN KR
 replace KN := UC KN
 replace KR := UC KR
 have zz : (((w.alloc (.cells #[.int .i64 c.now, .int .i64 c.turn, .slice a c.slots.length ca] 30)).alloc (.cells #[.slice na n.length nc] 46)).alloc (.cells #[.int .i64 0, .int .i64 0, .slice none 0 0] 30)).heap.size = w.heap.size + 3 := by simp only [World.size_alloc]
 have CO := fun (w : World) (h : HasSs w (.slice a c.slots.length ca) c.slots) => implCacheOk_has (c := c) h
 have NO := fun (w : World) (h : HasL w (.slice na n.length nc) n) => VP h
 have TO := fun (w : World) => implTypeOk_any t w
 have H := UC (VF h b3)
 have HN := UC (hn.below b3)
 obtain ⟨r1, r2, r3⟩ := getC_some hg hf
 rw [r1, r2, r3]
 have hg' := hg
 unfold getOk at hg'
 simp only [Bool.and_eq_true] at hg'
 obtain ⟨hok, hno, hto⟩ := hg'
 rw [hok] at CO
 rw [hno] at NO
 rw [hto] at TO
 replace CO := UC CO
 replace NO := UC NO
 replace TO := UC TO
 have hkeys := cacheOk_keys hok
 obtain ⟨h8, hsh⟩ := cacheOk_short hok
 have hnp := nameOk_parts hno
 have hn15 : ∀ k, k < n.length → (n.getD k []).length ≤ 15 := fun k hk => (labelOk_length (hnp.2 k hk)).2
 have HLOOK := UC (KeyOk.look hno hto hkeys.mem)
 have SK := fun (w : World) (h : HasL w (.slice na n.length nc) n) => slotKey_has (t := t) h hnp.1 hn15
 have SHF := fun (w : World) (h : HasSs w (.slice a c.slots.length ca) c.slots) => shelfOf_has (turn0 := c.now) (turn := c.turn) h hkeys h8 hsh
 have hkz := UC (ksB_size (t := t) hnp.1 hn15)
 replace SK := UC SK
 replace SHF := UC SHF
 rw [hf, Option.map_some] at HLOOK
 obtain ⟨hi, hsi, _⟩ := findS_at hf
 have hoki := hkeys.1 i hi
 obtain ⟨⟨hnw0, hnw1⟩, ⟨htn0, htn1⟩, htill⟩ := cacheOk_till hok
 have htl := htill i hi
 have hkey : ksB n t = ksB (c.slots.getD i VK).name (c.slots.getD i VK).type := by
  unfold isS at hsi
  simp only [Bool.and_eq_true, decide_eq_true_eq] at hsi
  rw [(cmpN_zero (nameOk_bytes hoki.1) (nameOk_bytes hno)).1 hsi.1, hsi.2]
 obtain ⟨us1, us2, us3⟩ := updS_same c.turn (c.slots.getD i VK)
 have HPUT := UC (hkeys.put hi us1 us2)
 rw [← hkey] at HPUT
 have hk2 := hkeys.set hi us1 us2
 have hsh2 := set_short (turn := c.turn) hi hsh
 have h82 : (c.slots.set i (updS c.turn (c.slots.getD i VK))).length ≤ 8 := by rw [List.length_set]; exact h8
 have hsi2 := hsh i hi
 have PS := fun (w0 w : World) (b : Nat) (ma ra : Option Addr) (mc rc : Nat) hp em hx => putS_any (w0 := w0) (w := w) (b := b) (turn := c.turn) (E := c.slots.map kx) (key := ksB n t) (x := c.slots.getD i VK) (na := ma) (ra := ra) (nc := mc) (rc := rc) hp em (UB hkz) hx htn0
 have CS := fun (w0 w : World) (b : Nat) hp em hw => cacheS_own (w0 := w0) (w := w) (b := b) (turn := turnN c.turn) (now := c.now) (l := (c.slots.set i (updS c.turn (c.slots.getD i VK)))) hp em hk2 h82 hsh2 hw
 have AG := fun (w : World) (v : Value) (h : HasRs w v (c.slots.getD i VK).rrs) => aged_own (left := (c.slots.getD i VK).till - c.now) h (by have := hsi2.2.1; omega) hsi2.2.2
 have hwr : IntKind.i64.wrap ((c.slots.getD i VK).till - c.now) = (c.slots.getD i VK).till - c.now := wrap_intT _ (by omega) (by omega)
 replace PS := UC PS
 replace CS := UC CS
 replace AG := UC AG
 clear h hn b1 b2 r1 r2 r3 hg hf hok hno hto hkeys h8 hsh hnp hn15 hi hsi hoki hnw0 hnw1 htn0 htn1 htill htl hkey us1 us2 us3 hk2 hsh2 h82 hsi2
 obtain ⟨d0, d1, d2⟩ := UL (UB KC)
 have e0 := US (UB KN)
 go_enter Tryz.func24, Tryz.ntmps24
 go_wp2_with fail
 clear d0 d1 d2 e0
 generalize (((w.alloc (.cells #[.int .i64 c.now, .int .i64 c.turn, .slice a c.slots.length ca] 30)).alloc (.cells #[.slice na n.length nc] 46)).alloc (.cells #[.int .i64 0, .int .i64 0, .slice none 0 0] 30)) = W at *
 refine (UB CO _ (UB H)).mono ?_
 rintro e w1 ⟨rfl, q1⟩
 have bb := UG b3 q1
 replace KC := UC (UE q1 (UB KC))
 replace KN := UC (UE q1 (UB KN))
 replace KR := UC (UE q1 (UB KR))
 replace H := UC (VF (UB H) q1)
 replace HN := UC ((UB HN).below q1)
 have z1 := q1.size
 clear q1 b3 CO
 obtain ⟨d0, d1, d2⟩ := UL (UB KC)
 have e0 := US (UB KN)
 go_wp2_with fail
 clear d0 d1 d2 e0
 refine (UB NO _ (UB HN)).mono ?_
 rintro e w2 ⟨rfl, q2⟩
 replace bb := UG bb q2
 replace KC := UC (UE q2 (UB KC))
 replace KN := UC (UE q2 (UB KN))
 replace KR := UC (UE q2 (UB KR))
 replace H := UC (VF (UB H) q2)
 replace HN := UC ((UB HN).below q2)
 have z2 := q2.size
 clear q2 NO
 obtain ⟨d0, d1, d2⟩ := UL (UB KC)
 have e0 := US (UB KN)
 go_wp2_with fail
 clear d0 d1 d2 e0
 refine (UB TO _).mono ?_
 rintro e w3 ⟨rfl, rfl⟩
 obtain ⟨d0, d1, d2⟩ := UL (UB KC)
 have e0 := US (UB KN)
 go_wp2_with fail
 clear d0 d1 d2 e0
 have bd := UX (w := w2)
 replace bb := UG bb bd
 replace KC := UC (UE bd (UB KC))
 replace KN := UC (UE bd (UB KN))
 replace KR := UC (UE bd (UB KR))
 replace H := UC (VF (UB H) bd)
 replace HN := UC ((UB HN).below bd)
 have zd := bd.size
 clear bd
 refine startC [0, 2, 3, 1, 4, 5, 6] (by kernel_rfl) ⟨by kernel_rfl, by kernel_rfl, by kernel_rfl, by kernel_rfl⟩ 4 [(0, fun w' => (fun w' => w'.cell? ⟨w.heap.size, 0, none⟩ = some (.int .i64 c.now) ∧ w'.cell? ⟨w.heap.size, 1, none⟩ = some (.int .i64 c.turn) ∧ w'.cell? ⟨w.heap.size, 2, none⟩ = some (.slice a c.slots.length ca)) w'), (2, fun w' => (fun w' => w'.cell? ⟨w.heap.size + 1, 0, none⟩ = some (.slice na n.length nc)) w')] (fun hA => ?_)
 replace hA := UC hA
 generalize hWD : w2.drew = WD at *
 clear hWD
 refine takeC ?_ (UB hA) rfl rfl rfl (by rfl) (fun _ _ _ h => h) (.head _) (UL (UB KC)) ?_ ?_; rotate_left; (· (intro w hSw; (try dsimp only at hSw); go_simp <;> with_reducible rfl)); go_simp
 refine takeC ?_ (UB hA) rfl rfl rfl (by rfl) (fun _ _ _ h => h) (.tail _ (.head _)) (US (UB KN)) ?_ ?_; rotate_left; (· (intro w hSw; (try dsimp only at hSw); go_simp <;> with_reducible rfl)); go_simp
 repeat ((first | (refine VN ?_ (UB hA) rfl rfl rfl (by rfl) (fun _ _ _ h => h) ?_ ?_; rotate_left; · (intro w; go_simp <;> with_reducible rfl)) | refine VM (UB hA) rfl rfl (by rfl) (fun _ _ _ h => h) ?_); go_simp)
 refine runC (UB hA) rfl rfl (by kernel_rfl) (by kernel_rfl) (fun K hK => ?_)
 have HK := UC hK
 clear hK
 go_simp
 refine (UB SHF _ (UB H)).mono ?_
 rintro e w4 ⟨b, rfl, kp, em, hbb, q4⟩
 have KC4 := UC (UE q4 (UB KC))
 have KN4 := UC (UE q4 (UB KN))
 have KR4 := UC (UE q4 (UB KR))
 have HN4 := UC ((UB HN).below q4)
 have z4 := q4.size
 have bb4 := UG bb q4
 have Q4 := UC q4
 have KP4 := UC kp
 have EM4 := UC em
 clear kp em q4
 refine (UB HK).out _ _ (VB (by kernel_rfl) (keepC_yes (US (UB KN4)) VL)) ?_
 clear HK K
 go_simp
 repeat ((first | (refine VN ?_ (UB hA) rfl rfl rfl (by rfl) (fun _ _ _ h => h) ?_ ?_; rotate_left; · (intro w; go_simp <;> with_reducible rfl)) | refine VM (UB hA) rfl rfl (by rfl) (fun _ _ _ h => h) ?_); go_simp)
 refine runC (UB hA) rfl rfl (by kernel_rfl) (by kernel_rfl) (fun K hK => ?_)
 have HK := UC hK
 clear hK
 go_simp
 refine (UB SK _ (UB HN4)).mono ?_
 rintro e w5 ⟨rfl, q5⟩
 have KC5 := UC (UE q5 (UB KC4))
 have KR5 := UC (UE q5 (UB KR4))
 have KP5 := UC (UE q5 (UB KP4))
 have EM5 := UC ((UB EM4).below q5)
 have z5 := q5.size
 have bb5 := UG bb4 q5
 have Q5 := UC (UG (UB Q4) q5)
 clear q5
 refine (UB HK).out _ _ (VB (by kernel_rfl) (VB (by kernel_rfl) VL)) ?_
 clear HK K
 go_simp
 repeat ((first | (refine VN ?_ (UB hA) rfl rfl rfl (by rfl) (fun _ _ _ h => h) ?_ ?_; rotate_left; · (intro w; go_simp <;> with_reducible rfl)) | refine VM (UB hA) rfl rfl (by rfl) (fun _ _ _ h => h) ?_); go_simp)
 refine doneC (UB hA) rfl ?_
 clear hA
 obtain ⟨ps, hM, hcase⟩ := entM_look (UB EM5) (ksB n t)
 rcases hcase with ⟨_, q2⟩ | ⟨sv, sx, l1, q2, hsl⟩
 ·rw [UB HLOOK] at q2
  cases q2
 rw [UB HLOOK] at q2
 cases q2
 obtain ⟨ma, mc, ra, rc, rfl, hu⟩ := hsl
 have hlk := mapV_look_ok (t := 92) Tryz.underlying92 Tryz.underlying9 (zero_slV w5) hM (ksB n t) (UB hkz)
 rw [l1, Option.getD_some, Option.isSome_some] at hlk
 have HUX := UC hu
 clear hM l1 hu HLOOK
 generalize hxx : c.slots.getD i VK = x at *
 generalize hLL : c.slots.set i (updS c.turn x) = LS at *
 have HXX := UC hxx
 have HLL := UC hLL
 clear hxx hLL
 obtain ⟨y0, y1⟩ := cells2S (UB KP5)
 have b6 := UI (w := w5) (.cells #[.slice ma x.name.length mc, .int .i64 x.type, .int .i64 x.kind, .slice ra x.rrs.length rc, .int .i64 x.rank, .int .i64 x.till, .int .i64 x.used] 71)
 have KS6 := UC (heap_alloc_new w5 (.cells #[.slice ma x.name.length mc, .int .i64 x.type, .int .i64 x.kind, .slice ra x.rrs.length rc, .int .i64 x.rank, .int .i64 x.till, .int .i64 x.used] 71))
 have KC6 := UC (UE b6 (UB KC5))
 have KR6 := UC (UE b6 (UB KR5))
 have KP6 := UC (UE b6 (UB KP5))
 have EM6 := UC ((UB EM5).below b6)
 have Q6 := UC (UG (UB Q5) b6)
 have bb6 := UG bb5 b6
 have z6 := b6.size
 have zp := VC (UB KP5)
 obtain ⟨s0, s1, s2, s3, s4, s5, s6⟩ := UJ (UB KS6)
 go_wp2_with fail
 clear y0 y1 s0 s1 s2 s3 s4 s5 s6 hlk b6
 generalize w5.alloc (.cells #[.slice ma x.name.length mc, .int .i64 x.type, .int .i64 x.kind, .slice ra x.rrs.length rc, .int .i64 x.rank, .int .i64 x.till, .int .i64 x.used] 71) = w6 at *
 refine (UB PS _ _ b ma ra mc rc (UB KP6) (UB EM6) (UB HUX)).mono ?_
 rintro e w7 ⟨⟨pv, rfl⟩, kp7, em7, u7⟩
 rw [UB HPUT] at em7
 have KS7 := UC (u7.kept (UB KS6) (by omega))
 have KC7 := UC (u7.kept (UB KC6) (by omega))
 have KR7 := UC (u7.kept (UB KR6) (by omega))
 have Q7 := UC (u7.below (UB Q6) (by omega))
 have bb7 := u7.below bb6 (by omega)
 have KP7 := UC kp7
 have EM7 := UC em7
 have z7 := u7.size
 clear kp7 em7 u7 KS6 KC6 KR6 KP6 EM6 Q6 bb6
 go_wp2_with fail
 have bd := UX (w := w7)
 replace KS7 := UC (UE bd (UB KS7))
 replace KC7 := UC (UE bd (UB KC7))
 replace KR7 := UC (UE bd (UB KR7))
 replace KP7 := UC (UE bd (UB KP7))
 replace EM7 := UC ((UB EM7).below bd)
 replace Q7 := UC (UG (UB Q7) bd)
 replace bb7 := UG bb7 bd
 have zd7 := bd.size
 have zq := (UB Q7).size
 clear bd
 refine startC [0, 1, 2, 4, 5, 6, 7, 8, 9, 10, 12, 13, 3, 11, 14, 15, 16] (by kernel_rfl) ⟨by kernel_rfl, by kernel_rfl, by kernel_rfl, by kernel_rfl⟩ 6 [(2, fun w' => (fun w' => w'.cell? ⟨w.heap.size, 0, none⟩ = some (.int .i64 c.now)) w'), (5, fun w' => (fun w' => w'.cell? ⟨w5.heap.size, 3, none⟩ = some (.slice ra x.rrs.length rc)) w'), (7, fun w' => (fun w' => w'.cell? ⟨w5.heap.size, 5, none⟩ = some (.int .i64 x.till)) w'), (9, fun w' => (fun w' => w'.cell? ⟨w.heap.size, 0, none⟩ = some (.int .i64 c.now)) w'), (13, fun w' => (fun w' => w'.cell? ⟨w5.heap.size, 2, none⟩ = some (.int .i64 x.kind)) w')] (fun hA => ?_)
 replace hA := UC hA
 generalize hWE : w7.drew = WE at *
 clear hWE
 repeat ((first | (refine VN ?_ (UB hA) rfl rfl rfl (by rfl) (fun _ _ _ h => h) ?_ ?_; rotate_left; · (intro w; go_simp <;> with_reducible rfl)) | refine VM (UB hA) rfl rfl (by rfl) (fun _ _ _ h => h) ?_); go_simp)
 refine takeC ?_ (UB hA) rfl rfl rfl (by rfl) (fun _ _ _ h => h) (.head _) (UL (UB KC7)).1 ?_ ?_; rotate_left; (· (intro w hSw; (try dsimp only at hSw); go_simp <;> with_reducible rfl)); go_simp
 repeat ((first | (refine VN ?_ (UB hA) rfl rfl rfl (by rfl) (fun _ _ _ h => h) ?_ ?_; rotate_left; · (intro w; go_simp <;> with_reducible rfl)) | refine VM (UB hA) rfl rfl (by rfl) (fun _ _ _ h => h) ?_); go_simp)
 refine takeC ?_ (UB hA) rfl rfl rfl (by rfl) (fun _ _ _ h => h) (.tail _ (.head _)) (UJ (UB KS7)).2.2.2.1 ?_ ?_; rotate_left; (· (intro w hSw; (try dsimp only at hSw); go_simp <;> with_reducible rfl)); go_simp
 repeat ((first | (refine VN ?_ (UB hA) rfl rfl rfl (by rfl) (fun _ _ _ h => h) ?_ ?_; rotate_left; · (intro w; go_simp <;> with_reducible rfl)) | refine VM (UB hA) rfl rfl (by rfl) (fun _ _ _ h => h) ?_); go_simp)
 refine takeC ?_ (UB hA) rfl rfl rfl (by rfl) (fun _ _ _ h => h) (.tail _ (.tail _ (.head _))) (UJ (UB KS7)).2.2.2.2.2.1 ?_ ?_; rotate_left; (· (intro w hSw; (try dsimp only at hSw); go_simp <;> with_reducible rfl)); go_simp
 repeat ((first | (refine VN ?_ (UB hA) rfl rfl rfl (by rfl) (fun _ _ _ h => h) ?_ ?_; rotate_left; · (intro w; go_simp <;> with_reducible rfl)) | refine VM (UB hA) rfl rfl (by rfl) (fun _ _ _ h => h) ?_); go_simp)
 refine takeC ?_ (UB hA) rfl rfl rfl (by rfl) (fun _ _ _ h => h) (.tail _ (.tail _ (.tail _ (.head _)))) (UL (UB KC7)).1 ?_ ?_; rotate_left; (· (intro w hSw; (try dsimp only at hSw); go_simp <;> with_reducible rfl)); go_simp
 repeat ((first | (refine VN ?_ (UB hA) rfl rfl rfl (by rfl) (fun _ _ _ h => h) ?_ ?_; rotate_left; · (intro w; go_simp <;> with_reducible rfl)) | refine VM (UB hA) rfl rfl (by rfl) (fun _ _ _ h => h) ?_); go_simp)
 refine takeC ?_ (UB hA) rfl rfl rfl (by rfl) (fun _ _ _ h => h) (.tail _ (.tail _ (.tail _ (.tail _ (.head _))))) (UJ (UB KS7)).2.2.1 ?_ ?_; rotate_left; (· (intro w hSw; (try dsimp only at hSw); go_simp <;> with_reducible rfl)); go_simp
 refine runC (UB hA) rfl rfl (by kernel_rfl) (by kernel_rfl) (fun K hK => ?_)
 have HK := UC hK
 clear hK
 go_simp
 refine (UB CS _ _ b (UB KP7) (UB EM7) (UB Q7)).mono ?_
 rintro e w8 ⟨v8, rfl, o8, q8⟩
 obtain ⟨xa, xc, rfl, _⟩ := o8.form
 have KS8 := UC (UE q8 (UB KS7))
 have KC8 := UC (UE q8 (UB KC7))
 have KR8 := UC (UE q8 (UB KR7))
 have O8 := UC o8
 have bb8 := UG bb7 q8
 have zB8 := bb8.size
 have Q8 := UC (UG (UB Q7) q8)
 have z8 := q8.size
 clear o8 q8
 refine (UB HK).out _ _ (VB (by kernel_rfl) (keepC_yes (UJ (UB KS8)).2.2.2.1 (keepC_yes (UJ (UB KS8)).2.2.2.2.2.1 (keepC_yes (UL (UB KC8)).1 (keepC_yes (UJ (UB KS8)).2.2.1 VL))))) ?_
 clear HK K
 go_simp
 refine runC (UB hA) rfl rfl (by kernel_rfl) (by kernel_rfl) (fun K hK => ?_)
 have HK := UC hK
 clear hK
 go_simp
 refine (UB AG _ _ ((UB HUX).rrs.below (UB Q8))).mono ?_
 rintro e w9 ⟨v9, rfl, o9, q9⟩
 obtain ⟨ua, uc, rfl, _⟩ := o9.form
 have KS9 := UC (UE q9 (UB KS8))
 have KR9 := UC (UE q9 (UB KR8))
 have O9 := UC (RowX.below (ownsSl 67 56 5 3) (UB O8) q9)
 have A9 := UC o9
 have bb9 := UG bb8 q9
 have z9 := q9.size
 clear o9 q9
 obtain ⟨g0, g1, g2⟩ := UL (UB KR9)
 obtain ⟨f0, f1, f2⟩ := frozen3 (UB KR9)
 refine (UB HK).out _ _ (VB (by kernel_rfl) (VB (by kernel_rfl) (VB (by kernel_rfl) (VB (by kernel_rfl) (keepC_yes (UJ (UB KS9)).2.2.1 VL))))) ?_
 clear HK K
 go_simp
 refine runC (UB hA) rfl rfl (by kernel_rfl) (by kernel_rfl) (fun K hK => ?_)
 have HK := UC hK
 clear hK
 go_simp
 have u10 := ((UT w9 (w.heap.size + 1 + 1) 0 (.int .i64 c.now)).trans (UT _ (w.heap.size + 1 + 1) 1 (.int .i64 (turnN c.turn)))).trans (UT _ (w.heap.size + 1 + 1) 2 (.slice xa LS.length xc))
 have zks := VC (UB KS9)
 have KS10 := UC (u10.kept (UB KS9) (by omega))
 refine (UB HK).out _ _ (VB (by kernel_rfl) (VB (by kernel_rfl) (VB (by kernel_rfl) (VB (by kernel_rfl) (keepC_yes (UJ (UB KS10)).2.2.1 VL))))) ?_
 clear HK K
 go_simp
 repeat ((first | (refine VN ?_ (UB hA) rfl rfl rfl (by rfl) (fun _ _ _ h => h) ?_ ?_; rotate_left; · (intro w; go_simp <;> with_reducible rfl)) | refine VM (UB hA) rfl rfl (by rfl) (fun _ _ _ h => h) ?_); go_simp)
 refine doneC (UB hA) rfl ?_
 clear hA
 clear g0 g1 g2 f0 f1 f2
 go_wp2_with fail
 have kf : (((w9.setCell ⟨w.heap.size + 1 + 1, 0, none⟩ (.int .i64 c.now)).setCell ⟨w.heap.size + 1 + 1, 1, none⟩ (.int .i64 (turnN c.turn))).setCell ⟨w.heap.size + 1 + 1, 2, none⟩ (.slice xa LS.length xc)).heap[w.heap.size + 1 + 1]? = some (.cells #[.int .i64 c.now, .int .i64 (turnN c.turn), .slice xa LS.length xc] 30) := UV (UV (UV (UB KR9) 0 _) 1 _) 2 _
 have z10 := u10.size
 have O10 := RowX.outside (ownsSl 67 56 5 3) (UB O9) u10 (.inr (by omega))
 have A10 := RowO.outside (UB A9) u10 (.inr (by omega))
 refine bodyPost_ret (results_ctt rfl _ _ (w.heap.size + 1 + 1) 30 #[.int .i64 c.now, .int .i64 (turnN c.turn), .slice xa LS.length xc] (0, 0) _ rfl kf Tryz.underlying30 rfl (by kernel_rfl)) rfl ?_
 obtain rfl := UB HLL
 obtain rfl := UB HXX
 exact ⟨_, _, w8.heap.size, rfl, by omega, by omega, RowX.wide O10 (by omega) (Nat.le_refl _), A10.wide (Nat.le_refl _) (by omega), u10.below bb9 (by omega)⟩

theorem implCacheGet_own {v vn : Value} {c : Ca} {n : List (List Int)} {t : Int} {w : World} (h : HasSs w v c.slots) (hn : HasL w vn n) :
  Calls Tryz.prog 24 #[.agg #[.int .i64 c.now, .int .i64 c.turn, v], .agg #[vn], .int .i64 t] w fun e w' => ∃ v' u s, e = .returned (.tuple #[.agg #[.int .i64 (getC c n t).now, .int .i64 (getC c n t).turn, v'], u, .int .i64 (getK c n t)]) ∧ w.heap.size ≤ s ∧ s ≤ w'.heap.size ∧ RowX 7 (OwnSl 67 56 5 3) VK w.heap.size s 71 w' v' (getC c n t).slots ∧ RowO s w'.heap.size 67 56 5 3 w' u (getL c n t) ∧ Below w.heap.size w w' := by
 cases hg : getOk c n t with
 | false => exact implCacheGet_bad h hn hg
 | true =>
  cases hf : findS n t c.slots with
  | none => exact implCacheGet_none h hn hg hf
  | some i => exact implCacheGet_some h hn hg hf
theorem ssign_cases (c : Int) : (97 ≤ c ∧ c ≤ 122) ∨ (97 ≤ c ∧ 122 < c) ∨ (c < 97 ∧ 48 ≤ c ∧ c ≤ 57) ∨ (c < 97 ∧ 48 ≤ c ∧ 57 < c ∧ c ≠ 45) ∨ (c < 97 ∧ c < 48 ∧ c = 45) ∨ (c < 97 ∧ c < 48 ∧ c ≠ 45) := by omega

set_option maxHeartbeats 1600000 in
set_option maxRecDepth 100000 in
theorem specLabelOk_has {v : Value} {l : List Int} {w : World} (h : Has w v l) :
  Calls Tryz.prog 89 #[v] w fun e w' => e = .returned (.bool (labelOk l)) ∧ w = w' := by
 have hbd := h.bound
 unfold maxLen at hbd
 obtain ⟨a, cap, rfl, hL⟩ := h.form
 by_cases h0 : l.length = 0
 ·rw [labelOk_short (by omega), h0]
  go_enter Tryz.func89, Tryz.ntmps89
  go_wp2
  go_ret
  exact ⟨rfl, rfl⟩
 ·by_cases h1 : 15 < l.length
  ·rw [labelOk_short (by omega)]
   generalize hn : l.length = n at *
   go_enter Tryz.func89, Tryz.ntmps89
   go_wp2
   go_ret
   exact ⟨rfl, rfl⟩
  ·have h2 : l.length ≤ 15 := by omega
   have hyes := UC (fun (hs : ∀ j, j < l.length → signOk (l.getD j 0) = true) => labelOk_yes (l := l) (by omega) h2 hs)
   have hno := UC (fun (j : Nat) (hj : j < l.length) (hs : signOk (l.getD j 0) = false) => labelOk_sign hj hs)
   generalize hok : labelOk l = ok at *
   clear hok
   generalize hn : l.length = n at *
   have HN := UC hn
   clear hn
   have hn1 : (1 : Int) ≤ n := by omega
   go_enter Tryz.func89, Tryz.ntmps89
   go_wp2
   go_loop [3] (fun i => ∃ k : Nat, k ≤ n ∧ i = .int .i64 k ∧ Hid (∀ j, j < k → signOk (l.getD j 0) = true)) (fun i => n - (intOf i).toNat)
   case atStart => exact ⟨0, Nat.zero_le _, rfl, UC (fun j hj => absurd hj (Nat.not_lt_zero _))⟩
   case round =>
    obtain ⟨k, hk, rfl, hall⟩ := hrel
    by_cases hlt : k < n
    ·obtain ⟨b, off, rfl, hbl, hc⟩ := hL.here (k := k) (by rw [UB HN]; exact hlt)
     have hone := UC (fun (hs : signOk (l.getD k 0) = true) => (show ∀ j, j < k + 1 → signOk (l.getD j 0) = true from fun j hj => by
      by_cases e : j = k
      ·subst e; exact hs
      ·exact UB hall j (by omega)))
     have hnok := UC (fun (hs : signOk (l.getD k 0) = false) => UB hno k hlt hs)
     generalize hx : l.getD k 0 = x at *
     rcases ssign_cases x with ⟨h1, h2⟩ | ⟨h1, h2⟩ | ⟨h1, h2, h3⟩ | ⟨h1, h2, h3, h4⟩ | ⟨h1, h2, rfl⟩ | ⟨h1, h2, h3⟩
     ·have hs : signOk x = true := decide_eq_true (by omega)
      go_wp2
      exact ⟨⟨k + 1, by omega, by go_num, UC (UB hone hs)⟩, by simp [intOf]; omega⟩
     ·have hs : signOk x = false := decide_eq_false (by omega)
      have hq := UB hnok hs
      subst hq
      have h8 : (x == 45) = false := by simp; omega
      have h5 : 48 ≤ x := by omega
      have h6 : ¬ x ≤ 57 := by omega
      have h7 : ¬ x ≤ 122 := by omega
      go_wp2
      go_ret
      exact ⟨rfl, rfl⟩
     ·have hs : signOk x = true := decide_eq_true (by omega)
      have h5 : ¬ 97 ≤ x := by omega
      go_wp2
      exact ⟨⟨k + 1, by omega, by go_num, UC (UB hone hs)⟩, by simp [intOf]; omega⟩
     ·have hs : signOk x = false := decide_eq_false (by omega)
      have hq := UB hnok hs
      subst hq
      have h8 : (x == 45) = false := by simp; omega
      have h5 : ¬ 97 ≤ x := by omega
      have h6 : ¬ x ≤ 57 := by omega
      go_wp2
      go_ret
      exact ⟨rfl, rfl⟩
     ·have hs : signOk 45 = true := rfl
      go_wp2
      exact ⟨⟨k + 1, by omega, by go_num, UC (UB hone hs)⟩, by simp [intOf]; omega⟩
     ·have hs : signOk x = false := decide_eq_false (by omega)
      have hq := UB hnok hs
      subst hq
      have h8 : (x == 45) = false := by simp; omega
      have h5 : ¬ 97 ≤ x := by omega
      have h6 : ¬ 48 ≤ x := by omega
      go_wp2
      go_ret
      exact ⟨rfl, rfl⟩
    ·obtain rfl : k = n := by omega
     have hq := UB hyes (UB hall)
     subst hq
     go_wp2
     go_ret
     exact ⟨rfl, rfl⟩
set_option maxHeartbeats 400000 in
set_option maxRecDepth 100000 in
theorem VO {v : Value} {n : List (List Int)} {w : World} (h : HasL w v n) :
  Calls Tryz.prog 46 #[.agg #[v]] w fun e w' => e = .returned (.bool (nameOk n)) ∧ Below w.heap.size w w' := by
 obtain ⟨a, cap, rfl, hl, hm⟩ := h.form
 unfold maxLen at hm
 by_cases h1 : 6 < n.length
 ·rw [nameOk_long h1]
  have H := UC h
  clear h
  generalize hn : n.length = m at *
  have HN := UC hn
  clear hn
  go_enter Tryz.func46, Tryz.ntmps46
  go_wp2
  go_ret
  exact ⟨rfl, UI _⟩
 ·have h2 : n.length ≤ 6 := by omega
  have hA := h.below (UI (.cells #[.slice a n.length cap] 46))
  have H := UC h
  clear h
  have hyes := UC (fun (hs : ∀ j, j < n.length → labelOk (n.getD j []) = true) => nameOk_yes (n := n) h2 hs)
  have hno := UC (fun (j : Nat) (hj : j < n.length) (hs : labelOk (n.getD j []) = false) => nameOk_label hj hs)
  generalize hok : nameOk n = ok at *
  clear hok
  generalize hn : n.length = m at *
  have HN := UC hn
  clear hn
  go_enter Tryz.func46, Tryz.ntmps46
  go_wp2
  go_loop [3] (fun i => ∃ k : Nat, k ≤ m ∧ i = .int .i64 k ∧ Hid (∀ j, j < k → labelOk (n.getD j []) = true)) (fun i => m - (intOf i).toNat)
  case atStart => exact ⟨0, Nat.zero_le _, rfl, UC (fun j hj => absurd hj (Nat.not_lt_zero _))⟩
  case round =>
   obtain ⟨k, hk, rfl, hall⟩ := hrel
   by_cases hlt : k < m
   ·obtain ⟨b, off, u, rfl, hbl, hc, hu⟩ := hA.here (k := k) (by rw [UB HN]; exact hlt)
    have hone := UC (fun (hs : labelOk (n.getD k []) = true) => (show ∀ j, j < k + 1 → labelOk (n.getD j []) = true from fun j hj => by
      by_cases e : j = k
      ·subst e; exact hs
      ·exact UB hall j (by omega)))
    have hnok := UC (fun (hs : labelOk (n.getD k []) = false) => UB hno k hlt hs)
    generalize hx : n.getD k [] = x at *
    have HU := UC hu
    obtain ⟨ua, uc, rfl, _⟩ := hu.form
    clear hu
    go_wp2_with fail
    refine (specLabelOk_has (UB HU)).mono ?_
    rintro e w1 ⟨rfl, rfl⟩
    cases hs : labelOk x with
    | true =>
     go_wp2
     exact ⟨⟨k + 1, by omega, by go_num, UC (UB hone hs)⟩, by simp [intOf]; omega⟩
    | false =>
     have hq := UB hnok hs
     subst hq
     go_wp2
     go_ret
     exact ⟨rfl, UI _⟩
   ·obtain rfl : k = m := by omega
    have hq := UB hyes (UB hall)
    subst hq
    go_wp2
    go_ret
    exact ⟨rfl, UI _⟩
end Go.Proofs.YtaehfeobfkaicaaGreat
