/-
  Contract of the specification's l10get.
-/
import Derived.Test.YtaehfeobfkaicaaGreatCacheGetG41
import Derived.Test.YtaehfeobfkaicaaGreatCacheGetG40
import Derived.Test.YtaehfeobfkaicaaGreatCacheGetG14
namespace Go.Proofs.YtaehfeobfkaicaaGreat
open Go.RowKit
set_option linter.unusedVariables false
set_option maxHeartbeats 4000000
set_option maxRecDepth 100000

theorem l10find_at {v vn : Value} {l : List Slt} {n : List (List Int)} {turn0 turn t : Int} {w : World} {i : Nat} (hf : findS n t l = some i) (h : HasSs w v l) (hn : HasL w vn n) (h8 : l.length ≤ 8) (hnl : n.length ≤ 1048576) (hsn : ∀ k, k < l.length → (l.getD k VK).name.length ≤ 1048576) :
  Calls Tryz.prog 90 #[.agg #[.int .i64 turn0, .int .i64 turn, v], .agg #[vn], .int .i64 t] w fun e w' => e = .returned (.int .i64 i) ∧ Below w.heap.size w w' := by
 have := l10find_has (turn0 := turn0) (turn := turn) (t := t) h hn h8 hnl hsn
 rwa [findZ_some hf] at this
theorem l10find_out {v vn : Value} {l : List Slt} {n : List (List Int)} {turn0 turn t : Int} {w : World} (hf : findS n t l = none) (h : HasSs w v l) (hn : HasL w vn n) (h8 : l.length ≤ 8) (hnl : n.length ≤ 1048576) (hsn : ∀ k, k < l.length → (l.getD k VK).name.length ≤ 1048576) :
  Calls Tryz.prog 90 #[.agg #[.int .i64 turn0, .int .i64 turn, v], .agg #[vn], .int .i64 t] w fun e w' => e = .returned (.int .i64 (-1)) ∧ Below w.heap.size w w' := by
 have := l10find_has (turn0 := turn0) (turn := turn) (t := t) h hn h8 hnl hsn
 rwa [findZ_none hf] at this

theorem l10get_none {v vn : Value} {l : List Slt} {n : List (List Int)} {now turn t : Int} {bp B E : Nat} {w0 w : World} (hk : w.heap[bp]? = some (.cells #[.int .i64 now, .int .i64 turn, v] 30)) (hr : RowX 7 (OwnSQ 67 56 5 3) VK B E 71 w v l) (hB : w0.heap.size ≤ B) (hE : E ≤ bp) (hw0 : w0.heap.size ≤ bp) (hb0 : Below w0.heap.size w0 w) (hn : HasL w vn n) (h8 : l.length ≤ 8) (hnl : n.length ≤ 1048576) (hsh : ∀ k, k < l.length → ShortS (l.getD k VK)) (hf : findS n t l = none) :
  Calls Tryz.prog 56 #[.pointer (some ⟨bp, 0, none⟩), .agg #[vn], .int .i64 t] w fun e w' => e = .returned (.tuple #[.slice none 0 0, .int .i64 0]) ∧ w'.heap[bp]? = some (.cells #[.int .i64 now, .int .i64 turn, v] 30) ∧ RowX 7 (OwnSQ 67 56 5 3) VK B E 71 w' v l ∧ Below w0.heap.size w0 w' := by
 have HF := UC hf
 clear hf
 obtain ⟨na, nc, rfl, _⟩ := hn.form
 skip
 have b1 := UI (w := w) (.cells #[.slice na n.length nc] 46)
 have bb1 := UG hb0 b1
 have KP := UC (UE b1 hk)
 have KN := UC (heap_alloc_new w (.cells #[.slice na n.length nc] 46))
 have RX := UC (RowX.below (ownsSQ 67 56 5 3) hr b1)
 have HN := UC (hn.below b1)
 have HSH := UC (fun k (hk : k < l.length) => Nat.le_trans (hsh k hk).1.1 (show 6 ≤ 1048576 by decide))
 have zp := Nat.lt_of_lt_of_le (VC hk) b1.size
 clear hr hk hn b1
 go_enter Tryz.func56, Tryz.ntmps56
 go_wp2_with fail
 generalize w.alloc (.cells #[.slice na n.length nc] 46) = W at *
 have bd := UX (w := W)
 have bb2 := UG bb1 bd
 have KP2 := UC (UE bd (UB KP))
 have KN2 := UC (UE bd (UB KN))
 have RX2 := UC (RowX.below (ownsSQ 67 56 5 3) (UB RX) bd)
 have HN2 := UC ((UB HN).below bd)
 have zd := bd.size
 clear bd KP KN RX HN
 refine startC [0, 1, 2, 3, 4, 5, 6] (by kernel_rfl) ⟨by kernel_rfl, by kernel_rfl, by kernel_rfl, by kernel_rfl⟩ 8 [(2, fun w' => (fun w' => w'.cell? ⟨bp, 0, none⟩ = some (.int .i64 now) ∧ w'.cell? ⟨bp, 1, none⟩ = some (.int .i64 turn) ∧ w'.cell? ⟨bp, 2, none⟩ = some (v)) w'), (3, fun w' => (fun w' => w'.cell? ⟨w.heap.size, 0, none⟩ = some (.slice na n.length nc)) w')] (fun hA => ?_)
 replace hA := UC hA
 generalize hWD : W.drew = WD at *
 clear hWD
 repeat ((first | (refine VN ?_ (UB hA) rfl rfl rfl (by rfl) (fun _ _ _ h => h) ?_ ?_; rotate_left; · (intro w; go_simp <;> with_reducible rfl)) | refine VM (UB hA) rfl rfl (by rfl) (fun _ _ _ h => h) ?_); go_simp)
 refine takeC ?_ (UB hA) rfl rfl rfl (by rfl) (fun _ _ _ h => h) (.head _) (UL (UB KP2)) ?_ ?_; rotate_left; (· (intro w hSw; (try dsimp only at hSw); go_simp <;> with_reducible rfl)); go_simp
 repeat ((first | (refine VN ?_ (UB hA) rfl rfl rfl (by rfl) (fun _ _ _ h => h) ?_ ?_; rotate_left; · (intro w; go_simp <;> with_reducible rfl)) | refine VM (UB hA) rfl rfl (by rfl) (fun _ _ _ h => h) ?_); go_simp)
 refine takeC ?_ (UB hA) rfl rfl rfl (by rfl) (fun _ _ _ h => h) (.tail _ (.head _)) (US (UB KN2)) ?_ ?_; rotate_left; (· (intro w hSw; (try dsimp only at hSw); go_simp <;> with_reducible rfl)); go_simp
 repeat ((first | (refine VN ?_ (UB hA) rfl rfl rfl (by rfl) (fun _ _ _ h => h) ?_ ?_; rotate_left; · (intro w; go_simp <;> with_reducible rfl)) | refine VM (UB hA) rfl rfl (by rfl) (fun _ _ _ h => h) ?_); go_simp)
 refine runC (UB hA) rfl rfl (by kernel_rfl) (by kernel_rfl) (fun K hK => ?_)
 have HK := UC hK
 clear hK
 go_simp
 refine (l10find_out (UB HF) (RowX.has (ownsSQ 67 56 5 3) OwnSQ.has (UB RX2)) (UB HN2) h8 hnl (UB HSH)).mono ?_
 rintro e w5 ⟨rfl, b5⟩
 have KP5 := UC (UE b5 (UB KP2))
 have RX5 := UC (RowX.below (ownsSQ 67 56 5 3) (UB RX2) b5)
 have bb5 := UG bb2 b5
 have z5 := b5.size
 refine (UB HK).out _ _ (VB (by kernel_rfl) (VB (by kernel_rfl) VL)) ?_
 clear HK K
 go_simp
 repeat ((first | (refine VN ?_ (UB hA) rfl rfl rfl (by rfl) (fun _ _ _ h => h) ?_ ?_; rotate_left; · (intro w; go_simp <;> with_reducible rfl)) | refine VM (UB hA) rfl rfl (by rfl) (fun _ _ _ h => h) ?_); go_simp)
 refine doneC (UB hA) rfl ?_
 clear hA
 clear b5 KP2 KN2 RX2 HN2 HSH z5
 go_wp2_with fail
 go_ret2
 exact ⟨rfl, UB KP5, UB RX5, bb5⟩

theorem l10get_some {v vn : Value} {l : List Slt} {n : List (List Int)} {now turn t : Int} {bp B E : Nat} {w0 w : World} (hk : w.heap[bp]? = some (.cells #[.int .i64 now, .int .i64 turn, v] 30)) (hr : RowX 7 (OwnSQ 67 56 5 3) VK B E 71 w v l) (hB : w0.heap.size ≤ B) (hE : E ≤ bp) (hw0 : w0.heap.size ≤ bp) (hb0 : Below w0.heap.size w0 w) (hn : HasL w vn n) (h8 : l.length ≤ 8) (hnl : n.length ≤ 1048576) (hsh : ∀ k, k < l.length → ShortS (l.getD k VK)) {i : Nat} (hf : findS n t l = some i) (htn : 0 ≤ turn ∧ turn ≤ 1000000) (hnw : 0 ≤ now ∧ now ≤ 1000000) (htl : now < (l.getD i VK).till ∧ (l.getD i VK).till ≤ now + 1000) :
  Calls Tryz.prog 56 #[.pointer (some ⟨bp, 0, none⟩), .agg #[vn], .int .i64 t] w fun e w' => ∃ v' x B1, e = .returned (.tuple #[x, .int .i64 (l.getD i VK).kind]) ∧ w'.heap[bp]? = some (.cells #[.int .i64 now, .int .i64 (turnN turn), v'] 30) ∧ RowX 7 (OwnSQ 67 56 5 3) VK B E 71 w' v' (l.set i (updS turn (l.getD i VK))) ∧ w0.heap.size ≤ B1 ∧ RowQ B1 67 56 5 3 w' x (agedK (l.getD i VK).rrs ((l.getD i VK).till - now) (l.getD i VK).rrs.length) ∧ Below w0.heap.size w0 w' := by
 have hi := (findS_at hf).1
 have hr12 := (hsh i hi).2.1
 have HSR := UC (hsh i hi).2.2
 generalize hX : l.getD i VK = X at *
 have HF := UC hf
 clear hf
 have HA0 := UC (agedK_zero X.rrs (X.till - now))
 have HLE := UC (agedK_length X.rrs (X.till - now))
 have HSU := UC (agedK_succ X.rrs (X.till - now))
 have HSA := UC (agedK_same X.rrs (X.till - now))
 have HHE := UC (agedK_here X.rrs (X.till - now))
 have hwl : IntKind.i64.wrap (X.till - now) = X.till - now := wrap_intT _ (by omega) (by omega)
 have qi : decide ((i : Int) < 0) = false := decide_eq_false (by omega)
 have hii : (i : Int) < l.length := by omega
 have hi0 : ¬ ((i : Int) < 0) := by omega
 by_cases ht : turn < 1000000
 ·have hT : turnN turn = turn + 1 := if_pos ht
  have hU : updS turn X = ⟨X.name, X.type, X.kind, X.rrs, X.rank, X.till, turn + 1⟩ := if_pos ht
  rw [hT, hU]
  have qt : decide (turn < 1000000) = true := decide_eq_true ht
  have hwt : IntKind.i64.wrap (turn + 1) = turn + 1 := wrap_intT _ (by omega) (by omega)
  have HY := UC (show (l.set i ⟨X.name, X.type, X.kind, X.rrs, X.rank, X.till, turn + 1⟩).getD i VK = ⟨X.name, X.type, X.kind, X.rrs, X.rank, X.till, turn + 1⟩ by rw [List.getD_eq_getElem?_getD, List.getElem?_set_self hi, Option.getD_some])
  replace hX := UC hX
  clear ht hT hU
  obtain ⟨na, nc, rfl, _⟩ := hn.form
  obtain ⟨a, cap, rfl, _⟩ := hr.form
  obtain ⟨q, rfl⟩ := RowX.ptr hr (by omega)
  have b1 := UI (w := w) (.cells #[.slice na n.length nc] 46)
  have bb1 := UG hb0 b1
  have KP := UC (UE b1 hk)
  have KN := UC (heap_alloc_new w (.cells #[.slice na n.length nc] 46))
  have RX := UC (RowX.below (ownsSQ 67 56 5 3) hr b1)
  have HN := UC (hn.below b1)
  have HSH := UC (fun k (hk : k < l.length) => Nat.le_trans (hsh k hk).1.1 (show 6 ≤ 1048576 by decide))
  have zp := Nat.lt_of_lt_of_le (VC hk) b1.size
  clear hr hk hn b1
  go_enter Tryz.func56, Tryz.ntmps56
  go_wp2_with fail
  generalize w.alloc (.cells #[.slice na n.length nc] 46) = W at *
  have bd := UX (w := W)
  have bb2 := UG bb1 bd
  have KP2 := UC (UE bd (UB KP))
  have KN2 := UC (UE bd (UB KN))
  have RX2 := UC (RowX.below (ownsSQ 67 56 5 3) (UB RX) bd)
  have HN2 := UC ((UB HN).below bd)
  have zd := bd.size
  clear bd KP KN RX HN
  refine startC [0, 1, 2, 3, 4, 5, 6] (by kernel_rfl) ⟨by kernel_rfl, by kernel_rfl, by kernel_rfl, by kernel_rfl⟩ 8 [(2, fun w' => (fun w' => w'.cell? ⟨bp, 0, none⟩ = some (.int .i64 now) ∧ w'.cell? ⟨bp, 1, none⟩ = some (.int .i64 turn) ∧ w'.cell? ⟨bp, 2, none⟩ = some (.slice (some ⟨q, 0, none⟩) l.length cap)) w'), (3, fun w' => (fun w' => w'.cell? ⟨w.heap.size, 0, none⟩ = some (.slice na n.length nc)) w')] (fun hA => ?_)
  replace hA := UC hA
  generalize hWD : W.drew = WD at *
  clear hWD
  repeat ((first | (refine VN ?_ (UB hA) rfl rfl rfl (by rfl) (fun _ _ _ h => h) ?_ ?_; rotate_left; · (intro w; go_simp <;> with_reducible rfl)) | refine VM (UB hA) rfl rfl (by rfl) (fun _ _ _ h => h) ?_); go_simp)
  refine takeC ?_ (UB hA) rfl rfl rfl (by rfl) (fun _ _ _ h => h) (.head _) (UL (UB KP2)) ?_ ?_; rotate_left; (· (intro w hSw; (try dsimp only at hSw); go_simp <;> with_reducible rfl)); go_simp
  repeat ((first | (refine VN ?_ (UB hA) rfl rfl rfl (by rfl) (fun _ _ _ h => h) ?_ ?_; rotate_left; · (intro w; go_simp <;> with_reducible rfl)) | refine VM (UB hA) rfl rfl (by rfl) (fun _ _ _ h => h) ?_); go_simp)
  refine takeC ?_ (UB hA) rfl rfl rfl (by rfl) (fun _ _ _ h => h) (.tail _ (.head _)) (US (UB KN2)) ?_ ?_; rotate_left; (· (intro w hSw; (try dsimp only at hSw); go_simp <;> with_reducible rfl)); go_simp
  repeat ((first | (refine VN ?_ (UB hA) rfl rfl rfl (by rfl) (fun _ _ _ h => h) ?_ ?_; rotate_left; · (intro w; go_simp <;> with_reducible rfl)) | refine VM (UB hA) rfl rfl (by rfl) (fun _ _ _ h => h) ?_); go_simp)
  refine runC (UB hA) rfl rfl (by kernel_rfl) (by kernel_rfl) (fun K hK => ?_)
  have HK := UC hK
  clear hK
  go_simp
  refine (l10find_at (UB HF) (RowX.has (ownsSQ 67 56 5 3) OwnSQ.has (UB RX2)) (UB HN2) h8 hnl (UB HSH)).mono ?_
  rintro e w5 ⟨rfl, b5⟩
  have KP5 := UC (UE b5 (UB KP2))
  have RX5 := UC (RowX.below (ownsSQ 67 56 5 3) (UB RX2) b5)
  have bb5 := UG bb2 b5
  have z5 := b5.size
  refine (UB HK).out _ _ (VB (by kernel_rfl) (VB (by kernel_rfl) VL)) ?_
  clear HK K
  go_simp
  repeat ((first | (refine VN ?_ (UB hA) rfl rfl rfl (by rfl) (fun _ _ _ h => h) ?_ ?_; rotate_left; · (intro w; go_simp <;> with_reducible rfl)) | refine VM (UB hA) rfl rfl (by rfl) (fun _ _ _ h => h) ?_); go_simp)
  refine doneC (UB hA) rfl ?_
  clear hA
  clear b5 KP2 KN2 RX2 HN2 HSH z5
  obtain ⟨d0, d1, d2⟩ := UL (UB KP5)
  obtain ⟨f0, f1, f2⟩ := frozen3 (UB KP5)
  go_wp2_with fail
  clear d0 d1 d2 f0 f1 f2
  have zw := VC (UB KP5)
  have u6 := UT w5 bp 1 (.int .i64 (turn + 1))
  have KP6 : Hid ((w5.setCell ⟨bp, 1, none⟩ (.int .i64 (turn + 1))).heap[bp]? = some (.cells #[.int .i64 now, .int .i64 (turn + 1), .slice (some ⟨q, 0, none⟩) l.length cap] 30)) := UV (UB KP5) 1 _
  have RX6 := UC (RowX.outside (ownsSQ 67 56 5 3) (UB RX5) u6 (.inl hE))
  have bb6 := u6.below bb5 hw0
  clear KP5 RX5 u6 bb5
  generalize w5.setCell ⟨bp, 1, none⟩ (.int .i64 (turn + 1)) = W6 at *
  have bd := UX (w := W6)
  replace KP6 := UC (UE bd (UB KP6))
  replace RX6 := UC (RowX.below (ownsSQ 67 56 5 3) (UB RX6) bd)
  replace bb6 := UG bb6 bd
  obtain ⟨hqB, hqE, hqw, fz, vn0, vr0, hcq, _⟩ := RowX.slot (UB RX6) hi
  have cz := (VH hcq).2.2.2.2.2.2
  clear hcq bd
  refine startC [0, 1, 2, 3, 4, 5, 6, 7, 8, 9, 10, 11] (by kernel_rfl) ⟨by kernel_rfl, by kernel_rfl, by kernel_rfl, by kernel_rfl⟩ 8 [(3, fun w' => (fun w' => w'.cell? ⟨bp, 2, none⟩ = some (.slice (some ⟨q, 0, none⟩) l.length cap)) w'), (8, fun w' => (fun w' => w'.cell? ⟨bp, 1, none⟩ = some (.int .i64 (turn + 1))) w')] (fun hA => ?_)
  replace hA := UC hA
  generalize hWG : W6.drew = WD6 at *
  clear hWG
  repeat ((first | (refine VN ?_ (UB hA) rfl rfl rfl (by rfl) (fun _ _ _ h => h) ?_ ?_; rotate_left; · (intro w; go_simp <;> with_reducible rfl)) | refine VM (UB hA) rfl rfl (by rfl) (fun _ _ _ h => h) ?_); go_simp)
  refine takeC ?_ (UB hA) rfl rfl rfl (by rfl) (fun _ _ _ h => h) (.head _) (UL (UB KP6)).2.2 ?_ ?_; rotate_left; (· (intro w hSw; (try dsimp only at hSw); go_simp <;> with_reducible rfl)); go_simp
  repeat ((first | (refine VN ?_ (UB hA) rfl rfl rfl (by rfl) (fun _ _ _ h => h) ?_ ?_; rotate_left; · (intro w; go_simp <;> with_reducible rfl)) | refine VM (UB hA) rfl rfl (by rfl) (fun _ _ _ h => h) ?_); go_simp)
  refine takeC ?_ (UB hA) rfl rfl rfl (by rfl) (fun _ _ _ h => h) (.tail _ (.head _)) (UL (UB KP6)).2.1 ?_ ?_; rotate_left; (· (intro w hSw; (try dsimp only at hSw); go_simp <;> with_reducible rfl)); go_simp
  repeat ((first | (refine VN ?_ (UB hA) rfl rfl rfl (by rfl) (fun _ _ _ h => h) ?_ ?_; rotate_left; · (intro w; go_simp <;> with_reducible rfl)) | refine VM (UB hA) rfl rfl (by rfl) (fun _ _ _ h => h) ?_); go_simp)
  refine runC (UB hA) rfl rfl (by kernel_rfl) (by kernel_rfl) (fun K hK => ?_)
  have HK := UC hK
  clear hK
  go_simp
  refine (UB HK).out _ _ (VB (by kernel_rfl) (VB (by kernel_rfl) VL)) ?_
  clear HK K
  go_simp
  refine doneC (UB hA) rfl ?_
  clear hA
  have u7 := UT WD6 q (i * 7 + 6) (.int .i64 (turn + 1))
  have KP7 := UC (u7.kept (UB KP6) (by omega))
  have RX7 := UC (RowX.used (UB RX6) hi (turn + 1))
  rw [UB hX] at RX7
  have bb7 := u7.below bb6 (by omega)
  clear u7 KP6 RX6 bb6 fz cz
  generalize WD6.setCell ⟨q, i * 7 + 6, none⟩ (.int .i64 (turn + 1)) = W7 at *
  obtain ⟨_, _, zq, _, vn1, vr1, hc, hu⟩ := RowX.slot (UB RX7) (m := i) (by first | exact hi | (rw [List.length_set]; exact hi))
  rw [UB HY] at hc hu
  have hnm : HasL W7 vn1 X.name := hu.name
  have hrm : HasRs W7 vr1 X.rrs := hu.rrs
  obtain ⟨na1, nc1, rfl, _⟩ := hnm.form
  obtain ⟨ra1, rc1, rfl, _⟩ := hrm.form
  have HC := UC (show W7.rangeAt q (i * 7) [.slice na1 X.name.length nc1, .int .i64 X.type, .int .i64 X.kind, .slice ra1 X.rrs.length rc1, .int .i64 X.rank, .int .i64 X.till, .int .i64 (turn + 1)] from hc)
  have bS := UI (w := W7) (.cells #[.slice na1 X.name.length nc1, .int .i64 X.type, .int .i64 X.kind, .slice ra1 X.rrs.length rc1, .int .i64 X.rank, .int .i64 X.till, .int .i64 (turn + 1)] 71)
  have KS := UC (heap_alloc_new W7 (.cells #[.slice na1 X.name.length nc1, .int .i64 X.type, .int .i64 X.kind, .slice ra1 X.rrs.length rc1, .int .i64 X.rank, .int .i64 X.till, .int .i64 (turn + 1)] 71))
  have KP8 := UC (UE bS (UB KP7))
  have RX8 := UC (RowX.below (ownsSQ 67 56 5 3) (UB RX7) bS)
  have bb8 := UG bb7 bS
  have LOA := UC (l3ownAll_has (hrm.below bS) (UB HSR) (Nat.le_trans hr12 (show 12 ≤ 1000 by decide)))
  clear hc hu hnm hrm bS RX7
  obtain ⟨d0, d1, d2⟩ := UL (UB KP7)
  obtain ⟨c0, c1, c2, c3, c4, c5, c6⟩ := VH (UB HC)
  obtain ⟨s0, s1, s2, s3, s4, s5, s6⟩ := UJ (UB KS)
  go_wp2_with fail
  clear d0 d1 d2 c0 c1 c2 c3 c4 c5 c6 s0 s1 s2 s3 s4 s5 s6 HC KP7 bb7
  have hSB : W7.heap.size < (W7.alloc (.cells #[.slice na1 X.name.length nc1, .int .i64 X.type, .int .i64 X.kind, .slice ra1 X.rrs.length rc1, .int .i64 X.rank, .int .i64 X.till, .int .i64 (turn + 1)] 71)).heap.size := by rw [World.size_alloc]; omega
  generalize hs : W7.heap.size = s at *
  generalize W7.alloc (.cells #[.slice na1 X.name.length nc1, .int .i64 X.type, .int .i64 X.kind, .slice ra1 X.rrs.length rc1, .int .i64 X.rank, .int .i64 X.till, .int .i64 (turn + 1)] 71) = W1 at *
  clear hs zq
  refine (UB LOA).mono ?_
  rintro e w9 ⟨x9, rfl, o9, b9⟩
  obtain ⟨xa, xc, rfl, _⟩ := o9.form
  rw [← UB HA0] at o9
  have O9 := UC o9
  rw [UB HLE 0] at O9
  clear o9 LOA
  generalize hM : agedK X.rrs (X.till - now) = M at *
  have HM := UC hM
  generalize hm : X.rrs.length = m at *
  have HMM := UC hm
  clear hm hM
  go_wp2_with fail
  go_loopw [11] (fun i wr => ∃ k : Nat, k ≤ m ∧ i = .int .i64 k ∧ RowQ W1.heap.size 67 56 5 3 wr (.slice xa m xc) (M k) ∧ Below W1.heap.size W1 wr) (fun i _ => m - (intOf i).toNat)
  case atStart => exact ⟨0, Nat.zero_le _, rfl, UB O9, b9⟩
  case round =>
   clear O9 b9
   obtain ⟨k, hk, rfl, hr, hb⟩ := hrel
   by_cases hlt : k < m
   ·have hki : (k : Int) < m := by omega
    go_wp2_with fail
    have bd := UX (w := wr)
    have hb1 := UG hb bd
    have hr1 := hr.below bd
    have HE := UB HHE k hlt
    have HSK := UB HSU k hlt
    have HSM := UC (UB HSA k hlt)
    clear bd hr hb
    obtain ⟨p, pc, hv, hpB, hpw, hct, hft, hset⟩ := hr1.ttl (by decide) (by decide) (by decide) (m := k) (by rw [UB HLE k]; exact hlt)
    obtain rfl : xa = some ⟨p, 0, none⟩ := (Value.slice.inj hv).1
    rw [HE] at hct hset
    have hra : agedR (X.till - now) (X.rrs.getD k recZ) = if X.till - now < (X.rrs.getD k recZ).ttl then ttlR (X.rrs.getD k recZ) (X.till - now) else X.rrs.getD k recZ := rfl
    have HCT := UC hct
    have KS9 := UC (UE hb1 (UB KS))
    have KP9 := UC (UE hb1 (UB KP8))
    have HR1 := UC hr1
    clear hct hv hset hr1 hft
    generalize hy : (X.rrs.getD k recZ).ttl = y at *
    by_cases hlv : X.till - now < y
    ·rw [if_pos hlv] at hra
     rw [hra] at HSK
     replace HSK := UC HSK
     have ql : decide (X.till - now < y) = true := decide_eq_true hlv
     replace HE := UC HE
     clear hra HSM hlv hy
     refine startC [0, 1, 2, 3, 4, 5, 6, 7, 8, 9, 10, 11, 12] (by kernel_rfl) ⟨by kernel_rfl, by kernel_rfl, by kernel_rfl, by kernel_rfl⟩ 8 [(1, fun w' => (fun w' => w'.cell? ⟨s, 5, none⟩ = some (.int .i64 X.till)) w'), (5, fun w' => (fun w' => w'.cell? ⟨bp, 0, none⟩ = some (.int .i64 now)) w'), (11, fun w' => (fun w' => w'.cell? ⟨p, k * 7 + 2, none⟩ = some (.int .i64 y)) w')] (fun hA => ?_)
     replace hA := UC hA
     generalize hWD : wr.drew = WE at *
     clear hWD
     repeat ((first | (refine VN ?_ (UB hA) rfl rfl rfl (by rfl) (fun _ _ _ h => h) ?_ ?_; rotate_left; · (intro w; go_simp <;> with_reducible rfl)) | refine VM (UB hA) rfl rfl (by rfl) (fun _ _ _ h => h) ?_); go_simp)
     refine takeC ?_ (UB hA) rfl rfl rfl (by rfl) (fun _ _ _ h => h) (.head _) (UJ (UB KS9)).2.2.2.2.2.1 ?_ ?_; rotate_left; (· (intro w hSw; (try dsimp only at hSw); go_simp <;> with_reducible rfl)); go_simp
     repeat ((first | (refine VN ?_ (UB hA) rfl rfl rfl (by rfl) (fun _ _ _ h => h) ?_ ?_; rotate_left; · (intro w; go_simp <;> with_reducible rfl)) | refine VM (UB hA) rfl rfl (by rfl) (fun _ _ _ h => h) ?_); go_simp)
     refine takeC ?_ (UB hA) rfl rfl rfl (by rfl) (fun _ _ _ h => h) (.tail _ (.head _)) (UL (UB KP9)).1 ?_ ?_; rotate_left; (· (intro w hSw; (try dsimp only at hSw); go_simp <;> with_reducible rfl)); go_simp
     repeat ((first | (refine VN ?_ (UB hA) rfl rfl rfl (by rfl) (fun _ _ _ h => h) ?_ ?_; rotate_left; · (intro w; go_simp <;> with_reducible rfl)) | refine VM (UB hA) rfl rfl (by rfl) (fun _ _ _ h => h) ?_); go_simp)
     refine takeC ?_ (UB hA) rfl rfl rfl (by rfl) (fun _ _ _ h => h) (.tail _ (.tail _ (.head _))) (UB HCT) ?_ ?_; rotate_left; (· (intro w hSw; (try dsimp only at hSw); go_simp <;> with_reducible rfl)); go_simp
     repeat ((first | (refine VN ?_ (UB hA) rfl rfl rfl (by rfl) (fun _ _ _ h => h) ?_ ?_; rotate_left; · (intro w; go_simp <;> with_reducible rfl)) | refine VM (UB hA) rfl rfl (by rfl) (fun _ _ _ h => h) ?_); go_simp)
     refine doneC (UB hA) rfl ?_
     clear hA
     go_wp2_with fail
     have bd := UX (w := WE)
     have hb2 := UG hb1 bd
     have hr2 := (UB HR1).below bd
     have KS10 := UC (UE bd (UB KS9))
     have KP10 := UC (UE bd (UB KP9))
     clear bd HR1 HCT
     obtain ⟨p2, pc2, hv, hpB2, hpw2, hct, hft, hset⟩ := hr2.ttl (by decide) (by decide) (by decide) (m := k) (by rw [UB HLE k]; exact hlt)
     obtain rfl : p = p2 := by have := (Value.slice.inj hv).1; cases this; rfl
     rw [UB HE] at hset
     clear hpB2 hpw2
     have HSET := UC (hset (X.till - now))
     clear hset hv hr2
     refine startC [0, 1, 2, 3, 4, 5, 6, 7, 8, 9, 10, 11] (by kernel_rfl) ⟨by kernel_rfl, by kernel_rfl, by kernel_rfl, by kernel_rfl⟩ 8 [(3, fun w' => (fun w' => w'.cell? ⟨s, 5, none⟩ = some (.int .i64 X.till)) w'), (7, fun w' => (fun w' => w'.cell? ⟨bp, 0, none⟩ = some (.int .i64 now)) w')] (fun hA => ?_)
     replace hA := UC hA
     generalize hWF : WE.drew = WF at *
     clear hWF
     repeat ((first | (refine VN ?_ (UB hA) rfl rfl rfl (by rfl) (fun _ _ _ h => h) ?_ ?_; rotate_left; · (intro w; go_simp <;> with_reducible rfl)) | refine VM (UB hA) rfl rfl (by rfl) (fun _ _ _ h => h) ?_); go_simp)
     refine takeC ?_ (UB hA) rfl rfl rfl (by rfl) (fun _ _ _ h => h) (.head _) (UJ (UB KS10)).2.2.2.2.2.1 ?_ ?_; rotate_left; (· (intro w hSw; (try dsimp only at hSw); go_simp <;> with_reducible rfl)); go_simp
     repeat ((first | (refine VN ?_ (UB hA) rfl rfl rfl (by rfl) (fun _ _ _ h => h) ?_ ?_; rotate_left; · (intro w; go_simp <;> with_reducible rfl)) | refine VM (UB hA) rfl rfl (by rfl) (fun _ _ _ h => h) ?_); go_simp)
     refine takeC ?_ (UB hA) rfl rfl rfl (by rfl) (fun _ _ _ h => h) (.tail _ (.head _)) (UL (UB KP10)).1 ?_ ?_; rotate_left; (· (intro w hSw; (try dsimp only at hSw); go_simp <;> with_reducible rfl)); go_simp
     repeat ((first | (refine VN ?_ (UB hA) rfl rfl rfl (by rfl) (fun _ _ _ h => h) ?_ ?_; rotate_left; · (intro w; go_simp <;> with_reducible rfl)) | refine VM (UB hA) rfl rfl (by rfl) (fun _ _ _ h => h) ?_); go_simp)
     refine runC (UB hA) rfl rfl (by kernel_rfl) (by kernel_rfl) (fun K hK => ?_)
     have HK := UC hK
     clear hK
     go_simp
     refine (UB HK).out _ _ (VB (by kernel_rfl) (VB (by kernel_rfl) VL)) ?_
     clear HK K
     go_simp
     refine doneC (UB hA) rfl ?_
     clear hA
     go_wp2_with fail
     have u := UT WF p (k * 7 + 2) (.int .i64 (X.till - now))
     have bb := u.below hb2 hpB
     have hrow := UB HSET
     rw [UB HSK] at hrow
     exact ⟨⟨k + 1, by omega, by go_num, hrow, bb⟩, by simp [intOf]; omega⟩
    ·rw [if_neg hlv] at hra
     rw [hra] at HSK
     replace HSM := UC (UB HSM (by omega))
     have ql : decide (X.till - now < y) = false := decide_eq_false hlv
     replace HE := UC HE
     clear hra HSK hlv hy
     refine startC [0, 1, 2, 3, 4, 5, 6, 7, 8, 9, 10, 11, 12] (by kernel_rfl) ⟨by kernel_rfl, by kernel_rfl, by kernel_rfl, by kernel_rfl⟩ 8 [(1, fun w' => (fun w' => w'.cell? ⟨s, 5, none⟩ = some (.int .i64 X.till)) w'), (5, fun w' => (fun w' => w'.cell? ⟨bp, 0, none⟩ = some (.int .i64 now)) w'), (11, fun w' => (fun w' => w'.cell? ⟨p, k * 7 + 2, none⟩ = some (.int .i64 y)) w')] (fun hA => ?_)
     replace hA := UC hA
     generalize hWD : wr.drew = WE at *
     clear hWD
     repeat ((first | (refine VN ?_ (UB hA) rfl rfl rfl (by rfl) (fun _ _ _ h => h) ?_ ?_; rotate_left; · (intro w; go_simp <;> with_reducible rfl)) | refine VM (UB hA) rfl rfl (by rfl) (fun _ _ _ h => h) ?_); go_simp)
     refine takeC ?_ (UB hA) rfl rfl rfl (by rfl) (fun _ _ _ h => h) (.head _) (UJ (UB KS9)).2.2.2.2.2.1 ?_ ?_; rotate_left; (· (intro w hSw; (try dsimp only at hSw); go_simp <;> with_reducible rfl)); go_simp
     repeat ((first | (refine VN ?_ (UB hA) rfl rfl rfl (by rfl) (fun _ _ _ h => h) ?_ ?_; rotate_left; · (intro w; go_simp <;> with_reducible rfl)) | refine VM (UB hA) rfl rfl (by rfl) (fun _ _ _ h => h) ?_); go_simp)
     refine takeC ?_ (UB hA) rfl rfl rfl (by rfl) (fun _ _ _ h => h) (.tail _ (.head _)) (UL (UB KP9)).1 ?_ ?_; rotate_left; (· (intro w hSw; (try dsimp only at hSw); go_simp <;> with_reducible rfl)); go_simp
     repeat ((first | (refine VN ?_ (UB hA) rfl rfl rfl (by rfl) (fun _ _ _ h => h) ?_ ?_; rotate_left; · (intro w; go_simp <;> with_reducible rfl)) | refine VM (UB hA) rfl rfl (by rfl) (fun _ _ _ h => h) ?_); go_simp)
     refine takeC ?_ (UB hA) rfl rfl rfl (by rfl) (fun _ _ _ h => h) (.tail _ (.tail _ (.head _))) (UB HCT) ?_ ?_; rotate_left; (· (intro w hSw; (try dsimp only at hSw); go_simp <;> with_reducible rfl)); go_simp
     repeat ((first | (refine VN ?_ (UB hA) rfl rfl rfl (by rfl) (fun _ _ _ h => h) ?_ ?_; rotate_left; · (intro w; go_simp <;> with_reducible rfl)) | refine VM (UB hA) rfl rfl (by rfl) (fun _ _ _ h => h) ?_); go_simp)
     refine doneC (UB hA) rfl ?_
     clear hA
     go_wp2_with fail
     exact ⟨⟨k + 1, by omega, by go_num, by rw [UB HSM]; exact UB HR1, hb1⟩, by simp [intOf]; omega⟩
   ·obtain rfl : k = m := by omega
    go_wp2_with fail
    have bd := UX (w := wr)
    have hb1 := UG hb bd
    have HR1 := UC (hr.below bd)
    have KS9 := UC (UE hb1 (UB KS))
    have KP9 := UC (UE hb1 (UB KP8))
    have RX9 := UC (RowX.below (ownsSQ 67 56 5 3) (UB RX8) hb1)
    clear bd hr hb
    refine startC [0, 1, 2, 3, 4] (by kernel_rfl) ⟨by kernel_rfl, by kernel_rfl, by kernel_rfl, by kernel_rfl⟩ 8 [(2, fun w' => (fun w' => w'.cell? ⟨s, 2, none⟩ = some (.int .i64 X.kind)) w')] (fun hA => ?_)
    replace hA := UC hA
    generalize hWD : wr.drew = WE at *
    clear hWD
    repeat ((first | (refine VN ?_ (UB hA) rfl rfl rfl (by rfl) (fun _ _ _ h => h) ?_ ?_; rotate_left; · (intro w; go_simp <;> with_reducible rfl)) | refine VM (UB hA) rfl rfl (by rfl) (fun _ _ _ h => h) ?_); go_simp)
    refine takeC ?_ (UB hA) rfl rfl rfl (by rfl) (fun _ _ _ h => h) (.head _) (UJ (UB KS9)).2.2.1 ?_ ?_; rotate_left; (· (intro w hSw; (try dsimp only at hSw); go_simp <;> with_reducible rfl)); go_simp
    repeat ((first | (refine VN ?_ (UB hA) rfl rfl rfl (by rfl) (fun _ _ _ h => h) ?_ ?_; rotate_left; · (intro w; go_simp <;> with_reducible rfl)) | refine VM (UB hA) rfl rfl (by rfl) (fun _ _ _ h => h) ?_); go_simp)
    refine doneC (UB hA) rfl ?_
    clear hA
    go_wp2_with fail
    go_ret2
    refine ⟨_, _, W1.heap.size, rfl, UB KP9, UB RX9, bb8.size, ?_, UG bb8 hb1⟩
    have := UB HR1
    rw [← UB HM] at this
    rw [UB HMM]
    exact this
 ·have hT : turnN turn = turn := if_neg ht
  have hU : updS turn X = X := if_neg ht
  have hL : l.set i X = l := by rw [← hX, List.getD_eq_getElem?_getD, List.getElem?_eq_getElem hi, Option.getD_some, List.set_getElem_self]
  rw [hT, hU, hL]
  have qt : decide (turn < 1000000) = false := decide_eq_false ht
  replace hX := UC hX
  clear ht hT hU hL
  obtain ⟨na, nc, rfl, _⟩ := hn.form
  obtain ⟨a, cap, rfl, _⟩ := hr.form
  obtain ⟨q, rfl⟩ := RowX.ptr hr (by omega)
  have b1 := UI (w := w) (.cells #[.slice na n.length nc] 46)
  have bb1 := UG hb0 b1
  have KP := UC (UE b1 hk)
  have KN := UC (heap_alloc_new w (.cells #[.slice na n.length nc] 46))
  have RX := UC (RowX.below (ownsSQ 67 56 5 3) hr b1)
  have HN := UC (hn.below b1)
  have HSH := UC (fun k (hk : k < l.length) => Nat.le_trans (hsh k hk).1.1 (show 6 ≤ 1048576 by decide))
  have zp := Nat.lt_of_lt_of_le (VC hk) b1.size
  clear hr hk hn b1
  go_enter Tryz.func56, Tryz.ntmps56
  go_wp2_with fail
  generalize w.alloc (.cells #[.slice na n.length nc] 46) = W at *
  have bd := UX (w := W)
  have bb2 := UG bb1 bd
  have KP2 := UC (UE bd (UB KP))
  have KN2 := UC (UE bd (UB KN))
  have RX2 := UC (RowX.below (ownsSQ 67 56 5 3) (UB RX) bd)
  have HN2 := UC ((UB HN).below bd)
  have zd := bd.size
  clear bd KP KN RX HN
  refine startC [0, 1, 2, 3, 4, 5, 6] (by kernel_rfl) ⟨by kernel_rfl, by kernel_rfl, by kernel_rfl, by kernel_rfl⟩ 8 [(2, fun w' => (fun w' => w'.cell? ⟨bp, 0, none⟩ = some (.int .i64 now) ∧ w'.cell? ⟨bp, 1, none⟩ = some (.int .i64 turn) ∧ w'.cell? ⟨bp, 2, none⟩ = some (.slice (some ⟨q, 0, none⟩) l.length cap)) w'), (3, fun w' => (fun w' => w'.cell? ⟨w.heap.size, 0, none⟩ = some (.slice na n.length nc)) w')] (fun hA => ?_)
  replace hA := UC hA
  generalize hWD : W.drew = WD at *
  clear hWD
  repeat ((first | (refine VN ?_ (UB hA) rfl rfl rfl (by rfl) (fun _ _ _ h => h) ?_ ?_; rotate_left; · (intro w; go_simp <;> with_reducible rfl)) | refine VM (UB hA) rfl rfl (by rfl) (fun _ _ _ h => h) ?_); go_simp)
  refine takeC ?_ (UB hA) rfl rfl rfl (by rfl) (fun _ _ _ h => h) (.head _) (UL (UB KP2)) ?_ ?_; rotate_left; (· (intro w hSw; (try dsimp only at hSw); go_simp <;> with_reducible rfl)); go_simp
  repeat ((first | (refine VN ?_ (UB hA) rfl rfl rfl (by rfl) (fun _ _ _ h => h) ?_ ?_; rotate_left; · (intro w; go_simp <;> with_reducible rfl)) | refine VM (UB hA) rfl rfl (by rfl) (fun _ _ _ h => h) ?_); go_simp)
  refine takeC ?_ (UB hA) rfl rfl rfl (by rfl) (fun _ _ _ h => h) (.tail _ (.head _)) (US (UB KN2)) ?_ ?_; rotate_left; (· (intro w hSw; (try dsimp only at hSw); go_simp <;> with_reducible rfl)); go_simp
  repeat ((first | (refine VN ?_ (UB hA) rfl rfl rfl (by rfl) (fun _ _ _ h => h) ?_ ?_; rotate_left; · (intro w; go_simp <;> with_reducible rfl)) | refine VM (UB hA) rfl rfl (by rfl) (fun _ _ _ h => h) ?_); go_simp)
  refine runC (UB hA) rfl rfl (by kernel_rfl) (by kernel_rfl) (fun K hK => ?_)
  have HK := UC hK
  clear hK
  go_simp
  refine (l10find_at (UB HF) (RowX.has (ownsSQ 67 56 5 3) OwnSQ.has (UB RX2)) (UB HN2) h8 hnl (UB HSH)).mono ?_
  rintro e w5 ⟨rfl, b5⟩
  have KP5 := UC (UE b5 (UB KP2))
  have RX5 := UC (RowX.below (ownsSQ 67 56 5 3) (UB RX2) b5)
  have bb5 := UG bb2 b5
  have z5 := b5.size
  refine (UB HK).out _ _ (VB (by kernel_rfl) (VB (by kernel_rfl) VL)) ?_
  clear HK K
  go_simp
  repeat ((first | (refine VN ?_ (UB hA) rfl rfl rfl (by rfl) (fun _ _ _ h => h) ?_ ?_; rotate_left; · (intro w; go_simp <;> with_reducible rfl)) | refine VM (UB hA) rfl rfl (by rfl) (fun _ _ _ h => h) ?_); go_simp)
  refine doneC (UB hA) rfl ?_
  clear hA
  clear b5 KP2 KN2 RX2 HN2 HSH z5
  have KP7 := UC (UB KP5)
  have RX7 := UC (UB RX5)
  have bb7 := bb5
  clear KP5 RX5 bb5
  obtain ⟨_, _, zq, _, vn1, vr1, hc, hu⟩ := RowX.slot (UB RX7) (m := i) (by first | exact hi | (rw [List.length_set]; exact hi))
  rw [UB hX] at hc hu
  have hnm : HasL w5 vn1 X.name := hu.name
  have hrm : HasRs w5 vr1 X.rrs := hu.rrs
  obtain ⟨na1, nc1, rfl, _⟩ := hnm.form
  obtain ⟨ra1, rc1, rfl, _⟩ := hrm.form
  have HC := UC (show w5.rangeAt q (i * 7) [.slice na1 X.name.length nc1, .int .i64 X.type, .int .i64 X.kind, .slice ra1 X.rrs.length rc1, .int .i64 X.rank, .int .i64 X.till, .int .i64 X.used] from hc)
  have bS := UI (w := w5) (.cells #[.slice na1 X.name.length nc1, .int .i64 X.type, .int .i64 X.kind, .slice ra1 X.rrs.length rc1, .int .i64 X.rank, .int .i64 X.till, .int .i64 X.used] 71)
  have KS := UC (heap_alloc_new w5 (.cells #[.slice na1 X.name.length nc1, .int .i64 X.type, .int .i64 X.kind, .slice ra1 X.rrs.length rc1, .int .i64 X.rank, .int .i64 X.till, .int .i64 X.used] 71))
  have KP8 := UC (UE bS (UB KP7))
  have RX8 := UC (RowX.below (ownsSQ 67 56 5 3) (UB RX7) bS)
  have bb8 := UG bb7 bS
  have LOA := UC (l3ownAll_has (hrm.below bS) (UB HSR) (Nat.le_trans hr12 (show 12 ≤ 1000 by decide)))
  clear hc hu hnm hrm bS RX7
  obtain ⟨d0, d1, d2⟩ := UL (UB KP7)
  obtain ⟨c0, c1, c2, c3, c4, c5, c6⟩ := VH (UB HC)
  obtain ⟨s0, s1, s2, s3, s4, s5, s6⟩ := UJ (UB KS)
  go_wp2_with fail
  clear d0 d1 d2 c0 c1 c2 c3 c4 c5 c6 s0 s1 s2 s3 s4 s5 s6 HC KP7 bb7
  have hSB : w5.heap.size < (w5.alloc (.cells #[.slice na1 X.name.length nc1, .int .i64 X.type, .int .i64 X.kind, .slice ra1 X.rrs.length rc1, .int .i64 X.rank, .int .i64 X.till, .int .i64 X.used] 71)).heap.size := by rw [World.size_alloc]; omega
  generalize hs : w5.heap.size = s at *
  generalize w5.alloc (.cells #[.slice na1 X.name.length nc1, .int .i64 X.type, .int .i64 X.kind, .slice ra1 X.rrs.length rc1, .int .i64 X.rank, .int .i64 X.till, .int .i64 X.used] 71) = W1 at *
  clear hs zq
  refine (UB LOA).mono ?_
  rintro e w9 ⟨x9, rfl, o9, b9⟩
  obtain ⟨xa, xc, rfl, _⟩ := o9.form
  rw [← UB HA0] at o9
  have O9 := UC o9
  rw [UB HLE 0] at O9
  clear o9 LOA
  generalize hM : agedK X.rrs (X.till - now) = M at *
  have HM := UC hM
  generalize hm : X.rrs.length = m at *
  have HMM := UC hm
  clear hm hM
  go_wp2_with fail
  go_loopw [11] (fun i wr => ∃ k : Nat, k ≤ m ∧ i = .int .i64 k ∧ RowQ W1.heap.size 67 56 5 3 wr (.slice xa m xc) (M k) ∧ Below W1.heap.size W1 wr) (fun i _ => m - (intOf i).toNat)
  case atStart => exact ⟨0, Nat.zero_le _, rfl, UB O9, b9⟩
  case round =>
   clear O9 b9
   obtain ⟨k, hk, rfl, hr, hb⟩ := hrel
   by_cases hlt : k < m
   ·have hki : (k : Int) < m := by omega
    go_wp2_with fail
    have bd := UX (w := wr)
    have hb1 := UG hb bd
    have hr1 := hr.below bd
    have HE := UB HHE k hlt
    have HSK := UB HSU k hlt
    have HSM := UC (UB HSA k hlt)
    clear bd hr hb
    obtain ⟨p, pc, hv, hpB, hpw, hct, hft, hset⟩ := hr1.ttl (by decide) (by decide) (by decide) (m := k) (by rw [UB HLE k]; exact hlt)
    obtain rfl : xa = some ⟨p, 0, none⟩ := (Value.slice.inj hv).1
    rw [HE] at hct hset
    have hra : agedR (X.till - now) (X.rrs.getD k recZ) = if X.till - now < (X.rrs.getD k recZ).ttl then ttlR (X.rrs.getD k recZ) (X.till - now) else X.rrs.getD k recZ := rfl
    have HCT := UC hct
    have KS9 := UC (UE hb1 (UB KS))
    have KP9 := UC (UE hb1 (UB KP8))
    have HR1 := UC hr1
    clear hct hv hset hr1 hft
    generalize hy : (X.rrs.getD k recZ).ttl = y at *
    by_cases hlv : X.till - now < y
    ·rw [if_pos hlv] at hra
     rw [hra] at HSK
     replace HSK := UC HSK
     have ql : decide (X.till - now < y) = true := decide_eq_true hlv
     replace HE := UC HE
     clear hra HSM hlv hy
     refine startC [0, 1, 2, 3, 4, 5, 6, 7, 8, 9, 10, 11, 12] (by kernel_rfl) ⟨by kernel_rfl, by kernel_rfl, by kernel_rfl, by kernel_rfl⟩ 8 [(1, fun w' => (fun w' => w'.cell? ⟨s, 5, none⟩ = some (.int .i64 X.till)) w'), (5, fun w' => (fun w' => w'.cell? ⟨bp, 0, none⟩ = some (.int .i64 now)) w'), (11, fun w' => (fun w' => w'.cell? ⟨p, k * 7 + 2, none⟩ = some (.int .i64 y)) w')] (fun hA => ?_)
     replace hA := UC hA
     generalize hWD : wr.drew = WE at *
     clear hWD
     repeat ((first | (refine VN ?_ (UB hA) rfl rfl rfl (by rfl) (fun _ _ _ h => h) ?_ ?_; rotate_left; · (intro w; go_simp <;> with_reducible rfl)) | refine VM (UB hA) rfl rfl (by rfl) (fun _ _ _ h => h) ?_); go_simp)
     refine takeC ?_ (UB hA) rfl rfl rfl (by rfl) (fun _ _ _ h => h) (.head _) (UJ (UB KS9)).2.2.2.2.2.1 ?_ ?_; rotate_left; (· (intro w hSw; (try dsimp only at hSw); go_simp <;> with_reducible rfl)); go_simp
     repeat ((first | (refine VN ?_ (UB hA) rfl rfl rfl (by rfl) (fun _ _ _ h => h) ?_ ?_; rotate_left; · (intro w; go_simp <;> with_reducible rfl)) | refine VM (UB hA) rfl rfl (by rfl) (fun _ _ _ h => h) ?_); go_simp)
     refine takeC ?_ (UB hA) rfl rfl rfl (by rfl) (fun _ _ _ h => h) (.tail _ (.head _)) (UL (UB KP9)).1 ?_ ?_; rotate_left; (· (intro w hSw; (try dsimp only at hSw); go_simp <;> with_reducible rfl)); go_simp
     repeat ((first | (refine VN ?_ (UB hA) rfl rfl rfl (by rfl) (fun _ _ _ h => h) ?_ ?_; rotate_left; · (intro w; go_simp <;> with_reducible rfl)) | refine VM (UB hA) rfl rfl (by rfl) (fun _ _ _ h => h) ?_); go_simp)
     refine takeC ?_ (UB hA) rfl rfl rfl (by rfl) (fun _ _ _ h => h) (.tail _ (.tail _ (.head _))) (UB HCT) ?_ ?_; rotate_left; (· (intro w hSw; (try dsimp only at hSw); go_simp <;> with_reducible rfl)); go_simp
     repeat ((first | (refine VN ?_ (UB hA) rfl rfl rfl (by rfl) (fun _ _ _ h => h) ?_ ?_; rotate_left; · (intro w; go_simp <;> with_reducible rfl)) | refine VM (UB hA) rfl rfl (by rfl) (fun _ _ _ h => h) ?_); go_simp)
     refine doneC (UB hA) rfl ?_
     clear hA
     go_wp2_with fail
     have bd := UX (w := WE)
     have hb2 := UG hb1 bd
     have hr2 := (UB HR1).below bd
     have KS10 := UC (UE bd (UB KS9))
     have KP10 := UC (UE bd (UB KP9))
     clear bd HR1 HCT
     obtain ⟨p2, pc2, hv, hpB2, hpw2, hct, hft, hset⟩ := hr2.ttl (by decide) (by decide) (by decide) (m := k) (by rw [UB HLE k]; exact hlt)
     obtain rfl : p = p2 := by have := (Value.slice.inj hv).1; cases this; rfl
     rw [UB HE] at hset
     clear hpB2 hpw2
     have HSET := UC (hset (X.till - now))
     clear hset hv hr2
     refine startC [0, 1, 2, 3, 4, 5, 6, 7, 8, 9, 10, 11] (by kernel_rfl) ⟨by kernel_rfl, by kernel_rfl, by kernel_rfl, by kernel_rfl⟩ 8 [(3, fun w' => (fun w' => w'.cell? ⟨s, 5, none⟩ = some (.int .i64 X.till)) w'), (7, fun w' => (fun w' => w'.cell? ⟨bp, 0, none⟩ = some (.int .i64 now)) w')] (fun hA => ?_)
     replace hA := UC hA
     generalize hWF : WE.drew = WF at *
     clear hWF
     repeat ((first | (refine VN ?_ (UB hA) rfl rfl rfl (by rfl) (fun _ _ _ h => h) ?_ ?_; rotate_left; · (intro w; go_simp <;> with_reducible rfl)) | refine VM (UB hA) rfl rfl (by rfl) (fun _ _ _ h => h) ?_); go_simp)
     refine takeC ?_ (UB hA) rfl rfl rfl (by rfl) (fun _ _ _ h => h) (.head _) (UJ (UB KS10)).2.2.2.2.2.1 ?_ ?_; rotate_left; (· (intro w hSw; (try dsimp only at hSw); go_simp <;> with_reducible rfl)); go_simp
     repeat ((first | (refine VN ?_ (UB hA) rfl rfl rfl (by rfl) (fun _ _ _ h => h) ?_ ?_; rotate_left; · (intro w; go_simp <;> with_reducible rfl)) | refine VM (UB hA) rfl rfl (by rfl) (fun _ _ _ h => h) ?_); go_simp)
     refine takeC ?_ (UB hA) rfl rfl rfl (by rfl) (fun _ _ _ h => h) (.tail _ (.head _)) (UL (UB KP10)).1 ?_ ?_; rotate_left; (· (intro w hSw; (try dsimp only at hSw); go_simp <;> with_reducible rfl)); go_simp
     repeat ((first | (refine VN ?_ (UB hA) rfl rfl rfl (by rfl) (fun _ _ _ h => h) ?_ ?_; rotate_left; · (intro w; go_simp <;> with_reducible rfl)) | refine VM (UB hA) rfl rfl (by rfl) (fun _ _ _ h => h) ?_); go_simp)
     refine runC (UB hA) rfl rfl (by kernel_rfl) (by kernel_rfl) (fun K hK => ?_)
     have HK := UC hK
     clear hK
     go_simp
     refine (UB HK).out _ _ (VB (by kernel_rfl) (VB (by kernel_rfl) VL)) ?_
     clear HK K
     go_simp
     refine doneC (UB hA) rfl ?_
     clear hA
     go_wp2_with fail
     have u := UT WF p (k * 7 + 2) (.int .i64 (X.till - now))
     have bb := u.below hb2 hpB
     have hrow := UB HSET
     rw [UB HSK] at hrow
     exact ⟨⟨k + 1, by omega, by go_num, hrow, bb⟩, by simp [intOf]; omega⟩
    ·rw [if_neg hlv] at hra
     rw [hra] at HSK
     replace HSM := UC (UB HSM (by omega))
     have ql : decide (X.till - now < y) = false := decide_eq_false hlv
     replace HE := UC HE
     clear hra HSK hlv hy
     refine startC [0, 1, 2, 3, 4, 5, 6, 7, 8, 9, 10, 11, 12] (by kernel_rfl) ⟨by kernel_rfl, by kernel_rfl, by kernel_rfl, by kernel_rfl⟩ 8 [(1, fun w' => (fun w' => w'.cell? ⟨s, 5, none⟩ = some (.int .i64 X.till)) w'), (5, fun w' => (fun w' => w'.cell? ⟨bp, 0, none⟩ = some (.int .i64 now)) w'), (11, fun w' => (fun w' => w'.cell? ⟨p, k * 7 + 2, none⟩ = some (.int .i64 y)) w')] (fun hA => ?_)
     replace hA := UC hA
     generalize hWD : wr.drew = WE at *
     clear hWD
     repeat ((first | (refine VN ?_ (UB hA) rfl rfl rfl (by rfl) (fun _ _ _ h => h) ?_ ?_; rotate_left; · (intro w; go_simp <;> with_reducible rfl)) | refine VM (UB hA) rfl rfl (by rfl) (fun _ _ _ h => h) ?_); go_simp)
     refine takeC ?_ (UB hA) rfl rfl rfl (by rfl) (fun _ _ _ h => h) (.head _) (UJ (UB KS9)).2.2.2.2.2.1 ?_ ?_; rotate_left; (· (intro w hSw; (try dsimp only at hSw); go_simp <;> with_reducible rfl)); go_simp
     repeat ((first | (refine VN ?_ (UB hA) rfl rfl rfl (by rfl) (fun _ _ _ h => h) ?_ ?_; rotate_left; · (intro w; go_simp <;> with_reducible rfl)) | refine VM (UB hA) rfl rfl (by rfl) (fun _ _ _ h => h) ?_); go_simp)
     refine takeC ?_ (UB hA) rfl rfl rfl (by rfl) (fun _ _ _ h => h) (.tail _ (.head _)) (UL (UB KP9)).1 ?_ ?_; rotate_left; (· (intro w hSw; (try dsimp only at hSw); go_simp <;> with_reducible rfl)); go_simp
     repeat ((first | (refine VN ?_ (UB hA) rfl rfl rfl (by rfl) (fun _ _ _ h => h) ?_ ?_; rotate_left; · (intro w; go_simp <;> with_reducible rfl)) | refine VM (UB hA) rfl rfl (by rfl) (fun _ _ _ h => h) ?_); go_simp)
     refine takeC ?_ (UB hA) rfl rfl rfl (by rfl) (fun _ _ _ h => h) (.tail _ (.tail _ (.head _))) (UB HCT) ?_ ?_; rotate_left; (· (intro w hSw; (try dsimp only at hSw); go_simp <;> with_reducible rfl)); go_simp
     repeat ((first | (refine VN ?_ (UB hA) rfl rfl rfl (by rfl) (fun _ _ _ h => h) ?_ ?_; rotate_left; · (intro w; go_simp <;> with_reducible rfl)) | refine VM (UB hA) rfl rfl (by rfl) (fun _ _ _ h => h) ?_); go_simp)
     refine doneC (UB hA) rfl ?_
     clear hA
     go_wp2_with fail
     exact ⟨⟨k + 1, by omega, by go_num, by rw [UB HSM]; exact UB HR1, hb1⟩, by simp [intOf]; omega⟩
   ·obtain rfl : k = m := by omega
    go_wp2_with fail
    have bd := UX (w := wr)
    have hb1 := UG hb bd
    have HR1 := UC (hr.below bd)
    have KS9 := UC (UE hb1 (UB KS))
    have KP9 := UC (UE hb1 (UB KP8))
    have RX9 := UC (RowX.below (ownsSQ 67 56 5 3) (UB RX8) hb1)
    clear bd hr hb
    refine startC [0, 1, 2, 3, 4] (by kernel_rfl) ⟨by kernel_rfl, by kernel_rfl, by kernel_rfl, by kernel_rfl⟩ 8 [(2, fun w' => (fun w' => w'.cell? ⟨s, 2, none⟩ = some (.int .i64 X.kind)) w')] (fun hA => ?_)
    replace hA := UC hA
    generalize hWD : wr.drew = WE at *
    clear hWD
    repeat ((first | (refine VN ?_ (UB hA) rfl rfl rfl (by rfl) (fun _ _ _ h => h) ?_ ?_; rotate_left; · (intro w; go_simp <;> with_reducible rfl)) | refine VM (UB hA) rfl rfl (by rfl) (fun _ _ _ h => h) ?_); go_simp)
    refine takeC ?_ (UB hA) rfl rfl rfl (by rfl) (fun _ _ _ h => h) (.head _) (UJ (UB KS9)).2.2.1 ?_ ?_; rotate_left; (· (intro w hSw; (try dsimp only at hSw); go_simp <;> with_reducible rfl)); go_simp
    repeat ((first | (refine VN ?_ (UB hA) rfl rfl rfl (by rfl) (fun _ _ _ h => h) ?_ ?_; rotate_left; · (intro w; go_simp <;> with_reducible rfl)) | refine VM (UB hA) rfl rfl (by rfl) (fun _ _ _ h => h) ?_); go_simp)
    refine doneC (UB hA) rfl ?_
    clear hA
    go_wp2_with fail
    go_ret2
    refine ⟨_, _, W1.heap.size, rfl, UB KP9, UB RX9, bb8.size, ?_, UG bb8 hb1⟩
    have := UB HR1
    rw [← UB HM] at this
    rw [UB HMM]
    exact this
end Go.Proofs.YtaehfeobfkaicaaGreat
