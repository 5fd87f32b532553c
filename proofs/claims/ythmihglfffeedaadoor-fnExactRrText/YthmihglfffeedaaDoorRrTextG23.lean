/-
  The specification's l2text: a text that may be appended to. Contract of the specification's l3type. Contract of the specification's l3hex.
-/
import Derived.Test.YthmihglfffeedaaDoorRrTextG22
import Derived.Test.YthmihglfffeedaaDoorRrTextG07
import Derived.Test.YthmihglfffeedaaDoorRrTextG20
import Derived.Test.YthmihglfffeedaaDoorRrTextG16
namespace Go.Proofs.YthmihglfffeedaaDoor
open Go.RowKit
set_option linter.unusedVariables false

theorem app_const (w : World) (B : Nat) (e : TypeId) (l : List Int) (fz : Nat × Nat) (hm : l.length ≤ maxLen) (hB : B ≤ w.heap.size) :
  App B e (w.alloc (.cells (l.map (Value.int .u8)).toArray e fz)) (.slice (some ⟨w.heap.size, 0, none⟩) l.length l.length) l := by
 refine .inr ⟨_, rfl, hB, by show w.heap.size < (w.heap.push _).size; simp, fun j hj => ?_⟩
 rcases has_const w e l fz hm with ⟨h, _⟩ | ⟨g, off, cap, h, _, _, _, hc⟩
 ·cases h
 ·simp only [Value.slice.injEq, Option.some.injEq, Addr.mk.injEq] at h
  obtain ⟨⟨rfl, rfl, _⟩, _⟩ := h
  rw [Addr.add_lit]
  exact hc j hj

set_option maxHeartbeats 1000000 in
set_option maxRecDepth 100000 in
theorem l2text_rootA {a : Option Addr} {cap : Nat} {w : World} :
  Calls Tryd.prog 35 #[.agg #[.slice a 0 cap]] w fun e w' => ∃ v', e = .returned v' ∧ App w.heap.size 5 w' v' [46] ∧ Below w.heap.size w w' := by
 have hcid := fun (w : World) (C : Array Value) (n c : Nat) => Lib.run_convert_bytes_const (P := Tryd.prog) w 25 5 C n c Tryd.underlying25 Tryd.underlying5
 have b0 := UI (w := w) (.cells #[.slice a 0 cap] 31)
 have hz : (w.alloc (.cells #[.slice a 0 cap] 31)).heap.size = w.heap.size + 1 := by show (w.heap.push _).size = _; simp
 have hcid2 := fun (C : Array Value) (n c : Nat) => hcid (w.alloc (.cells #[.slice a 0 cap] 31)) C n c
 have hh := app_const (w.alloc (.cells #[.slice a 0 cap] 31)) w.heap.size 5 [46] (1, 2) (by simp [maxLen]) b0.size
 rw [hz] at hcid2 hh
 have HH := UC hh
 clear hcid hz hh
 go_enter Tryd.func35, Tryd.ntmps35
 go_wp2
 go_ret
 exact ⟨_, rfl, UB HH, b0.alloc b0.size _⟩

theorem l2text_app {v : Value} {n : List (List Int)} {w : World} (h : HasL w v n) (hok : nameOk n = true) :
  Calls Tryd.prog 35 #[.agg #[v]] w fun e w' => ∃ v', e = .returned v' ∧ App w.heap.size 5 w' v' (nameText n) ∧ Below w.heap.size w w' := by
 obtain ⟨a, cap, rfl, hl, hm⟩ := h.form
 by_cases hn0 : n.length = 0
 ·rw [nameText_root hok hn0, hn0]
  exact l2text_rootA
 ·rw [nameText_some hok hn0]
  exact (l2text_some h hok hn0).mono fun e w' ⟨v', he, ho, hb⟩ => ⟨v', he, .inl ho, hb⟩
set_option maxHeartbeats 400000
set_option maxRecDepth 100000

theorem l3type_1 {w : World} : Calls Tryd.prog 37 #[.int .i64 1] w fun e w' => e = .returned (.string (strOfNums [65])) ∧ w = w' := by
 go_enter Tryd.func37, Tryd.ntmps37
 go_wp2
 go_ret
 exact ⟨rfl, rfl⟩
theorem l3type_2 {w : World} : Calls Tryd.prog 37 #[.int .i64 2] w fun e w' => e = .returned (.string (strOfNums [78, 83])) ∧ w = w' := by
 go_enter Tryd.func37, Tryd.ntmps37
 go_wp2
 go_ret
 exact ⟨rfl, rfl⟩
theorem l3type_5 {w : World} : Calls Tryd.prog 37 #[.int .i64 5] w fun e w' => e = .returned (.string (strOfNums [67, 78, 65, 77, 69])) ∧ w = w' := by
 go_enter Tryd.func37, Tryd.ntmps37
 go_wp2
 go_ret
 exact ⟨rfl, rfl⟩
theorem l3type_6 {w : World} : Calls Tryd.prog 37 #[.int .i64 6] w fun e w' => e = .returned (.string (strOfNums [83, 79, 65])) ∧ w = w' := by
 go_enter Tryd.func37, Tryd.ntmps37
 go_wp2
 go_ret
 exact ⟨rfl, rfl⟩
theorem l3type_12 {w : World} : Calls Tryd.prog 37 #[.int .i64 12] w fun e w' => e = .returned (.string (strOfNums [80, 84, 82])) ∧ w = w' := by
 go_enter Tryd.func37, Tryd.ntmps37
 go_wp2
 go_ret
 exact ⟨rfl, rfl⟩
theorem l3type_16 {w : World} : Calls Tryd.prog 37 #[.int .i64 16] w fun e w' => e = .returned (.string (strOfNums [84, 88, 84])) ∧ w = w' := by
 go_enter Tryd.func37, Tryd.ntmps37
 go_wp2
 go_ret
 exact ⟨rfl, rfl⟩
theorem l3type_49 {w : World} : Calls Tryd.prog 37 #[.int .i64 49] w fun e w' => e = .returned (.string (strOfNums [68, 72, 67, 73, 68])) ∧ w = w' := by
 go_enter Tryd.func37, Tryd.ntmps37
 go_wp2
 go_ret
 exact ⟨rfl, rfl⟩
theorem l3type_is {t : Int} {w : World} (h : typeOk t = true) : Calls Tryd.prog 37 #[.int .i64 t] w fun e w' => e = .returned (.string (strOfNums (typeT t))) ∧ w = w' := by
 have ht : t = 1 ∨ t = 2 ∨ t = 5 ∨ t = 6 ∨ t = 12 ∨ t = 16 ∨ t = 49 := of_decide_eq_true h
 rcases ht with rfl | rfl | rfl | rfl | rfl | rfl | rfl
 ·exact l3type_1
 ·exact l3type_2
 ·exact l3type_5
 ·exact l3type_6
 ·exact l3type_12
 ·exact l3type_16
 ·exact l3type_49
set_option maxHeartbeats 1000000 in
set_option maxRecDepth 100000 in
theorem l3hex_has {a : Option Addr} {cap : Nat} {l : List Int} {w : World} (h : Has w (.slice a l.length cap) l) (hl : l.length ≤ 40) (h8 : Byt l) : Calls Tryd.prog 40 #[.slice a l.length cap] w fun e w' => ∃ v', e = .returned v' ∧ Own w.heap.size 5 w' v' (hexs l l.length) ∧ Below w.heap.size w w' := by
 have L0 := UC h
 have HB := UC (fun k (hk : k < l.length) => h8.at_ hk)
 have HL := UC (hexs_length l)
 have HZ := UC (hexs_zero l)
 have HS := UC (hexs_succ l)
 clear h h8
 generalize hexs l = G at *
 generalize hn : l.length = n at *
 have HN := UC hn
 clear hn
 go_enter Tryd.func40, Tryd.ntmps40
 go_wp2_with fail
 go_loopw [3, 4] (fun o i wr => ∃ k : Nat, k ≤ n ∧ i = .int .i64 k ∧ Own w.heap.size 5 wr o (G k) ∧ Below w.heap.size w wr) (fun _ i _ => n - (intOf i).toNat)
 case atStart => exact ⟨0, by omega, rfl, by rw [UB HZ]; exact World.ownsRow_nil _ _ _ _, Below.refl _ _⟩
 case round =>
  obtain ⟨k, hk, rfl, ho, hb⟩ := hrel
  by_cases hlt : k < n
  ·obtain ⟨g, off, cp, hv, hg, hc⟩ := hex_at ((UB L0).below hb) (UB HN) hlt
   simp only [Value.slice.injEq] at hv
   obtain ⟨rfl, _, rfl⟩ := hv
   have h8 := UB HB k hlt
   have hs := UC (UB HS k hlt)
   have hlk := UB HL k
   have zb := hb.size
   generalize l.getD k 0 = c at *
   have hand := and_15 h8.1 h8.2
   have HCC := UC (show wr.drew.cell? ⟨g, off + k, none⟩ = some (.int .u8 c) from hc)
   go_wp2_with fail
   refine startC [0, 1, 2, 3, 4, 5, 6, 7, 8, 9, 10, 11, 12, 13, 14, 15] (by kernel_rfl) ⟨by kernel_rfl, by kernel_rfl, by kernel_rfl, by kernel_rfl⟩ 4 [(4, fun w' => w'.cell? ⟨g, off + k, none⟩ = some (.int .u8 c)), (10, fun w' => w'.cell? ⟨g, off + k, none⟩ = some (.int .u8 c))] (fun hA => ?_)
   replace hA := UC hA
   repeat ((first | (refine VN ?_ (UB hA) rfl rfl rfl (by rfl) (fun _ _ _ h => h) ?_ ?_; rotate_left; · (intro w; go_simp <;> with_reducible rfl)) | refine VM (UB hA) rfl rfl (by rfl) (fun _ _ _ h => h) ?_); go_simp)
   refine takeC ?_ (UB hA) rfl rfl rfl (by rfl) (fun _ _ _ h => h) (.head _) (UB HCC) ?_ ?_; rotate_left; (· (intro w hSw; (try dsimp only at hSw); go_simp <;> with_reducible rfl)); go_simp
   repeat ((first | (refine VN ?_ (UB hA) rfl rfl rfl (by rfl) (fun _ _ _ h => h) ?_ ?_; rotate_left; · (intro w; go_simp <;> with_reducible rfl)) | refine VM (UB hA) rfl rfl (by rfl) (fun _ _ _ h => h) ?_); go_simp)
   refine VN (Value.int .u8 (hexD (c / 16))) (UB hA) rfl rfl rfl (by rfl) (fun _ _ _ h => h) (hex_index (c / 16) (by omega) (by omega) _ _ _ rfl (by first | rfl | (rw [← hand]; rfl)) rfl) ?_; go_simp
   repeat ((first | (refine VN ?_ (UB hA) rfl rfl rfl (by rfl) (fun _ _ _ h => h) ?_ ?_; rotate_left; · (intro w; go_simp <;> with_reducible rfl)) | refine VM (UB hA) rfl rfl (by rfl) (fun _ _ _ h => h) ?_); go_simp)
   refine takeC ?_ (UB hA) rfl rfl rfl (by rfl) (fun _ _ _ h => h) (.tail _ (.head _)) (UB HCC) ?_ ?_; rotate_left; (· (intro w hSw; (try dsimp only at hSw); go_simp <;> with_reducible rfl)); go_simp
   repeat ((first | (refine VN ?_ (UB hA) rfl rfl rfl (by rfl) (fun _ _ _ h => h) ?_ ?_; rotate_left; · (intro w; go_simp <;> with_reducible rfl)) | refine VM (UB hA) rfl rfl (by rfl) (fun _ _ _ h => h) ?_); go_simp)
   refine VN (Value.int .u8 (hexD (c % 16))) (UB hA) rfl rfl rfl (by rfl) (fun _ _ _ h => h) (hex_index (c % 16) (by omega) (by omega) _ _ _ rfl (by first | rfl | (rw [← hand]; rfl)) rfl) ?_; go_simp
   repeat ((first | (refine VN ?_ (UB hA) rfl rfl rfl (by rfl) (fun _ _ _ h => h) ?_ ?_; rotate_left; · (intro w; go_simp <;> with_reducible rfl)) | refine VM (UB hA) rfl rfl (by rfl) (fun _ _ _ h => h) ?_); go_simp)
   refine runC (UB hA) rfl rfl (by kernel_rfl) (by kernel_rfl) (fun K hK => ?_)
   have HK := UC hK
   clear hK
   go_simp
   refine (UB HK).out _ _ (VB (by kernel_rfl) (VB (by kernel_rfl) VL)) ?_
   clear HK K
   go_simp
   have O1 := UC ((ho.alloc (.cells #[.int .u8 (hexD (c / 16)), .int .u8 (hexD (c % 16))] 5)).below (UX (w := wr.alloc (.cells #[.int .u8 (hexD (c / 16)), .int .u8 (hexD (c % 16))] 5))))
   have R1 := UC ((own_lit wr 0 5 [hexD (c / 16), hexD (c % 16)] (Nat.zero_le _) (by simp [maxLen])).below (UX (w := wr.alloc (.cells #[.int .u8 (hexD (c / 16)), .int .u8 (hexD (c % 16))] 5)))).reads
   have b1 : Below w.heap.size w (wr.alloc (.cells #[.int .u8 (hexD (c / 16)), .int .u8 (hexD (c % 16))] 5)).drew := UG (hb.alloc zb _) UX
   have z1 := b1.size
   clear ho hb
   simp only [List.length_cons, List.length_nil, Nat.zero_add, Nat.reduceAdd] at R1
   generalize (wr.alloc (.cells #[.int .u8 (hexD (c / 16)), .int .u8 (hexD (c % 16))] 5)).drew = w1 at *
   refine runC (UB hA) rfl rfl (by kernel_rfl) (by kernel_rfl) (fun K hK => ?_)
   have HK := UC hK
   clear hK
   refine append_wp (.tmp 11) (.tmp 24) 25 5 rfl Tryd.underlying25 VJ w.heap.size u3 _ (G k) [hexD (c / 16), hexD (c % 16)] rfl rfl (UB O1) (UB R1) (by simp; omega) (by omega) ?_
   intro v2 w2 o2 g2
   have b2 : Below w.heap.size w w2 := b1.grown g2 (by omega) (fun q hq => by have := ((UB O1).lt q hq).1; omega)
   refine (UB HK).out _ _ (VB (by kernel_rfl) (VB (by kernel_rfl) VL)) ?_
   clear HK K
   go_simp
   repeat ((first | (refine VN ?_ (UB hA) rfl rfl rfl (by rfl) (fun _ _ _ h => h) ?_ ?_; rotate_left; · (intro w; go_simp <;> with_reducible rfl)) | refine VM (UB hA) rfl rfl (by rfl) (fun _ _ _ h => h) ?_); go_simp)
   refine doneC (UB hA) rfl ?_
   clear hA
   go_wp2_with fail
   exact ⟨⟨k + 1, by omega, by go_num, (by rw [UB hs]; exact o2), b2⟩, by simp [intOf]; omega⟩
  ·obtain rfl : k = n := by omega
   go_wp2_with fail
   go_ret
   exact ⟨_, rfl, ho, hb⟩
end Go.Proofs.YthmihglfffeedaaDoor
