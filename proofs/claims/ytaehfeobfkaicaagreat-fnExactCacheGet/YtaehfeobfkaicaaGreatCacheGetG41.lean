/-
  Contract of the specification's l10find. Plain facts: in an own row of slots one is told when it was used. No program is named here.
-/
import Derived.Test.YtaehfeobfkaicaaGreatCacheGetG14
import Derived.Test.YtaehfeobfkaicaaGreatCacheGetG35
import Derived.Test.YtaehfeobfkaicaaGreatCacheGetG26
import Derived.Test.YtaehfeobfkaicaaGreatCacheGetG27
import Derived.Test.YtaehfeobfkaicaaGreatCacheGetG38
import Derived.Test.YtaehfeobfkaicaaGreatCacheGetG05
namespace Go.Proofs.YtaehfeobfkaicaaGreat
open Go.RowKit
set_option linter.unusedVariables false

def findZ (n : List (List Int)) (t : Int) (l : List Slt) : Int := match findS n t l with | some i => (i : Int) | none => -1

theorem findZ_some {n : List (List Int)} {t : Int} {l : List Slt} {k : Nat} (h : findS n t l = some k) : findZ n t l = k := by
 rw [findZ, h]

theorem findZ_none {n : List (List Int)} {t : Int} {l : List Slt} (h : findS n t l = none) : findZ n t l = -1 := by
 rw [findZ, h]

set_option maxHeartbeats 4000000 in
set_option maxRecDepth 100000 in
theorem l10find_has {v vn : Value} {l : List Slt} {n : List (List Int)} {turn0 turn t : Int} {w : World} (h : HasSs w v l) (hn : HasL w vn n) (h8 : l.length ≤ 8) (hnl : n.length ≤ 1048576) (hsn : ∀ k, k < l.length → (l.getD k VK).name.length ≤ 1048576) :
  Calls Tryz.prog 90 #[.agg #[.int .i64 turn0, .int .i64 turn, v], .agg #[vn], .int .i64 t] w fun e w' => e = .returned (.int .i64 (findZ n t l)) ∧ Below w.heap.size w w' := by
 obtain ⟨a, ca, rfl, _⟩ := h.form
 obtain ⟨na, nc, rfl, _⟩ := hn.form
 have b1 := UI (w := w) (.cells #[.int .i64 turn0, .int .i64 turn, .slice a l.length ca] 30)
 have b2 := b1.alloc b1.size (.cells #[.slice na n.length nc] 46)
 have KC := UC (UE (UI (w := w.alloc (.cells #[.int .i64 turn0, .int .i64 turn, .slice a l.length ca] 30)) (.cells #[.slice na n.length nc] 46)) (heap_alloc_new w (.cells #[.int .i64 turn0, .int .i64 turn, .slice a l.length ca] 30)))
 have KN := heap_alloc_new (w.alloc (.cells #[.int .i64 turn0, .int .i64 turn, .slice a l.length ca] 30)) (.cells #[.slice na n.length nc] 46)
 simp only [World.size_alloc] at KN
 replace KN := UC KN
 have zz : ((w.alloc (.cells #[.int .i64 turn0, .int .i64 turn, .slice a l.length ca] 30)).alloc (.cells #[.slice na n.length nc] 46)).heap.size = w.heap.size + 2 := by simp only [World.size_alloc]
 have H := UC h
 have HN := UC hn
 have HSN := UC hsn
 clear h hn hsn b1
 go_enter Tryz.func90, Tryz.ntmps90
 go_wp2_with fail
 generalize ((w.alloc (.cells #[.int .i64 turn0, .int .i64 turn, .slice a l.length ca] 30)).alloc (.cells #[.slice na n.length nc] 46)) = W at *
 go_loopw [7] (fun i wr => ∃ k : Nat, k ≤ l.length ∧ i = .int .i64 k ∧ Below W.heap.size W wr ∧ ∀ j, j < k → isS n t (l.getD j VK) = false) (fun i _ => l.length - (intOf i).toNat)
 case atStart => exact ⟨0, Nat.zero_le _, rfl, Below.refl _ _, fun j hj => absurd hj (Nat.not_lt_zero _)⟩
 case round =>
  obtain ⟨k, hk, rfl, hb, hno⟩ := hrel
  have kc := UE hb (UB KC)
  have kn := UE hb (UB KN)
  have bb := UG b2 hb
  obtain ⟨d0, d1, d2⟩ := UL kc
  by_cases hlt : k < l.length
  ·have hki : (k : Int) < l.length := by omega
   obtain ⟨b, off, vs, rfl, hbl, hc, vn, vr, rfl, hu⟩ := (UB H).here (k := k) hlt
   obtain ⟨ma, mc, rfl, _⟩ := hu.name.form
   obtain ⟨ra, rc, rfl, _⟩ := hu.rrs.form
   have hw1 : IntKind.i64.wrap ((k : Int) + 1) = (k : Int) + 1 := wrap_intT _ (by omega) (by omega)
   have HC := UC (UW hc hbl bb)
   have hbd : b < wr.heap.size := Nat.lt_of_lt_of_le hbl bb.size
   have LC := fun (w' : World) (hb' : Below w.heap.size w w') => l2cmp_has (hu.name.below hb') ((UB HN).below hb') (UB HSN k hlt) hnl
   have HIS := UC (show isS n t (l.getD k VK) = (decide (cmpN (l.getD k VK).name n = 0) && decide ((l.getD k VK).type = t)) from rfl)
   have HNO := UC hno
   have KC1 := UC kc
   have KN1 := UC kn
   clear hc hu kc kn hno
   go_wp2_with fail
   clear d0 d1 d2
   have bd := UX (w := wr)
   have bb1 := UG bb bd
   have hb1 := UG hb bd
   replace HC := UC (UW (UB HC) hbd bd)
   replace KC1 := UC (UE bd (UB KC1))
   replace KN1 := UC (UE bd (UB KN1))
   have zd := bd.size
   clear bd
   generalize hrk : l.getD k VK = rk at *
   have HRK := UC hrk
   clear hrk
   replace LC := UC LC
   generalize hN : cmpN rk.name n = N at *
   clear hN
   by_cases hn0 : N = 0
   ·subst hn0
    by_cases ht0 : rk.type = t
    ·have qt : (rk.type == t) = true := by rw [ht0]; simp
     have HZ := UC (findZ_some (findS_is hlt (by rw [UB HRK, UB HIS, decide_eq_true ht0]; rfl) (UB HNO)))
     clear ht0
     refine startC [0, 1, 2, 3, 4, 5, 6, 7, 8, 9, 10, 11, 12, 13, 14, 15, 16, 17, 18] (by kernel_rfl) ⟨by kernel_rfl, by kernel_rfl, by kernel_rfl, by kernel_rfl⟩ 8 [(1, fun w' => (fun w' => w'.cell? ⟨w.heap.size, 2, none⟩ = some (.slice (some ⟨b, off, none⟩) l.length ca)) w'), (5, fun w' => (fun w' => w'.cell? ⟨b, off + k * 7, none⟩ = some (.slice ma rk.name.length mc)) w'), (6, fun w' => (fun w' => w'.cell? ⟨w.heap.size + 1, 0, none⟩ = some (.slice na n.length nc)) w'), (11, fun w' => (fun w' => w'.cell? ⟨w.heap.size, 2, none⟩ = some (.slice (some ⟨b, off, none⟩) l.length ca)) w'), (15, fun w' => (fun w' => w'.cell? ⟨b, off + k * 7 + 1, none⟩ = some (.int .i64 rk.type)) w')] (fun hA => ?_)
     replace hA := UC hA
     generalize hWD : wr.drew = WD at *
     clear hWD
     repeat ((first | (refine VN ?_ (UB hA) rfl rfl rfl (by rfl) (fun _ _ _ h => h) ?_ ?_; rotate_left; · (intro w; go_simp <;> with_reducible rfl)) | refine VM (UB hA) rfl rfl (by rfl) (fun _ _ _ h => h) ?_); go_simp)
     refine takeC ?_ (UB hA) rfl rfl rfl (by rfl) (fun _ _ _ h => h) (.head _) (UL (UB KC1)).2.2 ?_ ?_; rotate_left; (· (intro w hSw; (try dsimp only at hSw); go_simp <;> with_reducible rfl)); go_simp
     repeat ((first | (refine VN ?_ (UB hA) rfl rfl rfl (by rfl) (fun _ _ _ h => h) ?_ ?_; rotate_left; · (intro w; go_simp <;> with_reducible rfl)) | refine VM (UB hA) rfl rfl (by rfl) (fun _ _ _ h => h) ?_); go_simp)
     refine takeC ?_ (UB hA) rfl rfl rfl (by rfl) (fun _ _ _ h => h) (.tail _ (.head _)) (VH (UB HC)).1 ?_ ?_; rotate_left; (· (intro w hSw; (try dsimp only at hSw); go_simp <;> with_reducible rfl)); go_simp
     repeat ((first | (refine VN ?_ (UB hA) rfl rfl rfl (by rfl) (fun _ _ _ h => h) ?_ ?_; rotate_left; · (intro w; go_simp <;> with_reducible rfl)) | refine VM (UB hA) rfl rfl (by rfl) (fun _ _ _ h => h) ?_); go_simp)
     refine takeC ?_ (UB hA) rfl rfl rfl (by rfl) (fun _ _ _ h => h) (.tail _ (.tail _ (.head _))) (US (UB KN1)) ?_ ?_; rotate_left; (· (intro w hSw; (try dsimp only at hSw); go_simp <;> with_reducible rfl)); go_simp
     refine runC (UB hA) rfl rfl (by kernel_rfl) (by kernel_rfl) (fun K hK => ?_)
     have HK := UC hK
     clear hK
     go_simp
     refine (UB LC _ bb1).mono ?_
     rintro e w5 ⟨rfl, b5⟩
     have KC5 := UC (UE b5 (UB KC1))
     have HC5 := UC (UW (UB HC) (by omega) b5)
     have hb5 := UG hb1 b5
     have bb5 := UG bb1 b5
     refine (UB HK).out _ _ (VB (by kernel_rfl) (VB (by kernel_rfl) (VB (by kernel_rfl) (keepC_yes (UL (UB KC5)).2.2 (keepC_yes (VH (UB HC5)).2.1 VL))))) ?_
     clear HK K
     go_simp
     repeat ((first | (refine VN ?_ (UB hA) rfl rfl rfl (by rfl) (fun _ _ _ h => h) ?_ ?_; rotate_left; · (intro w; go_simp <;> with_reducible rfl)) | refine VM (UB hA) rfl rfl (by rfl) (fun _ _ _ h => h) ?_); go_simp)
     refine takeC ?_ (UB hA) rfl rfl rfl (by rfl) (fun _ _ _ h => h) (.tail _ (.tail _ (.tail _ (.head _)))) (UL (UB KC5)).2.2 ?_ ?_; rotate_left; (· (intro w hSw; (try dsimp only at hSw); go_simp <;> with_reducible rfl)); go_simp
     repeat ((first | (refine VN ?_ (UB hA) rfl rfl rfl (by rfl) (fun _ _ _ h => h) ?_ ?_; rotate_left; · (intro w; go_simp <;> with_reducible rfl)) | refine VM (UB hA) rfl rfl (by rfl) (fun _ _ _ h => h) ?_); go_simp)
     refine takeC ?_ (UB hA) rfl rfl rfl (by rfl) (fun _ _ _ h => h) (.tail _ (.tail _ (.tail _ (.tail _ (.head _))))) (VH (UB HC5)).2.1 ?_ ?_; rotate_left; (· (intro w hSw; (try dsimp only at hSw); go_simp <;> with_reducible rfl)); go_simp
     repeat ((first | (refine VN ?_ (UB hA) rfl rfl rfl (by rfl) (fun _ _ _ h => h) ?_ ?_; rotate_left; · (intro w; go_simp <;> with_reducible rfl)) | refine VM (UB hA) rfl rfl (by rfl) (fun _ _ _ h => h) ?_); go_simp)
     refine doneC (UB hA) rfl ?_
     clear hA
     go_wp2_with fail
     go_ret
     exact ⟨by rw [UB HZ]; rfl, bb5⟩
    ·have qt : (rk.type == t) = false := by simpa using ht0
     have HF := UC ht0
     clear ht0
     refine startC [0, 1, 2, 3, 4, 5, 6, 7, 8, 9, 10, 11, 12, 13, 14, 15, 16, 17, 18] (by kernel_rfl) ⟨by kernel_rfl, by kernel_rfl, by kernel_rfl, by kernel_rfl⟩ 8 [(1, fun w' => (fun w' => w'.cell? ⟨w.heap.size, 2, none⟩ = some (.slice (some ⟨b, off, none⟩) l.length ca)) w'), (5, fun w' => (fun w' => w'.cell? ⟨b, off + k * 7, none⟩ = some (.slice ma rk.name.length mc)) w'), (6, fun w' => (fun w' => w'.cell? ⟨w.heap.size + 1, 0, none⟩ = some (.slice na n.length nc)) w'), (11, fun w' => (fun w' => w'.cell? ⟨w.heap.size, 2, none⟩ = some (.slice (some ⟨b, off, none⟩) l.length ca)) w'), (15, fun w' => (fun w' => w'.cell? ⟨b, off + k * 7 + 1, none⟩ = some (.int .i64 rk.type)) w')] (fun hA => ?_)
     replace hA := UC hA
     generalize hWD : wr.drew = WD at *
     clear hWD
     repeat ((first | (refine VN ?_ (UB hA) rfl rfl rfl (by rfl) (fun _ _ _ h => h) ?_ ?_; rotate_left; · (intro w; go_simp <;> with_reducible rfl)) | refine VM (UB hA) rfl rfl (by rfl) (fun _ _ _ h => h) ?_); go_simp)
     refine takeC ?_ (UB hA) rfl rfl rfl (by rfl) (fun _ _ _ h => h) (.head _) (UL (UB KC1)).2.2 ?_ ?_; rotate_left; (· (intro w hSw; (try dsimp only at hSw); go_simp <;> with_reducible rfl)); go_simp
     repeat ((first | (refine VN ?_ (UB hA) rfl rfl rfl (by rfl) (fun _ _ _ h => h) ?_ ?_; rotate_left; · (intro w; go_simp <;> with_reducible rfl)) | refine VM (UB hA) rfl rfl (by rfl) (fun _ _ _ h => h) ?_); go_simp)
     refine takeC ?_ (UB hA) rfl rfl rfl (by rfl) (fun _ _ _ h => h) (.tail _ (.head _)) (VH (UB HC)).1 ?_ ?_; rotate_left; (· (intro w hSw; (try dsimp only at hSw); go_simp <;> with_reducible rfl)); go_simp
     repeat ((first | (refine VN ?_ (UB hA) rfl rfl rfl (by rfl) (fun _ _ _ h => h) ?_ ?_; rotate_left; · (intro w; go_simp <;> with_reducible rfl)) | refine VM (UB hA) rfl rfl (by rfl) (fun _ _ _ h => h) ?_); go_simp)
     refine takeC ?_ (UB hA) rfl rfl rfl (by rfl) (fun _ _ _ h => h) (.tail _ (.tail _ (.head _))) (US (UB KN1)) ?_ ?_; rotate_left; (· (intro w hSw; (try dsimp only at hSw); go_simp <;> with_reducible rfl)); go_simp
     refine runC (UB hA) rfl rfl (by kernel_rfl) (by kernel_rfl) (fun K hK => ?_)
     have HK := UC hK
     clear hK
     go_simp
     refine (UB LC _ bb1).mono ?_
     rintro e w5 ⟨rfl, b5⟩
     have KC5 := UC (UE b5 (UB KC1))
     have HC5 := UC (UW (UB HC) (by omega) b5)
     have hb5 := UG hb1 b5
     have bb5 := UG bb1 b5
     refine (UB HK).out _ _ (VB (by kernel_rfl) (VB (by kernel_rfl) (VB (by kernel_rfl) (keepC_yes (UL (UB KC5)).2.2 (keepC_yes (VH (UB HC5)).2.1 VL))))) ?_
     clear HK K
     go_simp
     repeat ((first | (refine VN ?_ (UB hA) rfl rfl rfl (by rfl) (fun _ _ _ h => h) ?_ ?_; rotate_left; · (intro w; go_simp <;> with_reducible rfl)) | refine VM (UB hA) rfl rfl (by rfl) (fun _ _ _ h => h) ?_); go_simp)
     refine takeC ?_ (UB hA) rfl rfl rfl (by rfl) (fun _ _ _ h => h) (.tail _ (.tail _ (.tail _ (.head _)))) (UL (UB KC5)).2.2 ?_ ?_; rotate_left; (· (intro w hSw; (try dsimp only at hSw); go_simp <;> with_reducible rfl)); go_simp
     repeat ((first | (refine VN ?_ (UB hA) rfl rfl rfl (by rfl) (fun _ _ _ h => h) ?_ ?_; rotate_left; · (intro w; go_simp <;> with_reducible rfl)) | refine VM (UB hA) rfl rfl (by rfl) (fun _ _ _ h => h) ?_); go_simp)
     refine takeC ?_ (UB hA) rfl rfl rfl (by rfl) (fun _ _ _ h => h) (.tail _ (.tail _ (.tail _ (.tail _ (.head _))))) (VH (UB HC5)).2.1 ?_ ?_; rotate_left; (· (intro w hSw; (try dsimp only at hSw); go_simp <;> with_reducible rfl)); go_simp
     repeat ((first | (refine VN ?_ (UB hA) rfl rfl rfl (by rfl) (fun _ _ _ h => h) ?_ ?_; rotate_left; · (intro w; go_simp <;> with_reducible rfl)) | refine VM (UB hA) rfl rfl (by rfl) (fun _ _ _ h => h) ?_); go_simp)
     refine doneC (UB hA) rfl ?_
     clear hA
     go_wp2_with fail
     exact ⟨⟨k + 1, by omega, by go_num, hb5, fun j hj => by
      by_cases e : j = k
      ·rw [e, UB HRK, UB HIS]
       rw [decide_eq_false (UB HF), Bool.and_false]
      ·exact UB HNO j (by omega)⟩, by simp [intOf]; omega⟩
   ·have qn : (N == 0) = false := by simpa using hn0
    have HF := UC hn0
    clear hn0
    refine startC [0, 1, 2, 3, 4, 5, 6, 7, 8, 9, 10, 11, 12, 13, 14, 15, 16, 17, 18] (by kernel_rfl) ⟨by kernel_rfl, by kernel_rfl, by kernel_rfl, by kernel_rfl⟩ 8 [(1, fun w' => (fun w' => w'.cell? ⟨w.heap.size, 2, none⟩ = some (.slice (some ⟨b, off, none⟩) l.length ca)) w'), (5, fun w' => (fun w' => w'.cell? ⟨b, off + k * 7, none⟩ = some (.slice ma rk.name.length mc)) w'), (6, fun w' => (fun w' => w'.cell? ⟨w.heap.size + 1, 0, none⟩ = some (.slice na n.length nc)) w'), (11, fun w' => (fun w' => w'.cell? ⟨w.heap.size, 2, none⟩ = some (.slice (some ⟨b, off, none⟩) l.length ca)) w'), (15, fun w' => (fun w' => w'.cell? ⟨b, off + k * 7 + 1, none⟩ = some (.int .i64 rk.type)) w')] (fun hA => ?_)
    replace hA := UC hA
    generalize hWD : wr.drew = WD at *
    clear hWD
    repeat ((first | (refine VN ?_ (UB hA) rfl rfl rfl (by rfl) (fun _ _ _ h => h) ?_ ?_; rotate_left; · (intro w; go_simp <;> with_reducible rfl)) | refine VM (UB hA) rfl rfl (by rfl) (fun _ _ _ h => h) ?_); go_simp)
    refine takeC ?_ (UB hA) rfl rfl rfl (by rfl) (fun _ _ _ h => h) (.head _) (UL (UB KC1)).2.2 ?_ ?_; rotate_left; (· (intro w hSw; (try dsimp only at hSw); go_simp <;> with_reducible rfl)); go_simp
    repeat ((first | (refine VN ?_ (UB hA) rfl rfl rfl (by rfl) (fun _ _ _ h => h) ?_ ?_; rotate_left; · (intro w; go_simp <;> with_reducible rfl)) | refine VM (UB hA) rfl rfl (by rfl) (fun _ _ _ h => h) ?_); go_simp)
    refine takeC ?_ (UB hA) rfl rfl rfl (by rfl) (fun _ _ _ h => h) (.tail _ (.head _)) (VH (UB HC)).1 ?_ ?_; rotate_left; (· (intro w hSw; (try dsimp only at hSw); go_simp <;> with_reducible rfl)); go_simp
    repeat ((first | (refine VN ?_ (UB hA) rfl rfl rfl (by rfl) (fun _ _ _ h => h) ?_ ?_; rotate_left; · (intro w; go_simp <;> with_reducible rfl)) | refine VM (UB hA) rfl rfl (by rfl) (fun _ _ _ h => h) ?_); go_simp)
    refine takeC ?_ (UB hA) rfl rfl rfl (by rfl) (fun _ _ _ h => h) (.tail _ (.tail _ (.head _))) (US (UB KN1)) ?_ ?_; rotate_left; (· (intro w hSw; (try dsimp only at hSw); go_simp <;> with_reducible rfl)); go_simp
    refine runC (UB hA) rfl rfl (by kernel_rfl) (by kernel_rfl) (fun K hK => ?_)
    have HK := UC hK
    clear hK
    go_simp
    refine (UB LC _ bb1).mono ?_
    rintro e w5 ⟨rfl, b5⟩
    have KC5 := UC (UE b5 (UB KC1))
    have HC5 := UC (UW (UB HC) (by omega) b5)
    have hb5 := UG hb1 b5
    have bb5 := UG bb1 b5
    refine (UB HK).out _ _ (VB (by kernel_rfl) (VB (by kernel_rfl) (VB (by kernel_rfl) (keepC_yes (UL (UB KC5)).2.2 (keepC_yes (VH (UB HC5)).2.1 VL))))) ?_
    clear HK K
    go_simp
    repeat ((first | (refine VN ?_ (UB hA) rfl rfl rfl (by rfl) (fun _ _ _ h => h) ?_ ?_; rotate_left; · (intro w; go_simp <;> with_reducible rfl)) | refine VM (UB hA) rfl rfl (by rfl) (fun _ _ _ h => h) ?_); go_simp)
    refine doneC (UB hA) rfl ?_
    clear hA
    go_wp2_with fail
    exact ⟨⟨k + 1, by omega, by go_num, hb5, fun j hj => by
     by_cases e : j = k
     ·rw [e, UB HRK, UB HIS]
      rw [decide_eq_false (UB HF), Bool.false_and]
     ·exact UB HNO j (by omega)⟩, by simp [intOf]; omega⟩
  ·obtain rfl : k = l.length := by omega
   have HZ := UC (findZ_none (findS_no hno))
   go_wp2_with fail
   go_ret
   exact ⟨by rw [UB HZ]; rfl, bb⟩
theorem RowX.ptr {er el eb ei e : TypeId} {B E n cap : Nat} {w : World} {a : Option Addr} {l : List Slt} (h : RowX 7 (OwnSQ er el eb ei) VK B E e w (.slice a n cap) l) (hl : 0 < l.length) : ∃ q, a = some ⟨q, 0, none⟩ := by
 obtain ⟨cs, f, g, ho, _⟩ := h
 obtain ⟨q, _, e1, _⟩ := ownsRow_atX ho hl
 exact ⟨q, e1⟩
theorem RowX.slot {er el eb ei e : TypeId} {B E n cap q m : Nat} {w : World} {l : List Slt} (h : RowX 7 (OwnSQ er el eb ei) VK B E e w (.slice (some ⟨q, 0, none⟩) n cap) l) (hm : m < l.length) :
  B ≤ q ∧ q < E ∧ q < w.heap.size ∧ w.frozen? ⟨q, m * 7 + 6, none⟩ = false ∧ ∃ vn vr, w.rangeAt q (m * 7) [vn, .int .i64 (l.getD m VK).type, .int .i64 (l.getD m VK).kind, vr, .int .i64 (l.getD m VK).rank, .int .i64 (l.getD m VK).till, .int .i64 (l.getD m VK).used] ∧ HasS2 w vn vr (l.getD m VK) := by
 obtain ⟨cs, f, g, ho, hq, hx⟩ := h
 obtain ⟨q0, cur, e1, e2, hB, hg, hn, _, hs, _⟩ := ownsRow_atX ho (show 0 < l.length by omega)
 cases e1
 subst e2
 obtain ⟨_, _, _, _, vs, q1, q2⟩ := hx m hm
 obtain ⟨vn, vr, rfl, h2⟩ := q2.has
 refine ⟨hB, hq q rfl, VC hg, VG hg _, vn, vr, ?_, h2⟩
 intro j u hj
 have hj7 : j < 7 := (List.getElem?_eq_some_iff.1 hj).1
 rw [World.ownsRow.cellAt ho (m * 7 + j) (show m * 7 + j < l.length * 7 by omega)]
 exact q1 j u hj
theorem RowX.used {er el eb ei e : TypeId} {B E n cap q m : Nat} {w : World} {l : List Slt} (h : RowX 7 (OwnSQ er el eb ei) VK B E e w (.slice (some ⟨q, 0, none⟩) n cap) l) (hm : m < l.length) (y : Int) :
  RowX 7 (OwnSQ er el eb ei) VK B E e (w.setCell ⟨q, m * 7 + 6, none⟩ (.int .i64 y)) (.slice (some ⟨q, 0, none⟩) n cap) (l.set m ⟨(l.getD m VK).name, (l.getD m VK).type, (l.getD m VK).kind, (l.getD m VK).rrs, (l.getD m VK).rank, (l.getD m VK).till, y⟩) := by
 obtain ⟨cs, f, g, ho, hq, hx⟩ := h
 obtain ⟨q0, cap0, cur, hv, hB, hqw, hE, hn, hmx, hfr, hset⟩ := row_setAt ho (k := m * 7 + 6) (by omega)
 cases hv
 obtain ⟨h1, h2, h3, h4, vs, q1, q2⟩ := hx m hm
 have uo := UT w q (m * 7 + 6) (.int .i64 y)
 have q2' := (ownsSQ er el eb ei).outside q2 uo (by have := h4 q rfl; omega)
 obtain ⟨vn, vr, rfl, _⟩ := q2
 obtain ⟨vn', vr', hv', B0, w1, p1, p2, u', p4⟩ := q2'
 simp only [List.cons.injEq, and_true, true_and] at hv'
 obtain ⟨rfl, rfl⟩ := hv'
 have hlen := ho.1
 refine RowX.mark (ownsSQ er el eb ei) (vs' := [vn, .int .i64 (l.getD m VK).type, .int .i64 (l.getD m VK).kind, vr, .int .i64 (l.getD m VK).rank, .int .i64 (l.getD m VK).till, .int .i64 y]) hm hq hx (hset (.int .i64 y)) ?_ ?_ ⟨vn, vr, rfl, B0, w1, p1, p2, u', p4⟩ ?_
 ·intro i j hij hj
  rw [List.getElem?_set_ne (by omega)]
 ·intro j u hj
  have hj7 : j < 7 := (List.getElem?_eq_some_iff.1 hj).1
  by_cases e : j = 6
  ·subst e
   rw [List.getElem?_set_self (by omega)]
   exact hj
  ·rw [List.getElem?_set_ne (by omega)]
   refine q1 j u ?_
   rcases (show j = 0 ∨ j = 1 ∨ j = 2 ∨ j = 3 ∨ j = 4 ∨ j = 5 by omega) with rfl | rfl | rfl | rfl | rfl | rfl <;> exact hj
 ·intro i hi hne vs2 ho2
  exact (ownsSQ er el eb ei).outside ho2 uo (by have := (hx i hi).2.2.2.1 q rfl; omega)
end Go.Proofs.YtaehfeobfkaicaaGreat
