/-
  Plain facts: one byte, made anew. No program is named here. Contract of the specification's l7sum. Plain facts: where an append to an own row of bytes leaves it: in its block, or in a new one. No program is named here.
-/
import Derived.Test.YtfneahdnpmamkaaGreatFnOwnersG29
namespace Go.Proofs.YtfneahdnpmamkaaGreat
open Go.RowKit

theorem Ko (w : World) (B : Nat) (e : TypeId) (x : Int) (hB : B ≤ w.heap.size) : Own B e (w.alloc (.cells #[.int .u8 x] e)) (.slice (some ⟨w.heap.size, 0, none⟩) 1 1) [x] := B4 w B e [x] hB (by simp [maxLen])
end Go.Proofs.YtfneahdnpmamkaaGreat

namespace Go.Proofs.YtfneahdnpmamkaaGreat
open Go.RowKit
set_option linter.unusedVariables false
set_option linter.unusedSimpArgs false

theorem Tm {v : Value} {bs : List Int} {s : S8} {w : World} (hv : Has w v bs) (hl : bs.length = 64) (h8 : Dd bs) :
  Calls Tryz.prog 64 #[.agg (Af (l8 s)), v] w fun e w' => (∃ s', Hid (Mz s bs = s') ∧ e = .returned (.agg (Af (l8 s')))) ∧ Below w.heap.size w w' :=
 (T6 hv hl h8).mono (fun e w' ⟨he, hb⟩ => ⟨⟨_, UC rfl, he⟩, hb⟩)

set_option maxHeartbeats 2000000 in
set_option maxRecDepth 100000 in
theorem Fe {v : Value} {l : List Int} {w : World} (h : Has w v l) (hl : l.length ≤ 4096) (h8 : Dd l) :
  Calls Tryz.prog 36 #[v] w fun e w' => ∃ v', e = .returned v' ∧ Own w.heap.size 5 w' v' (Ge l) ∧ Below w.heap.size w w' := by
 obtain ⟨la, lc, hlv, _⟩ := h.form
 generalize hln : l.length = n at *
 have HLN := UC hln
 clear hln
 subst hlv
 go_enter Tryz.func36, Tryz.ntmps36
 go_wp2_with (at_builtin; refine Aq rfl _ _ 22 5 rfl Tryz.underlying22 VJ w.heap.size _ (.slice la n lc) [] l rfl rfl (B4 w w.heap.size 5 [] (Nat.le_refl _) (by simp)) (h.below (UI _)).reads (by simp [UB HLN]; omega) (by simp) ?_)
 intro v1 w1 o1 hgrow
 have b1 : Below w.heap.size w w1 := ((Below.refl _ _).alloc (Nat.le_refl _) _).grown hgrow (by simp) (fun k hk => by simp [Value.ownBlock] at hk; omega)
 clear hgrow
 have z1 := b1.size
 replace o1 : Own w.heap.size 5 w1 v1 l := o1
 go_wp2_with (at_builtin; refine Aq rfl _ _ 22 5 rfl Tryz.underlying22 VJ w.heap.size v1 _ l [128] rfl rfl (o1.alloc _) (Ko w1 0 5 _ (Nat.zero_le _)).reads (by simp [UB HLN]; omega) (by simp; omega) ?_)
 intro v2 w2 o2 hgrow
 have b2 : Below w.heap.size w w2 := (b1.alloc z1 _).grown hgrow (by simp; omega) (fun k hk => (o1.lt k hk).1)
 have z2 := b2.size
 have O2 : Hid (Own w.heap.size 5 w2 v2 (padK l 0)) := UC (by simpa [padK] using o2)
 have B2 := UC b2
 clear hgrow o1 b1 o2 b2
 have HZ := UC (fun j (hj : j < Dg l.length) => Tc hj)
 have HZ2 := UC (Pv l.length)
 have HZ3 := UC (Pw l.length)
 rw [UB HLN] at HZ HZ2 HZ3
 have HP := UC (show C2 l = padK l (Dg n) ++ be8 (n * 8) 8 by rw [← UB HLN]; rfl)
 go_wp2_with fail
 go_loopw [3] (fun a wr => ∃ (j : Nat), j ≤ Dg n ∧ Hid (Own w.heap.size 5 wr a (padK l j)) ∧ Hid (Below w.heap.size w wr)) (fun a _ => 5000 - lenV a)
 case atStart => exact ⟨0, Nat.zero_le _, O2, B2⟩
 case round =>
  clear O2 B2
  obtain ⟨j, hj, ho, hb⟩ := hrel
  obtain ⟨a, cap, hv, _⟩ := (UB ho).lies
  rw [Ew, UB HLN] at hv
  subst hv
  have zz := (UB hb).size
  by_cases hlt : j < Dg n
  ·have hne := UB HZ j hlt
   have hz3 := UB HZ3
   have hm : ((n + 1 + j : Nat) : Int) % 64 ≠ 56 := by omega
   have hm2 : n + 1 + j < 5000 := by omega
   have hA : (padK l j).length + ([0] : List Int).length ≤ 1099511627776 := by rw [Ew, UB HLN]; simp only [List.length_cons, List.length_nil]; omega
   have HA := UC hA
   clear hA
   generalize hN : n + 1 + j = N at *
   have HN := UC hN
   clear hN hne hz3
   go_wp2_with (at_builtin; refine Aq rfl _ _ 22 5 rfl Tryz.underlying22 VJ w.heap.size (.slice a N cap) _ (padK l j) [0] rfl rfl ((UB ho).alloc _) (Ko wr 0 5 _ (Nat.zero_le _)).reads (UB HA) (by simp; omega) ?_)
   intro v3 w3 o3 hgrow
   rw [Vo] at o3
   have b3 : Below w.heap.size w w3 := ((UB hb).alloc zz _).grown hgrow (by simp; omega) (fun k hk => ((UB ho).lt k hk).1)
   have O3 := UC o3
   obtain ⟨a3, c3, hv3, _⟩ := o3.lies
   rw [Ew, UB HLN, show n + 1 + (j + 1) = N + 1 by have := UB HN; omega] at hv3
   subst hv3
   have B3 := UC b3
   clear hgrow o3 b3
   go_wp2
   exact ⟨⟨j + 1, by omega, O3, B3⟩, by simp [lenV]; omega⟩
  ·have hjz : j = Dg n := by omega
   have hz2 := UB HZ2
   rw [← hjz] at hz2
   have HO : Hid (Own w.heap.size 5 wr (.slice a (n + 1 + j) cap) (padK l (Dg n) ++ be8 (n * 8) 0)) := UC (by rw [← hjz]; simpa [be8] using UB ho)
   have hm : ((n + 1 + j : Nat) : Int) % 64 = 56 := by omega
   have e8 : IntKind.i64.wrap ((n : Int) * 8) = ((n * 8 : Nat) : Int) := Az (n * 8) (by omega)
   have HL1 := UC (show (padK l (Dg n)).length = n + 1 + j by rw [Ew, UB HLN, hjz])
   have hz3 := UB HZ3
   have hN5 : n + 1 + j < 5000 := by omega
   clear hz2 hz3 ho hlt hj HZ hjz
   generalize hN : n + 1 + j = N at *
   have HN := UC hN
   clear hN
   go_wp2_with fail
   clear hm e8
   generalize hMI : (n : Int) * 8 = MI at *
   have HMI := UC (show MI = ((n * 8 : Nat) : Int) by omega)
   clear hMI
   generalize hM : n * 8 = M at *
   have HM := UC hM
   clear hM
   generalize hPP : padK l (Dg n) = PP at *
   have HPP := UC hPP
   clear hPP
   go_loopw [3, 5] (fun a i wr => ∃ (j : Nat), j ≤ 8 ∧ i = .int .i64 (7 - j) ∧ Hid (Own w.heap.size 5 wr a (PP ++ be8 M j)) ∧ Hid (Below w.heap.size w wr)) (fun _ i _ => (intOf i + 1).toNat)
   case atStart => exact ⟨0, by omega, rfl, HO, hb⟩
   case round =>
    clear HO hb
    obtain ⟨j, hj, rfl, ho, hb⟩ := hrel
    have zz := (UB hb).size
    by_cases hlt : j < 8
    ·obtain ⟨a, cap, hv, _⟩ := (UB ho).lies
     rw [List.length_append, Jf, UB HL1] at hv
     subst hv
     have hA := UC (show (PP ++ be8 M j).length + ([((M / 2 ^ (8 * (7 - j)) % 256 : Nat) : Int)] : List Int).length ≤ 1099511627776 by rw [List.length_append, Jf, UB HL1]; simp only [List.length_cons, List.length_nil]; omega)
     have HB := UC (show be8 M (j + 1) = be8 M j ++ [((M / 2 ^ (8 * (7 - j)) % 256 : Nat) : Int)] from rfl)
     have g0 : ¬ ((7 : Int) - j < 0) := by omega
     have g1 : (0 : Int) ≤ 7 - j := by omega
     have eS : IntKind.i64.wrap (8 * (7 - (j : Int))) = ((8 * (7 - j) : Nat) : Int) := by rw [show (8 : Int) * (7 - (j : Int)) = ((8 * (7 - j) : Nat) : Int) by omega]; exact Az _ (by omega)
     have hmin : min (8 * (7 - j)) 64 = 8 * (7 - j) := by omega
     generalize 8 * (7 - j) = S at *
     have hdv : MI / 2 ^ S = ((M / 2 ^ S : Nat) : Int) := by rw [UB HMI]; simp
     generalize M / 2 ^ S = D at *
     have hu8 : IntKind.u8.wrap (D : Int) = ((D % 256 : Nat) : Int) := by simp [IntKind.wrap, IntKind.bits, IntKind.signed]
     generalize D % 256 = d at *
     go_wp2_with (at_builtin; refine Aq rfl _ _ 22 5 rfl Tryz.underlying22 VJ w.heap.size (.slice a (N + j) cap) _ (PP ++ be8 M j) [(d : Int)] rfl rfl ((UB ho).alloc _) (Ko wr 0 5 _ (Nat.zero_le _)).reads (UB hA) (by simp; omega) ?_)
     intro v3 w3 o3 hgrow
     rw [← UB HB] at o3
     have b3 : Below w.heap.size w w3 := ((UB hb).alloc zz _).grown hgrow (by simp; omega) (fun k hk => ((UB ho).lt k hk).1)
     have O3 := UC o3
     have B3 := UC b3
     clear hgrow o3 b3
     go_wp2
     exact ⟨⟨j + 1, by omega, by go_num, O3, B3⟩, by simp [intOf]; omega⟩
    ·have hj8 : j = 8 := by omega
     have HO : Hid (Own w.heap.size 5 wr u3 (C2 l)) := UC (by rw [UB HP, ← hj8]; exact UB ho)
     have hlen := Ts l
     have hnb : 1 ≤ Et l ∧ Et l ≤ 80 := by
      have h1 := Hi l
      have h2 := Pw l.length
      have h3 := UB HLN
      omega
     have HBY := UC (Oe (Pp h8))
     have HSH := UC (show Ge l = outK (sumK (C2 l) (Et l)) 8 from rfl)
     obtain ⟨g, cap, rfl, hg0, hgl, hc1, hc2, hcell⟩ : ∃ g cap, u3 = .slice (some ⟨g, 0, none⟩) (64 * Et l) cap ∧ w.heap.size ≤ g ∧ g < wr.heap.size ∧ 64 * Et l ≤ cap ∧ cap ≤ maxLen ∧ ∀ i, i < 64 * Et l → wr.cell? ⟨g, i, none⟩ = some (.int .u8 ((C2 l).getD i 0)) := by
      rcases (UB HO).form with ⟨_, h0⟩ | ⟨g, cap, h1, h2, h3, h4, h5, h6, _⟩
      ·rw [h0] at hlen
       simp at hlen
       omega
      ·rw [hlen] at h1 h4 h6
       exact ⟨g, cap, h1, h2, h3, h4, h5, h6⟩
     have HLEN := UC hlen
     generalize Et l = nb at *
     generalize C2 l = p at *
     have g0 : (7 : Int) - j < 0 := by omega
     have HC := UC hcell
     have HG := UC (And.intro hg0 (And.intro hgl (And.intro hc1 hc2)))
     clear hlen hcell ho hj hlt hj8 hg0 hgl hc1 hc2 HO
     go_wp2_with fail
     refine (Ua _).mono ?_
     rintro e w4 ⟨rfl, b4⟩
     have ka := heap_alloc_new w4 (.cells (Af (List.replicate 8 0)) 91)
     have ba := UG b4 (UI (w := w4) (.cells (Af (List.replicate 8 0)) 91))
     have HT := UC (Dw ka (n := (Af (l8 iv8)).size) (by rw [Ao, Ao]; rfl))
     have KV := UC (Dt ka (cs := Af (l8 iv8)) (by rw [Ao, Ao]; rfl))
     have BV := UC ((Bu w4.heap.size (Af (l8 iv8)).toList 0 (w4.alloc (.cells (Af (List.replicate 8 0)) 91))).below ba b4.size)
     have zq := UC b4.size
     clear ka ba b4 g0
     go_wp2_with (first
      | (refine Jb (v := .pointer (some ⟨w4.heap.size, 0, none⟩)) (w' := w4.alloc (.cells (Af (List.replicate 8 0)) 91)) rfl rfl (by kernel_rfl) ?_)
      | (refine wpList_store_mid rfl 91 (.tmp 6) (.tmp 37) rfl w4.heap.size 0 (Af (l8 iv8)) rfl rfl (UB HT) (sz8 _) (Ek _) ?_; generalize (w4.alloc (.cells (Af (List.replicate 8 0)) 91)).setCells w4.heap.size 0 (Af (l8 iv8)).toList = W4 at *; generalize w4.heap.size = q at *))
     generalize wr = V0 at *
     go_loopw [7] (fun i w5 => ∃ (k : Nat), k ≤ nb ∧ i = .int .i64 ((64 * k : Nat) : Int) ∧ Hid (w5.heap[q]? = some (.cells (Af (l8 (sumK p k))) 91) ∧ Below V0.heap.size V0 w5)) (fun i _ => 64 * nb - (intOf i).toNat)
     case atStart => exact ⟨0, Nat.zero_le _, rfl, UC ⟨UB KV, UB BV⟩⟩
     case round =>
      clear KV BV HT
      obtain ⟨k, hk, rfl, H⟩ := hrel
      by_cases hlt : k < nb
      ·have l1 : ((64 * k : Nat) : Int) < ((64 * nb : Nat) : Int) := by omega
       have l2 : 64 * k + 64 ≤ 64 * nb := by omega
       have HX := UC (show sumK p (k + 1) = Mz (sumK p k) (Fv p k) from rfl)
       have hbl := UC (Mx (UB HLEN) hlt)
       have hb8 := UC (Ov (UB HBY) k)
       have hgd := UC (fun i (hi : i < 64) => Qw (UB HLEN) hlt hi)
       generalize sumK p k = SS at *
       generalize Fv p k = bk at *
       have e1 : IntKind.i64.wrap (((64 * k : Nat) : Int) + 64) = ((64 * k + 64 : Nat) : Int) := Az (64 * k + 64) (by omega)
       have b1 := UG (UB H).2 (UX (w := wr))
       have k1 := UE (UX (w := wr)) (UB H).1
       have HH := UC (fun (w' : World) (hb : Below V0.heap.size V0 w') => (show Has w' (.slice (some ⟨g, 64 * k, none⟩) 64 (cap - 64 * k)) bk from .inr ⟨g, 64 * k, cap - 64 * k, by rw [UB hbl], Nat.lt_of_lt_of_le (UB HG).2.1 hb.size, by have := (UB HG).2.2.1; rw [UB hbl]; omega, by have := (UB HG).2.2.2; omega, fun i hi => by
        rw [UB hbl] at hi
        rw [UB hgd i hi]
        exact (hb.cell (p := ⟨g, 64 * k + i, none⟩) (UB HG).2.1).trans (UB HC _ (by omega))⟩))
       have hcap := (UB HG).2.2.1
       have hcap2 := (UB HG).2.2.2
       have l3 : ((64 * k : Nat) : Int) ≤ ((64 * k + 64 : Nat) : Int) := by omega
       have l4 : ((64 * k + 64 : Nat) : Int) ≤ (cap : Int) := by omega
       have l5 : (0 : Int) ≤ ((64 * k : Nat) : Int) := by omega
       have B1 := UC b1
       have K1 := UC k1
       have f1 : (0 : Int) ≤ ((64 * k : Nat) : Int) + 64 ∧ ((64 * k : Nat) : Int) + 64 ≤ (cap : Int) := by omega
       have f2 : 64 * k ≤ (((64 * k : Nat) : Int) + 64).toNat := by omega
       have f3 : ¬ cap = 64 * k := by omega
       have f4 : (((64 * k : Nat) : Int) + 64).toNat - 64 * k = 64 := by omega
       clear b1 k1 hk H l2 l3 l4 l5 hcap hcap2
       have HLT := UC hlt
       clear hlt
       generalize hm : 64 * k = m at *
       have HMM := UC hm
       clear hm
       go_wp2_with fail
       refine Fi 8 (S := fun _ => True) (by kernel_rfl) rfl trivial (fun hHeld => ?_)
       simp only [List.replicate]
       refine tkI 1 ?_ rfl (by kernel_rfl) (by kernel_rfl) (fun _ _ _ h => h) ?_ hHeld ?_; rotate_left; (· (intro w hSw; (try dsimp only at hSw); go_simp <;> with_reducible rfl)); simp only [Act.put, List.setIfInBounds_toArray, List.set_cons_zero, List.set_cons_succ]
       refine tkI 2 ?_ rfl (by kernel_rfl) (by kernel_rfl) (fun _ _ _ h => h) ?_ hHeld ?_; rotate_left; (· (intro w hSw; (try dsimp only at hSw); go_simp <;> with_reducible rfl)); simp only [Act.put, List.setIfInBounds_toArray, List.set_cons_zero, List.set_cons_succ]
       refine tkI 3 ?_ rfl (by kernel_rfl) (by kernel_rfl) (fun _ _ _ h => h) ?_ hHeld ?_; rotate_left; (· (intro w hSw; (try dsimp only at hSw); go_simp <;> with_reducible rfl)); simp only [Act.put, List.setIfInBounds_toArray, List.set_cons_zero, List.set_cons_succ]
       refine tkI 4 ?_ rfl (by kernel_rfl) (by kernel_rfl) (fun _ _ _ h => h) ?_ hHeld ?_; rotate_left; (· (intro w hSw; (try dsimp only at hSw); go_simp <;> with_reducible rfl)); simp only [Act.put, List.setIfInBounds_toArray, List.set_cons_zero, List.set_cons_succ]
       refine tkI 5 ?_ rfl (by kernel_rfl) (by kernel_rfl) (fun _ _ _ h => h) ?_ hHeld ?_; rotate_left; (· (intro w hSw; (try dsimp only at hSw); go_simp <;> with_reducible rfl)); simp only [Act.put, List.setIfInBounds_toArray, List.set_cons_zero, List.set_cons_succ]
       refine runI 0 rfl (by kernel_rfl) (by kernel_rfl) (fun K hK => ?_)
       have HK := UC hK
       clear hK hHeld
       refine Zn 91 (.tmp 6) rfl q rfl (l8 SS) (UB K1) Tryz.underlying91 rfl P8 ?_
       refine (UB HK).out _ _ trivial (fun hHeld => ?_)
       clear HK K
       simp only [Act.put, List.setIfInBounds_toArray, List.set_cons_zero, List.set_cons_succ]
       refine runI 6 rfl (by kernel_rfl) (by kernel_rfl) (fun K hK => ?_)
       have HK := UC hK
       clear hK hHeld
       go_simp
       refine (Tm (UB HH _ (UB B1)) (UB hbl) (UB hb8)).mono ?_
       rintro e w6 ⟨⟨SB, hSB, rfl⟩, b6⟩
       replace B1 := UC (UG (UB B1) b6)
       replace K1 := UC (UE b6 (UB K1))
       clear b6
       go_simp
       refine (UB HK).out _ _ trivial (fun hHeld => ?_)
       clear HK K
       simp only [List.setIfInBounds_toArray, List.set_cons_zero, List.set_cons_succ]
       have HT7 := UC (Dw (UB K1) (n := (Af (l8 SB)).size) (by rw [Ao, Ao]; rfl))
       have K7 := UC (Dt (UB K1) (cs := Af (l8 SB)) (by rw [Ao, Ao]; rfl))
       have B7 := UC ((Bu q (Af (l8 SB)).toList 0 w6).below (UB B1) (UB zq))
       refine runI 7 rfl (by kernel_rfl) (by kernel_rfl) (fun K hK => ?_)
       have HK := UC hK
       clear hK hHeld
       refine wp_store_mid 91 (.tmp 6) (.tmp 50) rfl q 0 (Af (l8 SB)) rfl rfl (UB HT7) (sz8 _) (Ek _) ?_
       refine (UB HK).out _ _ trivial (fun hHeld => ?_)
       clear HK K
       simp only [Act.put, List.setIfInBounds_toArray, List.set_cons_zero, List.set_cons_succ]
       refine wpAnyH_done (by kernel_rfl) ?_ _
       clear hHeld
       generalize w6.setCells q 0 (Af (l8 SB)).toList = w7 at *
       rw [← UB hSB, ← UB HX] at K7
       clear f1 f2 f3 f4
       go_wp2
       have hlt := UB HLT
       have hmm := UB HMM
       exact ⟨⟨k + 1, by omega, by rw [show 64 * (k + 1) = m + 64 by omega]; go_num, UC ⟨UB K7, UB B7⟩⟩, by simp [intOf]; omega⟩
      ·have hkn : k = nb := by omega
       have e : ¬ (((64 * k : Nat) : Int) < ((64 * nb : Nat) : Int)) := by omega
       have HF : Hid (wr.heap[q]? = some (.cells (Af (l8 (sumK p nb))) 91) ∧ Below V0.heap.size V0 wr) := by rw [← hkn]; exact H
       generalize sumK p nb = SS at *
       clear H hkn hlt hk
       go_wp2_with fail
       clear e
       go_loopw [8, 9] (fun o i wr => ∃ (j : Nat), j ≤ 8 ∧ i = .int .i64 j ∧ Hid (Own (q + 1) 5 wr o (outK SS j)) ∧ Hid (wr.heap[q]? = some (.cells (Af (l8 SS)) 91) ∧ Below V0.heap.size V0 wr)) (fun _ i _ => 8 - (intOf i).toNat)
       case atStart => exact ⟨0, by omega, rfl, UC (World.ownsRow_nil _ _ _ _), HF⟩
       case round =>
        clear HF
        obtain ⟨i, hi, rfl, ho, H⟩ := hrel
        by_cases hlt : i < 8
        ·have HX := UC (show outK SS (i + 1) = outK SS i ++ Kp ((l8 SS).getD i 0) from rfl)
         have hA := UC (show (outK SS i).length + (Kp ((l8 SS).getD i 0)).length ≤ 1099511627776 by rw [Lj]; simp only [Kp, List.length_cons, List.length_nil]; omega)
         have CF := UC (fun (w' : World) (hb : w'.heap[q]? = some (.cells (Af (l8 SS)) 91)) => Dj hb (i := i) hlt)
         generalize (l8 SS).getD i 0 = x at *
         have li : (i : Int) < 8 := by omega
         have HLT := UC hlt
         have xl := wv_lt x
         have h0 : IntKind.u8.wrap (wv x / (16777216 : Int)) = wv x / 16777216 := by simp only [IntKind.wrap, IntKind.bits, IntKind.signed]; simp; omega
         have h1 : IntKind.u8.wrap (wv x / (65536 : Int)) = wv x / 65536 % 256 := by simp only [IntKind.wrap, IntKind.bits, IntKind.signed]; simp
         have h2 : IntKind.u8.wrap (wv x / (256 : Int)) = wv x / 256 % 256 := by simp only [IntKind.wrap, IntKind.bits, IntKind.signed]; simp
         have h3 : IntKind.u8.wrap (wv x) = wv x % 256 := by simp only [IntKind.wrap, IntKind.bits, IntKind.signed]; simp
         clear xl hlt hi
         have HBW := UC (show Kp x = [wv x / 16777216, wv x / 65536 % 256, wv x / 256 % 256, wv x % 256] from rfl)
         have K0 := UC (UE (UX (w := wr)) (UB H).1)
         have b1 := UG (UI (w := wr) (.cells #[.int .u8 (wv x / 16777216), .int .u8 (wv x / 65536 % 256), .int .u8 (wv x / 256 % 256), .int .u8 (wv x % 256)] 5)) UX
         have K1 := UC (UE b1 (UB H).1)
         have O1 := UC ((UB ho).below b1)
         have R1 := UC ((B4 wr 0 5 [wv x / 16777216, wv x / 65536 % 256, wv x / 256 % 256, wv x % 256] (Nat.zero_le _) (by simp [maxLen])).below UX).reads
         have BB1 := UC (UG (UB H).2 b1)
         have zz := VC (UB K1)
         rw [UB HBW] at hA HX
         clear b1
         go_wp2_with fail
         refine Fi 23 (S := fun w' => w'.cell? ⟨q, i, none⟩ = some (.int .u32 (wv x))) (by kernel_rfl) rfl (UB CF _ (UB K0)) (fun hHeld => ?_)
         simp only [List.replicate]
         repeat ((first | (refine tkF ?_ rfl (by kernel_rfl) (by rfl) (fun _ _ _ h => h) ?_ hHeld ?_; rotate_left; · (intro w hSw; (try dsimp only at hSw); go_simp <;> with_reducible rfl)) | refine skF rfl (by kernel_rfl) (by rfl) (fun _ _ _ h => h) hHeld ?_); simp only [Act.put, setF, List.setIfInBounds_toArray, List.set_cons_zero, List.set_cons_succ])
         refine runI 20 rfl (by kernel_rfl) (by kernel_rfl) (fun K hK => ?_)
         have HK := UC hK
         clear hK hHeld
         go_simp
         refine (UB HK).out _ _ (UB CF _ (UB K1)) (fun hHeld => ?_)
         clear HK K
         simp only [Act.put, List.setIfInBounds_toArray, List.set_cons_zero, List.set_cons_succ]
         refine wpAnyH_ready (rs := [21]) (by kernel_rfl) (by simp) (AllReadyH.cons (UY rfl) (fun K hK => ?_) AllReadyH.nil)
         have HK := UC hK
         clear hK hHeld
         refine Bc rfl (.tmp 55) (.tmp 75) 22 5 rfl Tryz.underlying22 VJ (q + 1) u8 (.slice (some ⟨wr.heap.size, 0, none⟩) 4 4) (outK SS i) [wv x / 16777216, wv x / 65536 % 256, wv x / 256 % 256, wv x % 256] rfl rfl (UB O1) (UB R1) (UB hA) (by omega) ?_
         intro v3 w3 o3 hgrow
         have k3 := (hgrow.block q zz (fun e => by have := ((UB O1).lt q e.symm).1; omega)).trans (UB K1)
         have b3 := (UB BB1).grown hgrow (Nat.le_trans (UB BB1).size (Nat.le_refl _)) (fun k hk => by have := ((UB O1).lt k hk).1; have := UB zq; omega)
         rw [← UB HX] at o3
         have O3 := UC o3
         have H3 := UC (And.intro k3 b3)
         clear hgrow o3 k3 b3
         refine (UB HK).out _ _ (UB CF _ (UB H3).1) (fun hHeld => ?_)
         clear HK K
         simp only [Act.put, List.setIfInBounds_toArray, List.set_cons_zero, List.set_cons_succ]
         refine tkI 22 ?_ rfl (by kernel_rfl) (by kernel_rfl) (fun _ _ _ h => h) ?_ hHeld ?_; rotate_left; (· (intro w hSw; (try dsimp only at hSw); go_simp <;> with_reducible rfl)); simp only [Act.put, List.setIfInBounds_toArray, List.set_cons_zero, List.set_cons_succ]
         refine wpAnyH_done (by kernel_rfl) ?_ _
         clear hHeld h0 h1 h2 h3
         have hlt := UB HLT
         go_wp2
         exact ⟨⟨i + 1, by omega, by go_num, O3, H3⟩, by simp [intOf]; omega⟩
        ·have e : ¬ ((i : Int) < 8) := by omega
         have HO : Hid (Own (q + 1) 5 wr u8 (outK SS 8)) := by rw [show (8 : Nat) = i by omega]; exact ho
         clear ho hlt hi
         go_wp2_with fail
         go_ret
         have hbw := UB hb
         exact ⟨_, rfl, by rw [UB HSH]; exact (UB HO).mono (by have := hbw.size; have := UB zq; omega), UG hbw (UB H).2⟩
end Go.Proofs.YtfneahdnpmamkaaGreat

namespace Go.Proofs.YtfneahdnpmamkaaGreat
open Go.RowKit

section
variable {P : Program} {w : World}

theorem Sx {t ty e : TypeId} (ht : P.underlying t = some (.slice e)) (hinfo : (P.info? e).map (fun i => (i.zero, i.size, i.bytes)) = some (some (.int .u8 0), 1, 1))
  {base : Nat} {v vx : Value} {l m : List Int} (hown : Own base e w v l) (hr : Jr w vx m) (hlen : l.length + m.length ≤ 1099511627776) (hbase : base ≤ w.heap.size) {v' : Value} {w' : World}
  (hrun : (Builtin.append_ #[t, t] ty #[v, vx]).run P w = .ok v' w') : v'.ownBlock = v.ownBlock ∨ v'.ownBlock = some w.heap.size := by
 obtain ⟨i0, hi, hz0, hz1, hz2⟩ := info_parts hinfo
 rcases hr with ⟨rfl, rfl⟩ | ⟨ad, cap, rfl, hc⟩
 ·rw [run_append_owned_none w base t ty e i0 1 ht hi v l.length (l.map (Value.int .u8)) hown] at hrun
  simp only [Result.ok.injEq] at hrun
  left; rw [hrun.1]
 ·obtain ⟨v2, w2, h1, _, _, h4⟩ := run_append_own (P := P) w base t ty e i0 (.int .u8 0) 1 1 ht hi hz0 hz1 hz2 rfl (by decide) v l.length (l.map (Value.int .u8)) hown ad m.length cap (m.map (Value.int .u8)) (by simp) (F5 hc) (Je m) (by unfold maxLen; omega) (by omega) hbase
  rcases hown.2 with ⟨rfl, h0⟩ | ⟨g, cp, cur, rfl, hbg, hg, hnc, hcm, hcs, htake⟩
  ·by_cases hm : m.length = 0
   ·rw [h1] at hrun
    simp only [Result.ok.injEq] at hrun
    have := h4.2 ⟨rfl, hm⟩
    rw [← hrun.1, this]
    exact .inl rfl
   ·rw [run_append_nil (P := P) w t ty e i0 (.int .u8 0) ht hi hz0 ad m.length cap (m.map (Value.int .u8)) (by simp [hz1]) (F5 hc) (by omega) (by omega) (by rw [hz2]; omega)] at hrun
    simp only [Result.ok.injEq] at hrun
    right; rw [← hrun.1]; rfl
  ·by_cases hroom : l.length + m.length ≤ cp
   ·rw [run_append_room (P := P) w t ty e i0 ht hi g l.length cp cur hg ad m.length cap (m.map (Value.int .u8)) (by simp [hz1]) (F5 hc) (Je m) hroom (by rw [hz1]; simp; omega)] at hrun
    simp only [Result.ok.injEq] at hrun
    left; rw [← hrun.1]; rfl
   ·have holds : ∀ j u, (l.map (Value.int .u8))[j]? = some u → w.cell? ((⟨g, 0, none⟩ : Addr).add j) = some u := World.ownsRow.cells hown (g := g) rfl
    rw [run_append_grow (P := P) w t ty e i0 (.int .u8 0) ht hi hz0 ⟨g, 0, none⟩ l.length cp (l.map (Value.int .u8)) (by simp [hz1]) holds ad m.length cap (m.map (Value.int .u8)) (by simp [hz1]) (F5 hc) (by omega) (by omega) (growslice_fits (by omega) (by rw [hz2]; omega))] at hrun
    simp only [Result.ok.injEq] at hrun
    right; rw [← hrun.1]; rfl

theorem An {ops : Array Oper} {o : Oper} {a : Act} {K : Act → World → Prop} {Q : Exit → Act → World → Prop} {E : Prop} (hgd : o.guard = none) (s x : Operand) (t e : TypeId)
  (ho : o.op = .call { callee := .builtin .append, args := #[s, x], argTypes := #[t, t] }) (ht : P.underlying t = some (.slice e))
  (hinfo : (P.info? e).map (fun i => (i.zero, i.size, i.bytes)) = some (some (.int .u8 0), 1, 1))
  (base : Nat) (v vx : Value) (l m : List Int) (hs : a.eval s = v) (hx : a.eval x = vx) (hown : Own base e w v l) (hr : Jr w vx m) (hlen : l.length + m.length ≤ 1099511627776) (hbase : base ≤ w.heap.size)
  (h : ∀ v' w', Own base e w' v' (l ++ m) → w.grownBy w' v.ownBlock → (v'.ownBlock = v.ownBlock ∨ v'.ownBlock = some w.heap.size) → K (a.put o.dst v') w') : if Region.wanted o (yielded ops a.tmps) = true then Oper.wp P o a w K Q else E := by
 have hw : Region.wanted o (yielded ops a.tmps) = true := by simp [Region.wanted, hgd]
 rw [if_pos hw]
 obtain ⟨v', w', hr', h2, h3⟩ := Gl (P := P) t o.type e ht hinfo base v vx l m hown hr hlen hbase
 have h4 := Sx ht hinfo hown hr hlen hbase hr'
 unfold Oper.wp execOp
 simp only [ho, resolve, invoke, builtin, Sem.run_bind, Sem.run_pure, Result.andThen_ok, List.map_toArray, List.map_cons, List.map_nil, hs, hx, hr']
 exact h v' w' h2 h3 h4
end

structure Lz (w w' : World) (v v' : Value) : Prop where
 kept : w.grownBy w' v.ownBlock
 own : v'.ownBlock = v.ownBlock ∨ ∀ q, v'.ownBlock = some q → w.heap.size ≤ q
theorem Lz.refl (w : World) (v : Value) : Lz w w v v := ⟨⟨rfl, rfl, rfl, Nat.le_refl _, fun _ _ _ => rfl⟩, .inl rfl⟩
theorem Lz.step {w a b : World} {v u u' : Value} (h : Lz w a v u) (g : a.grownBy b u.ownBlock) (hw : u'.ownBlock = u.ownBlock ∨ u'.ownBlock = some a.heap.size) : Lz w b v u' := by
 refine ⟨⟨g.os.trans h.kept.os, g.tape.trans h.kept.tape, g.output.trans h.kept.output, Nat.le_trans h.kept.size g.size, fun k hk hne => ?_⟩, ?_⟩
 ·refine (g.block k (Nat.lt_of_lt_of_le hk h.kept.size) (fun e => ?_)).trans (h.kept.block k hk hne)
  rcases h.own with h1 | h1
  ·rw [h1] at e; exact hne e
  ·have := h1 k e.symm; omega
 ·rcases hw with hw | hw
  ·rw [hw]; exact h.own
  ·right
   intro q hq
   rw [hw] at hq
   have := h.kept.size
   simp at hq
   omega
theorem Lz.below {w a b : World} {v u : Value} (h : Lz w a v u) (hb : Below a.heap.size a b) : Lz w b v u :=
 ⟨⟨hb.os.trans h.kept.os, hb.tape.trans h.kept.tape, hb.output.trans h.kept.output, Nat.le_trans h.kept.size hb.size, fun k hk hne => (hb.block k (Nat.lt_of_lt_of_le hk h.kept.size)).trans (h.kept.block k hk hne)⟩, h.own⟩
end Go.Proofs.YtfneahdnpmamkaaGreat
