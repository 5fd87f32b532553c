/-
  Contract of the specification's RrSame. Contract of the laws' place: is a record of a list the same? The laws' sameRrs of a list of records and the same list elsewhere. Contracts of the program's copyBytes: new memory with the same bytes. Contracts of the program's copyName: a name of its own with the same labels.
-/
import Derived.Test.YthobpbnaklnbiaaGreatFnLookupsG17
import Derived.Test.YthobpbnaklnbiaaGreatFnLookupsG10
import Derived.Test.YthobpbnaklnbiaaGreatFnLookupsG16
import Derived.Test.YthobpbnaklnbiaaGreatFnLookupsG02
import Derived.Deep.RegionHeld3
import Derived.Deep.RegionWith
import Derived.Test.YthobpbnaklnbiaaGreatFnLookupsG05
import Derived.Test.YthobpbnaklnbiaaGreatFnLookupsG20
import Derived.Test.YthobpbnaklnbiaaGreatFnLookupsG01
import Derived.Deep.Cut
import Derived.Test.YthobpbnaklnbiaaGreatFnLookupsG11
import Derived.Test.YthobpbnaklnbiaaGreatFnLookupsG29
namespace Go.Proofs.YthobpbnaklnbiaaGreat
open Go.RowKit
set_option linter.unusedVariables false

set_option maxHeartbeats 1000000 in
set_option maxRecDepth 100000 in
theorem specRrSame_has {vn vt vx vi un ut ux ui : Value} {a b : Rec} {w : World} (h : HasR w vn vt vx vi a) (h' : HasR w un ut ux ui b) :
  Calls Tryz.prog 42 #[.agg #[vn, .int .i64 a.type, .int .i64 a.ttl, .int .i64 a.addr, vt, vx, vi], .agg #[un, .int .i64 b.type, .int .i64 b.ttl, .int .i64 b.addr, ut, ux, ui]] w fun e w' => e = .returned (.bool (rrSame a b)) ∧ Below w.heap.size w w' := by
 obtain ⟨na, nc, rfl, _⟩ := h.name.form
 obtain ⟨ta, tc, rfl, _⟩ := h.to.form
 obtain ⟨xa, xc, rfl, _⟩ := h.text.form
 obtain ⟨ia, ic, rfl, _⟩ := h.nums.form
 obtain ⟨na', nc', rfl, _⟩ := h'.name.form
 obtain ⟨ta', tc', rfl, _⟩ := h'.to.form
 obtain ⟨xa', xc', rfl, _⟩ := h'.text.form
 obtain ⟨ia', ic', rfl, _⟩ := h'.nums.form
 have b0 := below2 w (.cells #[.slice na a.name.length nc, .int .i64 a.type, .int .i64 a.ttl, .int .i64 a.addr, .slice ta a.to.length tc, .slice xa a.text.length xc, .slice ia a.nums.length ic] 39) (.cells #[.slice na' b.name.length nc', .int .i64 b.type, .int .i64 b.ttl, .int .i64 b.addr, .slice ta' b.to.length tc', .slice xa' b.text.length xc', .slice ia' b.nums.length ic'] 39)
 obtain ⟨hsz, k0, x0⟩ := box2 w (.cells #[.slice na a.name.length nc, .int .i64 a.type, .int .i64 a.ttl, .int .i64 a.addr, .slice ta a.to.length tc, .slice xa a.text.length xc, .slice ia a.nums.length ic] 39) #[.slice na' b.name.length nc', .int .i64 b.type, .int .i64 b.ttl, .int .i64 b.addr, .slice ta' b.to.length tc', .slice xa' b.text.length xc', .slice ia' b.nums.length ic'] 39
 have K0 := UC k0
 have X0 := UC x0
 have H0 := UC (h.below b0)
 have J0 := UC (h'.below b0)
 clear h h' k0 x0
 have HA := UC (fun (w : World) (vn vt vx vi : Value) (h : HasR w vn vt vx vi a) => specRrOk_has h)
 have HB := UC (fun (w : World) (vn vt vx vi : Value) (h : HasR w vn vt vx vi b) => specRrOk_has h)
 have HC := UC (show ∀ (w : World) (vn vt vx vi un ut ux ui : Value), HasR w vn vt vx vi a → HasR w un ut ux ui b → rrOk a = true → rrOk b = true → Calls Tryz.prog 31 #[.agg #[vn, .int .i64 a.type, .int .i64 a.ttl, .int .i64 a.addr, vt, vx, vi], .agg #[un, .int .i64 b.type, .int .i64 b.ttl, .int .i64 b.addr, ut, ux, ui]] w fun e w' => e = .returned (.int .i64 (cmpR a b)) ∧ Below w.heap.size w w' from fun w vn vt vx vi un ut ux ui h h' ha hb => l3cmp_has h h' ha hb)
 unfold rrSame
 generalize cmpR a b = R at *
 cases hA : rrOk a with
 | false =>
  rw [Bool.false_and]
  rw [hA] at HA
  go_enter Tryz.func42, Tryz.ntmps42
  go_wp2_with fail
  generalize (w.alloc (.cells #[.slice na a.name.length nc, .int .i64 a.type, .int .i64 a.ttl, .int .i64 a.addr, .slice ta a.to.length tc, .slice xa a.text.length xc, .slice ia a.nums.length ic] 39)).alloc (.cells #[.slice na' b.name.length nc', .int .i64 b.type, .int .i64 b.ttl, .int .i64 b.addr, .slice ta' b.to.length tc', .slice xa' b.text.length xc', .slice ia' b.nums.length ic'] 39) = W at *
  refine (UB HA _ _ _ _ _ (UB H0)).mono ?_
  rintro e w1 ⟨rfl, b1⟩
  go_wp2_with fail
  go_ret
  exact ⟨rfl, UG b0 b1⟩
 | true =>
  rw [hA] at HA
  have HTA := UC hA
  clear hA
  rw [Bool.true_and]
  cases hB : rrOk b with
  | false =>
   rw [Bool.false_and]
   rw [hB] at HB
   go_enter Tryz.func42, Tryz.ntmps42
   go_wp2_with fail
   generalize (w.alloc (.cells #[.slice na a.name.length nc, .int .i64 a.type, .int .i64 a.ttl, .int .i64 a.addr, .slice ta a.to.length tc, .slice xa a.text.length xc, .slice ia a.nums.length ic] 39)).alloc (.cells #[.slice na' b.name.length nc', .int .i64 b.type, .int .i64 b.ttl, .int .i64 b.addr, .slice ta' b.to.length tc', .slice xa' b.text.length xc', .slice ia' b.nums.length ic'] 39) = W at *
   refine (UB HA _ _ _ _ _ (UB H0)).mono ?_
   rintro e w1 ⟨rfl, b1⟩
   have bb1 := UG b0 b1
   have K1 := UC (UE b1 (UB K0))
   have X1 := UC (UE b1 (UB X0))
   have H1 := UC ((UB H0).below b1)
   have J1 := UC ((UB J0).below b1)
   clear K0 X0 H0 J0 b1
   obtain ⟨d0, d1, d2, d3, d4, d5, d6⟩ := UJ (UB K1)
   obtain ⟨f0, f1, f2, f3, f4, f5, f6⟩ := UJ (UB X1)
   go_wp2_with fail
   refine (UB HB _ _ _ _ _ (UB J1)).mono ?_
   rintro e w2 ⟨rfl, b2⟩
   go_wp2_with fail
   go_ret
   exact ⟨rfl, UG bb1 b2⟩
  | true =>
   rw [Bool.true_and]
   rw [hB] at HB
   have HTB := UC hB
   clear hB
   go_enter Tryz.func42, Tryz.ntmps42
   go_wp2_with fail
   generalize (w.alloc (.cells #[.slice na a.name.length nc, .int .i64 a.type, .int .i64 a.ttl, .int .i64 a.addr, .slice ta a.to.length tc, .slice xa a.text.length xc, .slice ia a.nums.length ic] 39)).alloc (.cells #[.slice na' b.name.length nc', .int .i64 b.type, .int .i64 b.ttl, .int .i64 b.addr, .slice ta' b.to.length tc', .slice xa' b.text.length xc', .slice ia' b.nums.length ic'] 39) = W at *
   refine (UB HA _ _ _ _ _ (UB H0)).mono ?_
   rintro e w1 ⟨rfl, b1⟩
   have bb1 := UG b0 b1
   have K1 := UC (UE b1 (UB K0))
   have X1 := UC (UE b1 (UB X0))
   have H1 := UC ((UB H0).below b1)
   have J1 := UC ((UB J0).below b1)
   clear K0 X0 H0 J0 b1
   obtain ⟨d0, d1, d2, d3, d4, d5, d6⟩ := UJ (UB K1)
   obtain ⟨f0, f1, f2, f3, f4, f5, f6⟩ := UJ (UB X1)
   go_wp2_with fail
   refine (UB HB _ _ _ _ _ (UB J1)).mono ?_
   rintro e w2 ⟨rfl, b2⟩
   clear d0 d1 d2 d3 d4 d5 d6 f0 f1 f2 f3 f4 f5 f6
   have bb2 := UG bb1 b2
   have K2 := UC (UE b2 (UB K1))
   have X2 := UC (UE b2 (UB X1))
   have H2 := UC ((UB H1).below b2)
   have J2 := UC ((UB J1).below b2)
   clear K1 X1 H1 J1 b2
   obtain ⟨d0, d1, d2, d3, d4, d5, d6⟩ := UJ (UB K2)
   obtain ⟨f0, f1, f2, f3, f4, f5, f6⟩ := UJ (UB X2)
   go_wp2_with fail
   refine (UB HC _ _ _ _ _ _ _ _ _ (UB H2) (UB J2) (UB HTA) (UB HTB)).mono ?_
   rintro e w3 ⟨rfl, b3⟩
   go_wp2_with fail
   go_ret
   exact ⟨rfl, UG bb2 b3⟩
def Placed (rs : List Rec) (r : Rec) (x : Int) : Prop := x ≤ 9223372036854775807 ∧ (0 ≤ x ↔ ∃ j, j < rs.length ∧ rrSame (rs.getD j recZ) r = true)
set_option maxHeartbeats 4000000 in
set_option maxRecDepth 100000 in
theorem place_has {v vn vt vx vi : Value} {rs : List Rec} {r : Rec} {w : World} (h : HasRs w v rs) (hr : HasR w vn vt vx vi r) :
  Calls Tryz.prog 16 #[v, .agg #[vn, .int .i64 r.type, .int .i64 r.ttl, .int .i64 r.addr, vt, vx, vi]] w fun e w' => ∃ x : Int, e = .returned (.int .i64 x) ∧ Placed rs r x ∧ Below w.heap.size w w' := by
 obtain ⟨ra, rc, rfl, hl⟩ := h.form
 obtain ⟨xn, cxn, rfl, _⟩ := hr.name.form
 obtain ⟨xt, cxt, rfl, _⟩ := hr.to.form
 obtain ⟨xx, cxx, rfl, _⟩ := hr.text.form
 obtain ⟨xi, cxi, rfl, _⟩ := hr.nums.form
 have b0 := UI (w := w) (.cells #[.slice xn r.name.length cxn, .int .i64 r.type, .int .i64 r.ttl, .int .i64 r.addr, .slice xt r.to.length cxt, .slice xx r.text.length cxx, .slice xi r.nums.length cxi] 39)
 have K := UC (heap_alloc_new w (.cells #[.slice xn r.name.length cxn, .int .i64 r.type, .int .i64 r.ttl, .int .i64 r.addr, .slice xt r.to.length cxt, .slice xx r.text.length cxx, .slice xi r.nums.length cxi] 39))
 have H := UC (hr.below b0)
 have HE := UC (h.below b0)
 have hlm : rs.length ≤ 9223372036854775807 := by have := hl.1; have h2 := hl.2; unfold maxLen at h2; omega
 clear h hr hl
 go_enter Tryz.func16, Tryz.ntmps16
 go_wp2_with fail
 generalize w.alloc (.cells #[.slice xn r.name.length cxn, .int .i64 r.type, .int .i64 r.ttl, .int .i64 r.addr, .slice xt r.to.length cxt, .slice xx r.text.length cxx, .slice xi r.nums.length cxi] 39) = W at *
 go_loopw [5] (fun i wr => ∃ k : Nat, k ≤ rs.length ∧ i = .int .i64 k ∧ Hid (∀ j, j < k → rrSame (rs.getD j recZ) r = false) ∧ Below W.heap.size W wr) (fun i _ => rs.length - (intOf i).toNat)
 case atStart => exact ⟨0, by omega, rfl, UC (fun j hj => absurd hj (Nat.not_lt_zero _)), Below.refl _ _⟩
 case round =>
  obtain ⟨k, hk, rfl, HN, hb⟩ := hrel
  by_cases hlt : k < rs.length
  ·skip
   obtain ⟨b, off, yn, cyn, yt, cyt, yx, cyx, yi, cyi, rfl, hbl, hc, hu⟩ := (UB HE).here (k := k) hlt
   have hlt' : (k : Int) < rs.length := by omega
   generalize hq : rs.getD k recZ = q at *
   have bw := UG hb (UX (w := wr))
   have KX := UC (UE bw (UB K))
   have HU := UC (hu.below bw)
   have HX := UC ((UB H).below bw)
   have HQ := UC hq
   have HC := UC (VH (UW hc hbl bw))
   clear hc hu hq
   go_upto_region 4 with fail
   refine startC [0, 1, 2, 3, 4, 5] (by kernel_rfl) ⟨by kernel_rfl, by kernel_rfl, by kernel_rfl, by kernel_rfl⟩ 10 [(3, fun w' => (fun w' => w'.cell? ⟨b, off + k * 7, none⟩ = some (.slice yn q.name.length cyn) ∧ w'.cell? ⟨b, off + k * 7 + 1, none⟩ = some (.int .i64 q.type) ∧ w'.cell? ⟨b, off + k * 7 + 2, none⟩ = some (.int .i64 q.ttl) ∧ w'.cell? ⟨b, off + k * 7 + 3, none⟩ = some (.int .i64 q.addr) ∧ w'.cell? ⟨b, off + k * 7 + 4, none⟩ = some (.slice yt q.to.length cyt) ∧ w'.cell? ⟨b, off + k * 7 + 5, none⟩ = some (.slice yx q.text.length cyx) ∧ w'.cell? ⟨b, off + k * 7 + 6, none⟩ = some (.slice yi q.nums.length cyi)) w'), (4, fun w' => (fun w' => w'.cell? ⟨w.heap.size, 0, none⟩ = some (.slice xn r.name.length cxn) ∧ w'.cell? ⟨w.heap.size, 1, none⟩ = some (.int .i64 r.type) ∧ w'.cell? ⟨w.heap.size, 2, none⟩ = some (.int .i64 r.ttl) ∧ w'.cell? ⟨w.heap.size, 3, none⟩ = some (.int .i64 r.addr) ∧ w'.cell? ⟨w.heap.size, 4, none⟩ = some (.slice xt r.to.length cxt) ∧ w'.cell? ⟨w.heap.size, 5, none⟩ = some (.slice xx r.text.length cxx) ∧ w'.cell? ⟨w.heap.size, 6, none⟩ = some (.slice xi r.nums.length cxi)) w')] (fun hA => ?_)
   replace hA := UC hA
   go_simp
   generalize hWD : wr.drew = WD at *
   clear hWD
   repeat ((first | (refine VN ?_ (UB hA) rfl rfl rfl (by rfl) (fun _ _ _ h => h) ?_ ?_; rotate_left; · (intro w; go_simp <;> with_reducible rfl)) | refine VM (UB hA) rfl rfl (by rfl) (fun _ _ _ h => h) ?_); go_simp)
   refine takeC ?_ (UB hA) rfl rfl rfl (by rfl) (fun _ _ _ h => h) (.head _) (UB HC) ?_ ?_; rotate_left; (· (intro w hSw; (try dsimp only at hSw); go_simp <;> with_reducible rfl)); go_simp
   repeat ((first | (refine VN ?_ (UB hA) rfl rfl rfl (by rfl) (fun _ _ _ h => h) ?_ ?_; rotate_left; · (intro w; go_simp <;> with_reducible rfl)) | refine VM (UB hA) rfl rfl (by rfl) (fun _ _ _ h => h) ?_); go_simp)
   refine takeC ?_ (UB hA) rfl rfl rfl (by rfl) (fun _ _ _ h => h) (.tail _ (.head _)) (UJ (UB KX)) ?_ ?_; rotate_left; (· (intro w hSw; (try dsimp only at hSw); go_simp <;> with_reducible rfl)); go_simp
   repeat ((first | (refine VN ?_ (UB hA) rfl rfl rfl (by rfl) (fun _ _ _ h => h) ?_ ?_; rotate_left; · (intro w; go_simp <;> with_reducible rfl)) | refine VM (UB hA) rfl rfl (by rfl) (fun _ _ _ h => h) ?_); go_simp)
   refine runC (UB hA) rfl rfl (by kernel_rfl) (by kernel_rfl) (fun K hK => ?_)
   have HK := UC hK
   clear hK
   go_simp
   refine (specRrSame_has (UB HU) (UB HX)).mono ?_
   rintro e w2 ⟨rfl, b2⟩
   have bb := UG bw b2
   refine (UB HK).out _ _ (VB (by kernel_rfl) (VB (by kernel_rfl) VL)) ?_
   clear HK K
   go_simp
   repeat ((first | (refine VN ?_ (UB hA) rfl rfl rfl (by rfl) (fun _ _ _ h => h) ?_ ?_; rotate_left; · (intro w; go_simp <;> with_reducible rfl)) | refine VM (UB hA) rfl rfl (by rfl) (fun _ _ _ h => h) ?_); go_simp)
   refine doneC (UB hA) rfl ?_
   clear hA
   cases hs : rrSame q r
   ·go_wp2_with fail
    exact ⟨⟨k + 1, by omega, by go_num, fun j hj => by
     by_cases e : j = k
     ·subst e
      rw [UB HQ]; exact hs
     ·exact UB HN j (by omega), bb⟩, by simp [intOf]; omega⟩
   ·go_wp2_with fail
    go_ret
    exact ⟨(k : Int), rfl, ⟨by omega, fun _ => ⟨k, hlt, by rw [UB HQ]; exact hs⟩, fun _ => by omega⟩, UG b0 bb⟩
  ·obtain rfl : k = rs.length := by omega
   have hnn : ¬ ((rs.length : Int) < rs.length) := by omega
   go_wp2_with fail
   go_ret
   exact ⟨-1, rfl, ⟨by omega, fun q => absurd q (by omega), fun ⟨j, hj, q⟩ => by rw [UB HN j hj] at q; cases q⟩, UG b0 hb⟩
set_option maxHeartbeats 4000000 in
set_option maxRecDepth 100000 in
theorem sameRrs_self {v v' : Value} {rs : List Rec} {w : World} (h : HasRs w v rs) (h' : HasRs w v' rs) (hok : ∀ k, k < rs.length → rrOk (rs.getD k recZ) = true) :
  Calls Tryz.prog 17 #[v, v'] w fun e w' => e = .returned (.bool true) ∧ Below w.heap.size w w' := by
 obtain ⟨ra, rc, rfl, hl⟩ := h.form
 obtain ⟨sa, sc, rfl, _⟩ := h'.form
 have HE := UC h
 have HF := UC h'
 have HOK := UC hok
 have hlm : rs.length ≤ 9223372036854775807 := by have := hl.1; have h2 := hl.2; unfold maxLen at h2; omega
 clear h h' hl hok
 go_enter Tryz.func17, Tryz.ntmps17
 go_wp2_with fail
 go_loopw [5] (fun i wr => ∃ k : Nat, k ≤ rs.length ∧ i = .int .i64 k ∧ Below w.heap.size w wr) (fun i _ => rs.length - (intOf i).toNat)
 case atStart => exact ⟨0, by omega, rfl, Below.refl _ _⟩
 case round =>
  obtain ⟨k, hk, rfl, hb⟩ := hrel
  by_cases hlt : k < rs.length
  ·skip
   obtain ⟨b1, o1, yn, cyn, yt, cyt, yx, cyx, yi, cyi, rfl, hb1, hc, hu⟩ := (UB HE).here (k := k) hlt
   obtain ⟨b2, o2, zn, czn, zt, czt, zx, czx, zi, czi, rfl, hb2, hd, hv⟩ := (UB HF).here (k := k) hlt
   have hlt' : (k : Int) < rs.length := by omega
   have hok := UB HOK k hlt
   generalize hq : rs.getD k recZ = q at *
   have HS := UC (rrSame_self hok)
   have bw := UG hb (UX (w := wr))
   have HU := UC (hu.below bw)
   have HV := UC (hv.below bw)
   have HC := UC (VH (UW hc hb1 bw))
   have HD := UC (VH (UW hd hb2 bw))
   clear hc hu hd hv hq hok
   go_upto_region 6 with fail
   refine startC [0, 1, 2, 3, 4, 5, 6, 7, 8, 9, 10, 11, 12, 13, 14, 15, 16, 17, 18, 19, 20, 21, 22] (by kernel_rfl) ⟨by kernel_rfl, by kernel_rfl, by kernel_rfl, by kernel_rfl⟩ 12 [(3, fun w' => (fun w' => w'.cell? ⟨b1, o1 + k * 7, none⟩ = some (.slice yn q.name.length cyn) ∧ w'.cell? ⟨b1, o1 + k * 7 + 1, none⟩ = some (.int .i64 q.type) ∧ w'.cell? ⟨b1, o1 + k * 7 + 2, none⟩ = some (.int .i64 q.ttl) ∧ w'.cell? ⟨b1, o1 + k * 7 + 3, none⟩ = some (.int .i64 q.addr) ∧ w'.cell? ⟨b1, o1 + k * 7 + 4, none⟩ = some (.slice yt q.to.length cyt) ∧ w'.cell? ⟨b1, o1 + k * 7 + 5, none⟩ = some (.slice yx q.text.length cyx) ∧ w'.cell? ⟨b1, o1 + k * 7 + 6, none⟩ = some (.slice yi q.nums.length cyi)) w'), (7, fun w' => (fun w' => w'.cell? ⟨b2, o2 + k * 7, none⟩ = some (.slice zn q.name.length czn) ∧ w'.cell? ⟨b2, o2 + k * 7 + 1, none⟩ = some (.int .i64 q.type) ∧ w'.cell? ⟨b2, o2 + k * 7 + 2, none⟩ = some (.int .i64 q.ttl) ∧ w'.cell? ⟨b2, o2 + k * 7 + 3, none⟩ = some (.int .i64 q.addr) ∧ w'.cell? ⟨b2, o2 + k * 7 + 4, none⟩ = some (.slice zt q.to.length czt) ∧ w'.cell? ⟨b2, o2 + k * 7 + 5, none⟩ = some (.slice zx q.text.length czx) ∧ w'.cell? ⟨b2, o2 + k * 7 + 6, none⟩ = some (.slice zi q.nums.length czi)) w'), (15, fun w' => w'.cell? ⟨b1, o1 + k * 7 + 2, none⟩ = some (.int .i64 q.ttl)), (20, fun w' => w'.cell? ⟨b2, o2 + k * 7 + 2, none⟩ = some (.int .i64 q.ttl))] (fun hA => ?_)
   replace hA := UC hA
   go_simp
   generalize hWD : wr.drew = WD at *
   clear hWD
   repeat ((first | (refine VN ?_ (UB hA) rfl rfl rfl (by rfl) (fun _ _ _ h => h) ?_ ?_; rotate_left; · (intro w; go_simp <;> with_reducible rfl)) | refine VM (UB hA) rfl rfl (by rfl) (fun _ _ _ h => h) ?_); go_simp)
   refine takeC ?_ (UB hA) rfl rfl rfl (by rfl) (fun _ _ _ h => h) (.head _) (UB HC) ?_ ?_; rotate_left; (· (intro w hSw; (try dsimp only at hSw); go_simp <;> with_reducible rfl)); go_simp
   repeat ((first | (refine VN ?_ (UB hA) rfl rfl rfl (by rfl) (fun _ _ _ h => h) ?_ ?_; rotate_left; · (intro w; go_simp <;> with_reducible rfl)) | refine VM (UB hA) rfl rfl (by rfl) (fun _ _ _ h => h) ?_); go_simp)
   refine takeC ?_ (UB hA) rfl rfl rfl (by rfl) (fun _ _ _ h => h) (.tail _ (.head _)) (UB HD) ?_ ?_; rotate_left; (· (intro w hSw; (try dsimp only at hSw); go_simp <;> with_reducible rfl)); go_simp
   repeat ((first | (refine VN ?_ (UB hA) rfl rfl rfl (by rfl) (fun _ _ _ h => h) ?_ ?_; rotate_left; · (intro w; go_simp <;> with_reducible rfl)) | refine VM (UB hA) rfl rfl (by rfl) (fun _ _ _ h => h) ?_); go_simp)
   refine runC (UB hA) rfl rfl (by kernel_rfl) (by kernel_rfl) (fun K hK => ?_)
   have HK := UC hK
   clear hK
   go_simp
   refine (specRrSame_has (UB HU) (UB HV)).mono ?_
   rw [UB HS]
   rintro e w3 ⟨rfl, b3⟩
   have bb := UG bw b3
   refine (UB HK).out _ _ (VB (by kernel_rfl) (VB (by kernel_rfl) (keepC_yes ((b3.cell (p := ⟨b1, o1 + k * 7 + 2, none⟩) (Nat.lt_of_lt_of_le hb1 bw.size)).trans (UB HC).2.2.1) (keepC_yes ((b3.cell (p := ⟨b2, o2 + k * 7 + 2, none⟩) (Nat.lt_of_lt_of_le hb2 bw.size)).trans (UB HD).2.2.1) VL)))) ?_
   clear HK K
   go_simp
   repeat ((first | (refine VN ?_ (UB hA) rfl rfl rfl (by rfl) (fun _ _ _ h => h) ?_ ?_; rotate_left; · (intro w; go_simp <;> with_reducible rfl)) | refine VM (UB hA) rfl rfl (by rfl) (fun _ _ _ h => h) ?_); go_simp)
   refine takeC ?_ (UB hA) rfl rfl rfl (by rfl) (fun _ _ _ h => h) (.tail _ (.tail _ (.head _))) ((b3.cell (p := ⟨b1, o1 + k * 7 + 2, none⟩) (Nat.lt_of_lt_of_le hb1 bw.size)).trans (UB HC).2.2.1) ?_ ?_; rotate_left; (· (intro w hSw; (try dsimp only at hSw); go_simp <;> with_reducible rfl)); go_simp
   repeat ((first | (refine VN ?_ (UB hA) rfl rfl rfl (by rfl) (fun _ _ _ h => h) ?_ ?_; rotate_left; · (intro w; go_simp <;> with_reducible rfl)) | refine VM (UB hA) rfl rfl (by rfl) (fun _ _ _ h => h) ?_); go_simp)
   refine takeC ?_ (UB hA) rfl rfl rfl (by rfl) (fun _ _ _ h => h) (.tail _ (.tail _ (.tail _ (.head _)))) ((b3.cell (p := ⟨b2, o2 + k * 7 + 2, none⟩) (Nat.lt_of_lt_of_le hb2 bw.size)).trans (UB HD).2.2.1) ?_ ?_; rotate_left; (· (intro w hSw; (try dsimp only at hSw); go_simp <;> with_reducible rfl)); go_simp
   repeat ((first | (refine VN ?_ (UB hA) rfl rfl rfl (by rfl) (fun _ _ _ h => h) ?_ ?_; rotate_left; · (intro w; go_simp <;> with_reducible rfl)) | refine VM (UB hA) rfl rfl (by rfl) (fun _ _ _ h => h) ?_); go_simp)
   refine doneC (UB hA) rfl ?_
   clear hA
   go_wp2_with fail
   exact ⟨⟨k + 1, by omega, by go_num, bb⟩, by simp [intOf]; omega⟩
  ·obtain rfl : k = rs.length := by omega
   have hnn : ¬ ((rs.length : Int) < rs.length) := by omega
   go_wp2_with fail
   go_ret
   exact ⟨rfl, hb⟩
set_option maxHeartbeats 400000 in
set_option maxRecDepth 100000 in
theorem copyBytes_reads {v : Value} {l : List Int} {w : World} (h : Reads w v l) (hl : l.length ≤ 2097152) :
  Calls Tryz.prog 91 #[v] w fun e w' => ∃ v', e = .returned v' ∧ Own w.heap.size 5 w' v' l ∧ Below w.heap.size w w' := by
 go_enter Tryz.func91, Tryz.ntmps91
 go_wp2_with (at_builtin; refine append_bytes rfl _ _ 22 5 rfl Tryz.underlying22 VJ w.heap.size (.slice none 0 0) v [] l rfl rfl (World.ownsRow_nil _ _ _ _) h ?c1 (Nat.le_refl _) ?_)
 case c1 => simp; omega
 intro v' w1 hown hgrow
 go_wp2
 go_ret
 exact ⟨v', rfl, hown, below_of_grown hgrow⟩

theorem copyBytes_own {B : Nat} {v : Value} {l : List Int} {w : World} (h : Own B 5 w v l) (hl : l.length ≤ 2097152) :
  Calls Tryz.prog 91 #[v] w fun e w' => ∃ v', e = .returned v' ∧ Own w.heap.size 5 w' v' l ∧ Below w.heap.size w w' := copyBytes_reads h.reads hl
theorem info_sl : (Tryz.prog.info? 22).map (fun i => (i.zero, i.size, i.bytes)) = some (some (.slice none 0 0), 1, 24) := by kernel_rfl

set_option maxHeartbeats 2000000 in
set_option maxRecDepth 100000 in
theorem copyName_has {v : Value} {n : List (List Int)} {w : World} (h : HasL w v n) (hs : n.length ≤ 6) (hs2 : ∀ k, k < n.length → (n.getD k []).length ≤ 15) :
  Calls Tryz.prog 61 #[.agg #[v]] w fun e w' => ∃ v', e = .returned (.agg #[v']) ∧ OwnL w.heap.size 22 5 w' v' n ∧ Below w.heap.size w w' := by
 obtain ⟨a, cap, rfl, hcl, hcm⟩ := h.form
 unfold maxLen at hcm
 obtain ⟨hsz, h1, h2⟩ := box3 w (.cells #[.slice a n.length cap] 25) #[.slice none 0 0] #[.slice none 0 0] 25 25
 have bb : Below w.heap.size w (((w.alloc (.cells #[.slice a n.length cap] 25)).alloc (.cells #[.slice none 0 0] 25)).alloc (.cells #[.slice none 0 0] 25)) :=
  ((UI _).alloc (UI _).size _).alloc ((UI _).alloc (UI _).size _).size _
 have H := UC h
 clear h
 have HS2 := UC hs2
 clear hs2
 generalize hn : n.length = m at *
 have HN := UC hn
 clear hn
 go_enter Tryz.func61, Tryz.ntmps61
 go_wp2
 generalize ((w.alloc (.cells #[.slice a m cap] 25)).alloc (.cells #[.slice none 0 0] 25)).alloc (.cells #[.slice none 0 0] 25) = W at *
 go_loopw [9] (fun i wr => ∃ (k : Nat) (o : Value), k ≤ m ∧ i = .int .i64 k ∧ wr.heap[w.heap.size + 1]? = some (.cells #[.slice none 0 0] 25) ∧ wr.heap[w.heap.size + 1 + 1]? = some (.cells #[o] 25) ∧ OwnL (w.heap.size + 3) 22 5 wr o (n.take k) ∧ Below w.heap.size w wr) (fun i _ => m - (intOf i).toNat)
 case atStart => exact ⟨0, .slice none 0 0, Nat.zero_le _, rfl, h1, h2, ⟨[], by simpa using World.ownsRow_nil _ _ _ _, by simp, by simp⟩, bb⟩
 case round =>
  obtain ⟨k, o, hk, rfl, hr1, hr2, ho, hb⟩ := hrel
  by_cases hlt : k < m
  ·obtain ⟨b, off, u, rfl, hbl, hc, hu⟩ := ((UB H).below hb).here (k := k) (by rw [UB HN]; exact hlt)
   have hlk := UB HS2 k hlt
   have htk := UC (show n.take (k + 1) = n.take k ++ [n.getD k []] by rw [List.take_succ_eq_append_getElem (by rw [UB HN]; exact hlt)]; simp [show k < n.length by rw [UB HN]; exact hlt])
   have htl : (n.take k).length = k := by rw [List.length_take, UB HN]; omega
   generalize n.getD k [] = lab at *
   generalize n.take k = nk at *
   subst htl
   have HU := UC hu
   obtain ⟨ua, uc, rfl, _⟩ := hu.form
   clear hu
   obtain ⟨oa, oc, rfl, _⟩ := ho.hasL.form
   have hod := ho.below (UX (w := wr))
   clear ho
   have HO := UC hod
   obtain ⟨vs, hvs, hva, hvd⟩ := hod
   have hvl : vs.length = nk.length := by have := hvs.1; simpa using this
   have kd2 := UE (UX (w := wr)) hr2
   have kd1 := UE (UX (w := wr)) hr1
   have bd := UG hb (UX (w := wr))
   have cod := US kd2
   have HUd := UC ((UB HU).below UX)
   have HVS := UC hvs
   have HVA := UC hva
   have HVD := UC hvd
   have z3 := VC hr2
   have zb : w.heap.size + 3 ≤ wr.drew.heap.size := by show w.heap.size + 3 ≤ wr.heap.size; omega
   clear hva hvd hvs
   have KD2 := UC kd2
   have KD1 := UC kd1
   clear kd2 kd1
   go_wp2_with fail
   go_region_law (first
    | (refine step_append_row rfl (.tmp 14) (.tmp 17) 23 22 rfl Tryz.underlying23 info_sl (w.heap.size + 3) (.slice oa nk.length oc) _ vs [.slice u1a lab.length u1c] (by simp [Act.eval]) (by simp [Act.eval]) (by rw [hvl]; exact World.ownsRow.alloc (ownsRow_kept' (UB HVS) (UB B1)) _) (one_more w1 22 _) (by intro y hy; simp at hy; subst hy; rfl) (by rw [hvl]; simp; omega) (by have := (UB B1).size; simp; omega) ?_; intro v2 w2 o2 g2; obtain ⟨p2, k2, y2⟩ := snoc_step g2 o2 rfl (UB HVS) (UB HVA) (UB HVD) ((UB B1).alloc (UB B1).size _) ((UB OU).alloc _) zb (by decide) (UE (UI _) (UE (UB B1) (UB KD2))) (by decide); obtain ⟨v2a, v2c, rfl, _⟩ := p2.hasL.form; have co2 := US k2; have fo2 := VG k2 0)
    | (go_simp; go_at_call 91; refine (copyBytes_reads (UB HUd).reads (by omega)).mono ?_; rintro e w1 ⟨u1, rfl, ou, b1⟩; obtain ⟨u1a, u1c, rfl, _⟩ := ou.lies; have OU := UC ou; have B1 := UC b1; have co1 := US (UE b1 (UB KD2)); have ca1 : ∀ o, (w1.alloc o).cell? ⟨w.heap.size + 1 + 1, 0, none⟩ = some (.slice oa nk.length oc) := (fun o => US (UE (UI o) (UE b1 (UB KD2)))); clear ou b1))
   all_goals
    go_wp2_with fail
    have k1 := (y2.block (w.heap.size + 1) (by omega)).trans (UB KD1)
    refine ⟨⟨nk.length + 1, _, by omega, by go_num, block_other k1 (by omega) 0 _, block_set k2 _, ?_, (bd.trans (y2.mono (by omega))).setCell (by show w.heap.size ≤ w.heap.size + 1 + 1; omega) _⟩, by simp [intOf]; omega⟩
    rw [UB htk]
    simp only [List.length_append, List.length_cons, List.length_nil] at p2
    exact p2.kept (grown_setCell _ _ _) (by show w.heap.size + 1 + 1 < _; omega)
  ·obtain rfl : k = m := by omega
   obtain ⟨oa, oc, rfl, _⟩ := ho.hasL.form
   have htk : n.take k = n := List.take_of_length_le (by rw [UB HN]; omega)
   rw [htk] at ho
   have HLK := UC (show (n.take k).length = n.length by rw [htk])
   rw [UB HLK] at hr2
   have HO := UC ho
   have c2 := US hr2
   have c1 := US hr1
   have f1 := VG hr1 0
   have M1 := UC (block_set hr1 (.slice oa n.length oc))
   clear ho htk hr1 hr2 HLK
   go_wp2
   refine bodyPost_ret (results_cell_row rfl _ _ (w.heap.size + 1) 25 #[.slice oa n.length oc] (0, 0) _ rfl (UB M1) Tryz.underlying25 rfl (by kernel_rfl)) rfl ?_
   exact ⟨_, rfl, ((UB HO).kept (grown_setCell _ _ _) (by show w.heap.size + 1 < _; omega)).mono (by omega), hb.setCell (by show w.heap.size ≤ w.heap.size + 1; omega) _⟩
end Go.Proofs.YthobpbnaklnbiaaGreat
