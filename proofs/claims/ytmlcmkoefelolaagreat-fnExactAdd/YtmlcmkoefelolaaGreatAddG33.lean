/-
  Contract of the program's copyZone: a zone of its own with the same name and records. Plain facts: three results of a function. No program is named here. Contract of the program's Drop. Contract of the program's Add.
-/
import Derived.Test.YtmlcmkoefelolaaGreatAddG24
import Derived.Test.YtmlcmkoefelolaaGreatAddG05
import Derived.Deep.RegionHeld3
import Derived.Test.YtmlcmkoefelolaaGreatAddG23
import Derived.Test.YtmlcmkoefelolaaGreatAddG00
import Derived.Test.YtmlcmkoefelolaaGreatAddG32
import Derived.Test.YtmlcmkoefelolaaGreatAddG31
import Derived.Test.YtmlcmkoefelolaaGreatAddG22
import Derived.Test.YtmlcmkoefelolaaGreatAddG29
namespace Go.Proofs.YtmlcmkoefelolaaGreat
open Go.RowKit Go.Shelf
set_option linter.unusedVariables false

set_option maxHeartbeats 400000 in
set_option maxRecDepth 100000 in
theorem values_any (a : Option Addr) (len cap : Nat) (w : World) : Calls Tryz.prog 109 #[.slice a len cap] w fun e w' => e = .returned (.func (.func 140) #[] #[.pointer (some ⟨w.heap.size, 0, none⟩)]) ∧ w' = w.alloc (.cells #[.slice a len cap] 30) := by
 go_enter Tryz.func109, Tryz.ntmps109
 go_wp2
 go_ret
 exact ⟨rfl, rfl⟩
theorem values_stops (Bt : Nat) (w0 w : World) (a : Option Addr) (cap : Nat) (rs : List Rec) (hT : HasRs w0 (.slice a rs.length cap) rs) (hsh : ∀ i, i < rs.length → ShortR (rs.getD i recZ)) (hl : rs.length ≤ 1048576) (hb : Below w0.heap.size w0 w) (hBt : w.cell? ⟨Bt, 0, none⟩ = some (.slice a rs.length cap)) :
  SeqStopsK Fence.wide 4 Tryz.prog 140 #[.pointer (some ⟨Bt, 0, none⟩)] (fun x : RecV w0 => encV x) (Below w0.heap.size) (fun xs => xs.map (·.1.2) = rs) (fun _ => True) rs.length w :=
 fun l J Jx W hW hJ hJx hY h0 => values1_in 4 (by omega) l Bt _ w0 a cap rs rfl hT hsh hl J Jx W (hb.trans (hW.mono hb.size)) hJ hY ((hW.cell (p := ⟨Bt, 0, none⟩) (World.block_lt_of_cell? w ⟨Bt, 0, none⟩ hBt)).trans hBt) h0

set_option maxHeartbeats 4000000 in
set_option maxRecDepth 100000 in
theorem copyZone_own {vo vr : Value} {o : List (List Int)} {rs : List Rec} {w : World} (h : HasZ w vo vr o rs) (ho1 : o.length ≤ 6) (ho2 : ∀ k, k < o.length → (o.getD k []).length ≤ 15) (hsh : ∀ i, i < rs.length → ShortR (rs.getD i recZ)) (hlen : rs.length ≤ 1000) :
  Calls Tryz.prog 71 #[.agg #[vo, vr]] w fun e w' => ∃ uo ur, e = .returned (.agg #[uo, ur]) ∧ OwnZ w.heap.size w'.heap.size w' uo ur o rs ∧ Below w.heap.size w w' := by
 obtain ⟨oa, oc, rfl, _⟩ := h.name.form
 obtain ⟨ra, rc, rfl, _⟩ := h.recs.form
 obtain ⟨hsz, k0, r0⟩ := box2 w (.cells #[.slice oa o.length oc, .slice ra rs.length rc] 34) #[.slice none 0 0, .slice none 0 0] 34
 have b0 := below2 w (.cells #[.slice oa o.length oc, .slice ra rs.length rc] 34) (.cells #[.slice none 0 0, .slice none 0 0] 34)
 have HH := hide h
 have HS := hide hsh
 have HO := hide ho2
 have KB := hide k0
 have KR := hide r0
 have zz := block_lt r0
 clear hsz k0 r0 h hsh ho2
 go_enter Tryz.func71, Tryz.ntmps71
 go_wp2_with fail
 generalize (w.alloc (.cells #[.slice oa o.length oc, .slice ra rs.length rc] 34)).alloc (.cells #[.slice none 0 0, .slice none 0 0] 34) = W at *
 have bd := below_drew (w := W)
 have bb := below_next b0 bd
 replace KB := hide (block_kept bd (unhide KB))
 replace KR := hide (block_kept bd (unhide KR))
 have z0 := bd.size
 clear bd b0
 refine wp_region_held_drew (S := (fun w' => w'.cell? ⟨w.heap.size, 0, none⟩ = some (.slice oa o.length oc) ∧ w'.cell? ⟨w.heap.size, 1, none⟩ = some (.slice ra rs.length rc))) (by kernel_rfl) (cells2 (unhide KB)) (fun hHeld => ?_)
 show wpAnyH _ _ _ _ _ 7 #[false, false, false, false, false, false, false] _ _
 generalize W.drew = W0 at *
 refine tkF (.pointer (some ⟨w.heap.size, 0, none⟩)) rfl (by kernel_rfl) (by kernel_rfl) (fun _ _ _ h => h) ?_ hHeld ?_; (· (intro w hSw; (try dsimp only at hSw); go_simp)); simp only [Act.put, setF, List.setIfInBounds_toArray, List.set_cons_zero, List.set_cons_succ]
 refine tkF (.agg #[.slice oa o.length oc]) rfl (by kernel_rfl) (by kernel_rfl) (fun _ _ _ h => h) ?_ hHeld ?_; (· (intro w hSw; (try dsimp only at hSw); go_simp)); simp only [Act.put, setF, List.setIfInBounds_toArray, List.set_cons_zero, List.set_cons_succ]
 refine tkF (.pointer (some ⟨w.heap.size, 1, none⟩)) rfl (by kernel_rfl) (by kernel_rfl) (fun _ _ _ h => h) ?_ hHeld ?_; (· (intro w hSw; (try dsimp only at hSw); go_simp)); simp only [Act.put, setF, List.setIfInBounds_toArray, List.set_cons_zero, List.set_cons_succ]
 refine tkF (.slice ra rs.length rc) rfl (by kernel_rfl) (by kernel_rfl) (fun _ _ _ h => h) ?_ hHeld ?_; (· (intro w hSw; (try dsimp only at hSw); go_simp)); simp only [Act.put, setF, List.setIfInBounds_toArray, List.set_cons_zero, List.set_cons_succ]
 refine wpAnyH_ready (rs := [4]) (by kernel_rfl) (by simp) (AllReadyH.cons (ops_drop rfl) (fun K hK => ?_) AllReadyH.nil)
 have HK := hide hK
 clear hK hHeld
 go_simp
 refine (values_any ra rs.length rc _).mono ?_
 rintro e w1 ⟨rfl, hw1⟩
 have b1 : Below W0.heap.size W0 w1 := by rw [hw1]; exact below_alloc _
 have k1 : w1.heap[W0.heap.size]? = some (.cells #[.slice ra rs.length rc] 30) := by rw [hw1]; exact heap_alloc_new _ _
 replace KB := hide (block_kept b1 (unhide KB))
 replace KR := hide (block_kept b1 (unhide KR))
 replace bb := below_next bb b1
 have z1 := b1.size
 have K1 := hide k1
 clear hw1 b1 k1
 go_simp
 refine (unhide HK).out _ _ (cells2 (unhide KB)) (fun hHeld => ?_)
 clear HK K
 try simp only [List.setIfInBounds_toArray, List.set_cons_zero, List.set_cons_succ]
 have HZ := hide ((callsIn_wide (n := 5)).1 (zoneOf_in bb ((unhide HH).name.below bb) ho1 (unhide HO) hlen (enters_of Tryz.func140 (by kernel_rfl) rfl) (values_stops W0.heap.size w w1 ra rc rs (unhide HH).recs (unhide HS) (by omega) bb (block_one (unhide K1)))))
 refine wpAnyH_ready (rs := [5]) (by kernel_rfl) (by simp) (AllReadyH.cons (ops_drop rfl) (fun K hK => ?_) AllReadyH.nil)
 have HK := hide hK
 clear hK hHeld
 go_simp
 refine (unhide HZ).mono ?_
 rintro e w2 ⟨uo, ur, rfl, ⟨s, s1, s2, oN, oR⟩, b2⟩
 obtain ⟨pa, pc, rfl, _⟩ := oN.hasL.form
 obtain ⟨qa, qc, rfl, _⟩ := oR.form
 replace KB := hide (block_kept b2 (unhide KB))
 replace KR := hide (block_kept b2 (unhide KR))
 replace bb := below_next bb b2
 have z2 := b2.size
 have ON := hide oN
 have OR := hide oR
 clear b2 oN oR HZ
 go_simp
 refine (unhide HK).out _ _ (cells2 (unhide KB)) (fun hHeld => ?_)
 clear HK K
 try simp only [List.setIfInBounds_toArray, List.set_cons_zero, List.set_cons_succ]
 have u5 := (outside_set w2 (w.heap.size + 1) 0 (.slice pa o.length pc)).trans (outside_set _ (w.heap.size + 1) 1 (.slice qa rs.length qc))
 have KF : Hid (((w2.setCell ⟨w.heap.size + 1, 0, none⟩ (.slice pa o.length pc)).setCell ⟨w.heap.size + 1, 1, none⟩ (.slice qa rs.length qc)).heap[w.heap.size + 1]? = some (.cells #[.slice pa o.length pc, .slice qa rs.length qc] 34)) := block_setAt (block_setAt (unhide KR) 0 _) 1 _
 have KB5 := hide (u5.kept (unhide KB) (by omega))
 have ON5 := hide ((unhide ON).outside u5 (.inr (by omega)))
 have OR5 := hide ((unhide OR).outside u5 (.inr (by omega)))
 have bb5 := u5.below bb (by omega)
 have z5 := u5.size
 obtain ⟨d0, d1⟩ := cells2 (unhide KR)
 obtain ⟨f0, f1⟩ := frozen2 (unhide KR)
 clear u5
 refine wpAnyH_ready (rs := [6]) (by kernel_rfl) (by simp) (AllReadyH.cons (ops_drop rfl) (fun K hK => ?_) AllReadyH.nil)
 have HK := hide hK
 clear hK hHeld
 go_simp
 refine (unhide HK).out _ _ (cells2 (unhide KB5)) (fun hHeld => ?_)
 clear HK K d0 d1 f0 f1 hHeld
 refine wpAnyH_done (by kernel_rfl) ?_ _
 go_wp2_with fail
 refine bodyPost_ret (results_cell_row rfl _ _ (w.heap.size + 1) 34 #[.slice pa o.length pc, .slice qa rs.length qc] (0, 0) _ rfl (unhide KF) Tryz.underlying34 rfl (by kernel_rfl)) rfl ?_
 exact ⟨_, _, rfl, ⟨s, by omega, by omega, (unhide ON5).wide (by omega) (Nat.le_refl _), (unhide OR5).wide (Nat.le_refl _) (by omega)⟩, bb5⟩
end Go.Proofs.YtmlcmkoefelolaaGreat

namespace Go.Proofs.YtmlcmkoefelolaaGreat
open Go.RowKit

end Go.Proofs.YtmlcmkoefelolaaGreat

namespace Go.Proofs.YtmlcmkoefelolaaGreat
open Go.RowKit Go.Shelf
set_option linter.unusedVariables false

theorem ownN_nilD (B E : Nat) (el eb : TypeId) (w : World) : OwnN B E el eb w (.slice none 0 0) [] := ⟨[], World.ownsRow_nil _ _ _ _, (fun i hi => absurd hi (by simp)), by simp, (fun q hq => by cases hq), by simp⟩
theorem keep_two {w : World} {g Z : Nat} {ob : Obj} {u v : Value} (h : w.heap[g]? = some ob) (hne : g ≠ Z) : ((w.setCell ⟨Z, 0, none⟩ u).setCell ⟨Z, 1, none⟩ v).heap[g]? = some ob :=
 block_grown (grown_setCell _ ⟨Z, 1, none⟩ v) (block_grown (grown_setCell w ⟨Z, 0, none⟩ u) h (fun e => hne (by simpa using e.symm))) (fun e => hne (by simpa using e.symm))
theorem bookIn_Z (rs : List Rec) : bookIn rs = bookZ rs := rfl
/-- A book as zoneOf takes it: what it says of sizes. -/
theorem book_fits {B : Bk} (hg : GoodB B) {m : Nat} (hm : SizeB m B) (h : m ≤ 1000) : B.length ≤ 1000 ∧ ∀ q ∈ B, ShortP q.2 := ⟨Nat.le_trans hm.1 h, fun q hq => ⟨Nat.le_trans (hm.2 q hq) h, good_short hg q hq⟩⟩

end Go.Proofs.YtmlcmkoefelolaaGreat

namespace Go.Proofs.YtmlcmkoefelolaaGreat
open Go.RowKit Go.Shelf
set_option linter.unusedVariables false

theorem HasRs.keptX {w w' : World} {v : Value} {rs : List Rec} (h : HasRs w v rs) (hk : KeptX w w') : HasRs w' v rs := by
 rcases h with h | ⟨g, off, cap, hv, hlt, hl, hm, hc⟩
 ·exact .inl h
 ·refine .inr ⟨g, off, cap, hv, Nat.lt_of_lt_of_le hlt hk.1, hl, hm, fun i hi => ?_⟩
  obtain ⟨vn, vt, vx, vi, h1, h2⟩ := hc i hi
  exact ⟨vn, vt, vx, vi, fun j u hj => hk.2 _ _ (h1 j u hj), h2.keptX hk⟩
set_option maxHeartbeats 4000000 in
set_option maxRecDepth 100000 in
theorem implAdd_own {vo vr vn vt vx vi : Value} {o : List (List Int)} {rs : List Rec} {r : Rec} {w : World} (h : HasZ w vo vr o rs) (hr : HasR w vn vt vx vi r) :
  Calls Tryz.prog 25 #[.agg #[vo, vr], .agg #[vn, .int .i64 r.type, .int .i64 r.ttl, .int .i64 r.addr, vt, vx, vi]] w fun e w' => ∃ uo ur, e = .returned (.tuple #[.agg #[uo, ur], .bool (addOf o rs r).2]) ∧ OwnZ w.heap.size w'.heap.size w' uo ur (addOf o rs r).1.1 (addOf o rs r).1.2 ∧ Below w.heap.size w w' := by
 obtain ⟨oa, oc, rfl, _⟩ := h.name.form
 obtain ⟨ra, rc, rfl, _⟩ := h.recs.form
 obtain ⟨na, nc, rfl, _⟩ := hr.name.form
 obtain ⟨ta, tc, rfl, _⟩ := hr.to.form
 obtain ⟨xa, xc, rfl, _⟩ := hr.text.form
 obtain ⟨ia, ic, rfl, _⟩ := hr.nums.form
 obtain ⟨hsz, k0, x0⟩ := box2 w (.cells #[.slice oa o.length oc, .slice ra rs.length rc] 34) #[.slice na r.name.length nc, .int .i64 r.type, .int .i64 r.ttl, .int .i64 r.addr, .slice ta r.to.length tc, .slice xa r.text.length xc, .slice ia r.nums.length ic] 52
 have b0 := below2 w (.cells #[.slice oa o.length oc, .slice ra rs.length rc] 34) (.cells #[.slice na r.name.length nc, .int .i64 r.type, .int .i64 r.ttl, .int .i64 r.addr, .slice ta r.to.length tc, .slice xa r.text.length xc, .slice ia r.nums.length ic] 52)
 have b1 := below_alloc (w := (w.alloc (.cells #[.slice oa o.length oc, .slice ra rs.length rc] 34)).alloc (.cells #[.slice na r.name.length nc, .int .i64 r.type, .int .i64 r.ttl, .int .i64 r.addr, .slice ta r.to.length tc, .slice xa r.text.length xc, .slice ia r.nums.length ic] 52)) (.cells #[.slice none 0 0, .slice none 0 0] 34)
 have r0 := heap_alloc_new ((w.alloc (.cells #[.slice oa o.length oc, .slice ra rs.length rc] 34)).alloc (.cells #[.slice na r.name.length nc, .int .i64 r.type, .int .i64 r.ttl, .int .i64 r.addr, .slice ta r.to.length tc, .slice xa r.text.length xc, .slice ia r.nums.length ic] 52)) (.cells #[.slice none 0 0, .slice none 0 0] 34)
 rw [hsz] at r0
 have bb := below_next b0 b1
 have KZ := hide (block_kept b1 k0)
 have KX := hide (block_kept b1 x0)
 have KR := hide r0
 have HH := hide (h.below bb)
 have HX := hide (hr.below bb)
 have HO := implZoneOk_has (h.below bb)
 obtain ⟨c0, c1⟩ := cells2 (unhide KZ)
 have zr := block_lt r0
 clear h hr k0 x0 r0 hsz b0 b1
 generalize hres : addOf o rs r = res
 unfold addOf at hres
 cases hz : zoneOk o rs with
 | false =>
  rw [if_neg (fun q => by rw [hz] at q; cases q.1)] at hres
  subst hres
  rw [hz] at HO
  replace HO := hide HO
  go_enter Tryz.func25, Tryz.ntmps25
  go_wp2_with fail
  generalize ((w.alloc (.cells #[.slice oa o.length oc, .slice ra rs.length rc] 34)).alloc (.cells #[.slice na r.name.length nc, .int .i64 r.type, .int .i64 r.ttl, .int .i64 r.addr, .slice ta r.to.length tc, .slice xa r.text.length xc, .slice ia r.nums.length ic] 52)).alloc (.cells #[.slice none 0 0, .slice none 0 0] 34) = W at *
  refine (unhide HO).mono ?_
  rintro e w1 ⟨rfl, b1⟩
  replace bb := below_next bb b1
  have z1 := b1.size
  obtain ⟨d0, d1⟩ := cells2 (block_kept b1 (unhide KR))
  obtain ⟨f0, f1⟩ := frozen2 (block_kept b1 (unhide KR))
  have R1 := hide (block_kept b1 (unhide KR))
  clear c0 c1 b1 HO
  go_wp2_with fail
  clear d0 d1 f0 f1
  have kf : ((w1.setCell ⟨w.heap.size + 2, 0, none⟩ (.slice none 0 0)).setCell ⟨w.heap.size + 2, 1, none⟩ (.slice none 0 0)).heap[w.heap.size + 2]? = some (.cells #[.slice none 0 0, .slice none 0 0] 34) := block_setAt (block_setAt (unhide R1) 0 _) 1 _
  have u5 := (outside_set w1 (w.heap.size + 2) 0 (.slice none 0 0)).trans (outside_set _ (w.heap.size + 2) 1 (.slice none 0 0))
  have z5 := u5.size
  have zb0 := bb.size
  refine bodyPost_ret (results_cell_tmp_row rfl _ _ (w.heap.size + 2) 34 #[.slice none 0 0, .slice none 0 0] (0, 0) _ rfl kf Tryz.underlying34 rfl (by kernel_rfl)) rfl ?_
  exact ⟨_, _, rfl, ⟨w.heap.size, Nat.le_refl _, Nat.le_trans zb0 z5, ownN_nilD _ _ _ _ _, RowO.nil _ _ _ _ _ _ _⟩, u5.below bb (by omega)⟩
 | true =>
  rw [hz] at HO
  replace HO := hide HO
  cases hrk : rrOk r with
  | false =>
   rw [if_neg (fun q => by rw [hrk] at q; cases q.2)] at hres
   subst hres
   go_enter Tryz.func25, Tryz.ntmps25
   go_wp2_with fail
   generalize ((w.alloc (.cells #[.slice oa o.length oc, .slice ra rs.length rc] 34)).alloc (.cells #[.slice na r.name.length nc, .int .i64 r.type, .int .i64 r.ttl, .int .i64 r.addr, .slice ta r.to.length tc, .slice xa r.text.length xc, .slice ia r.nums.length ic] 52)).alloc (.cells #[.slice none 0 0, .slice none 0 0] 34) = W at *
   refine (unhide HO).mono ?_
   rintro e w1 ⟨rfl, b1⟩
   have HM := implRrOk_has ((unhide HX).below b1)
   rw [hrk] at HM
   replace HM := hide HM
   obtain ⟨e0, e1, e2, e3, e4, e5, e6⟩ := cells7 (block_kept b1 (unhide KX))
   replace bb := below_next bb b1
   replace KR := hide (block_kept b1 (unhide KR))
   have z1 := b1.size
   clear c0 c1 b1 HO
   go_wp2_with fail
   refine (unhide HM).mono ?_
   rintro e w2 ⟨rfl, b2⟩
   replace bb := below_next bb b2
   have z2 := b2.size
   obtain ⟨d0, d1⟩ := cells2 (block_kept b2 (unhide KR))
   obtain ⟨f0, f1⟩ := frozen2 (block_kept b2 (unhide KR))
   have R1 := hide (block_kept b2 (unhide KR))
   clear e0 e1 e2 e3 e4 e5 e6 b2 HM
   go_wp2_with fail
   clear d0 d1 f0 f1
   have kf : ((w2.setCell ⟨w.heap.size + 2, 0, none⟩ (.slice none 0 0)).setCell ⟨w.heap.size + 2, 1, none⟩ (.slice none 0 0)).heap[w.heap.size + 2]? = some (.cells #[.slice none 0 0, .slice none 0 0] 34) := block_setAt (block_setAt (unhide R1) 0 _) 1 _
   have u5 := (outside_set w2 (w.heap.size + 2) 0 (.slice none 0 0)).trans (outside_set _ (w.heap.size + 2) 1 (.slice none 0 0))
   have z5 := u5.size
   have zb0 := bb.size
   refine bodyPost_ret (results_cell_tmp_row rfl _ _ (w.heap.size + 2) 34 #[.slice none 0 0, .slice none 0 0] (0, 0) _ rfl kf Tryz.underlying34 rfl (by kernel_rfl)) rfl ?_
   exact ⟨_, _, rfl, ⟨w.heap.size, Nat.le_refl _, Nat.le_trans zb0 z5, ownN_nilD _ _ _ _ _, RowO.nil _ _ _ _ _ _ _⟩, u5.below bb (by omega)⟩
  | true =>
   rw [if_pos ⟨hz, hrk⟩] at hres
   have HRES := hide hres
   clear hres
   have HOK := hide (zone_oks hz)
   have h60 := (zone_short hz).2.2
   have hoo := (of_decide_eq_true hz).1
   obtain ⟨hsort, hgd⟩ := added_sorted hz hrk
   have hgz := bookZ_good hz
   have hsz60 := book_60 hz
   have hal := addL_length (r := r) rs false
   have hfit := book_fits hgd (show SizeB 1000 (bkAdd r (bookZ rs)) from (putAll_size (L := (setA r (bookZ rs)).map (withTtl r)) (hsz60.put (strOfNums (keyN r.name)) (keyR r) r)).mono (by have : (setA r (bookZ rs)).length ≤ 61 := setB_length (hsz60.put (strOfNums (keyN r.name)) (keyR r) r); rw [List.length_map]; omega)) (Nat.le_refl _)
   have HADD := hide (fun (n0 b : Nat) (w : World) (vn vt vx vi : Value) (hB : BookM n0 w b (bookZ rs)) (h : HasR w vn vt vx vi r) (hz : n0 ≤ w.heap.size) => bookAdd_has hB hgz hsz60 h hrk hz)
   have ZK := hide (fun (w : World) (vo vr : Value) (h : HasZ w vo vr o (addL r rs false)) => implZoneOk_has h)
   generalize hD : addL r rs false = D at *
   generalize bkAdd r (bookZ rs) = B2 at *
   have HFIT := hide hfit
   have HSORT := hide hsort
   have HOO := hide hoo
   have HCZ := hide (fun (w : World) (vo vr : Value) (h : HasZ w vo vr o rs) => copyZone_own h (zone_short hz).1.1 (zone_short hz).1.2 (zone_short hz).2.1 (Nat.le_trans (zone_short hz).2.2 (by decide)))
   clear hD hgd hfit hsort hoo hgz hsz60
   go_enter Tryz.func25, Tryz.ntmps25
   go_wp2_with fail
   generalize ((w.alloc (.cells #[.slice oa o.length oc, .slice ra rs.length rc] 34)).alloc (.cells #[.slice na r.name.length nc, .int .i64 r.type, .int .i64 r.ttl, .int .i64 r.addr, .slice ta r.to.length tc, .slice xa r.text.length xc, .slice ia r.nums.length ic] 52)).alloc (.cells #[.slice none 0 0, .slice none 0 0] 34) = W at *
   refine (unhide HO).mono ?_
   rintro e w1 ⟨rfl, b1⟩
   have HM := implRrOk_has ((unhide HX).below b1)
   rw [hrk] at HM
   replace HM := hide HM
   obtain ⟨e0, e1, e2, e3, e4, e5, e6⟩ := cells7 (block_kept b1 (unhide KX))
   replace bb := below_next bb b1
   replace HH := hide ((unhide HH).below b1)
   replace HX := hide ((unhide HX).below b1)
   replace KZ := hide (block_kept b1 (unhide KZ))
   replace KX := hide (block_kept b1 (unhide KX))
   replace KR := hide (block_kept b1 (unhide KR))
   have z1 := b1.size
   clear c0 c1 b1 HO
   go_wp2_with fail
   refine (unhide HM).mono ?_
   rintro e w2 ⟨rfl, b2⟩
   replace bb := below_next bb b2
   replace HH := hide ((unhide HH).below b2)
   replace HX := hide ((unhide HX).below b2)
   replace KZ := hide (block_kept b2 (unhide KZ))
   replace KX := hide (block_kept b2 (unhide KX))
   replace KR := hide (block_kept b2 (unhide KR))
   have z2 := b2.size
   clear e0 e1 e2 e3 e4 e5 e6 b2 HM
   have BK := hide (bookOf_has (unhide HH) (unhide HOK) (by omega))
   obtain ⟨c0, c1⟩ := cells2 (unhide KZ)
   go_wp2_with fail
   refine (unhide BK).mono ?_
   rintro e w3 ⟨rfl, hB3, b3⟩
   rw [bookIn_Z] at hB3
   replace bb := below_next bb b3
   replace HH := hide ((unhide HH).below b3)
   replace HX := hide ((unhide HX).below b3)
   replace KZ := hide (block_kept b3 (unhide KZ))
   replace KX := hide (block_kept b3 (unhide KX))
   replace KR := hide (block_kept b3 (unhide KR))
   have z3 := b3.size
   clear c0 c1 b3 BK HOK
   have DR := hide (unhide HADD _ _ _ _ _ _ _ hB3 (unhide HX) z3)
   obtain ⟨e0, e1, e2, e3, e4, e5, e6⟩ := cells7 (unhide KX)
   clear hB3 HADD
   go_wp2_with fail
   refine (unhide DR).mono ?_
   rintro e w4 ⟨⟨v4, rfl⟩, hB4, ko4, b4⟩
   have zz2 := bb.size
   have bb4 : Below w.heap.size w w4 := bb.trans (b4.mono (by omega))
   have bd := below_drew (w := w4)
   have hz4 : HasZ w4 (.slice oa o.length oc) (.slice ra rs.length rc) o rs := ⟨(unhide HH).name.keptX ko4.x, (unhide HH).recs.keptX ko4.x⟩
   have HZ4 := hide hz4
   have HO4 := hide (hz4.name.below bd)
   have KZ4 := hide (block_kept bd (ko4.2 _ _ (unhide KZ) rfl))
   have KR4 := hide (block_kept bd (ko4.2 _ _ (unhide KR) rfl))
   have HB4 := hide (hB4.below bd)
   have BB4 := hide (below_next bb4 bd)
   have q4x := bd
   have z4 := (below_next bb4 bd).size
   have zr4 := block_lt (unhide KR4)
   have zr4' : w.heap.size + 2 < w4.heap.size := zr4
   clear e0 e1 e2 e3 e4 e5 e6 DR HX KX hB4 ko4 b4 bb bb4 bd HH KZ KR hz4
   go_wp2_with fail
   have ZO := hide (fun (Bt : Nat) (w' : World) (hb : Below w4.drew.heap.size w4.drew w') (hBt : w'.heap[Bt]? = some (.cells #[.map (some (w2.heap.size + 1))] 79)) => zoneOfB_at ((unhide HB4).below hb) hBt ((unhide HO4).below hb) (unhide HOO) (unhide HFIT).1 (unhide HFIT).2 (by rw [unhide HSORT]; omega))
   rw [unhide HSORT] at ZO
   have N1 : Hid (((w4.alloc (.cells #[.slice none 0 0, .slice none 0 0] 34)).alloc (.cells #[.map (some (w2.heap.size + 1))] 79)).drew.heap[w4.heap.size + 1]? = some (.cells #[.map (some (w2.heap.size + 1))] 79)) := hide (by
    have := heap_alloc_new (w4.alloc (.cells #[.slice none 0 0, .slice none 0 0] 34)) (.cells #[.map (some (w2.heap.size + 1))] 79)
    rw [World.size_alloc] at this
    exact this)
   have N2 : Hid (((w4.alloc (.cells #[.map (some (w2.heap.size + 1))] 79)).alloc (.cells #[.slice none 0 0, .slice none 0 0] 34)).drew.heap[w4.heap.size]? = some (.cells #[.map (some (w2.heap.size + 1))] 79)) := hide (show ((w4.alloc (.cells #[.map (some (w2.heap.size + 1))] 79)).alloc (.cells #[.slice none 0 0, .slice none 0 0] 34)).heap[w4.heap.size]? = some (.cells #[.map (some (w2.heap.size + 1))] 79) from block_kept (below_alloc (w := w4.alloc (.cells #[.map (some (w2.heap.size + 1))] 79)) (.cells #[.slice none 0 0, .slice none 0 0] 34)) (heap_alloc_new w4 (.cells #[.map (some (w2.heap.size + 1))] 79)))
   have N3 : Hid ((w4.alloc (.cells #[.map (some (w2.heap.size + 1))] 79)).drew.heap[w4.heap.size]? = some (.cells #[.map (some (w2.heap.size + 1))] 79)) := hide (heap_alloc_new w4 (.cells #[.map (some (w2.heap.size + 1))] 79))
   have A1 : Hid (((w4.alloc (.cells #[.slice none 0 0, .slice none 0 0] 34)).alloc (.cells #[.map (some (w2.heap.size + 1))] 79)).drew.heap[w4.heap.size]? = some (.cells #[.slice none 0 0, .slice none 0 0] 34)) := hide (show ((w4.alloc (.cells #[.slice none 0 0, .slice none 0 0] 34)).alloc (.cells #[.map (some (w2.heap.size + 1))] 79)).heap[w4.heap.size]? = some (.cells #[.slice none 0 0, .slice none 0 0] 34) from block_kept (below_alloc (w := w4.alloc (.cells #[.slice none 0 0, .slice none 0 0] 34)) (.cells #[.map (some (w2.heap.size + 1))] 79)) (heap_alloc_new w4 (.cells #[.slice none 0 0, .slice none 0 0] 34)))
   have A2 : Hid (((w4.alloc (.cells #[.map (some (w2.heap.size + 1))] 79)).alloc (.cells #[.slice none 0 0, .slice none 0 0] 34)).drew.heap[w4.heap.size + 1]? = some (.cells #[.slice none 0 0, .slice none 0 0] 34)) := hide (by
    have := heap_alloc_new (w4.alloc (.cells #[.map (some (w2.heap.size + 1))] 79)) (.cells #[.slice none 0 0, .slice none 0 0] 34)
    rw [World.size_alloc] at this
    exact this)
   have Q1 : Hid (Below w4.drew.heap.size w4.drew ((w4.alloc (.cells #[.slice none 0 0, .slice none 0 0] 34)).alloc (.cells #[.map (some (w2.heap.size + 1))] 79)).drew) := hide (below_next (below_alloc (w := w4.drew) (.cells #[.slice none 0 0, .slice none 0 0] 34)) (below_alloc (w := w4.drew.alloc (.cells #[.slice none 0 0, .slice none 0 0] 34)) (.cells #[.map (some (w2.heap.size + 1))] 79)))
   have Q2 : Hid (Below w4.drew.heap.size w4.drew ((w4.alloc (.cells #[.map (some (w2.heap.size + 1))] 79)).alloc (.cells #[.slice none 0 0, .slice none 0 0] 34)).drew) := hide (below_next (below_alloc (w := w4.drew) (.cells #[.map (some (w2.heap.size + 1))] 79)) (below_alloc (w := w4.drew.alloc (.cells #[.map (some (w2.heap.size + 1))] 79)) (.cells #[.slice none 0 0, .slice none 0 0] 34)))
   have SZ1 : Hid (((w4.alloc (.cells #[.slice none 0 0, .slice none 0 0] 34)).alloc (.cells #[.map (some (w2.heap.size + 1))] 79)).drew.heap.size = w4.heap.size + 2) := hide (by show ((w4.alloc (.cells #[.slice none 0 0, .slice none 0 0] 34)).alloc (.cells #[.map (some (w2.heap.size + 1))] 79)).heap.size = _; rw [World.size_alloc, World.size_alloc])
   have SZ2 : Hid (((w4.alloc (.cells #[.map (some (w2.heap.size + 1))] 79)).alloc (.cells #[.slice none 0 0, .slice none 0 0] 34)).drew.heap.size = w4.heap.size + 2) := hide (by show ((w4.alloc (.cells #[.map (some (w2.heap.size + 1))] 79)).alloc (.cells #[.slice none 0 0, .slice none 0 0] 34)).heap.size = _; rw [World.size_alloc, World.size_alloc])
   have SZ3 : Hid ((w4.alloc (.cells #[.map (some (w2.heap.size + 1))] 79)).drew.heap.size = w4.heap.size + 1) := hide (by show (w4.alloc (.cells #[.map (some (w2.heap.size + 1))] 79)).heap.size = _; rw [World.size_alloc])
   have Q3 : Hid (Below w4.drew.heap.size w4.drew (w4.alloc (.cells #[.map (some (w2.heap.size + 1))] 79)).drew) := hide (below_alloc (w := w4.drew) (.cells #[.map (some (w2.heap.size + 1))] 79))
   have Q4 : Hid (Below w4.drew.heap.size w4.drew (w4.alloc (.cells #[.slice none 0 0, .slice none 0 0] 34)).drew) := hide (below_alloc (w := w4.drew) (.cells #[.slice none 0 0, .slice none 0 0] 34))
   go_region_held3 (fun w' => w'.cell? ⟨w.heap.size, 0, none⟩ = some (.slice oa o.length oc) ∧ w'.cell? ⟨w.heap.size, 1, none⟩ = some (.slice ra rs.length rc))
    (first | exact cells2 (unhide KZ4) | exact cells2 (block_kept (unhide Q3) (unhide KZ4)) | exact cells2 (block_kept (unhide Q4) (unhide KZ4)) | exact cells2 (block_kept (unhide Q1) (unhide KZ4)) | exact cells2 (block_kept (unhide Q2) (unhide KZ4)) | exact cells2 (block_kept q6 (unhide KZ4)) | exact cells2 (block_kept (below_next q6 (below_alloc _)) (unhide KZ4)) | exact cells2 (keep_two (block_kept q6 (unhide KZ4)) (by omega)) | exact cells2 (keep_two (block_kept (below_next q6 (below_alloc _)) (unhide KZ4)) (by omega)))
    (first
    | (go_at_call 70; refine (inOrder_any _ _).mono ?_; rintro e w5 ⟨rfl, rfl⟩)
    | (go_at_call 69; refine (unhide ZO _ _ (by with_reducible exact unhide Q1) (by with_reducible exact unhide N1)).mono ?_; rintro e w6 ⟨uo, ur, rfl, o6, b6⟩; obtain ⟨pa, pc, rfl, _⟩ := o6.hasZ.name.form; obtain ⟨ga, gc, rfl, _⟩ := o6.hasZ.recs.form; have q6 := below_next (unhide Q1) b6; have z6 := q6.size; have z6' : w4.heap.size ≤ w6.heap.size := z6; have kA6 := block_kept b6 (unhide A1); have ea := (cells2 kA6).1; have eb := (cells2 kA6).2; have ec := (frozen2 kA6).1; have ed := (frozen2 kA6).2)
    | (go_at_call 69; refine (unhide ZO _ _ (by with_reducible exact unhide Q2) (by with_reducible exact unhide N2)).mono ?_; rintro e w6 ⟨uo, ur, rfl, o6, b6⟩; obtain ⟨pa, pc, rfl, _⟩ := o6.hasZ.name.form; obtain ⟨ga, gc, rfl, _⟩ := o6.hasZ.recs.form; have q6 := below_next (unhide Q2) b6; have z6 := q6.size; have z6' : w4.heap.size ≤ w6.heap.size := z6; have kA6 := block_kept b6 (unhide A2); have ea := (cells2 kA6).1; have eb := (cells2 kA6).2; have ec := (frozen2 kA6).1; have ed := (frozen2 kA6).2)
    | (go_at_call 69; refine (unhide ZO _ _ (by with_reducible exact unhide Q3) (by with_reducible exact unhide N3)).mono ?_; rintro e w6 ⟨uo, ur, rfl, o6, b6⟩; obtain ⟨pa, pc, rfl, _⟩ := o6.hasZ.name.form; obtain ⟨ga, gc, rfl, _⟩ := o6.hasZ.recs.form; have q6 := below_next (unhide Q3) b6; have z6 := q6.size; have z6' : w4.heap.size ≤ w6.heap.size := z6; have na6 := (cells2 (heap_alloc_new w6 (.cells #[.slice none 0 0, .slice none 0 0] 34))).1; have nb6 := (cells2 (heap_alloc_new w6 (.cells #[.slice none 0 0, .slice none 0 0] 34))).2; have nc6 := (frozen2 (heap_alloc_new w6 (.cells #[.slice none 0 0, .slice none 0 0] 34))).1; have nd6 := (frozen2 (heap_alloc_new w6 (.cells #[.slice none 0 0, .slice none 0 0] 34))).2))
   all_goals first | (have kA : w6.heap[w4.heap.size]? = some (.cells #[.slice none 0 0, .slice none 0 0] 34) := kA6; have VQ : ((w6.setCell ⟨w4.heap.size, 0, none⟩ (.slice pa o.length pc)).setCell ⟨w4.heap.size, 1, none⟩ (.slice ga D.length gc)).heap[w4.heap.size]? = some (.cells #[.slice pa o.length pc, .slice ga D.length gc] 34) := block_setAt (block_setAt kA 0 _) 1 _; have uX := (outside_set w6 (w4.heap.size) 0 (.slice pa o.length pc)).trans (outside_set _ (w4.heap.size) 1 (.slice ga D.length gc)); have bX : Below w.heap.size w ((w6.setCell ⟨w4.heap.size, 0, none⟩ (.slice pa o.length pc)).setCell ⟨w4.heap.size, 1, none⟩ (.slice ga D.length gc)) := ((below_next (unhide BB4) q6).setCell (by show w.heap.size ≤ w4.heap.size; omega) _).setCell (by show w.heap.size ≤ w4.heap.size; omega) _; have FO : ∃ s, w.heap.size + 3 ≤ s ∧ s ≤ ((w6.setCell ⟨w4.heap.size, 0, none⟩ (.slice pa o.length pc)).setCell ⟨w4.heap.size, 1, none⟩ (.slice ga D.length gc)).heap.size ∧ OwnN (w.heap.size + 3) s 44 5 ((w6.setCell ⟨w4.heap.size, 0, none⟩ (.slice pa o.length pc)).setCell ⟨w4.heap.size, 1, none⟩ (.slice ga D.length gc)) (.slice pa o.length pc) o ∧ RowO s ((w6.setCell ⟨w4.heap.size, 0, none⟩ (.slice pa o.length pc)).setCell ⟨w4.heap.size, 1, none⟩ (.slice ga D.length gc)).heap.size 52 44 5 3 ((w6.setCell ⟨w4.heap.size, 0, none⟩ (.slice pa o.length pc)).setCell ⟨w4.heap.size, 1, none⟩ (.slice ga D.length gc)) (.slice ga D.length gc) D := (by obtain ⟨s, s1, s2, s3, s4⟩ := o6; have zz := unhide SZ1; exact ⟨s, by omega, Nat.le_trans s2 uX.size, (s3.outside uX (by omega)).wide (by omega) (Nat.le_refl _), (s4.outside uX (by omega)).wide (Nat.le_refl _) uX.size⟩); have KR6 := uX.kept (block_kept q6 (unhide KR4)) (by omega); have KZ6 := uX.kept (block_kept q6 (unhide KZ4)) (by omega); have hb6 : Below w4.heap.size w4 ((w6.setCell ⟨w4.heap.size, 0, none⟩ (.slice pa o.length pc)).setCell ⟨w4.heap.size, 1, none⟩ (.slice ga D.length gc)) := ((below_next q4x q6).setCell (by show w4.heap.size ≤ w4.heap.size; omega) _).setCell (by show w4.heap.size ≤ w4.heap.size; omega) _; have HZ6 := (unhide HZ4).below hb6; clear uX kA hb6; generalize ((w6.setCell ⟨w4.heap.size, 0, none⟩ (.slice pa o.length pc)).setCell ⟨w4.heap.size, 1, none⟩ (.slice ga D.length gc)) = wX at *) | (have kA : w6.heap[w4.heap.size + 1]? = some (.cells #[.slice none 0 0, .slice none 0 0] 34) := kA6; have VQ : ((w6.setCell ⟨w4.heap.size + 1, 0, none⟩ (.slice pa o.length pc)).setCell ⟨w4.heap.size + 1, 1, none⟩ (.slice ga D.length gc)).heap[w4.heap.size + 1]? = some (.cells #[.slice pa o.length pc, .slice ga D.length gc] 34) := block_setAt (block_setAt kA 0 _) 1 _; have uX := (outside_set w6 (w4.heap.size + 1) 0 (.slice pa o.length pc)).trans (outside_set _ (w4.heap.size + 1) 1 (.slice ga D.length gc)); have bX : Below w.heap.size w ((w6.setCell ⟨w4.heap.size + 1, 0, none⟩ (.slice pa o.length pc)).setCell ⟨w4.heap.size + 1, 1, none⟩ (.slice ga D.length gc)) := ((below_next (unhide BB4) q6).setCell (by show w.heap.size ≤ w4.heap.size + 1; omega) _).setCell (by show w.heap.size ≤ w4.heap.size + 1; omega) _; have FO : ∃ s, w.heap.size + 3 ≤ s ∧ s ≤ ((w6.setCell ⟨w4.heap.size + 1, 0, none⟩ (.slice pa o.length pc)).setCell ⟨w4.heap.size + 1, 1, none⟩ (.slice ga D.length gc)).heap.size ∧ OwnN (w.heap.size + 3) s 44 5 ((w6.setCell ⟨w4.heap.size + 1, 0, none⟩ (.slice pa o.length pc)).setCell ⟨w4.heap.size + 1, 1, none⟩ (.slice ga D.length gc)) (.slice pa o.length pc) o ∧ RowO s ((w6.setCell ⟨w4.heap.size + 1, 0, none⟩ (.slice pa o.length pc)).setCell ⟨w4.heap.size + 1, 1, none⟩ (.slice ga D.length gc)).heap.size 52 44 5 3 ((w6.setCell ⟨w4.heap.size + 1, 0, none⟩ (.slice pa o.length pc)).setCell ⟨w4.heap.size + 1, 1, none⟩ (.slice ga D.length gc)) (.slice ga D.length gc) D := (by obtain ⟨s, s1, s2, s3, s4⟩ := o6; have zz := unhide SZ2; exact ⟨s, by omega, Nat.le_trans s2 uX.size, (s3.outside uX (by omega)).wide (by omega) (Nat.le_refl _), (s4.outside uX (by omega)).wide (Nat.le_refl _) uX.size⟩); have KR6 := uX.kept (block_kept q6 (unhide KR4)) (by omega); have KZ6 := uX.kept (block_kept q6 (unhide KZ4)) (by omega); have hb6 : Below w4.heap.size w4 ((w6.setCell ⟨w4.heap.size + 1, 0, none⟩ (.slice pa o.length pc)).setCell ⟨w4.heap.size + 1, 1, none⟩ (.slice ga D.length gc)) := ((below_next q4x q6).setCell (by show w4.heap.size ≤ w4.heap.size + 1; omega) _).setCell (by show w4.heap.size ≤ w4.heap.size + 1; omega) _; have HZ6 := (unhide HZ4).below hb6; clear uX kA hb6; generalize ((w6.setCell ⟨w4.heap.size + 1, 0, none⟩ (.slice pa o.length pc)).setCell ⟨w4.heap.size + 1, 1, none⟩ (.slice ga D.length gc)) = wX at *) | (have VQ := heap_alloc_new w6 (.cells #[.slice pa o.length pc, .slice ga D.length gc] 34); have bX : Below w.heap.size w (w6.alloc (.cells #[.slice pa o.length pc, .slice ga D.length gc] 34)) := below_next (below_next (unhide BB4) q6) (below_alloc _); have FO : ∃ s, w.heap.size + 3 ≤ s ∧ s ≤ (w6.alloc (.cells #[.slice pa o.length pc, .slice ga D.length gc] 34)).heap.size ∧ OwnN (w.heap.size + 3) s 44 5 (w6.alloc (.cells #[.slice pa o.length pc, .slice ga D.length gc] 34)) (.slice pa o.length pc) o ∧ RowO s (w6.alloc (.cells #[.slice pa o.length pc, .slice ga D.length gc] 34)).heap.size 52 44 5 3 (w6.alloc (.cells #[.slice pa o.length pc, .slice ga D.length gc] 34)) (.slice ga D.length gc) D := (by obtain ⟨s, s1, s2, s3, s4⟩ := o6.below (below_alloc (w := w6) (.cells #[.slice pa o.length pc, .slice ga D.length gc] 34)); have zz := unhide SZ3; have zf := (below_alloc (w := w6) (.cells #[.slice pa o.length pc, .slice ga D.length gc] 34)).size; exact ⟨s, by omega, Nat.le_trans s2 zf, s3.wide (by omega) (Nat.le_refl _), s4.wide (Nat.le_refl _) zf⟩); have KR6 := block_kept (below_next q6 (below_alloc (w := w6) (.cells #[.slice pa o.length pc, .slice ga D.length gc] 34))) (unhide KR4); have KZ6 := block_kept (below_next q6 (below_alloc (w := w6) (.cells #[.slice pa o.length pc, .slice ga D.length gc] 34))) (unhide KZ4); have HZ6 := (unhide HZ4).below (below_next (below_next q4x q6) (below_alloc (w := w6) (.cells #[.slice pa o.length pc, .slice ga D.length gc] 34))); generalize w6.alloc (.cells #[.slice pa o.length pc, .slice ga D.length gc] 34) = wX at *)
   all_goals
    first | clear ea eb ec ed | skip
    first | clear kA6 | skip
    first | clear na6 nb6 nc6 nd6 | skip
    clear o6 q6 z6 z6' b6 N1 N2 N3 A1 A2 Q1 Q2 Q3 Q4 SZ1 SZ2 SZ3 ZO
    obtain ⟨s, s1, s2, s3, s4⟩ := FO
    have zx := bX.size
    have OK := unhide ZK _ _ _ ⟨s3.hasL, s4.has⟩
    obtain ⟨v0, v1⟩ := cells2 VQ
    have S3 := hide s3
    have S4 := hide s4
    have VQH := hide VQ
    have KRH := hide KR6
    have KZH := hide KZ6
    have HZH := hide HZ6
    clear s3 s4 VQ KR6 KZ6 HZ6
    cases hzd : zoneOk o D with
    | true =>
     rw [hzd] at OK
     replace OK := hide OK
     go_wp2_with fail
     refine (unhide OK).mono ?_
     rintro e w7 ⟨rfl, b7⟩
     have bb7 := below_next bX b7
     have kr7 := block_kept b7 (unhide KRH)
     obtain ⟨d0, d1⟩ := cells2 kr7
     obtain ⟨f0, f1⟩ := frozen2 kr7
     obtain ⟨v0', v1'⟩ := cells2 (block_kept b7 (unhide VQH))
     have KR7 := hide kr7
     have O7 := hide ((unhide S3).below b7)
     have R7 := hide ((unhide S4).below b7)
     have z7 := b7.size
     clear v0 v1 kr7 b7
     go_wp2_with fail
     clear d0 d1 f0 f1 v0' v1'
     have kf : ((w7.setCell ⟨w.heap.size + 2, 0, none⟩ (.slice pa o.length pc)).setCell ⟨w.heap.size + 2, 1, none⟩ (.slice ga D.length gc)).heap[w.heap.size + 2]? = some (.cells #[.slice pa o.length pc, .slice ga D.length gc] 34) := block_setAt (block_setAt (unhide KR7) 0 _) 1 _
     have u5 := (outside_set w7 (w.heap.size + 2) 0 (.slice pa o.length pc)).trans (outside_set _ (w.heap.size + 2) 1 (.slice ga D.length gc))
     have z8 := u5.size
     refine bodyPost_ret (results_cell_tmp_row rfl _ _ (w.heap.size + 2) 34 #[.slice pa o.length pc, .slice ga D.length gc] (0, 0) _ rfl kf Tryz.underlying34 rfl (by kernel_rfl)) rfl ?_
     have hr := unhide HRES
     rw [if_pos hzd] at hr
     subst hr
     exact ⟨_, _, rfl, ⟨s, by omega, Nat.le_trans (Nat.le_trans s2 z7) z8, ((unhide O7).outside u5 (by omega)).wide (by omega) (Nat.le_refl _), ((unhide R7).outside u5 (by omega)).wide (Nat.le_refl _) (Nat.le_trans z7 z8)⟩, u5.below bb7 (by omega)⟩
    | false =>
     rw [hzd] at OK
     replace OK := hide OK
     go_wp2_with fail
     refine (unhide OK).mono ?_
     rintro e w7 ⟨rfl, b7⟩
     have bb7 := below_next bX b7
     have CZ := hide (unhide HCZ _ _ _ ((unhide HZH).below b7))
     obtain ⟨c0, c1⟩ := cells2 (block_kept b7 (unhide KZH))
     have KR7 := hide (block_kept b7 (unhide KRH))
     have z7 := b7.size
     clear v0 v1 b7 OK
     go_wp2_with fail
     clear c0 c1
     refine (unhide CZ).mono ?_
     rintro e w8 ⟨uo, ur, rfl, o8, b8⟩
     obtain ⟨pa', pc', rfl, _⟩ := o8.hasZ.name.form
     obtain ⟨ga', gc', rfl, _⟩ := o8.hasZ.recs.form
     have kr8 := block_kept b8 (unhide KR7)
     obtain ⟨d0, d1⟩ := cells2 kr8
     obtain ⟨f0, f1⟩ := frozen2 kr8
     have KR8 := hide kr8
     have bb8 := below_next bb7 b8
     have z8 := b8.size
     clear kr8 b8
     go_wp2_with fail
     clear d0 d1 f0 f1
     have kf : ((w8.setCell ⟨w.heap.size + 2, 0, none⟩ (.slice pa' o.length pc')).setCell ⟨w.heap.size + 2, 1, none⟩ (.slice ga' rs.length gc')).heap[w.heap.size + 2]? = some (.cells #[.slice pa' o.length pc', .slice ga' rs.length gc'] 34) := block_setAt (block_setAt (unhide KR8) 0 _) 1 _
     have u5 := (outside_set w8 (w.heap.size + 2) 0 (.slice pa' o.length pc')).trans (outside_set _ (w.heap.size + 2) 1 (.slice ga' rs.length gc'))
     have z9 := u5.size
     obtain ⟨q, q1, q2, q3, q4⟩ := o8
     refine bodyPost_ret (results_cell_tmp_row rfl _ _ (w.heap.size + 2) 34 #[.slice pa' o.length pc', .slice ga' rs.length gc'] (0, 0) _ rfl kf Tryz.underlying34 rfl (by kernel_rfl)) rfl ?_
     have hr := unhide HRES
     rw [if_neg (by rw [hzd]; exact Bool.false_ne_true)] at hr
     subst hr
     exact ⟨_, _, rfl, ⟨q, by omega, Nat.le_trans q2 z9, (q3.outside u5 (by omega)).wide (by omega) (Nat.le_refl _), (q4.outside u5 (by omega)).wide (Nat.le_refl _) z9⟩, u5.below bb8 (by omega)⟩
end Go.Proofs.YtmlcmkoefelolaaGreat
