/-
  slices.Backward of the library at lists of texts, as what a loop ranges over. A slice of bytes made into a text. Plain facts: what lay below a mark lies there still, where a walk writes into a stretch behind it. No program is named here. Contract of the program's nameKey: a name as a text that ascends as names do. Contracts of the program's Put16. Contract of the program's slotKey.
-/
import Derived.Test.YtaehfeobfkaicaaGreatCacheGetG05
import Derived.Test.YtaehfeobfkaicaaGreatCacheGetG00
import Derived.Test.YtaehfeobfkaicaaGreatCacheGetG13
import Derived.RangeFuncNested
import Derived.RangeFuncBound
import Derived.RangeFuncCalls
import Derived.RangeFuncLeaves
import Derived.Shelf.Abstract
import Derived.Shelf.RegionOpen
import Derived.WalkKit
import Derived.OwnWalkIn
import Derived.TacticsInMore
import Derived.LoopNIn
import Derived.LoopIn
import Derived.Test.YtaehfeobfkaicaaGreatCacheGetG01
import Derived.Test.YtaehfeobfkaicaaGreatCacheGetG12
import Derived.Test.YtaehfeobfkaicaaGreatCacheGetG02
import Derived.Test.YtaehfeobfkaicaaGreatCacheGetG08
import Derived.RangeFuncBox
import Derived.Test.YtaehfeobfkaicaaGreatCacheGetG18
import Derived.Test.YtaehfeobfkaicaaGreatCacheGetG15
namespace Go.Proofs.YtaehfeobfkaicaaGreat
open Go.RowKit Go.Shelf
set_option linter.unusedVariables false
set_option maxHeartbeats 4000000
set_option maxRecDepth 100000

abbrev LabV (w : World) := { p : (Nat × Value) × List Int // Has w p.1.2 p.2 ∧ p.2.length ≤ 15 }
def encL {w : World} (x : LabV w) : Array Value := #[.int .i64 x.1.1.1, x.1.1.2]
def KpB (n0 Bt : Nat) (W W' : World) : Prop := Below n0 W W' ∧ ∀ c t, W.heap[Bt]? = some (Obj.cells c t) → W'.heap[Bt]? = some (Obj.cells c t)
theorem kpB_t {n0 Bt : Nat} {A B C : World} (h : KpB n0 Bt A B) (k : KpB n0 Bt B C) : KpB n0 Bt A C := ⟨h.1.trans k.1, fun c t q => k.2 c t (h.2 c t q)⟩
theorem kpB_b {n0 Bt : Nat} {w : World} (hn : n0 ≤ w.heap.size) (W : World) (l : Nat) (o o' : Obj) (hl : w.heap.size ≤ l) (h : W.heap[l]? = some o) (h1 : o.isCells = false) (h2 : o.isWalk = false) : KpB n0 Bt W (W.putObj l o') :=
 ⟨belowK_b hn W l o o' hl h h1 h2, fun c t q => keptC_of (grownBy_putObj' W l o') (fun r e => by cases e; exact ⟨_, h, h1⟩) _ _ _ q⟩

theorem back1_in (n : Nat) (hn : 1 ≤ n) (l Bt n0 : Nat) (w0 : World) (a : Option Addr) (cap : Nat) (ns : List (List Int)) (hn0 : n0 = w0.heap.size) (hT : HasL w0 (.slice a ns.length cap) ns) (hl : ns.length ≤ 1048576) (hs : ∀ k, k < ns.length → (ns.getD k []).length ≤ 15)
  (J Jx : List (LabV w0) → World → Prop) (W : World) (hW : Below n0 w0 W) (hJ : AbidesFrom W.heap.size J)
  (hY : ∀ pre x W1, J pre W1 → pre.length < ns.length → YieldAt Fence.wide (n - 1) Tryz.prog l (encL x) W1 fun e W' => (e = .returned (.bool true) ∧ J (pre ++ [x]) W' ∧ KpB n0 Bt W1 W') ∨ (e = .returned (.bool false) ∧ Jx (pre ++ [x]) W'))
  (hBt : W.heap[Bt]? = some (.cells #[.slice a ns.length cap] 41)) (h0 : J [] W) :
  CallsIn Fence.wide n Tryz.prog 132 #[.func (.yield l) #[] #[], .pointer (some ⟨Bt, 0, none⟩)] W fun e W' => (∃ v, e = .returned v) ∧
   ((∃ xs, xs.map (·.1.2) = ns.reverse ∧ J xs W') ∨ (∃ pre, True ∧ Jx pre W')) := by
 subst hn0
 have HT := UC hT
 have HS := UC hs
 have HJ := UC hJ
 have HY := UC hY
 have B0 := UC hW
 have H0 := UC h0
 have KB := UC hBt
 have cB := US hBt
 clear hT hs hJ hY hW h0 hBt
 generalize hm : ns.length = m at *
 have HM := UC hm
 clear hm
 refine callsIn_of_wp Tryz.func132 rfl trivial ?_ rfl
 simp only [Tryz.ntmps132, List.size_toArray, List.length_cons, List.length_nil, Nat.reduceAdd, Nat.reduceSub, Array.replicate_succ, Array.replicate_zero, List.push_toArray, List.append_toArray, List.nil_append, List.cons_append]
 gi_wp2
 clear cB
 gi_loopw [3] (fun i wr => ∃ (k : Nat) (pre : List (LabV w0)), k ≤ m ∧ i = .int .i64 ((k : Int) - 1) ∧ pre.length + k = m ∧ pre.map (·.1.2) = (ns.drop k).reverse ∧ J pre wr ∧ Below w0.heap.size w0 wr ∧ wr.heap[Bt]? = some (.cells #[.slice a m cap] 41)) (fun i _ => (intOf i + 1).toNat)
 case atStart => exact ⟨m, [], Nat.le_refl _, by go_num, by simp, by rw [← UB HM]; simp, UB H0, UB B0, UB KB⟩
 case round =>
  obtain ⟨k, pre, hk, rfl, hpl, hp, hj, hbl, hkb⟩ := hrel
  have cB := US hkb
  cases k with
  | zero =>
   simp only [List.drop_zero] at hp
   gi_wp2
   go_end0
   exact ⟨⟨_, rfl⟩, .inl ⟨pre, hp, hj⟩⟩
  | succ k =>
   obtain ⟨b, off, u, rfl, hb1, hc, hH⟩ := (UB HT).here (k := k) (by rw [UB HM]; omega)
   have hsk := UB HS k (by omega)
   have hdk := UC (show (ns.drop k).reverse = (ns.drop (k + 1)).reverse ++ [ns.getD k []] by rw [List.drop_eq_getElem_cons (i := k) (by rw [UB HM]; omega)]; simp [show k < ns.length by rw [UB HM]; omega])
   have c0 : wr.cell? ⟨b, off + k, none⟩ = some u := (hbl.cell (p := ⟨b, off + k, none⟩) hb1).trans hc
   generalize ns.getD k [] = t at *
   obtain ⟨x, hx1, hx2⟩ : ∃ x : LabV w0, encL x = #[.int .i64 (k : Int), u] ∧ x.1.2 = t := ⟨⟨((k, u), t), hH, hsk⟩, rfl, rfl⟩
   obtain ⟨fn, tmps, assign, body, hy, hRd⟩ := UB HY pre x wr hj (by omega)
   rw [hx1] at hy
   have hkk : (((k + 1 : Nat) : Int) - 1) = (k : Int) := by omega
   rw [hkk]
   have HB := UC hbl
   clear hc hH hsk hbl
   gi_wp2
   refine hRd.mono ?_
   rintro e W3 (⟨rfl, hJ3, hk3⟩ | ⟨rfl, hJx3⟩)
   ·have hb3 := (UB HB).trans hk3.1
    have hkb3 := hk3.2 _ _ hkb
    clear hy hRd hk3 HB c0 cB hkb
    gi_wp2
    go_roundw
    case rel => exact ⟨k, pre ++ [x], by omega, by go_num, by simp; omega, by rw [UB hdk, ← hp]; simp [hx2], hJ3, hb3, hkb3⟩
    case measure => simp [intOf]
   ·clear hy hRd HB c0 cB hkb
    gi_wp2
    refine bodyPost_ret (results_none rfl _ _ _) rfl ?_
    exact ⟨⟨_, rfl⟩, .inr ⟨pre ++ [x], trivial, hJx3⟩⟩
theorem back_stops (Bt : Nat) (w0 w : World) (a : Option Addr) (cap : Nat) (ns : List (List Int)) (hT : HasL w0 (.slice a ns.length cap) ns) (hl : ns.length ≤ 1048576) (hs : ∀ k, k < ns.length → (ns.getD k []).length ≤ 15) (hb : Below w0.heap.size w0 w) (hBt : w.heap[Bt]? = some (.cells #[.slice a ns.length cap] 41)) :
  SeqStopsK Fence.wide 4 Tryz.prog 132 #[.pointer (some ⟨Bt, 0, none⟩)] (fun x : LabV w0 => encL x) (KpB w0.heap.size Bt) (fun xs => xs.map (·.1.2) = ns.reverse) (fun _ => True) ns.length w :=
 fun l J Jx W hW hJ hJx hY h0 => back1_in 4 (by omega) l Bt _ w0 a cap ns rfl hT hl hs J Jx W (hb.trans (hW.mono hb.size)) hJ hY (UE hW hBt) h0
theorem back_any (a : Option Addr) (len cap : Nat) (w : World) : Calls Tryz.prog 117 #[.slice a len cap] w fun e w' => e = .returned (.func (.func 132) #[] #[.pointer (some ⟨w.heap.size, 0, none⟩)]) ∧ w' = w.alloc (.cells #[.slice a len cap] 41) := by
 go_enter Tryz.func117, Tryz.ntmps117
 go_wp2
 go_ret
 exact ⟨rfl, rfl⟩
end Go.Proofs.YtaehfeobfkaicaaGreat

namespace Go.Proofs.YtaehfeobfkaicaaGreat
open Go.RowKit

theorem conv_own {B : Nat} {v : Value} {l : List Int} {w : World} (h : Own B 5 w v l) : (convert 56 9 v).run Tryz.prog w = .ok (.string (strOfNums l)) w := by
 rcases h.form with ⟨rfl, rfl⟩ | ⟨g, cap, rfl, _, _, _, _, hc, _⟩
 ·exact run_convert_bytes_nil w 56 5 Tryz.underlying56 Tryz.underlying5 0 0 9 Tryz.underlying9
 ·exact run_convert_bytes_arg w 56 5 Tryz.underlying56 Tryz.underlying5 g 0 l.length cap l rfl (fun i hi => by rw [Nat.zero_add]; exact hc i hi) 9 Tryz.underlying9

theorem conv_has {v : Value} {l : List Int} {w : World} (h : Has w v l) : (convert 56 9 v).run Tryz.prog w = .ok (.string (strOfNums l)) w := by
 rcases h with ⟨rfl, rfl⟩ | ⟨g, off, cap, rfl, _, _, _, hc⟩
 ·exact run_convert_bytes_nil w 56 5 Tryz.underlying56 Tryz.underlying5 0 0 9 Tryz.underlying9
 ·exact run_convert_bytes_arg w 56 5 Tryz.underlying56 Tryz.underlying5 g off l.length cap l rfl hc 9 Tryz.underlying9
end Go.Proofs.YtaehfeobfkaicaaGreat

namespace Go.Proofs.YtaehfeobfkaicaaGreat
open Go.RowKit

theorem Outside.belowAt {n B E : Nat} {a w w' : World} (h : Outside B E w w') (hb : Below n a w) (hn : n ≤ a.heap.size) (hB : n ≤ B) : Below n a w' :=
 ⟨h.os.trans hb.os, h.tape.trans hb.tape, h.output.trans hb.output, Nat.le_trans hb.size h.size, fun k hk => (h.block k (by have := hb.size; omega) (.inl (by omega))).trans (hb.block k hk)⟩
end Go.Proofs.YtaehfeobfkaicaaGreat

namespace Go.Proofs.YtaehfeobfkaicaaGreat
open Go.RowKit Go.Shelf
set_option linter.unusedVariables false

def GotK (w w0 : World) (pre : List (LabV w0)) (W : World) : Prop :=
 (∃ v, W.heap[w.heap.size + 1]? = some (.cells #[v] 56) ∧ Own (w.heap.size + 3) 5 W v (keyP (pre.map (·.1.2)))) ∧ Below w.heap.size w W
theorem gotK_own (w w0 : World) (B : Nat) (hB : w.heap.size ≤ B) : OwnFrom B (GotK w w0) := by
 intro s W W' row ⟨⟨v, h1, h2⟩, hb⟩ hg hr
 have hk := keptC_of hg (fun r e => (hr r e).2)
 exact ⟨⟨v, hk _ _ _ h1, row_keptC h2 hk⟩, hb.grown hg hb.size (fun k e => by have := (hr k e).1; omega)⟩

theorem key_kept {B b : Nat} {e : TypeId} {W w1 w3 : World} {v v1 : Value} {l l1 : List Int} {o : Obj} {lit : Obj} (h : Own B e W v l) (k : W.heap[b]? = some o) (g1 : W.grownBy w1 v.ownBlock) (h1 : Own B e w1 v1 l1) (g3 : (w1.alloc lit).grownBy w3 v1.ownBlock) (hb : b < B) : w3.heap[b]? = some o := by
 refine block_grown g3 (UE (UI (w := w1) lit) (block_grown g1 k (fun e => by have := (h.lt b e).1; omega))) (fun e => by have := (h1.lt b e).1; omega)
theorem key_keeps {B A b : Nat} {e : TypeId} {W w1 w3 : World} {v v1 u : Value} {l l1 : List Int} {lit : Obj} {c : Array Value} {t : TypeId} (h : Own B e W v l) (g1 : W.grownBy w1 v.ownBlock) (h1 : Own B e w1 v1 l1) (g3 : (w1.alloc lit).grownBy w3 v1.ownBlock) (kb : w3.heap[b]? = some (.cells c t)) : KeepsFrom A W (w3.setCell ⟨b, 0, none⟩ u) := by
 have z := (grown_setCell w3 ⟨b, 0, none⟩ u).size
 have z1 := g1.size
 have z3 := g3.size
 have za := (UI (w := w1) lit).size
 refine ⟨by omega, fun k o hA hk ho => ?_⟩
 have q1 := block_grown g1 hk (row_notC h hk ho)
 have q3 := block_grown g3 (UE (UI (w := w1) lit) q1) (row_notC h1 q1 ho)
 refine block_grown (grown_setCell w3 ⟨b, 0, none⟩ u) q3 ?_
 intro e
 simp only [Option.some.injEq] at e
 subst e
 rw [kb] at q3
 cases q3
 cases ho
theorem key_below {n B b : Nat} {e : TypeId} {W w1 w3 : World} {v v1 u : Value} {l l1 : List Int} {lit : Obj} (h : Own B e W v l) (g1 : W.grownBy w1 v.ownBlock) (h1 : Own B e w1 v1 l1) (g3 : (w1.alloc lit).grownBy w3 v1.ownBlock) (hn : n ≤ W.heap.size) (hb : n ≤ b) (hB : n ≤ B) : Below n W (w3.setCell ⟨b, 0, none⟩ u) := by
 have z1 := g1.size
 have z3 := g3.size
 have za := (UI (w := w1) lit).size
 have x1 := (Below.refl n W).grown g1 hn (fun k e => by have := (h.lt k e).1; omega)
 have x3 := (x1.alloc (by omega) lit).grown g3 (by omega) (fun k e => by have := (h1.lt k e).1; omega)
 exact x3.grown (grown_setCell w3 ⟨b, 0, none⟩ u) (by omega) (fun k e => by simp at e; omega)

set_option maxHeartbeats 1000000 in
set_option maxRecDepth 100000 in
theorem nameKey_in {v : Value} {ns : List (List Int)} {w : World} (h : HasL w v ns) (h1 : ns.length ≤ 6) (h2 : ∀ k, k < ns.length → (ns.getD k []).length ≤ 15) :
  CallsIn Fence.wide 5 Tryz.prog 94 #[.agg #[v]] w fun e w' => e = .returned (.string (strOfNums (keyN ns))) ∧ Below w.heap.size w w' := by
 obtain ⟨a, cap, rfl, _⟩ := h.form
 obtain ⟨hsz, k0, r0⟩ := box2 w (.cells #[.slice a ns.length cap] 46) #[.slice none 0 0] 56
 have b0 := below2 w (.cells #[.slice a ns.length cap] 46) (.cells #[.slice none 0 0] 56)
 have KR := UC r0
 have c0 := US k0
 have HH := UC h
 have zz := VC r0
 have zw := UC hsz
 clear hsz k0 r0 h
 refine callsIn_of_wp_marks Tryz.func94 rfl trivial ?_ rfl
 simp only [Tryz.ntmps94, List.size_toArray, List.length_cons, List.length_nil, Nat.reduceAdd, Nat.reduceSub, Array.replicate_succ, Array.replicate_zero, List.push_toArray, List.append_toArray, List.nil_append, List.cons_append]
 gi_wp2_with (refine ⟨trivial, ?_⟩; gi_at_call 117; refine (callsIn_wide.2 (back_any _ _ _ _)).mono ?_; rintro e w' ⟨rfl, rfl⟩)
 have bz := UI (w := (w.alloc (.cells #[.slice a ns.length cap] 46)).alloc (.cells #[.slice none 0 0] 56)) (.cells #[.slice a ns.length cap] 41)
 have kz := heap_alloc_new ((w.alloc (.cells #[.slice a ns.length cap] 46)).alloc (.cells #[.slice none 0 0] 56)) (.cells #[.slice a ns.length cap] 41)
 have kr := UE bz (UB KR)
 rw [UB zw] at kz
 have hB0 := UG b0 bz
 have zk := VC kz
 clear KR b0 bz c0 zw zz
 generalize hW0 : ((w.alloc (.cells #[.slice a ns.length cap] 46)).alloc (.cells #[.slice none 0 0] 56)).alloc (.cells #[.slice a ns.length cap] 41) = W0 at *
 clear hW0
 refine wpIn_rangeFunc_ownH rfl (by omega) (gf := 132) (lb := #[.pointer (some ⟨w.heap.size + 1 + 1, 0, none⟩)]) rfl trivial (enters_of Tryz.func132 (by kernel_rfl) rfl) (back_stops (w.heap.size + 1 + 1) w W0 a cap ns (UB HH) (by omega) h2 hB0 kz) (fun h k => kpB_t h k) (kpB_b (w := W0) (Nat.le_trans hB0.size (Nat.le_refl _))) (Below.refl _ _) (fun _ => rfl)
  (GotK w w) (fun _ _ _ => False) (gotK_own w w _ hB0.size) (fun _ _ _ _ _ h _ _ => h)
  ⟨⟨.slice none 0 0, kr, World.ownsRow_nil _ _ _ _⟩, hB0⟩
  (fun x a' W => a' = { tmps := #[.agg #[.slice a ns.length cap], .pointer (some ⟨w.heap.size, 0, none⟩), .string { data := #[] }, .pointer (some ⟨w.heap.size + 1, 0, none⟩), undef, x.1.1.2, .pointer (some ⟨w.heap.size, 0, none⟩), .slice a ns.length cap, .func (.func 132) #[] #[.pointer (some ⟨w.heap.size + 1 + 1, 0, none⟩)], .int .i64 x.1.1.1, x.1.1.2, undef, undef, undef, undef, undef, undef, undef], defers := [] })
  (fun x a' _ W W' row h _ _ => h) ?assign ?body ?done ?stop
 case assign =>
  rintro lr pre x W K hi hK
  have hsem := Oper.semAt_some lr
  have HK := UC hK
  have HI := UC hi
  clear hK hi
  unfold encL
  gi_wp2
  exact UB HK _ _ (KeepsFrom.refl _ _) ⟨Below.refl _ _, fun _ _ q => q⟩ (UB HI) rfl
 case body =>
  rintro lr pre x a' W hl ⟨rr, hrr⟩ ⟨⟨v, kO, hO⟩, hB⟩ rfl hlt
  have hsem := Oper.semAt_some lr
  have zz := VC hrr
  obtain ⟨kp, hkp⟩ : ∃ kp, kp = keyP (pre.map (·.1.2)) := ⟨_, rfl⟩
  have hKP : kp.length ≤ 1000 := by
   have := keyP_len (ls := pre.map (·.1.2)) (fun l hl => by obtain ⟨y, _, rfl⟩ := List.mem_map.1 hl; exact y.2.2)
   rw [List.length_map] at this
   rw [hkp]
   omega
  have HKS := UC (show keyP ((pre ++ [x]).map (·.1.2)) = kp ++ x.1.2 ++ [0] by rw [List.map_append, hkp]; exact keyP_snoc _ _)
  rw [← hkp] at hO
  have HX := UC (x.2.1.below hB)
  have htl : x.1.2.length ≤ 15 := x.2.2
  generalize pre ++ [x] = px at *
  generalize x.1.1.2 = u at *
  generalize x.1.2 = t at *
  generalize x.1.1.1 = k at *
  have zW := hB.size
  have cO := US kO
  have zO := VC kO
  have BB := UC hB
  have KO := UC kO
  have OO := UC hO
  have KF := UC (KeepsFrom.refl W0.heap.size W)
  clear hB kO hO hkp
  gi_wp2_with (first
   | (refine append_bytesIn rfl (.tmp 11) (.tmp 12) 56 5 rfl Tryz.underlying56 VJ (w.heap.size + 3) v u kp t (by simp [Act.eval]) (by simp [Act.eval]) (UB OO) (UB HX).reads (by omega) (by omega) ?_; intro v1 w1 o1 g1)
   | (refine append_bytesIn rfl (.tmp 13) (.tmp 14) 56 5 rfl Tryz.underlying56 VJ (w.heap.size + 3) v1 (.slice (some ⟨w1.heap.size, 0, none⟩) 1 1) (kp ++ t) [0] (by simp [Act.eval]) (by simp [Act.eval]) (o1.alloc _) (own_lit w1 0 5 [0] (Nat.zero_le _) (by simp [maxLen])).reads (by simp; omega) (by have := g1.size; simp; omega) ?_; intro v3 w3 o3 g3; have k3 := key_kept (UB OO) (UB KO) g1 o1 g3 (by omega); have c3 := US k3; have f3 := VG k3 0; have o3' := o3; obtain ⟨p3, q3, rfl, _⟩ := o3'.lies))
  refine ⟨key_keeps (UB OO) g1 o1 g3 k3, ⟨key_below (UB OO) g1 o1 g3 zW (by omega) (by omega), fun c t q => ?_⟩, ⟨_, UV k3 0 _, ?_⟩, ?_⟩
  ·exact block_grown (grown_setCell w3 ⟨w.heap.size + 1, 0, none⟩ _) (key_kept (UB OO) q g1 o1 g3 (by omega)) (by simp)
  ·rw [UB HKS]
   have hle : (kp ++ t ++ [0]).length = kp.length + (t.length + 1) := by simp
   rw [hle] at o3
   exact o3.outside (UT w3 (w.heap.size + 1) 0 _) (by omega)
  ·exact (UB BB).trans (key_below (UB OO) g1 o1 g3 zW (by omega) (by omega))
 case done =>
  rintro D xs W hD hS ⟨⟨v, kO, hO⟩, hB⟩ hK
  rw [hS] at hO
  replace hO : Own (w.heap.size + 3) 5 W v (keyN ns) := hO
  have cO := US kO
  have hcv := conv_own hO
  have hO' := hO
  obtain ⟨p3, q3, rfl, _⟩ := hO'.lies
  have BB := UC hB
  have HKK := UC hK
  clear hB hK kz kr
  gi_wp2
  refine ⟨by simp, .inl ⟨_, _, rfl, run_takeDeferred (UB HKK), ?_⟩⟩
  exact ⟨_, results_tmp rfl _ _ _, rfl, (UB BB).trans (belowK_b (w := w) (Nat.le_refl _) W D _ _ (by omega) (UB HKK) rfl rfl)⟩
 case stop =>
  rintro D c pre W _ _ h _
  exact h.elim
theorem nameKey_has {v : Value} {ns : List (List Int)} {w : World} (h : HasL w v ns) (h1 : ns.length ≤ 6) (h2 : ∀ k, k < ns.length → (ns.getD k []).length ≤ 15) :
  Calls Tryz.prog 94 #[.agg #[v]] w fun e w' => e = .returned (.string (strOfNums (keyN ns))) ∧ Below w.heap.size w w' := (callsIn_wide (n := 5)).1 (nameKey_in h h1 h2)
end Go.Proofs.YtaehfeobfkaicaaGreat

namespace Go.Proofs.YtaehfeobfkaicaaGreat
open Go.RowKit
set_option linter.unusedVariables false
set_option maxHeartbeats 800000
set_option maxRecDepth 100000

theorem implPut16_yes {B : Nat} {v : Value} {l : List Int} (n : Int) {w : World} (h : Own B 5 w v l) (hl : l.length ≤ 1048576) (h0 : 0 ≤ n) (h1 : n ≤ 65535) :
  Calls Tryz.prog 95 #[v, .int .i64 n] w fun e w' => ∃ v', e = .returned v' ∧ Own w.heap.size 5 w' v' (l ++ [n / 256, n % 256]) ∧ Below w.heap.size w w' := by
 go_enter Tryz.func95, Tryz.ntmps95
 go_wp2_with fail
 refine (upTo_yes _ h0 h1).mono ?_
 rintro e w0 ⟨rfl, rfl⟩
 go_wp2_with fail
 refine (copyBytes_own h (by omega)).mono ?_
 rintro e w1 ⟨v1, rfl, o1, b1⟩
 have hsz := b1.size
 go_wp2_with (at_builtin; refine append_bytes rfl _ _ 56 5 rfl Tryz.underlying56 VJ w.heap.size v1 _ l [n / 256, n % 256] rfl rfl (o1.alloc _) (own_put16 w1 0 5 n (Nat.zero_le _)).reads (by simp; omega) (by simp; omega) ?_)
 intro v' w2 hown hgrow
 go_wp2
 go_ret
 exact ⟨v', rfl, hown, (b1.alloc hsz _).grown hgrow (by simp; omega) (fun k hk => (o1.lt k hk).1)⟩

theorem implPut16_no {B : Nat} {v : Value} {l : List Int} (n : Int) {w : World} (h : Own B 5 w v l) (hl : l.length ≤ 1048576) (hn : n < 0 ∨ 65535 < n) :
  Calls Tryz.prog 95 #[v, .int .i64 n] w fun e w' => ∃ v', e = .returned v' ∧ Own w.heap.size 5 w' v' l ∧ Below w.heap.size w w' := by
 go_enter Tryz.func95, Tryz.ntmps95
 go_wp2_with fail
 refine (upTo_no _ hn).mono ?_
 rintro e w0 ⟨rfl, rfl⟩
 go_wp2_with fail
 refine (copyBytes_own h (by omega)).mono ?_
 rintro e w1 ⟨v1, rfl, o1, b1⟩
 go_wp2
 go_ret
 exact ⟨v1, rfl, o1, b1⟩

theorem implPut16_any {B : Nat} {v : Value} {l : List Int} (n : Int) {w : World} (h : Own B 5 w v l) (hl : l.length ≤ 1048576) :
  Calls Tryz.prog 95 #[v, .int .i64 n] w fun e w' => ∃ v', e = .returned v' ∧ Own w.heap.size 5 w' v' (put16 l n) ∧ Below w.heap.size w w' := by
 by_cases hn : 0 ≤ n ∧ n ≤ 65535
 ·have e : put16 l n = l ++ [n / 256, n % 256] := by unfold put16; rw [if_pos hn]
  rw [e]; exact implPut16_yes n h hl hn.1 hn.2
 ·have e : put16 l n = l := by unfold put16; rw [if_neg hn]
  rw [e]; exact implPut16_no n h hl (by omega)
set_option maxHeartbeats 1000000 in
set_option maxRecDepth 100000 in
theorem slotKey_has {v : Value} {n : List (List Int)} {t : Int} {w : World} (h : HasL w v n) (h1 : n.length ≤ 6) (h2 : ∀ k, k < n.length → (n.getD k []).length ≤ 15) :
  Calls Tryz.prog 58 #[.agg #[v], .int .i64 t] w fun e w' => e = .returned (.string (ksB n t)) ∧ Below w.heap.size w w' := by
 obtain ⟨a, cap, rfl, _⟩ := h.form
 have b0 := UI (w := w) (.cells #[.slice a n.length cap] 46)
 have NK := UC (nameKey_has (h.below b0) h1 h2)
 have P1 := UC (fun (w : World) => implPut16_any t (show Own 0 5 w (.slice none 0 0) [] from World.ownsRow_nil _ _ _ _) (by simp))
 have hr : Hid (ksB n t = strOfNums (keyN n) ++ strOfNums (put16 [] t)) := UC (strOfNums_append _ _).symm
 have hsz : ¬ 9223372036854775807 < (strOfNums (keyN n)).size + (strOfNums (put16 [] t)).size := by
  rw [strOfNums_size, strOfNums_size]
  have := keyN_len h1 h2
  have := put16_length [] t
  simp only [List.length_nil] at this
  omega
 have c0 := US (heap_alloc_new w (.cells #[.slice a n.length cap] 46))
 clear h h1 h2
 go_enter Tryz.func58, Tryz.ntmps58
 go_wp2_with fail
 clear c0
 refine (UB NK).mono ?_
 rintro e w1 ⟨rfl, b1⟩
 have bb1 := UG b0 b1
 go_wp2_with fail
 refine (UB P1 _).mono ?_
 rintro e w2 ⟨v2, rfl, o2, b2⟩
 have bb2 := UG bb1 b2
 have hcv := conv_own o2
 obtain ⟨p2, q2, rfl, _⟩ := o2.lies
 clear o2
 go_wp2_with fail
 go_ret
 exact ⟨congrArg (fun x => Ending.returned (.string x)) (UB hr).symm, bb2⟩
end Go.Proofs.YtaehfeobfkaicaaGreat
