/-
  Contract of the program's nameKey: a name as a text that ascends as names do. Contracts of the program's Put16.
-/
import Derived.Test.YtfneahdnpmamkaaGreatFnOwnersG42
import Derived.Test.YtfneahdnpmamkaaGreatFnOwnersG34
namespace Go.Proofs.YtfneahdnpmamkaaGreat
open Go.RowKit Go.Shelf
set_option linter.unusedVariables false

def GotK (w w0 : World) (pre : List (LabV w0)) (W : World) : Prop :=
 (∃ v, W.heap[w.heap.size + 1]? = some (.cells #[v] 22) ∧ Own (w.heap.size + 3) 5 W v (keyP (pre.map (·.1.2)))) ∧ Below w.heap.size w W
theorem Zc (w w0 : World) (B : Nat) (hB : w.heap.size ≤ B) : OwnFrom B (GotK w w0) := by
 intro s W W' row ⟨⟨v, h1, h2⟩, hb⟩ hg hr
 have hk := D7 hg (fun r e => (hr r e).2)
 exact ⟨⟨v, hk _ _ _ h1, Ff h2 hk⟩, hb.grown hg hb.size (fun k e => by have := (hr k e).1; omega)⟩

theorem Rs {B b : Nat} {e : TypeId} {W w1 w3 : World} {v v1 : Value} {l l1 : List Int} {o : Obj} {lit : Obj} (h : Own B e W v l) (k : W.heap[b]? = some o) (g1 : W.grownBy w1 v.ownBlock) (h1 : Own B e w1 v1 l1) (g3 : (w1.alloc lit).grownBy w3 v1.ownBlock) (hb : b < B) : w3.heap[b]? = some o := by
 refine Aa g3 (UE (UI (w := w1) lit) (Aa g1 k (fun e => by have := (h.lt b e).1; omega))) (fun e => by have := (h1.lt b e).1; omega)
theorem Vc {B A b : Nat} {e : TypeId} {W w1 w3 : World} {v v1 u : Value} {l l1 : List Int} {lit : Obj} {c : Array Value} {t : TypeId} (h : Own B e W v l) (g1 : W.grownBy w1 v.ownBlock) (h1 : Own B e w1 v1 l1) (g3 : (w1.alloc lit).grownBy w3 v1.ownBlock) (kb : w3.heap[b]? = some (.cells c t)) : KeepsFrom A W (w3.setCell ⟨b, 0, none⟩ u) := by
 have z := (Ab w3 ⟨b, 0, none⟩ u).size
 have z1 := g1.size
 have z3 := g3.size
 have za := (UI (w := w1) lit).size
 refine ⟨by omega, fun k o hA hk ho => ?_⟩
 have q1 := Aa g1 hk (Ia h hk ho)
 have q3 := Aa g3 (UE (UI (w := w1) lit) q1) (Ia h1 q1 ho)
 refine Aa (Ab w3 ⟨b, 0, none⟩ u) q3 ?_
 intro e
 simp only [Option.some.injEq] at e
 subst e
 rw [kb] at q3
 cases q3
 cases ho
theorem Pr {n B b : Nat} {e : TypeId} {W w1 w3 : World} {v v1 u : Value} {l l1 : List Int} {lit : Obj} (h : Own B e W v l) (g1 : W.grownBy w1 v.ownBlock) (h1 : Own B e w1 v1 l1) (g3 : (w1.alloc lit).grownBy w3 v1.ownBlock) (hn : n ≤ W.heap.size) (hb : n ≤ b) (hB : n ≤ B) : Below n W (w3.setCell ⟨b, 0, none⟩ u) := by
 have z1 := g1.size
 have z3 := g3.size
 have za := (UI (w := w1) lit).size
 have x1 := (Below.refl n W).grown g1 hn (fun k e => by have := (h.lt k e).1; omega)
 have x3 := (x1.alloc (by omega) lit).grown g3 (by omega) (fun k e => by have := (h1.lt k e).1; omega)
 exact x3.grown (Ab w3 ⟨b, 0, none⟩ u) (by omega) (fun k e => by simp at e; omega)

set_option maxHeartbeats 1000000 in
set_option maxRecDepth 100000 in
theorem Nh {v : Value} {ns : List (List Int)} {w : World} (h : HasL w v ns) (h1 : ns.length ≤ 6) (h2 : ∀ k, k < ns.length → (ns.getD k []).length ≤ 15) :
  CallsIn Fence.wide 5 Tryz.prog 45 #[.agg #[v]] w fun e w' => e = .returned (.string (strOfNums (keyN ns))) ∧ Below w.heap.size w w' := by
 obtain ⟨a, cap, rfl, _⟩ := h.form
 obtain ⟨hsz, k0, r0⟩ := box2 w (.cells #[.slice a ns.length cap] 25) #[.slice none 0 0] 22
 have b0 := Bl w (.cells #[.slice a ns.length cap] 25) (.cells #[.slice none 0 0] 22)
 have KR := UC r0
 have c0 := US k0
 have HH := UC h
 have zz := VC r0
 have zw := UC hsz
 clear hsz k0 r0 h
 refine callsIn_of_wp_marks Tryz.func45 rfl trivial ?_ rfl
 simp only [Tryz.ntmps45, List.size_toArray, List.length_cons, List.length_nil, Nat.reduceAdd, Nat.reduceSub, Array.replicate_succ, Array.replicate_zero, List.push_toArray, List.append_toArray, List.nil_append, List.cons_append]
 gi_wp2_with (refine ⟨trivial, ?_⟩; gi_at_call 76; refine (callsIn_wide.2 (Zh _ _ _ _)).mono ?_; rintro e w' ⟨rfl, rfl⟩)
 have bz := UI (w := (w.alloc (.cells #[.slice a ns.length cap] 25)).alloc (.cells #[.slice none 0 0] 22)) (.cells #[.slice a ns.length cap] 23)
 have kz := heap_alloc_new ((w.alloc (.cells #[.slice a ns.length cap] 25)).alloc (.cells #[.slice none 0 0] 22)) (.cells #[.slice a ns.length cap] 23)
 have kr := UE bz (UB KR)
 rw [UB zw] at kz
 have hB0 := UG b0 bz
 have zk := VC kz
 clear KR b0 bz c0 zw zz
 generalize hW0 : ((w.alloc (.cells #[.slice a ns.length cap] 25)).alloc (.cells #[.slice none 0 0] 22)).alloc (.cells #[.slice a ns.length cap] 23) = W0 at *
 clear hW0
 refine wpIn_rangeFunc_ownH rfl (by omega) (gf := 102) (lb := #[.pointer (some ⟨w.heap.size + 1 + 1, 0, none⟩)]) rfl trivial (enters_of Tryz.func102 (by kernel_rfl) rfl) (Ty (w.heap.size + 1 + 1) w W0 a cap ns (UB HH) (by omega) h2 hB0 kz) (fun h k => kpB_t h k) (kpB_b (w := W0) (Nat.le_trans hB0.size (Nat.le_refl _))) (Below.refl _ _) (fun _ => rfl)
  (GotK w w) (fun _ _ _ => False) (Zc w w _ hB0.size) (fun _ _ _ _ _ h _ _ => h)
  ⟨⟨.slice none 0 0, kr, World.ownsRow_nil _ _ _ _⟩, hB0⟩
  (fun x a' W => a' = { tmps := #[.agg #[.slice a ns.length cap], .pointer (some ⟨w.heap.size, 0, none⟩), .string { data := #[] }, .pointer (some ⟨w.heap.size + 1, 0, none⟩), undef, x.1.1.2, .pointer (some ⟨w.heap.size, 0, none⟩), .slice a ns.length cap, .func (.func 102) #[] #[.pointer (some ⟨w.heap.size + 1 + 1, 0, none⟩)], .int .i64 x.1.1.1, x.1.1.2, undef, undef, undef, undef, undef, undef, undef], defers := [] })
  (fun x a' _ W W' row h _ _ => h) ?assign ?body ?done ?stop
 case assign =>
  rintro lr pre x W K hi hK
  have hsem := Oper.semAt_some lr
  have HK := UC hK
  have HI := UC hi
  clear hK hi
  unfold encL
  gi_wp2
  exact UB HK _ _ (KeepsFrom.refl _ _) ⟨Below.refl _ _, fun _ _ q => q⟩ (UB HI) rfl
 case body =>
  rintro lr pre x a' W hl ⟨rr, hrr⟩ ⟨⟨v, kO, hO⟩, hB⟩ rfl hlt
  have hsem := Oper.semAt_some lr
  have zz := VC hrr
  obtain ⟨kp, hkp⟩ : ∃ kp, kp = keyP (pre.map (·.1.2)) := ⟨_, rfl⟩
  have hKP : kp.length ≤ 1000 := by
   have := Rj (ls := pre.map (·.1.2)) (fun l hl => by obtain ⟨y, _, rfl⟩ := List.mem_map.1 hl; exact y.2.2)
   rw [List.length_map] at this
   rw [hkp]
   omega
  have HKS := UC (show keyP ((pre ++ [x]).map (·.1.2)) = kp ++ x.1.2 ++ [0] by rw [List.map_append, hkp]; exact Vz _ _)
  rw [← hkp] at hO
  have HX := UC (x.2.1.below hB)
  have htl : x.1.2.length ≤ 15 := x.2.2
  generalize pre ++ [x] = px at *
  generalize x.1.1.2 = u at *
  generalize x.1.2 = t at *
  generalize x.1.1.1 = k at *
  have zW := hB.size
  have cO := US kO
  have zO := VC kO
  have BB := UC hB
  have KO := UC kO
  have OO := UC hO
  have KF := UC (KeepsFrom.refl W0.heap.size W)
  clear hB kO hO hkp
  gi_wp2_with (first
   | (refine Ih rfl (.tmp 11) (.tmp 12) 22 5 rfl Tryz.underlying22 VJ (w.heap.size + 3) v u kp t (by simp [Act.eval]) (by simp [Act.eval]) (UB OO) (UB HX).reads (by omega) (by omega) ?_; intro v1 w1 o1 g1)
   | (refine Ih rfl (.tmp 13) (.tmp 14) 22 5 rfl Tryz.underlying22 VJ (w.heap.size + 3) v1 (.slice (some ⟨w1.heap.size, 0, none⟩) 1 1) (kp ++ t) [0] (by simp [Act.eval]) (by simp [Act.eval]) (o1.alloc _) (B4 w1 0 5 [0] (Nat.zero_le _) (by simp [maxLen])).reads (by simp; omega) (by have := g1.size; simp; omega) ?_; intro v3 w3 o3 g3; have k3 := Rs (UB OO) (UB KO) g1 o1 g3 (by omega); have c3 := US k3; have f3 := VG k3 0; have o3' := o3; obtain ⟨p3, q3, rfl, _⟩ := o3'.lies))
  refine ⟨Vc (UB OO) g1 o1 g3 k3, ⟨Pr (UB OO) g1 o1 g3 zW (by omega) (by omega), fun c t q => ?_⟩, ⟨_, UV k3 0 _, ?_⟩, ?_⟩
  ·exact Aa (Ab w3 ⟨w.heap.size + 1, 0, none⟩ _) (Rs (UB OO) q g1 o1 g3 (by omega)) (by simp)
  ·rw [UB HKS]
   have hle : (kp ++ t ++ [0]).length = kp.length + (t.length + 1) := by simp
   rw [hle] at o3
   exact o3.outside (UT w3 (w.heap.size + 1) 0 _) (by omega)
  ·exact (UB BB).trans (Pr (UB OO) g1 o1 g3 zW (by omega) (by omega))
 case done =>
  rintro D xs W hD hS ⟨⟨v, kO, hO⟩, hB⟩ hK
  rw [hS] at hO
  replace hO : Own (w.heap.size + 3) 5 W v (keyN ns) := hO
  have cO := US kO
  have hcv := Il hO
  have hO' := hO
  obtain ⟨p3, q3, rfl, _⟩ := hO'.lies
  have BB := UC hB
  have HKK := UC hK
  clear hB hK kz kr
  gi_wp2
  refine ⟨by simp, .inl ⟨_, _, rfl, run_takeDeferred (UB HKK), ?_⟩⟩
  exact ⟨_, results_tmp rfl _ _ _, rfl, (UB BB).trans (belowK_b (w := w) (Nat.le_refl _) W D _ _ (by omega) (UB HKK) rfl rfl)⟩
 case stop =>
  rintro D c pre W _ _ h _
  exact h.elim
theorem Lf {v : Value} {ns : List (List Int)} {w : World} (h : HasL w v ns) (h1 : ns.length ≤ 6) (h2 : ∀ k, k < ns.length → (ns.getD k []).length ≤ 15) :
  Calls Tryz.prog 45 #[.agg #[v]] w fun e w' => e = .returned (.string (strOfNums (keyN ns))) ∧ Below w.heap.size w w' := (callsIn_wide (n := 5)).1 (Nh h h1 h2)
end Go.Proofs.YtfneahdnpmamkaaGreat

namespace Go.Proofs.YtfneahdnpmamkaaGreat
open Go.RowKit
set_option linter.unusedVariables false

set_option maxHeartbeats 800000 in
set_option maxRecDepth 100000 in
theorem Er {B : Nat} {v : Value} {l : List Int} (n : Int) {w : World} (h : Own B 5 w v l) (hl : l.length ≤ 1048576) (h0 : 0 ≤ n) (h1 : n ≤ 65535) :
  Calls Tryz.prog 98 #[v, .int .i64 n] w fun e w' => ∃ v', e = .returned v' ∧ Own w.heap.size 5 w' v' (l ++ [n / 256, n % 256]) ∧ Below w.heap.size w w' := by
 go_enter Tryz.func98, Tryz.ntmps98
 go_wp2_with fail
 refine (Cz _ h0 h1).mono ?_
 rintro e w0 ⟨rfl, rfl⟩
 go_wp2_with fail
 refine (Ga h (by omega)).mono ?_
 rintro e w1 ⟨v1, rfl, o1, b1⟩
 have hsz := b1.size
 go_wp2_with (at_builtin; refine Aq rfl _ _ 22 5 rfl Tryz.underlying22 VJ w.heap.size v1 _ l [n / 256, n % 256] rfl rfl (o1.alloc _) (Vy w1 0 5 n (Nat.zero_le _)).reads (by simp; omega) (by simp; omega) ?_)
 intro v' w2 hown hgrow
 go_wp2
 go_ret
 exact ⟨v', rfl, hown, (b1.alloc hsz _).grown hgrow (by simp; omega) (fun k hk => (o1.lt k hk).1)⟩

end Go.Proofs.YtfneahdnpmamkaaGreat
