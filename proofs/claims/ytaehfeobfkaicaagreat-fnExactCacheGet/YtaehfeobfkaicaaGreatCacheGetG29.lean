/-
  Contract of the program's copySlot. Plain facts: one struct more behind a row that owns its structs. No program is named here. Plain facts: one struct more behind a row that owns its structs, as one operation of a region. No program is named here. Contract of the program's copyAll of slots.
-/
import Derived.Test.YtaehfeobfkaicaaGreatCacheGetG14
import Derived.Test.YtaehfeobfkaicaaGreatCacheGetG28
import Derived.Test.YtaehfeobfkaicaaGreatCacheGetG26
import Derived.Test.YtaehfeobfkaicaaGreatCacheGetG05
namespace Go.Proofs.YtaehfeobfkaicaaGreat
open Go.RowKit
set_option linter.unusedVariables false

set_option maxHeartbeats 4000000 in
set_option maxRecDepth 100000 in
theorem copySlot_own {vn vr : Value} {x : Slt} {w : World} (h : HasS2 w vn vr x) (hs : ShortS x) :
  Calls Tryz.prog 97 #[.agg #[vn, .int .i64 x.type, .int .i64 x.kind, vr, .int .i64 x.rank, .int .i64 x.till, .int .i64 x.used]] w fun e w' => ∃ un ur, e = .returned (.agg #[un, .int .i64 x.type, .int .i64 x.kind, ur, .int .i64 x.rank, .int .i64 x.till, .int .i64 x.used]) ∧ OwnS2 67 56 5 3 w.heap.size w'.heap.size w' un ur x ∧ Below w.heap.size w w' := by
 obtain ⟨na, nc, rfl, _⟩ := h.name.form
 obtain ⟨ra, rc, rfl, _⟩ := h.rrs.form
 obtain ⟨hsz, k0, r0⟩ := box2 w (.cells #[.slice na x.name.length nc, .int .i64 x.type, .int .i64 x.kind, .slice ra x.rrs.length rc, .int .i64 x.rank, .int .i64 x.till, .int .i64 x.used] 71) #[.slice none 0 0, .int .i64 0, .int .i64 0, .slice none 0 0, .int .i64 0, .int .i64 0, .int .i64 0] 71
 have b0 := below2 w (.cells #[.slice na x.name.length nc, .int .i64 x.type, .int .i64 x.kind, .slice ra x.rrs.length rc, .int .i64 x.rank, .int .i64 x.till, .int .i64 x.used] 71) (.cells #[.slice none 0 0, .int .i64 0, .int .i64 0, .slice none 0 0, .int .i64 0, .int .i64 0, .int .i64 0] 71)
 have CN := fun (w : World) (hh : HasL w (.slice na x.name.length nc) x.name) => copyName_has hh hs.1.1 hs.1.2
 have CR := fun (w : World) (hh : HasRs w (.slice ra x.rrs.length rc) x.rrs) => copyAllR_own hh (by have := hs.2.1; omega) hs.2.2
 replace CN := UC CN
 replace CR := UC CR
 have KB := UC k0
 have KR := UC r0
 have zr := VC r0
 have F1 := UC (h.below b0)
 clear hsz k0 r0 h hs
 go_enter Tryz.func97, Tryz.ntmps97
 go_wp2_with fail
 generalize (w.alloc (.cells #[.slice na x.name.length nc, .int .i64 x.type, .int .i64 x.kind, .slice ra x.rrs.length rc, .int .i64 x.rank, .int .i64 x.till, .int .i64 x.used] 71)).alloc (.cells #[.slice none 0 0, .int .i64 0, .int .i64 0, .slice none 0 0, .int .i64 0, .int .i64 0, .int .i64 0] 71) = W at *
 have bd := UX (w := W)
 have bb := UG b0 bd
 replace KB := UC (UE bd (UB KB))
 replace KR := UC (UE bd (UB KR))
 replace F1 := UC ((UB F1).below bd)
 have z0 := bd.size
 clear bd b0
 refine startC [0, 3, 1, 4, 2, 6, 5, 7, 8, 9] (by kernel_rfl) ⟨by kernel_rfl, by kernel_rfl, by kernel_rfl, by kernel_rfl⟩ 4 [(1, fun w' => w'.cell? ⟨w.heap.size, 0, none⟩ = some (.slice na x.name.length nc)), (4, fun w' => w'.cell? ⟨w.heap.size, 3, none⟩ = some (.slice ra x.rrs.length rc))] (fun hA => ?_)
 replace hA := UC hA
 repeat ((first | (refine VN ?_ (UB hA) rfl rfl rfl (by rfl) (fun _ _ _ h => h) ?_ ?_; rotate_left; · (intro w; go_simp <;> with_reducible rfl)) | refine VM (UB hA) rfl rfl (by rfl) (fun _ _ _ h => h) ?_); go_simp)
 refine takeC ?_ (UB hA) rfl rfl rfl (by rfl) (fun _ _ _ h => h) (.head _) (UJ (UB KB)).1 ?_ ?_; rotate_left; (· (intro w hSw; (try dsimp only at hSw); go_simp <;> with_reducible rfl)); go_simp
 refine takeC ?_ (UB hA) rfl rfl rfl (by rfl) (fun _ _ _ h => h) (.tail _ (.head _)) (UJ (UB KB)).2.2.2.1 ?_ ?_; rotate_left; (· (intro w hSw; (try dsimp only at hSw); go_simp <;> with_reducible rfl)); go_simp
 refine runC (UB hA) rfl rfl (by kernel_rfl) (by kernel_rfl) (fun K hK => ?_)
 have HK := UC hK
 clear hK
 go_simp
 refine (UB CN _ (UB F1).name).mono ?_
 rintro e w5 ⟨v5, rfl, o5, b5⟩
 obtain ⟨na2, nc2, rfl, _⟩ := o5.hasL.form
 have KB5 := UC (UE b5 (UB KB))
 have KR5 := UC (UE b5 (UB KR))
 have F5 := UC ((UB F1).below b5)
 have N5 := UC o5.here
 have bb5 := UG bb b5
 have z5 := b5.size
 clear b5 o5
 refine (UB HK).out _ _ (VB (by kernel_rfl) (keepC_yes (UJ (UB KB5)).2.2.2.1 VL)) ?_
 clear HK K
 go_simp
 repeat ((first | (refine VN ?_ (UB hA) rfl rfl rfl (by rfl) (fun _ _ _ h => h) ?_ ?_; rotate_left; · (intro w; go_simp <;> with_reducible rfl)) | refine VM (UB hA) rfl rfl (by rfl) (fun _ _ _ h => h) ?_); go_simp)
 refine runC (UB hA) rfl rfl (by kernel_rfl) (by kernel_rfl) (fun K hK => ?_)
 have HK := UC hK
 clear hK
 go_simp
 refine (UB CR _ (UB F5).rrs).mono ?_
 rintro e w6 ⟨v6, rfl, o6, b6⟩
 obtain ⟨ra2, rc2, rfl, _⟩ := o6.form
 have KB6 := UC (UE b6 (UB KB5))
 have KR6 := UC (UE b6 (UB KR5))
 have N6 := UC ((UB N5).below b6)
 have R6 := UC o6
 have bb6 := UG bb5 b6
 have z6 := b6.size
 obtain ⟨d0, d1, d2, d3, d4, d5, d6⟩ := UJ (UB KB6)
 obtain ⟨f0, f1, f2, f3, f4, f5, f6⟩ := VI (UB KB6)
 clear b6 o6
 refine (UB HK).out _ _ (VB (by kernel_rfl) (VB (by kernel_rfl) VL)) ?_
 clear HK K
 go_simp
 refine runC (UB hA) rfl rfl (by kernel_rfl) (by kernel_rfl) (fun K hK => ?_)
 have HK := UC hK
 clear hK
 go_simp
 refine (UB HK).out _ _ (VB (by kernel_rfl) (VB (by kernel_rfl) VL)) ?_
 clear HK K
 go_simp
 repeat ((first | (refine VN ?_ (UB hA) rfl rfl rfl (by rfl) (fun _ _ _ h => h) ?_ ?_; rotate_left; · (intro w; go_simp <;> with_reducible rfl)) | refine VM (UB hA) rfl rfl (by rfl) (fun _ _ _ h => h) ?_); go_simp)
 refine runC (UB hA) rfl rfl (by kernel_rfl) (by kernel_rfl) (fun K hK => ?_)
 have HK := UC hK
 clear hK
 go_simp
 refine (UB HK).out _ _ (VB (by kernel_rfl) (VB (by kernel_rfl) VL)) ?_
 clear HK K
 go_simp
 refine doneC (UB hA) rfl ?_
 clear hA
 clear d0 f0 d1 f1 d2 f2 d3 f3 d4 f4 d5 f5 d6 f6
 have KB7 : Hid (((w6.setCell ⟨w.heap.size, 0, none⟩ (.slice na2 x.name.length nc2)).setCell ⟨w.heap.size, 3, none⟩ (.slice ra2 x.rrs.length rc2)).heap[w.heap.size]? = some (.cells #[.slice na2 x.name.length nc2, .int .i64 x.type, .int .i64 x.kind, .slice ra2 x.rrs.length rc2, .int .i64 x.rank, .int .i64 x.till, .int .i64 x.used] 71)) := UV (UV (UB KB6) 0 _) 3 _
 have u7 := (UT w6 w.heap.size 0 (.slice na2 x.name.length nc2)).trans (UT _ w.heap.size 3 (.slice ra2 x.rrs.length rc2))
 generalize (w6.setCell ⟨w.heap.size, 0, none⟩ (.slice na2 x.name.length nc2)).setCell ⟨w.heap.size, 3, none⟩ (.slice ra2 x.rrs.length rc2) = w7 at *
 have N7 := UC ((UB N6).outside u7 (.inr (by omega)))
 have R7 := UC (RowO.outside (UB R6) u7 (.inr (by omega)))
 have KR7 := UC (u7.kept (UB KR6) (by omega))
 have bb7 := u7.below bb6 (Nat.le_refl _)
 have z7 := u7.size
 obtain ⟨d0, d1, d2, d3, d4, d5, d6⟩ := UJ (UB KB7)
 obtain ⟨g0, g1, g2, g3, g4, g5, g6⟩ := UJ (UB KR7)
 obtain ⟨y0, y1, y2, y3, y4, y5, y6⟩ := VI (UB KR7)
 clear N5 N6 R6 u7 bb bb5 bb6 KB KB5 KB6 KR KR5 KR6 CN CR F1 F5
 go_wp2_with fail
 clear d0 g0 y0 d1 g1 y1 d2 g2 y2 d3 g3 y3 d4 g4 y4 d5 g5 y5 d6 g6 y6
 obtain ⟨R8, u8⟩ := set7 (c0 := .slice na2 x.name.length nc2) (c1 := .int .i64 x.type) (c2 := .int .i64 x.kind) (c3 := .slice ra2 x.rrs.length rc2) (c4 := .int .i64 x.rank) (c5 := .int .i64 x.till) (c6 := .int .i64 x.used) (UB KR7)
 have z8 := u8.size
 refine bodyPost_ret (results_cell_row rfl _ _ (w.heap.size + 1) 71 #[.slice na2 x.name.length nc2, .int .i64 x.type, .int .i64 x.kind, .slice ra2 x.rrs.length rc2, .int .i64 x.rank, .int .i64 x.till, .int .i64 x.used] (0, 0) _ rfl R8 Tryz.underlying71 rfl (by kernel_rfl)) rfl ?_
 exact ⟨_, _, rfl, ⟨w5.heap.size, by omega, by omega, ((UB N7).outside u8 (.inr (by omega))).wide (by omega) (by omega), RowO.wide (RowO.outside (UB R7) u8 (.inr (by omega))) (by omega) (by omega)⟩, u8.below bb7 (by omega)⟩
theorem OwnsG.grown {α : Type} {c : Nat} {O : Nat → Nat → World → List Value → α → Prop} (hO : OwnsG c O) {B e : Nat} {w w' : World} {vs : List Value} {x : α} {row : Option Nat} (h : O B e w vs x) (hg : w.grownBy w' row) (hr : ∀ q, row = some q → q < B ∨ e ≤ q) : O B e w' vs x := by
 cases hrow : row with
 | none =>
  subst hrow
  exact hO.below h (below_of_grown hg)
 | some q =>
  subst hrow
  have u : Outside q (q + 1) w w' := outside_grown hg (fun k hk => by injection hk with hk; omega)
  have := hr q rfl
  exact hO.outside h u (by omega)
section
variable {α : Type} {c : Nat} {O : Nat → Nat → World → List Value → α → Prop} {d : α} {B E C D : Nat} {e : TypeId} {W w' : World} {v v' : Value} {xs : List α} {x : α} {us : List Value}
theorem RowX.snoc (hO : OwnsG c O) (h : RowX c O d B E e W v xs) (hE : E ≤ C) (hCD : C ≤ D) (hD : D ≤ W.heap.size) (hr : O C D W us x) (hB : B ≤ C) (hg : W.grownBy w' v.ownBlock) (hw : v'.ownBlock = v.ownBlock ∨ v'.ownBlock = some W.heap.size)
  (ho : ∀ cs, W.ownsRow B e c v xs.length cs → w'.ownsRow B e c v' (xs.length + 1) (cs ++ us)) : RowX c O d B w'.heap.size e w' v' (xs ++ [x]) := by
 obtain ⟨cs, f, g, h0, hq, hx⟩ := h
 have ho' := ho cs h0
 have hlen : cs.length = xs.length * c := h0.1
 have hz := hg.size
 have hvq : ∀ q, v.ownBlock = some q → q < C ∨ D ≤ q := fun q e => by have := hq q e; omega
 refine ⟨cs ++ us, fun i => if i < xs.length then f i else C, fun i => if i < xs.length then g i else D, by rw [List.length_append]; exact ho', fun q e => (World.ownsRow.lt ho' q e).2, fun i hi => ?_⟩
 rw [List.length_append] at hi
 simp only [List.length_cons, List.length_nil] at hi
 by_cases hlt : i < xs.length
 ·obtain ⟨h1, h2, h3, h4, vs, q1, q2⟩ := hx i hlt
  simp only [hlt, if_true]
  have e1 : (xs ++ [x]).getD i d = xs.getD i d := by rw [List.getD_eq_getElem?_getD, List.getElem?_append_left hlt, ← List.getD_eq_getElem?_getD]
  rw [e1]
  refine ⟨h1, by omega, fun k hk => ?_, fun q e => ?_, vs, fun j u hj => ?_, hO.grown q2 hg h4⟩
  ·rw [if_pos (by omega)]
   exact h3 k hk
  ·rcases hw with hw | hw
   ·rw [hw] at e
    exact h4 q e
   ·rw [hw] at e
    injection e with e
    omega
  ·have hjc : j < c := by rw [← hO.cells q2]; exact (List.getElem?_eq_some_iff.1 hj).1
   rw [List.getElem?_append_left (by rw [hlen]; exact idx_lt hlt hjc)]
   exact q1 j u hj
 ·obtain rfl : i = xs.length := by omega
  simp only [Nat.lt_irrefl, if_false]
  have e1 : (xs ++ [x]).getD xs.length d = x := by rw [List.getD_eq_getElem?_getD]; simp
  rw [e1]
  refine ⟨hB, by omega, fun k hk => ?_, fun q e => ?_, us, fun j u hj => ?_, hO.grown hr hg hvq⟩
  ·rw [if_pos hk]
   have := (hx k hk).2.1
   omega
  ·rcases hw with hw | hw
   ·rw [hw] at e
    exact hvq q e
   ·rw [hw] at e
    injection e with e
    omega
  ·rw [List.getElem?_append_right (by omega), hlen, Nat.add_sub_cancel_left]
   exact hj
theorem RowX.one (hO : OwnsG c O) {g : Nat} {cs : Array Value} {w : World} (hg : w.heap[g]? = some (.cells cs e)) (hc : cs.toList = us) (hul : us.length = c) (hr : O C D w us x) (hBg : B ≤ g) (hBC : B ≤ C) (hCD : C ≤ D) (hDE : D ≤ E) (hgE : g < E) (hgo : g < C ∨ D ≤ g) : RowX c O d B E e w (.slice (some ⟨g, 0, none⟩) 1 1) [x] := by
 have hs : cs.size = c := by rw [← Array.length_toList, hc, hul]
 refine ⟨us, fun _ => C, fun _ => D, ⟨by simp [hul], .inr ⟨g, 1, cs, rfl, hBg, hg, Nat.le_refl _, by unfold maxLen; omega, by omega, ?_⟩⟩, fun q e => ?_, fun i hi => ?_⟩
 ·rw [hc]
  exact List.take_of_length_le (by simp only [List.length_cons, List.length_nil]; omega)
 ·injection e with e
  have e' : g = q := e
  omega
 ·simp only [List.length_cons, List.length_nil] at hi
  obtain rfl : i = 0 := by omega
  refine ⟨hBC, hDE, fun k hk => absurd hk (Nat.not_lt_zero _), fun q e => ?_, us, fun j u hj => by rwa [Nat.zero_mul, Nat.zero_add], hr⟩
  injection e with e
  have e' : g = q := e
  subst e'
  exact hgo
end
section
variable {P : Program} {w : World}
theorem where_one {t ty e : TypeId} {c bytes : Nat} (ht : P.underlying t = some (.slice e)) {zs : Array Value} (hinfo : (P.info? e).map (fun i => (i.zero, i.size, i.bytes)) = some (some (.agg zs), c, bytes)) (hzs : zs.size = c) (hb : bytes ≤ 1000)
  {base : Nat} {v : Value} {n : Nat} {xs : List Value} (hown : w.ownsRow base e c v n xs) {ad : Addr} {m cap : Nat} {news : List Value} (hl : news.length = m * c) (hc : ∀ j u, news[j]? = some u → w.cell? (ad.add j) = some u) (h1 : ∀ u ∈ news, u.oneCell' = true)
  (hm : 0 < m) (hlen : n + m ≤ 1000000) {v' : Value} {w' : World}
  (hrun : (Builtin.append_ #[t, t] ty #[v, .slice (some ad) m cap]).run P w = .ok v' w') : v'.ownBlock = v.ownBlock ∨ v'.ownBlock = some w.heap.size := by
 obtain ⟨i0, hi, hz0, hz1, hz2⟩ := info_parts hinfo
 have hmb : m * bytes ≤ 1000000 * 1000 := Nat.mul_le_mul (by omega) hb
 have hnb : (n + m) * bytes ≤ 1000000 * 1000 := Nat.mul_le_mul (by omega) hb
 rcases hown.2 with ⟨rfl, h0⟩ | ⟨g, cp, cur, rfl, hbg, hg, hnc, hcm, hcs, htake⟩
 ·rw [run_append_nil (P := P) w t ty e i0 (.agg zs) ht hi hz0 ad m cap news (by rw [hz1]; exact hl) hc hm (by omega) (by rw [hz2]; omega)] at hrun
  simp only [Result.ok.injEq] at hrun
  right; rw [← hrun.1]; rfl
 ·by_cases hroom : n + m ≤ cp
  ·have hsz : n * c + m * c ≤ cp * c := by rw [← Nat.add_mul]; exact Nat.mul_le_mul_right _ hroom
   rw [run_append_room (P := P) w t ty e i0 ht hi g n cp cur hg ad m cap news (by rw [hz1]; exact hl) hc h1 hroom (by rw [hz1, hcs, hl]; exact hsz)] at hrun
   simp only [Result.ok.injEq] at hrun
   left; rw [← hrun.1]; rfl
  ·have holds : ∀ j u, xs[j]? = some u → w.cell? ((⟨g, 0, none⟩ : Addr).add j) = some u := World.ownsRow.cells hown (g := g) rfl
   rw [run_append_grow (P := P) w t ty e i0 (.agg zs) ht hi hz0 ⟨g, 0, none⟩ n cp xs (by rw [hz1]; exact hown.1) holds ad m cap news (by rw [hz1]; exact hl) hc (by omega) (by omega) (growslice_fits (by omega) (by rw [hz2]; omega))] at hrun
   simp only [Result.ok.injEq] at hrun
   right; rw [← hrun.1]; rfl
theorem append_oneX {ops : Array Oper} {rest : List Oper} {o : Oper} {a : Act} {Q : Exit → Act → World → Prop} (hgd : o.guard = none) (s x : Operand) (t e : TypeId)
  (ho : o.op = .call { callee := .builtin .append, args := #[s, x], argTypes := #[t, t] }) (ht : P.underlying t = some (.slice e)) (zs : Array Value) (c bytes : Nat) (hb : bytes ≤ 1000) (hc0 : 0 < c)
  (hinfo : (P.info? e).map (fun i => (i.zero, i.size, i.bytes)) = some (some (.agg zs), c, bytes)) (hzs : zs.size = c)
  (base : Nat) (v : Value) (n : Nat) (hs : a.eval s = v) (g : Nat) (cs : List Value) (hx : a.eval x = .slice (some ⟨g, 0, none⟩) 1 1) (hown : ∃ xs, w.ownsRow base e c v n xs)
  (hg : w.heap[g]? = some (.cells cs.toArray e)) (hcl : cs.length = c) (h1 : ∀ u ∈ cs, u.oneCell' = true) (hlen : n ≤ 1000) (hbase : base ≤ w.heap.size)
  (h : ∀ v' w', (∀ xs, w.ownsRow base e c v n xs → w'.ownsRow base e c v' (n + 1) (xs ++ cs)) → w.grownBy w' v.ownBlock → (v'.ownBlock = v.ownBlock ∨ v'.ownBlock = some w.heap.size) → wpList P ops Q rest (a.put o.dst v') w') : wpList P ops Q (o :: rest) a w := by
 refine wpList_plain hgd fun _ hK => ?_
 obtain ⟨i0, hi, hz0, hz1, hz2⟩ := info_parts hinfo
 have hc : ∀ j u, cs[j]? = some u → w.cell? ((⟨g, 0, none⟩ : Addr).add j) = some u := fun j u hj => by
  rw [Addr.add_lit, Nat.zero_add, VE hg]
  simpa using hj
 have run : ∀ xs, w.ownsRow base e c v n xs → ∃ v' w', (Builtin.append_ #[t, t] o.type #[v, .slice (some ⟨g, 0, none⟩) 1 1]).run P w = .ok v' w' ∧ w'.ownsRow base e c v' (n + 1) (xs ++ cs) ∧ w.grownBy w' v.ownBlock := fun xs hxs => by
  obtain ⟨v', w', h2, h3, h4, _⟩ := run_append_own (P := P) w base t o.type e i0 (.agg zs) c bytes ht hi hz0 hz1 hz2 hzs hc0 v n xs hxs ⟨g, 0, none⟩ 1 1 cs (by rw [hcl, Nat.one_mul]) hc h1 (by unfold maxLen; omega) (Nat.le_trans (Nat.mul_le_mul (show n + 1 ≤ 1001 by omega) hb) (by decide)) hbase
  exact ⟨v', w', h2, h3, h4⟩
 obtain ⟨xs0, hx0⟩ := hown
 obtain ⟨v', w', hr', h2, h3⟩ := run xs0 hx0
 have h4 := where_one ht hinfo hzs hb hx0 (m := 1) (by rw [hcl, Nat.one_mul]) hc h1 (by decide) (by omega) hr'
 have hall : ∀ xs, w.ownsRow base e c v n xs → w'.ownsRow base e c v' (n + 1) (xs ++ cs) := fun xs hxs => by
  obtain ⟨v2, w2, hr2, h22, _⟩ := run xs hxs
  rw [hr'] at hr2
  simp only [Result.ok.injEq] at hr2
  rw [hr2.1, hr2.2]
  exact h22
 unfold Oper.wp execOp
 simp only [ho, resolve, invoke, builtin, Sem.run_bind, Sem.run_pure, Result.andThen_ok, List.map_toArray, List.map_cons, List.map_nil, hs, hx, hr']
 exact hK _ _ (h v' w' hall h3 h4)
end
section
variable {P : Program} {w : World}
theorem append_oneW {o : Oper} {a : Act} {K : Act → World → Prop} {Q : Exit → Act → World → Prop} (s x : Operand) (t e : TypeId)
  (ho : o.op = .call { callee := .builtin .append, args := #[s, x], argTypes := #[t, t] }) (ht : P.underlying t = some (.slice e)) (zs : Array Value) (c bytes : Nat) (hb : bytes ≤ 1000) (hc0 : 0 < c)
  (hinfo : (P.info? e).map (fun i => (i.zero, i.size, i.bytes)) = some (some (.agg zs), c, bytes)) (hzs : zs.size = c)
  (base : Nat) (v : Value) (n : Nat) (hs : a.eval s = v) (g : Nat) (cs : List Value) (hx : a.eval x = .slice (some ⟨g, 0, none⟩) 1 1) (hown : ∃ xs, w.ownsRow base e c v n xs)
  (hg : w.heap[g]? = some (.cells cs.toArray e)) (hcl : cs.length = c) (h1 : ∀ u ∈ cs, u.oneCell' = true) (hlen : n ≤ 1000) (hbase : base ≤ w.heap.size)
  (h : ∀ v' w', (∀ xs, w.ownsRow base e c v n xs → w'.ownsRow base e c v' (n + 1) (xs ++ cs)) → w.grownBy w' v.ownBlock → (v'.ownBlock = v.ownBlock ∨ v'.ownBlock = some w.heap.size) → K (a.put o.dst v') w') : Oper.wp P o a w K Q := by
 obtain ⟨i0, hi, hz0, hz1, hz2⟩ := info_parts hinfo
 have hc : ∀ j u, cs[j]? = some u → w.cell? ((⟨g, 0, none⟩ : Addr).add j) = some u := fun j u hj => by
  rw [Addr.add_lit, Nat.zero_add, VE hg]
  simpa using hj
 have run : ∀ xs, w.ownsRow base e c v n xs → ∃ v' w', (Builtin.append_ #[t, t] o.type #[v, .slice (some ⟨g, 0, none⟩) 1 1]).run P w = .ok v' w' ∧ w'.ownsRow base e c v' (n + 1) (xs ++ cs) ∧ w.grownBy w' v.ownBlock := fun xs hxs => by
  obtain ⟨v', w', h2, h3, h4, _⟩ := run_append_own (P := P) w base t o.type e i0 (.agg zs) c bytes ht hi hz0 hz1 hz2 hzs hc0 v n xs hxs ⟨g, 0, none⟩ 1 1 cs (by rw [hcl, Nat.one_mul]) hc h1 (by unfold maxLen; omega) (Nat.le_trans (Nat.mul_le_mul (show n + 1 ≤ 1001 by omega) hb) (by decide)) hbase
  exact ⟨v', w', h2, h3, h4⟩
 obtain ⟨xs0, hx0⟩ := hown
 obtain ⟨v', w', hr', h2, h3⟩ := run xs0 hx0
 have h4 := where_one ht hinfo hzs hb hx0 (m := 1) (by rw [hcl, Nat.one_mul]) hc h1 (by decide) (by omega) hr'
 have hall : ∀ xs, w.ownsRow base e c v n xs → w'.ownsRow base e c v' (n + 1) (xs ++ cs) := fun xs hxs => by
  obtain ⟨v2, w2, hr2, h22, _⟩ := run xs hxs
  rw [hr'] at hr2
  simp only [Result.ok.injEq] at hr2
  rw [hr2.1, hr2.2]
  exact h22
 unfold Oper.wp execOp
 simp only [ho, resolve, invoke, builtin, Sem.run_bind, Sem.run_pure, Result.andThen_ok, List.map_toArray, List.map_cons, List.map_nil, hs, hx, hr']
 exact h v' w' hall h3 h4
end
theorem info_SlG : (Tryz.prog.info? 71).map (fun i => (i.zero, i.size, i.bytes)) = some (some (.agg #[.slice none 0 0, .int .i64 0, .int .i64 0, .slice none 0 0, .int .i64 0, .int .i64 0, .int .i64 0]), 7, 88) := by kernel_rfl

set_option maxHeartbeats 4000000 in
set_option maxRecDepth 100000 in
theorem copyAllS_own {v : Value} {l : List Slt} {w : World} (h : HasSs w v l) (h8 : l.length ≤ 8) (hsh : ∀ j, j < l.length → ShortS (l.getD j VK)) :
  Calls Tryz.prog 96 #[v, .func (Fn.func 97) #[] #[]] w fun e w' => ∃ x, e = .returned x ∧ RowX 7 (OwnSl 67 56 5 3) VK w.heap.size w'.heap.size 71 w' x (l) ∧ Below w.heap.size w w' := by
 obtain ⟨a, ca, rfl, _⟩ := h.form
 have H := UC h
 have HSH := UC hsh
 have hT0 : l.take l.length = l := List.take_length
 clear h hsh
 generalize hm : l.length = m at *
 have HN := UC hm
 have HT := UC hT0
 clear hm hT0
 go_enter Tryz.func96, Tryz.ntmps96
 go_wp2_with fail
 go_loopw [5, 10] (fun v i wr => ∃ k : Nat, k ≤ m ∧ i = .int .i64 k ∧ RowX 7 (OwnSl 67 56 5 3) VK w.heap.size wr.heap.size 71 wr v (l.take k) ∧ Below w.heap.size w wr) (fun _ i _ => m - (intOf i).toNat)
 case atStart => exact ⟨0, Nat.zero_le _, rfl, by simpa using RowX.nil _, Below.refl _ _⟩
 case round =>
  obtain ⟨k, hk, rfl, hrow, hbw⟩ := hrel
  by_cases hlt : k < m
  ·have hkm : (k : Int) < m := by omega
   obtain ⟨va, vc, rfl, _⟩ := hrow.form
   obtain ⟨b, off, vs, rfl, hbl, hc, vn, vr, rfl, hu⟩ := (VF (UB H) hbw).here (k := k) (by rw [UB HN]; exact hlt)
   obtain ⟨na, nc, rfl, _⟩ := hu.name.form
   obtain ⟨ra, rc, rfl, _⟩ := hu.rrs.form
   have HSK := UC (UB HSH k hlt)
   have HMS := UC (show l.take (k + 1) = l.take k ++ [l.getD k VK] by rw [List.take_succ_eq_append_getElem (by rw [UB HN]; exact hlt)]; simp [show k < l.length by rw [UB HN]; exact hlt])
   have hlen : (l.take k).length ≤ k := by rw [List.length_take]; omega
   obtain ⟨c0, c1, c2, c3, c4, c5, c6⟩ := VH hc
   have ba := UI (w := wr) (.cells #[.slice na (l.getD k VK).name.length nc, .int .i64 (l.getD k VK).type, .int .i64 (l.getD k VK).kind, .slice ra (l.getD k VK).rrs.length rc, .int .i64 (l.getD k VK).rank, .int .i64 (l.getD k VK).till, .int .i64 (l.getD k VK).used] 71)
   have K1 := UC (heap_alloc_new wr (.cells #[.slice na (l.getD k VK).name.length nc, .int .i64 (l.getD k VK).type, .int .i64 (l.getD k VK).kind, .slice ra (l.getD k VK).rrs.length rc, .int .i64 (l.getD k VK).rank, .int .i64 (l.getD k VK).till, .int .i64 (l.getD k VK).used] 71))
   have RO := UC (RowX.below (ownsSl 67 56 5 3) hrow ba)
   have HU := UC (hu.below ba)
   have bb := UG hbw ba
   have zr := hbw.size
   have za := ba.size
   obtain ⟨s0, s1, s2, s3, s4, s5, s6⟩ := UJ (UB K1)
   clear hc hu ba hrow hbw
   generalize l.getD k VK = rk at *
   generalize l.take k = lk at *
   generalize hLL : lk.length = L at *
   have HLEN := UC hLL
   clear hLL
   go_wp2_with fail
   clear c0 s0 c1 s1 c2 s2 c3 s3 c4 s4 c5 s5 c6 s6
   generalize wr.alloc (.cells #[.slice na rk.name.length nc, .int .i64 rk.type, .int .i64 rk.kind, .slice ra rk.rrs.length rc, .int .i64 rk.rank, .int .i64 rk.till, .int .i64 rk.used] 71) = W2 at *
   refine (copySlot_own (UB HU) (UB HSK)).mono ?_
   rintro e w6 ⟨un, ur, rfl, o6, b6⟩
   obtain ⟨s6, t1, t2, p6, r6⟩ := id o6
   obtain ⟨na6, nc6, rfl, _⟩ := p6.hasL.form
   obtain ⟨ra6, rc6, rfl, _⟩ := r6.form
   have b7 := UI (w := w6) (.cells #[.slice na6 rk.name.length nc6, .int .i64 rk.type, .int .i64 rk.kind, .slice ra6 rk.rrs.length rc6, .int .i64 rk.rank, .int .i64 rk.till, .int .i64 rk.used] 71)
   have G7 := UC (heap_alloc_new w6 (.cells #[.slice na6 rk.name.length nc6, .int .i64 rk.type, .int .i64 rk.kind, .slice ra6 rk.rrs.length rc6, .int .i64 rk.rank, .int .i64 rk.till, .int .i64 rk.used] 71))
   have O7 := UC (OwnS2.below o6 b7)
   have RO7 := UC (RowX.below (ownsSl 67 56 5 3) (RowX.below (ownsSl 67 56 5 3) (UB RO) b6) b7)
   have bb7 := UG (UG bb b6) b7
   have z6 := b6.size
   have z7 := b7.size
   obtain ⟨cs0, f0, g0, hx0, _⟩ := UB RO7
   rw [UB HLEN] at hx0
   clear o6 p6 r6 b6 b7 HU HSK RO bb K1
   go_wp2_with (at_builtin; refine append_oneX rfl _ _ 28 71 rfl Tryz.underlying28 _ 7 88 (by omega) (by omega) info_SlG rfl w.heap.size (.slice va L vc) L rfl w6.heap.size [.slice na6 rk.name.length nc6, .int .i64 rk.type, .int .i64 rk.kind, .slice ra6 rk.rrs.length rc6, .int .i64 rk.rank, .int .i64 rk.till, .int .i64 rk.used] rfl ⟨cs0, hx0⟩ (UB G7) rfl (by simp [Value.oneCell']) (by omega) (by omega) ?_)
   intro v8 w8 h8' g8 hw8
   have row8 := RowX.snoc (ownsSl 67 56 5 3) (x := rk) (us := [.slice na6 rk.name.length nc6, .int .i64 rk.type, .int .i64 rk.kind, .slice ra6 rk.rrs.length rc6, .int .i64 rk.rank, .int .i64 rk.till, .int .i64 rk.used]) (UB RO7) (C := W2.heap.size) (D := w6.heap.size) (by omega) (by omega) (by omega) ⟨_, _, rfl, UB O7⟩ (by omega) g8 (by rw [World.size_alloc]; exact hw8) (by rw [UB HLEN]; exact h8')
   rw [← UB HMS] at row8
   have ROW8 := UC row8
   have bb8 := bb7.grown g8 bb7.size (fun j e => (World.ownsRow.lt hx0 j e).1)
   clear hx0 h8' g8 hw8 O7 RO7 bb7 row8 G7
   go_wp2_with fail
   exact ⟨⟨k + 1, by omega, by go_num, UB ROW8, bb8⟩, by simp [intOf]; omega⟩
  ·obtain rfl : k = m := by omega
   rw [UB HT] at hrow
   go_wp2
   go_ret
   exact ⟨_, rfl, hrow, hbw⟩
end Go.Proofs.YtaehfeobfkaicaaGreat
