/-
  Contract of the program's copySlot. Plain facts: one struct more behind a row that owns its structs. No program is named here. Plain facts: one struct more behind a row that owns its structs, as one operation of a region. No program is named here.
-/
import Derived.Test.YtpolekinfobecaaGreatCacheTickG15
import Derived.Test.YtpolekinfobecaaGreatCacheTickG28
import Derived.Test.YtpolekinfobecaaGreatCacheTickG29
import Derived.Test.YtpolekinfobecaaGreatCacheTickG30
import Derived.Test.YtpolekinfobecaaGreatCacheTickG07
namespace Go.Proofs.YtpolekinfobecaaGreat
open Go.RowKit
set_option linter.unusedVariables false

set_option maxHeartbeats 4000000 in
set_option maxRecDepth 100000 in
theorem copySlot_own {vn vr : Value} {x : Slt} {w : World} (h : HasS2 w vn vr x) (hs : ShortS x) :
  Calls Tryz.prog 34 #[.agg #[vn, .int .i64 x.type, .int .i64 x.kind, vr, .int .i64 x.rank, .int .i64 x.till, .int .i64 x.used]] w fun e w' => ∃ un ur, e = .returned (.agg #[un, .int .i64 x.type, .int .i64 x.kind, ur, .int .i64 x.rank, .int .i64 x.till, .int .i64 x.used]) ∧ OwnS2 56 53 5 3 w.heap.size w'.heap.size w' un ur x ∧ Below w.heap.size w w' := by
 obtain ⟨na, nc, rfl, _⟩ := h.name.form
 obtain ⟨ra, rc, rfl, _⟩ := h.rrs.form
 obtain ⟨hsz, k0, r0⟩ := box2 w (.cells #[.slice na x.name.length nc, .int .i64 x.type, .int .i64 x.kind, .slice ra x.rrs.length rc, .int .i64 x.rank, .int .i64 x.till, .int .i64 x.used] 47) #[.slice none 0 0, .int .i64 0, .int .i64 0, .slice none 0 0, .int .i64 0, .int .i64 0, .int .i64 0] 47
 have b0 := below2 w (.cells #[.slice na x.name.length nc, .int .i64 x.type, .int .i64 x.kind, .slice ra x.rrs.length rc, .int .i64 x.rank, .int .i64 x.till, .int .i64 x.used] 47) (.cells #[.slice none 0 0, .int .i64 0, .int .i64 0, .slice none 0 0, .int .i64 0, .int .i64 0, .int .i64 0] 47)
 have CN := fun (w : World) (hh : HasL w (.slice na x.name.length nc) x.name) => copyName_has hh hs.1.1 hs.1.2
 have CR := fun (w : World) (hh : HasRs w (.slice ra x.rrs.length rc) x.rrs) => copyAllR_own hh (by have := hs.2.1; omega) hs.2.2
 replace CN := hide CN
 replace CR := hide CR
 have KB := hide k0
 have KR := hide r0
 have zr := block_lt r0
 have F1 := hide (h.below b0)
 clear hsz k0 r0 h hs
 go_enter Tryz.func34, Tryz.ntmps34
 go_wp2_with fail
 generalize (w.alloc (.cells #[.slice na x.name.length nc, .int .i64 x.type, .int .i64 x.kind, .slice ra x.rrs.length rc, .int .i64 x.rank, .int .i64 x.till, .int .i64 x.used] 47)).alloc (.cells #[.slice none 0 0, .int .i64 0, .int .i64 0, .slice none 0 0, .int .i64 0, .int .i64 0, .int .i64 0] 47) = W at *
 have bd := below_drew (w := W)
 have bb := below_next b0 bd
 replace KB := hide (block_kept bd (unhide KB))
 replace KR := hide (block_kept bd (unhide KR))
 replace F1 := hide ((unhide F1).below bd)
 have z0 := bd.size
 clear bd b0
 refine startC [0, 3, 1, 4, 2, 6, 5, 7, 8, 9] (by kernel_rfl) ⟨by kernel_rfl, by kernel_rfl, by kernel_rfl, by kernel_rfl⟩ 4 [(1, fun w' => w'.cell? ⟨w.heap.size, 0, none⟩ = some (.slice na x.name.length nc)), (4, fun w' => w'.cell? ⟨w.heap.size, 3, none⟩ = some (.slice ra x.rrs.length rc))] (fun hA => ?_)
 replace hA := hide hA
 repeat ((first | (refine lookC ?_ (unhide hA) rfl rfl rfl (by rfl) (fun _ _ _ h => h) ?_ ?_; rotate_left; · (intro w; go_simp <;> with_reducible rfl)) | refine skipC (unhide hA) rfl rfl (by rfl) (fun _ _ _ h => h) ?_); go_simp)
 refine takeC ?_ (unhide hA) rfl rfl rfl (by rfl) (fun _ _ _ h => h) (.head _) (cells7 (unhide KB)).1 ?_ ?_; rotate_left; (· (intro w hSw; (try dsimp only at hSw); go_simp <;> with_reducible rfl)); go_simp
 refine takeC ?_ (unhide hA) rfl rfl rfl (by rfl) (fun _ _ _ h => h) (.tail _ (.head _)) (cells7 (unhide KB)).2.2.2.1 ?_ ?_; rotate_left; (· (intro w hSw; (try dsimp only at hSw); go_simp <;> with_reducible rfl)); go_simp
 refine runC (unhide hA) rfl rfl (by kernel_rfl) (by kernel_rfl) (fun K hK => ?_)
 have HK := hide hK
 clear hK
 go_simp
 refine (unhide CN _ (unhide F1).name).mono ?_
 rintro e w5 ⟨v5, rfl, o5, b5⟩
 obtain ⟨na2, nc2, rfl, _⟩ := o5.hasL.form
 have KB5 := hide (block_kept b5 (unhide KB))
 have KR5 := hide (block_kept b5 (unhide KR))
 have F5 := hide ((unhide F1).below b5)
 have N5 := hide o5.here
 have bb5 := below_next bb b5
 have z5 := b5.size
 clear b5 o5
 refine (unhide HK).out _ _ (keepC_late (by kernel_rfl) (keepC_yes (cells7 (unhide KB5)).2.2.2.1 keepC_nil)) ?_
 clear HK K
 go_simp
 repeat ((first | (refine lookC ?_ (unhide hA) rfl rfl rfl (by rfl) (fun _ _ _ h => h) ?_ ?_; rotate_left; · (intro w; go_simp <;> with_reducible rfl)) | refine skipC (unhide hA) rfl rfl (by rfl) (fun _ _ _ h => h) ?_); go_simp)
 refine runC (unhide hA) rfl rfl (by kernel_rfl) (by kernel_rfl) (fun K hK => ?_)
 have HK := hide hK
 clear hK
 go_simp
 refine (unhide CR _ (unhide F5).rrs).mono ?_
 rintro e w6 ⟨v6, rfl, o6, b6⟩
 obtain ⟨ra2, rc2, rfl, _⟩ := o6.form
 have KB6 := hide (block_kept b6 (unhide KB5))
 have KR6 := hide (block_kept b6 (unhide KR5))
 have N6 := hide ((unhide N5).below b6)
 have R6 := hide o6
 have bb6 := below_next bb5 b6
 have z6 := b6.size
 obtain ⟨d0, d1, d2, d3, d4, d5, d6⟩ := cells7 (unhide KB6)
 obtain ⟨f0, f1, f2, f3, f4, f5, f6⟩ := frozen7 (unhide KB6)
 clear b6 o6
 refine (unhide HK).out _ _ (keepC_late (by kernel_rfl) (keepC_late (by kernel_rfl) keepC_nil)) ?_
 clear HK K
 go_simp
 refine runC (unhide hA) rfl rfl (by kernel_rfl) (by kernel_rfl) (fun K hK => ?_)
 have HK := hide hK
 clear hK
 go_simp
 refine (unhide HK).out _ _ (keepC_late (by kernel_rfl) (keepC_late (by kernel_rfl) keepC_nil)) ?_
 clear HK K
 go_simp
 repeat ((first | (refine lookC ?_ (unhide hA) rfl rfl rfl (by rfl) (fun _ _ _ h => h) ?_ ?_; rotate_left; · (intro w; go_simp <;> with_reducible rfl)) | refine skipC (unhide hA) rfl rfl (by rfl) (fun _ _ _ h => h) ?_); go_simp)
 refine runC (unhide hA) rfl rfl (by kernel_rfl) (by kernel_rfl) (fun K hK => ?_)
 have HK := hide hK
 clear hK
 go_simp
 refine (unhide HK).out _ _ (keepC_late (by kernel_rfl) (keepC_late (by kernel_rfl) keepC_nil)) ?_
 clear HK K
 go_simp
 refine doneC (unhide hA) rfl ?_
 clear hA
 clear d0 f0 d1 f1 d2 f2 d3 f3 d4 f4 d5 f5 d6 f6
 have KB7 : Hid (((w6.setCell ⟨w.heap.size, 0, none⟩ (.slice na2 x.name.length nc2)).setCell ⟨w.heap.size, 3, none⟩ (.slice ra2 x.rrs.length rc2)).heap[w.heap.size]? = some (.cells #[.slice na2 x.name.length nc2, .int .i64 x.type, .int .i64 x.kind, .slice ra2 x.rrs.length rc2, .int .i64 x.rank, .int .i64 x.till, .int .i64 x.used] 47)) := block_setAt (block_setAt (unhide KB6) 0 _) 3 _
 have u7 := (outside_set w6 w.heap.size 0 (.slice na2 x.name.length nc2)).trans (outside_set _ w.heap.size 3 (.slice ra2 x.rrs.length rc2))
 generalize (w6.setCell ⟨w.heap.size, 0, none⟩ (.slice na2 x.name.length nc2)).setCell ⟨w.heap.size, 3, none⟩ (.slice ra2 x.rrs.length rc2) = w7 at *
 have N7 := hide ((unhide N6).outside u7 (.inr (by omega)))
 have R7 := hide (RowO.outside (unhide R6) u7 (.inr (by omega)))
 have KR7 := hide (u7.kept (unhide KR6) (by omega))
 have bb7 := u7.below bb6 (Nat.le_refl _)
 have z7 := u7.size
 obtain ⟨d0, d1, d2, d3, d4, d5, d6⟩ := cells7 (unhide KB7)
 obtain ⟨g0, g1, g2, g3, g4, g5, g6⟩ := cells7 (unhide KR7)
 obtain ⟨y0, y1, y2, y3, y4, y5, y6⟩ := frozen7 (unhide KR7)
 clear N5 N6 R6 u7 bb bb5 bb6 KB KB5 KB6 KR KR5 KR6 CN CR F1 F5
 go_wp2_with fail
 clear d0 g0 y0 d1 g1 y1 d2 g2 y2 d3 g3 y3 d4 g4 y4 d5 g5 y5 d6 g6 y6
 obtain ⟨R8, u8⟩ := set7 (c0 := .slice na2 x.name.length nc2) (c1 := .int .i64 x.type) (c2 := .int .i64 x.kind) (c3 := .slice ra2 x.rrs.length rc2) (c4 := .int .i64 x.rank) (c5 := .int .i64 x.till) (c6 := .int .i64 x.used) (unhide KR7)
 have z8 := u8.size
 refine bodyPost_ret (results_cell_row rfl _ _ (w.heap.size + 1) 47 #[.slice na2 x.name.length nc2, .int .i64 x.type, .int .i64 x.kind, .slice ra2 x.rrs.length rc2, .int .i64 x.rank, .int .i64 x.till, .int .i64 x.used] (0, 0) _ rfl R8 Tryz.underlying47 rfl (by kernel_rfl)) rfl ?_
 exact ⟨_, _, rfl, ⟨w5.heap.size, by omega, by omega, ((unhide N7).outside u8 (.inr (by omega))).wide (by omega) (by omega), RowO.wide (RowO.outside (unhide R7) u8 (.inr (by omega))) (by omega) (by omega)⟩, u8.below bb7 (by omega)⟩
end Go.Proofs.YtpolekinfobecaaGreat

namespace Go.Proofs.YtpolekinfobecaaGreat
open Go.RowKit
set_option linter.unusedVariables false

theorem OwnsG.grown {α : Type} {c : Nat} {O : Nat → Nat → World → List Value → α → Prop} (hO : OwnsG c O) {B e : Nat} {w w' : World} {vs : List Value} {x : α} {row : Option Nat} (h : O B e w vs x) (hg : w.grownBy w' row) (hr : ∀ q, row = some q → q < B ∨ e ≤ q) : O B e w' vs x := by
 cases hrow : row with
 | none =>
  subst hrow
  exact hO.below h (below_of_grown hg)
 | some q =>
  subst hrow
  have u : Outside q (q + 1) w w' := outside_grown hg (fun k hk => by injection hk with hk; omega)
  have := hr q rfl
  exact hO.outside h u (by omega)
section
variable {α : Type} {c : Nat} {O : Nat → Nat → World → List Value → α → Prop} {d : α} {B E C D : Nat} {e : TypeId} {W w' : World} {v v' : Value} {xs : List α} {x : α} {us : List Value}
theorem RowX.snoc (hO : OwnsG c O) (h : RowX c O d B E e W v xs) (hE : E ≤ C) (hCD : C ≤ D) (hD : D ≤ W.heap.size) (hr : O C D W us x) (hB : B ≤ C) (hg : W.grownBy w' v.ownBlock) (hw : v'.ownBlock = v.ownBlock ∨ v'.ownBlock = some W.heap.size)
  (ho : ∀ cs, W.ownsRow B e c v xs.length cs → w'.ownsRow B e c v' (xs.length + 1) (cs ++ us)) : RowX c O d B w'.heap.size e w' v' (xs ++ [x]) := by
 obtain ⟨cs, f, g, h0, hq, hx⟩ := h
 have ho' := ho cs h0
 have hlen : cs.length = xs.length * c := h0.1
 have hz := hg.size
 have hvq : ∀ q, v.ownBlock = some q → q < C ∨ D ≤ q := fun q e => by have := hq q e; omega
 refine ⟨cs ++ us, fun i => if i < xs.length then f i else C, fun i => if i < xs.length then g i else D, by rw [List.length_append]; exact ho', fun q e => (World.ownsRow.lt ho' q e).2, fun i hi => ?_⟩
 rw [List.length_append] at hi
 simp only [List.length_cons, List.length_nil] at hi
 by_cases hlt : i < xs.length
 ·obtain ⟨h1, h2, h3, h4, vs, q1, q2⟩ := hx i hlt
  simp only [hlt, if_true]
  have e1 : (xs ++ [x]).getD i d = xs.getD i d := by rw [List.getD_eq_getElem?_getD, List.getElem?_append_left hlt, ← List.getD_eq_getElem?_getD]
  rw [e1]
  refine ⟨h1, by omega, fun k hk => ?_, fun q e => ?_, vs, fun j u hj => ?_, hO.grown q2 hg h4⟩
  ·rw [if_pos (by omega)]
   exact h3 k hk
  ·rcases hw with hw | hw
   ·rw [hw] at e
    exact h4 q e
   ·rw [hw] at e
    injection e with e
    omega
  ·have hjc : j < c := by rw [← hO.cells q2]; exact (List.getElem?_eq_some_iff.1 hj).1
   rw [List.getElem?_append_left (by rw [hlen]; exact idx_lt hlt hjc)]
   exact q1 j u hj
 ·obtain rfl : i = xs.length := by omega
  simp only [Nat.lt_irrefl, if_false]
  have e1 : (xs ++ [x]).getD xs.length d = x := by rw [List.getD_eq_getElem?_getD]; simp
  rw [e1]
  refine ⟨hB, by omega, fun k hk => ?_, fun q e => ?_, us, fun j u hj => ?_, hO.grown hr hg hvq⟩
  ·rw [if_pos hk]
   have := (hx k hk).2.1
   omega
  ·rcases hw with hw | hw
   ·rw [hw] at e
    exact hvq q e
   ·rw [hw] at e
    injection e with e
    omega
  ·rw [List.getElem?_append_right (by omega), hlen, Nat.add_sub_cancel_left]
   exact hj
/-- A row of one struct, just made. -/
theorem RowX.one (hO : OwnsG c O) {g : Nat} {cs : Array Value} {w : World} (hg : w.heap[g]? = some (.cells cs e)) (hc : cs.toList = us) (hul : us.length = c) (hr : O C D w us x) (hBg : B ≤ g) (hBC : B ≤ C) (hCD : C ≤ D) (hDE : D ≤ E) (hgE : g < E) (hgo : g < C ∨ D ≤ g) : RowX c O d B E e w (.slice (some ⟨g, 0, none⟩) 1 1) [x] := by
 have hs : cs.size = c := by rw [← Array.length_toList, hc, hul]
 refine ⟨us, fun _ => C, fun _ => D, ⟨by simp [hul], .inr ⟨g, 1, cs, rfl, hBg, hg, Nat.le_refl _, by unfold maxLen; omega, by omega, ?_⟩⟩, fun q e => ?_, fun i hi => ?_⟩
 ·rw [hc]
  exact List.take_of_length_le (by simp only [List.length_cons, List.length_nil]; omega)
 ·injection e with e
  have e' : g = q := e
  omega
 ·simp only [List.length_cons, List.length_nil] at hi
  obtain rfl : i = 0 := by omega
  refine ⟨hBC, hDE, fun k hk => absurd hk (Nat.not_lt_zero _), fun q e => ?_, us, fun j u hj => by rwa [Nat.zero_mul, Nat.zero_add], hr⟩
  injection e with e
  have e' : g = q := e
  subst e'
  exact hgo
end
section
variable {P : Program} {w : World}
/-- Where an append of one struct leaves its row. -/
theorem where_one {t ty e : TypeId} {c bytes : Nat} (ht : P.underlying t = some (.slice e)) {zs : Array Value} (hinfo : (P.info? e).map (fun i => (i.zero, i.size, i.bytes)) = some (some (.agg zs), c, bytes)) (hzs : zs.size = c) (hb : bytes ≤ 1000)
  {base : Nat} {v : Value} {n : Nat} {xs : List Value} (hown : w.ownsRow base e c v n xs) {ad : Addr} {m cap : Nat} {news : List Value} (hl : news.length = m * c) (hc : ∀ j u, news[j]? = some u → w.cell? (ad.add j) = some u) (h1 : ∀ u ∈ news, u.oneCell' = true)
  (hm : 0 < m) (hlen : n + m ≤ 1000000) {v' : Value} {w' : World}
  (hrun : (Builtin.append_ #[t, t] ty #[v, .slice (some ad) m cap]).run P w = .ok v' w') : v'.ownBlock = v.ownBlock ∨ v'.ownBlock = some w.heap.size := by
 obtain ⟨i0, hi, hz0, hz1, hz2⟩ := info_parts hinfo
 have hmb : m * bytes ≤ 1000000 * 1000 := Nat.mul_le_mul (by omega) hb
 have hnb : (n + m) * bytes ≤ 1000000 * 1000 := Nat.mul_le_mul (by omega) hb
 rcases hown.2 with ⟨rfl, h0⟩ | ⟨g, cp, cur, rfl, hbg, hg, hnc, hcm, hcs, htake⟩
 ·rw [run_append_nil (P := P) w t ty e i0 (.agg zs) ht hi hz0 ad m cap news (by rw [hz1]; exact hl) hc hm (by omega) (by rw [hz2]; omega)] at hrun
  simp only [Result.ok.injEq] at hrun
  right; rw [← hrun.1]; rfl
 ·by_cases hroom : n + m ≤ cp
  ·have hsz : n * c + m * c ≤ cp * c := by rw [← Nat.add_mul]; exact Nat.mul_le_mul_right _ hroom
   rw [run_append_room (P := P) w t ty e i0 ht hi g n cp cur hg ad m cap news (by rw [hz1]; exact hl) hc h1 hroom (by rw [hz1, hcs, hl]; exact hsz)] at hrun
   simp only [Result.ok.injEq] at hrun
   left; rw [← hrun.1]; rfl
  ·have holds : ∀ j u, xs[j]? = some u → w.cell? ((⟨g, 0, none⟩ : Addr).add j) = some u := World.ownsRow.cells hown (g := g) rfl
   rw [run_append_grow (P := P) w t ty e i0 (.agg zs) ht hi hz0 ⟨g, 0, none⟩ n cp xs (by rw [hz1]; exact hown.1) holds ad m cap news (by rw [hz1]; exact hl) hc (by omega) (by omega) (growslice_fits (by omega) (by rw [hz2]; omega))] at hrun
   simp only [Result.ok.injEq] at hrun
   right; rw [← hrun.1]; rfl
theorem append_oneX {ops : Array Oper} {rest : List Oper} {o : Oper} {a : Act} {Q : Exit → Act → World → Prop} (hgd : o.guard = none) (s x : Operand) (t e : TypeId)
  (ho : o.op = .call { callee := .builtin .append, args := #[s, x], argTypes := #[t, t] }) (ht : P.underlying t = some (.slice e)) (zs : Array Value) (c bytes : Nat) (hb : bytes ≤ 1000) (hc0 : 0 < c)
  (hinfo : (P.info? e).map (fun i => (i.zero, i.size, i.bytes)) = some (some (.agg zs), c, bytes)) (hzs : zs.size = c)
  (base : Nat) (v : Value) (n : Nat) (hs : a.eval s = v) (g : Nat) (cs : List Value) (hx : a.eval x = .slice (some ⟨g, 0, none⟩) 1 1) (hown : ∃ xs, w.ownsRow base e c v n xs)
  (hg : w.heap[g]? = some (.cells cs.toArray e)) (hcl : cs.length = c) (h1 : ∀ u ∈ cs, u.oneCell' = true) (hlen : n ≤ 1000) (hbase : base ≤ w.heap.size)
  (h : ∀ v' w', (∀ xs, w.ownsRow base e c v n xs → w'.ownsRow base e c v' (n + 1) (xs ++ cs)) → w.grownBy w' v.ownBlock → (v'.ownBlock = v.ownBlock ∨ v'.ownBlock = some w.heap.size) → wpList P ops Q rest (a.put o.dst v') w') : wpList P ops Q (o :: rest) a w := by
 refine wpList_plain hgd fun _ hK => ?_
 obtain ⟨i0, hi, hz0, hz1, hz2⟩ := info_parts hinfo
 have hc : ∀ j u, cs[j]? = some u → w.cell? ((⟨g, 0, none⟩ : Addr).add j) = some u := fun j u hj => by
  rw [Addr.add_lit, Nat.zero_add, block_cell hg]
  simpa using hj
 have run : ∀ xs, w.ownsRow base e c v n xs → ∃ v' w', (Builtin.append_ #[t, t] o.type #[v, .slice (some ⟨g, 0, none⟩) 1 1]).run P w = .ok v' w' ∧ w'.ownsRow base e c v' (n + 1) (xs ++ cs) ∧ w.grownBy w' v.ownBlock := fun xs hxs => by
  obtain ⟨v', w', h2, h3, h4, _⟩ := run_append_own (P := P) w base t o.type e i0 (.agg zs) c bytes ht hi hz0 hz1 hz2 hzs hc0 v n xs hxs ⟨g, 0, none⟩ 1 1 cs (by rw [hcl, Nat.one_mul]) hc h1 (by unfold maxLen; omega) (Nat.le_trans (Nat.mul_le_mul (show n + 1 ≤ 1001 by omega) hb) (by decide)) hbase
  exact ⟨v', w', h2, h3, h4⟩
 obtain ⟨xs0, hx0⟩ := hown
 obtain ⟨v', w', hr', h2, h3⟩ := run xs0 hx0
 have h4 := where_one ht hinfo hzs hb hx0 (m := 1) (by rw [hcl, Nat.one_mul]) hc h1 (by decide) (by omega) hr'
 have hall : ∀ xs, w.ownsRow base e c v n xs → w'.ownsRow base e c v' (n + 1) (xs ++ cs) := fun xs hxs => by
  obtain ⟨v2, w2, hr2, h22, _⟩ := run xs hxs
  rw [hr'] at hr2
  simp only [Result.ok.injEq] at hr2
  rw [hr2.1, hr2.2]
  exact h22
 unfold Oper.wp execOp
 simp only [ho, resolve, invoke, builtin, Sem.run_bind, Sem.run_pure, Result.andThen_ok, List.map_toArray, List.map_cons, List.map_nil, hs, hx, hr']
 exact hK _ _ (h v' w' hall h3 h4)
end
end Go.Proofs.YtpolekinfobecaaGreat

namespace Go.Proofs.YtpolekinfobecaaGreat
open Go.RowKit
set_option linter.unusedVariables false

section
variable {P : Program} {w : World}
theorem append_oneW {o : Oper} {a : Act} {K : Act → World → Prop} {Q : Exit → Act → World → Prop} (s x : Operand) (t e : TypeId)
  (ho : o.op = .call { callee := .builtin .append, args := #[s, x], argTypes := #[t, t] }) (ht : P.underlying t = some (.slice e)) (zs : Array Value) (c bytes : Nat) (hb : bytes ≤ 1000) (hc0 : 0 < c)
  (hinfo : (P.info? e).map (fun i => (i.zero, i.size, i.bytes)) = some (some (.agg zs), c, bytes)) (hzs : zs.size = c)
  (base : Nat) (v : Value) (n : Nat) (hs : a.eval s = v) (g : Nat) (cs : List Value) (hx : a.eval x = .slice (some ⟨g, 0, none⟩) 1 1) (hown : ∃ xs, w.ownsRow base e c v n xs)
  (hg : w.heap[g]? = some (.cells cs.toArray e)) (hcl : cs.length = c) (h1 : ∀ u ∈ cs, u.oneCell' = true) (hlen : n ≤ 1000) (hbase : base ≤ w.heap.size)
  (h : ∀ v' w', (∀ xs, w.ownsRow base e c v n xs → w'.ownsRow base e c v' (n + 1) (xs ++ cs)) → w.grownBy w' v.ownBlock → (v'.ownBlock = v.ownBlock ∨ v'.ownBlock = some w.heap.size) → K (a.put o.dst v') w') : Oper.wp P o a w K Q := by
 obtain ⟨i0, hi, hz0, hz1, hz2⟩ := info_parts hinfo
 have hc : ∀ j u, cs[j]? = some u → w.cell? ((⟨g, 0, none⟩ : Addr).add j) = some u := fun j u hj => by
  rw [Addr.add_lit, Nat.zero_add, block_cell hg]
  simpa using hj
 have run : ∀ xs, w.ownsRow base e c v n xs → ∃ v' w', (Builtin.append_ #[t, t] o.type #[v, .slice (some ⟨g, 0, none⟩) 1 1]).run P w = .ok v' w' ∧ w'.ownsRow base e c v' (n + 1) (xs ++ cs) ∧ w.grownBy w' v.ownBlock := fun xs hxs => by
  obtain ⟨v', w', h2, h3, h4, _⟩ := run_append_own (P := P) w base t o.type e i0 (.agg zs) c bytes ht hi hz0 hz1 hz2 hzs hc0 v n xs hxs ⟨g, 0, none⟩ 1 1 cs (by rw [hcl, Nat.one_mul]) hc h1 (by unfold maxLen; omega) (Nat.le_trans (Nat.mul_le_mul (show n + 1 ≤ 1001 by omega) hb) (by decide)) hbase
  exact ⟨v', w', h2, h3, h4⟩
 obtain ⟨xs0, hx0⟩ := hown
 obtain ⟨v', w', hr', h2, h3⟩ := run xs0 hx0
 have h4 := where_one ht hinfo hzs hb hx0 (m := 1) (by rw [hcl, Nat.one_mul]) hc h1 (by decide) (by omega) hr'
 have hall : ∀ xs, w.ownsRow base e c v n xs → w'.ownsRow base e c v' (n + 1) (xs ++ cs) := fun xs hxs => by
  obtain ⟨v2, w2, hr2, h22, _⟩ := run xs hxs
  rw [hr'] at hr2
  simp only [Result.ok.injEq] at hr2
  rw [hr2.1, hr2.2]
  exact h22
 unfold Oper.wp execOp
 simp only [ho, resolve, invoke, builtin, Sem.run_bind, Sem.run_pure, Result.andThen_ok, List.map_toArray, List.map_cons, List.map_nil, hs, hx, hr']
 exact h v' w' hall h3 h4
end
end Go.Proofs.YtpolekinfobecaaGreat
