/-
  Plain facts: lists of texts of the call's own: one more behind, two joined, a part. No program is named here. Contracts of the helpers of the laws for records (szRr, eqRr).
-/
import Derived.Test.YtjgfljndeolmoaaGreatLostG02
import Derived.Laws.ResultCell
import Derived.Laws.Rows
import Derived.Test.YtjgfljndeolmoaaGreatLostG04
import Derived.Test.YtjgfljndeolmoaaGreatLostG11
import Derived.Test.YtjgfljndeolmoaaGreatLostG12
namespace Go.Proofs.YtjgfljndeolmoaaGreat
open Go.RowKit

/-- One more text behind an own list of texts. -/
theorem OwnL.snoc {B : Nat} {el eb : TypeId} {w w' : World} {v v' u : Value} {n : List (List Int)} {l : List Int} {vs : List Value} (ho : w.ownsRow B el 1 v n.length vs)
  (hu : ∀ i, i < n.length → ∃ x, vs[i]? = some x ∧ Own B eb w x (n.getD i [])) (hd : ∀ (i j : Nat) (x x' : Value), i < j → vs[i]? = some x → vs[j]? = some x' → x.ownBlock = none ∨ x.ownBlock ≠ x'.ownBlock)
  (hul : Own B eb w u l) (hnew : ∀ (i : Nat) (x : Value), vs[i]? = some x → x.ownBlock = none ∨ x.ownBlock ≠ u.ownBlock)
  (ho' : w'.ownsRow B el 1 v' (n.length + 1) (vs ++ [u])) (hg : w.grownBy w' v.ownBlock) (hne : el ≠ eb) : OwnL B el eb w' v' (n ++ [l]) := by
 have hl : vs.length = n.length := by have := ho.1; simpa using this
 have apart : ∀ x m, Own B eb w x m → x.ownBlock = none ∨ x.ownBlock ≠ v.ownBlock := by
  intro x m hx
  rcases hx.2 with ⟨rfl, _⟩ | ⟨g, cap, cur, rfl, _, hgx, _⟩
  ·exact .inl rfl
  ·right
   intro e
   rcases ho.2 with ⟨rfl, _⟩ | ⟨g', cap', cur', rfl, _, hgv, _⟩
   ·simp [Value.ownBlock] at e
   ·simp [Value.ownBlock] at e
    subst e
    rw [hgx] at hgv
    simp at hgv
    exact hne hgv.2.symm
 refine ⟨vs ++ [u], by simpa using ho', fun i hi => ?_, fun i j x x' hij hx hx' => ?_⟩
 ·simp at hi
  by_cases e : i < n.length
  ·obtain ⟨x, h1, h2⟩ := hu i e
   refine ⟨x, by rw [List.getElem?_append_left (by omega)]; exact h1, ?_⟩
   have e2 : (n ++ [l]).getD i [] = n.getD i [] := by simp [List.getD, List.getElem?_append_left e]
   rw [e2]
   exact h2.kept hg (apart x _ h2)
  ·obtain rfl : i = n.length := by omega
   refine ⟨u, by rw [List.getElem?_append_right (by omega)]; simp [hl], ?_⟩
   have e2 : (n ++ [l]).getD n.length [] = l := by simp [List.getD]
   rw [e2]
   exact hul.kept hg (apart u _ hul)
 ·have hj : j < (vs ++ [u]).length := (List.getElem?_eq_some_iff.1 hx').1
  simp at hj
  rw [List.getElem?_append_left (by omega)] at hx
  by_cases e : j < vs.length
  ·rw [List.getElem?_append_left e] at hx'
   exact hd i j x x' hij hx hx'
  ·obtain rfl : j = vs.length := by omega
   rw [List.getElem?_append_right (by omega)] at hx'
   simp at hx'
   subst hx'
   exact hnew i x hx


theorem ownsRow_kept' {B n : Nat} {e : TypeId} {w w' : World} {v : Value} {xs : List Value} (h : w.ownsRow B e 1 v n xs) (hb : Below w.heap.size w w') : w'.ownsRow B e 1 v n xs := World.ownsRow.kept h (grown_of_below hb) (by cases hq : v.ownBlock with | none => exact .inl rfl | some q => exact .inr (by simp))

/-- A row isn't a block of another type. -/
theorem row_apart {B b n : Nat} {e t : TypeId} {w : World} {v : Value} {xs : List Value} {c : Array Value} (h : w.ownsRow B e 1 v n xs) (hb : w.heap[b]? = some (.cells c t)) (hne : t ≠ e) : v.ownBlock ≠ some b := by
 intro hq
 rcases h.2 with ⟨rfl, _⟩ | ⟨g, cap, cur, rfl, _, hg, _⟩
 ·simp [Value.ownBlock] at hq
 ·simp [Value.ownBlock] at hq
  subst hq
  rw [hg] at hb
  simp at hb
  exact hne hb.2.symm

/-- An own list of texts, one more text put behind it in place: what the append leaves. The world W is the one in which the text u has been made and the row of the append's second argument laid. -/
theorem snoc_step {B q m : Nat} {el eb t : TypeId} {w W w' : World} {v v' u : Value} {n : List (List Int)} {l : List Int} {vs : List Value} {c : Array Value} (g : W.grownBy w' v.ownBlock) (ho' : w'.ownsRow B el 1 v' m (vs ++ [u])) (hm : m = vs.length + 1)
  (hvs : w.ownsRow B el 1 v n.length vs) (hva : ∀ i, i < n.length → ∃ x, vs[i]? = some x ∧ Own B eb w x (n.getD i [])) (hvd : ∀ (i j : Nat) (x x' : Value), i < j → vs[i]? = some x → vs[j]? = some x' → x.ownBlock = none ∨ x.ownBlock ≠ x'.ownBlock)
  (hb : Below w.heap.size w W) (hu : Own w.heap.size eb W u l) (hB : B ≤ w.heap.size) (hne : el ≠ eb) (hk : W.heap[q]? = some (.cells c t)) (hnt : t ≠ el) :
  OwnL B el eb w' v' (n ++ [l]) ∧ w'.heap[q]? = some (.cells c t) ∧ Below B w w' := by
 have hl : vs.length = n.length := by have := hvs.1; simpa using this
 have hW := ownsRow_kept' hvs hb
 refine ⟨?_, block_grown g hk (row_apart hW hk hnt), ?_⟩
 ·refine OwnL.snoc (w := W) hW (fun i hi => ?_) hvd (hu.mono hB) (fun i x hx => ?_) (by rw [hm, hl] at ho'; exact ho') g hne
  ·obtain ⟨x, h1, h2⟩ := hva i hi
   exact ⟨x, h1, h2.below hb⟩
  ·have hi : i < n.length := by rw [← hl]; exact (List.getElem?_eq_some_iff.1 hx).1
   obtain ⟨x', h1, h2⟩ := hva i hi
   rw [hx] at h1
   obtain rfl : x = x' := by simpa using h1
   exact own_apart h2 hu (Nat.le_refl _)
 ·exact (hb.mono hB).trans ((Below.refl B W).grown g (Nat.le_trans hB hb.size) (fun k hk => (World.ownsRow.lt hW k hk).1))

/-- An append to a new empty row of bytes leaves what was there. -/
theorem lit_grown {w w' : World} {o : Obj} {n c : Nat} (g : (w.alloc o).grownBy w' (Value.slice (some ⟨w.heap.size, 0, none⟩) n c).ownBlock) : Below w.heap.size w w' :=
 (below_alloc o).grown g (below_alloc o).size (fun k hk => by simp [Value.ownBlock] at hk; omega)

/-- Two new blocks, as a function's box and its result lie. -/
theorem box2 (w : World) (o : Obj) (c2 : Array Value) (t2 : TypeId) :
  ((w.alloc o).alloc (.cells c2 t2)).heap.size = w.heap.size + 2 ∧ ((w.alloc o).alloc (.cells c2 t2)).heap[w.heap.size]? = some o ∧ ((w.alloc o).alloc (.cells c2 t2)).heap[w.heap.size + 1]? = some (.cells c2 t2) := by
 have e1 : (w.alloc o).heap.size = w.heap.size + 1 := by show (w.heap.push o).size = _; simp
 have e2 : ((w.alloc o).alloc (.cells c2 t2)).heap.size = w.heap.size + 1 + 1 := by rw [← e1]; show ((w.alloc o).heap.push _).size = _; simp
 refine ⟨e2, block_kept (below_alloc _) (heap_alloc_new w o), ?_⟩
 rw [← e1]; exact heap_alloc_new _ _
theorem below2 (w : World) (o o' : Obj) : Below w.heap.size w ((w.alloc o).alloc o') := (below_alloc _).alloc (below_alloc _).size _

/-- A struct that lies in a block of its own and a value, as a function's two results. -/
theorem results_cell_tmp_row {P : Program} {fn : Func} {p u : Tmp} {ty : TypeId} (h : fn.results = #[.cell p ty, .tmp u]) (tmps : Array Value) (w : World) (g : Nat) (t : TypeId) (cs : Array Value) (fr : Nat × Nat) (d : TypeDesc)
  (hp : tmps.getD p undef = .pointer (some ⟨g, 0, none⟩)) (hg : w.heap[g]? = some (.cells cs t fr))
  (hu : P.underlying ty = some d) (hd : (match d with | .struct _ | .array _ _ => true | _ => false) = true) (hi : (P.info? ty).map (·.size) = some cs.size) :
  (results fn tmps).run P w = .ok (.tuple #[.agg cs, tmps.getD u undef]) w := by
 rw [results_cell_tmp h, hp]
 simp [asAddr, run_loadVar_row w g t ty cs fr d hg hu hd hi]

end Go.Proofs.YtjgfljndeolmoaaGreat

namespace Go.Proofs.YtjgfljndeolmoaaGreat
open Go.RowKit
set_option linter.unusedVariables false

set_option maxHeartbeats 400000 in
set_option maxRecDepth 100000 in
theorem szIntS_any (a : Option Addr) (len cap : Nat) (left : Int) (w : World) (hm : len ≤ maxLen) (h0 : 0 ≤ left) (h1 : left ≤ 1048576) :
  Calls Tryz.prog 37 #[.slice a len cap, .int .i64 left] w fun e w' => e = .returned (.int .i64 (if (len : Int) ≤ left then left - len else -1)) ∧ w = w' := by
 unfold maxLen at hm
 by_cases h : (len : Int) ≤ left
 ·rw [if_pos h]
  have hy : 0 ≤ left - len := by omega
  go_enter Tryz.func37, Tryz.ntmps37
  go_wp2
  go_ret
  exact ⟨rfl, rfl⟩
 ·rw [if_neg h]
  have hy : left - len < 0 := by omega
  go_enter Tryz.func37, Tryz.ntmps37
  go_wp2
  go_ret
  exact ⟨rfl, rfl⟩

set_option maxHeartbeats 1000000 in
set_option maxRecDepth 100000 in
theorem szRr_any (an : Option Addr) (cn : Nat) (ato : Option Addr) (ct : Nat) (ax : Option Addr) (cx : Nat) (ai : Option Addr) (ci : Nat) (r : Rec) (left : Int) (w : World) (h : InR w an ato ax ai r) (hm : SizeR maxLen r) (h0 : 0 ≤ left) (h1 : left ≤ 1048576) :
  Calls Tryz.prog 85 #[(.agg #[.slice an r.name.length cn, .int .i64 r.type, .int .i64 r.ttl, .int .i64 r.addr, .slice ato r.to.length ct, .slice ax r.text.length cx, .slice ai r.nums.length ci]), .int .i64 left] w fun e w' => (∃ y : Int, e = .returned (.int .i64 y) ∧ -1 ≤ y ∧ y ≤ left ∧ (0 ≤ y → SizeR left.toNat r)) ∧ Below w.heap.size w w' := by
 have b0 := below_alloc (w := w) (.cells #[.slice an r.name.length cn, .int .i64 r.type, .int .i64 r.ttl, .int .i64 r.addr, .slice ato r.to.length ct, .slice ax r.text.length cx, .slice ai r.nums.length ci] 130)
 have k0 := heap_alloc_new w (.cells #[.slice an r.name.length cn, .int .i64 r.type, .int .i64 r.ttl, .int .i64 r.addr, .slice ato r.to.length ct, .slice ax r.text.length cx, .slice ai r.nums.length ci] 130)
 have I0 := hide (h.below b0)
 have HM := hide hm
 clear h hm
 have k0' := hide k0
 go_enter Tryz.func85, Tryz.ntmps85
 go_wp2_with fail
 generalize w.alloc (.cells #[.slice an r.name.length cn, .int .i64 r.type, .int .i64 r.ttl, .int .i64 r.addr, .slice ato r.to.length ct, .slice ax r.text.length cx, .slice ai r.nums.length ci] 130) = W at *
 refine (szName_any an cn r.name left _ (unhide I0).name (unhide HM).name (unhide HM).names h0 h1).mono ?_
 rintro e w1 ⟨⟨y1, rfl, ya1, yb1, yc1⟩, b1⟩
 have bb1 := below_next b0 b1
 by_cases n1 : y1 < 0
 ·clear yc1 k0 b0 b1
  go_wp2
  go_ret
  exact ⟨⟨-1, rfl, by omega, by omega, fun q => by omega⟩, bb1⟩
 have Y1 := hide (yc1 (by omega))
 have k1 := hide (block_kept b1 k0)
 have I1 := hide ((unhide I0).below b1)
 obtain ⟨d0, d1, d2, d3, d4, d5, d6⟩ := cells7 (unhide k1)
 clear yc1 k0 b0 b1 I0 k0'
 go_wp2_with fail
 clear d0 d1 d2 d3 d4 d5 d6
 refine (szName_any ato ct r.to y1 _ (unhide I1).to (unhide HM).to (unhide HM).tos (by omega) (by omega)).mono ?_
 rintro e w2 ⟨⟨y2, rfl, ya2, yb2, yc2⟩, b2⟩
 have bb2 := below_next bb1 b2
 by_cases n2 : y2 < 0
 ·clear yc2 b2
  go_wp2
  go_ret
  exact ⟨⟨-1, rfl, by omega, by omega, fun q => by omega⟩, bb2⟩
 have Y2 := hide (yc2 (by omega))
 have k2 := hide (block_kept b2 (unhide k1))
 obtain ⟨d0, d1, d2, d3, d4, d5, d6⟩ := cells7 (unhide k2)
 clear yc2 b2 I1 k1
 have hx := (unhide HM).text
 have hi := (unhide HM).nums
 go_wp2_with fail
 refine (szByteS_any ax r.text.length cx y2 _ hx (by omega) (by omega)).mono ?_
 rintro e w3 ⟨rfl, rfl⟩
 by_cases n3 : (r.text.length : Int) ≤ y2
 ·rw [if_pos n3]
  have hy3 : 0 ≤ y2 - r.text.length := by omega
  have hy3' : y2 - r.text.length ≤ 1048576 := by omega
  generalize hy : y2 - (r.text.length : Int) = y3 at *
  go_wp2_with fail
  refine (szIntS_any ai r.nums.length ci y3 _ hi (by omega) (by omega)).mono ?_
  rintro e w4 ⟨rfl, rfl⟩
  by_cases n4 : (r.nums.length : Int) ≤ y3
  ·rw [if_pos n4]
   have hy4 : 0 ≤ y3 - r.nums.length := by omega
   go_wp2
   go_ret
   refine ⟨⟨y3 - r.nums.length, rfl, by omega, by omega, fun _ => ?_⟩, bb2⟩
   have p1 := unhide Y1
   have p2 := unhide Y2
   exact ⟨by omega, fun i hi => by have := p1.2 i hi; omega, by omega, fun i hi => by have := p2.2 i hi; omega, by omega, by omega⟩
  ·rw [if_neg n4]
   go_wp2
   go_ret
   exact ⟨⟨-1, rfl, by omega, by omega, fun q => by omega⟩, bb2⟩
 ·rw [if_neg n3]
  go_wp2
  go_ret
  exact ⟨⟨-1, rfl, by omega, by omega, fun q => by omega⟩, bb2⟩

theorem HasI.draws {w : World} {v : Value} {l : List Int} (h : HasI w v l) (n : Nat) : HasI (w.drewN n) v l := h.below (below_draws n)
theorem eqIntS_has {v v' : Value} {l : List Int} {w : World} (h : HasI w v l) (h' : HasI w v' l) (hl : l.length ≤ 2097152) :
  Calls Tryz.prog 53 #[v, v'] w fun e w' => e = .returned (.bool true) ∧ ∃ n, w' = w.drewN n := by
 obtain ⟨a, cap, rfl, hL⟩ := h.form
 obtain ⟨a', cap', rfl, hL'⟩ := h'.form
 exact eqIntS_eq a a' cap cap' l w hL hL' hl

set_option maxHeartbeats 1000000 in
set_option maxRecDepth 100000 in
theorem eqRr_has {vn vt vx vi un ut ux ui : Value} {r : Rec} {w : World} (h : HasR w vn vt vx vi r) (h' : HasR w un ut ux ui r) (hs : SizeR 2097152 r) :
  Calls Tryz.prog 97 #[.agg #[vn, .int .i64 r.type, .int .i64 r.ttl, .int .i64 r.addr, vt, vx, vi], .agg #[un, .int .i64 r.type, .int .i64 r.ttl, .int .i64 r.addr, ut, ux, ui]] w fun e w' => e = .returned (.bool true) ∧ Below w.heap.size w w' := by
 obtain ⟨na, nc, rfl, _⟩ := h.name.form
 obtain ⟨ta, tc, rfl, _⟩ := h.to.form
 obtain ⟨xa, xc, rfl, _⟩ := h.text.form
 obtain ⟨ia, ic, rfl, _⟩ := h.nums.form
 obtain ⟨na', nc', rfl, _⟩ := h'.name.form
 obtain ⟨ta', tc', rfl, _⟩ := h'.to.form
 obtain ⟨xa', xc', rfl, _⟩ := h'.text.form
 obtain ⟨ia', ic', rfl, _⟩ := h'.nums.form
 have b0 := below2 w (.cells #[.slice na r.name.length nc, .int .i64 r.type, .int .i64 r.ttl, .int .i64 r.addr, .slice ta r.to.length tc, .slice xa r.text.length xc, .slice ia r.nums.length ic] 137) (.cells #[.slice na' r.name.length nc', .int .i64 r.type, .int .i64 r.ttl, .int .i64 r.addr, .slice ta' r.to.length tc', .slice xa' r.text.length xc', .slice ia' r.nums.length ic'] 137)
 obtain ⟨hsz, k0, x0⟩ := box2 w (.cells #[.slice na r.name.length nc, .int .i64 r.type, .int .i64 r.ttl, .int .i64 r.addr, .slice ta r.to.length tc, .slice xa r.text.length xc, .slice ia r.nums.length ic] 137) #[.slice na' r.name.length nc', .int .i64 r.type, .int .i64 r.ttl, .int .i64 r.addr, .slice ta' r.to.length tc', .slice xa' r.text.length xc', .slice ia' r.nums.length ic'] 137
 have H0 := hide (h.below b0)
 have H0' := hide (h'.below b0)
 have HS := hide hs
 have K0 := hide k0
 have X0 := hide x0
 clear h h' hs k0 x0
 have e1 : (r.type != r.type) = false := by simp
 have e2 : (r.ttl != r.ttl) = false := by simp
 have e3 : (r.addr != r.addr) = false := by simp
 go_enter Tryz.func97, Tryz.ntmps97
 go_wp2_with fail
 generalize (w.alloc (.cells #[.slice na r.name.length nc, .int .i64 r.type, .int .i64 r.ttl, .int .i64 r.addr, .slice ta r.to.length tc, .slice xa r.text.length xc, .slice ia r.nums.length ic] 137)).alloc (.cells #[.slice na' r.name.length nc', .int .i64 r.type, .int .i64 r.ttl, .int .i64 r.addr, .slice ta' r.to.length tc', .slice xa' r.text.length xc', .slice ia' r.nums.length ic'] 137) = W at *
 refine (eqName_has (unhide H0).name (unhide H0').name (unhide HS).names).mono ?_
 rintro e w1 ⟨rfl, b1⟩
 have bb1 := below_next b0 b1
 have K1 := hide (block_kept b1 (unhide K0))
 have X1 := hide (block_kept b1 (unhide X0))
 have H1 := hide ((unhide H0).below b1)
 have H1' := hide ((unhide H0').below b1)
 obtain ⟨d0, d1, d2, d3, d4, d5, d6⟩ := cells7 (unhide K1)
 obtain ⟨f0, f1, f2, f3, f4, f5, f6⟩ := cells7 (unhide X1)
 clear b0 K0 X0 H0 H0' b1
 go_wp2_with fail
 clear d0 d1 d2 d3 d4 d5 d6 f0 f1 f2 f3 f4 f5 f6
 refine (eqName_has (unhide H1).to (unhide H1').to (unhide HS).tos).mono ?_
 rintro e w2 ⟨rfl, b2⟩
 have bb2 := below_next bb1 b2
 have K2 := hide (block_kept b2 (unhide K1))
 have X2 := hide (block_kept b2 (unhide X1))
 have H2 := hide ((unhide H1).below b2)
 have H2' := hide ((unhide H1').below b2)
 obtain ⟨d0, d1, d2, d3, d4, d5, d6⟩ := cells7 (unhide K2)
 obtain ⟨f0, f1, f2, f3, f4, f5, f6⟩ := cells7 (unhide X2)
 clear bb1 K1 X1 H1 H1' b2
 go_wp2_with fail
 clear d0 d1 d2 d3 d4 d5 d6 f0 f1 f2 f3 f4 f5 f6
 refine (eqByteS_has (unhide H2).text (unhide H2').text (unhide HS).text).mono ?_
 rintro e w3 ⟨rfl, q3, hq3⟩
 have b3 : Below w2.heap.size w2 w3 := by rw [hq3]; exact below_draws q3
 clear hq3
 have bb3 := below_next bb2 b3
 have K3 := hide (block_kept b3 (unhide K2))
 have X3 := hide (block_kept b3 (unhide X2))
 have H3 := hide ((unhide H2).below b3)
 have H3' := hide ((unhide H2').below b3)
 obtain ⟨d0, d1, d2, d3, d4, d5, d6⟩ := cells7 (unhide K3)
 obtain ⟨f0, f1, f2, f3, f4, f5, f6⟩ := cells7 (unhide X3)
 clear bb2 K2 X2 H2 H2' b3
 go_wp2_with fail
 clear d0 d1 d2 d3 d4 d5 d6 f0 f1 f2 f3 f4 f5 f6
 refine (eqIntS_has (unhide H3).nums (unhide H3').nums (unhide HS).nums).mono ?_
 rintro e w4 ⟨rfl, q4, hq4⟩
 have b4 : Below w3.heap.size w3 w4 := by rw [hq4]; exact below_draws q4
 clear hq4
 go_wp2_with fail
 go_ret
 exact ⟨rfl, below_next bb3 b4⟩
end Go.Proofs.YtjgfljndeolmoaaGreat
