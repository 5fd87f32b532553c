/-
  Contract of the program's hasName of a book. Plain facts: the order of names is one. No program is named here.
-/
import Derived.Test.YtdghbcjlahjjdaaHasNameG30
import Derived.Test.YtdghbcjlahjjdaaHasNameG31
import Derived.Test.YtdghbcjlahjjdaaHasNameG22
namespace Go.Proofs.Ytdghbcjlahjjdaa
open Go.RowKit
set_option linter.unusedVariables false

set_option maxHeartbeats 2000000 in
set_option maxRecDepth 100000 in
theorem hasNameB_has {n0 b : Nat} {B : Bk} {v : Value} {n : List (List Int)} {w : World} (hB : BookM n0 w b B) (hn : HasL w v n) :
    Calls Try.prog 53 #[.map (some b), .agg #[v]] w fun e w' => e = .returned (.bool (hasB n B)) ∧ Below w.heap.size w w' := by
  obtain ⟨a, cap, rfl, _⟩ := hn.form
  obtain ⟨_, ps, hM, hT, _⟩ := hB
  have b0 := below_alloc (w := w) (.cells #[.slice a n.length cap] 25)
  have k0 := heap_alloc_new w (.cells #[.slice a n.length cap] 25)
  have z0 : (w.alloc (.cells #[.slice a n.length cap] 25)).heap.size = w.heap.size + 1 := World.size_alloc w _
  have zb := hM.lt
  obtain ⟨o, hrun, hR, _⟩ := mapV_range (P := Try.prog) (t := 79) Try.underlying79 (hM.below b0)
  have bo := below_alloc (w := w.alloc (.cells #[.slice a n.length cap] 25)) o
  have k1 := block_kept bo k0
  have bb := below_next b0 bo
  rw [z0] at hR
  have HR := hide hR
  have HN := hide hn
  have HT := hide hT
  have HM := hide hM
  have KN := hide k1
  clear b0 k0 hR hn hT hM k1 bo
  generalize hres : hasB n B = res
  go_enter Try.func53, Try.ntmps53
  go_wp2_with fail
  clear hrun z0
  generalize (w.alloc (.cells #[.slice a n.length cap] 25)).alloc o = W at *
  go_loopw [] (fun wr => ∃ L, RangeV wr b (w.heap.size + 1) ps L ∧ (∀ q ∈ ps, q ∈ L ∨ ∀ u, lookA q.1 B = some u → hasP n u = false) ∧ (∀ q ∈ L, q ∈ ps) ∧ Below w.heap.size w wr ∧ wr.heap[w.heap.size]? = some (.cells #[.slice a n.length cap] 25)) (fun wr => wr.rangeLeft b (w.heap.size + 1))
  case atStart => exact ⟨ps, unhide HR, fun q hq => .inl hq, fun q hq => hq, bb, unhide KN⟩
  case round =>
    obtain ⟨L, hrg, hcov, hsub, hbl, hkn⟩ := hrel
    have hle := hide hrg.left_eq
    rcases rangeV_next (P := Try.prog) 0 hrg with ⟨rfl, hnx⟩ | ⟨⟨qk, qv⟩, L', w2, hq, hlen, hcv, hsb, hnx, hrg2, g2, hs2, hen⟩
    · have hno : hasB n B = false := hasB_none (unhide HT) (unhide HM).apart (fun q hq => (hcov q hq).resolve_left (by simp))
      rw [hno] at hres
      subst hres
      go_wp2
      go_ret
      exact ⟨rfl, hbl⟩
    · obtain ⟨P, hlk, p, rfl, _, hpb, ps2, hM2, hT2⟩ := two_mem (unhide HT) (unhide HM).apart (hsub _ hq)
      have bb2 : Below w.heap.size w w2 := hbl.grown g2 hbl.size (fun k e => by simp at e; omega)
      have hkn2 := block_grown g2 hkn (by simp)
      have zp := hM2.lt
      obtain ⟨o2, hrn2, hR2, _⟩ := mapV_range (P := Try.prog) (t := 118) Try.underlying118 (hM2.kept (bb2.block _ zp))
      have bo2 := below_alloc (w := w2) o2
      have bb3 := below_next bb2 bo2
      have hkn3 := block_kept bo2 hkn2
      have hrg3 := hrg2.below bo2
      have zr := hrg2.lt.2.1
      have zz := bb2.size
      have HC := hide hcov
      have HCV := hide hcv
      have HSB := hide hsb
      have HSU := hide hsub
      have HR2 := hide hR2
      have HR3 := hide hrg3
      have HLK := hide hlk
      have HT2 := hide hT2
      have HM2 := hide hM2
      have KN3 := hide hkn3
      clear hs2 hcov hcv hsb hsub hR2 hrg3 hrg2 hlk hT2 hM2 hkn3 hkn2 hkn bo2 hrg g2 HR KN bb hbl bb2
      go_wp2_with fail
      clear hnx hen hrn2
      generalize hr2 : w2.heap.size = r2 at *
      generalize w2.alloc o2 = w3 at *
      go_loopw [] (fun wr => ∃ L2, RangeV wr p r2 ps2 L2 ∧ (∀ q ∈ ps2, q ∈ L2 ∨ ∀ u, lookA q.1 P = some u → under u.name n = false) ∧ (∀ q ∈ L2, q ∈ ps2) ∧ RangeV wr b (w.heap.size + 1) ps L' ∧ Below w.heap.size w wr ∧ wr.heap[w.heap.size]? = some (.cells #[.slice a n.length cap] 25)) (fun wr => wr.rangeLeft p r2)
      case atStart => exact ⟨ps2, unhide HR2, fun q hq => .inl hq, fun q hq => hq, unhide HR3, bb3, unhide KN3⟩
      case round =>
        obtain ⟨L2, hrg, hcov, hsub, hro, hbl, hkn⟩ := hrel
        have hle2 := hide hrg.left_eq
        rcases rangeV_next (P := Try.prog) 0 hrg with ⟨rfl, hnx⟩ | ⟨⟨xk, xv⟩, L2', w4, hq2, hlen2, hcv, hsb, hnx, hrg4, g4, hs4, hen⟩
        · have hno : hasP n P = false := hasP_none (unhide HT2) (unhide HM2).apart (fun q hq => (hcov q hq).resolve_left (by simp))
          go_wp2
          go_roundw
          case rel =>
            refine ⟨L', hro, fun q hq => ?_, fun q hq => unhide HSU q (unhide HSB q hq), hbl, hkn⟩
            rcases unhide HC q hq with h | h
            · rcases unhide HCV q h with rfl | h
              · right
                intro u hu
                have := unhide HLK
                simp only at hu
                rw [hu] at this
                cases this
                exact hno
              · exact .inl h
            · exact .inr h
          case measure => rw [hro.left_eq, unhide hle]; exact hlen
        · obtain ⟨r, hlr, vn, vt, vx, vi, rfl, hR⟩ := two_mem (unhide HT2) (unhide HM2).apart (hsub _ hq2)
          obtain ⟨na, nc, rfl, _⟩ := hR.name.form
          obtain ⟨ta, tc, rfl, _⟩ := hR.to.form
          obtain ⟨xa, xc, rfl, _⟩ := hR.text.form
          obtain ⟨ia, ic, rfl, _⟩ := hR.nums.form
          have bb4 : Below w.heap.size w w4 := hbl.grown g4 hbl.size (fun k e => by simp at e; omega)
          have hkn4 := block_grown g4 hkn (by simp; omega)
          have hro4 := hro.kept (g4.block b hro.lt.1 (by simp; omega)) (g4.block (w.heap.size + 1) hro.lt.2.1 (by simp; omega))
          have ba := below_alloc (w := w4) (.cells #[.slice na r.name.length nc, .int .i64 r.type, .int .i64 r.ttl, .int .i64 r.addr, .slice ta r.to.length tc, .slice xa r.text.length xc, .slice ia r.nums.length ic] 28)
          obtain ⟨d0, d1, d2, d3, d4, d5, d6⟩ := cells7 (heap_alloc_new w4 (.cells #[.slice na r.name.length nc, .int .i64 r.type, .int .i64 r.ttl, .int .i64 r.addr, .slice ta r.to.length tc, .slice xa r.text.length xc, .slice ia r.nums.length ic] 28))
          have cn := block_one (block_kept ba hkn4)
          have HU := hide (implUnder_has ((hR.name.below bb4).below ba) (((unhide HN).below bb4).below ba))
          have KK := hide (block_kept ba hkn4)
          have RO := hide (hro4.below ba)
          have RG := hide (hrg4.below ba)
          have BA := hide (below_next bb4 ba)
          have HC2 := hide hcov
          have HCV2 := hide hcv
          have HSB2 := hide hsb
          have HSU2 := hide hsub
          have HLR := hide hlr
          have zz4 := bb4.size
          clear hs4 hR hkn4 hkn hro4 hro hrg4 hrg ba bb4 hbl hcov hcv hsb hsub hlr g4
          go_wp2_with fail
          refine (unhide HU).mono ?_
          rintro e w5 ⟨rfl, b5⟩
          clear d0 d1 d2 d3 d4 d5 d6 cn hnx hen HU
          cases hun : under r.name n with
          | true =>
            have hyes : hasB n B = true := hasB_some (unhide HLK) (hasP_some (unhide HLR) hun)
            rw [hyes] at hres
            subst hres
            go_wp2
            go_ret
            exact ⟨rfl, below_next (unhide BA) b5⟩
          | false =>
            go_wp2
            go_roundw
            case rel =>
              refine ⟨L2', (unhide RG).below b5, fun q hq => ?_, fun q hq => unhide HSU2 q (unhide HSB2 q hq), (unhide RO).below b5, below_next (unhide BA) b5, block_kept b5 (unhide KK)⟩
              rcases unhide HC2 q hq with h | h
              · rcases unhide HCV2 q h with rfl | h
                · right
                  intro u hu
                  have := unhide HLR
                  simp only at hu
                  rw [hu] at this
                  cases this
                  exact hun
                · exact .inl h
              · exact .inr h
            case measure => rw [((unhide RG).below b5).left_eq, unhide hle2]; exact hlen2
end Go.Proofs.Ytdghbcjlahjjdaa

namespace Go.Proofs.Ytdghbcjlahjjdaa
open Go.RowKit

theorem compare_swap : ∀ (a b : List UInt8), Lib.compareBytes a b = - Lib.compareBytes b a
  | [], [] => rfl
  | [], _ :: _ => rfl
  | _ :: _, [] => rfl
  | x :: a, y :: b => by
    have ih := compare_swap a b
    unfold Lib.compareBytes
    by_cases h1 : x < y
    · have h2 : ¬ y < x := fun h => UInt8.lt_irrefl x (UInt8.lt_trans h1 h)
      simp [h1, h2]
    · by_cases h2 : y < x
      · simp [h1, h2]
      · simp only [h1, h2, if_false]
        exact ih

theorem compare_trans : ∀ (a b c : List UInt8), Lib.compareBytes a b ≤ 0 → Lib.compareBytes b c ≤ 0 → Lib.compareBytes a c ≤ 0
  | [], _, [], _, _ => by decide
  | [], _, _ :: _, _, _ => by
    unfold Lib.compareBytes
    omega
  | _ :: _, [], _, h, _ => by
    unfold Lib.compareBytes at h
    omega
  | _ :: _, _ :: _, [], _, h => by
    unfold Lib.compareBytes at h
    omega
  | x :: a, y :: b, z :: c, h1, h2 => by
    unfold Lib.compareBytes at h1 h2 ⊢
    by_cases hxz : x < z
    · simp [hxz]
    · simp only [hxz, if_false]
      by_cases hxy : x < y
      · by_cases hyz : y < z
        · exact absurd (UInt8.lt_trans hxy hyz) hxz
        · simp only [hyz, if_false] at h2
          by_cases hzy : z < y
          · simp [hzy] at h2
          · have e : y = z := UInt8.le_antisymm (UInt8.not_lt.1 hzy) (UInt8.not_lt.1 hyz)
            subst e
            exact absurd hxy hxz
      · simp only [hxy, if_false] at h1
        by_cases hyx : y < x
        · simp [hyx] at h1
        · have e : x = y := UInt8.le_antisymm (UInt8.not_lt.1 hyx) (UInt8.not_lt.1 hxy)
          subst e
          simp only [hyx, if_false] at h1
          simp only [hxz, if_false] at h2
          by_cases hzx : z < x
          · simp [hzx] at h2
          · simp only [hzx, if_false] at h2 ⊢
            exact compare_trans a b c h1 h2

theorem cmpB_swap (a b : List Int) : cmpB a b = - cmpB b a := compare_swap _ _
theorem cmpB_trans {a b c : List Int} (h : cmpB a b ≤ 0) (k : cmpB b c ≤ 0) : cmpB a c ≤ 0 := compare_trans _ _ _ h k
theorem cmpB_between {a b c : List Int} (h : cmpB a b ≤ 0) (k : cmpB b c ≤ 0) (e : cmpB a c = 0) : cmpB a b = 0 ∧ cmpB b c = 0 := by
  have e1 := cmpB_swap a c
  have e2 := cmpB_swap a b
  have e3 := cmpB_swap b c
  have h1 : cmpB b a ≤ 0 := cmpB_trans k (by omega)
  have h2 : cmpB c b ≤ 0 := cmpB_trans (by omega : cmpB c a ≤ 0) h
  omega
theorem cmpB_self (a : List Int) : cmpB a a = 0 := by
  have := cmpB_swap a a
  omega
/-- Lists of texts held against each other from the first on. -/
def cmpL : List (List Int) → List (List Int) → Int
  | [], [] => 0
  | [], _ :: _ => -1
  | _ :: _, [] => 1
  | x :: a, y :: b => if cmpB x y ≠ 0 then cmpB x y else cmpL a b

theorem cmpL_swap : ∀ (a b : List (List Int)), cmpL a b = - cmpL b a
  | [], [] => rfl
  | [], _ :: _ => rfl
  | _ :: _, [] => rfl
  | x :: a, y :: b => by
    have ih := cmpL_swap a b
    have hs := cmpB_swap x y
    unfold cmpL
    by_cases h : cmpB x y = 0
    · have h' : cmpB y x = 0 := by omega
      simp only [h, h', ne_eq, not_true, if_false]
      exact ih
    · have h' : ¬ cmpB y x = 0 := by omega
      simp only [h, h', ne_eq, not_false_iff, if_true]
      exact hs
theorem cmpL_trans : ∀ (a b c : List (List Int)), cmpL a b ≤ 0 → cmpL b c ≤ 0 → cmpL a c ≤ 0
  | [], _, [], _, _ => by decide
  | [], _, _ :: _, _, _ => by
    unfold cmpL
    omega
  | _ :: _, [], _, h, _ => by
    unfold cmpL at h
    omega
  | _ :: _, _ :: _, [], _, h => by
    unfold cmpL at h
    omega
  | x :: a, y :: b, z :: c, h1, h2 => by
    unfold cmpL at h1 h2 ⊢
    have p1 : cmpB x y ≤ 0 := by
      by_cases h : cmpB x y = 0
      · omega
      · simpa [h] using h1
    have p2 : cmpB y z ≤ 0 := by
      by_cases h : cmpB y z = 0
      · omega
      · simpa [h] using h2
    have p3 := cmpB_trans p1 p2
    by_cases h : cmpB x z = 0
    · obtain ⟨e1, e2⟩ := cmpB_between p1 p2 h
      simp only [h, ne_eq, not_true, if_false]
      simp only [e1, ne_eq, not_true, if_false] at h1
      simp only [e2, ne_eq, not_true, if_false] at h2
      exact cmpL_trans a b c h1 h2
    · simp only [h, ne_eq, not_false_iff, if_true]
      exact p3

theorem find_congr {α : Type} {p q : α → Bool} : ∀ {l : List α}, (∀ x ∈ l, p x = q x) → l.find? p = l.find? q
  | [], _ => rfl
  | y :: l, h => by
    rw [List.find?_cons, List.find?_cons, h y (by simp), find_congr (fun x hx => h x (by simp [hx]))]

/-- As cmpN, but from the first label on. -/
def cmpF (a b : List (List Int)) : Int :=
  match (List.range (min a.length b.length)).find? (fun j => cmpB (a.getD j []) (b.getD j []) != 0) with
  | some j => cmpB (a.getD j []) (b.getD j [])
  | none => byLength a.length b.length

theorem cmpF_eq : ∀ (a b : List (List Int)), cmpF a b = cmpL a b
  | [], [] => rfl
  | [], y :: b => by
    unfold cmpF cmpL byLength
    simp
  | x :: a, [] => by
    unfold cmpF cmpL byLength
    simp
    omega
  | x :: a, y :: b => by
    have ih := cmpF_eq a b
    unfold cmpL
    have e : min (x :: a).length (y :: b).length = min a.length b.length + 1 := by simp
    unfold cmpF
    rw [e, List.range_succ_eq_map, List.find?_cons]
    by_cases h : cmpB x y = 0
    · have h1 : (cmpB ((x :: a).getD 0 []) ((y :: b).getD 0 []) != 0) = false := by simpa using h
      rw [h1]
      simp only [h, ne_eq, not_true, if_false]
      rw [List.find?_map]
      rw [← ih]
      unfold cmpF
      have hq : ((fun j => cmpB ((x :: a).getD j []) ((y :: b).getD j []) != 0) ∘ Nat.succ) = (fun j => cmpB (a.getD j []) (b.getD j []) != 0) := by
        funext j
        simp
      rw [hq]
      cases hf : (List.range (min a.length b.length)).find? (fun j => cmpB (a.getD j []) (b.getD j []) != 0) with
      | none =>
        simp only [Option.map_none]
        unfold byLength
        simp
      | some j =>
        simp only [Option.map_some]
        simp
    · have h1 : (cmpB ((x :: a).getD 0 []) ((y :: b).getD 0 []) != 0) = true := by simpa using h
      rw [h1]
      simp [h]

theorem getD_reverse (a : List (List Int)) (j : Nat) (h : j < a.length) : a.reverse.getD j [] = a.getD (a.length - (j + 1)) [] := by
  rw [List.getD_eq_getElem?_getD, List.getD_eq_getElem?_getD, List.getElem?_reverse h]
  congr 2
  omega

theorem cmpN_eq (a b : List (List Int)) : cmpN a b = cmpL a.reverse b.reverse := by
  rw [← cmpF_eq]
  unfold cmpN cmpF
  rw [List.length_reverse, List.length_reverse]
  have hp : ∀ j, j < min a.length b.length → atEnd a b (j + 1) = cmpB (a.reverse.getD j []) (b.reverse.getD j []) := fun j hj => by
    rw [getD_reverse a j (by omega), getD_reverse b j (by omega)]
    rfl
  have hf : (List.range (min a.length b.length)).find? (fun j => atEnd a b (j + 1) != 0) = (List.range (min a.length b.length)).find? (fun j => cmpB (a.reverse.getD j []) (b.reverse.getD j []) != 0) := find_congr (fun j hj => by
    rw [hp j (by simpa using hj)])
  rw [hf]
  cases hq : (List.range (min a.length b.length)).find? (fun j => cmpB (a.reverse.getD j []) (b.reverse.getD j []) != 0) with
  | none => rfl
  | some j =>
    have := List.mem_of_find?_eq_some hq
    exact hp j (by simpa using this)

theorem cmpN_swap (a b : List (List Int)) : cmpN a b = - cmpN b a := by
  rw [cmpN_eq, cmpN_eq, ← cmpL_swap]
theorem cmpN_trans {a b c : List (List Int)} (h : cmpN a b ≤ 0) (k : cmpN b c ≤ 0) : cmpN a c ≤ 0 := by
  rw [cmpN_eq] at *
  exact cmpL_trans _ _ _ h k
theorem cmpN_self (a : List (List Int)) : cmpN a a = 0 := by
  have := cmpN_swap a a
  omega
theorem cmpN_between {a b c : List (List Int)} (h : cmpN a b ≤ 0) (k : cmpN b c ≤ 0) (e : cmpN a c = 0) : cmpN a b = 0 ∧ cmpN b c = 0 := by
  have e1 := cmpN_swap a c
  have e2 := cmpN_swap a b
  have e3 := cmpN_swap b c
  have h1 : cmpN b a ≤ 0 := cmpN_trans k (by omega)
  have h2 : cmpN c b ≤ 0 := cmpN_trans (by omega : cmpN c a ≤ 0) h
  omega
end Go.Proofs.Ytdghbcjlahjjdaa
