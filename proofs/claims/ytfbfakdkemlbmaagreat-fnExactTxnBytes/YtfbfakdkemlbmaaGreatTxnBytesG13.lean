/-
  A region that draws its order, one way through it: what only looks is taken in the order of its number, whether its guard wants it or not. Plain facts: marks in rows of questions. No program is named here. Contracts of the name helpers of the laws (markName, heldName): what each answers and what it leaves in memory. Contract of a helper of the laws for rows of questions that are answers (markQuestionS). Contracts of the helpers of the laws for []int: markIntS, heldIntS.
-/
import Derived.Test.YtfbfakdkemlbmaaGreatTxnBytesG04
import Derived.Deep.RegionHeld3
import Derived.Test.YtfbfakdkemlbmaaGreatTxnBytesG05
import Derived.Test.YtfbfakdkemlbmaaGreatTxnBytesG12
import Derived.Test.YtfbfakdkemlbmaaGreatTxnBytesG01
import Derived.Test.YtfbfakdkemlbmaaGreatTxnBytesG06
import Derived.Test.YtfbfakdkemlbmaaGreatTxnBytesG02
namespace Go.Proofs.YtfbfakdkemlbmaaGreat
open Go.RowKit
set_option linter.unusedVariables false

def nextF : List Bool → Nat
 | true :: l => nextF l + 1
 | _ => 0
def setF : List Bool → List Bool
 | true :: l => true :: setF l
 | false :: l => true :: l
 | [] => []
def dropF {α : Type} : List Bool → List α → List α
 | true :: l, _ :: m => dropF l m
 | _, m => m
theorem setF_eq : ∀ l : List Bool, l.set (nextF l) true = setF l
 | [] => rfl
 | false :: _ => rfl
 | true :: l => by simp [nextF, setF, setF_eq l]
theorem dropF_get {α : Type} {o : α} {r : List α} : ∀ (l : List Bool) (m : List α), dropF l m = o :: r → m[nextF l]? = some o
 | [], m, h => by simp only [dropF] at h; subst h; rfl
 | false :: _, m, h => by simp only [dropF] at h; subst h; rfl
 | true :: l, [], h => by simp only [dropF] at h; cases h
 | true :: l, _ :: m, h => by simp only [dropF] at h; simpa [nextF] using dropF_get l m h
def callsF : Op → Bool
 | .call _ => true
 | _ => false

section
variable {P : Program} {ops : Array Oper} {Q : Exit → Act → World → Prop} {md : Region.Mode} {S : World → Prop}
theorem ops_next {l : List Bool} {oi : Oper} {rest : List Oper} (hi : dropF l ops.toList = oi :: rest) : ops[nextF l]? = some oi := by
 have := dropF_get l ops.toList hi
 rwa [Array.getElem?_toList] at this
theorem ops_drop {i : Nat} {oi : Oper} {rest : List Oper} (hi : ops.toList.drop i = oi :: rest) : ops[i]? = some oi := by
 rw [← Array.getElem?_toList, ← List.head?_drop, hi]
 rfl
theorem listed_next (l : List Bool) : l.toArray.setIfInBounds (nextF l) true = (setF l).toArray := by
 rw [List.setIfInBounds_toArray, setF_eq]
/-- The next one is wanted and only looks. -/
theorem tkF (v : Value) {oi : Oper} {rest : List Oper} {fuel : Nat} {l : List Bool} {a : Act} {w : World} (hi : dropF l ops.toList = oi :: rest)
  (hk : (!callsF oi.op && Region.noSelect ops && Region.free md ops l.toArray (nextF l) && (Region.ready md ops l.toArray).contains (nextF l)) = true)
  (hb : Region.wanted oi (yielded ops a.tmps) = true) (hQ : ∀ c a w, Q (.panic c) (a.put oi.dst v) w → Q (.panic c) a w)
  (hy : ∀ w, S w → (execOp a.eval oi).run P w = .ok (.value v) w) (hS : S w)
  (h : wpAnyH P md ops Q S fuel (setF l).toArray (a.put oi.dst v) w) : wpAnyH P md ops Q S (fuel + 1) l.toArray a w := by
 simp only [Bool.and_eq_true] at hk
 refine wpAnyH_take (ops_next hi) hk.1.1.2 hk.1.2 hk.2 hQ (Or.inl ⟨hb, hy⟩) hS ?_
 rw [listed_next]
 exact h
/-- The next one is not wanted. -/
theorem skF {oi : Oper} {rest : List Oper} {fuel : Nat} {l : List Bool} {a : Act} {w : World} (hi : dropF l ops.toList = oi :: rest)
  (hk : (Region.noSelect ops && Region.free md ops l.toArray (nextF l) && (Region.ready md ops l.toArray).contains (nextF l)) = true)
  (hb : Region.wanted oi (yielded ops a.tmps) = false) (hQ : ∀ c a w, Q (.panic c) (a.put oi.dst undef) w → Q (.panic c) a w) (hS : S w)
  (h : wpAnyH P md ops Q S fuel (setF l).toArray (a.put oi.dst undef) w) : wpAnyH P md ops Q S (fuel + 1) l.toArray a w := by
 simp only [Bool.and_eq_true] at hk
 refine wpAnyH_take (ops_next hi) hk.1.1 hk.1.2 hk.2 hQ (Or.inr ⟨hb, rfl⟩) hS ?_
 rw [listed_next]
 exact h
/-- Number i is wanted and only looks. -/
theorem tkI (i : Nat) (v : Value) {oi : Oper} {rest : List Oper} {fuel : Nat} {listed : Array Bool} {a : Act} {w : World} (hi : ops.toList.drop i = oi :: rest)
  (hk : (Region.noSelect ops && Region.free md ops listed i && (Region.ready md ops listed).contains i) = true)
  (hb : Region.wanted oi (yielded ops a.tmps) = true) (hQ : ∀ c a w, Q (.panic c) (a.put oi.dst v) w → Q (.panic c) a w)
  (hy : ∀ w, S w → (execOp a.eval oi).run P w = .ok (.value v) w) (hS : S w)
  (h : wpAnyH P md ops Q S fuel (listed.setIfInBounds i true) (a.put oi.dst v) w) : wpAnyH P md ops Q S (fuel + 1) listed a w := by
 simp only [Bool.and_eq_true] at hk
 exact wpAnyH_take (ops_drop hi) hk.1.1 hk.1.2 hk.2 hQ (Or.inl ⟨hb, hy⟩) hS h
/-- Number i alone may come up: it is run, and S shown anew. -/
theorem runI (i : Nat) {oi : Oper} {rest : List Oper} {fuel : Nat} {listed : Array Bool} {a : Act} {w : World} (hi : ops.toList.drop i = oi :: rest)
  (hk : (Region.ready md ops listed == [i]) = true) (hb : Region.wanted oi (yielded ops a.tmps) = true)
  (h : ∀ K' : Act → World → Prop, Shut (∀ a w, S w → (S w → wpAnyH P md ops Q S fuel (listed.setIfInBounds i true) a w) → K' a w) → Oper.wp P oi a w K' Q) :
  wpAnyH P md ops Q S (fuel + 1) listed a w := by
 rw [beq_iff_eq] at hk
 refine wpAnyH_ready hk (by simp) (AllReadyH.cons (ops_drop hi) (fun K hK => ?_) AllReadyH.nil)
 rw [if_pos hb]
 exact h K hK
/-- The beginning. -/
theorem startF (n : Nat) {id : Nat} {a : Act} {w : World} (hm : P.follows .mixedOrders = true) (hn : ops.size = n) (hS : S w.drew)
  (h : S w.drew → wpAnyH P .any ops Q S n (List.replicate n false).toArray a w.drew) : (Code.region id ops true).wp P Q a w := by
 refine wp_region_held_drew hm hS (fun hH => ?_)
 have := h hH
 rw [← hn] at this
 rwa [← List.toArray_replicate]
end
end Go.Proofs.YtfbfakdkemlbmaaGreat

namespace Go.Proofs.YtfbfakdkemlbmaaGreat
open Go.RowKit
set_option linter.unusedVariables false

def posQu (q : Que) (k : Int) : Int := pos q.name k q.name.length + 1
def markQu (q : Que) (k : Int) : Que := ⟨markL q.name k, pos q.name k q.name.length⟩
def posQs (l : List Que) (k : Int) : Nat → Int
 | 0 => k
 | i + 1 => posQu (l.getD i queZ) (posQs l k i)
def markQs (l : List Que) (k : Int) (m : Nat) : List Que := (List.range l.length).map (fun j => if j < m then markQu (l.getD j queZ) (posQs l k j) else l.getD j queZ)
theorem markQs_length (l : List Que) (k : Int) (m : Nat) : (markQs l k m).length = l.length := by simp [markQs]
theorem markQs_getD (l : List Que) (k : Int) (m j : Nat) (h : j < l.length) : (markQs l k m).getD j queZ = if j < m then markQu (l.getD j queZ) (posQs l k j) else l.getD j queZ := by simp [markQs, h]
theorem markQs_zero (l : List Que) (k : Int) : markQs l k 0 = l := by
 apply List.ext_getElem?
 intro j
 by_cases hj : j < l.length <;> simp [markQs, hj]
theorem markQs_succ (l : List Que) (k : Int) (m : Nat) (hm : m < l.length) : (markQs l k m).set m (markQu (l.getD m queZ) (posQs l k m)) = markQs l k (m + 1) := by
 apply List.ext_getElem?
 intro j
 by_cases e : j = m
 ·subst e
  simp [markQs, hm]
 ·rw [List.getElem?_set_ne (Ne.symm e)]
  by_cases hj : j < l.length
  ·by_cases hjm : j < m
   ·simp [markQs, hj, hjm, show j < m + 1 by omega]
   ·simp [markQs, hj, hjm, show ¬ j < m + 1 by omega]
  ·simp [markQs, hj]
theorem posQs_bound {l : List Que} (hs : ∀ i, i < l.length → SizeQu 1048576 (l.getD i queZ)) (k : Int) : ∀ i, i ≤ l.length → k ≤ posQs l k i ∧ posQs l k i ≤ k + i * 2199025352707
 | 0, _ => by simp [posQs]
 | i + 1, hi => by
  have h1 := posQs_bound hs k i (by omega)
  have h2 := pos_bound' (l.getD i queZ).name (posQs l k i) (hs i (by omega)).name (hs i (by omega)).names
  unfold posQs posQu
  push_cast
  omega
theorem one_set {w : World} {q n : Nat} {cur : Array Value} {t : TypeId} (h : w.heap[q]? = some (.cells cur t)) (x : Value) (hn : n < cur.size) :
  ∃ cur2, (w.setCell ⟨q, n, none⟩ x).heap[q]? = some (.cells cur2 t) ∧ cur2.size = cur.size ∧ cur2[n]? = some x ∧ (∀ j, j ≠ n → cur2[j]? = cur[j]?) ∧ Outside q (q + 1) w (w.setCell ⟨q, n, none⟩ x) := by
 refine ⟨_, block_setAt h n x, by simp, ?_, fun j h1 => ?_, outside_set _ _ _ _⟩
 ·simp [hn]
 ·simp [Ne.symm h1]
theorem wrap_intM (x : Int) (h0 : 0 ≤ x) (h1 : x < 9223372036854775808) : IntKind.i64.wrap x = x := by
 have := wrap_small x.toNat (by omega)
 rwa [Int.toNat_of_nonneg h0] at this
theorem take_atX {cur : Array Value} {n j : Nat} (hj : j < n) : (cur.toList.take n)[j]? = cur[j]? := by
 rw [List.getElem?_take, if_pos hj, Array.getElem?_toList]
end Go.Proofs.YtfbfakdkemlbmaaGreat

namespace Go.Proofs.YtfbfakdkemlbmaaGreat
open Go.RowKit
set_option linter.unusedVariables false

set_option maxHeartbeats 800000 in
set_option maxRecDepth 100000 in
theorem markByteSS_any {B E : Nat} {v : Value} {n : List (List Int)} (k0 : Int) {w : World} (h : OwnN B E 27 5 w v n) (hl : n.length ≤ 1048576) (hl2 : ∀ i, i < n.length → (n.getD i []).length ≤ 1048576) (hk0 : 0 ≤ k0) (hk1 : k0 ≤ 8000000000000000000) :
  Calls Tryz.prog 59 #[v, .int .i64 k0] w fun e w' => e = .returned (.int .i64 (pos n k0 n.length)) ∧ OwnN B E 27 5 w' v (markL n k0) ∧ Outside B E w w' := by
 obtain ⟨a, cap, rfl, hcl, hcm⟩ := h.ownL.hasL.form
 unfold maxLen at hcm
 obtain ⟨vs, ho, hu, hd, hv, he⟩ := h
 have hP := hide (fun j (hj : j ≤ n.length) => (show k0 ≤ pos n k0 j ∧ pos n k0 j ≤ 8000002000000000000 from by
  have := pos_le n k0 1048576 hl2 j hj
  have : j * 1048576 ≤ 1048576 * 1048576 := Nat.mul_le_mul_right _ (by omega)
  omega))
 have hPS := hide (pos_succ n k0)
 have hP0 := hide (pos_zero n k0)
 have hMG := hide (markL_getD n k0)
 have hML := hide (markL_length n k0)
 have HU := hide hu
 have HD := hide hd
 have HE := hide he
 have HV := hide hv
 have HO := hide ho
 have HL2 := hide hl2
 have hvl : vs.length = n.length := by have := ho.1; simpa using this
 clear hu hd he hv ho hl2
 generalize pos n k0 = P at *
 generalize markL n k0 = M at *
 generalize hn : n.length = m at *
 have HN := hide hn
 clear hn
 go_enter Tryz.func59, Tryz.ntmps59
 go_wp2
 go_loopw [1, 5] (fun kk i wr => ∃ k : Nat, k ≤ m ∧ i = .int .i64 k ∧ kk = .int .i64 (P k) ∧ Outside B E w wr ∧ wr.ownsRow B 27 1 (.slice a m cap) m vs ∧ Hid (∀ j, j < m → ∃ u, vs[j]? = some u ∧ Own B 5 wr u (if j < k then M.getD j [] else n.getD j []))) (fun _ i _ => m - (intOf i).toNat)
 case atStart => exact ⟨0, Nat.zero_le _, rfl, by rw [unhide hP0], Outside.refl _ _ _, unhide HO, hide (fun j hj => by obtain ⟨u, h1, h2⟩ := unhide HU j hj; exact ⟨u, h1, by simpa using h2⟩)⟩
 case round =>
  obtain ⟨k, hk, rfl, rfl, hout, hrow, hall⟩ := hrel
  by_cases hlt : k < m
  ·obtain ⟨u, hu1, hu2⟩ := unhide hall k hlt
   simp only [Nat.lt_irrefl, if_false] at hu2
   have hlk := unhide HL2 k hlt
   have hpk := unhide hP k (by omega)
   have hps := unhide hPS k hlt
   have hmg := unhide hMG k hlt
   have hcell : ∃ g, a = some ⟨g, 0, none⟩ := by
    rcases hrow.2 with ⟨hv, h0⟩ | ⟨g, cap', cur, hv, _⟩
    ·omega
    ·simp only [Value.slice.injEq] at hv; exact ⟨g, hv.1⟩
   obtain ⟨g, rfl⟩ := hcell
   have hc := World.ownsRow.cellAt hrow k (by omega)
   rw [hu1] at hc
   have hgl := (World.ownsRow.lt hrow g rfl)
   have hue := unhide HE k u
   have hude := hide hue
   clear hue
   generalize n.getD k [] = lab at *
   have HU2 := hide hu2
   have hur : ∃ ua uc, u = .slice ua lab.length uc := by obtain ⟨ua, uc, e, _⟩ := hu2.lies; exact ⟨ua, uc, e⟩
   clear hu2
   obtain ⟨ua, uc, rfl⟩ := hur
   have HR := hide hrow
   clear hrow
   go_wp2_with fail
   refine (markByteS_any (P k) (unhide HU2) (by omega) (by omega) (by omega)).mono ?_
   rintro e w1 ⟨rfl, o1, g1⟩
   go_wp2_with fail
   have hrange : ∀ q, (Value.slice ua lab.length uc).ownBlock = some q → B ≤ q ∧ q < E := fun q hq => ⟨((unhide HU2).lt q hq).1, unhide hude q hu1 hq⟩
   have hner : ∀ q, (Value.slice ua lab.length uc).ownBlock = some q → q ≠ g := by
    intro q hq e
    subst e
    rcases (unhide HU2).2 with ⟨h1, _⟩ | ⟨g', c', cur, h1, _, h2, _⟩
    ·rw [h1] at hq; simp [Value.ownBlock] at hq
    ·rw [h1] at hq
     simp [Value.ownBlock] at hq
     subst hq
     rcases (unhide HR).2 with ⟨h3, _⟩ | ⟨g3, c3, cur3, h3, _, h4, _⟩
     ·simp at h3
     ·simp only [Value.slice.injEq, Option.some.injEq, Addr.mk.injEq] at h3
      obtain ⟨⟨h5, _⟩, _⟩ := h3
      subst h5
      rw [h2] at h4
      simp at h4
   refine ⟨⟨k + 1, by omega, by go_num, by rw [hps], hout.trans (outside_grown g1 hrange), World.ownsRow.kept (unhide HR) g1 (.inr (fun e => hner g e.symm rfl)), hide ?_⟩, by simp [intOf]; omega⟩
   intro j hj
   by_cases e : j = k
   ·subst e
    refine ⟨_, hu1, ?_⟩
    rw [if_pos (by omega), hmg]
    exact o1
   ·obtain ⟨u', h1, h2⟩ := unhide hall j hj
    have : j < k + 1 ↔ j < k := by omega
    rw [show (if j < k + 1 then M.getD j [] else n.getD j []) = (if j < k then M.getD j [] else n.getD j []) by simp [this]]
    refine ⟨u', h1, h2.kept g1 ?_⟩
    rcases Nat.lt_or_gt_of_ne e with e1 | e1
    ·exact unhide HD j k u' _ e1 h1 hu1
    ·rcases unhide HD k j _ u' e1 hu1 h1 with e2 | e2
     ·cases hq : u'.ownBlock with
      | none => exact .inl rfl
      | some q => right; rw [e2]; simp
     ·exact .inr (fun e3 => e2 e3.symm)
  ·obtain rfl : k = m := by omega
   go_wp2_with fail
   go_ret
   have hMk := unhide hML
   refine ⟨rfl, ⟨vs, by rw [hMk]; exact hrow, fun i hi => ?_, unhide HD, unhide HV, unhide HE⟩, hout⟩
   rw [hMk] at hi
   obtain ⟨u, h1, h2⟩ := unhide hall i hi
   rw [if_pos hi] at h2
   exact ⟨u, h1, h2⟩
end Go.Proofs.YtfbfakdkemlbmaaGreat

namespace Go.Proofs.YtfbfakdkemlbmaaGreat
open Go.RowKit
set_option linter.unusedVariables false

set_option maxHeartbeats 4000000 in
set_option maxRecDepth 100000 in
theorem markQuestionS_own {l : List Que} (hs : ∀ i, i < l.length → SizeQu 1048576 (l.getD i queZ)) (hl : l.length ≤ 1048576) (k0 : Int) (hk0 : 0 ≤ k0) (hk1 : k0 ≤ 4620000000000000000) {B E : Nat} {v : Value} {w : World} (hEw : E ≤ w.heap.size)
  (h : RowX 2 (OwnQu 27 5) queZ B E 102 w v l) :
  Calls Tryz.prog 41 #[v, .int .i64 k0] w fun e w' => e = .returned (.int .i64 (posQs l k0 l.length)) ∧ RowX 2 (OwnQu 27 5) queZ B E 102 w' v (markQs l k0 l.length) ∧ Outside B E w w' := by
 obtain ⟨a, cap, rfl, _⟩ := h.form
 have HP := hide (fun i (hi : i ≤ l.length) => (show k0 ≤ posQs l k0 i ∧ posQs l k0 i ≤ 6930000000000000000 from by
  have q := posQs_bound hs k0 i hi
  have : i * 2199025352707 ≤ 1048576 * 2199025352707 := Nat.mul_le_mul_right _ (by omega)
  omega))
 have HS := hide hs
 have HPS := hide (fun i => (show posQs l k0 (i + 1) = posQu (l.getD i queZ) (posQs l k0 i) from rfl))
 have HMS := hide (fun i (hi : i < l.length) => markQs_succ l k0 i hi)
 have HMG := hide (fun m j (hj : j < l.length) => markQs_getD l k0 m j hj)
 have HML := hide (markQs_length l k0)
 have H0 := hide (show RowX 2 (OwnQu 27 5) queZ B E 102 w (.slice a l.length cap) (markQs l k0 0) by rw [markQs_zero]; exact h)
 have HZ := hide (show posQs l k0 0 = k0 from rfl)
 clear h hs
 generalize posQs l k0 = P at *
 generalize markQs l k0 = M at *
 generalize hn : l.length = m at *
 have HN := hide hn
 clear hn
 go_enter Tryz.func41, Tryz.ntmps41
 go_wp2
 go_loopw [1, 5] (fun kk i wr => ∃ k : Nat, k ≤ m ∧ i = .int .i64 k ∧ kk = .int .i64 (P k) ∧ Outside B E w wr ∧ RowX 2 (OwnQu 27 5) queZ B E 102 wr (.slice a m cap) (M k)) (fun _ i _ => m - (intOf i).toNat)
 case atStart => exact ⟨0, Nat.zero_le _, rfl, by rw [unhide HZ], Outside.refl _ _ _, unhide H0⟩
 case round =>
  clear H0
  obtain ⟨k, hk, rfl, rfl, hout, hrow⟩ := hrel
  by_cases hlt : k < m
  ·obtain ⟨xs, f, g, ho, hq, hx⟩ := hrow
   have hMl : (M k).length = m := unhide HML k
   rw [hMl] at ho hx
   have hmg : (M k).getD k queZ = l.getD k queZ := by rw [unhide HMG k k hlt, if_neg (Nat.lt_irrefl _)]
   have hms := unhide HMS k hlt
   have hps := unhide HPS k
   have hpk := unhide HP k (by omega)
   have hsk := unhide HS k hlt
   obtain ⟨hB1, hE1, hlow, hqk, vs, hcs, vn, rfl, hR⟩ := hx k hlt
   rw [hmg] at hcs hR
   generalize l.getD k queZ = r at *
   have hpb := pos_bound' r.name (P k) hsk.name hsk.names
   obtain ⟨q, cur, rfl, _, hBq, hg, hnc, hcm, hcz, htk⟩ := ownsRow_atX ho (by omega)
   have hqE := hq q rfl
   have hqs := hqk q rfl
   have hzw := hout.size
   obtain ⟨na, nc, rfl, _⟩ := hR.hasL.form
   have hcur : ∀ j u, ([.slice na r.name.length nc, .int .i64 r.type] : List Value)[j]? = some u → cur[k * 2 + j]? = some u := fun j u hj => by
    have := hcs j u hj
    have hj2 : j < 2 := (List.getElem?_eq_some_iff.1 hj).1
    rw [← htk, take_atX (by omega)] at this
    exact this
   have e0 : cur[k * 2]? = some (.slice na r.name.length nc) := hcur 0 _ rfl
   have e1 : cur[k * 2 + 1]? = some (.int .i64 r.type) := hcur 1 _ rfl
   have hbig : k * 2 + 1 < cur.size := by rw [hcz]; omega
   have M1 := hide (fun (w : World) (v : Value) (hh : OwnN (f k) (g k) 27 5 w v r.name) => markByteSS_any (P k) hh hsk.name hsk.names (by omega) (by omega))
   have hmq : markQu r (P k) = ⟨markL r.name (P k), pos r.name (P k) r.name.length⟩ := rfl
   have hpq : posQu r (P k) = pos r.name (P k) r.name.length + 1 := rfl
   rw [hpq] at hps
   rw [hmq] at hms
   have hw1 : IntKind.i64.wrap (pos r.name (P k) r.name.length + 1) = pos r.name (P k) r.name.length + 1 := wrap_intM _ (by omega) (by omega)
   have HMSK := hide hms
   have HPSK := hide hps
   clear hms hps hpq hmq hcur hcs
   generalize pos r.name (P k) r.name.length = P1 at *
   generalize markL r.name (P k) = MN at *
   have HX := hide hx
   have HG := hide hg
   have HQ := hide hq
   have HO := hide ho
   have c0 := (block_cell hg (k * 2)).trans e0
   have E0 := hide e0
   have E1 := hide e1
   have HN1 := hide hR
   have HTK := hide htk
   clear hx hg hR hq ho e0 e1 hmg htk hsk
   go_wp2_with fail
   refine (unhide M1 _ _ (unhide HN1)).mono ?_
   rintro e w1 ⟨rfl, n1, u1⟩
   have z1 := u1.size
   have G1 := u1.kept (unhide HG) (by omega)
   have N1 := hide n1
   have U1 := hide u1
   have d1 := (block_cell G1 (k * 2 + 1)).trans (unhide E1)
   have f1 := block_frozen G1 (k * 2 + 1)
   have KG1 := hide G1
   clear n1 u1 G1 HN1 HG c0
   obtain ⟨cur2, g2, z2c, y1, yo, u2⟩ := one_set (n := k * 2 + 1) (unhide KG1) (.int .i64 P1) (by omega)
   have N2 := hide ((unhide N1).outside u2 (by omega))
   have KG := hide g2
   have YO := hide yo
   have YA := hide y1
   have OUT : Hid (Outside B E w (w1.setCell ⟨q, k * 2 + 1, none⟩ (.int .i64 P1))) := (hout.trans ((unhide U1).wide (by omega) (by omega))).trans (u2.wide (by omega) (by omega))
   have U2 := hide u2
   clear u2 g2 yo y1
   have ROW : Hid (RowX 2 (OwnQu 27 5) queZ B E 102 (w1.setCell ⟨q, k * 2 + 1, none⟩ (.int .i64 P1)) (.slice (some ⟨q, 0, none⟩) m cap) (M (k + 1))) := by
    have hMl : (M k).length = m := unhide HML k
    rw [← unhide HMSK]
    have htk := unhide HTK
    have HX' := unhide HX
    refine RowX.mark (ownsQu 27 5) (m := k) (cs := xs) (cs' := cur2.toList.take (m * 2)) (vs' := [.slice na r.name.length nc, .int .i64 P1]) (f := f) (g := g) (w := wr) (by rw [hMl]; exact hlt) (unhide HQ) (by rw [hMl]; exact HX') ?_ ?_ ?_ ⟨_, rfl, unhide N2⟩ ?_
    ·rw [hMl]
     exact ⟨by rw [List.length_take, Array.length_toList, z2c, hcz]; omega, .inr ⟨q, cap, cur2, rfl, hBq, unhide KG, hnc, hcm, by rw [z2c, hcz], rfl⟩⟩
    ·intro i j hij hj2
     rw [← htk]
     by_cases hin : i * 2 + j < m * 2
     ·rw [take_atX hin, take_atX hin]
      exact unhide YO _ (by omega)
     ·rw [List.getElem?_eq_none (by rw [List.length_take]; omega), List.getElem?_eq_none (by rw [List.length_take]; omega)]
    ·intro j u hj
     have hj2 : j < 2 := (List.getElem?_eq_some_iff.1 hj).1
     rw [take_atX (by omega)]
     match j, hj2, hj with
     | 0, _, hj => cases hj; exact (unhide YO (k * 2 + 0) (by omega)).trans (unhide E0)
     | 1, _, hj => cases hj; exact unhide YA
    ·intro i hi hik us hR
     rw [hMl] at hi
     obtain ⟨i1, i2, i3, i4, _⟩ := HX' i hi
     have hqi := i4 q rfl
     have hdis : g i ≤ f k ∨ g k ≤ f i := by
      by_cases hlt' : i < k
      ·exact .inl (hlow i hlt')
      ·exact .inr (i3 k (by omega))
     exact (ownsQu 27 5).outside ((ownsQu 27 5).outside hR (unhide U1) (by omega)) (unhide U2) (by omega)
   have hps := unhide HPSK
   clear N1 N2 U1 U2 KG YO YA HX HTK E0 E1 M1 HO HQ KG1
   go_wp2_with fail
   exact ⟨⟨k + 1, by omega, by go_num, by rw [hps], unhide OUT, unhide ROW⟩, by simp [intOf]; omega⟩
  ·obtain rfl : k = m := by omega
   go_wp2
   go_ret
   exact ⟨rfl, hrow, hout⟩
end Go.Proofs.YtfbfakdkemlbmaaGreat

namespace Go.Proofs.YtfbfakdkemlbmaaGreat
open Go.RowKit
set_option linter.unusedVariables false

set_option maxHeartbeats 400000 in
set_option maxRecDepth 100000 in
theorem markIntS_some (B g cap : Nat) (k0 : Int) (l : List Int) (w : World) (h : OwnI B 3 w (.slice (some ⟨g, 0, none⟩) l.length cap) l) (hl : l.length ≤ 2097152) (hk0 : 0 ≤ k0) (hk1 : k0 ≤ 9000000000000000000) :
  Calls Tryz.prog 60 #[.slice (some ⟨g, 0, none⟩) l.length cap, .int .i64 k0] w fun e w' => e = .returned (.int .i64 (k0 + l.length)) ∧
   OwnI B 3 w' (.slice (some ⟨g, 0, none⟩) l.length cap) (marksI k0 l.length) ∧ w.grownBy w' (some g) := by
 generalize hn : l.length = n at *
 have HN := hide hn
 clear hn
 go_enter Tryz.func60, Tryz.ntmps60
 go_wp2
 go_loopw [1, 5] (fun kk i wr => ∃ k : Nat, k ≤ n ∧ i = .int .i64 k ∧ kk = .int .i64 (k0 + k) ∧ wr.ownsRow B 3 1 (.slice (some ⟨g, 0, none⟩) n cap) n ((markedI l k0 k).map (Value.int .i64)) ∧ w.grownBy wr (some g)) (fun _ i _ => n - (intOf i).toNat)
 case atStart => exact ⟨0, Nat.zero_le _, rfl, by simp, by rw [marked_zeroI]; have h1 := h; unfold OwnI at h1; rw [unhide HN] at h1; exact h1, ⟨rfl, rfl, rfl, Nat.le_refl _, fun _ _ _ => rfl⟩⟩
 case round =>
  obtain ⟨k, hk, rfl, rfl, ho, hg⟩ := hrel
  by_cases hlt : k < n
  ·have hc := ho.cellAt k (by omega)
   rw [map_atI _ _ (by rw [marked_lengthI, unhide HN]; exact hlt)] at hc
   have hf := ho.frozenAt k
   have HO := hide ho
   clear ho
   go_wp2
   have hst := (unhide HO).stored k (.int .i64 (k0 + k))
   refine ⟨⟨k + 1, by omega, by go_num, by go_num, ?_, ?_⟩, by simp [intOf]; omega⟩
   ·rw [← marked_succI, List.map_set]
    exact hst.1
   ·exact grown_trans hg hst.2
  ·go_wp2
   go_ret
   obtain rfl : k = n := by omega
   refine ⟨rfl, ?_, hg⟩
   unfold OwnI
   rw [marks_lengthI]
   have e : markedI l k0 k = marksI k0 k := by have := marked_allI l k0; rw [unhide HN] at this; exact this
   rw [← e]
   exact ho

set_option maxHeartbeats 400000 in
set_option maxRecDepth 100000 in
theorem markIntS_nil (k0 : Int) (w : World) (hk0 : 0 ≤ k0) (hk1 : k0 ≤ 9000000000000000000) :
  Calls Tryz.prog 60 #[.slice none 0 0, .int .i64 k0] w fun e w' => e = .returned (.int .i64 k0) ∧ w = w' := by
 go_enter Tryz.func60, Tryz.ntmps60
 go_wp2
 go_loop [1, 5] (fun kk i => i = .int .i64 0 ∧ kk = .int .i64 k0) (fun _ i => 0)
 case atStart => exact ⟨rfl, rfl⟩
 case round =>
  obtain ⟨rfl, rfl⟩ := hrel
  go_wp2
  go_ret
  exact ⟨rfl, rfl⟩

theorem markIntS_any {B : Nat} {v : Value} {l : List Int} (k0 : Int) {w : World} (h : OwnI B 3 w v l) (hl : l.length ≤ 2097152) (hk0 : 0 ≤ k0) (hk1 : k0 ≤ 9000000000000000000) :
  Calls Tryz.prog 60 #[v, .int .i64 k0] w fun e w' => e = .returned (.int .i64 (k0 + l.length)) ∧ OwnI B 3 w' v (marksI k0 l.length) ∧ w.grownBy w' v.ownBlock := by
 rcases h.form with ⟨rfl, rfl⟩ | ⟨g, cap, rfl, _⟩
 ·refine (markIntS_nil k0 w hk0 hk1).mono fun e w' ⟨he, hw⟩ => ?_
  subst hw
  exact ⟨by simpa using he, h, ⟨rfl, rfl, rfl, Nat.le_refl _, fun _ _ _ => rfl⟩⟩
 ·exact markIntS_some B g cap k0 l w h hl hk0 hk1
end Go.Proofs.YtfbfakdkemlbmaaGreat
