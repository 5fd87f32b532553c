/-
  Contracts of the helpers of the laws for messages (szMsg, toMsg, eqMsg). What ReplyTo answers; messages that own what they have. Plain facts: what a task asks, and three results of a function. Plain facts: what Begin makes. Plain facts: what Lost makes. A region that draws its order, one way through it: what only looks is taken in the order of its number, whether its guard wants it or not. Contracts of the program's inTurns.
-/
import Derived.Test.YtjgfljndeolmoaaGreatLostG17
import Derived.Test.YtjgfljndeolmoaaGreatLostG15
import Derived.Test.YtjgfljndeolmoaaGreatLostG13
import Derived.Test.YtjgfljndeolmoaaGreatLostG16
import Derived.Test.YtjgfljndeolmoaaGreatLostG09
import Derived.Deep.RegionHeld3
import Derived.BigQuiet
namespace Go.Proofs.YtjgfljndeolmoaaGreat
open Go.RowKit
set_option linter.unusedVariables false

/-- The slices of a message own its lists, in blocks of B .. E - 1, each in a stretch of its own. -/
def OwnM (B E : Nat) (w : World) (vq va vb vm vp vu : Value) (m : Mg) : Prop := ∃ s1 s2 s3 s4 s5, B ≤ s1 ∧ s1 ≤ s2 ∧ s2 ≤ s3 ∧ s3 ≤ s4 ∧ s4 ≤ s5 ∧ s5 ≤ E ∧ RowX 2 (OwnQu 27 5) queZ B s1 59 w vq m.qs ∧ RowO s1 s2 137 27 5 3 w va m.ans ∧ RowO s2 s3 137 27 5 3 w vb m.aus ∧ RowO s3 s4 137 27 5 3 w vm m.more ∧ RowX 9 (OwnWn 27 5 3) wntZ s4 s5 142 w vp m.pres ∧ RowX 9 (OwnWn 27 5 3) wntZ s5 E 142 w vu m.ups
theorem OwnM.below {B E : Nat} {w w' : World} {vq va vb vm vp vu : Value} {m : Mg} (h : OwnM B E w vq va vb vm vp vu m) (hb : Below w.heap.size w w') : OwnM B E w' vq va vb vm vp vu m := by
 obtain ⟨s1, s2, s3, s4, s5, a0, a1, a2, a3, a4, a5, h0, h1, h2, h3, h4, h5⟩ := h
 exact ⟨s1, s2, s3, s4, s5, a0, a1, a2, a3, a4, a5, RowX.below (ownsQu 27 5) h0 hb, RowO.below h1 hb, RowO.below h2 hb, RowO.below h3 hb, RowX.below (ownsWn 27 5 3) h4 hb, RowX.below (ownsWn 27 5 3) h5 hb⟩
theorem OwnM.outside {B E C D : Nat} {w w' : World} {vq va vb vm vp vu : Value} {m : Mg} (h : OwnM B E w vq va vb vm vp vu m) (u : Outside C D w w') (hd : E ≤ C ∨ D ≤ B) : OwnM B E w' vq va vb vm vp vu m := by
 obtain ⟨s1, s2, s3, s4, s5, a0, a1, a2, a3, a4, a5, h0, h1, h2, h3, h4, h5⟩ := h
 exact ⟨s1, s2, s3, s4, s5, a0, a1, a2, a3, a4, a5, RowX.outside (ownsQu 27 5) h0 u (by omega), RowO.outside h1 u (by omega), RowO.outside h2 u (by omega), RowO.outside h3 u (by omega), RowX.outside (ownsWn 27 5 3) h4 u (by omega), RowX.outside (ownsWn 27 5 3) h5 u (by omega)⟩
theorem OwnM.has {B E : Nat} {w : World} {vq va vb vm vp vu : Value} {m : Mg} (h : OwnM B E w vq va vb vm vp vu m) : HasM w vq va vb vm vp vu m := by
 obtain ⟨s1, s2, s3, s4, s5, a0, a1, a2, a3, a4, a5, h0, h1, h2, h3, h4, h5⟩ := h
 exact ⟨RowX.has (ownsQu 27 5) OwnQu.has h0, RowO.has h1, RowO.has h2, RowO.has h3, RowX.has (ownsWn 27 5 3) OwnWn.has h4, RowX.has (ownsWn 27 5 3) OwnWn.has h5⟩

end Go.Proofs.YtjgfljndeolmoaaGreat

namespace Go.Proofs.YtjgfljndeolmoaaGreat
open Go.RowKit
set_option linter.unusedVariables false

end Go.Proofs.YtjgfljndeolmoaaGreat

namespace Go.Proofs.YtjgfljndeolmoaaGreat
open Go.RowKit
set_option linter.unusedVariables false

def askT (t : Tk) : Bool := taskOk t && decide (t.state = 0)
theorem askT_parts {t : Tk} (h : askT t = true) : taskOk t = true ∧ t.state = 0 := by
 unfold askT at h
 rw [Bool.and_eq_true] at h
 exact ⟨h.1, of_decide_eq_true h.2⟩
theorem askT_turn {t : Tk} (h : askT t = true) : ∃ j : Nat, t.turn = (j : Int) ∧ j < t.servers.length := by
 have := (taskOk_iff.1 (askT_parts h).1).1
 exact ⟨t.turn.toNat, by omega, by omega⟩
theorem outside_belA {B E : Nat} {w w' : World} (h : Below w.heap.size w w') : Outside B E w w' := ⟨h.os, h.tape, h.output, h.size, fun k hk _ => h.block k hk⟩
end Go.Proofs.YtjgfljndeolmoaaGreat

namespace Go.Proofs.YtjgfljndeolmoaaGreat
open Go.RowKit
set_option linter.unusedVariables false

def zeroTk : Tk := ⟨0, 0, ⟨[], 0⟩, [], [], [], [], 0, 0, 0, 0, []⟩
theorem ownN_nil (B E : Nat) (el eb : TypeId) (w : World) : OwnN B E el eb w (.slice none 0 0) [] :=
 ⟨[], World.ownsRow_nil _ _ _ _, fun i hi => absurd hi (by simp), fun i j u u' _ h => by simp at h, fun q h => by simp [Value.ownBlock] at h, fun i u q h => by simp at h⟩
theorem ownBI_nil (B E : Nat) (e : TypeId) (w : World) : OwnBI B E e w (.slice none 0 0) [] := ⟨by simpa [OwnI] using World.ownsRow_nil w B e 1, fun q h => by simp [Value.ownBlock] at h⟩
theorem ownTk_nil (B E : Nat) (hBE : B ≤ E) (w : World) : OwnTk B E w (.slice none 0 0) (.slice none 0 0) (.slice none 0 0) (.slice none 0 0) (.slice none 0 0) (.slice none 0 0) zeroTk :=
 ⟨B, B, B, B, B, Nat.le_refl _, Nat.le_refl _, Nat.le_refl _, Nat.le_refl _, Nat.le_refl _, hBE, ownN_nil _ _ _ _ _, ownN_nil _ _ _ _ _, ownN_nil _ _ _ _ _, ownBI_nil _ _ _ _, ownBI_nil _ _ _ _, RowO.nil _ _ _ _ _ _ _⟩
end Go.Proofs.YtjgfljndeolmoaaGreat

namespace Go.Proofs.YtjgfljndeolmoaaGreat
open Go.RowKit
set_option linter.unusedVariables false

/-- What is left of a task of which nobody was heard. -/
def lostC (t : Tk) : Tk := if t.sends = 11 then ⟨1, t.id, t.fst, t.name, t.zone, t.hints, t.servers, (t.turn + 1).tmod t.servers.length, 12, t.steps, 2, []⟩ else ⟨t.state, t.id, t.fst, t.name, t.zone, t.hints, t.servers, (t.turn + 1).tmod t.servers.length, t.sends + 1, t.steps, t.code, t.ans⟩
def lostT (t : Tk) : Tk := if askT t = true then lostC t else zeroTk
theorem askT_sends {t : Tk} (h : askT t = true) : 0 ≤ t.sends ∧ t.sends ≤ 11 := by
 have h1 := (taskOk_iff.1 (askT_parts h).1).1
 have h2 := (askT_parts h).2
 omega
theorem lostT_size {t : Tk} (hs : SizeTk 1048576 t) : SizeTk 1048576 (lostT t) := by
 unfold lostT lostC zeroTk
 split
 ·split
  ·exact ⟨hs.fst, hs.name, hs.names, hs.zone, hs.zones, hs.hints, hs.servers, by simp, fun i hi => absurd hi (by simp)⟩
  ·exact ⟨hs.fst, hs.name, hs.names, hs.zone, hs.zones, hs.hints, hs.servers, hs.ans, hs.anss⟩
 ·exact ⟨⟨by simp, fun i hi => absurd hi (by simp)⟩, by simp, fun i hi => absurd hi (by simp), by simp, fun i hi => absurd hi (by simp), by simp, by simp, by simp, fun i hi => absurd hi (by simp)⟩
theorem wrap_next {j : Nat} (h : j ≤ 1048576) : IntKind.i64.wrap ((j : Int) + 1) = (j : Int) + 1 := by
 have e : (j : Int) + 1 = ((j + 1 : Nat) : Int) := by omega
 rw [e]
 exact wrap_small _ (by omega)
end Go.Proofs.YtjgfljndeolmoaaGreat

namespace Go.Proofs.YtjgfljndeolmoaaGreat
open Go.RowKit
set_option linter.unusedVariables false

def nextF : List Bool → Nat
 | true :: l => nextF l + 1
 | _ => 0
def setF : List Bool → List Bool
 | true :: l => true :: setF l
 | false :: l => true :: l
 | [] => []
def dropF {α : Type} : List Bool → List α → List α
 | true :: l, _ :: m => dropF l m
 | _, m => m
theorem setF_eq : ∀ l : List Bool, l.set (nextF l) true = setF l
 | [] => rfl
 | false :: _ => rfl
 | true :: l => by simp [nextF, setF, setF_eq l]
theorem dropF_get {α : Type} {o : α} {r : List α} : ∀ (l : List Bool) (m : List α), dropF l m = o :: r → m[nextF l]? = some o
 | [], m, h => by simp only [dropF] at h; subst h; rfl
 | false :: _, m, h => by simp only [dropF] at h; subst h; rfl
 | true :: l, [], h => by simp only [dropF] at h; cases h
 | true :: l, _ :: m, h => by simp only [dropF] at h; simpa [nextF] using dropF_get l m h
def callsF : Op → Bool
 | .call _ => true
 | _ => false

section
variable {P : Program} {ops : Array Oper} {Q : Exit → Act → World → Prop} {md : Region.Mode} {S : World → Prop}
theorem ops_next {l : List Bool} {oi : Oper} {rest : List Oper} (hi : dropF l ops.toList = oi :: rest) : ops[nextF l]? = some oi := by
 have := dropF_get l ops.toList hi
 rwa [Array.getElem?_toList] at this
theorem ops_drop {i : Nat} {oi : Oper} {rest : List Oper} (hi : ops.toList.drop i = oi :: rest) : ops[i]? = some oi := by
 rw [← Array.getElem?_toList, ← List.head?_drop, hi]
 rfl
theorem listed_next (l : List Bool) : l.toArray.setIfInBounds (nextF l) true = (setF l).toArray := by
 rw [List.setIfInBounds_toArray, setF_eq]
/-- The next one is wanted and only looks. -/
theorem tkF (v : Value) {oi : Oper} {rest : List Oper} {fuel : Nat} {l : List Bool} {a : Act} {w : World} (hi : dropF l ops.toList = oi :: rest)
  (hk : (!callsF oi.op && Region.noSelect ops && Region.free md ops l.toArray (nextF l) && (Region.ready md ops l.toArray).contains (nextF l)) = true)
  (hb : Region.wanted oi (yielded ops a.tmps) = true) (hQ : ∀ c a w, Q (.panic c) (a.put oi.dst v) w → Q (.panic c) a w)
  (hy : ∀ w, S w → (execOp a.eval oi).run P w = .ok (.value v) w) (hS : S w)
  (h : wpAnyH P md ops Q S fuel (setF l).toArray (a.put oi.dst v) w) : wpAnyH P md ops Q S (fuel + 1) l.toArray a w := by
 simp only [Bool.and_eq_true] at hk
 refine wpAnyH_take (ops_next hi) hk.1.1.2 hk.1.2 hk.2 hQ (Or.inl ⟨hb, hy⟩) hS ?_
 rw [listed_next]
 exact h
/-- The next one is not wanted. -/
theorem skF {oi : Oper} {rest : List Oper} {fuel : Nat} {l : List Bool} {a : Act} {w : World} (hi : dropF l ops.toList = oi :: rest)
  (hk : (Region.noSelect ops && Region.free md ops l.toArray (nextF l) && (Region.ready md ops l.toArray).contains (nextF l)) = true)
  (hb : Region.wanted oi (yielded ops a.tmps) = false) (hQ : ∀ c a w, Q (.panic c) (a.put oi.dst undef) w → Q (.panic c) a w) (hS : S w)
  (h : wpAnyH P md ops Q S fuel (setF l).toArray (a.put oi.dst undef) w) : wpAnyH P md ops Q S (fuel + 1) l.toArray a w := by
 simp only [Bool.and_eq_true] at hk
 refine wpAnyH_take (ops_next hi) hk.1.1 hk.1.2 hk.2 hQ (Or.inr ⟨hb, rfl⟩) hS ?_
 rw [listed_next]
 exact h
/-- Number i is wanted and only looks. -/
theorem tkI (i : Nat) (v : Value) {oi : Oper} {rest : List Oper} {fuel : Nat} {listed : Array Bool} {a : Act} {w : World} (hi : ops.toList.drop i = oi :: rest)
  (hk : (Region.noSelect ops && Region.free md ops listed i && (Region.ready md ops listed).contains i) = true)
  (hb : Region.wanted oi (yielded ops a.tmps) = true) (hQ : ∀ c a w, Q (.panic c) (a.put oi.dst v) w → Q (.panic c) a w)
  (hy : ∀ w, S w → (execOp a.eval oi).run P w = .ok (.value v) w) (hS : S w)
  (h : wpAnyH P md ops Q S fuel (listed.setIfInBounds i true) (a.put oi.dst v) w) : wpAnyH P md ops Q S (fuel + 1) listed a w := by
 simp only [Bool.and_eq_true] at hk
 exact wpAnyH_take (ops_drop hi) hk.1.1 hk.1.2 hk.2 hQ (Or.inl ⟨hb, hy⟩) hS h
/-- Number i alone may come up: it is run, and S shown anew. -/
theorem runI (i : Nat) {oi : Oper} {rest : List Oper} {fuel : Nat} {listed : Array Bool} {a : Act} {w : World} (hi : ops.toList.drop i = oi :: rest)
  (hk : (Region.ready md ops listed == [i]) = true) (hb : Region.wanted oi (yielded ops a.tmps) = true)
  (h : ∀ K' : Act → World → Prop, Shut (∀ a w, S w → (S w → wpAnyH P md ops Q S fuel (listed.setIfInBounds i true) a w) → K' a w) → Oper.wp P oi a w K' Q) :
  wpAnyH P md ops Q S (fuel + 1) listed a w := by
 rw [beq_iff_eq] at hk
 refine wpAnyH_ready hk (by simp) (AllReadyH.cons (ops_drop hi) (fun K hK => ?_) AllReadyH.nil)
 rw [if_pos hb]
 exact h K hK
/-- The beginning. -/
theorem startF (n : Nat) {id : Nat} {a : Act} {w : World} (hm : P.follows .mixedOrders = true) (hn : ops.size = n) (hS : S w.drew)
  (h : S w.drew → wpAnyH P .any ops Q S n (List.replicate n false).toArray a w.drew) : (Code.region id ops true).wp P Q a w := by
 refine wp_region_held_drew hm hS (fun hH => ?_)
 have := h hH
 rw [← hn] at this
 rwa [← List.toArray_replicate]
end
end Go.Proofs.YtjgfljndeolmoaaGreat

namespace Go.Proofs.YtjgfljndeolmoaaGreat
open Go.RowKit
set_option linter.unusedVariables false

set_option maxHeartbeats 1000000 in
set_option maxRecDepth 100000 in
theorem inTurns_has {b : Nat} {c0 c1 c2 c3 c4 c5 c6 c7 c9 c10 c11 c12 : Value} {turn : Int} {w : World} (h : w.heap[b]? = some (.cells #[c0, c1, c2, c3, c4, c5, c6, c7, .int .i64 turn, c9, c10, c11, c12] 61)) :
  Calls Tryz.prog 46 #[.pointer (some ⟨b, 0, none⟩)] w fun e w' => e = .returned (.func (Fn.func 95) #[] #[.pointer (some ⟨w.heap.size, 0, none⟩), .pointer (some ⟨w.heap.size + 1, 0, none⟩)]) ∧
   w'.heap[w.heap.size]? = some (.cells #[.pointer (some ⟨b, 0, none⟩)] 106) ∧ w'.heap[w.heap.size + 1]? = some (.cells #[.int .i64 turn] 3) ∧ Below w.heap.size w w' := by
 obtain ⟨hsz, k0, x0⟩ := box2 w (.cells #[.pointer (some ⟨b, 0, none⟩)] 106) #[.int .i64 turn] 3
 have b0 := below2 w (.cells #[.pointer (some ⟨b, 0, none⟩)] 106) (.cells #[.int .i64 turn] 3)
 have d0 := block_one (heap_alloc_new w (.cells #[.pointer (some ⟨b, 0, none⟩)] 106))
 obtain ⟨f0, f1, f2, f3, f4, f5, f6, f7, f8, f9, f10, f11, f12⟩ := cells13 (block_kept (below_alloc (w := w) (.cells #[.pointer (some ⟨b, 0, none⟩)] 106)) h)
 have K0 := hide k0
 have X0 := hide x0
 clear k0 x0 h hsz
 go_enter Tryz.func46, Tryz.ntmps46
 go_wp2_with fail
 go_ret
 exact ⟨rfl, unhide K0, unhide X0, b0⟩

set_option maxHeartbeats 1000000 in
set_option maxRecDepth 100000 in
theorem takeT_at {b p q sb so m c j : Nat} {ip : Int} {w : World} {c0 c1 c2 c3 c4 c5 c6 c8 c9 c10 c11 c12 : Value} (h : w.heap[b]? = some (.cells #[c0, c1, c2, c3, c4, c5, c6, .slice (some ⟨sb, so, none⟩) m c, c8, c9, c10, c11, c12] 61)) (hp : w.heap[p]? = some (.cells #[.pointer (some ⟨b, 0, none⟩)] 106)) (hq : w.heap[q]? = some (.cells #[.int .i64 (j : Int)] 3)) (hpq : p ≠ q) (hbq : b ≠ q) (hj : j < m) (hm : m ≤ 1048576) (hc : w.cell? ⟨sb, so + j, none⟩ = some (.int .i64 ip)) :
  Calls Tryz.prog 95 #[.pointer (some ⟨p, 0, none⟩), .pointer (some ⟨q, 0, none⟩)] w fun e w' => e = .returned (.tuple #[.int .i64 ip, .int .i64 (((j : Int) + 1).tmod m)]) ∧ Outside q (q + 1) w w' := by
 have f0 := block_one hp
 have f1 := block_one hq
 obtain ⟨d0, d1, d2, d3, d4, d5, d6, d7, d8, d9, d10, d11, d12⟩ := cells13 h
 have hjm : (j : Int) < m := by omega
 have hj1 : IntKind.i64.wrap ((j : Int) + 1) = (j : Int) + 1 := by
  have e : (j : Int) + 1 = ((j + 1 : Nat) : Int) := by omega
  rw [e]
  exact wrap_small _ (by omega)
 have hm0 : (m : Int) ≠ 0 := by omega
 have hm1 : ((m : Int) == 0) = false := by rw [beq_eq_false_iff_ne]; exact hm0
 have hm2 : m ≠ 0 := by omega
 have HH := hide h
 have HP := hide hp
 have HQ := hide hq
 clear h hp hq
 go_enter Tryz.func95, Tryz.ntmps95
 go_wp2_with fail
 go_quiet (fail)
 go_wp2_with fail
 have bd := below_next (below_draws (w := w) nq) (below_drew (w := w.drewN nq))
 have K1 := hide (block_kept bd (unhide HH))
 have P1 := hide (block_kept bd (unhide HP))
 have Q1 := hide (block_kept bd (unhide HQ))
 have U1 : Outside q (q + 1) w (w.drewN nq).drew := ⟨bd.os, bd.tape, bd.output, bd.size, fun k hk _ => bd.block k hk⟩
 clear bd HH HP HQ f0 f1 d0 d1 d2 d3 d4 d5 d6 d7 d8 d9 d10 d11 d12 hc
 refine startF 9 (S := (fun w' => w'.cell? ⟨p, 0, none⟩ = some (.pointer (some ⟨b, 0, none⟩)) ∧ w'.cell? ⟨b, 7, none⟩ = some (.slice (some ⟨sb, so, none⟩) m c))) (by kernel_rfl) rfl ⟨block_one (unhide P1), (cells13 (unhide K1)).2.2.2.2.2.2.2.1⟩ (fun hHeld => ?_)
 simp only [List.replicate]
 generalize (w.drewN nq).drew = W at *
 refine tkI 2 ?_ rfl (by kernel_rfl) (by kernel_rfl) (fun _ _ _ h => h) ?_ hHeld ?_; rotate_left; (· (intro w hSw; (try dsimp only at hSw); go_simp <;> with_reducible rfl)); simp only [Act.put, List.setIfInBounds_toArray, List.set_cons_zero, List.set_cons_succ]
 refine tkI 3 ?_ rfl (by kernel_rfl) (by kernel_rfl) (fun _ _ _ h => h) ?_ hHeld ?_; rotate_left; (· (intro w hSw; (try dsimp only at hSw); go_simp <;> with_reducible rfl)); simp only [Act.put, List.setIfInBounds_toArray, List.set_cons_zero, List.set_cons_succ]
 refine tkI 4 ?_ rfl (by kernel_rfl) (by kernel_rfl) (fun _ _ _ h => h) ?_ hHeld ?_; rotate_left; (· (intro w hSw; (try dsimp only at hSw); go_simp <;> with_reducible rfl)); simp only [Act.put, List.setIfInBounds_toArray, List.set_cons_zero, List.set_cons_succ]
 refine tkI 5 ?_ rfl (by kernel_rfl) (by kernel_rfl) (fun _ _ _ h => h) ?_ hHeld ?_; rotate_left; (· (intro w hSw; (try dsimp only at hSw); go_simp <;> with_reducible rfl)); simp only [Act.put, List.setIfInBounds_toArray, List.set_cons_zero, List.set_cons_succ]
 refine tkI 6 ?_ rfl (by kernel_rfl) (by kernel_rfl) (fun _ _ _ h => h) ?_ hHeld ?_; rotate_left; (· (intro w hSw; (try dsimp only at hSw); go_simp <;> with_reducible rfl)); simp only [Act.put, List.setIfInBounds_toArray, List.set_cons_zero, List.set_cons_succ]
 have fq := block_one (unhide Q1)
 refine runI 0 rfl (by kernel_rfl) (by kernel_rfl) (fun K hK => ?_)
 have HK := hide hK
 clear hK hHeld
 go_simp
 refine (unhide HK).out _ _ ⟨block_one (unhide P1), (cells13 (unhide K1)).2.2.2.2.2.2.2.1⟩ (fun hHeld => ?_)
 clear HK K
 simp only [List.setIfInBounds_toArray, List.set_cons_zero]
 repeat ((first | (refine tkF ?_ rfl (by kernel_rfl) (by rfl) (fun _ _ _ h => h) ?_ hHeld ?_; rotate_left; · (intro w hSw; (try dsimp only at hSw); go_simp <;> with_reducible rfl)) | refine skF rfl (by kernel_rfl) (by rfl) (fun _ _ _ h => h) hHeld ?_); simp only [Act.put, setF, List.setIfInBounds_toArray, List.set_cons_zero, List.set_cons_succ])
 have zq := block_frozen (unhide Q1) 0
 refine runI 8 rfl (by kernel_rfl) (by kernel_rfl) (fun K hK => ?_)
 have HK := hide hK
 clear hK hHeld
 go_simp
 refine (unhide HK).out _ _ ⟨block_one (block_other (unhide P1) (Ne.symm hpq) 0 _), (cells13 (block_other (unhide K1) (Ne.symm hbq) 0 _)).2.2.2.2.2.2.2.1⟩ (fun hHeld => ?_)
 clear HK K
 simp only [List.setIfInBounds_toArray, List.set_cons_zero, List.set_cons_succ]
 refine wpAnyH_done (by kernel_rfl) ?_ _
 clear hHeld
 have Q2 := block_setAt (unhide Q1) 0 (.int .i64 (((j : Int) + 1).tmod m))
 have u2 := outside_set W q 0 (.int .i64 (((j : Int) + 1).tmod m))
 generalize W.setCell ⟨q, 0, none⟩ (.int .i64 (((j : Int) + 1).tmod m)) = W2 at *
 generalize hx : ((j : Int) + 1).tmod m = x at *
 have HX := hide hx
 clear hx
 have f2 := block_one Q2
 have U2 := U1.trans u2
 clear u2 Q2 fq zq
 go_wp2_with fail
 go_quiet (fail)
 go_wp2_with fail
 go_ret2
 exact ⟨by rw [unhide HX]; rfl, U2.trans (outside_belA (below_draws _))⟩

end Go.Proofs.YtjgfljndeolmoaaGreat
