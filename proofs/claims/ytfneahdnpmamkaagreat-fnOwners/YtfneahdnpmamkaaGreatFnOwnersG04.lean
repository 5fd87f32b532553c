/-
  Contracts of the specification's l5owned: one of seven names of the house. Plain facts: an own row of texts that are only looked at, whoever owns them (constant texts among them). Plain facts for l2bent: one label more in the box of a name that is drawn. Plain facts: what a drawn name has, and how it fares while more is drawn. Plain facts: an append of a text's bytes; what may be read of a slice of bytes while a row grows. Plain facts on slices of numbers (int): one that reads as a list, one that owns its row. As for bytes. No program is named here.
-/
import Derived.Test.YtfneahdnpmamkaaGreatFnOwnersG03
import Derived.Lib.AppendStr
namespace Go.Proofs.YtfneahdnpmamkaaGreat
open Go.RowKit
set_option linter.unusedVariables false

def Ck : List ByteArray := [⟨#[104, 111, 109, 101, 46]⟩, ⟨#[112, 99, 46, 104, 111, 109, 101, 46]⟩, ⟨#[116, 118, 46, 104, 111, 109, 101, 46]⟩, ⟨#[97, 46, 112, 99, 46, 104, 111, 109, 101, 46]⟩, ⟨#[115, 117, 98, 46, 104, 111, 109, 101, 46]⟩, ⟨#[121, 46, 115, 117, 98, 46, 104, 111, 109, 101, 46]⟩, ⟨#[110, 115, 46, 115, 117, 98, 46, 104, 111, 109, 101, 46]⟩]
theorem T7 : ∀ s ∈ Ck, s.size ≤ 1048576 := by decide +kernel
theorem Yy : ∀ s ∈ Ck, Ag (A3 (Bz s)).1 = true := by decide +kernel
theorem Uj {w : World} {b : Nat} {t : TypeId} (h : w.heap[b]? = some (.cells #[.string ⟨#[104, 111, 109, 101, 46]⟩, .string ⟨#[112, 99, 46, 104, 111, 109, 101, 46]⟩, .string ⟨#[116, 118, 46, 104, 111, 109, 101, 46]⟩, .string ⟨#[97, 46, 112, 99, 46, 104, 111, 109, 101, 46]⟩, .string ⟨#[115, 117, 98, 46, 104, 111, 109, 101, 46]⟩, .string ⟨#[121, 46, 115, 117, 98, 46, 104, 111, 109, 101, 46]⟩, .string ⟨#[110, 115, 46, 115, 117, 98, 46, 104, 111, 109, 101, 46]⟩] t)) {k : Nat} (hk : k < 7) : ∃ s ∈ Ck, w.cell? ⟨b, k, none⟩ = some (.string s) := by
 have hc := VE h k
 match k, hk with
 | 0, _ => exact ⟨⟨#[104, 111, 109, 101, 46]⟩, by simp [Ck], hc⟩
 | 1, _ => exact ⟨⟨#[112, 99, 46, 104, 111, 109, 101, 46]⟩, by simp [Ck], hc⟩
 | 2, _ => exact ⟨⟨#[116, 118, 46, 104, 111, 109, 101, 46]⟩, by simp [Ck], hc⟩
 | 3, _ => exact ⟨⟨#[97, 46, 112, 99, 46, 104, 111, 109, 101, 46]⟩, by simp [Ck], hc⟩
 | 4, _ => exact ⟨⟨#[115, 117, 98, 46, 104, 111, 109, 101, 46]⟩, by simp [Ck], hc⟩
 | 5, _ => exact ⟨⟨#[121, 46, 115, 117, 98, 46, 104, 111, 109, 101, 46]⟩, by simp [Ck], hc⟩
 | 6, _ => exact ⟨⟨#[110, 115, 46, 115, 117, 98, 46, 104, 111, 109, 101, 46]⟩, by simp [Ck], hc⟩

set_option maxHeartbeats 2000000 in
set_option maxRecDepth 100000 in
theorem Ig {g : Nat} {a : Option Addr} {len cap : Nat} {w : World} (hc : Cur w g a len cap) (hL : Code w g a len) (hm : len ≤ maxLen) :
  Calls Tryz.prog 12 #[.pointer (some ⟨g, 0, none⟩)] w fun e w' => ∃ v' n, e = .returned (.agg #[v']) ∧ Ag n = true ∧ OwnL w.heap.size 22 5 w' v' n ∧ Cur w' g a len cap ∧ w.grownBy w' (some g) := by
 have hg := hc.lt
 obtain ⟨hsz, k0, r0⟩ := box2 w (.cells #[.slice none 0 0] 25) #[.string ⟨#[104, 111, 109, 101, 46]⟩, .string ⟨#[112, 99, 46, 104, 111, 109, 101, 46]⟩, .string ⟨#[116, 118, 46, 104, 111, 109, 101, 46]⟩, .string ⟨#[97, 46, 112, 99, 46, 104, 111, 109, 101, 46]⟩, .string ⟨#[115, 117, 98, 46, 104, 111, 109, 101, 46]⟩, .string ⟨#[121, 46, 115, 117, 98, 46, 104, 111, 109, 101, 46]⟩, .string ⟨#[110, 115, 46, 115, 117, 98, 46, 104, 111, 109, 101, 46]⟩] 9
 have g0 : w.grownBy ((w.alloc (.cells #[.slice none 0 0] 25)).alloc (.cells #[.string ⟨#[104, 111, 109, 101, 46]⟩, .string ⟨#[112, 99, 46, 104, 111, 109, 101, 46]⟩, .string ⟨#[116, 118, 46, 104, 111, 109, 101, 46]⟩, .string ⟨#[97, 46, 112, 99, 46, 104, 111, 109, 101, 46]⟩, .string ⟨#[115, 117, 98, 46, 104, 111, 109, 101, 46]⟩, .string ⟨#[121, 46, 115, 117, 98, 46, 104, 111, 109, 101, 46]⟩, .string ⟨#[110, 115, 46, 115, 117, 98, 46, 104, 111, 109, 101, 46]⟩] 9)) (some g) := Ae (Ae (row := some g) ⟨rfl, rfl, rfl, Nat.le_refl _, fun _ _ _ => rfl⟩ (Au w (.cells #[.slice none 0 0] 25) none) (fun j e => by cases e)) (Au _ _ none) (fun j e => by cases e)
 have hc0 := hc.later (Ae (Ae (row := none) ⟨rfl, rfl, rfl, Nat.le_refl _, fun _ _ _ => rfl⟩ (Au w (.cells #[.slice none 0 0] 25) none) (fun j e => by cases e)) (Au _ (.cells #[.string ⟨#[104, 111, 109, 101, 46]⟩, .string ⟨#[112, 99, 46, 104, 111, 109, 101, 46]⟩, .string ⟨#[116, 118, 46, 104, 111, 109, 101, 46]⟩, .string ⟨#[97, 46, 112, 99, 46, 104, 111, 109, 101, 46]⟩, .string ⟨#[115, 117, 98, 46, 104, 111, 109, 101, 46]⟩, .string ⟨#[121, 46, 115, 117, 98, 46, 104, 111, 109, 101, 46]⟩, .string ⟨#[110, 115, 46, 115, 117, 98, 46, 104, 111, 109, 101, 46]⟩] 9) none) (fun j e => by cases e)) (fun j e => by cases e)
 have hL0 := hL.later g0 (fun j e => by cases e; exact Nat.le_refl _)
 have HB := UC (A9 7 hc0 hL0 hm (by omega) (by omega))
 have K0 := UC k0
 have R0 := UC r0
 have G0 := UC g0
 clear hc hL k0 r0 g0 hc0 hL0
 go_enter Tryz.func12, Tryz.ntmps12
 go_wp2_with fail
 generalize (w.alloc (.cells #[.slice none 0 0] 25)).alloc (.cells #[.string ⟨#[104, 111, 109, 101, 46]⟩, .string ⟨#[112, 99, 46, 104, 111, 109, 101, 46]⟩, .string ⟨#[116, 118, 46, 104, 111, 109, 101, 46]⟩, .string ⟨#[97, 46, 112, 99, 46, 104, 111, 109, 101, 46]⟩, .string ⟨#[115, 117, 98, 46, 104, 111, 109, 101, 46]⟩, .string ⟨#[121, 46, 115, 117, 98, 46, 104, 111, 109, 101, 46]⟩, .string ⟨#[110, 115, 46, 115, 117, 98, 46, 104, 111, 109, 101, 46]⟩] 9) = W at *
 refine (UB HB).mono ?_
 rintro e w1 ⟨x, rfl, hx0, hx1, hc1, g1⟩
 obtain ⟨k, rfl⟩ := Int.eq_ofNat_of_zero_le hx0
 have hk : k < 7 := by omega
 have hk' : (k : Int) < 7 := by omega
 have K1 := UC (Aa g1 (UB K0) (by simp; omega))
 obtain ⟨s, hs, cs⟩ := Uj (Aa g1 (UB R0) (by simp; omega)) hk
 have HS := UC hs
 have HO := UC (Gr s w1 (T7 s hs))
 have G1 := UC g1
 have C1 := UC hc1
 have z1 := g1.size
 have zk := VC (UB K1)
 clear hs HB K0 R0 g1 hc1
 go_wp2_with fail
 refine (UB HO).mono ?_
 rintro e w2 ⟨v2, rfl, o2, b2⟩
 obtain ⟨oa, oc, rfl, _⟩ := o2.hasL.form
 have k2 := UE b2 (UB K1)
 have c2 := US k2
 have f2 := VG k2 0
 generalize hR : (A3 (Bz s)).1 = R at *
 have K2 := UC (Av k2 (.slice oa R.length oc))
 have O2 := UC o2
 have B2 := UC b2
 have HRR := UC hR
 clear o2 b2 k2 K1 HO hR
 go_wp2_with fail
 refine bodyPost_ret (results_cell_row rfl _ _ w.heap.size 25 #[.slice oa R.length oc] (0, 0) _ rfl (UB K2) Tryz.underlying25 rfl (by kernel_rfl)) rfl ?_
 have gA : w.grownBy w1 (some g) := ⟨(UB G1).os.trans (UB G0).os, (UB G1).tape.trans (UB G0).tape, (UB G1).output.trans (UB G0).output, by have := (UB G0).size; omega, fun i hi hn => ((UB G1).block i (by have := (UB G0).size; omega) hn).trans ((UB G0).block i hi hn)⟩
 have zw := (UB G0).size
 have g2 : w1.grownBy (w2.setCell ⟨w.heap.size, 0, none⟩ (.slice oa R.length oc)) (some w.heap.size) := ⟨(Ab w2 _ _).os.trans (UB B2).os, (Ab w2 _ _).tape.trans (UB B2).tape, (Ab w2 _ _).output.trans (UB B2).output, Nat.le_trans (UB B2).size (Ab w2 _ _).size, fun i hi hn => ((Ab w2 ⟨w.heap.size, 0, none⟩ (.slice oa R.length oc)).block i (Nat.lt_of_lt_of_le hi (UB B2).size) (by simpa using hn)).trans ((UB B2).block i hi)⟩
 exact ⟨_, R, rfl, by rw [← UB HRR]; exact Yy s (UB HS), ((UB O2).kept (Ab _ _ _) (by show w.heap.size < _; omega)).mono (by omega), (UB C1).later g2 (fun j e => by cases e; exact hg), Ae gA g2 (fun j e => by cases e; exact Nat.le_refl _)⟩
def Ci (eb : TypeId) (w : World) (x : Value) : Prop := ∀ g off len cap, x = .slice (some ⟨g, off, none⟩) len cap → ∃ c fr, w.heap[g]? = some (.cells c eb fr)
def OwnT (B : Nat) (el eb : TypeId) (w : World) (v : Value) (n : List (List Int)) : Prop :=
 ∃ vs : List Value, w.ownsRow B el 1 v n.length vs ∧ ∀ i, i < n.length → ∃ x, vs[i]? = some x ∧ Has w x (n.getD i []) ∧ Ci eb w x
theorem Ci.nil (eb : TypeId) (w : World) : Ci eb w (.slice none 0 0) := fun g off len cap e => by cases e
theorem Ci.below {eb : TypeId} {w w' : World} {x : Value} (h : Ci eb w x) (hb : Below w.heap.size w w') : Ci eb w' x := fun g off len cap e => by
 obtain ⟨c, fr, h1⟩ := h g off len cap e
 exact ⟨c, fr, (hb.block g (VC h1)).trans h1⟩
theorem Own.typed {B : Nat} {eb : TypeId} {w : World} {x : Value} {l : List Int} (h : Own B eb w x l) : Ci eb w x := fun g off len cap e => by
 rcases h.2 with ⟨h1, _⟩ | ⟨g', cap', cur, h1, _, h2, _⟩
 ·rw [h1] at e; cases e
 ·rw [h1] at e; cases e
  exact ⟨_, _, h2⟩
theorem OwnL.ownT {B : Nat} {el eb : TypeId} {w : World} {v : Value} {n : List (List Int)} (h : OwnL B el eb w v n) : OwnT B el eb w v n := by
 obtain ⟨vs, h1, h2, _⟩ := h
 refine ⟨vs, h1, fun i hi => ?_⟩
 obtain ⟨x, h3, h4⟩ := h2 i hi
 exact ⟨x, h3, h4.has, h4.typed⟩
theorem OwnT.mono {B B' : Nat} {el eb : TypeId} {w : World} {v : Value} {n : List (List Int)} (h : OwnT B el eb w v n) (hB : B' ≤ B) : OwnT B' el eb w v n := by
 obtain ⟨vs, h1, h2⟩ := h
 exact ⟨vs, E9 h1 hB, h2⟩
theorem OwnT.below {B : Nat} {el eb : TypeId} {w w' : World} {v : Value} {n : List (List Int)} (h : OwnT B el eb w v n) (hb : Below w.heap.size w w') : OwnT B el eb w' v n := by
 obtain ⟨vs, h1, h2⟩ := h
 refine ⟨vs, Ay h1 hb, fun i hi => ?_⟩
 obtain ⟨x, h3, h4, h5⟩ := h2 i hi
 exact ⟨x, h3, h4.below hb, h5.below hb⟩
theorem T8 {B b n : Nat} {e t : TypeId} {w : World} {v : Value} {xs : List Value} {c : Array Value} {fr : Nat × Nat} (h : w.ownsRow B e 1 v n xs) (hb : w.heap[b]? = some (.cells c t fr)) (hne : t ≠ e) : v.ownBlock ≠ some b := by
 intro hq
 rcases h.2 with ⟨rfl, _⟩ | ⟨g, cap, cur, rfl, _, hg, _⟩
 ·simp [Value.ownBlock] at hq
 ·simp [Value.ownBlock] at hq
  subst hq
  rw [hg] at hb
  simp at hb
  exact hne hb.2.1.symm
theorem Has.off_row {B n : Nat} {el eb : TypeId} {w w' : World} {v x : Value} {xs : List Value} {l : List Int} (hr : w.ownsRow B el 1 v n xs) (hne : eb ≠ el) (h : Has w x l) (ht : Ci eb w x) (hg : w.grownBy w' v.ownBlock) : Has w' x l ∧ Ci eb w' x := by
 have key : ∀ g off len cap, x = .slice (some ⟨g, off, none⟩) len cap → w'.heap[g]? = w.heap[g]? := fun g off len cap e => by
  obtain ⟨c, fr, h1⟩ := ht g off len cap e
  have := T8 hr h1 hne
  exact hg.block g (VC h1) (fun q => this q.symm)
 refine ⟨?_, fun g off len cap e => ?_⟩
 ·rcases h with h | ⟨g, off, cap, e, h1, h2, h3, h4⟩
  ·exact .inl h
  ·refine .inr ⟨g, off, cap, e, Nat.lt_of_lt_of_le h1 hg.size, h2, h3, fun i hi => ?_⟩
   have hc := h4 i hi
   unfold World.cell? at hc ⊢
   rw [key g off _ cap e]
   exact hc
 ·obtain ⟨c, fr, h1⟩ := ht g off len cap e
  exact ⟨c, fr, (key g off len cap e).trans h1⟩
theorem OwnT.snoc {B m : Nat} {el eb : TypeId} {W w' : World} {v v' u : Value} {n : List (List Int)} {l : List Int} {vs : List Value} (hvs : W.ownsRow B el 1 v n.length vs) (hva : ∀ i, i < n.length → ∃ x, vs[i]? = some x ∧ Has W x (n.getD i []) ∧ Ci eb W x)
  (hu : Has W u l) (htu : Ci eb W u) (hne : eb ≠ el) (ho : w'.ownsRow B el 1 v' m (vs ++ [u])) (hm : m = n.length + 1) (hg : W.grownBy w' v.ownBlock) : OwnT B el eb w' v' (n ++ [l]) := by
 have hl : vs.length = n.length := by have := hvs.1; simpa using this
 subst hm
 refine ⟨vs ++ [u], by simpa using ho, fun i hi => ?_⟩
 simp at hi
 by_cases h : i < n.length
 ·obtain ⟨x, h1, h2, h3⟩ := hva i h
  have := Has.off_row hvs hne h2 h3 hg
  refine ⟨x, by rw [List.getElem?_append_left (by omega)]; exact h1, ?_, this.2⟩
  rw [List.getD_eq_getElem?_getD, List.getElem?_append_left h, ← List.getD_eq_getElem?_getD]
  exact this.1
 ·obtain rfl : i = n.length := by omega
  have := Has.off_row hvs hne hu htu hg
  refine ⟨u, by rw [← hl]; simp, ?_, this.2⟩
  rw [List.getD_eq_getElem?_getD]
  simp
  exact this.1
theorem Has.off_cell {eb t : TypeId} {w : World} {x : Value} {l : List Int} {q j : Nat} {c : Array Value} (h : Has w x l) (ht : Ci eb w x) (hk : w.heap[q]? = some (.cells c t)) (hne : t ≠ eb) (u : Value) : Has (w.setCell ⟨q, j, none⟩ u) x l ∧ Ci eb (w.setCell ⟨q, j, none⟩ u) x := by
 have hg := Ab w ⟨q, j, none⟩ u
 have key : ∀ g off len cap, x = .slice (some ⟨g, off, none⟩) len cap → (w.setCell ⟨q, j, none⟩ u).heap[g]? = w.heap[g]? := fun g off len cap e => by
  obtain ⟨c', fr, h1⟩ := ht g off len cap e
  refine hg.block g (VC h1) ?_
  intro e'
  have e2 : g = q := by simpa using e'
  subst e2
  rw [hk] at h1
  simp at h1
  exact hne h1.2.1
 refine ⟨?_, fun g off len cap e => ?_⟩
 ·rcases h with h | ⟨g, off, cap, e, h1, h2, h3, h4⟩
  ·exact .inl h
  ·refine .inr ⟨g, off, cap, e, Nat.lt_of_lt_of_le h1 hg.size, h2, h3, fun i hi => ?_⟩
   have hc := h4 i hi
   unfold World.cell? at hc ⊢
   rw [key g off _ cap e]
   exact hc
 ·obtain ⟨c', fr, h1⟩ := ht g off len cap e
  exact ⟨c', fr, (key g off len cap e).trans h1⟩
theorem OwnT.set {B q j : Nat} {el eb t : TypeId} {w : World} {v : Value} {n : List (List Int)} {c : Array Value} (h : OwnT B el eb w v n) (hk : w.heap[q]? = some (.cells c t)) (h1 : t ≠ el) (h2 : t ≠ eb) (u : Value) : OwnT B el eb (w.setCell ⟨q, j, none⟩ u) v n := by
 obtain ⟨vs, h3, h4⟩ := h
 have hap := Cp h3 hk h1
 refine ⟨vs, World.ownsRow.kept h3 (Ab w ⟨q, j, none⟩ u) (by cases hq : v.ownBlock with | none => exact .inl rfl | some r => exact .inr (by intro e; simp at e; rw [hq, e] at hap; exact hap rfl)), fun i hi => ?_⟩
 obtain ⟨x, h5, h6, h7⟩ := h4 i hi
 have := Has.off_cell (j := j) h6 h7 hk h2 u
 exact ⟨x, h5, this.1, this.2⟩
theorem Dp {n : List (List Int)} {l : List Int} {k : Nat} (h : ∀ i, i < n.length → (n.getD i []).length ≤ k) (hl : l.length ≤ k) : ∀ i, i < (n ++ [l]).length → ((n ++ [l]).getD i []).length ≤ k := by
 intro i hi
 simp at hi
 by_cases h1 : i < n.length
 ·rw [List.getD_eq_getElem?_getD, List.getElem?_append_left h1, ← List.getD_eq_getElem?_getD]
  exact h i h1
 ·obtain rfl : i = n.length := by omega
  rw [List.getD_eq_getElem?_getD]
  simpa using hl
theorem Dx (w : World) (eb : TypeId) (C : Array Value) (fr : Nat × Nat) (n c : Nat) : Ci eb (w.alloc (.cells C eb fr)) (.slice (some ⟨w.heap.size, 0, none⟩) n c) := fun g off len cap e => by
 cases e
 exact ⟨C, fr, heap_alloc_new w (.cells C eb fr)⟩
theorem OwnT.form {B : Nat} {el eb : TypeId} {w : World} {v : Value} {n : List (List Int)} (h : OwnT B el eb w v n) : ∃ oa oc, v = .slice oa n.length oc := by
 obtain ⟨vs, h1, _⟩ := h
 rcases h1.2 with ⟨rfl, h0⟩ | ⟨g, cap, _, rfl, _⟩
 ·exact ⟨none, 0, by rw [h0]⟩
 ·exact ⟨_, cap, rfl⟩
def Xh (w W w1 : World) (g : Nat) (a : Option Addr) (len cap : Nat) (k : Nat) (wr : World) : Prop :=
 ∃ (n : List (List Int)) (v : Value), n.length + k = 7 ∧ (∀ i, i < n.length → (n.getD i []).length ≤ 16) ∧ wr.heap[w1.heap.size]? = some (.cells #[v] 25) ∧ wr.heap[w.heap.size]? = some (.cells #[.slice none 0 0] 25)
  ∧ OwnT W.heap.size 22 5 wr v n ∧ Cur wr g a len cap ∧ w.grownBy wr (some g)
theorem Eh {B q r g m len cap : Nat} {a : Option Addr} {w0 w W w' : World} {v v' u z : Value} {n : List (List Int)} {l : List Int} {vs : List Value}
  (hvs : w.ownsRow B 22 1 v n.length vs) (hva : ∀ i, i < n.length → ∃ x, vs[i]? = some x ∧ Has w x (n.getD i []) ∧ Ci 5 w x) (hb : Below w.heap.size w W)
  (hu : Has W u l) (htu : Ci 5 W u) (ho : w'.ownsRow B 22 1 v' m (vs ++ [u])) (hm : m = n.length + 1) (hg : W.grownBy w' v.ownBlock)
  (hq : w.heap[q]? = some (.cells #[v] 25)) (hr : w.heap[r]? = some (.cells #[z] 25)) (hqr : q ≠ r) (hc : Cur w g a len cap) (hgB : g < B) (hgq : g < q) (h0 : w0.grownBy w (some g)) (hB : w0.heap.size ≤ B) (hq0 : w0.heap.size ≤ q) :
  w'.heap[q]? = some (.cells #[v] 25) ∧ OwnT B 22 5 (w'.setCell ⟨q, 0, none⟩ v') v' (n ++ [l]) ∧ (w'.setCell ⟨q, 0, none⟩ v').heap[q]? = some (.cells #[v'] 25) ∧ (w'.setCell ⟨q, 0, none⟩ v').heap[r]? = some (.cells #[z] 25)
   ∧ Cur (w'.setCell ⟨q, 0, none⟩ v') g a len cap ∧ w0.grownBy (w'.setCell ⟨q, 0, none⟩ v') (some g) := by
 have hW := Ay hvs hb
 have hap := Cp hW (UE hb hq) (by decide)
 have har := Cp hW (UE hb hr) (by decide)
 have k1 := Aa hg (UE hb hq) hap
 have k2 := Aa hg (UE hb hr) har
 have o1 : OwnT B 22 5 w' v' (n ++ [l]) := OwnT.snoc hW (fun i hi => by obtain ⟨x, h1, h2, h3⟩ := hva i hi; exact ⟨x, h1, h2.below hb, h3.below hb⟩) hu htu (by decide) ho hm hg
 have gs := Ab w' ⟨q, 0, none⟩ v'
 have hlt := World.ownsRow.lt hW
 have gb : w.grownBy W none := ⟨hb.os, hb.tape, hb.output, hb.size, fun i hi _ => hb.block i hi⟩
 refine ⟨k1, o1.set k1 (by decide) (by decide) _, Av k1 v', Aa gs k2 (by simpa using hqr), ?_, ?_⟩
 ·exact ((hc.later gb (fun j e => by cases e)).later hg (fun j e => by have := (hlt j e).1; omega)).later gs (fun j e => by cases e; exact hgq)
 ·exact Ae (Ae (Ae h0 gb (fun j e => by cases e)) hg (fun j e => by have := (hlt j e).1; omega)) gs (fun j e => by cases e; exact hq0)
theorem OwnT.hasL {B : Nat} {el eb : TypeId} {w : World} {v : Value} {n : List (List Int)} (h : OwnT B el eb w v n) : HasL w v n := by
 obtain ⟨vs, h1, h2⟩ := h
 rcases h1.2 with ⟨rfl, hn⟩ | ⟨g, cap, cur, rfl, hb, hg, hn, hm, hs, ht⟩
 ·exact .inl ⟨rfl, List.eq_nil_of_length_eq_zero hn⟩
 ·refine .inr ⟨g, 0, cap, rfl, (World.ownsRow.lt h1 g rfl).2, hn, hm, fun i hi => ?_⟩
  obtain ⟨x, h3, h4, _⟩ := h2 i hi
  refine ⟨x, ?_, h4⟩
  rw [Nat.zero_add, World.ownsRow.cellAt h1 i (by omega), h3]
theorem OwnT.off {B q : Nat} {el eb t : TypeId} {w w' : World} {v : Value} {n : List (List Int)} {c : Array Value} (h : OwnT B el eb w v n) (hk : w.heap[q]? = some (.cells c t)) (h1 : t ≠ el) (h2 : t ≠ eb) (hg : w.grownBy w' (some q)) : OwnT B el eb w' v n := by
 obtain ⟨vs, h3, h4⟩ := h
 have hap := Cp h3 hk h1
 refine ⟨vs, World.ownsRow.kept h3 hg (.inr hap), fun i hi => ?_⟩
 obtain ⟨x, h5, h6, h7⟩ := h4 i hi
 have key : ∀ g off len cap, x = .slice (some ⟨g, off, none⟩) len cap → w'.heap[g]? = w.heap[g]? := fun g off len cap e => by
  obtain ⟨c', fr, e1⟩ := h7 g off len cap e
  refine hg.block g (VC e1) ?_
  intro e'
  have e2 : g = q := by simpa using e'
  subst e2
  rw [hk] at e1
  simp at e1
  exact h2 e1.2.1
 refine ⟨x, h5, ?_, fun g off len cap e => ?_⟩
 ·rcases h6 with h | ⟨g, off, cap, e, e1, e2, e3, e4⟩
  ·exact .inl h
  ·refine .inr ⟨g, off, cap, e, Nat.lt_of_lt_of_le e1 hg.size, e2, e3, fun i hi => ?_⟩
   have hc := e4 i hi
   unfold World.cell? at hc ⊢
   rw [key g off _ cap e]
   exact hc
 ·obtain ⟨c', fr, e1⟩ := h7 g off len cap e
  exact ⟨c', fr, (key g off len cap e).trans e1⟩
theorem OwnT.cur {B g len cap : Nat} {a : Option Addr} {w w' : World} {v : Value} {n : List (List Int)} (h : OwnT B 22 5 w v n) (hc : Cur w g a len cap) (hg : w.grownBy w' (some g)) : OwnT B 22 5 w' v n := by
 obtain ⟨i, x, h1, _⟩ := hc
 exact h.off h1 (by decide) (by decide) hg
section
variable {P : Program} {w : World}

end

theorem Has.head {w : World} {g off len cap : Nat} {l : List Int} (h : Has w (.slice (some ⟨g, off, none⟩) len cap) l) {i : Nat} (hi : i ≤ l.length) : Has w (.slice (some ⟨g, off, none⟩) i cap) (l.take i) := by
 have e : (l.take i).length = i := by simp; omega
 rcases h with ⟨hv, _⟩ | ⟨g', off', cap', hv, h1, h2, h3, hc⟩
 ·cases hv
 ·simp only [Value.slice.injEq, Option.some.injEq, Addr.mk.injEq] at hv
  obtain ⟨⟨rfl, rfl, _⟩, _, rfl⟩ := hv
  refine .inr ⟨g, off, cap, by rw [e], h1, by rw [e]; omega, h3, fun k hk => ?_⟩
  rw [e] at hk
  rw [hc k (by omega)]
  congr 2
  simp only [List.getD_eq_getElem?_getD]
  rw [List.getElem?_take_of_lt hk]
theorem Has.off {q : Nat} {eb t : TypeId} {w w' : World} {x : Value} {l : List Int} {c : Array Value} (h : Has w x l) (ht : Ci eb w x) (hk : w.heap[q]? = some (.cells c t)) (hne : t ≠ eb) (hg : w.grownBy w' (some q)) : Has w' x l ∧ Ci eb w' x := by
 have key : ∀ g off len cap, x = .slice (some ⟨g, off, none⟩) len cap → w'.heap[g]? = w.heap[g]? := fun g off len cap e => by
  obtain ⟨c', fr, h1⟩ := ht g off len cap e
  refine hg.block g (VC h1) ?_
  intro e'
  have e2 : g = q := by simpa using e'
  subst e2
  rw [hk] at h1
  simp at h1
  exact hne h1.2.1
 refine ⟨?_, fun g off len cap e => ?_⟩
 ·rcases h with h | ⟨g, off, cap, e, h1, h2, h3, h4⟩
  ·exact .inl h
  ·refine .inr ⟨g, off, cap, e, Nat.lt_of_lt_of_le h1 hg.size, h2, h3, fun i hi => ?_⟩
   have hc := h4 i hi
   unfold World.cell? at hc ⊢
   rw [key g off _ cap e]
   exact hc
 ·obtain ⟨c', fr, h1⟩ := ht g off len cap e
  exact ⟨c', fr, (key g off len cap e).trans h1⟩
theorem Has.cur {g len cap : Nat} {a : Option Addr} {w w' : World} {x : Value} {l : List Int} (h : Has w x l) (ht : Ci 5 w x) (hc : Cur w g a len cap) (hg : w.grownBy w' (some g)) : Has w' x l ∧ Ci 5 w' x := by
 obtain ⟨i, y, h1, _⟩ := hc
 exact h.off ht h1 (by decide) hg
end Go.Proofs.YtfneahdnpmamkaaGreat

namespace Go.Proofs.YtfneahdnpmamkaaGreat
open Go.RowKit

def Iz (w : World) (a : Option Addr) (l : List Int) : Prop :=
 l = [] ∨ ∃ b off, a = some ⟨b, off, none⟩ ∧ b < w.heap.size ∧ ∀ i, i < l.length → w.cell? ⟨b, off + i, none⟩ = some (.int .i64 (l.getD i 0))

def OwnI (B : Nat) (e : TypeId) (w : World) (v : Value) (l : List Int) : Prop := w.ownsRow B e 1 v l.length (l.map (Value.int .i64))

theorem Iz.below {w w' : World} {a : Option Addr} {l : List Int} (h : Iz w a l) (hb : Below w.heap.size w w') : Iz w' a l := by
 rcases h with rfl | ⟨b, off, rfl, hlt, hc⟩
 ·exact .inl rfl
 ·exact .inr ⟨b, off, rfl, Nat.lt_of_lt_of_le hlt hb.size, fun i hi => (hb.cell (p := ⟨b, off + i, none⟩) hlt).trans (hc i hi)⟩

theorem Iz.cell {w w' : World} {a : Option Addr} {l : List Int} (h : Iz w a l) (hb : Below w.heap.size w w') {k : Nat} (hk : k < l.length) :
  ∃ b off, a = some ⟨b, off, none⟩ ∧ b < w.heap.size ∧ w'.cell? ⟨b, off + k, none⟩ = some (.int .i64 (l.getD k 0)) := by
 rcases h with rfl | ⟨b, off, rfl, hlt, hc⟩
 ·simp at hk
 ·exact ⟨b, off, rfl, hlt, (hb.cell (p := ⟨b, off + k, none⟩) hlt).trans (hc k hk)⟩

theorem Iz.here {w : World} {a : Option Addr} {l : List Int} (h : Iz w a l) {k : Nat} (hk : k < l.length) :
  ∃ b off, a = some ⟨b, off, none⟩ ∧ b < w.heap.size ∧ w.cell? ⟨b, off + k, none⟩ = some (.int .i64 (l.getD k 0)) := h.cell (Below.refl _ _) hk

theorem Ul (l : List Int) (j : Nat) (hj : j < l.length) : (l.map (Value.int .i64))[j]? = some (.int .i64 (l.getD j 0)) := by
 simp [hj]

section
variable {B : Nat} {e : TypeId} {w w' : World} {v : Value} {l : List Int}

theorem OwnI.form (h : OwnI B e w v l) : (v = .slice none 0 0 ∧ l = []) ∨
  ∃ g cap, v = .slice (some ⟨g, 0, none⟩) l.length cap ∧ B ≤ g ∧ g < w.heap.size ∧ l.length ≤ cap ∧ cap ≤ maxLen ∧
   (∀ i, i < l.length → w.cell? ⟨g, i, none⟩ = some (.int .i64 (l.getD i 0))) ∧ ∀ i, w.frozen? ⟨g, i, none⟩ = false := by
 have h' := h
 rcases h.2 with ⟨rfl, hn⟩ | ⟨g, cap, cur, rfl, hb, hg, hn, hm, hs, ht⟩
 ·exact .inl ⟨rfl, List.eq_nil_of_length_eq_zero hn⟩
 ·refine .inr ⟨g, cap, rfl, hb, (h'.lt g rfl).2, hn, hm, fun i hi => ?_, fun i => World.ownsRow.frozenAt h' i⟩
  rw [World.ownsRow.cellAt h' i (by omega), Ul l i hi]

theorem OwnI.lies (h : OwnI B e w v l) : ∃ a cap, v = .slice a l.length cap ∧ Iz w a l := by
 rcases h.form with ⟨rfl, rfl⟩ | ⟨g, cap, rfl, _, hlt, _, _, hc, _⟩
 ·exact ⟨none, 0, rfl, .inl rfl⟩
 ·exact ⟨_, cap, rfl, .inr ⟨g, 0, rfl, hlt, fun i hi => by simpa using hc i hi⟩⟩

theorem OwnI.mono {B' : Nat} (h : OwnI B e w v l) (hB : B' ≤ B) : OwnI B' e w v l := by
 refine ⟨h.1, ?_⟩
 rcases h.2 with hn | ⟨g, cap, cur, hv, hb, rest⟩
 ·exact .inl hn
 ·exact .inr ⟨g, cap, cur, hv, Nat.le_trans hB hb, rest⟩

theorem OwnI.lt (h : OwnI B e w v l) : ∀ k, v.ownBlock = some k → B ≤ k ∧ k < w.heap.size := World.ownsRow.lt h

theorem OwnI.kept {row : Option Nat} (h : OwnI B e w v l) (hg : w.grownBy w' row) (hne : v.ownBlock = none ∨ v.ownBlock ≠ row) : OwnI B e w' v l := World.ownsRow.kept h hg hne

theorem OwnI.below (h : OwnI B e w v l) (hb : Below w.heap.size w w') : OwnI B e w' v l := by
 refine h.kept (Ac hb) ?_
 cases hv : v.ownBlock with
 | none => exact .inl rfl
 | some k => exact .inr (by simp)

end

theorem OwnI.alloc {B : Nat} {e : TypeId} {w : World} {v : Value} {l : List Int} (h : OwnI B e w v l) (o : Obj) : OwnI B e (w.alloc o) v l := World.ownsRow.alloc h o

def HasI (w : World) (v : Value) (l : List Int) : Prop :=
 (v = .slice none 0 0 ∧ l = []) ∨ ∃ g off cap, v = .slice (some ⟨g, off, none⟩) l.length cap ∧ g < w.heap.size ∧ l.length ≤ cap ∧ cap ≤ maxLen ∧ ∀ i, i < l.length → w.cell? ⟨g, off + i, none⟩ = some (.int .i64 (l.getD i 0))

theorem OwnI.has {B : Nat} {e : TypeId} {w : World} {v : Value} {l : List Int} (h : OwnI B e w v l) : HasI w v l := by
 rcases h.form with h | ⟨g, cap, hv, _, hlt, hl, hm, hc, _⟩
 ·exact .inl h
 ·exact .inr ⟨g, 0, cap, hv, hlt, hl, hm, fun i hi => by rw [Nat.zero_add]; exact hc i hi⟩

theorem HasI.below {w w' : World} {v : Value} {l : List Int} (h : HasI w v l) (hb : Below w.heap.size w w') : HasI w' v l := by
 rcases h with h | ⟨g, off, cap, hv, hlt, hl, hm, hc⟩
 ·exact .inl h
 ·exact .inr ⟨g, off, cap, hv, Nat.lt_of_lt_of_le hlt hb.size, hl, hm, fun i hi => (hb.cell (p := ⟨g, off + i, none⟩) hlt).trans (hc i hi)⟩

theorem HasI.form {w : World} {v : Value} {l : List Int} (h : HasI w v l) : ∃ a cap, v = .slice a l.length cap ∧ Iz w a l := by
 rcases h with ⟨rfl, rfl⟩ | ⟨g, off, cap, rfl, hlt, _, _, hc⟩
 ·exact ⟨none, 0, rfl, .inl rfl⟩
 ·exact ⟨_, cap, rfl, .inr ⟨g, off, rfl, hlt, hc⟩⟩

def E4 (C E : Nat) (e : TypeId) (w : World) (v : Value) (l : List Int) : Prop := OwnI C e w v l ∧ ∀ q, v.ownBlock = some q → q < E
theorem OwnI.here {C : Nat} {e : TypeId} {w : World} {v : Value} {l : List Int} (h : OwnI C e w v l) : E4 C w.heap.size e w v l := ⟨h, fun q hq => (h.lt q hq).2⟩
theorem E4.has {C E : Nat} {e : TypeId} {w : World} {v : Value} {l : List Int} (h : E4 C E e w v l) : HasI w v l := h.1.has
theorem E4.below {C E : Nat} {e : TypeId} {w w' : World} {v : Value} {l : List Int} (h : E4 C E e w v l) (hb : Below w.heap.size w w') : E4 C E e w' v l := ⟨h.1.below hb, h.2⟩
theorem E4.outside {C E B D : Nat} {e : TypeId} {w w' : World} {v : Value} {l : List Int} (h : E4 C E e w v l) (u : Ap B D w w') (hd : E ≤ B ∨ D ≤ C) : E4 C E e w' v l :=
 ⟨E3 h.1 u (fun q hq => by have h1 := (h.1.lt q hq).1; have h2 := h.2 q hq; omega), h.2⟩
end Go.Proofs.YtfneahdnpmamkaaGreat
