/-
  Plain facts: which messages may be, and their bytes. No program is named here. Contracts of the program's copyQuestion and of copyAll of questions. What ReplyTo answers; messages that own what they have. Contracts of the program's upTo. Contracts of the program's labelSign and LabelOk.
-/
import Derived.Test.YtnplmeifhebhhaaGreatReplyToG06
import Derived.Test.YtnplmeifhebhhaaGreatReplyToG13
import Derived.Test.YtnplmeifhebhhaaGreatReplyToG10
import Derived.Test.YtnplmeifhebhhaaGreatReplyToG12
import Derived.Test.YtnplmeifhebhhaaGreatReplyToG05
import Derived.Test.YtnplmeifhebhhaaGreatReplyToG00
namespace Go.Proofs.YtnplmeifhebhhaaGreat
open Go.RowKit
set_option linter.unusedVariables false

def que1 (m : Mg) : Que := m.qs.getD 0 queZ
def queOk (l : List Que) : Bool := decide (l.length = 1) && (nameOk (l.getD 0 queZ).name && asked (l.getD 0 queZ).type)
def rrsOk (l : List Rec) : Bool := decide (l.length ≤ 12) && l.all rrOk
def wntOk (x : Wnt) : Bool := wantOk x.rr x.cls x.bare
def wntsOk (l : List Wnt) : Bool := decide (l.length ≤ 12) && l.all wntOk
def opOk (m : Mg) : Bool := if m.op = 0 then (decide (m.pres.length = 0) && decide (m.ups.length = 0)) else if m.op = 5 then (decide ((que1 m).type = 6) && (decide (m.ans.length = 0) && (decide (m.aus.length = 0) && decide (m.more.length = 0)))) else false
def listsOk (m : Mg) : Bool := rrsOk m.ans && (rrsOk m.aus && (rrsOk m.more && (wntsOk m.pres && wntsOk m.ups)))
def mayM (m : Mg) : Bool := decide (0 ≤ m.id ∧ m.id ≤ 65535) && (decide (0 ≤ m.code ∧ m.code ≤ 10) && (queOk m.qs && (opOk m && listsOk m)))

theorem all_take {α : Type} {p : α → Bool} (l : List α) (d : α) : ∀ k, (∀ j, j < k → j < l.length → p (l.getD j d) = true) → (l.take k).all p = true := by
 intro k hk
 rw [List.all_eq_true]
 intro x hx
 obtain ⟨j, hj, e⟩ := List.getElem_of_mem hx
 rw [List.length_take] at hj
 have := hk j (by omega) (by omega)
 rw [List.getD_eq_getElem?_getD, List.getElem?_eq_getElem (by omega), Option.getD_some] at this
 rw [← e, List.getElem_take]
 exact this
theorem all_of {α : Type} {p : α → Bool} (l : List α) (d : α) (h : ∀ j, j < l.length → p (l.getD j d) = true) : l.all p = true := by
 have := all_take (p := p) l d l.length (fun j _ hj => h j hj)
 rwa [List.take_length] at this
theorem all_not {α : Type} {p : α → Bool} (l : List α) (d : α) {k : Nat} (hk : k < l.length) (h : p (l.getD k d) = false) : l.all p = false := by
 rw [List.all_eq_false]
 refine ⟨l[k], List.getElem_mem hk, ?_⟩
 rw [List.getD_eq_getElem?_getD, List.getElem?_eq_getElem hk, Option.getD_some] at h
 simp [h]
theorem all_at {α : Type} {p : α → Bool} {l : List α} (d : α) (h : l.all p = true) {k : Nat} (hk : k < l.length) : p (l.getD k d) = true := by
 rw [List.all_eq_true] at h
 rw [List.getD_eq_getElem?_getD, List.getElem?_eq_getElem hk, Option.getD_some]
 exact h _ (List.getElem_mem hk)

/-! Bytes. -/
def firstM (m : Mg) : Nat := if m.op = 5 then m.pres.length else m.ans.length
def secondM (m : Mg) : Nat := if m.op = 5 then m.ups.length else m.aus.length
def flagsM (m : Mg) : Int := 2048 * m.op + m.code + (if m.reply = true then 32768 else 0) + (if m.auth = true then 1024 else 0)
def headM (m : Mg) : List Int := put16 (put16 (put16 (put16 (put16 (put16 [] m.id) (flagsM m)) 1) (firstM m)) (secondM m)) m.more.length
def queB (l : List Int) (q : Que) : List Int := put16 (put16 (l ++ wire q.name) q.type) 1
def wntB (l : List Int) (x : Wnt) : List Int := classB l x.rr x.cls (if x.bare = true then [] else dataB x.rr)
/-- Wants behind some bytes, the first k. -/
def wntsB (b : List Int) (l : List Wnt) (k : Nat) : List Int := (l.take k).foldl wntB b
def inCl (r : Rec) : Wnt := ⟨r, 1, false⟩
def bytesM (m : Mg) : List Int := ((((queB (headM m) (que1 m) |> fun b => wntsB b m.pres m.pres.length) |> fun b => wntsB b m.ups m.ups.length) |> fun b => wntsB b (m.ans.map inCl) m.ans.length) |> fun b => wntsB b (m.aus.map inCl) m.aus.length) |> fun b => wntsB b (m.more.map inCl) m.more.length
def okM (m : Mg) : Bool := mayM m && decide ((bytesM m).length ≤ 512)

theorem wntsB_zero (b : List Int) (l : List Wnt) : wntsB b l 0 = b := rfl
theorem wntsB_succ (b : List Int) (l : List Wnt) (k : Nat) (hk : k < l.length) : wntsB b l (k + 1) = wntB (wntsB b l k) (l.getD k wntZ) := by
 unfold wntsB
 rw [List.take_succ_eq_append_getElem hk, List.foldl_append, List.getD_eq_getElem?_getD, List.getElem?_eq_getElem hk]
 rfl
theorem classB_length (l : List Int) {r : Rec} (c : Int) {D : List Int} (h : nameOk r.name = true) (hd : D.length ≤ 105) : (classB l r c D).length ≤ l.length + 212 := by
 have h1 := wire_length r.name h
 have h3 := put16_length (l ++ wire r.name) r.type
 have h4 := put16_length (put16 (l ++ wire r.name) r.type) c
 have h5 := put32_length (put16 (put16 (l ++ wire r.name) r.type) c) r.ttl
 have h6 := put16_length (put32 (put16 (put16 (l ++ wire r.name) r.type) c) r.ttl) D.length
 unfold classB
 rw [List.length_append] at h3 ⊢
 omega
/-- What is known of a want that may be. -/
theorem wntOk_name {x : Wnt} (h : wntOk x = true) : nameOk x.rr.name = true := by
 unfold wntOk wantOk at h
 split at h
 ·unfold bareOk at h
  simp only [Bool.and_eq_true] at h
  exact h.2.1
 ·split at h
  ·exact (rrOk_parts h).1
  ·split at h
   ·simp only [Bool.and_eq_true] at h
    exact (rrOk_parts h.1).1
   ·simp at h
theorem wntOk_rr {x : Wnt} (h : wntOk x = true) (hb : x.bare = false) : rrOk x.rr = true := by
 unfold wntOk wantOk at h
 rw [hb, if_neg (by simp)] at h
 split at h
 ·exact h
 ·split at h
  ·simp only [Bool.and_eq_true] at h
   exact h.1
  ·simp at h
theorem wntOk_in {r : Rec} (h : rrOk r = true) : wntOk (inCl r) = true := by
 unfold wntOk wantOk inCl
 simp [h]
theorem wntB_length (l : List Int) {x : Wnt} (h : wntOk x = true) : (wntB l x).length ≤ l.length + 212 := by
 unfold wntB
 refine classB_length l x.cls (wntOk_name h) ?_
 cases hb : x.bare with
 | true => simp
 | false => simpa using dataB_length (wntOk_rr h hb)
theorem wntsB_length (b : List Int) {l : List Wnt} (h : ∀ j, j < l.length → wntOk (l.getD j wntZ) = true) : ∀ k, k ≤ l.length → (wntsB b l k).length ≤ b.length + 212 * k
 | 0, _ => by simp [wntsB]
 | k + 1, hk => by
  rw [wntsB_succ b l k (by omega)]
  have h1 := wntB_length (wntsB b l k) (h k (by omega))
  have h2 := wntsB_length b h k (by omega)
  omega
theorem headM_length (m : Mg) : (headM m).length ≤ 12 := by
 unfold headM
 have h1 := put16_length [] m.id
 have h2 := put16_length (put16 [] m.id) (flagsM m)
 have h3 := put16_length (put16 (put16 [] m.id) (flagsM m)) 1
 have h4 := put16_length (put16 (put16 (put16 [] m.id) (flagsM m)) 1) (firstM m)
 have h5 := put16_length (put16 (put16 (put16 (put16 [] m.id) (flagsM m)) 1) (firstM m)) (secondM m)
 have h6 := put16_length (put16 (put16 (put16 (put16 (put16 [] m.id) (flagsM m)) 1) (firstM m)) (secondM m)) m.more.length
 simp only [List.length_nil] at h1
 omega
theorem queB_length (l : List Int) {q : Que} (h : nameOk q.name = true) : (queB l q).length ≤ l.length + 101 := by
 have h1 := wire_length q.name h
 have h3 := put16_length (l ++ wire q.name) q.type
 have h4 := put16_length (put16 (l ++ wire q.name) q.type) 1
 unfold queB
 rw [List.length_append] at h3
 omega
theorem map_getD (l : List Rec) {k : Nat} (hk : k < l.length) : (l.map inCl).getD k wntZ = inCl (l.getD k recZ) := by
 simp [List.getD, hk]
/-- What is known of a message that may be. -/
theorem mayM_parts {m : Mg} (h : mayM m = true) : (0 ≤ m.id ∧ m.id ≤ 65535) ∧ (0 ≤ m.code ∧ m.code ≤ 10) ∧ m.qs.length = 1 ∧ nameOk (que1 m).name = true ∧ asked (que1 m).type = true ∧ (m.op = 0 ∨ m.op = 5) ∧
  (m.ans.length ≤ 12 ∧ m.aus.length ≤ 12 ∧ m.more.length ≤ 12 ∧ m.pres.length ≤ 12 ∧ m.ups.length ≤ 12) ∧ (∀ j, j < m.ans.length → rrOk (m.ans.getD j recZ) = true) ∧ (∀ j, j < m.aus.length → rrOk (m.aus.getD j recZ) = true) ∧ (∀ j, j < m.more.length → rrOk (m.more.getD j recZ) = true) ∧
  (∀ j, j < m.pres.length → wntOk (m.pres.getD j wntZ) = true) ∧ (∀ j, j < m.ups.length → wntOk (m.ups.getD j wntZ) = true) := by
 unfold mayM queOk listsOk rrsOk wntsOk at h
 simp only [Bool.and_eq_true, decide_eq_true_eq] at h
 obtain ⟨h1, h2, ⟨h3, h4, h5⟩, h6, ⟨a1, a2⟩, ⟨b1, b2⟩, ⟨c1, c2⟩, ⟨d1, d2⟩, e1, e2⟩ := h
 refine ⟨h1, h2, h3, h4, h5, ?_, ⟨a1, b1, c1, d1, e1⟩, fun j hj => all_at _ a2 hj, fun j hj => all_at _ b2 hj, fun j hj => all_at _ c2 hj, fun j hj => all_at _ d2 hj, fun j hj => all_at _ e2 hj⟩
 unfold opOk at h6
 split at h6
 ·exact .inl (by assumption)
 ·split at h6
  ·exact .inr (by assumption)
  ·simp at h6
/-- The bytes, part by part: none is longer than this. -/
theorem bytesM_parts {m : Mg} (h : mayM m = true) : ∃ b0 b1 b2 b3 b4, b0 = queB (headM m) (que1 m) ∧ b1 = wntsB b0 m.pres m.pres.length ∧ b2 = wntsB b1 m.ups m.ups.length ∧ b3 = wntsB b2 (m.ans.map inCl) m.ans.length ∧ b4 = wntsB b3 (m.aus.map inCl) m.aus.length ∧ bytesM m = wntsB b4 (m.more.map inCl) m.more.length ∧
  b0.length ≤ 113 ∧ b1.length ≤ 2657 ∧ b2.length ≤ 5201 ∧ b3.length ≤ 7745 ∧ b4.length ≤ 10289 ∧ (bytesM m).length ≤ 12833 := by
 obtain ⟨_, _, _, hn, _, _, ⟨a1, b1, c1, d1, e1⟩, ha, hb, hc, hd, he⟩ := mayM_parts h
 have inl : ∀ {l : List Rec}, (∀ j, j < l.length → rrOk (l.getD j recZ) = true) → ∀ j, j < (l.map inCl).length → wntOk ((l.map inCl).getD j wntZ) = true := fun hl j hj => by
  rw [List.length_map] at hj
  rw [map_getD _ hj]
  exact wntOk_in (hl j hj)
 refine ⟨_, _, _, _, _, rfl, rfl, rfl, rfl, rfl, rfl, ?_⟩
 have q0 := queB_length (headM m) hn
 have q00 := headM_length m
 have q1 := wntsB_length (queB (headM m) (que1 m)) hd m.pres.length (Nat.le_refl _)
 have q2 := wntsB_length (wntsB (queB (headM m) (que1 m)) m.pres m.pres.length) he m.ups.length (Nat.le_refl _)
 have q3 := wntsB_length (wntsB (wntsB (queB (headM m) (que1 m)) m.pres m.pres.length) m.ups m.ups.length) (inl ha) m.ans.length (by simp)
 have q4 := wntsB_length (wntsB (wntsB (wntsB (queB (headM m) (que1 m)) m.pres m.pres.length) m.ups m.ups.length) (m.ans.map inCl) m.ans.length) (inl hb) m.aus.length (by simp)
 have q5 := wntsB_length (wntsB (wntsB (wntsB (wntsB (queB (headM m) (que1 m)) m.pres m.pres.length) m.ups m.ups.length) (m.ans.map inCl) m.ans.length) (m.aus.map inCl) m.aus.length) (inl hc) m.more.length (by simp)
 have e5 : bytesM m = wntsB (wntsB (wntsB (wntsB (wntsB (queB (headM m) (que1 m)) m.pres m.pres.length) m.ups m.ups.length) (m.ans.map inCl) m.ans.length) (m.aus.map inCl) m.aus.length) (m.more.map inCl) m.more.length := rfl
 rw [e5]
 refine ⟨by omega, by omega, by omega, by omega, by omega, by omega⟩
end Go.Proofs.YtnplmeifhebhhaaGreat

namespace Go.Proofs.YtnplmeifhebhhaaGreat
open Go.RowKit
set_option linter.unusedVariables false

set_option maxHeartbeats 1000000 in
set_option maxRecDepth 100000 in
theorem copyQuestion_has {v : Value} {q : Que} {w : World} (h : HasL w v q.name) (hok : nameOk q.name = true) :
  Calls Tryz.prog 52 #[.agg #[v, .int .i64 q.type]] w fun e w' => ∃ v', e = .returned (.agg #[v', .int .i64 q.type]) ∧ OwnN w.heap.size w'.heap.size 37 5 w' v' q.name ∧ Below w.heap.size w w' := by
 obtain ⟨na, nc, rfl, _⟩ := h.form
 obtain ⟨hsz, k0, r0⟩ := box2 w (.cells #[.slice na q.name.length nc, .int .i64 q.type] 71) #[.slice none 0 0, .int .i64 0] 71
 have b0 := below2 w (.cells #[.slice na q.name.length nc, .int .i64 q.type] 71) (.cells #[.slice none 0 0, .int .i64 0] 71)
 have HC := hide (copyName_has (h.below b0) (nameOk_parts hok).1 (fun k hk => (labelOk_length ((nameOk_parts hok).2 k hk)).2))
 have K0 := hide k0
 have R0 := hide r0
 have zr := block_lt r0
 obtain ⟨d0, d1⟩ := cells2 k0
 clear h k0 r0 hsz hok
 go_enter Tryz.func52, Tryz.ntmps52
 go_wp2_with fail
 clear d0 d1
 generalize (w.alloc (.cells #[.slice na q.name.length nc, .int .i64 q.type] 71)).alloc (.cells #[.slice none 0 0, .int .i64 0] 71) = W at *
 refine (unhide HC).mono ?_
 rintro e w1 ⟨v1, rfl, o1, b1⟩
 obtain ⟨n1, m1, rfl, _⟩ := o1.hasL.form
 replace b0 := below_next b0 b1
 have K1 := block_kept b1 (unhide K0)
 have R1 := block_kept b1 (unhide R0)
 have O1 := hide o1.here
 have z1 := b1.size
 obtain ⟨d0, d1⟩ := cells2 K1
 obtain ⟨f0, f1⟩ := frozen2 K1
 obtain ⟨p0, p1⟩ := cells2 R1
 obtain ⟨q0, q1⟩ := frozen2 R1
 clear K0 R0 b1 o1 HC
 go_wp2_with fail
 clear d0 d1 f0 f1 p0 p1 q0 q1
 have u2 := (outside_set w1 w.heap.size 0 (.slice n1 q.name.length m1)).wide (B' := w.heap.size) (E' := w.heap.size + 2) (by omega) (by omega)
 have R2 := block_other R1 (b' := w.heap.size) (by omega) 0 (.slice n1 q.name.length m1)
 generalize w1.setCell ⟨w.heap.size, 0, none⟩ (.slice n1 q.name.length m1) = w4 at *
 have R5 : ((w4.setCell ⟨w.heap.size + 1, 0, none⟩ (.slice n1 q.name.length m1)).setCell ⟨w.heap.size + 1, 1, none⟩ (.int .i64 q.type)).heap[w.heap.size + 1]? = some (.cells #[.slice n1 q.name.length m1, .int .i64 q.type] 71) := block_setAt (block_setAt R2 0 _) 1 _
 have u5 := ((outside_set w4 (w.heap.size + 1) 0 (.slice n1 q.name.length m1)).trans (outside_set _ (w.heap.size + 1) 1 (.int .i64 q.type))).wide (B' := w.heap.size) (E' := w.heap.size + 2) (by omega) (by omega)
 refine bodyPost_ret (results_cell_row rfl _ _ (w.heap.size + 1) 71 #[.slice n1 q.name.length m1, .int .i64 q.type] (0, 0) _ rfl R5 Tryz.underlying71 rfl (by kernel_rfl)) rfl ?_
 have u6 := u2.trans u5
 have z6 := u6.size
 exact ⟨_, rfl, ((unhide O1).outside u6 (by omega)).wide (by omega) (by omega), u6.below b0 (by omega)⟩

set_option maxHeartbeats 1000000 in
set_option maxRecDepth 100000 in
theorem copyAllQ_has {v : Value} {l : List Que} {w : World} (h : HasQs w v l) (hl : l.length ≤ 12) (hok : ∀ j, j < l.length → nameOk (l.getD j queZ).name = true) :
  Calls Tryz.prog 51 #[v, .func (Fn.func 52) #[] #[]] w fun e w' => ∃ v', e = .returned v' ∧ RowX 2 (OwnQu 37 5) queZ w.heap.size w'.heap.size 71 w' v' l ∧ Below w.heap.size w w' := by
 obtain ⟨a, cap, rfl, hcl, hm⟩ := h.form
 unfold maxLen at *
 have HS := hide (fun k (hk : k < l.length) => (show l.take (k + 1) = l.take k ++ [l.getD k queZ] by
  rw [List.take_succ_eq_append_getElem hk, List.getD_eq_getElem?_getD, List.getElem?_eq_getElem hk]; rfl))
 have HT := hide (show l.take l.length = l from List.take_length)
 have HLN := hide (fun k (hk : k ≤ l.length) => (show (l.take k).length = k by rw [List.length_take]; omega))
 have HZ := hide (show l.take 0 = [] from rfl)
 have HOK := hide hok
 generalize hmk : (fun k => l.take k) = M at *
 have HM := hide (fun k => congrFun hmk k)
 generalize hn : l.length = m at *
 have HN := hide hn
 have H := hide h
 clear hn h hmk hok
 go_enter Tryz.func51, Tryz.ntmps51
 go_wp2
 go_loopw [5, 10] (fun o i wr => ∃ k : Nat, k ≤ m ∧ i = .int .i64 k ∧ RowX 2 (OwnQu 37 5) queZ w.heap.size wr.heap.size 71 wr o (M k) ∧ Below w.heap.size w wr) (fun _ i _ => m - (intOf i).toNat)
 case atStart => exact ⟨0, Nat.zero_le _, rfl, by rw [← unhide HM]; exact RowX.nil _, Below.refl _ _⟩
 case round =>
  obtain ⟨k, hk, rfl, ho, hb⟩ := hrel
  by_cases hlt : k < m
  ·have hki : (k : Int) < m := by omega
   obtain ⟨b, off, vs, rfl, hbl, hc, vn, rfl, hu⟩ := (keptQs (unhide H) hb).here (k := k) (by rw [unhide HN]; exact hlt)
   have hst := unhide HS k hlt
   rw [unhide HM, unhide HM] at hst
   have hln := unhide HLN k hk
   rw [unhide HM] at hln
   have hokk := unhide HOK k hlt
   generalize l.getD k queZ = q at *
   obtain ⟨na, nc, rfl, _⟩ := hu.form
   obtain ⟨va, vc, rfl, _⟩ := ho.form
   rw [hln]
   obtain ⟨c0, c1⟩ := range2 hc
   have bA := below_alloc (w := wr) (.cells #[.slice na q.name.length nc, .int .i64 q.type] 71)
   have HC := hide (copyQuestion_has (hu.below bA) hokk)
   have HO := hide (RowX.below (ownsQu 37 5) ho bA)
   have HST := hide hst
   have HLK := hide hln
   have zz := hb.size
   have zA := bA.size
   clear hst hu hc hokk ho hln
   go_wp2_with fail
   refine (unhide HC).mono ?_
   rintro e w1 ⟨v1, rfl, o1, b1⟩
   obtain ⟨n1, m1, rfl, _⟩ := o1.hasL.form
   clear c0 c1
   have b2 := below_alloc (w := w1) (.cells #[.slice n1 q.name.length m1, .int .i64 q.type] 71)
   have g2 := heap_alloc_new w1 (.cells #[.slice n1 q.name.length m1, .int .i64 q.type] 71)
   have O2 := hide (o1.below b2)
   have HO2 := hide (RowX.below (ownsQu 37 5) (RowX.below (ownsQu 37 5) (unhide HO) b1) b2)
   have bb2 := below_next (below_next (below_next hb bA) b1) b2
   have z1 := b1.size
   have z2 := b2.size
   have G2 := hide g2
   have hown := unhide HO2
   obtain ⟨cs0, f0, g0, hx0, _⟩ := hown
   rw [unhide HLK] at hx0
   clear o1 b1 b2 g2 HO HC
   go_wp2_with (at_builtin; refine append_oneX rfl _ _ 29 71 rfl Tryz.underlying29 _ 2 32 (by omega) (by omega) info_Question rfl w.heap.size (.slice va k vc) k rfl w1.heap.size [.slice n1 q.name.length m1, .int .i64 q.type] rfl ⟨cs0, hx0⟩ (unhide G2) rfl (by simp [Value.oneCell']) (by omega) bb2.size ?_)
   intro v5 w5 h5 g5 hw5
   have row5 := RowX.snoc (ownsQu 37 5) (x := q) (us := [.slice n1 q.name.length m1, .int .i64 q.type]) (unhide HO2) (C := (wr.alloc (.cells #[.slice na q.name.length nc, .int .i64 q.type] 71)).heap.size) (D := w1.heap.size) (by omega) (by omega) (by omega) ⟨_, rfl, unhide O2⟩ (by omega) (by rw [unhide HLK]; exact g5) (by rw [unhide HLK, World.size_alloc]; exact hw5) (by rw [unhide HLK]; exact h5)
   rw [← unhide HST] at row5
   have ROW5 := hide row5
   have bb5 := bb2.grown g5 bb2.size (fun j e => (World.ownsRow.lt hx0 j e).1)
   clear hx0 h5 g5 hw5 O2 HO2 bb2 row5 hb bA G2
   go_wp2_with fail
   exact ⟨⟨k + 1, by omega, by go_num, unhide ROW5, bb5⟩, by simp [intOf]; omega⟩
  ·obtain rfl : k = m := by omega
   go_wp2
   go_ret
   rw [← unhide HM, unhide HT] at ho
   exact ⟨_, rfl, ho, hb⟩
end Go.Proofs.YtnplmeifhebhhaaGreat

namespace Go.Proofs.YtnplmeifhebhhaaGreat
open Go.RowKit
set_option linter.unusedVariables false

/-- What ReplyTo answers. -/
def zeroM : Mg := ⟨0, false, 0, false, 0, [], [], [], [], [], []⟩
def replyM (m : Mg) (code : Int) : Mg := if okM m = true ∧ 0 ≤ code ∧ code ≤ 10 then ⟨m.id, true, m.op, false, code, m.qs, [], [], [], [], []⟩ else zeroM
theorem replyM_yes {m : Mg} {code : Int} (h : okM m = true ∧ 0 ≤ code ∧ code ≤ 10) : replyM m code = ⟨m.id, true, m.op, false, code, m.qs, [], [], [], [], []⟩ := by unfold replyM; rw [if_pos h]
theorem replyM_no {m : Mg} {code : Int} (h : ¬ (okM m = true ∧ 0 ≤ code ∧ code ≤ 10)) : replyM m code = zeroM := by unfold replyM; rw [if_neg h]
theorem ownM_nil (B E : Nat) (hBE : B ≤ E) (w : World) : OwnM B E w (.slice none 0 0) (.slice none 0 0) (.slice none 0 0) (.slice none 0 0) (.slice none 0 0) (.slice none 0 0) zeroM :=
 ⟨B, B, B, B, B, Nat.le_refl _, Nat.le_refl _, Nat.le_refl _, Nat.le_refl _, Nat.le_refl _, hBE, RowX.nil _, RowO.nil _ _ _ _ _ _ _, RowO.nil _ _ _ _ _ _ _, RowO.nil _ _ _ _ _ _ _, RowX.nil _, RowX.nil _⟩
theorem ownM_q {B E : Nat} {w : World} {v : Value} {m : Mg} (h : RowX 2 (OwnQu 37 5) queZ B E 71 w v m.qs) (hBE : B ≤ E) (m' : Mg) (hq : m'.qs = m.qs) (h1 : m'.ans = []) (h2 : m'.aus = []) (h3 : m'.more = []) (h4 : m'.pres = []) (h5 : m'.ups = []) : OwnM B E w v (.slice none 0 0) (.slice none 0 0) (.slice none 0 0) (.slice none 0 0) (.slice none 0 0) m' := by
 refine ⟨E, E, E, E, E, hBE, Nat.le_refl _, Nat.le_refl _, Nat.le_refl _, Nat.le_refl _, Nat.le_refl _, by rw [hq]; exact h, by rw [h1]; exact RowO.nil _ _ _ _ _ _ _, by rw [h2]; exact RowO.nil _ _ _ _ _ _ _, by rw [h3]; exact RowO.nil _ _ _ _ _ _ _, by rw [h4]; exact RowX.nil _, by rw [h5]; exact RowX.nil _⟩
end Go.Proofs.YtnplmeifhebhhaaGreat

namespace Go.Proofs.YtnplmeifhebhhaaGreat
open Go.RowKit
set_option linter.unusedVariables false

set_option maxHeartbeats 400000 in
set_option maxRecDepth 100000 in
theorem upTo_yes {n m : Int} (w : World) (h0 : 0 ≤ n) (h1 : n ≤ m) : Calls Tryz.prog 82 #[.int .i64 n, .int .i64 m] w fun e w' => e = .returned (.bool true) ∧ w = w' := by
 go_enter Tryz.func82, Tryz.ntmps82
 go_wp2
 go_ret
 exact ⟨rfl, rfl⟩

set_option maxHeartbeats 400000 in
set_option maxRecDepth 100000 in
theorem upTo_no {n m : Int} (w : World) (h : n < 0 ∨ m < n) : Calls Tryz.prog 82 #[.int .i64 n, .int .i64 m] w fun e w' => e = .returned (.bool false) ∧ w = w' := by
 by_cases h0 : n < 0
 ·go_enter Tryz.func82, Tryz.ntmps82
  go_wp2
  go_ret
  exact ⟨rfl, rfl⟩
 ·have h1 : m < n := by omega
  have h2 : decide (n ≤ m) = false := decide_eq_false (by omega)
  go_enter Tryz.func82, Tryz.ntmps82
  go_wp2
  go_ret
  exact ⟨rfl, rfl⟩
theorem upTo_any (n m : Int) (w : World) : Calls Tryz.prog 82 #[.int .i64 n, .int .i64 m] w fun e w' => e = .returned (.bool (decide (0 ≤ n ∧ n ≤ m))) ∧ w = w' := by
 by_cases h : 0 ≤ n ∧ n ≤ m
 ·rw [decide_eq_true h]; exact upTo_yes w h.1 h.2
 ·rw [decide_eq_false h]; exact upTo_no w (by omega)
end Go.Proofs.YtnplmeifhebhhaaGreat

namespace Go.Proofs.YtnplmeifhebhhaaGreat
open Go.RowKit
set_option linter.unusedVariables false

theorem sign_cases (c : Int) : (97 ≤ c ∧ c ≤ 122) ∨ (97 ≤ c ∧ 122 < c) ∨ (c < 97 ∧ 48 ≤ c ∧ c ≤ 57) ∨ (c < 97 ∧ 48 ≤ c ∧ 57 < c ∧ c ≠ 45) ∨ (c < 97 ∧ c < 48 ∧ c = 45) ∨ (c < 97 ∧ c < 48 ∧ c ≠ 45) := by omega

set_option maxHeartbeats 400000 in
set_option maxRecDepth 100000 in
theorem labelSign_any (c : Int) (w : World) :
  Calls Tryz.prog 132 #[.int .u8 c] w fun e w' => e = .returned (.bool (signOk c)) ∧ w = w' := by
 rcases sign_cases c with ⟨h1, h2⟩ | ⟨h1, h2⟩ | ⟨h1, h2, h3⟩ | ⟨h1, h2, h3, h4⟩ | ⟨h1, h2, rfl⟩ | ⟨h1, h2, h3⟩
 ·have hs : signOk c = true := decide_eq_true (by omega)
  rw [hs]
  go_enter Tryz.func132, Tryz.ntmps132
  go_wp2
  go_ret
  exact ⟨rfl, rfl⟩
 ·have hs : signOk c = false := decide_eq_false (by omega)
  rw [hs]
  have h5 : 48 ≤ c := by omega
  have h6 : ¬ c ≤ 57 := by omega
  have h7 : ¬ c ≤ 122 := by omega
  have h8 : (c == 45) = false := by simp; omega
  go_enter Tryz.func132, Tryz.ntmps132
  go_wp2
  go_ret
  exact ⟨rfl, rfl⟩
 ·have hs : signOk c = true := decide_eq_true (by omega)
  rw [hs]
  have h5 : ¬ 97 ≤ c := by omega
  go_enter Tryz.func132, Tryz.ntmps132
  go_wp2
  go_ret
  exact ⟨rfl, rfl⟩
 ·have hs : signOk c = false := decide_eq_false (by omega)
  rw [hs]
  have h5 : ¬ 97 ≤ c := by omega
  have h6 : ¬ c ≤ 57 := by omega
  have h8 : (c == 45) = false := by simp; omega
  go_enter Tryz.func132, Tryz.ntmps132
  go_wp2
  go_ret
  exact ⟨rfl, rfl⟩
 ·have hs : signOk 45 = true := rfl
  rw [hs]
  go_enter Tryz.func132, Tryz.ntmps132
  go_wp2
  go_ret
  exact ⟨rfl, rfl⟩
 ·have hs : signOk c = false := decide_eq_false (by omega)
  rw [hs]
  have h5 : ¬ 97 ≤ c := by omega
  have h6 : ¬ 48 ≤ c := by omega
  have h8 : (c == 45) = false := by simp; omega
  go_enter Tryz.func132, Tryz.ntmps132
  go_wp2
  go_ret
  exact ⟨rfl, rfl⟩

set_option maxHeartbeats 400000 in
set_option maxRecDepth 100000 in
theorem implLabelOk_has {v : Value} {l : List Int} {w : World} (h : Has w v l) :
  Calls Tryz.prog 124 #[v] w fun e w' => e = .returned (.bool (labelOk l)) ∧ w = w' := by
 have hbd := h.bound
 unfold maxLen at hbd
 obtain ⟨a, cap, rfl, hL⟩ := h.form
 by_cases h0 : l.length = 0
 ·rw [labelOk_short (by omega), h0]
  go_enter Tryz.func124, Tryz.ntmps124
  go_wp2
  go_ret
  exact ⟨rfl, rfl⟩
 ·by_cases h1 : 15 < l.length
  ·rw [labelOk_short (by omega)]
   generalize hn : l.length = n at *
   have h3 : ((n : Int) == 0) = false := by simp; omega
   go_enter Tryz.func124, Tryz.ntmps124
   go_wp2
   go_ret
   exact ⟨rfl, rfl⟩
  ·have h2 : l.length ≤ 15 := by omega
   have hyes := hide (fun (hs : ∀ j, j < l.length → signOk (l.getD j 0) = true) => labelOk_yes (l := l) (by omega) h2 hs)
   have hno := hide (fun (j : Nat) (hj : j < l.length) (hs : signOk (l.getD j 0) = false) => labelOk_sign hj hs)
   generalize hok : labelOk l = ok at *
   clear hok
   generalize hn : l.length = n at *
   have HN := hide hn
   clear hn
   have h3 : ((n : Int) == 0) = false := by simp; omega
   go_enter Tryz.func124, Tryz.ntmps124
   go_wp2
   go_loop [15] (fun i => ∃ k : Nat, k ≤ n ∧ i = .int .i64 k ∧ Hid (∀ j, j < k → signOk (l.getD j 0) = true)) (fun i => n - (intOf i).toNat)
   case atStart => exact ⟨0, Nat.zero_le _, rfl, hide (fun j hj => absurd hj (Nat.not_lt_zero _))⟩
   case round =>
    obtain ⟨k, hk, rfl, hall⟩ := hrel
    by_cases hlt : k < n
    ·obtain ⟨b, off, rfl, hbl, hc⟩ := hL.here (k := k) (by rw [unhide HN]; exact hlt)
     have hone := hide (fun (hs : signOk (l.getD k 0) = true) => (show ∀ j, j < k + 1 → signOk (l.getD j 0) = true from fun j hj => by
      by_cases e : j = k
      ·subst e; exact hs
      ·exact unhide hall j (by omega)))
     have hnok := hide (fun (hs : signOk (l.getD k 0) = false) => unhide hno k hlt hs)
     generalize hx : l.getD k 0 = x at *
     go_wp2_with fail
     refine (labelSign_any x _).mono ?_
     rintro e w1 ⟨rfl, rfl⟩
     cases hs : signOk x with
     | true =>
      go_wp2
      exact ⟨⟨k + 1, by omega, by go_num, hide (unhide hone hs)⟩, by simp [intOf]; omega⟩
     | false =>
      have hq := unhide hnok hs
      subst hq
      go_wp2
      go_ret
      exact ⟨rfl, rfl⟩
    ·obtain rfl : k = n := by omega
     have hq := unhide hyes (unhide hall)
     subst hq
     go_wp2
     go_ret
     exact ⟨rfl, rfl⟩
end Go.Proofs.YtnplmeifhebhhaaGreat
