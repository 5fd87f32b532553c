/-
  Contracts of the specification's DottedRead.
-/
import Derived.Test.YtgngepppkhajbabDoorConv
import Derived.Test.YtgngepppkhajbabDoorSDotted
import Derived.Test.YtgngepppkhajbabDoorDotRead
import Derived.Deep.RegionWith
namespace Go.Proofs.YtgngepppkhajbabDoor
open Go.RowKit
set_option linter.unusedVariables false

def bndS (s : Int) : Int := if s = 0 then 0 else if s = 1 then 255 else if s = 2 then 65535 else 16777215

/-- What the specification makes of the loop's outcome. -/
def sfin (l : List Int) : Option (Int × Int × Int) → Int × Bool
  | none => (0, false)
  | some (n, p, s) => if s = 3 ∧ idot (n * 256 + p % 256) 4 = l then (n * 256 + p % 256, true) else (0, false)

theorem sread_sfin (l : List Int) : sread l = sfin l (if l.length < 16 then srun l 0 0 0 else some (0, 0, 0)) := by
  unfold sread sfin
  split <;> rename_i h <;> rw [h]

theorem sdrop_step (t : List Int) (k : Nat) (h : k < t.length) : t.drop k = t.getD k 0 :: t.drop (k + 1) := by
  rw [List.drop_eq_getElem_cons h]
  simp [h]

/-- The loop's state, against what is still to be read. -/
def SInv (l : List Int) (R : Option (Int × Int × Int)) (k : Nat) (nv p s : Int) : Prop :=
  ∃ nE, srun (l.drop k) nE p s = R ∧ (s ≤ 3 → nv = nE ∧ 0 ≤ nE ∧ nE ≤ bndS s)

theorem SInv.dot {l : List Int} {R : Option (Int × Int × Int)} {k : Nat} {nv p s : Int} (h : SInv l R k nv p s) (hk : k < l.length) (hc : l.getD k 0 = 46) (hs : 0 ≤ s) (nv' : Int) (hnv : s ≤ 2 → nv' = nv * 256 + p % 256) : SInv l R (k + 1) nv' 0 (s + 1) := by
  obtain ⟨nE, h1, h2⟩ := h
  rw [sdrop_step l k hk, hc, srun_dot] at h1
  refine ⟨_, h1, fun h3 => ?_⟩
  obtain ⟨rfl, h4, h5⟩ := h2 (by omega)
  refine ⟨hnv (by omega), by omega, ?_⟩
  unfold bndS at h5 ⊢
  by_cases a : s = 0
  · subst a; simp at h5 ⊢; omega
  · by_cases b : s = 1
    · subst b; simp at h5 ⊢; omega
    · have c : s = 2 := by omega
      subst c; simp at h5 ⊢; omega

theorem SInv.bad {l : List Int} {R : Option (Int × Int × Int)} {k : Nat} {nv p s : Int} (h : SInv l R k nv p s) (hk : k < l.length) (hc : l.getD k 0 ≠ 46) (hx : l.getD k 0 < 48 ∨ 57 < l.getD k 0 ∨ 255 < p) : R = none := by
  obtain ⟨nE, h1, h2⟩ := h
  rw [sdrop_step l k hk, srun, if_neg hc, if_pos hx] at h1
  exact h1.symm

theorem SInv.digit {l : List Int} {R : Option (Int × Int × Int)} {k : Nat} {nv p s : Int} (h : SInv l R k nv p s) (hk : k < l.length) (hc : l.getD k 0 ≠ 46) (hx : ¬ (l.getD k 0 < 48 ∨ 57 < l.getD k 0 ∨ 255 < p)) : SInv l R (k + 1) nv (p * 10 + (l.getD k 0 - 48)) s := by
  obtain ⟨nE, h1, h2⟩ := h
  rw [sdrop_step l k hk, srun, if_neg hc, if_neg hx] at h1
  exact ⟨nE, h1, h2⟩

theorem and_32 (x : Int) (h0 : 0 ≤ x) (h1 : x ≤ 4294967295) : bits .and .i64 x 4294967295 = x := by
  obtain ⟨a, rfl⟩ := Int.eq_ofNat_of_zero_le h0
  show IntKind.i64.wrap ((BitVec.ofInt 64 (a : Int) &&& BitVec.ofInt 64 ((4294967295 : Nat) : Int)).toNat : Int) = _
  rw [BitVec.toNat_and, ofInt_u64 a (by omega), ofInt_u64 4294967295 (by omega), nat_mask32]
  rw [wrap_small _ (by omega)]
  omega

theorem digs_bytes (x : Int) : ∀ c ∈ digs x, 0 ≤ c ∧ c ≤ 255 := by
  intro c hc
  obtain ⟨b, _, rfl⟩ := List.mem_map.1 hc
  have := b.toNat_lt
  omega

theorem idot_bytes (n : Int) : ∀ c ∈ idot n 4, 0 ≤ c ∧ c ≤ 255 := by
  intro c hc
  rw [idot_four] at hc
  simp only [List.mem_append, List.mem_cons] at hc
  rcases hc with h | rfl | h | rfl | h | rfl | h
  all_goals first | exact digs_bytes _ _ h | omega

theorem str_eq (a b : List Int) (ha : ∀ c ∈ a, 0 ≤ c ∧ c ≤ 255) (hb : ∀ c ∈ b, 0 ≤ c ∧ c ≤ 255) : ((strOfNums a).toList == (strOfNums b).toList) = decide (a = b) := by
  rw [ByteArray.toList_eq, ByteArray.toList_eq, strOfNums_data, strOfNums_data]
  by_cases e : a = b
  · subst e; simp
  · rw [decide_eq_false e]
    apply beq_eq_false_iff_ne.2
    intro h
    apply e
    clear e
    induction a generalizing b with
    | nil => cases b with
      | nil => rfl
      | cons d b => simp at h
    | cons c a ih => cases b with
      | nil => simp at h
      | cons d b =>
        simp only [List.map_cons, List.cons.injEq] at h
        have h1 := ha c (by simp)
        have h2 := hb d (by simp)
        have h3 := congrArg UInt8.toNat h.1
        rw [UInt8.toNat_ofNat', UInt8.toNat_ofNat'] at h3
        have h4 : c = d := by omega
        rw [h4, ih b (fun x hx => ha x (by simp [hx])) (fun x hx => hb x (by simp [hx])) h.2]

set_option maxHeartbeats 6000000 in
theorem specDottedRead_any {B : Nat} {v : Value} {l : List Int} {w : World} (h : Own B 5 w v l) (hl : l.length ≤ 1048576) (hb : ∀ k, 0 ≤ l.getD k 0 ∧ l.getD k 0 ≤ 255) :
    Calls Tryd.prog 10 #[v] w fun e w' => e = .returned (.tuple #[.int .i64 (sread l).1, .bool (sread l).2]) ∧ Below w.heap.size w w' := by
  rw [sread_sfin]
  obtain ⟨a, cap, rfl, hL⟩ := h.lies
  generalize hR : (if l.length < 16 then srun l 0 0 0 else some (0, 0, 0)) = R
  have HR := hide hR
  clear hR
  have HO := hide h
  clear h
  have HB := hide hb
  clear hb
  have HLs := hide hL
  clear hL
  generalize hn : l.length = len at *
  have HN := hide hn
  clear hn
  go_enter Tryd.func10, Tryd.ntmps10
  go_wp2
  go_loop [4, 5, 6, 7] (fun nv pv sv i => ∃ (k : Nat) (n p s : Int), k ≤ len ∧ i = .int .i64 k ∧ nv = .int .i64 n ∧ pv = .int .i64 p ∧ sv = .int .i64 s ∧ 0 ≤ p ∧ p ≤ 2559 ∧ 0 ≤ s ∧ s ≤ k ∧ (len < 16 → Hid (SInv l R k n p s)) ∧ (16 ≤ len → s = 0)) (fun _ _ _ i => len - (intOf i).toNat)
  case atStart =>
    refine ⟨0, 0, 0, 0, Nat.zero_le _, rfl, rfl, rfl, rfl, by omega, by omega, by omega, by omega, fun h16 => ?_, fun _ => rfl⟩
    have := unhide HR
    rw [if_pos h16] at this
    exact hide ⟨0, this, fun _ => ⟨rfl, by omega, by simp [bndS]⟩⟩
  case round =>
    obtain ⟨k, n, p, s, hk, rfl, rfl, rfl, rfl, hp0, hp1, hs0, hs1, hinv, h16⟩ := hrel
    by_cases hlt : k < len ∧ len < 16
    · obtain ⟨hlt, hl16⟩ := hlt
      have hI := hinv hl16
      clear hinv h16
      have hkl : k < l.length := by rw [unhide HN]; exact hlt
      obtain ⟨b, off, rfl, _, hc⟩ := (unhide HLs).here hkl
      have hx := (unhide HB) k
      have hdot := hide (fun hc nv' hnv => (unhide hI).dot hkl hc hs0 nv' hnv)
      have hbad := hide (fun hc hx => (unhide hI).bad hkl hc hx)
      have hdig := hide (fun hc hx => (unhide hI).digit hkl hc hx)
      generalize hxe : l.getD k 0 = x at *
      have HX := hide hxe
      clear hxe
      by_cases h46 : x = 46
      · subst h46
        by_cases hs2 : s ≤ 2
        · have hnb : 0 ≤ n ∧ n ≤ 65535 := by
            obtain ⟨nE, _, h2⟩ := unhide hI
            obtain ⟨rfl, h3, h4⟩ := h2 (by omega)
            refine ⟨h3, ?_⟩
            unfold bndS at h4
            split at h4
            · omega
            · split at h4
              · omega
              · split at h4
                · omega
                · omega
          go_wp2
          refine ⟨⟨k + 1, _, 0, s + 1, by omega, by go_num, rfl, rfl, rfl, by omega, by omega, by omega, by omega, fun _ => hide (unhide hdot rfl _ (fun _ => rfl)), by omega⟩, by simp [intOf]; omega⟩
        · go_wp2
          refine ⟨⟨k + 1, _, 0, s + 1, by omega, by go_num, rfl, rfl, rfl, by omega, by omega, by omega, by omega, fun _ => hide (unhide hdot rfl _ (fun h => absurd h hs2)), by omega⟩, by simp [intOf]; omega⟩
      · have h46' : (x == 46) = false := by simp [h46]
        by_cases hA : x < 48
        · have hrr := hide (unhide hbad h46 (.inl hA))
          go_wp2
          go_ret2
          rw [unhide hrr]
          exact ⟨rfl, Below.refl _ _⟩
        · by_cases hA2 : 57 < x
          · have hrr := hide (unhide hbad h46 (.inr (.inl hA2)))
            go_wp2
            go_ret2
            rw [unhide hrr]
            exact ⟨rfl, Below.refl _ _⟩
          · by_cases hA3 : 255 < p
            · have hrr := hide (unhide hbad h46 (.inr (.inr hA3)))
              go_wp2
              go_ret2
              rw [unhide hrr]
              exact ⟨rfl, Below.refl _ _⟩
            · have hd := hide (unhide hdig h46 (by omega))
              go_wp2
              exact ⟨⟨k + 1, _, _, s, by omega, by go_num, rfl, rfl, rfl, by omega, by omega, by omega, by omega, fun _ => hd, by omega⟩, by simp [intOf]; omega⟩
    · by_cases h3 : s = 3
      · have hl16 : len < 16 := by
          by_cases hh : len < 16
          · exact hh
          · have := h16 (by omega); omega
        obtain rfl : k = len := by omega
        obtain ⟨nE, hE1, hE2⟩ := unhide (hinv hl16)
        obtain ⟨rfl, hn0, hn1⟩ := hE2 (by omega)
        rw [List.drop_of_length_le (by rw [unhide HN]; omega)] at hE1
        have hRR := hide (show R = some (n, p, s) from hE1.symm)
        have hn2 : n ≤ 16777215 := by rw [h3] at hn1; simpa [bndS] using hn1
        clear hinv h16 hE1 hE2 hlt hn1
        subst h3
        have hN0 : 0 ≤ n * 256 + p % 256 := by omega
        have hN1 : n * 256 + p % 256 ≤ 4294967295 := by omega
        have hand := hide (and_32 (n * 256 + p % 256) hN0 hN1)
        have hseq := str_eq (sdot (n * 256 + p % 256) 4) l (by rw [sdot_idot]; exact idot_bytes _) (mem_bd (unhide HB))
        have hsf := hide (show sfin l R = if sdot (n * 256 + p % 256) 4 = l then (n * 256 + p % 256, true) else (0, false) by
          rw [unhide hRR, sdot_idot]; simp [sfin])
        have hO' : Own B 5 w.drew (.slice a k cap) l := unhide HO
        have hcv := conv_own hO'
        by_cases hEq : sdot (n * 256 + p % 256) 4 = l
        · rw [decide_eq_true hEq] at hseq
          have hfin := hide (show sfin l R = (n * 256 + p % 256, true) by rw [unhide hsf, if_pos hEq])
          clear hEq
          go_wp2
          go_region_with (go_at_call 13; rw [unhide hand]; refine (l1dotted_any (n * 256 + p % 256) _ hN0 hN1).mono ?_; rintro e w1 ⟨v1, rfl, o1, b1⟩; have hcv1 := conv_own o1; have hcv2 := conv_own (hO'.below b1))
          all_goals
            have bb : Below w.heap.size w w1 := below_next (⟨rfl, rfl, rfl, Nat.le_refl _, fun _ _ => rfl⟩ : Below w.heap.size w w.drew) b1
            go_wp2
            go_ret2
            rw [unhide hfin]
            exact ⟨rfl, bb⟩
        · rw [decide_eq_false hEq] at hseq
          have hfin := hide (show sfin l R = (0, false) by rw [unhide hsf, if_neg hEq])
          clear hEq
          go_wp2
          go_region_with (go_at_call 13; rw [unhide hand]; refine (l1dotted_any (n * 256 + p % 256) _ hN0 hN1).mono ?_; rintro e w1 ⟨v1, rfl, o1, b1⟩; have hcv1 := conv_own o1; have hcv2 := conv_own (hO'.below b1))
          all_goals
            have bb : Below w.heap.size w w1 := below_next (⟨rfl, rfl, rfl, Nat.le_refl _, fun _ _ => rfl⟩ : Below w.heap.size w w.drew) b1
            go_wp2
            go_ret2
            rw [unhide hfin]
            exact ⟨rfl, bb⟩
      · have h3' : (s == 3) = false := by simp [h3]
        have hrr := hide (show sfin l R = (0, false) by
          by_cases hl16 : len < 16
          · obtain ⟨nE, hE1, hE2⟩ := unhide (hinv hl16)
            rw [List.drop_of_length_le (by rw [unhide HN]; omega)] at hE1
            rw [← hE1, srun]
            show (if s = 3 ∧ _ then _ else _) = _
            rw [if_neg (by omega)]
          · have := unhide HR
            rw [if_neg hl16] at this
            rw [← this]
            simp [sfin])
        clear hinv h16
        by_cases hk16 : k < len
        · have hl16 : ¬ (len : Int) < 16 := by omega
          go_wp2
          go_quiet (fail)
          go_wp2
          go_ret2
          rw [unhide hrr]
          exact ⟨rfl, below_draws _⟩
        · go_wp2
          go_quiet (fail)
          go_wp2
          go_ret2
          rw [unhide hrr]
          exact ⟨rfl, below_draws _⟩
end Go.Proofs.YtgngepppkhajbabDoor
