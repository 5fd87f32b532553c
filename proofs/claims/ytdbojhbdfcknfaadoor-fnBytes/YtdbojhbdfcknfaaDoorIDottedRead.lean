/-
  Contracts of the program's DottedRead; strings.Split by the library's contract.
-/
import Derived.Test.YtdbojhbdfcknfaaDoorConv
import Derived.Test.YtdbojhbdfcknfaaDoorIReadPart
import Derived.Test.YtdbojhbdfcknfaaDoorShelf
namespace Go.Proofs.YtdbojhbdfcknfaaDoor
open Go.RowKit
set_option linter.unusedVariables false

/-- The library's variable that strings.Split reads holds some int. -/
def MaxL (w : World) : Prop := ∃ m, w.cell? ⟨0, 0, none⟩ = some (.int .i64 m)

theorem MaxL.below {w w' : World} (h : MaxL w) (hb : Below w.heap.size w w') : MaxL w' := by
  obtain ⟨m, hm⟩ := h
  exact ⟨m, (hb.cell (p := ⟨0, 0, none⟩) (cell_lt hm)).trans hm⟩

def bnd : Nat → Int
  | 0 => 0
  | 1 => 255
  | 2 => 65535
  | 3 => 16777215
  | _ => 4294967295

theorem cut_bd (l : List Int) (hb : ∀ x ∈ l, 0 ≤ x ∧ x ≤ 255) : ∀ t ∈ cutDots l, t.length ≤ l.length ∧ ∀ x ∈ t, 0 ≤ x ∧ x ≤ 255 := by
  induction l with
  | nil => intro t ht; simp [cutDots] at ht; subst ht; simp
  | cons c l ih =>
    have ih := ih (fun x hx => hb x (by simp [hx]))
    intro t ht
    unfold cutDots at ht
    split at ht
    · simp at ht
      rcases ht with rfl | ht
      · simp
      · have := ih t ht; exact ⟨by simp; omega, this.2⟩
    · simp at ht
      rcases ht with rfl | ht
      · match hc : cutDots l, cutDots_ne l with
        | a :: r, _ =>
          rw [hc] at ih
          have := ih a (by simp)
          simp
          exact ⟨this.1, hb c (by simp), fun x hx => this.2 x hx⟩
      · have := ih t (List.mem_of_mem_tail ht); exact ⟨by simp; omega, this.2⟩

theorem irun_none (t : List Int) (r : List (List Int)) (n : Int) (h : readP t = none) : irun (t :: r) n = (0, false) := by rw [irun, h]
theorem irun_some (t : List Int) (r : List (List Int)) (n p : Int) (h : readP t = some p) : irun (t :: r) n = irun r (n * 256 + p) := by rw [irun, h]

set_option maxHeartbeats 1000000 in
set_option maxRecDepth 100000 in
theorem implDottedRead_any {B : Nat} {v : Value} {l : List Int} {w : World} (h : Own B 5 w v l) (hl : l.length ≤ 1048576) (hb : ∀ k, 0 ≤ l.getD k 0 ∧ l.getD k 0 ≤ 255) (hm : MaxL w) :
    Calls Tryd.prog 14 #[v] w fun e w' => e = .returned (.tuple #[.int .i64 (iread l).1, .bool (iread l).2]) ∧ Below w.heap.size w w' := by
  have hmem := mem_bd hb
  clear hb
  have hcb := hide (cut_bd l hmem)
  obtain ⟨sc1, sc2⟩ := split_cut l.length l (Nat.le_refl _) hmem
  have hcv := conv_own h
  obtain ⟨m, hm⟩ := hm
  have hsz := strOfNums_size l
  have csp := hide (Tryd.strings_Split (strOfNums l) dotSep m w (by omega) hm (by decide))
  rw [sc1, sc2] at csp
  clear sc1 sc2 hm hmem
  generalize hR : iread l = R
  have HR := hide hR
  clear hR
  have hps := hide (show (if (cutDots l).length = 4 then irun (cutDots l) 0 else (0, false)) = R from unhide HR)
  generalize cutDots l = ps at *
  generalize strOfNums l = s at *
  have HL := hide hl
  clear hl hsz
  by_cases h4 : ps.length = 4
  · rw [h4] at csp
    have hps' := hide (show irun ps 0 = R by have := unhide hps; rw [if_pos h4] at this; exact this)
    clear hps
    have H4 := hide h4
    clear h4
    go_enter Tryd.func14, Tryd.ntmps14
    go_wp2_with fail
    refine (unhide csp).mono ?_
    rintro e w1 ⟨rfl, rfl⟩
    have hcell : ∀ j, j < 4 → (w.alloc (.cells ((ps.map strOfNums).map Value.string).toArray 9)).cell? ⟨w.heap.size, j, none⟩ = some (.string (strOfNums (ps.getD j []))) := by
      intro j hj
      have hj' : j < ps.length := by rw [unhide H4]; exact hj
      simp [hj']
    have b1 : Below w.heap.size w (w.alloc (.cells ((ps.map strOfNums).map Value.string).toArray 9)) := (Below.refl _ _).alloc (Nat.le_refl _) _
    have hs1 : (w.alloc (.cells ((ps.map strOfNums).map Value.string).toArray 9)).heap.size = w.heap.size + 1 := by simp
    generalize w.alloc (.cells ((ps.map strOfNums).map Value.string).toArray 9) = w1 at *
    have HC := hide hcell
    clear hcell
    have hlt1 : w.heap.size < w1.heap.size := by omega
    have HS1 := hide hs1
    clear hs1
    go_wp2
    go_loopw [5, 18] (fun nv i wr => ∃ (j : Nat) (n : Int), j ≤ 4 ∧ i = .int .i64 j ∧ nv = .int .i64 n ∧ 0 ≤ n ∧ n ≤ bnd j ∧ Hid (irun (ps.drop j) n = R) ∧ Below w1.heap.size w1 wr) (fun _ i _ => 4 - (intOf i).toNat)
    case atStart => exact ⟨0, 0, by omega, rfl, rfl, by omega, by simp [bnd], hps', Below.refl _ _⟩
    case round =>
      obtain ⟨j, n, hj, rfl, rfl, hn0, hn1, hrun, hbw⟩ := hrel
      by_cases hlt : j < 4
      · have hc := (hbw.cell (p := ⟨w.heap.size, j, none⟩) hlt1).trans (unhide HC j hlt)
        have hdr := hide (show ps.drop j = ps.getD j [] :: ps.drop (j + 1) by
          rw [List.drop_eq_getElem_cons (by rw [unhide H4]; exact hlt)]; simp [show j < ps.length from by rw [unhide H4]; exact hlt])
        have htb := hide (unhide hcb (ps.getD j []) (by
          have hj' : j < ps.length := by rw [unhide H4]; exact hlt
          simp [hj']))
        generalize ps.getD j [] = t at *
        have hnb : n ≤ 16777215 := by
          match j, hlt with
          | 0, _ => simp [bnd] at hn1; omega
          | 1, _ => simp [bnd] at hn1; omega
          | 2, _ => simp [bnd] at hn1; omega
          | 3, _ => simp [bnd] at hn1; omega
        go_wp2_with fail
        refine (readPart_any t _ (by have := (unhide htb).1; have := unhide HL; omega) (unhide htb).2).mono ?_
        rintro e w2 ⟨rfl, b2⟩
        have b2' : Below w1.heap.size w1 w2 := hbw.trans (b2.mono hbw.size)
        clear b2
        cases hp : readP t with
        | none =>
          have hrr := hide (show R = (0, false) by rw [← unhide hrun, unhide hdr, irun_none _ _ _ hp])
          clear hp
          simp only [rp]
          go_wp2
          go_ret2
          rw [unhide hrr]
          exact ⟨rfl, below_next b1 b2'⟩
        | some p =>
          have hpb := readP_sound hp
          have hp0 := hpb.1
          have hp1 := hpb.2.1
          have hrr := hide (show irun (ps.drop (j + 1)) (n * 256 + p) = R by rw [← unhide hrun, unhide hdr, irun_some _ _ _ _ hp])
          clear hp hpb
          have hor := hide (or_8 n p hn0 (by omega) hp0 hp1)
          simp only [rp]
          go_wp2
          rw [unhide hor]
          refine ⟨⟨j + 1, n * 256 + p, by omega, by go_num, rfl, by omega, ?_, hrr, b2'⟩, by simp [intOf]; omega⟩
          match j, hlt with
          | 0, _ => simp [bnd] at hn1 ⊢; omega
          | 1, _ => simp [bnd] at hn1 ⊢; omega
          | 2, _ => simp [bnd] at hn1 ⊢; omega
          | 3, _ => simp [bnd] at hn1 ⊢; omega
      · have hrr := hide (show R = (n, true) by
          rw [← unhide hrun, List.drop_of_length_le (by rw [unhide H4]; omega)]; rfl)
        go_wp2
        go_ret2
        rw [unhide hrr]
        exact ⟨rfl, below_next b1 hbw⟩
  · have hrr := hide (show R = (0, false) by have := unhide hps; rw [if_neg h4] at this; exact this.symm)
    have h4' : ((ps.length : Int) == 4) = false := by simp; omega
    go_enter Tryd.func14, Tryd.ntmps14
    go_wp2_with fail
    refine (unhide csp).mono ?_
    rintro e w1 ⟨rfl, rfl⟩
    go_wp2
    go_ret2
    rw [unhide hrr]
    exact ⟨rfl, (Below.refl _ _).alloc (Nat.le_refl _) _⟩
end Go.Proofs.YtdbojhbdfcknfaaDoor
