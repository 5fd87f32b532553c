/-
  What the frame asks of the whole program, once for all statements of the seat: the word on how it was cut is laid out as numbers first, so that the kernel need not take a long text apart. Plain facts: a text of bytes gone through rune by rune, and great letters turned into small ones. No program is named here. What NameGet reads, in plain words: one step after another, each a label or a pointer.
-/
import Derived.Test.YtfgcmjpkgdjcfaaGreatRows
import Derived.WalkKit
import Derived.ProofKit
import Derived.JoinedOf
import Derived.Test.YtfgcmjpkgdjcfaaGreatHouseNewG00
import Derived.Lib.OthersKept
namespace Go.Proofs.YtfgcmjpkgdjcfaaGreat

/-- The word that tells that the program is a cut. -/
def cutWord : List Char := [Char.ofNat 99, Char.ofNat 117, Char.ofNat 116]
theorem cut_gc : (cutWord == "gc".toList) = false := by kernel_rfl
theorem cut_spec : (cutWord == "spec".toList) = false := by kernel_rfl
theorem cut_carried : (cutWord == "carried".toList) = false := by kernel_rfl
theorem cut_cut : (cutWord == "cut".toList) = true := by kernel_rfl
theorem head_cut (W : List (List Char)) : (List.head? (cutWord :: W) == some "cut".toList) = true := by kernel_rfl
theorem head_carried (W : List (List Char)) : (List.head? (cutWord :: W) == some "carried".toList) = false := by kernel_rfl
theorem strip_cut (W : List (List Char)) : stripLifts liftWords (cutWord :: W) = ([], cutWord :: W) := by kernel_rfl

theorem enter_of {P : Program} {l : List Char} {W : List (List Char)} (h : P.initOrder.toList = l) (hw : behindMainWord (wordsSigns l) = cutWord :: W) (h1 : P.laysLater = false) (h2 : P.bearsReflect = false) (h3 : P.doorFits [] = true) : P.mayEnter = true := by
 unfold Program.mayEnter
 rw [h, hw]
 simp only [strip_cut, h1, h2, h3, cut_gc, cut_spec, cut_carried, head_cut]
 rfl
theorem lifts_of {P : Program} {l : List Char} {W : List (List Char)} (h : P.initOrder.toList = l) (hw : behindMainWord (wordsSigns l) = cutWord :: W) : P.liftsFinal = false := by
 unfold Program.liftsFinal Program.headLifts
 rw [h, hw]
 simp only [strip_cut, head_carried, head_cut]
 rfl
theorem make_of {P : Program} {l : List Char} {W : List (List Char)} (h : P.initOrder.toList = l) (hw : behindMainWord (wordsSigns l) = cutWord :: W) : P.make = some .cut := by
 unfold Program.make
 rw [h, hw]
 simp only [cut_gc, cut_spec, cut_cut]
 rfl

def initA : List Char := [104, 97, 114, 110, 101, 115, 115, 32, 52, 53, 56, 57, 101, 102, 49, 57, 50, 50, 102, 51, 100, 51, 53, 55, 100, 102, 98, 52, 51, 100, 52, 50, 54, 52, 48, 99, 54, 51, 52, 97, 102, 100, 102, 102, 98, 52, 50, 54, 54, 98, 53, 57, 50, 50, 101, 50, 50, 48, 100, 99, 101, 56, 51, 54, 55, 50, 50, 51, 53, 102, 99, 54, 32, 99, 117, 116, 32].map Char.ofNat
def initB : List Char := [97, 116, 32, 108, 111, 111, 112, 46, 101, 120, 97, 109, 112, 108, 101, 47, 103, 48, 48, 52, 50, 50, 47, 108, 97, 119, 115, 46, 70, 110, 69, 120, 97, 99, 116, 68, 114, 111, 112, 83, 101, 116, 32, 108, 111, 111, 112, 46, 101, 120, 97, 109, 112, 108, 101, 47, 103, 48, 48, 52, 50, 50, 47, 108, 97, 119, 115, 46, 70, 110, 69, 120, 97, 99, 116, 72, 111, 117, 115, 101, 78, 101, 119].map Char.ofNat
theorem init_text : Tryz.prog.initOrder = String.ofList (initA ++ initB) := by kernel_rfl
theorem init_list : Tryz.prog.initOrder.toList = initA ++ initB := by rw [init_text, String.toList_ofList]
theorem words (R : List Char) : behindMainWord (wordsSigns (initA ++ R)) = cutWord :: wordsSigns R := by kernel_rfl
theorem c_laid : laidOutB Tryz.prog = true := by kernel_rfl
theorem c_maps : mapsRowed Tryz.prog = true := by kernel_rfl
theorem c_stops : (Tryz.prog.stops == []) = true := by kernel_rfl
theorem c_knobs : (Tryz.prog.stopKnobs == []) = true := by kernel_rfl
theorem c_heard : Tryz.prog.stopsHeard = true := by kernel_rfl
theorem c_later : Tryz.prog.laysLater = false := by kernel_rfl
theorem c_reflect : Tryz.prog.bearsReflect = false := by kernel_rfl
theorem c_door : Tryz.prog.doorFits [] = true := by kernel_rfl
theorem c_keys : Tryz.prog.plainKeys = true := by kernel_rfl
theorem c_enter : Tryz.prog.mayEnter = true := enter_of init_list (words initB) c_later c_reflect c_door
theorem c_lifts : Tryz.prog.liftsFinal = false := lifts_of init_list (words initB)
theorem c_make : Tryz.prog.make = some .cut := make_of init_list (words initB)

theorem both {a b : Bool} (h : a = true) (k : b = true) : (a && b) = true := by rw [h, k]; rfl

set_option maxRecDepth 100000 in
/-- The frame's facts, the program's own ones taken from above. -/
theorem closed_of {f : FuncId} {fn : Func} {s : ChangeSpec} {c : OpenClaim} (k1 : c.wf (OpenSpec.ofChange s) = true) (k4 : fn.params.all (Tryz.prog.readableRec ·) = true) (k5 : namedTie Tryz.prog c.named s.vars = true) (k6 : (c.stops == []) = true) (k8 : (c.knobs == []) = true)
  (k10 : (c.inPlace == Tryz.prog.inPlace f) = true) (k11 : (c.unfollowed == Tryz.prog.unfollowed f) = true) (k12 : (c.recurses == Tryz.prog.recurses f) = true) (k13 : (c.named == Tryz.prog.varsNamed f) = true)
  (k14 : (c.maps == (fn.params.toList ++ s.plain.varTypes Tryz.prog).any (Tryz.prog.mapsRec ·)) = true) (k15 : (c.ifaces == (fn.params.toList ++ s.plain.varTypes Tryz.prog).any (Tryz.prog.ifacesRec ·)) = true) (k16 : (c.mapsOut == Tryz.prog.mapsAmong fn.resultTypes.toList) = true)
  (k17 : (c.loops == (fn.params.toList ++ s.plain.varTypes Tryz.prog).any (Tryz.prog.loopsFrom ·)) = true) (k17b : (c.wideKeys == (fn.params.toList ++ s.plain.varTypes Tryz.prog ++ fn.resultTypes.toList).any (Tryz.prog.wideKeysFrom ·)) = true)
  (k18 : s.vars.all (Tryz.prog.varReadable ·) = true) (k19 : fn.resultTypes.all (fun t => Tryz.prog.readableRec t && decide (t < Tryz.prog.types.size)) = true) (k20 : (c.ifacesOut == fn.resultTypes.toList.any (Tryz.prog.ifacesRec ·)) = true) (k21 : (c.loopsOut == fn.resultTypes.toList.any (Tryz.prog.loopsFrom ·)) = true)
  (k22 : c.plainKeys = true) (k23 : c.shortTexts.isNone = true) (k24b : c.lifted = false) (k24c : c.make = .cut)
  (k25 : (c.kinds == (if c.domain.isEmpty then [] else fn.params.toList.map fun t => match Tryz.prog.underlying t with | some (.int k) => some k | _ => none)) = true) (k26 : (c.pinned == c.pinnedBy) = true)
  (k27 : (c.veiled == (fn.params.toList ++ s.plain.varTypes Tryz.prog ++ fn.resultTypes.toList).any (Tryz.prog.veiledRec ·)) = true) (k28 : c.veiledFits Tryz.prog fn.params.toList (fn.params.toList ++ s.plain.varTypes Tryz.prog ++ fn.resultTypes.toList) = true) :
  joinedFacts Tryz.prog f fn s c = true := by
 have e22 : (c.plainKeys == Tryz.prog.plainKeys) = true := by rw [k22, c_keys]; rfl
 have e24b : (c.lifted == Tryz.prog.liftsFinal) = true := by rw [k24b, c_lifts]; rfl
 have e24c : (Tryz.prog.make == some c.make) = true := by rw [k24c, c_make]; rfl
 unfold joinedFacts
 exact both (both (both (both (both (both (both (both (both (both (both (both (both (both (both (both (both (both (both (both (both (both (both (both (both (both (both (both (both (both (both k1 c_laid) c_maps) k4) k5) k6) c_stops) k8) c_knobs) k10) k11) k12) k13) k14) k15) k16) k17) k17b) k18) k19) k20) k21) e22) k23) c_heard) c_enter) e24b) e24c) k25) k26) k27) k28
end Go.Proofs.YtfgcmjpkgdjcfaaGreat

namespace Go.Proofs.YtfgcmjpkgdjcfaaGreat
open Go.RowKit

/-- One byte, a great letter as a small one. -/
def low (x : Int) : Int := if 65 ≤ x ∧ x ≤ 90 then x + 32 else x
/-- The first k bytes lowered. -/
def lowered (l : List Int) (k : Nat) : List Int := (List.range l.length).map fun (j : Nat) => if j < k then low (l.getD j 0) else l.getD j 0

theorem lowered_length (l : List Int) (k : Nat) : (lowered l k).length = l.length := by simp [lowered]
theorem lowered_zero (l : List Int) : lowered l 0 = l := by
  apply List.ext_getElem?
  intro j
  by_cases hj : j < l.length <;> simp [lowered, hj]
theorem lowered_getD (l : List Int) (k i : Nat) (h : k ≤ i) : (lowered l k).getD i 0 = l.getD i 0 := by
  by_cases hi : i < l.length
  · simp [lowered, hi, Nat.not_lt.2 h]
  · simp [lowered, hi]
theorem lowered_succ (l : List Int) (k : Nat) : (lowered l k).set k (low (l.getD k 0)) = lowered l (k + 1) := by
  apply List.ext_getElem?
  intro j
  rw [List.getElem?_set]
  by_cases hj : j < l.length
  · by_cases e : k = j
    · subst e; simp [lowered, hj]
    · have : j < k + 1 ↔ j < k := by omega
      simp [lowered, hj, e, this]
  · simp [lowered, hj]
    omega
theorem low_high (x : Int) (h : x < 65 ∨ 90 < x) : low x = x := by unfold low; rw [if_neg (by omega)]
theorem low_great (x : Int) (h : 65 ≤ x) (h' : x ≤ 90) : low x = x + 32 := by unfold low; rw [if_pos ⟨h, h'⟩]
theorem lowered_same (l : List Int) (k k' : Nat) (hk : k ≤ k') (h : ∀ j, k ≤ j → j < k' → l.getD j 0 < 65 ∨ 90 < l.getD j 0) : lowered l k' = lowered l k := by
  unfold lowered
  apply List.map_congr_left
  intro j hj
  by_cases h1 : j < k
  · rw [if_pos h1, if_pos (by omega)]
  · rw [if_neg h1]
    by_cases h2 : j < k'
    · rw [if_pos h2, low_high _ (h j (by omega) h2)]
    · rw [if_neg h2]

theorem str_get (l : List Int) (k : Nat) (h : k < l.length) : (strOfNums l).get! k = UInt8.ofNat (l.getD k 0).toNat := by
  have hs : k < (strOfNums l).size := by rw [strOfNums_size]; exact h
  simp [ByteArray.get!, strOfNums, h]

theorem str_toNat (l : List Int) (hb : ∀ k, 0 ≤ l.getD k 0 ∧ l.getD k 0 ≤ 255) (k : Nat) (h : k < l.length) : (((strOfNums l).get! k).toNat : Int) = l.getD k 0 := by
  rw [str_get l k h]
  have := hb k
  rw [UInt8.toNat_ofNat']
  omega

/-- One rune of a text: a byte below 128 is one of its own; else it is at least 128, and so is each byte of it. -/
theorem decode_l (l : List Int) (hb : ∀ k, 0 ≤ l.getD k 0 ∧ l.getD k 0 ≤ 255) (pos : Nat) (h : pos < l.length) :
    1 ≤ (Utf8.decode (strOfNums l) pos).2 ∧ pos + (Utf8.decode (strOfNums l) pos).2 ≤ l.length ∧
      ((l.getD pos 0 < 128 ∧ ((Utf8.decode (strOfNums l) pos).1 : Int) = l.getD pos 0 ∧ (Utf8.decode (strOfNums l) pos).2 = 1) ∨
       (128 ≤ (Utf8.decode (strOfNums l) pos).1 ∧ ∀ j, pos ≤ j → j < pos + (Utf8.decode (strOfNums l) pos).2 → 128 ≤ l.getD j 0)) := by
  have h0 := str_toNat l hb pos h
  have hs := strOfNums_size l
  have hc : ∀ k, pos + k < l.length → (((strOfNums l).get! (pos + k)).toNat : Int) = l.getD (pos + k) 0 := fun k hk => str_toNat l hb (pos + k) hk
  have hlt : ∀ k, ((strOfNums l).get! (pos + k)).toNat < 256 := fun k => UInt8.toNat_lt _
  simp only [Utf8.decode, hs, Nat.add_zero]
  by_cases ha : ((strOfNums l).get! pos).toNat < 128
  · rw [if_pos ha]
    exact ⟨Nat.le_refl _, by show pos + 1 ≤ _; omega, .inl ⟨by omega, by simpa using h0, rfl⟩⟩
  · rw [if_neg ha]
    have hp : 128 ≤ l.getD pos 0 := by omega
    have one : ∀ j, pos ≤ j → j < pos + 1 → 128 ≤ l.getD j 0 := fun j h1 h2 => by
      have e : j = pos := by omega
      rw [e]; exact hp
    have step : ∀ k, decide (pos + k < l.length) = true → ((strOfNums l).get! (pos + k)).toNat / 64 = 2 → 128 ≤ l.getD (pos + k) 0 := fun k hk h2 => by
      have := hc k (by simpa using hk)
      omega
    have fin : ∀ r : Nat × Nat, (1 ≤ r.2 ∧ pos + r.2 ≤ l.length ∧ 128 ≤ r.1 ∧ ∀ j, pos ≤ j → j < pos + r.2 → 128 ≤ l.getD j 0) →
        1 ≤ r.2 ∧ pos + r.2 ≤ l.length ∧ ((l.getD pos 0 < 128 ∧ (r.1 : Int) = l.getD pos 0 ∧ r.2 = 1) ∨ (128 ≤ r.1 ∧ ∀ j, pos ≤ j → j < pos + r.2 → 128 ≤ l.getD j 0)) := fun r hr => ⟨hr.1, hr.2.1, .inr hr.2.2⟩
    apply fin
    have err : 1 ≤ (Utf8.runeError, 1).2 ∧ pos + (Utf8.runeError, 1).2 ≤ l.length ∧ 128 ≤ (Utf8.runeError, 1).1 ∧ ∀ j, pos ≤ j → j < pos + (Utf8.runeError, 1).2 → 128 ≤ l.getD j 0 :=
      ⟨Nat.le_refl _, by show pos + 1 ≤ _; omega, by decide, one⟩
    have h1 := hlt 0
    rw [Nat.add_zero] at h1
    split
    · rename_i hx
      simp only [Bool.and_eq_true, decide_eq_true_eq, beq_iff_eq] at hx
      have s1 := step 1 (by simpa using hx.2.1) hx.2.2
      split
      · rename_i hge
        refine ⟨by show 1 ≤ 2; omega, by show pos + 2 ≤ _; omega, by show 128 ≤ _; omega, fun j hj hj' => ?_⟩
        have hj2 : j < pos + 2 := hj'
        by_cases e : j = pos
        · rw [e]; exact hp
        · have e1 : j = pos + 1 := by omega
          rw [e1]; exact s1
      · exact err
    · split
      · rename_i hx
        simp only [Bool.and_eq_true, decide_eq_true_eq, beq_iff_eq] at hx
        have s1 := step 1 (by simpa using hx.1.2.1) hx.1.2.2
        have s2 := step 2 (by simpa using hx.2.1) hx.2.2
        split
        · rename_i hge
          simp only [Bool.and_eq_true, decide_eq_true_eq] at hge
          refine ⟨by show 1 ≤ 3; omega, by show pos + 3 ≤ _; omega, by show 128 ≤ _; omega, fun j hj hj' => ?_⟩
          have hj2 : j < pos + 3 := hj'
          by_cases e : j = pos
          · rw [e]; exact hp
          · by_cases e1 : j = pos + 1
            · rw [e1]; exact s1
            · have e2 : j = pos + 2 := by omega
              rw [e2]; exact s2
        · exact err
      · split
        · rename_i hx
          simp only [Bool.and_eq_true, decide_eq_true_eq, beq_iff_eq] at hx
          have s1 := step 1 (by simpa using hx.1.1.2.1) hx.1.1.2.2
          have s2 := step 2 (by simpa using hx.1.2.1) hx.1.2.2
          have s3 := step 3 (by simpa using hx.2.1) hx.2.2
          split
          · rename_i hge
            simp only [Bool.and_eq_true, decide_eq_true_eq] at hge
            refine ⟨by show 1 ≤ 4; omega, by show pos + 4 ≤ _; omega, by show 128 ≤ _; omega, fun j hj hj' => ?_⟩
            have hj2 : j < pos + 4 := hj'
            by_cases e : j = pos
            · rw [e]; exact hp
            · by_cases e1 : j = pos + 1
              · rw [e1]; exact s1
              · by_cases e2 : j = pos + 2
                · rw [e2]; exact s2
                · have e3 : j = pos + 3 := by omega
                  rw [e3]; exact s3
          · exact err
        · exact err

/-- Moving an iterator on turns no own row. -/
theorem ownsRow_iter {w : World} {base : Nat} {e : TypeId} {size : Nat} {v : Value} {n : Nat} {xs : List Value} (h : w.ownsRow base e size v n xs) {k : Nat} {s : ByteArray} {pos : Nat} (hk : w.heap[k]? = some (.stringIter s pos)) (p : Nat) : (w.iterAt k s p).ownsRow base e size v n xs := by
  refine ⟨h.1, ?_⟩
  rcases h.2 with hn | ⟨g, cap, cur, a, b, c, d⟩
  · exact .inl hn
  · have hkg : g ≠ k := by
      intro e1
      rw [e1, hk] at c
      cases c
    exact .inr ⟨g, cap, cur, a, b, (Lib.iterAt_other w k g s p hkg).trans c, d⟩

theorem iter_setCell {w : World} {k g : Nat} {s : ByteArray} {pos j : Nat} {u : Value} (hk : w.heap[k]? = some (.stringIter s pos)) (hne : k ≠ g) : (w.setCell ⟨g, j, none⟩ u).heap[k]? = some (.stringIter s pos) := by
  rw [Below.heap_setCell _ _ _ _ hne]; exact hk

theorem iterPos_eq {w : World} {k : Nat} {s : ByteArray} {pos : Nat} (hk : w.heap[k]? = some (.stringIter s pos)) : w.iterPos k = pos := by
  simp [World.iterPos, hk]
end Go.Proofs.YtfgcmjpkgdjcfaaGreat

namespace Go.Proofs.YtfgcmjpkgdjcfaaGreat
set_option linter.unusedVariables false

/-- Every number of the list is a byte. -/
def Bytes8 (l : List Int) : Prop := ∀ k, 0 ≤ l.getD k 0 ∧ l.getD k 0 ≤ 255

end Go.Proofs.YtfgcmjpkgdjcfaaGreat
