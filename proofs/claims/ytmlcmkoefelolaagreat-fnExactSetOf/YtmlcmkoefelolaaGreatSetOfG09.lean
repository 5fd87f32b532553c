/-
  Facts on zones that are owned; how far the marks of a zone go. Plain facts: what a slice has lies behind its head. No program is named here. Contracts of the helpers of the laws for []int: markIntS, heldIntS.
-/
import Derived.Test.YtmlcmkoefelolaaGreatSetOfG07
import Derived.Test.YtmlcmkoefelolaaGreatSetOfG08
import Derived.Test.YtmlcmkoefelolaaGreatSetOfG02
import Derived.Test.YtmlcmkoefelolaaGreatSetOfG06
import Derived.Test.YtmlcmkoefelolaaGreatSetOfG04
namespace Go.Proofs.YtmlcmkoefelolaaGreat
open Go.RowKit
set_option linter.unusedVariables false

/-- The slices of a zone own its name and its records, in blocks of B .. E - 1. -/
def OwnZ (B E : Nat) (w : World) (uo ur : Value) (o : List (List Int)) (rs : List Rec) : Prop := ∃ s, B ≤ s ∧ s ≤ E ∧ OwnN B s 44 5 w uo o ∧ RowO s E 52 44 5 3 w ur rs
theorem OwnZ.hasZ {B E : Nat} {w : World} {uo ur : Value} {o : List (List Int)} {rs : List Rec} (h : OwnZ B E w uo ur o rs) : HasZ w uo ur o rs := by
 obtain ⟨s, _, _, h1, h2⟩ := h
 exact ⟨h1.hasL, h2.has⟩
theorem OwnZ.below {B E : Nat} {w w' : World} {uo ur : Value} {o : List (List Int)} {rs : List Rec} (h : OwnZ B E w uo ur o rs) (hb : Below w.heap.size w w') : OwnZ B E w' uo ur o rs := by
 obtain ⟨s, h1, h2, h3, h4⟩ := h
 exact ⟨s, h1, h2, h3.below hb, h4.below hb⟩
theorem OwnZ.outside {B E C D : Nat} {w w' : World} {uo ur : Value} {o : List (List Int)} {rs : List Rec} (h : OwnZ B E w uo ur o rs) (u : Outside C D w w') (hd : E ≤ C ∨ D ≤ B) : OwnZ B E w' uo ur o rs := by
 obtain ⟨s, h1, h2, h3, h4⟩ := h
 exact ⟨s, h1, h2, h3.outside u (by omega), h4.outside u (by omega)⟩
theorem posRs_bound' {rs : List Rec} (hs : ∀ i, i < rs.length → SizeR 1048576 (rs.getD i recZ)) (hl : rs.length ≤ 1048576) (k : Int) : k ≤ posRs rs k rs.length ∧ posRs rs k rs.length ≤ k + 2305845208240095232 := by
 have h := posRs_bound hs k rs.length (Nat.le_refl _)
 have : rs.length * 2199025352707 ≤ 1048576 * 2199025352707 := Nat.mul_le_mul_right _ hl
 omega
theorem posZ_bound {o : List (List Int)} {rs : List Rec} (hs : SizeZ 1048576 o rs) (k : Int) : k ≤ posRs rs (pos o k o.length) rs.length ∧ posRs rs (pos o k o.length) rs.length ≤ k + 2305846307751723008 := by
 have h1 := pos_bound' o k hs.name hs.names
 have h2 := posRs_bound' hs.recs hs.count (pos o k o.length)
 omega
end Go.Proofs.YtmlcmkoefelolaaGreat

namespace Go.Proofs.YtmlcmkoefelolaaGreat
open Go.RowKit
set_option linter.unusedVariables false

theorem has_lies {w : World} {a : Option Addr} {n cap : Nat} {l : List Int} (h : Has w (.slice a n cap) l) (hn : l.length = n) : Lies w a l := by
 obtain ⟨a', cap', e, hl⟩ := h.form
 injection e with e1 e2 e3
 subst e1
 exact hl
theorem hasI_lies {w : World} {a : Option Addr} {n cap : Nat} {l : List Int} (h : HasI w (.slice a n cap) l) (hn : l.length = n) : LiesI w a l := by
 obtain ⟨a', cap', e, hl⟩ := h.form
 injection e with e1 e2 e3
 subst e1
 exact hl
end Go.Proofs.YtmlcmkoefelolaaGreat

namespace Go.Proofs.YtmlcmkoefelolaaGreat
open Go.RowKit
set_option linter.unusedVariables false

set_option maxHeartbeats 400000 in
set_option maxRecDepth 100000 in
theorem markIntS_some (B g cap : Nat) (k0 : Int) (l : List Int) (w : World) (h : OwnI B 3 w (.slice (some ⟨g, 0, none⟩) l.length cap) l) (hl : l.length ≤ 2097152) (hk0 : 0 ≤ k0) (hk1 : k0 ≤ 9000000000000000000) :
  Calls Tryz.prog 56 #[.slice (some ⟨g, 0, none⟩) l.length cap, .int .i64 k0] w fun e w' => e = .returned (.int .i64 (k0 + l.length)) ∧
   OwnI B 3 w' (.slice (some ⟨g, 0, none⟩) l.length cap) (marksI k0 l.length) ∧ w.grownBy w' (some g) := by
 generalize hn : l.length = n at *
 have HN := hide hn
 clear hn
 go_enter Tryz.func56, Tryz.ntmps56
 go_wp2
 go_loopw [1, 5] (fun kk i wr => ∃ k : Nat, k ≤ n ∧ i = .int .i64 k ∧ kk = .int .i64 (k0 + k) ∧ wr.ownsRow B 3 1 (.slice (some ⟨g, 0, none⟩) n cap) n ((markedI l k0 k).map (Value.int .i64)) ∧ w.grownBy wr (some g)) (fun _ i _ => n - (intOf i).toNat)
 case atStart => exact ⟨0, Nat.zero_le _, rfl, by simp, by rw [marked_zeroI]; have h1 := h; unfold OwnI at h1; rw [unhide HN] at h1; exact h1, ⟨rfl, rfl, rfl, Nat.le_refl _, fun _ _ _ => rfl⟩⟩
 case round =>
  obtain ⟨k, hk, rfl, rfl, ho, hg⟩ := hrel
  by_cases hlt : k < n
  ·have hc := ho.cellAt k (by omega)
   rw [map_atI _ _ (by rw [marked_lengthI, unhide HN]; exact hlt)] at hc
   have hf := ho.frozenAt k
   have HO := hide ho
   clear ho
   go_wp2
   have hst := (unhide HO).stored k (.int .i64 (k0 + k))
   refine ⟨⟨k + 1, by omega, by go_num, by go_num, ?_, ?_⟩, by simp [intOf]; omega⟩
   ·rw [← marked_succI, List.map_set]
    exact hst.1
   ·exact grown_trans hg hst.2
  ·go_wp2
   go_ret
   obtain rfl : k = n := by omega
   refine ⟨rfl, ?_, hg⟩
   unfold OwnI
   rw [marks_lengthI]
   have e : markedI l k0 k = marksI k0 k := by have := marked_allI l k0; rw [unhide HN] at this; exact this
   rw [← e]
   exact ho

set_option maxHeartbeats 400000 in
set_option maxRecDepth 100000 in
theorem markIntS_nil (k0 : Int) (w : World) (hk0 : 0 ≤ k0) (hk1 : k0 ≤ 9000000000000000000) :
  Calls Tryz.prog 56 #[.slice none 0 0, .int .i64 k0] w fun e w' => e = .returned (.int .i64 k0) ∧ w = w' := by
 go_enter Tryz.func56, Tryz.ntmps56
 go_wp2
 go_loop [1, 5] (fun kk i => i = .int .i64 0 ∧ kk = .int .i64 k0) (fun _ i => 0)
 case atStart => exact ⟨rfl, rfl⟩
 case round =>
  obtain ⟨rfl, rfl⟩ := hrel
  go_wp2
  go_ret
  exact ⟨rfl, rfl⟩

theorem markIntS_any {B : Nat} {v : Value} {l : List Int} (k0 : Int) {w : World} (h : OwnI B 3 w v l) (hl : l.length ≤ 2097152) (hk0 : 0 ≤ k0) (hk1 : k0 ≤ 9000000000000000000) :
  Calls Tryz.prog 56 #[v, .int .i64 k0] w fun e w' => e = .returned (.int .i64 (k0 + l.length)) ∧ OwnI B 3 w' v (marksI k0 l.length) ∧ w.grownBy w' v.ownBlock := by
 rcases h.form with ⟨rfl, rfl⟩ | ⟨g, cap, rfl, _⟩
 ·refine (markIntS_nil k0 w hk0 hk1).mono fun e w' ⟨he, hw⟩ => ?_
  subst hw
  exact ⟨by simpa using he, h, ⟨rfl, rfl, rfl, Nat.le_refl _, fun _ _ _ => rfl⟩⟩
 ·exact markIntS_some B g cap k0 l w h hl hk0 hk1

set_option maxHeartbeats 400000 in
set_option maxRecDepth 100000 in
theorem heldIntS_marks (a : Option Addr) (cap n : Nat) (k0 : Int) (w : World) (h : LiesI w a (marksI k0 n)) (hl : n ≤ 2097152) (hk0 : 0 ≤ k0) (hk1 : k0 ≤ 9000000000000000000) :
  Calls Tryz.prog 59 #[.slice a n cap, .int .i64 k0] w fun e w' => e = .returned (.int .i64 (k0 + n)) ∧ w = w' := by
 go_enter Tryz.func59, Tryz.ntmps59
 go_wp2
 go_loop [1, 5] (fun kk i => ∃ k : Nat, k ≤ n ∧ i = .int .i64 k ∧ kk = .int .i64 (k0 + k)) (fun _ i => n - (intOf i).toNat)
 case atStart => exact ⟨0, Nat.zero_le _, rfl, by simp⟩
 case round =>
  obtain ⟨k, hk, rfl, rfl⟩ := hrel
  by_cases hlt : k < n
  ·obtain ⟨b, off, rfl, hbl, hc⟩ := h.here (k := k) (by rw [marks_lengthI]; exact hlt)
   rw [marks_getDI _ _ _ hlt] at hc
   go_wp2
   exact ⟨⟨k + 1, by omega, by go_num, by go_num⟩, by simp [intOf]; omega⟩
  ·go_wp2
   go_ret
   obtain rfl : k = n := by omega
   exact ⟨rfl, rfl⟩

end Go.Proofs.YtmlcmkoefelolaaGreat
