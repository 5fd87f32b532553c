/-
  Contracts of the program's kindOf and TypeOk, and of the specification's TypeOk. Plain facts: which records may be. No program is named here. Plain facts: the book of a zone's records has a name just if the records have. No program is named here.
-/
import Derived.Test.YtmlcmkoefelolaaGreatSetOfG04
import Derived.Test.YtmlcmkoefelolaaGreatSetOfG02
import Derived.Test.YtmlcmkoefelolaaGreatSetOfG13
import Derived.Laws.BytesArg
namespace Go.Proofs.YtmlcmkoefelolaaGreat
open Go.RowKit
set_option linter.unusedVariables false

/-- The types of records. -/
def typeOk (t : Int) : Bool := decide (t = 1 ∨ t = 2 ∨ t = 5 ∨ t = 6 ∨ t = 12 ∨ t = 16 ∨ t = 49)

/-- Which data a type has. -/
def kindV (t : Int) : Value := if t = 1 then .iface 162 (.agg #[.int .i64 0]) else if t = 2 ∨ t = 5 ∨ t = 12 then .iface 164 (.agg #[.slice none 0 0]) else if t = 6 then .iface 166 (.agg #[.slice none 0 0, .slice none 0 0]) else if t = 16 ∨ t = 49 then .iface 168 (.agg #[.slice none 0 0]) else .nilIface

theorem type_cases (t : Int) : t = 1 ∨ t = 2 ∨ t = 5 ∨ t = 6 ∨ t = 12 ∨ t = 16 ∨ t = 49 ∨ typeOk t = false := by
 by_cases h : t = 1 ∨ t = 2 ∨ t = 5 ∨ t = 6 ∨ t = 12 ∨ t = 16 ∨ t = 49
 ·omega
 ·have : typeOk t = false := decide_eq_false h
  simp [this]
theorem type_other {t : Int} (h : typeOk t = false) : (t == 1) = false ∧ (t == 2) = false ∧ (t == 5) = false ∧ (t == 6) = false ∧ (t == 12) = false ∧ (t == 16) = false ∧ (t == 49) = false := by
 have h' : ¬ (t = 1 ∨ t = 2 ∨ t = 5 ∨ t = 6 ∨ t = 12 ∨ t = 16 ∨ t = 49) := of_decide_eq_false h
 simp only [beq_eq_false_iff_ne]
 omega
theorem kindV_other {t : Int} (h : typeOk t = false) : kindV t = .nilIface := by
 have h' : ¬ (t = 1 ∨ t = 2 ∨ t = 5 ∨ t = 6 ∨ t = 12 ∨ t = 16 ∨ t = 49) := of_decide_eq_false h
 unfold kindV
 rw [if_neg (by omega), if_neg (by omega), if_neg (by omega), if_neg (by omega)]

set_option maxHeartbeats 800000 in
set_option maxRecDepth 100000 in
theorem kindOf_any (t : Int) (w : World) : Calls Tryz.prog 137 #[.int .i64 t] w fun e w' => e = .returned (kindV t) ∧ w = w' := by
 rcases type_cases t with rfl | rfl | rfl | rfl | rfl | rfl | rfl | h
 iterate 7
  ·go_enter Tryz.func137, Tryz.ntmps137
   go_wp2
   go_ret
   exact ⟨rfl, rfl⟩
 ·obtain ⟨h1, h2, h3, h4, h5, h6, h7⟩ := type_other h
  rw [kindV_other h]
  go_enter Tryz.func137, Tryz.ntmps137
  go_wp2
  go_ret
  exact ⟨rfl, rfl⟩

set_option maxHeartbeats 800000 in
set_option maxRecDepth 100000 in
theorem specTypeOk_any (t : Int) (w : World) : Calls Tryz.prog 98 #[.int .i64 t] w fun e w' => e = .returned (.bool (typeOk t)) ∧ w = w' := by
 rcases type_cases t with rfl | rfl | rfl | rfl | rfl | rfl | rfl | h
 iterate 7
  ·go_enter Tryz.func98, Tryz.ntmps98
   go_wp2
   go_ret
   exact ⟨rfl, rfl⟩
 ·obtain ⟨h1, h2, h3, h4, h5, h6, h7⟩ := type_other h
  rw [h]
  go_enter Tryz.func98, Tryz.ntmps98
  go_wp2
  go_ret
  exact ⟨rfl, rfl⟩

set_option maxHeartbeats 800000 in
set_option maxRecDepth 100000 in
theorem implTypeOk_any (t : Int) (w : World) : Calls Tryz.prog 101 #[.int .i64 t] w fun e w' => e = .returned (.bool (typeOk t)) ∧ w = w' := by
 have hk : (kindV t = .nilIface ∧ typeOk t = false) ∨ ∃ ty v, kindV t = .iface ty v ∧ typeOk t = true := by
  rcases type_cases t with rfl | rfl | rfl | rfl | rfl | rfl | rfl | h
  iterate 7 exact .inr ⟨_, _, rfl, rfl⟩
  exact .inl ⟨kindV_other h, h⟩
 go_enter Tryz.func101, Tryz.ntmps101
 go_wp2_with fail
 refine (kindOf_any t _).mono ?_
 rintro e w1 ⟨rfl, rfl⟩
 rcases hk with ⟨h1, h2⟩ | ⟨ty, v, h1, h2⟩
 ·rw [h1]
  go_wp2
  go_ret
  exact ⟨by rw [h2]; rfl, rfl⟩
 ·rw [h1]
  go_wp2
  go_ret
  exact ⟨by rw [h2]; rfl, rfl⟩
end Go.Proofs.YtmlcmkoefelolaaGreat

namespace Go.Proofs.YtmlcmkoefelolaaGreat
open Go.RowKit

def named (t : Int) : Bool := decide (t = 2 ∨ t = 5 ∨ t = 6 ∨ t = 12)
def texted (t : Int) : Bool := decide (t = 16 ∨ t = 49)

/-- The data are as the type wants them. -/
def dataOk (r : Rec) : Bool :=
 (if r.type = 1 then decide (0 ≤ r.addr ∧ r.addr ≤ 4294967295) else decide (r.addr = 0)) && ((if named r.type = true then nameOk r.to else decide (r.to.length = 0)) && ((if texted r.type = true then decide (r.text.length ≤ 40) else decide (r.text.length = 0)) &&
 (if r.type = 6 then decide (r.nums.length = 2 ∧ 0 ≤ r.nums.getD 0 0 ∧ r.nums.getD 0 0 ≤ 4294967295 ∧ 0 ≤ r.nums.getD 1 0 ∧ r.nums.getD 1 0 ≤ 100000) else decide (r.nums.length = 0))))
def rrOk (r : Rec) : Bool := nameOk r.name && (typeOk r.type && (decide (0 ≤ r.ttl ∧ r.ttl ≤ 100000) && dataOk r))

theorem HasI.two {w : World} {v : Value} {x y : Int} (h : HasI w v [x, y]) : ∃ g off cap, v = .slice (some ⟨g, off, none⟩) 2 cap ∧ g < w.heap.size ∧ w.cell? ⟨g, off, none⟩ = some (.int .i64 x) ∧ w.cell? ⟨g, off + 1, none⟩ = some (.int .i64 y) := by
 rcases h with ⟨_, h⟩ | ⟨g, off, cap, hv, hlt, _, _, hc⟩
 ·cases h
 ·exact ⟨g, off, cap, hv, hlt, hc 0 (by simp), hc 1 (by simp)⟩
theorem two_of {l : List Int} (h : l.length = 2) : ∃ x y, l = [x, y] := by
 match l, h with
 | [x, y], _ => exact ⟨x, y, rfl⟩
theorem nil_of {α : Type} {l : List α} (h : l.length = 0) : l = [] := List.eq_nil_of_length_eq_zero h
end Go.Proofs.YtmlcmkoefelolaaGreat

namespace Go.Proofs.YtmlcmkoefelolaaGreat
open Go.RowKit
set_option linter.unusedVariables false

/-- Texts of bytes that are one are of the same bytes. -/
theorem strOfNums_inj : ∀ {l m : List Int}, (∀ x ∈ l, 0 ≤ x ∧ x ≤ 255) → (∀ x ∈ m, 0 ≤ x ∧ x ≤ 255) → strOfNums l = strOfNums m → l = m := by
 intro l m hl hm h
 have h1 : l.map (fun n => UInt8.ofNat n.toNat) = m.map (fun n => UInt8.ofNat n.toNat) := by
  simp only [strOfNums, ByteArray.mk.injEq] at h
  simpa using h
 clear h
 induction l generalizing m with
 | nil =>
  cases m with
  | nil => rfl
  | cons b t => simp at h1
 | cons a t ih =>
  cases m with
  | nil => simp at h1
  | cons b s =>
   simp only [List.map_cons, List.cons.injEq] at h1
   have ha := hl a (List.mem_cons_self ..)
   have hb := hm b (List.mem_cons_self ..)
   have e : a.toNat = b.toNat := by
    have := congrArg UInt8.toNat h1.1
    simp only [UInt8.toNat_ofNat'] at this
    omega
   rw [show a = b by omega, ih (fun x hx => hl x (List.mem_cons_of_mem _ hx)) (fun x hx => hm x (List.mem_cons_of_mem _ hx)) h1.2]
theorem cut_zero : ∀ {l m A B : List Int}, (∀ x ∈ l, x ≠ 0) → (∀ x ∈ m, x ≠ 0) → l ++ 0 :: A = m ++ 0 :: B → l = m ∧ A = B
 | [], [], A, B, _, _, h => by simpa using h
 | [], b :: t, A, B, _, hm, h => by
  simp only [List.nil_append, List.cons_append, List.cons.injEq] at h
  exact absurd h.1.symm (hm b (List.mem_cons_self ..))
 | a :: t, [], A, B, hl, _, h => by
  simp only [List.nil_append, List.cons_append, List.cons.injEq] at h
  exact absurd h.1 (hl a (List.mem_cons_self ..))
 | a :: t, b :: s, A, B, hl, hm, h => by
  simp only [List.cons_append, List.cons.injEq] at h
  obtain ⟨h1, h2⟩ := cut_zero (fun x hx => hl x (List.mem_cons_of_mem _ hx)) (fun x hx => hm x (List.mem_cons_of_mem _ hx)) h.2
  rw [h.1, h1]
  exact ⟨rfl, h2⟩
theorem keyP_inj : ∀ {ls ms : List (List Int)}, (∀ l ∈ ls, ∀ x ∈ l, x ≠ 0) → (∀ l ∈ ms, ∀ x ∈ l, x ≠ 0) → keyP ls = keyP ms → ls = ms
 | [], [], _, _, _ => rfl
 | [], m :: t, _, _, h => by simp [keyP] at h
 | l :: t, [], _, _, h => by simp [keyP] at h
 | l :: t, m :: s, hl, hm, h => by
  simp only [keyP, List.flatMap_cons, List.append_assoc, List.singleton_append] at h
  obtain ⟨h1, h2⟩ := cut_zero (hl l (List.mem_cons_self ..)) (hm m (List.mem_cons_self ..)) h
  rw [h1, keyP_inj (fun x hx => hl x (List.mem_cons_of_mem _ hx)) (fun x hx => hm x (List.mem_cons_of_mem _ hx)) h2]
theorem sign_of {n : List (List Int)} (h : nameOk n = true) : ∀ l ∈ n, ∀ x ∈ l, 45 ≤ x ∧ x ≤ 122 := by
 intro l hl x hx
 obtain ⟨i, hi, rfl⟩ := List.getElem_of_mem hl
 have h1 := (nameOk_parts h).2 i hi
 rw [show n.getD i [] = n[i] by simp [hi]] at h1
 obtain ⟨j, hj, rfl⟩ := List.getElem_of_mem hx
 have h2 := (of_decide_eq_true h1).2.2 j hj
 rw [show n[i].getD j 0 = n[i][j] by simp [hj]] at h2
 have := of_decide_eq_true h2
 omega
theorem keyP_bytes {ls : List (List Int)} (h : ∀ l ∈ ls, ∀ x ∈ l, 45 ≤ x ∧ x ≤ 122) : ∀ x ∈ keyP ls, 0 ≤ x ∧ x ≤ 255 := by
 intro x hx
 obtain ⟨l, hl, hx⟩ := List.mem_flatMap.1 hx
 rcases List.mem_append.1 hx with hx | hx
 ·have := h l hl x hx
  omega
 ·simp at hx
  omega
/-- The keys of names that may be are one just if the names are. -/
theorem keyN_inj {n m : List (List Int)} (hn : nameOk n = true) (hm : nameOk m = true) (h : strOfNums (keyN n) = strOfNums (keyN m)) : n = m := by
 have r1 : ∀ l ∈ n.reverse, ∀ x ∈ l, 45 ≤ x ∧ x ≤ 122 := fun l hl => sign_of hn l (List.mem_reverse.1 hl)
 have r2 : ∀ l ∈ m.reverse, ∀ x ∈ l, 45 ≤ x ∧ x ≤ 122 := fun l hl => sign_of hm l (List.mem_reverse.1 hl)
 have e1 : keyP n.reverse = keyP m.reverse := strOfNums_inj (keyP_bytes r1) (keyP_bytes r2) h
 have e2 := keyP_inj (fun l hl x hx => by have := r1 l hl x hx; omega) (fun l hl x hx => by have := r2 l hl x hx; omega) e1
 exact List.reverse_inj.1 e2

end Go.Proofs.YtmlcmkoefelolaaGreat
