/-
  The library functions that gather and sort the keys of maps, by the contracts that lie compiled in the library, laid at this program by the shelf's own command in plain words. Plain facts: a name that ends with another, and the end of a list of texts in memory. No program is named here. Plain facts: whether a book has a record of a name, or of one under it. No program is named here. Plain facts: the book of a zone's records has a name just if the records have. No program is named here.
-/
import Derived.Shelf.SlIter.Nil
import Derived.Shelf.SortM.Plain
import Derived.Shelf.SortM.SortNone
import Derived.Ground.GgzProg
import Derived.Ground.SlgmProg
import Derived.Test.YtmnlhjdjjinbiaaGreatProg
import Derived.Test.YtmnlhjdjjinbiaaGreatDropSetG13
import Derived.Test.YtmnlhjdjjinbiaaGreatDropSetG17
import Derived.Test.YtmnlhjdjjinbiaaGreatDropSetG09
import Derived.Test.YtmnlhjdjjinbiaaGreatDropSetG10
import Derived.Laws.BytesArg
namespace Go.Proofs
open Go.Shelf
def Tryz.sort131_ren : Go.Shelf.Ren := ⟨fun | 6 => 131 | 8 => 139 | 9 => 138 | 19 => 149 | 20 => 150 | 21 => 140 | 22 => 141 | 23 => 142 | 24 => 143 | 25 => 144 | 26 => 145 | 27 => 146 | 28 => 147 | 29 => 148 | 36 => 151 | 31 => 152 | 32 => 153 | 37 => 154 | 38 => 155 | 39 => 156 | 41 => 157 | n => n, fun | 27 => 138 | 29 => 9 | 3 => 3 | 32 => 154 | 26 => 138 | 0 => 0 | 44 => 168 | 46 => 170 | 4 => 4 | 36 => 160 | 35 => 159 | 41 => 165 | 5 => 5 | 9 => 9 | 53 => 171 | 57 => 175 | 63 => 177 | 64 => 178 | n => n, fun | n => n⟩
theorem Tryz.sort131 : Go.Proofs.SlLaysM.n6 Tryz.prog Tryz.sort131_ren := {
  mixed := by kernel_rfl
  f6 := ⟨Tryz.f131.name, by decide, Tryz.func131.trans (congrArg some (by kernel_rfl))⟩
  f8 := Tryz.func139.trans (congrArg some (by kernel_rfl))
  f9 := ⟨Tryz.f138.name, by decide, Tryz.func138.trans (congrArg some (by kernel_rfl))⟩
  f19 := Tryz.func149.trans (congrArg some (by kernel_rfl))
  f20 := Tryz.func150.trans (congrArg some (by kernel_rfl))
  f21 := ⟨Tryz.f140.name, by decide, Tryz.func140.trans (congrArg some (by kernel_rfl))⟩
  f22 := ⟨Tryz.f141.name, by decide, Tryz.func141.trans (congrArg some (by kernel_rfl))⟩
  f23 := ⟨Tryz.f142.name, by decide, Tryz.func142.trans (congrArg some (by kernel_rfl))⟩
  f24 := ⟨Tryz.f143.name, by decide, Tryz.func143.trans (congrArg some (by kernel_rfl))⟩
  f25 := ⟨Tryz.f144.name, by decide, Tryz.func144.trans (congrArg some (by kernel_rfl))⟩
  f26 := ⟨Tryz.f145.name, by decide, Tryz.func145.trans (congrArg some (by kernel_rfl))⟩
  f27 := ⟨Tryz.f146.name, by decide, Tryz.func146.trans (congrArg some (by kernel_rfl))⟩
  f28 := ⟨Tryz.f147.name, by decide, Tryz.func147.trans (congrArg some (by kernel_rfl))⟩
  f29 := ⟨Tryz.f148.name, by decide, Tryz.func148.trans (congrArg some (by kernel_rfl))⟩
  f31 := Tryz.func152.trans (congrArg some (by kernel_rfl))
  f32 := Tryz.func153.trans (congrArg some (by kernel_rfl))
  f36 := ⟨Tryz.f151.name, by decide, Tryz.func151.trans (congrArg some (by kernel_rfl))⟩
  f37 := ⟨Tryz.f154.name, by decide, Tryz.func154.trans (congrArg some (by kernel_rfl))⟩
  f38 := ⟨Tryz.f155.name, by decide, Tryz.func155.trans (congrArg some (by kernel_rfl))⟩
  f39 := ⟨Tryz.f156.name, by decide, Tryz.func156.trans (congrArg some (by kernel_rfl))⟩
  f41 := ⟨Tryz.f157.name, by decide, Tryz.func157.trans (congrArg some (by kernel_rfl))⟩
  t0 := Tryz.underlying0
  a0 := Tryz.isAgg0
  z0 := Tryz.sizeOf0
  v0 := Tryz.zeroValue0
  t3 := Tryz.underlying3
  a3 := Tryz.isAgg3
  z3 := Tryz.sizeOf3
  v3 := Tryz.zeroValue3
  t4 := Tryz.underlying4
  a4 := Tryz.isAgg4
  z4 := Tryz.sizeOf4
  v4 := Tryz.zeroValue4
  t5 := Tryz.underlying5
  a5 := Tryz.isAgg5
  z5 := Tryz.sizeOf5
  v5 := Tryz.zeroValue5
  t9 := Tryz.underlying9
  a9 := Tryz.isAgg9
  z9 := Tryz.sizeOf9
  v9 := Tryz.zeroValue9
  t26 := Tryz.underlying138
  a26 := Tryz.isAgg138
  z26 := Tryz.sizeOf138
  v26 := Tryz.zeroValue138
  t27 := Tryz.underlying138
  a27 := Tryz.isAgg138
  z27 := Tryz.sizeOf138
  v27 := Tryz.zeroValue138
  t29 := Tryz.underlying9
  a29 := Tryz.isAgg9
  z29 := Tryz.sizeOf9
  v29 := Tryz.zeroValue9
  t32 := Tryz.underlying154
  a32 := Tryz.isAgg154
  z32 := Tryz.sizeOf154
  v32 := Tryz.zeroValue154
  t35 := Tryz.underlying159
  a35 := Tryz.isAgg159
  z35 := Tryz.sizeOf159
  v35 := Tryz.zeroValue159
  t36 := Tryz.underlying160
  a36 := Tryz.isAgg160
  z36 := Tryz.sizeOf160
  v36 := Tryz.zeroValue160
  t41 := Tryz.underlying165
  a41 := Tryz.isAgg165
  z41 := Tryz.sizeOf165
  v41 := Tryz.zeroValue165
  t44 := Tryz.underlying168
  a44 := Tryz.isAgg168
  z44 := Tryz.sizeOf168
  v44 := Tryz.zeroValue168
  t46 := Tryz.underlying170
  a46 := Tryz.isAgg170
  z46 := Tryz.sizeOf170
  v46 := Tryz.zeroValue170
  t53 := Tryz.underlying171
  a53 := Tryz.isAgg171
  z53 := Tryz.sizeOf171
  v53 := Tryz.zeroValue171
  t57 := Tryz.underlying175
  a57 := Tryz.isAgg175
  z57 := Tryz.sizeOf175
  v57 := Tryz.zeroValue175
  t63 := Tryz.underlying177
  a63 := Tryz.isAgg177
  z63 := Tryz.sizeOf177
  v63 := Tryz.zeroValue177
  t64 := Tryz.underlying178
  a64 := Tryz.isAgg178
  z64 := Tryz.sizeOf178
  v64 := Tryz.zeroValue178 }
def Tryz.sorted118_ren : Go.Shelf.Ren := ⟨fun | 6 => 118 | 8 => 130 | 9 => 131 | 11 => 137 | 13 => 139 | 12 => 138 | 23 => 149 | 24 => 150 | 14 => 140 | 15 => 141 | 16 => 142 | 17 => 143 | 18 => 144 | 19 => 145 | 20 => 146 | 21 => 147 | 22 => 148 | 25 => 151 | 26 => 152 | 27 => 153 | 28 => 154 | 29 => 155 | 30 => 156 | 31 => 157 | n => n, fun | 26 => 9 | 28 => 141 | 24 => 138 | 0 => 0 | 3 => 3 | 37 => 154 | 48 => 168 | 50 => 170 | 4 => 4 | 40 => 160 | 39 => 159 | 45 => 165 | 5 => 5 | 9 => 9 | 51 => 171 | 55 => 175 | 57 => 177 | 58 => 178 | 33 => 152 | n => n, fun | n => n⟩
theorem Tryz.sorted118 : Go.Proofs.SlLaysZ.n6 Tryz.prog Tryz.sorted118_ren := {
  mixed := by kernel_rfl
  f6 := ⟨Tryz.f118.name, by decide, Tryz.func118.trans (congrArg some (by kernel_rfl))⟩
  f8 := ⟨Tryz.f130.name, by decide, Tryz.func130.trans (congrArg some (by kernel_rfl))⟩
  f11 := ⟨Tryz.f137.name, by decide, Tryz.func137.trans (congrArg some (by kernel_rfl))⟩
  t0 := Tryz.underlying0
  a0 := Tryz.isAgg0
  z0 := Tryz.sizeOf0
  v0 := Tryz.zeroValue0
  t24 := Tryz.underlying138
  a24 := Tryz.isAgg138
  z24 := Tryz.sizeOf138
  v24 := Tryz.zeroValue138
  t26 := Tryz.underlying9
  a26 := Tryz.isAgg9
  z26 := Tryz.sizeOf9
  v26 := Tryz.zeroValue9
  t28 := Tryz.underlying141
  a28 := Tryz.isAgg141
  z28 := Tryz.sizeOf141
  v28 := Tryz.zeroValue141
  i26 := by kernel_rfl }
def Tryz.keys119_ren : Go.Shelf.Ren := ⟨fun | 7 => 119 | 10 => 132 | n => n, fun | 23 => 74 | 26 => 9 | 3 => 109 | 28 => 141 | 0 => 0 | 27 => 140 | 33 => 152 | 4 => 4 | n => n, fun | n => n⟩
theorem Tryz.keys119 : Go.Proofs.SlLaysZ.n7 Tryz.prog Tryz.keys119_ren := {
  mixed := by kernel_rfl
  f7 := ⟨Tryz.f119.name, by decide, Tryz.func119.trans (congrArg some (by kernel_rfl))⟩
  f10 := ⟨Tryz.f132.name, by decide, Tryz.func132.trans (congrArg some (by kernel_rfl))⟩
  t0 := Tryz.underlying0
  a0 := Tryz.isAgg0
  z0 := Tryz.sizeOf0
  v0 := Tryz.zeroValue0
  t4 := Tryz.underlying4
  a4 := Tryz.isAgg4
  z4 := Tryz.sizeOf4
  v4 := Tryz.zeroValue4
  t23 := Tryz.underlying74
  a23 := Tryz.isAgg74
  z23 := Tryz.sizeOf74
  v23 := Tryz.zeroValue74
  t26 := Tryz.underlying9
  a26 := Tryz.isAgg9
  z26 := Tryz.sizeOf9
  v26 := Tryz.zeroValue9
  t27 := Tryz.underlying140
  a27 := Tryz.isAgg140
  z27 := Tryz.sizeOf140
  v27 := Tryz.zeroValue140
  t28 := Tryz.underlying141
  a28 := Tryz.isAgg141
  z28 := Tryz.sizeOf141
  v28 := Tryz.zeroValue141
  t33 := Tryz.underlying152
  a33 := Tryz.isAgg152
  z33 := Tryz.sizeOf152
  v33 := Tryz.zeroValue152 }
def Tryz.keys121_ren : Go.Shelf.Ren := ⟨fun | 7 => 121 | 10 => 133 | n => n, fun | 23 => 108 | 26 => 9 | 3 => 42 | 28 => 141 | 0 => 0 | 27 => 140 | 33 => 152 | 4 => 4 | n => n, fun | n => n⟩
theorem Tryz.keys121 : Go.Proofs.SlLaysZ.n7 Tryz.prog Tryz.keys121_ren := {
  mixed := by kernel_rfl
  f7 := ⟨Tryz.f121.name, by decide, Tryz.func121.trans (congrArg some (by kernel_rfl))⟩
  f10 := ⟨Tryz.f133.name, by decide, Tryz.func133.trans (congrArg some (by kernel_rfl))⟩
  t0 := Tryz.underlying0
  a0 := Tryz.isAgg0
  z0 := Tryz.sizeOf0
  v0 := Tryz.zeroValue0
  t4 := Tryz.underlying4
  a4 := Tryz.isAgg4
  z4 := Tryz.sizeOf4
  v4 := Tryz.zeroValue4
  t23 := Tryz.underlying108
  a23 := Tryz.isAgg108
  z23 := Tryz.sizeOf108
  v23 := Tryz.zeroValue108
  t26 := Tryz.underlying9
  a26 := Tryz.isAgg9
  z26 := Tryz.sizeOf9
  v26 := Tryz.zeroValue9
  t27 := Tryz.underlying140
  a27 := Tryz.isAgg140
  z27 := Tryz.sizeOf140
  v27 := Tryz.zeroValue140
  t28 := Tryz.underlying141
  a28 := Tryz.isAgg141
  z28 := Tryz.sizeOf141
  v28 := Tryz.zeroValue141
  t33 := Tryz.underlying152
  a33 := Tryz.isAgg152
  z33 := Tryz.sizeOf152
  v33 := Tryz.zeroValue152 }
end Go.Proofs

namespace Go.Proofs.YtmnlhjdjjinbiaaGreat
open Go.RowKit

/-- n ends with all labels of z. -/
def endsWith (n z : List (List Int)) : Bool := decide (z.length ≤ n.length) && (cmpN (n.drop (n.length - z.length)) z == 0)
def under (n z : List (List Int)) : Bool := nameOk n && (nameOk z && endsWith n z)

theorem endsWith_no {n z : List (List Int)} (h : n.length < z.length) : endsWith n z = false := by
  unfold endsWith
  rw [decide_eq_false (by omega)]
  rfl
theorem endsWith_yes {n z : List (List Int)} (h : z.length ≤ n.length) : endsWith n z = (cmpN (n.drop (n.length - z.length)) z == 0) := by
  unfold endsWith
  rw [decide_eq_true h]
  rfl

theorem nameOk_drop {n : List (List Int)} (h : nameOk n = true) (k : Nat) : nameOk (n.drop k) = true := by
  obtain ⟨h1, h2⟩ := nameOk_parts h
  refine nameOk_yes (by simp; omega) fun j hj => ?_
  simp at hj
  have := h2 (k + j) (by omega)
  have e : (n.drop k).getD j [] = n.getD (k + j) [] := by simp [List.getD]
  rw [e]; exact this

theorem HasL.drop {w : World} {a : Option Addr} {m cap k : Nat} {n : List (List Int)} (h : HasL w (.slice a m cap) n) (hn : n.length = m) (hk : k ≤ m) :
    (a = none ∧ m = 0 ∧ cap = 0) ∨ ∃ g off, a = some ⟨g, off, none⟩ ∧ HasL w (.slice (if cap = k then some ⟨g, off, none⟩ else some ⟨g, off + k, none⟩) (m - k) (cap - k)) (n.drop k) := by
  subst hn
  rcases h with ⟨hv, rfl⟩ | ⟨g, off, cap', hv, hlt, hl, hm, hc⟩
  · simp only [Value.slice.injEq] at hv
    exact .inl ⟨hv.1, rfl, hv.2.2⟩
  · simp only [Value.slice.injEq, true_and] at hv
    obtain ⟨rfl, rfl⟩ := hv
    right
    refine ⟨g, off, rfl, ?_⟩
    have hlen : (n.drop k).length = n.length - k := by simp
    by_cases e : cap = k
    · rw [if_pos e]
      refine .inr ⟨g, off, cap - k, by rw [hlen], hlt, by rw [hlen]; omega, by omega, fun i hi => ?_⟩
      rw [hlen] at hi
      omega
    · rw [if_neg e]
      refine .inr ⟨g, off + k, cap - k, by rw [hlen], hlt, by rw [hlen]; omega, by omega, fun i hi => ?_⟩
      rw [hlen] at hi
      obtain ⟨u, h1, h2⟩ := hc (k + i) (by omega)
      refine ⟨u, by rw [Nat.add_assoc]; exact h1, ?_⟩
      have e2 : (n.drop k).getD i [] = n.getD (k + i) [] := by simp [List.getD]
      rw [e2]; exact h2

theorem HasL.drop_cases {w : World} {g off m cap k : Nat} {n : List (List Int)} (h : HasL w (.slice (if cap = k then some ⟨g, off, none⟩ else some ⟨g, off + k, none⟩) (m - k) (cap - k)) (n.drop k)) :
    (cap = k ∧ HasL w (.slice (some ⟨g, off, none⟩) (m - k) 0) (n.drop k)) ∨ (cap ≠ k ∧ HasL w (.slice (some ⟨g, off + k, none⟩) (m - k) (cap - k)) (n.drop k)) := by
  by_cases e : cap = k
  · rw [if_pos e, e, Nat.sub_self] at h
    exact .inl ⟨e, h⟩
  · rw [if_neg e] at h
    exact .inr ⟨e, h⟩
end Go.Proofs.YtmnlhjdjjinbiaaGreat

namespace Go.Proofs.YtmnlhjdjjinbiaaGreat
open Go.RowKit
set_option linter.unusedVariables false

section
variable {κ α β : Type} [DecidableEq κ] {Q : α → β → Prop}
theorem lookA_mem {k : κ} {v : β} : ∀ {l : List (κ × β)}, l.Pairwise (fun p q => p.1 ≠ q.1) → (k, v) ∈ l → lookA k l = some v
  | [], _, h => by simp at h
  | (a, u) :: t, hd, h => by
    obtain ⟨h1, h2⟩ := List.pairwise_cons.1 hd
    rcases List.mem_cons.1 h with h | h
    · cases h
      simp [lookA]
    · rw [lookA, if_neg (h1 _ h), lookA_mem h2 h]
theorem lookA_in {k : κ} {v : β} : ∀ {l : List (κ × β)}, lookA k l = some v → (k, v) ∈ l
  | [], h => by simp [lookA] at h
  | (a, u) :: t, h => by
    by_cases e : a = k
    · simp only [lookA, if_pos e, Option.some.injEq] at h
      rw [← e, ← h]
      exact List.mem_cons_self ..
    · simp only [lookA, if_neg e] at h
      exact List.mem_cons_of_mem _ (lookA_in h)
theorem two_mem {k : κ} {v : α} {l : List (κ × α)} {m : List (κ × β)} (h : Two (AtKeys κ Q) l m) (hA : l.Pairwise (fun p q => p.1 ≠ q.1)) (hm : (k, v) ∈ l) : ∃ u, lookA k m = some u ∧ Q v u := by
  have hl := lookA_mem hA hm
  rcases two_look (k := k) h with ⟨h1, _⟩ | ⟨v', u, h1, h2, h3, _⟩
  · rw [h1] at hl
    cases hl
  · rw [h1] at hl
    cases hl
    exact ⟨u, h2, h3⟩
omit [DecidableEq κ] in
theorem two_keys {l : List (κ × α)} {m : List (κ × β)} (h : Two (AtKeys κ Q) l m) (hA : l.Pairwise (fun p q => p.1 ≠ q.1)) : m.Pairwise (fun p q => p.1 ≠ q.1) := by
  induction h with
  | nil => exact List.Pairwise.nil
  | cons h1 h0 ih =>
    obtain ⟨p1, p2⟩ := List.pairwise_cons.1 hA
    refine List.pairwise_cons.2 ⟨fun q hq e => ?_, ih p2⟩
    obtain ⟨a, ha, h2⟩ := h0.right q hq
    exact p1 a ha (h1.1.trans (e.trans h2.1.symm))
end
def hasP (n : List (List Int)) (P : Pg) : Bool := P.any (fun x => under x.2.name n)
def hasB (n : List (List Int)) (B : Bk) : Bool := B.any (fun q => hasP n q.2)
theorem hasP_none {n : List (List Int)} {ps : List (ByteArray × Value)} {P : Pg} {Q : Value → Rec → Prop} (h : Two (AtKeys ByteArray Q) ps P) (hA : ps.Pairwise (fun p q => p.1 ≠ q.1)) (hn : ∀ q ∈ ps, ∀ u, lookA q.1 P = some u → under u.name n = false) : hasP n P = false := by
  unfold hasP
  rw [List.any_eq_false]
  intro x hx
  obtain ⟨a, ha, h1, _⟩ := h.right x hx
  rw [hn a ha x.2 (by rw [h1]; exact lookA_mem (two_keys h hA) hx)]
  simp
theorem hasP_some {n : List (List Int)} {P : Pg} {k : ByteArray} {u : Rec} (h : lookA k P = some u) (hu : under u.name n = true) : hasP n P = true := by
  unfold hasP
  rw [List.any_eq_true]
  exact ⟨_, lookA_in h, hu⟩
theorem hasB_none {n : List (List Int)} {ps : List (ByteArray × Value)} {B : Bk} {Q : Value → Pg → Prop} (h : Two (AtKeys ByteArray Q) ps B) (hA : ps.Pairwise (fun p q => p.1 ≠ q.1)) (hn : ∀ q ∈ ps, ∀ u, lookA q.1 B = some u → hasP n u = false) : hasB n B = false := by
  unfold hasB
  rw [List.any_eq_false]
  intro x hx
  obtain ⟨a, ha, h1, _⟩ := h.right x hx
  rw [hn a ha x.2 (by rw [h1]; exact lookA_mem (two_keys h hA) hx)]
  simp
theorem hasB_some {n : List (List Int)} {B : Bk} {k : ByteArray} {P : Pg} (h : lookA k B = some P) (hu : hasP n P = true) : hasB n B = true := by
  unfold hasB
  rw [List.any_eq_true]
  exact ⟨_, lookA_in h, hu⟩
end Go.Proofs.YtmnlhjdjjinbiaaGreat

namespace Go.Proofs.YtmnlhjdjjinbiaaGreat
open Go.RowKit
set_option linter.unusedVariables false

theorem mem_putA_other {κ α : Type} [DecidableEq κ] {k : κ} {v : α} : ∀ {l : List (κ × α)} {p : κ × α}, p ∈ l → p.1 ≠ k → p ∈ putA k v l
  | [], p, h, _ => by simp at h
  | (a, u) :: t, p, h, hk => by
    by_cases e : a = k
    · simp only [putA, if_pos e]
      rcases List.mem_cons.1 h with rfl | h
      · exact absurd e hk
      · exact List.mem_cons_of_mem _ h
    · simp only [putA, if_neg e]
      rcases List.mem_cons.1 h with rfl | h
      · exact List.mem_cons_self ..
      · exact List.mem_cons_of_mem _ (mem_putA_other h hk)
theorem mem_putA_self {κ α : Type} [DecidableEq κ] {k : κ} {v : α} {l : List (κ × α)} : (k, v) ∈ putA k v l := lookA_in lookA_put

/-- Texts of bytes that are one are of the same bytes. -/
theorem strOfNums_inj : ∀ {l m : List Int}, (∀ x ∈ l, 0 ≤ x ∧ x ≤ 255) → (∀ x ∈ m, 0 ≤ x ∧ x ≤ 255) → strOfNums l = strOfNums m → l = m := by
  intro l m hl hm h
  have h1 : l.map (fun n => UInt8.ofNat n.toNat) = m.map (fun n => UInt8.ofNat n.toNat) := by
    simp only [strOfNums, ByteArray.mk.injEq] at h
    simpa using h
  clear h
  induction l generalizing m with
  | nil =>
    cases m with
    | nil => rfl
    | cons b t => simp at h1
  | cons a t ih =>
    cases m with
    | nil => simp at h1
    | cons b s =>
      simp only [List.map_cons, List.cons.injEq] at h1
      have ha := hl a (List.mem_cons_self ..)
      have hb := hm b (List.mem_cons_self ..)
      have e : a.toNat = b.toNat := by
        have := congrArg UInt8.toNat h1.1
        simp only [UInt8.toNat_ofNat'] at this
        omega
      rw [show a = b by omega, ih (fun x hx => hl x (List.mem_cons_of_mem _ hx)) (fun x hx => hm x (List.mem_cons_of_mem _ hx)) h1.2]
theorem cut_zero : ∀ {l m A B : List Int}, (∀ x ∈ l, x ≠ 0) → (∀ x ∈ m, x ≠ 0) → l ++ 0 :: A = m ++ 0 :: B → l = m ∧ A = B
  | [], [], A, B, _, _, h => by simpa using h
  | [], b :: t, A, B, _, hm, h => by
    simp only [List.nil_append, List.cons_append, List.cons.injEq] at h
    exact absurd h.1.symm (hm b (List.mem_cons_self ..))
  | a :: t, [], A, B, hl, _, h => by
    simp only [List.nil_append, List.cons_append, List.cons.injEq] at h
    exact absurd h.1 (hl a (List.mem_cons_self ..))
  | a :: t, b :: s, A, B, hl, hm, h => by
    simp only [List.cons_append, List.cons.injEq] at h
    obtain ⟨h1, h2⟩ := cut_zero (fun x hx => hl x (List.mem_cons_of_mem _ hx)) (fun x hx => hm x (List.mem_cons_of_mem _ hx)) h.2
    rw [h.1, h1]
    exact ⟨rfl, h2⟩
theorem keyP_inj : ∀ {ls ms : List (List Int)}, (∀ l ∈ ls, ∀ x ∈ l, x ≠ 0) → (∀ l ∈ ms, ∀ x ∈ l, x ≠ 0) → keyP ls = keyP ms → ls = ms
  | [], [], _, _, _ => rfl
  | [], m :: t, _, _, h => by simp [keyP] at h
  | l :: t, [], _, _, h => by simp [keyP] at h
  | l :: t, m :: s, hl, hm, h => by
    simp only [keyP, List.flatMap_cons, List.append_assoc, List.singleton_append] at h
    obtain ⟨h1, h2⟩ := cut_zero (hl l (List.mem_cons_self ..)) (hm m (List.mem_cons_self ..)) h
    rw [h1, keyP_inj (fun x hx => hl x (List.mem_cons_of_mem _ hx)) (fun x hx => hm x (List.mem_cons_of_mem _ hx)) h2]
theorem sign_of {n : List (List Int)} (h : nameOk n = true) : ∀ l ∈ n, ∀ x ∈ l, 45 ≤ x ∧ x ≤ 122 := by
  intro l hl x hx
  obtain ⟨i, hi, rfl⟩ := List.getElem_of_mem hl
  have h1 := (nameOk_parts h).2 i hi
  rw [show n.getD i [] = n[i] by simp [hi]] at h1
  obtain ⟨j, hj, rfl⟩ := List.getElem_of_mem hx
  have h2 := (of_decide_eq_true h1).2.2 j hj
  rw [show n[i].getD j 0 = n[i][j] by simp [hj]] at h2
  have := of_decide_eq_true h2
  omega
theorem keyP_bytes {ls : List (List Int)} (h : ∀ l ∈ ls, ∀ x ∈ l, 45 ≤ x ∧ x ≤ 122) : ∀ x ∈ keyP ls, 0 ≤ x ∧ x ≤ 255 := by
  intro x hx
  obtain ⟨l, hl, hx⟩ := List.mem_flatMap.1 hx
  rcases List.mem_append.1 hx with hx | hx
  · have := h l hl x hx
    omega
  · simp at hx
    omega
/-- The keys of names that may be are one just if the names are. -/
theorem keyN_inj {n m : List (List Int)} (hn : nameOk n = true) (hm : nameOk m = true) (h : strOfNums (keyN n) = strOfNums (keyN m)) : n = m := by
  have r1 : ∀ l ∈ n.reverse, ∀ x ∈ l, 45 ≤ x ∧ x ≤ 122 := fun l hl => sign_of hn l (List.mem_reverse.1 hl)
  have r2 : ∀ l ∈ m.reverse, ∀ x ∈ l, 45 ≤ x ∧ x ≤ 122 := fun l hl => sign_of hm l (List.mem_reverse.1 hl)
  have e1 : keyP n.reverse = keyP m.reverse := strOfNums_inj (keyP_bytes r1) (keyP_bytes r2) h
  have e2 := keyP_inj (fun l hl x hx => by have := r1 l hl x hx; omega) (fun l hl x hx => by have := r2 l hl x hx; omega) e1
  exact List.reverse_inj.1 e2

/-- Each page's records have the name of its key. -/
def Named (B : Bk) : Prop := ∀ q ∈ B, ∀ x ∈ q.2, q.1 = strOfNums (keyN x.2.name) ∧ nameOk x.2.name = true
theorem page_of (kn : ByteArray) (B : Bk) {x : ByteArray × Rec} (hx : x ∈ (lookA kn B).getD []) : ∃ P, (kn, P) ∈ B ∧ x ∈ P := by
  cases h : lookA kn B with
  | none => rw [h] at hx; simp at hx
  | some P => rw [h] at hx; exact ⟨P, lookA_in h, hx⟩
theorem named_put {B : Bk} (h : Named B) {r : Rec} (hr : nameOk r.name = true) (kd : ByteArray) : Named (bkPut (strOfNums (keyN r.name)) kd r B) := by
  intro q hq x hx
  rcases mem_putA hq with rfl | hq
  · rcases mem_putA hx with rfl | hx
    · exact ⟨rfl, hr⟩
    · obtain ⟨P, h1, h2⟩ := page_of _ B hx
      exact h _ h1 x h2
  · exact h q hq x hx
theorem hasB_put {n : List (List Int)} {B : Bk} (h : Named B) {r : Rec} (hr : nameOk r.name = true) (kd : ByteArray) : hasB n (bkPut (strOfNums (keyN r.name)) kd r B) = (hasB n B || under r.name n) := by
  rw [Bool.eq_iff_iff, Bool.or_eq_true]
  unfold hasB hasP
  simp only [List.any_eq_true]
  constructor
  · rintro ⟨q, hq, x, hx, hu⟩
    rcases mem_putA hq with rfl | hq
    · rcases mem_putA hx with rfl | hx
      · exact .inr hu
      · obtain ⟨P, h1, h2⟩ := page_of _ B hx
        exact .inl ⟨_, h1, x, h2, hu⟩
    · exact .inl ⟨q, hq, x, hx, hu⟩
  · rintro (⟨q, hq, x, hx, hu⟩ | hu)
    · by_cases e : q.1 = strOfNums (keyN r.name)
      · obtain ⟨h1, h2⟩ := h q hq x hx
        have : x.2.name = r.name := keyN_inj h2 hr (h1.symm.trans e)
        rw [this] at hu
        exact ⟨_, mem_putA_self, _, mem_putA_self, hu⟩
      · exact ⟨q, mem_putA_other hq e, x, hx, hu⟩
    · exact ⟨_, mem_putA_self, _, mem_putA_self, hu⟩
end Go.Proofs.YtmnlhjdjjinbiaaGreat
