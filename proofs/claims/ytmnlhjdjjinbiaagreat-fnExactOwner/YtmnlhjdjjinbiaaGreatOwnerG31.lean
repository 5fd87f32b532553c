/-
  Plain facts: what Owner answers. No program is named here. The library functions that this program calls, by the contracts that lie compiled in the library, laid at this program by the shelf's own command in plain words. Contract of the program's allTell.
-/
import Derived.Test.YtmnlhjdjjinbiaaGreatOwnerG29
import Derived.Shelf.Bytes.SlSearch0
import Derived.Ground.SlgmProg
import Derived.Shelf.SortM.Plain
import Derived.Shelf.SortM.SortNone
import Derived.Shelf.Bytes.Small
import Derived.Test.YtmnlhjdjjinbiaaGreatProg
import Derived.Test.YtmnlhjdjjinbiaaGreatOwnerG03
import Derived.Test.YtmnlhjdjjinbiaaGreatOwnerG19
namespace Go.Proofs.YtmnlhjdjjinbiaaGreat
open Go.RowKit
set_option linter.unusedVariables false

/-- Two texts that are one. -/
def eqT (a b : List Int) : Bool := (strOfNums a).toList == (strOfNums b).toList
/-- All of these have id as Text, and there is one. -/
def allTell (l : List Rec) (id : List Int) : Bool := l.all (fun r => eqT r.text id) && !l.isEmpty
def ownerOf (o : List (List Int)) (rs : List Rec) (n : List (List Int)) (id : List Int) : Bool × Bool :=
  if zoneOk o rs = true ∧ nameOk n = true then ((selK n 255 rs rs.length).isEmpty, allTell (selK n 49 rs rs.length) id) else (false, false)
/-- Of the first k no sign is another's. -/
def noOther (l : List Rec) (id : List Int) (k : Nat) : Prop := ∀ i, i < k → (l.getD i recZ).type = 49 → eqT (l.getD i recZ).text id = true
/-- Is one of the first k a sign? -/
def sign1 (l : List Rec) : Nat → Bool
  | 0 => false
  | k + 1 => sign1 l k || decide ((l.getD k recZ).type = 49)
theorem sel49 (n : List (List Int)) (rs : List Rec) : selK n 49 rs rs.length = (selK n 255 rs rs.length).filter (fun r => decide (r.type = 49)) := by
  rw [selK_filter, selK_filter, List.filter_filter]
  refine List.filter_congr (fun r _ => ?_)
  unfold selB
  have e1 : ((49 : Int) == 255) = false := rfl
  have e2 : ((255 : Int) == 255) = true := rfl
  rw [e1, e2, Bool.false_or, Bool.true_or, Bool.and_true, Bool.and_comm]
  congr 1
theorem sign1_iff (l : List Rec) : ∀ k, k ≤ l.length → (sign1 l k = true ↔ ∃ i, i < k ∧ (l.getD i recZ).type = 49)
  | 0, _ => by simp [sign1]
  | k + 1, h => by
    rw [sign1, Bool.or_eq_true, sign1_iff l k (by omega), decide_eq_true_iff]
    constructor
    · rintro (⟨i, h1, h2⟩ | h1)
      · exact ⟨i, by omega, h2⟩
      · exact ⟨k, by omega, h1⟩
    · rintro ⟨i, h1, h2⟩
      by_cases hik : i = k
      · subst hik; exact .inr h2
      · exact .inl ⟨i, by omega, h2⟩
theorem getD_mem' {l : List Rec} {i : Nat} (h : i < l.length) : l.getD i recZ ∈ l := by
  rw [List.getD_eq_getElem?_getD, List.getElem?_eq_getElem h]
  exact List.getElem_mem h
theorem mem_getD' {l : List Rec} {r : Rec} (h : r ∈ l) : ∃ i, i < l.length ∧ l.getD i recZ = r := by
  obtain ⟨i, h1, h2⟩ := List.getElem_of_mem h
  exact ⟨i, h1, by rw [List.getD_eq_getElem?_getD, List.getElem?_eq_getElem h1]; exact h2⟩
/-- What the specification's loop comes to, where no sign is another's. -/
theorem tell_all {l : List Rec} {id : List Int} (h : noOther l id l.length) : allTell (l.filter (fun r => decide (r.type = 49))) id = sign1 l l.length := by
  have ha : (l.filter (fun r => decide (r.type = 49))).all (fun r => eqT r.text id) = true := by
    rw [List.all_eq_true]
    intro r hr
    obtain ⟨h1, h2⟩ := List.mem_filter.1 hr
    obtain ⟨i, hi, rfl⟩ := mem_getD' h1
    rw [decide_eq_true_iff] at h2
    exact h i hi h2
  unfold allTell
  rw [ha, Bool.true_and, Bool.eq_iff_iff, sign1_iff l _ (Nat.le_refl _), Bool.not_eq_true', List.isEmpty_eq_false_iff]
  constructor
  · intro hne
    obtain ⟨r, hr⟩ := List.exists_mem_of_ne_nil _ hne
    obtain ⟨h1, h2⟩ := List.mem_filter.1 hr
    obtain ⟨i, hi, rfl⟩ := mem_getD' h1
    exact ⟨i, hi, of_decide_eq_true h2⟩
  · rintro ⟨i, hi, h2⟩ he
    have : l.getD i recZ ∈ l.filter (fun r => decide (r.type = 49)) := List.mem_filter.2 ⟨getD_mem' hi, decide_eq_true h2⟩
    rw [he] at this
    cases this
/-- And where one is. -/
theorem tell_not {l : List Rec} {id : List Int} {i : Nat} (hi : i < l.length) (h1 : (l.getD i recZ).type = 49) (h2 : eqT (l.getD i recZ).text id = false) : allTell (l.filter (fun r => decide (r.type = 49))) id = false ∧ l.isEmpty = false := by
  constructor
  · unfold allTell
    rw [Bool.and_eq_false_iff]
    left
    rw [List.all_eq_false]
    exact ⟨_, List.mem_filter.2 ⟨getD_mem' hi, decide_eq_true h1⟩, by rw [h2]; exact Bool.false_ne_true⟩
  · cases l with
    | nil => simp at hi
    | cons => rfl
/-- The program's loop: all of the first k. -/
theorem all_of {l : List Rec} {id : List Int} (h : ∀ i, i < l.length → eqT (l.getD i recZ).text id = true) : allTell l id = decide (0 < l.length) := by
  unfold allTell
  have ha : l.all (fun r => eqT r.text id) = true := by
    rw [List.all_eq_true]
    intro r hr
    obtain ⟨i, hi, rfl⟩ := mem_getD' hr
    exact h i hi
  rw [ha, Bool.true_and]
  cases l <;> simp
theorem all_not {l : List Rec} {id : List Int} {i : Nat} (hi : i < l.length) (h : eqT (l.getD i recZ).text id = false) : allTell l id = false := by
  unfold allTell
  rw [Bool.and_eq_false_iff]
  left
  rw [List.all_eq_false]
  exact ⟨_, getD_mem' hi, by rw [h]; exact Bool.false_ne_true⟩
end Go.Proofs.YtmnlhjdjjinbiaaGreat

namespace Go.Proofs
open Go.Shelf
def Tryz.lays115_ren : Go.Shelf.Ren := ⟨fun | 115 => 107 | n => n, fun | 37 => 28 | 4 => 4 | 9 => 9 | 5 => 5 | n => n, fun | n => n⟩
theorem Tryz.lays115 : Go.Proofs.Lays.n115 Tryz.prog Tryz.lays115_ren := {
  mixed := by kernel_rfl
  f115 := Tryz.func107.trans (congrArg some (by kernel_rfl))
  t4 := Tryz.underlying4
  a4 := Tryz.isAgg4
  z4 := Tryz.sizeOf4
  v4 := Tryz.zeroValue4
  t9 := Tryz.underlying9
  a9 := Tryz.isAgg9
  z9 := Tryz.sizeOf9
  v9 := Tryz.zeroValue9
  t37 := Tryz.underlying28
  a37 := Tryz.isAgg28
  z37 := Tryz.sizeOf28
  v37 := Tryz.zeroValue28 }
open Go.Proofs Go.RowKit Go.Lib in
theorem Tryz.bytes_Equal_strs (v1 v2 : Value) (t1 t2 : ByteArray) (w : World) (h1 : (convert 28 9 v1).run Tryz.prog w = .ok (.string t1) w) (h2 : (convert 28 9 v2).run Tryz.prog w = .ok (.string t2) w) :
    Calls Tryz.prog 107 #[v1, v2] w fun e w' => e = .returned (.bool (t1.toList == t2.toList)) ∧ w' = w := Any.bytes_Equal_strs Tryz.lays115 v1 v2 t1 t2 w h1 h2
def Tryz.laysSlM6_f131_ren : Go.Shelf.Ren := ⟨fun | 6 => 131 | 8 => 139 | 9 => 138 | 19 => 149 | 20 => 150 | 21 => 140 | 22 => 141 | 23 => 142 | 24 => 143 | 25 => 144 | 26 => 145 | 27 => 146 | 28 => 147 | 29 => 148 | 36 => 151 | 31 => 152 | 32 => 153 | 37 => 154 | 38 => 155 | 39 => 156 | 41 => 157 | n => n, fun | 27 => 138 | 29 => 9 | 3 => 3 | 32 => 154 | 26 => 138 | 0 => 0 | 44 => 168 | 46 => 170 | 4 => 4 | 36 => 160 | 35 => 159 | 41 => 165 | 5 => 5 | 9 => 9 | 53 => 171 | 57 => 175 | 63 => 177 | 64 => 178 | n => n, fun | n => n⟩
theorem Tryz.laysSlM6_f131 : Go.Proofs.SlLaysM.n6 Tryz.prog Tryz.laysSlM6_f131_ren := {
  mixed := by kernel_rfl
  f6 := ⟨Tryz.f131.name, by decide, Tryz.func131.trans (congrArg some (by kernel_rfl))⟩
  f8 := Tryz.func139.trans (congrArg some (by kernel_rfl))
  f9 := ⟨Tryz.f138.name, by decide, Tryz.func138.trans (congrArg some (by kernel_rfl))⟩
  f19 := Tryz.func149.trans (congrArg some (by kernel_rfl))
  f20 := Tryz.func150.trans (congrArg some (by kernel_rfl))
  f21 := ⟨Tryz.f140.name, by decide, Tryz.func140.trans (congrArg some (by kernel_rfl))⟩
  f22 := ⟨Tryz.f141.name, by decide, Tryz.func141.trans (congrArg some (by kernel_rfl))⟩
  f23 := ⟨Tryz.f142.name, by decide, Tryz.func142.trans (congrArg some (by kernel_rfl))⟩
  f24 := ⟨Tryz.f143.name, by decide, Tryz.func143.trans (congrArg some (by kernel_rfl))⟩
  f25 := ⟨Tryz.f144.name, by decide, Tryz.func144.trans (congrArg some (by kernel_rfl))⟩
  f26 := ⟨Tryz.f145.name, by decide, Tryz.func145.trans (congrArg some (by kernel_rfl))⟩
  f27 := ⟨Tryz.f146.name, by decide, Tryz.func146.trans (congrArg some (by kernel_rfl))⟩
  f28 := ⟨Tryz.f147.name, by decide, Tryz.func147.trans (congrArg some (by kernel_rfl))⟩
  f29 := ⟨Tryz.f148.name, by decide, Tryz.func148.trans (congrArg some (by kernel_rfl))⟩
  f31 := Tryz.func152.trans (congrArg some (by kernel_rfl))
  f32 := Tryz.func153.trans (congrArg some (by kernel_rfl))
  f36 := ⟨Tryz.f151.name, by decide, Tryz.func151.trans (congrArg some (by kernel_rfl))⟩
  f37 := ⟨Tryz.f154.name, by decide, Tryz.func154.trans (congrArg some (by kernel_rfl))⟩
  f38 := ⟨Tryz.f155.name, by decide, Tryz.func155.trans (congrArg some (by kernel_rfl))⟩
  f39 := ⟨Tryz.f156.name, by decide, Tryz.func156.trans (congrArg some (by kernel_rfl))⟩
  f41 := ⟨Tryz.f157.name, by decide, Tryz.func157.trans (congrArg some (by kernel_rfl))⟩
  t0 := Tryz.underlying0
  a0 := Tryz.isAgg0
  z0 := Tryz.sizeOf0
  v0 := Tryz.zeroValue0
  t3 := Tryz.underlying3
  a3 := Tryz.isAgg3
  z3 := Tryz.sizeOf3
  v3 := Tryz.zeroValue3
  t4 := Tryz.underlying4
  a4 := Tryz.isAgg4
  z4 := Tryz.sizeOf4
  v4 := Tryz.zeroValue4
  t5 := Tryz.underlying5
  a5 := Tryz.isAgg5
  z5 := Tryz.sizeOf5
  v5 := Tryz.zeroValue5
  t9 := Tryz.underlying9
  a9 := Tryz.isAgg9
  z9 := Tryz.sizeOf9
  v9 := Tryz.zeroValue9
  t26 := Tryz.underlying138
  a26 := Tryz.isAgg138
  z26 := Tryz.sizeOf138
  v26 := Tryz.zeroValue138
  t27 := Tryz.underlying138
  a27 := Tryz.isAgg138
  z27 := Tryz.sizeOf138
  v27 := Tryz.zeroValue138
  t29 := Tryz.underlying9
  a29 := Tryz.isAgg9
  z29 := Tryz.sizeOf9
  v29 := Tryz.zeroValue9
  t32 := Tryz.underlying154
  a32 := Tryz.isAgg154
  z32 := Tryz.sizeOf154
  v32 := Tryz.zeroValue154
  t35 := Tryz.underlying159
  a35 := Tryz.isAgg159
  z35 := Tryz.sizeOf159
  v35 := Tryz.zeroValue159
  t36 := Tryz.underlying160
  a36 := Tryz.isAgg160
  z36 := Tryz.sizeOf160
  v36 := Tryz.zeroValue160
  t41 := Tryz.underlying165
  a41 := Tryz.isAgg165
  z41 := Tryz.sizeOf165
  v41 := Tryz.zeroValue165
  t44 := Tryz.underlying168
  a44 := Tryz.isAgg168
  z44 := Tryz.sizeOf168
  v44 := Tryz.zeroValue168
  t46 := Tryz.underlying170
  a46 := Tryz.isAgg170
  z46 := Tryz.sizeOf170
  v46 := Tryz.zeroValue170
  t53 := Tryz.underlying171
  a53 := Tryz.isAgg171
  z53 := Tryz.sizeOf171
  v53 := Tryz.zeroValue171
  t57 := Tryz.underlying175
  a57 := Tryz.isAgg175
  z57 := Tryz.sizeOf175
  v57 := Tryz.zeroValue175
  t63 := Tryz.underlying177
  a63 := Tryz.isAgg177
  z63 := Tryz.sizeOf177
  v63 := Tryz.zeroValue177
  t64 := Tryz.underlying178
  a64 := Tryz.isAgg178
  z64 := Tryz.sizeOf178
  v64 := Tryz.zeroValue178 }
open Go.Sort Go.RowKit in
theorem Tryz.slices_Sort_string (blk off cap : Nat) (ss : List (List UInt8)) (w : World) (hH : Holds encStr w blk off ss.toArray) (hblk : blk < w.heap.size) (hsz : ss.length < 4611686018427387904) :
    Calls Tryz.prog 131 #[.slice (some ⟨blk, off, none⟩) ss.length cap] w fun e w' =>
      e = .returned (.tuple #[]) ∧ ∃ n os, w' = grow (putRow encStr (Sort.ahead w n) blk off (ss.mergeSort fun x y => decide (x ≤ y)).toArray) os := AnyM.slices_Sort_string Tryz.laysSlM6_f131 blk off cap ss w hH hblk hsz
open Go.RowKit Go.Sort in
theorem Tryz.slices_Sort_string_none (p : Option Addr) (cap : Nat) (w : World) :
    Calls Tryz.prog 131 #[.slice p 0 cap] w fun e w' => e = .returned (.tuple #[]) ∧ w' = w := AnyM.slices_Sort_string_none Tryz.laysSlM6_f131 p cap w
theorem Tryz.bytes_Equal (v1 v2 : Value) (xs ys : List Int) (w : World) (h1 : (convert 28 9 v1).run Tryz.prog w = .ok (.string (strOfNums xs)) w) (h2 : (convert 28 9 v2).run Tryz.prog w = .ok (.string (strOfNums ys)) w) :
    Calls Tryz.prog 107 #[v1, v2] w fun e w' => e = .returned (.bool (Lib.bytesOf xs == Lib.bytesOf ys)) ∧ w' = w := Any.bytes_Equal Tryz.lays115 v1 v2 xs ys w h1 h2
end Go.Proofs

namespace Go.Proofs.YtmnlhjdjjinbiaaGreat
open Go.RowKit
set_option linter.unusedVariables false

set_option maxHeartbeats 2000000 in
set_option maxRecDepth 100000 in
theorem allTell_has {v vi : Value} {l : List Rec} {id : List Int} {w : World} (h : HasRs w v l) (hi : Has w vi id) (h60 : l.length ≤ 1048576) :
    Calls Tryz.prog 74 #[v, vi] w fun e w' => e = .returned (.bool (allTell l id)) ∧ Below w.heap.size w w' := by
  obtain ⟨a, cap, rfl, _⟩ := h.form
  obtain ⟨ia', icap, rfl, _⟩ := hi.form
  generalize hm : l.length = m at *
  have HM := hide hm
  have H := hide h
  have HI := hide hi
  clear hm h hi
  generalize hR : allTell l id = R
  have HR := hide hR
  clear hR
  go_enter Tryz.func74, Tryz.ntmps74
  go_wp2_with fail
  go_loopw [9] (fun i wr => ∃ k : Nat, k ≤ m ∧ i = .int .i64 k ∧ (∀ j, j < k → eqT (l.getD j recZ).text id = true) ∧ Below w.heap.size w wr) (fun i _ => m - (intOf i).toNat)
  case atStart => exact ⟨0, Nat.zero_le _, rfl, fun j hj => absurd hj (Nat.not_lt_zero _), Below.refl _ _⟩
  case round =>
    obtain ⟨k, hk, rfl, hall, hbw⟩ := hrel
    have HALL := hide hall
    clear hall
    by_cases hlt : k < m
    · have hkm : (k : Int) < m := by omega
      obtain ⟨g, off, na, nc, ta, tc, xa, xc, ia, ic, rfl, hbl, hc, hu⟩ := ((unhide H).below hbw).here (k := k) (by rw [unhide HM]; exact hlt)
      generalize hrk : l.getD k recZ = rk at *
      have HRK := hide hrk
      obtain ⟨c0, c1, c2, c3, c4, c5, c6⟩ := range7 hc
      have b1 := below_alloc (w := wr) (.cells #[.slice na rk.name.length nc, .int .i64 rk.type, .int .i64 rk.ttl, .int .i64 rk.addr, .slice ta rk.to.length tc, .slice xa rk.text.length xc, .slice ia rk.nums.length ic] 42)
      have EQ := Tryz.bytes_Equal_strs _ _ _ _ _ (conv_has (hu.text.below b1)) (conv_has (((unhide HI).below hbw).below b1))
      cases hz : eqT rk.text id with
      | true =>
        rw [show ((strOfNums rk.text).toList == (strOfNums id).toList) = true from hz] at EQ
        replace EQ := hide EQ
        have B1 := hide b1
        clear hu hc hrk b1
        go_wp2_with fail
        refine (unhide EQ).mono ?_
        rintro e w2 ⟨rfl, rfl⟩
        clear c0 c1 c2 c3 c4 c5 c6
        go_wp2_with fail
        go_roundw
        case rel => exact ⟨k + 1, by omega, by go_num, fun j hj => by
          by_cases hjk : j = k
          · rw [hjk, unhide HRK]; exact hz
          · exact unhide HALL j (by omega), below_next hbw (unhide B1)⟩
        case measure => simp [intOf]; omega
      | false =>
        rw [show ((strOfNums rk.text).toList == (strOfNums id).toList) = false from hz] at EQ
        replace EQ := hide EQ
        have B1 := hide b1
        clear hu hc hrk b1
        go_wp2_with fail
        refine (unhide EQ).mono ?_
        rintro e w2 ⟨rfl, rfl⟩
        clear c0 c1 c2 c3 c4 c5 c6
        go_wp2_with fail
        go_ret
        have hr : R = false := by rw [← unhide HR, all_not (i := k) (by rw [unhide HM]; exact hlt) (by rw [unhide HRK]; exact hz)]
        rw [hr]
        exact ⟨rfl, below_next hbw (unhide B1)⟩
    · obtain rfl : k = m := by omega
      have hr : R = decide (0 < k) := by rw [← unhide HR, all_of (fun i hi' => unhide HALL i (by rw [unhide HM] at hi'; exact hi')), unhide HM]
      by_cases h0 : 0 < k
      · have hkp : (0 : Int) < k := by omega
        rw [decide_eq_true h0] at hr
        subst hr
        go_wp2_with fail
        go_ret
        exact ⟨rfl, hbw⟩
      · obtain rfl : k = 0 := by omega
        rw [decide_eq_false h0] at hr
        subst hr
        go_wp2_with fail
        go_ret
        exact ⟨rfl, hbw⟩
end Go.Proofs.YtmnlhjdjjinbiaaGreat
