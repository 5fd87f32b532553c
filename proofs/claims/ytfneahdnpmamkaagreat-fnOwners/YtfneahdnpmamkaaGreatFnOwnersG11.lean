/-
  Contracts of the specification's draws of chapter 1: l1Once, l1PickInt, l1some. Contract of the specification's l1some: a few drawn bytes. Contracts of the specification's l2draw: one of twelve names. Plain facts: lists of numbers as bytes, for the library's contract on bytes.Join. No program is named here. Plain facts: what is known of a drawn record: its text are bytes; if it isn't bent, it may be. Contracts of the specification's l3named, l3texted, l3data and RrOk.
-/
import Derived.Test.YtfneahdnpmamkaaGreatFnOwnersG10
import Derived.Lib.SlParts
import Derived.Lib.SlFresh
import Derived.Lib.Join
namespace Go.Proofs.YtfneahdnpmamkaaGreat
open Go.RowKit
set_option linter.unusedVariables false

set_option maxHeartbeats 400000 in
set_option maxRecDepth 100000 in
theorem Eg {g : Nat} {a : Option Addr} {len cap : Nat} {w : World} (n : Int) (hc : Cur w g a len cap) (hL : Code w g a len) (hm : len ≤ maxLen) (hn0 : 1 ≤ n) (hn1 : n ≤ 1099511627776) :
  Calls Tryz.prog 15 #[.pointer (some ⟨g, 0, none⟩), .int .i64 n] w fun e w' => ∃ x : Bool, e = .returned (.bool x) ∧ Cur w' g a len cap ∧ w.grownBy w' (some g) := by
 have HM := UC hm
 clear hm
 go_enter Tryz.func15, Tryz.ntmps15
 go_wp2_with fail
 refine (A9 n hc hL (UB HM) hn0 hn1).mono ?_
 rintro e w1 ⟨x, rfl, hx0, hx1, hc1, g1⟩
 go_wp2
 go_ret
 exact ⟨_, rfl, hc1, g1⟩
set_option maxHeartbeats 1000000 in
set_option maxRecDepth 100000 in
theorem Ub {g : Nat} {a : Option Addr} {len cap : Nat} {w : World} (most : Int) (hc : Cur w g a len cap) (hL : Code w g a len) (hm : len ≤ maxLen) (hn0 : 1 ≤ most) (hn1 : most ≤ 1048576) :
  Calls Tryz.prog 87 #[.pointer (some ⟨g, 0, none⟩), .int .i64 most] w fun e w' => ∃ v l, e = .returned v ∧ Own w.heap.size 5 w' v l ∧ (l.length : Int) < most ∧ (∀ x ∈ l, 0 ≤ x ∧ x ≤ 255) ∧ Cur w' g a len cap ∧ w.grownBy w' (some g) := by
 have HM := UC hm
 clear hm
 have hgw := hc.lt
 go_enter Tryz.func87, Tryz.ntmps87
 go_wp2_with fail
 refine (A9 most hc hL (UB HM) hn0 (by omega)).mono ?_
 rintro e w1 ⟨x, rfl, hx0, hx1, hc1, g1⟩
 have hL1 := hL.grown g1
 have HC1 := UC hc1
 clear hc1 hc hL
 obtain ⟨n, rfl⟩ := Int.eq_ofNat_of_zero_le hx0
 go_wp2
 go_loopw [5, 7] (fun b i wr => ∃ (k : Nat) (l : List Int), k ≤ n ∧ i = .int .i64 k ∧ l.length = k ∧ (∀ x ∈ l, 0 ≤ x ∧ x ≤ 255) ∧ Own w.heap.size 5 wr b l ∧ Hid (Cur wr g a len cap) ∧ Code wr g a len ∧ w.grownBy wr (some g)) (fun _ i _ => n - (intOf i).toNat)
 case atStart => exact ⟨0, [], Nat.zero_le _, rfl, rfl, by simp, World.ownsRow_nil _ _ _ _, HC1, hL1, g1⟩
 case round =>
  obtain ⟨k, l, hk, rfl, hlk, hlb, ho, hcr, hLr, gr⟩ := hrel
  have HLK := UC hlk
  clear hlk
  have HLB := UC hlb
  clear hlb
  have hsz := gr.size
  by_cases hlt : k < n
  ·go_wp2_with fail
   refine (Eo (UB hcr) hLr (UB HM)).mono ?_
   rintro e w2 ⟨y, rfl, hy0, hy1, hc2, g2⟩
   have hL2 := hLr.grown g2
   have o2 : Own w.heap.size 5 w2 u5 l := ho.kept g2 (by
    cases hv : u5.ownBlock with
    | none => exact .inl rfl
    | some j => right; intro e; have := (ho.lt j hv).1; simp at e; omega)
   have gr2 := Ad gr g2
   have z2 := gr2.size
   have HC2 := UC hc2
   clear hc2 g2 hLr ho gr
   go_wp2_with (at_builtin; refine Aq rfl _ _ 22 5 rfl Tryz.underlying22 VJ w.heap.size u5 _ l [y] rfl rfl (o2.alloc _) (B4 w2 0 5 [y] (Nat.zero_le _) (by simp [maxLen])).reads (by rw [UB HLK]; simp; omega) (by simp; omega) ?_)
   intro v3 w3 o3 g3
   have hrow : ∀ j, u5.ownBlock = some j → w.heap.size ≤ j := fun j e => (o2.lt j e).1
   have g23 := Au w2 (.cells #[.int .u8 y] 5) none
   have c3 := UC (((UB HC2).later g23 (by simp)).later g3 (fun j e => by have := hrow j e; omega))
   have l3 := (hL2.later g23 (by simp)).later g3 (fun j e => by have := hrow j e; omega)
   have gr3 := Ae (Ae gr2 g23 (by simp)) g3 hrow
   clear g3 g23
   go_wp2
   refine ⟨⟨k + 1, l ++ [y], by omega, by go_num, by rw [List.length_append, UB HLK]; rfl, ?_, o3, c3, l3, gr3⟩, by simp [intOf]; omega⟩
   intro x hx
   simp at hx
   rcases hx with hx | rfl
   ·exact UB HLB x hx
   ·exact ⟨hy0, hy1⟩
  ·go_wp2
   go_ret
   exact ⟨_, l, rfl, ho, by rw [UB HLK]; omega, UB HLB, UB hcr, gr⟩
def Bm : List ByteArray := [⟨#[46]⟩, ⟨#[104, 111, 109, 101, 46]⟩, ⟨#[112, 99, 46, 104, 111, 109, 101, 46]⟩, ⟨#[116, 118, 46, 104, 111, 109, 101, 46]⟩, ⟨#[97, 46, 112, 99, 46, 104, 111, 109, 101, 46]⟩, ⟨#[99, 111, 109, 46]⟩, ⟨#[120, 46, 99, 111, 109, 46]⟩, ⟨#[119, 119, 119, 46, 120, 46, 99, 111, 109, 46]⟩, ⟨#[110, 115, 46, 99, 111, 109, 46]⟩, ⟨#[51, 46, 48, 46, 48, 46, 49, 48, 46, 105, 110, 45, 97, 100, 100, 114, 46, 97, 114, 112, 97, 46]⟩, ⟨#[115, 117, 98, 46, 104, 111, 109, 101, 46]⟩, ⟨#[121, 46, 115, 117, 98, 46, 104, 111, 109, 101, 46]⟩]
theorem Th : ∀ s ∈ Bm, s.size ≤ 1048576 := by decide +kernel
def Um (n : List (List Int)) : Prop := ∃ s ∈ Bm, n = (A3 (Bz s)).1
theorem Vd {w : World} {b : Nat} {t : TypeId} (h : w.heap[b]? = some (.cells #[.string ⟨#[46]⟩, .string ⟨#[104, 111, 109, 101, 46]⟩, .string ⟨#[112, 99, 46, 104, 111, 109, 101, 46]⟩, .string ⟨#[116, 118, 46, 104, 111, 109, 101, 46]⟩, .string ⟨#[97, 46, 112, 99, 46, 104, 111, 109, 101, 46]⟩, .string ⟨#[99, 111, 109, 46]⟩, .string ⟨#[120, 46, 99, 111, 109, 46]⟩, .string ⟨#[119, 119, 119, 46, 120, 46, 99, 111, 109, 46]⟩, .string ⟨#[110, 115, 46, 99, 111, 109, 46]⟩, .string ⟨#[51, 46, 48, 46, 48, 46, 49, 48, 46, 105, 110, 45, 97, 100, 100, 114, 46, 97, 114, 112, 97, 46]⟩, .string ⟨#[115, 117, 98, 46, 104, 111, 109, 101, 46]⟩, .string ⟨#[121, 46, 115, 117, 98, 46, 104, 111, 109, 101, 46]⟩] t)) {k : Nat} (hk : k < 12) : ∃ s ∈ Bm, w.cell? ⟨b, k, none⟩ = some (.string s) := by
 have hc := VE h k
 match k, hk with
 | 0, _ => exact ⟨⟨#[46]⟩, by simp [Bm], hc⟩
 | 1, _ => exact ⟨⟨#[104, 111, 109, 101, 46]⟩, by simp [Bm], hc⟩
 | 2, _ => exact ⟨⟨#[112, 99, 46, 104, 111, 109, 101, 46]⟩, by simp [Bm], hc⟩
 | 3, _ => exact ⟨⟨#[116, 118, 46, 104, 111, 109, 101, 46]⟩, by simp [Bm], hc⟩
 | 4, _ => exact ⟨⟨#[97, 46, 112, 99, 46, 104, 111, 109, 101, 46]⟩, by simp [Bm], hc⟩
 | 5, _ => exact ⟨⟨#[99, 111, 109, 46]⟩, by simp [Bm], hc⟩
 | 6, _ => exact ⟨⟨#[120, 46, 99, 111, 109, 46]⟩, by simp [Bm], hc⟩
 | 7, _ => exact ⟨⟨#[119, 119, 119, 46, 120, 46, 99, 111, 109, 46]⟩, by simp [Bm], hc⟩
 | 8, _ => exact ⟨⟨#[110, 115, 46, 99, 111, 109, 46]⟩, by simp [Bm], hc⟩
 | 9, _ => exact ⟨⟨#[51, 46, 48, 46, 48, 46, 49, 48, 46, 105, 110, 45, 97, 100, 100, 114, 46, 97, 114, 112, 97, 46]⟩, by simp [Bm], hc⟩
 | 10, _ => exact ⟨⟨#[115, 117, 98, 46, 104, 111, 109, 101, 46]⟩, by simp [Bm], hc⟩
 | 11, _ => exact ⟨⟨#[121, 46, 115, 117, 98, 46, 104, 111, 109, 101, 46]⟩, by simp [Bm], hc⟩

set_option maxHeartbeats 2000000 in
set_option maxRecDepth 100000 in
theorem He {g : Nat} {a : Option Addr} {len cap : Nat} {w : World} (hc : Cur w g a len cap) (hL : Code w g a len) (hm : len ≤ maxLen) :
  Calls Tryz.prog 61 #[.pointer (some ⟨g, 0, none⟩)] w fun e w' => ∃ v' n, e = .returned (.agg #[v']) ∧ Um n ∧ OwnL w.heap.size 22 5 w' v' n ∧ Cur w' g a len cap ∧ w.grownBy w' (some g) := by
 have hg := hc.lt
 obtain ⟨hsz, k0, r0⟩ := box2 w (.cells #[.slice none 0 0] 25) #[.string ⟨#[46]⟩, .string ⟨#[104, 111, 109, 101, 46]⟩, .string ⟨#[112, 99, 46, 104, 111, 109, 101, 46]⟩, .string ⟨#[116, 118, 46, 104, 111, 109, 101, 46]⟩, .string ⟨#[97, 46, 112, 99, 46, 104, 111, 109, 101, 46]⟩, .string ⟨#[99, 111, 109, 46]⟩, .string ⟨#[120, 46, 99, 111, 109, 46]⟩, .string ⟨#[119, 119, 119, 46, 120, 46, 99, 111, 109, 46]⟩, .string ⟨#[110, 115, 46, 99, 111, 109, 46]⟩, .string ⟨#[51, 46, 48, 46, 48, 46, 49, 48, 46, 105, 110, 45, 97, 100, 100, 114, 46, 97, 114, 112, 97, 46]⟩, .string ⟨#[115, 117, 98, 46, 104, 111, 109, 101, 46]⟩, .string ⟨#[121, 46, 115, 117, 98, 46, 104, 111, 109, 101, 46]⟩] 9
 have g0 : w.grownBy ((w.alloc (.cells #[.slice none 0 0] 25)).alloc (.cells #[.string ⟨#[46]⟩, .string ⟨#[104, 111, 109, 101, 46]⟩, .string ⟨#[112, 99, 46, 104, 111, 109, 101, 46]⟩, .string ⟨#[116, 118, 46, 104, 111, 109, 101, 46]⟩, .string ⟨#[97, 46, 112, 99, 46, 104, 111, 109, 101, 46]⟩, .string ⟨#[99, 111, 109, 46]⟩, .string ⟨#[120, 46, 99, 111, 109, 46]⟩, .string ⟨#[119, 119, 119, 46, 120, 46, 99, 111, 109, 46]⟩, .string ⟨#[110, 115, 46, 99, 111, 109, 46]⟩, .string ⟨#[51, 46, 48, 46, 48, 46, 49, 48, 46, 105, 110, 45, 97, 100, 100, 114, 46, 97, 114, 112, 97, 46]⟩, .string ⟨#[115, 117, 98, 46, 104, 111, 109, 101, 46]⟩, .string ⟨#[121, 46, 115, 117, 98, 46, 104, 111, 109, 101, 46]⟩] 9)) (some g) := Ae (Ae (row := some g) ⟨rfl, rfl, rfl, Nat.le_refl _, fun _ _ _ => rfl⟩ (Au w (.cells #[.slice none 0 0] 25) none) (fun j e => by cases e)) (Au _ _ none) (fun j e => by cases e)
 have hc0 := hc.later (Ae (Ae (row := none) ⟨rfl, rfl, rfl, Nat.le_refl _, fun _ _ _ => rfl⟩ (Au w (.cells #[.slice none 0 0] 25) none) (fun j e => by cases e)) (Au _ (.cells #[.string ⟨#[46]⟩, .string ⟨#[104, 111, 109, 101, 46]⟩, .string ⟨#[112, 99, 46, 104, 111, 109, 101, 46]⟩, .string ⟨#[116, 118, 46, 104, 111, 109, 101, 46]⟩, .string ⟨#[97, 46, 112, 99, 46, 104, 111, 109, 101, 46]⟩, .string ⟨#[99, 111, 109, 46]⟩, .string ⟨#[120, 46, 99, 111, 109, 46]⟩, .string ⟨#[119, 119, 119, 46, 120, 46, 99, 111, 109, 46]⟩, .string ⟨#[110, 115, 46, 99, 111, 109, 46]⟩, .string ⟨#[51, 46, 48, 46, 48, 46, 49, 48, 46, 105, 110, 45, 97, 100, 100, 114, 46, 97, 114, 112, 97, 46]⟩, .string ⟨#[115, 117, 98, 46, 104, 111, 109, 101, 46]⟩, .string ⟨#[121, 46, 115, 117, 98, 46, 104, 111, 109, 101, 46]⟩] 9) none) (fun j e => by cases e)) (fun j e => by cases e)
 have hL0 := hL.later g0 (fun j e => by cases e; exact Nat.le_refl _)
 have HB := UC (A9 12 hc0 hL0 hm (by omega) (by omega))
 have K0 := UC k0
 have R0 := UC r0
 have G0 := UC g0
 clear hc hL k0 r0 g0 hc0 hL0
 go_enter Tryz.func61, Tryz.ntmps61
 go_wp2_with fail
 generalize (w.alloc (.cells #[.slice none 0 0] 25)).alloc (.cells #[.string ⟨#[46]⟩, .string ⟨#[104, 111, 109, 101, 46]⟩, .string ⟨#[112, 99, 46, 104, 111, 109, 101, 46]⟩, .string ⟨#[116, 118, 46, 104, 111, 109, 101, 46]⟩, .string ⟨#[97, 46, 112, 99, 46, 104, 111, 109, 101, 46]⟩, .string ⟨#[99, 111, 109, 46]⟩, .string ⟨#[120, 46, 99, 111, 109, 46]⟩, .string ⟨#[119, 119, 119, 46, 120, 46, 99, 111, 109, 46]⟩, .string ⟨#[110, 115, 46, 99, 111, 109, 46]⟩, .string ⟨#[51, 46, 48, 46, 48, 46, 49, 48, 46, 105, 110, 45, 97, 100, 100, 114, 46, 97, 114, 112, 97, 46]⟩, .string ⟨#[115, 117, 98, 46, 104, 111, 109, 101, 46]⟩, .string ⟨#[121, 46, 115, 117, 98, 46, 104, 111, 109, 101, 46]⟩] 9) = W at *
 refine (UB HB).mono ?_
 rintro e w1 ⟨x, rfl, hx0, hx1, hc1, g1⟩
 obtain ⟨k, rfl⟩ := Int.eq_ofNat_of_zero_le hx0
 have hk : k < 12 := by omega
 have hk' : (k : Int) < 12 := by omega
 have K1 := UC (Aa g1 (UB K0) (by simp; omega))
 obtain ⟨s, hs, cs⟩ := Vd (Aa g1 (UB R0) (by simp; omega)) hk
 have HS := UC hs
 have HO := UC (Gr s w1 (Th s hs))
 have G1 := UC g1
 have C1 := UC hc1
 have z1 := g1.size
 have zk := VC (UB K1)
 clear hs HB K0 R0 g1 hc1
 go_wp2_with fail
 refine (UB HO).mono ?_
 rintro e w2 ⟨v2, rfl, o2, b2⟩
 obtain ⟨oa, oc, rfl, _⟩ := o2.hasL.form
 have k2 := UE b2 (UB K1)
 have c2 := US k2
 have f2 := VG k2 0
 generalize hR : (A3 (Bz s)).1 = R at *
 have K2 := UC (Av k2 (.slice oa R.length oc))
 have O2 := UC o2
 have B2 := UC b2
 have HRR := UC hR
 clear o2 b2 k2 K1 HO hR
 go_wp2_with fail
 refine bodyPost_ret (results_cell_row rfl _ _ w.heap.size 25 #[.slice oa R.length oc] (0, 0) _ rfl (UB K2) Tryz.underlying25 rfl (by kernel_rfl)) rfl ?_
 have gA : w.grownBy w1 (some g) := ⟨(UB G1).os.trans (UB G0).os, (UB G1).tape.trans (UB G0).tape, (UB G1).output.trans (UB G0).output, by have := (UB G0).size; omega, fun i hi hn => ((UB G1).block i (by have := (UB G0).size; omega) hn).trans ((UB G0).block i hi hn)⟩
 have zw := (UB G0).size
 have g2 : w1.grownBy (w2.setCell ⟨w.heap.size, 0, none⟩ (.slice oa R.length oc)) (some w.heap.size) := ⟨(Ab w2 _ _).os.trans (UB B2).os, (Ab w2 _ _).tape.trans (UB B2).tape, (Ab w2 _ _).output.trans (UB B2).output, Nat.le_trans (UB B2).size (Ab w2 _ _).size, fun i hi hn => ((Ab w2 ⟨w.heap.size, 0, none⟩ (.slice oa R.length oc)).block i (Nat.lt_of_lt_of_le hi (UB B2).size) (by simpa using hn)).trans ((UB B2).block i hi)⟩
 exact ⟨_, R, rfl, ⟨s, UB HS, (UB HRR).symm⟩, ((UB O2).kept (Ab _ _ _) (by show w.heap.size < _; omega)).mono (by omega), (UB C1).later g2 (fun j e => by cases e; exact hg), Ae gA g2 (fun j e => by cases e; exact Nat.le_refl _)⟩
def Byt (l : List Int) : Prop := ∀ c ∈ l, 0 ≤ c ∧ c ≤ 255
def u8s (l : List Int) : List UInt8 := l.map fun x => UInt8.ofNat x.toNat
theorem En (l : List Int) : (u8s l).length = l.length := by simp [u8s]
theorem Wy {x : Int} (h : 0 ≤ x ∧ x ≤ 255) : (((UInt8.ofNat x.toNat).toNat : Nat) : Int) = x := by
 rw [UInt8.toNat_ofNat']
 omega
theorem Qn {l : List Int} (h : Byt l) {i : Nat} {y : UInt8} (hy : (u8s l)[i]? = some y) : (y.toNat : Int) = l.getD i 0 := by
 unfold u8s at hy
 rw [List.getElem?_map, Option.map_eq_some_iff] at hy
 obtain ⟨x, hx, rfl⟩ := hy
 rw [Wy (h x (List.mem_of_getElem? hx)), List.getD_eq_getElem?_getD, hx]
 rfl
theorem Has.holds {w : World} {v : Value} {l : List Int} (h : Has w v l) (hb : Byt l) : Lib.HoldsBytes w v (u8s l) := by
 rcases h with ⟨rfl, rfl⟩ | ⟨g, off, cap, rfl, hg, hc, hm, hh⟩
 ·exact ⟨none, 0, rfl, fun _ => rfl, fun a ha => by cases ha⟩
 ·refine ⟨some ⟨g, off, none⟩, cap, by rw [En], fun q => (by cases q), fun a ha i x hx => ?_⟩
  cases ha
  have hi : i < l.length := by rw [← En l]; exact (List.getElem?_eq_some_iff.1 hx).1
  rw [Qn hb hx, Addr.add_lit]
  exact hh i hi
theorem u8s_inj {a b : List Int} (ha : Byt a) (hb : Byt b) (h : u8s a = u8s b) : a = b := by
 have hl : a.length = b.length := by rw [← En a, ← En b, h]
 refine List.ext_getElem hl fun i h1 h2 => ?_
 have e1 : (u8s a)[i]? = some (UInt8.ofNat (a[i]).toNat) := by simp [u8s, h1]
 have e2 : (u8s b)[i]? = some (UInt8.ofNat (b[i]).toNat) := by simp [u8s, h2]
 have := Qn ha e1
 rw [h] at e1
 have h3 := Qn hb e1
 rw [this] at h3
 simpa [h1, h2, List.getD_eq_getElem?_getD] using h3
def FrB (B : Nat) (w : World) (v : Value) (l : List Int) : Prop :=
 ∃ g cap, v = .slice (some ⟨g, 0, none⟩) l.length cap ∧ B ≤ g ∧ l.length ≤ cap ∧ cap ≤ maxLen ∧ ∀ i, i < l.length → w.cell? ⟨g, i, none⟩ = some (.int .u8 (l.getD i 0)) ∧ w.frozen? ⟨g, i, none⟩ = false
theorem FrB.of {B : Nat} {w : World} {v : Value} {l : List Int} (hb : Byt l) (h : Lib.FreshBytes B w v (u8s l)) : FrB B w v l := by
 obtain ⟨g, cap, zs, rfl, hB, hc, hm, hz, hzb, hbo, hcell, hfr⟩ := h
 rw [En] at hc hbo
 refine ⟨g, cap, by rw [En], hB, hc, hm, fun i hi => ⟨?_, hfr i (by omega)⟩⟩
 rw [hcell i (by omega)]
 have e : zs.take l.length = l := u8s_inj (fun c hc => by have := hzb c (List.mem_of_mem_take hc); omega) hb hbo
 congr 2
 rw [← e]
 simp [List.getD_eq_getElem?_getD, hi]
theorem Qp (l : List Int) : Ag (A3 l).1 = true := by
 unfold A3
 split
 ·decide
 ·split
  ·assumption
  ·decide
theorem Hs {n : List (List Int)} (h : Um n) : Ag n = true := by
 obtain ⟨s, _, rfl⟩ := h
 exact Qp _
def OwnF (B : Nat) (el eb : TypeId) (w : World) (v : Value) (n : List (List Int)) : Prop :=
 ∃ vs : List Value, w.ownsRow B el 1 v n.length vs ∧ ∀ i, i < n.length → ∃ x, vs[i]? = some x ∧ Has w x (n.getD i []) ∧ Ci eb w x ∧ ∀ g off len cap, x = .slice (some ⟨g, off, none⟩) len cap → B ≤ g
theorem OwnL.ownF {B : Nat} {el eb : TypeId} {w : World} {v : Value} {n : List (List Int)} (h : OwnL B el eb w v n) : OwnF B el eb w v n := by
 obtain ⟨vs, h1, h2, _⟩ := h
 refine ⟨vs, h1, fun i hi => ?_⟩
 obtain ⟨x, h3, h4⟩ := h2 i hi
 refine ⟨x, h3, h4.has, h4.typed, fun g off len cap e => ?_⟩
 subst e
 exact (h4.lt g rfl).1
theorem OwnF.mono {B B' : Nat} {el eb : TypeId} {w : World} {v : Value} {n : List (List Int)} (h : OwnF B el eb w v n) (hB : B' ≤ B) : OwnF B' el eb w v n := by
 obtain ⟨vs, h1, h2⟩ := h
 refine ⟨vs, E9 h1 hB, fun i hi => ?_⟩
 obtain ⟨x, h3, h4, h5, h6⟩ := h2 i hi
 exact ⟨x, h3, h4, h5, fun g off len cap e => Nat.le_trans hB (h6 g off len cap e)⟩
theorem OwnF.below {B : Nat} {el eb : TypeId} {w w' : World} {v : Value} {n : List (List Int)} (h : OwnF B el eb w v n) (hb : Below w.heap.size w w') : OwnF B el eb w' v n := by
 obtain ⟨vs, h1, h2⟩ := h
 refine ⟨vs, Ay h1 hb, fun i hi => ?_⟩
 obtain ⟨x, h3, h4, h5, h6⟩ := h2 i hi
 exact ⟨x, h3, h4.below hb, h5.below hb, h6⟩
theorem OwnF.off {B q : Nat} {el eb t : TypeId} {w w' : World} {v : Value} {n : List (List Int)} {c : Array Value} (h : OwnF B el eb w v n) (hk : w.heap[q]? = some (.cells c t)) (h1 : t ≠ el) (h2 : t ≠ eb) (hg : w.grownBy w' (some q)) : OwnF B el eb w' v n := by
 obtain ⟨vs, h3, h4⟩ := h
 have hap := Cp h3 hk h1
 refine ⟨vs, World.ownsRow.kept h3 hg (.inr hap), fun i hi => ?_⟩
 obtain ⟨x, h5, h6, h7, h8⟩ := h4 i hi
 have key : ∀ g off len cap, x = .slice (some ⟨g, off, none⟩) len cap → w'.heap[g]? = w.heap[g]? := fun g off len cap e => by
  obtain ⟨c', fr, e1⟩ := h7 g off len cap e
  refine hg.block g (VC e1) ?_
  intro e'
  have e2 : g = q := by simpa using e'
  subst e2
  rw [hk] at e1
  simp at e1
  exact h2 e1.2.1
 refine ⟨x, h5, ?_, fun g off len cap e => ?_, h8⟩
 ·rcases h6 with h | ⟨g, off, cap, e, e1, e2, e3, e4⟩
  ·exact .inl h
  ·refine .inr ⟨g, off, cap, e, Nat.lt_of_lt_of_le e1 hg.size, e2, e3, fun i hi => ?_⟩
   have hc := e4 i hi
   unfold World.cell? at hc ⊢
   rw [key g off _ cap e]
   exact hc
 ·obtain ⟨c', fr, e1⟩ := h7 g off len cap e
  exact ⟨c', fr, (key g off len cap e).trans e1⟩
theorem OwnF.cur {B g len cap : Nat} {a : Option Addr} {w w' : World} {v : Value} {n : List (List Int)} (h : OwnF B 22 5 w v n) (hc : Cur w g a len cap) (hg : w.grownBy w' (some g)) : OwnF B 22 5 w' v n := by
 obtain ⟨i, x, h1, _⟩ := hc
 exact h.off h1 (by decide) (by decide) hg
def DrawnQ (k : Nat) (r : Rec) : Prop := DrawnS k r ∧ Byt r.text ∧ (k = 2 → rrOk r = true)
def Va (k : Nat) (w : World) (g : Nat) (a : Option Addr) (len cap : Nat) (e : Ending) (w' : World) : Prop :=
 ∃ vn vt vx vi r, e = .returned (.agg #[vn, .int .i64 r.type, .int .i64 r.ttl, .int .i64 r.addr, vt, vx, vi]) ∧ DrawnQ k r ∧ (∀ j, vi.ownBlock = some j → w.heap.size ≤ j) ∧ B9 w' vn vt vx vi r ∧ (k = 2 → OwnF w.heap.size 22 5 w' vn r.name) ∧ Cur w' g a len cap ∧ w.grownBy w' (some g)
theorem Kk : Byt [] := fun x hx => by cases hx
theorem Fa (m : Nat) : Byt (List.replicate m 0) := fun x hx => by
 have := (List.mem_replicate.1 hx).2
 omega
theorem okR_A {n : List (List Int)} {l ad : Int} (hn : Ag n = true) (hl : 0 ≤ l ∧ l ≤ 100000) (ha : 0 ≤ ad ∧ ad ≤ 4294967295) : rrOk ⟨n, 1, l, ad, [], [], []⟩ = true := by
 simp [rrOk, Bg, named, Cc, Ax, hn, hl.1, hl.2, ha.1, ha.2]
theorem okR_S {n m : List (List Int)} {l x y : Int} (hn : Ag n = true) (hl : 0 ≤ l ∧ l ≤ 100000) (hm : Ag m = true) (hx : 0 ≤ x ∧ x < 9) (hy : 0 ≤ y ∧ y ≤ 100000) : rrOk ⟨n, 6, l, 0, m, [], [x, y]⟩ = true := by
 have h1 : x ≤ 4294967295 := by omega
 simp [rrOk, Bg, named, Cc, Ax, hn, hl.1, hl.2, hm, hx.1, h1, hy.1, hy.2]
theorem okR_N {n m : List (List Int)} {l t : Int} (hn : Ag n = true) (hl : 0 ≤ l ∧ l ≤ 100000) (hm : Ag m = true) (h1 : t ≠ 1) (h6 : t ≠ 6) (hq : named t = true) : rrOk ⟨n, t, l, 0, m, [], []⟩ = true := by
 have ht : t = 2 ∨ t = 5 ∨ t = 6 ∨ t = 12 := of_decide_eq_true hq
 rcases ht with rfl | rfl | rfl | rfl
 ·simp [rrOk, Bg, named, Cc, Ax, hn, hl.1, hl.2, hm]
 ·simp [rrOk, Bg, named, Cc, Ax, hn, hl.1, hl.2, hm]
 ·exact absurd rfl h6
 ·simp [rrOk, Bg, named, Cc, Ax, hn, hl.1, hl.2, hm]
theorem okR_X {n : List (List Int)} {l t : Int} {x : List Int} (hn : Ag n = true) (hl : 0 ≤ l ∧ l ≤ 100000) (h1 : t ≠ 1) (hq : named t = false) (ht : Ax t = true) (hx : x.length ≤ 40) : rrOk ⟨n, t, l, 0, [], x, []⟩ = true := by
 have h2 : t = 1 ∨ t = 2 ∨ t = 5 ∨ t = 6 ∨ t = 12 ∨ t = 16 ∨ t = 49 := of_decide_eq_true ht
 have h3 : ¬ (t = 2 ∨ t = 5 ∨ t = 6 ∨ t = 12) := of_decide_eq_false hq
 have h4 : t = 16 ∨ t = 49 := by omega
 rcases h4 with rfl | rfl <;> simp [rrOk, Bg, named, Cc, Ax, hn, hl.1, hl.2, hx]
set_option maxHeartbeats 1000000
set_option maxRecDepth 100000
set_option linter.unusedSimpArgs false

theorem Zw : named 1 = false := rfl
theorem Z7 : named 2 = true := rfl
theorem Zy : named 5 = true := rfl
theorem named_6 : named 6 = true := rfl
theorem Yb : named 12 = true := rfl
theorem Ya : named 16 = false := rfl
theorem Xo : named 49 = false := rfl

theorem VR (t : Int) (w : World) (ht : Ax t = true) : Calls Tryz.prog 79 #[.int .i64 t] w fun e w' => e = .returned (.bool (named t)) ∧ w = w' := by
 rcases Db t with rfl | rfl | rfl | rfl | rfl | rfl | rfl | h
 iterate 7
  ·go_enter Tryz.func79, Tryz.ntmps79
   go_wp2
   go_ret
   exact ⟨rfl, rfl⟩
 ·rw [ht] at h; cases h

theorem Xx : Cc 1 = false := rfl
theorem Zk : Cc 2 = false := rfl
theorem Yw : Cc 5 = false := rfl
theorem Xs : Cc 6 = false := rfl
theorem Vn : Cc 12 = false := rfl
theorem Vf : Cc 16 = true := rfl
theorem Vp : Cc 49 = true := rfl

theorem VT (t : Int) (w : World) (ht : Ax t = true) : Calls Tryz.prog 80 #[.int .i64 t] w fun e w' => e = .returned (.bool (Cc t)) ∧ w = w' := by
 rcases Db t with rfl | rfl | rfl | rfl | rfl | rfl | rfl | h
 iterate 7
  ·go_enter Tryz.func80, Tryz.ntmps80
   go_wp2
   go_ret
   exact ⟨rfl, rfl⟩
 ·rw [ht] at h; cases h

theorem len0 (n : List Int) : ((n.length : Int) == 0) = decide (n.length = 0) := by
 by_cases h : n.length = 0
 ·rw [h]; rfl
 ·rw [decide_eq_false h, beq_eq_false_iff_ne]; omega
theorem Zv {t : Int} (h : Ax t = true) : t = 1 ∨ (t = 2 ∨ t = 5 ∨ t = 12) ∨ t = 6 ∨ (t = 16 ∨ t = 49) := by
 rcases Db t with rfl | rfl | rfl | rfl | rfl | rfl | rfl | h0
 all_goals first | (rw [h] at h0; cases h0) | simp
theorem data_n {r : Rec} (h : r.type = 2 ∨ r.type = 5 ∨ r.type = 12) : Bg r = (decide (r.addr = 0) && (Ag r.to && (decide (r.text.length = 0) && decide (r.nums.length = 0)))) := by
 rcases h with h | h | h <;> (unfold Bg; rw [h]; simp [named, Cc])
theorem data_x {r : Rec} (h : r.type = 16 ∨ r.type = 49) : Bg r = (decide (r.addr = 0) && (decide (r.to.length = 0) && (decide (r.text.length ≤ 40) && decide (r.nums.length = 0)))) := by
 rcases h with h | h <;> (unfold Bg; rw [h]; simp [named, Cc])
theorem data_a {r : Rec} (h : r.type = 1) : Bg r = (decide (0 ≤ r.addr ∧ r.addr ≤ 4294967295) && (decide (r.to.length = 0) && (decide (r.text.length = 0) && decide (r.nums.length = 0)))) := by
 unfold Bg; rw [h]; simp [named, Cc]
theorem data_s {r : Rec} (h : r.type = 6) : Bg r = (decide (r.addr = 0) && (Ag r.to && (decide (r.text.length = 0) && decide (r.nums.length = 2 ∧ 0 ≤ r.nums.getD 0 0 ∧ r.nums.getD 0 0 ≤ 4294967295 ∧ 0 ≤ r.nums.getD 1 0 ∧ r.nums.getD 1 0 ≤ 100000)))) := by
 unfold Bg; rw [h]; simp [named, Cc]
theorem T0 {vn vt vx vi : Value} {r : Rec} {w : World} (h : HasR w vn vt vx vi r) (ht : Ax r.type = true) :
  Calls Tryz.prog 50 #[.agg #[vn, .int .i64 r.type, .int .i64 r.ttl, .int .i64 r.addr, vt, vx, vi]] w fun e w' => e = .returned (.bool (Bg r)) ∧ Below w.heap.size w w' := by
 obtain ⟨na, nc, rfl, _⟩ := h.name.form
 obtain ⟨ta, tc, rfl, _⟩ := h.to.form
 obtain ⟨xa, xc, rfl, _⟩ := h.text.form
 obtain ⟨ia, ic, rfl, _⟩ := h.nums.form
 obtain ⟨nm, ty, tt, ad, to, tx, nu⟩ := r
 simp only at *
 have bb := UI (w := w) (.cells #[.slice na nm.length nc, .int .i64 ty, .int .i64 tt, .int .i64 ad, .slice ta to.length tc, .slice xa tx.length xc, .slice ia nu.length ic] 39)
 have K := UC (heap_alloc_new w (.cells #[.slice na nm.length nc, .int .i64 ty, .int .i64 tt, .int .i64 ad, .slice ta to.length tc, .slice xa tx.length xc, .slice ia nu.length ic] 39))
 have H := UC (h.below bb)
 clear h
 rcases Zv ht with hk | hk | hk | hk
 ·rw [data_a hk]
  dsimp only
  subst hk
  go_enter Tryz.func50, Tryz.ntmps50
  by_cases hA : ad < 0
  ·obtain ⟨d0, d1, d2, d3, d4, d5, d6⟩ := UJ (UB K)
   go_wp2_with fail
   go_ret
   exact ⟨by simp [hA, show ¬ (0 : Int) ≤ ad by omega], bb⟩
  by_cases hA3 : 4294967295 < ad
  ·obtain ⟨d0, d1, d2, d3, d4, d5, d6⟩ := UJ (UB K)
   go_wp2_with fail
   go_ret
   exact ⟨by simp [show ¬ ad ≤ 4294967295 by omega], bb⟩
  obtain ⟨d0, d1, d2, d3, d4, d5, d6⟩ := UJ (UB K)
  go_wp2_with fail
  refine (VR _ _ rfl).mono ?_
  first | rw [Zw]
  rintro e wq ⟨rfl, rfl⟩
  by_cases hB : to.length = 0
  ·have hB0 : ¬ (0 : Int) < to.length := by omega
   have HB := UC hB
   clear hB
   go_wp2_with fail
   clear d0 d1 d2 d3 d4 d5 d6
   refine (VT _ _ rfl).mono ?_
   first | rw [Xx]
   rintro e wq ⟨rfl, rfl⟩
   obtain ⟨d0, d1, d2, d3, d4, d5, d6⟩ := UJ (UB K)
   by_cases hC : tx.length = 0
   ·have hC0 : ¬ (0 : Int) < tx.length := by omega
    have HC := UC hC
    clear hC
    go_wp2_with fail
    go_ret
    exact ⟨by simp [show (0 : Int) ≤ ad by omega, show ad ≤ 4294967295 by omega, N3 (UB HB), N3 (UB HC), len0 nu], bb⟩
   ·have hC1 : (0 : Int) < tx.length := by omega
    go_wp2_with fail
    go_ret
    exact ⟨by simp [hC], bb⟩
  ·have hB1 : (0 : Int) < to.length := by omega
   go_wp2_with fail
   go_ret
   exact ⟨by simp [hB], bb⟩
 ·rw [data_n hk]
  dsimp only
  rcases hk with rfl | rfl | rfl
  all_goals
   go_enter Tryz.func50, Tryz.ntmps50
   by_cases hA : ad = 0
   ·subst hA
    obtain ⟨d0, d1, d2, d3, d4, d5, d6⟩ := UJ (UB K)
    go_wp2_with fail
    clear d0 d1 d2 d3 d4 d5 d6
    refine (VR _ _ rfl).mono ?_
    first | rw [Z7] | rw [Zy] | rw [Yb]
    rintro e wq ⟨rfl, rfl⟩
    obtain ⟨d0, d1, d2, d3, d4, d5, d6⟩ := UJ (UB K)
    go_wp2_with fail
    clear d0 d1 d2 d3 d4 d5 d6
    have HO := UC (VO (show HasL _ (.slice ta to.length tc) to from (UB H).to))
    cases hB : Ag to with
    | false =>
     rw [hB] at HO
     refine (UB HO).mono ?_
     rintro e w1 ⟨rfl, b1⟩
     have bb := UG bb b1
     go_wp2_with fail
     go_ret
     exact ⟨by simp [hB], bb⟩
    | true =>
     rw [hB] at HO
     refine (UB HO).mono ?_
     rintro e w1 ⟨rfl, b1⟩
     replace bb := UG bb b1
     replace K := UC (UE b1 (UB K))
     replace H := UC ((UB H).below b1)
     clear b1 HO
     obtain ⟨d0, d1, d2, d3, d4, d5, d6⟩ := UJ (UB K)
     go_wp2_with fail
     clear d0 d1 d2 d3 d4 d5 d6
     refine (VT _ _ rfl).mono ?_
     first | rw [Zk] | rw [Yw] | rw [Vn]
     rintro e wq ⟨rfl, rfl⟩
     obtain ⟨d0, d1, d2, d3, d4, d5, d6⟩ := UJ (UB K)
     by_cases hC : tx.length = 0
     ·have hC0 : ¬ (0 : Int) < tx.length := by omega
      have HC := UC hC
      clear hC
      go_wp2_with fail
      go_ret
      exact ⟨by simp [hB, N3 (UB HC), len0 nu], bb⟩
     ·have hC1 : (0 : Int) < tx.length := by omega
      go_wp2_with fail
      go_ret
      exact ⟨by simp [hC], bb⟩
   ·have hA1 : (ad != 0) = true := by rw [bne_iff_ne]; exact hA
    have hA2 : (ad == 0) = false := by rw [beq_eq_false_iff_ne]; exact hA
    have hA3 : decide (ad = 0) = false := decide_eq_false hA
    obtain ⟨d0, d1, d2, d3, d4, d5, d6⟩ := UJ (UB K)
    go_wp2_with fail
    go_ret
    exact ⟨by simp [hA], bb⟩
 ·rw [data_s hk]
  dsimp only
  subst hk
  go_enter Tryz.func50, Tryz.ntmps50
  by_cases hA : ad = 0
  ·subst hA
   obtain ⟨d0, d1, d2, d3, d4, d5, d6⟩ := UJ (UB K)
   go_wp2_with fail
   clear d0 d1 d2 d3 d4 d5 d6
   refine (VR _ _ rfl).mono ?_
   first | rw [named_6]
   rintro e wq ⟨rfl, rfl⟩
   obtain ⟨d0, d1, d2, d3, d4, d5, d6⟩ := UJ (UB K)
   go_wp2_with fail
   clear d0 d1 d2 d3 d4 d5 d6
   have HO := UC (VO (show HasL _ (.slice ta to.length tc) to from (UB H).to))
   cases hB : Ag to with
   | false =>
    rw [hB] at HO
    refine (UB HO).mono ?_
    rintro e w1 ⟨rfl, b1⟩
    have bb := UG bb b1
    go_wp2_with fail
    go_ret
    exact ⟨by simp [hB], bb⟩
   | true =>
    rw [hB] at HO
    refine (UB HO).mono ?_
    rintro e w1 ⟨rfl, b1⟩
    replace bb := UG bb b1
    replace K := UC (UE b1 (UB K))
    replace H := UC ((UB H).below b1)
    clear b1 HO
    obtain ⟨d0, d1, d2, d3, d4, d5, d6⟩ := UJ (UB K)
    go_wp2_with fail
    clear d0 d1 d2 d3 d4 d5 d6
    refine (VT _ _ rfl).mono ?_
    first | rw [Xs]
    rintro e wq ⟨rfl, rfl⟩
    obtain ⟨d0, d1, d2, d3, d4, d5, d6⟩ := UJ (UB K)
    by_cases hC : tx.length = 0
    ·have hC0 : ¬ (0 : Int) < tx.length := by omega
     have HC := UC hC
     clear hC
     by_cases hD : nu.length = 2
     ·skip
      obtain ⟨x, y, rfl⟩ := Q1 hD
      skip
      obtain ⟨g, off, cp, hv, _, n0, n1⟩ := (show HasI _ (.slice ia [x, y].length ic) [x, y] from (UB H).nums).two
      simp only [Value.slice.injEq] at hv
      obtain ⟨rfl, _, rfl⟩ := hv
      by_cases hE : x < 0
      ·skip
       go_wp2_with fail
       go_ret
       exact ⟨by simp [show ¬ (0 : Int) ≤ x by omega], bb⟩
      by_cases hF : 4294967295 < x
      ·skip
       go_wp2_with fail
       go_ret
       exact ⟨by simp [show ¬ x ≤ 4294967295 by omega], bb⟩
      by_cases hG : y < 0
      ·have dG : decide (0 ≤ y) = false := decide_eq_false (by omega)
       go_wp2_with fail
       go_ret
       exact ⟨by simp [show ¬ (0 : Int) ≤ y by omega], bb⟩
      by_cases hH : 100000 < y
      ·have dH : decide (y ≤ 100000) = false := decide_eq_false (by omega)
       go_wp2_with fail
       go_ret
       exact ⟨by simp [show ¬ y ≤ 100000 by omega], bb⟩
      have dH : decide (y ≤ 100000) = true := decide_eq_true (by omega)
      go_wp2_with fail
      go_ret
      exact ⟨by simp [hB, N3 (UB HC), show (0 : Int) ≤ x by omega, show x ≤ 4294967295 by omega, show (0 : Int) ≤ y by omega, show y ≤ 100000 by omega], bb⟩
     ·have hD1 : ((nu.length : Int) != 2) = true := by rw [bne_iff_ne]; omega
      have hD2 : ((nu.length : Int) == 2) = false := by rw [beq_eq_false_iff_ne]; omega
      go_wp2_with fail
      go_ret
      exact ⟨by simp [hD], bb⟩
    ·have hC1 : (0 : Int) < tx.length := by omega
     go_wp2_with fail
     go_ret
     exact ⟨by simp [hC], bb⟩
  ·have hA1 : (ad != 0) = true := by rw [bne_iff_ne]; exact hA
   have hA2 : (ad == 0) = false := by rw [beq_eq_false_iff_ne]; exact hA
   have hA3 : decide (ad = 0) = false := decide_eq_false hA
   obtain ⟨d0, d1, d2, d3, d4, d5, d6⟩ := UJ (UB K)
   go_wp2_with fail
   go_ret
   exact ⟨by simp [hA], bb⟩
 ·rw [data_x hk]
  dsimp only
  rcases hk with rfl | rfl
  all_goals
   go_enter Tryz.func50, Tryz.ntmps50
   by_cases hA : ad = 0
   ·subst hA
    obtain ⟨d0, d1, d2, d3, d4, d5, d6⟩ := UJ (UB K)
    go_wp2_with fail
    refine (VR _ _ rfl).mono ?_
    first | rw [Ya] | rw [Xo]
    rintro e wq ⟨rfl, rfl⟩
    by_cases hB : to.length = 0
    ·have hB0 : ¬ (0 : Int) < to.length := by omega
     have HB := UC hB
     clear hB
     go_wp2_with fail
     clear d0 d1 d2 d3 d4 d5 d6
     refine (VT _ _ rfl).mono ?_
     first | rw [Vf] | rw [Vp]
     rintro e wq ⟨rfl, rfl⟩
     obtain ⟨d0, d1, d2, d3, d4, d5, d6⟩ := UJ (UB K)
     by_cases hC : 40 < tx.length
     ·have hC1 : (40 : Int) < tx.length := by omega
      go_wp2_with fail
      go_ret
      exact ⟨by simp [show ¬ tx.length ≤ 40 by omega], bb⟩
     have hC0 : ¬ (40 : Int) < tx.length := by omega
     go_wp2_with fail
     go_ret
     exact ⟨by simp [N3 (UB HB), show tx.length ≤ 40 by omega, len0 nu], bb⟩
    ·have hB1 : (0 : Int) < to.length := by omega
     go_wp2_with fail
     go_ret
     exact ⟨by simp [hB], bb⟩
   ·have hA1 : (ad != 0) = true := by rw [bne_iff_ne]; exact hA
    have hA2 : (ad == 0) = false := by rw [beq_eq_false_iff_ne]; exact hA
    have hA3 : decide (ad = 0) = false := decide_eq_false hA
    obtain ⟨d0, d1, d2, d3, d4, d5, d6⟩ := UJ (UB K)
    go_wp2_with fail
    go_ret
    exact ⟨by simp [hA], bb⟩
end Go.Proofs.YtfneahdnpmamkaaGreat
