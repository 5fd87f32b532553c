/-
  Contracts of the helpers of the laws for caches (szCache, toCache, eqCache). Contracts of the laws' helpers for the sizes of caches: with how many records there are. Plain facts: a record's data as bytes. No program is named here. Plain facts: what DataPut and RrPut answer. No program is named here. Plain facts: which messages may be, and their bytes. No program is named here. Plain facts: texts held against each other byte by byte, names label by label from the last one on. No program is named here. Plain facts: the order of records. No program is named here.
-/
import Derived.Test.YtaehfeobfkaicaaGreatCacheGetG09
import Derived.Test.YtaehfeobfkaicaaGreatCacheGetG07
import Derived.Test.YtaehfeobfkaicaaGreatCacheGetG05
import Derived.Test.YtaehfeobfkaicaaGreatCacheGetG06
import Derived.Test.YtaehfeobfkaicaaGreatCacheGetG00
import Derived.Lib.Bytealg
import Derived.Lib.BytesEntry
namespace Go.Proofs.YtaehfeobfkaicaaGreat
open Go.RowKit
set_option linter.unusedVariables false
set_option maxHeartbeats 1000000
set_option maxRecDepth 100000

theorem toCache_own (a : Option Addr) (k : Nat) (c : Ca) (w : World) (h : LiesSs w a c.slots) (hs : SizeCa 1048576 c) :
  Calls Tryz.prog 9 #[.agg #[.int .i64 c.now, .int .i64 c.turn, .slice a c.slots.length k]] w fun e w' => ∃ v, e = .returned (.agg #[.int .i64 c.now, .int .i64 c.turn, v]) ∧ RowSl 67 56 5 3 71 w.heap.size w'.heap.size w' v c.slots ∧ Below w.heap.size w w' := by
 obtain ⟨hsz, r0, v0⟩ := box3 w (.cells #[.int .i64 c.now, .int .i64 c.turn, .slice a c.slots.length k] 24) #[.int .i64 0, .int .i64 0, .slice none 0 0] #[.int .i64 c.now, .int .i64 c.turn, .slice none 0 0] 30 30
 have bb : Below w.heap.size w (((w.alloc (.cells #[.int .i64 c.now, .int .i64 c.turn, .slice a c.slots.length k] 24)).alloc (.cells #[.int .i64 0, .int .i64 0, .slice none 0 0] 30)).alloc (.cells #[.int .i64 c.now, .int .i64 c.turn, .slice none 0 0] 30)) := ((UI _).alloc (UI _).size _).alloc ((UI _).alloc (UI _).size _).size _
 have k0 : (((w.alloc (.cells #[.int .i64 c.now, .int .i64 c.turn, .slice a c.slots.length k] 24)).alloc (.cells #[.int .i64 0, .int .i64 0, .slice none 0 0] 30)).alloc (.cells #[.int .i64 c.now, .int .i64 c.turn, .slice none 0 0] 30)).heap[w.heap.size]? = some (.cells #[.int .i64 c.now, .int .i64 c.turn, .slice a c.slots.length k] 24) := UE (UI _) (UE (UI _) (heap_alloc_new w _))
 have HC := UC (toSlotS_own a k c.slots _ (lowSs h bb) hs.slots hs.each)
 have KK := UC k0
 have RR := UC r0
 have V := UC v0
 have zv := VC v0
 clear h hs r0 v0 hsz
 obtain ⟨d0, d1, d2⟩ := UL k0
 clear k0
 go_enter Tryz.func9, Tryz.ntmps9
 go_wp2_with fail
 clear d0 d1 d2
 generalize (((w.alloc (.cells #[.int .i64 c.now, .int .i64 c.turn, .slice a c.slots.length k] 24)).alloc (.cells #[.int .i64 0, .int .i64 0, .slice none 0 0] 30)).alloc (.cells #[.int .i64 c.now, .int .i64 c.turn, .slice none 0 0] 30)) = W at *
 refine (UB HC).mono ?_
 rintro e w1 ⟨v1, rfl, o1, b1⟩
 obtain ⟨xa, xc, rfl, _⟩ := o1.form
 replace bb := UG bb b1
 replace RR := UC (UE b1 (UB RR))
 replace V := UC (UE b1 (UB V))
 have O1 := UC o1
 have z1 := b1.size
 clear o1 b1 KK HC
 obtain ⟨f0, f1, f2⟩ := UL (UB V)
 obtain ⟨g0, g1, g2⟩ := frozen3 (UB V)
 obtain ⟨p0, p1, p2⟩ := UL (UB RR)
 obtain ⟨q0, q1, q2⟩ := frozen3 (UB RR)
 go_wp2_with fail
 clear f0 f1 f2 g0 g1 g2 p0 p1 p2 q0 q1 q2
 have u4 := (UT w1 (w.heap.size + 1 + 1) 2 (.slice xa c.slots.length xc)).wide (B' := w.heap.size + 1) (E' := w.heap.size + 3) (by omega) (by omega)
 have R4 := block_other (UB RR) (b' := w.heap.size + 1 + 1) (by omega) 2 (.slice xa c.slots.length xc)
 generalize w1.setCell ⟨w.heap.size + 1 + 1, 2, none⟩ (.slice xa c.slots.length xc) = x4 at *
 obtain ⟨R5, u5⟩ := set3_is (c0 := .int .i64 c.now) (c1 := .int .i64 c.turn) (c2 := .slice xa c.slots.length xc) R4
 have u8 := u4.trans (u5.wide (B' := w.heap.size + 1) (E' := w.heap.size + 3) (by omega) (by omega))
 have z8 := u8.size
 unfold set3 at R5 u8 z8
 refine bodyPost_ret (results_cell_row rfl _ _ (w.heap.size + 1) 30 #[.int .i64 c.now, .int .i64 c.turn, .slice xa c.slots.length xc] (0, 0) _ rfl R5 Tryz.underlying30 rfl (by kernel_rfl)) rfl ?_
 exact ⟨_, rfl, (RowX.outside (ownsSl 67 56 5 3) (UB O1) u8 (.inr (by omega))).wide (by omega) (by omega), u8.below bb (by omega)⟩

theorem eqCache_has {v v' : Value} {c : Ca} {w : World} (h : HasSs w v c.slots) (h' : HasSs w v' c.slots) (hs : SizeCa 2097152 c) :
  Calls Tryz.prog 12 #[.agg #[.int .i64 c.now, .int .i64 c.turn, v], .agg #[.int .i64 c.now, .int .i64 c.turn, v']] w fun e w' => e = .returned (.bool true) ∧ Below w.heap.size w w' := by
 obtain ⟨xa, xc, rfl, _⟩ := h.form
 obtain ⟨ua, uc, rfl, _⟩ := h'.form
 have b0 := below2 w (.cells #[.int .i64 c.now, .int .i64 c.turn, .slice xa c.slots.length xc] 30) (.cells #[.int .i64 c.now, .int .i64 c.turn, .slice ua c.slots.length uc] 30)
 obtain ⟨hsz, k0, x0⟩ := box2 w (.cells #[.int .i64 c.now, .int .i64 c.turn, .slice xa c.slots.length xc] 30) #[.int .i64 c.now, .int .i64 c.turn, .slice ua c.slots.length uc] 30
 have HC := UC (eqSlotS_has (VF h b0) (VF h' b0) hs.each)
 obtain ⟨d0, d1, d2⟩ := UL k0
 obtain ⟨f0, f1, f2⟩ := UL x0
 clear h h' hs k0 x0 hsz
 go_enter Tryz.func12, Tryz.ntmps12
 go_wp2_with fail
 clear d0 d1 d2 f0 f1 f2
 generalize (w.alloc (.cells #[.int .i64 c.now, .int .i64 c.turn, .slice xa c.slots.length xc] 30)).alloc (.cells #[.int .i64 c.now, .int .i64 c.turn, .slice ua c.slots.length uc] 30) = W at *
 refine (UB HC).mono ?_
 rintro e w1 ⟨rfl, b1⟩
 replace b0 := UG b0 b1
 clear b1 HC
 go_wp2_with fail
 go_ret
 exact ⟨rfl, b0⟩
set_option maxHeartbeats 1000000
set_option maxRecDepth 100000

theorem szRrS_tot (a : Option Addr) (cap : Nat) (xs : List Rec) (left : Int) (w : World) (h : LiesRs w a xs) (hm : xs.length ≤ maxLen) (hm2 : ∀ i, i < xs.length → SizeR maxLen (xs.getD i recZ)) (h0 : 0 ≤ left) (h1 : left ≤ 1048576) :
  Calls Tryz.prog 7 #[.slice a xs.length cap, .int .i64 left] w fun e w' => (∃ y : Int, e = .returned (.int .i64 y) ∧ -1 ≤ y ∧ y ≤ left ∧ (0 ≤ y → y + xs.length ≤ left ∧ ∀ i, i < xs.length → SizeR left.toNat (xs.getD i recZ))) ∧ Below w.heap.size w w' := by
 generalize hn : xs.length = m at *
 have HN := UC hn
 clear hn
 have HM := UC hm2
 clear hm2
 unfold maxLen at hm
 by_cases hlen : (m : Int) ≤ left
 ·go_enter Tryz.func7, Tryz.ntmps7
  go_wp2
  go_loopw [1, 5] (fun r i wr => ∃ (k : Nat) (x : Int), k ≤ m ∧ i = .int .i64 k ∧ r = .int .i64 x ∧ 0 ≤ x ∧ x ≤ left - m ∧ Hid (∀ j, j < k → SizeR left.toNat (xs.getD j recZ)) ∧ Below w.heap.size w wr) (fun _ i _ => m - (intOf i).toNat)
  case atStart => exact ⟨0, left - m, Nat.zero_le _, rfl, rfl, by omega, by omega, UC (fun j hj => absurd hj (Nat.not_lt_zero _)), Below.refl _ _⟩
  case round =>
   obtain ⟨k, x, hk, rfl, rfl, hx0, hx1, hall, hb⟩ := hrel
   by_cases hlt : k < m
   ·have hIk := (h.below hb)
    obtain ⟨b, off, an, cn, ato, ct, ax, cx, ai, ci, rfl, hbl, hc, hIn⟩ := hIk.here (k := k) (by rw [UB HN]; exact hlt)
    clear hIk
    have hmk := UB HM k hlt
    have hone := UC (fun (hs : SizeR left.toNat (xs.getD k recZ)) => (show ∀ j, j < k + 1 → SizeR left.toNat (xs.getD j recZ) from fun j hj => by
      by_cases e : j = k
      ·subst e; exact hs
      ·exact UB hall j (by omega)))
    generalize xs.getD k recZ = rk at *
    obtain ⟨c0, c1, c2, c3, c4, c5, c6⟩ := VH hc
    have HI := UC hIn
    have HMK := UC hmk
    clear hIn hmk hc
    go_wp2_with fail
    refine (szRr_any an cn ato ct ax cx ai ci rk x _ (UB HI) (UB HMK) hx0 (by omega)).mono ?_
    rintro e w1 ⟨⟨y, rfl, hy0, hy1, hy2⟩, b1⟩
    have hb1 := UG hb b1
    have HY := UC hy2
    clear hy2 c0 c1 c2 c3 c4 c5 c6 b1 hb
    by_cases hle : y < 0
    ·go_wp2
     go_ret
     exact ⟨⟨-1, rfl, by omega, by omega, fun hneg => by omega⟩, hb1⟩
    ·go_wp2
     exact ⟨⟨k + 1, y, by omega, by go_num, rfl, by omega, by omega, UC (UB hone ((UB HY (by omega)).mono (by omega))), hb1⟩, by simp [intOf]; omega⟩
   ·obtain rfl : k = m := by omega
    go_wp2
    go_ret
    exact ⟨⟨x, rfl, by omega, by omega, fun _ => ⟨by omega, UB hall⟩⟩, hb⟩
 ·go_enter Tryz.func7, Tryz.ntmps7
  go_wp2
  go_ret
  exact ⟨⟨-1, rfl, by omega, by omega, fun hneg => by omega⟩, Below.refl _ _⟩

theorem szSlot_tot (na : Option Addr) (nc : Nat) (ra : Option Addr) (rc : Nat) (x : Slt) (left : Int) (w : World) (h : InS2 w na ra x) (hm : SizeSl maxLen x) (h0 : 0 ≤ left) (h1 : left ≤ 1048576) :
  Calls Tryz.prog 66 #[.agg #[.slice na x.name.length nc, .int .i64 x.type, .int .i64 x.kind, .slice ra x.rrs.length rc, .int .i64 x.rank, .int .i64 x.till, .int .i64 x.used], .int .i64 left] w fun e w' => (∃ y : Int, e = .returned (.int .i64 y) ∧ -1 ≤ y ∧ y ≤ left ∧ (0 ≤ y → y + x.rrs.length ≤ left ∧ SizeSl left.toNat x)) ∧ Below w.heap.size w w' := by
 have b0 := UI (w := w) (.cells #[.slice na x.name.length nc, .int .i64 x.type, .int .i64 x.kind, .slice ra x.rrs.length rc, .int .i64 x.rank, .int .i64 x.till, .int .i64 x.used] 100)
 have KK := UC (heap_alloc_new w (.cells #[.slice na x.name.length nc, .int .i64 x.type, .int .i64 x.kind, .slice ra x.rrs.length rc, .int .i64 x.rank, .int .i64 x.till, .int .i64 x.used] 100))
 have HI := UC h
 have HM := UC hm
 clear h hm
 obtain ⟨d0, d1, d2, d3, d4, d5, d6⟩ := UJ (UB KK)
 go_enter Tryz.func66, Tryz.ntmps66
 go_wp2_with fail
 clear d0 d1 d2 d3 d4 d5 d6
 generalize w.alloc (.cells #[.slice na x.name.length nc, .int .i64 x.type, .int .i64 x.kind, .slice ra x.rrs.length rc, .int .i64 x.rank, .int .i64 x.till, .int .i64 x.used] 100) = W at *
 refine (szName_any na nc x.name left _ ((UB HI).below b0).name (UB HM).name (UB HM).names (by omega) (by omega)).mono ?_
 rintro e w1 ⟨⟨y1, rfl, ya1, yb1, yc1⟩, b1⟩
 replace b0 := UG b0 b1
 replace KK := UC (UE b1 (UB KK))
 have Y1 := UC yc1
 clear yc1 b1
 by_cases n1 : y1 < 0
 ·go_wp2
  go_ret
  exact ⟨⟨-1, rfl, by omega, by omega, fun q => by omega⟩, b0⟩
 obtain ⟨d0, d1, d2, d3, d4, d5, d6⟩ := UJ (UB KK)
 go_wp2_with fail
 clear d0 d1 d2 d3 d4 d5 d6
 refine (szRrS_tot ra rc x.rrs y1 _ ((UB HI).below b0).rrs (UB HM).rrs (UB HM).rrss (by omega) (by omega)).mono ?_
 rintro e w2 ⟨⟨y2, rfl, ya2, yb2, yc2⟩, b2⟩
 replace b0 := UG b0 b2
 have Y2 := UC yc2
 clear yc2 b2 KK
 by_cases n2 : y2 < 0
 ·go_wp2
  go_ret
  exact ⟨⟨-1, rfl, by omega, by omega, fun q => by omega⟩, b0⟩
 go_wp2
 go_ret
 have p1 := UB Y1 (by omega)
 have p2 := UB Y2 (by omega)
 exact ⟨⟨y2, rfl, by omega, by omega, fun _ => ⟨by omega, ⟨by omega, fun i hi => by have := p1.2 i hi; omega, by omega, fun i hi => (p2.2 i hi).mono (by omega)⟩⟩⟩, b0⟩

theorem szSlotS_tot (a : Option Addr) (cap : Nat) (xs : List Slt) (left : Int) (w : World) (h : LiesSs w a xs) (hm : xs.length ≤ maxLen) (hm2 : ∀ i, i < xs.length → SizeSl maxLen (xs.getD i VK)) (h0 : 0 ≤ left) (h1 : left ≤ 1048576) :
  Calls Tryz.prog 26 #[.slice a xs.length cap, .int .i64 left] w fun e w' => (∃ y : Int, e = .returned (.int .i64 y) ∧ -1 ≤ y ∧ y ≤ left ∧ (0 ≤ y → y + xs.length + totR xs xs.length ≤ left ∧ ∀ i, i < xs.length → SizeSl left.toNat (xs.getD i VK))) ∧ Below w.heap.size w w' := by
 have HT := UC (show ∀ k, totR xs (k + 1) = totR xs k + (xs.getD k VK).rrs.length from fun _ => rfl)
 have HT0 := UC (show totR xs 0 = 0 from rfl)
 generalize totR xs = T at *
 generalize hn : xs.length = m at *
 have HN := UC hn
 clear hn
 have HM := UC hm2
 clear hm2
 unfold maxLen at hm
 by_cases hlen : (m : Int) ≤ left
 ·go_enter Tryz.func26, Tryz.ntmps26
  go_wp2
  go_loopw [1, 5] (fun r i wr => ∃ (k : Nat) (x : Int), k ≤ m ∧ i = .int .i64 k ∧ r = .int .i64 x ∧ 0 ≤ x ∧ x + T k ≤ left - m ∧ Hid (∀ j, j < k → SizeSl left.toNat (xs.getD j VK)) ∧ Below w.heap.size w wr) (fun _ i _ => m - (intOf i).toNat)
  case atStart => exact ⟨0, left - m, Nat.zero_le _, rfl, rfl, by omega, by rw [UB HT0]; omega, UC (fun j hj => absurd hj (Nat.not_lt_zero _)), Below.refl _ _⟩
  case round =>
   obtain ⟨k, x, hk, rfl, rfl, hx0, hx1, hall, hb⟩ := hrel
   by_cases hlt : k < m
   ·have hIk := (lowSs h hb)
    obtain ⟨b, off, vs, rfl, hbl, hc, na, nc, ra, rc, rfl, hIn⟩ := hIk.here (k := k) (by rw [UB HN]; exact hlt)
    clear hIk
    have hmk := UB HM k hlt
    have hT := UB HT k
    have hone := UC (fun (hs : SizeSl left.toNat (xs.getD k VK)) => (show ∀ j, j < k + 1 → SizeSl left.toNat (xs.getD j VK) from fun j hj => by
      by_cases e : j = k
      ·subst e; exact hs
      ·exact UB hall j (by omega)))
    generalize xs.getD k VK = rk at *
    obtain ⟨c0, c1, c2, c3, c4, c5, c6⟩ := VH hc
    have HI := UC hIn
    have HMK := UC hmk
    clear hIn hmk hc
    go_wp2_with fail
    refine (szSlot_tot na nc ra rc rk x _ (UB HI) (UB HMK) hx0 (by omega)).mono ?_
    rintro e w1 ⟨⟨y, rfl, hy0, hy1, hy2⟩, b1⟩
    have hb1 := UG hb b1
    have HY := UC hy2
    clear hy2 c0 c1 c2 c3 c4 c5 c6 b1 hb
    by_cases hle : y < 0
    ·go_wp2
     go_ret
     exact ⟨⟨-1, rfl, by omega, by omega, fun hneg => by omega⟩, hb1⟩
    ·have hy3 := (UB HY (by omega)).1
     go_wp2
     exact ⟨⟨k + 1, y, by omega, by go_num, rfl, by omega, by omega, UC (UB hone ((UB HY (by omega)).2.mono (by omega))), hb1⟩, by simp [intOf]; omega⟩
   ·obtain rfl : k = m := by omega
    go_wp2
    go_ret
    exact ⟨⟨x, rfl, by omega, by omega, fun _ => ⟨by omega, UB hall⟩⟩, hb⟩
 ·go_enter Tryz.func26, Tryz.ntmps26
  go_wp2
  go_ret
  exact ⟨⟨-1, rfl, by omega, by omega, fun hneg => by omega⟩, Below.refl _ _⟩

theorem szCache_tot (a : Option Addr) (k : Nat) (c : Ca) (left : Int) (w : World) (h : LiesSs w a c.slots) (hm : SizeCa maxLen c) (h0 : 0 ≤ left) (h1 : left ≤ 1048576) :
  Calls Tryz.prog 6 #[.agg #[.int .i64 c.now, .int .i64 c.turn, .slice a c.slots.length k], .int .i64 left] w fun e w' => (∃ y : Int, e = .returned (.int .i64 y) ∧ -1 ≤ y ∧ y ≤ left ∧ (0 ≤ y → c.slots.length + totR c.slots c.slots.length ≤ left ∧ SizeCa left.toNat c)) ∧ Below w.heap.size w w' := by
 have b0 := UI (w := w) (.cells #[.int .i64 c.now, .int .i64 c.turn, .slice a c.slots.length k] 24)
 have KK := UC (heap_alloc_new w (.cells #[.int .i64 c.now, .int .i64 c.turn, .slice a c.slots.length k] 24))
 have HC := UC (szSlotS_tot a k c.slots left _ (lowSs h b0) hm.slots hm.each h0 h1)
 clear h hm
 obtain ⟨d0, d1, d2⟩ := UL (UB KK)
 go_enter Tryz.func6, Tryz.ntmps6
 go_wp2_with fail
 clear d0 d1 d2
 generalize w.alloc (.cells #[.int .i64 c.now, .int .i64 c.turn, .slice a c.slots.length k] 24) = W at *
 refine (UB HC).mono ?_
 rintro e w1 ⟨⟨y1, rfl, ya1, yb1, yc1⟩, b1⟩
 replace b0 := UG b0 b1
 have Y1 := UC yc1
 clear yc1 b1 HC KK
 by_cases n1 : y1 < 0
 ·go_wp2
  go_ret
  exact ⟨⟨-1, rfl, by omega, by omega, fun q => by omega⟩, b0⟩
 go_wp2
 go_ret
 have p1 := UB Y1 (by omega)
 exact ⟨⟨y1, rfl, by omega, by omega, fun _ => ⟨by omega, ⟨by omega, p1.2⟩⟩⟩, b0⟩
end Go.Proofs.YtaehfeobfkaicaaGreat

namespace Go.Proofs.YtaehfeobfkaicaaGreat
open Go.RowKit

def dataB (r : Rec) : List Int :=
 if r.type = 1 then put32 [] r.addr else if r.type = 6 then put32 (put32 (wire r.to) (r.nums.getD 0 0)) (r.nums.getD 1 0) else if named r.type = true then wire r.to else (r.text.length : Int) :: r.text

theorem data_kinds {r : Rec} (ht : typeOk r.type = true) (h : dataOk r = true) :
  (r.type = 1 ∧ 0 ≤ r.addr ∧ r.addr ≤ 4294967295 ∧ dataB r = put32 [] r.addr) ∨ ((r.type = 2 ∨ r.type = 5 ∨ r.type = 12) ∧ nameOk r.to = true ∧ dataB r = wire r.to) ∨
  (r.type = 6 ∧ nameOk r.to = true ∧ (∃ x y, r.nums = [x, y] ∧ 0 ≤ x ∧ x ≤ 4294967295 ∧ 0 ≤ y ∧ y ≤ 100000 ∧ dataB r = put32 (put32 (wire r.to) x) y)) ∨ ((r.type = 16 ∨ r.type = 49) ∧ r.text.length ≤ 40 ∧ dataB r = (r.text.length : Int) :: r.text) := by
 have ht' : r.type = 1 ∨ r.type = 2 ∨ r.type = 5 ∨ r.type = 6 ∨ r.type = 12 ∨ r.type = 16 ∨ r.type = 49 := of_decide_eq_true ht
 unfold dataOk at h
 simp only [Bool.and_eq_true] at h
 obtain ⟨h1, h2, h3, h4⟩ := h
 by_cases e1 : r.type = 1
 ·left
  rw [if_pos e1] at h1
  have := of_decide_eq_true h1
  exact ⟨e1, this.1, this.2, by unfold dataB; rw [if_pos e1]⟩
 by_cases e6 : r.type = 6
 ·right; right; left
  have hn : named r.type = true := decide_eq_true (by omega)
  rw [if_pos hn] at h2
  rw [if_pos e6] at h4
  have h5 := of_decide_eq_true h4
  obtain ⟨x, y, hxy⟩ := two_of h5.1
  rw [hxy] at h5
  refine ⟨e6, h2, x, y, hxy, h5.2.1, h5.2.2.1, h5.2.2.2.1, h5.2.2.2.2, ?_⟩
  unfold dataB
  rw [if_neg e1, if_pos e6, hxy]
  rfl
 by_cases en : r.type = 2 ∨ r.type = 5 ∨ r.type = 12
 ·right; left
  have hn : named r.type = true := decide_eq_true (by omega)
  rw [if_pos hn] at h2
  exact ⟨en, h2, by unfold dataB; rw [if_neg e1, if_neg e6, if_pos hn]⟩
 ·right; right; right
  have hx : texted r.type = true := decide_eq_true (by omega)
  have hn : ¬ named r.type = true := by
   intro hh
   have : r.type = 2 ∨ r.type = 5 ∨ r.type = 6 ∨ r.type = 12 := of_decide_eq_true hh
   omega
  rw [if_pos hx] at h3
  exact ⟨by omega, of_decide_eq_true h3, by unfold dataB; rw [if_neg e1, if_neg e6, if_neg hn]⟩
theorem rrOk_parts {r : Rec} (h : rrOk r = true) : nameOk r.name = true ∧ typeOk r.type = true ∧ 0 ≤ r.ttl ∧ r.ttl ≤ 100000 ∧ dataOk r = true := by
 unfold rrOk at h
 simp only [Bool.and_eq_true] at h
 have := of_decide_eq_true h.2.2.1
 exact ⟨h.1, h.2.1, this.1, this.2, h.2.2.2⟩
end Go.Proofs.YtaehfeobfkaicaaGreat

namespace Go.Proofs.YtaehfeobfkaicaaGreat
open Go.RowKit

end Go.Proofs.YtaehfeobfkaicaaGreat

namespace Go.Proofs.YtaehfeobfkaicaaGreat
open Go.RowKit
set_option linter.unusedVariables false

def rrsOk (l : List Rec) : Bool := decide (l.length ≤ 12) && l.all rrOk
theorem all_take {α : Type} {p : α → Bool} (l : List α) (d : α) : ∀ k, (∀ j, j < k → j < l.length → p (l.getD j d) = true) → (l.take k).all p = true := by
 intro k hk
 rw [List.all_eq_true]
 intro x hx
 obtain ⟨j, hj, e⟩ := List.getElem_of_mem hx
 rw [List.length_take] at hj
 have := hk j (by omega) (by omega)
 rw [List.getD_eq_getElem?_getD, List.getElem?_eq_getElem (by omega), Option.getD_some] at this
 rw [← e, List.getElem_take]
 exact this
theorem all_of {α : Type} {p : α → Bool} (l : List α) (d : α) (h : ∀ j, j < l.length → p (l.getD j d) = true) : l.all p = true := by
 have := all_take (p := p) l d l.length (fun j _ hj => h j hj)
 rwa [List.take_length] at this
theorem all_not {α : Type} {p : α → Bool} (l : List α) (d : α) {k : Nat} (hk : k < l.length) (h : p (l.getD k d) = false) : l.all p = false := by
 rw [List.all_eq_false]
 refine ⟨l[k], List.getElem_mem hk, ?_⟩
 rw [List.getD_eq_getElem?_getD, List.getElem?_eq_getElem hk, Option.getD_some] at h
 simp [h]
theorem all_at {α : Type} {p : α → Bool} {l : List α} (d : α) (h : l.all p = true) {k : Nat} (hk : k < l.length) : p (l.getD k d) = true := by
 rw [List.all_eq_true] at h
 rw [List.getD_eq_getElem?_getD, List.getElem?_eq_getElem hk, Option.getD_some]
 exact h _ (List.getElem_mem hk)

/-! Bytes. -/
end Go.Proofs.YtaehfeobfkaicaaGreat

namespace Go.Proofs.YtaehfeobfkaicaaGreat
open Go.RowKit

def cmpB (a b : List Int) : Int := Lib.compareBytes (strOfNums a).data.toList (strOfNums b).data.toList

theorem compare_less : ∀ (a b : List UInt8), Op.bytesLess a b = decide (Lib.compareBytes a b = -1)
 | [], [] => rfl
 | [], _ :: _ => rfl
 | _ :: _, [] => rfl
 | x :: a, y :: b => by
  have ih := compare_less a b
  unfold Op.bytesLess Lib.compareBytes
  by_cases h1 : x < y
  ·simp [h1]
  ·by_cases h2 : y < x
   ·have : (x == y) = false := by
     apply beq_eq_false_iff_ne.2
     intro e; subst e; exact UInt8.lt_irrefl x h2
    simp [h1, h2, this]
   ·have e : x = y := UInt8.le_antisymm (UInt8.not_lt.1 h2) (UInt8.not_lt.1 h1)
    subst e
    simp [h1, ih]

theorem compare_zero : ∀ (a b : List UInt8), (a == b) = decide (Lib.compareBytes a b = 0)
 | [], [] => rfl
 | [], _ :: _ => rfl
 | _ :: _, [] => rfl
 | x :: a, y :: b => by
  have ih := compare_zero a b
  unfold Lib.compareBytes
  rw [List.cons_beq_cons]
  by_cases h1 : x < y
  ·have : (x == y) = false := by
    apply beq_eq_false_iff_ne.2
    intro e; subst e; exact UInt8.lt_irrefl x h1
   simp [h1, this]
  ·by_cases h2 : y < x
   ·have : (x == y) = false := by
     apply beq_eq_false_iff_ne.2
     intro e; subst e; exact UInt8.lt_irrefl x h2
    simp [h1, h2, this]
   ·have e : x = y := UInt8.le_antisymm (UInt8.not_lt.1 h2) (UInt8.not_lt.1 h1)
    subst e
    simp only [h1, if_false, beq_self_eq_true, Bool.true_and]
    exact ih

theorem compare_cases : ∀ (a b : List UInt8), Lib.compareBytes a b = -1 ∨ Lib.compareBytes a b = 0 ∨ Lib.compareBytes a b = 1
 | [], [] => .inr (.inl rfl)
 | [], _ :: _ => .inl rfl
 | _ :: _, [] => .inr (.inr rfl)
 | x :: a, y :: b => by
  unfold Lib.compareBytes
  split
  ·exact .inl rfl
  ·split
   ·exact .inr (.inr rfl)
   ·exact compare_cases a b

theorem str_less (a b : List Int) : Op.bytesLess (strOfNums a).toList (strOfNums b).toList = decide (cmpB a b = -1) := by
 rw [ByteArray.toList_eq, ByteArray.toList_eq, compare_less]; rfl
theorem str_same (a b : List Int) : ((strOfNums a).toList == (strOfNums b).toList) = decide (cmpB a b = 0) := by
 rw [ByteArray.toList_eq, ByteArray.toList_eq, compare_zero]; rfl
theorem cmpB_cases (a b : List Int) : cmpB a b = -1 ∨ cmpB a b = 0 ∨ cmpB a b = 1 := compare_cases _ _

theorem run_bytesOf_has {P : Program} {w : World} {v : Value} {l : List Int} (h : Has w v l) : (Extern.Bytes.bytesOf v).run P w = .ok (strOfNums l) w := by
 rcases h with ⟨rfl, rfl⟩ | ⟨g, off, cap, rfl, _, _, _, hc⟩
 ·rfl
 ·have hl := Lib.run_loadBytesX (P := P) w l ⟨g, off, none⟩ .empty (fun j x hj => by
   have hjl : j < l.length := (List.getElem?_eq_some_iff.1 hj).1
   rw [Addr.add_lit, hc j hjl]
   simp [hj])
  show (Extern.Bytes.loadBytes ⟨g, off, none⟩ l.length .empty).run P w = _
  rw [hl]
  congr 1
  simp [strOfNums, Lib.bytesOf, ByteArray.empty, ByteArray.emptyWithCapacity]
  rfl

theorem run_compare_has {P : Program} {w : World} {v v' : Value} {l l' : List Int} (h : Has w v l) (h' : Has w v' l') :
  (Extern.BytealgCompare.compare #[v, v']).run P w = .ok (.int .i64 (cmpB l l')) w := by
 change Sem.run P (do pure (goInt (Extern.BytealgCompare.cmp (← Extern.Bytes.bytesOf v) (← Extern.Bytes.bytesOf v')))) w = _
 simp only [Sem.run_bind, run_bytesOf_has h, run_bytesOf_has h', Sem.run_pure, Result.andThen]
 rw [Lib.cmp_eq]
 rfl

def atEnd (a b : List (List Int)) (i : Nat) : Int := cmpB (a.getD (a.length - i) []) (b.getD (b.length - i) [])

theorem atEnd_eq (a b : List (List Int)) (i : Nat) : atEnd a b i = cmpB (a.getD (a.length - i) []) (b.getD (b.length - i) []) := rfl

def byLength (x y : Int) : Int := if x < y then -1 else if y < x then 1 else 0

def cmpN (a b : List (List Int)) : Int :=
 match (List.range (min a.length b.length)).find? (fun j => atEnd a b (j + 1) != 0) with
 | some j => atEnd a b (j + 1)
 | none => byLength a.length b.length

theorem cmpN_hit {a b : List (List Int)} {k : Nat} (h1 : 1 ≤ k) (h2 : k ≤ a.length) (h3 : k ≤ b.length) (hz : ∀ j, 1 ≤ j → j < k → atEnd a b j = 0) (hk : atEnd a b k ≠ 0) : cmpN a b = atEnd a b k := by
 have : (List.range (min a.length b.length)).find? (fun j => atEnd a b (j + 1) != 0) = some (k - 1) := by
  rw [List.find?_range_eq_some]
  refine ⟨by rw [Nat.sub_add_cancel h1]; simpa using hk, by simp; omega, fun j hj => ?_⟩
  have := hz (j + 1) (by omega) (by omega)
  simp [this]
 unfold cmpN
 rw [this]
 show atEnd a b (k - 1 + 1) = _
 rw [Nat.sub_add_cancel h1]

theorem cmpN_none {a b : List (List Int)} {k : Nat} (hk : a.length < k ∨ b.length < k) (hz : ∀ j, 1 ≤ j → j < k → atEnd a b j = 0) : cmpN a b = byLength a.length b.length := by
 have : (List.range (min a.length b.length)).find? (fun j => atEnd a b (j + 1) != 0) = none := by
  rw [List.find?_range_eq_none]
  intro j hj
  have := hz (j + 1) (by omega) (by omega)
  simp [this]
 unfold cmpN
 rw [this]

def nameCmp (a b : List (List Int)) : Int := if nameOk a = true ∧ nameOk b = true then cmpN a b else 0
end Go.Proofs.YtaehfeobfkaicaaGreat

namespace Go.Proofs.YtaehfeobfkaicaaGreat
open Go.RowKit

def cmpR (a b : Rec) : Int := if cmpN a.name b.name ≠ 0 then cmpN a.name b.name else if byLength a.type b.type ≠ 0 then byLength a.type b.type else cmpB (dataB a) (dataB b)
def rrCmp (a b : Rec) : Int := if rrOk a = true ∧ rrOk b = true then cmpR a b else 0
theorem byLength_zero {x y : Int} (h : byLength x y = 0) : x = y := by
 unfold byLength at h
 split at h
 ·omega
 ·split at h
  ·omega
  ·omega
end Go.Proofs.YtaehfeobfkaicaaGreat
