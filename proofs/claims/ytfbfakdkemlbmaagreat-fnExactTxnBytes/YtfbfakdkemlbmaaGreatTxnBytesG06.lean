/-
  Plain facts: transactions as lists and numbers, and how they lie in memory. No program is named here. What is known of a transaction that came in as an argument. Messages that own their lists. Plain facts: a block of two cells. Contracts of the helpers of the laws for slices of numbers (toIntS, eqIntS, markIntS, heldIntS).
-/
import Derived.Test.YtfbfakdkemlbmaaGreatTxnBytesG05
import Derived.Test.YtfbfakdkemlbmaaGreatTxnBytesG03
import Derived.Test.YtfbfakdkemlbmaaGreatTxnBytesG04
import Derived.Test.YtfbfakdkemlbmaaGreatTxnBytesG00
import Derived.Test.YtfbfakdkemlbmaaGreatTxnBytesG02
namespace Go.Proofs.YtfbfakdkemlbmaaGreat
open Go.RowKit
set_option linter.unusedVariables false

structure Tx where
 kind : Int
 msg : Mg
 ip : Int
 client : List Int
 host : List Int
 when : Int
structure InTx (w : World) (aq aa ab am ap au ac ah : Option Addr) (t : Tx) : Prop where
 msg : InM w aq aa ab am ap au t.msg
 client : Lies w ac t.client
 host : Lies w ah t.host
theorem InTx.below {w w' : World} {aq aa ab am ap au ac ah : Option Addr} {t : Tx} (h : InTx w aq aa ab am ap au ac ah t) (hb : Below w.heap.size w w') : InTx w' aq aa ab am ap au ac ah t := ⟨h.msg.below hb, h.client.below hb, h.host.below hb⟩
structure HasTx (w : World) (vq va vb vm vp vu vc vh : Value) (t : Tx) : Prop where
 msg : HasM w vq va vb vm vp vu t.msg
 client : Has w vc t.client
 host : Has w vh t.host
theorem HasTx.below {w w' : World} {vq va vb vm vp vu vc vh : Value} {t : Tx} (h : HasTx w vq va vb vm vp vu vc vh t) (hb : Below w.heap.size w w') : HasTx w' vq va vb vm vp vu vc vh t := ⟨h.msg.below hb, h.client.below hb, h.host.below hb⟩
structure SizeTx (s : Nat) (t : Tx) : Prop where
 msg : SizeM s t.msg
 count : t.msg.count ≤ s
 client : t.client.length ≤ s
 host : t.host.length ≤ s
theorem SizeTx.mono {s s' : Nat} {t : Tx} (h : SizeTx s t) (hs : s ≤ s') : SizeTx s' t := ⟨h.msg.mono hs, Nat.le_trans h.count hs, Nat.le_trans h.client hs, Nat.le_trans h.host hs⟩
theorem cells16 {w : World} {b : Nat} {c0 c1 c2 c3 c4 c5 c6 c7 c8 c9 c10 c11 c12 c13 c14 c15 : Value} {t : TypeId} (h : w.heap[b]? = some (.cells #[c0, c1, c2, c3, c4, c5, c6, c7, c8, c9, c10, c11, c12, c13, c14, c15] t)) :
  w.cell? ⟨b, 0, none⟩ = some c0 ∧ w.cell? ⟨b, 1, none⟩ = some c1 ∧ w.cell? ⟨b, 2, none⟩ = some c2 ∧ w.cell? ⟨b, 3, none⟩ = some c3 ∧ w.cell? ⟨b, 4, none⟩ = some c4 ∧ w.cell? ⟨b, 5, none⟩ = some c5 ∧ w.cell? ⟨b, 6, none⟩ = some c6 ∧ w.cell? ⟨b, 7, none⟩ = some c7 ∧ w.cell? ⟨b, 8, none⟩ = some c8 ∧ w.cell? ⟨b, 9, none⟩ = some c9 ∧ w.cell? ⟨b, 10, none⟩ = some c10 ∧ w.cell? ⟨b, 11, none⟩ = some c11 ∧ w.cell? ⟨b, 12, none⟩ = some c12 ∧ w.cell? ⟨b, 13, none⟩ = some c13 ∧ w.cell? ⟨b, 14, none⟩ = some c14 ∧ w.cell? ⟨b, 15, none⟩ = some c15 :=
 ⟨block_cell h 0, block_cell h 1, block_cell h 2, block_cell h 3, block_cell h 4, block_cell h 5, block_cell h 6, block_cell h 7, block_cell h 8, block_cell h 9, block_cell h 10, block_cell h 11, block_cell h 12, block_cell h 13, block_cell h 14, block_cell h 15⟩
theorem frozen16 {w : World} {b : Nat} {c : Array Value} {t : TypeId} (h : w.heap[b]? = some (.cells c t)) :
  w.frozen? ⟨b, 0, none⟩ = false ∧ w.frozen? ⟨b, 1, none⟩ = false ∧ w.frozen? ⟨b, 2, none⟩ = false ∧ w.frozen? ⟨b, 3, none⟩ = false ∧ w.frozen? ⟨b, 4, none⟩ = false ∧ w.frozen? ⟨b, 5, none⟩ = false ∧ w.frozen? ⟨b, 6, none⟩ = false ∧ w.frozen? ⟨b, 7, none⟩ = false ∧ w.frozen? ⟨b, 8, none⟩ = false ∧ w.frozen? ⟨b, 9, none⟩ = false ∧ w.frozen? ⟨b, 10, none⟩ = false ∧ w.frozen? ⟨b, 11, none⟩ = false ∧ w.frozen? ⟨b, 12, none⟩ = false ∧ w.frozen? ⟨b, 13, none⟩ = false ∧ w.frozen? ⟨b, 14, none⟩ = false ∧ w.frozen? ⟨b, 15, none⟩ = false :=
 ⟨block_frozen h 0, block_frozen h 1, block_frozen h 2, block_frozen h 3, block_frozen h 4, block_frozen h 5, block_frozen h 6, block_frozen h 7, block_frozen h 8, block_frozen h 9, block_frozen h 10, block_frozen h 11, block_frozen h 12, block_frozen h 13, block_frozen h 14, block_frozen h 15⟩
def set16 (w : World) (b : Nat) (c0 c1 c2 c3 c4 c5 c6 c7 c8 c9 c10 c11 c12 c13 c14 c15 : Value) : World := (((((((((((((((w.setCell ⟨b, 0, none⟩ c0).setCell ⟨b, 1, none⟩ c1).setCell ⟨b, 2, none⟩ c2).setCell ⟨b, 3, none⟩ c3).setCell ⟨b, 4, none⟩ c4).setCell ⟨b, 5, none⟩ c5).setCell ⟨b, 6, none⟩ c6).setCell ⟨b, 7, none⟩ c7).setCell ⟨b, 8, none⟩ c8).setCell ⟨b, 9, none⟩ c9).setCell ⟨b, 10, none⟩ c10).setCell ⟨b, 11, none⟩ c11).setCell ⟨b, 12, none⟩ c12).setCell ⟨b, 13, none⟩ c13).setCell ⟨b, 14, none⟩ c14).setCell ⟨b, 15, none⟩ c15
theorem set16_is {w : World} {b : Nat} {c0 c1 c2 c3 c4 c5 c6 c7 c8 c9 c10 c11 c12 c13 c14 c15 a0 a1 a2 a3 a4 a5 a6 a7 a8 a9 a10 a11 a12 a13 a14 a15 : Value} {t : TypeId} (h : w.heap[b]? = some (.cells #[a0, a1, a2, a3, a4, a5, a6, a7, a8, a9, a10, a11, a12, a13, a14, a15] t)) :
  (set16 w b c0 c1 c2 c3 c4 c5 c6 c7 c8 c9 c10 c11 c12 c13 c14 c15).heap[b]? = some (.cells #[c0, c1, c2, c3, c4, c5, c6, c7, c8, c9, c10, c11, c12, c13, c14, c15] t) ∧ Outside b (b + 1) w (set16 w b c0 c1 c2 c3 c4 c5 c6 c7 c8 c9 c10 c11 c12 c13 c14 c15) := by
 unfold set16
 have u0 : Outside b (b + 1) w w := Outside.refl _ _ _
 have h1 : (w.setCell ⟨b, 0, none⟩ c0).heap[b]? = some (.cells #[c0, a1, a2, a3, a4, a5, a6, a7, a8, a9, a10, a11, a12, a13, a14, a15] t) := block_setAt h 0 c0
 have u1 := u0.trans (outside_set w b 0 c0)
 generalize w.setCell ⟨b, 0, none⟩ c0 = w1 at *
 have h2 : (w1.setCell ⟨b, 1, none⟩ c1).heap[b]? = some (.cells #[c0, c1, a2, a3, a4, a5, a6, a7, a8, a9, a10, a11, a12, a13, a14, a15] t) := block_setAt h1 1 c1
 have u2 := u1.trans (outside_set w1 b 1 c1)
 generalize w1.setCell ⟨b, 1, none⟩ c1 = w2 at *
 have h3 : (w2.setCell ⟨b, 2, none⟩ c2).heap[b]? = some (.cells #[c0, c1, c2, a3, a4, a5, a6, a7, a8, a9, a10, a11, a12, a13, a14, a15] t) := block_setAt h2 2 c2
 have u3 := u2.trans (outside_set w2 b 2 c2)
 generalize w2.setCell ⟨b, 2, none⟩ c2 = w3 at *
 have h4 : (w3.setCell ⟨b, 3, none⟩ c3).heap[b]? = some (.cells #[c0, c1, c2, c3, a4, a5, a6, a7, a8, a9, a10, a11, a12, a13, a14, a15] t) := block_setAt h3 3 c3
 have u4 := u3.trans (outside_set w3 b 3 c3)
 generalize w3.setCell ⟨b, 3, none⟩ c3 = w4 at *
 have h5 : (w4.setCell ⟨b, 4, none⟩ c4).heap[b]? = some (.cells #[c0, c1, c2, c3, c4, a5, a6, a7, a8, a9, a10, a11, a12, a13, a14, a15] t) := block_setAt h4 4 c4
 have u5 := u4.trans (outside_set w4 b 4 c4)
 generalize w4.setCell ⟨b, 4, none⟩ c4 = w5 at *
 have h6 : (w5.setCell ⟨b, 5, none⟩ c5).heap[b]? = some (.cells #[c0, c1, c2, c3, c4, c5, a6, a7, a8, a9, a10, a11, a12, a13, a14, a15] t) := block_setAt h5 5 c5
 have u6 := u5.trans (outside_set w5 b 5 c5)
 generalize w5.setCell ⟨b, 5, none⟩ c5 = w6 at *
 have h7 : (w6.setCell ⟨b, 6, none⟩ c6).heap[b]? = some (.cells #[c0, c1, c2, c3, c4, c5, c6, a7, a8, a9, a10, a11, a12, a13, a14, a15] t) := block_setAt h6 6 c6
 have u7 := u6.trans (outside_set w6 b 6 c6)
 generalize w6.setCell ⟨b, 6, none⟩ c6 = w7 at *
 have h8 : (w7.setCell ⟨b, 7, none⟩ c7).heap[b]? = some (.cells #[c0, c1, c2, c3, c4, c5, c6, c7, a8, a9, a10, a11, a12, a13, a14, a15] t) := block_setAt h7 7 c7
 have u8 := u7.trans (outside_set w7 b 7 c7)
 generalize w7.setCell ⟨b, 7, none⟩ c7 = w8 at *
 have h9 : (w8.setCell ⟨b, 8, none⟩ c8).heap[b]? = some (.cells #[c0, c1, c2, c3, c4, c5, c6, c7, c8, a9, a10, a11, a12, a13, a14, a15] t) := block_setAt h8 8 c8
 have u9 := u8.trans (outside_set w8 b 8 c8)
 generalize w8.setCell ⟨b, 8, none⟩ c8 = w9 at *
 have h10 : (w9.setCell ⟨b, 9, none⟩ c9).heap[b]? = some (.cells #[c0, c1, c2, c3, c4, c5, c6, c7, c8, c9, a10, a11, a12, a13, a14, a15] t) := block_setAt h9 9 c9
 have u10 := u9.trans (outside_set w9 b 9 c9)
 generalize w9.setCell ⟨b, 9, none⟩ c9 = w10 at *
 have h11 : (w10.setCell ⟨b, 10, none⟩ c10).heap[b]? = some (.cells #[c0, c1, c2, c3, c4, c5, c6, c7, c8, c9, c10, a11, a12, a13, a14, a15] t) := block_setAt h10 10 c10
 have u11 := u10.trans (outside_set w10 b 10 c10)
 generalize w10.setCell ⟨b, 10, none⟩ c10 = w11 at *
 have h12 : (w11.setCell ⟨b, 11, none⟩ c11).heap[b]? = some (.cells #[c0, c1, c2, c3, c4, c5, c6, c7, c8, c9, c10, c11, a12, a13, a14, a15] t) := block_setAt h11 11 c11
 have u12 := u11.trans (outside_set w11 b 11 c11)
 generalize w11.setCell ⟨b, 11, none⟩ c11 = w12 at *
 have h13 : (w12.setCell ⟨b, 12, none⟩ c12).heap[b]? = some (.cells #[c0, c1, c2, c3, c4, c5, c6, c7, c8, c9, c10, c11, c12, a13, a14, a15] t) := block_setAt h12 12 c12
 have u13 := u12.trans (outside_set w12 b 12 c12)
 generalize w12.setCell ⟨b, 12, none⟩ c12 = w13 at *
 have h14 : (w13.setCell ⟨b, 13, none⟩ c13).heap[b]? = some (.cells #[c0, c1, c2, c3, c4, c5, c6, c7, c8, c9, c10, c11, c12, c13, a14, a15] t) := block_setAt h13 13 c13
 have u14 := u13.trans (outside_set w13 b 13 c13)
 generalize w13.setCell ⟨b, 13, none⟩ c13 = w14 at *
 have h15 : (w14.setCell ⟨b, 14, none⟩ c14).heap[b]? = some (.cells #[c0, c1, c2, c3, c4, c5, c6, c7, c8, c9, c10, c11, c12, c13, c14, a15] t) := block_setAt h14 14 c14
 have u15 := u14.trans (outside_set w14 b 14 c14)
 generalize w14.setCell ⟨b, 14, none⟩ c14 = w15 at *
 have h16 : (w15.setCell ⟨b, 15, none⟩ c15).heap[b]? = some (.cells #[c0, c1, c2, c3, c4, c5, c6, c7, c8, c9, c10, c11, c12, c13, c14, c15] t) := block_setAt h15 15 c15
 have u16 := u15.trans (outside_set w15 b 15 c15)
 exact ⟨h16, u16⟩
def setmsg (w : World) (b : Nat) (c1 c2 c3 c4 c5 c6 c7 c8 c9 c10 c11 c12 : Value) : World := (((((((((((w.setCell ⟨b, 1, none⟩ c1).setCell ⟨b, 2, none⟩ c2).setCell ⟨b, 3, none⟩ c3).setCell ⟨b, 4, none⟩ c4).setCell ⟨b, 5, none⟩ c5).setCell ⟨b, 6, none⟩ c6).setCell ⟨b, 7, none⟩ c7).setCell ⟨b, 8, none⟩ c8).setCell ⟨b, 9, none⟩ c9).setCell ⟨b, 10, none⟩ c10).setCell ⟨b, 11, none⟩ c11).setCell ⟨b, 12, none⟩ c12
theorem setmsg_is {w : World} {b : Nat} {c1 c2 c3 c4 c5 c6 c7 c8 c9 c10 c11 c12 a0 a1 a2 a3 a4 a5 a6 a7 a8 a9 a10 a11 a12 a13 a14 a15 : Value} {t : TypeId} (h : w.heap[b]? = some (.cells #[a0, a1, a2, a3, a4, a5, a6, a7, a8, a9, a10, a11, a12, a13, a14, a15] t)) :
  (setmsg w b c1 c2 c3 c4 c5 c6 c7 c8 c9 c10 c11 c12).heap[b]? = some (.cells #[a0, c1, c2, c3, c4, c5, c6, c7, c8, c9, c10, c11, c12, a13, a14, a15] t) ∧ Outside b (b + 1) w (setmsg w b c1 c2 c3 c4 c5 c6 c7 c8 c9 c10 c11 c12) := by
 unfold setmsg
 have u0 : Outside b (b + 1) w w := Outside.refl _ _ _
 have h1 : (w.setCell ⟨b, 1, none⟩ c1).heap[b]? = some (.cells #[a0, c1, a2, a3, a4, a5, a6, a7, a8, a9, a10, a11, a12, a13, a14, a15] t) := block_setAt h 1 c1
 have u1 := u0.trans (outside_set w b 1 c1)
 generalize w.setCell ⟨b, 1, none⟩ c1 = w1 at *
 have h2 : (w1.setCell ⟨b, 2, none⟩ c2).heap[b]? = some (.cells #[a0, c1, c2, a3, a4, a5, a6, a7, a8, a9, a10, a11, a12, a13, a14, a15] t) := block_setAt h1 2 c2
 have u2 := u1.trans (outside_set w1 b 2 c2)
 generalize w1.setCell ⟨b, 2, none⟩ c2 = w2 at *
 have h3 : (w2.setCell ⟨b, 3, none⟩ c3).heap[b]? = some (.cells #[a0, c1, c2, c3, a4, a5, a6, a7, a8, a9, a10, a11, a12, a13, a14, a15] t) := block_setAt h2 3 c3
 have u3 := u2.trans (outside_set w2 b 3 c3)
 generalize w2.setCell ⟨b, 3, none⟩ c3 = w3 at *
 have h4 : (w3.setCell ⟨b, 4, none⟩ c4).heap[b]? = some (.cells #[a0, c1, c2, c3, c4, a5, a6, a7, a8, a9, a10, a11, a12, a13, a14, a15] t) := block_setAt h3 4 c4
 have u4 := u3.trans (outside_set w3 b 4 c4)
 generalize w3.setCell ⟨b, 4, none⟩ c4 = w4 at *
 have h5 : (w4.setCell ⟨b, 5, none⟩ c5).heap[b]? = some (.cells #[a0, c1, c2, c3, c4, c5, a6, a7, a8, a9, a10, a11, a12, a13, a14, a15] t) := block_setAt h4 5 c5
 have u5 := u4.trans (outside_set w4 b 5 c5)
 generalize w4.setCell ⟨b, 5, none⟩ c5 = w5 at *
 have h6 : (w5.setCell ⟨b, 6, none⟩ c6).heap[b]? = some (.cells #[a0, c1, c2, c3, c4, c5, c6, a7, a8, a9, a10, a11, a12, a13, a14, a15] t) := block_setAt h5 6 c6
 have u6 := u5.trans (outside_set w5 b 6 c6)
 generalize w5.setCell ⟨b, 6, none⟩ c6 = w6 at *
 have h7 : (w6.setCell ⟨b, 7, none⟩ c7).heap[b]? = some (.cells #[a0, c1, c2, c3, c4, c5, c6, c7, a8, a9, a10, a11, a12, a13, a14, a15] t) := block_setAt h6 7 c7
 have u7 := u6.trans (outside_set w6 b 7 c7)
 generalize w6.setCell ⟨b, 7, none⟩ c7 = w7 at *
 have h8 : (w7.setCell ⟨b, 8, none⟩ c8).heap[b]? = some (.cells #[a0, c1, c2, c3, c4, c5, c6, c7, c8, a9, a10, a11, a12, a13, a14, a15] t) := block_setAt h7 8 c8
 have u8 := u7.trans (outside_set w7 b 8 c8)
 generalize w7.setCell ⟨b, 8, none⟩ c8 = w8 at *
 have h9 : (w8.setCell ⟨b, 9, none⟩ c9).heap[b]? = some (.cells #[a0, c1, c2, c3, c4, c5, c6, c7, c8, c9, a10, a11, a12, a13, a14, a15] t) := block_setAt h8 9 c9
 have u9 := u8.trans (outside_set w8 b 9 c9)
 generalize w8.setCell ⟨b, 9, none⟩ c9 = w9 at *
 have h10 : (w9.setCell ⟨b, 10, none⟩ c10).heap[b]? = some (.cells #[a0, c1, c2, c3, c4, c5, c6, c7, c8, c9, c10, a11, a12, a13, a14, a15] t) := block_setAt h9 10 c10
 have u10 := u9.trans (outside_set w9 b 10 c10)
 generalize w9.setCell ⟨b, 10, none⟩ c10 = w10 at *
 have h11 : (w10.setCell ⟨b, 11, none⟩ c11).heap[b]? = some (.cells #[a0, c1, c2, c3, c4, c5, c6, c7, c8, c9, c10, c11, a12, a13, a14, a15] t) := block_setAt h10 11 c11
 have u11 := u10.trans (outside_set w10 b 11 c11)
 generalize w10.setCell ⟨b, 11, none⟩ c11 = w11 at *
 have h12 : (w11.setCell ⟨b, 12, none⟩ c12).heap[b]? = some (.cells #[a0, c1, c2, c3, c4, c5, c6, c7, c8, c9, c10, c11, c12, a13, a14, a15] t) := block_setAt h11 12 c12
 have u12 := u11.trans (outside_set w11 b 12 c12)
 exact ⟨h12, u12⟩
end Go.Proofs.YtfbfakdkemlbmaaGreat

namespace Go.Proofs.YtfbfakdkemlbmaaGreat
open Go.RowKit Go.ChangeShapes Go.WideShapes Go.ChangeAt

set_option maxRecDepth 100000 in
theorem open_msgCells {H : Type} {enc : TypeId × Value → H} {w : World} {sp : Nat → Bool} {held : Bool} {fuel : Nat} {c0 c1 c2 c3 c4 c5 c6 c7 c8 c9 c10 : Value} {x : DataW H × List MemPlace} (hsp : ∀ b, sp b = true) (hf0 : DataW.trod enc Tryz.prog w 0 sp held fuel 26 [c0, c1, c2, c3, c4, c5, c6, c7, c8, c9, c10] = some x) :
  ∃ (aq : Option Addr) (cq : Nat) (aa : Option Addr) (ca : Nat) (ab : Option Addr) (cb : Nat) (am : Option Addr) (cm : Nat) (ap : Option Addr) (cp : Nat) (au : Option Addr) (cu : Nat) (m : Mg),
   [c0, c1, c2, c3, c4, c5, c6, c7, c8, c9, c10] = [.int .i64 m.id, .bool m.reply, .int .i64 m.op, .bool m.auth, .int .i64 m.code, .slice aq m.qs.length cq, .slice aa m.ans.length ca, .slice ab m.aus.length cb, .slice am m.more.length cm, .slice ap m.pres.length cp, .slice au m.ups.length cu] ∧ (Lit.int .i64 m.id).wf = true ∧ (Lit.int .i64 m.op).wf = true ∧ (Lit.int .i64 m.code).wf = true ∧ InM w aq aa ab am ap au m ∧ (m.qs.length ≤ maxLen ∧ m.ans.length ≤ maxLen ∧ m.aus.length ≤ maxLen ∧ m.more.length ≤ maxLen ∧ m.pres.length ≤ maxLen ∧ m.ups.length ≤ maxLen) ∧ SizeM maxLen m := by
 obtain ⟨xs, n, _, _, _, hlen, hf⟩ := DataW.trod_struct Tryz.underlying26 hf0
 match xs, hlen with
 | [y0, y1, y2, y3, y4, y5, y6, y7, y8, y9, y10], _ =>
  have h0 : DataW.trod enc Tryz.prog w 0 sp held n 3 (([c0, c1, c2, c3, c4, c5, c6, c7, c8, c9, c10].drop 0).take (Tryz.prog.cellsOf 3)) = some y0 := hf 0 _ rfl
  have h1 : DataW.trod enc Tryz.prog w 0 sp held n 4 (([c0, c1, c2, c3, c4, c5, c6, c7, c8, c9, c10].drop 1).take (Tryz.prog.cellsOf 4)) = some y1 := hf 1 _ rfl
  have h2 : DataW.trod enc Tryz.prog w 0 sp held n 3 (([c0, c1, c2, c3, c4, c5, c6, c7, c8, c9, c10].drop 2).take (Tryz.prog.cellsOf 3)) = some y2 := hf 2 _ rfl
  have h3 : DataW.trod enc Tryz.prog w 0 sp held n 4 (([c0, c1, c2, c3, c4, c5, c6, c7, c8, c9, c10].drop 3).take (Tryz.prog.cellsOf 4)) = some y3 := hf 3 _ rfl
  have h4 : DataW.trod enc Tryz.prog w 0 sp held n 3 (([c0, c1, c2, c3, c4, c5, c6, c7, c8, c9, c10].drop 4).take (Tryz.prog.cellsOf 3)) = some y4 := hf 4 _ rfl
  have h5 : DataW.trod enc Tryz.prog w 0 sp held n 22 (([c0, c1, c2, c3, c4, c5, c6, c7, c8, c9, c10].drop 5).take (Tryz.prog.cellsOf 22)) = some y5 := hf 5 _ rfl
  have h6 : DataW.trod enc Tryz.prog w 0 sp held n 23 (([c0, c1, c2, c3, c4, c5, c6, c7, c8, c9, c10].drop 6).take (Tryz.prog.cellsOf 23)) = some y6 := hf 6 _ rfl
  have h7 : DataW.trod enc Tryz.prog w 0 sp held n 23 (([c0, c1, c2, c3, c4, c5, c6, c7, c8, c9, c10].drop 7).take (Tryz.prog.cellsOf 23)) = some y7 := hf 7 _ rfl
  have h8 : DataW.trod enc Tryz.prog w 0 sp held n 23 (([c0, c1, c2, c3, c4, c5, c6, c7, c8, c9, c10].drop 8).take (Tryz.prog.cellsOf 23)) = some y8 := hf 8 _ rfl
  have h9 : DataW.trod enc Tryz.prog w 0 sp held n 24 (([c0, c1, c2, c3, c4, c5, c6, c7, c8, c9, c10].drop 9).take (Tryz.prog.cellsOf 24)) = some y9 := hf 9 _ rfl
  have h10 : DataW.trod enc Tryz.prog w 0 sp held n 24 (([c0, c1, c2, c3, c4, c5, c6, c7, c8, c9, c10].drop 10).take (Tryz.prog.cellsOf 24)) = some y10 := hf 10 _ rfl
  rw [cellsInt] at h0
  rw [cellsBool] at h1
  rw [cellsInt] at h2
  rw [cellsBool] at h3
  rw [cellsInt] at h4
  rw [cells_Qs] at h5
  rw [cellsRecs] at h6
  rw [cellsRecs] at h7
  rw [cellsRecs] at h8
  rw [cells_Ws] at h9
  rw [cells_Ws] at h10
  simp only [List.drop_zero, List.drop_succ_cons, List.take_succ_cons, List.take_zero] at h0 h1 h2 h3 h4 h5 h6 h7 h8 h9 h10
  obtain ⟨t0, e0, _, w0⟩ := DataW.trod_int Tryz.underlying3 h0
  obtain ⟨t1, e1, _⟩ := DataW.trod_bool Tryz.underlying4 h1
  obtain ⟨t2, e2, _, w2⟩ := DataW.trod_int Tryz.underlying3 h2
  obtain ⟨t3, e3, _⟩ := DataW.trod_bool Tryz.underlying4 h3
  obtain ⟨t4, e4, _, w4⟩ := DataW.trod_int Tryz.underlying3 h4
  simp only [List.cons.injEq, and_true] at e0 e1 e2 e3 e4
  subst e0 e1 e2 e3 e4
  obtain ⟨aq, pq, lq, rfl, mq, iq, sq⟩ := open_Questions hsp h5
  obtain ⟨aa, pa, la, rfl, ma, ia, sa⟩ := open_recs hsp h6
  obtain ⟨ab, pb, lb, rfl, mb, ib, sb⟩ := open_recs hsp h7
  obtain ⟨am, pm, lm, rfl, mm, im, sm⟩ := open_recs hsp h8
  obtain ⟨ap, pp, lp, rfl, mp, ip, sp⟩ := open_Wants hsp h9
  obtain ⟨au, pu, lu, rfl, mu, iu, su⟩ := open_Wants hsp h10
  exact ⟨aq, pq, aa, pa, ab, pb, am, pm, ap, pp, au, pu, ⟨t0, t1, t2, t3, t4, lq, la, lb, lm, lp, lu⟩, rfl, w0, w2, w4, ⟨iq, ia, ib, im, ip, iu⟩, ⟨mq, ma, mb, mm, mp, mu⟩, ⟨sq, sa, sb, sm, sp, su⟩⟩

theorem cells_Txn : Tryz.prog.cellsOf 29 = 16 := by kernel_rfl
set_option maxRecDepth 100000 in
theorem open_txn {H : Type} {enc : TypeId × Value → H} {w : World} {r : Reach} {b0 : Nat} {sp : Nat → Bool} {held : Bool} {v : Value} {d : DataW H} {ps : List MemPlace} (hsp : ∀ b, sp b = true)
  (hval : Value.okWide Tryz.prog w r b0 29 v) (h : DataW.Trod enc Tryz.prog w 0 sp held 29 v d ps) :
  ∃ (aq : Option Addr) (cq : Nat) (aa : Option Addr) (ca : Nat) (ab : Option Addr) (cb : Nat) (am : Option Addr) (cm : Nat) (ap : Option Addr) (cp : Nat) (au : Option Addr) (cu : Nat) (ac : Option Addr) (cc : Nat) (ah : Option Addr) (ch : Nat) (t : Tx),
   v = .agg #[.int .i64 t.kind, .int .i64 t.msg.id, .bool t.msg.reply, .int .i64 t.msg.op, .bool t.msg.auth, .int .i64 t.msg.code, .slice aq t.msg.qs.length cq, .slice aa t.msg.ans.length ca, .slice ab t.msg.aus.length cb, .slice am t.msg.more.length cm, .slice ap t.msg.pres.length cp, .slice au t.msg.ups.length cu, .int .i64 t.ip, .slice ac t.client.length cc, .slice ah t.host.length ch, .int .i64 t.when] ∧ InTx w aq aa ab am ap au ac ah t ∧ (t.msg.qs.length ≤ maxLen ∧ t.msg.ans.length ≤ maxLen ∧ t.msg.aus.length ≤ maxLen ∧ t.msg.more.length ≤ maxLen ∧ t.msg.pres.length ≤ maxLen ∧ t.msg.ups.length ≤ maxLen) ∧ SizeM maxLen t.msg ∧ t.client.length ≤ maxLen ∧ t.host.length ≤ maxLen := by
 obtain ⟨cs, rfl, hs⟩ := okWide_struct Tryz.underlying29 hval
 rw [cells_Txn] at hs
 obtain ⟨e0, e1, e2, e3, e4, e5, e6, e7, e8, e9, e10, e11, e12, e13, e14, e15, rfl⟩ : ∃ e0 e1 e2 e3 e4 e5 e6 e7 e8 e9 e10 e11 e12 e13 e14 e15, cs = #[e0, e1, e2, e3, e4, e5, e6, e7, e8, e9, e10, e11, e12, e13, e14, e15] := by
  cases cs with
  | mk l =>
   match l, hs with
   | [e0, e1, e2, e3, e4, e5, e6, e7, e8, e9, e10, e11, e12, e13, e14, e15], _ => exact ⟨e0, e1, e2, e3, e4, e5, e6, e7, e8, e9, e10, e11, e12, e13, e14, e15, rfl⟩
 obtain ⟨fuel, hf0⟩ := h
 have hcells : (Value.agg #[e0, e1, e2, e3, e4, e5, e6, e7, e8, e9, e10, e11, e12, e13, e14, e15]).cells.toList = [e0, e1, e2, e3, e4, e5, e6, e7, e8, e9, e10, e11, e12, e13, e14, e15] := by simp [Value.cells]
 rw [hcells] at hf0
 obtain ⟨xs, n, _, _, _, hlen, hf⟩ := DataW.trod_struct Tryz.underlying29 hf0
 match xs, hlen with
 | [y0, y1, y2, y3, y4, y5], _ =>
  have h0 : DataW.trod enc Tryz.prog w 0 sp held n 3 (([e0, e1, e2, e3, e4, e5, e6, e7, e8, e9, e10, e11, e12, e13, e14, e15].drop 0).take (Tryz.prog.cellsOf 3)) = some y0 := hf 0 _ rfl
  have h1 : DataW.trod enc Tryz.prog w 0 sp held n 26 (([e0, e1, e2, e3, e4, e5, e6, e7, e8, e9, e10, e11, e12, e13, e14, e15].drop 1).take (Tryz.prog.cellsOf 26)) = some y1 := hf 1 _ rfl
  have h2 : DataW.trod enc Tryz.prog w 0 sp held n 3 (([e0, e1, e2, e3, e4, e5, e6, e7, e8, e9, e10, e11, e12, e13, e14, e15].drop 12).take (Tryz.prog.cellsOf 3)) = some y2 := hf 2 _ rfl
  have h3 : DataW.trod enc Tryz.prog w 0 sp held n 27 (([e0, e1, e2, e3, e4, e5, e6, e7, e8, e9, e10, e11, e12, e13, e14, e15].drop 13).take (Tryz.prog.cellsOf 27)) = some y3 := hf 3 _ rfl
  have h4 : DataW.trod enc Tryz.prog w 0 sp held n 27 (([e0, e1, e2, e3, e4, e5, e6, e7, e8, e9, e10, e11, e12, e13, e14, e15].drop 14).take (Tryz.prog.cellsOf 27)) = some y4 := hf 4 _ rfl
  have h5 : DataW.trod enc Tryz.prog w 0 sp held n 3 (([e0, e1, e2, e3, e4, e5, e6, e7, e8, e9, e10, e11, e12, e13, e14, e15].drop 15).take (Tryz.prog.cellsOf 3)) = some y5 := hf 5 _ rfl
  rw [cellsInt] at h0
  rw [cells_Msg] at h1
  rw [cellsInt] at h2
  rw [cellsText] at h3
  rw [cellsText] at h4
  rw [cellsInt] at h5
  simp only [List.drop_zero, List.drop_succ_cons, List.take_succ_cons, List.take_zero] at h0 h1 h2 h3 h4 h5
  obtain ⟨t0, f0, _, _⟩ := DataW.trod_int Tryz.underlying3 h0
  obtain ⟨aq, pq, aa, pa, ab, pb, am, pm, ap, pp, au, pu, m, fm, _, _, _, hI, hL, hS⟩ := open_msgCells hsp h1
  obtain ⟨t2, f2, _, _⟩ := DataW.trod_int Tryz.underlying3 h2
  obtain ⟨ac, pc, lc, g3, q1, q2, _⟩ := ints_lies Tryz.underlying27 Tryz.underlying5 cellsByte hsp h3
  obtain ⟨ah, ph, lh, g4, r1, r2, _⟩ := ints_lies Tryz.underlying27 Tryz.underlying5 cellsByte hsp h4
  obtain ⟨t5, f5, _, _⟩ := DataW.trod_int Tryz.underlying3 h5
  simp only [List.cons.injEq, and_true] at f0 fm f2 f5
  obtain ⟨rfl, rfl, rfl, rfl, rfl, rfl, rfl, rfl, rfl, rfl, rfl⟩ := fm
  subst f0 f2 f5 g3 g4
  exact ⟨aq, pq, aa, pa, ab, pb, am, pm, ap, pp, au, pu, ac, pc, ah, ph, ⟨t0, m, t2, lc, lh, t5⟩, rfl, ⟨hI, q2, r2⟩, hL, hS, q1, r1⟩
end Go.Proofs.YtfbfakdkemlbmaaGreat

namespace Go.Proofs.YtfbfakdkemlbmaaGreat
open Go.RowKit
set_option linter.unusedVariables false

/-- The slices of a message own its lists, in blocks of B .. E - 1, each in a stretch of its own. -/
def OwnM (B E : Nat) (w : World) (vq va vb vm vp vu : Value) (m : Mg) : Prop := ∃ s1 s2 s3 s4 s5, B ≤ s1 ∧ s1 ≤ s2 ∧ s2 ≤ s3 ∧ s3 ≤ s4 ∧ s4 ≤ s5 ∧ s5 ≤ E ∧ RowX 2 (OwnQu 27 5) queZ B s1 102 w vq m.qs ∧ RowO s1 s2 105 27 5 3 w va m.ans ∧ RowO s2 s3 105 27 5 3 w vb m.aus ∧ RowO s3 s4 105 27 5 3 w vm m.more ∧ RowX 9 (OwnWn 27 5 3) wntZ s4 s5 107 w vp m.pres ∧ RowX 9 (OwnWn 27 5 3) wntZ s5 E 107 w vu m.ups
theorem OwnM.below {B E : Nat} {w w' : World} {vq va vb vm vp vu : Value} {m : Mg} (h : OwnM B E w vq va vb vm vp vu m) (hb : Below w.heap.size w w') : OwnM B E w' vq va vb vm vp vu m := by
 obtain ⟨s1, s2, s3, s4, s5, a0, a1, a2, a3, a4, a5, h0, h1, h2, h3, h4, h5⟩ := h
 exact ⟨s1, s2, s3, s4, s5, a0, a1, a2, a3, a4, a5, RowX.below (ownsQu 27 5) h0 hb, RowO.below h1 hb, RowO.below h2 hb, RowO.below h3 hb, RowX.below (ownsWn 27 5 3) h4 hb, RowX.below (ownsWn 27 5 3) h5 hb⟩
theorem OwnM.outside {B E C D : Nat} {w w' : World} {vq va vb vm vp vu : Value} {m : Mg} (h : OwnM B E w vq va vb vm vp vu m) (u : Outside C D w w') (hd : E ≤ C ∨ D ≤ B) : OwnM B E w' vq va vb vm vp vu m := by
 obtain ⟨s1, s2, s3, s4, s5, a0, a1, a2, a3, a4, a5, h0, h1, h2, h3, h4, h5⟩ := h
 exact ⟨s1, s2, s3, s4, s5, a0, a1, a2, a3, a4, a5, RowX.outside (ownsQu 27 5) h0 u (by omega), RowO.outside h1 u (by omega), RowO.outside h2 u (by omega), RowO.outside h3 u (by omega), RowX.outside (ownsWn 27 5 3) h4 u (by omega), RowX.outside (ownsWn 27 5 3) h5 u (by omega)⟩
theorem OwnM.has {B E : Nat} {w : World} {vq va vb vm vp vu : Value} {m : Mg} (h : OwnM B E w vq va vb vm vp vu m) : HasM w vq va vb vm vp vu m := by
 obtain ⟨s1, s2, s3, s4, s5, a0, a1, a2, a3, a4, a5, h0, h1, h2, h3, h4, h5⟩ := h
 exact ⟨RowX.has (ownsQu 27 5) OwnQu.has h0, RowO.has h1, RowO.has h2, RowO.has h3, RowX.has (ownsWn 27 5 3) OwnWn.has h4, RowX.has (ownsWn 27 5 3) OwnWn.has h5⟩
end Go.Proofs.YtfbfakdkemlbmaaGreat

namespace Go.Proofs.YtfbfakdkemlbmaaGreat
open Go.RowKit

theorem cells2 {w : World} {b : Nat} {c0 c1 : Value} {t : TypeId} (h : w.heap[b]? = some (.cells #[c0, c1] t)) : w.cell? ⟨b, 0, none⟩ = some c0 ∧ w.cell? ⟨b, 1, none⟩ = some c1 := ⟨block_cell h 0, block_cell h 1⟩
theorem frozen2 {w : World} {b : Nat} {c : Array Value} {t : TypeId} (h : w.heap[b]? = some (.cells c t)) : w.frozen? ⟨b, 0, none⟩ = false ∧ w.frozen? ⟨b, 1, none⟩ = false := ⟨block_frozen h 0, block_frozen h 1⟩
end Go.Proofs.YtfbfakdkemlbmaaGreat

namespace Go.Proofs.YtfbfakdkemlbmaaGreat
open Go.RowKit
set_option linter.unusedVariables false

theorem info_int : (Tryz.prog.info? 3).map (fun i => (i.zero, i.size, i.bytes)) = some (some (.int .i64 0), 1, 8) := by kernel_rfl

set_option maxHeartbeats 400000 in
set_option maxRecDepth 100000 in
theorem toIntS_row (a : Option Addr) (cap : Nat) (l : List Int) (w : World) (h : LiesI w a l) (hl : l.length ≤ 1048576) :
  Calls Tryz.prog 69 #[.slice a l.length cap] w fun e w' => e = .returned (.slice (some ⟨w.heap.size, 0, none⟩) l.length l.length) ∧
   w'.rowIs w.heap.size 3 l.length (fun i => .int .i64 (l.getD i 0)) ∧ Below w.heap.size w w' := by
 have hmk := run_make_row' (P := Tryz.prog) 92 3 (.int .i64 0) 8 Tryz.underlying92 info_int rfl .i64 .i64 l.length (by omega) (by omega)
 generalize hn : l.length = n at *
 have HN := hide hn
 clear hn
 go_enter Tryz.func69, Tryz.ntmps69
 go_wp2
 go_loopw [4] (fun i wr => ∃ k : Nat, k ≤ n ∧ i = .int .i64 k ∧ wr.rowIs w.heap.size 3 n (fun j => if j < k then .int .i64 (l.getD j 0) else .int .i64 0) ∧ Below w.heap.size w wr) (fun i _ => n - (intOf i).toNat)
 case atStart => exact ⟨0, Nat.zero_le _, rfl, by simpa using World.rowIs_made w _ n 3, (Below.refl _ _).alloc (Nat.le_refl _) _⟩
 case round =>
  obtain ⟨k, hk, rfl, hr, hb⟩ := hrel
  by_cases hlt : k < n
  ·obtain ⟨b, off, rfl, hbl, hc⟩ := h.cell hb (k := k) (by rw [unhide HN]; exact hlt)
   have hc2 := hr.cell hlt
   simp only [Nat.lt_irrefl, if_false] at hc2
   have hf2 := hr.frozen k
   have HR := hide hr
   clear hr
   go_wp2
   go_roundw
   case rel =>
    refine ⟨k + 1, by omega, by go_num, ?_, hb.setCell (Nat.le_refl _) _⟩
    refine ((unhide HR).set k _).congr fun j hj => ?_
    by_cases e : j = k
    ·subst e; simp
    ·have : j < k + 1 ↔ j < k := by omega
     simp [e, this]
   case measure => simp [intOf]; omega
  ·go_wp2
   go_ret
   obtain rfl : k = n := by omega
   refine ⟨rfl, hr.congr fun j hj => by simp [hj], hb⟩

theorem toIntS_any (a : Option Addr) (cap : Nat) (l : List Int) (w : World) (h : LiesI w a l) (hl : l.length ≤ 1048576) :
  Calls Tryz.prog 69 #[.slice a l.length cap] w fun e w' => ∃ v, e = .returned v ∧ OwnI w.heap.size 3 w' v l ∧ Below w.heap.size w w' :=
 (toIntS_row a cap l w h hl).mono fun e w' ⟨he, hr, hb⟩ => ⟨_, he, OwnI.ofRow hr (Nat.le_refl _) (by unfold maxLen; omega), hb⟩

set_option maxHeartbeats 400000 in
set_option maxRecDepth 100000 in
theorem eqIntS_eq (a a' : Option Addr) (cap cap' : Nat) (l : List Int) (w : World) (h : LiesI w a l) (h' : LiesI w a' l) (hl : l.length ≤ 2097152) :
  Calls Tryz.prog 71 #[.slice a l.length cap, .slice a' l.length cap'] w fun e w' => e = .returned (.bool true) ∧ ∃ n, w' = w.drewN n := by
 generalize hn : l.length = n at *
 have HN := hide hn
 clear hn
 go_enter Tryz.func71, Tryz.ntmps71
 go_wp2
 go_loopw [5] (fun i wr => ∃ k : Nat, k ≤ n ∧ i = .int .i64 k ∧ ∃ m, wr = w.drewN m) (fun i _ => n - (intOf i).toNat)
 case atStart => exact ⟨0, Nat.zero_le _, rfl, 0, rfl⟩
 case round =>
  obtain ⟨k, hk, rfl, m, rfl⟩ := hrel
  by_cases hlt : k < n
  ·obtain ⟨b, off, rfl, hbl, hc⟩ := h.here (k := k) (by rw [unhide HN]; exact hlt)
   obtain ⟨b', off', rfl, hbl', hc'⟩ := h'.here (k := k) (by rw [unhide HN]; exact hlt)
   go_wp2
   go_quiet (fail)
   go_wp2
   exact ⟨⟨k + 1, by omega, by go_num, _, rfl⟩, by simp [intOf]; omega⟩
  ·go_wp2
   go_ret
   exact ⟨rfl, m, rfl⟩

end Go.Proofs.YtfbfakdkemlbmaaGreat
