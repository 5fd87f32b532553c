/-
  Contracts of the specification's l4bytes and MsgOk. Contracts of the laws' same. Plain facts: the labels of a text, cut at its dots. Contracts of the library's Cut and TrimSuffix at a dot, in plain words. The program's labelsOf, as what a loop ranges over. Plain facts: a region whose order is open, inside a round of a range over a function, by the laws for one outside.
-/
import Derived.Test.YtbabmdiklefgcaaGreatDoorFnRepliesG38
import Derived.Test.YtbabmdiklefgcaaGreatDoorFnRepliesG39
import Derived.Test.YtbabmdiklefgcaaGreatDoorFnRepliesG42
import Derived.Test.YtbabmdiklefgcaaGreatDoorFnRepliesG07
import Derived.WalkKit
import Derived.Lib.IndexLaws
import Derived.Lib.Bytes
import Derived.Test.YtbabmdiklefgcaaGreatDoorFnRepliesG00
import Derived.Test.YtbabmdiklefgcaaGreatDoorFnRepliesG01
import Derived.Test.YtbabmdiklefgcaaGreatDoorFnRepliesG31
import Derived.RangeFuncNested
import Derived.RangeFuncBound
import Derived.RangeFuncCalls
import Derived.RangeFuncLeaves
import Derived.Shelf.Abstract
import Derived.Shelf.RegionOpen
import Derived.OwnWalkIn
import Derived.TacticsInMore
import Derived.LoopNIn
import Derived.LoopIn
import Derived.OrdersIn
import Derived.OrdersHeld
import Derived.TacticsIn
namespace Go.Proofs.YtbabmdiklefgcaaGreatDoor
open Go.RowKit
set_option linter.unusedVariables false

theorem l4bytes_has {vq va vb vm vp vu : Value} {m : Mg} {w : World} (h : HasM w vq va vb vm vp vu m) (hmay : mayM m = true) :
  Calls Tryz.prog 18 #[.agg #[.int .i64 m.id, .bool m.reply, .int .i64 m.op, .bool m.auth, .int .i64 m.code, vq, va, vb, vm, vp, vu]] w fun e w' => ∃ v', e = .returned v' ∧ Own w.heap.size 5 w' v' (bytesM m) ∧ Below w.heap.size w w' := by
 rcases (mayM_parts hmay).2.2.2.2.2.1 with hop | hop
 ·exact l4bytes_q h hmay hop
 ·exact l4bytes_u h hmay hop

set_option maxHeartbeats 1000000 in
set_option maxRecDepth 100000 in
theorem specMsgOk_has {vq va vb vm vp vu : Value} {m : Mg} {w : World} (h : HasM w vq va vb vm vp vu m) :
  Calls Tryz.prog 6 #[.agg #[.int .i64 m.id, .bool m.reply, .int .i64 m.op, .bool m.auth, .int .i64 m.code, vq, va, vb, vm, vp, vu]] w fun e w' => e = .returned (.bool (okM m)) ∧ Below w.heap.size w w' := by
 obtain ⟨xq, yq, rfl, _, zq⟩ := h.qs.form
 obtain ⟨xa, ya, rfl, _, za⟩ := h.ans.form
 obtain ⟨xb, yb, rfl, _, zb⟩ := h.aus.form
 obtain ⟨xm, ym, rfl, _, zm⟩ := h.more.form
 obtain ⟨xp, yp, rfl, _, zp⟩ := h.pres.form
 obtain ⟨xu, yu, rfl, _, zu⟩ := h.ups.form
 have b0 := UI (w := w) (.cells #[.int .i64 m.id, .bool m.reply, .int .i64 m.op, .bool m.auth, .int .i64 m.code, .slice xq m.qs.length yq, .slice xa m.ans.length ya, .slice xb m.aus.length yb, .slice xm m.more.length ym, .slice xp m.pres.length yp, .slice xu m.ups.length yu] 27)
 have KK := UC (heap_alloc_new w (.cells #[.int .i64 m.id, .bool m.reply, .int .i64 m.op, .bool m.auth, .int .i64 m.code, .slice xq m.qs.length yq, .slice xa m.ans.length ya, .slice xb m.aus.length yb, .slice xm m.more.length ym, .slice xp m.pres.length yp, .slice xu m.ups.length yu] 27))
 have H := UC (h.below b0)
 have CM := fun (w : World) (h : HasM w (.slice xq m.qs.length yq) (.slice xa m.ans.length ya) (.slice xb m.aus.length yb) (.slice xm m.more.length ym) (.slice xp m.pres.length yp) (.slice xu m.ups.length yu) m) => l4may_has h
 have CB := fun (e : mayM m = true) (w : World) (h : HasM w (.slice xq m.qs.length yq) (.slice xa m.ans.length ya) (.slice xb m.aus.length yb) (.slice xm m.more.length ym) (.slice xp m.pres.length yp) (.slice xu m.ups.length yu) m) => l4bytes_has h e
 unfold okM
 have hbl := fun (e : mayM m = true) => (show (bytesM m).length ≤ 12833 by obtain ⟨_, _, _, _, _, _, _, _, _, _, _, _, _, _, _, _, q⟩ := bytesM_parts e; exact q)
 cases hm : mayM m with
 | false =>
  rw [hm] at CM
  replace CM := UC CM
  rw [Bool.false_and]
  clear h CB hbl hm
  obtain ⟨d0, d1, d2, d3, d4, d5, d6, d7, d8, d9, d10⟩ := cells11 (UB KK)
  go_enter Tryz.func6, Tryz.ntmps6
  go_wp2_with fail
  clear d0 d1 d2 d3 d4 d5 d6 d7 d8 d9 d10
  generalize w.alloc (.cells #[.int .i64 m.id, .bool m.reply, .int .i64 m.op, .bool m.auth, .int .i64 m.code, .slice xq m.qs.length yq, .slice xa m.ans.length ya, .slice xb m.aus.length yb, .slice xm m.more.length ym, .slice xp m.pres.length yp, .slice xu m.ups.length yu] 27) = W at *
  refine (UB CM _ (UB H)).mono ?_
  rintro e w1 ⟨rfl, b1⟩
  replace b0 := UG b0 b1
  go_wp2_with fail
  go_ret
  exact ⟨rfl, b0⟩
 | true =>
  rw [hm] at CM
  replace CM := UC CM
  have CB' := UC (CB hm)
  have hl := hbl hm
  rw [Bool.true_and]
  have HR := UC (show decide ((bytesM m).length ≤ 512) = decide ((bytesM m).length ≤ 512) from rfl)
  generalize hR : decide ((bytesM m).length ≤ 512) = R at *
  replace HR := UC hR
  clear h CB hbl hm hR
  generalize bytesM m = BM at *
  obtain ⟨d0, d1, d2, d3, d4, d5, d6, d7, d8, d9, d10⟩ := cells11 (UB KK)
  go_enter Tryz.func6, Tryz.ntmps6
  go_wp2_with fail
  clear d0 d1 d2 d3 d4 d5 d6 d7 d8 d9 d10
  generalize w.alloc (.cells #[.int .i64 m.id, .bool m.reply, .int .i64 m.op, .bool m.auth, .int .i64 m.code, .slice xq m.qs.length yq, .slice xa m.ans.length ya, .slice xb m.aus.length yb, .slice xm m.more.length ym, .slice xp m.pres.length yp, .slice xu m.ups.length yu] 27) = W at *
  refine (UB CM _ (UB H)).mono ?_
  rintro e w1 ⟨rfl, b1⟩
  replace b0 := UG b0 b1
  replace H := UC ((UB H).below b1)
  obtain ⟨d0, d1, d2, d3, d4, d5, d6, d7, d8, d9, d10⟩ := cells11 (UE b1 (UB KK))
  clear b1 KK
  go_wp2_with fail
  clear d0 d1 d2 d3 d4 d5 d6 d7 d8 d9 d10
  refine (UB CB' _ (UB H)).mono ?_
  rintro e w2 ⟨v2, rfl, o2, b2⟩
  obtain ⟨va, vc, rfl, _⟩ := o2.lies
  replace b0 := UG b0 b2
  clear o2 b2 H CM CB'
  by_cases h512 : BM.length ≤ 512
  ·have hR := UB HR
   rw [decide_eq_true h512] at hR
   subst hR
   clear HR
   generalize BM.length = n at *
   go_wp2_with fail
   go_ret
   exact ⟨show Ending.returned (.bool (decide ((n : Int) ≤ 512))) = .returned (.bool true) by rw [decide_eq_true (by omega)], b0⟩
  ·have hR := UB HR
   rw [decide_eq_false h512] at hR
   subst hR
   clear HR
   generalize BM.length = n at *
   go_wp2_with fail
   go_ret
   exact ⟨show Ending.returned (.bool (decide ((n : Int) ≤ 512))) = .returned (.bool false) by rw [decide_eq_false (by omega)], b0⟩
set_option maxHeartbeats 400000 in
set_option maxRecDepth 100000 in
theorem same_has {v v' : Value} {l l' : List Int} {w : World} (h : Has w v l) (h' : Has w v' l') (hb : ∀ c ∈ l, 0 ≤ c ∧ c ≤ 255) (hb' : ∀ c ∈ l', 0 ≤ c ∧ c ≤ 255) :
  Calls Tryz.prog 20 #[v, v'] w fun e w' => e = .returned (.bool (decide (l = l'))) ∧ w = w' := by
 have hc := conv_has h
 have hc' := conv_has h'
 have hs := str_eq l l' hb hb'
 generalize decide (l = l') = d at *
 clear h h' hb hb'
 go_enter Tryz.func20, Tryz.ntmps20
 go_wp2
 go_ret
 exact ⟨rfl, rfl⟩

def headOf : List Int → List Int
 | [] => []
 | x :: xs => if x = 46 then [] else x :: headOf xs
def tailOf : List Int → List Int
 | [] => []
 | x :: xs => if x = 46 then xs else tailOf xs
def hasDot : List Int → Bool
 | [] => false
 | x :: xs => if x = 46 then true else hasDot xs
def pieces : List Int → List (List Int)
 | [] => [[]]
 | x :: xs => if x = 46 then [] :: pieces xs else (x :: (pieces xs).headD []) :: (pieces xs).tail

theorem pieces_cons : ∀ l, ∃ p ps, pieces l = p :: ps
 | [] => ⟨_, _, rfl⟩
 | x :: xs => by
  rw [pieces]
  split
  ·exact ⟨_, _, rfl⟩
  ·exact ⟨_, _, rfl⟩
theorem pieces_eq : ∀ l, pieces l = headOf l :: if hasDot l = true then pieces (tailOf l) else []
 | [] => rfl
 | x :: xs => by
  by_cases h : x = 46
  ·rw [pieces, if_pos h, headOf, if_pos h, hasDot, if_pos h, tailOf, if_pos h]; rfl
  ·rw [pieces, if_neg h, headOf, if_neg h, hasDot, if_neg h, tailOf, if_neg h, pieces_eq xs]; rfl
theorem tail_le : ∀ l, hasDot l = true → (tailOf l).length < l.length
 | [], h => by cases h
 | x :: xs, h => by
  by_cases hx : x = 46
  ·rw [tailOf, if_pos hx]; simp
  ·rw [hasDot, if_neg hx] at h
   rw [tailOf, if_neg hx]
   have := tail_le xs h
   simp; omega
theorem dot_none : ∀ l, hasDot l = false → headOf l = l ∧ tailOf l = []
 | [], _ => ⟨rfl, rfl⟩
 | x :: xs, h => by
  by_cases hx : x = 46
  ·rw [hasDot, if_pos hx] at h; cases h
  ·rw [hasDot, if_neg hx] at h
   have := dot_none xs h
   rw [headOf, if_neg hx, tailOf, if_neg hx, this.1]
   exact ⟨rfl, this.2⟩
theorem dot_some : ∀ l, hasDot l = true → ∃ i : Nat, i < l.length ∧ headOf l = l.take i ∧ tailOf l = l.drop (i + 1)
 | [], h => by cases h
 | x :: xs, h => by
  by_cases hx : x = 46
  ·exact ⟨0, by simp, by rw [headOf, if_pos hx]; rfl, by rw [tailOf, if_pos hx]; rfl⟩
  ·rw [hasDot, if_neg hx] at h
   obtain ⟨i, h1, h2, h3⟩ := dot_some xs h
   exact ⟨i + 1, by simp; omega, by rw [headOf, if_neg hx, h2]; rfl, by rw [tailOf, if_neg hx, h3]; rfl⟩

theorem byte_dot {x : Int} (h0 : 0 ≤ x) (h1 : x ≤ 255) : (UInt8.ofNat x.toNat == (46 : Int).toNat.toUInt8) = decide (x = 46) := by
 obtain ⟨n, rfl⟩ := Int.eq_ofNat_of_zero_le h0
 have hn : n < 256 := by omega
 have hc : (46 : Int).toNat.toUInt8 = UInt8.ofNat 46 := rfl
 rw [hc, Int.toNat_natCast]
 by_cases h : n = 46
 ·subst h; rfl
 ·rw [decide_eq_false (by omega), beq_eq_false_iff_ne]
  intro e
  have := congrArg UInt8.toNat e
  rw [UInt8.toNat_ofNat_of_lt' (by simpa using hn), UInt8.toNat_ofNat_of_lt' (by decide)] at this
  exact h this
theorem index46 : ∀ l, (∀ x ∈ l, 0 ≤ x ∧ x ≤ 255) → (hasDot l = false → Lib.indexByte (Lib.bytesOf l) (46 : Int).toNat.toUInt8 = -1) ∧ (∀ i : Nat, hasDot l = true → headOf l = l.take i → i < l.length → Lib.indexByte (Lib.bytesOf l) (46 : Int).toNat.toUInt8 = i)
 | [], _ => ⟨fun _ => rfl, fun i h => by cases h⟩
 | x :: xs, hb => by
  have hx := hb x (by simp)
  obtain ⟨ih1, ih2⟩ := index46 xs (fun y hy => hb y (by simp [hy]))
  have e : Lib.bytesOf (x :: xs) = UInt8.ofNat x.toNat :: Lib.bytesOf xs := rfl
  rw [e, Lib.indexByte, byte_dot hx.1 hx.2]
  by_cases h : x = 46
  ·rw [decide_eq_true h, if_pos rfl]
   refine ⟨fun q => ?_, fun i q r hi => ?_⟩
   ·rw [hasDot, if_pos h] at q; cases q
   ·rw [headOf, if_pos h] at r
    cases i with
    | zero => rfl
    | succ i => simp at r
  ·rw [decide_eq_false h, if_neg (by simp)]
   refine ⟨fun q => ?_, fun i q r hi => ?_⟩
   ·rw [hasDot, if_neg h] at q
    rw [ih1 q]; rfl
   ·rw [hasDot, if_neg h] at q
    rw [headOf, if_neg h] at r
    cases i with
    | zero => simp at r
    | succ i =>
     simp only [List.take_succ_cons, List.cons.injEq, true_and] at r
     have := ih2 i q r (by simp at hi; omega)
     rw [this, if_neg (by simp)]
     simp

def dropE : List (List Int) → List (List Int)
 | [] => []
 | [p] => if p.length = 0 then [] else [p]
 | p :: q :: r => p :: dropE (q :: r)
def lowL (p : List Int) : List Int := lowered p p.length
theorem rest_pieces : ∀ l cur, rest true l cur = (dropE ((cur ++ (pieces l).headD []) :: (pieces l).tail)).map lowL
 | [], cur => by
  rw [rest, pieces]
  simp only [List.headD_cons, List.append_nil, List.tail_cons, dropE, and_true]
  split <;> rfl
 | x :: xs, cur => by
  obtain ⟨p, ps, hp⟩ := pieces_cons xs
  rw [rest, pieces]
  by_cases h : x = 46
  ·rw [if_pos h, if_pos h, rest_pieces xs [], hp]
   simp only [List.headD_cons, List.append_nil, List.tail_cons, List.nil_append, dropE, List.map_cons, lowL]
  ·rw [if_neg h, if_neg h, rest_pieces xs (cur ++ [x]), hp]
   simp
theorem pieces_dot : ∀ m, pieces (m ++ [46]) = pieces m ++ [[]]
 | [] => rfl
 | x :: xs => by
  obtain ⟨p, ps, hp⟩ := pieces_cons xs
  rw [List.cons_append, pieces, pieces, pieces_dot xs, hp]
  by_cases h : x = 46
  ·rw [if_pos h, if_pos h]; rfl
  ·rw [if_neg h, if_neg h]; rfl
theorem dropE_dot : ∀ q : List (List Int), dropE (q ++ [[]]) = q
 | [] => rfl
 | [p] => rfl
 | p :: q :: r => by
  have := dropE_dot (q :: r)
  rw [List.cons_append] at this ⊢
  rw [List.cons_append, dropE, this]
theorem dropE_not : ∀ (m : List Int) (y : Int) (cur : List Int), y ≠ 46 → dropE ((cur ++ (pieces (m ++ [y])).headD []) :: (pieces (m ++ [y])).tail) = (cur ++ (pieces (m ++ [y])).headD []) :: (pieces (m ++ [y])).tail
 | [], y, cur, h => by
  have e : pieces ([] ++ [y]) = [[y]] := by show pieces [y] = _; rw [pieces, if_neg h]; rfl
  rw [e]
  simp [dropE]
 | x :: xs, y, cur, h => by
  obtain ⟨p, ps, hp⟩ := pieces_cons (xs ++ [y])
  rw [List.cons_append, pieces]
  by_cases hx : x = 46
  ·have ih := dropE_not xs y [] h
   rw [hp] at ih
   rw [if_pos hx, hp]
   simp only [List.headD_cons, List.append_nil, List.tail_cons, List.nil_append] at ih ⊢
   rw [dropE, ih]
  ·have ih := dropE_not xs y (cur ++ [x]) h
   rw [hp] at ih
   rw [if_neg hx, hp]
   simp only [List.headD_cons, List.tail_cons] at ih ⊢
   simpa using ih
theorem pieces_whole (l : List Int) : (pieces l).headD [] :: (pieces l).tail = pieces l := by
 obtain ⟨p, ps, hp⟩ := pieces_cons l
 rw [hp]; rfl
def trimD (l : List Int) : List Int := if l.getLast? = some 46 then l.dropLast else l
theorem labelsIn_eq (l : List Int) : labelsIn l = (pieces (trimD l)).map lowL := by
 unfold labelsIn trimD
 rcases List.eq_nil_or_concat l with rfl | ⟨m, y, rfl⟩
 ·rfl
 ·rw [List.concat_eq_append]
  have hd : decide (0 < (m ++ [y]).length) = true := by simp
  rw [hd, rest_pieces, List.getLast?_append]
  simp only [List.getLast?_singleton, Option.some_or, Option.some.injEq, List.nil_append]
  by_cases h : y = 46
  ·subst h
   rw [if_pos rfl, List.dropLast_concat, pieces_whole, pieces_dot, dropE_dot]
  ·rw [if_neg h]
   have := dropE_not m y [] h
   rw [List.nil_append] at this
   rw [this, pieces_whole]
theorem has_take {w : World} {g off cap : Nat} {r : List Int} (hg : g < w.heap.size) (hm : cap ≤ maxLen) (hl : r.length ≤ cap) (hc : ∀ i, i < r.length → w.cell? ⟨g, off + i, none⟩ = some (.int .u8 (r.getD i 0))) {i : Nat} (hi : i ≤ r.length) : Has w (.slice (some ⟨g, off, none⟩) i cap) (r.take i) := by
 have e : (r.take i).length = i := by simp; omega
 refine .inr ⟨g, off, cap, by rw [e], hg, by rw [e]; omega, hm, fun k hk => ?_⟩
 rw [e] at hk
 rw [hc k (by omega)]
 congr 2
 simp only [List.getD_eq_getElem?_getD]
 rw [List.getElem?_take_of_lt hk]
theorem has_from {w : World} {g off cap : Nat} {r : List Int} (hg : g < w.heap.size) (hm : cap ≤ maxLen) (hl : r.length ≤ cap) (hc : ∀ i, i < r.length → w.cell? ⟨g, off + i, none⟩ = some (.int .u8 (r.getD i 0))) {j : Nat} (hj : j ≤ r.length) : Has w (Lib.fromV (some ⟨g, off, none⟩) r.length cap j) (r.drop j) := by
 have e : (r.drop j).length = r.length - j := by simp
 unfold Lib.fromV
 by_cases hcj : cap = j
 ·rw [if_pos hcj]
  refine .inr ⟨g, off, cap - j, by rw [e], hg, by rw [e]; omega, by omega, fun k hk => ?_⟩
  rw [e] at hk; omega
 ·rw [if_neg hcj]
  refine .inr ⟨g, off + j, cap - j, ?_, hg, by rw [e]; omega, by omega, fun k hk => ?_⟩
  ·rw [e, Option.map_some, WideShapes.add_plain]
  ·rw [e] at hk
   rw [show off + j + k = off + (j + k) by omega, hc (j + k) (by omega)]
   congr 2
   simp only [List.getD_eq_getElem?_getD]
   rw [List.getElem?_drop]

theorem Has.parts {w : World} {g off cap : Nat} {r : List Int} (h : Has w (.slice (some ⟨g, off, none⟩) r.length cap) r) : g < w.heap.size ∧ cap ≤ maxLen ∧ r.length ≤ cap ∧ ∀ i, i < r.length → w.cell? ⟨g, off + i, none⟩ = some (.int .u8 (r.getD i 0)) := by
 rcases h with ⟨h, _⟩ | ⟨g', off', cap', e, h1, h2, h3, h4⟩
 ·cases h
 ·cases e
  exact ⟨h1, h3, h2, h4⟩
theorem mem8 {l : List Int} (h : Bytes8 l) : ∀ x ∈ l, 0 ≤ x ∧ x ≤ 255 := fun c hc => by
 obtain ⟨i, hi, rfl⟩ := List.getElem_of_mem hc
 have := h i
 rwa [List.getD_eq_getElem?_getD, List.getElem?_eq_getElem hi] at this

theorem cut46 {w : World} {v : Value} {r : List Int} {d : Nat} (h : Has w v r) (hb : Bytes8 r) (hl : r.length ≤ 1048576) (hd : w.cell? ⟨d, 0, none⟩ = some (.int .u8 46)) :
  Calls Tryz.prog 68 #[v, .slice (some ⟨d, 0, none⟩) 1 1] w fun e w' => ∃ u v', e = .returned (.tuple #[u, v', .bool (hasDot r)]) ∧ (∀ w1, Has w1 v r → Has w1 u (headOf r) ∧ Has w1 v' (tailOf r)) ∧ ∃ q, w' = w.drewN q := by
 rcases h with ⟨rfl, rfl⟩ | ⟨g, off, cap, rfl, hg, hcap, hm, hc⟩
 ·refine (Tryz.bytes_Cut_of none (some ⟨d, 0, none⟩) 0 0 1 1 (-1) w (Nat.le_refl _) (by omega) (by omega) (by omega) ((Tryz.bytes_Index_nil (some ⟨d, 0, none⟩) 1 1 w (by omega) (fun _ => ⟨d, 0, 46, rfl, hd⟩)).mono fun e w' ⟨h1, h2⟩ => ⟨h1, 0, h2⟩)).mono ?_
  rintro e w' ⟨rfl, q, rfl⟩
  exact ⟨.slice none 0 0, .slice none 0 0, rfl, fun w1 _ => ⟨.inl ⟨rfl, rfl⟩, .inl ⟨rfl, rfl⟩⟩, q, rfl⟩
 ·have hI := Tryz.bytes_Index_one_at ⟨g, off, none⟩ r.length cap d 0 1 r 46 w rfl (fun i hi => by rw [WideShapes.add_plain]; exact hc i hi) hd
  obtain ⟨i1, i2⟩ := index46 r (mem8 hb)
  cases hh : hasDot r with
  | false =>
   obtain ⟨e1, e2⟩ := dot_none r hh
   rw [i1 hh] at hI
   refine (Tryz.bytes_Cut_of (some ⟨g, off, none⟩) (some ⟨d, 0, none⟩) r.length cap 1 1 (-1) w hcap (by omega) (by omega) (by omega) (hI.mono fun e w' ⟨h1, h2⟩ => ⟨h1, 0, h2⟩)).mono ?_
   rintro e w' ⟨rfl, q, rfl⟩
   refine ⟨_, _, rfl, fun w1 h1 => ⟨?_, .inl ⟨rfl, e2⟩⟩, q, rfl⟩
   rw [e1]
   exact h1
  | true =>
   obtain ⟨i, hi, e1, e2⟩ := dot_some r hh
   rw [i2 i hh e1 hi] at hI
   refine (Tryz.bytes_Cut_of (some ⟨g, off, none⟩) (some ⟨d, 0, none⟩) r.length cap 1 1 i w hcap (by omega) (by omega) (by omega) (hI.mono fun e w' ⟨h1, h2⟩ => ⟨h1, 0, h2⟩)).mono ?_
   rintro e w' ⟨rfl, q, rfl⟩
   refine ⟨.slice (some ⟨g, off, none⟩) i cap, Lib.fromV (some ⟨g, off, none⟩) r.length cap (i + 1), ?_, fun w1 h1 => ?_, q, rfl⟩
   ·unfold Lib.cutV
    rw [if_pos (by omega), Int.toNat_natCast]
   ·obtain ⟨p1, p2, p3, p4⟩ := h1.parts
    rw [e1, e2]
    exact ⟨has_take p1 p2 p3 p4 (by omega), has_from p1 p2 p3 p4 (by omega)⟩

theorem suffix_dot {l : List Int} (hb : Bytes8 l) : Lib.hasSuffix (Lib.bytesOf l) (Lib.bytesOf [46]) = decide (l.getLast? = some 46) := by
 have hm := mem8 hb
 rcases List.eq_nil_or_concat l with rfl | ⟨m, y, rfl⟩
 ·rfl
 ·rw [List.concat_eq_append] at *
  have hy := hm y (by simp)
  have e : Lib.bytesOf (m ++ [y]) = Lib.bytesOf m ++ [UInt8.ofNat y.toNat] := by simp [Lib.bytesOf]
  have e2 : Lib.bytesOf [46] = [UInt8.ofNat 46] := rfl
  have hbd := byte_dot hy.1 hy.2
  rw [show (46 : Int).toNat.toUInt8 = UInt8.ofNat 46 from rfl] at hbd
  have e3 : ((m ++ [y]).getLast? = some 46) ↔ y = 46 := by rw [List.getLast?_append]; simp
  unfold Lib.hasSuffix
  rw [e, e2, Bool.eq_iff_iff, decide_eq_true_iff, e3, List.isSuffixOf_iff_suffix]
  constructor
  ·rintro ⟨t, ht⟩
   have := List.append_inj_right' ht rfl
   simp only [List.cons.injEq, and_true] at this
   rw [← this, beq_self_eq_true] at hbd
   exact of_decide_eq_true hbd.symm
  ·rintro rfl
   exact ⟨Lib.bytesOf m, rfl⟩

theorem trim_dot {w : World} {v : Value} {l : List Int} {d : Nat} (h : Has w v l) (hb : Bytes8 l) (hl : l.length ≤ 1048576) (hd : w.cell? ⟨d, 0, none⟩ = some (.int .u8 46)) :
  Calls Tryz.prog 67 #[v, .slice (some ⟨d, 0, none⟩) 1 1] w fun e w' => ∃ u, e = .returned u ∧ (∀ w1, Has w1 v l → Has w1 u (trimD l)) ∧ w' = w := by
 rcases h with ⟨rfl, rfl⟩ | ⟨g, off, cap, rfl, hg, hcap, hm, hc⟩
 ·refine (Tryz.bytes_TrimSuffix_e1 none (some ⟨d, 0, none⟩) 0 1 1 (by omega) w).mono ?_
  rintro e w' ⟨rfl, rfl⟩
  exact ⟨_, rfl, fun w1 _ => .inl ⟨rfl, rfl⟩, rfl⟩
 ·have hd1 : ∀ i, i < 1 → w.cell? ⟨d, 0 + i, none⟩ = some (.int .u8 ([46].getD i 0)) := by
   intro i hi
   obtain rfl : i = 0 := by omega
   exact hd
  refine (Tryz.bytes_TrimSuffix g off l.length cap d 0 1 1 l [46] w rfl rfl hcap (by omega) hc hd1).mono ?_
  rintro e w' ⟨rfl, rfl⟩
  refine ⟨_, rfl, fun w1 h1 => ?_, rfl⟩
  obtain ⟨p1, p2, p3, p4⟩ := h1.parts
  unfold Lib.bytesTrimSuffix trimD Lib.sliceTo
  rw [suffix_dot hb]
  by_cases hs : l.getLast? = some 46
  ·rw [if_pos (by simpa using hs), if_pos hs, List.dropLast_eq_take]
   have hne : l.length ≠ 0 := by intro q; rw [List.eq_nil_of_length_eq_zero q] at hs; cases hs
   exact has_take p1 p2 p3 p4 (by simp)
  ·rw [if_neg (by simpa using hs), if_neg hs]
   exact h1
end Go.Proofs.YtbabmdiklefgcaaGreatDoor

namespace Go.Proofs.YtbabmdiklefgcaaGreatDoor
open Go.RowKit Go.Shelf
set_option linter.unusedVariables false

abbrev Lab (w : World) := { p : Value × List Int // Has w p.1 p.2 ∧ Bytes8 p.2 ∧ p.2.length ≤ 1048576 }
def KeepsDots (W W' : World) : Prop := ∀ k : Nat, W.heap[k]? = some (Obj.cells #[.int .u8 46] 5) → W'.heap[k]? = some (Obj.cells #[.int .u8 46] 5)
def KpL (n0 : Nat) (W W' : World) : Prop := Below n0 W W' ∧ KeepsDots W W'
theorem kpL_t {n0 : Nat} {A B C : World} (h : KpL n0 A B) (k : KpL n0 B C) : KpL n0 A C := ⟨h.1.trans k.1, fun q hq => k.2 q (h.2 q hq)⟩

theorem headOf_le : ∀ r, (headOf r).length ≤ r.length
 | [] => Nat.le_refl _
 | x :: xs => by
  have := headOf_le xs
  rw [headOf]; split
  ·simp
  ·simp; omega
theorem bytes8_head : ∀ r, Bytes8 r → Bytes8 (headOf r) := fun r h => by
 cases hd : hasDot r with
 | false => rw [(dot_none r hd).1]; exact h
 | true =>
  obtain ⟨i, _, e, _⟩ := dot_some r hd
  rw [e]
  intro k
  simp only [List.getD_eq_getElem?_getD, List.getElem?_take]
  have := h k
  rw [List.getD_eq_getElem?_getD] at this
  split
  ·exact this
  ·simp
theorem bytes8_tail : ∀ r, Bytes8 r → Bytes8 (tailOf r) := fun r h => by
 cases hd : hasDot r with
 | false => rw [(dot_none r hd).2]; exact bytes8_nil
 | true =>
  obtain ⟨i, _, _, e⟩ := dot_some r hd
  rw [e]
  intro k
  simp only [List.getD_eq_getElem?_getD, List.getElem?_drop]
  have := h (i + 1 + k)
  rwa [List.getD_eq_getElem?_getD] at this
theorem tail_len (r : List Int) : (tailOf r).length ≤ r.length := by
 cases hd : hasDot r with
 | false => rw [(dot_none r hd).2]; simp
 | true => exact Nat.le_of_lt (tail_le r hd)
theorem trimD_le (l : List Int) : (trimD l).length ≤ l.length := by
 unfold trimD; split
 ·simp
 ·exact Nat.le_refl _
theorem bytes8_trim {l : List Int} (h : Bytes8 l) : Bytes8 (trimD l) := by
 unfold trimD; split
 ·intro k
  rw [List.dropLast_eq_take]
  simp only [List.getD_eq_getElem?_getD, List.getElem?_take]
  have := h k
  rw [List.getD_eq_getElem?_getD] at this
  split
  ·exact this
  ·simp
 ·exact h

theorem grown_drewN (w : World) (n : Nat) (row : Option Nat) : w.grownBy (w.drewN n) row := ⟨rfl, rfl, rfl, Nat.le_refl _, fun _ _ _ => rfl⟩
def lenV : Value → Nat
 | .slice _ n _ => n
 | _ => 0
def flagV : Value → Nat
 | .bool true => 1
 | _ => 0
theorem has_len {w : World} {v : Value} {r : List Int} (h : Has w v r) : lenV v = r.length := by
 rcases h with ⟨rfl, rfl⟩ | ⟨_, _, _, rfl, _⟩ <;> rfl
theorem below_drewN {B : Nat} {a w : World} (h : Below B a w) (q : Nat) : Below B a (w.drewN q) := ⟨h.os, h.tape, h.output, h.size, h.block⟩
def GotL (w0 : World) (t : List Int) (J : List (Lab w0) → World → Prop) (d : Nat) (rv mv : Value) (wr : World) : Prop :=
 ∃ (pre : List (Lab w0)) (r : List Int) (b : Bool), mv = .bool b ∧ ((b = true ∧ Has w0 rv r ∧ Bytes8 r ∧ r.length + pre.length ≤ t.length ∧ pre.map (·.1.2) ++ pieces r = pieces (trimD t)) ∨ (b = false ∧ pre.map (·.1.2) = pieces (trimD t))) ∧
  J pre wr ∧ Below w0.heap.size w0 wr ∧ wr.heap[d]? = some (Obj.cells #[.int .u8 46] 5)

set_option maxHeartbeats 4000000 in
set_option maxRecDepth 100000 in
theorem labels1_in (n : Nat) (hn : 1 ≤ n) (l Bt n0 : Nat) (w0 : World) (v : Value) (t : List Int) (hn0 : n0 = w0.heap.size) (hT : Has w0 v t) (hb : Bytes8 t) (hl : t.length ≤ 1048576)
  (J Jx : List (Lab w0) → World → Prop) (W : World) (hW : Below n0 w0 W) (hJ : AbidesFrom W.heap.size J)
  (hY : ∀ pre x W1, J pre W1 → pre.length < t.length + 2 → YieldAt Fence.wide (n - 1) Tryz.prog l #[x.1.1] W1 fun e W' => (e = .returned (.bool true) ∧ J (pre ++ [x]) W' ∧ KpL n0 W1 W') ∨ (e = .returned (.bool false) ∧ Jx (pre ++ [x]) W'))
  (hBt : W.cell? ⟨Bt, 0, none⟩ = some v) (h0 : J [] W) :
  CallsIn Fence.wide n Tryz.prog 66 #[.func (.yield l) #[] #[], .pointer (some ⟨Bt, 0, none⟩)] W fun e W' => (∃ v, e = .returned v) ∧
   ((∃ xs, xs.map (·.1.2) = pieces (trimD t) ∧ J xs W') ∨ (∃ pre, pre.map (·.1.2) <+: pieces (trimD t) ∧ Jx pre W')) := by
 subst hn0
 have b1 := UI (w := W) (.cells #[.int .u8 46] 5)
 have k1 := heap_alloc_new W (.cells #[.int .u8 46] 5)
 have bw1 := hW.alloc hW.size (.cells #[.int .u8 46] 5)
 have hT1 := hT.below bw1
 have HT := UC (trim_dot hT1 hb hl (US k1))
 have cB : (W.alloc (.cells #[.int .u8 46] 5)).cell? ⟨Bt, 0, none⟩ = some v := ((UI (w := W) (.cells #[.int .u8 46] 5)).cell (p := ⟨Bt, 0, none⟩) (World.block_lt_of_cell? W ⟨Bt, 0, none⟩ hBt)).trans hBt
 have hJ1 : J [] (W.alloc (.cells #[.int .u8 46] 5)) := hJ [] W _ none h0 (World.grownBy_alloc W _ none) (fun r e => by cases e)
 refine callsIn_of_wp Tryz.func66 rfl trivial ?_ rfl
 simp only [Tryz.ntmps66, List.size_toArray, List.length_cons, List.length_nil, Nat.reduceAdd, Nat.reduceSub, Array.replicate_succ, Array.replicate_zero, List.push_toArray, List.append_toArray, List.nil_append, List.cons_append]
 gi_wp2_with (refine ⟨trivial, ?_⟩; gi_at_call 67; refine (callsIn_wide.2 (UB HT)).mono ?_; rintro e w' ⟨u, rfl, hu, rfl⟩)
 clear HT cB
 have hTu := UC (hu w0 hT)
 have hB8 := UC (bytes8_trim hb)
 have hlt := trimD_le t
 have HJ := UC hJ
 have HY := UC hY
 have B1 := UC bw1
 have K1 := UC k1
 have HJ1 := UC hJ1
 clear hu hT1 bw1 k1 hJ1 hJ hY b1 h0 hBt
 gi_loopw [4, 5] (fun rv mv wr => GotL w0 t J W.heap.size rv mv wr) (fun rv mv _ => lenV rv + flagV mv)
 case atStart => exact ⟨[], trimD t, true, rfl, .inl ⟨rfl, UB hTu, UB hB8, by simp; omega, rfl⟩, UB HJ1, UB B1, UB K1⟩
 case round =>
  obtain ⟨pre, r, b, rfl, hcase, hj, hbl, hk⟩ := hrel
  rcases hcase with ⟨rfl, hr, hr8, hrl, hp⟩ | ⟨rfl, hp⟩
  ·have HC := UC (cut46 (hr.below hbl) hr8 (by omega) (US hk))
   have hHead : Bytes8 (headOf r) := bytes8_head r hr8
   have hHl := headOf_le r
   gi_wp2_with (refine ⟨trivial, ?_⟩; gi_at_call 68; refine (callsIn_wide.2 (UB HC)).mono ?_; rintro e w' ⟨u, v', rfl, huv, q, rfl⟩; obtain ⟨x, hx1, hx2⟩ : ∃ x : Lab w0, x.1.1 = u ∧ x.1.2 = headOf r := ⟨⟨(u, headOf r), (huv w0 hr).1, hHead, by show (headOf r).length ≤ 1048576; omega⟩, rfl, rfl⟩; obtain ⟨fn, tmps, assign, body, hy, hR⟩ := UB HY pre x (wr.drewN q) (UB HJ pre wr _ none hj (grown_drewN wr q none) (fun r e => by cases e)) (by omega); rw [hx1] at hy; clear hx1)
   refine hR.mono ?_
   rintro e W3 (⟨rfl, hJ3, hk3⟩ | ⟨rfl, hJx3⟩)
   ·have hlr := has_len hr
    have hlv := has_len (huv w0 hr).2
    have hb3 := hbl.trans (Below.trans (below_drewN (Below.refl _ wr) q) hk3.1)
    have hd3 := hk3.2 W.heap.size hk
    have hvv := (huv w0 hr).2
    have hpe := pieces_eq r
    have htl := tail_le r
    have htl2 := tail_len r
    have ht8 := bytes8_tail r hr8
    clear HC hy hR huv hk3
    cases hd : hasDot r with
    | true =>
     rw [hd, if_pos rfl] at hpe
     have htl := htl hd
     gi_wp2
     go_roundw
     case rel => exact ⟨pre ++ [x], tailOf r, true, rfl, .inl ⟨rfl, hvv, ht8, by simp; omega, by rw [← hp, hpe]; simp [hx2]⟩, hJ3, hb3, hd3⟩
     case measure => show lenV v' + flagV (.bool true) < lenV u4 + flagV (.bool true); rw [hlr, hlv]; omega
    | false =>
     rw [hd, if_neg (by simp)] at hpe
     gi_wp2
     go_roundw
     case rel => exact ⟨pre ++ [x], tailOf r, false, rfl, .inr ⟨rfl, by rw [← hp, hpe]; simp [hx2]⟩, hJ3, hb3, hd3⟩
     case measure => show lenV v' + flagV (.bool false) < lenV u4 + flagV (.bool true); rw [hlr, hlv]; simp [flagV]; omega
   ·have hpe := pieces_eq r
    clear HC hy hR huv
    gi_wp2
    refine bodyPost_ret (results_none rfl _ _ _) rfl ?_
    exact ⟨⟨_, rfl⟩, .inr ⟨pre ++ [x], by rw [← hp, hpe]; simp [hx2], hJx3⟩⟩
  ·gi_wp2
   go_end0
   exact ⟨⟨_, rfl⟩, .inl ⟨pre, hp, hj⟩⟩
end Go.Proofs.YtbabmdiklefgcaaGreatDoor

namespace Go.Proofs.YtbabmdiklefgcaaGreatDoor
open Go.RowKit
set_option linter.unusedVariables false

theorem operIn_of {l n : Nat} {P : Program} {o : Oper} {a : Act} {w : World} {K K' : Act → World → Prop} {Q : Exit → Act → World → Prop} (hnd : ∀ c, o.op ≠ .defer c) (hk : ∀ a w, K a w → K' a w) (h : o.wp P a w K Q) :
  o.wpIn (Fence.wide.inRound l) n P a w K' Q := by
 refine ⟨fun f _ => trivial, ?_⟩
 rw [Fence.inRound_round, Oper.semAt_some l _ o hnd]
 unfold Oper.wp at h
 generalize (execOp a.eval o).run P w = r at *
 cases r with
 | ok x w' =>
  cases x with
  | value v => exact hk _ _ h
  | skip => exact hk _ _ h
  | defer d => exact hk _ _ h
  | enter f args => exact ⟨fun q => by simp [Fence.inRound, Fence.wide] at q, CallsIn.inRound l (callsIn_wide.2 (Calls.mono h (fun e w'' he => by cases e <;> first | exact hk _ _ he | exact he)))⟩
  | row row args => exact ⟨fun q => by simp [Fence.inRound, Fence.wide] at q, fun c cs _ => let ⟨v, w'', r, s⟩ := h c cs; ⟨v, w'', hk _ _ r, stepsIn_wide.2 s⟩⟩
  | _ => exact False.elim h
 | halt x w' => cases x <;> first | exact h | exact False.elim h

theorem anyIn_of {l n : Nat} {P : Program} {md : Region.Mode} {ops : Array Oper} {Q : Exit → Act → World → Prop} (hL : ¬ LetsOut Q) (hnd : ∀ (i : Nat) (o : Oper), ops[i]? = some o → ∀ c, o.op ≠ .defer c) :
  ∀ (fuel : Nat) (listed : Array Bool) (a : Act) (w : World), wpAny P md ops Q fuel listed a w → wpAnyIn (Fence.wide.inRound l) n P md ops Q fuel listed a w
 | 0, _, _, _, h => h
 | fuel + 1, listed, a, w, h => by
  refine ⟨h.1, fun i hi => ?_⟩
  have hop := h.2 i hi
  unfold wpOp at hop
  unfold wpOpIn
  cases ho : ops[i]? with
  | none =>
   rw [ho] at hop
   exact anyIn_of hL hnd fuel _ _ _ hop
  | some o =>
   rw [ho] at hop
   dsimp only at hop ⊢
   by_cases hw : Region.wanted o (yielded ops a.tmps) = true
   ·rw [if_pos hw] at hop ⊢
    rcases hop with hop | hop
    ·exact operIn_of (hnd i o ho) (fun a w q => anyIn_of hL hnd fuel _ a w q) hop
    ·exact absurd hop.2 hL
   ·rw [if_neg hw] at hop ⊢
    exact ⟨fun f _ => trivial, anyIn_of hL hnd fuel _ _ _ hop⟩
theorem regionIn_any {l n : Nat} {P : Program} {id : Nat} {ops : Array Oper} {Q : Exit → Act → World → Prop} {a : Act} {w : World} (hL : ¬ LetsOut Q) (hnd : ops.all (fun o => match o.op with | .defer _ => false | _ => true) = true) (hm : P.follows .mixedOrders = true)
  (h : wpAny P .any ops Q ops.size (Array.replicate ops.size false) a w.drew) : (Code.region id ops true).wpIn (Fence.wide.inRound l) n P Q a w := by
 refine wpIn_region_any hm (anyIn_of hL ?_ _ _ _ _ h)
 intro i o ho c hc
 have := Array.all_eq_true.1 hnd i (Array.getElem?_eq_some_iff.1 ho).1
 rw [(Array.getElem?_eq_some_iff.1 ho).2] at this
 simp [hc] at this
end Go.Proofs.YtbabmdiklefgcaaGreatDoor
