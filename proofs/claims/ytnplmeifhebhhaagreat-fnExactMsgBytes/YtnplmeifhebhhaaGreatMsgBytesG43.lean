/-
  Contracts of the specification's l4bytes and MsgOk. Contracts of the byte helpers of the laws (markByteS, heldByteS): what each answers and what it leaves in memory. Plain facts: marks in rows of questions. No program is named here. Contracts of the name helpers of the laws (markName, heldName): what each answers and what it leaves in memory.
-/
import Derived.Test.YtnplmeifhebhhaaGreatMsgBytesG37
import Derived.Test.YtnplmeifhebhhaaGreatMsgBytesG38
import Derived.Test.YtnplmeifhebhhaaGreatMsgBytesG42
import Derived.Test.YtnplmeifhebhhaaGreatMsgBytesG10
import Derived.Test.YtnplmeifhebhhaaGreatMsgBytesG09
import Derived.Test.YtnplmeifhebhhaaGreatMsgBytesG07
import Derived.Test.YtnplmeifhebhhaaGreatMsgBytesG02
namespace Go.Proofs.YtnplmeifhebhhaaGreat
open Go.RowKit
set_option linter.unusedVariables false

theorem l4bytes_has {vq va vb vm vp vu : Value} {m : Mg} {w : World} (h : HasM w vq va vb vm vp vu m) (hmay : mayM m = true) :
  Calls Tryz.prog 34 #[.agg #[.int .i64 m.id, .bool m.reply, .int .i64 m.op, .bool m.auth, .int .i64 m.code, vq, va, vb, vm, vp, vu]] w fun e w' => ∃ v', e = .returned v' ∧ Own w.heap.size 5 w' v' (bytesM m) ∧ Below w.heap.size w w' := by
 have hop := (mayM_parts hmay).2.2.2.2.2.1
 rcases hop with hop | hop
 ·cases hr : m.reply with
  | true =>
   cases ha : m.auth with
   | true =>
    have := l4bytes_qra h hmay hop hr ha
    rw [hr, ha] at this
    exact this
   | false =>
    have := l4bytes_qrn h hmay hop hr ha
    rw [hr, ha] at this
    exact this
  | false =>
   cases ha : m.auth with
   | true =>
    have := l4bytes_qna h hmay hop hr ha
    rw [hr, ha] at this
    exact this
   | false =>
    have := l4bytes_qnn h hmay hop hr ha
    rw [hr, ha] at this
    exact this
 ·cases hr : m.reply with
  | true =>
   cases ha : m.auth with
   | true =>
    have := l4bytes_ura h hmay hop hr ha
    rw [hr, ha] at this
    exact this
   | false =>
    have := l4bytes_urn h hmay hop hr ha
    rw [hr, ha] at this
    exact this
  | false =>
   cases ha : m.auth with
   | true =>
    have := l4bytes_una h hmay hop hr ha
    rw [hr, ha] at this
    exact this
   | false =>
    have := l4bytes_unn h hmay hop hr ha
    rw [hr, ha] at this
    exact this

set_option maxHeartbeats 1000000 in
set_option maxRecDepth 100000 in
theorem specMsgOk_has {vq va vb vm vp vu : Value} {m : Mg} {w : World} (h : HasM w vq va vb vm vp vu m) :
  Calls Tryz.prog 9 #[.agg #[.int .i64 m.id, .bool m.reply, .int .i64 m.op, .bool m.auth, .int .i64 m.code, vq, va, vb, vm, vp, vu]] w fun e w' => e = .returned (.bool (okM m)) ∧ Below w.heap.size w w' := by
 obtain ⟨xq, yq, rfl, _, zq⟩ := h.qs.form
 obtain ⟨xa, ya, rfl, _, za⟩ := h.ans.form
 obtain ⟨xb, yb, rfl, _, zb⟩ := h.aus.form
 obtain ⟨xm, ym, rfl, _, zm⟩ := h.more.form
 obtain ⟨xp, yp, rfl, _, zp⟩ := h.pres.form
 obtain ⟨xu, yu, rfl, _, zu⟩ := h.ups.form
 have b0 := below_alloc (w := w) (.cells #[.int .i64 m.id, .bool m.reply, .int .i64 m.op, .bool m.auth, .int .i64 m.code, .slice xq m.qs.length yq, .slice xa m.ans.length ya, .slice xb m.aus.length yb, .slice xm m.more.length ym, .slice xp m.pres.length yp, .slice xu m.ups.length yu] 33)
 have KK := hide (heap_alloc_new w (.cells #[.int .i64 m.id, .bool m.reply, .int .i64 m.op, .bool m.auth, .int .i64 m.code, .slice xq m.qs.length yq, .slice xa m.ans.length ya, .slice xb m.aus.length yb, .slice xm m.more.length ym, .slice xp m.pres.length yp, .slice xu m.ups.length yu] 33))
 have H := hide (h.below b0)
 have CM := fun (w : World) (h : HasM w (.slice xq m.qs.length yq) (.slice xa m.ans.length ya) (.slice xb m.aus.length yb) (.slice xm m.more.length ym) (.slice xp m.pres.length yp) (.slice xu m.ups.length yu) m) => l4may_has h
 have CB := fun (e : mayM m = true) (w : World) (h : HasM w (.slice xq m.qs.length yq) (.slice xa m.ans.length ya) (.slice xb m.aus.length yb) (.slice xm m.more.length ym) (.slice xp m.pres.length yp) (.slice xu m.ups.length yu) m) => l4bytes_has h e
 unfold okM
 have hbl := fun (e : mayM m = true) => (show (bytesM m).length ≤ 12833 by obtain ⟨_, _, _, _, _, _, _, _, _, _, _, _, _, _, _, _, q⟩ := bytesM_parts e; exact q)
 cases hm : mayM m with
 | false =>
  rw [hm] at CM
  replace CM := hide CM
  rw [Bool.false_and]
  clear h CB hbl hm
  obtain ⟨d0, d1, d2, d3, d4, d5, d6, d7, d8, d9, d10⟩ := cells11 (unhide KK)
  go_enter Tryz.func9, Tryz.ntmps9
  go_wp2_with fail
  clear d0 d1 d2 d3 d4 d5 d6 d7 d8 d9 d10
  generalize w.alloc (.cells #[.int .i64 m.id, .bool m.reply, .int .i64 m.op, .bool m.auth, .int .i64 m.code, .slice xq m.qs.length yq, .slice xa m.ans.length ya, .slice xb m.aus.length yb, .slice xm m.more.length ym, .slice xp m.pres.length yp, .slice xu m.ups.length yu] 33) = W at *
  refine (unhide CM _ (unhide H)).mono ?_
  rintro e w1 ⟨rfl, b1⟩
  replace b0 := below_next b0 b1
  go_wp2_with fail
  go_ret
  exact ⟨rfl, b0⟩
 | true =>
  rw [hm] at CM
  replace CM := hide CM
  have CB' := hide (CB hm)
  have hl := hbl hm
  rw [Bool.true_and]
  have HR := hide (show decide ((bytesM m).length ≤ 512) = decide ((bytesM m).length ≤ 512) from rfl)
  generalize hR : decide ((bytesM m).length ≤ 512) = R at *
  replace HR := hide hR
  clear h CB hbl hm hR
  generalize bytesM m = BM at *
  obtain ⟨d0, d1, d2, d3, d4, d5, d6, d7, d8, d9, d10⟩ := cells11 (unhide KK)
  go_enter Tryz.func9, Tryz.ntmps9
  go_wp2_with fail
  clear d0 d1 d2 d3 d4 d5 d6 d7 d8 d9 d10
  generalize w.alloc (.cells #[.int .i64 m.id, .bool m.reply, .int .i64 m.op, .bool m.auth, .int .i64 m.code, .slice xq m.qs.length yq, .slice xa m.ans.length ya, .slice xb m.aus.length yb, .slice xm m.more.length ym, .slice xp m.pres.length yp, .slice xu m.ups.length yu] 33) = W at *
  refine (unhide CM _ (unhide H)).mono ?_
  rintro e w1 ⟨rfl, b1⟩
  replace b0 := below_next b0 b1
  replace H := hide ((unhide H).below b1)
  obtain ⟨d0, d1, d2, d3, d4, d5, d6, d7, d8, d9, d10⟩ := cells11 (block_kept b1 (unhide KK))
  clear b1 KK
  go_wp2_with fail
  clear d0 d1 d2 d3 d4 d5 d6 d7 d8 d9 d10
  refine (unhide CB' _ (unhide H)).mono ?_
  rintro e w2 ⟨v2, rfl, o2, b2⟩
  obtain ⟨va, vc, rfl, _⟩ := o2.lies
  replace b0 := below_next b0 b2
  clear o2 b2 H CM CB'
  by_cases h512 : BM.length ≤ 512
  ·have hR := unhide HR
   rw [decide_eq_true h512] at hR
   subst hR
   clear HR
   generalize BM.length = n at *
   go_wp2_with fail
   go_ret
   exact ⟨show Ending.returned (.bool (decide ((n : Int) ≤ 512))) = .returned (.bool true) by rw [decide_eq_true (by omega)], b0⟩
  ·have hR := unhide HR
   rw [decide_eq_false h512] at hR
   subst hR
   clear HR
   generalize BM.length = n at *
   go_wp2_with fail
   go_ret
   exact ⟨show Ending.returned (.bool (decide ((n : Int) ≤ 512))) = .returned (.bool false) by rw [decide_eq_false (by omega)], b0⟩
end Go.Proofs.YtnplmeifhebhhaaGreat

namespace Go.Proofs.YtnplmeifhebhhaaGreat
open Go.RowKit
set_option linter.unusedVariables false

set_option maxHeartbeats 400000 in
set_option maxRecDepth 100000 in
theorem markByteS_some (B g cap : Nat) (k0 : Int) (l : List Int) (w : World) (h : Own B 5 w (.slice (some ⟨g, 0, none⟩) l.length cap) l) (hl : l.length ≤ 2097152) (hk0 : 0 ≤ k0) (hk1 : k0 ≤ 9000000000000000000) :
  Calls Tryz.prog 17 #[.slice (some ⟨g, 0, none⟩) l.length cap, .int .i64 k0] w fun e w' => e = .returned (.int .i64 (k0 + l.length)) ∧
   Own B 5 w' (.slice (some ⟨g, 0, none⟩) l.length cap) (marks k0 l.length) ∧ w.grownBy w' (some g) := by
 generalize hn : l.length = n at *
 have HN := hide hn
 clear hn
 go_enter Tryz.func17, Tryz.ntmps17
 go_wp2
 go_loopw [1, 5] (fun kk i wr => ∃ k : Nat, k ≤ n ∧ i = .int .i64 k ∧ kk = .int .i64 (k0 + k) ∧ wr.ownsRow B 5 1 (.slice (some ⟨g, 0, none⟩) n cap) n ((marked l k0 k).map (Value.int .u8)) ∧ w.grownBy wr (some g)) (fun _ i _ => n - (intOf i).toNat)
 case atStart => exact ⟨0, Nat.zero_le _, rfl, by simp, by rw [marked_zero]; have h1 := h; unfold Own at h1; rw [unhide HN] at h1; exact h1, ⟨rfl, rfl, rfl, Nat.le_refl _, fun _ _ _ => rfl⟩⟩
 case round =>
  obtain ⟨k, hk, rfl, rfl, ho, hg⟩ := hrel
  by_cases hlt : k < n
  ·have hc := ho.cellAt k (by omega)
   rw [map_at _ _ (by rw [marked_length, unhide HN]; exact hlt)] at hc
   have hf := ho.frozenAt k
   have HO := hide ho
   clear ho
   go_wp2
   have hst := (unhide HO).stored k (.int .u8 ((k0 + k) % 256))
   refine ⟨⟨k + 1, by omega, by go_num, by go_num, ?_, ?_⟩, by simp [intOf]; omega⟩
   ·rw [← marked_succ, List.map_set]
    exact hst.1
   ·exact grown_trans hg hst.2
  ·go_wp2
   go_ret
   obtain rfl : k = n := by omega
   refine ⟨rfl, ?_, hg⟩
   unfold Own
   rw [marks_length]
   have e : marked l k0 k = marks k0 k := by have := marked_all l k0; rw [unhide HN] at this; exact this
   rw [← e]
   exact ho

set_option maxHeartbeats 400000 in
set_option maxRecDepth 100000 in
theorem markByteS_nil (k0 : Int) (w : World) (hk0 : 0 ≤ k0) (hk1 : k0 ≤ 9000000000000000000) :
  Calls Tryz.prog 17 #[.slice none 0 0, .int .i64 k0] w fun e w' => e = .returned (.int .i64 k0) ∧ w = w' := by
 go_enter Tryz.func17, Tryz.ntmps17
 go_wp2
 go_loop [1, 5] (fun kk i => i = .int .i64 0 ∧ kk = .int .i64 k0) (fun _ i => 0)
 case atStart => exact ⟨rfl, rfl⟩
 case round =>
  obtain ⟨rfl, rfl⟩ := hrel
  go_wp2
  go_ret
  exact ⟨rfl, rfl⟩

theorem markByteS_any {B : Nat} {v : Value} {l : List Int} (k0 : Int) {w : World} (h : Own B 5 w v l) (hl : l.length ≤ 2097152) (hk0 : 0 ≤ k0) (hk1 : k0 ≤ 9000000000000000000) :
  Calls Tryz.prog 17 #[v, .int .i64 k0] w fun e w' => e = .returned (.int .i64 (k0 + l.length)) ∧ Own B 5 w' v (marks k0 l.length) ∧ w.grownBy w' v.ownBlock := by
 rcases h.form with ⟨rfl, rfl⟩ | ⟨g, cap, rfl, _⟩
 ·refine (markByteS_nil k0 w hk0 hk1).mono fun e w' ⟨he, hw⟩ => ?_
  subst hw
  exact ⟨by simpa using he, h, ⟨rfl, rfl, rfl, Nat.le_refl _, fun _ _ _ => rfl⟩⟩
 ·exact markByteS_some B g cap k0 l w h hl hk0 hk1

set_option maxHeartbeats 400000 in
set_option maxRecDepth 100000 in
theorem heldByteS_marks (a : Option Addr) (cap n : Nat) (k0 : Int) (w : World) (h : Lies w a (marks k0 n)) (hl : n ≤ 2097152) (hk0 : 0 ≤ k0) (hk1 : k0 ≤ 9000000000000000000) :
  Calls Tryz.prog 18 #[.slice a n cap, .int .i64 k0] w fun e w' => e = .returned (.int .i64 (k0 + n)) ∧ w = w' := by
 go_enter Tryz.func18, Tryz.ntmps18
 go_wp2
 go_loop [1, 5] (fun kk i => ∃ k : Nat, k ≤ n ∧ i = .int .i64 k ∧ kk = .int .i64 (k0 + k)) (fun _ i => n - (intOf i).toNat)
 case atStart => exact ⟨0, Nat.zero_le _, rfl, by simp⟩
 case round =>
  obtain ⟨k, hk, rfl, rfl⟩ := hrel
  by_cases hlt : k < n
  ·obtain ⟨b, off, rfl, hbl, hc⟩ := h.here (k := k) (by rw [marks_length]; exact hlt)
   rw [marks_getD _ _ _ hlt] at hc
   go_wp2
   exact ⟨⟨k + 1, by omega, by go_num, by go_num⟩, by simp [intOf]; omega⟩
  ·go_wp2
   go_ret
   obtain rfl : k = n := by omega
   exact ⟨rfl, rfl⟩

theorem heldByteS_any {B : Nat} {v : Value} {n : Nat} (k0 : Int) {w : World} (h : Own B 5 w v (marks k0 n)) (hl : n ≤ 2097152) (hk0 : 0 ≤ k0) (hk1 : k0 ≤ 9000000000000000000) :
  Calls Tryz.prog 18 #[v, .int .i64 k0] w fun e w' => e = .returned (.int .i64 (k0 + n)) ∧ w = w' := by
 obtain ⟨a, cap, rfl, hL⟩ := h.lies
 rw [marks_length]
 exact heldByteS_marks a cap n k0 w hL hl hk0 hk1
end Go.Proofs.YtnplmeifhebhhaaGreat

namespace Go.Proofs.YtnplmeifhebhhaaGreat
open Go.RowKit
set_option linter.unusedVariables false

def posQu (q : Que) (k : Int) : Int := pos q.name k q.name.length + 1
def markQu (q : Que) (k : Int) : Que := ⟨markL q.name k, pos q.name k q.name.length⟩
def posQs (l : List Que) (k : Int) : Nat → Int
 | 0 => k
 | i + 1 => posQu (l.getD i queZ) (posQs l k i)
def markQs (l : List Que) (k : Int) (m : Nat) : List Que := (List.range l.length).map (fun j => if j < m then markQu (l.getD j queZ) (posQs l k j) else l.getD j queZ)
theorem markQs_length (l : List Que) (k : Int) (m : Nat) : (markQs l k m).length = l.length := by simp [markQs]
theorem markQs_getD (l : List Que) (k : Int) (m j : Nat) (h : j < l.length) : (markQs l k m).getD j queZ = if j < m then markQu (l.getD j queZ) (posQs l k j) else l.getD j queZ := by simp [markQs, h]
theorem markQs_zero (l : List Que) (k : Int) : markQs l k 0 = l := by
 apply List.ext_getElem?
 intro j
 by_cases hj : j < l.length <;> simp [markQs, hj]
theorem markQs_succ (l : List Que) (k : Int) (m : Nat) (hm : m < l.length) : (markQs l k m).set m (markQu (l.getD m queZ) (posQs l k m)) = markQs l k (m + 1) := by
 apply List.ext_getElem?
 intro j
 by_cases e : j = m
 ·subst e
  simp [markQs, hm]
 ·rw [List.getElem?_set_ne (Ne.symm e)]
  by_cases hj : j < l.length
  ·by_cases hjm : j < m
   ·simp [markQs, hj, hjm, show j < m + 1 by omega]
   ·simp [markQs, hj, hjm, show ¬ j < m + 1 by omega]
  ·simp [markQs, hj]
theorem posQs_bound {l : List Que} (hs : ∀ i, i < l.length → SizeQu 1048576 (l.getD i queZ)) (k : Int) : ∀ i, i ≤ l.length → k ≤ posQs l k i ∧ posQs l k i ≤ k + i * 2199025352707
 | 0, _ => by simp [posQs]
 | i + 1, hi => by
  have h1 := posQs_bound hs k i (by omega)
  have h2 := pos_bound' (l.getD i queZ).name (posQs l k i) (hs i (by omega)).name (hs i (by omega)).names
  unfold posQs posQu
  push_cast
  omega
theorem one_set {w : World} {q n : Nat} {cur : Array Value} {t : TypeId} (h : w.heap[q]? = some (.cells cur t)) (x : Value) (hn : n < cur.size) :
  ∃ cur2, (w.setCell ⟨q, n, none⟩ x).heap[q]? = some (.cells cur2 t) ∧ cur2.size = cur.size ∧ cur2[n]? = some x ∧ (∀ j, j ≠ n → cur2[j]? = cur[j]?) ∧ Outside q (q + 1) w (w.setCell ⟨q, n, none⟩ x) := by
 refine ⟨_, block_setAt h n x, by simp, ?_, fun j h1 => ?_, outside_set _ _ _ _⟩
 ·simp [hn]
 ·simp [Ne.symm h1]
theorem wrap_intM (x : Int) (h0 : 0 ≤ x) (h1 : x < 9223372036854775808) : IntKind.i64.wrap x = x := by
 have := wrap_small x.toNat (by omega)
 rwa [Int.toNat_of_nonneg h0] at this
theorem take_atX {cur : Array Value} {n j : Nat} (hj : j < n) : (cur.toList.take n)[j]? = cur[j]? := by
 rw [List.getElem?_take, if_pos hj, Array.getElem?_toList]
end Go.Proofs.YtnplmeifhebhhaaGreat

namespace Go.Proofs.YtnplmeifhebhhaaGreat
open Go.RowKit
set_option linter.unusedVariables false

set_option maxHeartbeats 800000 in
set_option maxRecDepth 100000 in
theorem markByteSS_any {B E : Nat} {v : Value} {n : List (List Int)} (k0 : Int) {w : World} (h : OwnN B E 37 5 w v n) (hl : n.length ≤ 1048576) (hl2 : ∀ i, i < n.length → (n.getD i []).length ≤ 1048576) (hk0 : 0 ≤ k0) (hk1 : k0 ≤ 8000000000000000000) :
  Calls Tryz.prog 90 #[v, .int .i64 k0] w fun e w' => e = .returned (.int .i64 (pos n k0 n.length)) ∧ OwnN B E 37 5 w' v (markL n k0) ∧ Outside B E w w' := by
 obtain ⟨a, cap, rfl, hcl, hcm⟩ := h.ownL.hasL.form
 unfold maxLen at hcm
 obtain ⟨vs, ho, hu, hd, hv, he⟩ := h
 have hP := hide (fun j (hj : j ≤ n.length) => (show k0 ≤ pos n k0 j ∧ pos n k0 j ≤ 8000002000000000000 from by
  have := pos_le n k0 1048576 hl2 j hj
  have : j * 1048576 ≤ 1048576 * 1048576 := Nat.mul_le_mul_right _ (by omega)
  omega))
 have hPS := hide (pos_succ n k0)
 have hP0 := hide (pos_zero n k0)
 have hMG := hide (markL_getD n k0)
 have hML := hide (markL_length n k0)
 have HU := hide hu
 have HD := hide hd
 have HE := hide he
 have HV := hide hv
 have HO := hide ho
 have HL2 := hide hl2
 have hvl : vs.length = n.length := by have := ho.1; simpa using this
 clear hu hd he hv ho hl2
 generalize pos n k0 = P at *
 generalize markL n k0 = M at *
 generalize hn : n.length = m at *
 have HN := hide hn
 clear hn
 go_enter Tryz.func90, Tryz.ntmps90
 go_wp2
 go_loopw [1, 5] (fun kk i wr => ∃ k : Nat, k ≤ m ∧ i = .int .i64 k ∧ kk = .int .i64 (P k) ∧ Outside B E w wr ∧ wr.ownsRow B 37 1 (.slice a m cap) m vs ∧ Hid (∀ j, j < m → ∃ u, vs[j]? = some u ∧ Own B 5 wr u (if j < k then M.getD j [] else n.getD j []))) (fun _ i _ => m - (intOf i).toNat)
 case atStart => exact ⟨0, Nat.zero_le _, rfl, by rw [unhide hP0], Outside.refl _ _ _, unhide HO, hide (fun j hj => by obtain ⟨u, h1, h2⟩ := unhide HU j hj; exact ⟨u, h1, by simpa using h2⟩)⟩
 case round =>
  obtain ⟨k, hk, rfl, rfl, hout, hrow, hall⟩ := hrel
  by_cases hlt : k < m
  ·obtain ⟨u, hu1, hu2⟩ := unhide hall k hlt
   simp only [Nat.lt_irrefl, if_false] at hu2
   have hlk := unhide HL2 k hlt
   have hpk := unhide hP k (by omega)
   have hps := unhide hPS k hlt
   have hmg := unhide hMG k hlt
   have hcell : ∃ g, a = some ⟨g, 0, none⟩ := by
    rcases hrow.2 with ⟨hv, h0⟩ | ⟨g, cap', cur, hv, _⟩
    ·omega
    ·simp only [Value.slice.injEq] at hv; exact ⟨g, hv.1⟩
   obtain ⟨g, rfl⟩ := hcell
   have hc := World.ownsRow.cellAt hrow k (by omega)
   rw [hu1] at hc
   have hgl := (World.ownsRow.lt hrow g rfl)
   have hue := unhide HE k u
   have hude := hide hue
   clear hue
   generalize n.getD k [] = lab at *
   have HU2 := hide hu2
   have hur : ∃ ua uc, u = .slice ua lab.length uc := by obtain ⟨ua, uc, e, _⟩ := hu2.lies; exact ⟨ua, uc, e⟩
   clear hu2
   obtain ⟨ua, uc, rfl⟩ := hur
   have HR := hide hrow
   clear hrow
   go_wp2_with fail
   refine (markByteS_any (P k) (unhide HU2) (by omega) (by omega) (by omega)).mono ?_
   rintro e w1 ⟨rfl, o1, g1⟩
   go_wp2_with fail
   have hrange : ∀ q, (Value.slice ua lab.length uc).ownBlock = some q → B ≤ q ∧ q < E := fun q hq => ⟨((unhide HU2).lt q hq).1, unhide hude q hu1 hq⟩
   have hner : ∀ q, (Value.slice ua lab.length uc).ownBlock = some q → q ≠ g := by
    intro q hq e
    subst e
    rcases (unhide HU2).2 with ⟨h1, _⟩ | ⟨g', c', cur, h1, _, h2, _⟩
    ·rw [h1] at hq; simp [Value.ownBlock] at hq
    ·rw [h1] at hq
     simp [Value.ownBlock] at hq
     subst hq
     rcases (unhide HR).2 with ⟨h3, _⟩ | ⟨g3, c3, cur3, h3, _, h4, _⟩
     ·simp at h3
     ·simp only [Value.slice.injEq, Option.some.injEq, Addr.mk.injEq] at h3
      obtain ⟨⟨h5, _⟩, _⟩ := h3
      subst h5
      rw [h2] at h4
      simp at h4
   refine ⟨⟨k + 1, by omega, by go_num, by rw [hps], hout.trans (outside_grown g1 hrange), World.ownsRow.kept (unhide HR) g1 (.inr (fun e => hner g e.symm rfl)), hide ?_⟩, by simp [intOf]; omega⟩
   intro j hj
   by_cases e : j = k
   ·subst e
    refine ⟨_, hu1, ?_⟩
    rw [if_pos (by omega), hmg]
    exact o1
   ·obtain ⟨u', h1, h2⟩ := unhide hall j hj
    have : j < k + 1 ↔ j < k := by omega
    rw [show (if j < k + 1 then M.getD j [] else n.getD j []) = (if j < k then M.getD j [] else n.getD j []) by simp [this]]
    refine ⟨u', h1, h2.kept g1 ?_⟩
    rcases Nat.lt_or_gt_of_ne e with e1 | e1
    ·exact unhide HD j k u' _ e1 h1 hu1
    ·rcases unhide HD k j _ u' e1 hu1 h1 with e2 | e2
     ·cases hq : u'.ownBlock with
      | none => exact .inl rfl
      | some q => right; rw [e2]; simp
     ·exact .inr (fun e3 => e2 e3.symm)
  ·obtain rfl : k = m := by omega
   go_wp2_with fail
   go_ret
   have hMk := unhide hML
   refine ⟨rfl, ⟨vs, by rw [hMk]; exact hrow, fun i hi => ?_, unhide HD, unhide HV, unhide HE⟩, hout⟩
   rw [hMk] at hi
   obtain ⟨u, h1, h2⟩ := unhide hall i hi
   rw [if_pos hi] at h2
   exact ⟨u, h1, h2⟩
end Go.Proofs.YtnplmeifhebhhaaGreat
