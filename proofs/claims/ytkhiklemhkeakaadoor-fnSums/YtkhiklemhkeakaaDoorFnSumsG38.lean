/-
  Plain facts: where an append to an own row of bytes leaves it: in its block, or in a new one. No program is named here. The walk of laws.FnSums.
-/
import Derived.Test.YtkhiklemhkeakaaDoorFnSumsG19
import Derived.Test.YtkhiklemhkeakaaDoorFnSumsG04
import Derived.Test.YtkhiklemhkeakaaDoorFnSumsG20
import Derived.Test.YtkhiklemhkeakaaDoorFnSumsG23
import Derived.Test.YtkhiklemhkeakaaDoorFnSumsG25
import Derived.Test.YtkhiklemhkeakaaDoorFnSumsG36
import Derived.Test.YtkhiklemhkeakaaDoorFnSumsG37
import Derived.Lib.SlBytesConst
namespace Go.Proofs.YtkhiklemhkeakaaDoor
open Go.RowKit

section
variable {P : Program} {w : World}

theorem where_bytes {t ty e : TypeId} (ht : P.underlying t = some (.slice e)) (hinfo : (P.info? e).map (fun i => (i.zero, i.size, i.bytes)) = some (some (.int .u8 0), 1, 1))
    {base : Nat} {v vx : Value} {l m : List Int} (hown : Own base e w v l) (hr : Reads w vx m) (hlen : l.length + m.length ≤ 1099511627776) (hbase : base ≤ w.heap.size) {v' : Value} {w' : World}
    (hrun : (Builtin.append_ #[t, t] ty #[v, vx]).run P w = .ok v' w') : v'.ownBlock = v.ownBlock ∨ v'.ownBlock = some w.heap.size := by
  obtain ⟨i0, hi, hz0, hz1, hz2⟩ := info_parts hinfo
  rcases hr with ⟨rfl, rfl⟩ | ⟨ad, cap, rfl, hc⟩
  · rw [run_append_owned_none w base t ty e i0 1 ht hi v l.length (l.map (Value.int .u8)) hown] at hrun
    simp only [Result.ok.injEq] at hrun
    left; rw [hrun.1]
  · obtain ⟨v2, w2, h1, _, _, h4⟩ := run_append_own (P := P) w base t ty e i0 (.int .u8 0) 1 1 ht hi hz0 hz1 hz2 rfl (by decide) v l.length (l.map (Value.int .u8)) hown ad m.length cap (m.map (Value.int .u8)) (by simp) (news_of hc) (one_of m) (by unfold maxLen; omega) (by omega) hbase
    rcases hown.2 with ⟨rfl, h0⟩ | ⟨g, cp, cur, rfl, hbg, hg, hnc, hcm, hcs, htake⟩
    · by_cases hm : m.length = 0
      · rw [h1] at hrun
        simp only [Result.ok.injEq] at hrun
        have := h4.2 ⟨rfl, hm⟩
        rw [← hrun.1, this]
        exact .inl rfl
      · rw [run_append_nil (P := P) w t ty e i0 (.int .u8 0) ht hi hz0 ad m.length cap (m.map (Value.int .u8)) (by simp [hz1]) (news_of hc) (by omega) (by omega) (by rw [hz2]; omega)] at hrun
        simp only [Result.ok.injEq] at hrun
        right; rw [← hrun.1]; rfl
    · by_cases hroom : l.length + m.length ≤ cp
      · rw [run_append_room (P := P) w t ty e i0 ht hi g l.length cp cur hg ad m.length cap (m.map (Value.int .u8)) (by simp [hz1]) (news_of hc) (one_of m) hroom (by rw [hz1]; simp; omega)] at hrun
        simp only [Result.ok.injEq] at hrun
        left; rw [← hrun.1]; rfl
      · have holds : ∀ j u, (l.map (Value.int .u8))[j]? = some u → w.cell? ((⟨g, 0, none⟩ : Addr).add j) = some u := World.ownsRow.cells hown (g := g) rfl
        rw [run_append_grow (P := P) w t ty e i0 (.int .u8 0) ht hi hz0 ⟨g, 0, none⟩ l.length cp (l.map (Value.int .u8)) (by simp [hz1]) holds ad m.length cap (m.map (Value.int .u8)) (by simp [hz1]) (news_of hc) (by omega) (by omega) (growslice_fits (by omega) (by rw [hz2]; omega))] at hrun
        simp only [Result.ok.injEq] at hrun
        right; rw [← hrun.1]; rfl

/-- 'append(s, x...)' of bytes, as a step of a region, and where it leaves the row. -/
theorem step_append_where {ops : Array Oper} {o : Oper} {a : Act} {K : Act → World → Prop} {Q : Exit → Act → World → Prop} {E : Prop} (hgd : o.guard = none) (s x : Operand) (t e : TypeId)
    (ho : o.op = .call { callee := .builtin .append, args := #[s, x], argTypes := #[t, t] }) (ht : P.underlying t = some (.slice e))
    (hinfo : (P.info? e).map (fun i => (i.zero, i.size, i.bytes)) = some (some (.int .u8 0), 1, 1))
    (base : Nat) (v vx : Value) (l m : List Int) (hs : a.eval s = v) (hx : a.eval x = vx) (hown : Own base e w v l) (hr : Reads w vx m) (hlen : l.length + m.length ≤ 1099511627776) (hbase : base ≤ w.heap.size)
    (h : ∀ v' w', Own base e w' v' (l ++ m) → w.grownBy w' v.ownBlock → (v'.ownBlock = v.ownBlock ∨ v'.ownBlock = some w.heap.size) → K (a.put o.dst v') w') : if Region.wanted o (yielded ops a.tmps) = true then Oper.wp P o a w K Q else E := by
  have hw : Region.wanted o (yielded ops a.tmps) = true := by simp [Region.wanted, hgd]
  rw [if_pos hw]
  obtain ⟨v', w', hr', h2, h3⟩ := run_append_bytes (P := P) t o.type e ht hinfo base v vx l m hown hr hlen hbase
  have h4 := where_bytes ht hinfo hown hr hlen hbase hr'
  unfold Oper.wp execOp
  simp only [ho, resolve, invoke, builtin, Sem.run_bind, Sem.run_pure, Result.andThen_ok, List.map_toArray, List.map_cons, List.map_nil, hs, hx, hr']
  exact h v' w' h2 h3 h4
/-- The same where no order is drawn. -/
theorem append_where {ops : Array Oper} {rest : List Oper} {o : Oper} {a : Act} {Q : Exit → Act → World → Prop} (hgd : o.guard = none) (s x : Operand) (t e : TypeId)
    (ho : o.op = .call { callee := .builtin .append, args := #[s, x], argTypes := #[t, t] }) (ht : P.underlying t = some (.slice e))
    (hinfo : (P.info? e).map (fun i => (i.zero, i.size, i.bytes)) = some (some (.int .u8 0), 1, 1))
    (base : Nat) (v vx : Value) (l m : List Int) (hs : a.eval s = v) (hx : a.eval x = vx) (hown : Own base e w v l) (hr : Reads w vx m) (hlen : l.length + m.length ≤ 1099511627776) (hbase : base ≤ w.heap.size)
    (h : ∀ v' w', Own base e w' v' (l ++ m) → w.grownBy w' v.ownBlock → (v'.ownBlock = v.ownBlock ∨ v'.ownBlock = some w.heap.size) → wpList P ops Q rest (a.put o.dst v') w') : wpList P ops Q (o :: rest) a w := by
  refine wpList_plain hgd fun _ hK => ?_
  obtain ⟨v', w', hr', h2, h3⟩ := run_append_bytes (P := P) t o.type e ht hinfo base v vx l m hown hr hlen hbase
  have h4 := where_bytes ht hinfo hown hr hlen hbase hr'
  unfold Oper.wp execOp
  simp only [ho, resolve, invoke, builtin, Sem.run_bind, Sem.run_pure, Result.andThen_ok, List.map_toArray, List.map_cons, List.map_nil, hs, hx, hr']
  exact hK _ _ (h v' w' h2 h3 h4)
end

/-- Of the blocks that lay in w none has turned but the row of v; what v' owns is that row, or new. -/
structure Moved (w w' : World) (v v' : Value) : Prop where
  kept : w.grownBy w' v.ownBlock
  own : v'.ownBlock = v.ownBlock ∨ ∀ q, v'.ownBlock = some q → w.heap.size ≤ q
theorem Moved.refl (w : World) (v : Value) : Moved w w v v := ⟨⟨rfl, rfl, rfl, Nat.le_refl _, fun _ _ _ => rfl⟩, .inl rfl⟩
theorem Moved.step {w a b : World} {v u u' : Value} (h : Moved w a v u) (g : a.grownBy b u.ownBlock) (hw : u'.ownBlock = u.ownBlock ∨ u'.ownBlock = some a.heap.size) : Moved w b v u' := by
  refine ⟨⟨g.os.trans h.kept.os, g.tape.trans h.kept.tape, g.output.trans h.kept.output, Nat.le_trans h.kept.size g.size, fun k hk hne => ?_⟩, ?_⟩
  · refine (g.block k (Nat.lt_of_lt_of_le hk h.kept.size) (fun e => ?_)).trans (h.kept.block k hk hne)
    rcases h.own with h1 | h1
    · rw [h1] at e; exact hne e
    · have := h1 k e.symm; omega
  · rcases hw with hw | hw
    · rw [hw]; exact h.own
    · right
      intro q hq
      rw [hw] at hq
      have := h.kept.size
      simp at hq
      omega
theorem Moved.below {w a b : World} {v u : Value} (h : Moved w a v u) (hb : Below a.heap.size a b) : Moved w b v u :=
  ⟨⟨hb.os.trans h.kept.os, hb.tape.trans h.kept.tape, hb.output.trans h.kept.output, Nat.le_trans h.kept.size hb.size, fun k hk hne => (hb.block k (Nat.lt_of_lt_of_le hk h.kept.size)).trans (h.kept.block k hk hne)⟩, h.own⟩
end Go.Proofs.YtkhiklemhkeakaaDoor

namespace Go.Proofs.YtkhiklemhkeakaaDoor
open Go.RowKit
set_option linter.unusedVariables false
set_option linter.unusedSimpArgs false

theorem bytesW_bytes (x : BitVec 32) : ∀ c ∈ bytesW x, 0 ≤ c ∧ c ≤ 255 := by
  have h := wv_lt x
  have h0 : 0 ≤ wv x := by unfold wv; omega
  intro c hc
  simp only [bytesW, List.mem_cons, List.not_mem_nil, or_false] at hc
  omega
theorem outK_bytes (s : S8) (j : Nat) : ∀ c ∈ outK s j, 0 ≤ c ∧ c ≤ 255 := by
  induction j with
  | zero => intro c hc; cases hc
  | succ j ih =>
    intro c hc
    rcases List.mem_append.1 hc with h | h
    · exact ih c h
    · exact bytesW_bytes _ c h
theorem shaOf_bytes (l : List Int) : ∀ c ∈ shaOf l, 0 ≤ c ∧ c ≤ 255 := outK_bytes _ 8
/-- 'append(s, x...)' of bytes, one operation by itself. -/
theorem append_wp {P : Program} {w : World} {o : Oper} {a : Act} {K : Act → World → Prop} {Q : Exit → Act → World → Prop} (s x : Operand) (t e : TypeId)
    (ho : o.op = .call { callee := .builtin .append, args := #[s, x], argTypes := #[t, t] }) (ht : P.underlying t = some (.slice e))
    (hinfo : (P.info? e).map (fun i => (i.zero, i.size, i.bytes)) = some (some (.int .u8 0), 1, 1))
    (base : Nat) (v vx : Value) (l m : List Int) (hs : a.eval s = v) (hx : a.eval x = vx) (hown : Own base e w v l) (hr : Reads w vx m) (hlen : l.length + m.length ≤ 1099511627776) (hbase : base ≤ w.heap.size)
    (h : ∀ v' w', Own base e w' v' (l ++ m) → w.grownBy w' v.ownBlock → K (a.put o.dst v') w') : Oper.wp P o a w K Q := by
  obtain ⟨v', w', hr', h2, h3⟩ := run_append_bytes (P := P) t o.type e ht hinfo base v vx l m hown hr hlen hbase
  unfold Oper.wp execOp
  simp only [ho, resolve, invoke, builtin, Sem.run_bind, Sem.run_pure, Result.andThen_ok, List.map_toArray, List.map_cons, List.map_nil, hs, hx, hr']
  exact h v' w' h2 h3

theorem has_drop3 {w : World} {B : Nat} {e : TypeId} {v : Value} {x : List Int} (h : Own B e w v ([0, 1, 1] ++ x)) (hx : x.length = 32) : ∃ g cap, v = .slice (some ⟨g, 0, none⟩) 35 cap ∧ 35 ≤ cap ∧ B ≤ g ∧ g < w.heap.size ∧ Has w (.slice (some ⟨g, 3, none⟩) 32 (cap - 3)) x := by
  have hl : ([0, 1, 1] ++ x).length = 35 := by rw [List.length_append, hx]; rfl
  rcases h.form with ⟨_, h0⟩ | ⟨g, cap, h1, h2, h3, h4, h5, h6, _⟩
  · rw [h0] at hl
    simp at hl
  · rw [hl] at h1 h4 h6
    refine ⟨g, cap, h1, h4, h2, h3, .inr ⟨g, 3, cap - 3, by rw [hx], h3, by omega, by omega, fun i hi => ?_⟩⟩
    have := h6 (3 + i) (by omega)
    rw [this, Nat.add_comm 3 i]
    rfl

set_option maxHeartbeats 2000000 in
set_option maxRecDepth 100000 in
theorem lawSums (a : Option Addr) (cap : Nat) (l : List Int) (w : World) (hL : Lies w a l) (hb : ∀ k, 0 ≤ l.getD k 0 ∧ l.getD k 0 ≤ 255) (hm : l.length ≤ maxLen) (hF : TabW w 0 (l8 iv8)) (hG : TabW w 1 kW) :
    Calls Tryd.prog 3 #[.slice a l.length cap] w fun e w' => e = .returned (.bool true) ∧ Below w.heap.size w w' := by
  have hcid := fun (w : World) (C : Array Value) (n c : Nat) => Lib.run_convert_bytes_const (P := Tryd.prog) w 22 5 C n c Tryd.underlying22 Tryd.underlying5
  have IM := hide (fun (w' : World) (v : Value) (m : List Int) (hbl : Below w.heap.size w w') (hv : Has w' v m) (hl : m.length ≤ 4096) (h8 : Bytes8 m) => sha_own hv hl h8 (hF.below hbl) (hG.below hbl))
  have ID := hide (fun (w' : World) (vb v : Value) (m : List Int) (n : List (List Int)) (hbl : Below w.heap.size w w') (hv : Has w' vb m) (hl : m.length ≤ 1048576) (h8 : Bytes8 m) (hn : HasL w' v n) => implDhcid_has hv hl h8 hn (hF.below hbl) (hG.below hbl))
  have DD := hide (fun (w' : World) (hbl : Below w.heap.size w w') => drawDhcid_any (cap := cap) l (hL.below hbl) rfl hb hm)
  have DS := hide (fun (w' : World) (hbl : Below w.heap.size w w') => drawSha256_any (cap := cap) l (hL.below hbl) rfl hb hm)
  have H8T : Hid (Bytes8 [115, 111, 109, 101, 32, 116, 101, 120, 116]) := hide (bytes8_mem (by simp))
  obtain ⟨X, HX⟩ : ∃ X, Hid (shaOf [115, 111, 109, 101, 32, 116, 101, 120, 116] = X) := ⟨_, hide rfl⟩
  have HXL := hide (show X.length = 32 by rw [← unhide HX]; exact shaOf_length _)
  have HXB := hide (show ∀ c ∈ X, 0 ≤ c ∧ c ≤ 255 by rw [← unhide HX]; exact shaOf_bytes _)
  clear hF hG hL hb
  have b0 := below_alloc (w := w) (.cells #[.int .u8 115, .int .u8 111, .int .u8 109, .int .u8 101, .int .u8 32, .int .u8 116, .int .u8 101, .int .u8 120, .int .u8 116] 5 (9, 10))
  have T0 : Hid (Has (w.alloc (.cells #[.int .u8 115, .int .u8 111, .int .u8 109, .int .u8 101, .int .u8 32, .int .u8 116, .int .u8 101, .int .u8 120, .int .u8 116] 5 (9, 10))) (.slice (some ⟨w.heap.size, 0, none⟩) 9 9) [115, 111, 109, 101, 32, 116, 101, 120, 116]) := hide (has_const w 5 [115, 111, 109, 101, 32, 116, 101, 120, 116] (9, 10) (by simp [maxLen]))
  go_enter Tryd.func3, Tryd.ntmps3
  go_wp2_with fail
  generalize w.alloc (.cells #[.int .u8 115, .int .u8 111, .int .u8 109, .int .u8 101, .int .u8 32, .int .u8 116, .int .u8 101, .int .u8 120, .int .u8 116] 5 (9, 10)) = W at *
  refine (unhide IM _ _ [115, 111, 109, 101, 32, 116, 101, 120, 116] b0 (unhide T0) (by simp) (unhide H8T)).mono ?_
  rw [unhide HX]
  rintro e w1 ⟨v1, rfl, o1, b1⟩
  have bb1 := below_next b0 b1
  have O1 := hide o1
  obtain ⟨va, vc, rfl, _⟩ := o1.lies
  rw [unhide HXL] at O1
  have b2 := below_alloc (w := w1) (.cells #[.int .u8 115, .int .u8 111, .int .u8 109, .int .u8 101, .int .u8 32, .int .u8 116, .int .u8 101, .int .u8 120, .int .u8 116] 5 (9, 10))
  have T1 : Hid (Has (w1.alloc (.cells #[.int .u8 115, .int .u8 111, .int .u8 109, .int .u8 101, .int .u8 32, .int .u8 116, .int .u8 101, .int .u8 120, .int .u8 116] 5 (9, 10))) (.slice (some ⟨w1.heap.size, 0, none⟩) 9 9) [115, 111, 109, 101, 32, 116, 101, 120, 116]) := hide (has_const w1 5 [115, 111, 109, 101, 32, 116, 101, 120, 116] (9, 10) (by simp [maxLen]))
  have O2 := hide ((unhide O1).below b2)
  have bb2 := below_next bb1 b2
  rw [unhide HXL]
  clear b0 b1 o1 T0 O1 b2
  go_wp2_with fail
  generalize w1.alloc (.cells #[.int .u8 115, .int .u8 111, .int .u8 109, .int .u8 101, .int .u8 32, .int .u8 116, .int .u8 101, .int .u8 120, .int .u8 116] 5 (9, 10)) = w2 at *
  have SP := hide (specSha256_any (l := [115, 111, 109, 101, 32, 116, 101, 120, 116]) (unhide T1) (unhide H8T) (by simp))
  rw [show shaAny [115, 111, 109, 101, 32, 116, 101, 120, 116] = X from (show shaAny [115, 111, 109, 101, 32, 116, 101, 120, 116] = shaOf [115, 111, 109, 101, 32, 116, 101, 120, 116] by unfold shaAny; rw [if_pos (by simp)]).trans (unhide HX)] at SP
  refine (unhide SP).mono ?_
  rintro e w3 ⟨v3, rfl, o3, b3⟩
  have bb3 := below_next bb2 b3
  have HS := hide (same_has ((unhide O2).below b3).has o3.has (unhide HXB) (unhide HXB))
  rw [decide_eq_true rfl] at HS
  clear b3 o3 O2 T1 SP bb2
  go_wp2_with fail
  refine (unhide HS).mono ?_
  rintro e w4 ⟨rfl, hw4⟩
  have bb4 : Below w.heap.size w w4 := by rw [← hw4]; exact bb3
  clear hw4 HS bb3
  go_wp2_with fail
  refine (unhide DD _ bb4).mono ?_
  rintro e w5 ⟨vb, m, vn, n, rfl, hvb, hml, hm8, hbk, hvn, b5⟩
  have bb5 := below_next bb4 b5
  have HVB := hide hvb
  have HM8 := hide hm8
  obtain ⟨ba, bc, rfl, _⟩ := hvb.form
  obtain ⟨na, nc, rfl, _⟩ := hvn.form
  have b6 := below_alloc (w := w5) (.cells #[.slice na n.length nc] 27)
  have K6 := hide (heap_alloc_new w5 (.cells #[.slice na n.length nc] 27))
  have HV6 := hide ((unhide HVB).below b6)
  have HN6 := hide (hvn.below b6)
  have bb6 := below_next bb5 b6
  have c6 := block_one (unhide K6)
  clear bb4 b5 bb5 HVB hvb hm8 hvn b6 DD hbk
  go_wp2_with fail
  clear c6
  generalize w5.alloc (.cells #[.slice na n.length nc] 27) = w6 at *
  refine (unhide ID _ _ _ m n bb6 (unhide HV6) (by omega) (unhide HM8) (unhide HN6)).mono ?_
  rintro e w7 ⟨v7, rfl, o7, b7⟩
  have bb7 := below_next bb6 b7
  have HV7 := hide ((unhide HV6).below b7)
  have HN7 := hide ((unhide HN6).below b7)
  have K7 := hide (block_kept b7 (unhide K6))
  clear bb6 b7 HV6 HN6 K6 ID
  cases hok : clientOk m && nameOk n with
  | false =>
    rw [show dhcidOf m n = [] by unfold dhcidOf; rw [hok]; rfl] at o7
    obtain ⟨da, dc, rfl, _⟩ := o7.lies
    clear o7
    simp only [List.length_nil]
    go_wp2_with fail
    go_ret
    exact ⟨rfl, bb7⟩
  | true =>
    have hc : clientOk m = true := (Bool.and_eq_true_iff.1 hok).1
    have hn : nameOk n = true := (Bool.and_eq_true_iff.1 hok).2
    rw [show dhcidOf m n = [0, 1, 1] ++ shaOf (m ++ wire n) by unfold dhcidOf; rw [hok]; rfl] at o7
    have H8 := hide (dhcid_bytes (unhide HM8) hn)
    have hw := wire_length n hn
    have HLN := hide (show (m ++ wire n).length ≤ 4096 by rw [List.length_append]; omega)
    have HLA := hide (show m.length + (wire n).length ≤ 1099511627776 by omega)
    have HNP := hide (namePut_yes (l := []) hn)
    have HOKN := hide hn
    obtain ⟨Y, HY⟩ : ∃ Y, Hid (shaOf (m ++ wire n) = Y) := ⟨_, hide rfl⟩
    have HYL := hide (show Y.length = 32 by rw [← unhide HY]; exact shaOf_length _)
    have HYB := hide (show ∀ c ∈ Y, 0 ≤ c ∧ c ≤ 255 by rw [← unhide HY]; exact shaOf_bytes _)
    rw [unhide HY] at o7
    obtain ⟨g, dc, rfl, hdc, hg0, hg1, hD⟩ := has_drop3 o7 (unhide HYL)
    have HD := hide hD
    have f1 : ¬ dc = 3 := by omega
    clear hok hc hn hw o7 hD
    have c7 := block_one (unhide K7)
    have NP := hide (specNamePut_has (vb := .slice none 0 0) (l := []) (.inl ⟨rfl, rfl⟩) (by simp) (unhide HN7))
    rw [unhide HOKN, unhide HNP] at NP
    go_wp2_with fail
    clear c7
    refine (unhide NP).mono ?_
    rintro e w8 ⟨v8, rfl, o8, b8⟩
    have bb8 := below_next bb7 b8
    have HV8 := hide ((unhide HV7).below b8)
    have HD8 := hide ((unhide HD).below b8)
    have O8 := hide (show Own w7.heap.size 5 w8 v8 (wire n) from o8)
    have ZG := hide (Nat.lt_of_lt_of_le hg1 b8.size)
    obtain ⟨pa, pc, rfl, _⟩ := (unhide O8).lies
    clear NP b8 o8 HV7 HD HN7 K7 bb7 hg1
    go_wp2_with fail
    have f2 : 35 ≤ dc := hdc
    refine startF 15 (S := fun _ => True) (by kernel_rfl) rfl trivial (fun hHeld => ?_)
    simp only [List.replicate]
    have bd := below_drew (w := w8)
    replace bb8 := below_next bb8 bd
    replace HV8 := hide ((unhide HV8).below bd)
    replace HD8 := hide ((unhide HD8).below bd)
    replace O8 := hide ((unhide O8).below bd)
    have ZGd := hide (show g < w8.drew.heap.size from unhide ZG)
    have ZW := hide bb8.size
    have OL8 := hide (fun k e => ((unhide O8).lt k e).2)
    clear bd
    generalize w8.drew = wd at *
    refine tkI 0 ?_ rfl (by kernel_rfl) (by kernel_rfl) (fun _ _ _ h => h) ?_ hHeld ?_; rotate_left; (· (intro w hSw; (try dsimp only at hSw); go_simp <;> with_reducible rfl)); simp only [Act.put, List.setIfInBounds_toArray, List.set_cons_zero, List.set_cons_succ]
    refine tkI 1 ?_ rfl (by kernel_rfl) (by kernel_rfl) (fun _ _ _ h => h) ?_ hHeld ?_; rotate_left; (· (intro w hSw; (try dsimp only at hSw); go_simp <;> with_reducible rfl)); simp only [Act.put, List.setIfInBounds_toArray, List.set_cons_zero, List.set_cons_succ]
    refine tkI 2 ?_ rfl (by kernel_rfl) (by kernel_rfl) (fun _ _ _ h => h) ?_ hHeld ?_; rotate_left; (· (intro w hSw; (try dsimp only at hSw); go_simp <;> with_reducible rfl)); simp only [Act.put, List.setIfInBounds_toArray, List.set_cons_zero, List.set_cons_succ]
    refine tkI 3 ?_ rfl (by kernel_rfl) (by kernel_rfl) (fun _ _ _ h => h) ?_ hHeld ?_; rotate_left; (· (intro w hSw; (try dsimp only at hSw); go_simp <;> with_reducible rfl)); simp only [Act.put, List.setIfInBounds_toArray, List.set_cons_zero, List.set_cons_succ]
    refine tkI 4 ?_ rfl (by kernel_rfl) (by kernel_rfl) (fun _ _ _ h => h) ?_ hHeld ?_; rotate_left; (· (intro w hSw; (try dsimp only at hSw); go_simp <;> with_reducible rfl)); simp only [Act.put, List.setIfInBounds_toArray, List.set_cons_zero, List.set_cons_succ]
    refine tkI 5 ?_ rfl (by kernel_rfl) (by kernel_rfl) (fun _ _ _ h => h) ?_ hHeld ?_; rotate_left; (· (intro w hSw; (try dsimp only at hSw); go_simp <;> with_reducible rfl)); simp only [Act.put, List.setIfInBounds_toArray, List.set_cons_zero, List.set_cons_succ]
    refine tkI 7 ?_ rfl (by kernel_rfl) (by kernel_rfl) (fun _ _ _ h => h) ?_ hHeld ?_; rotate_left; (· (intro w hSw; (try dsimp only at hSw); go_simp <;> with_reducible rfl)); simp only [Act.put, List.setIfInBounds_toArray, List.set_cons_zero, List.set_cons_succ]
    refine tkI 9 ?_ rfl (by kernel_rfl) (by kernel_rfl) (fun _ _ _ h => h) ?_ hHeld ?_; rotate_left; (· (intro w hSw; (try dsimp only at hSw); go_simp <;> with_reducible rfl)); simp only [Act.put, List.setIfInBounds_toArray, List.set_cons_zero, List.set_cons_succ]
    have ba := below_alloc (w := wd) (.cells #[] 5)
    have RO : Hid (Own wd.heap.size 5 (wd.alloc (.cells #[] 5)) (.slice (some ⟨wd.heap.size, 0, none⟩) 0 0) []) := hide (own_lit wd wd.heap.size 5 [] (Nat.le_refl _) (by simp))
    have bb9 := below_next bb8 ba
    replace HV8 := hide ((unhide HV8).below ba)
    replace HD8 := hide ((unhide HD8).below ba)
    replace O8 := hide ((unhide O8).below ba)
    have z9 := ba.size
    clear ba
    refine runI 6 rfl (by kernel_rfl) (by kernel_rfl) (fun K hK => ?_)
    have HK := hide hK
    clear hK hHeld
    go_simp
    refine (unhide HK).out _ _ trivial (fun hHeld => ?_)
    clear HK K
    simp only [Act.put, List.setIfInBounds_toArray, List.set_cons_zero, List.set_cons_succ]
    have B9 := hide (Below.refl wd.heap.size (wd.alloc (.cells #[] 5)))
    generalize wd.alloc (.cells #[] 5) = wa at *
    refine runI 8 rfl (by kernel_rfl) (by kernel_rfl) (fun K hK => ?_)
    have HK := hide hK
    clear hK hHeld
    refine append_wp (.tmp 52) (.tmp 53) 22 5 rfl Tryd.underlying22 info_u8 wd.heap.size (.slice (some ⟨wd.heap.size, 0, none⟩) 0 0) (.slice ba m.length bc) [] m rfl rfl (unhide RO) (unhide HV8).reads (by simp; omega) z9 ?_
    intro v10 w10 o10 g10
    have bA : Below wd.heap.size wa w10 := (unhide B9).grown g10 z9 (fun k hk => ((unhide RO).lt k hk).1)
    have O10 := hide (show Own wd.heap.size 5 w10 v10 m from o10)
    have HK8 : Hid (Has w10 (.slice (some ⟨g, 3, none⟩) 32 (dc - 3)) Y) := hide (has_same (unhide HD8) (bA.block g (unhide ZGd)) bA.size)
    have O8b := hide ((unhide O8).kept g10 (by right; intro e; have := unhide OL8 wd.heap.size (e.trans rfl); omega))
    have bb10 := bb9.grown g10 (Nat.le_trans (unhide ZW) z9) (fun k hk => Nat.le_trans (unhide ZW) ((unhide RO).lt k hk).1)
    have z10 := bA.size
    clear o10 g10 RO HV8 HD8 O8 bb9 bb8
    refine (unhide HK).out _ _ trivial (fun hHeld => ?_)
    clear HK K
    simp only [Act.put, List.setIfInBounds_toArray, List.set_cons_zero, List.set_cons_succ]
    refine runI 10 rfl (by kernel_rfl) (by kernel_rfl) (fun K hK => ?_)
    have HK := hide hK
    clear hK hHeld
    refine append_wp (.tmp 54) (.tmp 55) 22 5 rfl Tryd.underlying22 info_u8 wd.heap.size v10 (.slice pa (wire n).length pc) m (wire n) rfl rfl (unhide O10) (unhide O8b).reads (unhide HLA) (by omega) ?_
    intro v11 w11 o11 g11
    have bB : Below wd.heap.size w10 w11 := (Below.refl _ _).grown g11 (by omega) (fun k hk => ((unhide O10).lt k hk).1)
    have O11 := hide o11
    replace HK8 : Hid (Has w11 (.slice (some ⟨g, 3, none⟩) 32 (dc - 3)) Y) := hide (has_same (unhide HK8) (bB.block g (unhide ZGd)) bB.size)
    have bb11 := bb10.grown g11 (by have := unhide ZW; omega) (fun k hk => Nat.le_trans (unhide ZW) ((unhide O10).lt k hk).1)
    clear o11 g11 O10 O8b bb10 bB bA
    refine (unhide HK).out _ _ trivial (fun hHeld => ?_)
    clear HK K
    simp only [Act.put, List.setIfInBounds_toArray, List.set_cons_zero, List.set_cons_succ]
    refine runI 11 rfl (by kernel_rfl) (by kernel_rfl) (fun K hK => ?_)
    have HK := hide hK
    clear hK hHeld
    go_simp
    refine (unhide IM _ _ (m ++ wire n) bb11 (unhide O11).has (unhide HLN) (unhide H8)).mono ?_
    rw [unhide HY]
    rintro e w12 ⟨v12, rfl, o12, b12⟩
    have bb12 := below_next bb11 b12
    have HS := hide (same_has ((unhide HK8).below b12) o12.has (unhide HYB) (unhide HYB))
    rw [decide_eq_true rfl] at HS
    clear o12 b12 bb11 HK8 O11
    go_simp
    refine (unhide HK).out _ _ trivial (fun hHeld => ?_)
    clear HK K
    simp only [Act.put, List.setIfInBounds_toArray, List.set_cons_zero, List.set_cons_succ]
    refine runI 12 rfl (by kernel_rfl) (by kernel_rfl) (fun K hK => ?_)
    have HK := hide hK
    clear hK hHeld
    go_simp
    refine (unhide HS).mono ?_
    rintro e w13 ⟨rfl, hw13⟩
    have bb13 : Below w.heap.size w w13 := by rw [← hw13]; exact bb12
    clear hw13 HS bb12
    go_simp
    refine (unhide HK).out _ _ trivial (fun hHeld => ?_)
    clear HK K
    simp only [Act.put, List.setIfInBounds_toArray, List.set_cons_zero, List.set_cons_succ]
    refine tkI 13 ?_ rfl (by kernel_rfl) (by kernel_rfl) (fun _ _ _ h => h) ?_ hHeld ?_; rotate_left; (· (intro w hSw; (try dsimp only at hSw); go_simp <;> with_reducible rfl)); simp only [Act.put, List.setIfInBounds_toArray, List.set_cons_zero, List.set_cons_succ]
    refine tkI 14 ?_ rfl (by kernel_rfl) (by kernel_rfl) (fun _ _ _ h => h) ?_ hHeld ?_; rotate_left; (· (intro w hSw; (try dsimp only at hSw); go_simp <;> with_reducible rfl)); simp only [Act.put, List.setIfInBounds_toArray, List.set_cons_zero, List.set_cons_succ]
    refine wpAnyH_done (by kernel_rfl) ?_ _
    clear hHeld
    go_wp2_with fail
    refine (unhide DS _ bb13).mono ?_
    rintro e w14 ⟨v14, q, rfl, o14, hql, hqb, b14⟩
    have bb14 := below_next bb13 b14
    clear bb13 b14 DS
    go_wp2_with fail
    refine (unhide IM _ _ q bb14 o14.has (by omega) (bytes8_mem hqb)).mono ?_
    obtain ⟨Q, HQ⟩ : ∃ Q, Hid (shaOf q = Q) := ⟨_, hide rfl⟩
    have HQL := hide (show Q.length = 32 by rw [← unhide HQ]; exact shaOf_length _)
    rw [unhide HQ]
    rintro e w15 ⟨v15, rfl, o15, b15⟩
    obtain ⟨sa, sc, rfl, _⟩ := o15.lies
    rw [unhide HQL]
    have bb15 := below_next bb14 b15
    clear b15 bb14 o15 o14
    go_wp2_with fail
    go_ret
    exact ⟨rfl, bb15⟩
end Go.Proofs.YtkhiklemhkeakaaDoor
