/-
  Plain facts: a row of structs that is appended to, the lists of its structs lying where they lay. No program is named here. Contract of the specification's l10tick.
-/
import Derived.Test.YtpolekinfobecaaGreatCacheTickG07
import Derived.Test.YtpolekinfobecaaGreatCacheTickG15
import Derived.Test.YtpolekinfobecaaGreatCacheTickG31
import Derived.Test.YtpolekinfobecaaGreatCacheTickG25
namespace Go.Proofs.YtpolekinfobecaaGreat
open Go.RowKit
set_option linter.unusedVariables false

/-- The slice v owns a row of structs, from block B on; what their cells lead to lies as it did in W. -/
def RowSG {α : Type} (c : Nat) (E : World → List Value → α → Prop) (d : α) (B : Nat) (e : TypeId) (W w : World) (v : Value) (xs : List α) : Prop :=
 ∃ cs, w.ownsRow B e c v xs.length cs ∧ ∀ i, i < xs.length → ∃ vs, vs.length = c ∧ (∀ j u, vs[j]? = some u → cs[i * c + j]? = some u) ∧ E W vs (xs.getD i d)
section
variable {α : Type} {c : Nat} {E : World → List Value → α → Prop} {d : α} {B : Nat} {e : TypeId} {W w w' : World} {v v' : Value} {xs : List α}
theorem RowSG.nil (W w : World) : RowSG c E d B e W w (.slice none 0 0) [] := ⟨[], World.ownsRow_nil _ _ _ _, fun i hi => absurd hi (by simp)⟩
theorem RowSG.snoc {cs : List Value} {x : α} {us : List Value} (hl : cs.length = xs.length * c)
  (hx : ∀ i, i < xs.length → ∃ vs, vs.length = c ∧ (∀ j u, vs[j]? = some u → cs[i * c + j]? = some u) ∧ E W vs (xs.getD i d))
  (ho : w'.ownsRow B e c v' (xs.length + 1) (cs ++ us)) (hu : us.length = c) (hr : E W us x) : RowSG c E d B e W w' v' (xs ++ [x]) := by
 refine ⟨cs ++ us, by rw [List.length_append]; exact ho, fun i hi => ?_⟩
 rw [List.length_append] at hi
 simp only [List.length_cons, List.length_nil] at hi
 by_cases h : i < xs.length
 ·obtain ⟨vs, q0, q1, q2⟩ := hx i h
  have e1 : (xs ++ [x]).getD i d = xs.getD i d := by rw [List.getD_eq_getElem?_getD, List.getElem?_append_left h, ← List.getD_eq_getElem?_getD]
  rw [e1]
  refine ⟨vs, q0, fun j u hj => ?_, q2⟩
  have hjc : j < c := by rw [← q0]; exact (List.getElem?_eq_some_iff.1 hj).1
  rw [List.getElem?_append_left (by rw [hl]; exact idx_lt h hjc)]
  exact q1 j u hj
 ·obtain rfl : i = xs.length := by omega
  have e1 : (xs ++ [x]).getD xs.length d = x := by rw [List.getD_eq_getElem?_getD]; simp
  rw [e1]
  refine ⟨us, hu, fun j u hj => ?_, hr⟩
  rw [List.getElem?_append_right (by omega), hl, Nat.add_sub_cancel_left]
  exact hj
theorem RowSG.has (hE : Stays E) (h : RowSG c E d B e W w v xs) (hb : Below W.heap.size W w) : HasG c E d w v xs := by
 obtain ⟨cs, ho, hx⟩ := h
 have ho' := ho
 rcases ho.2 with ⟨rfl, hn⟩ | ⟨g, cap, cur, rfl, hB, hg, hn, hm, hs, ht⟩
 ·exact .inl ⟨rfl, List.eq_nil_of_length_eq_zero hn⟩
 ·refine .inr ⟨g, 0, cap, rfl, block_lt hg, hn, hm, fun i hi => ?_⟩
  obtain ⟨vs, q0, q1, q2⟩ := hx i hi
  refine ⟨vs, fun j u hj => ?_, hE q2 hb⟩
  have hjc : j < c := by rw [← q0]; exact (List.getElem?_eq_some_iff.1 hj).1
  rw [Nat.zero_add, World.ownsRow.cellAt ho' (i * c + j) (idx_lt hi hjc)]
  exact q1 j u hj
end
theorem append_one {P : Program} {w : World} {ops : Array Oper} {rest : List Oper} {o : Oper} {a : Act} {Q : Exit → Act → World → Prop} (hgd : o.guard = none) (s x : Operand) (t e : TypeId)
  (ho : o.op = .call { callee := .builtin .append, args := #[s, x], argTypes := #[t, t] }) (ht : P.underlying t = some (.slice e)) (zs : Array Value) (c bytes : Nat) (hb : bytes ≤ 1000) (hc0 : 0 < c)
  (hinfo : (P.info? e).map (fun i => (i.zero, i.size, i.bytes)) = some (some (.agg zs), c, bytes)) (hzs : zs.size = c)
  (base : Nat) (v : Value) (n : Nat) (xs : List Value) (hs : a.eval s = v) (hown : w.ownsRow base e c v n xs) (g : Nat) (cs : List Value) (hx : a.eval x = .slice (some ⟨g, 0, none⟩) 1 1)
  (hg : w.heap[g]? = some (.cells cs.toArray e)) (hcl : cs.length = c) (h1 : ∀ u ∈ cs, u.oneCell' = true) (hlen : n ≤ 1000) (hbase : base ≤ w.heap.size)
  (h : ∀ v' w', w'.ownsRow base e c v' (n + 1) (xs ++ cs) → w.grownBy w' v.ownBlock → wpList P ops Q rest (a.put o.dst v') w') : wpList P ops Q (o :: rest) a w := by
 obtain ⟨i0, hi, hzz⟩ := Option.map_eq_some_iff.1 hinfo
 simp only [Prod.mk.injEq] at hzz
 obtain ⟨hz0, hz1, hz2⟩ := hzz
 refine wpList_append_own w hgd s x t ho base e i0 (.agg zs) c bytes ht hi hz0 hz1 hz2 hzs hc0 v n xs hs hown ⟨g, 0, none⟩ 1 1 cs hx (by rw [hcl, Nat.one_mul]) (fun j u hj => ?_) h1 (by unfold maxLen; omega) ?_ hbase ?_
 ·rw [Addr.add_lit, Nat.zero_add, block_cell hg]
  simpa using hj
 ·exact Nat.le_trans (Nat.mul_le_mul (show n + 1 ≤ 1001 by omega) hb) (by decide)
 ·intro v' w' q1 q2 _
  exact h v' w' q1 q2

theorem flat_length {c : Nat} (f : Nat → List Value) (hf : ∀ i, (f i).length = c) : ∀ n, (((List.range n).map f).flatten).length = n * c
 | 0 => by simp
 | n + 1 => by
  rw [List.range_succ, List.map_append, List.flatten_append, List.length_append, flat_length f hf n]
  simp [hf n, Nat.add_mul]
theorem flat_get {c : Nat} (f : Nat → List Value) (hf : ∀ i, (f i).length = c) : ∀ n i j, i < n → j < c → (((List.range n).map f).flatten)[i * c + j]? = (f i)[j]?
 | 0, i, j, hi, _ => absurd hi (Nat.not_lt_zero _)
 | n + 1, i, j, hi, hj => by
  rw [List.range_succ, List.map_append, List.flatten_append]
  by_cases h : i < n
  ·rw [List.getElem?_append_left (by rw [flat_length f hf n]; exact idx_lt h hj)]
   exact flat_get f hf n i j h hj
  ·obtain rfl : i = n := by omega
   rw [List.getElem?_append_right (by rw [flat_length f hf i]; omega), flat_length f hf i, Nat.add_sub_cancel_left]
   simp
section
variable {α : Type} {c : Nat} {E : World → List Value → α → Prop} {d : α} {B : Nat} {e : TypeId} {W w w' : World} {v v' : Value} {xs ys : List α}
/-- Structs of a row, as one list of cells. -/
theorem HasG.cells (hc : ∀ {w : World} {vs : List Value} {x : α}, E w vs x → vs.length = c) {a : Option Addr} {n cap : Nat} (h : HasG c E d w (.slice a n cap) ys) (h0 : 0 < c) : (a = none ∧ n = 0 ∧ cap = 0 ∧ ys = []) ∨ ∃ (ad : Addr) (news : List Value), a = some ad ∧ n = ys.length ∧ news.length = ys.length * c ∧ (∀ j u, news[j]? = some u → w.cell? (ad.add j) = some u) ∧
  (∀ u ∈ news, ∃ vs x, E w vs x ∧ u ∈ vs) ∧ ∀ i, i < ys.length → ∃ vs, vs.length = c ∧ (∀ j u, vs[j]? = some u → news[i * c + j]? = some u) ∧ E w vs (ys.getD i d) := by
 rcases h with ⟨hv, hy⟩ | ⟨g, off, cp, hv, hlt, hl, hm, hx⟩
 ·simp only [Value.slice.injEq] at hv
  exact .inl ⟨hv.1, hv.2.1, hv.2.2, hy⟩
 ·right
  simp only [Value.slice.injEq] at hv
  obtain ⟨rfl, rfl, rfl⟩ := hv
  let f : Nat → List Value := fun i => if hi : i < ys.length then (hx i hi).choose else List.replicate c undef
  have hf1 : ∀ i (hi : i < ys.length), w.rangeAt g (off + i * c) (f i) ∧ E w (f i) (ys.getD i d) := fun i hi => by
   have := (hx i hi).choose_spec
   simp only [f, hi, dite_true]
   exact this
  have hf : ∀ i, (f i).length = c := fun i => by
   by_cases hi : i < ys.length
   ·exact hc (hf1 i hi).2
   ·simp [f, hi]
  have hsplit : ∀ j, j < ys.length * c → j / c < ys.length ∧ j % c < c ∧ j / c * c + j % c = j := fun j hj => by
   refine ⟨(Nat.div_lt_iff_lt_mul h0).2 hj, Nat.mod_lt _ h0, ?_⟩
   rw [Nat.mul_comm]
   exact Nat.div_add_mod j c
  refine ⟨⟨g, off, none⟩, ((List.range ys.length).map f).flatten, rfl, rfl, flat_length f hf _, fun j u hj => ?_, fun u hu => ?_, fun i hi => ⟨f i, hf i, fun j u hj => ?_, (hf1 i hi).2⟩⟩
  ·have hjl := (List.getElem?_eq_some_iff.1 hj).1
   rw [flat_length f hf] at hjl
   obtain ⟨h1, h2, h3⟩ := hsplit j hjl
   rw [← h3, flat_get f hf _ _ _ h1 h2] at hj
   have := (hf1 _ h1).1 _ u hj
   rw [Addr.add_mid, ← h3, ← Nat.add_assoc]
   exact this
  ·obtain ⟨l, hl1, hl2⟩ := List.mem_flatten.1 hu
   obtain ⟨i, hi1, hi2⟩ := List.mem_map.1 hl1
   have hi := List.mem_range.1 hi1
   subst hi2
   exact ⟨_, _, (hf1 i hi).2, hl2⟩
  ·have hjc : j < c := by rw [← hf i]; exact (List.getElem?_eq_some_iff.1 hj).1
   rw [flat_get f hf _ _ _ hi hjc]
   exact hj
end
end Go.Proofs.YtpolekinfobecaaGreat

namespace Go.Proofs.YtpolekinfobecaaGreat
open Go.RowKit
set_option linter.unusedVariables false

theorem info_SlT : (Tryz.prog.info? 47).map (fun i => (i.zero, i.size, i.bytes)) = some (some (.agg #[.slice none 0 0, .int .i64 0, .int .i64 0, .slice none 0 0, .int .i64 0, .int .i64 0, .int .i64 0]), 7, 88) := by kernel_rfl

set_option maxHeartbeats 4000000 in
set_option maxRecDepth 100000 in
theorem l10tick_has {v : Value} {l : List Slt} {now0 turn now : Int} {bp : Nat} {w0 w : World} (hk : w.heap[bp]? = some (.cells #[.int .i64 now0, .int .i64 turn, v] 29)) (h : HasSs w0 v l) (hw0 : w0.heap.size ≤ bp) (hb0 : Below w0.heap.size w0 w) (h8 : l.length ≤ 8) :
  Calls Tryz.prog 33 #[.pointer (some ⟨bp, 0, none⟩), .int .i64 now] w fun e w' => ∃ v', e = .returned (.int .i64 ((l.length : Int) - (liveL l now l.length).length)) ∧ w'.heap[bp]? = some (.cells #[.int .i64 now, .int .i64 turn, v'] 29) ∧ HasSs w' v' (liveL l now l.length) ∧ Below w0.heap.size w0 w' := by
 obtain ⟨a, ca, rfl, hla, hma⟩ := h.form
 unfold maxLen at hma
 have HYES := hide (fun k (hb : now < (l.getD k sltZ).till) => liveL_yes (l := l) hb)
 have HNO := hide (fun k (hb : ¬ now < (l.getD k sltZ).till) => liveL_no (l := l) hb)
 have HLE := hide (liveL_len l now)
 have HNIL := hide (show liveL l now 0 = [] from rfl)
 generalize liveL l now = M at *
 generalize hn : l.length = n at *
 have HN := hide hn
 have H := hide h
 have u1 := outside_set w bp 0 (.int .i64 now)
 have KP : Hid ((w.setCell ⟨bp, 0, none⟩ (.int .i64 now)).heap[bp]? = some (.cells #[.int .i64 now, .int .i64 turn, .slice a n ca] 29)) := block_setAt hk 0 _
 have bb1 := u1.below hb0 (by omega)
 have zz := block_lt hk
 have z1 := u1.size
 obtain ⟨d0, d1, d2⟩ := cells3 hk
 obtain ⟨f0, f1, f2⟩ := frozen3 hk
 clear hn h u1 hk hb0
 go_enter Tryz.func33, Tryz.ntmps33
 go_wp2_with fail
 clear d0 d1 d2 f0 f1 f2
 generalize w.setCell ⟨bp, 0, none⟩ (.int .i64 now) = w1 at *
 go_loopw [5, 6, 7] (fun cnt o i wr => ∃ (k : Nat) (o2 : Value), k ≤ n ∧ i = .int .i64 k ∧ cnt = .int .i64 ((k : Int) - (M k).length) ∧ o2 = o ∧ wr.heap[bp]? = some (.cells #[.int .i64 now, .int .i64 turn, .slice a n ca] 29) ∧ RowSG 7 HasSl sltZ (bp + 1) 47 w0 wr (o2) (M k) ∧ Below w0.heap.size w0 wr) (fun _ _ i _ => n - (intOf i).toNat)
 case atStart => exact ⟨0, _, Nat.zero_le _, rfl, by rw [unhide HNIL]; rfl, rfl, unhide KP, by rw [unhide HNIL]; exact RowSG.nil _ _, bb1⟩
 case round =>
  clear KP bb1
  obtain ⟨k, o, hk, rfl, rfl, rfl, kp, hr, hb⟩ := hrel
  have hL := unhide HLE k
  obtain ⟨d0, d1, d2⟩ := cells3 kp
  by_cases hlt : k < n
  ·obtain ⟨b, off, vs, rfl, hbl, hc, vn, vr, rfl, hu⟩ := (keptSs (unhide H) hb).here (k := k) (by rw [unhide HN]; exact hlt)
   obtain ⟨b2, off2, vs2, hbe, hbl2, hc2, vn2, vr2, hvs2, hu2⟩ := (unhide H).here (k := k) (by rw [unhide HN]; exact hlt)
   simp only [Option.some.injEq, Addr.mk.injEq, and_true] at hbe
   obtain ⟨rfl, rfl⟩ := hbe
   subst hvs2
   have hc3 := range_below hc2 hbl2 hb
   have e0 := (range7 hc).1.symm.trans (range7 hc3).1
   have e3 := (range7 hc).2.2.2.1.symm.trans (range7 hc3).2.2.2.1
   simp only [Option.some.injEq] at e0 e3
   subst e0 e3
   obtain ⟨na, nc, rfl, _⟩ := hu.name.form
   obtain ⟨ra, rc, rfl, _⟩ := hu.rrs.form
   have HYK := hide (unhide HYES k)
   have HNK := hide (unhide HNO k)
   have hki : (k : Int) < n := by omega
   have HU2 := hide (show HasSl w0 [.slice na (l.getD k sltZ).name.length nc, .int .i64 (l.getD k sltZ).type, .int .i64 (l.getD k sltZ).kind, .slice ra (l.getD k sltZ).rrs.length rc, .int .i64 (l.getD k sltZ).rank, .int .i64 (l.getD k sltZ).till, .int .i64 (l.getD k sltZ).used] (l.getD k sltZ) from ⟨_, _, rfl, hu2⟩)
   generalize l.getD k sltZ = rk at *
   obtain ⟨c0, c1, c2, c3, c4, c5, c6⟩ := range7 hc
   clear hc hc2 hc3 hu hu2
   by_cases hlv : rk.till ≤ now
   ·have hMO := unhide HNK (by omega)
    have hwc : IntKind.i64.wrap ((k : Int) - (M k).length + 1) = (k : Int) - (M k).length + 1 := by have := wrap_small (k - (M k).length + 1) (by omega); rwa [show ((k - (M k).length + 1 : Nat) : Int) = (k : Int) - (M k).length + 1 by omega] at this
    have qlv : decide (rk.till ≤ now) = true := decide_eq_true hlv
    have HMO := hide hMO
    have HB := hide hr
    clear HYK HNK hMO hlv hr
    go_wp2_with fail
    clear hwc
    exact ⟨⟨k + 1, _, by omega, by go_num, by rw [unhide HMO]; congr 1; push_cast; omega, rfl, kp, by rw [unhide HMO]; exact unhide HB, hb⟩, by simp [intOf]; omega⟩
   ·have HMS := hide (unhide HYK (by omega))
    have qlv : decide (rk.till ≤ now) = false := decide_eq_false hlv
    obtain ⟨cs0, ho, hx⟩ := hr
    have HO := hide ho
    have HX := hide hx
    obtain ⟨va, vc, hva, _⟩ : ∃ va vc, o = .slice va (M k).length vc ∧ True := by
     rcases ho.2 with ⟨h1, h2⟩ | ⟨g, cap, cur, h1, _⟩
     ·exact ⟨none, 0, by rw [h2]; exact h1, trivial⟩
     ·exact ⟨_, _, h1, trivial⟩
    subst hva
    have ba := below_alloc (w := wr) (.cells #[.slice na rk.name.length nc, .int .i64 rk.type, .int .i64 rk.kind, .slice ra rk.rrs.length rc, .int .i64 rk.rank, .int .i64 rk.till, .int .i64 rk.used] 47)
    have G1 := hide (heap_alloc_new wr (.cells #[.slice na rk.name.length nc, .int .i64 rk.type, .int .i64 rk.kind, .slice ra rk.rrs.length rc, .int .i64 rk.rank, .int .i64 rk.till, .int .i64 rk.used] 47))
    have HO1 := hide (row_later ho ba)
    have KP1 := hide (block_kept ba kp)
    have bb := below_next hb ba
    have zA := ba.size
    have zp := block_lt kp
    have hlen := ho.1
    generalize hLL : (M k).length = L at *
    have HLEN := hide hLL
    clear HYK HNK hlv ho hx ba kp hb hLL
    go_wp2_with (at_builtin; refine append_one rfl _ _ 27 47 rfl Tryz.underlying27 _ 7 88 (by omega) (by omega) info_SlT rfl (bp + 1) (.slice va L vc) L cs0 rfl (unhide HO1) wr.heap.size [.slice na rk.name.length nc, .int .i64 rk.type, .int .i64 rk.kind, .slice ra rk.rrs.length rc, .int .i64 rk.rank, .int .i64 rk.till, .int .i64 rk.used] rfl (unhide G1) rfl (by simp [Value.oneCell']) (by omega) (by omega) ?_)
    intro v8 w8 h8' g8
    have hown : ∀ j, (Value.slice va L vc).ownBlock = some j → bp + 1 ≤ j := fun j e => (World.ownsRow.lt (unhide HO1) j e).1
    have KP8 : Hid (w8.heap[bp]? = some (.cells #[.int .i64 now, .int .i64 turn, .slice (some ⟨b, off, none⟩) n ca] 29)) := (g8.block _ (by omega) (fun e => by have := hown _ e.symm; omega)).trans (unhide KP1)
    have bb8 := below_grow bb g8 (fun j e => by have := hown j e; omega)
    have row8 := RowSG.snoc (W := w0) (x := rk) (us := [.slice na rk.name.length nc, .int .i64 rk.type, .int .i64 rk.kind, .slice ra rk.rrs.length rc, .int .i64 rk.rank, .int .i64 rk.till, .int .i64 rk.used]) (xs := M k) (by rw [unhide HLEN]; exact hlen) (by rw [unhide HLEN]; exact unhide HX) (by rw [unhide HLEN]; exact h8') rfl (unhide HU2)
    rw [← unhide HMS] at row8
    have hML : (M (k + 1)).length = L + 1 := by rw [unhide HMS, List.length_append, unhide HLEN]; rfl
    have HML := hide hML
    have ROW8 := hide row8
    clear h8' g8 hown row8 hML HO1 HO HX
    go_wp2_with fail
    exact ⟨⟨k + 1, _, by omega, by go_num, by rw [unhide HML]; congr 1; push_cast; omega, rfl, unhide KP8, unhide ROW8, bb8⟩, by simp [intOf]; omega⟩
  ·obtain rfl : k = n := by omega
   obtain ⟨f0, f1, f2⟩ := frozen3 kp
   obtain ⟨cs0, ho, hx⟩ := id hr
   obtain ⟨va, vc, hva, _⟩ : ∃ va vc, o = .slice va (M k).length vc ∧ True := by
    rcases ho.2 with ⟨h1, h2⟩ | ⟨g, cap, cur, h1, _⟩
    ·exact ⟨none, 0, by rw [h2]; exact h1, trivial⟩
    ·exact ⟨_, _, h1, trivial⟩
   subst hva
   have u5 := outside_set wr bp 2 (.slice va (M k).length vc)
   have kf : (wr.setCell ⟨bp, 2, none⟩ (.slice va (M k).length vc)).heap[bp]? = some (.cells #[.int .i64 now, .int .i64 turn, .slice va (M k).length vc] 29) := block_setAt kp 2 _
   have bb5 := u5.below hb (by omega)
   have HH := hide (RowSG.has (c := 7) (E := HasSl) (d := sltZ) stays_HasSl (show RowSG 7 HasSl sltZ (bp + 1) 47 w0 (wr.setCell ⟨bp, 2, none⟩ (.slice va (M k).length vc)) (.slice va (M k).length vc) (M k) from ⟨cs0, ownsRow_out ho u5 (fun q e => .inr (World.ownsRow.lt ho q e).1), hx⟩) bb5)
   clear ho hx u5 hr kp hb
   go_wp2_with fail
   go_ret
   exact ⟨_, rfl, kf, unhide HH, bb5⟩
end Go.Proofs.YtpolekinfobecaaGreat
