/-
  Contract of the specification's DrawReplyTo. An answer to a message that may be, may be. No program is named here. How many lines a message's text has. No program is named here. What the types of questions and of wants are. Contracts of the program's copyBytes: new memory with the same bytes. Contracts of the program's copyName: a name of its own with the same labels. Contract of the program's copyQuestion. Contracts of the program's copyQuestion and of copyAll of questions. Messages that own their lists. What ReplyTo answers; messages that own what they have.
-/
import Derived.Test.YtbabmdiklefgcaaGreatDoorFnRepliesG21
import Derived.Test.YtbabmdiklefgcaaGreatDoorFnRepliesG01
import Derived.Test.YtbabmdiklefgcaaGreatDoorFnRepliesG06
import Derived.Test.YtbabmdiklefgcaaGreatDoorFnRepliesG16
import Derived.Test.YtbabmdiklefgcaaGreatDoorFnRepliesG05
import Derived.Test.YtbabmdiklefgcaaGreatDoorFnRepliesG03
import Derived.Test.YtbabmdiklefgcaaGreatDoorFnRepliesG02
import Derived.Test.YtbabmdiklefgcaaGreatDoorFnRepliesG00
import Derived.Test.YtbabmdiklefgcaaGreatDoorFnRepliesG04
namespace Go.Proofs.YtbabmdiklefgcaaGreatDoor
open Go.RowKit
set_option linter.unusedVariables false

set_option maxHeartbeats 4000000 in
set_option maxRecDepth 100000 in
theorem drawReplyTo_any {a : Option Addr} {len cap : Nat} {w : World} (l : List Int) (hL : Lies w a l) (hn : l.length = len) (hb : ∀ k, 0 ≤ l.getD k 0 ∧ l.getD k 0 ≤ 255) (hm : len ≤ maxLen) :
  Calls Tryz.prog 4 #[.slice a len cap] w fun e w' => ∃ vq va vb vm vp vu m c B, e = .returned (.tuple #[.agg #[.int .i64 m.id, .bool m.reply, .int .i64 m.op, .bool m.auth, .int .i64 m.code, vq, va, vb, vm, vp, vu], .int .i64 c]) ∧ -1 ≤ c ∧ c ≤ 11 ∧ DrawMw B w' vq va vb vm vp vu m ∧ Below w.heap.size w w' := by
 have b0 := UI (w := w) (.cells #[.int .i64 0, .bool false, .int .i64 0, .bool false, .int .i64 0, .slice none 0 0, .slice none 0 0, .slice none 0 0, .slice none 0 0, .slice none 0 0, .slice none 0 0] 27)
 have KB := UC (heap_alloc_new w (.cells #[.int .i64 0, .bool false, .int .i64 0, .bool false, .int .i64 0, .slice none 0 0, .slice none 0 0, .slice none 0 0, .slice none 0 0, .slice none 0 0, .slice none 0 0] 27))
 have HNEW := UC (l1New_any (cap := cap) l (hL.below b0) hn hb hm)
 have HM := UC hm
 have zb := VC (UB KB)
 clear hL hn hb hm
 go_enter Tryz.func4, Tryz.ntmps4
 go_wp2_with fail
 generalize w.alloc (.cells #[.int .i64 0, .bool false, .int .i64 0, .bool false, .int .i64 0, .slice none 0 0, .slice none 0 0, .slice none 0 0, .slice none 0 0, .slice none 0 0, .slice none 0 0] 27) = W at *
 refine (UB HNEW).mono ?_
 rintro e w1 ⟨rfl, c1, L1, b1⟩
 replace KB := UC (UE b1 (UB KB))
 have bb1 := UG b0 b1
 have z1 := c1.lt
 have zz1 := b1.size
 clear HNEW b0 b1
 go_wp2_with fail
 refine (l4bent_any c1 L1 (UB HM)).mono ?_
 rintro e w2 ⟨vq, va, vb, vm, vp, vu, B, m, rfl, dm, cx⟩
 obtain ⟨xq, yq, rfl, _⟩ := dm.qs.form
 obtain ⟨xa, ya, rfl, _⟩ := dm.ans.form
 obtain ⟨xb, yb, rfl, _⟩ := dm.aus.form
 obtain ⟨xm, ym, rfl, _⟩ := dm.more.form
 obtain ⟨xp, yp, rfl, _⟩ := dm.pres.form
 obtain ⟨xu, yu, rfl, _⟩ := dm.ups.form
 have gx := cx.grown
 have zx := gx.size
 replace KB := UC (block_grown gx (UB KB) (by simp; omega))
 have bb2 := below_cursor bb1 gx (fun j e => by simp at e; omega)
 have DM := UC dm
 have X := UC cx
 clear dm cx gx c1 L1 bb1
 go_wp2_with fail
 refine (l1Below_any 13 (UB X).cur (UB X).code (UB HM) (by omega) (by omega)).mono ?_
 rintro e w3 ⟨x, rfl, hx0, hx1, c3, g3⟩
 have DM3 := UC ((UB DM).cur (UB X).cur g3)
 replace KB := UC (block_grown g3 (UB KB) (by simp; omega))
 have bb3 := below_cursor bb2 g3 (fun j e => by simp at e; omega)
 have hwr : IntKind.i64.wrap (x - 1) = x - 1 := by
  by_cases h0 : x = 0
  ·subst h0; decide
  ·have h1 := wrap_small (x - 1).toNat (by omega)
   have h2 : (((x - 1).toNat : Nat) : Int) = x - 1 := by omega
   rwa [h2] at h1
 clear c3 g3 X DM bb2
 obtain ⟨p0, p1, p2, p3, p4, p5, p6, p7, p8, p9, p10⟩ := cells11 (UB KB)
 obtain ⟨f0, f1, f2, f3, f4, f5, f6, f7, f8, f9, f10⟩ := frozen11 (UB KB)
 go_wp2_with fail
 clear p0 p1 p2 p3 p4 p5 p6 p7 p8 p9 p10 f0 f1 f2 f3 f4 f5 f6 f7 f8 f9 f10
 have gf := set11_grown (c0 := .int .i64 m.id) (c1 := .bool m.reply) (c2 := .int .i64 m.op) (c3 := .bool m.auth) (c4 := .int .i64 m.code) (c5 := .slice xq m.qs.length yq) (c6 := .slice xa m.ans.length ya) (c7 := .slice xb m.aus.length yb) (c8 := .slice xm m.more.length ym) (c9 := .slice xp m.pres.length yp) (c10 := .slice xu m.ups.length yu) (UB KB)
 have kf := (set11_is (c0 := .int .i64 m.id) (c1 := .bool m.reply) (c2 := .int .i64 m.op) (c3 := .bool m.auth) (c4 := .int .i64 m.code) (c5 := .slice xq m.qs.length yq) (c6 := .slice xa m.ans.length ya) (c7 := .slice xb m.aus.length yb) (c8 := .slice xm m.more.length ym) (c9 := .slice xp m.pres.length yp) (c10 := .slice xu m.ups.length yu) (UB KB)).1
 have DF := (UB DM3).off (UB KB) (by decide) gf
 have BF := below_cursor bb3 gf (fun j e => by simp at e; omega)
 unfold set11 at gf kf DF BF
 refine bodyPost_ret (results_cell_tmp_row rfl _ _ w.heap.size 27 #[.int .i64 m.id, .bool m.reply, .int .i64 m.op, .bool m.auth, .int .i64 m.code, .slice xq m.qs.length yq, .slice xa m.ans.length ya, .slice xb m.aus.length yb, .slice xm m.more.length ym, .slice xp m.pres.length yp, .slice xu m.ups.length yu] (0, 0) _ rfl kf Tryz.underlying27 rfl (by kernel_rfl)) rfl ?_
 first | exact ⟨_, _, _, _, _, _, m, x - 1, _, rfl, by omega, by omega, DF, BF⟩ | exact ⟨_, _, _, _, _, _, m, x - 1, _, by rw [← hwr]; rfl, by omega, by omega, DF, BF⟩
theorem reply_ok {m : Mg} {code : Int} (hok : okM m = true) (h0 : 0 ≤ code) (h1 : code ≤ 10) : okM ⟨m.id, true, m.op, false, code, m.qs, [], [], [], [], []⟩ = true := by
 have hmay : mayM m = true := by unfold okM at hok; simp only [Bool.and_eq_true] at hok; exact hok.1
 unfold okM
 rw [Bool.and_eq_true, decide_eq_true_eq]
 constructor
 ·unfold mayM at hmay ⊢
  simp only [Bool.and_eq_true, decide_eq_true_eq] at hmay ⊢
  obtain ⟨hid, hc, hq, hop, hl⟩ := hmay
  refine ⟨hid, ⟨h0, h1⟩, hq, ?_, rfl⟩
  unfold opOk at hop ⊢
  simp only [que1] at hop ⊢
  by_cases e0 : m.op = 0
  ·rw [if_pos e0]; rfl
  ·rw [if_neg e0] at hop ⊢
   by_cases e5 : m.op = 5
   ·rw [if_pos e5] at hop ⊢
    simp only [Bool.and_eq_true, decide_eq_true_eq] at hop ⊢
    exact ⟨hop.1, rfl, rfl, rfl⟩
   ·rw [if_neg e5] at hop; cases hop
 ·have hn : nameOk (m.qs.getD 0 queZ).name = true := (mayM_parts hmay).2.2.2.1
  show (queB (headM _) (m.qs.getD 0 queZ)).length ≤ 512
  have h1 := headM_length ⟨m.id, true, m.op, false, code, m.qs, [], [], [], [], []⟩
  have h2 := queB_length (headM ⟨m.id, true, m.op, false, code, m.qs, [], [], [], [], []⟩) hn
  exact Nat.le_trans h2 (by omega)
def nl (l : List Int) : Nat := l.count 10
def Clr (l : List Int) : Prop := ∀ c ∈ l, c ≠ 10
theorem nl_app (a b : List Int) : nl (a ++ b) = nl a + nl b := List.count_append
theorem nl_one (c : Int) : nl [c] = if c = 10 then 1 else 0 := by
 unfold nl
 rw [List.count_singleton]
 by_cases h : c = 10 <;> simp [h]
theorem nl_clr {l : List Int} (h : Clr l) : nl l = 0 := List.count_eq_zero.2 (fun m => h 10 m rfl)
theorem nl_le (l : List Int) : nl l ≤ l.length := List.count_le_length
theorem clr_nil : Clr [] := fun c hc => by cases hc
theorem clr_one {c : Int} (h : c ≠ 10) : Clr [c] := fun x hx => by
 obtain rfl := List.mem_singleton.1 hx
 exact h
theorem Clr.app {a b : List Int} (h : Clr a) (h' : Clr b) : Clr (a ++ b) := fun c hc => by
 rcases List.mem_append.1 hc with q | q
 ·exact h c q
 ·exact h' c q
theorem digs_clrN (k : Nat) : ∀ x : Int, 0 ≤ x → x.toNat ≤ k → Clr (digs x) := by
 induction k with
 | zero =>
  intro x h0 h1
  rw [digs_lt x h0 (by omega)]
  exact clr_one (by omega)
 | succ k ih =>
  intro x h0 h1
  by_cases h : x < 10
  ·rw [digs_lt x h0 h]; exact clr_one (by omega)
  ·rw [digs_ge x (by omega)]
   exact (ih (x / 10) (by omega) (by omega)).app (clr_one (by omega))
theorem digs_clr (x : Int) : Clr (digs x) := by
 have e : digs x = digs (x.toNat : Int) := by unfold digs; rw [Int.toNat_natCast]
 rw [e]
 exact digs_clrN x.toNat _ (by omega) (by omega)
theorem label_clr {l : List Int} (h : labelOk l = true) : Clr l := fun c hc => by
 obtain ⟨i, hi, rfl⟩ := List.getElem_of_mem hc
 have h1 := of_decide_eq_true ((of_decide_eq_true h).2.2 i hi)
 rw [List.getD_eq_getElem?_getD, List.getElem?_eq_getElem hi, Option.getD_some] at h1
 omega
theorem dots_clr {n : List (List Int)} (h : nameOk n = true) (k : Nat) : Clr (dots n k) := by
 induction k with
 | zero => rw [dots_zero]; exact clr_nil
 | succ k ih =>
  by_cases hk : k < n.length
  ·rw [dots_succ n k hk]
   exact (ih.app (label_clr ((nameOk_parts h).2 k hk))).app (clr_one (by omega))
  ·have e : dots n (k + 1) = dots n k := by unfold dots; rw [List.take_of_length_le (by omega), List.take_of_length_le (by omega)]
   rw [e]; exact ih
theorem nameText_clr (n : List (List Int)) : Clr (nameText n) := by
 unfold nameText
 split
 ·rename_i h
  split
  ·exact clr_one (by omega)
  ·exact dots_clr h _
 ·exact clr_nil
theorem idot_clr (n : Int) (j : Nat) : Clr (idot n j) := by
 induction j with
 | zero => exact clr_nil
 | succ j ih =>
  refine (ih.app ?_).app (digs_clr _)
  split
  ·exact clr_one (by omega)
  ·exact clr_nil
theorem dotted_clr (n : Int) : Clr (dotted n) := by
 unfold dotted
 split
 ·exact idot_clr n 4
 ·exact clr_nil
theorem hexD_clr {d : Int} (h0 : 0 ≤ d) : hexD d ≠ 10 := by unfold hexD; split <;> omega
theorem hexs_clr {l : List Int} (h : Byt l) (k : Nat) : Clr (hexs l k) := by
 induction k with
 | zero => rw [hexs_zero]; exact clr_nil
 | succ k ih =>
  by_cases hk : k < l.length
  ·rw [hexs_succ l k hk]
   have := h.at_ hk
   exact ih.app ((clr_one (hexD_clr (by omega))).app (clr_one (hexD_clr (by omega))))
  ·rw [hexs_late l k (by omega)]; exact ih
theorem typeT_clr (t : Int) : Clr (typeT t) := by
 unfold typeT
 repeat' split
 all_goals
  intro c hc
  simp only [List.mem_cons, List.not_mem_nil, or_false] at hc
  omega
theorem dataT_clr {r : Rec} (h : Byt r.text) : Clr (dataT r) := by
 unfold dataT
 split
 ·exact dotted_clr _
 split
 ·exact nameText_clr _
 split
 ·exact ((((nameText_clr _).app (clr_one (by omega))).app (digs_clr _)).app (clr_one (by omega))).app (digs_clr _)
 ·exact hexs_clr h _
theorem rrText_clr {r : Rec} (h : Byt r.text) : Clr (rrText r) := by
 unfold rrText
 split
 ·exact ((((((nameText_clr _).app (clr_one (by omega))).app (digs_clr _)).app (clr_one (by omega))).app (typeT_clr _)).app (clr_one (by omega))).app (dataT_clr h)
 ·exact clr_nil
theorem secT_nl (b : List Int) {w : List Int} {rs : List Rec} (hw : Clr w) (h : BytRs rs) : ∀ k, k ≤ rs.length → nl (secT b w rs k) = nl b + k := by
 intro k
 induction k with
 | zero => intro _; rw [secT_zero]; omega
 | succ k ih =>
  intro hk
  rw [secT_succ b w rs k (by omega), nl_app, nl_app, nl_app, nl_app, ih (by omega), nl_clr hw, nl_clr (rrText_clr (h k (by omega))), nl_one, nl_one]
  simp
  omega
theorem clr_lit {l : List Int} (h : (l.all (fun c => decide (c ≠ 10))) = true) : Clr l := fun c hc => of_decide_eq_true (List.all_eq_true.1 h c hc)
theorem headT_nl (m : Mg) : nl (headT m) = 1 := by
 unfold headT
 have hk : Clr (kindT m) := by
  unfold kindT
  split <;> exact clr_lit (by decide)
 rw [nl_app, nl_clr ((((hk.app (clr_one (by omega))).app (digs_clr _)).app (clr_one (by omega))).app (nameText_clr _)), nl_one]
 simp
theorem msgText_nl {m : Mg} (hok : okM m = true) (h : BytM m) : nl (msgText m) = 1 + m.ans.length + m.aus.length + m.more.length := by
 rw [msgText_yes hok]
 unfold msgT
 rw [secT_nl _ (clr_lit (by decide)) h.2.2 _ (Nat.le_refl _), secT_nl _ (clr_lit (by decide)) h.2.1 _ (Nat.le_refl _), secT_nl _ (clr_lit (by decide)) h.1 _ (Nat.le_refl _), headT_nl]
theorem nl_succ (l : List Int) (k : Nat) (h : k < l.length) : nl (l.take (k + 1)) = nl (l.take k) + if l.getD k 0 = 10 then 1 else 0 := by
 rw [List.take_succ_eq_append_getElem h, nl_app, nl_one, show l.getD k 0 = l[k] by simp [h]]
theorem info_Question : (Tryz.prog.info? 39).map (fun i => (i.zero, i.size, i.bytes)) = some (some (.agg #[.slice none 0 0, .int .i64 0]), 2, 32) := by kernel_rfl
theorem info_Want : (Tryz.prog.info? 66).map (fun i => (i.zero, i.size, i.bytes)) = some (some (.agg #[.slice none 0 0, .int .i64 0, .int .i64 0, .int .i64 0, .slice none 0 0, .slice none 0 0, .slice none 0 0, .int .i64 0, .bool false]), 9, 136) := by kernel_rfl
set_option maxHeartbeats 400000 in
set_option maxRecDepth 100000 in
theorem copyBytes_reads {v : Value} {l : List Int} {w : World} (h : Reads w v l) (hl : l.length ≤ 2097152) :
  Calls Tryz.prog 59 #[v] w fun e w' => ∃ v', e = .returned v' ∧ Own w.heap.size 5 w' v' l ∧ Below w.heap.size w w' := by
 go_enter Tryz.func59, Tryz.ntmps59
 go_wp2_with (at_builtin; refine append_bytes rfl _ _ 22 5 rfl Tryz.underlying22 VJ w.heap.size (.slice none 0 0) v [] l rfl rfl (World.ownsRow_nil _ _ _ _) h ?c1 (Nat.le_refl _) ?_)
 case c1 => simp; omega
 intro v' w1 hown hgrow
 go_wp2
 go_ret
 exact ⟨v', rfl, hown, below_of_grown hgrow⟩

theorem copyBytes_own {B : Nat} {v : Value} {l : List Int} {w : World} (h : Own B 5 w v l) (hl : l.length ≤ 2097152) :
  Calls Tryz.prog 59 #[v] w fun e w' => ∃ v', e = .returned v' ∧ Own w.heap.size 5 w' v' l ∧ Below w.heap.size w w' := copyBytes_reads h.reads hl
theorem info_sl : (Tryz.prog.info? 22).map (fun i => (i.zero, i.size, i.bytes)) = some (some (.slice none 0 0), 1, 24) := by kernel_rfl

set_option maxHeartbeats 2000000 in
set_option maxRecDepth 100000 in
theorem copyName_has {v : Value} {n : List (List Int)} {w : World} (h : HasL w v n) (hs : n.length ≤ 6) (hs2 : ∀ k, k < n.length → (n.getD k []).length ≤ 15) :
  Calls Tryz.prog 33 #[.agg #[v]] w fun e w' => ∃ v', e = .returned (.agg #[v']) ∧ OwnL w.heap.size 22 5 w' v' n ∧ Below w.heap.size w w' := by
 obtain ⟨a, cap, rfl, hcl, hcm⟩ := h.form
 unfold maxLen at hcm
 obtain ⟨hsz, h1, h2⟩ := box3 w (.cells #[.slice a n.length cap] 37) #[.slice none 0 0] #[.slice none 0 0] 37 37
 have bb : Below w.heap.size w (((w.alloc (.cells #[.slice a n.length cap] 37)).alloc (.cells #[.slice none 0 0] 37)).alloc (.cells #[.slice none 0 0] 37)) :=
  ((UI _).alloc (UI _).size _).alloc ((UI _).alloc (UI _).size _).size _
 have H := UC h
 clear h
 have HS2 := UC hs2
 clear hs2
 generalize hn : n.length = m at *
 have HN := UC hn
 clear hn
 go_enter Tryz.func33, Tryz.ntmps33
 go_wp2
 generalize ((w.alloc (.cells #[.slice a m cap] 37)).alloc (.cells #[.slice none 0 0] 37)).alloc (.cells #[.slice none 0 0] 37) = W at *
 go_loopw [9] (fun i wr => ∃ (k : Nat) (o : Value), k ≤ m ∧ i = .int .i64 k ∧ wr.heap[w.heap.size + 1]? = some (.cells #[.slice none 0 0] 37) ∧ wr.heap[w.heap.size + 1 + 1]? = some (.cells #[o] 37) ∧ OwnL (w.heap.size + 3) 22 5 wr o (n.take k) ∧ Below w.heap.size w wr) (fun i _ => m - (intOf i).toNat)
 case atStart => exact ⟨0, .slice none 0 0, Nat.zero_le _, rfl, h1, h2, ⟨[], by simpa using World.ownsRow_nil _ _ _ _, by simp, by simp⟩, bb⟩
 case round =>
  obtain ⟨k, o, hk, rfl, hr1, hr2, ho, hb⟩ := hrel
  by_cases hlt : k < m
  ·obtain ⟨b, off, u, rfl, hbl, hc, hu⟩ := ((UB H).below hb).here (k := k) (by rw [UB HN]; exact hlt)
   have hlk := UB HS2 k hlt
   have htk := UC (show n.take (k + 1) = n.take k ++ [n.getD k []] by rw [List.take_succ_eq_append_getElem (by rw [UB HN]; exact hlt)]; simp [show k < n.length by rw [UB HN]; exact hlt])
   have htl : (n.take k).length = k := by rw [List.length_take, UB HN]; omega
   generalize n.getD k [] = lab at *
   generalize n.take k = nk at *
   subst htl
   have HU := UC hu
   obtain ⟨ua, uc, rfl, _⟩ := hu.form
   clear hu
   obtain ⟨oa, oc, rfl, _⟩ := ho.hasL.form
   have hod := ho.below (UX (w := wr))
   clear ho
   have HO := UC hod
   obtain ⟨vs, hvs, hva, hvd⟩ := hod
   have hvl : vs.length = nk.length := by have := hvs.1; simpa using this
   have kd2 := UE (UX (w := wr)) hr2
   have kd1 := UE (UX (w := wr)) hr1
   have bd := UG hb (UX (w := wr))
   have cod := US kd2
   have HUd := UC ((UB HU).below UX)
   have HVS := UC hvs
   have HVA := UC hva
   have HVD := UC hvd
   have z3 := VC hr2
   have zb : w.heap.size + 3 ≤ wr.drew.heap.size := by show w.heap.size + 3 ≤ wr.heap.size; omega
   clear hva hvd hvs
   have KD2 := UC kd2
   have KD1 := UC kd1
   clear kd2 kd1
   go_wp2_with fail
   go_region_law (first
    | (refine step_append_row rfl (.tmp 14) (.tmp 17) 35 22 rfl Tryz.underlying35 info_sl (w.heap.size + 3) (.slice oa nk.length oc) _ vs [.slice u1a lab.length u1c] (by simp [Act.eval]) (by simp [Act.eval]) (by rw [hvl]; exact World.ownsRow.alloc (ownsRow_kept' (UB HVS) (UB B1)) _) (one_more w1 22 _) (by intro y hy; simp at hy; subst hy; rfl) (by rw [hvl]; simp; omega) (by have := (UB B1).size; simp; omega) ?_; intro v2 w2 o2 g2; obtain ⟨p2, k2, y2⟩ := snoc_step g2 o2 rfl (UB HVS) (UB HVA) (UB HVD) ((UB B1).alloc (UB B1).size _) ((UB OU).alloc _) zb (by decide) (UE (UI _) (UE (UB B1) (UB KD2))) (by decide); obtain ⟨v2a, v2c, rfl, _⟩ := p2.hasL.form; have co2 := US k2; have fo2 := VG k2 0)
    | (go_simp; go_at_call 59; refine (copyBytes_reads (UB HUd).reads (by omega)).mono ?_; rintro e w1 ⟨u1, rfl, ou, b1⟩; obtain ⟨u1a, u1c, rfl, _⟩ := ou.lies; have OU := UC ou; have B1 := UC b1; have co1 := US (UE b1 (UB KD2)); have ca1 : ∀ o, (w1.alloc o).cell? ⟨w.heap.size + 1 + 1, 0, none⟩ = some (.slice oa nk.length oc) := (fun o => US (UE (UI o) (UE b1 (UB KD2)))); clear ou b1))
   all_goals
    go_wp2_with fail
    have k1 := (y2.block (w.heap.size + 1) (by omega)).trans (UB KD1)
    refine ⟨⟨nk.length + 1, _, by omega, by go_num, block_other k1 (by omega) 0 _, block_set k2 _, ?_, (bd.trans (y2.mono (by omega))).setCell (by show w.heap.size ≤ w.heap.size + 1 + 1; omega) _⟩, by simp [intOf]; omega⟩
    rw [UB htk]
    simp only [List.length_append, List.length_cons, List.length_nil] at p2
    exact p2.kept (grown_setCell _ _ _) (by show w.heap.size + 1 + 1 < _; omega)
  ·obtain rfl : k = m := by omega
   obtain ⟨oa, oc, rfl, _⟩ := ho.hasL.form
   have htk : n.take k = n := List.take_of_length_le (by rw [UB HN]; omega)
   rw [htk] at ho
   have HLK := UC (show (n.take k).length = n.length by rw [htk])
   rw [UB HLK] at hr2
   have HO := UC ho
   have c2 := US hr2
   have c1 := US hr1
   have f1 := VG hr1 0
   have M1 := UC (block_set hr1 (.slice oa n.length oc))
   clear ho htk hr1 hr2 HLK
   go_wp2
   refine bodyPost_ret (results_cell_row rfl _ _ (w.heap.size + 1) 37 #[.slice oa n.length oc] (0, 0) _ rfl (UB M1) Tryz.underlying37 rfl (by kernel_rfl)) rfl ?_
   exact ⟨_, rfl, ((UB HO).kept (grown_setCell _ _ _) (by show w.heap.size + 1 < _; omega)).mono (by omega), hb.setCell (by show w.heap.size ≤ w.heap.size + 1; omega) _⟩
set_option maxHeartbeats 1000000 in
set_option maxRecDepth 100000 in
theorem copyQuestion_has {v : Value} {q : Que} {w : World} (h : HasL w v q.name) (hok : nameOk q.name = true) :
  Calls Tryz.prog 16 #[.agg #[v, .int .i64 q.type]] w fun e w' => ∃ v', e = .returned (.agg #[v', .int .i64 q.type]) ∧ OwnN w.heap.size w'.heap.size 22 5 w' v' q.name ∧ Below w.heap.size w w' := by
 obtain ⟨na, nc, rfl, _⟩ := h.form
 obtain ⟨hsz, k0, r0⟩ := box2 w (.cells #[.slice na q.name.length nc, .int .i64 q.type] 39) #[.slice none 0 0, .int .i64 0] 39
 have b0 := below2 w (.cells #[.slice na q.name.length nc, .int .i64 q.type] 39) (.cells #[.slice none 0 0, .int .i64 0] 39)
 have HC := UC (copyName_has (h.below b0) (nameOk_parts hok).1 (fun k hk => (labelOk_length ((nameOk_parts hok).2 k hk)).2))
 have K0 := UC k0
 have R0 := UC r0
 have zr := VC r0
 obtain ⟨d0, d1⟩ := UM k0
 clear h k0 r0 hsz hok
 go_enter Tryz.func16, Tryz.ntmps16
 go_wp2_with fail
 clear d0 d1
 generalize (w.alloc (.cells #[.slice na q.name.length nc, .int .i64 q.type] 39)).alloc (.cells #[.slice none 0 0, .int .i64 0] 39) = W at *
 refine (UB HC).mono ?_
 rintro e w1 ⟨v1, rfl, o1, b1⟩
 obtain ⟨n1, m1, rfl, _⟩ := o1.hasL.form
 replace b0 := UG b0 b1
 have K1 := UE b1 (UB K0)
 have R1 := UE b1 (UB R0)
 have O1 := UC o1.here
 have z1 := b1.size
 obtain ⟨d0, d1⟩ := UM K1
 obtain ⟨f0, f1⟩ := frozen2 K1
 obtain ⟨p0, p1⟩ := UM R1
 obtain ⟨q0, q1⟩ := frozen2 R1
 clear K0 R0 b1 o1 HC
 go_wp2_with fail
 clear d0 d1 f0 f1 p0 p1 q0 q1
 have u2 := (UT w1 w.heap.size 0 (.slice n1 q.name.length m1)).wide (B' := w.heap.size) (E' := w.heap.size + 2) (by omega) (by omega)
 have R2 := block_other R1 (b' := w.heap.size) (by omega) 0 (.slice n1 q.name.length m1)
 generalize w1.setCell ⟨w.heap.size, 0, none⟩ (.slice n1 q.name.length m1) = w4 at *
 have R5 : ((w4.setCell ⟨w.heap.size + 1, 0, none⟩ (.slice n1 q.name.length m1)).setCell ⟨w.heap.size + 1, 1, none⟩ (.int .i64 q.type)).heap[w.heap.size + 1]? = some (.cells #[.slice n1 q.name.length m1, .int .i64 q.type] 39) := UV (UV R2 0 _) 1 _
 have u5 := ((UT w4 (w.heap.size + 1) 0 (.slice n1 q.name.length m1)).trans (UT _ (w.heap.size + 1) 1 (.int .i64 q.type))).wide (B' := w.heap.size) (E' := w.heap.size + 2) (by omega) (by omega)
 refine bodyPost_ret (results_cell_row rfl _ _ (w.heap.size + 1) 39 #[.slice n1 q.name.length m1, .int .i64 q.type] (0, 0) _ rfl R5 Tryz.underlying39 rfl (by kernel_rfl)) rfl ?_
 have u6 := u2.trans u5
 have z6 := u6.size
 exact ⟨_, rfl, ((UB O1).outside u6 (by omega)).wide (by omega) (by omega), u6.below b0 (by omega)⟩
set_option maxHeartbeats 1000000 in
set_option maxRecDepth 100000 in
theorem copyAllQ_has {v : Value} {l : List Que} {w : World} (h : HasQs w v l) (hl : l.length ≤ 12) (hok : ∀ j, j < l.length → nameOk (l.getD j queZ).name = true) :
  Calls Tryz.prog 15 #[v, .func (Fn.func 16) #[] #[]] w fun e w' => ∃ v', e = .returned v' ∧ RowX 2 (OwnQu 22 5) queZ w.heap.size w'.heap.size 39 w' v' l ∧ Below w.heap.size w w' := by
 obtain ⟨a, cap, rfl, hcl, hm⟩ := h.form
 unfold maxLen at *
 have HS := UC (fun k (hk : k < l.length) => (show l.take (k + 1) = l.take k ++ [l.getD k queZ] by
  rw [List.take_succ_eq_append_getElem hk, List.getD_eq_getElem?_getD, List.getElem?_eq_getElem hk]; rfl))
 have HT := UC (show l.take l.length = l from List.take_length)
 have HLN := UC (fun k (hk : k ≤ l.length) => (show (l.take k).length = k by rw [List.length_take]; omega))
 have HZ := UC (show l.take 0 = [] from rfl)
 have HOK := UC hok
 generalize hmk : (fun k => l.take k) = M at *
 have HM := UC (fun k => congrFun hmk k)
 generalize hn : l.length = m at *
 have HN := UC hn
 have H := UC h
 clear hn h hmk hok
 go_enter Tryz.func15, Tryz.ntmps15
 go_wp2
 go_loopw [5, 10] (fun o i wr => ∃ k : Nat, k ≤ m ∧ i = .int .i64 k ∧ RowX 2 (OwnQu 22 5) queZ w.heap.size wr.heap.size 39 wr o (M k) ∧ Below w.heap.size w wr) (fun _ i _ => m - (intOf i).toNat)
 case atStart => exact ⟨0, Nat.zero_le _, rfl, by rw [← UB HM]; exact RowX.nil _, Below.refl _ _⟩
 case round =>
  obtain ⟨k, hk, rfl, ho, hb⟩ := hrel
  by_cases hlt : k < m
  ·have hki : (k : Int) < m := by omega
   obtain ⟨b, off, vs, rfl, hbl, hc, vn, rfl, hu⟩ := (keptQs (UB H) hb).here (k := k) (by rw [UB HN]; exact hlt)
   have hst := UB HS k hlt
   rw [UB HM, UB HM] at hst
   have hln := UB HLN k hk
   rw [UB HM] at hln
   have hokk := UB HOK k hlt
   generalize l.getD k queZ = q at *
   obtain ⟨na, nc, rfl, _⟩ := hu.form
   obtain ⟨va, vc, rfl, _⟩ := ho.form
   rw [hln]
   obtain ⟨c0, c1⟩ := range2 hc
   have bA := UI (w := wr) (.cells #[.slice na q.name.length nc, .int .i64 q.type] 39)
   have HC := UC (copyQuestion_has (hu.below bA) hokk)
   have HO := UC (RowX.below (ownsQu 22 5) ho bA)
   have HST := UC hst
   have HLK := UC hln
   have zz := hb.size
   have zA := bA.size
   clear hst hu hc hokk ho hln
   go_wp2_with fail
   refine (UB HC).mono ?_
   rintro e w1 ⟨v1, rfl, o1, b1⟩
   obtain ⟨n1, m1, rfl, _⟩ := o1.hasL.form
   clear c0 c1
   have b2 := UI (w := w1) (.cells #[.slice n1 q.name.length m1, .int .i64 q.type] 39)
   have g2 := heap_alloc_new w1 (.cells #[.slice n1 q.name.length m1, .int .i64 q.type] 39)
   have O2 := UC (o1.below b2)
   have HO2 := UC (RowX.below (ownsQu 22 5) (RowX.below (ownsQu 22 5) (UB HO) b1) b2)
   have bb2 := UG (UG (UG hb bA) b1) b2
   have z1 := b1.size
   have z2 := b2.size
   have G2 := UC g2
   have hown := UB HO2
   obtain ⟨cs0, f0, g0, hx0, _⟩ := hown
   rw [UB HLK] at hx0
   clear o1 b1 b2 g2 HO HC
   go_wp2_with (at_builtin; refine append_oneX rfl _ _ 23 39 rfl Tryz.underlying23 _ 2 32 (by omega) (by omega) info_Question rfl w.heap.size (.slice va k vc) k rfl w1.heap.size [.slice n1 q.name.length m1, .int .i64 q.type] rfl ⟨cs0, hx0⟩ (UB G2) rfl (by simp [Value.oneCell']) (by omega) bb2.size ?_)
   intro v5 w5 h5 g5 hw5
   have row5 := RowX.snoc (ownsQu 22 5) (x := q) (us := [.slice n1 q.name.length m1, .int .i64 q.type]) (UB HO2) (C := (wr.alloc (.cells #[.slice na q.name.length nc, .int .i64 q.type] 39)).heap.size) (D := w1.heap.size) (by omega) (by omega) (by omega) ⟨_, rfl, UB O2⟩ (by omega) (by rw [UB HLK]; exact g5) (by rw [UB HLK, World.size_alloc]; exact hw5) (by rw [UB HLK]; exact h5)
   rw [← UB HST] at row5
   have ROW5 := UC row5
   have bb5 := bb2.grown g5 bb2.size (fun j e => (World.ownsRow.lt hx0 j e).1)
   clear hx0 h5 g5 hw5 O2 HO2 bb2 row5 hb bA G2
   go_wp2_with fail
   exact ⟨⟨k + 1, by omega, by go_num, UB ROW5, bb5⟩, by simp [intOf]; omega⟩
  ·obtain rfl : k = m := by omega
   go_wp2
   go_ret
   rw [← UB HM, UB HT] at ho
   exact ⟨_, rfl, ho, hb⟩
def OwnM (B E : Nat) (w : World) (vq va vb vm vp vu : Value) (m : Mg) : Prop := ∃ s1 s2 s3 s4 s5, B ≤ s1 ∧ s1 ≤ s2 ∧ s2 ≤ s3 ∧ s3 ≤ s4 ∧ s4 ≤ s5 ∧ s5 ≤ E ∧ RowX 2 (OwnQu 22 5) queZ B s1 39 w vq m.qs ∧ RowO s1 s2 63 22 5 3 w va m.ans ∧ RowO s2 s3 63 22 5 3 w vb m.aus ∧ RowO s3 s4 63 22 5 3 w vm m.more ∧ RowX 9 (OwnWn 22 5 3) wntZ s4 s5 66 w vp m.pres ∧ RowX 9 (OwnWn 22 5 3) wntZ s5 E 66 w vu m.ups
theorem OwnM.below {B E : Nat} {w w' : World} {vq va vb vm vp vu : Value} {m : Mg} (h : OwnM B E w vq va vb vm vp vu m) (hb : Below w.heap.size w w') : OwnM B E w' vq va vb vm vp vu m := by
 obtain ⟨s1, s2, s3, s4, s5, a0, a1, a2, a3, a4, a5, h0, h1, h2, h3, h4, h5⟩ := h
 exact ⟨s1, s2, s3, s4, s5, a0, a1, a2, a3, a4, a5, RowX.below (ownsQu 22 5) h0 hb, RowO.below h1 hb, RowO.below h2 hb, RowO.below h3 hb, RowX.below (ownsWn 22 5 3) h4 hb, RowX.below (ownsWn 22 5 3) h5 hb⟩
theorem OwnM.outside {B E C D : Nat} {w w' : World} {vq va vb vm vp vu : Value} {m : Mg} (h : OwnM B E w vq va vb vm vp vu m) (u : Outside C D w w') (hd : E ≤ C ∨ D ≤ B) : OwnM B E w' vq va vb vm vp vu m := by
 obtain ⟨s1, s2, s3, s4, s5, a0, a1, a2, a3, a4, a5, h0, h1, h2, h3, h4, h5⟩ := h
 exact ⟨s1, s2, s3, s4, s5, a0, a1, a2, a3, a4, a5, RowX.outside (ownsQu 22 5) h0 u (by omega), RowO.outside h1 u (by omega), RowO.outside h2 u (by omega), RowO.outside h3 u (by omega), RowX.outside (ownsWn 22 5 3) h4 u (by omega), RowX.outside (ownsWn 22 5 3) h5 u (by omega)⟩
theorem OwnM.has {B E : Nat} {w : World} {vq va vb vm vp vu : Value} {m : Mg} (h : OwnM B E w vq va vb vm vp vu m) : HasM w vq va vb vm vp vu m := by
 obtain ⟨s1, s2, s3, s4, s5, a0, a1, a2, a3, a4, a5, h0, h1, h2, h3, h4, h5⟩ := h
 exact ⟨RowX.has (ownsQu 22 5) OwnQu.has h0, RowO.has h1, RowO.has h2, RowO.has h3, RowX.has (ownsWn 22 5 3) OwnWn.has h4, RowX.has (ownsWn 22 5 3) OwnWn.has h5⟩
def zeroM : Mg := ⟨0, false, 0, false, 0, [], [], [], [], [], []⟩
def replyM (m : Mg) (code : Int) : Mg := if okM m = true ∧ 0 ≤ code ∧ code ≤ 10 then ⟨m.id, true, m.op, false, code, m.qs, [], [], [], [], []⟩ else zeroM
theorem replyM_yes {m : Mg} {code : Int} (h : okM m = true ∧ 0 ≤ code ∧ code ≤ 10) : replyM m code = ⟨m.id, true, m.op, false, code, m.qs, [], [], [], [], []⟩ := by unfold replyM; rw [if_pos h]
theorem replyM_no {m : Mg} {code : Int} (h : ¬ (okM m = true ∧ 0 ≤ code ∧ code ≤ 10)) : replyM m code = zeroM := by unfold replyM; rw [if_neg h]
theorem ownM_nil (B E : Nat) (hBE : B ≤ E) (w : World) : OwnM B E w (.slice none 0 0) (.slice none 0 0) (.slice none 0 0) (.slice none 0 0) (.slice none 0 0) (.slice none 0 0) zeroM :=
 ⟨B, B, B, B, B, Nat.le_refl _, Nat.le_refl _, Nat.le_refl _, Nat.le_refl _, Nat.le_refl _, hBE, RowX.nil _, RowO.nil _ _ _ _ _ _ _, RowO.nil _ _ _ _ _ _ _, RowO.nil _ _ _ _ _ _ _, RowX.nil _, RowX.nil _⟩
theorem ownM_q {B E : Nat} {w : World} {v : Value} {m : Mg} (h : RowX 2 (OwnQu 22 5) queZ B E 39 w v m.qs) (hBE : B ≤ E) (m' : Mg) (hq : m'.qs = m.qs) (h1 : m'.ans = []) (h2 : m'.aus = []) (h3 : m'.more = []) (h4 : m'.pres = []) (h5 : m'.ups = []) : OwnM B E w v (.slice none 0 0) (.slice none 0 0) (.slice none 0 0) (.slice none 0 0) (.slice none 0 0) m' := by
 refine ⟨E, E, E, E, E, hBE, Nat.le_refl _, Nat.le_refl _, Nat.le_refl _, Nat.le_refl _, Nat.le_refl _, by rw [hq]; exact h, by rw [h1]; exact RowO.nil _ _ _ _ _ _ _, by rw [h2]; exact RowO.nil _ _ _ _ _ _ _, by rw [h3]; exact RowO.nil _ _ _ _ _ _ _, by rw [h4]; exact RowX.nil _, by rw [h5]; exact RowX.nil _⟩
end Go.Proofs.YtbabmdiklefgcaaGreatDoor
