/-
  Contracts of the specification's DrawRrSame and DrawRrCmp: two drawn records. Contracts of the laws' same.
-/
import Derived.Test.YtdghbcjlahjjdaaFnRecordOrderG22
import Derived.Test.YtdghbcjlahjjdaaFnRecordOrderG24
import Derived.Test.YtdghbcjlahjjdaaFnRecordOrderG15
import Derived.Test.YtdghbcjlahjjdaaFnRecordOrderG16
import Derived.WalkKit
namespace Go.Proofs.Ytdghbcjlahjjdaa
open Go.RowKit
set_option linter.unusedVariables false

theorem and7 {a b c d e f g q : Prop} (h : a ∧ b ∧ c ∧ d ∧ e ∧ f ∧ g) (k : q) : a ∧ b ∧ c ∧ d ∧ e ∧ f ∧ g ∧ q := ⟨h.1, h.2.1, h.2.2.1, h.2.2.2.1, h.2.2.2.2.1, h.2.2.2.2.2.1, h.2.2.2.2.2.2, k⟩
set_option maxHeartbeats 8000000 in
set_option maxRecDepth 100000 in
theorem drawRrSame_any {a : Option Addr} {len cap : Nat} {w : World} (l : List Int) (hL : Lies w a l) (hn : l.length = len) (hb : ∀ k, 0 ≤ l.getD k 0 ∧ l.getD k 0 ≤ 255) (hm : len ≤ maxLen) :
    Calls Try.prog 24 #[.slice a len cap] w fun e w' => ∃ vn vt vx vi r un ut ux ui s, e = .returned (.tuple #[.agg #[vn, .int .i64 r.type, .int .i64 r.ttl, .int .i64 r.addr, vt, vx, vi], .agg #[un, .int .i64 s.type, .int .i64 s.ttl, .int .i64 s.addr, ut, ux, ui]]) ∧ DrawR w' vn vt vx vi r ∧ DrawR w' un ut ux ui s ∧ Below w.heap.size w w' := by
  obtain ⟨hsz, k0, r0⟩ := box2 w (.cells #[.slice none 0 0, .int .i64 0, .int .i64 0, .int .i64 0, .slice none 0 0, .slice none 0 0, .slice none 0 0] 28) #[.slice none 0 0, .int .i64 0, .int .i64 0, .int .i64 0, .slice none 0 0, .slice none 0 0, .slice none 0 0] 28
  have b0 := below2 w (.cells #[.slice none 0 0, .int .i64 0, .int .i64 0, .int .i64 0, .slice none 0 0, .slice none 0 0, .slice none 0 0] 28) (.cells #[.slice none 0 0, .int .i64 0, .int .i64 0, .int .i64 0, .slice none 0 0, .slice none 0 0, .slice none 0 0] 28)
  have HNEW := hide (l1New_any (cap := cap) l (hL.below b0) hn hb hm)
  have KA := hide k0
  have KB := hide r0
  have zz := block_lt r0
  have HM := hide hm
  clear hL hn hb k0 r0 hsz hm
  go_enter Try.func24, Try.ntmps24
  go_wp2_with fail
  generalize (w.alloc (.cells #[.slice none 0 0, .int .i64 0, .int .i64 0, .int .i64 0, .slice none 0 0, .slice none 0 0, .slice none 0 0] 28)).alloc (.cells #[.slice none 0 0, .int .i64 0, .int .i64 0, .int .i64 0, .slice none 0 0, .slice none 0 0, .slice none 0 0] 28) = W at *
  refine (unhide HNEW).mono ?_
  rintro e w1 ⟨rfl, c1, L1, b1⟩
  replace KA := hide (block_kept b1 (unhide KA))
  replace KB := hide (block_kept b1 (unhide KB))
  have bb := below_next b0 b1
  have z1 := c1.lt
  have HD := hide (l3bent_any c1 L1 (unhide HM))
  have C := hide c1
  have L := hide L1
  clear HNEW b0 c1 L1 b1
  go_wp2_with fail
  refine (unhide HD).mono ?_
  rintro e w2 ⟨vn, vt, vx, vi, r, rfl, hd, hvb, DR, c2, g2⟩
  clear HD hvb
  obtain ⟨x1, xc1, rfl, _⟩ := DR.hasR.name.form
  obtain ⟨x2, xc2, rfl, _⟩ := DR.hasR.to.form
  obtain ⟨x3, xc3, rfl, _⟩ := DR.hasR.text.form
  obtain ⟨x4, xc4, rfl, _⟩ := DR.hasR.nums.form
  replace KA := hide (block_grown g2 (unhide KA) (by simp; omega))
  replace KB := hide (block_grown g2 (unhide KB) (by simp; omega))
  replace bb := below_cursor bb g2 (fun j e => by simp at e; omega)
  replace L := hide ((unhide L).grown g2)
  replace C := hide c2
  have z2 := g2.size
  have HS := hide hd
  have DD := hide DR
  clear hd DR c2 g2
  have KQ := hide (heap_alloc_new w2 (.cells #[.slice x1 r.name.length xc1, .int .i64 r.type, .int .i64 r.ttl, .int .i64 r.addr, .slice x2 r.to.length xc2, .slice x3 r.text.length xc3, .slice x4 r.nums.length xc4] 28))
  have ba := below_alloc (w := w2) (.cells #[.slice x1 r.name.length xc1, .int .i64 r.type, .int .i64 r.ttl, .int .i64 r.addr, .slice x2 r.to.length xc2, .slice x3 r.text.length xc3, .slice x4 r.nums.length xc4] 28)
  have zq := block_lt (unhide KQ)
  replace DD := hide ((unhide DD).below ba)
  replace KA := hide (block_kept ba (unhide KA))
  replace KB := hide (block_kept ba (unhide KB))
  replace bb := below_next bb ba
  replace C := hide ((unhide C).later (grown_of_below ba) (by simp))
  replace L := hide ((unhide L).later (grown_of_below ba) (by simp))
  have z3 := ba.size
  clear ba
  have HO := hide (l1Once_any 2 (unhide C) (unhide L) (unhide HM) (by omega) (by omega))
  go_wp2_with fail
  generalize w2.alloc (.cells #[.slice x1 r.name.length xc1, .int .i64 r.type, .int .i64 r.ttl, .int .i64 r.addr, .slice x2 r.to.length xc2, .slice x3 r.text.length xc3, .slice x4 r.nums.length xc4] 28) = W2 at *
  refine (unhide HO).mono ?_
  rintro e u2 ⟨o, rfl, c3, g3⟩
  clear HO
  replace DD := hide ((unhide DD).cur (unhide C) g3)
  replace KA := hide (block_grown g3 (unhide KA) (by simp; omega))
  replace KB := hide (block_grown g3 (unhide KB) (by simp; omega))
  replace KQ := hide (block_grown g3 (unhide KQ) (by simp; omega))
  replace bb := below_cursor bb g3 (fun j e => by simp at e; omega)
  replace L := hide ((unhide L).grown g3)
  replace C := hide c3
  have z4 := g3.size
  clear g3 c3
  rcases o with _ | _
  · have HD := hide (l3bent_any (unhide C) (unhide L) (unhide HM))
    obtain ⟨d0, d1, d2, d3, d4, d5, d6⟩ := cells7 (unhide KQ)
    go_wp2_with fail
    clear d0 d1 d2 d3 d4 d5 d6
    have bd := below_drew (w := u2)
    replace DD := hide ((unhide DD).below bd)
    replace KA := hide (block_kept bd (unhide KA))
    replace KB := hide (block_kept bd (unhide KB))
    replace KQ := hide (block_kept bd (unhide KQ))
    replace bb := below_next bb bd
    replace C := hide ((unhide C).later (grown_of_below bd) (by simp))
    replace L := hide ((unhide L).later (grown_of_below bd) (by simp))
    replace HD := hide (l3bent_any (unhide C) (unhide L) (unhide HM))
    have z5 := bd.size
    clear bd
    refine wp_region_held_drew (S := (fun w' => w'.cell? ⟨w2.heap.size, 0, none⟩ = some (.slice x1 r.name.length xc1) ∧ w'.cell? ⟨w2.heap.size, 1, none⟩ = some (.int .i64 r.type) ∧ w'.cell? ⟨w2.heap.size, 2, none⟩ = some (.int .i64 r.ttl) ∧ w'.cell? ⟨w2.heap.size, 3, none⟩ = some (.int .i64 r.addr) ∧ w'.cell? ⟨w2.heap.size, 4, none⟩ = some (.slice x2 r.to.length xc2) ∧ w'.cell? ⟨w2.heap.size, 5, none⟩ = some (.slice x3 r.text.length xc3) ∧ w'.cell? ⟨w2.heap.size, 6, none⟩ = some (.slice x4 r.nums.length xc4))) (by kernel_rfl) (cells7 (unhide KQ)) (fun hHeld => ?_)
    show wpAnyH _ _ _ _ _ 5 #[false, false, false, false, false] _ _
    refine wpAnyH_take (i := 0) (oi := { dst := some 20, op := Op.load 28 (Operand.tmp 5), type := 28, pos := "l03_record.go:306", after := #[], guard := none }) (v := .agg #[.slice x1 r.name.length xc1, .int .i64 r.type, .int .i64 r.ttl, .int .i64 r.addr, .slice x2 r.to.length xc2, .slice x3 r.text.length xc3, .slice x4 r.nums.length xc4]) rfl (by kernel_rfl) (by kernel_rfl) (by kernel_rfl) (fun _ _ _ h => h) (Or.inl ⟨by rfl, ?_⟩) hHeld ?_
    · (intro w hSw; (try dsimp only at hSw); go_simp)
    try simp only [Act.put, List.setIfInBounds_toArray, List.set_cons_zero, List.set_cons_succ]
    refine wpAnyH_take (i := 1) (oi := { dst := some 21, op := Op.move (Operand.tmp 4), type := 81, pos := "l03_record.go:306", after := #[], guard := none }) (v := .pointer (some ⟨W.heap.size, 0, none⟩)) rfl (by kernel_rfl) (by kernel_rfl) (by kernel_rfl) (fun _ _ _ h => h) (Or.inl ⟨by rfl, ?_⟩) hHeld ?_
    · (intro w hSw; (try dsimp only at hSw); go_simp)
    try simp only [Act.put, List.setIfInBounds_toArray, List.set_cons_zero, List.set_cons_succ]
    refine wpAnyH_ready (rs := [2]) (by kernel_rfl) (by simp) (AllReadyH.cons (o := { dst := some 22, op := Op.call { callee := Callee.value (Operand.func 55), args := #[Operand.tmp 21], argTypes := #[81] }, type := 28, pos := "l03_record.go:306", after := #[{ on := 1, ground := Ground.data }], guard := none }) rfl (fun K hK => ?_) AllReadyH.nil)
    have HK := hide hK
    clear hK hHeld
    go_simp
    refine (unhide HD).mono ?_
    rintro e u4 ⟨vn, vt, vx, vi, s, rfl, hd, hvb, DR, c6, g6⟩
    obtain ⟨p1, pc1, rfl, _⟩ := DR.hasR.name.form
    obtain ⟨p2, pc2, rfl, _⟩ := DR.hasR.to.form
    obtain ⟨p3, pc3, rfl, _⟩ := DR.hasR.text.form
    obtain ⟨p4, pc4, rfl, _⟩ := DR.hasR.nums.form
    replace DD := hide ((unhide DD).cur (unhide C) g6)
    replace KA := hide (block_grown g6 (unhide KA) (by simp; omega))
    replace KB := hide (block_grown g6 (unhide KB) (by simp; omega))
    replace KQ := hide (block_grown g6 (unhide KQ) (by simp; omega))
    replace bb := below_cursor bb g6 (fun j e => by simp at e; omega)
    have DE := hide DR
    have z6 := g6.size
    clear hd hvb DR c6 g6 C L HD
    go_simp
    refine (unhide HK).out _ _ (cells7 (unhide KQ)) (fun hHeld => ?_)
    clear HK K
    try simp only [List.setIfInBounds_toArray, List.set_cons_zero, List.set_cons_succ]
    refine wpAnyH_ready (rs := [3]) (by kernel_rfl) (by simp) (AllReadyH.cons (o := { dst := none, op := Op.store 28 (Operand.tmp 2) (Operand.tmp 20), type := 0, pos := "l03_record.go:306", after := #[{ on := 0, ground := Ground.data }, { on := 2, ground := Ground.chain }, { on := 0, ground := Ground.phase }, { on := 1, ground := Ground.textOnly Departure.lateStores }, { on := 2, ground := Ground.textOnly Departure.lateStoresUnsure }], guard := none }) rfl (fun K hK => ?_) AllReadyH.nil)
    have HK := hide hK
    clear hK hHeld
    obtain ⟨R1, ou1⟩ := set7 (c0 := .slice x1 r.name.length xc1) (c1 := .int .i64 r.type) (c2 := .int .i64 r.ttl) (c3 := .int .i64 r.addr) (c4 := .slice x2 r.to.length xc2) (c5 := .slice x3 r.text.length xc3) (c6 := .slice x4 r.nums.length xc4) (unhide KA)
    have gg1 := grown_sets7 u4 w.heap.size (c0 := .slice x1 r.name.length xc1) (c1 := .int .i64 r.type) (c2 := .int .i64 r.ttl) (c3 := .int .i64 r.addr) (c4 := .slice x2 r.to.length xc2) (c5 := .slice x3 r.text.length xc3) (c6 := .slice x4 r.nums.length xc4)
    rw [if_pos (by rfl)]
    refine wp_store7 28 (.tmp 2) (.tmp 20) rfl w.heap.size (.slice x1 r.name.length xc1) (.int .i64 r.type) (.int .i64 r.ttl) (.int .i64 r.addr) (.slice x2 r.to.length xc2) (.slice x3 r.text.length xc3) (.slice x4 r.nums.length xc4) rfl rfl (unhide KA) (by kernel_rfl) (by simp [Value.oneCell']) ?_
    replace DD := hide ((unhide DD).off (unhide KA) (by decide) (by decide) (by decide) gg1)
    replace DE := hide ((unhide DE).off (unhide KA) (by decide) (by decide) (by decide) gg1)
    replace KB := hide (ou1.kept (unhide KB) (by omega))
    replace KQ := hide (ou1.kept (unhide KQ) (by omega))
    replace bb := ou1.below bb (by omega)
    replace KA := hide R1
    have zo1 := ou1.size
    refine (unhide HK).out _ _ (cells7 (unhide KQ)) (fun hHeld => ?_)
    clear HK K R1 ou1 gg1
    generalize (((((((u4.setCell ⟨w.heap.size, 0, none⟩ (.slice x1 r.name.length xc1)).setCell ⟨w.heap.size, 1, none⟩ (.int .i64 r.type)).setCell ⟨w.heap.size, 2, none⟩ (.int .i64 r.ttl)).setCell ⟨w.heap.size, 3, none⟩ (.int .i64 r.addr)).setCell ⟨w.heap.size, 4, none⟩ (.slice x2 r.to.length xc2)).setCell ⟨w.heap.size, 5, none⟩ (.slice x3 r.text.length xc3)).setCell ⟨w.heap.size, 6, none⟩ (.slice x4 r.nums.length xc4)) = y1 at *
    refine wpAnyH_ready (rs := [4]) (by kernel_rfl) (by simp) (AllReadyH.cons (o := { dst := none, op := Op.store 28 (Operand.tmp 3) (Operand.tmp 22), type := 0, pos := "l03_record.go:306", after := #[{ on := 2, ground := Ground.data }, { on := 3, ground := Ground.chain }, { on := 0, ground := Ground.phase }, { on := 1, ground := Ground.phase }, { on := 2, ground := Ground.phase }, { on := 3, ground := Ground.phase }], guard := none }) rfl (fun K hK => ?_) AllReadyH.nil)
    have HK := hide hK
    clear hK hHeld
    obtain ⟨R2, ou2⟩ := set7 (c0 := .slice p1 s.name.length pc1) (c1 := .int .i64 s.type) (c2 := .int .i64 s.ttl) (c3 := .int .i64 s.addr) (c4 := .slice p2 s.to.length pc2) (c5 := .slice p3 s.text.length pc3) (c6 := .slice p4 s.nums.length pc4) (unhide KB)
    have gg2 := grown_sets7 y1 (w.heap.size + 1) (c0 := .slice p1 s.name.length pc1) (c1 := .int .i64 s.type) (c2 := .int .i64 s.ttl) (c3 := .int .i64 s.addr) (c4 := .slice p2 s.to.length pc2) (c5 := .slice p3 s.text.length pc3) (c6 := .slice p4 s.nums.length pc4)
    rw [if_pos (by rfl)]
    refine wp_store7 28 (.tmp 3) (.tmp 22) rfl (w.heap.size + 1) (.slice p1 s.name.length pc1) (.int .i64 s.type) (.int .i64 s.ttl) (.int .i64 s.addr) (.slice p2 s.to.length pc2) (.slice p3 s.text.length pc3) (.slice p4 s.nums.length pc4) rfl rfl (unhide KB) (by kernel_rfl) (by simp [Value.oneCell']) ?_
    replace DD := hide ((unhide DD).off (unhide KB) (by decide) (by decide) (by decide) gg2)
    replace DE := hide ((unhide DE).off (unhide KB) (by decide) (by decide) (by decide) gg2)
    replace KA := hide (ou2.kept (unhide KA) (by omega))
    replace KQ := hide (ou2.kept (unhide KQ) (by omega))
    replace bb := ou2.below bb (by omega)
    replace KB := hide R2
    have zo2 := ou2.size
    refine (unhide HK).out _ _ (cells7 (unhide KQ)) (fun hHeld => ?_)
    clear HK K R2 ou2 gg2
    generalize (((((((y1.setCell ⟨(w.heap.size + 1), 0, none⟩ (.slice p1 s.name.length pc1)).setCell ⟨(w.heap.size + 1), 1, none⟩ (.int .i64 s.type)).setCell ⟨(w.heap.size + 1), 2, none⟩ (.int .i64 s.ttl)).setCell ⟨(w.heap.size + 1), 3, none⟩ (.int .i64 s.addr)).setCell ⟨(w.heap.size + 1), 4, none⟩ (.slice p2 s.to.length pc2)).setCell ⟨(w.heap.size + 1), 5, none⟩ (.slice p3 s.text.length pc3)).setCell ⟨(w.heap.size + 1), 6, none⟩ (.slice p4 s.nums.length pc4)) = y2 at *
    clear hHeld
    refine wpAnyH_done (by kernel_rfl) ?_ _
    go_wp2_with fail
    refine bodyPost_ret (results_cells2_row rfl _ _ w.heap.size (w.heap.size + 1) 28 28 #[.slice x1 r.name.length xc1, .int .i64 r.type, .int .i64 r.ttl, .int .i64 r.addr, .slice x2 r.to.length xc2, .slice x3 r.text.length xc3, .slice x4 r.nums.length xc4] #[.slice p1 s.name.length pc1, .int .i64 s.type, .int .i64 s.ttl, .int .i64 s.addr, .slice p2 s.to.length pc2, .slice p3 s.text.length pc3, .slice p4 s.nums.length pc4] (0, 0) (0, 0) _ _ rfl (unhide KA) rfl (unhide KB) Try.underlying28 rfl (by kernel_rfl) Try.underlying28 rfl (by kernel_rfl)) rfl ?_
    exact ⟨_, _, _, _, r, _, _, _, _, s, rfl, unhide DD, unhide DE, bb⟩
  · have HOW := hide (l3own_has (unhide DD).hasR (unhide HS).2.1 (unhide HS).2.2.1 (by have := (unhide HS).2.2.2; omega) (by have := (unhide HS).1; omega))
    obtain ⟨d0, d1, d2, d3, d4, d5, d6⟩ := cells7 (unhide KQ)
    go_wp2_with fail
    clear d0 d1 d2 d3 d4 d5 d6
    refine (unhide HOW).mono ?_
    rintro e u3 ⟨un, ut, ux, ui, rfl, o1, o2, o3, o4, b3⟩
    obtain ⟨p1, pc1, rfl, _⟩ := o1.hasL.form
    obtain ⟨p2, pc2, rfl, _⟩ := o2.hasL.form
    obtain ⟨p3, pc3, rfl, _⟩ := o3.lies
    obtain ⟨p4, pc4, rfl, _⟩ := o4.lies
    replace DD := hide ((unhide DD).below b3)
    replace KA := hide (block_kept b3 (unhide KA))
    replace KB := hide (block_kept b3 (unhide KB))
    replace KQ := hide (block_kept b3 (unhide KQ))
    replace bb := below_next bb b3
    replace C := hide ((unhide C).later (grown_of_below b3) (by simp))
    replace L := hide ((unhide L).later (grown_of_below b3) (by simp))
    have z5 := b3.size
    have DE := hide (⟨o1.ownT.mono (Nat.zero_le _), o2.ownT.mono (Nat.zero_le _), ⟨o3.has, o3.typed⟩, o4.mono (Nat.zero_le _)⟩ : DrawR u3 (.slice p1 r.name.length pc1) (.slice p2 r.to.length pc2) (.slice p3 r.text.length pc3) (.slice p4 r.nums.length pc4) r)
    clear o1 o2 o3 o4 b3 HOW HS
    have KP := hide (heap_alloc_new u3 (.cells #[.slice p1 r.name.length pc1, .int .i64 r.type, .int .i64 r.ttl, .int .i64 r.addr, .slice p2 r.to.length pc2, .slice p3 r.text.length pc3, .slice p4 r.nums.length pc4] 28))
    have ba := below_alloc (w := u3) (.cells #[.slice p1 r.name.length pc1, .int .i64 r.type, .int .i64 r.ttl, .int .i64 r.addr, .slice p2 r.to.length pc2, .slice p3 r.text.length pc3, .slice p4 r.nums.length pc4] 28)
    have zp := block_lt (unhide KP)
    replace DD := hide ((unhide DD).below ba)
    replace DE := hide ((unhide DE).below ba)
    replace KA := hide (block_kept ba (unhide KA))
    replace KB := hide (block_kept ba (unhide KB))
    replace KQ := hide (block_kept ba (unhide KQ))
    replace bb := below_next bb ba
    replace C := hide ((unhide C).later (grown_of_below ba) (by simp))
    replace L := hide ((unhide L).later (grown_of_below ba) (by simp))
    have z6 := ba.size
    clear ba
    have HB := hide (l1Below_any 90 (unhide C) (unhide L) (unhide HM) (by omega) (by omega))
    go_wp2_with fail
    generalize u3.alloc (.cells #[.slice p1 r.name.length pc1, .int .i64 r.type, .int .i64 r.ttl, .int .i64 r.addr, .slice p2 r.to.length pc2, .slice p3 r.text.length pc3, .slice p4 r.nums.length pc4] 28) = W4 at *
    refine (unhide HB).mono ?_
    rintro e u4 ⟨t, rfl, t0, t1, c5, g5⟩
    clear HB
    replace DD := hide ((unhide DD).cur (unhide C) g5)
    replace DE := hide ((unhide DE).cur (unhide C) g5)
    replace KA := hide (block_grown g5 (unhide KA) (by simp; omega))
    replace KB := hide (block_grown g5 (unhide KB) (by simp; omega))
    replace KQ := hide (block_grown g5 (unhide KQ) (by simp; omega))
    replace KP := hide (block_grown g5 (unhide KP) (by simp; omega))
    replace bb := below_cursor bb g5 (fun j e => by simp at e; omega)
    replace L := hide ((unhide L).grown g5)
    have z7 := g5.size
    clear C L g5 c5 t0 t1
    obtain ⟨e0, e1, e2, e3, e4, e5, e6⟩ := cells7 (unhide KP)
    obtain ⟨f0, f1, f2, f3, f4, f5, f6⟩ := frozen7 (unhide KP)
    go_wp2_with fail
    clear e0 e1 e2 e3 e4 e5 e6 f0 f1 f2 f3 f4 f5 f6
    have gs := grown_setCell u4 ⟨u3.heap.size, 2, none⟩ (.int .i64 t)
    have us := outside_set u4 u3.heap.size 2 (.int .i64 t)
    replace DD := hide ((unhide DD).off (unhide KP) (by decide) (by decide) (by decide) gs)
    replace DE := hide ((unhide DE).off (unhide KP) (by decide) (by decide) (by decide) gs)
    have KP2 : Hid ((u4.setCell ⟨u3.heap.size, 2, none⟩ (.int .i64 t)).heap[u3.heap.size]? = some (.cells #[.slice p1 r.name.length pc1, .int .i64 r.type, .int .i64 t, .int .i64 r.addr, .slice p2 r.to.length pc2, .slice p3 r.text.length pc3, .slice p4 r.nums.length pc4] 28)) := block_setAt (unhide KP) 2 (.int .i64 t)
    clear KP
    have KP := KP2
    clear KP2
    replace KA := hide (us.kept (unhide KA) (by omega))
    replace KB := hide (us.kept (unhide KB) (by omega))
    replace KQ := hide (us.kept (unhide KQ) (by omega))
    replace bb := us.below bb (by omega)
    have z8 := us.size
    clear gs us
    generalize u4.setCell ⟨u3.heap.size, 2, none⟩ (.int .i64 t) = u5 at *
    have bd := below_drew (w := u5)
    replace DD := hide ((unhide DD).below bd)
    replace DE := hide ((unhide DE).below bd)
    replace KA := hide (block_kept bd (unhide KA))
    replace KB := hide (block_kept bd (unhide KB))
    replace KQ := hide (block_kept bd (unhide KQ))
    replace KP := hide (block_kept bd (unhide KP))
    replace bb := below_next bb bd
    have z9 := bd.size
    clear bd
    refine wp_region_held_drew (S := (fun w' => w'.cell? ⟨w2.heap.size, 0, none⟩ = some (.slice x1 r.name.length xc1) ∧ w'.cell? ⟨w2.heap.size, 1, none⟩ = some (.int .i64 r.type) ∧ w'.cell? ⟨w2.heap.size, 2, none⟩ = some (.int .i64 r.ttl) ∧ w'.cell? ⟨w2.heap.size, 3, none⟩ = some (.int .i64 r.addr) ∧ w'.cell? ⟨w2.heap.size, 4, none⟩ = some (.slice x2 r.to.length xc2) ∧ w'.cell? ⟨w2.heap.size, 5, none⟩ = some (.slice x3 r.text.length xc3) ∧ w'.cell? ⟨w2.heap.size, 6, none⟩ = some (.slice x4 r.nums.length xc4) ∧ w'.cell? ⟨u3.heap.size, 0, none⟩ = some (.slice p1 r.name.length pc1) ∧ w'.cell? ⟨u3.heap.size, 1, none⟩ = some (.int .i64 r.type) ∧ w'.cell? ⟨u3.heap.size, 2, none⟩ = some (.int .i64 t) ∧ w'.cell? ⟨u3.heap.size, 3, none⟩ = some (.int .i64 r.addr) ∧ w'.cell? ⟨u3.heap.size, 4, none⟩ = some (.slice p2 r.to.length pc2) ∧ w'.cell? ⟨u3.heap.size, 5, none⟩ = some (.slice p3 r.text.length pc3) ∧ w'.cell? ⟨u3.heap.size, 6, none⟩ = some (.slice p4 r.nums.length pc4))) (by kernel_rfl) (and7 (cells7 (unhide KQ)) (cells7 (unhide KP))) (fun hHeld => ?_)
    show wpAnyH _ _ _ _ _ 4 #[false, false, false, false] _ _
    refine wpAnyH_take (i := 0) (oi := { dst := some 18, op := Op.load 28 (Operand.tmp 5), type := 28, pos := "l03_record.go:304", after := #[], guard := none }) (v := .agg #[.slice x1 r.name.length xc1, .int .i64 r.type, .int .i64 r.ttl, .int .i64 r.addr, .slice x2 r.to.length xc2, .slice x3 r.text.length xc3, .slice x4 r.nums.length xc4]) rfl (by kernel_rfl) (by kernel_rfl) (by kernel_rfl) (fun _ _ _ h => h) (Or.inl ⟨by rfl, ?_⟩) hHeld ?_
    · (intro w hSw; (try dsimp only at hSw); go_simp)
    try simp only [Act.put, List.setIfInBounds_toArray, List.set_cons_zero, List.set_cons_succ]
    refine wpAnyH_take (i := 1) (oi := { dst := some 19, op := Op.load 28 (Operand.tmp 6), type := 28, pos := "l03_record.go:304", after := #[{ on := 2, ground := Ground.gcOnly Departure.lateStores }], guard := none }) (v := .agg #[.slice p1 r.name.length pc1, .int .i64 r.type, .int .i64 t, .int .i64 r.addr, .slice p2 r.to.length pc2, .slice p3 r.text.length pc3, .slice p4 r.nums.length pc4]) rfl (by kernel_rfl) (by kernel_rfl) (by kernel_rfl) (fun _ _ _ h => h) (Or.inl ⟨by rfl, ?_⟩) hHeld ?_
    · (intro w hSw; (try dsimp only at hSw); go_simp)
    try simp only [Act.put, List.setIfInBounds_toArray, List.set_cons_zero, List.set_cons_succ]
    replace DE : Hid (DrawR u5.drew (.slice p1 r.name.length pc1) (.slice p2 r.to.length pc2) (.slice p3 r.text.length pc3) (.slice p4 r.nums.length pc4) ⟨r.name, r.type, t, r.addr, r.to, r.text, r.nums⟩) := ⟨(unhide DE).name, (unhide DE).to, (unhide DE).text, (unhide DE).nums⟩
    refine wpAnyH_ready (rs := [2]) (by kernel_rfl) (by simp) (AllReadyH.cons (o := { dst := none, op := Op.store 28 (Operand.tmp 2) (Operand.tmp 18), type := 0, pos := "l03_record.go:304", after := #[{ on := 0, ground := Ground.data }, { on := 0, ground := Ground.phase }, { on := 1, ground := Ground.textOnly Departure.lateStores }], guard := none }) rfl (fun K hK => ?_) AllReadyH.nil)
    have HK := hide hK
    clear hK hHeld
    obtain ⟨R1, ou1⟩ := set7 (c0 := .slice x1 r.name.length xc1) (c1 := .int .i64 r.type) (c2 := .int .i64 r.ttl) (c3 := .int .i64 r.addr) (c4 := .slice x2 r.to.length xc2) (c5 := .slice x3 r.text.length xc3) (c6 := .slice x4 r.nums.length xc4) (unhide KA)
    have gg1 := grown_sets7 u5.drew w.heap.size (c0 := .slice x1 r.name.length xc1) (c1 := .int .i64 r.type) (c2 := .int .i64 r.ttl) (c3 := .int .i64 r.addr) (c4 := .slice x2 r.to.length xc2) (c5 := .slice x3 r.text.length xc3) (c6 := .slice x4 r.nums.length xc4)
    rw [if_pos (by rfl)]
    refine wp_store7 28 (.tmp 2) (.tmp 18) rfl w.heap.size (.slice x1 r.name.length xc1) (.int .i64 r.type) (.int .i64 r.ttl) (.int .i64 r.addr) (.slice x2 r.to.length xc2) (.slice x3 r.text.length xc3) (.slice x4 r.nums.length xc4) rfl rfl (unhide KA) (by kernel_rfl) (by simp [Value.oneCell']) ?_
    replace DD := hide ((unhide DD).off (unhide KA) (by decide) (by decide) (by decide) gg1)
    replace DE := hide ((unhide DE).off (unhide KA) (by decide) (by decide) (by decide) gg1)
    replace KB := hide (ou1.kept (unhide KB) (by omega))
    replace KQ := hide (ou1.kept (unhide KQ) (by omega))
    replace KP := hide (ou1.kept (unhide KP) (by omega))
    replace bb := ou1.below bb (by omega)
    replace KA := hide R1
    have zo1 := ou1.size
    refine (unhide HK).out _ _ (and7 (cells7 (unhide KQ)) (cells7 (unhide KP))) (fun hHeld => ?_)
    clear HK K R1 ou1 gg1
    generalize (((((((u5.drew.setCell ⟨w.heap.size, 0, none⟩ (.slice x1 r.name.length xc1)).setCell ⟨w.heap.size, 1, none⟩ (.int .i64 r.type)).setCell ⟨w.heap.size, 2, none⟩ (.int .i64 r.ttl)).setCell ⟨w.heap.size, 3, none⟩ (.int .i64 r.addr)).setCell ⟨w.heap.size, 4, none⟩ (.slice x2 r.to.length xc2)).setCell ⟨w.heap.size, 5, none⟩ (.slice x3 r.text.length xc3)).setCell ⟨w.heap.size, 6, none⟩ (.slice x4 r.nums.length xc4)) = y1 at *
    refine wpAnyH_ready (rs := [3]) (by kernel_rfl) (by simp) (AllReadyH.cons (o := { dst := none, op := Op.store 28 (Operand.tmp 3) (Operand.tmp 19), type := 0, pos := "l03_record.go:304", after := #[{ on := 1, ground := Ground.data }, { on := 2, ground := Ground.chain }, { on := 0, ground := Ground.phase }, { on := 1, ground := Ground.phase }, { on := 2, ground := Ground.phase }], guard := none }) rfl (fun K hK => ?_) AllReadyH.nil)
    have HK := hide hK
    clear hK hHeld
    obtain ⟨R2, ou2⟩ := set7 (c0 := .slice p1 r.name.length pc1) (c1 := .int .i64 r.type) (c2 := .int .i64 t) (c3 := .int .i64 r.addr) (c4 := .slice p2 r.to.length pc2) (c5 := .slice p3 r.text.length pc3) (c6 := .slice p4 r.nums.length pc4) (unhide KB)
    have gg2 := grown_sets7 y1 (w.heap.size + 1) (c0 := .slice p1 r.name.length pc1) (c1 := .int .i64 r.type) (c2 := .int .i64 t) (c3 := .int .i64 r.addr) (c4 := .slice p2 r.to.length pc2) (c5 := .slice p3 r.text.length pc3) (c6 := .slice p4 r.nums.length pc4)
    rw [if_pos (by rfl)]
    refine wp_store7 28 (.tmp 3) (.tmp 19) rfl (w.heap.size + 1) (.slice p1 r.name.length pc1) (.int .i64 r.type) (.int .i64 t) (.int .i64 r.addr) (.slice p2 r.to.length pc2) (.slice p3 r.text.length pc3) (.slice p4 r.nums.length pc4) rfl rfl (unhide KB) (by kernel_rfl) (by simp [Value.oneCell']) ?_
    replace DD := hide ((unhide DD).off (unhide KB) (by decide) (by decide) (by decide) gg2)
    replace DE := hide ((unhide DE).off (unhide KB) (by decide) (by decide) (by decide) gg2)
    replace KA := hide (ou2.kept (unhide KA) (by omega))
    replace KQ := hide (ou2.kept (unhide KQ) (by omega))
    replace KP := hide (ou2.kept (unhide KP) (by omega))
    replace bb := ou2.below bb (by omega)
    replace KB := hide R2
    have zo2 := ou2.size
    refine (unhide HK).out _ _ (and7 (cells7 (unhide KQ)) (cells7 (unhide KP))) (fun hHeld => ?_)
    clear HK K R2 ou2 gg2
    generalize (((((((y1.setCell ⟨(w.heap.size + 1), 0, none⟩ (.slice p1 r.name.length pc1)).setCell ⟨(w.heap.size + 1), 1, none⟩ (.int .i64 r.type)).setCell ⟨(w.heap.size + 1), 2, none⟩ (.int .i64 t)).setCell ⟨(w.heap.size + 1), 3, none⟩ (.int .i64 r.addr)).setCell ⟨(w.heap.size + 1), 4, none⟩ (.slice p2 r.to.length pc2)).setCell ⟨(w.heap.size + 1), 5, none⟩ (.slice p3 r.text.length pc3)).setCell ⟨(w.heap.size + 1), 6, none⟩ (.slice p4 r.nums.length pc4)) = y2 at *
    clear hHeld
    refine wpAnyH_done (by kernel_rfl) ?_ _
    go_wp2_with fail
    refine bodyPost_ret (results_cells2_row rfl _ _ w.heap.size (w.heap.size + 1) 28 28 #[.slice x1 r.name.length xc1, .int .i64 r.type, .int .i64 r.ttl, .int .i64 r.addr, .slice x2 r.to.length xc2, .slice x3 r.text.length xc3, .slice x4 r.nums.length xc4] #[.slice p1 r.name.length pc1, .int .i64 r.type, .int .i64 t, .int .i64 r.addr, .slice p2 r.to.length pc2, .slice p3 r.text.length pc3, .slice p4 r.nums.length pc4] (0, 0) (0, 0) _ _ rfl (unhide KA) rfl (unhide KB) Try.underlying28 rfl (by kernel_rfl) Try.underlying28 rfl (by kernel_rfl)) rfl ?_
    exact ⟨_, _, _, _, r, _, _, _, _, ⟨r.name, r.type, t, r.addr, r.to, r.text, r.nums⟩, rfl, unhide DD, unhide DE, bb⟩

set_option maxHeartbeats 2000000 in
set_option maxRecDepth 100000 in
theorem drawRrCmp_any {a : Option Addr} {len cap : Nat} {w : World} (l : List Int) (hL : Lies w a l) (hn : l.length = len) (hb : ∀ k, 0 ≤ l.getD k 0 ∧ l.getD k 0 ≤ 255) (hm : len ≤ maxLen) :
    Calls Try.prog 6 #[.slice a len cap] w fun e w' => ∃ vn vt vx vi r un ut ux ui s, e = .returned (.tuple #[.agg #[vn, .int .i64 r.type, .int .i64 r.ttl, .int .i64 r.addr, vt, vx, vi], .agg #[un, .int .i64 s.type, .int .i64 s.ttl, .int .i64 s.addr, ut, ux, ui]]) ∧ DrawR w' vn vt vx vi r ∧ DrawR w' un ut ux ui s ∧ Below w.heap.size w w' := by
  obtain ⟨hsz, k0, r0⟩ := box2 w (.cells #[.slice none 0 0, .int .i64 0, .int .i64 0, .int .i64 0, .slice none 0 0, .slice none 0 0, .slice none 0 0] 28) #[.slice none 0 0, .int .i64 0, .int .i64 0, .int .i64 0, .slice none 0 0, .slice none 0 0, .slice none 0 0] 28
  have b0 := below2 w (.cells #[.slice none 0 0, .int .i64 0, .int .i64 0, .int .i64 0, .slice none 0 0, .slice none 0 0, .slice none 0 0] 28) (.cells #[.slice none 0 0, .int .i64 0, .int .i64 0, .int .i64 0, .slice none 0 0, .slice none 0 0, .slice none 0 0] 28)
  have HD := hide (drawRrSame_any (cap := cap) l (hL.below b0) hn hb hm)
  have KA := hide k0
  have KB := hide r0
  have zz := block_lt r0
  clear hL hn hb k0 r0 hsz hm
  go_enter Try.func6, Try.ntmps6
  go_wp2_with fail
  generalize (w.alloc (.cells #[.slice none 0 0, .int .i64 0, .int .i64 0, .int .i64 0, .slice none 0 0, .slice none 0 0, .slice none 0 0] 28)).alloc (.cells #[.slice none 0 0, .int .i64 0, .int .i64 0, .int .i64 0, .slice none 0 0, .slice none 0 0, .slice none 0 0] 28) = W at *
  refine (unhide HD).mono ?_
  rintro e w1 ⟨vn, vt, vx, vi, r, un, ut, ux, ui, s, rfl, h1, h2, b1⟩
  obtain ⟨x1, xc1, rfl, _⟩ := h1.hasR.name.form
  obtain ⟨x2, xc2, rfl, _⟩ := h1.hasR.to.form
  obtain ⟨x3, xc3, rfl, _⟩ := h1.hasR.text.form
  obtain ⟨x4, xc4, rfl, _⟩ := h1.hasR.nums.form
  obtain ⟨p1, pc1, rfl, _⟩ := h2.hasR.name.form
  obtain ⟨p2, pc2, rfl, _⟩ := h2.hasR.to.form
  obtain ⟨p3, pc3, rfl, _⟩ := h2.hasR.text.form
  obtain ⟨p4, pc4, rfl, _⟩ := h2.hasR.nums.form
  have bb := below_next b0 b1
  have k1 := block_kept b1 (unhide KA)
  have r1 := block_kept b1 (unhide KB)
  have z1 := b1.size
  obtain ⟨p0, p1', p2', p3', p4', p5, p6⟩ := cells7 k1
  obtain ⟨q0, q1, q2, q3, q4, q5, q6⟩ := frozen7 k1
  obtain ⟨d0, d1, d2, d3, d4, d5, d6⟩ := cells7 r1
  obtain ⟨f0, f1, f2, f3, f4, f5, f6⟩ := frozen7 r1
  have H1 := hide h1
  have H2 := hide h2
  have K1 := hide k1
  have R1 := hide r1
  clear h1 h2 k1 r1 HD KA KB b0 b1
  go_wp2_with fail
  clear p0 p1' p2' p3' p4' p5 p6 q0 q1 q2 q3 q4 q5 q6 d0 d1 d2 d3 d4 d5 d6 f0 f1 f2 f3 f4 f5 f6
  obtain ⟨R2, u2⟩ := set7 (c0 := .slice x1 r.name.length xc1) (c1 := .int .i64 r.type) (c2 := .int .i64 r.ttl) (c3 := .int .i64 r.addr) (c4 := .slice x2 r.to.length xc2) (c5 := .slice x3 r.text.length xc3) (c6 := .slice x4 r.nums.length xc4) (unhide K1)
  have R3 := u2.kept (unhide R1) (by omega)
  obtain ⟨R4, u4⟩ := set7 (c0 := .slice p1 s.name.length pc1) (c1 := .int .i64 s.type) (c2 := .int .i64 s.ttl) (c3 := .int .i64 s.addr) (c4 := .slice p2 s.to.length pc2) (c5 := .slice p3 s.text.length pc3) (c6 := .slice p4 s.nums.length pc4) R3
  have g2 := grown_sets7 w1 w.heap.size (c0 := .slice x1 r.name.length xc1) (c1 := .int .i64 r.type) (c2 := .int .i64 r.ttl) (c3 := .int .i64 r.addr) (c4 := .slice x2 r.to.length xc2) (c5 := .slice x3 r.text.length xc3) (c6 := .slice x4 r.nums.length xc4)
  have g4 := grown_sets7 (((((((w1.setCell ⟨w.heap.size, 0, none⟩ (.slice x1 r.name.length xc1)).setCell ⟨w.heap.size, 1, none⟩ (.int .i64 r.type)).setCell ⟨w.heap.size, 2, none⟩ (.int .i64 r.ttl)).setCell ⟨w.heap.size, 3, none⟩ (.int .i64 r.addr)).setCell ⟨w.heap.size, 4, none⟩ (.slice x2 r.to.length xc2)).setCell ⟨w.heap.size, 5, none⟩ (.slice x3 r.text.length xc3)).setCell ⟨w.heap.size, 6, none⟩ (.slice x4 r.nums.length xc4)) (w.heap.size + 1) (c0 := .slice p1 s.name.length pc1) (c1 := .int .i64 s.type) (c2 := .int .i64 s.ttl) (c3 := .int .i64 s.addr) (c4 := .slice p2 s.to.length pc2) (c5 := .slice p3 s.text.length pc3) (c6 := .slice p4 s.nums.length pc4)
  have R5 := u4.kept R2 (by omega)
  refine bodyPost_ret (results_cells2_row rfl _ _ w.heap.size (w.heap.size + 1) 28 28 #[.slice x1 r.name.length xc1, .int .i64 r.type, .int .i64 r.ttl, .int .i64 r.addr, .slice x2 r.to.length xc2, .slice x3 r.text.length xc3, .slice x4 r.nums.length xc4] #[.slice p1 s.name.length pc1, .int .i64 s.type, .int .i64 s.ttl, .int .i64 s.addr, .slice p2 s.to.length pc2, .slice p3 s.text.length pc3, .slice p4 s.nums.length pc4] (0, 0) (0, 0) _ _ rfl R5 rfl R4 Try.underlying28 rfl (by kernel_rfl) Try.underlying28 rfl (by kernel_rfl)) rfl ?_
  have zu := u2.size
  exact ⟨_, _, _, _, r, _, _, _, _, s, rfl, ((unhide H1).off (unhide K1) (by decide) (by decide) (by decide) g2).off R3 (by decide) (by decide) (by decide) g4, ((unhide H2).off (unhide K1) (by decide) (by decide) (by decide) g2).off R3 (by decide) (by decide) (by decide) g4, u4.below (u2.below bb (by omega)) (by omega)⟩
end Go.Proofs.Ytdghbcjlahjjdaa

namespace Go.Proofs.Ytdghbcjlahjjdaa
open Go.RowKit
set_option linter.unusedVariables false

set_option maxHeartbeats 400000 in
set_option maxRecDepth 100000 in
theorem same_has {v v' : Value} {l l' : List Int} {w : World} (h : Has w v l) (h' : Has w v' l') (hb : ∀ c ∈ l, 0 ≤ c ∧ c ≤ 255) (hb' : ∀ c ∈ l', 0 ≤ c ∧ c ≤ 255) :
    Calls Try.prog 34 #[v, v'] w fun e w' => e = .returned (.bool (decide (l = l'))) ∧ w = w' := by
  have hc := conv_has h
  have hc' := conv_has h'
  have hs := str_eq l l' hb hb'
  generalize decide (l = l') = d at *
  clear h h' hb hb'
  go_enter Try.func34, Try.ntmps34
  go_wp2
  go_ret
  exact ⟨rfl, rfl⟩

theorem same_own {B B' : Nat} {v v' : Value} {l l' : List Int} {w : World} (h : Own B 5 w v l) (h' : Own B' 5 w v' l') (hb : ∀ c ∈ l, 0 ≤ c ∧ c ≤ 255) (hb' : ∀ c ∈ l', 0 ≤ c ∧ c ≤ 255) :
    Calls Try.prog 34 #[v, v'] w fun e w' => e = .returned (.bool (decide (l = l'))) ∧ w = w' := same_has h.has h'.has hb hb'
end Go.Proofs.Ytdghbcjlahjjdaa
