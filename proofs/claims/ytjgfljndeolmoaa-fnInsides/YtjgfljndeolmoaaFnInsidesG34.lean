/-
  Contracts of slices.Clone at []int and of the program's copyAll at records.
-/
import Derived.Test.YtjgfljndeolmoaaFnInsidesG33
import Derived.Test.YtjgfljndeolmoaaFnInsidesG07
import Derived.Test.YtjgfljndeolmoaaFnInsidesG09
namespace Go.Proofs.Ytjgfljndeolmoaa
open Go.RowKit
set_option linter.unusedVariables false

/-- Is an operation a comparison? -/
def isEqlC : Op → Bool
 | .binOp .eql _ _ _ _ => true
 | _ => false
theorem list_eqC {P : Program} {w w' : World} {ops : Array Oper} {rest : List Oper} {o : Oper} {a : Act} {Q : Exit → Act → World → Prop} {v : Value} (hk : isEqlC o.op = true) (hgd : o.guard = none)
  (hrun : (execOp a.eval o).run P w = .ok (.value v) w') (h : wpList P ops Q rest (a.put o.dst v) w') : wpList P ops Q (o :: rest) a w := list_run hgd hrun h
set_option maxHeartbeats 1000000 in
set_option maxRecDepth 100000 in
theorem clone_has {v : Value} {l : List Int} {w : World} (h : HasI w v l) (hl : l.length ≤ 1048576) :
  Calls Try.prog 115 #[v] w fun e w' => ∃ u, e = .returned u ∧ OwnI w.heap.size 3 w' u l ∧ Below w.heap.size w w' := by
 rcases h with ⟨rfl, rfl⟩ | ⟨g, off, cap, rfl, hg, h1, h2, hc⟩
 ·go_enter Try.func115, Try.ntmps115
  go_wp2_with (refine list_eqC (v := .bool true) (w' := w) rfl rfl (by kernel_rfl) ?_)
  go_ret
  exact ⟨_, rfl, by simpa [OwnI] using World.ownsRow_nil w w.heap.size 3 1, Below.refl _ _⟩
 ·have b0 := below_alloc (w := w) (.cells #[] 3)
  have g0 := heap_alloc_new w (.cells #[] 3)
  have HI : Hid (HasI (w.alloc (.cells #[] 3)) (.slice (some ⟨g, off, none⟩) l.length cap) l) := hide (HasI.below (.inr ⟨g, off, cap, rfl, hg, h1, h2, hc⟩) b0)
  clear hc
  go_enter Try.func115, Try.ntmps115
  go_wp2_with (first | (refine list_eqC (v := .bool false) (w' := w) rfl rfl (by kernel_rfl) ?_) | (at_builtin; refine append_freshI rfl _ _ 32 3 rfl Try.underlying32 info_intC w.heap.size w.heap.size (Nat.le_refl _) g0 _ l rfl rfl (unhide HI) (by omega) ?_))
  intro v6 w6 o6 b6
  replace b6 : Below (w.alloc (.cells #[] 3)).heap.size (w.alloc (.cells #[] 3)) w6 := by
   rw [World.size_alloc]
   exact b6
  have O6 := hide o6
  have bb := below_next b0 b6
  obtain ⟨p6, q6, rfl, _⟩ := o6.lies
  clear o6 b6
  go_wp2_with fail
  go_ret
  exact ⟨_, rfl, unhide O6, bb⟩

theorem info_rrA : (Try.prog.info? 34).map (fun i => (i.zero, i.size, i.bytes)) = some (some (.agg #[.slice none 0 0, .int .i64 0, .int .i64 0, .int .i64 0, .slice none 0 0, .slice none 0 0, .slice none 0 0]), 7, 120) := by kernel_rfl
set_option maxHeartbeats 4000000 in
set_option maxRecDepth 100000 in
theorem copyAllR_own {v : Value} {l : List Rec} {w : World} (h : HasRs w v l) (h12 : l.length ≤ 1000) (hoks : ∀ i, i < l.length → ShortR (l.getD i recZ)) :
  Calls Try.prog 116 #[v, .func (Fn.func 47) #[] #[]] w fun e w' => ∃ x, e = .returned x ∧ RowO w.heap.size w'.heap.size 34 22 5 3 w' x l ∧ Below w.heap.size w w' := by
 obtain ⟨a, cap, rfl, _⟩ := h.form
 have HL := hide h
 have HOK := hide hoks
 have hT0 : l.take l.length = l := List.take_length
 clear h hoks
 generalize hm : l.length = m at *
 have HN := hide hm
 have HT := hide hT0
 clear hm hT0
 go_enter Try.func116, Try.ntmps116
 go_wp2_with fail
 go_loopw [5, 10] (fun v i wr => ∃ k : Nat, k ≤ m ∧ i = .int .i64 k ∧ RowO w.heap.size wr.heap.size 34 22 5 3 wr v (l.take k) ∧ Below w.heap.size w wr) (fun _ i _ => m - (intOf i).toNat)
 case atStart => exact ⟨0, Nat.zero_le _, rfl, by simpa using RowO.nil _ _ _ _ _ _ _, Below.refl _ _⟩
 case round =>
  obtain ⟨k, hk, rfl, hrow, hbw⟩ := hrel
  by_cases hlt : k < m
  ·have hkm : (k : Int) < m := by omega
   obtain ⟨g, off, rna, rnc, rta, rtc, rxa, rxc, ria, ric, rfl, hbl, hc, hu⟩ := ((unhide HL).below hbw).here (k := k) (by rw [unhide HN]; exact hlt)
   have hsh := unhide HOK k hlt
   have HST2 := hide (show l.take (k + 1) = l.take k ++ [l.getD k recZ] by rw [List.take_succ_eq_append_getElem (by rw [unhide HN]; exact hlt)]; simp [show k < l.length by rw [unhide HN]; exact hlt])
   have hlen : (l.take k).length ≤ k := by rw [List.length_take]; omega
   generalize l.getD k recZ = r at *
   generalize l.take k = lk at *
   obtain ⟨va, vc, rfl, _⟩ := hrow.form
   have ba := below_alloc (w := wr) (.cells #[.slice rna r.name.length rnc, .int .i64 r.type, .int .i64 r.ttl, .int .i64 r.addr, .slice rta r.to.length rtc, .slice rxa r.text.length rxc, .slice ria r.nums.length ric] 34)
   have kx := heap_alloc_new wr (.cells #[.slice rna r.name.length rnc, .int .i64 r.type, .int .i64 r.ttl, .int .i64 r.addr, .slice rta r.to.length rtc, .slice rxa r.text.length rxc, .slice ria r.nums.length ric] 34)
   have R2 := hide ((hrow.below ba).wide (Nat.le_refl _) ba.size)
   have HC := hide (copyRr_own (hu.below ba) hsh)
   have bb2 := below_next hbw ba
   obtain ⟨c0, c1, c2, c3, c4, c5, c6⟩ := range7 hc
   obtain ⟨x0, x1, x2, x3, x4, x5, x6⟩ := cells7 kx
   have z1 := hbw.size
   have z2 := ba.size
   clear hrow hu hc ba kx hbw hsh
   go_wp2_with fail
   clear c0 c1 c2 c3 c4 c5 c6 x0 x1 x2 x3 x4 x5 x6
   generalize wr.alloc (.cells #[.slice rna r.name.length rnc, .int .i64 r.type, .int .i64 r.ttl, .int .i64 r.addr, .slice rta r.to.length rtc, .slice rxa r.text.length rxc, .slice ria r.nums.length ric] 34) = w2 at *
   refine (unhide HC).mono ?_
   rintro e w3 ⟨un, ut, ux, ui, rfl, oR, b3⟩
   obtain ⟨una, unc, rfl, _⟩ := oR.hasR.name.form
   obtain ⟨uta, utc, rfl, _⟩ := oR.hasR.to.form
   obtain ⟨uxa, uxc, rfl, _⟩ := oR.hasR.text.form
   obtain ⟨uia, uic, rfl, _⟩ := oR.hasR.nums.form
   have b4 := below_alloc (w := w3) (.cells #[.slice una r.name.length unc, .int .i64 r.type, .int .i64 r.ttl, .int .i64 r.addr, .slice uta r.to.length utc, .slice uxa r.text.length uxc, .slice uia r.nums.length uic] 34)
   have g4 := heap_alloc_new w3 (.cells #[.slice una r.name.length unc, .int .i64 r.type, .int .i64 r.ttl, .int .i64 r.addr, .slice uta r.to.length utc, .slice uxa r.text.length uxc, .slice uia r.nums.length uic] 34)
   have row4 := ((unhide R2).below b3).below b4
   have OR4 := hide (oR.below b4)
   have bb4 := below_next (below_next bb2 b3) b4
   have z4 := b3.size
   have z5 := b4.size
   have ROW4 := hide row4
   obtain ⟨xs0, f0, g0, hx0, hq0, hh0⟩ := row4
   have zB := bb4.size
   clear oR b3 b4 HC R2 bb2 hq0 hh0
   go_wp2_with (at_builtin; refine append_rec' rfl _ _ 23 34 rfl Try.underlying23 _ info_rrA rfl w.heap.size (.slice va lk.length vc) lk.length rfl w3.heap.size [.slice una r.name.length unc, .int .i64 r.type, .int .i64 r.ttl, .int .i64 r.addr, .slice uta r.to.length utc, .slice uxa r.text.length uxc, .slice uia r.nums.length uic] rfl ⟨xs0, hx0⟩ g4 rfl (by simp [Value.oneCell']) (by omega) (by simp; omega) ?_)
   intro v5 w5 h5 g5 hw5
   have row5 := RowO.snoc (unhide ROW4) (C := w2.heap.size) (D := w3.heap.size) (by omega) z5 (unhide OR4) (by omega) g5 (by rw [World.size_alloc]; exact hw5) h5
   rw [← unhide HST2] at row5
   have bb5 := bb4.grown g5 bb4.size (fun j e => (World.ownsRow.lt hx0 j e).1)
   clear hx0 h5 g5 hw5 OR4 ROW4 g4 bb4
   go_wp2
   exact ⟨⟨k + 1, by omega, by go_num, row5, bb5⟩, by simp [intOf]; omega⟩
  ·obtain rfl : k = m := by omega
   have hT := unhide HT
   rw [hT] at hrow
   clear hT
   go_wp2
   go_ret
   exact ⟨_, rfl, hrow, hbw⟩
end Go.Proofs.Ytjgfljndeolmoaa
