/-
  Contract of the program's ZoneOk. Plain facts: the book of a zone's records has a name just if the records have. No program is named here.
-/
import Derived.Test.YtdghbcjlahjjdaaHasNameG33
import Derived.Test.YtdghbcjlahjjdaaHasNameG16
import Derived.Deep.RegionHeld3
import Derived.Test.YtdghbcjlahjjdaaHasNameG31
import Derived.Test.YtdghbcjlahjjdaaHasNameG12
import Derived.Test.YtdghbcjlahjjdaaHasNameG15
import Derived.Laws.BytesArg
namespace Go.Proofs.Ytdghbcjlahjjdaa
open Go.RowKit
set_option linter.unusedVariables false

theorem one_count (n : Nat) : (((n : Nat) : Int) == 1) = decide (n = 1) := by
  rw [Bool.eq_iff_iff, beq_iff_eq, decide_eq_true_iff]
  omega

set_option maxHeartbeats 1600000 in
set_option maxRecDepth 100000 in
theorem implZoneOk_has {vo vr : Value} {o : List (List Int)} {rs : List Rec} {w : World} (h : HasZ w vo vr o rs) :
    Calls Try.prog 40 #[.agg #[vo, vr]] w fun e w' => e = .returned (.bool (zoneOk o rs)) ∧ Below w.heap.size w w' := by
  obtain ⟨oa, oc, rfl, _⟩ := h.name.form
  obtain ⟨ra, rc, rfl, hrl, hrm⟩ := h.recs.form
  have b0 := below_alloc (w := w) (.cells #[.slice oa o.length oc, .slice ra rs.length rc] 40)
  have k0 := heap_alloc_new w (.cells #[.slice oa o.length oc, .slice ra rs.length rc] 40)
  have H0 := hide (h.below b0)
  have K0 := hide k0
  have NO := implNameOk_has (h.below b0).name
  clear h k0 hrl hrm
  cases hok : nameOk o with
  | false =>
    rw [zoneOk_name hok]
    rw [hok] at NO
    replace NO := hide NO
    clear hok
    go_enter Try.func40, Try.ntmps40
    go_wp2_with fail
    refine (unhide NO).mono ?_
    rintro e w1 ⟨rfl, b1⟩
    go_wp2_with fail
    go_ret
    exact ⟨rfl, below_next b0 b1⟩
  | true =>
    rw [hok] at NO
    replace NO := hide NO
    by_cases h60 : rs.length ≤ 60
    · generalize hzz : zoneOk o rs = ZZ
      have HZZ := hide hzz
      have HOK := hide hok
      clear hzz hok
      go_enter Try.func40, Try.ntmps40
      go_wp2_with fail
      generalize w.alloc (.cells #[.slice oa o.length oc, .slice ra rs.length rc] 40) = W at *
      refine (unhide NO).mono ?_
      rintro e w1 ⟨rfl, b1⟩
      have K1 := hide (block_kept b1 (unhide K0))
      have H1 := hide ((unhide H0).below b1)
      have bb1 := below_next b0 b1
      obtain ⟨d0, d1⟩ := cells2 (unhide K1)
      clear NO K0 H0 b0 b1
      generalize hn : rs.length = m at *
      have HN := hide hn
      clear hn
      have h60' : ¬ ((60 : Int) < m) := by omega
      go_wp2_with fail
      clear d0 d1
      go_loopw [3, 19] (fun s i wr => ∃ (k : Nat), k ≤ m ∧ i = .int .i64 k ∧ s = .int .i64 (soas rs k : Nat) ∧ Hid (∀ j, j < k → goodI o rs j = true) ∧ Below w1.heap.size w1 wr) (fun _ i _ => m - (intOf i).toNat)
      case atStart => exact ⟨0, Nat.zero_le _, rfl, rfl, hide (fun j hj => absurd hj (Nat.not_lt_zero _)), Below.refl _ _⟩
      case round =>
        obtain ⟨k, hk, rfl, rfl, hall, hb⟩ := hrel
        have hsk := soas_le rs k
        by_cases hlt : k < m
        · obtain ⟨b, off, na, nc, ta, tc, xa, xc, ia, ic, rfl, hbl, hc, hu⟩ := ((unhide H1).below hb).recs.here (k := k) (by rw [unhide HN]; exact hlt)
          have K2 := hide (block_kept hb (unhide K1))
          have H2 := hide ((unhide H1).below hb)
          have bb2 := below_next bb1 hb
          have hgood : goodI o rs k = (inZone o (rs.getD k recZ) && (decide (k = 0) || follows (rs.getD (k - 1) recZ) (rs.getD k recZ))) := rfl
          have HGOOD := hide hgood
          have hsoa : soas rs (k + 1) = soas rs k + if (rs.getD k recZ).type = 6 then 1 else 0 := rfl
          have HSOA := hide hsoa
          clear hgood hsoa
          generalize hrk : rs.getD k recZ = rk at *
          have HRK := hide hrk
          clear hrk
          have b3 := below_alloc (w := wr) (.cells #[.slice na rk.name.length nc, .int .i64 rk.type, .int .i64 rk.ttl, .int .i64 rk.addr, .slice ta rk.to.length tc, .slice xa rk.text.length xc, .slice ia rk.nums.length ic] 28)
          have X3 := heap_alloc_new wr (.cells #[.slice na rk.name.length nc, .int .i64 rk.type, .int .i64 rk.ttl, .int .i64 rk.addr, .slice ta rk.to.length tc, .slice xa rk.text.length xc, .slice ia rk.nums.length ic] 28)
          have bd := below_drew (w := wr.alloc (.cells #[.slice na rk.name.length nc, .int .i64 rk.type, .int .i64 rk.ttl, .int .i64 rk.addr, .slice ta rk.to.length tc, .slice xa rk.text.length xc, .slice ia rk.nums.length ic] 28))
          have b4 := below_next b3 bd
          have X4 := hide (block_kept bd X3)
          have K4 := hide (block_kept b4 (unhide K2))
          have H4 := hide ((unhide H2).below b4)
          have U4 := hide (hu.below b4)
          have bb4 := below_next bb2 b4
          have bw4 := below_next hb b4
          have z4 := b4.size
          obtain ⟨c0, c1, c2, c3, c4, c5, c6⟩ := range7 hc
          clear b3 X3 bd b4 hu hc K2 H2 hb
          cases hin : inZone o rk with
          | false =>
            have hbad : goodI o rs k = false := by rw [unhide HGOOD, hin, Bool.false_and]
            have hz := zoneOk_bad (by rw [unhide HN]; exact hlt) hbad
            rw [unhide HZZ] at hz
            subst hz
            have MB := mayBeIn_has (unhide H4).name (unhide U4)
            rw [hin] at MB
            replace MB := hide MB
            clear hbad hin HGOOD HZZ HSOA
            go_wp2_with fail
            clear c0 c1 c2 c3 c4 c5 c6
            refine wp_region_held_drew (S := (fun w' => (w'.cell? ⟨w.heap.size, 0, none⟩ = some (.slice oa o.length oc) ∧ w'.cell? ⟨w.heap.size, 1, none⟩ = some (.slice (some ⟨b, off, none⟩) m rc)) ∧ (w'.cell? ⟨wr.heap.size, 0, none⟩ = some (.slice na rk.name.length nc) ∧ w'.cell? ⟨wr.heap.size, 1, none⟩ = some (.int .i64 rk.type) ∧ w'.cell? ⟨wr.heap.size, 2, none⟩ = some (.int .i64 rk.ttl) ∧ w'.cell? ⟨wr.heap.size, 3, none⟩ = some (.int .i64 rk.addr) ∧ w'.cell? ⟨wr.heap.size, 4, none⟩ = some (.slice ta rk.to.length tc) ∧ w'.cell? ⟨wr.heap.size, 5, none⟩ = some (.slice xa rk.text.length xc) ∧ w'.cell? ⟨wr.heap.size, 6, none⟩ = some (.slice ia rk.nums.length ic)))) (by kernel_rfl) ⟨cells2 (unhide K4), cells7 (unhide X4)⟩ (fun hHeld => ?_)
            show wpAnyH _ _ _ _ _ 20 #[false, false, false, false, false, false, false, false, false, false, false, false, false, false, false, false, false, false, false, false] _ _
            refine wpAnyH_take (i := 0) (oi := { dst := some 24, op := Op.fieldAddr 40 (Operand.tmp 1) 0, type := 0, pos := "l05_zone.go:166", after := #[], guard := none }) (v := ?_) rfl (by kernel_rfl) (by kernel_rfl) (by kernel_rfl) (fun _ _ _ h => h) (Or.inl ⟨by rfl, ?_⟩) hHeld ?_
            rotate_left
            · (intro w hSw; (try dsimp only at hSw); go_simp <;> with_reducible rfl)
            try simp only [Act.put, List.setIfInBounds_toArray, List.set_cons_zero, List.set_cons_succ]
            refine wpAnyH_take (i := 1) (oi := { dst := some 25, op := Op.load 25 (Operand.tmp 24), type := 25, pos := "l05_zone.go:166", after := #[{ on := 0, ground := Ground.data }], guard := none }) (v := ?_) rfl (by kernel_rfl) (by kernel_rfl) (by kernel_rfl) (fun _ _ _ h => h) (Or.inl ⟨by rfl, ?_⟩) hHeld ?_
            rotate_left
            · (intro w hSw; (try dsimp only at hSw); go_simp <;> with_reducible rfl)
            try simp only [Act.put, List.setIfInBounds_toArray, List.set_cons_zero, List.set_cons_succ]
            refine wpAnyH_take (i := 2) (oi := { dst := some 26, op := Op.load 28 (Operand.tmp 5), type := 28, pos := "l05_zone.go:166", after := #[], guard := none }) (v := ?_) rfl (by kernel_rfl) (by kernel_rfl) (by kernel_rfl) (fun _ _ _ h => h) (Or.inl ⟨by rfl, ?_⟩) hHeld ?_
            rotate_left
            · (intro w hSw; (try dsimp only at hSw); go_simp <;> with_reducible rfl)
            try simp only [Act.put, List.setIfInBounds_toArray, List.set_cons_zero, List.set_cons_succ]
            refine wpAnyH_ready (rs := [3]) (by kernel_rfl) (by simp) (AllReadyH.cons (o := { dst := some 27, op := Op.call { callee := Callee.value (Operand.func 79), args := #[Operand.tmp 25, Operand.tmp 26], argTypes := #[25, 28] }, type := 4, pos := "l05_zone.go:166", after := #[{ on := 1, ground := Ground.data }, { on := 2, ground := Ground.data }], guard := none }) rfl (fun K hK => ?_) AllReadyH.nil)
            have HK := hide hK
            clear hK hHeld
            go_simp
            refine (unhide MB).mono ?_
            rintro e w5 ⟨rfl, b5⟩
            go_simp
            refine (unhide HK).out _ _ ⟨cells2 (block_kept b5 (unhide K4)), cells7 (block_kept b5 (unhide X4))⟩ (fun hHeld => ?_)
            clear HK K
            try simp only [List.setIfInBounds_toArray, List.set_cons_zero, List.set_cons_succ]
            refine wpAnyH_take (i := 4) (oi := { dst := some 28, op := Op.unOp UnOp.not 4 (Operand.tmp 27), type := 4, pos := "l05_zone.go:166", after := #[{ on := 3, ground := Ground.data }], guard := none }) (v := ?_) rfl (by kernel_rfl) (by kernel_rfl) (by kernel_rfl) (fun _ _ _ h => h) (Or.inl ⟨by rfl, ?_⟩) hHeld ?_
            rotate_left
            · (intro w hSw; (try dsimp only at hSw); go_simp <;> with_reducible rfl)
            try simp only [Act.put, List.setIfInBounds_toArray, List.set_cons_zero, List.set_cons_succ]
            refine wpAnyH_take (i := 5) (oi := { dst := some 29, op := Op.move (Operand.tmp 28), type := 4, pos := "l05_zone.go:166", after := #[{ on := 4, ground := Ground.data }, { on := 3, ground := Ground.chain }], guard := none }) (v := ?_) rfl (by kernel_rfl) (by kernel_rfl) (by kernel_rfl) (fun _ _ _ h => h) (Or.inl ⟨by rfl, ?_⟩) hHeld ?_
            rotate_left
            · (intro w hSw; (try dsimp only at hSw); go_simp <;> with_reducible rfl)
            try simp only [Act.put, List.setIfInBounds_toArray, List.set_cons_zero, List.set_cons_succ]
            refine wpAnyH_take (i := 6) (oi := { dst := some 30, op := Op.move (Operand.tmp 4), type := 3, pos := "l05_zone.go:166", after := #[{ on := 5, ground := Ground.guard }], guard := some (5, false) }) (v := undef) rfl (by kernel_rfl) (by kernel_rfl) (by kernel_rfl) (fun _ _ _ h => h) (Or.inr ⟨by rfl, rfl⟩) hHeld ?_
            try simp only [Act.put, List.setIfInBounds_toArray, List.set_cons_zero, List.set_cons_succ]
            refine wpAnyH_take (i := 7) (oi := { dst := some 31, op := Op.binOp BinOp.gtr 3 (Operand.tmp 30) (Operand.const (Value.int IntKind.i64 0)) 3, type := 4, pos := "l05_zone.go:166", after := #[{ on := 6, ground := Ground.data }, { on := 5, ground := Ground.guard }], guard := some (5, false) }) (v := undef) rfl (by kernel_rfl) (by kernel_rfl) (by kernel_rfl) (fun _ _ _ h => h) (Or.inr ⟨by rfl, rfl⟩) hHeld ?_
            try simp only [Act.put, List.setIfInBounds_toArray, List.set_cons_zero, List.set_cons_succ]
            refine wpAnyH_take (i := 8) (oi := { dst := some 32, op := Op.move (Operand.tmp 31), type := 4, pos := "l05_zone.go:166", after := #[{ on := 7, ground := Ground.data }, { on := 5, ground := Ground.chain }, { on := 5, ground := Ground.guard }], guard := some (5, false) }) (v := undef) rfl (by kernel_rfl) (by kernel_rfl) (by kernel_rfl) (fun _ _ _ h => h) (Or.inr ⟨by rfl, rfl⟩) hHeld ?_
            try simp only [Act.put, List.setIfInBounds_toArray, List.set_cons_zero, List.set_cons_succ]
            refine wpAnyH_take (i := 9) (oi := { dst := some 33, op := Op.fieldAddr 40 (Operand.tmp 1) 1, type := 0, pos := "l05_zone.go:166", after := #[{ on := 8, ground := Ground.guard }], guard := some (8, true) }) (v := undef) rfl (by kernel_rfl) (by kernel_rfl) (by kernel_rfl) (fun _ _ _ h => h) (Or.inr ⟨by rfl, rfl⟩) hHeld ?_
            try simp only [Act.put, List.setIfInBounds_toArray, List.set_cons_zero, List.set_cons_succ]
            refine wpAnyH_take (i := 10) (oi := { dst := some 34, op := Op.load 38 (Operand.tmp 33), type := 38, pos := "l05_zone.go:166", after := #[{ on := 9, ground := Ground.data }, { on := 8, ground := Ground.guard }], guard := some (8, true) }) (v := undef) rfl (by kernel_rfl) (by kernel_rfl) (by kernel_rfl) (fun _ _ _ h => h) (Or.inr ⟨by rfl, rfl⟩) hHeld ?_
            try simp only [Act.put, List.setIfInBounds_toArray, List.set_cons_zero, List.set_cons_succ]
            refine wpAnyH_take (i := 11) (oi := { dst := some 35, op := Op.move (Operand.tmp 4), type := 3, pos := "l05_zone.go:166", after := #[{ on := 8, ground := Ground.guard }], guard := some (8, true) }) (v := undef) rfl (by kernel_rfl) (by kernel_rfl) (by kernel_rfl) (fun _ _ _ h => h) (Or.inr ⟨by rfl, rfl⟩) hHeld ?_
            try simp only [Act.put, List.setIfInBounds_toArray, List.set_cons_zero, List.set_cons_succ]
            refine wpAnyH_take (i := 12) (oi := { dst := some 36, op := Op.binOp BinOp.sub 3 (Operand.tmp 35) (Operand.const (Value.int IntKind.i64 1)) 3, type := 3, pos := "l05_zone.go:166", after := #[{ on := 11, ground := Ground.data }, { on := 8, ground := Ground.guard }], guard := some (8, true) }) (v := undef) rfl (by kernel_rfl) (by kernel_rfl) (by kernel_rfl) (fun _ _ _ h => h) (Or.inr ⟨by rfl, rfl⟩) hHeld ?_
            try simp only [Act.put, List.setIfInBounds_toArray, List.set_cons_zero, List.set_cons_succ]
            refine wpAnyH_take (i := 13) (oi := { dst := some 37, op := Op.indexAddr 38 (Operand.tmp 34) (Operand.tmp 36), type := 0, pos := "l05_zone.go:166", after := #[{ on := 10, ground := Ground.data }, { on := 12, ground := Ground.data }, { on := 8, ground := Ground.guard }], guard := some (8, true) }) (v := undef) rfl (by kernel_rfl) (by kernel_rfl) (by kernel_rfl) (fun _ _ _ h => h) (Or.inr ⟨by rfl, rfl⟩) hHeld ?_
            try simp only [Act.put, List.setIfInBounds_toArray, List.set_cons_zero, List.set_cons_succ]
            refine wpAnyH_take (i := 14) (oi := { dst := some 38, op := Op.load 28 (Operand.tmp 37), type := 28, pos := "l05_zone.go:166", after := #[{ on := 13, ground := Ground.data }, { on := 8, ground := Ground.guard }], guard := some (8, true) }) (v := undef) rfl (by kernel_rfl) (by kernel_rfl) (by kernel_rfl) (fun _ _ _ h => h) (Or.inr ⟨by rfl, rfl⟩) hHeld ?_
            try simp only [Act.put, List.setIfInBounds_toArray, List.set_cons_zero, List.set_cons_succ]
            refine wpAnyH_take (i := 15) (oi := { dst := some 39, op := Op.load 28 (Operand.tmp 5), type := 28, pos := "l05_zone.go:166", after := #[{ on := 8, ground := Ground.guard }], guard := some (8, true) }) (v := undef) rfl (by kernel_rfl) (by kernel_rfl) (by kernel_rfl) (fun _ _ _ h => h) (Or.inr ⟨by rfl, rfl⟩) hHeld ?_
            try simp only [Act.put, List.setIfInBounds_toArray, List.set_cons_zero, List.set_cons_succ]
            refine wpAnyH_take (i := 16) (oi := { dst := some 40, op := Op.call { callee := Callee.value (Operand.func 80), args := #[Operand.tmp 38, Operand.tmp 39], argTypes := #[28, 28] }, type := 4, pos := "l05_zone.go:166", after := #[{ on := 14, ground := Ground.data }, { on := 15, ground := Ground.data }, { on := 8, ground := Ground.chain }, { on := 8, ground := Ground.guard }], guard := some (8, true) }) (v := undef) rfl (by kernel_rfl) (by kernel_rfl) (by kernel_rfl) (fun _ _ _ h => h) (Or.inr ⟨by rfl, rfl⟩) hHeld ?_
            try simp only [Act.put, List.setIfInBounds_toArray, List.set_cons_zero, List.set_cons_succ]
            refine wpAnyH_take (i := 17) (oi := { dst := some 41, op := Op.unOp UnOp.not 4 (Operand.tmp 40), type := 4, pos := "l05_zone.go:166", after := #[{ on := 16, ground := Ground.data }, { on := 8, ground := Ground.guard }], guard := some (8, true) }) (v := undef) rfl (by kernel_rfl) (by kernel_rfl) (by kernel_rfl) (fun _ _ _ h => h) (Or.inr ⟨by rfl, rfl⟩) hHeld ?_
            try simp only [Act.put, List.setIfInBounds_toArray, List.set_cons_zero, List.set_cons_succ]
            refine wpAnyH_take (i := 18) (oi := { dst := some 42, op := Op.pick (Operand.tmp 32) (Operand.tmp 41) (Operand.const (Value.bool false)), type := 4, pos := "l05_zone.go:166", after := #[{ on := 8, ground := Ground.data }, { on := 17, ground := Ground.data }, { on := 5, ground := Ground.guard }], guard := some (5, false) }) (v := undef) rfl (by kernel_rfl) (by kernel_rfl) (by kernel_rfl) (fun _ _ _ h => h) (Or.inr ⟨by rfl, rfl⟩) hHeld ?_
            try simp only [Act.put, List.setIfInBounds_toArray, List.set_cons_zero, List.set_cons_succ]
            refine wpAnyH_take (i := 19) (oi := { dst := some 43, op := Op.pick (Operand.tmp 29) (Operand.const (Value.bool true)) (Operand.tmp 42), type := 4, pos := "l05_zone.go:166", after := #[{ on := 5, ground := Ground.data }, { on := 18, ground := Ground.data }], guard := none }) (v := ?_) rfl (by kernel_rfl) (by kernel_rfl) (by kernel_rfl) (fun _ _ _ h => h) (Or.inl ⟨by rfl, ?_⟩) hHeld ?_
            rotate_left
            · (intro w hSw; (try dsimp only at hSw); go_simp <;> with_reducible rfl)
            try simp only [Act.put, List.setIfInBounds_toArray, List.set_cons_zero, List.set_cons_succ]
            refine wpAnyH_done (by kernel_rfl) ?_ _
            clear hHeld
            go_wp2_with fail
            go_ret
            exact ⟨rfl, below_next bb4 b5⟩
          | true =>
            have MB := mayBeIn_has (unhide H4).name (unhide U4)
            rw [hin] at MB
            replace MB := hide MB
            have hstep : ∀ (hg : goodI o rs k = true), ∀ j, j < k + 1 → goodI o rs j = true := fun hg j hj => by
              by_cases e : j = k
              · subst e; exact hg
              · exact unhide hall j (by omega)
            have HSTEP := hide hstep
            clear hstep
            by_cases hk0 : k = 0
            · have hgd : goodI o rs k = true := by rw [unhide HGOOD, hin, Bool.true_and, decide_eq_true hk0, Bool.true_or]
              have HGD := hide hgd
              clear hgd hin HGOOD
              subst hk0
              simp only [Nat.zero_mul, Nat.add_zero] at c0 c1 c2 c3 c4 c5 c6
              go_wp2_with fail
              clear c0 c1 c2 c3 c4 c5 c6
              refine wp_region_held_drew (S := (fun w' => (w'.cell? ⟨w.heap.size, 0, none⟩ = some (.slice oa o.length oc) ∧ w'.cell? ⟨w.heap.size, 1, none⟩ = some (.slice (some ⟨b, off, none⟩) m rc)) ∧ (w'.cell? ⟨wr.heap.size, 0, none⟩ = some (.slice na rk.name.length nc) ∧ w'.cell? ⟨wr.heap.size, 1, none⟩ = some (.int .i64 rk.type) ∧ w'.cell? ⟨wr.heap.size, 2, none⟩ = some (.int .i64 rk.ttl) ∧ w'.cell? ⟨wr.heap.size, 3, none⟩ = some (.int .i64 rk.addr) ∧ w'.cell? ⟨wr.heap.size, 4, none⟩ = some (.slice ta rk.to.length tc) ∧ w'.cell? ⟨wr.heap.size, 5, none⟩ = some (.slice xa rk.text.length xc) ∧ w'.cell? ⟨wr.heap.size, 6, none⟩ = some (.slice ia rk.nums.length ic)))) (by kernel_rfl) ⟨cells2 (unhide K4), cells7 (unhide X4)⟩ (fun hHeld => ?_)
              show wpAnyH _ _ _ _ _ 20 #[false, false, false, false, false, false, false, false, false, false, false, false, false, false, false, false, false, false, false, false] _ _
              refine wpAnyH_take (i := 0) (oi := { dst := some 24, op := Op.fieldAddr 40 (Operand.tmp 1) 0, type := 0, pos := "l05_zone.go:166", after := #[], guard := none }) (v := ?_) rfl (by kernel_rfl) (by kernel_rfl) (by kernel_rfl) (fun _ _ _ h => h) (Or.inl ⟨by rfl, ?_⟩) hHeld ?_
              rotate_left
              · (intro w hSw; (try dsimp only at hSw); go_simp <;> with_reducible rfl)
              try simp only [Act.put, List.setIfInBounds_toArray, List.set_cons_zero, List.set_cons_succ]
              refine wpAnyH_take (i := 1) (oi := { dst := some 25, op := Op.load 25 (Operand.tmp 24), type := 25, pos := "l05_zone.go:166", after := #[{ on := 0, ground := Ground.data }], guard := none }) (v := ?_) rfl (by kernel_rfl) (by kernel_rfl) (by kernel_rfl) (fun _ _ _ h => h) (Or.inl ⟨by rfl, ?_⟩) hHeld ?_
              rotate_left
              · (intro w hSw; (try dsimp only at hSw); go_simp <;> with_reducible rfl)
              try simp only [Act.put, List.setIfInBounds_toArray, List.set_cons_zero, List.set_cons_succ]
              refine wpAnyH_take (i := 2) (oi := { dst := some 26, op := Op.load 28 (Operand.tmp 5), type := 28, pos := "l05_zone.go:166", after := #[], guard := none }) (v := ?_) rfl (by kernel_rfl) (by kernel_rfl) (by kernel_rfl) (fun _ _ _ h => h) (Or.inl ⟨by rfl, ?_⟩) hHeld ?_
              rotate_left
              · (intro w hSw; (try dsimp only at hSw); go_simp <;> with_reducible rfl)
              try simp only [Act.put, List.setIfInBounds_toArray, List.set_cons_zero, List.set_cons_succ]
              refine wpAnyH_ready (rs := [3]) (by kernel_rfl) (by simp) (AllReadyH.cons (o := { dst := some 27, op := Op.call { callee := Callee.value (Operand.func 79), args := #[Operand.tmp 25, Operand.tmp 26], argTypes := #[25, 28] }, type := 4, pos := "l05_zone.go:166", after := #[{ on := 1, ground := Ground.data }, { on := 2, ground := Ground.data }], guard := none }) rfl (fun K hK => ?_) AllReadyH.nil)
              have HK := hide hK
              clear hK hHeld
              go_simp
              refine (unhide MB).mono ?_
              rintro e w5 ⟨rfl, b5⟩
              go_simp
              refine (unhide HK).out _ _ ⟨cells2 (block_kept b5 (unhide K4)), cells7 (block_kept b5 (unhide X4))⟩ (fun hHeld => ?_)
              clear HK K
              try simp only [List.setIfInBounds_toArray, List.set_cons_zero, List.set_cons_succ]
              refine wpAnyH_take (i := 4) (oi := { dst := some 28, op := Op.unOp UnOp.not 4 (Operand.tmp 27), type := 4, pos := "l05_zone.go:166", after := #[{ on := 3, ground := Ground.data }], guard := none }) (v := ?_) rfl (by kernel_rfl) (by kernel_rfl) (by kernel_rfl) (fun _ _ _ h => h) (Or.inl ⟨by rfl, ?_⟩) hHeld ?_
              rotate_left
              · (intro w hSw; (try dsimp only at hSw); go_simp <;> with_reducible rfl)
              try simp only [Act.put, List.setIfInBounds_toArray, List.set_cons_zero, List.set_cons_succ]
              refine wpAnyH_take (i := 5) (oi := { dst := some 29, op := Op.move (Operand.tmp 28), type := 4, pos := "l05_zone.go:166", after := #[{ on := 4, ground := Ground.data }, { on := 3, ground := Ground.chain }], guard := none }) (v := ?_) rfl (by kernel_rfl) (by kernel_rfl) (by kernel_rfl) (fun _ _ _ h => h) (Or.inl ⟨by rfl, ?_⟩) hHeld ?_
              rotate_left
              · (intro w hSw; (try dsimp only at hSw); go_simp <;> with_reducible rfl)
              try simp only [Act.put, List.setIfInBounds_toArray, List.set_cons_zero, List.set_cons_succ]
              refine wpAnyH_take (i := 6) (oi := { dst := some 30, op := Op.move (Operand.tmp 4), type := 3, pos := "l05_zone.go:166", after := #[{ on := 5, ground := Ground.guard }], guard := some (5, false) }) (v := .int .i64 0) rfl (by kernel_rfl) (by kernel_rfl) (by kernel_rfl) (fun _ _ _ h => h) (Or.inl ⟨by rfl, ?_⟩) hHeld ?_
              · (intro w hSw; (try dsimp only at hSw); go_simp)
              try simp only [Act.put, List.setIfInBounds_toArray, List.set_cons_zero, List.set_cons_succ]
              refine wpAnyH_take (i := 7) (oi := { dst := some 31, op := Op.binOp BinOp.gtr 3 (Operand.tmp 30) (Operand.const (Value.int IntKind.i64 0)) 3, type := 4, pos := "l05_zone.go:166", after := #[{ on := 6, ground := Ground.data }, { on := 5, ground := Ground.guard }], guard := some (5, false) }) (v := .bool false) rfl (by kernel_rfl) (by kernel_rfl) (by kernel_rfl) (fun _ _ _ h => h) (Or.inl ⟨by rfl, ?_⟩) hHeld ?_
              · (intro w hSw; (try dsimp only at hSw); go_simp)
              try simp only [Act.put, List.setIfInBounds_toArray, List.set_cons_zero, List.set_cons_succ]
              refine wpAnyH_take (i := 8) (oi := { dst := some 32, op := Op.move (Operand.tmp 31), type := 4, pos := "l05_zone.go:166", after := #[{ on := 7, ground := Ground.data }, { on := 5, ground := Ground.chain }, { on := 5, ground := Ground.guard }], guard := some (5, false) }) (v := .bool false) rfl (by kernel_rfl) (by kernel_rfl) (by kernel_rfl) (fun _ _ _ h => h) (Or.inl ⟨by rfl, ?_⟩) hHeld ?_
              · (intro w hSw; (try dsimp only at hSw); go_simp)
              try simp only [Act.put, List.setIfInBounds_toArray, List.set_cons_zero, List.set_cons_succ]
              refine wpAnyH_take (i := 9) (oi := { dst := some 33, op := Op.fieldAddr 40 (Operand.tmp 1) 1, type := 0, pos := "l05_zone.go:166", after := #[{ on := 8, ground := Ground.guard }], guard := some (8, true) }) (v := undef) rfl (by kernel_rfl) (by kernel_rfl) (by kernel_rfl) (fun _ _ _ h => h) (Or.inr ⟨by rfl, rfl⟩) hHeld ?_
              try simp only [Act.put, List.setIfInBounds_toArray, List.set_cons_zero, List.set_cons_succ]
              refine wpAnyH_take (i := 10) (oi := { dst := some 34, op := Op.load 38 (Operand.tmp 33), type := 38, pos := "l05_zone.go:166", after := #[{ on := 9, ground := Ground.data }, { on := 8, ground := Ground.guard }], guard := some (8, true) }) (v := undef) rfl (by kernel_rfl) (by kernel_rfl) (by kernel_rfl) (fun _ _ _ h => h) (Or.inr ⟨by rfl, rfl⟩) hHeld ?_
              try simp only [Act.put, List.setIfInBounds_toArray, List.set_cons_zero, List.set_cons_succ]
              refine wpAnyH_take (i := 11) (oi := { dst := some 35, op := Op.move (Operand.tmp 4), type := 3, pos := "l05_zone.go:166", after := #[{ on := 8, ground := Ground.guard }], guard := some (8, true) }) (v := undef) rfl (by kernel_rfl) (by kernel_rfl) (by kernel_rfl) (fun _ _ _ h => h) (Or.inr ⟨by rfl, rfl⟩) hHeld ?_
              try simp only [Act.put, List.setIfInBounds_toArray, List.set_cons_zero, List.set_cons_succ]
              refine wpAnyH_take (i := 12) (oi := { dst := some 36, op := Op.binOp BinOp.sub 3 (Operand.tmp 35) (Operand.const (Value.int IntKind.i64 1)) 3, type := 3, pos := "l05_zone.go:166", after := #[{ on := 11, ground := Ground.data }, { on := 8, ground := Ground.guard }], guard := some (8, true) }) (v := undef) rfl (by kernel_rfl) (by kernel_rfl) (by kernel_rfl) (fun _ _ _ h => h) (Or.inr ⟨by rfl, rfl⟩) hHeld ?_
              try simp only [Act.put, List.setIfInBounds_toArray, List.set_cons_zero, List.set_cons_succ]
              refine wpAnyH_take (i := 13) (oi := { dst := some 37, op := Op.indexAddr 38 (Operand.tmp 34) (Operand.tmp 36), type := 0, pos := "l05_zone.go:166", after := #[{ on := 10, ground := Ground.data }, { on := 12, ground := Ground.data }, { on := 8, ground := Ground.guard }], guard := some (8, true) }) (v := undef) rfl (by kernel_rfl) (by kernel_rfl) (by kernel_rfl) (fun _ _ _ h => h) (Or.inr ⟨by rfl, rfl⟩) hHeld ?_
              try simp only [Act.put, List.setIfInBounds_toArray, List.set_cons_zero, List.set_cons_succ]
              refine wpAnyH_take (i := 14) (oi := { dst := some 38, op := Op.load 28 (Operand.tmp 37), type := 28, pos := "l05_zone.go:166", after := #[{ on := 13, ground := Ground.data }, { on := 8, ground := Ground.guard }], guard := some (8, true) }) (v := undef) rfl (by kernel_rfl) (by kernel_rfl) (by kernel_rfl) (fun _ _ _ h => h) (Or.inr ⟨by rfl, rfl⟩) hHeld ?_
              try simp only [Act.put, List.setIfInBounds_toArray, List.set_cons_zero, List.set_cons_succ]
              refine wpAnyH_take (i := 15) (oi := { dst := some 39, op := Op.load 28 (Operand.tmp 5), type := 28, pos := "l05_zone.go:166", after := #[{ on := 8, ground := Ground.guard }], guard := some (8, true) }) (v := undef) rfl (by kernel_rfl) (by kernel_rfl) (by kernel_rfl) (fun _ _ _ h => h) (Or.inr ⟨by rfl, rfl⟩) hHeld ?_
              try simp only [Act.put, List.setIfInBounds_toArray, List.set_cons_zero, List.set_cons_succ]
              refine wpAnyH_take (i := 16) (oi := { dst := some 40, op := Op.call { callee := Callee.value (Operand.func 80), args := #[Operand.tmp 38, Operand.tmp 39], argTypes := #[28, 28] }, type := 4, pos := "l05_zone.go:166", after := #[{ on := 14, ground := Ground.data }, { on := 15, ground := Ground.data }, { on := 8, ground := Ground.chain }, { on := 8, ground := Ground.guard }], guard := some (8, true) }) (v := undef) rfl (by kernel_rfl) (by kernel_rfl) (by kernel_rfl) (fun _ _ _ h => h) (Or.inr ⟨by rfl, rfl⟩) hHeld ?_
              try simp only [Act.put, List.setIfInBounds_toArray, List.set_cons_zero, List.set_cons_succ]
              refine wpAnyH_take (i := 17) (oi := { dst := some 41, op := Op.unOp UnOp.not 4 (Operand.tmp 40), type := 4, pos := "l05_zone.go:166", after := #[{ on := 16, ground := Ground.data }, { on := 8, ground := Ground.guard }], guard := some (8, true) }) (v := undef) rfl (by kernel_rfl) (by kernel_rfl) (by kernel_rfl) (fun _ _ _ h => h) (Or.inr ⟨by rfl, rfl⟩) hHeld ?_
              try simp only [Act.put, List.setIfInBounds_toArray, List.set_cons_zero, List.set_cons_succ]
              refine wpAnyH_take (i := 18) (oi := { dst := some 42, op := Op.pick (Operand.tmp 32) (Operand.tmp 41) (Operand.const (Value.bool false)), type := 4, pos := "l05_zone.go:166", after := #[{ on := 8, ground := Ground.data }, { on := 17, ground := Ground.data }, { on := 5, ground := Ground.guard }], guard := some (5, false) }) (v := ?_) rfl (by kernel_rfl) (by kernel_rfl) (by kernel_rfl) (fun _ _ _ h => h) (Or.inl ⟨by rfl, ?_⟩) hHeld ?_
              rotate_left
              · (intro w hSw; (try dsimp only at hSw); go_simp <;> with_reducible rfl)
              try simp only [Act.put, List.setIfInBounds_toArray, List.set_cons_zero, List.set_cons_succ]
              refine wpAnyH_take (i := 19) (oi := { dst := some 43, op := Op.pick (Operand.tmp 29) (Operand.const (Value.bool true)) (Operand.tmp 42), type := 4, pos := "l05_zone.go:166", after := #[{ on := 5, ground := Ground.data }, { on := 18, ground := Ground.data }], guard := none }) (v := ?_) rfl (by kernel_rfl) (by kernel_rfl) (by kernel_rfl) (fun _ _ _ h => h) (Or.inl ⟨by rfl, ?_⟩) hHeld ?_
              rotate_left
              · (intro w hSw; (try dsimp only at hSw); go_simp <;> with_reducible rfl)
              try simp only [Act.put, List.setIfInBounds_toArray, List.set_cons_zero, List.set_cons_succ]
              refine wpAnyH_done (by kernel_rfl) ?_ _
              clear hHeld
              have hgd := unhide HGD
              clear HGD
              have bw5 := below_next bw4 b5
              have X5 := hide (block_kept b5 (unhide X4))
              clear b5 bw4 X4 K4 MB H4 U4
              have hsoa := unhide HSOA
              clear HSOA
              obtain ⟨p0, p1, p2, p3, p4, p5, p6⟩ := cells7 (unhide X5)
              by_cases h6 : rk.type = 6
              · rw [if_pos h6] at hsoa
                have e6 : (rk.type == 6) = true := by rw [h6]; rfl
                have HS1 := hide hsoa
                clear h6 hsoa
                go_wp2_with fail
                exact ⟨⟨0 + 1, by omega, by go_num, by rw [unhide HS1]; go_num, hide (unhide HSTEP hgd), bw5⟩, by simp [intOf]; omega⟩
              · rw [if_neg h6, Nat.add_zero] at hsoa
                have e6 : (rk.type == 6) = false := by rw [beq_eq_false_iff_ne]; exact h6
                have HS1 := hide hsoa
                clear h6 hsoa
                go_wp2_with fail
                exact ⟨⟨0 + 1, by omega, by go_num, by first | (rw [unhide HS1]; done) | (rw [unhide HS1]; rfl), hide (unhide HSTEP hgd), bw5⟩, by simp [intOf]; omega⟩
            · obtain ⟨k0, rfl⟩ : ∃ k0, k = k0 + 1 := ⟨k - 1, by omega⟩
              have hk0' : (0 : Int) < (k0 + 1 : Nat) := by omega
              have hwr : IntKind.i64.wrap (k0 : Int) = (k0 : Nat) := by have := hlt; exact wrap_small (by omega) (by omega)
              have hkm : (k0 : Int) < m := by omega
              rw [show k0 + 1 - 1 = k0 by omega] at HGOOD
              obtain ⟨b', off', na', nc', ta', tc', xa', xc', ia', ic', hbe, hbl', hc', hu'⟩ := (unhide H4).recs.here (k := k0) (by rw [unhide HN]; omega)
              simp only [Option.some.injEq, Addr.mk.injEq, and_true] at hbe
              obtain ⟨rfl, rfl⟩ := hbe
              generalize rs.getD k0 recZ = rp at *
              have HC4 := hide hc'
              have U4' := hide hu'
              clear hc' hu'
              have MF0 := fun (w : World) (h1 : HasR w (.slice na' rp.name.length nc') (.slice ta' rp.to.length tc') (.slice xa' rp.text.length xc') (.slice ia' rp.nums.length ic') rp) (h2 : HasR w (.slice na rk.name.length nc) (.slice ta rk.to.length tc) (.slice xa rk.text.length xc) (.slice ia rk.nums.length ic) rk) => mayFollow_has h1 h2
              cases hfo : follows rp rk with
              | false =>
                have hbad : goodI o rs (k0 + 1) = false := by rw [unhide HGOOD, hin, hfo]; simp
                have hz := zoneOk_bad (by rw [unhide HN]; exact hlt) hbad
                rw [unhide HZZ] at hz
                subst hz
                rw [hfo] at MF0
                replace MF0 := hide MF0
                clear hbad hin hfo HGOOD HZZ HSOA HSTEP
                go_wp2_with fail
                clear c0 c1 c2 c3 c4 c5 c6
                refine wp_region_held_drew (S := (fun w' => ((w'.cell? ⟨w.heap.size, 0, none⟩ = some (.slice oa o.length oc) ∧ w'.cell? ⟨w.heap.size, 1, none⟩ = some (.slice (some ⟨b, off, none⟩) m rc)) ∧ (w'.cell? ⟨wr.heap.size, 0, none⟩ = some (.slice na rk.name.length nc) ∧ w'.cell? ⟨wr.heap.size, 1, none⟩ = some (.int .i64 rk.type) ∧ w'.cell? ⟨wr.heap.size, 2, none⟩ = some (.int .i64 rk.ttl) ∧ w'.cell? ⟨wr.heap.size, 3, none⟩ = some (.int .i64 rk.addr) ∧ w'.cell? ⟨wr.heap.size, 4, none⟩ = some (.slice ta rk.to.length tc) ∧ w'.cell? ⟨wr.heap.size, 5, none⟩ = some (.slice xa rk.text.length xc) ∧ w'.cell? ⟨wr.heap.size, 6, none⟩ = some (.slice ia rk.nums.length ic))) ∧ (w'.cell? ⟨b, off + k0 * 7, none⟩ = some (.slice na' rp.name.length nc') ∧ w'.cell? ⟨b, off + k0 * 7 + 1, none⟩ = some (.int .i64 rp.type) ∧ w'.cell? ⟨b, off + k0 * 7 + 2, none⟩ = some (.int .i64 rp.ttl) ∧ w'.cell? ⟨b, off + k0 * 7 + 3, none⟩ = some (.int .i64 rp.addr) ∧ w'.cell? ⟨b, off + k0 * 7 + 4, none⟩ = some (.slice ta' rp.to.length tc') ∧ w'.cell? ⟨b, off + k0 * 7 + 5, none⟩ = some (.slice xa' rp.text.length xc') ∧ w'.cell? ⟨b, off + k0 * 7 + 6, none⟩ = some (.slice ia' rp.nums.length ic')))) (by kernel_rfl) ⟨⟨cells2 (unhide K4), cells7 (unhide X4)⟩, range7 (unhide HC4)⟩ (fun hHeld => ?_)
                show wpAnyH _ _ _ _ _ 20 #[false, false, false, false, false, false, false, false, false, false, false, false, false, false, false, false, false, false, false, false] _ _
                refine wpAnyH_take (i := 0) (oi := { dst := some 24, op := Op.fieldAddr 40 (Operand.tmp 1) 0, type := 0, pos := "l05_zone.go:166", after := #[], guard := none }) (v := ?_) rfl (by kernel_rfl) (by kernel_rfl) (by kernel_rfl) (fun _ _ _ h => h) (Or.inl ⟨by rfl, ?_⟩) hHeld ?_
                rotate_left
                · (intro w hSw; (try dsimp only at hSw); go_simp <;> with_reducible rfl)
                try simp only [Act.put, List.setIfInBounds_toArray, List.set_cons_zero, List.set_cons_succ]
                refine wpAnyH_take (i := 1) (oi := { dst := some 25, op := Op.load 25 (Operand.tmp 24), type := 25, pos := "l05_zone.go:166", after := #[{ on := 0, ground := Ground.data }], guard := none }) (v := ?_) rfl (by kernel_rfl) (by kernel_rfl) (by kernel_rfl) (fun _ _ _ h => h) (Or.inl ⟨by rfl, ?_⟩) hHeld ?_
                rotate_left
                · (intro w hSw; (try dsimp only at hSw); go_simp <;> with_reducible rfl)
                try simp only [Act.put, List.setIfInBounds_toArray, List.set_cons_zero, List.set_cons_succ]
                refine wpAnyH_take (i := 2) (oi := { dst := some 26, op := Op.load 28 (Operand.tmp 5), type := 28, pos := "l05_zone.go:166", after := #[], guard := none }) (v := ?_) rfl (by kernel_rfl) (by kernel_rfl) (by kernel_rfl) (fun _ _ _ h => h) (Or.inl ⟨by rfl, ?_⟩) hHeld ?_
                rotate_left
                · (intro w hSw; (try dsimp only at hSw); go_simp <;> with_reducible rfl)
                try simp only [Act.put, List.setIfInBounds_toArray, List.set_cons_zero, List.set_cons_succ]
                refine wpAnyH_ready (rs := [3]) (by kernel_rfl) (by simp) (AllReadyH.cons (o := { dst := some 27, op := Op.call { callee := Callee.value (Operand.func 79), args := #[Operand.tmp 25, Operand.tmp 26], argTypes := #[25, 28] }, type := 4, pos := "l05_zone.go:166", after := #[{ on := 1, ground := Ground.data }, { on := 2, ground := Ground.data }], guard := none }) rfl (fun K hK => ?_) AllReadyH.nil)
                have HK := hide hK
                clear hK hHeld
                go_simp
                refine (unhide MB).mono ?_
                rintro e w5 ⟨rfl, b5⟩
                have MF := unhide MF0 _ ((unhide U4').below b5) ((unhide U4).below b5)
                replace MF := hide MF
                go_simp
                refine (unhide HK).out _ _ ⟨⟨cells2 (block_kept b5 (unhide K4)), cells7 (block_kept b5 (unhide X4))⟩, range7 (range_below (unhide HC4) hbl' b5)⟩ (fun hHeld => ?_)
                clear HK K
                try simp only [List.setIfInBounds_toArray, List.set_cons_zero, List.set_cons_succ]
                refine wpAnyH_take (i := 4) (oi := { dst := some 28, op := Op.unOp UnOp.not 4 (Operand.tmp 27), type := 4, pos := "l05_zone.go:166", after := #[{ on := 3, ground := Ground.data }], guard := none }) (v := ?_) rfl (by kernel_rfl) (by kernel_rfl) (by kernel_rfl) (fun _ _ _ h => h) (Or.inl ⟨by rfl, ?_⟩) hHeld ?_
                rotate_left
                · (intro w hSw; (try dsimp only at hSw); go_simp <;> with_reducible rfl)
                try simp only [Act.put, List.setIfInBounds_toArray, List.set_cons_zero, List.set_cons_succ]
                refine wpAnyH_take (i := 5) (oi := { dst := some 29, op := Op.move (Operand.tmp 28), type := 4, pos := "l05_zone.go:166", after := #[{ on := 4, ground := Ground.data }, { on := 3, ground := Ground.chain }], guard := none }) (v := ?_) rfl (by kernel_rfl) (by kernel_rfl) (by kernel_rfl) (fun _ _ _ h => h) (Or.inl ⟨by rfl, ?_⟩) hHeld ?_
                rotate_left
                · (intro w hSw; (try dsimp only at hSw); go_simp <;> with_reducible rfl)
                try simp only [Act.put, List.setIfInBounds_toArray, List.set_cons_zero, List.set_cons_succ]
                refine wpAnyH_take (i := 6) (oi := { dst := some 30, op := Op.move (Operand.tmp 4), type := 3, pos := "l05_zone.go:166", after := #[{ on := 5, ground := Ground.guard }], guard := some (5, false) }) (v := ?_) rfl (by kernel_rfl) (by kernel_rfl) (by kernel_rfl) (fun _ _ _ h => h) (Or.inl ⟨by rfl, ?_⟩) hHeld ?_
                rotate_left
                · (intro w hSw; (try dsimp only at hSw); go_simp <;> with_reducible rfl)
                try simp only [Act.put, List.setIfInBounds_toArray, List.set_cons_zero, List.set_cons_succ]
                refine wpAnyH_take (i := 7) (oi := { dst := some 31, op := Op.binOp BinOp.gtr 3 (Operand.tmp 30) (Operand.const (Value.int IntKind.i64 0)) 3, type := 4, pos := "l05_zone.go:166", after := #[{ on := 6, ground := Ground.data }, { on := 5, ground := Ground.guard }], guard := some (5, false) }) (v := .bool true) rfl (by kernel_rfl) (by kernel_rfl) (by kernel_rfl) (fun _ _ _ h => h) (Or.inl ⟨by rfl, ?_⟩) hHeld ?_
                · (intro w hSw; (try dsimp only at hSw); go_simp)
                try simp only [Act.put, List.setIfInBounds_toArray, List.set_cons_zero, List.set_cons_succ]
                refine wpAnyH_take (i := 8) (oi := { dst := some 32, op := Op.move (Operand.tmp 31), type := 4, pos := "l05_zone.go:166", after := #[{ on := 7, ground := Ground.data }, { on := 5, ground := Ground.chain }, { on := 5, ground := Ground.guard }], guard := some (5, false) }) (v := .bool true) rfl (by kernel_rfl) (by kernel_rfl) (by kernel_rfl) (fun _ _ _ h => h) (Or.inl ⟨by rfl, ?_⟩) hHeld ?_
                · (intro w hSw; (try dsimp only at hSw); go_simp)
                try simp only [Act.put, List.setIfInBounds_toArray, List.set_cons_zero, List.set_cons_succ]
                refine wpAnyH_take (i := 9) (oi := { dst := some 33, op := Op.fieldAddr 40 (Operand.tmp 1) 1, type := 0, pos := "l05_zone.go:166", after := #[{ on := 8, ground := Ground.guard }], guard := some (8, true) }) (v := ?_) rfl (by kernel_rfl) (by kernel_rfl) (by kernel_rfl) (fun _ _ _ h => h) (Or.inl ⟨by rfl, ?_⟩) hHeld ?_
                rotate_left
                · (intro w hSw; (try dsimp only at hSw); go_simp <;> with_reducible rfl)
                try simp only [Act.put, List.setIfInBounds_toArray, List.set_cons_zero, List.set_cons_succ]
                refine wpAnyH_take (i := 10) (oi := { dst := some 34, op := Op.load 38 (Operand.tmp 33), type := 38, pos := "l05_zone.go:166", after := #[{ on := 9, ground := Ground.data }, { on := 8, ground := Ground.guard }], guard := some (8, true) }) (v := ?_) rfl (by kernel_rfl) (by kernel_rfl) (by kernel_rfl) (fun _ _ _ h => h) (Or.inl ⟨by rfl, ?_⟩) hHeld ?_
                rotate_left
                · (intro w hSw; (try dsimp only at hSw); go_simp <;> with_reducible rfl)
                try simp only [Act.put, List.setIfInBounds_toArray, List.set_cons_zero, List.set_cons_succ]
                refine wpAnyH_take (i := 11) (oi := { dst := some 35, op := Op.move (Operand.tmp 4), type := 3, pos := "l05_zone.go:166", after := #[{ on := 8, ground := Ground.guard }], guard := some (8, true) }) (v := .int .i64 (k0 + 1 : Nat)) rfl (by kernel_rfl) (by kernel_rfl) (by kernel_rfl) (fun _ _ _ h => h) (Or.inl ⟨by rfl, ?_⟩) hHeld ?_
                · (intro w hSw; (try dsimp only at hSw); go_simp)
                try simp only [Act.put, List.setIfInBounds_toArray, List.set_cons_zero, List.set_cons_succ]
                refine wpAnyH_take (i := 12) (oi := { dst := some 36, op := Op.binOp BinOp.sub 3 (Operand.tmp 35) (Operand.const (Value.int IntKind.i64 1)) 3, type := 3, pos := "l05_zone.go:166", after := #[{ on := 11, ground := Ground.data }, { on := 8, ground := Ground.guard }], guard := some (8, true) }) (v := .int .i64 (k0 : Nat)) rfl (by kernel_rfl) (by kernel_rfl) (by kernel_rfl) (fun _ _ _ h => h) (Or.inl ⟨by rfl, ?_⟩) hHeld ?_
                · (intro w hSw; (try dsimp only at hSw); go_simp)
                try simp only [Act.put, List.setIfInBounds_toArray, List.set_cons_zero, List.set_cons_succ]
                refine wpAnyH_take (i := 13) (oi := { dst := some 37, op := Op.indexAddr 38 (Operand.tmp 34) (Operand.tmp 36), type := 0, pos := "l05_zone.go:166", after := #[{ on := 10, ground := Ground.data }, { on := 12, ground := Ground.data }, { on := 8, ground := Ground.guard }], guard := some (8, true) }) (v := .pointer (some ⟨b, off + k0 * 7, none⟩)) rfl (by kernel_rfl) (by kernel_rfl) (by kernel_rfl) (fun _ _ _ h => h) (Or.inl ⟨by rfl, ?_⟩) hHeld ?_
                · (intro w hSw; (try dsimp only at hSw); go_simp)
                try simp only [Act.put, List.setIfInBounds_toArray, List.set_cons_zero, List.set_cons_succ]
                refine wpAnyH_take (i := 14) (oi := { dst := some 38, op := Op.load 28 (Operand.tmp 37), type := 28, pos := "l05_zone.go:166", after := #[{ on := 13, ground := Ground.data }, { on := 8, ground := Ground.guard }], guard := some (8, true) }) (v := ?_) rfl (by kernel_rfl) (by kernel_rfl) (by kernel_rfl) (fun _ _ _ h => h) (Or.inl ⟨by rfl, ?_⟩) hHeld ?_
                rotate_left
                · (intro w hSw; (try dsimp only at hSw); go_simp <;> with_reducible rfl)
                try simp only [Act.put, List.setIfInBounds_toArray, List.set_cons_zero, List.set_cons_succ]
                refine wpAnyH_take (i := 15) (oi := { dst := some 39, op := Op.load 28 (Operand.tmp 5), type := 28, pos := "l05_zone.go:166", after := #[{ on := 8, ground := Ground.guard }], guard := some (8, true) }) (v := ?_) rfl (by kernel_rfl) (by kernel_rfl) (by kernel_rfl) (fun _ _ _ h => h) (Or.inl ⟨by rfl, ?_⟩) hHeld ?_
                rotate_left
                · (intro w hSw; (try dsimp only at hSw); go_simp <;> with_reducible rfl)
                try simp only [Act.put, List.setIfInBounds_toArray, List.set_cons_zero, List.set_cons_succ]
                refine wpAnyH_ready (rs := [16]) (by kernel_rfl) (by simp) (AllReadyH.cons (o := { dst := some 40, op := Op.call { callee := Callee.value (Operand.func 80), args := #[Operand.tmp 38, Operand.tmp 39], argTypes := #[28, 28] }, type := 4, pos := "l05_zone.go:166", after := #[{ on := 14, ground := Ground.data }, { on := 15, ground := Ground.data }, { on := 8, ground := Ground.chain }, { on := 8, ground := Ground.guard }], guard := some (8, true) }) rfl (fun K hK => ?_) AllReadyH.nil)
                have HK := hide hK
                clear hK hHeld
                go_simp
                refine (unhide MF).mono ?_
                rintro e w6 ⟨rfl, b6⟩
                have q6 := below_next b5 b6
                go_simp
                refine (unhide HK).out _ _ ⟨⟨cells2 (block_kept q6 (unhide K4)), cells7 (block_kept q6 (unhide X4))⟩, range7 (range_below (unhide HC4) hbl' q6)⟩ (fun hHeld => ?_)
                clear HK K
                try simp only [List.setIfInBounds_toArray, List.set_cons_zero, List.set_cons_succ]
                refine wpAnyH_take (i := 17) (oi := { dst := some 41, op := Op.unOp UnOp.not 4 (Operand.tmp 40), type := 4, pos := "l05_zone.go:166", after := #[{ on := 16, ground := Ground.data }, { on := 8, ground := Ground.guard }], guard := some (8, true) }) (v := ?_) rfl (by kernel_rfl) (by kernel_rfl) (by kernel_rfl) (fun _ _ _ h => h) (Or.inl ⟨by rfl, ?_⟩) hHeld ?_
                rotate_left
                · (intro w hSw; (try dsimp only at hSw); go_simp <;> with_reducible rfl)
                try simp only [Act.put, List.setIfInBounds_toArray, List.set_cons_zero, List.set_cons_succ]
                refine wpAnyH_take (i := 18) (oi := { dst := some 42, op := Op.pick (Operand.tmp 32) (Operand.tmp 41) (Operand.const (Value.bool false)), type := 4, pos := "l05_zone.go:166", after := #[{ on := 8, ground := Ground.data }, { on := 17, ground := Ground.data }, { on := 5, ground := Ground.guard }], guard := some (5, false) }) (v := ?_) rfl (by kernel_rfl) (by kernel_rfl) (by kernel_rfl) (fun _ _ _ h => h) (Or.inl ⟨by rfl, ?_⟩) hHeld ?_
                rotate_left
                · (intro w hSw; (try dsimp only at hSw); go_simp <;> with_reducible rfl)
                try simp only [Act.put, List.setIfInBounds_toArray, List.set_cons_zero, List.set_cons_succ]
                refine wpAnyH_take (i := 19) (oi := { dst := some 43, op := Op.pick (Operand.tmp 29) (Operand.const (Value.bool true)) (Operand.tmp 42), type := 4, pos := "l05_zone.go:166", after := #[{ on := 5, ground := Ground.data }, { on := 18, ground := Ground.data }], guard := none }) (v := ?_) rfl (by kernel_rfl) (by kernel_rfl) (by kernel_rfl) (fun _ _ _ h => h) (Or.inl ⟨by rfl, ?_⟩) hHeld ?_
                rotate_left
                · (intro w hSw; (try dsimp only at hSw); go_simp <;> with_reducible rfl)
                try simp only [Act.put, List.setIfInBounds_toArray, List.set_cons_zero, List.set_cons_succ]
                refine wpAnyH_done (by kernel_rfl) ?_ _
                clear hHeld
                go_wp2_with fail
                go_ret
                exact ⟨rfl, below_next bb4 q6⟩
              | true =>
                have hgd : goodI o rs (k0 + 1) = true := by rw [unhide HGOOD, hin, hfo]; simp
                have HGD := hide hgd
                rw [hfo] at MF0
                replace MF0 := hide MF0
                clear hgd hin hfo HGOOD
                go_wp2_with fail
                clear c0 c1 c2 c3 c4 c5 c6
                refine wp_region_held_drew (S := (fun w' => ((w'.cell? ⟨w.heap.size, 0, none⟩ = some (.slice oa o.length oc) ∧ w'.cell? ⟨w.heap.size, 1, none⟩ = some (.slice (some ⟨b, off, none⟩) m rc)) ∧ (w'.cell? ⟨wr.heap.size, 0, none⟩ = some (.slice na rk.name.length nc) ∧ w'.cell? ⟨wr.heap.size, 1, none⟩ = some (.int .i64 rk.type) ∧ w'.cell? ⟨wr.heap.size, 2, none⟩ = some (.int .i64 rk.ttl) ∧ w'.cell? ⟨wr.heap.size, 3, none⟩ = some (.int .i64 rk.addr) ∧ w'.cell? ⟨wr.heap.size, 4, none⟩ = some (.slice ta rk.to.length tc) ∧ w'.cell? ⟨wr.heap.size, 5, none⟩ = some (.slice xa rk.text.length xc) ∧ w'.cell? ⟨wr.heap.size, 6, none⟩ = some (.slice ia rk.nums.length ic))) ∧ (w'.cell? ⟨b, off + k0 * 7, none⟩ = some (.slice na' rp.name.length nc') ∧ w'.cell? ⟨b, off + k0 * 7 + 1, none⟩ = some (.int .i64 rp.type) ∧ w'.cell? ⟨b, off + k0 * 7 + 2, none⟩ = some (.int .i64 rp.ttl) ∧ w'.cell? ⟨b, off + k0 * 7 + 3, none⟩ = some (.int .i64 rp.addr) ∧ w'.cell? ⟨b, off + k0 * 7 + 4, none⟩ = some (.slice ta' rp.to.length tc') ∧ w'.cell? ⟨b, off + k0 * 7 + 5, none⟩ = some (.slice xa' rp.text.length xc') ∧ w'.cell? ⟨b, off + k0 * 7 + 6, none⟩ = some (.slice ia' rp.nums.length ic')))) (by kernel_rfl) ⟨⟨cells2 (unhide K4), cells7 (unhide X4)⟩, range7 (unhide HC4)⟩ (fun hHeld => ?_)
                show wpAnyH _ _ _ _ _ 20 #[false, false, false, false, false, false, false, false, false, false, false, false, false, false, false, false, false, false, false, false] _ _
                refine wpAnyH_take (i := 0) (oi := { dst := some 24, op := Op.fieldAddr 40 (Operand.tmp 1) 0, type := 0, pos := "l05_zone.go:166", after := #[], guard := none }) (v := ?_) rfl (by kernel_rfl) (by kernel_rfl) (by kernel_rfl) (fun _ _ _ h => h) (Or.inl ⟨by rfl, ?_⟩) hHeld ?_
                rotate_left
                · (intro w hSw; (try dsimp only at hSw); go_simp <;> with_reducible rfl)
                try simp only [Act.put, List.setIfInBounds_toArray, List.set_cons_zero, List.set_cons_succ]
                refine wpAnyH_take (i := 1) (oi := { dst := some 25, op := Op.load 25 (Operand.tmp 24), type := 25, pos := "l05_zone.go:166", after := #[{ on := 0, ground := Ground.data }], guard := none }) (v := ?_) rfl (by kernel_rfl) (by kernel_rfl) (by kernel_rfl) (fun _ _ _ h => h) (Or.inl ⟨by rfl, ?_⟩) hHeld ?_
                rotate_left
                · (intro w hSw; (try dsimp only at hSw); go_simp <;> with_reducible rfl)
                try simp only [Act.put, List.setIfInBounds_toArray, List.set_cons_zero, List.set_cons_succ]
                refine wpAnyH_take (i := 2) (oi := { dst := some 26, op := Op.load 28 (Operand.tmp 5), type := 28, pos := "l05_zone.go:166", after := #[], guard := none }) (v := ?_) rfl (by kernel_rfl) (by kernel_rfl) (by kernel_rfl) (fun _ _ _ h => h) (Or.inl ⟨by rfl, ?_⟩) hHeld ?_
                rotate_left
                · (intro w hSw; (try dsimp only at hSw); go_simp <;> with_reducible rfl)
                try simp only [Act.put, List.setIfInBounds_toArray, List.set_cons_zero, List.set_cons_succ]
                refine wpAnyH_ready (rs := [3]) (by kernel_rfl) (by simp) (AllReadyH.cons (o := { dst := some 27, op := Op.call { callee := Callee.value (Operand.func 79), args := #[Operand.tmp 25, Operand.tmp 26], argTypes := #[25, 28] }, type := 4, pos := "l05_zone.go:166", after := #[{ on := 1, ground := Ground.data }, { on := 2, ground := Ground.data }], guard := none }) rfl (fun K hK => ?_) AllReadyH.nil)
                have HK := hide hK
                clear hK hHeld
                go_simp
                refine (unhide MB).mono ?_
                rintro e w5 ⟨rfl, b5⟩
                have MF := unhide MF0 _ ((unhide U4').below b5) ((unhide U4).below b5)
                replace MF := hide MF
                go_simp
                refine (unhide HK).out _ _ ⟨⟨cells2 (block_kept b5 (unhide K4)), cells7 (block_kept b5 (unhide X4))⟩, range7 (range_below (unhide HC4) hbl' b5)⟩ (fun hHeld => ?_)
                clear HK K
                try simp only [List.setIfInBounds_toArray, List.set_cons_zero, List.set_cons_succ]
                refine wpAnyH_take (i := 4) (oi := { dst := some 28, op := Op.unOp UnOp.not 4 (Operand.tmp 27), type := 4, pos := "l05_zone.go:166", after := #[{ on := 3, ground := Ground.data }], guard := none }) (v := ?_) rfl (by kernel_rfl) (by kernel_rfl) (by kernel_rfl) (fun _ _ _ h => h) (Or.inl ⟨by rfl, ?_⟩) hHeld ?_
                rotate_left
                · (intro w hSw; (try dsimp only at hSw); go_simp <;> with_reducible rfl)
                try simp only [Act.put, List.setIfInBounds_toArray, List.set_cons_zero, List.set_cons_succ]
                refine wpAnyH_take (i := 5) (oi := { dst := some 29, op := Op.move (Operand.tmp 28), type := 4, pos := "l05_zone.go:166", after := #[{ on := 4, ground := Ground.data }, { on := 3, ground := Ground.chain }], guard := none }) (v := ?_) rfl (by kernel_rfl) (by kernel_rfl) (by kernel_rfl) (fun _ _ _ h => h) (Or.inl ⟨by rfl, ?_⟩) hHeld ?_
                rotate_left
                · (intro w hSw; (try dsimp only at hSw); go_simp <;> with_reducible rfl)
                try simp only [Act.put, List.setIfInBounds_toArray, List.set_cons_zero, List.set_cons_succ]
                refine wpAnyH_take (i := 6) (oi := { dst := some 30, op := Op.move (Operand.tmp 4), type := 3, pos := "l05_zone.go:166", after := #[{ on := 5, ground := Ground.guard }], guard := some (5, false) }) (v := ?_) rfl (by kernel_rfl) (by kernel_rfl) (by kernel_rfl) (fun _ _ _ h => h) (Or.inl ⟨by rfl, ?_⟩) hHeld ?_
                rotate_left
                · (intro w hSw; (try dsimp only at hSw); go_simp <;> with_reducible rfl)
                try simp only [Act.put, List.setIfInBounds_toArray, List.set_cons_zero, List.set_cons_succ]
                refine wpAnyH_take (i := 7) (oi := { dst := some 31, op := Op.binOp BinOp.gtr 3 (Operand.tmp 30) (Operand.const (Value.int IntKind.i64 0)) 3, type := 4, pos := "l05_zone.go:166", after := #[{ on := 6, ground := Ground.data }, { on := 5, ground := Ground.guard }], guard := some (5, false) }) (v := .bool true) rfl (by kernel_rfl) (by kernel_rfl) (by kernel_rfl) (fun _ _ _ h => h) (Or.inl ⟨by rfl, ?_⟩) hHeld ?_
                · (intro w hSw; (try dsimp only at hSw); go_simp)
                try simp only [Act.put, List.setIfInBounds_toArray, List.set_cons_zero, List.set_cons_succ]
                refine wpAnyH_take (i := 8) (oi := { dst := some 32, op := Op.move (Operand.tmp 31), type := 4, pos := "l05_zone.go:166", after := #[{ on := 7, ground := Ground.data }, { on := 5, ground := Ground.chain }, { on := 5, ground := Ground.guard }], guard := some (5, false) }) (v := .bool true) rfl (by kernel_rfl) (by kernel_rfl) (by kernel_rfl) (fun _ _ _ h => h) (Or.inl ⟨by rfl, ?_⟩) hHeld ?_
                · (intro w hSw; (try dsimp only at hSw); go_simp)
                try simp only [Act.put, List.setIfInBounds_toArray, List.set_cons_zero, List.set_cons_succ]
                refine wpAnyH_take (i := 9) (oi := { dst := some 33, op := Op.fieldAddr 40 (Operand.tmp 1) 1, type := 0, pos := "l05_zone.go:166", after := #[{ on := 8, ground := Ground.guard }], guard := some (8, true) }) (v := ?_) rfl (by kernel_rfl) (by kernel_rfl) (by kernel_rfl) (fun _ _ _ h => h) (Or.inl ⟨by rfl, ?_⟩) hHeld ?_
                rotate_left
                · (intro w hSw; (try dsimp only at hSw); go_simp <;> with_reducible rfl)
                try simp only [Act.put, List.setIfInBounds_toArray, List.set_cons_zero, List.set_cons_succ]
                refine wpAnyH_take (i := 10) (oi := { dst := some 34, op := Op.load 38 (Operand.tmp 33), type := 38, pos := "l05_zone.go:166", after := #[{ on := 9, ground := Ground.data }, { on := 8, ground := Ground.guard }], guard := some (8, true) }) (v := ?_) rfl (by kernel_rfl) (by kernel_rfl) (by kernel_rfl) (fun _ _ _ h => h) (Or.inl ⟨by rfl, ?_⟩) hHeld ?_
                rotate_left
                · (intro w hSw; (try dsimp only at hSw); go_simp <;> with_reducible rfl)
                try simp only [Act.put, List.setIfInBounds_toArray, List.set_cons_zero, List.set_cons_succ]
                refine wpAnyH_take (i := 11) (oi := { dst := some 35, op := Op.move (Operand.tmp 4), type := 3, pos := "l05_zone.go:166", after := #[{ on := 8, ground := Ground.guard }], guard := some (8, true) }) (v := .int .i64 (k0 + 1 : Nat)) rfl (by kernel_rfl) (by kernel_rfl) (by kernel_rfl) (fun _ _ _ h => h) (Or.inl ⟨by rfl, ?_⟩) hHeld ?_
                · (intro w hSw; (try dsimp only at hSw); go_simp)
                try simp only [Act.put, List.setIfInBounds_toArray, List.set_cons_zero, List.set_cons_succ]
                refine wpAnyH_take (i := 12) (oi := { dst := some 36, op := Op.binOp BinOp.sub 3 (Operand.tmp 35) (Operand.const (Value.int IntKind.i64 1)) 3, type := 3, pos := "l05_zone.go:166", after := #[{ on := 11, ground := Ground.data }, { on := 8, ground := Ground.guard }], guard := some (8, true) }) (v := .int .i64 (k0 : Nat)) rfl (by kernel_rfl) (by kernel_rfl) (by kernel_rfl) (fun _ _ _ h => h) (Or.inl ⟨by rfl, ?_⟩) hHeld ?_
                · (intro w hSw; (try dsimp only at hSw); go_simp)
                try simp only [Act.put, List.setIfInBounds_toArray, List.set_cons_zero, List.set_cons_succ]
                refine wpAnyH_take (i := 13) (oi := { dst := some 37, op := Op.indexAddr 38 (Operand.tmp 34) (Operand.tmp 36), type := 0, pos := "l05_zone.go:166", after := #[{ on := 10, ground := Ground.data }, { on := 12, ground := Ground.data }, { on := 8, ground := Ground.guard }], guard := some (8, true) }) (v := .pointer (some ⟨b, off + k0 * 7, none⟩)) rfl (by kernel_rfl) (by kernel_rfl) (by kernel_rfl) (fun _ _ _ h => h) (Or.inl ⟨by rfl, ?_⟩) hHeld ?_
                · (intro w hSw; (try dsimp only at hSw); go_simp)
                try simp only [Act.put, List.setIfInBounds_toArray, List.set_cons_zero, List.set_cons_succ]
                refine wpAnyH_take (i := 14) (oi := { dst := some 38, op := Op.load 28 (Operand.tmp 37), type := 28, pos := "l05_zone.go:166", after := #[{ on := 13, ground := Ground.data }, { on := 8, ground := Ground.guard }], guard := some (8, true) }) (v := ?_) rfl (by kernel_rfl) (by kernel_rfl) (by kernel_rfl) (fun _ _ _ h => h) (Or.inl ⟨by rfl, ?_⟩) hHeld ?_
                rotate_left
                · (intro w hSw; (try dsimp only at hSw); go_simp <;> with_reducible rfl)
                try simp only [Act.put, List.setIfInBounds_toArray, List.set_cons_zero, List.set_cons_succ]
                refine wpAnyH_take (i := 15) (oi := { dst := some 39, op := Op.load 28 (Operand.tmp 5), type := 28, pos := "l05_zone.go:166", after := #[{ on := 8, ground := Ground.guard }], guard := some (8, true) }) (v := ?_) rfl (by kernel_rfl) (by kernel_rfl) (by kernel_rfl) (fun _ _ _ h => h) (Or.inl ⟨by rfl, ?_⟩) hHeld ?_
                rotate_left
                · (intro w hSw; (try dsimp only at hSw); go_simp <;> with_reducible rfl)
                try simp only [Act.put, List.setIfInBounds_toArray, List.set_cons_zero, List.set_cons_succ]
                refine wpAnyH_ready (rs := [16]) (by kernel_rfl) (by simp) (AllReadyH.cons (o := { dst := some 40, op := Op.call { callee := Callee.value (Operand.func 80), args := #[Operand.tmp 38, Operand.tmp 39], argTypes := #[28, 28] }, type := 4, pos := "l05_zone.go:166", after := #[{ on := 14, ground := Ground.data }, { on := 15, ground := Ground.data }, { on := 8, ground := Ground.chain }, { on := 8, ground := Ground.guard }], guard := some (8, true) }) rfl (fun K hK => ?_) AllReadyH.nil)
                have HK := hide hK
                clear hK hHeld
                go_simp
                refine (unhide MF).mono ?_
                rintro e w6 ⟨rfl, b6⟩
                have q6 := below_next b5 b6
                go_simp
                refine (unhide HK).out _ _ ⟨⟨cells2 (block_kept q6 (unhide K4)), cells7 (block_kept q6 (unhide X4))⟩, range7 (range_below (unhide HC4) hbl' q6)⟩ (fun hHeld => ?_)
                clear HK K
                try simp only [List.setIfInBounds_toArray, List.set_cons_zero, List.set_cons_succ]
                refine wpAnyH_take (i := 17) (oi := { dst := some 41, op := Op.unOp UnOp.not 4 (Operand.tmp 40), type := 4, pos := "l05_zone.go:166", after := #[{ on := 16, ground := Ground.data }, { on := 8, ground := Ground.guard }], guard := some (8, true) }) (v := ?_) rfl (by kernel_rfl) (by kernel_rfl) (by kernel_rfl) (fun _ _ _ h => h) (Or.inl ⟨by rfl, ?_⟩) hHeld ?_
                rotate_left
                · (intro w hSw; (try dsimp only at hSw); go_simp <;> with_reducible rfl)
                try simp only [Act.put, List.setIfInBounds_toArray, List.set_cons_zero, List.set_cons_succ]
                refine wpAnyH_take (i := 18) (oi := { dst := some 42, op := Op.pick (Operand.tmp 32) (Operand.tmp 41) (Operand.const (Value.bool false)), type := 4, pos := "l05_zone.go:166", after := #[{ on := 8, ground := Ground.data }, { on := 17, ground := Ground.data }, { on := 5, ground := Ground.guard }], guard := some (5, false) }) (v := ?_) rfl (by kernel_rfl) (by kernel_rfl) (by kernel_rfl) (fun _ _ _ h => h) (Or.inl ⟨by rfl, ?_⟩) hHeld ?_
                rotate_left
                · (intro w hSw; (try dsimp only at hSw); go_simp <;> with_reducible rfl)
                try simp only [Act.put, List.setIfInBounds_toArray, List.set_cons_zero, List.set_cons_succ]
                refine wpAnyH_take (i := 19) (oi := { dst := some 43, op := Op.pick (Operand.tmp 29) (Operand.const (Value.bool true)) (Operand.tmp 42), type := 4, pos := "l05_zone.go:166", after := #[{ on := 5, ground := Ground.data }, { on := 18, ground := Ground.data }], guard := none }) (v := ?_) rfl (by kernel_rfl) (by kernel_rfl) (by kernel_rfl) (fun _ _ _ h => h) (Or.inl ⟨by rfl, ?_⟩) hHeld ?_
                rotate_left
                · (intro w hSw; (try dsimp only at hSw); go_simp <;> with_reducible rfl)
                try simp only [Act.put, List.setIfInBounds_toArray, List.set_cons_zero, List.set_cons_succ]
                refine wpAnyH_done (by kernel_rfl) ?_ _
                clear hHeld
                have hgd := unhide HGD
                clear HGD
                have bw6 := below_next bw4 q6
                have X6 := hide (block_kept q6 (unhide X4))
                clear b5 b6 q6 bw4 X4 K4 MB H4 U4 MF0 HC4 U4'
                have hsoa := unhide HSOA
                clear HSOA
                obtain ⟨p0, p1, p2, p3, p4, p5, p6⟩ := cells7 (unhide X6)
                by_cases h6 : rk.type = 6
                · rw [if_pos h6] at hsoa
                  have e6 : (rk.type == 6) = true := by rw [h6]; rfl
                  have HS1 := hide hsoa
                  clear h6 hsoa
                  go_wp2_with fail
                  exact ⟨⟨k0 + 1 + 1, by omega, by go_num, by rw [unhide HS1]; go_num, hide (unhide HSTEP hgd), bw6⟩, by simp [intOf]; omega⟩
                · rw [if_neg h6, Nat.add_zero] at hsoa
                  have e6 : (rk.type == 6) = false := by rw [beq_eq_false_iff_ne]; exact h6
                  have HS1 := hide hsoa
                  clear h6 hsoa
                  go_wp2_with fail
                  exact ⟨⟨k0 + 1 + 1, by omega, by go_num, by first | (rw [unhide HS1]; done) | (rw [unhide HS1]; rfl), hide (unhide HSTEP hgd), bw6⟩, by simp [intOf]; omega⟩
        · obtain rfl : k = m := by omega
          have hz := zoneOk_end (unhide HOK) (by rw [unhide HN]; omega) (by rw [unhide HN]; exact unhide hall)
          rw [unhide HZZ, unhide HN] at hz
          have h1 := one_count (soas rs k)
          rw [← hz] at h1
          clear hz HZZ
          go_wp2
          go_ret
          exact ⟨rfl, below_next bb1 hb⟩
    · rw [zoneOk_long (by omega)]
      have h60' : (60 : Int) < rs.length := by omega
      go_enter Try.func40, Try.ntmps40
      go_wp2_with fail
      generalize w.alloc (.cells #[.slice oa o.length oc, .slice ra rs.length rc] 40) = W at *
      refine (unhide NO).mono ?_
      rintro e w1 ⟨rfl, b1⟩
      obtain ⟨d0, d1⟩ := cells2 (block_kept b1 (unhide K0))
      go_wp2_with fail
      go_ret
      exact ⟨rfl, below_next b0 b1⟩
end Go.Proofs.Ytdghbcjlahjjdaa

namespace Go.Proofs.Ytdghbcjlahjjdaa
open Go.RowKit
set_option linter.unusedVariables false

theorem mem_putA_other {κ α : Type} [DecidableEq κ] {k : κ} {v : α} : ∀ {l : List (κ × α)} {p : κ × α}, p ∈ l → p.1 ≠ k → p ∈ putA k v l
  | [], p, h, _ => by simp at h
  | (a, u) :: t, p, h, hk => by
    by_cases e : a = k
    · simp only [putA, if_pos e]
      rcases List.mem_cons.1 h with rfl | h
      · exact absurd e hk
      · exact List.mem_cons_of_mem _ h
    · simp only [putA, if_neg e]
      rcases List.mem_cons.1 h with rfl | h
      · exact List.mem_cons_self ..
      · exact List.mem_cons_of_mem _ (mem_putA_other h hk)
theorem mem_putA_self {κ α : Type} [DecidableEq κ] {k : κ} {v : α} {l : List (κ × α)} : (k, v) ∈ putA k v l := lookA_in lookA_put

/-- Texts of bytes that are one are of the same bytes. -/
theorem strOfNums_inj : ∀ {l m : List Int}, (∀ x ∈ l, 0 ≤ x ∧ x ≤ 255) → (∀ x ∈ m, 0 ≤ x ∧ x ≤ 255) → strOfNums l = strOfNums m → l = m := by
  intro l m hl hm h
  have h1 : l.map (fun n => UInt8.ofNat n.toNat) = m.map (fun n => UInt8.ofNat n.toNat) := by
    simp only [strOfNums, ByteArray.mk.injEq] at h
    simpa using h
  clear h
  induction l generalizing m with
  | nil =>
    cases m with
    | nil => rfl
    | cons b t => simp at h1
  | cons a t ih =>
    cases m with
    | nil => simp at h1
    | cons b s =>
      simp only [List.map_cons, List.cons.injEq] at h1
      have ha := hl a (List.mem_cons_self ..)
      have hb := hm b (List.mem_cons_self ..)
      have e : a.toNat = b.toNat := by
        have := congrArg UInt8.toNat h1.1
        simp only [UInt8.toNat_ofNat'] at this
        omega
      rw [show a = b by omega, ih (fun x hx => hl x (List.mem_cons_of_mem _ hx)) (fun x hx => hm x (List.mem_cons_of_mem _ hx)) h1.2]
theorem cut_zero : ∀ {l m A B : List Int}, (∀ x ∈ l, x ≠ 0) → (∀ x ∈ m, x ≠ 0) → l ++ 0 :: A = m ++ 0 :: B → l = m ∧ A = B
  | [], [], A, B, _, _, h => by simpa using h
  | [], b :: t, A, B, _, hm, h => by
    simp only [List.nil_append, List.cons_append, List.cons.injEq] at h
    exact absurd h.1.symm (hm b (List.mem_cons_self ..))
  | a :: t, [], A, B, hl, _, h => by
    simp only [List.nil_append, List.cons_append, List.cons.injEq] at h
    exact absurd h.1 (hl a (List.mem_cons_self ..))
  | a :: t, b :: s, A, B, hl, hm, h => by
    simp only [List.cons_append, List.cons.injEq] at h
    obtain ⟨h1, h2⟩ := cut_zero (fun x hx => hl x (List.mem_cons_of_mem _ hx)) (fun x hx => hm x (List.mem_cons_of_mem _ hx)) h.2
    rw [h.1, h1]
    exact ⟨rfl, h2⟩
theorem keyP_inj : ∀ {ls ms : List (List Int)}, (∀ l ∈ ls, ∀ x ∈ l, x ≠ 0) → (∀ l ∈ ms, ∀ x ∈ l, x ≠ 0) → keyP ls = keyP ms → ls = ms
  | [], [], _, _, _ => rfl
  | [], m :: t, _, _, h => by simp [keyP] at h
  | l :: t, [], _, _, h => by simp [keyP] at h
  | l :: t, m :: s, hl, hm, h => by
    simp only [keyP, List.flatMap_cons, List.append_assoc, List.singleton_append] at h
    obtain ⟨h1, h2⟩ := cut_zero (hl l (List.mem_cons_self ..)) (hm m (List.mem_cons_self ..)) h
    rw [h1, keyP_inj (fun x hx => hl x (List.mem_cons_of_mem _ hx)) (fun x hx => hm x (List.mem_cons_of_mem _ hx)) h2]
theorem sign_of {n : List (List Int)} (h : nameOk n = true) : ∀ l ∈ n, ∀ x ∈ l, 45 ≤ x ∧ x ≤ 122 := by
  intro l hl x hx
  obtain ⟨i, hi, rfl⟩ := List.getElem_of_mem hl
  have h1 := (nameOk_parts h).2 i hi
  rw [show n.getD i [] = n[i] by simp [hi]] at h1
  obtain ⟨j, hj, rfl⟩ := List.getElem_of_mem hx
  have h2 := (of_decide_eq_true h1).2.2 j hj
  rw [show n[i].getD j 0 = n[i][j] by simp [hj]] at h2
  have := of_decide_eq_true h2
  omega
theorem keyP_bytes {ls : List (List Int)} (h : ∀ l ∈ ls, ∀ x ∈ l, 45 ≤ x ∧ x ≤ 122) : ∀ x ∈ keyP ls, 0 ≤ x ∧ x ≤ 255 := by
  intro x hx
  obtain ⟨l, hl, hx⟩ := List.mem_flatMap.1 hx
  rcases List.mem_append.1 hx with hx | hx
  · have := h l hl x hx
    omega
  · simp at hx
    omega
/-- The keys of names that may be are one just if the names are. -/
theorem keyN_inj {n m : List (List Int)} (hn : nameOk n = true) (hm : nameOk m = true) (h : strOfNums (keyN n) = strOfNums (keyN m)) : n = m := by
  have r1 : ∀ l ∈ n.reverse, ∀ x ∈ l, 45 ≤ x ∧ x ≤ 122 := fun l hl => sign_of hn l (List.mem_reverse.1 hl)
  have r2 : ∀ l ∈ m.reverse, ∀ x ∈ l, 45 ≤ x ∧ x ≤ 122 := fun l hl => sign_of hm l (List.mem_reverse.1 hl)
  have e1 : keyP n.reverse = keyP m.reverse := strOfNums_inj (keyP_bytes r1) (keyP_bytes r2) h
  have e2 := keyP_inj (fun l hl x hx => by have := r1 l hl x hx; omega) (fun l hl x hx => by have := r2 l hl x hx; omega) e1
  exact List.reverse_inj.1 e2

/-- Each page's records have the name of its key. -/
def Named (B : Bk) : Prop := ∀ q ∈ B, ∀ x ∈ q.2, q.1 = strOfNums (keyN x.2.name) ∧ nameOk x.2.name = true
theorem page_of (kn : ByteArray) (B : Bk) {x : ByteArray × Rec} (hx : x ∈ (lookA kn B).getD []) : ∃ P, (kn, P) ∈ B ∧ x ∈ P := by
  cases h : lookA kn B with
  | none => rw [h] at hx; simp at hx
  | some P => rw [h] at hx; exact ⟨P, lookA_in h, hx⟩
theorem named_put {B : Bk} (h : Named B) {r : Rec} (hr : nameOk r.name = true) (kd : ByteArray) : Named (bkPut (strOfNums (keyN r.name)) kd r B) := by
  intro q hq x hx
  rcases mem_putA hq with rfl | hq
  · rcases mem_putA hx with rfl | hx
    · exact ⟨rfl, hr⟩
    · obtain ⟨P, h1, h2⟩ := page_of _ B hx
      exact h _ h1 x h2
  · exact h q hq x hx
theorem hasB_put {n : List (List Int)} {B : Bk} (h : Named B) {r : Rec} (hr : nameOk r.name = true) (kd : ByteArray) : hasB n (bkPut (strOfNums (keyN r.name)) kd r B) = (hasB n B || under r.name n) := by
  rw [Bool.eq_iff_iff, Bool.or_eq_true]
  unfold hasB hasP
  simp only [List.any_eq_true]
  constructor
  · rintro ⟨q, hq, x, hx, hu⟩
    rcases mem_putA hq with rfl | hq
    · rcases mem_putA hx with rfl | hx
      · exact .inr hu
      · obtain ⟨P, h1, h2⟩ := page_of _ B hx
        exact .inl ⟨_, h1, x, h2, hu⟩
    · exact .inl ⟨q, hq, x, hx, hu⟩
  · rintro (⟨q, hq, x, hx, hu⟩ | hu)
    · by_cases e : q.1 = strOfNums (keyN r.name)
      · obtain ⟨h1, h2⟩ := h q hq x hx
        have : x.2.name = r.name := keyN_inj h2 hr (h1.symm.trans e)
        rw [this] at hu
        exact ⟨_, mem_putA_self, _, mem_putA_self, hu⟩
      · exact ⟨q, mem_putA_other hq e, x, hx, hu⟩
    · exact ⟨_, mem_putA_self, _, mem_putA_self, hu⟩
end Go.Proofs.Ytdghbcjlahjjdaa
