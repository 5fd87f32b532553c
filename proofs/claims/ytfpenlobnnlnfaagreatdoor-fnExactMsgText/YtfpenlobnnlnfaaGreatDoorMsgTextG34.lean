/-
  Contract of the specification's l3text.
-/
import Derived.Test.YtfpenlobnnlnfaaGreatDoorMsgTextG30
import Derived.Test.YtfpenlobnnlnfaaGreatDoorMsgTextG31
import Derived.Test.YtfpenlobnnlnfaaGreatDoorMsgTextG32
import Derived.Test.YtfpenlobnnlnfaaGreatDoorMsgTextG33
namespace Go.Proofs.YtfpenlobnnlnfaaGreatDoor
open Go.RowKit
set_option linter.unusedVariables false

set_option maxHeartbeats 800000 in
set_option maxRecDepth 100000 in
theorem l3text_has {vn vt vx vi : Value} {r : Rec} {w : World} (h : HasR w vn vt vx vi r) (hok : rrOk r = true) (h8 : Byt r.text) :
  Calls Tryz.prog 39 #[.agg #[vn, .int .i64 r.type, .int .i64 r.ttl, .int .i64 r.addr, vt, vx, vi]] w fun e w' => ∃ v', e = .returned v' ∧ Own w.heap.size 5 w' v' (rrText r) ∧ Below w.heap.size w w' := by
 rw [rrText_yes hok]
 obtain ⟨_, ht, _, _, hd⟩ := rrOk_parts hok
 obtain ⟨na, nc, rfl, _⟩ := h.name.form
 obtain ⟨ta, tc, rfl, _⟩ := h.«to».form
 obtain ⟨xa, xc, rfl, _⟩ := h.text.form
 rcases data_kinds ht hd with ⟨e, h0, h1, _⟩ | ⟨e, hn, _⟩ | ⟨e, hn, x, y, exy, hx0, hx1, hy0, hy1, _⟩ | ⟨e, hx, _⟩
 ·rw [dataT_A e]
  obtain ⟨ia, ic, rfl, _⟩ := h.nums.form
  obtain ⟨nm, ty, tt, ad, tq, tx, nu⟩ := r
  simp only at *
  subst e
  exact l3text_A h hok h0 h1
 ·rw [dataT_N e]
  obtain ⟨ia, ic, rfl, _⟩ := h.nums.form
  obtain ⟨nm, ty, tt, ad, tq, tx, nu⟩ := r
  simp only at *
  exact l3text_N h hok e hn
 ·rw [dataT_S e exy]
  obtain ⟨nm, ty, tt, ad, tq, tx, nu⟩ := r
  simp only at *
  subst e exy
  obtain ⟨ig, io, ic, rfl, _⟩ := h.nums.two
  exact l3text_S h hok hn hx0 hx1 hy0 (by omega)
 ·rw [dataT_X e]
  obtain ⟨ia, ic, rfl, _⟩ := h.nums.form
  obtain ⟨nm, ty, tt, ad, tq, tx, nu⟩ := r
  simp only at *
  exact l3text_X h hok e hx h8
end Go.Proofs.YtfpenlobnnlnfaaGreatDoor
