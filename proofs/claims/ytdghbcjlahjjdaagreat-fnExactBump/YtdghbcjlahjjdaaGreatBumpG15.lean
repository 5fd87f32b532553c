/-
  Contract of the program's copyZone: a zone of its own with the same name and records. Contracts of the program's kindOf and TypeOk, and of the specification's TypeOk. Plain facts: which records may be. No program is named here.
-/
import Derived.Test.YtdghbcjlahjjdaaGreatBumpG14
import Derived.Test.YtdghbcjlahjjdaaGreatBumpG07
import Derived.Deep.RegionHeld3
import Derived.Test.YtdghbcjlahjjdaaGreatBumpG04
import Derived.Test.YtdghbcjlahjjdaaGreatBumpG02
namespace Go.Proofs.YtdghbcjlahjjdaaGreat
open Go.RowKit Go.Shelf
set_option linter.unusedVariables false

set_option maxHeartbeats 400000 in
set_option maxRecDepth 100000 in
theorem values_any (a : Option Addr) (len cap : Nat) (w : World) : Calls Tryz.prog 129 #[.slice a len cap] w fun e w' => e = .returned (.func (.func 161) #[] #[.pointer (some ⟨w.heap.size, 0, none⟩)]) ∧ w' = w.alloc (.cells #[.slice a len cap] 30) := by
  go_enter Tryz.func129, Tryz.ntmps129
  go_wp2
  go_ret
  exact ⟨rfl, rfl⟩
theorem values_stops (Bt : Nat) (w0 w : World) (a : Option Addr) (cap : Nat) (rs : List Rec) (hT : HasRs w0 (.slice a rs.length cap) rs) (hsh : ∀ i, i < rs.length → ShortR (rs.getD i recZ)) (hl : rs.length ≤ 1048576) (hb : Below w0.heap.size w0 w) (hBt : w.cell? ⟨Bt, 0, none⟩ = some (.slice a rs.length cap)) :
    SeqStopsK Fence.wide 4 Tryz.prog 161 #[.pointer (some ⟨Bt, 0, none⟩)] (fun x : RecV w0 => encV x) (Below w0.heap.size) (fun xs => xs.map (·.1.2) = rs) (fun _ => True) rs.length w :=
  fun l J Jx W hW hJ hJx hY h0 => values1_in 4 (by omega) l Bt _ w0 a cap rs rfl hT hsh hl J Jx W (hb.trans (hW.mono hb.size)) hJ hY ((hW.cell (p := ⟨Bt, 0, none⟩) (World.block_lt_of_cell? w ⟨Bt, 0, none⟩ hBt)).trans hBt) h0

set_option maxHeartbeats 4000000 in
set_option maxRecDepth 100000 in
theorem copyZone_own {vo vr : Value} {o : List (List Int)} {rs : List Rec} {w : World} (h : HasZ w vo vr o rs) (ho1 : o.length ≤ 6) (ho2 : ∀ k, k < o.length → (o.getD k []).length ≤ 15) (hsh : ∀ i, i < rs.length → ShortR (rs.getD i recZ)) (hlen : rs.length ≤ 1000) :
    Calls Tryz.prog 80 #[.agg #[vo, vr]] w fun e w' => ∃ uo ur, e = .returned (.agg #[uo, ur]) ∧ OwnZ w.heap.size w'.heap.size w' uo ur o rs ∧ Below w.heap.size w w' := by
  obtain ⟨oa, oc, rfl, _⟩ := h.name.form
  obtain ⟨ra, rc, rfl, _⟩ := h.recs.form
  obtain ⟨hsz, k0, r0⟩ := box2 w (.cells #[.slice oa o.length oc, .slice ra rs.length rc] 55) #[.slice none 0 0, .slice none 0 0] 55
  have b0 := below2 w (.cells #[.slice oa o.length oc, .slice ra rs.length rc] 55) (.cells #[.slice none 0 0, .slice none 0 0] 55)
  have HH := hide h
  have HS := hide hsh
  have HO := hide ho2
  have KB := hide k0
  have KR := hide r0
  have zz := block_lt r0
  clear hsz k0 r0 h hsh ho2
  go_enter Tryz.func80, Tryz.ntmps80
  go_wp2_with fail
  generalize (w.alloc (.cells #[.slice oa o.length oc, .slice ra rs.length rc] 55)).alloc (.cells #[.slice none 0 0, .slice none 0 0] 55) = W at *
  have bd := below_drew (w := W)
  have bb := below_next b0 bd
  replace KB := hide (block_kept bd (unhide KB))
  replace KR := hide (block_kept bd (unhide KR))
  have z0 := bd.size
  clear bd b0
  refine wp_region_held_drew (S := (fun w' => w'.cell? ⟨w.heap.size, 0, none⟩ = some (.slice oa o.length oc) ∧ w'.cell? ⟨w.heap.size, 1, none⟩ = some (.slice ra rs.length rc))) (by kernel_rfl) (cells2 (unhide KB)) (fun hHeld => ?_)
  show wpAnyH _ _ _ _ _ 7 #[false, false, false, false, false, false, false] _ _
  generalize W.drew = W0 at *
  refine wpAnyH_take (i := 0) (oi := { dst := some 3, op := Op.fieldAddr 55 (Operand.tmp 1) 0, type := 0, pos := "l05_zone.go:157", after := #[], guard := none }) (v := .pointer (some ⟨w.heap.size, 0, none⟩)) rfl (by kernel_rfl) (by kernel_rfl) (by kernel_rfl) (fun _ _ _ h => h) (Or.inl ⟨by rfl, ?_⟩) hHeld ?_
  · (intro w hSw; (try dsimp only at hSw); go_simp)
  try simp only [Act.put, List.setIfInBounds_toArray, List.set_cons_zero, List.set_cons_succ]
  refine wpAnyH_take (i := 1) (oi := { dst := some 4, op := Op.load 53 (Operand.tmp 3), type := 53, pos := "l05_zone.go:157", after := #[{ on := 0, ground := Ground.data }], guard := none }) (v := .agg #[.slice oa o.length oc]) rfl (by kernel_rfl) (by kernel_rfl) (by kernel_rfl) (fun _ _ _ h => h) (Or.inl ⟨by rfl, ?_⟩) hHeld ?_
  · (intro w hSw; (try dsimp only at hSw); go_simp)
  try simp only [Act.put, List.setIfInBounds_toArray, List.set_cons_zero, List.set_cons_succ]
  refine wpAnyH_take (i := 2) (oi := { dst := some 5, op := Op.fieldAddr 55 (Operand.tmp 1) 1, type := 0, pos := "l05_zone.go:157", after := #[], guard := none }) (v := .pointer (some ⟨w.heap.size, 1, none⟩)) rfl (by kernel_rfl) (by kernel_rfl) (by kernel_rfl) (fun _ _ _ h => h) (Or.inl ⟨by rfl, ?_⟩) hHeld ?_
  · (intro w hSw; (try dsimp only at hSw); go_simp)
  try simp only [Act.put, List.setIfInBounds_toArray, List.set_cons_zero, List.set_cons_succ]
  refine wpAnyH_take (i := 3) (oi := { dst := some 6, op := Op.load 30 (Operand.tmp 5), type := 30, pos := "l05_zone.go:157", after := #[{ on := 2, ground := Ground.data }], guard := none }) (v := .slice ra rs.length rc) rfl (by kernel_rfl) (by kernel_rfl) (by kernel_rfl) (fun _ _ _ h => h) (Or.inl ⟨by rfl, ?_⟩) hHeld ?_
  · (intro w hSw; (try dsimp only at hSw); go_simp)
  try simp only [Act.put, List.setIfInBounds_toArray, List.set_cons_zero, List.set_cons_succ]
  refine wpAnyH_ready (rs := [4]) (by kernel_rfl) (by simp) (AllReadyH.cons (o := { dst := some 7, op := Op.call { callee := Callee.value (Operand.func 129), args := #[Operand.tmp 6], argTypes := #[30] }, type := 147, pos := "l05_zone.go:157", after := #[{ on := 3, ground := Ground.data }], guard := none }) rfl (fun K hK => ?_) AllReadyH.nil)
  have HK := hide hK
  clear hK hHeld
  go_simp
  refine (values_any ra rs.length rc _).mono ?_
  rintro e w1 ⟨rfl, hw1⟩
  have b1 : Below W0.heap.size W0 w1 := by rw [hw1]; exact below_alloc _
  have k1 : w1.heap[W0.heap.size]? = some (.cells #[.slice ra rs.length rc] 30) := by rw [hw1]; exact heap_alloc_new _ _
  replace KB := hide (block_kept b1 (unhide KB))
  replace KR := hide (block_kept b1 (unhide KR))
  replace bb := below_next bb b1
  have z1 := b1.size
  have K1 := hide k1
  clear hw1 b1 k1
  go_simp
  refine (unhide HK).out _ _ (cells2 (unhide KB)) (fun hHeld => ?_)
  clear HK K
  try simp only [List.setIfInBounds_toArray, List.set_cons_zero, List.set_cons_succ]
  have HZ := hide ((callsIn_wide (n := 5)).1 (zoneOf_in bb ((unhide HH).name.below bb) ho1 (unhide HO) hlen (enters_of Tryz.func161 (by kernel_rfl) rfl) (values_stops W0.heap.size w w1 ra rc rs (unhide HH).recs (unhide HS) (by omega) bb (block_one (unhide K1)))))
  refine wpAnyH_ready (rs := [5]) (by kernel_rfl) (by simp) (AllReadyH.cons (o := { dst := some 8, op := Op.call { callee := Callee.value (Operand.func 128), args := #[Operand.tmp 4, Operand.tmp 7], argTypes := #[53, 147] }, type := 55, pos := "l05_zone.go:157", after := #[{ on := 1, ground := Ground.data }, { on := 4, ground := Ground.data }, { on := 4, ground := Ground.chain }], guard := none }) rfl (fun K hK => ?_) AllReadyH.nil)
  have HK := hide hK
  clear hK hHeld
  go_simp
  refine (unhide HZ).mono ?_
  rintro e w2 ⟨uo, ur, rfl, ⟨s, s1, s2, oN, oR⟩, b2⟩
  obtain ⟨pa, pc, rfl, _⟩ := oN.hasL.form
  obtain ⟨qa, qc, rfl, _⟩ := oR.form
  replace KB := hide (block_kept b2 (unhide KB))
  replace KR := hide (block_kept b2 (unhide KR))
  replace bb := below_next bb b2
  have z2 := b2.size
  have ON := hide oN
  have OR := hide oR
  clear b2 oN oR HZ
  go_simp
  refine (unhide HK).out _ _ (cells2 (unhide KB)) (fun hHeld => ?_)
  clear HK K
  try simp only [List.setIfInBounds_toArray, List.set_cons_zero, List.set_cons_succ]
  have u5 := (outside_set w2 (w.heap.size + 1) 0 (.slice pa o.length pc)).trans (outside_set _ (w.heap.size + 1) 1 (.slice qa rs.length qc))
  have KF : Hid (((w2.setCell ⟨w.heap.size + 1, 0, none⟩ (.slice pa o.length pc)).setCell ⟨w.heap.size + 1, 1, none⟩ (.slice qa rs.length qc)).heap[w.heap.size + 1]? = some (.cells #[.slice pa o.length pc, .slice qa rs.length qc] 55)) := block_setAt (block_setAt (unhide KR) 0 _) 1 _
  have KB5 := hide (u5.kept (unhide KB) (by omega))
  have ON5 := hide ((unhide ON).outside u5 (.inr (by omega)))
  have OR5 := hide ((unhide OR).outside u5 (.inr (by omega)))
  have bb5 := u5.below bb (by omega)
  have z5 := u5.size
  obtain ⟨d0, d1⟩ := cells2 (unhide KR)
  obtain ⟨f0, f1⟩ := frozen2 (unhide KR)
  clear u5
  refine wpAnyH_ready (rs := [6]) (by kernel_rfl) (by simp) (AllReadyH.cons (o := { dst := none, op := Op.store 55 (Operand.tmp 2) (Operand.tmp 8), type := 0, pos := "l05_zone.go:157", after := #[{ on := 5, ground := Ground.data }, { on := 5, ground := Ground.chain }, { on := 0, ground := Ground.phase }, { on := 1, ground := Ground.phase }, { on := 2, ground := Ground.phase }, { on := 3, ground := Ground.phase }, { on := 4, ground := Ground.phase }, { on := 5, ground := Ground.phase }], guard := none }) rfl (fun K hK => ?_) AllReadyH.nil)
  have HK := hide hK
  clear hK hHeld
  go_simp
  refine (unhide HK).out _ _ (cells2 (unhide KB5)) (fun hHeld => ?_)
  clear HK K d0 d1 f0 f1 hHeld
  refine wpAnyH_done (by kernel_rfl) ?_ _
  go_wp2_with fail
  refine bodyPost_ret (results_cell_row rfl _ _ (w.heap.size + 1) 55 #[.slice pa o.length pc, .slice qa rs.length qc] (0, 0) _ rfl (unhide KF) Tryz.underlying55 rfl (by kernel_rfl)) rfl ?_
  exact ⟨_, _, rfl, ⟨s, by omega, by omega, (unhide ON5).wide (by omega) (Nat.le_refl _), (unhide OR5).wide (Nat.le_refl _) (by omega)⟩, bb5⟩
end Go.Proofs.YtdghbcjlahjjdaaGreat

namespace Go.Proofs.YtdghbcjlahjjdaaGreat
open Go.RowKit
set_option linter.unusedVariables false

/-- The types of records. -/
def typeOk (t : Int) : Bool := decide (t = 1 ∨ t = 2 ∨ t = 5 ∨ t = 6 ∨ t = 12 ∨ t = 16 ∨ t = 49)

/-- Which data a type has. -/
def kindV (t : Int) : Value := if t = 1 then .iface 187 (.agg #[.int .i64 0]) else if t = 2 ∨ t = 5 ∨ t = 12 then .iface 189 (.agg #[.slice none 0 0]) else if t = 6 then .iface 191 (.agg #[.slice none 0 0, .slice none 0 0]) else if t = 16 ∨ t = 49 then .iface 193 (.agg #[.slice none 0 0]) else .nilIface

theorem type_cases (t : Int) : t = 1 ∨ t = 2 ∨ t = 5 ∨ t = 6 ∨ t = 12 ∨ t = 16 ∨ t = 49 ∨ typeOk t = false := by
  by_cases h : t = 1 ∨ t = 2 ∨ t = 5 ∨ t = 6 ∨ t = 12 ∨ t = 16 ∨ t = 49
  · omega
  · have : typeOk t = false := decide_eq_false h
    simp [this]
theorem type_other {t : Int} (h : typeOk t = false) : (t == 1) = false ∧ (t == 2) = false ∧ (t == 5) = false ∧ (t == 6) = false ∧ (t == 12) = false ∧ (t == 16) = false ∧ (t == 49) = false := by
  have h' : ¬ (t = 1 ∨ t = 2 ∨ t = 5 ∨ t = 6 ∨ t = 12 ∨ t = 16 ∨ t = 49) := of_decide_eq_false h
  simp only [beq_eq_false_iff_ne]
  omega
theorem kindV_other {t : Int} (h : typeOk t = false) : kindV t = .nilIface := by
  have h' : ¬ (t = 1 ∨ t = 2 ∨ t = 5 ∨ t = 6 ∨ t = 12 ∨ t = 16 ∨ t = 49) := of_decide_eq_false h
  unfold kindV
  rw [if_neg (by omega), if_neg (by omega), if_neg (by omega), if_neg (by omega)]

set_option maxHeartbeats 800000 in
set_option maxRecDepth 100000 in
theorem kindOf_any (t : Int) (w : World) : Calls Tryz.prog 176 #[.int .i64 t] w fun e w' => e = .returned (kindV t) ∧ w = w' := by
  rcases type_cases t with rfl | rfl | rfl | rfl | rfl | rfl | rfl | h
  iterate 7
    · go_enter Tryz.func176, Tryz.ntmps176
      go_wp2
      go_ret
      exact ⟨rfl, rfl⟩
  · obtain ⟨h1, h2, h3, h4, h5, h6, h7⟩ := type_other h
    rw [kindV_other h]
    go_enter Tryz.func176, Tryz.ntmps176
    go_wp2
    go_ret
    exact ⟨rfl, rfl⟩

set_option maxHeartbeats 800000 in
set_option maxRecDepth 100000 in
theorem specTypeOk_any (t : Int) (w : World) : Calls Tryz.prog 136 #[.int .i64 t] w fun e w' => e = .returned (.bool (typeOk t)) ∧ w = w' := by
  rcases type_cases t with rfl | rfl | rfl | rfl | rfl | rfl | rfl | h
  iterate 7
    · go_enter Tryz.func136, Tryz.ntmps136
      go_wp2
      go_ret
      exact ⟨rfl, rfl⟩
  · obtain ⟨h1, h2, h3, h4, h5, h6, h7⟩ := type_other h
    rw [h]
    go_enter Tryz.func136, Tryz.ntmps136
    go_wp2
    go_ret
    exact ⟨rfl, rfl⟩

set_option maxHeartbeats 800000 in
set_option maxRecDepth 100000 in
theorem implTypeOk_any (t : Int) (w : World) : Calls Tryz.prog 163 #[.int .i64 t] w fun e w' => e = .returned (.bool (typeOk t)) ∧ w = w' := by
  have hk : (kindV t = .nilIface ∧ typeOk t = false) ∨ ∃ ty v, kindV t = .iface ty v ∧ typeOk t = true := by
    rcases type_cases t with rfl | rfl | rfl | rfl | rfl | rfl | rfl | h
    iterate 7 exact .inr ⟨_, _, rfl, rfl⟩
    exact .inl ⟨kindV_other h, h⟩
  go_enter Tryz.func163, Tryz.ntmps163
  go_wp2_with fail
  refine (kindOf_any t _).mono ?_
  rintro e w1 ⟨rfl, rfl⟩
  rcases hk with ⟨h1, h2⟩ | ⟨ty, v, h1, h2⟩
  · rw [h1]
    go_wp2
    go_ret
    exact ⟨by rw [h2]; rfl, rfl⟩
  · rw [h1]
    go_wp2
    go_ret
    exact ⟨by rw [h2]; rfl, rfl⟩
end Go.Proofs.YtdghbcjlahjjdaaGreat

namespace Go.Proofs.YtdghbcjlahjjdaaGreat
open Go.RowKit

def named (t : Int) : Bool := decide (t = 2 ∨ t = 5 ∨ t = 6 ∨ t = 12)
def texted (t : Int) : Bool := decide (t = 16 ∨ t = 49)

/-- The data are as the type wants them. -/
def dataOk (r : Rec) : Bool :=
  (if r.type = 1 then decide (0 ≤ r.addr ∧ r.addr ≤ 4294967295) else decide (r.addr = 0)) && ((if named r.type = true then nameOk r.to else decide (r.to.length = 0)) && ((if texted r.type = true then decide (r.text.length ≤ 40) else decide (r.text.length = 0)) &&
  (if r.type = 6 then decide (r.nums.length = 2 ∧ 0 ≤ r.nums.getD 0 0 ∧ r.nums.getD 0 0 ≤ 4294967295 ∧ 0 ≤ r.nums.getD 1 0 ∧ r.nums.getD 1 0 ≤ 100000) else decide (r.nums.length = 0))))
def rrOk (r : Rec) : Bool := nameOk r.name && (typeOk r.type && (decide (0 ≤ r.ttl ∧ r.ttl ≤ 100000) && dataOk r))

theorem HasI.two {w : World} {v : Value} {x y : Int} (h : HasI w v [x, y]) : ∃ g off cap, v = .slice (some ⟨g, off, none⟩) 2 cap ∧ g < w.heap.size ∧ w.cell? ⟨g, off, none⟩ = some (.int .i64 x) ∧ w.cell? ⟨g, off + 1, none⟩ = some (.int .i64 y) := by
  rcases h with ⟨_, h⟩ | ⟨g, off, cap, hv, hlt, _, _, hc⟩
  · cases h
  · exact ⟨g, off, cap, hv, hlt, hc 0 (by simp), hc 1 (by simp)⟩
theorem two_of {l : List Int} (h : l.length = 2) : ∃ x y, l = [x, y] := by
  match l, h with
  | [x, y], _ => exact ⟨x, y, rfl⟩
theorem nil_of {α : Type} {l : List α} (h : l.length = 0) : l = [] := List.eq_nil_of_length_eq_zero h
end Go.Proofs.YtdghbcjlahjjdaaGreat
