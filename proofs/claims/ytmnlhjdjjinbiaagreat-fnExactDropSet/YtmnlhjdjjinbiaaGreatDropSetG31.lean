/-
  Contract of the program's copyZone: a zone of its own with the same name and records. Plain facts: what an update asks for. No program is named here. Plain facts: what Drop and DropSet answer, and how large a zone's book is. No program is named here. Plain facts: three results of a function. No program is named here.
-/
import Derived.Test.YtmnlhjdjjinbiaaGreatDropSetG28
import Derived.Test.YtmnlhjdjjinbiaaGreatDropSetG05
import Derived.Deep.RegionHeld3
import Derived.Test.YtmnlhjdjjinbiaaGreatDropSetG10
import Derived.Test.YtmnlhjdjjinbiaaGreatDropSetG27
import Derived.Test.YtmnlhjdjjinbiaaGreatDropSetG17
import Derived.Test.YtmnlhjdjjinbiaaGreatDropSetG00
namespace Go.Proofs.YtmnlhjdjjinbiaaGreat
open Go.RowKit Go.Shelf
set_option linter.unusedVariables false

set_option maxHeartbeats 400000 in
set_option maxRecDepth 100000 in
theorem values_any (a : Option Addr) (len cap : Nat) (w : World) : Calls Tryz.prog 95 #[.slice a len cap] w fun e w' => e = .returned (.func (.func 122) #[] #[.pointer (some ⟨w.heap.size, 0, none⟩)]) ∧ w' = w.alloc (.cells #[.slice a len cap] 35) := by
  go_enter Tryz.func95, Tryz.ntmps95
  go_wp2
  go_ret
  exact ⟨rfl, rfl⟩
theorem values_stops (Bt : Nat) (w0 w : World) (a : Option Addr) (cap : Nat) (rs : List Rec) (hT : HasRs w0 (.slice a rs.length cap) rs) (hsh : ∀ i, i < rs.length → ShortR (rs.getD i recZ)) (hl : rs.length ≤ 1048576) (hb : Below w0.heap.size w0 w) (hBt : w.cell? ⟨Bt, 0, none⟩ = some (.slice a rs.length cap)) :
    SeqStopsK Fence.wide 4 Tryz.prog 122 #[.pointer (some ⟨Bt, 0, none⟩)] (fun x : RecV w0 => encV x) (Below w0.heap.size) (fun xs => xs.map (·.1.2) = rs) (fun _ => True) rs.length w :=
  fun l J Jx W hW hJ hJx hY h0 => values1_in 4 (by omega) l Bt _ w0 a cap rs rfl hT hsh hl J Jx W (hb.trans (hW.mono hb.size)) hJ hY ((hW.cell (p := ⟨Bt, 0, none⟩) (World.block_lt_of_cell? w ⟨Bt, 0, none⟩ hBt)).trans hBt) h0

set_option maxHeartbeats 4000000 in
set_option maxRecDepth 100000 in
theorem copyZone_own {vo vr : Value} {o : List (List Int)} {rs : List Rec} {w : World} (h : HasZ w vo vr o rs) (ho1 : o.length ≤ 6) (ho2 : ∀ k, k < o.length → (o.getD k []).length ≤ 15) (hsh : ∀ i, i < rs.length → ShortR (rs.getD i recZ)) (hlen : rs.length ≤ 1000) :
    Calls Tryz.prog 51 #[.agg #[vo, vr]] w fun e w' => ∃ uo ur, e = .returned (.agg #[uo, ur]) ∧ OwnZ w.heap.size w'.heap.size w' uo ur o rs ∧ Below w.heap.size w w' := by
  obtain ⟨oa, oc, rfl, _⟩ := h.name.form
  obtain ⟨ra, rc, rfl, _⟩ := h.recs.form
  obtain ⟨hsz, k0, r0⟩ := box2 w (.cells #[.slice oa o.length oc, .slice ra rs.length rc] 37) #[.slice none 0 0, .slice none 0 0] 37
  have b0 := below2 w (.cells #[.slice oa o.length oc, .slice ra rs.length rc] 37) (.cells #[.slice none 0 0, .slice none 0 0] 37)
  have HH := hide h
  have HS := hide hsh
  have HO := hide ho2
  have KB := hide k0
  have KR := hide r0
  have zz := block_lt r0
  clear hsz k0 r0 h hsh ho2
  go_enter Tryz.func51, Tryz.ntmps51
  go_wp2_with fail
  generalize (w.alloc (.cells #[.slice oa o.length oc, .slice ra rs.length rc] 37)).alloc (.cells #[.slice none 0 0, .slice none 0 0] 37) = W at *
  have bd := below_drew (w := W)
  have bb := below_next b0 bd
  replace KB := hide (block_kept bd (unhide KB))
  replace KR := hide (block_kept bd (unhide KR))
  have z0 := bd.size
  clear bd b0
  refine wp_region_held_drew (S := (fun w' => w'.cell? ⟨w.heap.size, 0, none⟩ = some (.slice oa o.length oc) ∧ w'.cell? ⟨w.heap.size, 1, none⟩ = some (.slice ra rs.length rc))) (by kernel_rfl) (cells2 (unhide KB)) (fun hHeld => ?_)
  show wpAnyH _ _ _ _ _ 7 #[false, false, false, false, false, false, false] _ _
  generalize W.drew = W0 at *
  refine wpAnyH_take (i := 0) (oi := { dst := some 3, op := Op.fieldAddr 37 (Operand.tmp 1) 0, type := 0, pos := "l05_zone.go:157", after := #[], guard := none }) (v := .pointer (some ⟨w.heap.size, 0, none⟩)) rfl (by kernel_rfl) (by kernel_rfl) (by kernel_rfl) (fun _ _ _ h => h) (Or.inl ⟨by rfl, ?_⟩) hHeld ?_
  · (intro w hSw; (try dsimp only at hSw); go_simp)
  try simp only [Act.put, List.setIfInBounds_toArray, List.set_cons_zero, List.set_cons_succ]
  refine wpAnyH_take (i := 1) (oi := { dst := some 4, op := Op.load 34 (Operand.tmp 3), type := 34, pos := "l05_zone.go:157", after := #[{ on := 0, ground := Ground.data }], guard := none }) (v := .agg #[.slice oa o.length oc]) rfl (by kernel_rfl) (by kernel_rfl) (by kernel_rfl) (fun _ _ _ h => h) (Or.inl ⟨by rfl, ?_⟩) hHeld ?_
  · (intro w hSw; (try dsimp only at hSw); go_simp)
  try simp only [Act.put, List.setIfInBounds_toArray, List.set_cons_zero, List.set_cons_succ]
  refine wpAnyH_take (i := 2) (oi := { dst := some 5, op := Op.fieldAddr 37 (Operand.tmp 1) 1, type := 0, pos := "l05_zone.go:157", after := #[], guard := none }) (v := .pointer (some ⟨w.heap.size, 1, none⟩)) rfl (by kernel_rfl) (by kernel_rfl) (by kernel_rfl) (fun _ _ _ h => h) (Or.inl ⟨by rfl, ?_⟩) hHeld ?_
  · (intro w hSw; (try dsimp only at hSw); go_simp)
  try simp only [Act.put, List.setIfInBounds_toArray, List.set_cons_zero, List.set_cons_succ]
  refine wpAnyH_take (i := 3) (oi := { dst := some 6, op := Op.load 35 (Operand.tmp 5), type := 35, pos := "l05_zone.go:157", after := #[{ on := 2, ground := Ground.data }], guard := none }) (v := .slice ra rs.length rc) rfl (by kernel_rfl) (by kernel_rfl) (by kernel_rfl) (fun _ _ _ h => h) (Or.inl ⟨by rfl, ?_⟩) hHeld ?_
  · (intro w hSw; (try dsimp only at hSw); go_simp)
  try simp only [Act.put, List.setIfInBounds_toArray, List.set_cons_zero, List.set_cons_succ]
  refine wpAnyH_ready (rs := [4]) (by kernel_rfl) (by simp) (AllReadyH.cons (o := { dst := some 7, op := Op.call { callee := Callee.value (Operand.func 95), args := #[Operand.tmp 6], argTypes := #[35] }, type := 80, pos := "l05_zone.go:157", after := #[{ on := 3, ground := Ground.data }], guard := none }) rfl (fun K hK => ?_) AllReadyH.nil)
  have HK := hide hK
  clear hK hHeld
  go_simp
  refine (values_any ra rs.length rc _).mono ?_
  rintro e w1 ⟨rfl, hw1⟩
  have b1 : Below W0.heap.size W0 w1 := by rw [hw1]; exact below_alloc _
  have k1 : w1.heap[W0.heap.size]? = some (.cells #[.slice ra rs.length rc] 35) := by rw [hw1]; exact heap_alloc_new _ _
  replace KB := hide (block_kept b1 (unhide KB))
  replace KR := hide (block_kept b1 (unhide KR))
  replace bb := below_next bb b1
  have z1 := b1.size
  have K1 := hide k1
  clear hw1 b1 k1
  go_simp
  refine (unhide HK).out _ _ (cells2 (unhide KB)) (fun hHeld => ?_)
  clear HK K
  try simp only [List.setIfInBounds_toArray, List.set_cons_zero, List.set_cons_succ]
  have HZ := hide ((callsIn_wide (n := 5)).1 (zoneOf_in bb ((unhide HH).name.below bb) ho1 (unhide HO) hlen (enters_of Tryz.func122 (by kernel_rfl) rfl) (values_stops W0.heap.size w w1 ra rc rs (unhide HH).recs (unhide HS) (by omega) bb (block_one (unhide K1)))))
  refine wpAnyH_ready (rs := [5]) (by kernel_rfl) (by simp) (AllReadyH.cons (o := { dst := some 8, op := Op.call { callee := Callee.value (Operand.func 49), args := #[Operand.tmp 4, Operand.tmp 7], argTypes := #[34, 80] }, type := 37, pos := "l05_zone.go:157", after := #[{ on := 1, ground := Ground.data }, { on := 4, ground := Ground.data }, { on := 4, ground := Ground.chain }], guard := none }) rfl (fun K hK => ?_) AllReadyH.nil)
  have HK := hide hK
  clear hK hHeld
  go_simp
  refine (unhide HZ).mono ?_
  rintro e w2 ⟨uo, ur, rfl, ⟨s, s1, s2, oN, oR⟩, b2⟩
  obtain ⟨pa, pc, rfl, _⟩ := oN.hasL.form
  obtain ⟨qa, qc, rfl, _⟩ := oR.form
  replace KB := hide (block_kept b2 (unhide KB))
  replace KR := hide (block_kept b2 (unhide KR))
  replace bb := below_next bb b2
  have z2 := b2.size
  have ON := hide oN
  have OR := hide oR
  clear b2 oN oR HZ
  go_simp
  refine (unhide HK).out _ _ (cells2 (unhide KB)) (fun hHeld => ?_)
  clear HK K
  try simp only [List.setIfInBounds_toArray, List.set_cons_zero, List.set_cons_succ]
  have u5 := (outside_set w2 (w.heap.size + 1) 0 (.slice pa o.length pc)).trans (outside_set _ (w.heap.size + 1) 1 (.slice qa rs.length qc))
  have KF : Hid (((w2.setCell ⟨w.heap.size + 1, 0, none⟩ (.slice pa o.length pc)).setCell ⟨w.heap.size + 1, 1, none⟩ (.slice qa rs.length qc)).heap[w.heap.size + 1]? = some (.cells #[.slice pa o.length pc, .slice qa rs.length qc] 37)) := block_setAt (block_setAt (unhide KR) 0 _) 1 _
  have KB5 := hide (u5.kept (unhide KB) (by omega))
  have ON5 := hide ((unhide ON).outside u5 (.inr (by omega)))
  have OR5 := hide ((unhide OR).outside u5 (.inr (by omega)))
  have bb5 := u5.below bb (by omega)
  have z5 := u5.size
  obtain ⟨d0, d1⟩ := cells2 (unhide KR)
  obtain ⟨f0, f1⟩ := frozen2 (unhide KR)
  clear u5
  refine wpAnyH_ready (rs := [6]) (by kernel_rfl) (by simp) (AllReadyH.cons (o := { dst := none, op := Op.store 37 (Operand.tmp 2) (Operand.tmp 8), type := 0, pos := "l05_zone.go:157", after := #[{ on := 5, ground := Ground.data }, { on := 5, ground := Ground.chain }, { on := 0, ground := Ground.phase }, { on := 1, ground := Ground.phase }, { on := 2, ground := Ground.phase }, { on := 3, ground := Ground.phase }, { on := 4, ground := Ground.phase }, { on := 5, ground := Ground.phase }], guard := none }) rfl (fun K hK => ?_) AllReadyH.nil)
  have HK := hide hK
  clear hK hHeld
  go_simp
  refine (unhide HK).out _ _ (cells2 (unhide KB5)) (fun hHeld => ?_)
  clear HK K d0 d1 f0 f1 hHeld
  refine wpAnyH_done (by kernel_rfl) ?_ _
  go_wp2_with fail
  refine bodyPost_ret (results_cell_row rfl _ _ (w.heap.size + 1) 37 #[.slice pa o.length pc, .slice qa rs.length qc] (0, 0) _ rfl (unhide KF) Tryz.underlying37 rfl (by kernel_rfl)) rfl ?_
  exact ⟨_, _, rfl, ⟨s, by omega, by omega, (unhide ON5).wide (by omega) (Nat.le_refl _), (unhide OR5).wide (Nat.le_refl _) (by omega)⟩, bb5⟩
end Go.Proofs.YtmnlhjdjjinbiaaGreat

namespace Go.Proofs.YtmnlhjdjjinbiaaGreat
open Go.RowKit
set_option linter.unusedVariables false

def asked (t : Int) : Bool := typeOk t || decide (t = 255)
def emptyOk (r : Rec) : Bool := decide (r.addr = 0 ∧ r.to.length = 0 ∧ r.text.length = 0 ∧ r.nums.length = 0)
def bareOk (r : Rec) : Bool := nameOk r.name && (asked r.type && (decide (r.ttl = 0) && emptyOk r))
def wantOk (r : Rec) (c : Int) (b : Bool) : Bool := if b = true then decide (c = 254 ∨ c = 255) && bareOk r else if c = 1 then rrOk r else if c = 254 then rrOk r && decide (r.ttl = 0) else false

theorem cells9 {w : World} {b : Nat} {c0 c1 c2 c3 c4 c5 c6 c7 c8 : Value} {t : TypeId} (h : w.heap[b]? = some (.cells #[c0, c1, c2, c3, c4, c5, c6, c7, c8] t)) :
    w.cell? ⟨b, 0, none⟩ = some c0 ∧ w.cell? ⟨b, 1, none⟩ = some c1 ∧ w.cell? ⟨b, 2, none⟩ = some c2 ∧ w.cell? ⟨b, 3, none⟩ = some c3 ∧ w.cell? ⟨b, 4, none⟩ = some c4 ∧ w.cell? ⟨b, 5, none⟩ = some c5 ∧ w.cell? ⟨b, 6, none⟩ = some c6 ∧ w.cell? ⟨b, 7, none⟩ = some c7 ∧ w.cell? ⟨b, 8, none⟩ = some c8 :=
  ⟨block_cell h 0, block_cell h 1, block_cell h 2, block_cell h 3, block_cell h 4, block_cell h 5, block_cell h 6, block_cell h 7, block_cell h 8⟩
theorem frozen9 {w : World} {b : Nat} {c : Array Value} {t : TypeId} (h : w.heap[b]? = some (.cells c t)) :
    w.frozen? ⟨b, 0, none⟩ = false ∧ w.frozen? ⟨b, 1, none⟩ = false ∧ w.frozen? ⟨b, 2, none⟩ = false ∧ w.frozen? ⟨b, 3, none⟩ = false ∧ w.frozen? ⟨b, 4, none⟩ = false ∧ w.frozen? ⟨b, 5, none⟩ = false ∧ w.frozen? ⟨b, 6, none⟩ = false ∧ w.frozen? ⟨b, 7, none⟩ = false ∧ w.frozen? ⟨b, 8, none⟩ = false :=
  ⟨block_frozen h 0, block_frozen h 1, block_frozen h 2, block_frozen h 3, block_frozen h 4, block_frozen h 5, block_frozen h 6, block_frozen h 7, block_frozen h 8⟩
/-- All nine cells of a struct, one behind the other. -/
def set9 (w : World) (b : Nat) (c0 c1 c2 c3 c4 c5 c6 c7 c8 : Value) : World := ((((((((w.setCell ⟨b, 0, none⟩ c0).setCell ⟨b, 1, none⟩ c1).setCell ⟨b, 2, none⟩ c2).setCell ⟨b, 3, none⟩ c3).setCell ⟨b, 4, none⟩ c4).setCell ⟨b, 5, none⟩ c5).setCell ⟨b, 6, none⟩ c6).setCell ⟨b, 7, none⟩ c7).setCell ⟨b, 8, none⟩ c8
theorem set9_is {w : World} {b : Nat} {c0 c1 c2 c3 c4 c5 c6 c7 c8 a0 a1 a2 a3 a4 a5 a6 a7 a8 : Value} {t : TypeId} (h : w.heap[b]? = some (.cells #[a0, a1, a2, a3, a4, a5, a6, a7, a8] t)) :
    (set9 w b c0 c1 c2 c3 c4 c5 c6 c7 c8).heap[b]? = some (.cells #[c0, c1, c2, c3, c4, c5, c6, c7, c8] t) ∧ Outside b (b + 1) w (set9 w b c0 c1 c2 c3 c4 c5 c6 c7 c8) := by
  have h1 : (w.setCell ⟨b, 0, none⟩ c0).heap[b]? = some (.cells #[c0, a1, a2, a3, a4, a5, a6, a7, a8] t) := block_setAt h 0 c0
  have h2 : ((w.setCell ⟨b, 0, none⟩ c0).setCell ⟨b, 1, none⟩ c1).heap[b]? = some (.cells #[c0, c1, a2, a3, a4, a5, a6, a7, a8] t) := block_setAt h1 1 c1
  have u2 : Outside b (b + 1) w ((w.setCell ⟨b, 0, none⟩ c0).setCell ⟨b, 1, none⟩ c1) := (outside_set _ _ _ _).trans (outside_set _ _ _ _)
  unfold set9
  generalize (w.setCell ⟨b, 0, none⟩ c0).setCell ⟨b, 1, none⟩ c1 = w2 at *
  have h3 : (w2.setCell ⟨b, 2, none⟩ c2).heap[b]? = some (.cells #[c0, c1, c2, a3, a4, a5, a6, a7, a8] t) := block_setAt h2 2 c2
  have u3 := u2.trans (outside_set w2 b 2 c2)
  generalize w2.setCell ⟨b, 2, none⟩ c2 = w3 at *
  have h4 : (w3.setCell ⟨b, 3, none⟩ c3).heap[b]? = some (.cells #[c0, c1, c2, c3, a4, a5, a6, a7, a8] t) := block_setAt h3 3 c3
  have u4 := u3.trans (outside_set w3 b 3 c3)
  generalize w3.setCell ⟨b, 3, none⟩ c3 = w4 at *
  have h5 : (w4.setCell ⟨b, 4, none⟩ c4).heap[b]? = some (.cells #[c0, c1, c2, c3, c4, a5, a6, a7, a8] t) := block_setAt h4 4 c4
  have u5 := u4.trans (outside_set w4 b 4 c4)
  generalize w4.setCell ⟨b, 4, none⟩ c4 = w5 at *
  have h6 : (w5.setCell ⟨b, 5, none⟩ c5).heap[b]? = some (.cells #[c0, c1, c2, c3, c4, c5, a6, a7, a8] t) := block_setAt h5 5 c5
  have u6 := u5.trans (outside_set w5 b 5 c5)
  generalize w5.setCell ⟨b, 5, none⟩ c5 = w6 at *
  have h7 : (w6.setCell ⟨b, 6, none⟩ c6).heap[b]? = some (.cells #[c0, c1, c2, c3, c4, c5, c6, a7, a8] t) := block_setAt h6 6 c6
  have u7 := u6.trans (outside_set w6 b 6 c6)
  generalize w6.setCell ⟨b, 6, none⟩ c6 = w7 at *
  have h8 : (w7.setCell ⟨b, 7, none⟩ c7).heap[b]? = some (.cells #[c0, c1, c2, c3, c4, c5, c6, c7, a8] t) := block_setAt h7 7 c7
  have u8 := u7.trans (outside_set w7 b 7 c7)
  generalize w7.setCell ⟨b, 7, none⟩ c7 = w8 at *
  exact ⟨block_setAt h8 8 c8, u8.trans (outside_set w8 b 8 c8)⟩
end Go.Proofs.YtmnlhjdjjinbiaaGreat

namespace Go.Proofs.YtmnlhjdjjinbiaaGreat
open Go.RowKit
set_option linter.unusedVariables false

/-- At most m pages of at most m records. -/
def SizeB (m : Nat) (B : Bk) : Prop := B.length ≤ m ∧ ∀ q ∈ B, q.2.length ≤ m
theorem putA_length {κ α : Type} [DecidableEq κ] {k : κ} {v : α} : ∀ {l : List (κ × α)}, (putA k v l).length ≤ l.length + 1
  | [] => by simp [putA]
  | (a, u) :: t => by
    unfold putA
    split
    · simp
    · have := putA_length (k := k) (v := v) (l := t)
      simp only [List.length_cons]
      omega
theorem delA_length {κ β : Type} [DecidableEq κ] {k : κ} : ∀ {l : List (κ × β)}, (delA k l).length ≤ l.length
  | [] => by simp [delA]
  | (a, u) :: t => by
    unfold delA
    split
    · simp
    · have := delA_length (k := k) (l := t)
      simp only [List.length_cons]
      omega
theorem SizeB.put {m : Nat} {B : Bk} (h : SizeB m B) (kn kd : ByteArray) (r : Rec) : SizeB (m + 1) (bkPut kn kd r B) := by
  unfold bkPut
  refine ⟨Nat.le_trans putA_length (by have := h.1; omega), fun q hq => ?_⟩
  rcases mem_putA hq with rfl | hq
  · refine Nat.le_trans putA_length ?_
    have : ((lookA kn B).getD []).length ≤ m := by
      cases hl : lookA kn B with
      | none => simp
      | some P => exact h.2 _ (lookA_in hl)
    omega
  · have := h.2 q hq
    omega
theorem SizeB.mono {m m' : Nat} {B : Bk} (h : SizeB m B) (hm : m ≤ m') : SizeB m' B := ⟨Nat.le_trans h.1 hm, fun q hq => Nat.le_trans (h.2 q hq) hm⟩
theorem SizeB.del {m : Nat} {B : Bk} (h : SizeB m B) (kn kd : ByteArray) : SizeB m (bkDel kn kd B) := by
  unfold bkDel
  refine ⟨by rw [List.length_map]; exact h.1, fun q hq => ?_⟩
  obtain ⟨x, hx, rfl⟩ := List.mem_map.1 hq
  split
  · exact Nat.le_trans delA_length (h.2 x hx)
  · exact h.2 x hx
theorem SizeB.drop {m : Nat} {B : Bk} (h : SizeB m B) (r : Rec) : SizeB m (bkDrop r B).1 := by
  unfold bkDrop
  split
  · exact h.del _ _
  · exact h
theorem SizeB.dropAll {m : Nat} : ∀ {L : List Rec} {B : Bk}, SizeB m B → SizeB m (dropAll L B).1
  | [], B, h => h
  | r :: t, B, h => (h.drop r).dropAll (L := t)
theorem bookZ_size : ∀ (rs : List Rec) (m : Nat) (B : Bk), SizeB m B → SizeB (m + rs.length) (rs.foldl (fun B r => bkPut (strOfNums (keyN r.name)) (keyR r) r B) B)
  | [], m, B, h => h
  | r :: t, m, B, h => by
    have := bookZ_size t (m + 1) _ (h.put (strOfNums (keyN r.name)) (keyR r) r)
    simp only [List.foldl_cons, List.length_cons]
    exact this.mono (by omega)
theorem book_60 {o : List (List Int)} {rs : List Rec} (hz : zoneOk o rs = true) : SizeB 60 (bookZ rs) :=
  (bookZ_size rs 0 [] ⟨Nat.le_refl _, fun q hq => by simp at hq⟩).mono (by have := (zone_short hz).2.2; omega)
theorem good_short {B : Bk} (h : GoodB B) : ∀ q ∈ B, ∀ x ∈ q.2, ShortR x.2 := fun q hq x hx => short_rec ((h.pages q hq).keys x hx).2.1

/-- Those of which r is not one (the SOA stays). -/
def dropL (r : Rec) (rs : List Rec) : List Rec := rs.filter (fun x => !decide (cmpR x r = 0 ∧ r.type ≠ 6))
def dropOf (o : List (List Int)) (rs : List Rec) (r : Rec) : (List (List Int) × List Rec) × Bool :=
  if zoneOk o rs = true ∧ rrOk r = true then ((o, dropL r rs), (bkDrop r (bookZ rs)).2) else (([], []), false)
theorem drop_sorted {o : List (List Int)} {rs : List Rec} (hz : zoneOk o rs = true) {r : Rec} (hr : rrOk r = true) : sortB (bkDrop r (bookZ rs)).1 = dropL r rs := by
  have hm := bkDrop_good (bookZ_good hz) r
  refine sortB_is hm ((zone_asc hz).filter _) (fun x => ?_)
  unfold dropL
  rw [List.mem_filter, Bool.not_eq_true', decide_eq_false_iff_not]
  constructor
  · rintro ⟨h1, h2⟩
    exact (bkDrop_mem (bookZ_good hz) hr (oks_of hz x h1)).2 ⟨(bookZ_mem hz x).1 h1, h2⟩
  · intro h
    have hx : rrOk x = true := InB.ok hm h
    obtain ⟨h1, h2⟩ := (bkDrop_mem (bookZ_good hz) hr hx).1 h
    exact ⟨(bookZ_mem hz x).2 h1, h2⟩
theorem dropL_short {o : List (List Int)} {rs : List Rec} (hz : zoneOk o rs = true) (r : Rec) : (dropL r rs).length ≤ 60 ∧ ∀ i, i < (dropL r rs).length → rrOk ((dropL r rs).getD i recZ) = true := by
  refine ⟨Nat.le_trans (List.length_filter_le _ _) (zone_short hz).2.2, fun i hi => ?_⟩
  have hm : (dropL r rs).getD i recZ ∈ dropL r rs := by
    rw [List.getD_eq_getElem?_getD, List.getElem?_eq_getElem hi]
    exact List.getElem_mem hi
  exact oks_of hz _ (List.mem_filter.1 hm).1
theorem zone_size {o : List (List Int)} {rs : List Rec} (ho : nameOk o = true) (h60 : rs.length ≤ 60) (hr : ∀ i, i < rs.length → rrOk (rs.getD i recZ) = true) : SizeZ 1048576 o rs :=
  ⟨Nat.le_trans (nameOk_parts ho).1 (by omega), fun i hi => Nat.le_trans (labelOk_length ((nameOk_parts ho).2 i hi)).2 (by omega), by omega, fun i hi => size_of_short (short_rec (hr i hi))⟩
theorem drop_size (o : List (List Int)) (rs : List Rec) (r : Rec) : SizeZ 1048576 (dropOf o rs r).1.1 (dropOf o rs r).1.2 := by
  unfold dropOf
  by_cases h : zoneOk o rs = true ∧ rrOk r = true
  · rw [if_pos h]
    have := dropL_short h.1 r
    exact zone_size (of_decide_eq_true h.1).1 this.1 this.2
  · rw [if_neg h]
    exact ⟨Nat.zero_le _, fun i hi => absurd hi (Nat.not_lt_zero _), Nat.zero_le _, fun i hi => absurd hi (Nat.not_lt_zero _)⟩
end Go.Proofs.YtmnlhjdjjinbiaaGreat

namespace Go.Proofs.YtmnlhjdjjinbiaaGreat
open Go.RowKit

theorem results_tmp3 {fn : Func} {p q r : Tmp} (h : fn.results = #[.tmp p, .tmp q, .tmp r]) (tmps : Array Value) (P : Program) (w : World) : (results fn tmps).run P w = .ok (.tuple #[tmps.getD p undef, tmps.getD q undef, tmps.getD r undef]) w := by
  simp only [results, h]
  simp
end Go.Proofs.YtmnlhjdjjinbiaaGreat
