/-
  Contracts of the program's put of a shelf. The library functions that gather and sort the keys of maps, by the contracts that lie compiled in the library, laid at this program by the shelf's own command in plain words. slices.Sorted(maps.Keys(m)) of the library, at maps of slots: the keys, ascending. Contract of the program's keys of a shelf.
-/
import Derived.Test.YtaehfeobfkaicaaGreatCacheGetG26
import Derived.Shelf.SlIter.Nil
import Derived.Shelf.SortM.Plain
import Derived.Shelf.SortM.SortNone
import Derived.Ground.GgzProg
import Derived.Ground.SlgmProg
import Derived.Test.YtaehfeobfkaicaaGreatProg
import Derived.Test.YtaehfeobfkaicaaGreatCacheGetG13
namespace Go.Proofs.YtaehfeobfkaicaaGreat
open Go.RowKit
set_option linter.unusedVariables false
set_option maxHeartbeats 4000000
set_option maxRecDepth 100000

theorem frozen2S {w : World} {b : Nat} {c : Array Value} {t : TypeId} (h : w.heap[b]? = some (.cells c t)) : w.frozen? ⟨b, 0, none⟩ = false ∧ w.frozen? ⟨b, 1, none⟩ = false := ⟨VG h 0, VG h 1⟩
theorem wrap_intT (x : Int) (h0 : 0 ≤ x) (h1 : x < 9223372036854775808) : IntKind.i64.wrap x = x := by
 have := wrap_small x.toNat (by omega)
 rwa [Int.toNat_of_nonneg h0] at this
theorem putS_yes {w0 w : World} {b : Nat} {turn : Int} {E : List (ByteArray × Slt)} {key : ByteArray} {x : Slt} {na ra : Option Addr} {nc rc : Nat} (hp : w.heap[b + 1]? = some (.cells #[.int .i64 turn, .map (some b)] 94)) (em : EntM w0 w b E) (hs : key.size ≤ maxLen) (hx : HasS2 w0 (.slice na x.name.length nc) (.slice ra x.rrs.length rc) x) (h0 : 0 ≤ turn) (ht : turn < 1000000) :
  Calls Tryz.prog 60 #[(.pointer (some ⟨b + 1, 0, none⟩)), .string key, .agg #[.slice na x.name.length nc, .int .i64 x.type, .int .i64 x.kind, .slice ra x.rrs.length rc, .int .i64 x.rank, .int .i64 x.till, .int .i64 x.used]] w fun e w' => (∃ v, e = .returned v) ∧ w'.heap[b + 1]? = some (.cells #[.int .i64 (turn + 1), .map (some b)] 94) ∧ EntM w0 w' b (putA key ⟨x.name, x.type, x.kind, x.rrs, x.rank, x.till, turn + 1⟩ E) ∧ Outside b (b + 2) w w' := by
 have ba := UI (w := w) (.cells #[.slice na x.name.length nc, .int .i64 x.type, .int .i64 x.kind, .slice ra x.rrs.length rc, .int .i64 x.rank, .int .i64 x.till, .int .i64 x.used] 71)
 have K1 := UC (heap_alloc_new w (.cells #[.slice na x.name.length nc, .int .i64 x.type, .int .i64 x.kind, .slice ra x.rrs.length rc, .int .i64 x.rank, .int .i64 x.till, .int .i64 x.used] 71))
 have KP := UC (UE ba hp)
 have EM := UC (em.below ba)
 have HS := UC hs
 have HP := UC hp
 have EMw := UC em
 have zp := VC hp
 have hv : Hid (IsSl w0 (.agg #[.slice na x.name.length nc, .int .i64 x.type, .int .i64 x.kind, .slice ra x.rrs.length rc, .int .i64 x.rank, .int .i64 x.till, .int .i64 (turn + 1)]) ⟨x.name, x.type, x.kind, x.rrs, x.rank, x.till, turn + 1⟩) := UC ⟨na, nc, ra, rc, rfl, ⟨hx.name, hx.rrs⟩⟩
 have OUT : Hid (Outside b (b + 2) w (w.alloc (.cells #[.slice na x.name.length nc, .int .i64 x.type, .int .i64 x.kind, .slice ra x.rrs.length rc, .int .i64 x.rank, .int .i64 x.till, .int .i64 x.used] 71))) := UC ⟨ba.os, ba.tape, ba.output, ba.size, fun k hk hn => ba.block k hk⟩
 have hw1 : IntKind.i64.wrap (turn + 1) = turn + 1 := wrap_intT _ (by omega) (by omega)
 have qt : decide (turn < 1000000) = true := decide_eq_true ht
 obtain ⟨d0, d1⟩ := cells2S (UB KP)
 obtain ⟨e0, e1⟩ := frozen2S (UB KP)
 obtain ⟨s0, s1, s2, s3, s4, s5, s6⟩ := UJ (UB K1)
 obtain ⟨f0, f1, f2, f3, f4, f5, f6⟩ := VI (UB K1)
 obtain ⟨y0, y1⟩ := cells2S hp
 obtain ⟨t0, t1⟩ := frozen2S hp
 clear hp em hs hx ba
 go_enter Tryz.func60, Tryz.ntmps60
 go_wp2_with fail
 clear d0 d1 e0 e1 y0 y1 t0 t1 s0 f0 s1 f1 s2 f2 s3 f3 s4 f4 s5 f5 s6 f6
 have zs : (w.setCell ⟨b + 1, 0, none⟩ (.int .i64 (turn + 1))).heap.size = w.heap.size := by simp [World.setCell]
 have u1 := UT w (b + 1) 0 (.int .i64 (turn + 1))
 have KP1 : Hid ((w.setCell ⟨b + 1, 0, none⟩ (.int .i64 (turn + 1))).heap[b + 1]? = some (.cells #[.int .i64 (turn + 1), .map (some b)] 94)) := UC (UV (UB HP) 0 _)
 have EM1 : Hid (EntM w0 (w.setCell ⟨b + 1, 0, none⟩ (.int .i64 (turn + 1))) b E) := UC ((UB EMw).kept (u1.block b (UB EMw).lt (by omega)))
 have b2 := UI (w := (w.setCell ⟨b + 1, 0, none⟩ (.int .i64 (turn + 1)))) (.cells #[.slice na x.name.length nc, .int .i64 x.type, .int .i64 x.kind, .slice ra x.rrs.length rc, .int .i64 x.rank, .int .i64 x.till, .int .i64 (turn + 1)] 71)
 have KP2 := UC (UE b2 (UB KP1))
 have K12 := UC (heap_alloc_new (w.setCell ⟨b + 1, 0, none⟩ (.int .i64 (turn + 1))) (.cells #[.slice na x.name.length nc, .int .i64 x.type, .int .i64 x.kind, .slice ra x.rrs.length rc, .int .i64 x.rank, .int .i64 x.till, .int .i64 (turn + 1)] 71))
 rw [zs] at K12
 have EM2 := UC ((UB EM1).below b2)
 have OUT2 : Hid (Outside b (b + 2) w ((w.setCell ⟨b + 1, 0, none⟩ (.int .i64 (turn + 1))).alloc (.cells #[.slice na x.name.length nc, .int .i64 x.type, .int .i64 x.kind, .slice ra x.rrs.length rc, .int .i64 x.rank, .int .i64 x.till, .int .i64 (turn + 1)] 71))) := UC ((u1.wide (by omega) (by omega)).trans ⟨b2.os, b2.tape, b2.output, b2.size, fun k hk hn => b2.block k hk⟩)
 generalize (w.setCell ⟨b + 1, 0, none⟩ (.int .i64 (turn + 1))).alloc (.cells #[.slice na x.name.length nc, .int .i64 x.type, .int .i64 x.kind, .slice ra x.rrs.length rc, .int .i64 x.rank, .int .i64 x.till, .int .i64 (turn + 1)] 71) = W at *
 clear u1 KP1 EM1 b2 zs KP K1 EM OUT
 have bd := UX (w := W)
 replace KP2 := UC (UE bd (UB KP2))
 replace K12 := UC (UE bd (UB K12))
 replace EM2 := UC ((UB EM2).below bd)
 replace OUT2 : Hid (Outside b (b + 2) w W.drew) := UC ((UB OUT2).trans ⟨bd.os, bd.tape, bd.output, bd.size, fun k hk hn => bd.block k hk⟩)
 clear bd
 refine startC [0, 1, 2, 3, 4, 5, 6] (by kernel_rfl) ⟨by kernel_rfl, by kernel_rfl, by kernel_rfl, by kernel_rfl⟩ 4 [(3, fun w' => (fun w' => w'.cell? ⟨b + 1, 1, none⟩ = some (.map (some b))) w'), (5, fun w' => (fun w' => w'.cell? ⟨w.heap.size, 0, none⟩ = some (.slice na x.name.length nc) ∧ w'.cell? ⟨w.heap.size, 1, none⟩ = some (.int .i64 x.type) ∧ w'.cell? ⟨w.heap.size, 2, none⟩ = some (.int .i64 x.kind) ∧ w'.cell? ⟨w.heap.size, 3, none⟩ = some (.slice ra x.rrs.length rc) ∧ w'.cell? ⟨w.heap.size, 4, none⟩ = some (.int .i64 x.rank) ∧ w'.cell? ⟨w.heap.size, 5, none⟩ = some (.int .i64 x.till) ∧ w'.cell? ⟨w.heap.size, 6, none⟩ = some (.int .i64 (turn + 1))) w')] (fun hA => ?_)
 replace hA := UC hA
 generalize hWD : W.drew = WD at *
 clear hWD
 repeat ((first | (refine VN ?_ (UB hA) rfl rfl rfl (by rfl) (fun _ _ _ h => h) ?_ ?_; rotate_left; · (intro w; go_simp <;> with_reducible rfl)) | refine VM (UB hA) rfl rfl (by rfl) (fun _ _ _ h => h) ?_); go_simp)
 refine takeC ?_ (UB hA) rfl rfl rfl (by rfl) (fun _ _ _ h => h) (.head _) (cells2S (UB KP2)).2 ?_ ?_; rotate_left; (· (intro w hSw; (try dsimp only at hSw); go_simp <;> with_reducible rfl)); go_simp
 repeat ((first | (refine VN ?_ (UB hA) rfl rfl rfl (by rfl) (fun _ _ _ h => h) ?_ ?_; rotate_left; · (intro w; go_simp <;> with_reducible rfl)) | refine VM (UB hA) rfl rfl (by rfl) (fun _ _ _ h => h) ?_); go_simp)
 refine takeC ?_ (UB hA) rfl rfl rfl (by rfl) (fun _ _ _ h => h) (.tail _ (.head _)) (UJ (UB K12)) ?_ ?_; rotate_left; (· (intro w hSw; (try dsimp only at hSw); go_simp <;> with_reducible rfl)); go_simp
 obtain ⟨w7, hrun, em7, g7⟩ := entM_put (t := 92) Tryz.underlying92 Tryz.underlying9 (UB EM2) key (UB HS) (UB hv)
 have KP7 := UC ((g7.block _ (VC (UB KP2)) (by simp)).trans (UB KP2))
 have OUT7 := (UB OUT2).trans (⟨g7.os, g7.tape, g7.output, g7.size, fun k hk hn => g7.block k hk (fun e => by cases e; omega)⟩ : Outside b (b + 2) WD w7)
 refine runC (UB hA) rfl rfl (by kernel_rfl) (by kernel_rfl) (fun K hK => ?_)
 have HK2 := UC hK
 clear hK
 refine put_wp _ _ _ _ rfl _ _ _ rfl rfl rfl hrun ?_
 refine (UB HK2).out _ _ (VB (by kernel_rfl) (VB (by kernel_rfl) VL)) ?_
 clear HK2 K
 go_simp
 refine doneC (UB hA) rfl ?_
 clear hA
 go_wp2_with fail
 go_end0
 exact ⟨⟨_, rfl⟩, UB KP7, em7, OUT7⟩

theorem putS_no {w0 w : World} {b : Nat} {turn : Int} {E : List (ByteArray × Slt)} {key : ByteArray} {x : Slt} {na ra : Option Addr} {nc rc : Nat} (hp : w.heap[b + 1]? = some (.cells #[.int .i64 turn, .map (some b)] 94)) (em : EntM w0 w b E) (hs : key.size ≤ maxLen) (hx : HasS2 w0 (.slice na x.name.length nc) (.slice ra x.rrs.length rc) x) (h0 : 0 ≤ turn) (ht : ¬ turn < 1000000) :
  Calls Tryz.prog 60 #[(.pointer (some ⟨b + 1, 0, none⟩)), .string key, .agg #[.slice na x.name.length nc, .int .i64 x.type, .int .i64 x.kind, .slice ra x.rrs.length rc, .int .i64 x.rank, .int .i64 x.till, .int .i64 x.used]] w fun e w' => (∃ v, e = .returned v) ∧ w'.heap[b + 1]? = some (.cells #[.int .i64 turn, .map (some b)] 94) ∧ EntM w0 w' b (putA key x E) ∧ Outside b (b + 2) w w' := by
 have ba := UI (w := w) (.cells #[.slice na x.name.length nc, .int .i64 x.type, .int .i64 x.kind, .slice ra x.rrs.length rc, .int .i64 x.rank, .int .i64 x.till, .int .i64 x.used] 71)
 have K1 := UC (heap_alloc_new w (.cells #[.slice na x.name.length nc, .int .i64 x.type, .int .i64 x.kind, .slice ra x.rrs.length rc, .int .i64 x.rank, .int .i64 x.till, .int .i64 x.used] 71))
 have KP := UC (UE ba hp)
 have EM := UC (em.below ba)
 have HS := UC hs
 have HP := UC hp
 have EMw := UC em
 have zp := VC hp
 have hv : Hid (IsSl w0 (.agg #[.slice na x.name.length nc, .int .i64 x.type, .int .i64 x.kind, .slice ra x.rrs.length rc, .int .i64 x.rank, .int .i64 x.till, .int .i64 x.used]) x) := UC ⟨na, nc, ra, rc, rfl, ⟨hx.name, hx.rrs⟩⟩
 have OUT : Hid (Outside b (b + 2) w (w.alloc (.cells #[.slice na x.name.length nc, .int .i64 x.type, .int .i64 x.kind, .slice ra x.rrs.length rc, .int .i64 x.rank, .int .i64 x.till, .int .i64 x.used] 71))) := UC ⟨ba.os, ba.tape, ba.output, ba.size, fun k hk hn => ba.block k hk⟩
 have qt : decide (turn < 1000000) = false := decide_eq_false ht
 obtain ⟨d0, d1⟩ := cells2S (UB KP)
 obtain ⟨e0, e1⟩ := frozen2S (UB KP)
 obtain ⟨s0, s1, s2, s3, s4, s5, s6⟩ := UJ (UB K1)
 obtain ⟨f0, f1, f2, f3, f4, f5, f6⟩ := VI (UB K1)
 obtain ⟨y0, y1⟩ := cells2S hp
 obtain ⟨t0, t1⟩ := frozen2S hp
 clear hp em hs hx ba
 go_enter Tryz.func60, Tryz.ntmps60
 go_wp2_with fail
 clear d0 d1 e0 e1 y0 y1 t0 t1 s0 f0 s1 f1 s2 f2 s3 f3 s4 f4 s5 f5 s6 f6
 have KP2 := KP
 have K12 := K1
 have EM2 := EM
 have OUT2 := OUT
 generalize w.alloc (.cells #[.slice na x.name.length nc, .int .i64 x.type, .int .i64 x.kind, .slice ra x.rrs.length rc, .int .i64 x.rank, .int .i64 x.till, .int .i64 x.used] 71) = W at *
 clear KP K1 EM OUT
 have bd := UX (w := W)
 replace KP2 := UC (UE bd (UB KP2))
 replace K12 := UC (UE bd (UB K12))
 replace EM2 := UC ((UB EM2).below bd)
 replace OUT2 : Hid (Outside b (b + 2) w W.drew) := UC ((UB OUT2).trans ⟨bd.os, bd.tape, bd.output, bd.size, fun k hk hn => bd.block k hk⟩)
 clear bd
 refine startC [0, 1, 2, 3, 4, 5, 6] (by kernel_rfl) ⟨by kernel_rfl, by kernel_rfl, by kernel_rfl, by kernel_rfl⟩ 4 [(3, fun w' => (fun w' => w'.cell? ⟨b + 1, 1, none⟩ = some (.map (some b))) w'), (5, fun w' => (fun w' => w'.cell? ⟨w.heap.size, 0, none⟩ = some (.slice na x.name.length nc) ∧ w'.cell? ⟨w.heap.size, 1, none⟩ = some (.int .i64 x.type) ∧ w'.cell? ⟨w.heap.size, 2, none⟩ = some (.int .i64 x.kind) ∧ w'.cell? ⟨w.heap.size, 3, none⟩ = some (.slice ra x.rrs.length rc) ∧ w'.cell? ⟨w.heap.size, 4, none⟩ = some (.int .i64 x.rank) ∧ w'.cell? ⟨w.heap.size, 5, none⟩ = some (.int .i64 x.till) ∧ w'.cell? ⟨w.heap.size, 6, none⟩ = some (.int .i64 x.used)) w')] (fun hA => ?_)
 replace hA := UC hA
 generalize hWD : W.drew = WD at *
 clear hWD
 repeat ((first | (refine VN ?_ (UB hA) rfl rfl rfl (by rfl) (fun _ _ _ h => h) ?_ ?_; rotate_left; · (intro w; go_simp <;> with_reducible rfl)) | refine VM (UB hA) rfl rfl (by rfl) (fun _ _ _ h => h) ?_); go_simp)
 refine takeC ?_ (UB hA) rfl rfl rfl (by rfl) (fun _ _ _ h => h) (.head _) (cells2S (UB KP2)).2 ?_ ?_; rotate_left; (· (intro w hSw; (try dsimp only at hSw); go_simp <;> with_reducible rfl)); go_simp
 repeat ((first | (refine VN ?_ (UB hA) rfl rfl rfl (by rfl) (fun _ _ _ h => h) ?_ ?_; rotate_left; · (intro w; go_simp <;> with_reducible rfl)) | refine VM (UB hA) rfl rfl (by rfl) (fun _ _ _ h => h) ?_); go_simp)
 refine takeC ?_ (UB hA) rfl rfl rfl (by rfl) (fun _ _ _ h => h) (.tail _ (.head _)) (UJ (UB K12)) ?_ ?_; rotate_left; (· (intro w hSw; (try dsimp only at hSw); go_simp <;> with_reducible rfl)); go_simp
 obtain ⟨w7, hrun, em7, g7⟩ := entM_put (t := 92) Tryz.underlying92 Tryz.underlying9 (UB EM2) key (UB HS) (UB hv)
 have KP7 := UC ((g7.block _ (VC (UB KP2)) (by simp)).trans (UB KP2))
 have OUT7 := (UB OUT2).trans (⟨g7.os, g7.tape, g7.output, g7.size, fun k hk hn => g7.block k hk (fun e => by cases e; omega)⟩ : Outside b (b + 2) WD w7)
 refine runC (UB hA) rfl rfl (by kernel_rfl) (by kernel_rfl) (fun K hK => ?_)
 have HK2 := UC hK
 clear hK
 refine put_wp _ _ _ _ rfl _ _ _ rfl rfl rfl hrun ?_
 refine (UB HK2).out _ _ (VB (by kernel_rfl) (VB (by kernel_rfl) VL)) ?_
 clear HK2 K
 go_simp
 refine doneC (UB hA) rfl ?_
 clear hA
 go_wp2_with fail
 go_end0
 exact ⟨⟨_, rfl⟩, UB KP7, em7, OUT7⟩
end Go.Proofs.YtaehfeobfkaicaaGreat

namespace Go.Proofs
open Go.Shelf
def Tryz.sort134_ren : Go.Shelf.Ren := ⟨fun | 6 => 134 | 8 => 128 | 9 => 150 | 19 => 145 | 20 => 146 | 21 => 156 | 22 => 157 | 23 => 158 | 24 => 159 | 25 => 160 | 26 => 161 | 27 => 162 | 28 => 163 | 29 => 164 | 36 => 166 | 31 => 152 | 32 => 153 | 37 => 167 | 38 => 168 | 39 => 169 | 41 => 170 | n => n, fun | 27 => 127 | 29 => 9 | 3 => 3 | 32 => 153 | 26 => 127 | 0 => 0 | 44 => 184 | 46 => 186 | 4 => 4 | 36 => 177 | 35 => 176 | 41 => 181 | 5 => 5 | 9 => 9 | 53 => 197 | 57 => 201 | 63 => 209 | 64 => 210 | n => n, fun | n => n⟩
theorem Tryz.sort134 : Go.Proofs.SlLaysM.n6 Tryz.prog Tryz.sort134_ren := {
  mixed := by kernel_rfl
  f6 := ⟨Tryz.f134.name, by decide, Tryz.func134.trans (congrArg some (by kernel_rfl))⟩
  f8 := Tryz.func128.trans (congrArg some (by kernel_rfl))
  f9 := ⟨Tryz.f150.name, by decide, Tryz.func150.trans (congrArg some (by kernel_rfl))⟩
  f19 := Tryz.func145.trans (congrArg some (by kernel_rfl))
  f20 := Tryz.func146.trans (congrArg some (by kernel_rfl))
  f21 := ⟨Tryz.f156.name, by decide, Tryz.func156.trans (congrArg some (by kernel_rfl))⟩
  f22 := ⟨Tryz.f157.name, by decide, Tryz.func157.trans (congrArg some (by kernel_rfl))⟩
  f23 := ⟨Tryz.f158.name, by decide, Tryz.func158.trans (congrArg some (by kernel_rfl))⟩
  f24 := ⟨Tryz.f159.name, by decide, Tryz.func159.trans (congrArg some (by kernel_rfl))⟩
  f25 := ⟨Tryz.f160.name, by decide, Tryz.func160.trans (congrArg some (by kernel_rfl))⟩
  f26 := ⟨Tryz.f161.name, by decide, Tryz.func161.trans (congrArg some (by kernel_rfl))⟩
  f27 := ⟨Tryz.f162.name, by decide, Tryz.func162.trans (congrArg some (by kernel_rfl))⟩
  f28 := ⟨Tryz.f163.name, by decide, Tryz.func163.trans (congrArg some (by kernel_rfl))⟩
  f29 := ⟨Tryz.f164.name, by decide, Tryz.func164.trans (congrArg some (by kernel_rfl))⟩
  f31 := Tryz.func152.trans (congrArg some (by kernel_rfl))
  f32 := Tryz.func153.trans (congrArg some (by kernel_rfl))
  f36 := ⟨Tryz.f166.name, by decide, Tryz.func166.trans (congrArg some (by kernel_rfl))⟩
  f37 := ⟨Tryz.f167.name, by decide, Tryz.func167.trans (congrArg some (by kernel_rfl))⟩
  f38 := ⟨Tryz.f168.name, by decide, Tryz.func168.trans (congrArg some (by kernel_rfl))⟩
  f39 := ⟨Tryz.f169.name, by decide, Tryz.func169.trans (congrArg some (by kernel_rfl))⟩
  f41 := ⟨Tryz.f170.name, by decide, Tryz.func170.trans (congrArg some (by kernel_rfl))⟩
  t0 := Tryz.underlying0
  a0 := Tryz.isAgg0
  z0 := Tryz.sizeOf0
  v0 := Tryz.zeroValue0
  t3 := Tryz.underlying3
  a3 := Tryz.isAgg3
  z3 := Tryz.sizeOf3
  v3 := Tryz.zeroValue3
  t4 := Tryz.underlying4
  a4 := Tryz.isAgg4
  z4 := Tryz.sizeOf4
  v4 := Tryz.zeroValue4
  t5 := Tryz.underlying5
  a5 := Tryz.isAgg5
  z5 := Tryz.sizeOf5
  v5 := Tryz.zeroValue5
  t9 := Tryz.underlying9
  a9 := Tryz.isAgg9
  z9 := Tryz.sizeOf9
  v9 := Tryz.zeroValue9
  t26 := Tryz.underlying127
  a26 := Tryz.isAgg127
  z26 := Tryz.sizeOf127
  v26 := Tryz.zeroValue127
  t27 := Tryz.underlying127
  a27 := Tryz.isAgg127
  z27 := Tryz.sizeOf127
  v27 := Tryz.zeroValue127
  t29 := Tryz.underlying9
  a29 := Tryz.isAgg9
  z29 := Tryz.sizeOf9
  v29 := Tryz.zeroValue9
  t32 := Tryz.underlying153
  a32 := Tryz.isAgg153
  z32 := Tryz.sizeOf153
  v32 := Tryz.zeroValue153
  t35 := Tryz.underlying176
  a35 := Tryz.isAgg176
  z35 := Tryz.sizeOf176
  v35 := Tryz.zeroValue176
  t36 := Tryz.underlying177
  a36 := Tryz.isAgg177
  z36 := Tryz.sizeOf177
  v36 := Tryz.zeroValue177
  t41 := Tryz.underlying181
  a41 := Tryz.isAgg181
  z41 := Tryz.sizeOf181
  v41 := Tryz.zeroValue181
  t44 := Tryz.underlying184
  a44 := Tryz.isAgg184
  z44 := Tryz.sizeOf184
  v44 := Tryz.zeroValue184
  t46 := Tryz.underlying186
  a46 := Tryz.isAgg186
  z46 := Tryz.sizeOf186
  v46 := Tryz.zeroValue186
  t53 := Tryz.underlying197
  a53 := Tryz.isAgg197
  z53 := Tryz.sizeOf197
  v53 := Tryz.zeroValue197
  t57 := Tryz.underlying201
  a57 := Tryz.isAgg201
  z57 := Tryz.sizeOf201
  v57 := Tryz.zeroValue201
  t63 := Tryz.underlying209
  a63 := Tryz.isAgg209
  z63 := Tryz.sizeOf209
  v63 := Tryz.zeroValue209
  t64 := Tryz.underlying210
  a64 := Tryz.isAgg210
  z64 := Tryz.sizeOf210
  v64 := Tryz.zeroValue210 }
def Tryz.sorted120_ren : Go.Shelf.Ren := ⟨fun | 6 => 120 | 8 => 133 | 9 => 134 | 11 => 149 | 13 => 128 | 12 => 150 | 23 => 145 | 24 => 146 | 14 => 156 | 15 => 157 | 16 => 158 | 17 => 159 | 18 => 160 | 19 => 161 | 20 => 162 | 21 => 163 | 22 => 164 | 25 => 166 | 26 => 152 | 27 => 153 | 28 => 167 | 29 => 168 | 30 => 169 | 31 => 170 | n => n, fun | 26 => 9 | 28 => 156 | 24 => 127 | 0 => 0 | 3 => 3 | 37 => 153 | 48 => 184 | 50 => 186 | 4 => 4 | 40 => 177 | 39 => 176 | 45 => 181 | 5 => 5 | 9 => 9 | 51 => 197 | 55 => 201 | 57 => 209 | 58 => 210 | 33 => 174 | n => n, fun | n => n⟩
theorem Tryz.sorted120 : Go.Proofs.SlLaysZ.n6 Tryz.prog Tryz.sorted120_ren := {
  mixed := by kernel_rfl
  f6 := ⟨Tryz.f120.name, by decide, Tryz.func120.trans (congrArg some (by kernel_rfl))⟩
  f8 := ⟨Tryz.f133.name, by decide, Tryz.func133.trans (congrArg some (by kernel_rfl))⟩
  f11 := ⟨Tryz.f149.name, by decide, Tryz.func149.trans (congrArg some (by kernel_rfl))⟩
  t0 := Tryz.underlying0
  a0 := Tryz.isAgg0
  z0 := Tryz.sizeOf0
  v0 := Tryz.zeroValue0
  t24 := Tryz.underlying127
  a24 := Tryz.isAgg127
  z24 := Tryz.sizeOf127
  v24 := Tryz.zeroValue127
  t26 := Tryz.underlying9
  a26 := Tryz.isAgg9
  z26 := Tryz.sizeOf9
  v26 := Tryz.zeroValue9
  t28 := Tryz.underlying156
  a28 := Tryz.isAgg156
  z28 := Tryz.sizeOf156
  v28 := Tryz.zeroValue156
  i26 := by kernel_rfl }
def Tryz.keys121_ren : Go.Shelf.Ren := ⟨fun | 7 => 121 | 10 => 135 | n => n, fun | 23 => 92 | 26 => 9 | 3 => 71 | 28 => 156 | 0 => 0 | 27 => 155 | 33 => 174 | 4 => 4 | n => n, fun | n => n⟩
theorem Tryz.keys121 : Go.Proofs.SlLaysZ.n7 Tryz.prog Tryz.keys121_ren := {
  mixed := by kernel_rfl
  f7 := ⟨Tryz.f121.name, by decide, Tryz.func121.trans (congrArg some (by kernel_rfl))⟩
  f10 := ⟨Tryz.f135.name, by decide, Tryz.func135.trans (congrArg some (by kernel_rfl))⟩
  t0 := Tryz.underlying0
  a0 := Tryz.isAgg0
  z0 := Tryz.sizeOf0
  v0 := Tryz.zeroValue0
  t4 := Tryz.underlying4
  a4 := Tryz.isAgg4
  z4 := Tryz.sizeOf4
  v4 := Tryz.zeroValue4
  t23 := Tryz.underlying92
  a23 := Tryz.isAgg92
  z23 := Tryz.sizeOf92
  v23 := Tryz.zeroValue92
  t26 := Tryz.underlying9
  a26 := Tryz.isAgg9
  z26 := Tryz.sizeOf9
  v26 := Tryz.zeroValue9
  t27 := Tryz.underlying155
  a27 := Tryz.isAgg155
  z27 := Tryz.sizeOf155
  v27 := Tryz.zeroValue155
  t28 := Tryz.underlying156
  a28 := Tryz.isAgg156
  z28 := Tryz.sizeOf156
  v28 := Tryz.zeroValue156
  t33 := Tryz.underlying174
  a33 := Tryz.isAgg174
  z33 := Tryz.sizeOf174
  v33 := Tryz.zeroValue174 }
end Go.Proofs

namespace Go.Proofs.YtaehfeobfkaicaaGreat
open Go.RowKit Go.Maps Go.Sort Go.Shelf
open Go.WideElems (Fit rd rg rd_mk rg_of)
open Go.WideMaps (keyOf_string_mk)
set_option linter.unusedVariables false

theorem sortsK (m : Nat) : AnyZ.SortsIn Tryz.prog Tryz.sorted120_ren Fence.wide m :=
  ⟨fun blk off cap ss W hH hblk hsz => callsIn_wide.2 (AnyM.slices_Sort_string Tryz.sort134 blk off cap ss W hH hblk hsz),
   fun p cap W => callsIn_wide.2 (AnyM.slices_Sort_string_none Tryz.sort134 p cap W)⟩

def anyR (v : Value) : Option (DataW Unit × List MemPlace) := some (.nil, [])
theorem mapV_owns {w : World} {b : Nat} {ps : List (ByteArray × Value)} (h : MapV w b ps) (hl : ps.length ≤ maxLen) : ∃ D0 : DataW Unit, w.ownsMap Tryz.prog 9 anyR b ps.length D0 ∧ (strKeys D0).Perm (ps.map (fun p => p.1.data.toList)) ∧ Maps.size D0 = ps.length := by
  obtain ⟨es, clock, hb, hS, hK, rfl⟩ := h
  have hrd : ∀ x ∈ es.toList, rd Tryz.prog 9 anyR x = some (.string (toPV x).1.data.toList, .nil) := by
    intro x hx
    obtain ⟨s, h1, h2⟩ := hK x hx
    have hk := keyOf_string_mk (P := Tryz.prog) Tryz.underlying9 h2
    obtain ⟨key, val, born⟩ := x
    simp only at h1
    subst h1
    exact rd_mk (R := anyR) (yv := (.nil, [])) hk rfl
  have hrg : es.toList.map (rg Tryz.prog 9 anyR) = es.toList.map (fun x => (Lit.string (toPV x).1.data.toList, DataW.nil)) := List.map_congr_left (fun x hx => by rw [rg_of (hrd x hx)])
  refine ⟨_, ⟨es, clock, hb, ⟨by simpa using hl, hS, fun x hx => ⟨_, hrd x hx⟩⟩, by simp, rfl⟩, ?_, ?_⟩
  · rw [hrg]
    simp only [strKeys]
    have hp := WideShapes.sorted_perm (es.toList.map (fun x => (Lit.string (toPV x).1.data.toList, (DataW.nil : DataW Unit))))
    have h2 := hp.map (fun p => strOf p.1)
    rw [List.map_map] at h2 ⊢
    exact h2
  · simp [Maps.size, length_sorted]

theorem keysOf_in (mb : Option Nat) (W : World) : CallsIn Fence.wide 5 Tryz.prog 121 #[.map mb] W fun e w' => e = .returned (.func (.func 135) #[] #[.pointer (some ⟨W.heap.size, 0, none⟩)]) ∧ w' = W.alloc (.cells #[.map mb] 92) :=
  AnyZ.keys_in Tryz.keys121 Fence.wide 5 trivial rfl mb W

set_option maxHeartbeats 1000000 in
theorem sortedOf_in {w : World} {b : Nat} {ps : List (ByteArray × Value)} (h : MapV w b ps) (hl : ps.length ≤ 1000) :
    CallsIn Fence.wide 5 Tryz.prog 120 #[.func (.func 135) #[] #[.pointer (some ⟨w.heap.size, 0, none⟩)]] (w.alloc (.cells #[.map (some b)] 92)) fun e w' => ∃ v, e = .returned v ∧
      w'.ownsRow (w.heap.size + 1) 9 1 v ps.length ((keysP ps).map encStr) ∧ Below w.heap.size w w' := by
  obtain ⟨D0, hown, hperm, hsize⟩ := mapV_owns h (by unfold maxLen; omega)
  have hbl := hown.lt
  have hseq : SeqGives Fence.wide 2 Tryz.prog 135 #[.pointer (some ⟨w.heap.size, 0, none⟩)] encStr (fun ss => ss.Perm (strKeys D0)) (Maps.size D0) (w.alloc (.cells #[.map (some b)] 92)) :=
    AnyZ.keys_gives (ρ := Tryz.keys121_ren) { Tryz.keys121 with } Fence.wide _ trivial rfl (by omega) w.heap.size b ps.length D0 _ (by simp) (by simp) (by
      obtain ⟨es, clock, hb, Ft, hs, hD⟩ := hown
      exact ⟨es, clock, (Below.heap_alloc _ _ b hbl).trans hb, Ft, hs, hD⟩)
  have hS := AnyZ.sorted_in Tryz.sorted120 Fence.wide 5 trivial trivial trivial trivial rfl (by omega) (sortsK _) (enters_of Tryz.func134 (by kernel_rfl) rfl) 135 #[.pointer (some ⟨w.heap.size, 0, none⟩)] trivial (enters_of Tryz.func135 (by kernel_rfl) rfl) _ _ (by rw [hsize]; unfold maxLen; omega) (by rw [hsize]; omega) _ hseq
  refine hS.mono ?_
  rintro e w' ⟨v, ss, rfl, hp, hrow, _, hb⟩
  have e1 : ss.length = ps.length := by rw [hp.length_eq, hperm.length_eq, List.length_map]
  have e2 : ss.mergeSort (fun x y => decide (x ≤ y)) = keysP ps := mergeSort_of_perm (hp.trans hperm)
  rw [e1, e2] at hrow
  have zs : (w.alloc (.cells #[.map (some b)] 92)).heap.size = w.heap.size + 1 := World.size_alloc w _
  rw [zs] at hrow hb
  exact ⟨v, rfl, hrow, (UI (w := w) _).trans (hb.mono (by omega))⟩

end Go.Proofs.YtaehfeobfkaicaaGreat

namespace Go.Proofs.YtaehfeobfkaicaaGreat
open Go.RowKit
set_option linter.unusedVariables false

set_option maxHeartbeats 1000000 in
set_option maxRecDepth 100000 in
theorem keysS_has {w0 w : World} {p b : Nat} {turn : Int} {E : List (ByteArray × Slt)} (hp : w.heap[p]? = some (.cells #[.int .i64 turn, .map (some b)] 94)) (em : EntM w0 w b E) (hl : E.length ≤ 1000) :
  Calls Tryz.prog 98 #[(.pointer (some ⟨p, 0, none⟩))] w fun e w' => ∃ v, e = .returned v ∧ w'.ownsRow (w.heap.size + 1) 9 1 v E.length ((keysP E).map encStr) ∧ Below w.heap.size w w' := by
 obtain ⟨ps, hM, hpl, hpk⟩ := entM_keys em
 have KS := UC ((callsIn_wide (n := 5)).1 (sortedOf_in hM (by omega)))
 have KK := UC ((callsIn_wide (n := 5)).1 (keysOf_in (some b) w))
 rw [hpl, hpk] at KS
 have d1 := (cells2S hp).2
 clear hM em
 go_enter Tryz.func98, Tryz.ntmps98
 go_wp2_with fail
 refine (UB KK).mono ?_
 rintro e w1 ⟨rfl, rfl⟩
 go_wp2_with fail
 refine (UB KS).mono ?_
 rintro e w2 ⟨v2, rfl, o2, b2⟩
 go_wp2_with fail
 go_ret
 exact ⟨_, rfl, o2, b2⟩
end Go.Proofs.YtaehfeobfkaicaaGreat
