/-
  Contract of the specification's l3own: a record of its own with the same fields.
-/
import Derived.Test.YtfneahdnpmamkaaGreatFnOwnersG19
namespace Go.Proofs.YtfneahdnpmamkaaGreat
open Go.RowKit
set_option linter.unusedVariables false

theorem Xe : (Tryz.prog.info? 3).map (fun i => (i.zero, i.size, i.bytes)) = some (some (.int .i64 0), 1, 8) := by kernel_rfl
theorem Cg {w : World} (e : TypeId) : Below w.heap.size w (w.alloc (.cells #[] e)) := UI _
theorem Bh {md : Region.Mode} {ops : Array Oper} {f k n1 n2 n3 n4 n5 n6 n7 : Nat} {S : World → Prop} {w w' : World} (h : S w') : E5 md ops f [(n1, S), (n2, S), (n3, S), (n4, S), (n5, S), (n6, S), (n7, S)] k w w' :=
 A7 h (A7 h (A7 h (A7 h (A7 h (A7 h (A7 h VL))))))
theorem By {P : Program} {md : Region.Mode} {ops : Array Oper} {ord : List Nat} {Q : Exit → Act → World → Prop} {f : Nat} {cs : List (Nat × (World → Prop))} {i : Nat} {a : Act} {w : World} (ord0 : List Nat) (he : upO ord0 i ops.size = upO ord i ops.size) (h : wpC P md ops ord0 Q f cs i a w) : wpC P md ops ord Q f cs i a w := by
 unfold wpC at *
 rw [← he]
 exact h
theorem atD {P : Program} {md : Region.Mode} {ops : Array Oper} {E ord : List Nat} {Q : Exit → Act → World → Prop} {f : Nat} {cs : List (Nat × (World → Prop))} {i : Nat} {a : Act} {w : World} (hA : OrdD md ops E ord) (h : Hid (OrdD md ops E ord) → wpC P md ops ord Q f cs i a w) : wpC P md ops ord Q f cs i a w := h (UC hA)
theorem N9 {P : Program} {w : World} {o : Oper} {a : Act} {K : Act → World → Prop} {Q : Exit → Act → World → Prop} (s x : Operand) (t e : TypeId)
  (ho : o.op = .call { callee := .builtin .append, args := #[s, x], argTypes := #[t, t] }) (ht : P.underlying t = some (.slice e)) (z : Value) (bytes : Nat)
  (hinfo : (P.info? e).map (fun i => (i.zero, i.size, i.bytes)) = some (some z, 1, bytes)) (hzs : z.cells.size = 1) (hby : bytes ≤ 100) (B p : Nat) (hB : B ≤ p) (hp : w.heap[p]? = some (.cells #[] e)) (vx : Value) (us : List Value)
  (hs : a.eval s = .slice (some ⟨p, 0, none⟩) 0 0) (hx : a.eval x = vx)
  (hr : (vx = .slice none 0 0 ∧ us = []) ∨ ∃ ad cap, vx = .slice (some ad) us.length cap ∧ ∀ j y, us[j]? = some y → w.cell? (ad.add j) = some y) (hu : ∀ y ∈ us, y.oneCell' = true)
  (hlen : us.length ≤ 1099511627776)
  (h : ∀ v' w', w'.ownsRow B e 1 v' us.length us → Below w.heap.size w w' → K (a.put o.dst v') w') : Oper.wp P o a w K Q := by
 obtain ⟨v', w', hr', h2, h3⟩ := Kq (P := P) t o.type e z bytes ht hinfo hzs hby B p hB hp vx us hr hu hlen
 unfold Oper.wp execOp
 simp only [ho, resolve, invoke, builtin, Sem.run_bind, Sem.run_pure, Result.andThen_ok, List.map_toArray, List.map_cons, List.map_nil, hs, hx, hr']
 exact h v' w' h2 h3
theorem Hv {T G : Prop} (main : Hid T → G) (pf : T) : G := main (UC pf)
structure L3B (b : Nat) (na : Option Addr) (nc : Nat) (ta : Option Addr) (tc : Nat) (xa : Option Addr) (xc : Nat) (ia : Option Addr) (ic : Nat) (r : Rec) (w : World) : Prop where
 kb : w.heap[b]? = some (.cells #[.slice na r.name.length nc, .int .i64 r.type, .int .i64 r.ttl, .int .i64 r.addr, .slice ta r.to.length tc, .slice xa r.text.length xc, .slice ia r.nums.length ic] 39)
 kr : w.heap[b + 1]? = some (.cells #[.slice none 0 0, .int .i64 0, .int .i64 0, .int .i64 0, .slice none 0 0, .slice none 0 0, .slice none 0 0] 39)
 has : HasR w (.slice na r.name.length nc) (.slice ta r.to.length tc) (.slice xa r.text.length xc) (.slice ia r.nums.length ic) r
theorem L3B.below {b : Nat} {na : Option Addr} {nc : Nat} {ta : Option Addr} {tc : Nat} {xa : Option Addr} {xc : Nat} {ia : Option Addr} {ic : Nat} {r : Rec} {w w' : World} (h : L3B b na nc ta tc xa xc ia ic r w) (hb : Below w.heap.size w w') : L3B b na nc ta tc xa xc ia ic r w' := ⟨UE hb h.kb, UE hb h.kr, h.has.below hb⟩
set_option maxHeartbeats 8000000 in
set_option maxRecDepth 100000 in
theorem Wb {vn vt vx vi : Value} {r : Rec} {w : World} (h : HasR w vn vt vx vi r) (hn : Ej r.name) (ht : Ej r.to) (hx : r.text.length ≤ 1048576) (hi : r.nums.length ≤ 1048576) :
  Calls Tryz.prog 90 #[.agg #[vn, .int .i64 r.type, .int .i64 r.ttl, .int .i64 r.addr, vt, vx, vi]] w fun e w' => ∃ un ut ux ui, e = .returned (.agg #[un, .int .i64 r.type, .int .i64 r.ttl, .int .i64 r.addr, ut, ux, ui]) ∧
   OwnL w.heap.size 22 5 w' un r.name ∧ OwnL w.heap.size 22 5 w' ut r.to ∧ Own w.heap.size 5 w' ux r.text ∧ OwnI w.heap.size 3 w' ui r.nums ∧ Below w.heap.size w w' := by
 obtain ⟨na, nc, rfl, _⟩ := h.name.form
 obtain ⟨ta, tc, rfl, _⟩ := h.to.form
 obtain ⟨xa, xc, rfl, _⟩ := h.text.form
 obtain ⟨ia, ic, rfl, _⟩ := h.nums.form
 obtain ⟨hsz, k0, r0⟩ := box2 w (.cells #[.slice na r.name.length nc, .int .i64 r.type, .int .i64 r.ttl, .int .i64 r.addr, .slice ta r.to.length tc, .slice xa r.text.length xc, .slice ia r.nums.length ic] 39) #[.slice none 0 0, .int .i64 0, .int .i64 0, .int .i64 0, .slice none 0 0, .slice none 0 0, .slice none 0 0] 39
 have b0 := Bl w (.cells #[.slice na r.name.length nc, .int .i64 r.type, .int .i64 r.ttl, .int .i64 r.addr, .slice ta r.to.length tc, .slice xa r.text.length xc, .slice ia r.nums.length ic] 39) (.cells #[.slice none 0 0, .int .i64 0, .int .i64 0, .int .i64 0, .slice none 0 0, .slice none 0 0, .slice none 0 0] 39)
 have h0 := h.below b0
 have HN := UC (fun (w : World) (hh : HasL w (.slice na r.name.length nc) r.name) => Iq hh hn.1 hn.2)
 have HT := UC (fun (w : World) (hh : HasL w (.slice ta r.to.length tc) r.to) => Iq hh ht.1 ht.2)
 have zz : w.heap.size + 1 < ((w.alloc (.cells #[.slice na r.name.length nc, .int .i64 r.type, .int .i64 r.ttl, .int .i64 r.addr, .slice ta r.to.length tc, .slice xa r.text.length xc, .slice ia r.nums.length ic] 39)).alloc (.cells #[.slice none 0 0, .int .i64 0, .int .i64 0, .int .i64 0, .slice none 0 0, .slice none 0 0, .slice none 0 0] 39)).heap.size := VC r0
 have A0 : Hid (L3B w.heap.size na nc ta tc xa xc ia ic r _) := UC ⟨k0, r0, h0⟩
 clear hsz k0 r0 h h0 hn ht
 go_enter Tryz.func90, Tryz.ntmps90
 go_wp2_with fail
 generalize (w.alloc (.cells #[.slice na r.name.length nc, .int .i64 r.type, .int .i64 r.ttl, .int .i64 r.addr, .slice ta r.to.length tc, .slice xa r.text.length xc, .slice ia r.nums.length ic] 39)).alloc (.cells #[.slice none 0 0, .int .i64 0, .int .i64 0, .int .i64 0, .slice none 0 0, .slice none 0 0, .slice none 0 0] 39) = W at *
 apply Hv
 case' main => intro H0
 apply Hv
 case' main => intro H1
 apply Hv
 case' main => intro H2
 apply Hv
 case' main => intro H3
 apply Hv
 case' main => intro H4
 apply Hv
 case' main => intro H5
 apply Hv
 case' main => intro H6
 apply Hv
 case' main => intro H7
 ·have bd := UX (w := W)
  have bb := UG b0 bd
  have A := UC ((UB A0).below bd)
  have zW : W.heap.size ≤ W.drew.heap.size := bd.size
  clear bd
  refine startD [2, 11, 12, 15, 16, 19, 21] [0, 1, 3, 4, 5, 6, 7, 8, 9, 10, 13, 14, 17, 18, 2, 11, 12, 15, 16, 19, 20, 21] (by kernel_rfl) ⟨by kernel_rfl, by kernel_rfl, by kernel_rfl, by kernel_rfl⟩ 8 [(1, (fun w' => w'.cell? ⟨w.heap.size, 0, none⟩ = some (.slice na r.name.length nc) ∧ w'.cell? ⟨w.heap.size, 1, none⟩ = some (.int .i64 r.type) ∧ w'.cell? ⟨w.heap.size, 2, none⟩ = some (.int .i64 r.ttl) ∧ w'.cell? ⟨w.heap.size, 3, none⟩ = some (.int .i64 r.addr) ∧ w'.cell? ⟨w.heap.size, 4, none⟩ = some (.slice ta r.to.length tc) ∧ w'.cell? ⟨w.heap.size, 5, none⟩ = some (.slice xa r.text.length xc) ∧ w'.cell? ⟨w.heap.size, 6, none⟩ = some (.slice ia r.nums.length ic))), (4, (fun w' => w'.cell? ⟨w.heap.size, 0, none⟩ = some (.slice na r.name.length nc) ∧ w'.cell? ⟨w.heap.size, 1, none⟩ = some (.int .i64 r.type) ∧ w'.cell? ⟨w.heap.size, 2, none⟩ = some (.int .i64 r.ttl) ∧ w'.cell? ⟨w.heap.size, 3, none⟩ = some (.int .i64 r.addr) ∧ w'.cell? ⟨w.heap.size, 4, none⟩ = some (.slice ta r.to.length tc) ∧ w'.cell? ⟨w.heap.size, 5, none⟩ = some (.slice xa r.text.length xc) ∧ w'.cell? ⟨w.heap.size, 6, none⟩ = some (.slice ia r.nums.length ic))), (6, (fun w' => w'.cell? ⟨w.heap.size, 0, none⟩ = some (.slice na r.name.length nc) ∧ w'.cell? ⟨w.heap.size, 1, none⟩ = some (.int .i64 r.type) ∧ w'.cell? ⟨w.heap.size, 2, none⟩ = some (.int .i64 r.ttl) ∧ w'.cell? ⟨w.heap.size, 3, none⟩ = some (.int .i64 r.addr) ∧ w'.cell? ⟨w.heap.size, 4, none⟩ = some (.slice ta r.to.length tc) ∧ w'.cell? ⟨w.heap.size, 5, none⟩ = some (.slice xa r.text.length xc) ∧ w'.cell? ⟨w.heap.size, 6, none⟩ = some (.slice ia r.nums.length ic))), (8, (fun w' => w'.cell? ⟨w.heap.size, 0, none⟩ = some (.slice na r.name.length nc) ∧ w'.cell? ⟨w.heap.size, 1, none⟩ = some (.int .i64 r.type) ∧ w'.cell? ⟨w.heap.size, 2, none⟩ = some (.int .i64 r.ttl) ∧ w'.cell? ⟨w.heap.size, 3, none⟩ = some (.int .i64 r.addr) ∧ w'.cell? ⟨w.heap.size, 4, none⟩ = some (.slice ta r.to.length tc) ∧ w'.cell? ⟨w.heap.size, 5, none⟩ = some (.slice xa r.text.length xc) ∧ w'.cell? ⟨w.heap.size, 6, none⟩ = some (.slice ia r.nums.length ic))), (10, (fun w' => w'.cell? ⟨w.heap.size, 0, none⟩ = some (.slice na r.name.length nc) ∧ w'.cell? ⟨w.heap.size, 1, none⟩ = some (.int .i64 r.type) ∧ w'.cell? ⟨w.heap.size, 2, none⟩ = some (.int .i64 r.ttl) ∧ w'.cell? ⟨w.heap.size, 3, none⟩ = some (.int .i64 r.addr) ∧ w'.cell? ⟨w.heap.size, 4, none⟩ = some (.slice ta r.to.length tc) ∧ w'.cell? ⟨w.heap.size, 5, none⟩ = some (.slice xa r.text.length xc) ∧ w'.cell? ⟨w.heap.size, 6, none⟩ = some (.slice ia r.nums.length ic))), (14, (fun w' => w'.cell? ⟨w.heap.size, 0, none⟩ = some (.slice na r.name.length nc) ∧ w'.cell? ⟨w.heap.size, 1, none⟩ = some (.int .i64 r.type) ∧ w'.cell? ⟨w.heap.size, 2, none⟩ = some (.int .i64 r.ttl) ∧ w'.cell? ⟨w.heap.size, 3, none⟩ = some (.int .i64 r.addr) ∧ w'.cell? ⟨w.heap.size, 4, none⟩ = some (.slice ta r.to.length tc) ∧ w'.cell? ⟨w.heap.size, 5, none⟩ = some (.slice xa r.text.length xc) ∧ w'.cell? ⟨w.heap.size, 6, none⟩ = some (.slice ia r.nums.length ic))), (18, (fun w' => w'.cell? ⟨w.heap.size, 0, none⟩ = some (.slice na r.name.length nc) ∧ w'.cell? ⟨w.heap.size, 1, none⟩ = some (.int .i64 r.type) ∧ w'.cell? ⟨w.heap.size, 2, none⟩ = some (.int .i64 r.ttl) ∧ w'.cell? ⟨w.heap.size, 3, none⟩ = some (.int .i64 r.addr) ∧ w'.cell? ⟨w.heap.size, 4, none⟩ = some (.slice ta r.to.length tc) ∧ w'.cell? ⟨w.heap.size, 5, none⟩ = some (.slice xa r.text.length xc) ∧ w'.cell? ⟨w.heap.size, 6, none⟩ = some (.slice ia r.nums.length ic)))] (fun hA => ?_)
  replace hA := UC hA
  generalize W.drew = W0 at *
  go_simp
  repeat ((refine Cf ?_ (UB hA) rfl rfl rfl (by rfl) (fun _ _ _ h => h) ?_ ?_; rotate_left; · (intro w; go_simp <;> with_reducible rfl)); go_simp)
  refine Mm ?_ (UB hA) rfl rfl rfl (by rfl) (fun _ _ _ h => h) (.head _) (UJ (UB A).kb) ?_ ?_; rotate_left; (· (intro w hSw; (try dsimp only at hSw); go_simp <;> with_reducible rfl)); go_simp
  repeat ((refine Cf ?_ (UB hA) rfl rfl rfl (by rfl) (fun _ _ _ h => h) ?_ ?_; rotate_left; · (intro w; go_simp <;> with_reducible rfl)); go_simp)
  refine Mm ?_ (UB hA) rfl rfl rfl (by rfl) (fun _ _ _ h => h) (.tail _ (.head _)) (UJ (UB A).kb) ?_ ?_; rotate_left; (· (intro w hSw; (try dsimp only at hSw); go_simp <;> with_reducible rfl)); go_simp
  repeat ((refine Cf ?_ (UB hA) rfl rfl rfl (by rfl) (fun _ _ _ h => h) ?_ ?_; rotate_left; · (intro w; go_simp <;> with_reducible rfl)); go_simp)
  refine Mm ?_ (UB hA) rfl rfl rfl (by rfl) (fun _ _ _ h => h) (.tail _ (.tail _ (.head _))) (UJ (UB A).kb) ?_ ?_; rotate_left; (· (intro w hSw; (try dsimp only at hSw); go_simp <;> with_reducible rfl)); go_simp
  repeat ((refine Cf ?_ (UB hA) rfl rfl rfl (by rfl) (fun _ _ _ h => h) ?_ ?_; rotate_left; · (intro w; go_simp <;> with_reducible rfl)); go_simp)
  refine Mm ?_ (UB hA) rfl rfl rfl (by rfl) (fun _ _ _ h => h) (.tail _ (.tail _ (.tail _ (.head _)))) (UJ (UB A).kb) ?_ ?_; rotate_left; (· (intro w hSw; (try dsimp only at hSw); go_simp <;> with_reducible rfl)); go_simp
  repeat ((refine Cf ?_ (UB hA) rfl rfl rfl (by rfl) (fun _ _ _ h => h) ?_ ?_; rotate_left; · (intro w; go_simp <;> with_reducible rfl)); go_simp)
  refine Mm ?_ (UB hA) rfl rfl rfl (by rfl) (fun _ _ _ h => h) (.tail _ (.tail _ (.tail _ (.tail _ (.head _))))) (UJ (UB A).kb) ?_ ?_; rotate_left; (· (intro w hSw; (try dsimp only at hSw); go_simp <;> with_reducible rfl)); go_simp
  repeat ((refine Cf ?_ (UB hA) rfl rfl rfl (by rfl) (fun _ _ _ h => h) ?_ ?_; rotate_left; · (intro w; go_simp <;> with_reducible rfl)); go_simp)
  refine Mm ?_ (UB hA) rfl rfl rfl (by rfl) (fun _ _ _ h => h) (.tail _ (.tail _ (.tail _ (.tail _ (.tail _ (.head _)))))) (UJ (UB A).kb) ?_ ?_; rotate_left; (· (intro w hSw; (try dsimp only at hSw); go_simp <;> with_reducible rfl)); go_simp
  repeat ((refine Cf ?_ (UB hA) rfl rfl rfl (by rfl) (fun _ _ _ h => h) ?_ ?_; rotate_left; · (intro w; go_simp <;> with_reducible rfl)); go_simp)
  refine Mm ?_ (UB hA) rfl rfl rfl (by rfl) (fun _ _ _ h => h) (.tail _ (.tail _ (.tail _ (.tail _ (.tail _ (.tail _ (.head _))))))) (UJ (UB A).kb) ?_ ?_; rotate_left; (· (intro w hSw; (try dsimp only at hSw); go_simp <;> with_reducible rfl)); go_simp
  repeat ((refine Cf ?_ (UB hA) rfl rfl rfl (by rfl) (fun _ _ _ h => h) ?_ ?_; rotate_left; · (intro w; go_simp <;> with_reducible rfl)); go_simp)
  refine Yn [0, 1, 3, 4, 5, 6, 7, 8, 9, 10, 13, 14, 17, 18, 12, 2, 11, 15, 16, 19, 20, 21] [0, 1, 3, 4, 5, 6, 7, 8, 9, 10, 13, 14, 17, 18, 16, 2, 11, 12, 15, 19, 20, 21] (UB hA) rfl rfl ⟨by kernel_rfl, by kernel_rfl, by kernel_rfl, by kernel_rfl⟩ rfl rfl rfl ⟨by kernel_rfl, by kernel_rfl, by kernel_rfl, by kernel_rfl⟩ rfl rfl rfl (by kernel_rfl) (by kernel_rfl) (by kernel_rfl) (by kernel_rfl) (fun K hK => ?_) (fun hA2 K hK => ?_) (fun hA2 K hK => ?_)
  ·have HK := UC hK
   clear hK
   go_simp
   refine (UB HN _ (UB A).has.name).mono ?_
   rintro e w1 ⟨v, rfl, o, b⟩
   obtain ⟨p1, q1, rfl, hf⟩ := o.hasL.form
   clear hf
   replace A := UC ((UB A).below b)
   have N1 := UC (o.mono zW)
   clear o
   have zn := Nat.le_trans zW b.size
   replace bb := UG bb b
   clear zW b
   have zW := zn
   clear zn
   refine (UB HK).out _ _ (Bh (UJ (UB A).kb)) ?_
   clear HK K
   go_simp
   repeat ((refine Cf ?_ (UB hA) rfl rfl rfl (by rfl) (fun _ _ _ h => h) ?_ ?_; rotate_left; · (intro w; go_simp <;> with_reducible rfl)); go_simp)
   refine Yn [0, 1, 3, 4, 5, 6, 7, 8, 9, 10, 13, 14, 17, 18, 2, 12, 11, 15, 16, 19, 20, 21] [0, 1, 3, 4, 5, 6, 7, 8, 9, 10, 13, 14, 17, 18, 2, 16, 11, 12, 15, 19, 20, 21] (UB hA) rfl rfl ⟨by kernel_rfl, by kernel_rfl, by kernel_rfl, by kernel_rfl⟩ rfl rfl rfl ⟨by kernel_rfl, by kernel_rfl, by kernel_rfl, by kernel_rfl⟩ rfl rfl rfl (by kernel_rfl) (by kernel_rfl) (by kernel_rfl) (by kernel_rfl) (fun K hK => ?_) (fun hA2 K hK => ?_) (fun hA2 K hK => ?_)
   ·have HK := UC hK
    clear hK
    go_simp
    refine (UB HT _ (UB A).has.to).mono ?_
    rintro e w2 ⟨v, rfl, o, b⟩
    obtain ⟨p2, q2, rfl, hf⟩ := o.hasL.form
    clear hf
    replace A := UC ((UB A).below b)
    replace N1 := UC ((UB N1).below b)
    have N2 := UC (o.mono zW)
    clear o
    have zn := Nat.le_trans zW b.size
    replace bb := UG bb b
    clear zW b
    have zW := zn
    clear zn
    refine (UB HK).out _ _ (Bh (UJ (UB A).kb)) ?_
    clear HK K
    go_simp
    repeat ((refine Cf ?_ (UB hA) rfl rfl rfl (by rfl) (fun _ _ _ h => h) ?_ ?_; rotate_left; · (intro w; go_simp <;> with_reducible rfl)); go_simp)
    refine Pn [0, 1, 3, 4, 5, 6, 7, 8, 9, 10, 13, 14, 17, 18, 2, 11, 16, 12, 15, 19, 20, 21] (UB hA) rfl rfl ⟨by kernel_rfl, by kernel_rfl, by kernel_rfl, by kernel_rfl⟩ rfl rfl rfl (by kernel_rfl) (by kernel_rfl) (by kernel_rfl) (fun K hK => ?_) (fun hA2 K hK => ?_)
    ·have HK := UC hK
     clear hK
     go_simp
     have b := Cg (w := w2) 5
     replace A := UC ((UB A).below b)
     replace N1 := UC ((UB N1).below b)
     replace N2 := UC ((UB N2).below b)
     have L1 := UC (heap_alloc_new w2 (.cells #[] 5))
     have zn := Nat.le_trans zW b.size
     replace bb := UG bb b
     have pL1 := zW
     clear zW b
     have zW := zn
     clear zn
     generalize w2.alloc (.cells #[] 5) = w3 at *
     generalize w2.heap.size = g1 at *
     refine (UB HK).out _ _ (Bh (UJ (UB A).kb)) ?_
     clear HK K
     go_simp
     repeat ((refine Cf ?_ (UB hA) rfl rfl rfl (by rfl) (fun _ _ _ h => h) ?_ ?_; rotate_left; · (intro w; go_simp <;> with_reducible rfl)); go_simp)
     refine By [0, 1, 3, 4, 5, 6, 7, 8, 9, 10, 13, 14, 17, 18, 2, 11, 12, 15, 16, 19, 20, 21] (by kernel_rfl) ?_
     clear hA
     revert pL1
     revert L1
     revert N2
     revert N1
     revert zW
     revert bb
     revert A
     revert w3
     revert g1
     revert q2
     revert p2
     revert q1
     revert p1
     exact UB H2
    ·replace hA := UC hA2
     clear hA2
     have HK := UC hK
     clear hK
     go_simp
     have b := Cg (w := w2) 3
     replace A := UC ((UB A).below b)
     replace N1 := UC ((UB N1).below b)
     replace N2 := UC ((UB N2).below b)
     have L2 := UC (heap_alloc_new w2 (.cells #[] 3))
     have zn := Nat.le_trans zW b.size
     replace bb := UG bb b
     have pL2 := zW
     clear zW b
     have zW := zn
     clear zn
     generalize w2.alloc (.cells #[] 3) = w4 at *
     generalize w2.heap.size = g2 at *
     refine (UB HK).out _ _ (Bh (UJ (UB A).kb)) ?_
     clear HK K
     go_simp
     repeat ((refine Cf ?_ (UB hA) rfl rfl rfl (by rfl) (fun _ _ _ h => h) ?_ ?_; rotate_left; · (intro w; go_simp <;> with_reducible rfl)); go_simp)
     refine By [0, 1, 3, 4, 5, 6, 7, 8, 9, 10, 13, 14, 17, 18, 2, 11, 16, 12, 15, 19, 20, 21] (by kernel_rfl) ?_
     clear hA
     revert pL2
     revert L2
     revert N2
     revert N1
     revert zW
     revert bb
     revert A
     revert w4
     revert g2
     revert q2
     revert p2
     revert q1
     revert p1
     exact UB H3
   ·replace hA := UC hA2
    clear hA2
    have HK := UC hK
    clear hK
    go_simp
    have b := Cg (w := w1) 5
    replace A := UC ((UB A).below b)
    replace N1 := UC ((UB N1).below b)
    have L1 := UC (heap_alloc_new w1 (.cells #[] 5))
    have zn := Nat.le_trans zW b.size
    replace bb := UG bb b
    have pL1 := zW
    clear zW b
    have zW := zn
    clear zn
    generalize w1.alloc (.cells #[] 5) = w5 at *
    generalize w1.heap.size = g1 at *
    refine (UB HK).out _ _ (Bh (UJ (UB A).kb)) ?_
    clear HK K
    go_simp
    repeat ((refine Cf ?_ (UB hA) rfl rfl rfl (by rfl) (fun _ _ _ h => h) ?_ ?_; rotate_left; · (intro w; go_simp <;> with_reducible rfl)); go_simp)
    refine By [0, 1, 3, 4, 5, 6, 7, 8, 9, 10, 13, 14, 17, 18, 2, 12, 11, 15, 16, 19, 20, 21] (by kernel_rfl) ?_
    clear hA
    revert pL1
    revert L1
    revert N1
    revert zW
    revert bb
    revert A
    revert w5
    revert g1
    revert q1
    revert p1
    exact UB H5
   ·replace hA := UC hA2
    clear hA2
    have HK := UC hK
    clear hK
    go_simp
    have b := Cg (w := w1) 3
    replace A := UC ((UB A).below b)
    replace N1 := UC ((UB N1).below b)
    have L2 := UC (heap_alloc_new w1 (.cells #[] 3))
    have zn := Nat.le_trans zW b.size
    replace bb := UG bb b
    have pL2 := zW
    clear zW b
    have zW := zn
    clear zn
    generalize w1.alloc (.cells #[] 3) = w6 at *
    generalize w1.heap.size = g2 at *
    refine (UB HK).out _ _ (Bh (UJ (UB A).kb)) ?_
    clear HK K
    go_simp
    repeat ((refine Cf ?_ (UB hA) rfl rfl rfl (by rfl) (fun _ _ _ h => h) ?_ ?_; rotate_left; · (intro w; go_simp <;> with_reducible rfl)); go_simp)
    refine By [0, 1, 3, 4, 5, 6, 7, 8, 9, 10, 13, 14, 17, 18, 2, 16, 11, 12, 15, 19, 20, 21] (by kernel_rfl) ?_
    clear hA
    revert pL2
    revert L2
    revert N1
    revert zW
    revert bb
    revert A
    revert w6
    revert g2
    revert q1
    revert p1
    exact UB H6
  ·replace hA := UC hA2
   clear hA2
   have HK := UC hK
   clear hK
   go_simp
   have b := Cg (w := W0) 5
   replace A := UC ((UB A).below b)
   have L1 := UC (heap_alloc_new W0 (.cells #[] 5))
   have zn := Nat.le_trans zW b.size
   replace bb := UG bb b
   have pL1 := zW
   clear zW b
   have zW := zn
   clear zn
   generalize W0.alloc (.cells #[] 5) = w7 at *
   generalize W0.heap.size = g1 at *
   refine (UB HK).out _ _ (Bh (UJ (UB A).kb)) ?_
   clear HK K
   go_simp
   repeat ((refine Cf ?_ (UB hA) rfl rfl rfl (by rfl) (fun _ _ _ h => h) ?_ ?_; rotate_left; · (intro w; go_simp <;> with_reducible rfl)); go_simp)
   refine Pn [0, 1, 3, 4, 5, 6, 7, 8, 9, 10, 13, 14, 17, 18, 12, 16, 2, 11, 15, 19, 20, 21] (UB hA) rfl rfl ⟨by kernel_rfl, by kernel_rfl, by kernel_rfl, by kernel_rfl⟩ rfl rfl rfl (by kernel_rfl) (by kernel_rfl) (by kernel_rfl) (fun K hK => ?_) (fun hA2 K hK => ?_)
   ·have HK := UC hK
    clear hK
    go_simp
    refine (UB HN _ (UB A).has.name).mono ?_
    rintro e w8 ⟨v, rfl, o, b⟩
    obtain ⟨p1, q1, rfl, hf⟩ := o.hasL.form
    clear hf
    replace A := UC ((UB A).below b)
    replace L1 := UC (UE b (UB L1))
    have N1 := UC (o.mono zW)
    clear o
    have zn := Nat.le_trans zW b.size
    replace bb := UG bb b
    clear zW b
    have zW := zn
    clear zn
    refine (UB HK).out _ _ (Bh (UJ (UB A).kb)) ?_
    clear HK K
    go_simp
    repeat ((refine Cf ?_ (UB hA) rfl rfl rfl (by rfl) (fun _ _ _ h => h) ?_ ?_; rotate_left; · (intro w; go_simp <;> with_reducible rfl)); go_simp)
    refine By [0, 1, 3, 4, 5, 6, 7, 8, 9, 10, 13, 14, 17, 18, 2, 12, 11, 15, 16, 19, 20, 21] (by kernel_rfl) ?_
    clear hA
    revert pL1
    revert L1
    revert N1
    revert zW
    revert bb
    revert A
    revert w8
    revert g1
    revert q1
    revert p1
    exact UB H5
   ·replace hA := UC hA2
    clear hA2
    have HK := UC hK
    clear hK
    go_simp
    have b := Cg (w := w7) 3
    replace A := UC ((UB A).below b)
    replace L1 := UC (UE b (UB L1))
    have L2 := UC (heap_alloc_new w7 (.cells #[] 3))
    have zn := Nat.le_trans zW b.size
    replace bb := UG bb b
    have pL2 := zW
    clear zW b
    have zW := zn
    clear zn
    generalize w7.alloc (.cells #[] 3) = w9 at *
    generalize w7.heap.size = g2 at *
    refine (UB HK).out _ _ (Bh (UJ (UB A).kb)) ?_
    clear HK K
    go_simp
    repeat ((refine Cf ?_ (UB hA) rfl rfl rfl (by rfl) (fun _ _ _ h => h) ?_ ?_; rotate_left; · (intro w; go_simp <;> with_reducible rfl)); go_simp)
    refine By [0, 1, 3, 4, 5, 6, 7, 8, 9, 10, 13, 14, 17, 18, 12, 16, 2, 11, 15, 19, 20, 21] (by kernel_rfl) ?_
    clear hA
    revert pL2
    revert L2
    revert pL1
    revert L1
    revert zW
    revert bb
    revert A
    revert w9
    revert g2
    revert g1
    exact UB H7
  ·replace hA := UC hA2
   clear hA2
   have HK := UC hK
   clear hK
   go_simp
   have b := Cg (w := W0) 3
   replace A := UC ((UB A).below b)
   have L2 := UC (heap_alloc_new W0 (.cells #[] 3))
   have zn := Nat.le_trans zW b.size
   replace bb := UG bb b
   have pL2 := zW
   clear zW b
   have zW := zn
   clear zn
   generalize W0.alloc (.cells #[] 3) = w10 at *
   generalize W0.heap.size = g2 at *
   refine (UB HK).out _ _ (Bh (UJ (UB A).kb)) ?_
   clear HK K
   go_simp
   repeat ((refine Cf ?_ (UB hA) rfl rfl rfl (by rfl) (fun _ _ _ h => h) ?_ ?_; rotate_left; · (intro w; go_simp <;> with_reducible rfl)); go_simp)
   refine Pn [0, 1, 3, 4, 5, 6, 7, 8, 9, 10, 13, 14, 17, 18, 16, 12, 2, 11, 15, 19, 20, 21] (UB hA) rfl rfl ⟨by kernel_rfl, by kernel_rfl, by kernel_rfl, by kernel_rfl⟩ rfl rfl rfl (by kernel_rfl) (by kernel_rfl) (by kernel_rfl) (fun K hK => ?_) (fun hA2 K hK => ?_)
   ·have HK := UC hK
    clear hK
    go_simp
    refine (UB HN _ (UB A).has.name).mono ?_
    rintro e w11 ⟨v, rfl, o, b⟩
    obtain ⟨p1, q1, rfl, hf⟩ := o.hasL.form
    clear hf
    replace A := UC ((UB A).below b)
    replace L2 := UC (UE b (UB L2))
    have N1 := UC (o.mono zW)
    clear o
    have zn := Nat.le_trans zW b.size
    replace bb := UG bb b
    clear zW b
    have zW := zn
    clear zn
    refine (UB HK).out _ _ (Bh (UJ (UB A).kb)) ?_
    clear HK K
    go_simp
    repeat ((refine Cf ?_ (UB hA) rfl rfl rfl (by rfl) (fun _ _ _ h => h) ?_ ?_; rotate_left; · (intro w; go_simp <;> with_reducible rfl)); go_simp)
    refine By [0, 1, 3, 4, 5, 6, 7, 8, 9, 10, 13, 14, 17, 18, 2, 16, 11, 12, 15, 19, 20, 21] (by kernel_rfl) ?_
    clear hA
    revert pL2
    revert L2
    revert N1
    revert zW
    revert bb
    revert A
    revert w11
    revert g2
    revert q1
    revert p1
    exact UB H6
   ·replace hA := UC hA2
    clear hA2
    have HK := UC hK
    clear hK
    go_simp
    have b := Cg (w := w10) 5
    replace A := UC ((UB A).below b)
    replace L2 := UC (UE b (UB L2))
    have L1 := UC (heap_alloc_new w10 (.cells #[] 5))
    have zn := Nat.le_trans zW b.size
    replace bb := UG bb b
    have pL1 := zW
    clear zW b
    have zW := zn
    clear zn
    generalize w10.alloc (.cells #[] 5) = w12 at *
    generalize w10.heap.size = g1 at *
    refine (UB HK).out _ _ (Bh (UJ (UB A).kb)) ?_
    clear HK K
    go_simp
    repeat ((refine Cf ?_ (UB hA) rfl rfl rfl (by rfl) (fun _ _ _ h => h) ?_ ?_; rotate_left; · (intro w; go_simp <;> with_reducible rfl)); go_simp)
    refine By [0, 1, 3, 4, 5, 6, 7, 8, 9, 10, 13, 14, 17, 18, 12, 16, 2, 11, 15, 19, 20, 21] (by kernel_rfl) ?_
    clear hA
    revert pL2
    revert L2
    revert pL1
    revert L1
    revert zW
    revert bb
    revert A
    revert w12
    revert g2
    revert g1
    exact UB H7
 ·intro g1 g2 W9 A bb zW L1 pL1 L2 pL2
  refine atD (E := [2, 11, 12, 15, 16, 19, 21]) (ord := [0, 1, 3, 4, 5, 6, 7, 8, 9, 10, 13, 14, 17, 18, 12, 16, 2, 11, 15, 19, 20, 21]) ⟨by kernel_rfl, by kernel_rfl, by kernel_rfl, by kernel_rfl⟩ (fun hA => ?_)
  refine runD (UB hA) rfl rfl (by kernel_rfl) (by kernel_rfl) (fun K hK => ?_)
  have HK := UC hK
  clear hK
  go_simp
  refine (UB HN _ (UB A).has.name).mono ?_
  rintro e w13 ⟨v, rfl, o, b⟩
  obtain ⟨p1, q1, rfl, hf⟩ := o.hasL.form
  clear hf
  replace A := UC ((UB A).below b)
  replace L1 := UC (UE b (UB L1))
  replace L2 := UC (UE b (UB L2))
  have N1 := UC (o.mono zW)
  clear o
  have zn := Nat.le_trans zW b.size
  replace bb := UG bb b
  clear zW b
  have zW := zn
  clear zn
  refine (UB HK).out _ _ (Bh (UJ (UB A).kb)) ?_
  clear HK K
  go_simp
  repeat ((refine Cf ?_ (UB hA) rfl rfl rfl (by rfl) (fun _ _ _ h => h) ?_ ?_; rotate_left; · (intro w; go_simp <;> with_reducible rfl)); go_simp)
  refine By [0, 1, 3, 4, 5, 6, 7, 8, 9, 10, 13, 14, 17, 18, 2, 12, 16, 11, 15, 19, 20, 21] (by kernel_rfl) ?_
  clear hA
  revert pL2
  revert L2
  revert pL1
  revert L1
  revert N1
  revert zW
  revert bb
  revert A
  revert w13
  revert g2
  revert g1
  revert q1
  revert p1
  exact UB H4
 ·intro p1 q1 g2 W9 A bb zW N1 L2 pL2
  refine atD (E := [2, 11, 12, 15, 16, 19, 21]) (ord := [0, 1, 3, 4, 5, 6, 7, 8, 9, 10, 13, 14, 17, 18, 2, 16, 11, 12, 15, 19, 20, 21]) ⟨by kernel_rfl, by kernel_rfl, by kernel_rfl, by kernel_rfl⟩ (fun hA => ?_)
  refine Pn [0, 1, 3, 4, 5, 6, 7, 8, 9, 10, 13, 14, 17, 18, 2, 16, 12, 11, 15, 19, 20, 21] (UB hA) rfl rfl ⟨by kernel_rfl, by kernel_rfl, by kernel_rfl, by kernel_rfl⟩ rfl rfl rfl (by kernel_rfl) (by kernel_rfl) (by kernel_rfl) (fun K hK => ?_) (fun hA2 K hK => ?_)
  ·have HK := UC hK
   clear hK
   go_simp
   refine (UB HT _ (UB A).has.to).mono ?_
   rintro e w14 ⟨v, rfl, o, b⟩
   obtain ⟨p2, q2, rfl, hf⟩ := o.hasL.form
   clear hf
   replace A := UC ((UB A).below b)
   replace N1 := UC ((UB N1).below b)
   replace L2 := UC (UE b (UB L2))
   have N2 := UC (o.mono zW)
   clear o
   have zn := Nat.le_trans zW b.size
   replace bb := UG bb b
   clear zW b
   have zW := zn
   clear zn
   refine (UB HK).out _ _ (Bh (UJ (UB A).kb)) ?_
   clear HK K
   go_simp
   repeat ((refine Cf ?_ (UB hA) rfl rfl rfl (by rfl) (fun _ _ _ h => h) ?_ ?_; rotate_left; · (intro w; go_simp <;> with_reducible rfl)); go_simp)
   refine By [0, 1, 3, 4, 5, 6, 7, 8, 9, 10, 13, 14, 17, 18, 2, 11, 16, 12, 15, 19, 20, 21] (by kernel_rfl) ?_
   clear hA
   revert pL2
   revert L2
   revert N2
   revert N1
   revert zW
   revert bb
   revert A
   revert w14
   revert g2
   revert q2
   revert p2
   revert q1
   revert p1
   exact UB H3
  ·replace hA := UC hA2
   clear hA2
   have HK := UC hK
   clear hK
   go_simp
   have b := Cg (w := W9) 5
   replace A := UC ((UB A).below b)
   replace N1 := UC ((UB N1).below b)
   replace L2 := UC (UE b (UB L2))
   have L1 := UC (heap_alloc_new W9 (.cells #[] 5))
   have zn := Nat.le_trans zW b.size
   replace bb := UG bb b
   have pL1 := zW
   clear zW b
   have zW := zn
   clear zn
   generalize W9.alloc (.cells #[] 5) = w15 at *
   generalize W9.heap.size = g1 at *
   refine (UB HK).out _ _ (Bh (UJ (UB A).kb)) ?_
   clear HK K
   go_simp
   repeat ((refine Cf ?_ (UB hA) rfl rfl rfl (by rfl) (fun _ _ _ h => h) ?_ ?_; rotate_left; · (intro w; go_simp <;> with_reducible rfl)); go_simp)
   refine By [0, 1, 3, 4, 5, 6, 7, 8, 9, 10, 13, 14, 17, 18, 2, 12, 16, 11, 15, 19, 20, 21] (by kernel_rfl) ?_
   clear hA
   revert pL2
   revert L2
   revert pL1
   revert L1
   revert N1
   revert zW
   revert bb
   revert A
   revert w15
   revert g2
   revert g1
   revert q1
   revert p1
   exact UB H4
 ·intro p1 q1 g1 W9 A bb zW N1 L1 pL1
  refine atD (E := [2, 11, 12, 15, 16, 19, 21]) (ord := [0, 1, 3, 4, 5, 6, 7, 8, 9, 10, 13, 14, 17, 18, 2, 12, 11, 15, 16, 19, 20, 21]) ⟨by kernel_rfl, by kernel_rfl, by kernel_rfl, by kernel_rfl⟩ (fun hA => ?_)
  refine Pn [0, 1, 3, 4, 5, 6, 7, 8, 9, 10, 13, 14, 17, 18, 2, 12, 16, 11, 15, 19, 20, 21] (UB hA) rfl rfl ⟨by kernel_rfl, by kernel_rfl, by kernel_rfl, by kernel_rfl⟩ rfl rfl rfl (by kernel_rfl) (by kernel_rfl) (by kernel_rfl) (fun K hK => ?_) (fun hA2 K hK => ?_)
  ·have HK := UC hK
   clear hK
   go_simp
   refine (UB HT _ (UB A).has.to).mono ?_
   rintro e w16 ⟨v, rfl, o, b⟩
   obtain ⟨p2, q2, rfl, hf⟩ := o.hasL.form
   clear hf
   replace A := UC ((UB A).below b)
   replace N1 := UC ((UB N1).below b)
   replace L1 := UC (UE b (UB L1))
   have N2 := UC (o.mono zW)
   clear o
   have zn := Nat.le_trans zW b.size
   replace bb := UG bb b
   clear zW b
   have zW := zn
   clear zn
   refine (UB HK).out _ _ (Bh (UJ (UB A).kb)) ?_
   clear HK K
   go_simp
   repeat ((refine Cf ?_ (UB hA) rfl rfl rfl (by rfl) (fun _ _ _ h => h) ?_ ?_; rotate_left; · (intro w; go_simp <;> with_reducible rfl)); go_simp)
   refine By [0, 1, 3, 4, 5, 6, 7, 8, 9, 10, 13, 14, 17, 18, 2, 11, 12, 15, 16, 19, 20, 21] (by kernel_rfl) ?_
   clear hA
   revert pL1
   revert L1
   revert N2
   revert N1
   revert zW
   revert bb
   revert A
   revert w16
   revert g1
   revert q2
   revert p2
   revert q1
   revert p1
   exact UB H2
  ·replace hA := UC hA2
   clear hA2
   have HK := UC hK
   clear hK
   go_simp
   have b := Cg (w := W9) 3
   replace A := UC ((UB A).below b)
   replace N1 := UC ((UB N1).below b)
   replace L1 := UC (UE b (UB L1))
   have L2 := UC (heap_alloc_new W9 (.cells #[] 3))
   have zn := Nat.le_trans zW b.size
   replace bb := UG bb b
   have pL2 := zW
   clear zW b
   have zW := zn
   clear zn
   generalize W9.alloc (.cells #[] 3) = w17 at *
   generalize W9.heap.size = g2 at *
   refine (UB HK).out _ _ (Bh (UJ (UB A).kb)) ?_
   clear HK K
   go_simp
   repeat ((refine Cf ?_ (UB hA) rfl rfl rfl (by rfl) (fun _ _ _ h => h) ?_ ?_; rotate_left; · (intro w; go_simp <;> with_reducible rfl)); go_simp)
   refine By [0, 1, 3, 4, 5, 6, 7, 8, 9, 10, 13, 14, 17, 18, 2, 12, 16, 11, 15, 19, 20, 21] (by kernel_rfl) ?_
   clear hA
   revert pL2
   revert L2
   revert pL1
   revert L1
   revert N1
   revert zW
   revert bb
   revert A
   revert w17
   revert g2
   revert g1
   revert q1
   revert p1
   exact UB H4
 ·intro p1 q1 g1 g2 W9 A bb zW N1 L1 pL1 L2 pL2
  refine atD (E := [2, 11, 12, 15, 16, 19, 21]) (ord := [0, 1, 3, 4, 5, 6, 7, 8, 9, 10, 13, 14, 17, 18, 2, 12, 16, 11, 15, 19, 20, 21]) ⟨by kernel_rfl, by kernel_rfl, by kernel_rfl, by kernel_rfl⟩ (fun hA => ?_)
  refine runD (UB hA) rfl rfl (by kernel_rfl) (by kernel_rfl) (fun K hK => ?_)
  have HK := UC hK
  clear hK
  go_simp
  refine (UB HT _ (UB A).has.to).mono ?_
  rintro e w18 ⟨v, rfl, o, b⟩
  obtain ⟨p2, q2, rfl, hf⟩ := o.hasL.form
  clear hf
  replace A := UC ((UB A).below b)
  replace N1 := UC ((UB N1).below b)
  replace L1 := UC (UE b (UB L1))
  replace L2 := UC (UE b (UB L2))
  have N2 := UC (o.mono zW)
  clear o
  have zn := Nat.le_trans zW b.size
  replace bb := UG bb b
  clear zW b
  have zW := zn
  clear zn
  refine (UB HK).out _ _ (Bh (UJ (UB A).kb)) ?_
  clear HK K
  go_simp
  repeat ((refine Cf ?_ (UB hA) rfl rfl rfl (by rfl) (fun _ _ _ h => h) ?_ ?_; rotate_left; · (intro w; go_simp <;> with_reducible rfl)); go_simp)
  refine By [0, 1, 3, 4, 5, 6, 7, 8, 9, 10, 13, 14, 17, 18, 2, 11, 12, 16, 15, 19, 20, 21] (by kernel_rfl) ?_
  clear hA
  revert pL2
  revert L2
  revert pL1
  revert L1
  revert N2
  revert N1
  revert zW
  revert bb
  revert A
  revert w18
  revert g2
  revert g1
  revert q2
  revert p2
  revert q1
  revert p1
  exact UB H1
 ·intro p1 q1 p2 q2 g2 W9 A bb zW N1 N2 L2 pL2
  refine atD (E := [2, 11, 12, 15, 16, 19, 21]) (ord := [0, 1, 3, 4, 5, 6, 7, 8, 9, 10, 13, 14, 17, 18, 2, 11, 16, 12, 15, 19, 20, 21]) ⟨by kernel_rfl, by kernel_rfl, by kernel_rfl, by kernel_rfl⟩ (fun hA => ?_)
  refine runD (UB hA) rfl rfl (by kernel_rfl) (by kernel_rfl) (fun K hK => ?_)
  have HK := UC hK
  clear hK
  go_simp
  have b := Cg (w := W9) 5
  replace A := UC ((UB A).below b)
  replace N1 := UC ((UB N1).below b)
  replace N2 := UC ((UB N2).below b)
  replace L2 := UC (UE b (UB L2))
  have L1 := UC (heap_alloc_new W9 (.cells #[] 5))
  have zn := Nat.le_trans zW b.size
  replace bb := UG bb b
  have pL1 := zW
  clear zW b
  have zW := zn
  clear zn
  generalize W9.alloc (.cells #[] 5) = w19 at *
  generalize W9.heap.size = g1 at *
  refine (UB HK).out _ _ (Bh (UJ (UB A).kb)) ?_
  clear HK K
  go_simp
  repeat ((refine Cf ?_ (UB hA) rfl rfl rfl (by rfl) (fun _ _ _ h => h) ?_ ?_; rotate_left; · (intro w; go_simp <;> with_reducible rfl)); go_simp)
  refine By [0, 1, 3, 4, 5, 6, 7, 8, 9, 10, 13, 14, 17, 18, 2, 11, 12, 16, 15, 19, 20, 21] (by kernel_rfl) ?_
  clear hA
  revert pL2
  revert L2
  revert pL1
  revert L1
  revert N2
  revert N1
  revert zW
  revert bb
  revert A
  revert w19
  revert g2
  revert g1
  revert q2
  revert p2
  revert q1
  revert p1
  exact UB H1
 ·intro p1 q1 p2 q2 g1 W9 A bb zW N1 N2 L1 pL1
  refine atD (E := [2, 11, 12, 15, 16, 19, 21]) (ord := [0, 1, 3, 4, 5, 6, 7, 8, 9, 10, 13, 14, 17, 18, 2, 11, 12, 15, 16, 19, 20, 21]) ⟨by kernel_rfl, by kernel_rfl, by kernel_rfl, by kernel_rfl⟩ (fun hA => ?_)
  refine Pn [0, 1, 3, 4, 5, 6, 7, 8, 9, 10, 13, 14, 17, 18, 2, 11, 12, 16, 15, 19, 20, 21] (UB hA) rfl rfl ⟨by kernel_rfl, by kernel_rfl, by kernel_rfl, by kernel_rfl⟩ rfl rfl rfl (by kernel_rfl) (by kernel_rfl) (by kernel_rfl) (fun K hK => ?_) (fun hA2 K hK => ?_)
  ·have HK := UC hK
   clear hK
   refine N9 (.tmp 15) (.tmp 17) 22 5 rfl Tryz.underlying22 (.int .u8 0) 1 VJ (by decide) (by decide) W.heap.size _ pL1 (UB L1) (.slice xa r.text.length xc) (r.text.map (Value.int .u8)) rfl rfl (UB A).has.text.readsV (Je _) (by rw [List.length_map]; omega) ?_
   rintro v w20 o b
   rw [List.length_map] at o
   replace o : Own W.heap.size 5 w20 v r.text := o
   obtain ⟨p3, q3, rfl, hf⟩ := o.lies
   clear hf
   clear L1 pL1
   replace A := UC ((UB A).below b)
   replace N1 := UC ((UB N1).below b)
   replace N2 := UC ((UB N2).below b)
   have X1 := UC o
   clear o
   have zn := Nat.le_trans zW b.size
   replace bb := UG bb b
   clear zW b
   have zW := zn
   clear zn
   refine (UB HK).out _ _ (Bh (UJ (UB A).kb)) ?_
   clear HK K
   go_simp
   repeat ((refine Cf ?_ (UB hA) rfl rfl rfl (by rfl) (fun _ _ _ h => h) ?_ ?_; rotate_left; · (intro w; go_simp <;> with_reducible rfl)); go_simp)
   refine runD (UB hA) rfl rfl (by kernel_rfl) (by kernel_rfl) (fun K hK => ?_)
   have HK := UC hK
   clear hK
   go_simp
   have b := Cg (w := w20) 3
   replace A := UC ((UB A).below b)
   replace N1 := UC ((UB N1).below b)
   replace N2 := UC ((UB N2).below b)
   replace X1 := UC ((UB X1).below b)
   have L2 := UC (heap_alloc_new w20 (.cells #[] 3))
   have zn := Nat.le_trans zW b.size
   replace bb := UG bb b
   have pL2 := zW
   clear zW b
   have zW := zn
   clear zn
   generalize w20.alloc (.cells #[] 3) = w21 at *
   generalize w20.heap.size = g2 at *
   refine (UB HK).out _ _ (Bh (UJ (UB A).kb)) ?_
   clear HK K
   go_simp
   repeat ((refine Cf ?_ (UB hA) rfl rfl rfl (by rfl) (fun _ _ _ h => h) ?_ ?_; rotate_left; · (intro w; go_simp <;> with_reducible rfl)); go_simp)
   refine By [0, 1, 3, 4, 5, 6, 7, 8, 9, 10, 13, 14, 17, 18, 2, 11, 12, 15, 16, 19, 20, 21] (by kernel_rfl) ?_
   clear hA
   revert pL2
   revert L2
   revert X1
   revert N2
   revert N1
   revert zW
   revert bb
   revert A
   revert w21
   revert g2
   revert g1
   revert q3
   revert p3
   revert q2
   revert p2
   revert q1
   revert p1
   exact UB H0
  ·replace hA := UC hA2
   clear hA2
   have HK := UC hK
   clear hK
   go_simp
   have b := Cg (w := W9) 3
   replace A := UC ((UB A).below b)
   replace N1 := UC ((UB N1).below b)
   replace N2 := UC ((UB N2).below b)
   replace L1 := UC (UE b (UB L1))
   have L2 := UC (heap_alloc_new W9 (.cells #[] 3))
   have zn := Nat.le_trans zW b.size
   replace bb := UG bb b
   have pL2 := zW
   clear zW b
   have zW := zn
   clear zn
   generalize W9.alloc (.cells #[] 3) = w22 at *
   generalize W9.heap.size = g2 at *
   refine (UB HK).out _ _ (Bh (UJ (UB A).kb)) ?_
   clear HK K
   go_simp
   repeat ((refine Cf ?_ (UB hA) rfl rfl rfl (by rfl) (fun _ _ _ h => h) ?_ ?_; rotate_left; · (intro w; go_simp <;> with_reducible rfl)); go_simp)
   refine By [0, 1, 3, 4, 5, 6, 7, 8, 9, 10, 13, 14, 17, 18, 2, 11, 12, 16, 15, 19, 20, 21] (by kernel_rfl) ?_
   clear hA
   revert pL2
   revert L2
   revert pL1
   revert L1
   revert N2
   revert N1
   revert zW
   revert bb
   revert A
   revert w22
   revert g2
   revert g1
   revert q2
   revert p2
   revert q1
   revert p1
   exact UB H1
 ·intro p1 q1 p2 q2 g1 g2 W9 A bb zW N1 N2 L1 pL1 L2 pL2
  refine atD (E := [2, 11, 12, 15, 16, 19, 21]) (ord := [0, 1, 3, 4, 5, 6, 7, 8, 9, 10, 13, 14, 17, 18, 2, 11, 12, 16, 15, 19, 20, 21]) ⟨by kernel_rfl, by kernel_rfl, by kernel_rfl, by kernel_rfl⟩ (fun hA => ?_)
  refine runD (UB hA) rfl rfl (by kernel_rfl) (by kernel_rfl) (fun K hK => ?_)
  have HK := UC hK
  clear hK
  refine N9 (.tmp 15) (.tmp 17) 22 5 rfl Tryz.underlying22 (.int .u8 0) 1 VJ (by decide) (by decide) W.heap.size _ pL1 (UB L1) (.slice xa r.text.length xc) (r.text.map (Value.int .u8)) rfl rfl (UB A).has.text.readsV (Je _) (by rw [List.length_map]; omega) ?_
  rintro v w23 o b
  rw [List.length_map] at o
  replace o : Own W.heap.size 5 w23 v r.text := o
  obtain ⟨p3, q3, rfl, hf⟩ := o.lies
  clear hf
  clear L1 pL1
  replace A := UC ((UB A).below b)
  replace N1 := UC ((UB N1).below b)
  replace N2 := UC ((UB N2).below b)
  replace L2 := UC (UE b (UB L2))
  have X1 := UC o
  clear o
  have zn := Nat.le_trans zW b.size
  replace bb := UG bb b
  clear zW b
  have zW := zn
  clear zn
  refine (UB HK).out _ _ (Bh (UJ (UB A).kb)) ?_
  clear HK K
  go_simp
  repeat ((refine Cf ?_ (UB hA) rfl rfl rfl (by rfl) (fun _ _ _ h => h) ?_ ?_; rotate_left; · (intro w; go_simp <;> with_reducible rfl)); go_simp)
  refine By [0, 1, 3, 4, 5, 6, 7, 8, 9, 10, 13, 14, 17, 18, 2, 11, 12, 15, 16, 19, 20, 21] (by kernel_rfl) ?_
  clear hA
  revert pL2
  revert L2
  revert X1
  revert N2
  revert N1
  revert zW
  revert bb
  revert A
  revert w23
  revert g2
  revert g1
  revert q3
  revert p3
  revert q2
  revert p2
  revert q1
  revert p1
  exact UB H0
 ·intro p1 q1 p2 q2 p3 q3 g1 g2 W9 A bb zW N1 N2 X1 L2 pL2
  refine atD (E := [2, 11, 12, 15, 16, 19, 21]) (ord := [0, 1, 3, 4, 5, 6, 7, 8, 9, 10, 13, 14, 17, 18, 2, 11, 12, 15, 16, 19, 20, 21]) ⟨by kernel_rfl, by kernel_rfl, by kernel_rfl, by kernel_rfl⟩ (fun hA => ?_)
  refine runD (UB hA) rfl rfl (by kernel_rfl) (by kernel_rfl) (fun K hK => ?_)
  have HK := UC hK
  clear hK
  refine N9 (.tmp 19) (.tmp 21) 37 3 rfl Tryz.underlying37 (.int .i64 0) 8 Xe (by decide) (by decide) W.heap.size _ pL2 (UB L2) (.slice ia r.nums.length ic) (r.nums.map (Value.int .i64)) rfl rfl (UB A).has.nums.readsV (Uq _) (by rw [List.length_map]; omega) ?_
  rintro v w24 o b
  rw [List.length_map] at o
  replace o : OwnI W.heap.size 3 w24 v r.nums := o
  obtain ⟨p4, q4, rfl, hf⟩ := o.lies
  clear hf
  clear L2 pL2
  replace A := UC ((UB A).below b)
  replace N1 := UC ((UB N1).below b)
  replace N2 := UC ((UB N2).below b)
  replace X1 := UC ((UB X1).below b)
  have Y1 := UC o
  clear o
  have zn := Nat.le_trans zW b.size
  replace bb := UG bb b
  clear zW b
  have zW := zn
  clear zn
  refine (UB HK).out _ _ (Bh (UJ (UB A).kb)) ?_
  clear HK K
  go_simp
  repeat ((refine Cf ?_ (UB hA) rfl rfl rfl (by rfl) (fun _ _ _ h => h) ?_ ?_; rotate_left; · (intro w; go_simp <;> with_reducible rfl)); go_simp)
  obtain ⟨R9, u9⟩ := set7 (c0 := .slice p1 r.name.length q1) (c1 := .int .i64 r.type) (c2 := .int .i64 r.ttl) (c3 := .int .i64 r.addr) (c4 := .slice p2 r.to.length q2) (c5 := .slice p3 r.text.length q3) (c6 := .slice p4 r.nums.length q4) (UB A).kr
  refine runD (UB hA) rfl rfl (by kernel_rfl) (by kernel_rfl) (fun K hK => ?_)
  refine We 39 (.tmp 2) (.tmp 23) rfl (w.heap.size + 1) (.slice p1 r.name.length q1) (.int .i64 r.type) (.int .i64 r.ttl) (.int .i64 r.addr) (.slice p2 r.to.length q2) (.slice p3 r.text.length q3) (.slice p4 r.nums.length q4) rfl rfl (UB A).kr (by kernel_rfl) (by simp [Value.oneCell']) ?_
  refine hK.out _ _ (Bh (UJ (u9.kept (UB A).kb (by omega)))) ?_
  clear hK K
  refine doneD (UB hA) rfl ?_
  go_wp2_with fail
  refine bodyPost_ret (results_cell_row rfl _ _ (w.heap.size + 1) 39 #[.slice p1 r.name.length q1, .int .i64 r.type, .int .i64 r.ttl, .int .i64 r.addr, .slice p2 r.to.length q2, .slice p3 r.text.length q3, .slice p4 r.nums.length q4] (0, 0) _ rfl R9 Tryz.underlying39 rfl (by kernel_rfl)) rfl ?_
  exact ⟨_, _, _, _, rfl, ((UB N1).here.outside u9 (.inr (by omega))).ownL.mono (by omega), ((UB N2).here.outside u9 (.inr (by omega))).ownL.mono (by omega), ((UB X1).outside u9 (by omega)).mono (by omega), (((UB Y1).here).outside u9 (.inr (by omega))).1.mono (by omega), u9.below bb (by omega)⟩
end Go.Proofs.YtfneahdnpmamkaaGreat
