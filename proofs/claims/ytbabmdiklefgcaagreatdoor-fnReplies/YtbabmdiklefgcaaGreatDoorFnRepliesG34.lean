/-
  Contract of the program's RrText at one kind of data. A sign of a constant text of sixteen signs. A byte of a slice, where it lies. No program is named here. Plain facts: an append of bytes as one operation. Contract of the program's text of a text's bytes. Contract of the program's RrText. Contract of the program's addRecords. Plain facts: appends to a slice of bytes whose block may be marked behind its end (what a text's conversion leaves). No program is named here. Plain facts: the words of a message's text as texts. No program is named here.
-/
import Derived.Test.YtbabmdiklefgcaaGreatDoorFnRepliesG32
import Derived.Test.YtbabmdiklefgcaaGreatDoorFnRepliesG06
import Derived.Test.YtbabmdiklefgcaaGreatDoorFnRepliesG00
import Derived.Test.YtbabmdiklefgcaaGreatDoorFnRepliesG01
import Derived.Test.YtbabmdiklefgcaaGreatDoorFnRepliesG15
import Derived.Test.YtbabmdiklefgcaaGreatDoorFnRepliesG23
import Derived.Test.YtbabmdiklefgcaaGreatDoorFnRepliesG33
import Derived.Test.YtbabmdiklefgcaaGreatDoorFnRepliesG04
import Derived.Test.YtbabmdiklefgcaaGreatDoorFnRepliesG31
import Derived.Test.YtbabmdiklefgcaaGreatDoorFnRepliesG03
import Derived.Test.YtbabmdiklefgcaaGreatDoorFnRepliesG07
import Derived.Test.YtbabmdiklefgcaaGreatDoorFnRepliesG30
import Derived.Lib.FrozenHead
import Derived.Laws.IdiomStrings
namespace Go.Proofs.YtbabmdiklefgcaaGreatDoor
open Go.RowKit
set_option linter.unusedVariables false

set_option maxHeartbeats 4000000 in
set_option maxRecDepth 100000 in
theorem rrText_X {na : Option Addr} {nc : Nat} {ta : Option Addr} {tc : Nat} {xa : Option Addr} {xc : Nat} {ia : Option Addr} {ic : Nat} {nm to : List (List Int)} {tx nu : List Int} {tt ad : Int} {w : World} {D : List Int} {ty : Int} (hk : kindV ty = .iface 138 (.agg #[.slice none 0 0])) (hto : typeOk ty = true) (h : HasR w (.slice na nm.length nc) (.slice ta to.length tc) (.slice xa tx.length xc) (.slice ia nu.length ic) ⟨nm, ty, tt, ad, to, tx, nu⟩) (hok : rrOk ⟨nm, ty, tt, ad, to, tx, nu⟩ = true) (ht : Pow10 w)
  (PA : ∀ w1, Below w.heap.size w w1 → Calls Tryz.prog 164 #[.agg #[.slice xa tx.length xc]] w1 fun e w' => ∃ v', e = .returned v' ∧ Own w1.heap.size 5 w' v' D ∧ Below w1.heap.size w1 w') (hD : Byt D) (hDl : D.length ≤ 120) :
  Calls Tryz.prog 47 #[.agg #[.slice na nm.length nc, .int .i64 ty, .int .i64 tt, .int .i64 ad, .slice ta to.length tc, .slice xa tx.length xc, .slice ia nu.length ic]] w fun e w' => ∃ v', e = .returned v' ∧ Fr w.heap.size w'.heap.size w' v' (nameText nm ++ [32] ++ digs tt ++ [32] ++ typeT ty ++ [32] ++ D) ∧ Below w.heap.size w w' := by
 have b0 := UI (w := w) (.cells #[.slice na nm.length nc, .int .i64 ty, .int .i64 tt, .int .i64 ad, .slice ta to.length tc, .slice xa tx.length xc, .slice ia nu.length ic] 63)
 have K0 := UC (heap_alloc_new w (.cells #[.slice na nm.length nc, .int .i64 ty, .int .i64 tt, .int .i64 ad, .slice ta to.length tc, .slice xa tx.length xc, .slice ia nu.length ic] 63))
 have HO := implRrOk_has (h.below b0)
 rw [hok] at HO
 replace HO := UC HO
 have PW := UC PA
 have F0 := UC (h.name.below b0)
 have HT := UC (ht.below b0)
 obtain ⟨_, hty, h0, h1, _⟩ := rrOk_parts hok
 simp only at hty h0 h1
 have PY := UC (show ∀ w1, Calls Tryz.prog 76 #[.int .i64 ty] w1 fun e w' => ∃ v', e = .returned v' ∧ Has w' v' (typeT ty) ∧ Below w1.heap.size w1 w' from fun w1 => implTypeText_has hty)
 have YA := UC (nameText_byt nm)
 have YT := UC (digs_byt tt)
 have YY := UC (typeT_byt ty)
 have YD := UC hD
 have PI := UC (show ∀ w1, Pow10 w1 → Calls Tryz.prog 75 #[.slice none 0 0, .int .i64 tt, .int .i64 10] w1 fun e w' => ∃ v', e = .returned v' ∧ Own w1.heap.size 5 w' v' (digs tt) ∧ Below w1.heap.size w1 w' from fun w1 hp => by
  have := appendInt_own2 (B := w1.heap.size) (v := .slice none 0 0) (l := []) (w := w1) tt (World.ownsRow_nil _ _ _ _) (by simp) h0 (by omega) (Nat.le_refl _) (Lib.tabBelow_of_tabIs hp)
  rwa [List.nil_append] at this)
 have HLE : Hid ((nameText nm).length + (digs tt).length + (typeT ty).length + D.length ≤ 1000) := UC (by
  have := nameText_length nm
  have := digs_ten h0 (by omega)
  have := typeT_length ty
  omega)
 have PN := UC (show ∀ w1, HasL w1 (.slice na nm.length nc) nm → Calls Tryz.prog 21 #[.agg #[.slice na nm.length nc]] w1 fun e w' => ∃ v', e = .returned v' ∧ Own w1.heap.size 5 w' v' (nameText nm) ∧ Below w1.heap.size w1 w' from fun w1 hh => implNameText_has hh)
 have HKK := UC hk
 have HTO := UC hto
 clear h hok PA ht hty hD hDl hk hto
 generalize nameText nm = N at *
 generalize digs tt = T at *
 generalize hY : typeT ty = Y at *
 clear hY
 go_enter Tryz.func47, Tryz.ntmps47
 go_wp2_with fail
 generalize w.alloc (.cells #[.slice na nm.length nc, .int .i64 ty, .int .i64 tt, .int .i64 ad, .slice ta to.length tc, .slice xa tx.length xc, .slice ia nu.length ic] 63) = W at *
 refine (UB HO).mono ?_
 rintro e w1 ⟨rfl, b1⟩
 have KB1 := UE b1 (UB K0)
 obtain ⟨d0, d1, d2, d3, d4, d5, d6⟩ := UJ KB1
 have bb1 := UG b0 b1
 have z1 := bb1.size
 have P1 := (UB HT).below b1
 have F1 := (UB F0).below b1
 go_wp2_with fail
 refine (UB PI _ P1).mono ?_
 rintro e w2 ⟨v2, rfl, o2, b2⟩
 go_wp2_with fail
 have bd := UX (w := w2)
 have c3 := UG b2 bd
 have KB := UC (UE c3 KB1)
 have FN := UC (F1.below c3)
 have T2 := UC (o2.has.below bd)
 have bb3 := UG bb1 c3
 clear d0 d1 d2 d3 d4 d5 d6 KB1 F1 P1 o2 b2 bd c3 b1 b0 K0 F0
 refine startC [0, 1, 3, 4, 5, 7, 2, 6, 8, 9, 10, 11] (by kernel_rfl) ⟨by kernel_rfl, by kernel_rfl, by kernel_rfl, by kernel_rfl⟩ 6 [(1, fun w' => w'.cell? ⟨w.heap.size, 0, none⟩ = some (.slice na nm.length nc)), (5, fun w' => w'.cell? ⟨w.heap.size, 1, none⟩ = some (.int .i64 ty)), (7, fun w' => w'.cell? ⟨w.heap.size, 0, none⟩ = some (.slice na nm.length nc) ∧ w'.cell? ⟨w.heap.size, 1, none⟩ = some (.int .i64 ty) ∧ w'.cell? ⟨w.heap.size, 2, none⟩ = some (.int .i64 tt) ∧ w'.cell? ⟨w.heap.size, 3, none⟩ = some (.int .i64 ad) ∧ w'.cell? ⟨w.heap.size, 4, none⟩ = some (.slice ta to.length tc) ∧ w'.cell? ⟨w.heap.size, 5, none⟩ = some (.slice xa tx.length xc) ∧ w'.cell? ⟨w.heap.size, 6, none⟩ = some (.slice ia nu.length ic))] (fun hA => ?_)
 replace hA := UC hA
 repeat ((first | (refine VN ?_ (UB hA) rfl rfl rfl (by rfl) (fun _ _ _ h => h) ?_ ?_; rotate_left; · (intro w; go_simp <;> with_reducible rfl)) | refine VM (UB hA) rfl rfl (by rfl) (fun _ _ _ h => h) ?_); go_simp)
 refine takeC ?_ (UB hA) rfl rfl rfl (by rfl) (fun _ _ _ h => h) (.head _) (UJ (UB KB)).1 ?_ ?_; rotate_left; (· (intro w hSw; (try dsimp only at hSw); go_simp <;> with_reducible rfl)); go_simp
 repeat ((first | (refine VN ?_ (UB hA) rfl rfl rfl (by rfl) (fun _ _ _ h => h) ?_ ?_; rotate_left; · (intro w; go_simp <;> with_reducible rfl)) | refine VM (UB hA) rfl rfl (by rfl) (fun _ _ _ h => h) ?_); go_simp)
 refine takeC ?_ (UB hA) rfl rfl rfl (by rfl) (fun _ _ _ h => h) (.tail _ (.head _)) (UJ (UB KB)).2.1 ?_ ?_; rotate_left; (· (intro w hSw; (try dsimp only at hSw); go_simp <;> with_reducible rfl)); go_simp
 repeat ((first | (refine VN ?_ (UB hA) rfl rfl rfl (by rfl) (fun _ _ _ h => h) ?_ ?_; rotate_left; · (intro w; go_simp <;> with_reducible rfl)) | refine VM (UB hA) rfl rfl (by rfl) (fun _ _ _ h => h) ?_); go_simp)
 refine takeC ?_ (UB hA) rfl rfl rfl (by rfl) (fun _ _ _ h => h) (.tail _ (.tail _ (.head _))) (UJ (UB KB)) ?_ ?_; rotate_left; (· (intro w hSw; (try dsimp only at hSw); go_simp <;> with_reducible rfl)); go_simp
 repeat ((first | (refine VN ?_ (UB hA) rfl rfl rfl (by rfl) (fun _ _ _ h => h) ?_ ?_; rotate_left; · (intro w; go_simp <;> with_reducible rfl)) | refine VM (UB hA) rfl rfl (by rfl) (fun _ _ _ h => h) ?_); go_simp)
 refine runC (UB hA) rfl rfl (by kernel_rfl) (by kernel_rfl) (fun K hK => ?_)
 have HK := UC hK
 clear hK
 go_simp
 refine (UB PN _ (UB FN)).mono ?_
 rintro e w4 ⟨v4, rfl, o4, b4⟩
 have KB4 := UC (UE b4 (UB KB))
 have A4 := UC o4.has
 have T4 := UC ((UB T2).below b4)
 have bb4 := UG bb3 b4
 clear b4 o4
 refine (UB HK).out _ _ (VB (by kernel_rfl) (keepC_yes (UJ (UB KB4)).2.1 (keepC_yes (UJ (UB KB4)) VL))) ?_
 clear HK K
 go_simp
 repeat ((first | (refine VN ?_ (UB hA) rfl rfl rfl (by rfl) (fun _ _ _ h => h) ?_ ?_; rotate_left; · (intro w; go_simp <;> with_reducible rfl)) | refine VM (UB hA) rfl rfl (by rfl) (fun _ _ _ h => h) ?_); go_simp)
 refine runC (UB hA) rfl rfl (by kernel_rfl) (by kernel_rfl) (fun K hK => ?_)
 have HK := UC hK
 clear hK
 go_simp
 refine (UB PY _).mono ?_
 rintro e w5 ⟨v5, rfl, o5, b5⟩
 have KB5 := UC (UE b5 (UB KB4))
 have A5 := UC ((UB A4).below b5)
 have T5 := UC ((UB T4).below b5)
 have Y5 := UC o5
 have bb5 := UG bb4 b5
 clear b5 o5
 refine (UB HK).out _ _ (VB (by kernel_rfl) (VB (by kernel_rfl) (keepC_yes (UJ (UB KB5)) VL))) ?_
 clear HK K
 go_simp
 repeat ((first | (refine VN ?_ (UB hA) rfl rfl rfl (by rfl) (fun _ _ _ h => h) ?_ ?_; rotate_left; · (intro w; go_simp <;> with_reducible rfl)) | refine VM (UB hA) rfl rfl (by rfl) (fun _ _ _ h => h) ?_); go_simp)
 refine runC (UB hA) rfl rfl (by kernel_rfl) (by kernel_rfl) (fun K hK => ?_)
 have HK := UC hK
 clear hK
 go_simp
 refine (dataOf_X (na := na) (nc := nc) (ta := ta) (tc := tc) (xa := xa) (xc := xc) (ia := ia) (ic := ic) (nm := nm) (to := to) (tx := tx) (nu := nu) (tt := tt) (ad := ad) (UB HKK) (UB HTO)).mono ?_
 rintro e w6 ⟨rfl, b6⟩
 have A6 := UC ((UB A5).below b6)
 have T6 := UC ((UB T5).below b6)
 have Y6 := UC ((UB Y5).below b6)
 have bb6 := UG bb5 b6
 clear b6
 refine (UB HK).out _ _ (VB (by kernel_rfl) (VB (by kernel_rfl) (VB (by kernel_rfl) VL))) ?_
 clear HK K
 go_simp
 repeat ((first | (refine VN ?_ (UB hA) rfl rfl rfl (by rfl) (fun _ _ _ h => h) ?_ ?_; rotate_left; · (intro w; go_simp <;> with_reducible rfl)) | refine VM (UB hA) rfl rfl (by rfl) (fun _ _ _ h => h) ?_); go_simp)
 refine runC (UB hA) rfl rfl (by kernel_rfl) (by kernel_rfl) (fun K hK => ?_)
 have HK := UC hK
 clear hK
 go_simp
 refine (UB PW _ bb6).mono ?_
 rintro e w7 ⟨v7, rfl, o7, b7⟩
 have A7 := UC ((UB A6).below b7)
 have T7 := UC ((UB T6).below b7)
 have Y7 := UC ((UB Y6).below b7)
 have D7 := UC o7.has
 have bb7 := UG bb6 b7
 have z7 := bb7.size
 clear b7 o7
 refine (UB HK).out _ _ (VB (by kernel_rfl) (VB (by kernel_rfl) (VB (by kernel_rfl) VL))) ?_
 clear HK K
 go_simp
 repeat ((first | (refine VN ?_ (UB hA) rfl rfl rfl (by rfl) (fun _ _ _ h => h) ?_ ?_; rotate_left; · (intro w; go_simp <;> with_reducible rfl)) | refine VM (UB hA) rfl rfl (by rfl) (fun _ _ _ h => h) ?_); go_simp)
 obtain ⟨ea4, ec4, rfl, _⟩ := (UB A7).form
 obtain ⟨ea2, ec2, rfl, _⟩ := (UB T7).form
 obtain ⟨ea5, ec5, rfl, _⟩ := (UB Y7).form
 obtain ⟨ea7, ec7, rfl, _⟩ := (UB D7).form
 have b8 := (UI (w := w7) (.cells #[.slice ea4 N.length ec4, .slice ea2 T.length ec2, .slice ea5 Y.length ec5, .slice ea7 D.length ec7] 22))
 have k8 := heap_alloc_new w7 (.cells #[.slice ea4 N.length ec4, .slice ea2 T.length ec2, .slice ea5 Y.length ec5, .slice ea7 D.length ec7] 22)
 refine runC (UB hA) rfl rfl (by kernel_rfl) (by kernel_rfl) (fun K hK => ?_)
 have HK := UC hK
 clear hK
 go_simp
 refine (UB HK).out _ _ (VB (by kernel_rfl) (VB (by kernel_rfl) (VB (by kernel_rfl) VL))) ?_
 clear HK K
 go_simp
 repeat ((first | (refine VN ?_ (UB hA) rfl rfl rfl (by rfl) (fun _ _ _ h => h) ?_ ?_; rotate_left; · (intro w; go_simp <;> with_reducible rfl)) | refine VM (UB hA) rfl rfl (by rfl) (fun _ _ _ h => h) ?_); go_simp)
 refine doneC (UB hA) rfl ?_
 clear hA
 have hz8 : (w7.alloc (.cells #[.slice ea4 N.length ec4, .slice ea2 T.length ec2, .slice ea5 Y.length ec5, .slice ea7 D.length ec7] 22)).heap.size = w7.heap.size + 1 := by show (w7.heap.push _).size = _; simp
 have b9 := UI (w := w7.alloc (.cells #[.slice ea4 N.length ec4, .slice ea2 T.length ec2, .slice ea5 Y.length ec5, .slice ea7 D.length ec7] 22)) (.cells #[.int .u8 32] 5)
 have K9 := UC (UE b9 k8)
 have S9 : Hid (Has ((w7.alloc (.cells #[.slice ea4 N.length ec4, .slice ea2 T.length ec2, .slice ea5 Y.length ec5, .slice ea7 D.length ec7] 22)).alloc (.cells #[.int .u8 32] 5)) (.slice (some ⟨w7.heap.size + 1, 0, none⟩) 1 1) [32]) := UC (by rw [← hz8]; exact (own_lit (w7.alloc (.cells #[.slice ea4 N.length ec4, .slice ea2 T.length ec2, .slice ea5 Y.length ec5, .slice ea7 D.length ec7] 22)) 0 5 [32] (Nat.zero_le _) (by simp [maxLen])).has)
 have c9 := UG b8 b9
 have A9 := UC ((UB A7).below c9)
 have T9 := UC ((UB T7).below c9)
 have Y9 := UC ((UB Y7).below c9)
 have D9 := UC ((UB D7).below c9)
 have bb9 := UG bb7 c9
 clear b8 k8 b9 c9 hz8
 go_wp2_with fail
 generalize (w7.alloc (.cells #[.slice ea4 N.length ec4, .slice ea2 T.length ec2, .slice ea5 Y.length ec5, .slice ea7 D.length ec7] 22)).alloc (.cells #[.int .u8 32] 5) = w9 at *
 refine (join4 (UB K9) (UB A9) (UB T9) (UB Y9) (UB D9) (UB S9) (UB YA) (UB YT) (UB YY) (UB YD) (UB HLE)).mono ?_
 rintro e w10 ⟨v10, rfl, o10, b10⟩
 go_wp2_with fail
 go_ret
 exact ⟨v10, rfl, fr_wide o10 bb9.size, UG bb9 b10⟩
set_option maxHeartbeats 1000000 in
set_option maxRecDepth 100000 in
theorem hex_index (d : Int) (h0 : 0 ≤ d) (h1 : d ≤ 15) (e : Operand → Value) (o : Oper) (x : Operand) (ho : o.op = .index 9 (.const (.string { data := #[48, 49, 50, 51, 52, 53, 54, 55, 56, 57, 97, 98, 99, 100, 101, 102] })) x)
  (hx : e x = .int .u8 d) (hc : e (.const (.string { data := #[48, 49, 50, 51, 52, 53, 54, 55, 56, 57, 97, 98, 99, 100, 101, 102] })) = .string { data := #[48, 49, 50, 51, 52, 53, 54, 55, 56, 57, 97, 98, 99, 100, 101, 102] }) (w : World) : (execOp e o).run Tryz.prog w = .ok (.value (.int .u8 (hexD d))) w := by
 have hd : d = 0 ∨ d = 1 ∨ d = 2 ∨ d = 3 ∨ d = 4 ∨ d = 5 ∨ d = 6 ∨ d = 7 ∨ d = 8 ∨ d = 9 ∨ d = 10 ∨ d = 11 ∨ d = 12 ∨ d = 13 ∨ d = 14 ∨ d = 15 := by omega
 unfold execOp
 simp only [ho, hx, hc]
 rcases hd with rfl | rfl | rfl | rfl | rfl | rfl | rfl | rfl | rfl | rfl | rfl | rfl | rfl | rfl | rfl | rfl
 all_goals rfl
theorem and_15 {c : Int} (h0 : 0 ≤ c) (h1 : c ≤ 255) : bits .and .u8 c 15 = c % 16 := by
 obtain ⟨a, rfl⟩ := Int.eq_ofNat_of_zero_le h0
 exact (by decide +kernel : ∀ a : Fin 256, bits .and .u8 ((a.val : Nat) : Int) 15 = ((a.val : Nat) : Int) % 16) ⟨a, by omega⟩
theorem hex_at {w : World} {a : Option Addr} {cap n : Nat} {l : List Int} (h : Has w (.slice a n cap) l) (hn : l.length = n) {k : Nat} (hk : k < n) :
  ∃ g off cp, Value.slice a n cap = .slice (some ⟨g, off, none⟩) n cp ∧ g < w.heap.size ∧ w.cell? ⟨g, off + k, none⟩ = some (.int .u8 (l.getD k 0)) := by
 rcases h with ⟨_, rfl⟩ | ⟨g, off, cp, hv, hg, _, _, hc⟩
 ·simp at hn; omega
 ·rw [hn] at hv hc
  exact ⟨g, off, cp, hv, hg, hc k hk⟩
theorem append_wp {P : Program} {w : World} {o : Oper} {a : Act} {K : Act → World → Prop} {Q : Exit → Act → World → Prop} (s x : Operand) (t e : TypeId)
  (ho : o.op = .call { callee := .builtin .append, args := #[s, x], argTypes := #[t, t] }) (ht : P.underlying t = some (.slice e))
  (hinfo : (P.info? e).map (fun i => (i.zero, i.size, i.bytes)) = some (some (.int .u8 0), 1, 1))
  (base : Nat) (v vx : Value) (l m : List Int) (hs : a.eval s = v) (hx : a.eval x = vx) (hown : Own base e w v l) (hr : Reads w vx m) (hlen : l.length + m.length ≤ 1099511627776) (hbase : base ≤ w.heap.size)
  (h : ∀ v' w', Own base e w' v' (l ++ m) → w.grownBy w' v.ownBlock → K (a.put o.dst v') w') : Oper.wp P o a w K Q := by
 obtain ⟨v', w', hr', h2, h3⟩ := run_append_bytes (P := P) t o.type e ht hinfo base v vx l m hown hr hlen hbase
 unfold Oper.wp execOp
 simp only [ho, resolve, invoke, builtin, Sem.run_bind, Sem.run_pure, Result.andThen_ok, List.map_toArray, List.map_cons, List.map_nil, hs, hx, hr']
 exact h v' w' h2 h3
set_option maxHeartbeats 1000000 in
set_option maxRecDepth 100000 in
theorem textWords_has {a : Option Addr} {cap : Nat} {l : List Int} {w : World} (h : Has w (.slice a l.length cap) l) (hl : l.length ≤ 40) (h8 : Byt l) : Calls Tryz.prog 164 #[.agg #[.slice a l.length cap]] w fun e w' => ∃ v', e = .returned v' ∧ Own w.heap.size 5 w' v' (hexs l l.length) ∧ Below w.heap.size w w' := by
 have b0 := UI (w := w) (.cells #[.slice a l.length cap] 138)
 have k0 := heap_alloc_new w (.cells #[.slice a l.length cap] 138)
 have c0 := US k0
 have L0 := UC (h.below b0)
 have HB := UC (fun k (hk : k < l.length) => h8.at_ hk)
 have HL := UC (hexs_length l)
 have HZ := UC (hexs_zero l)
 have HS := UC (hexs_succ l)
 clear h h8
 generalize hexs l = G at *
 generalize hn : l.length = n at *
 have HN := UC hn
 clear hn
 go_enter Tryz.func164, Tryz.ntmps164
 go_wp2_with fail
 generalize w.alloc (.cells #[.slice a n cap] 138) = W at *
 go_loopw [3, 9] (fun o i wr => ∃ k : Nat, k ≤ n ∧ i = .int .i64 k ∧ Own W.heap.size 5 wr o (G k) ∧ Below W.heap.size W wr) (fun _ i _ => n - (intOf i).toNat)
 case atStart => exact ⟨0, by omega, rfl, by rw [UB HZ]; exact World.ownsRow_nil _ _ _ _, Below.refl _ _⟩
 case round =>
  obtain ⟨k, hk, rfl, ho, hb⟩ := hrel
  by_cases hlt : k < n
  ·obtain ⟨g, off, cp, hv, hg, hc⟩ := hex_at ((UB L0).below hb) (UB HN) hlt
   simp only [Value.slice.injEq] at hv
   obtain ⟨rfl, _, rfl⟩ := hv
   have h8 := UB HB k hlt
   have hs := UC (UB HS k hlt)
   have hlk := UB HL k
   have zb := hb.size
   have z0 := b0.size
   generalize l.getD k 0 = c at *
   have hand := and_15 h8.1 h8.2
   go_wp2_with fail
   refine startC [0, 1, 2, 3, 4, 5, 6, 7, 8, 9] (by kernel_rfl) ⟨by kernel_rfl, by kernel_rfl, by kernel_rfl, by kernel_rfl⟩ 4 [] (fun hA => ?_)
   replace hA := UC hA
   repeat ((first | (refine VN ?_ (UB hA) rfl rfl rfl (by rfl) (fun _ _ _ h => h) ?_ ?_; rotate_left; · (intro w; go_simp <;> with_reducible rfl)) | refine VM (UB hA) rfl rfl (by rfl) (fun _ _ _ h => h) ?_); go_simp)
   refine VN (Value.int .u8 (hexD (c / 16))) (UB hA) rfl rfl rfl (by rfl) (fun _ _ _ h => h) (hex_index (c / 16) (by omega) (by omega) _ _ _ rfl (by first | rfl | (rw [← hand]; rfl)) rfl) ?_; go_simp
   repeat ((first | (refine VN ?_ (UB hA) rfl rfl rfl (by rfl) (fun _ _ _ h => h) ?_ ?_; rotate_left; · (intro w; go_simp <;> with_reducible rfl)) | refine VM (UB hA) rfl rfl (by rfl) (fun _ _ _ h => h) ?_); go_simp)
   refine VN (Value.int .u8 (hexD (c % 16))) (UB hA) rfl rfl rfl (by rfl) (fun _ _ _ h => h) (hex_index (c % 16) (by omega) (by omega) _ _ _ rfl (by first | rfl | (rw [← hand]; rfl)) rfl) ?_; go_simp
   repeat ((first | (refine VN ?_ (UB hA) rfl rfl rfl (by rfl) (fun _ _ _ h => h) ?_ ?_; rotate_left; · (intro w; go_simp <;> with_reducible rfl)) | refine VM (UB hA) rfl rfl (by rfl) (fun _ _ _ h => h) ?_); go_simp)
   refine runC (UB hA) rfl rfl (by kernel_rfl) (by kernel_rfl) (fun K hK => ?_)
   have HK := UC hK
   clear hK
   go_simp
   refine (UB HK).out _ _ VL ?_
   clear HK K
   go_simp
   have O1 := UC ((ho.alloc (.cells #[.int .u8 (hexD (c / 16)), .int .u8 (hexD (c % 16))] 5)).below (UX (w := wr.alloc (.cells #[.int .u8 (hexD (c / 16)), .int .u8 (hexD (c % 16))] 5))))
   have R1 := UC ((own_lit wr 0 5 [hexD (c / 16), hexD (c % 16)] (Nat.zero_le _) (by simp [maxLen])).below (UX (w := wr.alloc (.cells #[.int .u8 (hexD (c / 16)), .int .u8 (hexD (c % 16))] 5)))).reads
   have b1 : Below W.heap.size W (wr.alloc (.cells #[.int .u8 (hexD (c / 16)), .int .u8 (hexD (c % 16))] 5)).drew := UG (hb.alloc zb _) UX
   have z1 := b1.size
   clear ho hb
   simp only [List.length_cons, List.length_nil, Nat.zero_add, Nat.reduceAdd] at R1
   generalize (wr.alloc (.cells #[.int .u8 (hexD (c / 16)), .int .u8 (hexD (c % 16))] 5)).drew = w1 at *
   refine runC (UB hA) rfl rfl (by kernel_rfl) (by kernel_rfl) (fun K hK => ?_)
   have HK := UC hK
   clear hK
   refine append_wp (.tmp 13) (.tmp 20) 22 5 rfl Tryz.underlying22 VJ W.heap.size u3 _ (G k) [hexD (c / 16), hexD (c % 16)] rfl rfl (UB O1) (UB R1) (by simp; omega) (by omega) ?_
   intro v2 w2 o2 g2
   have b2 : Below W.heap.size W w2 := b1.grown g2 (by omega) (fun q hq => by have := ((UB O1).lt q hq).1; omega)
   refine (UB HK).out _ _ VL ?_
   clear HK K
   go_simp
   repeat ((first | (refine VN ?_ (UB hA) rfl rfl rfl (by rfl) (fun _ _ _ h => h) ?_ ?_; rotate_left; · (intro w; go_simp <;> with_reducible rfl)) | refine VM (UB hA) rfl rfl (by rfl) (fun _ _ _ h => h) ?_); go_simp)
   refine doneC (UB hA) rfl ?_
   clear hA
   go_wp2_with fail
   exact ⟨⟨k + 1, by omega, by go_num, (by rw [UB hs]; exact o2), b2⟩, by simp [intOf]; omega⟩
  ·obtain rfl : k = n := by omega
   go_wp2_with fail
   go_ret
   exact ⟨_, rfl, ho.mono b0.size, UG b0 hb⟩
set_option maxHeartbeats 800000 in
set_option maxRecDepth 100000 in
theorem implRrText_no {vn vt vx vi : Value} {r : Rec} {w : World} (h : HasR w vn vt vx vi r) (hok : rrOk r = false) :
  Calls Tryz.prog 47 #[.agg #[vn, .int .i64 r.type, .int .i64 r.ttl, .int .i64 r.addr, vt, vx, vi]] w fun e w' => ∃ v', e = .returned v' ∧ Fr w.heap.size w'.heap.size w' v' [] ∧ Below w.heap.size w w' := by
 obtain ⟨na, nc, rfl, _⟩ := h.name.form
 obtain ⟨ta, tc, rfl, _⟩ := h.to.form
 obtain ⟨xa, xc, rfl, _⟩ := h.text.form
 obtain ⟨ia, ic, rfl, _⟩ := h.nums.form
 have b0 := UI (w := w) (.cells #[.slice na r.name.length nc, .int .i64 r.type, .int .i64 r.ttl, .int .i64 r.addr, .slice ta r.to.length tc, .slice xa r.text.length xc, .slice ia r.nums.length ic] 63)
 have HO := implRrOk_has (h.below b0)
 rw [hok] at HO
 replace HO := UC HO
 clear h hok
 go_enter Tryz.func47, Tryz.ntmps47
 go_wp2_with fail
 refine (UB HO).mono ?_
 rintro e w1 ⟨rfl, b1⟩
 go_wp2_with fail
 go_ret
 exact ⟨_, rfl, fr_nil _ _ _, UG b0 b1⟩
theorem implRrText_has {vn vt vx vi : Value} {r : Rec} {w : World} (h : HasR w vn vt vx vi r) (h8 : Byt r.text) (hp : Pow10 w) :
  Calls Tryz.prog 47 #[.agg #[vn, .int .i64 r.type, .int .i64 r.ttl, .int .i64 r.addr, vt, vx, vi]] w fun e w' => ∃ v', e = .returned v' ∧ Fr w.heap.size w'.heap.size w' v' (rrText r) ∧ Below w.heap.size w w' := by
 cases hok : rrOk r with
 | false => rw [rrText_no hok]; exact implRrText_no h hok
 | true =>
  have hDl := dataT_length hok
  have hD := dataT_byt h8
  rw [rrText_yes hok]
  obtain ⟨_, ht, _, _, hd⟩ := rrOk_parts hok
  obtain ⟨na, nc, rfl, _⟩ := h.name.form
  obtain ⟨ta, tc, rfl, _⟩ := h.to.form
  obtain ⟨xa, xc, rfl, _⟩ := h.text.form
  obtain ⟨ia, ic, rfl, _⟩ := h.nums.form
  rcases data_kinds ht hd with ⟨e, h0, h1, _⟩ | ⟨e, hn, _⟩ | ⟨e, hn, x, y, exy, hx0, hx1, hy0, hy1, _⟩ | ⟨e, hx, _⟩
  ·rw [dataT_A e] at hD hDl ⊢
   obtain ⟨nm, ty, tt, ad, to, tx, nu⟩ := r
   simp only at *
   subst e
   exact rrText_A h hok hp (fun w1 hb => addrWords_has ad (hp.below hb)) hD hDl
  ·rw [dataT_N e] at hD hDl ⊢
   obtain ⟨nm, ty, tt, ad, to, tx, nu⟩ := r
   simp only at *
   exact rrText_N (kindV_N e) ht h hok hp (fun w1 hb => nameWords_has (h.to.below hb) (hp.below hb)) hD hDl
  ·rw [dataT_S e exy] at hD hDl ⊢
   obtain ⟨nm, ty, tt, ad, to, tx, nu⟩ := r
   simp only at *
   subst e exy
   exact rrText_S h hok hp (fun w1 hb => soaWords_has (h.to.below hb) (h.nums.below hb) hx0 hx1 hy0 (by omega) (hp.below hb)) hD hDl
  ·rw [dataT_X e] at hD hDl ⊢
   obtain ⟨nm, ty, tt, ad, to, tx, nu⟩ := r
   simp only at *
   exact rrText_X (kindV_X e) ht h hok hp (fun w1 hb => textWords_has (h.text.below hb) hx h8) hD hDl
theorem rrText_byt {r : Rec} (h : Byt r.text) : Byt (rrText r) := by
 unfold rrText
 split
 ·exact ((((((nameText_byt _).app (byt_one (by omega))).app (digs_byt _)).app (byt_one (by omega))).app (typeT_byt _)).app (byt_one (by omega))).app (dataT_byt h)
 ·exact byt_nil
set_option maxHeartbeats 2000000 in
set_option maxRecDepth 100000 in
theorem addRecs_own {v vr : Value} {l ws : List Int} {rs : List Rec} {W0 w : World} (hr : HasRs W0 vr rs) (hb0 : Below W0.heap.size W0 w) (hv : Own W0.heap.size 5 w v l) (hl : l.length ≤ 20000) (h12 : rs.length ≤ 12) (hok : ∀ i, i < rs.length → rrOk (rs.getD i recZ) = true) (h8 : BytRs rs) (hw : ws.length ≤ 10) (hw8 : Byt ws) (ht : Pow10 W0) :
  Calls Tryz.prog 24 #[v, .string (strOfNums ws), vr] w fun e w' => ∃ v', e = .returned v' ∧ Own W0.heap.size 5 w' v' (secT l ws rs rs.length) ∧ Below W0.heap.size W0 w' := by
 obtain ⟨a, cap, rfl, _⟩ := hr.form
 have HR := UC hr
 have HV := UC hv
 have HB0 := UC hb0
 have HOK := UC hok
 have H8 := UC h8
 have HT := UC ht
 have HW8 := UC hw8
 have HS0 := UC (secT_zero l ws rs)
 have HSS := UC (secT_succ l ws rs)
 have HSL := UC (secT_length l rs hw)
 clear hr hv hb0 hok h8 ht hw8
 generalize secT l ws rs = G at *
 generalize hm : rs.length = m at *
 have HN := UC hm
 clear hm
 go_enter Tryz.func24, Tryz.ntmps24
 go_wp2_with fail
 go_loopw [0, 11] (fun o i wr => ∃ k : Nat, k ≤ m ∧ i = .int .i64 k ∧ Own W0.heap.size 5 wr o (G k) ∧ Below W0.heap.size W0 wr) (fun _ i _ => m - (intOf i).toNat)
 case atStart => exact ⟨0, Nat.zero_le _, rfl, by rw [UB HS0]; exact UB HV, UB HB0⟩
 case round =>
  obtain ⟨k, hk, rfl, ho, hb⟩ := hrel
  by_cases hlt : k < m
  ·have hkm : (k : Int) < m := by omega
   obtain ⟨g, off, rna, rnc, rta, rtc, rxa, rxc, ria, ric, rfl, hbl, hc, hu⟩ := ((UB HR).below hb).here (k := k) (by rw [UB HN]; exact hlt)
   have hrok := UB HOK k hlt
   have hr8 := UB H8 k (by rw [UB HN]; exact hlt)
   have HST2 := UC (UB HSS k hlt)
   have hgl := UB HSL k
   have hgl1 : (G k).length ≤ 30000 := by omega
   have hTl := rrText_length (rs.getD k recZ)
   have HT8 : Hid (Byt (rrText (rs.getD k recZ))) := UC (rrText_byt hr8)
   have HC := UC (fun (w : World) (hh : HasR w (.slice rna (rs.getD k recZ).name.length rnc) (.slice rta (rs.getD k recZ).to.length rtc) (.slice rxa (rs.getD k recZ).text.length rxc) (.slice ria (rs.getD k recZ).nums.length ric) (rs.getD k recZ)) (hp : Pow10 w) => implRrText_has hh hr8 hp)
   generalize rs.getD k recZ = r at *
   generalize rrText r = T at *
   have ba := UI (w := wr) (.cells #[.slice rna r.name.length rnc, .int .i64 r.type, .int .i64 r.ttl, .int .i64 r.addr, .slice rta r.to.length rtc, .slice rxa r.text.length rxc, .slice ria r.nums.length ric] 63)
   have kx := heap_alloc_new wr (.cells #[.slice rna r.name.length rnc, .int .i64 r.type, .int .i64 r.ttl, .int .i64 r.addr, .slice rta r.to.length rtc, .slice rxa r.text.length rxc, .slice ria r.nums.length ric] 63)
   have OV := UC (ho.below ba)
   have HU := UC (hu.below ba)
   have bb2 := hb.trans (ba.mono hb.size)
   obtain ⟨c0, c1, c2, c3, c4, c5, c6⟩ := VH hc
   obtain ⟨x0, x1, x2, x3, x4, x5, x6⟩ := UJ kx
   clear ho hu hc ba kx hb
   go_wp2_with fail
   clear c0 c1 c2 c3 c4 c5 c6 x0 x1 x2 x3 x4 x5 x6
   generalize wr.alloc (.cells #[.slice rna r.name.length rnc, .int .i64 r.type, .int .i64 r.ttl, .int .i64 r.addr, .slice rta r.to.length rtc, .slice rxa r.text.length rxc, .slice ria r.nums.length ric] 63) = w2 at *
   refine (UB HC _ (UB HU) ((UB HT).below bb2)).mono ?_
   rintro e w3 ⟨vt, rfl, ot, b3⟩
   have kc := conv_has ot.has
   have bb3 := bb2.trans (b3.mono bb2.size)
   have OV3 := UC ((UB OV).below b3)
   have k4 := heap_alloc_new w3 (.cells #[.string (strOfNums ws), .string (strOfNums T)] 9)
   have b4 := UI (w := w3) (.cells #[.string (strOfNums ws), .string (strOfNums T)] 9)
   have OV4 := (UB OV3).below b4
   have bb4 := bb3.trans (b4.mono bb3.size)
   have HL := UC (addLine2 OV4 bb4.size k4 (by omega) (by omega) (UB HW8) (UB HT8) (by omega))
   clear HC HU OV OV3 OV4 b3 k4 b4 ot
   go_wp2_with fail
   generalize w3.alloc (.cells #[.string (strOfNums ws), .string (strOfNums T)] 9) = w4 at *
   refine (UB HL).mono ?_
   rintro e w5 ⟨v5, rfl, o5, b5⟩
   have O5 := UC o5
   have bb5 := bb4.trans b5
   clear HL o5 b5 kc
   go_wp2_with fail
   exact ⟨⟨k + 1, by omega, by go_num, (by rw [UB HST2]; simpa only [List.append_assoc] using UB O5), bb5⟩, by simp [intOf]; omega⟩
  ·obtain rfl : k = m := by omega
   go_wp2_with fail
   go_ret
   exact ⟨_, rfl, ho, hb⟩
def OwnK (B : Nat) (e : TypeId) (w : World) (v : Value) (l : List Int) : Prop :=
 ∃ g cap cur fz, v = .slice (some ⟨g, 0, none⟩) l.length cap ∧ B ≤ g ∧ w.heap[g]? = some (.cells cur e fz) ∧ (fz = (0, 0) ∨ cur.size ≤ fz.1) ∧ l.length ≤ cap ∧ cap ≤ maxLen ∧ cur.size = cap ∧ cur.toList.take l.length = l.map (Value.int .u8)
theorem OwnK.has {B : Nat} {e : TypeId} {w : World} {v : Value} {l : List Int} (h : OwnK B e w v l) : Has w v l := by
 obtain ⟨g, cap, cur, fz, rfl, hB, hg, hf, hl, hm, hs, ht⟩ := h
 refine .inr ⟨g, 0, cap, rfl, VC hg, hl, hm, fun i hi => ?_⟩
 unfold World.cell?
 simp only [hg]
 rw [Nat.zero_add]
 have h1 : (cur.toList.take l.length)[i]? = some (.int .u8 (l.getD i 0)) := by
  rw [ht, List.getElem?_map, List.getD_eq_getElem?_getD, List.getElem?_eq_getElem hi]
  rfl
 rw [List.getElem?_take, if_pos hi] at h1
 simpa using h1
theorem OwnK.lt {B : Nat} {e : TypeId} {w : World} {v : Value} {l : List Int} (h : OwnK B e w v l) : ∀ k, v.ownBlock = some k → B ≤ k ∧ k < w.heap.size := by
 obtain ⟨g, cap, cur, fz, rfl, hB, hg, _⟩ := h
 intro k hk
 simp only [Value.ownBlock, Option.some.injEq] at hk
 subst hk
 exact ⟨hB, VC hg⟩
theorem OwnK.below {B : Nat} {e : TypeId} {w w' : World} {v : Value} {l : List Int} (h : OwnK B e w v l) (hb : Below w.heap.size w w') : OwnK B e w' v l := by
 obtain ⟨g, cap, cur, fz, rfl, hB, hg, h1⟩ := h
 exact ⟨g, cap, cur, fz, rfl, hB, (hb.block g (VC hg)).trans hg, h1⟩
theorem OwnK.mono {B B' : Nat} {e : TypeId} {w : World} {v : Value} {l : List Int} (h : OwnK B e w v l) (hB : B' ≤ B) : OwnK B' e w v l := by
 obtain ⟨g, cap, cur, fz, rfl, h0, h1⟩ := h
 exact ⟨g, cap, cur, fz, rfl, by omega, h1⟩
def SepC (x : Int) (q : Nat) (e : TypeId) (w : World) : Prop := w.heap[q]? = some (.cells #[.int .u8 x] e)
theorem SepC.reads {x : Int} {q : Nat} {e : TypeId} {w : World} (h : SepC x q e w) : Reads w (.slice (some ⟨q, 0, none⟩) 1 1) [x] := .inr ⟨_, 1, rfl, fun j hj => by
 obtain rfl : j = 0 := by simpa using hj
 rw [Addr.add_lit]
 exact VE h 0⟩
theorem SepC.below {x : Int} {q : Nat} {e : TypeId} {w w' : World} (h : SepC x q e w) (hb : Below w.heap.size w w') : SepC x q e w' := UE hb h
theorem SepC.grown {x : Int} {q : Nat} {e : TypeId} {w w' : World} {r : Option Nat} (h : SepC x q e w) (g : w.grownBy w' r) (hne : r ≠ some q) : SepC x q e w' := (g.block q (VC h) (Ne.symm hne)).trans h
theorem byt_lit {l : List Int} (h : (l.all (fun c => decide (0 ≤ c ∧ c ≤ 255))) = true) : Byt l := fun c hc => of_decide_eq_true (List.all_eq_true.1 h c hc)
theorem kt_true {K : List Int} (h : K = kindB true) : strOfNums K = { data := #[114, 101, 112, 108, 121] } := by rw [h]; rfl
theorem kt_false {K : List Int} (h : K = kindB false) : strOfNums K = { data := #[97, 115, 107] } := by rw [h]; rfl
end Go.Proofs.YtbabmdiklefgcaaGreatDoor
