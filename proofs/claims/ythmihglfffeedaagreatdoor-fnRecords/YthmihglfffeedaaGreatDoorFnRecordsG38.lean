/-
  Plain facts: an append of bytes as one operation. Contract of the program's text of a text's bytes. Contract of the program's RrText. Contracts of the program's appendCounted: behind a row of the caller's own a byte with how many bytes a text has, and the text. Contracts of the program's NamePut. Contracts of the program's data: each kind's bytes.
-/
import Derived.Test.YthmihglfffeedaaGreatDoorFnRecordsG01
import Derived.Test.YthmihglfffeedaaGreatDoorFnRecordsG31
import Derived.Test.YthmihglfffeedaaGreatDoorFnRecordsG37
import Derived.Test.YthmihglfffeedaaGreatDoorFnRecordsG23
import Derived.Test.YthmihglfffeedaaGreatDoorFnRecordsG32
import Derived.Test.YthmihglfffeedaaGreatDoorFnRecordsG36
import Derived.Test.YthmihglfffeedaaGreatDoorFnRecordsG08
import Derived.Test.YthmihglfffeedaaGreatDoorFnRecordsG00
import Derived.Test.YthmihglfffeedaaGreatDoorFnRecordsG02
import Derived.Test.YthmihglfffeedaaGreatDoorFnRecordsG29
import Derived.Test.YthmihglfffeedaaGreatDoorFnRecordsG28
import Derived.Test.YthmihglfffeedaaGreatDoorFnRecordsG16
namespace Go.Proofs.YthmihglfffeedaaGreatDoor
open Go.RowKit
set_option linter.unusedVariables false

theorem append_wp {P : Program} {w : World} {o : Oper} {a : Act} {K : Act → World → Prop} {Q : Exit → Act → World → Prop} (s x : Operand) (t e : TypeId)
  (ho : o.op = .call { callee := .builtin .append, args := #[s, x], argTypes := #[t, t] }) (ht : P.underlying t = some (.slice e))
  (hinfo : (P.info? e).map (fun i => (i.zero, i.size, i.bytes)) = some (some (.int .u8 0), 1, 1))
  (base : Nat) (v vx : Value) (l m : List Int) (hs : a.eval s = v) (hx : a.eval x = vx) (hown : Own base e w v l) (hr : Reads w vx m) (hlen : l.length + m.length ≤ 1099511627776) (hbase : base ≤ w.heap.size)
  (h : ∀ v' w', Own base e w' v' (l ++ m) → w.grownBy w' v.ownBlock → K (a.put o.dst v') w') : Oper.wp P o a w K Q := by
 obtain ⟨v', w', hr', h2, h3⟩ := run_append_bytes (P := P) t o.type e ht hinfo base v vx l m hown hr hlen hbase
 unfold Oper.wp execOp
 simp only [ho, resolve, invoke, builtin, Sem.run_bind, Sem.run_pure, Result.andThen_ok, List.map_toArray, List.map_cons, List.map_nil, hs, hx, hr']
 exact h v' w' h2 h3
set_option maxHeartbeats 1000000 in
set_option maxRecDepth 100000 in
theorem textWords_has {a : Option Addr} {cap : Nat} {l : List Int} {w : World} (h : Has w (.slice a l.length cap) l) (hl : l.length ≤ 40) (h8 : Byt l) : Calls Tryz.prog 138 #[.agg #[.slice a l.length cap]] w fun e w' => ∃ v', e = .returned v' ∧ Own w.heap.size 5 w' v' (hexs l l.length) ∧ Below w.heap.size w w' := by
 have b0 := UI (w := w) (.cells #[.slice a l.length cap] 91)
 have k0 := heap_alloc_new w (.cells #[.slice a l.length cap] 91)
 have c0 := US k0
 have L0 := UC (h.below b0)
 have HB := UC (fun k (hk : k < l.length) => h8.at_ hk)
 have HL := UC (hexs_length l)
 have HZ := UC (hexs_zero l)
 have HS := UC (hexs_succ l)
 clear h h8
 generalize hexs l = G at *
 generalize hn : l.length = n at *
 have HN := UC hn
 clear hn
 go_enter Tryz.func138, Tryz.ntmps138
 go_wp2_with fail
 generalize w.alloc (.cells #[.slice a n cap] 91) = W at *
 go_loopw [3, 9] (fun o i wr => ∃ k : Nat, k ≤ n ∧ i = .int .i64 k ∧ Own W.heap.size 5 wr o (G k) ∧ Below W.heap.size W wr) (fun _ i _ => n - (intOf i).toNat)
 case atStart => exact ⟨0, by omega, rfl, by rw [UB HZ]; exact World.ownsRow_nil _ _ _ _, Below.refl _ _⟩
 case round =>
  obtain ⟨k, hk, rfl, ho, hb⟩ := hrel
  by_cases hlt : k < n
  ·obtain ⟨g, off, cp, hv, hg, hc⟩ := hex_at ((UB L0).below hb) (UB HN) hlt
   simp only [Value.slice.injEq] at hv
   obtain ⟨rfl, _, rfl⟩ := hv
   have h8 := UB HB k hlt
   have hs := UC (UB HS k hlt)
   have hlk := UB HL k
   have zb := hb.size
   have z0 := b0.size
   generalize l.getD k 0 = c at *
   have hand := and_15 h8.1 h8.2
   go_wp2_with fail
   refine startC [0, 1, 2, 3, 4, 5, 6, 7, 8, 9] (by kernel_rfl) ⟨by kernel_rfl, by kernel_rfl, by kernel_rfl, by kernel_rfl⟩ 4 [] (fun hA => ?_)
   replace hA := UC hA
   repeat ((first | (refine VN ?_ (UB hA) rfl rfl rfl (by rfl) (fun _ _ _ h => h) ?_ ?_; rotate_left; · (intro w; go_simp <;> with_reducible rfl)) | refine VM (UB hA) rfl rfl (by rfl) (fun _ _ _ h => h) ?_); go_simp)
   refine VN (Value.int .u8 (hexD (c / 16))) (UB hA) rfl rfl rfl (by rfl) (fun _ _ _ h => h) (hex_index (c / 16) (by omega) (by omega) _ _ _ rfl (by first | rfl | (rw [← hand]; rfl)) rfl) ?_; go_simp
   repeat ((first | (refine VN ?_ (UB hA) rfl rfl rfl (by rfl) (fun _ _ _ h => h) ?_ ?_; rotate_left; · (intro w; go_simp <;> with_reducible rfl)) | refine VM (UB hA) rfl rfl (by rfl) (fun _ _ _ h => h) ?_); go_simp)
   refine VN (Value.int .u8 (hexD (c % 16))) (UB hA) rfl rfl rfl (by rfl) (fun _ _ _ h => h) (hex_index (c % 16) (by omega) (by omega) _ _ _ rfl (by first | rfl | (rw [← hand]; rfl)) rfl) ?_; go_simp
   repeat ((first | (refine VN ?_ (UB hA) rfl rfl rfl (by rfl) (fun _ _ _ h => h) ?_ ?_; rotate_left; · (intro w; go_simp <;> with_reducible rfl)) | refine VM (UB hA) rfl rfl (by rfl) (fun _ _ _ h => h) ?_); go_simp)
   refine runC (UB hA) rfl rfl (by kernel_rfl) (by kernel_rfl) (fun K hK => ?_)
   have HK := UC hK
   clear hK
   go_simp
   refine (UB HK).out _ _ VL ?_
   clear HK K
   go_simp
   have O1 := UC ((ho.alloc (.cells #[.int .u8 (hexD (c / 16)), .int .u8 (hexD (c % 16))] 5)).below (UX (w := wr.alloc (.cells #[.int .u8 (hexD (c / 16)), .int .u8 (hexD (c % 16))] 5))))
   have R1 := UC ((own_lit wr 0 5 [hexD (c / 16), hexD (c % 16)] (Nat.zero_le _) (by simp [maxLen])).below (UX (w := wr.alloc (.cells #[.int .u8 (hexD (c / 16)), .int .u8 (hexD (c % 16))] 5)))).reads
   have b1 : Below W.heap.size W (wr.alloc (.cells #[.int .u8 (hexD (c / 16)), .int .u8 (hexD (c % 16))] 5)).drew := UG (hb.alloc zb _) UX
   have z1 := b1.size
   clear ho hb
   simp only [List.length_cons, List.length_nil, Nat.zero_add, Nat.reduceAdd] at R1
   generalize (wr.alloc (.cells #[.int .u8 (hexD (c / 16)), .int .u8 (hexD (c % 16))] 5)).drew = w1 at *
   refine runC (UB hA) rfl rfl (by kernel_rfl) (by kernel_rfl) (fun K hK => ?_)
   have HK := UC hK
   clear hK
   refine append_wp (.tmp 13) (.tmp 20) 22 5 rfl Tryz.underlying22 VJ W.heap.size u3 _ (G k) [hexD (c / 16), hexD (c % 16)] rfl rfl (UB O1) (UB R1) (by simp; omega) (by omega) ?_
   intro v2 w2 o2 g2
   have b2 : Below W.heap.size W w2 := b1.grown g2 (by omega) (fun q hq => by have := ((UB O1).lt q hq).1; omega)
   refine (UB HK).out _ _ VL ?_
   clear HK K
   go_simp
   repeat ((first | (refine VN ?_ (UB hA) rfl rfl rfl (by rfl) (fun _ _ _ h => h) ?_ ?_; rotate_left; · (intro w; go_simp <;> with_reducible rfl)) | refine VM (UB hA) rfl rfl (by rfl) (fun _ _ _ h => h) ?_); go_simp)
   refine doneC (UB hA) rfl ?_
   clear hA
   go_wp2_with fail
   exact ⟨⟨k + 1, by omega, by go_num, (by rw [UB hs]; exact o2), b2⟩, by simp [intOf]; omega⟩
  ·obtain rfl : k = n := by omega
   go_wp2_with fail
   go_ret
   exact ⟨_, rfl, ho.mono b0.size, UG b0 hb⟩
set_option maxHeartbeats 800000 in
set_option maxRecDepth 100000 in
theorem implRrText_no {vn vt vx vi : Value} {r : Rec} {w : World} (h : HasR w vn vt vx vi r) (hok : rrOk r = false) :
  Calls Tryz.prog 8 #[.agg #[vn, .int .i64 r.type, .int .i64 r.ttl, .int .i64 r.addr, vt, vx, vi]] w fun e w' => ∃ v', e = .returned v' ∧ Fr w.heap.size w'.heap.size w' v' [] ∧ Below w.heap.size w w' := by
 obtain ⟨na, nc, rfl, _⟩ := h.name.form
 obtain ⟨ta, tc, rfl, _⟩ := h.to.form
 obtain ⟨xa, xc, rfl, _⟩ := h.text.form
 obtain ⟨ia, ic, rfl, _⟩ := h.nums.form
 have b0 := UI (w := w) (.cells #[.slice na r.name.length nc, .int .i64 r.type, .int .i64 r.ttl, .int .i64 r.addr, .slice ta r.to.length tc, .slice xa r.text.length xc, .slice ia r.nums.length ic] 28)
 have HO := implRrOk_has (h.below b0)
 rw [hok] at HO
 replace HO := UC HO
 clear h hok
 go_enter Tryz.func8, Tryz.ntmps8
 go_wp2_with fail
 refine (UB HO).mono ?_
 rintro e w1 ⟨rfl, b1⟩
 go_wp2_with fail
 go_ret
 exact ⟨_, rfl, fr_nil _ _ _, UG b0 b1⟩
theorem implRrText_has {vn vt vx vi : Value} {r : Rec} {w : World} (h : HasR w vn vt vx vi r) (h8 : Byt r.text) (hp : Pow10 w) :
  Calls Tryz.prog 8 #[.agg #[vn, .int .i64 r.type, .int .i64 r.ttl, .int .i64 r.addr, vt, vx, vi]] w fun e w' => ∃ v', e = .returned v' ∧ Fr w.heap.size w'.heap.size w' v' (rrText r) ∧ Below w.heap.size w w' := by
 cases hok : rrOk r with
 | false => rw [rrText_no hok]; exact implRrText_no h hok
 | true =>
  have hDl := dataT_length hok
  have hD := dataT_byt h8
  rw [rrText_yes hok]
  obtain ⟨_, ht, _, _, hd⟩ := rrOk_parts hok
  obtain ⟨na, nc, rfl, _⟩ := h.name.form
  obtain ⟨ta, tc, rfl, _⟩ := h.to.form
  obtain ⟨xa, xc, rfl, _⟩ := h.text.form
  obtain ⟨ia, ic, rfl, _⟩ := h.nums.form
  rcases data_kinds ht hd with ⟨e, h0, h1, _⟩ | ⟨e, hn, _⟩ | ⟨e, hn, x, y, exy, hx0, hx1, hy0, hy1, _⟩ | ⟨e, hx, _⟩
  ·rw [dataT_A e] at hD hDl ⊢
   obtain ⟨nm, ty, tt, ad, to, tx, nu⟩ := r
   simp only at *
   subst e
   exact rrText_A h hok hp (fun w1 hb => addrWords_has ad (hp.below hb)) hD hDl
  ·rw [dataT_N e] at hD hDl ⊢
   obtain ⟨nm, ty, tt, ad, to, tx, nu⟩ := r
   simp only at *
   exact rrText_N (kindV_N e) ht h hok hp (fun w1 hb => nameWords_has (h.to.below hb) (hp.below hb)) hD hDl
  ·rw [dataT_S e exy] at hD hDl ⊢
   obtain ⟨nm, ty, tt, ad, to, tx, nu⟩ := r
   simp only at *
   subst e exy
   exact rrText_S h hok hp (fun w1 hb => soaWords_has (h.to.below hb) (h.nums.below hb) hx0 hx1 hy0 (by omega) (hp.below hb)) hD hDl
  ·rw [dataT_X e] at hD hDl ⊢
   obtain ⟨nm, ty, tt, ad, to, tx, nu⟩ := r
   simp only at *
   exact rrText_X (kindV_X e) ht h hok hp (fun w1 hb => textWords_has (h.text.below hb) hx h8) hD hDl
set_option maxHeartbeats 800000 in
set_option maxRecDepth 100000 in
theorem appendCounted_own {B : Nat} {v u : Value} {l t : List Int} {w : World} (h : Own B 5 w v l) (hu : HasAt B w u t) (hl : l.length ≤ 1099511627000) (ht : t.length ≤ 255) (hB : B ≤ w.heap.size) :
  Calls Tryz.prog 69 #[v, u] w fun e w' => ∃ v', e = .returned v' ∧ Own B 5 w' v' (l ++ ((t.length : Int) :: t)) ∧ Below B w w' := by
 obtain ⟨ua, uc, rfl, _⟩ := hu.form
 have HU := UC hu
 clear hu
 have hlt : ((t.length : Int) % 256) = t.length := by omega
 generalize hn : t.length = m at *
 have HN := UC hn
 clear hn
 go_enter Tryz.func69, Tryz.ntmps69
 go_wp2_with (at_builtin; refine append_bytes rfl _ _ 22 5 rfl Tryz.underlying22 VJ B v _ l [(m : Int)] rfl rfl (h.alloc _) (own_lit w 0 5 [(m : Int)] (Nat.zero_le _) (by simp [maxLen])).reads (by simp; omega) (by simp; omega) ?_)
 intro v2 w2 o2 g2
 have b2 : Below B w w2 := ((Below.refl _ _).alloc hB _).grown g2 (by simp; omega) (fun q hq => (h.lt q hq).1)
 clear g2
 have hs2 := b2.size
 have U2 := UC ((UB HU).low b2 (Nat.le_refl _))
 go_wp2_with (at_builtin; refine append_bytes rfl _ _ 22 5 rfl Tryz.underlying22 VJ B v2 (.slice ua m uc) (l ++ [(m : Int)]) t rfl rfl o2 (UB U2).has.reads (by simp; rw [UB HN]; omega) (by omega) ?_)
 intro v3 w3 o3 g3
 have b3 : Below B w w3 := b2.grown g3 (by omega) (fun q hq => (o2.lt q hq).1)
 go_wp2
 go_ret
 exact ⟨v3, rfl, by simpa using o3, b3⟩
set_option maxHeartbeats 1000000 in
set_option maxRecDepth 100000 in
theorem implNamePut_has {vb v : Value} {l : List Int} {n : List (List Int)} {w : World} (hvb : Has w vb l) (hl : l.length ≤ 1048576) (h : HasL w v n) :
  Calls Tryz.prog 47 #[vb, .agg #[v]] w fun e w' => ∃ v', e = .returned (.tuple #[v', .bool (nameOk n)]) ∧ Own w.heap.size 5 w' v' (namePut l n) ∧ Below w.heap.size w w' := by
 obtain ⟨a, cap, rfl, hcl, hm⟩ := h.form
 unfold maxLen at hm
 have b0 := UI (w := w) (.cells #[.slice a n.length cap] 25)
 have k0 := heap_alloc_new w (.cells #[.slice a n.length cap] 25)
 have h0 := UC (h.below b0)
 have v0 := UC (hvb.below b0)
 clear h hvb
 cases hok : nameOk n with
 | false =>
  rw [namePut_no hok]
  have HOK := UC hok
  clear hok
  go_enter Tryz.func47, Tryz.ntmps47
  go_wp2_with fail
  generalize w.alloc (.cells #[.slice a n.length cap] 25) = W0 at *
  refine (VP (UB h0)).mono ?_
  rw [UB HOK]
  rintro e w1 ⟨rfl, b1⟩
  have bb1 := UG b0 b1
  clear b0 k0 h0 b1
  go_wp2_with fail
  go_ret2
  exact ⟨_, rfl, World.ownsRow_nil _ _ _ _, bb1⟩
 | true =>
  have HOK := UC hok
  have hdl := wires_length n hok
  have h6 := (nameOk_parts hok).1
  have HDS := UC (wires_succ n)
  have HD0 := UC (wires_zero n)
  have HLEN := UC (show ∀ k, k < n.length → (n.getD k []).length ≤ 15 from fun k hk => (labelOk_length ((nameOk_parts hok).2 k hk)).2)
  rw [namePut_yes hok]
  unfold wire
  clear hok
  have HDL := UC hdl
  clear hdl
  generalize wires n = D at *
  go_enter Tryz.func47, Tryz.ntmps47
  go_wp2_with fail
  generalize w.alloc (.cells #[.slice a n.length cap] 25) = W0 at *
  refine (VP (UB h0)).mono ?_
  rw [UB HOK]
  rintro e w1 ⟨rfl, b1⟩
  have k1 := UE b1 k0
  have h1 := UC ((UB h0).below b1)
  have v1 := UC ((UB v0).below b1)
  have bb1 := UG b0 b1
  have z1 := VC k1
  clear b0 k0 h0 b1 v0
  go_wp2_with fail
  refine (copyBytes_reads (UB v1).reads (by omega)).mono ?_
  rintro e w2 ⟨v2, rfl, o2, b2⟩
  have k2 := UE b2 k1
  have c2 := US k2
  have H1 := UC (UB h1).at
  have z2 := b2.size
  generalize hn : n.length = m at *
  have HN := UC hn
  clear hn
  have K2 := UC k2
  clear k2 k1 h1 v1
  go_wp2
  go_loopw [6, 17] (fun o i wr => ∃ k : Nat, k ≤ m ∧ i = .int .i64 k ∧ Own w1.heap.size 5 wr o (l ++ D k) ∧ Below w1.heap.size w1 wr) (fun _ i _ => m - (intOf i).toNat)
  case atStart => exact ⟨0, Nat.zero_le _, rfl, by rw [UB HD0, List.append_nil]; exact o2, b2⟩
  case round =>
   obtain ⟨k, hk, rfl, ho, hb⟩ := hrel
   have zb := hb.size
   have hdk := UB HDL k
   have hdk2 : (l ++ D k).length ≤ 1048576 + 96 := by rw [List.length_append]; omega
   by_cases hlt : k < m
   ·obtain ⟨b, off, u, rfl, hbl, hc, hu⟩ := ((UB H1).low hb (Nat.le_refl _)).here (k := k) (by rw [UB HN]; exact hlt)
    have hds := UC (UB HDS k hlt)
    have hlk := UB HLEN k hlt
    generalize n.getD k [] = lab at *
    have HU := UC hu
    obtain ⟨ua, uc, rfl, _⟩ := hu.form
    clear hu
    go_wp2_with fail
    refine (appendCounted_own ho (UB HU) (by omega) (by omega) zb).mono ?_
    rintro e w3 ⟨v3, rfl, o3, b3⟩
    go_wp2_with fail
    exact ⟨⟨k + 1, by omega, by go_num, by rw [UB hds, ← List.append_assoc]; exact o3, hb.trans b3⟩, by simp [intOf]; omega⟩
   ·obtain rfl : k = m := by omega
    go_wp2_with (at_builtin; refine append_bytes rfl _ _ 22 5 rfl Tryz.underlying22 VJ w1.heap.size _ _ (l ++ D k) [0] rfl rfl (ho.alloc _) (own_lit wr 0 5 [0] (Nat.zero_le _) (by simp [maxLen])).reads (by simp only [List.length_cons, List.length_nil]; omega) (by simp; omega) ?_)
    intro v4 w4 o4 g4
    have b4 : Below w1.heap.size w1 w4 := (hb.alloc zb _).grown g4 (by simp; omega) (fun q hq => (ho.lt q hq).1)
    go_wp2_with fail
    go_ret2
    exact ⟨v4, rfl, by rw [UB HN]; simpa only [List.append_assoc] using o4.mono (Nat.le_of_lt z1), UG bb1 b4⟩
set_option maxHeartbeats 1000000
set_option maxRecDepth 100000

theorem own_none (B : Nat) (e : TypeId) (w : World) : Own B e w (.slice none 0 0) [] := World.ownsRow_nil _ _ _ _

theorem addrPut_any (a : Int) (w : World) : Calls Tryz.prog 124 #[.agg #[.int .i64 a]] w fun e w' => ∃ v', e = .returned v' ∧ Own w.heap.size 5 w' v' (put32 [] a) ∧ Below w.heap.size w w' := by
 have b0 := UI (w := w) (.cells #[.int .i64 a] 85)
 have hP := UC (implPut32_any (B := 0) a (own_none 0 5 (w.alloc (.cells #[.int .i64 a] 85))) (by simp))
 generalize put32 [] a = G at *
 go_enter Tryz.func124, Tryz.ntmps124
 go_wp2_with fail
 refine (UB hP).mono ?_
 rintro e w1 ⟨v1, rfl, o1, b1⟩
 go_wp2_with fail
 go_ret
 exact ⟨v1, rfl, o1.mono b0.size, UG b0 b1⟩

theorem namePutM_has {a : Option Addr} {cap : Nat} {n : List (List Int)} {w : World} (h : HasL w (.slice a n.length cap) n) (hok : nameOk n = true) : Calls Tryz.prog 129 #[.agg #[.slice a n.length cap]] w fun e w' => ∃ v', e = .returned v' ∧ Own w.heap.size 5 w' v' (wire n) ∧ Below w.heap.size w w' := by
 have b0 := UI (w := w) (.cells #[.slice a n.length cap] 87)
 have hP := implNamePut_has (vb := .slice none 0 0) (l := []) (.inl ⟨rfl, rfl⟩) (by simp) (h.below b0)
 rw [namePut_yes hok, List.nil_append, hok] at hP
 have HP := UC hP
 clear hP h
 generalize wire n = G at *
 go_enter Tryz.func129, Tryz.ntmps129
 go_wp2_with fail
 refine (UB HP).mono ?_
 rintro e w1 ⟨v1, rfl, o1, b1⟩
 go_wp2_with fail
 go_ret
 exact ⟨v1, rfl, o1.mono b0.size, UG b0 b1⟩

theorem textPut_has {a : Option Addr} {cap : Nat} {l : List Int} {w : World} (h : Has w (.slice a l.length cap) l) (hl : l.length ≤ 40) : Calls Tryz.prog 137 #[.agg #[.slice a l.length cap]] w fun e w' => ∃ v', e = .returned v' ∧ Own w.heap.size 5 w' v' ((l.length : Int) :: l) ∧ Below w.heap.size w w' := by
 have b0 := UI (w := w) (.cells #[.slice a l.length cap] 91)
 have hP := appendCounted_own (B := (w.alloc (.cells #[.slice a l.length cap] 91)).heap.size) (own_none _ 5 (w.alloc (.cells #[.slice a l.length cap] 91))) (h.below b0).at (by simp) (by omega) (Nat.le_refl _)
 rw [List.nil_append] at hP
 have HP := UC hP
 clear hP h
 generalize hG : (l.length : Int) :: l = G at *
 clear hG
 go_enter Tryz.func137, Tryz.ntmps137
 go_wp2_with fail
 refine (UB HP).mono ?_
 rintro e w1 ⟨v1, rfl, o1, b1⟩
 go_wp2_with fail
 go_ret
 exact ⟨v1, rfl, o1.mono b0.size, UG b0 b1⟩

theorem soaPut_has {a : Option Addr} {cap : Nat} {n : List (List Int)} {ia : Option Addr} {ic : Nat} {x y : Int} {w : World} (h : HasL w (.slice a n.length cap) n) (hi : HasI w (.slice ia 2 ic) [x, y]) (hok : nameOk n = true) :
  Calls Tryz.prog 133 #[.agg #[.slice a n.length cap, .slice ia 2 ic]] w fun e w' => ∃ v', e = .returned v' ∧ Own w.heap.size 5 w' v' (put32 (put32 (wire n) x) y) ∧ Below w.heap.size w w' := by
 have b0 := UI (w := w) (.cells #[.slice a n.length cap, .slice ia 2 ic] 89)
 have k0 := heap_alloc_new w (.cells #[.slice a n.length cap, .slice ia 2 ic] 89)
 have hP := implNamePut_has (vb := .slice none 0 0) (l := []) (.inl ⟨rfl, rfl⟩) (by simp) (h.below b0)
 rw [namePut_yes hok, List.nil_append, hok] at hP
 have HP := UC hP
 have I0 := UC (hi.below b0)
 have hw := wire_length n hok
 have hw2 := put32_length (wire n) x
 have hQ := UC (show ∀ (w1 : World) (B : Nat) (v : Value), Own B 5 w1 v (wire n) → Calls Tryz.prog 49 #[v, .int .i64 x] w1 fun e w' => ∃ v', e = .returned v' ∧ Own w1.heap.size 5 w' v' (put32 (wire n) x) ∧ Below w1.heap.size w1 w' from fun w1 B v ho => implPut32_any x ho (by omega))
 have hR := UC (show ∀ (w1 : World) (B : Nat) (v : Value), Own B 5 w1 v (put32 (wire n) x) → Calls Tryz.prog 49 #[v, .int .i64 y] w1 fun e w' => ∃ v', e = .returned v' ∧ Own w1.heap.size 5 w' v' (put32 (put32 (wire n) x) y) ∧ Below w1.heap.size w1 w' from fun w1 B v ho => implPut32_any y ho (by omega))
 clear h hi hP hw hw2
 generalize put32 (put32 (wire n) x) y = G3 at *
 generalize put32 (wire n) x = G2 at *
 generalize wire n = G1 at *
 go_enter Tryz.func133, Tryz.ntmps133
 go_wp2_with fail
 generalize w.alloc (.cells #[.slice a n.length cap, .slice ia 2 ic] 89) = W at *
 refine (UB HP).mono ?_
 rintro e w1 ⟨v1, rfl, o1, b1⟩
 have bb1 := UG b0 b1
 have k1 := UE b1 k0
 have c1 := VE k1 1
 simp only [List.getElem?_toArray, List.getElem?_cons_zero, List.getElem?_cons_succ] at c1
 have I1 := UC ((UB I0).below b1)
 have z1 := b1.size
 have z0 := b0.size
 clear k0 b1 I0 k1
 go_wp2
 go_loopw [3, 16] (fun o i wr => ∃ k : Nat, k ≤ 2 ∧ i = .int .i64 k ∧ Own w.heap.size 5 wr o (if k = 0 then G1 else if k = 1 then G2 else G3) ∧ Below w1.heap.size w1 wr) (fun _ i _ => 2 - (intOf i).toNat)
 case atStart => exact ⟨0, by omega, rfl, o1.mono z0, Below.refl _ _⟩
 case round =>
  obtain ⟨k, hk, rfl, ho, hb⟩ := hrel
  obtain ⟨g, off, cp, hv, hg, n0, n1⟩ := ((UB I1).below hb).two
  simp only [Value.slice.injEq] at hv
  obtain ⟨rfl, _, rfl⟩ := hv
  have zb := hb.size
  by_cases e0 : k = 0
  ·subst e0
   go_wp2_with fail
   refine (UB hQ _ _ _ ho).mono ?_
   rintro e w2 ⟨v2, rfl, o2, b2⟩
   go_wp2_with fail
   exact ⟨⟨1, by omega, by go_num, o2.mono (by omega), UG hb b2⟩, by simp [intOf]⟩
  by_cases e1 : k = 1
  ·subst e1
   go_wp2_with fail
   refine (UB hR _ _ _ ho).mono ?_
   rintro e w2 ⟨v2, rfl, o2, b2⟩
   go_wp2_with fail
   exact ⟨⟨2, by omega, by go_num, o2.mono (by omega), UG hb b2⟩, by simp [intOf]⟩
  ·obtain rfl : k = 2 := by omega
   go_wp2_with fail
   go_ret
   exact ⟨_, rfl, ho, UG bb1 hb⟩
end Go.Proofs.YthmihglfffeedaaGreatDoor
