/-
  Contract of the program's text of a text's bytes. Contract of the program's RrText. Plain facts: one byte, made anew. No program is named here. Contracts of the specification's l1digits (of a byte) and l1dotted.
-/
import Derived.Test.YthmihglfffeedaaDoorRrTextG07
import Derived.Test.YthmihglfffeedaaDoorRrTextG20
import Derived.Test.YthmihglfffeedaaDoorRrTextG16
import Derived.Test.YthmihglfffeedaaDoorRrTextG10
import Derived.Test.YthmihglfffeedaaDoorRrTextG17
import Derived.Test.YthmihglfffeedaaDoorRrTextG18
import Derived.Test.YthmihglfffeedaaDoorRrTextG19
import Derived.Test.YthmihglfffeedaaDoorRrTextG00
import Derived.Test.YthmihglfffeedaaDoorRrTextG03
import Derived.Test.YthmihglfffeedaaDoorRrTextG06
namespace Go.Proofs.YthmihglfffeedaaDoor
open Go.RowKit
set_option linter.unusedVariables false

set_option maxHeartbeats 1000000 in
set_option maxRecDepth 100000 in
theorem textWords_has {a : Option Addr} {cap : Nat} {l : List Int} {w : World} (h : Has w (.slice a l.length cap) l) (hl : l.length ≤ 40) (h8 : Byt l) : Calls Tryd.prog 101 #[.agg #[.slice a l.length cap]] w fun e w' => ∃ v', e = .returned v' ∧ Own w.heap.size 5 w' v' (hexs l l.length) ∧ Below w.heap.size w w' := by
 have b0 := UI (w := w) (.cells #[.slice a l.length cap] 73)
 have k0 := heap_alloc_new w (.cells #[.slice a l.length cap] 73)
 have c0 := US k0
 have L0 := UC (h.below b0)
 have HB := UC (fun k (hk : k < l.length) => h8.at_ hk)
 have HL := UC (hexs_length l)
 have HZ := UC (hexs_zero l)
 have HS := UC (hexs_succ l)
 clear h h8
 generalize hexs l = G at *
 generalize hn : l.length = n at *
 have HN := UC hn
 clear hn
 go_enter Tryd.func101, Tryd.ntmps101
 go_wp2_with fail
 generalize w.alloc (.cells #[.slice a n cap] 73) = W at *
 go_loopw [3, 9] (fun o i wr => ∃ k : Nat, k ≤ n ∧ i = .int .i64 k ∧ Own W.heap.size 5 wr o (G k) ∧ Below W.heap.size W wr) (fun _ i _ => n - (intOf i).toNat)
 case atStart => exact ⟨0, by omega, rfl, by rw [UB HZ]; exact World.ownsRow_nil _ _ _ _, Below.refl _ _⟩
 case round =>
  obtain ⟨k, hk, rfl, ho, hb⟩ := hrel
  by_cases hlt : k < n
  ·obtain ⟨g, off, cp, hv, hg, hc⟩ := hex_at ((UB L0).below hb) (UB HN) hlt
   simp only [Value.slice.injEq] at hv
   obtain ⟨rfl, _, rfl⟩ := hv
   have h8 := UB HB k hlt
   have hs := UC (UB HS k hlt)
   have hlk := UB HL k
   have zb := hb.size
   have z0 := b0.size
   generalize l.getD k 0 = c at *
   have hand := and_15 h8.1 h8.2
   go_wp2_with fail
   refine startC [0, 1, 2, 3, 4, 5, 6, 7, 8, 9] (by kernel_rfl) ⟨by kernel_rfl, by kernel_rfl, by kernel_rfl, by kernel_rfl⟩ 4 [] (fun hA => ?_)
   replace hA := UC hA
   repeat ((first | (refine VN ?_ (UB hA) rfl rfl rfl (by rfl) (fun _ _ _ h => h) ?_ ?_; rotate_left; · (intro w; go_simp <;> with_reducible rfl)) | refine VM (UB hA) rfl rfl (by rfl) (fun _ _ _ h => h) ?_); go_simp)
   refine VN (Value.int .u8 (hexD (c / 16))) (UB hA) rfl rfl rfl (by rfl) (fun _ _ _ h => h) (hex_index (c / 16) (by omega) (by omega) _ _ _ rfl (by first | rfl | (rw [← hand]; rfl)) rfl) ?_; go_simp
   repeat ((first | (refine VN ?_ (UB hA) rfl rfl rfl (by rfl) (fun _ _ _ h => h) ?_ ?_; rotate_left; · (intro w; go_simp <;> with_reducible rfl)) | refine VM (UB hA) rfl rfl (by rfl) (fun _ _ _ h => h) ?_); go_simp)
   refine VN (Value.int .u8 (hexD (c % 16))) (UB hA) rfl rfl rfl (by rfl) (fun _ _ _ h => h) (hex_index (c % 16) (by omega) (by omega) _ _ _ rfl (by first | rfl | (rw [← hand]; rfl)) rfl) ?_; go_simp
   repeat ((first | (refine VN ?_ (UB hA) rfl rfl rfl (by rfl) (fun _ _ _ h => h) ?_ ?_; rotate_left; · (intro w; go_simp <;> with_reducible rfl)) | refine VM (UB hA) rfl rfl (by rfl) (fun _ _ _ h => h) ?_); go_simp)
   refine runC (UB hA) rfl rfl (by kernel_rfl) (by kernel_rfl) (fun K hK => ?_)
   have HK := UC hK
   clear hK
   go_simp
   refine (UB HK).out _ _ VL ?_
   clear HK K
   go_simp
   have O1 := UC ((ho.alloc (.cells #[.int .u8 (hexD (c / 16)), .int .u8 (hexD (c % 16))] 5)).below (UX (w := wr.alloc (.cells #[.int .u8 (hexD (c / 16)), .int .u8 (hexD (c % 16))] 5))))
   have R1 := UC ((own_lit wr 0 5 [hexD (c / 16), hexD (c % 16)] (Nat.zero_le _) (by simp [maxLen])).below (UX (w := wr.alloc (.cells #[.int .u8 (hexD (c / 16)), .int .u8 (hexD (c % 16))] 5)))).reads
   have b1 : Below W.heap.size W (wr.alloc (.cells #[.int .u8 (hexD (c / 16)), .int .u8 (hexD (c % 16))] 5)).drew := UG (hb.alloc zb _) UX
   have z1 := b1.size
   clear ho hb
   simp only [List.length_cons, List.length_nil, Nat.zero_add, Nat.reduceAdd] at R1
   generalize (wr.alloc (.cells #[.int .u8 (hexD (c / 16)), .int .u8 (hexD (c % 16))] 5)).drew = w1 at *
   refine runC (UB hA) rfl rfl (by kernel_rfl) (by kernel_rfl) (fun K hK => ?_)
   have HK := UC hK
   clear hK
   refine append_wp (.tmp 13) (.tmp 20) 25 5 rfl Tryd.underlying25 VJ W.heap.size u3 _ (G k) [hexD (c / 16), hexD (c % 16)] rfl rfl (UB O1) (UB R1) (by simp; omega) (by omega) ?_
   intro v2 w2 o2 g2
   have b2 : Below W.heap.size W w2 := b1.grown g2 (by omega) (fun q hq => by have := ((UB O1).lt q hq).1; omega)
   refine (UB HK).out _ _ VL ?_
   clear HK K
   go_simp
   repeat ((first | (refine VN ?_ (UB hA) rfl rfl rfl (by rfl) (fun _ _ _ h => h) ?_ ?_; rotate_left; · (intro w; go_simp <;> with_reducible rfl)) | refine VM (UB hA) rfl rfl (by rfl) (fun _ _ _ h => h) ?_); go_simp)
   refine doneC (UB hA) rfl ?_
   clear hA
   go_wp2_with fail
   exact ⟨⟨k + 1, by omega, by go_num, (by rw [UB hs]; exact o2), b2⟩, by simp [intOf]; omega⟩
  ·obtain rfl : k = n := by omega
   go_wp2_with fail
   go_ret
   exact ⟨_, rfl, ho.mono b0.size, UG b0 hb⟩
set_option maxHeartbeats 800000 in
set_option maxRecDepth 100000 in
theorem implRrText_no {vn vt vx vi : Value} {r : Rec} {w : World} (h : HasR w vn vt vx vi r) (hok : rrOk r = false) :
  Calls Tryd.prog 7 #[.agg #[vn, .int .i64 r.type, .int .i64 r.ttl, .int .i64 r.addr, vt, vx, vi]] w fun e w' => ∃ v', e = .returned v' ∧ Fr w.heap.size w'.heap.size w' v' [] ∧ Below w.heap.size w w' := by
 obtain ⟨na, nc, rfl, _⟩ := h.name.form
 obtain ⟨ta, tc, rfl, _⟩ := h.to.form
 obtain ⟨xa, xc, rfl, _⟩ := h.text.form
 obtain ⟨ia, ic, rfl, _⟩ := h.nums.form
 have b0 := UI (w := w) (.cells #[.slice na r.name.length nc, .int .i64 r.type, .int .i64 r.ttl, .int .i64 r.addr, .slice ta r.to.length tc, .slice xa r.text.length xc, .slice ia r.nums.length ic] 33)
 have HO := implRrOk_has (h.below b0)
 rw [hok] at HO
 replace HO := UC HO
 clear h hok
 go_enter Tryd.func7, Tryd.ntmps7
 go_wp2_with fail
 refine (UB HO).mono ?_
 rintro e w1 ⟨rfl, b1⟩
 go_wp2_with fail
 go_ret
 exact ⟨_, rfl, fr_nil _ _ _, UG b0 b1⟩
theorem implRrText_has {vn vt vx vi : Value} {r : Rec} {w : World} (h : HasR w vn vt vx vi r) (h8 : Byt r.text) (hp : Pow10 w) :
  Calls Tryd.prog 7 #[.agg #[vn, .int .i64 r.type, .int .i64 r.ttl, .int .i64 r.addr, vt, vx, vi]] w fun e w' => ∃ v', e = .returned v' ∧ Fr w.heap.size w'.heap.size w' v' (rrText r) ∧ Below w.heap.size w w' := by
 cases hok : rrOk r with
 | false => rw [rrText_no hok]; exact implRrText_no h hok
 | true =>
  have hDl := dataT_length hok
  have hD := dataT_byt h8
  rw [rrText_yes hok]
  obtain ⟨_, ht, _, _, hd⟩ := rrOk_parts hok
  obtain ⟨na, nc, rfl, _⟩ := h.name.form
  obtain ⟨ta, tc, rfl, _⟩ := h.to.form
  obtain ⟨xa, xc, rfl, _⟩ := h.text.form
  obtain ⟨ia, ic, rfl, _⟩ := h.nums.form
  rcases data_kinds ht hd with ⟨e, h0, h1, _⟩ | ⟨e, hn, _⟩ | ⟨e, hn, x, y, exy, hx0, hx1, hy0, hy1, _⟩ | ⟨e, hx, _⟩
  ·rw [dataT_A e] at hD hDl ⊢
   obtain ⟨nm, ty, tt, ad, to, tx, nu⟩ := r
   simp only at *
   subst e
   exact rrText_A h hok hp (fun w1 hb => addrWords_has ad (hp.below hb)) hD hDl
  ·rw [dataT_N e] at hD hDl ⊢
   obtain ⟨nm, ty, tt, ad, to, tx, nu⟩ := r
   simp only at *
   exact rrText_N (kindV_N e) ht h hok hp (fun w1 hb => nameWords_has (h.to.below hb) (hp.below hb)) hD hDl
  ·rw [dataT_S e exy] at hD hDl ⊢
   obtain ⟨nm, ty, tt, ad, to, tx, nu⟩ := r
   simp only at *
   subst e exy
   exact rrText_S h hok hp (fun w1 hb => soaWords_has (h.to.below hb) (h.nums.below hb) hx0 hx1 hy0 (by omega) (hp.below hb)) hD hDl
  ·rw [dataT_X e] at hD hDl ⊢
   obtain ⟨nm, ty, tt, ad, to, tx, nu⟩ := r
   simp only at *
   exact rrText_X (kindV_X e) ht h hok hp (fun w1 hb => textWords_has (h.text.below hb) hx h8) hD hDl
end Go.Proofs.YthmihglfffeedaaDoor

namespace Go.Proofs.YthmihglfffeedaaDoor
open Go.RowKit

theorem own_byte1 (w : World) (B : Nat) (e : TypeId) (x : Int) (hB : B ≤ w.heap.size) : Own B e (w.alloc (.cells #[.int .u8 x] e)) (.slice (some ⟨w.heap.size, 0, none⟩) 1 1) [x] := own_lit w B e [x] hB (by simp [maxLen])
end Go.Proofs.YthmihglfffeedaaDoor

namespace Go.Proofs.YthmihglfffeedaaDoor
open Go.RowKit
set_option linter.unusedVariables false
set_option maxHeartbeats 1000000
set_option maxRecDepth 100000


theorem l1digits_lt (x : Int) (w : World) (h0 : 0 ≤ x) (h1 : x < 10) :
  Calls Tryd.prog 36 #[.int .i64 x] w fun e w' => ∃ v, e = .returned v ∧ Own w.heap.size 5 w' v (digs x) ∧ Below w.heap.size w w' := by
 rw [digs_lt x h0 h1]
 go_enter Tryd.func36, Tryd.ntmps36
 go_wp2
 go_ret
 exact ⟨_, rfl, own_byte1 w _ _ _ (Nat.le_refl _), (Below.refl _ _).alloc (Nat.le_refl _) _⟩

theorem l1digits_ge (x : Int) (w : World) (h0 : 10 ≤ x) (h1 : x ≤ 255)
  (hrec : Hid (∀ w : World, Calls Tryd.prog 36 #[.int .i64 (x / 10)] w fun e w' => ∃ v, e = .returned v ∧ Own w.heap.size 5 w' v (digs (x / 10)) ∧ Below w.heap.size w w')) :
  Calls Tryd.prog 36 #[.int .i64 x] w fun e w' => ∃ v, e = .returned v ∧ Own w.heap.size 5 w' v (digs x) ∧ Below w.heap.size w w' := by
 have hd := digs_length (x / 10) (by omega) (by omega)
 rw [digs_ge x h0]
 generalize hD : digs (x / 10) = D at *
 have HD := UC hD
 clear hD
 go_enter Tryd.func36, Tryd.ntmps36
 go_wp2_with fail
 refine (UB hrec _).mono ?_
 rintro e w1 ⟨v1, rfl, o1, b1⟩
 have hsz := b1.size
 go_wp2_with (at_builtin; refine append_bytes rfl _ _ 25 5 rfl Tryd.underlying25 VJ w.heap.size v1 _ D [48 + x % 10] rfl rfl (o1.alloc _) (own_byte1 w1 0 5 _ (Nat.zero_le _)).reads (by simp; omega) (by simp; omega) ?_)
 intro v' w2 hown hgrow
 go_wp2
 go_ret
 exact ⟨v', rfl, hown, (b1.alloc hsz _).grown hgrow (by simp; omega) (fun k hk => (o1.lt k hk).1)⟩

theorem l1digits_any (x : Int) (w : World) (h0 : 0 ≤ x) (h1 : x ≤ 255) :
  Calls Tryd.prog 36 #[.int .i64 x] w fun e w' => ∃ v, e = .returned v ∧ Own w.heap.size 5 w' v (digs x) ∧ Below w.heap.size w w' := by
 by_cases a : x < 10
 ·exact l1digits_lt x w h0 a
 ·refine l1digits_ge x w (by omega) h1 (UC fun w => ?_)
  by_cases b : x / 10 < 10
  ·exact l1digits_lt _ w (by omega) b
  ·exact l1digits_ge _ w (by omega) (by omega) (UC fun w => l1digits_lt _ w (by omega) (by omega))

theorem l1dotted_any (n : Int) (w : World) (h0 : 0 ≤ n) (h1 : n ≤ 4294967295) :
  Calls Tryd.prog 38 #[.int .i64 n] w fun e w' => ∃ v, e = .returned v ∧ Own w.heap.size 5 w' v (sdot n 4) ∧ Below w.heap.size w w' := by
 go_enter Tryd.func38, Tryd.ntmps38
 go_wp2
 go_loopw [3, 4] (fun b i wr => ∃ j : Nat, j ≤ 4 ∧ i = .int .i64 (3 - j) ∧ Own w.heap.size 5 wr b (sdot n j) ∧ Below w.heap.size w wr) (fun _ i _ => (intOf i + 1).toNat)
 case atStart => exact ⟨0, by omega, rfl, World.ownsRow_nil _ _ _ _, Below.refl _ _⟩
 case round =>
  obtain ⟨j, hj, rfl, ho, hb⟩ := hrel
  have hsd := UC (sdot_length n h0 h1 j)
  have hsz := hb.size
  match j, hj with
  | 0, _ =>
   rw [show ((3 : Int) - ((0 : Nat) : Int)) = 3 from rfl]
   have hL := UB hsd
   have hp : bits .and .i64 (n / 16777216) 255 = part n 0 := by rw [and_255 _ (by omega) (by omega)]; simp [part, parts]; omega
   have HPT := UC hp
   clear hp
   have hs1 : sdot n (0 + 1) = sdot n 0 ++ digs (part n 0) ++ [46] := by simp [sdot]
   have HS1 := UC hs1
   clear hs1
   have hpb := part_bd n 0 h0 h1
   have hdl := digs_length _ hpb.1 hpb.2
   generalize hse : sdot n 0 = S at *
   have HSE := UC hse
   clear hse
   generalize hpe : part n 0 = p at *
   have HPE := UC hpe
   clear hpe
   have HDL := UC hdl
   clear hdl
   go_wp2_with fail
   rw [UB HPT]
   refine (l1digits_any p _ hpb.1 hpb.2).mono ?_
   rintro e w1 ⟨v1, rfl, o1, b1⟩
   have c1 := (ho.below b1)
   have d1 := hb.trans (b1.mono hsz)
   have z1 := d1.size
   go_wp2_with (at_builtin; refine append_bytes rfl _ _ 25 5 rfl Tryd.underlying25 VJ w.heap.size u3 v1 S (digs p) rfl rfl c1 o1.reads (by have := UB HDL; omega) z1 ?_)
   intro v2 w2 o2 g2
   have b2 : Below w.heap.size w w2 := d1.grown g2 z1 (fun k hk => (c1.lt k hk).1)
   clear g2
   have z2 := b2.size
   go_wp2_with (at_builtin; refine append_bytes rfl _ _ 25 5 rfl Tryd.underlying25 VJ w.heap.size v2 _ (S ++ digs p) [46] rfl rfl (o2.alloc _) (own_byte1 w2 0 5 _ (Nat.zero_le _)).reads (by have := UB HDL; simp; omega) (by simp; omega) ?_)
   intro v3 w3 o3 g3
   have b3 : Below w.heap.size w w3 := (b2.alloc z2 _).grown g3 (by simp; omega) (fun k hk => (o2.lt k hk).1)
   clear g3
   go_wp2
   refine ⟨⟨0 + 1, by omega, rfl, ?_, b3⟩, by simp [intOf]⟩
   rw [UB HS1, List.append_assoc]; exact o3
  | 1, _ =>
   rw [show ((3 : Int) - ((1 : Nat) : Int)) = 2 from rfl]
   have hL := UB hsd
   have hp : bits .and .i64 (n / 65536) 255 = part n 1 := by rw [and_255 _ (by omega) (by omega)]; simp [part, parts]
   have HPT := UC hp
   clear hp
   have hs1 : sdot n (1 + 1) = sdot n 1 ++ digs (part n 1) ++ [46] := by simp [sdot]
   have HS1 := UC hs1
   clear hs1
   have hpb := part_bd n 1 h0 h1
   have hdl := digs_length _ hpb.1 hpb.2
   generalize hse : sdot n 1 = S at *
   have HSE := UC hse
   clear hse
   generalize hpe : part n 1 = p at *
   have HPE := UC hpe
   clear hpe
   have HDL := UC hdl
   clear hdl
   go_wp2_with fail
   rw [UB HPT]
   refine (l1digits_any p _ hpb.1 hpb.2).mono ?_
   rintro e w1 ⟨v1, rfl, o1, b1⟩
   have c1 := (ho.below b1)
   have d1 := hb.trans (b1.mono hsz)
   have z1 := d1.size
   go_wp2_with (at_builtin; refine append_bytes rfl _ _ 25 5 rfl Tryd.underlying25 VJ w.heap.size u3 v1 S (digs p) rfl rfl c1 o1.reads (by have := UB HDL; omega) z1 ?_)
   intro v2 w2 o2 g2
   have b2 : Below w.heap.size w w2 := d1.grown g2 z1 (fun k hk => (c1.lt k hk).1)
   clear g2
   have z2 := b2.size
   go_wp2_with (at_builtin; refine append_bytes rfl _ _ 25 5 rfl Tryd.underlying25 VJ w.heap.size v2 _ (S ++ digs p) [46] rfl rfl (o2.alloc _) (own_byte1 w2 0 5 _ (Nat.zero_le _)).reads (by have := UB HDL; simp; omega) (by simp; omega) ?_)
   intro v3 w3 o3 g3
   have b3 : Below w.heap.size w w3 := (b2.alloc z2 _).grown g3 (by simp; omega) (fun k hk => (o2.lt k hk).1)
   clear g3
   go_wp2
   refine ⟨⟨1 + 1, by omega, rfl, ?_, b3⟩, by simp [intOf]⟩
   rw [UB HS1, List.append_assoc]; exact o3
  | 2, _ =>
   rw [show ((3 : Int) - ((2 : Nat) : Int)) = 1 from rfl]
   have hL := UB hsd
   have hp : bits .and .i64 (n / 256) 255 = part n 2 := by rw [and_255 _ (by omega) (by omega)]; simp [part, parts]
   have HPT := UC hp
   clear hp
   have hs1 : sdot n (2 + 1) = sdot n 2 ++ digs (part n 2) ++ [46] := by simp [sdot]
   have HS1 := UC hs1
   clear hs1
   have hpb := part_bd n 2 h0 h1
   have hdl := digs_length _ hpb.1 hpb.2
   generalize hse : sdot n 2 = S at *
   have HSE := UC hse
   clear hse
   generalize hpe : part n 2 = p at *
   have HPE := UC hpe
   clear hpe
   have HDL := UC hdl
   clear hdl
   go_wp2_with fail
   rw [UB HPT]
   refine (l1digits_any p _ hpb.1 hpb.2).mono ?_
   rintro e w1 ⟨v1, rfl, o1, b1⟩
   have c1 := (ho.below b1)
   have d1 := hb.trans (b1.mono hsz)
   have z1 := d1.size
   go_wp2_with (at_builtin; refine append_bytes rfl _ _ 25 5 rfl Tryd.underlying25 VJ w.heap.size u3 v1 S (digs p) rfl rfl c1 o1.reads (by have := UB HDL; omega) z1 ?_)
   intro v2 w2 o2 g2
   have b2 : Below w.heap.size w w2 := d1.grown g2 z1 (fun k hk => (c1.lt k hk).1)
   clear g2
   have z2 := b2.size
   go_wp2_with (at_builtin; refine append_bytes rfl _ _ 25 5 rfl Tryd.underlying25 VJ w.heap.size v2 _ (S ++ digs p) [46] rfl rfl (o2.alloc _) (own_byte1 w2 0 5 _ (Nat.zero_le _)).reads (by have := UB HDL; simp; omega) (by simp; omega) ?_)
   intro v3 w3 o3 g3
   have b3 : Below w.heap.size w w3 := (b2.alloc z2 _).grown g3 (by simp; omega) (fun k hk => (o2.lt k hk).1)
   clear g3
   go_wp2
   refine ⟨⟨2 + 1, by omega, rfl, ?_, b3⟩, by simp [intOf]⟩
   rw [UB HS1, List.append_assoc]; exact o3
  | 3, _ =>
   rw [show ((3 : Int) - ((3 : Nat) : Int)) = 0 from rfl]
   have hL := UB hsd
   have hp : bits .and .i64 (n) 255 = part n 3 := by rw [and_255 _ (by omega) (by omega)]; simp [part, parts]
   have HPT := UC hp
   clear hp
   have hs1 : sdot n (3 + 1) = sdot n 3 ++ digs (part n 3) ++ [] := by simp [sdot]
   have HS1 := UC hs1
   clear hs1
   have hpb := part_bd n 3 h0 h1
   have hdl := digs_length _ hpb.1 hpb.2
   generalize hse : sdot n 3 = S at *
   have HSE := UC hse
   clear hse
   generalize hpe : part n 3 = p at *
   have HPE := UC hpe
   clear hpe
   have HDL := UC hdl
   clear hdl
   go_wp2_with fail
   rw [UB HPT]
   refine (l1digits_any p _ hpb.1 hpb.2).mono ?_
   rintro e w1 ⟨v1, rfl, o1, b1⟩
   have c1 := (ho.below b1)
   have d1 := hb.trans (b1.mono hsz)
   have z1 := d1.size
   go_wp2_with (at_builtin; refine append_bytes rfl _ _ 25 5 rfl Tryd.underlying25 VJ w.heap.size u3 v1 S (digs p) rfl rfl c1 o1.reads (by have := UB HDL; omega) z1 ?_)
   intro v2 w2 o2 g2
   have b2 : Below w.heap.size w w2 := d1.grown g2 z1 (fun k hk => (c1.lt k hk).1)
   clear g2
   have z2 := b2.size
   go_wp2
   refine ⟨⟨3 + 1, by omega, rfl, ?_, b2⟩, by simp [intOf]⟩
   rw [UB HS1, List.append_nil]; exact o2
  | 4, _ =>
   rw [show ((3 : Int) - ((4 : Nat) : Int)) = -1 from rfl]
   go_wp2
   go_ret
   exact ⟨_, rfl, ho, hb⟩
end Go.Proofs.YthmihglfffeedaaDoor
