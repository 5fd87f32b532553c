/-
  Contracts of the program's NameCmp. Contracts of the program's appendCounted: behind a row of the caller's own a byte with how many bytes a text has, and the text. Contracts of the program's NamePut. Contracts of the program's Put32. Contracts of the program's data: each kind's bytes.
-/
import Derived.Test.YthobpbnaklnbiaaGreatFnDropSetsG32
namespace Go.Proofs.YthobpbnaklnbiaaGreat
open Go.RowKit
set_option linter.unusedVariables false

theorem Jq {v v' : Value} {l l' : List Int} {w : World} (h : Has w v l) (h' : Has w v' l') (n : Nat) :
  Calls Tryz.prog 77 #[v, v'] (w.drewN n) fun e w'' => e = .returned (.int .i64 (cmpB l l')) ∧ ∃ m, w'' = w.drewN m :=
 (Cs (h.below (Dn n)) (h'.below (Dn n))).mono fun e w' ⟨he, hw⟩ => ⟨he, n, hw.symm⟩

set_option maxHeartbeats 2000000 in
set_option maxRecDepth 100000 in
theorem A9 {v v' : Value} {n n' : List (List Int)} {w : World} (h : HasL w v n) (h' : HasL w v' n') :
  Calls Tryz.prog 45 #[.agg #[v], .agg #[v']] w fun e w' => e = .returned (.int .i64 (Bj n n')) ∧ Below w.heap.size w w' := by
 obtain ⟨a, cap, rfl, _⟩ := h.form
 obtain ⟨a', cap', rfl, _⟩ := h'.form
 have b1 := UI (w := w) (.cells #[.slice a n.length cap] 25)
 have k1 := heap_alloc_new w (.cells #[.slice a n.length cap] 25)
 have e1 : (w.alloc (.cells #[.slice a n.length cap] 25)).heap.size = w.heap.size + 1 := by show (w.heap.push _).size = _; simp
 have b2 := UI (w := w.alloc (.cells #[.slice a n.length cap] 25)) (.cells #[.slice a' n'.length cap'] 25)
 have x2 := heap_alloc_new (w.alloc (.cells #[.slice a n.length cap] 25)) (.cells #[.slice a' n'.length cap'] 25)
 have k2 := UE b2 k1
 rw [e1] at x2
 have bb2 := UG b1 b2
 have h2 := UC (h.below bb2)
 have h2' := UC (h'.below bb2)
 clear h h' b1 b2 k1 e1
 unfold Bj
 cases hok : Af n with
 | false =>
  rw [if_neg (by simp)]
  have HOK := UC hok
  clear hok
  go_enter Tryz.func45, Tryz.ntmps45
  go_wp2_with fail
  generalize (w.alloc (.cells #[.slice a n.length cap] 25)).alloc (.cells #[.slice a' n'.length cap'] 25) = W at *
  refine (VP (UB h2)).mono ?_
  rw [UB HOK]
  rintro e w3 ⟨rfl, b3⟩
  go_wp2_with fail
  go_ret
  exact ⟨rfl, UG bb2 b3⟩
 | true =>
  cases hok' : Af n' with
  | false =>
   rw [if_neg (by simp)]
   have HOK := UC hok
   have HOK' := UC hok'
   clear hok hok'
   go_enter Tryz.func45, Tryz.ntmps45
   go_wp2_with fail
   generalize (w.alloc (.cells #[.slice a n.length cap] 25)).alloc (.cells #[.slice a' n'.length cap'] 25) = W at *
   refine (VP (UB h2)).mono ?_
   rw [UB HOK]
   rintro e w3 ⟨rfl, b3⟩
   have x3 := US (UE b3 x2)
   go_wp2_with fail
   refine (VP ((UB h2').below b3)).mono ?_
   rw [UB HOK']
   rintro e w4 ⟨rfl, b4⟩
   go_wp2_with fail
   go_ret
   exact ⟨rfl, UG bb2 (UG b3 b4)⟩
  | true =>
   rw [if_pos ⟨rfl, rfl⟩]
   have hs := (An hok).1
   have hs' := (An hok').1
   have HOK := UC hok
   have HOK' := UC hok'
   clear hok hok'
   have HIT := UC (fun (k : Nat) => Si (a := n) (b := n') (k := k))
   have NON := UC (fun (k : Nat) => Qh (a := n) (b := n') (k := k))
   have HAT := UC (S8 n n')
   generalize hR : cmpN n n' = R at *
   clear hR
   generalize hC : F6 n n' = C at *
   clear hC
   go_enter Tryz.func45, Tryz.ntmps45
   go_wp2_with fail
   generalize (w.alloc (.cells #[.slice a n.length cap] 25)).alloc (.cells #[.slice a' n'.length cap'] 25) = W0 at *
   refine (VP (UB h2)).mono ?_
   rw [UB HOK]
   rintro e w3 ⟨rfl, b3⟩
   have x3 := US (UE b3 x2)
   go_wp2_with fail
   refine (VP ((UB h2').below b3)).mono ?_
   rw [UB HOK']
   rintro e W ⟨rfl, b4⟩
   have b4 := UG b3 b4
   have x4 := UE b4 x2
   have k4 := UE b4 k2
   have h4 := UC ((UB h2).below b4)
   have h4' := UC ((UB h2').below b4)
   have bb4 := UG bb2 b4
   clear x3 x2 k2 h2 h2' b3 b4 bb2 HOK HOK'
   generalize hn : n.length = m at *
   have HN := UC hn
   clear hn
   generalize hn' : n'.length = m' at *
   have HN' := UC hn'
   clear hn'
   have X4 := UC x4
   have K4 := UC k4
   clear x4 k4
   go_wp2
   go_loopw [5] (fun i wr => ∃ k : Nat, 1 ≤ k ∧ k ≤ m + 1 ∧ k ≤ m' + 1 ∧ i = .int .i64 k ∧ Hid (∀ j, 1 ≤ j → j < k → C j = 0) ∧ Below W.heap.size W wr) (fun i _ => m + 1 - (intOf i).toNat)
   case atStart => exact ⟨1, Nat.le_refl _, by omega, by omega, rfl, UC (fun j h1 h2 => absurd h2 (by omega)), Below.refl _ _⟩
   case round =>
    obtain ⟨k, hk1, hk2, hk3, rfl, hall, hb⟩ := hrel
    have c1 := US (UE hb (UB K4))
    have c2 := US (UE hb (UB X4))
    by_cases hlt : k ≤ m ∧ k ≤ m'
    ·obtain ⟨hlt, hlt'⟩ := hlt
     obtain ⟨b, off, u, rfl, hbl, hc, hu⟩ := ((UB h4).below hb).here (k := m - k) (by rw [UB HN]; omega)
     obtain ⟨b', off', u', rfl, hbl', hc', hu'⟩ := ((UB h4').below hb).here (k := m' - k) (by rw [UB HN']; omega)
     have hat := UC (UB HAT k)
     have hhit := UC (fun (hz : C k ≠ 0) => UB HIT k hk1 hlt hlt' (UB hall) hz)
     have hone := UC (fun (hz : C k = 0) => (show ∀ j, 1 ≤ j → j < k + 1 → C j = 0 from fun j h1 h2 => by
       by_cases e : j = k
       ·subst e; exact hz
       ·exact UB hall j h1 (by omega)))
     generalize n.getD (m - k) [] = lab at *
     generalize n'.getD (m' - k) [] = lab' at *
     obtain ⟨j, hj⟩ : ∃ j : Nat, m - k = j := ⟨_, rfl⟩
     obtain ⟨j', hj'⟩ : ∃ j' : Nat, m' - k = j' := ⟨_, rfl⟩
     rw [hj] at hc
     rw [hj'] at hc'
     have s1 : (m : Int) - k = j := by omega
     have s2 : (m' : Int) - k = j' := by omega
     have jl : j < m := by omega
     have jl' : j' < m' := by omega
     have wj : IntKind.i64.wrap (j : Int) = j := Bl j (by omega)
     have wj' : IntKind.i64.wrap (j' : Int) = j' := Bl j' (by omega)
     have HU := UC hu
     have HU' := UC hu'
     obtain ⟨ua, uc, rfl, _⟩ := hu.form
     obtain ⟨ua', uc', rfl, _⟩ := hu'.form
     clear hu hu'
     have i1 : (k : Int) ≤ min (m : Int) m' := by omega
     go_wp2
     all_goals
      go_quiet (first | (exact Jq (UB HU) (UB HU') _))
      clear wj wj' s1 s2 hj hj' jl jl' hc hc' c1 c2 i1
      have bb := UG hb (Dn (w := wr) nq)
      have hcs := Dl lab lab'
      generalize cmpB lab lab' = c at *
      rcases hcs with rfl | rfl | rfl
      ·have hr := UB hhit (by rw [UB hat]; omega)
       rw [UB hat] at hr
       subst hr
       go_wp2
       go_ret
       exact ⟨rfl, UG bb4 bb⟩
      ·go_wp2
       exact ⟨⟨k + 1, by omega, by omega, by omega, by go_num, UC (UB hone (UB hat)), bb⟩, by simp [intOf]; omega⟩
      ·have hr := UB hhit (by rw [UB hat]; omega)
       rw [UB hat] at hr
       subst hr
       go_wp2
       go_ret
       exact ⟨rfl, UG bb4 bb⟩
    ·have hr := UB NON k (by omega) (UB hall)
     have i1 : ¬ (k : Int) ≤ min (m : Int) m' := by omega
     go_wp2_with fail
     all_goals
      refine (Cv (m : Int) (m' : Int) _).mono ?_
      rintro e w5 ⟨rfl, rfl⟩
      go_wp2_with fail
      go_ret
      exact ⟨by rw [hr]; rfl, UG bb4 hb⟩
set_option maxHeartbeats 800000 in
set_option maxRecDepth 100000 in
theorem F4 {B : Nat} {v u : Value} {l t : List Int} {w : World} (h : Own B 5 w v l) (hu : Dk B w u t) (hl : l.length ≤ 1099511627000) (ht : t.length ≤ 255) (hB : B ≤ w.heap.size) :
  Calls Tryz.prog 170 #[v, u] w fun e w' => ∃ v', e = .returned v' ∧ Own B 5 w' v' (l ++ ((t.length : Int) :: t)) ∧ Below B w w' := by
 obtain ⟨ua, uc, rfl, _⟩ := hu.form
 have HU := UC hu
 clear hu
 have hlt : ((t.length : Int) % 256) = t.length := by omega
 generalize hn : t.length = m at *
 have HN := UC hn
 clear hn
 go_enter Tryz.func170, Tryz.ntmps170
 go_wp2_with (at_builtin; refine A1 rfl _ _ 22 5 rfl Tryz.underlying22 VJ B v _ l [(m : Int)] rfl rfl (h.alloc _) (Co w 0 5 [(m : Int)] (Nat.zero_le _) (by simp [maxLen])).reads (by simp; omega) (by simp; omega) ?_)
 intro v2 w2 o2 g2
 have b2 : Below B w w2 := ((Below.refl _ _).alloc hB _).grown g2 (by simp; omega) (fun q hq => (h.lt q hq).1)
 clear g2
 have hs2 := b2.size
 have U2 := UC ((UB HU).low b2 (Nat.le_refl _))
 go_wp2_with (at_builtin; refine A1 rfl _ _ 22 5 rfl Tryz.underlying22 VJ B v2 (.slice ua m uc) (l ++ [(m : Int)]) t rfl rfl o2 (UB U2).has.reads (by simp; rw [UB HN]; omega) (by omega) ?_)
 intro v3 w3 o3 g3
 have b3 : Below B w w3 := b2.grown g3 (by omega) (fun q hq => (o2.lt q hq).1)
 go_wp2
 go_ret
 exact ⟨v3, rfl, by simpa using o3, b3⟩
set_option maxHeartbeats 1000000 in
set_option maxRecDepth 100000 in
theorem Hq {vb v : Value} {l : List Int} {n : List (List Int)} {w : World} (hvb : Has w vb l) (hl : l.length ≤ 1048576) (h : HasL w v n) :
  Calls Tryz.prog 169 #[vb, .agg #[v]] w fun e w' => ∃ v', e = .returned (.tuple #[v', .bool (Af n)]) ∧ Own w.heap.size 5 w' v' (J9 l n) ∧ Below w.heap.size w w' := by
 obtain ⟨a, cap, rfl, hcl, hm⟩ := h.form
 unfold maxLen at hm
 have b0 := UI (w := w) (.cells #[.slice a n.length cap] 25)
 have k0 := heap_alloc_new w (.cells #[.slice a n.length cap] 25)
 have h0 := UC (h.below b0)
 have v0 := UC (hvb.below b0)
 clear h hvb
 cases hok : Af n with
 | false =>
  rw [Uv hok]
  have HOK := UC hok
  clear hok
  go_enter Tryz.func169, Tryz.ntmps169
  go_wp2_with fail
  generalize w.alloc (.cells #[.slice a n.length cap] 25) = W0 at *
  refine (VP (UB h0)).mono ?_
  rw [UB HOK]
  rintro e w1 ⟨rfl, b1⟩
  have bb1 := UG b0 b1
  clear b0 k0 h0 b1
  go_wp2_with fail
  go_ret2
  exact ⟨_, rfl, World.ownsRow_nil _ _ _ _, bb1⟩
 | true =>
  have HOK := UC hok
  have hdl := Fb n hok
  have h6 := (An hok).1
  have HDS := UC (Jz n)
  have HD0 := UC (Nd n)
  have HLEN := UC (show ∀ k, k < n.length → (n.getD k []).length ≤ 15 from fun k hk => (Cf ((An hok).2 k hk)).2)
  rw [Is hok]
  unfold wire
  clear hok
  have HDL := UC hdl
  clear hdl
  generalize F0 n = D at *
  go_enter Tryz.func169, Tryz.ntmps169
  go_wp2_with fail
  generalize w.alloc (.cells #[.slice a n.length cap] 25) = W0 at *
  refine (VP (UB h0)).mono ?_
  rw [UB HOK]
  rintro e w1 ⟨rfl, b1⟩
  have k1 := UE b1 k0
  have h1 := UC ((UB h0).below b1)
  have v1 := UC ((UB v0).below b1)
  have bb1 := UG b0 b1
  have z1 := VC k1
  clear b0 k0 h0 b1 v0
  go_wp2_with fail
  refine (Dv (UB v1).reads (by omega)).mono ?_
  rintro e w2 ⟨v2, rfl, o2, b2⟩
  have k2 := UE b2 k1
  have c2 := US k2
  have H1 := UC (UB h1).at
  have z2 := b2.size
  generalize hn : n.length = m at *
  have HN := UC hn
  clear hn
  have K2 := UC k2
  clear k2 k1 h1 v1
  go_wp2
  go_loopw [6, 17] (fun o i wr => ∃ k : Nat, k ≤ m ∧ i = .int .i64 k ∧ Own w1.heap.size 5 wr o (l ++ D k) ∧ Below w1.heap.size w1 wr) (fun _ i _ => m - (intOf i).toNat)
  case atStart => exact ⟨0, Nat.zero_le _, rfl, by rw [UB HD0, List.append_nil]; exact o2, b2⟩
  case round =>
   obtain ⟨k, hk, rfl, ho, hb⟩ := hrel
   have zb := hb.size
   have hdk := UB HDL k
   have hdk2 : (l ++ D k).length ≤ 1048576 + 96 := by rw [List.length_append]; omega
   by_cases hlt : k < m
   ·obtain ⟨b, off, u, rfl, hbl, hc, hu⟩ := ((UB H1).low hb (Nat.le_refl _)).here (k := k) (by rw [UB HN]; exact hlt)
    have hds := UC (UB HDS k hlt)
    have hlk := UB HLEN k hlt
    generalize n.getD k [] = lab at *
    have HU := UC hu
    obtain ⟨ua, uc, rfl, _⟩ := hu.form
    clear hu
    go_wp2_with fail
    refine (F4 ho (UB HU) (by omega) (by omega) zb).mono ?_
    rintro e w3 ⟨v3, rfl, o3, b3⟩
    go_wp2_with fail
    exact ⟨⟨k + 1, by omega, by go_num, by rw [UB hds, ← List.append_assoc]; exact o3, hb.trans b3⟩, by simp [intOf]; omega⟩
   ·obtain rfl : k = m := by omega
    go_wp2_with (at_builtin; refine A1 rfl _ _ 22 5 rfl Tryz.underlying22 VJ w1.heap.size _ _ (l ++ D k) [0] rfl rfl (ho.alloc _) (Co wr 0 5 [0] (Nat.zero_le _) (by simp [maxLen])).reads (by simp only [List.length_cons, List.length_nil]; omega) (by simp; omega) ?_)
    intro v4 w4 o4 g4
    have b4 : Below w1.heap.size w1 w4 := (hb.alloc zb _).grown g4 (by simp; omega) (fun q hq => (ho.lt q hq).1)
    go_wp2_with fail
    go_ret2
    exact ⟨v4, rfl, by rw [UB HN]; simpa only [List.append_assoc] using o4.mono (Nat.le_of_lt z1), UG bb1 b4⟩
set_option maxHeartbeats 800000
set_option maxRecDepth 100000

theorem Pt {B : Nat} {v : Value} {l : List Int} (n : Int) {w : World} (h : Own B 5 w v l) (hl : l.length ≤ 1048576) (h0 : 0 ≤ n) (h1 : n ≤ 4294967295) :
  Calls Tryz.prog 164 #[v, .int .i64 n] w fun e w' => ∃ v', e = .returned v' ∧ Own w.heap.size 5 w' v' (l ++ [n / 16777216, n / 65536 % 256, n / 256 % 256, n % 256]) ∧ Below w.heap.size w w' := by
 go_enter Tryz.func164, Tryz.ntmps164
 go_wp2_with fail
 refine (Dj _ h0 h1).mono ?_
 rintro e w0 ⟨rfl, rfl⟩
 go_wp2_with fail
 refine (F8 h (by omega)).mono ?_
 rintro e w1 ⟨v1, rfl, o1, b1⟩
 have hsz := b1.size
 go_wp2_with (at_builtin; refine A1 rfl _ _ 22 5 rfl Tryz.underlying22 VJ w.heap.size v1 _ l [n / 16777216, n / 65536 % 256, n / 256 % 256, n % 256] rfl rfl (o1.alloc _) (Qc w1 0 5 n (Nat.zero_le _)).reads (by simp; omega) (by simp; omega) ?_)
 intro v' w2 hown hgrow
 go_wp2
 go_ret
 exact ⟨v', rfl, hown, (b1.alloc hsz _).grown hgrow (by simp; omega) (fun k hk => (o1.lt k hk).1)⟩

theorem Ro {B : Nat} {v : Value} {l : List Int} (n : Int) {w : World} (h : Own B 5 w v l) (hl : l.length ≤ 1048576) (hn : n < 0 ∨ 4294967295 < n) :
  Calls Tryz.prog 164 #[v, .int .i64 n] w fun e w' => ∃ v', e = .returned v' ∧ Own w.heap.size 5 w' v' l ∧ Below w.heap.size w w' := by
 go_enter Tryz.func164, Tryz.ntmps164
 go_wp2_with fail
 refine (Rf _ hn).mono ?_
 rintro e w0 ⟨rfl, rfl⟩
 go_wp2_with fail
 refine (F8 h (by omega)).mono ?_
 rintro e w1 ⟨v1, rfl, o1, b1⟩
 go_wp2
 go_ret
 exact ⟨v1, rfl, o1, b1⟩

theorem Gc {B : Nat} {v : Value} {l : List Int} (n : Int) {w : World} (h : Own B 5 w v l) (hl : l.length ≤ 1048576) :
  Calls Tryz.prog 164 #[v, .int .i64 n] w fun e w' => ∃ v', e = .returned v' ∧ Own w.heap.size 5 w' v' (Bi l n) ∧ Below w.heap.size w w' := by
 by_cases hn : 0 ≤ n ∧ n ≤ 4294967295
 ·have e : Bi l n = l ++ [n / 16777216, n / 65536 % 256, n / 256 % 256, n % 256] := by unfold Bi; rw [if_pos hn]
  rw [e]; exact Pt n h hl hn.1 hn.2
 ·have e : Bi l n = l := by unfold Bi; rw [if_neg hn]
  rw [e]; exact Ro n h hl (by omega)
set_option maxHeartbeats 1000000
set_option maxRecDepth 100000

theorem Gj (B : Nat) (e : TypeId) (w : World) : Own B e w (.slice none 0 0) [] := World.ownsRow_nil _ _ _ _

theorem Ik (a : Int) (w : World) : Calls Tryz.prog 162 #[.agg #[.int .i64 a]] w fun e w' => ∃ v', e = .returned v' ∧ Own w.heap.size 5 w' v' (Bi [] a) ∧ Below w.heap.size w w' := by
 have b0 := UI (w := w) (.cells #[.int .i64 a] 125)
 have hP := UC (Gc (B := 0) a (Gj 0 5 (w.alloc (.cells #[.int .i64 a] 125))) (by simp))
 generalize Bi [] a = G at *
 go_enter Tryz.func162, Tryz.ntmps162
 go_wp2_with fail
 refine (UB hP).mono ?_
 rintro e w1 ⟨v1, rfl, o1, b1⟩
 go_wp2_with fail
 go_ret
 exact ⟨v1, rfl, o1.mono b0.size, UG b0 b1⟩

theorem Hc {a : Option Addr} {cap : Nat} {n : List (List Int)} {w : World} (h : HasL w (.slice a n.length cap) n) (hok : Af n = true) : Calls Tryz.prog 167 #[.agg #[.slice a n.length cap]] w fun e w' => ∃ v', e = .returned v' ∧ Own w.heap.size 5 w' v' (wire n) ∧ Below w.heap.size w w' := by
 have b0 := UI (w := w) (.cells #[.slice a n.length cap] 127)
 have hP := Hq (vb := .slice none 0 0) (l := []) (.inl ⟨rfl, rfl⟩) (by simp) (h.below b0)
 rw [Is hok, List.nil_append, hok] at hP
 have HP := UC hP
 clear hP h
 generalize wire n = G at *
 go_enter Tryz.func167, Tryz.ntmps167
 go_wp2_with fail
 refine (UB HP).mono ?_
 rintro e w1 ⟨v1, rfl, o1, b1⟩
 go_wp2_with fail
 go_ret
 exact ⟨v1, rfl, o1.mono b0.size, UG b0 b1⟩

theorem Hw {a : Option Addr} {cap : Nat} {l : List Int} {w : World} (h : Has w (.slice a l.length cap) l) (hl : l.length ≤ 40) : Calls Tryz.prog 177 #[.agg #[.slice a l.length cap]] w fun e w' => ∃ v', e = .returned v' ∧ Own w.heap.size 5 w' v' ((l.length : Int) :: l) ∧ Below w.heap.size w w' := by
 have b0 := UI (w := w) (.cells #[.slice a l.length cap] 131)
 have hP := F4 (B := (w.alloc (.cells #[.slice a l.length cap] 131)).heap.size) (Gj _ 5 (w.alloc (.cells #[.slice a l.length cap] 131))) (h.below b0).at (by simp) (by omega) (Nat.le_refl _)
 rw [List.nil_append] at hP
 have HP := UC hP
 clear hP h
 generalize hG : (l.length : Int) :: l = G at *
 clear hG
 go_enter Tryz.func177, Tryz.ntmps177
 go_wp2_with fail
 refine (UB HP).mono ?_
 rintro e w1 ⟨v1, rfl, o1, b1⟩
 go_wp2_with fail
 go_ret
 exact ⟨v1, rfl, o1.mono b0.size, UG b0 b1⟩

theorem Ju {a : Option Addr} {cap : Nat} {n : List (List Int)} {ia : Option Addr} {ic : Nat} {x y : Int} {w : World} (h : HasL w (.slice a n.length cap) n) (hi : HasI w (.slice ia 2 ic) [x, y]) (hok : Af n = true) :
  Calls Tryz.prog 173 #[.agg #[.slice a n.length cap, .slice ia 2 ic]] w fun e w' => ∃ v', e = .returned v' ∧ Own w.heap.size 5 w' v' (Bi (Bi (wire n) x) y) ∧ Below w.heap.size w w' := by
 have b0 := UI (w := w) (.cells #[.slice a n.length cap, .slice ia 2 ic] 129)
 have k0 := heap_alloc_new w (.cells #[.slice a n.length cap, .slice ia 2 ic] 129)
 have hP := Hq (vb := .slice none 0 0) (l := []) (.inl ⟨rfl, rfl⟩) (by simp) (h.below b0)
 rw [Is hok, List.nil_append, hok] at hP
 have HP := UC hP
 have I0 := UC (hi.below b0)
 have hw := F5 n hok
 have hw2 := Ec (wire n) x
 have hQ := UC (show ∀ (w1 : World) (B : Nat) (v : Value), Own B 5 w1 v (wire n) → Calls Tryz.prog 164 #[v, .int .i64 x] w1 fun e w' => ∃ v', e = .returned v' ∧ Own w1.heap.size 5 w' v' (Bi (wire n) x) ∧ Below w1.heap.size w1 w' from fun w1 B v ho => Gc x ho (by omega))
 have hR := UC (show ∀ (w1 : World) (B : Nat) (v : Value), Own B 5 w1 v (Bi (wire n) x) → Calls Tryz.prog 164 #[v, .int .i64 y] w1 fun e w' => ∃ v', e = .returned v' ∧ Own w1.heap.size 5 w' v' (Bi (Bi (wire n) x) y) ∧ Below w1.heap.size w1 w' from fun w1 B v ho => Gc y ho (by omega))
 clear h hi hP hw hw2
 generalize Bi (Bi (wire n) x) y = G3 at *
 generalize Bi (wire n) x = G2 at *
 generalize wire n = G1 at *
 go_enter Tryz.func173, Tryz.ntmps173
 go_wp2_with fail
 generalize w.alloc (.cells #[.slice a n.length cap, .slice ia 2 ic] 129) = W at *
 refine (UB HP).mono ?_
 rintro e w1 ⟨v1, rfl, o1, b1⟩
 have bb1 := UG b0 b1
 have k1 := UE b1 k0
 have c1 := VE k1 1
 simp only [List.getElem?_toArray, List.getElem?_cons_zero, List.getElem?_cons_succ] at c1
 have I1 := UC ((UB I0).below b1)
 have z1 := b1.size
 have z0 := b0.size
 clear k0 b1 I0 k1
 go_wp2
 go_loopw [3, 16] (fun o i wr => ∃ k : Nat, k ≤ 2 ∧ i = .int .i64 k ∧ Own w.heap.size 5 wr o (if k = 0 then G1 else if k = 1 then G2 else G3) ∧ Below w1.heap.size w1 wr) (fun _ i _ => 2 - (intOf i).toNat)
 case atStart => exact ⟨0, by omega, rfl, o1.mono z0, Below.refl _ _⟩
 case round =>
  obtain ⟨k, hk, rfl, ho, hb⟩ := hrel
  obtain ⟨g, off, cp, hv, hg, n0, n1⟩ := ((UB I1).below hb).two
  simp only [Value.slice.injEq] at hv
  obtain ⟨rfl, _, rfl⟩ := hv
  have zb := hb.size
  by_cases e0 : k = 0
  ·subst e0
   go_wp2_with fail
   refine (UB hQ _ _ _ ho).mono ?_
   rintro e w2 ⟨v2, rfl, o2, b2⟩
   go_wp2_with fail
   exact ⟨⟨1, by omega, by go_num, o2.mono (by omega), UG hb b2⟩, by simp [intOf]⟩
  by_cases e1 : k = 1
  ·subst e1
   go_wp2_with fail
   refine (UB hR _ _ _ ho).mono ?_
   rintro e w2 ⟨v2, rfl, o2, b2⟩
   go_wp2_with fail
   exact ⟨⟨2, by omega, by go_num, o2.mono (by omega), UG hb b2⟩, by simp [intOf]⟩
  ·obtain rfl : k = 2 := by omega
   go_wp2_with fail
   go_ret
   exact ⟨_, rfl, ho, UG bb1 hb⟩
end Go.Proofs.YthobpbnaklnbiaaGreat
