/-
  The walk of laws.FnBytes.
-/
import Derived.Test.YtdbojhbdfcknfaaDoorDraw1b
import Derived.Test.YtdbojhbdfcknfaaDoorIPut16
import Derived.Test.YtdbojhbdfcknfaaDoorIGet16
import Derived.Test.YtdbojhbdfcknfaaDoorIGet32
import Derived.Test.YtdbojhbdfcknfaaDoorIDotted
import Derived.Test.YtdbojhbdfcknfaaDoorIDottedRead
import Derived.Test.YtdbojhbdfcknfaaDoorILower
import Derived.Test.YtdbojhbdfcknfaaDoorITake
import Derived.Test.YtdbojhbdfcknfaaDoorConv
import Derived.Lib.SlBytesConst
namespace Go.Proofs.YtdbojhbdfcknfaaDoor
open Go.RowKit
set_option linter.unusedVariables false

set_option maxHeartbeats 400000 in
set_option maxRecDepth 100000 in
theorem same_has {v v' : Value} {l l' : List Int} {w : World} (h : Has w v l) (h' : Has w v' l') (hb : ∀ c ∈ l, 0 ≤ c ∧ c ≤ 255) (hb' : ∀ c ∈ l', 0 ≤ c ∧ c ≤ 255) :
    Calls Tryd.prog 18 #[v, v'] w fun e w' => e = .returned (.bool (decide (l = l'))) ∧ w = w' := by
  have hc := conv_has h
  have hc' := conv_has h'
  have hs := str_eq l l' hb hb'
  generalize decide (l = l') = d at *
  clear h h' hb hb'
  go_enter Tryd.func18, Tryd.ntmps18
  go_wp2
  go_ret
  exact ⟨rfl, rfl⟩

theorem same_own {B B' : Nat} {v v' : Value} {l l' : List Int} {w : World} (h : Own B 5 w v l) (h' : Own B' 5 w v' l') (hb : ∀ c ∈ l, 0 ≤ c ∧ c ≤ 255) (hb' : ∀ c ∈ l', 0 ≤ c ∧ c ≤ 255) :
    Calls Tryd.prog 18 #[v, v'] w fun e w' => e = .returned (.bool (decide (l = l'))) ∧ w = w' := same_has h.has h'.has hb hb'


theorem put16_bytes {l : List Int} (n : Int) (hb : ∀ c ∈ l, 0 ≤ c ∧ c ≤ 255) : ∀ c ∈ put16 l n ++ [9], 0 ≤ c ∧ c ≤ 255 := by
  intro c hc
  unfold put16 at hc
  split at hc
  · simp at hc
    rcases hc with h | rfl | rfl | rfl
    · exact hb c h
    all_goals omega
  · simp at hc
    rcases hc with h | rfl
    · exact hb c h
    · omega

theorem put32_bytes {l : List Int} (n : Int) (hb : ∀ c ∈ l, 0 ≤ c ∧ c ≤ 255) : ∀ c ∈ put32 l n ++ [9], 0 ≤ c ∧ c ≤ 255 := by
  intro c hc
  unfold put32 at hc
  split at hc
  · simp at hc
    rcases hc with h | rfl | rfl | rfl | rfl | rfl
    · exact hb c h
    all_goals omega
  · simp at hc
    rcases hc with h | rfl
    · exact hb c h
    · omega

theorem get_put16 (l : List Int) (n : Int) (h0 : 0 ≤ n) (h1 : n ≤ 65535) : get16 (put16 l n ++ [9]) l.length = (n, ((put16 l n).length : Int)) := by
  have e : put16 l n = l ++ [n / 256, n % 256] := by unfold put16; rw [if_pos ⟨h0, h1⟩]
  rw [e]
  unfold get16
  rw [if_pos (by simp)]
  simp
  omega

theorem get_put32 (l : List Int) (n : Int) (h0 : 0 ≤ n) (h1 : n ≤ 4294967295) : get32 (put32 l n ++ [9]) l.length = (n, ((put32 l n).length : Int)) := by
  have e : put32 l n = l ++ [n / 16777216, n / 65536 % 256, n / 256 % 256, n % 256] := by unfold put32; rw [if_pos ⟨h0, h1⟩]
  rw [e]
  unfold get32
  rw [if_pos (by simp)]
  simp
  omega

theorem lowered_small (m : List Int) (h : ∀ x ∈ m, Small x) : lowered m m.length = m := by
  rw [lowered_same m 0 m.length (Nat.zero_le _) (fun j _ hj => by
    have := h (m.getD j 0) (by simp [hj])
    exact this.2.2), lowered_zero]

theorem takeOf_all (m : List Int) : takeOf m 0 m.length = (m, (m.length : Int)) := by
  have := takeOf_yes (l := m) (i := 0) (m := m.length) (by omega)
  simpa using this

set_option maxHeartbeats 4000000 in
set_option maxRecDepth 100000 in
theorem lawBytes (a : Option Addr) (cap len : Nat) (l : List Int) (w : World) (hL : Lies w a l) (hn : l.length = len) (hb : ∀ k, 0 ≤ l.getD k 0 ∧ l.getD k 0 ≤ 255) (hm : len ≤ maxLen) (hpow : Pow10 w) (hmx : MaxL w) :
    Calls Tryd.prog 3 #[.slice a len cap] w fun e w' => e = .returned (.bool true) ∧ Below w.heap.size w w' := by
  have HL := hide hL
  clear hL
  have HN := hide hn
  clear hn
  have HB := hide hb
  clear hb
  have HM := hide hm
  clear hm
  have HP := hide hpow
  clear hpow
  have HX := hide hmx
  clear hmx
  have hcid := fun (w : World) (C : Array Value) (n c : Nat) => Lib.run_convert_bytes_const (P := Tryd.prog) w 22 5 C n c Tryd.underlying22 Tryd.underlying5
  go_enter Tryd.func3, Tryd.ntmps3
  go_wp2_with fail
  refine (drawPut16_any l (unhide HL) (unhide HN) (unhide HB) (unhide HM)).mono ?_
  rintro e w1 ⟨v, n, m, rfl, o1, hml, hmb, b1⟩
  have HMB := hide hmb
  clear hmb
  have hv1 : ∃ va vc, v = .slice va m.length vc := by obtain ⟨va, vc, e, _⟩ := o1.lies; exact ⟨va, vc, e⟩
  obtain ⟨va, vc, rfl⟩ := hv1
  have hpl16 := put16_length m n
  have hpl32 := put32_length m n
  have hget16 := hide (fun h0 h1 => get_put16 m n h0 h1)
  have hget32 := hide (fun h0 h1 => get_put32 m n h0 h1)
  have hpb16 := hide (getD_bd (put16_bytes n (unhide HMB)))
  have hpb32 := hide (getD_bd (put32_bytes n (unhide HMB)))
  generalize hp16 : put16 m n = P16 at *
  have HP16 := hide hp16
  clear hp16
  generalize hp32 : put32 m n = P32 at *
  have HP32 := hide hp32
  clear hp32
  generalize hg16 : get16 (P16 ++ [9]) m.length = G16 at *
  have HG16 := hide hg16
  clear hg16
  generalize hg32 : get32 (P32 ++ [9]) m.length = G32 at *
  have HG32 := hide hg32
  clear hg32
  have hrd := hide (fun (h0 : 0 ≤ n) (h1 : n ≤ 4294967295) => (show iread (dotted n) = (n, true) by unfold dotted; rw [if_pos ⟨h0, h1⟩]; exact iread_complete n h0 h1))
  have hdl := dotted_length n
  have hdb := hide (show ∀ c ∈ dotted n, 0 ≤ c ∧ c ≤ 255 by
    unfold dotted; split
    · exact idot_bytes n
    · simp)
  generalize hdo : dotted n = D at *
  have HDO := hide hdo
  clear hdo
  generalize hir : iread D = GR at *
  have HIR := hide hir
  clear hir
  go_wp2_with fail
  refine (implPut16_any n o1 (by omega)).mono ?_
  rw [unhide HP16]
  rintro e w2 ⟨x, rfl, o2, c2⟩
  have b2 := below_next b1 c2
  have p2 := o1.below c2
  obtain ⟨xa, xc, rfl, _⟩ := o2.lies
  have z2 := b2.size
  go_wp2_with (at_builtin; refine append_bytes rfl _ _ 22 5 rfl Tryd.underlying22 info_u8 w1.heap.size (.slice xa P16.length xc) _ P16 [9] rfl rfl (o2.alloc _) (own_lit w2 0 5 [9] (Nat.zero_le _) (by simp [maxLen])).reads (by simp; omega) (by have := c2.size; simp; omega) ?_)
  intro v3 w3 o3 g3
  have b3 : Below w.heap.size w w3 := (b2.alloc z2 _).grown g3 (by simp; omega) (fun k hk => Nat.le_trans b1.size (o2.lt k hk).1)
  have p3 := (p2.alloc (.cells #[.int .u8 9] 5)).kept g3 (own_apart o1 o2 (Nat.le_refl _))
  clear g3
  go_wp2_with fail
  refine (implGet16_any (m.length : Int) o3 (by simp; omega) (by omega) (unhide hpb16)).mono ?_
  rw [unhide HG16]
  rintro e w4 ⟨rfl, c4⟩
  have b4 := below_next b3 c4
  have p4 := p3.below c4
  have hcases : (0 ≤ n ∧ n ≤ 65535) ∨ (65535 < n ∧ n ≤ 4294967295) ∨ n < 0 ∨ 4294967295 < n := by omega
  have hrest : Hid (∀ (u : Act → World → Prop), True) := hide (fun _ => trivial)
  clear hrest
  obtain ⟨K1, N1⟩ := G16
  obtain ⟨K2, N2⟩ := G32
  obtain ⟨K3, N3⟩ := GR
  rcases hcases with ⟨hA0, hA1⟩ | ⟨hA0, hA1⟩ | hA0 | hA0
  · have e1 := unhide hget16 hA0 hA1
    have e2 := unhide hget32 hA0 (by omega)
    have e3 := unhide hrd hA0 (by omega)
    simp only [Prod.mk.injEq] at e1 e2 e3
    have f1 : n = K1 := e1.1.symm
    have f2 : (P16.length : Int) = N1 := e1.2.symm
    subst f1 f2
    clear e1
    have f3 : n = K2 := e2.1.symm
    have f4 : (P32.length : Int) = N2 := e2.2.symm
    subst f3 f4
    clear e2
    have f5 : n = K3 := e3.1.symm
    have f6 : true = N3 := e3.2.symm
    subst f5 f6
    clear e3
    clear hget16 hget32 hrd
    go_wp2_with fail
    refine (implPut32_any n p4 (by omega)).mono ?_
    rw [unhide HP32]
    rintro e w5 ⟨y, rfl, o5, c5⟩
    have b5 := below_next b4 c5
    obtain ⟨ya, yc, rfl, _⟩ := o5.lies
    have z5 := b5.size
    have s5 := c5.size
    go_wp2_with (at_builtin; refine append_bytes rfl _ _ 22 5 rfl Tryd.underlying22 info_u8 w4.heap.size (.slice ya P32.length yc) _ P32 [9] rfl rfl (o5.alloc _) (own_lit w5 0 5 [9] (Nat.zero_le _) (by simp [maxLen])).reads (by simp; omega) (by simp; omega) ?_)
    intro v6 w6 o6 g6
    have b6 : Below w.heap.size w w6 := (b5.alloc z5 _).grown g6 (by simp; omega) (fun k hk => Nat.le_trans b4.size (o5.lt k hk).1)
    clear g6
    go_wp2_with fail
    refine (implGet32_any (m.length : Int) o6 (by simp; omega) (by omega) (unhide hpb32)).mono ?_
    rw [unhide HG32]
    rintro e w7 ⟨rfl, c7⟩
    have b7 := below_next b6 c7
    go_wp2_with fail
    refine (implDotted_any n ((unhide HP).below b7)).mono ?_
    rw [unhide HDO]
    rintro e w8 ⟨d, rfl, o8, c8⟩
    have b8 := below_next b7 c8
    go_wp2_with fail
    refine (implDottedRead_any o8 (by omega) (getD_bd (unhide hdb)) ((unhide HX).below b8)).mono ?_
    rw [unhide HIR]
    rintro e w9 ⟨rfl, c9⟩
    have b9 := below_next b8 c9
    go_wp2_with fail
    refine (drawDottedRead_any l ((unhide HL).below b9) (unhide HN) (unhide HB) (unhide HM)).mono ?_
    rintro e w10 ⟨u, q, rfl, o10, hql, hqs, c10⟩
    have b10 := below_next b9 c10
    have hqb := hide (show ∀ x ∈ q, 0 ≤ x ∧ x ≤ 255 from fun x hx => ⟨(hqs x hx).1, (hqs x hx).2.1⟩)
    have hqlow := hide (lowered_small q hqs)
    clear hqs
    have hqt := hide (takeOf_all q)
    have hqr := hide (fun (x : Int) (h : iread q = (x, true)) => (show dotted x = q by
      obtain ⟨h0, h1, h2⟩ := iread_sound q x h
      unfold dotted; rw [if_pos ⟨h0, h1⟩]; exact h2))
    obtain ⟨ua, uc, rfl, _⟩ := o10.lies
    go_wp2_with fail
    refine (implDottedRead_any o10 (by omega) (getD_bd (unhide hqb)) ((unhide HX).below b10)).mono ?_
    generalize hiq : iread q = GQ at *
    obtain ⟨ip, ok⟩ := GQ
    rintro e w11 ⟨rfl, c11⟩
    clear hiq
    have b11 := below_next b10 c11
    have q11 := o10.below c11
    go_wp2_with fail
    refine (implLower_any q11 (by omega) (getD_bd (unhide hqb))).mono ?_
    rw [unhide hqlow]
    rintro e w12 ⟨lo, rfl, o12, c12⟩
    have b12 := below_next b11 c12
    have q12 := q11.below c12
    go_wp2_with fail
    refine (implTake_any 0 (q.length : Int) q12 (by omega) (by omega)).mono ?_
    rw [unhide hqt]
    rintro e w13 ⟨tk, rfl, o13, c13⟩
    have b13 := below_next b12 c13
    have q13 := q12.below c13
    have l13 := o12.below c13
    have hlowAb : lowered ([65, 98] : List Int) ([65, 98] : List Int).length = [97, 98] := by decide
    have HAb := hide hlowAb
    clear hlowAb
    cases ok with
    | true =>
      have hdi := hide (unhide hqr ip rfl)
      go_wp2_with fail
      refine (implDotted_any ip ((unhide HP).below b13)).mono ?_
      rw [unhide hdi]
      rintro e w14 ⟨dd, rfl, o14, c14⟩
      have b14 := below_next b13 c14
      have q14 := q13.below c14
      have l14 := l13.below c14
      have t14 := o13.below c14
      go_wp2_with fail
      refine (same_own o14 q14 (unhide hqb) (unhide hqb)).mono ?_
      rw [decide_eq_true rfl]
      rintro e w15 ⟨rfl, rfl⟩
      go_wp2_with fail
      refine (same_own l14 q14 (unhide hqb) (unhide hqb)).mono ?_
      rw [decide_eq_true rfl]
      rintro e w15 ⟨rfl, rfl⟩
      go_wp2_with fail
      refine (same_own t14 q14 (unhide hqb) (unhide hqb)).mono ?_
      rw [decide_eq_true rfl]
      rintro e w15 ⟨rfl, rfl⟩
      go_wp2_with fail
      refine (implLower_has (l := [65, 98]) (has_const w14 5 [65, 98] (2, 3) (by simp [maxLen])) (by simp) (getD_bd (by simp))).mono ?_
      rw [unhide HAb]
      rintro e w16 ⟨ab, rfl, o16, c16⟩
      have b16 := below_next (b14.alloc b14.size _) c16
      go_wp2_with fail
      refine (same_has (o16.alloc _).has (has_const w16 5 [97, 98] (2, 3) (by simp [maxLen])) (by simp) (by simp)).mono ?_
      rw [decide_eq_true rfl]
      rintro e w17 ⟨rfl, rfl⟩
      go_wp2_with fail
      go_ret
      exact ⟨rfl, b16.alloc b16.size _⟩
    | false =>
      go_wp2_with fail
      refine (same_own l13 q13 (unhide hqb) (unhide hqb)).mono ?_
      rw [decide_eq_true rfl]
      rintro e w15 ⟨rfl, rfl⟩
      go_wp2_with fail
      refine (same_own o13 q13 (unhide hqb) (unhide hqb)).mono ?_
      rw [decide_eq_true rfl]
      rintro e w15 ⟨rfl, rfl⟩
      go_wp2_with fail
      refine (implLower_has (l := [65, 98]) (has_const w13 5 [65, 98] (2, 3) (by simp [maxLen])) (by simp) (getD_bd (by simp))).mono ?_
      rw [unhide HAb]
      rintro e w16 ⟨ab, rfl, o16, c16⟩
      have b16 := below_next (b13.alloc b13.size _) c16
      go_wp2_with fail
      refine (same_has (o16.alloc _).has (has_const w16 5 [97, 98] (2, 3) (by simp [maxLen])) (by simp) (by simp)).mono ?_
      rw [decide_eq_true rfl]
      rintro e w17 ⟨rfl, rfl⟩
      go_wp2_with fail
      go_ret
      exact ⟨rfl, b16.alloc b16.size _⟩
  · have e2 := unhide hget32 (by omega) hA1
    have e3 := unhide hrd (by omega) hA1
    simp only [Prod.mk.injEq] at e2 e3
    have f3 : n = K2 := e2.1.symm
    have f4 : (P32.length : Int) = N2 := e2.2.symm
    subst f3 f4
    clear e2
    have f5 : n = K3 := e3.1.symm
    have f6 : true = N3 := e3.2.symm
    subst f5 f6
    clear e3
    clear hget16 hget32 hrd
    go_wp2_with fail
    refine (implPut32_any n p4 (by omega)).mono ?_
    rw [unhide HP32]
    rintro e w5 ⟨y, rfl, o5, c5⟩
    have b5 := below_next b4 c5
    obtain ⟨ya, yc, rfl, _⟩ := o5.lies
    have z5 := b5.size
    have s5 := c5.size
    go_wp2_with (at_builtin; refine append_bytes rfl _ _ 22 5 rfl Tryd.underlying22 info_u8 w4.heap.size (.slice ya P32.length yc) _ P32 [9] rfl rfl (o5.alloc _) (own_lit w5 0 5 [9] (Nat.zero_le _) (by simp [maxLen])).reads (by simp; omega) (by simp; omega) ?_)
    intro v6 w6 o6 g6
    have b6 : Below w.heap.size w w6 := (b5.alloc z5 _).grown g6 (by simp; omega) (fun k hk => Nat.le_trans b4.size (o5.lt k hk).1)
    clear g6
    go_wp2_with fail
    refine (implGet32_any (m.length : Int) o6 (by simp; omega) (by omega) (unhide hpb32)).mono ?_
    rw [unhide HG32]
    rintro e w7 ⟨rfl, c7⟩
    have b7 := below_next b6 c7
    go_wp2_with fail
    refine (implDotted_any n ((unhide HP).below b7)).mono ?_
    rw [unhide HDO]
    rintro e w8 ⟨d, rfl, o8, c8⟩
    have b8 := below_next b7 c8
    go_wp2_with fail
    refine (implDottedRead_any o8 (by omega) (getD_bd (unhide hdb)) ((unhide HX).below b8)).mono ?_
    rw [unhide HIR]
    rintro e w9 ⟨rfl, c9⟩
    have b9 := below_next b8 c9
    go_wp2_with fail
    refine (drawDottedRead_any l ((unhide HL).below b9) (unhide HN) (unhide HB) (unhide HM)).mono ?_
    rintro e w10 ⟨u, q, rfl, o10, hql, hqs, c10⟩
    have b10 := below_next b9 c10
    have hqb := hide (show ∀ x ∈ q, 0 ≤ x ∧ x ≤ 255 from fun x hx => ⟨(hqs x hx).1, (hqs x hx).2.1⟩)
    have hqlow := hide (lowered_small q hqs)
    clear hqs
    have hqt := hide (takeOf_all q)
    have hqr := hide (fun (x : Int) (h : iread q = (x, true)) => (show dotted x = q by
      obtain ⟨h0, h1, h2⟩ := iread_sound q x h
      unfold dotted; rw [if_pos ⟨h0, h1⟩]; exact h2))
    obtain ⟨ua, uc, rfl, _⟩ := o10.lies
    go_wp2_with fail
    refine (implDottedRead_any o10 (by omega) (getD_bd (unhide hqb)) ((unhide HX).below b10)).mono ?_
    generalize hiq : iread q = GQ at *
    obtain ⟨ip, ok⟩ := GQ
    rintro e w11 ⟨rfl, c11⟩
    clear hiq
    have b11 := below_next b10 c11
    have q11 := o10.below c11
    go_wp2_with fail
    refine (implLower_any q11 (by omega) (getD_bd (unhide hqb))).mono ?_
    rw [unhide hqlow]
    rintro e w12 ⟨lo, rfl, o12, c12⟩
    have b12 := below_next b11 c12
    have q12 := q11.below c12
    go_wp2_with fail
    refine (implTake_any 0 (q.length : Int) q12 (by omega) (by omega)).mono ?_
    rw [unhide hqt]
    rintro e w13 ⟨tk, rfl, o13, c13⟩
    have b13 := below_next b12 c13
    have q13 := q12.below c13
    have l13 := o12.below c13
    have hlowAb : lowered ([65, 98] : List Int) ([65, 98] : List Int).length = [97, 98] := by decide
    have HAb := hide hlowAb
    clear hlowAb
    cases ok with
    | true =>
      have hdi := hide (unhide hqr ip rfl)
      go_wp2_with fail
      refine (implDotted_any ip ((unhide HP).below b13)).mono ?_
      rw [unhide hdi]
      rintro e w14 ⟨dd, rfl, o14, c14⟩
      have b14 := below_next b13 c14
      have q14 := q13.below c14
      have l14 := l13.below c14
      have t14 := o13.below c14
      go_wp2_with fail
      refine (same_own o14 q14 (unhide hqb) (unhide hqb)).mono ?_
      rw [decide_eq_true rfl]
      rintro e w15 ⟨rfl, rfl⟩
      go_wp2_with fail
      refine (same_own l14 q14 (unhide hqb) (unhide hqb)).mono ?_
      rw [decide_eq_true rfl]
      rintro e w15 ⟨rfl, rfl⟩
      go_wp2_with fail
      refine (same_own t14 q14 (unhide hqb) (unhide hqb)).mono ?_
      rw [decide_eq_true rfl]
      rintro e w15 ⟨rfl, rfl⟩
      go_wp2_with fail
      refine (implLower_has (l := [65, 98]) (has_const w14 5 [65, 98] (2, 3) (by simp [maxLen])) (by simp) (getD_bd (by simp))).mono ?_
      rw [unhide HAb]
      rintro e w16 ⟨ab, rfl, o16, c16⟩
      have b16 := below_next (b14.alloc b14.size _) c16
      go_wp2_with fail
      refine (same_has (o16.alloc _).has (has_const w16 5 [97, 98] (2, 3) (by simp [maxLen])) (by simp) (by simp)).mono ?_
      rw [decide_eq_true rfl]
      rintro e w17 ⟨rfl, rfl⟩
      go_wp2_with fail
      go_ret
      exact ⟨rfl, b16.alloc b16.size _⟩
    | false =>
      go_wp2_with fail
      refine (same_own l13 q13 (unhide hqb) (unhide hqb)).mono ?_
      rw [decide_eq_true rfl]
      rintro e w15 ⟨rfl, rfl⟩
      go_wp2_with fail
      refine (same_own o13 q13 (unhide hqb) (unhide hqb)).mono ?_
      rw [decide_eq_true rfl]
      rintro e w15 ⟨rfl, rfl⟩
      go_wp2_with fail
      refine (implLower_has (l := [65, 98]) (has_const w13 5 [65, 98] (2, 3) (by simp [maxLen])) (by simp) (getD_bd (by simp))).mono ?_
      rw [unhide HAb]
      rintro e w16 ⟨ab, rfl, o16, c16⟩
      have b16 := below_next (b13.alloc b13.size _) c16
      go_wp2_with fail
      refine (same_has (o16.alloc _).has (has_const w16 5 [97, 98] (2, 3) (by simp [maxLen])) (by simp) (by simp)).mono ?_
      rw [decide_eq_true rfl]
      rintro e w17 ⟨rfl, rfl⟩
      go_wp2_with fail
      go_ret
      exact ⟨rfl, b16.alloc b16.size _⟩
  · skip
    clear hget16 hget32 hrd
    go_wp2_with fail
    refine (implPut32_any n p4 (by omega)).mono ?_
    rw [unhide HP32]
    rintro e w5 ⟨y, rfl, o5, c5⟩
    have b5 := below_next b4 c5
    obtain ⟨ya, yc, rfl, _⟩ := o5.lies
    have z5 := b5.size
    have s5 := c5.size
    go_wp2_with (at_builtin; refine append_bytes rfl _ _ 22 5 rfl Tryd.underlying22 info_u8 w4.heap.size (.slice ya P32.length yc) _ P32 [9] rfl rfl (o5.alloc _) (own_lit w5 0 5 [9] (Nat.zero_le _) (by simp [maxLen])).reads (by simp; omega) (by simp; omega) ?_)
    intro v6 w6 o6 g6
    have b6 : Below w.heap.size w w6 := (b5.alloc z5 _).grown g6 (by simp; omega) (fun k hk => Nat.le_trans b4.size (o5.lt k hk).1)
    clear g6
    go_wp2_with fail
    refine (implGet32_any (m.length : Int) o6 (by simp; omega) (by omega) (unhide hpb32)).mono ?_
    rw [unhide HG32]
    rintro e w7 ⟨rfl, c7⟩
    have b7 := below_next b6 c7
    go_wp2_with fail
    refine (implDotted_any n ((unhide HP).below b7)).mono ?_
    rw [unhide HDO]
    rintro e w8 ⟨d, rfl, o8, c8⟩
    have b8 := below_next b7 c8
    go_wp2_with fail
    refine (implDottedRead_any o8 (by omega) (getD_bd (unhide hdb)) ((unhide HX).below b8)).mono ?_
    rw [unhide HIR]
    rintro e w9 ⟨rfl, c9⟩
    have b9 := below_next b8 c9
    go_wp2_with fail
    refine (drawDottedRead_any l ((unhide HL).below b9) (unhide HN) (unhide HB) (unhide HM)).mono ?_
    rintro e w10 ⟨u, q, rfl, o10, hql, hqs, c10⟩
    have b10 := below_next b9 c10
    have hqb := hide (show ∀ x ∈ q, 0 ≤ x ∧ x ≤ 255 from fun x hx => ⟨(hqs x hx).1, (hqs x hx).2.1⟩)
    have hqlow := hide (lowered_small q hqs)
    clear hqs
    have hqt := hide (takeOf_all q)
    have hqr := hide (fun (x : Int) (h : iread q = (x, true)) => (show dotted x = q by
      obtain ⟨h0, h1, h2⟩ := iread_sound q x h
      unfold dotted; rw [if_pos ⟨h0, h1⟩]; exact h2))
    obtain ⟨ua, uc, rfl, _⟩ := o10.lies
    go_wp2_with fail
    refine (implDottedRead_any o10 (by omega) (getD_bd (unhide hqb)) ((unhide HX).below b10)).mono ?_
    generalize hiq : iread q = GQ at *
    obtain ⟨ip, ok⟩ := GQ
    rintro e w11 ⟨rfl, c11⟩
    clear hiq
    have b11 := below_next b10 c11
    have q11 := o10.below c11
    go_wp2_with fail
    refine (implLower_any q11 (by omega) (getD_bd (unhide hqb))).mono ?_
    rw [unhide hqlow]
    rintro e w12 ⟨lo, rfl, o12, c12⟩
    have b12 := below_next b11 c12
    have q12 := q11.below c12
    go_wp2_with fail
    refine (implTake_any 0 (q.length : Int) q12 (by omega) (by omega)).mono ?_
    rw [unhide hqt]
    rintro e w13 ⟨tk, rfl, o13, c13⟩
    have b13 := below_next b12 c13
    have q13 := q12.below c13
    have l13 := o12.below c13
    have hlowAb : lowered ([65, 98] : List Int) ([65, 98] : List Int).length = [97, 98] := by decide
    have HAb := hide hlowAb
    clear hlowAb
    cases ok with
    | true =>
      have hdi := hide (unhide hqr ip rfl)
      go_wp2_with fail
      refine (implDotted_any ip ((unhide HP).below b13)).mono ?_
      rw [unhide hdi]
      rintro e w14 ⟨dd, rfl, o14, c14⟩
      have b14 := below_next b13 c14
      have q14 := q13.below c14
      have l14 := l13.below c14
      have t14 := o13.below c14
      go_wp2_with fail
      refine (same_own o14 q14 (unhide hqb) (unhide hqb)).mono ?_
      rw [decide_eq_true rfl]
      rintro e w15 ⟨rfl, rfl⟩
      go_wp2_with fail
      refine (same_own l14 q14 (unhide hqb) (unhide hqb)).mono ?_
      rw [decide_eq_true rfl]
      rintro e w15 ⟨rfl, rfl⟩
      go_wp2_with fail
      refine (same_own t14 q14 (unhide hqb) (unhide hqb)).mono ?_
      rw [decide_eq_true rfl]
      rintro e w15 ⟨rfl, rfl⟩
      go_wp2_with fail
      refine (implLower_has (l := [65, 98]) (has_const w14 5 [65, 98] (2, 3) (by simp [maxLen])) (by simp) (getD_bd (by simp))).mono ?_
      rw [unhide HAb]
      rintro e w16 ⟨ab, rfl, o16, c16⟩
      have b16 := below_next (b14.alloc b14.size _) c16
      go_wp2_with fail
      refine (same_has (o16.alloc _).has (has_const w16 5 [97, 98] (2, 3) (by simp [maxLen])) (by simp) (by simp)).mono ?_
      rw [decide_eq_true rfl]
      rintro e w17 ⟨rfl, rfl⟩
      go_wp2_with fail
      go_ret
      exact ⟨rfl, b16.alloc b16.size _⟩
    | false =>
      go_wp2_with fail
      refine (same_own l13 q13 (unhide hqb) (unhide hqb)).mono ?_
      rw [decide_eq_true rfl]
      rintro e w15 ⟨rfl, rfl⟩
      go_wp2_with fail
      refine (same_own o13 q13 (unhide hqb) (unhide hqb)).mono ?_
      rw [decide_eq_true rfl]
      rintro e w15 ⟨rfl, rfl⟩
      go_wp2_with fail
      refine (implLower_has (l := [65, 98]) (has_const w13 5 [65, 98] (2, 3) (by simp [maxLen])) (by simp) (getD_bd (by simp))).mono ?_
      rw [unhide HAb]
      rintro e w16 ⟨ab, rfl, o16, c16⟩
      have b16 := below_next (b13.alloc b13.size _) c16
      go_wp2_with fail
      refine (same_has (o16.alloc _).has (has_const w16 5 [97, 98] (2, 3) (by simp [maxLen])) (by simp) (by simp)).mono ?_
      rw [decide_eq_true rfl]
      rintro e w17 ⟨rfl, rfl⟩
      go_wp2_with fail
      go_ret
      exact ⟨rfl, b16.alloc b16.size _⟩
  · skip
    clear hget16 hget32 hrd
    go_wp2_with fail
    refine (implPut32_any n p4 (by omega)).mono ?_
    rw [unhide HP32]
    rintro e w5 ⟨y, rfl, o5, c5⟩
    have b5 := below_next b4 c5
    obtain ⟨ya, yc, rfl, _⟩ := o5.lies
    have z5 := b5.size
    have s5 := c5.size
    go_wp2_with (at_builtin; refine append_bytes rfl _ _ 22 5 rfl Tryd.underlying22 info_u8 w4.heap.size (.slice ya P32.length yc) _ P32 [9] rfl rfl (o5.alloc _) (own_lit w5 0 5 [9] (Nat.zero_le _) (by simp [maxLen])).reads (by simp; omega) (by simp; omega) ?_)
    intro v6 w6 o6 g6
    have b6 : Below w.heap.size w w6 := (b5.alloc z5 _).grown g6 (by simp; omega) (fun k hk => Nat.le_trans b4.size (o5.lt k hk).1)
    clear g6
    go_wp2_with fail
    refine (implGet32_any (m.length : Int) o6 (by simp; omega) (by omega) (unhide hpb32)).mono ?_
    rw [unhide HG32]
    rintro e w7 ⟨rfl, c7⟩
    have b7 := below_next b6 c7
    go_wp2_with fail
    refine (implDotted_any n ((unhide HP).below b7)).mono ?_
    rw [unhide HDO]
    rintro e w8 ⟨d, rfl, o8, c8⟩
    have b8 := below_next b7 c8
    go_wp2_with fail
    refine (implDottedRead_any o8 (by omega) (getD_bd (unhide hdb)) ((unhide HX).below b8)).mono ?_
    rw [unhide HIR]
    rintro e w9 ⟨rfl, c9⟩
    have b9 := below_next b8 c9
    go_wp2_with fail
    refine (drawDottedRead_any l ((unhide HL).below b9) (unhide HN) (unhide HB) (unhide HM)).mono ?_
    rintro e w10 ⟨u, q, rfl, o10, hql, hqs, c10⟩
    have b10 := below_next b9 c10
    have hqb := hide (show ∀ x ∈ q, 0 ≤ x ∧ x ≤ 255 from fun x hx => ⟨(hqs x hx).1, (hqs x hx).2.1⟩)
    have hqlow := hide (lowered_small q hqs)
    clear hqs
    have hqt := hide (takeOf_all q)
    have hqr := hide (fun (x : Int) (h : iread q = (x, true)) => (show dotted x = q by
      obtain ⟨h0, h1, h2⟩ := iread_sound q x h
      unfold dotted; rw [if_pos ⟨h0, h1⟩]; exact h2))
    obtain ⟨ua, uc, rfl, _⟩ := o10.lies
    go_wp2_with fail
    refine (implDottedRead_any o10 (by omega) (getD_bd (unhide hqb)) ((unhide HX).below b10)).mono ?_
    generalize hiq : iread q = GQ at *
    obtain ⟨ip, ok⟩ := GQ
    rintro e w11 ⟨rfl, c11⟩
    clear hiq
    have b11 := below_next b10 c11
    have q11 := o10.below c11
    go_wp2_with fail
    refine (implLower_any q11 (by omega) (getD_bd (unhide hqb))).mono ?_
    rw [unhide hqlow]
    rintro e w12 ⟨lo, rfl, o12, c12⟩
    have b12 := below_next b11 c12
    have q12 := q11.below c12
    go_wp2_with fail
    refine (implTake_any 0 (q.length : Int) q12 (by omega) (by omega)).mono ?_
    rw [unhide hqt]
    rintro e w13 ⟨tk, rfl, o13, c13⟩
    have b13 := below_next b12 c13
    have q13 := q12.below c13
    have l13 := o12.below c13
    have hlowAb : lowered ([65, 98] : List Int) ([65, 98] : List Int).length = [97, 98] := by decide
    have HAb := hide hlowAb
    clear hlowAb
    cases ok with
    | true =>
      have hdi := hide (unhide hqr ip rfl)
      go_wp2_with fail
      refine (implDotted_any ip ((unhide HP).below b13)).mono ?_
      rw [unhide hdi]
      rintro e w14 ⟨dd, rfl, o14, c14⟩
      have b14 := below_next b13 c14
      have q14 := q13.below c14
      have l14 := l13.below c14
      have t14 := o13.below c14
      go_wp2_with fail
      refine (same_own o14 q14 (unhide hqb) (unhide hqb)).mono ?_
      rw [decide_eq_true rfl]
      rintro e w15 ⟨rfl, rfl⟩
      go_wp2_with fail
      refine (same_own l14 q14 (unhide hqb) (unhide hqb)).mono ?_
      rw [decide_eq_true rfl]
      rintro e w15 ⟨rfl, rfl⟩
      go_wp2_with fail
      refine (same_own t14 q14 (unhide hqb) (unhide hqb)).mono ?_
      rw [decide_eq_true rfl]
      rintro e w15 ⟨rfl, rfl⟩
      go_wp2_with fail
      refine (implLower_has (l := [65, 98]) (has_const w14 5 [65, 98] (2, 3) (by simp [maxLen])) (by simp) (getD_bd (by simp))).mono ?_
      rw [unhide HAb]
      rintro e w16 ⟨ab, rfl, o16, c16⟩
      have b16 := below_next (b14.alloc b14.size _) c16
      go_wp2_with fail
      refine (same_has (o16.alloc _).has (has_const w16 5 [97, 98] (2, 3) (by simp [maxLen])) (by simp) (by simp)).mono ?_
      rw [decide_eq_true rfl]
      rintro e w17 ⟨rfl, rfl⟩
      go_wp2_with fail
      go_ret
      exact ⟨rfl, b16.alloc b16.size _⟩
    | false =>
      go_wp2_with fail
      refine (same_own l13 q13 (unhide hqb) (unhide hqb)).mono ?_
      rw [decide_eq_true rfl]
      rintro e w15 ⟨rfl, rfl⟩
      go_wp2_with fail
      refine (same_own o13 q13 (unhide hqb) (unhide hqb)).mono ?_
      rw [decide_eq_true rfl]
      rintro e w15 ⟨rfl, rfl⟩
      go_wp2_with fail
      refine (implLower_has (l := [65, 98]) (has_const w13 5 [65, 98] (2, 3) (by simp [maxLen])) (by simp) (getD_bd (by simp))).mono ?_
      rw [unhide HAb]
      rintro e w16 ⟨ab, rfl, o16, c16⟩
      have b16 := below_next (b13.alloc b13.size _) c16
      go_wp2_with fail
      refine (same_has (o16.alloc _).has (has_const w16 5 [97, 98] (2, 3) (by simp [maxLen])) (by simp) (by simp)).mono ?_
      rw [decide_eq_true rfl]
      rintro e w17 ⟨rfl, rfl⟩
      go_wp2_with fail
      go_ret
      exact ⟨rfl, b16.alloc b16.size _⟩
end Go.Proofs.YtdbojhbdfcknfaaDoor
