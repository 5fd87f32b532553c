/-
  Contracts of the specification's Lower. Contracts of the specification's LabelOk. Contracts of the specification's NameOk. Contracts of the specification's NameRead.
-/
import Derived.Test.YtbabmdiklefgcaaGreatDoorFnRepliesG00
import Derived.Test.YtbabmdiklefgcaaGreatDoorFnRepliesG07
import Derived.Test.YtbabmdiklefgcaaGreatDoorFnRepliesG01
import Derived.Test.YtbabmdiklefgcaaGreatDoorFnRepliesG02
import Derived.Deep.LoopGhost
namespace Go.Proofs.YtbabmdiklefgcaaGreatDoor
open Go.RowKit
set_option linter.unusedVariables false
set_option maxHeartbeats 400000
set_option maxRecDepth 100000

theorem specLower_some (B g cap : Nat) (l : List Int) (w : World) (h : Own B 5 w (.slice (some ⟨g, 0, none⟩) l.length cap) l) (hl : l.length ≤ 1048576) (hb : ∀ k, 0 ≤ l.getD k 0 ∧ l.getD k 0 ≤ 255) :
  Calls Tryz.prog 127 #[.slice (some ⟨g, 0, none⟩) l.length cap] w fun e w' => ∃ v, e = .returned v ∧ Own w.heap.size 5 w' v (lowered l l.length) ∧ Below w.heap.size w w' := by
 have hR := (h.alloc (.cells (([] : List Int).map (Value.int .u8)).toArray 5)).reads
 have HB := UC hb
 clear hb
 generalize hn : l.length = n at *
 have HN := UC hn
 clear hn
 go_enter Tryz.func127, Tryz.ntmps127
 go_wp2_with (at_builtin; refine append_bytes rfl _ _ 22 5 rfl Tryz.underlying22 VJ w.heap.size _ _ [] l rfl rfl (own_lit w w.heap.size 5 [] (Nat.le_refl _) (by simp)) hR (by rw [UB HN]; simp; omega) (by simp) ?_)
 intro v1 w1 o1 hgrow
 have b1 : Below w.heap.size w w1 := ((Below.refl _ _).alloc (Nat.le_refl _) _).grown hgrow (by simp) (fun k hk => by simp [Value.ownBlock] at hk; omega)
 clear hgrow hR
 by_cases h0 : n = 0
 ·subst h0
  obtain rfl : l = [] := List.eq_nil_of_length_eq_zero (UB HN)
  obtain ⟨a1, cap1, rfl, _⟩ := o1.lies
  go_wp2
  go_loop [4] (fun i => i = .int .i64 0) (fun i => 0)
  case atStart => rfl
  case round =>
   subst hrel
   go_wp2
   go_ret
   exact ⟨_, rfl, o1, b1⟩
 rcases o1.form with ⟨rfl, rfl⟩ | ⟨g1, cap1, hv1, hB1, hlt1, _⟩
 ·exact absurd (UB HN).symm (by simpa using h0)
 ·rw [UB HN] at hv1
  subst hv1
  clear h0
  go_wp2
  go_loopw [4] (fun i wr => ∃ k : Nat, k ≤ n ∧ i = .int .i64 k ∧ wr.ownsRow w.heap.size 5 1 (.slice (some ⟨g1, 0, none⟩) n cap1) n ((lowered l k).map (Value.int .u8)) ∧ Below w.heap.size w wr) (fun i _ => n - (intOf i).toNat)
  case atStart => exact ⟨0, Nat.zero_le _, rfl, by rw [lowered_zero]; have o2 := o1; unfold Own at o2; rw [UB HN] at o2; exact o2, b1⟩
  case round =>
   obtain ⟨k, hk, rfl, ho, hbw⟩ := hrel
   by_cases hlt : k < n
   ·have hc := World.ownsRow.cellAt ho k (by omega)
    rw [map_at _ _ (by rw [lowered_length, UB HN]; exact hlt), lowered_getD _ _ _ (Nat.le_refl _)] at hc
    have hf := World.ownsRow.frozenAt ho k
    have hx := (UB HB) k
    have hst := UC (World.ownsRow.stored ho k (.int .u8 (low (l.getD k 0))))
    have HO := UC ho
    clear ho
    have hsucc := UC (lowered_succ l k)
    have hsame := UC (lowered_same l k (k + 1) (by omega))
    generalize hxe : l.getD k 0 = x at *
    have HX := UC hxe
    clear hxe
    by_cases h65 : 65 ≤ x
    ·by_cases h90 : x ≤ 90
     ·go_wp2
      refine ⟨⟨k + 1, by omega, by go_num, ?_, hbw.setCell hB1 _⟩, by simp [intOf]; omega⟩
      have := (UB hst).1
      rw [← List.map_set, UB hsucc, low_great x h65 h90] at this
      exact this
     ·go_wp2
      refine ⟨⟨k + 1, by omega, by go_num, ?_, hbw⟩, by simp [intOf]; omega⟩
      rw [UB hsame (fun j h1 h2 => by (obtain rfl : j = k := by omega); (rw [UB HX]; omega))]
      exact UB HO
    ·go_wp2
     refine ⟨⟨k + 1, by omega, by go_num, ?_, hbw⟩, by simp [intOf]; omega⟩
     rw [UB hsame (fun j h1 h2 => by (obtain rfl : j = k := by omega); (rw [UB HX]; omega))]
     exact UB HO
   ·go_wp2
    go_ret
    obtain rfl : k = n := by omega
    refine ⟨_, rfl, ?_, hbw⟩
    unfold Own
    rw [lowered_length, UB HN]
    exact ho

theorem specLower_nil (w : World) :
  Calls Tryz.prog 127 #[.slice none 0 0] w fun e w' => ∃ v, e = .returned v ∧ Own w.heap.size 5 w' v [] ∧ Below w.heap.size w w' := by
 go_enter Tryz.func127, Tryz.ntmps127
 go_wp2_with (at_builtin; refine append_bytes rfl _ _ 22 5 rfl Tryz.underlying22 VJ w.heap.size _ _ [] [] rfl rfl (own_lit w w.heap.size 5 [] (Nat.le_refl _) (by simp)) (.inl ⟨rfl, rfl⟩) (by simp) (by simp) ?_)
 intro v1 w1 o1 hgrow
 have b1 : Below w.heap.size w w1 := ((Below.refl _ _).alloc (Nat.le_refl _) _).grown hgrow (by simp) (fun k hk => by simp [Value.ownBlock] at hk; omega)
 clear hgrow
 obtain ⟨a1, cap1, rfl, _⟩ := o1.lies
 go_wp2
 go_loop [4] (fun i => i = .int .i64 0) (fun i => 0)
 case atStart => rfl
 case round =>
  subst hrel
  go_wp2
  go_ret
  exact ⟨_, rfl, o1, b1⟩

theorem specLower_any {B : Nat} {v : Value} {l : List Int} {w : World} (h : Own B 5 w v l) (hl : l.length ≤ 1048576) (hb : ∀ k, 0 ≤ l.getD k 0 ∧ l.getD k 0 ≤ 255) :
  Calls Tryz.prog 127 #[v] w fun e w' => ∃ v', e = .returned v' ∧ Own w.heap.size 5 w' v' (lowered l l.length) ∧ Below w.heap.size w w' := by
 rcases h.form with ⟨rfl, rfl⟩ | ⟨g, cap, rfl, _⟩
 ·exact specLower_nil w
 ·exact specLower_some B g cap l w h hl hb
theorem ssign_cases (c : Int) : (97 ≤ c ∧ c ≤ 122) ∨ (97 ≤ c ∧ 122 < c) ∨ (c < 97 ∧ 48 ≤ c ∧ c ≤ 57) ∨ (c < 97 ∧ 48 ≤ c ∧ 57 < c ∧ c ≠ 45) ∨ (c < 97 ∧ c < 48 ∧ c = 45) ∨ (c < 97 ∧ c < 48 ∧ c ≠ 45) := by omega

set_option maxHeartbeats 1600000 in
set_option maxRecDepth 100000 in
theorem specLabelOk_has {v : Value} {l : List Int} {w : World} (h : Has w v l) :
  Calls Tryz.prog 60 #[v] w fun e w' => e = .returned (.bool (labelOk l)) ∧ w = w' := by
 have hbd := h.bound
 unfold maxLen at hbd
 obtain ⟨a, cap, rfl, hL⟩ := h.form
 by_cases h0 : l.length = 0
 ·rw [labelOk_short (by omega), h0]
  go_enter Tryz.func60, Tryz.ntmps60
  go_wp2
  go_ret
  exact ⟨rfl, rfl⟩
 ·by_cases h1 : 15 < l.length
  ·rw [labelOk_short (by omega)]
   generalize hn : l.length = n at *
   go_enter Tryz.func60, Tryz.ntmps60
   go_wp2
   go_ret
   exact ⟨rfl, rfl⟩
  ·have h2 : l.length ≤ 15 := by omega
   have hyes := UC (fun (hs : ∀ j, j < l.length → signOk (l.getD j 0) = true) => labelOk_yes (l := l) (by omega) h2 hs)
   have hno := UC (fun (j : Nat) (hj : j < l.length) (hs : signOk (l.getD j 0) = false) => labelOk_sign hj hs)
   generalize hok : labelOk l = ok at *
   clear hok
   generalize hn : l.length = n at *
   have HN := UC hn
   clear hn
   have hn1 : (1 : Int) ≤ n := by omega
   go_enter Tryz.func60, Tryz.ntmps60
   go_wp2
   go_loop [3] (fun i => ∃ k : Nat, k ≤ n ∧ i = .int .i64 k ∧ Hid (∀ j, j < k → signOk (l.getD j 0) = true)) (fun i => n - (intOf i).toNat)
   case atStart => exact ⟨0, Nat.zero_le _, rfl, UC (fun j hj => absurd hj (Nat.not_lt_zero _))⟩
   case round =>
    obtain ⟨k, hk, rfl, hall⟩ := hrel
    by_cases hlt : k < n
    ·obtain ⟨b, off, rfl, hbl, hc⟩ := hL.here (k := k) (by rw [UB HN]; exact hlt)
     have hone := UC (fun (hs : signOk (l.getD k 0) = true) => (show ∀ j, j < k + 1 → signOk (l.getD j 0) = true from fun j hj => by
      by_cases e : j = k
      ·subst e; exact hs
      ·exact UB hall j (by omega)))
     have hnok := UC (fun (hs : signOk (l.getD k 0) = false) => UB hno k hlt hs)
     generalize hx : l.getD k 0 = x at *
     rcases ssign_cases x with ⟨h1, h2⟩ | ⟨h1, h2⟩ | ⟨h1, h2, h3⟩ | ⟨h1, h2, h3, h4⟩ | ⟨h1, h2, rfl⟩ | ⟨h1, h2, h3⟩
     ·have hs : signOk x = true := decide_eq_true (by omega)
      go_wp2
      exact ⟨⟨k + 1, by omega, by go_num, UC (UB hone hs)⟩, by simp [intOf]; omega⟩
     ·have hs : signOk x = false := decide_eq_false (by omega)
      have hq := UB hnok hs
      subst hq
      have h8 : (x == 45) = false := by simp; omega
      have h5 : 48 ≤ x := by omega
      have h6 : ¬ x ≤ 57 := by omega
      have h7 : ¬ x ≤ 122 := by omega
      go_wp2
      go_ret
      exact ⟨rfl, rfl⟩
     ·have hs : signOk x = true := decide_eq_true (by omega)
      have h5 : ¬ 97 ≤ x := by omega
      go_wp2
      exact ⟨⟨k + 1, by omega, by go_num, UC (UB hone hs)⟩, by simp [intOf]; omega⟩
     ·have hs : signOk x = false := decide_eq_false (by omega)
      have hq := UB hnok hs
      subst hq
      have h8 : (x == 45) = false := by simp; omega
      have h5 : ¬ 97 ≤ x := by omega
      have h6 : ¬ x ≤ 57 := by omega
      go_wp2
      go_ret
      exact ⟨rfl, rfl⟩
     ·have hs : signOk 45 = true := rfl
      go_wp2
      exact ⟨⟨k + 1, by omega, by go_num, UC (UB hone hs)⟩, by simp [intOf]; omega⟩
     ·have hs : signOk x = false := decide_eq_false (by omega)
      have hq := UB hnok hs
      subst hq
      have h8 : (x == 45) = false := by simp; omega
      have h5 : ¬ 97 ≤ x := by omega
      have h6 : ¬ 48 ≤ x := by omega
      go_wp2
      go_ret
      exact ⟨rfl, rfl⟩
    ·obtain rfl : k = n := by omega
     have hq := UB hyes (UB hall)
     subst hq
     go_wp2
     go_ret
     exact ⟨rfl, rfl⟩
set_option maxHeartbeats 400000 in
set_option maxRecDepth 100000 in
theorem VO {v : Value} {n : List (List Int)} {w : World} (h : HasL w v n) :
  Calls Tryz.prog 34 #[.agg #[v]] w fun e w' => e = .returned (.bool (nameOk n)) ∧ Below w.heap.size w w' := by
 obtain ⟨a, cap, rfl, hl, hm⟩ := h.form
 unfold maxLen at hm
 by_cases h1 : 6 < n.length
 ·rw [nameOk_long h1]
  have H := UC h
  clear h
  generalize hn : n.length = m at *
  have HN := UC hn
  clear hn
  go_enter Tryz.func34, Tryz.ntmps34
  go_wp2
  go_ret
  exact ⟨rfl, UI _⟩
 ·have h2 : n.length ≤ 6 := by omega
  have hA := h.below (UI (.cells #[.slice a n.length cap] 37))
  have H := UC h
  clear h
  have hyes := UC (fun (hs : ∀ j, j < n.length → labelOk (n.getD j []) = true) => nameOk_yes (n := n) h2 hs)
  have hno := UC (fun (j : Nat) (hj : j < n.length) (hs : labelOk (n.getD j []) = false) => nameOk_label hj hs)
  generalize hok : nameOk n = ok at *
  clear hok
  generalize hn : n.length = m at *
  have HN := UC hn
  clear hn
  go_enter Tryz.func34, Tryz.ntmps34
  go_wp2
  go_loop [3] (fun i => ∃ k : Nat, k ≤ m ∧ i = .int .i64 k ∧ Hid (∀ j, j < k → labelOk (n.getD j []) = true)) (fun i => m - (intOf i).toNat)
  case atStart => exact ⟨0, Nat.zero_le _, rfl, UC (fun j hj => absurd hj (Nat.not_lt_zero _))⟩
  case round =>
   obtain ⟨k, hk, rfl, hall⟩ := hrel
   by_cases hlt : k < m
   ·obtain ⟨b, off, u, rfl, hbl, hc, hu⟩ := hA.here (k := k) (by rw [UB HN]; exact hlt)
    have hone := UC (fun (hs : labelOk (n.getD k []) = true) => (show ∀ j, j < k + 1 → labelOk (n.getD j []) = true from fun j hj => by
      by_cases e : j = k
      ·subst e; exact hs
      ·exact UB hall j (by omega)))
    have hnok := UC (fun (hs : labelOk (n.getD k []) = false) => UB hno k hlt hs)
    generalize hx : n.getD k [] = x at *
    have HU := UC hu
    obtain ⟨ua, uc, rfl, _⟩ := hu.form
    clear hu
    go_wp2_with fail
    refine (specLabelOk_has (UB HU)).mono ?_
    rintro e w1 ⟨rfl, rfl⟩
    cases hs : labelOk x with
    | true =>
     go_wp2
     exact ⟨⟨k + 1, by omega, by go_num, UC (UB hone hs)⟩, by simp [intOf]; omega⟩
    | false =>
     have hq := UB hnok hs
     subst hq
     go_wp2
     go_ret
     exact ⟨rfl, UI _⟩
   ·obtain rfl : k = m := by omega
    have hq := UB hyes (UB hall)
    subst hq
    go_wp2
    go_ret
    exact ⟨rfl, UI _⟩
theorem info_sl7 : (Tryz.prog.info? 22).map (fun i => (i.zero, i.size, i.bytes)) = some (some (.slice none 0 0), 1, 24) := by kernel_rfl

def GotR (l : List Int) (N : List (List Int)) (w : World) (g : Nat) (s i : Value) (wr : World) : Prop :=
 ∃ (n : List (List Int)) (cur : List Int) (k E : Nat) (o : Value), i = .int .i64 k ∧ g + k = l.length + 2 ∧ ((k ≤ l.length ∧ n ++ rest (decide (0 < l.length)) (l.drop k) cur = N) ∨ (k = l.length + 1 ∧ n = N)) ∧ n.length ≤ k ∧ cur.length ≤ k ∧ Bytes8 cur ∧
  w.heap.size + 2 ≤ E ∧ E ≤ wr.heap.size ∧ wr.heap[w.heap.size]? = some (.cells #[.slice none 0 0] 37) ∧ wr.heap[w.heap.size + 1]? = some (.cells #[o] 37) ∧
  OwnN (w.heap.size + 2) E 22 5 wr o n ∧ Own E 5 wr s cur ∧ Below w.heap.size w wr

theorem ownN_low {B E : Nat} {el eb : TypeId} {w w' : World} {v : Value} {n : List (List Int)} (h : OwnN B E el eb w v n) (hb : Below E w w') : OwnN B E el eb w' v n :=
 h.outside (B := E) (D := w.heap.size) ⟨hb.os, hb.tape, hb.output, hb.size, fun k hk hn => hb.block k (by omega)⟩ (.inl (Nat.le_refl _))

set_option maxHeartbeats 8000000 in
set_option maxRecDepth 100000 in
theorem specNameRead_has {v : Value} {l : List Int} {w : World} (h : Has w v l) (hl : l.length ≤ 1048576) (hb : Bytes8 l) :
  Calls Tryz.prog 111 #[v] w fun e w' => ∃ v', e = .returned (.tuple #[.agg #[v'], .bool (nameRead l).2]) ∧ OwnL w.heap.size 22 5 w' v' (nameRead l).1 ∧ Below w.heap.size w w' := by
 have hs : ((strOfNums l).toList == (strOfNums [46]).toList) = decide (l = [46]) := str_eq l [46] (fun c hc => by
  obtain ⟨i, hi, rfl⟩ := List.getElem_of_mem hc
  have := hb i
  rwa [List.getD_eq_getElem?_getD, List.getElem?_eq_getElem hi] at this) (fun c hc => by simp at hc; omega)
 have hs46 : (strOfNums [46]).toList = [46] := by decide +kernel
 rw [hs46] at hs
 have bA := UI (w := w) (.cells #[.slice none 0 0] 37)
 have kA := heap_alloc_new w (.cells #[.slice none 0 0] 37)
 have cA := conv_has (h.below bA)
 obtain ⟨a, cap, rfl, hcl⟩ := h.form
 by_cases h1 : l = [46]
 ·have e1 : nameRead l = ([], true) := by unfold nameRead; rw [if_pos h1]
  rw [e1]
  rw [decide_eq_true h1] at hs
  clear h1 e1 hs46
  have c0 := US kA
  have f0 := VG kA 0
  have M0 := UC kA
  go_enter Tryz.func111, Tryz.ntmps111
  go_wp2_with fail
  refine bodyPost_ret (results_cell_tmp_row rfl _ _ w.heap.size 37 #[.slice none 0 0] (0, 0) _ rfl (UB M0) Tryz.underlying37 rfl (by kernel_rfl)) rfl ?_
  exact ⟨_, rfl, ⟨[], by simpa using World.ownsRow_nil _ _ _ _, by simp, by simp⟩, bA⟩
 ·have e1 : nameRead l = if nameOk (labelsIn l) = true then (labelsIn l, true) else ([], false) := by unfold nameRead; rw [if_neg h1]
  rw [e1]
  rw [decide_eq_false h1] at hs
  have hN : labelsIn l = rest (decide (0 < l.length)) l [] := rfl
  generalize labelsIn l = N at *
  have HN := UC hN
  generalize hRes : (if nameOk N = true then (N, true) else ([], false)) = Res
  have HRES := UC hRes
  clear hRes
  have hB8 := UC hb
  have H := UC h
  clear h1 e1 hs46 hN hb h hcl
  obtain ⟨hsz, k0, r0⟩ := box2 w (.cells #[.slice none 0 0] 37) #[.slice none 0 0] 37
  have b0 := below2 w (.cells #[.slice none 0 0] 37) (.cells #[.slice none 0 0] 37)
  go_enter Tryz.func111, Tryz.ntmps111
  go_wp2
  clear cA kA bA hs
  generalize (w.alloc (.cells #[.slice none 0 0] 37)).alloc (.cells #[.slice none 0 0] 37) = W at *
  go_loopg [5, 6] (l.length + 2) (fun g s i wr => GotR l N w g s i wr)
  case atStart => exact ⟨[], [], 0, w.heap.size + 2, .slice none 0 0, rfl, by omega, .inl ⟨Nat.zero_le _, by rw [List.nil_append, List.drop_zero]; exact (UB HN).symm⟩, by simp, by simp, bytes8_nil, Nat.le_refl _, by omega, k0, r0, ⟨[], by simpa using World.ownsRow_nil _ _ _ _, by simp, by simp, by simp [Value.ownBlock], by simp⟩, World.ownsRow_nil _ _ _ _, b0⟩
  case round =>
   clear k0 r0 b0 HN hsz
   obtain ⟨n, cur, k, E, o, rfl, hg, hR, hnk, hck, hc8, hE, hEw, kr, kn, ho, hcu, hbl⟩ := hrel
   obtain ⟨oa, oc, rfl, _⟩ := ho.hasL.form
   obtain ⟨ca, cc, rfl, _⟩ := hcu.lies
   have OK := UC ((UB H).below hbl)
   have HC8 := UC hc8
   have HO := UC ho
   have HCU := UC hcu
   clear hc8 ho hcu
   by_cases hk : k = l.length + 1
   ·have hN : n = N := by
     rcases hR with ⟨q, _⟩ | ⟨_, q⟩
     ·omega
     ·exact q
    subst hN
    have hk' : ¬ (k : Int) ≤ (l.length : Int) := by omega
    clear hR hk
    have cn := US kn
    have hRes := UB HRES
    cases hok : nameOk n with
    | false =>
     rw [hok, if_neg (by simp)] at hRes
     subst hRes
     have HNO := VO (UB HO).hasL
     rw [hok] at HNO
     have HNO := UC HNO
     clear hok
     go_wp2_with fail
     refine (UB HNO).mono ?_
     rintro e w1 ⟨rfl, b1⟩
     have k1 := UE b1 kr
     have c1 := US k1
     have f1 := VG k1 0
     have M1 := UC (block_set k1 (.slice none 0 0))
     have bb1 := UG hbl b1
     clear kr kn cn k1 b1
     go_wp2_with fail
     refine bodyPost_ret (results_cell_tmp_row rfl _ _ w.heap.size 37 #[.slice none 0 0] (0, 0) _ rfl (UB M1) Tryz.underlying37 rfl (by kernel_rfl)) rfl ?_
     exact ⟨_, rfl, ⟨[], by simpa using World.ownsRow_nil _ _ _ _, by simp, by simp⟩, bb1.setCell (Nat.le_refl _) _⟩
    | true =>
     rw [hok, if_pos rfl] at hRes
     subst hRes
     have HNO := VO (UB HO).hasL
     rw [hok] at HNO
     have HNO := UC HNO
     clear hok
     go_wp2_with fail
     refine (UB HNO).mono ?_
     rintro e w1 ⟨rfl, b1⟩
     have k1 := UE b1 kr
     have c1 := US k1
     have cn1 := US (UE b1 kn)
     have f1 := VG k1 0
     have M1 := UC (block_set k1 (.slice oa n.length oc))
     have bb1 := UG hbl b1
     have O1 := UC ((UB HO).ownL.below b1)
     clear kr kn cn k1 b1
     go_wp2_with fail
     refine bodyPost_ret (results_cell_tmp_row rfl _ _ w.heap.size 37 #[.slice oa n.length oc] (0, 0) _ rfl (UB M1) Tryz.underlying37 rfl (by kernel_rfl)) rfl ?_
     exact ⟨_, rfl, ((UB O1).kept (grown_setCell _ _ _) (by show w.heap.size < _; omega)).mono (by omega), bb1.setCell (Nat.le_refl _) _⟩
   ·obtain ⟨hkl, hR⟩ : k ≤ l.length ∧ n ++ rest (decide (0 < l.length)) (l.drop k) cur = N := by
     rcases hR with q | ⟨q, _⟩
     ·exact q
     ·omega
    clear hk
    have hkl' : (k : Int) ≤ (l.length : Int) := by omega
    obtain ⟨G, rfl⟩ : ∃ G, gk = G + 1 := ⟨gk - 1, by omega⟩
    by_cases hlt : k < l.length
    ·have hlt' : (k : Int) < (l.length : Int) := by omega
     obtain ⟨a', cap', e', hLi⟩ := (UB OK).form
     obtain ⟨rfl, rfl⟩ : a = a' ∧ cap = cap' := by simpa using e'
     obtain ⟨b, off, rfl, hbk, hcx⟩ := hLi.here hlt
     clear e' hLi
     have hx := UB hB8 k
     by_cases hx46 : l.getD k 0 = 46
     ·rw [rest_dot hlt hx46] at hR
      rw [hx46] at hcx
      clear hx46 hx
      have hkne : ((k : Int) == (l.length : Int)) = false := by rw [beq_eq_false_iff_ne]; omega
      have hod := (UB HO).ownL.below (UX (w := wr))
      obtain ⟨vs, hvs, hva, hvd⟩ := hod
      have hvl : vs.length = n.length := by have := hvs.1; simpa using this
      have cn := US kn
      have knd := UE (UX (w := wr)) kn
      have krd := UE (UX (w := wr)) kr
      have bd := UG hbl (UX (w := wr))
      have cod := US knd
      have HUd := UC ((UB HCU).below (UX (w := wr)))
      have HVS := UC hvs
      have HVA := UC hva
      have HVD := UC hvd
      have zn := VC kn
      have zb : w.heap.size + 2 ≤ wr.drew.heap.size := by show w.heap.size + 2 ≤ wr.heap.size; omega
      have KND := UC knd
      have KRD := UC krd
      have ca0 : ∀ o, (wr.alloc o).cell? ⟨w.heap.size + 1, 0, none⟩ = some (.slice oa n.length oc) := fun o => US (UE (UI o) kn)
      have hcl5 : cur.length ≤ 1048576 := by omega
      have SL := UC (fun (w : World) (h : Own E 5 w (.slice ca cur.length cc) cur) => specLower_any h hcl5 (UB HC8))
      generalize hlw : lowered cur cur.length = lw at *
      have HLW := UC hlw
      have HRR := UC hR
      clear hlw knd krd kn kr hva hvd hvs hR
      generalize hLN : l.length = L at *
      have HLN := UC hLN
      clear hLN
      go_wp2_with fail
      go_region_law (first
       | (refine step_append_row rfl (.tmp 49) (.tmp 52) 35 22 rfl Tryz.underlying35 info_sl7 (w.heap.size + 2) (.slice oa n.length oc) _ vs [.slice u2a lw.length u2c] (by simp [Act.eval]) (by simp [Act.eval]) (by rw [hvl]; exact World.ownsRow.alloc (ownsRow_kept' (UB HVS) (UB B2)) _) (one_more w2 22 _) (by intro y hy; simp at hy; subst hy; rfl) (by rw [hvl]; simp; omega) (by have := (UB B2).size; simp; omega) ?_; intro v3 w3 o3 g3; obtain ⟨p3, k3, y3⟩ := snoc_step g3 o3 (by simp [hvl]) (UB HVS) (UB HVA) (UB HVD) ((UB B2).alloc (UB B2).size _) ((UB OU).alloc _) zb (by decide) (UE (UI _) (UE (UB B2) (UB KND))) (by decide); obtain ⟨v3a, v3c, rfl, _⟩ := p3.hasL.form; have co3 := US k3; have fo3 := VG k3 0)
       | (go_simp; go_at_call 127; refine (UB SL _ (UB HUd)).mono ?_; rintro e w2 ⟨u2, rfl, ou, b2⟩; obtain ⟨u2a, u2c, rfl, _⟩ := ou.lies; have OU := UC ou; have B2 := UC b2; have co2 := US (UE b2 (UB KND)); have ca2 : ∀ o, (w2.alloc o).cell? ⟨w.heap.size + 1, 0, none⟩ = some (.slice oa n.length oc) := (fun o => US (UE (UI o) (UE b2 (UB KND)))); clear ou b2))
      all_goals
       go_wp2_with fail
       go_roundg G
       case measure => omega
       case rel =>
        have k1 := (y3.block w.heap.size (by omega)).trans (UB KRD)
        simp only [List.length_append, List.length_cons, List.length_nil] at p3
        have hLN := UB HLN
        subst hLN
        have hR := UB HRR
        have z3 := VC k3
        refine ⟨n ++ [lw], [], k + 1, _, _, by go_num, by omega, .inl ⟨by omega, by rw [List.append_assoc]; exact hR⟩, by simp; omega, by simp, bytes8_nil, ?_, Nat.le_refl _, block_other k1 (by omega) 0 _, block_set k3 _, OwnL.here (p3.kept (grown_setCell _ _ _) (by show w.heap.size + 1 < _; omega)), World.ownsRow_nil _ _ _ _, (bd.trans (y3.mono (by omega))).setCell (by show w.heap.size ≤ w.heap.size + 1; omega) _⟩
        have := (grown_setCell w3 ⟨w.heap.size + 1, 0, none⟩ (.slice v3a (n.length + 1) v3c)).size
        omega
     ·rw [rest_label hlt hx46] at hR
      generalize l.getD k 0 = x at *
      have hx46' : (x == 46) = false := by rw [beq_eq_false_iff_ne]; exact hx46
      have HRR := UC hR
      clear hR hx46
      generalize hLN : l.length = L at *
      have HLN := UC hLN
      clear hLN
      have KN := UC kn
      have KR := UC kr
      clear kn kr
      have hca : ∀ o, (wr.alloc o).cell? ⟨b, off + k, none⟩ = some (.int .u8 x) := fun o => ((UI o).cell (p := ⟨b, off + k, none⟩) hbk).trans hcx
      go_wp2_with (at_builtin; refine append_bytes rfl _ _ 22 5 rfl Tryz.underlying22 VJ E (.slice ca cur.length cc) _ cur [x] rfl rfl ((UB HCU).alloc _) (own_lit wr 0 5 [x] (Nat.zero_le _) (by simp [maxLen])).reads (by simp; omega) (by simp; omega) ?_)
      intro v2 w2 o2 g2
      have b2 : Below E wr w2 := ((Below.refl _ _).alloc hEw _).grown g2 (by simp; omega) (fun q hq => ((UB HCU).lt q hq).1)
      clear g2
      go_wp2_with fail
      go_roundg G
      case measure => omega
      case rel =>
       have hLN := UB HLN
       subst hLN
       exact ⟨n, cur ++ [x], k + 1, E, _, by go_num, by omega, .inl ⟨by omega, UB HRR⟩, by omega, by simp; omega, bytes8_snoc (UB HC8) hx.1 hx.2, hE, Nat.le_trans hEw b2.size, (b2.block w.heap.size (by omega)).trans (UB KR), (b2.block (w.heap.size + 1) (by omega)).trans (UB KN), ownN_low (UB HO) b2, o2, hbl.trans (b2.mono (by omega))⟩
    ·obtain rfl : k = l.length := by omega
     rw [rest_end] at hR
     by_cases hce : cur.length = 0 ∧ decide (0 < l.length) = true
     ·rw [if_pos hce, List.append_nil] at hR
      obtain ⟨hc0, hl0⟩ := hce
      subst hR
      have hl0' : (0 : Int) < (l.length : Int) := by simp at hl0; omega
      obtain rfl : cur = [] := List.eq_nil_of_length_eq_zero hc0
      simp only [List.length_nil] at *
      clear hc0 hl0
      have cn := US kn
      have hRes := UB HRES
      generalize hLN : l.length = L at *
      have HLN := UC hLN
      clear hLN
      cases hok : nameOk n with
      | false =>
       rw [hok, if_neg (by simp)] at hRes
       subst hRes
       have HNO := VO (UB HO).hasL
       rw [hok] at HNO
       have HNO := UC HNO
       clear hok
       go_wp2_with fail
       refine (UB HNO).mono ?_
       rintro e w1 ⟨rfl, b1⟩
       have k1 := UE b1 kr
       have c1 := US k1
       have f1 := VG k1 0
       have M1 := UC (block_set k1 (.slice none 0 0))
       have bb1 := UG hbl b1
       clear kr kn cn k1 b1
       go_wp2_with fail
       refine bodyPost_ret (results_cell_tmp_row rfl _ _ w.heap.size 37 #[.slice none 0 0] (0, 0) _ rfl (UB M1) Tryz.underlying37 rfl (by kernel_rfl)) rfl ?_
       exact ⟨_, rfl, ⟨[], by simpa using World.ownsRow_nil _ _ _ _, by simp, by simp⟩, bb1.setCell (Nat.le_refl _) _⟩
      | true =>
       rw [hok, if_pos rfl] at hRes
       subst hRes
       have HNO := VO (UB HO).hasL
       rw [hok] at HNO
       have HNO := UC HNO
       clear hok
       go_wp2_with fail
       refine (UB HNO).mono ?_
       rintro e w1 ⟨rfl, b1⟩
       have k1 := UE b1 kr
       have c1 := US k1
       have cn1 := US (UE b1 kn)
       have f1 := VG k1 0
       have M1 := UC (block_set k1 (.slice oa n.length oc))
       have bb1 := UG hbl b1
       have O1 := UC ((UB HO).ownL.below b1)
       clear kr kn cn k1 b1
       go_wp2_with fail
       refine bodyPost_ret (results_cell_tmp_row rfl _ _ w.heap.size 37 #[.slice oa n.length oc] (0, 0) _ rfl (UB M1) Tryz.underlying37 rfl (by kernel_rfl)) rfl ?_
       exact ⟨_, rfl, ((UB O1).kept (grown_setCell _ _ _) (by show w.heap.size < _; omega)).mono (by omega), bb1.setCell (Nat.le_refl _) _⟩
     ·rw [if_neg hce] at hR
      by_cases hc0 : cur.length = 0
      ·have hcq : ((cur.length : Int) == 0) = true := by rw [beq_iff_eq]; omega
       have hl0 : l.length = 0 := by
        by_cases q : l.length = 0
        ·exact q
        ·exact absurd ⟨hc0, decide_eq_true (by omega)⟩ hce
       have hl0' : ¬ (0 : Int) < (l.length : Int) := by omega
       clear hce hl0 hc0
       have hod := (UB HO).ownL.below (UX (w := wr))
       obtain ⟨vs, hvs, hva, hvd⟩ := hod
       have hvl : vs.length = n.length := by have := hvs.1; simpa using this
       have cn := US kn
       have knd := UE (UX (w := wr)) kn
       have krd := UE (UX (w := wr)) kr
       have bd := UG hbl (UX (w := wr))
       have cod := US knd
       have HUd := UC ((UB HCU).below (UX (w := wr)))
       have HVS := UC hvs
       have HVA := UC hva
       have HVD := UC hvd
       have zn := VC kn
       have zb : w.heap.size + 2 ≤ wr.drew.heap.size := by show w.heap.size + 2 ≤ wr.heap.size; omega
       have KND := UC knd
       have KRD := UC krd
       have ca0 : ∀ o, (wr.alloc o).cell? ⟨w.heap.size + 1, 0, none⟩ = some (.slice oa n.length oc) := fun o => US (UE (UI o) kn)
       have hcl5 : cur.length ≤ 1048576 := by omega
       have SL := UC (fun (w : World) (h : Own E 5 w (.slice ca cur.length cc) cur) => specLower_any h hcl5 (UB HC8))
       generalize hlw : lowered cur cur.length = lw at *
       have HLW := UC hlw
       have HRR := UC hR
       clear hlw knd krd kn kr hva hvd hvs hR
       generalize hLN : l.length = L at *
       have HLN := UC hLN
       clear hLN
       go_wp2_with fail
       go_region_law (first
        | (refine step_append_row rfl (.tmp 49) (.tmp 52) 35 22 rfl Tryz.underlying35 info_sl7 (w.heap.size + 2) (.slice oa n.length oc) _ vs [.slice u2a lw.length u2c] (by simp [Act.eval]) (by simp [Act.eval]) (by rw [hvl]; exact World.ownsRow.alloc (ownsRow_kept' (UB HVS) (UB B2)) _) (one_more w2 22 _) (by intro y hy; simp at hy; subst hy; rfl) (by rw [hvl]; simp; omega) (by have := (UB B2).size; simp; omega) ?_; intro v3 w3 o3 g3; obtain ⟨p3, k3, y3⟩ := snoc_step g3 o3 (by simp [hvl]) (UB HVS) (UB HVA) (UB HVD) ((UB B2).alloc (UB B2).size _) ((UB OU).alloc _) zb (by decide) (UE (UI _) (UE (UB B2) (UB KND))) (by decide); obtain ⟨v3a, v3c, rfl, _⟩ := p3.hasL.form; have co3 := US k3; have fo3 := VG k3 0)
        | (go_simp; go_at_call 127; refine (UB SL _ (UB HUd)).mono ?_; rintro e w2 ⟨u2, rfl, ou, b2⟩; obtain ⟨u2a, u2c, rfl, _⟩ := ou.lies; have OU := UC ou; have B2 := UC b2; have co2 := US (UE b2 (UB KND)); have ca2 : ∀ o, (w2.alloc o).cell? ⟨w.heap.size + 1, 0, none⟩ = some (.slice oa n.length oc) := (fun o => US (UE (UI o) (UE b2 (UB KND)))); clear ou b2))
       all_goals
        go_wp2_with fail
        go_roundg G
        case measure => omega
        case rel =>
         have k1 := (y3.block w.heap.size (by omega)).trans (UB KRD)
         simp only [List.length_append, List.length_cons, List.length_nil] at p3
         have hLN := UB HLN
         subst hLN
         have hR := UB HRR
         have z3 := VC k3
         refine ⟨n ++ [lw], [], l.length + 1, _, _, by go_num, by omega, .inr ⟨rfl, hR⟩, by simp; omega, by simp, bytes8_nil, ?_, Nat.le_refl _, block_other k1 (by omega) 0 _, block_set k3 _, OwnL.here (p3.kept (grown_setCell _ _ _) (by show w.heap.size + 1 < _; omega)), World.ownsRow_nil _ _ _ _, (bd.trans (y3.mono (by omega))).setCell (by show w.heap.size ≤ w.heap.size + 1; omega) _⟩
         have := (grown_setCell w3 ⟨w.heap.size + 1, 0, none⟩ (.slice v3a (n.length + 1) v3c)).size
         omega
      ·have hcq : ((cur.length : Int) == 0) = false := by rw [beq_eq_false_iff_ne]; omega
       clear hce hc0
       have hod := (UB HO).ownL.below (UX (w := wr))
       obtain ⟨vs, hvs, hva, hvd⟩ := hod
       have hvl : vs.length = n.length := by have := hvs.1; simpa using this
       have cn := US kn
       have knd := UE (UX (w := wr)) kn
       have krd := UE (UX (w := wr)) kr
       have bd := UG hbl (UX (w := wr))
       have cod := US knd
       have HUd := UC ((UB HCU).below (UX (w := wr)))
       have HVS := UC hvs
       have HVA := UC hva
       have HVD := UC hvd
       have zn := VC kn
       have zb : w.heap.size + 2 ≤ wr.drew.heap.size := by show w.heap.size + 2 ≤ wr.heap.size; omega
       have KND := UC knd
       have KRD := UC krd
       have ca0 : ∀ o, (wr.alloc o).cell? ⟨w.heap.size + 1, 0, none⟩ = some (.slice oa n.length oc) := fun o => US (UE (UI o) kn)
       have hcl5 : cur.length ≤ 1048576 := by omega
       have SL := UC (fun (w : World) (h : Own E 5 w (.slice ca cur.length cc) cur) => specLower_any h hcl5 (UB HC8))
       generalize hlw : lowered cur cur.length = lw at *
       have HLW := UC hlw
       have HRR := UC hR
       clear hlw knd krd kn kr hva hvd hvs hR
       generalize hLN : l.length = L at *
       have HLN := UC hLN
       clear hLN
       go_wp2_with fail
       go_region_law (first
        | (refine step_append_row rfl (.tmp 49) (.tmp 52) 35 22 rfl Tryz.underlying35 info_sl7 (w.heap.size + 2) (.slice oa n.length oc) _ vs [.slice u2a lw.length u2c] (by simp [Act.eval]) (by simp [Act.eval]) (by rw [hvl]; exact World.ownsRow.alloc (ownsRow_kept' (UB HVS) (UB B2)) _) (one_more w2 22 _) (by intro y hy; simp at hy; subst hy; rfl) (by rw [hvl]; simp; omega) (by have := (UB B2).size; simp; omega) ?_; intro v3 w3 o3 g3; obtain ⟨p3, k3, y3⟩ := snoc_step g3 o3 (by simp [hvl]) (UB HVS) (UB HVA) (UB HVD) ((UB B2).alloc (UB B2).size _) ((UB OU).alloc _) zb (by decide) (UE (UI _) (UE (UB B2) (UB KND))) (by decide); obtain ⟨v3a, v3c, rfl, _⟩ := p3.hasL.form; have co3 := US k3; have fo3 := VG k3 0)
        | (go_simp; go_at_call 127; refine (UB SL _ (UB HUd)).mono ?_; rintro e w2 ⟨u2, rfl, ou, b2⟩; obtain ⟨u2a, u2c, rfl, _⟩ := ou.lies; have OU := UC ou; have B2 := UC b2; have co2 := US (UE b2 (UB KND)); have ca2 : ∀ o, (w2.alloc o).cell? ⟨w.heap.size + 1, 0, none⟩ = some (.slice oa n.length oc) := (fun o => US (UE (UI o) (UE b2 (UB KND)))); clear ou b2))
       all_goals
        go_wp2_with fail
        go_roundg G
        case measure => omega
        case rel =>
         have k1 := (y3.block w.heap.size (by omega)).trans (UB KRD)
         simp only [List.length_append, List.length_cons, List.length_nil] at p3
         have hLN := UB HLN
         subst hLN
         have hR := UB HRR
         have z3 := VC k3
         refine ⟨n ++ [lw], [], l.length + 1, _, _, by go_num, by omega, .inr ⟨rfl, hR⟩, by simp; omega, by simp, bytes8_nil, ?_, Nat.le_refl _, block_other k1 (by omega) 0 _, block_set k3 _, OwnL.here (p3.kept (grown_setCell _ _ _) (by show w.heap.size + 1 < _; omega)), World.ownsRow_nil _ _ _ _, (bd.trans (y3.mono (by omega))).setCell (by show w.heap.size ≤ w.heap.size + 1; omega) _⟩
         have := (grown_setCell w3 ⟨w.heap.size + 1, 0, none⟩ (.slice v3a (n.length + 1) v3c)).size
         omega
end Go.Proofs.YtbabmdiklefgcaaGreatDoor
