/-
  Contracts of the program's addLine; strings.Join by the library's contract. Contracts of the program's copyBytes: new memory with the same bytes. Contracts of the program's upTo. Contracts of the program's Put32. Contracts of the program's Dotted; strconv.AppendInt by the library's contract. Contracts of the program's labelSign and LabelOk. Contracts of the program's NameOk. Contracts of the program's NameText.
-/
import Derived.Test.YtfpenlobnnlnfaaGreatDoorMsgTextG11
import Derived.Test.YtfpenlobnnlnfaaGreatDoorMsgTextG12
import Derived.Test.YtfpenlobnnlnfaaGreatDoorMsgTextG13
import Derived.Test.YtfpenlobnnlnfaaGreatDoorMsgTextG03
import Derived.Test.YtfpenlobnnlnfaaGreatDoorMsgTextG00
namespace Go.Proofs.YtfpenlobnnlnfaaGreatDoor
open Go.RowKit
set_option linter.unusedVariables false

theorem str_list (l : List Int) : (strOfNums l).data.toList = l.map (fun n => UInt8.ofNat n.toNat) := by simp [strOfNums]
theorem str_join2 (a b : List Int) : (⟨(Lib.join [(strOfNums a).data.toList, (strOfNums b).data.toList] [32]).toArray⟩ : ByteArray) = strOfNums (a ++ [32] ++ b) := by
 rw [str_list, str_list]
 simp [Lib.join, List.intercalate, List.intersperse, strOfNums]
theorem str_join3 (a b c : List Int) : (⟨(Lib.join [(strOfNums a).data.toList, (strOfNums b).data.toList, (strOfNums c).data.toList] [32]).toArray⟩ : ByteArray) = strOfNums (a ++ [32] ++ b ++ [32] ++ c) := by
 rw [str_list, str_list, str_list]
 simp [Lib.join, List.intercalate, List.intersperse, strOfNums]
theorem append_strL {P : Program} {w : World} {ops : Array Oper} {rest : List Oper} {o : Oper} {a : Act} {Q : Exit → Act → World → Prop} (hgd : o.guard = none) (s x : Operand) (t u e : TypeId)
  (ho : o.op = .call { callee := .builtin .append, args := #[s, x], argTypes := #[t, u] }) (ht : P.underlying t = some (.slice e)) (hu : P.underlying u = some .string)
  (hinfo : (P.info? e).map (fun i => (i.zero, i.size, i.bytes)) = some (some (.int .u8 0), 1, 1))
  (base : Nat) (v : Value) (l m : List Int) (hs : a.eval s = v) (hx : a.eval x = .string (strOfNums m)) (hm : ∀ c ∈ m, 0 ≤ c ∧ c ≤ 255) (hown : Own base e w v l) (hlen : l.length + m.length ≤ 1099511627776) (hbase : base ≤ w.heap.size)
  (h : ∀ v' w', Own base e w' v' (l ++ m) → w.grownBy w' v.ownBlock → wpList P ops Q rest (a.put o.dst v') w') : wpList P ops Q (o :: rest) a w := by
 obtain ⟨i0, hi, hz0, hz1, hz2⟩ := info_parts hinfo
 obtain ⟨v', w', hr', h2, h3, _⟩ := Lib.run_append_own_string (P := P) w base t u o.type e i0 ht hu hi hz0 hz1 hz2 v l.length (l.map (Value.int .u8)) hown (strOfNums m) (by rw [strOfNums_size]; unfold maxLen; omega) (by rw [strOfNums_size]; omega) hbase
 have h2' : Own base e w' v' (l ++ m) := by
  rw [strCells_int m hm, strOfNums_size] at h2
  simpa [Own] using h2
 refine wpList_plain hgd fun K hK => ?_
 unfold Oper.wp execOp
 simp only [ho, resolve, invoke, builtin, Sem.run_bind, Sem.run_pure, Result.andThen_ok, List.map_toArray, List.map_cons, List.map_nil, hs, hx, hr']
 exact hK _ _ (h v' w' h2' h3)

set_option maxHeartbeats 1000000 in
set_option maxRecDepth 100000 in
theorem addLine_gen {B g n : Nat} {v : Value} {l J : List Int} {xs : List ByteArray} {w : World} (hv : Own B 5 w v l) (hB : B ≤ w.heap.size) (hc : ∀ (j : Nat) x, xs[j]? = some x → w.cell? ⟨g, 0 + j, none⟩ = some (.string x)) (hg : g < w.heap.size) (hn : xs.length = n) (hn3 : n ≤ 3)
  (hJ : (⟨(Lib.join (xs.map (·.data.toList)) [32]).toArray⟩ : ByteArray) = strOfNums J) (hJl : J.length ≤ 1000) (hJb : Byt J) (hl : l.length ≤ 100000) :
  Calls Tryz.prog 24 #[v, .slice (some ⟨g, 0, none⟩) n n] w fun e w' => ∃ v', e = .returned v' ∧ Own B 5 w' v' (l ++ J ++ [10]) ∧ Below B w w' := by
 have hlen : (Lib.join (xs.map (·.data.toList)) [32]).length ≤ 140737488355328 := by
  have h1 := congrArg ByteArray.size hJ
  rw [strOfNums_size] at h1
  have h2 : (⟨(Lib.join (xs.map (·.data.toList)) [32]).toArray⟩ : ByteArray).size = (Lib.join (xs.map (·.data.toList)) [32]).length := by show (Lib.join (xs.map (·.data.toList)) [32]).toArray.size = _; simp
  omega
 have PJ := Tryz.strings_Join g 0 n xs ⟨#[32]⟩ w hc hg (by omega) (by omega) hlen
 rw [show (⟨#[32]⟩ : ByteArray).data.toList = [32] from rfl, hJ, hn] at PJ
 replace PJ := UC PJ
 have HV := UC hv
 have HJB : Hid (∀ c ∈ J, 0 ≤ c ∧ c ≤ 255) := UC hJb
 clear hv hc hJ hlen hJb hn
 go_enter Tryz.func24, Tryz.ntmps24
 go_wp2_with fail
 refine (UB PJ).mono ?_
 rintro e w1 ⟨rfl, b1⟩
 have O1 := UC ((UB HV).below b1)
 have bb1 := b1.mono hB
 have z1 := bb1.size
 clear b1
 go_wp2_with (at_builtin; refine append_strL rfl _ _ 28 9 5 rfl Tryz.underlying28 Tryz.underlying9 VJ B v l J rfl rfl (UB HJB) (UB O1) (by omega) (by omega) ?_)
 intro v2 w2 o2 g2
 have bb2 := bb1.grown g2 (by omega) (fun q hq => ((UB O1).lt q hq).1)
 have z2 := bb2.size
 replace o2 := UC o2
 clear g2
 go_wp2_with (at_builtin; refine append_bytes rfl _ _ 28 5 rfl Tryz.underlying28 VJ B v2 _ (l ++ J) [10] rfl rfl ((UB o2).alloc _) (own_lit w2 0 5 [10] (Nat.zero_le _) (by simp [maxLen])).reads (by simp; omega) (by simp; omega) ?_)
 intro v3 w3 o3 g3
 have bb3 := (bb2.alloc (by omega) _).grown g3 (by simp; omega) (fun q hq => ((UB o2).lt q hq).1)
 replace o3 := UC o3
 clear g3
 go_wp2_with fail
 go_ret
 exact ⟨v3, rfl, by simpa only [List.append_assoc] using UB o3, bb3⟩
theorem addLine2 {B g : Nat} {v : Value} {l a b : List Int} {w : World} (hv : Own B 5 w v l) (hB : B ≤ w.heap.size) (hk : w.heap[g]? = some (.cells #[.string (strOfNums a), .string (strOfNums b)] 9)) (ha : a.length ≤ 400) (hb : b.length ≤ 400) (ha8 : Byt a) (hb8 : Byt b) (hl : l.length ≤ 100000) :
  Calls Tryz.prog 24 #[v, .slice (some ⟨g, 0, none⟩) 2 2] w fun e w' => ∃ v', e = .returned v' ∧ Own B 5 w' v' (l ++ (a ++ [32] ++ b) ++ [10]) ∧ Below B w w' :=
 addLine_gen (xs := [strOfNums a, strOfNums b]) hv hB (fun j x hj => by
  rw [Nat.zero_add]
  match j, hj with
  | 0, hj => cases hj; exact VE hk 0
  | 1, hj => cases hj; exact VE hk 1
  | j + 2, hj => simp at hj) (VC hk) rfl (by omega) (str_join2 a b) (by simp only [List.length_append, List.length_cons, List.length_nil]; omega) ((ha8.app (fun x hx => by have := List.mem_singleton.1 hx; omega)).app hb8) hl
theorem addLine3 {B g : Nat} {v : Value} {l a b c : List Int} {w : World} (hv : Own B 5 w v l) (hB : B ≤ w.heap.size) (hk : w.heap[g]? = some (.cells #[.string (strOfNums a), .string (strOfNums b), .string (strOfNums c)] 9)) (ha : a.length ≤ 200) (hb : b.length ≤ 200) (hc : c.length ≤ 200) (ha8 : Byt a) (hb8 : Byt b) (hc8 : Byt c) (hl : l.length ≤ 100000) :
  Calls Tryz.prog 24 #[v, .slice (some ⟨g, 0, none⟩) 3 3] w fun e w' => ∃ v', e = .returned v' ∧ Own B 5 w' v' (l ++ (a ++ [32] ++ b ++ [32] ++ c) ++ [10]) ∧ Below B w w' :=
 addLine_gen (xs := [strOfNums a, strOfNums b, strOfNums c]) hv hB (fun j x hj => by
  rw [Nat.zero_add]
  match j, hj with
  | 0, hj => cases hj; exact VE hk 0
  | 1, hj => cases hj; exact VE hk 1
  | 2, hj => cases hj; exact VE hk 2
  | j + 3, hj => simp at hj) (VC hk) rfl (by omega) (str_join3 a b c) (by simp only [List.length_append, List.length_cons, List.length_nil]; omega) ((((ha8.app (fun x hx => by have := List.mem_singleton.1 hx; omega)).app hb8).app (fun x hx => by have := List.mem_singleton.1 hx; omega)).app hc8) hl
set_option maxHeartbeats 400000 in
set_option maxRecDepth 100000 in
theorem copyBytes_reads {v : Value} {l : List Int} {w : World} (h : Reads w v l) (hl : l.length ≤ 2097152) :
  Calls Tryz.prog 124 #[v] w fun e w' => ∃ v', e = .returned v' ∧ Own w.heap.size 5 w' v' l ∧ Below w.heap.size w w' := by
 go_enter Tryz.func124, Tryz.ntmps124
 go_wp2_with (at_builtin; refine append_bytes rfl _ _ 28 5 rfl Tryz.underlying28 VJ w.heap.size (.slice none 0 0) v [] l rfl rfl (World.ownsRow_nil _ _ _ _) h ?c1 (Nat.le_refl _) ?_)
 case c1 => simp; omega
 intro v' w1 hown hgrow
 go_wp2
 go_ret
 exact ⟨v', rfl, hown, below_of_grown hgrow⟩

theorem copyBytes_own {B : Nat} {v : Value} {l : List Int} {w : World} (h : Own B 5 w v l) (hl : l.length ≤ 2097152) :
  Calls Tryz.prog 124 #[v] w fun e w' => ∃ v', e = .returned v' ∧ Own w.heap.size 5 w' v' l ∧ Below w.heap.size w w' := copyBytes_reads h.reads hl
set_option maxHeartbeats 400000
set_option maxRecDepth 100000

theorem upTo_yes {n m : Int} (w : World) (h0 : 0 ≤ n) (h1 : n ≤ m) : Calls Tryz.prog 96 #[.int .i64 n, .int .i64 m] w fun e w' => e = .returned (.bool true) ∧ w = w' := by
 go_enter Tryz.func96, Tryz.ntmps96
 go_wp2
 go_ret
 exact ⟨rfl, rfl⟩

theorem upTo_no {n m : Int} (w : World) (h : n < 0 ∨ m < n) : Calls Tryz.prog 96 #[.int .i64 n, .int .i64 m] w fun e w' => e = .returned (.bool false) ∧ w = w' := by
 by_cases h0 : n < 0
 ·go_enter Tryz.func96, Tryz.ntmps96
  go_wp2
  go_ret
  exact ⟨rfl, rfl⟩
 ·have h1 : m < n := by omega
  have h2 : decide (n ≤ m) = false := decide_eq_false (by omega)
  go_enter Tryz.func96, Tryz.ntmps96
  go_wp2
  go_ret
  exact ⟨rfl, rfl⟩
theorem upTo_any (n m : Int) (w : World) : Calls Tryz.prog 96 #[.int .i64 n, .int .i64 m] w fun e w' => e = .returned (.bool (decide (0 ≤ n ∧ n ≤ m))) ∧ w = w' := by
 by_cases h : 0 ≤ n ∧ n ≤ m
 ·rw [decide_eq_true h]; exact upTo_yes w h.1 h.2
 ·rw [decide_eq_false h]; exact upTo_no w (by omega)
set_option maxHeartbeats 800000
set_option maxRecDepth 100000

theorem implPut32_yes {B : Nat} {v : Value} {l : List Int} (n : Int) {w : World} (h : Own B 5 w v l) (hl : l.length ≤ 1048576) (h0 : 0 ≤ n) (h1 : n ≤ 4294967295) :
  Calls Tryz.prog 137 #[v, .int .i64 n] w fun e w' => ∃ v', e = .returned v' ∧ Own w.heap.size 5 w' v' (l ++ [n / 16777216, n / 65536 % 256, n / 256 % 256, n % 256]) ∧ Below w.heap.size w w' := by
 go_enter Tryz.func137, Tryz.ntmps137
 go_wp2_with fail
 refine (upTo_yes _ h0 h1).mono ?_
 rintro e w0 ⟨rfl, rfl⟩
 go_wp2_with fail
 refine (copyBytes_own h (by omega)).mono ?_
 rintro e w1 ⟨v1, rfl, o1, b1⟩
 have hsz := b1.size
 go_wp2_with (at_builtin; refine append_bytes rfl _ _ 28 5 rfl Tryz.underlying28 VJ w.heap.size v1 _ l [n / 16777216, n / 65536 % 256, n / 256 % 256, n % 256] rfl rfl (o1.alloc _) (own_put32 w1 0 5 n (Nat.zero_le _)).reads (by simp; omega) (by simp; omega) ?_)
 intro v' w2 hown hgrow
 go_wp2
 go_ret
 exact ⟨v', rfl, hown, (b1.alloc hsz _).grown hgrow (by simp; omega) (fun k hk => (o1.lt k hk).1)⟩

theorem implPut32_no {B : Nat} {v : Value} {l : List Int} (n : Int) {w : World} (h : Own B 5 w v l) (hl : l.length ≤ 1048576) (hn : n < 0 ∨ 4294967295 < n) :
  Calls Tryz.prog 137 #[v, .int .i64 n] w fun e w' => ∃ v', e = .returned v' ∧ Own w.heap.size 5 w' v' l ∧ Below w.heap.size w w' := by
 go_enter Tryz.func137, Tryz.ntmps137
 go_wp2_with fail
 refine (upTo_no _ hn).mono ?_
 rintro e w0 ⟨rfl, rfl⟩
 go_wp2_with fail
 refine (copyBytes_own h (by omega)).mono ?_
 rintro e w1 ⟨v1, rfl, o1, b1⟩
 go_wp2
 go_ret
 exact ⟨v1, rfl, o1, b1⟩

theorem implPut32_any {B : Nat} {v : Value} {l : List Int} (n : Int) {w : World} (h : Own B 5 w v l) (hl : l.length ≤ 1048576) :
  Calls Tryz.prog 137 #[v, .int .i64 n] w fun e w' => ∃ v', e = .returned v' ∧ Own w.heap.size 5 w' v' (put32 l n) ∧ Below w.heap.size w w' := by
 by_cases hn : 0 ≤ n ∧ n ≤ 4294967295
 ·have e : put32 l n = l ++ [n / 16777216, n / 65536 % 256, n / 256 % 256, n % 256] := by unfold put32; rw [if_pos hn]
  rw [e]; exact implPut32_yes n h hl hn.1 hn.2
 ·have e : put32 l n = l := by unfold put32; rw [if_neg hn]
  rw [e]; exact implPut32_no n h hl (by omega)
set_option maxHeartbeats 1000000
set_option maxRecDepth 100000

def Pow10 (w : World) : Prop := Lib.TabIs Tryz.prog w "internal/strconv.uint64pow10" .u64 Lib.pow10Tab

theorem Pow10.below {w w' : World} (h : Pow10 w) (hb : Below w.heap.size w w') : Pow10 w' := Lib.tabBelow_of_tabIs h w' hb

theorem appendInt_own {B : Nat} {v : Value} {l : List Int} (x : Int) {w : World} (h : Own B 5 w v l) (hl : l.length ≤ 1048576) (h0 : 0 ≤ x) (h1 : x ≤ 255) (hB : B ≤ w.heap.size) (ht : Lib.TabBelow Tryz.prog B w "internal/strconv.uint64pow10" .u64 Lib.pow10Tab) :
  Calls Tryz.prog 82 #[v, .int .i64 x, .int .i64 10] w fun e w' => ∃ v', e = .returned v' ∧ Own B 5 w' v' (l ++ digs x) ∧ Below B w w' := by
 refine (Tryz.strconv_AppendInt_10 B l.length x (by omega) (by omega) v (l.map (Value.int .u8)) w h hB (by omega) ht).mono ?_
 rintro e w' ⟨v', rfl, o, b, _⟩
 refine ⟨v', rfl, ?_, b⟩
 rw [cells_digs x h0, itoa_digs x h0] at o
 unfold Own
 rw [List.length_append, List.map_append]
 exact o

theorem implDotted_no (n : Int) (w : World) (hn : n < 0 ∨ 4294967295 < n) :
  Calls Tryz.prog 160 #[.int .i64 n] w fun e w' => e = .returned (.slice none 0 0) ∧ w = w' := by
 go_enter Tryz.func160, Tryz.ntmps160
 go_wp2_with fail
 refine (upTo_no _ hn).mono ?_
 rintro e w0 ⟨rfl, rfl⟩
 go_wp2
 go_ret
 exact ⟨rfl, rfl⟩

theorem own_dot (w : World) (B : Nat) (e : TypeId) (x : Int) (hB : B ≤ w.heap.size) : Own B e (w.alloc (.cells #[.int .u8 x] e)) (.slice (some ⟨w.heap.size, 0, none⟩) 1 1) [x] := own_lit w B e [x] hB (by simp [maxLen])

theorem implDotted_yes (n : Int) (w : World) (h0 : 0 ≤ n) (h1 : n ≤ 4294967295) (ht : Pow10 w) :
  Calls Tryz.prog 160 #[.int .i64 n] w fun e w' => ∃ v, e = .returned v ∧ Own w.heap.size 5 w' v (idot n 4) ∧ Below w.heap.size w w' := by
 have HT := UC ht
 clear ht
 go_enter Tryz.func160, Tryz.ntmps160
 go_wp2_with fail
 refine (upTo_yes _ h0 h1).mono ?_
 rintro e w0 ⟨rfl, rfl⟩
 go_wp2_with fail
 refine (implPut32_yes (B := 0) (v := .slice none 0 0) (l := []) n (World.ownsRow_nil _ _ _ _) (by simp) h0 h1).mono ?_
 rintro e w1 ⟨v1, rfl, o1, b1⟩
 rw [List.nil_append] at o1
 have ht1 := UC (Lib.tabBelow_of_tabIs ((UB HT).below b1))
 rcases o1.form with ⟨_, he⟩ | ⟨g, cap, rfl, hg0, hg, hcap, _, hc, _⟩
 ·simp at he
 have hc' : ∀ j, j < 4 → w1.cell? ⟨g, j, none⟩ = some (.int .u8 (part n j)) := fun j hj => hc j (by simpa using hj)
 have HC := UC hc'
 clear hc hc'
 simp only [List.length_cons, List.length_nil, Nat.zero_add, Nat.reduceAdd] at *
 go_wp2
 go_loopw [3, 12] (fun b i wr => ∃ j : Nat, j ≤ 4 ∧ i = .int .i64 j ∧ Own w1.heap.size 5 wr b (idot n j) ∧ Below w1.heap.size w1 wr) (fun _ i _ => 4 - (intOf i).toNat)
 case atStart => exact ⟨0, by omega, rfl, World.ownsRow_nil _ _ _ _, Below.refl _ _⟩
 case round =>
  obtain ⟨j, hj, rfl, ho, hb⟩ := hrel
  have hsz := hb.size
  by_cases hlt : j < 4
  ·have hcj := (hb.cell (p := ⟨g, j, none⟩) hg).trans (UB HC j hlt)
   have hpb := part_bd n j h0 h1
   have hidl := UC (idot_length n h0 h1 j)
   have hid : idot n (j + 1) = idot n j ++ (if 0 < j then [46] else []) ++ digs (part n j) := rfl
   have HID := UC hid
   clear hid
   generalize hpe : part n j = p at *
   have HPE := UC hpe
   clear hpe
   generalize hse : idot n j = S at *
   have HSE := UC hse
   clear hse
   by_cases hj0 : 0 < j
   ·go_wp2_with (at_builtin; refine append_bytes rfl _ _ 28 5 rfl Tryz.underlying28 VJ w1.heap.size u3 _ S [46] rfl rfl (ho.alloc _) (own_dot wr 0 5 _ (Nat.zero_le _)).reads (by have := UB hidl; simp; omega) (by simp; omega) ?_)
    intro v2 w2 o2 g2
    have b2 : Below w1.heap.size w1 w2 := (hb.alloc hsz _).grown g2 (by simp; omega) (fun k hk => (ho.lt k hk).1)
    clear g2
    have z2 := b2.size
    go_wp2_with fail
    refine (appendInt_own p o2 (by have := UB hidl; simp; omega) hpb.1 hpb.2 z2 ((UB ht1).on b2)).mono ?_
    rintro e w3 ⟨v3, rfl, o3, b3⟩
    go_wp2
    refine ⟨⟨j + 1, by omega, by go_num, ?_, b2.trans b3⟩, by simp [intOf]; omega⟩
    rw [UB HID, if_pos hj0]; exact o3
   ·go_wp2_with fail
    refine (appendInt_own p ho (by have := UB hidl; omega) hpb.1 hpb.2 hsz ((UB ht1).on hb)).mono ?_
    rintro e w3 ⟨v3, rfl, o3, b3⟩
    go_wp2
    refine ⟨⟨j + 1, by omega, by go_num, ?_, hb.trans b3⟩, by simp [intOf]; omega⟩
    rw [UB HID, if_neg hj0, List.append_nil]; exact o3
  ·obtain rfl : j = 4 := by omega
   go_wp2
   go_ret
   exact ⟨_, rfl, ho.mono b1.size, UG b1 hb⟩

theorem implDotted_any (n : Int) {w : World} (ht : Pow10 w) :
  Calls Tryz.prog 160 #[.int .i64 n] w fun e w' => ∃ v, e = .returned v ∧ Own w.heap.size 5 w' v (dotted n) ∧ Below w.heap.size w w' := by
 by_cases h : 0 ≤ n ∧ n ≤ 4294967295
 ·have e : dotted n = idot n 4 := by unfold dotted; rw [if_pos h]
  rw [e]; exact implDotted_yes n w h.1 h.2 ht
 ·have e : dotted n = [] := by unfold dotted; rw [if_neg h]
  rw [e]
  exact (implDotted_no n w (by omega)).mono fun e w' ⟨he, hw⟩ => ⟨_, he, by subst hw; exact World.ownsRow_nil _ _ _ _, hw ▸ Below.refl _ _⟩
set_option maxHeartbeats 400000
set_option maxRecDepth 100000

theorem sign_cases (c : Int) : (97 ≤ c ∧ c ≤ 122) ∨ (97 ≤ c ∧ 122 < c) ∨ (c < 97 ∧ 48 ≤ c ∧ c ≤ 57) ∨ (c < 97 ∧ 48 ≤ c ∧ 57 < c ∧ c ≠ 45) ∨ (c < 97 ∧ c < 48 ∧ c = 45) ∨ (c < 97 ∧ c < 48 ∧ c ≠ 45) := by omega

theorem labelSign_any (c : Int) (w : World) :
  Calls Tryz.prog 111 #[.int .u8 c] w fun e w' => e = .returned (.bool (signOk c)) ∧ w = w' := by
 rcases sign_cases c with ⟨h1, h2⟩ | ⟨h1, h2⟩ | ⟨h1, h2, h3⟩ | ⟨h1, h2, h3, h4⟩ | ⟨h1, h2, rfl⟩ | ⟨h1, h2, h3⟩
 ·have hs : signOk c = true := decide_eq_true (by omega)
  rw [hs]
  go_enter Tryz.func111, Tryz.ntmps111
  go_wp2
  go_ret
  exact ⟨rfl, rfl⟩
 ·have hs : signOk c = false := decide_eq_false (by omega)
  rw [hs]
  have h5 : 48 ≤ c := by omega
  have h6 : ¬ c ≤ 57 := by omega
  have h7 : ¬ c ≤ 122 := by omega
  have h8 : (c == 45) = false := by simp; omega
  go_enter Tryz.func111, Tryz.ntmps111
  go_wp2
  go_ret
  exact ⟨rfl, rfl⟩
 ·have hs : signOk c = true := decide_eq_true (by omega)
  rw [hs]
  have h5 : ¬ 97 ≤ c := by omega
  go_enter Tryz.func111, Tryz.ntmps111
  go_wp2
  go_ret
  exact ⟨rfl, rfl⟩
 ·have hs : signOk c = false := decide_eq_false (by omega)
  rw [hs]
  have h5 : ¬ 97 ≤ c := by omega
  have h6 : ¬ c ≤ 57 := by omega
  have h8 : (c == 45) = false := by simp; omega
  go_enter Tryz.func111, Tryz.ntmps111
  go_wp2
  go_ret
  exact ⟨rfl, rfl⟩
 ·have hs : signOk 45 = true := rfl
  rw [hs]
  go_enter Tryz.func111, Tryz.ntmps111
  go_wp2
  go_ret
  exact ⟨rfl, rfl⟩
 ·have hs : signOk c = false := decide_eq_false (by omega)
  rw [hs]
  have h5 : ¬ 97 ≤ c := by omega
  have h6 : ¬ 48 ≤ c := by omega
  have h8 : (c == 45) = false := by simp; omega
  go_enter Tryz.func111, Tryz.ntmps111
  go_wp2
  go_ret
  exact ⟨rfl, rfl⟩

theorem implLabelOk_has {v : Value} {l : List Int} {w : World} (h : Has w v l) :
  Calls Tryz.prog 80 #[v] w fun e w' => e = .returned (.bool (labelOk l)) ∧ w = w' := by
 have hbd := h.bound
 unfold maxLen at hbd
 obtain ⟨a, cap, rfl, hL⟩ := h.form
 by_cases h0 : l.length = 0
 ·rw [labelOk_short (by omega), h0]
  go_enter Tryz.func80, Tryz.ntmps80
  go_wp2
  go_ret
  exact ⟨rfl, rfl⟩
 ·by_cases h1 : 15 < l.length
  ·rw [labelOk_short (by omega)]
   generalize hn : l.length = n at *
   have h3 : ((n : Int) == 0) = false := by simp; omega
   go_enter Tryz.func80, Tryz.ntmps80
   go_wp2
   go_ret
   exact ⟨rfl, rfl⟩
  ·have h2 : l.length ≤ 15 := by omega
   have hyes := UC (fun (hs : ∀ j, j < l.length → signOk (l.getD j 0) = true) => labelOk_yes (l := l) (by omega) h2 hs)
   have hno := UC (fun (j : Nat) (hj : j < l.length) (hs : signOk (l.getD j 0) = false) => labelOk_sign hj hs)
   generalize hok : labelOk l = ok at *
   clear hok
   generalize hn : l.length = n at *
   have HN := UC hn
   clear hn
   have h3 : ((n : Int) == 0) = false := by simp; omega
   go_enter Tryz.func80, Tryz.ntmps80
   go_wp2
   go_loop [15] (fun i => ∃ k : Nat, k ≤ n ∧ i = .int .i64 k ∧ Hid (∀ j, j < k → signOk (l.getD j 0) = true)) (fun i => n - (intOf i).toNat)
   case atStart => exact ⟨0, Nat.zero_le _, rfl, UC (fun j hj => absurd hj (Nat.not_lt_zero _))⟩
   case round =>
    obtain ⟨k, hk, rfl, hall⟩ := hrel
    by_cases hlt : k < n
    ·obtain ⟨b, off, rfl, hbl, hc⟩ := hL.here (k := k) (by rw [UB HN]; exact hlt)
     have hone := UC (fun (hs : signOk (l.getD k 0) = true) => (show ∀ j, j < k + 1 → signOk (l.getD j 0) = true from fun j hj => by
      by_cases e : j = k
      ·subst e; exact hs
      ·exact UB hall j (by omega)))
     have hnok := UC (fun (hs : signOk (l.getD k 0) = false) => UB hno k hlt hs)
     generalize hx : l.getD k 0 = x at *
     go_wp2_with fail
     refine (labelSign_any x _).mono ?_
     rintro e w1 ⟨rfl, rfl⟩
     cases hs : signOk x with
     | true =>
      go_wp2
      exact ⟨⟨k + 1, by omega, by go_num, UC (UB hone hs)⟩, by simp [intOf]; omega⟩
     | false =>
      have hq := UB hnok hs
      subst hq
      go_wp2
      go_ret
      exact ⟨rfl, rfl⟩
    ·obtain rfl : k = n := by omega
     have hq := UB hyes (UB hall)
     subst hq
     go_wp2
     go_ret
     exact ⟨rfl, rfl⟩
set_option maxHeartbeats 400000 in
set_option maxRecDepth 100000 in
theorem VP {v : Value} {n : List (List Int)} {w : World} (h : HasL w v n) :
  Calls Tryz.prog 46 #[.agg #[v]] w fun e w' => e = .returned (.bool (nameOk n)) ∧ Below w.heap.size w w' := by
 obtain ⟨a, cap, rfl, hl, hm⟩ := h.form
 unfold maxLen at hm
 by_cases h1 : 6 < n.length
 ·rw [nameOk_long h1]
  have H := UC h
  clear h
  generalize hn : n.length = m at *
  have HN := UC hn
  clear hn
  go_enter Tryz.func46, Tryz.ntmps46
  go_wp2
  go_ret
  exact ⟨rfl, UI _⟩
 ·have h2 : n.length ≤ 6 := by omega
  have hA := h.below (UI (.cells #[.slice a n.length cap] 49))
  have H := UC h
  clear h
  have hyes := UC (fun (hs : ∀ j, j < n.length → labelOk (n.getD j []) = true) => nameOk_yes (n := n) h2 hs)
  have hno := UC (fun (j : Nat) (hj : j < n.length) (hs : labelOk (n.getD j []) = false) => nameOk_label hj hs)
  generalize hok : nameOk n = ok at *
  clear hok
  generalize hn : n.length = m at *
  have HN := UC hn
  clear hn
  go_enter Tryz.func46, Tryz.ntmps46
  go_wp2
  go_loop [12] (fun i => ∃ k : Nat, k ≤ m ∧ i = .int .i64 k ∧ Hid (∀ j, j < k → labelOk (n.getD j []) = true)) (fun i => m - (intOf i).toNat)
  case atStart => exact ⟨0, Nat.zero_le _, rfl, UC (fun j hj => absurd hj (Nat.not_lt_zero _))⟩
  case round =>
   obtain ⟨k, hk, rfl, hall⟩ := hrel
   by_cases hlt : k < m
   ·obtain ⟨b, off, u, rfl, hbl, hc, hu⟩ := hA.here (k := k) (by rw [UB HN]; exact hlt)
    have hone := UC (fun (hs : labelOk (n.getD k []) = true) => (show ∀ j, j < k + 1 → labelOk (n.getD j []) = true from fun j hj => by
      by_cases e : j = k
      ·subst e; exact hs
      ·exact UB hall j (by omega)))
    have hnok := UC (fun (hs : labelOk (n.getD k []) = false) => UB hno k hlt hs)
    generalize hx : n.getD k [] = x at *
    have HU := UC hu
    obtain ⟨ua, uc, rfl, _⟩ := hu.form
    clear hu
    go_wp2_with fail
    refine (implLabelOk_has (UB HU)).mono ?_
    rintro e w1 ⟨rfl, rfl⟩
    cases hs : labelOk x with
    | true =>
     go_wp2
     exact ⟨⟨k + 1, by omega, by go_num, UC (UB hone hs)⟩, by simp [intOf]; omega⟩
    | false =>
     have hq := UB hnok hs
     subst hq
     go_wp2
     go_ret
     exact ⟨rfl, UI _⟩
   ·obtain rfl : k = m := by omega
    have hq := UB hyes (UB hall)
    subst hq
    go_wp2
    go_ret
    exact ⟨rfl, UI _⟩
set_option maxHeartbeats 1000000 in
set_option maxRecDepth 100000 in
theorem implNameText_has {v : Value} {n : List (List Int)} {w : World} (h : HasL w v n) :
  Calls Tryz.prog 26 #[.agg #[v]] w fun e w' => ∃ v', e = .returned v' ∧ Own w.heap.size 5 w' v' (nameText n) ∧ Below w.heap.size w w' := by
 obtain ⟨a, cap, rfl, hl, hm⟩ := h.form
 unfold maxLen at hm
 have b0 := UI (w := w) (.cells #[.slice a n.length cap] 49)
 have k0 := heap_alloc_new w (.cells #[.slice a n.length cap] 49)
 have h0 := UC (h.below b0)
 clear h
 cases hok : nameOk n with
 | false =>
  rw [nameText_no hok]
  have HOK := UC hok
  clear hok
  go_enter Tryz.func26, Tryz.ntmps26
  go_wp2_with fail
  generalize w.alloc (.cells #[.slice a n.length cap] 49) = W0 at *
  refine (VP (UB h0)).mono ?_
  rw [UB HOK]
  rintro e w1 ⟨rfl, b1⟩
  have k1 := UE b1 k0
  have c1 := US k1
  have h1 := UC ((UB h0).below b1)
  have bb1 := UG b0 b1
  have z1 := VC k1
  clear b0 k0 h0 b1
  go_wp2_with fail
  go_ret
  exact ⟨_, rfl, World.ownsRow_nil _ _ _ _, bb1⟩
 | true =>
  have HOK := UC hok
  by_cases hn0 : n.length = 0
  ·rw [nameText_root hok hn0]
   clear hok
   obtain rfl : n = [] := List.eq_nil_of_length_eq_zero hn0
   simp only [List.length_nil] at *
   clear hn0
   go_enter Tryz.func26, Tryz.ntmps26
   go_wp2_with fail
   generalize w.alloc (.cells #[.slice a 0 cap] 49) = W0 at *
   refine (VP (UB h0)).mono ?_
   rw [UB HOK]
   rintro e w1 ⟨rfl, b1⟩
   have k1 := UE b1 k0
   have c1 := US k1
   have h1 := UC ((UB h0).below b1)
   have bb1 := UG b0 b1
   have z1 := VC k1
   clear b0 k0 h0 b1
   go_wp2
   go_ret
   exact ⟨_, rfl, own_lit w1 w.heap.size 5 [46] (by omega) (by simp [maxLen]), bb1.alloc bb1.size _⟩
  ·have hdl := dots_length n hok
   have h6 := (nameOk_parts hok).1
   have HDS := UC (dots_succ n)
   have HD0 := UC (dots_zero n)
   have HLEN := UC (show ∀ k, k < n.length → (n.getD k []).length ≤ 15 from fun k hk => (labelOk_length ((nameOk_parts hok).2 k hk)).2)
   rw [nameText_some hok hn0]
   clear hok
   have hn1 : ((n.length : Int) == 0) = false := by rw [beq_eq_false_iff_ne]; omega
   have HDL := UC hdl
   clear hdl
   generalize dots n = D at *
   go_enter Tryz.func26, Tryz.ntmps26
   go_wp2_with fail
   generalize w.alloc (.cells #[.slice a n.length cap] 49) = W0 at *
   refine (VP (UB h0)).mono ?_
   rw [UB HOK]
   rintro e w1 ⟨rfl, b1⟩
   have k1 := UE b1 k0
   have c1 := US k1
   have h1 := UC ((UB h0).below b1)
   have bb1 := UG b0 b1
   have z1 := VC k1
   clear b0 k0 h0 b1
   generalize hn : n.length = m at *
   have HN := UC hn
   clear hn
   have K1 := UC k1
   clear k1
   go_wp2
   go_loopw [3, 17] (fun o i wr => ∃ k : Nat, k ≤ m ∧ i = .int .i64 k ∧ Own w1.heap.size 5 wr o (D k) ∧ Below w1.heap.size w1 wr) (fun _ i _ => m - (intOf i).toNat)
   case atStart => exact ⟨0, Nat.zero_le _, rfl, by rw [UB HD0]; exact World.ownsRow_nil _ _ _ _, Below.refl _ _⟩
   case round =>
    obtain ⟨k, hk, rfl, ho, hb⟩ := hrel
    by_cases hlt : k < m
    ·obtain ⟨b, off, u, rfl, hbl, hc, hu⟩ := ((UB h1).below hb).here (k := k) (by rw [UB HN]; exact hlt)
     have hds := UC (UB HDS k hlt)
     have hlk := UB HLEN k hlt
     have hdk := UB HDL k
     generalize n.getD k [] = lab at *
     have HU := UC hu
     obtain ⟨ua, uc, rfl, _⟩ := hu.form
     clear hu
     have zb := hb.size
     go_wp2_with (at_builtin; refine append_bytes rfl _ _ 28 5 rfl Tryz.underlying28 VJ w1.heap.size _ (.slice ua lab.length uc) (D k) lab rfl rfl ho (UB HU).reads (by omega) zb ?_)
     intro v2 w2 o2 g2
     have z2 := g2.size
     have hb2 : Below w1.heap.size w1 w2 := hb.grown g2 zb (fun q hq => (ho.lt q hq).1)
     clear g2 ho hb
     go_wp2_with (at_builtin; refine append_bytes rfl _ _ 28 5 rfl Tryz.underlying28 VJ w1.heap.size v2 _ (D k ++ lab) [46] rfl rfl (o2.alloc _) (own_lit w2 0 5 [46] (Nat.zero_le _) (by simp [maxLen])).reads (by simp; omega) (by simp; omega) ?_)
     intro v3 w3 o3 g3
     have hb3 : Below w1.heap.size w1 w3 := (hb2.alloc hb2.size _).grown g3 (by simp; omega) (fun q hq => (o2.lt q hq).1)
     clear g3 o2 hb2
     go_wp2_with fail
     exact ⟨⟨k + 1, by omega, by go_num, by rw [UB hds, List.append_assoc]; exact o3, hb3⟩, by simp [intOf]; omega⟩
    ·obtain rfl : k = m := by omega
     go_wp2_with fail
     go_ret
     exact ⟨_, rfl, by rw [UB HN]; exact ho.mono (Nat.le_of_lt z1), UG bb1 hb⟩
end Go.Proofs.YtfpenlobnnlnfaaGreatDoor
