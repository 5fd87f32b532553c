/-
  The specification's l2text: a text that may be appended to. Contract of the specification's l3type. Contract of the specification's l3hex. A region that draws its order, with operations of effect that don't wait on each other: it is parted where one of two may come next; each part goes on in an order of its own. Contracts of the specification's LabelOk. Contracts of the specification's NameOk.
-/
import Derived.Test.YtfpenlobnnlnfaaGreatDoorMsgTextG27
import Derived.Test.YtfpenlobnnlnfaaGreatDoorMsgTextG12
import Derived.Test.YtfpenlobnnlnfaaGreatDoorMsgTextG11
import Derived.Test.YtfpenlobnnlnfaaGreatDoorMsgTextG04
import Derived.Test.YtfpenlobnnlnfaaGreatDoorMsgTextG20
import Derived.Test.YtfpenlobnnlnfaaGreatDoorMsgTextG18
import Derived.Test.YtfpenlobnnlnfaaGreatDoorMsgTextG03
import Derived.Test.YtfpenlobnnlnfaaGreatDoorMsgTextG00
namespace Go.Proofs.YtfpenlobnnlnfaaGreatDoor
open Go.RowKit
set_option linter.unusedVariables false

theorem app_const (w : World) (B : Nat) (e : TypeId) (l : List Int) (fz : Nat × Nat) (hm : l.length ≤ maxLen) (hB : B ≤ w.heap.size) :
  App B e (w.alloc (.cells (l.map (Value.int .u8)).toArray e fz)) (.slice (some ⟨w.heap.size, 0, none⟩) l.length l.length) l := by
 refine .inr ⟨_, rfl, hB, by show w.heap.size < (w.heap.push _).size; simp, fun j hj => ?_⟩
 rcases has_const w e l fz hm with ⟨h, _⟩ | ⟨g, off, cap, h, _, _, _, hc⟩
 ·cases h
 ·simp only [Value.slice.injEq, Option.some.injEq, Addr.mk.injEq] at h
  obtain ⟨⟨rfl, rfl, _⟩, _⟩ := h
  rw [Addr.add_lit]
  exact hc j hj

set_option maxHeartbeats 1000000 in
set_option maxRecDepth 100000 in
theorem l2text_rootA {a : Option Addr} {cap : Nat} {w : World} :
  Calls Tryz.prog 18 #[.agg #[.slice a 0 cap]] w fun e w' => ∃ v', e = .returned v' ∧ App w.heap.size 5 w' v' [46] ∧ Below w.heap.size w w' := by
 have hcid := fun (w : World) (C : Array Value) (n c : Nat) => Lib.run_convert_bytes_const (P := Tryz.prog) w 28 5 C n c Tryz.underlying28 Tryz.underlying5
 have b0 := UI (w := w) (.cells #[.slice a 0 cap] 49)
 have hz : (w.alloc (.cells #[.slice a 0 cap] 49)).heap.size = w.heap.size + 1 := by show (w.heap.push _).size = _; simp
 have hcid2 := fun (C : Array Value) (n c : Nat) => hcid (w.alloc (.cells #[.slice a 0 cap] 49)) C n c
 have hh := app_const (w.alloc (.cells #[.slice a 0 cap] 49)) w.heap.size 5 [46] (1, 2) (by simp [maxLen]) b0.size
 rw [hz] at hcid2 hh
 have HH := UC hh
 clear hcid hz hh
 go_enter Tryz.func18, Tryz.ntmps18
 go_wp2
 go_ret
 exact ⟨_, rfl, UB HH, b0.alloc b0.size _⟩

theorem l2text_app {v : Value} {n : List (List Int)} {w : World} (h : HasL w v n) (hok : nameOk n = true) :
  Calls Tryz.prog 18 #[.agg #[v]] w fun e w' => ∃ v', e = .returned v' ∧ App w.heap.size 5 w' v' (nameText n) ∧ Below w.heap.size w w' := by
 obtain ⟨a, cap, rfl, hl, hm⟩ := h.form
 by_cases hn0 : n.length = 0
 ·rw [nameText_root hok hn0, hn0]
  exact l2text_rootA
 ·rw [nameText_some hok hn0]
  exact (l2text_some h hok hn0).mono fun e w' ⟨v', he, ho, hb⟩ => ⟨v', he, .inl ho, hb⟩
set_option maxHeartbeats 400000
set_option maxRecDepth 100000

theorem l3type_1 {w : World} : Calls Tryz.prog 64 #[.int .i64 1] w fun e w' => e = .returned (.string (strOfNums [65])) ∧ w = w' := by
 go_enter Tryz.func64, Tryz.ntmps64
 go_wp2
 go_ret
 exact ⟨rfl, rfl⟩
theorem l3type_2 {w : World} : Calls Tryz.prog 64 #[.int .i64 2] w fun e w' => e = .returned (.string (strOfNums [78, 83])) ∧ w = w' := by
 go_enter Tryz.func64, Tryz.ntmps64
 go_wp2
 go_ret
 exact ⟨rfl, rfl⟩
theorem l3type_5 {w : World} : Calls Tryz.prog 64 #[.int .i64 5] w fun e w' => e = .returned (.string (strOfNums [67, 78, 65, 77, 69])) ∧ w = w' := by
 go_enter Tryz.func64, Tryz.ntmps64
 go_wp2
 go_ret
 exact ⟨rfl, rfl⟩
theorem l3type_6 {w : World} : Calls Tryz.prog 64 #[.int .i64 6] w fun e w' => e = .returned (.string (strOfNums [83, 79, 65])) ∧ w = w' := by
 go_enter Tryz.func64, Tryz.ntmps64
 go_wp2
 go_ret
 exact ⟨rfl, rfl⟩
theorem l3type_12 {w : World} : Calls Tryz.prog 64 #[.int .i64 12] w fun e w' => e = .returned (.string (strOfNums [80, 84, 82])) ∧ w = w' := by
 go_enter Tryz.func64, Tryz.ntmps64
 go_wp2
 go_ret
 exact ⟨rfl, rfl⟩
theorem l3type_16 {w : World} : Calls Tryz.prog 64 #[.int .i64 16] w fun e w' => e = .returned (.string (strOfNums [84, 88, 84])) ∧ w = w' := by
 go_enter Tryz.func64, Tryz.ntmps64
 go_wp2
 go_ret
 exact ⟨rfl, rfl⟩
theorem l3type_49 {w : World} : Calls Tryz.prog 64 #[.int .i64 49] w fun e w' => e = .returned (.string (strOfNums [68, 72, 67, 73, 68])) ∧ w = w' := by
 go_enter Tryz.func64, Tryz.ntmps64
 go_wp2
 go_ret
 exact ⟨rfl, rfl⟩
theorem l3type_is {t : Int} {w : World} (h : typeOk t = true) : Calls Tryz.prog 64 #[.int .i64 t] w fun e w' => e = .returned (.string (strOfNums (typeT t))) ∧ w = w' := by
 have ht : t = 1 ∨ t = 2 ∨ t = 5 ∨ t = 6 ∨ t = 12 ∨ t = 16 ∨ t = 49 := of_decide_eq_true h
 rcases ht with rfl | rfl | rfl | rfl | rfl | rfl | rfl
 ·exact l3type_1
 ·exact l3type_2
 ·exact l3type_5
 ·exact l3type_6
 ·exact l3type_12
 ·exact l3type_16
 ·exact l3type_49
set_option maxHeartbeats 1000000 in
set_option maxRecDepth 100000 in
theorem l3hex_has {a : Option Addr} {cap : Nat} {l : List Int} {w : World} (h : Has w (.slice a l.length cap) l) (hl : l.length ≤ 40) (h8 : Byt l) : Calls Tryz.prog 67 #[.slice a l.length cap] w fun e w' => ∃ v', e = .returned v' ∧ Own w.heap.size 5 w' v' (hexs l l.length) ∧ Below w.heap.size w w' := by
 have L0 := UC h
 have HB := UC (fun k (hk : k < l.length) => h8.at_ hk)
 have HL := UC (hexs_length l)
 have HZ := UC (hexs_zero l)
 have HS := UC (hexs_succ l)
 clear h h8
 generalize hexs l = G at *
 generalize hn : l.length = n at *
 have HN := UC hn
 clear hn
 go_enter Tryz.func67, Tryz.ntmps67
 go_wp2_with fail
 go_loopw [3, 4] (fun o i wr => ∃ k : Nat, k ≤ n ∧ i = .int .i64 k ∧ Own w.heap.size 5 wr o (G k) ∧ Below w.heap.size w wr) (fun _ i _ => n - (intOf i).toNat)
 case atStart => exact ⟨0, by omega, rfl, by rw [UB HZ]; exact World.ownsRow_nil _ _ _ _, Below.refl _ _⟩
 case round =>
  obtain ⟨k, hk, rfl, ho, hb⟩ := hrel
  by_cases hlt : k < n
  ·obtain ⟨g, off, cp, hv, hg, hc⟩ := hex_at ((UB L0).below hb) (UB HN) hlt
   simp only [Value.slice.injEq] at hv
   obtain ⟨rfl, _, rfl⟩ := hv
   have h8 := UB HB k hlt
   have hs := UC (UB HS k hlt)
   have hlk := UB HL k
   have zb := hb.size
   generalize l.getD k 0 = c at *
   have hand := and_15 h8.1 h8.2
   have HCC := UC (show wr.drew.cell? ⟨g, off + k, none⟩ = some (.int .u8 c) from hc)
   go_wp2_with fail
   refine startC [0, 1, 2, 3, 4, 5, 6, 7, 8, 9, 10, 11, 12, 13, 14, 15] (by kernel_rfl) ⟨by kernel_rfl, by kernel_rfl, by kernel_rfl, by kernel_rfl⟩ 4 [(4, fun w' => w'.cell? ⟨g, off + k, none⟩ = some (.int .u8 c)), (10, fun w' => w'.cell? ⟨g, off + k, none⟩ = some (.int .u8 c))] (fun hA => ?_)
   replace hA := UC hA
   repeat ((first | (refine VN ?_ (UB hA) rfl rfl rfl (by rfl) (fun _ _ _ h => h) ?_ ?_; rotate_left; · (intro w; go_simp <;> with_reducible rfl)) | refine VM (UB hA) rfl rfl (by rfl) (fun _ _ _ h => h) ?_); go_simp)
   refine takeC ?_ (UB hA) rfl rfl rfl (by rfl) (fun _ _ _ h => h) (.head _) (UB HCC) ?_ ?_; rotate_left; (· (intro w hSw; (try dsimp only at hSw); go_simp <;> with_reducible rfl)); go_simp
   repeat ((first | (refine VN ?_ (UB hA) rfl rfl rfl (by rfl) (fun _ _ _ h => h) ?_ ?_; rotate_left; · (intro w; go_simp <;> with_reducible rfl)) | refine VM (UB hA) rfl rfl (by rfl) (fun _ _ _ h => h) ?_); go_simp)
   refine VN (Value.int .u8 (hexD (c / 16))) (UB hA) rfl rfl rfl (by rfl) (fun _ _ _ h => h) (hex_index (c / 16) (by omega) (by omega) _ _ _ rfl (by first | rfl | (rw [← hand]; rfl)) rfl) ?_; go_simp
   repeat ((first | (refine VN ?_ (UB hA) rfl rfl rfl (by rfl) (fun _ _ _ h => h) ?_ ?_; rotate_left; · (intro w; go_simp <;> with_reducible rfl)) | refine VM (UB hA) rfl rfl (by rfl) (fun _ _ _ h => h) ?_); go_simp)
   refine takeC ?_ (UB hA) rfl rfl rfl (by rfl) (fun _ _ _ h => h) (.tail _ (.head _)) (UB HCC) ?_ ?_; rotate_left; (· (intro w hSw; (try dsimp only at hSw); go_simp <;> with_reducible rfl)); go_simp
   repeat ((first | (refine VN ?_ (UB hA) rfl rfl rfl (by rfl) (fun _ _ _ h => h) ?_ ?_; rotate_left; · (intro w; go_simp <;> with_reducible rfl)) | refine VM (UB hA) rfl rfl (by rfl) (fun _ _ _ h => h) ?_); go_simp)
   refine VN (Value.int .u8 (hexD (c % 16))) (UB hA) rfl rfl rfl (by rfl) (fun _ _ _ h => h) (hex_index (c % 16) (by omega) (by omega) _ _ _ rfl (by first | rfl | (rw [← hand]; rfl)) rfl) ?_; go_simp
   repeat ((first | (refine VN ?_ (UB hA) rfl rfl rfl (by rfl) (fun _ _ _ h => h) ?_ ?_; rotate_left; · (intro w; go_simp <;> with_reducible rfl)) | refine VM (UB hA) rfl rfl (by rfl) (fun _ _ _ h => h) ?_); go_simp)
   refine runC (UB hA) rfl rfl (by kernel_rfl) (by kernel_rfl) (fun K hK => ?_)
   have HK := UC hK
   clear hK
   go_simp
   refine (UB HK).out _ _ (VB (by kernel_rfl) (VB (by kernel_rfl) VL)) ?_
   clear HK K
   go_simp
   have O1 := UC ((ho.alloc (.cells #[.int .u8 (hexD (c / 16)), .int .u8 (hexD (c % 16))] 5)).below (UX (w := wr.alloc (.cells #[.int .u8 (hexD (c / 16)), .int .u8 (hexD (c % 16))] 5))))
   have R1 := UC ((own_lit wr 0 5 [hexD (c / 16), hexD (c % 16)] (Nat.zero_le _) (by simp [maxLen])).below (UX (w := wr.alloc (.cells #[.int .u8 (hexD (c / 16)), .int .u8 (hexD (c % 16))] 5)))).reads
   have b1 : Below w.heap.size w (wr.alloc (.cells #[.int .u8 (hexD (c / 16)), .int .u8 (hexD (c % 16))] 5)).drew := UG (hb.alloc zb _) UX
   have z1 := b1.size
   clear ho hb
   simp only [List.length_cons, List.length_nil, Nat.zero_add, Nat.reduceAdd] at R1
   generalize (wr.alloc (.cells #[.int .u8 (hexD (c / 16)), .int .u8 (hexD (c % 16))] 5)).drew = w1 at *
   refine runC (UB hA) rfl rfl (by kernel_rfl) (by kernel_rfl) (fun K hK => ?_)
   have HK := UC hK
   clear hK
   refine append_wp (.tmp 11) (.tmp 24) 28 5 rfl Tryz.underlying28 VJ w.heap.size u3 _ (G k) [hexD (c / 16), hexD (c % 16)] rfl rfl (UB O1) (UB R1) (by simp; omega) (by omega) ?_
   intro v2 w2 o2 g2
   have b2 : Below w.heap.size w w2 := b1.grown g2 (by omega) (fun q hq => by have := ((UB O1).lt q hq).1; omega)
   refine (UB HK).out _ _ (VB (by kernel_rfl) (VB (by kernel_rfl) VL)) ?_
   clear HK K
   go_simp
   repeat ((first | (refine VN ?_ (UB hA) rfl rfl rfl (by rfl) (fun _ _ _ h => h) ?_ ?_; rotate_left; · (intro w; go_simp <;> with_reducible rfl)) | refine VM (UB hA) rfl rfl (by rfl) (fun _ _ _ h => h) ?_); go_simp)
   refine doneC (UB hA) rfl ?_
   clear hA
   go_wp2_with fail
   exact ⟨⟨k + 1, by omega, by go_num, (by rw [UB hs]; exact o2), b2⟩, by simp [intOf]; omega⟩
  ·obtain rfl : k = n := by omega
   go_wp2_with fail
   go_ret
   exact ⟨_, rfl, ho, hb⟩
def ascD (md : Region.Mode) (ops : Array Oper) (E : List Nat) : List Nat → List Nat → Bool
 | _, [] => true
 | done, k :: rest => match ops[k]? with
  | some ok => ok.after.all (fun e => !Region.binds md e || memN e.on done) && (!memN k done && ((memN k E || rest.all (fun j => match ops[j]? with | some oj => waitsO md k oj || ok.apart ops oj | none => false)) && ascD md ops E (k :: done) rest))
  | none => false
structure OrdD (md : Region.Mode) (ops : Array Oper) (E : List Nat) (ord : List Nat) : Prop where
 sel : Region.noSelect ops = true
 len : Nat.beq ord.length ops.size = true
 all : (List.range ops.size).all (fun j => memN j ord) = true
 asc : ascD md ops E [] ord = true
theorem ascD_drop {md : Region.Mode} {ops : Array Oper} {E : List Nat} : ∀ (l done : List Nat) (i : Nat), ascD md ops E done l = true → ascD md ops E ((l.take i).reverse ++ done) (l.drop i) = true
 | l, done, 0, h => by simpa using h
 | [], done, i + 1, h => rfl
 | o :: l, done, i + 1, h => by
  unfold ascD at h
  split at h
  ·simp only [Bool.and_eq_true] at h
   have := ascD_drop l (o :: done) i h.2.2.2
   simpa using this
  ·cases h
section
variable {P : Program} {ops : Array Oper} {E ord : List Nat} {Q : Exit → Act → World → Prop} {md : Region.Mode} {cs : List (Nat × (World → Prop))} {f : Nat}
theorem OrdD.at_ (h : OrdD md ops E ord) {i k : Nat} {ok : Oper} {rest : List Nat} (hi : ord.drop i = k :: rest) (hk : ops[k]? = some ok) :
  (∀ e ∈ ok.after, Region.binds md e = true → e.on ∈ ord.take i) ∧ k ∉ ord.take i ∧ (memN k E = false → ∀ j ∈ rest, ∃ oj, ops[j]? = some oj ∧ ((∃ e ∈ oj.after, Region.binds md e = true ∧ e.on = k) ∨ ok.apart ops oj = true)) := by
 have h2 := ascD_drop ord [] i h.asc
 rw [hi, List.append_nil] at h2
 unfold ascD at h2
 rw [hk] at h2
 simp only [Bool.and_eq_true, Array.all_eq_true', Bool.or_eq_true, Bool.not_eq_true', List.all_eq_true] at h2
 obtain ⟨q1, q2, q3, _⟩ := h2
 refine ⟨fun e he hb => ?_, fun hm => ?_, fun hE j hj => ?_⟩
 ·rcases q1 e he with q | q
  ·rw [hb] at q; cases q
  ·simpa using memN_iff.1 q
 ·have := (memN_iff (k := k) (l := (ord.take i).reverse)).2 (by simpa using hm)
  rw [this] at q2
  cases q2
 ·rcases q3 with q3 | q3
  ·rw [hE] at q3; cases q3
  have := q3 j hj
  split at this
  ·rename_i oj hoj
   refine ⟨oj, hoj, ?_⟩
   rw [Bool.or_eq_true] at this
   rcases this with q | q
   ·obtain ⟨e, he, hb⟩ := Array.any_eq_true'.1 q
    simp only [Bool.and_eq_true] at hb
    exact .inl ⟨e, he, hb.1, Nat.eq_of_beq_eq_true hb.2⟩
   ·exact .inr q
  ·cases this
theorem OrdD.where_ (h : OrdD md ops E ord) {i k : Nat} {rest : List Nat} (hi : ord.drop i = k :: rest) {j : Nat} (hj : j < ops.size) : j ∈ ord.take i ∨ j = k ∨ j ∈ rest := by
 have h1 := h.all
 rw [List.all_eq_true] at h1
 have h2 := memN_iff.1 (h1 j (List.mem_range.2 hj))
 rw [← List.take_append_drop i ord, hi, List.mem_append, List.mem_cons] at h2
 exact h2
theorem OrdD.free (h : OrdD md ops E ord) {i k : Nat} {ok : Oper} {rest : List Nat} (hi : ord.drop i = k :: rest) (hk : ops[k]? = some ok) (hE : memN k E = false) : Region.free md ops (upO ord i ops.size) k = true := by
 unfold Region.free
 rw [hk]
 simp only [List.all_eq_true, List.mem_range, Bool.or_eq_true]
 intro j hj
 rcases h.where_ hi hj with q | q | q
 ·exact .inl (.inr (by rw [upO_get hj]; exact List.contains_iff_mem.2 q))
 ·exact .inl (.inl (by simpa using q))
 ·obtain ⟨oj, hoj, hd⟩ := (h.at_ hi hk).2.2 hE j q
  rw [hoj]
  refine .inr ?_
  simp only [Bool.or_eq_true]
  rcases hd with ⟨e, he, hb, hon⟩ | q
  ·exact .inl (Array.any_eq_true'.2 ⟨e, he, by rw [hb, hon]; simp⟩)
  ·exact .inr q
theorem OrdD.in_size (h : OrdD md ops E ord) {i : Nat} : ∀ k ∈ ord.take i, k < ops.size := by
 induction i with
 | zero => intro k hk; simp at hk
 | succ i ih =>
  intro k hk
  cases hd : ord.drop i with
  | nil =>
   have : ord.take (i + 1) = ord.take i := by
    have hl := congrArg List.length hd
    simp only [List.length_drop, List.length_nil] at hl
    rw [List.take_of_length_le (by omega), List.take_of_length_le (by omega)]
   rw [this] at hk
   exact ih k hk
  | cons k' rest =>
   rw [take_next hd, List.mem_append] at hk
   rcases hk with hk | hk
   ·exact ih k hk
   ·simp only [List.mem_cons, List.not_mem_nil, or_false] at hk
    subst hk
    have h2 := ascD_drop ord [] i h.asc
    rw [hd] at h2
    unfold ascD at h2
    split at h2
    ·rename_i ok hok; exact some_lt hok
    ·cases h2
theorem OrdD.ready (h : OrdD md ops E ord) {i k : Nat} {ok : Oper} {rest : List Nat} (hi : ord.drop i = k :: rest) (hk : ops[k]? = some ok) : k ∈ Region.ready md ops (upO ord i ops.size) := by
 obtain ⟨q1, q2, _⟩ := h.at_ hi hk
 exact ready_memO.2 ⟨some_lt hk, q2, fun oj hoj e he hb => by rw [hk] at hoj; cases hoj; exact ⟨q1 e he hb, h.in_size _ (q1 e he hb)⟩⟩
theorem OrdD.lt (h : OrdD md ops E ord) {i k : Nat} {rest : List Nat} (hi : ord.drop i = k :: rest) : i < ops.size := by
 have hl := congrArg List.length hi
 simp only [List.length_drop, List.length_cons] at hl
 have := Nat.eq_of_beq_eq_true h.len
 omega
theorem OrdD.shut (h : OrdD md ops E ord) (i : Nat) : ShutC md ops (upO ord i ops.size) := by
 intro j oj hoj hj e he hb
 rw [upO_get (some_lt hoj), List.contains_iff_mem] at hj
 obtain ⟨q, hq, hqj⟩ := List.getElem_of_mem hj
 have hqi : q < i := by rw [List.length_take] at hq; omega
 have hql : q < ord.length := by rw [List.length_take] at hq; omega
 have hd : ord.drop q = j :: ord.drop (q + 1) := by
  rw [List.drop_eq_getElem_cons hql]
  congr 1
  rw [List.getElem_take] at hqj
  exact hqj
 have h1 := (h.at_ hd hoj).1 e he hb
 have h2 : e.on ∈ ord.take i := List.mem_of_mem_take (i := q) (by rw [List.take_take, Nat.min_eq_left (by omega)]; exact h1)
 rw [upO_get (h.in_size _ h2)]
 exact List.contains_iff_mem.2 h2
theorem OrdD.among (h : OrdD md ops E ord) {i k : Nat} {rest : List Nat} (hi : ord.drop i = k :: rest) (alt : List Nat) (hs : soleO md ops (ord.take i) (rest.filter (fun j => !memN j alt)) = true) {j : Nat} (hj : j ∈ Region.ready md ops (upO ord i ops.size)) : j = k ∨ j ∈ alt := by
 obtain ⟨hj1, hj2, hj3⟩ := ready_memO.1 hj
 rcases h.where_ hi hj1 with q | q | q
 ·exact absurd q hj2
 ·exact .inl q
 ·by_cases ha : memN j alt = true
  ·exact .inr (memN_iff.1 ha)
  ·unfold soleO at hs
   rw [List.all_eq_true] at hs
   have h1 := hs j (List.mem_filter.2 ⟨q, by simpa using ha⟩)
   split at h1
   ·rename_i oj hoj
    obtain ⟨e, he, hb⟩ := Array.any_eq_true'.1 h1
    simp only [Bool.and_eq_true, Bool.not_eq_true'] at hb
    have h3 := (hj3 oj hoj e he hb.1).1
    have h4 := memN_iff.2 h3
    rw [hb.2] at h4
    cases h4
   ·cases h1
theorem startD {id : Nat} {a : Act} {w : World} (E ord : List Nat) (hm : P.follows .mixedOrders = true) (hA : OrdD .any ops E ord) (f : Nat) (cs : List (Nat × (World → Prop)))
  (h : OrdD .any ops E ord → wpC P .any ops ord Q f cs 0 a w.drew) : (Code.region id ops true).wp P Q a w := by
 refine wp_region_any hm ?_
 have := h hA
 unfold wpC at this
 rw [Nat.sub_zero, ← upO_zero] at this
 exact wpAny_of_kept _ _ _ _ this
theorem takeD (v : Value) {C : World → Prop} {i k : Nat} {oi : Oper} {rest : List Nat} {a : Act} {w : World} (hA : OrdD md ops E ord) (hi : ord.drop i = k :: rest) (hk : ops[k]? = some oi) (hE : memN k E = false)
  (hb : Region.wanted oi (yielded ops a.tmps) = true) (hQ : ∀ c a w, Q (.panic c) (a.put oi.dst v) w → Q (.panic c) a w)
  (hm : (k, C) ∈ cs) (hS : C w) (hy : ∀ w, C w → (execOp a.eval oi).run P w = .ok (.value v) w) (h : wpC P md ops ord Q f cs (i + 1) (a.put oi.dst v) w) : wpC P md ops ord Q f cs i a w := by
 have hin := hA.lt hi
 unfold wpC at *
 obtain ⟨n, hf⟩ : ∃ n, ops.size - i = n + 1 := ⟨ops.size - (i + 1), by omega⟩
 rw [show ops.size - (i + 1) = n by omega, ← upO_set hi (some_lt hk)] at h
 rw [hf]
 exact wpAnyC_first (C := C) hk (Region.noSelect_spec hA.sel) hQ (fun j w w' hl hK hw => hK _ hm hl hw) n _ a w (Region.free_spec hk (hA.free hi hk hE)) (hA.shut i) (hA.ready hi hk) (Or.inl ⟨hb, hy⟩) hS h
theorem lookD (v : Value) {i k : Nat} {oi : Oper} {rest : List Nat} {a : Act} {w : World} (hA : OrdD md ops E ord) (hi : ord.drop i = k :: rest) (hk : ops[k]? = some oi) (hE : memN k E = false)
  (hb : Region.wanted oi (yielded ops a.tmps) = true) (hQ : ∀ c a w, Q (.panic c) (a.put oi.dst v) w → Q (.panic c) a w)
  (hy : ∀ w, (execOp a.eval oi).run P w = .ok (.value v) w) (h : wpC P md ops ord Q f cs (i + 1) (a.put oi.dst v) w) : wpC P md ops ord Q f cs i a w := by
 have hin := hA.lt hi
 unfold wpC at *
 obtain ⟨n, hf⟩ : ∃ n, ops.size - i = n + 1 := ⟨ops.size - (i + 1), by omega⟩
 rw [show ops.size - (i + 1) = n by omega, ← upO_set hi (some_lt hk)] at h
 rw [hf]
 exact wpAnyC_first (C := fun _ => True) hk (Region.noSelect_spec hA.sel) hQ (fun _ _ _ _ _ _ => trivial) n _ a w (Region.free_spec hk (hA.free hi hk hE)) (hA.shut i) (hA.ready hi hk) (Or.inl ⟨hb, fun w _ => hy w⟩) trivial h
theorem runD {i k : Nat} {oi : Oper} {rest : List Nat} {a : Act} {w : World} (hA : OrdD md ops E ord) (hi : ord.drop i = k :: rest) (hk : ops[k]? = some oi) (hs : soleO md ops (ord.take i) rest = true)
  (hb : Region.wanted oi (yielded ops a.tmps) = true)
  (h : ∀ K' : Act → World → Prop, Shut (∀ a' w', KeepC md ops f cs k w w' → wpC P md ops ord Q f cs (i + 1) a' w' → K' a' w') → Oper.wp P oi a w K' Q) : wpC P md ops ord Q f cs i a w := by
 have hin := hA.lt hi
 unfold wpC at *
 obtain ⟨n, hf⟩ : ∃ n, ops.size - i = n + 1 := ⟨ops.size - (i + 1), by omega⟩
 rw [show ops.size - (i + 1) = n by omega, ← upO_set hi (some_lt hk)] at h
 rw [hf]
 refine ⟨fun h0 => absurd (hA.ready hi hk) (by rw [h0]; simp), fun j hj => ?_⟩
 obtain rfl : j = k := by
  rcases hA.among hi [] (by rw [show rest.filter (fun j => !memN j []) = rest from List.filter_eq_self.2 (fun _ _ => rfl)]; exact hs) hj with q | q
  ·exact q
  ·cases q
 refine wpOp_step hk (fun K' hK => ?_)
 rw [if_pos hb]
 exact h K' (fun a' w' h1 h2 => hK a' w' ⟨h1, h2⟩)
theorem forkD {i k k2 : Nat} {oi o2 : Oper} {rest rest2 : List Nat} {a : Act} {w : World} (ord2 : List Nat) (hA : OrdD md ops E ord) (hi : ord.drop i = k :: rest) (hk : ops[k]? = some oi)
  (hA2 : OrdD md ops E ord2) (ht : ord2.take i = ord.take i) (hi2 : ord2.drop i = k2 :: rest2) (hk2 : ops[k2]? = some o2) (hs : soleO md ops (ord.take i) (rest.filter (fun j => !memN j [k2])) = true)
  (hb : Region.wanted oi (yielded ops a.tmps) = true) (hb2 : Region.wanted o2 (yielded ops a.tmps) = true)
  (h : ∀ K' : Act → World → Prop, Shut (∀ a' w', KeepC md ops f cs k w w' → wpC P md ops ord Q f cs (i + 1) a' w' → K' a' w') → Oper.wp P oi a w K' Q)
  (h2 : OrdD md ops E ord2 → ∀ K' : Act → World → Prop, Shut (∀ a' w', KeepC md ops f cs k2 w w' → wpC P md ops ord2 Q f cs (i + 1) a' w' → K' a' w') → Oper.wp P o2 a w K' Q) : wpC P md ops ord Q f cs i a w := by
 have hin := hA.lt hi
 have hup : upO ord2 i ops.size = upO ord i ops.size := by unfold upO; rw [ht]
 replace h2 := h2 hA2
 unfold wpC at *
 obtain ⟨n, hf⟩ : ∃ n, ops.size - i = n + 1 := ⟨ops.size - (i + 1), by omega⟩
 rw [show ops.size - (i + 1) = n by omega, ← upO_set hi (some_lt hk)] at h
 rw [show ops.size - (i + 1) = n by omega, ← upO_set hi2 (some_lt hk2), hup] at h2
 rw [hf]
 refine ⟨fun h0 => absurd (hA.ready hi hk) (by rw [h0]; simp), fun j hj => ?_⟩
 rcases hA.among hi [k2] hs hj with rfl | q
 ·refine wpOp_step hk (fun K' hK => ?_)
  rw [if_pos hb]
  exact h K' (fun a' w' h1 h2 => hK a' w' ⟨h1, h2⟩)
 ·obtain rfl := List.mem_singleton.1 q
  refine wpOp_step hk2 (fun K' hK => ?_)
  rw [if_pos hb2]
  exact h2 K' (fun a' w' h1 h2 => hK a' w' ⟨h1, h2⟩)
theorem fork3D {i k k2 k3 : Nat} {oi o2 o3 : Oper} {rest rest2 rest3 : List Nat} {a : Act} {w : World} (ord2 ord3 : List Nat) (hA : OrdD md ops E ord) (hi : ord.drop i = k :: rest) (hk : ops[k]? = some oi)
  (hA2 : OrdD md ops E ord2) (ht : ord2.take i = ord.take i) (hi2 : ord2.drop i = k2 :: rest2) (hk2 : ops[k2]? = some o2)
  (hA3 : OrdD md ops E ord3) (ht3 : ord3.take i = ord.take i) (hi3 : ord3.drop i = k3 :: rest3) (hk3 : ops[k3]? = some o3) (hs : soleO md ops (ord.take i) (rest.filter (fun j => !memN j [k2, k3])) = true)
  (hb : Region.wanted oi (yielded ops a.tmps) = true) (hb2 : Region.wanted o2 (yielded ops a.tmps) = true) (hb3 : Region.wanted o3 (yielded ops a.tmps) = true)
  (h : ∀ K' : Act → World → Prop, Shut (∀ a' w', KeepC md ops f cs k w w' → wpC P md ops ord Q f cs (i + 1) a' w' → K' a' w') → Oper.wp P oi a w K' Q)
  (h2 : OrdD md ops E ord2 → ∀ K' : Act → World → Prop, Shut (∀ a' w', KeepC md ops f cs k2 w w' → wpC P md ops ord2 Q f cs (i + 1) a' w' → K' a' w') → Oper.wp P o2 a w K' Q)
  (h3 : OrdD md ops E ord3 → ∀ K' : Act → World → Prop, Shut (∀ a' w', KeepC md ops f cs k3 w w' → wpC P md ops ord3 Q f cs (i + 1) a' w' → K' a' w') → Oper.wp P o3 a w K' Q) : wpC P md ops ord Q f cs i a w := by
 have hin := hA.lt hi
 have hup : upO ord2 i ops.size = upO ord i ops.size := by unfold upO; rw [ht]
 have hup3 : upO ord3 i ops.size = upO ord i ops.size := by unfold upO; rw [ht3]
 replace h2 := h2 hA2
 replace h3 := h3 hA3
 unfold wpC at *
 obtain ⟨n, hf⟩ : ∃ n, ops.size - i = n + 1 := ⟨ops.size - (i + 1), by omega⟩
 rw [show ops.size - (i + 1) = n by omega, ← upO_set hi (some_lt hk)] at h
 rw [show ops.size - (i + 1) = n by omega, ← upO_set hi2 (some_lt hk2), hup] at h2
 rw [show ops.size - (i + 1) = n by omega, ← upO_set hi3 (some_lt hk3), hup3] at h3
 rw [hf]
 refine ⟨fun h0 => absurd (hA.ready hi hk) (by rw [h0]; simp), fun j hj => ?_⟩
 rcases hA.among hi [k2, k3] hs hj with rfl | q
 ·refine wpOp_step hk (fun K' hK => ?_)
  rw [if_pos hb]
  exact h K' (fun a' w' h1 h2 => hK a' w' ⟨h1, h2⟩)
 ·simp only [List.mem_cons, List.not_mem_nil, or_false] at q
  rcases q with rfl | rfl
  ·refine wpOp_step hk2 (fun K' hK => ?_)
   rw [if_pos hb2]
   exact h2 K' (fun a' w' h1 h2 => hK a' w' ⟨h1, h2⟩)
  ·refine wpOp_step hk3 (fun K' hK => ?_)
   rw [if_pos hb3]
   exact h3 K' (fun a' w' h1 h2 => hK a' w' ⟨h1, h2⟩)
theorem doneD {i : Nat} {a : Act} {w : World} (hA : OrdD md ops E ord) (hn : ord.drop i = []) (h : Q .normal a w) : wpC P md ops ord Q f cs i a w := by
 have hl : ord.take i = ord := by
  have := List.take_append_drop i ord
  rwa [hn, List.append_nil] at this
 refine wpAnyC_done ?_ h
 have h1 := hA.all
 rw [List.all_eq_true] at h1
 unfold Region.ready
 rw [List.filter_eq_nil_iff]
 intro j hj
 rw [upO_get (List.mem_range.1 hj), hl, List.contains_iff_mem.2 (memN_iff.1 (h1 j hj))]
 simp
end
theorem ssign_cases (c : Int) : (97 ≤ c ∧ c ≤ 122) ∨ (97 ≤ c ∧ 122 < c) ∨ (c < 97 ∧ 48 ≤ c ∧ c ≤ 57) ∨ (c < 97 ∧ 48 ≤ c ∧ 57 < c ∧ c ≠ 45) ∨ (c < 97 ∧ c < 48 ∧ c = 45) ∨ (c < 97 ∧ c < 48 ∧ c ≠ 45) := by omega

set_option maxHeartbeats 1600000 in
set_option maxRecDepth 100000 in
theorem specLabelOk_has {v : Value} {l : List Int} {w : World} (h : Has w v l) :
  Calls Tryz.prog 89 #[v] w fun e w' => e = .returned (.bool (labelOk l)) ∧ w = w' := by
 have hbd := h.bound
 unfold maxLen at hbd
 obtain ⟨a, cap, rfl, hL⟩ := h.form
 by_cases h0 : l.length = 0
 ·rw [labelOk_short (by omega), h0]
  go_enter Tryz.func89, Tryz.ntmps89
  go_wp2
  go_ret
  exact ⟨rfl, rfl⟩
 ·by_cases h1 : 15 < l.length
  ·rw [labelOk_short (by omega)]
   generalize hn : l.length = n at *
   go_enter Tryz.func89, Tryz.ntmps89
   go_wp2
   go_ret
   exact ⟨rfl, rfl⟩
  ·have h2 : l.length ≤ 15 := by omega
   have hyes := UC (fun (hs : ∀ j, j < l.length → signOk (l.getD j 0) = true) => labelOk_yes (l := l) (by omega) h2 hs)
   have hno := UC (fun (j : Nat) (hj : j < l.length) (hs : signOk (l.getD j 0) = false) => labelOk_sign hj hs)
   generalize hok : labelOk l = ok at *
   clear hok
   generalize hn : l.length = n at *
   have HN := UC hn
   clear hn
   have hn1 : (1 : Int) ≤ n := by omega
   go_enter Tryz.func89, Tryz.ntmps89
   go_wp2
   go_loop [3] (fun i => ∃ k : Nat, k ≤ n ∧ i = .int .i64 k ∧ Hid (∀ j, j < k → signOk (l.getD j 0) = true)) (fun i => n - (intOf i).toNat)
   case atStart => exact ⟨0, Nat.zero_le _, rfl, UC (fun j hj => absurd hj (Nat.not_lt_zero _))⟩
   case round =>
    obtain ⟨k, hk, rfl, hall⟩ := hrel
    by_cases hlt : k < n
    ·obtain ⟨b, off, rfl, hbl, hc⟩ := hL.here (k := k) (by rw [UB HN]; exact hlt)
     have hone := UC (fun (hs : signOk (l.getD k 0) = true) => (show ∀ j, j < k + 1 → signOk (l.getD j 0) = true from fun j hj => by
      by_cases e : j = k
      ·subst e; exact hs
      ·exact UB hall j (by omega)))
     have hnok := UC (fun (hs : signOk (l.getD k 0) = false) => UB hno k hlt hs)
     generalize hx : l.getD k 0 = x at *
     rcases ssign_cases x with ⟨h1, h2⟩ | ⟨h1, h2⟩ | ⟨h1, h2, h3⟩ | ⟨h1, h2, h3, h4⟩ | ⟨h1, h2, rfl⟩ | ⟨h1, h2, h3⟩
     ·have hs : signOk x = true := decide_eq_true (by omega)
      go_wp2
      exact ⟨⟨k + 1, by omega, by go_num, UC (UB hone hs)⟩, by simp [intOf]; omega⟩
     ·have hs : signOk x = false := decide_eq_false (by omega)
      have hq := UB hnok hs
      subst hq
      have h8 : (x == 45) = false := by simp; omega
      have h5 : 48 ≤ x := by omega
      have h6 : ¬ x ≤ 57 := by omega
      have h7 : ¬ x ≤ 122 := by omega
      go_wp2
      go_ret
      exact ⟨rfl, rfl⟩
     ·have hs : signOk x = true := decide_eq_true (by omega)
      have h5 : ¬ 97 ≤ x := by omega
      go_wp2
      exact ⟨⟨k + 1, by omega, by go_num, UC (UB hone hs)⟩, by simp [intOf]; omega⟩
     ·have hs : signOk x = false := decide_eq_false (by omega)
      have hq := UB hnok hs
      subst hq
      have h8 : (x == 45) = false := by simp; omega
      have h5 : ¬ 97 ≤ x := by omega
      have h6 : ¬ x ≤ 57 := by omega
      go_wp2
      go_ret
      exact ⟨rfl, rfl⟩
     ·have hs : signOk 45 = true := rfl
      go_wp2
      exact ⟨⟨k + 1, by omega, by go_num, UC (UB hone hs)⟩, by simp [intOf]; omega⟩
     ·have hs : signOk x = false := decide_eq_false (by omega)
      have hq := UB hnok hs
      subst hq
      have h8 : (x == 45) = false := by simp; omega
      have h5 : ¬ 97 ≤ x := by omega
      have h6 : ¬ 48 ≤ x := by omega
      go_wp2
      go_ret
      exact ⟨rfl, rfl⟩
    ·obtain rfl : k = n := by omega
     have hq := UB hyes (UB hall)
     subst hq
     go_wp2
     go_ret
     exact ⟨rfl, rfl⟩
set_option maxHeartbeats 400000 in
set_option maxRecDepth 100000 in
theorem VO {v : Value} {n : List (List Int)} {w : World} (h : HasL w v n) :
  Calls Tryz.prog 56 #[.agg #[v]] w fun e w' => e = .returned (.bool (nameOk n)) ∧ Below w.heap.size w w' := by
 obtain ⟨a, cap, rfl, hl, hm⟩ := h.form
 unfold maxLen at hm
 by_cases h1 : 6 < n.length
 ·rw [nameOk_long h1]
  have H := UC h
  clear h
  generalize hn : n.length = m at *
  have HN := UC hn
  clear hn
  go_enter Tryz.func56, Tryz.ntmps56
  go_wp2
  go_ret
  exact ⟨rfl, UI _⟩
 ·have h2 : n.length ≤ 6 := by omega
  have hA := h.below (UI (.cells #[.slice a n.length cap] 49))
  have H := UC h
  clear h
  have hyes := UC (fun (hs : ∀ j, j < n.length → labelOk (n.getD j []) = true) => nameOk_yes (n := n) h2 hs)
  have hno := UC (fun (j : Nat) (hj : j < n.length) (hs : labelOk (n.getD j []) = false) => nameOk_label hj hs)
  generalize hok : nameOk n = ok at *
  clear hok
  generalize hn : n.length = m at *
  have HN := UC hn
  clear hn
  go_enter Tryz.func56, Tryz.ntmps56
  go_wp2
  go_loop [3] (fun i => ∃ k : Nat, k ≤ m ∧ i = .int .i64 k ∧ Hid (∀ j, j < k → labelOk (n.getD j []) = true)) (fun i => m - (intOf i).toNat)
  case atStart => exact ⟨0, Nat.zero_le _, rfl, UC (fun j hj => absurd hj (Nat.not_lt_zero _))⟩
  case round =>
   obtain ⟨k, hk, rfl, hall⟩ := hrel
   by_cases hlt : k < m
   ·obtain ⟨b, off, u, rfl, hbl, hc, hu⟩ := hA.here (k := k) (by rw [UB HN]; exact hlt)
    have hone := UC (fun (hs : labelOk (n.getD k []) = true) => (show ∀ j, j < k + 1 → labelOk (n.getD j []) = true from fun j hj => by
      by_cases e : j = k
      ·subst e; exact hs
      ·exact UB hall j (by omega)))
    have hnok := UC (fun (hs : labelOk (n.getD k []) = false) => UB hno k hlt hs)
    generalize hx : n.getD k [] = x at *
    have HU := UC hu
    obtain ⟨ua, uc, rfl, _⟩ := hu.form
    clear hu
    go_wp2_with fail
    refine (specLabelOk_has (UB HU)).mono ?_
    rintro e w1 ⟨rfl, rfl⟩
    cases hs : labelOk x with
    | true =>
     go_wp2
     exact ⟨⟨k + 1, by omega, by go_num, UC (UB hone hs)⟩, by simp [intOf]; omega⟩
    | false =>
     have hq := UB hnok hs
     subst hq
     go_wp2
     go_ret
     exact ⟨rfl, UI _⟩
   ·obtain rfl : k = m := by omega
    have hq := UB hyes (UB hall)
    subst hq
    go_wp2
    go_ret
    exact ⟨rfl, UI _⟩
end Go.Proofs.YtfpenlobnnlnfaaGreatDoor
