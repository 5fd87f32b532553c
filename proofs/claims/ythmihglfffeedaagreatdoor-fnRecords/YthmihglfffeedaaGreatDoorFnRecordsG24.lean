/-
  The laws' sameRrs at two lists of one record each, the same. What DataGet and RrGet read, in plain words. Plain facts: records that are read, as answers. What classGet (l3read) and RrGet read, in plain words; and how they answer.
-/
import Derived.Test.YthmihglfffeedaaGreatDoorFnRecordsG22
import Derived.Test.YthmihglfffeedaaGreatDoorFnRecordsG23
import Derived.Test.YthmihglfffeedaaGreatDoorFnRecordsG05
import Derived.Test.YthmihglfffeedaaGreatDoorFnRecordsG08
import Derived.Test.YthmihglfffeedaaGreatDoorFnRecordsG04
import Derived.Test.YthmihglfffeedaaGreatDoorFnRecordsG03
namespace Go.Proofs.YthmihglfffeedaaGreatDoor
open Go.RowKit
set_option linter.unusedVariables false

set_option maxHeartbeats 2000000 in
set_option maxRecDepth 100000 in
theorem sameRrs_one {g1 g2 : Nat} {pn : Option Addr} {cpn : Nat} {pt : Option Addr} {cpt : Nat} {px : Option Addr} {cpx : Nat} {pi : Option Addr} {cpi : Nat} {qn : Option Addr} {cqn : Nat} {qt : Option Addr} {cqt : Nat} {qx : Option Addr} {cqx : Nat} {qi : Option Addr} {cqi : Nat} {r : Rec} {w : World} (k1 : w.heap[g1]? = some (.cells #[.slice pn r.name.length cpn, .int .i64 r.type, .int .i64 r.ttl, .int .i64 r.addr, .slice pt r.to.length cpt, .slice px r.text.length cpx, .slice pi r.nums.length cpi] 28)) (k2 : w.heap[g2]? = some (.cells #[.slice qn r.name.length cqn, .int .i64 r.type, .int .i64 r.ttl, .int .i64 r.addr, .slice qt r.to.length cqt, .slice qx r.text.length cqx, .slice qi r.nums.length cqi] 28)) (h1 : HasR w (.slice pn r.name.length cpn) (.slice pt r.to.length cpt) (.slice px r.text.length cpx) (.slice pi r.nums.length cpi) r) (h2 : HasR w (.slice qn r.name.length cqn) (.slice qt r.to.length cqt) (.slice qx r.text.length cqx) (.slice qi r.nums.length cqi) r) (hs : rrSame r r = true) :
  Calls Tryz.prog 12 #[.slice (some ⟨g1, 0, none⟩) 1 1, .slice (some ⟨g2, 0, none⟩) 1 1] w fun e w' => e = .returned (.bool true) ∧ Below w.heap.size w w' := by
 have HS := UC (show ∀ w1 : World, HasR w1 (.slice pn r.name.length cpn) (.slice pt r.to.length cpt) (.slice px r.text.length cpx) (.slice pi r.nums.length cpi) r → HasR w1 (.slice qn r.name.length cqn) (.slice qt r.to.length cqt) (.slice qx r.text.length cqx) (.slice qi r.nums.length cqi) r → Calls Tryz.prog 36 #[.agg #[.slice pn r.name.length cpn, .int .i64 r.type, .int .i64 r.ttl, .int .i64 r.addr, .slice pt r.to.length cpt, .slice px r.text.length cpx, .slice pi r.nums.length cpi], .agg #[.slice qn r.name.length cqn, .int .i64 r.type, .int .i64 r.ttl, .int .i64 r.addr, .slice qt r.to.length cqt, .slice qx r.text.length cqx, .slice qi r.nums.length cqi]] w1 fun e w' => e = .returned (.bool true) ∧ Below w1.heap.size w1 w' from fun w1 ha hb => by
  have := specRrSame_has ha hb
  rwa [hs] at this)
 have K1 := UC k1
 have K2 := UC k2
 have F1 := UC h1
 have F2 := UC h2
 clear k1 k2 h1 h2 hs
 go_enter Tryz.func12, Tryz.ntmps12
 go_wp2_with fail
 go_loopw [5] (fun i wr => ∃ k : Nat, k ≤ 1 ∧ i = .int .i64 k ∧ Below w.heap.size w wr) (fun i _ => 1 - (intOf i).toNat)
 case atStart => exact ⟨0, by omega, rfl, Below.refl _ _⟩
 case round =>
  obtain ⟨k, hk, rfl, hb⟩ := hrel
  by_cases e0 : k = 0
  ·subst e0
   have bb := UG hb (UX (w := wr))
   have KA := UC (UE bb (UB K1))
   have KB := UC (UE bb (UB K2))
   have FA := UC ((UB F1).below bb)
   have FB := UC ((UB F2).below bb)
   go_wp2_with fail
   refine startC [0, 1, 2, 3, 4, 5, 6, 7, 8, 9, 10, 11, 12, 13, 14, 15, 16, 17, 18, 19, 20, 21, 22] (by kernel_rfl) ⟨by kernel_rfl, by kernel_rfl, by kernel_rfl, by kernel_rfl⟩ 12 [(3, fun w' => w'.cell? ⟨g1, 0, none⟩ = some (.slice pn r.name.length cpn) ∧ w'.cell? ⟨g1, 1, none⟩ = some (.int .i64 r.type) ∧ w'.cell? ⟨g1, 2, none⟩ = some (.int .i64 r.ttl) ∧ w'.cell? ⟨g1, 3, none⟩ = some (.int .i64 r.addr) ∧ w'.cell? ⟨g1, 4, none⟩ = some (.slice pt r.to.length cpt) ∧ w'.cell? ⟨g1, 5, none⟩ = some (.slice px r.text.length cpx) ∧ w'.cell? ⟨g1, 6, none⟩ = some (.slice pi r.nums.length cpi)), (7, fun w' => w'.cell? ⟨g2, 0, none⟩ = some (.slice qn r.name.length cqn) ∧ w'.cell? ⟨g2, 1, none⟩ = some (.int .i64 r.type) ∧ w'.cell? ⟨g2, 2, none⟩ = some (.int .i64 r.ttl) ∧ w'.cell? ⟨g2, 3, none⟩ = some (.int .i64 r.addr) ∧ w'.cell? ⟨g2, 4, none⟩ = some (.slice qt r.to.length cqt) ∧ w'.cell? ⟨g2, 5, none⟩ = some (.slice qx r.text.length cqx) ∧ w'.cell? ⟨g2, 6, none⟩ = some (.slice qi r.nums.length cqi)), (15, fun w' => w'.cell? ⟨g1, 2, none⟩ = some (.int .i64 r.ttl)), (20, fun w' => w'.cell? ⟨g2, 2, none⟩ = some (.int .i64 r.ttl))] (fun hA => ?_)
   replace hA := UC hA
   repeat ((first | (refine VN ?_ (UB hA) rfl rfl rfl (by rfl) (fun _ _ _ h => h) ?_ ?_; rotate_left; · (intro w; go_simp <;> with_reducible rfl)) | refine VM (UB hA) rfl rfl (by rfl) (fun _ _ _ h => h) ?_); go_simp)
   refine takeC ?_ (UB hA) rfl rfl rfl (by rfl) (fun _ _ _ h => h) (.head _) (UJ (UB KA)) ?_ ?_; rotate_left; (· (intro w hSw; (try dsimp only at hSw); go_simp <;> with_reducible rfl)); go_simp
   repeat ((first | (refine VN ?_ (UB hA) rfl rfl rfl (by rfl) (fun _ _ _ h => h) ?_ ?_; rotate_left; · (intro w; go_simp <;> with_reducible rfl)) | refine VM (UB hA) rfl rfl (by rfl) (fun _ _ _ h => h) ?_); go_simp)
   refine takeC ?_ (UB hA) rfl rfl rfl (by rfl) (fun _ _ _ h => h) (.tail _ (.head _)) (UJ (UB KB)) ?_ ?_; rotate_left; (· (intro w hSw; (try dsimp only at hSw); go_simp <;> with_reducible rfl)); go_simp
   repeat ((first | (refine VN ?_ (UB hA) rfl rfl rfl (by rfl) (fun _ _ _ h => h) ?_ ?_; rotate_left; · (intro w; go_simp <;> with_reducible rfl)) | refine VM (UB hA) rfl rfl (by rfl) (fun _ _ _ h => h) ?_); go_simp)
   refine runC (UB hA) rfl rfl (by kernel_rfl) (by kernel_rfl) (fun K hK => ?_)
   have HK := UC hK
   clear hK
   go_simp
   refine (UB HS _ (UB FA) (UB FB)).mono ?_
   rintro e w3 ⟨rfl, b3⟩
   have KA3 := UC (UE b3 (UB KA))
   have KB3 := UC (UE b3 (UB KB))
   have bb3 := UG bb b3
   clear b3
   refine (UB HK).out _ _ (VB (by kernel_rfl) (VB (by kernel_rfl) (keepC_yes (UJ (UB KA3)).2.2.1 (keepC_yes (UJ (UB KB3)).2.2.1 VL)))) ?_
   clear HK K
   go_simp
   repeat ((first | (refine VN ?_ (UB hA) rfl rfl rfl (by rfl) (fun _ _ _ h => h) ?_ ?_; rotate_left; · (intro w; go_simp <;> with_reducible rfl)) | refine VM (UB hA) rfl rfl (by rfl) (fun _ _ _ h => h) ?_); go_simp)
   refine takeC ?_ (UB hA) rfl rfl rfl (by rfl) (fun _ _ _ h => h) (.tail _ (.tail _ (.head _))) (UJ (UB KA3)).2.2.1 ?_ ?_; rotate_left; (· (intro w hSw; (try dsimp only at hSw); go_simp <;> with_reducible rfl)); go_simp
   repeat ((first | (refine VN ?_ (UB hA) rfl rfl rfl (by rfl) (fun _ _ _ h => h) ?_ ?_; rotate_left; · (intro w; go_simp <;> with_reducible rfl)) | refine VM (UB hA) rfl rfl (by rfl) (fun _ _ _ h => h) ?_); go_simp)
   refine takeC ?_ (UB hA) rfl rfl rfl (by rfl) (fun _ _ _ h => h) (.tail _ (.tail _ (.tail _ (.head _)))) (UJ (UB KB3)).2.2.1 ?_ ?_; rotate_left; (· (intro w hSw; (try dsimp only at hSw); go_simp <;> with_reducible rfl)); go_simp
   repeat ((first | (refine VN ?_ (UB hA) rfl rfl rfl (by rfl) (fun _ _ _ h => h) ?_ ?_; rotate_left; · (intro w; go_simp <;> with_reducible rfl)) | refine VM (UB hA) rfl rfl (by rfl) (fun _ _ _ h => h) ?_); go_simp)
   refine doneC (UB hA) rfl ?_
   clear hA
   go_wp2_with fail
   exact ⟨⟨1, by omega, by go_num, bb3⟩, by simp [intOf]⟩
  ·obtain rfl : k = 1 := by omega
   go_wp2_with fail
   go_ret
   exact ⟨rfl, hb⟩
def emptyR (t : Int) : Rec := ⟨[], t, 0, 0, [], [], []⟩

def kindGet (t : Int) (l : List Int) (p : Int) : Rec × Int :=
 if t = 1 then (⟨[], t, 0, (get32 l p).1, [], [], []⟩, (get32 l p).2)
 else if t = 6 then (⟨[], t, 0, 0, (nameGet l p).1, [], [(get32 l (nameGet l p).2).1, (get32 l (get32 l (nameGet l p).2).2).1]⟩, (get32 l (get32 l (nameGet l p).2).2).2)
 else if named t = true then (⟨[], t, 0, 0, (nameGet l p).1, [], []⟩, (nameGet l p).2)
 else (⟨[], t, 0, 0, [], (countedOf l p).1, []⟩, (countedOf l p).2)

def dataGet (t : Int) (l : List Int) (p n : Int) : Rec × Bool :=
 if typeOk t = false ∨ 512 < l.length ∨ p < 0 ∨ n < 0 ∨ 512 < n ∨ (kindGet t l p).2 < 0 ∨ (kindGet t l p).2 - p ≠ n ∨ rrOk (kindGet t l p).1 = false then (emptyR 0, false) else ((kindGet t l p).1, true)

theorem get32_end (l : List Int) (p : Int) : (get32 l p).2 = -1 ∨ (0 ≤ p ∧ (get32 l p).2 = p + 4 ∧ p + 4 ≤ l.length) := by
 unfold get32
 split
 ·rename_i h; right; exact ⟨h.1, rfl, h.2⟩
 ·left; rfl
theorem takeOf_end (l : List Int) (p m : Int) : (takeOf l p m).2 = -1 ∨ (0 ≤ p ∧ 0 ≤ m ∧ (takeOf l p m).2 = p + m ∧ p + m ≤ l.length) := by
 unfold takeOf
 split
 ·rename_i h; right; exact ⟨h.1, h.2.1, rfl, h.2.2⟩
 ·left; rfl
theorem countedOf_end (l : List Int) (p : Int) : (countedOf l p).2 = -1 ∨ (0 ≤ p ∧ p ≤ l.length ∧ 0 ≤ (countedOf l p).2 ∧ (countedOf l p).2 ≤ l.length) := by
 unfold countedOf
 split
 ·left; rfl
 ·rcases takeOf_end l p 1 with h | h
  ·omega
  ·rcases takeOf_end l (takeOf l p 1).2 (l.getD p.toNat 0) with h2 | h2
   ·left; exact h2
   ·right; exact ⟨h.1, by omega, by omega, by omega⟩
theorem get16_end (l : List Int) (p : Int) : (get16 l p).2 = -1 ∨ (0 ≤ p ∧ (get16 l p).2 = p + 2 ∧ p + 2 ≤ l.length) := by
 unfold get16
 split
 ·rename_i h; right; exact ⟨h.1, rfl, h.2⟩
 ·left; rfl
theorem getName_end {l : List Int} : ∀ (f : Nat) (n : List (List Int)) (p : Int) (h : Nat) (e : Int), -1 ≤ e → e ≤ l.length → ((getName l f n p h e).2 = -1 ∨ (0 ≤ p ∧ p ≤ l.length ∧ 0 ≤ (getName l f n p h e).2 ∧ (getName l f n p h e).2 ≤ l.length))
 | 0, _, _, _, _, _, _ => by simp [getName]
 | f + 1, n, p, h, e, h1, h2 => by
  rw [getName]
  split
  ·exact .inl rfl
  rename_i hp
  split
  ·split
   ·right
    refine ⟨by omega, by omega, ?_, ?_⟩
    ·show 0 ≤ (if e < 0 then p + 1 else e); split <;> omega
    ·show (if e < 0 then p + 1 else e) ≤ (l.length : Int); split <;> omega
   ·exact .inl rfl
  split
  ·split
   ·exact .inl rfl
   ·have q := get16_end l p
    rcases getName_end (l := l) f n ((get16 l p).1 - 49152) (h + 1) (if e < 0 then (get16 l p).2 else e) (by split <;> omega) (by split <;> omega) with r | r
    ·exact .inl r
    ·exact .inr ⟨by omega, by omega, r.2.2⟩
  split
  ·exact .inl rfl
  split
  ·exact .inl rfl
  ·rcases getName_end (l := l) f _ _ h e h1 h2 with r | r
   ·exact .inl r
   ·exact .inr ⟨by omega, by omega, r.2.2⟩
theorem nameGet_end (l : List Int) (p : Int) : (nameGet l p).2 = -1 ∨ (0 ≤ p ∧ p ≤ l.length ∧ 0 ≤ (nameGet l p).2 ∧ (nameGet l p).2 ≤ l.length) := by
 unfold nameGet
 split
 ·exact .inl rfl
 ·exact getName_end (l := l) _ _ _ _ _ (by omega) (by omega)
theorem kindGet_end (t : Int) (l : List Int) (p : Int) : (kindGet t l p).2 = -1 ∨ (0 ≤ p ∧ p ≤ l.length ∧ 0 ≤ (kindGet t l p).2 ∧ (kindGet t l p).2 ≤ l.length) := by
 unfold kindGet
 split
 ·rcases get32_end l p with h | h
  ·exact .inl h
  ·exact .inr ⟨h.1, by omega, by show 0 ≤ (get32 l p).2; omega, by show (get32 l p).2 ≤ _; omega⟩
 split
 ·have a := nameGet_end l p
  have b := get32_end l (nameGet l p).2
  have c := get32_end l (get32 l (nameGet l p).2).2
  show (get32 l (get32 l (nameGet l p).2).2).2 = -1 ∨ (0 ≤ p ∧ p ≤ l.length ∧ 0 ≤ (get32 l (get32 l (nameGet l p).2).2).2 ∧ (get32 l (get32 l (nameGet l p).2).2).2 ≤ l.length)
  omega
 split
 ·exact nameGet_end l p
 ·exact countedOf_end l p
theorem ownN_nil (B E : Nat) (el eb : TypeId) (w : World) : OwnN B E el eb w (.slice none 0 0) [] :=
 ⟨[], by simpa using World.ownsRow_nil _ _ _ _, by simp, by simp, by simp [Value.ownBlock], by simp⟩
theorem ownB_nil (B E : Nat) (e : TypeId) (w : World) : OwnB B E e w (.slice none 0 0) [] := ⟨World.ownsRow_nil _ _ _ _, by simp [Value.ownBlock]⟩
theorem ownBI_nil (B E : Nat) (e : TypeId) (w : World) : OwnBI B E e w (.slice none 0 0) [] := ⟨World.ownsRow_nil _ _ _ _, by simp [Value.ownBlock]⟩
theorem ownR_nil {B E : Nat} (hBE : B ≤ E) (el eb ei : TypeId) (w : World) (t : Int) : OwnR B E el eb ei w (.slice none 0 0) (.slice none 0 0) (.slice none 0 0) (.slice none 0 0) (emptyR t) :=
 ⟨B, B, B, Nat.le_refl _, Nat.le_refl _, Nat.le_refl _, hBE, ownN_nil _ _ _ _ _, ownN_nil _ _ _ _ _, ownB_nil _ _ _ _, ownBI_nil _ _ _ _⟩

def GivesR (w : World) (r : Rec) (b : Bool) (e : Ending) (w' : World) : Prop :=
 ∃ vn vt vx vi, e = .returned (.tuple #[.agg #[vn, .int .i64 r.type, .int .i64 r.ttl, .int .i64 r.addr, vt, vx, vi], .bool b]) ∧ OwnR w.heap.size w'.heap.size 22 5 3 w' vn vt vx vi r ∧ Below w.heap.size w w'

theorem OwnR.wide {B E B' E' : Nat} {el eb ei : TypeId} {w : World} {vn vt vx vi : Value} {r : Rec} (h : OwnR B E el eb ei w vn vt vx vi r) (hB : B' ≤ B) (hE : E ≤ E') : OwnR B' E' el eb ei w vn vt vx vi r := by
 obtain ⟨s1, s2, s3, a1, a2, a3, a4, h1, h2, h3, h4⟩ := h
 exact ⟨s1, s2, s3, by omega, a2, a3, by omega, h1.wide hB (Nat.le_refl _), h2, h3, h4.wide (Nat.le_refl _) hE⟩
theorem dataGet_in {t : Int} {l : List Int} {p n : Int} (ht : typeOk t = true) (hl : l.length ≤ 512) (hp : 0 ≤ p) (hn0 : 0 ≤ n) (hn1 : n ≤ 512) :
  dataGet t l p n = if (kindGet t l p).2 < 0 ∨ (kindGet t l p).2 - p ≠ n ∨ rrOk (kindGet t l p).1 = false then (emptyR 0, false) else ((kindGet t l p).1, true) := by
 unfold dataGet
 by_cases h : (kindGet t l p).2 < 0 ∨ (kindGet t l p).2 - p ≠ n ∨ rrOk (kindGet t l p).1 = false
 ·rw [if_pos h, if_pos (.inr (.inr (.inr (.inr (.inr h)))))]
 ·rw [if_neg h, if_neg]
  rintro (q | q | q | q | q | q)
  ·rw [ht] at q; cases q
  ·omega
  ·omega
  ·omega
  ·omega
  ·exact h q
theorem dataGet_out {t : Int} {l : List Int} {p n : Int} (h : typeOk t = false ∨ 512 < l.length ∨ p < 0 ∨ n < 0 ∨ 512 < n) : dataGet t l p n = (emptyR 0, false) := by
 unfold dataGet
 rw [if_pos]
 rcases h with q | q | q | q | q
 ·exact .inl q
 ·exact .inr (.inl q)
 ·exact .inr (.inr (.inl q))
 ·exact .inr (.inr (.inr (.inl q)))
 ·exact .inr (.inr (.inr (.inr (.inl q))))
def e0 (l : List Int) (p : Int) : Int := (nameGet l p).2
def e1 (l : List Int) (p : Int) : Int := (get16 l (e0 l p)).2
def e2 (l : List Int) (p : Int) : Int := (get16 l (e1 l p)).2
def e3 (l : List Int) (p : Int) : Int := (get32 l (e2 l p)).2
def e4 (l : List Int) (p : Int) : Int := (get16 l (e3 l p)).2
def tyAt (l : List Int) (p : Int) : Int := (get16 l (e0 l p)).1
def clAt (l : List Int) (p : Int) : Int := (get16 l (e1 l p)).1
def ttAt (l : List Int) (p : Int) : Int := (get32 l (e2 l p)).1
def szAt (l : List Int) (p : Int) : Int := (get16 l (e3 l p)).1
def dtAt (l : List Int) (p : Int) : Rec × Bool := dataGet (tyAt l p) l (e4 l p) (szAt l p)

def named2 (r : Rec) (n : List (List Int)) (t : Int) : Rec := ⟨n, r.type, t, r.addr, r.to, r.text, r.nums⟩
def recAt (l : List Int) (p : Int) : Rec := named2 (dtAt l p).1 (nameGet l p).1 (ttAt l p)
def readAt (l : List Int) (p : Int) : Rec × Int × Int := if (dtAt l p).2 = true ∧ rrOk (recAt l p) = true then (recAt l p, clAt l p, e4 l p + szAt l p) else (emptyR 0, 0, -1)
def rrGet (l : List Int) (p : Int) : Rec × Int := if (readAt l p).2.1 = 1 then ((readAt l p).1, (readAt l p).2.2) else (emptyR 0, -1)

theorem dataGet_yes {t : Int} {l : List Int} {p n : Int} (h : (dataGet t l p n).2 = true) : typeOk t = true ∧ l.length ≤ 512 ∧ 0 ≤ p ∧ 0 ≤ n ∧ n ≤ 512 ∧ p + n ≤ l.length := by
 unfold dataGet at h
 split at h
 ·cases h
 ·rename_i hc
  have he := kindGet_end t l p
  have ht : typeOk t = true := by
   cases q : typeOk t with
   | true => rfl
   | false => exact absurd (.inl q) hc
  exact ⟨ht, by omega, by omega, by omega, by omega, by omega⟩
def GivesN (w : World) (r : Rec) (x : Int) (e : Ending) (w' : World) : Prop :=
 ∃ vn vt vx vi, e = .returned (.tuple #[.agg #[vn, .int .i64 r.type, .int .i64 r.ttl, .int .i64 r.addr, vt, vx, vi], .int .i64 x]) ∧ OwnR w.heap.size w'.heap.size 22 5 3 w' vn vt vx vi r ∧ Below w.heap.size w w'
def GivesC (w : World) (r : Rec) (c x : Int) (e : Ending) (w' : World) : Prop :=
 ∃ vn vt vx vi, e = .returned (.tuple #[.agg #[vn, .int .i64 r.type, .int .i64 r.ttl, .int .i64 r.addr, vt, vx, vi], .int .i64 c, .int .i64 x]) ∧ OwnR w.heap.size w'.heap.size 22 5 3 w' vn vt vx vi r ∧ Below w.heap.size w w'

theorem results_cell_tmp2 {fn : Func} {p u u2 : Tmp} {ty : TypeId} (h : fn.results = #[.cell p ty, .tmp u, .tmp u2]) (tmps : Array Value) (P : Program) (w : World) :
  (results fn tmps).run P w =
   ((asAddr (tmps.getD p undef)).run P w).andThen fun a w₁ => ((loadVar ty a).run P w₁).andThen fun v w₂ => .ok (.tuple #[v, tmps.getD u undef, tmps.getD u2 undef]) w₂ := by
 simp only [results, h]
 simp [Sem.run_bind, Result.andThen]
theorem results_cell_tmp2_row {P : Program} {fn : Func} {p u u2 : Tmp} {ty : TypeId} (h : fn.results = #[.cell p ty, .tmp u, .tmp u2]) (tmps : Array Value) (w : World) (g : Nat) (t : TypeId) (cs : Array Value) (fr : Nat × Nat) (d : TypeDesc)
  (hp : tmps.getD p undef = .pointer (some ⟨g, 0, none⟩)) (hg : w.heap[g]? = some (.cells cs t fr))
  (hu : P.underlying ty = some d) (hd : (match d with | .struct _ | .array _ _ => true | _ => false) = true) (hi : (P.info? ty).map (·.size) = some cs.size) :
  (results fn tmps).run P w = .ok (.tuple #[.agg cs, tmps.getD u undef, tmps.getD u2 undef]) w := by
 rw [results_cell_tmp2 h, hp]
 simp [asAddr, run_loadVar_row w g t ty cs fr d hg hu hd hi]

theorem OwnR.named2 {C B E : Nat} {el eb ei : TypeId} {w : World} {vn vn' vt vx vi : Value} {r : Rec} {n : List (List Int)} (t : Int) (h : OwnR B E el eb ei w vn vt vx vi r) (hn : OwnN C B el eb w vn' n) (hC : C ≤ B) : OwnR C E el eb ei w vn' vt vx vi (named2 r n t) := by
 obtain ⟨s1, s2, s3, a1, a2, a3, a4, h1, h2, h3, h4⟩ := h
 exact ⟨B, s2, s3, hC, by omega, a3, a4, hn, h2.wide a1 (Nat.le_refl _), h3, h4⟩
theorem ends_le (l : List Int) (p : Int) : e0 l p ≤ l.length ∧ e1 l p ≤ l.length ∧ e2 l p ≤ l.length ∧ e3 l p ≤ l.length ∧ e4 l p ≤ l.length := by
 have a := nameGet_end l p
 have b := get16_end l (e0 l p)
 have c := get16_end l (e1 l p)
 have d := get32_end l (e2 l p)
 have f := get16_end l (e3 l p)
 unfold e4 e3 e2 e1 e0 at *
 omega
end Go.Proofs.YthmihglfffeedaaGreatDoor
