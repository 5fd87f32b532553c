/-
  The walk of laws.FnInsides.
-/
import Derived.Test.YtjgfljndeolmoaaFnInsidesG21
import Derived.Test.YtjgfljndeolmoaaFnInsidesG41
import Derived.Test.YtjgfljndeolmoaaFnInsidesG45
import Derived.Test.YtjgfljndeolmoaaFnInsidesG37
import Derived.Deep.RegionHeld3
namespace Go.Proofs.Ytjgfljndeolmoaa
open Go.RowKit
set_option linter.unusedVariables false

theorem inK_at (z : List (List Int)) (rs : List Rec) {i : Nat} (h : endsWith (rs.getD i recZ).name z = true) : ∀ m, i < m → (inK z rs i).length < (inK z rs m).length ∧ (inK z rs m).getD (inK z rs i).length recZ = rs.getD i recZ
 | 0, hm => absurd hm (by omega)
 | m + 1, hm => by
  by_cases e : i = m
  ·subst e
   have hs : inK z rs (i + 1) = inK z rs i ++ [rs.getD i recZ] := by show (if _ then _ else _) = _; rw [if_pos h]
   rw [hs]
   refine ⟨by simp, ?_⟩
   rw [List.getD_eq_getElem?_getD]
   simp
  ·obtain ⟨h1, h2⟩ := inK_at z rs h m (by omega)
   have hs : inK z rs (m + 1) = if endsWith (rs.getD m recZ).name z = true then inK z rs m ++ [rs.getD m recZ] else inK z rs m := rfl
   rw [hs]
   split
   ·refine ⟨by simp; omega, ?_⟩
    rw [List.getD_eq_getElem?_getD, List.getElem?_append_left h1, ← List.getD_eq_getElem?_getD]
    exact h2
   ·exact ⟨h1, h2⟩
theorem rrSame_self {r : Rec} (h : rrOk r = true) : rrSame r r = true := by
 unfold rrSame
 rw [h, cmpR_self]
 rfl

set_option maxHeartbeats 4000000 in
set_option maxRecDepth 100000 in
theorem lawInsides (a : Option Addr) (cap : Nat) (l : List Int) (w : World) (hL : Lies w a l) (hb : ∀ k, 0 ≤ l.getD k 0 ∧ l.getD k 0 ≤ 255) (hm : l.length ≤ maxLen) :
  Calls Try.prog 3 #[.slice a l.length cap] w fun e w' => e = .returned (.bool true) ∧ Below w.heap.size w w' := by
 have DI := hide (drawInside_any (cap := cap) l hL rfl hb hm)
 clear hL hb hm
 go_enter Try.func3, Try.ntmps3
 go_wp2_with fail
 refine (unhide DI).mono ?_
 rintro e w1 ⟨v, rs, u, z, rfl, hrs, hlen, hds, hz, hzz, bb⟩
 obtain ⟨va, vc, rfl, _⟩ := hrs.form
 obtain ⟨za, zc, rfl, _⟩ := hz.form
 have b2 := below_alloc (w := w1) (.cells #[.slice za z.length zc] 26)
 have KZ := hide (heap_alloc_new w1 (.cells #[.slice za z.length zc] 26))
 have HR := hide (hrs.below b2)
 have HZ := hide (hz.below b2)
 have IN := hide (implInside_own (unhide HR) (unhide HZ))
 replace bb := below_next bb b2
 have zk := block_lt (unhide KZ)
 have c0 := block_one (unhide KZ)
 clear DI hrs hz hzz hds b2
 go_wp2_with fail
 clear c0
 generalize w1.alloc (.cells #[.slice za z.length zc] 26) = w2 at *
 refine (unhide IN).mono ?_
 rintro e w3 ⟨x, rfl, oG, b3⟩
 obtain ⟨ga, gc, rfl, _⟩ := oG.form
 replace bb := below_next bb b3
 replace KZ := hide (block_kept b3 (unhide KZ))
 replace HR := hide ((unhide HR).below b3)
 replace HZ := hide ((unhide HZ).below b3)
 have HG := hide oG.has
 have z3 := b3.size
 clear IN b3 oG
 by_cases h0 : (insideOf rs z).length = 0
 ·have hq : (((insideOf rs z).length : Int) == 0) = true := by rw [h0]; rfl
  have TS := hide (tasks_any w3)
  generalize (insideOf rs z).length = N at *
  clear h0
  go_wp2_with fail
  refine (unhide TS).mono ?_
  rintro e w4 ⟨rfl, b4⟩
  go_wp2_with fail
  go_ret
  exact ⟨rfl, below_next bb b4⟩
 have hok : rrsOk rs = true ∧ nameOk z = true := by
  by_cases hk : rrsOk rs = true ∧ nameOk z = true
  ·exact hk
  ·unfold insideOf at h0
   rw [if_neg hk] at h0
   exact absurd rfl h0
 have hG : insideOf rs z = inK z rs rs.length := by unfold insideOf; rw [if_pos hok]
 rw [hG] at HG h0
 have hq : (((inK z rs rs.length).length : Int) == 0) = false := by rw [beq_eq_false_iff_ne]; omega
 rw [hG]
 obtain ⟨h12, hoks⟩ := rrsOk_parts hok.1
 have HOK := hide hoks
 have hnm := hok.2
 have hGl := inK_length z rs rs.length
 have HAT := hide (fun (i : Nat) (h : endsWith (rs.getD i recZ).name z = true) (hi : i < rs.length) => inK_at z rs h rs.length hi)
 have HGE := hide (show (inK z rs rs.length).length = (inK z rs rs.length).length from rfl)
 generalize hGG : inK z rs rs.length = G at *
 have HGG := hide hGG
 clear hG hoks hok h0 hGG
 generalize hm : rs.length = m at *
 have HN := hide hm
 clear hm
 go_wp2_with fail
 go_loopw [6, 7] (fun kv iv wr => ∃ i : Nat, i ≤ m ∧ iv = .int .i64 i ∧ kv = .int .i64 ((inK z rs i).length : Int) ∧ Below w3.heap.size w3 wr) (fun _ iv _ => m - (intOf iv).toNat)
 case atStart => exact ⟨0, Nat.zero_le _, rfl, rfl, Below.refl _ _⟩
 case round =>
  obtain ⟨i, hi, rfl, rfl, hbw⟩ := hrel
  have hkl := inK_length z rs i
  by_cases hlt : i < m
  ·have him : (i : Int) < m := by omega
   have bd := below_next hbw (below_drew (w := wr))
   obtain ⟨b, off, rna, rnc, rta, rtc, rxa, rxc, ria, ric, rfl, hbl, hc, hu⟩ := ((unhide HR).below bd).here (k := i) (by rw [unhide HN]; exact hlt)
   have hrk := unhide HOK i hlt
   have HST := hide (show inK z rs (i + 1) = if endsWith (rs.getD i recZ).name z = true then inK z rs i ++ [rs.getD i recZ] else inK z rs i from rfl)
   have HA := hide (fun h => unhide HAT i h hlt)
   generalize rs.getD i recZ = r at *
   have KD := hide (block_kept bd (unhide KZ))
   have HC := hide hc
   have CU := implUnder_has hu.name ((unhide HZ).below bd)
   rw [under_in (rrOk_name hrk) hnm] at CU
   have HU := hide hu
   clear hc hu
   cases he : endsWith r.name z with
   | false =>
    rw [he] at CU
    replace CU := hide CU
    have hst := unhide HST
    rw [he, if_neg (by simp)] at hst
    have HS1 := hide hst
    clear HST hst HA
    generalize hkk : (inK z rs i).length = kk at *
    have HKK := hide hkk
    clear hkk
    go_wp2_with fail
    go_region_held3 (fun w' => w'.cell? ⟨w1.heap.size, 0, none⟩ = some (.slice za z.length zc) ∧ (w'.cell? ⟨b, off + i * 7, none⟩ = some (.slice rna r.name.length rnc) ∧ w'.cell? ⟨b, off + i * 7 + 1, none⟩ = some (.int .i64 r.type) ∧ w'.cell? ⟨b, off + i * 7 + 2, none⟩ = some (.int .i64 r.ttl) ∧ w'.cell? ⟨b, off + i * 7 + 3, none⟩ = some (.int .i64 r.addr) ∧ w'.cell? ⟨b, off + i * 7 + 4, none⟩ = some (.slice rta r.to.length rtc) ∧ w'.cell? ⟨b, off + i * 7 + 5, none⟩ = some (.slice rxa r.text.length rxc) ∧ w'.cell? ⟨b, off + i * 7 + 6, none⟩ = some (.slice ria r.nums.length ric)))
     (first | exact ⟨block_one (unhide KD), range7 (unhide HC)⟩ | exact ⟨block_one (block_kept b4 (unhide KD)), range7 (range_below (unhide HC) hbl b4)⟩)
     (first | (go_at_call 10; refine (unhide CU).mono ?_; rintro e w4 ⟨rfl, b4⟩))
    have bw := below_next bd b4
    go_wp2_with fail
    exact ⟨⟨i + 1, by omega, by go_num, by rw [unhide HS1, unhide HKK], bw⟩, by simp [intOf]; omega⟩
   | true =>
    rw [he] at CU
    replace CU := hide CU
    have hst := unhide HST
    rw [he, if_pos rfl] at hst
    have HS1 := hide (show (inK z rs (i + 1)).length = (inK z rs i).length + 1 by rw [hst]; simp)
    obtain ⟨hk1, hk2⟩ := unhide HA he
    have HK2 := hide hk2
    clear HST hst HA hk2
    generalize hkk : (inK z rs i).length = kk at *
    have HKK := hide hkk
    clear hkk
    go_wp2_with fail
    go_region_held3 (fun w' => w'.cell? ⟨w1.heap.size, 0, none⟩ = some (.slice za z.length zc) ∧ (w'.cell? ⟨b, off + i * 7, none⟩ = some (.slice rna r.name.length rnc) ∧ w'.cell? ⟨b, off + i * 7 + 1, none⟩ = some (.int .i64 r.type) ∧ w'.cell? ⟨b, off + i * 7 + 2, none⟩ = some (.int .i64 r.ttl) ∧ w'.cell? ⟨b, off + i * 7 + 3, none⟩ = some (.int .i64 r.addr) ∧ w'.cell? ⟨b, off + i * 7 + 4, none⟩ = some (.slice rta r.to.length rtc) ∧ w'.cell? ⟨b, off + i * 7 + 5, none⟩ = some (.slice rxa r.text.length rxc) ∧ w'.cell? ⟨b, off + i * 7 + 6, none⟩ = some (.slice ria r.nums.length ric)))
     (first | exact ⟨block_one (unhide KD), range7 (unhide HC)⟩ | exact ⟨block_one (block_kept b4 (unhide KD)), range7 (range_below (unhide HC) hbl b4)⟩)
     (first | (go_at_call 10; refine (unhide CU).mono ?_; rintro e w4 ⟨rfl, b4⟩))
    have bw := below_next (below_next bd b4) (below_drew (w := w4))
    have b5 := below_next b4 (below_drew (w := w4))
    obtain ⟨gb, go, qna, qnc, qta, qtc, qxa, qxc, qia, qic, rfl, hgl, hgc, hgu⟩ := ((unhide HG).below bw).here (k := kk) hk1
    rw [unhide HK2] at hgc hgu
    have HC5 := hide (range_below (unhide HC) hbl b5)
    have hbl5 := Nat.lt_of_lt_of_le hbl b5.size
    have HGC := hide hgc
    have CS := specRrSame_has hgu ((unhide HU).below b5)
    rw [rrSame_self hrk] at CS
    replace CS := hide CS
    have hkg : (kk : Int) < G.length := by omega
    have hkn : ¬ (G.length : Int) ≤ kk := by omega
    have hdk : decide ((G.length : Int) ≤ kk) = false := decide_eq_false hkn
    clear hgc hgu b4 b5 CU bd
    go_wp2_with fail
    refine startF 16 (S := (fun w' => (w'.cell? ⟨gb, go + kk * 7, none⟩ = some (.slice qna r.name.length qnc) ∧ w'.cell? ⟨gb, go + kk * 7 + 1, none⟩ = some (.int .i64 r.type) ∧ w'.cell? ⟨gb, go + kk * 7 + 2, none⟩ = some (.int .i64 r.ttl) ∧ w'.cell? ⟨gb, go + kk * 7 + 3, none⟩ = some (.int .i64 r.addr) ∧ w'.cell? ⟨gb, go + kk * 7 + 4, none⟩ = some (.slice qta r.to.length qtc) ∧ w'.cell? ⟨gb, go + kk * 7 + 5, none⟩ = some (.slice qxa r.text.length qxc) ∧ w'.cell? ⟨gb, go + kk * 7 + 6, none⟩ = some (.slice qia r.nums.length qic)) ∧ (w'.cell? ⟨b, off + i * 7, none⟩ = some (.slice rna r.name.length rnc) ∧ w'.cell? ⟨b, off + i * 7 + 1, none⟩ = some (.int .i64 r.type) ∧ w'.cell? ⟨b, off + i * 7 + 2, none⟩ = some (.int .i64 r.ttl) ∧ w'.cell? ⟨b, off + i * 7 + 3, none⟩ = some (.int .i64 r.addr) ∧ w'.cell? ⟨b, off + i * 7 + 4, none⟩ = some (.slice rta r.to.length rtc) ∧ w'.cell? ⟨b, off + i * 7 + 5, none⟩ = some (.slice rxa r.text.length rxc) ∧ w'.cell? ⟨b, off + i * 7 + 6, none⟩ = some (.slice ria r.nums.length ric)))) (by kernel_rfl) rfl (show _ ∧ _ from And.intro (range7 (unhide HGC)) (range7 (unhide HC5))) (fun hHeld => ?_)
    simp only [List.replicate]
    refine tkI 0 ?_ rfl (by kernel_rfl) (by kernel_rfl) (fun _ _ _ h => h) ?_ hHeld ?_; rotate_left; (· (intro w hSw; (try dsimp only at hSw); go_simp <;> with_reducible rfl)); simp only [Act.put, List.setIfInBounds_toArray, List.set_cons_zero, List.set_cons_succ]
    refine tkI 1 ?_ rfl (by kernel_rfl) (by kernel_rfl) (fun _ _ _ h => h) ?_ hHeld ?_; rotate_left; (· (intro w hSw; (try dsimp only at hSw); go_simp <;> with_reducible rfl)); simp only [Act.put, List.setIfInBounds_toArray, List.set_cons_zero, List.set_cons_succ]
    refine tkI 2 ?_ rfl (by kernel_rfl) (by kernel_rfl) (fun _ _ _ h => h) ?_ hHeld ?_; rotate_left; (· (intro w hSw; (try dsimp only at hSw); go_simp <;> with_reducible rfl)); simp only [Act.put, List.setIfInBounds_toArray, List.set_cons_zero, List.set_cons_succ]
    refine tkI 3 (.bool false) rfl (by kernel_rfl) (by kernel_rfl) (fun _ _ _ h => h) ?_ hHeld ?_; (· (intro w hSw; (try dsimp only at hSw); go_simp)); simp only [Act.put, List.setIfInBounds_toArray, List.set_cons_zero, List.set_cons_succ]
    refine tkI 4 ?_ rfl (by kernel_rfl) (by kernel_rfl) (fun _ _ _ h => h) ?_ hHeld ?_; rotate_left; (· (intro w hSw; (try dsimp only at hSw); go_simp <;> with_reducible rfl)); simp only [Act.put, List.setIfInBounds_toArray, List.set_cons_zero, List.set_cons_succ]
    refine tkI 5 ?_ rfl (by kernel_rfl) (by kernel_rfl) (fun _ _ _ h => h) ?_ hHeld ?_; rotate_left; (· (intro w hSw; (try dsimp only at hSw); go_simp <;> with_reducible rfl)); simp only [Act.put, List.setIfInBounds_toArray, List.set_cons_zero, List.set_cons_succ]
    refine tkI 6 ?_ rfl (by kernel_rfl) (by kernel_rfl) (fun _ _ _ h => h) ?_ hHeld ?_; rotate_left; (· (intro w hSw; (try dsimp only at hSw); go_simp <;> with_reducible rfl)); simp only [Act.put, List.setIfInBounds_toArray, List.set_cons_zero, List.set_cons_succ]
    refine tkI 7 ?_ rfl (by kernel_rfl) (by kernel_rfl) (fun _ _ _ h => h) ?_ hHeld ?_; rotate_left; (· (intro w hSw; (try dsimp only at hSw); go_simp <;> with_reducible rfl)); simp only [Act.put, List.setIfInBounds_toArray, List.set_cons_zero, List.set_cons_succ]
    refine tkI 8 ?_ rfl (by kernel_rfl) (by kernel_rfl) (fun _ _ _ h => h) ?_ hHeld ?_; rotate_left; (· (intro w hSw; (try dsimp only at hSw); go_simp <;> with_reducible rfl)); simp only [Act.put, List.setIfInBounds_toArray, List.set_cons_zero, List.set_cons_succ]
    refine tkI 9 ?_ rfl (by kernel_rfl) (by kernel_rfl) (fun _ _ _ h => h) ?_ hHeld ?_; rotate_left; (· (intro w hSw; (try dsimp only at hSw); go_simp <;> with_reducible rfl)); simp only [Act.put, List.setIfInBounds_toArray, List.set_cons_zero, List.set_cons_succ]
    refine tkI 10 ?_ rfl (by kernel_rfl) (by kernel_rfl) (fun _ _ _ h => h) ?_ hHeld ?_; rotate_left; (· (intro w hSw; (try dsimp only at hSw); go_simp <;> with_reducible rfl)); simp only [Act.put, List.setIfInBounds_toArray, List.set_cons_zero, List.set_cons_succ]
    refine tkI 11 ?_ rfl (by kernel_rfl) (by kernel_rfl) (fun _ _ _ h => h) ?_ hHeld ?_; rotate_left; (· (intro w hSw; (try dsimp only at hSw); go_simp <;> with_reducible rfl)); simp only [Act.put, List.setIfInBounds_toArray, List.set_cons_zero, List.set_cons_succ]
    refine tkI 12 ?_ rfl (by kernel_rfl) (by kernel_rfl) (fun _ _ _ h => h) ?_ hHeld ?_; rotate_left; (· (intro w hSw; (try dsimp only at hSw); go_simp <;> with_reducible rfl)); simp only [Act.put, List.setIfInBounds_toArray, List.set_cons_zero, List.set_cons_succ]
    refine runI 13 rfl (by kernel_rfl) (by kernel_rfl) (fun K hK => ?_)
    have HK := hide hK
    clear hK hHeld
    go_simp
    refine (unhide CS).mono ?_
    rintro e w6 ⟨rfl, b6⟩
    refine (unhide HK).out _ _ ⟨range7 (range_below (unhide HGC) hgl b6), range7 (range_below (unhide HC5) hbl5 b6)⟩ (fun hHeld => ?_)
    clear HK K
    simp only [List.setIfInBounds_toArray, List.set_cons_zero, List.set_cons_succ]
    repeat ((first | (refine tkF ?_ rfl (by kernel_rfl) (by rfl) (fun _ _ _ h => h) ?_ hHeld ?_; rotate_left; · (intro w hSw; (try dsimp only at hSw); go_simp <;> with_reducible rfl)) | refine skF rfl (by kernel_rfl) (by rfl) (fun _ _ _ h => h) hHeld ?_); simp only [Act.put, setF, List.setIfInBounds_toArray, List.set_cons_zero, List.set_cons_succ])
    refine wpAnyH_done (by kernel_rfl) ?_ _
    clear hHeld
    have bw6 := below_next bw b6
    go_wp2_with fail
    exact ⟨⟨i + 1, by omega, by go_num, by rw [unhide HS1]; go_num, bw6⟩, by simp [intOf]; omega⟩
  ·obtain rfl : i = m := by omega
   have TS := hide (tasks_any wr)
   have hkk : (inK z rs i).length = G.length := by rw [← unhide HGG]
   have hqq : (((inK z rs i).length : Int) == G.length) = true := by rw [hkk]; simp
   have bw := below_next bb hbw
   clear hkk
   generalize (inK z rs i).length = kk at *
   go_wp2_with fail
   refine (unhide TS).mono ?_
   rintro e w7 ⟨rfl, b7⟩
   go_wp2_with fail
   go_ret
   exact ⟨rfl, below_next bw b7⟩
end Go.Proofs.Ytjgfljndeolmoaa
