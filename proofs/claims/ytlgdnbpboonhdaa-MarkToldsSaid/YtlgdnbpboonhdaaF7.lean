/- Family and CheckFamily, by their contracts. -/
import Derived.Test.YtlgdnbpboonhdaaF6
namespace Go.Proofs.Ytlgdnbpboonhdaa
open Go.RowKit Go.Shelf Go.Maps
set_option linter.unusedVariables false
attribute [local go_sem] Oper.semAt_some
def familyL (ms : List Nat) (L : Nat) (qs : List Nat) : List Nat := searchL (askF ms L qs) [] (freeIx ms L qs) []
theorem freeIx_len (ms : List Nat) (L : Nat) (qs : List Nat) : (freeIx ms L qs).length ≤ qs.length := pickL_len _ _ _
theorem freeIx_lt (ms : List Nat) (L : Nat) (qs : List Nat) : ∀ m ∈ freeIx ms L qs, m < qs.length := fun m hm => by
  have := (List.mem_filter.1 hm).1
  rw [List.mem_range'_1] at this
  omega
set_option maxRecDepth 100000 in
theorem family37_ok (S L : Nat) (ms qs : List Nat) (v u : Value) (w : World) (hv : Valid S L ms) (hr : Reads w v (ints ms)) (hu : Reads w u (ints qs)) (hq : Valid S L qs) :
    Calls Try.prog 37 #[.agg #[.int .i64 (S : Int), .int .i64 (L : Int), v], u] w fun e w' => ∃ u', e = .returned (.tuple #[u', .int .i64 0]) ∧ (Reads w' u' (ints (familyL ms L qs)) ∧ CapOk u') ∧ Ext w w' := by
  obtain ⟨hl, a, cap, rfl⟩ := hr.shape
  obtain ⟨hl2, a2, cap2, rfl⟩ := hu.shape
  have E0 := (Ext.refl w).alloc (.cells #[.int .i64 (S : Int), .int .i64 (L : Int), .slice a (ints ms).length cap] 24)
  have H := Lib.hid (ask79_ok S L ms qs _ _ _ hv (hr.ext E0) (hu.ext E0) hq)
  have HE := Lib.hid E0
  have hq12 := hq.2.2.2.1
  clear hv hr hu hq E0
  go_enter Try.func37, Try.ntmps37
  go_wp2_with fail
  refine H.out.mono ?_
  rintro e w2 ⟨r2, mb, u', rfl, ⟨hru, hcap⟩, hcm, hb⟩
  obtain ⟨hl3, a3, cap3, rfl⟩ := hru.shape
  have hA := (Ext.refl w2).alloc (.cells #[.pointer (some ⟨r2, 0, none⟩), .slice a3 (ints (freeIx ms L qs)).length cap3, .map (some mb)] 93)
  have HG := Lib.hid (greatest80 mb 200 (some ⟨r2, 0, none⟩) _ (freeIx ms L qs) (askF ms L qs) _ (hcm.ext hA) (hru.ext hA) hcap (fun m hm => by have := freeIx_lt ms L qs m hm; omega) (by have := freeIx_len ms L qs; omega))
  have HE2 := Lib.hid ((HE.out.trans hb).trans hA)
  clear hru hcap hcm hb hA
  go_wp2_with fail
  refine HG.out.mono ?_
  rintro e w3 ⟨v3, rfl, hres, hb3⟩
  have HRES := Lib.hid hres; have HE3 := Lib.hid (HE2.out.trans hb3)
  clear hres hb3
  go_wp2
  go_ret2
  exact ⟨_, rfl, HRES.out, HE3.out⟩
theorem family37_of (S L c : Int) (xs ys : List Int) (v u : Value) (w : World) (hr : Reads w v xs) (hu : Reads w u ys) (hc : c ≠ 0)
    (H : ∀ W, Ext w W → Calls Try.prog 79 #[.agg #[.int .i64 S, .int .i64 L, v], u] W fun e w' => e = .returned (.tuple #[.agg #[.pointer none, .slice none 0 0, .map none], .int .i64 c]) ∧ Ext W w') :
    Calls Try.prog 37 #[.agg #[.int .i64 S, .int .i64 L, v], u] w fun e w' => e = .returned (.tuple #[.slice none 0 0, .int .i64 c]) ∧ Ext w w' := by
  obtain ⟨hl, a, cap, rfl⟩ := hr.shape
  obtain ⟨hl2, a2, cap2, rfl⟩ := hu.shape
  have HE := Lib.hid ((Ext.refl w).alloc (.cells #[.int .i64 S, .int .i64 L, .slice a xs.length cap] 24))
  have HH := Lib.hid (H _ HE.out)
  have hd : (c != 0) = true := by simpa using hc
  clear hr hu hc H
  go_enter Try.func37, Try.ntmps37
  go_wp2_with fail
  refine HH.out.mono ?_
  rintro e w2 ⟨rfl, hb⟩
  have HE2 := Lib.hid (HE.out.trans hb)
  clear hb
  go_wp2
  go_ret2
  exact ⟨rfl, HE2.out.alloc _⟩
theorem checkFam39_of (S L c : Int) (xs ys zs : List Int) (v u t : Value) (w : World) (hr : Reads w v xs) (hu : Reads w u ys) (ht : Reads w t zs) (hc : c ≠ 0)
    (H : ∀ W, Ext w W → Calls Try.prog 79 #[.agg #[.int .i64 S, .int .i64 L, v], u] W fun e w' => e = .returned (.tuple #[.agg #[.pointer none, .slice none 0 0, .map none], .int .i64 c]) ∧ Ext W w') :
    Calls Try.prog 39 #[.agg #[.int .i64 S, .int .i64 L, v], u, t] w fun e w' => e = .returned (.int .i64 c) ∧ Ext w w' := by
  obtain ⟨hl, a, cap, rfl⟩ := hr.shape
  obtain ⟨hl2, a2, cap2, rfl⟩ := hu.shape
  obtain ⟨hl3, a3, cap3, rfl⟩ := ht.shape
  have HE := Lib.hid ((Ext.refl w).alloc (.cells #[.int .i64 S, .int .i64 L, .slice a xs.length cap] 24))
  have HH := Lib.hid (H _ HE.out)
  have hd : (c != 0) = true := by simpa using hc
  clear hr hu hc H
  go_enter Try.func39, Try.ntmps39
  go_wp2_with fail
  refine HH.out.mono ?_
  rintro e w2 ⟨rfl, hb⟩
  have HE2 := Lib.hid (HE.out.trans hb)
  clear hb
  go_wp2
  go_ret
  exact ⟨rfl, HE2.out.alloc _⟩
/-- What CheckFamily answers where office and marks are in order. -/
def checkFam (ms : List Nat) (L : Nat) (qs : List Nat) (fam : List Int) : Int :=
  if (inR 0 ((qs.length : Int) - 1) fam && inc fam) = true then (if famB (freeIx ms L qs) (askF ms L qs) (fam.map Int.toNat) = true then 0 else 17) else 16
set_option maxRecDepth 100000 in
theorem checkFam39_ok (S L : Nat) (ms qs : List Nat) (fam : List Int) (v u t : Value) (w : World) (hv : Valid S L ms) (hr : Reads w v (ints ms)) (hu : Reads w u (ints qs)) (hq : Valid S L qs) (ht : Reads w t fam) (hcap : CapOk t) :
    Calls Try.prog 39 #[.agg #[.int .i64 (S : Int), .int .i64 (L : Int), v], u, t] w fun e w' => e = .returned (.int .i64 (checkFam ms L qs fam)) ∧ Ext w w' := by
  obtain ⟨hl, a, cap, rfl⟩ := hr.shape
  obtain ⟨hl2, a2, cap2, rfl⟩ := hu.shape
  obtain ⟨hl3, a3, cap3, rfl⟩ := ht.shape
  have E0 := (Ext.refl w).alloc (.cells #[.int .i64 (S : Int), .int .i64 (L : Int), .slice a (ints ms).length cap] 24)
  have H := Lib.hid (ask79_ok S L ms qs _ _ _ hv (hr.ext E0) (hu.ext E0) hq)
  have HE := Lib.hid E0
  have hq12 := hq.2.2.2.1
  obtain ⟨n, hn⟩ : ∃ n, n = qs.length := ⟨_, rfl⟩
  rw [ints_length qs] at H ⊢
  rw [← hn] at H hq12 ⊢
  have HN := Lib.hid hn; have HT := Lib.hid ht; have HC := Lib.hid hcap
  clear hv hr hu hq E0 hn ht hcap
  go_enter Try.func39, Try.ntmps39
  go_wp2_with fail
  refine H.out.mono ?_
  rintro e w2 ⟨r2, mb, u', rfl, ⟨hru, hcap⟩, hcm, hb⟩
  obtain ⟨hl4, a4, cap4, rfl⟩ := hru.shape
  have hA := (Ext.refl w2).alloc (.cells #[.pointer (some ⟨r2, 0, none⟩), .slice a4 (ints (freeIx ms L qs)).length cap4, .map (some mb)] 93)
  have HE2 := Lib.hid ((HE.out.trans hb).trans hA)
  have HCM := Lib.hid (hcm.ext hA); have HRU := Lib.hid (hru.ext hA)
  clear hru hcap hcm hb hA
  obtain ⟨b1, hb1⟩ : ∃ b1, b1 = inR 0 ((n : Int) - 1) fam := ⟨_, rfl⟩
  have hw57 := within_any 0 ((n : Int) - 1) (.slice a3 fam.length cap3) fam _ (HT.out.ext HE2.out)
  rw [← hb1] at hw57
  have H57 := Lib.hid hw57; have HB1 := Lib.hid hb1
  clear hw57 hb1
  go_wp2_with fail
  refine H57.out.mono ?_
  rintro e w3 ⟨rfl, rfl⟩
  have hval : checkFam ms L qs fam = if (b1 && inc fam) = true then (if famB (freeIx ms L qs) (askF ms L qs) (fam.map Int.toNat) = true then 0 else 17) else 16 := by
    unfold checkFam
    rw [HB1.out, HN.out]
  have HV := Lib.hid hval; clear hval
  cases b1 with
  | false =>
    go_wp2
    go_ret
    rw [HV.out]
    exact ⟨rfl, HE2.out⟩
  | true =>
    obtain ⟨b2, hb2⟩ : ∃ b2, b2 = inc fam := ⟨_, rfl⟩
    have hw85 := inc85_any (.slice a3 fam.length cap3) fam _ (HT.out.ext HE2.out)
    rw [← hb2] at hw85
    have H85 := Lib.hid hw85; have HB2 := Lib.hid hb2
    clear hw85 hb2
    go_wp2_with fail
    refine H85.out.mono ?_
    rintro e w4 ⟨rfl, hb4⟩
    have HX4 := Lib.hid hb4; have HE4 := Lib.hid (HE2.out.trans hb4)
    have hBk := block_ext hb4 (heap_alloc_new w2 (.cells #[.pointer (some ⟨r2, 0, none⟩), .slice a4 (ints (freeIx ms L qs)).length cap4, .map (some mb)] 93))
    have d0 : w4.cell? ⟨w2.heap.size, 0, none⟩ = some (.pointer (some ⟨r2, 0, none⟩)) := by rw [cell_of_row _ _ _ _ _ _ hBk]; rfl
    have d1 : w4.cell? ⟨w2.heap.size, 1, none⟩ = some (.slice a4 (ints (freeIx ms L qs)).length cap4) := by rw [cell_of_row _ _ _ _ _ _ hBk]; rfl
    have d2 : w4.cell? ⟨w2.heap.size, 2, none⟩ = some (.map (some mb)) := by rw [cell_of_row _ _ _ _ _ _ hBk]; rfl
    clear hb4 hBk
    cases b2 with
    | false =>
      go_wp2
      go_ret
      rw [HV.out, ← HB2.out]
      exact ⟨rfl, HE4.out⟩
    | true =>
      have hnat : fam = ints (fam.map Int.toNat) := ints_toNat fam fun x hx => by
        have := List.all_eq_true.1 HB1.out.symm x hx
        simp at this; omega
      have h86 := isFamily86 mb 200 (some ⟨r2, 0, none⟩) (.slice a4 (ints (freeIx ms L qs)).length cap4) (.slice a3 fam.length cap3) (freeIx ms L qs) (fam.map Int.toNat) (askF ms L qs) w4 (HCM.out.ext HX4.out) (HRU.out.ext HX4.out) (by rw [← hnat]; exact HT.out.ext HE4.out) HC.out (fun m hm => by
        obtain ⟨x, hx, rfl⟩ := List.mem_map.1 hm
        have := List.all_eq_true.1 HB1.out.symm x hx
        simp at this; omega)
      obtain ⟨b3, hb3⟩ : ∃ b3, b3 = famB (freeIx ms L qs) (askF ms L qs) (fam.map Int.toNat) := ⟨_, rfl⟩
      rw [← hb3] at h86
      have H86 := Lib.hid h86; have HB3 := Lib.hid hb3
      clear h86 hb3 hnat
      go_wp2_with fail
      refine H86.out.mono ?_
      rintro e w5 ⟨rfl, hb5⟩
      have HE5 := Lib.hid (HE4.out.trans hb5)
      clear hb5
      cases b3 with
      | false =>
        go_wp2
        go_ret
        rw [HV.out, ← HB2.out, ← HB3.out]
        exact ⟨rfl, HE5.out⟩
      | true =>
        go_wp2
        go_ret
        rw [HV.out, ← HB2.out, ← HB3.out]
        exact ⟨rfl, HE5.out⟩
end Go.Proofs.Ytlgdnbpboonhdaa
