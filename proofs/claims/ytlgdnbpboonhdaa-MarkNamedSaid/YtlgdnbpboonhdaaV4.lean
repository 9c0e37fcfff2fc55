/- MarkKept: no strokes tell the owner. MarkKept: some strokes tell the owner. MarkKept, by its contract. -/
import Derived.Test.YtlgdnbpboonhdaaV1
import Derived.Test.YtlgdnbpboonhdaaE3
namespace Go.Proofs.Ytlgdnbpboonhdaa
open Go.RowKit Go.Shelf Go.Maps
set_option linter.unusedVariables false
attribute [local go_sem] Oper.semAt_some
set_option maxRecDepth 100000 in
set_option maxHeartbeats 8000000 in
theorem kept12_none (S L : Nat) (a : Option Addr) (cap : Nat) (ms : List Nat) (y x : Nat) (hy : y ≤ 255) (hx : x ≤ 65535) (w : World) (hv : Valid S L ms) (hR : Reads w (.slice a (ints ms).length cap) (ints ms))
    (hf : ∀ W, Ext w W → Calls Try.prog 41 #[.agg #[.int .i64 (S : Int), .int .i64 (L : Int), .slice a (ints ms).length cap]] W fun e w' => e = .returned (.bool true) ∧ Ext W w')
    (hn0 : ms.length ≠ 0) (hko : keepO S ms (y % ms.length) = none) :
    Calls Try.prog 12 #[.agg #[.int .i64 (S : Int), .int .i64 (L : Int), .slice a (ints ms).length cap], .int .u8 (y : Int), .int .u16 (x : Int)] w fun e w' => e = .returned (.bool true) ∧ Ext w w' := by
  have E0 := Lib.hid ((Ext.refl w).alloc (.cells #[.int .i64 (S : Int), .int .i64 (L : Int), .slice a (ints ms).length cap] 24))
  have P0 := Lib.hid (OffAt.new w (.int .i64 (S : Int)) (.int .i64 (L : Int)) (.slice a (ints ms).length cap) 24)
  rw [ints_length] at hR hf E0 P0 ⊢
  have e6 := worn_mod x S hv.1 hv.2.1
  have hwv := worn_le x S
  have hwz := worn_nz S hv.1 hv.2.1
  have hfs := full_lt S hv.2.1
  have hS1 := hv.1
  have hS2 := hv.2.1
  have hxv : x % 2 ^ S < 1024 := by omega
  generalize x % 2 ^ S = xv at *
  obtain ⟨P, hP⟩ : ∃ P, P = wrap64 (2 ^ S) := ⟨_, rfl⟩
  have hPn : 0 ≤ P := by
    rw [hP]
    have : S = 1 ∨ S = 2 ∨ S = 3 ∨ S = 4 ∨ S = 5 ∨ S = 6 ∨ S = 7 ∨ S = 8 ∨ S = 9 ∨ S = 10 := by omega
    rcases this with rfl | rfl | rfl | rfl | rfl | rfl | rfl | rfl | rfl | rfl <;> simp [wrap64]
  have e6t : ((x : Nat) : Int).tmod (wrap64 (2 ^ S)) = (xv : Int) := by rw [← e6]; exact Int.tmod_eq_emod_of_nonneg (by omega)
  have hmin : min S 64 = S := Nat.min_eq_left (by omega)
  have e6u : ((x : Nat) : Int).tmod (wrap64 (2 ^ min S 64)) = (xv : Int) := by rw [hmin]; exact e6t
  have hwzu : ¬ wrap64 (2 ^ min S 64) = 0 := by rw [hmin]; exact hwz
  clear hP hPn P
  obtain ⟨i, hi⟩ : ∃ i, i = y % ms.length := ⟨_, rfl⟩
  rw [← hi] at hko
  have hin : i < ms.length := by rw [hi]; exact Nat.mod_lt _ (by omega)
  have e7 : (y : Int) % (ms.length : Int) = (i : Int) := by rw [hi]; simp
  clear hi
  obtain ⟨m, hm⟩ := get_some hin
  have hm2 := hv.lt hm
  have hms := mAt_of hm
  have hmf := (hv.2.2.2.2 m (List.mem_of_getElem? hm)).2
  have e9 := and_nat xv m (by omega) (by omega)
  have hos : sub (xv &&& m) m = true := sub_and_right xv m
  have holt : xv &&& m < 1024 := and_lt xv m hm2
  have hol := sub_le _ _ hos
  have hfirst := keepO_first hv i hm
  have HF := Lib.hid (hf _ E0.out)
  have h32 := fun W (h : Ext w W) => keep32_ok S L i ms _ W hv (hR.ext h) hin
  rw [hko] at h32 hfirst
  have H32 := Lib.hid h32
  have H46 := Lib.hid (fun (z : Nat) (hz : z < 1024) W (h : Ext w W) => tells46 S L i z ms _ W hv (hR.ext h) hin hz)
  have HR := Lib.hid hR
  have HM := Lib.hid hm
  have ht : tellsB ms i m = false := by
    rw [Bool.eq_false_iff]
    intro h
    have h2 := (mem_tellL ms i (m + 1) m).2 ⟨by omega, h⟩
    have h3 : tellL ms i (m + 1) = [] := hfirst
    rw [h3] at h2; cases h2
  have h46 := H46.out m hm2
  rw [ht] at h46
  have H46m := Lib.hid h46
  clear h46 ht
  generalize xv &&& m = o at *
  have hn12 := hv.2.2.2.1
  obtain ⟨b0, off0, hbo, -, -⟩ := hR.atN hm
  subst hbo
  obtain ⟨n, hn⟩ : ∃ n, n = ms.length := ⟨_, rfl⟩
  have HN := Lib.hid hn
  rw [← hn] at hn0 hn12 hin e7 HF H32 H46 H46m E0 P0 HR ⊢
  have hnz := len_nil_false hn0
  have hnz2 : ¬ (n : Int) = 0 := by omega
  have hia : (0 : Int) ≤ (i : Int) := by omega
  have hib : (i : Int) < (n : Int) := by omega
  clear hf hR hv hm hms hn hn0 h32 hfirst hmf hko
  go_enter Try.func12, Try.ntmps12
  go_wp2_with fail
  refine HF.out.mono ?_
  rintro e w1 ⟨rfl, hb⟩
  obtain ⟨g1, g2, g3⟩ := P0.out.ext hb
  have HE := Lib.hid (E0.out.trans hb); clear hb
  go_wp2_with fail
  refine (H32.out _ HE.out).mono ?_
  rintro e w2 ⟨rfl, hb⟩
  obtain ⟨g1, g2, g3⟩ := OffAt.ext ⟨g1, g2, g3⟩ hb
  replace HE := Lib.hid (HE.out.trans hb); clear hb
  obtain ⟨b1, off1, hbo, -, hcq⟩ := (HR.out.ext HE.out).atN HM.out
  cases hbo
  simp only [keepV]
  go_wp2
  go_quiet (fail)
  go_wp2
  have KP : ∀ X X' : World, (X.cell? ⟨w.heap.size, 0, none⟩ = some (.int .i64 (S : Int)) ∧ X.cell? ⟨w.heap.size, 1, none⟩ = some (.int .i64 (L : Int)) ∧ X.cell? ⟨w.heap.size, 2, none⟩ = some (.slice (some ⟨b0, off0, none⟩) n cap) ∧ X.cell? ⟨b0, off0 + i, none⟩ = some (.int .i64 (m : Int)) ∧ Hid (Ext w X)) → Ext X X' → (X'.cell? ⟨w.heap.size, 0, none⟩ = some (.int .i64 (S : Int)) ∧ X'.cell? ⟨w.heap.size, 1, none⟩ = some (.int .i64 (L : Int)) ∧ X'.cell? ⟨w.heap.size, 2, none⟩ = some (.slice (some ⟨b0, off0, none⟩) n cap) ∧ X'.cell? ⟨b0, off0 + i, none⟩ = some (.int .i64 (m : Int)) ∧ Hid (Ext w X')) :=
    fun X X' h hb => ⟨cell_ext hb h.1, cell_ext hb h.2.1, cell_ext hb h.2.2.1, cell_ext hb h.2.2.2.1, Ext.trans h.2.2.2.2.out hb⟩
  have HKP := Lib.hid KP; clear KP
  go_region_held3 (fun X => X.cell? ⟨w.heap.size, 0, none⟩ = some (.int .i64 (S : Int)) ∧ X.cell? ⟨w.heap.size, 1, none⟩ = some (.int .i64 (L : Int)) ∧ X.cell? ⟨w.heap.size, 2, none⟩ = some (.slice (some ⟨b0, off0, none⟩) n cap) ∧ X.cell? ⟨b0, off0 + i, none⟩ = some (.int .i64 (m : Int)) ∧ Hid (Ext w X))
    (first | assumption | exact ⟨g1, g2, g3, hcq, Ext.drew (HE.out.drewN _ : Ext _ _)⟩ | exact HKP.out _ _ (by assumption) hb | fail)
    (first | (go_at_call 46; refine (H46m.out _ (of_and5 (by assumption))).mono ?_; rintro e w' ⟨rfl, hb⟩)
           | (go_at_call 18; refine (works18 _).mono ?_; rintro e w' ⟨rfl, hb⟩)
           | fail)
  all_goals
    rename_i hk
    have HK := Lib.hid (of_and5 hk)
    go_wp2
    go_ret
    exact ⟨rfl, HK.out⟩
end Go.Proofs.Ytlgdnbpboonhdaa
namespace Go.Proofs.Ytlgdnbpboonhdaa
open Go.RowKit Go.Shelf Go.Maps
set_option linter.unusedVariables false
attribute [local go_sem] Oper.semAt_some
set_option maxRecDepth 100000 in
set_option maxHeartbeats 8000000 in
theorem kept12_some (S L : Nat) (a : Option Addr) (cap : Nat) (ms : List Nat) (y x : Nat) (hy : y ≤ 255) (hx : x ≤ 65535) (w : World) (hv : Valid S L ms) (hR : Reads w (.slice a (ints ms).length cap) (ints ms))
    (hf : ∀ W, Ext w W → Calls Try.prog 41 #[.agg #[.int .i64 (S : Int), .int .i64 (L : Int), .slice a (ints ms).length cap]] W fun e w' => e = .returned (.bool true) ∧ Ext W w')
    (hn0 : ms.length ≠ 0) (k : Nat) (hko : keepO S ms (y % ms.length) = some k) :
    Calls Try.prog 12 #[.agg #[.int .i64 (S : Int), .int .i64 (L : Int), .slice a (ints ms).length cap], .int .u8 (y : Int), .int .u16 (x : Int)] w fun e w' => e = .returned (.bool true) ∧ Ext w w' := by
  have E0 := Lib.hid ((Ext.refl w).alloc (.cells #[.int .i64 (S : Int), .int .i64 (L : Int), .slice a (ints ms).length cap] 24))
  have P0 := Lib.hid (OffAt.new w (.int .i64 (S : Int)) (.int .i64 (L : Int)) (.slice a (ints ms).length cap) 24)
  rw [ints_length] at hR hf E0 P0 ⊢
  have e6 := worn_mod x S hv.1 hv.2.1
  have hwv := worn_le x S
  have hwz := worn_nz S hv.1 hv.2.1
  have hfs := full_lt S hv.2.1
  have hS1 := hv.1
  have hS2 := hv.2.1
  have hxv : x % 2 ^ S < 1024 := by omega
  generalize x % 2 ^ S = xv at *
  obtain ⟨P, hP⟩ : ∃ P, P = wrap64 (2 ^ S) := ⟨_, rfl⟩
  have hPn : 0 ≤ P := by
    rw [hP]
    have : S = 1 ∨ S = 2 ∨ S = 3 ∨ S = 4 ∨ S = 5 ∨ S = 6 ∨ S = 7 ∨ S = 8 ∨ S = 9 ∨ S = 10 := by omega
    rcases this with rfl | rfl | rfl | rfl | rfl | rfl | rfl | rfl | rfl | rfl <;> simp [wrap64]
  have e6t : ((x : Nat) : Int).tmod (wrap64 (2 ^ S)) = (xv : Int) := by rw [← e6]; exact Int.tmod_eq_emod_of_nonneg (by omega)
  have hmin : min S 64 = S := Nat.min_eq_left (by omega)
  have e6u : ((x : Nat) : Int).tmod (wrap64 (2 ^ min S 64)) = (xv : Int) := by rw [hmin]; exact e6t
  have hwzu : ¬ wrap64 (2 ^ min S 64) = 0 := by rw [hmin]; exact hwz
  clear hP hPn P
  obtain ⟨i, hi⟩ : ∃ i, i = y % ms.length := ⟨_, rfl⟩
  rw [← hi] at hko
  have hin : i < ms.length := by rw [hi]; exact Nat.mod_lt _ (by omega)
  have e7 : (y : Int) % (ms.length : Int) = (i : Int) := by rw [hi]; simp
  clear hi
  obtain ⟨m, hm⟩ := get_some hin
  have hm2 := hv.lt hm
  have hms := mAt_of hm
  have hmf := (hv.2.2.2.2 m (List.mem_of_getElem? hm)).2
  have e9 := and_nat xv m (by omega) (by omega)
  have hos : sub (xv &&& m) m = true := sub_and_right xv m
  have holt : xv &&& m < 1024 := and_lt xv m hm2
  have hol := sub_le _ _ hos
  have hfirst := keepO_first hv i hm
  have HF := Lib.hid (hf _ E0.out)
  have h32 := fun W (h : Ext w W) => keep32_ok S L i ms _ W hv (hR.ext h) hin
  rw [hko] at h32 hfirst
  have H32 := Lib.hid h32
  have H46 := Lib.hid (fun (z : Nat) (hz : z < 1024) W (h : Ext w W) => tells46 S L i z ms _ W hv (hR.ext h) hin hz)
  have HR := Lib.hid hR
  have HM := Lib.hid hm
  obtain ⟨hk1, hk2⟩ : k ∈ tellL ms i (m + 1) ∧ ∀ x ∈ tellL ms i (m + 1), key k ≤ key x := hfirst
  rw [mem_tellL] at hk1
  have hk10 : k < 1024 := by omega
  have hkf : k ≤ full S := by omega
  have e11 := or_nat k (xv &&& m) (by omega) (by omega)
  have hor : k ||| (xv &&& m) < 1024 := Nat.or_lt_two_pow (n := 10) hk10 holt
  have h46a := H46.out k hk10
  rw [hk1.2] at h46a
  have H46a := Lib.hid h46a
  have h46b := H46.out (k ||| (xv &&& m)) hor
  rw [tells_more ms i k (xv &&& m) hk1.2 (by rw [hms]; exact hos)] at h46b
  have H46b := Lib.hid h46b
  have H46c := Lib.hid (H46.out (xv &&& m) holt)
  have HTELL := Lib.hid (show key (xv &&& m) < key k → tellsB ms i (xv &&& m) = false from fun h => by
    rw [Bool.eq_false_iff]
    intro ht
    have := hk2 _ ((mem_tellL ms i (m + 1) _).2 ⟨by omega, ht⟩)
    omega)
  have HKEY := Lib.hid (key_lt (xv &&& m) k holt hk10)
  have HS1 := Lib.hid (fun W => size_any (xv &&& m) holt W)
  have HS2 := Lib.hid (fun W => size_any k hk10 W)
  have H48 := Lib.hid (fun W => first48_any (xv &&& m) k holt hk10 W)
  have H43 := Lib.hid (fun v W => all43_any S (L : Int) v W hv.1 hv.2.1)
  have hkf' : decide ((full S : Int) < (k : Int)) = false := by simp; omega
  clear h46a h46b hk1 hk2
  generalize full S = fS at *
  generalize k ||| (xv &&& m) = ko at *
  generalize xv &&& m = o at *
  have hn12 := hv.2.2.2.1
  obtain ⟨b0, off0, hbo, -, -⟩ := hR.atN hm
  subst hbo
  obtain ⟨n, hn⟩ : ∃ n, n = ms.length := ⟨_, rfl⟩
  have HN := Lib.hid hn
  rw [← hn] at hn0 hn12 hin e7 HF H32 H46a H46b H46c E0 P0 HR ⊢
  have hnz := len_nil_false hn0
  have hnz2 : ¬ (n : Int) = 0 := by omega
  have hia : (0 : Int) ≤ (i : Int) := by omega
  have hib : (i : Int) < (n : Int) := by omega
  clear hf hR hv hm hms hn hn0 h32 hmf hko
  go_enter Try.func12, Try.ntmps12
  go_wp2_with fail
  refine HF.out.mono ?_
  rintro e w1 ⟨rfl, hb⟩
  obtain ⟨g1, g2, g3⟩ := P0.out.ext hb
  have HE := Lib.hid (E0.out.trans hb); clear hb
  go_wp2_with fail
  refine (H32.out _ HE.out).mono ?_
  rintro e w2 ⟨rfl, hb⟩
  obtain ⟨g1, g2, g3⟩ := OffAt.ext ⟨g1, g2, g3⟩ hb
  replace HE := Lib.hid (HE.out.trans hb); clear hb
  obtain ⟨b1, off1, hbo, -, hcq⟩ := (HR.out.ext HE.out).atN HM.out
  cases hbo
  simp only [keepV]
  go_wp2
  go_quiet (fail)
  go_wp2_with fail
  refine (H43.out _ _).mono ?_
  rintro e w4 ⟨rfl, hb⟩
  obtain ⟨q1, q2, q3⟩ := OffAt.ext ⟨g1, g2, g3⟩ ((Ext.drewN (Ext.refl _) _ : Ext w2 _).trans hb)
  replace HE := Lib.hid ((HE.out.drewN _ : Ext _ _).trans hb); clear hb
  go_wp2_with fail
  refine (H46a.out _ HE.out).mono ?_
  rintro e w5 ⟨rfl, hb⟩
  obtain ⟨q1, q2, q3⟩ := OffAt.ext ⟨q1, q2, q3⟩ hb
  replace HE := Lib.hid (HE.out.trans hb); clear hb
  go_wp2_with fail
  refine (H46b.out _ HE.out).mono ?_
  rintro e w6 ⟨rfl, hb⟩
  obtain ⟨q1, q2, q3⟩ := OffAt.ext ⟨q1, q2, q3⟩ hb
  replace HE := Lib.hid (HE.out.trans hb); clear hb
  go_wp2_with fail
  refine (HS1.out _).mono ?_
  rintro e w' ⟨rfl, rfl⟩
  go_wp2_with fail
  refine (HS2.out _).mono ?_
  rintro e w' ⟨rfl, rfl⟩
  by_cases hA : pc o < pc k
  · have h46 := H46c.out
    rw [HTELL.out (HKEY.out.2 (.inl hA))] at h46
    have H46d := Lib.hid h46
    clear h46
    go_wp2_with fail
    refine (H46d.out _ HE.out).mono ?_
    rintro e w7 ⟨rfl, hb⟩
    replace HE := Lib.hid (HE.out.trans hb); clear hb
    go_wp2_with fail
    refine (works18 _).mono ?_
    rintro e w8 ⟨rfl, hb⟩
    replace HE := Lib.hid (HE.out.trans hb); clear hb
    go_wp2
    go_ret
    exact ⟨rfl, HE.out⟩
  · by_cases hB : pc o = pc k
    · have heq : ((pc o : Int) == (pc k : Int)) = true := by simp; omega
      have h48 := H48.out
      cases hf : fst 10 0 o k
      · rw [hf] at h48
        have H48b := Lib.hid h48
        clear h48 hf
        go_wp2_with fail
        refine (HS1.out _).mono ?_
        rintro e w' ⟨rfl, rfl⟩
        go_wp2_with fail
        refine (HS2.out _).mono ?_
        rintro e w' ⟨rfl, rfl⟩
        go_wp2_with fail
        refine (H48b.out _).mono ?_
        rintro e w7 ⟨rfl, hb⟩
        obtain ⟨q1, q2, q3⟩ := OffAt.ext ⟨q1, q2, q3⟩ hb
        replace HE := Lib.hid (HE.out.trans hb); clear hb
        go_wp2_with fail
        refine (works18 _).mono ?_
        rintro e w8 ⟨rfl, hb⟩
        replace HE := Lib.hid (HE.out.trans hb); clear hb
        go_wp2
        go_ret
        exact ⟨rfl, HE.out⟩
      · rw [hf] at h48
        have H48b := Lib.hid h48
        have h46 := H46c.out
        rw [HTELL.out (HKEY.out.2 (.inr ⟨hB, hf⟩))] at h46
        have H46d := Lib.hid h46
        clear h48 hf h46
        go_wp2_with fail
        refine (HS1.out _).mono ?_
        rintro e w' ⟨rfl, rfl⟩
        go_wp2_with fail
        refine (HS2.out _).mono ?_
        rintro e w' ⟨rfl, rfl⟩
        go_wp2_with fail
        refine (H48b.out _).mono ?_
        rintro e w7 ⟨rfl, hb⟩
        obtain ⟨q1, q2, q3⟩ := OffAt.ext ⟨q1, q2, q3⟩ hb
        replace HE := Lib.hid (HE.out.trans hb); clear hb
        go_wp2_with fail
        refine (H46d.out _ HE.out).mono ?_
        rintro e w8 ⟨rfl, hb⟩
        replace HE := Lib.hid (HE.out.trans hb); clear hb
        go_wp2_with fail
        refine (works18 _).mono ?_
        rintro e w9 ⟨rfl, hb⟩
        replace HE := Lib.hid (HE.out.trans hb); clear hb
        go_wp2
        go_ret
        exact ⟨rfl, HE.out⟩
    · have heq : ((pc o : Int) == (pc k : Int)) = false := by simp; omega
      go_wp2_with fail
      refine (HS1.out _).mono ?_
      rintro e w' ⟨rfl, rfl⟩
      go_wp2_with fail
      refine (HS2.out _).mono ?_
      rintro e w' ⟨rfl, rfl⟩
      go_wp2_with fail
      refine (works18 _).mono ?_
      rintro e w8 ⟨rfl, hb⟩
      replace HE := Lib.hid (HE.out.trans hb); clear hb
      go_wp2
      go_ret
      exact ⟨rfl, HE.out⟩
end Go.Proofs.Ytlgdnbpboonhdaa
namespace Go.Proofs.Ytlgdnbpboonhdaa
open Go.RowKit Go.Shelf Go.Maps
set_option linter.unusedVariables false
attribute [local go_sem] Oper.semAt_some
set_option maxRecDepth 100000 in
set_option maxHeartbeats 4000000 in
theorem kept12 (S L y x : Int) (a : Option Addr) (cap : Nat) (xs : List Int) (hy : 0 ≤ y ∧ y ≤ 255) (hx : 0 ≤ x ∧ x ≤ 65535) (w : World) (hlen : xs.length ≤ cap ∧ cap ≤ 9223372036854775807) (hr : xs.length ≤ 5000 → Reads w (.slice a xs.length cap) xs) :
    Calls Try.prog 12 #[.agg #[.int .i64 S, .int .i64 L, .slice a xs.length cap], .int .u8 y, .int .u16 x] w fun e w' => e = .returned (.bool true) ∧ Ext w w' := by
  obtain ⟨x, rfl⟩ := Int.eq_ofNat_of_zero_le hx.1
  obtain ⟨y, rfl⟩ := Int.eq_ofNat_of_zero_le hy.1
  have E0 := Lib.hid ((Ext.refl w).alloc (.cells #[.int .i64 S, .int .i64 L, .slice a xs.length cap] 24))
  rcases fine_cases S L a cap xs w hlen hr with hf | ⟨S', L', ms, rfl, rfl, rfl, hv, hR, hf⟩
  · skip
    have HF := Lib.hid (hf _ E0.out)
    clear hf hr
    go_enter Try.func12, Try.ntmps12
    go_wp2_with fail
    refine HF.out.mono ?_
    rintro e w1 ⟨rfl, hb⟩
    have HE := Lib.hid (E0.out.trans hb); clear hb
    go_wp2_with fail
    refine (works18 _).mono ?_
    rintro e w2 ⟨rfl, hb⟩
    replace HE := Lib.hid (HE.out.trans hb); clear hb
    go_wp2
    go_ret
    exact ⟨rfl, HE.out⟩
  · cases ms with
    | nil =>
      clear hR
      have hf := hf _ E0.out
      have HF := Lib.hid hf
      have P0 := Lib.hid (OffAt.new w (.int .i64 (S' : Int)) (.int .i64 (L' : Int)) (.slice a (ints []).length cap) 24)
      clear hf
      rw [show (ints []).length = 0 from rfl] at HF P0 E0 ⊢
      go_enter Try.func12, Try.ntmps12
      go_wp2_with fail
      refine HF.out.mono ?_
      rintro e w1 ⟨rfl, hb⟩
      obtain ⟨g1, g2, g3⟩ := P0.out.ext hb
      have HE := Lib.hid (E0.out.trans hb); clear hb
      go_wp2_with fail
      refine (works18 _).mono ?_
      rintro e w2 ⟨rfl, hb⟩
      replace HE := Lib.hid (HE.out.trans hb); clear hb
      go_wp2
      go_ret
      exact ⟨rfl, HE.out⟩
    | cons m ms =>
      cases hk : keepO S' (m :: ms) (y % (m :: ms).length) with
      | none => exact kept12_none S' L' a cap (m :: ms) y x (by omega) (by omega) w hv hR hf (by simp) hk
      | some k => exact kept12_some S' L' a cap (m :: ms) y x (by omega) (by omega) w hv hR hf (by simp) k hk
end Go.Proofs.Ytlgdnbpboonhdaa
