/- MarkClashes, by its contract. -/
import Derived.Test.YtlgdnbpboonhdaaO7
import Derived.Test.YtlgdnbpboonhdaaX2
namespace Go.Proofs.Ytlgdnbpboonhdaa
open Go.RowKit Go.Shelf Go.Maps
set_option linter.unusedVariables false
attribute [local go_sem] Oper.semAt_some
def Same2 (w : World) (f g : FuncId) (args : Array Value) : Prop :=
  ∃ x c : Int, (∀ W, Ext w W → Calls Try.prog f args W fun e w' => e = .returned (.tuple #[.int .i64 x, .int .i64 c]) ∧ Ext W w') ∧ (∀ W, Ext w W → Calls Try.prog g args W fun e w' => e = .returned (.tuple #[.int .i64 x, .int .i64 c]) ∧ Ext W w')
theorem clash_both (S L i k : Int) (v : Value) (xs : List Int) (w : World) (hr : Reads w v xs) : Same2 w 24 25 #[.agg #[.int .i64 S, .int .i64 L, v], .int .i64 i, .int .i64 k] := by
  by_cases hc : chk S L xs = 0
  · obtain ⟨S', L', ms, rfl, rfl, rfl, hv⟩ := chk_zero hc
    by_cases hi : (0 ≤ i ∧ i < ms.length) ∧ 0 ≤ k ∧ k < ms.length
    · obtain ⟨⟨hi1, hi2⟩, hk1, hk2⟩ := hi
      obtain ⟨i, rfl⟩ := Int.eq_ofNat_of_zero_le hi1
      obtain ⟨k, rfl⟩ := Int.eq_ofNat_of_zero_le hk1
      have h25 := fun W (hW : Ext w W) => clash25_ok S' L' i k ms v W hv (hr.ext hW) (by omega) (by omega)
      by_cases hne : i = k
      · subst hne
        refine ⟨0, 16, fun W hW => clash24_same S' L' i ms v W hv (hr.ext hW) (by omega), fun W hW => ?_⟩
        have := h25 W hW
        rwa [if_pos rfl] at this
      · have h24 := fun W (hW : Ext w W) => clash24_ok S' L' i k ms v W hv (hr.ext hW) (by omega) (by omega) hne
        rw [clash2_both hv (by omega) (by omega) hne] at h24
        rw [if_neg hne] at h25
        split at h24
        · next h => rw [if_pos h] at h25; exact ⟨0, 5, h24, h25⟩
        · next h => rw [if_neg h] at h25; exact ⟨_, 0, h24, h25⟩
    · refine ⟨0, 2, fun W hW => clash24_arg S' L' i k ms v W hv (hr.ext hW) ?_, fun W hW => clash25_arg S' L' i k ms v W hv (hr.ext hW) hi⟩
      rw [Bool.eq_false_iff]
      intro h
      simp [inR] at h
      apply hi
      omega
  · exact ⟨0, _, fun W hW => clash24_err S L i k xs v W (hr.ext hW) hc, fun W hW => clash25_err S L i k xs v W (hr.ext hW) hc⟩
theorem margin_both (S L : Int) (v : Value) (xs : List Int) (w : World) (hr : Reads w v xs) : Same2 w 28 29 #[.agg #[.int .i64 S, .int .i64 L, v]] := by
  by_cases hc : chk S L xs = 0
  · obtain ⟨S', L', ms, rfl, rfl, rfl, hv⟩ := chk_zero hc
    exact ⟨_, 0, fun W hW => margin28_ok S' L' ms v W hv (hr.ext hW), fun W hW => margin29_ok S' L' ms v W hv (hr.ext hW)⟩
  · exact ⟨0, _, fun W hW => margin28_err S L xs v W (hr.ext hW) hc, fun W hW => margin29_err S L xs v W (hr.ext hW) hc⟩
def Same3 (w : World) (f g : FuncId) (args : Array Value) : Prop :=
  ∃ x y c : Int, (∀ W, Ext w W → Calls Try.prog f args W fun e w' => e = .returned (.tuple #[.int .i64 x, .int .i64 y, .int .i64 c]) ∧ Ext W w') ∧ (∀ W, Ext w W → Calls Try.prog g args W fun e w' => e = .returned (.tuple #[.int .i64 x, .int .i64 y, .int .i64 c]) ∧ Ext W w')
theorem apart_both (S L : Int) (v : Value) (xs : List Int) (w : World) (hr : Reads w v xs) : Same3 w 26 27 #[.agg #[.int .i64 S, .int .i64 L, v]] := by
  by_cases hc : chk S L xs = 0
  · obtain ⟨S', L', ms, rfl, rfl, rfl, hv⟩ := chk_zero hc
    exact ⟨_, _, _, fun W hW => apart26_ok S' L' ms v W hv (hr.ext hW), fun W hW => apart27_ok S' L' ms v W hv (hr.ext hW)⟩
  · exact ⟨0, 0, _, fun W hW => apart26_err S L xs v W (hr.ext hW) hc, fun W hW => apart27_err S L xs v W (hr.ext hW) hc⟩
set_option maxRecDepth 100000 in
set_option maxHeartbeats 4000000 in
theorem clashes4 (S L x y : Int) (a : Option Addr) (cap : Nat) (xs : List Int) (w : World) (hlen : xs.length ≤ cap ∧ cap ≤ 9223372036854775807) (hr : xs.length ≤ 5000 → Reads w (.slice a xs.length cap) xs) :
    Calls Try.prog 4 #[.agg #[.int .i64 S, .int .i64 L, .slice a xs.length cap], .int .i64 x, .int .i64 y] w fun e w' => e = .returned (.bool true) ∧ Ext w w' := by
  have E0 := Lib.hid ((Ext.refl w).alloc (.cells #[.int .i64 S, .int .i64 L, .slice a xs.length cap] 24))
  have P0 := Lib.hid (OffAt.new w (.int .i64 S) (.int .i64 L) (.slice a xs.length cap) 24)
  by_cases h20 : 20 < xs.length
  · have hg : decide (20 < xs.length) = true := by simpa using h20
    have HG := Lib.hid hg
    have hn : xs.length ≤ 9223372036854775807 := by omega
    clear hr hg
    go_enter Try.func4, Try.ntmps4
    go_wp2_with fail
    refine (great17 S L _ _ _ _ hn).mono ?_
    rintro e w1 ⟨rfl, hb⟩
    have HE := Lib.hid (E0.out.trans hb); clear hb
    rw [HG.out]
    go_wp2_with fail
    refine (works18 _).mono ?_
    rintro e w2 ⟨rfl, hb⟩
    replace HE := Lib.hid (HE.out.trans hb); clear hb
    go_wp2
    go_ret
    exact ⟨rfl, HE.out⟩
  · have hR := hr (by omega)
    have hg : decide (20 < xs.length) = false := by simpa using h20
    have HG := Lib.hid hg
    have hn : xs.length ≤ 9223372036854775807 := by omega
    obtain ⟨v1, c1, h24, h25⟩ := clash_both S L x y _ xs w hR
    obtain ⟨v2, v3, c2, h26, h27⟩ := apart_both S L _ xs w hR
    obtain ⟨v4, c3, h28, h29⟩ := margin_both S L _ xs w hR
    have H24 := Lib.hid h24; have H25 := Lib.hid h25; have H26 := Lib.hid h26; have H27 := Lib.hid h27; have H28 := Lib.hid h28; have H29 := Lib.hid h29
    clear hr hg hR h24 h25 h26 h27 h28 h29
    go_enter Try.func4, Try.ntmps4
    go_wp2_with fail
    refine (great17 S L _ _ _ _ hn).mono ?_
    rintro e w1 ⟨rfl, hb⟩
    obtain ⟨g1, g2, g3⟩ := P0.out.ext hb
    have HE := Lib.hid (E0.out.trans hb); clear hb
    rw [HG.out]
    go_wp2_with fail
    refine (H24.out _ HE.out).mono ?_
    rintro e w2 ⟨rfl, hb⟩
    obtain ⟨g1, g2, g3⟩ := OffAt.ext ⟨g1, g2, g3⟩ hb
    replace HE := Lib.hid (HE.out.trans hb); clear hb
    go_wp2_with fail
    refine (H25.out _ HE.out).mono ?_
    rintro e w3 ⟨rfl, hb⟩
    obtain ⟨g1, g2, g3⟩ := OffAt.ext ⟨g1, g2, g3⟩ hb
    replace HE := Lib.hid (HE.out.trans hb); clear hb
    go_wp2_with fail
    refine (H26.out _ HE.out).mono ?_
    rintro e w4 ⟨rfl, hb⟩
    obtain ⟨g1, g2, g3⟩ := OffAt.ext ⟨g1, g2, g3⟩ hb
    replace HE := Lib.hid (HE.out.trans hb); clear hb
    go_wp2_with fail
    refine (H27.out _ HE.out).mono ?_
    rintro e w5 ⟨rfl, hb⟩
    obtain ⟨g1, g2, g3⟩ := OffAt.ext ⟨g1, g2, g3⟩ hb
    replace HE := Lib.hid (HE.out.trans hb); clear hb
    go_wp2_with fail
    refine (H28.out _ HE.out).mono ?_
    rintro e w6 ⟨rfl, hb⟩
    obtain ⟨g1, g2, g3⟩ := OffAt.ext ⟨g1, g2, g3⟩ hb
    replace HE := Lib.hid (HE.out.trans hb); clear hb
    go_wp2_with fail
    refine (H29.out _ HE.out).mono ?_
    rintro e w7 ⟨rfl, hb⟩
    replace HE := Lib.hid (HE.out.trans hb); clear hb
    go_wp2_with fail
    refine (works18 _).mono ?_
    rintro e w8 ⟨rfl, hb⟩
    replace HE := Lib.hid (HE.out.trans hb); clear hb
    go_wp2
    go_ret
    exact ⟨rfl, HE.out⟩
end Go.Proofs.Ytlgdnbpboonhdaa
