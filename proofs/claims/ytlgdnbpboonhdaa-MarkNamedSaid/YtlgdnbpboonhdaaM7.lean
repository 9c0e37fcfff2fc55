/- Contracts of the statements' small functions on offices, and of the reference's owners. -/
import Derived.Test.YtlgdnbpboonhdaaV
namespace Go.Proofs.Ytlgdnbpboonhdaa
open Go.RowKit
set_option linter.unusedVariables false
theorem isOwner63 (S L n : Int) (a : Option Addr) (len cap : Nat) (w : World) (hl : len ≤ 5000) :
    Calls Try.prog 63 #[.agg #[.int .i64 S, .int .i64 L, .slice a len cap], .int .i64 n] w fun e w' => e = .returned (.bool (decide (0 ≤ n ∧ n < len))) ∧ Ext w w' := by
  have E0 := Lib.hid ((Ext.refl w).alloc (.cells #[.int .i64 S, .int .i64 L, .slice a len cap] 24))
  by_cases h : 0 ≤ n
  · by_cases h2 : n < len
    all_goals
      go_enter Try.func63, Try.ntmps63
      go_wp2
      go_ret
      refine ⟨ret_bool ?_, E0.out⟩
      simp; omega
  · go_enter Try.func63, Try.ntmps63
    go_wp2
    go_ret
    refine ⟨ret_bool ?_, E0.out⟩
    simp; omega
theorem great17 (S L : Int) (a : Option Addr) (len cap : Nat) (w : World) (hl : len ≤ 9223372036854775807) :
    Calls Try.prog 17 #[.agg #[.int .i64 S, .int .i64 L, .slice a len cap]] w fun e w' => e = .returned (.bool (decide (20 < len))) ∧ Ext w w' := by
  have E0 := Lib.hid ((Ext.refl w).alloc (.cells #[.int .i64 S, .int .i64 L, .slice a len cap] 24))
  go_enter Try.func17, Try.ntmps17
  go_wp2
  go_ret
  refine ⟨ret_bool ?_, E0.out⟩
  simp; omega
theorem wide34 (S L m : Int) (v : Value) (xs : List Int) (w : World) (hr : Reads w v xs) :
    Calls Try.prog 34 #[.agg #[.int .i64 S, .int .i64 L, v], .int .i64 m] w fun e w' => e = .returned (.bool (decide (chk S L xs = 0 ∧ m < S))) ∧ Ext w w' := by
  obtain ⟨hl, a, cap, rfl⟩ := hr.shape
  have E0 := Lib.hid ((Ext.refl w).alloc (.cells #[.int .i64 S, .int .i64 L, .slice a xs.length cap] 24))
  have P0 := Lib.hid (OffAt.new w (.int .i64 S) (.int .i64 L) (.slice a xs.length cap) 24)
  have HR := Lib.hid hr; clear hr
  obtain ⟨c, hc⟩ : ∃ c, c = chk S L xs := ⟨_, rfl⟩
  rw [← hc]
  have HC := Lib.hid hc; clear hc
  by_cases h : c = 0
  · go_enter Try.func34, Try.ntmps34
    go_wp2_with fail
    refine (check22 S L _ xs _ (HR.out.ext E0.out)).mono ?_
    rintro e w' ⟨rfl, hb⟩
    obtain ⟨g1, g2, g3⟩ := P0.out.ext hb
    have HB := Lib.hid hb; clear hb
    rw [← HC.out]
    go_wp2
    go_ret
    refine ⟨ret_bool ?_, E0.out.trans HB.out⟩
    simp [h]
  · have hd : (c == 0) = false := by simpa using h
    have H := Lib.hid h; clear h
    go_enter Try.func34, Try.ntmps34
    go_wp2_with fail
    refine (check22 S L _ xs _ (HR.out.ext E0.out)).mono ?_
    rintro e w' ⟨rfl, hb⟩
    have HB := Lib.hid hb; clear hb
    rw [← HC.out]
    go_wp2
    go_ret
    refine ⟨ret_bool ?_, E0.out.trans HB.out⟩
    simp [H.out]
theorem fine41 (S L : Int) (v : Value) (xs : List Int) (w : World) (hr : Reads w v xs) :
    Calls Try.prog 41 #[.agg #[.int .i64 S, .int .i64 L, v]] w fun e w' => e = .returned (.bool (decide (chk S L xs = 0))) ∧ Ext w w' := by
  obtain ⟨hl, a, cap, rfl⟩ := hr.shape
  have E0 := Lib.hid ((Ext.refl w).alloc (.cells #[.int .i64 S, .int .i64 L, .slice a xs.length cap] 24))
  have P0 := Lib.hid (OffAt.new w (.int .i64 S) (.int .i64 L) (.slice a xs.length cap) 24)
  have HR := Lib.hid hr; clear hr
  obtain ⟨c, hc⟩ : ∃ c, c = chk S L xs := ⟨_, rfl⟩
  rw [← hc]
  have HC := Lib.hid hc; clear hc
  have hd : decide (20 < xs.length) = true → c ≠ 0 := by
    intro h1 h2
    simp only [decide_eq_true_eq] at h1
    have := HC.out
    rw [h2] at this
    obtain ⟨S', L', ms, _, _, h3, h4⟩ := chk_zero this.symm
    have := h4.2.2.2.1
    rw [h3, ints_length] at h1; omega
  have HD := Lib.hid hd; clear hd
  cases hg : decide (20 < xs.length)
  · have HG := Lib.hid hg; clear hg
    go_enter Try.func41, Try.ntmps41
    go_wp2_with fail
    refine (great17 S L _ _ _ _ (by omega)).mono ?_
    rintro e w' ⟨rfl, hb⟩
    obtain ⟨g1, g2, g3⟩ := P0.out.ext hb
    have HB := Lib.hid hb; clear hb
    rw [HG.out]
    go_wp2_with fail
    refine (check22 S L _ xs _ (HR.out.ext (E0.out.trans HB.out))).mono ?_
    rintro e w'' ⟨rfl, hb⟩
    have HB2 := Lib.hid hb; clear hb
    rw [← HC.out]
    go_wp2
    go_ret
    refine ⟨ret_bool ?_, E0.out.trans (HB.out.trans HB2.out)⟩
    rw [Bool.eq_iff_iff]; simp
  · have HG := Lib.hid hg; clear hg
    go_enter Try.func41, Try.ntmps41
    go_wp2_with fail
    refine (great17 S L _ _ _ _ (by omega)).mono ?_
    rintro e w' ⟨rfl, hb⟩
    have HB := Lib.hid hb; clear hb
    rw [HG.out]
    go_wp2
    go_ret
    refine ⟨ret_bool ?_, E0.out.trans HB.out⟩
    simp [HD.out HG.out]
end Go.Proofs.Ytlgdnbpboonhdaa
