/- MarkFrees, by its contract. -/
import Derived.Test.YtlgdnbpboonhdaaU2
namespace Go.Proofs.Ytlgdnbpboonhdaa
open Go.RowKit Go.Shelf Go.Maps
set_option linter.unusedVariables false
attribute [local go_sem] Oper.semAt_some
theorem free_both (S L : Int) (v : Value) (xs : List Int) (w : World) (hr : Reads w v xs) :
    ∃ (zs : List Int) (c : Int), (∀ W, Ext w W → Calls Try.prog 35 #[.agg #[.int .i64 S, .int .i64 L, v]] W fun e w' => ∃ u, e = .returned (.tuple #[u, .int .i64 c]) ∧ Reads w' u zs ∧ Ext W w') ∧
      (∀ W, Ext w W → Calls Try.prog 36 #[.agg #[.int .i64 S, .int .i64 L, v]] W fun e w' => ∃ u, e = .returned (.tuple #[u, .int .i64 c]) ∧ Reads w' u zs ∧ Ext W w') := by
  by_cases hc : chk S L xs = 0
  · obtain ⟨S', L', ms, rfl, rfl, rfl, hv⟩ := chk_zero hc
    exact ⟨ints (freeL S' L' ms), 0, fun W hW => free35_ok S' L' ms v W hv (hr.ext hW), fun W hW => free36_ok S' L' ms v W hv (hr.ext hW)⟩
  · refine ⟨[], chk S L xs, fun W hW => ?_, fun W hW => ?_⟩
    · exact (free35_err S L xs v W (hr.ext hW) hc).mono fun e w' ⟨h1, h2⟩ => ⟨_, h1, Reads.nil _, h2⟩
    · exact (free36_err S L xs v W (hr.ext hW) hc).mono fun e w' ⟨h1, h2⟩ => ⟨_, h1, Reads.nil _, h2⟩
set_option maxRecDepth 100000 in
set_option maxHeartbeats 4000000 in
theorem frees6 (S L : Int) (a : Option Addr) (cap : Nat) (xs : List Int) (w : World) (hlen : xs.length ≤ cap ∧ cap ≤ 9223372036854775807) (hr : xs.length ≤ 5000 → Reads w (.slice a xs.length cap) xs) :
    Calls Try.prog 6 #[.agg #[.int .i64 S, .int .i64 L, .slice a xs.length cap]] w fun e w' => e = .returned (.bool true) ∧ Ext w w' := by
  have E0 := Lib.hid ((Ext.refl w).alloc (.cells #[.int .i64 S, .int .i64 L, .slice a xs.length cap] 24))
  have P0 := Lib.hid (OffAt.new w (.int .i64 S) (.int .i64 L) (.slice a xs.length cap) 24)
  by_cases h20 : 20 < xs.length
  · have hg : decide (20 < xs.length) = true := by simpa using h20
    have HG := Lib.hid hg
    have hn : xs.length ≤ 9223372036854775807 := by omega
    clear hr hg
    go_enter Try.func6, Try.ntmps6
    go_wp2_with fail
    refine (great17 S L _ _ _ _ hn).mono ?_
    rintro e w1 ⟨rfl, hb⟩
    have HE := Lib.hid (E0.out.trans hb); clear hb
    rw [HG.out]
    go_wp2_with fail
    refine (works18 _).mono ?_
    rintro e w2 ⟨rfl, hb⟩
    replace HE := Lib.hid (HE.out.trans hb); clear hb
    go_wp2
    go_ret
    exact ⟨rfl, HE.out⟩
  · have hR := hr (by omega)
    have hg : decide (20 < xs.length) = false := by simpa using h20
    have HG := Lib.hid hg
    have hn : xs.length ≤ 9223372036854775807 := by omega
    have h34 := fun W (hW : Ext w W) => wide34 S L 8 _ xs W (hR.ext hW)
    obtain ⟨wd, hwd⟩ : ∃ wd, wd = decide (chk S L xs = 0 ∧ 8 < S) := ⟨_, rfl⟩
    rw [← hwd] at h34
    obtain ⟨zs, c, h35, h36⟩ := free_both S L _ xs w hR
    have H34 := Lib.hid h34; have H35 := Lib.hid h35; have H36 := Lib.hid h36
    clear hr hg hR h34 h35 h36 hwd
    cases wd
    · go_enter Try.func6, Try.ntmps6
      go_wp2_with fail
      refine (great17 S L _ _ _ _ hn).mono ?_
      rintro e w1 ⟨rfl, hb⟩
      obtain ⟨g1, g2, g3⟩ := P0.out.ext hb
      have HE := Lib.hid (E0.out.trans hb); clear hb
      rw [HG.out]
      go_wp2_with fail
      refine (H34.out _ HE.out).mono ?_
      rintro e w2 ⟨rfl, hb⟩
      obtain ⟨g1, g2, g3⟩ := OffAt.ext ⟨g1, g2, g3⟩ hb
      replace HE := Lib.hid (HE.out.trans hb); clear hb
      go_wp2_with fail
      refine (H35.out _ HE.out).mono ?_
      rintro e w3 ⟨u, rfl, hu, hb⟩
      obtain ⟨g1, g2, g3⟩ := OffAt.ext ⟨g1, g2, g3⟩ hb
      replace HE := Lib.hid (HE.out.trans hb); clear hb
      have HU := Lib.hid hu; clear hu
      go_wp2_with fail
      refine (H36.out _ HE.out).mono ?_
      rintro e w4 ⟨u2, rfl, hu2, hb⟩
      replace HE := Lib.hid (HE.out.trans hb)
      replace HU := Lib.hid (HU.out.ext hb); clear hb
      have HU2 := Lib.hid hu2; clear hu2
      go_wp2_with fail
      refine (ints_any _ _ zs zs _ HU.out HU2.out).mono ?_
      rintro e w5 ⟨rfl, hb⟩
      rw [show (zs == zs) = true from by simp]
      replace HE := Lib.hid (HE.out.trans hb); clear hb
      go_wp2_with fail
      refine (works18 _).mono ?_
      rintro e w6 ⟨rfl, hb⟩
      replace HE := Lib.hid (HE.out.trans hb); clear hb
      go_wp2
      go_ret
      exact ⟨rfl, HE.out⟩
    · go_enter Try.func6, Try.ntmps6
      go_wp2_with fail
      refine (great17 S L _ _ _ _ hn).mono ?_
      rintro e w1 ⟨rfl, hb⟩
      obtain ⟨g1, g2, g3⟩ := P0.out.ext hb
      have HE := Lib.hid (E0.out.trans hb); clear hb
      rw [HG.out]
      go_wp2_with fail
      refine (H34.out _ HE.out).mono ?_
      rintro e w2 ⟨rfl, hb⟩
      replace HE := Lib.hid (HE.out.trans hb); clear hb
      go_wp2_with fail
      refine (works18 _).mono ?_
      rintro e w3 ⟨rfl, hb⟩
      replace HE := Lib.hid (HE.out.trans hb); clear hb
      go_wp2
      go_ret
      exact ⟨rfl, HE.out⟩
end Go.Proofs.Ytlgdnbpboonhdaa
