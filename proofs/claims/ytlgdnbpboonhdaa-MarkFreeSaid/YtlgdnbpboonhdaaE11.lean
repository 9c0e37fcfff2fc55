/- MarkFree, by its contract: any office. -/
import Derived.Test.YtlgdnbpboonhdaaE9
namespace Go.Proofs.Ytlgdnbpboonhdaa
open Go.RowKit Go.Shelf Go.Maps
set_option linter.unusedVariables false
attribute [local go_sem] Oper.semAt_some
set_option maxRecDepth 100000 in
set_option maxHeartbeats 4000000 in
theorem free10 (S L x z : Int) (a : Option Addr) (cap : Nat) (xs : List Int) (hx : 0 ≤ x ∧ x ≤ 65535) (hz : 0 ≤ z ∧ z ≤ 65535) (w : World) (hlen : xs.length ≤ cap ∧ cap ≤ 9223372036854775807) (hr : xs.length ≤ 5000 → Reads w (.slice a xs.length cap) xs) :
    Calls Try.prog 10 #[.agg #[.int .i64 S, .int .i64 L, .slice a xs.length cap], .int .u16 x, .int .u16 z] w fun e w' => e = .returned (.bool true) ∧ Ext w w' := by
  obtain ⟨x, rfl⟩ := Int.eq_ofNat_of_zero_le hx.1
  obtain ⟨z, rfl⟩ := Int.eq_ofNat_of_zero_le hz.1
  have E0 := Lib.hid ((Ext.refl w).alloc (.cells #[.int .i64 S, .int .i64 L, .slice a xs.length cap] 24))
  rcases fine_cases S L a cap xs w hlen hr with hf | ⟨S', L', ms, rfl, rfl, rfl, hv, hR, hf⟩
  · skip
    have HF := Lib.hid (hf _ E0.out)
    clear hf hr
    go_enter Try.func10, Try.ntmps10
    go_wp2_with fail
    refine HF.out.mono ?_
    rintro e w1 ⟨rfl, hb⟩
    have HE := Lib.hid (E0.out.trans hb); clear hb
    go_wp2_with fail
    refine (works18 _).mono ?_
    rintro e w2 ⟨rfl, hb⟩
    replace HE := Lib.hid (HE.out.trans hb); clear hb
    go_wp2
    go_ret
    exact ⟨rfl, HE.out⟩
  · by_cases h8 : S' ≤ 8
    · by_cases h11 : ms.length ≤ 11
      · exact free10_ok S' L' a cap ms x z (by omega) (by omega) w hv hR hf h8 h11
      · have P0 := Lib.hid (OffAt.new w (.int .i64 (S' : Int)) (.int .i64 (L' : Int)) (.slice a (ints ms).length cap) 24)
        have HF := Lib.hid (hf _ E0.out)
        obtain ⟨n, hn⟩ : ∃ n, n = (ints ms).length := ⟨_, rfl⟩
        rw [← hn] at P0 HF E0 ⊢
        rw [ints_length] at hn
        have hd8 : ¬ 8 < S' := by omega
        have hd12 : ¬ n < 12 := by omega
        have hd8b : decide ((8 : Int) < (S' : Int)) = false := by simp; omega
        have hd12b : decide ((12 : Int) ≤ (n : Int)) = true := by simp; omega
        clear hf hr hR hv hn h11
        go_enter Try.func10, Try.ntmps10
        go_wp2_with fail
        refine HF.out.mono ?_
        rintro e w1 ⟨rfl, hb⟩
        obtain ⟨g1, g2, g3⟩ := P0.out.ext hb
        have HE := Lib.hid (E0.out.trans hb); clear hb
        go_wp2_with fail
        refine (works18 _).mono ?_
        rintro e w2 ⟨rfl, hb⟩
        replace HE := Lib.hid (HE.out.trans hb); clear hb
        go_wp2
        go_ret
        exact ⟨rfl, HE.out⟩
    · have P0 := Lib.hid (OffAt.new w (.int .i64 (S' : Int)) (.int .i64 (L' : Int)) (.slice a (ints ms).length cap) 24)
      have HF := Lib.hid (hf _ E0.out)
      have hd8 : 8 < S' := by omega
      have hd8b : decide ((8 : Int) < (S' : Int)) = true := by simp; omega
      clear hf hr hR hv h8
      go_enter Try.func10, Try.ntmps10
      go_wp2_with fail
      refine HF.out.mono ?_
      rintro e w1 ⟨rfl, hb⟩
      obtain ⟨g1, g2, g3⟩ := P0.out.ext hb
      have HE := Lib.hid (E0.out.trans hb); clear hb
      go_wp2_with fail
      refine (works18 _).mono ?_
      rintro e w2 ⟨rfl, hb⟩
      replace HE := Lib.hid (HE.out.trans hb); clear hb
      go_wp2
      go_ret
      exact ⟨rfl, HE.out⟩
end Go.Proofs.Ytlgdnbpboonhdaa
