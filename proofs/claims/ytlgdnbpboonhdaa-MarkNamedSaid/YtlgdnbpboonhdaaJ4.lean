/- MarkNamed, by its contract: any office. -/
import Derived.Test.YtlgdnbpboonhdaaJ3
namespace Go.Proofs.Ytlgdnbpboonhdaa
open Go.RowKit Go.Shelf Go.Maps
set_option linter.unusedVariables false
attribute [local go_sem] Oper.semAt_some
set_option maxRecDepth 100000 in
set_option maxHeartbeats 4000000 in
theorem named15 (S L x y : Int) (a a3 : Option Addr) (cap cap3 : Nat) (xs : List Int) (ns : List Nat) (hx : 0 ≤ x ∧ x ≤ 65535) (hy : 0 ≤ y ∧ y ≤ 255) (w : World) (hlen : xs.length ≤ cap ∧ cap ≤ 9223372036854775807) (hr : xs.length ≤ 5000 → Reads w (.slice a xs.length cap) xs)
    (hlen3 : ns.length ≤ cap3 ∧ cap3 ≤ 9223372036854775807) (hb : ∀ x ∈ ns, x ≤ 255) (hr3 : ns.length ≤ 5000 → Reads8 w (.slice a3 ns.length cap3) ns) :
    Calls Try.prog 15 #[.agg #[.int .i64 S, .int .i64 L, .slice a xs.length cap], .int .u16 x, .int .u8 y, .slice a3 ns.length cap3] w fun e w' => e = .returned (.bool true) ∧ Ext w w' := by
  obtain ⟨x, rfl⟩ := Int.eq_ofNat_of_zero_le hx.1
  obtain ⟨y, rfl⟩ := Int.eq_ofNat_of_zero_le hy.1
  have E0 := Lib.hid ((Ext.refl w).alloc (.cells #[.int .i64 S, .int .i64 L, .slice a xs.length cap] 24))
  rcases fine_cases S L a cap xs w hlen hr with hf | ⟨S', L', ms, rfl, rfl, rfl, hv, hR, hf⟩
  · obtain ⟨m, hm⟩ : ∃ m, m = ns.length := ⟨_, rfl⟩
    rw [← hm] at hlen3 ⊢
    have HF := Lib.hid (hf _ E0.out)
    clear hf hr hr3 hb hm
    go_enter Try.func15, Try.ntmps15
    go_wp2_with fail
    refine HF.out.mono ?_
    rintro e w1 ⟨rfl, hb⟩
    have HE := Lib.hid (E0.out.trans hb); clear hb
    go_wp2_with fail
    refine (works18 _).mono ?_
    rintro e w2 ⟨rfl, hb⟩
    replace HE := Lib.hid (HE.out.trans hb); clear hb
    go_wp2
    go_ret
    exact ⟨rfl, HE.out⟩
  · have P0 := Lib.hid (OffAt.new w (.int .i64 (S' : Int)) (.int .i64 (L' : Int)) (.slice a (ints ms).length cap) 24)
    by_cases h8 : S' ≤ 8
    · by_cases h20 : ns.length ≤ 20
      · exact named15_ok S' L' a a3 cap cap3 ms ns x y (by omega) (by omega) w hv hR hf h8 h20 (hr3 (by omega)) hb
      · obtain ⟨m, hm⟩ : ∃ m, m = ns.length := ⟨_, rfl⟩
        rw [← hm] at hlen3 h20 ⊢
        have HF := Lib.hid (hf _ E0.out)
        have hd0 : decide ((8 : Int) < (S' : Int)) = false := decide_eq_false (by omega)
        have hd0n : ¬ 8 < S' := by omega
        have hd1 : decide ((20 : Int) < (m : Int)) = true := decide_eq_true (by omega)
        have hd2 : 20 < m := by omega
        clear hf hr hr3 hb hm hR hv h20 h8
        go_enter Try.func15, Try.ntmps15
        go_wp2_with fail
        refine HF.out.mono ?_
        rintro e w1 ⟨rfl, hb⟩
        obtain ⟨g1, g2, g3⟩ := P0.out.ext hb
        have HE := Lib.hid (E0.out.trans hb); clear hb
        go_wp2_with fail
        refine (works18 _).mono ?_
        rintro e w2 ⟨rfl, hb⟩
        replace HE := Lib.hid (HE.out.trans hb); clear hb
        go_wp2
        go_ret
        exact ⟨rfl, HE.out⟩
    · obtain ⟨m, hm⟩ : ∃ m, m = ns.length := ⟨_, rfl⟩
      rw [← hm] at hlen3 ⊢
      have HF := Lib.hid (hf _ E0.out)
      have hd1 : decide ((8 : Int) < (S' : Int)) = true := decide_eq_true (by omega)
      have hd2 : 8 < S' := by omega
      clear hf hr hr3 hb hm hR hv h8
      go_enter Try.func15, Try.ntmps15
      go_wp2_with fail
      refine HF.out.mono ?_
      rintro e w1 ⟨rfl, hb⟩
      obtain ⟨g1, g2, g3⟩ := P0.out.ext hb
      have HE := Lib.hid (E0.out.trans hb); clear hb
      go_wp2_with fail
      refine (works18 _).mono ?_
      rintro e w2 ⟨rfl, hb⟩
      replace HE := Lib.hid (HE.out.trans hb); clear hb
      go_wp2
      go_ret
      exact ⟨rfl, HE.out⟩
end Go.Proofs.Ytlgdnbpboonhdaa
