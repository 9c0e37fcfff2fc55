/- MarkFamily, by its contract: any office. -/
import Derived.Test.YtlgdnbpboonhdaaG17
namespace Go.Proofs.Ytlgdnbpboonhdaa
open Go.RowKit Go.Shelf Go.Maps
set_option linter.unusedVariables false
attribute [local go_sem] Oper.semAt_some
set_option maxRecDepth 100000 in
set_option maxHeartbeats 4000000 in
theorem family13 (S L z : Int) (a a0 : Option Addr) (cap cap0 : Nat) (xs : List Int) (ns : List Nat) (hz : 0 ≤ z ∧ z ≤ 65535) (w : World) (hlen : xs.length ≤ cap ∧ cap ≤ 9223372036854775807) (hr : xs.length ≤ 5000 → Reads w (.slice a xs.length cap) xs)
    (hlen0 : ns.length ≤ cap0 ∧ cap0 ≤ 9223372036854775807) (hb : ∀ x ∈ ns, x ≤ 65535) (hr0 : ns.length ≤ 5000 → Reads16 w (.slice a0 ns.length cap0) ns) :
    Calls Try.prog 13 #[.agg #[.int .i64 S, .int .i64 L, .slice a xs.length cap], .slice a0 ns.length cap0, .int .u16 z] w fun e w' => e = .returned (.bool true) ∧ Ext w w' := by
  obtain ⟨z, rfl⟩ := Int.eq_ofNat_of_zero_le hz.1
  have E0 := Lib.hid ((Ext.refl w).alloc (.cells #[.int .i64 S, .int .i64 L, .slice a xs.length cap] 24))
  rcases fine_cases S L a cap xs w hlen hr with hf | ⟨S', L', ms, rfl, rfl, rfl, hv, hR, hf⟩
  · obtain ⟨m, hm⟩ : ∃ m, m = ns.length := ⟨_, rfl⟩
    rw [← hm] at hlen0 ⊢
    have HF := Lib.hid (hf _ E0.out)
    clear hf hr hr0 hb hm
    go_enter Try.func13, Try.ntmps13
    go_wp2_with fail
    refine HF.out.mono ?_
    rintro e w1 ⟨rfl, hb⟩
    have HE := Lib.hid (E0.out.trans hb); clear hb
    go_wp2_with fail
    refine (works18 _).mono ?_
    rintro e w2 ⟨rfl, hb⟩
    replace HE := Lib.hid (HE.out.trans hb); clear hb
    go_wp2
    go_ret
    exact ⟨rfl, HE.out⟩
  · by_cases h40 : ns.length ≤ 40
    · exact family13_ok S' L' a a0 cap cap0 ms ns z (by omega) w hv hR hf h40 (hr0 (by omega)) hb
    · obtain ⟨m, hm⟩ : ∃ m, m = ns.length := ⟨_, rfl⟩
      rw [← hm] at hlen0 h40 ⊢
      have HF := Lib.hid (hf _ E0.out)
      have hd1 : decide ((40 : Int) < (m : Int)) = true := decide_eq_true (by omega)
      have hd2 : 40 < m := by omega
      clear hf hr hr0 hb hm hR hv h40
      go_enter Try.func13, Try.ntmps13
      go_wp2_with fail
      refine HF.out.mono ?_
      rintro e w1 ⟨rfl, hb⟩
      have HE := Lib.hid (E0.out.trans hb); clear hb
      go_wp2_with fail
      refine (works18 _).mono ?_
      rintro e w2 ⟨rfl, hb⟩
      replace HE := Lib.hid (HE.out.trans hb); clear hb
      go_wp2
      go_ret
      exact ⟨rfl, HE.out⟩
end Go.Proofs.Ytlgdnbpboonhdaa
