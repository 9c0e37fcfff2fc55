/- Bits (50), and that its list has room. -/
import Derived.Test.YtlgdnbpboonhdaaG15
namespace Go.Proofs.Ytlgdnbpboonhdaa
open Go.RowKit Go.Shelf Go.Maps
set_option linter.unusedVariables false
attribute [local go_sem] Oper.semAt_some
set_option maxRecDepth 100000 in
set_option maxHeartbeats 2000000 in
theorem bits50c (n : Nat) (hn : n < 4096) (w : World) : Calls Try.prog 50 #[.int .i64 (n : Int)] w fun e w' => ∃ u, e = .returned u ∧ (Reads w' u (ints (bitsL n)) ∧ CapOk u) ∧ Ext w w' := by
  go_enter Try.func50, Try.ntmps50
  go_wp2
  go_loopw [3, 4] (fun v i wr => ∃ k : Nat, k ≤ 12 ∧ i = .int .i64 (k : Int) ∧ Hid (Ext w wr) ∧ Hid (Owns w.heap.size wr v (ints (pickL 0 k (bitB n))))) (fun v i wr => 12 - (RowKit.intOf i).toNat)
  case atStart => exact ⟨0, Nat.zero_le _, rfl, Ext.refl _, (Owns.nil _ _ : Owns _ _ _ _)⟩
  case round =>
    obtain ⟨k, hk, rfl, hE, hO⟩ := hrel
    obtain ⟨q, hq⟩ : ∃ q, q = n / 2 ^ k := ⟨_, rfl⟩
    have h1 := shr_and n k hn
    have hqi : (n : Int) / 2 ^ k = (q : Int) := by rw [hq]; simp
    have hql : q < 4096 := by rw [hq]; exact Nat.lt_of_le_of_lt (Nat.div_le_self _ _) hn
    rw [hqi, ← hq] at h1
    by_cases h0 : q = 0
    · have hb := bits_stop n k hk (by rw [← hq]; exact h0)
      have hO2 := hO.out
      rw [hb] at hO2
      have HO2 := Lib.hid hO2
      have hd : decide ((0 : Int) < (q : Int)) = false := decide_eq_false (by omega)
      have hd2 : ¬ 0 < q := by omega
      clear hq h1 hb hO2 h0
      go_wp2
      go_ret
      exact ⟨_, rfl, ⟨HO2.out.reads (by rw [ints_length]; have := pickL_len 0 12 (bitB n); unfold bitsL; omega), HO2.out.capOk⟩, hE.out⟩
    · have hk12 : k < 12 := by
        rcases Nat.lt_or_ge k 12 with h | h
        · exact h
        · exfalso
          obtain rfl : k = 12 := by omega
          apply h0; rw [hq]; exact Nat.div_eq_of_lt (by omega)
      have hps := pickL_succ 0 k (bitB n)
      rw [Nat.zero_add] at hps
      have hpl := pickL_len 0 k (bitB n)
      have hd : decide ((0 : Int) < (q : Int)) = true := decide_eq_true (by omega)
      have hd2 : 0 < q := by omega
      have hbq : bitB n k = (q % 2 == 1) := by unfold bitB; rw [hq]
      obtain ⟨b, hb⟩ : ∃ b, b = q % 2 := ⟨_, rfl⟩
      have hb2 : b < 2 := by rw [hb]; exact Nat.mod_lt _ (by decide)
      rw [← hb] at h1 hbq
      rw [hbq] at hps
      have HPS := Lib.hid hps
      clear hq hb hps hbq h0
      by_cases hb1 : b = 1
      · subst hb1
        go_wp2_with (at_builtin; refine append1 _ w.heap.size _ _ _ _ _ rfl rfl rfl hO.out (Below.size hE.out) (by rw [ints_length]; omega) rfl ?_; intro v' w3 hO3 hB3)
        have HO3 := Lib.hid hO3; have HB3 := Lib.hid (Below.trans hE.out hB3); clear hO3 hB3
        go_wp2
        go_roundw
        case rel => exact ⟨k + 1, by omega, by go_num, HB3.out, (by rw [HPS.out]; simpa [ints] using HO3.out : Owns _ _ _ _)⟩
        case measure => simp [RowKit.intOf]; omega
      · obtain rfl : b = 0 := by omega
        go_wp2
        go_roundw
        case rel => exact ⟨k + 1, by omega, by go_num, hE.out, (by rw [HPS.out]; simpa using hO.out : Owns _ _ _ _)⟩
        case measure => simp [RowKit.intOf]; omega
end Go.Proofs.Ytlgdnbpboonhdaa
