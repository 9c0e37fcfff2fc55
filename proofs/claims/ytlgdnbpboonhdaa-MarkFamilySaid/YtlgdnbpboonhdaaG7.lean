/- The reference's Bits, count and lower. -/
import Derived.Test.YtlgdnbpboonhdaaG2
namespace Go.Proofs.Ytlgdnbpboonhdaa
open Go.RowKit Go.Shelf Go.Maps
set_option linter.unusedVariables false
attribute [local go_sem] Oper.semAt_some
def bitB (n i : Nat) : Bool := n / 2 ^ i % 2 == 1
def bitsL (n : Nat) : List Nat := pickL 0 12 (bitB n)
theorem bits_stop (n k : Nat) (hk : k ≤ 12) (h : n / 2 ^ k = 0) : pickL 0 k (bitB n) = bitsL n := by
  unfold bitsL
  obtain ⟨d, hd⟩ : ∃ d, 12 = k + d := ⟨12 - k, by omega⟩
  rw [hd]
  clear hd
  induction d with
  | zero => rfl
  | succ d ih =>
    rw [show k + (d + 1) = (k + d) + 1 by omega, pickL_succ]
    have : bitB n (0 + (k + d)) = false := by
      unfold bitB
      rw [Nat.zero_add, Nat.pow_add, ← Nat.div_div_eq_div_mul, h, Nat.zero_div]; rfl
    rw [this, ih]; simp
set_option maxRecDepth 100000 in
set_option maxHeartbeats 2000000 in
theorem bits50 (n : Nat) (hn : n < 4096) (w : World) : Calls Try.prog 50 #[.int .i64 (n : Int)] w fun e w' => ∃ u, e = .returned u ∧ Reads w' u (ints (bitsL n)) ∧ Ext w w' := by
  go_enter Try.func50, Try.ntmps50
  go_wp2
  go_loopw [3, 4] (fun v i wr => ∃ k : Nat, k ≤ 12 ∧ i = .int .i64 (k : Int) ∧ Hid (Ext w wr) ∧ Hid (Owns w.heap.size wr v (ints (pickL 0 k (bitB n))))) (fun v i wr => 12 - (RowKit.intOf i).toNat)
  case atStart => exact ⟨0, Nat.zero_le _, rfl, Ext.refl _, (Owns.nil _ _ : Owns _ _ _ _)⟩
  case round =>
    obtain ⟨k, hk, rfl, hE, hO⟩ := hrel
    obtain ⟨q, hq⟩ : ∃ q, q = n / 2 ^ k := ⟨_, rfl⟩
    have h1 := shr_and n k hn
    have hqi : (n : Int) / 2 ^ k = (q : Int) := by rw [hq]; simp
    have hql : q < 4096 := by rw [hq]; exact Nat.lt_of_le_of_lt (Nat.div_le_self _ _) hn
    rw [hqi, ← hq] at h1
    by_cases h0 : q = 0
    · have hb := bits_stop n k hk (by rw [← hq]; exact h0)
      have hO2 := hO.out
      rw [hb] at hO2
      have HO2 := Lib.hid hO2
      have hd : decide ((0 : Int) < (q : Int)) = false := decide_eq_false (by omega)
      have hd2 : ¬ 0 < q := by omega
      clear hq h1 hb hO2 h0
      go_wp2
      go_ret
      exact ⟨_, rfl, HO2.out.reads (by rw [ints_length]; have := pickL_len 0 12 (bitB n); unfold bitsL; omega), hE.out⟩
    · have hk12 : k < 12 := by
        rcases Nat.lt_or_ge k 12 with h | h
        · exact h
        · exfalso
          obtain rfl : k = 12 := by omega
          apply h0; rw [hq]; exact Nat.div_eq_of_lt (by omega)
      have hps := pickL_succ 0 k (bitB n)
      rw [Nat.zero_add] at hps
      have hpl := pickL_len 0 k (bitB n)
      have hd : decide ((0 : Int) < (q : Int)) = true := decide_eq_true (by omega)
      have hd2 : 0 < q := by omega
      have hbq : bitB n k = (q % 2 == 1) := by unfold bitB; rw [hq]
      obtain ⟨b, hb⟩ : ∃ b, b = q % 2 := ⟨_, rfl⟩
      have hb2 : b < 2 := by rw [hb]; exact Nat.mod_lt _ (by decide)
      rw [← hb] at h1 hbq
      rw [hbq] at hps
      have HPS := Lib.hid hps
      clear hq hb hps hbq h0
      by_cases hb1 : b = 1
      · subst hb1
        go_wp2_with (at_builtin; refine append1 _ w.heap.size _ _ _ _ _ rfl rfl rfl hO.out (Below.size hE.out) (by rw [ints_length]; omega) rfl ?_; intro v' w3 hO3 hB3)
        have HO3 := Lib.hid hO3; have HB3 := Lib.hid (Below.trans hE.out hB3); clear hO3 hB3
        go_wp2
        go_roundw
        case rel => exact ⟨k + 1, by omega, by go_num, HB3.out, (by rw [HPS.out]; simpa [ints] using HO3.out : Owns _ _ _ _)⟩
        case measure => simp [RowKit.intOf]; omega
      · obtain rfl : b = 0 := by omega
        go_wp2
        go_roundw
        case rel => exact ⟨k + 1, by omega, by go_num, hE.out, (by rw [HPS.out]; simpa using hO.out : Owns _ _ _ _)⟩
        case measure => simp [RowKit.intOf]; omega
theorem count83 (n : Nat) (hn : n < 4096) (w : World) : Calls Try.prog 83 #[.int .i64 (n : Int)] w fun e w' => e = .returned (.int .i64 ((bitsL n).length : Int)) ∧ Ext w w' := by
  go_enter Try.func83, Try.ntmps83
  go_wp2_with fail
  refine (bits50 n hn _).mono ?_
  rintro e w1 ⟨u, rfl, hu, hb⟩
  obtain ⟨hl, a, cap, rfl⟩ := hu.shape
  have HB := Lib.hid hb
  clear hu hb
  rw [ints_length]
  go_wp2
  go_ret
  exact ⟨rfl, HB.out⟩
set_option maxRecDepth 100000 in
theorem lower84 (a b : Nat) (ha : a < 4096) (hb : b < 4096) (w : World) : Calls Try.prog 84 #[.int .i64 (a : Int), .int .i64 (b : Int)] w fun e w' => e = .returned (.bool (fst 12 0 a b)) ∧ Ext w w' := by
  go_enter Try.func84, Try.ntmps84
  go_wp2
  go_loopw [5] (fun i wr => ∃ k : Nat, k ≤ 12 ∧ i = .int .i64 (k : Int) ∧ Hid (Ext w wr) ∧ Hid (fst 12 0 a b = fst (12 - k) k a b)) (fun i wr => 12 - (RowKit.intOf i).toNat)
  case atStart => exact ⟨0, Nat.zero_le _, rfl, Ext.refl _, rfl⟩
  case round =>
    obtain ⟨k, hk, rfl, hE, hf⟩ := hrel
    have h1 := shr_and a k (by omega)
    have h2 := shr_and b k (by omega)
    obtain ⟨x, hx⟩ : ∃ x, x = a / 2 ^ k % 2 := ⟨_, rfl⟩
    obtain ⟨y, hy⟩ : ∃ y, y = b / 2 ^ k % 2 := ⟨_, rfl⟩
    rw [← hx] at h1
    rw [← hy] at h2
    have HX := Lib.hid hx; have HY := Lib.hid hy; clear hx hy
    by_cases hlt : k < 12
    · by_cases hne : x = y
      · subst hne
        go_wp2
        go_quiet (fail)
        go_wp2
        go_roundw
        case rel => exact ⟨k + 1, by omega, by go_num, hE.out.drewN _, (by rw [hf.out, show 12 - k = (12 - (k + 1)) + 1 by omega, fst_eq _ _ _ _ (HX.out ▸ HY.out ▸ rfl)] : _ = _)⟩
        case measure => simp [RowKit.intOf]; omega
      · go_wp2
        go_quiet (fail)
        go_wp2
        go_ret
        refine ⟨ret_bool ?_, hE.out.drewN _⟩
        rw [hf.out, show 12 - k = (12 - (k + 1)) + 1 by omega, fst_ne _ _ _ _ (by rw [← HX.out, ← HY.out]; exact hne), ← HX.out]
        rw [Bool.eq_iff_iff]; simp; omega
    · go_wp2
      go_ret
      refine ⟨ret_bool ?_, hE.out⟩
      obtain rfl : k = 12 := by omega
      rw [hf.out]; rfl
end Go.Proofs.Ytlgdnbpboonhdaa
