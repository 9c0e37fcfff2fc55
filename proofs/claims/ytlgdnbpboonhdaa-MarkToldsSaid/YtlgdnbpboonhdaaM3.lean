/- Contracts of the reference's small functions on sets, and of the library's small functions on slices. -/
import Derived.Test.YtlgdnbpboonhdaaM2
import Derived.Deep.RegionHeld3
import Derived.BigRegion
namespace Go.Proofs.Ytlgdnbpboonhdaa
open Go.RowKit
set_option linter.unusedVariables false
def pcTo : Nat → Nat → Nat
  | 0, _ => 0
  | i + 1, n => pcTo i n + n / 2 ^ i % 2
theorem pcTo_le (i n : Nat) : pcTo i n ≤ i := by induction i with | zero => simp [pcTo] | succ i ih => simp [pcTo]; omega
theorem pcTo10 (n : Nat) : pcTo 10 n = pc n := by simp [pcTo, pc]
theorem shr_and (n i : Nat) (h : n < 4096) : bits .and .i64 ((n : Int) / 2 ^ i) 1 = ((n / 2 ^ i % 2 : Nat) : Int) := by
  have e : ((n : Int) / 2 ^ i) = ((n / 2 ^ i : Nat) : Int) := by simp
  have h2 : n / 2 ^ i < 4096 := Nat.lt_of_le_of_lt (Nat.div_le_self _ _) h
  rw [e, show (1 : Int) = ((1 : Nat) : Int) from rfl, and_nat _ _ (by omega) (by omega), Nat.and_one_is_mod]
theorem size_any (n : Nat) (h : n < 1024) (w : World) : Calls Try.prog 47 #[.int .i64 (n : Int)] w fun e w' => e = .returned (.int .i64 (pc n : Int)) ∧ w = w' := by
  go_enter Try.func47, Try.ntmps47
  go_wp2
  go_loop [3, 4] (fun s i => ∃ k : Nat, k ≤ 10 ∧ i = .int .i64 k ∧ s = .int .i64 (pcTo k n : Int)) (fun s i => 10 - (intOf i).toNat)
  case atStart => exact ⟨0, Nat.zero_le _, rfl, rfl⟩
  case round =>
    obtain ⟨k, hk, rfl, rfl⟩ := hrel
    have hle := pcTo_le k n
    have hsh := shr_and n k (by omega)
    by_cases hlt : k < 10
    · go_wp2
      go_round
      case rel => exact ⟨k + 1, by omega, by go_num, by simp [pcTo]⟩
      case measure => simp [intOf]; omega
    · go_wp2
      go_ret
      obtain rfl : k = 10 := by omega
      exact ⟨ret_int (by rw [pcTo10]), rfl⟩
theorem canBe42_any (x m : Nat) (L : Int) (hx : x < 1024) (hm : m < 1024) (w : World) : Calls Try.prog 42 #[.int .i64 (x : Int), .int .i64 (m : Int), .int .i64 L] w fun e w' => e = .returned (.bool (cb L x m)) ∧ w = w' := by
  cases hs : sub x m
  · rw [cb_sub _ _ _ hs]
    go_enter Try.func42, Try.ntmps42
    go_wp2_with fail
    refine (within87_any _ _ hx hm _).mono ?_
    rintro e w' ⟨rfl, rfl⟩
    go_wp2
    go_ret
    exact ⟨rfl, rfl⟩
  · have hle := sub_le _ _ hs
    rw [cb_yes _ _ _ hs]
    have e1 : ((m : Int) - (x : Int)) = ((m - x : Nat) : Int) := by omega
    have E1 := Lib.hid e1; clear e1
    go_enter Try.func42, Try.ntmps42
    go_wp2_with fail
    refine (within87_any _ _ hx hm _).mono ?_
    rintro e w' ⟨rfl, rfl⟩
    go_wp2_with fail
    rw [E1.out]
    refine (size_any _ (by omega) _).mono ?_
    rintro e w' ⟨rfl, rfl⟩
    go_wp2
    go_ret
    exact ⟨rfl, rfl⟩
/-- The least stroke, from i on, that is in one of two sets alone is in the first one. -/
def fst : Nat → Nat → Nat → Nat → Bool
  | 0, _, _, _ => false
  | n + 1, i, a, b => if a / 2 ^ i % 2 ≠ b / 2 ^ i % 2 then a / 2 ^ i % 2 == 1 else fst n (i + 1) a b
theorem fst_ne (n i a b : Nat) (h : a / 2 ^ i % 2 ≠ b / 2 ^ i % 2) : fst (n + 1) i a b = (a / 2 ^ i % 2 == 1) := by simp [fst, h]
theorem fst_eq (n i a b : Nat) (h : a / 2 ^ i % 2 = b / 2 ^ i % 2) : fst (n + 1) i a b = fst n (i + 1) a b := by simp [fst, h]
theorem first48_any (a b : Nat) (ha : a < 1024) (hb : b < 1024) (w : World) : Calls Try.prog 48 #[.int .i64 (a : Int), .int .i64 (b : Int)] w fun e w' => e = .returned (.bool (fst 10 0 a b)) ∧ Ext w w' := by
  go_enter Try.func48, Try.ntmps48
  go_wp2
  go_loopw [5] (fun i wr => ∃ k : Nat, k ≤ 10 ∧ i = .int .i64 k ∧ Hid (Ext w wr) ∧ Hid (fst 10 0 a b = fst (10 - k) k a b)) (fun i wr => 10 - (intOf i).toNat)
  case atStart => exact ⟨0, Nat.zero_le _, rfl, Ext.refl _, rfl⟩
  case round =>
    obtain ⟨k, hk, rfl, hE, hf⟩ := hrel
    have h1 := shr_and a k (by omega)
    have h2 := shr_and b k (by omega)
    obtain ⟨x, hx⟩ : ∃ x, x = a / 2 ^ k % 2 := ⟨_, rfl⟩
    obtain ⟨y, hy⟩ : ∃ y, y = b / 2 ^ k % 2 := ⟨_, rfl⟩
    rw [← hx] at h1
    rw [← hy] at h2
    have HX := Lib.hid hx; have HY := Lib.hid hy; clear hx hy
    by_cases hlt : k < 10
    · by_cases hne : x = y
      · subst hne
        go_wp2
        go_quiet (fail)
        go_wp2
        go_roundw
        case rel => exact ⟨k + 1, by omega, by go_num, hE.out.drewN _, (by rw [hf.out, show 10 - k = (10 - (k + 1)) + 1 by omega, fst_eq _ _ _ _ (HX.out ▸ HY.out ▸ rfl)] : _ = _)⟩
        case measure => simp [intOf]; omega
      · go_wp2
        go_quiet (fail)
        go_wp2
        go_ret
        refine ⟨ret_bool ?_, hE.out.drewN _⟩
        rw [hf.out, show 10 - k = (10 - (k + 1)) + 1 by omega, fst_ne _ _ _ _ (by rw [← HX.out, ← HY.out]; exact hne), ← HX.out]
        rw [Bool.eq_iff_iff]; simp; omega
    · go_wp2
      go_ret
      obtain rfl : k = 10 := by omega
      exact ⟨ret_bool (by rw [hf.out]; rfl), hE.out⟩
theorem lower84_any (a b : Nat) (ha : a < 4096) (hb : b < 4096) (w : World) : Calls Try.prog 84 #[.int .i64 (a : Int), .int .i64 (b : Int)] w fun e w' => e = .returned (.bool (fst 12 0 a b)) ∧ Ext w w' := by
  go_enter Try.func84, Try.ntmps84
  go_wp2
  go_loopw [5] (fun i wr => ∃ k : Nat, k ≤ 12 ∧ i = .int .i64 k ∧ Hid (Ext w wr) ∧ Hid (fst 12 0 a b = fst (12 - k) k a b)) (fun i wr => 12 - (intOf i).toNat)
  case atStart => exact ⟨0, Nat.zero_le _, rfl, Ext.refl _, rfl⟩
  case round =>
    obtain ⟨k, hk, rfl, hE, hf⟩ := hrel
    have h1 := shr_and a k (by omega)
    have h2 := shr_and b k (by omega)
    obtain ⟨x, hx⟩ : ∃ x, x = a / 2 ^ k % 2 := ⟨_, rfl⟩
    obtain ⟨y, hy⟩ : ∃ y, y = b / 2 ^ k % 2 := ⟨_, rfl⟩
    rw [← hx] at h1
    rw [← hy] at h2
    have HX := Lib.hid hx; have HY := Lib.hid hy; clear hx hy
    by_cases hlt : k < 12
    · by_cases hne : x = y
      · subst hne
        go_wp2
        go_quiet (fail)
        go_wp2
        go_roundw
        case rel => exact ⟨k + 1, by omega, by go_num, hE.out.drewN _, (by rw [hf.out, show 12 - k = (12 - (k + 1)) + 1 by omega, fst_eq _ _ _ _ (HX.out ▸ HY.out ▸ rfl)] : _ = _)⟩
        case measure => simp [intOf]; omega
      · go_wp2
        go_quiet (fail)
        go_wp2
        go_ret
        refine ⟨ret_bool ?_, hE.out.drewN _⟩
        rw [hf.out, show 12 - k = (12 - (k + 1)) + 1 by omega, fst_ne _ _ _ _ (by rw [← HX.out, ← HY.out]; exact hne), ← HX.out]
        rw [Bool.eq_iff_iff]; simp; omega
    · go_wp2
      go_ret
      obtain rfl : k = 12 := by omega
      exact ⟨ret_bool (by rw [hf.out]; rfl), hE.out⟩
end Go.Proofs.Ytlgdnbpboonhdaa
