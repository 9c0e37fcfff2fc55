/- Contracts of the small functions on sets of strokes: what each returns, and that nothing that was there turns. Contracts of the small functions on lists and offices. Contracts of the reference's small functions on sets, and of the library's small functions on slices. -/
import Derived.Test.YtlgdnbpboonhdaaProg
import Derived.Test.YtlgdnbpboonhdaaP
import Derived.WalkKit
import Derived.Outline
import Derived.Deep.QuietTactic
import Derived.BigQuiet
import Derived.Test.YtlgdnbpboonhdaaL
import Derived.LoopTactic
import Derived.Deep.RegionHeld3
import Derived.BigRegion
namespace Go.Proofs.Ytlgdnbpboonhdaa
open Go.RowKit
set_option linter.unusedVariables false

theorem contains_any (a b : Nat) (ha : a < 1024) (hb : b < 1024) (w : World) : Calls Try.prog 88 #[.int .i64 (a : Int), .int .i64 (b : Int)] w fun e w' => e = .returned (.bool (sub b a)) ∧ w = w' := by
  have h := andNot_nat b a hb ha
  have h2 := sub_dif b a
  have H := Lib.hid h2; clear h2
  go_enter Try.func88, Try.ntmps88
  go_wp2
  go_ret
  refine ⟨ret_bool ?_, rfl⟩
  rw [← H.out, Bool.eq_iff_iff]; simp
theorem within87_any (a b : Nat) (ha : a < 1024) (hb : b < 1024) (w : World) : Calls Try.prog 87 #[.int .i64 (a : Int), .int .i64 (b : Int)] w fun e w' => e = .returned (.bool (sub a b)) ∧ w = w' := by
  have h := and_nat a b (by omega) (by omega)
  go_enter Try.func87, Try.ntmps87
  go_wp2
  go_ret
  refine ⟨ret_bool ?_, rfl⟩
  unfold sub
  rw [Bool.eq_iff_iff]; simp; omega
theorem all43_any (S : Nat) (L : Int) (v : Value) (w : World) (h1 : 1 ≤ S) (h2 : S ≤ 10) : Calls Try.prog 43 #[.agg #[.int .i64 (S : Int), .int .i64 L, v]] w fun e w' => e = .returned (.int .i64 (full S : Int)) ∧ Below w.heap.size w w' := by
  go_enter Try.func43, Try.ntmps43
  go_wp2
  go_ret
  exact ⟨ret_int (by simpa using full_wrap S h1 h2), (Below.refl _ _).alloc (Nat.le_refl _) _⟩
theorem allStrokes_any (S : Nat) (L : Int) (v : Value) (w : World) (h1 : 1 ≤ S) (h2 : S ≤ 10) : Calls Try.prog 58 #[.agg #[.int .i64 (S : Int), .int .i64 L, v]] w fun e w' => e = .returned (.int .i64 (full S : Int)) ∧ Below w.heap.size w w' := by
  go_enter Try.func58, Try.ntmps58
  go_wp2
  go_ret
  exact ⟨ret_int (by simpa using full_wrap S h1 h2), (Below.refl _ _).alloc (Nat.le_refl _) _⟩
theorem allStrokes_int (S L : Int) (v : Value) (w : World) (h : 1 ≤ S ∧ S ≤ 10) : Calls Try.prog 58 #[.agg #[.int .i64 S, .int .i64 L, v]] w fun e w' => e = .returned (.int .i64 (full S.toNat : Int)) ∧ Below w.heap.size w w' := by
  obtain ⟨n, rfl⟩ := Int.eq_ofNat_of_zero_le (show 0 ≤ S by omega)
  exact allStrokes_any n L v w (by omega) (by omega)
theorem all43_int (S L : Int) (v : Value) (w : World) (h : 1 ≤ S ∧ S ≤ 10) : Calls Try.prog 43 #[.agg #[.int .i64 S, .int .i64 L, v]] w fun e w' => e = .returned (.int .i64 (full S.toNat : Int)) ∧ Below w.heap.size w w' := by
  obtain ⟨n, rfl⟩ := Int.eq_ofNat_of_zero_le (show 0 ≤ S by omega)
  exact all43_any n L v w (by omega) (by omega)
theorem cmp_any (a b : Int)  (w : World) : Calls Try.prog 96 #[.int .i64 a, .int .i64 b] w fun e w' => e = .returned (.int .i64 (cmpI a b)) ∧ w = w' := by
  by_cases h : a < b
  · have e : cmpI a b = -1 := if_pos h
    rw [e]; clear e
    go_enter Try.func96, Try.ntmps96
    go_wp2
    go_ret
    exact ⟨rfl, rfl⟩
  · by_cases h2 : b < a
    · have e : cmpI a b = 1 := by rw [cmpI, if_neg h, if_pos h2]
      rw [e]; clear e
      go_enter Try.func96, Try.ntmps96
      go_wp2
      go_ret
      exact ⟨rfl, rfl⟩
    · have e : cmpI a b = 0 := by rw [cmpI, if_neg h, if_neg h2]
      rw [e]; clear e
      go_enter Try.func96, Try.ntmps96
      go_wp2
      go_ret
      exact ⟨rfl, rfl⟩
set_option maxRecDepth 100000 in
theorem ones64 (n : Nat) (h : n < 1024) (w : World) : Calls Try.prog 110 #[.int .u64 (n : Int)] w fun e w' => e = .returned (.int .i64 (pc n : Int)) ∧ w = w' := by
  have h1 : 0 ≤ (n : Int) := by omega
  have h2 : (n : Int) ≤ 1023 := by omega
  go_enter Try.func110, Try.ntmps110
  go_wp2
  go_ret
  refine ⟨ret_int ?_, rfl⟩
  clear h1 h2
  revert n
  decide +kernel
theorem ones (n : Nat) (h : n < 1024) (w : World) : Calls Try.prog 104 #[.int .u64 (n : Int)] w fun e w' => e = .returned (.int .i64 (pc n : Int)) ∧ w = w' := by
  have h1 : 0 ≤ (n : Int) := by omega
  have h2 : (n : Int) ≤ 1023 := by omega
  go_enter Try.func104, Try.ntmps104
  go_wp2_with (go_at_call 110; refine (ones64 _ h _).mono ?_; rintro e w' ⟨rfl, rfl⟩)
  go_ret
  exact ⟨rfl, rfl⟩
theorem count_any (n : Nat) (h : n < 1024) (w : World) : Calls Try.prog 89 #[.int .i64 (n : Int)] w fun e w' => e = .returned (.int .i64 (pc n : Int)) ∧ w = w' := by
  have h1 : 0 ≤ (n : Int) := by omega
  have h2 : (n : Int) ≤ 1023 := by omega
  have h3 : IntKind.u64.wrap (n : Int) = n := by simp [IntKind.wrap_u64]; omega
  go_enter Try.func89, Try.ntmps89
  go_wp2_with (go_at_call 104; refine (ones _ h _).mono ?_; rintro e w' ⟨rfl, rfl⟩)
  go_ret
  exact ⟨rfl, rfl⟩
theorem anyone_any (n : Int) (w : World) : Calls Try.prog 76 #[.int .i64 n] w fun e w' => e = .returned (.bool true) ∧ w = w' := by
  go_enter Try.func76, Try.ntmps76
  go_wp2
  go_ret
  exact ⟨rfl, rfl⟩
end Go.Proofs.Ytlgdnbpboonhdaa
namespace Go.Proofs.Ytlgdnbpboonhdaa
open Go.RowKit
set_option linter.unusedVariables false
def inR (lo hi : Int) (xs : List Int) : Bool := xs.all fun n => decide (lo ≤ n) && decide (n ≤ hi)
theorem inR_snoc (lo hi : Int) (xs : List Int) (k : Nat) (x : Int) (h : xs[k]? = some x) : inR lo hi (xs.take (k + 1)) = (inR lo hi (xs.take k) && (decide (lo ≤ x) && decide (x ≤ hi))) := by
  rw [take_snoc h]; simp [inR]
theorem inR_false (lo hi : Int) (xs : List Int) (k : Nat) (x : Int) (h : xs[k]? = some x) (hx : x < lo ∨ hi < x) : inR lo hi xs = false := by
  have hm : x ∈ xs := List.mem_of_getElem? h
  cases e : inR lo hi xs with
  | false => rfl
  | true =>
    have := List.all_eq_true.1 e x hm
    simp at this; omega
theorem within_any (lo hi : Int) (v : Value) (xs : List Int) (w : World) (hr : Reads w v xs) :
    Calls Try.prog 57 #[.int .i64 lo, .int .i64 hi, v] w fun e w' => e = .returned (.bool (inR lo hi xs)) ∧ w = w' := by
  obtain ⟨hl, a, cap, rfl⟩ := hr.shape
  have HC := Lib.hid hr; clear hr
  have hl2 : xs.length ≤ 9223372036854775807 := by omega
  go_enter Try.func57, Try.ntmps57
  go_wp2
  go_loop [11] (fun i => ∃ k : Nat, k ≤ xs.length ∧ i = .int .i64 k ∧ Hid (inR lo hi (xs.take k) = true)) (fun i => xs.length - (intOf i).toNat)
  case atStart => exact ⟨0, Nat.zero_le _, rfl, rfl⟩
  case round =>
    obtain ⟨k, hk, rfl, hall⟩ := hrel
    by_cases hlt : k < xs.length
    · obtain ⟨b, off, x, rfl, hx, hck⟩ := HC.out.at hlt
      have HX := Lib.hid hx; clear hx
      by_cases hb : lo ≤ x ∧ x ≤ hi
      · obtain ⟨h1, h2⟩ := hb
        go_wp2
        go_round
        case rel => exact ⟨k + 1, by omega, by go_num, show _ = true by rw [inR_snoc _ _ _ _ _ HX.out, hall.out]; simp [h1, h2]⟩
        case measure => simp [intOf]; omega
      · have hb' : x < lo ∨ hi < x := by omega
        have HF := Lib.hid (inR_false _ _ _ _ _ HX.out hb')
        rcases hb' with hb | hb
        all_goals
          clear hb
          go_wp2
          all_goals first | (go_ret; exact ⟨ret_bool HF.out.symm, rfl⟩) | skip
        all_goals (exfalso; omega)
    · go_wp2
      go_ret
      have : k = xs.length := by omega
      subst this
      refine ⟨ret_bool ?_, rfl⟩
      have := hall.out
      rw [List.take_of_length_le (Nat.le_refl _)] at this
      exact this.symm
end Go.Proofs.Ytlgdnbpboonhdaa
namespace Go.Proofs.Ytlgdnbpboonhdaa
open Go.RowKit
set_option linter.unusedVariables false
def pcTo : Nat → Nat → Nat
  | 0, _ => 0
  | i + 1, n => pcTo i n + n / 2 ^ i % 2
theorem pcTo_le (i n : Nat) : pcTo i n ≤ i := by induction i with | zero => simp [pcTo] | succ i ih => simp [pcTo]; omega
theorem pcTo10 (n : Nat) : pcTo 10 n = pc n := by simp [pcTo, pc]
theorem shr_and (n i : Nat) (h : n < 4096) : bits .and .i64 ((n : Int) / 2 ^ i) 1 = ((n / 2 ^ i % 2 : Nat) : Int) := by
  have e : ((n : Int) / 2 ^ i) = ((n / 2 ^ i : Nat) : Int) := by simp
  have h2 : n / 2 ^ i < 4096 := Nat.lt_of_le_of_lt (Nat.div_le_self _ _) h
  rw [e, show (1 : Int) = ((1 : Nat) : Int) from rfl, and_nat _ _ (by omega) (by omega), Nat.and_one_is_mod]
theorem size_any (n : Nat) (h : n < 1024) (w : World) : Calls Try.prog 47 #[.int .i64 (n : Int)] w fun e w' => e = .returned (.int .i64 (pc n : Int)) ∧ w = w' := by
  go_enter Try.func47, Try.ntmps47
  go_wp2
  go_loop [3, 4] (fun s i => ∃ k : Nat, k ≤ 10 ∧ i = .int .i64 k ∧ s = .int .i64 (pcTo k n : Int)) (fun s i => 10 - (intOf i).toNat)
  case atStart => exact ⟨0, Nat.zero_le _, rfl, rfl⟩
  case round =>
    obtain ⟨k, hk, rfl, rfl⟩ := hrel
    have hle := pcTo_le k n
    have hsh := shr_and n k (by omega)
    by_cases hlt : k < 10
    · go_wp2
      go_round
      case rel => exact ⟨k + 1, by omega, by go_num, by simp [pcTo]⟩
      case measure => simp [intOf]; omega
    · go_wp2
      go_ret
      obtain rfl : k = 10 := by omega
      exact ⟨ret_int (by rw [pcTo10]), rfl⟩
theorem canBe42_any (x m : Nat) (L : Int) (hx : x < 1024) (hm : m < 1024) (w : World) : Calls Try.prog 42 #[.int .i64 (x : Int), .int .i64 (m : Int), .int .i64 L] w fun e w' => e = .returned (.bool (cb L x m)) ∧ w = w' := by
  cases hs : sub x m
  · rw [cb_sub _ _ _ hs]
    go_enter Try.func42, Try.ntmps42
    go_wp2_with fail
    refine (within87_any _ _ hx hm _).mono ?_
    rintro e w' ⟨rfl, rfl⟩
    go_wp2
    go_ret
    exact ⟨rfl, rfl⟩
  · have hle := sub_le _ _ hs
    rw [cb_yes _ _ _ hs]
    have e1 : ((m : Int) - (x : Int)) = ((m - x : Nat) : Int) := by omega
    have E1 := Lib.hid e1; clear e1
    go_enter Try.func42, Try.ntmps42
    go_wp2_with fail
    refine (within87_any _ _ hx hm _).mono ?_
    rintro e w' ⟨rfl, rfl⟩
    go_wp2_with fail
    rw [E1.out]
    refine (size_any _ (by omega) _).mono ?_
    rintro e w' ⟨rfl, rfl⟩
    go_wp2
    go_ret
    exact ⟨rfl, rfl⟩
/-- The least stroke, from i on, that is in one of two sets alone is in the first one. -/
def fst : Nat → Nat → Nat → Nat → Bool
  | 0, _, _, _ => false
  | n + 1, i, a, b => if a / 2 ^ i % 2 ≠ b / 2 ^ i % 2 then a / 2 ^ i % 2 == 1 else fst n (i + 1) a b
theorem fst_ne (n i a b : Nat) (h : a / 2 ^ i % 2 ≠ b / 2 ^ i % 2) : fst (n + 1) i a b = (a / 2 ^ i % 2 == 1) := by simp [fst, h]
theorem fst_eq (n i a b : Nat) (h : a / 2 ^ i % 2 = b / 2 ^ i % 2) : fst (n + 1) i a b = fst n (i + 1) a b := by simp [fst, h]
theorem first48_any (a b : Nat) (ha : a < 1024) (hb : b < 1024) (w : World) : Calls Try.prog 48 #[.int .i64 (a : Int), .int .i64 (b : Int)] w fun e w' => e = .returned (.bool (fst 10 0 a b)) ∧ Ext w w' := by
  go_enter Try.func48, Try.ntmps48
  go_wp2
  go_loopw [5] (fun i wr => ∃ k : Nat, k ≤ 10 ∧ i = .int .i64 k ∧ Hid (Ext w wr) ∧ Hid (fst 10 0 a b = fst (10 - k) k a b)) (fun i wr => 10 - (intOf i).toNat)
  case atStart => exact ⟨0, Nat.zero_le _, rfl, Ext.refl _, rfl⟩
  case round =>
    obtain ⟨k, hk, rfl, hE, hf⟩ := hrel
    have h1 := shr_and a k (by omega)
    have h2 := shr_and b k (by omega)
    obtain ⟨x, hx⟩ : ∃ x, x = a / 2 ^ k % 2 := ⟨_, rfl⟩
    obtain ⟨y, hy⟩ : ∃ y, y = b / 2 ^ k % 2 := ⟨_, rfl⟩
    rw [← hx] at h1
    rw [← hy] at h2
    have HX := Lib.hid hx; have HY := Lib.hid hy; clear hx hy
    by_cases hlt : k < 10
    · by_cases hne : x = y
      · subst hne
        go_wp2
        go_quiet (fail)
        go_wp2
        go_roundw
        case rel => exact ⟨k + 1, by omega, by go_num, hE.out.drewN _, (by rw [hf.out, show 10 - k = (10 - (k + 1)) + 1 by omega, fst_eq _ _ _ _ (HX.out ▸ HY.out ▸ rfl)] : _ = _)⟩
        case measure => simp [intOf]; omega
      · go_wp2
        go_quiet (fail)
        go_wp2
        go_ret
        refine ⟨ret_bool ?_, hE.out.drewN _⟩
        rw [hf.out, show 10 - k = (10 - (k + 1)) + 1 by omega, fst_ne _ _ _ _ (by rw [← HX.out, ← HY.out]; exact hne), ← HX.out]
        rw [Bool.eq_iff_iff]; simp; omega
    · go_wp2
      go_ret
      obtain rfl : k = 10 := by omega
      exact ⟨ret_bool (by rw [hf.out]; rfl), hE.out⟩
theorem lower84_any (a b : Nat) (ha : a < 4096) (hb : b < 4096) (w : World) : Calls Try.prog 84 #[.int .i64 (a : Int), .int .i64 (b : Int)] w fun e w' => e = .returned (.bool (fst 12 0 a b)) ∧ Ext w w' := by
  go_enter Try.func84, Try.ntmps84
  go_wp2
  go_loopw [5] (fun i wr => ∃ k : Nat, k ≤ 12 ∧ i = .int .i64 k ∧ Hid (Ext w wr) ∧ Hid (fst 12 0 a b = fst (12 - k) k a b)) (fun i wr => 12 - (intOf i).toNat)
  case atStart => exact ⟨0, Nat.zero_le _, rfl, Ext.refl _, rfl⟩
  case round =>
    obtain ⟨k, hk, rfl, hE, hf⟩ := hrel
    have h1 := shr_and a k (by omega)
    have h2 := shr_and b k (by omega)
    obtain ⟨x, hx⟩ : ∃ x, x = a / 2 ^ k % 2 := ⟨_, rfl⟩
    obtain ⟨y, hy⟩ : ∃ y, y = b / 2 ^ k % 2 := ⟨_, rfl⟩
    rw [← hx] at h1
    rw [← hy] at h2
    have HX := Lib.hid hx; have HY := Lib.hid hy; clear hx hy
    by_cases hlt : k < 12
    · by_cases hne : x = y
      · subst hne
        go_wp2
        go_quiet (fail)
        go_wp2
        go_roundw
        case rel => exact ⟨k + 1, by omega, by go_num, hE.out.drewN _, (by rw [hf.out, show 12 - k = (12 - (k + 1)) + 1 by omega, fst_eq _ _ _ _ (HX.out ▸ HY.out ▸ rfl)] : _ = _)⟩
        case measure => simp [intOf]; omega
      · go_wp2
        go_quiet (fail)
        go_wp2
        go_ret
        refine ⟨ret_bool ?_, hE.out.drewN _⟩
        rw [hf.out, show 12 - k = (12 - (k + 1)) + 1 by omega, fst_ne _ _ _ _ (by rw [← HX.out, ← HY.out]; exact hne), ← HX.out]
        rw [Bool.eq_iff_iff]; simp; omega
    · go_wp2
      go_ret
      obtain rfl : k = 12 := by omega
      exact ⟨ret_bool (by rw [hf.out]; rfl), hE.out⟩
end Go.Proofs.Ytlgdnbpboonhdaa
