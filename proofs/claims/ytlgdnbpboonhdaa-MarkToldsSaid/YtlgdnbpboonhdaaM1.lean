/- Contracts of the small functions on sets of strokes: what each returns, and that nothing that was there turns. -/
import Derived.Test.YtlgdnbpboonhdaaProg
import Derived.Test.YtlgdnbpboonhdaaP
import Derived.WalkKit
import Derived.Outline
import Derived.Deep.QuietTactic
import Derived.BigQuiet
namespace Go.Proofs.Ytlgdnbpboonhdaa
open Go.RowKit
set_option linter.unusedVariables false

theorem contains_any (a b : Nat) (ha : a < 1024) (hb : b < 1024) (w : World) : Calls Try.prog 88 #[.int .i64 (a : Int), .int .i64 (b : Int)] w fun e w' => e = .returned (.bool (sub b a)) ∧ w = w' := by
  have h := andNot_nat b a hb ha
  have h2 := sub_dif b a
  have H := Lib.hid h2; clear h2
  go_enter Try.func88, Try.ntmps88
  go_wp2
  go_ret
  refine ⟨ret_bool ?_, rfl⟩
  rw [← H.out, Bool.eq_iff_iff]; simp
theorem within87_any (a b : Nat) (ha : a < 1024) (hb : b < 1024) (w : World) : Calls Try.prog 87 #[.int .i64 (a : Int), .int .i64 (b : Int)] w fun e w' => e = .returned (.bool (sub a b)) ∧ w = w' := by
  have h := and_nat a b (by omega) (by omega)
  go_enter Try.func87, Try.ntmps87
  go_wp2
  go_ret
  refine ⟨ret_bool ?_, rfl⟩
  unfold sub
  rw [Bool.eq_iff_iff]; simp; omega
theorem all43_any (S : Nat) (L : Int) (v : Value) (w : World) (h1 : 1 ≤ S) (h2 : S ≤ 10) : Calls Try.prog 43 #[.agg #[.int .i64 (S : Int), .int .i64 L, v]] w fun e w' => e = .returned (.int .i64 (full S : Int)) ∧ Below w.heap.size w w' := by
  go_enter Try.func43, Try.ntmps43
  go_wp2
  go_ret
  exact ⟨ret_int (by simpa using full_wrap S h1 h2), (Below.refl _ _).alloc (Nat.le_refl _) _⟩
theorem allStrokes_any (S : Nat) (L : Int) (v : Value) (w : World) (h1 : 1 ≤ S) (h2 : S ≤ 10) : Calls Try.prog 58 #[.agg #[.int .i64 (S : Int), .int .i64 L, v]] w fun e w' => e = .returned (.int .i64 (full S : Int)) ∧ Below w.heap.size w w' := by
  go_enter Try.func58, Try.ntmps58
  go_wp2
  go_ret
  exact ⟨ret_int (by simpa using full_wrap S h1 h2), (Below.refl _ _).alloc (Nat.le_refl _) _⟩
theorem allStrokes_int (S L : Int) (v : Value) (w : World) (h : 1 ≤ S ∧ S ≤ 10) : Calls Try.prog 58 #[.agg #[.int .i64 S, .int .i64 L, v]] w fun e w' => e = .returned (.int .i64 (full S.toNat : Int)) ∧ Below w.heap.size w w' := by
  obtain ⟨n, rfl⟩ := Int.eq_ofNat_of_zero_le (show 0 ≤ S by omega)
  exact allStrokes_any n L v w (by omega) (by omega)
theorem all43_int (S L : Int) (v : Value) (w : World) (h : 1 ≤ S ∧ S ≤ 10) : Calls Try.prog 43 #[.agg #[.int .i64 S, .int .i64 L, v]] w fun e w' => e = .returned (.int .i64 (full S.toNat : Int)) ∧ Below w.heap.size w w' := by
  obtain ⟨n, rfl⟩ := Int.eq_ofNat_of_zero_le (show 0 ≤ S by omega)
  exact all43_any n L v w (by omega) (by omega)
theorem cmp_any (a b : Int)  (w : World) : Calls Try.prog 96 #[.int .i64 a, .int .i64 b] w fun e w' => e = .returned (.int .i64 (cmpI a b)) ∧ w = w' := by
  by_cases h : a < b
  · have e : cmpI a b = -1 := if_pos h
    rw [e]; clear e
    go_enter Try.func96, Try.ntmps96
    go_wp2
    go_ret
    exact ⟨rfl, rfl⟩
  · by_cases h2 : b < a
    · have e : cmpI a b = 1 := by rw [cmpI, if_neg h, if_pos h2]
      rw [e]; clear e
      go_enter Try.func96, Try.ntmps96
      go_wp2
      go_ret
      exact ⟨rfl, rfl⟩
    · have e : cmpI a b = 0 := by rw [cmpI, if_neg h, if_neg h2]
      rw [e]; clear e
      go_enter Try.func96, Try.ntmps96
      go_wp2
      go_ret
      exact ⟨rfl, rfl⟩
set_option maxRecDepth 100000 in
theorem ones64 (n : Nat) (h : n < 1024) (w : World) : Calls Try.prog 110 #[.int .u64 (n : Int)] w fun e w' => e = .returned (.int .i64 (pc n : Int)) ∧ w = w' := by
  have h1 : 0 ≤ (n : Int) := by omega
  have h2 : (n : Int) ≤ 1023 := by omega
  go_enter Try.func110, Try.ntmps110
  go_wp2
  go_ret
  refine ⟨ret_int ?_, rfl⟩
  clear h1 h2
  revert n
  decide +kernel
theorem ones (n : Nat) (h : n < 1024) (w : World) : Calls Try.prog 104 #[.int .u64 (n : Int)] w fun e w' => e = .returned (.int .i64 (pc n : Int)) ∧ w = w' := by
  have h1 : 0 ≤ (n : Int) := by omega
  have h2 : (n : Int) ≤ 1023 := by omega
  go_enter Try.func104, Try.ntmps104
  go_wp2_with (go_at_call 110; refine (ones64 _ h _).mono ?_; rintro e w' ⟨rfl, rfl⟩)
  go_ret
  exact ⟨rfl, rfl⟩
theorem count_any (n : Nat) (h : n < 1024) (w : World) : Calls Try.prog 89 #[.int .i64 (n : Int)] w fun e w' => e = .returned (.int .i64 (pc n : Int)) ∧ w = w' := by
  have h1 : 0 ≤ (n : Int) := by omega
  have h2 : (n : Int) ≤ 1023 := by omega
  have h3 : IntKind.u64.wrap (n : Int) = n := by simp [IntKind.wrap_u64]; omega
  go_enter Try.func89, Try.ntmps89
  go_wp2_with (go_at_call 104; refine (ones _ h _).mono ?_; rintro e w' ⟨rfl, rfl⟩)
  go_ret
  exact ⟨rfl, rfl⟩
theorem anyone_any (n : Int) (w : World) : Calls Try.prog 76 #[.int .i64 n] w fun e w' => e = .returned (.bool true) ∧ w = w' := by
  go_enter Try.func76, Try.ntmps76
  go_wp2
  go_ret
  exact ⟨rfl, rfl⟩
end Go.Proofs.Ytlgdnbpboonhdaa
