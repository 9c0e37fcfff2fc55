/- Contracts of small functions on numbers and lists of them: what each returns; the world stays. -/
import Derived.Test.YtcgheakadfjofaaProg
import Derived.Test.YtcgheakadfjofaaL
import Derived.WalkKit
import Derived.Outline
import Derived.Deep.QuietTactic
import Derived.BigQuiet
import Derived.LoopTactic
import Derived.Deep.RegionHeld3
import Derived.BigRegion
namespace Go.Proofs.Ytcgheakadfjofaa
open Go.RowKit
set_option linter.unusedVariables false
set_option linter.unusedSimpArgs false
theorem inn_snoc (lo hi : Int) (xs : List Int) (k : Nat) (x : Int) (h : xs[k]? = some x) : inn lo hi (xs.take (k + 1)) = (inn lo hi (xs.take k) && (decide (lo ≤ x) && decide (x ≤ hi))) := by
  rw [take_snoc h]; simp [inn]
theorem inn_false (lo hi : Int) (xs : List Int) (k : Nat) (x : Int) (h : xs[k]? = some x) (hx : x < lo ∨ hi < x) : inn lo hi xs = false := by
  have hm : x ∈ xs := List.mem_of_getElem? h
  cases e : inn lo hi xs with
  | false => rfl
  | true =>
    have := List.all_eq_true.1 e x hm
    simp at this; omega
theorem within55 (lo hi : Int) (v : Value) (xs : List Int) (w : World) (hr : Reads w v xs) :
    Calls Try.prog 55 #[.int .i64 lo, .int .i64 hi, v] w fun e w' => e = .returned (.bool (inn lo hi xs)) ∧ w = w' := by
  obtain ⟨hl, a, cap, rfl⟩ := hr.shape
  have HC := Lib.hid hr; clear hr
  have hl2 : xs.length ≤ 9223372036854775807 := by omega
  go_enter Try.func55, Try.ntmps55
  go_wp2
  go_loop [11] (fun i => ∃ k : Nat, k ≤ xs.length ∧ i = .int .i64 k ∧ Hid (inn lo hi (xs.take k) = true)) (fun i => xs.length - (intOf i).toNat)
  case atStart => exact ⟨0, Nat.zero_le _, rfl, rfl⟩
  case round =>
    obtain ⟨k, hk, rfl, hall⟩ := hrel
    by_cases hlt : k < xs.length
    · obtain ⟨b, off, x, rfl, hx, hck⟩ := HC.out.at hlt
      have HX := Lib.hid hx; clear hx
      by_cases hb : lo ≤ x ∧ x ≤ hi
      · obtain ⟨h1, h2⟩ := hb
        go_wp2
        go_round
        case rel => exact ⟨k + 1, by omega, by go_num, show _ = true by rw [inn_snoc _ _ _ _ _ HX.out, hall.out]; simp [h1, h2]⟩
        case measure => simp [intOf]; omega
      · have hb' : x < lo ∨ hi < x := by omega
        have HF := Lib.hid (inn_false _ _ _ _ _ HX.out hb')
        rcases hb' with hb | hb
        all_goals
          clear hb
          go_wp2
          all_goals first | (go_ret; exact ⟨ret_bool HF.out.symm, rfl⟩) | skip
        all_goals (exfalso; omega)
    · go_wp2
      go_ret
      have : k = xs.length := by omega
      subst this
      refine ⟨ret_bool ?_, rfl⟩
      have := hall.out
      rw [List.take_of_length_le (Nat.le_refl _)] at this
      exact this.symm
theorem within56 (lo hi : Int) (v : Value) (xs : List Int) (w : World) (hr : Reads w v xs) :
    Calls Try.prog 56 #[.int .i64 lo, .int .i64 hi, v] w fun e w' => e = .returned (.bool (inn lo hi xs)) ∧ w = w' := by
  obtain ⟨hl, a, cap, rfl⟩ := hr.shape
  have HC := Lib.hid hr; clear hr
  have hl2 : xs.length ≤ 9223372036854775807 := by omega
  go_enter Try.func56, Try.ntmps56
  go_wp2
  go_loop [11] (fun i => ∃ k : Nat, k ≤ xs.length ∧ i = .int .i64 k ∧ Hid (inn lo hi (xs.take k) = true)) (fun i => xs.length - (intOf i).toNat)
  case atStart => exact ⟨0, Nat.zero_le _, rfl, rfl⟩
  case round =>
    obtain ⟨k, hk, rfl, hall⟩ := hrel
    by_cases hlt : k < xs.length
    · obtain ⟨b, off, x, rfl, hx, hck⟩ := HC.out.at hlt
      have HX := Lib.hid hx; clear hx
      by_cases hb : lo ≤ x ∧ x ≤ hi
      · obtain ⟨h1, h2⟩ := hb
        go_wp2
        go_round
        case rel => exact ⟨k + 1, by omega, by go_num, show _ = true by rw [inn_snoc _ _ _ _ _ HX.out, hall.out]; simp [h1, h2]⟩
        case measure => simp [intOf]; omega
      · have hb' : x < lo ∨ hi < x := by omega
        have HF := Lib.hid (inn_false _ _ _ _ _ HX.out hb')
        rcases hb' with hb | hb
        all_goals
          clear hb
          go_wp2
          all_goals first | (go_ret; exact ⟨ret_bool HF.out.symm, rfl⟩) | skip
        all_goals (exfalso; omega)
    · go_wp2
      go_ret
      have : k = xs.length := by omega
      subst this
      refine ⟨ret_bool ?_, rfl⟩
      have := hall.out
      rw [List.take_of_length_le (Nat.le_refl _)] at this
      exact this.symm
theorem cmp78 (a b : Int) (w : World) : Calls Try.prog 78 #[.int .i64 a, .int .i64 b] w fun e w' => e = .returned (.int .i64 (cmpI a b)) ∧ w = w' := by
  by_cases h : a < b
  · have e : cmpI a b = -1 := if_pos h
    rw [e]; clear e
    go_enter Try.func78, Try.ntmps78
    go_wp2
    go_ret
    exact ⟨rfl, rfl⟩
  · by_cases h2 : b < a
    · have e : cmpI a b = 1 := by rw [cmpI, if_neg h, if_pos h2]
      rw [e]; clear e
      go_enter Try.func78, Try.ntmps78
      go_wp2
      go_ret
      exact ⟨rfl, rfl⟩
    · have e : cmpI a b = 0 := by rw [cmpI, if_neg h, if_neg h2]
      rw [e]; clear e
      go_enter Try.func78, Try.ntmps78
      go_wp2
      go_ret
      exact ⟨rfl, rfl⟩
theorem thick58 (a b : Int) (w : World) : Calls Try.prog 58 #[.int .i64 a, .int .i64 b] w fun e w' => e = .returned (.int .i64 (cmpI b a)) ∧ w = w' := by
  go_enter Try.func58, Try.ntmps58
  go_wp2_with (go_at_call 78; refine (cmp78 _ _ _).mono ?_; rintro e w' ⟨rfl, rfl⟩)
  go_ret
  exact ⟨rfl, rfl⟩
theorem refwithin60 (n lo hi : Int) (w : World) : Calls Try.prog 60 #[.int .i64 n, .int .i64 lo, .int .i64 hi] w fun e w' => e = .returned (.bool (decide (lo ≤ n) && decide (n ≤ hi))) ∧ w = w' := by
  by_cases h : lo ≤ n
  · go_enter Try.func60, Try.ntmps60
    go_wp2
    go_ret
    refine ⟨ret_bool ?_, rfl⟩
    simp [h]
  · go_enter Try.func60, Try.ntmps60
    go_wp2
    go_ret
    refine ⟨ret_bool ?_, rfl⟩
    have h' : ¬ lo ≤ n := by omega
    simp [h']
/-- The lists that are in order go on being so. -/
theorem up_take_succ (xs : List Int) (k : Nat) (x y : Int) (h : xs[k]? = some x) (h' : xs[k + 1]? = some y) : up (xs.take (k + 2)) = (up (xs.take (k + 1)) && decide (x < y)) := by
  induction xs generalizing k with
  | nil => simp at h
  | cons a l ih =>
    cases k with
    | zero =>
      cases l with
      | nil => simp at h'
      | cons b l => simp at h h'; subst h; subst h'; simp [up]
    | succ k =>
      cases l with
      | nil => simp at h
      | cons b l =>
        simp only [List.getElem?_cons_succ] at h h'
        have := ih k h h'
        simp only [List.take_succ_cons] at this ⊢
        simp only [up, this, Bool.and_assoc]
theorem down_take_succ (xs : List Int) (k : Nat) (x y : Int) (h : xs[k]? = some x) (h' : xs[k + 1]? = some y) : down (xs.take (k + 2)) = (down (xs.take (k + 1)) && decide (y ≤ x)) := by
  induction xs generalizing k with
  | nil => simp at h
  | cons a l ih =>
    cases k with
    | zero =>
      cases l with
      | nil => simp at h'
      | cons b l => simp at h h'; subst h; subst h'; simp [down]
    | succ k =>
      cases l with
      | nil => simp at h
      | cons b l =>
        simp only [List.getElem?_cons_succ] at h h'
        have := ih k h h'
        simp only [List.take_succ_cons] at this ⊢
        simp only [down, this, Bool.and_assoc]
theorem up_prefix : ∀ (xs : List Int) (n : Nat), up xs = true → up (xs.take n) = true
  | [], n, _ => by simp [up]
  | [x], n, _ => by cases n <;> simp [up]
  | x :: y :: l, 0, _ => by simp [up]
  | x :: y :: l, 1, _ => by simp [up]
  | x :: y :: l, n + 2, h => by
    have h1 := up_prefix (y :: l) (n + 1)
    simp only [up, Bool.and_eq_true, List.take_succ_cons] at h h1 ⊢
    exact ⟨h.1, h1 h.2⟩
theorem down_prefix : ∀ (xs : List Int) (n : Nat), down xs = true → down (xs.take n) = true
  | [], n, _ => by simp [down]
  | [x], n, _ => by cases n <;> simp [down]
  | x :: y :: l, 0, _ => by simp [down]
  | x :: y :: l, 1, _ => by simp [down]
  | x :: y :: l, n + 2, h => by
    have h1 := down_prefix (y :: l) (n + 1)
    simp only [down, Bool.and_eq_true, List.take_succ_cons] at h h1 ⊢
    exact ⟨h.1, h1 h.2⟩
end Go.Proofs.Ytcgheakadfjofaa
