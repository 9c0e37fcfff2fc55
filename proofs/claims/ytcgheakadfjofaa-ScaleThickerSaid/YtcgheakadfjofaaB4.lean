/- Contracts of small functions on numbers and lists of them: what each returns; the world stays. Contracts: lists in order. -/
import Derived.Test.YtcgheakadfjofaaProg
import Derived.Test.YtcgheakadfjofaaL
import Derived.WalkKit
import Derived.Outline
import Derived.Deep.QuietTactic
import Derived.BigQuiet
import Derived.LoopTactic
import Derived.Deep.RegionHeld3
import Derived.BigRegion
import Derived.Deep.LoopGhost
import Derived.Deep.RegionWith
namespace Go.Proofs.Ytcgheakadfjofaa
open Go.RowKit
set_option linter.unusedVariables false
set_option linter.unusedSimpArgs false
theorem inn_snoc (lo hi : Int) (xs : List Int) (k : Nat) (x : Int) (h : xs[k]? = some x) : inn lo hi (xs.take (k + 1)) = (inn lo hi (xs.take k) && (decide (lo ≤ x) && decide (x ≤ hi))) := by
  rw [take_snoc h]; simp [inn]
theorem inn_false (lo hi : Int) (xs : List Int) (k : Nat) (x : Int) (h : xs[k]? = some x) (hx : x < lo ∨ hi < x) : inn lo hi xs = false := by
  have hm : x ∈ xs := List.mem_of_getElem? h
  cases e : inn lo hi xs with
  | false => rfl
  | true =>
    have := List.all_eq_true.1 e x hm
    simp at this; omega
theorem within55 (lo hi : Int) (v : Value) (xs : List Int) (w : World) (hr : Reads w v xs) :
    Calls Try.prog 55 #[.int .i64 lo, .int .i64 hi, v] w fun e w' => e = .returned (.bool (inn lo hi xs)) ∧ w = w' := by
  obtain ⟨hl, a, cap, rfl⟩ := hr.shape
  have HC := Lib.hid hr; clear hr
  have hl2 : xs.length ≤ 9223372036854775807 := by omega
  go_enter Try.func55, Try.ntmps55
  go_wp2
  go_loop [11] (fun i => ∃ k : Nat, k ≤ xs.length ∧ i = .int .i64 k ∧ Hid (inn lo hi (xs.take k) = true)) (fun i => xs.length - (intOf i).toNat)
  case atStart => exact ⟨0, Nat.zero_le _, rfl, rfl⟩
  case round =>
    obtain ⟨k, hk, rfl, hall⟩ := hrel
    by_cases hlt : k < xs.length
    · obtain ⟨b, off, x, rfl, hx, hck⟩ := HC.out.at hlt
      have HX := Lib.hid hx; clear hx
      by_cases hb : lo ≤ x ∧ x ≤ hi
      · obtain ⟨h1, h2⟩ := hb
        go_wp2
        go_round
        case rel => exact ⟨k + 1, by omega, by go_num, show _ = true by rw [inn_snoc _ _ _ _ _ HX.out, hall.out]; simp [h1, h2]⟩
        case measure => simp [intOf]; omega
      · have hb' : x < lo ∨ hi < x := by omega
        have HF := Lib.hid (inn_false _ _ _ _ _ HX.out hb')
        rcases hb' with hb | hb
        all_goals
          clear hb
          go_wp2
          all_goals first | (go_ret; exact ⟨ret_bool HF.out.symm, rfl⟩) | skip
        all_goals (exfalso; omega)
    · go_wp2
      go_ret
      have : k = xs.length := by omega
      subst this
      refine ⟨ret_bool ?_, rfl⟩
      have := hall.out
      rw [List.take_of_length_le (Nat.le_refl _)] at this
      exact this.symm
theorem within56 (lo hi : Int) (v : Value) (xs : List Int) (w : World) (hr : Reads w v xs) :
    Calls Try.prog 56 #[.int .i64 lo, .int .i64 hi, v] w fun e w' => e = .returned (.bool (inn lo hi xs)) ∧ w = w' := by
  obtain ⟨hl, a, cap, rfl⟩ := hr.shape
  have HC := Lib.hid hr; clear hr
  have hl2 : xs.length ≤ 9223372036854775807 := by omega
  go_enter Try.func56, Try.ntmps56
  go_wp2
  go_loop [11] (fun i => ∃ k : Nat, k ≤ xs.length ∧ i = .int .i64 k ∧ Hid (inn lo hi (xs.take k) = true)) (fun i => xs.length - (intOf i).toNat)
  case atStart => exact ⟨0, Nat.zero_le _, rfl, rfl⟩
  case round =>
    obtain ⟨k, hk, rfl, hall⟩ := hrel
    by_cases hlt : k < xs.length
    · obtain ⟨b, off, x, rfl, hx, hck⟩ := HC.out.at hlt
      have HX := Lib.hid hx; clear hx
      by_cases hb : lo ≤ x ∧ x ≤ hi
      · obtain ⟨h1, h2⟩ := hb
        go_wp2
        go_round
        case rel => exact ⟨k + 1, by omega, by go_num, show _ = true by rw [inn_snoc _ _ _ _ _ HX.out, hall.out]; simp [h1, h2]⟩
        case measure => simp [intOf]; omega
      · have hb' : x < lo ∨ hi < x := by omega
        have HF := Lib.hid (inn_false _ _ _ _ _ HX.out hb')
        rcases hb' with hb | hb
        all_goals
          clear hb
          go_wp2
          all_goals first | (go_ret; exact ⟨ret_bool HF.out.symm, rfl⟩) | skip
        all_goals (exfalso; omega)
    · go_wp2
      go_ret
      have : k = xs.length := by omega
      subst this
      refine ⟨ret_bool ?_, rfl⟩
      have := hall.out
      rw [List.take_of_length_le (Nat.le_refl _)] at this
      exact this.symm
theorem cmp78 (a b : Int) (w : World) : Calls Try.prog 78 #[.int .i64 a, .int .i64 b] w fun e w' => e = .returned (.int .i64 (cmpI a b)) ∧ w = w' := by
  by_cases h : a < b
  · have e : cmpI a b = -1 := if_pos h
    rw [e]; clear e
    go_enter Try.func78, Try.ntmps78
    go_wp2
    go_ret
    exact ⟨rfl, rfl⟩
  · by_cases h2 : b < a
    · have e : cmpI a b = 1 := by rw [cmpI, if_neg h, if_pos h2]
      rw [e]; clear e
      go_enter Try.func78, Try.ntmps78
      go_wp2
      go_ret
      exact ⟨rfl, rfl⟩
    · have e : cmpI a b = 0 := by rw [cmpI, if_neg h, if_neg h2]
      rw [e]; clear e
      go_enter Try.func78, Try.ntmps78
      go_wp2
      go_ret
      exact ⟨rfl, rfl⟩
theorem thick58 (a b : Int) (w : World) : Calls Try.prog 58 #[.int .i64 a, .int .i64 b] w fun e w' => e = .returned (.int .i64 (cmpI b a)) ∧ w = w' := by
  go_enter Try.func58, Try.ntmps58
  go_wp2_with (go_at_call 78; refine (cmp78 _ _ _).mono ?_; rintro e w' ⟨rfl, rfl⟩)
  go_ret
  exact ⟨rfl, rfl⟩
theorem refwithin60 (n lo hi : Int) (w : World) : Calls Try.prog 60 #[.int .i64 n, .int .i64 lo, .int .i64 hi] w fun e w' => e = .returned (.bool (decide (lo ≤ n) && decide (n ≤ hi))) ∧ w = w' := by
  by_cases h : lo ≤ n
  · go_enter Try.func60, Try.ntmps60
    go_wp2
    go_ret
    refine ⟨ret_bool ?_, rfl⟩
    simp [h]
  · go_enter Try.func60, Try.ntmps60
    go_wp2
    go_ret
    refine ⟨ret_bool ?_, rfl⟩
    have h' : ¬ lo ≤ n := by omega
    simp [h']
/-- The lists that are in order go on being so. -/
theorem up_take_succ (xs : List Int) (k : Nat) (x y : Int) (h : xs[k]? = some x) (h' : xs[k + 1]? = some y) : up (xs.take (k + 2)) = (up (xs.take (k + 1)) && decide (x < y)) := by
  induction xs generalizing k with
  | nil => simp at h
  | cons a l ih =>
    cases k with
    | zero =>
      cases l with
      | nil => simp at h'
      | cons b l => simp at h h'; subst h; subst h'; simp [up]
    | succ k =>
      cases l with
      | nil => simp at h
      | cons b l =>
        simp only [List.getElem?_cons_succ] at h h'
        have := ih k h h'
        simp only [List.take_succ_cons] at this ⊢
        simp only [up, this, Bool.and_assoc]
theorem down_take_succ (xs : List Int) (k : Nat) (x y : Int) (h : xs[k]? = some x) (h' : xs[k + 1]? = some y) : down (xs.take (k + 2)) = (down (xs.take (k + 1)) && decide (y ≤ x)) := by
  induction xs generalizing k with
  | nil => simp at h
  | cons a l ih =>
    cases k with
    | zero =>
      cases l with
      | nil => simp at h'
      | cons b l => simp at h h'; subst h; subst h'; simp [down]
    | succ k =>
      cases l with
      | nil => simp at h
      | cons b l =>
        simp only [List.getElem?_cons_succ] at h h'
        have := ih k h h'
        simp only [List.take_succ_cons] at this ⊢
        simp only [down, this, Bool.and_assoc]
theorem up_prefix : ∀ (xs : List Int) (n : Nat), up xs = true → up (xs.take n) = true
  | [], n, _ => by simp [up]
  | [x], n, _ => by cases n <;> simp [up]
  | x :: y :: l, 0, _ => by simp [up]
  | x :: y :: l, 1, _ => by simp [up]
  | x :: y :: l, n + 2, h => by
    have h1 := up_prefix (y :: l) (n + 1)
    simp only [up, Bool.and_eq_true, List.take_succ_cons] at h h1 ⊢
    exact ⟨h.1, h1 h.2⟩
theorem down_prefix : ∀ (xs : List Int) (n : Nat), down xs = true → down (xs.take n) = true
  | [], n, _ => by simp [down]
  | [x], n, _ => by cases n <;> simp [down]
  | x :: y :: l, 0, _ => by simp [down]
  | x :: y :: l, 1, _ => by simp [down]
  | x :: y :: l, n + 2, h => by
    have h1 := down_prefix (y :: l) (n + 1)
    simp only [down, Bool.and_eq_true, List.take_succ_cons] at h h1 ⊢
    exact ⟨h.1, h1 h.2⟩
end Go.Proofs.Ytcgheakadfjofaa
namespace Go.Proofs.Ytcgheakadfjofaa
open Go.RowKit
set_option linter.unusedVariables false
set_option linter.unusedSimpArgs false
set_option maxHeartbeats 1000000 in
theorem up59 (v : Value) (xs : List Int) (w : World) (hr : Reads w v xs) :
    Calls Try.prog 59 #[v] w fun e w' => e = .returned (.bool (up xs)) ∧ Ext w w' := by
  obtain ⟨hl, a, cap, rfl⟩ := hr.shape
  have HC := Lib.hid hr; clear hr
  have hl2 : xs.length ≤ 9223372036854775807 := by omega
  go_enter Try.func59, Try.ntmps59
  go_wp2
  go_loopw [3] (fun i wr => ∃ k : Nat, (k + 1 ≤ xs.length ∨ k = 0) ∧ i = .int .i64 ((k : Int) + 1) ∧ Hid (up (xs.take (k + 1)) = true) ∧ Hid (Ext w wr)) (fun i wr => xs.length + 1 - (intOf i).toNat)
  case atStart => exact ⟨0, .inr rfl, rfl, (by cases xs <;> simp [up] : _ = true), Ext.refl _⟩
  case round =>
    obtain ⟨k, hk, rfl, hI, hE⟩ := hrel
    by_cases hlt : k + 1 < xs.length
    · obtain ⟨b, off, y, rfl, hy, hcy⟩ := (HC.out.ext hE.out).at hlt
      obtain ⟨b', off', x, hbx, hx, hcx⟩ := (HC.out.ext hE.out).at (show k < xs.length by omega)
      cases hbx
      have hs := up_take_succ xs k x y hx hy
      rw [hI.out, Bool.true_and] at hs
      have HS := Lib.hid hs
      have HX := Lib.hid hx; have HY := Lib.hid hy
      clear hx hy hs
      have hka : (0 : Int) ≤ (k : Int) + 1 := by omega
      have hkb : (k : Int) + 1 < (xs.length : Int) := by omega
      have hkc : (0 : Int) ≤ (k : Int) := by omega
      have hkd : (k : Int) < (xs.length : Int) := by omega
      have hw1 : IntKind.i64.wrap ((k : Int) + 1 - 1) = (k : Int) := by rw [show (k : Int) + 1 - 1 = k from by omega]; exact wrapi64 _ (by omega) (by omega)
      have ht : ((k : Int) + 1).toNat = k + 1 := by omega
      have ht2 : (k : Int).toNat = k := by omega
      have hcy' := hcy
      rw [show off + (k + 1) = off + (k + 1) from rfl] at hcy'
      by_cases hxy : x < y
      · have hd : decide (y ≤ x) = false := by simp; omega
        go_wp2
        go_quiet (fail)
        go_wp2
        go_roundw
        case rel => exact ⟨k + 1, .inl (by omega), by go_num, (by rw [show k + 1 + 1 = k + 2 from rfl, HS.out]; simp [hxy] : _ = true), Lib.hid (hE.out.drewN _)⟩
        case measure => simp [intOf]; omega
      · have hd : decide (y ≤ x) = true := by simp; omega
        go_wp2
        go_quiet (fail)
        go_wp2
        go_ret
        refine ⟨ret_bool ?_, hE.out.drewN _⟩
        cases e : up xs with
        | false => rfl
        | true =>
          have h1 := up_prefix xs (k + 2) e
          rw [HS.out] at h1
          simp at h1; omega
    · go_wp2
      go_ret
      refine ⟨ret_bool ?_, hE.out⟩
      have h1 := hI.out
      rw [List.take_of_length_le (by omega)] at h1
      exact h1.symm
theorem down_drop (xs : List Int) (m : Nat) (x y : Int) (hx : xs[m]? = some x) (hy : xs[m + 1]? = some y) : down (xs.drop m) = (decide (y ≤ x) && down (xs.drop (m + 1))) := by
  have e1 : xs.drop m = x :: xs.drop (m + 1) := by
    obtain ⟨h, e⟩ := List.getElem?_eq_some_iff.1 hx
    rw [← e]; exact List.drop_eq_getElem_cons h
  have e2 : xs.drop (m + 1) = y :: xs.drop (m + 2) := by
    obtain ⟨h, e⟩ := List.getElem?_eq_some_iff.1 hy
    rw [← e]; exact List.drop_eq_getElem_cons h
  rw [e1, e2, down]
theorem down_suffix (xs : List Int) : ∀ m, down xs = true → down (xs.drop m) = true
  | 0, h => by simpa using h
  | m + 1, h => by
    have ih := down_suffix xs m h
    cases hx : xs[m]? with
    | none =>
      have := List.getElem?_eq_none_iff.1 hx
      rw [List.drop_eq_nil_of_le (by omega)]; rfl
    | some x =>
      cases hy : xs[m + 1]? with
      | none =>
        have := List.getElem?_eq_none_iff.1 hy
        rw [List.drop_eq_nil_of_le (by omega)]; rfl
      | some y =>
        rw [down_drop xs m x y hx hy] at ih
        simp at ih
        exact ih.2
theorem cmpI_lt (a b : Int) : decide (cmpI a b < 0) = decide (a < b) := by
  unfold cmpI; split
  · simp_all
  · split <;> simp_all
set_option maxHeartbeats 2000000 in
theorem sorted57 (v : Value) (xs : List Int) (w : World) (hr : Reads w v xs) :
    Calls Try.prog 57 #[v, .func (.func 58) #[] #[]] w fun e w' => e = .returned (.bool (down xs)) ∧ Ext w w' := by
  obtain ⟨hl, a, cap, rfl⟩ := hr.shape
  have HC := Lib.hid hr; clear hr
  have hl2 : xs.length ≤ 9223372036854775807 := by omega
  have hl3 : IntKind.i64.wrap ((xs.length : Int) - 1) = (xs.length : Int) - 1 := wrapi64 _ (by omega) (by omega)
  go_enter Try.func57, Try.ntmps57
  go_wp2
  go_loopw [5] (fun i wr => ∃ j : Nat, j ≤ xs.length ∧ i = .int .i64 ((j : Int) - 1) ∧ Hid (down (xs.drop (j - 1)) = true) ∧ Hid (Ext w wr)) (fun i wr => (intOf i).toNat)
  case atStart => exact ⟨xs.length, Nat.le_refl _, rfl, (by
    have : (xs.drop (xs.length - 1)).length ≤ 1 := by simp; omega
    match h : xs.drop (xs.length - 1), this with
    | [], _ => rfl
    | [x], _ => rfl
    | x :: y :: l, h2 => simp at h2 : _ = true), Ext.refl _⟩
  case round =>
    obtain ⟨j, hj, rfl, hI, hE⟩ := hrel
    by_cases hlt : 2 ≤ j
    · obtain ⟨m, rfl⟩ : ∃ m, j = m + 2 := ⟨j - 2, by omega⟩
      rw [show (((m + 2 : Nat) : Int) - 1) = (m : Int) + 1 from by omega]
      obtain ⟨b, off, y, rfl, hy, hcy⟩ := (HC.out.ext hE.out).at (show m + 1 < xs.length by omega)
      obtain ⟨b', off', x, hbx, hx, hcx⟩ := (HC.out.ext hE.out).at (show m < xs.length by omega)
      cases hbx
      have hs := down_drop xs m x y hx hy
      have h2 := hI.out
      rw [show m + 2 - 1 = m + 1 from by omega] at h2
      rw [h2, Bool.and_true] at hs
      have HS := Lib.hid hs
      clear hx hy hs h2 hI
      have hka : (0 : Int) ≤ (m : Int) + 1 := by omega
      have hkb : (m : Int) + 1 < (xs.length : Int) := by omega
      have hkc : (0 : Int) ≤ (m : Int) := by omega
      have hkd : (m : Int) < (xs.length : Int) := by omega
      have hw1 : IntKind.i64.wrap ((m : Int) + 1 - 1) = (m : Int) := by rw [show (m : Int) + 1 - 1 = m from by omega]; exact wrapi64 _ (by omega) (by omega)
      have ht : ((m : Int) + 1).toNat = m + 1 := by omega
      have ht2 : (m : Int).toNat = m := by omega
      have hc : decide (cmpI x y < 0) = decide (x < y) := cmpI_lt x y
      by_cases hxy : x < y
      · have hd : decide (x < y) = true := by simp; omega
        have hn : cmpI x y < 0 := by have := cmpI_lt x y; simpa [hd] using this
        clear hc
        go_wp2
        go_quiet ((go_at_call 58; exact Calls.quiet_of_same ((thick58 _ _ _).mono fun e w' h => ⟨h.1, h.2.symm⟩)))
        go_wp2
        go_ret
        refine ⟨ret_bool ?_, hE.out.drewN _⟩
        cases e : down xs with
        | false => rfl
        | true =>
          have h1 := down_suffix xs m e
          rw [HS.out] at h1
          simp at h1; omega
      · have hd : decide (x < y) = false := by simp; omega
        have hn : ¬ cmpI x y < 0 := by have := cmpI_lt x y; simpa [hd] using this
        clear hc
        go_wp2
        go_quiet ((go_at_call 58; exact Calls.quiet_of_same ((thick58 _ _ _).mono fun e w' h => ⟨h.1, h.2.symm⟩)))
        go_wp2
        go_roundw
        case rel => exact ⟨m + 1, by omega, by go_num, (by rw [show m + 1 - 1 = m from by omega, HS.out]; exact decide_eq_true (by omega) : _ = true), Lib.hid (hE.out.drewN _)⟩
        case measure => simp [intOf]
    · have hq : ¬ (0 : Int) < (j : Int) - 1 := by omega
      go_wp2
      go_ret
      refine ⟨ret_bool ?_, hE.out⟩
      have h1 := hI.out
      rw [show j - 1 = 0 from by omega] at h1
      simpa using h1.symm
end Go.Proofs.Ytcgheakadfjofaa
