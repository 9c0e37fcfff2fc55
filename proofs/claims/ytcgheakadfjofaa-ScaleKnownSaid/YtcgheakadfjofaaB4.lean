/- Contracts: lists in order. -/
import Derived.Test.YtcgheakadfjofaaB1
import Derived.Deep.LoopGhost
import Derived.Deep.RegionWith
namespace Go.Proofs.Ytcgheakadfjofaa
open Go.RowKit
set_option linter.unusedVariables false
set_option linter.unusedSimpArgs false
set_option maxHeartbeats 1000000 in
theorem up59 (v : Value) (xs : List Int) (w : World) (hr : Reads w v xs) :
    Calls Try.prog 59 #[v] w fun e w' => e = .returned (.bool (up xs)) ∧ Ext w w' := by
  obtain ⟨hl, a, cap, rfl⟩ := hr.shape
  have HC := Lib.hid hr; clear hr
  have hl2 : xs.length ≤ 9223372036854775807 := by omega
  go_enter Try.func59, Try.ntmps59
  go_wp2
  go_loopw [3] (fun i wr => ∃ k : Nat, (k + 1 ≤ xs.length ∨ k = 0) ∧ i = .int .i64 ((k : Int) + 1) ∧ Hid (up (xs.take (k + 1)) = true) ∧ Hid (Ext w wr)) (fun i wr => xs.length + 1 - (intOf i).toNat)
  case atStart => exact ⟨0, .inr rfl, rfl, (by cases xs <;> simp [up] : _ = true), Ext.refl _⟩
  case round =>
    obtain ⟨k, hk, rfl, hI, hE⟩ := hrel
    by_cases hlt : k + 1 < xs.length
    · obtain ⟨b, off, y, rfl, hy, hcy⟩ := (HC.out.ext hE.out).at hlt
      obtain ⟨b', off', x, hbx, hx, hcx⟩ := (HC.out.ext hE.out).at (show k < xs.length by omega)
      cases hbx
      have hs := up_take_succ xs k x y hx hy
      rw [hI.out, Bool.true_and] at hs
      have HS := Lib.hid hs
      have HX := Lib.hid hx; have HY := Lib.hid hy
      clear hx hy hs
      have hka : (0 : Int) ≤ (k : Int) + 1 := by omega
      have hkb : (k : Int) + 1 < (xs.length : Int) := by omega
      have hkc : (0 : Int) ≤ (k : Int) := by omega
      have hkd : (k : Int) < (xs.length : Int) := by omega
      have hw1 : IntKind.i64.wrap ((k : Int) + 1 - 1) = (k : Int) := by rw [show (k : Int) + 1 - 1 = k from by omega]; exact wrapi64 _ (by omega) (by omega)
      have ht : ((k : Int) + 1).toNat = k + 1 := by omega
      have ht2 : (k : Int).toNat = k := by omega
      have hcy' := hcy
      rw [show off + (k + 1) = off + (k + 1) from rfl] at hcy'
      by_cases hxy : x < y
      · have hd : decide (y ≤ x) = false := by simp; omega
        go_wp2
        go_quiet (fail)
        go_wp2
        go_roundw
        case rel => exact ⟨k + 1, .inl (by omega), by go_num, (by rw [show k + 1 + 1 = k + 2 from rfl, HS.out]; simp [hxy] : _ = true), Lib.hid (hE.out.drewN _)⟩
        case measure => simp [intOf]; omega
      · have hd : decide (y ≤ x) = true := by simp; omega
        go_wp2
        go_quiet (fail)
        go_wp2
        go_ret
        refine ⟨ret_bool ?_, hE.out.drewN _⟩
        cases e : up xs with
        | false => rfl
        | true =>
          have h1 := up_prefix xs (k + 2) e
          rw [HS.out] at h1
          simp at h1; omega
    · go_wp2
      go_ret
      refine ⟨ret_bool ?_, hE.out⟩
      have h1 := hI.out
      rw [List.take_of_length_le (by omega)] at h1
      exact h1.symm
theorem down_drop (xs : List Int) (m : Nat) (x y : Int) (hx : xs[m]? = some x) (hy : xs[m + 1]? = some y) : down (xs.drop m) = (decide (y ≤ x) && down (xs.drop (m + 1))) := by
  have e1 : xs.drop m = x :: xs.drop (m + 1) := by
    obtain ⟨h, e⟩ := List.getElem?_eq_some_iff.1 hx
    rw [← e]; exact List.drop_eq_getElem_cons h
  have e2 : xs.drop (m + 1) = y :: xs.drop (m + 2) := by
    obtain ⟨h, e⟩ := List.getElem?_eq_some_iff.1 hy
    rw [← e]; exact List.drop_eq_getElem_cons h
  rw [e1, e2, down]
theorem down_suffix (xs : List Int) : ∀ m, down xs = true → down (xs.drop m) = true
  | 0, h => by simpa using h
  | m + 1, h => by
    have ih := down_suffix xs m h
    cases hx : xs[m]? with
    | none =>
      have := List.getElem?_eq_none_iff.1 hx
      rw [List.drop_eq_nil_of_le (by omega)]; rfl
    | some x =>
      cases hy : xs[m + 1]? with
      | none =>
        have := List.getElem?_eq_none_iff.1 hy
        rw [List.drop_eq_nil_of_le (by omega)]; rfl
      | some y =>
        rw [down_drop xs m x y hx hy] at ih
        simp at ih
        exact ih.2
theorem cmpI_lt (a b : Int) : decide (cmpI a b < 0) = decide (a < b) := by
  unfold cmpI; split
  · simp_all
  · split <;> simp_all
set_option maxHeartbeats 2000000 in
theorem sorted57 (v : Value) (xs : List Int) (w : World) (hr : Reads w v xs) :
    Calls Try.prog 57 #[v, .func (.func 58) #[] #[]] w fun e w' => e = .returned (.bool (down xs)) ∧ Ext w w' := by
  obtain ⟨hl, a, cap, rfl⟩ := hr.shape
  have HC := Lib.hid hr; clear hr
  have hl2 : xs.length ≤ 9223372036854775807 := by omega
  have hl3 : IntKind.i64.wrap ((xs.length : Int) - 1) = (xs.length : Int) - 1 := wrapi64 _ (by omega) (by omega)
  go_enter Try.func57, Try.ntmps57
  go_wp2
  go_loopw [5] (fun i wr => ∃ j : Nat, j ≤ xs.length ∧ i = .int .i64 ((j : Int) - 1) ∧ Hid (down (xs.drop (j - 1)) = true) ∧ Hid (Ext w wr)) (fun i wr => (intOf i).toNat)
  case atStart => exact ⟨xs.length, Nat.le_refl _, rfl, (by
    have : (xs.drop (xs.length - 1)).length ≤ 1 := by simp; omega
    match h : xs.drop (xs.length - 1), this with
    | [], _ => rfl
    | [x], _ => rfl
    | x :: y :: l, h2 => simp at h2 : _ = true), Ext.refl _⟩
  case round =>
    obtain ⟨j, hj, rfl, hI, hE⟩ := hrel
    by_cases hlt : 2 ≤ j
    · obtain ⟨m, rfl⟩ : ∃ m, j = m + 2 := ⟨j - 2, by omega⟩
      rw [show (((m + 2 : Nat) : Int) - 1) = (m : Int) + 1 from by omega]
      obtain ⟨b, off, y, rfl, hy, hcy⟩ := (HC.out.ext hE.out).at (show m + 1 < xs.length by omega)
      obtain ⟨b', off', x, hbx, hx, hcx⟩ := (HC.out.ext hE.out).at (show m < xs.length by omega)
      cases hbx
      have hs := down_drop xs m x y hx hy
      have h2 := hI.out
      rw [show m + 2 - 1 = m + 1 from by omega] at h2
      rw [h2, Bool.and_true] at hs
      have HS := Lib.hid hs
      clear hx hy hs h2 hI
      have hka : (0 : Int) ≤ (m : Int) + 1 := by omega
      have hkb : (m : Int) + 1 < (xs.length : Int) := by omega
      have hkc : (0 : Int) ≤ (m : Int) := by omega
      have hkd : (m : Int) < (xs.length : Int) := by omega
      have hw1 : IntKind.i64.wrap ((m : Int) + 1 - 1) = (m : Int) := by rw [show (m : Int) + 1 - 1 = m from by omega]; exact wrapi64 _ (by omega) (by omega)
      have ht : ((m : Int) + 1).toNat = m + 1 := by omega
      have ht2 : (m : Int).toNat = m := by omega
      have hc : decide (cmpI x y < 0) = decide (x < y) := cmpI_lt x y
      by_cases hxy : x < y
      · have hd : decide (x < y) = true := by simp; omega
        have hn : cmpI x y < 0 := by have := cmpI_lt x y; simpa [hd] using this
        clear hc
        go_wp2
        go_quiet ((go_at_call 58; exact Calls.quiet_of_same ((thick58 _ _ _).mono fun e w' h => ⟨h.1, h.2.symm⟩)))
        go_wp2
        go_ret
        refine ⟨ret_bool ?_, hE.out.drewN _⟩
        cases e : down xs with
        | false => rfl
        | true =>
          have h1 := down_suffix xs m e
          rw [HS.out] at h1
          simp at h1; omega
      · have hd : decide (x < y) = false := by simp; omega
        have hn : ¬ cmpI x y < 0 := by have := cmpI_lt x y; simpa [hd] using this
        clear hc
        go_wp2
        go_quiet ((go_at_call 58; exact Calls.quiet_of_same ((thick58 _ _ _).mono fun e w' h => ⟨h.1, h.2.symm⟩)))
        go_wp2
        go_roundw
        case rel => exact ⟨m + 1, by omega, by go_num, (by rw [show m + 1 - 1 = m from by omega, HS.out]; exact decide_eq_true (by omega) : _ = true), Lib.hid (hE.out.drewN _)⟩
        case measure => simp [intOf]
    · have hq : ¬ (0 : Int) < (j : Int) - 1 := by omega
      go_wp2
      go_ret
      refine ⟨ret_bool ?_, hE.out⟩
      have h1 := hI.out
      rw [show j - 1 = 0 from by omega] at h1
      simpa using h1.symm
end Go.Proofs.Ytcgheakadfjofaa
