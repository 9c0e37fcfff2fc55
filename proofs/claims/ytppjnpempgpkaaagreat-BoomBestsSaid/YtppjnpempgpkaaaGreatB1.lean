/- within, strictlyIncreasing, slices.Contains, areCells, lists, isWanted, isKept, by their contracts. -/
import Derived.Test.YtppjnpempgpkaaaGreatL
import Derived.Test.YtppjnpempgpkaaaGreatP
import Derived.Outline
import Derived.Deep.QuietTactic
import Derived.BigQuiet
import Derived.LoopTactic
import Derived.Deep.RegionHeld3
import Derived.BigRegion
import Derived.Deep.LoopGhost
import Derived.Deep.RegionWith
namespace Go.Proofs.YtppjnpempgpkaaaGreat
open Go.RowKit
set_option linter.unusedVariables false
set_option linter.unusedSimpArgs false
theorem some_tAt {xs : List Int} {k : Nat} (h : k < xs.length) : xs[k]? = some (tAt xs k) := by unfold tAt; rw [List.getD_eq_getElem?_getD, List.getElem?_eq_getElem h]; rfl
theorem inn_take (lo hi : Int) (xs : List Int) (k : Nat) (x : Int) (h : xs[k]? = some x) : inn lo hi (xs.take (k + 1)) = (inn lo hi (xs.take k) && (decide (lo ≤ x) && decide (x ≤ hi))) := by
  rw [take_snoc h]; simp [inn]
theorem within_c (lo hi : Int) (v : Value) (xs : List Int) (w : World) (hr : Reads w v xs) :
    Calls Tryz.prog 68 #[.int .i64 lo, .int .i64 hi, v] w fun e w' => e = .returned (.bool (inn lo hi xs)) ∧ w = w' := by
  obtain ⟨hl, a, cap, rfl⟩ := hr.shape
  have HC := Lib.hid hr; clear hr
  have hl2 : xs.length ≤ 9223372036854775807 := by omega
  go_enter Tryz.func68, Tryz.ntmps68
  go_wp2
  go_loop [11] (fun i => ∃ k : Nat, k ≤ xs.length ∧ i = .int .i64 k ∧ Hid (inn lo hi (xs.take k) = true)) (fun i => xs.length - (intOf i).toNat)
  case atStart => exact ⟨0, Nat.zero_le _, rfl, rfl⟩
  case round =>
    obtain ⟨k, hk, rfl, hall⟩ := hrel
    by_cases hlt : k < xs.length
    · obtain ⟨b, off, x, rfl, hx, hck⟩ := HC.out.at hlt
      have HX := Lib.hid hx; clear hx
      by_cases hb : lo ≤ x ∧ x ≤ hi
      · obtain ⟨h1, h2⟩ := hb
        go_wp2
        go_round
        case rel => exact ⟨k + 1, by omega, by go_num, show _ = true by rw [inn_take _ _ _ _ _ HX.out, hall.out]; simp [h1, h2]⟩
        case measure => simp [intOf]; omega
      · have hb' : x < lo ∨ hi < x := by omega
        have HF := Lib.hid (inn_false HX.out hb')
        rcases hb' with hb | hb
        all_goals
          clear hb
          go_wp2
          all_goals first | (go_ret; exact ⟨ret_bool HF.out.symm, rfl⟩) | skip
        all_goals (exfalso; omega)
    · go_wp2
      go_ret
      have : k = xs.length := by omega
      subst this
      refine ⟨ret_bool ?_, rfl⟩
      have := hall.out
      rw [List.take_of_length_le (Nat.le_refl _)] at this
      exact this.symm
set_option maxHeartbeats 1000000 in
theorem up_c (v : Value) (xs : List Int) (w : World) (hr : Reads w v xs) :
    Calls Tryz.prog 90 #[v] w fun e w' => e = .returned (.bool (upB xs)) ∧ Ext w w' := by
  obtain ⟨hl, a, cap, rfl⟩ := hr.shape
  have HC := Lib.hid hr; clear hr
  have hl2 : xs.length ≤ 9223372036854775807 := by omega
  go_enter Tryz.func90, Tryz.ntmps90
  go_wp2
  go_loopw [3] (fun i wr => ∃ k : Nat, (k + 1 ≤ xs.length ∨ k = 0) ∧ i = .int .i64 ((k : Int) + 1) ∧ Hid (upTo1 xs (k + 1) = true) ∧ Hid (Ext w wr)) (fun i wr => xs.length + 1 - (intOf i).toNat)
  case atStart => exact ⟨0, .inr rfl, rfl, (by rfl : _ = true), Ext.refl _⟩
  case round =>
    obtain ⟨k, hk, rfl, hI, hE⟩ := hrel
    by_cases hlt : k + 1 < xs.length
    · obtain ⟨b, off, y, rfl, hy, hcy⟩ := (HC.out.ext hE.out).at hlt
      obtain ⟨b', off', x, hbx, hx, hcx⟩ := (HC.out.ext hE.out).at (show k < xs.length by omega)
      cases hbx
      have hs := upTo1_succ xs (k + 1)
      rw [hI.out, Bool.true_and, tAt_some hy, show k + 1 - 1 = k from rfl, tAt_some hx, show (k + 1 == 0) = false from rfl, Bool.false_or] at hs
      have hno : y ≤ x → upB xs = false := fun h => upTo1_no (k := k + 1) hlt (by omega) (by rw [tAt_some hy, show k + 1 - 1 = k from rfl, tAt_some hx]; exact h)
      have HS := Lib.hid hs; have HNO := Lib.hid hno
      clear hx hy hs hno
      have hka : (0 : Int) ≤ (k : Int) + 1 := by omega
      have hkb : (k : Int) + 1 < (xs.length : Int) := by omega
      have hkc : (0 : Int) ≤ (k : Int) := by omega
      have hkd : (k : Int) < (xs.length : Int) := by omega
      have hw1 : IntKind.i64.wrap ((k : Int) + 1 - 1) = (k : Int) := by rw [show (k : Int) + 1 - 1 = k from by omega]; exact wrapi64 _ (by omega) (by omega)
      have ht : ((k : Int) + 1).toNat = k + 1 := by omega
      have ht2 : (k : Int).toNat = k := by omega
      by_cases hxy : x < y
      · have hd : decide (y ≤ x) = false := by simp; omega
        go_wp2
        go_quiet (fail)
        go_wp2
        go_roundw
        case rel => exact ⟨k + 1, .inl (by omega), by go_num, (by rw [HS.out]; simp [hxy] : _ = true), Lib.hid (hE.out.drewN _)⟩
        case measure => simp [intOf]; omega
      · have hd : decide (y ≤ x) = true := by simp; omega
        go_wp2
        go_quiet (fail)
        go_wp2
        go_ret
        refine ⟨ret_bool ?_, hE.out.drewN _⟩
        rw [HNO.out (by omega)]
    · go_wp2
      go_ret
      refine ⟨ret_bool ?_, hE.out⟩
      have h1 := hI.out
      rcases hk with h | h
      · rw [show k + 1 = xs.length from by omega] at h1; exact h1.symm
      · subst h
        cases xs with
        | nil => rfl
        | cons a l => cases l with
          | nil => rfl
          | cons b l => simp at hlt
theorem index_c (v : Value) (xs : List Int) (x : Int) (w : World) (hr : Reads w v xs) :
    Calls Tryz.prog 121 #[v, .int .i64 x] w fun e w' => (∃ r : Int, e = .returned (.int .i64 r) ∧ Hid (decide (0 ≤ r) = hasB xs x) ∧ -1 ≤ r ∧ r ≤ 6000) ∧ w = w' := by
  obtain ⟨hl, a, cap, rfl⟩ := hr.shape
  have HC := Lib.hid hr; clear hr
  have hl2 : xs.length ≤ 9223372036854775807 := by omega
  go_enter Tryz.func121, Tryz.ntmps121
  go_wp2
  go_loop [8] (fun i => ∃ k : Nat, k ≤ xs.length ∧ i = .int .i64 k ∧ Hid (x ∉ xs.take k)) (fun i => xs.length - (intOf i).toNat)
  case atStart => exact ⟨0, Nat.zero_le _, rfl, Lib.hid (by simp)⟩
  case round =>
    obtain ⟨k, hk, rfl, hall⟩ := hrel
    by_cases hlt : k < xs.length
    · obtain ⟨b, off, y, rfl, hx, hck⟩ := HC.out.at hlt
      have HX := Lib.hid hx; clear hx
      by_cases hb : x = y
      · have HF := Lib.hid (show hasB xs x = true from decide_eq_true (by rw [hb]; exact List.mem_of_getElem? HX.out))
        subst hb
        go_wp2
        go_ret
        exact ⟨⟨_, rfl, Lib.hid (by rw [HF.out]; exact decide_eq_true (by omega)), by omega, by omega⟩, rfl⟩
      · go_wp2
        go_round
        case rel => exact ⟨k + 1, by omega, by go_num, Lib.hid (by rw [take_snoc HX.out, List.mem_append, List.mem_singleton, not_or]; exact ⟨hall.out, hb⟩)⟩
        case measure => simp [intOf]; omega
    · go_wp2
      go_ret
      have : k = xs.length := by omega
      subst this
      have h1 := hall.out
      rw [List.take_of_length_le (Nat.le_refl _)] at h1
      refine ⟨⟨_, rfl, Lib.hid ?_, by omega, by omega⟩, rfl⟩
      unfold hasB
      rw [decide_eq_false h1]; rfl
theorem contains_c (v : Value) (xs : List Int) (x : Int) (w : World) (hr : Reads w v xs) :
    Calls Tryz.prog 117 #[v, .int .i64 x] w fun e w' => e = .returned (.bool (hasB xs x)) ∧ w = w' := by
  obtain ⟨hl, a, cap, rfl⟩ := hr.shape
  have HC := Lib.hid (index_c _ xs x w hr); clear hr
  go_enter Tryz.func117, Tryz.ntmps117
  go_wp2_with fail
  refine HC.out.mono ?_
  rintro e w' ⟨⟨r, rfl, hr, h1, h2⟩, rfl⟩
  go_wp2
  go_ret
  exact ⟨ret_bool hr.out, rfl⟩
theorem areCells_c (W H nw cw nk ck : Nat) (aw ak : Option Addr) (v : Value) (xs : List Int) (w : World) (hW : W ≤ 8) (hH : H ≤ 8) (hr : Reads w v xs) :
    Calls Tryz.prog 89 #[.agg #[.int .i64 (W : Int), .int .i64 (H : Int), .slice aw nw cw, .slice ak nk ck], v] w fun e w' => e = .returned (.bool (inn 0 (((W * H : Nat) : Int) - 1) xs)) ∧ Ext w w' := by
  obtain ⟨hl, a, cap, rfl⟩ := hr.shape
  have HW := Lib.hid (fun (X : World) (h : Ext w X) => within_c 0 (((W * H : Nat) : Int) - 1) _ xs X (hr.ext h))
  have hm : W * H ≤ 64 := Nat.mul_le_mul hW hH
  obtain ⟨m, hmm⟩ : ∃ m : Nat, m = W * H := ⟨_, rfl⟩
  have e1 : (W : Int) * (H : Int) = (m : Int) := by rw [hmm]; push_cast; rfl
  rw [← hmm] at HW hm ⊢
  have hw1 : IntKind.i64.wrap ((m : Int)) = (m : Int) := wrapi64 _ (by omega) (by omega)
  have hw2 : IntKind.i64.wrap ((m : Int) - 1) = (m : Int) - 1 := wrapi64 _ (by omega) (by omega)
  have E0 := Lib.hid ((Ext.refl w).alloc (.cells #[.int .i64 (W : Int), .int .i64 (H : Int), .slice aw nw cw, .slice ak nk ck] 72))
  clear hr hmm
  go_enter Tryz.func89, Tryz.ntmps89
  go_wp2_with fail
  refine (HW.out _ E0.out).mono ?_
  rintro e w' ⟨rfl, rfl⟩
  go_wp2
  go_ret
  exact ⟨rfl, E0.out⟩
theorem lists_c (W H nw cw nk ck : Nat) (aw ak : Option Addr) (v : Value) (xs : List Int) (w : World) (hW : W ≤ 8) (hH : H ≤ 8) (hr : Reads w v xs) :
    Calls Tryz.prog 52 #[.agg #[.int .i64 (W : Int), .int .i64 (H : Int), .slice aw nw cw, .slice ak nk ck], v] w fun e w' => e = .returned (.bool (lstB (W * H) xs)) ∧ Ext w w' := by
  obtain ⟨hl, a, cap, rfl⟩ := hr.shape
  have HA := Lib.hid (fun (X : World) (h : Ext w X) => areCells_c W H nw cw nk ck aw ak _ xs X hW hH (hr.ext h))
  have HU := Lib.hid (fun (X : World) (h : Ext w X) => up_c _ xs X (hr.ext h))
  have E0 := Lib.hid ((Ext.refl w).alloc (.cells #[.int .i64 (W : Int), .int .i64 (H : Int), .slice aw nw cw, .slice ak nk ck] 72))
  have hd : lstB (W * H) xs = (inn 0 (((W * H : Nat) : Int) - 1) xs && upB xs) := rfl
  rw [hd]
  generalize inn 0 (((W * H : Nat) : Int) - 1) xs = c at *
  generalize upB xs = d at *
  clear hr hd
  cases c
  all_goals
    go_enter Tryz.func52, Tryz.ntmps52
    go_wp2_with fail
    refine (HA.out _ E0.out).mono ?_
    rintro e w1 ⟨rfl, hb⟩
    have E1 := Lib.hid (E0.out.trans hb); clear hb
  · go_wp2
    go_ret
    exact ⟨rfl, E1.out⟩
  · go_wp2_with fail
    refine (HU.out _ E1.out).mono ?_
    rintro e w2 ⟨rfl, hb⟩
    have E2 := Lib.hid (E1.out.trans hb); clear hb
    go_wp2
    go_ret
    exact ⟨rfl, E2.out⟩
theorem isWanted_c (W H nw cw nk ck : Nat) (aw ak : Option Addr) (wl : List Int) (x : Int) (w : World) (hr : Reads w (.slice aw nw cw) wl) :
    Calls Tryz.prog 96 #[.agg #[.int .i64 (W : Int), .int .i64 (H : Int), .slice aw nw cw, .slice ak nk ck], .int .i64 x] w fun e w' => e = .returned (.bool (hasB wl x)) ∧ Ext w w' := by
  have HW := Lib.hid (fun (X : World) (h : Ext w X) => contains_c _ wl x X (hr.ext h))
  have E0 := Lib.hid ((Ext.refl w).alloc (.cells #[.int .i64 (W : Int), .int .i64 (H : Int), .slice aw nw cw, .slice ak nk ck] 72))
  clear hr
  go_enter Tryz.func96, Tryz.ntmps96
  go_wp2_with fail
  refine (HW.out _ E0.out).mono ?_
  rintro e w' ⟨rfl, rfl⟩
  go_wp2
  go_ret
  exact ⟨rfl, E0.out⟩
theorem isKept_c (W H nw cw nk ck : Nat) (aw ak : Option Addr) (kl : List Int) (x : Int) (w : World) (hr : Reads w (.slice ak nk ck) kl) :
    Calls Tryz.prog 109 #[.agg #[.int .i64 (W : Int), .int .i64 (H : Int), .slice aw nw cw, .slice ak nk ck], .int .i64 x] w fun e w' => e = .returned (.bool (hasB kl x)) ∧ Ext w w' := by
  have HW := Lib.hid (fun (X : World) (h : Ext w X) => contains_c _ kl x X (hr.ext h))
  have E0 := Lib.hid ((Ext.refl w).alloc (.cells #[.int .i64 (W : Int), .int .i64 (H : Int), .slice aw nw cw, .slice ak nk ck] 72))
  clear hr
  go_enter Tryz.func109, Tryz.ntmps109
  go_wp2_with fail
  refine (HW.out _ E0.out).mono ?_
  rintro e w' ⟨rfl, rfl⟩
  go_wp2
  go_ret
  exact ⟨rfl, E0.out⟩
end Go.Proofs.YtppjnpempgpkaaaGreat
