/- within, strictlyIncreasing, CheckRow, open, by their contracts. canEnd, isRun, lists, CheckRun, by their contracts. open, as it is called; CheckRun, taken, CheckTurning, by their contracts. taken, CheckTurning, by their contracts. -/
import Derived.Test.YtclcippfodjfeaaL
import Derived.Test.YtclcippfodjfeaaA10
import Derived.Outline
import Derived.Deep.QuietTactic
import Derived.BigQuiet
import Derived.LoopTactic
import Derived.Deep.RegionHeld3
import Derived.BigRegion
import Derived.Deep.LoopGhost
import Derived.Deep.RegionWith
namespace Go.Proofs.Ytclcippfodjfeaa
open Go.RowKit
set_option linter.unusedVariables false
set_option linter.unusedSimpArgs false
theorem tAt_some {xs : List Int} {k : Nat} {x : Int} (h : xs[k]? = some x) : tAt xs k = x := by unfold tAt; rw [List.getD_eq_getElem?_getD, h]; rfl
theorem some_tAt {xs : List Int} {k : Nat} (h : k < xs.length) : xs[k]? = some (tAt xs k) := by unfold tAt; rw [List.getD_eq_getElem?_getD, List.getElem?_eq_getElem h]; rfl
theorem inn_take (lo hi : Int) (xs : List Int) (k : Nat) (x : Int) (h : xs[k]? = some x) : inn lo hi (xs.take (k + 1)) = (inn lo hi (xs.take k) && (decide (lo ≤ x) && decide (x ≤ hi))) := by
  rw [take_snoc h]; simp [inn]
theorem within49 (lo hi : Int) (v : Value) (xs : List Int) (w : World) (hr : Reads w v xs) :
    Calls Try.prog 49 #[.int .i64 lo, .int .i64 hi, v] w fun e w' => e = .returned (.bool (inn lo hi xs)) ∧ w = w' := by
  obtain ⟨hl, a, cap, rfl⟩ := hr.shape
  have HC := Lib.hid hr; clear hr
  have hl2 : xs.length ≤ 9223372036854775807 := by omega
  go_enter Try.func49, Try.ntmps49
  go_wp2
  go_loop [11] (fun i => ∃ k : Nat, k ≤ xs.length ∧ i = .int .i64 k ∧ Hid (inn lo hi (xs.take k) = true)) (fun i => xs.length - (intOf i).toNat)
  case atStart => exact ⟨0, Nat.zero_le _, rfl, rfl⟩
  case round =>
    obtain ⟨k, hk, rfl, hall⟩ := hrel
    by_cases hlt : k < xs.length
    · obtain ⟨b, off, x, rfl, hx, hck⟩ := HC.out.at hlt
      have HX := Lib.hid hx; clear hx
      by_cases hb : lo ≤ x ∧ x ≤ hi
      · obtain ⟨h1, h2⟩ := hb
        go_wp2
        go_round
        case rel => exact ⟨k + 1, by omega, by go_num, show _ = true by rw [inn_take _ _ _ _ _ HX.out, hall.out]; simp [h1, h2]⟩
        case measure => simp [intOf]; omega
      · have hb' : x < lo ∨ hi < x := by omega
        have HF := Lib.hid (inn_false HX.out hb')
        rcases hb' with hb | hb
        all_goals
          clear hb
          go_wp2
          all_goals first | (go_ret; exact ⟨ret_bool HF.out.symm, rfl⟩) | skip
        all_goals (exfalso; omega)
    · go_wp2
      go_ret
      have : k = xs.length := by omega
      subst this
      refine ⟨ret_bool ?_, rfl⟩
      have := hall.out
      rw [List.take_of_length_le (Nat.le_refl _)] at this
      exact this.symm
theorem within51 (lo hi : Int) (v : Value) (xs : List Int) (w : World) (hr : Reads w v xs) :
    Calls Try.prog 51 #[.int .i64 lo, .int .i64 hi, v] w fun e w' => e = .returned (.bool (inn lo hi xs)) ∧ w = w' := by
  obtain ⟨hl, a, cap, rfl⟩ := hr.shape
  have HC := Lib.hid hr; clear hr
  have hl2 : xs.length ≤ 9223372036854775807 := by omega
  go_enter Try.func51, Try.ntmps51
  go_wp2
  go_loop [11] (fun i => ∃ k : Nat, k ≤ xs.length ∧ i = .int .i64 k ∧ Hid (inn lo hi (xs.take k) = true)) (fun i => xs.length - (intOf i).toNat)
  case atStart => exact ⟨0, Nat.zero_le _, rfl, rfl⟩
  case round =>
    obtain ⟨k, hk, rfl, hall⟩ := hrel
    by_cases hlt : k < xs.length
    · obtain ⟨b, off, x, rfl, hx, hck⟩ := HC.out.at hlt
      have HX := Lib.hid hx; clear hx
      by_cases hb : lo ≤ x ∧ x ≤ hi
      · obtain ⟨h1, h2⟩ := hb
        go_wp2
        go_round
        case rel => exact ⟨k + 1, by omega, by go_num, show _ = true by rw [inn_take _ _ _ _ _ HX.out, hall.out]; simp [h1, h2]⟩
        case measure => simp [intOf]; omega
      · have hb' : x < lo ∨ hi < x := by omega
        have HF := Lib.hid (inn_false HX.out hb')
        rcases hb' with hb | hb
        all_goals
          clear hb
          go_wp2
          all_goals first | (go_ret; exact ⟨ret_bool HF.out.symm, rfl⟩) | skip
        all_goals (exfalso; omega)
    · go_wp2
      go_ret
      have : k = xs.length := by omega
      subst this
      refine ⟨ret_bool ?_, rfl⟩
      have := hall.out
      rw [List.take_of_length_le (Nat.le_refl _)] at this
      exact this.symm
set_option maxHeartbeats 1000000 in
theorem up77 (v : Value) (xs : List Int) (w : World) (hr : Reads w v xs) :
    Calls Try.prog 77 #[v] w fun e w' => e = .returned (.bool (upB xs)) ∧ Ext w w' := by
  obtain ⟨hl, a, cap, rfl⟩ := hr.shape
  have HC := Lib.hid hr; clear hr
  have hl2 : xs.length ≤ 9223372036854775807 := by omega
  go_enter Try.func77, Try.ntmps77
  go_wp2
  go_loopw [3] (fun i wr => ∃ k : Nat, (k + 1 ≤ xs.length ∨ k = 0) ∧ i = .int .i64 ((k : Int) + 1) ∧ Hid (upTo1 xs (k + 1) = true) ∧ Hid (Ext w wr)) (fun i wr => xs.length + 1 - (intOf i).toNat)
  case atStart => exact ⟨0, .inr rfl, rfl, (by rfl : _ = true), Ext.refl _⟩
  case round =>
    obtain ⟨k, hk, rfl, hI, hE⟩ := hrel
    by_cases hlt : k + 1 < xs.length
    · obtain ⟨b, off, y, rfl, hy, hcy⟩ := (HC.out.ext hE.out).at hlt
      obtain ⟨b', off', x, hbx, hx, hcx⟩ := (HC.out.ext hE.out).at (show k < xs.length by omega)
      cases hbx
      have hs := upTo1_succ xs (k + 1)
      rw [hI.out, Bool.true_and, tAt_some hy, show k + 1 - 1 = k from rfl, tAt_some hx, show (k + 1 == 0) = false from rfl, Bool.false_or] at hs
      have hno : y ≤ x → upB xs = false := fun h => upTo1_no (k := k + 1) hlt (by omega) (by rw [tAt_some hy, show k + 1 - 1 = k from rfl, tAt_some hx]; exact h)
      have HS := Lib.hid hs; have HNO := Lib.hid hno
      clear hx hy hs hno
      have hka : (0 : Int) ≤ (k : Int) + 1 := by omega
      have hkb : (k : Int) + 1 < (xs.length : Int) := by omega
      have hkc : (0 : Int) ≤ (k : Int) := by omega
      have hkd : (k : Int) < (xs.length : Int) := by omega
      have hw1 : IntKind.i64.wrap ((k : Int) + 1 - 1) = (k : Int) := by rw [show (k : Int) + 1 - 1 = k from by omega]; exact wrapi64 _ (by omega) (by omega)
      have ht : ((k : Int) + 1).toNat = k + 1 := by omega
      have ht2 : (k : Int).toNat = k := by omega
      by_cases hxy : x < y
      · have hd : decide (y ≤ x) = false := by simp; omega
        go_wp2
        go_quiet (fail)
        go_wp2
        go_roundw
        case rel => exact ⟨k + 1, .inl (by omega), by go_num, (by rw [HS.out]; simp [hxy] : _ = true), Lib.hid (hE.out.drewN _)⟩
        case measure => simp [intOf]; omega
      · have hd : decide (y ≤ x) = true := by simp; omega
        go_wp2
        go_quiet (fail)
        go_wp2
        go_ret
        refine ⟨ret_bool ?_, hE.out.drewN _⟩
        rw [HNO.out (by omega)]
    · go_wp2
      go_ret
      refine ⟨ret_bool ?_, hE.out⟩
      have h1 := hI.out
      rcases hk with h | h
      · rw [show k + 1 = xs.length from by omega] at h1; exact h1.symm
      · subst h
        cases xs with
        | nil => rfl
        | cons a l => cases l with
          | nil => rfl
          | cons b l => simp at hlt
theorem row21 (v : Value) (row : List Int) (w : World) (hr : Reads w v row) :
    Calls Try.prog 21 #[v] w fun e w' => e = .returned (.int .i64 (chkR row)) ∧ w = w' := by
  obtain ⟨hl, a, cap, rfl⟩ := hr.shape
  have H51 := Lib.hid (within51 1 1099511627776 _ row w hr)
  clear hr
  have hd : chkR row = if 30 < row.length then 6 else if inn 1 1099511627776 row = true then 0 else 3 := rfl
  rw [hd]; clear hd
  generalize inn 1 1099511627776 row = c at *
  generalize row.length = n at *
  by_cases h1 : 30 < n
  · rw [if_pos h1]
    go_enter Try.func21, Try.ntmps21
    go_wp2
    go_ret
    exact ⟨rfl, rfl⟩
  · rw [if_neg h1]
    cases c
    all_goals
      go_enter Try.func21, Try.ntmps21
      go_wp2_with fail
      refine H51.out.mono ?_
      rintro e w' ⟨rfl, rfl⟩
      go_wp2
      go_ret
      exact ⟨rfl, rfl⟩
/-- What open hands back: the line, and the error. -/
theorem open48 (v vm : Value) (row ms : List Int) (w : World) (hr : Reads w v row) (hm : Reads w vm ms) :
    Calls Try.prog 48 #[v, vm] w fun e w' => e = .returned (.tuple #[.agg #[if (if chkR row ≠ 0 then chkR row else if inn 0 30 ms = true then 0 else 2) = 0 then v else .slice none 0 0], .int .i64 (if chkR row ≠ 0 then chkR row else if inn 0 30 ms = true then 0 else 2)]) ∧ Ext w w' := by
  obtain ⟨hl, a, cap, rfl⟩ := hr.shape
  obtain ⟨hl', a', cap', rfl⟩ := hm.shape
  have E0 := Lib.hid ((Ext.refl w).alloc (.cells #[.slice none 0 0] 57))
  have H21 := Lib.hid (row21 _ row _ (hr.ext E0.out))
  have H49 := Lib.hid (within49 0 30 _ ms _ (hm.ext E0.out))
  clear hr hm
  generalize chkR row = c at *
  generalize inn 0 30 ms = d at *
  generalize row.length = n at *
  generalize ms.length = n' at *
  by_cases hc : c = 0
  · subst hc
    cases d
    all_goals
      go_enter Try.func48, Try.ntmps48
      go_wp2_with fail
      refine H21.out.mono ?_
      rintro e w' ⟨rfl, rfl⟩
      go_wp2_with fail
      refine H49.out.mono ?_
      rintro e w' ⟨rfl, rfl⟩
      go_wp2
      refine bodyPost_ret (by simp [results, Try.results48, go_sem]; rfl) rfl ⟨by simp, (Ext.refl w).alloc _⟩
  · have hb : (c != 0) = true := by simpa using hc
    have HC := Lib.hid hc
    rw [if_pos hc, if_neg hc]
    clear hc
    go_enter Try.func48, Try.ntmps48
    go_wp2_with fail
    refine H21.out.mono ?_
    rintro e w' ⟨rfl, rfl⟩
    go_wp2
    refine bodyPost_ret (by simp [results, Try.results48, go_sem]) rfl ⟨rfl, E0.out⟩
end Go.Proofs.Ytclcippfodjfeaa
namespace Go.Proofs.Ytclcippfodjfeaa
open Go.RowKit
set_option linter.unusedVariables false
set_option linter.unusedSimpArgs false
/-- The last log's number is greater than a later one's. -/
theorem canEnd70 (v vq : Value) (row run : List Int) (n j m : Nat) (w : World) (hr : Reads w v row) (hq : Reads w vq run) (hn : run.length = n + 1) (hj : j < row.length) (hm : m < row.length) (hl : tAt run n = (m : Int)) :
    Calls Try.prog 70 #[.agg #[v], vq, .int .i64 (j : Int)] w fun e w' => e = .returned (.bool (decide (rAt row j < rAt row m))) ∧ Ext w w' := by
  have E0 := Lib.hid ((Ext.refl w).alloc (.cells #[v] 57))
  obtain ⟨hl1, a, cap, rfl⟩ := hr.shape
  obtain ⟨hl2, a', cap', rfl⟩ := hq.shape
  obtain ⟨b, off, x, rfl, hx, hcx⟩ := (hr.ext E0.out).at hj
  obtain ⟨b', off', y, hby, hy, hcy⟩ := (hr.ext E0.out).at hm
  cases hby
  obtain ⟨b2, off2, z, rfl, hz, hcz⟩ := (hq.ext E0.out).at (show n < run.length by omega)
  have ex : rAt row j = x := tAt_some hx
  have ey : rAt row m = y := tAt_some hy
  have ez : z = (m : Int) := by rw [← tAt_some hz]; exact hl
  rw [ex, ey, hn]
  subst ez
  have hja : (0 : Int) ≤ (j : Int) := by omega
  have hjb : (j : Int) < (row.length : Int) := by omega
  have hma : (0 : Int) ≤ (m : Int) := by omega
  have hmb : (m : Int) < (row.length : Int) := by omega
  have hna : (0 : Int) ≤ (n : Int) := by omega
  have hnb : (n : Int) < ((n + 1 : Nat) : Int) := by omega
  have hw1 : IntKind.i64.wrap (((n + 1 : Nat) : Int) - 1) = (n : Int) := by rw [show ((n + 1 : Nat) : Int) - 1 = n from by omega]; exact wrapi64 _ (by omega) (by omega)
  have hw2 : IntKind.i64.wrap ((n : Int) + 1 - 1) = (n : Int) := by rw [show (n : Int) + 1 - 1 = n from by omega]; exact wrapi64 _ (by omega) (by omega)
  have hw3 : IntKind.i64.wrap (n : Int) = (n : Int) := wrapi64 _ (by omega) (by omega)
  have t1 : (j : Int).toNat = j := by omega
  have t2 : (m : Int).toNat = m := by omega
  have t3 : (n : Int).toNat = n := by omega
  clear ex ey hx hy hz hn hl hr hq hl1 hl2 hj hm
  generalize row.length = nr at *
  go_enter Try.func70, Try.ntmps70
  go_wp2
  go_quiet (fail)
  go_wp2
  go_ret
  exact ⟨rfl, E0.out.drewN _⟩
theorem Reads.take {w : World} {a : Option Addr} {n cap : Nat} {xs : List Int} (h : Reads w (.slice a n cap) xs) {k : Nat} (hk : k ≤ xs.length) (c : Nat) (hc : k ≤ c ∧ c ≤ 9223372036854775807) : Reads w (.slice a k c) (xs.take k) := by
  obtain ⟨hl, a', cap', e, hcap, h⟩ := h
  cases e
  refine ⟨by simp; omega, a, c, by simp [Nat.min_eq_left hk], by simp; omega, ?_⟩
  rcases h with rfl | ⟨b, off, rfl, hc⟩
  · exact .inl (by simp)
  · refine .inr ⟨b, off, rfl, fun i hi => ?_⟩
    have hi2 : i < k := by simp at hi; omega
    rw [hc i (by omega), List.getElem?_take, if_pos hi2]
theorem tAt_take {xs : List Int} {k i : Nat} (h : i < k) : tAt (xs.take k) i = tAt xs i := by
  unfold tAt; rw [List.getD_eq_getElem?_getD, List.getD_eq_getElem?_getD, List.getElem?_take, if_pos h]
theorem of_and3 {A1 A2 E : Prop} (h : A1 ∧ A2 ∧ Hid E) : E := h.2.2.out
set_option maxHeartbeats 2000000 in
theorem run59 (v vq : Value) (row run : List Int) (w : World) (hr : Reads w v row) (hq : Reads w vq run) (hin : inn 0 ((row.length : Int) - 1) run = true) :
    Calls Try.prog 59 #[.agg #[v], vq] w fun e w' => e = .returned (.bool (decB row run)) ∧ Ext w w' := by
  obtain ⟨hl, ar, cap, rfl⟩ := hr.shape
  obtain ⟨hl2, a, cap', rfl⟩ := hq.shape
  have E0 := Lib.hid ((Ext.refl w).alloc (.cells #[.slice ar row.length cap] 57))
  have C0 := Lib.hid (show (w.alloc (.cells #[.slice ar row.length cap] 57)).cell? ⟨w.heap.size, 0, none⟩ = some (.slice ar row.length cap) from World.cell?_alloc_at _ _ _ _ rfl)
  have hat := inn_at.1 hin
  obtain ⟨hc1, hc2⟩ := hq.cap
  have HR := Lib.hid hr; have HC := Lib.hid hq; have HAT := Lib.hid hat; clear hr hq hat hin
  have hl3 : run.length ≤ 9223372036854775807 := by omega
  go_enter Try.func59, Try.ntmps59
  go_wp2
  go_loopw [5] (fun i wr => ∃ k : Nat, (k + 1 ≤ run.length ∨ k = 0) ∧ i = .int .i64 ((k : Int) + 1) ∧ Hid (decTo row run (k + 1) = true) ∧ Hid (wr.cell? ⟨w.heap.size, 0, none⟩ = some (.slice ar row.length cap)) ∧ Hid (Ext w wr)) (fun i wr => run.length + 1 - (intOf i).toNat)
  case atStart => exact ⟨0, .inr rfl, rfl, (by rfl : _ = true), C0.out, E0.out⟩
  case round =>
    obtain ⟨k, hk, rfl, hI, hC, hE⟩ := hrel
    by_cases hlt : k + 1 < run.length
    · have cL := hC.out
      have HC1 := HC.out.ext hE.out
      obtain ⟨b, off, z, rfl, hz, hcj⟩ := HC1.at hlt
      obtain ⟨h1, h2⟩ := HAT.out (k + 1) hlt
      rw [tAt_some hz] at h1 h2
      obtain ⟨h3, h4⟩ := HAT.out k (by omega)
      obtain ⟨j, rfl⟩ : ∃ j : Nat, z = (j : Int) := ⟨z.toNat, by omega⟩
      obtain ⟨m, hm⟩ : ∃ m : Nat, tAt run k = (m : Int) := ⟨(tAt run k).toNat, by omega⟩
      have hs := decTo_succ row run (k + 1)
      rw [hI.out, Bool.true_and, tAt_some hz, show k + 1 - 1 = k from rfl, hm, show (k + 1 == 0) = false from rfl, Bool.false_or, show ((j : Int)).toNat = j from by omega, show ((m : Int)).toNat = m from by omega] at hs
      have hno : decide (rAt row j < rAt row m) = false → decB row run = false := fun h => decTo_no (k := k + 1) hlt (by omega) (by rw [tAt_some hz, show k + 1 - 1 = k from rfl, hm]; have := of_decide_eq_false h; show rAt row (m : Int).toNat ≤ rAt row j; simp only [Int.toNat_natCast]; omega)
      have h70 := fun (X : World) (h : Ext w X) => canEnd70 _ _ row (run.take (k + 1)) k j m X (HR.out.ext h) ((HC.out.ext h).take (k := k + 1) (by omega) cap' (by omega)) (by simp; omega) (by omega) (by omega) (by rw [tAt_take (by omega)]; exact hm)
      have hka : (0 : Int) ≤ (k : Int) + 1 := by omega
      have hkb : (k : Int) + 1 < (run.length : Int) := by omega
      have hkc : (k : Int) + 1 ≤ (cap' : Int) := by omega
      have ht : ((k : Int) + 1).toNat = k + 1 := by omega
      clear hz hm HC1 h1 h2 h3 h4
      generalize decide (rAt row j < rAt row m) = c at *
      have H70 := Lib.hid h70; have HS := Lib.hid hs; have HNO := Lib.hid hno; clear h70 hs hno
      have HKP := Lib.hid (show ∀ X X' : World, (fun X : World => X.cell? ⟨w.heap.size, 0, none⟩ = some (.slice ar row.length cap) ∧ X.cell? ⟨b, off + (k + 1), none⟩ = some (.int .i64 (j : Int)) ∧ Hid (Ext w X)) X → Ext X X' → (fun X : World => X.cell? ⟨w.heap.size, 0, none⟩ = some (.slice ar row.length cap) ∧ X.cell? ⟨b, off + (k + 1), none⟩ = some (.int .i64 (j : Int)) ∧ Hid (Ext w X)) X' from fun X X' h hb => ⟨cell_ext hb h.1, cell_ext hb h.2.1, Lib.hid (Ext.trans h.2.2.out hb)⟩)

      go_wp2
      go_region_held3 (fun X : World => X.cell? ⟨w.heap.size, 0, none⟩ = some (.slice ar row.length cap) ∧ X.cell? ⟨b, off + (k + 1), none⟩ = some (.int .i64 (j : Int)) ∧ Hid (Ext w X))
        (first | assumption | exact ⟨cL, hcj, Lib.hid (hE.out.drew)⟩ | exact HKP.out _ _ (by assumption) hb | fail)
        (first | (go_at_call 70; refine (H70.out _ (of_and3 (by assumption))).mono ?_; rintro e w5 ⟨rfl, hb⟩) | fail)

      all_goals
        have hK := Lib.hid (of_and3 (by assumption : _ ∧ _ ∧ Hid (Ext w _)))
        have hK0 := Lib.hid ((by assumption : _ ∧ _ ∧ Hid (Ext w _)).1)
        cases c
        rotate_left
        · go_wp2
          go_roundw
          case rel => exact ⟨k + 1, .inl (by omega), by go_num, HS.out, hK0, hK⟩
          case measure => simp [intOf]; omega
        · go_wp2
          go_ret
          exact ⟨ret_bool (HNO.out trivial).symm, hK.out⟩
    · go_wp2
      go_ret
      refine ⟨ret_bool ?_, hE.out⟩
      have h1 := hI.out
      rcases hk with h | h
      · rw [show k + 1 = run.length from by omega] at h1; exact h1.symm
      · subst h
        cases run with
        | nil => rfl
        | cons a l => cases l with
          | nil => rfl
          | cons b l => simp at hlt
set_option maxHeartbeats 1000000 in
theorem lists58 (v vq : Value) (row run : List Int) (w : World) (hr : Reads w v row) (hq : Reads w vq run) :
    Calls Try.prog 58 #[.agg #[v], vq] w fun e w' => e = .returned (.bool (listB row.length run)) ∧ Ext w w' := by
  obtain ⟨hl, ar, cap, rfl⟩ := hr.shape
  have E0 := Lib.hid ((Ext.refl w).alloc (.cells #[.slice ar row.length cap] 57))
  have H49 := Lib.hid (within49 0 ((row.length : Int) - 1) vq run _ (hq.ext E0.out))
  have H77 := Lib.hid (up77 vq run _ (hq.ext E0.out))
  have hw : IntKind.i64.wrap ((row.length : Int) - 1) = (row.length : Int) - 1 := wrapi64 _ (by omega) (by omega)
  clear hr hq
  unfold listB
  generalize inn 0 ((row.length : Int) - 1) run = c at *
  generalize upB run = d at *
  cases c
  · go_enter Try.func58, Try.ntmps58
    go_wp2_with fail
    refine H49.out.mono ?_
    rintro e w' ⟨rfl, rfl⟩
    go_wp2
    go_ret
    exact ⟨rfl, E0.out⟩
  · go_enter Try.func58, Try.ntmps58
    go_wp2_with fail
    refine H49.out.mono ?_
    rintro e w' ⟨rfl, rfl⟩
    go_wp2_with fail
    refine H77.out.mono ?_
    rintro e w' ⟨rfl, hb⟩
    have HB := Lib.hid (E0.out.trans hb); clear hb
    cases d
    all_goals
      go_wp2
      go_ret
      exact ⟨rfl, HB.out⟩
end Go.Proofs.Ytclcippfodjfeaa
namespace Go.Proofs.Ytclcippfodjfeaa
open Go.RowKit
set_option linter.unusedVariables false
set_option linter.unusedSimpArgs false
theorem open_many (v vm : Value) (row : List Int) (many : Int) (w : World) (hr : Reads w v row) (hm : Reads w vm [many]) :
    Calls Try.prog 48 #[v, vm] w fun e w' => e = .returned (.tuple #[.agg #[if askE row many = 0 then v else .slice none 0 0], .int .i64 (askE row many)]) ∧ Ext w w' := by
  have h := open48 v vm row [many] w hr hm
  have e : (if chkR row ≠ 0 then chkR row else if inn 0 30 [many] = true then 0 else 2) = askE row many := by
    unfold askE inn
    by_cases h1 : chkR row ≠ 0
    · rw [if_pos h1, if_pos h1]
    · rw [if_neg h1, if_neg h1]; simp
  rw [e] at h; exact h
theorem open_none (v : Value) (row : List Int) (w : World) (hr : Reads w v row) :
    Calls Try.prog 48 #[v, .slice none 0 0] w fun e w' => e = .returned (.tuple #[.agg #[if chkR row = 0 then v else .slice none 0 0], .int .i64 (chkR row)]) ∧ Ext w w' := by
  have h := open48 v _ row [] w hr (Reads.nil w)
  have e : (if chkR row ≠ 0 then chkR row else if inn 0 30 [] = true then 0 else 2) = chkR row := by
    by_cases h1 : chkR row = 0 <;> simp [h1, inn]
  rw [e] at h; exact h
theorem checkRun35 (v vq : Value) (row run : List Int) (w : World) (hr : Reads w v row) (hq : Reads w vq run) :
    Calls Try.prog 35 #[v, vq] w fun e w' => e = .returned (.int .i64 (runE row run)) ∧ Ext w w' := by
  obtain ⟨hlr, a, cap, rfl⟩ := hr.shape
  have H48 := Lib.hid (open_none _ row w hr)
  have H58 := Lib.hid (fun (X : World) (h : Ext w X) => lists58 _ vq row run X (hr.ext h) (hq.ext h))
  have H59 := Lib.hid (fun (X : World) (h : Ext w X) (hin : inn 0 ((row.length : Int) - 1) run = true) => run59 _ vq row run X (hr.ext h) (hq.ext h) hin)
  have hl : listB row.length run = true → inn 0 ((row.length : Int) - 1) run = true := fun h => by unfold listB at h; exact (Bool.and_eq_true _ _ ▸ h).1
  clear hr hq
  unfold runE risE
  generalize chkR row = c at *
  generalize inn 0 ((row.length : Int) - 1) run = i at *
  generalize listB row.length run = d at *
  generalize decB row run = f at *
  have HL := Lib.hid hl; clear hl
  by_cases hc : c = 0
  · subst hc
    cases d
    · go_enter Try.func35, Try.ntmps35
      go_wp2_with fail
      refine H48.out.mono ?_
      rintro e w1 ⟨rfl, hb⟩
      have E1 := Lib.hid (hb.alloc (.cells #[.slice a row.length cap] 57)); clear hb
      go_wp2_with fail
      refine (H58.out _ E1.out).mono ?_
      rintro e w2 ⟨rfl, hb⟩
      have E2 := Lib.hid (E1.out.trans hb); clear hb
      go_wp2
      go_ret
      exact ⟨rfl, E2.out⟩
    · cases f
      all_goals
        go_enter Try.func35, Try.ntmps35
        go_wp2_with fail
        refine H48.out.mono ?_
        rintro e w1 ⟨rfl, hb⟩
        have c1 : (w1.alloc (.cells #[.slice a row.length cap] 57)).cell? ⟨w1.heap.size, 0, none⟩ = some (.slice a row.length cap) := World.cell?_alloc_at _ _ _ _ rfl
        have C1 := Lib.hid c1; clear c1
        have E1 := Lib.hid (hb.alloc (.cells #[.slice a row.length cap] 57)); clear hb
        go_wp2_with fail
        refine (H58.out _ E1.out).mono ?_
        rintro e w2 ⟨rfl, hb⟩
        have c2 := cell_ext hb C1.out
        have E2 := Lib.hid (E1.out.trans hb); clear hb
        go_wp2_with fail
        refine (H59.out _ E2.out (HL.out trivial)).mono ?_
        rintro e w3 ⟨rfl, hb⟩
        have E3 := Lib.hid (E2.out.trans hb); clear hb
        go_wp2
        go_ret
        exact ⟨rfl, E3.out⟩
  · have hb : (c != 0) = true := by simpa using hc
    rw [if_pos hc]
    have H48 := Lib.hid (by have h := H48.out; rw [if_neg hc] at h; exact h)
    clear hc
    go_enter Try.func35, Try.ntmps35
    go_wp2_with fail
    refine H48.out.mono ?_
    rintro e w1 ⟨rfl, hb1⟩
    have E1 := Lib.hid (hb1.alloc (.cells #[.slice none 0 0] 57)); clear hb1
    go_wp2
    go_ret
    exact ⟨rfl, E1.out⟩
end Go.Proofs.Ytclcippfodjfeaa
namespace Go.Proofs.Ytclcippfodjfeaa
open Go.RowKit
set_option linter.unusedVariables false
set_option linter.unusedSimpArgs false
theorem heap_alloc_new (w : World) (o : Obj) : (w.alloc o).heap[w.heap.size]? = some o := by
  show (w.heap.push o)[w.heap.size]? = some o
  simp
def intC (xs : List Int) : List Value := xs.map (Value.int .i64)
theorem intC_set (xs : List Int) (p : Nat) (x : Int) : (intC xs).set p (.int .i64 x) = intC (xs.set p x) := by simp [intC]
theorem intC_at {xs : List Int} {p : Nat} (h : p < xs.length) : (intC xs).toArray[p]? = some (.int .i64 (tAt xs p)) := by
  unfold tAt; simp [intC, List.getD_eq_getElem?_getD, List.getElem?_eq_getElem h]
/-- An array of integers of the call's own. -/
def ArrI (W : World) (b t : Nat) (xs : List Int) : Prop := W.heap[b]? = some (.cells (intC xs).toArray t (0, 0))
theorem ArrI.cell {W : World} {b t : Nat} {xs : List Int} (h : ArrI W b t xs) {p : Nat} (hp : p < xs.length) : W.cell? ⟨b, p, none⟩ = some (.int .i64 (tAt xs p)) := cell_of_blk h (intC_at hp)
theorem ArrI.frozen {W : World} {b t : Nat} {xs : List Int} (h : ArrI W b t xs) (p : Nat) : W.frozen? ⟨b, p, none⟩ = false := frozen_of_blk h p
theorem ArrI.set {W : World} {b t : Nat} {xs : List Int} (h : ArrI W b t xs) (p : Nat) (x : Int) : ArrI (W.setCell ⟨b, p, none⟩ (.int .i64 x)) b t (xs.set p x) := by
  unfold ArrI; rw [← intC_set]; exact set_blk h _
theorem Ext.set {w X : World} (h : Ext w X) {b : Nat} (hb : w.heap.size ≤ b) (p : Nat) (v : Value) : Ext w (X.setCell ⟨b, p, none⟩ v) := Below.setCell h (p := ⟨b, p, none⟩) hb v
theorem okTo_no {row t : List Int} {k n : Nat} (hk : k < n) (h : okAt row t k = false) : okTo row t n = false := by
  unfold okTo; rw [List.all_eq_false]; exact ⟨k, List.mem_range.2 hk, by simp [h]⟩
set_option maxRecDepth 100000 in
set_option maxHeartbeats 4000000 in
theorem taken50 (v vt : Value) (row t : List Int) (w : World) (hr : Reads w v row) (ht : Reads w vt t) (hlen : t.length = row.length) (hb : ∀ i, i < t.length → -1 ≤ tAt t i ∧ tAt t i < 30) (hpos : ∀ i, i < row.length → 0 < rAt row i) :
    Calls Try.prog 50 #[.agg #[v], vt] w fun e w' => e = .returned (.tuple #[.int .i64 (if okTo row t t.length = true then (cntTo t t.length : Int) else 0), .bool (okTo row t t.length)]) ∧ Ext w w' := by
  obtain ⟨hl, ar, cap, rfl⟩ := hr.shape
  obtain ⟨hl2, at', cap', rfl⟩ := ht.shape
  have hl3 : t.length ≤ 9223372036854775807 := by omega
  have hs0 : t.length ≤ 5000 := hl2
  have HR := Lib.hid hr; have HT := Lib.hid ht; have HB := Lib.hid hb; have HPOS := Lib.hid hpos
  have hle : t.length ≤ row.length := by omega
  obtain ⟨c, hc⟩ : ∃ c : Int, c = if okTo row t t.length = true then (cntTo t t.length : Int) else 0 := ⟨_, rfl⟩
  rw [← hc]
  have HN := Lib.hid hc
  clear hr ht hb hpos hlen hc
  go_enter Try.func50, Try.ntmps50
  go_wp2
  go_loopw [7, 12] (fun n i wr => ∃ k : Nat, k ≤ t.length ∧ i = .int .i64 (k : Int) ∧ n = .int .i64 (cntTo t k : Int) ∧ Hid (okTo row t k = true) ∧ Hid (∃ last, Tak row t k last ∧ ArrI wr (w.heap.size + 1) 72 last) ∧ Hid (wr.cell? ⟨w.heap.size, 0, none⟩ = some (.slice ar row.length cap)) ∧ Hid (Ext w wr)) (fun n i wr => t.length - (intOf i).toNat)
  case atStart =>
    refine ⟨0, Nat.zero_le _, rfl, rfl, (by rfl : _ = true), ⟨_, tak_start row t, ?_⟩, ?_, ((Ext.refl w).alloc _).alloc _⟩
    · show _ = _
      have := heap_alloc_new (w.alloc (.cells #[.slice ar row.length cap] 57)) (.cells (intC (List.replicate 30 0)).toArray 72)
      rw [World.size_alloc] at this
      exact this
    · exact cell_ext ((Ext.refl _).alloc _) (show (w.alloc (.cells #[.slice ar row.length cap] 57)).cell? ⟨w.heap.size, 0, none⟩ = some (.slice ar row.length cap) from World.cell?_alloc_at _ _ _ _ rfl)
  case round =>
    obtain ⟨k, hk, rfl, rfl, hI, hA, hC, hE⟩ := hrel
    by_cases hlt : k < t.length
    · obtain ⟨last, htk, harr⟩ := hA.out
      obtain ⟨b2, off2, q, rfl, hq, hcq⟩ := (HT.out.ext hE.out).at hlt
      obtain ⟨b1, off1, x, rfl, hx, hcx⟩ := (HR.out.ext hE.out).at (show k < row.length by omega)
      have hq' := tAt_some hq
      have hx' : rAt row k = x := tAt_some hx
      obtain ⟨q1, q2⟩ := HB.out k hlt
      rw [hq'] at q1 q2
      have hcn := cntTo_succ hlt
      have hok := okTo_succ row t k
      rw [hI.out, Bool.true_and] at hok
      rw [hq'] at hcn
      have hcl := cntTo_le t k
      have hka : (0 : Int) ≤ (k : Int) := by omega
      have hkb : (k : Int) < (t.length : Int) := by omega
      have hkd : (k : Int) < (row.length : Int) := by omega
      have ht1 : (k : Int).toNat = k := by omega
      by_cases hneg : q < 0
      · have hoa : okAt row t k = true := by unfold okAt; simp [hq', hneg]
        have htk2 := tak_skip htk (by rw [hq']; exact hneg)
        rw [hoa] at hok
        rw [if_neg (by omega), Nat.add_zero] at hcn
        have HOK := Lib.hid hok; have HCN := Lib.hid hcn; have HTK := Lib.hid htk2; have HARR := Lib.hid harr
        clear hq hx hq' hx' hcn hok hoa htk htk2 harr hA
        go_wp2
        go_roundw
        case rel => exact ⟨k + 1, by omega, by go_num, by rw [HCN.out]; rfl, HOK, Lib.hid ⟨_, HTK.out, HARR.out⟩, hC, hE⟩
        case measure => simp [intOf]; omega
      · obtain ⟨p, rfl⟩ : ∃ p : Nat, q = (p : Int) := ⟨q.toNat, by omega⟩
        have hp : p < last.length := by rw [htk.len]; omega
        have hc2 := harr.cell hp
        have hf2 := harr.frozen p
        have cL := hC.out
        have hpa : (0 : Int) ≤ (p : Int) := by omega
        have hpb : (p : Int) < 30 := by omega
        have hp30 : p < 30 := by omega
        have ht2 : (p : Int).toNat = p := by omega
        obtain ⟨y, hy⟩ : ∃ y, y = tAt last p := ⟨_, rfl⟩
        rw [← hy] at hc2
        have hno := fun h : x < y => tak_no htk (by rw [hq']; omega) (by rw [hq']; omega) (by rw [hq', ht2, hx', ← hy]; exact h) (HPOS.out k (by omega))
        have hyes := fun h : y ≤ x => tak_yes htk (by rw [hq']; omega) (by rw [hq']; omega) (by rw [hq', ht2, hx', ← hy]; exact h)
        rw [hq', hx', ht2] at hyes
        rw [if_pos hpa] at hcn
        have HOK := Lib.hid hok; have HCN := Lib.hid hcn; have HARR := Lib.hid harr; have HNO := Lib.hid hno; have HYES := Lib.hid hyes
        clear hq hx hq' hx' hcn hok htk harr hA hy hno hyes
        by_cases hxy : x < y
        · have hd : decide (x < y) = true := decide_eq_true hxy
          go_wp2
          go_quiet (fail)
          go_wp2
          go_ret2
          have hf := okTo_no hlt (HNO.out hxy)
          refine ⟨?_, hE.out.drewN _⟩
          rw [HN.out, hf]; rfl
        · have hd : decide (x < y) = false := decide_eq_false hxy
          obtain ⟨h1, h2⟩ := HYES.out (by omega)
          rw [h1] at HOK
          have HTK := Lib.hid h2
          clear h1 h2
          go_wp2
          go_quiet (fail)
          go_wp2
          go_roundw
          case rel => exact ⟨k + 1, by omega, by go_num, by rw [HCN.out]; go_num, HOK, Lib.hid ⟨_, HTK.out, ArrI.set (W := wr.drewN _) HARR.out _ _⟩, Lib.hid (far_ (X := wr.drewN _) cL (by omega)), Lib.hid ((hE.out.drewN _).set (by omega) _ _)⟩
          case measure => simp [intOf]; omega
    · obtain rfl : k = t.length := by omega
      go_wp2
      go_ret2
      have hf := hI.out
      refine ⟨?_, hE.out⟩
      rw [HN.out, hf]; rfl

theorem checkTurning19 (v vt : Value) (row t : List Int) (many : Int) (w : World) (hr : Reads w v row) (ht : Reads w vt t) :
    Calls Try.prog 19 #[v, .int .i64 many, vt] w fun e w' => e = .returned (.tuple #[.int .i64 (turnV row many t).1, .int .i64 (turnV row many t).2]) ∧ Ext w w' := by
  obtain ⟨hlr, a, cap, rfl⟩ := hr.shape
  obtain ⟨hlt, a', cap', rfl⟩ := ht.shape
  have E0 := Lib.hid ((Ext.refl w).alloc (.cells #[.int .i64 many] 3))
  have H48 := Lib.hid (open_many _ (.slice (some ⟨w.heap.size, 0, none⟩) 1 1) row many (w.alloc (.cells #[.int .i64 many] 3)) (hr.ext E0.out) (Reads.new w [many] 3 _ rfl (by simp) _ rfl 1 1 rfl))
  have ha : ∀ c, turnV row many t = c → askE row many = 0 → t.length = row.length → inn (-1) (many - 1) t = true → c = (if okTo row t t.length = true then (cntTo t t.length : Int) else 0, if okTo row t t.length = true then 0 else 16) := fun c hc h1 h2 h3 => by
    subst hc
    unfold turnV inn at *
    rw [if_neg (by simp [h1]), if_neg (by simp [h2]), if_neg (by rw [h3]; simp)]
    by_cases h4 : okTo row t t.length = true
    · rw [if_neg (by simp [h4]), if_pos h4, if_pos h4]
    · rw [if_pos (by simpa using h4), if_neg h4, if_neg h4]
  have hbad : askE row many ≠ 0 → turnV row many t = (0, askE row many) := fun h => by unfold turnV; rw [if_pos h]
  have hneq : askE row many = 0 → t.length ≠ row.length → turnV row many t = (0, 15) := fun h h2 => by unfold turnV; rw [if_neg (by simp [h]), if_pos h2]
  have hrng : askE row many = 0 → t.length = row.length → inn (-1) (many - 1) t = false → turnV row many t = (0, 3) := fun h h2 h3 => by unfold turnV; rw [if_neg (by simp [h]), if_neg (by simp [h2])]; unfold inn at h3; rw [if_pos h3]
  have H49 := Lib.hid (fun (X : World) (h : Ext w X) => within49 (-1) (many - 1) _ t X (ht.ext h))
  have hm30 : askE row many = 0 → 0 ≤ many ∧ many ≤ 30 := fun h => by
    unfold askE at h
    split at h
    · contradiction
    · split at h
      · assumption
      · cases h
  have hpos : askE row many = 0 → ∀ i, i < row.length → 0 < rAt row i := fun h i hi => by
    unfold askE at h
    split at h
    · contradiction
    · rename_i h0
      have h1 := (chkR_ok.1 (by simpa using h0)).2 _ (List.getElem_mem hi)
      have : rAt row i = row[i] := by unfold rAt; rw [List.getD_eq_getElem?_getD, List.getElem?_eq_getElem hi]; rfl
      omega
  have H50 := Lib.hid (fun (X : World) (h : Ext w X) (h1 : askE row many = 0) (h2 : t.length = row.length) (h3 : inn (-1) (many - 1) t = true) => taken50 _ _ row t X (hr.ext h) (ht.ext h) h2 (fun i hi => by have h4 := inn_at.1 h3 i hi; have := hm30 h1; omega) (hpos h1))
  have HA := Lib.hid ha; have HBAD := Lib.hid hbad; have HNEQ := Lib.hid hneq; have HRNG := Lib.hid hrng; have HM := Lib.hid hm30
  clear hr ht ha hbad hneq hrng hm30 hpos
  obtain ⟨r1, hr1⟩ : ∃ r1, r1 = (turnV row many t).1 := ⟨_, rfl⟩
  obtain ⟨r2, hr2⟩ : ∃ r2, r2 = (turnV row many t).2 := ⟨_, rfl⟩
  rw [← hr1, ← hr2]
  have HR1 := Lib.hid hr1; have HR2 := Lib.hid hr2
  clear hr1 hr2
  obtain ⟨c, hc⟩ : ∃ c, c = askE row many := ⟨_, rfl⟩
  by_cases h0 : c = 0
  · subst h0
    have H48 := Lib.hid (by have h := H48.out; rw [← hc, if_pos rfl] at h; exact h)
    have HM := HM.out hc.symm
    have HC := Lib.hid hc; clear hc
    have hw1 : IntKind.i64.wrap (many - 1) = many - 1 := wrapi64 _ (by omega) (by omega)
    by_cases hlen : t.length = row.length
    · have HLEN := Lib.hid hlen
      have hlb : ((t.length : Int) != (row.length : Int)) = false := by simp [hlen]
      have hlb2 : (t.length != row.length) = false := by simp [hlen]
      clear hlen
      cases hi : inn (-1) (many - 1) t
      · have HI := Lib.hid hi; clear hi
        go_enter Try.func19, Try.ntmps19
        go_wp2_with fail
        refine H48.out.mono ?_
        rintro e w1 ⟨rfl, hb⟩
        have E1 := Lib.hid ((E0.out.trans hb).alloc (.cells #[.slice a row.length cap] 57)); clear hb
        go_wp2_with fail
        refine (H49.out _ E1.out).mono ?_
        rintro e w2 ⟨rfl, rfl⟩
        rw [HI.out]
        go_wp2
        go_ret2
        rw [HR1.out, HR2.out, HRNG.out HC.out.symm HLEN.out HI.out]
        exact ⟨rfl, E1.out⟩
      · have HI := Lib.hid hi; clear hi
        cases hf : okTo row t t.length
        all_goals
          have HF := Lib.hid hf; clear hf
          have H50 := Lib.hid (fun (X : World) (h : Ext w X) => by have h1 := H50.out X h HC.out.symm HLEN.out HI.out; rw [HF.out] at h1; exact h1)
          go_enter Try.func19, Try.ntmps19
          go_wp2_with fail
          refine H48.out.mono ?_
          rintro e w1 ⟨rfl, hb⟩
          have E1 := Lib.hid ((E0.out.trans hb).alloc (.cells #[.slice a row.length cap] 57)); clear hb
          go_wp2_with fail
          refine (H49.out _ E1.out).mono ?_
          rintro e w2 ⟨rfl, rfl⟩
          rw [HI.out]
          go_wp2_with fail
          refine (H50.out _ E1.out).mono ?_
          rintro e w3 ⟨rfl, hb⟩
          have E3 := Lib.hid (E1.out.trans hb); clear hb
          go_wp2
          go_ret2
          rw [HR1.out, HR2.out, HA.out _ rfl HC.out.symm HLEN.out HI.out, HF.out]
          exact ⟨rfl, E3.out⟩
    · have hlb : ((t.length : Int) != (row.length : Int)) = true := by simp; omega
      have hlb2 : (t.length != row.length) = true := by simp; omega
      have HLEN := Lib.hid hlen
      clear hlen
      go_enter Try.func19, Try.ntmps19
      go_wp2_with fail
      refine H48.out.mono ?_
      rintro e w1 ⟨rfl, hb⟩
      have E1 := Lib.hid ((E0.out.trans hb).alloc (.cells #[.slice a row.length cap] 57)); clear hb
      go_wp2
      go_ret2
      rw [HR1.out, HR2.out, HNEQ.out HC.out.symm HLEN.out]
      exact ⟨rfl, E1.out⟩
  · have hb : (c != 0) = true := by simpa using h0
    have H48 := Lib.hid (by have h := H48.out; rw [← hc, if_neg h0] at h; exact h)
    have HC := Lib.hid hc; clear hc
    have H0 := Lib.hid h0; clear h0
    go_enter Try.func19, Try.ntmps19
    go_wp2_with fail
    refine H48.out.mono ?_
    rintro e w1 ⟨rfl, hb1⟩
    have E1 := Lib.hid ((E0.out.trans hb1).alloc (.cells #[.slice none 0 0] 57)); clear hb1
    go_wp2
    go_ret2
    rw [HR1.out, HR2.out, HBAD.out (by rw [← HC.out]; exact H0.out), HC.out]
    exact ⟨rfl, E1.out⟩
end Go.Proofs.Ytclcippfodjfeaa
