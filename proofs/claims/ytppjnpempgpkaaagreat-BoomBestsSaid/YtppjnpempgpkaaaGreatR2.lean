/- The reference: Has, Cells, IsList, by their contracts. The reference: CheckPond, by its contract. -/
import Derived.Test.YtppjnpempgpkaaaGreatH7
import Derived.Test.YtppjnpempgpkaaaGreatH6
import Derived.Test.YtppjnpempgpkaaaGreatN3
import Derived.Test.YtppjnpempgpkaaaGreatK1
import Derived.Test.YtppjnpempgpkaaaGreatJ3
namespace Go.Proofs.YtppjnpempgpkaaaGreat
open Go.RowKit Go.Shelf
set_option linter.unusedVariables false
set_option linter.unusedSimpArgs false
attribute [local go_sem] Oper.semAt_some

set_option maxRecDepth 100000 in
theorem has_c (v : Value) (xs : List Int) (n : Int) (w : World) (hr : Reads w v xs) :
    Calls Tryz.prog 30 #[v, .int .i64 n] w fun e w' => e = .returned (.bool (hasB xs n)) ∧ w = w' := by
  obtain ⟨hl, a, cap, rfl⟩ := hr.shape
  have HC := Lib.hid hr; clear hr
  have hl2 : xs.length ≤ 9223372036854775806 := by omega
  go_enter Tryz.func30, Tryz.ntmps30
  go_wp2
  go_loopw [5] (fun i wr => ∃ k : Nat, k ≤ xs.length ∧ i = .int .i64 (k : Int) ∧ Hid (∀ j, j < k → xs[j]? ≠ some n) ∧ Hid (wr = w)) (fun i wr => xs.length - (intOf i).toNat)
  case atStart => exact ⟨0, Nat.zero_le _, rfl, Lib.hid (fun j hj => by omega), (by first | exact Lib.hid rfl | exact Lib.hid trivial)⟩
  case round =>
    obtain ⟨k, hk, rfl, hI, hW⟩ := hrel
    obtain rfl := hW.out
    by_cases hlt : k < xs.length
    · obtain ⟨b, off, x, rfl, hx, hcx⟩ := HC.out.at hlt
      have HX := Lib.hid hx
      have hka : (0 : Int) ≤ (k : Int) := by omega
      have hkb : (k : Int) < (xs.length : Int) := by omega
      clear hx
      by_cases hn : x = n
      · subst hn
        have HT := Lib.hid (show hasB xs x = true from decide_eq_true (List.mem_of_getElem? HX.out))
        go_wp2
        go_ret
        exact ⟨ret_bool (by rw [HT.out]), rfl⟩
      · go_wp2
        go_roundw
        case rel => exact ⟨k + 1, by omega, by go_num, Lib.hid (fun j hj => by
          by_cases e : j = k
          · subst e; rw [HX.out]; intro h; exact hn (Option.some.inj h)
          · exact hI.out j (by omega)), (by first | exact Lib.hid rfl | exact Lib.hid trivial)⟩
        case measure => simp [intOf]; omega
    · obtain rfl : k = xs.length := by omega
      have HT := Lib.hid (show hasB xs n = false from decide_eq_false (fun hm => by
        obtain ⟨j, hj⟩ := List.mem_iff_getElem?.1 hm
        exact hI.out j ((List.getElem?_eq_some_iff.1 hj).1) hj))
      go_wp2
      go_ret
      exact ⟨ret_bool (by rw [HT.out]), rfl⟩
theorem rcells_c (W H nw cw nk ck : Nat) (aw ak : Option Addr) (hW : W ≤ 8) (hH : H ≤ 8) (w : World) :
    Calls Tryz.prog 31 #[.agg #[.int .i64 (W : Int), .int .i64 (H : Int), .slice aw nw cw, .slice ak nk ck]] w fun e w' => e = .returned (.int .i64 ((W * H : Nat) : Int)) ∧ Ext w w' := by
  have E0 := Lib.hid ((Ext.refl w).alloc (.cells #[.int .i64 (W : Int), .int .i64 (H : Int), .slice aw nw cw, .slice ak nk ck] 24))
  obtain ⟨c, hc⟩ : ∃ c, c = W * H := ⟨_, rfl⟩
  have hcb : c ≤ 64 := by rw [hc]; exact Nat.mul_le_mul hW hH
  have hw : wrap64 ((W : Int) * (H : Int)) = (c : Int) := by
    rw [wrap_eq, ← Int.natCast_mul, ← hc]; exact wrapi64 _ (by omega) (by omega)
  rw [← hc]
  clear hc hW hH hcb
  go_enter Tryz.func31, Tryz.ntmps31
  go_wp2
  go_ret
  exact ⟨by rw [← hw]; rfl, E0.out⟩
set_option maxRecDepth 100000 in
set_option maxHeartbeats 2000000 in
theorem isList_c (n : Nat) (v : Value) (xs : List Int) (w : World) (hr : Reads w v xs) (hn : n ≤ 64) :
    Calls Tryz.prog 67 #[v, .int .i64 (n : Int)] w fun e w' => e = .returned (.bool (lstB n xs)) ∧ Ext w w' := by
  obtain ⟨hl, a, cap, rfl⟩ := hr.shape
  have HC := Lib.hid hr; clear hr
  have hl2 : xs.length ≤ 9223372036854775806 := by omega
  go_enter Tryz.func67, Tryz.ntmps67
  go_wp2
  go_loopw [5] (fun i wr => ∃ k : Nat, k ≤ xs.length ∧ i = .int .i64 (k : Int) ∧ Hid (inn 0 ((n : Int) - 1) (xs.take k) = true) ∧ Hid (upTo1 xs k = true) ∧ Hid (Ext w wr)) (fun i wr => xs.length - (intOf i).toNat)
  case atStart => exact ⟨0, Nat.zero_le _, rfl, (by rfl : _ = true), (by rfl : _ = true), Ext.refl _⟩
  case round =>
    obtain ⟨k, hk, rfl, hI, hU, hE⟩ := hrel
    by_cases hlt : k < xs.length
    · obtain ⟨b, off, y, rfl, hy, hcy⟩ := (HC.out.ext hE.out).at hlt
      have HY := Lib.hid hy
      have hka : (0 : Int) ≤ (k : Int) := by omega
      have hkb : (k : Int) < (xs.length : Int) := by omega
      have ht : (k : Int).toNat = k := by omega
      have HI := Lib.hid (show 0 ≤ y → y < (n : Int) → inn 0 ((n : Int) - 1) (xs.take (k + 1)) = true from fun h1 h2 => by rw [take_snoc HY.out, inn_snoc, hI.out]; simp; omega)
      have HNI := Lib.hid (show y < 0 ∨ (n : Int) ≤ y → lstB n xs = false from fun h => by unfold lstB; rw [inn_false HY.out (by omega)]; rfl)
      clear hy
      by_cases h1 : y < 0
      · have HNO := Lib.hid (HNI.out (.inl h1))
        have hd : decide (y < 0) = true := decide_eq_true h1
        clear h1
        go_upto_region 4 with fail
        go_quiet (fail)
        go_wp2
        go_ret
        refine ⟨ret_bool ?_, hE.out.drewN _⟩
        rw [HNO.out]
      · by_cases h2 : (n : Int) ≤ y
        · have HNO := Lib.hid (HNI.out (.inr h2))
          have hd : decide (y < 0) = false := decide_eq_false h1
          have hd2 : decide ((n : Int) ≤ y) = true := decide_eq_true h2
          clear h1 h2
          go_upto_region 4 with fail
          go_quiet (fail)
          go_wp2
          go_ret
          refine ⟨ret_bool ?_, hE.out.drewN _⟩
          rw [HNO.out]
        · have HIN := Lib.hid (HI.out (by omega) (by omega))
          have hd : decide (y < 0) = false := decide_eq_false h1
          have hd2 : decide ((n : Int) ≤ y) = false := decide_eq_false h2
          clear h1 h2
          by_cases h0 : k = 0
          · have HUP := Lib.hid (show upTo1 xs (k + 1) = true from by rw [h0]; rfl)
            have hd3 : decide (0 < k) = false := decide_eq_false (by omega)
            clear h0
            go_upto_region 4 with fail
            go_quiet (fail)
            go_wp2
            go_roundw
            case rel => exact ⟨k + 1, by omega, by go_num, HIN, HUP, Lib.hid (hE.out.drewN _)⟩
            case measure => simp [intOf]; omega
          · obtain ⟨b', off', x, hbx, hx, hcx⟩ := (HC.out.ext hE.out).at (show k - 1 < xs.length by omega)
            cases hbx
            obtain ⟨j, hj⟩ : ∃ j, j = k - 1 := ⟨_, rfl⟩
            have hd3 : decide (0 < k) = true := decide_eq_true (by omega)
            have hs := upTo1_succ xs k
            rw [hU.out, Bool.true_and, tAt_some HY.out, tAt_some hx, show (k == 0) = false from by simp [h0], Bool.false_or] at hs
            have HS := Lib.hid hs
            have HNU := Lib.hid (show y ≤ x → lstB n xs = false from fun h => by unfold lstB upB; rw [upTo1_no (k := k) hlt h0 (by rw [tAt_some HY.out, tAt_some hx]; exact h), Bool.and_false])
            rw [← hj] at hcx
            have hw1 : IntKind.i64.wrap ((k : Int) - 1) = (j : Int) := by rw [show (k : Int) - 1 = (j : Int) from by omega]; exact wrapi64 _ (by omega) (by omega)
            have ht2 : (j : Int).toNat = j := by omega
            have hkc : (0 : Int) ≤ (j : Int) := by omega
            have hkd : (j : Int) < (xs.length : Int) := by omega
            clear hs hx hj h0
            by_cases h3 : y ≤ x
            · have HNO := Lib.hid (HNU.out h3)
              have hd4 : decide (y ≤ x) = true := decide_eq_true h3
              clear h3
              go_upto_region 4 with fail
              go_quiet (fail)
              go_wp2
              go_ret
              refine ⟨ret_bool ?_, hE.out.drewN _⟩
              rw [HNO.out]
            · have HUP := Lib.hid (show upTo1 xs (k + 1) = true from by rw [HS.out]; exact decide_eq_true (by omega))
              have hd4 : decide (y ≤ x) = false := decide_eq_false h3
              clear h3
              go_upto_region 4 with fail
              go_quiet (fail)
              go_wp2
              go_roundw
              case rel => exact ⟨k + 1, by omega, by go_num, HIN, HUP, Lib.hid (hE.out.drewN _)⟩
              case measure => simp [intOf]; omega
    · obtain rfl : k = xs.length := by omega
      have HT := Lib.hid (show lstB n xs = true from by unfold lstB upB; rw [hU.out]; have := hI.out; rw [List.take_of_length_le (Nat.le_refl _)] at this; rw [this]; rfl)
      go_wp2
      go_ret
      exact ⟨ret_bool (by rw [HT.out]), hE.out⟩
end Go.Proofs.YtppjnpempgpkaaaGreat
namespace Go.Proofs.YtppjnpempgpkaaaGreat
open Go.RowKit Go.Shelf
set_option linter.unusedVariables false
set_option linter.unusedSimpArgs false
attribute [local go_sem] Oper.semAt_some

theorem any_swap (wl kl : List Int) : kl.any (hasB wl) = wl.any (hasB kl) := by
  rw [Bool.eq_iff_iff, List.any_eq_true, List.any_eq_true]
  unfold hasB
  simp only [decide_eq_true_iff]
  exact ⟨fun ⟨x, h1, h2⟩ => ⟨x, h2, h1⟩, fun ⟨x, h1, h2⟩ => ⟨x, h2, h1⟩⟩
theorem has_q (v : Value) (xs : List Int) (n : Int) (w : World) (hr : Reads w v xs) : ∀ k, Calls Tryz.prog 30 #[v, .int .i64 n] (w.drewN k) fun e w' => e = .returned (.bool (hasB xs n)) ∧ ∃ m, w' = w.drewN m :=
  fun k => Calls.quiet_of_same ((has_c v xs n _ (hr.ext ((Ext.refl w).drewN k))).mono fun e w' h => ⟨h.1, h.2.symm⟩)
set_option maxRecDepth 100000 in
set_option maxHeartbeats 2000000 in
theorem rcheckPond_c (W H : Int) (nw cw nk ck : Nat) (aw ak : Option Addr) (wl kl : List Int) (w : World) (hw : Reads w (.slice aw nw cw) wl) (hk : Reads w (.slice ak nk ck) kl) :
    Calls Tryz.prog 36 #[.agg #[.int .i64 W, .int .i64 H, .slice aw nw cw, .slice ak nk ck]] w fun e w' => e = .returned (.int .i64 (chkP W H wl kl)) ∧ Ext w w' := by
  obtain ⟨r, hr⟩ : ∃ r, r = chkP W H wl kl := ⟨_, rfl⟩
  rw [← hr]
  have HR := Lib.hid hr; clear hr
  have HWL := Lib.hid hw; have HKL := Lib.hid hk; clear hw hk
  obtain ⟨w1, hw1⟩ : ∃ w1, w1 = w.alloc (.cells #[.int .i64 W, .int .i64 H, .slice aw nw cw, .slice ak nk ck] 24) := ⟨_, rfl⟩
  have E0 := Lib.hid (show Ext w w1 from by rw [hw1]; exact (Ext.refl w).alloc _)
  have B0 := Lib.hid (show w1.heap[w.heap.size]? = some (.cells #[.int .i64 W, .int .i64 H, .slice aw nw cw, .slice ak nk ck] 24 (0, 0)) from by rw [hw1]; exact heap_alloc_new w _)
  obtain ⟨c0, c1, c2, c3⟩ := cells4 B0.out
  by_cases hin : (1 ≤ W ∧ W ≤ 8) ∧ 1 ≤ H ∧ H ≤ 8
  · obtain ⟨W, rfl⟩ : ∃ n : Nat, W = (n : Int) := ⟨W.toNat, by omega⟩
    obtain ⟨H, rfl⟩ : ∃ n : Nat, H = (n : Int) := ⟨H.toNat, by omega⟩
    have HC := Lib.hid (show r = if lstB (W * H) wl = false ∨ lstB (W * H) kl = false then 2 else if kl.any (hasB wl) = true then 11 else 0 from by rw [HR.out]; unfold chkP; rw [if_neg (by omega)]; rfl)
    rw [any_swap] at HC
    have hn64 : W * H ≤ 64 := Nat.mul_le_mul (show W ≤ 8 by omega) (show H ≤ 8 by omega)
    have HCE := Lib.hid (fun X => rcells_c W H nw cw nk ck aw ak (by omega) (by omega) X)
    have HA := Lib.hid (fun (X : World) (h : Ext w X) => isList_c (W * H) _ wl X (HWL.out.ext h) hn64)
    have HB := Lib.hid (fun (X : World) (h : Ext w X) => isList_c (W * H) _ kl X (HKL.out.ext h) hn64)
    have hq1 : decide ((W : Int) < 1) = false := decide_eq_false (by omega)
    have hq2 : decide ((8 : Int) < (W : Int)) = false := decide_eq_false (by omega)
    have hq3 : decide ((H : Int) < 1) = false := decide_eq_false (by omega)
    have hq4 : decide ((8 : Int) < (H : Int)) = false := decide_eq_false (by omega)
    generalize lstB (W * H) wl = b1 at *
    generalize lstB (W * H) kl = b2 at *
    generalize W * H = N at *
    clear HR hin hn64
    go_enter Tryz.func36, Tryz.ntmps36
    go_upto_region 1 with fail
    rw [← hw1]
    clear hw1
    go_upto_region 3 with fail
    clear c0 c1 c2 c3 hq1 hq2 hq3 hq4
    cases b1
    · have HRR := Lib.hid (show r = 2 from by rw [HC.out]; rfl)
      refine wp_region_order ((fun Y : World => Y.heap[w.heap.size]? = some (.cells #[.int .i64 (W : Int), .int .i64 (H : Int), .slice aw nw cw, .slice ak nk ck] 24 (0, 0)))) [0, 1, 2, 3, 4, 5, 6, 7, 8, 9, 10, 11, 12, 13] (by kernel_rfl) (by kernel_rfl) (by exact B0.out) (fun hHeld => ?_)
      simp only [opsIn, List.filterMap_cons, List.filterMap_nil, List.getElem?_toArray, List.getElem?_cons_succ, List.getElem?_cons_zero]
      refine' text_chunk 3 (by kernel_rfl) hHeld ?ck1 ?cr1
      case ck1 =>
        intro W hSw
        have hSW := hSw
        try dsimp only at hSW
        clear hSw
        obtain ⟨z0, z1, z2, z3⟩ := cells4 hSW
        simp only [List.take_succ_cons, List.take_zero, List.drop_succ_cons, List.drop_zero]
        repeat (go_big_quiet_step (fail))
        exact wpQuiet_nil rfl
      simp only [List.take_succ_cons, List.take_zero, List.drop_succ_cons, List.drop_zero]
      refine text_call (by rfl) (by rfl) (fun K hK => ?_)
      go_simp
      refine Calls.mono (HCE.out _) ?_
      intro e Y1 h1; obtain ⟨h1, hE⟩ := h1; subst h1
      have HEY1 := Lib.hid (E0.out.drew.trans hE)
      have HDY1 := Lib.hid hE
      clear hE
      all_goals (try (go_wp2_with fail))
      refine hK.out _ _ (by exact block_ext HDY1.out hHeld) (fun hHeld => ?_)
      clear hK K
      try simp only [Act.put, List.setIfInBounds_toArray, List.set_cons_zero, List.set_cons_succ]
      refine text_call (by rfl) (by rfl) (fun K hK => ?_)
      go_simp
      refine Calls.mono (HA.out _ (HEY1.out)) ?_
      intro e Y2 h1; obtain ⟨h1, hE⟩ := h1; subst h1
      have HEY2 := Lib.hid (HEY1.out.trans hE)
      have HDY2 := Lib.hid hE
      clear hE
      all_goals (try (go_wp2_with fail))
      refine hK.out _ _ (by exact block_ext HDY2.out hHeld) (fun hHeld => ?_)
      clear hK K
      try simp only [Act.put, List.setIfInBounds_toArray, List.set_cons_zero, List.set_cons_succ]
      refine' text_chunk 2 (by kernel_rfl) hHeld ?ck2 ?cr2
      case ck2 =>
        intro W hSw
        have hSW := hSw
        try dsimp only at hSW
        clear hSw
        skip
        simp only [List.take_succ_cons, List.take_zero, List.drop_succ_cons, List.drop_zero]
        repeat (go_big_quiet_step (fail))
        exact wpQuiet_nil rfl
      simp only [List.take_succ_cons, List.take_zero, List.drop_succ_cons, List.drop_zero]
      refine text_skip (by rfl) ?_
      try simp only [Act.put, List.setIfInBounds_toArray, List.set_cons_zero, List.set_cons_succ]
      refine text_skip (by rfl) ?_
      try simp only [Act.put, List.setIfInBounds_toArray, List.set_cons_zero, List.set_cons_succ]
      refine text_skip (by rfl) ?_
      try simp only [Act.put, List.setIfInBounds_toArray, List.set_cons_zero, List.set_cons_succ]
      refine text_skip (by rfl) ?_
      try simp only [Act.put, List.setIfInBounds_toArray, List.set_cons_zero, List.set_cons_succ]
      refine text_skip (by rfl) ?_
      try simp only [Act.put, List.setIfInBounds_toArray, List.set_cons_zero, List.set_cons_succ]
      refine text_skip (by rfl) ?_
      try simp only [Act.put, List.setIfInBounds_toArray, List.set_cons_zero, List.set_cons_succ]
      refine' text_chunk 1 (by kernel_rfl) hHeld ?ck3 ?cr3
      case ck3 =>
        intro W hSw
        have hSW := hSw
        try dsimp only at hSW
        clear hSw
        skip
        simp only [List.take_succ_cons, List.take_zero, List.drop_succ_cons, List.drop_zero]
        repeat (go_big_quiet_step (fail))
        exact wpQuiet_nil rfl
      simp only [List.take_succ_cons, List.take_zero, List.drop_succ_cons, List.drop_zero]
      refine text_done ?_
      go_wp2
      go_ret
      exact ⟨ret_int HRR.out.symm, HEY2.out⟩
    · cases b2
      · have HRR := Lib.hid (show r = 2 from by rw [HC.out]; rfl)
        refine wp_region_order ((fun Y : World => Y.heap[w.heap.size]? = some (.cells #[.int .i64 (W : Int), .int .i64 (H : Int), .slice aw nw cw, .slice ak nk ck] 24 (0, 0)))) [0, 1, 2, 3, 4, 5, 6, 7, 8, 9, 10, 11, 12, 13] (by kernel_rfl) (by kernel_rfl) (by exact B0.out) (fun hHeld => ?_)
        simp only [opsIn, List.filterMap_cons, List.filterMap_nil, List.getElem?_toArray, List.getElem?_cons_succ, List.getElem?_cons_zero]
        refine' text_chunk 3 (by kernel_rfl) hHeld ?ck4 ?cr4
        case ck4 =>
          intro W hSw
          have hSW := hSw
          try dsimp only at hSW
          clear hSw
          obtain ⟨z0, z1, z2, z3⟩ := cells4 hSW
          simp only [List.take_succ_cons, List.take_zero, List.drop_succ_cons, List.drop_zero]
          repeat (go_big_quiet_step (fail))
          exact wpQuiet_nil rfl
        simp only [List.take_succ_cons, List.take_zero, List.drop_succ_cons, List.drop_zero]
        refine text_call (by rfl) (by rfl) (fun K hK => ?_)
        go_simp
        refine Calls.mono (HCE.out _) ?_
        intro e Y1 h1; obtain ⟨h1, hE⟩ := h1; subst h1
        have HEY1 := Lib.hid (E0.out.drew.trans hE)
        have HDY1 := Lib.hid hE
        clear hE
        all_goals (try (go_wp2_with fail))
        refine hK.out _ _ (by exact block_ext HDY1.out hHeld) (fun hHeld => ?_)
        clear hK K
        try simp only [Act.put, List.setIfInBounds_toArray, List.set_cons_zero, List.set_cons_succ]
        refine text_call (by rfl) (by rfl) (fun K hK => ?_)
        go_simp
        refine Calls.mono (HA.out _ (HEY1.out)) ?_
        intro e Y2 h1; obtain ⟨h1, hE⟩ := h1; subst h1
        have HEY2 := Lib.hid (HEY1.out.trans hE)
        have HDY2 := Lib.hid hE
        clear hE
        all_goals (try (go_wp2_with fail))
        refine hK.out _ _ (by exact block_ext HDY2.out hHeld) (fun hHeld => ?_)
        clear hK K
        try simp only [Act.put, List.setIfInBounds_toArray, List.set_cons_zero, List.set_cons_succ]
        refine' text_chunk 2 (by kernel_rfl) hHeld ?ck5 ?cr5
        case ck5 =>
          intro W hSw
          have hSW := hSw
          try dsimp only at hSW
          clear hSw
          skip
          simp only [List.take_succ_cons, List.take_zero, List.drop_succ_cons, List.drop_zero]
          repeat (go_big_quiet_step (fail))
          exact wpQuiet_nil rfl
        simp only [List.take_succ_cons, List.take_zero, List.drop_succ_cons, List.drop_zero]
        refine' text_chunk 3 (by kernel_rfl) hHeld ?ck6 ?cr6
        case ck6 =>
          intro W hSw
          have hSW := hSw
          try dsimp only at hSW
          clear hSw
          obtain ⟨z0, z1, z2, z3⟩ := cells4 hSW
          simp only [List.take_succ_cons, List.take_zero, List.drop_succ_cons, List.drop_zero]
          repeat (go_big_quiet_step (fail))
          exact wpQuiet_nil rfl
        simp only [List.take_succ_cons, List.take_zero, List.drop_succ_cons, List.drop_zero]
        refine text_call (by rfl) (by rfl) (fun K hK => ?_)
        go_simp
        refine Calls.mono (HCE.out _) ?_
        intro e Y3 h1; obtain ⟨h1, hE⟩ := h1; subst h1
        have HEY3 := Lib.hid (HEY2.out.trans hE)
        have HDY3 := Lib.hid hE
        clear hE
        all_goals (try (go_wp2_with fail))
        refine hK.out _ _ (by exact block_ext HDY3.out hHeld) (fun hHeld => ?_)
        clear hK K
        try simp only [Act.put, List.setIfInBounds_toArray, List.set_cons_zero, List.set_cons_succ]
        refine text_call (by rfl) (by rfl) (fun K hK => ?_)
        go_simp
        refine Calls.mono (HB.out _ (HEY3.out)) ?_
        intro e Y4 h1; obtain ⟨h1, hE⟩ := h1; subst h1
        have HEY4 := Lib.hid (HEY3.out.trans hE)
        have HDY4 := Lib.hid hE
        clear hE
        all_goals (try (go_wp2_with fail))
        refine hK.out _ _ (by exact block_ext HDY4.out hHeld) (fun hHeld => ?_)
        clear hK K
        try simp only [Act.put, List.setIfInBounds_toArray, List.set_cons_zero, List.set_cons_succ]
        refine' text_chunk 2 (by kernel_rfl) hHeld ?ck7 ?cr7
        case ck7 =>
          intro W hSw
          have hSW := hSw
          try dsimp only at hSW
          clear hSw
          skip
          simp only [List.take_succ_cons, List.take_zero, List.drop_succ_cons, List.drop_zero]
          repeat (go_big_quiet_step (fail))
          exact wpQuiet_nil rfl
        simp only [List.take_succ_cons, List.take_zero, List.drop_succ_cons, List.drop_zero]
        refine text_done ?_
        go_wp2
        go_ret
        exact ⟨ret_int HRR.out.symm, HEY4.out⟩
      · have HRR := Lib.hid (show r = if wl.any (hasB kl) = true then 11 else 0 from by rw [HC.out]; rfl)
        refine wp_region_order ((fun Y : World => Y.heap[w.heap.size]? = some (.cells #[.int .i64 (W : Int), .int .i64 (H : Int), .slice aw nw cw, .slice ak nk ck] 24 (0, 0)))) [0, 1, 2, 3, 4, 5, 6, 7, 8, 9, 10, 11, 12, 13] (by kernel_rfl) (by kernel_rfl) (by exact B0.out) (fun hHeld => ?_)
        simp only [opsIn, List.filterMap_cons, List.filterMap_nil, List.getElem?_toArray, List.getElem?_cons_succ, List.getElem?_cons_zero]
        refine' text_chunk 3 (by kernel_rfl) hHeld ?ck8 ?cr8
        case ck8 =>
          intro W hSw
          have hSW := hSw
          try dsimp only at hSW
          clear hSw
          obtain ⟨z0, z1, z2, z3⟩ := cells4 hSW
          simp only [List.take_succ_cons, List.take_zero, List.drop_succ_cons, List.drop_zero]
          repeat (go_big_quiet_step (fail))
          exact wpQuiet_nil rfl
        simp only [List.take_succ_cons, List.take_zero, List.drop_succ_cons, List.drop_zero]
        refine text_call (by rfl) (by rfl) (fun K hK => ?_)
        go_simp
        refine Calls.mono (HCE.out _) ?_
        intro e Y1 h1; obtain ⟨h1, hE⟩ := h1; subst h1
        have HEY1 := Lib.hid (E0.out.drew.trans hE)
        have HDY1 := Lib.hid hE
        clear hE
        all_goals (try (go_wp2_with fail))
        refine hK.out _ _ (by exact block_ext HDY1.out hHeld) (fun hHeld => ?_)
        clear hK K
        try simp only [Act.put, List.setIfInBounds_toArray, List.set_cons_zero, List.set_cons_succ]
        refine text_call (by rfl) (by rfl) (fun K hK => ?_)
        go_simp
        refine Calls.mono (HA.out _ (HEY1.out)) ?_
        intro e Y2 h1; obtain ⟨h1, hE⟩ := h1; subst h1
        have HEY2 := Lib.hid (HEY1.out.trans hE)
        have HDY2 := Lib.hid hE
        clear hE
        all_goals (try (go_wp2_with fail))
        refine hK.out _ _ (by exact block_ext HDY2.out hHeld) (fun hHeld => ?_)
        clear hK K
        try simp only [Act.put, List.setIfInBounds_toArray, List.set_cons_zero, List.set_cons_succ]
        refine' text_chunk 2 (by kernel_rfl) hHeld ?ck9 ?cr9
        case ck9 =>
          intro W hSw
          have hSW := hSw
          try dsimp only at hSW
          clear hSw
          skip
          simp only [List.take_succ_cons, List.take_zero, List.drop_succ_cons, List.drop_zero]
          repeat (go_big_quiet_step (fail))
          exact wpQuiet_nil rfl
        simp only [List.take_succ_cons, List.take_zero, List.drop_succ_cons, List.drop_zero]
        refine' text_chunk 3 (by kernel_rfl) hHeld ?ck10 ?cr10
        case ck10 =>
          intro W hSw
          have hSW := hSw
          try dsimp only at hSW
          clear hSw
          obtain ⟨z0, z1, z2, z3⟩ := cells4 hSW
          simp only [List.take_succ_cons, List.take_zero, List.drop_succ_cons, List.drop_zero]
          repeat (go_big_quiet_step (fail))
          exact wpQuiet_nil rfl
        simp only [List.take_succ_cons, List.take_zero, List.drop_succ_cons, List.drop_zero]
        refine text_call (by rfl) (by rfl) (fun K hK => ?_)
        go_simp
        refine Calls.mono (HCE.out _) ?_
        intro e Y3 h1; obtain ⟨h1, hE⟩ := h1; subst h1
        have HEY3 := Lib.hid (HEY2.out.trans hE)
        have HDY3 := Lib.hid hE
        clear hE
        all_goals (try (go_wp2_with fail))
        refine hK.out _ _ (by exact block_ext HDY3.out hHeld) (fun hHeld => ?_)
        clear hK K
        try simp only [Act.put, List.setIfInBounds_toArray, List.set_cons_zero, List.set_cons_succ]
        refine text_call (by rfl) (by rfl) (fun K hK => ?_)
        go_simp
        refine Calls.mono (HB.out _ (HEY3.out)) ?_
        intro e Y4 h1; obtain ⟨h1, hE⟩ := h1; subst h1
        have HEY4 := Lib.hid (HEY3.out.trans hE)
        have HDY4 := Lib.hid hE
        clear hE
        all_goals (try (go_wp2_with fail))
        refine hK.out _ _ (by exact block_ext HDY4.out hHeld) (fun hHeld => ?_)
        clear hK K
        try simp only [Act.put, List.setIfInBounds_toArray, List.set_cons_zero, List.set_cons_succ]
        refine' text_chunk 2 (by kernel_rfl) hHeld ?ck11 ?cr11
        case ck11 =>
          intro W hSw
          have hSW := hSw
          try dsimp only at hSW
          clear hSw
          skip
          simp only [List.take_succ_cons, List.take_zero, List.drop_succ_cons, List.drop_zero]
          repeat (go_big_quiet_step (fail))
          exact wpQuiet_nil rfl
        simp only [List.take_succ_cons, List.take_zero, List.drop_succ_cons, List.drop_zero]
        refine text_done ?_
        have B4 := Lib.hid hHeld
        have HWX := Lib.hid (HWL.out.ext HEY4.out)
        obtain ⟨hwl, a, cap, hwv⟩ := HWL.out.shape
        cases hwv
        clear HEY1 HEY2 HEY3 HDY1 HDY2 HDY3 HDY4 hHeld HC HA HB HCE B0 E0
        have hl2 : wl.length ≤ 9223372036854775806 := by omega
        obtain ⟨d0, d1, d2, d3⟩ := cells4 B4.out
        go_wp2
        go_loopw [3] (fun i wr => ∃ k : Nat, k ≤ wl.length ∧ i = .int .i64 (k : Int) ∧ Hid ((wl.take k).any (hasB kl) = false) ∧ Hid (wr.heap[w.heap.size]? = some (.cells #[.int .i64 (W : Int), .int .i64 (H : Int), .slice aw wl.length cw, .slice ak nk ck] 24 (0, 0))) ∧ Hid (Ext w wr)) (fun i wr => wl.length - (intOf i).toNat)
        case atStart => exact ⟨0, Nat.zero_le _, rfl, (by rfl : _ = false), B4, HEY4⟩
        case round =>
          clear d0 d1 d2 d3 B4 HEY4 HWX
          obtain ⟨k, hk, rfl, hI, hb, hE⟩ := hrel
          obtain ⟨d0, d1, d2, d3⟩ := cells4 hb.out
          by_cases hlt : k < wl.length
          · obtain ⟨b, off, x, rfl, hx, hcx⟩ := (HWL.out.ext hE.out).at hlt
            have HQ := Lib.hid (has_q _ kl x wr (HKL.out.ext hE.out))
            have HX := Lib.hid hx
            have hka : (0 : Int) ≤ (k : Int) := by omega
            have hkb : (k : Int) < (wl.length : Int) := by omega
            have ht : (k : Int).toNat = k := by omega
            have HAN := Lib.hid (show (wl.take (k + 1)).any (hasB kl) = hasB kl x from by rw [take_snoc hx, List.any_append, hI.out]; simp)
            clear hx
            generalize hasB kl x = c at *
            cases c
            · go_wp2
              go_quiet (exact HQ.out _)
              go_wp2
              go_roundw
              case rel => exact ⟨k + 1, by omega, by go_num, HAN, hb, Lib.hid (hE.out.drewN _)⟩
              case measure => simp [intOf]; omega
            · have HYE := Lib.hid (show r = 11 from by
                rw [HRR.out, if_pos]
                rw [List.any_eq_true]
                have := HAN.out
                rw [List.any_eq_true] at this
                obtain ⟨y, hy, h2⟩ := this
                exact ⟨y, List.mem_of_mem_take hy, h2⟩)
              go_wp2
              go_quiet (exact HQ.out _)
              go_wp2
              go_ret
              exact ⟨ret_int HYE.out.symm, hE.out.drewN _⟩
          · obtain rfl : k = wl.length := by omega
            have HYE := Lib.hid (show r = 0 from by rw [HRR.out, if_neg]; have := hI.out; rw [List.take_of_length_le (Nat.le_refl _)] at this; rw [this]; simp)
            go_wp2
            go_ret
            exact ⟨ret_int HYE.out.symm, hE.out⟩
  · have HNO := Lib.hid (show r = 3 from by rw [HR.out]; unfold chkP; rw [if_pos hin])
    have hq : ∃ q1 q2 q3 q4 : Bool, decide (W < 1) = q1 ∧ decide (8 < W) = q2 ∧ decide (H < 1) = q3 ∧ decide (8 < H) = q4 ∧ (q1 || q2 || q3 || q4) = true := ⟨_, _, _, _, rfl, rfl, rfl, rfl, (by simp; omega)⟩
    obtain ⟨q1, q2, q3, q4, hq1, hq2, hq3, hq4, hqq⟩ := hq
    clear HR hin
    go_enter Tryz.func36, Tryz.ntmps36
    go_upto_region 1 with fail
    rw [← hw1]
    clear hw1
    cases q1 <;> cases q2 <;> cases q3 <;> cases q4 <;> first
      | (exfalso; revert hqq; decide)
      | (go_wp2
         go_ret
         exact ⟨ret_int HNO.out.symm, E0.out⟩)
end Go.Proofs.YtppjnpempgpkaaaGreat
