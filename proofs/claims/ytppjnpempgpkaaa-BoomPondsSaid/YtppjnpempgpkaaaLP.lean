/- BoomPonds, by its contract. -/
import Derived.Test.YtppjnpempgpkaaaS6
import Derived.Test.YtppjnpempgpkaaaRA
import Derived.Test.YtppjnpempgpkaaaR2
import Derived.Test.YtppjnpempgpkaaaJ3
import Derived.Test.YtppjnpempgpkaaaH7
import Derived.Test.YtppjnpempgpkaaaH6
import Derived.Test.YtppjnpempgpkaaaN3
import Derived.Test.YtppjnpempgpkaaaK1
namespace Go.Proofs.Ytppjnpempgpkaaa
open Go.RowKit Go.Shelf
set_option linter.unusedVariables false
set_option linter.unusedSimpArgs false
attribute [local go_sem] Oper.semAt_some

theorem lst_cases {n : Nat} {xs : List Int} : lstB n xs = false ∨ ∃ ns, xs = natI ns ∧ Lst n ns := by
  cases h : lstB n xs with
  | false => exact .inl rfl
  | true => exact .inr (lstB_iff.1 h)
theorem sticks_any (W H : Int) (nw cw nk ck : Nat) (aw ak : Option Addr) (wl kl xl : List Int) (v : Value) (w : World) (hw : Reads w (.slice aw nw cw) wl) (hk : Reads w (.slice ak nk ck) kl) (hx : Reads w v xl) : ∃ a r : Int, (∀ X : World, Ext w X → Calls Try.prog 14 #[.agg #[.int .i64 W, .int .i64 H, .slice aw nw cw, .slice ak nk ck], v] X fun e w' => e = .returned (.tuple #[.int .i64 a, .int .i64 r]) ∧ Ext X w') ∧ (∀ X : World, Ext w X → Calls Try.prog 15 #[.agg #[.int .i64 W, .int .i64 H, .slice aw nw cw, .slice ak nk ck], v] X fun e w' => e = .returned (.tuple #[.int .i64 a, .int .i64 r]) ∧ Ext X w') := by
  by_cases h0 : chkP W H wl kl = 0
  · obtain ⟨W', H', wn, kn, ⟨rfl, rfl⟩, ⟨rfl, rfl⟩, hv⟩ := chkP_ok.1 h0
    rcases lst_cases (n := W' * H') (xs := xl) with hb | ⟨ns, rfl, hl⟩
    · exact ⟨0, 2, fun X h => sticks_bad W' H' nw cw nk ck aw ak wn kn hv v X (hw.ext h) (hk.ext h) xl (hx.ext h) hb, fun X h => rsticks_bad W' H' nw cw nk ck aw ak wn kn hv v X (hw.ext h) (hk.ext h) xl (hx.ext h) hb⟩
    · exact ⟨_, _, fun X h => sticks_ok W' H' nw cw nk ck aw ak wn kn hv v X (hw.ext h) (hk.ext h) ns hl (hx.ext h), fun X h => rsticks_ok W' H' nw cw nk ck aw ak wn kn hv v X (hw.ext h) (hk.ext h) ns hl (hx.ext h)⟩
  · exact ⟨0, _, fun X h => sticks_no W H nw cw nk ck aw ak wl kl X (hw.ext h) (hk.ext h) h0 v, fun X h => rsticks_no W H nw cw nk ck aw ak wl kl X (hw.ext h) (hk.ext h) h0 v⟩
set_option maxRecDepth 100000 in
set_option maxHeartbeats 4000000 in
theorem ponds_c (W H : Int) (aw ak ax : Option Addr) (cw ck cx : Nat) (wl kl xl : List Int) (w : World) (hw : wl.length ≤ 5000 → Reads w (.slice aw wl.length cw) wl) (hk : kl.length ≤ 5000 → Reads w (.slice ak kl.length ck) kl) (hx : xl.length ≤ 5000 → Reads w (.slice ax xl.length cx) xl) (hx63 : xl.length ≤ 9223372036854775807) :
    Calls Try.prog 3 #[.agg #[.int .i64 W, .int .i64 H, .slice aw wl.length cw, .slice ak kl.length ck], .slice ax xl.length cx] w fun e w' => e = .returned (.bool true) ∧ Ext w w' := by
  obtain ⟨nw, hnw⟩ : ∃ n, n = wl.length := ⟨_, rfl⟩
  obtain ⟨nk, hnk⟩ : ∃ n, n = kl.length := ⟨_, rfl⟩
  obtain ⟨nx, hnx⟩ : ∃ n, n = xl.length := ⟨_, rfl⟩
  rw [← hnw] at hw ⊢
  rw [← hnk] at hk ⊢
  rw [← hnx] at hx hx63 ⊢
  have HW := Lib.hid hw; have HK := Lib.hid hk; have HX := Lib.hid hx
  clear hw hk hx hnw hnk hnx
  obtain ⟨w1, hw1⟩ : ∃ w1, w1 = w.alloc (.cells #[.int .i64 W, .int .i64 H, .slice aw nw cw, .slice ak nk ck] 24) := ⟨_, rfl⟩
  have HE := Lib.hid (show Ext w w1 from by rw [hw1]; exact (Ext.refl w).alloc _)
  have B0 := Lib.hid (show w1.heap[w.heap.size]? = some (.cells #[.int .i64 W, .int .i64 H, .slice aw nw cw, .slice ak nk ck] 24 (0, 0)) from by rw [hw1]; exact heap_alloc_new w _)
  obtain ⟨q, hq⟩ : ∃ q, q = (decide (70 < nw) || decide (70 < nk)) := ⟨_, rfl⟩
  have HG := Lib.hid (show ∀ X : World, Calls Try.prog 12 #[.agg #[.int .i64 W, .int .i64 H, .slice aw nw cw, .slice ak nk ck]] X fun e w' => e = .returned (.bool q) ∧ Ext X w' from fun X => by rw [hq]; exact great_c W H nw cw nk ck aw ak X)
  have HQ := Lib.hid hq
  clear hq
  obtain ⟨z0, z1, z2, z3⟩ := cells4 B0.out
  go_enter Try.func3, Try.ntmps3
  go_upto_region 1 with fail
  rw [← hw1]
  clear hw1
  go_wp2_with fail
  refine (HG.out _).mono ?_
  rintro e w2 ⟨rfl, h2⟩
  have HE := Lib.hid (HE.out.trans h2); have B0 := Lib.hid (block_ext h2 B0.out)
  clear h2 z0 z1 z2 z3
  cases q
  · by_cases hx70 : 70 < nx
    · have hxi : (70 : Int) < (nx : Int) := by omega
      go_wp2_with fail
      refine (works_c _).mono ?_
      rintro e wz ⟨rfl, hz⟩
      go_wp2
      go_ret
      exact ⟨rfl, HE.out.trans hz⟩
    · have hxi : ¬ (70 : Int) < (nx : Int) := by omega
      have h7 : nw ≤ 70 ∧ nk ≤ 70 := by
        have := HQ.out.symm
        rw [Bool.or_eq_false_iff, decide_eq_false_iff_not, decide_eq_false_iff_not] at this
        omega
      have hw := HW.out (by omega); have hk := HK.out (by omega); have hx := HX.out (by omega)
      obtain ⟨a, r, h1, h2⟩ := sticks_any W H nw cw nk ck aw ak wl kl xl _ w hw hk hx
      have H1 := Lib.hid h1; have H2 := Lib.hid h2
      have HC1 := Lib.hid (fun (X : World) (h : Ext w X) => checkPond_c W H nw cw nk ck aw ak wl kl X (hw.ext h) (hk.ext h))
      have HC2 := Lib.hid (fun (X : World) (h : Ext w X) => rcheckPond_c W H nw cw nk ck aw ak wl kl X (hw.ext h) (hk.ext h))
      generalize chkP W H wl kl = cp at *
      clear h1 h2 hw hk hx h7
      obtain ⟨z0, z1, z2, z3⟩ := cells4 B0.out
      go_wp2_with fail
      refine (H1.out _ HE.out).mono ?_
      rintro e w3 ⟨rfl, h2⟩
      have HE := Lib.hid (HE.out.trans h2); have B0 := Lib.hid (block_ext h2 B0.out)
      clear h2 z0 z1 z2 z3
      obtain ⟨z0, z1, z2, z3⟩ := cells4 B0.out
      go_wp2_with fail
      refine (H2.out _ HE.out).mono ?_
      rintro e w4 ⟨rfl, h2⟩
      have HE := Lib.hid (HE.out.trans h2); have B0 := Lib.hid (block_ext h2 B0.out)
      clear h2 z0 z1 z2 z3
      go_upto_region 5 with fail
      have HE := Lib.hid HE.out.drew
      refine wp_region_order ((fun Y : World => Y.heap[w.heap.size]? = some (.cells #[.int .i64 W, .int .i64 H, .slice aw nw cw, .slice ak nk ck] 24 (0, 0)))) [0, 2, 1, 3, 4, 5, 6, 7, 8, 9, 10, 11, 12, 13, 14, 15, 16, 17, 18] (by kernel_rfl) (by kernel_rfl) (by exact B0.out) (fun hHeld => ?_)
      simp only [opsIn, List.filterMap_cons, List.filterMap_nil, List.getElem?_toArray, List.getElem?_cons_succ, List.getElem?_cons_zero]
      refine' text_chunk 2 (by kernel_rfl) hHeld ?ck1 ?cr1
      case ck1 =>
        intro W hSw
        have hSW := hSw
        try dsimp only at hSW
        clear hSw
        obtain ⟨z0, z1, z2, z3⟩ := cells4 hSW
        simp only [List.take_succ_cons, List.take_zero, List.drop_succ_cons, List.drop_zero]
        repeat (go_big_quiet_step (fail))
        exact wpQuiet_nil rfl
      simp only [List.take_succ_cons, List.take_zero, List.drop_succ_cons, List.drop_zero]
      refine text_call (by rfl) (by rfl) (fun K hK => ?_)
      go_simp
      refine (HC1.out _ HE.out).mono ?_
      intro e w5 h1; obtain ⟨h1, h2⟩ := h1; subst h1
      have HE := Lib.hid (HE.out.trans h2); have Xw5 := Lib.hid h2
      clear h2
      all_goals (try (go_wp2_with fail))
      refine hK.out _ _ (by exact block_ext Xw5.out hHeld) (fun hHeld => ?_)
      clear hK K
      try simp only [Act.put, List.setIfInBounds_toArray, List.set_cons_zero, List.set_cons_succ]
      refine text_call (by rfl) (by rfl) (fun K hK => ?_)
      go_simp
      refine (HC2.out _ HE.out).mono ?_
      intro e w6 h1; obtain ⟨h1, h2⟩ := h1; subst h1
      have HE := Lib.hid (HE.out.trans h2); have Xw6 := Lib.hid h2
      clear h2
      all_goals (try (go_wp2_with fail))
      refine hK.out _ _ (by exact block_ext Xw6.out hHeld) (fun hHeld => ?_)
      clear hK K
      try simp only [Act.put, List.setIfInBounds_toArray, List.set_cons_zero, List.set_cons_succ]
      refine' text_chunk 12 (by kernel_rfl) hHeld ?ck2 ?cr2
      case ck2 =>
        intro W hSw
        have hSW := hSw
        try dsimp only at hSW
        clear hSw
        skip
        simp only [List.take_succ_cons, List.take_zero, List.drop_succ_cons, List.drop_zero]
        repeat (go_big_quiet_step (fail))
        exact wpQuiet_nil rfl
      simp only [List.take_succ_cons, List.take_zero, List.drop_succ_cons, List.drop_zero]
      refine text_call (by rfl) (by rfl) (fun K hK => ?_)
      go_simp
      refine (works_c _).mono ?_
      intro e w7 h1; obtain ⟨h1, h2⟩ := h1; subst h1
      have HE := Lib.hid (HE.out.trans h2); have Xw7 := Lib.hid h2
      clear h2
      all_goals (try (go_wp2_with fail))
      refine hK.out _ _ (by exact block_ext Xw7.out hHeld) (fun hHeld => ?_)
      clear hK K
      try simp only [Act.put, List.setIfInBounds_toArray, List.set_cons_zero, List.set_cons_succ]
      refine' text_chunk 2 (by kernel_rfl) hHeld ?ck3 ?cr3
      case ck3 =>
        intro W hSw
        have hSW := hSw
        try dsimp only at hSW
        clear hSw
        skip
        simp only [List.take_succ_cons, List.take_zero, List.drop_succ_cons, List.drop_zero]
        repeat (go_big_quiet_step (fail))
        exact wpQuiet_nil rfl
      simp only [List.take_succ_cons, List.take_zero, List.drop_succ_cons, List.drop_zero]
      refine text_done ?_
      go_wp2
      go_ret
      exact ⟨rfl, HE.out⟩
  · go_wp2_with fail
    refine (works_c _).mono ?_
    rintro e wz ⟨rfl, hz⟩
    go_wp2
    go_ret
    exact ⟨rfl, HE.out.trans hz⟩
end Go.Proofs.Ytppjnpempgpkaaa
