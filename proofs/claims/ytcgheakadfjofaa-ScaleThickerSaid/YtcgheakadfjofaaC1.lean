/- The reference's Long, IsLog, CheckRule, by their contracts. -/
import Derived.Test.YtcgheakadfjofaaB9
import Derived.Test.YtcgheakadfjofaaZ3
namespace Go.Proofs.Ytcgheakadfjofaa
open Go.RowKit
set_option linter.unusedVariables false
set_option linter.unusedSimpArgs false
theorem long43 (a : Option Addr) (n cap : Nat) (vb : Value) (w : World) (hn : n ≤ 5000) : Calls Try.prog 43 #[.agg #[.slice a n cap, vb]] w fun e w' => e = .returned (.int .i64 ((n : Int) - 1)) ∧ Ext w w' := by
  have hw : IntKind.i64.wrap ((n : Int) - 1) = (n : Int) - 1 := wrapi64 _ (by omega) (by omega)
  go_enter Try.func43, Try.ntmps43
  go_wp2
  go_ret
  exact ⟨rfl, (Ext.refl w).alloc _⟩
theorem lieB_iff {th : List Int} {i j : Int} : lieB th i j = true ↔ 0 ≤ i ∧ i < j ∧ j ≤ (th.length : Int) - 1 := by
  simp [lieB, inn]; omega
set_option maxRecDepth 100000 in
set_option maxHeartbeats 4000000 in
theorem islog54 (vt vb : Value) (th : List Int) (i j : Int) (w : World) (ht : Reads w vt th) :
    Calls Try.prog 54 #[.agg #[vt, vb], .agg #[.int .i64 i, .int .i64 j]] w fun e w' => e = .returned (.bool (lieB th i j)) ∧ Ext w w' := by
  obtain ⟨hl, a, cap, rfl⟩ := ht.shape
  have hlie := lieB_iff (th := th) (i := i) (j := j)
  obtain ⟨n, hn⟩ : ∃ n, n = th.length := ⟨_, rfl⟩
  rw [← hn] at hl hlie ⊢
  generalize lieB th i j = lb at *
  have HLIE := Lib.hid hlie
  have E0 := Lib.hid (Ext.alloc (Ext.alloc (Ext.refl w) (.cells #[.slice a n cap, vb] 25)) (.cells #[.int .i64 i, .int .i64 j] 29))
  have P0 := (StemAt.new w (.slice a n cap) vb 25).ext (Ext.alloc (Ext.refl _) (.cells #[.int .i64 i, .int .i64 j] 29))
  obtain ⟨s0, s1⟩ := P0
  have l0 : ((w.alloc (.cells #[.slice a n cap, vb] 25)).alloc (.cells #[.int .i64 i, .int .i64 j] 29)).cell? ⟨w.heap.size + 1, 0, none⟩ = some (.int .i64 i) := World.cell?_alloc_at _ _ _ _ (by simp)
  have l1 : ((w.alloc (.cells #[.slice a n cap, vb] 25)).alloc (.cells #[.int .i64 i, .int .i64 j] 29)).cell? ⟨w.heap.size + 1, 1, none⟩ = some (.int .i64 j) := World.cell?_alloc_at _ _ _ _ (by simp)
  have HKP := Lib.hid (show ∀ X X' : World, (fun X : World => X.cell? ⟨w.heap.size, 0, none⟩ = some (.slice a n cap) ∧ X.cell? ⟨w.heap.size, 1, none⟩ = some (vb) ∧ X.cell? ⟨w.heap.size + 1, 0, none⟩ = some (.int .i64 i) ∧ X.cell? ⟨w.heap.size + 1, 1, none⟩ = some (.int .i64 j) ∧ Hid (Ext w X)) X → Ext X X' → (fun X : World => X.cell? ⟨w.heap.size, 0, none⟩ = some (.slice a n cap) ∧ X.cell? ⟨w.heap.size, 1, none⟩ = some (vb) ∧ X.cell? ⟨w.heap.size + 1, 0, none⟩ = some (.int .i64 i) ∧ X.cell? ⟨w.heap.size + 1, 1, none⟩ = some (.int .i64 j) ∧ Hid (Ext w X)) X' from fun X X' h hb => ⟨cell_ext hb h.1, cell_ext hb h.2.1, cell_ext hb h.2.2.1, cell_ext hb h.2.2.2.1, Lib.hid (Ext.trans h.2.2.2.2.out hb)⟩)
  clear hlie hn ht
  by_cases h1 : 0 ≤ i
  · have d1 : decide (0 ≤ i) = true := decide_eq_true h1
    by_cases h2 : i < j
    · have d2 : decide (i < j) = true := decide_eq_true h2
      go_enter Try.func54, Try.ntmps54
      go_wp2
      refine wp_region_order (fun X : World => X.cell? ⟨w.heap.size, 0, none⟩ = some (.slice a n cap) ∧ X.cell? ⟨w.heap.size, 1, none⟩ = some (vb) ∧ X.cell? ⟨w.heap.size + 1, 0, none⟩ = some (.int .i64 i) ∧ X.cell? ⟨w.heap.size + 1, 1, none⟩ = some (.int .i64 j) ∧ Hid (Ext w X)) [0, 1, 2, 3, 4, 5, 6, 7, 8, 9, 10, 11, 12, 13, 14, 15, 16, 17] (by kernel_rfl) (by kernel_rfl) (by exact ⟨s0, s1, l0, l1, Lib.hid E0.out.drew⟩) (fun hHeld => ?_)
      simp only [opsIn, List.filterMap_cons, List.filterMap_nil, List.getElem?_toArray, List.getElem?_cons_succ, List.getElem?_cons_zero]
      refine' text_chunk 14 (by kernel_rfl) hHeld ?ck1 ?cr1
      case ck1 =>
        intro W hSw
        have hSW := hSw
        try dsimp only at hSW
        clear hSw
        simp only [List.take_succ_cons, List.take_zero, List.drop_succ_cons, List.drop_zero]
        repeat (go_big_quiet_step (fail))
        exact wpQuiet_nil rfl
      simp only [List.take_succ_cons, List.take_zero, List.drop_succ_cons, List.drop_zero]
      refine text_call (by rfl) (by rfl) (fun K hK => ?_)
      go_simp
      (go_at_call 43; refine (long43 a n cap vb _ (by omega)).mono ?_; rintro e w5 ⟨rfl, hb⟩)
      all_goals (try (go_wp2_with fail))
      refine hK.out _ _ (by exact HKP.out _ _ hHeld hb) (fun hHeld => ?_)
      clear hK K
      try simp only [Act.put, List.setIfInBounds_toArray, List.set_cons_zero, List.set_cons_succ]
      refine' text_chunk 3 (by kernel_rfl) hHeld ?ck2 ?cr2
      case ck2 =>
        intro W hSw
        have hSW := hSw
        try dsimp only at hSW
        clear hSw
        simp only [List.take_succ_cons, List.take_zero, List.drop_succ_cons, List.drop_zero]
        repeat (go_big_quiet_step (fail))
        exact wpQuiet_nil rfl
      simp only [List.take_succ_cons, List.take_zero, List.drop_succ_cons, List.drop_zero]
      refine text_done ?_
      have HL := hHeld.2.2.2.2
      clear hHeld
      go_wp2
      go_ret
      refine ⟨ret_bool ?_, HL.out⟩
      rw [Bool.eq_iff_iff, HLIE.out]; simp; omega
    · have d2 : decide (i < j) = false := decide_eq_false h2
      go_enter Try.func54, Try.ntmps54
      go_wp2
      refine wp_region_order (fun X : World => X.cell? ⟨w.heap.size, 0, none⟩ = some (.slice a n cap) ∧ X.cell? ⟨w.heap.size, 1, none⟩ = some (vb) ∧ X.cell? ⟨w.heap.size + 1, 0, none⟩ = some (.int .i64 i) ∧ X.cell? ⟨w.heap.size + 1, 1, none⟩ = some (.int .i64 j) ∧ Hid (Ext w X)) [0, 1, 2, 3, 4, 5, 6, 7, 8, 9, 10, 11, 12, 13, 14, 15, 16, 17] (by kernel_rfl) (by kernel_rfl) (by exact ⟨s0, s1, l0, l1, Lib.hid E0.out.drew⟩) (fun hHeld => ?_)
      simp only [opsIn, List.filterMap_cons, List.filterMap_nil, List.getElem?_toArray, List.getElem?_cons_succ, List.getElem?_cons_zero]
      refine' text_chunk 14 (by kernel_rfl) hHeld ?ck3 ?cr3
      case ck3 =>
        intro W hSw
        have hSW := hSw
        try dsimp only at hSW
        clear hSw
        simp only [List.take_succ_cons, List.take_zero, List.drop_succ_cons, List.drop_zero]
        repeat (go_big_quiet_step (fail))
        exact wpQuiet_nil rfl
      simp only [List.take_succ_cons, List.take_zero, List.drop_succ_cons, List.drop_zero]
      refine text_skip (by rfl) ?_
      try simp only [Act.put, List.setIfInBounds_toArray, List.set_cons_zero, List.set_cons_succ]
      refine' text_chunk 3 (by kernel_rfl) hHeld ?ck4 ?cr4
      case ck4 =>
        intro W hSw
        have hSW := hSw
        try dsimp only at hSW
        clear hSw
        simp only [List.take_succ_cons, List.take_zero, List.drop_succ_cons, List.drop_zero]
        repeat (go_big_quiet_step (fail))
        exact wpQuiet_nil rfl
      simp only [List.take_succ_cons, List.take_zero, List.drop_succ_cons, List.drop_zero]
      refine text_done ?_
      have HL := hHeld.2.2.2.2
      clear hHeld
      go_wp2
      go_ret
      refine ⟨ret_bool ?_, HL.out⟩
      cases lb with
      | false => rfl
      | true => exfalso; have := HLIE.out.1 rfl; omega
  · have d1 : decide (0 ≤ i) = false := decide_eq_false h1
    go_enter Try.func54, Try.ntmps54
    go_wp2
    refine wp_region_order (fun X : World => X.cell? ⟨w.heap.size, 0, none⟩ = some (.slice a n cap) ∧ X.cell? ⟨w.heap.size, 1, none⟩ = some (vb) ∧ X.cell? ⟨w.heap.size + 1, 0, none⟩ = some (.int .i64 i) ∧ X.cell? ⟨w.heap.size + 1, 1, none⟩ = some (.int .i64 j) ∧ Hid (Ext w X)) [0, 1, 2, 3, 4, 5, 6, 7, 8, 9, 10, 11, 12, 13, 14, 15, 16, 17] (by kernel_rfl) (by kernel_rfl) (by exact ⟨s0, s1, l0, l1, Lib.hid E0.out.drew⟩) (fun hHeld => ?_)
    simp only [opsIn, List.filterMap_cons, List.filterMap_nil, List.getElem?_toArray, List.getElem?_cons_succ, List.getElem?_cons_zero]
    refine' text_chunk 14 (by kernel_rfl) hHeld ?ck5 ?cr5
    case ck5 =>
      intro W hSw
      have hSW := hSw
      try dsimp only at hSW
      clear hSw
      simp only [List.take_succ_cons, List.take_zero, List.drop_succ_cons, List.drop_zero]
      repeat (go_big_quiet_step (fail))
      exact wpQuiet_nil rfl
    simp only [List.take_succ_cons, List.take_zero, List.drop_succ_cons, List.drop_zero]
    refine text_skip (by rfl) ?_
    try simp only [Act.put, List.setIfInBounds_toArray, List.set_cons_zero, List.set_cons_succ]
    refine' text_chunk 3 (by kernel_rfl) hHeld ?ck6 ?cr6
    case ck6 =>
      intro W hSw
      have hSW := hSw
      try dsimp only at hSW
      clear hSw
      simp only [List.take_succ_cons, List.take_zero, List.drop_succ_cons, List.drop_zero]
      repeat (go_big_quiet_step (fail))
      exact wpQuiet_nil rfl
    simp only [List.take_succ_cons, List.take_zero, List.drop_succ_cons, List.drop_zero]
    refine text_done ?_
    have HL := hHeld.2.2.2.2
    clear hHeld
    go_wp2
    go_ret
    refine ⟨ret_bool ?_, HL.out⟩
    cases lb with
    | false => rfl
    | true => exfalso; have := HLIE.out.1 rfl; omega
set_option maxRecDepth 100000 in
set_option maxHeartbeats 4000000 in
theorem refrule23 (r : Rl) (w : World) : Calls Try.prog 23 #[r.val] w fun e w' => e = .returned (.int .i64 (ruleE r)) ∧ Ext w w' := by
  obtain ⟨res, hres⟩ : ∃ res, res = ruleE r := ⟨_, rfl⟩
  rw [← hres]
  have E0 := Lib.hid ((Ext.refl w).alloc (.cells #[.int .i64 r.lo, .int .i64 r.hi, .int .i64 r.st, .int .i64 r.tr, .int .i64 r.off, .int .i64 r.dv, .int .i64 r.tn] 27))
  have R0 := Lib.hid (RuleAt.new w r 27)
  have h1 := fun (W : World) => refwithin60 r.off 0 20 W
  have h2 := fun (W : World) => refwithin60 r.dv 1 100 W
  have h3 := fun (W : World) => refwithin60 r.tn 0 60 W
  obtain ⟨b1, hb1⟩ : ∃ b1, b1 = (decide (0 ≤ r.off) && decide (r.off ≤ 20)) := ⟨_, rfl⟩
  obtain ⟨b2, hb2⟩ : ∃ b2, b2 = (decide (1 ≤ r.dv) && decide (r.dv ≤ 100)) := ⟨_, rfl⟩
  obtain ⟨b3, hb3⟩ : ∃ b3, b3 = (decide (0 ≤ r.tn) && decide (r.tn ≤ 60)) := ⟨_, rfl⟩
  rw [← hb1] at h1; rw [← hb2] at h2; rw [← hb3] at h3
  have e1 : b1 = true ↔ 0 ≤ r.off ∧ r.off ≤ 20 := by rw [hb1]; simp
  have e2 : b2 = true ↔ 1 ≤ r.dv ∧ r.dv ≤ 100 := by rw [hb2]; simp
  have e3 : b3 = true ↔ 0 ≤ r.tn ∧ r.tn ≤ 60 := by rw [hb3]; simp
  have HR := Lib.hid hres; have X1 := Lib.hid e1; have X2 := Lib.hid e2; have X3 := Lib.hid e3
  clear hres hb1 hb2 hb3 e1 e2 e3
  by_cases q0 : r.lo < 1
  · have H1 := Lib.hid h1; have H2 := Lib.hid h2; have H3 := Lib.hid h3
    clear h1 h2 h3
    go_enter Try.func23, Try.ntmps23
    have ⟨g0, g1, g2, g3, g4, g5, g6⟩ := R0.out
    have p0 : decide (r.lo < 1) = true := decide_eq_true q0
    go_wp2
    go_ret
    exact ⟨ret_int (by rw [HR.out]; unfold ruleE; rw [if_neg (by omega)]), E0.out⟩
  · have p0 : decide (r.lo < 1) = false := decide_eq_false q0
    by_cases q1 : r.hi < r.lo
    · have H1 := Lib.hid h1; have H2 := Lib.hid h2; have H3 := Lib.hid h3
      clear h1 h2 h3
      go_enter Try.func23, Try.ntmps23
      have ⟨g0, g1, g2, g3, g4, g5, g6⟩ := R0.out
      have p1 : decide (r.hi < r.lo) = true := decide_eq_true q1
      go_wp2
      go_ret
      exact ⟨ret_int (by rw [HR.out]; unfold ruleE; rw [if_neg (by omega)]), E0.out⟩
    · have p1 : decide (r.hi < r.lo) = false := decide_eq_false q1
      by_cases q2 : 60 < r.hi
      · have H1 := Lib.hid h1; have H2 := Lib.hid h2; have H3 := Lib.hid h3
        clear h1 h2 h3
        go_enter Try.func23, Try.ntmps23
        have ⟨g0, g1, g2, g3, g4, g5, g6⟩ := R0.out
        have p2 : decide (60 < r.hi) = true := decide_eq_true q2
        go_wp2
        go_ret
        exact ⟨ret_int (by rw [HR.out]; unfold ruleE; rw [if_neg (by omega)]), E0.out⟩
      · have p2 : decide (60 < r.hi) = false := decide_eq_false q2
        by_cases q3 : r.st < 1
        · have H1 := Lib.hid h1; have H2 := Lib.hid h2; have H3 := Lib.hid h3
          clear h1 h2 h3
          go_enter Try.func23, Try.ntmps23
          have ⟨g0, g1, g2, g3, g4, g5, g6⟩ := R0.out
          have p3 : decide (r.st < 1) = true := decide_eq_true q3
          go_wp2
          go_ret
          exact ⟨ret_int (by rw [HR.out]; unfold ruleE; rw [if_neg (by omega)]), E0.out⟩
        · have p3 : decide (r.st < 1) = false := decide_eq_false q3
          by_cases q4 : 10 < r.st
          · have H1 := Lib.hid h1; have H2 := Lib.hid h2; have H3 := Lib.hid h3
            clear h1 h2 h3
            go_enter Try.func23, Try.ntmps23
            have ⟨g0, g1, g2, g3, g4, g5, g6⟩ := R0.out
            have p4 : decide (10 < r.st) = true := decide_eq_true q4
            go_wp2
            go_ret
            exact ⟨ret_int (by rw [HR.out]; unfold ruleE; rw [if_neg (by omega)]), E0.out⟩
          · have p4 : decide (10 < r.st) = false := decide_eq_false q4
            by_cases q5 : r.tr < 0
            · have H1 := Lib.hid h1; have H2 := Lib.hid h2; have H3 := Lib.hid h3
              clear h1 h2 h3
              go_enter Try.func23, Try.ntmps23
              have ⟨g0, g1, g2, g3, g4, g5, g6⟩ := R0.out
              have p5 : decide (r.tr < 0) = true := decide_eq_true q5
              go_wp2
              go_ret
              exact ⟨ret_int (by rw [HR.out]; unfold ruleE; rw [if_neg (by omega)]), E0.out⟩
            · have p5 : decide (r.tr < 0) = false := decide_eq_false q5
              by_cases q6 : 5 < r.tr
              · have H1 := Lib.hid h1; have H2 := Lib.hid h2; have H3 := Lib.hid h3
                clear h1 h2 h3
                go_enter Try.func23, Try.ntmps23
                have ⟨g0, g1, g2, g3, g4, g5, g6⟩ := R0.out
                have p6 : decide (5 < r.tr) = true := decide_eq_true q6
                go_wp2
                go_ret
                exact ⟨ret_int (by rw [HR.out]; unfold ruleE; rw [if_neg (by omega)]), E0.out⟩
              · have p6 : decide (5 < r.tr) = false := decide_eq_false q6
                cases b1
                · have H1 := Lib.hid h1; have H2 := Lib.hid h2; have H3 := Lib.hid h3
                  clear h1 h2 h3
                  go_enter Try.func23, Try.ntmps23
                  have ⟨g0, g1, g2, g3, g4, g5, g6⟩ := R0.out
                  go_wp2_with fail
                  refine (H1.out _).mono ?_
                  rintro e w1 ⟨rfl, rfl⟩
                  go_wp2
                  go_ret
                  exact ⟨ret_int (by rw [HR.out]; unfold ruleE; rw [if_neg (fun h => by have := X1.out.2 (by omega); simp at this)]), E0.out⟩
                · cases b2
                  · have H1 := Lib.hid h1; have H2 := Lib.hid h2; have H3 := Lib.hid h3
                    clear h1 h2 h3
                    go_enter Try.func23, Try.ntmps23
                    have ⟨g0, g1, g2, g3, g4, g5, g6⟩ := R0.out
                    go_wp2_with fail
                    refine (H1.out _).mono ?_
                    rintro e w1 ⟨rfl, rfl⟩
                    go_wp2_with fail
                    refine (H2.out _).mono ?_
                    rintro e w1 ⟨rfl, rfl⟩
                    go_wp2
                    go_ret
                    exact ⟨ret_int (by rw [HR.out]; unfold ruleE; rw [if_neg (fun h => by have := X2.out.2 (by omega); simp at this)]), E0.out⟩
                  · cases b3
                    · have H1 := Lib.hid h1; have H2 := Lib.hid h2; have H3 := Lib.hid h3
                      clear h1 h2 h3
                      go_enter Try.func23, Try.ntmps23
                      have ⟨g0, g1, g2, g3, g4, g5, g6⟩ := R0.out
                      go_wp2_with fail
                      refine (H1.out _).mono ?_
                      rintro e w1 ⟨rfl, rfl⟩
                      go_wp2_with fail
                      refine (H2.out _).mono ?_
                      rintro e w1 ⟨rfl, rfl⟩
                      go_wp2_with fail
                      refine (H3.out _).mono ?_
                      rintro e w1 ⟨rfl, rfl⟩
                      go_wp2
                      go_ret
                      exact ⟨ret_int (by rw [HR.out]; unfold ruleE; rw [if_neg (fun h => by have := X3.out.2 (by omega); simp at this)]), E0.out⟩
                    · have H1 := Lib.hid h1; have H2 := Lib.hid h2; have H3 := Lib.hid h3
                      clear h1 h2 h3
                      go_enter Try.func23, Try.ntmps23
                      have ⟨g0, g1, g2, g3, g4, g5, g6⟩ := R0.out
                      go_wp2_with fail
                      refine (H1.out _).mono ?_
                      rintro e w1 ⟨rfl, rfl⟩
                      go_wp2_with fail
                      refine (H2.out _).mono ?_
                      rintro e w1 ⟨rfl, rfl⟩
                      go_wp2_with fail
                      refine (H3.out _).mono ?_
                      rintro e w1 ⟨rfl, rfl⟩
                      go_wp2
                      go_ret
                      exact ⟨ret_int (by rw [HR.out]; unfold ruleE; rw [if_pos (by have h1 := X1.out; have h2 := X2.out; have h3 := X3.out; simp only [eq_self_iff_true, decide_eq_true_eq, true_iff, reduceCtorEq, false_iff] at h1 h2 h3; omega)]), E0.out⟩
end Go.Proofs.Ytcgheakadfjofaa
