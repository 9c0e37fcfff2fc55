/- lies, isAny, isWaste, worth, isBest, by their contracts. -/
import Derived.Test.YtcgheakadfjofaaB7
namespace Go.Proofs.Ytcgheakadfjofaa
open Go.RowKit
set_option linter.unusedVariables false
set_option linter.unusedSimpArgs false
/-- A log has two places. -/
def lieB (th : List Int) (i j : Int) : Bool := inn 0 ((th.length : Int) - 1) [i, j] && decide (i < j)
set_option maxRecDepth 100000 in
set_option maxHeartbeats 4000000 in
theorem lies51 (b : Nat) (vt vb : Value) (th bd : List Int) (r : Rl) (ps : List Int) (i j : Int) (w : World) (hy : YardAt w b vt vb th bd r ps) :
    Calls Try.prog 51 #[.pointer (some ⟨b, 0, none⟩), .agg #[.int .i64 i, .int .i64 j]] w fun e w' => e = .returned (.bool (lieB th i j)) ∧ Ext w w' := by
  obtain ⟨hl, a, cap, rfl⟩ := hy.th.shape
  have E0 := Lib.hid ((Ext.refl w).alloc (.cells #[.int .i64 i, .int .i64 j] 29))
  obtain ⟨c0, -⟩ := (hy.ext E0.out).cells
  have d0 : (w.alloc (.cells #[.int .i64 i, .int .i64 j] 29)).cell? ⟨w.heap.size, 0, none⟩ = some (.int .i64 i) := World.cell?_alloc_at _ _ _ _ rfl
  have d1 : (w.alloc (.cells #[.int .i64 i, .int .i64 j] 29)).cell? ⟨w.heap.size, 1, none⟩ = some (.int .i64 j) := World.cell?_alloc_at _ _ _ _ rfl
  unfold lieB
  obtain ⟨n, hn⟩ : ∃ n, n = th.length := ⟨_, rfl⟩
  rw [← hn] at c0 hl ⊢
  have h55 := fun (u : Value) (W : World) (h : Reads W u [i, j]) => within55 0 ((n : Int) - 1) u [i, j] W h
  have hw : IntKind.i64.wrap ((n : Int) - 1) = (n : Int) - 1 := wrapi64 _ (by omega) (by omega)
  clear hy hn
  generalize inn 0 ((n : Int) - 1) [i, j] = c at *
  have HKP := Lib.hid (show ∀ X X' : World, (fun X : World => X.cell? ⟨b, 0, none⟩ = some (.slice a n cap) ∧ X.cell? ⟨w.heap.size, 0, none⟩ = some (.int .i64 i) ∧ X.cell? ⟨w.heap.size, 1, none⟩ = some (.int .i64 j) ∧ Hid (Ext w X)) X → Ext X X' → (fun X : World => X.cell? ⟨b, 0, none⟩ = some (.slice a n cap) ∧ X.cell? ⟨w.heap.size, 0, none⟩ = some (.int .i64 i) ∧ X.cell? ⟨w.heap.size, 1, none⟩ = some (.int .i64 j) ∧ Hid (Ext w X)) X' from fun X X' h hb => ⟨cell_ext hb h.1, cell_ext hb h.2.1, cell_ext hb h.2.2.1, Lib.hid (Ext.trans h.2.2.2.out hb)⟩)
  have H55 := Lib.hid h55
  clear h55
  cases c
  · go_enter Try.func51, Try.ntmps51
    go_wp2
    refine wp_region_text (fun X : World => X.cell? ⟨b, 0, none⟩ = some (.slice a n cap) ∧ X.cell? ⟨w.heap.size, 0, none⟩ = some (.int .i64 i) ∧ X.cell? ⟨w.heap.size, 1, none⟩ = some (.int .i64 j) ∧ Hid (Ext w X)) (by kernel_rfl) (by kernel_rfl) (by exact ⟨c0, d0, d1, Lib.hid E0.out.drew⟩) (fun hHeld => ?_)
    simp only [List.toList_toArray]
    refine' text_chunk 5 (by kernel_rfl) hHeld ?ck1 ?cr1
    case ck1 =>
      intro W hSw
      have hSW := hSw
      try dsimp only at hSW
      clear hSw
      simp only [List.take_succ_cons, List.take_zero, List.drop_succ_cons, List.drop_zero]
      repeat (go_big_quiet_step (fail))
      exact wpQuiet_nil rfl
    simp only [List.take_succ_cons, List.take_zero, List.drop_succ_cons, List.drop_zero]
    refine' text_take (by rfl) (by rfl) ?ck2 ?cr2
    case ck2 => (intro W hSw; (try dsimp only at hSw); go_simp; all_goals with_reducible rfl)
    try simp only [Act.put, List.setIfInBounds_toArray, List.set_cons_zero, List.set_cons_succ]
    refine' text_chunk 5 (by kernel_rfl) hHeld ?ck3 ?cr3
    case ck3 =>
      intro W hSw
      have hSW := hSw
      try dsimp only at hSW
      clear hSw
      simp only [List.take_succ_cons, List.take_zero, List.drop_succ_cons, List.drop_zero]
      repeat (go_big_quiet_step (fail))
      exact wpQuiet_nil rfl
    simp only [List.take_succ_cons, List.take_zero, List.drop_succ_cons, List.drop_zero]
    refine text_call (by rfl) (by rfl) (fun K hK => ?_)
    go_simp
    all_goals (try (go_wp2_with fail))
    refine hK.out _ _ (by exact HKP.out _ _ hHeld (Ext.alloc (Ext.refl _) _)) (fun hHeld => ?_)
    clear hK K
    try simp only [Act.put, List.setIfInBounds_toArray, List.set_cons_zero, List.set_cons_succ]
    refine text_call (by rfl) (by rfl) (fun K hK => ?_)
    go_simp
    (go_at_call 55; refine (H55.out _ _ ?_).mono ?_; (exact Reads.new _ [i, j] _ _ (by simp) (by simp) _ rfl 2 2 rfl); rintro e w5 ⟨rfl, rfl⟩)
    all_goals (try (go_wp2_with fail))
    refine hK.out _ _ (by exact hHeld) (fun hHeld => ?_)
    clear hK K
    try simp only [Act.put, List.setIfInBounds_toArray, List.set_cons_zero, List.set_cons_succ]
    refine' text_chunk 8 (by kernel_rfl) hHeld ?ck4 ?cr4
    case ck4 =>
      intro W hSw
      have hSW := hSw
      try dsimp only at hSW
      clear hSw
      simp only [List.take_succ_cons, List.take_zero, List.drop_succ_cons, List.drop_zero]
      repeat (go_big_quiet_step (fail))
      exact wpQuiet_nil rfl
    simp only [List.take_succ_cons, List.take_zero, List.drop_succ_cons, List.drop_zero]
    refine text_done ?_
    have HL := hHeld.2.2.2
    clear hHeld
    go_wp2
    go_ret
    exact ⟨ret_bool (by simp), HL.out⟩
  · go_enter Try.func51, Try.ntmps51
    go_wp2
    refine wp_region_text (fun X : World => X.cell? ⟨b, 0, none⟩ = some (.slice a n cap) ∧ X.cell? ⟨w.heap.size, 0, none⟩ = some (.int .i64 i) ∧ X.cell? ⟨w.heap.size, 1, none⟩ = some (.int .i64 j) ∧ Hid (Ext w X)) (by kernel_rfl) (by kernel_rfl) (by exact ⟨c0, d0, d1, Lib.hid E0.out.drew⟩) (fun hHeld => ?_)
    simp only [List.toList_toArray]
    refine' text_chunk 5 (by kernel_rfl) hHeld ?ck5 ?cr5
    case ck5 =>
      intro W hSw
      have hSW := hSw
      try dsimp only at hSW
      clear hSw
      simp only [List.take_succ_cons, List.take_zero, List.drop_succ_cons, List.drop_zero]
      repeat (go_big_quiet_step (fail))
      exact wpQuiet_nil rfl
    simp only [List.take_succ_cons, List.take_zero, List.drop_succ_cons, List.drop_zero]
    refine' text_take (by rfl) (by rfl) ?ck6 ?cr6
    case ck6 => (intro W hSw; (try dsimp only at hSw); go_simp; all_goals with_reducible rfl)
    try simp only [Act.put, List.setIfInBounds_toArray, List.set_cons_zero, List.set_cons_succ]
    refine' text_chunk 5 (by kernel_rfl) hHeld ?ck7 ?cr7
    case ck7 =>
      intro W hSw
      have hSW := hSw
      try dsimp only at hSW
      clear hSw
      simp only [List.take_succ_cons, List.take_zero, List.drop_succ_cons, List.drop_zero]
      repeat (go_big_quiet_step (fail))
      exact wpQuiet_nil rfl
    simp only [List.take_succ_cons, List.take_zero, List.drop_succ_cons, List.drop_zero]
    refine text_call (by rfl) (by rfl) (fun K hK => ?_)
    go_simp
    all_goals (try (go_wp2_with fail))
    refine hK.out _ _ (by exact HKP.out _ _ hHeld (Ext.alloc (Ext.refl _) _)) (fun hHeld => ?_)
    clear hK K
    try simp only [Act.put, List.setIfInBounds_toArray, List.set_cons_zero, List.set_cons_succ]
    refine text_call (by rfl) (by rfl) (fun K hK => ?_)
    go_simp
    (go_at_call 55; refine (H55.out _ _ ?_).mono ?_; (exact Reads.new _ [i, j] _ _ (by simp) (by simp) _ rfl 2 2 rfl); rintro e w5 ⟨rfl, rfl⟩)
    all_goals (try (go_wp2_with fail))
    refine hK.out _ _ (by exact hHeld) (fun hHeld => ?_)
    clear hK K
    try simp only [Act.put, List.setIfInBounds_toArray, List.set_cons_zero, List.set_cons_succ]
    refine' text_chunk 8 (by kernel_rfl) hHeld ?ck8 ?cr8
    case ck8 =>
      intro W hSw
      have hSW := hSw
      try dsimp only at hSW
      clear hSw
      simp only [List.take_succ_cons, List.take_zero, List.drop_succ_cons, List.drop_zero]
      repeat (go_big_quiet_step (fail))
      exact wpQuiet_nil rfl
    simp only [List.take_succ_cons, List.take_zero, List.drop_succ_cons, List.drop_zero]
    refine text_done ?_
    have HL := hHeld.2.2.2
    clear hHeld
    go_wp2
    go_ret
    exact ⟨ret_bool (by simp), HL.out⟩
theorem any75 (i j : Nat) (x : Int) (w : World) : Calls Try.prog 75 #[.agg #[.int .i64 (i : Int), .int .i64 (j : Int), .int .i64 x]] w fun e w' => e = .returned (.bool true) ∧ Ext w w' := by
  go_enter Try.func75, Try.ntmps75
  go_wp2
  go_ret
  exact ⟨rfl, (Ext.refl w).alloc _⟩
theorem waste72 (i j : Nat) (x : Int) (w : World) : Calls Try.prog 72 #[.agg #[.int .i64 (i : Int), .int .i64 (j : Int), .int .i64 x]] w fun e w' => e = .returned (.bool (decide (x = 0))) ∧ Ext w w' := by
  go_enter Try.func72, Try.ntmps72
  go_wp2
  go_ret
  exact ⟨ret_bool (by rw [Bool.eq_iff_iff]; simp), (Ext.refl w).alloc _⟩
set_option maxRecDepth 100000 in
set_option maxHeartbeats 2000000 in
theorem worth84 (b : Nat) (vt vb : Value) (th bd : List Int) (r : Rl) (ps : List Int) (i j : Nat) (x : Int) (w : World) (hy : YardAt w b vt vb th bd r ps) (hj : j < 61) (hx : 0 ≤ x ∧ x ≤ 1099511627776) (hp : 0 ≤ ps.getD j 0 ∧ ps.getD j 0 ≤ 1099511627776) :
    Calls Try.prog 84 #[.pointer (some ⟨b, 0, none⟩), .agg #[.int .i64 (i : Int), .int .i64 (j : Int), .int .i64 x]] w fun e w' => e = .returned (.int .i64 (x + ps.getD j 0)) ∧ Ext w w' := by
  have E0 := Lib.hid ((Ext.refl w).alloc (.cells #[.int .i64 (i : Int), .int .i64 (j : Int), .int .i64 x] 110))
  have c := (hy.ext E0.out).price hj
  generalize ps.getD j 0 = p at *
  have hw : IntKind.i64.wrap (x + p) = x + p := wrapi64 _ (by omega) (by omega)
  have hja : (0 : Int) ≤ (j : Int) := by omega
  have hjb : (j : Int) < 61 := by omega
  clear hy
  go_enter Try.func84, Try.ntmps84
  go_wp2
  go_quiet (fail)
  go_wp2
  go_ret
  exact ⟨rfl, E0.out.drewN _⟩
end Go.Proofs.Ytcgheakadfjofaa
