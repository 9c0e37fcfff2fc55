/- Works, by its contract. -/
import Derived.Test.YtppjnpempgpkaaaGreatS5
import Derived.Test.YtppjnpempgpkaaaGreatZT
import Derived.Test.YtppjnpempgpkaaaGreatH7
import Derived.Test.YtppjnpempgpkaaaGreatH6
import Derived.Test.YtppjnpempgpkaaaGreatN3
import Derived.Test.YtppjnpempgpkaaaGreatK1
namespace Go.Proofs.YtppjnpempgpkaaaGreat
open Go.RowKit Go.Shelf
set_option linter.unusedVariables false
set_option linter.unusedSimpArgs false
attribute [local go_sem] Oper.semAt_some

set_option maxRecDepth 100000 in
set_option maxHeartbeats 8000000 in
theorem works_c (w : World) : Calls Tryz.prog 10 #[] w fun e w' => e = .returned (.bool true) ∧ Ext w w' := by
  go_enter Tryz.func10, Tryz.ntmps10
  go_wp2_with fail
  refine (of_c _ _).mono ?_
  rintro e w1 ⟨rfl, rfl⟩
  go_wp2_with fail
  refine (of_c _ _).mono ?_
  rintro e w1 ⟨rfl, rfl⟩
  go_wp2_with fail
  refine (pond_c 4 3 1 1 1 1 _ _ _).mono ?_
  rintro e w1 ⟨rfl, hb⟩
  go_wp2_with fail
  refine (of_c _ _).mono ?_
  rintro e w1 ⟨rfl, rfl⟩
  go_wp2_with fail
  refine (pond_c 4 3 2 2 0 0 _ _ _).mono ?_
  rintro e w2 ⟨rfl, hb2⟩
  go_upto_region 2 with fail
  obtain ⟨w3, hw3⟩ : ∃ w3, w3 = (w2.alloc (.cells #[.int .i64 4, .int .i64 3, .slice (some ⟨w.heap.size, 0, none⟩) 1 1, .slice (some ⟨w.heap.size + 1, 0, none⟩) 1 1] 24)).alloc (.cells #[.int .i64 4, .int .i64 3, .slice (some ⟨w1.heap.size, 0, none⟩) 2 2, .slice none 0 0] 24) := ⟨_, rfl⟩
  have E23 : Ext w2 w3 := by rw [hw3]; exact ((Ext.refl _).alloc _).alloc _
  have BP := Lib.hid (show w3.heap[w2.heap.size]? = some (.cells #[.int .i64 4, .int .i64 3, .slice (some ⟨w.heap.size, 0, none⟩) 1 1, .slice (some ⟨w.heap.size + 1, 0, none⟩) 1 1] 24 (0, 0)) from by rw [hw3]; exact block_ext ((Ext.refl _).alloc _) (heap_alloc_new _ _))
  have BR := Lib.hid (show w3.heap[w2.heap.size + 1]? = some (.cells #[.int .i64 4, .int .i64 3, .slice (some ⟨w1.heap.size, 0, none⟩) 2 2, .slice none 0 0] 24 (0, 0)) from by rw [hw3]; exact heap_alloc_at _ _ (by simp))
  have HRA := Lib.hid (show Reads w3 (.slice (some ⟨w1.heap.size, 0, none⟩) 2 2) [5, 7] from ((Reads.new w1 [5, 7] 3 _ rfl (by decide) _ rfl 2 2 rfl).ext hb2).ext E23)
  have HPA := Lib.hid (show Reads w3 (.slice (some ⟨w.heap.size, 0, none⟩) 1 1) [5] from ((((Reads.new w [5] 3 _ rfl (by decide) _ rfl 1 1 rfl).ext ((Ext.refl _).alloc _)).ext hb).ext ((Ext.refl _).alloc _)).ext (hb2.trans E23))
  have HPB := Lib.hid (show Reads w3 (.slice (some ⟨w.heap.size + 1, 0, none⟩) 1 1) [6] from (((Reads.new (w.alloc (.cells #[.int .i64 5] 3)) [6] 3 _ (by simp) (by decide) _ rfl 1 1 rfl).ext hb).ext ((Ext.refl _).alloc _)).ext (hb2.trans E23))
  have HW := Lib.hid (show Ext w w3 from ((((((Ext.refl w).alloc _).alloc _).trans hb).alloc _).trans hb2).trans E23)
  have HE := Lib.hid (Ext.refl w3)
  rw [← hw3]
  clear hb hb2 hw3 E23
  go_upto_region 2 with fail
  refine wp_region_order ((fun Y : World => Y.heap[w2.heap.size]? = some (.cells #[.int .i64 4, .int .i64 3, .slice (some ⟨w.heap.size, 0, none⟩) 1 1, .slice (some ⟨w.heap.size + 1, 0, none⟩) 1 1] 24 (0, 0)))) [0, 1, 2, 3, 4, 5, 6, 7, 8] (by kernel_rfl) (by kernel_rfl) (by exact (block_ext HE.out BP.out)) (fun hHeld => ?_)
  simp only [opsIn, List.filterMap_cons, List.filterMap_nil, List.getElem?_toArray, List.getElem?_cons_succ, List.getElem?_cons_zero]
  obtain ⟨V1, hV1⟩ : ∃ Y, Y = w3.drew := ⟨_, rfl⟩
  have HE := Lib.hid (show Ext w3 V1 from by rw [hV1]; exact HE.out.drew)
  have XV1 := Lib.hid (show Ext w3 V1 from by rw [hV1]; exact (Ext.refl _).drew)
  rw [← hV1] at hHeld ⊢
  clear hV1
  clear XV1
  refine' text_chunk 1 (by kernel_rfl) hHeld ?ck1 ?cr1
  case ck1 =>
    intro W hSw
    have hSW := hSw
    try dsimp only at hSW
    clear hSw
    obtain ⟨z0, z1, z2, z3⟩ := cells4 hSW
    simp only [List.take_succ_cons, List.take_zero, List.drop_succ_cons, List.drop_zero]
    repeat (go_big_quiet_step (fail))
    exact wpQuiet_nil rfl
  simp only [List.take_succ_cons, List.take_zero, List.drop_succ_cons, List.drop_zero]
  refine text_call (by rfl) (by rfl) (fun K hK => ?_)
  go_simp
  refine hK.out _ _ (by exact block_ext ((Ext.refl _).alloc _) hHeld) (fun hHeld => ?_)
  clear hK K
  try simp only [Act.put, List.setIfInBounds_toArray, List.set_cons_zero, List.set_cons_succ]
  obtain ⟨V2, hV2⟩ : ∃ Y, Y = V1.alloc (.cells #[.int .i64 4, .int .i64 5] 3) := ⟨_, rfl⟩
  rw [← hV2] at hHeld ⊢
  have BV2 := Lib.hid (show V2.heap[V1.heap.size]? = some (.cells #[.int .i64 4, .int .i64 5] 3 (0, 0)) from by rw [hV2]; exact heap_alloc_new _ _)
  have HE := Lib.hid (show Ext w3 V2 from by rw [hV2]; exact HE.out.alloc _)
  have XV2 := Lib.hid (show Ext V1 V2 from by rw [hV2]; exact (Ext.refl _).alloc _)
  clear hV2
  have RV2 := Lib.hid (show Reads V2 (.slice (some ⟨V1.heap.size, 0, none⟩) 2 2) [4, 5] from reads_blk2 BV2.out)
  refine text_call (by rfl) (by rfl) (fun K hK => ?_)
  go_simp
  refine (of_c _ _).mono ?_
  intro e Yq h1; obtain ⟨h1, h2⟩ := h1; subst h1; subst Yq
  all_goals (try (go_wp2_with fail))
  refine hK.out _ _ (by exact hHeld) (fun hHeld => ?_)
  clear hK K
  try simp only [Act.put, List.setIfInBounds_toArray, List.set_cons_zero, List.set_cons_succ]
  refine text_call (by rfl) (by rfl) (fun K hK => ?_)
  go_simp
  refine (wk1 V2 _ _ _ (HPA.out.ext HE.out) (HPB.out.ext HE.out) RV2.out).mono ?_
  intro e V3 h1; obtain ⟨h1, h2⟩ := h1; subst h1
  have HE := Lib.hid (HE.out.trans h2); have XV3 := Lib.hid h2
  clear h2
  all_goals (try (go_wp2_with fail))
  refine hK.out _ _ (by exact block_ext XV3.out hHeld) (fun hHeld => ?_)
  clear hK K
  try simp only [Act.put, List.setIfInBounds_toArray, List.set_cons_zero, List.set_cons_succ]
  refine' text_chunk 5 (by kernel_rfl) hHeld ?ck2 ?cr2
  case ck2 =>
    intro W hSw
    have hSW := hSw
    try dsimp only at hSW
    clear hSw
    skip
    simp only [List.take_succ_cons, List.take_zero, List.drop_succ_cons, List.drop_zero]
    repeat (go_big_quiet_step (fail))
    exact wpQuiet_nil rfl
  simp only [List.take_succ_cons, List.take_zero, List.drop_succ_cons, List.drop_zero]
  refine text_done ?_
  clear hHeld BV2 XV2 RV2 XV3
  go_upto_region 3 with fail
  refine wp_region_order ((fun Y : World => Y.heap[w2.heap.size]? = some (.cells #[.int .i64 4, .int .i64 3, .slice (some ⟨w.heap.size, 0, none⟩) 1 1, .slice (some ⟨w.heap.size + 1, 0, none⟩) 1 1] 24 (0, 0)))) [0, 1, 2, 3, 4, 5, 6, 7, 8] (by kernel_rfl) (by kernel_rfl) (by exact (block_ext HE.out BP.out)) (fun hHeld => ?_)
  simp only [opsIn, List.filterMap_cons, List.filterMap_nil, List.getElem?_toArray, List.getElem?_cons_succ, List.getElem?_cons_zero]
  obtain ⟨V4, hV4⟩ : ∃ Y, Y = V3.drew := ⟨_, rfl⟩
  have HE := Lib.hid (show Ext w3 V4 from by rw [hV4]; exact HE.out.drew)
  have XV4 := Lib.hid (show Ext V3 V4 from by rw [hV4]; exact (Ext.refl _).drew)
  rw [← hV4] at hHeld ⊢
  clear hV4
  clear XV4
  refine' text_chunk 1 (by kernel_rfl) hHeld ?ck3 ?cr3
  case ck3 =>
    intro W hSw
    have hSW := hSw
    try dsimp only at hSW
    clear hSw
    obtain ⟨z0, z1, z2, z3⟩ := cells4 hSW
    simp only [List.take_succ_cons, List.take_zero, List.drop_succ_cons, List.drop_zero]
    repeat (go_big_quiet_step (fail))
    exact wpQuiet_nil rfl
  simp only [List.take_succ_cons, List.take_zero, List.drop_succ_cons, List.drop_zero]
  refine text_call (by rfl) (by rfl) (fun K hK => ?_)
  go_simp
  refine hK.out _ _ (by exact block_ext ((Ext.refl _).alloc _) hHeld) (fun hHeld => ?_)
  clear hK K
  try simp only [Act.put, List.setIfInBounds_toArray, List.set_cons_zero, List.set_cons_succ]
  obtain ⟨V5, hV5⟩ : ∃ Y, Y = V4.alloc (.cells #[.int .i64 5, .int .i64 6] 3) := ⟨_, rfl⟩
  rw [← hV5] at hHeld ⊢
  have BV5 := Lib.hid (show V5.heap[V4.heap.size]? = some (.cells #[.int .i64 5, .int .i64 6] 3 (0, 0)) from by rw [hV5]; exact heap_alloc_new _ _)
  have HE := Lib.hid (show Ext w3 V5 from by rw [hV5]; exact HE.out.alloc _)
  have XV5 := Lib.hid (show Ext V4 V5 from by rw [hV5]; exact (Ext.refl _).alloc _)
  clear hV5
  have RV5 := Lib.hid (show Reads V5 (.slice (some ⟨V4.heap.size, 0, none⟩) 2 2) [5, 6] from reads_blk2 BV5.out)
  refine text_call (by rfl) (by rfl) (fun K hK => ?_)
  go_simp
  refine (of_c _ _).mono ?_
  intro e Yq h1; obtain ⟨h1, h2⟩ := h1; subst h1; subst Yq
  all_goals (try (go_wp2_with fail))
  refine hK.out _ _ (by exact hHeld) (fun hHeld => ?_)
  clear hK K
  try simp only [Act.put, List.setIfInBounds_toArray, List.set_cons_zero, List.set_cons_succ]
  refine text_call (by rfl) (by rfl) (fun K hK => ?_)
  go_simp
  refine (wk2 V5 _ _ _ (HPA.out.ext HE.out) (HPB.out.ext HE.out) RV5.out).mono ?_
  intro e V6 h1; obtain ⟨h1, h2⟩ := h1; subst h1
  have HE := Lib.hid (HE.out.trans h2); have XV6 := Lib.hid h2
  clear h2
  all_goals (try (go_wp2_with fail))
  refine hK.out _ _ (by exact block_ext XV6.out hHeld) (fun hHeld => ?_)
  clear hK K
  try simp only [Act.put, List.setIfInBounds_toArray, List.set_cons_zero, List.set_cons_succ]
  refine' text_chunk 5 (by kernel_rfl) hHeld ?ck4 ?cr4
  case ck4 =>
    intro W hSw
    have hSW := hSw
    try dsimp only at hSW
    clear hSw
    skip
    simp only [List.take_succ_cons, List.take_zero, List.drop_succ_cons, List.drop_zero]
    repeat (go_big_quiet_step (fail))
    exact wpQuiet_nil rfl
  simp only [List.take_succ_cons, List.take_zero, List.drop_succ_cons, List.drop_zero]
  refine text_done ?_
  clear hHeld BV5 XV5 RV5 XV6
  obtain ⟨z0, z1, z2, z3⟩ := cells4 (block_ext HE.out BR.out)
  go_wp2_with fail
  refine (wk3 V6 _ (HRA.out.ext HE.out)).mono ?_
  rintro e V7 ⟨rfl, h2⟩
  clear z0 z1 z2 z3
  have HE := Lib.hid (HE.out.trans h2)
  clear h2
  obtain ⟨z0, z1, z2, z3⟩ := cells4 (block_ext HE.out BR.out)
  go_wp2_with fail
  refine (wk4 V7 _ (HRA.out.ext HE.out)).mono ?_
  rintro e V8 ⟨sa, sc, rfl, h1, h2⟩
  clear z0 z1 z2 z3
  have HE := Lib.hid (HE.out.trans h2)
  have HSM := Lib.hid h1
  clear h1
  clear h2
  obtain ⟨z0, z1, z2, z3⟩ := cells4 (block_ext HE.out BR.out)
  go_wp2_with fail
  refine (wk5 V8 _ (HRA.out.ext HE.out)).mono ?_
  rintro e V9 ⟨la, lc, rfl, h1, h2⟩
  clear z0 z1 z2 z3
  have HE := Lib.hid (HE.out.trans h2)
  have HSM := Lib.hid (HSM.out.ext h2)
  have HLG := Lib.hid h1
  clear h1
  clear h2
  obtain ⟨z0, z1, z2, z3⟩ := cells4 (block_ext HE.out BR.out)
  go_wp2_with fail
  refine (wk6 V9 _ (HRA.out.ext HE.out)).mono ?_
  rintro e V10 ⟨rfl, h2⟩
  clear z0 z1 z2 z3
  have HE := Lib.hid (HE.out.trans h2)
  have HSM := Lib.hid (HSM.out.ext h2)
  have HLG := Lib.hid (HLG.out.ext h2)
  clear h2
  go_upto_region 8 with fail
  go_cut [15, 16] from 76 (fun a b wx => a = .int .i64 2 ∧ b = .int .i64 0 ∧ Hid (Ext V10 wx))
  case first =>
    refine wp_region_tree (fun Y : World => Y.heap[w2.heap.size]? = some (.cells #[.int .i64 4, .int .i64 3, .slice (some ⟨w.heap.size, 0, none⟩) 1 1, .slice (some ⟨w.heap.size + 1, 0, none⟩) 1 1] 24 (0, 0))) (.pre 0 (.alt 1 (.alt 2 (.lin [3, 4, 5, 6, 7, 8, 9, 10, 11]) 3 (.lin [2, 4, 5, 6, 7, 8, 9, 10, 11])) 3 (.lin [1, 2, 4, 5, 6, 7, 8, 9, 10, 11]))) (by kernel_rfl) (by kernel_rfl) (by exact (block_ext HE.out BP.out)) (fun hHeld => ?_)
    obtain ⟨V11, hV11⟩ : ∃ Y, Y = V10.drew := ⟨_, rfl⟩
    have HE := Lib.hid (show Ext w3 V11 from by rw [hV11]; exact HE.out.drew)
    have Y0 := Lib.hid (show Ext V10 V11 from by rw [hV11]; exact (Ext.refl _).drew)
    rw [← hV11] at hHeld ⊢
    clear hV11
    refine' tree_pre (by rfl) (by rfl) (by rfl) (by kernel_rfl) hHeld ?ck5 ?cr5
    case ck5 =>
      intro W hSW
      obtain ⟨z0, z1, z2, z3⟩ := cells4 hSW
      simp only [List.getElem_toArray, List.getElem_cons_zero, List.getElem_cons_succ]
      repeat (go_big_quiet_step (fail))
      exact wpQuiet_nil rfl
    refine tree_alt (by rfl) (by rfl) (by rfl) (by rfl) (fun K hK => ?_) (fun K hK => ?_)
    · skip
      simp only [List.getElem_toArray, List.getElem_cons_zero, List.getElem_cons_succ]
      go_simp
      refine hK.out _ _ (by exact block_ext ((Ext.refl _).alloc _) hHeld) (fun hHeld => ?_)
      clear hK K
      try simp only [Act.put, List.setIfInBounds_toArray, List.set_cons_zero, List.set_cons_succ]
      obtain ⟨V12, hV12⟩ : ∃ Y, Y = V11.alloc (.cells #[.int .i64 5, .int .i64 6] 3) := ⟨_, rfl⟩
      rw [← hV12] at hHeld ⊢
      have BV12 := Lib.hid (show V12.heap[V11.heap.size]? = some (.cells #[.int .i64 5, .int .i64 6] 3 (0, 0)) from by rw [hV12]; exact heap_alloc_new _ _)
      have HE := Lib.hid (show Ext w3 V12 from by rw [hV12]; exact HE.out.alloc _)
      have XV12 := Lib.hid (show Ext V11 V12 from by rw [hV12]; exact (Ext.refl _).alloc _)
      clear hV12
      have RV12 := Lib.hid (show Reads V12 (.slice (some ⟨V11.heap.size, 0, none⟩) 2 2) [5, 6] from reads_blk2 BV12.out)
      refine tree_alt (by rfl) (by rfl) (by rfl) (by rfl) (fun K hK => ?_) (fun K hK => ?_)
      · skip
        simp only [List.getElem_toArray, List.getElem_cons_zero, List.getElem_cons_succ]
        go_simp
        refine (way_c (-1) _ 2 2 _).mono ?_
        intro e V13 h1; obtain ⟨h1, h2⟩ := h1; subst h1
        have HE := Lib.hid (HE.out.trans h2); have XV13 := Lib.hid h2
        clear h2
        all_goals (try (go_wp2_with fail))
        refine hK.out _ _ (by exact block_ext XV13.out hHeld) (fun hHeld => ?_)
        clear hK K
        try simp only [Act.put, List.setIfInBounds_toArray, List.set_cons_zero, List.set_cons_succ]
        refine tree_lin ?_
        simp only [opsIn, List.filterMap_cons, List.filterMap_nil, List.getElem?_toArray, List.getElem?_cons_succ, List.getElem?_cons_zero]
        refine text_call (by rfl) (by rfl) (fun K hK => ?_)
        go_simp
        refine hK.out _ _ (by exact block_ext ((Ext.refl _).alloc _) hHeld) (fun hHeld => ?_)
        clear hK K
        try simp only [Act.put, List.setIfInBounds_toArray, List.set_cons_zero, List.set_cons_succ]
        obtain ⟨V14, hV14⟩ : ∃ Y, Y = V13.alloc (.cells #[.int .i64 5, .int .i64 4] 3) := ⟨_, rfl⟩
        rw [← hV14] at hHeld ⊢
        have BV14 := Lib.hid (show V14.heap[V13.heap.size]? = some (.cells #[.int .i64 5, .int .i64 4] 3 (0, 0)) from by rw [hV14]; exact heap_alloc_new _ _)
        have HE := Lib.hid (show Ext w3 V14 from by rw [hV14]; exact HE.out.alloc _)
        have XV14 := Lib.hid (show Ext V13 V14 from by rw [hV14]; exact (Ext.refl _).alloc _)
        clear hV14
        have RV14 := Lib.hid (show Reads V14 (.slice (some ⟨V13.heap.size, 0, none⟩) 2 2) [5, 4] from reads_blk2 BV14.out)
        refine text_call (by rfl) (by rfl) (fun K hK => ?_)
        go_simp
        refine (way_c (2) _ 2 2 _).mono ?_
        intro e V15 h1; obtain ⟨h1, h2⟩ := h1; subst h1
        have HE := Lib.hid (HE.out.trans h2); have XV15 := Lib.hid h2
        clear h2
        all_goals (try (go_wp2_with fail))
        refine hK.out _ _ (by exact block_ext XV15.out hHeld) (fun hHeld => ?_)
        clear hK K
        try simp only [Act.put, List.setIfInBounds_toArray, List.set_cons_zero, List.set_cons_succ]
        refine text_call (by rfl) (by rfl) (fun K hK => ?_)
        go_simp
        refine hK.out _ _ (by exact block_ext ((Ext.refl _).alloc _) hHeld) (fun hHeld => ?_)
        clear hK K
        try simp only [Act.put, List.setIfInBounds_toArray, List.set_cons_zero, List.set_cons_succ]
        obtain ⟨V16, hV16⟩ : ∃ Y, Y = V15.alloc (.cells #[.slice (some ⟨V11.heap.size, 0, none⟩) 2 2, .int .i64 (-1), .slice (some ⟨V13.heap.size, 0, none⟩) 2 2, .int .i64 (2)] 60) := ⟨_, rfl⟩
        rw [← hV16] at hHeld ⊢
        have BV16 := Lib.hid (show V16.heap[V15.heap.size]? = some (.cells #[.slice (some ⟨V11.heap.size, 0, none⟩) 2 2, .int .i64 (-1), .slice (some ⟨V13.heap.size, 0, none⟩) 2 2, .int .i64 (2)] 60 (0, 0)) from by rw [hV16]; exact heap_alloc_new _ _)
        have HE := Lib.hid (show Ext w3 V16 from by rw [hV16]; exact HE.out.alloc _)
        have XV16 := Lib.hid (show Ext V15 V16 from by rw [hV16]; exact (Ext.refl _).alloc _)
        clear hV16
        have RV16 := Lib.hid (ReadsW.two BV16.out ((((RV12.out.ext XV13.out).ext XV14.out).ext XV15.out).ext XV16.out) ((RV14.out.ext XV15.out).ext XV16.out))
        refine text_call (by rfl) (by rfl) (fun K hK => ?_)
        go_simp
        refine (wk7 V16 _ _ _ (HPA.out.ext HE.out) (HPB.out.ext HE.out) RV16.out).mono ?_
        intro e V17 h1; obtain ⟨h1, h2⟩ := h1; subst h1
        have HE := Lib.hid (HE.out.trans h2); have XV17 := Lib.hid h2
        clear h2
        all_goals (try (go_wp2_with fail))
        refine hK.out _ _ (by exact block_ext XV17.out hHeld) (fun hHeld => ?_)
        clear hK K
        try simp only [Act.put, List.setIfInBounds_toArray, List.set_cons_zero, List.set_cons_succ]
        refine' text_chunk 5 (by kernel_rfl) hHeld ?ck6 ?cr6
        case ck6 =>
          intro W hSw
          have hSW := hSw
          try dsimp only at hSW
          clear hSw
          skip
          simp only [List.take_succ_cons, List.take_zero, List.drop_succ_cons, List.drop_zero]
          repeat (go_big_quiet_step (fail))
          exact wpQuiet_nil rfl
        simp only [List.take_succ_cons, List.take_zero, List.drop_succ_cons, List.drop_zero]
        refine text_done ?_
        clear hHeld
        go_wp2_with fail
        go_meet
        exact ⟨rfl, rfl, Lib.hid (((((((Y0.out).trans XV12.out).trans XV13.out).trans XV14.out).trans XV15.out).trans XV16.out).trans XV17.out : Ext V10 V17)⟩
      · skip
        simp only [List.getElem_toArray, List.getElem_cons_zero, List.getElem_cons_succ]
        go_simp
        refine hK.out _ _ (by exact block_ext ((Ext.refl _).alloc _) hHeld) (fun hHeld => ?_)
        clear hK K
        try simp only [Act.put, List.setIfInBounds_toArray, List.set_cons_zero, List.set_cons_succ]
        obtain ⟨V18, hV18⟩ : ∃ Y, Y = V12.alloc (.cells #[.int .i64 5, .int .i64 4] 3) := ⟨_, rfl⟩
        rw [← hV18] at hHeld ⊢
        have BV18 := Lib.hid (show V18.heap[V12.heap.size]? = some (.cells #[.int .i64 5, .int .i64 4] 3 (0, 0)) from by rw [hV18]; exact heap_alloc_new _ _)
        have HE := Lib.hid (show Ext w3 V18 from by rw [hV18]; exact HE.out.alloc _)
        have XV18 := Lib.hid (show Ext V12 V18 from by rw [hV18]; exact (Ext.refl _).alloc _)
        clear hV18
        have RV18 := Lib.hid (show Reads V18 (.slice (some ⟨V12.heap.size, 0, none⟩) 2 2) [5, 4] from reads_blk2 BV18.out)
        refine tree_lin ?_
        simp only [opsIn, List.filterMap_cons, List.filterMap_nil, List.getElem?_toArray, List.getElem?_cons_succ, List.getElem?_cons_zero]
        refine text_call (by rfl) (by rfl) (fun K hK => ?_)
        go_simp
        refine (way_c (-1) _ 2 2 _).mono ?_
        intro e V19 h1; obtain ⟨h1, h2⟩ := h1; subst h1
        have HE := Lib.hid (HE.out.trans h2); have XV19 := Lib.hid h2
        clear h2
        all_goals (try (go_wp2_with fail))
        refine hK.out _ _ (by exact block_ext XV19.out hHeld) (fun hHeld => ?_)
        clear hK K
        try simp only [Act.put, List.setIfInBounds_toArray, List.set_cons_zero, List.set_cons_succ]
        refine text_call (by rfl) (by rfl) (fun K hK => ?_)
        go_simp
        refine (way_c (2) _ 2 2 _).mono ?_
        intro e V20 h1; obtain ⟨h1, h2⟩ := h1; subst h1
        have HE := Lib.hid (HE.out.trans h2); have XV20 := Lib.hid h2
        clear h2
        all_goals (try (go_wp2_with fail))
        refine hK.out _ _ (by exact block_ext XV20.out hHeld) (fun hHeld => ?_)
        clear hK K
        try simp only [Act.put, List.setIfInBounds_toArray, List.set_cons_zero, List.set_cons_succ]
        refine text_call (by rfl) (by rfl) (fun K hK => ?_)
        go_simp
        refine hK.out _ _ (by exact block_ext ((Ext.refl _).alloc _) hHeld) (fun hHeld => ?_)
        clear hK K
        try simp only [Act.put, List.setIfInBounds_toArray, List.set_cons_zero, List.set_cons_succ]
        obtain ⟨V21, hV21⟩ : ∃ Y, Y = V20.alloc (.cells #[.slice (some ⟨V11.heap.size, 0, none⟩) 2 2, .int .i64 (-1), .slice (some ⟨V12.heap.size, 0, none⟩) 2 2, .int .i64 (2)] 60) := ⟨_, rfl⟩
        rw [← hV21] at hHeld ⊢
        have BV21 := Lib.hid (show V21.heap[V20.heap.size]? = some (.cells #[.slice (some ⟨V11.heap.size, 0, none⟩) 2 2, .int .i64 (-1), .slice (some ⟨V12.heap.size, 0, none⟩) 2 2, .int .i64 (2)] 60 (0, 0)) from by rw [hV21]; exact heap_alloc_new _ _)
        have HE := Lib.hid (show Ext w3 V21 from by rw [hV21]; exact HE.out.alloc _)
        have XV21 := Lib.hid (show Ext V20 V21 from by rw [hV21]; exact (Ext.refl _).alloc _)
        clear hV21
        have RV21 := Lib.hid (ReadsW.two BV21.out ((((RV12.out.ext XV18.out).ext XV19.out).ext XV20.out).ext XV21.out) (((RV18.out.ext XV19.out).ext XV20.out).ext XV21.out))
        refine text_call (by rfl) (by rfl) (fun K hK => ?_)
        go_simp
        refine (wk7 V21 _ _ _ (HPA.out.ext HE.out) (HPB.out.ext HE.out) RV21.out).mono ?_
        intro e V22 h1; obtain ⟨h1, h2⟩ := h1; subst h1
        have HE := Lib.hid (HE.out.trans h2); have XV22 := Lib.hid h2
        clear h2
        all_goals (try (go_wp2_with fail))
        refine hK.out _ _ (by exact block_ext XV22.out hHeld) (fun hHeld => ?_)
        clear hK K
        try simp only [Act.put, List.setIfInBounds_toArray, List.set_cons_zero, List.set_cons_succ]
        refine' text_chunk 5 (by kernel_rfl) hHeld ?ck7 ?cr7
        case ck7 =>
          intro W hSw
          have hSW := hSw
          try dsimp only at hSW
          clear hSw
          skip
          simp only [List.take_succ_cons, List.take_zero, List.drop_succ_cons, List.drop_zero]
          repeat (go_big_quiet_step (fail))
          exact wpQuiet_nil rfl
        simp only [List.take_succ_cons, List.take_zero, List.drop_succ_cons, List.drop_zero]
        refine text_done ?_
        clear hHeld
        go_wp2_with fail
        go_meet
        exact ⟨rfl, rfl, Lib.hid (((((((Y0.out).trans XV12.out).trans XV18.out).trans XV19.out).trans XV20.out).trans XV21.out).trans XV22.out : Ext V10 V22)⟩
    · skip
      simp only [List.getElem_toArray, List.getElem_cons_zero, List.getElem_cons_succ]
      go_simp
      refine hK.out _ _ (by exact block_ext ((Ext.refl _).alloc _) hHeld) (fun hHeld => ?_)
      clear hK K
      try simp only [Act.put, List.setIfInBounds_toArray, List.set_cons_zero, List.set_cons_succ]
      obtain ⟨V23, hV23⟩ : ∃ Y, Y = V11.alloc (.cells #[.int .i64 5, .int .i64 4] 3) := ⟨_, rfl⟩
      rw [← hV23] at hHeld ⊢
      have BV23 := Lib.hid (show V23.heap[V11.heap.size]? = some (.cells #[.int .i64 5, .int .i64 4] 3 (0, 0)) from by rw [hV23]; exact heap_alloc_new _ _)
      have HE := Lib.hid (show Ext w3 V23 from by rw [hV23]; exact HE.out.alloc _)
      have XV23 := Lib.hid (show Ext V11 V23 from by rw [hV23]; exact (Ext.refl _).alloc _)
      clear hV23
      have RV23 := Lib.hid (show Reads V23 (.slice (some ⟨V11.heap.size, 0, none⟩) 2 2) [5, 4] from reads_blk2 BV23.out)
      refine tree_lin ?_
      simp only [opsIn, List.filterMap_cons, List.filterMap_nil, List.getElem?_toArray, List.getElem?_cons_succ, List.getElem?_cons_zero]
      refine text_call (by rfl) (by rfl) (fun K hK => ?_)
      go_simp
      refine hK.out _ _ (by exact block_ext ((Ext.refl _).alloc _) hHeld) (fun hHeld => ?_)
      clear hK K
      try simp only [Act.put, List.setIfInBounds_toArray, List.set_cons_zero, List.set_cons_succ]
      obtain ⟨V24, hV24⟩ : ∃ Y, Y = V23.alloc (.cells #[.int .i64 5, .int .i64 6] 3) := ⟨_, rfl⟩
      rw [← hV24] at hHeld ⊢
      have BV24 := Lib.hid (show V24.heap[V23.heap.size]? = some (.cells #[.int .i64 5, .int .i64 6] 3 (0, 0)) from by rw [hV24]; exact heap_alloc_new _ _)
      have HE := Lib.hid (show Ext w3 V24 from by rw [hV24]; exact HE.out.alloc _)
      have XV24 := Lib.hid (show Ext V23 V24 from by rw [hV24]; exact (Ext.refl _).alloc _)
      clear hV24
      have RV24 := Lib.hid (show Reads V24 (.slice (some ⟨V23.heap.size, 0, none⟩) 2 2) [5, 6] from reads_blk2 BV24.out)
      refine text_call (by rfl) (by rfl) (fun K hK => ?_)
      go_simp
      refine (way_c (-1) _ 2 2 _).mono ?_
      intro e V25 h1; obtain ⟨h1, h2⟩ := h1; subst h1
      have HE := Lib.hid (HE.out.trans h2); have XV25 := Lib.hid h2
      clear h2
      all_goals (try (go_wp2_with fail))
      refine hK.out _ _ (by exact block_ext XV25.out hHeld) (fun hHeld => ?_)
      clear hK K
      try simp only [Act.put, List.setIfInBounds_toArray, List.set_cons_zero, List.set_cons_succ]
      refine text_call (by rfl) (by rfl) (fun K hK => ?_)
      go_simp
      refine (way_c (2) _ 2 2 _).mono ?_
      intro e V26 h1; obtain ⟨h1, h2⟩ := h1; subst h1
      have HE := Lib.hid (HE.out.trans h2); have XV26 := Lib.hid h2
      clear h2
      all_goals (try (go_wp2_with fail))
      refine hK.out _ _ (by exact block_ext XV26.out hHeld) (fun hHeld => ?_)
      clear hK K
      try simp only [Act.put, List.setIfInBounds_toArray, List.set_cons_zero, List.set_cons_succ]
      refine text_call (by rfl) (by rfl) (fun K hK => ?_)
      go_simp
      refine hK.out _ _ (by exact block_ext ((Ext.refl _).alloc _) hHeld) (fun hHeld => ?_)
      clear hK K
      try simp only [Act.put, List.setIfInBounds_toArray, List.set_cons_zero, List.set_cons_succ]
      obtain ⟨V27, hV27⟩ : ∃ Y, Y = V26.alloc (.cells #[.slice (some ⟨V23.heap.size, 0, none⟩) 2 2, .int .i64 (-1), .slice (some ⟨V11.heap.size, 0, none⟩) 2 2, .int .i64 (2)] 60) := ⟨_, rfl⟩
      rw [← hV27] at hHeld ⊢
      have BV27 := Lib.hid (show V27.heap[V26.heap.size]? = some (.cells #[.slice (some ⟨V23.heap.size, 0, none⟩) 2 2, .int .i64 (-1), .slice (some ⟨V11.heap.size, 0, none⟩) 2 2, .int .i64 (2)] 60 (0, 0)) from by rw [hV27]; exact heap_alloc_new _ _)
      have HE := Lib.hid (show Ext w3 V27 from by rw [hV27]; exact HE.out.alloc _)
      have XV27 := Lib.hid (show Ext V26 V27 from by rw [hV27]; exact (Ext.refl _).alloc _)
      clear hV27
      have RV27 := Lib.hid (ReadsW.two BV27.out (((RV24.out.ext XV25.out).ext XV26.out).ext XV27.out) ((((RV23.out.ext XV24.out).ext XV25.out).ext XV26.out).ext XV27.out))
      refine text_call (by rfl) (by rfl) (fun K hK => ?_)
      go_simp
      refine (wk7 V27 _ _ _ (HPA.out.ext HE.out) (HPB.out.ext HE.out) RV27.out).mono ?_
      intro e V28 h1; obtain ⟨h1, h2⟩ := h1; subst h1
      have HE := Lib.hid (HE.out.trans h2); have XV28 := Lib.hid h2
      clear h2
      all_goals (try (go_wp2_with fail))
      refine hK.out _ _ (by exact block_ext XV28.out hHeld) (fun hHeld => ?_)
      clear hK K
      try simp only [Act.put, List.setIfInBounds_toArray, List.set_cons_zero, List.set_cons_succ]
      refine' text_chunk 5 (by kernel_rfl) hHeld ?ck8 ?cr8
      case ck8 =>
        intro W hSw
        have hSW := hSw
        try dsimp only at hSW
        clear hSw
        skip
        simp only [List.take_succ_cons, List.take_zero, List.drop_succ_cons, List.drop_zero]
        repeat (go_big_quiet_step (fail))
        exact wpQuiet_nil rfl
      simp only [List.take_succ_cons, List.take_zero, List.drop_succ_cons, List.drop_zero]
      refine text_done ?_
      clear hHeld
      go_wp2_with fail
      go_meet
      exact ⟨rfl, rfl, Lib.hid (((((((Y0.out).trans XV23.out).trans XV24.out).trans XV25.out).trans XV26.out).trans XV27.out).trans XV28.out : Ext V10 V28)⟩
  case rest =>
    obtain ⟨rfl, rfl, h2⟩ := hcut
    replace h2 := h2.out
    obtain ⟨V29, hV29⟩ : ∃ Y, Y = wc := ⟨_, rfl⟩
    rw [← hV29] at h2 ⊢
    clear hV29
    have HE := Lib.hid (HE.out.trans h2)
    have HSM := Lib.hid (HSM.out.ext h2)
    have HLG := Lib.hid (HLG.out.ext h2)
    clear h2
    go_upto_region 9 with fail
    go_cut [17, 18] from 86 (fun a b wx => a = .int .i64 0 ∧ b = .int .i64 11 ∧ Hid (Ext V29 wx))
    case first =>
      refine wp_region_tree (fun Y : World => Y.heap[w2.heap.size]? = some (.cells #[.int .i64 4, .int .i64 3, .slice (some ⟨w.heap.size, 0, none⟩) 1 1, .slice (some ⟨w.heap.size + 1, 0, none⟩) 1 1] 24 (0, 0))) (.pre 0 (.alt 1 (.alt 2 (.lin [3, 4, 5, 6, 7, 8, 9, 10, 11]) 3 (.lin [2, 4, 5, 6, 7, 8, 9, 10, 11])) 3 (.lin [1, 2, 4, 5, 6, 7, 8, 9, 10, 11]))) (by kernel_rfl) (by kernel_rfl) (by exact (block_ext HE.out BP.out)) (fun hHeld => ?_)
      obtain ⟨V30, hV30⟩ : ∃ Y, Y = V29.drew := ⟨_, rfl⟩
      have HE := Lib.hid (show Ext w3 V30 from by rw [hV30]; exact HE.out.drew)
      have Y0 := Lib.hid (show Ext V29 V30 from by rw [hV30]; exact (Ext.refl _).drew)
      rw [← hV30] at hHeld ⊢
      clear hV30
      refine' tree_pre (by rfl) (by rfl) (by rfl) (by kernel_rfl) hHeld ?ck9 ?cr9
      case ck9 =>
        intro W hSW
        obtain ⟨z0, z1, z2, z3⟩ := cells4 hSW
        simp only [List.getElem_toArray, List.getElem_cons_zero, List.getElem_cons_succ]
        repeat (go_big_quiet_step (fail))
        exact wpQuiet_nil rfl
      refine tree_alt (by rfl) (by rfl) (by rfl) (by rfl) (fun K hK => ?_) (fun K hK => ?_)
      · skip
        simp only [List.getElem_toArray, List.getElem_cons_zero, List.getElem_cons_succ]
        go_simp
        refine hK.out _ _ (by exact block_ext ((Ext.refl _).alloc _) hHeld) (fun hHeld => ?_)
        clear hK K
        try simp only [Act.put, List.setIfInBounds_toArray, List.set_cons_zero, List.set_cons_succ]
        obtain ⟨V31, hV31⟩ : ∃ Y, Y = V30.alloc (.cells #[.int .i64 5, .int .i64 6] 3) := ⟨_, rfl⟩
        rw [← hV31] at hHeld ⊢
        have BV31 := Lib.hid (show V31.heap[V30.heap.size]? = some (.cells #[.int .i64 5, .int .i64 6] 3 (0, 0)) from by rw [hV31]; exact heap_alloc_new _ _)
        have HE := Lib.hid (show Ext w3 V31 from by rw [hV31]; exact HE.out.alloc _)
        have XV31 := Lib.hid (show Ext V30 V31 from by rw [hV31]; exact (Ext.refl _).alloc _)
        clear hV31
        have RV31 := Lib.hid (show Reads V31 (.slice (some ⟨V30.heap.size, 0, none⟩) 2 2) [5, 6] from reads_blk2 BV31.out)
        refine tree_alt (by rfl) (by rfl) (by rfl) (by rfl) (fun K hK => ?_) (fun K hK => ?_)
        · skip
          simp only [List.getElem_toArray, List.getElem_cons_zero, List.getElem_cons_succ]
          go_simp
          refine (way_c (-1) _ 2 2 _).mono ?_
          intro e V32 h1; obtain ⟨h1, h2⟩ := h1; subst h1
          have HE := Lib.hid (HE.out.trans h2); have XV32 := Lib.hid h2
          clear h2
          all_goals (try (go_wp2_with fail))
          refine hK.out _ _ (by exact block_ext XV32.out hHeld) (fun hHeld => ?_)
          clear hK K
          try simp only [Act.put, List.setIfInBounds_toArray, List.set_cons_zero, List.set_cons_succ]
          refine tree_lin ?_
          simp only [opsIn, List.filterMap_cons, List.filterMap_nil, List.getElem?_toArray, List.getElem?_cons_succ, List.getElem?_cons_zero]
          refine text_call (by rfl) (by rfl) (fun K hK => ?_)
          go_simp
          refine hK.out _ _ (by exact block_ext ((Ext.refl _).alloc _) hHeld) (fun hHeld => ?_)
          clear hK K
          try simp only [Act.put, List.setIfInBounds_toArray, List.set_cons_zero, List.set_cons_succ]
          obtain ⟨V33, hV33⟩ : ∃ Y, Y = V32.alloc (.cells #[.int .i64 5, .int .i64 6] 3) := ⟨_, rfl⟩
          rw [← hV33] at hHeld ⊢
          have BV33 := Lib.hid (show V33.heap[V32.heap.size]? = some (.cells #[.int .i64 5, .int .i64 6] 3 (0, 0)) from by rw [hV33]; exact heap_alloc_new _ _)
          have HE := Lib.hid (show Ext w3 V33 from by rw [hV33]; exact HE.out.alloc _)
          have XV33 := Lib.hid (show Ext V32 V33 from by rw [hV33]; exact (Ext.refl _).alloc _)
          clear hV33
          have RV33 := Lib.hid (show Reads V33 (.slice (some ⟨V32.heap.size, 0, none⟩) 2 2) [5, 6] from reads_blk2 BV33.out)
          refine text_call (by rfl) (by rfl) (fun K hK => ?_)
          go_simp
          refine (way_c (-1) _ 2 2 _).mono ?_
          intro e V34 h1; obtain ⟨h1, h2⟩ := h1; subst h1
          have HE := Lib.hid (HE.out.trans h2); have XV34 := Lib.hid h2
          clear h2
          all_goals (try (go_wp2_with fail))
          refine hK.out _ _ (by exact block_ext XV34.out hHeld) (fun hHeld => ?_)
          clear hK K
          try simp only [Act.put, List.setIfInBounds_toArray, List.set_cons_zero, List.set_cons_succ]
          refine text_call (by rfl) (by rfl) (fun K hK => ?_)
          go_simp
          refine hK.out _ _ (by exact block_ext ((Ext.refl _).alloc _) hHeld) (fun hHeld => ?_)
          clear hK K
          try simp only [Act.put, List.setIfInBounds_toArray, List.set_cons_zero, List.set_cons_succ]
          obtain ⟨V35, hV35⟩ : ∃ Y, Y = V34.alloc (.cells #[.slice (some ⟨V30.heap.size, 0, none⟩) 2 2, .int .i64 (-1), .slice (some ⟨V32.heap.size, 0, none⟩) 2 2, .int .i64 (-1)] 60) := ⟨_, rfl⟩
          rw [← hV35] at hHeld ⊢
          have BV35 := Lib.hid (show V35.heap[V34.heap.size]? = some (.cells #[.slice (some ⟨V30.heap.size, 0, none⟩) 2 2, .int .i64 (-1), .slice (some ⟨V32.heap.size, 0, none⟩) 2 2, .int .i64 (-1)] 60 (0, 0)) from by rw [hV35]; exact heap_alloc_new _ _)
          have HE := Lib.hid (show Ext w3 V35 from by rw [hV35]; exact HE.out.alloc _)
          have XV35 := Lib.hid (show Ext V34 V35 from by rw [hV35]; exact (Ext.refl _).alloc _)
          clear hV35
          have RV35 := Lib.hid (ReadsW.two BV35.out ((((RV31.out.ext XV32.out).ext XV33.out).ext XV34.out).ext XV35.out) ((RV33.out.ext XV34.out).ext XV35.out))
          refine text_call (by rfl) (by rfl) (fun K hK => ?_)
          go_simp
          refine (wk8 V35 _ _ _ (HPA.out.ext HE.out) (HPB.out.ext HE.out) RV35.out).mono ?_
          intro e V36 h1; obtain ⟨h1, h2⟩ := h1; subst h1
          have HE := Lib.hid (HE.out.trans h2); have XV36 := Lib.hid h2
          clear h2
          all_goals (try (go_wp2_with fail))
          refine hK.out _ _ (by exact block_ext XV36.out hHeld) (fun hHeld => ?_)
          clear hK K
          try simp only [Act.put, List.setIfInBounds_toArray, List.set_cons_zero, List.set_cons_succ]
          refine' text_chunk 5 (by kernel_rfl) hHeld ?ck10 ?cr10
          case ck10 =>
            intro W hSw
            have hSW := hSw
            try dsimp only at hSW
            clear hSw
            skip
            simp only [List.take_succ_cons, List.take_zero, List.drop_succ_cons, List.drop_zero]
            repeat (go_big_quiet_step (fail))
            exact wpQuiet_nil rfl
          simp only [List.take_succ_cons, List.take_zero, List.drop_succ_cons, List.drop_zero]
          refine text_done ?_
          clear hHeld
          go_wp2_with fail
          go_meet
          exact ⟨rfl, rfl, Lib.hid (((((((Y0.out).trans XV31.out).trans XV32.out).trans XV33.out).trans XV34.out).trans XV35.out).trans XV36.out : Ext V29 V36)⟩
        · skip
          simp only [List.getElem_toArray, List.getElem_cons_zero, List.getElem_cons_succ]
          go_simp
          refine hK.out _ _ (by exact block_ext ((Ext.refl _).alloc _) hHeld) (fun hHeld => ?_)
          clear hK K
          try simp only [Act.put, List.setIfInBounds_toArray, List.set_cons_zero, List.set_cons_succ]
          obtain ⟨V37, hV37⟩ : ∃ Y, Y = V31.alloc (.cells #[.int .i64 5, .int .i64 6] 3) := ⟨_, rfl⟩
          rw [← hV37] at hHeld ⊢
          have BV37 := Lib.hid (show V37.heap[V31.heap.size]? = some (.cells #[.int .i64 5, .int .i64 6] 3 (0, 0)) from by rw [hV37]; exact heap_alloc_new _ _)
          have HE := Lib.hid (show Ext w3 V37 from by rw [hV37]; exact HE.out.alloc _)
          have XV37 := Lib.hid (show Ext V31 V37 from by rw [hV37]; exact (Ext.refl _).alloc _)
          clear hV37
          have RV37 := Lib.hid (show Reads V37 (.slice (some ⟨V31.heap.size, 0, none⟩) 2 2) [5, 6] from reads_blk2 BV37.out)
          refine tree_lin ?_
          simp only [opsIn, List.filterMap_cons, List.filterMap_nil, List.getElem?_toArray, List.getElem?_cons_succ, List.getElem?_cons_zero]
          refine text_call (by rfl) (by rfl) (fun K hK => ?_)
          go_simp
          refine (way_c (-1) _ 2 2 _).mono ?_
          intro e V38 h1; obtain ⟨h1, h2⟩ := h1; subst h1
          have HE := Lib.hid (HE.out.trans h2); have XV38 := Lib.hid h2
          clear h2
          all_goals (try (go_wp2_with fail))
          refine hK.out _ _ (by exact block_ext XV38.out hHeld) (fun hHeld => ?_)
          clear hK K
          try simp only [Act.put, List.setIfInBounds_toArray, List.set_cons_zero, List.set_cons_succ]
          refine text_call (by rfl) (by rfl) (fun K hK => ?_)
          go_simp
          refine (way_c (-1) _ 2 2 _).mono ?_
          intro e V39 h1; obtain ⟨h1, h2⟩ := h1; subst h1
          have HE := Lib.hid (HE.out.trans h2); have XV39 := Lib.hid h2
          clear h2
          all_goals (try (go_wp2_with fail))
          refine hK.out _ _ (by exact block_ext XV39.out hHeld) (fun hHeld => ?_)
          clear hK K
          try simp only [Act.put, List.setIfInBounds_toArray, List.set_cons_zero, List.set_cons_succ]
          refine text_call (by rfl) (by rfl) (fun K hK => ?_)
          go_simp
          refine hK.out _ _ (by exact block_ext ((Ext.refl _).alloc _) hHeld) (fun hHeld => ?_)
          clear hK K
          try simp only [Act.put, List.setIfInBounds_toArray, List.set_cons_zero, List.set_cons_succ]
          obtain ⟨V40, hV40⟩ : ∃ Y, Y = V39.alloc (.cells #[.slice (some ⟨V30.heap.size, 0, none⟩) 2 2, .int .i64 (-1), .slice (some ⟨V31.heap.size, 0, none⟩) 2 2, .int .i64 (-1)] 60) := ⟨_, rfl⟩
          rw [← hV40] at hHeld ⊢
          have BV40 := Lib.hid (show V40.heap[V39.heap.size]? = some (.cells #[.slice (some ⟨V30.heap.size, 0, none⟩) 2 2, .int .i64 (-1), .slice (some ⟨V31.heap.size, 0, none⟩) 2 2, .int .i64 (-1)] 60 (0, 0)) from by rw [hV40]; exact heap_alloc_new _ _)
          have HE := Lib.hid (show Ext w3 V40 from by rw [hV40]; exact HE.out.alloc _)
          have XV40 := Lib.hid (show Ext V39 V40 from by rw [hV40]; exact (Ext.refl _).alloc _)
          clear hV40
          have RV40 := Lib.hid (ReadsW.two BV40.out ((((RV31.out.ext XV37.out).ext XV38.out).ext XV39.out).ext XV40.out) (((RV37.out.ext XV38.out).ext XV39.out).ext XV40.out))
          refine text_call (by rfl) (by rfl) (fun K hK => ?_)
          go_simp
          refine (wk8 V40 _ _ _ (HPA.out.ext HE.out) (HPB.out.ext HE.out) RV40.out).mono ?_
          intro e V41 h1; obtain ⟨h1, h2⟩ := h1; subst h1
          have HE := Lib.hid (HE.out.trans h2); have XV41 := Lib.hid h2
          clear h2
          all_goals (try (go_wp2_with fail))
          refine hK.out _ _ (by exact block_ext XV41.out hHeld) (fun hHeld => ?_)
          clear hK K
          try simp only [Act.put, List.setIfInBounds_toArray, List.set_cons_zero, List.set_cons_succ]
          refine' text_chunk 5 (by kernel_rfl) hHeld ?ck11 ?cr11
          case ck11 =>
            intro W hSw
            have hSW := hSw
            try dsimp only at hSW
            clear hSw
            skip
            simp only [List.take_succ_cons, List.take_zero, List.drop_succ_cons, List.drop_zero]
            repeat (go_big_quiet_step (fail))
            exact wpQuiet_nil rfl
          simp only [List.take_succ_cons, List.take_zero, List.drop_succ_cons, List.drop_zero]
          refine text_done ?_
          clear hHeld
          go_wp2_with fail
          go_meet
          exact ⟨rfl, rfl, Lib.hid (((((((Y0.out).trans XV31.out).trans XV37.out).trans XV38.out).trans XV39.out).trans XV40.out).trans XV41.out : Ext V29 V41)⟩
      · skip
        simp only [List.getElem_toArray, List.getElem_cons_zero, List.getElem_cons_succ]
        go_simp
        refine hK.out _ _ (by exact block_ext ((Ext.refl _).alloc _) hHeld) (fun hHeld => ?_)
        clear hK K
        try simp only [Act.put, List.setIfInBounds_toArray, List.set_cons_zero, List.set_cons_succ]
        obtain ⟨V42, hV42⟩ : ∃ Y, Y = V30.alloc (.cells #[.int .i64 5, .int .i64 6] 3) := ⟨_, rfl⟩
        rw [← hV42] at hHeld ⊢
        have BV42 := Lib.hid (show V42.heap[V30.heap.size]? = some (.cells #[.int .i64 5, .int .i64 6] 3 (0, 0)) from by rw [hV42]; exact heap_alloc_new _ _)
        have HE := Lib.hid (show Ext w3 V42 from by rw [hV42]; exact HE.out.alloc _)
        have XV42 := Lib.hid (show Ext V30 V42 from by rw [hV42]; exact (Ext.refl _).alloc _)
        clear hV42
        have RV42 := Lib.hid (show Reads V42 (.slice (some ⟨V30.heap.size, 0, none⟩) 2 2) [5, 6] from reads_blk2 BV42.out)
        refine tree_lin ?_
        simp only [opsIn, List.filterMap_cons, List.filterMap_nil, List.getElem?_toArray, List.getElem?_cons_succ, List.getElem?_cons_zero]
        refine text_call (by rfl) (by rfl) (fun K hK => ?_)
        go_simp
        refine hK.out _ _ (by exact block_ext ((Ext.refl _).alloc _) hHeld) (fun hHeld => ?_)
        clear hK K
        try simp only [Act.put, List.setIfInBounds_toArray, List.set_cons_zero, List.set_cons_succ]
        obtain ⟨V43, hV43⟩ : ∃ Y, Y = V42.alloc (.cells #[.int .i64 5, .int .i64 6] 3) := ⟨_, rfl⟩
        rw [← hV43] at hHeld ⊢
        have BV43 := Lib.hid (show V43.heap[V42.heap.size]? = some (.cells #[.int .i64 5, .int .i64 6] 3 (0, 0)) from by rw [hV43]; exact heap_alloc_new _ _)
        have HE := Lib.hid (show Ext w3 V43 from by rw [hV43]; exact HE.out.alloc _)
        have XV43 := Lib.hid (show Ext V42 V43 from by rw [hV43]; exact (Ext.refl _).alloc _)
        clear hV43
        have RV43 := Lib.hid (show Reads V43 (.slice (some ⟨V42.heap.size, 0, none⟩) 2 2) [5, 6] from reads_blk2 BV43.out)
        refine text_call (by rfl) (by rfl) (fun K hK => ?_)
        go_simp
        refine (way_c (-1) _ 2 2 _).mono ?_
        intro e V44 h1; obtain ⟨h1, h2⟩ := h1; subst h1
        have HE := Lib.hid (HE.out.trans h2); have XV44 := Lib.hid h2
        clear h2
        all_goals (try (go_wp2_with fail))
        refine hK.out _ _ (by exact block_ext XV44.out hHeld) (fun hHeld => ?_)
        clear hK K
        try simp only [Act.put, List.setIfInBounds_toArray, List.set_cons_zero, List.set_cons_succ]
        refine text_call (by rfl) (by rfl) (fun K hK => ?_)
        go_simp
        refine (way_c (-1) _ 2 2 _).mono ?_
        intro e V45 h1; obtain ⟨h1, h2⟩ := h1; subst h1
        have HE := Lib.hid (HE.out.trans h2); have XV45 := Lib.hid h2
        clear h2
        all_goals (try (go_wp2_with fail))
        refine hK.out _ _ (by exact block_ext XV45.out hHeld) (fun hHeld => ?_)
        clear hK K
        try simp only [Act.put, List.setIfInBounds_toArray, List.set_cons_zero, List.set_cons_succ]
        refine text_call (by rfl) (by rfl) (fun K hK => ?_)
        go_simp
        refine hK.out _ _ (by exact block_ext ((Ext.refl _).alloc _) hHeld) (fun hHeld => ?_)
        clear hK K
        try simp only [Act.put, List.setIfInBounds_toArray, List.set_cons_zero, List.set_cons_succ]
        obtain ⟨V46, hV46⟩ : ∃ Y, Y = V45.alloc (.cells #[.slice (some ⟨V42.heap.size, 0, none⟩) 2 2, .int .i64 (-1), .slice (some ⟨V30.heap.size, 0, none⟩) 2 2, .int .i64 (-1)] 60) := ⟨_, rfl⟩
        rw [← hV46] at hHeld ⊢
        have BV46 := Lib.hid (show V46.heap[V45.heap.size]? = some (.cells #[.slice (some ⟨V42.heap.size, 0, none⟩) 2 2, .int .i64 (-1), .slice (some ⟨V30.heap.size, 0, none⟩) 2 2, .int .i64 (-1)] 60 (0, 0)) from by rw [hV46]; exact heap_alloc_new _ _)
        have HE := Lib.hid (show Ext w3 V46 from by rw [hV46]; exact HE.out.alloc _)
        have XV46 := Lib.hid (show Ext V45 V46 from by rw [hV46]; exact (Ext.refl _).alloc _)
        clear hV46
        have RV46 := Lib.hid (ReadsW.two BV46.out (((RV43.out.ext XV44.out).ext XV45.out).ext XV46.out) ((((RV42.out.ext XV43.out).ext XV44.out).ext XV45.out).ext XV46.out))
        refine text_call (by rfl) (by rfl) (fun K hK => ?_)
        go_simp
        refine (wk8 V46 _ _ _ (HPA.out.ext HE.out) (HPB.out.ext HE.out) RV46.out).mono ?_
        intro e V47 h1; obtain ⟨h1, h2⟩ := h1; subst h1
        have HE := Lib.hid (HE.out.trans h2); have XV47 := Lib.hid h2
        clear h2
        all_goals (try (go_wp2_with fail))
        refine hK.out _ _ (by exact block_ext XV47.out hHeld) (fun hHeld => ?_)
        clear hK K
        try simp only [Act.put, List.setIfInBounds_toArray, List.set_cons_zero, List.set_cons_succ]
        refine' text_chunk 5 (by kernel_rfl) hHeld ?ck12 ?cr12
        case ck12 =>
          intro W hSw
          have hSW := hSw
          try dsimp only at hSW
          clear hSw
          skip
          simp only [List.take_succ_cons, List.take_zero, List.drop_succ_cons, List.drop_zero]
          repeat (go_big_quiet_step (fail))
          exact wpQuiet_nil rfl
        simp only [List.take_succ_cons, List.take_zero, List.drop_succ_cons, List.drop_zero]
        refine text_done ?_
        clear hHeld
        go_wp2_with fail
        go_meet
        exact ⟨rfl, rfl, Lib.hid (((((((Y0.out).trans XV42.out).trans XV43.out).trans XV44.out).trans XV45.out).trans XV46.out).trans XV47.out : Ext V29 V47)⟩
    case rest =>
      obtain ⟨rfl, rfl, h2⟩ := hcut
      replace h2 := h2.out
      obtain ⟨V48, hV48⟩ : ∃ Y, Y = wc := ⟨_, rfl⟩
      rw [← hV48] at h2 ⊢
      clear hV48
      have HE := Lib.hid (HE.out.trans h2)
      have HSM := Lib.hid (HSM.out.ext h2)
      have HLG := Lib.hid (HLG.out.ext h2)
      clear h2
      obtain ⟨z0, z1, z2, z3⟩ := cells4 (block_ext HE.out BR.out)
      go_wp2_with fail
      refine (wk9 V48 _ (HRA.out.ext HE.out)).mono ?_
      rintro e V49 ⟨ou, ol, rfl, h1, h8, h2⟩
      clear z0 z1 z2 z3
      have HE := Lib.hid (HE.out.trans h2)
      have HSM := Lib.hid (HSM.out.ext h2)
      have HLG := Lib.hid (HLG.out.ext h2)
      have HOL := Lib.hid h1; have H8 := Lib.hid h8
      clear h1 h8
      clear h2
      go_wp2_with fail
      refine (chain_c 1 1 ⟨#[69, 69, 78, 78, 87, 83, 87, 83]⟩ V49).mono ?_
      rintro e V50 ⟨rfl, h2⟩
      have HE := Lib.hid (HE.out.trans h2)
      have HSM := Lib.hid (HSM.out.ext h2)
      have HLG := Lib.hid (HLG.out.ext h2)
      have HOL := Lib.hid (HOL.out.ext h2)
      clear h2
      go_wp2_with fail
      refine (chain_c 0 0 ⟨#[69, 69, 87, 87]⟩ _).mono ?_
      rintro e V51 ⟨rfl, h2⟩
      have BC := Lib.hid (show V51.heap[V50.heap.size]? = some (.cells #[.int .i64 1, .int .i64 1, .string ⟨#[69, 69, 78, 78, 87, 83, 87, 83]⟩] 63 (0, 0)) from block_ext h2 (heap_alloc_new _ _))
      replace h2 : Ext V50 V51 := ((Ext.refl _).alloc _).trans h2
      have HE := Lib.hid (HE.out.trans h2)
      have HSM := Lib.hid (HSM.out.ext h2)
      have HLG := Lib.hid (HLG.out.ext h2)
      have HOL := Lib.hid (HOL.out.ext h2)
      obtain ⟨zc, hzc⟩ : ∃ z, z = V50.heap.size := ⟨_, rfl⟩
      rw [← hzc] at BC ⊢
      clear hzc h2
      go_wp2_with fail
      refine (wk10 V51).mono ?_
      rintro e V52 ⟨rfl, h2⟩
      have HE := Lib.hid (HE.out.trans h2)
      have HSM := Lib.hid (HSM.out.ext h2)
      have HLG := Lib.hid (HLG.out.ext h2)
      have HOL := Lib.hid (HOL.out.ext h2)
      have BC := Lib.hid (block_ext h2 BC.out)
      clear h2
      have c0 := cell_of_blk (o := 0) BC.out rfl; have c1 := cell_of_blk (o := 1) BC.out rfl; have c2 := cell_of_blk (o := 2) BC.out rfl
      go_wp2_with fail
      refine (wk11 V52).mono ?_
      rintro e V53 ⟨ia, ic, rfl, h1, h2⟩
      have HE := Lib.hid (HE.out.trans h2)
      have HSM := Lib.hid (HSM.out.ext h2)
      have HLG := Lib.hid (HLG.out.ext h2)
      have HOL := Lib.hid (HOL.out.ext h2)
      have HIL := Lib.hid h1; have BC := Lib.hid (block_ext h2 BC.out)
      clear h1 c0 c1 c2
      clear h2
      have c0 := cell_of_blk (o := 0) BC.out rfl; have c1 := cell_of_blk (o := 1) BC.out rfl; have c2 := cell_of_blk (o := 2) BC.out rfl
      go_wp2_with fail
      refine (wk12 V53).mono ?_
      rintro e V54 ⟨rfl, h2⟩
      have HE := Lib.hid (HE.out.trans h2)
      have HSM := Lib.hid (HSM.out.ext h2)
      have HLG := Lib.hid (HLG.out.ext h2)
      have HOL := Lib.hid (HOL.out.ext h2)
      have HIL := Lib.hid (HIL.out.ext h2)
      clear c0 c1 c2
      clear h2
      go_wp2_with fail
      refine (wk13 V54).mono ?_
      rintro e V55 ⟨rfl, h2⟩
      have HE := Lib.hid (HE.out.trans h2)
      have HSM := Lib.hid (HSM.out.ext h2)
      have HLG := Lib.hid (HLG.out.ext h2)
      have HOL := Lib.hid (HOL.out.ext h2)
      have HIL := Lib.hid (HIL.out.ext h2)
      clear h2
      obtain ⟨z0, z1, z2, z3⟩ := cells4 (block_ext HE.out BR.out)
      go_wp2_with fail
      refine (wk14 V55 _ ou ol (HRA.out.ext HE.out) HOL.out H8.out).mono ?_
      rintro e V56 ⟨rfl, h2⟩
      clear z0 z1 z2 z3
      have HE := Lib.hid (HE.out.trans h2)
      have HSM := Lib.hid (HSM.out.ext h2)
      have HLG := Lib.hid (HLG.out.ext h2)
      have HOL := Lib.hid (HOL.out.ext h2)
      have HIL := Lib.hid (HIL.out.ext h2)
      clear h2
      go_wp2_with fail
      refine (of_c _ _).mono ?_
      rintro e Yq ⟨rfl, h2⟩
      subst Yq
      obtain ⟨V57, hV57⟩ : ∃ Y, Y = V56.alloc (.cells #[.int .i64 5, .int .i64 7] 3) := ⟨_, rfl⟩
      rw [← hV57]
      have h2 : Ext V56 V57 := by rw [hV57]; exact (Ext.refl _).alloc _
      have RL := Lib.hid (show Reads V57 (.slice (some ⟨V56.heap.size, 0, none⟩) 2 2) [5, 7] from by rw [hV57]; exact Reads.new _ _ _ _ rfl (by decide) _ rfl 2 2 rfl)
      have HE := Lib.hid (HE.out.trans h2)
      have HSM := Lib.hid (HSM.out.ext h2)
      have HLG := Lib.hid (HLG.out.ext h2)
      have HOL := Lib.hid (HOL.out.ext h2)
      have HIL := Lib.hid (HIL.out.ext h2)
      clear h2 hV57
      go_wp2_with fail
      refine (wkI _ _ [5, 7] V57 HSM.out RL.out).mono ?_
      rintro e V58 ⟨rfl, h2⟩
      have HE := Lib.hid (HE.out.trans h2)
      have HSM := Lib.hid (HSM.out.ext h2)
      have HLG := Lib.hid (HLG.out.ext h2)
      have HOL := Lib.hid (HOL.out.ext h2)
      have HIL := Lib.hid (HIL.out.ext h2)
      clear h2 RL
      go_wp2_with fail
      refine (of_c _ _).mono ?_
      rintro e Yq ⟨rfl, h2⟩
      subst Yq
      obtain ⟨V59, hV59⟩ : ∃ Y, Y = V58.alloc (.cells #[.int .i64 5, .int .i64 6, .int .i64 7] 3) := ⟨_, rfl⟩
      rw [← hV59]
      have h2 : Ext V58 V59 := by rw [hV59]; exact (Ext.refl _).alloc _
      have RL := Lib.hid (show Reads V59 (.slice (some ⟨V58.heap.size, 0, none⟩) 3 3) [5, 6, 7] from by rw [hV59]; exact Reads.new _ _ _ _ rfl (by decide) _ rfl 3 3 rfl)
      have HE := Lib.hid (HE.out.trans h2)
      have HSM := Lib.hid (HSM.out.ext h2)
      have HLG := Lib.hid (HLG.out.ext h2)
      have HOL := Lib.hid (HOL.out.ext h2)
      have HIL := Lib.hid (HIL.out.ext h2)
      clear h2 hV59
      go_wp2_with fail
      refine (wkI _ _ [5, 6, 7] V59 HLG.out RL.out).mono ?_
      rintro e V60 ⟨rfl, h2⟩
      have HE := Lib.hid (HE.out.trans h2)
      have HSM := Lib.hid (HSM.out.ext h2)
      have HLG := Lib.hid (HLG.out.ext h2)
      have HOL := Lib.hid (HOL.out.ext h2)
      have HIL := Lib.hid (HIL.out.ext h2)
      clear h2 RL
      go_wp2_with fail
      refine (of_c _ _).mono ?_
      rintro e Yq ⟨rfl, h2⟩
      subst Yq
      obtain ⟨V61, hV61⟩ : ∃ Y, Y = V60.alloc (.cells #[.int .i64 9, .int .i64 10, .int .i64 18] 3) := ⟨_, rfl⟩
      rw [← hV61]
      have h2 : Ext V60 V61 := by rw [hV61]; exact (Ext.refl _).alloc _
      have RL := Lib.hid (show Reads V61 (.slice (some ⟨V60.heap.size, 0, none⟩) 3 3) [9, 10, 18] from by rw [hV61]; exact Reads.new _ _ _ _ rfl (by decide) _ rfl 3 3 rfl)
      have HE := Lib.hid (HE.out.trans h2)
      have HSM := Lib.hid (HSM.out.ext h2)
      have HLG := Lib.hid (HLG.out.ext h2)
      have HOL := Lib.hid (HOL.out.ext h2)
      have HIL := Lib.hid (HIL.out.ext h2)
      clear h2 hV61
      go_wp2_with fail
      refine (wkI _ _ [9, 10, 18] V61 HIL.out RL.out).mono ?_
      rintro e V62 ⟨rfl, h2⟩
      have HE := Lib.hid (HE.out.trans h2)
      have HSM := Lib.hid (HSM.out.ext h2)
      have HLG := Lib.hid (HLG.out.ext h2)
      have HOL := Lib.hid (HOL.out.ext h2)
      have HIL := Lib.hid (HIL.out.ext h2)
      clear h2 RL
      go_wp2
      go_ret
      exact ⟨rfl, HW.out.trans HE.out⟩
end Go.Proofs.YtppjnpempgpkaaaGreat
