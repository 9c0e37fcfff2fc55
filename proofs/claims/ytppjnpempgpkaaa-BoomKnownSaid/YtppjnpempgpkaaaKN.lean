/- BoomKnown, by its contract. -/
import Derived.Test.YtppjnpempgpkaaaS6
import Derived.Test.YtppjnpempgpkaaaS7
import Derived.Test.YtppjnpempgpkaaaAR
import Derived.Test.YtppjnpempgpkaaaH7
import Derived.Test.YtppjnpempgpkaaaH6
import Derived.Test.YtppjnpempgpkaaaN3
import Derived.Test.YtppjnpempgpkaaaK1
namespace Go.Proofs.Ytppjnpempgpkaaa
open Go.RowKit Go.Shelf
set_option linter.unusedVariables false
set_option linter.unusedSimpArgs false
attribute [local go_sem] Oper.semAt_some

theorem reads_blk1 {X : World} {g : Nat} {a : Int} {t : TypeId} (h : X.heap[g]? = some (.cells #[.int .i64 a] t (0, 0))) : Reads X (.slice (some ⟨g, 0, none⟩) 1 1) [a] :=
  ⟨by simp, _, _, rfl, ⟨by simp, by decide⟩, .inr ⟨g, 0, rfl, fun i hi => match i, hi with
    | 0, hi => cell_of_blk h rfl
    | k + 1, hi => absurd hi (by simp)⟩⟩
theorem ReadsW.one {Y : World} {T : TypeId} {b : Nat} {u : Value} {xs : List Int} {o1 : Int} (hb : Y.heap[b]? = some (.cells #[u, .int .i64 o1] T (0, 0))) (hx : Reads Y u xs) : ReadsW Y (.slice (some ⟨b, 0, none⟩) 1 1) [(xs, o1)] := by
  obtain ⟨c0, c1⟩ := cells2 hb
  refine ⟨by simp, _, _, rfl, ⟨by simp, by decide⟩, .inr ⟨b, 0, rfl, fun i x hi => ?_⟩⟩
  match i, hi with
  | 0, hi => simp at hi; subst hi; exact ⟨u, c0, hx, c1⟩
  | k + 1, hi => simp at hi
set_option maxRecDepth 100000 in
theorem knAr (w : World) : Calls Try.prog 37 #[.agg #[.int .i64 1, .int .i64 1, .string ⟨#[69, 69, 78, 78, 87, 83, 87, 83]⟩], .int .i64 0, .bool true] w fun e w' => e = .returned (.agg #[.int .i64 1, .int .i64 1, .string ⟨#[78, 69, 78, 69, 83, 83, 87, 87]⟩]) ∧ Ext w w' := by
  have h := around_c 1 1 ⟨#[69, 69, 78, 78, 87, 83, 87, 83]⟩ 0 true w (by decide) (by decide) 1 1 (by decide +kernel)
  rw [show arS true 0 ⟨#[69, 69, 78, 78, 87, 83, 87, 83]⟩ = ⟨#[78, 69, 78, 69, 83, 83, 87, 87]⟩ from by decide +kernel] at h
  exact h
set_option maxRecDepth 100000 in
set_option maxHeartbeats 8000000 in
theorem known_c (w : World) : Calls Try.prog 11 #[] w fun e w' => e = .returned (.bool true) ∧ Ext w w' := by
  go_enter Try.func11, Try.ntmps11
  go_wp2_with fail
  refine (of_c _ _).mono ?_
  rintro e w1 ⟨rfl, rfl⟩
  go_wp2_with fail
  refine (of_c _ _).mono ?_
  rintro e w1 ⟨rfl, rfl⟩
  go_wp2_with fail
  refine (pond_c 4 3 1 1 1 1 _ _ _).mono ?_
  rintro e w1 ⟨rfl, hb⟩
  go_wp2_with fail
  refine (of_c _ _).mono ?_
  rintro e w1 ⟨rfl, rfl⟩
  go_wp2_with fail
  refine (pond_c 4 3 2 2 0 0 _ _ _).mono ?_
  rintro e w2 ⟨rfl, hb2⟩
  go_upto_region 2 with fail
  obtain ⟨w3, hw3⟩ : ∃ w3, w3 = (w2.alloc (.cells #[.int .i64 4, .int .i64 3, .slice (some ⟨w.heap.size, 0, none⟩) 1 1, .slice (some ⟨w.heap.size + 1, 0, none⟩) 1 1] 24)).alloc (.cells #[.int .i64 4, .int .i64 3, .slice (some ⟨w1.heap.size, 0, none⟩) 2 2, .slice none 0 0] 24) := ⟨_, rfl⟩
  have E23 : Ext w2 w3 := by rw [hw3]; exact ((Ext.refl _).alloc _).alloc _
  have BP := Lib.hid (show w3.heap[w2.heap.size]? = some (.cells #[.int .i64 4, .int .i64 3, .slice (some ⟨w.heap.size, 0, none⟩) 1 1, .slice (some ⟨w.heap.size + 1, 0, none⟩) 1 1] 24 (0, 0)) from by rw [hw3]; exact block_ext ((Ext.refl _).alloc _) (heap_alloc_new _ _))
  have BR := Lib.hid (show w3.heap[w2.heap.size + 1]? = some (.cells #[.int .i64 4, .int .i64 3, .slice (some ⟨w1.heap.size, 0, none⟩) 2 2, .slice none 0 0] 24 (0, 0)) from by rw [hw3]; exact heap_alloc_at _ _ (by simp))
  have HRA := Lib.hid (show Reads w3 (.slice (some ⟨w1.heap.size, 0, none⟩) 2 2) [5, 7] from ((Reads.new w1 [5, 7] 3 _ rfl (by decide) _ rfl 2 2 rfl).ext hb2).ext E23)
  have HPA := Lib.hid (show Reads w3 (.slice (some ⟨w.heap.size, 0, none⟩) 1 1) [5] from ((((Reads.new w [5] 3 _ rfl (by decide) _ rfl 1 1 rfl).ext ((Ext.refl _).alloc _)).ext hb).ext ((Ext.refl _).alloc _)).ext (hb2.trans E23))
  have HPB := Lib.hid (show Reads w3 (.slice (some ⟨w.heap.size + 1, 0, none⟩) 1 1) [6] from (((Reads.new (w.alloc (.cells #[.int .i64 5] 3)) [6] 3 _ (by simp) (by decide) _ rfl 1 1 rfl).ext hb).ext ((Ext.refl _).alloc _)).ext (hb2.trans E23))
  have HW := Lib.hid (show Ext w w3 from ((((((Ext.refl w).alloc _).alloc _).trans hb).alloc _).trans hb2).trans E23)
  have HE := Lib.hid (Ext.refl w3)
  rw [← hw3]
  clear hb hb2 hw3 E23
  go_upto_region 2 with fail
  refine wp_region_order ((fun Y : World => Y.heap[w2.heap.size]? = some (.cells #[.int .i64 4, .int .i64 3, .slice (some ⟨w.heap.size, 0, none⟩) 1 1, .slice (some ⟨w.heap.size + 1, 0, none⟩) 1 1] 24 (0, 0)))) [0, 1, 2, 3, 4, 5, 6, 7, 8] (by kernel_rfl) (by kernel_rfl) (by exact (block_ext HE.out BP.out)) (fun hHeld => ?_)
  simp only [opsIn, List.filterMap_cons, List.filterMap_nil, List.getElem?_toArray, List.getElem?_cons_succ, List.getElem?_cons_zero]
  obtain ⟨V1, hV1⟩ : ∃ Y, Y = w3.drew := ⟨_, rfl⟩
  have HE := Lib.hid (show Ext w3 V1 from by rw [hV1]; exact HE.out.drew)
  have XV1 := Lib.hid (show Ext w3 V1 from by rw [hV1]; exact (Ext.refl _).drew)
  rw [← hV1] at hHeld ⊢
  clear hV1
  clear XV1
  refine' text_chunk 1 (by kernel_rfl) hHeld ?ck1 ?cr1
  case ck1 =>
    intro W hSw
    have hSW := hSw
    try dsimp only at hSW
    clear hSw
    obtain ⟨z0, z1, z2, z3⟩ := cells4 hSW
    simp only [List.take_succ_cons, List.take_zero, List.drop_succ_cons, List.drop_zero]
    repeat (go_big_quiet_step (fail))
    exact wpQuiet_nil rfl
  simp only [List.take_succ_cons, List.take_zero, List.drop_succ_cons, List.drop_zero]
  refine text_call (by rfl) (by rfl) (fun K hK => ?_)
  go_simp
  refine hK.out _ _ (by exact block_ext ((Ext.refl _).alloc _) hHeld) (fun hHeld => ?_)
  clear hK K
  try simp only [Act.put, List.setIfInBounds_toArray, List.set_cons_zero, List.set_cons_succ]
  obtain ⟨V2, hV2⟩ : ∃ Y, Y = V1.alloc (.cells #[.int .i64 5] 3) := ⟨_, rfl⟩
  rw [← hV2] at hHeld ⊢
  have BV2 := Lib.hid (show V2.heap[V1.heap.size]? = some (.cells #[.int .i64 5] 3 (0, 0)) from by rw [hV2]; exact heap_alloc_new _ _)
  have HE := Lib.hid (show Ext w3 V2 from by rw [hV2]; exact HE.out.alloc _)
  have XV2 := Lib.hid (show Ext V1 V2 from by rw [hV2]; exact (Ext.refl _).alloc _)
  clear hV2
  have RV2 := Lib.hid (show Reads V2 (.slice (some ⟨V1.heap.size, 0, none⟩) 1 1) [5] from reads_blk1 BV2.out)
  refine text_call (by rfl) (by rfl) (fun K hK => ?_)
  go_simp
  refine (of_c _ _).mono ?_
  intro e Yq h1; obtain ⟨h1, h2⟩ := h1; subst h1; subst Yq
  all_goals (try (go_wp2_with fail))
  refine hK.out _ _ (by exact hHeld) (fun hHeld => ?_)
  clear hK K
  try simp only [Act.put, List.setIfInBounds_toArray, List.set_cons_zero, List.set_cons_succ]
  refine text_call (by rfl) (by rfl) (fun K hK => ?_)
  go_simp
  refine (kn1 _ _ _ _ (HPA.out.ext HE.out) (HPB.out.ext HE.out) RV2.out).mono ?_
  intro e V3 h1; obtain ⟨h1, h2⟩ := h1; subst h1
  have HE := Lib.hid (HE.out.trans h2); have XV3 := Lib.hid h2
  clear h2
  all_goals (try (go_wp2_with fail))
  refine hK.out _ _ (by exact block_ext XV3.out hHeld) (fun hHeld => ?_)
  clear hK K
  try simp only [Act.put, List.setIfInBounds_toArray, List.set_cons_zero, List.set_cons_succ]
  refine' text_chunk 5 (by kernel_rfl) hHeld ?ck2 ?cr2
  case ck2 =>
    intro W hSw
    have hSW := hSw
    try dsimp only at hSW
    clear hSw
    skip
    simp only [List.take_succ_cons, List.take_zero, List.drop_succ_cons, List.drop_zero]
    repeat (go_big_quiet_step (fail))
    exact wpQuiet_nil rfl
  simp only [List.take_succ_cons, List.take_zero, List.drop_succ_cons, List.drop_zero]
  refine text_done ?_
  clear hHeld BV2 XV2 RV2 XV3
  go_upto_region 3 with fail
  refine wp_region_order ((fun Y : World => Y.heap[w2.heap.size]? = some (.cells #[.int .i64 4, .int .i64 3, .slice (some ⟨w.heap.size, 0, none⟩) 1 1, .slice (some ⟨w.heap.size + 1, 0, none⟩) 1 1] 24 (0, 0)))) [0, 1, 2, 3, 4, 5, 6, 7, 8] (by kernel_rfl) (by kernel_rfl) (by exact (block_ext HE.out BP.out)) (fun hHeld => ?_)
  simp only [opsIn, List.filterMap_cons, List.filterMap_nil, List.getElem?_toArray, List.getElem?_cons_succ, List.getElem?_cons_zero]
  obtain ⟨V4, hV4⟩ : ∃ Y, Y = V3.drew := ⟨_, rfl⟩
  have HE := Lib.hid (show Ext w3 V4 from by rw [hV4]; exact HE.out.drew)
  have XV4 := Lib.hid (show Ext V3 V4 from by rw [hV4]; exact (Ext.refl _).drew)
  rw [← hV4] at hHeld ⊢
  clear hV4
  clear XV4
  refine' text_chunk 1 (by kernel_rfl) hHeld ?ck3 ?cr3
  case ck3 =>
    intro W hSw
    have hSW := hSw
    try dsimp only at hSW
    clear hSw
    obtain ⟨z0, z1, z2, z3⟩ := cells4 hSW
    simp only [List.take_succ_cons, List.take_zero, List.drop_succ_cons, List.drop_zero]
    repeat (go_big_quiet_step (fail))
    exact wpQuiet_nil rfl
  simp only [List.take_succ_cons, List.take_zero, List.drop_succ_cons, List.drop_zero]
  refine text_call (by rfl) (by rfl) (fun K hK => ?_)
  go_simp
  refine hK.out _ _ (by exact block_ext ((Ext.refl _).alloc _) hHeld) (fun hHeld => ?_)
  clear hK K
  try simp only [Act.put, List.setIfInBounds_toArray, List.set_cons_zero, List.set_cons_succ]
  obtain ⟨V5, hV5⟩ : ∃ Y, Y = V4.alloc (.cells #[.int .i64 4] 3) := ⟨_, rfl⟩
  rw [← hV5] at hHeld ⊢
  have BV5 := Lib.hid (show V5.heap[V4.heap.size]? = some (.cells #[.int .i64 4] 3 (0, 0)) from by rw [hV5]; exact heap_alloc_new _ _)
  have HE := Lib.hid (show Ext w3 V5 from by rw [hV5]; exact HE.out.alloc _)
  have XV5 := Lib.hid (show Ext V4 V5 from by rw [hV5]; exact (Ext.refl _).alloc _)
  clear hV5
  have RV5 := Lib.hid (show Reads V5 (.slice (some ⟨V4.heap.size, 0, none⟩) 1 1) [4] from reads_blk1 BV5.out)
  refine text_call (by rfl) (by rfl) (fun K hK => ?_)
  go_simp
  refine (of_c _ _).mono ?_
  intro e Yq h1; obtain ⟨h1, h2⟩ := h1; subst h1; subst Yq
  all_goals (try (go_wp2_with fail))
  refine hK.out _ _ (by exact hHeld) (fun hHeld => ?_)
  clear hK K
  try simp only [Act.put, List.setIfInBounds_toArray, List.set_cons_zero, List.set_cons_succ]
  refine text_call (by rfl) (by rfl) (fun K hK => ?_)
  go_simp
  refine (kn2 _ _ _ _ (HPA.out.ext HE.out) (HPB.out.ext HE.out) RV5.out).mono ?_
  intro e V6 h1; obtain ⟨h1, h2⟩ := h1; subst h1
  have HE := Lib.hid (HE.out.trans h2); have XV6 := Lib.hid h2
  clear h2
  all_goals (try (go_wp2_with fail))
  refine hK.out _ _ (by exact block_ext XV6.out hHeld) (fun hHeld => ?_)
  clear hK K
  try simp only [Act.put, List.setIfInBounds_toArray, List.set_cons_zero, List.set_cons_succ]
  refine' text_chunk 5 (by kernel_rfl) hHeld ?ck4 ?cr4
  case ck4 =>
    intro W hSw
    have hSW := hSw
    try dsimp only at hSW
    clear hSw
    skip
    simp only [List.take_succ_cons, List.take_zero, List.drop_succ_cons, List.drop_zero]
    repeat (go_big_quiet_step (fail))
    exact wpQuiet_nil rfl
  simp only [List.take_succ_cons, List.take_zero, List.drop_succ_cons, List.drop_zero]
  refine text_done ?_
  clear hHeld BV5 XV5 RV5 XV6
  obtain ⟨z0, z1, z2, z3⟩ := cells4 (block_ext HE.out BP.out)
  go_wp2_with fail
  refine (kn3 V6 _ _ (HPA.out.ext HE.out) (HPB.out.ext HE.out)).mono ?_
  rintro e V7 ⟨rfl, h2⟩
  clear z0 z1 z2 z3
  have HE := Lib.hid (HE.out.trans h2)
  clear h2
  obtain ⟨z0, z1, z2, z3⟩ := cells4 (block_ext HE.out BR.out)
  go_wp2_with fail
  refine (kn4 V7 _ (HRA.out.ext HE.out)).mono ?_
  rintro e V8 ⟨rfl, h2⟩
  clear z0 z1 z2 z3
  have HE := Lib.hid (HE.out.trans h2)
  clear h2
  obtain ⟨z0, z1, z2, z3⟩ := cells4 (block_ext HE.out BR.out)
  go_wp2_with fail
  refine (kn5 V8 _ (HRA.out.ext HE.out)).mono ?_
  rintro e V9 ⟨rfl, h2⟩
  clear z0 z1 z2 z3
  have HE := Lib.hid (HE.out.trans h2)
  clear h2
  go_upto_region 7 with fail
  refine wp_region_order ((fun Y : World => Y.heap[w2.heap.size]? = some (.cells #[.int .i64 4, .int .i64 3, .slice (some ⟨w.heap.size, 0, none⟩) 1 1, .slice (some ⟨w.heap.size + 1, 0, none⟩) 1 1] 24 (0, 0)))) [0, 1, 2, 3, 4, 5, 6, 7, 8, 9] (by kernel_rfl) (by kernel_rfl) (by exact (block_ext HE.out BP.out)) (fun hHeld => ?_)
  simp only [opsIn, List.filterMap_cons, List.filterMap_nil, List.getElem?_toArray, List.getElem?_cons_succ, List.getElem?_cons_zero]
  obtain ⟨V10, hV10⟩ : ∃ Y, Y = V9.drew := ⟨_, rfl⟩
  have HE := Lib.hid (show Ext w3 V10 from by rw [hV10]; exact HE.out.drew)
  have XV10 := Lib.hid (show Ext V9 V10 from by rw [hV10]; exact (Ext.refl _).drew)
  rw [← hV10] at hHeld ⊢
  clear hV10
  clear XV10
  refine' text_chunk 1 (by kernel_rfl) hHeld ?ck5 ?cr5
  case ck5 =>
    intro W hSw
    have hSW := hSw
    try dsimp only at hSW
    clear hSw
    obtain ⟨z0, z1, z2, z3⟩ := cells4 hSW
    simp only [List.take_succ_cons, List.take_zero, List.drop_succ_cons, List.drop_zero]
    repeat (go_big_quiet_step (fail))
    exact wpQuiet_nil rfl
  simp only [List.take_succ_cons, List.take_zero, List.drop_succ_cons, List.drop_zero]
  refine text_call (by rfl) (by rfl) (fun K hK => ?_)
  go_simp
  refine hK.out _ _ (by exact block_ext ((Ext.refl _).alloc _) hHeld) (fun hHeld => ?_)
  clear hK K
  try simp only [Act.put, List.setIfInBounds_toArray, List.set_cons_zero, List.set_cons_succ]
  obtain ⟨V11, hV11⟩ : ∃ Y, Y = V10.alloc (.cells #[.int .i64 5, .int .i64 9] 3) := ⟨_, rfl⟩
  rw [← hV11] at hHeld ⊢
  have BV11 := Lib.hid (show V11.heap[V10.heap.size]? = some (.cells #[.int .i64 5, .int .i64 9] 3 (0, 0)) from by rw [hV11]; exact heap_alloc_new _ _)
  have HE := Lib.hid (show Ext w3 V11 from by rw [hV11]; exact HE.out.alloc _)
  have XV11 := Lib.hid (show Ext V10 V11 from by rw [hV11]; exact (Ext.refl _).alloc _)
  clear hV11
  have RV11 := Lib.hid (show Reads V11 (.slice (some ⟨V10.heap.size, 0, none⟩) 2 2) [5, 9] from reads_blk2 BV11.out)
  refine text_call (by rfl) (by rfl) (fun K hK => ?_)
  go_simp
  refine (way_c (1) _ 2 2 _).mono ?_
  intro e V12 h1; obtain ⟨h1, h2⟩ := h1; subst h1
  have HE := Lib.hid (HE.out.trans h2); have XV12 := Lib.hid h2
  clear h2
  all_goals (try (go_wp2_with fail))
  refine hK.out _ _ (by exact block_ext XV12.out hHeld) (fun hHeld => ?_)
  clear hK K
  try simp only [Act.put, List.setIfInBounds_toArray, List.set_cons_zero, List.set_cons_succ]
  refine text_call (by rfl) (by rfl) (fun K hK => ?_)
  go_simp
  refine hK.out _ _ (by exact block_ext ((Ext.refl _).alloc _) hHeld) (fun hHeld => ?_)
  clear hK K
  try simp only [Act.put, List.setIfInBounds_toArray, List.set_cons_zero, List.set_cons_succ]
  obtain ⟨V13, hV13⟩ : ∃ Y, Y = V12.alloc (.cells #[.slice (some ⟨V10.heap.size, 0, none⟩) 2 2, .int .i64 (1)] 68) := ⟨_, rfl⟩
  rw [← hV13] at hHeld ⊢
  have BV13 := Lib.hid (show V13.heap[V12.heap.size]? = some (.cells #[.slice (some ⟨V10.heap.size, 0, none⟩) 2 2, .int .i64 (1)] 68 (0, 0)) from by rw [hV13]; exact heap_alloc_new _ _)
  have HE := Lib.hid (show Ext w3 V13 from by rw [hV13]; exact HE.out.alloc _)
  have XV13 := Lib.hid (show Ext V12 V13 from by rw [hV13]; exact (Ext.refl _).alloc _)
  clear hV13
  have RV13 := Lib.hid (ReadsW.one BV13.out ((RV11.out.ext XV12.out).ext XV13.out))
  refine text_call (by rfl) (by rfl) (fun K hK => ?_)
  go_simp
  refine (kn6 _ _ _ _ (HPA.out.ext HE.out) (HPB.out.ext HE.out) RV13.out).mono ?_
  intro e V14 h1; obtain ⟨h1, h2⟩ := h1; subst h1
  have HE := Lib.hid (HE.out.trans h2); have XV14 := Lib.hid h2
  clear h2
  all_goals (try (go_wp2_with fail))
  refine hK.out _ _ (by exact block_ext XV14.out hHeld) (fun hHeld => ?_)
  clear hK K
  try simp only [Act.put, List.setIfInBounds_toArray, List.set_cons_zero, List.set_cons_succ]
  refine' text_chunk 5 (by kernel_rfl) hHeld ?ck6 ?cr6
  case ck6 =>
    intro W hSw
    have hSW := hSw
    try dsimp only at hSW
    clear hSw
    skip
    simp only [List.take_succ_cons, List.take_zero, List.drop_succ_cons, List.drop_zero]
    repeat (go_big_quiet_step (fail))
    exact wpQuiet_nil rfl
  simp only [List.take_succ_cons, List.take_zero, List.drop_succ_cons, List.drop_zero]
  refine text_done ?_
  clear hHeld BV11 XV11 RV11 XV12 BV13 XV13 RV13 XV14
  go_upto_region 8 with fail
  refine wp_region_order ((fun Y : World => Y.heap[w2.heap.size]? = some (.cells #[.int .i64 4, .int .i64 3, .slice (some ⟨w.heap.size, 0, none⟩) 1 1, .slice (some ⟨w.heap.size + 1, 0, none⟩) 1 1] 24 (0, 0)))) [0, 1, 2, 3, 4, 5, 6, 7, 8, 9] (by kernel_rfl) (by kernel_rfl) (by exact (block_ext HE.out BP.out)) (fun hHeld => ?_)
  simp only [opsIn, List.filterMap_cons, List.filterMap_nil, List.getElem?_toArray, List.getElem?_cons_succ, List.getElem?_cons_zero]
  obtain ⟨V15, hV15⟩ : ∃ Y, Y = V14.drew := ⟨_, rfl⟩
  have HE := Lib.hid (show Ext w3 V15 from by rw [hV15]; exact HE.out.drew)
  have XV15 := Lib.hid (show Ext V14 V15 from by rw [hV15]; exact (Ext.refl _).drew)
  rw [← hV15] at hHeld ⊢
  clear hV15
  clear XV15
  refine' text_chunk 1 (by kernel_rfl) hHeld ?ck7 ?cr7
  case ck7 =>
    intro W hSw
    have hSW := hSw
    try dsimp only at hSW
    clear hSw
    obtain ⟨z0, z1, z2, z3⟩ := cells4 hSW
    simp only [List.take_succ_cons, List.take_zero, List.drop_succ_cons, List.drop_zero]
    repeat (go_big_quiet_step (fail))
    exact wpQuiet_nil rfl
  simp only [List.take_succ_cons, List.take_zero, List.drop_succ_cons, List.drop_zero]
  refine text_call (by rfl) (by rfl) (fun K hK => ?_)
  go_simp
  refine hK.out _ _ (by exact block_ext ((Ext.refl _).alloc _) hHeld) (fun hHeld => ?_)
  clear hK K
  try simp only [Act.put, List.setIfInBounds_toArray, List.set_cons_zero, List.set_cons_succ]
  obtain ⟨V16, hV16⟩ : ∃ Y, Y = V15.alloc (.cells #[.int .i64 5, .int .i64 9] 3) := ⟨_, rfl⟩
  rw [← hV16] at hHeld ⊢
  have BV16 := Lib.hid (show V16.heap[V15.heap.size]? = some (.cells #[.int .i64 5, .int .i64 9] 3 (0, 0)) from by rw [hV16]; exact heap_alloc_new _ _)
  have HE := Lib.hid (show Ext w3 V16 from by rw [hV16]; exact HE.out.alloc _)
  have XV16 := Lib.hid (show Ext V15 V16 from by rw [hV16]; exact (Ext.refl _).alloc _)
  clear hV16
  have RV16 := Lib.hid (show Reads V16 (.slice (some ⟨V15.heap.size, 0, none⟩) 2 2) [5, 9] from reads_blk2 BV16.out)
  refine text_call (by rfl) (by rfl) (fun K hK => ?_)
  go_simp
  refine (way_c (0) _ 2 2 _).mono ?_
  intro e V17 h1; obtain ⟨h1, h2⟩ := h1; subst h1
  have HE := Lib.hid (HE.out.trans h2); have XV17 := Lib.hid h2
  clear h2
  all_goals (try (go_wp2_with fail))
  refine hK.out _ _ (by exact block_ext XV17.out hHeld) (fun hHeld => ?_)
  clear hK K
  try simp only [Act.put, List.setIfInBounds_toArray, List.set_cons_zero, List.set_cons_succ]
  refine text_call (by rfl) (by rfl) (fun K hK => ?_)
  go_simp
  refine hK.out _ _ (by exact block_ext ((Ext.refl _).alloc _) hHeld) (fun hHeld => ?_)
  clear hK K
  try simp only [Act.put, List.setIfInBounds_toArray, List.set_cons_zero, List.set_cons_succ]
  obtain ⟨V18, hV18⟩ : ∃ Y, Y = V17.alloc (.cells #[.slice (some ⟨V15.heap.size, 0, none⟩) 2 2, .int .i64 (0)] 68) := ⟨_, rfl⟩
  rw [← hV18] at hHeld ⊢
  have BV18 := Lib.hid (show V18.heap[V17.heap.size]? = some (.cells #[.slice (some ⟨V15.heap.size, 0, none⟩) 2 2, .int .i64 (0)] 68 (0, 0)) from by rw [hV18]; exact heap_alloc_new _ _)
  have HE := Lib.hid (show Ext w3 V18 from by rw [hV18]; exact HE.out.alloc _)
  have XV18 := Lib.hid (show Ext V17 V18 from by rw [hV18]; exact (Ext.refl _).alloc _)
  clear hV18
  have RV18 := Lib.hid (ReadsW.one BV18.out ((RV16.out.ext XV17.out).ext XV18.out))
  refine text_call (by rfl) (by rfl) (fun K hK => ?_)
  go_simp
  refine (kn7 _ _ _ _ (HPA.out.ext HE.out) (HPB.out.ext HE.out) RV18.out).mono ?_
  intro e V19 h1; obtain ⟨h1, h2⟩ := h1; subst h1
  have HE := Lib.hid (HE.out.trans h2); have XV19 := Lib.hid h2
  clear h2
  all_goals (try (go_wp2_with fail))
  refine hK.out _ _ (by exact block_ext XV19.out hHeld) (fun hHeld => ?_)
  clear hK K
  try simp only [Act.put, List.setIfInBounds_toArray, List.set_cons_zero, List.set_cons_succ]
  refine' text_chunk 5 (by kernel_rfl) hHeld ?ck8 ?cr8
  case ck8 =>
    intro W hSw
    have hSW := hSw
    try dsimp only at hSW
    clear hSw
    skip
    simp only [List.take_succ_cons, List.take_zero, List.drop_succ_cons, List.drop_zero]
    repeat (go_big_quiet_step (fail))
    exact wpQuiet_nil rfl
  simp only [List.take_succ_cons, List.take_zero, List.drop_succ_cons, List.drop_zero]
  refine text_done ?_
  clear hHeld BV16 XV16 RV16 XV17 BV18 XV18 RV18 XV19
  go_wp2_with fail
  refine (chain_c 1 1 ⟨#[69, 69, 78, 78, 87, 83, 87, 83]⟩ V19).mono ?_
  rintro e V20 ⟨rfl, h2⟩
  have HE := Lib.hid (HE.out.trans h2)
  clear h2
  go_wp2_with fail
  refine (knAr V20).mono ?_
  rintro e V21 ⟨rfl, h2⟩
  have HE := Lib.hid (HE.out.trans h2)
  clear h2
  go_wp2_with fail
  refine (kn8 V21).mono ?_
  rintro e V22 ⟨rfl, h2⟩
  have HE := Lib.hid (HE.out.trans h2)
  clear h2
  go_wp2_with fail
  refine (chain_c 0 0 ⟨#[69, 78, 87, 83]⟩ V22).mono ?_
  rintro e V23 ⟨rfl, h2⟩
  have HE := Lib.hid (HE.out.trans h2)
  clear h2
  go_wp2_with fail
  refine (kn9 V23).mono ?_
  rintro e V24 ⟨rfl, h2⟩
  have HE := Lib.hid (HE.out.trans h2)
  clear h2
  go_wp2_with fail
  refine (chain_c 0 0 ⟨#[69, 78, 87]⟩ V24).mono ?_
  rintro e V25 ⟨rfl, h2⟩
  have HE := Lib.hid (HE.out.trans h2)
  clear h2
  go_wp2_with fail
  refine (kn10 V25).mono ?_
  rintro e V26 ⟨rfl, h2⟩
  have HE := Lib.hid (HE.out.trans h2)
  clear h2
  go_wp2_with fail
  refine (chain_c 0 0 ⟨#[69, 69, 78, 87]⟩ V26).mono ?_
  rintro e V27 ⟨rfl, h2⟩
  have HE := Lib.hid (HE.out.trans h2)
  clear h2
  go_wp2_with fail
  refine (kn11 V27).mono ?_
  rintro e V28 ⟨rfl, h2⟩
  have HE := Lib.hid (HE.out.trans h2)
  clear h2
  go_wp2_with fail
  refine (chain_c 0 0 ⟨#[69, 78, 87, 88]⟩ V28).mono ?_
  rintro e V29 ⟨rfl, h2⟩
  have HE := Lib.hid (HE.out.trans h2)
  clear h2
  go_wp2_with fail
  refine (kn12 V29).mono ?_
  rintro e V30 ⟨rfl, h2⟩
  have HE := Lib.hid (HE.out.trans h2)
  clear h2
  go_wp2_with fail
  refine (kn13 V30).mono ?_
  rintro e V31 ⟨rfl, h2⟩
  have HE := Lib.hid (HE.out.trans h2)
  clear h2
  go_wp2_with fail
  refine (kn14 V31).mono ?_
  rintro e V32 ⟨rfl, h2⟩
  have HE := Lib.hid (HE.out.trans h2)
  clear h2
  go_wp2_with fail
  refine (works_c V32).mono ?_
  rintro e V33 ⟨rfl, h2⟩
  have HE := Lib.hid (HE.out.trans h2)
  clear h2
  go_wp2
  go_ret
  exact ⟨rfl, HW.out.trans HE.out⟩
end Go.Proofs.Ytppjnpempgpkaaa
