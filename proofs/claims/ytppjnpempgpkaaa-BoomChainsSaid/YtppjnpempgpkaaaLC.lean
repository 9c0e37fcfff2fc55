/- BoomChains, by its contract. -/
import Derived.Test.YtppjnpempgpkaaaS6
import Derived.Test.YtppjnpempgpkaaaRE
import Derived.Test.YtppjnpempgpkaaaH7
import Derived.Test.YtppjnpempgpkaaaH6
import Derived.Test.YtppjnpempgpkaaaN3
import Derived.Test.YtppjnpempgpkaaaK1
namespace Go.Proofs.Ytppjnpempgpkaaa
open Go.RowKit Go.Shelf
set_option linter.unusedVariables false
set_option linter.unusedSimpArgs false
attribute [local go_sem] Oper.semAt_some

theorem encl_small (l : List Stk) : (encl l).length ≤ 5000 := by
  unfold encl
  have h := List.length_filter_le (wat l) (List.range 64)
  rw [List.length_range] at h
  omega
theorem encl_any (X Y : Int) (s : ByteArray) (hs : s.size ≤ 5000) : ∃ (L : List Int) (r : Int), (∀ V : World, Calls Try.prog 23 #[.agg #[.int .i64 X, .int .i64 Y, .string s]] V fun e w' => ∃ a n c, e = .returned (.tuple #[.slice a n c, .int .i64 r]) ∧ Reads w' (.slice a n c) L ∧ Ext V w') ∧ (∀ V : World, Calls Try.prog 24 #[.agg #[.int .i64 X, .int .i64 Y, .string s]] V fun e w' => ∃ a n c, e = .returned (.tuple #[.slice a n c, .int .i64 r]) ∧ Reads w' (.slice a n c) L ∧ Ext V w') := by
  by_cases h : chkC X Y s = 0
  · have hl : (natI (encl (sts (X, Y) (dirs s)))).length ≤ 5000 := by
      rw [natI_len]
      exact encl_small _
    refine ⟨natI (encl (sts (X, Y) (dirs s))), 0, fun V => (enclosed_ok X Y s V h).mono fun e w' ⟨u, h1, h2, h3⟩ => ?_, fun V => (renclosed_ok X Y s V h).mono fun e w' ⟨u, h1, h2, h3⟩ => ?_⟩
    · obtain ⟨_, a, c, rfl⟩ := (h2.reads hl).shape
      exact ⟨a, _, c, h1, h2.reads hl, h3⟩
    · obtain ⟨_, a, c, rfl⟩ := (h2.reads hl).shape
      exact ⟨a, _, c, h1, h2.reads hl, h3⟩
  · exact ⟨[], _, fun V => (enclosed_no X Y s V h).mono fun e w' ⟨h1, h2⟩ => ⟨none, 0, 0, h1, Reads.nil _, h2⟩, fun V => (renclosed_no X Y s V hs h).mono fun e w' ⟨h1, h2⟩ => ⟨none, 0, 0, h1, Reads.nil _, h2⟩⟩
theorem area_any (X Y : Int) (s : ByteArray) (hs : s.size ≤ 5000) : ∃ (n : Int) (b : Bool) (r : Int), (∀ V : World, Calls Try.prog 25 #[.agg #[.int .i64 X, .int .i64 Y, .string s]] V fun e w' => e = .returned (.tuple #[.int .i64 n, .bool b, .int .i64 r]) ∧ Ext V w') ∧ (∀ V : World, Calls Try.prog 26 #[.agg #[.int .i64 X, .int .i64 Y, .string s]] V fun e w' => e = .returned (.tuple #[.int .i64 n, .bool b, .int .i64 r]) ∧ Ext V w') := by
  by_cases h : chkC X Y s = 0
  · exact ⟨_, _, 0, fun V => area_ok X Y s V h, fun V => rarea_ok X Y s V h⟩
  · exact ⟨0, false, _, fun V => area_no X Y s V h, fun V => rarea_no X Y s V hs h⟩
set_option maxRecDepth 100000 in
set_option maxHeartbeats 4000000 in
theorem chains_c (X Y : Int) (s : ByteArray) (w : World) (hs63 : s.size ≤ 9223372036854775807) : Calls Try.prog 5 #[.agg #[.int .i64 X, .int .i64 Y, .string s]] w fun e w' => e = .returned (.bool true) ∧ Ext w w' := by
  obtain ⟨w1, hw1⟩ : ∃ w1, w1 = w.alloc (.cells #[.int .i64 X, .int .i64 Y, .string s] 40) := ⟨_, rfl⟩
  have HE := Lib.hid (show Ext w w1 from by rw [hw1]; exact (Ext.refl w).alloc _)
  have B0 := Lib.hid (show w1.heap[w.heap.size]? = some (.cells #[.int .i64 X, .int .i64 Y, .string s] 40 (0, 0)) from by rw [hw1]; exact heap_alloc_new w _)
  obtain ⟨n, hn⟩ : ∃ n, n = s.size := ⟨_, rfl⟩
  have hn2 : (s.size : Int) = (n : Int) := by rw [hn]
  have c0 := cell_of_blk (o := 0) B0.out rfl; have c1 := cell_of_blk (o := 1) B0.out rfl; have c2 := cell_of_blk (o := 2) B0.out rfl
  go_enter Try.func5, Try.ntmps5
  go_upto_region 1 with fail
  rw [← hw1]
  clear hw1
  by_cases h90 : 90 < n
  · have h90i : (90 : Int) < (s.size : Int) := by omega
    go_wp2_with fail
    refine (works_c _).mono ?_
    rintro e wz ⟨rfl, hz⟩
    go_wp2
    go_ret
    exact ⟨rfl, HE.out.trans hz⟩
  · have h90i : ¬ (90 : Int) < (s.size : Int) := by omega
    obtain ⟨L, r1, h1, h2⟩ := encl_any X Y s (by omega)
    obtain ⟨m, b, r2, h3, h4⟩ := area_any X Y s (by omega)
    have H1 := Lib.hid h1; have H2 := Lib.hid h2; have H3 := Lib.hid h3; have H4 := Lib.hid h4
    have HC1 := Lib.hid (fun V => checkChain_c X Y s V)
    have HC2 := Lib.hid (fun V => rcheckChain_c X Y s V (by omega))
    generalize chkC X Y s = cr at *
    clear h1 h2 h3 h4 c0 c1 c2
    have c0 := cell_of_blk (o := 0) B0.out rfl; have c1 := cell_of_blk (o := 1) B0.out rfl; have c2 := cell_of_blk (o := 2) B0.out rfl
    go_wp2_with fail
    refine (H1.out _).mono ?_
    rintro e w2 ⟨a1, n1, k1, rfl, hr1, h2⟩
    have HE := Lib.hid (HE.out.trans h2); have B0 := Lib.hid (block_ext h2 B0.out)
    have HL1 := Lib.hid hr1
    clear hr1
    clear h2 c0 c1 c2
    have c0 := cell_of_blk (o := 0) B0.out rfl; have c1 := cell_of_blk (o := 1) B0.out rfl; have c2 := cell_of_blk (o := 2) B0.out rfl
    go_wp2_with fail
    refine (H2.out _).mono ?_
    rintro e w3 ⟨a2, n2, k2, rfl, hr2, h2⟩
    have HE := Lib.hid (HE.out.trans h2); have B0 := Lib.hid (block_ext h2 B0.out)
    have HL1 := Lib.hid (HL1.out.ext h2); have HL2 := Lib.hid hr2
    clear hr2
    clear h2 c0 c1 c2
    have c0 := cell_of_blk (o := 0) B0.out rfl; have c1 := cell_of_blk (o := 1) B0.out rfl; have c2 := cell_of_blk (o := 2) B0.out rfl
    go_wp2_with fail
    refine (H3.out _).mono ?_
    rintro e w4 ⟨rfl, h2⟩
    have HE := Lib.hid (HE.out.trans h2); have B0 := Lib.hid (block_ext h2 B0.out)
    have HL1 := Lib.hid (HL1.out.ext h2); have HL2 := Lib.hid (HL2.out.ext h2)
    clear h2 c0 c1 c2
    have c0 := cell_of_blk (o := 0) B0.out rfl; have c1 := cell_of_blk (o := 1) B0.out rfl; have c2 := cell_of_blk (o := 2) B0.out rfl
    go_wp2_with fail
    refine (H4.out _).mono ?_
    rintro e w5 ⟨rfl, h2⟩
    have HE := Lib.hid (HE.out.trans h2); have B0 := Lib.hid (block_ext h2 B0.out)
    have HL1 := Lib.hid (HL1.out.ext h2); have HL2 := Lib.hid (HL2.out.ext h2)
    clear h2 c0 c1 c2
    clear hn2 h90 h90i
    go_upto_region 7 with fail
    have HE := Lib.hid HE.out.drew
    have HL1 := Lib.hid (HL1.out.ext (Ext.refl _).drew); have HL2 := Lib.hid (HL2.out.ext (Ext.refl _).drew)
    refine wp_region_order ((fun V : World => V.heap[w.heap.size]? = some (.cells #[.int .i64 X, .int .i64 Y, .string s] 40 (0, 0)))) [0, 2, 1, 3, 4, 5, 6, 7, 8, 9, 10, 11, 12, 13, 14, 15, 16, 17, 18, 19, 20, 21, 22, 23, 24, 25, 26, 27, 28, 29, 30, 31, 32, 33] (by kernel_rfl) (by kernel_rfl) (by exact B0.out) (fun hHeld => ?_)
    simp only [opsIn, List.filterMap_cons, List.filterMap_nil, List.getElem?_toArray, List.getElem?_cons_succ, List.getElem?_cons_zero]
    refine' text_chunk 2 (by kernel_rfl) hHeld ?ck4 ?cr4
    case ck4 =>
      intro W hSw
      have hSW := hSw
      try dsimp only at hSW
      clear hSw
      have c0 := cell_of_blk (o := 0) hSW rfl; have c1 := cell_of_blk (o := 1) hSW rfl; have c2 := cell_of_blk (o := 2) hSW rfl
      simp only [List.take_succ_cons, List.take_zero, List.drop_succ_cons, List.drop_zero]
      repeat (go_big_quiet_step (fail))
      exact wpQuiet_nil rfl
    simp only [List.take_succ_cons, List.take_zero, List.drop_succ_cons, List.drop_zero]
    refine text_call (by rfl) (by rfl) (fun K hK => ?_)
    go_simp
    refine (HC1.out _).mono ?_
    intro e w6 h1; obtain ⟨h1, h2⟩ := h1; subst h1
    have HE := Lib.hid (HE.out.trans h2); have Xw6 := Lib.hid h2
    clear h2
    all_goals (try (go_wp2_with fail))
    refine hK.out _ _ (by exact block_ext Xw6.out hHeld) (fun hHeld => ?_)
    clear hK K
    try simp only [Act.put, List.setIfInBounds_toArray, List.set_cons_zero, List.set_cons_succ]
    refine text_call (by rfl) (by rfl) (fun K hK => ?_)
    go_simp
    refine (HC2.out _).mono ?_
    intro e w7 h1; obtain ⟨h1, h2⟩ := h1; subst h1
    have HE := Lib.hid (HE.out.trans h2); have Xw7 := Lib.hid h2
    clear h2
    all_goals (try (go_wp2_with fail))
    refine hK.out _ _ (by exact block_ext Xw7.out hHeld) (fun hHeld => ?_)
    clear hK K
    try simp only [Act.put, List.setIfInBounds_toArray, List.set_cons_zero, List.set_cons_succ]
    have HL1 := Lib.hid (HL1.out.ext (Xw6.out.trans Xw7.out)); have HL2 := Lib.hid (HL2.out.ext (Xw6.out.trans Xw7.out))
    refine' text_chunk 4 (by kernel_rfl) hHeld ?ck5 ?cr5
    case ck5 =>
      intro W hSw
      have hSW := hSw
      try dsimp only at hSW
      clear hSw
      skip
      simp only [List.take_succ_cons, List.take_zero, List.drop_succ_cons, List.drop_zero]
      repeat (go_big_quiet_step (fail))
      exact wpQuiet_nil rfl
    simp only [List.take_succ_cons, List.take_zero, List.drop_succ_cons, List.drop_zero]
    refine text_call (by rfl) (by rfl) (fun K hK => ?_)
    go_simp
    refine (wkI _ _ L _ HL1.out HL2.out).mono ?_
    intro e w8 h1; obtain ⟨h1, h2⟩ := h1; subst h1
    have HE := Lib.hid (HE.out.trans h2); have Xw8 := Lib.hid h2
    clear h2
    all_goals (try (go_wp2_with fail))
    refine hK.out _ _ (by exact block_ext Xw8.out hHeld) (fun hHeld => ?_)
    clear hK K
    try simp only [Act.put, List.setIfInBounds_toArray, List.set_cons_zero, List.set_cons_succ]
    refine' text_chunk 22 (by kernel_rfl) hHeld ?ck6 ?cr6
    case ck6 =>
      intro W hSw
      have hSW := hSw
      try dsimp only at hSW
      clear hSw
      skip
      simp only [List.take_succ_cons, List.take_zero, List.drop_succ_cons, List.drop_zero]
      repeat (go_big_quiet_step (fail))
      exact wpQuiet_nil rfl
    simp only [List.take_succ_cons, List.take_zero, List.drop_succ_cons, List.drop_zero]
    refine text_call (by rfl) (by rfl) (fun K hK => ?_)
    go_simp
    refine (works_c _).mono ?_
    intro e w9 h1; obtain ⟨h1, h2⟩ := h1; subst h1
    have HE := Lib.hid (HE.out.trans h2); have Xw9 := Lib.hid h2
    clear h2
    all_goals (try (go_wp2_with fail))
    refine hK.out _ _ (by exact block_ext Xw9.out hHeld) (fun hHeld => ?_)
    clear hK K
    try simp only [Act.put, List.setIfInBounds_toArray, List.set_cons_zero, List.set_cons_succ]
    refine' text_chunk 2 (by kernel_rfl) hHeld ?ck7 ?cr7
    case ck7 =>
      intro W hSw
      have hSW := hSw
      try dsimp only at hSW
      clear hSw
      skip
      simp only [List.take_succ_cons, List.take_zero, List.drop_succ_cons, List.drop_zero]
      repeat (go_big_quiet_step (fail))
      exact wpQuiet_nil rfl
    simp only [List.take_succ_cons, List.take_zero, List.drop_succ_cons, List.drop_zero]
    refine text_done ?_
    go_wp2
    go_ret
    exact ⟨rfl, HE.out⟩
end Go.Proofs.Ytppjnpempgpkaaa
