/- BoomChained, by its contract. -/
import Derived.Test.YtppjnpempgpkaaaS6
import Derived.Test.YtppjnpempgpkaaaAR
import Derived.Test.YtppjnpempgpkaaaH7
import Derived.Test.YtppjnpempgpkaaaH6
import Derived.Test.YtppjnpempgpkaaaN3
import Derived.Test.YtppjnpempgpkaaaK1
namespace Go.Proofs.Ytppjnpempgpkaaa
open Go.RowKit Go.Shelf
set_option linter.unusedVariables false
set_option linter.unusedSimpArgs false
attribute [local go_sem] Oper.semAt_some

theorem tree_take {P : Program} {ops : Array Oper} {Q : Exit → Act → World → Prop} {S : World → Prop} {o : Oper} {a : Act} {w : World} {i : Nat} {r : Tr} {v : Value} (hi : ops[i]? = some o) (hw : Region.wanted o (yielded ops a.tmps) = true) (hy : ∀ W, S W → (execOp a.eval o).run P W = .ok (.value v) W) (hr : wpTree P ops Q r S (a.put o.dst v) w) : wpTree P ops Q (.pre i r) S a w := ⟨o, hi, hw, v, hy, hr⟩
theorem encl_at (X Y : Int) (s : ByteArray) (h : chkC X Y s = 0) (V : World) : Calls Try.prog 23 #[.agg #[.int .i64 X, .int .i64 Y, .string s]] V fun e w' => ∃ a c, e = .returned (.tuple #[.slice a (encl (sts (X, Y) (dirs s))).length c, .int .i64 0]) ∧ Reads w' (.slice a (encl (sts (X, Y) (dirs s))).length c) (natI (encl (sts (X, Y) (dirs s)))) ∧ Ext V w' := by
  have hl : (encl (sts (X, Y) (dirs s))).length ≤ 64 := by
    unfold encl
    have h := List.length_filter_le (wat (sts (X, Y) (dirs s))) (List.range 64)
    rw [List.length_range] at h
    exact h
  refine (enclosed_ok X Y s V h).mono fun e w' ⟨u, h1, h2, h3⟩ => ?_
  have hr := h2.reads (by rw [natI_len]; omega)
  obtain ⟨_, a, c, rfl⟩ := hr.shape
  rw [natI_len] at h1 hr
  exact ⟨a, c, h1, hr, h3⟩
theorem encl_lst (l : List Stk) : Lst 64 (encl l) := ⟨List.pairwise_lt_range.filter _, fun x hx => List.mem_range.1 (List.mem_filter.1 hx).1⟩
theorem vpE (l : List Stk) : VP 8 8 (encl l) [] where
  w1 := by decide
  w8 := by decide
  h1 := by decide
  h8 := by decide
  want := encl_lst l
  keep := ⟨List.Pairwise.nil, fun x hx => by cases hx⟩
  dis := fun x hx => by cases hx
theorem sticks_at (l : List Stk) (n : Nat) (hn : stk G8 (wat l) = n) (a : Option Addr) (c : Nat) (X : World) (hr : Reads X (.slice a (encl l).length c) (natI (encl l))) : Calls Try.prog 14 #[.agg #[.int .i64 8, .int .i64 8, .slice a (encl l).length c, .slice none 0 0], .slice a (encl l).length c] X fun e w' => e = .returned (.tuple #[.int .i64 (n : Int), .int .i64 0]) ∧ Ext X w' := by
  have h := sticks_ok 8 8 (encl l).length c 0 0 a none (encl l) [] (vpE l) _ X hr (Reads.nil X) (encl l) (encl_lst l) hr
  have he : encB (encl l) [] (encl l) = true := by
    unfold encB
    rw [Bool.and_eq_true, List.all_eq_true]
    exact ⟨fun x hx => decide_eq_true hx, rfl⟩
  rw [if_pos he, if_pos he] at h
  have hs : stk (gp (vpE l)) (memL (encl l)) = n := by
    rw [← hn]
    refine stk_congr G8 fun x hx => ?_
    unfold memL encl
    have hx64 : x < 64 := hx
    cases hw : wat l x with
    | true => exact decide_eq_true (List.mem_filter.2 ⟨List.mem_range.2 hx64, hw⟩)
    | false => exact decide_eq_false fun h => by rw [(List.mem_filter.1 h).2] at hw; cases hw
  rw [hs] at h
  exact h
set_option maxRecDepth 100000 in
set_option maxHeartbeats 4000000 in
theorem chained_c (X Y : Int) (s : ByteArray) (fr : Nat) (hfr : fr ≤ 255) (back : Bool) (w : World) (hs63 : s.size ≤ 9223372036854775807) : Calls Try.prog 8 #[.agg #[.int .i64 X, .int .i64 Y, .string s], .int .u8 (fr : Int), .bool back] w fun e w' => e = .returned (.bool true) ∧ Ext w w' := by
  obtain ⟨w1, hw1⟩ : ∃ w1, w1 = w.alloc (.cells #[.int .i64 X, .int .i64 Y, .string s] 40) := ⟨_, rfl⟩
  have HE := Lib.hid (show Ext w w1 from by rw [hw1]; exact (Ext.refl w).alloc _)
  have B0 := Lib.hid (show w1.heap[w.heap.size]? = some (.cells #[.int .i64 X, .int .i64 Y, .string s] 40 (0, 0)) from by rw [hw1]; exact heap_alloc_new w _)
  obtain ⟨n, hn⟩ : ∃ n, n = s.size := ⟨_, rfl⟩
  have hn2 : (s.size : Int) = (n : Int) := by rw [hn]
  have c0 := cell_of_blk (o := 0) B0.out rfl; have c1 := cell_of_blk (o := 1) B0.out rfl; have c2 := cell_of_blk (o := 2) B0.out rfl
  go_enter Try.func8, Try.ntmps8
  go_upto_region 1 with fail
  rw [← hw1]
  clear hw1
  by_cases h90 : 90 < n
  · have h90i : (90 : Int) < (s.size : Int) := by omega
    go_wp2_with fail
    refine (works_c _).mono ?_
    rintro e wz ⟨rfl, hz⟩
    go_wp2
    go_ret
    exact ⟨rfl, HE.out.trans hz⟩
  · have h90i : ¬ (90 : Int) < (s.size : Int) := by omega
    have HCC := Lib.hid (fun V => rcheckChain_c X Y s V (by omega))
    obtain ⟨cr, hcr⟩ : ∃ cr, cr = chkC X Y s := ⟨_, rfl⟩
    rw [← hcr] at HCC
    by_cases h0 : cr = 0
    · obtain ⟨⟨hs4, hs80⟩, -⟩ := chk0 (h0 ▸ hcr.symm : chkC X Y s = 0)
      have HCR := Lib.hid (h0 ▸ hcr.symm : chkC X Y s = 0)
      subst h0
      clear hcr
      obtain ⟨f, hf⟩ : ∃ f, f = fr % n := ⟨_, rfl⟩
      have hfn : f < n := by rw [hf]; exact Nat.mod_lt _ (by omega)
      have hfs : f < s.size := by omega
      obtain ⟨⟨x, y⟩, hpt⟩ := get_some (xs := ptsW (X, Y) (dirs s)) (k := f) (by rw [ptsW_len, dirs_len]; omega)
      obtain ⟨a1, a2, a3, a4, a5⟩ := chain_ar HCR.out back hfs hpt
      obtain ⟨t, ht⟩ : ∃ t, t = arS back f s := ⟨_, rfl⟩
      have HAR := Lib.hid (fun V => around_c X Y s f back V (by omega) hfs x y hpt)
      rw [← ht] at a1 a2 a3 HAR
      have H1 := Lib.hid (fun V => encl_at X Y s HCR.out V)
      have H2 := Lib.hid (fun V => encl_at x y t a1 V)
      have H3 := Lib.hid (fun V => area_ok X Y s V HCR.out)
      have H4 := Lib.hid (fun V => area_ok x y t V a1)
      have H5 := Lib.hid (fun V => checkChain_c x y t V)
      have H6 := Lib.hid (sticks_at (sts (X, Y) (dirs s)) n (by rw [hn]; exact a5))
      rw [a2] at H2 H4
      rw [a3] at H4
      rw [a1] at H5
      obtain ⟨L, hL⟩ : ∃ L, L = encl (sts (X, Y) (dirs s)) := ⟨_, rfl⟩
      rw [← hL] at H1 H2 H3 H4 H6 a4
      generalize lftB (sts (X, Y) (dirs s)) = lb at *
      have hdm : (fr : Int).tmod (n : Int) = (f : Int) := by rw [hf]; exact (Int.ofNat_tmod fr n).symm
      have hdm2 : (fr : Int) % (n : Int) = (f : Int) := by rw [hf]; simp
      have hn0 : ¬ (n : Int) = 0 := by omega
      clear hL hpt a1 a2 a3 a5 ht hf HCR hs4 hs80
      go_wp2_with fail
      refine (HCC.out _).mono ?_
      rintro e w2 ⟨rfl, h2⟩
      have HE := Lib.hid (HE.out.trans h2); have B0 := Lib.hid (block_ext h2 B0.out)
      clear h2 c0 c1 c2
      go_upto_region 3 with fail
      go_cut [7] from 30 (fun b wx => ∃ g : Nat, b = .pointer (some ⟨g, 0, none⟩) ∧ Hid (wx.heap[g]? = some (.cells #[.int .i64 x, .int .i64 y, .string t] 40 (0, 0))) ∧ Hid (w2.heap.size ≤ g) ∧ Hid (Ext w2 wx))
      case first =>
        refine wp_region_tree (fun V : World => V.heap[w.heap.size]? = some (.cells #[.int .i64 X, .int .i64 Y, .string s] 40 (0, 0))) (Tr.pres [0, 1, 2, 3, 4] (.pre 5 (Tr.pres [6, 7] (.alt 8 (.lin [9, 10]) 9 (.lin [8, 10]))))) (by kernel_rfl) (by kernel_rfl) (by exact B0.out) (fun hHeld => ?_)
        obtain ⟨w5, hw5⟩ : ∃ V, V = w2.drew := ⟨_, rfl⟩
        have hE5 : Ext w2 w5 := by rw [hw5]; exact (Ext.refl _).drew
        have hz5 : w5.heap.size = w2.heap.size := by rw [hw5]; rfl
        rw [← hw5] at hHeld ⊢
        clear hw5
        refine' tree_pres [0, 1, 2, 3, 4] 5 (by kernel_rfl) (by kernel_rfl) (by decide) hHeld ?ck1 ?cr1
        case ck1 =>
          intro W hSw
          have hSW := hSw
          try dsimp only at hSW
          clear hSw
          have c0 := cell_of_blk (o := 0) hSW rfl; have c1 := cell_of_blk (o := 1) hSW rfl; have c2 := cell_of_blk (o := 2) hSW rfl
          simp only [opsIn, List.filterMap_cons, List.filterMap_nil, List.getElem?_toArray, List.getElem?_cons_succ, List.getElem?_cons_zero]
          simp only [List.take_succ_cons, List.take_zero]
          repeat (go_big_quiet_step (fail))
          exact wpQuiet_nil rfl
        refine' tree_take (by rfl) (by rfl) ?ck2 ?cr2
        case ck2 => (intro W hSw; (try dsimp only at hSw); simp only [List.getElem_toArray, List.getElem_cons_zero, List.getElem_cons_succ]; go_simp; all_goals with_reducible rfl)
        try simp only [List.getElem_toArray, List.getElem_cons_zero, List.getElem_cons_succ]
        try simp only [Act.put, List.setIfInBounds_toArray, List.set_cons_zero, List.set_cons_succ]
        refine' tree_pres [6, 7] 2 (by kernel_rfl) (by kernel_rfl) (by decide) hHeld ?ck3 ?cr3
        case ck3 =>
          intro W hSw
          have hSW := hSw
          try dsimp only at hSW
          clear hSw
          have c0 := cell_of_blk (o := 0) hSW rfl; have c1 := cell_of_blk (o := 1) hSW rfl; have c2 := cell_of_blk (o := 2) hSW rfl
          simp only [opsIn, List.filterMap_cons, List.filterMap_nil, List.getElem?_toArray, List.getElem?_cons_succ, List.getElem?_cons_zero]
          simp only [List.take_succ_cons, List.take_zero]
          repeat (go_big_quiet_step (fail))
          exact wpQuiet_nil rfl
        refine tree_alt (by rfl) (by rfl) (by rfl) (by rfl) (fun K hK => ?_) (fun K hK => ?_)
        · skip
          simp only [List.getElem_toArray, List.getElem_cons_zero, List.getElem_cons_succ]
          go_simp
          refine (HAR.out _).mono ?_
          intro e w6 h1; obtain ⟨h1, h2⟩ := h1; subst h1
          all_goals (try (go_wp2_with fail))
          refine hK.out _ _ (by exact block_ext (h2) hHeld) (fun hHeld => ?_)
          clear hK K
          try simp only [Act.put, List.setIfInBounds_toArray, List.set_cons_zero, List.set_cons_succ]
          refine tree_lin ?_
          simp only [opsIn, List.filterMap_cons, List.filterMap_nil, List.getElem?_toArray, List.getElem?_cons_succ, List.getElem?_cons_zero]
          refine text_call (by rfl) (by rfl) (fun K hK => ?_)
          go_simp
          refine hK.out _ _ (by exact block_ext ((Ext.refl _).alloc _) hHeld) (fun hHeld => ?_)
          clear hK K
          try simp only [Act.put, List.setIfInBounds_toArray, List.set_cons_zero, List.set_cons_succ]
          obtain ⟨w7, hw7⟩ : ∃ V, V = w6.alloc (.cells #[.int .i64 0, .int .i64 0, .string ⟨#[]⟩] 40) := ⟨_, rfl⟩
          rw [← hw7] at hHeld ⊢
          have hb7 : w7.heap[w6.heap.size]? = some (.cells #[.int .i64 0, .int .i64 0, .string ⟨#[]⟩] 40 (0, 0)) := by rw [hw7]; exact heap_alloc_new _ _
          have hE7 : Ext w2 w7 := by rw [hw7]; exact (hE5.trans h2).alloc _
          have hg7 : w2.heap.size ≤ w6.heap.size := by have := h2.size; omega
          clear hw7 h2
          refine text_call (by rfl) (by rfl) (fun K hK => ?_)
          refine wp_store_row 40 _ _ rfl w6.heap.size #[.int .i64 x, .int .i64 y, .string t] rfl rfl 40 #[.int .i64 0, .int .i64 0, .string ⟨#[]⟩] hb7 INF3 rfl (ONE3 _ _ _) ?_
          have hs9 := setRow_heap' _ _ #[.int .i64 x, .int .i64 y, .string t] _ _ hb7
          have he9 := setRow_ext hE7 hg7 #[.int .i64 x, .int .i64 y, .string t]
          refine hK.out _ _ (by exact block_ext he9 B0.out) (fun hHeld => ?_)
          clear hK K
          try simp only [Act.put, List.setIfInBounds_toArray, List.set_cons_zero, List.set_cons_succ]
          refine text_done ?_
          go_wp2_with fail
          go_meet
          exact ⟨_, rfl, Lib.hid hs9, Lib.hid hg7, Lib.hid he9⟩
        · skip
          simp only [List.getElem_toArray, List.getElem_cons_zero, List.getElem_cons_succ]
          go_simp
          refine hK.out _ _ (by exact block_ext ((Ext.refl _).alloc _) hHeld) (fun hHeld => ?_)
          clear hK K
          try simp only [Act.put, List.setIfInBounds_toArray, List.set_cons_zero, List.set_cons_succ]
          obtain ⟨w7, hw7⟩ : ∃ V, V = w5.alloc (.cells #[.int .i64 0, .int .i64 0, .string ⟨#[]⟩] 40) := ⟨_, rfl⟩
          rw [← hw7] at hHeld ⊢
          have hb7 : w7.heap[w2.heap.size]? = some (.cells #[.int .i64 0, .int .i64 0, .string ⟨#[]⟩] 40 (0, 0)) := by rw [← hz5, hw7]; exact heap_alloc_new _ _
          have hE7 : Ext w2 w7 := by rw [hw7]; exact hE5.alloc _
          have hg7 : w2.heap.size ≤ w2.heap.size := Nat.le_refl _
          clear hw7
          try simp only [Act.put, List.setIfInBounds_toArray, List.set_cons_zero, List.set_cons_succ]
          refine tree_lin ?_
          simp only [opsIn, List.filterMap_cons, List.filterMap_nil, List.getElem?_toArray, List.getElem?_cons_succ, List.getElem?_cons_zero]
          refine text_call (by rfl) (by rfl) (fun K hK => ?_)
          go_simp
          refine (HAR.out _).mono ?_
          intro e w6 h1; obtain ⟨h1, h2⟩ := h1; subst h1
          all_goals (try (go_wp2_with fail))
          refine hK.out _ _ (by exact block_ext (h2) hHeld) (fun hHeld => ?_)
          clear hK K
          try simp only [Act.put, List.setIfInBounds_toArray, List.set_cons_zero, List.set_cons_succ]
          have hb6 := block_ext h2 hb7
          have hE6 := hE7.trans h2
          refine text_call (by rfl) (by rfl) (fun K hK => ?_)
          refine wp_store_row 40 _ _ rfl w2.heap.size #[.int .i64 x, .int .i64 y, .string t] rfl rfl 40 #[.int .i64 0, .int .i64 0, .string ⟨#[]⟩] hb6 INF3 rfl (ONE3 _ _ _) ?_
          have hs9 := setRow_heap' _ _ #[.int .i64 x, .int .i64 y, .string t] _ _ hb6
          have he9 := setRow_ext hE6 hg7 #[.int .i64 x, .int .i64 y, .string t]
          refine hK.out _ _ (by exact block_ext he9 B0.out) (fun hHeld => ?_)
          clear hK K
          try simp only [Act.put, List.setIfInBounds_toArray, List.set_cons_zero, List.set_cons_succ]
          refine text_done ?_
          go_wp2_with fail
          go_meet
          exact ⟨_, rfl, Lib.hid hs9, Lib.hid hg7, Lib.hid he9⟩
      case rest =>
        obtain ⟨g, rfl, hg, hgs, h2⟩ := hcut
        obtain ⟨w3, hw3⟩ : ∃ Y, Y = wc := ⟨_, rfl⟩
        rw [← hw3] at hg h2 ⊢
        have BG := Lib.hid hg.out
        have HE := Lib.hid (HE.out.trans h2.out); have B0 := Lib.hid (block_ext h2.out B0.out)
        clear hg hgs h2 hw3 hfr hfn hdm hdm2 hfs
        have c0 := cell_of_blk (o := 0) B0.out rfl; have c1 := cell_of_blk (o := 1) B0.out rfl; have c2 := cell_of_blk (o := 2) B0.out rfl
        have d0 := cell_of_blk (o := 0) BG.out rfl; have d1 := cell_of_blk (o := 1) BG.out rfl; have d2 := cell_of_blk (o := 2) BG.out rfl
        go_wp2_with fail
        refine (H1.out _).mono ?_
        rintro e w4 ⟨la, lc, rfl, hr1, h2⟩
        have HE := Lib.hid (HE.out.trans h2); have B0 := Lib.hid (block_ext h2 B0.out)
        have BG := Lib.hid (block_ext h2 BG.out)
        have HL1 := Lib.hid hr1
        clear hr1
        clear h2 c0 c1 c2 d0 d1 d2
        have c0 := cell_of_blk (o := 0) B0.out rfl; have c1 := cell_of_blk (o := 1) B0.out rfl; have c2 := cell_of_blk (o := 2) B0.out rfl
        have d0 := cell_of_blk (o := 0) BG.out rfl; have d1 := cell_of_blk (o := 1) BG.out rfl; have d2 := cell_of_blk (o := 2) BG.out rfl
        go_wp2_with fail
        refine (H2.out _).mono ?_
        rintro e w5 ⟨ma, mc, rfl, hr2, h2⟩
        have HE := Lib.hid (HE.out.trans h2); have B0 := Lib.hid (block_ext h2 B0.out)
        have BG := Lib.hid (block_ext h2 BG.out)
        have HL1 := Lib.hid (HL1.out.ext h2)
        have HL2 := Lib.hid hr2
        clear hr2
        clear h2 c0 c1 c2 d0 d1 d2
        have c0 := cell_of_blk (o := 0) B0.out rfl; have c1 := cell_of_blk (o := 1) B0.out rfl; have c2 := cell_of_blk (o := 2) B0.out rfl
        have d0 := cell_of_blk (o := 0) BG.out rfl; have d1 := cell_of_blk (o := 1) BG.out rfl; have d2 := cell_of_blk (o := 2) BG.out rfl
        go_wp2_with fail
        refine (H3.out _).mono ?_
        rintro e w6 ⟨rfl, h2⟩
        have HE := Lib.hid (HE.out.trans h2); have B0 := Lib.hid (block_ext h2 B0.out)
        have BG := Lib.hid (block_ext h2 BG.out)
        have HL1 := Lib.hid (HL1.out.ext h2)
        have HL2 := Lib.hid (HL2.out.ext h2)
        clear h2 c0 c1 c2 d0 d1 d2
        have c0 := cell_of_blk (o := 0) B0.out rfl; have c1 := cell_of_blk (o := 1) B0.out rfl; have c2 := cell_of_blk (o := 2) B0.out rfl
        have d0 := cell_of_blk (o := 0) BG.out rfl; have d1 := cell_of_blk (o := 1) BG.out rfl; have d2 := cell_of_blk (o := 2) BG.out rfl
        go_wp2_with fail
        refine (H4.out _).mono ?_
        rintro e w7 ⟨rfl, h2⟩
        have HE := Lib.hid (HE.out.trans h2); have B0 := Lib.hid (block_ext h2 B0.out)
        have BG := Lib.hid (block_ext h2 BG.out)
        have HL1 := Lib.hid (HL1.out.ext h2)
        have HL2 := Lib.hid (HL2.out.ext h2)
        clear h2 c0 c1 c2 d0 d1 d2
        obtain ⟨m, hm⟩ : ∃ m, m = L.length := ⟨_, rfl⟩
        have HI := Lib.hid (fun (V : World) (h : Ext w7 V) => wkI _ _ (natI L) V (HL1.out.ext h) (HL2.out.ext h))
        have H6 := Lib.hid (fun (V : World) (h : Ext w7 V) => H6.out la lc V (HL1.out.ext h))
        rw [← hm] at HI H6 ⊢
        have HE7 := Lib.hid (Ext.refl w7)
        clear hm HL1 HL2
        cases back <;> cases lb
        all_goals
          have c0 := cell_of_blk (o := 0) B0.out rfl; have c1 := cell_of_blk (o := 1) B0.out rfl; have c2 := cell_of_blk (o := 2) B0.out rfl
          have d0 := cell_of_blk (o := 0) BG.out rfl; have d1 := cell_of_blk (o := 1) BG.out rfl; have d2 := cell_of_blk (o := 2) BG.out rfl
          go_wp2_with fail
          refine (HI.out _ HE7.out).mono ?_
          rintro e w8 ⟨rfl, h2⟩
          have HE := Lib.hid (HE.out.trans h2); have B0 := Lib.hid (block_ext h2 B0.out)
          have BG := Lib.hid (block_ext h2 BG.out)
          have HE7 := Lib.hid (HE7.out.trans h2)
          clear h2 c0 c1 c2 d0 d1 d2
          have c0 := cell_of_blk (o := 0) B0.out rfl; have c1 := cell_of_blk (o := 1) B0.out rfl; have c2 := cell_of_blk (o := 2) B0.out rfl
          have d0 := cell_of_blk (o := 0) BG.out rfl; have d1 := cell_of_blk (o := 1) BG.out rfl; have d2 := cell_of_blk (o := 2) BG.out rfl
          go_wp2_with fail
          refine (H5.out _).mono ?_
          rintro e w9 ⟨rfl, h2⟩
          have HE := Lib.hid (HE.out.trans h2); have B0 := Lib.hid (block_ext h2 B0.out)
          have BG := Lib.hid (block_ext h2 BG.out)
          have HE7 := Lib.hid (HE7.out.trans h2)
          clear h2 c0 c1 c2 d0 d1 d2
          go_wp2_with fail
          refine (pond_c 8 8 m lc 0 0 la none _).mono ?_
          rintro e w10 ⟨rfl, h2⟩
          have HE := Lib.hid (HE.out.trans h2); have B0 := Lib.hid (block_ext h2 B0.out)
          have BG := Lib.hid (block_ext h2 BG.out)
          have HE7 := Lib.hid (HE7.out.trans h2)
          clear h2 
          go_wp2_with fail
          refine (H6.out _ HE7.out).mono ?_
          rintro e w11 ⟨rfl, h2⟩
          have HE := Lib.hid (HE.out.trans h2); have B0 := Lib.hid (block_ext h2 B0.out)
          have BG := Lib.hid (block_ext h2 BG.out)
          have HE7 := Lib.hid (HE7.out.trans h2)
          clear h2 
          have c0 := cell_of_blk (o := 0) B0.out rfl; have c1 := cell_of_blk (o := 1) B0.out rfl; have c2 := cell_of_blk (o := 2) B0.out rfl
          have d0 := cell_of_blk (o := 0) BG.out rfl; have d1 := cell_of_blk (o := 1) BG.out rfl; have d2 := cell_of_blk (o := 2) BG.out rfl
          go_wp2_with fail
          refine (works_c _).mono ?_
          rintro e wz ⟨rfl, hz⟩
          go_wp2
          go_ret
          exact ⟨rfl, HE.out.trans hz⟩
    · have hc0 : decide (cr = 0) = false := decide_eq_false h0
      have hc1 : (cr != 0) = true := by simp [h0]
      clear hcr
      go_wp2_with fail
      refine (HCC.out _).mono ?_
      rintro e w2 ⟨rfl, h2⟩
      go_wp2_with fail
      refine (works_c _).mono ?_
      rintro e wz ⟨rfl, hz⟩
      go_wp2
      go_ret
      exact ⟨rfl, (HE.out.trans h2).trans hz⟩
end Go.Proofs.Ytppjnpempgpkaaa
