/- BoomBoxed, by its contract. -/
import Derived.Test.YtppjnpempgpkaaaS6
import Derived.Test.YtppjnpempgpkaaaRC
import Derived.Test.YtppjnpempgpkaaaBX
import Derived.Test.YtppjnpempgpkaaaH7
import Derived.Test.YtppjnpempgpkaaaH6
import Derived.Test.YtppjnpempgpkaaaN3
import Derived.Test.YtppjnpempgpkaaaK1
namespace Go.Proofs.Ytppjnpempgpkaaa
open Go.RowKit Go.Shelf
set_option linter.unusedVariables false
set_option linter.unusedSimpArgs false
attribute [local go_sem] Oper.semAt_some

theorem INF3 {a b c : Value} : (Try.prog.info? 40).map (·.size) = some (#[a, b, c] : Array Value).size := by
  show _ = some 3
  kernel_rfl
theorem ONE3 (x y : Int) (s : ByteArray) : (#[.int .i64 x, .int .i64 y, .string s] : Array Value).all (·.oneCell') = true := by simp [Value.oneCell']
theorem INF2 {a b : Value} : (Try.prog.info? 61).map (·.size) = some (#[a, b] : Array Value).size := by
  show _ = some 2
  kernel_rfl
theorem ONE2 (x y : Int) : (#[.int .i64 x, .int .i64 y] : Array Value).all (·.oneCell') = true := by simp [Value.oneCell']
set_option maxRecDepth 100000 in
set_option maxHeartbeats 4000000 in
theorem boxed_c (X Y : Int) (s : ByteArray) (stn wdn hgn : Nat) (hst : stn ≤ 255) (hwd : wdn ≤ 255) (hhg : hgn ≤ 255) (w : World) (hs63 : s.size ≤ 9223372036854775807) : Calls Try.prog 9 #[.agg #[.int .i64 X, .int .i64 Y, .string s], .int .u8 (stn : Int), .int .u8 (wdn : Int), .int .u8 (hgn : Int)] w fun e w' => e = .returned (.bool true) ∧ Ext w w' := by
  obtain ⟨w1, hw1⟩ : ∃ w1, w1 = w.alloc (.cells #[.int .i64 X, .int .i64 Y, .string s] 40) := ⟨_, rfl⟩
  have HE := Lib.hid (show Ext w w1 from by rw [hw1]; exact (Ext.refl w).alloc _)
  have B0 := Lib.hid (show w1.heap[w.heap.size]? = some (.cells #[.int .i64 X, .int .i64 Y, .string s] 40 (0, 0)) from by rw [hw1]; exact heap_alloc_new w _)
  obtain ⟨n, hn⟩ : ∃ n, n = s.size := ⟨_, rfl⟩
  have hn2 : (s.size : Int) = (n : Int) := by rw [hn]
  have c0 := cell_of_blk (o := 0) B0.out rfl; have c1 := cell_of_blk (o := 1) B0.out rfl; have c2 := cell_of_blk (o := 2) B0.out rfl
  go_enter Try.func9, Try.ntmps9
  go_upto_region 1 with fail
  rw [← hw1]
  clear hw1
  by_cases h90 : 90 < n
  · have h90i : (90 : Int) < (s.size : Int) := by omega
    go_wp2_with fail
    refine (works_c _).mono ?_
    rintro e wz ⟨rfl, hz⟩
    go_wp2
    go_ret
    exact ⟨rfl, HE.out.trans hz⟩
  · have h90i : ¬ (90 : Int) < (s.size : Int) := by omega
    have HCC := Lib.hid (fun V => rcheckChain_c X Y s V (by omega))
    obtain ⟨cr, hcr⟩ : ∃ cr, cr = chkC X Y s := ⟨_, rfl⟩
    rw [← hcr] at HCC
    by_cases h0 : cr = 0
    · obtain ⟨⟨hs4, hs80⟩, -⟩ := chk0 (h0 ▸ hcr.symm : chkC X Y s = 0)
      have HCR := Lib.hid (h0 ▸ hcr.symm : chkC X Y s = 0)
      subst h0
      clear hcr
      have HCO := Lib.hid (fun V => rcorners_c X Y s V (by omega))
      have HLP := Lib.hid (show (ptsW (X, Y) (dirs s)).length = n + 1 from by rw [ptsW_len, dirs_len, hn])
      have HP0 := Lib.hid (show (ptsW (X, Y) (dirs s))[0]? = some (X, Y) from by cases dirs s <;> rfl)
      obtain ⟨lo, hi, hlo, hhi, hon, dx, dy, hdx, hdy, hx8, hy8, hbx, hin⟩ := around_box HCR.out
      have HBOX := Lib.hid (And.intro hdx (And.intro hdy (And.intro hx8 (And.intro hy8 (And.intro (show 2 * (dx + dy) ≤ n from by omega) hin)))))
      have HLO := Lib.hid hlo; have HHI := Lib.hid hhi; have HON := Lib.hid hon
      have HAC := Lib.hid (fun V => area_ok X Y s V HCR.out)
      have HN4 := Lib.hid (show 4 ≤ n ∧ n ≤ 80 from by omega)
      generalize (encl (sts (X, Y) (dirs s))).length = ar at *
      generalize lftB (sts (X, Y) (dirs s)) = lb at *
      clear hlo hhi hon hdx hdy hx8 hy8 hbx hin
      go_wp2_with fail
      refine (HCC.out _).mono ?_
      rintro e w2 ⟨rfl, h2⟩
      have HE := Lib.hid (HE.out.trans h2); have B0 := Lib.hid (block_ext h2 B0.out)
      clear h2 c0 c1 c2
      have c0 := cell_of_blk (o := 0) B0.out rfl; have c1 := cell_of_blk (o := 1) B0.out rfl; have c2 := cell_of_blk (o := 2) B0.out rfl
      go_wp2_with fail
      refine (HCO.out _).mono ?_
      rintro e w2 ⟨v, rfl, hv, h2⟩
      have HE := Lib.hid (HE.out.trans h2); have B0 := Lib.hid (block_ext h2 B0.out)
      obtain ⟨bl, cap, e1, hcp, hcm, hx0, hy0⟩ := hv.at HP0.out
      have HV := Lib.hid hv
      subst e1
      rw [HLP.out] at hcp HV ⊢
      have hx0 : w2.cell? ⟨bl, 0, none⟩ = some (.int .i64 X) := by simpa using hx0
      have hy0 : w2.cell? ⟨bl, 1, none⟩ = some (.int .i64 Y) := by simpa using hy0
      have hn1 : (0 : Int) < ((n + 1 : Nat) : Int) := by omega
      have hn1' : (0 : Int) < (n : Int) + 1 := by omega
      have hn1n : 0 < n + 1 := by omega
      clear h2 hv c0 c1 c2 HCC HCO
      go_upto_region 4 with fail
      go_cut [10, 11] from 47 (fun p q wx => ∃ g1 g2 : Nat, p = .pointer (some ⟨g1, 0, none⟩) ∧ q = .pointer (some ⟨g2, 0, none⟩) ∧ Hid (wx.heap[g1]? = some (.cells #[.int .i64 X, .int .i64 Y] 61 (0, 0))) ∧ Hid (wx.heap[g2]? = some (.cells #[.int .i64 X, .int .i64 Y] 61 (0, 0))) ∧ Hid (g1 ≠ g2) ∧ Hid (w2.heap.size ≤ g1) ∧ Hid (w2.heap.size ≤ g2) ∧ Hid (Ext w2 wx))
      case first =>
        refine wp_region_tree (fun V : World => V.cell? ⟨bl, 0, none⟩ = some (.int .i64 X) ∧ V.cell? ⟨bl, 1, none⟩ = some (.int .i64 Y)) (Tr.pres [0, 1, 2, 3, 4, 5] (.alt 6 (.lin [7, 8, 9]) 7 (.lin [6, 8, 9]))) (by kernel_rfl) (by kernel_rfl) (by exact ⟨hx0, hy0⟩) (fun hHeld => ?_)
        obtain ⟨y0, hw0⟩ : ∃ V, V = w2.drew := ⟨_, rfl⟩
        have HC := Lib.hid (show Ext w2 y0 from by rw [hw0]; exact (Ext.refl _).drew)
        rw [← hw0] at hHeld ⊢
        clear hw0
        refine' tree_pres [0, 1, 2, 3, 4, 5] 6 (by kernel_rfl) (by kernel_rfl) (by decide) hHeld ?ck2 ?cr2
        case ck2 =>
          intro W_ hSw
          have hSW := hSw
          try dsimp only at hSW
          clear hSw
          obtain ⟨s1, s2⟩ := hSW
          simp only [opsIn, List.filterMap_cons, List.filterMap_nil, List.getElem?_toArray, List.getElem?_cons_succ, List.getElem?_cons_zero]
          simp only [List.take_succ_cons, List.take_zero]
          repeat (go_big_quiet_step (fail))
          exact wpQuiet_nil rfl
        refine tree_alt (by rfl) (by rfl) (by rfl) (by rfl) (fun K hK => ?_) (fun K hK => ?_)
        · skip
          simp only [List.getElem_toArray, List.getElem_cons_zero, List.getElem_cons_succ]
          go_simp
          refine hK.out _ _ (by exact ⟨cell_ext ((Ext.refl _).alloc _) hHeld.1, cell_ext ((Ext.refl _).alloc _) hHeld.2⟩) (fun hHeld => ?_)
          clear hK K
          try simp only [Act.put, List.setIfInBounds_toArray, List.set_cons_zero, List.set_cons_succ]
          obtain ⟨y1, hV⟩ : ∃ V, V = y0.alloc (.cells #[.int .i64 0, .int .i64 0] 61) := ⟨_, rfl⟩
          rw [← hV] at hHeld ⊢
          have h2 : Ext y0 y1 := by rw [hV]; exact (Ext.refl _).alloc _
          have HBg1 := Lib.hid (show y1.heap[y0.heap.size]? = some (.cells #[.int .i64 0, .int .i64 0] 61 (0, 0)) from by rw [hV]; exact heap_alloc_new _ _)
          have HSg1 := Lib.hid (show w2.heap.size ≤ y0.heap.size from HC.out.size)
          have HC := Lib.hid (HC.out.trans h2)
          clear hV h2
          obtain ⟨g1, hg⟩ : ∃ g, g = y0.heap.size := ⟨_, rfl⟩
          rw [← hg] at HBg1 HSg1 ⊢
          clear hg
          refine tree_lin ?_
          simp only [opsIn, List.filterMap_cons, List.filterMap_nil, List.getElem?_toArray, List.getElem?_cons_succ, List.getElem?_cons_zero]
          refine text_call (by rfl) (by rfl) (fun K hK => ?_)
          go_simp
          refine hK.out _ _ (by exact ⟨cell_ext ((Ext.refl _).alloc _) hHeld.1, cell_ext ((Ext.refl _).alloc _) hHeld.2⟩) (fun hHeld => ?_)
          clear hK K
          try simp only [Act.put, List.setIfInBounds_toArray, List.set_cons_zero, List.set_cons_succ]
          obtain ⟨y2, hV⟩ : ∃ V, V = y1.alloc (.cells #[.int .i64 0, .int .i64 0] 61) := ⟨_, rfl⟩
          rw [← hV] at hHeld ⊢
          have h2 : Ext y1 y2 := by rw [hV]; exact (Ext.refl _).alloc _
          have HBg2 := Lib.hid (show y2.heap[y1.heap.size]? = some (.cells #[.int .i64 0, .int .i64 0] 61 (0, 0)) from by rw [hV]; exact heap_alloc_new _ _)
          have HSg2 := Lib.hid (show w2.heap.size ≤ y1.heap.size from HC.out.size)
          have HC := Lib.hid (HC.out.trans h2)
          have HNE := Lib.hid (show g1 ≠ y1.heap.size from by have := lt_of_blk HBg1.out; omega)
          have HBg1 := Lib.hid (block_ext h2 HBg1.out)
          clear hV h2
          obtain ⟨g2, hg⟩ : ∃ g, g = y1.heap.size := ⟨_, rfl⟩
          rw [← hg] at HBg2 HSg2 ⊢
          rw [← hg] at HNE
          clear hg
          refine text_call (by rfl) (by rfl) (fun K hK => ?_)
          refine wp_store_row 61 _ _ rfl g1 #[.int .i64 X, .int .i64 Y] rfl rfl 61 #[.int .i64 0, .int .i64 0] HBg1.out INF2 rfl (ONE2 _ _) ?_
          have hs9 := setRow_heap' _ _ #[.int .i64 X, .int .i64 Y] _ _ HBg1.out
          have ho9 := (setRow_other (X := y2) (g := g1) (k := g2) (by have := HNE.out; omega) #[.int .i64 X, .int .i64 Y]).trans HBg2.out
          have he9 := setRow_ext HC.out HSg1.out #[.int .i64 X, .int .i64 Y]
          refine hK.out _ _ (by exact ⟨cell_ext he9 hx0, cell_ext he9 hy0⟩) (fun hHeld => ?_)
          clear hK K
          try simp only [Act.put, List.setIfInBounds_toArray, List.set_cons_zero, List.set_cons_succ]
          obtain ⟨z8, hx⟩ : ∃ V0, V0 = World.setRow y2 g1 #[.int .i64 X, .int .i64 Y] := ⟨_, rfl⟩
          rw [← hx] at hHeld hs9 ho9 he9 ⊢
          have HBg1 := Lib.hid hs9; have HBg2 := Lib.hid ho9; have HC := Lib.hid he9
          clear hx hs9 ho9 he9
          refine text_call (by rfl) (by rfl) (fun K hK => ?_)
          refine wp_store_row 61 _ _ rfl g2 #[.int .i64 X, .int .i64 Y] rfl rfl 61 #[.int .i64 0, .int .i64 0] HBg2.out INF2 rfl (ONE2 _ _) ?_
          have hs9 := setRow_heap' _ _ #[.int .i64 X, .int .i64 Y] _ _ HBg2.out
          have ho9 := (setRow_other (X := z8) (g := g2) (k := g1) (by have := HNE.out; omega) #[.int .i64 X, .int .i64 Y]).trans HBg1.out
          have he9 := setRow_ext HC.out HSg2.out #[.int .i64 X, .int .i64 Y]
          refine hK.out _ _ (by exact ⟨cell_ext he9 hx0, cell_ext he9 hy0⟩) (fun hHeld => ?_)
          clear hK K
          try simp only [Act.put, List.setIfInBounds_toArray, List.set_cons_zero, List.set_cons_succ]
          obtain ⟨z9, hx⟩ : ∃ V0, V0 = World.setRow z8 g2 #[.int .i64 X, .int .i64 Y] := ⟨_, rfl⟩
          rw [← hx] at hHeld hs9 ho9 he9 ⊢
          have HBg2 := Lib.hid hs9; have HBg1 := Lib.hid ho9; have HC := Lib.hid he9
          clear hx hs9 ho9 he9
          refine text_done ?_
          go_wp2_with fail
          go_meet
          exact ⟨_, _, rfl, rfl, HBg1, HBg2, HNE, HSg1, HSg2, HC⟩
        · skip
          simp only [List.getElem_toArray, List.getElem_cons_zero, List.getElem_cons_succ]
          go_simp
          refine hK.out _ _ (by exact ⟨cell_ext ((Ext.refl _).alloc _) hHeld.1, cell_ext ((Ext.refl _).alloc _) hHeld.2⟩) (fun hHeld => ?_)
          clear hK K
          try simp only [Act.put, List.setIfInBounds_toArray, List.set_cons_zero, List.set_cons_succ]
          obtain ⟨y1, hV⟩ : ∃ V, V = y0.alloc (.cells #[.int .i64 0, .int .i64 0] 61) := ⟨_, rfl⟩
          rw [← hV] at hHeld ⊢
          have h2 : Ext y0 y1 := by rw [hV]; exact (Ext.refl _).alloc _
          have HBg2 := Lib.hid (show y1.heap[y0.heap.size]? = some (.cells #[.int .i64 0, .int .i64 0] 61 (0, 0)) from by rw [hV]; exact heap_alloc_new _ _)
          have HSg2 := Lib.hid (show w2.heap.size ≤ y0.heap.size from HC.out.size)
          have HC := Lib.hid (HC.out.trans h2)
          clear hV h2
          obtain ⟨g2, hg⟩ : ∃ g, g = y0.heap.size := ⟨_, rfl⟩
          rw [← hg] at HBg2 HSg2 ⊢
          clear hg
          refine tree_lin ?_
          simp only [opsIn, List.filterMap_cons, List.filterMap_nil, List.getElem?_toArray, List.getElem?_cons_succ, List.getElem?_cons_zero]
          refine text_call (by rfl) (by rfl) (fun K hK => ?_)
          go_simp
          refine hK.out _ _ (by exact ⟨cell_ext ((Ext.refl _).alloc _) hHeld.1, cell_ext ((Ext.refl _).alloc _) hHeld.2⟩) (fun hHeld => ?_)
          clear hK K
          try simp only [Act.put, List.setIfInBounds_toArray, List.set_cons_zero, List.set_cons_succ]
          obtain ⟨y2, hV⟩ : ∃ V, V = y1.alloc (.cells #[.int .i64 0, .int .i64 0] 61) := ⟨_, rfl⟩
          rw [← hV] at hHeld ⊢
          have h2 : Ext y1 y2 := by rw [hV]; exact (Ext.refl _).alloc _
          have HBg1 := Lib.hid (show y2.heap[y1.heap.size]? = some (.cells #[.int .i64 0, .int .i64 0] 61 (0, 0)) from by rw [hV]; exact heap_alloc_new _ _)
          have HSg1 := Lib.hid (show w2.heap.size ≤ y1.heap.size from HC.out.size)
          have HC := Lib.hid (HC.out.trans h2)
          have HNE := Lib.hid (show g2 ≠ y1.heap.size from by have := lt_of_blk HBg2.out; omega)
          have HBg2 := Lib.hid (block_ext h2 HBg2.out)
          clear hV h2
          obtain ⟨g1, hg⟩ : ∃ g, g = y1.heap.size := ⟨_, rfl⟩
          rw [← hg] at HBg1 HSg1 ⊢
          rw [← hg] at HNE
          clear hg
          have HNE := Lib.hid (Ne.symm HNE.out)
          refine text_call (by rfl) (by rfl) (fun K hK => ?_)
          refine wp_store_row 61 _ _ rfl g1 #[.int .i64 X, .int .i64 Y] rfl rfl 61 #[.int .i64 0, .int .i64 0] HBg1.out INF2 rfl (ONE2 _ _) ?_
          have hs9 := setRow_heap' _ _ #[.int .i64 X, .int .i64 Y] _ _ HBg1.out
          have ho9 := (setRow_other (X := y2) (g := g1) (k := g2) (by have := HNE.out; omega) #[.int .i64 X, .int .i64 Y]).trans HBg2.out
          have he9 := setRow_ext HC.out HSg1.out #[.int .i64 X, .int .i64 Y]
          refine hK.out _ _ (by exact ⟨cell_ext he9 hx0, cell_ext he9 hy0⟩) (fun hHeld => ?_)
          clear hK K
          try simp only [Act.put, List.setIfInBounds_toArray, List.set_cons_zero, List.set_cons_succ]
          obtain ⟨z8, hx⟩ : ∃ V0, V0 = World.setRow y2 g1 #[.int .i64 X, .int .i64 Y] := ⟨_, rfl⟩
          rw [← hx] at hHeld hs9 ho9 he9 ⊢
          have HBg1 := Lib.hid hs9; have HBg2 := Lib.hid ho9; have HC := Lib.hid he9
          clear hx hs9 ho9 he9
          refine text_call (by rfl) (by rfl) (fun K hK => ?_)
          refine wp_store_row 61 _ _ rfl g2 #[.int .i64 X, .int .i64 Y] rfl rfl 61 #[.int .i64 0, .int .i64 0] HBg2.out INF2 rfl (ONE2 _ _) ?_
          have hs9 := setRow_heap' _ _ #[.int .i64 X, .int .i64 Y] _ _ HBg2.out
          have ho9 := (setRow_other (X := z8) (g := g2) (k := g1) (by have := HNE.out; omega) #[.int .i64 X, .int .i64 Y]).trans HBg1.out
          have he9 := setRow_ext HC.out HSg2.out #[.int .i64 X, .int .i64 Y]
          refine hK.out _ _ (by exact ⟨cell_ext he9 hx0, cell_ext he9 hy0⟩) (fun hHeld => ?_)
          clear hK K
          try simp only [Act.put, List.setIfInBounds_toArray, List.set_cons_zero, List.set_cons_succ]
          obtain ⟨z9, hx⟩ : ∃ V0, V0 = World.setRow z8 g2 #[.int .i64 X, .int .i64 Y] := ⟨_, rfl⟩
          rw [← hx] at hHeld hs9 ho9 he9 ⊢
          have HBg2 := Lib.hid hs9; have HBg1 := Lib.hid ho9; have HC := Lib.hid he9
          clear hx hs9 ho9 he9
          refine text_done ?_
          go_wp2_with fail
          go_meet
          exact ⟨_, _, rfl, rfl, HBg1, HBg2, HNE, HSg1, HSg2, HC⟩
      case rest =>
        obtain ⟨g1, g2, rfl, rfl, HB1, HB2, HNE, HSg1, HSg2, HC⟩ := hcut
        have HN16 := Lib.hid (show n ≤ 80 from by omega)
        clear hx0 hy0 hn1 hn1' hn1n hs4 hs80 h90 h90i
        go_wp2
        go_loopw [12] (fun i wr => ∃ k : Nat, k ≤ n + 1 ∧ i = .int .i64 (k : Int) ∧ Hid (wr.heap[g1]? = some (.cells #[.int .i64 (loP (X, Y) ((ptsW (X, Y) (dirs s)).take k)).1, .int .i64 (loP (X, Y) ((ptsW (X, Y) (dirs s)).take k)).2] 61 (0, 0))) ∧ Hid (wr.heap[g2]? = some (.cells #[.int .i64 (hiP (X, Y) ((ptsW (X, Y) (dirs s)).take k)).1, .int .i64 (hiP (X, Y) ((ptsW (X, Y) (dirs s)).take k)).2] 61 (0, 0))) ∧ Hid (Ext w2 wr)) (fun i wr => n + 1 - (intOf i).toNat)
        case atStart => exact ⟨0, Nat.zero_le _, rfl, HB1, HB2, HC⟩
        case round =>
          clear HB1 HB2 HC
          obtain ⟨k, hk, rfl, HB1, HB2, HC⟩ := hrel
          by_cases hlt : k < n + 1
          · have HLT := Lib.hid hlt
            obtain ⟨⟨qx, qy⟩, hq⟩ := get_some (xs := (ptsW (X, Y) (dirs s))) (k := k) (by have := HLP.out; omega)
            obtain ⟨g', cap', e2, -, -, hqx0, hqy0⟩ := HV.out.at hq
            rw [HLP.out] at e2
            injection e2 with e2 _ _
            injection e2 with e2
            injection e2 with e2 _ _
            subst e2
            have HL := Lib.hid (loP_snoc (p := (X, Y)) hq); have HH := Lib.hid (hiP_snoc (p := (X, Y)) hq)
            have hqx := cell_ext HC.out hqx0; have hqy := cell_ext HC.out hqy0
            generalize loP (X, Y) ((ptsW (X, Y) (dirs s)).take k) = lk at *
            generalize hiP (X, Y) ((ptsW (X, Y) (dirs s)).take k) = hk2 at *
            obtain ⟨lx, ly⟩ := lk
            obtain ⟨hx, hy⟩ := hk2
            dsimp only at HB1 HB2 HL HH hqx hqy hqx0 hqy0
            obtain ⟨m1, hm1⟩ : ∃ m, m = min lx qx := ⟨_, rfl⟩
            obtain ⟨m2, hm2⟩ : ∃ m, m = min ly qy := ⟨_, rfl⟩
            obtain ⟨m3, hm3⟩ : ∃ m, m = max hx qx := ⟨_, rfl⟩
            obtain ⟨m4, hm4⟩ : ∃ m, m = max hy qy := ⟨_, rfl⟩
            rw [← hm1, ← hm2] at HL
            rw [← hm3, ← hm4] at HH
            have HM1 := Lib.hid (show (if qx < lx then qx else lx) = m1 from by rw [hm1]; split <;> omega)
            have HM2 := Lib.hid (show (if qy < ly then qy else ly) = m2 from by rw [hm2]; split <;> omega)
            have HM3 := Lib.hid (show (if hx < qx then qx else hx) = m3 from by rw [hm3]; split <;> omega)
            have HM4 := Lib.hid (show (if hy < qy then qy else hy) = m4 from by rw [hm4]; split <;> omega)
            have hka : (0 : Int) ≤ (k : Int) := by omega
            have hkb : (k : Int) < ((n + 1 : Nat) : Int) := by omega
            have hkb2 : (k : Int) < (n : Int) + 1 := by omega
            have hkt : (k : Int).toNat = k := by omega
            clear hm1 hm2 hm3 hm4 hq
            go_upto_region 8 with fail
            refine wp_orderL (fun V : World => V.heap[g1]? = some (.cells #[.int .i64 lx, .int .i64 ly] 61 (0, 0)) ∧ V.cell? ⟨bl, k * 2, none⟩ = some (.int .i64 qx) ∧ V.cell? ⟨bl, k * 2 + 1, none⟩ = some (.int .i64 qy)) [0, 1, 2, 3, 4, 5, 6, 8, 9, 10, 11, 12, 13, 14, 7, 15, 16, 17] 17 (by kernel_rfl) (by kernel_rfl) (by kernel_rfl) (by exact ⟨HB1.out, hqx, hqy⟩) (fun hHeld => ?_)
            simp only [opsIn, List.filterMap_cons, List.filterMap_nil, List.getElem?_toArray, List.getElem?_cons_succ, List.getElem?_cons_zero]
            obtain ⟨d8, hd⟩ : ∃ Y, Y = wr.drew := ⟨_, rfl⟩
            have h2 : Ext wr d8 := by rw [hd]; exact (Ext.refl _).drew
            rw [← hd] at hHeld ⊢
            clear hd
            have HC := Lib.hid (HC.out.trans h2); have HB2 := Lib.hid (block_ext h2 HB2.out)
            clear h2
            refine' textL_chunk 14 (by kernel_rfl) hHeld ?ck3 ?cr3
            case ck3 =>
              intro W hSw
              have hSW := hSw
              try dsimp only at hSW
              clear hSw
              obtain ⟨s1, s2, s3⟩ := hSW
              obtain ⟨e0, e1⟩ := cells2 s1
              clear s1
              simp only [List.take_succ_cons, List.take_zero, List.drop_succ_cons, List.drop_zero]
              repeat (go_big_quiet_step (fail))
              exact wpQuiet_nil rfl
            simp only [List.take_succ_cons, List.take_zero, List.drop_succ_cons, List.drop_zero]
            have hmin := HM1.out
            refine' textL_take (by rfl) (by rfl) ?ck4 ?cr4
            case ck4 => (intro W hSw; (try dsimp only at hSw); go_simp; all_goals with_reducible rfl)
            try simp only [Act.put, List.setIfInBounds_toArray, List.set_cons_zero, List.set_cons_succ]
            clear hmin
            have hmin := HM2.out
            refine' textL_take (by rfl) (by rfl) ?ck5 ?cr5
            case ck5 => (intro W hSw; (try dsimp only at hSw); go_simp; all_goals with_reducible rfl)
            try simp only [Act.put, List.setIfInBounds_toArray, List.set_cons_zero, List.set_cons_succ]
            clear hmin
            refine' textL_chunk 1 (by kernel_rfl) hHeld ?ck6 ?cr6
            case ck6 =>
              intro W hSw
              have hSW := hSw
              try dsimp only at hSW
              clear hSw
              skip
              simp only [List.take_succ_cons, List.take_zero, List.drop_succ_cons, List.drop_zero]
              repeat (go_big_quiet_step (fail))
              exact wpQuiet_nil rfl
            simp only [List.take_succ_cons, List.take_zero, List.drop_succ_cons, List.drop_zero]
            refine textL_lastW (by rfl) (by rfl) (fun K hK => ?_)
            refine wp_store_row 61 _ _ rfl g1 #[.int .i64 m1, .int .i64 m2] rfl rfl 61 #[.int .i64 lx, .int .i64 ly] hHeld.1 INF2 rfl (ONE2 _ _) ?_
            have hs9 := setRow_heap' _ _ #[.int .i64 m1, .int .i64 m2] _ _ hHeld.1
            have ho9 := (setRow_other (X := d8) (g := g1) (k := g2) (by have := HNE.out; omega) #[.int .i64 m1, .int .i64 m2]).trans HB2.out
            have he9 := setRow_ext HC.out HSg1.out #[.int .i64 m1, .int .i64 m2]
            refine hK.out _ _ ?_
            clear hK K hHeld
            obtain ⟨z1, hx⟩ : ∃ Y, Y = World.setRow d8 g1 #[.int .i64 m1, .int .i64 m2] := ⟨_, rfl⟩
            rw [← hx] at hs9 ho9 he9 ⊢
            have HB1 := Lib.hid hs9; have HB2 := Lib.hid ho9; have HC := Lib.hid he9
            have hqx := cell_ext HC.out hqx0; have hqy := cell_ext HC.out hqy0
            clear hx hs9 ho9 he9
            try simp only [Act.put, List.setIfInBounds_toArray, List.set_cons_zero, List.set_cons_succ]
            go_upto_region 9 with fail
            refine wp_orderL (fun V : World => V.heap[g2]? = some (.cells #[.int .i64 hx, .int .i64 hy] 61 (0, 0)) ∧ V.cell? ⟨bl, k * 2, none⟩ = some (.int .i64 qx) ∧ V.cell? ⟨bl, k * 2 + 1, none⟩ = some (.int .i64 qy)) [0, 1, 2, 3, 4, 5, 6, 8, 9, 10, 11, 12, 13, 14, 7, 15, 16, 17] 17 (by kernel_rfl) (by kernel_rfl) (by kernel_rfl) (by exact ⟨HB2.out, hqx, hqy⟩) (fun hHeld => ?_)
            simp only [opsIn, List.filterMap_cons, List.filterMap_nil, List.getElem?_toArray, List.getElem?_cons_succ, List.getElem?_cons_zero]
            obtain ⟨d9, hd⟩ : ∃ Y, Y = z1.drew := ⟨_, rfl⟩
            have h2 : Ext z1 d9 := by rw [hd]; exact (Ext.refl _).drew
            rw [← hd] at hHeld ⊢
            clear hd
            have HC := Lib.hid (HC.out.trans h2); have HB1 := Lib.hid (block_ext h2 HB1.out)
            clear h2
            refine' textL_chunk 14 (by kernel_rfl) hHeld ?ck7 ?cr7
            case ck7 =>
              intro W hSw
              have hSW := hSw
              try dsimp only at hSW
              clear hSw
              obtain ⟨s1, s2, s3⟩ := hSW
              obtain ⟨e0, e1⟩ := cells2 s1
              clear s1
              simp only [List.take_succ_cons, List.take_zero, List.drop_succ_cons, List.drop_zero]
              repeat (go_big_quiet_step (fail))
              exact wpQuiet_nil rfl
            simp only [List.take_succ_cons, List.take_zero, List.drop_succ_cons, List.drop_zero]
            have hmin := HM3.out
            refine' textL_take (by rfl) (by rfl) ?ck8 ?cr8
            case ck8 => (intro W hSw; (try dsimp only at hSw); go_simp; all_goals with_reducible rfl)
            try simp only [Act.put, List.setIfInBounds_toArray, List.set_cons_zero, List.set_cons_succ]
            clear hmin
            have hmin := HM4.out
            refine' textL_take (by rfl) (by rfl) ?ck9 ?cr9
            case ck9 => (intro W hSw; (try dsimp only at hSw); go_simp; all_goals with_reducible rfl)
            try simp only [Act.put, List.setIfInBounds_toArray, List.set_cons_zero, List.set_cons_succ]
            clear hmin
            refine' textL_chunk 1 (by kernel_rfl) hHeld ?ck10 ?cr10
            case ck10 =>
              intro W hSw
              have hSW := hSw
              try dsimp only at hSW
              clear hSw
              skip
              simp only [List.take_succ_cons, List.take_zero, List.drop_succ_cons, List.drop_zero]
              repeat (go_big_quiet_step (fail))
              exact wpQuiet_nil rfl
            simp only [List.take_succ_cons, List.take_zero, List.drop_succ_cons, List.drop_zero]
            refine textL_lastW (by rfl) (by rfl) (fun K hK => ?_)
            refine wp_store_row 61 _ _ rfl g2 #[.int .i64 m3, .int .i64 m4] rfl rfl 61 #[.int .i64 hx, .int .i64 hy] hHeld.1 INF2 rfl (ONE2 _ _) ?_
            have hs9 := setRow_heap' _ _ #[.int .i64 m3, .int .i64 m4] _ _ hHeld.1
            have ho9 := (setRow_other (X := d9) (g := g2) (k := g1) (by have := HNE.out; omega) #[.int .i64 m3, .int .i64 m4]).trans HB1.out
            have he9 := setRow_ext HC.out HSg2.out #[.int .i64 m3, .int .i64 m4]
            refine hK.out _ _ ?_
            clear hK K hHeld
            obtain ⟨z2, hx⟩ : ∃ Y, Y = World.setRow d9 g2 #[.int .i64 m3, .int .i64 m4] := ⟨_, rfl⟩
            rw [← hx] at hs9 ho9 he9 ⊢
            have HB2 := Lib.hid hs9; have HB1 := Lib.hid ho9; have HC := Lib.hid he9
            have hqx := cell_ext HC.out hqx0; have hqy := cell_ext HC.out hqy0
            clear hx hs9 ho9 he9
            try simp only [Act.put, List.setIfInBounds_toArray, List.set_cons_zero, List.set_cons_succ]
            have hlt := HLT.out
            have hk90 : k ≤ 80 := by have := HN16.out; omega
            go_wp2
            go_roundw
            case rel => exact ⟨k + 1, by have := HLT.out; omega, by go_num, by rw [HL.out]; exact HB1, by rw [HH.out]; exact HB2, HC⟩
            case measure => have := HLT.out; simp [intOf]; omega
          · have hkn : k = n + 1 := by omega
            subst k
            have hfl : (ptsW (X, Y) (dirs s)).take (n + 1) = (ptsW (X, Y) (dirs s)) := List.take_of_length_le (by have := HLP.out; omega)
            rw [hfl] at HB1 HB2
            rw [HLO.out] at HB1
            rw [HHI.out] at HB2
            clear hfl hk hlt
            obtain ⟨lx, ly⟩ := lo
            obtain ⟨hx, hy⟩ := hi
            obtain ⟨hdx, hdy, hx8, hy8, hbx, hin⟩ := HBOX.out
            dsimp only at hdx hdy HB1 HB2
            have hlob : (0 ≤ lx ∧ lx ≤ 8) ∧ (0 ≤ hx ∧ hx ≤ 8) ∧ (0 ≤ ly ∧ ly ≤ 8) ∧ 0 ≤ hy ∧ hy ≤ 8 := by
              obtain ⟨-, -, ⟨qa, ha, ea⟩, qc, hc, ec⟩ := loP_fold (ptsW (X, Y) (dirs s)) (X, Y)
              obtain ⟨-, -, ⟨qb, hb, eb⟩, qd, hd, ed⟩ := hiP_fold (ptsW (X, Y) (dirs s)) (X, Y)
              rw [HLO.out] at ea ec
              rw [HHI.out] at eb ed
              have hXY := HON.out (X, Y) (List.mem_of_getElem? HP0.out)
              have hall : ∀ q ∈ (X, Y) :: (ptsW (X, Y) (dirs s)), (0 ≤ q.1 ∧ q.1 ≤ 8) ∧ 0 ≤ q.2 ∧ q.2 ≤ 8 := fun q hq => by
                rcases List.mem_cons.1 hq with rfl | hq
                · exact hXY
                · exact HON.out q hq
              have h1 := hall qa ha; have h2 := hall qb hb; have h3 := hall qc hc; have h4 := hall qd hd
              dsimp only at ea eb ec ed
              omega
            obtain ⟨mf1, mf2, mf3, mf4⟩ := most_facts (s := (n : Int)) (W := dx) (H := dy) hx8.1 hy8.1 (by have := HN4.out; omega)
            have hmax := mf4 dx dy (by omega) (by omega) (by omega)
            have HMO := Lib.hid (fun V => most_ok (n : Int) dx dy V hx8 hy8 (by have := HN4.out; omega))
            generalize mostB (n : Int) dx dy = mb at *
            obtain ⟨bx, by_⟩ := mb
            dsimp only at HMO hmax mf1 mf2 mf3
            obtain ⟨mm, hmm⟩ : ∃ m, m = bx * by_ := ⟨_, rfl⟩
            have HMO2 := Lib.hid (show ((bx * by_ : Nat) : Int) = (mm : Int) from by rw [hmm])
            rw [← hmm] at hmax
            rw [HMO2.out] at HMO
            obtain ⟨ds, hds⟩ : ∃ d, d = dx + dy := ⟨_, rfl⟩
            have hA : ¬ (mm : Int) < (ar : Int) := by omega
            have hB1 : (dx : Int) + hy - ly = (ds : Int) := by omega
            have hB2 : ¬ (n : Int) < 2 * (ds : Int) := by omega
            have hds16 : ds ≤ 16 := by omega
            have HE := Lib.hid (HE.out.trans HC.out); have B0 := Lib.hid (block_ext HC.out B0.out)
            -- the second part's numbers
            obtain ⟨aw, haw⟩ : ∃ a, a = wdn % 8 := ⟨_, rfl⟩
            obtain ⟨ah, hah⟩ : ∃ a, a = hgn % 8 := ⟨_, rfl⟩
            obtain ⟨ak, hak⟩ : ∃ a, a = stn % 40 := ⟨_, rfl⟩
            have k1 : (wdn : Int).tmod 8 = (aw : Int) := by rw [haw]; exact (Int.ofNat_tmod wdn 8).symm
            have k2 : (hgn : Int).tmod 8 = (ah : Int) := by rw [hah]; exact (Int.ofNat_tmod hgn 8).symm
            have k3 : (stn : Int).tmod 40 = (ak : Int) := by rw [hak]; exact (Int.ofNat_tmod stn 40).symm
            have k4 : (wdn : Int) % 8 = (aw : Int) := by omega
            have k5 : (hgn : Int) % 8 = (ah : Int) := by omega
            have k6 : (stn : Int) % 40 = (ak : Int) := by omega
            obtain ⟨W2, hW2⟩ : ∃ v, v = 1 + aw := ⟨_, rfl⟩
            obtain ⟨H2, hH2⟩ : ∃ v, v = 1 + ah := ⟨_, rfl⟩
            obtain ⟨kk, hkk⟩ : ∃ v, v = 4 + ak := ⟨_, rfl⟩
            have k7 : 1 + (aw : Int) = (W2 : Int) := by omega
            have k8 : 1 + (ah : Int) = (H2 : Int) := by omega
            have k9 : 4 + (ak : Int) = (kk : Int) := by omega
            have HB8 := Lib.hid (show (1 ≤ W2 ∧ W2 ≤ 8) ∧ (1 ≤ H2 ∧ H2 ≤ 8) ∧ 4 ≤ kk ∧ kk ≤ 43 from by omega)
            have haw8 : aw < 8 := by omega
            have hah8 : ah < 8 := by omega
            have hak40 : ak < 40 := by omega
            clear haw hah hak hW2 hH2 hkk hmm hds mf1 mf2 mf3 mf4 HBOX HMO2 hbx hin
            have HDX := Lib.hid hdx; have HDY := Lib.hid hdy
            obtain ⟨e0, e1⟩ := cells2 HB1.out
            obtain ⟨g0, g1'⟩ := cells2 HB2.out
            have c0 := cell_of_blk (o := 0) B0.out rfl; have c1 := cell_of_blk (o := 1) B0.out rfl; have c2 := cell_of_blk (o := 2) B0.out rfl
            go_wp2_with fail
            refine (HAC.out _).mono ?_
            rintro e v1 ⟨rfl, h2⟩
            have HE := Lib.hid (HE.out.trans h2); have B0 := Lib.hid (block_ext h2 B0.out); have HB1 := Lib.hid (block_ext h2 HB1.out); have HB2 := Lib.hid (block_ext h2 HB2.out)
            clear h2 c0 c1 c2 e0 e1 g0 g1'
            obtain ⟨e0, e1⟩ := cells2 HB1.out
            obtain ⟨g0, g1'⟩ := cells2 HB2.out
            have c0 := cell_of_blk (o := 0) B0.out rfl; have c1 := cell_of_blk (o := 1) B0.out rfl; have c2 := cell_of_blk (o := 2) B0.out rfl
            go_wp2_with fail
            refine (HMO.out _).mono ?_
            rintro e v2 ⟨rfl, h2⟩
            have HE := Lib.hid (HE.out.trans h2); have B0 := Lib.hid (block_ext h2 B0.out); have HB1 := Lib.hid (block_ext h2 HB1.out); have HB2 := Lib.hid (block_ext h2 HB2.out)
            clear h2 c0 c1 c2 e0 e1 g0 g1' hdx hdy
            obtain ⟨e0, e1⟩ := cells2 HB1.out
            obtain ⟨g0, g1'⟩ := cells2 HB2.out
            have c0 := cell_of_blk (o := 0) B0.out rfl; have c1 := cell_of_blk (o := 1) B0.out rfl; have c2 := cell_of_blk (o := 2) B0.out rfl
            have HM2 := Lib.hid (fun V => most_ok (kk : Int) W2 H2 V HB8.out.1 HB8.out.2.1 (by have := HB8.out.2.2; omega))
            have HMF := Lib.hid (most_facts (s := (kk : Int)) (W := W2) (H := H2) HB8.out.1.1 HB8.out.2.1.1 (by have := HB8.out.2.2; omega))
            generalize mostB (kk : Int) W2 H2 = mb2 at *
            obtain ⟨x2, y2⟩ := mb2
            dsimp only at HM2 HMF
            have hdx := HDX.out; have hdy := HDY.out

            go_wp2_with fail
            refine (HM2.out _).mono ?_
            rintro e v3 ⟨rfl, h2⟩
            have HE := Lib.hid (HE.out.trans h2); have B0 := Lib.hid (block_ext h2 B0.out)
            clear h2 c0 c1 c2 e0 e1 g0 g1' hdx hdy HB1 HB2 hA hB1 hB2 hds16 hlob k1 k2 k3 k4 k5 k6 k7 k8 k9
            obtain ⟨⟨n1, n2⟩, ⟨n3, n4⟩, n5, -⟩ := HMF.out
            obtain ⟨⟨-, b1⟩, ⟨-, b2⟩, b3, b4⟩ := HB8.out
            obtain ⟨m2, hm2⟩ : ∃ m, m = x2 * y2 := ⟨_, rfl⟩
            have hmul : (x2 : Int) * (y2 : Int) = (m2 : Int) := by rw [hm2]; simp
            have hm2i : ((x2 * y2 : Nat) : Int) = (m2 : Int) := by rw [hm2]
            rw [hm2i]
            have hm64 : m2 ≤ 64 := by rw [hm2]; exact Nat.mul_le_mul (Nat.le_trans n2 b1) (Nat.le_trans n4 b2)
            obtain ⟨xy, hxy⟩ : ∃ v, v = x2 + y2 := ⟨_, rfl⟩
            have l1 : ¬ (x2 : Int) < 1 := by omega
            have l2 : ¬ (y2 : Int) < 1 := by omega
            have l3 : ¬ (W2 : Int) < (x2 : Int) := by omega
            have l4 : ¬ (H2 : Int) < (y2 : Int) := by omega
            have l5 : (x2 : Int) + (y2 : Int) = (xy : Int) := by omega
            have l6 : ¬ (kk : Int) < 2 * (xy : Int) := by omega
            have l7 : xy ≤ 16 := by omega
            have HXY := Lib.hid (show (1 ≤ x2 ∧ x2 ≤ 8) ∧ 1 ≤ y2 ∧ y2 ≤ 8 from by omega)
            have HM2V := Lib.hid hm2
            clear hm2 hm2i n1 n2 n3 n4 n5 b1 b2 b3 b4 hxy
            go_upto_region 16 with fail
            go_cut [202] from 168 (fun q wx => q = .bool false ∧ Hid (wx = v3))
            case first =>
              go_wp2
              all_goals
                go_meet
                exact ⟨by first | rfl | exact congrArg Value.bool (by simp <;> omega), Lib.hid rfl⟩
            case rest =>
              obtain ⟨rfl, hcw⟩ := hcut
              obtain rfl := hcw.out
              clear l1 l2 l3 l4 l5 l6 l7 hmul hm64 hcw
              have hx28 : x2 ≤ 8 := HXY.out.1.2
              have hy28 : y2 ≤ 8 := HXY.out.2.2
              go_wp2
              go_loopw [27, 28] (fun sv i wr => ∃ k : Nat, k ≤ x2 ∧ i = .int .i64 (k : Int) ∧ sv = .string (eW k) ∧ Hid (wr.heap[w.heap.size]? = some (.cells #[.int .i64 X, .int .i64 Y, .string s] 40 (0, 0))) ∧ Hid (Ext w wr)) (fun sv i wr => x2 - (intOf i).toNat)
              case atStart => exact ⟨0, Nat.zero_le _, rfl, rfl, B0, HE⟩
              case round =>
                clear B0 HE
                obtain ⟨k, hk, rfl, rfl, B0, HE⟩ := hrel
                by_cases hlt : k < x2
                · have hkb : (k : Int) < (x2 : Int) := by omega
                  obtain ⟨c1, hc1⟩ : ∃ c, c = ByteArray.mk #[69] ++ eW k := ⟨_, rfl⟩
                  have hz0 := eW_size k
                  have hz1 : c1.size = 1 + 2 * k := by rw [hc1, ByteArray.size_append, hz0]; rfl
                  have hadd1 : ∀ V : World, (Op.stringOp .add (ByteArray.mk #[69]) (eW k)).run Try.prog V = .ok (.string c1) V := fun V => by
                    rw [run_string_add_sum V _ _ (by have : (ByteArray.mk #[69]).size = 1 := rfl; omega), hc1]
                  obtain ⟨c2, hc2⟩ : ∃ c, c = eW (k + 1) := ⟨_, rfl⟩
                  have hadd2 : ∀ V : World, (Op.stringOp .add c1 (ByteArray.mk #[87])).run Try.prog V = .ok (.string c2) V := fun V => by
                    rw [run_string_add_sum V _ _ (by have : (ByteArray.mk #[87]).size = 1 := rfl; omega), hc1, eW_succ, hc2]
                  have HC2 := Lib.hid hc2
                  generalize eW k = ek at *
                  clear hz0 hz1 hc1 hc2
                  go_wp2
                  go_roundw
                  case rel => exact ⟨k + 1, by omega, by go_num, by rw [HC2.out], B0, HE⟩
                  case measure => simp [intOf]; omega
                · have hkx : k = x2 := by omega
                  subst k
                  clear hk hlt
                  go_wp2
                  go_loopw [29, 30, 31] (fun up dn i wr => ∃ k : Nat, k ≤ y2 ∧ i = .int .i64 (k : Int) ∧ up = .string (rep1 78 k) ∧ dn = .string (rep1 83 k) ∧ Hid (wr.heap[w.heap.size]? = some (.cells #[.int .i64 X, .int .i64 Y, .string s] 40 (0, 0))) ∧ Hid (Ext w wr)) (fun up dn i wr => y2 - (intOf i).toNat)
                  case atStart => exact ⟨0, Nat.zero_le _, rfl, rfl, rfl, B0, HE⟩
                  case round =>
                    clear B0 HE
                    obtain ⟨k, hk, rfl, rfl, rfl, B0, HE⟩ := hrel
                    by_cases hlt : k < y2
                    · have hkb : (k : Int) < (y2 : Int) := by omega
                      obtain ⟨c1, hc1⟩ : ∃ c, c = rep1 78 (k + 1) := ⟨_, rfl⟩
                      obtain ⟨c2, hc2⟩ : ∃ c, c = rep1 83 (k + 1) := ⟨_, rfl⟩
                      have hz1 := rep1_size 78 k; have hz2 := rep1_size 83 k
                      have hadd1 : ∀ V : World, (Op.stringOp .add (rep1 78 k) (ByteArray.mk #[78])).run Try.prog V = .ok (.string c1) V := fun V => by
                        rw [run_string_add_sum V _ _ (by have : (ByteArray.mk #[78]).size = 1 := rfl; omega), rep1_succ, hc1]
                      have hadd2 : ∀ V : World, (Op.stringOp .add (rep1 83 k) (ByteArray.mk #[83])).run Try.prog V = .ok (.string c2) V := fun V => by
                        rw [run_string_add_sum V _ _ (by have : (ByteArray.mk #[83]).size = 1 := rfl; omega), rep1_succ, hc2]
                      have HC1 := Lib.hid hc1; have HC2 := Lib.hid hc2
                      generalize rep1 78 k = ek at *
                      generalize rep1 83 k = fk at *
                      clear hz1 hz2 hc1 hc2
                      go_wp2
                      go_roundw
                      case rel => exact ⟨k + 1, by omega, by go_num, by rw [HC1.out], by rw [HC2.out], B0, HE⟩
                      case measure => simp [intOf]; omega
                    · have hky : k = y2 := by omega
                      subst k
                      clear hk hlt
                      obtain ⟨bs, hbs⟩ : ∃ bs, bs = boxS x2 y2 := ⟨_, rfl⟩
                      have hz0 := eW_size x2; have hz1 := rep1_size 78 y2; have hz2 := rep1_size 83 y2
                      obtain ⟨sx1, hsx1⟩ : ∃ v, v = (eW x2).extract 0 x2 := ⟨_, rfl⟩
                      obtain ⟨sx2, hsx2⟩ : ∃ v, v = (eW x2).extract x2 (eW x2).size := ⟨_, rfl⟩
                      have hz3 : sx1.size ≤ 16 := by rw [hsx1, ByteArray.size_extract]; omega
                      have hz4 : sx2.size ≤ 16 := by rw [hsx2, ByteArray.size_extract]; omega
                      obtain ⟨q1, hq1⟩ : ∃ v, v = sx1 ++ rep1 78 y2 := ⟨_, rfl⟩
                      have hz5 : q1.size ≤ 24 := by rw [hq1, ByteArray.size_append]; omega
                      obtain ⟨q2, hq2⟩ : ∃ v, v = q1 ++ sx2 := ⟨_, rfl⟩
                      have hz6 : q2.size ≤ 40 := by rw [hq2, ByteArray.size_append]; omega
                      have hb3 : q2 ++ rep1 83 y2 = bs := by rw [hq2, hq1, hsx1, hsx2, hbs]; rfl
                      have hxa : (0 : Int) ≤ (x2 : Int) := by omega
                      have hxb : (x2 : Int) ≤ ((eW x2).size : Int) := by omega
                      have hxt : (x2 : Int).toNat = x2 := by omega
                      have hsl1 : ∀ V : World, (Instr.slice 9 (.string (eW x2)) none (some (.int .i64 (x2 : Int))) none).run Try.prog V = .ok (.string sx1) V := fun V => by
                        rw [run_slice_string_h V 9 _ Try.underlying9 .i64 (x2 : Int) hxa hxb, hxt, hsx1]
                      have hsl2 : ∀ V : World, (Instr.slice 9 (.string (eW x2)) (some (.int .i64 (x2 : Int))) none none).run Try.prog V = .ok (.string sx2) V := fun V => by
                        rw [run_slice_string_l V 9 _ Try.underlying9 .i64 (x2 : Int) hxa hxb, hxt, hsx2]
                      have hcat1 : ∀ V : World, (Op.stringOp .add sx1 (rep1 78 y2)).run Try.prog V = .ok (.string q1) V := fun V => by
                        rw [run_string_add_sum V _ _ (by omega), hq1]
                      have hcat2 : ∀ V : World, (Op.stringOp .add q1 sx2).run Try.prog V = .ok (.string q2) V := fun V => by
                        rw [run_string_add_sum V _ _ (by omega), hq2]
                      have hcat3 : ∀ V : World, (Op.stringOp .add q2 (rep1 83 y2)).run Try.prog V = .ok (.string bs) V := fun V => by
                        rw [run_string_add_sum V _ _ (by omega), hb3]
                      obtain ⟨h5, h6, h7⟩ := box_area HXY.out.1 HXY.out.2
                      rw [← hbs] at h5 h6 h7
                      have HAR := Lib.hid (fun V => area_ok 0 0 bs V h5)
                      rw [h6, h7, ← HM2V.out] at HAR
                      generalize eW x2 = ex at *
                      generalize rep1 78 y2 = upv at *
                      generalize rep1 83 y2 = dnv at *
                      clear hbs hz0 hz1 hz2 hz3 hz4 hz5 hz6 hsx1 hsx2 hq1 hq2 hb3 hxa hxb hxt h5 h6 h7
                      go_upto_region 28 with fail
                      go_cut [32] from 220 (fun b wx => ∃ g : Nat, b = .pointer (some ⟨g, 0, none⟩) ∧ Hid (wx.heap[g]? = some (.cells #[.int .i64 0, .int .i64 0, .string bs] 40 (0, 0))) ∧ Hid (wr.heap.size ≤ g) ∧ Hid (Ext wr wx))
                      case first =>
                        refine wp_region_tree (fun V : World => V.heap[w.heap.size]? = some (.cells #[.int .i64 X, .int .i64 Y, .string s] 40 (0, 0))) (Tr.pres [0, 1, 2, 3, 4, 5, 6, 7, 8, 9, 10] (.alt 11 (.lin [12, 13]) 12 (.lin [11, 13]))) (by kernel_rfl) (by kernel_rfl) (by exact B0.out) (fun hHeld => ?_)
                        obtain ⟨w5, hw5⟩ : ∃ V, V = wr.drew := ⟨_, rfl⟩
                        have hE5 : Ext wr w5 := by rw [hw5]; exact (Ext.refl _).drew
                        have hz5 : w5.heap.size = wr.heap.size := by rw [hw5]; rfl
                        rw [← hw5] at hHeld ⊢
                        clear hw5
                        refine' tree_pres [0, 1, 2, 3, 4, 5, 6, 7, 8, 9, 10] 11 (by kernel_rfl) (by kernel_rfl) (by decide) hHeld ?ck1 ?cr1
                        case ck1 =>
                          intro W hSw
                          have hSW := hSw
                          try dsimp only at hSW
                          clear hSw
                          skip
                          simp only [opsIn, List.filterMap_cons, List.filterMap_nil, List.getElem?_toArray, List.getElem?_cons_succ, List.getElem?_cons_zero]
                          simp only [List.take_succ_cons, List.take_zero]
                          repeat (go_big_quiet_step (fail))
                          exact wpQuiet_nil rfl
                        refine tree_alt (by rfl) (by rfl) (by rfl) (by rfl) (fun K hK => ?_) (fun K hK => ?_)
                        · skip
                          simp only [List.getElem_toArray, List.getElem_cons_zero, List.getElem_cons_succ]
                          go_simp
                          refine (chain_c 0 0 bs _).mono ?_
                          intro e w6 h1; obtain ⟨h1, h2⟩ := h1; subst h1
                          all_goals (try (go_wp2_with fail))
                          refine hK.out _ _ (by exact block_ext (h2) hHeld) (fun hHeld => ?_)
                          clear hK K
                          try simp only [Act.put, List.setIfInBounds_toArray, List.set_cons_zero, List.set_cons_succ]
                          refine tree_lin ?_
                          simp only [opsIn, List.filterMap_cons, List.filterMap_nil, List.getElem?_toArray, List.getElem?_cons_succ, List.getElem?_cons_zero]
                          refine text_call (by rfl) (by rfl) (fun K hK => ?_)
                          go_simp
                          refine hK.out _ _ (by exact block_ext ((Ext.refl _).alloc _) hHeld) (fun hHeld => ?_)
                          clear hK K
                          try simp only [Act.put, List.setIfInBounds_toArray, List.set_cons_zero, List.set_cons_succ]
                          obtain ⟨w7, hw7⟩ : ∃ V, V = w6.alloc (.cells #[.int .i64 0, .int .i64 0, .string ⟨#[]⟩] 40) := ⟨_, rfl⟩
                          rw [← hw7] at hHeld ⊢
                          have hb7 : w7.heap[w6.heap.size]? = some (.cells #[.int .i64 0, .int .i64 0, .string ⟨#[]⟩] 40 (0, 0)) := by rw [hw7]; exact heap_alloc_new _ _
                          have hE7 : Ext wr w7 := by rw [hw7]; exact (hE5.trans h2).alloc _
                          have hg7 : wr.heap.size ≤ w6.heap.size := by have := h2.size; omega
                          clear hw7 h2
                          refine text_call (by rfl) (by rfl) (fun K hK => ?_)
                          refine wp_store_row 40 _ _ rfl w6.heap.size #[.int .i64 0, .int .i64 0, .string bs] rfl rfl 40 #[.int .i64 0, .int .i64 0, .string ⟨#[]⟩] hb7 INF3 rfl (ONE3 _ _ _) ?_
                          have hs9 := setRow_heap' _ _ #[.int .i64 0, .int .i64 0, .string bs] _ _ hb7
                          have he9 := setRow_ext hE7 hg7 #[.int .i64 0, .int .i64 0, .string bs]
                          refine hK.out _ _ (by exact block_ext he9 B0.out) (fun hHeld => ?_)
                          clear hK K
                          try simp only [Act.put, List.setIfInBounds_toArray, List.set_cons_zero, List.set_cons_succ]
                          refine text_done ?_
                          go_wp2_with fail
                          go_meet
                          exact ⟨_, rfl, Lib.hid hs9, Lib.hid hg7, Lib.hid he9⟩
                        · skip
                          simp only [List.getElem_toArray, List.getElem_cons_zero, List.getElem_cons_succ]
                          go_simp
                          refine hK.out _ _ (by exact block_ext ((Ext.refl _).alloc _) hHeld) (fun hHeld => ?_)
                          clear hK K
                          try simp only [Act.put, List.setIfInBounds_toArray, List.set_cons_zero, List.set_cons_succ]
                          obtain ⟨w7, hw7⟩ : ∃ V, V = w5.alloc (.cells #[.int .i64 0, .int .i64 0, .string ⟨#[]⟩] 40) := ⟨_, rfl⟩
                          rw [← hw7] at hHeld ⊢
                          have hb7 : w7.heap[wr.heap.size]? = some (.cells #[.int .i64 0, .int .i64 0, .string ⟨#[]⟩] 40 (0, 0)) := by rw [← hz5, hw7]; exact heap_alloc_new _ _
                          have hE7 : Ext wr w7 := by rw [hw7]; exact hE5.alloc _
                          have hg7 : wr.heap.size ≤ wr.heap.size := Nat.le_refl _
                          clear hw7
                          try simp only [Act.put, List.setIfInBounds_toArray, List.set_cons_zero, List.set_cons_succ]
                          refine tree_lin ?_
                          simp only [opsIn, List.filterMap_cons, List.filterMap_nil, List.getElem?_toArray, List.getElem?_cons_succ, List.getElem?_cons_zero]
                          refine text_call (by rfl) (by rfl) (fun K hK => ?_)
                          go_simp
                          refine (chain_c 0 0 bs _).mono ?_
                          intro e w6 h1; obtain ⟨h1, h2⟩ := h1; subst h1
                          all_goals (try (go_wp2_with fail))
                          refine hK.out _ _ (by exact block_ext (h2) hHeld) (fun hHeld => ?_)
                          clear hK K
                          try simp only [Act.put, List.setIfInBounds_toArray, List.set_cons_zero, List.set_cons_succ]
                          have hb6 := block_ext h2 hb7
                          have hE6 := hE7.trans h2
                          refine text_call (by rfl) (by rfl) (fun K hK => ?_)
                          refine wp_store_row 40 _ _ rfl wr.heap.size #[.int .i64 0, .int .i64 0, .string bs] rfl rfl 40 #[.int .i64 0, .int .i64 0, .string ⟨#[]⟩] hb6 INF3 rfl (ONE3 _ _ _) ?_
                          have hs9 := setRow_heap' _ _ #[.int .i64 0, .int .i64 0, .string bs] _ _ hb6
                          have he9 := setRow_ext hE6 hg7 #[.int .i64 0, .int .i64 0, .string bs]
                          refine hK.out _ _ (by exact block_ext he9 B0.out) (fun hHeld => ?_)
                          clear hK K
                          try simp only [Act.put, List.setIfInBounds_toArray, List.set_cons_zero, List.set_cons_succ]
                          refine text_done ?_
                          go_wp2_with fail
                          go_meet
                          exact ⟨_, rfl, Lib.hid hs9, Lib.hid hg7, Lib.hid he9⟩
                      case rest =>
                        obtain ⟨g, rfl, hg, hgs, h2⟩ := hcut
                        obtain ⟨w4, hw4⟩ : ∃ V0, V0 = wc := ⟨_, rfl⟩
                        rw [← hw4] at hg h2 ⊢
                        have HE := Lib.hid (HE.out.trans h2.out)
                        have c0 := cell_of_blk (o := 0) hg.out rfl; have c1 := cell_of_blk (o := 1) hg.out rfl; have c2 := cell_of_blk (o := 2) hg.out rfl
                        clear hg hgs h2 hw4 hsl1 hsl2 hcat1 hcat2 hcat3
                        go_wp2_with fail
                        refine (HAR.out _).mono ?_
                        rintro e v9 ⟨rfl, h2⟩
                        have HE := Lib.hid (HE.out.trans h2)
                        clear h2 c0 c1 c2
                        go_wp2_with fail
                        refine (works_c _).mono ?_
                        rintro e wz ⟨rfl, hz⟩
                        go_wp2
                        go_ret
                        exact ⟨rfl, HE.out.trans hz⟩
    · have hc0 : decide (cr = 0) = false := decide_eq_false h0
      have hc1 : (cr != 0) = true := by simp [h0]
      clear hcr
      go_wp2_with fail
      refine (HCC.out _).mono ?_
      rintro e w2 ⟨rfl, h2⟩
      go_wp2_with fail
      refine (works_c _).mono ?_
      rintro e wz ⟨rfl, hz⟩
      go_wp2
      go_ret
      exact ⟨rfl, (HE.out.trans h2).trans hz⟩
end Go.Proofs.Ytppjnpempgpkaaa
