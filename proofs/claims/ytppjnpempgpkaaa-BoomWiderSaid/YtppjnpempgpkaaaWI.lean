/- BoomWider, by its contract. -/
import Derived.Test.YtppjnpempgpkaaaS6
import Derived.Test.YtppjnpempgpkaaaFI
import Derived.Test.YtppjnpempgpkaaaWD
import Derived.Test.YtppjnpempgpkaaaFW
import Derived.Test.YtppjnpempgpkaaaH7
import Derived.Test.YtppjnpempgpkaaaH6
import Derived.Test.YtppjnpempgpkaaaN3
import Derived.Test.YtppjnpempgpkaaaK1
namespace Go.Proofs.Ytppjnpempgpkaaa
open Go.RowKit Go.Shelf
set_option linter.unusedVariables false
set_option linter.unusedSimpArgs false
attribute [local go_sem] Oper.semAt_some

theorem reads_same {w X : World} {v : Value} {xs : List Int} (h : Reads w v xs) (g : Nat) (hg : ∀ b o n c, v = .slice (some ⟨b, o, none⟩) n c → b ≠ g) (hs : ∀ k, k < w.heap.size → k ≠ g → X.heap[k]? = w.heap[k]?) : Reads X v xs := by
  obtain ⟨hl, a, cap, rfl, hcap, h⟩ := h
  refine ⟨hl, a, cap, rfl, hcap, h.imp id ?_⟩
  rintro ⟨b, off, rfl, hc⟩
  refine ⟨b, off, rfl, fun i hi => ?_⟩
  have h1 := hc i hi
  have h2 := hs b (lt_of_cell h1) (hg _ _ _ _ rfl)
  rw [← h1]
  simp only [World.cell?, h2]
theorem natI_get {xs : List Nat} {k : Nat} {x : Int} (h : (natI xs)[k]? = some x) : ∃ c, xs[k]? = some c ∧ x = (c : Int) := by
  unfold natI at h
  rw [List.getElem?_map] at h
  cases hc : xs[k]? with
  | none => rw [hc] at h; cases h
  | some c => rw [hc] at h; exact ⟨c, rfl, (Option.some.inj h).symm⟩
set_option maxRecDepth 100000 in
set_option maxHeartbeats 4000000 in
theorem wider_c (W H : Int) (aw ak : Option Addr) (cw ck : Nat) (wl kl : List Int) (dx dy : Nat) (hdx : dx ≤ 255) (hdy : dy ≤ 255) (w : World) (hw : wl.length ≤ 5000 → Reads w (.slice aw wl.length cw) wl) (hk : kl.length ≤ 5000 → Reads w (.slice ak kl.length ck) kl) :
    Calls Try.prog 10 #[.agg #[.int .i64 W, .int .i64 H, .slice aw wl.length cw, .slice ak kl.length ck], .int .u8 (dx : Int), .int .u8 (dy : Int)] w fun e w' => e = .returned (.bool true) ∧ Ext w w' := by
  obtain ⟨b, hb⟩ : ∃ b, b = fineB W H wl kl := ⟨_, rfl⟩
  have HF := Lib.hid (fun (X : World) (h : Ext w X) => fine_c W H aw ak cw ck wl kl X (fun h5 => (hw h5).ext h) (fun h5 => (hk h5).ext h))
  rw [← hb] at HF
  obtain ⟨nw, hnw⟩ : ∃ n, n = wl.length := ⟨_, rfl⟩
  obtain ⟨nk, hnk⟩ : ∃ n, n = kl.length := ⟨_, rfl⟩
  rw [← hnw] at HF hw ⊢
  rw [← hnk] at HF hk ⊢
  obtain ⟨w1, hw1⟩ : ∃ w1, w1 = w.alloc (.cells #[.int .i64 W, .int .i64 H, .slice aw nw cw, .slice ak nk ck] 24) := ⟨_, rfl⟩
  have HE := Lib.hid (show Ext w w1 from by rw [hw1]; exact (Ext.refl w).alloc _)
  have B0 := Lib.hid (show w1.heap[w.heap.size]? = some (.cells #[.int .i64 W, .int .i64 H, .slice aw nw cw, .slice ak nk ck] 24 (0, 0)) from by rw [hw1]; exact heap_alloc_new w _)
  have HZ := Lib.hid (show w1.heap.size = w.heap.size + 1 from by rw [hw1]; simp)
  have HB := Lib.hid hb; have HNW := Lib.hid hnw; have HNK := Lib.hid hnk; have HHW := Lib.hid hw; have HHK := Lib.hid hk
  clear hb hnw hnk hw hk
  obtain ⟨z0, z1, z2, z3⟩ := cells4 B0.out
  go_enter Try.func10, Try.ntmps10
  go_upto_region 1 with fail
  rw [← hw1]
  clear hw1
  go_wp2_with fail
  refine (HF.out _ HE.out).mono ?_
  rintro e w2 ⟨rfl, h2⟩
  have HE := Lib.hid (HE.out.trans h2); have B0 := Lib.hid (block_ext h2 B0.out); have HZ := Lib.hid (show w.heap.size + 1 ≤ w2.heap.size from by have := HZ.out; have := h2.size; omega)
  clear h2 z0 z1 z2 z3
  cases b
  · skip
    go_wp2_with fail
    refine (works_c _).mono ?_
    rintro e wz ⟨rfl, hz⟩
    go_wp2
    go_ret
    exact ⟨rfl, HE.out.trans hz⟩
  · have hfb := HB.out.symm
    unfold fineB at hfb
    rw [Bool.and_eq_true, Bool.not_eq_true', Bool.or_eq_false_iff, decide_eq_false_iff_not, decide_eq_false_iff_not, decide_eq_true_iff] at hfb
    obtain ⟨⟨h7w, h7k⟩, h0⟩ := hfb
    obtain ⟨W, H, wn, kn, ⟨rfl, rfl⟩, ⟨rfl, rfl⟩, hv⟩ := chkP_ok.1 h0
    clear h0
    have hnw := HNW.out; have hnk := HNK.out
    have HRW := Lib.hid (HHW.out (by omega)); have HRK := Lib.hid (HHK.out (by omega))
    rw [natI_len] at hnw hnk h7w h7k
    have HV := Lib.hid hv
    have hW8 := hv.w8; have hH8 := hv.h8; have hW1 := hv.w1; have hH1 := hv.h1
    clear HF HB HNW HNK HHW HHK hv
    have HN := Lib.hid (show nw = wn.length from hnw); have HNK := Lib.hid (show nk = kn.length from hnk)
    clear hnw hnk h7w h7k
    obtain ⟨d1, hd1⟩ : ∃ d, d = dx % 4 := ⟨_, rfl⟩
    obtain ⟨d2, hd2⟩ : ∃ d, d = dy % 4 := ⟨_, rfl⟩
    have hd14 : d1 < 4 := by omega
    have hd24 : d2 < 4 := by omega
    have he1 : (dx : Int).tmod 4 = (d1 : Int) := by rw [hd1]; exact (Int.ofNat_tmod dx 4).symm
    have he2 : (dx : Int) % 4 = (d1 : Int) := by rw [hd1]; simp
    have he3 : (dy : Int).tmod 4 = (d2 : Int) := by rw [hd2]; exact (Int.ofNat_tmod dy 4).symm
    have he4 : (dy : Int) % 4 = (d2 : Int) := by rw [hd2]; simp
    obtain ⟨W2, hW2⟩ : ∃ v, v = min 8 (W + d1) := ⟨_, rfl⟩
    obtain ⟨H2, hH2⟩ : ∃ v, v = min 8 (H + d2) := ⟨_, rfl⟩
    have hm1 : min (8 : Int) ((W : Int) + (d1 : Int)) = (W2 : Int) := by omega
    have hm2 : min (8 : Int) ((H : Int) + (d2 : Int)) = (H2 : Int) := by omega
    have HW8 := Lib.hid (show W2 ≤ 8 from by omega); have HH8 := Lib.hid (show H2 ≤ 8 from by omega)
    have HW2 := Lib.hid (show W ≤ W2 from by omega); have HH2 := Lib.hid (show H ≤ H2 from by omega)
    clear hW2 hH2 hd1 hd2
    obtain ⟨z0, z1, z2, z3⟩ := cells4 B0.out
    go_upto_region 3 with fail
    go_cut [7] from 18 (fun bx wx => ∃ (g : Nat) (a b : Int), a = (W2 : Int) ∧ b = (H2 : Int) ∧ bx = .pointer (some ⟨g, 0, none⟩) ∧ Hid (wx.heap[g]? = some (.cells #[.int .i64 a, .int .i64 b, .slice none 0 0, .slice none 0 0] 24 (0, 0))) ∧ Hid (w2.heap.size ≤ g) ∧ Hid (Ext w2 wx))
    case first =>
      go_wp2_with fail
      all_goals
        refine (pond_c _ _ 0 0 0 0 none none _).mono ?_
        rintro e w3 ⟨rfl, h2⟩
        go_wp2_with fail
        go_meet
        refine ⟨_, _, _, ?_, ?_, rfl, Lib.hid (heap_alloc_new _ _), Lib.hid h2.size, Lib.hid (h2.alloc _)⟩ <;> omega
    case rest =>
      obtain ⟨g, a, b, rfl, rfl, rfl, hg, hgs, h2⟩ := hcut
      obtain ⟨w3, hw3⟩ : ∃ Y, Y = wc := ⟨_, rfl⟩
      rw [← hw3] at hg h2 ⊢
      have BQ := Lib.hid hg.out
      have HE := Lib.hid (HE.out.trans h2.out); have B0 := Lib.hid (block_ext h2.out B0.out)
      have HGZ := Lib.hid (show w.heap.size < g from by have := hgs.out; have := HZ.out; omega)
      clear hg hgs h2 hw3 hd14 hd24 he1 he2 he3 he4 hm1 hm2 hW8 hH8 hW1 hH1 z0 z1 z2 z3 HZ
      go_wp2
      have BQ : Hid (∃ ws, w3.heap[g]? = some (.cells #[.int .i64 (W2 : Int), .int .i64 (H2 : Int), ws, .slice none 0 0] 24 (0, 0)) ∧ OwnI 3 (g + 1) w3 ws (natI ((wn.take 0).map (widF W W2)))) := Lib.hid ⟨_, BQ.out, OwnI.nil _ _ _⟩
      go_loopw [8] (fun i wr => ∃ k : Nat, k ≤ nw ∧ i = .int .i64 (k : Int) ∧ Hid (∃ ws, wr.heap[g]? = some (.cells #[.int .i64 (W2 : Int), .int .i64 (H2 : Int), ws, .slice none 0 0] 24 (0, 0)) ∧ OwnI 3 (g + 1) wr ws (natI ((wn.take k).map (widF W W2)))) ∧ Hid (wr.heap[w.heap.size]? = some (.cells #[.int .i64 (W : Int), .int .i64 (H : Int), .slice aw nw cw, .slice ak nk ck] 24 (0, 0))) ∧ Hid (Ext w wr)) (fun i wr => nw - (intOf i).toNat)
      case atStart => exact ⟨0, Nat.zero_le _, rfl, BQ, B0, HE⟩
      case round =>
        clear BQ B0 HE
        obtain ⟨k, hk, rfl, HBQ, B0, HE⟩ := hrel
        obtain ⟨u, hbq, hou⟩ := HBQ.out
        have BQ := Lib.hid hbq; have HO := Lib.hid hou
        clear HBQ hbq hou
        by_cases hlt : k < nw
        · obtain ⟨wb, off, x, e1, hx, hcx⟩ := (HRW.out.ext HE.out).at (k := k) (by rw [natI_len]; have := HN.out; omega)
          obtain ⟨c, hc, rfl⟩ := natI_get hx
          obtain ⟨q, hq⟩ : ∃ q, q = c / W := ⟨_, rfl⟩
          obtain ⟨r, hr⟩ : ∃ r, r = c % W := ⟨_, rfl⟩
          have hcl : c < W * H := HV.out.want.lt c (List.mem_of_getElem? hc)
          have hW1 : 1 ≤ W ∧ W ≤ 8 ∧ W2 ≤ 8 := ⟨HV.out.w1, HV.out.w8, HW8.out⟩
          have hn64 := HV.out.n64
          have hr8 : r < W := by rw [hr]; exact Nat.mod_lt _ (by omega)
          have hq64 : q ≤ 64 := by rw [hq]; exact Nat.le_trans (Nat.div_le_self c W) (by omega)
          obtain ⟨m, hm⟩ : ∃ m, m = q * W2 := ⟨_, rfl⟩
          have hm1 : m ≤ 64 * 8 := by rw [hm]; exact Nat.mul_le_mul hq64 hW1.2.2
          have hwf : widF W W2 c = m + r := by unfold widF; rw [hm, hq, hr]
          have hd1 : (c : Int).tdiv (W : Int) = (q : Int) := by rw [hq]; exact (Int.ofNat_tdiv c W).symm
          have hd2 : (c : Int) / (W : Int) = (q : Int) := by rw [hq]; simp
          have hd3 : (c : Int).tmod (W : Int) = (r : Int) := by rw [hr]; exact (Int.ofNat_tmod c W).symm
          have hd4 : (c : Int) % (W : Int) = (r : Int) := by rw [hr]; simp
          have hd0 : ¬ (W : Int) = 0 := by omega
          have hmi : (q : Int) * (W2 : Int) = (m : Int) := by rw [hm]; simp
          have hw1 : IntKind.i64.wrap ((q : Int) * (W2 : Int)) = (m : Int) := by rw [hmi]; exact wrapi64 _ (by omega) (by omega)
          have hw2 : IntKind.i64.wrap ((m : Int) + (r : Int)) = ((m + r : Nat) : Int) := by rw [show (m : Int) + (r : Int) = ((m + r : Nat) : Int) from by omega]; exact wrapi64 _ (by omega) (by omega)
          have hw3 : IntKind.i64.wrap (q : Int) = (q : Int) := wrapi64 _ (by omega) (by omega)
          have HSN := Lib.hid (show natI ((wn.take (k + 1)).map (widF W W2)) = natI ((wn.take k).map (widF W W2)) ++ [((m + r : Nat) : Int)] from by
            rw [take_snoc hc, List.map_append, List.map_cons, List.map_nil, hwf]; unfold natI; simp)
          have HLE := Lib.hid (show (natI ((wn.take k).map (widF W W2))).length ≤ 20000 from by
            rw [natI_len, List.length_map, List.length_take]; have := HV.out.want.len; have := HV.out.n64; omega)
          have HLT := Lib.hid hlt
          have hka : (0 : Int) ≤ (k : Int) := by omega
          have hkb : (k : Int) < (nw : Int) := by omega
          have hkt : (k : Int).toNat = k := by omega
          obtain ⟨mr, hmr⟩ : ∃ mr, mr = m + r := ⟨_, rfl⟩
          rw [← hmr] at hw2 HSN
          subst e1
          clear hx hc hq hr hm hwf hcl hn64 hr8 hq64 hm1 hmi hmr hW1
          obtain ⟨z0, z1, z2, z3⟩ := cells4 B0.out
          go_upto_region 7 with fail
          clear z0 z1 z2 z3
          refine wp_orderL (fun V : World => V.heap[w.heap.size]? = some (.cells #[.int .i64 (W : Int), .int .i64 (H : Int), .slice (some ⟨wb, off, none⟩) nw cw, .slice ak nk ck] 24 (0, 0)) ∧ V.heap[g]? = some (.cells #[.int .i64 (W2 : Int), .int .i64 (H2 : Int), u, .slice none 0 0] 24 (0, 0)) ∧ V.cell? ⟨wb, off + k, none⟩ = some (.int .i64 (c : Int))) [0, 1, 2, 3, 4, 5, 6, 7, 8, 9, 10, 11, 12, 13, 14, 15, 16, 17, 18, 19, 20, 21, 22, 23, 24, 25] 25 (by kernel_rfl) (by kernel_rfl) (by kernel_rfl) (by exact ⟨B0.out, BQ.out, hcx⟩) (fun hHeld => ?_)
          simp only [opsIn, List.filterMap_cons, List.filterMap_nil, List.getElem?_toArray, List.getElem?_cons_succ, List.getElem?_cons_zero]
          obtain ⟨Y0, hY0⟩ : ∃ Y, Y = wr.drew := ⟨_, rfl⟩
          have hE0 : Ext wr Y0 := by rw [hY0]; exact (Ext.refl _).drew
          rw [← hY0] at hHeld ⊢
          clear hY0
          refine' textL_chunk 22 (by kernel_rfl) hHeld ?ck3 ?cr3
          case ck3 =>
            intro W hSw
            have hSW := hSw
            try dsimp only at hSW
            clear hSw
            obtain ⟨s1, s2, s3⟩ := hSW
            obtain ⟨z0, z1, z2, z3⟩ := cells4 s1
            obtain ⟨y0, y1, y2, y3⟩ := cells4 s2
            clear s1 s2
            simp only [List.take_succ_cons, List.take_zero, List.drop_succ_cons, List.drop_zero]
            repeat (go_big_quiet_step (fail))
            exact wpQuiet_nil rfl
          simp only [List.take_succ_cons, List.take_zero, List.drop_succ_cons, List.drop_zero]
          clear hd1 hd2 hd3 hd4 hd0 hw1 hw2 hw3
          refine textL_callW (by rfl) (by rfl) (fun K hK => ?_)
          go_simp
          refine hK.out _ _ (by exact ⟨block_ext ((Ext.refl _).alloc _) hHeld.1, block_ext ((Ext.refl _).alloc _) hHeld.2.1, cell_ext ((Ext.refl _).alloc _) hHeld.2.2⟩) (fun hHeld => ?_)
          clear hK K
          try simp only [Act.put, List.setIfInBounds_toArray, List.set_cons_zero, List.set_cons_succ]
          obtain ⟨V1, hV1⟩ : ∃ V1, V1 = Y0.alloc (.cells #[.int .i64 (mr : Int)] 3) := ⟨_, rfl⟩
          rw [← hV1] at hHeld ⊢
          have hE1 : Ext wr V1 := by rw [hV1]; exact hE0.alloc _
          have hcv : V1.cell? ⟨Y0.heap.size, 0, none⟩ = some (.int .i64 (mr : Int)) := cell_of_blk (by rw [hV1]; exact heap_alloc_new _ _) rfl
          obtain ⟨v9, V9, hrun, ho9, hg9⟩ := appendI_run (HO.out.ext hE1) (by have := lt_of_blk hHeld.2.1; omega) HLE.out (mr : Int) _ hcv 22
          obtain ⟨a9, n9, c9, rfl⟩ : ∃ a n c, v9 = .slice a n c := by
            obtain ⟨a, c, e, -⟩ := ho9.shape
            exact ⟨a, _, c, e⟩
          have HGG := own_from (HO.out.ext hE1)
          have HRUN := Lib.hid hrun
          have HO9 := Lib.hid (show OwnI 3 (g + 1) V9 (.slice a9 n9 c9) (natI ((wn.take (k + 1)).map (widF W W2))) from by rw [HSN.out]; exact ho9)
          have HE9 := Lib.hid (show Ext w V9 from grown_any (HE.out.trans hE1) hg9 (fun b e => by have := HGG b e; have := HGZ.out; omega))
          have HP9 := Lib.hid ((hg9.block w.heap.size (lt_of_blk hHeld.1) (fun e => by have := HGG _ e.symm; have := HGZ.out; omega)).trans hHeld.1)
          have HQ9 := Lib.hid ((hg9.block g (lt_of_blk hHeld.2.1) (fun e => by have := HGG _ e.symm; omega)).trans hHeld.2.1)
          have HC9 := Lib.hid (show V9.cell? ⟨wb, off + k, none⟩ = some (.int .i64 (c : Int)) from by
            have h1 := (HRW.out.ext HE9.out).get (k := k) (by rw [natI_len]; have := HN.out; omega)
            have h2 := (HRW.out.ext HE.out).get (k := k) (by rw [natI_len]; have := HN.out; omega)
            rw [h1, ← h2, hcx])
          clear hrun ho9 hg9 hcv hV1 HGG HO hcx
          refine textL_call_moreW (by rfl) (by rfl) (fun K hK => ?_)
          refine wp_append_run _ _ 22 rfl rfl rfl HRUN.out ?_
          refine hK.out (fun Y => Y = V9) _ _ (fun Y hY => by rw [hY]; exact ⟨HP9.out, HQ9.out, HC9.out⟩) rfl (fun hHeld => ?_)
          clear hK K
          try simp only [Act.put, List.setIfInBounds_toArray, List.set_cons_zero, List.set_cons_succ]
          refine' textL_chunk 1 (by kernel_rfl) hHeld ?ck4 ?cr4
          case ck4 =>
            intro W hSw
            have hSW := hSw
            try dsimp only at hSW
            clear hSw
            obtain rfl := hSW
            simp only [List.take_succ_cons, List.take_zero, List.drop_succ_cons, List.drop_zero]
            repeat (go_big_quiet_step (fail))
            exact wpQuiet_nil rfl
          simp only [List.take_succ_cons, List.take_zero, List.drop_succ_cons, List.drop_zero]
          refine textL_lastW (by rfl) (by rfl) (fun K hK => ?_)
          have y2 := cell_of_blk (o := 2) HQ9.out rfl
          have f2 := frozen_of_blk HQ9.out 2
          go_simp
          refine hK.out _ _ ?_
          clear hK K hHeld
          obtain ⟨X9, hX9⟩ : ∃ X, X = V9.setCell ⟨g, 2, none⟩ (.slice a9 n9 c9) := ⟨_, rfl⟩
          have hgx : V9.grownBy X9 (some g) := by rw [hX9]; exact grown_set _ _ _ _
          have BQ := Lib.hid (show X9.heap[g]? = some (.cells #[.int .i64 (W2 : Int), .int .i64 (H2 : Int), .slice a9 n9 c9, .slice none 0 0] 24 (0, 0)) from by
            rw [hX9]
            have h0 : V9.heap[g]? = some (.cells ([.int .i64 (W2 : Int), .int .i64 (H2 : Int), u, .slice none 0 0] : List Value).toArray 24 (0, 0)) := HQ9.out
            have := set_blk (o := 2) h0 (.slice a9 n9 c9)
            simpa using this)
          have B0 := Lib.hid (show X9.heap[w.heap.size]? = some (.cells #[.int .i64 (W : Int), .int .i64 (H : Int), .slice (some ⟨wb, off, none⟩) nw cw, .slice ak nk ck] 24 (0, 0)) from (other_blk hgx (by have := HGZ.out; omega) (lt_of_blk HP9.out)).trans HP9.out)
          have HO := Lib.hid (HO9.out.grown hgx (by omega))
          have HE := Lib.hid (show Ext w X9 from by rw [hX9]; exact HE9.out.set (by have := HGZ.out; omega) _ _)
          rw [← hX9]
          clear y2 f2 hgx hX9
          have hlt := HLT.out
          have hk64 : k < 64 := by have := HN.out; have := HV.out.want.len; have := HV.out.n64; omega
          go_wp2
          go_roundw
          case rel => exact ⟨k + 1, by have := HLT.out; omega, by go_num, Lib.hid ⟨_, BQ.out, HO.out⟩, B0, HE⟩
          case measure => have := HLT.out; simp [intOf]; omega
        · have hkn : k = nw := by omega
          subst k
          have hbq := BQ.out; have hou := HO.out
          clear BQ HO
          rw [show wn.take nw = wn from List.take_of_length_le (by have := HN.out; omega)] at hou
          have hrd := hou.reads (by rw [natI_len, List.length_map]; have := HV.out.want.len; have := HV.out.n64; omega)
          obtain ⟨_, aw2, cw2, rfl⟩ := hrd.shape
          rw [natI_len, List.length_map, ← HN.out] at hbq hou hrd
          obtain ⟨wM, hwM⟩ : ∃ X, X = wr := ⟨_, rfl⟩
          rw [← hwM] at hbq hou hrd B0 HE ⊢
          have HRM := Lib.hid hrd; have HGB := Lib.hid (own_from hou); have HGM := Lib.hid (show g < wM.heap.size from lt_of_blk hbq)
          have BQ := Lib.hid hbq
          clear hwM hbq hou hrd hlt hk
          obtain ⟨z0, z1, z2, z3⟩ := cells4 B0.out
          go_wp2
          clear z0 z1 z2 z3
          have BQ : Hid (∃ ws, wM.heap[g]? = some (.cells #[.int .i64 (W2 : Int), .int .i64 (H2 : Int), .slice aw2 nw cw2, ws] 24 (0, 0)) ∧ OwnI 3 (wM.heap.size) wM ws (natI ((kn.take 0).map (widF W W2)))) := Lib.hid ⟨_, BQ.out, OwnI.nil _ _ _⟩
          have HS := Lib.hid (show wM.heap.size ≤ wM.heap.size ∧ ∀ z, z < wM.heap.size → z ≠ g → wM.heap[z]? = wM.heap[z]? from ⟨Nat.le_refl _, fun _ _ _ => rfl⟩)
          go_loopw [9] (fun i wr => ∃ k : Nat, k ≤ nk ∧ i = .int .i64 (k : Int) ∧ Hid (∃ ws, wr.heap[g]? = some (.cells #[.int .i64 (W2 : Int), .int .i64 (H2 : Int), .slice aw2 nw cw2, ws] 24 (0, 0)) ∧ OwnI 3 (wM.heap.size) wr ws (natI ((kn.take k).map (widF W W2)))) ∧ Hid (wr.heap[w.heap.size]? = some (.cells #[.int .i64 (W : Int), .int .i64 (H : Int), .slice aw nw cw, .slice ak nk ck] 24 (0, 0))) ∧ Hid (Ext w wr) ∧ Hid (wM.heap.size ≤ wr.heap.size ∧ ∀ z, z < wM.heap.size → z ≠ g → wr.heap[z]? = wM.heap[z]?)) (fun i wr => nk - (intOf i).toNat)
          case atStart => exact ⟨0, Nat.zero_le _, rfl, BQ, B0, HE, HS⟩
          case round =>
            clear BQ B0 HE HS
            obtain ⟨k, hk, rfl, HBQ, B0, HE, HS⟩ := hrel
            obtain ⟨u, hbq, hou⟩ := HBQ.out
            have BQ := Lib.hid hbq; have HO := Lib.hid hou
            clear HBQ hbq hou
            by_cases hlt : k < nk
            · obtain ⟨wb, off, x, e1, hx, hcx⟩ := (HRK.out.ext HE.out).at (k := k) (by rw [natI_len]; have := HNK.out; omega)
              obtain ⟨c, hc, rfl⟩ := natI_get hx
              obtain ⟨q, hq⟩ : ∃ q, q = c / W := ⟨_, rfl⟩
              obtain ⟨r, hr⟩ : ∃ r, r = c % W := ⟨_, rfl⟩
              have hcl : c < W * H := HV.out.keep.lt c (List.mem_of_getElem? hc)
              have hW1 : 1 ≤ W ∧ W ≤ 8 ∧ W2 ≤ 8 := ⟨HV.out.w1, HV.out.w8, HW8.out⟩
              have hn64 := HV.out.n64
              have hr8 : r < W := by rw [hr]; exact Nat.mod_lt _ (by omega)
              have hq64 : q ≤ 64 := by rw [hq]; exact Nat.le_trans (Nat.div_le_self c W) (by omega)
              obtain ⟨m, hm⟩ : ∃ m, m = q * W2 := ⟨_, rfl⟩
              have hm1 : m ≤ 64 * 8 := by rw [hm]; exact Nat.mul_le_mul hq64 hW1.2.2
              have hwf : widF W W2 c = m + r := by unfold widF; rw [hm, hq, hr]
              have hd1 : (c : Int).tdiv (W : Int) = (q : Int) := by rw [hq]; exact (Int.ofNat_tdiv c W).symm
              have hd2 : (c : Int) / (W : Int) = (q : Int) := by rw [hq]; simp
              have hd3 : (c : Int).tmod (W : Int) = (r : Int) := by rw [hr]; exact (Int.ofNat_tmod c W).symm
              have hd4 : (c : Int) % (W : Int) = (r : Int) := by rw [hr]; simp
              have hd0 : ¬ (W : Int) = 0 := by omega
              have hmi : (q : Int) * (W2 : Int) = (m : Int) := by rw [hm]; simp
              have hw1 : IntKind.i64.wrap ((q : Int) * (W2 : Int)) = (m : Int) := by rw [hmi]; exact wrapi64 _ (by omega) (by omega)
              have hw2 : IntKind.i64.wrap ((m : Int) + (r : Int)) = ((m + r : Nat) : Int) := by rw [show (m : Int) + (r : Int) = ((m + r : Nat) : Int) from by omega]; exact wrapi64 _ (by omega) (by omega)
              have hw3 : IntKind.i64.wrap (q : Int) = (q : Int) := wrapi64 _ (by omega) (by omega)
              have HSN := Lib.hid (show natI ((kn.take (k + 1)).map (widF W W2)) = natI ((kn.take k).map (widF W W2)) ++ [((m + r : Nat) : Int)] from by
                rw [take_snoc hc, List.map_append, List.map_cons, List.map_nil, hwf]; unfold natI; simp)
              have HLE := Lib.hid (show (natI ((kn.take k).map (widF W W2))).length ≤ 20000 from by
                rw [natI_len, List.length_map, List.length_take]; have := HV.out.keep.len; have := HV.out.n64; omega)
              have HLT := Lib.hid hlt
              have hka : (0 : Int) ≤ (k : Int) := by omega
              have hkb : (k : Int) < (nk : Int) := by omega
              have hkt : (k : Int).toNat = k := by omega
              obtain ⟨mr, hmr⟩ : ∃ mr, mr = m + r := ⟨_, rfl⟩
              rw [← hmr] at hw2 HSN
              subst e1
              clear hx hc hq hr hm hwf hcl hn64 hr8 hq64 hm1 hmi hmr hW1
              obtain ⟨z0, z1, z2, z3⟩ := cells4 B0.out
              go_upto_region 11 with fail
              clear z0 z1 z2 z3
              refine wp_orderL (fun V : World => V.heap[w.heap.size]? = some (.cells #[.int .i64 (W : Int), .int .i64 (H : Int), .slice aw nw cw, .slice (some ⟨wb, off, none⟩) nk ck] 24 (0, 0)) ∧ V.heap[g]? = some (.cells #[.int .i64 (W2 : Int), .int .i64 (H2 : Int), .slice aw2 nw cw2, u] 24 (0, 0)) ∧ V.cell? ⟨wb, off + k, none⟩ = some (.int .i64 (c : Int))) [0, 1, 2, 3, 4, 5, 6, 7, 8, 9, 10, 11, 12, 13, 14, 15, 16, 17, 18, 19, 20, 21, 22, 23, 24, 25] 25 (by kernel_rfl) (by kernel_rfl) (by kernel_rfl) (by exact ⟨B0.out, BQ.out, hcx⟩) (fun hHeld => ?_)
              simp only [opsIn, List.filterMap_cons, List.filterMap_nil, List.getElem?_toArray, List.getElem?_cons_succ, List.getElem?_cons_zero]
              obtain ⟨Y0, hY0⟩ : ∃ Y, Y = wr.drew := ⟨_, rfl⟩
              have hE0 : Ext wr Y0 := by rw [hY0]; exact (Ext.refl _).drew
              rw [← hY0] at hHeld ⊢
              clear hY0
              refine' textL_chunk 22 (by kernel_rfl) hHeld ?ck1 ?cr1
              case ck1 =>
                intro W hSw
                have hSW := hSw
                try dsimp only at hSW
                clear hSw
                obtain ⟨s1, s2, s3⟩ := hSW
                obtain ⟨z0, z1, z2, z3⟩ := cells4 s1
                obtain ⟨y0, y1, y2, y3⟩ := cells4 s2
                clear s1 s2
                simp only [List.take_succ_cons, List.take_zero, List.drop_succ_cons, List.drop_zero]
                repeat (go_big_quiet_step (fail))
                exact wpQuiet_nil rfl
              simp only [List.take_succ_cons, List.take_zero, List.drop_succ_cons, List.drop_zero]
              clear hd1 hd2 hd3 hd4 hd0 hw1 hw2 hw3
              refine textL_callW (by rfl) (by rfl) (fun K hK => ?_)
              go_simp
              refine hK.out _ _ (by exact ⟨block_ext ((Ext.refl _).alloc _) hHeld.1, block_ext ((Ext.refl _).alloc _) hHeld.2.1, cell_ext ((Ext.refl _).alloc _) hHeld.2.2⟩) (fun hHeld => ?_)
              clear hK K
              try simp only [Act.put, List.setIfInBounds_toArray, List.set_cons_zero, List.set_cons_succ]
              obtain ⟨V1, hV1⟩ : ∃ V1, V1 = Y0.alloc (.cells #[.int .i64 (mr : Int)] 3) := ⟨_, rfl⟩
              rw [← hV1] at hHeld ⊢
              have hE1 : Ext wr V1 := by rw [hV1]; exact hE0.alloc _
              have hcv : V1.cell? ⟨Y0.heap.size, 0, none⟩ = some (.int .i64 (mr : Int)) := cell_of_blk (by rw [hV1]; exact heap_alloc_new _ _) rfl
              obtain ⟨v9, V9, hrun, ho9, hg9⟩ := appendI_run (HO.out.ext hE1) (by have := lt_of_blk hHeld.2.1; have := HS.out.1; have := hE1.size; omega) HLE.out (mr : Int) _ hcv 22
              obtain ⟨a9, n9, c9, rfl⟩ : ∃ a n c, v9 = .slice a n c := by
                obtain ⟨a, c, e, -⟩ := ho9.shape
                exact ⟨a, _, c, e⟩
              have HGG := own_from (HO.out.ext hE1)
              have HRUN := Lib.hid hrun
              have HO9 := Lib.hid (show OwnI 3 (wM.heap.size) V9 (.slice a9 n9 c9) (natI ((kn.take (k + 1)).map (widF W W2))) from by rw [HSN.out]; exact ho9)
              have HE9 := Lib.hid (show Ext w V9 from grown_any (HE.out.trans hE1) hg9 (fun b e => by have := HGG b e; have := HGZ.out; have := HGM.out; omega))
              have HP9 := Lib.hid ((hg9.block w.heap.size (lt_of_blk hHeld.1) (fun e => by have := HGG _ e.symm; have := HGZ.out; have := HGM.out; omega)).trans hHeld.1)
              have HQ9 := Lib.hid ((hg9.block g (lt_of_blk hHeld.2.1) (fun e => by have := HGG _ e.symm; have := HGM.out; omega)).trans hHeld.2.1)
              have HC9 := Lib.hid (show V9.cell? ⟨wb, off + k, none⟩ = some (.int .i64 (c : Int)) from by
                have h1 := (HRK.out.ext HE9.out).get (k := k) (by rw [natI_len]; have := HNK.out; omega)
                have h2 := (HRK.out.ext HE.out).get (k := k) (by rw [natI_len]; have := HNK.out; omega)
                rw [h1, ← h2, hcx])
              have HS9 := Lib.hid (show wM.heap.size ≤ V9.heap.size ∧ ∀ z, z < wM.heap.size → z ≠ g → V9.heap[z]? = wM.heap[z]? from ⟨by have := hg9.size; have := hE1.size; have := HS.out.1; omega, fun z h1 h2 => (hg9.block z (by have := hE1.size; have := HS.out.1; omega) (fun e => by have := HGG _ e.symm; omega)).trans ((hE1.block z (by have := HS.out.1; omega)).trans (HS.out.2 z h1 h2))⟩)
              clear hrun ho9 hg9 hcv hV1 HGG HO hcx
              refine textL_call_moreW (by rfl) (by rfl) (fun K hK => ?_)
              refine wp_append_run _ _ 22 rfl rfl rfl HRUN.out ?_
              refine hK.out (fun Y => Y = V9) _ _ (fun Y hY => by rw [hY]; exact ⟨HP9.out, HQ9.out, HC9.out⟩) rfl (fun hHeld => ?_)
              clear hK K
              try simp only [Act.put, List.setIfInBounds_toArray, List.set_cons_zero, List.set_cons_succ]
              refine' textL_chunk 1 (by kernel_rfl) hHeld ?ck2 ?cr2
              case ck2 =>
                intro W hSw
                have hSW := hSw
                try dsimp only at hSW
                clear hSw
                obtain rfl := hSW
                simp only [List.take_succ_cons, List.take_zero, List.drop_succ_cons, List.drop_zero]
                repeat (go_big_quiet_step (fail))
                exact wpQuiet_nil rfl
              simp only [List.take_succ_cons, List.take_zero, List.drop_succ_cons, List.drop_zero]
              refine textL_lastW (by rfl) (by rfl) (fun K hK => ?_)
              have y2 := cell_of_blk (o := 3) HQ9.out rfl
              have f2 := frozen_of_blk HQ9.out 3
              go_simp
              refine hK.out _ _ ?_
              clear hK K hHeld
              obtain ⟨X9, hX9⟩ : ∃ X, X = V9.setCell ⟨g, 3, none⟩ (.slice a9 n9 c9) := ⟨_, rfl⟩
              have hgx : V9.grownBy X9 (some g) := by rw [hX9]; exact grown_set _ _ _ _
              have BQ := Lib.hid (show X9.heap[g]? = some (.cells #[.int .i64 (W2 : Int), .int .i64 (H2 : Int), .slice aw2 nw cw2, .slice a9 n9 c9] 24 (0, 0)) from by
                rw [hX9]
                have h0 : V9.heap[g]? = some (.cells ([.int .i64 (W2 : Int), .int .i64 (H2 : Int), .slice aw2 nw cw2, u] : List Value).toArray 24 (0, 0)) := HQ9.out
                have := set_blk (o := 3) h0 (.slice a9 n9 c9)
                simpa using this)
              have B0 := Lib.hid (show X9.heap[w.heap.size]? = some (.cells #[.int .i64 (W : Int), .int .i64 (H : Int), .slice aw nw cw, .slice (some ⟨wb, off, none⟩) nk ck] 24 (0, 0)) from (other_blk hgx (by have := HGZ.out; omega) (lt_of_blk HP9.out)).trans HP9.out)
              have HO := Lib.hid (HO9.out.grown hgx (by have := HGM.out; omega))
              have HE := Lib.hid (show Ext w X9 from by rw [hX9]; exact HE9.out.set (by have := HGZ.out; omega) _ _)
              have HS := Lib.hid (show wM.heap.size ≤ X9.heap.size ∧ ∀ z, z < wM.heap.size → z ≠ g → X9.heap[z]? = wM.heap[z]? from ⟨by have := hgx.size; have := HS9.out.1; omega, fun z h1 h2 => (hgx.block z (by have := HS9.out.1; omega) (fun e => h2 (by cases e; rfl))).trans (HS9.out.2 z h1 h2)⟩)
              rw [← hX9]
              clear y2 f2 hgx hX9
              have hlt := HLT.out
              have hk64 : k < 64 := by have := HNK.out; have := HV.out.keep.len; have := HV.out.n64; omega
              go_wp2
              go_roundw
              case rel => exact ⟨k + 1, by have := HLT.out; omega, by go_num, Lib.hid ⟨_, BQ.out, HO.out⟩, B0, HE, HS⟩
              case measure => have := HLT.out; simp [intOf]; omega
            · have hkn : k = nk := by omega
              subst k
              have hbq := BQ.out; have hou := HO.out
              clear BQ HO
              rw [show kn.take nk = kn from List.take_of_length_le (by have := HNK.out; omega)] at hou
              have hrd2 := hou.reads (by rw [natI_len, List.length_map]; have := HV.out.keep.len; have := HV.out.n64; omega)
              obtain ⟨_, ak2, ck2, rfl⟩ := hrd2.shape
              rw [natI_len, List.length_map, ← HNK.out] at hbq hrd2
              have BQ := Lib.hid hbq
              have hrw2 : Reads wr (.slice aw2 nw cw2) (natI (wn.map (widF W W2))) := reads_same HRM.out g (fun b o n c e => by
                have := HGB.out b (by rw [e]; rfl)
                omega) HS.out.2
              have hv2 := widVP HV.out HW2.out HH2.out HW8.out HH8.out
              obtain ⟨e1, e2⟩ := wider HV.out HW2.out HH2.out hv2
              have hrw1 := HRW.out.ext HE.out; have hrk1 := HRK.out.ext HE.out
              have HF1 := Lib.hid (fun (X : World) (h : Ext wr X) => fewest_ok W H nw cw nk ck aw ak wn kn HV.out X (hrw1.ext h) (hrk1.ext h))
              have HF2 := Lib.hid (fun (X : World) (h : Ext wr X) => fewest_ok W2 H2 nw cw2 nk ck2 aw2 ak2 _ _ hv2 X (hrw2.ext h) (hrd2.ext h))
              generalize stk (gp HV.out) (smallB (gp HV.out) 64 wn (memL kn)) = a at *
              generalize stk (gp hv2) (smallB (gp hv2) 64 (wn.map (widF W W2)) (memL (kn.map (widF W W2)))) = b at *
              rw [← HN.out] at e2
              have hle : (b : Int) ≤ (a : Int) := by omega
              clear hbq hou hrd2 hrw2 hv2 hrw1 hrk1 e1 hlt hk HRM HGB HGM HS
              have HR := Lib.hid (Ext.refl wr)
              obtain ⟨z0, z1, z2, z3⟩ := cells4 B0.out
              go_wp2_with fail
              refine (HF1.out _ HR.out).mono ?_
              rintro e wa ⟨rfl, h2⟩
              have HE := Lib.hid (HE.out.trans h2); have B0 := Lib.hid (block_ext h2 B0.out); have BQ := Lib.hid (block_ext h2 BQ.out); have HR := Lib.hid (HR.out.trans h2)
              clear h2 z0 z1 z2 z3
              obtain ⟨y0, y1, y2, y3⟩ := cells4 BQ.out
              go_wp2_with fail
              refine (HF2.out _ HR.out).mono ?_
              rintro e wb ⟨rfl, h2⟩
              have HE := Lib.hid (HE.out.trans h2); have B0 := Lib.hid (block_ext h2 B0.out)
              clear h2 y0 y1 y2 y3
              obtain ⟨z0, z1, z2, z3⟩ := cells4 B0.out
              by_cases h0 : 0 < nw
              · have h1 := e2.2 h0
                have f1 : (0 : Int) < (b : Int) := by omega
                have f2 : (0 : Int) < (nw : Int) := by omega
                clear e2
                go_wp2_with fail
                refine (works_c _).mono ?_
                rintro e wz ⟨rfl, hz⟩
                go_wp2
                go_ret
                exact ⟨rfl, HE.out.trans hz⟩
              · have h1 : ¬ 0 < b := fun h => h0 (e2.1 h)
                have f1 : ¬ (0 : Int) < (b : Int) := by omega
                have f2 : ¬ (0 : Int) < (nw : Int) := by omega
                clear e2
                go_wp2_with fail
                refine (works_c _).mono ?_
                rintro e wz ⟨rfl, hz⟩
                go_wp2
                go_ret
                exact ⟨rfl, HE.out.trans hz⟩
end Go.Proofs.Ytppjnpempgpkaaa
