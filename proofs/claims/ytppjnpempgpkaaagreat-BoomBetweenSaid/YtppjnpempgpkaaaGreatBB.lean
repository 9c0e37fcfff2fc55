/- BoomBetween, by its contract. -/
import Derived.Test.YtppjnpempgpkaaaGreatS6
import Derived.Test.YtppjnpempgpkaaaGreatFI
import Derived.Test.YtppjnpempgpkaaaGreatBW
import Derived.Test.YtppjnpempgpkaaaGreatWQ
import Derived.Test.YtppjnpempgpkaaaGreatK1
import Derived.Test.YtppjnpempgpkaaaGreatH7
import Derived.Test.YtppjnpempgpkaaaGreatH6
import Derived.Test.YtppjnpempgpkaaaGreatN3
namespace Go.Proofs.YtppjnpempgpkaaaGreat
open Go.RowKit Go.Shelf
set_option linter.unusedVariables false
set_option linter.unusedSimpArgs false
attribute [local go_sem] Oper.semAt_some
set_option maxRecDepth 100000 in
set_option maxHeartbeats 4000000 in
theorem between_law (W H : Int) (aw ak : Option Addr) (cw ck : Nat) (wl kl : List Int) (bits cell : Nat) (hbits : bits < 18446744073709551616) (hcell : cell ≤ 255) (w : World) (hw : wl.length ≤ 5000 → Reads w (.slice aw wl.length cw) wl) (hk : kl.length ≤ 5000 → Reads w (.slice ak kl.length ck) kl) :
    Calls Tryz.prog 5 #[.agg #[.int .i64 W, .int .i64 H, .slice aw wl.length cw, .slice ak kl.length ck], .int .u64 (bits : Int), .int .u8 (cell : Int)] w fun e w' => e = .returned (.bool true) ∧ Ext w w' := by
  have HBT := Lib.hid hbits
  clear hbits
  obtain ⟨b, hb⟩ : ∃ b, b = fineB W H wl kl := ⟨_, rfl⟩
  have HF := Lib.hid (fun (X : World) (h : Ext w X) => fine_c W H aw ak cw ck wl kl X (fun h5 => (hw h5).ext h) (fun h5 => (hk h5).ext h))
  rw [← hb] at HF
  obtain ⟨nw, hnw⟩ : ∃ n, n = wl.length := ⟨_, rfl⟩
  obtain ⟨nk, hnk⟩ : ∃ n, n = kl.length := ⟨_, rfl⟩
  rw [← hnw] at HF hw ⊢
  rw [← hnk] at HF hk ⊢
  obtain ⟨w1, hw1⟩ : ∃ w1, w1 = w.alloc (.cells #[.int .i64 W, .int .i64 H, .slice aw nw cw, .slice ak nk ck] 24) := ⟨_, rfl⟩
  have HE := Lib.hid (show Ext w w1 from by rw [hw1]; exact (Ext.refl w).alloc _)
  have B0 := Lib.hid (show w1.heap[w.heap.size]? = some (.cells #[.int .i64 W, .int .i64 H, .slice aw nw cw, .slice ak nk ck] 24 (0, 0)) from by rw [hw1]; exact heap_alloc_new w _)
  have HB := Lib.hid hb; have HNW := Lib.hid hnw; have HNK := Lib.hid hnk; have HHW := Lib.hid hw; have HHK := Lib.hid hk
  clear hb hnw hnk hw hk
  obtain ⟨z0, z1, z2, z3⟩ := cells4 B0.out
  go_enter Tryz.func5, Tryz.ntmps5
  go_upto_region 1 with fail
  rw [← hw1]
  clear hw1
  go_wp2_with fail
  refine (HF.out _ HE.out).mono ?_
  rintro e w2 ⟨rfl, h2⟩
  have HE := Lib.hid (HE.out.trans h2); have B0 := Lib.hid (block_ext h2 B0.out)
  clear h2 z0 z1 z2 z3
  cases b
  · skip
    go_wp2_with fail
    refine (works_c _).mono ?_
    rintro e wz ⟨rfl, hz⟩
    go_wp2
    go_ret
    exact ⟨rfl, HE.out.trans hz⟩
  · skip
    have hfb := HB.out.symm
    unfold fineB at hfb
    rw [Bool.and_eq_true, Bool.not_eq_true', Bool.or_eq_false_iff, decide_eq_false_iff_not, decide_eq_false_iff_not, decide_eq_true_iff] at hfb
    obtain ⟨⟨h7w, h7k⟩, h0⟩ := hfb
    obtain ⟨W, H, wn, kn, ⟨rfl, rfl⟩, ⟨rfl, rfl⟩, hv⟩ := chkP_ok.1 h0
    clear h0
    have hnw := HNW.out; have hnk := HNK.out
    have hw := HHW.out (by omega); have hk := HHK.out (by omega)
    clear HF HB HNW HNK HHW HHK hnw hnk h7w h7k
    have HV := Lib.hid hv; have HWR := Lib.hid hw; have HKR := Lib.hid hk
    have HCE := Lib.hid (fun (X : World) => rcells_c W H nw cw nk ck aw ak hv.w8 hv.h8 X)
    have H1 := Lib.hid (fun (X : World) (h : Ext w X) => best_c W H nw cw nk ck aw ak wn kn HV.out X (HWR.out.ext h) (HKR.out.ext h))
    have H2 := Lib.hid (fun (X : World) (h : Ext w X) => water_r W H nw cw nk ck aw ak wn kn HV.out bits HBT.out X (HWR.out.ext h) (HKR.out.ext h))
    have H3 := Lib.hid (fun (X : World) (v : Value) (h : Ext w X) => sticks_w W H nw cw nk ck aw ak wn kn HV.out bits v X (HWR.out.ext h) (HKR.out.ext h))
    have hbl : Lst (W * H) (btK bits (smL hv) (lgL hv) (lgL hv).length) := btK_lst (lg_lst hv)
    have hbe := btK_enc hv bits
    have H4 := Lib.hid (fun (X : World) (v : Value) (h : Ext w X) (hx : Reads X v (natI (btK bits (smL hv) (lgL hv) (lgL hv).length))) => sticks_ok W H nw cw nk ck aw ak wn kn HV.out v X (HWR.out.ext h) (HKR.out.ext h) _ hbl hx)
    rw [if_pos hbe, if_pos hbe] at H4
    obtain ⟨f1, f2⟩ := between_of hv (wat_lst W H wn kn bits) (wat_enc hv bits)
    obtain ⟨f3, f4⟩ := between_of hv hbl hbe
    have HAN0 := Lib.hid f1; have HBW0 := Lib.hid f2; have HAN1 := Lib.hid f3; have HBW1 := Lib.hid f4
    have HSL := Lib.hid (all_has (sm_in_lg hv))
    obtain ⟨cc, hcc⟩ : ∃ c, c = cell % (W * H) := ⟨_, rfl⟩
    have hccl : cc < W * H := by rw [hcc]; exact Nat.mod_lt _ (Nat.mul_pos hv.w1 hv.h1)
    have H5 := Lib.hid (fun (X : World) (h : Ext w X) => kind_ok W H nw cw nk ck aw ak wn kn HV.out cc hccl X (HWR.out.ext h) (HKR.out.ext h))
    have hk1 : smallB (gp hv) 64 wn (memL kn) cc = decide (cc ∈ smL hv) := (memL_filter (f := smallB (gp hv) 64 wn (memL kn)) hccl).symm
    have hk2 : largeB (gp hv) 64 wn (memL kn) cc = decide (cc ∈ lgL hv) := (memL_filter (f := largeB (gp hv) 64 wn (memL kn)) hccl).symm
    rw [hk1, hk2] at H5
    have HSUB := Lib.hid (sm_in_lg hv)
    have HNL64 := Lib.hid (show (lgL hv).length ≤ 64 from by have := (lg_lst hv).len; have := hv.n64; omega)
    generalize stk (gp hv) (memL (btK bits (smL hv) (lgL hv) (lgL hv).length)) = A1 at *
    generalize stk (gp hv) (memL (watN W H wn kn bits (W * H))) = A0 at *
    generalize watN W H wn kn bits (W * H) = x0 at *
    generalize fewN hv = N at *
    generalize smL hv = s0 at *
    generalize lgL hv = l0 at *
    obtain ⟨nl, hnl⟩ : ∃ n, n = l0.length := ⟨_, rfl⟩
    have HNL := Lib.hid hnl
    rw [← hnl] at HNL64 H4 HBW1
    obtain ⟨mm, hmm⟩ : ∃ m, m = W * H := ⟨_, rfl⟩
    rw [← hmm] at HCE hcc hccl
    have HMC := Lib.hid (And.intro hcc (And.intro hccl (show mm ≤ 64 from by rw [hmm]; exact hv.n64)))
    clear hv hw hk hbl hbe f1 f2 f3 f4 hk1 hk2 hnl hmm hcc hccl
    obtain ⟨z0, z1, z2, z3⟩ := cells4 B0.out
    go_wp2_with fail
    refine (H1.out _ HE.out).mono ?_
    rintro e w3 ⟨sa, sn, sc, la, ln, lc, rfl, hr1, hr2, h2⟩
    have HE := Lib.hid (HE.out.trans h2); have B0 := Lib.hid (block_ext h2 B0.out)
    have RS := Lib.hid hr1; have RL := Lib.hid hr2
    clear hr1 hr2
    clear h2 z0 z1 z2 z3
    have hln := RL.out.len
    rw [natI_len, ← HNL.out] at hln
    subst ln
    have HW1 := Lib.hid (inAll_c _ _ (natI s0) (natI l0) _ RS.out RL.out)
    rw [HSL.out] at HW1
    go_wp2_with fail
    refine (HW1.out).mono ?_
    rintro e w4 ⟨rfl, h2⟩
    have HE := Lib.hid (HE.out.trans h2); have B0 := Lib.hid (block_ext h2 B0.out)
    have RS := Lib.hid (RS.out.ext h2)
    have RL := Lib.hid (RL.out.ext h2)
    clear h2 HW1 HSL
    obtain ⟨z0, z1, z2, z3⟩ := cells4 B0.out
    go_wp2_with fail
    refine (H2.out _ HE.out).mono ?_
    rintro e w5 ⟨xa, xn, xc, rfl, hr1, h2⟩
    have HE := Lib.hid (HE.out.trans h2); have B0 := Lib.hid (block_ext h2 B0.out)
    have RS := Lib.hid (RS.out.ext h2)
    have RL := Lib.hid (RL.out.ext h2)
    have RX := Lib.hid hr1
    clear hr1
    clear h2 z0 z1 z2 z3
    go_upto_region 7 with fail
    obtain ⟨w6, hw6⟩ : ∃ Y, Y = w5.alloc (.cells #[.slice xa xn xc, .slice none 0 0] 22) := ⟨_, rfl⟩
    rw [← hw6]
    have HE5 := Lib.hid (show Ext w5 w6 from by rw [hw6]; exact (Ext.refl _).alloc _)
    have hb6 : w6.heap[w5.heap.size]? = some (.cells #[.slice xa xn xc, .slice none 0 0] 22 (0, 0)) := by rw [hw6]; exact heap_alloc_new _ _
    obtain ⟨g, hg⟩ : ∃ g, g = w5.heap.size := ⟨_, rfl⟩
    rw [← hg] at hb6 ⊢
    have HGZ := Lib.hid (show w5.heap.size ≤ g from by omega)
    have BQ : Hid (∃ u, w6.heap[g]? = some (.cells #[.slice xa xn xc, u] 22 (0, 0)) ∧ OwnI 3 (g + 1) w6 u (natI (btK bits s0 l0 0))) := Lib.hid ⟨_, hb6, OwnI.nil _ _ _⟩
    clear hw6 hb6 hg
    go_wp2
    go_loopw [12] (fun i wr => ∃ k : Nat, k ≤ nl ∧ i = .int .i64 (k : Int) ∧ Hid (∃ u, wr.heap[g]? = some (.cells #[.slice xa xn xc, u] 22 (0, 0)) ∧ OwnI 3 (g + 1) wr u (natI (btK bits s0 l0 k))) ∧ Hid (Ext w5 wr)) (fun i wr => nl - (intOf i).toNat)
    case atStart => exact ⟨0, Nat.zero_le _, rfl, BQ, HE5⟩
    case round =>
      clear BQ HE5
      obtain ⟨k, hk, rfl, HBQ, HE5⟩ := hrel
      obtain ⟨u, hbq, hou⟩ := HBQ.out
      have BQ := Lib.hid hbq; have HO := Lib.hid hou
      clear HBQ hbq hou
      by_cases hlt : k < nl
      · have HLT := Lib.hid hlt
        obtain ⟨wb, off, x, e1, hx, hcx⟩ := (RL.out.ext HE5.out).at (k := k) (by rw [natI_len]; have := HNL.out; omega)
        unfold natI at hx
        rw [List.getElem?_map] at hx
        obtain ⟨c, hc⟩ : ∃ c, l0[k]? = some c := get_some (by have := HNL.out; omega)
        rw [hc] at hx
        obtain rfl : ((c : Nat) : Int) = x := Option.some.inj hx
        subst e1
        have hgd : l0.getD k 0 = c := by rw [List.getD_eq_getElem?_getD, hc]; rfl
        have HQ := Lib.hid (has_c _ (natI s0) (c : Int) wr (RS.out.ext HE5.out))
        rw [hasB_nat] at HQ
        have hst := btK_succ bits s0 l0 k
        rw [hgd, show memL s0 c = decide (c ∈ s0) from rfl] at hst
        generalize decide (c ∈ s0) = q1 at *
        have hka : (0 : Int) ≤ (k : Int) := by omega
        have hkb : (k : Int) < (nl : Int) := by omega
        have hkt : (k : Int).toNat = k := by omega
        have hk64 : k < 64 := by have := HNL64.out; omega
        have hm1 : (k : Int).tmod 64 = (k : Int) := by rw [show ((k : Int).tmod 64) = ((k % 64 : Nat) : Int) from (Int.ofNat_tmod k 64).symm, Nat.mod_eq_of_lt hk64]
        have hm2 : (k : Int) % 64 = (k : Int) := by omega
        obtain ⟨s, hs⟩ : ∃ s, s = bits / 2 ^ k := ⟨_, rfl⟩
        have hsi : (bits : Int) / 2 ^ k = (s : Int) := by rw [hs]; simp
        have hs64 : s < 18446744073709551616 := by rw [hs]; exact Nat.lt_of_le_of_lt (Nat.div_le_self _ _) HBT.out
        have hand := and1_u64 s hs64
        have hbt : bits.testBit k = decide (s % 2 = 1) := by rw [Nat.testBit_eq_decide_div_mod_eq, hs]
        rw [hbt] at hst
        have hr2 : s % 2 < 2 := Nat.mod_lt _ (by decide)
        generalize s % 2 = r at *
        have HLE := Lib.hid (show (natI (btK bits s0 l0 k)).length ≤ 20000 from by rw [natI_len]; have := btK_len bits s0 l0 k; omega)
        have HST := Lib.hid hst
        clear hs hbt hs64 hst hx hc hgd
        have hr3 : r = 0 ∨ r = 1 := by omega
        rcases hr3 with rfl | rfl
        · skip
          go_wp2_with fail
          refine Calls.mono HQ.out ?_
          intro e Y h1; obtain ⟨h1, hY⟩ := h1; subst h1; subst hY
          cases q1
          · skip
            have HSN := Lib.hid (show natI (btK bits s0 l0 (k + 1)) = natI (btK bits s0 l0 k) from by rw [HST.out]; simp)
            have hlt := HLT.out
            have hk64 : k < 64 := by have := HNL64.out; omega
            go_wp2
            go_roundw
            case rel => exact ⟨k + 1, by have := HLT.out; omega, by go_num, Lib.hid ⟨_, BQ.out, by rw [HSN.out]; exact HO.out⟩, HE5⟩
            case measure => have := HLT.out; simp [intOf]; omega
          · go_upto_region 11 with fail
            clear hm1 hm2 hsi hand
            have HSN := Lib.hid (show natI (btK bits s0 l0 (k + 1)) = natI (btK bits s0 l0 k) ++ [(c : Int)] from by rw [HST.out]; unfold natI; simp)
            clear HST
            refine wp_orderL (fun V : World => V.heap[g]? = some (.cells #[.slice xa xn xc, u] 22 (0, 0)) ∧ V.cell? ⟨wb, off + k, none⟩ = some (.int .i64 (c : Int))) [0, 1, 2, 3, 4, 5, 6, 7, 8, 9, 10, 11] 11 (by kernel_rfl) (by kernel_rfl) (by kernel_rfl) (by exact ⟨BQ.out, hcx⟩) (fun hHeld => ?_)
            simp only [opsIn, List.filterMap_cons, List.filterMap_nil, List.getElem?_toArray, List.getElem?_cons_succ, List.getElem?_cons_zero]
            obtain ⟨Y0, hY0⟩ : ∃ Y, Y = wr.drew := ⟨_, rfl⟩
            have hE0 : Ext wr Y0 := by rw [hY0]; exact (Ext.refl _).drew
            rw [← hY0] at hHeld ⊢
            clear hY0
            refine' textL_chunk 8 (by kernel_rfl) hHeld ?ck1 ?cr1
            case ck1 =>
              intro W hSw
              have hSW := hSw
              try dsimp only at hSW
              clear hSw
              obtain ⟨s2, s3⟩ := hSW
              obtain ⟨y0, y1⟩ := cells2 s2
              clear s2
              simp only [List.take_succ_cons, List.take_zero, List.drop_succ_cons, List.drop_zero]
              repeat (go_big_quiet_step (fail))
              exact wpQuiet_nil rfl
            simp only [List.take_succ_cons, List.take_zero, List.drop_succ_cons, List.drop_zero]
            refine textL_callW (by rfl) (by rfl) (fun K hK => ?_)
            go_simp
            refine hK.out _ _ (by exact ⟨block_ext ((Ext.refl _).alloc _) hHeld.1, cell_ext ((Ext.refl _).alloc _) hHeld.2⟩) (fun hHeld => ?_)
            clear hK K
            try simp only [Act.put, List.setIfInBounds_toArray, List.set_cons_zero, List.set_cons_succ]
            obtain ⟨V1, hV1⟩ : ∃ V1, V1 = Y0.alloc (.cells #[.int .i64 (c : Int)] 3) := ⟨_, rfl⟩
            rw [← hV1] at hHeld ⊢
            have hE1 : Ext wr V1 := by rw [hV1]; exact hE0.alloc _
            have hcv : V1.cell? ⟨Y0.heap.size, 0, none⟩ = some (.int .i64 (c : Int)) := cell_of_blk (by rw [hV1]; exact heap_alloc_new _ _) rfl
            obtain ⟨v9, V9, hrun, ho9, hg9⟩ := appendI_run (HO.out.ext hE1) (by have := lt_of_blk hHeld.1; omega) HLE.out (c : Int) _ hcv 22
            obtain ⟨a9, n9, c9, rfl⟩ : ∃ a n c, v9 = .slice a n c := by
              obtain ⟨a, c, e, -⟩ := ho9.shape
              exact ⟨a, _, c, e⟩
            have HGG := own_from (HO.out.ext hE1)
            have HRUN := Lib.hid hrun
            have HO9 := Lib.hid (show OwnI 3 (g + 1) V9 (.slice a9 n9 c9) (natI (btK bits s0 l0 (k + 1))) from by rw [HSN.out]; exact ho9)
            have HE9 := Lib.hid (show Ext w5 V9 from grown_any (HE5.out.trans hE1) hg9 (fun b e => by have := HGG b e; have := HGZ.out; omega))
            have HQ9 := Lib.hid ((hg9.block g (lt_of_blk hHeld.1) (fun e => by have := HGG _ e.symm; omega)).trans hHeld.1)
            have HC9 := Lib.hid (show V9.cell? ⟨wb, off + k, none⟩ = some (.int .i64 (c : Int)) from by
              have h1 := (RL.out.ext HE9.out).get (k := k) (by rw [natI_len]; have := HNL.out; omega)
              have h2 := (RL.out.ext HE5.out).get (k := k) (by rw [natI_len]; have := HNL.out; omega)
              rw [h1, ← h2, hcx])
            clear hrun ho9 hg9 hcv hV1 HGG HO hcx
            refine textL_call_moreW (by rfl) (by rfl) (fun K hK => ?_)
            refine wp_append_run _ _ 22 rfl rfl rfl HRUN.out ?_
            refine hK.out (fun Y => Y = V9) _ _ (fun Y hY => by rw [hY]; exact ⟨HQ9.out, HC9.out⟩) rfl (fun hHeld => ?_)
            clear hK K
            try simp only [Act.put, List.setIfInBounds_toArray, List.set_cons_zero, List.set_cons_succ]
            refine' textL_chunk 1 (by kernel_rfl) hHeld ?ck2 ?cr2
            case ck2 =>
              intro W hSw
              have hSW := hSw
              try dsimp only at hSW
              clear hSw
              obtain rfl := hSW
              simp only [List.take_succ_cons, List.take_zero, List.drop_succ_cons, List.drop_zero]
              repeat (go_big_quiet_step (fail))
              exact wpQuiet_nil rfl
            simp only [List.take_succ_cons, List.take_zero, List.drop_succ_cons, List.drop_zero]
            refine textL_lastW (by rfl) (by rfl) (fun K hK => ?_)
            have y2 := cell_of_blk (o := 1) HQ9.out rfl
            have f2 := frozen_of_blk HQ9.out 1
            go_simp
            refine hK.out _ _ ?_
            clear hK K hHeld
            obtain ⟨X9, hX9⟩ : ∃ X, X = V9.setCell ⟨g, 1, none⟩ (.slice a9 n9 c9) := ⟨_, rfl⟩
            have hgx : V9.grownBy X9 (some g) := by rw [hX9]; exact grown_set _ _ _ _
            have BQ := Lib.hid (show X9.heap[g]? = some (.cells #[.slice xa xn xc, .slice a9 n9 c9] 22 (0, 0)) from by rw [hX9]; exact set2b HQ9.out _)
            have HO := Lib.hid (HO9.out.grown hgx (by omega))
            have HE5 := Lib.hid (show Ext w5 X9 from by rw [hX9]; exact HE9.out.set (by have := HGZ.out; omega) _ _)
            rw [← hX9]
            clear y2 f2 hgx hX9
            have hlt := HLT.out
            have hk64 : k < 64 := by have := HNL64.out; omega
            go_wp2
            go_roundw
            case rel => exact ⟨k + 1, by have := HLT.out; omega, by go_num, Lib.hid ⟨_, BQ.out, HO.out⟩, HE5⟩
            case measure => have := HLT.out; simp [intOf]; omega
        · go_upto_region 11 with fail
          clear hm1 hm2 hsi hand
          have HSN := Lib.hid (show natI (btK bits s0 l0 (k + 1)) = natI (btK bits s0 l0 k) ++ [(c : Int)] from by rw [HST.out]; unfold natI; simp)
          clear HST
          refine wp_orderL (fun V : World => V.heap[g]? = some (.cells #[.slice xa xn xc, u] 22 (0, 0)) ∧ V.cell? ⟨wb, off + k, none⟩ = some (.int .i64 (c : Int))) [0, 1, 2, 3, 4, 5, 6, 7, 8, 9, 10, 11] 11 (by kernel_rfl) (by kernel_rfl) (by kernel_rfl) (by exact ⟨BQ.out, hcx⟩) (fun hHeld => ?_)
          simp only [opsIn, List.filterMap_cons, List.filterMap_nil, List.getElem?_toArray, List.getElem?_cons_succ, List.getElem?_cons_zero]
          obtain ⟨Y0, hY0⟩ : ∃ Y, Y = wr.drew := ⟨_, rfl⟩
          have hE0 : Ext wr Y0 := by rw [hY0]; exact (Ext.refl _).drew
          rw [← hY0] at hHeld ⊢
          clear hY0
          refine' textL_chunk 8 (by kernel_rfl) hHeld ?ck3 ?cr3
          case ck3 =>
            intro W hSw
            have hSW := hSw
            try dsimp only at hSW
            clear hSw
            obtain ⟨s2, s3⟩ := hSW
            obtain ⟨y0, y1⟩ := cells2 s2
            clear s2
            simp only [List.take_succ_cons, List.take_zero, List.drop_succ_cons, List.drop_zero]
            repeat (go_big_quiet_step (fail))
            exact wpQuiet_nil rfl
          simp only [List.take_succ_cons, List.take_zero, List.drop_succ_cons, List.drop_zero]
          refine textL_callW (by rfl) (by rfl) (fun K hK => ?_)
          go_simp
          refine hK.out _ _ (by exact ⟨block_ext ((Ext.refl _).alloc _) hHeld.1, cell_ext ((Ext.refl _).alloc _) hHeld.2⟩) (fun hHeld => ?_)
          clear hK K
          try simp only [Act.put, List.setIfInBounds_toArray, List.set_cons_zero, List.set_cons_succ]
          obtain ⟨V1, hV1⟩ : ∃ V1, V1 = Y0.alloc (.cells #[.int .i64 (c : Int)] 3) := ⟨_, rfl⟩
          rw [← hV1] at hHeld ⊢
          have hE1 : Ext wr V1 := by rw [hV1]; exact hE0.alloc _
          have hcv : V1.cell? ⟨Y0.heap.size, 0, none⟩ = some (.int .i64 (c : Int)) := cell_of_blk (by rw [hV1]; exact heap_alloc_new _ _) rfl
          obtain ⟨v9, V9, hrun, ho9, hg9⟩ := appendI_run (HO.out.ext hE1) (by have := lt_of_blk hHeld.1; omega) HLE.out (c : Int) _ hcv 22
          obtain ⟨a9, n9, c9, rfl⟩ : ∃ a n c, v9 = .slice a n c := by
            obtain ⟨a, c, e, -⟩ := ho9.shape
            exact ⟨a, _, c, e⟩
          have HGG := own_from (HO.out.ext hE1)
          have HRUN := Lib.hid hrun
          have HO9 := Lib.hid (show OwnI 3 (g + 1) V9 (.slice a9 n9 c9) (natI (btK bits s0 l0 (k + 1))) from by rw [HSN.out]; exact ho9)
          have HE9 := Lib.hid (show Ext w5 V9 from grown_any (HE5.out.trans hE1) hg9 (fun b e => by have := HGG b e; have := HGZ.out; omega))
          have HQ9 := Lib.hid ((hg9.block g (lt_of_blk hHeld.1) (fun e => by have := HGG _ e.symm; omega)).trans hHeld.1)
          have HC9 := Lib.hid (show V9.cell? ⟨wb, off + k, none⟩ = some (.int .i64 (c : Int)) from by
            have h1 := (RL.out.ext HE9.out).get (k := k) (by rw [natI_len]; have := HNL.out; omega)
            have h2 := (RL.out.ext HE5.out).get (k := k) (by rw [natI_len]; have := HNL.out; omega)
            rw [h1, ← h2, hcx])
          clear hrun ho9 hg9 hcv hV1 HGG HO hcx
          refine textL_call_moreW (by rfl) (by rfl) (fun K hK => ?_)
          refine wp_append_run _ _ 22 rfl rfl rfl HRUN.out ?_
          refine hK.out (fun Y => Y = V9) _ _ (fun Y hY => by rw [hY]; exact ⟨HQ9.out, HC9.out⟩) rfl (fun hHeld => ?_)
          clear hK K
          try simp only [Act.put, List.setIfInBounds_toArray, List.set_cons_zero, List.set_cons_succ]
          refine' textL_chunk 1 (by kernel_rfl) hHeld ?ck4 ?cr4
          case ck4 =>
            intro W hSw
            have hSW := hSw
            try dsimp only at hSW
            clear hSw
            obtain rfl := hSW
            simp only [List.take_succ_cons, List.take_zero, List.drop_succ_cons, List.drop_zero]
            repeat (go_big_quiet_step (fail))
            exact wpQuiet_nil rfl
          simp only [List.take_succ_cons, List.take_zero, List.drop_succ_cons, List.drop_zero]
          refine textL_lastW (by rfl) (by rfl) (fun K hK => ?_)
          have y2 := cell_of_blk (o := 1) HQ9.out rfl
          have f2 := frozen_of_blk HQ9.out 1
          go_simp
          refine hK.out _ _ ?_
          clear hK K hHeld
          obtain ⟨X9, hX9⟩ : ∃ X, X = V9.setCell ⟨g, 1, none⟩ (.slice a9 n9 c9) := ⟨_, rfl⟩
          have hgx : V9.grownBy X9 (some g) := by rw [hX9]; exact grown_set _ _ _ _
          have BQ := Lib.hid (show X9.heap[g]? = some (.cells #[.slice xa xn xc, .slice a9 n9 c9] 22 (0, 0)) from by rw [hX9]; exact set2b HQ9.out _)
          have HO := Lib.hid (HO9.out.grown hgx (by omega))
          have HE5 := Lib.hid (show Ext w5 X9 from by rw [hX9]; exact HE9.out.set (by have := HGZ.out; omega) _ _)
          rw [← hX9]
          clear y2 f2 hgx hX9
          have hlt := HLT.out
          have hk64 : k < 64 := by have := HNL64.out; omega
          go_wp2
          go_roundw
          case rel => exact ⟨k + 1, by have := HLT.out; omega, by go_num, Lib.hid ⟨_, BQ.out, HO.out⟩, HE5⟩
          case measure => have := HLT.out; simp [intOf]; omega
      · have hkm : k = nl := by omega
        subst k
        have hrd := HO.out.reads (by rw [natI_len]; have := btK_len bits s0 l0 nl; have := HNL64.out; omega)
        have hbq := BQ.out
        obtain ⟨_, ta, tc, rfl⟩ := hrd.shape
        obtain ⟨tn, htn⟩ : ∃ n, n = (natI (btK bits s0 l0 nl)).length := ⟨_, rfl⟩
        rw [← htn] at hrd hbq
        obtain ⟨wM, hwM⟩ : ∃ X, X = wr := ⟨_, rfl⟩
        rw [← hwM] at hrd hbq HE5 ⊢
        have RTM := Lib.hid hrd; have RSM := Lib.hid (RS.out.ext HE5.out); have RLM := Lib.hid (RL.out.ext HE5.out); have RXM := Lib.hid (RX.out.ext HE5.out)
        have HE := Lib.hid (HE.out.trans HE5.out); have B0 := Lib.hid (block_ext HE5.out B0.out)
        have BB := Lib.hid (And.intro B0.out hbq)
        have HR := Lib.hid (Ext.refl wM)
        have HST0 := Lib.hid (fun (X : World) (h : Ext wM X) => H3.out X _ (HE.out.trans h) (RXM.out.ext h))
        have HST1 := Lib.hid (fun (X : World) (h : Ext wM X) => H4.out X _ (HE.out.trans h) (RTM.out.ext h))
        clear hrd hbq htn hwM BQ HO HE5 RS RL RX hlt hk H1 H2 H3 H4
        generalize btK bits s0 l0 nl = t0 at *
        go_wp2
        go_loopw [13] (fun i wr => ∃ k : Nat, k ≤ 2 ∧ i = .int .i64 (k : Int) ∧ Hid (wr.heap[w.heap.size]? = some (.cells #[.int .i64 (W : Int), .int .i64 (H : Int), .slice aw nw cw, .slice ak nk ck] 24 (0, 0)) ∧ wr.heap[g]? = some (.cells #[.slice xa xn xc, .slice ta tn tc] 22 (0, 0))) ∧ Hid (Ext wM wr)) (fun i wr => 2 - (intOf i).toNat)
        case atStart => exact ⟨0, Nat.zero_le _, rfl, BB, HR⟩
        case round =>
          clear BB HR
          obtain ⟨k, hk, rfl, BB, HR⟩ := hrel
          have hk3 : k = 0 ∨ k = 1 ∨ k = 2 := by omega
          rcases hk3 with rfl | rfl | rfl
          · skip
            go_upto_region 15 with fail
            refine wp_region_order ((fun V : World => V.heap[w.heap.size]? = some (.cells #[.int .i64 (W : Int), .int .i64 (H : Int), .slice aw nw cw, .slice ak nk ck] 24 (0, 0)) ∧ V.heap[g]? = some (.cells #[.slice xa xn xc, .slice ta tn tc] 22 (0, 0)))) [0, 1, 2, 3, 4, 5, 6, 7, 8, 9, 10] (by kernel_rfl) (by kernel_rfl) (by exact BB.out) (fun hHeld => ?_)
            simp only [opsIn, List.filterMap_cons, List.filterMap_nil, List.getElem?_toArray, List.getElem?_cons_succ, List.getElem?_cons_zero]
            obtain ⟨d15, hd15⟩ : ∃ Y, Y = wr.drew := ⟨_, rfl⟩
            have h2 : Ext wr d15 := by rw [hd15]; exact (Ext.refl _).drew
            have HR := Lib.hid (HR.out.trans h2)
            rw [← hd15] at hHeld ⊢
            clear hd15 h2
            refine' text_chunk 5 (by kernel_rfl) hHeld ?ck5 ?cr5
            case ck5 =>
              intro W hSw
              have hSW := hSw
              try dsimp only at hSW
              clear hSw
              obtain ⟨s1, s2⟩ := hSW
              obtain ⟨z0, z1, z2, z3⟩ := cells4 s1
              obtain ⟨y0, y1⟩ := cells2 s2
              clear s1 s2
              simp only [List.take_succ_cons, List.take_zero, List.drop_succ_cons, List.drop_zero]
              repeat (go_big_quiet_step (fail))
              exact wpQuiet_nil rfl
            simp only [List.take_succ_cons, List.take_zero, List.drop_succ_cons, List.drop_zero]
            refine text_call (by rfl) (by rfl) (fun K hK => ?_)
            go_simp
            refine (HST0.out _ HR.out).mono ?_
            intro e V2 h1; obtain ⟨h1, h2⟩ := h1; subst h1
            have HR := Lib.hid (HR.out.trans h2); have XV := Lib.hid h2
            clear h2
            all_goals (try (go_wp2_with fail))
            refine hK.out _ _ (by exact ⟨block_ext XV.out hHeld.1, block_ext XV.out hHeld.2⟩) (fun hHeld => ?_)
            clear hK K
            try simp only [Act.put, List.setIfInBounds_toArray, List.set_cons_zero, List.set_cons_succ]
            refine' text_chunk 5 (by kernel_rfl) hHeld ?ck6 ?cr6
            case ck6 =>
              intro W hSw
              have hSW := hSw
              try dsimp only at hSW
              clear hSw
              skip
              simp only [List.take_succ_cons, List.take_zero, List.drop_succ_cons, List.drop_zero]
              repeat (go_big_quiet_step (fail))
              exact wpQuiet_nil rfl
            simp only [List.take_succ_cons, List.take_zero, List.drop_succ_cons, List.drop_zero]
            refine text_done ?_
            have BB := Lib.hid hHeld
            clear hHeld XV
            by_cases hab : A0 = N
            · obtain ⟨w1e, w2e⟩ := HBW0.out hab
              have hab1 : ¬ (A0 : Int) < (N : Int) := by omega
              have hab2 : decide ((A0 : Int) = (N : Int)) = true := decide_eq_true (by omega)
              have hab3 : (A0 : Int) = (N : Int) := by omega
              have HI1 := Lib.hid (fun (V : World) (h : Ext wM V) => inAll_c _ _ (natI s0) (natI x0) V (RSM.out.ext h) (RXM.out.ext h))
              have HI2 := Lib.hid (fun (V : World) (h : Ext wM V) => inAll_c _ _ (natI x0) (natI l0) V (RXM.out.ext h) (RLM.out.ext h))
              rw [w1e] at HI1
              rw [w2e] at HI2
              clear w1e w2e hab
              obtain ⟨y0, y1⟩ := cells2 BB.out.2
              go_wp2_with fail
              refine (HI1.out _ HR.out).mono ?_
              rintro e V3 ⟨rfl, h2⟩
              have HR := Lib.hid (HR.out.trans h2); have BB := Lib.hid (And.intro (block_ext h2 BB.out.1) (block_ext h2 BB.out.2))
              clear h2 y0 y1
              obtain ⟨y0, y1⟩ := cells2 BB.out.2
              go_wp2_with fail
              refine (HI2.out _ HR.out).mono ?_
              rintro e V4 ⟨rfl, h2⟩
              have HR := Lib.hid (HR.out.trans h2); have BB := Lib.hid (And.intro (block_ext h2 BB.out.1) (block_ext h2 BB.out.2))
              clear h2 y0 y1 hab1 hab2 hab3
              go_wp2
              go_roundw
              case rel => exact ⟨1, by omega, by first | rfl | go_num, BB, HR⟩
              case measure => simp [intOf]
            · have hab1 : ¬ (A0 : Int) < (N : Int) := by have := HAN0.out; omega
              have hab2 : decide ((A0 : Int) = (N : Int)) = false := decide_eq_false (by omega)
              have hab3 : ¬ (A0 : Int) = (N : Int) := by omega
              go_wp2
              go_roundw
              case rel => exact ⟨1, by omega, by first | rfl | go_num, BB, HR⟩
              case measure => simp [intOf]
          · skip
            go_upto_region 15 with fail
            refine wp_region_order ((fun V : World => V.heap[w.heap.size]? = some (.cells #[.int .i64 (W : Int), .int .i64 (H : Int), .slice aw nw cw, .slice ak nk ck] 24 (0, 0)) ∧ V.heap[g]? = some (.cells #[.slice xa xn xc, .slice ta tn tc] 22 (0, 0)))) [0, 1, 2, 3, 4, 5, 6, 7, 8, 9, 10] (by kernel_rfl) (by kernel_rfl) (by exact BB.out) (fun hHeld => ?_)
            simp only [opsIn, List.filterMap_cons, List.filterMap_nil, List.getElem?_toArray, List.getElem?_cons_succ, List.getElem?_cons_zero]
            obtain ⟨d15, hd15⟩ : ∃ Y, Y = wr.drew := ⟨_, rfl⟩
            have h2 : Ext wr d15 := by rw [hd15]; exact (Ext.refl _).drew
            have HR := Lib.hid (HR.out.trans h2)
            rw [← hd15] at hHeld ⊢
            clear hd15 h2
            refine' text_chunk 5 (by kernel_rfl) hHeld ?ck7 ?cr7
            case ck7 =>
              intro W hSw
              have hSW := hSw
              try dsimp only at hSW
              clear hSw
              obtain ⟨s1, s2⟩ := hSW
              obtain ⟨z0, z1, z2, z3⟩ := cells4 s1
              obtain ⟨y0, y1⟩ := cells2 s2
              clear s1 s2
              simp only [List.take_succ_cons, List.take_zero, List.drop_succ_cons, List.drop_zero]
              repeat (go_big_quiet_step (fail))
              exact wpQuiet_nil rfl
            simp only [List.take_succ_cons, List.take_zero, List.drop_succ_cons, List.drop_zero]
            refine text_call (by rfl) (by rfl) (fun K hK => ?_)
            go_simp
            refine (HST1.out _ HR.out).mono ?_
            intro e V2 h1; obtain ⟨h1, h2⟩ := h1; subst h1
            have HR := Lib.hid (HR.out.trans h2); have XV := Lib.hid h2
            clear h2
            all_goals (try (go_wp2_with fail))
            refine hK.out _ _ (by exact ⟨block_ext XV.out hHeld.1, block_ext XV.out hHeld.2⟩) (fun hHeld => ?_)
            clear hK K
            try simp only [Act.put, List.setIfInBounds_toArray, List.set_cons_zero, List.set_cons_succ]
            refine' text_chunk 5 (by kernel_rfl) hHeld ?ck8 ?cr8
            case ck8 =>
              intro W hSw
              have hSW := hSw
              try dsimp only at hSW
              clear hSw
              skip
              simp only [List.take_succ_cons, List.take_zero, List.drop_succ_cons, List.drop_zero]
              repeat (go_big_quiet_step (fail))
              exact wpQuiet_nil rfl
            simp only [List.take_succ_cons, List.take_zero, List.drop_succ_cons, List.drop_zero]
            refine text_done ?_
            have BB := Lib.hid hHeld
            clear hHeld XV
            by_cases hab : A1 = N
            · obtain ⟨w1e, w2e⟩ := HBW1.out hab
              have hab1 : ¬ (A1 : Int) < (N : Int) := by omega
              have hab2 : decide ((A1 : Int) = (N : Int)) = true := decide_eq_true (by omega)
              have hab3 : (A1 : Int) = (N : Int) := by omega
              have HI1 := Lib.hid (fun (V : World) (h : Ext wM V) => inAll_c _ _ (natI s0) (natI t0) V (RSM.out.ext h) (RTM.out.ext h))
              have HI2 := Lib.hid (fun (V : World) (h : Ext wM V) => inAll_c _ _ (natI t0) (natI l0) V (RTM.out.ext h) (RLM.out.ext h))
              rw [w1e] at HI1
              rw [w2e] at HI2
              clear w1e w2e hab
              obtain ⟨y0, y1⟩ := cells2 BB.out.2
              go_wp2_with fail
              refine (HI1.out _ HR.out).mono ?_
              rintro e V3 ⟨rfl, h2⟩
              have HR := Lib.hid (HR.out.trans h2); have BB := Lib.hid (And.intro (block_ext h2 BB.out.1) (block_ext h2 BB.out.2))
              clear h2 y0 y1
              obtain ⟨y0, y1⟩ := cells2 BB.out.2
              go_wp2_with fail
              refine (HI2.out _ HR.out).mono ?_
              rintro e V4 ⟨rfl, h2⟩
              have HR := Lib.hid (HR.out.trans h2); have BB := Lib.hid (And.intro (block_ext h2 BB.out.1) (block_ext h2 BB.out.2))
              clear h2 y0 y1 hab1 hab2 hab3
              go_wp2
              go_roundw
              case rel => exact ⟨2, by omega, by first | rfl | go_num, BB, HR⟩
              case measure => simp [intOf]
            · have hab1 : ¬ (A1 : Int) < (N : Int) := by have := HAN1.out; omega
              have hab2 : decide ((A1 : Int) = (N : Int)) = false := decide_eq_false (by omega)
              have hab3 : ¬ (A1 : Int) = (N : Int) := by omega
              go_wp2
              go_roundw
              case rel => exact ⟨2, by omega, by first | rfl | go_num, BB, HR⟩
              case measure => simp [intOf]
          · skip
            have HE := Lib.hid (HE.out.trans HR.out); have B0 := Lib.hid BB.out.1
            have RS := Lib.hid (RSM.out.ext HR.out); have RL := Lib.hid (RLM.out.ext HR.out)
            obtain ⟨hcc, hccl, hmm64⟩ := HMC.out
            have hd1 : (cell : Int).tmod (mm : Int) = (cc : Int) := by rw [hcc]; exact (Int.ofNat_tmod cell mm).symm
            have hd2 : (cell : Int) % (mm : Int) = (cc : Int) := by rw [hcc]; simp
            have hd0 : ¬ (mm : Int) = 0 := by omega
            have hsub := HSUB.out cc
            clear BB HR RSM RLM RTM RXM HST0 HST1 HBW0 HBW1 HAN0 HAN1 hk hcc
            obtain ⟨z0, z1, z2, z3⟩ := cells4 B0.out
            go_wp2_with fail
            refine (HCE.out _).mono ?_
            rintro e V5 ⟨rfl, h2⟩
            have HE := Lib.hid (HE.out.trans h2); have B0 := Lib.hid (block_ext h2 B0.out)
            have RS := Lib.hid (RS.out.ext h2)
            have RL := Lib.hid (RL.out.ext h2)
            clear h2 z0 z1 z2 z3
            go_upto_region 19 with fail
            clear hd1 hd2 hd0
            obtain ⟨z0, z1, z2, z3⟩ := cells4 B0.out
            go_wp2_with fail
            refine (H5.out _ HE.out).mono ?_
            rintro e V6 ⟨rfl, h2⟩
            have HE := Lib.hid (HE.out.trans h2); have B0 := Lib.hid (block_ext h2 B0.out)
            have RS := Lib.hid (RS.out.ext h2)
            have RL := Lib.hid (RL.out.ext h2)
            clear h2 z0 z1 z2 z3
            have HQ1 := Lib.hid (has_c _ (natI s0) (cc : Int) V6 RS.out)
            have HQ2 := Lib.hid (has_c _ (natI l0) (cc : Int) V6 RL.out)
            rw [hasB_nat] at HQ1 HQ2
            have hsub2 : decide (cc ∈ s0) = true → decide (cc ∈ l0) = true := fun h => decide_eq_true (hsub (of_decide_eq_true h))
            clear hsub HSUB
            generalize decide (cc ∈ s0) = q1 at *
            generalize decide (cc ∈ l0) = q2 at *
            unfold kindK
            cases q1 <;> cases q2
            all_goals first
              | (exfalso; revert hsub2; decide)
              | (clear hsub2
                 go_wp2_with fail
                 refine Calls.mono HQ1.out ?_
                 intro e Y h1; obtain ⟨h1, hY⟩ := h1; subst h1; subst hY
                 go_wp2_with fail
                 refine Calls.mono HQ2.out ?_
                 intro e Y h1; obtain ⟨h1, hY⟩ := h1; subst h1; subst hY
                 go_wp2_with fail
                 refine (works_c _).mono ?_
                 rintro e wz ⟨rfl, hz⟩
                 go_wp2
                 go_ret
                 exact ⟨rfl, HE.out.trans hz⟩
                 )
end Go.Proofs.YtppjnpempgpkaaaGreat
