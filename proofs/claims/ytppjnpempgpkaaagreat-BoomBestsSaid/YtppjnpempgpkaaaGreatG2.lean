/- The iterator over all cells of a pond. leaving, by its contract. large, by its contract. -/
import Derived.Test.YtppjnpempgpkaaaGreatC2
import Derived.Sort.CutIn
import Derived.Test.YtppjnpempgpkaaaGreatF5
namespace Go.Proofs.YtppjnpempgpkaaaGreat
open Go.RowKit Go.Shelf
set_option linter.unusedVariables false
set_option linter.unusedSimpArgs false
attribute [local go_sem] Oper.semAt_some
theorem all_c (W H nw cw nk ck : Nat) (aw ak : Option Addr) (w : World) : Calls Tryz.prog 88 #[.agg #[.int .i64 (W : Int), .int .i64 (H : Int), .slice aw nw cw, .slice ak nk ck]] w fun e w' =>
    e = .returned (.func (.func 116) #[] #[.pointer (some ⟨w.heap.size, 0, none⟩)]) ∧ w' = w.alloc (.cells #[.int .i64 (W : Int), .int .i64 (H : Int), .slice aw nw cw, .slice ak nk ck] 72) := by
  go_enter Tryz.func88, Tryz.ntmps88
  go_wp2
  go_ret
  exact ⟨rfl, rfl⟩
def encI (c : Nat) : Array Value := #[.int .i64 (c : Int)]
theorem range_at {n k x : Nat} (h : (List.range n)[k]? = some x) : x = k ∧ k < n := by
  obtain ⟨h1, h2⟩ := List.getElem?_eq_some_iff.1 h
  simp at h1 h2
  omega
theorem at_range {n k : Nat} (h : k < n) : (List.range n)[k]? = some k := by simp [h]
set_option maxRecDepth 100000 in
set_option maxHeartbeats 1000000 in
theorem all_seq (W H nw cw nk ck : Nat) (aw ak : Option Addr) (f Bp : Nat) (rs : List Nat) (b e : Nat) (w : World) (hf : 1 ≤ f) (hW : 1 ≤ W ∧ W ≤ 8) (hH : 1 ≤ H ∧ H ≤ 8) (hp : w.heap[Bp]? = some (.cells #[.int .i64 (W : Int), .int .i64 (H : Int), .slice aw nw cw, .slice ak nk ck] 72 (0, 0))) (hnp : Bp ∉ rs) (hep : 72 ≠ e ∨ Bp < b) :
    SeqL f 116 #[.pointer (some ⟨Bp, 0, none⟩)] encI rs b e (List.range (W * H)) w := by
  intro l J Jx W₁ hW₁ hJ hJx hY h0
  have hn64 : W * H ≤ 64 := Nat.mul_le_mul hW.2 hH.2
  obtain ⟨N, hN⟩ : ∃ N, N = W * H := ⟨_, rfl⟩
  have hNI : (W : Int) * (H : Int) = (N : Int) := by rw [hN]; push_cast; rfl
  rw [← hN] at hY hn64 ⊢
  have HY := Lib.hid hY; have HJ := Lib.hid hJ; have H0 := Lib.hid h0
  have C0 := Lib.hid (show CellsT rs b e w W₁ from (KeepT.ext hW₁).cellsT)
  have HB2 := Lib.hid (fun (Y : World) (hY : CellsT rs b e w Y) => hY Bp _ _ _ hp hnp hep)
  obtain ⟨p0, p1, p2, p3⟩ := cells4 (HB2.out _ C0.out)
  clear hY hJ h0 hJx hp hnp hep hW₁ hN
  refine callsIn_of_wp Tryz.func116 rfl trivial ?_ rfl
  simp only [Tryz.ntmps116, List.size_toArray, List.length_cons, List.length_nil, Nat.reduceAdd, Nat.reduceSub, Array.replicate_succ, Array.replicate_zero, List.push_toArray, List.append_toArray, List.nil_append, List.cons_append]
  gi_wp2
  gi_loopw [11] (fun s wr => ∃ k : Nat, k ≤ N ∧ s = .int .i64 (k : Int) ∧ Hid (J k wr)) (fun s wr => N - (intOf s).toNat)
  case atStart => exact ⟨0, by omega, by go_num, H0⟩
  case round =>
    obtain ⟨k, hk, rfl, hJw⟩ := hrel
    by_cases hlt : k < N
    · have hka : (0 : Int) ≤ (k : Int) := by omega
      have hkb : (k : Int) < (N : Int) := by omega
      obtain ⟨fn, tmps, assign, body, hyy, hR⟩ := HY.out k k wr (at_range hlt) hJw.out
      have HR := Lib.hid hR
      simp only [encI] at hyy
      clear hR
      gi_wp2_with fail
      refine RoundIn.mono HR.out ?_
      rintro e v1 (⟨rfl, hJn, hKn⟩ | ⟨rfl, hJn, hKn⟩)
      · have HJ1 := Lib.hid hJn
        clear hyy HR hJn hKn
        gi_wp2
        go_roundw
        case rel => exact ⟨k + 1, by omega, by go_num, HJ1⟩
        case measure => simp [intOf]; omega
      · have HJ1 := Lib.hid hJn
        clear hyy HR hJn hKn
        gi_wp2
        refine bodyPost_ret (results_none rfl _ _ _) rfl ?_
        exact ⟨⟨_, rfl⟩, .inr ⟨k, by simpa using hlt, HJ1.out⟩⟩
    · obtain rfl : k = N := by omega
      gi_wp2
      go_end0
      exact ⟨⟨_, rfl⟩, .inl (by rw [List.length_range]; exact hJw.out)⟩
end Go.Proofs.YtppjnpempgpkaaaGreat
namespace Go.Proofs.YtppjnpempgpkaaaGreat
open Go.RowKit Go.Shelf
set_option linter.unusedVariables false
set_option linter.unusedSimpArgs false
attribute [local go_sem] Oper.semAt_some
def usedC (g : Nat → Bool) (k : Nat) : List Value := [.bool (decide (0 < k) && g 0), .bool (decide (1 < k) && g 1), .bool (decide (2 < k) && g 2), .bool (decide (3 < k) && g 3)]
theorem usedC_set (g : Nat → Bool) {k : Nat} (hk : k < 4) : (usedC g k).set k (.bool (g k)) = usedC g (k + 1) := by
  have : k = 0 ∨ k = 1 ∨ k = 2 ∨ k = 3 := by omega
  rcases this with rfl | rfl | rfl | rfl <;> simp [usedC]
set_option maxRecDepth 100000 in
theorem alloc_sides : Allocs 134 #[.bool false, .bool false, .bool false, .bool false] := by
  intro w
  simp [go_sem]
theorem usedC_at (g : Nat → Bool) {k j : Nat} (hj : j < 4) : ∃ b : Bool, (usedC g k).toArray[j]? = some (.bool b) := by
  have : j = 0 ∨ j = 1 ∨ j = 2 ∨ j = 3 := by omega
  rcases this with rfl | rfl | rfl | rfl <;> exact ⟨_, rfl⟩
set_option maxRecDepth 100000 in
set_option maxHeartbeats 1000000 in
theorem leaving_c (W H nw cw nk ck : Nat) (aw ak : Option Addr) (c : Nat) (hW : 1 ≤ W ∧ W ≤ 8) (hH : 1 ≤ H ∧ H ≤ 8) (hc : c < W * H) (bn mo n : Nat) (F : List Sd) (rd : List Bool) (w : World) (hnet : NetB w bn W H (.slice aw nw cw) (.slice ak nk ck) mo rd) (hmap : SMap w mo n (F.map lkS)) :
    Calls Tryz.prog 92 #[.pointer (some ⟨bn, 0, none⟩), .int .i64 (c : Int)] w fun e w' => e = .returned (.agg #[.bool (memB F (c, 0)), .bool (memB F (c, 1)), .bool (memB F (c, 2)), .bool (memB F (c, 3))]) ∧ Ext w w' := by
  have hn64 : W * H ≤ 64 := Nat.mul_le_mul hW.2 hH.2
  have hbn := hnet.lt
  have hmo := hmap.lt
  obtain ⟨g, hg⟩ : ∃ g : Nat → Bool, g = fun k => memB F (c, k) := ⟨_, rfl⟩
  have HG := Lib.hid hg
  obtain ⟨w1, hw1⟩ : ∃ w1, w1 = ((w.alloc (.cells #[.pointer (some ⟨bn, 0, none⟩)] 79)).alloc (.cells #[.bool false, .bool false, .bool false, .bool false] 134)).alloc (.cells #[.bool false, .bool false, .bool false, .bool false] 134) := ⟨_, rfl⟩
  have hE1 : Ext w w1 := by rw [hw1]; exact (((Ext.refl w).alloc _).alloc _).alloc _
  have B0 := Lib.hid (show w1.heap[w.heap.size]? = some (.cells #[.pointer (some ⟨bn, 0, none⟩)] 79 (0, 0)) from by rw [hw1]; exact block_ext (((Ext.refl _).alloc _).alloc _) (heap_alloc_new w _))
  have BR := Lib.hid (show w1.heap[w.heap.size + 1]? = some (.cells #[.bool false, .bool false, .bool false, .bool false] 134 (0, 0)) from by rw [hw1]; exact block_ext ((Ext.refl _).alloc _) (heap_alloc_at (w.alloc _) _ (by simp)))
  have BU := Lib.hid (show w1.heap[w.heap.size + 2]? = some (.cells (usedC g 0).toArray 134 (0, 0)) from by rw [hw1]; exact heap_alloc_at ((w.alloc _).alloc _) _ (by simp))
  have HZ1 := Lib.hid (show w1.heap.size = w.heap.size + 3 from by rw [hw1]; simp)
  have HN := Lib.hid (hnet.ext hE1); have HM := Lib.hid (hmap.ext hE1); have HE1 := Lib.hid hE1; have HW1 := Lib.hid hw1
  have H84 := Lib.hid (fun X => neighbours_c W H nw cw nk ck aw ak c X)
  obtain ⟨n0, n1, n2, n3, n4⟩ := HN.out.head
  have p0 := cell_of_blk B0.out (o := 0) rfl
  clear hw1 hE1 hnet hmap hg
  refine (callsIn_wide (n := 12)).1 ?_
  refine callsIn_of_wp_marks Tryz.func92 rfl trivial ?_ rfl
  simp only [Tryz.ntmps92, List.size_toArray, List.length_cons, List.length_nil, Nat.reduceAdd, Nat.reduceSub, Array.replicate_succ, Array.replicate_zero, List.push_toArray, List.append_toArray, List.nil_append, List.cons_append]
  refine wpIn_wide.2 ?_
  go_upto_region 2 with (first | (refine wp_allocRow rfl 134 rfl alloc_sides ?_) | fail)
  rw [← HW1.out]
  go_wp2_with (first | (go_at_call 84; refine Calls.mono (H84.out _) ?_; intro e Y5 h1; obtain ⟨h1, hY5⟩ := h1; subst h1; have HY5 := Lib.hid hY5; clear hY5) | fail)
  have HEY := Lib.hid (show Ext w1 Y5 from by rw [HY5.out]; exact ((Ext.refl w1).alloc _).alloc _)
  have B5P := Lib.hid (show Y5.heap[w1.heap.size]? = some (.cells #[.int .i64 (W : Int), .int .i64 (H : Int), .slice aw nw cw, .slice ak nk ck] 72 (0, 0)) from by rw [HY5.out]; exact block_ext ((Ext.refl _).alloc _) (heap_alloc_new w1 _))
  have B5C := Lib.hid (show Y5.heap[w1.heap.size + 1]? = some (.cells #[.int .i64 (c : Int)] 3 (0, 0)) from by rw [HY5.out]; exact heap_alloc_at (w1.alloc _) _ (by simp))
  have hz1 := HZ1.out
  have hz5 : w1.heap.size + 1 < Y5.heap.size := lt_of_blk B5C.out
  have N5 := Lib.hid (HN.out.ext HEY.out); have M5 := Lib.hid (HM.out.ext HEY.out); have P5 := Lib.hid (block_ext HEY.out B0.out); have R5 := Lib.hid (block_ext HEY.out BR.out); have U5 := Lib.hid (show Y5.heap[w.heap.size + 2]? = some (.cells (usedC g 0).toArray 134 (0, 0)) from block_ext HEY.out BU.out)
  have HE5 := Lib.hid (HE1.out.trans HEY.out)
  have HSEQ := Lib.hid (neighbours_seq W H nw cw nk ck aw ak c 11 (w1.heap.size + 1) w1.heap.size [w.heap.size + 2] w.heap.size 0 Y5 (by omega) hW hH hc B5C.out B5P.out (by first | (simp; done) | (simp; omega)) (by first | (simp; done) | (simp; omega)) (by first | (simp; done) | (simp; omega)) (by decide))
  clear n0 n1 n2 n3 n4 p0 HN HM B0 BR BU HW1 H84 HZ1
  refine (wpIn_wide (n := 12)).1 ?_
  refine wp_seqLB (n := 12) (by omega) (gf := 112) (encs := encN W H c) (ps := #[13, 14]) (rs := [w.heap.size + 2]) (b := w.heap.size) (e := 0) rfl (enters_of Tryz.func112 (by kernel_rfl) rfl) HSEQ.out (Below.refl _ _) (fun _ => rfl) (by first | (simp; done) | (simp; omega))
    (fun k Y => Y.heap[w.heap.size + 2]? = some (.cells (usedC g k).toArray 134 (0, 0)) ∧ KeepT [w.heap.size + 2] w.heap.size 0 Y5 Y) (fun q k Y => False) ?hI ?hIx ?h0 ?hIE 124 (fun k => #[.int .i64 (c : Int), .int .i64 (k : Int)]) ?af ?assign ?body ?done ?stop
  case hI =>
    rintro s A B row ⟨h2, h3⟩ hg hr
    exact ⟨cells_turn h2 hg hr, ownFrom_keepT (β := Unit) (Nat.le_refl _) () A B row h3 hg hr⟩
  case hIx => rintro q s A B row h hg hr; exact h
  case h0 => exact ⟨U5.out, KeepT.refl _ _ _ _⟩
  case hIE =>
    rintro k A B ⟨h2, h3⟩ hE
    exact ⟨block_ext hE h2, h3.trans (KeepT.ext hE)⟩
  case assign =>
    rintro l2 x A B K hB hK
    dsimp only [encN]
    gi_wp2
    first | rw [← hB] | skip
    exact hK
  case body =>
    rintro l2 k x Bx X hl2 hx ⟨hu, hK⟩ hBx hbx
    obtain ⟨rfl, hk4⟩ := four_at hx
    clear hx
    have hmo5 := hK.low (g := mo) (by omega) (by first | (simp; done) | (simp; omega)) hmo
    have nc := (show NetB X bn W H (.slice aw nw cw) (.slice ak nk ck) mo rd from ⟨N5.out.len, hK.cells (by first | (simp; done) | (simp; omega)) N5.out.blk (by decide)⟩).head.2.2.2.2
    have HIU := Lib.hid (fun (Y : World) (hY : Ext X Y) => isUsed_c bn mo n (F.map lkS) (lkS (c, x)) Y (cell_ext hY nc) ((M5.out.same hmo5).ext hY) (sm_lkS (by omega) hk4))
    obtain ⟨fl, hfl⟩ : ∃ fl, fl = g x := ⟨_, rfl⟩
    have hinf : inF (F.map lkS) (lkS (c, x)) = fl := by rw [hfl, HG.out]; unfold memB inF; exact decide_eq_decide.2 inF_map
    rw [hinf] at HIU
    have HFL := Lib.hid hfl
    have HU := Lib.hid hu; have HK := Lib.hid hK; have HB := Lib.hid hbx; have HP := Lib.hid (hK.cells (by first | (simp; done) | (simp; omega)) P5.out (by decide))
    have nb : Bx ≠ w.heap.size + 2 := by omega
    have ga : (0 : Int) ≤ (x : Int) := by omega
    have gb : (x : Int) < 4 := by omega
    have gc : (x : Int).toNat = x := by omega
    clear hmo5 nc hfl hinf hu hK hbx
    gi_upto_region 4 with fail
    refine wpIn_order (tk := takeB) (fun _ => trivial) (fun Y : World => Y.heap[w.heap.size]? = some (.cells #[.pointer (some ⟨bn, 0, none⟩)] 79 (0, 0)) ∧ Y.heap[Bx]? = some (.cells #[.int .i64 (c : Int), .int .i64 (x : Int)] 124 (0, 0))) [0, 1, 2, 3, 4, 5, 6] (by kernel_rfl) (by kernel_rfl) (by kernel_rfl) (by exact ⟨HP.out, HB.out⟩) (fun hHeld => ?_)
    simp only [opsIn, List.filterMap_cons, List.filterMap_nil, List.getElem?_toArray, List.getElem?_cons_succ, List.getElem?_cons_zero]
    refine' textI_chunk 4 (by kernel_rfl) hHeld ?ck1 ?cr1
    case ck1 =>
      intro W hSw
      have hSW := hSw
      try dsimp only at hSW
      clear hSw
      obtain ⟨d0, d1⟩ := cells2 hSW.2
      have p0 := cell_of_blk hSW.1 (o := 0) rfl
      simp only [List.take_succ_cons, List.take_zero, List.drop_succ_cons, List.drop_zero]
      repeat (go_big_quiet_step (fail))
      exact wpQuiet_nil rfl
    simp only [List.take_succ_cons, List.take_zero, List.drop_succ_cons, List.drop_zero]
    refine textI_call (by rfl) (by rfl) (fun K hK => ?_)
    go_simp
    refine ⟨trivial, (CallsIn.inRound l2 (callsIn_wide.2 (HIU.out _ (Ext.refl X).drew))).mono ?_⟩
    rintro e V1 ⟨rfl, he1⟩
    have HEE := Lib.hid he1
    have HV1 := Lib.hid ((Ext.refl X).drew.trans he1)
    clear he1
    all_goals (try (gi_wp2_with fail))
    refine hK.out _ _ (by exact ⟨block_ext HEE.out hHeld.1, block_ext HEE.out hHeld.2⟩) (fun hHeld => ?_)
    clear hK K
    try simp only [Act.put, List.setIfInBounds_toArray, List.set_cons_zero, List.set_cons_succ]
    refine' textI_chunk 1 (by kernel_rfl) hHeld ?ck2 ?cr2
    case ck2 =>
      intro W hSw
      have hSW := hSw
      try dsimp only at hSW
      clear hSw
      obtain ⟨d0, d1⟩ := cells2 hSW.2
      have p0 := cell_of_blk hSW.1 (o := 0) rfl
      simp only [List.take_succ_cons, List.take_zero, List.drop_succ_cons, List.drop_zero]
      repeat (go_big_quiet_step (fail))
      exact wpQuiet_nil rfl
    simp only [List.take_succ_cons, List.take_zero, List.drop_succ_cons, List.drop_zero]
    have HU1 := Lib.hid (show V1.heap[w.heap.size + 2]? = some (.cells (usedC g x).toArray 134 (0, 0)) from block_ext HV1.out HU.out)
    obtain ⟨b0, hb0⟩ := usedC_at g (k := x) hk4
    have c0 := cell_of_blk HU1.out hb0
    have f0 := frozen_of_blk HU1.out x
    have HS1 := Lib.hid (set_blk (o := x) HU1.out (.bool fl))
    refine textI_call_more (by rfl) (by rfl) (fun K hK => ?_)
    go_simp
    have k4 : KeepT [w.heap.size + 2] w.heap.size 0 X (V1.setCell ⟨w.heap.size + 2, x, none⟩ (.bool fl)) := (KeepT.ext HV1.out).trans (KeepT.set _ (by simp) _)
    have HK4 := Lib.hid k4
    clear k4 c0 f0 hb0
    refine hK.out (fun Y => Y = V1.setCell ⟨w.heap.size + 2, x, none⟩ (.bool fl)) _ _ (fun Y hY => by rw [hY]; exact ⟨HK4.out.cells (by first | (simp; done) | (simp; omega)) HP.out (by decide), HK4.out.cells (by first | (simp; done) | (simp; omega)) HB.out (by decide)⟩) rfl (fun hHeld => ?_)
    clear hK K hHeld
    try simp only [Act.put, List.setIfInBounds_toArray, List.set_cons_zero, List.set_cons_succ]
    refine textI_done ?_
    gi_wp2
    refine ⟨HK4.out, ?_, HK.out.trans HK4.out⟩
    have h := HS1.out
    rw [HFL.out, usedC_set g hk4] at h
    rw [HFL.out]
    exact h
  case done =>
    rintro D X hD ⟨hu, hK⟩ hDW
    have hu4 : X.heap[w.heap.size + 2]? = some (.cells (usedC g 4).toArray 134 (0, 0)) := hu
    obtain ⟨u0, u1, u2, u3⟩ := cells4 (show X.heap[w.heap.size + 2]? = some (.cells #[.bool (g 0), .bool (g 1), .bool (g 2), .bool (g 3)] 134 (0, 0)) from by simpa [usedC] using hu4)
    have hr4 := hK.cells (by first | (simp; done) | (simp; omega)) R5.out (by decide)
    obtain ⟨z0, z1, z2, z3⟩ := cells4 hr4
    have y0 := frozen_of_blk hr4 0
    have y1 := frozen_of_blk hr4 1
    have y2 := frozen_of_blk hr4 2
    have y3 := frozen_of_blk hr4 3
    have hs4 := Lib.hid (set4 hr4 (.bool (g 0)) (.bool (g 1)) (.bool (g 2)) (.bool (g 3)))
    have HD := Lib.hid hDW; have HKF := Lib.hid (show KeepT [] w.heap.size 0 w X from KeepT.comp (KeepT.ext HE5.out) hK (fun r hr => .inr (by rw [List.mem_singleton] at hr; omega)) (Nat.le_refl _))
    clear hu hu4 hr4 hK hDW
    obtain ⟨Z, hZ⟩ : ∃ Z, Z = (((X.setCell ⟨w.heap.size + 1, 0, none⟩ (.bool (g 0))).setCell ⟨w.heap.size + 1, 1, none⟩ (.bool (g 1))).setCell ⟨w.heap.size + 1, 2, none⟩ (.bool (g 2))).setCell ⟨w.heap.size + 1, 3, none⟩ (.bool (g 3)) := ⟨_, rfl⟩
    have k5 : KeepT [w.heap.size + 1] w.heap.size 0 X Z := by rw [hZ]; exact ((((KeepT.set _ (by simp) _).trans (KeepT.set _ (by simp) _)).trans (KeepT.set _ (by simp) _)).trans (KeepT.set _ (by simp) _))
    have hzd := k5.blkN (by first | (simp; done) | (simp; omega)) HD.out rfl
    rw [← hZ] at hs4
    have HZ := Lib.hid hZ; have HK5 := Lib.hid k5; have HZD := Lib.hid hzd; have HS4 := Lib.hid hs4.out
    clear hZ k5 hzd hs4
    go_wp2
    rw [← HZ.out]
    refine ⟨by simp, .inl ⟨_, _, rfl, run_takeDeferred HZD.out, ?_⟩⟩
    have hnD : D ≠ w.heap.size + 1 := by omega
    obtain ⟨q0, q1, q2, q3⟩ := cells4 ((World.putObj_heap_other (o := .deferred none) (fun e => hnD e.symm)).trans HS4.out)
    refine ⟨_, by first | (simp [results, Tryz.results92, go_sem, q0, q1, q2, q3]; done) | (simp [results, Tryz.results92, go_sem, q0, q1, q2, q3]; rfl), by rw [HG.out], ?_⟩
    have hk : KeepT [] w.heap.size 0 w Z := KeepT.comp HKF.out HK5.out (fun r hr => .inr (by rw [List.mem_singleton] at hr; omega)) (Nat.le_refl _)
    exact KeepT.below (Ext.refl w) (hk.grown_in (grownBy_putObj' _ D (.deferred none)) (fun g e => by cases e; exact .inr (by omega))) (by simp) (Nat.le_refl _)
  case stop => rintro D q k X hD hk h hDW; exact h.elim
end Go.Proofs.YtppjnpempgpkaaaGreat
namespace Go.Proofs.YtppjnpempgpkaaaGreat
open Go.RowKit Go.Shelf
set_option linter.unusedVariables false
set_option linter.unusedSimpArgs false
attribute [local go_sem] Oper.semAt_some
/-- From which cells one more way could not go on, up to k. -/
def lrg (G : Grid) (keep : Nat → Bool) (F : List Sd) (k : Nat) : List Bool := (List.range 64).map fun c => decide (c < k) && (find1 G 64 keep (fre F) [c]).2.isNone
theorem lrg_len (G : Grid) (keep : Nat → Bool) (F : List Sd) (k : Nat) : (lrg G keep F k).length = 64 := by unfold lrg; simp
theorem lrg_zero (G : Grid) (keep : Nat → Bool) (F : List Sd) : lrg G keep F 0 = no64 := by
  unfold lrg
  rw [show (fun c : Nat => decide (c < 0) && (find1 G 64 keep (fre F) [c]).2.isNone) = fun _ => false from by funext c; simp]
  rfl
theorem lrg_at (G : Grid) (keep : Nat → Bool) (F : List Sd) (k : Nat) {i : Nat} (hi : i < 64) : (lrg G keep F k)[i]? = some (decide (i < k) && (find1 G 64 keep (fre F) [i]).2.isNone) := by unfold lrg; simp [hi]
theorem lrg_set {G : Grid} {keep : Nat → Bool} {F : List Sd} {k : Nat} (hk : k < 64) {v : Bool} (hv : v = (find1 G 64 keep (fre F) [k]).2.isNone) : (lrg G keep F k).set k v = lrg G keep F (k + 1) := by
  refine List.ext_getElem? fun i => ?_
  by_cases hi : i < 64
  · rw [List.getElem?_set, lrg_at _ _ _ _ hi, lrg_at _ _ _ _ hi]
    by_cases e : k = i
    · subst e
      rw [if_pos rfl, if_pos (by rw [lrg_len]; exact hk), hv]
      simp
    · rw [if_neg e, show decide (i < k + 1) = decide (i < k) from by rw [decide_eq_decide]; omega]
  · rw [List.getElem?_eq_none (by rw [List.length_set, lrg_len]; omega), List.getElem?_eq_none (by rw [lrg_len]; omega)]
theorem lrg_is {G : Grid} {keep : Nat → Bool} {F : List Sd} {n : Nat} (hn : n ≤ 64) (c : Nat) : isR (lrg G keep F n) c = (decide (c < n) && (find1 G 64 keep (fre F) [c]).2.isNone) := by
  unfold isR lrg
  rw [List.getD_eq_getElem?_getD]
  by_cases h : c < 64
  · simp [h]
  · simp [h]; omega
set_option maxRecDepth 100000 in
set_option maxHeartbeats 1000000 in
theorem large_c (W H nw cw nk ck : Nat) (aw ak : Option Addr) (kn : List Nat) (wn : List Nat) (hW : 1 ≤ W ∧ W ≤ 8) (hH : 1 ≤ H ∧ H ≤ 8) (G : Grid) (hGn : G.n = W * H) (hGb : G.bh = bhP W H) (hpd : Pond G 64 wn (memL kn)) (bn mo n : Nat) (F : List Sd) (rd : List Bool) (w : World) (hnet : NetB w bn W H (.slice aw nw cw) (.slice ak nk ck) mo rd) (hmap : SMap w mo n (F.map lkS))
    (hrk : ∀ Y, KeepT [bn] w.heap.size 0 w Y → Reads Y (.slice ak nk ck) (natI kn)) :
    Calls Tryz.prog 51 #[.pointer (some ⟨bn, 0, none⟩)] w fun e w' => ∃ A rd', e = .returned (.agg A) ∧ IsRaft A W H (.slice aw nw cw) (.slice ak nk ck) (lrg G (memL kn) F (W * H)) ∧ NetB w' bn W H (.slice aw nw cw) (.slice ak nk ck) mo rd' ∧ KeepT [bn] w.heap.size 0 w w' := by
  have hn64 : W * H ≤ 64 := Nat.mul_le_mul hW.2 hH.2
  have hbn := hnet.lt
  have hmo := hmap.lt
  have hmb := mo_ne hnet hmap
  have HI := Lib.hid (RaftB.isRaft W H (.slice aw nw cw) (.slice ak nk ck) (rd := no64) rfl).info
  have HO := Lib.hid (RaftB.isRaft W H (.slice aw nw cw) (.slice ak nk ck) (rd := no64) rfl).one
  obtain ⟨A0, hA0⟩ : ∃ A0, A0 = (rc W H (.slice aw nw cw) (.slice ak nk ck) no64).toArray := ⟨_, rfl⟩
  rw [← hA0] at HI HO
  have HA0 := Lib.hid hA0; clear hA0
  have HS := Lib.hid (show zR.size = A0.size from by rw [HA0.out]; rfl)
  obtain ⟨w1, hw1⟩ : ∃ w1, w1 = (w.alloc (.cells #[.pointer (some ⟨bn, 0, none⟩)] 79)).alloc (.cells zR 78) := ⟨_, rfl⟩
  have hE1 : Ext w w1 := by rw [hw1]; exact ((Ext.refl w).alloc _).alloc _
  have B0 := Lib.hid (show w1.heap[w.heap.size]? = some (.cells #[.pointer (some ⟨bn, 0, none⟩)] 79 (0, 0)) from by rw [hw1]; exact block_ext ((Ext.refl _).alloc _) (heap_alloc_new w _))
  have BZ := Lib.hid (show w1.heap[w.heap.size + 1]? = some (.cells zR 78 (0, 0)) from by rw [hw1]; exact heap_alloc_at (w.alloc _) _ (by simp))
  have HZ1 := Lib.hid (show w1.heap.size = w.heap.size + 2 from by rw [hw1]; simp)
  have HN := Lib.hid (hnet.ext hE1); have HM := Lib.hid (hmap.ext hE1); have HE1 := Lib.hid hE1; have HW1 := Lib.hid hw1
  have HRK := Lib.hid hrk; have HGN := Lib.hid hGn; have HGB := Lib.hid hGb; have HPD := Lib.hid hpd
  have HAC := Lib.hid (fun X => all_c W H nw cw nk ck aw ak X)
  obtain ⟨n0, n1, n2, n3, n4⟩ := HN.out.head
  have p0 := cell_of_blk B0.out (o := 0) rfl
  clear hw1 hE1 hnet hmap hrk hpd hGn hGb
  refine (callsIn_wide (n := 12)).1 ?_
  refine callsIn_of_wp_marks Tryz.func51 rfl trivial ?_ rfl
  simp only [Tryz.ntmps51, List.size_toArray, List.length_cons, List.length_nil, Nat.reduceAdd, Nat.reduceSub, Array.replicate_succ, Array.replicate_zero, List.push_toArray, List.append_toArray, List.nil_append, List.cons_append]
  refine wpIn_wide.2 ?_
  go_upto_region 1 with (first | (refine wp_allocRow rfl 78 rfl alloc_raft ?_) | fail)
  rw [← HW1.out]
  go_upto_region 2 with (first
    | (refine wpList_build rfl 78 _ rfl (by kernel_rfl) ?_; rw [show (Tryz.prog.built 78 (Array.map _ _).toList).getD #[] = A0 from HA0.out ▸ by kernel_rfl])
    | (refine wp_newRow rfl rfl 78 3 (.tmp 11) rfl rfl rfl alloc_raft A0 HI.out HS.out HO.out rfl rfl ?_; intro W2 hb2 hE2 hz2; have HB2 := Lib.hid hb2; have HE2 := Lib.hid hE2; have HZ2 := Lib.hid hz2; clear hb2 hE2 hz2)
    | fail)
  obtain ⟨B3, hB3⟩ : ∃ B3, B3 = w1.heap.size := ⟨_, rfl⟩
  have hb3 : w.heap.size + 2 ≤ B3 := by rw [hB3, HZ1.out]; exact Nat.le_refl _
  have hbz : w.heap.size + 1 < B3 := by omega
  rw [← hB3] at HB2 ⊢
  have HZ2' := Lib.hid (show W2.heap.size = B3 + 1 from by rw [HZ2.out, hB3])
  clear hB3
  have HR0 := Lib.hid (show RaftB W2 B3 W H (.slice aw nw cw) (.slice ak nk ck) no64 from by have h := HB2.out; rw [HA0.out] at h; exact h)
  have N2 := Lib.hid (HN.out.ext HE2.out); have M2 := Lib.hid (HM.out.ext HE2.out); have P2 := Lib.hid (block_ext HE2.out B0.out); have Q2 := Lib.hid (block_ext HE2.out BZ.out)
  have E2 := Lib.hid (HE1.out.trans HE2.out)
  obtain ⟨m0, m1, m2, m3, m4⟩ := N2.out.head
  have r0 := cell_of_blk P2.out (o := 0) rfl
  clear n0 n1 n2 n3 n4 p0 HB2 HZ2 HN HM B0 BZ HE1 HW1 HI HO HA0 HS
  go_wp2_with (first | (go_at_call 88; refine Calls.mono (HAC.out _) ?_; intro e Y5 h1; obtain ⟨h1, hy5⟩ := h1; subst h1; have HY5 := Lib.hid hy5; clear hy5) | fail)
  have HEY := Lib.hid (show Ext W2 Y5 from by rw [HY5.out]; exact (Ext.refl W2).alloc _)
  have B5P := Lib.hid (show Y5.heap[W2.heap.size]? = some (.cells #[.int .i64 (W : Int), .int .i64 (H : Int), .slice aw nw cw, .slice ak nk ck] 72 (0, 0)) from by rw [HY5.out]; exact heap_alloc_new W2 _)
  have R5 := Lib.hid (show RaftB Y5 B3 W H (.slice aw nw cw) (.slice ak nk ck) (lrg G (memL kn) F 0) from by rw [lrg_zero]; exact block_ext HEY.out HR0.out)
  have N5 := Lib.hid (N2.out.ext HEY.out); have M5 := Lib.hid (M2.out.ext HEY.out); have P5 := Lib.hid (block_ext HEY.out P2.out); have Q5 := Lib.hid (block_ext HEY.out Q2.out)
  have HK5 := Lib.hid (show KeepT [bn] w.heap.size 0 w Y5 from KeepT.ext (E2.out.trans HEY.out))
  have hz2 := HZ2'.out
  have hz5 : B3 + 1 < Y5.heap.size := by have := lt_of_blk B5P.out; omega
  have HSEQ := Lib.hid (all_seq W H nw cw nk ck aw ak 11 W2.heap.size [bn, B3] w.heap.size 0 Y5 (by omega) hW hH B5P.out (by simp; omega) (.inl (by decide)))
  clear m0 m1 m2 m3 m4 r0 HY5 HR0 N2 M2 P2 Q2 HAC HZ2' hz2
  refine (wpIn_wide (n := 12)).1 ?_
  refine wp_seqL1 (n := 12) (by omega) (gf := 116) (encs := encI) (ps := #[17]) (rs := [bn, B3]) (b := w.heap.size) (e := 0) rfl (enters_of Tryz.func116 (by kernel_rfl) rfl) HSEQ.out (Below.refl _ _) (fun _ => rfl) (by simp; omega)
    (fun k Y => (∃ rd', NetB Y bn W H (.slice aw nw cw) (.slice ak nk ck) mo rd') ∧ RaftB Y B3 W H (.slice aw nw cw) (.slice ak nk ck) (lrg G (memL kn) F k) ∧ KeepT [bn, B3] w.heap.size 0 Y5 Y) (fun q k Y => False) ?hI ?hIx ?h0 ?af ?assign ?body ?done ?stop
  case hI =>
    rintro s A B row ⟨⟨rd', h1⟩, h2, h3⟩ hg hr
    exact ⟨⟨rd', h1.turn hg hr⟩, cells_turn h2 hg hr, ownFrom_keepT (β := Unit) (Nat.le_refl _) () A B row h3 hg hr⟩
  case hIx => rintro q s A B row h hg hr; exact h
  case h0 => exact ⟨⟨_, N5.out⟩, R5.out, KeepT.refl _ _ _ _⟩
  case assign =>
    rintro l2 x A K hK
    dsimp only [encI]
    gi_wp2
    exact hK
  case body =>
    rintro l2 k x X hl2 hx ⟨⟨rd', hn⟩, hr, hK⟩
    obtain ⟨rfl, hk⟩ := range_at hx
    clear hx
    obtain ⟨X2, hX2⟩ : ∃ X2, X2 = X.alloc (.cells #[.int .i64 (x : Int)] 3) := ⟨_, rfl⟩
    have hE2 : Ext X X2 := by rw [hX2]; exact (Ext.refl X).alloc _
    have hKX : KeepT [bn] w.heap.size 0 w X := KeepT.comp HK5.out hK (fun r hr => by simp at hr ⊢; omega) (Nat.le_refl _)
    have hKX2 : KeepT [bn] w.heap.size 0 w X2 := hKX.trans (KeepT.ext hE2)
    have hmo5 := hK.low (g := mo) (by omega) (by simp; omega) hmo
    have hRow : Row3 X2 (.slice (some ⟨X.heap.size, 0, none⟩) 1 1) (natI [x]) := row3_one (by rw [hX2]; exact heap_alloc_new X _)
    have hn2 := hn.ext hE2
    have hSE := searchFree W H nw cw nk ck aw ak bn mo (.slice (some ⟨X.heap.size, 0, none⟩) 1 1) wn kn [x] hW hH G HGN.out HGB.out HPD.out (fre F) rd' X2 hn2 (fun Z hZ => HRK.out Z (KeepT.comp hKX2 hZ (fun r hr => .inl hr) hKX2.size)) (fun Z hZ => (hRow.keepT hZ (by decide) (fun r hr => by rw [List.mem_singleton] at hr; subst hr; exact not3 hn2.blk (by decide))).reads) (fun c hc => by simp at hc; omega) (by simp)
      (fun Z s h1 h2 hZ hc => by
        have hb := hZ.low (g := mo) (by have := hKX2.size; omega) (by simp; omega) (by have := hKX2.size; omega)
        have h := isFree_c bn mo n (F.map lkS) (lkS s) Z hc (((M5.out.same hmo5).ext hE2).same hb) (sm_lkS h1 h2)
        rw [show (!inF (F.map lkS) (lkS s)) = fre F s from by unfold fre inF; rw [decide_eq_decide.2 inF_map]] at h
        exact h)
    have HSE := Lib.hid hSE
    have HKX2 := Lib.hid (show KeepT [bn, B3] w.heap.size 0 X X2 from KeepT.ext hE2)
    have HR2 := Lib.hid (show RaftB X2 B3 W H (.slice aw nw cw) (.slice ak nk ck) (lrg G (memL kn) F x) from block_ext hE2 hr)
    have HX2 := Lib.hid hX2; have HK := Lib.hid hK; have HXZ := Lib.hid hKX.size; have HEX := Lib.hid hE2
    have p1 := cell_of_blk (hK.cells (by simp; omega) P5.out (by decide)) (o := 0) rfl
    have p2 := hn.head
    obtain ⟨fl, hfl⟩ : ∃ fl, fl = (find1 G 64 (memL kn) (fre F) [x]).2.isNone := ⟨_, rfl⟩
    have HFL := Lib.hid hfl
    clear hX2 hE2 hKX hKX2 hmo5 hRow hn2 hSE hr hK hn hfl
    gi_wp2_with fail
    rw [← HX2.out]
    refine ⟨trivial, (CallsIn.inRound l2 (callsIn_wide.2 HSE.out)).mono ?_⟩
    intro e V1 h1
    unfold SearchPost at h1
    obtain ⟨h1, hn1, hk1⟩ := h1
    obtain ⟨va, vn, vp, oo, fnd, h1, hmt⟩ := h1
    subst h1
    have hfn : (!fnd) = fl := by
      rw [HFL.out]
      cases hf : (find1 G 64 (memL kn) (fre F) [x]).2 with
      | none => rw [hf] at hmt; dsimp only at hmt; rw [hmt]; rfl
      | some r => rw [hf] at hmt; dsimp only at hmt; rw [hmt.1]; rfl
    have HFN := Lib.hid hfn
    have HN1 := Lib.hid hn1; have HK1 := Lib.hid hk1
    clear hmt hn1 hk1 hfn HSE p1 p2
    gi_upto_region 5 with fail
    obtain ⟨V3, hV3⟩ : ∃ V3, V3 = V1.alloc (.cells #[.slice va vn vp, .int .i64 oo] 60) := ⟨_, rfl⟩
    have hE3 : Ext V1 V3 := by rw [hV3]; exact (Ext.refl _).alloc _
    rw [← hV3]
    have HR3 := Lib.hid (show RaftB V3 B3 W H (.slice aw nw cw) (.slice ak nk ck) (lrg G (memL kn) F x) from block_ext hE3 (HK1.out.cells (by simp; omega) HR2.out (by decide)))
    have HN3 := Lib.hid (HN1.out.ext hE3)
    have HK3 := Lib.hid (show KeepT [bn, B3] w.heap.size 0 X V3 from (KeepT.comp HKX2.out HK1.out (fun r hr => .inl (by simp at hr ⊢; omega)) (HEX.out.size)).trans (KeepT.ext hE3))
    clear hV3 hE3
    have c3 := HR3.out.cell (lrg_len _ _ _ _) (c := x) (by omega)
    have f3 := frozen_of_blk HR3.out (4 + x)
    have h1 : (0 : Int) ≤ (x : Int) := by omega
    have h2 : (x : Int) < 64 := by omega
    have h3 : (x : Int).toNat = x := by omega
    have HS3 := Lib.hid (HR3.out.set x fl)
    rw [lrg_set (by omega) HFL.out] at HS3
    have HN4 := Lib.hid (show NetB (V3.setCell ⟨B3, 4 + x, none⟩ (.bool fl)) bn W H (.slice aw nw cw) (.slice ak nk ck) mo (find1 G 64 (memL kn) (fre F) [x]).1.rd from ⟨HN3.out.len, (other_blk (grown_set _ _ _ _) (by omega) (lt_of_blk HN3.out.blk)).trans HN3.out.blk⟩)
    generalize isR (lrg G (memL kn) F x) x = b0 at *
    gi_wp2
    rw [HFN.out]
    have k4 := HK3.out.trans (KeepT.set (rs := [bn, B3]) (b := w.heap.size) (e := 0) V3 (g := B3) (o := 4 + x) (by simp) (.bool fl))
    exact ⟨k4, ⟨_, HN4.out⟩, HS3.out, HK.out.trans k4⟩
  case done =>
    rintro D X hD ⟨⟨rd', hn⟩, hr, hK⟩ hDW
    rw [List.length_range] at hr
    obtain ⟨A, hA⟩ : ∃ A, A = (rc W H (.slice aw nw cw) (.slice ak nk ck) (lrg G (memL kn) F (W * H))).toArray := ⟨_, rfl⟩
    have hIA : IsRaft A W H (.slice aw nw cw) (.slice ak nk ck) (lrg G (memL kn) F (W * H)) := ⟨hA, lrg_len _ _ _ _⟩
    have HIA := Lib.hid hIA; have HIN := Lib.hid hIA.info; have HON := Lib.hid hIA.one; have HSZ := Lib.hid (show zR.size = A.size from by rw [hIA.size]; rfl)
    have HRB := Lib.hid (show X.heap[B3]? = some (.cells A 78 (0, 0)) from by rw [hA]; exact hr)
    have HZQ := Lib.hid (hK.cells (by simp; omega) Q5.out (by decide))
    have HD := Lib.hid hDW; have HN := Lib.hid hn
    have HKF := Lib.hid (KeepT.comp HK5.out hK (fun r hr => by simp at hr ⊢; omega) (Nat.le_refl _))
    clear hn hr hK hDW hA hIA
    go_wp2_with (first | (refine wpList_load_row rfl 78 _ rfl _ rfl _ _ _ _ HRB.out Tryz.underlying78 rfl HIN.out ?_) | (refine wpList_store_row rfl 78 _ _ rfl (w.heap.size + 1) A rfl rfl _ _ HZQ.out HIN.out HSZ.out HON.out ?_) | fail)
    have hzq := setRow_heap' X (w.heap.size + 1) A zR 78 HZQ.out
    refine ⟨by simp, .inl ⟨_, _, rfl, run_takeDeferred ((setRow_other (by omega) A).trans HD.out), ?_⟩⟩
    refine ⟨.agg A, ?_, A, rd', rfl, HIA.out, ⟨HN.out.len, (World.putObj_heap_other (by omega)).trans ((setRow_other (by omega) A).trans HN.out.blk)⟩, (HKF.out.setRow (.inr (by omega)) A).grown_in (grownBy_putObj' _ D (.deferred none)) (fun g e => by cases e; exact .inr (by omega))⟩
    exact results_cell_row (P := Tryz.prog) (fn := Tryz.f51) Tryz.results51 _ _ _ _ _ _ _ rfl ((World.putObj_heap_other (by omega)).trans hzq) Tryz.underlying78 rfl HIN.out
  case stop => rintro D q k X hD hk h hDW; exact h.elim
end Go.Proofs.YtppjnpempgpkaaaGreat
