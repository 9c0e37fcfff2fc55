/- The iterator neighbours; between, by its contract. turned, end, longer, and the net in memory: isFree, isUsed, by their contracts. -/
import Derived.Test.YtppjnpempgpkaaaGreatB5
import Derived.Test.YtppjnpempgpkaaaGreatI
import Derived.Test.YtppjnpempgpkaaaGreatM
namespace Go.Proofs.YtppjnpempgpkaaaGreat
open Go.RowKit Go.Shelf
set_option linter.unusedVariables false
set_option linter.unusedSimpArgs false
attribute [local go_sem] Oper.semAt_some
theorem neighbours_c (W H nw cw nk ck : Nat) (aw ak : Option Addr) (c : Nat) (w : World) : Calls Tryz.prog 84 #[.agg #[.int .i64 (W : Int), .int .i64 (H : Int), .slice aw nw cw, .slice ak nk ck], .int .i64 (c : Int)] w fun e w' =>
    e = .returned (.func (.func 112) #[] #[.pointer (some ⟨w.heap.size + 1, 0, none⟩), .pointer (some ⟨w.heap.size, 0, none⟩)]) ∧ w' = (w.alloc (.cells #[.int .i64 (W : Int), .int .i64 (H : Int), .slice aw nw cw, .slice ak nk ck] 72)).alloc (.cells #[.int .i64 (c : Int)] 3) := by
  go_enter Tryz.func84, Tryz.ntmps84
  go_wp2
  go_ret
  exact ⟨rfl, rfl⟩
/-- A side of a cell, and what is behind it. -/
def encN (W H c : Nat) (k : Nat) : Array Value := #[.agg #[.int .i64 (c : Int), .int .i64 (k : Int)], .int .i64 (nx W H c k)]
theorem four_at {k x : Nat} (h : [0, 1, 2, 3][k]? = some x) : x = k ∧ k < 4 := by
  match k, h with
  | 0, h => simp at h; omega
  | 1, h => simp at h; omega
  | 2, h => simp at h; omega
  | 3, h => simp at h; omega
  | k + 4, h => simp at h
theorem at_four {k : Nat} (h : k < 4) : [0, 1, 2, 3][k]? = some k := by
  match k, h with
  | 0, h => rfl
  | 1, h => rfl
  | 2, h => rfl
  | 3, h => rfl
set_option maxRecDepth 100000 in
set_option maxHeartbeats 4000000 in
theorem neighbours_seq (W H nw cw nk ck : Nat) (aw ak : Option Addr) (c f Bc Bp : Nat) (rs : List Nat) (b e : Nat) (w : World) (hf : 1 ≤ f) (hW : 1 ≤ W ∧ W ≤ 8) (hH : 1 ≤ H ∧ H ≤ 8) (hcn : c < W * H) (hc : Boxed w Bc 3 (.int .i64 (c : Int))) (hp : w.heap[Bp]? = some (.cells #[.int .i64 (W : Int), .int .i64 (H : Int), .slice aw nw cw, .slice ak nk ck] 72 (0, 0))) (hnc : Bc ∉ rs) (hnp : Bp ∉ rs) (hrs : ∀ r ∈ rs, r < w.heap.size) (he : 3 ≠ e ∧ 72 ≠ e ∧ 124 ≠ e) :
    SeqL f 112 #[.pointer (some ⟨Bc, 0, none⟩), .pointer (some ⟨Bp, 0, none⟩)] (encN W H c) rs b e [0, 1, 2, 3] w := by
  intro l J Jx W₁ hW₁ hJ hJx hY h0
  have HY := Lib.hid hY; have HJ := Lib.hid hJ; have H0 := Lib.hid h0; have HJX := Lib.hid hJx
  have HC := Lib.hid (show W₁.heap[Bc]? = some (.cells #[.int .i64 (c : Int)] 3 (0, 0)) from block_ext hW₁ hc); have HP := Lib.hid (block_ext hW₁ hp)
  have HB := Lib.hid (fun (k : Nat) (hk : k < 4) (X : World) => behind_c W H nw cw nk ck aw ak c k X hW hH hcn hk)
  have lc := lt_of_blk HC.out; have lp := lt_of_blk HP.out; have lw := hW₁.size; have HNC := Lib.hid hnc; have HNP := Lib.hid hnp; have HRS := Lib.hid hrs; have HE := Lib.hid he
  clear hY hJ h0 hJx hc hp hW₁ hnc hnp hrs he
  refine callsIn_of_wp Tryz.func112 rfl trivial ?_ rfl
  simp only [Tryz.ntmps112, List.size_toArray, List.length_cons, List.length_nil, Nat.reduceAdd, Nat.reduceSub, Array.replicate_succ, Array.replicate_zero, List.push_toArray, List.append_toArray, List.nil_append, List.cons_append]
  gi_wp2
  gi_loopw [6] (fun s wr => ∃ k : Nat, k ≤ 4 ∧ s = .int .i64 (k : Int) ∧ Hid (J k wr) ∧ Hid (wr.heap[Bc]? = some (.cells #[.int .i64 (c : Int)] 3 (0, 0))) ∧ Hid (wr.heap[Bp]? = some (.cells #[.int .i64 (W : Int), .int .i64 (H : Int), .slice aw nw cw, .slice ak nk ck] 72 (0, 0))) ∧ Hid (w.heap.size ≤ wr.heap.size))
    (fun s wr => 4 - (intOf s).toNat)
  case atStart => exact ⟨0, by omega, by go_num, H0, HC, HP, Lib.hid lw⟩
  case round =>
    obtain ⟨k, hk, rfl, hJw, hC, hP, hSZ⟩ := hrel
    by_cases hlt : k < 4
    · have hka : (0 : Int) ≤ (k : Int) := by omega
      have hkb : (k : Int) < 4 := by omega
      have c1 := cell_of_blk hC.out (o := 0) rfl
      obtain ⟨wl, hwl⟩ : ∃ wl, wl = wr.alloc (.cells #[.int .i64 (c : Int), .int .i64 (k : Int)] 124) := ⟨_, rfl⟩
      have hEl : Ext wr wl := by rw [hwl]; exact (Ext.refl wr).alloc _
      have hbl : wl.heap[wr.heap.size]? = some (.cells #[.int .i64 (c : Int), .int .i64 (k : Int)] 124 (0, 0)) := by rw [hwl]; exact heap_alloc_new wr _
      obtain ⟨d0, d1⟩ := cells2 hbl
      obtain ⟨p0, p1, p2, p3⟩ := cells4 (block_ext hEl hP.out)
      have HWL := Lib.hid hwl; have HEL := Lib.hid hEl
      have HBk := Lib.hid (fun (X : World) => HB.out k hlt X)
      have HBL := Lib.hid hbl; have HPL := Lib.hid (block_ext hEl hP.out); have HCL := Lib.hid (block_ext hEl hC.out)
      have HJL := Lib.hid (abides HJ.out hJw.out hEl)
      have NL := Lib.hid (show wr.heap.size ∉ rs from fun h => by have := HRS.out _ h; have := hSZ.out; omega)
      clear hwl hbl d0 d1 p0 p1 p2 p3
      gi_wp2
      rw [← HWL.out]
      refine wpIn_order (tk := takeB) (fun f => trivial) (fun X : World => X.heap[wr.heap.size]? = some (.cells #[.int .i64 (c : Int), .int .i64 (k : Int)] 124 (0, 0)) ∧ X.heap[Bp]? = some (.cells #[.int .i64 (W : Int), .int .i64 (H : Int), .slice aw nw cw, .slice ak nk ck] 72 (0, 0)) ∧ X.heap[Bc]? = some (.cells #[.int .i64 (c : Int)] 3 (0, 0))) [0, 1, 2, 3, 4, 5, 6] (by kernel_rfl) (by kernel_rfl) (by kernel_rfl) (by exact ⟨HBL.out, HPL.out, HCL.out⟩) (fun hHeld => ?_)
      simp only [opsIn, List.filterMap_cons, List.filterMap_nil, List.getElem?_toArray, List.getElem?_cons_succ, List.getElem?_cons_zero]
      refine' textI_chunk 4 (by kernel_rfl) hHeld ?ck1 ?cr1
      case ck1 =>
        intro W hSw
        have hSW := hSw
        try dsimp only at hSW
        clear hSw
        obtain ⟨s1, s2, s3⟩ := hSW
        obtain ⟨d0, d1⟩ := cells2 s1
        obtain ⟨p0, p1, p2, p3⟩ := cells4 s2
        simp only [List.take_succ_cons, List.take_zero, List.drop_succ_cons, List.drop_zero]
        repeat (go_big_quiet_step (fail))
        exact wpQuiet_nil rfl
      simp only [List.take_succ_cons, List.take_zero, List.drop_succ_cons, List.drop_zero]
      refine textI_call (by rfl) (by rfl) (fun K hK => ?_)
      go_simp
      refine ⟨trivial, (callsIn_wide.2 (HBk.out _)).mono ?_⟩
      rintro e w5 ⟨rfl, hb⟩
      have HB5 := Lib.hid hb
      all_goals (try (gi_wp2_with fail))
      refine hK.out _ _ (by exact ⟨block_ext HB5.out hHeld.1, block_ext HB5.out hHeld.2.1, block_ext HB5.out hHeld.2.2⟩) (fun hHeld => ?_)
      clear hK K hb
      try simp only [Act.put, List.setIfInBounds_toArray, List.set_cons_zero, List.set_cons_succ]
      obtain ⟨fn, tmps, assign, body, hyy, hR⟩ := HY.out k k w5 (at_four hlt) (abides HJ.out HJL.out ((Ext.refl _).drew.trans HB5.out))
      have HR := Lib.hid hR; clear hR
      simp only [encN] at hyy
      refine textI_call (by rfl) (by rfl) (fun K hK => ?_)
      go_simp
      refine RoundIn.mono HR.out ?_
      rintro e v1 (⟨rfl, hJn, hKn⟩ | ⟨rfl, hJn, hKn⟩)
      · have HJ1 := Lib.hid hJn; have HK1 := Lib.hid hKn
        clear hyy HR hJn hKn
        all_goals (try (gi_wp2_with fail))
        refine hK.out _ _ (by exact ⟨HK1.out.cells NL.out hHeld.1 HE.out.2.2, HK1.out.cells HNP.out hHeld.2.1 HE.out.2.1, HK1.out.cells HNC.out hHeld.2.2 HE.out.1⟩) (fun hHeld => ?_)
        clear hK K fn tmps assign body
        try simp only [Act.put, List.setIfInBounds_toArray, List.set_cons_zero, List.set_cons_succ]
        refine' textI_chunk 1 (by kernel_rfl) hHeld ?ck2 ?cr2
        case ck2 =>
          intro W hSw
          have hSW := hSw
          try dsimp only at hSW
          clear hSw
          obtain ⟨s1, s2, s3⟩ := hSW
          obtain ⟨d0, d1⟩ := cells2 s1
          obtain ⟨p0, p1, p2, p3⟩ := cells4 s2
          simp only [List.take_succ_cons, List.take_zero, List.drop_succ_cons, List.drop_zero]
          repeat (go_big_quiet_step (fail))
          exact wpQuiet_nil rfl
        simp only [List.take_succ_cons, List.take_zero, List.drop_succ_cons, List.drop_zero]
        refine textI_done ?_
        have hP1 := Lib.hid hHeld.2.1; have hC1 := Lib.hid hHeld.2.2
        have hS1 := Lib.hid (show w.heap.size ≤ v1.heap.size from by have := HK1.out.size; have := HB5.out.size; have := HEL.out.size; have := hSZ.out; simp at *; omega)
        clear hHeld
        gi_wp2
        go_roundw
        case rel => exact ⟨k + 1, by omega, by go_num, HJ1, hC1, hP1, hS1⟩
        case measure => simp [intOf]; omega
      · have HJ1 := Lib.hid hJn; have HK1 := Lib.hid hKn
        clear hyy HR hJn hKn
        all_goals (try (gi_wp2_with fail))
        refine hK.out _ _ (by exact ⟨HK1.out _ _ _ _ hHeld.1 NL.out (.inl HE.out.2.2), HK1.out _ _ _ _ hHeld.2.1 HNP.out (.inl HE.out.2.1), HK1.out _ _ _ _ hHeld.2.2 HNC.out (.inl HE.out.1)⟩) (fun hHeld => ?_)
        clear hK K fn tmps assign body
        try simp only [Act.put, List.setIfInBounds_toArray, List.set_cons_zero, List.set_cons_succ]
        refine' textI_chunk 1 (by kernel_rfl) hHeld ?ck3 ?cr3
        case ck3 =>
          intro W hSw
          have hSW := hSw
          try dsimp only at hSW
          clear hSw
          obtain ⟨s1, s2, s3⟩ := hSW
          obtain ⟨d0, d1⟩ := cells2 s1
          obtain ⟨p0, p1, p2, p3⟩ := cells4 s2
          simp only [List.take_succ_cons, List.take_zero, List.drop_succ_cons, List.drop_zero]
          repeat (go_big_quiet_step (fail))
          exact wpQuiet_nil rfl
        simp only [List.take_succ_cons, List.take_zero, List.drop_succ_cons, List.drop_zero]
        refine textI_done ?_
        clear hHeld
        gi_wp2
        refine bodyPost_ret (results_none rfl _ _ _) rfl ?_
        exact ⟨⟨_, rfl⟩, .inr ⟨k, hlt, HJ1.out⟩⟩
    · obtain rfl : k = 4 := by omega
      gi_wp2
      go_end0
      exact ⟨⟨_, rfl⟩, .inl hJw.out⟩
/-- Which side of a cell another one is behind; 4: none. -/
def btI (W H c : Nat) (d : Int) : Nat := if nx W H c 0 = d then 0 else if nx W H c 1 = d then 1 else if nx W H c 2 = d then 2 else if nx W H c 3 = d then 3 else 4
theorem btI_to {W H c : Nat} {d : Int} {k : Nat} (hk : k < 4) (h : nx W H c k = d) (hno : ∀ j, j < k → nx W H c j ≠ d) : btI W H c d = k := by
  unfold btI
  have hk' : k = 0 ∨ k = 1 ∨ k = 2 ∨ k = 3 := by omega
  rcases hk' with rfl | rfl | rfl | rfl
  · rw [if_pos h]
  · rw [if_neg (hno 0 (by omega)), if_pos h]
  · rw [if_neg (hno 0 (by omega)), if_neg (hno 1 (by omega)), if_pos h]
  · rw [if_neg (hno 0 (by omega)), if_neg (hno 1 (by omega)), if_neg (hno 2 (by omega)), if_pos h]
theorem btI_no {W H c : Nat} {d : Int} (hno : ∀ j, j < 4 → nx W H c j ≠ d) : btI W H c d = 4 := by
  unfold btI
  rw [if_neg (hno 0 (by omega)), if_neg (hno 1 (by omega)), if_neg (hno 2 (by omega)), if_neg (hno 3 (by omega))]
set_option maxRecDepth 100000 in
set_option maxHeartbeats 4000000 in
/-- between hands back the side, and whether there is one. -/
theorem between_c (W H nw cw nk ck : Nat) (aw ak : Option Addr) (c : Nat) (d : Int) (w : World) (hW : 1 ≤ W ∧ W ≤ 8) (hH : 1 ≤ H ∧ H ≤ 8) (hcn : c < W * H) :
    Calls Tryz.prog 95 #[.agg #[.int .i64 (W : Int), .int .i64 (H : Int), .slice aw nw cw, .slice ak nk ck], .int .i64 (c : Int), .int .i64 d] w fun e w' => e = .returned (.tuple #[.agg #[.int .i64 (if btI W H c d < 4 then (c : Int) else 0), .int .i64 (if btI W H c d < 4 then (btI W H c d : Int) else 0)], .bool (decide (btI W H c d < 4))]) ∧ Ext w w' := by
  obtain ⟨bt, hbt⟩ : ∃ bt, bt = btI W H c d := ⟨_, rfl⟩
  rw [← hbt]
  obtain ⟨rc, hrc⟩ : ∃ rc : Int, rc = if bt < 4 then (c : Int) else 0 := ⟨_, rfl⟩
  obtain ⟨rk, hrk⟩ : ∃ rk : Int, rk = if bt < 4 then (bt : Int) else 0 := ⟨_, rfl⟩
  obtain ⟨rb, hrb⟩ : ∃ rb : Bool, rb = decide (bt < 4) := ⟨_, rfl⟩
  rw [← hrc, ← hrk, ← hrb]
  have HBT := Lib.hid hbt; have HRC := Lib.hid hrc; have HRK := Lib.hid hrk; have HRB := Lib.hid hrb
  clear hbt hrc hrk hrb
  refine (callsIn_wide (n := 12)).1 ?_
  have H84 := Lib.hid (fun X => neighbours_c W H nw cw nk ck aw ak c X)
  obtain ⟨w4, hw4⟩ : ∃ w4, w4 = (((w.alloc (.cells #[.int .i64 (W : Int), .int .i64 (H : Int), .slice aw nw cw, .slice ak nk ck] 72)).alloc (.cells #[.int .i64 d] 3)).alloc (.cells #[.int .i64 0, .int .i64 0] 124)).alloc (.cells #[.bool false] 4) := ⟨_, rfl⟩
  have hz4 : w4.heap.size = w.heap.size + 4 := by rw [hw4]; simp
  have E4 : Ext w w4 := by rw [hw4]; exact ((((Ext.refl w).alloc _).alloc _).alloc _).alloc _
  have b1 : w4.heap[w.heap.size + 1]? = some (.cells #[.int .i64 d] 3 (0, 0)) := by
    rw [hw4]; exact block_ext (((Ext.refl _).alloc _).alloc _) (heap_alloc_at (w.alloc _) _ (by simp))
  have b2 : w4.heap[w.heap.size + 1 + 1]? = some (.cells #[.int .i64 0, .int .i64 0] 124 (0, 0)) := by
    rw [hw4]; exact block_ext ((Ext.refl _).alloc _) (heap_alloc_at ((w.alloc _).alloc _) _ (by simp))
  have b3 : w4.heap[w.heap.size + 1 + 1 + 1]? = some (.cells #[.bool false] 4 (0, 0)) := by
    rw [hw4]; exact heap_alloc_at (((w.alloc _).alloc _).alloc _) _ (by simp)
  obtain ⟨w6, hw6⟩ : ∃ w6, w6 = (w4.alloc (.cells #[.int .i64 (W : Int), .int .i64 (H : Int), .slice aw nw cw, .slice ak nk ck] 72)).alloc (.cells #[.int .i64 (c : Int)] 3) := ⟨_, rfl⟩
  have hz6 : w6.heap.size = w.heap.size + 6 := by rw [hw6]; simp; omega
  have E6 : Ext w4 w6 := by rw [hw6]; exact ((Ext.refl w4).alloc _).alloc _
  have b4 : w6.heap[w.heap.size + 4]? = some (.cells #[.int .i64 (W : Int), .int .i64 (H : Int), .slice aw nw cw, .slice ak nk ck] 72 (0, 0)) := by
    rw [hw6]; exact block_ext ((Ext.refl _).alloc _) (heap_alloc_at w4 _ hz4.symm)
  have b5 : w6.heap[w.heap.size + 4 + 1]? = some (.cells #[.int .i64 (c : Int)] 3 (0, 0)) := by
    rw [hw6]; exact heap_alloc_at (w4.alloc _) _ (by simp; omega)
  have B1 := Lib.hid (block_ext E6 b1); have B2 := Lib.hid (block_ext E6 b2); have B3 := Lib.hid (block_ext E6 b3)
  have E06 := Lib.hid (E4.trans E6)
  have HSEQ := Lib.hid (neighbours_seq W H nw cw nk ck aw ak c 11 (w.heap.size + 4 + 1) (w.heap.size + 4) [w.heap.size + 1 + 1, w.heap.size + 1 + 1 + 1] w.heap.size 0 w6 (by omega) hW hH hcn b5 b4 (by simp) (by simp) (by simp; omega) (by decide))
  have HW4 := Lib.hid hw4; have HW6 := Lib.hid hw6; have HZ4 := Lib.hid hz4; have HZ6 := Lib.hid hz6
  clear hw4 hw6 hz4 hz6 E4 E6 b1 b2 b3 b4 b5
  refine callsIn_of_wp_marks Tryz.func95 rfl trivial ?_ rfl
  simp only [Tryz.ntmps95, List.size_toArray, List.length_cons, List.length_nil, Nat.reduceAdd, Nat.reduceSub, Array.replicate_succ, Array.replicate_zero, List.push_toArray, List.append_toArray, List.nil_append, List.cons_append]
  gi_wp2_with fail
  rw [← HW4.out]
  refine ⟨trivial, (callsIn_wide.2 (H84.out _)).mono ?_⟩
  rintro e w1 ⟨rfl, rfl⟩
  rw [← HW6.out, HZ4.out]
  gi_wp2_with fail
  refine wp_seqLB (n := 12) (by omega) (gf := 112) (encs := encN W H c) (ps := #[13, 14]) (rs := [w.heap.size + 1 + 1, w.heap.size + 1 + 1 + 1]) (b := w.heap.size) (e := 0) rfl (enters_of Tryz.func112 (by kernel_rfl) rfl) HSEQ.out (Below.refl _ _) (fun _ => rfl) (by have := HZ6.out; simp; omega)
    (fun k X => (∀ j, j < k → nx W H c j ≠ d) ∧ X.heap[w.heap.size + 1 + 1]? = some (.cells #[.int .i64 0, .int .i64 0] 124 (0, 0)) ∧ X.heap[w.heap.size + 1 + 1 + 1]? = some (.cells #[.bool false] 4 (0, 0)) ∧ KeepT [w.heap.size + 1 + 1, w.heap.size + 1 + 1 + 1] w.heap.size 0 w6 X)
    (fun q k X => q = .ret ∧ (∀ j, j < k - 1 → nx W H c j ≠ d) ∧ nx W H c (k - 1) = d ∧ X.heap[w.heap.size + 1 + 1]? = some (.cells #[.int .i64 (c : Int), .int .i64 ((k - 1 : Nat) : Int)] 124 (0, 0)) ∧ X.heap[w.heap.size + 1 + 1 + 1]? = some (.cells #[.bool true] 4 (0, 0)) ∧ KeepT [w.heap.size + 1 + 1, w.heap.size + 1 + 1 + 1] w.heap.size 0 w6 X) ?hI ?hIx ?h0 ?hIE 124 (fun k => #[.int .i64 (c : Int), .int .i64 (k : Int)]) ?af ?assign ?body ?done ?stop
  case hI =>
    rintro s A B row ⟨h1, h2, h3, h4⟩ hg hr
    exact ⟨h1, cells_turn h2 hg hr, cells_turn h3 hg hr, ownFrom_keepT (β := Unit) (Nat.le_refl _) () A B row h4 hg hr⟩
  case hIx =>
    rintro q s A B row ⟨hq, h0, h1, h2, h3, h4⟩ hg hr
    exact ⟨hq, h0, h1, cells_turn h2 hg hr, cells_turn h3 hg hr, ownFrom_keepT (β := Unit) (Nat.le_refl _) () A B row h4 hg hr⟩
  case h0 => exact ⟨fun j hj => by omega, B2.out, B3.out, KeepT.refl _ _ _ _⟩
  case hIE =>
    rintro k X X' ⟨h1, h2, h3, h4⟩ hE
    exact ⟨h1, block_ext hE h2, block_ext hE h3, h4.trans (KeepT.ext hE)⟩
  case assign =>
    rintro l2 x X B K hB hK
    dsimp only [encN]
    gi_wp2
    rw [← hB]
    exact hK
  case body =>
    rintro l2 k x Bx X hl2 hx ⟨hno, h2, h3, hK⟩ hBx hbx
    obtain ⟨rfl, hk4⟩ := four_at hx
    repeat (rename_i q; clear q)
    obtain ⟨s0, s1⟩ := cells2 hbx
    have c1 := cell_of_blk (hK.cells (by simp) B1.out (by decide)) (o := 0) rfl
    obtain ⟨r0, r1⟩ := cells2 h2
    have r2 := cell_of_blk h3 (o := 0) rfl
    have f0 := frozen_of_blk h2 0
    have f1 := frozen_of_blk h2 1
    have f2 := frozen_of_blk h3 0
    have HNO := Lib.hid hno; have HKX := Lib.hid hK; have H2 := Lib.hid h2; have H3 := Lib.hid h3
    have HZ := HZ6.out
    have HXL := Lib.hid (lt_of_blk hbx)
    have nB1 : Bx ≠ w.heap.size + 1 + 1 := by omega
    have nB2 : Bx ≠ w.heap.size + 1 + 1 + 1 := by omega
    clear hno hK h2 h3 hbx hx
    obtain ⟨v, hv⟩ : ∃ v, v = nx W H c x := ⟨_, rfl⟩
    have HV := Lib.hid hv
    rw [← hv]
    clear hv
    by_cases he : v = d
    · have hd : (v == d) = true := by simp [he]
      have hd2 : decide (v = d) = true := by simp [he]
      have HE := Lib.hid he
      clear he
      gi_wp2
      have hk1 : KeepT [w.heap.size + 1 + 1, w.heap.size + 1 + 1 + 1] w.heap.size 0 X (((X.setCell ⟨w.heap.size + 1 + 1, 0, none⟩ (.int .i64 (c : Int))).setCell ⟨w.heap.size + 1 + 1, 1, none⟩ (.int .i64 (x : Int))).setCell ⟨w.heap.size + 1 + 1 + 1, 0, none⟩ (.bool true)) :=
        ((KeepT.set _ (by simp) _).trans (KeepT.set _ (by simp) _)).trans (KeepT.set _ (by simp) _)
      have hs2 := set2 H2.out (.int .i64 (c : Int)) (.int .i64 (x : Int))
      have g3 : ((X.setCell ⟨w.heap.size + 1 + 1, 0, none⟩ (.int .i64 (c : Int))).setCell ⟨w.heap.size + 1 + 1, 1, none⟩ (.int .i64 (x : Int))).heap[w.heap.size + 1 + 1 + 1]? = some (.cells #[.bool false] 4 (0, 0)) :=
        (other_blk (grown_set _ _ _ _) (by omega) (lt_of_blk ((other_blk (grown_set _ _ _ _) (by omega) (lt_of_blk H3.out)).trans H3.out))).trans ((other_blk (grown_set _ _ _ _) (by omega) (lt_of_blk H3.out)).trans H3.out)
      refine ⟨hk1, rfl, fun j hj => HNO.out j (by omega), ?_, ?_, ?_, HKX.out.trans hk1⟩
      · rw [Nat.add_sub_cancel, ← HV.out]; exact HE.out
      · rw [Nat.add_sub_cancel]
        exact (other_blk (grown_set _ _ _ _) (by omega) (lt_of_blk hs2)).trans hs2
      · exact set_blk (cs := [.bool false]) g3 (.bool true)
    · have hd : (v == d) = false := by simp [he]
      have hd2 : decide (v = d) = false := by simp [he]
      have HE := Lib.hid he
      clear he
      gi_wp2
      refine ⟨KeepT.refl _ _ _ _, fun j hj => ?_, H2.out, H3.out, HKX.out⟩
      by_cases e : j = x
      · subst e; rw [← HV.out]; exact HE.out
      · exact HNO.out j (by omega)
  case done =>
    rintro D X hD ⟨hno, h2, h3, hK⟩ hDW
    have hnD2 : D ≠ w.heap.size + 1 + 1 := by have := HZ6.out; omega
    have hnD3 : D ≠ w.heap.size + 1 + 1 + 1 := by have := HZ6.out; omega
    have hbt : bt = 4 := by rw [HBT.out]; exact btI_no hno
    have e1 : rc = 0 := by rw [HRC.out, hbt]; rfl
    have e2 : rk = 0 := by rw [HRK.out, hbt]; rfl
    have e3 : rb = false := by rw [HRB.out, hbt]; rfl
    have HE1 := Lib.hid e1; have HE2 := Lib.hid e2; have HE3 := Lib.hid e3
    obtain ⟨r0, r1⟩ := cells2 h2
    have r2 := cell_of_blk h3 (o := 0) rfl
    have f0 := frozen_of_blk h2 0
    have f1 := frozen_of_blk h2 1
    have f2 := frozen_of_blk h3 0
    have hs2 := set2 h2 (.int .i64 0) (.int .i64 0)
    have g3 : ((X.setCell ⟨w.heap.size + 1 + 1, 0, none⟩ (.int .i64 0)).setCell ⟨w.heap.size + 1 + 1, 1, none⟩ (.int .i64 0)).heap[w.heap.size + 1 + 1 + 1]? = some (.cells #[.bool false] 4 (0, 0)) :=
      (other_blk (grown_set _ _ _ _) (by omega) (lt_of_blk ((other_blk (grown_set _ _ _ _) (by omega) (lt_of_blk h3)).trans h3))).trans ((other_blk (grown_set _ _ _ _) (by omega) (lt_of_blk h3)).trans h3)
    have G2 := Lib.hid ((other_blk (grown_set _ (w.heap.size + 1 + 1 + 1) 0 (.bool false)) (by omega) (lt_of_blk hs2)).trans hs2)
    have G3 := Lib.hid (set_blk (cs := [.bool false]) g3 (o := 0) (.bool false))
    have hk1 : KeepT [w.heap.size + 1 + 1, w.heap.size + 1 + 1 + 1] w.heap.size 0 X (((X.setCell ⟨w.heap.size + 1 + 1, 0, none⟩ (.int .i64 0)).setCell ⟨w.heap.size + 1 + 1, 1, none⟩ (.int .i64 0)).setCell ⟨w.heap.size + 1 + 1 + 1, 0, none⟩ (.bool false)) :=
      ((KeepT.set _ (by simp) _).trans (KeepT.set _ (by simp) _)).trans (KeepT.set _ (by simp) _)
    have GD := Lib.hid (hk1.blkN (by simp; omega) hDW rfl)
    have GE := Lib.hid (KeepT.below E06.out (hK.trans hk1) (by simp; omega) (Nat.le_refl _))
    clear hno h2 h3 hK hDW hbt e1 e2 e3 hs2 g3 hk1
    gi_wp2
    refine ⟨by simp, .inl ⟨_, _, rfl, run_takeDeferred GD.out, ?_⟩⟩
    obtain ⟨q0, q1⟩ := cells2 ((World.putObj_heap_other (o := .deferred none) (fun e => hnD2 e.symm)).trans G2.out)
    have q2 := cell_of_blk ((World.putObj_heap_other (o := .deferred none) (fun e => hnD3 e.symm)).trans G3.out) (o := 0) rfl
    refine ⟨_, by simp [results, Tryz.results95, go_sem, q0, q1, q2]; rfl, by rw [HE1.out, HE2.out, HE3.out], ?_⟩
    have h := GE.out
    exact ⟨h.os, h.tape, h.output, by have := h.size; simpa [World.putObj] using this, fun k hk => by rw [World.putObj_heap_other (by have := HZ6.out; omega)]; exact h.block k hk⟩
  case stop =>
    rintro D q k X hD hk ⟨rfl, hno, hyes, h2, h3, hK⟩ hDW
    have hnD2 : D ≠ w.heap.size + 1 + 1 := by have := HZ6.out; omega
    have hnD3 : D ≠ w.heap.size + 1 + 1 + 1 := by have := HZ6.out; omega
    have hk4 : k < 4 := hk
    rw [Nat.add_sub_cancel] at hno hyes h2
    have hbt : bt = k := by rw [HBT.out]; exact btI_to hk4 hyes hno
    have e1 : rc = (c : Int) := by rw [HRC.out, hbt, if_pos hk4]
    have e2 : rk = (k : Int) := by rw [HRK.out, hbt, if_pos hk4]
    have e3 : rb = true := by rw [HRB.out, hbt]; exact decide_eq_true hk4
    have HE1 := Lib.hid e1; have HE2 := Lib.hid e2; have HE3 := Lib.hid e3
    have G2 := Lib.hid h2; have G3 := Lib.hid h3; have GD := Lib.hid hDW
    have GE := Lib.hid (KeepT.below E06.out hK (by simp; omega) (Nat.le_refl _))
    clear hno h2 h3 hK hDW hbt e1 e2 e3 hyes
    gi_wp2
    refine ⟨by simp, .inl ⟨_, _, rfl, run_takeDeferred GD.out, ?_⟩⟩
    obtain ⟨q0, q1⟩ := cells2 ((World.putObj_heap_other (o := .deferred none) (fun e => hnD2 e.symm)).trans G2.out)
    have q2 := cell_of_blk ((World.putObj_heap_other (o := .deferred none) (fun e => hnD3 e.symm)).trans G3.out) (o := 0) rfl
    refine ⟨_, by simp [results, Tryz.results95, go_sem, q0, q1, q2]; rfl, by rw [HE1.out, HE2.out, HE3.out], ?_⟩
    have h := GE.out
    exact ⟨h.os, h.tape, h.output, by have := h.size; simpa [World.putObj] using this, fun k hk => by rw [World.putObj_heap_other (by have := HZ6.out; omega)]; exact h.block k hk⟩
end Go.Proofs.YtppjnpempgpkaaaGreat
namespace Go.Proofs.YtppjnpempgpkaaaGreat
open Go.RowKit Go.Shelf
set_option linter.unusedVariables false
set_option linter.unusedSimpArgs false
set_option maxRecDepth 100000 in
theorem turned_c (W H nw cw nk ck : Nat) (aw ak : Option Addr) (c k : Nat) (w : World) (hW : 1 ≤ W ∧ W ≤ 8) (hH : 1 ≤ H ∧ H ≤ 8) (hc : c < W * H) (hk : k < 4) :
    Calls Tryz.prog 99 #[.agg #[.int .i64 (W : Int), .int .i64 (H : Int), .slice aw nw cw, .slice ak nk ck], .agg #[.int .i64 (c : Int), .int .i64 (k : Int)]] w fun e w' => e = .returned (.agg #[.int .i64 (nx W H c k), .int .i64 (opp k : Int)]) ∧ Ext w w' := by
  have HB := Lib.hid (fun X => behind_c W H nw cw nk ck aw ak c k X hW hH hc hk)
  obtain ⟨v, hv⟩ : ∃ v, v = nx W H c k := ⟨_, rfl⟩
  rw [← hv] at HB ⊢
  clear hv
  have e1 : IntKind.i64.wrap ((k : Int) + 2) = (k : Int) + 2 := wrapi64 _ (by omega) (by omega)
  have e2 : ((k : Int) + 2).tmod 4 = (opp k : Int) := by unfold opp; rw [Int.tmod_eq_emod_of_nonneg (by omega)]; omega
  have e3 : IntKind.i64.wrap (opp k : Int) = (opp k : Int) := wrapi64 _ (by omega) (by have := @opp_lt k; omega)
  generalize opp k = o at *
  obtain ⟨w3, hw3⟩ : ∃ w3, w3 = ((w.alloc (.cells #[.int .i64 (W : Int), .int .i64 (H : Int), .slice aw nw cw, .slice ak nk ck] 72)).alloc (.cells #[.int .i64 (c : Int), .int .i64 (k : Int)] 124)).alloc (.cells #[.int .i64 0, .int .i64 0] 124) := ⟨_, rfl⟩
  have E3 : Ext w w3 := by rw [hw3]; exact (((Ext.refl w).alloc _).alloc _).alloc _
  have b0 : w3.heap[w.heap.size]? = some (.cells #[.int .i64 (W : Int), .int .i64 (H : Int), .slice aw nw cw, .slice ak nk ck] 72 (0, 0)) := by rw [hw3]; exact block_ext (((Ext.refl _).alloc _).alloc _) (heap_alloc_new w _)
  have b1 : w3.heap[w.heap.size + 1]? = some (.cells #[.int .i64 (c : Int), .int .i64 (k : Int)] 124 (0, 0)) := by rw [hw3]; exact block_ext ((Ext.refl _).alloc _) (heap_alloc_at (w.alloc _) _ (by simp))
  have b2 : w3.heap[w.heap.size + 1 + 1]? = some (.cells #[.int .i64 0, .int .i64 0] 124 (0, 0)) := by rw [hw3]; exact heap_alloc_at ((w.alloc _).alloc _) _ (by simp)
  have HW := Lib.hid hw3; have HE3 := Lib.hid E3; have B0 := Lib.hid b0; have B1 := Lib.hid b1; have B2 := Lib.hid b2
  clear hw3 b0 b1 b2 hc hk E3
  go_enter Tryz.func99, Tryz.ntmps99
  go_wp2
  rw [← HW.out]
  refine wp_region_order (fun X : World => X.heap[w.heap.size]? = some (.cells #[.int .i64 (W : Int), .int .i64 (H : Int), .slice aw nw cw, .slice ak nk ck] 72 (0, 0)) ∧ X.heap[w.heap.size + 1]? = some (.cells #[.int .i64 (c : Int), .int .i64 (k : Int)] 124 (0, 0))) [0, 1, 3, 4, 5, 6, 2, 7, 8] (by kernel_rfl) (by kernel_rfl) (by exact ⟨B0.out, B1.out⟩) (fun hHeld => ?_)
  simp only [opsIn, List.filterMap_cons, List.filterMap_nil, List.getElem?_toArray, List.getElem?_cons_succ, List.getElem?_cons_zero]
  refine' text_chunk 6 (by kernel_rfl) hHeld ?ck1 ?cr1
  case ck1 =>
    intro W hSw
    have hSW := hSw
    try dsimp only at hSW
    clear hSw
    obtain ⟨p0, p1, p2, p3⟩ := cells4 hSW.1
    obtain ⟨d0, d1⟩ := cells2 hSW.2
    simp only [List.take_succ_cons, List.take_zero, List.drop_succ_cons, List.drop_zero]
    repeat (go_big_quiet_step (fail))
    exact wpQuiet_nil rfl
  simp only [List.take_succ_cons, List.take_zero, List.drop_succ_cons, List.drop_zero]
  refine text_call (by rfl) (by rfl) (fun K hK => ?_)
  go_simp
  refine (HB.out _).mono ?_
  rintro e w5 ⟨rfl, hb⟩
  have HB5 := Lib.hid ((Ext.refl w3).drew.trans hb)
  clear hb
  all_goals (try (go_wp2_with fail))
  refine hK.out _ _ (by exact ⟨block_ext HB5.out B0.out, block_ext HB5.out B1.out⟩) (fun hHeld => ?_)
  clear hK K
  try simp only [Act.put, List.setIfInBounds_toArray, List.set_cons_zero, List.set_cons_succ]
  refine' text_chunk 1 (by kernel_rfl) hHeld ?ck2 ?cr2
  case ck2 =>
    intro W hSw
    have hSW := hSw
    try dsimp only at hSW
    clear hSw
    obtain ⟨p0, p1, p2, p3⟩ := cells4 hSW.1
    obtain ⟨d0, d1⟩ := cells2 hSW.2
    simp only [List.take_succ_cons, List.take_zero, List.drop_succ_cons, List.drop_zero]
    repeat (go_big_quiet_step (fail))
    exact wpQuiet_nil rfl
  simp only [List.take_succ_cons, List.take_zero, List.drop_succ_cons, List.drop_zero]

  obtain ⟨q0, q1⟩ := cells2 (block_ext HB5.out B2.out)
  have f0 := frozen_of_blk (block_ext HB5.out B2.out) 0
  have f1 := frozen_of_blk (block_ext HB5.out B2.out) 1
  have hs2 := Lib.hid (set2 (block_ext HB5.out B2.out) (.int .i64 v) (.int .i64 (o : Int)))
  refine text_call (by rfl) (by rfl) (fun K hK => ?_)
  go_simp
  all_goals (try (go_wp2_with fail))
  refine hK.out _ _ (by exact ⟨(other_blk (grown_set _ _ _ _) (by omega) (lt_of_blk ((other_blk (grown_set _ _ _ _) (by omega) (lt_of_blk hHeld.1)).trans hHeld.1))).trans ((other_blk (grown_set _ _ _ _) (by omega) (lt_of_blk hHeld.1)).trans hHeld.1), (other_blk (grown_set _ _ _ _) (by omega) (lt_of_blk ((other_blk (grown_set _ _ _ _) (by omega) (lt_of_blk hHeld.2)).trans hHeld.2))).trans ((other_blk (grown_set _ _ _ _) (by omega) (lt_of_blk hHeld.2)).trans hHeld.2)⟩) (fun hHeld => ?_)
  clear hK K
  try simp only [Act.put, List.setIfInBounds_toArray, List.set_cons_zero, List.set_cons_succ]
  refine text_done ?_
  clear hHeld q0 q1 f0 f1
  go_wp2
  obtain ⟨r0, r1⟩ := cells2 hs2.out
  refine bodyPost_ret (by simp [results, Tryz.results99, go_sem, r0, r1]) rfl ⟨rfl, ?_⟩
  exact ((HE3.out.trans HB5.out).set (by omega) _ _).set (by omega) _ _
end Go.Proofs.YtppjnpempgpkaaaGreat
