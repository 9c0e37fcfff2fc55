/- price with what Kind lets, by its contract. -/
import Derived.Test.YtcgheakadfjofaaB16
import Derived.Test.YtcgheakadfjofaaB12
import Derived.Test.YtcgheakadfjofaaA5
namespace Go.Proofs.Ytcgheakadfjofaa
open Go.RowKit Go.Shelf
set_option linter.unusedVariables false
set_option linter.unusedSimpArgs false
attribute [local go_sem] Oper.semAt_some
set_option maxRecDepth 100000 in
set_option maxHeartbeats 4000000 in
theorem kind71 (i j x Bk : Nat) (y : Int) (w : World) (hk : w.cell? ⟨Bk, 0, none⟩ = some (.int .i64 (x : Int))) :
    Calls Try.prog 71 #[.agg #[.int .i64 (i : Int), .int .i64 (j : Int), .int .i64 y], .pointer (some ⟨Bk, 0, none⟩)] w fun e w' => e = .returned (.bool (letP (atB x) i (j, y))) ∧ Ext w w' := by
  have E0 := Lib.hid ((Ext.refl w).alloc (.cells #[.int .i64 (i : Int), .int .i64 (j : Int), .int .i64 y] 110))
  have d0 : (w.alloc (.cells #[.int .i64 (i : Int), .int .i64 (j : Int), .int .i64 y] 110)).cell? ⟨w.heap.size, 0, none⟩ = some (.int .i64 (i : Int)) := World.cell?_alloc_at _ _ _ _ rfl
  have d1 : (w.alloc (.cells #[.int .i64 (i : Int), .int .i64 (j : Int), .int .i64 y] 110)).cell? ⟨w.heap.size, 1, none⟩ = some (.int .i64 (j : Int)) := World.cell?_alloc_at _ _ _ _ rfl
  have D0 := Lib.hid d0; have D1 := Lib.hid d1; have DK := Lib.hid (cell_ext E0.out hk)
  have h72 := Lib.hid (fun W : World => waste72 i j y W)
  obtain ⟨bb, hbb⟩ : ∃ bb, bb = letP (atB x) i (j, y) := ⟨_, rfl⟩
  rw [← hbb]
  unfold letP atB at hbb
  dsimp only at hbb
  have HB := Lib.hid hbb
  clear d0 d1 hbb hk
  by_cases hy : y = 0
  · have hy' : decide (y = 0) = true := decide_eq_true hy
    rw [hy'] at h72
    have d0 := D0.out; have d1 := D1.out; have d2 : (w.alloc (.cells #[.int .i64 (i : Int), .int .i64 (j : Int), .int .i64 y] 110)).cell? ⟨w.heap.size, 2, none⟩ = some (.int .i64 y) := World.cell?_alloc_at _ _ _ _ rfl
    have HY := Lib.hid hy
    clear hy hy'
    go_enter Try.func71, Try.ntmps71
    go_wp2_with fail
    refine (h72.out _).mono ?_
    rintro e w1 ⟨rfl, hb⟩
    have E1 := Lib.hid (E0.out.trans hb)
    clear d0 d1 d2 hb
    go_wp2
    go_ret
    exact ⟨ret_bool (by rw [HB.out, HY.out]; rfl), E1.out⟩
  · have hy' : decide (y = 0) = false := decide_eq_false hy
    rw [hy'] at h72
    have d0 := D0.out; have d1 := D1.out; have d2 : (w.alloc (.cells #[.int .i64 (i : Int), .int .i64 (j : Int), .int .i64 y] 110)).cell? ⟨w.heap.size, 2, none⟩ = some (.int .i64 y) := World.cell?_alloc_at _ _ _ _ rfl
    have hbb := HB.out
    rw [hy', Bool.false_or] at hbb
    have HB := Lib.hid hbb
    clear hy hy' hbb
    go_enter Try.func71, Try.ntmps71
    go_wp2_with fail
    refine (h72.out _).mono ?_
    rintro e w1 ⟨rfl, hb⟩
    have E1 := Lib.hid (E0.out.trans hb)
    have c0 := cell_ext hb D0.out; have c1 := cell_ext hb D1.out; have ck := cell_ext hb DK.out
    clear d0 d1 d2 hb
    by_cases hi : i = x
    · subst hi
      go_wp2
      go_ret
      exact ⟨ret_bool (by rw [HB.out]; simp), E1.out⟩
    · have hi' : ¬ (i : Int) = (x : Int) := by omega
      go_wp2
      go_ret
      exact ⟨ret_bool (by rw [HB.out, Bool.eq_iff_iff]; simp; omega), E1.out⟩
set_option maxRecDepth 100000 in
set_option maxHeartbeats 8000000 in
theorem price_kind (F : Nat → Nat → Int) (n b : Nat) (x Bk : Nat) (vt vb : Value) (th bd : List Int) (r : Rl) (ps : List Int) (hv : Vw th bd r) (hF : F = sF th bd r) (hn : th.length = n + 1) (w₀ w : World) (hy : YardOwn w₀ w b vt vb th bd r ps) (hk : w₀.cell? ⟨Bk, 0, none⟩ = some (.int .i64 (x : Int))) :
    Calls Try.prog 70 #[.pointer (some ⟨b, 0, none⟩), .func (.func 71) #[] #[.pointer (some ⟨Bk, 0, none⟩)]] w fun e w' => e = .returned (.tuple #[]) ∧ YardOwn w₀ w' b vt vb th bd r (psK (bst F (atB x) n) 0) ∧ w.grownBy w' (some b) := by
  obtain ⟨hl, a, cap, rfl⟩ := hy.at_.th.shape
  have hth := hv.most
  obtain ⟨W1, hcl, hy1, hg1⟩ := hy.cleared
  obtain ⟨c0, -⟩ := hy1.at_.cells
  have hFb : ∀ i p, p ∈ partsL F n i → p.1 < 61 ∧ 0 ≤ p.2 ∧ p.2 ≤ 1099511627776 := fun i p hp => part_bd hv (hF ▸ hp) hn
  have hQ : ∀ j, 0 ≤ bst F (atB x) n j ∧ bst F (atB x) n j ≤ 1099511627776 := fun j => by
    refine ⟨bst_nonneg _ _ _ _, ?_⟩
    by_cases hj : j ≤ n
    · have h1 := bst_bound (f := F) (lt := (atB x)) (n := n) (M := 216000) (by omega) (fun a b => by rw [hF]; exact sF_le hv a b) j hj
      have h2 : (216000 : Int) * ((n : Int) - j) ≤ 216000 * 61 := Int.mul_le_mul_of_nonneg_left (by omega) (by omega)
      omega
    · rw [bst_past (by omega)]; omega
  rw [hn] at c0 hl hth hy1 ⊢
  have HK := Lib.hid hk; clear hk; have HFB := Lib.hid hFb; have HQ := Lib.hid hQ; have HV := Lib.hid hv; have HF := Lib.hid hF; have HN := Lib.hid hn
  have hw2 : IntKind.i64.wrap ((n : Int) + 1 - 2) = (n : Int) - 1 := by rw [show (n : Int) + 1 - 2 = n - 1 from by omega]; exact wrapi64 _ (by omega) (by omega)
  have hY1 := Lib.hid hy1; have HG1 := Lib.hid hg1
  clear hFb hQ hv hF hn hy1 hg1 hy
  go_enter Try.func70, Try.ntmps70
  go_wp2
  clear hcl
  go_loopw [4] (fun s wr => ∃ k : Nat, k ≤ n ∧ s = .int .i64 ((k : Int) - 1) ∧ Hid (YardOwn w₀ wr b (.slice a (n + 1) cap) vb th bd r (psK (bst F (atB x) n) k)) ∧ Hid (w.grownBy wr (some b))) (fun s wr => (intOf s + 1).toNat)
  case atStart => exact ⟨n, Nat.le_refl _, by simp, Lib.hid (by rw [psK_start _ fun j hj => bst_past hj]; exact hY1.out), HG1⟩
  case round =>
    obtain ⟨k, hk, rfl, HY, HG⟩ := hrel
    by_cases hk0 : 1 ≤ k
    · obtain ⟨i, rfl⟩ : ∃ i, k = i + 1 := ⟨k - 1, by omega⟩
      rw [show (((i + 1 : Nat) : Int) - 1) = (i : Int) from by omega]
      have hi0 : (0 : Int) ≤ (i : Int) := by omega
      have hi61 : (i : Int) < 61 := by omega
      have hval : gr (((partsL F n i).filter (letP (atB x) i)).map fun p => p.2 + (psK (bst F (atB x) n) (i + 1)).getD p.1 0) = bst F (atB x) n i := by
        have h1 := price_bst (f := F) (lt := (atB x)) (n := n) (i := i) (q := bst F (atB x) n) (by omega) (fun j _ _ => rfl)
        rw [← h1]
        congr 1
        skip
        apply List.map_congr_left
        intro p hp
        have hp' := List.mem_filter.1 hp
        rw [psK_get _ (mem_parts_gt hp'.1).1 (HFB.out i p hp'.1).1]
      have h83 := fun (X : World) (hX : Ext wr X) (hc1 : X.cell? ⟨wr.heap.size + 1, 0, none⟩ = some (.int .i64 (i : Int))) (hc2 : X.cell? ⟨wr.heap.size, 0, none⟩ = some (.pointer (some ⟨b, 0, none⟩))) =>
        great_kind F n (wr.heap.size + 1) wr.heap.size b i Bk _ vb th bd r _ (letP (atB x) i) (fun p => p.2 + (psK (bst F (atB x) n) (i + 1)).getD p.1 0) HV.out HF.out HN.out wr HY.out.at_ X hX (by omega) hc1 hc2
          (fun p hp Y hE => kind71 i p.1 x Bk p.2 Y (cell_ext (HY.out.ext0.trans (hX.trans hE)) HK.out))
          (fun p hp _ Y hE => worth84 b _ vb th bd r _ i p.1 p.2 Y ((HY.out.at_.ext hX).ext hE) (HFB.out i p hp).1 (HFB.out i p hp).2 (psK_bd _ 1099511627776 (by omega) HQ.out _ _))
      rw [hval] at h83
      have H83 := Lib.hid h83
      clear h83 hval
      go_wp2
      refine wp_region_order (fun _ => True) [0, 1, 2, 3, 5, 6, 7, 9, 10, 4, 8, 11, 12] (by kernel_rfl) (by kernel_rfl) (by trivial) (fun hHeld => ?_)
      simp only [opsIn, List.filterMap_cons, List.filterMap_nil, List.getElem?_toArray, List.getElem?_cons_succ, List.getElem?_cons_zero]
      refine' text_chunk 9 (by kernel_rfl) hHeld ?ck1 ?cr1
      case ck1 =>
        intro W hSw
        have hSW := hSw
        try dsimp only at hSW
        clear hSw
        simp only [List.take_succ_cons, List.take_zero, List.drop_succ_cons, List.drop_zero]
        repeat (go_big_quiet_step (fail))
        exact wpQuiet_nil rfl
      simp only [List.take_succ_cons, List.take_zero, List.drop_succ_cons, List.drop_zero]
      refine text_call (by rfl) (by rfl) (fun K hK => ?_)
      go_simp
      (go_at_call 80; refine (parts80 b i _).mono ?_; rintro e w8 ⟨rfl, rfl⟩)
      all_goals (try (go_wp2_with fail))
      refine hK.out _ _ (by trivial) (fun hHeld => ?_)
      clear hK K
      try simp only [Act.put, List.setIfInBounds_toArray, List.set_cons_zero, List.set_cons_succ]
      refine text_call (by rfl) (by rfl) (fun K hK => ?_)
      go_simp
      go_at_call 83
      refine (H83.out _ ?_ ?_ ?_).mono ?_
      · exact Ext.alloc (Ext.alloc (Ext.drew (Ext.refl _)) _) _
      · exact World.cell?_alloc_at _ _ _ _ (by simp)
      · exact cell_ext (Ext.alloc (Ext.refl _) _) (World.cell?_alloc_at _ _ _ _ (by simp))
      rintro e w9 ⟨rfl, hb9⟩
      have hE9 := Ext.trans (Ext.alloc (Ext.alloc (Ext.drew (Ext.refl wr)) (.cells #[.pointer (some ⟨b, 0, none⟩)] 75)) (.cells #[.int .i64 (i : Int)] 3)) hb9
      have y9 := HY.out.ext hE9
      have c9 := y9.at_.price (show i < 61 by omega)
      have f9 := frozen_of_blk y9.at_.blk (9 + i)
      have Y9 := Lib.hid y9
      have HG9 := Lib.hid (Lib.grownBy_trans HG.out (grown_ext hE9 (some b)))
      clear hb9 hE9 y9
      all_goals (try (go_wp2_with fail))
      refine hK.out _ _ (by trivial) (fun hHeld => ?_)
      clear hK K
      try simp only [Act.put, List.setIfInBounds_toArray, List.set_cons_zero, List.set_cons_succ]
      refine' text_chunk 1 (by kernel_rfl) hHeld ?ck2 ?cr2
      case ck2 =>
        intro W hSw
        have hSW := hSw
        try dsimp only at hSW
        clear hSw
        simp only [List.take_succ_cons, List.take_zero, List.drop_succ_cons, List.drop_zero]
        repeat (go_big_quiet_step (fail))
        exact wpQuiet_nil rfl
      simp only [List.take_succ_cons, List.take_zero, List.drop_succ_cons, List.drop_zero]
      refine text_call (by rfl) (by rfl) (fun K hK => ?_)
      go_simp
      all_goals (try (go_wp2_with fail))
      refine hK.out _ _ (by trivial) (fun hHeld => ?_)
      clear hK K
      try simp only [Act.put, List.setIfInBounds_toArray, List.set_cons_zero, List.set_cons_succ]
      refine text_done ?_
      go_wp2
      go_roundw
      case rel => exact ⟨i, by omega, by go_num, (by have := Y9.out.stored i (bst F (atB x) n i); rw [psK_set _ (by omega)] at this; exact this : YardOwn _ _ _ _ _ _ _ _ _), Lib.hid (Lib.grownBy_trans HG9.out (grown_set _ _ _ _))⟩
      case measure => simp [intOf]
    · obtain rfl : k = 0 := by omega
      go_wp2
      go_end0
      exact ⟨rfl, HY.out, HG.out⟩
end Go.Proofs.Ytcgheakadfjofaa
