/- price, by its contract. -/
import Derived.Test.YtcgheakadfjofaaB15
import Derived.Test.YtcgheakadfjofaaB11
namespace Go.Proofs.Ytcgheakadfjofaa
open Go.RowKit Go.Shelf
set_option linter.unusedVariables false
set_option linter.unusedSimpArgs false
attribute [local go_sem] Oper.semAt_some
theorem sF_le {th bd : List Int} {r : Rl} (hv : Vw th bd r) (a b : Nat) : sF th bd r a b ≤ 216000 := by
  unfold sF scl
  split; · omega
  split; · omega
  rename_i h1 h2
  obtain ⟨q1, q2, q3, q4, q5, q6, q7, q8, q9, q10, q11, q12, q13⟩ := hv.rule
  have ht := getD_le (hv.thick) (by omega) (by omega) ((b : Int)).toNat
  generalize th.getD ((b : Int)).toNat 0 = t at *
  generalize (b : Int) - a - r.tr = ln at *
  have s1 : 0 ≤ max 0 (t - r.off) := by omega
  have s2 : max 0 (t - r.off) ≤ 60 := by omega
  generalize max 0 (t - r.off) = s at *
  have p1 : 0 ≤ s * s := Int.mul_nonneg s1 s1
  have p2 : s * s ≤ 60 * 60 := Int.mul_le_mul s2 s2 s1 (by omega)
  have p3 : 0 ≤ s * s * ln := Int.mul_nonneg p1 (by omega)
  have p4 : s * s * ln ≤ 3600 * 60 := Int.mul_le_mul p2 (by omega) (by omega) (by omega)
  exact Int.le_trans (Int.ediv_le_self _ p3) (by omega)
theorem part_bd {th bd : List Int} {r : Rl} (hv : Vw th bd r) {n i : Nat} {p : Nat × Int} (hp : p ∈ partsL (sF th bd r) n i) (hn : th.length = n + 1) : p.1 < 61 ∧ 0 ≤ p.2 ∧ p.2 ≤ 1099511627776 := by
  have hm := hv.most
  rcases mem_partsL.1 hp with ⟨h1, rfl⟩ | ⟨h1, h2, h3, h4⟩
  · dsimp only; omega
  · have := sF_le hv i p.1; omega
set_option maxRecDepth 100000 in
set_option maxHeartbeats 8000000 in
theorem price_any (F : Nat → Nat → Int) (n b : Nat) (vt vb : Value) (th bd : List Int) (r : Rl) (ps : List Int) (hv : Vw th bd r) (hF : F = sF th bd r) (hn : th.length = n + 1) (w₀ w : World) (hy : YardOwn w₀ w b vt vb th bd r ps) :
    Calls Try.prog 70 #[.pointer (some ⟨b, 0, none⟩), .func (.func 75) #[] #[]] w fun e w' => e = .returned (.tuple #[]) ∧ YardOwn w₀ w' b vt vb th bd r (psK (bst F allB n) 0) ∧ w.grownBy w' (some b) := by
  obtain ⟨hl, a, cap, rfl⟩ := hy.at_.th.shape
  have hth := hv.most
  obtain ⟨W1, hcl, hy1, hg1⟩ := hy.cleared
  obtain ⟨c0, -⟩ := hy1.at_.cells
  have hFb : ∀ i p, p ∈ partsL F n i → p.1 < 61 ∧ 0 ≤ p.2 ∧ p.2 ≤ 1099511627776 := fun i p hp => part_bd hv (hF ▸ hp) hn
  have hQ : ∀ j, 0 ≤ bst F allB n j ∧ bst F allB n j ≤ 1099511627776 := fun j => by
    refine ⟨bst_nonneg _ _ _ _, ?_⟩
    by_cases hj : j ≤ n
    · have h1 := bst_bound (f := F) (lt := allB) (n := n) (M := 216000) (by omega) (fun a b => by rw [hF]; exact sF_le hv a b) j hj
      have h2 : (216000 : Int) * ((n : Int) - j) ≤ 216000 * 61 := Int.mul_le_mul_of_nonneg_left (by omega) (by omega)
      omega
    · rw [bst_past (by omega)]; omega
  rw [hn] at c0 hl hth hy1 ⊢
  have HFB := Lib.hid hFb; have HQ := Lib.hid hQ; have HV := Lib.hid hv; have HF := Lib.hid hF; have HN := Lib.hid hn
  have hw2 : IntKind.i64.wrap ((n : Int) + 1 - 2) = (n : Int) - 1 := by rw [show (n : Int) + 1 - 2 = n - 1 from by omega]; exact wrapi64 _ (by omega) (by omega)
  have hY1 := Lib.hid hy1; have HG1 := Lib.hid hg1
  clear hFb hQ hv hF hn hy1 hg1 hy
  go_enter Try.func70, Try.ntmps70
  go_wp2
  clear hcl
  go_loopw [4] (fun s wr => ∃ k : Nat, k ≤ n ∧ s = .int .i64 ((k : Int) - 1) ∧ Hid (YardOwn w₀ wr b (.slice a (n + 1) cap) vb th bd r (psK (bst F allB n) k)) ∧ Hid (w.grownBy wr (some b))) (fun s wr => (intOf s + 1).toNat)
  case atStart => exact ⟨n, Nat.le_refl _, by simp, Lib.hid (by rw [psK_start _ fun j hj => bst_past hj]; exact hY1.out), HG1⟩
  case round =>
    obtain ⟨k, hk, rfl, HY, HG⟩ := hrel
    by_cases hk0 : 1 ≤ k
    · obtain ⟨i, rfl⟩ : ∃ i, k = i + 1 := ⟨k - 1, by omega⟩
      rw [show (((i + 1 : Nat) : Int) - 1) = (i : Int) from by omega]
      have hi0 : (0 : Int) ≤ (i : Int) := by omega
      have hi61 : (i : Int) < 61 := by omega
      have hval : gr (((partsL F n i).filter (fun _ => true)).map fun p => p.2 + (psK (bst F allB n) (i + 1)).getD p.1 0) = bst F allB n i := by
        have h1 := price_bst (f := F) (lt := allB) (n := n) (i := i) (q := bst F allB n) (by omega) (fun j _ _ => rfl)
        rw [← h1]
        congr 1
        rw [filter_true _ (letP allB i) fun p _ => by simp [letP, allB], filter_true _ (fun _ => true) fun _ _ => rfl]
        apply List.map_congr_left
        intro p hp
        rw [psK_get _ (mem_parts_gt hp).1 (HFB.out i p hp).1]
      have h83 := fun (X : World) (hX : Ext wr X) (hc1 : X.cell? ⟨wr.heap.size + 1, 0, none⟩ = some (.int .i64 (i : Int))) (hc2 : X.cell? ⟨wr.heap.size, 0, none⟩ = some (.pointer (some ⟨b, 0, none⟩))) =>
        great_any F n (wr.heap.size + 1) wr.heap.size b i _ vb th bd r _ (fun _ => true) (fun p => p.2 + (psK (bst F allB n) (i + 1)).getD p.1 0) HV.out HF.out HN.out wr HY.out.at_ X hX (by omega) hc1 hc2
          (fun p hp Y hE => any75 i p.1 p.2 Y)
          (fun p hp _ Y hE => worth84 b _ vb th bd r _ i p.1 p.2 Y ((HY.out.at_.ext hX).ext hE) (HFB.out i p hp).1 (HFB.out i p hp).2 (psK_bd _ 1099511627776 (by omega) HQ.out _ _))
      rw [hval] at h83
      have H83 := Lib.hid h83
      clear h83 hval
      go_wp2
      refine wp_region_order (fun _ => True) [0, 1, 2, 3, 5, 6, 7, 9, 10, 4, 8, 11, 12] (by kernel_rfl) (by kernel_rfl) (by trivial) (fun hHeld => ?_)
      simp only [opsIn, List.filterMap_cons, List.filterMap_nil, List.getElem?_toArray, List.getElem?_cons_succ, List.getElem?_cons_zero]
      refine' text_chunk 9 (by kernel_rfl) hHeld ?ck1 ?cr1
      case ck1 =>
        intro W hSw
        have hSW := hSw
        try dsimp only at hSW
        clear hSw
        simp only [List.take_succ_cons, List.take_zero, List.drop_succ_cons, List.drop_zero]
        repeat (go_big_quiet_step (fail))
        exact wpQuiet_nil rfl
      simp only [List.take_succ_cons, List.take_zero, List.drop_succ_cons, List.drop_zero]
      refine text_call (by rfl) (by rfl) (fun K hK => ?_)
      go_simp
      (go_at_call 80; refine (parts80 b i _).mono ?_; rintro e w8 ⟨rfl, rfl⟩)
      all_goals (try (go_wp2_with fail))
      refine hK.out _ _ (by trivial) (fun hHeld => ?_)
      clear hK K
      try simp only [Act.put, List.setIfInBounds_toArray, List.set_cons_zero, List.set_cons_succ]
      refine text_call (by rfl) (by rfl) (fun K hK => ?_)
      go_simp
      go_at_call 83
      refine (H83.out _ ?_ ?_ ?_).mono ?_
      · exact Ext.alloc (Ext.alloc (Ext.drew (Ext.refl _)) _) _
      · exact World.cell?_alloc_at _ _ _ _ (by simp)
      · exact cell_ext (Ext.alloc (Ext.refl _) _) (World.cell?_alloc_at _ _ _ _ (by simp))
      rintro e w9 ⟨rfl, hb9⟩
      have hE9 := Ext.trans (Ext.alloc (Ext.alloc (Ext.drew (Ext.refl wr)) (.cells #[.pointer (some ⟨b, 0, none⟩)] 75)) (.cells #[.int .i64 (i : Int)] 3)) hb9
      have y9 := HY.out.ext hE9
      have c9 := y9.at_.price (show i < 61 by omega)
      have f9 := frozen_of_blk y9.at_.blk (9 + i)
      have Y9 := Lib.hid y9
      have HG9 := Lib.hid (Lib.grownBy_trans HG.out (grown_ext hE9 (some b)))
      clear hb9 hE9 y9
      all_goals (try (go_wp2_with fail))
      refine hK.out _ _ (by trivial) (fun hHeld => ?_)
      clear hK K
      try simp only [Act.put, List.setIfInBounds_toArray, List.set_cons_zero, List.set_cons_succ]
      refine' text_chunk 1 (by kernel_rfl) hHeld ?ck2 ?cr2
      case ck2 =>
        intro W hSw
        have hSW := hSw
        try dsimp only at hSW
        clear hSw
        simp only [List.take_succ_cons, List.take_zero, List.drop_succ_cons, List.drop_zero]
        repeat (go_big_quiet_step (fail))
        exact wpQuiet_nil rfl
      simp only [List.take_succ_cons, List.take_zero, List.drop_succ_cons, List.drop_zero]
      refine text_call (by rfl) (by rfl) (fun K hK => ?_)
      go_simp
      all_goals (try (go_wp2_with fail))
      refine hK.out _ _ (by trivial) (fun hHeld => ?_)
      clear hK K
      try simp only [Act.put, List.setIfInBounds_toArray, List.set_cons_zero, List.set_cons_succ]
      refine text_done ?_
      go_wp2
      go_roundw
      case rel => exact ⟨i, by omega, by go_num, (by have := Y9.out.stored i (bst F allB n i); rw [psK_set _ (by omega)] at this; exact this : YardOwn _ _ _ _ _ _ _ _ _), Lib.hid (Lib.grownBy_trans HG9.out (grown_set _ _ _ _))⟩
      case measure => simp [intOf]
    · obtain rfl : k = 0 := by omega
      go_wp2
      go_end0
      exact ⟨rfl, HY.out, HG.out⟩
end Go.Proofs.Ytcgheakadfjofaa
