/- GapShaped, by its contract. -/
import Derived.Test.YtclcippfodjfeaaL2
import Derived.Test.YtclcippfodjfeaaL12
import Derived.Deep.LoopGhost
namespace Go.Proofs.Ytclcippfodjfeaa
open Go.RowKit
set_option linter.unusedVariables false
set_option linter.unusedSimpArgs false
theorem shape_at {row : List Int} {k : Nat} (hk : k < (tab row).length) : ∃ s : Nat, (shapeI row)[k]? = some (s : Int) ∧ 1 ≤ s ∧ s ≤ row.length ∧ sumk (k + 1) (tab row) = sumk k (tab row) + s := by
  have hl : k < (shapeL row).length := by unfold shapeL; simpa using hk
  refine ⟨(shapeL row)[k], ?_, shape_pos row _ (List.getElem_mem hl), ?_, ?_⟩
  · unfold shapeI; rw [List.getElem?_map, List.getElem?_eq_getElem hl]; rfl
  · rw [← shape_sum row]
    have h1 : ∀ (l : List Nat) (x : Nat), x ∈ l → x ≤ l.sum := by
      intro l
      induction l with
      | nil => intro x h; cases h
      | cons a l ih =>
        intro x h
        rw [List.sum_cons]
        rcases List.mem_cons.1 h with rfl | h
        · omega
        · have := ih x h; omega
    exact h1 _ _ (List.getElem_mem hl)
  · rw [sumk_take, sumk_take]
    show ((shapeL row).take (k + 1)).sum = ((shapeL row).take k).sum + _
    rw [List.take_add_one, List.getElem?_eq_getElem hl, List.sum_append]
    simp
theorem shape_le {row : List Int} {k : Nat} {a b : Int} (ha : (shapeI row)[k]? = some a) (hb : (shapeI row)[k + 1]? = some b) : b ≤ a := by
  unfold shapeI at ha hb
  rw [List.getElem?_map] at ha hb
  cases h1 : (shapeL row)[k]? with
  | none => rw [h1] at ha; cases ha
  | some x =>
    cases h2 : (shapeL row)[k + 1]? with
    | none => rw [h2] at hb; cases hb
    | some y =>
      rw [h1] at ha
      rw [h2] at hb
      cases ha
      cases hb
      have hx := List.getElem?_eq_some_iff.1 h1
      have hy := List.getElem?_eq_some_iff.1 h2
      obtain ⟨hx1, rfl⟩ := hx
      obtain ⟨hy1, rfl⟩ := hy
      have := (List.pairwise_iff_getElem.1 (shape_down row)) k (k + 1) hx1 hy1 (by omega)
      show (((shapeL row)[k + 1] : Nat) : Int) ≤ (((shapeL row)[k] : Nat) : Int)
      omega
theorem shape_of {row : List Int} (hc : chkR row = 0) (v : Value) (W : World) (h : Reads W v row) : Calls Try.prog 27 #[v] W fun e w' => ∃ b q cp, q = (tab row).length ∧ e = .returned (.tuple #[.slice b q cp, .int .i64 0]) ∧ Reads w' (.slice b q cp) (shapeI row) ∧ Ext W w' := by
  have := listRef_of (shape27 _ row W h)
  rw [hc] at this
  exact this.mono fun e w' ⟨b, q, cp, h1, h2, h3⟩ => ⟨b, q, cp, by rw [h2.len, errL_ok]; unfold shapeI shapeL; simp, h1, h2, h3⟩
theorem long_first {row : List Int} (h : row ≠ []) : (shapeI row)[0]? = some (upBest row row.length) := by
  unfold shapeI
  rw [List.getElem?_map, shape_zero h, up_one]; rfl
attribute [local go_sem] Oper.semAt_some
set_option maxRecDepth 100000 in
set_option maxHeartbeats 4000000 in
theorem shaped10 (a : Option Addr) (cap : Nat) (row : List Int) (w : World) (hlen : row.length ≤ cap ∧ cap ≤ 9223372036854775807) (hr : row.length ≤ 5000 → Reads w (.slice a row.length cap) row) :
    Calls Try.prog 10 #[.slice a row.length cap] w fun e w' => e = .returned (.bool true) ∧ Ext w w' := by
  obtain ⟨n, hn⟩ : ∃ n, n = row.length := ⟨_, rfl⟩
  rw [← hn] at hlen hr ⊢
  rcases fine43 a n cap row hn w hr with F | ⟨hc, hR, F⟩
  · have HF := Lib.hid F
    clear F hr hn
    go_enter Try.func10, Try.ntmps10
    have HE := Lib.hid (Ext.refl w)
    go_wp2_with fail
    refine (HF.out _ HE.out).mono ?_
    rintro e w1 ⟨rfl, rfl⟩
    go_wp2_with fail
    refine (works18 _).mono ?_
    rintro e w99 ⟨rfl, hb⟩
    have HE := Lib.hid (HE.out.trans hb)
    clear hb
    go_wp2
    go_ret
    exact ⟨rfl, HE.out⟩
  have HF := Lib.hid F
  clear F hr
  obtain ⟨hn30, -⟩ := chkR_ok.1 hc
  rw [← hn] at hn30
  have HC := Lib.hid hc; have HN := Lib.hid hn; have HR := Lib.hid hR
  have C27 := Lib.hid (fun (X : World) (h : Ext w X) => shape_of hc _ X (hR.ext h))
  have C25 := Lib.hid (fun (X : World) (h : Ext w X) => few_of hc _ X (hR.ext h))
  have C23 := Lib.hid (fun (X : World) (h : Ext w X) (m : Nat) (hm : m ≤ 30) => most_of hc hm _ X (hR.ext h))
  have hsa := fun k (hk : k < (tab row).length) => shape_at (row := row) hk
  have hfn := tab_le row
  have hall : sumk (tab row).length (tab row) = n := by rw [tab_len, hn]
  rw [← hn] at hfn hsa
  have HSA := Lib.hid hsa; have HALL := Lib.hid hall
  have hs0 : sumk 0 (tab row) = 0 := by cases tab row <;> rfl
  have HS0 := Lib.hid hs0
  generalize hf : (tab row).length = f at *
  generalize hsk : (fun k => sumk k (tab row)) = sk at *
  have HSK := Lib.hid (fun k => (show sumk k (tab row) = sk k from by rw [← hsk]))
  have k0 : decide ((f : Int) > n) = false := by simp; omega
  have k0b : decide (n < f) = false := by simp; omega
  clear hc hR hn hsa hall hs0 hf hsk
  go_enter Try.func10, Try.ntmps10
  have HE := Lib.hid (Ext.refl w)
  go_wp2_with fail
  refine (HF.out _ HE.out).mono ?_
  rintro e w1 ⟨rfl, rfl⟩
  go_wp2_with fail
  refine (C27.out _ HE.out).mono ?_
  rintro e w2 ⟨sa, sn, sc, hsn, rfl, hx, hb⟩
  have HE := Lib.hid (HE.out.trans hb)
  have HS := Lib.hid hx
  subst hsn
  clear hb hx
  go_wp2_with fail
  refine (C25.out _ HE.out).mono ?_
  rintro e w3 ⟨rfl, hb⟩
  have HE := Lib.hid (HE.out.trans hb)
  have HS := Lib.hid (HS.out.ext hb)
  clear hb
  go_wp2
  go_loopg [7, 8] sn (fun g sm i wr => ∃ k : Nat, k + g = sn ∧ i = .int .i64 (k : Int) ∧ sm = .int .i64 ((sk k : Nat) : Int) ∧ sk k ≤ 900 ∧ Hid (Ext w3 wr))
  case atStart => exact ⟨0, by omega, rfl, by rw [← HSK.out, HS0.out]; rfl, by rw [← HSK.out, HS0.out]; omega, Ext.refl _⟩
  case round =>
    obtain ⟨k, hkg, rfl, rfl, hsk9, hE⟩ := hrel
    have hsl : (shapeI row).length = sn := HS.out.len.symm
    by_cases hlt : k < sn
    · obtain ⟨s, hs1, hs2, hs3, hs4⟩ := HSA.out k hlt
      have hbn := sumk_le (show k + 1 ≤ sn from hlt) (tab row)
      rw [HSK.out, HALL.out] at hbn
      rw [HSK.out, HSK.out] at hs4
      obtain ⟨b1, off1, x, rfl, hx, hcx⟩ := (HS.out.ext hE.out).at (k := k) (by rw [hsl]; exact hlt)
      rw [hs1] at hx
      cases hx
      have c23 := fun (X : World) (h : Ext w X) => C23.out X h (k + 1) (by omega)
      rw [HSK.out, hs4, Int.natCast_add, Int.natCast_add, Int.natCast_one] at c23
      have C23K := Lib.hid c23
      have HSK1 := Lib.hid (show ((sk (k + 1) : Nat) : Int) = ((sk k : Nat) : Int) + (s : Int) from by rw [hs4]; push_cast; rfl)
      have HSK9 := Lib.hid (show sk (k + 1) ≤ 900 from by omega)
      obtain ⟨u, hu⟩ : ∃ u, u = sk k := ⟨_, rfl⟩
      rw [← hu] at C23K HSK1 hsk9 ⊢
      have hka : (0 : Int) ≤ (k : Int) := by omega
      have hkb : (k : Int) < (sn : Int) := by omega
      have wu : IntKind.i64.wrap ((u : Int) + (s : Int)) = (u : Int) + (s : Int) := wrapi64 _ (by omega) (by omega)
      have wk1 : IntKind.i64.wrap ((k : Int) + 1) = (k : Int) + 1 := wrapi64 _ (by omega) (by omega)
      have d1 : decide ((s : Int) < 1) = false := by simp; omega
      have d1b : decide (s < 1) = false := by simp; omega
      have d1c : (s == 0) = false := by simp; omega
      have d1d : decide (s = 0) = false := by simp; omega
      have d1e : ¬ s = 0 := by omega
      have d2 : decide ((s : Int) > n) = false := by simp; omega
      have d2b : decide (n < s) = false := by simp; omega
      have HE2 := Lib.hid (HE.out.trans hE.out)
      have HEK := Lib.hid hE.out
      have HS1 := Lib.hid hs1
      clear c23 hu hs4 hs1 hbn hE hlt
      by_cases hk0 : k = 0
      · subst hk0
        rw [Nat.add_zero] at hcx
        go_upto_region 11 with fail
        go_quiet (fail)
        go_wp2_with fail
        refine (C23K.out _ (HE2.out.trans ((Ext.refl _).drewN _))).mono ?_
        rintro e w5 ⟨rfl, hb⟩
        have HE5 := Lib.hid (HEK.out.trans (((Ext.refl _).drewN _).trans hb))
        clear hb
        go_wp2
        go_roundg (sn - (0 + 1))
        case measure => omega
        case rel => exact ⟨0 + 1, by omega, by go_num, by rw [HSK1.out], HSK9.out, HE5.out⟩
      · obtain ⟨k1, rfl⟩ : ∃ k1, k = k1 + 1 := ⟨k - 1, by omega⟩
        obtain ⟨b2, off2, z, hb2, hz, hcz⟩ := (HS.out.ext HEK.out).at (k := k1) (by rw [hsl]; omega)
        cases hb2
        have hle := shape_le hz HS1.out
        have d3 : decide ((s : Int) > z) = false := by simp; omega
        have d3b : decide (z < (s : Int)) = false := by simp; omega
        have wk2 : IntKind.i64.wrap (k1 : Int) = (k1 : Int) := wrapi64 _ (by omega) (by omega)
        clear hz hle
        go_upto_region 11 with fail
        go_quiet (fail)
        go_wp2_with fail
        refine (C23K.out _ (HE2.out.trans ((Ext.refl _).drewN _))).mono ?_
        rintro e w5 ⟨rfl, hb⟩
        have HE5 := Lib.hid (HEK.out.trans (((Ext.refl _).drewN _).trans hb))
        clear hb
        go_wp2
        go_roundg (sn - ((k1 + 1) + 1))
        case measure => omega
        case rel => exact ⟨(k1 + 1) + 1, by omega, by go_num, by rw [HSK1.out], HSK9.out, HE5.out⟩
    · obtain rfl : k = sn := by omega
      have HZN := Lib.hid (show ((sk k : Nat) : Int) = (n : Int) from by rw [← HSK.out, HALL.out])
      rw [HZN.out]
      have HEF := Lib.hid (HE.out.trans hE.out); have HEK := Lib.hid hE.out
      clear hE HSA hfn k0 k0b
      go_upto_region 17 with fail
      by_cases hn0 : n = 0
      · subst hn0
        refine wp_region_order (fun X : World => Hid (Ext w X)) [0, 1, 2, 3, 4, 5, 6, 7, 8, 9, 10, 11, 12, 13, 14, 15, 16, 17, 18, 19, 20] (by kernel_rfl) (by kernel_rfl) (by exact Lib.hid (HEF.out.trans (Ext.refl _).drew)) (fun hHeld => ?_)
        simp only [opsIn, List.filterMap_cons, List.filterMap_nil, List.getElem?_toArray, List.getElem?_cons_succ, List.getElem?_cons_zero]
        refine' text_chunk 2 (by kernel_rfl) hHeld ?ck1 ?cr1
        case ck1 =>
          intro W hSw
          have hSW := hSw
          try dsimp only at hSW
          clear hSw
          simp only [List.take_succ_cons, List.take_zero, List.drop_succ_cons, List.drop_zero]
          repeat (go_big_quiet_step (fail))
          exact wpQuiet_nil rfl
        simp only [List.take_succ_cons, List.take_zero, List.drop_succ_cons, List.drop_zero]
        refine' text_take (by rfl) (by rfl) ?ck2 ?cr2
        case ck2 => (intro W hSw; (try dsimp only at hSw); go_simp; all_goals with_reducible rfl)
        try simp only [Act.put, List.setIfInBounds_toArray, List.set_cons_zero, List.set_cons_succ]
        refine' text_chunk 3 (by kernel_rfl) hHeld ?ck3 ?cr3
        case ck3 =>
          intro W hSw
          have hSW := hSw
          try dsimp only at hSW
          clear hSw
          simp only [List.take_succ_cons, List.take_zero, List.drop_succ_cons, List.drop_zero]
          repeat (go_big_quiet_step (fail))
          exact wpQuiet_nil rfl
        simp only [List.take_succ_cons, List.take_zero, List.drop_succ_cons, List.drop_zero]
        refine' text_take (by rfl) (by rfl) ?ck4 ?cr4
        case ck4 => (intro W hSw; (try dsimp only at hSw); go_simp; all_goals with_reducible rfl)
        try simp only [Act.put, List.setIfInBounds_toArray, List.set_cons_zero, List.set_cons_succ]
        refine' text_chunk 6 (by kernel_rfl) hHeld ?ck5 ?cr5
        case ck5 =>
          intro W hSw
          have hSW := hSw
          try dsimp only at hSW
          clear hSw
          simp only [List.take_succ_cons, List.take_zero, List.drop_succ_cons, List.drop_zero]
          repeat (go_big_quiet_step (fail))
          exact wpQuiet_nil rfl
        simp only [List.take_succ_cons, List.take_zero, List.drop_succ_cons, List.drop_zero]
        refine text_skip (by rfl) ?_
        try simp only [Act.put, List.setIfInBounds_toArray, List.set_cons_zero, List.set_cons_succ]
        refine' text_chunk 4 (by kernel_rfl) hHeld ?ck6 ?cr6
        case ck6 =>
          intro W hSw
          have hSW := hSw
          try dsimp only at hSW
          clear hSw
          simp only [List.take_succ_cons, List.take_zero, List.drop_succ_cons, List.drop_zero]
          repeat (go_big_quiet_step (fail))
          exact wpQuiet_nil rfl
        simp only [List.take_succ_cons, List.take_zero, List.drop_succ_cons, List.drop_zero]
        refine text_call (by rfl) (by rfl) (fun K hK => ?_)
        go_simp
        go_at_call 18
        refine (works18 _).mono ?_
        rintro e w9 ⟨rfl, hb⟩
        have HB9 := Lib.hid hb
        clear hb
        all_goals (try (go_wp2_with fail))
        refine hK.out _ _ (Lib.hid (hHeld.out.trans HB9.out)) (fun hHeld => ?_)
        clear hK K
        try simp only [Act.put, List.setIfInBounds_toArray, List.set_cons_zero, List.set_cons_succ]
        refine' text_chunk 2 (by kernel_rfl) hHeld ?ck7 ?cr7
        case ck7 =>
          intro W hSw
          have hSW := hSw
          try dsimp only at hSW
          clear hSw
          simp only [List.take_succ_cons, List.take_zero, List.drop_succ_cons, List.drop_zero]
          repeat (go_big_quiet_step (fail))
          exact wpQuiet_nil rfl
        simp only [List.take_succ_cons, List.take_zero, List.drop_succ_cons, List.drop_zero]
        refine text_done ?_
        go_wp2
        go_ret
        exact ⟨rfl, hHeld.out⟩
      · have hrne : row ≠ [] := fun h => hn0 (by rw [HN.out, h]; rfl)
        have hlf := long_first hrne
        have C45 := Lib.hid (fun (X : World) (h : Ext w X) => longest45 _ row X (HR.out.ext h))
        obtain ⟨b1, off1, x, rfl, hx, hcx⟩ := (HS.out.ext HEK.out).at (k := 0) (by rw [hsl]; have := (List.getElem?_eq_some_iff.1 hlf).1; omega)
        rw [hlf] at hx
        cases hx
        rw [Nat.add_zero] at hcx
        generalize upBest row row.length = ub at *
        have hn1 : ((n : Int) == 0) = false := by simp; omega
        have hn2 : decide ((n : Int) = 0) = false := by simp; omega
        have hn3 : decide (n = 0) = false := by simp; omega
        have hkp : 0 < k := by rw [← hsl]; exact (List.getElem?_eq_some_iff.1 hlf).1
        have hkq : (0 : Int) < (k : Int) := by omega
        clear hlf hrne
        refine wp_region_order (fun X : World => X.cell? ⟨b1, off1, none⟩ = some (.int .i64 ub) ∧ Hid (Ext w X)) [0, 1, 2, 3, 4, 5, 6, 7, 8, 9, 10, 11, 12, 13, 14, 15, 16, 17, 18, 19, 20] (by kernel_rfl) (by kernel_rfl) (by exact ⟨hcx, Lib.hid (HEF.out.trans (Ext.refl _).drew)⟩) (fun hHeld => ?_)
        simp only [opsIn, List.filterMap_cons, List.filterMap_nil, List.getElem?_toArray, List.getElem?_cons_succ, List.getElem?_cons_zero]
        refine' text_chunk 2 (by kernel_rfl) hHeld ?ck8 ?cr8
        case ck8 =>
          intro W hSw
          have hSW := hSw
          try dsimp only at hSW
          clear hSw
          simp only [List.take_succ_cons, List.take_zero, List.drop_succ_cons, List.drop_zero]
          repeat (go_big_quiet_step (fail))
          exact wpQuiet_nil rfl
        simp only [List.take_succ_cons, List.take_zero, List.drop_succ_cons, List.drop_zero]
        refine' text_take (by rfl) (by rfl) ?ck9 ?cr9
        case ck9 => (intro W hSw; (try dsimp only at hSw); go_simp; all_goals with_reducible rfl)
        try simp only [Act.put, List.setIfInBounds_toArray, List.set_cons_zero, List.set_cons_succ]
        refine' text_chunk 3 (by kernel_rfl) hHeld ?ck10 ?cr10
        case ck10 =>
          intro W hSw
          have hSW := hSw
          try dsimp only at hSW
          clear hSw
          simp only [List.take_succ_cons, List.take_zero, List.drop_succ_cons, List.drop_zero]
          repeat (go_big_quiet_step (fail))
          exact wpQuiet_nil rfl
        simp only [List.take_succ_cons, List.take_zero, List.drop_succ_cons, List.drop_zero]
        refine' text_take (by rfl) (by rfl) ?ck11 ?cr11
        case ck11 => (intro W hSw; (try dsimp only at hSw); go_simp; all_goals with_reducible rfl)
        try simp only [Act.put, List.setIfInBounds_toArray, List.set_cons_zero, List.set_cons_succ]
        refine' text_chunk 6 (by kernel_rfl) hHeld ?ck12 ?cr12
        case ck12 =>
          intro W hSw
          have hSW := hSw
          try dsimp only at hSW
          clear hSw
          simp only [List.take_succ_cons, List.take_zero, List.drop_succ_cons, List.drop_zero]
          repeat (go_big_quiet_step (fail))
          exact wpQuiet_nil rfl
        simp only [List.take_succ_cons, List.take_zero, List.drop_succ_cons, List.drop_zero]
        refine text_call (by rfl) (by rfl) (fun K hK => ?_)
        go_simp
        go_at_call 45
        refine (C45.out _ hHeld.2.out).mono ?_
        rintro e w8 ⟨rfl, hb⟩
        have HB8 := Lib.hid hb
        clear hb
        all_goals (try (go_wp2_with fail))
        refine hK.out _ _ (⟨cell_ext HB8.out hHeld.1, Lib.hid (hHeld.2.out.trans HB8.out)⟩) (fun hHeld => ?_)
        clear hK K
        try simp only [Act.put, List.setIfInBounds_toArray, List.set_cons_zero, List.set_cons_succ]
        refine' text_chunk 4 (by kernel_rfl) hHeld ?ck13 ?cr13
        case ck13 =>
          intro W hSw
          have hSW := hSw
          try dsimp only at hSW
          clear hSw
          simp only [List.take_succ_cons, List.take_zero, List.drop_succ_cons, List.drop_zero]
          repeat (go_big_quiet_step (fail))
          exact wpQuiet_nil rfl
        simp only [List.take_succ_cons, List.take_zero, List.drop_succ_cons, List.drop_zero]
        refine text_call (by rfl) (by rfl) (fun K hK => ?_)
        go_simp
        go_at_call 18
        refine (works18 _).mono ?_
        rintro e w9 ⟨rfl, hb⟩
        have HB9 := Lib.hid hb
        clear hb
        all_goals (try (go_wp2_with fail))
        refine hK.out _ _ (⟨cell_ext HB9.out hHeld.1, Lib.hid (hHeld.2.out.trans HB9.out)⟩) (fun hHeld => ?_)
        clear hK K
        try simp only [Act.put, List.setIfInBounds_toArray, List.set_cons_zero, List.set_cons_succ]
        refine' text_chunk 2 (by kernel_rfl) hHeld ?ck14 ?cr14
        case ck14 =>
          intro W hSw
          have hSW := hSw
          try dsimp only at hSW
          clear hSw
          simp only [List.take_succ_cons, List.take_zero, List.drop_succ_cons, List.drop_zero]
          repeat (go_big_quiet_step (fail))
          exact wpQuiet_nil rfl
        simp only [List.take_succ_cons, List.take_zero, List.drop_succ_cons, List.drop_zero]
        refine text_done ?_
        go_wp2
        go_ret
        exact ⟨rfl, hHeld.2.out⟩
end Go.Proofs.Ytclcippfodjfeaa
