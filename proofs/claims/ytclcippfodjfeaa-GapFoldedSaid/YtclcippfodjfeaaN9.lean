/- rises, stays and what a run rises from, by their contracts. -/
import Derived.Test.YtclcippfodjfeaaN1
namespace Go.Proofs.Ytclcippfodjfeaa
open Go.RowKit Go.Shelf
set_option linter.unusedVariables false
set_option linter.unusedSimpArgs false
attribute [local go_sem] Oper.semAt_some
theorem text_skipH {P : Program} {ops : Array Oper} {Q : Exit → Act → World → Prop} {S : World → Prop} {o : Oper} {rest : List Oper} {a : Act} {w : World} (hw : Region.wanted o (yielded ops a.tmps) = false) (h : BoxP (wpText P ops Q S rest (a.put o.dst undef) w)) : BoxP (wpText P ops Q S (o :: rest) a w) := ⟨text_skip hw h.out⟩
theorem text_chunkH {P : Program} {ops : Array Oper} {Q : Exit → Act → World → Prop} {S : World → Prop} (m : Nat) {l : List Oper} {a aEnd : Act} {w : World} (hp : partBR (l.take m) a.tmps.size = true) (hS : S w) (h : ∀ W, S W → wpQuiet P ops (fun w' => ∃ n, w' = W.drewN n) (fun a' => a' = aEnd) (l.take m) a) (hr : BoxP (wpText P ops Q S (l.drop m) aEnd w)) : wpText P ops Q S l a w := text_chunk m hp hS h hr.out
def risF (far : List Int) (i : Nat) : Bool := decide (fa far (bef i) < fa far (aft i))
set_option maxRecDepth 100000 in
set_option maxHeartbeats 2000000 in
theorem rises79 (w : World) (bn : Nat) (v : Value) (mf : Nat) (far : List Int) (last : List Lk) (k : Nat) (h : NetB w bn v mf far last) (hk : k < 30) :
    Calls Try.prog 79 #[.pointer (some ⟨bn, 0, none⟩), .int .i64 (k : Int)] w fun e w' => e = .returned (.bool (risF far k)) ∧ Ext w w' := by
  have k100 : k ≤ 100 := by omega
  have ha : aft k < 62 := by unfold aft; omega
  have hb : bef k < 62 := by unfold bef; omega
  have c1 := h.farAt ha; have c2 := h.farAt hb
  have a0 : (0 : Int) ≤ (aft k : Int) := by omega
  have a1 : (aft k : Int) < 62 := by omega
  have b0 : (0 : Int) ≤ (bef k : Int) := by omega
  have b1 : (bef k : Int) < 62 := by omega
  obtain ⟨fx, hfx⟩ : ∃ x, x = fa far (aft k) := ⟨_, rfl⟩
  obtain ⟨fy, hfy⟩ : ∃ x, x = fa far (bef k) := ⟨_, rfl⟩
  unfold risF
  rw [← hfx] at c1
  rw [← hfy] at c2
  rw [← hfx, ← hfy]
  clear hfx hfy ha hb h hk
  go_enter Try.func79, Try.ntmps79
  go_upto_region 1 with fail
  refine wp_region_order (fun X : World => X.cell? ⟨bn, 2 + aft k, none⟩ = some (.int .i64 fx) ∧ X.cell? ⟨bn, 2 + bef k, none⟩ = some (.int .i64 fy) ∧ Hid (Ext w X)) [0, 1, 3, 4, 7, 8, 10, 11, 2, 5, 6, 9, 12, 13, 14, 15] (by kernel_rfl) (by kernel_rfl) (by exact ⟨c1, c2, Lib.hid (Ext.refl _).drew⟩) (fun hHeld => ?_)
  simp only [opsIn, List.filterMap_cons, List.filterMap_nil, List.getElem?_toArray, List.getElem?_cons_succ, List.getElem?_cons_zero]
  refine' text_chunk 8 (by kernel_rfl) hHeld ?ck1 ?cr1
  case ck1 =>
    intro W hSw
    have hSW := hSw
    try dsimp only at hSW
    clear hSw
    simp only [List.take_succ_cons, List.take_zero, List.drop_succ_cons, List.drop_zero]
    repeat (go_big_quiet_step (fail))
    exact wpQuiet_nil rfl
  simp only [List.take_succ_cons, List.take_zero, List.drop_succ_cons, List.drop_zero]
  refine text_call (by rfl) (by rfl) (fun K hK => ?_)
  go_simp
  go_at_call 76
  refine (after76 k _ k100).mono ?_
  rintro e w5 ⟨rfl, rfl⟩
  all_goals (try (go_wp2_with fail))
  refine hK.out _ _ (by exact hHeld) (fun hHeld => ?_)
  clear hK K
  try simp only [Act.put, List.setIfInBounds_toArray, List.set_cons_zero, List.set_cons_succ]
  refine' text_chunk 2 (by kernel_rfl) hHeld ?ck2 ?cr2
  case ck2 =>
    intro W hSw
    have hSW := hSw
    try dsimp only at hSW
    clear hSw
    simp only [List.take_succ_cons, List.take_zero, List.drop_succ_cons, List.drop_zero]
    repeat (go_big_quiet_step (fail))
    exact wpQuiet_nil rfl
  simp only [List.take_succ_cons, List.take_zero, List.drop_succ_cons, List.drop_zero]
  refine text_call (by rfl) (by rfl) (fun K hK => ?_)
  go_simp
  go_at_call 74
  refine (before74 k _ k100).mono ?_
  rintro e w5 ⟨rfl, rfl⟩
  all_goals (try (go_wp2_with fail))
  refine hK.out _ _ (by exact hHeld) (fun hHeld => ?_)
  clear hK K
  try simp only [Act.put, List.setIfInBounds_toArray, List.set_cons_zero, List.set_cons_succ]
  refine' text_chunk 4 (by kernel_rfl) hHeld ?ck3 ?cr3
  case ck3 =>
    intro W hSw
    have hSW := hSw
    try dsimp only at hSW
    clear hSw
    simp only [List.take_succ_cons, List.take_zero, List.drop_succ_cons, List.drop_zero]
    repeat (go_big_quiet_step (fail))
    exact wpQuiet_nil rfl
  simp only [List.take_succ_cons, List.take_zero, List.drop_succ_cons, List.drop_zero]
  refine text_done ?_
  have HE := Lib.hid hHeld.2.2.out
  clear hHeld
  go_wp2
  go_ret
  exact ⟨rfl, HE.out⟩
set_option maxRecDepth 100000 in
theorem stays83 (w : World) (bn : Nat) (v : Value) (mf : Nat) (far : List Int) (last : List Lk) (k : Nat) (h : NetB w bn v mf far last) (hk : k < 30) :
    Calls Try.prog 83 #[.pointer (some ⟨bn, 0, none⟩), .int .i64 (k : Int)] w fun e w' => e = .returned (.bool (!risF far k)) ∧ Ext w w' := by
  have H := Lib.hid (rises79 w bn v mf far last k h hk)
  clear h
  go_enter Try.func83, Try.ntmps83
  go_wp2_with fail
  refine H.out.mono ?_
  rintro e w1 ⟨rfl, hb⟩
  have HB := Lib.hid hb; clear hb
  go_wp2
  go_ret
  exact ⟨rfl, HB.out⟩
set_option maxRecDepth 100000 in
set_option maxHeartbeats 2000000 in
theorem runs78 (w : World) (bn Bn Bm : Nat) (v : Value) (mf : Nat) (far : List Int) (last : List Lk) (k : Nat) (m : Int) (h : NetB w bn v mf far last) (hk : k < 30) (hn : w.cell? ⟨Bn, 0, none⟩ = some (.pointer (some ⟨bn, 0, none⟩))) (hm : w.cell? ⟨Bm, 0, none⟩ = some (.int .i64 m)) :
    Calls Try.prog 78 #[.int .i64 (k : Int), .pointer (some ⟨Bn, 0, none⟩), .pointer (some ⟨Bm, 0, none⟩)] w fun e w' => e = .returned (.bool (risF far k && decide (fa far (bef k) = m))) ∧ Ext w w' := by
  have k100 : k ≤ 100 := by omega
  have hb : bef k < 62 := by unfold bef; omega
  have c2 := h.farAt hb
  have b0 : (0 : Int) ≤ (bef k : Int) := by omega
  have b1 : (bef k : Int) < 62 := by omega
  obtain ⟨fy, hfy⟩ : ∃ x, x = fa far (bef k) := ⟨_, rfl⟩
  have H79 := Lib.hid (rises79 w.drew bn v mf far last k (h.ext (Ext.refl w).drew) hk)
  rw [← hfy] at c2
  rw [← hfy]
  obtain ⟨r, hr⟩ : ∃ r, r = risF far k := ⟨_, rfl⟩
  rw [← hr] at H79 ⊢
  clear hfy hb h hk hr
  cases r
  · go_enter Try.func78, Try.ntmps78
    go_upto_region 1 with fail
    refine wp_region_order (fun X : World => X.cell? ⟨bn, 2 + bef k, none⟩ = some (.int .i64 fy) ∧ X.cell? ⟨Bn, 0, none⟩ = some (.pointer (some ⟨bn, 0, none⟩)) ∧ X.cell? ⟨Bm, 0, none⟩ = some (.int .i64 m) ∧ Hid (Ext w X)) [0, 1, 2, 3, 4, 5, 7, 8, 11, 6, 9, 10, 12, 13, 14] (by kernel_rfl) (by kernel_rfl) (by exact ⟨c2, hn, hm, Lib.hid (Ext.refl _).drew⟩) (fun hHeld => ?_)
    simp only [opsIn, List.filterMap_cons, List.filterMap_nil, List.getElem?_toArray, List.getElem?_cons_succ, List.getElem?_cons_zero]
    refine' text_chunk 2 (by kernel_rfl) hHeld ?ck4 ?cr4
    case ck4 =>
      intro W hSw
      have hSW := hSw
      try dsimp only at hSW
      clear hSw
      simp only [List.take_succ_cons, List.take_zero, List.drop_succ_cons, List.drop_zero]
      repeat (go_big_quiet_step (fail))
      exact wpQuiet_nil rfl
    simp only [List.take_succ_cons, List.take_zero, List.drop_succ_cons, List.drop_zero]
    refine text_call (by rfl) (by rfl) (fun K hK => ?_)
    go_simp
    go_at_call 79
    refine (H79.out).mono ?_
    rintro e w5 ⟨rfl, hb5⟩
    have HB5 := Lib.hid hb5; clear hb5
    all_goals (try (go_wp2_with fail))
    refine hK.out _ _ (by exact ⟨cell_ext HB5.out hHeld.1, cell_ext HB5.out hHeld.2.1, cell_ext HB5.out hHeld.2.2.1, Lib.hid (hHeld.2.2.2.out.trans HB5.out)⟩) (fun hHeld => ?_)
    clear hK K
    try simp only [Act.put, List.setIfInBounds_toArray, List.set_cons_zero, List.set_cons_succ]
    refine' text_chunkH 1 (by kernel_rfl) hHeld ?ck5 ?cr5
    case ck5 =>
      intro W hSw
      have hSW := hSw
      try dsimp only at hSW
      clear hSw
      simp only [List.take_succ_cons, List.take_zero, List.drop_succ_cons, List.drop_zero]
      repeat (go_big_quiet_step (fail))
      exact wpQuiet_nil rfl
    simp only [List.take_succ_cons, List.take_zero, List.drop_succ_cons, List.drop_zero]
    refine text_skipH (by kernel_rfl) ?_
    try simp only [Act.put, List.setIfInBounds_toArray, List.set_cons_zero, List.set_cons_succ]
    refine text_skipH (by kernel_rfl) ?_
    try simp only [Act.put, List.setIfInBounds_toArray, List.set_cons_zero, List.set_cons_succ]
    refine text_skipH (by kernel_rfl) ?_
    try simp only [Act.put, List.setIfInBounds_toArray, List.set_cons_zero, List.set_cons_succ]
    refine text_skipH (by kernel_rfl) ?_
    try simp only [Act.put, List.setIfInBounds_toArray, List.set_cons_zero, List.set_cons_succ]
    refine text_skipH (by kernel_rfl) ?_
    try simp only [Act.put, List.setIfInBounds_toArray, List.set_cons_zero, List.set_cons_succ]
    refine text_skipH (by kernel_rfl) ?_
    try simp only [Act.put, List.setIfInBounds_toArray, List.set_cons_zero, List.set_cons_succ]
    refine text_skipH (by kernel_rfl) ?_
    try simp only [Act.put, List.setIfInBounds_toArray, List.set_cons_zero, List.set_cons_succ]
    refine text_skipH (by kernel_rfl) ?_
    try simp only [Act.put, List.setIfInBounds_toArray, List.set_cons_zero, List.set_cons_succ]
    refine text_skipH (by kernel_rfl) ?_
    try simp only [Act.put, List.setIfInBounds_toArray, List.set_cons_zero, List.set_cons_succ]
    refine BoxP.mk ?_
    refine' text_chunk 2 (by kernel_rfl) hHeld ?ck6 ?cr6
    case ck6 =>
      intro W hSw
      have hSW := hSw
      try dsimp only at hSW
      clear hSw
      simp only [List.take_succ_cons, List.take_zero, List.drop_succ_cons, List.drop_zero]
      repeat (go_big_quiet_step (fail))
      exact wpQuiet_nil rfl
    simp only [List.take_succ_cons, List.take_zero, List.drop_succ_cons, List.drop_zero]
    refine text_done ?_
    have HE := Lib.hid hHeld.2.2.2.out
    clear hHeld
    go_wp2
    go_ret
    exact ⟨rfl, HE.out⟩
  · go_enter Try.func78, Try.ntmps78
    go_upto_region 1 with fail
    refine wp_region_order (fun X : World => X.cell? ⟨bn, 2 + bef k, none⟩ = some (.int .i64 fy) ∧ X.cell? ⟨Bn, 0, none⟩ = some (.pointer (some ⟨bn, 0, none⟩)) ∧ X.cell? ⟨Bm, 0, none⟩ = some (.int .i64 m) ∧ Hid (Ext w X)) [0, 1, 2, 3, 4, 5, 7, 8, 11, 6, 9, 10, 12, 13, 14] (by kernel_rfl) (by kernel_rfl) (by exact ⟨c2, hn, hm, Lib.hid (Ext.refl _).drew⟩) (fun hHeld => ?_)
    simp only [opsIn, List.filterMap_cons, List.filterMap_nil, List.getElem?_toArray, List.getElem?_cons_succ, List.getElem?_cons_zero]
    refine' text_chunk 2 (by kernel_rfl) hHeld ?ck7 ?cr7
    case ck7 =>
      intro W hSw
      have hSW := hSw
      try dsimp only at hSW
      clear hSw
      simp only [List.take_succ_cons, List.take_zero, List.drop_succ_cons, List.drop_zero]
      repeat (go_big_quiet_step (fail))
      exact wpQuiet_nil rfl
    simp only [List.take_succ_cons, List.take_zero, List.drop_succ_cons, List.drop_zero]
    refine text_call (by rfl) (by rfl) (fun K hK => ?_)
    go_simp
    go_at_call 79
    refine (H79.out).mono ?_
    rintro e w5 ⟨rfl, hb5⟩
    have HB5 := Lib.hid hb5; clear hb5
    all_goals (try (go_wp2_with fail))
    refine hK.out _ _ (by exact ⟨cell_ext HB5.out hHeld.1, cell_ext HB5.out hHeld.2.1, cell_ext HB5.out hHeld.2.2.1, Lib.hid (hHeld.2.2.2.out.trans HB5.out)⟩) (fun hHeld => ?_)
    clear hK K
    try simp only [Act.put, List.setIfInBounds_toArray, List.set_cons_zero, List.set_cons_succ]
    refine' text_chunk 6 (by kernel_rfl) hHeld ?ck8 ?cr8
    case ck8 =>
      intro W hSw
      have hSW := hSw
      try dsimp only at hSW
      clear hSw
      simp only [List.take_succ_cons, List.take_zero, List.drop_succ_cons, List.drop_zero]
      repeat (go_big_quiet_step (fail))
      exact wpQuiet_nil rfl
    simp only [List.take_succ_cons, List.take_zero, List.drop_succ_cons, List.drop_zero]
    refine text_call (by rfl) (by rfl) (fun K hK => ?_)
    go_simp
    go_at_call 74
    refine (before74 k _ k100).mono ?_
    rintro e w5 ⟨rfl, rfl⟩
    all_goals (try (go_wp2_with fail))
    refine hK.out _ _ (by exact hHeld) (fun hHeld => ?_)
    clear hK K
    try simp only [Act.put, List.setIfInBounds_toArray, List.set_cons_zero, List.set_cons_succ]
    refine' text_chunk 5 (by kernel_rfl) hHeld ?ck9 ?cr9
    case ck9 =>
      intro W hSw
      have hSW := hSw
      try dsimp only at hSW
      clear hSw
      simp only [List.take_succ_cons, List.take_zero, List.drop_succ_cons, List.drop_zero]
      repeat (go_big_quiet_step (fail))
      exact wpQuiet_nil rfl
    simp only [List.take_succ_cons, List.take_zero, List.drop_succ_cons, List.drop_zero]
    refine text_done ?_
    have HE := Lib.hid hHeld.2.2.2.out
    clear hHeld
    go_wp2
    go_ret
    exact ⟨rfl, HE.out⟩
end Go.Proofs.Ytclcippfodjfeaa
