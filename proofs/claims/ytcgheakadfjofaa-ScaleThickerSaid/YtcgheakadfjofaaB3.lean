/- feet, by its contract: what a log scales. -/
import Derived.Test.YtcgheakadfjofaaB2
import Derived.Test.YtcgheakadfjofaaZ3
namespace Go.Proofs.Ytcgheakadfjofaa
open Go.RowKit
set_option linter.unusedVariables false
set_option linter.unusedSimpArgs false
/-- A stem whose numbers are in range, and whose bad feet come in order. -/
structure Vw (th bd : List Int) (r : Rl) : Prop where
  one : 1 ≤ th.length
  most : th.length ≤ 61
  thick : ∀ x ∈ th, 0 ≤ x ∧ x ≤ 60
  up : up bd = true
  rule : Vr r
theorem Vs.weak {th bd : List Int} {r : Rl} (h : Vs th bd) (hr : Vr r) : Vw th bd r := ⟨by have := h.two; omega, h.most, h.thick, h.up, hr⟩
theorem feet_val {s ln dv : Int} (h1 : 0 ≤ s) (h2 : s ≤ 60) (h3 : 0 ≤ ln) (h4 : ln ≤ 60) (h5 : 1 ≤ dv) (h6 : dv ≤ 100) : wrap64 ((wrap64 (wrap64 (s * s) * ln)).tdiv dv) = s * s * ln / dv := by
  have p1 : 0 ≤ s * s := Int.mul_nonneg h1 h1
  have p2 : s * s ≤ 60 * 60 := Int.mul_le_mul h2 h2 h1 (by omega)
  have p3 : 0 ≤ s * s * ln := Int.mul_nonneg p1 h3
  have p4 : s * s * ln ≤ 3600 * 60 := Int.mul_le_mul p2 h4 h3 (by omega)
  have p5 : 0 ≤ s * s * ln / dv := Int.ediv_nonneg p3 (by omega)
  have p6 : s * s * ln / dv ≤ s * s * ln := Int.ediv_le_self _ p3
  have e : ∀ a : Int, 0 ≤ a → a ≤ 1000000 → wrap64 a = a := fun a h h' => by simp [wrap64]; omega
  rw [e _ p1 (by omega), e _ p3 (by omega), Int.tdiv_eq_ediv_of_nonneg p3, e _ p5 (by omega)]
set_option maxRecDepth 100000 in
set_option maxHeartbeats 4000000 in
theorem feet52 (b : Nat) (vt vb : Value) (th bd : List Int) (r : Rl) (ps : List Int) (i j : Nat) (w : World) (hy : YardAt w b vt vb th bd r ps) (hv : Vw th bd r) (hij : i < j) (hj : j < th.length) :
    Calls Try.prog 52 #[.pointer (some ⟨b, 0, none⟩), .agg #[.int .i64 (i : Int), .int .i64 (j : Int)]] w fun e w' => e = .returned (.int .i64 (sF th bd r i j)) ∧ Ext w w' := by
  obtain ⟨hl, a, cap, rfl⟩ := hy.th.shape
  have hy0 := hy
  have E0 := Lib.hid ((Ext.refl w).alloc (.cells #[.int .i64 (i : Int), .int .i64 (j : Int)] 29))
  have hb0 := lt_of_cell hy.cells.1
  have HY := Lib.hid (hy.ext E0.out)
  have HV := Lib.hid hv
  obtain ⟨x, hx⟩ := get_some hj
  have hxi : th.getD j 0 = x := by simp [List.getD, hx]
  have hx60 : 0 ≤ x ∧ x ≤ 60 := hv.thick x (List.mem_of_getElem? hx)
  obtain ⟨b1, off, x', rfl, hx', hck⟩ := HY.out.th.at hj
  obtain rfl : x = x' := by rw [hx] at hx'; exact Option.some.inj hx'
  obtain ⟨c0, -, c2, c3, c4, c5, c6, c7, c8⟩ := HY.out.cells
  obtain ⟨q1, q2, q3, q4, q5, q6, q7, q8, q9, q10, q11, q12, q13⟩ := hv.rule
  have hth := hv.most
  have hup := hv.up
  obtain ⟨res, hres⟩ : ∃ res, res = sF th bd r i j := ⟨_, rfl⟩
  rw [← hres]
  have hR : res = if badB bd i j = true then 0 else if (j : Int) - i - r.tr < r.lo ∨ r.hi < (j : Int) - i - r.tr ∨ ((j : Int) - i - r.tr) % r.st ≠ 0 ∨ x < r.tn then 0 else max 0 (x - r.off) * max 0 (x - r.off) * ((j : Int) - i - r.tr) / r.dv := by
    rw [hres]; unfold sF scl badB; rw [Int.toNat_natCast, hxi]
  obtain ⟨ln, hln⟩ : ∃ ln : Int, ln = (j : Int) - i - r.tr := ⟨_, rfl⟩
  rw [← hln] at hR
  have hlnb : -5 ≤ ln ∧ ln ≤ 60 := by omega
  have HSND := Lib.hid (fun W (h : YardAt W b (.slice (some ⟨b1, off, none⟩) th.length cap) vb th bd r ps) => sound77 b _ vb th bd r ps i j W h hup)
  have hw1 : IntKind.i64.wrap ((j : Int) - (i : Int)) = (j : Int) - i := wrapi64 _ (by omega) (by omega)
  have hw2 : IntKind.i64.wrap ((j : Int) - (i : Int) - r.tr) = ln := by rw [hln]; exact wrapi64 _ (by omega) (by omega)
  have hja : (0 : Int) ≤ (j : Int) := by omega
  have hjb : (j : Int) < (th.length : Int) := by omega
  have d0 : (w.alloc (.cells #[.int .i64 (i : Int), .int .i64 (j : Int)] 29)).cell? ⟨w.heap.size, 0, none⟩ = some (.int .i64 (i : Int)) := World.cell?_alloc_at _ _ _ _ rfl
  have d1 : (w.alloc (.cells #[.int .i64 (i : Int), .int .i64 (j : Int)] 29)).cell? ⟨w.heap.size, 1, none⟩ = some (.int .i64 (j : Int)) := World.cell?_alloc_at _ _ _ _ rfl
  have HR := Lib.hid hR; have HX := Lib.hid hx; have HLN := Lib.hid hln; have HRES := Lib.hid hres
  clear hR hx hx' hxi hy hv hup hln hres
  have HKP := Lib.hid (show ∀ X X' : World, (fun X : World => X.cell? ⟨b, 2, none⟩ = some (.int .i64 r.lo) ∧ X.cell? ⟨b, 3, none⟩ = some (.int .i64 r.hi) ∧ X.cell? ⟨b, 4, none⟩ = some (.int .i64 r.st) ∧ X.cell? ⟨b, 6, none⟩ = some (.int .i64 r.off) ∧ X.cell? ⟨b, 7, none⟩ = some (.int .i64 r.dv) ∧ X.cell? ⟨b, 8, none⟩ = some (.int .i64 r.tn) ∧ X.cell? ⟨w.heap.size, 0, none⟩ = some (.int .i64 (i : Int)) ∧ X.cell? ⟨w.heap.size, 1, none⟩ = some (.int .i64 (j : Int)) ∧ Hid (Ext w X)) X → Ext X X' → (fun X : World => X.cell? ⟨b, 2, none⟩ = some (.int .i64 r.lo) ∧ X.cell? ⟨b, 3, none⟩ = some (.int .i64 r.hi) ∧ X.cell? ⟨b, 4, none⟩ = some (.int .i64 r.st) ∧ X.cell? ⟨b, 6, none⟩ = some (.int .i64 r.off) ∧ X.cell? ⟨b, 7, none⟩ = some (.int .i64 r.dv) ∧ X.cell? ⟨b, 8, none⟩ = some (.int .i64 r.tn) ∧ X.cell? ⟨w.heap.size, 0, none⟩ = some (.int .i64 (i : Int)) ∧ X.cell? ⟨w.heap.size, 1, none⟩ = some (.int .i64 (j : Int)) ∧ Hid (Ext w X)) X' from fun X X' h hb => ⟨cell_ext hb h.1, cell_ext hb h.2.1, cell_ext hb h.2.2.1, cell_ext hb h.2.2.2.1, cell_ext hb h.2.2.2.2.1, cell_ext hb h.2.2.2.2.2.1, cell_ext hb h.2.2.2.2.2.2.1, cell_ext hb h.2.2.2.2.2.2.2.1, Lib.hid (Ext.trans h.2.2.2.2.2.2.2.2.out hb)⟩)
  have HY0 := Lib.hid hy0
  clear hy0
  by_cases hin0 : r.lo ≤ ln ∧ ln ≤ r.hi
  · have hin : inn r.lo r.hi [ln] = true := by simp [inn]; omega
    have hln0 : 0 ≤ ln := by omega
    by_cases hrem : ln % r.st = 0
    · have hrb : (ln % r.st != 0) = false := by simp [hrem]
      by_cases htn : x < r.tn
      · go_enter Try.func52, Try.ntmps52
        go_wp2
        go_quiet (fail)
        go_wp2
        have h55 := fun (u : Value) (W : World) (h : Reads W u [ln]) => within55 r.lo r.hi u [ln] W h
        rw [hin] at h55
        have H55 := Lib.hid h55
        clear h55 hin
        refine wp_region_text (fun X : World => X.cell? ⟨b, 2, none⟩ = some (.int .i64 r.lo) ∧ X.cell? ⟨b, 3, none⟩ = some (.int .i64 r.hi) ∧ X.cell? ⟨b, 4, none⟩ = some (.int .i64 r.st) ∧ X.cell? ⟨b, 6, none⟩ = some (.int .i64 r.off) ∧ X.cell? ⟨b, 7, none⟩ = some (.int .i64 r.dv) ∧ X.cell? ⟨b, 8, none⟩ = some (.int .i64 r.tn) ∧ X.cell? ⟨w.heap.size, 0, none⟩ = some (.int .i64 (i : Int)) ∧ X.cell? ⟨w.heap.size, 1, none⟩ = some (.int .i64 (j : Int)) ∧ Hid (Ext w X)) (by kernel_rfl) (by kernel_rfl) (by exact ⟨c2, c3, c4, c6, c7, c8, d0, d1, Lib.hid (Ext.drewN E0.out _).drew⟩) (fun hHeld => ?_)
        simp only [List.toList_toArray]
        refine' text_chunk 11 (by kernel_rfl) hHeld ?ck4 ?cr4
        case ck4 =>
          intro W hSw
          have hSW := hSw
          try dsimp only at hSW
          clear hSw
          simp only [List.take_succ_cons, List.take_zero, List.drop_succ_cons, List.drop_zero]
          repeat (go_big_quiet_step (fail))
          exact wpQuiet_nil rfl
        simp only [List.take_succ_cons, List.take_zero, List.drop_succ_cons, List.drop_zero]
        refine text_call (by rfl) (by rfl) (fun K hK => ?_)
        go_simp
        all_goals (try (go_wp2_with fail))
        refine hK.out _ _ (by exact HKP.out _ _ hHeld (Ext.alloc (Ext.refl _) _)) (fun hHeld => ?_)
        clear hK K
        try simp only [Act.put, List.setIfInBounds_toArray, List.set_cons_zero, List.set_cons_succ]
        refine text_call (by rfl) (by rfl) (fun K hK => ?_)
        go_simp
        (go_at_call 55; refine (H55.out _ _ ?_).mono ?_; (exact Reads.new _ [ln] _ _ (by simp) (by simp) _ rfl 1 1 rfl); rintro e w5 ⟨rfl, rfl⟩)
        all_goals (try (go_wp2_with fail))
        refine hK.out _ _ (by exact hHeld) (fun hHeld => ?_)
        clear hK K
        try simp only [Act.put, List.setIfInBounds_toArray, List.set_cons_zero, List.set_cons_succ]
        refine' text_chunk 23 (by kernel_rfl) hHeld ?ck5 ?cr5
        case ck5 =>
          intro W hSw
          have hSW := hSw
          try dsimp only at hSW
          clear hSw
          simp only [List.take_succ_cons, List.take_zero, List.drop_succ_cons, List.drop_zero]
          repeat (go_big_quiet_step (fail))
          exact wpQuiet_nil rfl
        simp only [List.take_succ_cons, List.take_zero, List.drop_succ_cons, List.drop_zero]
        refine text_skip (by rfl) ?_
        try simp only [Act.put, List.setIfInBounds_toArray, List.set_cons_zero, List.set_cons_succ]
        refine' text_chunk 2 (by kernel_rfl) hHeld ?ck6 ?cr6
        case ck6 =>
          intro W hSw
          have hSW := hSw
          try dsimp only at hSW
          clear hSw
          simp only [List.take_succ_cons, List.take_zero, List.drop_succ_cons, List.drop_zero]
          repeat (go_big_quiet_step (fail))
          exact wpQuiet_nil rfl
        simp only [List.take_succ_cons, List.take_zero, List.drop_succ_cons, List.drop_zero]
        refine text_done ?_
        have HLAST := hHeld.2.2.2.2.2.2.2.2
        clear hHeld
        go_wp2
        go_ret
        refine ⟨ret_int ?_, HLAST.out⟩
        rw [HR.out]
        split
        · rfl
        · rw [if_pos (by omega)]
      · have htd : decide (x < r.tn) = false := decide_eq_false htn
        cases hbad : badB bd i j
        · have h77 := fun (W : World) (h : YardAt W b (.slice (some ⟨b1, off, none⟩) th.length cap) vb th bd r ps) => sound77 b _ vb th bd r ps i j W h HV.out.up
          rw [hbad] at h77
          have H77 := Lib.hid h77
          have HBAD := Lib.hid hbad
          clear h77 hbad
          go_enter Try.func52, Try.ntmps52
          go_wp2
          go_quiet (fail)
          go_wp2
          have h55 := fun (u : Value) (W : World) (h : Reads W u [ln]) => within55 r.lo r.hi u [ln] W h
          rw [hin] at h55
          have H55 := Lib.hid h55
          clear h55 hin
          refine wp_region_text (fun X : World => X.cell? ⟨b, 2, none⟩ = some (.int .i64 r.lo) ∧ X.cell? ⟨b, 3, none⟩ = some (.int .i64 r.hi) ∧ X.cell? ⟨b, 4, none⟩ = some (.int .i64 r.st) ∧ X.cell? ⟨b, 6, none⟩ = some (.int .i64 r.off) ∧ X.cell? ⟨b, 7, none⟩ = some (.int .i64 r.dv) ∧ X.cell? ⟨b, 8, none⟩ = some (.int .i64 r.tn) ∧ X.cell? ⟨w.heap.size, 0, none⟩ = some (.int .i64 (i : Int)) ∧ X.cell? ⟨w.heap.size, 1, none⟩ = some (.int .i64 (j : Int)) ∧ Hid (Ext w X)) (by kernel_rfl) (by kernel_rfl) (by exact ⟨c2, c3, c4, c6, c7, c8, d0, d1, Lib.hid (Ext.drewN E0.out _).drew⟩) (fun hHeld => ?_)
          simp only [List.toList_toArray]
          refine' text_chunk 11 (by kernel_rfl) hHeld ?ck7 ?cr7
          case ck7 =>
            intro W hSw
            have hSW := hSw
            try dsimp only at hSW
            clear hSw
            simp only [List.take_succ_cons, List.take_zero, List.drop_succ_cons, List.drop_zero]
            repeat (go_big_quiet_step (fail))
            exact wpQuiet_nil rfl
          simp only [List.take_succ_cons, List.take_zero, List.drop_succ_cons, List.drop_zero]
          refine text_call (by rfl) (by rfl) (fun K hK => ?_)
          go_simp
          all_goals (try (go_wp2_with fail))
          refine hK.out _ _ (by exact HKP.out _ _ hHeld (Ext.alloc (Ext.refl _) _)) (fun hHeld => ?_)
          clear hK K
          try simp only [Act.put, List.setIfInBounds_toArray, List.set_cons_zero, List.set_cons_succ]
          refine text_call (by rfl) (by rfl) (fun K hK => ?_)
          go_simp
          (go_at_call 55; refine (H55.out _ _ ?_).mono ?_; (exact Reads.new _ [ln] _ _ (by simp) (by simp) _ rfl 1 1 rfl); rintro e w5 ⟨rfl, rfl⟩)
          all_goals (try (go_wp2_with fail))
          refine hK.out _ _ (by exact hHeld) (fun hHeld => ?_)
          clear hK K
          try simp only [Act.put, List.setIfInBounds_toArray, List.set_cons_zero, List.set_cons_succ]
          refine' text_chunk 23 (by kernel_rfl) hHeld ?ck8 ?cr8
          case ck8 =>
            intro W hSw
            have hSW := hSw
            try dsimp only at hSW
            clear hSw
            simp only [List.take_succ_cons, List.take_zero, List.drop_succ_cons, List.drop_zero]
            repeat (go_big_quiet_step (fail))
            exact wpQuiet_nil rfl
          simp only [List.take_succ_cons, List.take_zero, List.drop_succ_cons, List.drop_zero]
          refine text_call (by rfl) (by rfl) (fun K hK => ?_)
          go_simp
          (go_at_call 77; refine (H77.out _ (HY0.out.ext hHeld.2.2.2.2.2.2.2.2.out)).mono ?_; rintro e w7 ⟨rfl, hb⟩)
          all_goals (try (go_wp2_with fail))
          refine hK.out _ _ (by exact HKP.out _ _ hHeld hb) (fun hHeld => ?_)
          clear hK K
          try simp only [Act.put, List.setIfInBounds_toArray, List.set_cons_zero, List.set_cons_succ]
          refine' text_chunk 2 (by kernel_rfl) hHeld ?ck9 ?cr9
          case ck9 =>
            intro W hSw
            have hSW := hSw
            try dsimp only at hSW
            clear hSw
            simp only [List.take_succ_cons, List.take_zero, List.drop_succ_cons, List.drop_zero]
            repeat (go_big_quiet_step (fail))
            exact wpQuiet_nil rfl
          simp only [List.take_succ_cons, List.take_zero, List.drop_succ_cons, List.drop_zero]
          refine text_done ?_
          have c6 := hHeld.2.2.2.1
          have c7 := hHeld.2.2.2.2.1
          have HLAST := hHeld.2.2.2.2.2.2.2.2
          clear hHeld
          go_wp2
          all_goals
            go_ret
            refine ⟨ret_int ?_, HLAST.out⟩
            rw [HR.out, HBAD.out]
            simp only [Bool.false_eq_true, if_false]
            rw [if_neg (by omega)]
            first
              | (rw [show max 0 (x - r.off) = x - r.off from by omega]; exact feet_val (by omega) (by omega) hln0 (by omega) q10 q11)
              | (rw [show max 0 (x - r.off) = 0 from by omega]; simp [wrap64])
        · have h77 := fun (W : World) (h : YardAt W b (.slice (some ⟨b1, off, none⟩) th.length cap) vb th bd r ps) => sound77 b _ vb th bd r ps i j W h HV.out.up
          rw [hbad] at h77
          have H77 := Lib.hid h77
          have HBAD := Lib.hid hbad
          clear h77 hbad
          go_enter Try.func52, Try.ntmps52
          go_wp2
          go_quiet (fail)
          go_wp2
          have h55 := fun (u : Value) (W : World) (h : Reads W u [ln]) => within55 r.lo r.hi u [ln] W h
          rw [hin] at h55
          have H55 := Lib.hid h55
          clear h55 hin
          refine wp_region_text (fun X : World => X.cell? ⟨b, 2, none⟩ = some (.int .i64 r.lo) ∧ X.cell? ⟨b, 3, none⟩ = some (.int .i64 r.hi) ∧ X.cell? ⟨b, 4, none⟩ = some (.int .i64 r.st) ∧ X.cell? ⟨b, 6, none⟩ = some (.int .i64 r.off) ∧ X.cell? ⟨b, 7, none⟩ = some (.int .i64 r.dv) ∧ X.cell? ⟨b, 8, none⟩ = some (.int .i64 r.tn) ∧ X.cell? ⟨w.heap.size, 0, none⟩ = some (.int .i64 (i : Int)) ∧ X.cell? ⟨w.heap.size, 1, none⟩ = some (.int .i64 (j : Int)) ∧ Hid (Ext w X)) (by kernel_rfl) (by kernel_rfl) (by exact ⟨c2, c3, c4, c6, c7, c8, d0, d1, Lib.hid (Ext.drewN E0.out _).drew⟩) (fun hHeld => ?_)
          simp only [List.toList_toArray]
          refine' text_chunk 11 (by kernel_rfl) hHeld ?ck10 ?cr10
          case ck10 =>
            intro W hSw
            have hSW := hSw
            try dsimp only at hSW
            clear hSw
            simp only [List.take_succ_cons, List.take_zero, List.drop_succ_cons, List.drop_zero]
            repeat (go_big_quiet_step (fail))
            exact wpQuiet_nil rfl
          simp only [List.take_succ_cons, List.take_zero, List.drop_succ_cons, List.drop_zero]
          refine text_call (by rfl) (by rfl) (fun K hK => ?_)
          go_simp
          all_goals (try (go_wp2_with fail))
          refine hK.out _ _ (by exact HKP.out _ _ hHeld (Ext.alloc (Ext.refl _) _)) (fun hHeld => ?_)
          clear hK K
          try simp only [Act.put, List.setIfInBounds_toArray, List.set_cons_zero, List.set_cons_succ]
          refine text_call (by rfl) (by rfl) (fun K hK => ?_)
          go_simp
          (go_at_call 55; refine (H55.out _ _ ?_).mono ?_; (exact Reads.new _ [ln] _ _ (by simp) (by simp) _ rfl 1 1 rfl); rintro e w5 ⟨rfl, rfl⟩)
          all_goals (try (go_wp2_with fail))
          refine hK.out _ _ (by exact hHeld) (fun hHeld => ?_)
          clear hK K
          try simp only [Act.put, List.setIfInBounds_toArray, List.set_cons_zero, List.set_cons_succ]
          refine' text_chunk 23 (by kernel_rfl) hHeld ?ck11 ?cr11
          case ck11 =>
            intro W hSw
            have hSW := hSw
            try dsimp only at hSW
            clear hSw
            simp only [List.take_succ_cons, List.take_zero, List.drop_succ_cons, List.drop_zero]
            repeat (go_big_quiet_step (fail))
            exact wpQuiet_nil rfl
          simp only [List.take_succ_cons, List.take_zero, List.drop_succ_cons, List.drop_zero]
          refine text_call (by rfl) (by rfl) (fun K hK => ?_)
          go_simp
          (go_at_call 77; refine (H77.out _ (HY0.out.ext hHeld.2.2.2.2.2.2.2.2.out)).mono ?_; rintro e w7 ⟨rfl, hb⟩)
          all_goals (try (go_wp2_with fail))
          refine hK.out _ _ (by exact HKP.out _ _ hHeld hb) (fun hHeld => ?_)
          clear hK K
          try simp only [Act.put, List.setIfInBounds_toArray, List.set_cons_zero, List.set_cons_succ]
          refine' text_chunk 2 (by kernel_rfl) hHeld ?ck12 ?cr12
          case ck12 =>
            intro W hSw
            have hSW := hSw
            try dsimp only at hSW
            clear hSw
            simp only [List.take_succ_cons, List.take_zero, List.drop_succ_cons, List.drop_zero]
            repeat (go_big_quiet_step (fail))
            exact wpQuiet_nil rfl
          simp only [List.take_succ_cons, List.take_zero, List.drop_succ_cons, List.drop_zero]
          refine text_done ?_
          have HLAST := hHeld.2.2.2.2.2.2.2.2
          clear hHeld
          go_wp2
          go_ret
          refine ⟨ret_int ?_, HLAST.out⟩
          rw [HR.out, HBAD.out]; rfl
    · have hrb : (ln % r.st != 0) = true := by simpa using hrem
      go_enter Try.func52, Try.ntmps52
      go_wp2
      go_quiet (fail)
      go_wp2
      have h55 := fun (u : Value) (W : World) (h : Reads W u [ln]) => within55 r.lo r.hi u [ln] W h
      rw [hin] at h55
      have H55 := Lib.hid h55
      clear h55 hin
      refine wp_region_text (fun X : World => X.cell? ⟨b, 2, none⟩ = some (.int .i64 r.lo) ∧ X.cell? ⟨b, 3, none⟩ = some (.int .i64 r.hi) ∧ X.cell? ⟨b, 4, none⟩ = some (.int .i64 r.st) ∧ X.cell? ⟨b, 6, none⟩ = some (.int .i64 r.off) ∧ X.cell? ⟨b, 7, none⟩ = some (.int .i64 r.dv) ∧ X.cell? ⟨b, 8, none⟩ = some (.int .i64 r.tn) ∧ X.cell? ⟨w.heap.size, 0, none⟩ = some (.int .i64 (i : Int)) ∧ X.cell? ⟨w.heap.size, 1, none⟩ = some (.int .i64 (j : Int)) ∧ Hid (Ext w X)) (by kernel_rfl) (by kernel_rfl) (by exact ⟨c2, c3, c4, c6, c7, c8, d0, d1, Lib.hid (Ext.drewN E0.out _).drew⟩) (fun hHeld => ?_)
      simp only [List.toList_toArray]
      refine' text_chunk 11 (by kernel_rfl) hHeld ?ck13 ?cr13
      case ck13 =>
        intro W hSw
        have hSW := hSw
        try dsimp only at hSW
        clear hSw
        simp only [List.take_succ_cons, List.take_zero, List.drop_succ_cons, List.drop_zero]
        repeat (go_big_quiet_step (fail))
        exact wpQuiet_nil rfl
      simp only [List.take_succ_cons, List.take_zero, List.drop_succ_cons, List.drop_zero]
      refine text_call (by rfl) (by rfl) (fun K hK => ?_)
      go_simp
      all_goals (try (go_wp2_with fail))
      refine hK.out _ _ (by exact HKP.out _ _ hHeld (Ext.alloc (Ext.refl _) _)) (fun hHeld => ?_)
      clear hK K
      try simp only [Act.put, List.setIfInBounds_toArray, List.set_cons_zero, List.set_cons_succ]
      refine text_call (by rfl) (by rfl) (fun K hK => ?_)
      go_simp
      (go_at_call 55; refine (H55.out _ _ ?_).mono ?_; (exact Reads.new _ [ln] _ _ (by simp) (by simp) _ rfl 1 1 rfl); rintro e w5 ⟨rfl, rfl⟩)
      all_goals (try (go_wp2_with fail))
      refine hK.out _ _ (by exact hHeld) (fun hHeld => ?_)
      clear hK K
      try simp only [Act.put, List.setIfInBounds_toArray, List.set_cons_zero, List.set_cons_succ]
      refine' text_chunk 23 (by kernel_rfl) hHeld ?ck14 ?cr14
      case ck14 =>
        intro W hSw
        have hSW := hSw
        try dsimp only at hSW
        clear hSw
        simp only [List.take_succ_cons, List.take_zero, List.drop_succ_cons, List.drop_zero]
        repeat (go_big_quiet_step (fail))
        exact wpQuiet_nil rfl
      simp only [List.take_succ_cons, List.take_zero, List.drop_succ_cons, List.drop_zero]
      refine text_skip (by rfl) ?_
      try simp only [Act.put, List.setIfInBounds_toArray, List.set_cons_zero, List.set_cons_succ]
      refine' text_chunk 2 (by kernel_rfl) hHeld ?ck15 ?cr15
      case ck15 =>
        intro W hSw
        have hSW := hSw
        try dsimp only at hSW
        clear hSw
        simp only [List.take_succ_cons, List.take_zero, List.drop_succ_cons, List.drop_zero]
        repeat (go_big_quiet_step (fail))
        exact wpQuiet_nil rfl
      simp only [List.take_succ_cons, List.take_zero, List.drop_succ_cons, List.drop_zero]
      refine text_done ?_
      have HLAST := hHeld.2.2.2.2.2.2.2.2
      clear hHeld
      go_wp2
      go_ret
      refine ⟨ret_int ?_, HLAST.out⟩
      rw [HR.out]
      split
      · rfl
      · rw [if_pos (by omega)]
  · have hin : inn r.lo r.hi [ln] = false := by simp [inn]; omega
    go_enter Try.func52, Try.ntmps52
    go_wp2
    go_quiet (fail)
    go_wp2
    have h55 := fun (u : Value) (W : World) (h : Reads W u [ln]) => within55 r.lo r.hi u [ln] W h
    rw [hin] at h55
    have H55 := Lib.hid h55
    clear h55 hin
    refine wp_region_text (fun X : World => X.cell? ⟨b, 2, none⟩ = some (.int .i64 r.lo) ∧ X.cell? ⟨b, 3, none⟩ = some (.int .i64 r.hi) ∧ X.cell? ⟨b, 4, none⟩ = some (.int .i64 r.st) ∧ X.cell? ⟨b, 6, none⟩ = some (.int .i64 r.off) ∧ X.cell? ⟨b, 7, none⟩ = some (.int .i64 r.dv) ∧ X.cell? ⟨b, 8, none⟩ = some (.int .i64 r.tn) ∧ X.cell? ⟨w.heap.size, 0, none⟩ = some (.int .i64 (i : Int)) ∧ X.cell? ⟨w.heap.size, 1, none⟩ = some (.int .i64 (j : Int)) ∧ Hid (Ext w X)) (by kernel_rfl) (by kernel_rfl) (by exact ⟨c2, c3, c4, c6, c7, c8, d0, d1, Lib.hid (Ext.drewN E0.out _).drew⟩) (fun hHeld => ?_)
    simp only [List.toList_toArray]
    refine' text_chunk 11 (by kernel_rfl) hHeld ?ck1 ?cr1
    case ck1 =>
      intro W hSw
      have hSW := hSw
      try dsimp only at hSW
      clear hSw
      simp only [List.take_succ_cons, List.take_zero, List.drop_succ_cons, List.drop_zero]
      repeat (go_big_quiet_step (fail))
      exact wpQuiet_nil rfl
    simp only [List.take_succ_cons, List.take_zero, List.drop_succ_cons, List.drop_zero]
    refine text_call (by rfl) (by rfl) (fun K hK => ?_)
    go_simp
    all_goals (try (go_wp2_with fail))
    refine hK.out _ _ (by exact HKP.out _ _ hHeld (Ext.alloc (Ext.refl _) _)) (fun hHeld => ?_)
    clear hK K
    try simp only [Act.put, List.setIfInBounds_toArray, List.set_cons_zero, List.set_cons_succ]
    refine text_call (by rfl) (by rfl) (fun K hK => ?_)
    go_simp
    (go_at_call 55; refine (H55.out _ _ ?_).mono ?_; (exact Reads.new _ [ln] _ _ (by simp) (by simp) _ rfl 1 1 rfl); rintro e w5 ⟨rfl, rfl⟩)
    all_goals (try (go_wp2_with fail))
    refine hK.out _ _ (by exact hHeld) (fun hHeld => ?_)
    clear hK K
    try simp only [Act.put, List.setIfInBounds_toArray, List.set_cons_zero, List.set_cons_succ]
    refine' text_chunk 23 (by kernel_rfl) hHeld ?ck2 ?cr2
    case ck2 =>
      intro W hSw
      have hSW := hSw
      try dsimp only at hSW
      clear hSw
      simp only [List.take_succ_cons, List.take_zero, List.drop_succ_cons, List.drop_zero]
      repeat (go_big_quiet_step (fail))
      exact wpQuiet_nil rfl
    simp only [List.take_succ_cons, List.take_zero, List.drop_succ_cons, List.drop_zero]
    refine text_skip (by rfl) ?_
    try simp only [Act.put, List.setIfInBounds_toArray, List.set_cons_zero, List.set_cons_succ]
    refine' text_chunk 2 (by kernel_rfl) hHeld ?ck3 ?cr3
    case ck3 =>
      intro W hSw
      have hSW := hSw
      try dsimp only at hSW
      clear hSw
      simp only [List.take_succ_cons, List.take_zero, List.drop_succ_cons, List.drop_zero]
      repeat (go_big_quiet_step (fail))
      exact wpQuiet_nil rfl
    simp only [List.take_succ_cons, List.take_zero, List.drop_succ_cons, List.drop_zero]
    refine text_done ?_
    have HLAST := hHeld.2.2.2.2.2.2.2.2
    clear hHeld
    go_wp2
    go_ret
    refine ⟨ret_int ?_, HLAST.out⟩
    rw [HR.out]
    split
    · rfl
    · rw [if_pos (by omega)]
end Go.Proofs.Ytcgheakadfjofaa
