/- The reference: isWay, by its contract. The reference: sides, by its contract. Ways apart, as the reference says it: plain. -/
import Derived.Test.YtppjnpempgpkaaaGreatRA
import Derived.Test.YtppjnpempgpkaaaGreatH7
import Derived.Test.YtppjnpempgpkaaaGreatH6
import Derived.Test.YtppjnpempgpkaaaGreatN3
import Derived.Test.YtppjnpempgpkaaaGreatK1
import Derived.Test.YtppjnpempgpkaaaGreatE0
import Derived.Test.YtppjnpempgpkaaaGreatJ3
namespace Go.Proofs.YtppjnpempgpkaaaGreat
open Go.RowKit Go.Shelf
set_option linter.unusedVariables false
set_option linter.unusedSimpArgs false
attribute [local go_sem] Oper.semAt_some

set_option maxRecDepth 100000 in
set_option maxHeartbeats 4000000 in
theorem risWay_c (W H nw cw nk ck : Nat) (aw ak : Option Addr) (wl kl xs : List Int) (o : Int) (v : Value) (w : World) (hW : 1 ≤ W ∧ W ≤ 8) (hH : 1 ≤ H ∧ H ≤ 8) (hwl : Reads w (.slice aw nw cw) wl) (hkl : Reads w (.slice ak nk ck) kl) (hxs : Reads w v xs) (hne : 0 < xs.length) (hin : ∀ x ∈ xs, 0 ≤ x ∧ x < ((W * H : Nat) : Int)) (ho : -1 ≤ o ∧ o ≤ 3) :
    Calls Tryz.prog 62 #[.agg #[.int .i64 (W : Int), .int .i64 (H : Int), .slice aw nw cw, .slice ak nk ck], .agg #[v, .int .i64 o]] w fun e w' => e = .returned (.bool (wayB W H wl kl (xs, o))) ∧ Ext w w' := by
  obtain ⟨hxl, sa, sc, rfl⟩ := hxs.shape
  obtain ⟨n, hn⟩ : ∃ n, n = xs.length := ⟨_, rfl⟩
  rw [← hn] at hxs hne hxl ⊢
  have HN := Lib.hid hn
  have HX := Lib.hid hxs; have HIN := Lib.hid hin
  have HWL := Lib.hid hwl; have HKL := Lib.hid hkl
  clear hn hxs hin hwl hkl
  have hn63 : n ≤ 9223372036854775806 := by omega
  obtain ⟨w1, hw1⟩ : ∃ w1, w1 = (w.alloc (.cells #[.int .i64 (W : Int), .int .i64 (H : Int), .slice aw nw cw, .slice ak nk ck] 24)).alloc (.cells #[.slice sa n sc, .int .i64 o] 60) := ⟨_, rfl⟩
  have E0 := Lib.hid (show Ext w w1 from by rw [hw1]; exact ((Ext.refl w).alloc _).alloc _)
  have B0 := Lib.hid (show w1.heap[w.heap.size]? = some (.cells #[.int .i64 (W : Int), .int .i64 (H : Int), .slice aw nw cw, .slice ak nk ck] 24 (0, 0)) from by rw [hw1]; exact block_ext ((Ext.refl _).alloc _) (heap_alloc_new w _))
  have B1 := Lib.hid (show w1.heap[w.heap.size + 1]? = some (.cells #[.slice sa n sc, .int .i64 o] 60 (0, 0)) from by rw [hw1]; exact heap_alloc_at _ _ (by simp))
  obtain ⟨r, hr⟩ : ∃ r, r = wayB W H wl kl (xs, o) := ⟨_, rfl⟩
  rw [← hr]
  have HR := Lib.hid hr
  clear hr
  go_enter Tryz.func62, Tryz.ntmps62
  go_upto_region 1 with fail
  rw [← hw1]
  clear hw1
  go_wp2
  go_loopw [5] (fun i wr => ∃ k : Nat, k + 1 ≤ n ∧ i = .int .i64 ((k : Int) + 1) ∧ Hid (stepB W H xs k = true) ∧ Hid (wr.heap[w.heap.size]? = some (.cells #[.int .i64 (W : Int), .int .i64 (H : Int), .slice aw nw cw, .slice ak nk ck] 24 (0, 0))) ∧ Hid (wr.heap[w.heap.size + 1]? = some (.cells #[.slice sa n sc, .int .i64 o] 60 (0, 0))) ∧ Hid (Ext w wr)) (fun i wr => n + 1 - (intOf i).toNat)
  case atStart => exact ⟨0, hne, rfl, (by rfl : _ = true), B0, B1, E0⟩
  case round =>
    clear B0 B1 E0
    obtain ⟨k, hk, rfl, hI, hp, hw, hE⟩ := hrel
    obtain ⟨z0, z1, z2, z3⟩ := cells4 hp.out
    obtain ⟨y0, y1⟩ := cells2 hw.out
    by_cases hlt : k + 1 < n
    · obtain ⟨b, off, y, rfl, hy, hcy⟩ := (HX.out.ext hE.out).at (show k + 1 < xs.length by have := HN.out; omega)
      obtain ⟨b', off', x, hbx, hx, hcx⟩ := (HX.out.ext hE.out).at (show k < xs.length by have := HN.out; omega)
      cases hbx
      have h1 := HIN.out x (List.mem_of_getElem? hx)
      obtain ⟨c, rfl⟩ : ∃ c : Nat, x = c := ⟨x.toNat, by omega⟩
      have HDT := Lib.hid (fun (X : World) => dirTo_c W H nw cw nk ck aw ak c y X hW hH (by omega))
      have HSS := Lib.hid (show stepB W H xs (k + 1) = decide (btI W H c y < 4) from by rw [stepB_succ, hI.out, Bool.true_and, tAt_some hx, tAt_some hy]; rfl)
      have hka : (0 : Int) ≤ (k : Int) := by omega
      have hkb : (k : Int) < (n : Int) := by omega
      have hkc : (0 : Int) ≤ (k : Int) + 1 := by omega
      have hkd : (k : Int) + 1 < (n : Int) := by omega
      have hw1 : IntKind.i64.wrap ((k : Int) + 1 - 1) = (k : Int) := by rw [show (k : Int) + 1 - 1 = k from by omega]; exact wrapi64 _ (by omega) (by omega)
      have hw2 : IntKind.i64.wrap ((k : Int)) = (k : Int) := wrapi64 _ (by omega) (by omega)
      have ht : ((k : Int) + 1).toNat = k + 1 := by omega
      have ht2 : (k : Int).toNat = k := by omega
      obtain ⟨d, hd⟩ : ∃ d, d = dirI W H c y := ⟨_, rfl⟩
      rw [← hd] at HDT
      have HP := hp; have HWB := hw; have HE := hE
      clear h1 hx hy
      by_cases hb : btI W H c y < 4
      · have hdn : ¬ d < 0 := by rw [hd]; unfold dirI; rw [if_pos hb]; omega
        have HSN := Lib.hid (HSS.out.trans (decide_eq_true hb))
        clear hd hb
        go_upto_region 4 with fail
        clear z0 z1 z2 z3 y0 y1
        refine wp_region_order ((fun Y : World => Y.heap[w.heap.size]? = some (.cells #[.int .i64 (W : Int), .int .i64 (H : Int), .slice aw nw cw, .slice ak nk ck] 24 (0, 0)) ∧ Y.heap[w.heap.size + 1]? = some (.cells #[.slice (some ⟨b, off, none⟩) n sc, .int .i64 o] 60 (0, 0)) ∧ Y.cell? ⟨b, off + k, none⟩ = some (.int .i64 (c : Int)) ∧ Y.cell? ⟨b, off + (k + 1), none⟩ = some (.int .i64 y))) [0, 1, 2, 3, 4, 5, 6, 7, 8, 9, 10, 11, 12, 13] (by kernel_rfl) (by kernel_rfl) (by exact ⟨hp.out, hw.out, hcx, hcy⟩) (fun hHeld => ?_)
        simp only [opsIn, List.filterMap_cons, List.filterMap_nil, List.getElem?_toArray, List.getElem?_cons_succ, List.getElem?_cons_zero]
        refine' text_chunk 12 (by kernel_rfl) hHeld ?ck1 ?cr1
        case ck1 =>
          intro W hSw
          have hSW := hSw
          try dsimp only at hSW
          clear hSw
          obtain ⟨s1, s2, s3, s4⟩ := hSW
          obtain ⟨z0, z1, z2, z3⟩ := cells4 s1
          obtain ⟨y0, y1⟩ := cells2 s2
          clear s1 s2
          simp only [List.take_succ_cons, List.take_zero, List.drop_succ_cons, List.drop_zero]
          repeat (go_big_quiet_step (fail))
          exact wpQuiet_nil rfl
        simp only [List.take_succ_cons, List.take_zero, List.drop_succ_cons, List.drop_zero]
        refine text_call (by rfl) (by rfl) (fun K hK => ?_)
        go_simp
        refine Calls.mono (HDT.out _) ?_
        intro e Y5 h1; obtain ⟨h1, hE⟩ := h1; subst h1
        have HD5 := Lib.hid hE
        clear hE
        all_goals (try (go_wp2_with fail))
        refine hK.out _ _ (by exact ⟨block_ext HD5.out hHeld.1, block_ext HD5.out hHeld.2.1, cell_ext HD5.out hHeld.2.2.1, cell_ext HD5.out hHeld.2.2.2⟩) (fun hHeld => ?_)
        clear hK K
        try simp only [Act.put, List.setIfInBounds_toArray, List.set_cons_zero, List.set_cons_succ]
        refine' text_chunk 1 (by kernel_rfl) hHeld ?ck2 ?cr2
        case ck2 =>
          intro W hSw
          have hSW := hSw
          try dsimp only at hSW
          clear hSw
          skip
          simp only [List.take_succ_cons, List.take_zero, List.drop_succ_cons, List.drop_zero]
          repeat (go_big_quiet_step (fail))
          exact wpQuiet_nil rfl
        simp only [List.take_succ_cons, List.take_zero, List.drop_succ_cons, List.drop_zero]
        refine text_done ?_
        have HP5 := Lib.hid hHeld.1; have HW5 := Lib.hid hHeld.2.1
        have HE5 := Lib.hid (HE.out.drew.trans HD5.out)
        clear hHeld HD5
        go_wp2
        go_roundw
        case rel => exact ⟨k + 1, by omega, by go_num, HSN, HP5, HW5, HE5⟩
        case measure => simp [intOf]; omega
      · have hdn : d < 0 := by rw [hd]; unfold dirI; rw [if_neg hb]; omega
        have HF := Lib.hid (show r = false from by
          rw [HR.out]
          unfold wayB
          rw [stepB_no (k := k) (by have := HN.out; dsimp only; omega)]
          · rfl
          · have h2 := HSS.out
            rw [stepB_succ, hI.out, Bool.true_and, decide_eq_false hb] at h2
            simpa using h2)
        clear hd hb
        go_upto_region 4 with fail
        clear z0 z1 z2 z3 y0 y1
        refine wp_region_order ((fun Y : World => Y.heap[w.heap.size]? = some (.cells #[.int .i64 (W : Int), .int .i64 (H : Int), .slice aw nw cw, .slice ak nk ck] 24 (0, 0)) ∧ Y.heap[w.heap.size + 1]? = some (.cells #[.slice (some ⟨b, off, none⟩) n sc, .int .i64 o] 60 (0, 0)) ∧ Y.cell? ⟨b, off + k, none⟩ = some (.int .i64 (c : Int)) ∧ Y.cell? ⟨b, off + (k + 1), none⟩ = some (.int .i64 y))) [0, 1, 2, 3, 4, 5, 6, 7, 8, 9, 10, 11, 12, 13] (by kernel_rfl) (by kernel_rfl) (by exact ⟨hp.out, hw.out, hcx, hcy⟩) (fun hHeld => ?_)
        simp only [opsIn, List.filterMap_cons, List.filterMap_nil, List.getElem?_toArray, List.getElem?_cons_succ, List.getElem?_cons_zero]
        refine' text_chunk 12 (by kernel_rfl) hHeld ?ck3 ?cr3
        case ck3 =>
          intro W hSw
          have hSW := hSw
          try dsimp only at hSW
          clear hSw
          obtain ⟨s1, s2, s3, s4⟩ := hSW
          obtain ⟨z0, z1, z2, z3⟩ := cells4 s1
          obtain ⟨y0, y1⟩ := cells2 s2
          clear s1 s2
          simp only [List.take_succ_cons, List.take_zero, List.drop_succ_cons, List.drop_zero]
          repeat (go_big_quiet_step (fail))
          exact wpQuiet_nil rfl
        simp only [List.take_succ_cons, List.take_zero, List.drop_succ_cons, List.drop_zero]
        refine text_call (by rfl) (by rfl) (fun K hK => ?_)
        go_simp
        refine Calls.mono (HDT.out _) ?_
        intro e Y5 h1; obtain ⟨h1, hE⟩ := h1; subst h1
        have HD5 := Lib.hid hE
        clear hE
        all_goals (try (go_wp2_with fail))
        refine hK.out _ _ (by exact ⟨block_ext HD5.out hHeld.1, block_ext HD5.out hHeld.2.1, cell_ext HD5.out hHeld.2.2.1, cell_ext HD5.out hHeld.2.2.2⟩) (fun hHeld => ?_)
        clear hK K
        try simp only [Act.put, List.setIfInBounds_toArray, List.set_cons_zero, List.set_cons_succ]
        refine' text_chunk 1 (by kernel_rfl) hHeld ?ck4 ?cr4
        case ck4 =>
          intro W hSw
          have hSW := hSw
          try dsimp only at hSW
          clear hSw
          skip
          simp only [List.take_succ_cons, List.take_zero, List.drop_succ_cons, List.drop_zero]
          repeat (go_big_quiet_step (fail))
          exact wpQuiet_nil rfl
        simp only [List.take_succ_cons, List.take_zero, List.drop_succ_cons, List.drop_zero]
        refine text_done ?_
        go_wp2
        go_ret
        exact ⟨ret_bool HF.out.symm, HE.out.drew.trans HD5.out⟩
    · obtain rfl : n = k + 1 := by omega
      obtain ⟨b, off, l, rfl, hl, hcl⟩ := (HX.out.ext hE.out).at (show k < xs.length by have := HN.out; omega)
      obtain ⟨b', off', x0, hbx, hx0, hc0⟩ := (HX.out.ext hE.out).at (show 0 < xs.length by have := HN.out; omega)
      cases hbx
      rw [Nat.add_zero] at hc0
      have hll := HIN.out l (List.mem_of_getElem? hl)
      obtain ⟨c, rfl⟩ : ∃ c : Nat, l = c := ⟨l.toNat, by omega⟩
      have hka : (0 : Int) ≤ (k : Int) := by omega
      have hkb : (k : Int) < ((k + 1 : Nat) : Int) := by omega
      have hkb2 : (k : Int) < (k : Int) + 1 := by omega
      have hw1 : IntKind.i64.wrap (((k + 1 : Nat) : Int) - 1) = (k : Int) := by rw [show ((k + 1 : Nat) : Int) - 1 = k from by omega]; exact wrapi64 _ (by omega) (by omega)
      have hw2 : IntKind.i64.wrap ((k : Int)) = (k : Int) := wrapi64 _ (by omega) (by omega)
      have hwz : wrap64 (k : Int) = (k : Int) := by rw [wrap_eq]; exact hw2
      have ht2 : (k : Int).toNat = k := by omega
      have h01 : (0 : Int) < ((k + 1 : Nat) : Int) := by omega
      have h02 : (0 : Int) < (k : Int) + 1 := by omega
      have hla : lastI xs = (c : Int) := by unfold lastI; rw [show xs.length - 1 = k from by have := HN.out; omega, tAt_some hl]
      have HWY := Lib.hid (show r = (hasB wl x0 && endB W H kl (xs, o)) from by
        rw [HR.out]
        unfold wayB
        dsimp only
        rw [show xs.length - 1 = k from by have := HN.out; omega, hI.out, Bool.true_and, tAt_some hx0])
      have HH1 := Lib.hid (fun (X : World) (h : Ext wr X) => has_c _ wl x0 X (HWL.out.ext (hE.out.trans h)))
      have HP := hp; have HWB := hw; have HE := hE
      by_cases hom : o = -1
      · subst hom
        have HH2 := Lib.hid (fun (X : World) (h : Ext wr X) => has_c _ kl (c : Int) X (HKL.out.ext (hE.out.trans h)))
        have HEB := Lib.hid (show r = (hasB wl x0 && hasB kl (c : Int)) from by rw [HWY.out]; unfold endB; rw [if_pos rfl, hla])
        generalize hasB wl x0 = b1 at *
        generalize hasB kl (c : Int) = b2 at *
        clear hl hx0 hll hla ho HIN HX HR hI
        go_upto_region 8 with fail
        clear z0 z1 z2 z3 y0 y1
        cases b1
        · skip
          refine wp_region_order ((fun Y : World => Y.heap[w.heap.size]? = some (.cells #[.int .i64 (W : Int), .int .i64 (H : Int), .slice aw nw cw, .slice ak nk ck] 24 (0, 0)) ∧ Y.heap[w.heap.size + 1]? = some (.cells #[.slice (some ⟨b, off, none⟩) (k + 1) sc, .int .i64 (-1)] 60 (0, 0)) ∧ Y.cell? ⟨b, off, none⟩ = some (.int .i64 x0))) [0, 1, 2, 3, 4, 5, 6, 7, 8, 9, 10, 11, 12, 13] (by kernel_rfl) (by kernel_rfl) (by exact ⟨hp.out, hw.out, hc0⟩) (fun hHeld => ?_)
          simp only [opsIn, List.filterMap_cons, List.filterMap_nil, List.getElem?_toArray, List.getElem?_cons_succ, List.getElem?_cons_zero]
          refine' text_chunk 6 (by kernel_rfl) hHeld ?ck5 ?cr5
          case ck5 =>
            intro W hSw
            have hSW := hSw
            try dsimp only at hSW
            clear hSw
            obtain ⟨s1, s2, s3⟩ := hSW
            obtain ⟨z0, z1, z2, z3⟩ := cells4 s1
            obtain ⟨y0, y1⟩ := cells2 s2
            clear s1 s2
            simp only [List.take_succ_cons, List.take_zero, List.drop_succ_cons, List.drop_zero]
            repeat (go_big_quiet_step (fail))
            exact wpQuiet_nil rfl
          simp only [List.take_succ_cons, List.take_zero, List.drop_succ_cons, List.drop_zero]
          refine text_call (by rfl) (by rfl) (fun K hK => ?_)
          go_simp
          refine Calls.mono (HH1.out _ (Ext.drew (Ext.refl _))) ?_
          intro e Y5 h1; obtain ⟨h1, hE⟩ := h1; subst h1; subst hE
          all_goals (try (go_wp2_with fail))
          refine hK.out _ _ (by exact hHeld) (fun hHeld => ?_)
          clear hK K
          try simp only [Act.put, List.setIfInBounds_toArray, List.set_cons_zero, List.set_cons_succ]
          refine' text_chunk 1 (by kernel_rfl) hHeld ?ck6 ?cr6
          case ck6 =>
            intro W hSw
            have hSW := hSw
            try dsimp only at hSW
            clear hSw
            skip
            simp only [List.take_succ_cons, List.take_zero, List.drop_succ_cons, List.drop_zero]
            repeat (go_big_quiet_step (fail))
            exact wpQuiet_nil rfl
          simp only [List.take_succ_cons, List.take_zero, List.drop_succ_cons, List.drop_zero]
          refine text_skip (by rfl) ?_
          try simp only [Act.put, List.setIfInBounds_toArray, List.set_cons_zero, List.set_cons_succ]
          refine text_skip (by rfl) ?_
          try simp only [Act.put, List.setIfInBounds_toArray, List.set_cons_zero, List.set_cons_succ]
          refine text_skip (by rfl) ?_
          try simp only [Act.put, List.setIfInBounds_toArray, List.set_cons_zero, List.set_cons_succ]
          refine text_skip (by rfl) ?_
          try simp only [Act.put, List.setIfInBounds_toArray, List.set_cons_zero, List.set_cons_succ]
          refine' text_chunk 2 (by kernel_rfl) hHeld ?ck7 ?cr7
          case ck7 =>
            intro W hSw
            have hSW := hSw
            try dsimp only at hSW
            clear hSw
            skip
            simp only [List.take_succ_cons, List.take_zero, List.drop_succ_cons, List.drop_zero]
            repeat (go_big_quiet_step (fail))
            exact wpQuiet_nil rfl
          simp only [List.take_succ_cons, List.take_zero, List.drop_succ_cons, List.drop_zero]
          refine text_done ?_
          go_wp2
          go_ret
          exact ⟨ret_bool (by rw [HEB.out]; rfl), HE.out.drew⟩
        · skip
          refine wp_region_order ((fun Y : World => Y.heap[w.heap.size]? = some (.cells #[.int .i64 (W : Int), .int .i64 (H : Int), .slice aw nw cw, .slice ak nk ck] 24 (0, 0)) ∧ Y.heap[w.heap.size + 1]? = some (.cells #[.slice (some ⟨b, off, none⟩) (k + 1) sc, .int .i64 (-1)] 60 (0, 0)) ∧ Y.cell? ⟨b, off, none⟩ = some (.int .i64 x0))) [0, 1, 2, 3, 4, 5, 6, 7, 8, 9, 10, 11, 12, 13] (by kernel_rfl) (by kernel_rfl) (by exact ⟨hp.out, hw.out, hc0⟩) (fun hHeld => ?_)
          simp only [opsIn, List.filterMap_cons, List.filterMap_nil, List.getElem?_toArray, List.getElem?_cons_succ, List.getElem?_cons_zero]
          refine' text_chunk 6 (by kernel_rfl) hHeld ?ck8 ?cr8
          case ck8 =>
            intro W hSw
            have hSW := hSw
            try dsimp only at hSW
            clear hSw
            obtain ⟨s1, s2, s3⟩ := hSW
            obtain ⟨z0, z1, z2, z3⟩ := cells4 s1
            obtain ⟨y0, y1⟩ := cells2 s2
            clear s1 s2
            simp only [List.take_succ_cons, List.take_zero, List.drop_succ_cons, List.drop_zero]
            repeat (go_big_quiet_step (fail))
            exact wpQuiet_nil rfl
          simp only [List.take_succ_cons, List.take_zero, List.drop_succ_cons, List.drop_zero]
          refine text_call (by rfl) (by rfl) (fun K hK => ?_)
          go_simp
          refine Calls.mono (HH1.out _ (Ext.drew (Ext.refl _))) ?_
          intro e Y5 h1; obtain ⟨h1, hE⟩ := h1; subst h1; subst hE
          all_goals (try (go_wp2_with fail))
          refine hK.out _ _ (by exact hHeld) (fun hHeld => ?_)
          clear hK K
          try simp only [Act.put, List.setIfInBounds_toArray, List.set_cons_zero, List.set_cons_succ]
          refine' text_chunk 1 (by kernel_rfl) hHeld ?ck9 ?cr9
          case ck9 =>
            intro W hSw
            have hSW := hSw
            try dsimp only at hSW
            clear hSw
            skip
            simp only [List.take_succ_cons, List.take_zero, List.drop_succ_cons, List.drop_zero]
            repeat (go_big_quiet_step (fail))
            exact wpQuiet_nil rfl
          simp only [List.take_succ_cons, List.take_zero, List.drop_succ_cons, List.drop_zero]
          refine' text_chunk 3 (by kernel_rfl) hHeld ?ck10 ?cr10
          case ck10 =>
            intro W hSw
            have hSW := hSw
            try dsimp only at hSW
            clear hSw
            obtain ⟨s1, s2, s3⟩ := hSW
            obtain ⟨z0, z1, z2, z3⟩ := cells4 s1
            obtain ⟨y0, y1⟩ := cells2 s2
            clear s1 s2
            simp only [List.take_succ_cons, List.take_zero, List.drop_succ_cons, List.drop_zero]
            repeat (go_big_quiet_step (fail))
            exact wpQuiet_nil rfl
          simp only [List.take_succ_cons, List.take_zero, List.drop_succ_cons, List.drop_zero]
          refine text_call (by rfl) (by rfl) (fun K hK => ?_)
          go_simp
          refine Calls.mono (HH2.out _ (Ext.drew (Ext.refl _))) ?_
          intro e Y6 h1; obtain ⟨h1, hE⟩ := h1; subst h1; subst hE
          all_goals (try (go_wp2_with fail))
          refine hK.out _ _ (by exact hHeld) (fun hHeld => ?_)
          clear hK K
          try simp only [Act.put, List.setIfInBounds_toArray, List.set_cons_zero, List.set_cons_succ]
          refine' text_chunk 2 (by kernel_rfl) hHeld ?ck11 ?cr11
          case ck11 =>
            intro W hSw
            have hSW := hSw
            try dsimp only at hSW
            clear hSw
            skip
            simp only [List.take_succ_cons, List.take_zero, List.drop_succ_cons, List.drop_zero]
            repeat (go_big_quiet_step (fail))
            exact wpQuiet_nil rfl
          simp only [List.take_succ_cons, List.take_zero, List.drop_succ_cons, List.drop_zero]
          refine text_done ?_
          go_wp2
          go_ret
          exact ⟨ret_bool (by rw [HEB.out, Bool.true_and]), HE.out.drew⟩
      · obtain ⟨q, rfl⟩ : ∃ q : Nat, o = q := ⟨o.toNat, by omega⟩
        have HNX := Lib.hid (fun (X : World) => next_c W H nw cw nk ck aw ak c q X hW hH (by omega) (by omega))
        obtain ⟨d, hd⟩ : ∃ d, d = nx W H c q := ⟨_, rfl⟩
        rw [← hd] at HNX
        have HEB := Lib.hid (show r = (hasB wl x0 && decide (d = -1)) from by rw [HWY.out]; unfold endB; rw [if_neg hom, hla, hd]; rfl)
        have hom2 : decide ((q : Int) = -1) = false := decide_eq_false hom
        generalize hasB wl x0 = b1 at *
        clear hl hx0 hll hla ho HIN HX HR hI hd
        go_upto_region 9 with fail
        clear z0 z1 z2 z3 y0 y1
        cases b1
        · skip
          refine wp_region_order ((fun Y : World => Y.heap[w.heap.size]? = some (.cells #[.int .i64 (W : Int), .int .i64 (H : Int), .slice aw nw cw, .slice ak nk ck] 24 (0, 0)) ∧ Y.heap[w.heap.size + 1]? = some (.cells #[.slice (some ⟨b, off, none⟩) (k + 1) sc, .int .i64 (q : Int)] 60 (0, 0)) ∧ Y.cell? ⟨b, off, none⟩ = some (.int .i64 x0))) [0, 1, 2, 3, 4, 5, 6, 7, 8, 9, 10, 11, 12, 13, 14, 15] (by kernel_rfl) (by kernel_rfl) (by exact ⟨hp.out, hw.out, hc0⟩) (fun hHeld => ?_)
          simp only [opsIn, List.filterMap_cons, List.filterMap_nil, List.getElem?_toArray, List.getElem?_cons_succ, List.getElem?_cons_zero]
          refine' text_chunk 6 (by kernel_rfl) hHeld ?ck12 ?cr12
          case ck12 =>
            intro W hSw
            have hSW := hSw
            try dsimp only at hSW
            clear hSw
            obtain ⟨s1, s2, s3⟩ := hSW
            obtain ⟨z0, z1, z2, z3⟩ := cells4 s1
            obtain ⟨y0, y1⟩ := cells2 s2
            clear s1 s2
            simp only [List.take_succ_cons, List.take_zero, List.drop_succ_cons, List.drop_zero]
            repeat (go_big_quiet_step (fail))
            exact wpQuiet_nil rfl
          simp only [List.take_succ_cons, List.take_zero, List.drop_succ_cons, List.drop_zero]
          refine text_call (by rfl) (by rfl) (fun K hK => ?_)
          go_simp
          refine Calls.mono (HH1.out _ (Ext.drew (Ext.refl _))) ?_
          intro e Y5 h1; obtain ⟨h1, hE⟩ := h1; subst h1; subst hE
          all_goals (try (go_wp2_with fail))
          refine hK.out _ _ (by exact hHeld) (fun hHeld => ?_)
          clear hK K
          try simp only [Act.put, List.setIfInBounds_toArray, List.set_cons_zero, List.set_cons_succ]
          refine' text_chunk 1 (by kernel_rfl) hHeld ?ck13 ?cr13
          case ck13 =>
            intro W hSw
            have hSW := hSw
            try dsimp only at hSW
            clear hSw
            skip
            simp only [List.take_succ_cons, List.take_zero, List.drop_succ_cons, List.drop_zero]
            repeat (go_big_quiet_step (fail))
            exact wpQuiet_nil rfl
          simp only [List.take_succ_cons, List.take_zero, List.drop_succ_cons, List.drop_zero]
          refine text_skip (by rfl) ?_
          try simp only [Act.put, List.setIfInBounds_toArray, List.set_cons_zero, List.set_cons_succ]
          refine text_skip (by rfl) ?_
          try simp only [Act.put, List.setIfInBounds_toArray, List.set_cons_zero, List.set_cons_succ]
          refine text_skip (by rfl) ?_
          try simp only [Act.put, List.setIfInBounds_toArray, List.set_cons_zero, List.set_cons_succ]
          refine text_skip (by rfl) ?_
          try simp only [Act.put, List.setIfInBounds_toArray, List.set_cons_zero, List.set_cons_succ]
          refine text_skip (by rfl) ?_
          try simp only [Act.put, List.setIfInBounds_toArray, List.set_cons_zero, List.set_cons_succ]
          refine text_skip (by rfl) ?_
          try simp only [Act.put, List.setIfInBounds_toArray, List.set_cons_zero, List.set_cons_succ]
          refine' text_chunk 2 (by kernel_rfl) hHeld ?ck14 ?cr14
          case ck14 =>
            intro W hSw
            have hSW := hSw
            try dsimp only at hSW
            clear hSw
            skip
            simp only [List.take_succ_cons, List.take_zero, List.drop_succ_cons, List.drop_zero]
            repeat (go_big_quiet_step (fail))
            exact wpQuiet_nil rfl
          simp only [List.take_succ_cons, List.take_zero, List.drop_succ_cons, List.drop_zero]
          refine text_done ?_
          go_wp2
          go_ret
          exact ⟨ret_bool (by rw [HEB.out]; rfl), HE.out.drew⟩
        · skip
          refine wp_region_order ((fun Y : World => Y.heap[w.heap.size]? = some (.cells #[.int .i64 (W : Int), .int .i64 (H : Int), .slice aw nw cw, .slice ak nk ck] 24 (0, 0)) ∧ Y.heap[w.heap.size + 1]? = some (.cells #[.slice (some ⟨b, off, none⟩) (k + 1) sc, .int .i64 (q : Int)] 60 (0, 0)) ∧ Y.cell? ⟨b, off, none⟩ = some (.int .i64 x0))) [0, 1, 2, 3, 4, 5, 6, 7, 8, 9, 10, 11, 12, 13, 14, 15] (by kernel_rfl) (by kernel_rfl) (by exact ⟨hp.out, hw.out, hc0⟩) (fun hHeld => ?_)
          simp only [opsIn, List.filterMap_cons, List.filterMap_nil, List.getElem?_toArray, List.getElem?_cons_succ, List.getElem?_cons_zero]
          refine' text_chunk 6 (by kernel_rfl) hHeld ?ck15 ?cr15
          case ck15 =>
            intro W hSw
            have hSW := hSw
            try dsimp only at hSW
            clear hSw
            obtain ⟨s1, s2, s3⟩ := hSW
            obtain ⟨z0, z1, z2, z3⟩ := cells4 s1
            obtain ⟨y0, y1⟩ := cells2 s2
            clear s1 s2
            simp only [List.take_succ_cons, List.take_zero, List.drop_succ_cons, List.drop_zero]
            repeat (go_big_quiet_step (fail))
            exact wpQuiet_nil rfl
          simp only [List.take_succ_cons, List.take_zero, List.drop_succ_cons, List.drop_zero]
          refine text_call (by rfl) (by rfl) (fun K hK => ?_)
          go_simp
          refine Calls.mono (HH1.out _ (Ext.drew (Ext.refl _))) ?_
          intro e Y5 h1; obtain ⟨h1, hE⟩ := h1; subst h1; subst hE
          all_goals (try (go_wp2_with fail))
          refine hK.out _ _ (by exact hHeld) (fun hHeld => ?_)
          clear hK K
          try simp only [Act.put, List.setIfInBounds_toArray, List.set_cons_zero, List.set_cons_succ]
          refine' text_chunk 1 (by kernel_rfl) hHeld ?ck16 ?cr16
          case ck16 =>
            intro W hSw
            have hSW := hSw
            try dsimp only at hSW
            clear hSw
            skip
            simp only [List.take_succ_cons, List.take_zero, List.drop_succ_cons, List.drop_zero]
            repeat (go_big_quiet_step (fail))
            exact wpQuiet_nil rfl
          simp only [List.take_succ_cons, List.take_zero, List.drop_succ_cons, List.drop_zero]
          refine' text_chunk 4 (by kernel_rfl) hHeld ?ck17 ?cr17
          case ck17 =>
            intro W hSw
            have hSW := hSw
            try dsimp only at hSW
            clear hSw
            obtain ⟨s1, s2, s3⟩ := hSW
            obtain ⟨z0, z1, z2, z3⟩ := cells4 s1
            obtain ⟨y0, y1⟩ := cells2 s2
            clear s1 s2
            simp only [List.take_succ_cons, List.take_zero, List.drop_succ_cons, List.drop_zero]
            repeat (go_big_quiet_step (fail))
            exact wpQuiet_nil rfl
          simp only [List.take_succ_cons, List.take_zero, List.drop_succ_cons, List.drop_zero]
          refine text_call (by rfl) (by rfl) (fun K hK => ?_)
          go_simp
          refine Calls.mono (HNX.out _) ?_
          intro e Y5 h1; obtain ⟨h1, hE⟩ := h1; subst h1
          have HD5 := Lib.hid hE
          clear hE
          all_goals (try (go_wp2_with fail))
          refine hK.out _ _ (by exact ⟨block_ext HD5.out hHeld.1, block_ext HD5.out hHeld.2.1, cell_ext HD5.out hHeld.2.2⟩) (fun hHeld => ?_)
          clear hK K
          try simp only [Act.put, List.setIfInBounds_toArray, List.set_cons_zero, List.set_cons_succ]
          refine' text_chunk 3 (by kernel_rfl) hHeld ?ck18 ?cr18
          case ck18 =>
            intro W hSw
            have hSW := hSw
            try dsimp only at hSW
            clear hSw
            skip
            simp only [List.take_succ_cons, List.take_zero, List.drop_succ_cons, List.drop_zero]
            repeat (go_big_quiet_step (fail))
            exact wpQuiet_nil rfl
          simp only [List.take_succ_cons, List.take_zero, List.drop_succ_cons, List.drop_zero]
          refine text_done ?_
          go_wp2
          go_ret
          exact ⟨ret_bool (by rw [HEB.out, Bool.true_and]; first | rfl | (by_cases hdd : d = -1 <;> simp [hdd])), HE.out.drew.trans HD5.out⟩
end Go.Proofs.YtppjnpempgpkaaaGreat
namespace Go.Proofs.YtppjnpempgpkaaaGreat
open Go.RowKit Go.Shelf
set_option linter.unusedVariables false
set_option linter.unusedSimpArgs false
attribute [local go_sem] Oper.semAt_some

theorem appendI_run {X : World} {B : Nat} {v : Value} {l : List Int} (h : OwnI 3 B X v l) (hB : B ≤ X.heap.size) (hl : l.length ≤ 20000) (x : Int) (b : Nat) (h0 : X.cell? ⟨b, 0, none⟩ = some (.int .i64 x)) (ty : TypeId) :
    ∃ v' X', (Builtin.append_ #[22, 22] ty #[v, .slice (some ⟨b, 0, none⟩) 1 1]).run Tryz.prog X = .ok v' X' ∧ OwnI 3 B X' v' (l ++ [x]) ∧ X.grownBy X' v.ownBlock := by
  obtain ⟨i0, hi0, hz0, hz1, hz2⟩ := info_parts Tryz.info3
  obtain ⟨v', X', hrun, r1, r2, r3⟩ := run_append_own (P := Tryz.prog) X B 22 ty 3 i0 _ 1 8 Tryz.underlying22 hi0 hz0 hz1 hz2 rfl (by decide) v _ _ h ⟨b, 0, none⟩ 1 1 [.int .i64 x] rfl (fun j u hj => by
    match j, hj with
    | 0, hj => simp at hj; subst hj; rw [addr_add]; exact h0
    | j + 1, hj => simp at hj) (fun u hu => by simp at hu; subst hu; rfl) (by unfold maxLen; omega) (by omega) hB
  refine ⟨v', X', hrun, ?_, r2⟩
  unfold OwnI
  rw [List.map_append, List.length_append]
  exact r1
/-- The name of the side between two cells. -/
def nmI (W H : Nat) (a b : Int) : Int := min (4 * a + dirI W H a.toNat b) (4 * b + dirI W H b.toNat a)
def stpL (W H : Nat) (xs : List Int) (k : Nat) : List Int := (List.range k).map fun i => nmI W H (tAt xs i) (tAt xs (i + 1))
theorem stpL_succ (W H : Nat) (xs : List Int) (k : Nat) : stpL W H xs (k + 1) = stpL W H xs k ++ [nmI W H (tAt xs k) (tAt xs (k + 1))] := by unfold stpL; rw [List.range_succ, List.map_append]; rfl
theorem stpL_len (W H : Nat) (xs : List Int) (k : Nat) : (stpL W H xs k).length = k := by simp [stpL]
/-- The names of the sides that a way uses. -/
def sidL (W H : Nat) (w : WI) : List Int := stpL W H w.1 (w.1.length - 1) ++ if 0 ≤ w.2 then [4 * lastI w.1 + w.2] else []
theorem dirI_near (W H c : Nat) (d : Int) : -1 ≤ dirI W H c d ∧ dirI W H c d ≤ 3 := by unfold dirI; split <;> omega
set_option maxRecDepth 100000 in
set_option maxHeartbeats 4000000 in
theorem rsides_c (W H nw cw nk ck : Nat) (aw ak : Option Addr) (xs : List Int) (o : Int) (v : Value) (w : World) (hW : 1 ≤ W ∧ W ≤ 8) (hH : 1 ≤ H ∧ H ≤ 8) (hxs : Reads w v xs) (hne : 0 < xs.length) (hin : ∀ x ∈ xs, 0 ≤ x ∧ x < ((W * H : Nat) : Int)) (ho : -1 ≤ o ∧ o ≤ 3) :
    Calls Tryz.prog 63 #[.agg #[.int .i64 (W : Int), .int .i64 (H : Int), .slice aw nw cw, .slice ak nk ck], .agg #[v, .int .i64 o]] w fun e w' => ∃ u, e = .returned u ∧ OwnI 3 w.heap.size w' u (sidL W H (xs, o)) ∧ Ext w w' := by
  obtain ⟨hxl, sa, sc, rfl⟩ := hxs.shape
  have hm64 : W * H ≤ 64 := Nat.mul_le_mul hW.2 hH.2
  obtain ⟨n, hn⟩ : ∃ n, n = xs.length := ⟨_, rfl⟩
  rw [← hn] at hxs hne hxl ⊢
  have HN := Lib.hid hn
  have HX := Lib.hid hxs; have HIN := Lib.hid hin
  clear hn hxs hin
  have hn63 : n ≤ 9223372036854775806 := by omega
  obtain ⟨w1, hw1⟩ : ∃ w1, w1 = (w.alloc (.cells #[.int .i64 (W : Int), .int .i64 (H : Int), .slice aw nw cw, .slice ak nk ck] 24)).alloc (.cells #[.slice sa n sc, .int .i64 o] 60) := ⟨_, rfl⟩
  have E0 := Lib.hid (show Ext w w1 from by rw [hw1]; exact ((Ext.refl w).alloc _).alloc _)
  have B0 := Lib.hid (show w1.heap[w.heap.size]? = some (.cells #[.int .i64 (W : Int), .int .i64 (H : Int), .slice aw nw cw, .slice ak nk ck] 24 (0, 0)) from by rw [hw1]; exact block_ext ((Ext.refl _).alloc _) (heap_alloc_new w _))
  have B1 := Lib.hid (show w1.heap[w.heap.size + 1]? = some (.cells #[.slice sa n sc, .int .i64 o] 60 (0, 0)) from by rw [hw1]; exact heap_alloc_at _ _ (by simp))
  go_enter Tryz.func63, Tryz.ntmps63
  go_upto_region 1 with fail
  rw [← hw1]
  clear hw1
  go_wp2
  go_loopw [5, 6] (fun u i wr => ∃ k : Nat, k + 1 ≤ n ∧ i = .int .i64 ((k : Int) + 1) ∧ Hid (OwnI 3 (w.heap.size + 2) wr u (stpL W H xs k)) ∧ Hid (wr.heap[w.heap.size]? = some (.cells #[.int .i64 (W : Int), .int .i64 (H : Int), .slice aw nw cw, .slice ak nk ck] 24 (0, 0))) ∧ Hid (wr.heap[w.heap.size + 1]? = some (.cells #[.slice sa n sc, .int .i64 o] 60 (0, 0))) ∧ Hid (Ext w wr)) (fun u i wr => n + 1 - (intOf i).toNat)
  case atStart => exact ⟨0, hne, rfl, Lib.hid (OwnI.nil _ _ _), B0, B1, E0⟩
  case round =>
    clear B0 B1 E0
    obtain ⟨k, hk, rfl, hO, hp, hw, hE⟩ := hrel
    obtain ⟨z0, z1, z2, z3⟩ := cells4 hp.out
    obtain ⟨y0, y1⟩ := cells2 hw.out
    by_cases hlt : k + 1 < n
    · obtain ⟨b, off, y, rfl, hy, hcy⟩ := (HX.out.ext hE.out).at (show k + 1 < xs.length by have := HN.out; omega)
      obtain ⟨b', off', x, hbx, hx, hcx⟩ := (HX.out.ext hE.out).at (show k < xs.length by have := HN.out; omega)
      cases hbx
      have h1 := HIN.out x (List.mem_of_getElem? hx)
      have h2 := HIN.out y (List.mem_of_getElem? hy)
      obtain ⟨c, rfl⟩ : ∃ c : Nat, x = c := ⟨x.toNat, by omega⟩
      obtain ⟨d, rfl⟩ : ∃ d : Nat, y = d := ⟨y.toNat, by omega⟩
      have HD1 := Lib.hid (fun (X : World) => dirTo_c W H nw cw nk ck aw ak c (d : Int) X hW hH (by omega))
      have HD2 := Lib.hid (fun (X : World) => dirTo_c W H nw cw nk ck aw ak d (c : Int) X hW hH (by omega))
      obtain ⟨L, hLL⟩ : ∃ L, L = stpL W H xs k := ⟨_, rfl⟩
      have hL : L.length ≤ 20000 := by rw [hLL, stpL_len]; omega
      obtain ⟨e1, he1⟩ : ∃ e, e = dirI W H c (d : Int) := ⟨_, rfl⟩
      obtain ⟨e2, he2⟩ : ∃ e, e = dirI W H d (c : Int) := ⟨_, rfl⟩
      have hb1 := dirI_near W H c (d : Int)
      have hb2 := dirI_near W H d (c : Int)
      rw [← he1] at hb1 HD1
      rw [← he2] at hb2 HD2
      obtain ⟨m, hm⟩ : ∃ m : Int, m = min (4 * (c : Int) + e1) (4 * (d : Int) + e2) := ⟨_, rfl⟩
      have HST := Lib.hid (show stpL W H xs (k + 1) = L ++ [m] from by
        rw [stpL_succ, ← hLL, tAt_some hx, tAt_some hy, hm, he1, he2]
        unfold nmI
        rw [Int.toNat_natCast, Int.toNat_natCast])
      rw [← hLL] at hO
      have WQ := Lib.hid (show IntKind.i64.wrap (4 * (c : Int)) = 4 * (c : Int) ∧ IntKind.i64.wrap (4 * (d : Int)) = 4 * (d : Int) ∧ IntKind.i64.wrap (4 * (c : Int) + e1) = 4 * (c : Int) + e1 ∧ IntKind.i64.wrap (4 * (d : Int) + e2) = 4 * (d : Int) + e2 from ⟨wrapi64 _ (by omega) (by omega), wrapi64 _ (by omega) (by omega), wrapi64 _ (by omega) (by omega), wrapi64 _ (by omega) (by omega)⟩)
      have HMIN := Lib.hid (show (if 4 * (d : Int) + e2 < 4 * (c : Int) + e1 then 4 * (d : Int) + e2 else 4 * (c : Int) + e1) = m from by rw [hm]; split <;> omega)
      have hka : (0 : Int) ≤ (k : Int) := by omega
      have hkb : (k : Int) < (n : Int) := by omega
      have hkc : (0 : Int) ≤ (k : Int) + 1 := by omega
      have hkd : (k : Int) + 1 < (n : Int) := by omega
      have hw1 : IntKind.i64.wrap ((k : Int) + 1 - 1) = (k : Int) := by rw [show (k : Int) + 1 - 1 = k from by omega]; exact wrapi64 _ (by omega) (by omega)
      have hw2 : IntKind.i64.wrap ((k : Int)) = (k : Int) := wrapi64 _ (by omega) (by omega)
      have ht : ((k : Int) + 1).toNat = k + 1 := by omega
      have ht2 : (k : Int).toNat = k := by omega
      have HP := hp; have HWB := hw; have HE := hE; have HO := hO
      clear h1 h2 hx hy hLL he1 he2 hb1 hb2 hm
      go_upto_region 5 with fail
      go_quiet (fail)
      go_upto_region 6 with fail
      clear z0 z1 z2 z3 y0 y1
      obtain ⟨Wq, hWq⟩ : ∃ Wq, Wq = wr.drewN nq := ⟨_, rfl⟩
      have hpq : Wq.heap[w.heap.size]? = some (.cells #[.int .i64 (W : Int), .int .i64 (H : Int), .slice aw nw cw, .slice ak nk ck] 24 (0, 0)) := by rw [hWq]; exact HP.out
      have hwq : Wq.heap[w.heap.size + 1]? = some (.cells #[.slice (some ⟨b, off, none⟩) n sc, .int .i64 o] 60 (0, 0)) := by rw [hWq]; exact HWB.out
      have hoq : OwnI 3 (w.heap.size + 2) Wq.drew u5 L := by rw [hWq]; exact HO.out.ext ((Ext.refl wr).drewN _).drew
      have HEQ := Lib.hid (show Ext w Wq from by rw [hWq]; exact HE.out.drewN _)
      rw [← hWq]
      clear hWq
      refine wp_region_order ((fun Y : World => Y.heap[w.heap.size]? = some (.cells #[.int .i64 (W : Int), .int .i64 (H : Int), .slice aw nw cw, .slice ak nk ck] 24 (0, 0)) ∧ Y.heap[w.heap.size + 1]? = some (.cells #[.slice (some ⟨b, off, none⟩) n sc, .int .i64 o] 60 (0, 0)))) [0, 1, 2, 3, 4, 5, 8, 9, 10, 11, 12, 6, 7, 13, 14, 15, 16, 17, 18] (by kernel_rfl) (by kernel_rfl) (by exact ⟨hpq, hwq⟩) (fun hHeld => ?_)
      simp only [opsIn, List.filterMap_cons, List.filterMap_nil, List.getElem?_toArray, List.getElem?_cons_succ, List.getElem?_cons_zero]
      refine' text_chunk 11 (by kernel_rfl) hHeld ?ck1 ?cr1
      case ck1 =>
        intro W hSw
        have hSW := hSw
        try dsimp only at hSW
        clear hSw
        obtain ⟨s1, s2⟩ := hSW
        obtain ⟨z0, z1, z2, z3⟩ := cells4 s1
        obtain ⟨y0, y1⟩ := cells2 s2
        clear s1 s2
        obtain ⟨q1, q2, q3, q4⟩ := WQ.out
        simp only [List.take_succ_cons, List.take_zero, List.drop_succ_cons, List.drop_zero]
        repeat (go_big_quiet_step (fail))
        exact wpQuiet_nil rfl
      simp only [List.take_succ_cons, List.take_zero, List.drop_succ_cons, List.drop_zero]
      refine text_call (by rfl) (by rfl) (fun K hK => ?_)
      go_simp
      refine Calls.mono (HD1.out _) ?_
      intro e Y5 h1; obtain ⟨h1, hE⟩ := h1; subst h1
      have HDA := Lib.hid hE
      clear hE
      all_goals (try (go_wp2_with fail))
      refine hK.out _ _ (by exact ⟨block_ext HDA.out hHeld.1, block_ext HDA.out hHeld.2⟩) (fun hHeld => ?_)
      clear hK K
      try simp only [Act.put, List.setIfInBounds_toArray, List.set_cons_zero, List.set_cons_succ]
      refine' text_chunk 1 (by kernel_rfl) hHeld ?ck2 ?cr2
      case ck2 =>
        intro W hSw
        have hSW := hSw
        try dsimp only at hSW
        clear hSw
        obtain ⟨q1, q2, q3, q4⟩ := WQ.out
        simp only [List.take_succ_cons, List.take_zero, List.drop_succ_cons, List.drop_zero]
        repeat (go_big_quiet_step (fail))
        exact wpQuiet_nil rfl
      simp only [List.take_succ_cons, List.take_zero, List.drop_succ_cons, List.drop_zero]
      refine text_call (by rfl) (by rfl) (fun K hK => ?_)
      go_simp
      refine Calls.mono (HD2.out _) ?_
      intro e Y6 h1; obtain ⟨h1, hE⟩ := h1; subst h1
      have HDB := Lib.hid hE
      clear hE
      all_goals (try (go_wp2_with fail))
      refine hK.out _ _ (by exact ⟨block_ext HDB.out hHeld.1, block_ext HDB.out hHeld.2⟩) (fun hHeld => ?_)
      clear hK K
      try simp only [Act.put, List.setIfInBounds_toArray, List.set_cons_zero, List.set_cons_succ]
      refine' text_chunk 1 (by kernel_rfl) hHeld ?ck3 ?cr3
      case ck3 =>
        intro W hSw
        have hSW := hSw
        try dsimp only at hSW
        clear hSw
        obtain ⟨q1, q2, q3, q4⟩ := WQ.out
        simp only [List.take_succ_cons, List.take_zero, List.drop_succ_cons, List.drop_zero]
        repeat (go_big_quiet_step (fail))
        exact wpQuiet_nil rfl
      simp only [List.take_succ_cons, List.take_zero, List.drop_succ_cons, List.drop_zero]
      have hmin := HMIN.out
      refine' text_take (by rfl) (by rfl) ?ck4 ?cr4
      case ck4 => (intro W hSw; (try dsimp only at hSw); go_simp; all_goals with_reducible rfl)
      try simp only [Act.put, List.setIfInBounds_toArray, List.set_cons_zero, List.set_cons_succ]
      clear hmin
      have HOB := Lib.hid ((hoq.ext HDA.out).ext HDB.out)
      refine text_call (by rfl) (by rfl) (fun K hK => ?_)
      go_simp
      refine hK.out _ _ (by exact ⟨block_ext ((Ext.refl _).alloc _) hHeld.1, block_ext ((Ext.refl _).alloc _) hHeld.2⟩) (fun hHeld => ?_)
      clear hK K
      try simp only [Act.put, List.setIfInBounds_toArray, List.set_cons_zero, List.set_cons_succ]
      obtain ⟨V1, hV1⟩ : ∃ V1, V1 = (Y6).alloc (.cells #[.int .i64 (m)] 3) := ⟨_, rfl⟩
      rw [← hV1] at hHeld ⊢
      have HV1 := Lib.hid (show Ext (Y6) V1 from by rw [hV1]; exact (Ext.refl _).alloc _)
      have hcv : V1.cell? ⟨(Y6).heap.size, 0, none⟩ = some (.int .i64 (m)) := cell_of_blk (by rw [hV1]; exact heap_alloc_new _ _) rfl
      obtain ⟨v9, V9, hrun, ho9, hg9⟩ := appendI_run (HOB.out.ext HV1.out) (by have := lt_of_blk hHeld.2; omega) hL (m) _ hcv 22
      have HGG := own_from (HOB.out.ext HV1.out)
      have HRUN := Lib.hid hrun; have HO9 := Lib.hid ho9
      have HX9 := Lib.hid (show ∀ B : Nat, B ≤ w.heap.size + 2 → Ext w V1 → Ext w V9 from fun B hB h => grown_any h hg9 (fun g e => by have := HGG g e; omega))
      have HP9 := Lib.hid ((hg9.block w.heap.size (lt_of_blk hHeld.1) (fun e => by have := HGG _ e.symm; omega)).trans hHeld.1)
      have HW9 := Lib.hid ((hg9.block (w.heap.size + 1) (lt_of_blk hHeld.2) (fun e => by have := HGG _ e.symm; omega)).trans hHeld.2)
      clear hrun ho9 hg9 hcv hV1 HGG HOB
      refine text_call_more (by rfl) (by rfl) (fun K hK => ?_)
      refine wp_append_run _ _ 22 rfl rfl rfl HRUN.out ?_
      refine hK.out (fun Y => Y = V9) _ _ (fun Y hY => by rw [hY]; exact ⟨HP9.out, HW9.out⟩) rfl (fun hHeld => ?_)
      clear hK K
      try simp only [Act.put, List.setIfInBounds_toArray, List.set_cons_zero, List.set_cons_succ]
      refine' text_chunk 1 (by kernel_rfl) hHeld ?ck5 ?cr5
      case ck5 =>
        intro W hSw
        have hSW := hSw
        try dsimp only at hSW
        clear hSw
        skip
        simp only [List.take_succ_cons, List.take_zero, List.drop_succ_cons, List.drop_zero]
        repeat (go_big_quiet_step (fail))
        exact wpQuiet_nil rfl
      simp only [List.take_succ_cons, List.take_zero, List.drop_succ_cons, List.drop_zero]
      refine text_done ?_
      have HE9 := Lib.hid (HX9.out _ (Nat.le_refl _) ((((HEQ.out.drew.trans HDA.out).trans HDB.out).trans HV1.out)))
      have HO10 := Lib.hid (show OwnI 3 (w.heap.size + 2) V9 v9 (stpL W H xs (k + 1)) from by rw [HST.out]; exact HO9.out)
      clear HX9 HV1 hHeld hpq hwq hoq
      go_wp2
      go_roundw
      case rel => exact ⟨k + 1, by omega, by go_num, HO10, HP9, HW9, HE9⟩
      case measure => simp [intOf]; omega
    · obtain rfl : n = k + 1 := by omega
      obtain ⟨b, off, l, rfl, hl, hcl⟩ := (HX.out.ext hE.out).at (show k < xs.length by have := HN.out; omega)
      obtain ⟨b', off', l', hbb, hl', hclw⟩ := HX.out.at (show k < xs.length by have := HN.out; omega)
      cases hbb
      rw [hl] at hl'
      cases hl'
      have hll := HIN.out l (List.mem_of_getElem? hl)
      have hla : lastI xs = l := by unfold lastI; rw [show xs.length - 1 = k from by have := HN.out; omega, tAt_some hl]
      have hSL : sidL W H (xs, o) = stpL W H xs k ++ if 0 ≤ o then [4 * l + o] else [] := by
        unfold sidL
        dsimp only
        rw [hla, show xs.length - 1 = k from by have := HN.out; omega]
      have HE := hE
      by_cases hoo : 0 ≤ o
      · have HSL := Lib.hid (show sidL W H (xs, o) = stpL W H xs k ++ [4 * l + o] from by rw [hSL, if_pos hoo])
        have hoq := hO.out
        obtain ⟨L, hLL⟩ : ∃ L, L = stpL W H xs k := ⟨_, rfl⟩
        have hL : L.length ≤ 20000 := by rw [hLL, stpL_len]; omega
        rw [← hLL] at hoq HSL
        have WQ := Lib.hid (show IntKind.i64.wrap (4 * l) = 4 * l ∧ IntKind.i64.wrap (4 * l + o) = 4 * l + o from ⟨wrapi64 _ (by omega) (by omega), wrapi64 _ (by omega) (by omega)⟩)
        have hka : (0 : Int) ≤ (k : Int) := by omega
        have hkb : (k : Int) < ((k + 1 : Nat) : Int) := by omega
        have hkb2 : (k : Int) < (k : Int) + 1 := by omega
        have KQ := Lib.hid (show IntKind.i64.wrap (((k + 1 : Nat) : Int) - 1) = (k : Int) ∧ IntKind.i64.wrap ((k : Int)) = (k : Int) from ⟨by rw [show ((k + 1 : Nat) : Int) - 1 = k from by omega]; exact wrapi64 _ (by omega) (by omega), wrapi64 _ (by omega) (by omega)⟩)
        have ht2 : (k : Int).toNat = k := by omega
        have hpq := hp.out; have hwq := hw.out
        obtain ⟨m, hm⟩ : ∃ m, m = 4 * l + o := ⟨_, rfl⟩
        clear hl hla hSL hll hLL
        go_upto_region 8 with fail
        clear z0 z1 z2 z3 y0 y1
        refine wp_region_order ((fun Y : World => Y.heap[w.heap.size]? = some (.cells #[.int .i64 (W : Int), .int .i64 (H : Int), .slice aw nw cw, .slice ak nk ck] 24 (0, 0)) ∧ Y.heap[w.heap.size + 1]? = some (.cells #[.slice (some ⟨b, off, none⟩) (k + 1) sc, .int .i64 o] 60 (0, 0)) ∧ Y.cell? ⟨b, off + k, none⟩ = some (.int .i64 l))) [0, 1, 2, 3, 4, 5, 6, 7, 8, 9, 10, 11, 12, 13, 14, 15] (by kernel_rfl) (by kernel_rfl) (by exact ⟨hpq, hwq, hcl⟩) (fun hHeld => ?_)
        simp only [opsIn, List.filterMap_cons, List.filterMap_nil, List.getElem?_toArray, List.getElem?_cons_succ, List.getElem?_cons_zero]
        obtain ⟨Wd, hWd⟩ : ∃ Wd, Wd = wr.drew := ⟨_, rfl⟩
        have hod : OwnI 3 (w.heap.size + 2) Wd u5 L := by rw [hWd]; exact hoq.ext (Ext.refl wr).drew
        have HEW := Lib.hid (show Ext w Wd from by rw [hWd]; exact HE.out.drew)
        rw [← hWd] at hHeld ⊢
        clear hWd
        refine' text_chunk 5 (by kernel_rfl) hHeld ?ck6 ?cr6
        case ck6 =>
          intro W hSw
          have hSW := hSw
          try dsimp only at hSW
          clear hSw
          obtain ⟨s1, s2, s3⟩ := hSW
          obtain ⟨z0, z1, z2, z3⟩ := cells4 s1
          obtain ⟨y0, y1⟩ := cells2 s2
          clear s1 s2
          simp only [List.take_succ_cons, List.take_zero, List.drop_succ_cons, List.drop_zero]
          repeat (go_big_quiet_step (fail))
          exact wpQuiet_nil rfl
        simp only [List.take_succ_cons, List.take_zero, List.drop_succ_cons, List.drop_zero]
        refine' text_take (by rfl) (by rfl) ?ck7 ?cr7
        case ck7 => (intro W hSw; (try dsimp only at hSw); go_simp; all_goals with_reducible rfl)
        try simp only [Act.put, List.setIfInBounds_toArray, List.set_cons_zero, List.set_cons_succ]
        refine' text_chunk 7 (by kernel_rfl) hHeld ?ck8 ?cr8
        case ck8 =>
          intro W hSw
          have hSW := hSw
          try dsimp only at hSW
          clear hSw
          obtain ⟨s1, s2, s3⟩ := hSW
          obtain ⟨z0, z1, z2, z3⟩ := cells4 s1
          obtain ⟨y0, y1⟩ := cells2 s2
          clear s1 s2
          obtain ⟨q1, q2⟩ := WQ.out
          obtain ⟨q3, q4⟩ := KQ.out
          simp only [List.take_succ_cons, List.take_zero, List.drop_succ_cons, List.drop_zero]
          repeat (go_big_quiet_step (fail))
          exact wpQuiet_nil rfl
        simp only [List.take_succ_cons, List.take_zero, List.drop_succ_cons, List.drop_zero]
        have HOB := Lib.hid (hod)
        refine text_call (by rfl) (by rfl) (fun K hK => ?_)
        go_simp
        refine hK.out _ _ (by exact ⟨block_ext ((Ext.refl _).alloc _) hHeld.1, block_ext ((Ext.refl _).alloc _) hHeld.2.1, cell_ext ((Ext.refl _).alloc _) hHeld.2.2⟩) (fun hHeld => ?_)
        clear hK K
        try simp only [Act.put, List.setIfInBounds_toArray, List.set_cons_zero, List.set_cons_succ]
        obtain ⟨V1, hV1⟩ : ∃ V1, V1 = (Wd).alloc (.cells #[.int .i64 (4 * l + o)] 3) := ⟨_, rfl⟩
        rw [← hV1] at hHeld ⊢
        have HV1 := Lib.hid (show Ext (Wd) V1 from by rw [hV1]; exact (Ext.refl _).alloc _)
        have hcv : V1.cell? ⟨(Wd).heap.size, 0, none⟩ = some (.int .i64 (4 * l + o)) := cell_of_blk (by rw [hV1]; exact heap_alloc_new _ _) rfl
        obtain ⟨v9, V9, hrun, ho9, hg9⟩ := appendI_run (HOB.out.ext HV1.out) (by have := lt_of_blk hHeld.2.1; omega) hL (4 * l + o) _ hcv 22
        have HGG := own_from (HOB.out.ext HV1.out)
        have HRUN := Lib.hid hrun; have HO9 := Lib.hid ho9
        have HX9 := Lib.hid (show ∀ B : Nat, B ≤ w.heap.size + 2 → Ext w V1 → Ext w V9 from fun B hB h => grown_any h hg9 (fun g e => by have := HGG g e; omega))
        have HP9 := Lib.hid ((hg9.block w.heap.size (lt_of_blk hHeld.1) (fun e => by have := HGG _ e.symm; omega)).trans hHeld.1)
        have HW9 := Lib.hid ((hg9.block (w.heap.size + 1) (lt_of_blk hHeld.2.1) (fun e => by have := HGG _ e.symm; omega)).trans hHeld.2.1)
        have HC9 := Lib.hid (show V9.cell? ⟨b, off + k, none⟩ = some (.int .i64 l) from cell_ext (HX9.out _ (Nat.le_refl _) (HEW.out.trans HV1.out)) hclw)
        clear hrun ho9 hg9 hcv hV1 HGG HOB
        refine text_call_more (by rfl) (by rfl) (fun K hK => ?_)
        refine wp_append_run _ _ 22 rfl rfl rfl HRUN.out ?_
        refine hK.out (fun Y => Y = V9) _ _ (fun Y hY => by rw [hY]; exact ⟨HP9.out, HW9.out, HC9.out⟩) rfl (fun hHeld => ?_)
        clear hK K
        try simp only [Act.put, List.setIfInBounds_toArray, List.set_cons_zero, List.set_cons_succ]
        refine' text_chunk 1 (by kernel_rfl) hHeld ?ck9 ?cr9
        case ck9 =>
          intro W hSw
          have hSW := hSw
          try dsimp only at hSW
          clear hSw
          skip
          simp only [List.take_succ_cons, List.take_zero, List.drop_succ_cons, List.drop_zero]
          repeat (go_big_quiet_step (fail))
          exact wpQuiet_nil rfl
        simp only [List.take_succ_cons, List.take_zero, List.drop_succ_cons, List.drop_zero]
        refine text_done ?_
        have HE9 := Lib.hid (HX9.out _ (Nat.le_refl _) (HEW.out.trans HV1.out))
        clear HX9 HV1 hHeld hpq hwq hoq hod
        go_wp2
        go_ret
        refine ⟨_, rfl, ?_, HE9.out⟩
        rw [HSL.out]
        exact ownI_weak HO9.out (by omega)
      · have HSL := Lib.hid (show sidL W H (xs, o) = stpL W H xs k from by rw [hSL, if_neg hoo, List.append_nil])
        have hoo2 : decide (0 ≤ o) = false := decide_eq_false hoo
        clear hSL hl hla hll
        go_wp2
        go_ret
        refine ⟨_, rfl, ?_, HE.out⟩
        rw [HSL.out]
        exact ownI_weak hO.out (by omega)
end Go.Proofs.YtppjnpempgpkaaaGreat
namespace Go.Proofs.YtppjnpempgpkaaaGreat
set_option linter.unusedVariables false
set_option linter.unusedSimpArgs false
theorem dirI_is {W H c d k : Nat} (hW : W ≤ 8) (hH : H ≤ 8) (hc : c < W * H) (hk : k < 4) (hb : bhP W H (c, k) = some d) : dirI W H c (d : Int) = (k : Int) := by
  have h1 : btI W H c (d : Int) = k := btI_to hk (nx_of hW hH hc hk hb) fun j hj e => by
    have := (gridP W H hW hH).one c j k d hc (by omega) hk (nx_some e) hb
    omega
  unfold dirI
  rw [h1, if_pos hk]
theorem nmI_is {W H c d k : Nat} (hW : W ≤ 8) (hH : H ≤ 8) (hc : c < W * H) (hk : k < 4) (hb : bhP W H (c, k) = some d) : nmI W H (c : Int) (d : Int) = ((cn (gridP W H hW hH) (c, btw (gridP W H hW hH) c d) : Nat) : Int) := by
  have hbk := (gridP W H hW hH).back c k d hc hk hb
  rw [btw_is (G := gridP W H hW hH) hc hk hb]
  unfold nmI cn
  rw [Int.toNat_natCast, Int.toNat_natCast, dirI_is hW hH hc hk hb, dirI_is hW hH hbk.1 opp_lt hbk.2]
  show _ = (((match bhP W H (c, k) with | some d => min (4 * c + k) (4 * d + opp k) | none => 4 * c + k) : Nat) : Int)
  rw [hb]
  show _ = ((min (4 * c + k) (4 * d + opp k) : Nat) : Int)
  omega
theorem stpL_at {W H : Nat} {xs : List Int} {n i : Nat} (h : i < n) : (stpL W H xs n)[i]? = some (nmI W H (tAt xs i) (tAt xs (i + 1))) := by
  unfold stpL; rw [List.getElem?_map, List.getElem?_range h]; rfl
theorem steps_are {W H : Nat} (hW : W ≤ 8) (hH : H ≤ 8) {ws : List Nat} {o : Option Nat} (hc : ∀ c ∈ ws, c < W * H) (hn : Nbs W H ws) {i : Nat} (hi : i + 1 < ws.length) :
    (stpL W H (natI ws) (ws.length - 1))[i]? = (natI ((usesW (gridP W H hW hH) ws o).map (cn (gridP W H hW hH))))[i]? := by
  obtain ⟨c, hci⟩ := get_some (xs := ws) (k := i) (by omega)
  obtain ⟨d, hdi⟩ := get_some (xs := ws) (k := i + 1) hi
  obtain ⟨k, hk, hb⟩ := hn i c d hci hdi
  rw [stpL_at (by omega), tAt_some (natI_at hci), tAt_some (natI_at hdi), nmI_is hW hH (hc c (List.mem_of_getElem? hci)) hk hb]
  unfold natI
  rw [List.getElem?_map, List.getElem?_map, usesW_step hci hdi]
  rfl
/-- The names of the sides of a way, in both words. -/
theorem sidL_is {W H : Nat} (hW : W ≤ 8) (hH : H ≤ 8) {x : WI} (h : WOk W H x) (ho : ∀ k, (toW x).2 = some k → bhP W H (lastN (toW x).1, k) = none) :
    sidL W H x = natI ((usesW (gridP W H hW hH) (toW x).1 (toW x).2).map (cn (gridP W H hW hH))) := by
  obtain ⟨e1, e2, ne, hc, hn, he, -⟩ := h
  unfold sidL
  rw [e1, e2]
  generalize (toW x).1 = ws at *
  generalize (toW x).2 = o at *
  have hl : 0 < ws.length := List.length_pos_iff.2 ne
  rw [natI_len]
  refine List.ext_getElem? fun i => ?_
  cases o with
  | none =>
    rw [if_neg (by unfold oI; dsimp only; omega), List.append_nil]
    by_cases hi : i + 1 < ws.length
    · exact steps_are hW hH hc hn hi
    · rw [List.getElem?_eq_none (by rw [stpL_len]; omega), List.getElem?_eq_none (by rw [natI_len, List.length_map, usesW_none]; omega)]
  | some k =>
    obtain ⟨hul, hlast⟩ := usesW_some (gridP W H hW hH) k ws ne
    rw [if_pos (by unfold oI; dsimp only; omega)]
    by_cases hi : i + 1 < ws.length
    · rw [List.getElem?_append_left (by rw [stpL_len]; omega)]
      exact steps_are hW hH hc hn hi
    · by_cases hi2 : i = ws.length - 1
      · subst hi2
        rw [List.getElem?_append_right (by rw [stpL_len]; omega), stpL_len, Nat.sub_self]
        unfold natI
        rw [List.getElem?_map, List.getElem?_map, hlast]
        show some (4 * lastI (natI ws) + (k : Int)) = some ((cn (gridP W H hW hH) (lastN ws, k) : Nat) : Int)
        rw [lastI_nat ne]
        unfold cn
        show _ = some (((match bhP W H (lastN ws, k) with | some d => min (4 * lastN ws + k) (4 * d + opp k) | none => 4 * lastN ws + k) : Nat) : Int)
        rw [ho k rfl]
        show _ = some ((4 * lastN ws + k : Nat) : Int)
        congr 1
      · rw [List.getElem?_eq_none (by rw [List.length_append, stpL_len]; simp; omega), List.getElem?_eq_none (by rw [natI_len, List.length_map, hul]; omega)]
theorem flatMap_congr' {α β : Type} {f g : α → List β} : ∀ {l : List α}, (∀ x ∈ l, f x = g x) → l.flatMap f = l.flatMap g
  | [], _ => rfl
  | a :: l, h => by rw [List.flatMap_cons, List.flatMap_cons, h a (by simp), flatMap_congr' fun x hx => h x (by simp [hx])]
theorem natI_nodup {l : List Nat} : (natI l).Nodup ↔ l.Nodup := by
  unfold natI
  constructor
  · exact fun h => nd_of_map _ h
  · exact fun h => nd_map_on (fun a _ b _ e => by omega) h
/-- Ways are apart: no name twice. -/
theorem apB_names {W H : Nat} (hW : W ≤ 8) (hH : H ≤ 8) {ls : List WI} (h : ∀ x ∈ ls, WOk W H x) (ho : ∀ x ∈ ls, ∀ k, (toW x).2 = some k → bhP W H (lastN (toW x).1, k) = none) :
    apB (gridP W H hW hH) ls = decide ((ls.flatMap (sidL W H)).Nodup) := by
  have hok : ∀ t ∈ sidesW (gridP W H hW hH) (ls.map toW), okS (gridP W H hW hH) t := fun t ht => by
    unfold sidesW at ht
    obtain ⟨y, hy, hty⟩ := List.mem_flatMap.1 ht
    obtain ⟨x, hx, rfl⟩ := List.mem_map.1 hy
    have := usesW_small (h x hx).edge hty
    exact ⟨(h x hx).cells _ this.1, this.2⟩
  have hfl : ls.flatMap (sidL W H) = natI ((sidesW (gridP W H hW hH) (ls.map toW)).map (cn (gridP W H hW hH))) := by
    unfold sidesW natI
    rw [List.flatMap_map, List.map_flatMap, List.map_flatMap]
    refine flatMap_congr' fun x hx => ?_
    exact sidL_is hW hH (h x hx) (ho x hx)
  rw [hfl]
  unfold apB
  rw [Bool.eq_iff_iff, decide_eq_true_iff, natI_nodup, apF_iff (fun t ht => by cases ht) hok]
  exact ⟨fun h => h.1, fun h => ⟨h, fun t _ => by simp⟩⟩
end Go.Proofs.YtppjnpempgpkaaaGreat
