/- endsRight and isWay, by their contracts. -/
import Derived.Test.YtppjnpempgpkaaaGreatH4
import Derived.Test.YtppjnpempgpkaaaGreatN3
namespace Go.Proofs.YtppjnpempgpkaaaGreat
open Go.RowKit Go.Shelf
set_option linter.unusedVariables false
set_option linter.unusedSimpArgs false
attribute [local go_sem] Oper.semAt_some

set_option maxRecDepth 100000 in
set_option maxHeartbeats 1000000 in
theorem endsRight_c (W H nw cw nk ck : Nat) (aw ak : Option Addr) (hW : 1 ≤ W ∧ W ≤ 8) (hH : 1 ≤ H ∧ H ≤ 8) (kl : List Int) (ws : List Nat) (o : Int) (a : Option Addr) (n cap : Nat) (w : World) (hr : Reads w (.slice a n cap) (natI ws)) (hk : Reads w (.slice ak nk ck) kl) (hne : ws ≠ []) (hc : ∀ x ∈ ws, x < W * H) (ho : -1 ≤ o ∧ o ≤ 3) :
    Calls Tryz.prog 97 #[.agg #[.int .i64 (W : Int), .int .i64 (H : Int), .slice aw nw cw, .slice ak nk ck], .agg #[.slice a n cap, .int .i64 o]] w fun e w' => e = .returned (.bool (endB W H kl (natI ws, o))) ∧ Ext w w' := by
  have hln : lastN ws < W * H := hc _ (by unfold lastN; obtain ⟨x, hx⟩ := List.getLast?_isSome.2 hne |> Option.isSome_iff_exists.1; rw [hx]; exact List.mem_of_getLast? hx)
  obtain ⟨w1, hw1⟩ : ∃ w1, w1 = (w.alloc (.cells #[.int .i64 (W : Int), .int .i64 (H : Int), .slice aw nw cw, .slice ak nk ck] 72)).alloc (.cells #[.slice a n cap, .int .i64 o] 60) := ⟨_, rfl⟩
  have hE1 : Ext w w1 := by rw [hw1]; exact ((Ext.refl w).alloc _).alloc _
  have B1 := Lib.hid (show w1.heap[w.heap.size + 1]? = some (.cells #[.slice a n cap, .int .i64 o] 60 (0, 0)) from by rw [hw1]; exact heap_alloc_at (w.alloc _) _ (by simp))
  have B0 := Lib.hid (show w1.heap[w.heap.size]? = some (.cells #[.int .i64 (W : Int), .int .i64 (H : Int), .slice aw nw cw, .slice ak nk ck] 72 (0, 0)) from by rw [hw1]; exact block_ext ((Ext.refl _).alloc _) (heap_alloc_new w _))
  have HE1 := Lib.hid hE1; have HW1 := Lib.hid hw1

  have hd : endB W H kl (natI ws, o) = if o = -1 then hasB kl (lastN ws : Int) else decide (nx W H (lastN ws) o.toNat = -1) := by
    unfold endB
    dsimp only
    rw [lastI_nat hne, Int.toNat_natCast]
  have HEND := Lib.hid (fun (Y : World) (hY : Ext w Y) => end_c (.slice a n cap) o ws Y (hr.ext hY) hne)
  have HIK := Lib.hid (fun (Y : World) (hY : Ext w Y) => isKept_c W H nw cw nk ck aw ak kl (lastN ws : Int) Y (hk.ext hY))
  have HB := Lib.hid (fun (k : Nat) (hk4 : k < 4) (Y : World) => behind_c W H nw cw nk ck aw ak (lastN ws) k Y hW hH hln hk4)
  generalize lastN ws = la at *
  clear hE1 hw1 hr hk hne hc
  by_cases h1 : o = -1
  · subst h1
    rw [if_pos rfl] at hd
    rw [hd]
    clear hd
    generalize hasB kl (la : Int) = r at *
    obtain ⟨d0, d1⟩ := cells2 B1.out
    go_enter Tryz.func97, Tryz.ntmps97
    go_upto_region 2 with fail
    rw [← HW1.out]
    refine wp_region_order (fun Y : World => Y.heap[w.heap.size]? = some (.cells #[.int .i64 (W : Int), .int .i64 (H : Int), .slice aw nw cw, .slice ak nk ck] 72 (0, 0)) ∧ Y.heap[w.heap.size + 1]? = some (.cells #[.slice a n cap, .int .i64 (-1)] 60 (0, 0))) [0, 1, 2, 3, 4] (by kernel_rfl) (by kernel_rfl) (by exact ⟨B0.out, B1.out⟩) (fun hHeld => ?_)
    simp only [opsIn, List.filterMap_cons, List.filterMap_nil, List.getElem?_toArray, List.getElem?_cons_succ, List.getElem?_cons_zero]
    refine' text_chunk 2 (by kernel_rfl) hHeld ?ck1 ?cr1
    case ck1 =>
      intro W hSw
      have hSW := hSw
      try dsimp only at hSW
      clear hSw
      obtain ⟨s1, s2⟩ := hSW
      obtain ⟨p0, p1, p2, p3⟩ := cells4 s1
      obtain ⟨d0, d1⟩ := cells2 s2
      simp only [List.take_succ_cons, List.take_zero, List.drop_succ_cons, List.drop_zero]
      repeat (go_big_quiet_step (fail))
      exact wpQuiet_nil rfl
    simp only [List.take_succ_cons, List.take_zero, List.drop_succ_cons, List.drop_zero]
    refine text_call (by rfl) (by rfl) (fun K hK => ?_)
    go_simp
    refine (HEND.out _ (HE1.out.trans (Ext.refl _).drew)).mono ?_
    rintro e V1 ⟨rfl, he1⟩
    have HEE := Lib.hid he1
    have HV1 := Lib.hid ((Ext.refl w1).drew.trans he1)
    clear he1
    all_goals (try (go_wp2_with fail))
    refine hK.out _ _ (by exact ⟨block_ext HEE.out hHeld.1, block_ext HEE.out hHeld.2⟩) (fun hHeld => ?_)
    clear hK K
    try simp only [Act.put, List.setIfInBounds_toArray, List.set_cons_zero, List.set_cons_succ]
    refine text_call (by rfl) (by rfl) (fun K hK => ?_)
    go_simp
    refine (HIK.out _ (HE1.out.trans HV1.out)).mono ?_
    rintro e V2 ⟨rfl, he2⟩
    have HEE := Lib.hid he2
    have HV2 := Lib.hid (HV1.out.trans he2)
    clear he2
    all_goals (try (go_wp2_with fail))
    refine hK.out _ _ (by exact ⟨block_ext HEE.out hHeld.1, block_ext HEE.out hHeld.2⟩) (fun hHeld => ?_)
    clear hK K
    try simp only [Act.put, List.setIfInBounds_toArray, List.set_cons_zero, List.set_cons_succ]
    refine' text_chunk 1 (by kernel_rfl) hHeld ?ck2 ?cr2
    case ck2 =>
      intro W hSw
      have hSW := hSw
      try dsimp only at hSW
      clear hSw
      skip
      simp only [List.take_succ_cons, List.take_zero, List.drop_succ_cons, List.drop_zero]
      repeat (go_big_quiet_step (fail))
      exact wpQuiet_nil rfl
    simp only [List.take_succ_cons, List.take_zero, List.drop_succ_cons, List.drop_zero]
    refine text_done ?_
    clear hHeld
    go_wp2
    go_ret
    exact ⟨rfl, HE1.out.trans HV2.out⟩
  · rw [if_neg h1] at hd
    rw [hd]
    clear hd
    obtain ⟨k, rfl⟩ : ∃ k : Nat, o = (k : Int) := ⟨o.toNat, by omega⟩
    have hk4 : k < 4 := by omega
    rw [Int.toNat_natCast]
    have HB4 := Lib.hid (HB.out k hk4)
    obtain ⟨v, hv⟩ : ∃ v, v = nx W H la k := ⟨_, rfl⟩
    rw [← hv] at HB4 ⊢
    clear hv HB
    have ga : ((k : Int) == -1) = false := by simp
    have gb : decide ((k : Int) = -1) = false := by simp
    obtain ⟨d0, d1⟩ := cells2 B1.out
    go_enter Tryz.func97, Tryz.ntmps97
    go_upto_region 3 with fail
    rw [← HW1.out]
    refine wp_region_order (fun Y : World => Y.heap[w.heap.size]? = some (.cells #[.int .i64 (W : Int), .int .i64 (H : Int), .slice aw nw cw, .slice ak nk ck] 72 (0, 0)) ∧ Y.heap[w.heap.size + 1]? = some (.cells #[.slice a n cap, .int .i64 (k : Int)] 60 (0, 0))) [0, 1, 3, 4, 2, 5, 6, 7, 8] (by kernel_rfl) (by kernel_rfl) (by exact ⟨B0.out, B1.out⟩) (fun hHeld => ?_)
    simp only [opsIn, List.filterMap_cons, List.filterMap_nil, List.getElem?_toArray, List.getElem?_cons_succ, List.getElem?_cons_zero]
    refine' text_chunk 4 (by kernel_rfl) hHeld ?ck3 ?cr3
    case ck3 =>
      intro W hSw
      have hSW := hSw
      try dsimp only at hSW
      clear hSw
      obtain ⟨s1, s2⟩ := hSW
      obtain ⟨p0, p1, p2, p3⟩ := cells4 s1
      obtain ⟨d0, d1⟩ := cells2 s2
      simp only [List.take_succ_cons, List.take_zero, List.drop_succ_cons, List.drop_zero]
      repeat (go_big_quiet_step (fail))
      exact wpQuiet_nil rfl
    simp only [List.take_succ_cons, List.take_zero, List.drop_succ_cons, List.drop_zero]
    refine text_call (by rfl) (by rfl) (fun K hK => ?_)
    go_simp
    refine (HEND.out _ (HE1.out.trans (Ext.refl _).drew)).mono ?_
    rintro e V1 ⟨rfl, he1⟩
    have HEE := Lib.hid he1
    have HV1 := Lib.hid ((Ext.refl w1).drew.trans he1)
    clear he1
    all_goals (try (go_wp2_with fail))
    refine hK.out _ _ (by exact ⟨block_ext HEE.out hHeld.1, block_ext HEE.out hHeld.2⟩) (fun hHeld => ?_)
    clear hK K
    try simp only [Act.put, List.setIfInBounds_toArray, List.set_cons_zero, List.set_cons_succ]
    refine' text_chunk 1 (by kernel_rfl) hHeld ?ck4 ?cr4
    case ck4 =>
      intro W hSw
      have hSW := hSw
      try dsimp only at hSW
      clear hSw
      obtain ⟨s1, s2⟩ := hSW
      obtain ⟨p0, p1, p2, p3⟩ := cells4 s1
      obtain ⟨d0, d1⟩ := cells2 s2
      simp only [List.take_succ_cons, List.take_zero, List.drop_succ_cons, List.drop_zero]
      repeat (go_big_quiet_step (fail))
      exact wpQuiet_nil rfl
    simp only [List.take_succ_cons, List.take_zero, List.drop_succ_cons, List.drop_zero]
    refine text_call (by rfl) (by rfl) (fun K hK => ?_)
    go_simp
    refine (HB4.out _).mono ?_
    rintro e V2 ⟨rfl, he2⟩
    have HEE := Lib.hid he2
    have HV2 := Lib.hid (HV1.out.trans he2)
    clear he2
    all_goals (try (go_wp2_with fail))
    refine hK.out _ _ (by exact ⟨block_ext HEE.out hHeld.1, block_ext HEE.out hHeld.2⟩) (fun hHeld => ?_)
    clear hK K
    try simp only [Act.put, List.setIfInBounds_toArray, List.set_cons_zero, List.set_cons_succ]
    refine' text_chunk 2 (by kernel_rfl) hHeld ?ck5 ?cr5
    case ck5 =>
      intro W hSw
      have hSW := hSw
      try dsimp only at hSW
      clear hSw
      skip
      simp only [List.take_succ_cons, List.take_zero, List.drop_succ_cons, List.drop_zero]
      repeat (go_big_quiet_step (fail))
      exact wpQuiet_nil rfl
    simp only [List.take_succ_cons, List.take_zero, List.drop_succ_cons, List.drop_zero]
    refine text_done ?_
    clear hHeld
    go_wp2
    go_ret
    exact ⟨by first | rfl | (refine ret_bool ?_; exact beq_eq_decide _ _), HE1.out.trans HV2.out⟩

set_option maxRecDepth 100000 in
set_option maxHeartbeats 1000000 in
theorem isWay_c (W H nw cw nk ck : Nat) (aw ak : Option Addr) (hW : 1 ≤ W ∧ W ≤ 8) (hH : 1 ≤ H ∧ H ≤ 8) (wl kl : List Int) (ws : List Nat) (o : Int) (v : Value) (w : World) (hr : Reads w v (natI ws)) (hwr : Reads w (.slice aw nw cw) wl) (hk : Reads w (.slice ak nk ck) kl) (hne : ws ≠ []) (hc : ∀ x ∈ ws, x < W * H) (ho : -1 ≤ o ∧ o ≤ 3) :
    Calls Tryz.prog 60 #[.agg #[.int .i64 (W : Int), .int .i64 (H : Int), .slice aw nw cw, .slice ak nk ck], .agg #[v, .int .i64 o]] w fun e w' => e = .returned (.bool (wayB W H wl kl (natI ws, o))) ∧ Ext w w' := by
  obtain ⟨hl, a, cap, e1, hcap, hcc⟩ := hr
  have hnn : natI ws ≠ [] := by simpa [natI] using hne
  obtain ⟨ba, off, rfl, -⟩ := hcc.resolve_left hnn
  have hr : Reads w v (natI ws) := ⟨hl, _, cap, e1, hcap, hcc⟩
  clear hcc
  subst e1
  obtain ⟨m, hm⟩ : ∃ m, ws.length = m + 1 := ⟨ws.length - 1, by have := List.length_pos_iff.2 hne; omega⟩
  rw [natI_len, hm] at hl hcap hr ⊢
  have HRD := Lib.hid (show ∀ Y, Ext w Y → ∀ (i c : Nat), ws[i]? = some c → Y.cell? ⟨ba, off + i, none⟩ = some (.int .i64 (c : Int)) from fun Y hY i c hc => by
    have hi : i < (natI ws).length := by rw [natI_len]; exact (List.getElem?_eq_some_iff.1 hc).1
    obtain ⟨b', off', x, h1, h2, h3⟩ := (hr.ext hY).at hi
    cases h1
    rw [natI_at hc] at h2
    cases h2
    exact h3)
  obtain ⟨c0, hc0⟩ : ∃ c0, ws[0]? = some c0 := ⟨ws[0], List.getElem?_eq_getElem (by omega)⟩
  have HIW := Lib.hid (fun (Y : World) (hY : Ext w Y) => isWanted_c W H nw cw nk ck aw ak wl (c0 : Int) Y (hwr.ext hY))
  have HER := Lib.hid (fun (Y : World) (hY : Ext w Y) => endsRight_c W H nw cw nk ck aw ak hW hH kl ws o _ _ _ Y (hr.ext hY) (hk.ext hY) hne hc ho)
  obtain ⟨wb, hwb⟩ : ∃ wb, wb = hasB wl (c0 : Int) := ⟨_, rfl⟩
  obtain ⟨eb, heb⟩ : ∃ eb, eb = endB W H kl (natI ws, o) := ⟨_, rfl⟩
  rw [← hwb] at HIW
  rw [← heb] at HER
  have HWB := Lib.hid hwb; have HEB := Lib.hid heb; have HC0 := Lib.hid hc0; have HM := Lib.hid hm; have HCL := Lib.hid hc
  obtain ⟨w1, hw1⟩ : ∃ w1, w1 = (w.alloc (.cells #[.int .i64 (W : Int), .int .i64 (H : Int), .slice aw nw cw, .slice ak nk ck] 72)).alloc (.cells #[.slice (some ⟨ba, off, none⟩) (m + 1) cap, .int .i64 o] 60) := ⟨_, rfl⟩
  have hE1 : Ext w w1 := by rw [hw1]; exact ((Ext.refl w).alloc _).alloc _
  have B1 := Lib.hid (show w1.heap[w.heap.size + 1]? = some (.cells #[.slice (some ⟨ba, off, none⟩) (m + 1) cap, .int .i64 o] 60 (0, 0)) from by rw [hw1]; exact heap_alloc_at (w.alloc _) _ (by simp))
  have B0 := Lib.hid (show w1.heap[w.heap.size]? = some (.cells #[.int .i64 (W : Int), .int .i64 (H : Int), .slice aw nw cw, .slice ak nk ck] 72 (0, 0)) from by rw [hw1]; exact block_ext ((Ext.refl _).alloc _) (heap_alloc_new w _))
  have HE1 := Lib.hid hE1; have HW1 := Lib.hid hw1

  have hcap1 : m + 1 ≤ cap := hcap.1
  have hcap2 : cap ≤ 9223372036854775807 := hcap.2
  have hm5 : m ≤ 5000 := by omega
  clear hE1 hw1 hr hwr hk hc hwb heb hc0 hm hcap hl
  obtain ⟨p0, p1, p2, p3⟩ := cells4 B0.out
  obtain ⟨d0, d1⟩ := cells2 B1.out
  refine (callsIn_wide (n := 12)).1 ?_
  refine callsIn_of_wp Tryz.func60 rfl trivial ?_ rfl
  simp only [Tryz.ntmps60, List.size_toArray, List.length_cons, List.length_nil, Nat.reduceAdd, Nat.reduceSub, Array.replicate_succ, Array.replicate_zero, List.push_toArray, List.append_toArray, List.nil_append, List.cons_append]
  by_cases hc1 : cap = 1
  · subst hc1
    gi_upto_region 1 with fail
    rw [← HW1.out]
    gi_wp2
    gi_loopw [13] (fun s wr => ∃ k : Nat, k ≤ m ∧ s = .int .i64 (k : Int) ∧ Hid (stepB W H (natI ws) k = true) ∧ Hid (Ext w1 wr)) (fun s wr => m - (intOf s).toNat)
    case atStart => exact ⟨0, by omega, by go_num, Lib.hid rfl, Lib.hid (Ext.refl _)⟩
    case round =>
      obtain ⟨k, hk, rfl, hst, hE⟩ := hrel
      have HW := Lib.hid (HE1.out.trans hE.out)
      by_cases hlt : k < m
      · omega
      · obtain rfl : k = m := by omega
        have B1X := Lib.hid (block_ext hE.out B0.out); have B2X := Lib.hid (block_ext hE.out B1.out)
        have c1 := Lib.hid (show wr.cell? ⟨ba, off, none⟩ = some (.int .i64 (c0 : Int)) from HRD.out _ HW.out 0 c0 HC0.out)
        have HFIN := Lib.hid (show wayB W H wl kl (natI ws, o) = (wb && eb) from by
          unfold wayB
          dsimp only
          rw [show (natI ws).length - 1 = k from by rw [natI_len, HM.out, Nat.add_sub_cancel], hst.out, Bool.true_and, tAt_some (natI_at HC0.out), ← HWB.out, ← HEB.out])
        gi_upto_region 8 with fail
        cases wb
        · refine wpIn_order (tk := takeB) (fun _ => trivial) (fun Y : World => Y.heap[w.heap.size]? = some (.cells #[.int .i64 (W : Int), .int .i64 (H : Int), .slice aw nw cw, .slice ak nk ck] 72 (0, 0)) ∧ Y.heap[w.heap.size + 1]? = some (.cells #[.slice (some ⟨ba, off, none⟩) (k + 1) 1, .int .i64 o] 60 (0, 0)) ∧ Y.cell? ⟨ba, off, none⟩ = some (.int .i64 (c0 : Int))) [0, 1, 2, 3, 4, 5, 6, 7, 8, 9, 10, 11] (by kernel_rfl) (by kernel_rfl) (by kernel_rfl) (by exact ⟨B1X.out, B2X.out, c1.out⟩) (fun hHeld => ?_)
          simp only [opsIn, List.filterMap_cons, List.filterMap_nil, List.getElem?_toArray, List.getElem?_cons_succ, List.getElem?_cons_zero]
          refine' textI_chunk 5 (by kernel_rfl) hHeld ?ck6 ?cr6
          case ck6 =>
            intro W hSw
            have hSW := hSw
            try dsimp only at hSW
            clear hSw
            obtain ⟨s1, s2, s3⟩ := hSW
            obtain ⟨p0, p1, p2, p3⟩ := cells4 s1
            obtain ⟨d0, d1⟩ := cells2 s2
            simp only [List.take_succ_cons, List.take_zero, List.drop_succ_cons, List.drop_zero]
            repeat (go_big_quiet_step (fail))
            exact wpQuiet_nil rfl
          simp only [List.take_succ_cons, List.take_zero, List.drop_succ_cons, List.drop_zero]
          refine textI_call (by rfl) (by rfl) (fun K hK => ?_)
          go_simp
          refine ⟨trivial, (callsIn_wide.2 (HIW.out _ (HW.out.trans (Ext.refl _).drew))).mono ?_⟩
          rintro e V1 ⟨rfl, he1⟩
          have HEE := Lib.hid he1
          have HV1 := Lib.hid ((Ext.refl wr).drew.trans he1)
          clear he1
          all_goals (try (gi_wp2_with fail))
          refine hK.out _ _ (by exact ⟨block_ext HEE.out hHeld.1, block_ext HEE.out hHeld.2.1, cell_ext HEE.out hHeld.2.2⟩) (fun hHeld => ?_)
          clear hK K
          try simp only [Act.put, List.setIfInBounds_toArray, List.set_cons_zero, List.set_cons_succ]
          refine' textI_chunk 1 (by kernel_rfl) hHeld ?ck7 ?cr7
          case ck7 =>
            intro W hSw
            have hSW := hSw
            try dsimp only at hSW
            clear hSw
            skip
            simp only [List.take_succ_cons, List.take_zero, List.drop_succ_cons, List.drop_zero]
            repeat (go_big_quiet_step (fail))
            exact wpQuiet_nil rfl
          simp only [List.take_succ_cons, List.take_zero, List.drop_succ_cons, List.drop_zero]
          refine textI_skip (by rfl) ?_
          try simp only [Act.put, List.setIfInBounds_toArray, List.set_cons_zero, List.set_cons_succ]
          refine textI_skip (by rfl) ?_
          try simp only [Act.put, List.setIfInBounds_toArray, List.set_cons_zero, List.set_cons_succ]
          refine textI_skip (by rfl) ?_
          try simp only [Act.put, List.setIfInBounds_toArray, List.set_cons_zero, List.set_cons_succ]
          refine' textI_chunk 2 (by kernel_rfl) hHeld ?ck8 ?cr8
          case ck8 =>
            intro W hSw
            have hSW := hSw
            try dsimp only at hSW
            clear hSw
            skip
            simp only [List.take_succ_cons, List.take_zero, List.drop_succ_cons, List.drop_zero]
            repeat (go_big_quiet_step (fail))
            exact wpQuiet_nil rfl
          simp only [List.take_succ_cons, List.take_zero, List.drop_succ_cons, List.drop_zero]
          refine textI_done ?_
          clear hHeld
          gi_wp2
          go_ret
          exact ⟨ret_bool (by rw [HFIN.out]; rfl), HW.out.trans HV1.out⟩
        · refine wpIn_order (tk := takeB) (fun _ => trivial) (fun Y : World => Y.heap[w.heap.size]? = some (.cells #[.int .i64 (W : Int), .int .i64 (H : Int), .slice aw nw cw, .slice ak nk ck] 72 (0, 0)) ∧ Y.heap[w.heap.size + 1]? = some (.cells #[.slice (some ⟨ba, off, none⟩) (k + 1) 1, .int .i64 o] 60 (0, 0)) ∧ Y.cell? ⟨ba, off, none⟩ = some (.int .i64 (c0 : Int))) [0, 1, 2, 3, 4, 5, 6, 7, 8, 9, 10, 11] (by kernel_rfl) (by kernel_rfl) (by kernel_rfl) (by exact ⟨B1X.out, B2X.out, c1.out⟩) (fun hHeld => ?_)
          simp only [opsIn, List.filterMap_cons, List.filterMap_nil, List.getElem?_toArray, List.getElem?_cons_succ, List.getElem?_cons_zero]
          refine' textI_chunk 5 (by kernel_rfl) hHeld ?ck9 ?cr9
          case ck9 =>
            intro W hSw
            have hSW := hSw
            try dsimp only at hSW
            clear hSw
            obtain ⟨s1, s2, s3⟩ := hSW
            obtain ⟨p0, p1, p2, p3⟩ := cells4 s1
            obtain ⟨d0, d1⟩ := cells2 s2
            simp only [List.take_succ_cons, List.take_zero, List.drop_succ_cons, List.drop_zero]
            repeat (go_big_quiet_step (fail))
            exact wpQuiet_nil rfl
          simp only [List.take_succ_cons, List.take_zero, List.drop_succ_cons, List.drop_zero]
          refine textI_call (by rfl) (by rfl) (fun K hK => ?_)
          go_simp
          refine ⟨trivial, (callsIn_wide.2 (HIW.out _ (HW.out.trans (Ext.refl _).drew))).mono ?_⟩
          rintro e V1 ⟨rfl, he1⟩
          have HEE := Lib.hid he1
          have HV1 := Lib.hid ((Ext.refl wr).drew.trans he1)
          clear he1
          all_goals (try (gi_wp2_with fail))
          refine hK.out _ _ (by exact ⟨block_ext HEE.out hHeld.1, block_ext HEE.out hHeld.2.1, cell_ext HEE.out hHeld.2.2⟩) (fun hHeld => ?_)
          clear hK K
          try simp only [Act.put, List.setIfInBounds_toArray, List.set_cons_zero, List.set_cons_succ]
          refine' textI_chunk 3 (by kernel_rfl) hHeld ?ck10 ?cr10
          case ck10 =>
            intro W hSw
            have hSW := hSw
            try dsimp only at hSW
            clear hSw
            obtain ⟨s1, s2, s3⟩ := hSW
            obtain ⟨p0, p1, p2, p3⟩ := cells4 s1
            obtain ⟨d0, d1⟩ := cells2 s2
            simp only [List.take_succ_cons, List.take_zero, List.drop_succ_cons, List.drop_zero]
            repeat (go_big_quiet_step (fail))
            exact wpQuiet_nil rfl
          simp only [List.take_succ_cons, List.take_zero, List.drop_succ_cons, List.drop_zero]
          refine textI_call (by rfl) (by rfl) (fun K hK => ?_)
          go_simp
          refine ⟨trivial, (callsIn_wide.2 (HER.out _ (HW.out.trans HV1.out))).mono ?_⟩
          rintro e V2 ⟨rfl, he2⟩
          have HEE := Lib.hid he2
          have HV2 := Lib.hid (HV1.out.trans he2)
          clear he2
          all_goals (try (gi_wp2_with fail))
          refine hK.out _ _ (by exact ⟨block_ext HEE.out hHeld.1, block_ext HEE.out hHeld.2.1, cell_ext HEE.out hHeld.2.2⟩) (fun hHeld => ?_)
          clear hK K
          try simp only [Act.put, List.setIfInBounds_toArray, List.set_cons_zero, List.set_cons_succ]
          refine' textI_chunk 2 (by kernel_rfl) hHeld ?ck11 ?cr11
          case ck11 =>
            intro W hSw
            have hSW := hSw
            try dsimp only at hSW
            clear hSw
            skip
            simp only [List.take_succ_cons, List.take_zero, List.drop_succ_cons, List.drop_zero]
            repeat (go_big_quiet_step (fail))
            exact wpQuiet_nil rfl
          simp only [List.take_succ_cons, List.take_zero, List.drop_succ_cons, List.drop_zero]
          refine textI_done ?_
          clear hHeld
          gi_wp2
          go_ret
          exact ⟨ret_bool (by rw [HFIN.out]; rfl), HW.out.trans HV2.out⟩
  · gi_upto_region 1 with fail
    rw [← HW1.out]
    gi_wp2
    gi_loopw [13] (fun s wr => ∃ k : Nat, k ≤ m ∧ s = .int .i64 (k : Int) ∧ Hid (stepB W H (natI ws) k = true) ∧ Hid (Ext w1 wr)) (fun s wr => m - (intOf s).toNat)
    case atStart => exact ⟨0, by omega, by go_num, Lib.hid rfl, Lib.hid (Ext.refl _)⟩
    case round =>
      obtain ⟨k, hk, rfl, hst, hE⟩ := hrel
      have HW := Lib.hid (HE1.out.trans hE.out)
      by_cases hlt : k < m
      · have hki : k + 1 < ws.length := by have := HM.out; omega
        obtain ⟨c, hc⟩ : ∃ c, ws[k]? = some c := ⟨ws[k], List.getElem?_eq_getElem (by omega)⟩
        obtain ⟨d, hd⟩ : ∃ d, ws[k + 1]? = some d := ⟨ws[k + 1], List.getElem?_eq_getElem hki⟩
        have hcn := HCL.out c (List.mem_of_getElem? hc)
        have hBT := fun X => between_c W H nw cw nk ck aw ak c (d : Int) X hW hH hcn
        obtain ⟨r0, hr0⟩ : ∃ r0 : Int, r0 = if btI W H c (d : Int) < 4 then (c : Int) else 0 := ⟨_, rfl⟩
        obtain ⟨r1, hr1⟩ : ∃ r1 : Int, r1 = if btI W H c (d : Int) < 4 then (btI W H c (d : Int) : Int) else 0 := ⟨_, rfl⟩
        obtain ⟨fb, hfb⟩ : ∃ fb, fb = decide (btI W H c (d : Int) < 4) := ⟨_, rfl⟩
        rw [← hr0, ← hr1, ← hfb] at hBT
        have HBT := Lib.hid hBT
        have HNO := Lib.hid (show fb = false → stepB W H (natI ws) ((natI ws).length - 1) = false from fun h => by
          refine stepB_no (k := k) (by rw [natI_len]; omega) ?_
          rw [tAt_some (natI_at hc), tAt_some (natI_at hd), Int.toNat_natCast]
          rw [hfb] at h
          exact of_decide_eq_false h)
        have HYES := Lib.hid (show fb = true → stepB W H (natI ws) (k + 1) = true from fun h => by
          rw [stepB_succ, hst.out, Bool.true_and, tAt_some (natI_at hc), tAt_some (natI_at hd), Int.toNat_natCast, ← hfb, h])
        have c1 := Lib.hid (HRD.out _ HW.out k c hc)
        have c2 := HRD.out _ HW.out (k + 1) d hd
        rw [show off + (k + 1) = off + 1 + k from by omega] at c2
        have ga : (0 : Int) ≤ (k : Int) := by omega
        have gb : (k : Int) < (m : Int) := by omega
        have gc : (k : Int).toNat = k := by omega
        have gd : (k : Int) < ((m + 1 : Nat) : Int) := by omega
        have ge : (k : Int) < (m : Int) + 1 := by omega
        have B1X := Lib.hid (block_ext hE.out B0.out); have B2X := Lib.hid (block_ext hE.out B1.out)
        clear hc hd hBT hr0 hr1 hfb
        gi_upto_region 4 with fail
        clear c2
        refine wpIn_order2 (tk := takeB) (fun f => trivial) (fun Y : World => Y.heap[w.heap.size]? = some (.cells #[.int .i64 (W : Int), .int .i64 (H : Int), .slice aw nw cw, .slice ak nk ck] 72 (0, 0)) ∧ Y.heap[w.heap.size + 1]? = some (.cells #[.slice (some ⟨ba, off, none⟩) (m + 1) cap, .int .i64 o] 60 (0, 0)) ∧ Y.cell? ⟨ba, off + k, none⟩ = some (.int .i64 (c : Int))) [0, 1, 2, 3, 4, 5, 6] 7 [8, 9, 10, 11, 12, 13] 11 [7, 8, 9, 10, 12, 13] (by kernel_rfl) (by kernel_rfl) (by kernel_rfl) (by exact ⟨B1X.out, B2X.out, c1.out⟩) (fun hHeld => ?_) (fun hHeld => ?_)
        · simp only [List.cons_append, List.nil_append]
          simp only [opsIn, List.filterMap_cons, List.filterMap_nil, List.getElem?_toArray, List.getElem?_cons_succ, List.getElem?_cons_zero]
          refine' textI_chunk 7 (by kernel_rfl) hHeld ?ck12 ?cr12
          case ck12 =>
            intro W hSw
            have hSW := hSw
            try dsimp only at hSW
            clear hSw
            obtain ⟨s1, s2, s3⟩ := hSW
            obtain ⟨p0, p1, p2, p3⟩ := cells4 s1
            obtain ⟨d0, d1⟩ := cells2 s2
            simp only [List.take_succ_cons, List.take_zero, List.drop_succ_cons, List.drop_zero]
            repeat (go_big_quiet_step (fail))
            exact wpQuiet_nil rfl
          simp only [List.take_succ_cons, List.take_zero, List.drop_succ_cons, List.drop_zero]
          refine textI_call (by rfl) (by rfl) (fun K hK => ?_)
          go_simp
          refine ⟨trivial, (callsIn_wide.2 (HBT.out _)).mono ?_⟩
          rintro e V1 ⟨rfl, he1⟩
          have HEE := Lib.hid he1
          have HV1 := Lib.hid ((Ext.refl wr).drew.trans he1)
          clear he1
          all_goals (try (gi_wp2_with fail))
          refine hK.out _ _ (by exact ⟨block_ext HEE.out hHeld.1, block_ext HEE.out hHeld.2.1, cell_ext HEE.out hHeld.2.2⟩) (fun hHeld => ?_)
          clear hK K
          try simp only [Act.put, List.setIfInBounds_toArray, List.set_cons_zero, List.set_cons_succ]
          refine' textI_chunk 3 (by kernel_rfl) hHeld ?ck13 ?cr13
          case ck13 =>
            intro W hSw
            have hSW := hSw
            try dsimp only at hSW
            clear hSw
            skip
            simp only [List.take_succ_cons, List.take_zero, List.drop_succ_cons, List.drop_zero]
            repeat (go_big_quiet_step (fail))
            exact wpQuiet_nil rfl
          simp only [List.take_succ_cons, List.take_zero, List.drop_succ_cons, List.drop_zero]
          refine textI_call (by rfl) (by rfl) (fun K hK => ?_)
          go_simp
          obtain ⟨V2, hV2⟩ : ∃ V2, V2 = V1.alloc (.cells #[.int .i64 0, .int .i64 0] 124) := ⟨_, rfl⟩
          have hee : Ext V1 V2 := by rw [hV2]; exact (Ext.refl _).alloc _
          have HEE := Lib.hid hee
          have HV2 := Lib.hid (Ext.trans (HV1.out) hee)
          have hzb : V2.heap[V1.heap.size]? = some (.cells #[.int .i64 0, .int .i64 0] 124 (0, 0)) := by rw [hV2]; exact heap_alloc_new V1 _
          have hnw : wr.heap.size ≤ V1.heap.size := (HV1.out).size
          have ZB := Lib.hid hzb
          rw [← hV2]
          clear hV2 hee hzb
          all_goals (try (gi_wp2_with fail))
          refine hK.out _ _ (by exact ⟨block_ext HEE.out hHeld.1, block_ext HEE.out hHeld.2.1, cell_ext HEE.out hHeld.2.2⟩) (fun hHeld => ?_)
          clear hK K
          try simp only [Act.put, List.setIfInBounds_toArray, List.set_cons_zero, List.set_cons_succ]
          have HEW := HV2
          refine textI_call_more (by rfl) (by rfl) (fun K hK => ?_)
          obtain ⟨z0, z1⟩ := cells2 ZB.out
          have y0 := frozen_of_blk ZB.out 0
          have y1 := frozen_of_blk ZB.out 1
          go_simp
          obtain ⟨V3, hV3⟩ : ∃ V3, V3 = (V2.setCell ⟨V1.heap.size, 0, none⟩ (.int .i64 r0)).setCell ⟨V1.heap.size, 1, none⟩ (.int .i64 r1) := ⟨_, rfl⟩
          have h3 : Ext wr V3 := by rw [hV3]; exact (Ext.set HEW.out hnw _ _).set hnw _ _
          rw [← hV3]
          clear z0 z1 y0 y1 hV3
          refine hK.out (fun Y => (Y.heap[w.heap.size]? = some (.cells #[.int .i64 (W : Int), .int .i64 (H : Int), .slice aw nw cw, .slice ak nk ck] 72 (0, 0)) ∧ Y.heap[w.heap.size + 1]? = some (.cells #[.slice (some ⟨ba, off, none⟩) (m + 1) cap, .int .i64 o] 60 (0, 0)) ∧ Y.cell? ⟨ba, off + k, none⟩ = some (.int .i64 (c : Int))) ∧ Hid (Ext wr V3)) _ _ (fun Y h => h.1) ⟨⟨block_ext h3 B1X.out, block_ext h3 B2X.out, cell_ext h3 c1.out⟩, Lib.hid h3⟩ (fun hHeld => ?_)
          have HV3 := hHeld.2
          clear hK K
          try simp only [Act.put, List.setIfInBounds_toArray, List.set_cons_zero, List.set_cons_succ]
          refine' textI_chunk 1 (by kernel_rfl) hHeld ?ck14 ?cr14
          case ck14 =>
            intro W hSw
            have hSW := hSw
            try dsimp only at hSW
            clear hSw
            skip
            simp only [List.take_succ_cons, List.take_zero, List.drop_succ_cons, List.drop_zero]
            repeat (go_big_quiet_step (fail))
            exact wpQuiet_nil rfl
          simp only [List.take_succ_cons, List.take_zero, List.drop_succ_cons, List.drop_zero]
          refine textI_done ?_
          clear hHeld
          cases fb
          · gi_wp2
            go_ret
            refine ⟨ret_bool ?_, HW.out.trans HV3.out⟩
            unfold wayB
            rw [show stepB W H (natI ws, o).1 ((natI ws, o).1.length - 1) = false from HNO.out (by first | trivial | rfl)]
            rfl
          · gi_wp2
            go_roundw
            case rel => exact ⟨k + 1, by omega, by go_num, Lib.hid (HYES.out (by first | trivial | rfl)), Lib.hid (hE.out.trans HV3.out)⟩
            case measure => simp [intOf]; omega
        · simp only [List.cons_append, List.nil_append]
          simp only [opsIn, List.filterMap_cons, List.filterMap_nil, List.getElem?_toArray, List.getElem?_cons_succ, List.getElem?_cons_zero]
          refine' textI_chunk 7 (by kernel_rfl) hHeld ?ck15 ?cr15
          case ck15 =>
            intro W hSw
            have hSW := hSw
            try dsimp only at hSW
            clear hSw
            obtain ⟨s1, s2, s3⟩ := hSW
            obtain ⟨p0, p1, p2, p3⟩ := cells4 s1
            obtain ⟨d0, d1⟩ := cells2 s2
            simp only [List.take_succ_cons, List.take_zero, List.drop_succ_cons, List.drop_zero]
            repeat (go_big_quiet_step (fail))
            exact wpQuiet_nil rfl
          simp only [List.take_succ_cons, List.take_zero, List.drop_succ_cons, List.drop_zero]
          refine textI_call (by rfl) (by rfl) (fun K hK => ?_)
          go_simp
          obtain ⟨V2, hV2⟩ : ∃ V2, V2 = (wr.alloc (.cells #[.int .i64 0, .int .i64 0] 124)).drew := ⟨_, rfl⟩
          have hee : Ext wr V2 := by rw [hV2]; exact ((Ext.refl _).alloc _).drew
          have HEE := Lib.hid hee
          have HV2 := Lib.hid (Ext.trans (Ext.refl wr) hee)
          have hzb : V2.heap[wr.heap.size]? = some (.cells #[.int .i64 0, .int .i64 0] 124 (0, 0)) := by rw [hV2]; exact heap_alloc_new wr _
          have hnw : wr.heap.size ≤ wr.heap.size := (Ext.refl wr).size
          have ZB := Lib.hid hzb
          rw [← hV2]
          clear hV2 hee hzb
          all_goals (try (gi_wp2_with fail))
          refine hK.out _ _ (by exact ⟨block_ext HEE.out hHeld.1, block_ext HEE.out hHeld.2.1, cell_ext HEE.out hHeld.2.2⟩) (fun hHeld => ?_)
          clear hK K
          try simp only [Act.put, List.setIfInBounds_toArray, List.set_cons_zero, List.set_cons_succ]
          refine textI_call (by rfl) (by rfl) (fun K hK => ?_)
          go_simp
          refine ⟨trivial, (callsIn_wide.2 (HBT.out _)).mono ?_⟩
          rintro e V1 ⟨rfl, he1⟩
          have HEE := Lib.hid he1
          have ZB := Lib.hid (block_ext he1 ZB.out)
          have HV1 := Lib.hid (HV2.out.trans he1)
          clear he1
          all_goals (try (gi_wp2_with fail))
          refine hK.out _ _ (by exact ⟨block_ext HEE.out hHeld.1, block_ext HEE.out hHeld.2.1, cell_ext HEE.out hHeld.2.2⟩) (fun hHeld => ?_)
          clear hK K
          try simp only [Act.put, List.setIfInBounds_toArray, List.set_cons_zero, List.set_cons_succ]
          refine' textI_chunk 3 (by kernel_rfl) hHeld ?ck16 ?cr16
          case ck16 =>
            intro W hSw
            have hSW := hSw
            try dsimp only at hSW
            clear hSw
            skip
            simp only [List.take_succ_cons, List.take_zero, List.drop_succ_cons, List.drop_zero]
            repeat (go_big_quiet_step (fail))
            exact wpQuiet_nil rfl
          simp only [List.take_succ_cons, List.take_zero, List.drop_succ_cons, List.drop_zero]
          have HEW := HV1
          refine textI_call_more (by rfl) (by rfl) (fun K hK => ?_)
          obtain ⟨z0, z1⟩ := cells2 ZB.out
          have y0 := frozen_of_blk ZB.out 0
          have y1 := frozen_of_blk ZB.out 1
          go_simp
          obtain ⟨V3, hV3⟩ : ∃ V3, V3 = (V1.setCell ⟨wr.heap.size, 0, none⟩ (.int .i64 r0)).setCell ⟨wr.heap.size, 1, none⟩ (.int .i64 r1) := ⟨_, rfl⟩
          have h3 : Ext wr V3 := by rw [hV3]; exact (Ext.set HEW.out hnw _ _).set hnw _ _
          rw [← hV3]
          clear z0 z1 y0 y1 hV3
          refine hK.out (fun Y => (Y.heap[w.heap.size]? = some (.cells #[.int .i64 (W : Int), .int .i64 (H : Int), .slice aw nw cw, .slice ak nk ck] 72 (0, 0)) ∧ Y.heap[w.heap.size + 1]? = some (.cells #[.slice (some ⟨ba, off, none⟩) (m + 1) cap, .int .i64 o] 60 (0, 0)) ∧ Y.cell? ⟨ba, off + k, none⟩ = some (.int .i64 (c : Int))) ∧ Hid (Ext wr V3)) _ _ (fun Y h => h.1) ⟨⟨block_ext h3 B1X.out, block_ext h3 B2X.out, cell_ext h3 c1.out⟩, Lib.hid h3⟩ (fun hHeld => ?_)
          have HV3 := hHeld.2
          clear hK K
          try simp only [Act.put, List.setIfInBounds_toArray, List.set_cons_zero, List.set_cons_succ]
          refine' textI_chunk 1 (by kernel_rfl) hHeld ?ck17 ?cr17
          case ck17 =>
            intro W hSw
            have hSW := hSw
            try dsimp only at hSW
            clear hSw
            skip
            simp only [List.take_succ_cons, List.take_zero, List.drop_succ_cons, List.drop_zero]
            repeat (go_big_quiet_step (fail))
            exact wpQuiet_nil rfl
          simp only [List.take_succ_cons, List.take_zero, List.drop_succ_cons, List.drop_zero]
          refine textI_done ?_
          clear hHeld
          cases fb
          · gi_wp2
            go_ret
            refine ⟨ret_bool ?_, HW.out.trans HV3.out⟩
            unfold wayB
            rw [show stepB W H (natI ws, o).1 ((natI ws, o).1.length - 1) = false from HNO.out (by first | trivial | rfl)]
            rfl
          · gi_wp2
            go_roundw
            case rel => exact ⟨k + 1, by omega, by go_num, Lib.hid (HYES.out (by first | trivial | rfl)), Lib.hid (hE.out.trans HV3.out)⟩
            case measure => simp [intOf]; omega
      · obtain rfl : k = m := by omega
        have B1X := Lib.hid (block_ext hE.out B0.out); have B2X := Lib.hid (block_ext hE.out B1.out)
        have c1 := Lib.hid (show wr.cell? ⟨ba, off, none⟩ = some (.int .i64 (c0 : Int)) from HRD.out _ HW.out 0 c0 HC0.out)
        have HFIN := Lib.hid (show wayB W H wl kl (natI ws, o) = (wb && eb) from by
          unfold wayB
          dsimp only
          rw [show (natI ws).length - 1 = k from by rw [natI_len, HM.out, Nat.add_sub_cancel], hst.out, Bool.true_and, tAt_some (natI_at HC0.out), ← HWB.out, ← HEB.out])
        gi_upto_region 8 with fail
        cases wb
        · refine wpIn_order (tk := takeB) (fun _ => trivial) (fun Y : World => Y.heap[w.heap.size]? = some (.cells #[.int .i64 (W : Int), .int .i64 (H : Int), .slice aw nw cw, .slice ak nk ck] 72 (0, 0)) ∧ Y.heap[w.heap.size + 1]? = some (.cells #[.slice (some ⟨ba, off, none⟩) (k + 1) cap, .int .i64 o] 60 (0, 0)) ∧ Y.cell? ⟨ba, off, none⟩ = some (.int .i64 (c0 : Int))) [0, 1, 2, 3, 4, 5, 6, 7, 8, 9, 10, 11] (by kernel_rfl) (by kernel_rfl) (by kernel_rfl) (by exact ⟨B1X.out, B2X.out, c1.out⟩) (fun hHeld => ?_)
          simp only [opsIn, List.filterMap_cons, List.filterMap_nil, List.getElem?_toArray, List.getElem?_cons_succ, List.getElem?_cons_zero]
          refine' textI_chunk 5 (by kernel_rfl) hHeld ?ck18 ?cr18
          case ck18 =>
            intro W hSw
            have hSW := hSw
            try dsimp only at hSW
            clear hSw
            obtain ⟨s1, s2, s3⟩ := hSW
            obtain ⟨p0, p1, p2, p3⟩ := cells4 s1
            obtain ⟨d0, d1⟩ := cells2 s2
            simp only [List.take_succ_cons, List.take_zero, List.drop_succ_cons, List.drop_zero]
            repeat (go_big_quiet_step (fail))
            exact wpQuiet_nil rfl
          simp only [List.take_succ_cons, List.take_zero, List.drop_succ_cons, List.drop_zero]
          refine textI_call (by rfl) (by rfl) (fun K hK => ?_)
          go_simp
          refine ⟨trivial, (callsIn_wide.2 (HIW.out _ (HW.out.trans (Ext.refl _).drew))).mono ?_⟩
          rintro e V1 ⟨rfl, he1⟩
          have HEE := Lib.hid he1
          have HV1 := Lib.hid ((Ext.refl wr).drew.trans he1)
          clear he1
          all_goals (try (gi_wp2_with fail))
          refine hK.out _ _ (by exact ⟨block_ext HEE.out hHeld.1, block_ext HEE.out hHeld.2.1, cell_ext HEE.out hHeld.2.2⟩) (fun hHeld => ?_)
          clear hK K
          try simp only [Act.put, List.setIfInBounds_toArray, List.set_cons_zero, List.set_cons_succ]
          refine' textI_chunk 1 (by kernel_rfl) hHeld ?ck19 ?cr19
          case ck19 =>
            intro W hSw
            have hSW := hSw
            try dsimp only at hSW
            clear hSw
            skip
            simp only [List.take_succ_cons, List.take_zero, List.drop_succ_cons, List.drop_zero]
            repeat (go_big_quiet_step (fail))
            exact wpQuiet_nil rfl
          simp only [List.take_succ_cons, List.take_zero, List.drop_succ_cons, List.drop_zero]
          refine textI_skip (by rfl) ?_
          try simp only [Act.put, List.setIfInBounds_toArray, List.set_cons_zero, List.set_cons_succ]
          refine textI_skip (by rfl) ?_
          try simp only [Act.put, List.setIfInBounds_toArray, List.set_cons_zero, List.set_cons_succ]
          refine textI_skip (by rfl) ?_
          try simp only [Act.put, List.setIfInBounds_toArray, List.set_cons_zero, List.set_cons_succ]
          refine' textI_chunk 2 (by kernel_rfl) hHeld ?ck20 ?cr20
          case ck20 =>
            intro W hSw
            have hSW := hSw
            try dsimp only at hSW
            clear hSw
            skip
            simp only [List.take_succ_cons, List.take_zero, List.drop_succ_cons, List.drop_zero]
            repeat (go_big_quiet_step (fail))
            exact wpQuiet_nil rfl
          simp only [List.take_succ_cons, List.take_zero, List.drop_succ_cons, List.drop_zero]
          refine textI_done ?_
          clear hHeld
          gi_wp2
          go_ret
          exact ⟨ret_bool (by rw [HFIN.out]; rfl), HW.out.trans HV1.out⟩
        · refine wpIn_order (tk := takeB) (fun _ => trivial) (fun Y : World => Y.heap[w.heap.size]? = some (.cells #[.int .i64 (W : Int), .int .i64 (H : Int), .slice aw nw cw, .slice ak nk ck] 72 (0, 0)) ∧ Y.heap[w.heap.size + 1]? = some (.cells #[.slice (some ⟨ba, off, none⟩) (k + 1) cap, .int .i64 o] 60 (0, 0)) ∧ Y.cell? ⟨ba, off, none⟩ = some (.int .i64 (c0 : Int))) [0, 1, 2, 3, 4, 5, 6, 7, 8, 9, 10, 11] (by kernel_rfl) (by kernel_rfl) (by kernel_rfl) (by exact ⟨B1X.out, B2X.out, c1.out⟩) (fun hHeld => ?_)
          simp only [opsIn, List.filterMap_cons, List.filterMap_nil, List.getElem?_toArray, List.getElem?_cons_succ, List.getElem?_cons_zero]
          refine' textI_chunk 5 (by kernel_rfl) hHeld ?ck21 ?cr21
          case ck21 =>
            intro W hSw
            have hSW := hSw
            try dsimp only at hSW
            clear hSw
            obtain ⟨s1, s2, s3⟩ := hSW
            obtain ⟨p0, p1, p2, p3⟩ := cells4 s1
            obtain ⟨d0, d1⟩ := cells2 s2
            simp only [List.take_succ_cons, List.take_zero, List.drop_succ_cons, List.drop_zero]
            repeat (go_big_quiet_step (fail))
            exact wpQuiet_nil rfl
          simp only [List.take_succ_cons, List.take_zero, List.drop_succ_cons, List.drop_zero]
          refine textI_call (by rfl) (by rfl) (fun K hK => ?_)
          go_simp
          refine ⟨trivial, (callsIn_wide.2 (HIW.out _ (HW.out.trans (Ext.refl _).drew))).mono ?_⟩
          rintro e V1 ⟨rfl, he1⟩
          have HEE := Lib.hid he1
          have HV1 := Lib.hid ((Ext.refl wr).drew.trans he1)
          clear he1
          all_goals (try (gi_wp2_with fail))
          refine hK.out _ _ (by exact ⟨block_ext HEE.out hHeld.1, block_ext HEE.out hHeld.2.1, cell_ext HEE.out hHeld.2.2⟩) (fun hHeld => ?_)
          clear hK K
          try simp only [Act.put, List.setIfInBounds_toArray, List.set_cons_zero, List.set_cons_succ]
          refine' textI_chunk 3 (by kernel_rfl) hHeld ?ck22 ?cr22
          case ck22 =>
            intro W hSw
            have hSW := hSw
            try dsimp only at hSW
            clear hSw
            obtain ⟨s1, s2, s3⟩ := hSW
            obtain ⟨p0, p1, p2, p3⟩ := cells4 s1
            obtain ⟨d0, d1⟩ := cells2 s2
            simp only [List.take_succ_cons, List.take_zero, List.drop_succ_cons, List.drop_zero]
            repeat (go_big_quiet_step (fail))
            exact wpQuiet_nil rfl
          simp only [List.take_succ_cons, List.take_zero, List.drop_succ_cons, List.drop_zero]
          refine textI_call (by rfl) (by rfl) (fun K hK => ?_)
          go_simp
          refine ⟨trivial, (callsIn_wide.2 (HER.out _ (HW.out.trans HV1.out))).mono ?_⟩
          rintro e V2 ⟨rfl, he2⟩
          have HEE := Lib.hid he2
          have HV2 := Lib.hid (HV1.out.trans he2)
          clear he2
          all_goals (try (gi_wp2_with fail))
          refine hK.out _ _ (by exact ⟨block_ext HEE.out hHeld.1, block_ext HEE.out hHeld.2.1, cell_ext HEE.out hHeld.2.2⟩) (fun hHeld => ?_)
          clear hK K
          try simp only [Act.put, List.setIfInBounds_toArray, List.set_cons_zero, List.set_cons_succ]
          refine' textI_chunk 2 (by kernel_rfl) hHeld ?ck23 ?cr23
          case ck23 =>
            intro W hSw
            have hSW := hSw
            try dsimp only at hSW
            clear hSw
            skip
            simp only [List.take_succ_cons, List.take_zero, List.drop_succ_cons, List.drop_zero]
            repeat (go_big_quiet_step (fail))
            exact wpQuiet_nil rfl
          simp only [List.take_succ_cons, List.take_zero, List.drop_succ_cons, List.drop_zero]
          refine textI_done ?_
          clear hHeld
          gi_wp2
          go_ret
          exact ⟨ret_bool (by rw [HFIN.out]; rfl), HW.out.trans HV2.out⟩
end Go.Proofs.YtppjnpempgpkaaaGreat
