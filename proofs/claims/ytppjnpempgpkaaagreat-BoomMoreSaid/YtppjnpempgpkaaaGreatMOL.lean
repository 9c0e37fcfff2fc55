/- BoomMore, by its contract. -/
import Derived.Test.YtppjnpempgpkaaaGreatS6
import Derived.Test.YtppjnpempgpkaaaGreatFI
import Derived.Test.YtppjnpempgpkaaaGreatMO
import Derived.Test.YtppjnpempgpkaaaGreatWQ
import Derived.Test.YtppjnpempgpkaaaGreatH7
import Derived.Test.YtppjnpempgpkaaaGreatH6
import Derived.Test.YtppjnpempgpkaaaGreatN3
import Derived.Test.YtppjnpempgpkaaaGreatK1
namespace Go.Proofs.YtppjnpempgpkaaaGreat
open Go.RowKit Go.Shelf
set_option linter.unusedVariables false
set_option linter.unusedSimpArgs false
attribute [local go_sem] Oper.semAt_some
theorem with_r (a : Option Addr) (n c : Nat) (l : List Nat) (x : Nat) (w : World) (hr : Reads w (.slice a n c) (natI l)) (hl : l.length ≤ 4000) : Calls Tryz.prog 34 #[.slice a n c, .int .i64 (x : Int)] w fun e w' => ∃ b m d, e = .returned (.slice b m d) ∧ Reads w' (.slice b m d) (natI (insN x l)) ∧ Ext w w' := by
  refine (with_c _ (natI l) (x : Int) w hr).mono fun e w' ⟨u, h1, h2, h3⟩ => ?_
  rw [insL_nat] at h2
  have hr2 := h2.reads (by rw [← insL_nat, insL_len, natI_len]; omega)
  obtain ⟨_, b, d, rfl⟩ := hr2.shape
  exact ⟨b, _, d, h1, hr2, h3⟩
set_option maxRecDepth 100000 in
set_option maxHeartbeats 4000000 in
theorem more_c (W H : Int) (aw ak : Option Addr) (cw ck : Nat) (wl kl : List Int) (dx : Nat) (hdx : dx ≤ 255) (w : World) (hw : wl.length ≤ 5000 → Reads w (.slice aw wl.length cw) wl) (hk : kl.length ≤ 5000 → Reads w (.slice ak kl.length ck) kl) :
    Calls Tryz.prog 6 #[.agg #[.int .i64 W, .int .i64 H, .slice aw wl.length cw, .slice ak kl.length ck], .int .u8 (dx : Int)] w fun e w' => e = .returned (.bool true) ∧ Ext w w' := by
  obtain ⟨b, hb⟩ : ∃ b, b = fineB W H wl kl := ⟨_, rfl⟩
  have HF := Lib.hid (fun (X : World) (h : Ext w X) => fine_c W H aw ak cw ck wl kl X (fun h5 => (hw h5).ext h) (fun h5 => (hk h5).ext h))
  rw [← hb] at HF
  obtain ⟨nw, hnw⟩ : ∃ n, n = wl.length := ⟨_, rfl⟩
  obtain ⟨nk, hnk⟩ : ∃ n, n = kl.length := ⟨_, rfl⟩
  rw [← hnw] at HF hw ⊢
  rw [← hnk] at HF hk ⊢
  obtain ⟨w1, hw1⟩ : ∃ w1, w1 = w.alloc (.cells #[.int .i64 W, .int .i64 H, .slice aw nw cw, .slice ak nk ck] 24) := ⟨_, rfl⟩
  have HE := Lib.hid (show Ext w w1 from by rw [hw1]; exact (Ext.refl w).alloc _)
  have B0 := Lib.hid (show w1.heap[w.heap.size]? = some (.cells #[.int .i64 W, .int .i64 H, .slice aw nw cw, .slice ak nk ck] 24 (0, 0)) from by rw [hw1]; exact heap_alloc_new w _)
  have HB := Lib.hid hb; have HNW := Lib.hid hnw; have HNK := Lib.hid hnk; have HHW := Lib.hid hw; have HHK := Lib.hid hk
  clear hb hnw hnk hw hk
  obtain ⟨z0, z1, z2, z3⟩ := cells4 B0.out
  go_enter Tryz.func6, Tryz.ntmps6
  go_upto_region 1 with fail
  rw [← hw1]
  clear hw1
  go_wp2_with fail
  refine (HF.out _ HE.out).mono ?_
  rintro e w2 ⟨rfl, h2⟩
  have HE := Lib.hid (HE.out.trans h2); have B0 := Lib.hid (block_ext h2 B0.out)
  clear h2 z0 z1 z2 z3
  cases b
  · skip
    go_wp2_with fail
    refine (works_c _).mono ?_
    rintro e wz ⟨rfl, hz⟩
    go_wp2
    go_ret
    exact ⟨rfl, HE.out.trans hz⟩
  · skip
    have hfb := HB.out.symm
    unfold fineB at hfb
    rw [Bool.and_eq_true, Bool.not_eq_true', Bool.or_eq_false_iff, decide_eq_false_iff_not, decide_eq_false_iff_not, decide_eq_true_iff] at hfb
    obtain ⟨⟨h7w, h7k⟩, h0⟩ := hfb
    obtain ⟨W, H, wn, kn, ⟨rfl, rfl⟩, ⟨rfl, rfl⟩, hv⟩ := chkP_ok.1 h0
    clear h0
    have hnw := HNW.out; have hnk := HNK.out
    have hw := HHW.out (by omega); have hk := HHK.out (by omega)
    clear HF HB HNW HNK HHW HHK hnw hnk h7w h7k
    have HFR := Lib.hid (fun (X : World) (h : Ext w X) => rfree_c W H nw cw nk ck aw ak wn kn hv X (hw.ext h) (hk.ext h))
    obtain ⟨nf, hnf⟩ : ∃ n, n = (freN wn kn (W * H)).length := ⟨_, rfl⟩
    have hnf64 : nf ≤ 64 := by have := freN_len wn kn (W * H); have := hv.n64; omega
    rw [← hnf] at HFR
    have HV := Lib.hid hv; have HWR := Lib.hid hw; have HKR := Lib.hid hk; have HNF := Lib.hid hnf
    clear hv hw hk hnf
    obtain ⟨z0, z1, z2, z3⟩ := cells4 B0.out
    go_wp2_with fail
    refine (HFR.out _ HE.out).mono ?_
    rintro e w3 ⟨fa, fc, rfl, -, h2⟩
    have HE := Lib.hid (HE.out.trans h2); have B0 := Lib.hid (block_ext h2 B0.out)
    clear h2 z0 z1 z2 z3
    by_cases h0 : nf = 0
    · subst nf
      go_wp2_with fail
      refine (works_c _).mono ?_
      rintro e wz ⟨rfl, hz⟩
      go_wp2
      go_ret
      exact ⟨rfl, HE.out.trans hz⟩
    · have hn0 : ¬ (nf : Int) = 0 := by omega
      have hn1 : decide ((nf : Int) = 0) = false := decide_eq_false hn0
      obtain ⟨z0, z1, z2, z3⟩ := cells4 B0.out
      go_wp2_with fail
      refine (HFR.out _ HE.out).mono ?_
      rintro e w4 ⟨fa, fc, rfl, hr1, h2⟩
      have HE := Lib.hid (HE.out.trans h2); have B0 := Lib.hid (block_ext h2 B0.out)
      have HFL := Lib.hid hr1
      clear hr1
      clear h2 z0 z1 z2 z3
      obtain ⟨f, hf⟩ : ∃ f, f = dx % nf := ⟨_, rfl⟩
      have hfn : f < nf := by rw [hf]; exact Nat.mod_lt _ (by omega)
      have hd1 : (dx : Int).tmod (nf : Int) = (f : Int) := by rw [hf]; exact (Int.ofNat_tmod dx nf).symm
      have hd2 : (dx : Int) % (nf : Int) = (f : Int) := by rw [hf]; simp
      have hfa : (0 : Int) ≤ (f : Int) := by omega
      have hfb : (f : Int) < (nf : Int) := by omega
      have hft : (f : Int).toNat = f := by omega
      obtain ⟨bl, off, x, rfl, hx, hcx⟩ := HFL.out.at (k := f) (by rw [natI_len]; have := HNF.out; omega)
      unfold natI at hx
      rw [List.getElem?_map] at hx
      obtain ⟨cc, hcc⟩ : ∃ c, (freN wn kn (W * H))[f]? = some c := get_some (by have := HNF.out; omega)
      rw [hcc] at hx
      obtain rfl : ((cc : Nat) : Int) = x := Option.some.inj hx
      obtain ⟨g1, g2, g3⟩ := fre_mem.1 (List.mem_of_getElem? hcc)
      have hv1 := vpWant HV.out g1 g2 g3
      have hv2 := vpKeep HV.out g1 g2 g3
      obtain ⟨e1, e2, e3, e4, e5, e6, e7⟩ := more_all HV.out hv1 hv2
      have H1 := Lib.hid (fun (X : World) (h : Ext w X) => best_c W H nw cw nk ck aw ak wn kn HV.out X (HWR.out.ext h) (HKR.out.ext h))
      have H2 := Lib.hid (fun (X : World) (h : Ext w X) (a : Option Addr) (n c : Nat) (hr : Reads X (.slice a n c) (natI (insN cc wn))) => best_c W H n c nk ck a ak (insN cc wn) kn hv1 X hr (HKR.out.ext h))
      have H3 := Lib.hid (fun (X : World) (h : Ext w X) (a : Option Addr) (n c : Nat) (hr : Reads X (.slice a n c) (natI (insN cc kn))) => best_c W H nw cw n c aw a wn (insN cc kn) hv2 X (HWR.out.ext h) hr)
      have H4 := Lib.hid (fun (X : World) (h : Ext w X) => with_r aw nw cw wn cc X (HWR.out.ext h) (by have := HV.out.want.len; have := HV.out.n64; omega))
      have H5 := Lib.hid (fun (X : World) (h : Ext w X) => with_r ak nk ck kn cc X (HKR.out.ext h) (by have := HV.out.keep.len; have := HV.out.n64; omega))
      generalize fewN HV.out = N at *
      generalize fewN hv1 = N1 at *
      generalize fewN hv2 = N2 at *
      generalize natI (smL HV.out) = s0 at *
      generalize natI (lgL HV.out) = l0 at *
      generalize natI (smL hv1) = s1 at *
      generalize natI (lgL hv1) = l1 at *
      generalize natI (smL hv2) = s2 at *
      generalize natI (lgL hv2) = l2 at *
      generalize natI (insN cc wn) = iw at *
      generalize natI (insN cc kn) = ik at *
      have hi1 : (N : Int) ≤ (N1 : Int) := by omega
      have hi2 : (N : Int) ≤ (N2 : Int) := by omega
      have HMIN := Lib.hid e3
      have HA := Lib.hid (And.intro e4 (And.intro e5 (And.intro e6 e7)))
      have HI12 := Lib.hid (And.intro hi1 hi2)
      clear hcc hx hf hfn g1 g2 g3 hv1 hv2 e1 e2 e3 e4 e5 e6 e7 hi1 hi2 HFL HFR HNF
      obtain ⟨z0, z1, z2, z3⟩ := cells4 B0.out
      go_upto_region 5 with fail
      clear z0 z1 z2 z3 hd1 hd2 hfa hfb hft hn0 hn1 hcx
      obtain ⟨z0, z1, z2, z3⟩ := cells4 B0.out
      go_wp2_with fail
      refine (H1.out _ HE.out).mono ?_
      rintro e w5 ⟨p0, p1, p2, q0, q1, q2, rfl, hr1, hr2, h2⟩
      have HE := Lib.hid (HE.out.trans h2); have B0 := Lib.hid (block_ext h2 B0.out)
      have R1 := Lib.hid hr1; have R2 := Lib.hid hr2
      clear hr1 hr2
      clear h2 z0 z1 z2 z3
      go_upto_region 6 with fail
      refine wp_region_order ((fun V : World => V.heap[w.heap.size]? = some (.cells #[.int .i64 (W : Int), .int .i64 (H : Int), .slice aw nw cw, .slice ak nk ck] 24 (0, 0)))) [0, 1, 2, 3, 4, 5, 6, 8, 9, 7, 10, 11, 12, 13, 14, 15, 16, 17, 18, 19, 20] (by kernel_rfl) (by kernel_rfl) (by exact B0.out) (fun hHeld => ?_)
      simp only [opsIn, List.filterMap_cons, List.filterMap_nil, List.getElem?_toArray, List.getElem?_cons_succ, List.getElem?_cons_zero]
      obtain ⟨d6, hd6⟩ : ∃ Y, Y = w5.drew := ⟨_, rfl⟩
      have h2 : Ext w5 d6 := by rw [hd6]; exact (Ext.refl _).drew
      have HE := Lib.hid (HE.out.trans h2)
      have R1 := Lib.hid (R1.out.ext h2)
      have R2 := Lib.hid (R2.out.ext h2)
      rw [← hd6] at hHeld ⊢
      clear hd6 h2
      refine' text_chunk 9 (by kernel_rfl) hHeld ?ck1 ?cr1
      case ck1 =>
        intro W hSw
        have hSW := hSw
        try dsimp only at hSW
        clear hSw
        obtain ⟨z0, z1, z2, z3⟩ := cells4 hSW
        simp only [List.take_succ_cons, List.take_zero, List.drop_succ_cons, List.drop_zero]
        repeat (go_big_quiet_step (fail))
        exact wpQuiet_nil rfl
      simp only [List.take_succ_cons, List.take_zero, List.drop_succ_cons, List.drop_zero]
      refine text_call (by rfl) (by rfl) (fun K hK => ?_)
      go_simp
      refine (H4.out _ HE.out).mono ?_
      intro e v1 h1; obtain ⟨b6, m6, c6, h1, hr1, h2⟩ := h1
      have HE := Lib.hid (HE.out.trans h2); have Xv1 := Lib.hid h2
      have R1 := Lib.hid (R1.out.ext h2)
      have R2 := Lib.hid (R2.out.ext h2)
      subst h1
      have RI := Lib.hid hr1
      clear hr1
      clear h2
      all_goals (try (go_wp2_with fail))
      refine hK.out _ _ (by exact block_ext Xv1.out hHeld) (fun hHeld => ?_)
      clear hK K
      try simp only [Act.put, List.setIfInBounds_toArray, List.set_cons_zero, List.set_cons_succ]
      refine text_call (by rfl) (by rfl) (fun K hK => ?_)
      go_simp
      refine (pond_c (W : Int) (H : Int) m6 c6 nk ck b6 ak _).mono ?_
      intro e v2 h1; obtain ⟨h1, h2⟩ := h1
      have HE := Lib.hid (HE.out.trans h2); have Xv2 := Lib.hid h2
      have R1 := Lib.hid (R1.out.ext h2)
      have R2 := Lib.hid (R2.out.ext h2)
      have RI := Lib.hid (RI.out.ext h2)
      subst h1
      clear h2
      all_goals (try (go_wp2_with fail))
      refine hK.out _ _ (by exact block_ext Xv2.out hHeld) (fun hHeld => ?_)
      clear hK K
      try simp only [Act.put, List.setIfInBounds_toArray, List.set_cons_zero, List.set_cons_succ]
      refine text_call (by rfl) (by rfl) (fun K hK => ?_)
      go_simp
      refine (H2.out _ HE.out _ _ _ RI.out).mono ?_
      intro e v3 h1; obtain ⟨r0, r1, r2, t0, t1, t2, h1, hr1, hr2, h2⟩ := h1
      have HE := Lib.hid (HE.out.trans h2); have Xv3 := Lib.hid h2
      have R1 := Lib.hid (R1.out.ext h2)
      have R2 := Lib.hid (R2.out.ext h2)
      have RI := Lib.hid (RI.out.ext h2)
      subst h1
      have R3 := Lib.hid hr1; have R4 := Lib.hid hr2
      clear hr1 hr2
      clear h2
      all_goals (try (go_wp2_with fail))
      refine hK.out _ _ (by exact block_ext Xv3.out hHeld) (fun hHeld => ?_)
      clear hK K
      try simp only [Act.put, List.setIfInBounds_toArray, List.set_cons_zero, List.set_cons_succ]
      refine' text_chunk 9 (by kernel_rfl) hHeld ?ck2 ?cr2
      case ck2 =>
        intro W hSw
        have hSW := hSw
        try dsimp only at hSW
        clear hSw
        skip
        simp only [List.take_succ_cons, List.take_zero, List.drop_succ_cons, List.drop_zero]
        repeat (go_big_quiet_step (fail))
        exact wpQuiet_nil rfl
      simp only [List.take_succ_cons, List.take_zero, List.drop_succ_cons, List.drop_zero]
      refine text_done ?_
      have B0 := Lib.hid hHeld
      clear hHeld RI Xv1 Xv2 Xv3
      go_upto_region 7 with fail
      refine wp_region_order ((fun V : World => V.heap[w.heap.size]? = some (.cells #[.int .i64 (W : Int), .int .i64 (H : Int), .slice aw nw cw, .slice ak nk ck] 24 (0, 0)))) [0, 1, 2, 3, 4, 5, 6, 7, 8, 9, 10, 11, 12, 13, 14, 15, 16, 17, 18, 19, 20] (by kernel_rfl) (by kernel_rfl) (by exact B0.out) (fun hHeld => ?_)
      simp only [opsIn, List.filterMap_cons, List.filterMap_nil, List.getElem?_toArray, List.getElem?_cons_succ, List.getElem?_cons_zero]
      obtain ⟨d7, hd7⟩ : ∃ Y, Y = v3.drew := ⟨_, rfl⟩
      have h2 : Ext v3 d7 := by rw [hd7]; exact (Ext.refl _).drew
      have HE := Lib.hid (HE.out.trans h2)
      have R1 := Lib.hid (R1.out.ext h2)
      have R2 := Lib.hid (R2.out.ext h2)
      have R3 := Lib.hid (R3.out.ext h2)
      have R4 := Lib.hid (R4.out.ext h2)
      rw [← hd7] at hHeld ⊢
      clear hd7 h2
      refine' text_chunk 9 (by kernel_rfl) hHeld ?ck3 ?cr3
      case ck3 =>
        intro W hSw
        have hSW := hSw
        try dsimp only at hSW
        clear hSw
        obtain ⟨z0, z1, z2, z3⟩ := cells4 hSW
        simp only [List.take_succ_cons, List.take_zero, List.drop_succ_cons, List.drop_zero]
        repeat (go_big_quiet_step (fail))
        exact wpQuiet_nil rfl
      simp only [List.take_succ_cons, List.take_zero, List.drop_succ_cons, List.drop_zero]
      refine text_call (by rfl) (by rfl) (fun K hK => ?_)
      go_simp
      refine (H5.out _ HE.out).mono ?_
      intro e v4 h1; obtain ⟨b7, m7, c7, h1, hr1, h2⟩ := h1
      have HE := Lib.hid (HE.out.trans h2); have Xv4 := Lib.hid h2
      have R1 := Lib.hid (R1.out.ext h2)
      have R2 := Lib.hid (R2.out.ext h2)
      have R3 := Lib.hid (R3.out.ext h2)
      have R4 := Lib.hid (R4.out.ext h2)
      subst h1
      have RI := Lib.hid hr1
      clear hr1
      clear h2
      all_goals (try (go_wp2_with fail))
      refine hK.out _ _ (by exact block_ext Xv4.out hHeld) (fun hHeld => ?_)
      clear hK K
      try simp only [Act.put, List.setIfInBounds_toArray, List.set_cons_zero, List.set_cons_succ]
      refine text_call (by rfl) (by rfl) (fun K hK => ?_)
      go_simp
      refine (pond_c (W : Int) (H : Int) nw cw m7 c7 aw b7 _).mono ?_
      intro e v5 h1; obtain ⟨h1, h2⟩ := h1
      have HE := Lib.hid (HE.out.trans h2); have Xv5 := Lib.hid h2
      have R1 := Lib.hid (R1.out.ext h2)
      have R2 := Lib.hid (R2.out.ext h2)
      have R3 := Lib.hid (R3.out.ext h2)
      have R4 := Lib.hid (R4.out.ext h2)
      have RI := Lib.hid (RI.out.ext h2)
      subst h1
      clear h2
      all_goals (try (go_wp2_with fail))
      refine hK.out _ _ (by exact block_ext Xv5.out hHeld) (fun hHeld => ?_)
      clear hK K
      try simp only [Act.put, List.setIfInBounds_toArray, List.set_cons_zero, List.set_cons_succ]
      refine text_call (by rfl) (by rfl) (fun K hK => ?_)
      go_simp
      refine (H3.out _ HE.out _ _ _ RI.out).mono ?_
      intro e v6 h1; obtain ⟨i0, i1, i2, j0, j1, j2, h1, hr1, hr2, h2⟩ := h1
      have HE := Lib.hid (HE.out.trans h2); have Xv6 := Lib.hid h2
      have R1 := Lib.hid (R1.out.ext h2)
      have R2 := Lib.hid (R2.out.ext h2)
      have R3 := Lib.hid (R3.out.ext h2)
      have R4 := Lib.hid (R4.out.ext h2)
      have RI := Lib.hid (RI.out.ext h2)
      subst h1
      have R5 := Lib.hid hr1; have R6 := Lib.hid hr2
      clear hr1 hr2
      clear h2
      all_goals (try (go_wp2_with fail))
      refine hK.out _ _ (by exact block_ext Xv6.out hHeld) (fun hHeld => ?_)
      clear hK K
      try simp only [Act.put, List.setIfInBounds_toArray, List.set_cons_zero, List.set_cons_succ]
      refine' text_chunk 9 (by kernel_rfl) hHeld ?ck4 ?cr4
      case ck4 =>
        intro W hSw
        have hSW := hSw
        try dsimp only at hSW
        clear hSw
        skip
        simp only [List.take_succ_cons, List.take_zero, List.drop_succ_cons, List.drop_zero]
        repeat (go_big_quiet_step (fail))
        exact wpQuiet_nil rfl
      simp only [List.take_succ_cons, List.take_zero, List.drop_succ_cons, List.drop_zero]
      refine text_done ?_
      have B0 := Lib.hid hHeld
      clear hHeld RI Xv4 Xv5 Xv6
      obtain ⟨hi1, hi2⟩ := HI12.out
      have hcase : (N1 = N ∧ N ≤ N2) ∨ (N2 = N ∧ N ≤ N1) := by have := HMIN.out; omega
      have HW1 := Lib.hid (fun (V : World) (h : Ext v6 V) => inAll_c _ _ s0 s1 V (R1.out.ext h) (R3.out.ext h))
      have HW2 := Lib.hid (fun (V : World) (h : Ext v6 V) => inAll_c _ _ l0 l1 V (R2.out.ext h) (R4.out.ext h))
      have HW3 := Lib.hid (fun (V : World) (h : Ext v6 V) => inAll_c _ _ s2 s0 V (R5.out.ext h) (R1.out.ext h))
      have HW4 := Lib.hid (fun (V : World) (h : Ext v6 V) => inAll_c _ _ l2 l0 V (R6.out.ext h) (R2.out.ext h))
      obtain ⟨a1, a2, a3, a4⟩ := HA.out
      rw [a1] at HW1
      rw [a2] at HW2
      rw [a3] at HW3
      rw [a4] at HW4
      have H6 := Lib.hid (Ext.refl v6)
      clear a1 a2 a3 a4 R1 R2 R3 R4 R5 R6 HMIN HI12 HA H1 H2 H3 H4 H5
      rcases hcase with ⟨hc1, hc2⟩ | ⟨hc1, hc2⟩
      · subst N1
        have hc3 : (N : Int) ≤ (N2 : Int) := by omega
        clear hc2
        go_wp2_with fail
        all_goals first
          | (exfalso; omega)
          | (
            refine (HW1.out _ H6.out).mono ?_
            rintro e x1 ⟨rfl, h2⟩
            have HE := Lib.hid (HE.out.trans h2); have H6 := Lib.hid (H6.out.trans h2)
            clear h2
            go_wp2_with fail
            refine (HW2.out _ H6.out).mono ?_
            rintro e x2 ⟨rfl, h2⟩
            have HE := Lib.hid (HE.out.trans h2); have H6 := Lib.hid (H6.out.trans h2)
            clear h2
            go_wp2_with fail
            refine (HW3.out _ H6.out).mono ?_
            rintro e x3 ⟨rfl, h2⟩
            have HE := Lib.hid (HE.out.trans h2); have H6 := Lib.hid (H6.out.trans h2)
            clear h2
            go_wp2_with fail
            refine (HW4.out _ H6.out).mono ?_
            rintro e x4 ⟨rfl, h2⟩
            have HE := Lib.hid (HE.out.trans h2); have H6 := Lib.hid (H6.out.trans h2)
            clear h2
            go_wp2_with fail
            refine (works_c _).mono ?_
            rintro e wz ⟨rfl, hz⟩
            go_wp2
            go_ret
            exact ⟨rfl, HE.out.trans hz⟩
            )
      · subst N2
        have hc3 : (N : Int) ≤ (N1 : Int) := by omega
        clear hc2
        go_wp2_with fail
        all_goals first
          | (exfalso; omega)
          | (
            refine (HW1.out _ H6.out).mono ?_
            rintro e x1 ⟨rfl, h2⟩
            have HE := Lib.hid (HE.out.trans h2); have H6 := Lib.hid (H6.out.trans h2)
            clear h2
            go_wp2_with fail
            refine (HW2.out _ H6.out).mono ?_
            rintro e x2 ⟨rfl, h2⟩
            have HE := Lib.hid (HE.out.trans h2); have H6 := Lib.hid (H6.out.trans h2)
            clear h2
            go_wp2_with fail
            refine (HW3.out _ H6.out).mono ?_
            rintro e x3 ⟨rfl, h2⟩
            have HE := Lib.hid (HE.out.trans h2); have H6 := Lib.hid (H6.out.trans h2)
            clear h2
            go_wp2_with fail
            refine (HW4.out _ H6.out).mono ?_
            rintro e x4 ⟨rfl, h2⟩
            have HE := Lib.hid (HE.out.trans h2); have H6 := Lib.hid (H6.out.trans h2)
            clear h2
            go_wp2_with fail
            refine (works_c _).mono ?_
            rintro e wz ⟨rfl, hz⟩
            go_wp2
            go_ret
            exact ⟨rfl, HE.out.trans hz⟩
            )
end Go.Proofs.YtppjnpempgpkaaaGreat
