/- Counts: how many cuttings of what is let scale as much as a best one. Count, of both. -/
import Derived.Test.YtcgheakadfjofaaD3
import Derived.Deep.RegionHeld3
import Derived.Test.YtcgheakadfjofaaD16
import Derived.Test.YtcgheakadfjofaaC7
namespace Go.Proofs.Ytcgheakadfjofaa
open Go.RowKit Go.Shelf
set_option linter.unusedVariables false
set_option linter.unusedSimpArgs false
attribute [local go_sem] Oper.semAt_some
set_option maxRecDepth 100000 in
set_option maxHeartbeats 16000000 in
theorem counts68 (vt vb : Value) (th bd : List Int) (r : Rl) (ov at_ : Int) (n : Nat) (w : World) (ht : Reads w vt th) (hd : Reads w vb bd) (hv : Vw th bd r) (hn : th.length = n + 1) :
    Calls Try.prog 68 #[.agg #[vt, vb], r.val, .agg #[.int .i64 ov, .int .i64 at_]] w fun e w' => e = .returned (.int .i64 (cntV 1099511627777 (sF th bd r) (ltV ov at_) n 0)) ∧ Ext w w' := by
  have hq := bst_M hv hn allB
  have hf := fun i j => sF_le hv i j
  have hn61 := hv.most
  obtain ⟨hl, a, cap, rfl⟩ := ht.shape
  obtain ⟨hl', a', cap', rfl⟩ := hd.shape
  obtain ⟨nb, hn'⟩ : ∃ n', n' = bd.length := ⟨_, rfl⟩
  rw [hn] at ht hl hn61 ⊢
  rw [← hn'] at hd hl' ⊢
  have hmk := make22 (n + 1) (by omega)
  rw [Int.natCast_add, Int.natCast_one] at hmk
  have E0 := Lib.hid (Ext.alloc (Ext.alloc (Ext.alloc (Ext.refl w) (.cells #[.slice a (n + 1) cap, .slice a' nb cap'] 25)) (.cells #[.int .i64 r.lo, .int .i64 r.hi, .int .i64 r.st, .int .i64 r.tr, .int .i64 r.off, .int .i64 r.dv, .int .i64 r.tn] 27)) (.cells #[.int .i64 ov, .int .i64 at_] 96))
  have P0 := Lib.hid ((StemAt.new w (.slice a (n + 1) cap) (.slice a' nb cap') 25).ext (Ext.alloc (Ext.alloc (Ext.refl _) (.cells #[.int .i64 r.lo, .int .i64 r.hi, .int .i64 r.st, .int .i64 r.tr, .int .i64 r.off, .int .i64 r.dv, .int .i64 r.tn] 27)) (.cells #[.int .i64 ov, .int .i64 at_] 96)))
  have R0 := (RuleAt.new (w.alloc (.cells #[.slice a (n + 1) cap, .slice a' nb cap'] 25)) r 27).ext (Ext.alloc (Ext.refl _) (.cells #[.int .i64 ov, .int .i64 at_] 96))
  have L0 := StemAt.new ((w.alloc (.cells #[.slice a (n + 1) cap, .slice a' nb cap'] 25)).alloc (.cells #[.int .i64 r.lo, .int .i64 r.hi, .int .i64 r.st, .int .i64 r.tr, .int .i64 r.off, .int .i64 r.dv, .int .i64 r.tn] 27)) (.int .i64 ov) (.int .i64 at_) 96
  simp only [World.size_alloc] at R0 L0
  have R0 := Lib.hid R0; have L0 := Lib.hid L0
  have H43 := Lib.hid (fun W : World => (show Calls Try.prog 43 #[.agg #[.slice a (n + 1) cap, .slice a' nb cap']] W fun e w' => e = .returned (.int .i64 (n : Int)) ∧ Ext W w' from by
    have h := long43 a (n + 1) cap (.slice a' nb cap') W (by omega)
    rwa [show (((n + 1 : Nat)) : Int) - 1 = (n : Int) from by omega] at h))
  have H45 := Lib.hid (fun (W : World) (h : Ext w W) (i j : Nat) (hij : i < j) (hj : j < n + 1) => refscale45 _ _ th bd r i j W (ht.ext h) (hd.ext h) hv hij (by rw [hn]; exact hj))
  have H63 := Lib.hid (fun (W : World) (h : Ext w W) => (show Calls Try.prog 63 #[.agg #[.slice a (n + 1) cap, .slice a' nb cap'], r.val, .agg #[.int .i64 (-1), .int .i64 (-1)]] W (RestPost W (bst (sF th bd r) allB n) n) from by
    have h2 := rest63 _ _ th bd r (-1) (-1) n W (ht.ext h) (hd.ext h) hv hn
    rw [ltV_all] at h2
    exact h2))
  obtain ⟨F, hF⟩ : ∃ F, F = sF th bd r := ⟨_, rfl⟩
  obtain ⟨lt, hlt⟩ : ∃ lt, lt = ltV ov at_ := ⟨_, rfl⟩
  obtain ⟨M, hM⟩ : ∃ M : Int, M = 1099511627777 := ⟨_, rfl⟩
  have H79 := Lib.hid (fun (W : World) (i j : Nat) => lets79 ov at_ i j W)
  rw [← hF] at hq hf H45 H63 ⊢
  rw [← hlt] at H79 ⊢
  have hM0 : 0 < M := by omega
  have HCA := Lib.hid (fun i (h : i < n) => (inC_all (M := M) (f := F) (lt := lt) h))
  have HCN := Lib.hid (show cntV M F lt n n = 1 from cntV_past (Nat.le_refl _))
  have hcb := fun i => (cntV_bd hM0 (f := F) (lt := lt) (n := n) i).1
  have hcb2 := fun i => (cntV_bd hM0 (f := F) (lt := lt) (n := n) i).2.1
  obtain ⟨c, hc⟩ : ∃ c, c = cntV M F lt n := ⟨_, rfl⟩
  rw [← hM, ← hc]
  rw [← hc] at HCA HCN hcb hcb2
  have HCM := Lib.hid (fun i m (h : i ≤ m) => inC_more M F lt n c h)
  have HCS := Lib.hid (fun i => inC_self M F lt n c i)
  have HCB := Lib.hid (fun i k => inC_bd hM0 (f := F) (lt := lt) (n := n) (c := c) (fun j => ⟨hcb j, hcb2 j⟩) i k)
  obtain ⟨q, hqq⟩ : ∃ q, q = bst F allB n := ⟨_, rfl⟩
  rw [← hqq] at hq H63
  have HQF := Lib.hid hqq
  have HF := Lib.hid hf; have HQ := Lib.hid hq; have HC1 := Lib.hid hcb; have HC2 := Lib.hid hcb2; have HMM := Lib.hid hM
  have hw1 : IntKind.i64.wrap ((n : Int) - 1) = (n : Int) - 1 := wrapi64 _ (by omega) (by omega)
  have HLEN := Lib.hid (rowK_len q (n + 1)); have HLENC := Lib.hid (rowK_len c (n + 1))
  clear hq hf hF hlt hqq ht hd hv hn hn' hl hl' hc hcb hcb2 hM0
  have ⟨s0, s1⟩ := P0.out
  have ⟨r0, r1, r2, r3, r4, r5, r6⟩ := R0.out
  have ⟨l0, l1⟩ := L0.out
  go_enter Try.func68, Try.ntmps68
  have HKP := Lib.hid (show ∀ X X' : World, (fun X : World => X.cell? ⟨w.heap.size, 0, none⟩ = some (.slice a (n + 1) cap) ∧ X.cell? ⟨w.heap.size, 1, none⟩ = some (.slice a' nb cap') ∧ X.cell? ⟨w.heap.size + 1, 0, none⟩ = some (.int .i64 r.lo) ∧ X.cell? ⟨w.heap.size + 1, 1, none⟩ = some (.int .i64 r.hi) ∧ X.cell? ⟨w.heap.size + 1, 2, none⟩ = some (.int .i64 r.st) ∧ X.cell? ⟨w.heap.size + 1, 3, none⟩ = some (.int .i64 r.tr) ∧ X.cell? ⟨w.heap.size + 1, 4, none⟩ = some (.int .i64 r.off) ∧ X.cell? ⟨w.heap.size + 1, 5, none⟩ = some (.int .i64 r.dv) ∧ X.cell? ⟨w.heap.size + 1, 6, none⟩ = some (.int .i64 r.tn) ∧ Hid (Ext w X)) X → Ext X X' → (fun X : World => X.cell? ⟨w.heap.size, 0, none⟩ = some (.slice a (n + 1) cap) ∧ X.cell? ⟨w.heap.size, 1, none⟩ = some (.slice a' nb cap') ∧ X.cell? ⟨w.heap.size + 1, 0, none⟩ = some (.int .i64 r.lo) ∧ X.cell? ⟨w.heap.size + 1, 1, none⟩ = some (.int .i64 r.hi) ∧ X.cell? ⟨w.heap.size + 1, 2, none⟩ = some (.int .i64 r.st) ∧ X.cell? ⟨w.heap.size + 1, 3, none⟩ = some (.int .i64 r.tr) ∧ X.cell? ⟨w.heap.size + 1, 4, none⟩ = some (.int .i64 r.off) ∧ X.cell? ⟨w.heap.size + 1, 5, none⟩ = some (.int .i64 r.dv) ∧ X.cell? ⟨w.heap.size + 1, 6, none⟩ = some (.int .i64 r.tn) ∧ Hid (Ext w X)) X' from fun X X' h hb => ⟨cell_ext hb h.1, cell_ext hb h.2.1, cell_ext hb h.2.2.1, cell_ext hb h.2.2.2.1, cell_ext hb h.2.2.2.2.1, cell_ext hb h.2.2.2.2.2.1, cell_ext hb h.2.2.2.2.2.2.1, cell_ext hb h.2.2.2.2.2.2.2.1, cell_ext hb h.2.2.2.2.2.2.2.2.1, Lib.hid (Ext.trans h.2.2.2.2.2.2.2.2.2.out hb)⟩)
  go_wp2
  refine wp_region_order (fun X : World => X.cell? ⟨w.heap.size, 0, none⟩ = some (.slice a (n + 1) cap) ∧ X.cell? ⟨w.heap.size, 1, none⟩ = some (.slice a' nb cap') ∧ X.cell? ⟨w.heap.size + 1, 0, none⟩ = some (.int .i64 r.lo) ∧ X.cell? ⟨w.heap.size + 1, 1, none⟩ = some (.int .i64 r.hi) ∧ X.cell? ⟨w.heap.size + 1, 2, none⟩ = some (.int .i64 r.st) ∧ X.cell? ⟨w.heap.size + 1, 3, none⟩ = some (.int .i64 r.tr) ∧ X.cell? ⟨w.heap.size + 1, 4, none⟩ = some (.int .i64 r.off) ∧ X.cell? ⟨w.heap.size + 1, 5, none⟩ = some (.int .i64 r.dv) ∧ X.cell? ⟨w.heap.size + 1, 6, none⟩ = some (.int .i64 r.tn) ∧ Hid (Ext w X)) [0, 1, 2, 3, 4] (by kernel_rfl) (by kernel_rfl) (by exact ⟨s0, s1, r0, r1, r2, r3, r4, r5, r6, Lib.hid E0.out.drew⟩) (fun hHeld => ?_)
  simp only [opsIn, List.filterMap_cons, List.filterMap_nil, List.getElem?_toArray, List.getElem?_cons_succ, List.getElem?_cons_zero]
  refine' text_chunk 2 (by kernel_rfl) hHeld ?ck1 ?cr1
  case ck1 =>
    intro W hSw
    have hSW := hSw
    try dsimp only at hSW
    clear hSw
    simp only [List.take_succ_cons, List.take_zero, List.drop_succ_cons, List.drop_zero]
    repeat (go_big_quiet_step (fail))
    exact wpQuiet_nil rfl
  simp only [List.take_succ_cons, List.take_zero, List.drop_succ_cons, List.drop_zero]
  refine text_call (by rfl) (by rfl) (fun K hK => ?_)
  go_simp
  (go_at_call 64; refine (all64 _).mono ?_; rintro e u5 ⟨rfl, hb⟩; have hro0 := hb)
  all_goals (try (go_wp2_with fail))
  refine hK.out _ _ (by exact HKP.out _ _ hHeld hb) (fun hHeld => ?_)
  clear hK K
  try simp only [Act.put, List.setIfInBounds_toArray, List.set_cons_zero, List.set_cons_succ]
  refine text_call (by rfl) (by rfl) (fun K hK => ?_)
  go_simp
  (go_at_call 63; refine (H63.out _ (of_and10 hHeld)).mono ?_; rintro e u6 ⟨b7, rfl, hro⟩; have HRD := Lib.hid hro; have hb := hro.ext0; have hro0 := Ext.trans hro0 hb; clear hro)
  all_goals (try (go_wp2_with fail))
  refine hK.out _ _ (by exact HKP.out _ _ hHeld hb) (fun hHeld => ?_)
  clear hK K
  try simp only [Act.put, List.setIfInBounds_toArray, List.set_cons_zero, List.set_cons_succ]
  refine' text_chunk 1 (by kernel_rfl) hHeld ?ck2 ?cr2
  case ck2 =>
    intro W hSw
    have hSW := hSw
    try dsimp only at hSW
    clear hSw
    simp only [List.take_succ_cons, List.take_zero, List.drop_succ_cons, List.drop_zero]
    repeat (go_big_quiet_step (fail))
    exact wpQuiet_nil rfl
  simp only [List.take_succ_cons, List.take_zero, List.drop_succ_cons, List.drop_zero]
  refine text_done ?_
  have HL := hHeld.2.2.2.2.2.2.2.2.2
  clear hHeld HKP
  have HE2 := Lib.hid (Ext.ofDrew hro0)
  clear s0 s1 r0 r1 r2 r3 r4 r5 r6 l0 l1 hro0 hb HL
  have HRO := Lib.hid (RowOwn.made (Ext.refl u6) (n + 1))
  have ⟨s0, s1⟩ := P0.out.ext (HE2.out)
  have ⟨r0, r1, r2, r3, r4, r5, r6⟩ := R0.out.ext (HE2.out)
  have ⟨l0, l1⟩ := L0.out.ext (HE2.out)
  have ⟨t0, t1⟩ := P0.out.ext (HE2.out.alloc (.cells (madeCells #[.int .i64 0] (n + 1)) 2))
  go_wp2_with fail
  refine (H43.out _).mono ?_
  rintro e u7 ⟨rfl, hb⟩
  have HR2 := Lib.hid (HRO.out.ext hb)
  have hna : (0 : Int) ≤ (n : Int) := by omega
  have hnb : (n : Int) < (n : Int) + 1 := by omega
  have k0 := HR2.out.cell (k := n) (by simp)
  have kf := HR2.out.free n
  have HS := HR2.out.stored n 1
  rw [← rowK_start c (Nat.le_refl (n + 1)), show (1 : Int) = c n from HCN.out.symm, rowK_set c (by omega)] at HS
  have HS := Lib.hid HS
  rw [HCN.out] at HS
  clear s0 s1 r0 r1 r2 r3 r4 r5 r6 l0 l1 t0 t1 hb HRO HR2 hmk
  have ⟨s0, s1⟩ := P0.out.ext (HE2.out.trans HS.out.ext0)
  have ⟨r0, r1, r2, r3, r4, r5, r6⟩ := R0.out.ext (HE2.out.trans HS.out.ext0)
  have ⟨l0, l1⟩ := L0.out.ext (HE2.out.trans HS.out.ext0)
  go_wp2_with fail
  refine (H43.out _).mono ?_
  rintro e u8 ⟨rfl, hb⟩
  have HS2 := Lib.hid (HS.out.ext hb)
  clear s0 s1 r0 r1 r2 r3 r4 r5 r6 l0 l1 hb HS k0 kf
  go_wp2_with fail
  go_loopw [9] (fun s wr => ∃ k : Nat, k ≤ n ∧ s = .int .i64 ((k : Int) - 1) ∧ Hid (RowOwn u6 wr u6.heap.size (rowK c (n + 1) k))) (fun s wr => (intOf s + 1).toNat)
  case atStart => exact ⟨n, Nat.le_refl _, rfl, HS2⟩
  case round =>
    obtain ⟨k, hk, rfl, HY⟩ := hrel
    by_cases hk0 : 1 ≤ k
    · obtain ⟨i, rfl⟩ : ∃ i, k = i + 1 := ⟨k - 1, by omega⟩
      rw [show (((i + 1 : Nat) : Int) - 1) = (i : Int) from by omega]
      have hi0 : (0 : Int) ≤ (i : Int) := by omega
      have hi1 : (i : Int) < (n : Int) + 1 := by omega
      have hi2 : (i : Int) + 1 < (n : Int) + 1 := by omega
      have hi3 : (0 : Int) ≤ (i : Int) + 1 := by omega
      have hit : ((i : Int) + 1).toNat = i + 1 := by omega
      have hit2 : (i : Int).toNat = i := by omega
      have hiw : IntKind.i64.wrap ((i : Int) + 1) = (i : Int) + 1 := wrapi64 _ (by omega) (by omega)
      have k0 := (HRD.out.ext HY.out.ext0).cell (k := i) (by rw [HLEN.out]; omega)
      have k1 := (HRD.out.ext HY.out.ext0).cell (k := i + 1) (by rw [HLEN.out]; omega)
      rw [rowK_get _ (by omega) (by omega)] at k0 k1
      have hst := HCS.out i
      rw [← HQF.out] at hst
      by_cases heq : q i = q (i + 1)
      · have hd0 : (q i == q (i + 1)) = true := by simpa using heq
        have HST := Lib.hid (show inC M F lt n c i i = c (i + 1) from by rw [hst, if_pos heq])
        obtain ⟨x, hx⟩ : ∃ x, x = q i := ⟨_, rfl⟩
        obtain ⟨y, hy⟩ : ∃ y, y = q (i + 1) := ⟨_, rfl⟩
        obtain ⟨z, hz⟩ : ∃ z, z = c (i + 1) := ⟨_, rfl⟩
        rw [← hx] at k0 hd0
        rw [← hy] at k1 hd0
        rw [← hz] at HST
        have HZ := Lib.hid hz
        clear hx hy hz heq hst
        go_wp2
        go_quiet (fail)
        have HY1 := Lib.hid (HY.out.ext ((Ext.refl wr).drewN nq))
        have k2 := HY1.out.cell (k := i + 1) (by rw [HLENC.out]; omega)
        rw [rowK_get _ (by omega) (by omega), ← HZ.out] at k2
        clear HY
        go_wp2_with fail
        clear k0 k1 hd0
        go_loopw [10, 11] (fun s10 s11 wr => ∃ m : Nat, i ≤ m ∧ m ≤ n ∧ s11 = .int .i64 ((m : Int) + 1) ∧ s10 = .int .i64 (inC M F lt n c i m) ∧ Hid (RowOwn u6 wr u6.heap.size (rowK c (n + 1) (i + 1)))) (fun s10 s11 wr => ((n : Int) + 1 - intOf s11).toNat)
        case atStart => exact ⟨i, Nat.le_refl _, by omega, rfl, by rw [HST.out], HY1⟩
        case round =>
          obtain ⟨m, him, hmn, rfl, rfl, HY⟩ := hrel
          have ⟨s0, s1⟩ := P0.out.ext (HE2.out.trans HY.out.ext0)
          have ⟨r0, r1, r2, r3, r4, r5, r6⟩ := R0.out.ext (HE2.out.trans HY.out.ext0)
          have ⟨l0, l1⟩ := L0.out.ext (HE2.out.trans HY.out.ext0)
          have hma : (0 : Int) ≤ (m : Int) + 1 := by omega
          have hmw : IntKind.i64.wrap ((m : Int) + 1) = (m : Int) + 1 := wrapi64 _ (by omega) (by omega)
          have hmw2 : IntKind.i64.wrap ((m : Int) + 1 + 1) = (m : Int) + 1 + 1 := wrapi64 _ (by omega) (by omega)
          have hbd := HCB.out i m
          have hmore := HCM.out i m him
          obtain ⟨cv, hcv⟩ : ∃ cv, cv = inC M F lt n c i m := ⟨_, rfl⟩
          rw [← hcv] at hbd hmore ⊢
          have hcvD := Lib.hid hcv
          clear hcv
          go_wp2_with fail
          refine (H43.out _).mono ?_
          rintro e w4 ⟨rfl, hb⟩
          have HY1 := Lib.hid (HY.out.ext hb)
          clear s0 s1 r0 r1 r2 r3 r4 r5 r6 l0 l1
          clear hb HY
          by_cases hlt : m < n
          · have hd1 : decide ((m : Int) + 1 ≤ (n : Int)) = true := decide_eq_true (by omega)
            have ⟨s0, s1⟩ := P0.out.ext (HE2.out.trans HY1.out.ext0)
            have ⟨r0, r1, r2, r3, r4, r5, r6⟩ := R0.out.ext (HE2.out.trans HY1.out.ext0)
            have ⟨l0, l1⟩ := L0.out.ext (HE2.out.trans HY1.out.ext0)
            have h45 := H45.out w4 (E0.out.trans (HE2.out.trans HY1.out.ext0)) i (m + 1) (by omega) (by omega)
            have hqm := HQ.out (m + 1)
            have hqi := HQ.out i
            have hfm := HF.out i (m + 1)
            have hcm := HC1.out (m + 1)
            have hcm2 := HC2.out (m + 1)
            rw [Int.natCast_add, Int.natCast_one] at h45
            have h79 := fun W => H79.out W i (m + 1)
            rw [Int.natCast_add, Int.natCast_one] at h79
            rw [← HQF.out] at hmore
            obtain ⟨fv, hfv⟩ : ∃ fv, fv = F i (m + 1) := ⟨_, rfl⟩
            obtain ⟨lv, hlv⟩ : ∃ lv, lv = lt i (m + 1) := ⟨_, rfl⟩
            obtain ⟨qm, hqmv⟩ : ∃ qm, qm = q (m + 1) := ⟨_, rfl⟩
            obtain ⟨qi, hqiv⟩ : ∃ qi, qi = q i := ⟨_, rfl⟩
            obtain ⟨cm, hcmv⟩ : ∃ cm, cm = c (m + 1) := ⟨_, rfl⟩
            rw [← hfv] at h45 hmore hfm
            rw [← hlv] at h79 hmore
            rw [← hqmv, ← hqiv] at hmore
            rw [← hqmv] at hqm
            rw [← hqiv] at hqi
            rw [← hcmv] at hmore hcm hcm2
            have HQM := Lib.hid hqmv; have HQI := Lib.hid hqiv; have HCMV := Lib.hid hcmv
            have HM := Lib.hid hmore
            have H79i := Lib.hid h79
            have H45i := Lib.hid h45
            clear hmore h79 h45 hfv hlv hqmv hqiv hcmv
            go_wp2_with fail
            refine H45i.out.mono ?_
            rintro e w5 ⟨rfl, hb⟩
            have HY2 := Lib.hid (HY1.out.ext hb)
            clear s0 s1 r0 r1 r2 r3 r4 r5 r6 l0 l1
            clear hb HY1 H45i
            have k0 := (HRD.out.ext HY2.out.ext0).cell (k := i) (by rw [HLEN.out]; omega)
            have k1 := (HRD.out.ext HY2.out.ext0).cell (k := m + 1) (by rw [HLEN.out]; omega)
            rw [rowK_get _ (by omega) (by omega), ← HQI.out] at k0
            rw [rowK_get _ (by omega) (by omega), ← HQM.out] at k1
            have ⟨s0, s1⟩ := P0.out.ext (HE2.out.trans HY2.out.ext0)
            have ⟨r0, r1, r2, r3, r4, r5, r6⟩ := R0.out.ext (HE2.out.trans HY2.out.ext0)
            have ⟨l0, l1⟩ := L0.out.ext (HE2.out.trans HY2.out.ext0)
            by_cases hp : 0 < fv
            · have hd2 : decide (0 < fv) = true := decide_eq_true hp
              have hsw : IntKind.i64.wrap (fv + qm) = fv + qm := wrapi64 _ (by omega) (by omega)
              cases lv
              · have hre := Lib.hid (show inC M F lt n c i (m + 1) = cv from by rw [HM.out, if_neg]; simp)
                clear HM
                have HKP := Lib.hid (show ∀ X X' : World, (fun X : World => X.cell? ⟨w.heap.size + 1 + 1, 0, none⟩ = some (.int .i64 ov) ∧ X.cell? ⟨w.heap.size + 1 + 1, 1, none⟩ = some (.int .i64 at_) ∧ X.cell? ⟨b7, i, none⟩ = some (.int .i64 qi) ∧ X.cell? ⟨b7, m + 1, none⟩ = some (.int .i64 qm) ∧ Hid (Ext w5 X)) X → Ext X X' → (fun X : World => X.cell? ⟨w.heap.size + 1 + 1, 0, none⟩ = some (.int .i64 ov) ∧ X.cell? ⟨w.heap.size + 1 + 1, 1, none⟩ = some (.int .i64 at_) ∧ X.cell? ⟨b7, i, none⟩ = some (.int .i64 qi) ∧ X.cell? ⟨b7, m + 1, none⟩ = some (.int .i64 qm) ∧ Hid (Ext w5 X)) X' from fun X X' h hb => ⟨cell_ext hb h.1, cell_ext hb h.2.1, cell_ext hb h.2.2.1, cell_ext hb h.2.2.2.1, Lib.hid (Ext.trans h.2.2.2.2.out hb)⟩)
                go_wp2
                refine wp_region_order (fun X : World => X.cell? ⟨w.heap.size + 1 + 1, 0, none⟩ = some (.int .i64 ov) ∧ X.cell? ⟨w.heap.size + 1 + 1, 1, none⟩ = some (.int .i64 at_) ∧ X.cell? ⟨b7, i, none⟩ = some (.int .i64 qi) ∧ X.cell? ⟨b7, m + 1, none⟩ = some (.int .i64 qm) ∧ Hid (Ext w5 X)) [0, 1, 2, 3, 4, 5, 6, 7, 8, 9, 10, 11, 12, 13, 14, 15, 16, 17, 18, 19, 20] (by kernel_rfl) (by kernel_rfl) (by exact ⟨l0, l1, k0, k1, Lib.hid (Ext.refl w5).drew⟩) (fun hHeld => ?_)
                simp only [opsIn, List.filterMap_cons, List.filterMap_nil, List.getElem?_toArray, List.getElem?_cons_succ, List.getElem?_cons_zero]
                refine' text_chunk 6 (by kernel_rfl) hHeld ?ck3 ?cr3
                case ck3 =>
                  intro W hSw
                  have hSW := hSw
                  try dsimp only at hSW
                  clear hSw
                  simp only [List.take_succ_cons, List.take_zero, List.drop_succ_cons, List.drop_zero]
                  repeat (go_big_quiet_step (fail))
                  exact wpQuiet_nil rfl
                simp only [List.take_succ_cons, List.take_zero, List.drop_succ_cons, List.drop_zero]
                refine text_call (by rfl) (by rfl) (fun K hK => ?_)
                go_simp
                (go_at_call 79; refine (H79i.out _).mono ?_; rintro e w6 ⟨rfl, hb⟩)
                all_goals (try (go_wp2_with fail))
                refine hK.out _ _ (by exact HKP.out _ _ hHeld hb) (fun hHeld => ?_)
                clear hK K
                try simp only [Act.put, List.setIfInBounds_toArray, List.set_cons_zero, List.set_cons_succ]
                refine' text_chunk 14 (by kernel_rfl) hHeld ?ck4 ?cr4
                case ck4 =>
                  intro W hSw
                  have hSW := hSw
                  try dsimp only at hSW
                  clear hSw
                  simp only [List.take_succ_cons, List.take_zero, List.drop_succ_cons, List.drop_zero]
                  repeat (go_big_quiet_step (fail))
                  exact wpQuiet_nil rfl
                simp only [List.take_succ_cons, List.take_zero, List.drop_succ_cons, List.drop_zero]
                refine text_done ?_
                have HL := hHeld.2.2.2.2
                clear hHeld HKP
                have HY3 := Lib.hid (HY2.out.ext HL.out)
                clear k0 k1 HY2
                clear s0 s1 r0 r1 r2 r3 r4 r5 r6 l0 l1
                go_wp2
                go_roundw
                case rel => exact ⟨m + 1, by omega, by omega, by go_num, by rw [hre.out], HY3⟩
                case measure => simp [intOf]; omega
              · by_cases heq : qi = fv + qm
                · have hre := Lib.hid (show inC M F lt n c i (m + 1) = min M (cv + cm) from by rw [HM.out, if_pos]; exact ⟨by simp [hp], heq.symm⟩)
                  have hd3 : (qi == fv + qm) = true := by simpa using heq
                  have HEQ := Lib.hid heq
                  clear HM heq
                  have HKP := Lib.hid (show ∀ X X' : World, (fun X : World => X.cell? ⟨w.heap.size + 1 + 1, 0, none⟩ = some (.int .i64 ov) ∧ X.cell? ⟨w.heap.size + 1 + 1, 1, none⟩ = some (.int .i64 at_) ∧ X.cell? ⟨b7, i, none⟩ = some (.int .i64 qi) ∧ X.cell? ⟨b7, m + 1, none⟩ = some (.int .i64 qm) ∧ Hid (Ext w5 X)) X → Ext X X' → (fun X : World => X.cell? ⟨w.heap.size + 1 + 1, 0, none⟩ = some (.int .i64 ov) ∧ X.cell? ⟨w.heap.size + 1 + 1, 1, none⟩ = some (.int .i64 at_) ∧ X.cell? ⟨b7, i, none⟩ = some (.int .i64 qi) ∧ X.cell? ⟨b7, m + 1, none⟩ = some (.int .i64 qm) ∧ Hid (Ext w5 X)) X' from fun X X' h hb => ⟨cell_ext hb h.1, cell_ext hb h.2.1, cell_ext hb h.2.2.1, cell_ext hb h.2.2.2.1, Lib.hid (Ext.trans h.2.2.2.2.out hb)⟩)
                  go_wp2
                  refine wp_region_order (fun X : World => X.cell? ⟨w.heap.size + 1 + 1, 0, none⟩ = some (.int .i64 ov) ∧ X.cell? ⟨w.heap.size + 1 + 1, 1, none⟩ = some (.int .i64 at_) ∧ X.cell? ⟨b7, i, none⟩ = some (.int .i64 qi) ∧ X.cell? ⟨b7, m + 1, none⟩ = some (.int .i64 qm) ∧ Hid (Ext w5 X)) [0, 1, 2, 3, 4, 5, 6, 7, 8, 9, 10, 11, 12, 13, 14, 15, 16, 17, 18, 19, 20] (by kernel_rfl) (by kernel_rfl) (by exact ⟨l0, l1, k0, k1, Lib.hid (Ext.refl w5).drew⟩) (fun hHeld => ?_)
                  simp only [opsIn, List.filterMap_cons, List.filterMap_nil, List.getElem?_toArray, List.getElem?_cons_succ, List.getElem?_cons_zero]
                  refine' text_chunk 6 (by kernel_rfl) hHeld ?ck5 ?cr5
                  case ck5 =>
                    intro W hSw
                    have hSW := hSw
                    try dsimp only at hSW
                    clear hSw
                    simp only [List.take_succ_cons, List.take_zero, List.drop_succ_cons, List.drop_zero]
                    repeat (go_big_quiet_step (fail))
                    exact wpQuiet_nil rfl
                  simp only [List.take_succ_cons, List.take_zero, List.drop_succ_cons, List.drop_zero]
                  refine text_call (by rfl) (by rfl) (fun K hK => ?_)
                  go_simp
                  (go_at_call 79; refine (H79i.out _).mono ?_; rintro e w6 ⟨rfl, hb⟩)
                  all_goals (try (go_wp2_with fail))
                  refine hK.out _ _ (by exact HKP.out _ _ hHeld hb) (fun hHeld => ?_)
                  clear hK K
                  try simp only [Act.put, List.setIfInBounds_toArray, List.set_cons_zero, List.set_cons_succ]
                  refine' text_chunk 14 (by kernel_rfl) hHeld ?ck6 ?cr6
                  case ck6 =>
                    intro W hSw
                    have hSW := hSw
                    try dsimp only at hSW
                    clear hSw
                    simp only [List.take_succ_cons, List.take_zero, List.drop_succ_cons, List.drop_zero]
                    repeat (go_big_quiet_step (fail))
                    exact wpQuiet_nil rfl
                  simp only [List.take_succ_cons, List.take_zero, List.drop_succ_cons, List.drop_zero]
                  refine text_done ?_
                  have HL := hHeld.2.2.2.2
                  clear hHeld HKP
                  have HY3 := Lib.hid (HY2.out.ext HL.out)
                  have k5 := HY3.out.cell (k := m + 1) (by rw [HLENC.out]; omega)
                  rw [rowK_get _ (by omega) (by omega), ← HCMV.out] at k5
                  have hM1 := HMM.out
                  have hcw : IntKind.i64.wrap (cv + cm) = cv + cm := wrapi64 _ (by omega) (by omega)
                  have hmin : (if 1099511627777 < cv + cm then 1099511627777 else cv + cm) = min M (cv + cm) := by rw [hM1]; omega
                  have HMIN := Lib.hid hmin
                  clear k0 k1 HY2 hM1 hmin
                  clear s0 s1 r0 r1 r2 r3 r4 r5 r6 l0 l1
                  go_wp2
                  all_goals
                    go_roundw
                    case rel => exact ⟨m + 1, by omega, by omega, by go_num, by rw [hre.out]; first | rfl | (congr 1; have := HMM.out; omega), HY3⟩
                    case measure => simp [intOf]; omega
                · have hre := Lib.hid (show inC M F lt n c i (m + 1) = cv from by rw [HM.out, if_neg]; exact fun h => heq h.2.symm)
                  have hd3 : (qi == fv + qm) = false := by simpa using heq
                  have HEQ := Lib.hid heq
                  clear HM heq
                  have HKP := Lib.hid (show ∀ X X' : World, (fun X : World => X.cell? ⟨w.heap.size + 1 + 1, 0, none⟩ = some (.int .i64 ov) ∧ X.cell? ⟨w.heap.size + 1 + 1, 1, none⟩ = some (.int .i64 at_) ∧ X.cell? ⟨b7, i, none⟩ = some (.int .i64 qi) ∧ X.cell? ⟨b7, m + 1, none⟩ = some (.int .i64 qm) ∧ Hid (Ext w5 X)) X → Ext X X' → (fun X : World => X.cell? ⟨w.heap.size + 1 + 1, 0, none⟩ = some (.int .i64 ov) ∧ X.cell? ⟨w.heap.size + 1 + 1, 1, none⟩ = some (.int .i64 at_) ∧ X.cell? ⟨b7, i, none⟩ = some (.int .i64 qi) ∧ X.cell? ⟨b7, m + 1, none⟩ = some (.int .i64 qm) ∧ Hid (Ext w5 X)) X' from fun X X' h hb => ⟨cell_ext hb h.1, cell_ext hb h.2.1, cell_ext hb h.2.2.1, cell_ext hb h.2.2.2.1, Lib.hid (Ext.trans h.2.2.2.2.out hb)⟩)
                  go_wp2
                  refine wp_region_order (fun X : World => X.cell? ⟨w.heap.size + 1 + 1, 0, none⟩ = some (.int .i64 ov) ∧ X.cell? ⟨w.heap.size + 1 + 1, 1, none⟩ = some (.int .i64 at_) ∧ X.cell? ⟨b7, i, none⟩ = some (.int .i64 qi) ∧ X.cell? ⟨b7, m + 1, none⟩ = some (.int .i64 qm) ∧ Hid (Ext w5 X)) [0, 1, 2, 3, 4, 5, 6, 7, 8, 9, 10, 11, 12, 13, 14, 15, 16, 17, 18, 19, 20] (by kernel_rfl) (by kernel_rfl) (by exact ⟨l0, l1, k0, k1, Lib.hid (Ext.refl w5).drew⟩) (fun hHeld => ?_)
                  simp only [opsIn, List.filterMap_cons, List.filterMap_nil, List.getElem?_toArray, List.getElem?_cons_succ, List.getElem?_cons_zero]
                  refine' text_chunk 6 (by kernel_rfl) hHeld ?ck7 ?cr7
                  case ck7 =>
                    intro W hSw
                    have hSW := hSw
                    try dsimp only at hSW
                    clear hSw
                    simp only [List.take_succ_cons, List.take_zero, List.drop_succ_cons, List.drop_zero]
                    repeat (go_big_quiet_step (fail))
                    exact wpQuiet_nil rfl
                  simp only [List.take_succ_cons, List.take_zero, List.drop_succ_cons, List.drop_zero]
                  refine text_call (by rfl) (by rfl) (fun K hK => ?_)
                  go_simp
                  (go_at_call 79; refine (H79i.out _).mono ?_; rintro e w6 ⟨rfl, hb⟩)
                  all_goals (try (go_wp2_with fail))
                  refine hK.out _ _ (by exact HKP.out _ _ hHeld hb) (fun hHeld => ?_)
                  clear hK K
                  try simp only [Act.put, List.setIfInBounds_toArray, List.set_cons_zero, List.set_cons_succ]
                  refine' text_chunk 14 (by kernel_rfl) hHeld ?ck8 ?cr8
                  case ck8 =>
                    intro W hSw
                    have hSW := hSw
                    try dsimp only at hSW
                    clear hSw
                    simp only [List.take_succ_cons, List.take_zero, List.drop_succ_cons, List.drop_zero]
                    repeat (go_big_quiet_step (fail))
                    exact wpQuiet_nil rfl
                  simp only [List.take_succ_cons, List.take_zero, List.drop_succ_cons, List.drop_zero]
                  refine text_done ?_
                  have HL := hHeld.2.2.2.2
                  clear hHeld HKP
                  have HY3 := Lib.hid (HY2.out.ext HL.out)
                  clear k0 k1 HY2
                  clear s0 s1 r0 r1 r2 r3 r4 r5 r6 l0 l1
                  go_wp2
                  go_roundw
                  case rel => exact ⟨m + 1, by omega, by omega, by go_num, by rw [hre.out], HY3⟩
                  case measure => simp [intOf]; omega
            · have hd2 : decide (0 < fv) = false := decide_eq_false hp
              have hre := Lib.hid (show inC M F lt n c i (m + 1) = cv from by rw [HM.out, if_neg]; simp [hp])
              clear HM
              have HKP := Lib.hid (show ∀ X X' : World, (fun X : World => X.cell? ⟨w.heap.size + 1 + 1, 0, none⟩ = some (.int .i64 ov) ∧ X.cell? ⟨w.heap.size + 1 + 1, 1, none⟩ = some (.int .i64 at_) ∧ X.cell? ⟨b7, i, none⟩ = some (.int .i64 qi) ∧ X.cell? ⟨b7, m + 1, none⟩ = some (.int .i64 qm) ∧ Hid (Ext w5 X)) X → Ext X X' → (fun X : World => X.cell? ⟨w.heap.size + 1 + 1, 0, none⟩ = some (.int .i64 ov) ∧ X.cell? ⟨w.heap.size + 1 + 1, 1, none⟩ = some (.int .i64 at_) ∧ X.cell? ⟨b7, i, none⟩ = some (.int .i64 qi) ∧ X.cell? ⟨b7, m + 1, none⟩ = some (.int .i64 qm) ∧ Hid (Ext w5 X)) X' from fun X X' h hb => ⟨cell_ext hb h.1, cell_ext hb h.2.1, cell_ext hb h.2.2.1, cell_ext hb h.2.2.2.1, Lib.hid (Ext.trans h.2.2.2.2.out hb)⟩)
              go_wp2
              refine wp_region_order (fun X : World => X.cell? ⟨w.heap.size + 1 + 1, 0, none⟩ = some (.int .i64 ov) ∧ X.cell? ⟨w.heap.size + 1 + 1, 1, none⟩ = some (.int .i64 at_) ∧ X.cell? ⟨b7, i, none⟩ = some (.int .i64 qi) ∧ X.cell? ⟨b7, m + 1, none⟩ = some (.int .i64 qm) ∧ Hid (Ext w5 X)) [0, 1, 2, 3, 4, 5, 6, 7, 8, 9, 10, 11, 12, 13, 14, 15, 16, 17, 18, 19, 20] (by kernel_rfl) (by kernel_rfl) (by exact ⟨l0, l1, k0, k1, Lib.hid (Ext.refl w5).drew⟩) (fun hHeld => ?_)
              simp only [opsIn, List.filterMap_cons, List.filterMap_nil, List.getElem?_toArray, List.getElem?_cons_succ, List.getElem?_cons_zero]
              refine' text_chunk 6 (by kernel_rfl) hHeld ?ck9 ?cr9
              case ck9 =>
                intro W hSw
                have hSW := hSw
                try dsimp only at hSW
                clear hSw
                simp only [List.take_succ_cons, List.take_zero, List.drop_succ_cons, List.drop_zero]
                repeat (go_big_quiet_step (fail))
                exact wpQuiet_nil rfl
              simp only [List.take_succ_cons, List.take_zero, List.drop_succ_cons, List.drop_zero]
              refine text_skip (by rfl) ?_
              try simp only [Act.put, List.setIfInBounds_toArray, List.set_cons_zero, List.set_cons_succ]
              refine' text_chunk 14 (by kernel_rfl) hHeld ?ck10 ?cr10
              case ck10 =>
                intro W hSw
                have hSW := hSw
                try dsimp only at hSW
                clear hSw
                simp only [List.take_succ_cons, List.take_zero, List.drop_succ_cons, List.drop_zero]
                repeat (go_big_quiet_step (fail))
                exact wpQuiet_nil rfl
              simp only [List.take_succ_cons, List.take_zero, List.drop_succ_cons, List.drop_zero]
              refine text_done ?_
              have HL := hHeld.2.2.2.2
              clear hHeld HKP
              have HY3 := Lib.hid (HY2.out.ext HL.out)
              clear k0 k1 HY2
              clear s0 s1 r0 r1 r2 r3 r4 r5 r6 l0 l1
              go_wp2
              go_roundw
              case rel => exact ⟨m + 1, by omega, by omega, by go_num, by rw [hre.out], HY3⟩
              case measure => simp [intOf]; omega
          · have hd1 : decide ((m : Int) + 1 ≤ (n : Int)) = false := decide_eq_false (by omega)
            obtain rfl : m = n := by omega
            have hcv2 := HCA.out i (by omega)
            have k0 := HY1.out.cell (k := i) (by rw [HLENC.out]; omega)
            have kf := HY1.out.free i
            have HS := HY1.out.stored i (c i)
            rw [rowK_set c (by omega)] at HS
            have HS := Lib.hid HS
            rw [← hcvD.out] at hcv2
            obtain ⟨ci, hci⟩ : ∃ ci, ci = c i := ⟨_, rfl⟩
            rw [← hci] at hcv2 HS
            subst hcv2
            have hiw : IntKind.i64.wrap ((i : Int) - 1) = (i : Int) - 1 := wrapi64 _ (by omega) (by omega)
            clear HY1 hci
            go_wp2
            go_roundw
            case rel => exact ⟨i, by omega, by go_num, HS⟩
            case measure => simp [intOf]
      · have hd0 : (q i == q (i + 1)) = false := by simpa using heq
        have HST := Lib.hid (show inC M F lt n c i i = 0 from by rw [hst, if_neg heq])
        obtain ⟨x, hx⟩ : ∃ x, x = q i := ⟨_, rfl⟩
        obtain ⟨y, hy⟩ : ∃ y, y = q (i + 1) := ⟨_, rfl⟩
        rw [← hx] at k0 hd0
        rw [← hy] at k1 hd0
        clear hx hy heq hst
        go_wp2
        go_quiet (fail)
        have HY1 := Lib.hid (HY.out.ext ((Ext.refl wr).drewN nq))
        clear HY
        go_wp2_with fail
        clear k0 k1 hd0
        go_loopw [10, 11] (fun s10 s11 wr => ∃ m : Nat, i ≤ m ∧ m ≤ n ∧ s11 = .int .i64 ((m : Int) + 1) ∧ s10 = .int .i64 (inC M F lt n c i m) ∧ Hid (RowOwn u6 wr u6.heap.size (rowK c (n + 1) (i + 1)))) (fun s10 s11 wr => ((n : Int) + 1 - intOf s11).toNat)
        case atStart => exact ⟨i, Nat.le_refl _, by omega, rfl, by rw [HST.out], HY1⟩
        case round =>
          obtain ⟨m, him, hmn, rfl, rfl, HY⟩ := hrel
          have ⟨s0, s1⟩ := P0.out.ext (HE2.out.trans HY.out.ext0)
          have ⟨r0, r1, r2, r3, r4, r5, r6⟩ := R0.out.ext (HE2.out.trans HY.out.ext0)
          have ⟨l0, l1⟩ := L0.out.ext (HE2.out.trans HY.out.ext0)
          have hma : (0 : Int) ≤ (m : Int) + 1 := by omega
          have hmw : IntKind.i64.wrap ((m : Int) + 1) = (m : Int) + 1 := wrapi64 _ (by omega) (by omega)
          have hmw2 : IntKind.i64.wrap ((m : Int) + 1 + 1) = (m : Int) + 1 + 1 := wrapi64 _ (by omega) (by omega)
          have hbd := HCB.out i m
          have hmore := HCM.out i m him
          obtain ⟨cv, hcv⟩ : ∃ cv, cv = inC M F lt n c i m := ⟨_, rfl⟩
          rw [← hcv] at hbd hmore ⊢
          have hcvD := Lib.hid hcv
          clear hcv
          go_wp2_with fail
          refine (H43.out _).mono ?_
          rintro e w4 ⟨rfl, hb⟩
          have HY1 := Lib.hid (HY.out.ext hb)
          clear s0 s1 r0 r1 r2 r3 r4 r5 r6 l0 l1
          clear hb HY
          by_cases hlt : m < n
          · have hd1 : decide ((m : Int) + 1 ≤ (n : Int)) = true := decide_eq_true (by omega)
            have ⟨s0, s1⟩ := P0.out.ext (HE2.out.trans HY1.out.ext0)
            have ⟨r0, r1, r2, r3, r4, r5, r6⟩ := R0.out.ext (HE2.out.trans HY1.out.ext0)
            have ⟨l0, l1⟩ := L0.out.ext (HE2.out.trans HY1.out.ext0)
            have h45 := H45.out w4 (E0.out.trans (HE2.out.trans HY1.out.ext0)) i (m + 1) (by omega) (by omega)
            have hqm := HQ.out (m + 1)
            have hqi := HQ.out i
            have hfm := HF.out i (m + 1)
            have hcm := HC1.out (m + 1)
            have hcm2 := HC2.out (m + 1)
            rw [Int.natCast_add, Int.natCast_one] at h45
            have h79 := fun W => H79.out W i (m + 1)
            rw [Int.natCast_add, Int.natCast_one] at h79
            rw [← HQF.out] at hmore
            obtain ⟨fv, hfv⟩ : ∃ fv, fv = F i (m + 1) := ⟨_, rfl⟩
            obtain ⟨lv, hlv⟩ : ∃ lv, lv = lt i (m + 1) := ⟨_, rfl⟩
            obtain ⟨qm, hqmv⟩ : ∃ qm, qm = q (m + 1) := ⟨_, rfl⟩
            obtain ⟨qi, hqiv⟩ : ∃ qi, qi = q i := ⟨_, rfl⟩
            obtain ⟨cm, hcmv⟩ : ∃ cm, cm = c (m + 1) := ⟨_, rfl⟩
            rw [← hfv] at h45 hmore hfm
            rw [← hlv] at h79 hmore
            rw [← hqmv, ← hqiv] at hmore
            rw [← hqmv] at hqm
            rw [← hqiv] at hqi
            rw [← hcmv] at hmore hcm hcm2
            have HQM := Lib.hid hqmv; have HQI := Lib.hid hqiv; have HCMV := Lib.hid hcmv
            have HM := Lib.hid hmore
            have H79i := Lib.hid h79
            have H45i := Lib.hid h45
            clear hmore h79 h45 hfv hlv hqmv hqiv hcmv
            go_wp2_with fail
            refine H45i.out.mono ?_
            rintro e w5 ⟨rfl, hb⟩
            have HY2 := Lib.hid (HY1.out.ext hb)
            clear s0 s1 r0 r1 r2 r3 r4 r5 r6 l0 l1
            clear hb HY1 H45i
            have k0 := (HRD.out.ext HY2.out.ext0).cell (k := i) (by rw [HLEN.out]; omega)
            have k1 := (HRD.out.ext HY2.out.ext0).cell (k := m + 1) (by rw [HLEN.out]; omega)
            rw [rowK_get _ (by omega) (by omega), ← HQI.out] at k0
            rw [rowK_get _ (by omega) (by omega), ← HQM.out] at k1
            have ⟨s0, s1⟩ := P0.out.ext (HE2.out.trans HY2.out.ext0)
            have ⟨r0, r1, r2, r3, r4, r5, r6⟩ := R0.out.ext (HE2.out.trans HY2.out.ext0)
            have ⟨l0, l1⟩ := L0.out.ext (HE2.out.trans HY2.out.ext0)
            by_cases hp : 0 < fv
            · have hd2 : decide (0 < fv) = true := decide_eq_true hp
              have hsw : IntKind.i64.wrap (fv + qm) = fv + qm := wrapi64 _ (by omega) (by omega)
              cases lv
              · have hre := Lib.hid (show inC M F lt n c i (m + 1) = cv from by rw [HM.out, if_neg]; simp)
                clear HM
                have HKP := Lib.hid (show ∀ X X' : World, (fun X : World => X.cell? ⟨w.heap.size + 1 + 1, 0, none⟩ = some (.int .i64 ov) ∧ X.cell? ⟨w.heap.size + 1 + 1, 1, none⟩ = some (.int .i64 at_) ∧ X.cell? ⟨b7, i, none⟩ = some (.int .i64 qi) ∧ X.cell? ⟨b7, m + 1, none⟩ = some (.int .i64 qm) ∧ Hid (Ext w5 X)) X → Ext X X' → (fun X : World => X.cell? ⟨w.heap.size + 1 + 1, 0, none⟩ = some (.int .i64 ov) ∧ X.cell? ⟨w.heap.size + 1 + 1, 1, none⟩ = some (.int .i64 at_) ∧ X.cell? ⟨b7, i, none⟩ = some (.int .i64 qi) ∧ X.cell? ⟨b7, m + 1, none⟩ = some (.int .i64 qm) ∧ Hid (Ext w5 X)) X' from fun X X' h hb => ⟨cell_ext hb h.1, cell_ext hb h.2.1, cell_ext hb h.2.2.1, cell_ext hb h.2.2.2.1, Lib.hid (Ext.trans h.2.2.2.2.out hb)⟩)
                go_wp2
                refine wp_region_order (fun X : World => X.cell? ⟨w.heap.size + 1 + 1, 0, none⟩ = some (.int .i64 ov) ∧ X.cell? ⟨w.heap.size + 1 + 1, 1, none⟩ = some (.int .i64 at_) ∧ X.cell? ⟨b7, i, none⟩ = some (.int .i64 qi) ∧ X.cell? ⟨b7, m + 1, none⟩ = some (.int .i64 qm) ∧ Hid (Ext w5 X)) [0, 1, 2, 3, 4, 5, 6, 7, 8, 9, 10, 11, 12, 13, 14, 15, 16, 17, 18, 19, 20] (by kernel_rfl) (by kernel_rfl) (by exact ⟨l0, l1, k0, k1, Lib.hid (Ext.refl w5).drew⟩) (fun hHeld => ?_)
                simp only [opsIn, List.filterMap_cons, List.filterMap_nil, List.getElem?_toArray, List.getElem?_cons_succ, List.getElem?_cons_zero]
                refine' text_chunk 6 (by kernel_rfl) hHeld ?ck11 ?cr11
                case ck11 =>
                  intro W hSw
                  have hSW := hSw
                  try dsimp only at hSW
                  clear hSw
                  simp only [List.take_succ_cons, List.take_zero, List.drop_succ_cons, List.drop_zero]
                  repeat (go_big_quiet_step (fail))
                  exact wpQuiet_nil rfl
                simp only [List.take_succ_cons, List.take_zero, List.drop_succ_cons, List.drop_zero]
                refine text_call (by rfl) (by rfl) (fun K hK => ?_)
                go_simp
                (go_at_call 79; refine (H79i.out _).mono ?_; rintro e w6 ⟨rfl, hb⟩)
                all_goals (try (go_wp2_with fail))
                refine hK.out _ _ (by exact HKP.out _ _ hHeld hb) (fun hHeld => ?_)
                clear hK K
                try simp only [Act.put, List.setIfInBounds_toArray, List.set_cons_zero, List.set_cons_succ]
                refine' text_chunk 14 (by kernel_rfl) hHeld ?ck12 ?cr12
                case ck12 =>
                  intro W hSw
                  have hSW := hSw
                  try dsimp only at hSW
                  clear hSw
                  simp only [List.take_succ_cons, List.take_zero, List.drop_succ_cons, List.drop_zero]
                  repeat (go_big_quiet_step (fail))
                  exact wpQuiet_nil rfl
                simp only [List.take_succ_cons, List.take_zero, List.drop_succ_cons, List.drop_zero]
                refine text_done ?_
                have HL := hHeld.2.2.2.2
                clear hHeld HKP
                have HY3 := Lib.hid (HY2.out.ext HL.out)
                clear k0 k1 HY2
                clear s0 s1 r0 r1 r2 r3 r4 r5 r6 l0 l1
                go_wp2
                go_roundw
                case rel => exact ⟨m + 1, by omega, by omega, by go_num, by rw [hre.out], HY3⟩
                case measure => simp [intOf]; omega
              · by_cases heq : qi = fv + qm
                · have hre := Lib.hid (show inC M F lt n c i (m + 1) = min M (cv + cm) from by rw [HM.out, if_pos]; exact ⟨by simp [hp], heq.symm⟩)
                  have hd3 : (qi == fv + qm) = true := by simpa using heq
                  have HEQ := Lib.hid heq
                  clear HM heq
                  have HKP := Lib.hid (show ∀ X X' : World, (fun X : World => X.cell? ⟨w.heap.size + 1 + 1, 0, none⟩ = some (.int .i64 ov) ∧ X.cell? ⟨w.heap.size + 1 + 1, 1, none⟩ = some (.int .i64 at_) ∧ X.cell? ⟨b7, i, none⟩ = some (.int .i64 qi) ∧ X.cell? ⟨b7, m + 1, none⟩ = some (.int .i64 qm) ∧ Hid (Ext w5 X)) X → Ext X X' → (fun X : World => X.cell? ⟨w.heap.size + 1 + 1, 0, none⟩ = some (.int .i64 ov) ∧ X.cell? ⟨w.heap.size + 1 + 1, 1, none⟩ = some (.int .i64 at_) ∧ X.cell? ⟨b7, i, none⟩ = some (.int .i64 qi) ∧ X.cell? ⟨b7, m + 1, none⟩ = some (.int .i64 qm) ∧ Hid (Ext w5 X)) X' from fun X X' h hb => ⟨cell_ext hb h.1, cell_ext hb h.2.1, cell_ext hb h.2.2.1, cell_ext hb h.2.2.2.1, Lib.hid (Ext.trans h.2.2.2.2.out hb)⟩)
                  go_wp2
                  refine wp_region_order (fun X : World => X.cell? ⟨w.heap.size + 1 + 1, 0, none⟩ = some (.int .i64 ov) ∧ X.cell? ⟨w.heap.size + 1 + 1, 1, none⟩ = some (.int .i64 at_) ∧ X.cell? ⟨b7, i, none⟩ = some (.int .i64 qi) ∧ X.cell? ⟨b7, m + 1, none⟩ = some (.int .i64 qm) ∧ Hid (Ext w5 X)) [0, 1, 2, 3, 4, 5, 6, 7, 8, 9, 10, 11, 12, 13, 14, 15, 16, 17, 18, 19, 20] (by kernel_rfl) (by kernel_rfl) (by exact ⟨l0, l1, k0, k1, Lib.hid (Ext.refl w5).drew⟩) (fun hHeld => ?_)
                  simp only [opsIn, List.filterMap_cons, List.filterMap_nil, List.getElem?_toArray, List.getElem?_cons_succ, List.getElem?_cons_zero]
                  refine' text_chunk 6 (by kernel_rfl) hHeld ?ck13 ?cr13
                  case ck13 =>
                    intro W hSw
                    have hSW := hSw
                    try dsimp only at hSW
                    clear hSw
                    simp only [List.take_succ_cons, List.take_zero, List.drop_succ_cons, List.drop_zero]
                    repeat (go_big_quiet_step (fail))
                    exact wpQuiet_nil rfl
                  simp only [List.take_succ_cons, List.take_zero, List.drop_succ_cons, List.drop_zero]
                  refine text_call (by rfl) (by rfl) (fun K hK => ?_)
                  go_simp
                  (go_at_call 79; refine (H79i.out _).mono ?_; rintro e w6 ⟨rfl, hb⟩)
                  all_goals (try (go_wp2_with fail))
                  refine hK.out _ _ (by exact HKP.out _ _ hHeld hb) (fun hHeld => ?_)
                  clear hK K
                  try simp only [Act.put, List.setIfInBounds_toArray, List.set_cons_zero, List.set_cons_succ]
                  refine' text_chunk 14 (by kernel_rfl) hHeld ?ck14 ?cr14
                  case ck14 =>
                    intro W hSw
                    have hSW := hSw
                    try dsimp only at hSW
                    clear hSw
                    simp only [List.take_succ_cons, List.take_zero, List.drop_succ_cons, List.drop_zero]
                    repeat (go_big_quiet_step (fail))
                    exact wpQuiet_nil rfl
                  simp only [List.take_succ_cons, List.take_zero, List.drop_succ_cons, List.drop_zero]
                  refine text_done ?_
                  have HL := hHeld.2.2.2.2
                  clear hHeld HKP
                  have HY3 := Lib.hid (HY2.out.ext HL.out)
                  have k5 := HY3.out.cell (k := m + 1) (by rw [HLENC.out]; omega)
                  rw [rowK_get _ (by omega) (by omega), ← HCMV.out] at k5
                  have hM1 := HMM.out
                  have hcw : IntKind.i64.wrap (cv + cm) = cv + cm := wrapi64 _ (by omega) (by omega)
                  have hmin : (if 1099511627777 < cv + cm then 1099511627777 else cv + cm) = min M (cv + cm) := by rw [hM1]; omega
                  have HMIN := Lib.hid hmin
                  clear k0 k1 HY2 hM1 hmin
                  clear s0 s1 r0 r1 r2 r3 r4 r5 r6 l0 l1
                  go_wp2
                  all_goals
                    go_roundw
                    case rel => exact ⟨m + 1, by omega, by omega, by go_num, by rw [hre.out]; first | rfl | (congr 1; have := HMM.out; omega), HY3⟩
                    case measure => simp [intOf]; omega
                · have hre := Lib.hid (show inC M F lt n c i (m + 1) = cv from by rw [HM.out, if_neg]; exact fun h => heq h.2.symm)
                  have hd3 : (qi == fv + qm) = false := by simpa using heq
                  have HEQ := Lib.hid heq
                  clear HM heq
                  have HKP := Lib.hid (show ∀ X X' : World, (fun X : World => X.cell? ⟨w.heap.size + 1 + 1, 0, none⟩ = some (.int .i64 ov) ∧ X.cell? ⟨w.heap.size + 1 + 1, 1, none⟩ = some (.int .i64 at_) ∧ X.cell? ⟨b7, i, none⟩ = some (.int .i64 qi) ∧ X.cell? ⟨b7, m + 1, none⟩ = some (.int .i64 qm) ∧ Hid (Ext w5 X)) X → Ext X X' → (fun X : World => X.cell? ⟨w.heap.size + 1 + 1, 0, none⟩ = some (.int .i64 ov) ∧ X.cell? ⟨w.heap.size + 1 + 1, 1, none⟩ = some (.int .i64 at_) ∧ X.cell? ⟨b7, i, none⟩ = some (.int .i64 qi) ∧ X.cell? ⟨b7, m + 1, none⟩ = some (.int .i64 qm) ∧ Hid (Ext w5 X)) X' from fun X X' h hb => ⟨cell_ext hb h.1, cell_ext hb h.2.1, cell_ext hb h.2.2.1, cell_ext hb h.2.2.2.1, Lib.hid (Ext.trans h.2.2.2.2.out hb)⟩)
                  go_wp2
                  refine wp_region_order (fun X : World => X.cell? ⟨w.heap.size + 1 + 1, 0, none⟩ = some (.int .i64 ov) ∧ X.cell? ⟨w.heap.size + 1 + 1, 1, none⟩ = some (.int .i64 at_) ∧ X.cell? ⟨b7, i, none⟩ = some (.int .i64 qi) ∧ X.cell? ⟨b7, m + 1, none⟩ = some (.int .i64 qm) ∧ Hid (Ext w5 X)) [0, 1, 2, 3, 4, 5, 6, 7, 8, 9, 10, 11, 12, 13, 14, 15, 16, 17, 18, 19, 20] (by kernel_rfl) (by kernel_rfl) (by exact ⟨l0, l1, k0, k1, Lib.hid (Ext.refl w5).drew⟩) (fun hHeld => ?_)
                  simp only [opsIn, List.filterMap_cons, List.filterMap_nil, List.getElem?_toArray, List.getElem?_cons_succ, List.getElem?_cons_zero]
                  refine' text_chunk 6 (by kernel_rfl) hHeld ?ck15 ?cr15
                  case ck15 =>
                    intro W hSw
                    have hSW := hSw
                    try dsimp only at hSW
                    clear hSw
                    simp only [List.take_succ_cons, List.take_zero, List.drop_succ_cons, List.drop_zero]
                    repeat (go_big_quiet_step (fail))
                    exact wpQuiet_nil rfl
                  simp only [List.take_succ_cons, List.take_zero, List.drop_succ_cons, List.drop_zero]
                  refine text_call (by rfl) (by rfl) (fun K hK => ?_)
                  go_simp
                  (go_at_call 79; refine (H79i.out _).mono ?_; rintro e w6 ⟨rfl, hb⟩)
                  all_goals (try (go_wp2_with fail))
                  refine hK.out _ _ (by exact HKP.out _ _ hHeld hb) (fun hHeld => ?_)
                  clear hK K
                  try simp only [Act.put, List.setIfInBounds_toArray, List.set_cons_zero, List.set_cons_succ]
                  refine' text_chunk 14 (by kernel_rfl) hHeld ?ck16 ?cr16
                  case ck16 =>
                    intro W hSw
                    have hSW := hSw
                    try dsimp only at hSW
                    clear hSw
                    simp only [List.take_succ_cons, List.take_zero, List.drop_succ_cons, List.drop_zero]
                    repeat (go_big_quiet_step (fail))
                    exact wpQuiet_nil rfl
                  simp only [List.take_succ_cons, List.take_zero, List.drop_succ_cons, List.drop_zero]
                  refine text_done ?_
                  have HL := hHeld.2.2.2.2
                  clear hHeld HKP
                  have HY3 := Lib.hid (HY2.out.ext HL.out)
                  clear k0 k1 HY2
                  clear s0 s1 r0 r1 r2 r3 r4 r5 r6 l0 l1
                  go_wp2
                  go_roundw
                  case rel => exact ⟨m + 1, by omega, by omega, by go_num, by rw [hre.out], HY3⟩
                  case measure => simp [intOf]; omega
            · have hd2 : decide (0 < fv) = false := decide_eq_false hp
              have hre := Lib.hid (show inC M F lt n c i (m + 1) = cv from by rw [HM.out, if_neg]; simp [hp])
              clear HM
              have HKP := Lib.hid (show ∀ X X' : World, (fun X : World => X.cell? ⟨w.heap.size + 1 + 1, 0, none⟩ = some (.int .i64 ov) ∧ X.cell? ⟨w.heap.size + 1 + 1, 1, none⟩ = some (.int .i64 at_) ∧ X.cell? ⟨b7, i, none⟩ = some (.int .i64 qi) ∧ X.cell? ⟨b7, m + 1, none⟩ = some (.int .i64 qm) ∧ Hid (Ext w5 X)) X → Ext X X' → (fun X : World => X.cell? ⟨w.heap.size + 1 + 1, 0, none⟩ = some (.int .i64 ov) ∧ X.cell? ⟨w.heap.size + 1 + 1, 1, none⟩ = some (.int .i64 at_) ∧ X.cell? ⟨b7, i, none⟩ = some (.int .i64 qi) ∧ X.cell? ⟨b7, m + 1, none⟩ = some (.int .i64 qm) ∧ Hid (Ext w5 X)) X' from fun X X' h hb => ⟨cell_ext hb h.1, cell_ext hb h.2.1, cell_ext hb h.2.2.1, cell_ext hb h.2.2.2.1, Lib.hid (Ext.trans h.2.2.2.2.out hb)⟩)
              go_wp2
              refine wp_region_order (fun X : World => X.cell? ⟨w.heap.size + 1 + 1, 0, none⟩ = some (.int .i64 ov) ∧ X.cell? ⟨w.heap.size + 1 + 1, 1, none⟩ = some (.int .i64 at_) ∧ X.cell? ⟨b7, i, none⟩ = some (.int .i64 qi) ∧ X.cell? ⟨b7, m + 1, none⟩ = some (.int .i64 qm) ∧ Hid (Ext w5 X)) [0, 1, 2, 3, 4, 5, 6, 7, 8, 9, 10, 11, 12, 13, 14, 15, 16, 17, 18, 19, 20] (by kernel_rfl) (by kernel_rfl) (by exact ⟨l0, l1, k0, k1, Lib.hid (Ext.refl w5).drew⟩) (fun hHeld => ?_)
              simp only [opsIn, List.filterMap_cons, List.filterMap_nil, List.getElem?_toArray, List.getElem?_cons_succ, List.getElem?_cons_zero]
              refine' text_chunk 6 (by kernel_rfl) hHeld ?ck17 ?cr17
              case ck17 =>
                intro W hSw
                have hSW := hSw
                try dsimp only at hSW
                clear hSw
                simp only [List.take_succ_cons, List.take_zero, List.drop_succ_cons, List.drop_zero]
                repeat (go_big_quiet_step (fail))
                exact wpQuiet_nil rfl
              simp only [List.take_succ_cons, List.take_zero, List.drop_succ_cons, List.drop_zero]
              refine text_skip (by rfl) ?_
              try simp only [Act.put, List.setIfInBounds_toArray, List.set_cons_zero, List.set_cons_succ]
              refine' text_chunk 14 (by kernel_rfl) hHeld ?ck18 ?cr18
              case ck18 =>
                intro W hSw
                have hSW := hSw
                try dsimp only at hSW
                clear hSw
                simp only [List.take_succ_cons, List.take_zero, List.drop_succ_cons, List.drop_zero]
                repeat (go_big_quiet_step (fail))
                exact wpQuiet_nil rfl
              simp only [List.take_succ_cons, List.take_zero, List.drop_succ_cons, List.drop_zero]
              refine text_done ?_
              have HL := hHeld.2.2.2.2
              clear hHeld HKP
              have HY3 := Lib.hid (HY2.out.ext HL.out)
              clear k0 k1 HY2
              clear s0 s1 r0 r1 r2 r3 r4 r5 r6 l0 l1
              go_wp2
              go_roundw
              case rel => exact ⟨m + 1, by omega, by omega, by go_num, by rw [hre.out], HY3⟩
              case measure => simp [intOf]; omega
          · have hd1 : decide ((m : Int) + 1 ≤ (n : Int)) = false := decide_eq_false (by omega)
            obtain rfl : m = n := by omega
            have hcv2 := HCA.out i (by omega)
            have k0 := HY1.out.cell (k := i) (by rw [HLENC.out]; omega)
            have kf := HY1.out.free i
            have HS := HY1.out.stored i (c i)
            rw [rowK_set c (by omega)] at HS
            have HS := Lib.hid HS
            rw [← hcvD.out] at hcv2
            obtain ⟨ci, hci⟩ : ∃ ci, ci = c i := ⟨_, rfl⟩
            rw [← hci] at hcv2 HS
            subst hcv2
            have hiw : IntKind.i64.wrap ((i : Int) - 1) = (i : Int) - 1 := wrapi64 _ (by omega) (by omega)
            clear HY1 hci
            go_wp2
            go_roundw
            case rel => exact ⟨i, by omega, by go_num, HS⟩
            case measure => simp [intOf]
    · obtain rfl : k = 0 := by omega
      have k0 := HY.out.cell (k := 0) (by rw [HLENC.out]; omega)
      rw [rowK_get _ (by omega) (by omega)] at k0
      obtain ⟨x, hx⟩ : ∃ x, x = c 0 := ⟨_, rfl⟩
      rw [← hx] at k0
      have HX := Lib.hid hx
      clear hx
      go_wp2
      go_ret
      exact ⟨by rw [← HX.out]; rfl, E0.out.trans (HE2.out.trans HY.out.ext0)⟩
end Go.Proofs.Ytcgheakadfjofaa
namespace Go.Proofs.Ytcgheakadfjofaa
open Go.RowKit Go.Shelf
set_option linter.unusedVariables false
set_option linter.unusedSimpArgs false
attribute [local go_sem] Oper.semAt_some
/-- What Count gives. -/
def countE (th bd : List Int) (r : Rl) : Int × Int :=
  if bothE th bd r ≠ 0 then (0, bothE th bd r) else if cntV 1099511627777 (sF th bd r) allB (th.length - 1) 0 = 1099511627777 then (0, 4) else (cntV 1099511627777 (sF th bd r) allB (th.length - 1) 0, 0)
set_option maxRecDepth 100000 in
set_option maxHeartbeats 4000000 in
theorem count32 (vt vb : Value) (th bd : List Int) (r : Rl) (w : World) (ht : Reads w vt th) (hd : Reads w vb bd) :
    Calls Try.prog 32 #[.agg #[vt, vb], r.val] w fun e w' => e = .returned (.tuple #[.int .i64 (countE th bd r).1, .int .i64 (countE th bd r).2]) ∧ Ext w w' := by
  have E0 := Lib.hid (Ext.alloc (Ext.alloc (Ext.refl w) (.cells #[vt, vb] 25)) (.cells #[.int .i64 r.lo, .int .i64 r.hi, .int .i64 r.st, .int .i64 r.tr, .int .i64 r.off, .int .i64 r.dv, .int .i64 r.tn] 27))
  have P0 := Lib.hid ((StemAt.new w (vt) (vb) 25).ext (Ext.alloc (Ext.refl _) (.cells #[.int .i64 r.lo, .int .i64 r.hi, .int .i64 r.st, .int .i64 r.tr, .int .i64 r.off, .int .i64 r.dv, .int .i64 r.tn] 27)))
  have R0 := RuleAt.new (w.alloc (.cells #[vt, vb] 25)) r 27
  rw [World.size_alloc] at R0
  have R0 := Lib.hid R0
  have h62 := fun (W : World) (h : Ext w W) => openP62 _ _ _ th bd [] r W (ht.ext h) (hd.ext h) (Reads.nil W)
  rw [placedE_nil] at h62
  have hok : bothE th bd r = 0 → Vw th bd r ∧ 2 ≤ th.length := fun h => by
    obtain ⟨h1, h2⟩ := bothE_ok.1 h
    exact ⟨h1.weak h2, h1.two⟩
  have hE := show countE th bd r = if bothE th bd r ≠ 0 then (0, bothE th bd r) else if cntV 1099511627777 (sF th bd r) allB (th.length - 1) 0 = 1099511627777 then (0, 4) else (cntV 1099511627777 (sF th bd r) allB (th.length - 1) 0, 0) from rfl
  have hcb := (cntV_bd (M := 1099511627777) (by omega) (f := sF th bd r) (lt := allB) (n := th.length - 1) 0)
  generalize countE th bd r = fe at *
  generalize bothE th bd r = BE at *
  have h67 := fun (b : Nat) (h : BE = 0) (W : World) (hy : YardAt W b vt vb th bd r (bestP th bd r)) => count67 (th.length - 1) b vt vb th bd r (hok h).1 (by have := (hok h).2; omega) W hy
  obtain ⟨c, hc⟩ : ∃ c, c = cntV 1099511627777 (sF th bd r) allB (th.length - 1) 0 := ⟨_, rfl⟩
  rw [← hc] at hE hcb h67
  have hc1 := hcb.1; have hc2 := hcb.2.1
  have HE := Lib.hid hE; have H62 := Lib.hid h62; have H67 := Lib.hid h67
  clear hE h62 h67 hok ht hd hc hcb
  have ⟨g1, g2⟩ := P0.out
  have ⟨r0, r1, r2, r3, r4, r5, r6⟩ := R0.out
  go_enter Try.func32, Try.ntmps32
  go_wp2_with fail
  refine (H62.out _ E0.out).mono ?_
  rintro e w1 ⟨⟨hbe, rfl⟩ | ⟨rfl, b, rfl, hyo⟩, hb⟩
  · have hbn : (BE != 0) = true := by simpa using hbe
    have E1 := Lib.hid (E0.out.trans hb)
    have hre := Lib.hid (show fe = (0, BE) from by rw [HE.out, if_pos hbe])
    clear g1 g2 r0 r1 r2 r3 r4 r5 r6 hb hbe HE
    go_wp2
    go_ret2
    exact ⟨by rw [hre.out]; rfl, E1.out⟩
  · have E1 := Lib.hid (E0.out.trans hb)
    have H := Lib.hid (H67.out b rfl w1 hyo.at_)
    clear g1 g2 r0 r1 r2 r3 r4 r5 r6 hb hyo H67 H62
    go_wp2_with fail
    refine H.out.mono ?_
    rintro e w2 ⟨rfl, hb⟩
    have E2 := Lib.hid (E1.out.trans hb)
    clear hb H
    by_cases hcm : c = 1099511627777
    · have hre := Lib.hid (show fe = (0, 4) from by rw [HE.out, if_neg (by simp), if_pos hcm])
      have hd1 : decide (1099511627776 < c) = true := decide_eq_true (by omega)
      clear HE hcm
      go_wp2
      go_ret2
      exact ⟨by rw [hre.out]; rfl, E2.out⟩
    · have hre := Lib.hid (show fe = (c, 0) from by rw [HE.out, if_neg (by simp), if_neg hcm])
      have hd1 : decide (1099511627776 < c) = false := decide_eq_false (by omega)
      clear HE hcm
      go_wp2
      go_ret2
      exact ⟨by rw [hre.out]; rfl, E2.out⟩
set_option maxRecDepth 100000 in
set_option maxHeartbeats 4000000 in
theorem refcount33 (vt vb : Value) (th bd : List Int) (r : Rl) (w : World) (ht : Reads w vt th) (hd : Reads w vb bd) :
    Calls Try.prog 33 #[.agg #[vt, vb], r.val] w fun e w' => e = .returned (.tuple #[.int .i64 (countE th bd r).1, .int .i64 (countE th bd r).2]) ∧ Ext w w' := by
  have E0 := Lib.hid (Ext.alloc (Ext.alloc (Ext.refl w) (.cells #[vt, vb] 25)) (.cells #[.int .i64 r.lo, .int .i64 r.hi, .int .i64 r.st, .int .i64 r.tr, .int .i64 r.off, .int .i64 r.dv, .int .i64 r.tn] 27))
  have P0 := Lib.hid ((StemAt.new w (vt) (vb) 25).ext (Ext.alloc (Ext.refl _) (.cells #[.int .i64 r.lo, .int .i64 r.hi, .int .i64 r.st, .int .i64 r.tr, .int .i64 r.off, .int .i64 r.dv, .int .i64 r.tn] 27)))
  have R0 := RuleAt.new (w.alloc (.cells #[vt, vb] 25)) r 27
  rw [World.size_alloc] at R0
  have R0 := Lib.hid R0
  have H53 := Lib.hid (fun (W : World) (h : Ext w W) => refcheck53 _ _ th bd r W (ht.ext h) (hd.ext h))
  have hok : bothE th bd r = 0 → Vw th bd r ∧ ∃ m, th.length = m + 1 := fun h => by
    obtain ⟨h1, h2⟩ := bothE_ok.1 h
    exact ⟨h1.weak h2, th.length - 1, by have := h1.two; omega⟩
  have H68 := Lib.hid (show ∀ (W : World), Ext w W → bothE th bd r = 0 → Calls Try.prog 68 #[.agg #[vt, vb], r.val, .agg #[.int .i64 (-1), .int .i64 (-1)]] W fun e w' => e = .returned (.int .i64 (cntV 1099511627777 (sF th bd r) allB (th.length - 1) 0)) ∧ Ext W w' from fun W h h0 => by
    obtain ⟨h1, m, hm⟩ := hok h0
    have h2 := counts68 _ _ th bd r (-1) (-1) m W (ht.ext h) (hd.ext h) h1 hm
    rw [ltV_all] at h2
    rw [show th.length - 1 = m from by omega]
    exact h2)
  have hE := show countE th bd r = if bothE th bd r ≠ 0 then (0, bothE th bd r) else if cntV 1099511627777 (sF th bd r) allB (th.length - 1) 0 = 1099511627777 then (0, 4) else (cntV 1099511627777 (sF th bd r) allB (th.length - 1) 0, 0) from rfl
  generalize countE th bd r = fe at *
  generalize bothE th bd r = BE at *
  generalize cntV 1099511627777 (sF th bd r) allB (th.length - 1) 0 = c at *
  have HE := Lib.hid hE
  clear hok ht hd hE
  have ⟨g1, g2⟩ := P0.out
  have ⟨r0, r1, r2, r3, r4, r5, r6⟩ := R0.out
  go_enter Try.func33, Try.ntmps33
  go_wp2_with fail
  refine (H53.out _ E0.out).mono ?_
  rintro e w1 ⟨rfl, hb⟩
  have E2 := Lib.hid (E0.out.trans hb)
  have HB1 := Lib.hid hb
  clear hb g1 g2 r0 r1 r2 r3 r4 r5 r6
  have ⟨g1, g2⟩ := P0.out.ext (HB1.out)
  have ⟨r0, r1, r2, r3, r4, r5, r6⟩ := R0.out.ext (HB1.out)
  by_cases hz : BE = 0
  · have hzb : (BE != 0) = false := by simpa using hz
    have HE1 := Lib.hid (show fe = if c = 1099511627777 then (0, 4) else (c, 0) from by rw [HE.out, if_neg (by simpa using hz)])
    have h68 := Lib.hid (fun W h => H68.out W h hz)
    have HZ := Lib.hid hz
    clear hz HE H68
    have HKP := Lib.hid (show ∀ X X' : World, (fun X : World => X.cell? ⟨w.heap.size, 0, none⟩ = some (vt) ∧ X.cell? ⟨w.heap.size, 1, none⟩ = some (vb) ∧ X.cell? ⟨w.heap.size + 1, 0, none⟩ = some (.int .i64 r.lo) ∧ X.cell? ⟨w.heap.size + 1, 1, none⟩ = some (.int .i64 r.hi) ∧ X.cell? ⟨w.heap.size + 1, 2, none⟩ = some (.int .i64 r.st) ∧ X.cell? ⟨w.heap.size + 1, 3, none⟩ = some (.int .i64 r.tr) ∧ X.cell? ⟨w.heap.size + 1, 4, none⟩ = some (.int .i64 r.off) ∧ X.cell? ⟨w.heap.size + 1, 5, none⟩ = some (.int .i64 r.dv) ∧ X.cell? ⟨w.heap.size + 1, 6, none⟩ = some (.int .i64 r.tn) ∧ Hid (Ext w X)) X → Ext X X' → (fun X : World => X.cell? ⟨w.heap.size, 0, none⟩ = some (vt) ∧ X.cell? ⟨w.heap.size, 1, none⟩ = some (vb) ∧ X.cell? ⟨w.heap.size + 1, 0, none⟩ = some (.int .i64 r.lo) ∧ X.cell? ⟨w.heap.size + 1, 1, none⟩ = some (.int .i64 r.hi) ∧ X.cell? ⟨w.heap.size + 1, 2, none⟩ = some (.int .i64 r.st) ∧ X.cell? ⟨w.heap.size + 1, 3, none⟩ = some (.int .i64 r.tr) ∧ X.cell? ⟨w.heap.size + 1, 4, none⟩ = some (.int .i64 r.off) ∧ X.cell? ⟨w.heap.size + 1, 5, none⟩ = some (.int .i64 r.dv) ∧ X.cell? ⟨w.heap.size + 1, 6, none⟩ = some (.int .i64 r.tn) ∧ Hid (Ext w X)) X' from fun X X' h hb => ⟨cell_ext hb h.1, cell_ext hb h.2.1, cell_ext hb h.2.2.1, cell_ext hb h.2.2.2.1, cell_ext hb h.2.2.2.2.1, cell_ext hb h.2.2.2.2.2.1, cell_ext hb h.2.2.2.2.2.2.1, cell_ext hb h.2.2.2.2.2.2.2.1, cell_ext hb h.2.2.2.2.2.2.2.2.1, Lib.hid (Ext.trans h.2.2.2.2.2.2.2.2.2.out hb)⟩)
    go_wp2
    refine wp_region_order (fun X : World => X.cell? ⟨w.heap.size, 0, none⟩ = some (vt) ∧ X.cell? ⟨w.heap.size, 1, none⟩ = some (vb) ∧ X.cell? ⟨w.heap.size + 1, 0, none⟩ = some (.int .i64 r.lo) ∧ X.cell? ⟨w.heap.size + 1, 1, none⟩ = some (.int .i64 r.hi) ∧ X.cell? ⟨w.heap.size + 1, 2, none⟩ = some (.int .i64 r.st) ∧ X.cell? ⟨w.heap.size + 1, 3, none⟩ = some (.int .i64 r.tr) ∧ X.cell? ⟨w.heap.size + 1, 4, none⟩ = some (.int .i64 r.off) ∧ X.cell? ⟨w.heap.size + 1, 5, none⟩ = some (.int .i64 r.dv) ∧ X.cell? ⟨w.heap.size + 1, 6, none⟩ = some (.int .i64 r.tn) ∧ Hid (Ext w X)) [0, 1, 2, 3, 4] (by kernel_rfl) (by kernel_rfl) (by exact ⟨g1, g2, r0, r1, r2, r3, r4, r5, r6, Lib.hid E2.out.drew⟩) (fun hHeld => ?_)
    simp only [opsIn, List.filterMap_cons, List.filterMap_nil, List.getElem?_toArray, List.getElem?_cons_succ, List.getElem?_cons_zero]
    refine' text_chunk 2 (by kernel_rfl) hHeld ?ck1 ?cr1
    case ck1 =>
      intro W hSw
      have hSW := hSw
      try dsimp only at hSW
      clear hSw
      simp only [List.take_succ_cons, List.take_zero, List.drop_succ_cons, List.drop_zero]
      repeat (go_big_quiet_step (fail))
      exact wpQuiet_nil rfl
    simp only [List.take_succ_cons, List.take_zero, List.drop_succ_cons, List.drop_zero]
    refine text_call (by rfl) (by rfl) (fun K hK => ?_)
    go_simp
    (go_at_call 64; refine (all64 _).mono ?_; rintro e w5 ⟨rfl, hb⟩)
    all_goals (try (go_wp2_with fail))
    refine hK.out _ _ (by exact HKP.out _ _ hHeld hb) (fun hHeld => ?_)
    clear hK K
    try simp only [Act.put, List.setIfInBounds_toArray, List.set_cons_zero, List.set_cons_succ]
    refine text_call (by rfl) (by rfl) (fun K hK => ?_)
    go_simp
    (go_at_call 68; refine (h68.out _ (of_and10 hHeld)).mono ?_; rintro e w6 ⟨rfl, hb⟩)
    all_goals (try (go_wp2_with fail))
    refine hK.out _ _ (by exact HKP.out _ _ hHeld hb) (fun hHeld => ?_)
    clear hK K
    try simp only [Act.put, List.setIfInBounds_toArray, List.set_cons_zero, List.set_cons_succ]
    refine' text_chunk 1 (by kernel_rfl) hHeld ?ck2 ?cr2
    case ck2 =>
      intro W hSw
      have hSW := hSw
      try dsimp only at hSW
      clear hSw
      simp only [List.take_succ_cons, List.take_zero, List.drop_succ_cons, List.drop_zero]
      repeat (go_big_quiet_step (fail))
      exact wpQuiet_nil rfl
    simp only [List.take_succ_cons, List.take_zero, List.drop_succ_cons, List.drop_zero]
    refine text_done ?_
    have HL := hHeld.2.2.2.2.2.2.2.2.2
    clear hHeld
    by_cases hcm : c = 1099511627777
    · have hre := Lib.hid (show fe = (0, 4) from by rw [HE1.out, if_pos hcm])
      have hd1 : (c == 1099511627777) = true := by simpa using hcm
      clear HE1 hcm
      go_wp2
      go_ret2
      exact ⟨by rw [hre.out]; rfl, HL.out⟩
    · have hre := Lib.hid (show fe = (c, 0) from by rw [HE1.out, if_neg hcm])
      have hd1 : (c == 1099511627777) = false := by simpa using hcm
      clear HE1 hcm
      go_wp2
      go_ret2
      exact ⟨by rw [hre.out]; rfl, HL.out⟩
  · have hzb : (BE != 0) = true := by simpa using hz
    have hre := Lib.hid (show fe = (0, BE) from by rw [HE.out, if_pos hz])
    clear hz HE H68
    go_wp2_with fail
    refine (H53.out _ E2.out).mono ?_
    rintro e w2 ⟨rfl, hb⟩
    have E3 := Lib.hid (E2.out.trans hb)
    clear hb
    go_wp2
    go_ret2
    exact ⟨by rw [hre.out]; rfl, E3.out⟩
end Go.Proofs.Ytcgheakadfjofaa
