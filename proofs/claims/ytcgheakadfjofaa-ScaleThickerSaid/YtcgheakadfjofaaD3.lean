/- lets, All: the reference's logs that are let. Rest: the reference's prices of what is let. -/
import Derived.Test.YtcgheakadfjofaaD0
import Derived.Test.YtcgheakadfjofaaD1
import Derived.Test.YtcgheakadfjofaaC7
import Derived.Deep.LoopGhost
import Derived.Deep.RegionWith
namespace Go.Proofs.Ytcgheakadfjofaa
open Go.RowKit Go.Shelf
set_option linter.unusedVariables false
set_option linter.unusedSimpArgs false
attribute [local go_sem] Oper.semAt_some
/-- Which logs are let: none over a place, none that begins or ends at a place. -/
def ltV (ov at_ : Int) (i j : Nat) : Bool := !(decide ((i : Int) < ov) && decide (ov < (j : Int))) && (decide ((i : Int) ≠ at_) && decide ((j : Int) ≠ at_))
theorem ltV_all : ltV (-1) (-1) = allB := by
  funext i j
  have h1 : decide ((i : Int) < -1) = false := decide_eq_false (by omega)
  have h2 : decide ((i : Int) ≠ -1) = true := decide_eq_true (by omega)
  have h3 : decide ((j : Int) ≠ -1) = true := decide_eq_true (by omega)
  simp only [ltV, h1, h2, h3, allB]; rfl
theorem ltV_over (a : Nat) : ltV (a : Int) (-1) = overB a := by
  funext i j
  have h2 : decide ((i : Int) ≠ -1) = true := decide_eq_true (by omega)
  have h3 : decide ((j : Int) ≠ -1) = true := decide_eq_true (by omega)
  simp only [ltV, h2, h3, overB]
  simp
theorem ltV_at (a : Nat) : ltV (-1) (a : Int) = atB a := by
  funext i j
  have h1 : decide ((i : Int) < -1) = false := decide_eq_false (by omega)
  simp only [ltV, h1, atB]
  simp [Int.ofNat_inj]
set_option maxHeartbeats 2000000 in
theorem lets79 (ov at_ : Int) (i j : Nat) (w : World) :
    Calls Try.prog 79 #[.agg #[.int .i64 ov, .int .i64 at_], .int .i64 (i : Int), .int .i64 (j : Int)] w fun e w' => e = .returned (.bool (ltV ov at_ i j)) ∧ Ext w w' := by
  have E0 := Lib.hid ((Ext.refl w).alloc (.cells #[.int .i64 ov, .int .i64 at_] 96))
  obtain ⟨res, hres⟩ : ∃ res, res = ltV ov at_ i j := ⟨_, rfl⟩
  rw [← hres]
  have HR := Lib.hid hres
  clear hres
  by_cases h1 : (i : Int) < ov
  all_goals by_cases h2 : ov < (j : Int)
  all_goals by_cases h3 : (i : Int) = at_
  all_goals by_cases h4 : (j : Int) = at_
  all_goals
    first | have d1 : decide ((i : Int) < ov) = true := decide_eq_true h1 | have d1 : decide ((i : Int) < ov) = false := decide_eq_false h1
    first | have d2 : decide (ov < (j : Int)) = true := decide_eq_true h2 | have d2 : decide (ov < (j : Int)) = false := decide_eq_false h2
    first | have d3 : ((i : Int) != at_) = false := by simp [h3] | have d3 : ((i : Int) != at_) = true := by simpa using h3
    first | have d4 : ((j : Int) != at_) = false := by simp [h4] | have d4 : ((j : Int) != at_) = true := by simpa using h4
    have HA := Lib.hid h1; have HB := Lib.hid h2; have HC := Lib.hid h3; have HD := Lib.hid h4
    clear h1 h2 h3 h4
    go_enter Try.func79, Try.ntmps79
    go_wp2
    go_ret
    refine ⟨ret_bool ?_, E0.out⟩
    rw [HR.out]
    unfold ltV
    have a := HA.out; have b := HB.out; have c := HC.out; have d := HD.out
    simp [a, b, c, d]
set_option maxHeartbeats 2000000 in
theorem all64 (w : World) : Calls Try.prog 64 #[] w fun e w' => e = .returned (.agg #[.int .i64 (-1), .int .i64 (-1)]) ∧ Ext w w' := by
  go_enter Try.func64, Try.ntmps64
  go_wp2
  exact bodyPost_ret (v := .agg #[.int .i64 (-1), .int .i64 (-1)]) (by simp [results, Try.results64, go_sem]) rfl ⟨rfl, Ext.alloc (Ext.refl _) _⟩
end Go.Proofs.Ytcgheakadfjofaa
namespace Go.Proofs.Ytcgheakadfjofaa
open Go.RowKit Go.Shelf
set_option linter.unusedVariables false
set_option linter.unusedSimpArgs false
attribute [local go_sem] Oper.semAt_some
theorem of_and10 {A1 A2 A3 A4 A5 A6 A7 A8 A9 E : Prop} (h : A1 ∧ A2 ∧ A3 ∧ A4 ∧ A5 ∧ A6 ∧ A7 ∧ A8 ∧ A9 ∧ Hid E) : E := h.2.2.2.2.2.2.2.2.2.out
theorem of_and5 {A1 A2 A3 A4 E : Prop} (h : A1 ∧ A2 ∧ A3 ∧ A4 ∧ Hid E) : E := h.2.2.2.2.out
def RestPost (w : World) (q : Nat → Int) (n : Nat) (e : Ending) (w' : World) : Prop := ∃ b, e = .returned (.slice (some ⟨b, 0, none⟩) (n + 1) (n + 1)) ∧ RowOwn w w' b (rowK q (n + 1) 0)
theorem bst_M {th bd : List Int} {r : Rl} (hv : Vw th bd r) {n : Nat} (hn : th.length = n + 1) (lt : Nat → Nat → Bool) (j : Nat) : 0 ≤ bst (sF th bd r) lt n j ∧ bst (sF th bd r) lt n j ≤ 13176000 := by
  refine ⟨bst_nonneg _ _ _ _, ?_⟩
  by_cases hj : j ≤ n
  · have h1 := bst_bound (f := sF th bd r) (lt := lt) (n := n) (M := 216000) (by omega) (fun a b => sF_le hv a b) j hj
    have h2 : (216000 : Int) * ((n : Int) - j) ≤ 216000 * 61 := Int.mul_le_mul_of_nonneg_left (by have := hv.most; omega) (by omega)
    omega
  · rw [bst_past (by omega)]; omega
set_option maxRecDepth 100000 in
set_option maxHeartbeats 8000000 in
theorem rest63 (vt vb : Value) (th bd : List Int) (r : Rl) (ov at_ : Int) (n : Nat) (w : World) (ht : Reads w vt th) (hd : Reads w vb bd) (hv : Vw th bd r) (hn : th.length = n + 1) :
    Calls Try.prog 63 #[.agg #[vt, vb], r.val, .agg #[.int .i64 ov, .int .i64 at_]] w (RestPost w (bst (sF th bd r) (ltV ov at_) n) n) := by
  have hq := bst_M hv hn (ltV ov at_)
  have hf := fun i j => sF_le hv i j
  have hn61 := hv.most
  obtain ⟨hl, a, cap, rfl⟩ := ht.shape
  obtain ⟨hl', a', cap', rfl⟩ := hd.shape
  obtain ⟨nb, hn'⟩ : ∃ n', n' = bd.length := ⟨_, rfl⟩
  rw [hn] at ht hl hn61 ⊢
  rw [← hn'] at hd hl' ⊢
  have hmk := make22 (n + 1) (by omega)
  rw [Int.natCast_add, Int.natCast_one] at hmk
  have E0 := Lib.hid (Ext.alloc (Ext.alloc (Ext.alloc (Ext.refl w) (.cells #[.slice a (n + 1) cap, .slice a' nb cap'] 25)) (.cells #[.int .i64 r.lo, .int .i64 r.hi, .int .i64 r.st, .int .i64 r.tr, .int .i64 r.off, .int .i64 r.dv, .int .i64 r.tn] 27)) (.cells #[.int .i64 ov, .int .i64 at_] 96))
  have P0 := Lib.hid ((StemAt.new w (.slice a (n + 1) cap) (.slice a' nb cap') 25).ext (Ext.alloc (Ext.alloc (Ext.refl _) (.cells #[.int .i64 r.lo, .int .i64 r.hi, .int .i64 r.st, .int .i64 r.tr, .int .i64 r.off, .int .i64 r.dv, .int .i64 r.tn] 27)) (.cells #[.int .i64 ov, .int .i64 at_] 96)))
  have R0 := (RuleAt.new (w.alloc (.cells #[.slice a (n + 1) cap, .slice a' nb cap'] 25)) r 27).ext (Ext.alloc (Ext.refl _) (.cells #[.int .i64 ov, .int .i64 at_] 96))
  have L0 := StemAt.new ((w.alloc (.cells #[.slice a (n + 1) cap, .slice a' nb cap'] 25)).alloc (.cells #[.int .i64 r.lo, .int .i64 r.hi, .int .i64 r.st, .int .i64 r.tr, .int .i64 r.off, .int .i64 r.dv, .int .i64 r.tn] 27)) (.int .i64 ov) (.int .i64 at_) 96
  simp only [World.size_alloc] at R0 L0
  have R0 := Lib.hid R0; have L0 := Lib.hid L0
  have HRO := RowOwn.made (Ext.refl (((w.alloc (.cells #[.slice a (n + 1) cap, .slice a' nb cap'] 25)).alloc (.cells #[.int .i64 r.lo, .int .i64 r.hi, .int .i64 r.st, .int .i64 r.tr, .int .i64 r.off, .int .i64 r.dv, .int .i64 r.tn] 27)).alloc (.cells #[.int .i64 ov, .int .i64 at_] 96))) (n + 1)
  simp only [World.size_alloc] at HRO
  have HRO := Lib.hid HRO
  have HEM := Lib.hid (Ext.alloc (Ext.refl (((w.alloc (.cells #[.slice a (n + 1) cap, .slice a' nb cap'] 25)).alloc (.cells #[.int .i64 r.lo, .int .i64 r.hi, .int .i64 r.st, .int .i64 r.tr, .int .i64 r.off, .int .i64 r.dv, .int .i64 r.tn] 27)).alloc (.cells #[.int .i64 ov, .int .i64 at_] 96))) (.cells (madeCells #[.int .i64 0] (n + 1)) 2))
  have H43 := Lib.hid (fun W : World => (show Calls Try.prog 43 #[.agg #[.slice a (n + 1) cap, .slice a' nb cap']] W fun e w' => e = .returned (.int .i64 (n : Int)) ∧ Ext W w' from by
    have h := long43 a (n + 1) cap (.slice a' nb cap') W (by omega)
    rwa [show (((n + 1 : Nat)) : Int) - 1 = (n : Int) from by omega] at h))
  have H45 := Lib.hid (fun (W : World) (h : Ext (((w.alloc (.cells #[.slice a (n + 1) cap, .slice a' nb cap'] 25)).alloc (.cells #[.int .i64 r.lo, .int .i64 r.hi, .int .i64 r.st, .int .i64 r.tr, .int .i64 r.off, .int .i64 r.dv, .int .i64 r.tn] 27)).alloc (.cells #[.int .i64 ov, .int .i64 at_] 96)) W) (i j : Nat) (hij : i < j) (hj : j < n + 1) => refscale45 _ _ th bd r i j W (ht.ext (E0.out.trans h)) (hd.ext (E0.out.trans h)) hv hij (by rw [hn]; exact hj))
  obtain ⟨F, hF⟩ : ∃ F, F = sF th bd r := ⟨_, rfl⟩
  obtain ⟨lt, hlt⟩ : ∃ lt, lt = ltV ov at_ := ⟨_, rfl⟩
  have H79 := Lib.hid (fun (W : World) (i j : Nat) => lets79 ov at_ i j W)
  rw [← hF] at hq hf H45 ⊢
  rw [← hlt] at hq H79 ⊢
  have HQN := Lib.hid (show ∀ j, n ≤ j → bst F lt n j = 0 from fun j h => bst_past h)
  have HQA := Lib.hid (fun i (h : i < n) => (inB1_all (f := F) (lt := lt) h))
  obtain ⟨q, hqq⟩ : ∃ q, q = bst F lt n := ⟨_, rfl⟩
  rw [← hqq] at hq HQN HQA ⊢
  have HB := Lib.hid (fun i k => inB1_bd (f := F) (lt := lt) (q := q) hq hf (by omega) i k)
  have HF := Lib.hid hf; have HQ := Lib.hid hq
  have hw1 : IntKind.i64.wrap ((n : Int) - 1) = (n : Int) - 1 := wrapi64 _ (by omega) (by omega)
  have hlen := rowK_len q (n + 1)
  have HLEN := Lib.hid hlen
  clear hlen
  clear hq hf hF hlt hqq ht hd hv hn hn' hl hl'
  go_enter Try.func63, Try.ntmps63
  have ⟨s0, s1⟩ := P0.out.ext (Ext.alloc (Ext.refl _) (.cells (madeCells #[.int .i64 0] (n + 1)) 2))
  have ⟨r0, r1, r2, r3, r4, r5, r6⟩ := R0.out.ext (Ext.alloc (Ext.refl _) (.cells (madeCells #[.int .i64 0] (n + 1)) 2))
  have ⟨l0, l1⟩ := L0.out.ext (Ext.alloc (Ext.refl _) (.cells (madeCells #[.int .i64 0] (n + 1)) 2))
  go_wp2_with fail
  refine (H43.out _).mono ?_
  rintro e w1 ⟨rfl, hb⟩
  have HR1 := Lib.hid (HRO.out.ext hb)
  clear s0 s1 r0 r1 r2 r3 r4 r5 r6 l0 l1
  clear hb HRO hmk
  go_wp2_with fail
  go_loopw [8] (fun s wr => ∃ k : Nat, k ≤ n ∧ s = .int .i64 ((k : Int) - 1) ∧ Hid (RowOwn (((w.alloc (.cells #[.slice a (n + 1) cap, .slice a' nb cap'] 25)).alloc (.cells #[.int .i64 r.lo, .int .i64 r.hi, .int .i64 r.st, .int .i64 r.tr, .int .i64 r.off, .int .i64 r.dv, .int .i64 r.tn] 27)).alloc (.cells #[.int .i64 ov, .int .i64 at_] 96)) wr (w.heap.size + 1 + 1 + 1) (rowK q (n + 1) k))) (fun s wr => (intOf s + 1).toNat)
  case atStart => exact ⟨n, Nat.le_refl _, rfl, Lib.hid (by rw [rowK_zero q fun j h _ => HQN.out j h]; exact HR1.out)⟩
  case round =>
    obtain ⟨k, hk, rfl, HY⟩ := hrel
    by_cases hk0 : 1 ≤ k
    · obtain ⟨i, rfl⟩ : ∃ i, k = i + 1 := ⟨k - 1, by omega⟩
      rw [show (((i + 1 : Nat) : Int) - 1) = (i : Int) from by omega]
      have hi0 : (0 : Int) ≤ (i : Int) := by omega
      have hi1 : (i : Int) < (n : Int) + 1 := by omega
      have hi2 : (i : Int) + 1 < (n : Int) + 1 := by omega
      have hi3 : (0 : Int) ≤ (i : Int) + 1 := by omega
      have hit : ((i : Int) + 1).toNat = i + 1 := by omega
      have hiw : IntKind.i64.wrap ((i : Int) + 1) = (i : Int) + 1 := wrapi64 _ (by omega) (by omega)
      have k0 := HY.out.cell (k := i) (by rw [HLEN.out]; omega)
      have k1 := HY.out.cell (k := i + 1) (by rw [HLEN.out]; omega)
      rw [rowK_get _ (by omega) (by omega)] at k1
      have kf := HY.out.free i
      have HS := Lib.hid (HY.out.stored i (q (i + 1)))
      obtain ⟨u, hu⟩ : ∃ u, u = q (i + 1) := ⟨_, rfl⟩
      have HU := Lib.hid hu
      rw [← hu] at k1 HS
      clear hu HY
      go_wp2_with fail
      clear k0 k1 kf hiw hit
      go_loopw [9] (fun s wr => ∃ m : Nat, i ≤ m ∧ m ≤ n ∧ s = .int .i64 ((m : Int) + 1) ∧ Hid (RowOwn (((w.alloc (.cells #[.slice a (n + 1) cap, .slice a' nb cap'] 25)).alloc (.cells #[.int .i64 r.lo, .int .i64 r.hi, .int .i64 r.st, .int .i64 r.tr, .int .i64 r.off, .int .i64 r.dv, .int .i64 r.tn] 27)).alloc (.cells #[.int .i64 ov, .int .i64 at_] 96)) wr (w.heap.size + 1 + 1 + 1) ((rowK q (n + 1) (i + 1)).set i (inB1 F lt q i m)))) (fun s wr => ((n : Int) + 1 - intOf s).toNat)
      case atStart => exact ⟨i, Nat.le_refl _, by omega, rfl, by rw [inB1_self, ← HU.out]; exact HS⟩
      case round =>
        obtain ⟨m, him, hmn, rfl, HY⟩ := hrel
        have ⟨s0, s1⟩ := P0.out.ext (HY.out.ext0)
        have ⟨r0, r1, r2, r3, r4, r5, r6⟩ := R0.out.ext (HY.out.ext0)
        have ⟨l0, l1⟩ := L0.out.ext (HY.out.ext0)
        have hma : (0 : Int) ≤ (m : Int) + 1 := by omega
        have hmw : IntKind.i64.wrap ((m : Int) + 1) = (m : Int) + 1 := wrapi64 _ (by omega) (by omega)
        have hmw2 : IntKind.i64.wrap ((m : Int) + 1 + 1) = (m : Int) + 1 + 1 := wrapi64 _ (by omega) (by omega)
        go_wp2_with fail
        refine (H43.out _).mono ?_
        rintro e w1 ⟨rfl, hb⟩
        have HY1 := Lib.hid (HY.out.ext hb)
        clear s0 s1 r0 r1 r2 r3 r4 r5 r6 l0 l1
        clear hb HY
        by_cases hlt : m < n
        · have hd1 : decide ((m : Int) + 1 ≤ (n : Int)) = true := decide_eq_true (by omega)
          have ⟨s0, s1⟩ := P0.out.ext (HY1.out.ext0)
          have ⟨r0, r1, r2, r3, r4, r5, r6⟩ := R0.out.ext (HY1.out.ext0)
          have ⟨l0, l1⟩ := L0.out.ext (HY1.out.ext0)
          have h45 := H45.out w1 HY1.out.ext0 i (m + 1) (by omega) (by omega)
          have hmore := inB1_more F lt q (i := i) (k := m) him
          have hbd := HB.out i m
          have hqm := HQ.out (m + 1)
          have hfm := HF.out i (m + 1)
          rw [Int.natCast_add, Int.natCast_one] at h45
          have h79 := fun W => H79.out W i (m + 1)
          rw [Int.natCast_add, Int.natCast_one] at h79
          generalize F i (m + 1) = fv at h45 hmore hfm
          generalize lt i (m + 1) = lv at h79 hmore
          have HM := Lib.hid hmore
          have H79i := Lib.hid h79
          have H45i := Lib.hid h45
          clear hmore h79 h45
          go_wp2_with fail
          refine H45i.out.mono ?_
          rintro e w2 ⟨rfl, hb⟩
          have HY2 := Lib.hid (HY1.out.ext hb)
          clear s0 s1 r0 r1 r2 r3 r4 r5 r6 l0 l1
          clear hb HY1 H45i
          by_cases hp : 0 < fv
          · have hd2 : decide (0 < fv) = true := decide_eq_true hp
            have ⟨s0, s1⟩ := P0.out.ext (HY2.out.ext0)
            have ⟨r0, r1, r2, r3, r4, r5, r6⟩ := R0.out.ext (HY2.out.ext0)
            have ⟨l0, l1⟩ := L0.out.ext (HY2.out.ext0)
            cases lv
            · have hre := Lib.hid (show inB1 F lt q i (m + 1) = inB1 F lt q i m from by rw [HM.out]; simp)
              clear HM
              go_wp2_with fail
              refine (H79i.out _).mono ?_
              rintro e w3 ⟨rfl, hb⟩
              have HY3 := Lib.hid (HY2.out.ext hb)
              clear s0 s1 r0 r1 r2 r3 r4 r5 r6 l0 l1
              clear hb HY2 H79i
              go_wp2
              go_roundw
              case rel => exact ⟨m + 1, by omega, by omega, by go_num, by rw [hre.out]; exact HY3⟩
              case measure => simp [intOf]; omega
            · have hre := Lib.hid (show inB1 F lt q i (m + 1) = max (inB1 F lt q i m) (fv + q (m + 1)) from by rw [HM.out, if_pos]; simp [hp])
              clear HM
              go_wp2_with fail
              refine (H79i.out _).mono ?_
              rintro e w3 ⟨rfl, hb⟩
              have HY3 := Lib.hid (HY2.out.ext hb)
              clear s0 s1 r0 r1 r2 r3 r4 r5 r6 l0 l1
              clear hb HY2 H79i
              go_wp2
              obtain ⟨v, hv⟩ : ∃ v, v = inB1 F lt q i m := ⟨_, rfl⟩
              obtain ⟨u, hu⟩ : ∃ u, u = q (m + 1) := ⟨_, rfl⟩
              have k0 := HY3.out.cell (k := i) (by rw [List.length_set, HLEN.out]; omega)
              have k1 := HY3.out.cell (k := m + 1) (by rw [List.length_set, HLEN.out]; omega)
              rw [set_getD (by rw [HLEN.out]; omega)] at k0
              rw [set_getD_ne (by omega), rowK_get _ (by omega) (by omega)] at k1
              rw [← hv] at k0 hbd hre
              rw [← hu] at k1 hqm hre
              have HV := Lib.hid hv
              clear hv hu
              have hsw : IntKind.i64.wrap (fv + u) = fv + u := wrapi64 _ (by omega) (by omega)
              refine still_tail 14 (by kernel_rfl) (by kernel_rfl) fun W hW => ?_
              have hE : Ext w3 W := by rw [hW]; exact (Ext.refl w3).drew
              clear hW
              have k0 := cell_ext hE k0
              have k1 := cell_ext hE k1
              have HY4 := Lib.hid (HY3.out.ext hE)
              have kf := HY4.out.free i
              clear hE HY3
              simp only [List.take_succ_cons, List.take_zero, List.drop_succ_cons, List.drop_zero]
              repeat still_step
              refine wpStill_nil ?_
              go_wp2
              have HS := HY4.out.stored i (if v < fv + u then fv + u else v)
              rw [List.set_set] at HS
              have hmx : max v (fv + u) = if v < fv + u then fv + u else v := by by_cases h : v < fv + u <;> simp only [h, if_true, if_false] <;> omega
              rw [hmx] at hre
              go_roundw
              case rel => exact ⟨m + 1, by omega, by omega, by go_num, by rw [hre.out]; exact Lib.hid HS⟩
              case measure => simp [intOf]; omega
          · have hd2 : decide (0 < fv) = false := decide_eq_false hp
            have hre := Lib.hid (show inB1 F lt q i (m + 1) = inB1 F lt q i m from by rw [HM.out, if_neg]; simp [hp])
            clear HM
            go_wp2
            go_roundw
            case rel => exact ⟨m + 1, by omega, by omega, by go_num, by rw [hre.out]; exact HY2⟩
            case measure => simp [intOf]; omega
        · have hd1 : decide ((m : Int) + 1 ≤ (n : Int)) = false := decide_eq_false (by omega)
          obtain rfl : m = n := by omega
          have HS := HY1.out
          rw [HQA.out i (by omega), rowK_set q (by omega)] at HS
          have HS := Lib.hid HS
          clear HY1
          have hiw : IntKind.i64.wrap ((i : Int) - 1) = (i : Int) - 1 := wrapi64 _ (by omega) (by omega)
          go_wp2
          go_roundw
          case rel => exact ⟨i, by omega, by go_num, HS⟩
          case measure => simp [intOf]
    · obtain rfl : k = 0 := by omega
      go_wp2
      go_ret
      exact ⟨(w.heap.size + 1 + 1 + 1), rfl, ⟨HY.out.blk, Nat.le_trans E0.out.size HY.out.new, E0.out.trans HY.out.ext0⟩⟩
end Go.Proofs.Ytcgheakadfjofaa
