/- The reference's Check. The reference's Scale. The reference's Feet. -/
import Derived.Test.YtcgheakadfjofaaC4
import Derived.Test.YtcgheakadfjofaaB19
import Derived.Deep.LoopGhost
import Derived.Deep.RegionWith
import Derived.Test.YtcgheakadfjofaaC3
namespace Go.Proofs.Ytcgheakadfjofaa
open Go.RowKit
set_option linter.unusedVariables false
set_option linter.unusedSimpArgs false
set_option maxRecDepth 100000 in
set_option maxHeartbeats 4000000 in
theorem refcheck53 (vt vb : Value) (th bd : List Int) (r : Rl) (w : World) (ht : Reads w vt th) (hd : Reads w vb bd) :
    Calls Try.prog 53 #[.agg #[vt, vb], r.val] w fun e w' => e = .returned (.int .i64 (bothE th bd r)) ∧ Ext w w' := by
  have E0 := Lib.hid (Ext.alloc (Ext.alloc (Ext.refl w) (.cells #[vt, vb] 25)) (.cells #[.int .i64 r.lo, .int .i64 r.hi, .int .i64 r.st, .int .i64 r.tr, .int .i64 r.off, .int .i64 r.dv, .int .i64 r.tn] 27))
  have P0 := Lib.hid ((StemAt.new w vt vb 25).ext (Ext.alloc (Ext.refl _) (.cells #[.int .i64 r.lo, .int .i64 r.hi, .int .i64 r.st, .int .i64 r.tr, .int .i64 r.off, .int .i64 r.dv, .int .i64 r.tn] 27)))
  have R0 := RuleAt.new (w.alloc (.cells #[vt, vb] 25)) r 27
  rw [World.size_alloc] at R0
  have R0 := Lib.hid R0
  have H21 := Lib.hid (fun (W : World) (h : Ext w W) => refstem21 _ _ th bd W (ht.ext h) (hd.ext h))
  have hE := show bothE th bd r = if stemE th bd = 0 then ruleE r else stemE th bd from rfl
  generalize bothE th bd r = BE at *
  generalize stemE th bd = SE at *
  have HE := Lib.hid hE
  clear hE ht hd
  have ⟨g1, g2⟩ := P0.out
  have ⟨r0, r1, r2, r3, r4, r5, r6⟩ := R0.out
  go_enter Try.func53, Try.ntmps53
  go_wp2_with fail
  refine (H21.out _ E0.out).mono ?_
  rintro e w1 ⟨rfl, hb⟩
  have E1 := Lib.hid (E0.out.trans hb)
  have ⟨k1, k2⟩ := P0.out.ext hb
  have ⟨q0, q1, q2, q3, q4, q5, q6⟩ := R0.out.ext hb
  clear hb g1 g2 r0 r1 r2 r3 r4 r5 r6
  by_cases hz : SE = 0
  · have hzb : (SE != 0) = false := by simpa using hz
    have hre := Lib.hid (show BE = ruleE r from by rw [HE.out, if_pos hz])
    have H23 := Lib.hid (fun (W : World) => refrule23 r W)
    clear hz HE
    go_wp2_with fail
    refine (H23.out _).mono ?_
    rintro e w2 ⟨rfl, hb⟩
    have E2 := Lib.hid (E1.out.trans hb)
    clear hb
    go_wp2
    go_ret
    exact ⟨by rw [hre.out]; rfl, E2.out⟩
  · have hzb : (SE != 0) = true := by simpa using hz
    have hre := Lib.hid (show BE = SE from by rw [HE.out, if_neg hz])
    clear hz HE
    go_wp2_with fail
    refine (H21.out _ E1.out).mono ?_
    rintro e w2 ⟨rfl, hb⟩
    have E2 := Lib.hid (E1.out.trans hb)
    clear hb
    go_wp2
    go_ret
    exact ⟨by rw [hre.out]; rfl, E2.out⟩
end Go.Proofs.Ytcgheakadfjofaa
namespace Go.Proofs.Ytcgheakadfjofaa
open Go.RowKit
set_option linter.unusedVariables false
set_option linter.unusedSimpArgs false
set_option maxRecDepth 100000 in
set_option maxHeartbeats 4000000 in
theorem refscale45 (vt vb : Value) (th bd : List Int) (r : Rl) (i j : Nat) (w : World) (ht : Reads w vt th) (hd : Reads w vb bd) (hv : Vw th bd r) (hij : i < j) (hj : j < th.length) :
    Calls Try.prog 45 #[.agg #[vt, vb], r.val, .int .i64 (i : Int), .int .i64 (j : Int)] w fun e w' => e = .returned (.int .i64 (sF th bd r i j)) ∧ Ext w w' := by
  obtain ⟨hl, a, cap, rfl⟩ := ht.shape
  obtain ⟨hl', a', cap', rfl⟩ := hd.shape
  obtain ⟨x, hx⟩ := get_some hj
  have hxi : th.getD j 0 = x := by simp [List.getD, hx]
  have hx60 : 0 ≤ x ∧ x ≤ 60 := hv.thick x (List.mem_of_getElem? hx)
  obtain ⟨b1, off, x', rfl, hx', hck⟩ := ht.at hj
  obtain rfl : x = x' := by rw [hx] at hx'; exact Option.some.inj hx'
  obtain ⟨q1, q2, q3, q4, q5, q6, q7, q8, q9, q10, q11, q12, q13⟩ := hv.rule
  have hth := hv.most
  obtain ⟨n, hn⟩ : ∃ n, n = th.length := ⟨_, rfl⟩
  obtain ⟨nb, hnb⟩ : ∃ n, n = bd.length := ⟨_, rfl⟩
  rw [← hn] at ht hl hj hth ⊢
  rw [← hnb] at hd hl' ⊢
  have E0 := Lib.hid (Ext.alloc (Ext.alloc (Ext.refl w) (.cells #[.slice (some ⟨b1, off, none⟩) n cap, .slice a' nb cap'] 25)) (.cells #[.int .i64 r.lo, .int .i64 r.hi, .int .i64 r.st, .int .i64 r.tr, .int .i64 r.off, .int .i64 r.dv, .int .i64 r.tn] 27))
  have P0 := Lib.hid ((StemAt.new w (.slice (some ⟨b1, off, none⟩) n cap) (.slice a' nb cap') 25).ext (Ext.alloc (Ext.refl _) (.cells #[.int .i64 r.lo, .int .i64 r.hi, .int .i64 r.st, .int .i64 r.tr, .int .i64 r.off, .int .i64 r.dv, .int .i64 r.tn] 27)))
  have R0 := RuleAt.new (w.alloc (.cells #[.slice (some ⟨b1, off, none⟩) n cap, .slice a' nb cap'] 25)) r 27
  rw [World.size_alloc] at R0
  have R0 := Lib.hid R0
  have hck0 := cell_ext E0.out hck
  have HD := Lib.hid (hd.ext E0.out)
  obtain ⟨res, hres⟩ : ∃ res, res = sF th bd r i j := ⟨_, rfl⟩
  rw [← hres]
  have hR : res = if badB bd i j = true then 0 else if (j : Int) - i - r.tr < r.lo ∨ r.hi < (j : Int) - i - r.tr ∨ ((j : Int) - i - r.tr) % r.st ≠ 0 ∨ x < r.tn then 0 else max 0 (x - r.off) * max 0 (x - r.off) * ((j : Int) - i - r.tr) / r.dv := by
    rw [hres]; unfold sF scl badB; rw [Int.toNat_natCast, hxi]
  obtain ⟨ln, hln⟩ : ∃ ln : Int, ln = (j : Int) - i - r.tr := ⟨_, rfl⟩
  rw [← hln] at hR
  have hlnb : -5 ≤ ln ∧ ln ≤ 60 := by omega
  have hw1 : IntKind.i64.wrap ((j : Int) - (i : Int)) = (j : Int) - i := wrapi64 _ (by omega) (by omega)
  have hw2 : IntKind.i64.wrap ((j : Int) - (i : Int) - r.tr) = ln := by rw [hln]; exact wrapi64 _ (by omega) (by omega)
  have hja : (0 : Int) ≤ (j : Int) := by omega
  have hjb : (j : Int) < (n : Int) := by omega
  have hjt : (j : Int).toNat = j := by omega
  have HR := Lib.hid hR; have HN' := Lib.hid hnb
  clear hR hx hx' hxi hln hres hv hck ht hd hn hnb
  have ⟨g1, g2⟩ := P0.out
  have ⟨r0, r1, r2, r3, r4, r5, r6⟩ := R0.out
  go_enter Try.func45, Try.ntmps45
  go_wp2_with fail
  go_loop [9] (fun q => ∃ k : Nat, k ≤ nb ∧ q = .int .i64 (k : Int) ∧ Hid (badB (bd.take k) i j = false)) (fun q => nb - (intOf q).toNat)
  case atStart => exact ⟨0, Nat.zero_le _, rfl, rfl⟩
  case round =>
    obtain ⟨k, hk, rfl, hI⟩ := hrel
    by_cases hlt : k < nb
    · obtain ⟨b2, off2, y, rfl, hy, hcy⟩ := HD.out.at (show k < bd.length by rw [← HN'.out]; exact hlt)
      have HX := Lib.hid hy; clear hy
      have hka : (0 : Int) ≤ (k : Int) := by omega
      have hkb : (k : Int) < (nb : Int) := by omega
      have hkt : (k : Int).toNat = k := by omega
      by_cases h1 : (i : Int) ≤ y
      · have d1 : decide ((i : Int) ≤ y) = true := decide_eq_true h1
        by_cases h2 : y < (j : Int)
        · have d2 : decide (y < (j : Int)) = true := decide_eq_true h2
          have hre := Lib.hid (show res = 0 from by
            rw [HR.out, if_pos]
            exact List.any_eq_true.2 ⟨y, List.mem_of_getElem? HX.out, by simp; omega⟩)
          clear HR
          go_wp2
          go_ret
          exact ⟨by rw [hre.out]; rfl, E0.out⟩
        · have d2 : decide (y < (j : Int)) = false := decide_eq_false h2
          have hb := Lib.hid (show badB (bd.take (k + 1)) i j = false from by rw [badB_snoc HX.out, hI.out]; simp; omega)
          go_wp2
          go_round
          case rel => exact ⟨k + 1, by omega, by go_num, hb⟩
          case measure => simp [intOf]; omega
      · have d1 : decide ((i : Int) ≤ y) = false := decide_eq_false h1
        have hb := Lib.hid (show badB (bd.take (k + 1)) i j = false from by rw [badB_snoc HX.out, hI.out]; simp; omega)
        go_wp2
        go_round
        case rel => exact ⟨k + 1, by omega, by go_num, hb⟩
        case measure => simp [intOf]; omega
    · have hkb : ¬ (k : Int) < (nb : Int) := by omega
      have HR1 := Lib.hid (show res = if ln < r.lo ∨ r.hi < ln ∨ ln % r.st ≠ 0 ∨ x < r.tn then 0 else max 0 (x - r.off) * max 0 (x - r.off) * ln / r.dv from by
        have h1 := hI.out
        rw [List.take_of_length_le (by rw [← HN'.out]; omega)] at h1
        rw [HR.out, if_neg (by rw [h1]; simp)])
      clear HR hI
      by_cases h1 : ln < r.lo
      · have hre := Lib.hid (show res = 0 from by rw [HR1.out, if_pos (.inl h1)])
        have d1 : decide (ln < r.lo) = true := decide_eq_true h1
        clear HR1
        go_wp2
        go_ret
        exact ⟨by rw [hre.out]; rfl, E0.out⟩
      have d1 : decide (ln < r.lo) = false := decide_eq_false h1
      by_cases h2 : r.hi < ln
      · have hre := Lib.hid (show res = 0 from by rw [HR1.out, if_pos (.inr (.inl h2))])
        have d2 : decide (r.hi < ln) = true := decide_eq_true h2
        clear HR1
        go_wp2
        go_ret
        exact ⟨by rw [hre.out]; rfl, E0.out⟩
      have d2 : decide (r.hi < ln) = false := decide_eq_false h2
      have hln0 : 0 ≤ ln := by omega
      have hst0 : ¬ r.st = 0 := by omega
      have htm : ln.tmod r.st = ln % r.st := Int.tmod_eq_emod_of_nonneg hln0
      by_cases h3 : ln % r.st = 0
      · have d3 : (ln % r.st != 0) = false := by simp [h3]
        by_cases h4 : x < r.tn
        · have hre := Lib.hid (show res = 0 from by rw [HR1.out, if_pos (.inr (.inr (.inr h4)))])
          have d4 : decide (x < r.tn) = true := decide_eq_true h4
          clear HR1
          go_wp2
          go_ret
          exact ⟨by rw [hre.out]; rfl, E0.out⟩
        have d4 : decide (x < r.tn) = false := decide_eq_false h4
        have HR2 := Lib.hid (show res = max 0 (x - r.off) * max 0 (x - r.off) * ln / r.dv from by rw [HR1.out, if_neg (by omega)])
        have hwx : IntKind.i64.wrap (x - r.off) = x - r.off := wrapi64 _ (by omega) (by omega)
        have hdv0 : ¬ r.dv = 0 := by omega
        clear HR1
        go_wp2
        all_goals
          go_ret
          refine ⟨ret_int ?_, E0.out⟩
          rw [HR2.out]
          first
            | (rw [show max 0 (x - r.off) = x - r.off from by omega]; exact feet_val (by omega) (by omega) hln0 (by omega) q10 q11)
            | (rw [show max 0 (x - r.off) = 0 from by omega]; simp [wrap64])
      · have d3 : (ln % r.st != 0) = true := by simpa using h3
        have hre := Lib.hid (show res = 0 from by rw [HR1.out, if_pos (.inr (.inr (.inl h3)))])
        clear HR1
        go_wp2
        go_ret
        exact ⟨by rw [hre.out]; rfl, E0.out⟩
end Go.Proofs.Ytcgheakadfjofaa
namespace Go.Proofs.Ytcgheakadfjofaa
open Go.RowKit
set_option linter.unusedVariables false
set_option linter.unusedSimpArgs false
set_option maxRecDepth 100000 in
set_option maxHeartbeats 4000000 in
theorem reffeet19 (vt vb : Value) (th bd : List Int) (r : Rl) (i j : Int) (w : World) (ht : Reads w vt th) (hd : Reads w vb bd) :
    Calls Try.prog 19 #[.agg #[vt, vb], r.val, .agg #[.int .i64 i, .int .i64 j]] w fun e w' => e = .returned (.tuple #[.int .i64 (feetE th bd r i j).1, .int .i64 (feetE th bd r i j).2]) ∧ Ext w w' := by
  have E0 := Lib.hid (Ext.alloc (Ext.alloc (Ext.refl w) (.cells #[vt, vb] 25)) (.cells #[.int .i64 r.lo, .int .i64 r.hi, .int .i64 r.st, .int .i64 r.tr, .int .i64 r.off, .int .i64 r.dv, .int .i64 r.tn] 27))
  have P0 := Lib.hid ((StemAt.new w vt vb 25).ext (Ext.alloc (Ext.refl _) (.cells #[.int .i64 r.lo, .int .i64 r.hi, .int .i64 r.st, .int .i64 r.tr, .int .i64 r.off, .int .i64 r.dv, .int .i64 r.tn] 27)))
  have R0 := RuleAt.new (w.alloc (.cells #[vt, vb] 25)) r 27
  rw [World.size_alloc] at R0
  have R0 := Lib.hid R0
  have E1 := Lib.hid (Ext.alloc E0.out (.cells #[.int .i64 i, .int .i64 j] 29))
  have P1 := Lib.hid (P0.out.ext (Ext.alloc (Ext.refl _) (.cells #[.int .i64 i, .int .i64 j] 29)))
  have R1 := Lib.hid (R0.out.ext (Ext.alloc (Ext.refl _) (.cells #[.int .i64 i, .int .i64 j] 29)))
  have L1 := Lib.hid (StemAt.new ((w.alloc (.cells #[vt, vb] 25)).alloc (.cells #[.int .i64 r.lo, .int .i64 r.hi, .int .i64 r.st, .int .i64 r.tr, .int .i64 r.off, .int .i64 r.dv, .int .i64 r.tn] 27)) (.int .i64 i) (.int .i64 j) 29)
  rw [World.size_alloc, World.size_alloc] at L1
  have H53 := Lib.hid (fun (W : World) (h : Ext w W) => refcheck53 _ _ th bd r W (ht.ext h) (hd.ext h))
  have H54 := Lib.hid (fun (W : World) (h : Ext w W) => islog54 vt vb th i j W (ht.ext h))
  have hok : bothE th bd r = 0 → Vw th bd r := fun h => by
    obtain ⟨h1, h2⟩ := bothE_ok.1 h
    exact h1.weak h2
  have H45 := Lib.hid (show ∀ (W : World), Ext w W → Vw th bd r → lieB th i j = true → Calls Try.prog 45 #[.agg #[vt, vb], r.val, .int .i64 i, .int .i64 j] W fun e w' => e = .returned (.int .i64 (scl th bd r i j)) ∧ Ext W w' from fun W h hv hli => by
    have h1 : 0 ≤ i ∧ i < j ∧ j ≤ (th.length : Int) - 1 := lieB_iff.1 hli
    obtain ⟨i', rfl⟩ := Int.eq_ofNat_of_zero_le h1.1
    obtain ⟨j', rfl⟩ := Int.eq_ofNat_of_zero_le (show 0 ≤ j by omega)
    exact refscale45 _ _ th bd r i' j' W (ht.ext h) (hd.ext h) hv (by omega) (by omega))
  have hE := show feetE th bd r i j = if bothE th bd r ≠ 0 then (0, bothE th bd r) else if lieB th i j = false then (0, 2) else if scl th bd r i j = 0 then (0, 18) else (scl th bd r i j, 0) from rfl
  generalize feetE th bd r i j = fe at *
  generalize bothE th bd r = BE at *
  have HOK := Lib.hid hok
  have HE := Lib.hid hE
  clear hok ht hd hE
  have ⟨g1, g2⟩ := P1.out
  have ⟨r0, r1, r2, r3, r4, r5, r6⟩ := R1.out
  go_enter Try.func19, Try.ntmps19
  go_wp2_with fail
  refine (H53.out _ E1.out).mono ?_
  rintro e w1 ⟨rfl, hb⟩
  have E2 := Lib.hid (E1.out.trans hb)
  have P2 := Lib.hid (P1.out.ext hb)
  have R2 := Lib.hid (R1.out.ext hb)
  have L2 := Lib.hid (L1.out.ext hb)
  clear hb g1 g2 r0 r1 r2 r3 r4 r5 r6
  have ⟨g1, g2⟩ := P2.out
  have ⟨r0, r1, r2, r3, r4, r5, r6⟩ := R2.out
  have ⟨l0, l1⟩ := L2.out
  by_cases hz : BE = 0
  · have hzb : (BE != 0) = false := by simpa using hz
    have hv := Lib.hid (HOK.out hz)
    have HE1 := Lib.hid (show fe = if lieB th i j = false then (0, 2) else if scl th bd r i j = 0 then (0, 18) else (scl th bd r i j, 0) from by rw [HE.out, if_neg (by simpa using hz)])
    clear hz HE
    have h54 := Lib.hid (H54.out _ E2.out)
    cases hli : lieB th i j
    · rw [hli] at h54
      have hre := Lib.hid (show fe = (0, 2) from by rw [HE1.out, if_pos hli])
      clear hli HE1
      go_wp2_with fail
      refine (h54.out).mono ?_
      rintro e w2 ⟨rfl, hb⟩
      have E3 := Lib.hid (E2.out.trans hb)
      clear hb
      go_wp2
      go_ret2
      exact ⟨by rw [hre.out]; rfl, E3.out⟩
    · rw [hli] at h54
      have HE2 := Lib.hid (show fe = if scl th bd r i j = 0 then (0, 18) else (scl th bd r i j, 0) from by rw [HE1.out, if_neg (by rw [hli]; simp)])
      have h45 := Lib.hid (fun (W : World) (h : Ext w W) => H45.out W h hv.out hli)
      have hnn := scl_nn hv.out i j
      clear hli HE1 H45
      generalize scl th bd r i j = sc at *
      go_wp2_with fail
      refine (h54.out).mono ?_
      rintro e w2 ⟨rfl, hb⟩
      have E3 := Lib.hid (E2.out.trans hb)
      clear g1 g2 r0 r1 r2 r3 r4 r5 r6 l0 l1
      have ⟨g1, g2⟩ := P2.out.ext hb
      have ⟨r0, r1, r2, r3, r4, r5, r6⟩ := R2.out.ext hb
      have ⟨l0, l1⟩ := L2.out.ext hb
      clear hb
      go_wp2_with fail
      refine (h45.out _ E3.out).mono ?_
      rintro e w3 ⟨rfl, hb⟩
      have E4 := Lib.hid (E3.out.trans hb)
      clear hb g1 g2 r0 r1 r2 r3 r4 r5 r6 l0 l1
      by_cases hs : sc = 0
      · have hsb : decide (sc < 1) = true := by simp; omega
        have hre := Lib.hid (show fe = (0, 18) from by rw [HE2.out, if_pos hs])
        clear hs HE2
        go_wp2
        go_ret2
        exact ⟨by rw [hre.out]; rfl, E4.out⟩
      · have hsb : decide (sc < 1) = false := by simp; omega
        have hre := Lib.hid (show fe = (sc, 0) from by rw [HE2.out, if_neg hs])
        clear hs HE2
        go_wp2
        go_ret2
        exact ⟨by rw [hre.out]; rfl, E4.out⟩
  · have hzb : (BE != 0) = true := by simpa using hz
    have hre := Lib.hid (show fe = (0, BE) from by rw [HE.out, if_pos hz])
    clear hz HE
    go_wp2_with fail
    refine (H53.out _ E2.out).mono ?_
    rintro e w2 ⟨rfl, hb⟩
    have E3 := Lib.hid (E2.out.trans hb)
    clear hb
    go_wp2
    go_ret2
    exact ⟨by rw [hre.out]; rfl, E3.out⟩
end Go.Proofs.Ytcgheakadfjofaa
