/- The reference's Feet. -/
import Derived.Test.YtcgheakadfjofaaC6
import Derived.Test.YtcgheakadfjofaaC3
namespace Go.Proofs.Ytcgheakadfjofaa
open Go.RowKit
set_option linter.unusedVariables false
set_option linter.unusedSimpArgs false
set_option maxRecDepth 100000 in
set_option maxHeartbeats 4000000 in
theorem reffeet19 (vt vb : Value) (th bd : List Int) (r : Rl) (i j : Int) (w : World) (ht : Reads w vt th) (hd : Reads w vb bd) :
    Calls Try.prog 19 #[.agg #[vt, vb], r.val, .agg #[.int .i64 i, .int .i64 j]] w fun e w' => e = .returned (.tuple #[.int .i64 (feetE th bd r i j).1, .int .i64 (feetE th bd r i j).2]) ∧ Ext w w' := by
  have E0 := Lib.hid (Ext.alloc (Ext.alloc (Ext.refl w) (.cells #[vt, vb] 25)) (.cells #[.int .i64 r.lo, .int .i64 r.hi, .int .i64 r.st, .int .i64 r.tr, .int .i64 r.off, .int .i64 r.dv, .int .i64 r.tn] 27))
  have P0 := Lib.hid ((StemAt.new w vt vb 25).ext (Ext.alloc (Ext.refl _) (.cells #[.int .i64 r.lo, .int .i64 r.hi, .int .i64 r.st, .int .i64 r.tr, .int .i64 r.off, .int .i64 r.dv, .int .i64 r.tn] 27)))
  have R0 := RuleAt.new (w.alloc (.cells #[vt, vb] 25)) r 27
  rw [World.size_alloc] at R0
  have R0 := Lib.hid R0
  have E1 := Lib.hid (Ext.alloc E0.out (.cells #[.int .i64 i, .int .i64 j] 29))
  have P1 := Lib.hid (P0.out.ext (Ext.alloc (Ext.refl _) (.cells #[.int .i64 i, .int .i64 j] 29)))
  have R1 := Lib.hid (R0.out.ext (Ext.alloc (Ext.refl _) (.cells #[.int .i64 i, .int .i64 j] 29)))
  have L1 := Lib.hid (StemAt.new ((w.alloc (.cells #[vt, vb] 25)).alloc (.cells #[.int .i64 r.lo, .int .i64 r.hi, .int .i64 r.st, .int .i64 r.tr, .int .i64 r.off, .int .i64 r.dv, .int .i64 r.tn] 27)) (.int .i64 i) (.int .i64 j) 29)
  rw [World.size_alloc, World.size_alloc] at L1
  have H53 := Lib.hid (fun (W : World) (h : Ext w W) => refcheck53 _ _ th bd r W (ht.ext h) (hd.ext h))
  have H54 := Lib.hid (fun (W : World) (h : Ext w W) => islog54 vt vb th i j W (ht.ext h))
  have hok : bothE th bd r = 0 → Vw th bd r := fun h => by
    obtain ⟨h1, h2⟩ := bothE_ok.1 h
    exact h1.weak h2
  have H45 := Lib.hid (show ∀ (W : World), Ext w W → Vw th bd r → lieB th i j = true → Calls Try.prog 45 #[.agg #[vt, vb], r.val, .int .i64 i, .int .i64 j] W fun e w' => e = .returned (.int .i64 (scl th bd r i j)) ∧ Ext W w' from fun W h hv hli => by
    have h1 : 0 ≤ i ∧ i < j ∧ j ≤ (th.length : Int) - 1 := lieB_iff.1 hli
    obtain ⟨i', rfl⟩ := Int.eq_ofNat_of_zero_le h1.1
    obtain ⟨j', rfl⟩ := Int.eq_ofNat_of_zero_le (show 0 ≤ j by omega)
    exact refscale45 _ _ th bd r i' j' W (ht.ext h) (hd.ext h) hv (by omega) (by omega))
  have hE := show feetE th bd r i j = if bothE th bd r ≠ 0 then (0, bothE th bd r) else if lieB th i j = false then (0, 2) else if scl th bd r i j = 0 then (0, 18) else (scl th bd r i j, 0) from rfl
  generalize feetE th bd r i j = fe at *
  generalize bothE th bd r = BE at *
  have HOK := Lib.hid hok
  have HE := Lib.hid hE
  clear hok ht hd hE
  have ⟨g1, g2⟩ := P1.out
  have ⟨r0, r1, r2, r3, r4, r5, r6⟩ := R1.out
  go_enter Try.func19, Try.ntmps19
  go_wp2_with fail
  refine (H53.out _ E1.out).mono ?_
  rintro e w1 ⟨rfl, hb⟩
  have E2 := Lib.hid (E1.out.trans hb)
  have P2 := Lib.hid (P1.out.ext hb)
  have R2 := Lib.hid (R1.out.ext hb)
  have L2 := Lib.hid (L1.out.ext hb)
  clear hb g1 g2 r0 r1 r2 r3 r4 r5 r6
  have ⟨g1, g2⟩ := P2.out
  have ⟨r0, r1, r2, r3, r4, r5, r6⟩ := R2.out
  have ⟨l0, l1⟩ := L2.out
  by_cases hz : BE = 0
  · have hzb : (BE != 0) = false := by simpa using hz
    have hv := Lib.hid (HOK.out hz)
    have HE1 := Lib.hid (show fe = if lieB th i j = false then (0, 2) else if scl th bd r i j = 0 then (0, 18) else (scl th bd r i j, 0) from by rw [HE.out, if_neg (by simpa using hz)])
    clear hz HE
    have h54 := Lib.hid (H54.out _ E2.out)
    cases hli : lieB th i j
    · rw [hli] at h54
      have hre := Lib.hid (show fe = (0, 2) from by rw [HE1.out, if_pos hli])
      clear hli HE1
      go_wp2_with fail
      refine (h54.out).mono ?_
      rintro e w2 ⟨rfl, hb⟩
      have E3 := Lib.hid (E2.out.trans hb)
      clear hb
      go_wp2
      go_ret2
      exact ⟨by rw [hre.out]; rfl, E3.out⟩
    · rw [hli] at h54
      have HE2 := Lib.hid (show fe = if scl th bd r i j = 0 then (0, 18) else (scl th bd r i j, 0) from by rw [HE1.out, if_neg (by rw [hli]; simp)])
      have h45 := Lib.hid (fun (W : World) (h : Ext w W) => H45.out W h hv.out hli)
      have hnn := scl_nn hv.out i j
      clear hli HE1 H45
      generalize scl th bd r i j = sc at *
      go_wp2_with fail
      refine (h54.out).mono ?_
      rintro e w2 ⟨rfl, hb⟩
      have E3 := Lib.hid (E2.out.trans hb)
      clear g1 g2 r0 r1 r2 r3 r4 r5 r6 l0 l1
      have ⟨g1, g2⟩ := P2.out.ext hb
      have ⟨r0, r1, r2, r3, r4, r5, r6⟩ := R2.out.ext hb
      have ⟨l0, l1⟩ := L2.out.ext hb
      clear hb
      go_wp2_with fail
      refine (h45.out _ E3.out).mono ?_
      rintro e w3 ⟨rfl, hb⟩
      have E4 := Lib.hid (E3.out.trans hb)
      clear hb g1 g2 r0 r1 r2 r3 r4 r5 r6 l0 l1
      by_cases hs : sc = 0
      · have hsb : decide (sc < 1) = true := by simp; omega
        have hre := Lib.hid (show fe = (0, 18) from by rw [HE2.out, if_pos hs])
        clear hs HE2
        go_wp2
        go_ret2
        exact ⟨by rw [hre.out]; rfl, E4.out⟩
      · have hsb : decide (sc < 1) = false := by simp; omega
        have hre := Lib.hid (show fe = (sc, 0) from by rw [HE2.out, if_neg hs])
        clear hs HE2
        go_wp2
        go_ret2
        exact ⟨by rw [hre.out]; rfl, E4.out⟩
  · have hzb : (BE != 0) = true := by simpa using hz
    have hre := Lib.hid (show fe = (0, BE) from by rw [HE.out, if_pos hz])
    clear hz HE
    go_wp2_with fail
    refine (H53.out _ E2.out).mono ?_
    rintro e w2 ⟨rfl, hb⟩
    have E3 := Lib.hid (E2.out.trans hb)
    clear hb
    go_wp2
    go_ret2
    exact ⟨by rw [hre.out]; rfl, E3.out⟩
end Go.Proofs.Ytcgheakadfjofaa
