/- The reference's Check. -/
import Derived.Test.YtcgheakadfjofaaC4
import Derived.Test.YtcgheakadfjofaaB18
namespace Go.Proofs.Ytcgheakadfjofaa
open Go.RowKit
set_option linter.unusedVariables false
set_option linter.unusedSimpArgs false
set_option maxRecDepth 100000 in
set_option maxHeartbeats 4000000 in
theorem refcheck53 (vt vb : Value) (th bd : List Int) (r : Rl) (w : World) (ht : Reads w vt th) (hd : Reads w vb bd) :
    Calls Try.prog 53 #[.agg #[vt, vb], r.val] w fun e w' => e = .returned (.int .i64 (bothE th bd r)) ∧ Ext w w' := by
  have E0 := Lib.hid (Ext.alloc (Ext.alloc (Ext.refl w) (.cells #[vt, vb] 25)) (.cells #[.int .i64 r.lo, .int .i64 r.hi, .int .i64 r.st, .int .i64 r.tr, .int .i64 r.off, .int .i64 r.dv, .int .i64 r.tn] 27))
  have P0 := Lib.hid ((StemAt.new w vt vb 25).ext (Ext.alloc (Ext.refl _) (.cells #[.int .i64 r.lo, .int .i64 r.hi, .int .i64 r.st, .int .i64 r.tr, .int .i64 r.off, .int .i64 r.dv, .int .i64 r.tn] 27)))
  have R0 := RuleAt.new (w.alloc (.cells #[vt, vb] 25)) r 27
  rw [World.size_alloc] at R0
  have R0 := Lib.hid R0
  have H21 := Lib.hid (fun (W : World) (h : Ext w W) => refstem21 _ _ th bd W (ht.ext h) (hd.ext h))
  have hE := show bothE th bd r = if stemE th bd = 0 then ruleE r else stemE th bd from rfl
  generalize bothE th bd r = BE at *
  generalize stemE th bd = SE at *
  have HE := Lib.hid hE
  clear hE ht hd
  have ⟨g1, g2⟩ := P0.out
  have ⟨r0, r1, r2, r3, r4, r5, r6⟩ := R0.out
  go_enter Try.func53, Try.ntmps53
  go_wp2_with fail
  refine (H21.out _ E0.out).mono ?_
  rintro e w1 ⟨rfl, hb⟩
  have E1 := Lib.hid (E0.out.trans hb)
  have ⟨k1, k2⟩ := P0.out.ext hb
  have ⟨q0, q1, q2, q3, q4, q5, q6⟩ := R0.out.ext hb
  clear hb g1 g2 r0 r1 r2 r3 r4 r5 r6
  by_cases hz : SE = 0
  · have hzb : (SE != 0) = false := by simpa using hz
    have hre := Lib.hid (show BE = ruleE r from by rw [HE.out, if_pos hz])
    have H23 := Lib.hid (fun (W : World) => refrule23 r W)
    clear hz HE
    go_wp2_with fail
    refine (H23.out _).mono ?_
    rintro e w2 ⟨rfl, hb⟩
    have E2 := Lib.hid (E1.out.trans hb)
    clear hb
    go_wp2
    go_ret
    exact ⟨by rw [hre.out]; rfl, E2.out⟩
  · have hzb : (SE != 0) = true := by simpa using hz
    have hre := Lib.hid (show BE = SE from by rw [HE.out, if_neg hz])
    clear hz HE
    go_wp2_with fail
    refine (H21.out _ E1.out).mono ?_
    rintro e w2 ⟨rfl, hb⟩
    have E2 := Lib.hid (E1.out.trans hb)
    clear hb
    go_wp2
    go_ret
    exact ⟨by rw [hre.out]; rfl, E2.out⟩
end Go.Proofs.Ytcgheakadfjofaa
