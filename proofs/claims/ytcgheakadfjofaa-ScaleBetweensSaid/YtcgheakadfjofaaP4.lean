/- The reference's Kind. -/
import Derived.Test.YtcgheakadfjofaaP3
namespace Go.Proofs.Ytcgheakadfjofaa
open Go.RowKit Go.Shelf
set_option linter.unusedVariables false
set_option linter.unusedSimpArgs false
attribute [local go_sem] Oper.semAt_some
set_option maxRecDepth 100000 in
set_option maxHeartbeats 1000000 in
theorem refkind35 (vt vb : Value) (th bd : List Int) (r : Rl) (p : Int) (w : World) (ht : Reads w vt th) (hd : Reads w vb bd) :
    Calls Try.prog 35 #[.agg #[vt, vb], r.val, .int .i64 p] w fun e w' => e = .returned (.tuple #[.int .i64 (kindE th bd r p).1, .int .i64 (kindE th bd r p).2]) ∧ Ext w w' := by
  have HE := Lib.hid (Ext.alloc (Ext.alloc (Ext.refl w) (.cells #[vt, vb] 25)) (.cells #[.int .i64 r.lo, .int .i64 r.hi, .int .i64 r.st, .int .i64 r.tr, .int .i64 r.off, .int .i64 r.dv, .int .i64 r.tn] 27))
  have HP := Lib.hid (SR.new w vt vb r)
  have H73 := Lib.hid (fun (W : World) (h : Ext w W) => placed73 _ _ th bd r p W (ht.ext h) (hd.ext h))
  by_cases hz : placedE th bd r [p] = 0
  · obtain ⟨hE, hp0, hp1⟩ := placedE_one hz
    obtain ⟨p, rfl⟩ := Int.eq_ofNat_of_zero_le hp0
    obtain ⟨q1, q2⟩ := vs_len hE
    have hvw := (bothE_ok.1 hE).1.weak (bothE_ok.1 hE).2
    have h68 := fun (W : World) (h : Ext w W) => counts68 _ _ th bd r (-1) (p : Int) (th.length - 1) W (ht.ext h) (hd.ext h) hvw (by omega)
    rw [ltV_at] at h68
    have h74 := fun (W : World) (h : Ext w W) => cuts74 _ _ th bd r p W (ht.ext h) (hd.ext h) hE
    have hk := kind_ref (M := 1099511627777) (by omega) (sF th bd r) (th.length - 1) p
    rw [kindE_ok hE (by omega), ← hk]
    rw [hz] at H73
    generalize cntV 1099511627777 (sF th bd r) (atB p) (th.length - 1) 0 = cv at *
    generalize cutsB (sF th bd r) (th.length - 1) p = cb at *
    obtain ⟨kv, hkv⟩ : ∃ kv : Int, kv = if cv = 0 then 2 else if cb = true then 1 else 0 := ⟨_, rfl⟩
    rw [← hkv]
    have HK := Lib.hid hkv
    have h68 := Lib.hid h68; have h74 := Lib.hid h74
    clear ht hd hE hp0 hp1 hvw q1 q2 hz hk hkv
    obtain ⟨⟨g1, g2⟩, r0, r1, r2, r3, r4, r5, r6⟩ := HP.out
    go_enter Try.func35, Try.ntmps35
    go_wp2_with fail
    refine (H73.out _ HE.out).mono ?_
    rintro e w1 ⟨rfl, hb⟩
    obtain ⟨⟨g1, g2⟩, r0, r1, r2, r3, r4, r5, r6⟩ := HP.out.ext hb
    have HE := Lib.hid (HE.out.trans hb)
    have HP := Lib.hid (HP.out.ext hb)
    clear hb
    go_wp2_with fail
    refine (h68.out _ HE.out).mono ?_
    rintro e w2 ⟨rfl, hb⟩
    obtain ⟨⟨g1, g2⟩, r0, r1, r2, r3, r4, r5, r6⟩ := HP.out.ext hb
    have HE := Lib.hid (HE.out.trans hb)
    have HP := Lib.hid (HP.out.ext hb)
    clear hb
    by_cases hc : cv = 0
    · have hcb : (cv == 0) = true := by simpa using hc
      have HI := Lib.hid (show kv = 2 by rw [HK.out, if_pos hc])
      clear hc
      go_wp2_with fail
      go_ret2
      exact ⟨by rw [HI.out]; rfl, HE.out⟩
    · have hcb : (cv == 0) = false := by simpa using hc
      have HI := Lib.hid (show kv = if cb = true then 1 else 0 by rw [HK.out, if_neg hc])
      clear hc
      go_wp2_with fail
      refine (h74.out _ HE.out).mono ?_
      rintro e w3 ⟨rfl, hb⟩
      have HE := Lib.hid (HE.out.trans hb)
      clear hb
      cases cb
      · go_wp2_with fail
        go_ret2
        exact ⟨by rw [HI.out]; rfl, HE.out⟩
      · go_wp2_with fail
        go_ret2
        exact ⟨by rw [HI.out]; rfl, HE.out⟩
  · have hle : kindE th bd r p = (0, placedE th bd r [p]) := by unfold kindE; rw [if_pos hz]
    rw [hle]
    have hzb : (placedE th bd r [p] != 0) = true := by simpa using hz
    generalize placedE th bd r [p] = PE at *
    clear ht hd hz hle
    obtain ⟨⟨g1, g2⟩, r0, r1, r2, r3, r4, r5, r6⟩ := HP.out
    go_enter Try.func35, Try.ntmps35
    go_wp2_with fail
    refine (H73.out _ HE.out).mono ?_
    rintro e w1 ⟨rfl, hb⟩
    obtain ⟨⟨g1, g2⟩, r0, r1, r2, r3, r4, r5, r6⟩ := HP.out.ext hb
    have HE := Lib.hid (HE.out.trans hb)
    clear hb
    go_wp2_with fail
    refine (H73.out _ HE.out).mono ?_
    rintro e w2 ⟨rfl, hb⟩
    have HE := Lib.hid (HE.out.trans hb)
    clear hb
    go_wp2_with fail
    go_ret2
    exact ⟨rfl, HE.out⟩
end Go.Proofs.Ytcgheakadfjofaa
