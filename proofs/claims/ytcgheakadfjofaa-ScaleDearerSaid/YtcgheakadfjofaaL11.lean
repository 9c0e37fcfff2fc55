/- ScaleDearer, by its contract. -/
import Derived.Test.YtcgheakadfjofaaK0
import Derived.Test.YtcgheakadfjofaaH1
namespace Go.Proofs.Ytcgheakadfjofaa
open Go.RowKit
set_option linter.unusedVariables false
set_option linter.unusedSimpArgs false
attribute [local go_sem] Oper.semAt_some
set_option maxRecDepth 100000 in
set_option maxHeartbeats 8000000 in
theorem dearer11 (a a' : Option Addr) (cap cap' : Nat) (th bd : List Int) (r : Rl) (l0 l1 m0 m1 o d u : Nat) (w : World) (hlen : th.length ≤ cap ∧ cap ≤ 9223372036854775807) (hlen' : bd.length ≤ cap' ∧ cap' ≤ 9223372036854775807) (hr : th.length ≤ 5000 → Reads w (.slice a th.length cap) th) (hr' : bd.length ≤ 5000 → Reads w (.slice a' bd.length cap') bd) (b1 : l0 ≤ 255) (b2 : m0 ≤ 255) (b3 : o ≤ 255) (b4 : d ≤ 255) (b5 : u ≤ 255) :
    Calls Try.prog 11 #[.agg #[.slice a th.length cap, .slice a' bd.length cap'], r.val, .agg #[.int .u8 (l0 : Int), .int .u8 (l1 : Int)], .agg #[.int .u8 (m0 : Int), .int .u8 (m1 : Int)], .int .u8 (o : Int), .int .u8 (d : Int), .int .u8 (u : Int)] w fun e w' => e = .returned (.bool true) ∧ Ext w w' := by
  obtain ⟨BF, hf1, hf2⟩ := fine40 a a' cap cap' th bd r w hlen hlen' hr hr'
  have C40 := Lib.hid hf1
  obtain ⟨n, hn⟩ : ∃ n, n = th.length := ⟨_, rfl⟩
  obtain ⟨n', hn'⟩ : ∃ n', n' = bd.length := ⟨_, rfl⟩
  rw [← hn] at hlen hr ⊢
  rw [← hn'] at hlen' hr' ⊢
  rw [← hn, ← hn'] at C40 hf2
  have E0 := Lib.hid (Ext.alloc (Ext.alloc (Ext.alloc (Ext.alloc (Ext.refl w) (.cells #[.slice a n cap, .slice a' n' cap'] 25)) (.cells #[.int .i64 r.lo, .int .i64 r.hi, .int .i64 r.st, .int .i64 r.tr, .int .i64 r.off, .int .i64 r.dv, .int .i64 r.tn] 27)) (.cells #[.int .u8 (l0 : Int), .int .u8 (l1 : Int)] 66)) (.cells #[.int .u8 (m0 : Int), .int .u8 (m1 : Int)] 66))
  have P0 := Lib.hid ((SR.new w (.slice a n cap) (.slice a' n' cap') r).ext (Ext.alloc (Ext.alloc (Ext.refl _) (.cells #[.int .u8 (l0 : Int), .int .u8 (l1 : Int)] 66)) (.cells #[.int .u8 (m0 : Int), .int .u8 (m1 : Int)] 66)))
  have l0c : (((( w.alloc (.cells #[.slice a n cap, .slice a' n' cap'] 25)).alloc (.cells #[.int .i64 r.lo, .int .i64 r.hi, .int .i64 r.st, .int .i64 r.tr, .int .i64 r.off, .int .i64 r.dv, .int .i64 r.tn] 27)).alloc (.cells #[.int .u8 (l0 : Int), .int .u8 (l1 : Int)] 66)).alloc (.cells #[.int .u8 (m0 : Int), .int .u8 (m1 : Int)] 66)).cell? ⟨w.heap.size + 1 + 1, 0, none⟩ = some (.int .u8 (l0 : Int)) := cell_ext (Ext.alloc (Ext.refl _) _) (World.cell?_alloc_at _ _ _ _ (by simp))
  have m0c : (((( w.alloc (.cells #[.slice a n cap, .slice a' n' cap'] 25)).alloc (.cells #[.int .i64 r.lo, .int .i64 r.hi, .int .i64 r.st, .int .i64 r.tr, .int .i64 r.off, .int .i64 r.dv, .int .i64 r.tn] 27)).alloc (.cells #[.int .u8 (l0 : Int), .int .u8 (l1 : Int)] 66)).alloc (.cells #[.int .u8 (m0 : Int), .int .u8 (m1 : Int)] 66)).cell? ⟨w.heap.size + 1 + 1 + 1, 0, none⟩ = some (.int .u8 (m0 : Int)) := World.cell?_alloc_at _ _ _ _ (by simp)
  cases BF with
  | false =>
    clear hr hr' hf1 hf2 hn hn' l0c m0c
    obtain ⟨⟨g1, g2⟩, r0, r1, r2, r3, r4, r5, r6⟩ := P0.out
    have HE := E0
    have HP := P0
    go_enter Try.func11, Try.ntmps11
    go_wp2_with fail
    refine (C40.out _ HE.out).mono ?_
    rintro e w1 ⟨rfl, hb⟩
    obtain ⟨⟨g1, g2⟩, r0, r1, r2, r3, r4, r5, r6⟩ := HP.out.ext hb
    have HE := Lib.hid (HE.out.trans hb)
    have HP := Lib.hid (HP.out.ext hb)
    clear hb
    go_wp2_with fail
    refine (works17 _).mono ?_
    rintro e w9 ⟨rfl, hb⟩
    have HE := Lib.hid (HE.out.trans hb); clear hb
    go_wp2
    go_ret
    exact ⟨rfl, HE.out⟩
  | true =>
    obtain ⟨hE, ht, hd⟩ := hf2 rfl
    obtain ⟨hs, hv⟩ := bothE_ok.1 hE
    obtain ⟨q1, q2, q3, q4, q5, q6, q7, q8, q9, q10, q11, q12, q13⟩ := hv
    obtain ⟨LO, hlo⟩ : ∃ x : Int, (if 1 < r.lo - (l0 : Int) % 9 then r.lo - (l0 : Int) % 9 else 1) = x := ⟨_, rfl⟩
    obtain ⟨HI, hhi⟩ : ∃ x : Int, (if r.hi + (m0 : Int) % 9 < 60 then r.hi + (m0 : Int) % 9 else 60) = x := ⟨_, rfl⟩
    obtain ⟨OF, hof⟩ : ∃ x : Int, (if r.off + (o : Int) % 5 < 20 then r.off + (o : Int) % 5 else 20) = x := ⟨_, rfl⟩
    obtain ⟨DV, hdv⟩ : ∃ x : Int, (if r.dv + (d : Int) % 50 < 100 then r.dv + (d : Int) % 50 else 100) = x := ⟨_, rfl⟩
    obtain ⟨TN, htn⟩ : ∃ x : Int, (if r.tn + (u : Int) % 9 < 60 then r.tn + (u : Int) % 9 else 60) = x := ⟨_, rfl⟩
    have f1 : 1 ≤ LO ∧ LO ≤ r.lo := by rw [← hlo]; split <;> omega
    have f2 : r.hi ≤ HI ∧ HI ≤ 60 := by rw [← hhi]; split <;> omega
    have f3 : r.off ≤ OF ∧ OF ≤ 20 := by rw [← hof]; split <;> omega
    have f4 : r.dv ≤ DV ∧ DV ≤ 100 := by rw [← hdv]; split <;> omega
    have f5 : r.tn ≤ TN ∧ TN ≤ 60 := by rw [← htn]; split <;> omega
    obtain ⟨w1, w2⟩ := wide_ok hE f1.1 f1.2 f2.1 f2.2
    obtain ⟨d1, d2⟩ := dear_ok hE f3.1 f4.1 f5.1 f3.2 f4.2 f5.2
    have w2 := w2 (th.length - 1)
    have d2 := d2 (th.length - 1)
    have C26 := Lib.hid (fun (W : World) (h : Ext w W) => best26 _ _ th bd r W (ht.ext h) (hd.ext h))
    have CW := Lib.hid (fun (W : World) (h : Ext w W) => best26 _ _ th bd { r with lo := LO, hi := HI } W (ht.ext h) (hd.ext h))
    have CD := Lib.hid (fun (W : World) (h : Ext w W) => best26 _ _ th bd { r with off := OF, dv := DV, tn := TN } W (ht.ext h) (hd.ext h))
    rw [if_pos hE, hE] at C26
    rw [if_pos w1, w1] at CW
    rw [if_pos d1, d1] at CD
    generalize bst (sF th bd r) allB (th.length - 1) 0 = b0 at *
    generalize bst (sF th bd { r with lo := LO, hi := HI }) allB (th.length - 1) 0 = bw at *
    generalize bst (sF th bd { r with off := OF, dv := DV, tn := TN }) allB (th.length - 1) 0 = b6 at *
    have w3 : decide (bw ≥ b0) = true := by simpa using w2
    have w4 : decide (b0 ≤ bw) = true := by simpa using w2
    have d3 : decide (b6 ≤ b0) = true := by simpa using d2
    clear hr hr' hf1 hf2 hn hn' ht hd hE hs f1 f2 f3 f4 f5 w1 w2 d1 d2
    obtain ⟨⟨g1, g2⟩, r0, r1, r2, r3, r4, r5, r6⟩ := P0.out
    have HE := E0
    have HP := P0
    go_enter Try.func11, Try.ntmps11
    go_wp2_with fail
    refine (C40.out _ HE.out).mono ?_
    rintro e w1 ⟨rfl, hb⟩
    obtain ⟨⟨g1, g2⟩, r0, r1, r2, r3, r4, r5, r6⟩ := HP.out.ext hb
    have HE := Lib.hid (HE.out.trans hb)
    have HP := Lib.hid (HP.out.ext hb)
    have l0c := cell_ext hb l0c
    have m0c := cell_ext hb m0c
    have hz1 := hb.size
    simp only [World.size_alloc] at hz1
    clear hb
    obtain ⟨-, s00, s01, s02, s03, s04, s05, s06⟩ := HP.out.ext (Ext.alloc (Ext.refl w1) (.cells #[.int .i64 0, .int .i64 0, .int .i64 0, .int .i64 0, .int .i64 0, .int .i64 0, .int .i64 0] 27))
    obtain ⟨-, s10, s11, s12, s13, s14, s15, s16⟩ := HP.out.ext (Ext.alloc (Ext.refl w1) (.cells #[.int .i64 r.lo, .int .i64 r.hi, .int .i64 r.st, .int .i64 r.tr, .int .i64 r.off, .int .i64 r.dv, .int .i64 r.tn] 27))
    obtain ⟨-, s20, s21, s22, s23, s24, s25, s26⟩ := HP.out.ext (Ext.alloc (Ext.alloc (Ext.refl w1) (.cells #[.int .i64 0, .int .i64 0, .int .i64 0, .int .i64 0, .int .i64 0, .int .i64 0, .int .i64 0] 27)) (.cells #[.int .i64 0, .int .i64 0, .int .i64 0, .int .i64 0, .int .i64 0, .int .i64 0, .int .i64 0] 27))
    obtain ⟨-, s30, s31, s32, s33, s34, s35, s36⟩ := HP.out.ext (Ext.alloc (Ext.alloc (Ext.refl w1) (.cells #[.int .i64 r.lo, .int .i64 r.hi, .int .i64 r.st, .int .i64 r.tr, .int .i64 r.off, .int .i64 r.dv, .int .i64 r.tn] 27)) (.cells #[.int .i64 0, .int .i64 0, .int .i64 0, .int .i64 0, .int .i64 0, .int .i64 0, .int .i64 0] 27))
    obtain ⟨-, s40, s41, s42, s43, s44, s45, s46⟩ := HP.out.ext (Ext.alloc (Ext.alloc (Ext.refl w1) (.cells #[.int .i64 0, .int .i64 0, .int .i64 0, .int .i64 0, .int .i64 0, .int .i64 0, .int .i64 0] 27)) (.cells #[.int .i64 r.lo, .int .i64 r.hi, .int .i64 r.st, .int .i64 r.tr, .int .i64 r.off, .int .i64 r.dv, .int .i64 r.tn] 27))
    have hLQ : ∀ X Y : Obj, SR ((w1.alloc X).alloc Y) w.heap.size (.slice a n cap) (.slice a' n' cap') r := fun X Y => HP.out.ext (Ext.alloc (Ext.alloc (Ext.refl w1) X) Y)
    have hL0 : ∀ X Y : Obj, ((w1.alloc X).alloc Y).cell? ⟨w.heap.size + 1 + 1, 0, none⟩ = some (.int .u8 (l0 : Int)) := fun X Y => cell_ext (Ext.alloc (Ext.alloc (Ext.refl w1) X) Y) l0c
    have hM0 : ∀ X Y : Obj, ((w1.alloc X).alloc Y).cell? ⟨w.heap.size + 1 + 1 + 1, 0, none⟩ = some (.int .u8 (m0 : Int)) := fun X Y => cell_ext (Ext.alloc (Ext.alloc (Ext.refl w1) X) Y) m0c
    have hG1 := fun X Y => (hLQ X Y).1.1
    have hG2 := fun X Y => (hLQ X Y).1.2
    have hR0 := fun X Y => (hLQ X Y).2.1
    have hR1 := fun X Y => (hLQ X Y).2.2.1
    have hR2 := fun X Y => (hLQ X Y).2.2.2.1
    have hR3 := fun X Y => (hLQ X Y).2.2.2.2.1
    have hR4 := fun X Y => (hLQ X Y).2.2.2.2.2.1
    have hR5 := fun X Y => (hLQ X Y).2.2.2.2.2.2.1
    have hR6 := fun X Y => (hLQ X Y).2.2.2.2.2.2.2
    have HLQ := Lib.hid hLQ
    clear hLQ
    go_wp2_with fail
    go_region
    · clear s00 s01 s02 s03 s04 s05 s06 s10 s11 s12 s13 s14 s15 s16 s20 s21 s22 s23 s24 s25 s26 s30 s31 s32 s33 s34 s35 s36 s40 s41 s42 s43 s44 s45 s46 r0 r1 r2 r3 r4 r5 r6 g1 g2 l0c m0c
      have hE2 : Ext w (((w1.alloc (.cells #[.int .i64 LO, .int .i64 HI, .int .i64 r.st, .int .i64 r.tr, .int .i64 r.off, .int .i64 r.dv, .int .i64 r.tn] 27)).alloc (.cells #[.int .i64 r.lo, .int .i64 r.hi, .int .i64 r.st, .int .i64 r.tr, .int .i64 OF, .int .i64 DV, .int .i64 TN] 27)).drew) := (HE.out.trans (Ext.alloc (Ext.alloc (Ext.refl w1) _) _)).drew
      have HS2 := Lib.hid ((HLQ.out (.cells #[.int .i64 LO, .int .i64 HI, .int .i64 r.st, .int .i64 r.tr, .int .i64 r.off, .int .i64 r.dv, .int .i64 r.tn] 27) (.cells #[.int .i64 r.lo, .int .i64 r.hi, .int .i64 r.st, .int .i64 r.tr, .int .i64 OF, .int .i64 DV, .int .i64 TN] 27)).ext (Ext.drew (Ext.refl _)))
      have HA2 := Lib.hid (((RuleAt.new w1 { r with lo := LO, hi := HI } 27).ext (Ext.alloc (Ext.refl _) (.cells #[.int .i64 r.lo, .int .i64 r.hi, .int .i64 r.st, .int .i64 r.tr, .int .i64 OF, .int .i64 DV, .int .i64 TN] 27))).ext (Ext.drew (Ext.refl _)))
      have hb2 := RuleAt.new (w1.alloc (.cells #[.int .i64 LO, .int .i64 HI, .int .i64 r.st, .int .i64 r.tr, .int .i64 r.off, .int .i64 r.dv, .int .i64 r.tn] 27)) { r with off := OF, dv := DV, tn := TN } 27
      rw [World.size_alloc] at hb2
      have HB2 := Lib.hid (hb2.ext (Ext.drew (Ext.refl _)))
      have HE := Lib.hid hE2
      clear hE2 hb2
      go_wp2_with fail
      refine (C26.out _ HE.out).mono ?_
      rintro e w3 ⟨rfl, hb⟩
      obtain ⟨⟨g1, g2⟩, -⟩ := HS2.out.ext hb
      obtain ⟨x0, x1, x2, x3, x4, x5, x6⟩ := HA2.out.ext hb
      obtain ⟨y0, y1, y2, y3, y4, y5, y6⟩ := HB2.out.ext hb
      have HE := Lib.hid (HE.out.trans hb)
      clear hb hG1 hG2 hR0 hR1 hR2 hR3 hR4 hR5 hR6 hL0 hM0 HS2 HA2 HB2 HLQ hlo hhi hof hdv htn
      go_wp2_with fail
      refine (CW.out _ HE.out).mono ?_
      rintro e w4 ⟨rfl, hb⟩
      replace g1 := cell_ext hb g1; replace g2 := cell_ext hb g2
      replace x0 := cell_ext hb x0; replace y0 := cell_ext hb y0; replace x1 := cell_ext hb x1; replace y1 := cell_ext hb y1; replace x2 := cell_ext hb x2; replace y2 := cell_ext hb y2; replace x3 := cell_ext hb x3; replace y3 := cell_ext hb y3; replace x4 := cell_ext hb x4; replace y4 := cell_ext hb y4; replace x5 := cell_ext hb x5; replace y5 := cell_ext hb y5; replace x6 := cell_ext hb x6; replace y6 := cell_ext hb y6
      have HE := Lib.hid (HE.out.trans hb)
      clear hb
      go_wp2_with fail
      refine (CD.out _ HE.out).mono ?_
      rintro e w5 ⟨rfl, hb⟩
      have HE := Lib.hid (HE.out.trans hb)
      clear hb g1 g2 x0 y0 x1 y1 x2 y2 x3 y3 x4 y4 x5 y5 x6 y6
      go_wp2_with fail
      refine (works17 _).mono ?_
      rintro e w9 ⟨rfl, hb⟩
      have HE := Lib.hid (HE.out.trans hb); clear hb
      go_wp2
      go_ret
      exact ⟨rfl, HE.out⟩
    · clear s00 s01 s02 s03 s04 s05 s06 s10 s11 s12 s13 s14 s15 s16 s20 s21 s22 s23 s24 s25 s26 s30 s31 s32 s33 s34 s35 s36 s40 s41 s42 s43 s44 s45 s46 r0 r1 r2 r3 r4 r5 r6 g1 g2 l0c m0c
      have hE2 : Ext w (((w1.alloc (.cells #[.int .i64 r.lo, .int .i64 r.hi, .int .i64 r.st, .int .i64 r.tr, .int .i64 OF, .int .i64 DV, .int .i64 TN] 27)).alloc (.cells #[.int .i64 LO, .int .i64 HI, .int .i64 r.st, .int .i64 r.tr, .int .i64 r.off, .int .i64 r.dv, .int .i64 r.tn] 27)).drew) := (HE.out.trans (Ext.alloc (Ext.alloc (Ext.refl w1) _) _)).drew
      have HS2 := Lib.hid ((HLQ.out (.cells #[.int .i64 r.lo, .int .i64 r.hi, .int .i64 r.st, .int .i64 r.tr, .int .i64 OF, .int .i64 DV, .int .i64 TN] 27) (.cells #[.int .i64 LO, .int .i64 HI, .int .i64 r.st, .int .i64 r.tr, .int .i64 r.off, .int .i64 r.dv, .int .i64 r.tn] 27)).ext (Ext.drew (Ext.refl _)))
      have HA2 := Lib.hid (((RuleAt.new w1 { r with off := OF, dv := DV, tn := TN } 27).ext (Ext.alloc (Ext.refl _) (.cells #[.int .i64 LO, .int .i64 HI, .int .i64 r.st, .int .i64 r.tr, .int .i64 r.off, .int .i64 r.dv, .int .i64 r.tn] 27))).ext (Ext.drew (Ext.refl _)))
      have hb2 := RuleAt.new (w1.alloc (.cells #[.int .i64 r.lo, .int .i64 r.hi, .int .i64 r.st, .int .i64 r.tr, .int .i64 OF, .int .i64 DV, .int .i64 TN] 27)) { r with lo := LO, hi := HI } 27
      rw [World.size_alloc] at hb2
      have HB2 := Lib.hid (hb2.ext (Ext.drew (Ext.refl _)))
      have HE := Lib.hid hE2
      clear hE2 hb2
      go_wp2_with fail
      refine (C26.out _ HE.out).mono ?_
      rintro e w3 ⟨rfl, hb⟩
      obtain ⟨⟨g1, g2⟩, -⟩ := HS2.out.ext hb
      obtain ⟨x0, x1, x2, x3, x4, x5, x6⟩ := HA2.out.ext hb
      obtain ⟨y0, y1, y2, y3, y4, y5, y6⟩ := HB2.out.ext hb
      have HE := Lib.hid (HE.out.trans hb)
      clear hb hG1 hG2 hR0 hR1 hR2 hR3 hR4 hR5 hR6 hL0 hM0 HS2 HA2 HB2 HLQ hlo hhi hof hdv htn
      go_wp2_with fail
      refine (CW.out _ HE.out).mono ?_
      rintro e w4 ⟨rfl, hb⟩
      replace g1 := cell_ext hb g1; replace g2 := cell_ext hb g2
      replace x0 := cell_ext hb x0; replace y0 := cell_ext hb y0; replace x1 := cell_ext hb x1; replace y1 := cell_ext hb y1; replace x2 := cell_ext hb x2; replace y2 := cell_ext hb y2; replace x3 := cell_ext hb x3; replace y3 := cell_ext hb y3; replace x4 := cell_ext hb x4; replace y4 := cell_ext hb y4; replace x5 := cell_ext hb x5; replace y5 := cell_ext hb y5; replace x6 := cell_ext hb x6; replace y6 := cell_ext hb y6
      have HE := Lib.hid (HE.out.trans hb)
      clear hb
      go_wp2_with fail
      refine (CD.out _ HE.out).mono ?_
      rintro e w5 ⟨rfl, hb⟩
      have HE := Lib.hid (HE.out.trans hb)
      clear hb g1 g2 x0 y0 x1 y1 x2 y2 x3 y3 x4 y4 x5 y5 x6 y6
      go_wp2_with fail
      refine (works17 _).mono ?_
      rintro e w9 ⟨rfl, hb⟩
      have HE := Lib.hid (HE.out.trans hb); clear hb
      go_wp2
      go_ret
      exact ⟨rfl, HE.out⟩
end Go.Proofs.Ytcgheakadfjofaa
