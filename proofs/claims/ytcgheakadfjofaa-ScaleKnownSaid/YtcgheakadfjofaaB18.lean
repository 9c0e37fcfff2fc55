/- Best, Feet, by their contracts. -/
import Derived.Test.YtcgheakadfjofaaB17
namespace Go.Proofs.Ytcgheakadfjofaa
open Go.RowKit Go.Shelf
set_option linter.unusedVariables false
set_option linter.unusedSimpArgs false
theorem placedE_nil (th bd : List Int) (r : Rl) : placedE th bd r [] = bothE th bd r := by
  unfold placedE; simp [inn]; intro h; exact h.symm
theorem bestP_get {th bd : List Int} {r : Rl} {j : Nat} (hj : j < 61) : (bestP th bd r).getD j 0 = bst (sF th bd r) allB (th.length - 1) j := psK_get _ (Nat.zero_le _) hj
set_option maxRecDepth 100000 in
set_option maxHeartbeats 4000000 in
theorem best26 (vt vb : Value) (th bd : List Int) (r : Rl) (w : World) (ht : Reads w vt th) (hd : Reads w vb bd) :
    Calls Try.prog 26 #[.agg #[vt, vb], r.val] w fun e w' => e = .returned (.tuple #[.int .i64 (if bothE th bd r = 0 then bst (sF th bd r) allB (th.length - 1) 0 else 0), .int .i64 (bothE th bd r)]) ∧ Ext w w' := by
  obtain ⟨hl, a, cap, rfl⟩ := ht.shape
  obtain ⟨hl', a', cap', rfl⟩ := hd.shape
  obtain ⟨n, hn⟩ : ∃ n, n = th.length := ⟨_, rfl⟩
  obtain ⟨n', hn'⟩ : ∃ n', n' = bd.length := ⟨_, rfl⟩
  rw [← hn] at ht hl ⊢
  rw [← hn'] at hd ⊢
  have E0 := Lib.hid (Ext.alloc (Ext.alloc (Ext.refl w) (.cells #[.slice a n cap, .slice a' n' cap'] 25)) (.cells #[.int .i64 r.lo, .int .i64 r.hi, .int .i64 r.st, .int .i64 r.tr, .int .i64 r.off, .int .i64 r.dv, .int .i64 r.tn] 27))
  have P0 := Lib.hid ((StemAt.new w (.slice a n cap) (.slice a' n' cap') 25).ext (Ext.alloc (Ext.refl _) (.cells #[.int .i64 r.lo, .int .i64 r.hi, .int .i64 r.st, .int .i64 r.tr, .int .i64 r.off, .int .i64 r.dv, .int .i64 r.tn] 27)))
  have R0 := RuleAt.new (w.alloc (.cells #[.slice a n cap, .slice a' n' cap'] 25)) r 27
  rw [World.size_alloc] at R0
  have R0 := Lib.hid R0
  have h62 := fun (W : World) (h : Ext w W) => openP62 _ _ _ th bd [] r W (ht.ext h) (hd.ext h) (Reads.nil W)
  rw [placedE_nil] at h62
  have hpr : bst (sF th bd r) allB (n - 1) 0 = (bestP th bd r).getD 0 0 := by rw [bestP_get (by omega), hn]
  rw [hpr]
  generalize bothE th bd r = BE at *
  generalize bestP th bd r = bp at *
  obtain ⟨rv, hrv⟩ : ∃ rv, rv = if BE = 0 then bp.getD 0 0 else 0 := ⟨_, rfl⟩
  rw [← hrv]
  have HRV := Lib.hid hrv
  clear hrv
  have H62 := Lib.hid h62
  clear h62 hpr hn hn' ht hd
  go_enter Try.func26, Try.ntmps26
  have ⟨g1, g2⟩ := P0.out
  have ⟨r0, r1, r2, r3, r4, r5, r6⟩ := R0.out
  go_wp2_with fail
  refine (H62.out _ E0.out).mono ?_
  rintro e w1 ⟨⟨hbe, rfl⟩ | ⟨rfl, b, rfl, hyo⟩, hb⟩
  · have hbn : (BE != 0) = true := by simpa using hbe
    have E1 := Lib.hid (E0.out.trans hb)
    have HBE := Lib.hid hbe
    clear g1 g2 r0 r1 r2 r3 r4 r5 r6 hb hbe
    go_wp2
    go_ret2
    exact ⟨by rw [HRV.out, if_neg HBE.out]; rfl, E1.out⟩
  · have E1 := Lib.hid (E0.out.trans hb)
    have c9 := hyo.at_.price (show 0 < 61 by omega)
    rw [show 9 + 0 = 9 from rfl] at c9
    generalize bp.getD 0 0 = bv at *
    clear g1 g2 r0 r1 r2 r3 r4 r5 r6 hb hyo
    go_wp2
    go_ret2
    exact ⟨by rw [HRV.out]; rfl, E1.out⟩
/-- Feet's two results. -/
def feetE (th bd : List Int) (r : Rl) (i j : Int) : Int × Int := if bothE th bd r ≠ 0 then (0, bothE th bd r) else if lieB th i j = false then (0, 2) else if scl th bd r i j = 0 then (0, 18) else (scl th bd r i j, 0)
set_option maxRecDepth 100000 in
set_option maxHeartbeats 4000000 in
theorem feet18 (vt vb : Value) (th bd : List Int) (r : Rl) (i j : Int) (w : World) (ht : Reads w vt th) (hd : Reads w vb bd) :
    Calls Try.prog 18 #[.agg #[vt, vb], r.val, .agg #[.int .i64 i, .int .i64 j]] w fun e w' => e = .returned (.tuple #[.int .i64 (feetE th bd r i j).1, .int .i64 (feetE th bd r i j).2]) ∧ Ext w w' := by
  obtain ⟨hl, a, cap, rfl⟩ := ht.shape
  obtain ⟨hl', a', cap', rfl⟩ := hd.shape
  obtain ⟨n, hn⟩ : ∃ n, n = th.length := ⟨_, rfl⟩
  obtain ⟨n', hn'⟩ : ∃ n', n' = bd.length := ⟨_, rfl⟩
  rw [← hn] at ht hl ⊢
  rw [← hn'] at hd ⊢
  have E0 := Lib.hid (Ext.alloc (Ext.alloc (Ext.refl w) (.cells #[.slice a n cap, .slice a' n' cap'] 25)) (.cells #[.int .i64 r.lo, .int .i64 r.hi, .int .i64 r.st, .int .i64 r.tr, .int .i64 r.off, .int .i64 r.dv, .int .i64 r.tn] 27))
  have P0 := Lib.hid ((StemAt.new w (.slice a n cap) (.slice a' n' cap') 25).ext (Ext.alloc (Ext.refl _) (.cells #[.int .i64 r.lo, .int .i64 r.hi, .int .i64 r.st, .int .i64 r.tr, .int .i64 r.off, .int .i64 r.dv, .int .i64 r.tn] 27)))
  have R0 := RuleAt.new (w.alloc (.cells #[.slice a n cap, .slice a' n' cap'] 25)) r 27
  rw [World.size_alloc] at R0
  have R0 := Lib.hid R0
  have E1 := Lib.hid (Ext.alloc E0.out (.cells #[.int .i64 i, .int .i64 j] 29))
  have P1 := Lib.hid (P0.out.ext (Ext.alloc (Ext.refl _) (.cells #[.int .i64 i, .int .i64 j] 29)))
  have R1 := Lib.hid (R0.out.ext (Ext.alloc (Ext.refl _) (.cells #[.int .i64 i, .int .i64 j] 29)))
  have l0 : (((w.alloc (.cells #[.slice a n cap, .slice a' n' cap'] 25)).alloc (.cells #[.int .i64 r.lo, .int .i64 r.hi, .int .i64 r.st, .int .i64 r.tr, .int .i64 r.off, .int .i64 r.dv, .int .i64 r.tn] 27)).alloc (.cells #[.int .i64 i, .int .i64 j] 29)).cell? ⟨w.heap.size + 1 + 1, 0, none⟩ = some (.int .i64 i) := World.cell?_alloc_at _ _ _ _ (by simp)
  have l1 : (((w.alloc (.cells #[.slice a n cap, .slice a' n' cap'] 25)).alloc (.cells #[.int .i64 r.lo, .int .i64 r.hi, .int .i64 r.st, .int .i64 r.tr, .int .i64 r.off, .int .i64 r.dv, .int .i64 r.tn] 27)).alloc (.cells #[.int .i64 i, .int .i64 j] 29)).cell? ⟨w.heap.size + 1 + 1, 1, none⟩ = some (.int .i64 j) := World.cell?_alloc_at _ _ _ _ (by simp)
  have L0 := Lib.hid l0; have L1 := Lib.hid l1
  have h50 := fun (W : World) (h : Ext w W) => open50 _ _ th bd r W (ht.ext h) (hd.ext h)
  have hok : bothE th bd r = 0 → Vw th bd r := fun h => by
    obtain ⟨h1, h2⟩ := bothE_ok.1 h
    exact h1.weak h2
  have hE := show feetE th bd r i j = if bothE th bd r ≠ 0 then (0, bothE th bd r) else if lieB th i j = false then (0, 2) else if scl th bd r i j = 0 then (0, 18) else (scl th bd r i j, 0) from rfl
  generalize feetE th bd r i j = fe at *
  generalize bothE th bd r = BE at *
  have H50 := Lib.hid h50; have HOK := Lib.hid hok; have HN := Lib.hid hn
  clear h50 hok ht hd hn hn' l0 l1
  go_enter Try.func18, Try.ntmps18
  have ⟨g1, g2⟩ := P1.out
  have ⟨r0, r1, r2, r3, r4, r5, r6⟩ := R1.out
  have HE := Lib.hid hE
  clear hE
  go_wp2_with fail
  refine (H50.out _ E1.out).mono ?_
  rintro e w1 ⟨⟨hbe, rfl⟩ | ⟨rfl, b, rfl, hb1, hyo⟩, hb⟩
  · have hbn : (BE != 0) = true := by simpa using hbe
    have E2 := Lib.hid (E1.out.trans hb)
    have HBE := Lib.hid hbe
    clear g1 g2 r0 r1 r2 r3 r4 r5 r6 hb hbe
    go_wp2
    go_ret2
    exact ⟨by rw [HE.out, if_pos HBE.out]; rfl, E2.out⟩
  · have E2 := Lib.hid (E1.out.trans hb)
    have m0 := cell_ext hb L0.out
    have m1 := cell_ext hb L1.out
    have hv := HOK.out rfl
    have h51 := fun (W : World) (h : Ext w1 W) => lies51 b _ _ th bd r zeros i j W (hyo.ext h)
    have h52 : ∀ (W : World), Ext w1 W → lieB th i j = true → Calls Try.prog 52 #[.pointer (some ⟨b, 0, none⟩), .agg #[.int .i64 i, .int .i64 j]] W fun e w' => e = .returned (.int .i64 (sF th bd r i.toNat j.toNat)) ∧ Ext W w' := fun W h hli => by
      have h1 : 0 ≤ i ∧ i < j ∧ j ≤ (th.length : Int) - 1 := by simp [lieB, inn] at hli; omega
      obtain ⟨i', rfl⟩ := Int.eq_ofNat_of_zero_le h1.1
      obtain ⟨j', rfl⟩ := Int.eq_ofNat_of_zero_le (show 0 ≤ j by omega)
      exact feet52 b _ _ th bd r zeros i' j' W (hyo.ext h) hv (by omega) (by omega)
    have H51 := Lib.hid h51
    clear g1 g2 r0 r1 r2 r3 r4 r5 r6 hb hb1 h51
    cases hli : lieB th i j
    · rw [hli] at H51
      have HLI := Lib.hid hli
      clear h52 hli
      go_wp2_with fail
      refine (H51.out _ (Ext.refl _)).mono ?_
      rintro e w2 ⟨rfl, hb⟩
      have E3 := Lib.hid (E2.out.trans hb)
      clear hb
      go_wp2
      go_ret2
      exact ⟨by rw [HE.out, if_neg (by simp), if_pos HLI.out]; rfl, E3.out⟩
    · rw [hli] at H51
      have h52' := fun (W : World) (h : Ext w1 W) => h52 W h hli
      have hs : scl th bd r i j = sF th bd r i.toNat j.toNat := by
        have h1 : 0 ≤ i ∧ i < j ∧ j ≤ (th.length : Int) - 1 := by simp [lieB, inn] at hli; omega
        unfold sF; rw [Int.toNat_of_nonneg h1.1, Int.toNat_of_nonneg (by omega)]
      clear h52
      have h52 : ∀ (W : World), Ext w1 W → Calls Try.prog 52 #[.pointer (some ⟨b, 0, none⟩), .agg #[.int .i64 i, .int .i64 j]] W fun e w' => e = .returned (.int .i64 (scl th bd r i j)) ∧ Ext W w' := fun W h => by rw [hs]; exact h52' W h
      have H52 := Lib.hid h52
      have HE2 := Lib.hid (show fe = if scl th bd r i j = 0 then (0, 18) else (scl th bd r i j, 0) from by rw [HE.out, if_neg (by simp), if_neg (by rw [hli]; simp)])
      clear h52 h52' hs hli hv HE
      generalize scl th bd r i j = sc at *
      go_wp2_with fail
      refine (H51.out _ (Ext.refl _)).mono ?_
      rintro e w2 ⟨rfl, hb⟩
      have E3 := Lib.hid (E2.out.trans hb)
      have HB := Lib.hid hb
      have m0' := cell_ext hb m0
      have m1' := cell_ext hb m1
      clear hb m0 m1
      go_wp2_with fail
      refine (H52.out _ HB.out).mono ?_
      rintro e w3 ⟨rfl, hb⟩
      have E4 := Lib.hid (E3.out.trans hb)
      clear hb m0' m1'
      by_cases hz : sc = 0
      · have hzb : (sc == 0) = true := by simpa using hz
        have HZ := Lib.hid hz
        clear hz
        go_wp2
        go_ret2
        exact ⟨by rw [HE2.out, if_pos HZ.out]; rfl, E4.out⟩
      · have hzb : (sc == 0) = false := by simpa using hz
        have HZ := Lib.hid hz
        clear hz
        go_wp2
        go_ret2
        exact ⟨by rw [HE2.out, if_neg HZ.out]; rfl, E4.out⟩
end Go.Proofs.Ytcgheakadfjofaa
