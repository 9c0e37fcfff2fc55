/- openPriced, by its contract. Best, Feet, by their contracts. isBest, by its contract. -/
import Derived.Test.YtcgheakadfjofaaB16
namespace Go.Proofs.Ytcgheakadfjofaa
open Go.RowKit Go.Shelf
set_option linter.unusedVariables false
set_option linter.unusedSimpArgs false
/-- The error of a stem, a rule, and places. -/
def placedE (th bd : List Int) (r : Rl) (pls : List Int) : Int := if bothE th bd r = 0 then (if inn 0 ((th.length : Int) - 1) pls = true then 0 else 2) else bothE th bd r
/-- The least right prices. -/
def bestP (th bd : List Int) (r : Rl) : List Int := psK (bst (sF th bd r) allB (th.length - 1)) 0
def OpenedP (w : World) (vt vb : Value) (th bd : List Int) (r : Rl) (ps : List Int) (E : Int) (e : Ending) (w' : World) : Prop :=
  (E ≠ 0 ∧ e = .returned (.tuple #[.pointer none, .int .i64 E]) ∨ E = 0 ∧ ∃ b, e = .returned (.tuple #[.pointer (some ⟨b, 0, none⟩), .int .i64 0]) ∧ YardOwn w w' b vt vb th bd r ps) ∧ Ext w w'
set_option maxRecDepth 100000 in
set_option maxHeartbeats 4000000 in
theorem openP62 (vt vb v3 : Value) (th bd pls : List Int) (r : Rl) (w : World) (ht : Reads w vt th) (hd : Reads w vb bd) (h3 : Reads w v3 pls) :
    Calls Try.prog 62 #[.agg #[vt, vb], r.val, v3] w (OpenedP w vt vb th bd r (bestP th bd r) (placedE th bd r pls)) := by
  obtain ⟨hl, a, cap, rfl⟩ := ht.shape
  obtain ⟨hl', a', cap', rfl⟩ := hd.shape
  obtain ⟨n, hn⟩ : ∃ n, n = th.length := ⟨_, rfl⟩
  obtain ⟨n', hn'⟩ : ∃ n', n' = bd.length := ⟨_, rfl⟩
  rw [← hn] at ht hl ⊢
  rw [← hn'] at hd ⊢
  have E0 := Lib.hid (Ext.alloc (Ext.alloc (Ext.refl w) (.cells #[.slice a n cap, .slice a' n' cap'] 25)) (.cells #[.int .i64 r.lo, .int .i64 r.hi, .int .i64 r.st, .int .i64 r.tr, .int .i64 r.off, .int .i64 r.dv, .int .i64 r.tn] 27))
  have P0 := Lib.hid ((StemAt.new w (.slice a n cap) (.slice a' n' cap') 25).ext (Ext.alloc (Ext.refl _) (.cells #[.int .i64 r.lo, .int .i64 r.hi, .int .i64 r.st, .int .i64 r.tr, .int .i64 r.off, .int .i64 r.dv, .int .i64 r.tn] 27)))
  have R0 := RuleAt.new (w.alloc (.cells #[.slice a n cap, .slice a' n' cap'] 25)) r 27
  rw [World.size_alloc] at R0
  have R0 := Lib.hid R0
  have hplE : bothE th bd r = 0 → placedE th bd r pls = if inn 0 ((n : Int) - 1) pls = true then 0 else 2 := fun h => by unfold placedE; rw [if_pos h, hn]
  have hplE2 : bothE th bd r ≠ 0 → placedE th bd r pls = bothE th bd r := fun h => by unfold placedE; rw [if_neg h]
  have h50 := fun (W : World) (h : Ext w W) => open50 _ _ th bd r W (ht.ext h) (hd.ext h)
  have h55 := fun (W : World) (h : Ext w W) => within55 0 ((n : Int) - 1) v3 pls W (h3.ext h)
  have hok : bothE th bd r = 0 → Vw th bd r ∧ ∃ m, th.length = m + 1 := fun h => by
    obtain ⟨h1, h2⟩ := bothE_ok.1 h
    exact ⟨h1.weak h2, th.length - 1, by have := h1.two; omega⟩
  have hw1 : IntKind.i64.wrap ((n : Int) - 1) = (n : Int) - 1 := wrapi64 _ (by omega) (by omega)
  obtain ⟨BE, hBE⟩ : ∃ BE, BE = bothE th bd r := ⟨_, rfl⟩
  rw [← hBE] at hplE hplE2 h50 hok
  have HT := Lib.hid ht; have HD := Lib.hid hd; have HN := Lib.hid hn; have H50 := Lib.hid h50; have HOK := Lib.hid hok; have HPE := Lib.hid hplE; have HPE2 := Lib.hid hplE2
  clear ht hd h3 hn hn' h50 hok hplE hplE2 hBE
  by_cases hbe : BE = 0
  · subst hbe
    rw [HPE.out rfl]
    obtain ⟨hv, m, hm⟩ := HOK.out rfl
    have HV := Lib.hid hv; have HM := Lib.hid hm
    clear hv hm
    cases hin : inn 0 ((n : Int) - 1) pls
    all_goals
      rw [hin] at h55
      have H55 := Lib.hid h55
      clear h55 hin
      go_enter Try.func62, Try.ntmps62
      have ⟨g1, g2⟩ := P0.out
      have ⟨r0, r1, r2, r3, r4, r5, r6⟩ := R0.out
      go_wp2_with fail
      refine (H50.out _ E0.out).mono ?_
      rintro e w1 ⟨h0 | ⟨-, b, rfl, hb1, hyd⟩, hb⟩
      · exact absurd rfl h0.1
      have hyo : YardOwn w w1 b (.slice a n cap) (.slice a' n' cap') th bd r zeros := ⟨hyd, HT.out, HD.out, Nat.le_trans E0.out.size hb1, E0.out.trans hb⟩
      have E1 := Lib.hid (E0.out.trans hb)
      clear g1 g2 r0 r1 r2 r3 r4 r5 r6 hb hb1
      obtain ⟨c0, -⟩ := hyd.cells
      have HYO := Lib.hid hyo
      clear hyo hyd
      go_wp2_with fail
      refine (H55.out _ E1.out).mono ?_
      rintro e w2 ⟨rfl, rfl⟩
    · go_wp2
      go_ret2
      exact ⟨.inl ⟨by simp, rfl⟩, E1.out⟩
    · go_wp2_with fail
      refine (price_any _ m b _ _ th bd r zeros HV.out rfl HM.out w w1 HYO.out).mono ?_
      rintro e w3 ⟨rfl, hy3, hg3⟩
      have HY3 := Lib.hid hy3
      clear hy3 hg3
      go_wp2
      go_ret2
      refine ⟨.inr ⟨rfl, b, rfl, ?_⟩, HY3.out.ext0⟩
      unfold bestP
      rw [show th.length - 1 = m from by have := HM.out; omega]
      exact HY3.out
  · rw [HPE2.out hbe]
    have hbn : (BE != 0) = true := by simpa using hbe
    have HBE := Lib.hid hbe
    clear hbe
    go_enter Try.func62, Try.ntmps62
    have ⟨g1, g2⟩ := P0.out
    have ⟨r0, r1, r2, r3, r4, r5, r6⟩ := R0.out
    go_wp2_with fail
    refine (H50.out _ E0.out).mono ?_
    rintro e w1 ⟨⟨-, rfl⟩ | ⟨h0, -⟩, hb⟩
    · have E1 := Lib.hid (E0.out.trans hb)
      clear g1 g2 r0 r1 r2 r3 r4 r5 r6 hb
      go_wp2
      go_ret2
      exact ⟨.inl ⟨HBE.out, rfl⟩, E1.out⟩
    · exact absurd h0 HBE.out
end Go.Proofs.Ytcgheakadfjofaa
namespace Go.Proofs.Ytcgheakadfjofaa
open Go.RowKit Go.Shelf
set_option linter.unusedVariables false
set_option linter.unusedSimpArgs false
theorem placedE_nil (th bd : List Int) (r : Rl) : placedE th bd r [] = bothE th bd r := by
  unfold placedE; simp [inn]; intro h; exact h.symm
theorem bestP_get {th bd : List Int} {r : Rl} {j : Nat} (hj : j < 61) : (bestP th bd r).getD j 0 = bst (sF th bd r) allB (th.length - 1) j := psK_get _ (Nat.zero_le _) hj
set_option maxRecDepth 100000 in
set_option maxHeartbeats 4000000 in
theorem best26 (vt vb : Value) (th bd : List Int) (r : Rl) (w : World) (ht : Reads w vt th) (hd : Reads w vb bd) :
    Calls Try.prog 26 #[.agg #[vt, vb], r.val] w fun e w' => e = .returned (.tuple #[.int .i64 (if bothE th bd r = 0 then bst (sF th bd r) allB (th.length - 1) 0 else 0), .int .i64 (bothE th bd r)]) ∧ Ext w w' := by
  obtain ⟨hl, a, cap, rfl⟩ := ht.shape
  obtain ⟨hl', a', cap', rfl⟩ := hd.shape
  obtain ⟨n, hn⟩ : ∃ n, n = th.length := ⟨_, rfl⟩
  obtain ⟨n', hn'⟩ : ∃ n', n' = bd.length := ⟨_, rfl⟩
  rw [← hn] at ht hl ⊢
  rw [← hn'] at hd ⊢
  have E0 := Lib.hid (Ext.alloc (Ext.alloc (Ext.refl w) (.cells #[.slice a n cap, .slice a' n' cap'] 25)) (.cells #[.int .i64 r.lo, .int .i64 r.hi, .int .i64 r.st, .int .i64 r.tr, .int .i64 r.off, .int .i64 r.dv, .int .i64 r.tn] 27))
  have P0 := Lib.hid ((StemAt.new w (.slice a n cap) (.slice a' n' cap') 25).ext (Ext.alloc (Ext.refl _) (.cells #[.int .i64 r.lo, .int .i64 r.hi, .int .i64 r.st, .int .i64 r.tr, .int .i64 r.off, .int .i64 r.dv, .int .i64 r.tn] 27)))
  have R0 := RuleAt.new (w.alloc (.cells #[.slice a n cap, .slice a' n' cap'] 25)) r 27
  rw [World.size_alloc] at R0
  have R0 := Lib.hid R0
  have h62 := fun (W : World) (h : Ext w W) => openP62 _ _ _ th bd [] r W (ht.ext h) (hd.ext h) (Reads.nil W)
  rw [placedE_nil] at h62
  have hpr : bst (sF th bd r) allB (n - 1) 0 = (bestP th bd r).getD 0 0 := by rw [bestP_get (by omega), hn]
  rw [hpr]
  generalize bothE th bd r = BE at *
  generalize bestP th bd r = bp at *
  obtain ⟨rv, hrv⟩ : ∃ rv, rv = if BE = 0 then bp.getD 0 0 else 0 := ⟨_, rfl⟩
  rw [← hrv]
  have HRV := Lib.hid hrv
  clear hrv
  have H62 := Lib.hid h62
  clear h62 hpr hn hn' ht hd
  go_enter Try.func26, Try.ntmps26
  have ⟨g1, g2⟩ := P0.out
  have ⟨r0, r1, r2, r3, r4, r5, r6⟩ := R0.out
  go_wp2_with fail
  refine (H62.out _ E0.out).mono ?_
  rintro e w1 ⟨⟨hbe, rfl⟩ | ⟨rfl, b, rfl, hyo⟩, hb⟩
  · have hbn : (BE != 0) = true := by simpa using hbe
    have E1 := Lib.hid (E0.out.trans hb)
    have HBE := Lib.hid hbe
    clear g1 g2 r0 r1 r2 r3 r4 r5 r6 hb hbe
    go_wp2
    go_ret2
    exact ⟨by rw [HRV.out, if_neg HBE.out]; rfl, E1.out⟩
  · have E1 := Lib.hid (E0.out.trans hb)
    have c9 := hyo.at_.price (show 0 < 61 by omega)
    rw [show 9 + 0 = 9 from rfl] at c9
    generalize bp.getD 0 0 = bv at *
    clear g1 g2 r0 r1 r2 r3 r4 r5 r6 hb hyo
    go_wp2
    go_ret2
    exact ⟨by rw [HRV.out]; rfl, E1.out⟩
/-- Feet's two results. -/
def feetE (th bd : List Int) (r : Rl) (i j : Int) : Int × Int := if bothE th bd r ≠ 0 then (0, bothE th bd r) else if lieB th i j = false then (0, 2) else if scl th bd r i j = 0 then (0, 18) else (scl th bd r i j, 0)
set_option maxRecDepth 100000 in
set_option maxHeartbeats 4000000 in
theorem feet18 (vt vb : Value) (th bd : List Int) (r : Rl) (i j : Int) (w : World) (ht : Reads w vt th) (hd : Reads w vb bd) :
    Calls Try.prog 18 #[.agg #[vt, vb], r.val, .agg #[.int .i64 i, .int .i64 j]] w fun e w' => e = .returned (.tuple #[.int .i64 (feetE th bd r i j).1, .int .i64 (feetE th bd r i j).2]) ∧ Ext w w' := by
  obtain ⟨hl, a, cap, rfl⟩ := ht.shape
  obtain ⟨hl', a', cap', rfl⟩ := hd.shape
  obtain ⟨n, hn⟩ : ∃ n, n = th.length := ⟨_, rfl⟩
  obtain ⟨n', hn'⟩ : ∃ n', n' = bd.length := ⟨_, rfl⟩
  rw [← hn] at ht hl ⊢
  rw [← hn'] at hd ⊢
  have E0 := Lib.hid (Ext.alloc (Ext.alloc (Ext.refl w) (.cells #[.slice a n cap, .slice a' n' cap'] 25)) (.cells #[.int .i64 r.lo, .int .i64 r.hi, .int .i64 r.st, .int .i64 r.tr, .int .i64 r.off, .int .i64 r.dv, .int .i64 r.tn] 27))
  have P0 := Lib.hid ((StemAt.new w (.slice a n cap) (.slice a' n' cap') 25).ext (Ext.alloc (Ext.refl _) (.cells #[.int .i64 r.lo, .int .i64 r.hi, .int .i64 r.st, .int .i64 r.tr, .int .i64 r.off, .int .i64 r.dv, .int .i64 r.tn] 27)))
  have R0 := RuleAt.new (w.alloc (.cells #[.slice a n cap, .slice a' n' cap'] 25)) r 27
  rw [World.size_alloc] at R0
  have R0 := Lib.hid R0
  have E1 := Lib.hid (Ext.alloc E0.out (.cells #[.int .i64 i, .int .i64 j] 29))
  have P1 := Lib.hid (P0.out.ext (Ext.alloc (Ext.refl _) (.cells #[.int .i64 i, .int .i64 j] 29)))
  have R1 := Lib.hid (R0.out.ext (Ext.alloc (Ext.refl _) (.cells #[.int .i64 i, .int .i64 j] 29)))
  have l0 : (((w.alloc (.cells #[.slice a n cap, .slice a' n' cap'] 25)).alloc (.cells #[.int .i64 r.lo, .int .i64 r.hi, .int .i64 r.st, .int .i64 r.tr, .int .i64 r.off, .int .i64 r.dv, .int .i64 r.tn] 27)).alloc (.cells #[.int .i64 i, .int .i64 j] 29)).cell? ⟨w.heap.size + 1 + 1, 0, none⟩ = some (.int .i64 i) := World.cell?_alloc_at _ _ _ _ (by simp)
  have l1 : (((w.alloc (.cells #[.slice a n cap, .slice a' n' cap'] 25)).alloc (.cells #[.int .i64 r.lo, .int .i64 r.hi, .int .i64 r.st, .int .i64 r.tr, .int .i64 r.off, .int .i64 r.dv, .int .i64 r.tn] 27)).alloc (.cells #[.int .i64 i, .int .i64 j] 29)).cell? ⟨w.heap.size + 1 + 1, 1, none⟩ = some (.int .i64 j) := World.cell?_alloc_at _ _ _ _ (by simp)
  have L0 := Lib.hid l0; have L1 := Lib.hid l1
  have h50 := fun (W : World) (h : Ext w W) => open50 _ _ th bd r W (ht.ext h) (hd.ext h)
  have hok : bothE th bd r = 0 → Vw th bd r := fun h => by
    obtain ⟨h1, h2⟩ := bothE_ok.1 h
    exact h1.weak h2
  have hE := show feetE th bd r i j = if bothE th bd r ≠ 0 then (0, bothE th bd r) else if lieB th i j = false then (0, 2) else if scl th bd r i j = 0 then (0, 18) else (scl th bd r i j, 0) from rfl
  generalize feetE th bd r i j = fe at *
  generalize bothE th bd r = BE at *
  have H50 := Lib.hid h50; have HOK := Lib.hid hok; have HN := Lib.hid hn
  clear h50 hok ht hd hn hn' l0 l1
  go_enter Try.func18, Try.ntmps18
  have ⟨g1, g2⟩ := P1.out
  have ⟨r0, r1, r2, r3, r4, r5, r6⟩ := R1.out
  have HE := Lib.hid hE
  clear hE
  go_wp2_with fail
  refine (H50.out _ E1.out).mono ?_
  rintro e w1 ⟨⟨hbe, rfl⟩ | ⟨rfl, b, rfl, hb1, hyo⟩, hb⟩
  · have hbn : (BE != 0) = true := by simpa using hbe
    have E2 := Lib.hid (E1.out.trans hb)
    have HBE := Lib.hid hbe
    clear g1 g2 r0 r1 r2 r3 r4 r5 r6 hb hbe
    go_wp2
    go_ret2
    exact ⟨by rw [HE.out, if_pos HBE.out]; rfl, E2.out⟩
  · have E2 := Lib.hid (E1.out.trans hb)
    have m0 := cell_ext hb L0.out
    have m1 := cell_ext hb L1.out
    have hv := HOK.out rfl
    have h51 := fun (W : World) (h : Ext w1 W) => lies51 b _ _ th bd r zeros i j W (hyo.ext h)
    have h52 : ∀ (W : World), Ext w1 W → lieB th i j = true → Calls Try.prog 52 #[.pointer (some ⟨b, 0, none⟩), .agg #[.int .i64 i, .int .i64 j]] W fun e w' => e = .returned (.int .i64 (sF th bd r i.toNat j.toNat)) ∧ Ext W w' := fun W h hli => by
      have h1 : 0 ≤ i ∧ i < j ∧ j ≤ (th.length : Int) - 1 := by simp [lieB, inn] at hli; omega
      obtain ⟨i', rfl⟩ := Int.eq_ofNat_of_zero_le h1.1
      obtain ⟨j', rfl⟩ := Int.eq_ofNat_of_zero_le (show 0 ≤ j by omega)
      exact feet52 b _ _ th bd r zeros i' j' W (hyo.ext h) hv (by omega) (by omega)
    have H51 := Lib.hid h51
    clear g1 g2 r0 r1 r2 r3 r4 r5 r6 hb hb1 h51
    cases hli : lieB th i j
    · rw [hli] at H51
      have HLI := Lib.hid hli
      clear h52 hli
      go_wp2_with fail
      refine (H51.out _ (Ext.refl _)).mono ?_
      rintro e w2 ⟨rfl, hb⟩
      have E3 := Lib.hid (E2.out.trans hb)
      clear hb
      go_wp2
      go_ret2
      exact ⟨by rw [HE.out, if_neg (by simp), if_pos HLI.out]; rfl, E3.out⟩
    · rw [hli] at H51
      have h52' := fun (W : World) (h : Ext w1 W) => h52 W h hli
      have hs : scl th bd r i j = sF th bd r i.toNat j.toNat := by
        have h1 : 0 ≤ i ∧ i < j ∧ j ≤ (th.length : Int) - 1 := by simp [lieB, inn] at hli; omega
        unfold sF; rw [Int.toNat_of_nonneg h1.1, Int.toNat_of_nonneg (by omega)]
      clear h52
      have h52 : ∀ (W : World), Ext w1 W → Calls Try.prog 52 #[.pointer (some ⟨b, 0, none⟩), .agg #[.int .i64 i, .int .i64 j]] W fun e w' => e = .returned (.int .i64 (scl th bd r i j)) ∧ Ext W w' := fun W h => by rw [hs]; exact h52' W h
      have H52 := Lib.hid h52
      have HE2 := Lib.hid (show fe = if scl th bd r i j = 0 then (0, 18) else (scl th bd r i j, 0) from by rw [HE.out, if_neg (by simp), if_neg (by rw [hli]; simp)])
      clear h52 h52' hs hli hv HE
      generalize scl th bd r i j = sc at *
      go_wp2_with fail
      refine (H51.out _ (Ext.refl _)).mono ?_
      rintro e w2 ⟨rfl, hb⟩
      have E3 := Lib.hid (E2.out.trans hb)
      have HB := Lib.hid hb
      have m0' := cell_ext hb m0
      have m1' := cell_ext hb m1
      clear hb m0 m1
      go_wp2_with fail
      refine (H52.out _ HB.out).mono ?_
      rintro e w3 ⟨rfl, hb⟩
      have E4 := Lib.hid (E3.out.trans hb)
      clear hb m0' m1'
      by_cases hz : sc = 0
      · have hzb : (sc == 0) = true := by simpa using hz
        have HZ := Lib.hid hz
        clear hz
        go_wp2
        go_ret2
        exact ⟨by rw [HE2.out, if_pos HZ.out]; rfl, E4.out⟩
      · have hzb : (sc == 0) = false := by simpa using hz
        have HZ := Lib.hid hz
        clear hz
        go_wp2
        go_ret2
        exact ⟨by rw [HE2.out, if_neg HZ.out]; rfl, E4.out⟩
end Go.Proofs.Ytcgheakadfjofaa
namespace Go.Proofs.Ytcgheakadfjofaa
open Go.RowKit Go.Shelf
set_option linter.unusedVariables false
set_option linter.unusedSimpArgs false
set_option maxRecDepth 100000 in
set_option maxHeartbeats 4000000 in
theorem best81 (b : Nat) (vt vb : Value) (th bd : List Int) (r : Rl) (ps : List Int) (i j : Nat) (x : Int) (w : World) (hy : YardAt w b vt vb th bd r ps) (hi : i < 61) (hj : j < 61) (hx : 0 ≤ x ∧ x ≤ 1099511627776) (hp : 0 ≤ ps.getD j 0 ∧ ps.getD j 0 ≤ 1099511627776) :
    Calls Try.prog 81 #[.pointer (some ⟨b, 0, none⟩), .agg #[.int .i64 (i : Int), .int .i64 (j : Int), .int .i64 x]] w fun e w' => e = .returned (.bool (decide (x + ps.getD j 0 = ps.getD i 0))) ∧ Ext w w' := by
  have h84 := fun (W : World) (h : Ext w W) => worth84 b _ _ th bd r ps i j x W (hy.ext h) hj hx hp
  have E0 := Lib.hid ((Ext.refl w).alloc (.cells #[.int .i64 (i : Int), .int .i64 (j : Int), .int .i64 x] 110))
  have ci := (hy.ext E0.out).price hi
  have d0 : (w.alloc (.cells #[.int .i64 (i : Int), .int .i64 (j : Int), .int .i64 x] 110)).cell? ⟨w.heap.size, 0, none⟩ = some (.int .i64 (i : Int)) := World.cell?_alloc_at _ _ _ _ rfl
  have d1 : (w.alloc (.cells #[.int .i64 (i : Int), .int .i64 (j : Int), .int .i64 x] 110)).cell? ⟨w.heap.size, 1, none⟩ = some (.int .i64 (j : Int)) := World.cell?_alloc_at _ _ _ _ rfl
  have d2 : (w.alloc (.cells #[.int .i64 (i : Int), .int .i64 (j : Int), .int .i64 x] 110)).cell? ⟨w.heap.size, 2, none⟩ = some (.int .i64 x) := World.cell?_alloc_at _ _ _ _ rfl
  generalize ps.getD i 0 = pi at *
  generalize ps.getD j 0 = pj at *
  have hia : (0 : Int) ≤ (i : Int) := by omega
  have hib : (i : Int) < 61 := by omega
  have H84 := Lib.hid h84
  have HKP := Lib.hid (show ∀ X X' : World, (fun X : World => X.cell? ⟨b, 9 + i, none⟩ = some (.int .i64 pi) ∧ X.cell? ⟨w.heap.size, 0, none⟩ = some (.int .i64 (i : Int)) ∧ X.cell? ⟨w.heap.size, 1, none⟩ = some (.int .i64 (j : Int)) ∧ X.cell? ⟨w.heap.size, 2, none⟩ = some (.int .i64 x) ∧ Hid (Ext w X)) X → Ext X X' → (fun X : World => X.cell? ⟨b, 9 + i, none⟩ = some (.int .i64 pi) ∧ X.cell? ⟨w.heap.size, 0, none⟩ = some (.int .i64 (i : Int)) ∧ X.cell? ⟨w.heap.size, 1, none⟩ = some (.int .i64 (j : Int)) ∧ X.cell? ⟨w.heap.size, 2, none⟩ = some (.int .i64 x) ∧ Hid (Ext w X)) X' from fun X X' h hb => ⟨cell_ext hb h.1, cell_ext hb h.2.1, cell_ext hb h.2.2.1, cell_ext hb h.2.2.2.1, Lib.hid (Ext.trans h.2.2.2.2.out hb)⟩)
  clear h84 hy
  go_enter Try.func81, Try.ntmps81
  go_wp2
  refine wp_region_order (fun X : World => X.cell? ⟨b, 9 + i, none⟩ = some (.int .i64 pi) ∧ X.cell? ⟨w.heap.size, 0, none⟩ = some (.int .i64 (i : Int)) ∧ X.cell? ⟨w.heap.size, 1, none⟩ = some (.int .i64 (j : Int)) ∧ X.cell? ⟨w.heap.size, 2, none⟩ = some (.int .i64 x) ∧ Hid (Ext w X)) [0, 1, 3, 4, 5, 6, 7, 8, 9, 10, 2, 11, 12] (by kernel_rfl) (by kernel_rfl) (by exact ⟨ci, d0, d1, d2, Lib.hid E0.out.drew⟩) (fun hHeld => ?_)
  simp only [opsIn, List.filterMap_cons, List.filterMap_nil, List.getElem?_toArray, List.getElem?_cons_succ, List.getElem?_cons_zero]
  refine' text_chunk 10 (by kernel_rfl) hHeld ?ck1 ?cr1
  case ck1 =>
    intro W hSw
    have hSW := hSw
    try dsimp only at hSW
    clear hSw
    simp only [List.take_succ_cons, List.take_zero, List.drop_succ_cons, List.drop_zero]
    repeat (go_big_quiet_step (fail))
    exact wpQuiet_nil rfl
  simp only [List.take_succ_cons, List.take_zero, List.drop_succ_cons, List.drop_zero]
  refine text_call (by rfl) (by rfl) (fun K hK => ?_)
  go_simp
  (go_at_call 84; refine (H84.out _ hHeld.2.2.2.2.out).mono ?_; rintro e w5 ⟨rfl, hb⟩)
  all_goals (try (go_wp2_with fail))
  refine hK.out _ _ (by exact HKP.out _ _ hHeld hb) (fun hHeld => ?_)
  clear hK K
  try simp only [Act.put, List.setIfInBounds_toArray, List.set_cons_zero, List.set_cons_succ]
  refine' text_chunk 2 (by kernel_rfl) hHeld ?ck2 ?cr2
  case ck2 =>
    intro W hSw
    have hSW := hSw
    try dsimp only at hSW
    clear hSw
    simp only [List.take_succ_cons, List.take_zero, List.drop_succ_cons, List.drop_zero]
    repeat (go_big_quiet_step (fail))
    exact wpQuiet_nil rfl
  simp only [List.take_succ_cons, List.take_zero, List.drop_succ_cons, List.drop_zero]
  refine text_done ?_
  have HL := hHeld.2.2.2.2
  clear hHeld
  go_wp2
  go_ret
  exact ⟨ret_bool (by rw [Bool.eq_iff_iff]; simp), HL.out⟩
theorem best_bool {th bd : List Int} {r : Rl} {n i j : Nat} {x : Int} (hn : th.length = n + 1) (hi : i < 61) (hj : j < 61) : decide (x + (bestP th bd r).getD j 0 = (bestP th bd r).getD i 0) = bestB (sF th bd r) n i (j, x) := by
  rw [bestP_get hi, bestP_get hj, hn]; rfl
end Go.Proofs.Ytcgheakadfjofaa
