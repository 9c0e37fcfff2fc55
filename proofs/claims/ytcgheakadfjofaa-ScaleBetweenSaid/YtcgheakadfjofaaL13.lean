/- ScaleBetween, by its contract. -/
import Derived.Test.YtcgheakadfjofaaK1
import Derived.Test.YtcgheakadfjofaaH5
namespace Go.Proofs.Ytcgheakadfjofaa
open Go.RowKit
set_option linter.unusedVariables false
set_option linter.unusedSimpArgs false
attribute [local go_sem] Oper.semAt_some
theorem of_and12s {a b c d e f g h i j k : Prop} {l : Prop} (x : a ∧ b ∧ c ∧ d ∧ e ∧ f ∧ g ∧ h ∧ i ∧ j ∧ k ∧ Hid l) : l := x.2.2.2.2.2.2.2.2.2.2.2.out
theorem sumF_snoc (F : Nat → Nat → Int) (l : List (Nat × Nat)) (i j : Nat) : sumF F (l ++ [(i, j)]) = sumF F l + F i j := by rw [sumF_append]; simp [sumF]
theorem sumF_bd {F : Nat → Nat → Int} (h : ∀ i j, 0 ≤ F i j ∧ F i j ≤ 216000) : ∀ l : List (Nat × Nat), 0 ≤ sumF F l ∧ sumF F l ≤ 216000 * (l.length : Int)
  | [] => by simp [sumF]
  | p :: l => by
    have h1 := h p.1 p.2
    have h2 := sumF_bd h l
    have h3 : sumF F (p :: l) = F p.1 p.2 + sumF F l := by simp [sumF]
    have h4 : 216000 * (((p :: l).length : Nat) : Int) = 216000 * (l.length : Int) + 216000 := by simp; omega
    omega
set_option maxRecDepth 100000 in
set_option maxHeartbeats 8000000 in
theorem between13 (a a' : Option Addr) (cap cap' : Nat) (th bd : List Int) (r r2 : Rl) (a8 : Option Addr) (cap8 : Nat) (ns : List Nat) (w : World) (hlen : th.length ≤ cap ∧ cap ≤ 9223372036854775807) (hlen' : bd.length ≤ cap' ∧ cap' ≤ 9223372036854775807) (hr : th.length ≤ 5000 → Reads w (.slice a th.length cap) th) (hr' : bd.length ≤ 5000 → Reads w (.slice a' bd.length cap') bd) (hlen8 : ns.length ≤ cap8 ∧ cap8 ≤ 9223372036854775807) (hb8 : ∀ x ∈ ns, x ≤ 255) (hr8 : ns.length ≤ 5000 → Reads8 w (.slice a8 ns.length cap8) ns) :
    Calls Try.prog 13 #[.agg #[.slice a th.length cap, .slice a' bd.length cap'], r.val, r2.val, .slice a8 ns.length cap8] w fun e w' => e = .returned (.bool true) ∧ Ext w w' := by
  obtain ⟨BF, hf1, hf2⟩ := fine40 a a' cap cap' th bd r w hlen hlen' hr hr'
  have C40 := Lib.hid hf1
  obtain ⟨n, hn⟩ : ∃ n, n = th.length := ⟨_, rfl⟩
  obtain ⟨n', hn'⟩ : ∃ n', n' = bd.length := ⟨_, rfl⟩
  rw [← hn] at hlen hr ⊢
  rw [← hn'] at hlen' hr' ⊢
  rw [← hn, ← hn'] at C40 hf2
  obtain ⟨n8, hn8⟩ : ∃ n8, n8 = ns.length := ⟨_, rfl⟩
  rw [← hn8] at hlen8 hr8 ⊢
  have HE := Lib.hid (Ext.alloc (Ext.alloc (Ext.alloc (Ext.refl w) (.cells #[.slice a n cap, .slice a' n' cap'] 25)) (.cells #[.int .i64 r.lo, .int .i64 r.hi, .int .i64 r.st, .int .i64 r.tr, .int .i64 r.off, .int .i64 r.dv, .int .i64 r.tn] 27)) (.cells #[.int .i64 r2.lo, .int .i64 r2.hi, .int .i64 r2.st, .int .i64 r2.tr, .int .i64 r2.off, .int .i64 r2.dv, .int .i64 r2.tn] 27))
  have HP := Lib.hid ((SR.new w (.slice a n cap) (.slice a' n' cap') r).ext (Ext.alloc (Ext.refl _) (.cells #[.int .i64 r2.lo, .int .i64 r2.hi, .int .i64 r2.st, .int .i64 r2.tr, .int .i64 r2.off, .int .i64 r2.dv, .int .i64 r2.tn] 27)))
  have hq := RuleAt.new ((w.alloc (.cells #[.slice a n cap, .slice a' n' cap'] 25)).alloc (.cells #[.int .i64 r.lo, .int .i64 r.hi, .int .i64 r.st, .int .i64 r.tr, .int .i64 r.off, .int .i64 r.dv, .int .i64 r.tn] 27)) r2 27
  simp only [World.size_alloc] at hq
  have HQ := Lib.hid hq
  have C23 := Lib.hid (fun (W : World) => refrule23 r2 W)
  clear hq
  cases BF with
  | false =>
    clear hr hr' hf1 hf2 hn hn' hr8 hn8 hb8
    obtain ⟨⟨g1, g2⟩, r0, r1, r2_, r3, r4, r5, r6⟩ := HP.out
    obtain ⟨e0, e1, e2, e3, e4, e5, e6⟩ := HQ.out
    go_enter Try.func13, Try.ntmps13
    go_wp2_with fail
    refine (C40.out _ HE.out).mono ?_
    rintro e w1 ⟨rfl, hb⟩
    obtain ⟨⟨g1, g2⟩, r0, r1, r2_, r3, r4, r5, r6⟩ := HP.out.ext hb
    obtain ⟨e0, e1, e2, e3, e4, e5, e6⟩ := HQ.out.ext hb
    have HE := Lib.hid (HE.out.trans hb)
    have HP := Lib.hid (HP.out.ext hb)
    have HQ := Lib.hid (HQ.out.ext hb)
    clear hb
    go_wp2_with fail
    refine (works17 _).mono ?_
    rintro e w9 ⟨rfl, hb⟩
    have HE := Lib.hid (HE.out.trans hb); clear hb
    go_wp2
    go_ret
    exact ⟨rfl, HE.out⟩
  | true =>
    obtain ⟨hE, ht, hd⟩ := hf2 rfl
    by_cases hR : ruleE r2 = 0
    case neg =>
      have hRb : (ruleE r2 != 0) = true := by simpa using hR
      generalize ruleE r2 = E2 at *
      clear hr hr' hf1 hf2 hn hn' hr8 hn8 hb8 ht hd hE hR
      obtain ⟨⟨g1, g2⟩, r0, r1, r2_, r3, r4, r5, r6⟩ := HP.out
      obtain ⟨e0, e1, e2, e3, e4, e5, e6⟩ := HQ.out
      go_enter Try.func13, Try.ntmps13
      go_wp2_with fail
      refine (C40.out _ HE.out).mono ?_
      rintro e w1 ⟨rfl, hb⟩
      obtain ⟨⟨g1, g2⟩, r0, r1, r2_, r3, r4, r5, r6⟩ := HP.out.ext hb
      obtain ⟨e0, e1, e2, e3, e4, e5, e6⟩ := HQ.out.ext hb
      have HE := Lib.hid (HE.out.trans hb)
      have HP := Lib.hid (HP.out.ext hb)
      have HQ := Lib.hid (HQ.out.ext hb)
      clear hb
      go_wp2_with fail
      refine (C23.out _).mono ?_
      rintro e w2 ⟨rfl, hb⟩
      obtain ⟨⟨g1, g2⟩, r0, r1, r2_, r3, r4, r5, r6⟩ := HP.out.ext hb
      obtain ⟨e0, e1, e2, e3, e4, e5, e6⟩ := HQ.out.ext hb
      have HE := Lib.hid (HE.out.trans hb)
      have HP := Lib.hid (HP.out.ext hb)
      have HQ := Lib.hid (HQ.out.ext hb)
      clear hb
      go_wp2_with fail
      refine (works17 _).mono ?_
      rintro e w9 ⟨rfl, hb⟩
      have HE := Lib.hid (HE.out.trans hb); clear hb
      go_wp2
      go_ret
      exact ⟨rfl, HE.out⟩
    by_cases hg8 : 60 < n8
    · have hz : decide ((n8 : Int) > 60) = true := by simp; omega
      have hz2 : decide ((60 : Int) < n8) = true := by simp; omega
      rw [hR] at C23
      clear hr hr' hf1 hf2 hn hn' hr8 hn8 hb8 ht hd hE hR
      obtain ⟨⟨g1, g2⟩, r0, r1, r2_, r3, r4, r5, r6⟩ := HP.out
      obtain ⟨e0, e1, e2, e3, e4, e5, e6⟩ := HQ.out
      go_enter Try.func13, Try.ntmps13
      go_wp2_with fail
      refine (C40.out _ HE.out).mono ?_
      rintro e w1 ⟨rfl, hb⟩
      obtain ⟨⟨g1, g2⟩, r0, r1, r2_, r3, r4, r5, r6⟩ := HP.out.ext hb
      obtain ⟨e0, e1, e2, e3, e4, e5, e6⟩ := HQ.out.ext hb
      have HE := Lib.hid (HE.out.trans hb)
      have HP := Lib.hid (HP.out.ext hb)
      have HQ := Lib.hid (HQ.out.ext hb)
      clear hb
      go_wp2_with fail
      refine (C23.out _).mono ?_
      rintro e w2 ⟨rfl, hb⟩
      obtain ⟨⟨g1, g2⟩, r0, r1, r2_, r3, r4, r5, r6⟩ := HP.out.ext hb
      obtain ⟨e0, e1, e2, e3, e4, e5, e6⟩ := HQ.out.ext hb
      have HE := Lib.hid (HE.out.trans hb)
      have HP := Lib.hid (HP.out.ext hb)
      have HQ := Lib.hid (HQ.out.ext hb)
      clear hb
      go_wp2_with fail
      refine (works17 _).mono ?_
      rintro e w9 ⟨rfl, hb⟩
      have HE := Lib.hid (HE.out.trans hb); clear hb
      go_wp2
      go_ret
      exact ⟨rfl, HE.out⟩
    have hz : decide ((n8 : Int) > 60) = false := by simp; omega
    have hz2 : decide ((60 : Int) < n8) = false := by simp; omega
    have h8 := hr8 (by omega)
    have HT := Lib.hid ht; have HD := Lib.hid hd
    obtain ⟨q1, q2⟩ := vs_len hE
    have hB : bestV th bd r = bst (sF th bd r) allB (th.length - 1) 0 := by unfold bestV; rw [if_pos hE]
    have C26 := Lib.hid (fun (W : World) (h : Ext w W) => best26v _ _ th bd r W (ht.ext h) (hd.ext h))
    have C28 := Lib.hid (fun (W : World) (h : Ext w W) => cut28 _ _ th bd r W (ht.ext h) (hd.ext h))
    rw [hE] at C26 C28
    have hc24 : ∀ (W : World) (v : Value) (c : List (Nat × Nat)), Ext w W → ReadsLg W v (lgI c) → Cuts (sF th bd r) allB (th.length - 1) 0 c →
        Calls Try.prog 24 #[.agg #[.slice a n cap, .slice a' n' cap'], .agg #[.int .i64 r.lo, .int .i64 r.hi, .int .i64 r.st, .int .i64 r.tr, .int .i64 r.off, .int .i64 r.dv, .int .i64 r.tn], v] W fun e w' => e = .returned (.tuple #[.int .i64 (sumF (sF th bd r) c), .int .i64 0]) ∧ Ext W w' := fun W v c h h1 h2 => by
      have := cut24 (.slice a n cap) (.slice a' n' cap') v th bd r (lgI c) W (HT.out.ext h) (HD.out.ext h) h1
      rw [cutE_cuts (n := th.length - 1) hE (by omega) (by omega) h2] at this
      exact this
    have hc25 : ∀ (W : World) (v : Value) (c : List (Nat × Nat)), Ext w W → ReadsLg W v (lgI c) → Cuts (sF th bd r) allB (th.length - 1) 0 c →
        Calls Try.prog 25 #[.agg #[.slice a n cap, .slice a' n' cap'], .agg #[.int .i64 r.lo, .int .i64 r.hi, .int .i64 r.st, .int .i64 r.tr, .int .i64 r.off, .int .i64 r.dv, .int .i64 r.tn], v] W fun e w' => e = .returned (.tuple #[.int .i64 (sumF (sF th bd r) c), .int .i64 0]) ∧ Ext W w' := fun W v c h h1 h2 => by
      have := refcut25 (.slice a n cap) (.slice a' n' cap') v th bd r (lgI c) W (HT.out.ext h) (HD.out.ext h) h1
      rw [cutE_cuts (n := th.length - 1) hE (by omega) (by omega) h2] at this
      exact this
    have C24 := Lib.hid hc24; have C25 := Lib.hid hc25
    have C41 := Lib.hid (fun (W : World) (h : Ext w W) => cutting41 _ _ _ th bd r ns W (ht.ext h) (hd.ext h) (h8.ext h) hb8 (by omega) hE)
    have hE2 : bothE th bd r2 = 0 := by rw [both_rule r2 hE, hR]
    have hv2 := (bothE_ok.1 hE2).1.weak (bothE_ok.1 hE2).2
    have hF2 : ∀ i j, 0 ≤ sF th bd r2 i j ∧ sF th bd r2 i j ≤ 216000 := fun i j => scl_bd (bothE_ok.1 hE2).1 (bothE_ok.1 hE2).2 i j
    have c38 := fun (W : World) (h : Ext w W) => between38 _ _ th bd r r2 W (ht.ext h) (hd.ext h)
    have c38b := fun (W : World) (h : Ext w W) => between38 _ _ th bd r r W (ht.ext h) (hd.ext h)
    rw [betweenE_ok hE hR] at c38
    rw [betweenE_ok hE (show ruleE r = 0 by rw [← both_rule r hE]; exact hE), btw_self, ← hB] at c38b
    have C38 := Lib.hid c38; have C38b := Lib.hid c38b
    have C26b := Lib.hid (fun (W : World) (h : Ext w W) => best26v _ _ th bd r2 W (ht.ext h) (hd.ext h))
    rw [hE2] at C26b
    have hB2 : bestV th bd r2 = bst (sF th bd r2) allB (th.length - 1) 0 := by unfold bestV; rw [if_pos hE2]
    have hbd := btw_bds (f := sF th bd r) (g := sF th bd r2) (fun i j => (hF2 i j).1) (th.length - 1)
    rw [← hB2] at hbd
    have hin := fun c (h : Cuts (sF th bd r) allB (th.length - 1) 0 c) (h2 : sumF (sF th bd r) c = bst (sF th bd r) allB (th.length - 1) 0) => btw_cuts (g := sF th bd r2) 0 (Nat.zero_le _) c h h2
    have h45 : ∀ (i j : Nat) (W : World), Ext w W → i < j → j ≤ th.length - 1 → Calls Try.prog 45 #[.agg #[.slice a n cap, .slice a' n' cap'], .agg #[.int .i64 r2.lo, .int .i64 r2.hi, .int .i64 r2.st, .int .i64 r2.tr, .int .i64 r2.off, .int .i64 r2.dv, .int .i64 r2.tn], .int .i64 (i : Int), .int .i64 (j : Int)] W fun e w' => e = .returned (.int .i64 (sF th bd r2 i j)) ∧ Ext W w' := fun i j W h h1 h2 =>
      refscale45 _ _ th bd r2 i j W (ht.ext h) (hd.ext h) hv2 h1 (by omega)
    have hc5 : ∀ c, Cuts (sF th bd r) allB (th.length - 1) 0 c → c.length ≤ 60 := fun c h => by
      have := cuts_len c 0 h
      omega
    have C45 := Lib.hid h45
    rw [hR] at C23
    unfold CutPost at C28
    rw [← hB] at C28 hin
    generalize bestV th bd r = BV at *
    generalize bestV th bd r2 = BW at *
    generalize btwV (sF th bd r) (sF th bd r2) (th.length - 1) 0 = G at *
    obtain ⟨G1, G2⟩ := G
    dsimp only at C38 hbd hin
    generalize hF : sF th bd r = F at *
    generalize hFF : sF th bd r2 = F2 at *
    generalize hm : th.length - 1 = m at *
    have HIN := Lib.hid hin; have HC5 := Lib.hid hc5; have HF2 := Lib.hid hF2
    have k0 : decide (G1 < 0) = false := by simp; omega
    have k2 : decide (G1 > G2) = false := by simp; omega
    have k2' : decide (G2 < G1) = false := by simp; omega
    have l0 : decide (G2 > BW) = false := by simp; omega
    have l0' : decide (BW < G2) = false := by simp; omega
    clear hr hr' hr8 hf1 hf2 hc24 hc25 hc5 ht hd h8 hE hB hn hn' hn8 hb8 HT HD hF hFF hm q1 q2 C24 hE2 hv2 hF2 c38 c38b hB2 hin h45 hR hbd
    obtain ⟨⟨g1, g2⟩, r0, r1, r2_, r3, r4, r5, r6⟩ := HP.out
    obtain ⟨e0, e1, e2, e3, e4, e5, e6⟩ := HQ.out
    go_enter Try.func13, Try.ntmps13
    go_wp2_with fail
    refine (C40.out _ HE.out).mono ?_
    rintro e w1 ⟨rfl, hb⟩
    obtain ⟨⟨g1, g2⟩, r0, r1, r2_, r3, r4, r5, r6⟩ := HP.out.ext hb
    obtain ⟨e0, e1, e2, e3, e4, e5, e6⟩ := HQ.out.ext hb
    have HE := Lib.hid (HE.out.trans hb)
    have HP := Lib.hid (HP.out.ext hb)
    have HQ := Lib.hid (HQ.out.ext hb)
    clear hb
    go_wp2_with fail
    refine (C23.out _).mono ?_
    rintro e w2 ⟨rfl, hb⟩
    obtain ⟨⟨g1, g2⟩, r0, r1, r2_, r3, r4, r5, r6⟩ := HP.out.ext hb
    obtain ⟨e0, e1, e2, e3, e4, e5, e6⟩ := HQ.out.ext hb
    have HE := Lib.hid (HE.out.trans hb)
    have HP := Lib.hid (HP.out.ext hb)
    have HQ := Lib.hid (HQ.out.ext hb)
    clear hb
    go_wp2_with fail
    refine (C38.out _ HE.out).mono ?_
    rintro e w3 ⟨rfl, hb⟩
    have hb := Ext.alloc hb (.cells #[.int .i64 G1, .int .i64 G2] 53)
    obtain ⟨⟨g1, g2⟩, r0, r1, r2_, r3, r4, r5, r6⟩ := HP.out.ext hb
    obtain ⟨e0, e1, e2, e3, e4, e5, e6⟩ := HQ.out.ext hb
    have HE := Lib.hid (HE.out.trans hb)
    have HP := Lib.hid (HP.out.ext hb)
    have HQ := Lib.hid (HQ.out.ext hb)
    have HG := Lib.hid (StemAt.new w3 (.int .i64 G1) (.int .i64 G2) 53)
    clear hb
    go_wp2_with fail
    refine (C38b.out _ HE.out).mono ?_
    rintro e w4 ⟨rfl, hb⟩
    have hb := Ext.alloc hb (.cells #[.int .i64 BV, .int .i64 BV] 53)
    obtain ⟨⟨g1, g2⟩, r0, r1, r2_, r3, r4, r5, r6⟩ := HP.out.ext hb
    obtain ⟨e0, e1, e2, e3, e4, e5, e6⟩ := HQ.out.ext hb
    have HE := Lib.hid (HE.out.trans hb)
    have HP := Lib.hid (HP.out.ext hb)
    have HQ := Lib.hid (HQ.out.ext hb)
    have HG := Lib.hid (HG.out.ext hb)
    have HH := Lib.hid (StemAt.new w4 (.int .i64 BV) (.int .i64 BV) 53)
    clear hb
    go_wp2_with fail
    refine (C26.out _ HE.out).mono ?_
    rintro e w5 ⟨rfl, hb⟩
    obtain ⟨⟨g1, g2⟩, r0, r1, r2_, r3, r4, r5, r6⟩ := HP.out.ext hb
    obtain ⟨e0, e1, e2, e3, e4, e5, e6⟩ := HQ.out.ext hb
    have HE := Lib.hid (HE.out.trans hb)
    have HP := Lib.hid (HP.out.ext hb)
    have HQ := Lib.hid (HQ.out.ext hb)
    have HG := Lib.hid (HG.out.ext hb)
    have HH := Lib.hid (HH.out.ext hb)
    clear hb
    go_wp2_with fail
    refine (C26b.out _ HE.out).mono ?_
    rintro e w6 ⟨rfl, hb⟩
    obtain ⟨⟨g1, g2⟩, r0, r1, r2_, r3, r4, r5, r6⟩ := HP.out.ext hb
    obtain ⟨e0, e1, e2, e3, e4, e5, e6⟩ := HQ.out.ext hb
    have HE := Lib.hid (HE.out.trans hb)
    have HP := Lib.hid (HP.out.ext hb)
    have HQ := Lib.hid (HQ.out.ext hb)
    have HG := Lib.hid (HG.out.ext hb)
    have HH := Lib.hid (HH.out.ext hb)
    clear hb
    go_wp2_with fail
    refine (C28.out _ HE.out).mono ?_
    rintro e w7 ⟨hb, ⟨he, -⟩ | ⟨-, v, c, rfl, hv, hc1, hc2⟩⟩
    · exact absurd rfl he
    obtain ⟨⟨g1, g2⟩, r0, r1, r2_, r3, r4, r5, r6⟩ := HP.out.ext hb
    obtain ⟨e0, e1, e2, e3, e4, e5, e6⟩ := HQ.out.ext hb
    have HE := Lib.hid (HE.out.trans hb)
    have HP := Lib.hid (HP.out.ext hb)
    have HQ := Lib.hid (HQ.out.ext hb)
    have HG := Lib.hid (HG.out.ext hb)
    have HH := Lib.hid (HH.out.ext hb)
    have HV := Lib.hid hv; have HC1 := Lib.hid hc1; have HC2 := Lib.hid hc2
    obtain ⟨y0, y1⟩ := HG.out
    obtain ⟨z0, z1⟩ := HH.out
    clear hb hv hc1 hc2
    go_wp2_with fail
    refine (C41.out _ HE.out).mono ?_
    rintro e w8 ⟨v2, c2, rfl, hv2, hc3, hb⟩
    obtain ⟨⟨g1, g2⟩, r0, r1, r2_, r3, r4, r5, r6⟩ := HP.out.ext hb
    have HE := Lib.hid (HE.out.trans hb)
    have HP := Lib.hid (HP.out.ext hb)
    have HQ := Lib.hid (HQ.out.ext hb)
    have HG := Lib.hid (HG.out.ext hb)
    have HV := Lib.hid (HV.out.ext hb)
    have HV2 := Lib.hid hv2; have HC3 := Lib.hid hc3
    clear hb hv2 hc3 y0 y1 z0 z1 HH
    go_wp2_with fail
    refine (C25.out _ _ _ HE.out HV2.out HC3.out).mono ?_
    rintro e w9 ⟨rfl, hb⟩
    obtain ⟨⟨g1, g2⟩, r0, r1, r2_, r3, r4, r5, r6⟩ := HP.out.ext hb
    obtain ⟨e0, e1, e2, e3, e4, e5, e6⟩ := HQ.out.ext hb
    have HE := Lib.hid (HE.out.trans hb)
    have HP := Lib.hid (HP.out.ext hb)
    have HQ := Lib.hid (HQ.out.ext hb)
    have HG := Lib.hid (HG.out.ext hb)
    have HV := Lib.hid (HV.out.ext hb)
    have HV2 := Lib.hid (HV2.out.ext hb)
    clear hb
    by_cases hx : sumF F c2 = BV
    · have HX := Lib.hid hx
      have hxb : (sumF F c2 != BV) = false := by simpa using hx
      clear hx
      go_wp2_with fail
      refine (C25.out _ _ _ HE.out HV2.out HC3.out).mono ?_
      rintro e w10 ⟨rfl, hb⟩
      obtain ⟨⟨g1, g2⟩, r0, r1, r2_, r3, r4, r5, r6⟩ := HP.out.ext hb
      obtain ⟨e0, e1, e2, e3, e4, e5, e6⟩ := HQ.out.ext hb
      have HE := Lib.hid (HE.out.trans hb)
      have HP := Lib.hid (HP.out.ext hb)
      have HQ := Lib.hid (HQ.out.ext hb)
      have HG := Lib.hid (HG.out.ext hb)
      have HW := Lib.hid (HV2.out.ext hb)
      clear hb
      rw [HX.out]
      obtain ⟨hl5, av, capv, hve⟩ := HW.out.shape
      subst hve
      have hin := HIN.out c2 HC3.out HX.out
      have hcl := HC5.out c2 HC3.out
      have hall := (cuts_all c2 0 HC3.out).1
      have HIN1 := Lib.hid hin; have HALL := Lib.hid hall
      obtain ⟨ln, hln⟩ : ∃ ln, ln = (lgI c2).length := ⟨_, rfl⟩
      rw [← hln] at HW hl5 ⊢
      have hln2 : ln = c2.length := by rw [hln, lgI_len]
      have HLN := Lib.hid hln; have HLN2 := Lib.hid hln2
      have hl60 : ln ≤ 60 := by omega
      clear hln hln2 hin hall hcl
      go_wp2_with fail
      go_loopw [22, 23] (fun s i wr => ∃ k : Nat, k ≤ ln ∧ i = .int .i64 (k : Int) ∧ s = .int .i64 (sumF F2 (c2.take k)) ∧ Hid (Ext w10 wr)) (fun s i wr => ln - (intV i).toNat)
      case atStart => exact ⟨0, Nat.zero_le _, rfl, rfl, Lib.hid (Ext.refl _)⟩
      case round =>
        obtain ⟨k, hk1, rfl, rfl, hX⟩ := hrel
        obtain ⟨⟨g1, g2⟩, -⟩ := HP.out.ext hX.out
        obtain ⟨e0, e1, e2, e3, e4, e5, e6⟩ := HQ.out.ext hX.out
        have hsb := sumF_bd HF2.out (c2.take k)
        have hsl : (c2.take k).length ≤ 60 := by rw [List.length_take]; rw [← HLN2.out]; omega
        by_cases hlt : k < ln
        · obtain ⟨⟨i, j⟩, hq⟩ := get_some (show k < c2.length by rw [← HLN2.out]; exact hlt)
          have hq2 : (lgI c2)[k]? = some ((i : Int), (j : Int)) := by unfold lgI; rw [List.getElem?_map, hq]; rfl
          obtain ⟨b2, off, p2, rfl, hq3, c1, c2_⟩ := (HW.out.ext hX.out).at (show k < (lgI c2).length by rw [← HLN.out]; exact hlt)
          rw [hq2] at hq3
          cases hq3
          simp only at c1 c2_
          have hij := HALL.out (i, j) (List.mem_of_getElem? hq)
          have hfb := HF2.out i j
          have HT := Lib.hid (show sumF F2 (c2.take (k + 1)) = sumF F2 (c2.take k) + F2 i j by rw [take_snoc hq, sumF_snoc])
          have h45 := fun (W : World) (h : Ext w W) => C45.out i j W h hij.2.1 hij.2.2.1
          have H45 := Lib.hid h45
          generalize F2 i j = fv at *
          generalize sumF F2 (c2.take k) = sv at *
          have hw1 : IntKind.i64.wrap (sv + fv) = sv + fv := wrapi64 _ (by omega) (by omega)
          have hka : (0 : Int) ≤ (k : Int) := by omega
          have hkb : (k : Int) < (ln : Int) := by omega
          have ht2 : (k : Int).toNat = k := by omega
          clear hq hq2 hij h45
          have EW := Lib.hid (HE.out.trans hX.out)
          have KP : ∀ X X' : World, (X.cell? ⟨w.heap.size, 0, none⟩ = some (.slice a n cap) ∧ X.cell? ⟨w.heap.size, 1, none⟩ = some (.slice a' n' cap') ∧ X.cell? ⟨w.heap.size + 1 + 1, 0, none⟩ = some (.int .i64 r2.lo) ∧ X.cell? ⟨w.heap.size + 1 + 1, 1, none⟩ = some (.int .i64 r2.hi) ∧ X.cell? ⟨w.heap.size + 1 + 1, 2, none⟩ = some (.int .i64 r2.st) ∧ X.cell? ⟨w.heap.size + 1 + 1, 3, none⟩ = some (.int .i64 r2.tr) ∧ X.cell? ⟨w.heap.size + 1 + 1, 4, none⟩ = some (.int .i64 r2.off) ∧ X.cell? ⟨w.heap.size + 1 + 1, 5, none⟩ = some (.int .i64 r2.dv) ∧ X.cell? ⟨w.heap.size + 1 + 1, 6, none⟩ = some (.int .i64 r2.tn) ∧ X.cell? ⟨b2, off + k * 2, none⟩ = some (.int .i64 (i : Int)) ∧ X.cell? ⟨b2, off + k * 2 + 1, none⟩ = some (.int .i64 (j : Int)) ∧ Hid (Ext wr X)) → Ext X X' → (X'.cell? ⟨w.heap.size, 0, none⟩ = some (.slice a n cap) ∧ X'.cell? ⟨w.heap.size, 1, none⟩ = some (.slice a' n' cap') ∧ X'.cell? ⟨w.heap.size + 1 + 1, 0, none⟩ = some (.int .i64 r2.lo) ∧ X'.cell? ⟨w.heap.size + 1 + 1, 1, none⟩ = some (.int .i64 r2.hi) ∧ X'.cell? ⟨w.heap.size + 1 + 1, 2, none⟩ = some (.int .i64 r2.st) ∧ X'.cell? ⟨w.heap.size + 1 + 1, 3, none⟩ = some (.int .i64 r2.tr) ∧ X'.cell? ⟨w.heap.size + 1 + 1, 4, none⟩ = some (.int .i64 r2.off) ∧ X'.cell? ⟨w.heap.size + 1 + 1, 5, none⟩ = some (.int .i64 r2.dv) ∧ X'.cell? ⟨w.heap.size + 1 + 1, 6, none⟩ = some (.int .i64 r2.tn) ∧ X'.cell? ⟨b2, off + k * 2, none⟩ = some (.int .i64 (i : Int)) ∧ X'.cell? ⟨b2, off + k * 2 + 1, none⟩ = some (.int .i64 (j : Int)) ∧ Hid (Ext wr X')) :=
            fun X X' h hb => ⟨cell_ext hb h.1, cell_ext hb h.2.1, cell_ext hb h.2.2.1, cell_ext hb h.2.2.2.1, cell_ext hb h.2.2.2.2.1, cell_ext hb h.2.2.2.2.2.1, cell_ext hb h.2.2.2.2.2.2.1, cell_ext hb h.2.2.2.2.2.2.2.1, cell_ext hb h.2.2.2.2.2.2.2.2.1, cell_ext hb h.2.2.2.2.2.2.2.2.2.1, cell_ext hb h.2.2.2.2.2.2.2.2.2.2.1, Ext.trans (of_and12s h) hb⟩
          have HKP := Lib.hid KP; clear KP
          go_wp2_with fail
          go_region_held3 (fun X => X.cell? ⟨w.heap.size, 0, none⟩ = some (.slice a n cap) ∧ X.cell? ⟨w.heap.size, 1, none⟩ = some (.slice a' n' cap') ∧ X.cell? ⟨w.heap.size + 1 + 1, 0, none⟩ = some (.int .i64 r2.lo) ∧ X.cell? ⟨w.heap.size + 1 + 1, 1, none⟩ = some (.int .i64 r2.hi) ∧ X.cell? ⟨w.heap.size + 1 + 1, 2, none⟩ = some (.int .i64 r2.st) ∧ X.cell? ⟨w.heap.size + 1 + 1, 3, none⟩ = some (.int .i64 r2.tr) ∧ X.cell? ⟨w.heap.size + 1 + 1, 4, none⟩ = some (.int .i64 r2.off) ∧ X.cell? ⟨w.heap.size + 1 + 1, 5, none⟩ = some (.int .i64 r2.dv) ∧ X.cell? ⟨w.heap.size + 1 + 1, 6, none⟩ = some (.int .i64 r2.tn) ∧ X.cell? ⟨b2, off + k * 2, none⟩ = some (.int .i64 (i : Int)) ∧ X.cell? ⟨b2, off + k * 2 + 1, none⟩ = some (.int .i64 (j : Int)) ∧ Hid (Ext wr X))
            (first | assumption | exact ⟨g1, g2, e0, e1, e2, e3, e4, e5, e6, c1, c2_, Ext.drew (Ext.refl _)⟩ | exact HKP.out _ _ (by assumption) hb | fail)
            (first | (go_at_call 45; refine (H45.out _ (EW.out.trans (of_and12s (by assumption)))).mono ?_; rintro e w' ⟨rfl, hb⟩) | fail)
          have HK := Lib.hid (hX.out.trans (of_and12s (by assumption)))
          go_wp2_with fail
          go_roundw
          case rel => exact ⟨k + 1, by omega, by go_num, by rw [HT.out], HK⟩
          case measure => simp [intV]; omega
        · have hkb : ¬ (k : Int) < (ln : Int) := by omega
          have hk2 : k = c2.length := by rw [← HLN2.out]; omega
          have HTT := Lib.hid (show c2.take k = c2 by rw [hk2]; exact List.take_length)
          clear hk2 hsb hsl
          rw [HTT.out]
          have hin := HIN1.out
          generalize sumF F2 c2 = sv at *
          have s1 : decide (sv ≥ G1) = true := by simp; omega
          have s2 : decide (G1 ≤ sv) = true := by simp; omega
          have s3 : decide (sv ≤ G2) = true := by simp; omega
          obtain ⟨y0, y1⟩ := HG.out.ext hX.out
          have HE := Lib.hid (HE.out.trans hX.out)
          go_wp2_with fail
          refine (works17 _).mono ?_
          rintro e w9 ⟨rfl, hb⟩
          have HE := Lib.hid (HE.out.trans hb); clear hb
          go_wp2
          go_ret
          exact ⟨rfl, HE.out⟩
    · have hxb : (sumF F c2 != BV) = true := by simpa using hx
      clear hx HV2 HC3
      go_wp2_with fail
      refine (C25.out _ _ _ HE.out HV.out HC1.out).mono ?_
      rintro e w10 ⟨rfl, hb⟩
      obtain ⟨⟨g1, g2⟩, r0, r1, r2_, r3, r4, r5, r6⟩ := HP.out.ext hb
      obtain ⟨e0, e1, e2, e3, e4, e5, e6⟩ := HQ.out.ext hb
      have HE := Lib.hid (HE.out.trans hb)
      have HP := Lib.hid (HP.out.ext hb)
      have HQ := Lib.hid (HQ.out.ext hb)
      have HG := Lib.hid (HG.out.ext hb)
      have HW := Lib.hid (HV.out.ext hb)
      clear hb
      rw [HC2.out]
      obtain ⟨hl5, av, capv, hve⟩ := HW.out.shape
      subst hve
      have hin := HIN.out c HC1.out HC2.out
      have hcl := HC5.out c HC1.out
      have hall := (cuts_all c 0 HC1.out).1
      have HIN1 := Lib.hid hin; have HALL := Lib.hid hall
      obtain ⟨ln, hln⟩ : ∃ ln, ln = (lgI c).length := ⟨_, rfl⟩
      rw [← hln] at HW hl5 ⊢
      have hln2 : ln = c.length := by rw [hln, lgI_len]
      have HLN := Lib.hid hln; have HLN2 := Lib.hid hln2
      have hl60 : ln ≤ 60 := by omega
      clear hln hln2 hin hall hcl
      go_wp2_with fail
      go_loopw [22, 23] (fun s i wr => ∃ k : Nat, k ≤ ln ∧ i = .int .i64 (k : Int) ∧ s = .int .i64 (sumF F2 (c.take k)) ∧ Hid (Ext w10 wr)) (fun s i wr => ln - (intV i).toNat)
      case atStart => exact ⟨0, Nat.zero_le _, rfl, rfl, Lib.hid (Ext.refl _)⟩
      case round =>
        obtain ⟨k, hk1, rfl, rfl, hX⟩ := hrel
        obtain ⟨⟨g1, g2⟩, -⟩ := HP.out.ext hX.out
        obtain ⟨e0, e1, e2, e3, e4, e5, e6⟩ := HQ.out.ext hX.out
        have hsb := sumF_bd HF2.out (c.take k)
        have hsl : (c.take k).length ≤ 60 := by rw [List.length_take]; rw [← HLN2.out]; omega
        by_cases hlt : k < ln
        · obtain ⟨⟨i, j⟩, hq⟩ := get_some (show k < c.length by rw [← HLN2.out]; exact hlt)
          have hq2 : (lgI c)[k]? = some ((i : Int), (j : Int)) := by unfold lgI; rw [List.getElem?_map, hq]; rfl
          obtain ⟨b2, off, p2, rfl, hq3, c1, c2_⟩ := (HW.out.ext hX.out).at (show k < (lgI c).length by rw [← HLN.out]; exact hlt)
          rw [hq2] at hq3
          cases hq3
          simp only at c1 c2_
          have hij := HALL.out (i, j) (List.mem_of_getElem? hq)
          have hfb := HF2.out i j
          have HT := Lib.hid (show sumF F2 (c.take (k + 1)) = sumF F2 (c.take k) + F2 i j by rw [take_snoc hq, sumF_snoc])
          have h45 := fun (W : World) (h : Ext w W) => C45.out i j W h hij.2.1 hij.2.2.1
          have H45 := Lib.hid h45
          generalize F2 i j = fv at *
          generalize sumF F2 (c.take k) = sv at *
          have hw1 : IntKind.i64.wrap (sv + fv) = sv + fv := wrapi64 _ (by omega) (by omega)
          have hka : (0 : Int) ≤ (k : Int) := by omega
          have hkb : (k : Int) < (ln : Int) := by omega
          have ht2 : (k : Int).toNat = k := by omega
          clear hq hq2 hij h45
          have EW := Lib.hid (HE.out.trans hX.out)
          have KP : ∀ X X' : World, (X.cell? ⟨w.heap.size, 0, none⟩ = some (.slice a n cap) ∧ X.cell? ⟨w.heap.size, 1, none⟩ = some (.slice a' n' cap') ∧ X.cell? ⟨w.heap.size + 1 + 1, 0, none⟩ = some (.int .i64 r2.lo) ∧ X.cell? ⟨w.heap.size + 1 + 1, 1, none⟩ = some (.int .i64 r2.hi) ∧ X.cell? ⟨w.heap.size + 1 + 1, 2, none⟩ = some (.int .i64 r2.st) ∧ X.cell? ⟨w.heap.size + 1 + 1, 3, none⟩ = some (.int .i64 r2.tr) ∧ X.cell? ⟨w.heap.size + 1 + 1, 4, none⟩ = some (.int .i64 r2.off) ∧ X.cell? ⟨w.heap.size + 1 + 1, 5, none⟩ = some (.int .i64 r2.dv) ∧ X.cell? ⟨w.heap.size + 1 + 1, 6, none⟩ = some (.int .i64 r2.tn) ∧ X.cell? ⟨b2, off + k * 2, none⟩ = some (.int .i64 (i : Int)) ∧ X.cell? ⟨b2, off + k * 2 + 1, none⟩ = some (.int .i64 (j : Int)) ∧ Hid (Ext wr X)) → Ext X X' → (X'.cell? ⟨w.heap.size, 0, none⟩ = some (.slice a n cap) ∧ X'.cell? ⟨w.heap.size, 1, none⟩ = some (.slice a' n' cap') ∧ X'.cell? ⟨w.heap.size + 1 + 1, 0, none⟩ = some (.int .i64 r2.lo) ∧ X'.cell? ⟨w.heap.size + 1 + 1, 1, none⟩ = some (.int .i64 r2.hi) ∧ X'.cell? ⟨w.heap.size + 1 + 1, 2, none⟩ = some (.int .i64 r2.st) ∧ X'.cell? ⟨w.heap.size + 1 + 1, 3, none⟩ = some (.int .i64 r2.tr) ∧ X'.cell? ⟨w.heap.size + 1 + 1, 4, none⟩ = some (.int .i64 r2.off) ∧ X'.cell? ⟨w.heap.size + 1 + 1, 5, none⟩ = some (.int .i64 r2.dv) ∧ X'.cell? ⟨w.heap.size + 1 + 1, 6, none⟩ = some (.int .i64 r2.tn) ∧ X'.cell? ⟨b2, off + k * 2, none⟩ = some (.int .i64 (i : Int)) ∧ X'.cell? ⟨b2, off + k * 2 + 1, none⟩ = some (.int .i64 (j : Int)) ∧ Hid (Ext wr X')) :=
            fun X X' h hb => ⟨cell_ext hb h.1, cell_ext hb h.2.1, cell_ext hb h.2.2.1, cell_ext hb h.2.2.2.1, cell_ext hb h.2.2.2.2.1, cell_ext hb h.2.2.2.2.2.1, cell_ext hb h.2.2.2.2.2.2.1, cell_ext hb h.2.2.2.2.2.2.2.1, cell_ext hb h.2.2.2.2.2.2.2.2.1, cell_ext hb h.2.2.2.2.2.2.2.2.2.1, cell_ext hb h.2.2.2.2.2.2.2.2.2.2.1, Ext.trans (of_and12s h) hb⟩
          have HKP := Lib.hid KP; clear KP
          go_wp2_with fail
          go_region_held3 (fun X => X.cell? ⟨w.heap.size, 0, none⟩ = some (.slice a n cap) ∧ X.cell? ⟨w.heap.size, 1, none⟩ = some (.slice a' n' cap') ∧ X.cell? ⟨w.heap.size + 1 + 1, 0, none⟩ = some (.int .i64 r2.lo) ∧ X.cell? ⟨w.heap.size + 1 + 1, 1, none⟩ = some (.int .i64 r2.hi) ∧ X.cell? ⟨w.heap.size + 1 + 1, 2, none⟩ = some (.int .i64 r2.st) ∧ X.cell? ⟨w.heap.size + 1 + 1, 3, none⟩ = some (.int .i64 r2.tr) ∧ X.cell? ⟨w.heap.size + 1 + 1, 4, none⟩ = some (.int .i64 r2.off) ∧ X.cell? ⟨w.heap.size + 1 + 1, 5, none⟩ = some (.int .i64 r2.dv) ∧ X.cell? ⟨w.heap.size + 1 + 1, 6, none⟩ = some (.int .i64 r2.tn) ∧ X.cell? ⟨b2, off + k * 2, none⟩ = some (.int .i64 (i : Int)) ∧ X.cell? ⟨b2, off + k * 2 + 1, none⟩ = some (.int .i64 (j : Int)) ∧ Hid (Ext wr X))
            (first | assumption | exact ⟨g1, g2, e0, e1, e2, e3, e4, e5, e6, c1, c2_, Ext.drew (Ext.refl _)⟩ | exact HKP.out _ _ (by assumption) hb | fail)
            (first | (go_at_call 45; refine (H45.out _ (EW.out.trans (of_and12s (by assumption)))).mono ?_; rintro e w' ⟨rfl, hb⟩) | fail)
          have HK := Lib.hid (hX.out.trans (of_and12s (by assumption)))
          go_wp2_with fail
          go_roundw
          case rel => exact ⟨k + 1, by omega, by go_num, by rw [HT.out], HK⟩
          case measure => simp [intV]; omega
        · have hkb : ¬ (k : Int) < (ln : Int) := by omega
          have hk2 : k = c.length := by rw [← HLN2.out]; omega
          have HTT := Lib.hid (show c.take k = c by rw [hk2]; exact List.take_length)
          clear hk2 hsb hsl
          rw [HTT.out]
          have hin := HIN1.out
          generalize sumF F2 c = sv at *
          have s1 : decide (sv ≥ G1) = true := by simp; omega
          have s2 : decide (G1 ≤ sv) = true := by simp; omega
          have s3 : decide (sv ≤ G2) = true := by simp; omega
          obtain ⟨y0, y1⟩ := HG.out.ext hX.out
          have HE := Lib.hid (HE.out.trans hX.out)
          go_wp2_with fail
          refine (works17 _).mono ?_
          rintro e w9 ⟨rfl, hb⟩
          have HE := Lib.hid (HE.out.trans hb); clear hb
          go_wp2
          go_ret
          exact ⟨rfl, HE.out⟩
end Go.Proofs.Ytcgheakadfjofaa
