/- ScaleProved, by its contract. -/
import Derived.Test.YtcgheakadfjofaaK1
namespace Go.Proofs.Ytcgheakadfjofaa
open Go.RowKit
set_option linter.unusedVariables false
set_option linter.unusedSimpArgs false
attribute [local go_sem] Oper.semAt_some
set_option maxRecDepth 100000 in
set_option maxHeartbeats 1500000 in
theorem proved8 (a a' : Option Addr) (cap cap' : Nat) (th bd : List Int) (r : Rl) (a8 : Option Addr) (cap8 : Nat) (ns : List Nat) (a3 : Option Addr) (cap3 : Nat) (ps : List Int) (w : World) (hlen : th.length ≤ cap ∧ cap ≤ 9223372036854775807) (hlen' : bd.length ≤ cap' ∧ cap' ≤ 9223372036854775807) (hr : th.length ≤ 5000 → Reads w (.slice a th.length cap) th) (hr' : bd.length ≤ 5000 → Reads w (.slice a' bd.length cap') bd) (hlen8 : ns.length ≤ cap8 ∧ cap8 ≤ 9223372036854775807) (hb8 : ∀ x ∈ ns, x ≤ 255) (hr8 : ns.length ≤ 5000 → Reads8 w (.slice a8 ns.length cap8) ns) (hlen3 : ps.length ≤ cap3 ∧ cap3 ≤ 9223372036854775807) (hr3 : ps.length ≤ 5000 → Reads w (.slice a3 ps.length cap3) ps) :
    Calls Try.prog 8 #[.agg #[.slice a th.length cap, .slice a' bd.length cap'], r.val, .slice a8 ns.length cap8, .slice a3 ps.length cap3] w fun e w' => e = .returned (.bool true) ∧ Ext w w' := by
  obtain ⟨BF, hf1, hf2⟩ := fine40 a a' cap cap' th bd r w hlen hlen' hr hr'
  have C40 := Lib.hid hf1
  obtain ⟨n, hn⟩ : ∃ n, n = th.length := ⟨_, rfl⟩
  obtain ⟨n', hn'⟩ : ∃ n', n' = bd.length := ⟨_, rfl⟩
  rw [← hn] at hlen hr ⊢
  rw [← hn'] at hlen' hr' ⊢
  have E0 := Lib.hid (Ext.alloc (Ext.alloc (Ext.refl w) (.cells #[.slice a n cap, .slice a' n' cap'] 25)) (.cells #[.int .i64 r.lo, .int .i64 r.hi, .int .i64 r.st, .int .i64 r.tr, .int .i64 r.off, .int .i64 r.dv, .int .i64 r.tn] 27))
  have P0 := Lib.hid (SR.new w (.slice a n cap) (.slice a' n' cap') r)
  rw [← hn, ← hn'] at C40 hf2
  obtain ⟨n8, hn8⟩ : ∃ n8, n8 = ns.length := ⟨_, rfl⟩
  obtain ⟨n3, hn3⟩ : ∃ n3, n3 = ps.length := ⟨_, rfl⟩
  rw [← hn8] at hlen8 hr8 ⊢
  rw [← hn3] at hlen3 hr3 ⊢
  cases BF with
  | false =>
    clear hr hr' hf1 hf2 hn hn' hr8 hr3 hn8 hn3 hb8
    obtain ⟨⟨g1, g2⟩, r0, r1, r2, r3, r4, r5, r6⟩ := P0.out
    have HE := E0
    have HP := P0
    go_enter Try.func8, Try.ntmps8
    go_wp2_with fail
    refine (C40.out _ HE.out).mono ?_
    rintro e w1 ⟨rfl, hb⟩
    obtain ⟨⟨g1, g2⟩, r0, r1, r2, r3, r4, r5, r6⟩ := HP.out.ext hb
    have HE := Lib.hid (HE.out.trans hb)
    have HP := Lib.hid (HP.out.ext hb)
    clear hb
    go_wp2_with fail
    refine (works17 _).mono ?_
    rintro e w9 ⟨rfl, hb⟩
    have HE := Lib.hid (HE.out.trans hb); clear hb
    go_wp2
    go_ret
    exact ⟨rfl, HE.out⟩
  | true =>
    by_cases hg8 : 60 < n8
    · have hz : decide ((n8 : Int) > 60) = true := by simp; omega
      have hz2 : decide ((60 : Int) < n8) = true := by simp; omega
      clear hr hr' hr8 hr3 hf1 hf2 hn hn' hn8 hn3 hb8
      obtain ⟨⟨g1, g2⟩, r0, r1, r2, r3, r4, r5, r6⟩ := P0.out
      have HE := E0
      have HP := P0
      go_enter Try.func8, Try.ntmps8
      go_wp2_with fail
      refine (C40.out _ HE.out).mono ?_
      rintro e w1 ⟨rfl, hb⟩
      obtain ⟨⟨g1, g2⟩, r0, r1, r2, r3, r4, r5, r6⟩ := HP.out.ext hb
      have HE := Lib.hid (HE.out.trans hb)
      have HP := Lib.hid (HP.out.ext hb)
      clear hb
      go_wp2_with fail
      refine (works17 _).mono ?_
      rintro e w9 ⟨rfl, hb⟩
      have HE := Lib.hid (HE.out.trans hb); clear hb
      go_wp2
      go_ret
      exact ⟨rfl, HE.out⟩
    have hz : decide ((n8 : Int) > 60) = false := by simp; omega
    have hz2 : decide ((60 : Int) < n8) = false := by simp; omega
    by_cases hg3 : 70 < n3
    · have hy : decide ((n3 : Int) > 70) = true := by simp; omega
      have hy2 : decide ((70 : Int) < n3) = true := by simp; omega
      clear hr hr' hr8 hr3 hf1 hf2 hn hn' hn8 hn3 hb8
      obtain ⟨⟨g1, g2⟩, r0, r1, r2, r3, r4, r5, r6⟩ := P0.out
      have HE := E0
      have HP := P0
      go_enter Try.func8, Try.ntmps8
      go_wp2_with fail
      refine (C40.out _ HE.out).mono ?_
      rintro e w1 ⟨rfl, hb⟩
      obtain ⟨⟨g1, g2⟩, r0, r1, r2, r3, r4, r5, r6⟩ := HP.out.ext hb
      have HE := Lib.hid (HE.out.trans hb)
      have HP := Lib.hid (HP.out.ext hb)
      clear hb
      go_wp2_with fail
      refine (works17 _).mono ?_
      rintro e w9 ⟨rfl, hb⟩
      have HE := Lib.hid (HE.out.trans hb); clear hb
      go_wp2
      go_ret
      exact ⟨rfl, HE.out⟩
    have hy : decide ((n3 : Int) > 70) = false := by simp; omega
    have hy2 : decide ((70 : Int) < n3) = false := by simp; omega
    have h8 := hr8 (by omega)
    have hps := hr3 (by omega)
    obtain ⟨hE, ht, hd⟩ := hf2 rfl
    have HT := Lib.hid ht; have HD := Lib.hid hd
    obtain ⟨q1, q2⟩ := vs_len hE
    have hB : bestV th bd r = bst (sF th bd r) allB (th.length - 1) 0 := by unfold bestV; rw [if_pos hE]
    have C26 := Lib.hid (fun (W : World) (h : Ext w W) => best26v _ _ th bd r W (ht.ext h) (hd.ext h))
    have C28 := Lib.hid (fun (W : World) (h : Ext w W) => cut28 _ _ th bd r W (ht.ext h) (hd.ext h))
    rw [hE] at C26 C28
    have hc24 : ∀ (W : World) (v : Value) (c : List (Nat × Nat)), Ext w W → ReadsLg W v (lgI c) → Cuts (sF th bd r) allB (th.length - 1) 0 c →
        Calls Try.prog 24 #[.agg #[.slice a n cap, .slice a' n' cap'], .agg #[.int .i64 r.lo, .int .i64 r.hi, .int .i64 r.st, .int .i64 r.tr, .int .i64 r.off, .int .i64 r.dv, .int .i64 r.tn], v] W fun e w' => e = .returned (.tuple #[.int .i64 (sumF (sF th bd r) c), .int .i64 0]) ∧ Ext W w' := fun W v c h h1 h2 => by
      have := cut24 (.slice a n cap) (.slice a' n' cap') v th bd r (lgI c) W (HT.out.ext h) (HD.out.ext h) h1
      rw [cutE_cuts (n := th.length - 1) hE (by omega) (by omega) h2] at this
      exact this
    have hc25 : ∀ (W : World) (v : Value) (c : List (Nat × Nat)), Ext w W → ReadsLg W v (lgI c) → Cuts (sF th bd r) allB (th.length - 1) 0 c →
        Calls Try.prog 25 #[.agg #[.slice a n cap, .slice a' n' cap'], .agg #[.int .i64 r.lo, .int .i64 r.hi, .int .i64 r.st, .int .i64 r.tr, .int .i64 r.off, .int .i64 r.dv, .int .i64 r.tn], v] W fun e w' => e = .returned (.tuple #[.int .i64 (sumF (sF th bd r) c), .int .i64 0]) ∧ Ext W w' := fun W v c h h1 h2 => by
      have := refcut25 (.slice a n cap) (.slice a' n' cap') v th bd r (lgI c) W (HT.out.ext h) (HD.out.ext h) h1
      rw [cutE_cuts (n := th.length - 1) hE (by omega) (by omega) h2] at this
      exact this
    have C24 := Lib.hid hc24; have C25 := Lib.hid hc25
    have C31 := Lib.hid (fun (W : World) (h : Ext w W) => prices31 _ _ th bd r n W (ht.ext h) (hd.ext h) hn)
    rw [hE] at C31
    unfold PricesPost at C31
    have hp29 : ∀ (W : World) (b : Nat), Ext w W → RowOwn w W b (rowK (bst (sF th bd r) allB (n - 1)) n 0) →
        Calls Try.prog 29 #[.agg #[.slice a n cap, .slice a' n' cap'], .agg #[.int .i64 r.lo, .int .i64 r.hi, .int .i64 r.st, .int .i64 r.tr, .int .i64 r.off, .int .i64 r.dv, .int .i64 r.tn], .slice (some ⟨b, 0, none⟩) n n] W fun e w' => e = .returned (.tuple #[.int .i64 (bestV th bd r), .int .i64 0]) ∧ Ext W w' := fun W b h h1 => by
      have := prices29 (.slice a n cap) (.slice a' n' cap') (.slice (some ⟨b, 0, none⟩) n n) th bd _ r W (HT.out.ext h) (HD.out.ext h) (h1.reads (by rw [rowK_len]; omega) (by rw [rowK_len]) n)
      rw [hn, prE_best hE, ← hB, ← hn] at this
      exact this
    have hp30 : ∀ (W : World) (b : Nat), Ext w W → RowOwn w W b (rowK (bst (sF th bd r) allB (n - 1)) n 0) →
        Calls Try.prog 30 #[.agg #[.slice a n cap, .slice a' n' cap'], .agg #[.int .i64 r.lo, .int .i64 r.hi, .int .i64 r.st, .int .i64 r.tr, .int .i64 r.off, .int .i64 r.dv, .int .i64 r.tn], .slice (some ⟨b, 0, none⟩) n n] W fun e w' => e = .returned (.tuple #[.int .i64 (bestV th bd r), .int .i64 0]) ∧ Ext W w' := fun W b h h1 => by
      have := refprices30 (.slice a n cap) (.slice a' n' cap') (.slice (some ⟨b, 0, none⟩) n n) th bd _ r W (HT.out.ext h) (HD.out.ext h) (h1.reads (by rw [rowK_len]; omega) (by rw [rowK_len]) n)
      rw [hn, prE_best hE, ← hB, ← hn] at this
      exact this
    have P29 := Lib.hid hp29; have P30 := Lib.hid hp30
    have C29 := Lib.hid (fun (W : World) (h : Ext w W) => prices29 _ _ _ th bd ps r W (ht.ext h) (hd.ext h) (hps.ext h))
    have C41 := Lib.hid (fun (W : World) (h : Ext w W) => cutting41 _ _ _ th bd r ns W (ht.ext h) (hd.ext h) (h8.ext h) hb8 (by omega) hE)
    have hle : ∀ c, Cuts (sF th bd r) allB (th.length - 1) 0 c → sumF (sF th bd r) c ≤ bestV th bd r := fun c hc => by rw [hB]; exact cuts_le c 0 hc
    have HLE := Lib.hid hle
    have hge := prE_ge (ps := ps) hE
    unfold CutPost at C28
    rw [← hB] at hge C28
    generalize (prE th bd r ps).1 = M at *
    generalize (prE th bd r ps).2 = em at *
    have HGE := Lib.hid hge
    generalize bestV th bd r = BV at *
    generalize rowK (bst (sF th bd r) allB (n - 1)) n 0 = row at *
    generalize hF : sF th bd r = F at *
    generalize hm : th.length - 1 = m at *
    clear hr hr' hr8 hr3 hf1 hf2 hc24 hc25 hp29 hp30 hle hge ht hd h8 hps hE hB hn hn' hn8 hn3 hb8 HT HD hF hm q1 q2
    obtain ⟨⟨g1, g2⟩, r0, r1, r2, r3, r4, r5, r6⟩ := P0.out
    have HE := E0
    have HP := P0
    go_enter Try.func8, Try.ntmps8
    go_wp2_with fail
    refine (C40.out _ HE.out).mono ?_
    rintro e w1 ⟨rfl, hb⟩
    obtain ⟨⟨g1, g2⟩, r0, r1, r2, r3, r4, r5, r6⟩ := HP.out.ext hb
    have HE := Lib.hid (HE.out.trans hb)
    have HP := Lib.hid (HP.out.ext hb)
    clear hb
    go_wp2_with fail
    refine (C26.out _ HE.out).mono ?_
    rintro e w2 ⟨rfl, hb⟩
    obtain ⟨⟨g1, g2⟩, r0, r1, r2, r3, r4, r5, r6⟩ := HP.out.ext hb
    have HE := Lib.hid (HE.out.trans hb)
    have HP := Lib.hid (HP.out.ext hb)
    clear hb
    go_wp2_with fail
    refine (C28.out _ HE.out).mono ?_
    rintro e w3 ⟨hb, ⟨he, -⟩ | ⟨-, v, c, rfl, hv, hc1, hc2⟩⟩
    · exact absurd rfl he
    obtain ⟨⟨g1, g2⟩, r0, r1, r2, r3, r4, r5, r6⟩ := HP.out.ext hb
    have HE := Lib.hid (HE.out.trans hb)
    have HP := Lib.hid (HP.out.ext hb)
    have HV := Lib.hid hv; have HC1 := Lib.hid hc1; have HC2 := Lib.hid hc2
    clear hb hv hc1 hc2
    go_wp2_with fail
    refine (C31.out _ HE.out).mono ?_
    rintro e w4 (⟨he, -, -⟩ | ⟨-, b, rfl, hrow⟩)
    · exact absurd rfl he
    have hb := hrow.ext0
    obtain ⟨⟨g1, g2⟩, r0, r1, r2, r3, r4, r5, r6⟩ := HP.out.ext hb
    have HX := Lib.hid HE.out
    have HE := Lib.hid (HE.out.trans hb)
    have HP := Lib.hid (HP.out.ext hb)
    have HV := Lib.hid (HV.out.ext hb)
    have HROW := Lib.hid (show RowOwn w _ b _ from ⟨hrow.blk, Nat.le_trans HX.out.size hrow.new, HE.out⟩)
    clear hb hrow HX
    have hsum := HC2.out
    have HS := Lib.hid hsum
    clear hsum
    go_wp2_with fail
    refine (C24.out _ _ _ HE.out HV.out HC1.out).mono ?_
    rintro e w5 ⟨rfl, hb⟩
    obtain ⟨⟨g1, g2⟩, r0, r1, r2, r3, r4, r5, r6⟩ := HP.out.ext hb
    have HE := Lib.hid (HE.out.trans hb)
    have HP := Lib.hid (HP.out.ext hb)
    have HV := Lib.hid (HV.out.ext hb)
    have HROW := Lib.hid (HROW.out.ext hb)
    clear hb
    rw [HS.out]
    go_wp2_with fail
    refine (P29.out _ _ HE.out HROW.out).mono ?_
    rintro e w6 ⟨rfl, hb⟩
    obtain ⟨⟨g1, g2⟩, r0, r1, r2, r3, r4, r5, r6⟩ := HP.out.ext hb
    have HE := Lib.hid (HE.out.trans hb)
    have HP := Lib.hid (HP.out.ext hb)
    have HV := Lib.hid (HV.out.ext hb)
    have HROW := Lib.hid (HROW.out.ext hb)
    clear hb
    go_wp2_with fail
    refine (C25.out _ _ _ HE.out HV.out HC1.out).mono ?_
    rintro e w7 ⟨rfl, hb⟩
    obtain ⟨⟨g1, g2⟩, r0, r1, r2, r3, r4, r5, r6⟩ := HP.out.ext hb
    have HE := Lib.hid (HE.out.trans hb)
    have HP := Lib.hid (HP.out.ext hb)
    have HV := Lib.hid (HV.out.ext hb)
    have HROW := Lib.hid (HROW.out.ext hb)
    clear hb
    rw [HS.out]
    go_wp2_with fail
    refine (P30.out _ _ HE.out HROW.out).mono ?_
    rintro e w8 ⟨rfl, hb⟩
    obtain ⟨⟨g1, g2⟩, r0, r1, r2, r3, r4, r5, r6⟩ := HP.out.ext hb
    have HE := Lib.hid (HE.out.trans hb)
    have HP := Lib.hid (HP.out.ext hb)
    clear hb
    clear HROW HV HC1 HC2 HS
    go_wp2_with fail
    refine (C41.out _ HE.out).mono ?_
    rintro e w9 ⟨v2, c2, rfl, hv2, hc3, hb⟩
    obtain ⟨⟨g1, g2⟩, r0, r1, r2, r3, r4, r5, r6⟩ := HP.out.ext hb
    have HE := Lib.hid (HE.out.trans hb)
    have HP := Lib.hid (HP.out.ext hb)
    have HV := Lib.hid hv2; have HC1 := Lib.hid hc3
    have hk := HLE.out c2 hc3
    clear hb hv2 hc3
    go_wp2_with fail
    refine (C24.out _ _ _ HE.out HV.out HC1.out).mono ?_
    rintro e w10 ⟨rfl, hb⟩
    obtain ⟨⟨g1, g2⟩, r0, r1, r2, r3, r4, r5, r6⟩ := HP.out.ext hb
    have HE := Lib.hid (HE.out.trans hb)
    have HP := Lib.hid (HP.out.ext hb)
    have HV := Lib.hid (HV.out.ext hb)
    clear hb
    go_wp2_with fail
    refine (C29.out _ HE.out).mono ?_
    rintro e w11 ⟨rfl, hb⟩
    obtain ⟨⟨g1, g2⟩, r0, r1, r2, r3, r4, r5, r6⟩ := HP.out.ext hb
    have HE := Lib.hid (HE.out.trans hb)
    have HP := Lib.hid (HP.out.ext hb)
    have HV := Lib.hid (HV.out.ext hb)
    clear hb
    go_wp2_with fail
    refine (C25.out _ _ _ HE.out HV.out HC1.out).mono ?_
    rintro e w12 ⟨rfl, hb⟩
    obtain ⟨⟨g1, g2⟩, r0, r1, r2, r3, r4, r5, r6⟩ := HP.out.ext hb
    have HE := Lib.hid (HE.out.trans hb)
    have HP := Lib.hid (HP.out.ext hb)
    clear hb
    generalize sumF F c2 = K at *
    have hk1 : decide (K ≤ BV) = true := by simpa using hk
    by_cases hem : em = 0
    · have hM := HGE.out hem
      have hem1 : (em != 0) = false := by simpa using hem
      have hm1 : decide (M ≥ BV) = true := by simpa using hM
      have hm2 : decide (M ≥ K) = true := by simp; omega
      have hm3 : decide (BV ≤ M) = true := by simpa using hM
      have hm4 : decide (K ≤ M) = true := by simp; omega
      clear hem
      go_wp2_with fail
      refine (works17 _).mono ?_
      rintro e w9 ⟨rfl, hb⟩
      have HE := Lib.hid (HE.out.trans hb); clear hb
      go_wp2
      go_ret
      exact ⟨rfl, HE.out⟩
    · have hem1 : (em != 0) = true := by simpa using hem
      clear hem
      go_wp2_with fail
      refine (works17 _).mono ?_
      rintro e w9 ⟨rfl, hb⟩
      have HE := Lib.hid (HE.out.trans hb); clear hb
      go_wp2
      go_ret
      exact ⟨rfl, HE.out⟩
end Go.Proofs.Ytcgheakadfjofaa
