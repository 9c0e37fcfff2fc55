/- ScaleCut, by its contract. -/
import Derived.Test.YtcgheakadfjofaaK1
import Derived.Test.YtcgheakadfjofaaH5
namespace Go.Proofs.Ytcgheakadfjofaa
open Go.RowKit
set_option linter.unusedVariables false
set_option linter.unusedSimpArgs false
attribute [local go_sem] Oper.semAt_some
set_option maxRecDepth 100000 in
set_option maxHeartbeats 8000000 in
theorem cut12 (a a' : Option Addr) (cap cap' : Nat) (th bd : List Int) (r : Rl) (pl : Nat) (a8 : Option Addr) (cap8 : Nat) (ns : List Nat) (w : World) (hlen : th.length ≤ cap ∧ cap ≤ 9223372036854775807) (hlen' : bd.length ≤ cap' ∧ cap' ≤ 9223372036854775807) (hr : th.length ≤ 5000 → Reads w (.slice a th.length cap) th) (hr' : bd.length ≤ 5000 → Reads w (.slice a' bd.length cap') bd) (hpl : pl ≤ 255) (hlen8 : ns.length ≤ cap8 ∧ cap8 ≤ 9223372036854775807) (hb8 : ∀ x ∈ ns, x ≤ 255) (hr8 : ns.length ≤ 5000 → Reads8 w (.slice a8 ns.length cap8) ns) :
    Calls Try.prog 12 #[.agg #[.slice a th.length cap, .slice a' bd.length cap'], r.val, .int .u8 (pl : Int), .slice a8 ns.length cap8] w fun e w' => e = .returned (.bool true) ∧ Ext w w' := by
  obtain ⟨BF, hf1, hf2⟩ := fine40 a a' cap cap' th bd r w hlen hlen' hr hr'
  have C40 := Lib.hid hf1
  obtain ⟨n, hn⟩ : ∃ n, n = th.length := ⟨_, rfl⟩
  obtain ⟨n', hn'⟩ : ∃ n', n' = bd.length := ⟨_, rfl⟩
  rw [← hn] at hlen hr ⊢
  rw [← hn'] at hlen' hr' ⊢
  have E0 := Lib.hid (Ext.alloc (Ext.alloc (Ext.refl w) (.cells #[.slice a n cap, .slice a' n' cap'] 25)) (.cells #[.int .i64 r.lo, .int .i64 r.hi, .int .i64 r.st, .int .i64 r.tr, .int .i64 r.off, .int .i64 r.dv, .int .i64 r.tn] 27))
  have P0 := Lib.hid (SR.new w (.slice a n cap) (.slice a' n' cap') r)
  rw [← hn, ← hn'] at C40 hf2
  obtain ⟨n8, hn8⟩ : ∃ n8, n8 = ns.length := ⟨_, rfl⟩
  rw [← hn8] at hlen8 hr8 ⊢
  cases BF with
  | false =>
    clear hr hr' hf1 hf2 hn hn' hr8 hn8 hb8
    obtain ⟨⟨g1, g2⟩, r0, r1, r2, r3, r4, r5, r6⟩ := P0.out
    have HE := E0
    have HP := P0
    go_enter Try.func12, Try.ntmps12
    go_wp2_with fail
    refine (C40.out _ HE.out).mono ?_
    rintro e w1 ⟨rfl, hb⟩
    obtain ⟨⟨g1, g2⟩, r0, r1, r2, r3, r4, r5, r6⟩ := HP.out.ext hb
    have HE := Lib.hid (HE.out.trans hb)
    have HP := Lib.hid (HP.out.ext hb)
    clear hb
    go_wp2_with fail
    refine (works17 _).mono ?_
    rintro e w9 ⟨rfl, hb⟩
    have HE := Lib.hid (HE.out.trans hb); clear hb
    go_wp2
    go_ret
    exact ⟨rfl, HE.out⟩
  | true =>
    by_cases hg8 : 60 < n8
    · have hz : decide ((n8 : Int) > 60) = true := by simp; omega
      have hz2 : decide ((60 : Int) < n8) = true := by simp; omega
      clear hr hr' hr8 hf1 hf2 hn hn' hn8 hb8
      obtain ⟨⟨g1, g2⟩, r0, r1, r2, r3, r4, r5, r6⟩ := P0.out
      have HE := E0
      have HP := P0
      go_enter Try.func12, Try.ntmps12
      go_wp2_with fail
      refine (C40.out _ HE.out).mono ?_
      rintro e w1 ⟨rfl, hb⟩
      obtain ⟨⟨g1, g2⟩, r0, r1, r2, r3, r4, r5, r6⟩ := HP.out.ext hb
      have HE := Lib.hid (HE.out.trans hb)
      have HP := Lib.hid (HP.out.ext hb)
      clear hb
      go_wp2_with fail
      refine (works17 _).mono ?_
      rintro e w9 ⟨rfl, hb⟩
      have HE := Lib.hid (HE.out.trans hb); clear hb
      go_wp2
      go_ret
      exact ⟨rfl, HE.out⟩
    have hz : decide ((n8 : Int) > 60) = false := by simp; omega
    have hz2 : decide ((60 : Int) < n8) = false := by simp; omega
    have h8 := hr8 (by omega)
    obtain ⟨hE, ht, hd⟩ := hf2 rfl
    have HT := Lib.hid ht; have HD := Lib.hid hd
    obtain ⟨q1, q2⟩ := vs_len hE
    have hB : bestV th bd r = bst (sF th bd r) allB (th.length - 1) 0 := by unfold bestV; rw [if_pos hE]
    have C26 := Lib.hid (fun (W : World) (h : Ext w W) => best26v _ _ th bd r W (ht.ext h) (hd.ext h))
    have C28 := Lib.hid (fun (W : World) (h : Ext w W) => cut28 _ _ th bd r W (ht.ext h) (hd.ext h))
    rw [hE] at C26 C28
    have hc24 : ∀ (W : World) (v : Value) (c : List (Nat × Nat)), Ext w W → ReadsLg W v (lgI c) → Cuts (sF th bd r) allB (th.length - 1) 0 c →
        Calls Try.prog 24 #[.agg #[.slice a n cap, .slice a' n' cap'], .agg #[.int .i64 r.lo, .int .i64 r.hi, .int .i64 r.st, .int .i64 r.tr, .int .i64 r.off, .int .i64 r.dv, .int .i64 r.tn], v] W fun e w' => e = .returned (.tuple #[.int .i64 (sumF (sF th bd r) c), .int .i64 0]) ∧ Ext W w' := fun W v c h h1 h2 => by
      have := cut24 (.slice a n cap) (.slice a' n' cap') v th bd r (lgI c) W (HT.out.ext h) (HD.out.ext h) h1
      rw [cutE_cuts (n := th.length - 1) hE (by omega) (by omega) h2] at this
      exact this
    have hc25 : ∀ (W : World) (v : Value) (c : List (Nat × Nat)), Ext w W → ReadsLg W v (lgI c) → Cuts (sF th bd r) allB (th.length - 1) 0 c →
        Calls Try.prog 25 #[.agg #[.slice a n cap, .slice a' n' cap'], .agg #[.int .i64 r.lo, .int .i64 r.hi, .int .i64 r.st, .int .i64 r.tr, .int .i64 r.off, .int .i64 r.dv, .int .i64 r.tn], v] W fun e w' => e = .returned (.tuple #[.int .i64 (sumF (sF th bd r) c), .int .i64 0]) ∧ Ext W w' := fun W v c h h1 h2 => by
      have := refcut25 (.slice a n cap) (.slice a' n' cap') v th bd r (lgI c) W (HT.out.ext h) (HD.out.ext h) h1
      rw [cutE_cuts (n := th.length - 1) hE (by omega) (by omega) h2] at this
      exact this
    have C24 := Lib.hid hc24; have C25 := Lib.hid hc25
    have C41 := Lib.hid (fun (W : World) (h : Ext w W) => cutting41 _ _ _ th bd r ns W (ht.ext h) (hd.ext h) (h8.ext h) hb8 (by omega) hE)
    obtain ⟨p, hp⟩ : ∃ p : Nat, p = pl % n := ⟨_, rfl⟩
    have hpn : p < n := by rw [hp]; exact Nat.mod_lt _ (by omega)
    have hpp : (pl : Int) % (n : Int) = (p : Int) := by rw [hp]; omega
    have hn0 : ((n : Int) == 0) = false := by simp; omega
    have hn01 : ¬ (n : Int) = 0 := by omega
    have C34 := Lib.hid (fun (W : World) (h : Ext w W) => kind34 a n cap (.slice a' n' cap') th bd r (p : Int) W (ht.ext h) (hd.ext h))
    have C36 := Lib.hid (fun (W : World) (h : Ext w W) => loss36 a n cap (.slice a' n' cap') th bd r (p : Int) W (ht.ext h) hlen.1 (hd.ext h))
    rw [kindE_ok hE (show p ≤ th.length - 1 by omega)] at C34
    rw [lossE_ok hE (show p ≤ th.length - 1 by omega)] at C36
    have C32 := Lib.hid (fun (W : World) (h : Ext w W) => count32 _ _ th bd r W (ht.ext h) (hd.ext h))
    have hcnt : countE th bd r = (0, 4) ∨ ∃ k : Int, 1 ≤ k ∧ countE th bd r = (k, 0) := by
      unfold countE
      rw [if_neg (by simpa using hE)]
      split
      · exact .inl rfl
      · refine .inr ⟨_, ?_, rfl⟩
        have := (cntV_bd (M := 1099511627777) (by omega) (f := sF th bd r) (lt := allB) (n := th.length - 1) 0).2.2.2 rfl
        omega
    have hk := kind_bd (sF th bd r) (th.length - 1) p
    have hl := loss_nonneg (f := sF th bd r) (show p ≤ th.length - 1 by omega)
    have hkl : kindV (sF th bd r) (th.length - 1) p ≠ 0 → _ := kind_loss (f := sF th bd r) (n := th.length - 1) (p := p)
    have htc := fun c h h2 => kind_touch (f := sF th bd r) (n := th.length - 1) (p := p) (c := c) h h2
    have hc5 : ∀ c, Cuts (sF th bd r) allB (th.length - 1) 0 c → (lgI c).length ≤ 5000 := fun c h => by
      have := cuts_len c 0 h
      rw [lgI_len]; omega
    unfold CutPost at C28
    rw [← hB] at C28 htc
    generalize countE th bd r = ce at *
    generalize bestV th bd r = BV at *
    generalize kindV (sF th bd r) (th.length - 1) p = K at *
    generalize bst (sF th bd r) allB (th.length - 1) 0 - bst (sF th bd r) allB (th.length - 1) p - bst (sF th bd r) allB p 0 = L at *
    generalize hF : sF th bd r = F at *
    generalize hm : th.length - 1 = m at *
    have HTC := Lib.hid htc; have HC5 := Lib.hid hc5
    have k0 : decide (K < 0) = false := by simp; omega
    have k2 : decide (K > 2) = false := by simp; omega
    have k2' : decide (2 < K) = false := by simp; omega
    have l0 : decide (L < 0) = false := by simp; omega
    clear hr hr' hr8 hf1 hf2 hc24 hc25 htc hc5 ht hd h8 hE hB hn hn' hn8 hb8 HT HD hF hm q1 q2 C24 hp
    rcases hcnt with rfl | ⟨ck, hck, rfl⟩
    · dsimp only at C32
      by_cases hKz : K = 0
      · have hKb : (K != 0) = false := by simpa using hKz
        have hK2c : (K != 2) = true := by rw [hKz]; rfl
        obtain ⟨⟨g1, g2⟩, r0, r1, r2, r3, r4, r5, r6⟩ := P0.out
        have HE := E0
        have HP := P0
        go_enter Try.func12, Try.ntmps12
        go_wp2_with fail
        refine (C40.out _ HE.out).mono ?_
        rintro e w1 ⟨rfl, hb⟩
        obtain ⟨⟨g1, g2⟩, r0, r1, r2, r3, r4, r5, r6⟩ := HP.out.ext hb
        have HE := Lib.hid (HE.out.trans hb)
        have HP := Lib.hid (HP.out.ext hb)
        clear hb
        go_wp2_with fail
        refine (C34.out _ HE.out).mono ?_
        rintro e w2 ⟨rfl, hb⟩
        obtain ⟨⟨g1, g2⟩, r0, r1, r2, r3, r4, r5, r6⟩ := HP.out.ext hb
        have HE := Lib.hid (HE.out.trans hb)
        have HP := Lib.hid (HP.out.ext hb)
        clear hb
        go_wp2_with fail
        refine (C36.out _ HE.out).mono ?_
        rintro e w3 ⟨rfl, hb⟩
        obtain ⟨⟨g1, g2⟩, r0, r1, r2, r3, r4, r5, r6⟩ := HP.out.ext hb
        have HE := Lib.hid (HE.out.trans hb)
        have HP := Lib.hid (HP.out.ext hb)
        clear hb
        go_wp2_with fail
        refine (C26.out _ HE.out).mono ?_
        rintro e w4 ⟨rfl, hb⟩
        obtain ⟨⟨g1, g2⟩, r0, r1, r2, r3, r4, r5, r6⟩ := HP.out.ext hb
        have HE := Lib.hid (HE.out.trans hb)
        have HP := Lib.hid (HP.out.ext hb)
        clear hb
        go_wp2_with fail
        refine (C28.out _ HE.out).mono ?_
        rintro e w5 ⟨hb, ⟨he, -⟩ | ⟨-, v, c, rfl, hv, hc1, hc2⟩⟩
        · exact absurd rfl he
        obtain ⟨⟨g1, g2⟩, r0, r1, r2, r3, r4, r5, r6⟩ := HP.out.ext hb
        have HE := Lib.hid (HE.out.trans hb)
        have HP := Lib.hid (HP.out.ext hb)
        have HV := Lib.hid hv; have HC1 := Lib.hid hc1; have HC2 := Lib.hid hc2
        clear hb hv hc1 hc2
        go_wp2_with fail
        refine (C32.out _ HE.out).mono ?_
        rintro e w6 ⟨rfl, hb⟩
        obtain ⟨⟨g1, g2⟩, r0, r1, r2, r3, r4, r5, r6⟩ := HP.out.ext hb
        have HE := Lib.hid (HE.out.trans hb)
        have HP := Lib.hid (HP.out.ext hb)
        have HV := Lib.hid (HV.out.ext hb)
        clear hb
        go_wp2_with fail
        refine (C41.out _ HE.out).mono ?_
        rintro e w7 ⟨v2, c2, rfl, hv2, hc3, hb⟩
        obtain ⟨⟨g1, g2⟩, r0, r1, r2, r3, r4, r5, r6⟩ := HP.out.ext hb
        have HE := Lib.hid (HE.out.trans hb)
        have HP := Lib.hid (HP.out.ext hb)
        have HV := Lib.hid (HV.out.ext hb)
        have HV2 := Lib.hid hv2; have HC3 := Lib.hid hc3
        clear hb hv2 hc3
        go_wp2_with fail
        refine (C25.out _ _ _ HE.out HV2.out HC3.out).mono ?_
        rintro e w8 ⟨rfl, hb⟩
        obtain ⟨⟨g1, g2⟩, r0, r1, r2, r3, r4, r5, r6⟩ := HP.out.ext hb
        have HE := Lib.hid (HE.out.trans hb)
        have HP := Lib.hid (HP.out.ext hb)
        have HV := Lib.hid (HV.out.ext hb)
        have HV2 := Lib.hid (HV2.out.ext hb)
        clear hb
        by_cases hx : sumF F c2 = BV
        · have HX := Lib.hid hx
          have hxb : (sumF F c2 != BV) = false := by simpa using hx
          clear hx
          go_wp2_with fail
          refine (C25.out _ _ _ HE.out HV2.out HC3.out).mono ?_
          rintro e w9 ⟨rfl, hb⟩
          obtain ⟨⟨g1, g2⟩, r0, r1, r2, r3, r4, r5, r6⟩ := HP.out.ext hb
          have HE := Lib.hid (HE.out.trans hb)
          have HP := Lib.hid (HP.out.ext hb)
          have HW := Lib.hid (HV2.out.ext hb)
          clear hb
          rw [HX.out]
          obtain ⟨hl5, av, capv, hve⟩ := HW.out.shape
          subst hve
          obtain ⟨t1, t2⟩ := HTC.out c2 HC3.out HX.out
          generalize lgI c2 = ls at *
          have T1 := Lib.hid t1; have T2 := Lib.hid t2
          obtain ⟨ln, hln⟩ : ∃ ln, ln = ls.length := ⟨_, rfl⟩
          rw [← hln] at HW hl5 ⊢
          have HLN := Lib.hid hln
          clear t1 t2 hln
          go_wp2_with fail
          go_loopw [23, 24] (fun s i wr => ∃ k : Nat, k ≤ ln ∧ i = .int .i64 (k : Int) ∧ s = .bool (touchB (ls.take k) p) ∧ Hid (Ext w9 wr)) (fun s i wr => ln - (intV i).toNat)
          case atStart => exact ⟨0, Nat.zero_le _, rfl, rfl, Lib.hid (Ext.refl _)⟩
          case round =>
            obtain ⟨k, hk1, rfl, rfl, hX⟩ := hrel
            by_cases hlt : k < ln
            · obtain ⟨b2, off, ⟨x, y⟩, rfl, hq, c1, c2⟩ := (HW.out.ext hX.out).at (show k < ls.length by rw [← HLN.out]; exact hlt)
              have hT := touchB_snoc (ls.take k) (x, y) p
              rw [← take_snoc hq] at hT
              have HTK := Lib.hid hT
              simp only at c1 c2
              clear hq hT
              have hka : (0 : Int) ≤ (k : Int) := by omega
              have hkb : (k : Int) < (ln : Int) := by omega
              cases htk : touchB (ls.take k) p
              · by_cases hx1 : x = (p : Int)
                · have hx2 : (x == (p : Int)) = true := by simpa using hx1
                  have HN := Lib.hid (show touchB (ls.take (k + 1)) p = true by rw [HTK.out]; simp [hx1])
                  clear hx1 htk HTK
                  go_wp2_with fail
                  go_roundw
                  case rel => exact ⟨k + 1, by omega, by go_num, by rw [HN.out], hX⟩
                  case measure => simp [intV]; omega
                · have hx2 : (x == (p : Int)) = false := by simpa using hx1
                  have HN := Lib.hid (show touchB (ls.take (k + 1)) p = (y == (p : Int)) by rw [HTK.out, htk]; simp [hx1])
                  clear hx1 htk HTK
                  go_wp2_with fail
                  go_roundw
                  case rel => exact ⟨k + 1, by omega, by go_num, by rw [HN.out], hX⟩
                  case measure => simp [intV]; omega
              · have HN := Lib.hid (show touchB (ls.take (k + 1)) p = true by rw [HTK.out, htk]; simp)
                clear htk HTK
                go_wp2_with fail
                go_roundw
                case rel => exact ⟨k + 1, by omega, by go_num, by rw [HN.out], hX⟩
                case measure => simp [intV]; omega
            · have hkb : ¬ (k : Int) < (ln : Int) := by omega
              have hk2 : k = ls.length := by rw [← HLN.out]; omega
              have HTT := Lib.hid (show ls.take k = ls by rw [hk2]; exact List.take_length)
              clear hk2
              rw [HTT.out]
              have HE := Lib.hid (HE.out.trans hX.out)
              rw [T1.out hKz]
              go_wp2_with fail
              refine (works17 _).mono ?_
              rintro e w9 ⟨rfl, hb⟩
              have HE := Lib.hid (HE.out.trans hb); clear hb
              go_wp2
              go_ret
              exact ⟨rfl, HE.out⟩
        · have hxb : (sumF F c2 != BV) = true := by simpa using hx
          clear hx HV2 HC3
          go_wp2_with fail
          refine (C25.out _ _ _ HE.out HV.out HC1.out).mono ?_
          rintro e w9 ⟨rfl, hb⟩
          obtain ⟨⟨g1, g2⟩, r0, r1, r2, r3, r4, r5, r6⟩ := HP.out.ext hb
          have HE := Lib.hid (HE.out.trans hb)
          have HP := Lib.hid (HP.out.ext hb)
          have HW := Lib.hid (HV.out.ext hb)
          clear hb
          rw [HC2.out]
          obtain ⟨hl5, av, capv, hve⟩ := HW.out.shape
          subst hve
          obtain ⟨t1, t2⟩ := HTC.out c HC1.out HC2.out
          generalize lgI c = ls at *
          have T1 := Lib.hid t1; have T2 := Lib.hid t2
          obtain ⟨ln, hln⟩ : ∃ ln, ln = ls.length := ⟨_, rfl⟩
          rw [← hln] at HW hl5 ⊢
          have HLN := Lib.hid hln
          clear t1 t2 hln
          go_wp2_with fail
          go_loopw [23, 24] (fun s i wr => ∃ k : Nat, k ≤ ln ∧ i = .int .i64 (k : Int) ∧ s = .bool (touchB (ls.take k) p) ∧ Hid (Ext w9 wr)) (fun s i wr => ln - (intV i).toNat)
          case atStart => exact ⟨0, Nat.zero_le _, rfl, rfl, Lib.hid (Ext.refl _)⟩
          case round =>
            obtain ⟨k, hk1, rfl, rfl, hX⟩ := hrel
            by_cases hlt : k < ln
            · obtain ⟨b2, off, ⟨x, y⟩, rfl, hq, c1, c2⟩ := (HW.out.ext hX.out).at (show k < ls.length by rw [← HLN.out]; exact hlt)
              have hT := touchB_snoc (ls.take k) (x, y) p
              rw [← take_snoc hq] at hT
              have HTK := Lib.hid hT
              simp only at c1 c2
              clear hq hT
              have hka : (0 : Int) ≤ (k : Int) := by omega
              have hkb : (k : Int) < (ln : Int) := by omega
              cases htk : touchB (ls.take k) p
              · by_cases hx1 : x = (p : Int)
                · have hx2 : (x == (p : Int)) = true := by simpa using hx1
                  have HN := Lib.hid (show touchB (ls.take (k + 1)) p = true by rw [HTK.out]; simp [hx1])
                  clear hx1 htk HTK
                  go_wp2_with fail
                  go_roundw
                  case rel => exact ⟨k + 1, by omega, by go_num, by rw [HN.out], hX⟩
                  case measure => simp [intV]; omega
                · have hx2 : (x == (p : Int)) = false := by simpa using hx1
                  have HN := Lib.hid (show touchB (ls.take (k + 1)) p = (y == (p : Int)) by rw [HTK.out, htk]; simp [hx1])
                  clear hx1 htk HTK
                  go_wp2_with fail
                  go_roundw
                  case rel => exact ⟨k + 1, by omega, by go_num, by rw [HN.out], hX⟩
                  case measure => simp [intV]; omega
              · have HN := Lib.hid (show touchB (ls.take (k + 1)) p = true by rw [HTK.out, htk]; simp)
                clear htk HTK
                go_wp2_with fail
                go_roundw
                case rel => exact ⟨k + 1, by omega, by go_num, by rw [HN.out], hX⟩
                case measure => simp [intV]; omega
            · have hkb : ¬ (k : Int) < (ln : Int) := by omega
              have hk2 : k = ls.length := by rw [← HLN.out]; omega
              have HTT := Lib.hid (show ls.take k = ls by rw [hk2]; exact List.take_length)
              clear hk2
              rw [HTT.out]
              have HE := Lib.hid (HE.out.trans hX.out)
              rw [T1.out hKz]
              go_wp2_with fail
              refine (works17 _).mono ?_
              rintro e w9 ⟨rfl, hb⟩
              have HE := Lib.hid (HE.out.trans hb); clear hb
              go_wp2
              go_ret
              exact ⟨rfl, HE.out⟩
      · have hKb : (K != 0) = true := by simpa using hKz
        have hLb : (L != 0) = false := by have := hkl hKz; simp; omega
        clear hkl hKz
        obtain ⟨⟨g1, g2⟩, r0, r1, r2, r3, r4, r5, r6⟩ := P0.out
        have HE := E0
        have HP := P0
        go_enter Try.func12, Try.ntmps12
        go_wp2_with fail
        refine (C40.out _ HE.out).mono ?_
        rintro e w1 ⟨rfl, hb⟩
        obtain ⟨⟨g1, g2⟩, r0, r1, r2, r3, r4, r5, r6⟩ := HP.out.ext hb
        have HE := Lib.hid (HE.out.trans hb)
        have HP := Lib.hid (HP.out.ext hb)
        clear hb
        go_wp2_with fail
        refine (C34.out _ HE.out).mono ?_
        rintro e w2 ⟨rfl, hb⟩
        obtain ⟨⟨g1, g2⟩, r0, r1, r2, r3, r4, r5, r6⟩ := HP.out.ext hb
        have HE := Lib.hid (HE.out.trans hb)
        have HP := Lib.hid (HP.out.ext hb)
        clear hb
        go_wp2_with fail
        refine (C36.out _ HE.out).mono ?_
        rintro e w3 ⟨rfl, hb⟩
        obtain ⟨⟨g1, g2⟩, r0, r1, r2, r3, r4, r5, r6⟩ := HP.out.ext hb
        have HE := Lib.hid (HE.out.trans hb)
        have HP := Lib.hid (HP.out.ext hb)
        clear hb
        go_wp2_with fail
        refine (C26.out _ HE.out).mono ?_
        rintro e w4 ⟨rfl, hb⟩
        obtain ⟨⟨g1, g2⟩, r0, r1, r2, r3, r4, r5, r6⟩ := HP.out.ext hb
        have HE := Lib.hid (HE.out.trans hb)
        have HP := Lib.hid (HP.out.ext hb)
        clear hb
        go_wp2_with fail
        refine (C28.out _ HE.out).mono ?_
        rintro e w5 ⟨hb, ⟨he, -⟩ | ⟨-, v, c, rfl, hv, hc1, hc2⟩⟩
        · exact absurd rfl he
        obtain ⟨⟨g1, g2⟩, r0, r1, r2, r3, r4, r5, r6⟩ := HP.out.ext hb
        have HE := Lib.hid (HE.out.trans hb)
        have HP := Lib.hid (HP.out.ext hb)
        have HV := Lib.hid hv; have HC1 := Lib.hid hc1; have HC2 := Lib.hid hc2
        clear hb hv hc1 hc2
        go_wp2_with fail
        refine (C32.out _ HE.out).mono ?_
        rintro e w6 ⟨rfl, hb⟩
        obtain ⟨⟨g1, g2⟩, r0, r1, r2, r3, r4, r5, r6⟩ := HP.out.ext hb
        have HE := Lib.hid (HE.out.trans hb)
        have HP := Lib.hid (HP.out.ext hb)
        have HV := Lib.hid (HV.out.ext hb)
        clear hb
        go_wp2_with fail
        refine (C41.out _ HE.out).mono ?_
        rintro e w7 ⟨v2, c2, rfl, hv2, hc3, hb⟩
        obtain ⟨⟨g1, g2⟩, r0, r1, r2, r3, r4, r5, r6⟩ := HP.out.ext hb
        have HE := Lib.hid (HE.out.trans hb)
        have HP := Lib.hid (HP.out.ext hb)
        have HV := Lib.hid (HV.out.ext hb)
        have HV2 := Lib.hid hv2; have HC3 := Lib.hid hc3
        clear hb hv2 hc3
        go_wp2_with fail
        refine (C25.out _ _ _ HE.out HV2.out HC3.out).mono ?_
        rintro e w8 ⟨rfl, hb⟩
        obtain ⟨⟨g1, g2⟩, r0, r1, r2, r3, r4, r5, r6⟩ := HP.out.ext hb
        have HE := Lib.hid (HE.out.trans hb)
        have HP := Lib.hid (HP.out.ext hb)
        have HV := Lib.hid (HV.out.ext hb)
        have HV2 := Lib.hid (HV2.out.ext hb)
        clear hb
        by_cases hx : sumF F c2 = BV
        · have HX := Lib.hid hx
          have hxb : (sumF F c2 != BV) = false := by simpa using hx
          clear hx
          go_wp2_with fail
          refine (C25.out _ _ _ HE.out HV2.out HC3.out).mono ?_
          rintro e w9 ⟨rfl, hb⟩
          obtain ⟨⟨g1, g2⟩, r0, r1, r2, r3, r4, r5, r6⟩ := HP.out.ext hb
          have HE := Lib.hid (HE.out.trans hb)
          have HP := Lib.hid (HP.out.ext hb)
          have HW := Lib.hid (HV2.out.ext hb)
          clear hb
          rw [HX.out]
          obtain ⟨hl5, av, capv, hve⟩ := HW.out.shape
          subst hve
          obtain ⟨t1, t2⟩ := HTC.out c2 HC3.out HX.out
          generalize lgI c2 = ls at *
          have T1 := Lib.hid t1; have T2 := Lib.hid t2
          obtain ⟨ln, hln⟩ : ∃ ln, ln = ls.length := ⟨_, rfl⟩
          rw [← hln] at HW hl5 ⊢
          have HLN := Lib.hid hln
          clear t1 t2 hln
          go_wp2_with fail
          go_loopw [23, 24] (fun s i wr => ∃ k : Nat, k ≤ ln ∧ i = .int .i64 (k : Int) ∧ s = .bool (touchB (ls.take k) p) ∧ Hid (Ext w9 wr)) (fun s i wr => ln - (intV i).toNat)
          case atStart => exact ⟨0, Nat.zero_le _, rfl, rfl, Lib.hid (Ext.refl _)⟩
          case round =>
            obtain ⟨k, hk1, rfl, rfl, hX⟩ := hrel
            by_cases hlt : k < ln
            · obtain ⟨b2, off, ⟨x, y⟩, rfl, hq, c1, c2⟩ := (HW.out.ext hX.out).at (show k < ls.length by rw [← HLN.out]; exact hlt)
              have hT := touchB_snoc (ls.take k) (x, y) p
              rw [← take_snoc hq] at hT
              have HTK := Lib.hid hT
              simp only at c1 c2
              clear hq hT
              have hka : (0 : Int) ≤ (k : Int) := by omega
              have hkb : (k : Int) < (ln : Int) := by omega
              cases htk : touchB (ls.take k) p
              · by_cases hx1 : x = (p : Int)
                · have hx2 : (x == (p : Int)) = true := by simpa using hx1
                  have HN := Lib.hid (show touchB (ls.take (k + 1)) p = true by rw [HTK.out]; simp [hx1])
                  clear hx1 htk HTK
                  go_wp2_with fail
                  go_roundw
                  case rel => exact ⟨k + 1, by omega, by go_num, by rw [HN.out], hX⟩
                  case measure => simp [intV]; omega
                · have hx2 : (x == (p : Int)) = false := by simpa using hx1
                  have HN := Lib.hid (show touchB (ls.take (k + 1)) p = (y == (p : Int)) by rw [HTK.out, htk]; simp [hx1])
                  clear hx1 htk HTK
                  go_wp2_with fail
                  go_roundw
                  case rel => exact ⟨k + 1, by omega, by go_num, by rw [HN.out], hX⟩
                  case measure => simp [intV]; omega
              · have HN := Lib.hid (show touchB (ls.take (k + 1)) p = true by rw [HTK.out, htk]; simp)
                clear htk HTK
                go_wp2_with fail
                go_roundw
                case rel => exact ⟨k + 1, by omega, by go_num, by rw [HN.out], hX⟩
                case measure => simp [intV]; omega
            · have hkb : ¬ (k : Int) < (ln : Int) := by omega
              have hk2 : k = ls.length := by rw [← HLN.out]; omega
              have HTT := Lib.hid (show ls.take k = ls by rw [hk2]; exact List.take_length)
              clear hk2
              rw [HTT.out]
              have HE := Lib.hid (HE.out.trans hX.out)
              by_cases hK2 : K = 2
              · rw [T2.out hK2]
                have hK2b : (K != 2) = false := by simpa using hK2
                clear hK2
                go_wp2_with fail
                refine (works17 _).mono ?_
                rintro e w9 ⟨rfl, hb⟩
                have HE := Lib.hid (HE.out.trans hb); clear hb
                go_wp2
                go_ret
                exact ⟨rfl, HE.out⟩
              · have hK2b : (K != 2) = true := by simpa using hK2
                clear hK2
                go_wp2_with fail
                refine (works17 _).mono ?_
                rintro e w9 ⟨rfl, hb⟩
                have HE := Lib.hid (HE.out.trans hb); clear hb
                go_wp2
                go_ret
                exact ⟨rfl, HE.out⟩
        · have hxb : (sumF F c2 != BV) = true := by simpa using hx
          clear hx HV2 HC3
          go_wp2_with fail
          refine (C25.out _ _ _ HE.out HV.out HC1.out).mono ?_
          rintro e w9 ⟨rfl, hb⟩
          obtain ⟨⟨g1, g2⟩, r0, r1, r2, r3, r4, r5, r6⟩ := HP.out.ext hb
          have HE := Lib.hid (HE.out.trans hb)
          have HP := Lib.hid (HP.out.ext hb)
          have HW := Lib.hid (HV.out.ext hb)
          clear hb
          rw [HC2.out]
          obtain ⟨hl5, av, capv, hve⟩ := HW.out.shape
          subst hve
          obtain ⟨t1, t2⟩ := HTC.out c HC1.out HC2.out
          generalize lgI c = ls at *
          have T1 := Lib.hid t1; have T2 := Lib.hid t2
          obtain ⟨ln, hln⟩ : ∃ ln, ln = ls.length := ⟨_, rfl⟩
          rw [← hln] at HW hl5 ⊢
          have HLN := Lib.hid hln
          clear t1 t2 hln
          go_wp2_with fail
          go_loopw [23, 24] (fun s i wr => ∃ k : Nat, k ≤ ln ∧ i = .int .i64 (k : Int) ∧ s = .bool (touchB (ls.take k) p) ∧ Hid (Ext w9 wr)) (fun s i wr => ln - (intV i).toNat)
          case atStart => exact ⟨0, Nat.zero_le _, rfl, rfl, Lib.hid (Ext.refl _)⟩
          case round =>
            obtain ⟨k, hk1, rfl, rfl, hX⟩ := hrel
            by_cases hlt : k < ln
            · obtain ⟨b2, off, ⟨x, y⟩, rfl, hq, c1, c2⟩ := (HW.out.ext hX.out).at (show k < ls.length by rw [← HLN.out]; exact hlt)
              have hT := touchB_snoc (ls.take k) (x, y) p
              rw [← take_snoc hq] at hT
              have HTK := Lib.hid hT
              simp only at c1 c2
              clear hq hT
              have hka : (0 : Int) ≤ (k : Int) := by omega
              have hkb : (k : Int) < (ln : Int) := by omega
              cases htk : touchB (ls.take k) p
              · by_cases hx1 : x = (p : Int)
                · have hx2 : (x == (p : Int)) = true := by simpa using hx1
                  have HN := Lib.hid (show touchB (ls.take (k + 1)) p = true by rw [HTK.out]; simp [hx1])
                  clear hx1 htk HTK
                  go_wp2_with fail
                  go_roundw
                  case rel => exact ⟨k + 1, by omega, by go_num, by rw [HN.out], hX⟩
                  case measure => simp [intV]; omega
                · have hx2 : (x == (p : Int)) = false := by simpa using hx1
                  have HN := Lib.hid (show touchB (ls.take (k + 1)) p = (y == (p : Int)) by rw [HTK.out, htk]; simp [hx1])
                  clear hx1 htk HTK
                  go_wp2_with fail
                  go_roundw
                  case rel => exact ⟨k + 1, by omega, by go_num, by rw [HN.out], hX⟩
                  case measure => simp [intV]; omega
              · have HN := Lib.hid (show touchB (ls.take (k + 1)) p = true by rw [HTK.out, htk]; simp)
                clear htk HTK
                go_wp2_with fail
                go_roundw
                case rel => exact ⟨k + 1, by omega, by go_num, by rw [HN.out], hX⟩
                case measure => simp [intV]; omega
            · have hkb : ¬ (k : Int) < (ln : Int) := by omega
              have hk2 : k = ls.length := by rw [← HLN.out]; omega
              have HTT := Lib.hid (show ls.take k = ls by rw [hk2]; exact List.take_length)
              clear hk2
              rw [HTT.out]
              have HE := Lib.hid (HE.out.trans hX.out)
              by_cases hK2 : K = 2
              · rw [T2.out hK2]
                have hK2b : (K != 2) = false := by simpa using hK2
                clear hK2
                go_wp2_with fail
                refine (works17 _).mono ?_
                rintro e w9 ⟨rfl, hb⟩
                have HE := Lib.hid (HE.out.trans hb); clear hb
                go_wp2
                go_ret
                exact ⟨rfl, HE.out⟩
              · have hK2b : (K != 2) = true := by simpa using hK2
                clear hK2
                go_wp2_with fail
                refine (works17 _).mono ?_
                rintro e w9 ⟨rfl, hb⟩
                have HE := Lib.hid (HE.out.trans hb); clear hb
                go_wp2
                go_ret
                exact ⟨rfl, HE.out⟩
    · dsimp only at C32
      have ck1 : decide (ck < 1) = false := by simp; omega
      by_cases hKz : K = 0
      · have hKb : (K != 0) = false := by simpa using hKz
        have hK2c : (K != 2) = true := by rw [hKz]; rfl
        obtain ⟨⟨g1, g2⟩, r0, r1, r2, r3, r4, r5, r6⟩ := P0.out
        have HE := E0
        have HP := P0
        go_enter Try.func12, Try.ntmps12
        go_wp2_with fail
        refine (C40.out _ HE.out).mono ?_
        rintro e w1 ⟨rfl, hb⟩
        obtain ⟨⟨g1, g2⟩, r0, r1, r2, r3, r4, r5, r6⟩ := HP.out.ext hb
        have HE := Lib.hid (HE.out.trans hb)
        have HP := Lib.hid (HP.out.ext hb)
        clear hb
        go_wp2_with fail
        refine (C34.out _ HE.out).mono ?_
        rintro e w2 ⟨rfl, hb⟩
        obtain ⟨⟨g1, g2⟩, r0, r1, r2, r3, r4, r5, r6⟩ := HP.out.ext hb
        have HE := Lib.hid (HE.out.trans hb)
        have HP := Lib.hid (HP.out.ext hb)
        clear hb
        go_wp2_with fail
        refine (C36.out _ HE.out).mono ?_
        rintro e w3 ⟨rfl, hb⟩
        obtain ⟨⟨g1, g2⟩, r0, r1, r2, r3, r4, r5, r6⟩ := HP.out.ext hb
        have HE := Lib.hid (HE.out.trans hb)
        have HP := Lib.hid (HP.out.ext hb)
        clear hb
        go_wp2_with fail
        refine (C26.out _ HE.out).mono ?_
        rintro e w4 ⟨rfl, hb⟩
        obtain ⟨⟨g1, g2⟩, r0, r1, r2, r3, r4, r5, r6⟩ := HP.out.ext hb
        have HE := Lib.hid (HE.out.trans hb)
        have HP := Lib.hid (HP.out.ext hb)
        clear hb
        go_wp2_with fail
        refine (C28.out _ HE.out).mono ?_
        rintro e w5 ⟨hb, ⟨he, -⟩ | ⟨-, v, c, rfl, hv, hc1, hc2⟩⟩
        · exact absurd rfl he
        obtain ⟨⟨g1, g2⟩, r0, r1, r2, r3, r4, r5, r6⟩ := HP.out.ext hb
        have HE := Lib.hid (HE.out.trans hb)
        have HP := Lib.hid (HP.out.ext hb)
        have HV := Lib.hid hv; have HC1 := Lib.hid hc1; have HC2 := Lib.hid hc2
        clear hb hv hc1 hc2
        go_wp2_with fail
        refine (C32.out _ HE.out).mono ?_
        rintro e w6 ⟨rfl, hb⟩
        obtain ⟨⟨g1, g2⟩, r0, r1, r2, r3, r4, r5, r6⟩ := HP.out.ext hb
        have HE := Lib.hid (HE.out.trans hb)
        have HP := Lib.hid (HP.out.ext hb)
        have HV := Lib.hid (HV.out.ext hb)
        clear hb
        go_wp2_with fail
        refine (C41.out _ HE.out).mono ?_
        rintro e w7 ⟨v2, c2, rfl, hv2, hc3, hb⟩
        obtain ⟨⟨g1, g2⟩, r0, r1, r2, r3, r4, r5, r6⟩ := HP.out.ext hb
        have HE := Lib.hid (HE.out.trans hb)
        have HP := Lib.hid (HP.out.ext hb)
        have HV := Lib.hid (HV.out.ext hb)
        have HV2 := Lib.hid hv2; have HC3 := Lib.hid hc3
        clear hb hv2 hc3
        go_wp2_with fail
        refine (C25.out _ _ _ HE.out HV2.out HC3.out).mono ?_
        rintro e w8 ⟨rfl, hb⟩
        obtain ⟨⟨g1, g2⟩, r0, r1, r2, r3, r4, r5, r6⟩ := HP.out.ext hb
        have HE := Lib.hid (HE.out.trans hb)
        have HP := Lib.hid (HP.out.ext hb)
        have HV := Lib.hid (HV.out.ext hb)
        have HV2 := Lib.hid (HV2.out.ext hb)
        clear hb
        by_cases hx : sumF F c2 = BV
        · have HX := Lib.hid hx
          have hxb : (sumF F c2 != BV) = false := by simpa using hx
          clear hx
          go_wp2_with fail
          refine (C25.out _ _ _ HE.out HV2.out HC3.out).mono ?_
          rintro e w9 ⟨rfl, hb⟩
          obtain ⟨⟨g1, g2⟩, r0, r1, r2, r3, r4, r5, r6⟩ := HP.out.ext hb
          have HE := Lib.hid (HE.out.trans hb)
          have HP := Lib.hid (HP.out.ext hb)
          have HW := Lib.hid (HV2.out.ext hb)
          clear hb
          rw [HX.out]
          obtain ⟨hl5, av, capv, hve⟩ := HW.out.shape
          subst hve
          obtain ⟨t1, t2⟩ := HTC.out c2 HC3.out HX.out
          generalize lgI c2 = ls at *
          have T1 := Lib.hid t1; have T2 := Lib.hid t2
          obtain ⟨ln, hln⟩ : ∃ ln, ln = ls.length := ⟨_, rfl⟩
          rw [← hln] at HW hl5 ⊢
          have HLN := Lib.hid hln
          clear t1 t2 hln
          go_wp2_with fail
          go_loopw [23, 24] (fun s i wr => ∃ k : Nat, k ≤ ln ∧ i = .int .i64 (k : Int) ∧ s = .bool (touchB (ls.take k) p) ∧ Hid (Ext w9 wr)) (fun s i wr => ln - (intV i).toNat)
          case atStart => exact ⟨0, Nat.zero_le _, rfl, rfl, Lib.hid (Ext.refl _)⟩
          case round =>
            obtain ⟨k, hk1, rfl, rfl, hX⟩ := hrel
            by_cases hlt : k < ln
            · obtain ⟨b2, off, ⟨x, y⟩, rfl, hq, c1, c2⟩ := (HW.out.ext hX.out).at (show k < ls.length by rw [← HLN.out]; exact hlt)
              have hT := touchB_snoc (ls.take k) (x, y) p
              rw [← take_snoc hq] at hT
              have HTK := Lib.hid hT
              simp only at c1 c2
              clear hq hT
              have hka : (0 : Int) ≤ (k : Int) := by omega
              have hkb : (k : Int) < (ln : Int) := by omega
              cases htk : touchB (ls.take k) p
              · by_cases hx1 : x = (p : Int)
                · have hx2 : (x == (p : Int)) = true := by simpa using hx1
                  have HN := Lib.hid (show touchB (ls.take (k + 1)) p = true by rw [HTK.out]; simp [hx1])
                  clear hx1 htk HTK
                  go_wp2_with fail
                  go_roundw
                  case rel => exact ⟨k + 1, by omega, by go_num, by rw [HN.out], hX⟩
                  case measure => simp [intV]; omega
                · have hx2 : (x == (p : Int)) = false := by simpa using hx1
                  have HN := Lib.hid (show touchB (ls.take (k + 1)) p = (y == (p : Int)) by rw [HTK.out, htk]; simp [hx1])
                  clear hx1 htk HTK
                  go_wp2_with fail
                  go_roundw
                  case rel => exact ⟨k + 1, by omega, by go_num, by rw [HN.out], hX⟩
                  case measure => simp [intV]; omega
              · have HN := Lib.hid (show touchB (ls.take (k + 1)) p = true by rw [HTK.out, htk]; simp)
                clear htk HTK
                go_wp2_with fail
                go_roundw
                case rel => exact ⟨k + 1, by omega, by go_num, by rw [HN.out], hX⟩
                case measure => simp [intV]; omega
            · have hkb : ¬ (k : Int) < (ln : Int) := by omega
              have hk2 : k = ls.length := by rw [← HLN.out]; omega
              have HTT := Lib.hid (show ls.take k = ls by rw [hk2]; exact List.take_length)
              clear hk2
              rw [HTT.out]
              have HE := Lib.hid (HE.out.trans hX.out)
              rw [T1.out hKz]
              go_wp2_with fail
              refine (works17 _).mono ?_
              rintro e w9 ⟨rfl, hb⟩
              have HE := Lib.hid (HE.out.trans hb); clear hb
              go_wp2
              go_ret
              exact ⟨rfl, HE.out⟩
        · have hxb : (sumF F c2 != BV) = true := by simpa using hx
          clear hx HV2 HC3
          go_wp2_with fail
          refine (C25.out _ _ _ HE.out HV.out HC1.out).mono ?_
          rintro e w9 ⟨rfl, hb⟩
          obtain ⟨⟨g1, g2⟩, r0, r1, r2, r3, r4, r5, r6⟩ := HP.out.ext hb
          have HE := Lib.hid (HE.out.trans hb)
          have HP := Lib.hid (HP.out.ext hb)
          have HW := Lib.hid (HV.out.ext hb)
          clear hb
          rw [HC2.out]
          obtain ⟨hl5, av, capv, hve⟩ := HW.out.shape
          subst hve
          obtain ⟨t1, t2⟩ := HTC.out c HC1.out HC2.out
          generalize lgI c = ls at *
          have T1 := Lib.hid t1; have T2 := Lib.hid t2
          obtain ⟨ln, hln⟩ : ∃ ln, ln = ls.length := ⟨_, rfl⟩
          rw [← hln] at HW hl5 ⊢
          have HLN := Lib.hid hln
          clear t1 t2 hln
          go_wp2_with fail
          go_loopw [23, 24] (fun s i wr => ∃ k : Nat, k ≤ ln ∧ i = .int .i64 (k : Int) ∧ s = .bool (touchB (ls.take k) p) ∧ Hid (Ext w9 wr)) (fun s i wr => ln - (intV i).toNat)
          case atStart => exact ⟨0, Nat.zero_le _, rfl, rfl, Lib.hid (Ext.refl _)⟩
          case round =>
            obtain ⟨k, hk1, rfl, rfl, hX⟩ := hrel
            by_cases hlt : k < ln
            · obtain ⟨b2, off, ⟨x, y⟩, rfl, hq, c1, c2⟩ := (HW.out.ext hX.out).at (show k < ls.length by rw [← HLN.out]; exact hlt)
              have hT := touchB_snoc (ls.take k) (x, y) p
              rw [← take_snoc hq] at hT
              have HTK := Lib.hid hT
              simp only at c1 c2
              clear hq hT
              have hka : (0 : Int) ≤ (k : Int) := by omega
              have hkb : (k : Int) < (ln : Int) := by omega
              cases htk : touchB (ls.take k) p
              · by_cases hx1 : x = (p : Int)
                · have hx2 : (x == (p : Int)) = true := by simpa using hx1
                  have HN := Lib.hid (show touchB (ls.take (k + 1)) p = true by rw [HTK.out]; simp [hx1])
                  clear hx1 htk HTK
                  go_wp2_with fail
                  go_roundw
                  case rel => exact ⟨k + 1, by omega, by go_num, by rw [HN.out], hX⟩
                  case measure => simp [intV]; omega
                · have hx2 : (x == (p : Int)) = false := by simpa using hx1
                  have HN := Lib.hid (show touchB (ls.take (k + 1)) p = (y == (p : Int)) by rw [HTK.out, htk]; simp [hx1])
                  clear hx1 htk HTK
                  go_wp2_with fail
                  go_roundw
                  case rel => exact ⟨k + 1, by omega, by go_num, by rw [HN.out], hX⟩
                  case measure => simp [intV]; omega
              · have HN := Lib.hid (show touchB (ls.take (k + 1)) p = true by rw [HTK.out, htk]; simp)
                clear htk HTK
                go_wp2_with fail
                go_roundw
                case rel => exact ⟨k + 1, by omega, by go_num, by rw [HN.out], hX⟩
                case measure => simp [intV]; omega
            · have hkb : ¬ (k : Int) < (ln : Int) := by omega
              have hk2 : k = ls.length := by rw [← HLN.out]; omega
              have HTT := Lib.hid (show ls.take k = ls by rw [hk2]; exact List.take_length)
              clear hk2
              rw [HTT.out]
              have HE := Lib.hid (HE.out.trans hX.out)
              rw [T1.out hKz]
              go_wp2_with fail
              refine (works17 _).mono ?_
              rintro e w9 ⟨rfl, hb⟩
              have HE := Lib.hid (HE.out.trans hb); clear hb
              go_wp2
              go_ret
              exact ⟨rfl, HE.out⟩
      · have hKb : (K != 0) = true := by simpa using hKz
        have hLb : (L != 0) = false := by have := hkl hKz; simp; omega
        clear hkl hKz
        obtain ⟨⟨g1, g2⟩, r0, r1, r2, r3, r4, r5, r6⟩ := P0.out
        have HE := E0
        have HP := P0
        go_enter Try.func12, Try.ntmps12
        go_wp2_with fail
        refine (C40.out _ HE.out).mono ?_
        rintro e w1 ⟨rfl, hb⟩
        obtain ⟨⟨g1, g2⟩, r0, r1, r2, r3, r4, r5, r6⟩ := HP.out.ext hb
        have HE := Lib.hid (HE.out.trans hb)
        have HP := Lib.hid (HP.out.ext hb)
        clear hb
        go_wp2_with fail
        refine (C34.out _ HE.out).mono ?_
        rintro e w2 ⟨rfl, hb⟩
        obtain ⟨⟨g1, g2⟩, r0, r1, r2, r3, r4, r5, r6⟩ := HP.out.ext hb
        have HE := Lib.hid (HE.out.trans hb)
        have HP := Lib.hid (HP.out.ext hb)
        clear hb
        go_wp2_with fail
        refine (C36.out _ HE.out).mono ?_
        rintro e w3 ⟨rfl, hb⟩
        obtain ⟨⟨g1, g2⟩, r0, r1, r2, r3, r4, r5, r6⟩ := HP.out.ext hb
        have HE := Lib.hid (HE.out.trans hb)
        have HP := Lib.hid (HP.out.ext hb)
        clear hb
        go_wp2_with fail
        refine (C26.out _ HE.out).mono ?_
        rintro e w4 ⟨rfl, hb⟩
        obtain ⟨⟨g1, g2⟩, r0, r1, r2, r3, r4, r5, r6⟩ := HP.out.ext hb
        have HE := Lib.hid (HE.out.trans hb)
        have HP := Lib.hid (HP.out.ext hb)
        clear hb
        go_wp2_with fail
        refine (C28.out _ HE.out).mono ?_
        rintro e w5 ⟨hb, ⟨he, -⟩ | ⟨-, v, c, rfl, hv, hc1, hc2⟩⟩
        · exact absurd rfl he
        obtain ⟨⟨g1, g2⟩, r0, r1, r2, r3, r4, r5, r6⟩ := HP.out.ext hb
        have HE := Lib.hid (HE.out.trans hb)
        have HP := Lib.hid (HP.out.ext hb)
        have HV := Lib.hid hv; have HC1 := Lib.hid hc1; have HC2 := Lib.hid hc2
        clear hb hv hc1 hc2
        go_wp2_with fail
        refine (C32.out _ HE.out).mono ?_
        rintro e w6 ⟨rfl, hb⟩
        obtain ⟨⟨g1, g2⟩, r0, r1, r2, r3, r4, r5, r6⟩ := HP.out.ext hb
        have HE := Lib.hid (HE.out.trans hb)
        have HP := Lib.hid (HP.out.ext hb)
        have HV := Lib.hid (HV.out.ext hb)
        clear hb
        go_wp2_with fail
        refine (C41.out _ HE.out).mono ?_
        rintro e w7 ⟨v2, c2, rfl, hv2, hc3, hb⟩
        obtain ⟨⟨g1, g2⟩, r0, r1, r2, r3, r4, r5, r6⟩ := HP.out.ext hb
        have HE := Lib.hid (HE.out.trans hb)
        have HP := Lib.hid (HP.out.ext hb)
        have HV := Lib.hid (HV.out.ext hb)
        have HV2 := Lib.hid hv2; have HC3 := Lib.hid hc3
        clear hb hv2 hc3
        go_wp2_with fail
        refine (C25.out _ _ _ HE.out HV2.out HC3.out).mono ?_
        rintro e w8 ⟨rfl, hb⟩
        obtain ⟨⟨g1, g2⟩, r0, r1, r2, r3, r4, r5, r6⟩ := HP.out.ext hb
        have HE := Lib.hid (HE.out.trans hb)
        have HP := Lib.hid (HP.out.ext hb)
        have HV := Lib.hid (HV.out.ext hb)
        have HV2 := Lib.hid (HV2.out.ext hb)
        clear hb
        by_cases hx : sumF F c2 = BV
        · have HX := Lib.hid hx
          have hxb : (sumF F c2 != BV) = false := by simpa using hx
          clear hx
          go_wp2_with fail
          refine (C25.out _ _ _ HE.out HV2.out HC3.out).mono ?_
          rintro e w9 ⟨rfl, hb⟩
          obtain ⟨⟨g1, g2⟩, r0, r1, r2, r3, r4, r5, r6⟩ := HP.out.ext hb
          have HE := Lib.hid (HE.out.trans hb)
          have HP := Lib.hid (HP.out.ext hb)
          have HW := Lib.hid (HV2.out.ext hb)
          clear hb
          rw [HX.out]
          obtain ⟨hl5, av, capv, hve⟩ := HW.out.shape
          subst hve
          obtain ⟨t1, t2⟩ := HTC.out c2 HC3.out HX.out
          generalize lgI c2 = ls at *
          have T1 := Lib.hid t1; have T2 := Lib.hid t2
          obtain ⟨ln, hln⟩ : ∃ ln, ln = ls.length := ⟨_, rfl⟩
          rw [← hln] at HW hl5 ⊢
          have HLN := Lib.hid hln
          clear t1 t2 hln
          go_wp2_with fail
          go_loopw [23, 24] (fun s i wr => ∃ k : Nat, k ≤ ln ∧ i = .int .i64 (k : Int) ∧ s = .bool (touchB (ls.take k) p) ∧ Hid (Ext w9 wr)) (fun s i wr => ln - (intV i).toNat)
          case atStart => exact ⟨0, Nat.zero_le _, rfl, rfl, Lib.hid (Ext.refl _)⟩
          case round =>
            obtain ⟨k, hk1, rfl, rfl, hX⟩ := hrel
            by_cases hlt : k < ln
            · obtain ⟨b2, off, ⟨x, y⟩, rfl, hq, c1, c2⟩ := (HW.out.ext hX.out).at (show k < ls.length by rw [← HLN.out]; exact hlt)
              have hT := touchB_snoc (ls.take k) (x, y) p
              rw [← take_snoc hq] at hT
              have HTK := Lib.hid hT
              simp only at c1 c2
              clear hq hT
              have hka : (0 : Int) ≤ (k : Int) := by omega
              have hkb : (k : Int) < (ln : Int) := by omega
              cases htk : touchB (ls.take k) p
              · by_cases hx1 : x = (p : Int)
                · have hx2 : (x == (p : Int)) = true := by simpa using hx1
                  have HN := Lib.hid (show touchB (ls.take (k + 1)) p = true by rw [HTK.out]; simp [hx1])
                  clear hx1 htk HTK
                  go_wp2_with fail
                  go_roundw
                  case rel => exact ⟨k + 1, by omega, by go_num, by rw [HN.out], hX⟩
                  case measure => simp [intV]; omega
                · have hx2 : (x == (p : Int)) = false := by simpa using hx1
                  have HN := Lib.hid (show touchB (ls.take (k + 1)) p = (y == (p : Int)) by rw [HTK.out, htk]; simp [hx1])
                  clear hx1 htk HTK
                  go_wp2_with fail
                  go_roundw
                  case rel => exact ⟨k + 1, by omega, by go_num, by rw [HN.out], hX⟩
                  case measure => simp [intV]; omega
              · have HN := Lib.hid (show touchB (ls.take (k + 1)) p = true by rw [HTK.out, htk]; simp)
                clear htk HTK
                go_wp2_with fail
                go_roundw
                case rel => exact ⟨k + 1, by omega, by go_num, by rw [HN.out], hX⟩
                case measure => simp [intV]; omega
            · have hkb : ¬ (k : Int) < (ln : Int) := by omega
              have hk2 : k = ls.length := by rw [← HLN.out]; omega
              have HTT := Lib.hid (show ls.take k = ls by rw [hk2]; exact List.take_length)
              clear hk2
              rw [HTT.out]
              have HE := Lib.hid (HE.out.trans hX.out)
              by_cases hK2 : K = 2
              · rw [T2.out hK2]
                have hK2b : (K != 2) = false := by simpa using hK2
                clear hK2
                go_wp2_with fail
                refine (works17 _).mono ?_
                rintro e w9 ⟨rfl, hb⟩
                have HE := Lib.hid (HE.out.trans hb); clear hb
                go_wp2
                go_ret
                exact ⟨rfl, HE.out⟩
              · have hK2b : (K != 2) = true := by simpa using hK2
                clear hK2
                go_wp2_with fail
                refine (works17 _).mono ?_
                rintro e w9 ⟨rfl, hb⟩
                have HE := Lib.hid (HE.out.trans hb); clear hb
                go_wp2
                go_ret
                exact ⟨rfl, HE.out⟩
        · have hxb : (sumF F c2 != BV) = true := by simpa using hx
          clear hx HV2 HC3
          go_wp2_with fail
          refine (C25.out _ _ _ HE.out HV.out HC1.out).mono ?_
          rintro e w9 ⟨rfl, hb⟩
          obtain ⟨⟨g1, g2⟩, r0, r1, r2, r3, r4, r5, r6⟩ := HP.out.ext hb
          have HE := Lib.hid (HE.out.trans hb)
          have HP := Lib.hid (HP.out.ext hb)
          have HW := Lib.hid (HV.out.ext hb)
          clear hb
          rw [HC2.out]
          obtain ⟨hl5, av, capv, hve⟩ := HW.out.shape
          subst hve
          obtain ⟨t1, t2⟩ := HTC.out c HC1.out HC2.out
          generalize lgI c = ls at *
          have T1 := Lib.hid t1; have T2 := Lib.hid t2
          obtain ⟨ln, hln⟩ : ∃ ln, ln = ls.length := ⟨_, rfl⟩
          rw [← hln] at HW hl5 ⊢
          have HLN := Lib.hid hln
          clear t1 t2 hln
          go_wp2_with fail
          go_loopw [23, 24] (fun s i wr => ∃ k : Nat, k ≤ ln ∧ i = .int .i64 (k : Int) ∧ s = .bool (touchB (ls.take k) p) ∧ Hid (Ext w9 wr)) (fun s i wr => ln - (intV i).toNat)
          case atStart => exact ⟨0, Nat.zero_le _, rfl, rfl, Lib.hid (Ext.refl _)⟩
          case round =>
            obtain ⟨k, hk1, rfl, rfl, hX⟩ := hrel
            by_cases hlt : k < ln
            · obtain ⟨b2, off, ⟨x, y⟩, rfl, hq, c1, c2⟩ := (HW.out.ext hX.out).at (show k < ls.length by rw [← HLN.out]; exact hlt)
              have hT := touchB_snoc (ls.take k) (x, y) p
              rw [← take_snoc hq] at hT
              have HTK := Lib.hid hT
              simp only at c1 c2
              clear hq hT
              have hka : (0 : Int) ≤ (k : Int) := by omega
              have hkb : (k : Int) < (ln : Int) := by omega
              cases htk : touchB (ls.take k) p
              · by_cases hx1 : x = (p : Int)
                · have hx2 : (x == (p : Int)) = true := by simpa using hx1
                  have HN := Lib.hid (show touchB (ls.take (k + 1)) p = true by rw [HTK.out]; simp [hx1])
                  clear hx1 htk HTK
                  go_wp2_with fail
                  go_roundw
                  case rel => exact ⟨k + 1, by omega, by go_num, by rw [HN.out], hX⟩
                  case measure => simp [intV]; omega
                · have hx2 : (x == (p : Int)) = false := by simpa using hx1
                  have HN := Lib.hid (show touchB (ls.take (k + 1)) p = (y == (p : Int)) by rw [HTK.out, htk]; simp [hx1])
                  clear hx1 htk HTK
                  go_wp2_with fail
                  go_roundw
                  case rel => exact ⟨k + 1, by omega, by go_num, by rw [HN.out], hX⟩
                  case measure => simp [intV]; omega
              · have HN := Lib.hid (show touchB (ls.take (k + 1)) p = true by rw [HTK.out, htk]; simp)
                clear htk HTK
                go_wp2_with fail
                go_roundw
                case rel => exact ⟨k + 1, by omega, by go_num, by rw [HN.out], hX⟩
                case measure => simp [intV]; omega
            · have hkb : ¬ (k : Int) < (ln : Int) := by omega
              have hk2 : k = ls.length := by rw [← HLN.out]; omega
              have HTT := Lib.hid (show ls.take k = ls by rw [hk2]; exact List.take_length)
              clear hk2
              rw [HTT.out]
              have HE := Lib.hid (HE.out.trans hX.out)
              by_cases hK2 : K = 2
              · rw [T2.out hK2]
                have hK2b : (K != 2) = false := by simpa using hK2
                clear hK2
                go_wp2_with fail
                refine (works17 _).mono ?_
                rintro e w9 ⟨rfl, hb⟩
                have HE := Lib.hid (HE.out.trans hb); clear hb
                go_wp2
                go_ret
                exact ⟨rfl, HE.out⟩
              · have hK2b : (K != 2) = true := by simpa using hK2
                clear hK2
                go_wp2_with fail
                refine (works17 _).mono ?_
                rintro e w9 ⟨rfl, hb⟩
                have HE := Lib.hid (HE.out.trans hb); clear hb
                go_wp2
                go_ret
                exact ⟨rfl, HE.out⟩
end Go.Proofs.Ytcgheakadfjofaa
