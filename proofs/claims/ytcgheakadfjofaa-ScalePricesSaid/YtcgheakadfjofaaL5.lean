/- ScalePrices, by its contract. -/
import Derived.Test.YtcgheakadfjofaaG0
import Derived.Test.YtcgheakadfjofaaH0
namespace Go.Proofs.Ytcgheakadfjofaa
open Go.RowKit
set_option linter.unusedVariables false
set_option linter.unusedSimpArgs false
attribute [local go_sem] Oper.semAt_some
set_option maxRecDepth 100000 in
set_option maxHeartbeats 8000000 in
theorem prices5 (a a' : Option Addr) (cap cap' : Nat) (th bd : List Int) (r : Rl) (a2 : Option Addr) (cap2 : Nat) (ps : List Int) (w : World) (hlen : th.length ≤ cap ∧ cap ≤ 9223372036854775807) (hlen' : bd.length ≤ cap' ∧ cap' ≤ 9223372036854775807) (hr : th.length ≤ 5000 → Reads w (.slice a th.length cap) th) (hr' : bd.length ≤ 5000 → Reads w (.slice a' bd.length cap') bd) (hlen2 : ps.length ≤ cap2 ∧ cap2 ≤ 9223372036854775807) (hr2 : ps.length ≤ 5000 → Reads w (.slice a2 ps.length cap2) ps) :
    Calls Try.prog 5 #[.agg #[.slice a th.length cap, .slice a' bd.length cap'], r.val, .slice a2 ps.length cap2] w fun e w' => e = .returned (.bool true) ∧ Ext w w' := by
  obtain ⟨n, hn⟩ : ∃ n, n = th.length := ⟨_, rfl⟩
  obtain ⟨n', hn'⟩ : ∃ n', n' = bd.length := ⟨_, rfl⟩
  rw [← hn] at hlen hr ⊢
  rw [← hn'] at hlen' hr' ⊢
  have E0 := Lib.hid (Ext.alloc (Ext.alloc (Ext.refl w) (.cells #[.slice a n cap, .slice a' n' cap'] 25)) (.cells #[.int .i64 r.lo, .int .i64 r.hi, .int .i64 r.st, .int .i64 r.tr, .int .i64 r.off, .int .i64 r.dv, .int .i64 r.tn] 27))
  have P0 := Lib.hid (SR.new w (.slice a n cap) (.slice a' n' cap') r)
  obtain ⟨n2, hn2⟩ : ∃ n2, n2 = ps.length := ⟨_, rfl⟩
  rw [← hn2] at hlen2 hr2 ⊢
  have H16 := Lib.hid (fun (W : World) => great16 a a' n n' cap cap' W (by omega) (by omega))
  by_cases hg : 70 < n ∨ 70 < n'
  · have hG : (decide (70 < n) || decide (70 < n')) = true := by simpa using hg
    have HG := Lib.hid hG
    clear hr hr' hr2 hG hg hn hn' hn2
    obtain ⟨⟨g1, g2⟩, r0, r1, r2, r3, r4, r5, r6⟩ := P0.out
    have HE := E0
    have HP := P0
    go_enter Try.func5, Try.ntmps5
    go_wp2_with fail
    refine (H16.out _).mono ?_
    rintro e w1 ⟨rfl, hb⟩
    obtain ⟨⟨g1, g2⟩, r0, r1, r2, r3, r4, r5, r6⟩ := HP.out.ext hb
    have HE := Lib.hid (HE.out.trans hb)
    have HP := Lib.hid (HP.out.ext hb)
    clear hb
    rw [HG.out]
    go_wp2_with fail
    refine (works17 _).mono ?_
    rintro e w9 ⟨rfl, hb⟩
    have HE := Lib.hid (HE.out.trans hb); clear hb
    go_wp2
    go_ret
    exact ⟨rfl, HE.out⟩
  have hG : (decide (70 < n) || decide (70 < n')) = false := by simpa using hg
  have HG := Lib.hid hG
  by_cases hg2 : 70 < n2
  · have hz : decide ((n2 : Int) > 70) = true := by simp; omega
    have hz2 : decide ((70 : Int) < n2) = true := by simp; omega
    have hz3 : decide (70 < n2) = true := by simp; omega
    clear hr hr' hr2 hG hg hn hn' hn2
    obtain ⟨⟨g1, g2⟩, r0, r1, r2, r3, r4, r5, r6⟩ := P0.out
    have HE := E0
    have HP := P0
    go_enter Try.func5, Try.ntmps5
    go_wp2_with fail
    refine (H16.out _).mono ?_
    rintro e w1 ⟨rfl, hb⟩
    obtain ⟨⟨g1, g2⟩, r0, r1, r2, r3, r4, r5, r6⟩ := HP.out.ext hb
    have HE := Lib.hid (HE.out.trans hb)
    have HP := Lib.hid (HP.out.ext hb)
    clear hb
    rw [HG.out]
    go_wp2_with fail
    refine (works17 _).mono ?_
    rintro e w9 ⟨rfl, hb⟩
    have HE := Lib.hid (HE.out.trans hb); clear hb
    go_wp2
    go_ret
    exact ⟨rfl, HE.out⟩
  have hz : decide ((n2 : Int) > 70) = false := by simp; omega
  have hz2 : decide ((70 : Int) < n2) = false := by simp; omega
  have hz3 : decide (70 < n2) = false := by simp; omega
  have ht := hr (by omega)
  have hd := hr' (by omega)
  have hls := hr2 (by omega)
  have C29 := Lib.hid (fun (W : World) (h : Ext w W) => prices29 _ _ _ th bd ps r W (ht.ext h) (hd.ext h) (hls.ext h))
  have C30 := Lib.hid (fun (W : World) (h : Ext w W) => refprices30 _ _ _ th bd ps r W (ht.ext h) (hd.ext h) (hls.ext h))
  have C27 := Lib.hid (fun (W : World) (h : Ext w W) => refbest27 _ _ th bd r W (ht.ext h) (hd.ext h))
  have c31 := fun (W : World) (h : Ext w W) => prices31 _ _ th bd r n W (ht.ext h) (hd.ext h) hn
  have HT := Lib.hid ht; have HD := Lib.hid hd
  generalize hx : (prE th bd r ps).1 = x at C29 C30
  generalize hc : (prE th bd r ps).2 = c at C29 C30
  clear hx hc
  by_cases hE : bothE th bd r = 0
  · have hB : bestV th bd r = bst (sF th bd r) allB (th.length - 1) 0 := by unfold bestV; rw [if_pos hE]
    have hcc : ∀ (W : World) (b : Nat), Ext w W → RowOwn w W b (rowK (bst (sF th bd r) allB (n - 1)) n 0) →
        Calls Try.prog 30 #[.agg #[.slice a n cap, .slice a' n' cap'], .agg #[.int .i64 r.lo, .int .i64 r.hi, .int .i64 r.st, .int .i64 r.tr, .int .i64 r.off, .int .i64 r.dv, .int .i64 r.tn], .slice (some ⟨b, 0, none⟩) n n] W fun e w' => e = .returned (.tuple #[.int .i64 (bestV th bd r), .int .i64 0]) ∧ Ext W w' := fun W b h h1 => by
      have := refprices30 (.slice a n cap) (.slice a' n' cap') (.slice (some ⟨b, 0, none⟩) n n) th bd _ r W (HT.out.ext h) (HD.out.ext h) (h1.reads (by rw [rowK_len]; omega) (by rw [rowK_len]) n)
      rw [hn, prE_best hE, ← hB, ← hn] at this
      exact this
    have HCC := Lib.hid hcc
    rw [hE] at c31
    have C31 := Lib.hid c31
    rw [hE] at C27
    generalize bestV th bd r = B at *
    clear hr hr' hr2 hG hg hcc c31 ht hd hls hE hB hn hn' hn2
    obtain ⟨⟨g1, g2⟩, r0, r1, r2, r3, r4, r5, r6⟩ := P0.out
    have HE := E0
    have HP := P0
    go_enter Try.func5, Try.ntmps5
    go_wp2_with fail
    refine (H16.out _).mono ?_
    rintro e w1 ⟨rfl, hb⟩
    obtain ⟨⟨g1, g2⟩, r0, r1, r2, r3, r4, r5, r6⟩ := HP.out.ext hb
    have HE := Lib.hid (HE.out.trans hb)
    have HP := Lib.hid (HP.out.ext hb)
    clear hb
    rw [HG.out]
    go_wp2_with fail
    refine (C29.out _ HE.out).mono ?_
    rintro e w2 ⟨rfl, hb⟩
    obtain ⟨⟨g1, g2⟩, r0, r1, r2, r3, r4, r5, r6⟩ := HP.out.ext hb
    have HE := Lib.hid (HE.out.trans hb)
    have HP := Lib.hid (HP.out.ext hb)
    clear hb
    go_wp2_with fail
    refine (C30.out _ HE.out).mono ?_
    rintro e w3 ⟨rfl, hb⟩
    obtain ⟨⟨g1, g2⟩, r0, r1, r2, r3, r4, r5, r6⟩ := HP.out.ext hb
    have HE := Lib.hid (HE.out.trans hb)
    have HP := Lib.hid (HP.out.ext hb)
    clear hb
    go_wp2_with fail
    refine (C31.out _ HE.out).mono ?_
    rintro e w4 (⟨he, -, -⟩ | ⟨-, b, rfl, hrow⟩)
    · exact absurd rfl he
    have hb := hrow.ext0
    obtain ⟨⟨g1, g2⟩, r0, r1, r2, r3, r4, r5, r6⟩ := HP.out.ext hb
    have HX := Lib.hid HE.out
    have HE := Lib.hid (HE.out.trans hb)
    have HP := Lib.hid (HP.out.ext hb)
    have HROW := Lib.hid (show RowOwn w _ b _ from ⟨hrow.blk, Nat.le_trans HX.out.size hrow.new, HE.out⟩)
    clear hb hrow
    go_wp2_with fail
    refine (C27.out _ HE.out).mono ?_
    rintro e w5 ⟨rfl, hb⟩
    obtain ⟨⟨g1, g2⟩, r0, r1, r2, r3, r4, r5, r6⟩ := HP.out.ext hb
    have HE := Lib.hid (HE.out.trans hb)
    have HP := Lib.hid (HP.out.ext hb)
    have HROW := Lib.hid (HROW.out.ext hb)
    clear hb
    go_wp2_with fail
    refine (HCC.out _ _ HE.out HROW.out).mono ?_
    rintro e w6 ⟨rfl, hb⟩
    obtain ⟨⟨g1, g2⟩, r0, r1, r2, r3, r4, r5, r6⟩ := HP.out.ext hb
    have HE := Lib.hid (HE.out.trans hb)
    have HP := Lib.hid (HP.out.ext hb)
    clear hb
    go_wp2_with fail
    refine (works17 _).mono ?_
    rintro e w9 ⟨rfl, hb⟩
    have HE := Lib.hid (HE.out.trans hb); clear hb
    go_wp2
    go_ret
    exact ⟨rfl, HE.out⟩
  · have hB : bestV th bd r = 0 := by unfold bestV; rw [if_neg hE]
    have C31 := Lib.hid c31
    have hEb : (bothE th bd r != 0) = true := by simpa using hE
    generalize bestV th bd r = B at *
    generalize bothE th bd r = E at *
    clear hr hr' hr2 hG hg c31 ht hd hls hB hn hn' hn2
    obtain ⟨⟨g1, g2⟩, r0, r1, r2, r3, r4, r5, r6⟩ := P0.out
    have HE := E0
    have HP := P0
    go_enter Try.func5, Try.ntmps5
    go_wp2_with fail
    refine (H16.out _).mono ?_
    rintro e w1 ⟨rfl, hb⟩
    obtain ⟨⟨g1, g2⟩, r0, r1, r2, r3, r4, r5, r6⟩ := HP.out.ext hb
    have HE := Lib.hid (HE.out.trans hb)
    have HP := Lib.hid (HP.out.ext hb)
    clear hb
    rw [HG.out]
    go_wp2_with fail
    refine (C29.out _ HE.out).mono ?_
    rintro e w2 ⟨rfl, hb⟩
    obtain ⟨⟨g1, g2⟩, r0, r1, r2, r3, r4, r5, r6⟩ := HP.out.ext hb
    have HE := Lib.hid (HE.out.trans hb)
    have HP := Lib.hid (HP.out.ext hb)
    clear hb
    go_wp2_with fail
    refine (C30.out _ HE.out).mono ?_
    rintro e w3 ⟨rfl, hb⟩
    obtain ⟨⟨g1, g2⟩, r0, r1, r2, r3, r4, r5, r6⟩ := HP.out.ext hb
    have HE := Lib.hid (HE.out.trans hb)
    have HP := Lib.hid (HP.out.ext hb)
    clear hb
    go_wp2_with fail
    refine (C31.out _ HE.out).mono ?_
    rintro e w4 (⟨-, rfl, hb⟩ | ⟨he, -⟩)
    · obtain ⟨⟨g1, g2⟩, r0, r1, r2, r3, r4, r5, r6⟩ := HP.out.ext hb
      have HE := Lib.hid (HE.out.trans hb)
      have HP := Lib.hid (HP.out.ext hb)
      clear hb
      go_wp2_with fail
      refine (C27.out _ HE.out).mono ?_
      rintro e w5 ⟨rfl, hb⟩
      obtain ⟨⟨g1, g2⟩, r0, r1, r2, r3, r4, r5, r6⟩ := HP.out.ext hb
      have HE := Lib.hid (HE.out.trans hb)
      have HP := Lib.hid (HP.out.ext hb)
      clear hb
      go_wp2_with fail
      refine (works17 _).mono ?_
      rintro e w9 ⟨rfl, hb⟩
      have HE := Lib.hid (HE.out.trans hb); clear hb
      go_wp2
      go_ret
      exact ⟨rfl, HE.out⟩
    · exact absurd he hE
end Go.Proofs.Ytcgheakadfjofaa
