/- ScaleCuts, by its contract. -/
import Derived.Test.YtcgheakadfjofaaG0
import Derived.Test.YtcgheakadfjofaaH0
namespace Go.Proofs.Ytcgheakadfjofaa
open Go.RowKit
set_option linter.unusedVariables false
set_option linter.unusedSimpArgs false
attribute [local go_sem] Oper.semAt_some
set_option maxRecDepth 100000 in
set_option maxHeartbeats 8000000 in
theorem cuts4 (a a' : Option Addr) (cap cap' : Nat) (th bd : List Int) (r : Rl) (a2 : Option Addr) (cap2 : Nat) (ls : List (Int × Int)) (w : World) (hlen : th.length ≤ cap ∧ cap ≤ 9223372036854775807) (hlen' : bd.length ≤ cap' ∧ cap' ≤ 9223372036854775807) (hr : th.length ≤ 5000 → Reads w (.slice a th.length cap) th) (hr' : bd.length ≤ 5000 → Reads w (.slice a' bd.length cap') bd) (hlen2 : ls.length ≤ cap2 ∧ cap2 ≤ 9223372036854775807) (hr2 : ls.length ≤ 5000 → ReadsLg w (.slice a2 ls.length cap2) ls) :
    Calls Try.prog 4 #[.agg #[.slice a th.length cap, .slice a' bd.length cap'], r.val, .slice a2 ls.length cap2] w fun e w' => e = .returned (.bool true) ∧ Ext w w' := by
  obtain ⟨n, hn⟩ : ∃ n, n = th.length := ⟨_, rfl⟩
  obtain ⟨n', hn'⟩ : ∃ n', n' = bd.length := ⟨_, rfl⟩
  rw [← hn] at hlen hr ⊢
  rw [← hn'] at hlen' hr' ⊢
  have E0 := Lib.hid (Ext.alloc (Ext.alloc (Ext.refl w) (.cells #[.slice a n cap, .slice a' n' cap'] 25)) (.cells #[.int .i64 r.lo, .int .i64 r.hi, .int .i64 r.st, .int .i64 r.tr, .int .i64 r.off, .int .i64 r.dv, .int .i64 r.tn] 27))
  have P0 := Lib.hid (SR.new w (.slice a n cap) (.slice a' n' cap') r)
  obtain ⟨n2, hn2⟩ : ∃ n2, n2 = ls.length := ⟨_, rfl⟩
  rw [← hn2] at hlen2 hr2 ⊢
  have H16 := Lib.hid (fun (W : World) => great16 a a' n n' cap cap' W (by omega) (by omega))
  by_cases hg : 70 < n ∨ 70 < n'
  · have hG : (decide (70 < n) || decide (70 < n')) = true := by simpa using hg
    have HG := Lib.hid hG
    clear hr hr' hr2 hG hg hn hn' hn2
    obtain ⟨⟨g1, g2⟩, r0, r1, r2, r3, r4, r5, r6⟩ := P0.out
    have HE := E0
    have HP := P0
    go_enter Try.func4, Try.ntmps4
    go_wp2_with fail
    refine (H16.out _).mono ?_
    rintro e w1 ⟨rfl, hb⟩
    obtain ⟨⟨g1, g2⟩, r0, r1, r2, r3, r4, r5, r6⟩ := HP.out.ext hb
    have HE := Lib.hid (HE.out.trans hb)
    have HP := Lib.hid (HP.out.ext hb)
    clear hb
    rw [HG.out]
    go_wp2_with fail
    refine (works17 _).mono ?_
    rintro e w9 ⟨rfl, hb⟩
    have HE := Lib.hid (HE.out.trans hb); clear hb
    go_wp2
    go_ret
    exact ⟨rfl, HE.out⟩
  have hG : (decide (70 < n) || decide (70 < n')) = false := by simpa using hg
  have HG := Lib.hid hG
  by_cases hg2 : 70 < n2
  · have hz : decide ((n2 : Int) > 70) = true := by simp; omega
    have hz2 : decide ((70 : Int) < n2) = true := by simp; omega
    have hz3 : decide (70 < n2) = true := by simp; omega
    clear hr hr' hr2 hG hg hn hn' hn2
    obtain ⟨⟨g1, g2⟩, r0, r1, r2, r3, r4, r5, r6⟩ := P0.out
    have HE := E0
    have HP := P0
    go_enter Try.func4, Try.ntmps4
    go_wp2_with fail
    refine (H16.out _).mono ?_
    rintro e w1 ⟨rfl, hb⟩
    obtain ⟨⟨g1, g2⟩, r0, r1, r2, r3, r4, r5, r6⟩ := HP.out.ext hb
    have HE := Lib.hid (HE.out.trans hb)
    have HP := Lib.hid (HP.out.ext hb)
    clear hb
    rw [HG.out]
    go_wp2_with fail
    refine (works17 _).mono ?_
    rintro e w9 ⟨rfl, hb⟩
    have HE := Lib.hid (HE.out.trans hb); clear hb
    go_wp2
    go_ret
    exact ⟨rfl, HE.out⟩
  have hz : decide ((n2 : Int) > 70) = false := by simp; omega
  have hz2 : decide ((70 : Int) < n2) = false := by simp; omega
  have hz3 : decide (70 < n2) = false := by simp; omega
  have ht := hr (by omega)
  have hd := hr' (by omega)
  have hls := hr2 (by omega)
  have C24 := Lib.hid (fun (W : World) (h : Ext w W) => cut24 _ _ _ th bd r ls W (ht.ext h) (hd.ext h) (hls.ext h))
  have C25 := Lib.hid (fun (W : World) (h : Ext w W) => refcut25 _ _ _ th bd r ls W (ht.ext h) (hd.ext h) (hls.ext h))
  have C26 := Lib.hid (fun (W : World) (h : Ext w W) => best26v _ _ th bd r W (ht.ext h) (hd.ext h))
  have C27 := Lib.hid (fun (W : World) (h : Ext w W) => refbest27 _ _ th bd r W (ht.ext h) (hd.ext h))
  have c28 := fun (W : World) (h : Ext w W) => cut28 _ _ th bd r W (ht.ext h) (hd.ext h)
  have HT := Lib.hid ht; have HD := Lib.hid hd
  generalize hx : (cutE th bd r ls).1 = x at C24 C25
  generalize hc : (cutE th bd r ls).2 = c at C24 C25
  clear hx hc
  by_cases hE : bothE th bd r = 0
  · have hB : bestV th bd r = bst (sF th bd r) allB (th.length - 1) 0 := by unfold bestV; rw [if_pos hE]
    have hcc : ∀ (W : World) (v : Value) (c : List (Nat × Nat)), Ext w W → ReadsLg W v (lgI c) → Cuts (sF th bd r) allB (th.length - 1) 0 c → sumF (sF th bd r) c = bst (sF th bd r) allB (th.length - 1) 0 →
        Calls Try.prog 25 #[.agg #[.slice a n cap, .slice a' n' cap'], .agg #[.int .i64 r.lo, .int .i64 r.hi, .int .i64 r.st, .int .i64 r.tr, .int .i64 r.off, .int .i64 r.dv, .int .i64 r.tn], v] W fun e w' => e = .returned (.tuple #[.int .i64 (bestV th bd r), .int .i64 0]) ∧ Ext W w' := fun W v c h h1 h2 h3 => by
      have := refcut25 (.slice a n cap) (.slice a' n' cap') v th bd r (lgI c) W (HT.out.ext h) (HD.out.ext h) h1
      obtain ⟨q1, q2⟩ := vs_len hE
      rw [cutE_cuts (n := th.length - 1) hE (by omega) (by omega) h2, h3, ← hB] at this
      exact this
    have HCC := Lib.hid hcc
    rw [hE] at c28
    have C28 := Lib.hid c28
    rw [hE] at C26 C27
    generalize bestV th bd r = B at *
    clear hr hr' hr2 hG hg hcc c28 ht hd hls hE hB hn hn' hn2
    obtain ⟨⟨g1, g2⟩, r0, r1, r2, r3, r4, r5, r6⟩ := P0.out
    have HE := E0
    have HP := P0
    go_enter Try.func4, Try.ntmps4
    go_wp2_with fail
    refine (H16.out _).mono ?_
    rintro e w1 ⟨rfl, hb⟩
    obtain ⟨⟨g1, g2⟩, r0, r1, r2, r3, r4, r5, r6⟩ := HP.out.ext hb
    have HE := Lib.hid (HE.out.trans hb)
    have HP := Lib.hid (HP.out.ext hb)
    clear hb
    rw [HG.out]
    go_wp2_with fail
    refine (C24.out _ HE.out).mono ?_
    rintro e w2 ⟨rfl, hb⟩
    obtain ⟨⟨g1, g2⟩, r0, r1, r2, r3, r4, r5, r6⟩ := HP.out.ext hb
    have HE := Lib.hid (HE.out.trans hb)
    have HP := Lib.hid (HP.out.ext hb)
    clear hb
    go_wp2_with fail
    refine (C25.out _ HE.out).mono ?_
    rintro e w3 ⟨rfl, hb⟩
    obtain ⟨⟨g1, g2⟩, r0, r1, r2, r3, r4, r5, r6⟩ := HP.out.ext hb
    have HE := Lib.hid (HE.out.trans hb)
    have HP := Lib.hid (HP.out.ext hb)
    clear hb
    go_wp2_with fail
    refine (C26.out _ HE.out).mono ?_
    rintro e w4 ⟨rfl, hb⟩
    obtain ⟨⟨g1, g2⟩, r0, r1, r2, r3, r4, r5, r6⟩ := HP.out.ext hb
    have HE := Lib.hid (HE.out.trans hb)
    have HP := Lib.hid (HP.out.ext hb)
    clear hb
    go_wp2_with fail
    refine (C27.out _ HE.out).mono ?_
    rintro e w5 ⟨rfl, hb⟩
    obtain ⟨⟨g1, g2⟩, r0, r1, r2, r3, r4, r5, r6⟩ := HP.out.ext hb
    have HE := Lib.hid (HE.out.trans hb)
    have HP := Lib.hid (HP.out.ext hb)
    clear hb
    go_wp2_with fail
    refine (C28.out _ HE.out).mono ?_
    rintro e w6 ⟨hb, ⟨he, -⟩ | ⟨-, v, cc, rfl, hv, hc1, hc2⟩⟩
    · exact absurd rfl he
    obtain ⟨⟨g1, g2⟩, r0, r1, r2, r3, r4, r5, r6⟩ := HP.out.ext hb
    have HE := Lib.hid (HE.out.trans hb)
    have HP := Lib.hid (HP.out.ext hb)
    have HV := Lib.hid (HCC.out _ _ _ HE.out hv hc1 hc2)
    clear hb hv hc1 hc2
    go_wp2_with fail
    refine (HV.out).mono ?_
    rintro e w7 ⟨rfl, hb⟩
    obtain ⟨⟨g1, g2⟩, r0, r1, r2, r3, r4, r5, r6⟩ := HP.out.ext hb
    have HE := Lib.hid (HE.out.trans hb)
    have HP := Lib.hid (HP.out.ext hb)
    clear hb
    go_wp2_with fail
    refine (works17 _).mono ?_
    rintro e w9 ⟨rfl, hb⟩
    have HE := Lib.hid (HE.out.trans hb); clear hb
    go_wp2
    go_ret
    exact ⟨rfl, HE.out⟩
  · have hB : bestV th bd r = 0 := by unfold bestV; rw [if_neg hE]
    have C28 := Lib.hid c28
    have hEb : (bothE th bd r != 0) = true := by simpa using hE
    generalize bestV th bd r = B at *
    generalize bothE th bd r = E at *
    clear hr hr' hr2 hG hg c28 ht hd hls hB hn hn' hn2
    obtain ⟨⟨g1, g2⟩, r0, r1, r2, r3, r4, r5, r6⟩ := P0.out
    have HE := E0
    have HP := P0
    go_enter Try.func4, Try.ntmps4
    go_wp2_with fail
    refine (H16.out _).mono ?_
    rintro e w1 ⟨rfl, hb⟩
    obtain ⟨⟨g1, g2⟩, r0, r1, r2, r3, r4, r5, r6⟩ := HP.out.ext hb
    have HE := Lib.hid (HE.out.trans hb)
    have HP := Lib.hid (HP.out.ext hb)
    clear hb
    rw [HG.out]
    go_wp2_with fail
    refine (C24.out _ HE.out).mono ?_
    rintro e w2 ⟨rfl, hb⟩
    obtain ⟨⟨g1, g2⟩, r0, r1, r2, r3, r4, r5, r6⟩ := HP.out.ext hb
    have HE := Lib.hid (HE.out.trans hb)
    have HP := Lib.hid (HP.out.ext hb)
    clear hb
    go_wp2_with fail
    refine (C25.out _ HE.out).mono ?_
    rintro e w3 ⟨rfl, hb⟩
    obtain ⟨⟨g1, g2⟩, r0, r1, r2, r3, r4, r5, r6⟩ := HP.out.ext hb
    have HE := Lib.hid (HE.out.trans hb)
    have HP := Lib.hid (HP.out.ext hb)
    clear hb
    go_wp2_with fail
    refine (C26.out _ HE.out).mono ?_
    rintro e w4 ⟨rfl, hb⟩
    obtain ⟨⟨g1, g2⟩, r0, r1, r2, r3, r4, r5, r6⟩ := HP.out.ext hb
    have HE := Lib.hid (HE.out.trans hb)
    have HP := Lib.hid (HP.out.ext hb)
    clear hb
    go_wp2_with fail
    refine (C27.out _ HE.out).mono ?_
    rintro e w5 ⟨rfl, hb⟩
    obtain ⟨⟨g1, g2⟩, r0, r1, r2, r3, r4, r5, r6⟩ := HP.out.ext hb
    have HE := Lib.hid (HE.out.trans hb)
    have HP := Lib.hid (HP.out.ext hb)
    clear hb
    go_wp2_with fail
    refine (C28.out _ HE.out).mono ?_
    rintro e w6 ⟨hb, ⟨-, rfl⟩ | ⟨he, -⟩⟩
    · have HE := Lib.hid (HE.out.trans hb)
      clear hb g1 g2 r0 r1 r2 r3 r4 r5 r6
      go_wp2_with fail
      refine (works17 _).mono ?_
      rintro e w9 ⟨rfl, hb⟩
      have HE := Lib.hid (HE.out.trans hb); clear hb
      go_wp2
      go_ret
      exact ⟨rfl, HE.out⟩
    · exact absurd he hE
end Go.Proofs.Ytcgheakadfjofaa
