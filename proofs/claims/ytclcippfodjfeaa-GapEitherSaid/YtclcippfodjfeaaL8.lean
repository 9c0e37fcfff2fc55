/- GapEither, by its contract. -/
import Derived.Test.YtclcippfodjfeaaL2
namespace Go.Proofs.Ytclcippfodjfeaa
open Go.RowKit
set_option linter.unusedVariables false
set_option linter.unusedSimpArgs false
attribute [local go_sem] Oper.semAt_some
set_option maxRecDepth 100000 in
set_option maxHeartbeats 4000000 in
theorem either8 (a : Option Addr) (cap : Nat) (row : List Int) (y : Nat) (a2 : Option Addr) (cap2 : Nat) (run : List Int) (a3 : Option Addr) (cap3 : Nat) (t : List Int) (w : World) (hlen : row.length ≤ cap ∧ cap ≤ 9223372036854775807) (hr : row.length ≤ 5000 → Reads w (.slice a row.length cap) row) (hy : y ≤ 255) (hlen2 : run.length ≤ cap2 ∧ cap2 ≤ 9223372036854775807) (hr2 : run.length ≤ 5000 → Reads w (.slice a2 run.length cap2) run) (hlen3 : t.length ≤ cap3 ∧ cap3 ≤ 9223372036854775807) (hr3 : t.length ≤ 5000 → Reads w (.slice a3 t.length cap3) t) :
    Calls Try.prog 8 #[.slice a row.length cap, .int .u8 (y : Int), .slice a2 run.length cap2, .slice a3 t.length cap3] w fun e w' => e = .returned (.bool true) ∧ Ext w w' := by
  obtain ⟨n, hn⟩ : ∃ n, n = row.length := ⟨_, rfl⟩
  rw [← hn] at hlen hr ⊢
  obtain ⟨n2, hn2⟩ : ∃ n2, n2 = run.length := ⟨_, rfl⟩
  rw [← hn2] at hlen2 hr2 ⊢
  obtain ⟨n3, hn3⟩ : ∃ n3, n3 = t.length := ⟨_, rfl⟩
  rw [← hn3] at hlen3 hr3 ⊢
  have H44 := Lib.hid (fun (W : World) => pockets44 y hy W)
  rcases fine43 a n cap row hn w hr with F | ⟨hc, hR, F⟩
  · have HF := Lib.hid F
    clear F hr hr2 hr3 hn hn2 hn3
    go_enter Try.func8, Try.ntmps8
    have HE := Lib.hid (Ext.refl w)
    go_wp2_with fail
    refine (HF.out _ HE.out).mono ?_
    rintro e w1 ⟨rfl, rfl⟩
    go_wp2_with fail
    refine (works18 _).mono ?_
    rintro e w99 ⟨rfl, hb⟩
    have HE := Lib.hid (HE.out.trans hb)
    clear hb
    go_wp2
    go_ret
    exact ⟨rfl, HE.out⟩
  have HF := Lib.hid F
  clear F
  by_cases hgn2 : 40 < n2
  · have hz : decide ((n2 : Int) > 40) = true := by simp; omega
    have hz2 : decide ((40 : Int) < n2) = true := by simp; omega
    have hz3 : decide (40 < n2) = true := by simp; omega
    clear hr hr2 hr3 hn hn2 hn3
    go_enter Try.func8, Try.ntmps8
    have HE := Lib.hid (Ext.refl w)
    go_wp2_with fail
    refine (HF.out _ HE.out).mono ?_
    rintro e w1 ⟨rfl, rfl⟩
    go_wp2_with fail
    refine (works18 _).mono ?_
    rintro e w99 ⟨rfl, hb⟩
    have HE := Lib.hid (HE.out.trans hb)
    clear hb
    go_wp2
    go_ret
    exact ⟨rfl, HE.out⟩
  have hzn2 : decide ((n2 : Int) > 40) = false := by simp; omega
  have hzn22 : decide ((40 : Int) < n2) = false := by simp; omega
  have hzn23 : decide (40 < n2) = false := by simp; omega
  by_cases hgn3 : 40 < n3
  · have hz : decide ((n3 : Int) > 40) = true := by simp; omega
    have hz2 : decide ((40 : Int) < n3) = true := by simp; omega
    have hz3 : decide (40 < n3) = true := by simp; omega
    clear hr hr2 hr3 hn hn2 hn3
    go_enter Try.func8, Try.ntmps8
    have HE := Lib.hid (Ext.refl w)
    go_wp2_with fail
    refine (HF.out _ HE.out).mono ?_
    rintro e w1 ⟨rfl, rfl⟩
    go_wp2_with fail
    refine (works18 _).mono ?_
    rintro e w99 ⟨rfl, hb⟩
    have HE := Lib.hid (HE.out.trans hb)
    clear hb
    go_wp2
    go_ret
    exact ⟨rfl, HE.out⟩
  have hzn3 : decide ((n3 : Int) > 40) = false := by simp; omega
  have hzn32 : decide ((40 : Int) < n3) = false := by simp; omega
  have hzn33 : decide (40 < n3) = false := by simp; omega
  have hQ := hr2 (by omega); have hT := hr3 (by omega)
  obtain ⟨m, hm, hm2⟩ : ∃ m, m = y % 31 ∧ m ≤ 30 := ⟨_, rfl, by omega⟩
  rw [← hm] at H44
  have HR := Lib.hid hR; have HC := Lib.hid hc
  have c25 := (fun (W : World) (h : Ext w W) => fewest25 _ row W (hR.ext h))
  rw [hc, if_pos rfl] at c25
  have c33 := (fun (W : World) (h : Ext w W) => listRef_of (run33 _ row W (hR.ext h)))
  rw [hc] at c33
  have C33 := Lib.hid (show ∀ W, Ext w W → Calls Try.prog 33 #[.slice a n cap] W fun e w' => ∃ b k cap, k = (tab row).length ∧ e = .returned (.tuple #[.slice b k cap, .int .i64 0]) ∧ Reads w' (.slice b k cap) (natI (longM row)) ∧ Ext W w' from fun W h => (c33 W h).mono fun e w' ⟨b, k, cp, h1, h2, h3⟩ => ⟨b, k, cp, by rw [h2.len, errL_ok, longI_len], h1, h2, h3⟩)
  have C35a := Lib.hid (fun (W : World) (v : Value) (h : Ext w W) (h2 : Reads W v (natI (longM row))) => by
    have := checkRun35 _ _ row _ W (hR.ext h) h2
    rw [runE_long hc] at this
    exact this)
  have C36a := Lib.hid (fun (W : World) (v : Value) (h : Ext w W) (h2 : Reads W v (natI (longM row))) => by
    have := refRun36 _ _ row _ W (hR.ext h) h2
    rw [runE_long hc] at this
    exact this)
  have C29 := Lib.hid (fun (W : World) (h : Ext w W) => turn29ok _ row m W (hR.ext h) (ask_nat hc hm2))
  have C35 := Lib.hid (fun (W : World) (h : Ext w W) => checkRun35 _ _ row run W (hR.ext h) (hQ.ext h))
  have C19 := Lib.hid (fun (W : World) (h : Ext w W) => checkTurning19 _ _ row t m W (hR.ext h) (hT.ext h))
  have hall := @most_all row m
  have hrf : runE row run = 0 → n2 ≤ (tab row).length := fun h => by rw [hn2]; exact run_few hc h
  have htl : (turnV row m t).2 = 0 → (turnV row m t).1 < n ∨ (tab row).length ≤ m := fun h => by rw [hn]; exact turn_less hc hm2 h
  rw [← hn] at hall
  have hfb := tab_le30 hc
  have hn30 := (chkR_ok.1 hc).1
  have hf30 : (tab row).length ≤ 30 := by omega
  generalize hL : natI (longM row) = lm at *
  generalize (tab row).length = f at *
  have C25 := Lib.hid c25
  generalize mostV row m = mv at *
  generalize runE row run = er at *
  generalize (turnV row m t).1 = k at *
  generalize (turnV row m t).2 = c at *
  have hn31 : n ≤ 30 := by omega
  have HALL := Lib.hid hall; have HRF := Lib.hid hrf; have HTL := Lib.hid htl
  clear hr hr2 hr3 hn hn2 hn3 hR hQ hT hm c25 c33 hall hrf htl hL hc hgn2 hgn3 hlen hlen2 hlen3 hy hfb hn30
  have ha : (f ≤ m ∧ mv = n) ∨ (¬ f ≤ m ∧ mv ≠ n) := by
    have := HALL.out
    by_cases h : f ≤ m
    · exact .inl ⟨h, this.2 h⟩
    · exact .inr ⟨h, fun h2 => h (this.1 h2)⟩
  have hb : (er ≠ 0) ∨ (er = 0 ∧ n2 ≤ f) := by
    by_cases h : er = 0
    · exact .inr ⟨h, HRF.out h⟩
    · exact .inl h
  have hd : c ≠ 0 ∨ (c = 0 ∧ k < n) ∨ (c = 0 ∧ ¬ k < n ∧ f ≤ m) := by
    by_cases h : c = 0
    · by_cases h2 : k < n
      · exact .inr (.inl ⟨h, h2⟩)
      · exact .inr (.inr ⟨h, h2, (HTL.out h).resolve_left h2⟩)
    · exact .inl h
  have HA := Lib.hid ha; have HBB := Lib.hid hb; have HD := Lib.hid hd
  clear ha hb hd HALL HRF HTL
  go_enter Try.func8, Try.ntmps8
  have HE := Lib.hid (Ext.refl w)
  go_wp2_with fail
  refine (HF.out _ HE.out).mono ?_
  rintro e w1 ⟨rfl, rfl⟩
  go_wp2_with fail
  refine (H44.out _).mono ?_
  rintro e w2 ⟨rfl, rfl⟩
  go_wp2_with fail
  refine (C25.out _ HE.out).mono ?_
  rintro e w3 ⟨rfl, hb⟩
  have HE := Lib.hid (HE.out.trans hb)
  clear hb
  go_wp2_with fail
  refine (C33.out _ HE.out).mono ?_
  rintro e w4 ⟨ra, rn, rc, rfl, rfl, hx, hb⟩
  have HE := Lib.hid (HE.out.trans hb)
  have HP := Lib.hid hx
  clear hb hx
  go_wp2_with fail
  refine (C29.out _ HE.out).mono ?_
  rintro e w5 ⟨tt, ta, tn, tc, t0, rfl, hx, hb⟩
  have HE := Lib.hid (HE.out.trans hb)
  have HP := Lib.hid (HP.out.ext hb)
  have HT := Lib.hid hx; have HT0 := Lib.hid t0
  clear hb hx t0
  go_wp2_with fail
  refine (C36a.out _ _ HE.out HP.out).mono ?_
  rintro e w6 ⟨rfl, hb⟩
  have HE := Lib.hid (HE.out.trans hb)
  have HP := Lib.hid (HP.out.ext hb)
  have HT := Lib.hid (HT.out.ext hb)
  clear hb
  go_wp2_with fail
  refine (C35a.out _ _ HE.out HP.out).mono ?_
  rintro e w7 ⟨rfl, hb⟩
  have HE := Lib.hid (HE.out.trans hb)
  have HT := Lib.hid (HT.out.ext hb)
  clear hb
  go_wp2_with fail
  refine (turn19 _ _ _ _ _ _ _ _ (HR.out.ext HE.out) HT.out HT0.out).mono ?_
  rintro e w8 ⟨rfl, hb⟩
  have HE := Lib.hid (HE.out.trans hb)
  have HT := Lib.hid (HT.out.ext hb)
  clear hb
  go_wp2_with fail
  refine (turn20 _ _ _ _ _ _ _ _ (HR.out.ext HE.out) HT.out HT0.out).mono ?_
  rintro e w9 ⟨rfl, hb⟩
  have HE := Lib.hid (HE.out.trans hb)
  clear hb
  rcases HA.out with ⟨h1, h2⟩ | ⟨h1, h2⟩
  · obtain rfl := h2
    have hqa : decide ((rn : Int) ≤ (m : Int)) = true := by simp; omega
    have hqb : decide (rn ≤ m) = true := by simp; omega
    clear HA h1
    go_wp2_with fail
    refine (C35.out _ HE.out).mono ?_
    rintro e w10 ⟨rfl, hb⟩
    have HE := Lib.hid (HE.out.trans hb)
    clear hb
    rcases HBB.out with h3 | ⟨rfl, h3⟩
    · have he : (er == 0) = false := by simpa using h3
      have he2 : decide (er = 0) = false := decide_eq_false h3
      clear HBB
      go_wp2_with fail
      refine (C19.out _ HE.out).mono ?_
      rintro e w11 ⟨rfl, hb⟩
      have HE := Lib.hid (HE.out.trans hb)
      clear hb
      rcases HD.out with h4 | ⟨rfl, h4⟩ | ⟨rfl, h4, h5⟩
      · have hc1 : (c != 0) = true := by simpa using h4
        have hc2 : decide (c = 0) = false := decide_eq_false h4
        clear HD
        go_wp2_with fail
        refine (works18 _).mono ?_
        rintro e w99 ⟨rfl, hb⟩
        have HE := Lib.hid (HE.out.trans hb)
        clear hb
        go_wp2
        go_ret
        exact ⟨rfl, HE.out⟩
      · have hk1 : decide (k < (n : Int)) = true := decide_eq_true h4
        clear HD
        go_wp2_with fail
        refine (works18 _).mono ?_
        rintro e w99 ⟨rfl, hb⟩
        have HE := Lib.hid (HE.out.trans hb)
        clear hb
        go_wp2
        go_ret
        exact ⟨rfl, HE.out⟩
      · have hk1 : decide (k < (n : Int)) = false := decide_eq_false (by omega)
        clear HD
        go_wp2_with fail
        refine (works18 _).mono ?_
        rintro e w99 ⟨rfl, hb⟩
        have HE := Lib.hid (HE.out.trans hb)
        clear hb
        go_wp2
        go_ret
        exact ⟨rfl, HE.out⟩
    · have hn_a : decide ((n2 : Int) > (rn : Int)) = false := by simp; omega
      have hn_b : decide (n2 > rn) = false := by simp; omega
      have hm_a : decide ((rn : Int) < (n2 : Int)) = false := by simp; omega
      have hm_b : decide (rn < n2) = false := by simp; omega
      clear HBB
      go_wp2_with fail
      refine (C19.out _ HE.out).mono ?_
      rintro e w11 ⟨rfl, hb⟩
      have HE := Lib.hid (HE.out.trans hb)
      clear hb
      rcases HD.out with h4 | ⟨rfl, h4⟩ | ⟨rfl, h4, h5⟩
      · have hc1 : (c != 0) = true := by simpa using h4
        have hc2 : decide (c = 0) = false := decide_eq_false h4
        clear HD
        go_wp2_with fail
        refine (works18 _).mono ?_
        rintro e w99 ⟨rfl, hb⟩
        have HE := Lib.hid (HE.out.trans hb)
        clear hb
        go_wp2
        go_ret
        exact ⟨rfl, HE.out⟩
      · have hk1 : decide (k < (n : Int)) = true := decide_eq_true h4
        clear HD
        go_wp2_with fail
        refine (works18 _).mono ?_
        rintro e w99 ⟨rfl, hb⟩
        have HE := Lib.hid (HE.out.trans hb)
        clear hb
        go_wp2
        go_ret
        exact ⟨rfl, HE.out⟩
      · have hk1 : decide (k < (n : Int)) = false := decide_eq_false (by omega)
        clear HD
        go_wp2_with fail
        refine (works18 _).mono ?_
        rintro e w99 ⟨rfl, hb⟩
        have HE := Lib.hid (HE.out.trans hb)
        clear hb
        go_wp2
        go_ret
        exact ⟨rfl, HE.out⟩
  · have hmv : decide (mv = (n : Int)) = false := decide_eq_false h2
    have hqa : decide ((rn : Int) ≤ (m : Int)) = false := by simp; omega
    have hqb : decide (rn ≤ m) = false := by simp; omega
    clear HA h1
    go_wp2_with fail
    refine (C35.out _ HE.out).mono ?_
    rintro e w10 ⟨rfl, hb⟩
    have HE := Lib.hid (HE.out.trans hb)
    clear hb
    rcases HBB.out with h3 | ⟨rfl, h3⟩
    · have he : (er == 0) = false := by simpa using h3
      have he2 : decide (er = 0) = false := decide_eq_false h3
      clear HBB
      go_wp2_with fail
      refine (C19.out _ HE.out).mono ?_
      rintro e w11 ⟨rfl, hb⟩
      have HE := Lib.hid (HE.out.trans hb)
      clear hb
      rcases HD.out with h4 | ⟨rfl, h4⟩ | ⟨rfl, h4, h5⟩
      · have hc1 : (c != 0) = true := by simpa using h4
        have hc2 : decide (c = 0) = false := decide_eq_false h4
        clear HD
        go_wp2_with fail
        refine (works18 _).mono ?_
        rintro e w99 ⟨rfl, hb⟩
        have HE := Lib.hid (HE.out.trans hb)
        clear hb
        go_wp2
        go_ret
        exact ⟨rfl, HE.out⟩
      · have hk1 : decide (k < (n : Int)) = true := decide_eq_true h4
        clear HD
        go_wp2_with fail
        refine (works18 _).mono ?_
        rintro e w99 ⟨rfl, hb⟩
        have HE := Lib.hid (HE.out.trans hb)
        clear hb
        go_wp2
        go_ret
        exact ⟨rfl, HE.out⟩
      · have hk1 : decide (k < (n : Int)) = false := decide_eq_false (by omega)
        exact absurd h5 (by simpa using hqb)
    · have hn_a : decide ((n2 : Int) > (rn : Int)) = false := by simp; omega
      have hn_b : decide (n2 > rn) = false := by simp; omega
      have hm_a : decide ((rn : Int) < (n2 : Int)) = false := by simp; omega
      have hm_b : decide (rn < n2) = false := by simp; omega
      clear HBB
      go_wp2_with fail
      refine (C19.out _ HE.out).mono ?_
      rintro e w11 ⟨rfl, hb⟩
      have HE := Lib.hid (HE.out.trans hb)
      clear hb
      rcases HD.out with h4 | ⟨rfl, h4⟩ | ⟨rfl, h4, h5⟩
      · have hc1 : (c != 0) = true := by simpa using h4
        have hc2 : decide (c = 0) = false := decide_eq_false h4
        clear HD
        go_wp2_with fail
        refine (works18 _).mono ?_
        rintro e w99 ⟨rfl, hb⟩
        have HE := Lib.hid (HE.out.trans hb)
        clear hb
        go_wp2
        go_ret
        exact ⟨rfl, HE.out⟩
      · have hk1 : decide (k < (n : Int)) = true := decide_eq_true h4
        clear HD
        go_wp2_with fail
        refine (works18 _).mono ?_
        rintro e w99 ⟨rfl, hb⟩
        have HE := Lib.hid (HE.out.trans hb)
        clear hb
        go_wp2
        go_ret
        exact ⟨rfl, HE.out⟩
      · have hk1 : decide (k < (n : Int)) = false := decide_eq_false (by omega)
        exact absurd h5 (by simpa using hqb)
end Go.Proofs.Ytclcippfodjfeaa
