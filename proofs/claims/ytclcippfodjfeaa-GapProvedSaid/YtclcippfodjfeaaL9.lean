/- GapProved, by its contract. -/
import Derived.Test.YtclcippfodjfeaaL2
namespace Go.Proofs.Ytclcippfodjfeaa
open Go.RowKit
set_option linter.unusedVariables false
set_option linter.unusedSimpArgs false
attribute [local go_sem] Oper.semAt_some
set_option maxRecDepth 100000 in
set_option maxHeartbeats 4000000 in
theorem proved9 (a : Option Addr) (cap : Nat) (row : List Int) (y : Nat) (a2 : Option Addr) (cap2 : Nat) (t : List Int) (a3 : Option Addr) (cap3 : Nat) (rs : List (List Int)) (w : World) (hlen : row.length ≤ cap ∧ cap ≤ 9223372036854775807) (hr : row.length ≤ 5000 → Reads w (.slice a row.length cap) row) (hy : y ≤ 255) (hlen2 : t.length ≤ cap2 ∧ cap2 ≤ 9223372036854775807) (hr2 : t.length ≤ 5000 → Reads w (.slice a2 t.length cap2) t) (hlen3 : rs.length ≤ cap3 ∧ cap3 ≤ 9223372036854775807) (hw3 : rs.length = 0 ∨ ∃ b off, a3 = some ⟨b, off, none⟩ ∧ ∀ i m, (rs.map List.length)[i]? = some m → ∃ a' cap', w.cell? ⟨b, off + i, none⟩ = some (.slice a' m cap')) (hr3 : rs.length ≤ 5000 → (∀ r ∈ rs, r.length ≤ 5000) → ReadsL w (.slice a3 rs.length cap3) rs) :
    Calls Try.prog 9 #[.slice a row.length cap, .int .u8 (y : Int), .slice a2 t.length cap2, .slice a3 rs.length cap3] w fun e w' => e = .returned (.bool true) ∧ Ext w w' := by
  obtain ⟨n, hn⟩ : ∃ n, n = row.length := ⟨_, rfl⟩
  rw [← hn] at hlen hr ⊢
  obtain ⟨n2, hn2⟩ : ∃ n2, n2 = t.length := ⟨_, rfl⟩
  rw [← hn2] at hlen2 hr2 ⊢
  have H44 := Lib.hid (fun (W : World) => pockets44 y hy W)
  have H37 := Lib.hid (rows_wide a3 cap3 rs w hw3)
  have hws := @wide_small rs
  generalize wideB (rs.map List.length) = wb at hws H37
  obtain ⟨n3, hn3⟩ : ∃ n3, n3 = rs.length := ⟨_, rfl⟩
  rw [← hn3] at hlen3 hr3 H37 ⊢
  rcases fine43 a n cap row hn w hr with F | ⟨hc, hR, F⟩
  · have HF := Lib.hid F
    clear F hr hr2 hr3 hn hn2 hn3 hws hw3
    go_enter Try.func9, Try.ntmps9
    have HE := Lib.hid (Ext.refl w)
    go_wp2_with fail
    refine (HF.out _ HE.out).mono ?_
    rintro e w1 ⟨rfl, rfl⟩
    go_wp2_with fail
    refine (works18 _).mono ?_
    rintro e w99 ⟨rfl, hb⟩
    have HE := Lib.hid (HE.out.trans hb)
    clear hb
    go_wp2
    go_ret
    exact ⟨rfl, HE.out⟩
  have HF := Lib.hid F
  clear F
  by_cases hgn2 : 40 < n2
  · have hz : decide ((n2 : Int) > 40) = true := by simp; omega
    have hz2 : decide ((40 : Int) < n2) = true := by simp; omega
    have hz3 : decide (40 < n2) = true := by simp; omega
    clear hr hr2 hr3 hn hn2 hn3 hws hw3
    go_enter Try.func9, Try.ntmps9
    have HE := Lib.hid (Ext.refl w)
    go_wp2_with fail
    refine (HF.out _ HE.out).mono ?_
    rintro e w1 ⟨rfl, rfl⟩
    go_wp2_with fail
    refine (works18 _).mono ?_
    rintro e w99 ⟨rfl, hb⟩
    have HE := Lib.hid (HE.out.trans hb)
    clear hb
    go_wp2
    go_ret
    exact ⟨rfl, HE.out⟩
  have hzn2 : decide ((n2 : Int) > 40) = false := by simp; omega
  have hzn22 : decide ((40 : Int) < n2) = false := by simp; omega
  have hzn23 : decide (40 < n2) = false := by simp; omega
  cases wb
  rotate_left
  · clear hr hr2 hr3 hn hn2 hn3 hws hw3
    go_enter Try.func9, Try.ntmps9
    have HE := Lib.hid (Ext.refl w)
    go_wp2_with fail
    refine (HF.out _ HE.out).mono ?_
    rintro e w1 ⟨rfl, rfl⟩
    go_wp2_with fail
    refine (H37.out _ HE.out).mono ?_
    rintro e w2 ⟨rfl, rfl⟩
    go_wp2_with fail
    refine (works18 _).mono ?_
    rintro e w99 ⟨rfl, hb⟩
    have HE := Lib.hid (HE.out.trans hb)
    clear hb
    go_wp2
    go_ret
    exact ⟨rfl, HE.out⟩
  obtain ⟨hs1, hs2⟩ := hws rfl
  have hT := hr2 (by omega); have hL := hr3 (by omega) hs2
  obtain ⟨m, hm, hm2⟩ : ∃ m, m = y % 31 ∧ m ≤ 30 := ⟨_, rfl, by omega⟩
  rw [← hm] at H44
  have HR := Lib.hid hR
  have C29 := Lib.hid (fun (W : World) (h : Ext w W) => turn29ok _ row m W (hR.ext h) (ask_nat hc hm2))
  have C40 := Lib.hid (fun (W : World) (h : Ext w W) => runs40ok _ row m W (hR.ext h) (ask_nat hc hm2))
  have C19 := Lib.hid (fun (W : World) (h : Ext w W) => checkTurning19 _ _ row t m W (hR.ext h) (hT.ext h))
  have C38 := Lib.hid (fun (W : World) (h : Ext w W) => checkRuns38 _ _ row m rs W (hR.ext h) (hL.ext h))
  have htl := fun h => turn_most (t := t) hc hm2 h
  have hrl := fun h => runs_most (rs := rs) hc hm2 h
  generalize mostV row m = mv at *
  generalize (turnV row m t).1 = k at *
  generalize (turnV row m t).2 = c at *
  generalize (runsV row m rs).1 = k3 at *
  generalize (runsV row m rs).2 = c3 at *
  have HTL := Lib.hid (show c ≠ 0 ∨ (c = 0 ∧ k ≤ mv) from by
    by_cases h : c = 0
    · exact .inr ⟨h, htl h⟩
    · exact .inl h)
  have HRL := Lib.hid (show c3 ≠ 0 ∨ (c3 = 0 ∧ mv ≤ k3) from by
    by_cases h : c3 = 0
    · exact .inr ⟨h, hrl h⟩
    · exact .inl h)
  clear hr hr2 hr3 hn hn2 hn3 hws hw3 hR hT hL hm htl hrl hc hgn2 hlen hlen2 hlen3 hy hs1 hs2
  go_enter Try.func9, Try.ntmps9
  have HE := Lib.hid (Ext.refl w)
  go_wp2_with fail
  refine (HF.out _ HE.out).mono ?_
  rintro e w1 ⟨rfl, rfl⟩
  go_wp2_with fail
  refine (H37.out _ HE.out).mono ?_
  rintro e w2 ⟨rfl, rfl⟩
  go_wp2_with fail
  refine (H44.out _).mono ?_
  rintro e w3 ⟨rfl, rfl⟩
  go_wp2_with fail
  refine (C29.out _ HE.out).mono ?_
  rintro e w4 ⟨tt, ta, tn, tc, t0, rfl, hx, hb⟩
  have HE := Lib.hid (HE.out.trans hb)
  have HT := Lib.hid hx; have HT0 := Lib.hid t0
  clear hb hx t0
  go_wp2_with fail
  refine (C40.out _ HE.out).mono ?_
  rintro e w5 ⟨lt, la, ln, lc, l0, rfl, hx, hb⟩
  have HE := Lib.hid (HE.out.trans hb)
  have HT := Lib.hid (HT.out.ext hb)
  have HL := Lib.hid hx; have HL0 := Lib.hid l0
  clear hb hx l0
  obtain ⟨hln, hl0⟩ := HL0.out
  have HL1 := Lib.hid hl0
  have hq1 : decide ((ln : Int) > 30) = false := by simp; omega
  have hq2 : decide ((30 : Int) < ln) = false := by simp; omega
  have hq3 : decide (30 < ln) = false := by simp; omega
  clear hl0 HL0
  go_wp2_with fail
  refine (turn19 _ _ _ _ _ _ _ _ (HR.out.ext HE.out) HT.out HT0.out).mono ?_
  rintro e w6 ⟨rfl, hb⟩
  have HE := Lib.hid (HE.out.trans hb)
  have HT := Lib.hid (HT.out.ext hb)
  have HL := Lib.hid (HL.out.ext hb)
  clear hb
  go_wp2_with fail
  refine (runs38 _ _ _ _ _ _ _ _ (HR.out.ext HE.out) HL.out HL1.out).mono ?_
  rintro e w7 ⟨rfl, hb⟩
  have HE := Lib.hid (HE.out.trans hb)
  have HT := Lib.hid (HT.out.ext hb)
  have HL := Lib.hid (HL.out.ext hb)
  clear hb
  go_wp2_with fail
  refine (turn20 _ _ _ _ _ _ _ _ (HR.out.ext HE.out) HT.out HT0.out).mono ?_
  rintro e w8 ⟨rfl, hb⟩
  have HE := Lib.hid (HE.out.trans hb)
  have HL := Lib.hid (HL.out.ext hb)
  clear hb
  go_wp2_with fail
  refine (runs39 _ _ _ _ _ _ _ _ (HR.out.ext HE.out) HL.out HL1.out).mono ?_
  rintro e w9 ⟨rfl, hb⟩
  have HE := Lib.hid (HE.out.trans hb)
  clear hb
  go_wp2_with fail
  refine (C19.out _ HE.out).mono ?_
  rintro e w10 ⟨rfl, hb⟩
  have HE := Lib.hid (HE.out.trans hb)
  clear hb
  go_wp2_with fail
  refine (C38.out _ HE.out).mono ?_
  rintro e w11 ⟨rfl, hb⟩
  have HE := Lib.hid (HE.out.trans hb)
  clear hb
  rcases HTL.out with h1 | ⟨rfl, h1⟩
  · have hc1 : (c != 0) = true := by simpa using h1
    have hc2 : decide (c = 0) = false := decide_eq_false h1
    rcases HRL.out with h2 | ⟨rfl, h2⟩
    · have hd1 : (c3 != 0) = true := by simpa using h2
      have hd2 : decide (c3 = 0) = false := decide_eq_false h2
      go_wp2_with fail
      refine (works18 _).mono ?_
      rintro e w99 ⟨rfl, hb⟩
      have HE := Lib.hid (HE.out.trans hb)
      clear hb
      go_wp2
      go_ret
      exact ⟨rfl, HE.out⟩
    · have hk2 : decide (k3 ≥ mv) = true := decide_eq_true h2
      have hk3 : decide (mv ≤ k3) = true := decide_eq_true h2
      go_wp2_with fail
      refine (works18 _).mono ?_
      rintro e w99 ⟨rfl, hb⟩
      have HE := Lib.hid (HE.out.trans hb)
      clear hb
      go_wp2
      go_ret
      exact ⟨rfl, HE.out⟩
  · have hk1 : decide (k ≤ mv) = true := decide_eq_true h1
    rcases HRL.out with h2 | ⟨rfl, h2⟩
    · have hd1 : (c3 != 0) = true := by simpa using h2
      have hd2 : decide (c3 = 0) = false := decide_eq_false h2
      go_wp2_with fail
      refine (works18 _).mono ?_
      rintro e w99 ⟨rfl, hb⟩
      have HE := Lib.hid (HE.out.trans hb)
      clear hb
      go_wp2
      go_ret
      exact ⟨rfl, HE.out⟩
    · have hk2 : decide (k3 ≥ mv) = true := decide_eq_true h2
      have hk3 : decide (mv ≤ k3) = true := decide_eq_true h2
      go_wp2_with fail
      refine (works18 _).mono ?_
      rintro e w99 ⟨rfl, hb⟩
      have HE := Lib.hid (HE.out.trans hb)
      clear hb
      go_wp2
      go_ret
      exact ⟨rfl, HE.out⟩
end Go.Proofs.Ytclcippfodjfeaa
