/- Small functions of the laws and of the reference: equal lists (30), too many logs (17), which rows are right (22), the errors of a row and a number of pockets (41), which turnings are right (20). The reference's CheckTurning (20), by its contract. The reference's rising and CheckRun (60, 36), by their contracts. -/
import Derived.Test.YtclcippfodjfeaaB4
namespace Go.Proofs.Ytclcippfodjfeaa
open Go.RowKit
set_option linter.unusedVariables false
set_option linter.unusedSimpArgs false
theorem ints_ne (a b : Option Addr) (xs ys : List Int) (c d : Nat) (w : World) (hx : Reads w (.slice a xs.length c) xs) (hy : Reads w (.slice b ys.length d) ys) (hne : xs.length ≠ ys.length) :
    Calls Try.prog 30 #[.slice a xs.length c, .slice b ys.length d] w fun e w' => e = .returned (.bool false) ∧ Ext w w' := by
  have h1 := hx.1
  have h2 := hy.1
  have h3 : ((xs.length : Int) != (ys.length : Int)) = true := by simp; omega
  clear hx hy
  go_enter Try.func30, Try.ntmps30
  go_wp2
  go_ret
  exact ⟨rfl, Ext.refl _⟩
theorem ints_eq (a b : Option Addr) (n : Nat) (xs ys : List Int) (c d : Nat) (w : World) (e1 : xs.length = n) (e2 : ys.length = n) (hx : Reads w (.slice a n c) xs) (hy : Reads w (.slice b n d) ys) :
    Calls Try.prog 30 #[.slice a n c, .slice b n d] w fun e w' => e = .returned (.bool (xs == ys)) ∧ Ext w w' := by
  have h1 := hx.1
  have h3 : ((n : Int) != (n : Int)) = false := by simp
  have hn : n ≤ 5000 := by omega
  have HX := Lib.hid hx; have HY := Lib.hid hy; have E1 := Lib.hid e1; have E2 := Lib.hid e2; clear hx hy e1 e2 h1
  go_enter Try.func30, Try.ntmps30
  go_wp2
  go_loopw [5] (fun i wr => ∃ k : Nat, k ≤ n ∧ i = .int .i64 k ∧ Hid (Ext w wr) ∧ Hid (xs.take k = ys.take k)) (fun i wr => n - (intOf i).toNat)
  case atStart => exact ⟨0, Nat.zero_le _, rfl, Ext.refl _, rfl⟩
  case round =>
    obtain ⟨k, hk, rfl, hE, hI⟩ := hrel
    by_cases hlt : k < n
    · obtain ⟨b1, off1, x, rfl, hgx, hcx⟩ := (HX.out.ext hE.out).at (by rw [E1.out]; exact hlt)
      obtain ⟨b2, off2, y, rfl, hgy, hcy⟩ := (HY.out.ext hE.out).at (by rw [E2.out]; exact hlt)
      have HGX := Lib.hid hgx; have HGY := Lib.hid hgy; clear hgx hgy
      have hka : (0 : Int) ≤ (k : Int) := by omega
      have hkb : (k : Int) < (n : Int) := by omega
      by_cases hxy : x = y
      · subst hxy
        go_wp2
        go_quiet (fail)
        go_wp2
        go_roundw
        case rel => exact ⟨k + 1, by omega, by go_num, hE.out.drewN _, (by rw [take_snoc HGX.out, take_snoc HGY.out, hI.out] : _ = _)⟩
        case measure => simp [intOf]; omega
      · have hd : (x != y) = true := by simpa using hxy
        have HN := Lib.hid hxy; clear hxy
        go_wp2
        go_quiet (fail)
        go_wp2
        go_ret
        refine ⟨ret_bool ?_, hE.out.drewN _⟩
        symm
        have hne : xs ≠ ys := by
          intro e
          have h1 := HGX.out
          rw [e, HGY.out] at h1
          exact HN.out (by simpa using h1.symm)
        simpa using hne
    · go_wp2
      go_ret
      obtain rfl : k = n := by omega
      refine ⟨ret_bool ?_, hE.out⟩
      have := hI.out
      rw [List.take_of_length_le (by rw [E1.out]; exact Nat.le_refl _), List.take_of_length_le (by rw [E2.out]; exact Nat.le_refl _)] at this
      simp [this]
theorem ints_any (u v : Value) (xs ys : List Int) (w : World) (hx : Reads w u xs) (hy : Reads w v ys) :
    Calls Try.prog 30 #[u, v] w fun e w' => e = .returned (.bool (xs == ys)) ∧ Ext w w' := by
  obtain ⟨_, a, c, rfl⟩ := hx.shape
  obtain ⟨_, b, d, rfl⟩ := hy.shape
  by_cases h : xs.length = ys.length
  · have hx' := hx
    rw [h] at hx' ⊢
    exact ints_eq a b ys.length xs ys c d w h rfl hx' hy
  · refine (ints_ne a b xs ys c d w hx hy h).mono fun e w' ⟨h1, h2⟩ => ⟨?_, h2⟩
    rw [h1]
    have : xs ≠ ys := fun e => h (by rw [e])
    exact ret_bool (by symm; simpa using this)
theorem great17 (a : Option Addr) (n cap : Nat) (w : World) : Calls Try.prog 17 #[.slice a n cap] w fun e w' => e = .returned (.bool (decide (40 < n))) ∧ w = w' := by
  by_cases h : 40 < n
  all_goals
    have hd : decide ((40 : Int) < (n : Int)) = decide (40 < n) := by rw [decide_eq_decide]; omega
    go_enter Try.func17, Try.ntmps17
    go_wp2
    go_ret
    first | exact ⟨by simp [h], rfl⟩ | exact ⟨rfl, rfl⟩
set_option maxHeartbeats 1000000 in
theorem refRow22 (v : Value) (row : List Int) (w : World) (hr : Reads w v row) :
    Calls Try.prog 22 #[v] w fun e w' => e = .returned (.int .i64 (chkR row)) ∧ w = w' := by
  obtain ⟨hl, a, cap, rfl⟩ := hr.shape
  have HC := Lib.hid hr; clear hr
  have hd : chkR row = if 30 < row.length then 6 else if inn 1 1099511627776 row = true then 0 else 3 := rfl
  rw [hd]; clear hd
  have hl2 : row.length ≤ 9223372036854775807 := by omega
  by_cases h1 : 30 < row.length
  · rw [if_pos h1]
    generalize row.length = n at *
    clear HC
    go_enter Try.func22, Try.ntmps22
    go_wp2
    go_ret
    exact ⟨rfl, rfl⟩
  · rw [if_neg h1]
    obtain ⟨c, hc⟩ : ∃ c : Int, c = if inn 1 1099511627776 row = true then 0 else 3 := ⟨_, rfl⟩
    rw [← hc]
    have HCC := Lib.hid hc; clear hc
    go_enter Try.func22, Try.ntmps22
    go_wp2
    go_loop [3] (fun i => ∃ k : Nat, k ≤ row.length ∧ i = .int .i64 k ∧ Hid (inn 1 1099511627776 (row.take k) = true)) (fun i => row.length - (intOf i).toNat)
    case atStart => exact ⟨0, Nat.zero_le _, rfl, rfl⟩
    case round =>
      obtain ⟨k, hk, rfl, hall⟩ := hrel
      by_cases hlt : k < row.length
      · obtain ⟨b, off, x, rfl, hx, hck⟩ := HC.out.at hlt
        have HX := Lib.hid hx; clear hx
        by_cases hb : 1 ≤ x ∧ x ≤ 1099511627776
        · obtain ⟨h1, h2⟩ := hb
          go_wp2
          go_round
          case rel => exact ⟨k + 1, by omega, by go_num, show _ = true by rw [inn_take _ _ _ _ _ HX.out, hall.out]; simp [h1, h2]⟩
          case measure => simp [intOf]; omega
        · have hb' : x < 1 ∨ 1099511627776 < x := by omega
          have HF := Lib.hid (inn_false HX.out hb')
          have HZ := Lib.hid (show c = 3 from by rw [HCC.out, if_neg (by rw [HF.out]; simp)])
          rcases hb' with hb | hb
          all_goals
            clear hb
            go_wp2
            all_goals first | (go_ret; exact ⟨by rw [HZ.out]; rfl, rfl⟩) | skip
          all_goals (exfalso; omega)
      · have hz : c = 0 := by
          have : k = row.length := by omega
          have h2 := hall.out
          rw [this, List.take_of_length_le (Nat.le_refl _)] at h2
          rw [HCC.out, if_pos h2]
        have HZ := Lib.hid hz; clear hz
        go_wp2
        go_ret
        exact ⟨by rw [HZ.out]; rfl, rfl⟩
theorem refAsked41 (v : Value) (row : List Int) (many : Int) (w : World) (hr : Reads w v row) :
    Calls Try.prog 41 #[v, .int .i64 many] w fun e w' => e = .returned (.int .i64 (askE row many)) ∧ w = w' := by
  have H := Lib.hid (refRow22 v row w hr)
  obtain ⟨hl, a, cap, rfl⟩ := hr.shape
  clear hr
  unfold askE
  generalize chkR row = c at *
  generalize row.length = n at *
  by_cases hc : c = 0
  · subst hc
    rw [if_neg (by decide)]
    by_cases h1 : 0 ≤ many ∧ many ≤ 30
    · rw [if_pos h1]
      obtain ⟨h2, h3⟩ := h1
      go_enter Try.func41, Try.ntmps41
      go_wp2_with fail
      refine H.out.mono ?_
      rintro e w' ⟨rfl, rfl⟩
      go_wp2
      go_ret
      exact ⟨rfl, rfl⟩
    · rw [if_neg h1]
      have h2 : many < 0 ∨ 30 < many := by omega
      rcases h2 with h2 | h2
      all_goals
        clear h1
        go_enter Try.func41, Try.ntmps41
        go_wp2_with fail
        refine H.out.mono ?_
        rintro e w' ⟨rfl, rfl⟩
        go_wp2
        all_goals first | (go_ret; exact ⟨rfl, rfl⟩) | (exfalso; omega)
  · rw [if_pos hc]
    have hd : (c != 0) = true := by simpa using hc
    go_enter Try.func41, Try.ntmps41
    go_wp2_with fail
    refine H.out.mono ?_
    rintro e w' ⟨rfl, rfl⟩
    go_wp2_with fail
    refine H.out.mono ?_
    rintro e w' ⟨rfl, rfl⟩
    go_wp2
    go_ret
    exact ⟨rfl, rfl⟩
end Go.Proofs.Ytclcippfodjfeaa
namespace Go.Proofs.Ytclcippfodjfeaa
open Go.RowKit
set_option linter.unusedVariables false
set_option linter.unusedSimpArgs false
theorem okTo_yes {row t : List Int} {k : Nat} (h0 : okTo row t k = true) (h : okAt row t k = true) : okTo row t (k + 1) = true := by rw [okTo_succ, h0, h]; rfl
theorem okAt_neg {row t : List Int} {k : Nat} (h : tAt t k < 0) : okAt row t k = true := by unfold okAt; simp [h]
theorem okAt_all {row t : List Int} {k : Nat} (h : ∀ c, c < k → ¬ (tAt t c = tAt t k ∧ rAt row k < rAt row c)) : okAt row t k = true := by
  unfold okAt
  rw [Bool.or_eq_true]
  right
  rw [List.all_eq_true]
  intro c hc
  have := h c (List.mem_range.1 hc)
  simp only [Bool.not_eq_true', Bool.and_eq_false_iff, beq_eq_false_iff_ne, decide_eq_false_iff_not]
  by_cases h1 : tAt t c = tAt t k
  · right; intro h2; exact this ⟨h1, h2⟩
  · left; exact h1
theorem okAt_bad {row t : List Int} {k c : Nat} (hc : c < k) (h0 : 0 ≤ tAt t k) (h1 : tAt t c = tAt t k) (h2 : rAt row k < rAt row c) : okAt row t k = false := by
  unfold okAt
  rw [Bool.or_eq_false_iff]
  refine ⟨by simpa using h0, ?_⟩
  rw [List.all_eq_false]
  exact ⟨c, List.mem_range.2 hc, by simp [h1, h2]⟩
set_option maxRecDepth 100000 in
set_option maxHeartbeats 4000000 in
theorem refTurning20 (v vt : Value) (row t : List Int) (many : Int) (w : World) (hr : Reads w v row) (ht : Reads w vt t) :
    Calls Try.prog 20 #[v, .int .i64 many, vt] w fun e w' => e = .returned (.tuple #[.int .i64 (turnV row many t).1, .int .i64 (turnV row many t).2]) ∧ Ext w w' := by
  have h41 := refAsked41 v row many w hr
  obtain ⟨hlr, a, cap, rfl⟩ := hr.shape
  obtain ⟨hlt, a', cap', rfl⟩ := ht.shape
  have hbad : askE row many ≠ 0 → turnV row many t = (0, askE row many) := fun h => by unfold turnV; rw [if_pos h]
  have hneq : askE row many = 0 → t.length ≠ row.length → turnV row many t = (0, 15) := fun h h2 => by unfold turnV; rw [if_neg (by simp [h]), if_pos h2]
  have hrng : askE row many = 0 → t.length = row.length → inn (-1) (many - 1) t = false → turnV row many t = (0, 3) := fun h h2 h3 => by unfold turnV; rw [if_neg (by simp [h]), if_neg (by simp [h2])]; unfold inn at h3; rw [if_pos h3]
  have hrule : askE row many = 0 → t.length = row.length → inn (-1) (many - 1) t = true → okTo row t t.length = false → turnV row many t = (0, 16) := fun h h2 h3 h4 => by unfold turnV; rw [if_neg (by simp [h]), if_neg (by simp [h2])]; unfold inn at h3; rw [if_neg (by rw [h3]; simp), if_pos h4]
  have hgood : askE row many = 0 → t.length = row.length → inn (-1) (many - 1) t = true → okTo row t t.length = true → turnV row many t = ((cntTo t t.length : Int), 0) := fun h h2 h3 h4 => by unfold turnV; rw [if_neg (by simp [h]), if_neg (by simp [h2])]; unfold inn at h3; rw [if_neg (by rw [h3]; simp), if_neg (by rw [h4]; simp)]
  obtain ⟨c, hc⟩ : ∃ c, c = askE row many := ⟨_, rfl⟩
  rw [← hc] at h41 hbad hneq hrng hrule hgood
  have H41 := Lib.hid h41
  obtain ⟨r1, hr1⟩ : ∃ r1, r1 = (turnV row many t).1 := ⟨_, rfl⟩
  obtain ⟨r2, hr2⟩ : ∃ r2, r2 = (turnV row many t).2 := ⟨_, rfl⟩
  rw [← hr1, ← hr2]
  have HR1 := Lib.hid hr1; have HR2 := Lib.hid hr2
  clear hr1 hr2 hc h41
  by_cases h0 : c = 0
  · subst h0
    by_cases hlen : t.length = row.length
    · obtain ⟨n, hn⟩ : ∃ n, n = row.length := ⟨_, rfl⟩
      have HR := Lib.hid hr; have HT := Lib.hid ht
      have HRNG := Lib.hid (hrng rfl hlen); have HRULE := Lib.hid (hrule rfl hlen); have HGOOD := Lib.hid (hgood rfl hlen)
      have HLT := Lib.hid (hlen.trans hn.symm); have HLR := Lib.hid hn
      rw [hlen, ← hn] at HT ⊢
      rw [hlen, ← hn] at HRULE HGOOD
      rw [← hn] at HR H41 hlr
      have hnb : ((n : Int) != (n : Int)) = false := by simp
      clear hr ht hbad hneq hrng hrule hgood hlt hn hlen
      go_enter Try.func20, Try.ntmps20
      go_wp2_with fail
      refine H41.out.mono ?_
      rintro e w' ⟨rfl, rfl⟩
      go_wp2_with fail
      go_loopg [8] n (fun g i wr => ∃ k : Nat, k + g = n ∧ i = .int .i64 (k : Int) ∧ Hid (inn (-1) (many - 1) (t.take k) = true) ∧ Hid (Ext w wr))
      case atStart => exact ⟨0, by omega, rfl, (by rfl : inn _ _ _ = true), Ext.refl _⟩
      case round =>
        obtain ⟨k, hkg, rfl, hall, hE⟩ := hrel
        by_cases hlt : k < n
        · obtain ⟨b, off, x, rfl, hx, hck⟩ := (HT.out.ext hE.out).at (show k < t.length by rw [HLT.out]; exact hlt)
          have HX := Lib.hid hx; clear hx
          have hka : (0 : Int) ≤ (k : Int) := by omega
          have hkb : (k : Int) < (n : Int) := by omega
          by_cases hb : -1 ≤ x ∧ x < many
          · obtain ⟨h1, h2⟩ := hb
            have hd1 : decide (x < -1) = false := decide_eq_false (by omega)
            have hd2 : decide (many ≤ x) = false := decide_eq_false (by omega)
            go_wp2
            go_roundg (n - (k + 1))
            case measure => omega
            case rel => exact ⟨k + 1, by omega, by go_num, show _ = true by (rw [inn_take _ _ _ _ _ HX.out, hall.out, Bool.true_and, Bool.and_eq_true, decide_eq_true_iff, decide_eq_true_iff]; omega), hE.out⟩
          · have hb' : x < -1 ∨ many - 1 < x := by omega
            have HF := Lib.hid (HRNG.out (inn_false HX.out hb'))
            by_cases hb1 : x < -1
            · have hd1 : decide (x < -1) = true := decide_eq_true hb1
              clear hb hb'
              go_wp2
              try rw [Exit.noGoto_ret]
              go_ret2
              rw [HR1.out, HR2.out, HF.out]
              exact ⟨rfl, hE.out⟩
            · have hd1 : decide (x < -1) = false := decide_eq_false hb1
              have hd2 : decide (many ≤ x) = true := decide_eq_true (by omega)
              have hd3 : many ≤ x := by omega
              clear hb hb'
              go_wp2
              try rw [Exit.noGoto_ret]
              go_ret2
              rw [HR1.out, HR2.out, HF.out]
              exact ⟨rfl, hE.out⟩
        · obtain rfl : n = k := by omega
          have hI := hall.out
          rw [List.take_of_length_le (by rw [HLT.out]; exact Nat.le_refl _)] at hI
          have HI := Lib.hid hI
          clear hI hall hlt hkg
          go_wp2
          go_loopg [9, 10] n (fun g o i wr => ∃ k : Nat, k + g = n ∧ i = .int .i64 (k : Int) ∧ o = .int .i64 (cntTo t k : Int) ∧ Hid (okTo row t k = true) ∧ Hid (Ext w wr))
          case atStart => exact ⟨0, by omega, rfl, rfl, (by rfl : okTo row t 0 = true), hE.out⟩
          case round =>
            clear hE
            obtain ⟨k, hkg, rfl, rfl, hok, hE⟩ := hrel
            by_cases hlt : k < n
            · obtain ⟨b1, off1, x, rfl, hx, hck⟩ := (HT.out.ext hE.out).at (show k < t.length by rw [HLT.out]; exact hlt)
              have hx' : tAt t k = x := tAt_some hx
              have hcs := cntTo_succ (t := t) (k := k) (by rw [HLT.out]; exact hlt)
              have hcl := cntTo_le t k
              rw [hx'] at hcs
              obtain ⟨cn, hcn⟩ : ∃ cn, cn = cntTo t k := ⟨_, rfl⟩
              rw [← hcn] at hcs hcl ⊢
              have HX := Lib.hid hx'; have HCS := Lib.hid hcs
              have hka : (0 : Int) ≤ (k : Int) := by omega
              have hkb : (k : Int) < (n : Int) := by omega
              clear hx hx' hcs hcn
              by_cases hneg : x < 0
              · have hd1 : decide (x < 0) = true := decide_eq_true hneg
                have HA := Lib.hid (okTo_yes hok.out (okAt_neg (by rw [HX.out]; exact hneg)))
                have HC2 := Lib.hid (show cntTo t (k + 1) = cn from by rw [HCS.out, if_neg (by omega)]; rfl)
                go_wp2
                go_roundg (n - (k + 1))
                case measure => omega
                case rel => exact ⟨k + 1, by omega, by go_num, by rw [HC2.out], HA.out, hE.out⟩
              · have hd1 : decide (x < 0) = false := decide_eq_false hneg
                have HC2 := Lib.hid (show cntTo t (k + 1) = cn + 1 from by rw [HCS.out, if_pos (by omega)])
                have hwc : IntKind.i64.wrap ((cn : Int) + 1) = (cn : Int) + 1 := wrapi64 _ (by omega) (by omega)
                have HNEG := Lib.hid (show 0 ≤ tAt t k from by rw [HX.out]; omega)
                obtain ⟨b2, off2, y, hb2, hy, hcy⟩ := (HR.out.ext hE.out).at (show k < row.length by rw [← HLR.out]; exact hlt)
                subst hb2
                have HY := Lib.hid (show rAt row k = y from tAt_some hy)
                clear hy hcy
                go_wp2
                go_loopg [11] k (fun g2 j wy => ∃ q : Nat, q + g2 = k ∧ j = .int .i64 (q : Int) ∧ Hid (∀ c, c < q → ¬ (tAt t c = tAt t k ∧ rAt row k < rAt row c)) ∧ Hid (Ext w wy))
                case atStart => exact ⟨0, by omega, rfl, fun c h => by omega, hE.out⟩
                case round =>
                  clear hE
                  obtain ⟨q, hqg, rfl, hI, hE⟩ := hrel
                  by_cases hq : q < k
                  · obtain ⟨b3, off3, u, hb3, hu, hcu⟩ := (HT.out.ext hE.out).at (show q < t.length by rw [HLT.out]; omega)
                    cases hb3
                    obtain ⟨b4, off4, x4, hb4, hx4, hcx⟩ := (HT.out.ext hE.out).at (show k < t.length by rw [HLT.out]; omega)
                    cases hb4
                    have e4 : x4 = x := (tAt_some hx4).symm.trans HX.out
                    subst e4
                    obtain ⟨b5, off5, z, hb5, hz, hcz⟩ := (HR.out.ext hE.out).at (show q < row.length by rw [← HLR.out]; omega)
                    cases hb5
                    obtain ⟨b6, off6, y6, hb6, hy6, hcy⟩ := (HR.out.ext hE.out).at (show k < row.length by rw [← HLR.out]; omega)
                    cases hb6
                    have e6 : y6 = y := (tAt_some hy6).symm.trans HY.out
                    subst e6
                    have HU := Lib.hid (show tAt t q = u from tAt_some hu)
                    have HZ := Lib.hid (show rAt row q = z from tAt_some hz)
                    have hqa : (0 : Int) ≤ (q : Int) := by omega
                    have hqb : (q : Int) < (n : Int) := by omega
                    have hqc : (q : Int) < (k : Int) := by omega
                    clear hu hx4 hz hy6
                    have hnext : ¬ (u = x4 ∧ y6 < z) → ∀ c, c < q + 1 → ¬ (tAt t c = tAt t k ∧ rAt row k < rAt row c) := fun h c hc => by
                      rcases Nat.lt_succ_iff_lt_or_eq.1 hc with h1 | h1
                      · exact hI.out c h1
                      · subst h1; rw [HU.out, HX.out, HY.out, HZ.out]; exact h
                    have HNX := Lib.hid hnext; clear hnext
                    by_cases hux : u = x4
                    · subst hux
                      have hdu : (u == u) = true := by simp
                      by_cases hyz : y6 < z
                      · have hdz : decide (y6 < z) = true := decide_eq_true hyz
                        have HBAD := Lib.hid (HRULE.out HI.out (okTo_no (show k < n by omega) (okAt_bad hq HNEG.out (by rw [HU.out, HX.out]) (by rw [HY.out, HZ.out]; exact hyz))))
                        go_wp2
                        go_quiet (fail)
                        go_wp2
                        try rw [Exit.noGoto_ret]
                        go_ret2
                        rw [HR1.out, HR2.out, HBAD.out]
                        exact ⟨rfl, hE.out.drewN _⟩
                      · have hdz : decide (y6 < z) = false := decide_eq_false hyz
                        go_wp2
                        go_quiet (fail)
                        go_wp2
                        go_roundg (k - (q + 1))
                        case measure => omega
                        case rel => exact ⟨q + 1, by omega, by go_num, HNX.out (fun h => by omega), hE.out.drewN _⟩
                    · have hdu : (u == x4) = false := by simpa using hux
                      go_wp2
                      go_quiet (fail)
                      go_wp2
                      go_roundg (k - (q + 1))
                      case measure => omega
                      case rel => exact ⟨q + 1, by omega, by go_num, HNX.out (fun h => hux h.1), hE.out.drewN _⟩
                  · obtain rfl : q = k := by omega
                    have HA := Lib.hid (okTo_yes hok.out (okAt_all hI.out))
                    go_wp2
                    go_roundg (n - (q + 1))
                    case measure => omega
                    case rel => exact ⟨q + 1, by omega, by go_num, by rw [HC2.out]; go_num, HA.out, hE.out⟩
            · obtain rfl : n = k := by omega
              have HG := Lib.hid (HGOOD.out HI.out hok.out)
              obtain ⟨cn, hcn⟩ : ∃ cn, cn = cntTo t n := ⟨_, rfl⟩
              rw [← hcn] at HG ⊢
              clear hcn
              go_wp2
              try rw [Exit.noGoto_ret]
              go_ret2
              rw [HR1.out, HR2.out, HG.out]
              exact ⟨rfl, hE.out⟩
    · have hne := hneq rfl hlen
      obtain ⟨n, hn⟩ : ∃ n, n = row.length := ⟨_, rfl⟩
      obtain ⟨m, hm⟩ : ∃ m, m = t.length := ⟨_, rfl⟩
      have HNE := Lib.hid hne
      rw [← hn, ← hm] at hlen
      rw [← hn] at H41 hlr
      rw [← hn, ← hm]
      have hnb : ((m : Int) != (n : Int)) = true := by simp; omega
      clear hr ht hbad hneq hrng hrule hgood hlt hne hn hm
      go_enter Try.func20, Try.ntmps20
      go_wp2_with fail
      refine H41.out.mono ?_
      rintro e w' ⟨rfl, rfl⟩
      go_wp2_with fail
      go_ret2
      rw [HR1.out, HR2.out, HNE.out]
      exact ⟨rfl, Ext.refl _⟩
  · have HB := Lib.hid (hbad h0)
    have hd : (c != 0) = true := by simpa using h0
    obtain ⟨n, hn⟩ : ∃ n, n = row.length := ⟨_, rfl⟩
    obtain ⟨m, hm⟩ : ∃ m, m = t.length := ⟨_, rfl⟩
    rw [← hn] at H41 hlr
    rw [← hn, ← hm]
    clear hr ht hbad hneq hrng hrule hgood hlt hn hm
    go_enter Try.func20, Try.ntmps20
    go_wp2_with fail
    refine H41.out.mono ?_
    rintro e w' ⟨rfl, rfl⟩
    go_wp2_with fail
    refine H41.out.mono ?_
    rintro e w' ⟨rfl, rfl⟩
    go_wp2_with fail
    go_ret2
    rw [HR1.out, HR2.out, HB.out]
    exact ⟨rfl, Ext.refl _⟩
end Go.Proofs.Ytclcippfodjfeaa
namespace Go.Proofs.Ytclcippfodjfeaa
open Go.RowKit
set_option linter.unusedVariables false
set_option linter.unusedSimpArgs false
set_option maxRecDepth 100000 in
set_option maxHeartbeats 4000000 in
theorem rising60 (v vq : Value) (row run : List Int) (w : World) (hr : Reads w v row) (hq : Reads w vq run) :
    Calls Try.prog 60 #[v, vq] w fun e w' => e = .returned (.int .i64 (risE row run)) ∧ Ext w w' := by
  obtain ⟨hlr, ar, cap, rfl⟩ := hr.shape
  obtain ⟨hlq, aq, cap', rfl⟩ := hq.shape
  have hbadL : listB row.length run = false → risE row run = 3 := fun h => by unfold risE; rw [if_pos h]
  have hbadD : listB row.length run = true → decB row run = false → risE row run = 16 := fun h h2 => by unfold risE; rw [if_neg (by rw [h]; simp), if_pos h2]
  have hgood : listB row.length run = true → decB row run = true → risE row run = 0 := fun h h2 => by unfold risE; rw [if_neg (by rw [h]; simp), if_neg (by rw [h2]; simp)]
  obtain ⟨n, hn⟩ : ∃ n, n = row.length := ⟨_, rfl⟩
  obtain ⟨m, hm⟩ : ∃ m, m = run.length := ⟨_, rfl⟩
  obtain ⟨r, hrr⟩ : ∃ r, r = risE row run := ⟨_, rfl⟩
  rw [← hrr] at hbadL hbadD hgood ⊢
  rw [← hn] at hr hlr hbadL hbadD hgood ⊢
  rw [← hm] at hq hlq ⊢
  have HR := Lib.hid hr; have HQ := Lib.hid hq; have HBL := Lib.hid hbadL; have HBD := Lib.hid hbadD; have HG := Lib.hid hgood; have HN := Lib.hid hn; have HM := Lib.hid hm
  have HNO := Lib.hid (show inn 0 ((n : Int) - 1) run = false → r = 3 from fun h => hbadL (by unfold listB; rw [h]; rfl))
  have HNU := Lib.hid (show upB run = false → r = 3 from fun h => hbadL (by unfold listB; rw [h, Bool.and_false]))
  have hlm : m ≤ 9223372036854775807 := by omega
  clear hr hq hbadL hbadD hgood hrr hn hm
  go_enter Try.func60, Try.ntmps60
  go_wp2
  go_loopw [5] (fun i wr => ∃ k : Nat, k ≤ m ∧ i = .int .i64 (k : Int) ∧ Hid (inn 0 ((n : Int) - 1) (run.take k) = true) ∧ Hid (upTo1 run k = true) ∧ Hid (Ext w wr)) (fun i wr => m - (intOf i).toNat)
  case atStart => exact ⟨0, by omega, rfl, (by rfl : inn _ _ _ = true), (by rfl : upTo1 run 0 = true), Ext.refl _⟩
  case round =>
    obtain ⟨k, hk, rfl, hI, hU, hE⟩ := hrel
    by_cases hlt : k < m
    · obtain ⟨b, off, z, rfl, hz, hcz⟩ := (HQ.out.ext hE.out).at (show k < run.length by rw [← HM.out]; exact hlt)
      have HZ := Lib.hid hz
      by_cases h1 : z < 0
      · have hd1 : decide (z < 0) = true := decide_eq_true h1
        have HF := Lib.hid (HNO.out (inn_false HZ.out (.inl h1)))
        have hka : (0 : Int) ≤ (k : Int) := by omega
        have hkb : (k : Int) < (m : Int) := by omega
        clear hz
        go_wp2
        go_quiet (fail)
        go_wp2
        go_ret
        exact ⟨by rw [HF.out]; rfl, hE.out.drewN _⟩
      · have hd1 : decide (z < 0) = false := decide_eq_false h1
        by_cases h2 : (n : Int) ≤ z
        · have hd2 : decide ((n : Int) ≤ z) = true := decide_eq_true h2
          have HF := Lib.hid (HNO.out (inn_false HZ.out (.inr (by omega))))
          have hka : (0 : Int) ≤ (k : Int) := by omega
          have hkb : (k : Int) < (m : Int) := by omega
          clear hz
          go_wp2
          go_quiet (fail)
          go_wp2
          go_ret
          exact ⟨by rw [HF.out]; rfl, hE.out.drewN _⟩
        · have hd2 : decide ((n : Int) ≤ z) = false := decide_eq_false h2
          have HI2 := Lib.hid (show inn 0 ((n : Int) - 1) (run.take (k + 1)) = true from by rw [inn_take _ _ _ _ _ HZ.out, hI.out, Bool.true_and, Bool.and_eq_true, decide_eq_true_iff, decide_eq_true_iff]; omega)
          have hus := upTo1_succ run k
          rw [hU.out, Bool.true_and] at hus
          by_cases hk0 : k = 0
          · subst hk0
            have HU2 := Lib.hid (show upTo1 run (0 + 1) = true from hus)
            have hlt' : (0 : Int) < (m : Int) := by omega
            have hd3 : decide ((0 : Int) < 0) = false := by decide
            rw [show ((0 : Nat) : Int) = (0 : Int) from rfl]
            simp only [Nat.add_zero] at hcz
            clear hz hus
            go_wp2
            go_quiet (fail)
            go_wp2
            go_roundw
            case rel => exact ⟨0 + 1, by omega, by go_num, HI2.out, HU2.out, hE.out.drewN _⟩
            case measure => simp [intOf]; omega
          · obtain ⟨k', rfl⟩ : ∃ k', k = k' + 1 := ⟨k - 1, by omega⟩
            obtain ⟨b', off', y, hb', hy, hcy⟩ := (HQ.out.ext hE.out).at (show k' < run.length by rw [← HM.out]; omega)
            cases hb'
            rw [show ((k' + 1 : Nat) : Int) = (k' : Int) + 1 from by omega]
            rw [tAt_some hz, show k' + 1 - 1 = k' from rfl, tAt_some hy, show (k' + 1 == 0) = false from rfl, Bool.false_or] at hus
            have HUS := Lib.hid hus
            have hka : (0 : Int) ≤ (k' : Int) + 1 := by omega
            have hkb : (k' : Int) + 1 < (m : Int) := by omega
            have hkc : (0 : Int) ≤ (k' : Int) := by omega
            have hkd : (k' : Int) < (m : Int) := by omega
            have hw1 : IntKind.i64.wrap ((k' : Int) + 1 - 1) = (k' : Int) := by rw [show (k' : Int) + 1 - 1 = k' from by omega]; exact wrapi64 _ (by omega) (by omega)
            have ht : ((k' : Int) + 1).toNat = k' + 1 := by omega
            have ht2 : (k' : Int).toNat = k' := by omega
            have hd3 : decide ((0 : Int) < (k' : Int) + 1) = true := decide_eq_true (by omega)
            by_cases hzy : z ≤ y
            · have hd4 : decide (z ≤ y) = true := decide_eq_true hzy
              have HF := Lib.hid (HNU.out (show upTo1 run run.length = false from upTo1_no (k := k' + 1) (by rw [← HM.out]; exact hlt) (by omega) (by rw [tAt_some hz, show k' + 1 - 1 = k' from rfl, tAt_some hy]; exact hzy)))
              clear hz hy hus
              go_wp2
              go_quiet (fail)
              go_wp2
              go_ret
              exact ⟨by rw [HF.out]; rfl, hE.out.drewN _⟩
            · have hd4 : decide (z ≤ y) = false := decide_eq_false hzy
              have HU2 := Lib.hid (show upTo1 run (k' + 1 + 1) = true from by rw [HUS.out]; exact decide_eq_true (by omega))
              clear hz hy hus
              go_wp2
              go_quiet (fail)
              go_wp2
              go_roundw
              case rel => exact ⟨k' + 1 + 1, by omega, by go_num, HI2.out, HU2.out, hE.out.drewN _⟩
              case measure => simp [intOf]; omega
    · obtain rfl : m = k := by omega
      have hI2 := hI.out
      have hU2 := hU.out
      rw [List.take_of_length_le (by rw [← HM.out]; exact Nat.le_refl _)] at hI2
      rw [HM.out] at hU2
      have HL := Lib.hid (show listB n run = true from by unfold listB upB; rw [hI2, hU2]; rfl)
      have HAT := Lib.hid (inn_at.1 hI2)
      clear hI2 hU2 hI hU hlt hk
      go_wp2
      go_loopw [6] (fun i wr => ∃ k : Nat, (k + 1 ≤ m ∨ k = 0) ∧ i = .int .i64 ((k : Int) + 1) ∧ Hid (decTo row run (k + 1) = true) ∧ Hid (Ext w wr)) (fun i wr => m + 1 - (intOf i).toNat)
      case atStart => exact ⟨0, .inr rfl, rfl, (by rfl : _ = true), hE.out⟩
      case round =>
        clear hE
        obtain ⟨k, hk, rfl, hD, hE⟩ := hrel
        by_cases hlt : k + 1 < m
        · obtain ⟨b, off, z, rfl, hz, hcz⟩ := (HQ.out.ext hE.out).at (show k + 1 < run.length by rw [← HM.out]; exact hlt)
          obtain ⟨b', off', y, hb', hy, hcy⟩ := (HQ.out.ext hE.out).at (show k < run.length by rw [← HM.out]; omega)
          cases hb'
          obtain ⟨h1, h2⟩ := HAT.out (k + 1) (by rw [← HM.out]; exact hlt)
          obtain ⟨h3, h4⟩ := HAT.out k (by rw [← HM.out]; omega)
          have hds := decTo_succ row run (k + 1)
          have hno := fun h => decTo_no (row := row) (run := run) (k := k + 1) (n := run.length) (by rw [← HM.out]; exact hlt) (by omega) h
          rw [hD.out, Bool.true_and, show (k + 1 == 0) = false from rfl, Bool.false_or, show k + 1 - 1 = k from rfl] at hds
          rw [show k + 1 - 1 = k from rfl] at hno
          rw [tAt_some hz] at h1 h2 hds hno
          rw [tAt_some hy] at h3 h4 hds hno
          obtain ⟨j, rfl⟩ : ∃ j : Nat, z = (j : Int) := ⟨z.toNat, by omega⟩
          obtain ⟨i, rfl⟩ : ∃ i : Nat, y = (i : Int) := ⟨y.toNat, by omega⟩
          rw [show ((j : Int)).toNat = j from by omega, show ((i : Int)).toNat = i from by omega] at hds hno
          obtain ⟨b2, off2, x2, rfl, hx2, hc2⟩ := (HR.out.ext hE.out).at (show j < row.length by rw [← HN.out]; omega)
          obtain ⟨b2', off2', x3, hb2, hx3, hc3⟩ := (HR.out.ext hE.out).at (show i < row.length by rw [← HN.out]; omega)
          cases hb2
          have e2 : rAt row j = x2 := tAt_some hx2
          have e3 : rAt row i = x3 := tAt_some hx3
          rw [e2, e3] at hds hno
          have HDS := Lib.hid hds; have HNOD := Lib.hid hno
          have hka : (0 : Int) ≤ (k : Int) + 1 := by omega
          have hkb : (k : Int) + 1 < (m : Int) := by omega
          have hkc : (0 : Int) ≤ (k : Int) := by omega
          have hkd : (k : Int) < (m : Int) := by omega
          have hja : (0 : Int) ≤ (j : Int) := by omega
          have hjb : (j : Int) < (n : Int) := by omega
          have hia : (0 : Int) ≤ (i : Int) := by omega
          have hib : (i : Int) < (n : Int) := by omega
          have hw1 : IntKind.i64.wrap ((k : Int) + 1 - 1) = (k : Int) := by rw [show (k : Int) + 1 - 1 = k from by omega]; exact wrapi64 _ (by omega) (by omega)
          have ht : ((k : Int) + 1).toNat = k + 1 := by omega
          have ht2 : (k : Int).toNat = k := by omega
          clear hz hy hds hno hx2 hx3 e2 e3 h1 h2 h3 h4
          by_cases hge : x3 ≤ x2
          · have hd : decide (x3 ≤ x2) = true := decide_eq_true hge
            have HF := Lib.hid (HBD.out HL.out (HNOD.out hge))
            go_wp2
            go_quiet (fail)
            go_wp2
            go_ret
            exact ⟨by rw [HF.out]; rfl, hE.out.drewN _⟩
          · have hd : decide (x3 ≤ x2) = false := decide_eq_false hge
            have HD2 := Lib.hid (show decTo row run (k + 1 + 1) = true from by rw [HDS.out]; exact decide_eq_true (by omega))
            go_wp2
            go_quiet (fail)
            go_wp2
            go_roundw
            case rel => exact ⟨k + 1, .inl (by omega), by go_num, HD2.out, hE.out.drewN _⟩
            case measure => simp [intOf]; omega
        · have hD2 : decB row run = true := by
            have h1 := hD.out
            unfold decB
            rcases hk with h | h
            · rw [← HM.out, show m = k + 1 from by omega]; exact h1
            · subst h
              rcases Nat.eq_zero_or_pos m with h0 | h0
              · rw [← HM.out, h0]; rfl
              · rw [← HM.out, show m = 1 from by omega]; rfl
          have HF := Lib.hid (HG.out HL.out hD2)
          clear hD2
          go_wp2
          go_ret
          exact ⟨by rw [HF.out]; rfl, hE.out⟩
theorem refRun36 (v vq : Value) (row run : List Int) (w : World) (hr : Reads w v row) (hq : Reads w vq run) :
    Calls Try.prog 36 #[v, vq] w fun e w' => e = .returned (.int .i64 (runE row run)) ∧ Ext w w' := by
  have H22 := Lib.hid (refRow22 v row w hr)
  have H60 := Lib.hid (rising60 v vq row run w hr hq)
  obtain ⟨hlr, ar, cap, rfl⟩ := hr.shape
  obtain ⟨hlq, aq, cap', rfl⟩ := hq.shape
  clear hr hq
  unfold runE
  generalize risE row run = r at *
  generalize chkR row = c at *
  generalize row.length = n at *
  generalize run.length = m at *
  by_cases hc : c = 0
  · subst hc
    rw [if_neg (by decide)]
    go_enter Try.func36, Try.ntmps36
    go_wp2_with fail
    refine H22.out.mono ?_
    rintro e w' ⟨rfl, rfl⟩
    go_wp2_with fail
    refine H60.out.mono ?_
    rintro e w' ⟨rfl, hb⟩
    have HB := Lib.hid hb; clear hb
    go_wp2
    go_ret
    exact ⟨rfl, HB.out⟩
  · rw [if_pos hc]
    have hd : (c != 0) = true := by simpa using hc
    go_enter Try.func36, Try.ntmps36
    go_wp2_with fail
    refine H22.out.mono ?_
    rintro e w' ⟨rfl, rfl⟩
    go_wp2_with fail
    refine H22.out.mono ?_
    rintro e w' ⟨rfl, rfl⟩
    go_wp2
    go_ret
    exact ⟨rfl, Ext.refl _⟩
end Go.Proofs.Ytclcippfodjfeaa
