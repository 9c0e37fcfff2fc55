/- The reference's Family. -/
import Derived.Test.YtlgdnbpboonhdaaG9
import Derived.Test.YtlgdnbpboonhdaaU7
namespace Go.Proofs.Ytlgdnbpboonhdaa
open Go.RowKit Go.Shelf Go.Maps
set_option linter.unusedVariables false
attribute [local go_sem] Oper.semAt_some
theorem better_iff (a b : Nat) : betterB a b = true ↔ (bitsL b).length < (bitsL a).length ∨ (bitsL a).length = (bitsL b).length ∧ revF 12 0 b < revF 12 0 a := by
  unfold betterB
  rw [Bool.or_eq_true, Bool.and_eq_true, decide_eq_true_iff, decide_eq_true_iff, fst_rev]
/-- The best set among the first ones. -/
def bestTo (c : List Nat) (n s b : Nat) : Prop := b < 2 ^ n ∧ goodB c b n = true ∧ ∀ t, t < s → goodB c t n = true → betterB t b = false
theorem bestTo_zero (c : List Nat) (n : Nat) : bestTo c n 0 0 := by
  refine ⟨Nat.two_pow_pos n, ?_, fun t ht => by omega⟩
  unfold goodB
  rw [List.all_eq_true]
  intro i _
  simp [bitB]
theorem bestTo_bad {c : List Nat} {n s b : Nat} (h : bestTo c n s b) (hg : goodB c s n = false) : bestTo c n (s + 1) b := by
  refine ⟨h.1, h.2.1, fun t ht hgt => ?_⟩
  rcases Nat.lt_or_ge t s with h1 | h1
  · exact h.2.2 t h1 hgt
  · obtain rfl : t = s := by omega
    rw [hg] at hgt; cases hgt
theorem bestTo_stay {c : List Nat} {n s b : Nat} (h : bestTo c n s b) (hb : betterB s b = false) : bestTo c n (s + 1) b := by
  refine ⟨h.1, h.2.1, fun t ht hgt => ?_⟩
  rcases Nat.lt_or_ge t s with h1 | h1
  · exact h.2.2 t h1 hgt
  · obtain rfl : t = s := by omega
    exact hb
theorem bestTo_new {c : List Nat} {n s b : Nat} (h : bestTo c n s b) (hs : s < 2 ^ n) (hg : goodB c s n = true) (hb : betterB s b = true) : bestTo c n (s + 1) s := by
  refine ⟨hs, hg, fun t ht hgt => ?_⟩
  rw [Bool.eq_false_iff]
  intro hts
  rw [better_iff] at hts hb
  rcases Nat.lt_or_ge t s with h1 | h1
  · have h2 := h.2.2 t h1 hgt
    rw [Bool.eq_false_iff] at h2
    apply h2
    rw [better_iff]
    omega
  · obtain rfl : t = s := by omega
    omega
set_option maxRecDepth 100000 in
theorem family38_err (S L : Int) (xs ys : List Int) (v u : Value) (w : World) (hr : Reads w v xs) (hu : Reads w u ys) (hc : askC S L xs ys ≠ 0) :
    Calls Try.prog 38 #[.agg #[.int .i64 S, .int .i64 L, v], u] w fun e w' => e = .returned (.tuple #[.slice none 0 0, .int .i64 (askC S L xs ys)]) ∧ Ext w w' := by
  obtain ⟨hl, a, cap, rfl⟩ := hr.shape
  have E0 := Lib.hid ((Ext.refl w).alloc (.cells #[.int .i64 S, .int .i64 L, .slice a xs.length cap] 24))
  have P0 := Lib.hid (OffAt.new w (.int .i64 S) (.int .i64 L) (.slice a xs.length cap) 24)
  have HR := Lib.hid hr; have HU := Lib.hid hu; clear hr hu
  obtain ⟨c, hc'⟩ : ∃ c, c = askC S L xs ys := ⟨_, rfl⟩
  rw [← hc'] at hc ⊢
  have HC := Lib.hid hc'; clear hc'
  have hd : (c != 0) = true := by simpa using hc
  clear hc
  go_enter Try.func38, Try.ntmps38
  go_wp2_with fail
  refine (asked81 _ _ xs ys _ _ _ (HR.out.ext E0.out) (HU.out.ext E0.out)).mono ?_
  rintro e w1 ⟨rfl, hb⟩
  obtain ⟨g1, g2, g3⟩ := P0.out.ext hb
  have HB := Lib.hid (E0.out.trans hb); clear hb
  rw [← HC.out]
  go_wp2_with fail
  refine (asked81 _ _ xs ys _ _ _ (HR.out.ext HB.out) (HU.out.ext HB.out)).mono ?_
  rintro e w2 ⟨rfl, hb⟩
  replace HB := Lib.hid (HB.out.trans hb); clear hb
  rw [← HC.out]
  go_wp2
  go_ret2
  exact ⟨rfl, HB.out⟩
set_option maxRecDepth 100000 in
set_option maxHeartbeats 4000000 in
theorem family38_ok (S L : Nat) (ms qs : List Nat) (v u : Value) (w : World) (hv : Valid S L ms) (hr : Reads w v (ints ms)) (hu : Reads w u (ints qs)) (hq : Valid S L qs) :
    Calls Try.prog 38 #[.agg #[.int .i64 (S : Int), .int .i64 (L : Int), v], u] w fun e w' => ∃ u', e = .returned (.tuple #[u', .int .i64 0]) ∧ Reads w' u' (ints (familyL ms L qs)) ∧ Ext w w' := by
  obtain ⟨hl, a, cap, rfl⟩ := hr.shape
  obtain ⟨hl2, a2, cap2, rfl⟩ := hu.shape
  rw [ints_length] at hr hu hl hl2
  rw [ints_length, ints_length]
  have E0 := Lib.hid ((Ext.refl w).alloc (.cells #[.int .i64 (S : Int), .int .i64 (L : Int), .slice a ms.length cap] 24))
  have P0 := Lib.hid (OffAt.new w (.int .i64 (S : Int)) (.int .i64 (L : Int)) (.slice a ms.length cap) 24)
  have HC := Lib.hid (ask_ok hv hq)
  have H81 := Lib.hid (fun W (h : Ext w W) => asked81 (S : Int) (L : Int) (ints ms) (ints qs) _ _ W (hr.ext h) (hu.ext h))
  have H82 := Lib.hid (fun W (h : Ext w W) => clashes82 S L ms qs _ _ W hv (hr.ext h) (hu.ext h) hq)
  have hq12 := hq.2.2.2.1
  have HBF := Lib.hid (fun (b : Nat) (h : bestTo (clashL ms L qs) qs.length (2 ^ qs.length) b) => best_family hv hq h.1 h.2.1 h.2.2)
  have hcl : ∀ (i x : Nat), (clashL ms L qs)[i]? = some x → x < 4096 := by
    intro i x hx
    have hi : i < qs.length := by
      have := (List.getElem?_eq_some_iff.1 hx).1
      simpa [clashL] using this
    rw [clashL_at ms L qs i hi] at hx
    cases hx
    have h1 := cTo_lt (clW ms L qs i) qs.length
    have h2 := Nat.pow_le_pow_right (n := 2) (by omega) (show qs.length ≤ 12 by omega)
    exact Nat.lt_of_lt_of_le h1 h2
  have hcn : (clashL ms L qs).length = qs.length := by simp [clashL]
  generalize familyL ms L qs = fam at *
  generalize clashL ms L qs = c at *
  have HCL := Lib.hid hcl
  obtain ⟨n0, hn0⟩ : ∃ n0, n0 = ms.length := ⟨_, rfl⟩
  obtain ⟨n, hn⟩ : ∃ n, n = qs.length := ⟨_, rfl⟩
  rw [← hn0] at E0 P0 H81 H82 ⊢
  rw [← hn] at H81 H82 hq12 hl2 HBF hcn ⊢
  obtain ⟨N, hN⟩ : ∃ N, N = 2 ^ n := ⟨_, rfl⟩
  have hN2 : N ≤ 4096 := by
    rw [hN]
    exact Nat.pow_le_pow_right (n := 2) (by omega) (show n ≤ 12 by omega)
  have hwp : wrap64 (2 ^ n) = (N : Int) := by
    rw [hN]
    rcases Nat.lt_or_ge n 12 with h | h
    · exact wrap_pow n h
    · obtain rfl : n = 12 := by omega
      simp [wrap64]
  have hmin : min n 64 = n := Nat.min_eq_left (by omega)
  have HN := Lib.hid hN
  have HCN := Lib.hid hcn
  clear hv hr hu hq hn0 hn hl hcl hcn hN
  go_enter Try.func38, Try.ntmps38
  go_wp2_with fail
  refine (H81.out _ E0.out).mono ?_
  rintro e w1 ⟨rfl, hb⟩
  obtain ⟨g1, g2, g3⟩ := P0.out.ext hb
  have HX := Lib.hid (E0.out.trans hb); clear hb
  rw [HC.out]
  go_wp2_with fail
  refine (H82.out _ HX.out).mono ?_
  rintro e w2 ⟨uc, rfl, huc, hb⟩
  replace HX := Lib.hid (HX.out.trans hb); clear hb g1 g2 g3
  obtain ⟨hlc, ac, capc, rfl⟩ := huc.shape
  rw [ints_length, HCN.out] at huc hlc ⊢
  have HUC := Lib.hid huc; clear huc
  go_wp2
  go_loopw [7, 8] (fun bx sx wr => ∃ b s : Nat, s ≤ N ∧ sx = .int .i64 (s : Int) ∧ bx = .int .i64 (b : Int) ∧ Hid (Ext w2 wr) ∧ Hid (bestTo c n s b)) (fun bx sx wr => N - (RowKit.intOf sx).toNat)
  case atStart => exact ⟨0, 0, Nat.zero_le _, rfl, rfl, Ext.refl _, bestTo_zero c n⟩
  case round =>
    rename World => wr1
    obtain ⟨b, s, hs, rfl, rfl, hE, hB⟩ := hrel
    have hbN : b < N := by rw [HN.out]; exact hB.out.1
    by_cases hlt : s < N
    · go_wp2
      go_loopw [9, 10] (fun gx ix wr2 => ∃ i : Nat, i ≤ n ∧ ix = .int .i64 (i : Int) ∧ gx = .bool (goodB c s i) ∧ Hid (Ext wr1 wr2)) (fun gx ix wr2 => n - (RowKit.intOf ix).toNat)
      case atStart => exact ⟨0, Nat.zero_le _, rfl, rfl, Ext.refl _⟩
      case round =>
        rename World => wr2
        obtain ⟨i, hi, rfl, rfl, hE2⟩ := hrel
        by_cases hilt : i < n
        · obtain ⟨x, hx⟩ := get_some (show i < c.length by rw [HCN.out]; exact hilt)
          have hx4 := HCL.out i x hx
          obtain ⟨b1, off1, hbo, -, hck⟩ := (HUC.out.ext (hE.out.trans hE2.out)).atN hx
          subst hbo
          have h1 := shr_and s i (by omega)
          have h2 := and_nat x s (by omega) (by omega)
          have hgs := goodB_succ c s i
          rw [mAt_of hx] at hgs
          have hbB : bitB s i = (s / 2 ^ i % 2 == 1) := rfl
          rw [hbB] at hgs
          obtain ⟨q, hq⟩ : ∃ q, q = s / 2 ^ i % 2 := ⟨_, rfl⟩
          have hq2 : q < 2 := by rw [hq]; exact Nat.mod_lt _ (by decide)
          rw [← hq] at h1 hgs
          generalize x &&& s = z at *
          have hia : (0 : Int) ≤ (i : Int) := by omega
          have hib : (i : Int) < (n : Int) := by omega
          clear hq hbB hx
          cases hg : goodB c s i
          · rw [hg, Bool.false_and] at hgs
            have HS := Lib.hid hgs; clear hgs hg
            go_wp2
            go_roundw
            case rel => exact ⟨i + 1, by omega, by go_num, by rw [HS.out], hE2.out⟩
            case measure => simp [RowKit.intOf]; omega
          · rw [hg, Bool.true_and] at hgs
            by_cases hq1 : q = 0
            · subst hq1
              have HS := Lib.hid (show goodB c s (i + 1) = true from by rw [hgs]; rfl)
              clear hgs hg
              go_wp2
              go_roundw
              case rel => exact ⟨i + 1, by omega, by go_num, by rw [HS.out], hE2.out⟩
              case measure => simp [RowKit.intOf]; omega
            · obtain rfl : q = 1 := by omega
              by_cases hz : z = 0
              · subst hz
                have HS := Lib.hid (show goodB c s (i + 1) = true from by rw [hgs]; rfl)
                clear hgs hg
                go_wp2
                go_roundw
                case rel => exact ⟨i + 1, by omega, by go_num, by rw [HS.out], hE2.out⟩
                case measure => simp [RowKit.intOf]; omega
              · have hzb : ((z : Int) == 0) = false := by simp; omega
                have HS := Lib.hid (show goodB c s (i + 1) = false from by rw [hgs]; simp [hz])
                clear hgs hg
                go_wp2
                go_roundw
                case rel => exact ⟨i + 1, by omega, by go_num, by rw [HS.out], hE2.out⟩
                case measure => simp [RowKit.intOf]; omega
        · have hje : n = i := by omega
          subst hje
          have hs4 : s < 4096 := by omega
          have hb4 : b < 4096 := by omega
          have HC1 := Lib.hid (fun W => count83 s hs4 W)
          have HC2 := Lib.hid (fun W => count83 b hb4 W)
          have h84 := fun W => lower84 s b hs4 hb4 W
          have HBN := Lib.hid (fun (hg : goodB c s n = true) (hb : betterB s b = true) => bestTo_new hB.out (by rw [← HN.out]; exact hlt) hg hb)
          have HBS := Lib.hid (fun (hb : betterB s b = false) => bestTo_stay hB.out hb)
          have HBB := Lib.hid (fun (hg : goodB c s n = false) => bestTo_bad hB.out hg)
          have hbt : betterB s b = (decide ((bitsL b).length < (bitsL s).length) || (decide ((bitsL s).length = (bitsL b).length) && fst 12 0 s b)) := rfl
          obtain ⟨ls, hls⟩ : ∃ ls, ls = (bitsL s).length := ⟨_, rfl⟩
          obtain ⟨lb, hlb⟩ : ∃ lb, lb = (bitsL b).length := ⟨_, rfl⟩
          rw [← hls] at HC1 hbt
          rw [← hlb] at HC2 hbt
          have HE2 := Lib.hid (hE.out.trans hE2.out)
          clear hls hlb hi hilt
          cases hg : goodB c s n
          · have HR := Lib.hid (HBB.out hg)
            clear hg hbt h84
            go_wp2
            go_roundw
            case rel => exact ⟨b, s + 1, by omega, by go_num, rfl, HE2.out, HR.out⟩
            case measure => simp [RowKit.intOf]; omega
          · by_cases hA : lb < ls
            · have HR := Lib.hid (HBN.out hg (by rw [hbt, decide_eq_true hA]; rfl))
              clear hg hbt h84
              go_wp2_with fail
              refine (HC1.out _).mono ?_
              rintro e w3 ⟨rfl, hb⟩
              replace HE2 := Lib.hid (HE2.out.trans hb); clear hb
              go_wp2_with fail
              refine (HC2.out _).mono ?_
              rintro e w4 ⟨rfl, hb⟩
              replace HE2 := Lib.hid (HE2.out.trans hb); clear hb
              go_wp2
              go_roundw
              case rel => exact ⟨s, s + 1, by omega, by go_num, rfl, HE2.out, HR.out⟩
              case measure => simp [RowKit.intOf]; omega
            · by_cases hQ : ls = lb
              · cases hf : fst 12 0 s b
                · rw [hf] at h84
                  have H84 := Lib.hid h84
                  have HR := Lib.hid (HBS.out (by rw [hbt, hf, decide_eq_false hA, Bool.and_false]; rfl))
                  subst hQ
                  clear hg hbt h84 hf
                  go_wp2_with fail
                  refine (HC1.out _).mono ?_
                  rintro e w3 ⟨rfl, hb⟩
                  replace HE2 := Lib.hid (HE2.out.trans hb); clear hb
                  go_wp2_with fail
                  refine (HC2.out _).mono ?_
                  rintro e w4 ⟨rfl, hb⟩
                  replace HE2 := Lib.hid (HE2.out.trans hb); clear hb
                  go_wp2_with fail
                  refine (HC1.out _).mono ?_
                  rintro e w5 ⟨rfl, hb⟩
                  replace HE2 := Lib.hid (HE2.out.trans hb); clear hb
                  go_wp2_with fail
                  refine (HC2.out _).mono ?_
                  rintro e w6 ⟨rfl, hb⟩
                  replace HE2 := Lib.hid (HE2.out.trans hb); clear hb
                  go_wp2_with fail
                  refine (H84.out _).mono ?_
                  rintro e w7 ⟨rfl, hb⟩
                  replace HE2 := Lib.hid (HE2.out.trans hb); clear hb
                  go_wp2
                  go_roundw
                  case rel => exact ⟨b, s + 1, by omega, by go_num, rfl, HE2.out, HR.out⟩
                  case measure => simp [RowKit.intOf]; omega
                · rw [hf] at h84
                  have H84 := Lib.hid h84
                  have HR := Lib.hid (HBN.out hg (by rw [hbt, hf, decide_eq_true hQ]; simp))
                  subst hQ
                  clear hg hbt h84 hf
                  go_wp2_with fail
                  refine (HC1.out _).mono ?_
                  rintro e w3 ⟨rfl, hb⟩
                  replace HE2 := Lib.hid (HE2.out.trans hb); clear hb
                  go_wp2_with fail
                  refine (HC2.out _).mono ?_
                  rintro e w4 ⟨rfl, hb⟩
                  replace HE2 := Lib.hid (HE2.out.trans hb); clear hb
                  go_wp2_with fail
                  refine (HC1.out _).mono ?_
                  rintro e w5 ⟨rfl, hb⟩
                  replace HE2 := Lib.hid (HE2.out.trans hb); clear hb
                  go_wp2_with fail
                  refine (HC2.out _).mono ?_
                  rintro e w6 ⟨rfl, hb⟩
                  replace HE2 := Lib.hid (HE2.out.trans hb); clear hb
                  go_wp2_with fail
                  refine (H84.out _).mono ?_
                  rintro e w7 ⟨rfl, hb⟩
                  replace HE2 := Lib.hid (HE2.out.trans hb); clear hb
                  go_wp2
                  go_roundw
                  case rel => exact ⟨s, s + 1, by omega, by go_num, rfl, HE2.out, HR.out⟩
                  case measure => simp [RowKit.intOf]; omega
              · have HR := Lib.hid (HBS.out (by rw [hbt, decide_eq_false hA, decide_eq_false hQ]; rfl))
                have hne : ((ls : Int) == (lb : Int)) = false := by simp; omega
                clear hg hbt h84
                go_wp2_with fail
                refine (HC1.out _).mono ?_
                rintro e w3 ⟨rfl, hb⟩
                replace HE2 := Lib.hid (HE2.out.trans hb); clear hb
                go_wp2_with fail
                refine (HC2.out _).mono ?_
                rintro e w4 ⟨rfl, hb⟩
                replace HE2 := Lib.hid (HE2.out.trans hb); clear hb
                go_wp2_with fail
                refine (HC1.out _).mono ?_
                rintro e w5 ⟨rfl, hb⟩
                replace HE2 := Lib.hid (HE2.out.trans hb); clear hb
                go_wp2_with fail
                refine (HC2.out _).mono ?_
                rintro e w6 ⟨rfl, hb⟩
                replace HE2 := Lib.hid (HE2.out.trans hb); clear hb
                go_wp2
                go_roundw
                case rel => exact ⟨b, s + 1, by omega, by go_num, rfl, HE2.out, HR.out⟩
                case measure => simp [RowKit.intOf]; omega
    · have hje : N = s := by omega
      subst hje
      have hB2 := hB.out
      rw [HN.out] at hB2
      have hbf := HBF.out b hB2
      have h50 := fun W => bits50 b (by omega) W
      rw [hbf] at h50
      have H50 := Lib.hid h50
      clear hB2 hbf h50 hlt
      go_wp2_with fail
      refine (H50.out _).mono ?_
      rintro e w3 ⟨u', rfl, hu', hb⟩
      have HY := Lib.hid (hE.out.trans hb)
      have HU' := Lib.hid hu'
      clear hb hu'
      go_wp2
      go_ret2
      exact ⟨_, rfl, HU'.out, HX.out.trans HY.out⟩
end Go.Proofs.Ytlgdnbpboonhdaa
