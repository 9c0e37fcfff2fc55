/- The reference's Clash, Apart and Margin. The reference's Clash, Apart and Margin, in a valid office. The reference's Apart and Margin, in a valid office. -/
import Derived.Test.YtlgdnbpboonhdaaO4
import Derived.Test.YtlgdnbpboonhdaaQ1
namespace Go.Proofs.Ytlgdnbpboonhdaa
open Go.RowKit
set_option linter.unusedVariables false
theorem mAt_lt {S L : Nat} {ms : List Nat} (hv : Valid S L ms) (i : Nat) : mAt ms i < 1024 := by
  unfold mAt
  cases h : ms[i]? with
  | none => simp
  | some m => exact hv.lt h
theorem clP_clB {S L L2 : Nat} {ms : List Nat} (hv : Valid S L ms) (p : Nat × Nat) : clP L2 ms p = clB ms L2 p := by
  unfold clP clB dA dB
  have h1 := pc_dif _ _ (sub_and_left (mAt ms p.1) (mAt ms p.2))
  have h2 := pc_dif _ _ (sub_and_right (mAt ms p.1) (mAt ms p.2))
  rw [Bool.eq_iff_iff, cl_iff _ _ _ (mAt_lt hv _) (mAt_lt hv _), decide_eq_true_iff]
  omega
theorem apL_clash1 {S L L2 : Nat} {ms : List Nat} (hv : Valid S L ms) : apL L2 ms = clash1 ms L2 := by
  unfold apL clash1
  rw [show clP L2 ms = clB ms L2 from funext fun p => clP_clB hv p]
theorem pairs_mem (n i k : Nat) (h1 : i < k) (h2 : k < n) : (i, k) ∈ pairsL n := by
  have := (pairs_prefix n i (k + 1) (by omega) (by omega)).subset
  apply this
  rw [rowTo_succ _ _ (by omega)]
  simp
theorem bothV_comm (L : Int) (a b : Nat) : bothV L a b = bothV L b a := by
  unfold bothV; rw [cl_comm, Nat.and_comm]
theorem clash2_both {S L i k : Nat} {ms : List Nat} (hv : Valid S L ms) (hi : i < ms.length) (hk : k < ms.length) (hne : i ≠ k) :
    clashV (clash2 ms L i k) = if bothV L (mAt ms i) (mAt ms k) < 0 then (0, 5) else (bothV L (mAt ms i) (mAt ms k), 0) := by
  have key : ∀ i k : Nat, i < k → k < ms.length → clashV (clF ms L (pairsL ms.length) (i, k)) = if bothV L (mAt ms i) (mAt ms k) < 0 then (0, 5) else (bothV L (mAt ms i) (mAt ms k), 0) := by
    intro i k h1 h2
    have hp := pairs_mem _ _ _ h1 h2
    have hc := clP_clB (L2 := L) hv (i, k)
    unfold clF
    rw [← hc]
    unfold clP bothV shA
    simp only [hp, true_and]
    cases cl L (mAt ms i) (mAt ms k)
    · simp [clashV]
    · simp only [if_true, clashV]
      rw [if_neg (by omega)]
  unfold clash2
  by_cases h : i < k
  · rw [Nat.min_eq_left (by omega), Nat.max_eq_right (by omega)]; exact key i k h hk
  · rw [Nat.min_eq_right (by omega), Nat.max_eq_left (by omega), bothV_comm]; exact key k i (by omega) hi
set_option maxRecDepth 100000 in
theorem clash25_err (S L i k : Int) (xs : List Int) (v : Value) (w : World) (hr : Reads w v xs) (hc : chk S L xs ≠ 0) :
    Calls Try.prog 25 #[.agg #[.int .i64 S, .int .i64 L, v], .int .i64 i, .int .i64 k] w fun e w' => e = .returned (.tuple #[.int .i64 0, .int .i64 (chk S L xs)]) ∧ Ext w w' := by
  obtain ⟨hl, a, cap, rfl⟩ := hr.shape
  have E0 := Lib.hid ((Ext.refl w).alloc (.cells #[.int .i64 S, .int .i64 L, .slice a xs.length cap] 24))
  have P0 := Lib.hid (OffAt.new w (.int .i64 S) (.int .i64 L) (.slice a xs.length cap) 24)
  have HR := Lib.hid hr; clear hr
  obtain ⟨c, hc'⟩ : ∃ c, c = chk S L xs := ⟨_, rfl⟩
  rw [← hc'] at hc ⊢
  have HC := Lib.hid hc'; clear hc'
  have hd : (c != 0) = true := by simpa using hc
  clear hc
  go_enter Try.func25, Try.ntmps25
  go_wp2_with fail
  refine (check22 _ _ _ xs _ (HR.out.ext E0.out)).mono ?_
  rintro e w1 ⟨rfl, hb⟩
  obtain ⟨g1, g2, g3⟩ := P0.out.ext hb
  have HB := Lib.hid (E0.out.trans hb); clear hb
  rw [← HC.out]
  go_wp2_with fail
  refine (check22 _ _ _ xs _ (HR.out.ext HB.out)).mono ?_
  rintro e w2 ⟨rfl, hb⟩
  replace HB := Lib.hid (HB.out.trans hb); clear hb
  rw [← HC.out]
  go_wp2
  go_ret2
  exact ⟨rfl, HB.out⟩
set_option maxRecDepth 100000 in
theorem apart27_err (S L : Int) (xs : List Int) (v : Value) (w : World) (hr : Reads w v xs) (hc : chk S L xs ≠ 0) :
    Calls Try.prog 27 #[.agg #[.int .i64 S, .int .i64 L, v]] w fun e w' => e = .returned (.tuple #[.int .i64 0, .int .i64 0, .int .i64 (chk S L xs)]) ∧ Ext w w' := by
  obtain ⟨hl, a, cap, rfl⟩ := hr.shape
  have E0 := Lib.hid ((Ext.refl w).alloc (.cells #[.int .i64 S, .int .i64 L, .slice a xs.length cap] 24))
  have P0 := Lib.hid (OffAt.new w (.int .i64 S) (.int .i64 L) (.slice a xs.length cap) 24)
  have HR := Lib.hid hr; clear hr
  obtain ⟨c, hc'⟩ : ∃ c, c = chk S L xs := ⟨_, rfl⟩
  rw [← hc'] at hc ⊢
  have HC := Lib.hid hc'; clear hc'
  have hd : (c != 0) = true := by simpa using hc
  clear hc
  go_enter Try.func27, Try.ntmps27
  go_wp2_with fail
  refine (check22 _ _ _ xs _ (HR.out.ext E0.out)).mono ?_
  rintro e w1 ⟨rfl, hb⟩
  obtain ⟨g1, g2, g3⟩ := P0.out.ext hb
  have HB := Lib.hid (E0.out.trans hb); clear hb
  rw [← HC.out]
  go_wp2_with fail
  refine (check22 _ _ _ xs _ (HR.out.ext HB.out)).mono ?_
  rintro e w2 ⟨rfl, hb⟩
  replace HB := Lib.hid (HB.out.trans hb); clear hb
  rw [← HC.out]
  go_wp2
  go_ret3
  exact ⟨rfl, HB.out⟩
set_option maxRecDepth 100000 in
theorem margin29_err (S L : Int) (xs : List Int) (v : Value) (w : World) (hr : Reads w v xs) (hc : chk S L xs ≠ 0) :
    Calls Try.prog 29 #[.agg #[.int .i64 S, .int .i64 L, v]] w fun e w' => e = .returned (.tuple #[.int .i64 0, .int .i64 (chk S L xs)]) ∧ Ext w w' := by
  obtain ⟨hl, a, cap, rfl⟩ := hr.shape
  have E0 := Lib.hid ((Ext.refl w).alloc (.cells #[.int .i64 S, .int .i64 L, .slice a xs.length cap] 24))
  have P0 := Lib.hid (OffAt.new w (.int .i64 S) (.int .i64 L) (.slice a xs.length cap) 24)
  have HR := Lib.hid hr; clear hr
  obtain ⟨c, hc'⟩ : ∃ c, c = chk S L xs := ⟨_, rfl⟩
  rw [← hc'] at hc ⊢
  have HC := Lib.hid hc'; clear hc'
  have hd : (c != 0) = true := by simpa using hc
  clear hc
  go_enter Try.func29, Try.ntmps29
  go_wp2_with fail
  refine (check22 _ _ _ xs _ (HR.out.ext E0.out)).mono ?_
  rintro e w1 ⟨rfl, hb⟩
  obtain ⟨g1, g2, g3⟩ := P0.out.ext hb
  have HB := Lib.hid (E0.out.trans hb); clear hb
  rw [← HC.out]
  go_wp2_with fail
  refine (check22 _ _ _ xs _ (HR.out.ext HB.out)).mono ?_
  rintro e w2 ⟨rfl, hb⟩
  replace HB := Lib.hid (HB.out.trans hb); clear hb
  rw [← HC.out]
  go_wp2
  go_ret2
  exact ⟨rfl, HB.out⟩
end Go.Proofs.Ytlgdnbpboonhdaa
namespace Go.Proofs.Ytlgdnbpboonhdaa
open Go.RowKit
set_option linter.unusedVariables false
set_option maxRecDepth 100000 in
theorem clash25_arg (S L : Nat) (i k : Int) (ms : List Nat) (v : Value) (w : World) (hv : Valid S L ms) (hr : Reads w v (ints ms)) (hi : ¬ ((0 ≤ i ∧ i < ms.length) ∧ 0 ≤ k ∧ k < ms.length)) :
    Calls Try.prog 25 #[.agg #[.int .i64 (S : Int), .int .i64 (L : Int), v], .int .i64 i, .int .i64 k] w fun e w' => e = .returned (.tuple #[.int .i64 0, .int .i64 2]) ∧ Ext w w' := by
  obtain ⟨hl, a, cap, rfl⟩ := hr.shape
  rw [ints_length] at hr hl ⊢
  have E0 := Lib.hid ((Ext.refl w).alloc (.cells #[.int .i64 (S : Int), .int .i64 (L : Int), .slice a ms.length cap] 24))
  have P0 := Lib.hid (OffAt.new w (.int .i64 (S : Int)) (.int .i64 (L : Int)) (.slice a ms.length cap) 24)
  have HR := Lib.hid hr; clear hr
  have HC := Lib.hid (chk_ok hv); clear hv
  obtain ⟨x, hx⟩ : ∃ x, x = decide (0 ≤ i ∧ i < (ms.length : Int)) := ⟨_, rfl⟩
  obtain ⟨y, hy⟩ : ∃ y, y = decide (0 ≤ k ∧ k < (ms.length : Int)) := ⟨_, rfl⟩
  have hxy : x = false ∨ (x = true ∧ y = false) := by
    cases x
    · exact .inl rfl
    · cases y
      · exact .inr ⟨rfl, rfl⟩
      · have h1 := of_decide_eq_true hx.symm; have h2 := of_decide_eq_true hy.symm
        exact absurd ⟨h1, h2⟩ hi
  have h63 := fun W => isOwner63 (S : Int) (L : Int) i a ms.length cap W hl
  have h63k := fun W => isOwner63 (S : Int) (L : Int) k a ms.length cap W hl
  rw [← hx] at h63
  rw [← hy] at h63k
  have H63 := Lib.hid h63; have H63k := Lib.hid h63k
  clear hi hx hy h63 h63k
  rcases hxy with rfl | ⟨rfl, rfl⟩
  · go_enter Try.func25, Try.ntmps25
    go_wp2_with fail
    refine (check22 _ _ _ (ints ms) _ (HR.out.ext E0.out)).mono ?_
    rintro e w1 ⟨rfl, hb⟩
    obtain ⟨g1, g2, g3⟩ := P0.out.ext hb
    have HB := Lib.hid (E0.out.trans hb); clear hb
    rw [HC.out]
    go_wp2_with fail
    refine (H63.out _).mono ?_
    rintro e w2 ⟨rfl, hb⟩
    replace HB := Lib.hid (HB.out.trans hb); clear hb
    go_wp2
    go_ret2
    exact ⟨rfl, HB.out⟩
  · go_enter Try.func25, Try.ntmps25
    go_wp2_with fail
    refine (check22 _ _ _ (ints ms) _ (HR.out.ext E0.out)).mono ?_
    rintro e w1 ⟨rfl, hb⟩
    obtain ⟨g1, g2, g3⟩ := P0.out.ext hb
    have HB := Lib.hid (E0.out.trans hb); clear hb
    rw [HC.out]
    go_wp2_with fail
    refine (H63.out _).mono ?_
    rintro e w2 ⟨rfl, hb⟩
    obtain ⟨g1, g2, g3⟩ := OffAt.ext ⟨g1, g2, g3⟩ hb
    replace HB := Lib.hid (HB.out.trans hb); clear hb
    go_wp2_with fail
    refine (H63k.out _).mono ?_
    rintro e w3 ⟨rfl, hb⟩
    replace HB := Lib.hid (HB.out.trans hb); clear hb
    go_wp2
    go_ret2
    exact ⟨rfl, HB.out⟩
set_option maxRecDepth 100000 in
set_option maxHeartbeats 2000000 in
theorem clash25_ok (S L i k : Nat) (ms : List Nat) (v : Value) (w : World) (hv : Valid S L ms) (hr : Reads w v (ints ms)) (hi : i < ms.length) (hk : k < ms.length) :
    Calls Try.prog 25 #[.agg #[.int .i64 (S : Int), .int .i64 (L : Int), v], .int .i64 (i : Int), .int .i64 (k : Int)] w fun e w' =>
      e = .returned (if i = k then .tuple #[.int .i64 0, .int .i64 16] else if bothV L (mAt ms i) (mAt ms k) < 0 then .tuple #[.int .i64 0, .int .i64 5] else .tuple #[.int .i64 (bothV L (mAt ms i) (mAt ms k)), .int .i64 0]) ∧ Ext w w' := by
  obtain ⟨hl, a, cap, rfl⟩ := hr.shape
  rw [ints_length] at hr hl ⊢
  have E0 := Lib.hid ((Ext.refl w).alloc (.cells #[.int .i64 (S : Int), .int .i64 (L : Int), .slice a ms.length cap] 24))
  have P0 := Lib.hid (OffAt.new w (.int .i64 (S : Int)) (.int .i64 (L : Int)) (.slice a ms.length cap) 24)
  obtain ⟨m1, hm1⟩ := get_some hi
  obtain ⟨m2, hm2⟩ := get_some hk
  have hl1 := hv.lt hm1
  have hl2 := hv.lt hm2
  rw [mAt_of hm1, mAt_of hm2]
  have HC := Lib.hid (chk_ok hv); clear hv
  have h63 := fun W => isOwner63 (S : Int) (L : Int) (i : Int) a ms.length cap W hl
  have h63k := fun W => isOwner63 (S : Int) (L : Int) (k : Int) a ms.length cap W hl
  rw [show decide (0 ≤ (i : Int) ∧ (i : Int) < (ms.length : Int)) = true from decide_eq_true (by omega)] at h63
  rw [show decide (0 ≤ (k : Int) ∧ (k : Int) < (ms.length : Int)) = true from decide_eq_true (by omega)] at h63k
  have H63 := Lib.hid h63; have H63k := Lib.hid h63k
  clear h63 h63k
  have hia : (0 : Int) ≤ (i : Int) := by omega
  have hib : (i : Int) < (ms.length : Int) := by omega
  have hka : (0 : Int) ≤ (k : Int) := by omega
  have hkb : (k : Int) < (ms.length : Int) := by omega
  obtain ⟨b, off, rfl, -, -⟩ := hr.atN hm1
  have HR := Lib.hid hr; clear hr
  have HM1 := Lib.hid hm1; have HM2 := Lib.hid hm2; clear hm1 hm2
  have h64 : ∀ W, Calls Try.prog 64 #[.int .i64 (m1 : Int), .int .i64 (m2 : Int), .int .i64 (L : Int)] W fun e w' => e = .returned (.int .i64 (bothV L m1 m2)) ∧ w' = W := fun W => (both64 m1 m2 L hl1 hl2 W).mono fun e w' ⟨h1, h2⟩ => ⟨h1, h2.symm⟩
  generalize bothV L m1 m2 = bv at *
  have H64 := Lib.hid h64; clear h64
  by_cases hne : i = k
  · subst hne
    rw [if_pos rfl]
    go_enter Try.func25, Try.ntmps25
    go_wp2_with fail
    refine (check22 _ _ _ (ints ms) _ (HR.out.ext E0.out)).mono ?_
    rintro e w1 ⟨rfl, hb⟩
    obtain ⟨g1, g2, g3⟩ := P0.out.ext hb
    have HB := Lib.hid (E0.out.trans hb); clear hb
    rw [HC.out]
    go_wp2_with fail
    refine (H63.out _).mono ?_
    rintro e w2 ⟨rfl, hb⟩
    obtain ⟨g1, g2, g3⟩ := OffAt.ext ⟨g1, g2, g3⟩ hb
    replace HB := Lib.hid (HB.out.trans hb); clear hb
    go_wp2_with fail
    refine (H63k.out _).mono ?_
    rintro e w3 ⟨rfl, hb⟩
    replace HB := Lib.hid (HB.out.trans hb); clear hb
    go_wp2
    go_ret2
    exact ⟨rfl, HB.out⟩
  · rw [if_neg hne]
    have hne2 : ((i : Int) == (k : Int)) = false := by simp; omega
    by_cases hbv : bv < 0
    all_goals
      first | rw [if_pos hbv] | rw [if_neg hbv]
      go_enter Try.func25, Try.ntmps25
      go_wp2_with fail
      refine (check22 _ _ _ (ints ms) _ (HR.out.ext E0.out)).mono ?_
      rintro e w1 ⟨rfl, hb⟩
      obtain ⟨g1, g2, g3⟩ := P0.out.ext hb
      have HB := Lib.hid (E0.out.trans hb); clear hb
      rw [HC.out]
      go_wp2_with fail
      refine (H63.out _).mono ?_
      rintro e w2 ⟨rfl, hb⟩
      obtain ⟨g1, g2, g3⟩ := OffAt.ext ⟨g1, g2, g3⟩ hb
      replace HB := Lib.hid (HB.out.trans hb); clear hb
      go_wp2_with fail
      refine (H63k.out _).mono ?_
      rintro e w3 ⟨rfl, hb⟩
      obtain ⟨g1, g2, g3⟩ := OffAt.ext ⟨g1, g2, g3⟩ hb
      replace HB := Lib.hid (HB.out.trans hb); clear hb
      obtain ⟨b1, off1, hbo, -, c1⟩ := (HR.out.ext HB.out).atN HM1.out
      cases hbo
      obtain ⟨b2, off2, hbo, -, c2⟩ := (HR.out.ext HB.out).atN HM2.out
      cases hbo
      go_wp2
      go_quiet ((go_at_call 64; exact Calls.quiet_of_same (H64.out _)))
      go_wp2
      go_ret2
      exact ⟨rfl, (HB.out.drewN _ : Ext _ _)⟩
end Go.Proofs.Ytlgdnbpboonhdaa
namespace Go.Proofs.Ytlgdnbpboonhdaa
open Go.RowKit
set_option linter.unusedVariables false
set_option maxRecDepth 100000 in
set_option maxHeartbeats 2000000 in
theorem apart27_ok (S L : Nat) (ms : List Nat) (v : Value) (w : World) (hv : Valid S L ms) (hr : Reads w v (ints ms)) :
    Calls Try.prog 27 #[.agg #[.int .i64 (S : Int), .int .i64 (L : Int), v]] w fun e w' => e = .returned (.tuple #[.int .i64 (apart3 (clash1 ms L)).1, .int .i64 (apart3 (clash1 ms L)).2.1, .int .i64 (apart3 (clash1 ms L)).2.2]) ∧ Ext w w' := by
  obtain ⟨hl, a, cap, rfl⟩ := hr.shape
  rw [ints_length] at hr hl ⊢
  have E0 := Lib.hid ((Ext.refl w).alloc (.cells #[.int .i64 (S : Int), .int .i64 (L : Int), .slice a ms.length cap] 24))
  have P0 := Lib.hid (OffAt.new w (.int .i64 (S : Int)) (.int .i64 (L : Int)) (.slice a ms.length cap) 24)
  have HR := Lib.hid hr; clear hr
  have h68 := fun W (hW : Ext w W) => areApart68 ms (L : Int) _ W (HR.out.ext hW) (fun m hm => by obtain ⟨i, h⟩ := List.getElem?_of_mem hm; exact hv.lt h)
  rw [apL_clash1 hv] at h68
  have HC := Lib.hid (chk_ok hv); clear hv
  cases hc : clash1 ms L with
  | none =>
    rw [hc] at h68
    have H68 := Lib.hid h68; clear h68
    simp only [apart3]
    go_enter Try.func27, Try.ntmps27
    go_wp2_with fail
    refine (check22 _ _ _ (ints ms) _ (HR.out.ext E0.out)).mono ?_
    rintro e w1 ⟨rfl, hb⟩
    obtain ⟨g1, g2, g3⟩ := P0.out.ext hb
    have HB := Lib.hid (E0.out.trans hb); clear hb
    rw [HC.out]
    go_wp2_with fail
    refine (H68.out _ HB.out).mono ?_
    rintro e w2 ⟨rfl, hb⟩
    replace HB := Lib.hid (HB.out.trans hb); clear hb
    simp only [apV]
    go_wp2
    go_ret3
    exact ⟨rfl, HB.out⟩
  | some p =>
    obtain ⟨i, k⟩ := p
    rw [hc] at h68
    have H68 := Lib.hid h68; clear h68
    simp only [apart3]
    go_enter Try.func27, Try.ntmps27
    go_wp2_with fail
    refine (check22 _ _ _ (ints ms) _ (HR.out.ext E0.out)).mono ?_
    rintro e w1 ⟨rfl, hb⟩
    obtain ⟨g1, g2, g3⟩ := P0.out.ext hb
    have HB := Lib.hid (E0.out.trans hb); clear hb
    rw [HC.out]
    go_wp2_with fail
    refine (H68.out _ HB.out).mono ?_
    rintro e w2 ⟨rfl, hb⟩
    replace HB := Lib.hid (HB.out.trans hb); clear hb
    simp only [apV]
    go_wp2
    go_ret3
    exact ⟨rfl, HB.out⟩
set_option maxRecDepth 100000 in
set_option maxHeartbeats 2000000 in
theorem margin29_ok (S L : Nat) (ms : List Nat) (v : Value) (w : World) (hv : Valid S L ms) (hr : Reads w v (ints ms)) :
    Calls Try.prog 29 #[.agg #[.int .i64 (S : Int), .int .i64 (L : Int), v]] w fun e w' => e = .returned (.tuple #[.int .i64 (marginL S ms (pairsL ms.length)), .int .i64 0]) ∧ Ext w w' := by
  obtain ⟨hl, a, cap, rfl⟩ := hr.shape
  rw [ints_length] at hr hl ⊢
  have E0 := Lib.hid ((Ext.refl w).alloc (.cells #[.int .i64 (S : Int), .int .i64 (L : Int), .slice a ms.length cap] 24))
  have P0 := Lib.hid (OffAt.new w (.int .i64 (S : Int)) (.int .i64 (L : Int)) (.slice a ms.length cap) 24)
  have HR := Lib.hid hr; clear hr
  have h68 := fun (L2 : Nat) W (hW : Ext w W) => areApart68 ms (L2 : Int) _ W (HR.out.ext hW) (fun m hm => by obtain ⟨i, h⟩ := List.getElem?_of_mem hm; exact hv.lt h)
  have h68 := fun (L2 : Nat) W (hW : Ext w W) => (apL_clash1 (L2 := L2) hv ▸ h68 L2 W hW)
  have H68 := Lib.hid h68; clear h68
  have HAP := Lib.hid (fun L2 (h : L2 ≤ S) => apart_margin S L2 ms h)
  have HBD := Lib.hid (marginL_bd S ms (pairsL ms.length) hv.2.1)
  have HTOP := Lib.hid (((le_margin S ms (pairsL ms.length) _).1 (Int.le_refl _)).1)
  have hS := hv.2.1
  have HC := Lib.hid (chk_ok hv); clear hv
  obtain ⟨mm, hmm⟩ : ∃ mm, mm = marginL S ms (pairsL ms.length) := ⟨_, rfl⟩
  rw [← hmm] at HAP HBD HTOP ⊢
  clear hmm
  go_enter Try.func29, Try.ntmps29
  go_wp2_with fail
  refine (check22 _ _ _ (ints ms) _ (HR.out.ext E0.out)).mono ?_
  rintro e w1 ⟨rfl, hb⟩
  obtain ⟨g1, g2, g3⟩ := P0.out.ext hb
  have P1 := Lib.hid (P0.out.ext hb)
  have HB := Lib.hid (E0.out.trans hb); clear hb
  rw [HC.out]
  go_wp2_with fail
  go_loopw [4] (fun i wr => ∃ j : Nat, j ≤ S + 1 ∧ i = .int .i64 ((j : Int) - 1) ∧ Hid (Ext w1 wr) ∧ Hid (mm ≤ (j : Int) - 1)) (fun i wr => (RowKit.intOf i + 1).toNat)
  case atStart => exact ⟨S + 1, Nat.le_refl _, by go_num, Ext.refl _, (by have := HTOP.out; omega : _ ≤ _)⟩
  case round =>
    obtain ⟨j, hj, rfl, hE, hM⟩ := hrel
    obtain ⟨g1, g2, g3⟩ := P1.out.ext hE.out
    cases j with
    | zero =>
      have hmm : mm = -1 := by have := hM.out; have := HBD.out; omega
      have HMM := Lib.hid hmm; clear hmm
      go_wp2
      go_ret2
      exact ⟨by rw [HMM.out]; rfl, HB.out.trans hE.out⟩
    | succ j =>
      rw [show ((j + 1 : Nat) : Int) - 1 = (j : Int) from by omega] at *
      have hap := HAP.out j (by omega)
      have h68 := H68.out j wr (HB.out.trans hE.out)
      cases hc : clash1 ms j with
      | none =>
        have hmj : mm = (j : Int) := by have := hM.out; have := hap.1 hc; omega
        rw [hc] at h68
        have HMJ := Lib.hid hmj; have HH := Lib.hid h68; clear hmj h68 hap hc
        go_wp2_with fail
        refine HH.out.mono ?_
        rintro e w2 ⟨rfl, hb⟩
        have HE2 := Lib.hid (hE.out.trans hb); clear hb
        simp only [apV]
        go_wp2
        go_ret2
        exact ⟨by rw [HMJ.out]; rfl, HB.out.trans HE2.out⟩
      | some p =>
        obtain ⟨x, y⟩ := p
        have hmj : mm < (j : Int) := by
          have h1 := hM.out
          have h2 : ¬ (j : Int) ≤ mm := fun h => by rw [hap.2 h] at hc; cases hc
          omega
        rw [hc] at h68
        have HMJ := Lib.hid hmj; have HH := Lib.hid h68; clear hmj h68 hap hc
        go_wp2_with fail
        refine HH.out.mono ?_
        rintro e w2 ⟨rfl, hb⟩
        have HE2 := Lib.hid (hE.out.trans hb); clear hb
        simp only [apV]
        go_wp2
        go_roundw
        case rel => exact ⟨j, by omega, by go_num, HE2.out, (by have := HMJ.out; omega : _ ≤ _)⟩
        case measure => simp [RowKit.intOf]
end Go.Proofs.Ytlgdnbpboonhdaa
