/- The reference's Free; MarkFrees, by its contract. -/
import Derived.Test.YtlgdnbpboonhdaaU1
import Derived.Test.YtlgdnbpboonhdaaX2
namespace Go.Proofs.Ytlgdnbpboonhdaa
open Go.RowKit Go.Shelf Go.Maps
set_option linter.unusedVariables false
attribute [local go_sem] Oper.semAt_some
set_option maxRecDepth 100000 in
theorem free36_err (S L : Int) (xs : List Int) (v : Value) (w : World) (hr : Reads w v xs) (hc : chk S L xs ≠ 0) :
    Calls Try.prog 36 #[.agg #[.int .i64 S, .int .i64 L, v]] w fun e w' => e = .returned (.tuple #[.slice none 0 0, .int .i64 (chk S L xs)]) ∧ Ext w w' := by
  obtain ⟨hl, a, cap, rfl⟩ := hr.shape
  have E0 := Lib.hid ((Ext.refl w).alloc (.cells #[.int .i64 S, .int .i64 L, .slice a xs.length cap] 24))
  have P0 := Lib.hid (OffAt.new w (.int .i64 S) (.int .i64 L) (.slice a xs.length cap) 24)
  have HR := Lib.hid hr; clear hr
  obtain ⟨c, hc'⟩ : ∃ c, c = chk S L xs := ⟨_, rfl⟩
  rw [← hc'] at hc ⊢
  have HC := Lib.hid hc'; clear hc'
  have hd : (c != 0) = true := by simpa using hc
  clear hc
  go_enter Try.func36, Try.ntmps36
  go_wp2_with fail
  refine (check22 _ _ _ xs _ (HR.out.ext E0.out)).mono ?_
  rintro e w1 ⟨rfl, hb⟩
  obtain ⟨g1, g2, g3⟩ := P0.out.ext hb
  have HB := Lib.hid (E0.out.trans hb); clear hb
  rw [← HC.out]
  go_wp2_with fail
  refine (check22 _ _ _ xs _ (HR.out.ext HB.out)).mono ?_
  rintro e w2 ⟨rfl, hb⟩
  replace HB := Lib.hid (HB.out.trans hb); clear hb
  rw [← HC.out]
  go_wp2
  go_ret2
  exact ⟨rfl, HB.out⟩
set_option maxRecDepth 100000 in
set_option maxHeartbeats 2000000 in
theorem free36_ok (S L : Nat) (ms : List Nat) (v : Value) (w : World) (hv : Valid S L ms) (hr : Reads w v (ints ms)) :
    Calls Try.prog 36 #[.agg #[.int .i64 (S : Int), .int .i64 (L : Int), v]] w fun e w' => ∃ u, e = .returned (.tuple #[u, .int .i64 0]) ∧ Reads w' u (ints (freeL S L ms)) ∧ Ext w w' := by
  rw [freeL_eq hv]
  obtain ⟨hl, a, cap, rfl⟩ := hr.shape
  rw [ints_length] at hr hl ⊢
  have E0 := Lib.hid ((Ext.refl w).alloc (.cells #[.int .i64 (S : Int), .int .i64 (L : Int), .slice a ms.length cap] 24))
  have P0 := Lib.hid (OffAt.new w (.int .i64 (S : Int)) (.int .i64 (L : Int)) (.slice a ms.length cap) 24)
  have HR := Lib.hid hr; clear hr
  have HC := Lib.hid (chk_ok hv)
  have hS1 := hv.1; have hS2 := hv.2.1
  have hfl := full_lt S hS2
  have HV := Lib.hid hv; clear hv
  obtain ⟨p, hp⟩ : ∃ p : Nat → Bool, p = fun m => freeTo L ms m ms.length := ⟨_, rfl⟩
  rw [← hp]
  have h78 : ∀ (m : Nat) W, Ext w W → 1 ≤ m → m ≤ full S → Calls Try.prog 78 #[.agg #[.int .i64 (S : Int), .int .i64 (L : Int), .slice a ms.length cap], .int .i64 (m : Int)] W fun e w' => e = .returned (.bool (p m)) ∧ Ext W w' := fun m W hW h1 h2 => by
    have := isFree78 S L m ms _ W HV.out (HR.out.ext hW) h1 h2
    rw [hp]; exact this
  have H78 := Lib.hid h78; clear h78 hp
  go_enter Try.func36, Try.ntmps36
  go_wp2_with fail
  refine (check22 _ _ _ (ints ms) _ (HR.out.ext E0.out)).mono ?_
  rintro e w1 ⟨rfl, hb⟩
  have P1 := Lib.hid (P0.out.ext hb)
  have HB := Lib.hid (E0.out.trans hb); clear hb
  rw [HC.out]
  go_wp2_with fail
  go_loopw [4, 5] (fun v i wr => ∃ k : Nat, k ≤ full S ∧ i = .int .i64 ((k : Int) + 1) ∧ Hid (Ext w1 wr) ∧ Hid (Owns w1.heap.size wr v (ints (pickL 1 k p)))) (fun v i wr => full S + 1 - (RowKit.intOf i).toNat)
  case atStart => exact ⟨0, Nat.zero_le _, by go_num, Ext.refl _, (Owns.nil _ _ : Owns _ _ _ _)⟩
  case round =>
    obtain ⟨k, hk, rfl, hE, hO⟩ := hrel
    obtain ⟨g1, g2, g3⟩ := P1.out.ext hE.out
    rw [show ((k : Int) + 1) = ((k + 1 : Nat) : Int) from by omega] at *
    by_cases hlt : k < full S
    · have hps := pickL_succ 1 k p
      rw [Nat.add_comm 1 k] at hps
      have hpl : (pickL 1 k p).length ≤ k := pickL_len _ _ _
      have HPS := Lib.hid hps; clear hps
      have hcond : ((k + 1 : Nat) : Int) ≤ (full S : Int) := by omega
      go_wp2_with fail
      refine (all43_any S L _ _ hS1 hS2).mono ?_
      rintro e w2 ⟨rfl, hb⟩
      have HE2 := Lib.hid (hE.out.trans hb)
      have HO2 := Lib.hid (ownsI_ext hO.out hb)
      obtain ⟨g1, g2, g3⟩ := P1.out.ext HE2.out
      clear hb
      go_wp2_with fail
      refine (H78.out (k + 1) _ (HB.out.trans HE2.out) (by omega) (by omega)).mono ?_
      rintro e w3 ⟨rfl, hb⟩
      have HE3 := Lib.hid (HE2.out.trans hb)
      have HO3 := Lib.hid (ownsI_ext HO2.out hb)
      clear hb g1 g2 g3
      cases hpj : p (k + 1)
      · rw [hpj] at HPS
        go_wp2
        go_roundw
        case rel => exact ⟨k + 1, by omega, by go_num, HE3.out, (by rw [HPS.out]; simpa using HO3.out : Owns _ _ _ _)⟩
        case measure => simp [RowKit.intOf]; omega
      · rw [hpj] at HPS
        go_wp2_with (at_builtin; refine append1 _ w1.heap.size _ _ _ _ _ rfl rfl rfl HO3.out (Below.size HE3.out) (by rw [ints_length]; omega) rfl ?_; intro v' w4 hO4 hB4)
        have HO4 := Lib.hid hO4; have HB4 := Lib.hid (Below.trans HE3.out hB4); clear hO4 hB4
        go_wp2
        go_roundw
        case rel => exact ⟨k + 1, by omega, by go_num, HB4.out, (by rw [HPS.out]; simpa [ints] using HO4.out : Owns _ _ _ _)⟩
        case measure => simp [RowKit.intOf]; omega
    · have hcond : ¬ ((k + 1 : Nat) : Int) ≤ (full S : Int) := by omega
      have : k = full S := by omega
      have HK := Lib.hid this; clear this
      go_wp2_with fail
      refine (all43_any S L _ _ hS1 hS2).mono ?_
      rintro e w2 ⟨rfl, hb⟩
      have HE2 := Lib.hid (hE.out.trans hb)
      have HO2 := Lib.hid (ownsI_ext hO.out hb)
      clear hb
      go_wp2
      go_ret2
      refine ⟨_, rfl, ?_, HB.out.trans HE2.out⟩
      rw [← HK.out]
      exact HO2.out.reads (by rw [ints_length]; have := pickL_len 1 k p; omega)
end Go.Proofs.Ytlgdnbpboonhdaa
