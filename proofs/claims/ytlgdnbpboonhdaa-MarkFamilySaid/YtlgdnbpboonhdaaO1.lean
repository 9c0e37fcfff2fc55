/- The reference's Owners. -/
import Derived.Test.YtlgdnbpboonhdaaM10
import Derived.Test.YtlgdnbpboonhdaaM7
namespace Go.Proofs.Ytlgdnbpboonhdaa
open Go.RowKit
set_option linter.unusedVariables false
set_option maxRecDepth 100000 in
theorem ownersOf45 (S L x : Nat) (ms : List Nat) (v : Value) (w : World) (hv : Valid S L ms) (hr : Reads w v (ints ms)) (hx : x < 1024) :
    Calls Try.prog 45 #[.agg #[.int .i64 (S : Int), .int .i64 (L : Int), v], .int .i64 (x : Int)] w fun e w' => ∃ u, e = .returned u ∧ Reads w' u (ints (ownersL L x ms)) ∧ Ext w w' := by
  obtain ⟨hl, a, cap, rfl⟩ := hr.shape
  rw [ints_length] at hr hl ⊢
  have hn := hv.2.2.2.1
  have hl2 : ms.length ≤ 9223372036854775807 := by omega
  have p0 := OffAt.new w (.int .i64 (S : Int)) (.int .i64 (L : Int)) (.slice a ms.length cap) 24
  have e0 := (Ext.refl w).alloc (.cells #[.int .i64 (S : Int), .int .i64 (L : Int), .slice a ms.length cap] 24)
  have HR := Lib.hid (hr.ext e0)
  have P0 := Lib.hid p0; have E0 := Lib.hid e0; have HV := Lib.hid hv; clear p0 e0 hr hv
  go_enter Try.func45, Try.ntmps45
  go_wp2
  generalize (w.alloc (.cells #[.int .i64 (S : Int), .int .i64 (L : Int), .slice a ms.length cap] 24)) = W at *
  go_loopw [5, 6] (fun v i wr => ∃ k : Nat, k ≤ ms.length ∧ i = .int .i64 (k : Int) ∧ Hid (Ext W wr) ∧ Hid (Owns W.heap.size wr v (ints (pickL 0 k fun i => cb L x (ms[i]?.getD 0))))) (fun v i wr => ms.length - (intOf i).toNat)
  case atStart => exact ⟨0, Nat.zero_le _, rfl, Ext.refl _, (Owns.nil _ _ : Owns _ _ _ _)⟩
  case round =>
    obtain ⟨k, hk, rfl, hE, hO⟩ := hrel
    obtain ⟨g1, g2, g3⟩ := P0.out.ext hE.out
    by_cases hlt : k < ms.length
    · obtain ⟨b, off, y, rfl, hy, hck⟩ := (HR.out.ext hE.out).at (k := k) (by rw [ints_length]; exact hlt)
      obtain ⟨m, hm, rfl⟩ := ints_get hy
      have hm2 := HV.out.lt hm
      have h42 : ∀ W, Calls Try.prog 42 #[.int .i64 (x : Int), .int .i64 (m : Int), .int .i64 (L : Int)] W fun e w' => e = .returned (.bool (cb L x m)) ∧ w' = W := fun W => (canBe42_any x m L hx hm2 W).mono fun e w' ⟨h1, h2⟩ => ⟨h1, h2.symm⟩
      have hps := pickL_succ 0 k (fun i => cb L x (ms[i]?.getD 0))
      rw [Nat.zero_add, hm, Option.getD_some] at hps
      have hpl : (pickL 0 k (fun i => cb L x (ms[i]?.getD 0))).length ≤ k := pickL_len _ _ _
      have HPS := Lib.hid hps; clear hps hy hm
      have hka : (0 : Int) ≤ (k : Int) := by omega
      have hkb : (k : Int) < (ms.length : Int) := by omega
      cases hpj : cb L x m
      · rw [hpj] at HPS h42
        have H42 := Lib.hid h42; clear h42
        go_wp2
        go_quiet ((go_at_call 42; exact Calls.quiet_of_same (H42.out _)))
        go_wp2
        go_roundw
        case rel => exact ⟨k + 1, by omega, by go_num, (hE.out.drewN _ : Ext _ _), (by rw [HPS.out]; simpa using ownsI_ext hO.out ((Ext.refl _).drewN _) : Owns _ _ _ _)⟩
        case measure => simp [intOf]; omega
      · rw [hpj] at HPS h42
        have H42 := Lib.hid h42; clear h42
        go_wp2
        go_quiet ((go_at_call 42; exact Calls.quiet_of_same (H42.out _)))
        go_wp2_with (at_builtin; refine append1 _ W.heap.size _ _ _ _ _ rfl rfl rfl (ownsI_ext hO.out ((Ext.refl _).drewN _)) (Below.size (hE.out.drewN _ : Ext _ _)) (by rw [ints_length]; omega) rfl ?_; intro v' w3 hO3 hB3)
        have HO3 := Lib.hid hO3; have HB3 := Lib.hid (Below.trans (hE.out.drewN _ : Ext _ _) hB3); clear hO3 hB3
        go_wp2
        go_roundw
        case rel => exact ⟨k + 1, by omega, by go_num, HB3.out, (by rw [HPS.out]; simpa [ints] using HO3.out : Owns _ _ _ _)⟩
        case measure => simp [intOf]; omega
    · go_wp2
      go_ret
      obtain rfl : k = ms.length := by omega
      exact ⟨_, rfl, hO.out.reads (by rw [ints_length]; have := pickL_len 0 ms.length (fun i => cb L x (ms[i]?.getD 0)); omega), E0.out.trans hE.out⟩
theorem owners20_err (S L : Int) (x : Int) (xs : List Int) (v : Value) (w : World) (hr : Reads w v xs) (hc : chk S L xs ≠ 0) :
    Calls Try.prog 20 #[.agg #[.int .i64 S, .int .i64 L, v], .int .i64 x] w fun e w' => e = .returned (.tuple #[.slice none 0 0, .int .i64 (chk S L xs)]) ∧ Ext w w' := by
  obtain ⟨hl, a, cap, rfl⟩ := hr.shape
  have E0 := Lib.hid ((Ext.refl w).alloc (.cells #[.int .i64 S, .int .i64 L, .slice a xs.length cap] 24))
  have P0 := Lib.hid (OffAt.new w (.int .i64 S) (.int .i64 L) (.slice a xs.length cap) 24)
  have HR := Lib.hid hr; clear hr
  obtain ⟨c, hc'⟩ : ∃ c, c = chk S L xs := ⟨_, rfl⟩
  rw [← hc'] at hc ⊢
  have HC := Lib.hid hc'; clear hc'
  have hd : (c != 0) = true := by simpa using hc
  clear hc
  go_enter Try.func20, Try.ntmps20
  go_wp2_with fail
  refine (check22 _ _ _ xs _ (HR.out.ext E0.out)).mono ?_
  rintro e w1 ⟨rfl, hb⟩
  obtain ⟨g1, g2, g3⟩ := P0.out.ext hb
  have HB := Lib.hid (E0.out.trans hb); clear hb
  rw [← HC.out]
  go_wp2_with fail
  refine (check22 _ _ _ xs _ (HR.out.ext HB.out)).mono ?_
  rintro e w2 ⟨rfl, hb⟩
  replace HB := Lib.hid (HB.out.trans hb); clear hb
  rw [← HC.out]
  go_wp2
  go_ret2
  exact ⟨rfl, HB.out⟩
theorem owners20_range (S L : Nat) (x : Int) (ms : List Nat) (v : Value) (w : World) (hv : Valid S L ms) (hr : Reads w v (ints ms)) (hi : inR 0 (full S : Int) [x] = false) :
    Calls Try.prog 20 #[.agg #[.int .i64 (S : Int), .int .i64 (L : Int), v], .int .i64 x] w fun e w' => e = .returned (.tuple #[.slice none 0 0, .int .i64 3]) ∧ Ext w w' := by
  obtain ⟨hl, a, cap, rfl⟩ := hr.shape
  rw [ints_length] at hr hl ⊢
  have E0 := Lib.hid ((Ext.refl w).alloc (.cells #[.int .i64 (S : Int), .int .i64 (L : Int), .slice a ms.length cap] 24))
  have P0 := Lib.hid (OffAt.new w (.int .i64 (S : Int)) (.int .i64 (L : Int)) (.slice a ms.length cap) 24)
  have HR := Lib.hid hr; clear hr
  have hc := chk_ok hv
  have HC := Lib.hid hc; have HV := Lib.hid hv; clear hc
  have hS1 := hv.1; have hS2 := hv.2.1
  clear hv
  have hx : x < 0 ∨ (¬ x < 0 ∧ (full S : Int) < x) := by simp [inR] at hi; omega
  clear hi
  rcases hx with hx | ⟨hx, hx2⟩
  · have hd : decide (x < 0) = true := by simpa using hx
    go_enter Try.func20, Try.ntmps20
    go_wp2_with fail
    refine (check22 _ _ _ (ints ms) _ (HR.out.ext E0.out)).mono ?_
    rintro e w1 ⟨rfl, hb⟩
    obtain ⟨g1, g2, g3⟩ := P0.out.ext hb
    have HB := Lib.hid (E0.out.trans hb); clear hb
    rw [HC.out]
    go_wp2
    go_ret2
    exact ⟨rfl, HB.out⟩
  · have hd : decide (x < 0) = false := by simpa using hx
    go_enter Try.func20, Try.ntmps20
    go_wp2_with fail
    refine (check22 _ _ _ (ints ms) _ (HR.out.ext E0.out)).mono ?_
    rintro e w1 ⟨rfl, hb⟩
    obtain ⟨g1, g2, g3⟩ := P0.out.ext hb
    have HB := Lib.hid (E0.out.trans hb); clear hb
    rw [HC.out]
    go_wp2_with fail
    refine (all43_any S L _ _ hS1 hS2).mono ?_
    rintro e w2 ⟨rfl, hb⟩
    replace HB := Lib.hid (HB.out.trans hb); clear hb
    go_wp2
    go_ret2
    exact ⟨rfl, HB.out⟩
theorem owners20_ok (S L x : Nat) (ms : List Nat) (v : Value) (w : World) (hv : Valid S L ms) (hr : Reads w v (ints ms)) (hx : x ≤ full S) :
    Calls Try.prog 20 #[.agg #[.int .i64 (S : Int), .int .i64 (L : Int), v], .int .i64 (x : Int)] w fun e w' => ∃ u, e = .returned (.tuple #[u, .int .i64 0]) ∧ Reads w' u (ints (ownersL L x ms)) ∧ Ext w w' := by
  obtain ⟨hl, a, cap, rfl⟩ := hr.shape
  rw [ints_length] at hr hl ⊢
  have E0 := Lib.hid ((Ext.refl w).alloc (.cells #[.int .i64 (S : Int), .int .i64 (L : Int), .slice a ms.length cap] 24))
  have P0 := Lib.hid (OffAt.new w (.int .i64 (S : Int)) (.int .i64 (L : Int)) (.slice a ms.length cap) 24)
  have HR := Lib.hid hr; clear hr
  have hc := chk_ok hv
  have HC := Lib.hid hc; have HV := Lib.hid hv; clear hc
  have hS1 := hv.1; have hS2 := hv.2.1
  have hx3 := full_lt S hS2
  clear hv
  have hd : decide ((x : Int) < 0) = false := by simp
  go_enter Try.func20, Try.ntmps20
  go_wp2_with fail
  refine (check22 _ _ _ (ints ms) _ (HR.out.ext E0.out)).mono ?_
  rintro e w1 ⟨rfl, hb⟩
  obtain ⟨g1, g2, g3⟩ := P0.out.ext hb
  have HB := Lib.hid (E0.out.trans hb); clear hb
  rw [HC.out]
  go_wp2_with fail
  refine (all43_any S L _ _ hS1 hS2).mono ?_
  rintro e w2 ⟨rfl, hb⟩
  replace HB := Lib.hid (HB.out.trans hb)
  obtain ⟨g1, g2, g3⟩ := OffAt.ext ⟨g1, g2, g3⟩ hb
  clear hb
  go_wp2_with fail
  refine (ownersOf45 S L x ms _ _ HV.out (HR.out.ext HB.out) (by omega)).mono ?_
  rintro e w3 ⟨u, rfl, hu, hb⟩
  replace HB := Lib.hid (HB.out.trans hb); have HU := Lib.hid hu; clear hb hu
  go_wp2
  go_ret2
  exact ⟨_, rfl, HU.out, HB.out⟩
end Go.Proofs.Ytlgdnbpboonhdaa
