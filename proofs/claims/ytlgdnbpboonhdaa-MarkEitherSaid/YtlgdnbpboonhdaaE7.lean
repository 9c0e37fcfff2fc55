/- MarkEither where marks clash, and where there are none. MarkEither, by its contract. -/
import Derived.Test.YtlgdnbpboonhdaaE3
namespace Go.Proofs.Ytlgdnbpboonhdaa
open Go.RowKit Go.Shelf Go.Maps
set_option linter.unusedVariables false
attribute [local go_sem] Oper.semAt_some
set_option maxRecDepth 100000 in
set_option maxHeartbeats 4000000 in
/-- Marks that clash. -/
theorem either8_clash (S L : Nat) (a : Option Addr) (cap : Nat) (ms : List Nat) (x y : Nat) (hx : x ≤ 65535) (hy : y ≤ 255) (w : World) (hv : Valid S L ms) (hR : Reads w (.slice a (ints ms).length cap) (ints ms))
    (hf : ∀ W, Ext w W → Calls Try.prog 41 #[.agg #[.int .i64 (S : Int), .int .i64 (L : Int), .slice a (ints ms).length cap]] W fun e w' => e = .returned (.bool true) ∧ Ext W w')
    (i k : Nat) (hcl : clash1 ms L = some (i, k)) :
    Calls Try.prog 8 #[.agg #[.int .i64 (S : Int), .int .i64 (L : Int), .slice a (ints ms).length cap], .int .u16 (x : Int), .int .u8 (y : Int)] w fun e w' => e = .returned (.bool true) ∧ Ext w w' := by
  have E0 := Lib.hid ((Ext.refl w).alloc (.cells #[.int .i64 (S : Int), .int .i64 (L : Int), .slice a (ints ms).length cap] 24))
  have P0 := Lib.hid (OffAt.new w (.int .i64 (S : Int)) (.int .i64 (L : Int)) (.slice a (ints ms).length cap) 24)
  rw [ints_length] at hR hf E0 P0 ⊢
  have e6 := worn_mod x S hv.1 hv.2.1
  have hwv := worn_le x S
  have hwz := worn_nz S hv.1 hv.2.1
  have hfs := full_lt S hv.2.1
  have hn12 := hv.2.2.2.1
  generalize x % 2 ^ S = xv at *
  obtain ⟨hik, hkn, -⟩ := clash_some hv hcl
  have hin : i < ms.length := by omega
  obtain ⟨h1, h2, h3, h4⟩ := clash_two hv hcl
  obtain ⟨m, hm⟩ := get_some hin
  obtain ⟨q, hq⟩ := get_some hkn
  have hm2 := hv.lt hm
  have hq2 := hv.lt hq
  rw [mAt_of hm, mAt_of hq] at h1 h2 h3 h4
  have hlt : m &&& q < 1024 := and_lt m q hq2
  have hlf : m &&& q ≤ full S := by
    have h1 := (hv.2.2.2.2 m (List.mem_of_getElem? hm)).2
    exact Nat.le_trans (Nat.and_le_left) h1
  have HF := Lib.hid (hf _ E0.out)
  have h26 := fun W (h : Ext w W) => apart26_ok S L ms _ W hv (hR.ext h)
  rw [hcl] at h26
  have H26 := Lib.hid h26
  have H19 := Lib.hid (fun W (h : Ext w W) => owners19_ok S L xv ms _ W hv (hR.ext h) hwv)
  have H19b := Lib.hid (fun W (h : Ext w W) => owners19_ok S L (m &&& q) ms _ W hv (hR.ext h) hlf)
  have h24 := fun W (h : Ext w W) => clash24_ok S L i k ms _ W hv (hR.ext h) hin hkn (by omega)
  rw [h4] at h24
  have H24 := Lib.hid h24
  have h42 := fun W => canBe42_q (m &&& q) m L hlt hm2 W
  have h42b := fun W => canBe42_q (m &&& q) q L hlt hq2 W
  rw [h1] at h42
  rw [h2] at h42b
  have h42c : ∀ z : Nat, z = m ∨ z = q → ∀ W, Calls Try.prog 42 #[.int .i64 ((m &&& q : Nat) : Int), .int .i64 (z : Int), .int .i64 (L : Int)] W fun e w' => e = .returned (.bool true) ∧ w' = W := by
    intro z hz W
    rcases hz with rfl | rfl
    · exact h42 W
    · exact h42b W
  have H42 := Lib.hid h42c
  clear h42c
  have HR := Lib.hid hR
  have HM := Lib.hid hm
  have HQ := Lib.hid hq
  generalize ownersL L xv ms = o1 at *
  generalize ownersL L (m &&& q) ms = o2 at *
  generalize m &&& q = c at *
  obtain ⟨n, hn⟩ : ∃ n, n = ms.length := ⟨_, rfl⟩
  have HN := Lib.hid hn
  obtain ⟨b0, off0, hbo, -, -⟩ := hR.atN hm
  subst hbo
  rw [← hn] at hin hkn HF H26 H19 H19b H24 E0 P0 HR ⊢
  have hia : (0 : Int) ≤ (i : Int) := by omega
  have hib : (i : Int) < (n : Int) := by omega
  have hka : (0 : Int) ≤ (k : Int) := by omega
  have hkb : (k : Int) < (n : Int) := by omega
  have hd1 : decide ((k : Int) ≤ (i : Int)) = false := by simp; omega
  have hd2 : decide ((n : Int) ≤ (k : Int)) = false := by simp; omega
  have hl2 : decide ((2 : Int) ≤ ((ints o2).length : Int)) = true := by rw [ints_length]; simp; omega
  have hS1 := hv.1
  have hS2 := hv.2.1
  clear hf hR hv hcl hm hq h26 h24 hn h42 h42b h3 h4 h1 h2
  go_enter Try.func8, Try.ntmps8
  go_wp2_with fail
  refine HF.out.mono ?_
  rintro e w1 ⟨rfl, hb⟩
  obtain ⟨g1, g2, g3⟩ := P0.out.ext hb
  have HE := Lib.hid (E0.out.trans hb); clear hb
  go_wp2_with fail
  refine (H26.out _ HE.out).mono ?_
  rintro e w2 ⟨rfl, hb⟩
  obtain ⟨g1, g2, g3⟩ := OffAt.ext ⟨g1, g2, g3⟩ hb
  replace HE := Lib.hid (HE.out.trans hb); clear hb
  simp only [apart3]
  go_wp2_with fail
  refine (H19.out _ HE.out).mono ?_
  rintro e w3 ⟨u, rfl, hu, hb⟩
  obtain ⟨g1, g2, g3⟩ := OffAt.ext ⟨g1, g2, g3⟩ hb
  replace HE := Lib.hid (HE.out.trans hb); clear hb
  obtain ⟨hz, a1, cap1, rfl⟩ := hu.shape
  clear hu
  go_wp2_with fail
  refine (H24.out _ HE.out).mono ?_
  rintro e w4 ⟨rfl, hb⟩
  obtain ⟨g1, g2, g3⟩ := OffAt.ext ⟨g1, g2, g3⟩ hb
  replace HE := Lib.hid (HE.out.trans hb); clear hb
  obtain ⟨b1, off1, hbo, -, hcq⟩ := (HR.out.ext HE.out).atN HM.out
  cases hbo
  obtain ⟨b1, off1, hbo, -, hcr⟩ := (HR.out.ext HE.out).atN HQ.out
  cases hbo
  go_wp2
  go_quiet ((go_at_call 42; exact Calls.quiet_of_same (H42.out _ (by first | exact .inl rfl | exact .inr rfl) _)))
  go_wp2_with fail
  refine (H19b.out _ (HE.out.drewN _ : Ext _ _)).mono ?_
  rintro e w5 ⟨u2, rfl, hu2, hb⟩
  replace HE := Lib.hid ((HE.out.drewN _ : Ext _ _).trans hb); clear hb
  obtain ⟨hz2, a2, cap2, rfl⟩ := hu2.shape
  clear hu2
  go_wp2_with fail
  refine (works18 _).mono ?_
  rintro e w6 ⟨rfl, hb⟩
  replace HE := Lib.hid (HE.out.trans hb); clear hb
  go_wp2
  go_ret
  exact ⟨rfl, HE.out⟩
set_option maxRecDepth 100000 in
set_option maxHeartbeats 4000000 in
/-- No marks at all. -/
theorem either8_none (S L : Nat) (a : Option Addr) (cap : Nat) (x y : Nat) (hx : x ≤ 65535) (hy : y ≤ 255) (w : World) (hv : Valid S L []) (hR : Reads w (.slice a 0 cap) (ints []))
    (hf : ∀ W, Ext w W → Calls Try.prog 41 #[.agg #[.int .i64 (S : Int), .int .i64 (L : Int), .slice a 0 cap]] W fun e w' => e = .returned (.bool true) ∧ Ext W w') :
    Calls Try.prog 8 #[.agg #[.int .i64 (S : Int), .int .i64 (L : Int), .slice a 0 cap], .int .u16 (x : Int), .int .u8 (y : Int)] w fun e w' => e = .returned (.bool true) ∧ Ext w w' := by
  have E0 := Lib.hid ((Ext.refl w).alloc (.cells #[.int .i64 (S : Int), .int .i64 (L : Int), .slice a 0 cap] 24))
  have P0 := Lib.hid (OffAt.new w (.int .i64 (S : Int)) (.int .i64 (L : Int)) (.slice a 0 cap) 24)
  have e6 := worn_mod x S hv.1 hv.2.1
  have hwv := worn_le x S
  have hwz := worn_nz S hv.1 hv.2.1
  generalize x % 2 ^ S = xv at *
  have HF := Lib.hid (hf _ E0.out)
  have h26 := fun W (h : Ext w W) => apart26_ok S L [] _ W hv (hR.ext h)
  rw [show clash1 [] L = none from rfl] at h26
  have H26 := Lib.hid h26
  have h19 := fun W (h : Ext w W) => owners19_ok S L xv [] _ W hv (hR.ext h) hwv
  rw [show ownersL L xv [] = [] from rfl] at h19
  have H19 := Lib.hid h19
  have hS1 := hv.1
  have hS2 := hv.2.1
  clear hf hR hv h26 h19
  go_enter Try.func8, Try.ntmps8
  go_wp2_with fail
  refine HF.out.mono ?_
  rintro e w1 ⟨rfl, hb⟩
  obtain ⟨g1, g2, g3⟩ := P0.out.ext hb
  have HE := Lib.hid (E0.out.trans hb); clear hb
  go_wp2_with fail
  refine (H26.out _ HE.out).mono ?_
  rintro e w2 ⟨rfl, hb⟩
  obtain ⟨g1, g2, g3⟩ := OffAt.ext ⟨g1, g2, g3⟩ hb
  replace HE := Lib.hid (HE.out.trans hb); clear hb
  simp only [apart3]
  go_wp2_with fail
  refine (H19.out _ HE.out).mono ?_
  rintro e w3 ⟨u, rfl, hu, hb⟩
  obtain ⟨g1, g2, g3⟩ := OffAt.ext ⟨g1, g2, g3⟩ hb
  replace HE := Lib.hid (HE.out.trans hb); clear hb
  obtain ⟨hz, a1, cap1, rfl⟩ := hu.shape
  clear hu
  rw [show (ints []).length = 0 from rfl]
  go_wp2_with fail
  refine (works18 _).mono ?_
  rintro e w6 ⟨rfl, hb⟩
  replace HE := Lib.hid (HE.out.trans hb); clear hb
  go_wp2
  go_ret
  exact ⟨rfl, HE.out⟩
end Go.Proofs.Ytlgdnbpboonhdaa
namespace Go.Proofs.Ytlgdnbpboonhdaa
open Go.RowKit Go.Shelf Go.Maps
set_option linter.unusedVariables false
attribute [local go_sem] Oper.semAt_some
set_option maxRecDepth 100000 in
set_option maxHeartbeats 4000000 in
theorem either8 (S L x y : Int) (a : Option Addr) (cap : Nat) (xs : List Int) (hx : 0 ≤ x ∧ x ≤ 65535) (hy : 0 ≤ y ∧ y ≤ 255) (w : World) (hlen : xs.length ≤ cap ∧ cap ≤ 9223372036854775807) (hr : xs.length ≤ 5000 → Reads w (.slice a xs.length cap) xs) :
    Calls Try.prog 8 #[.agg #[.int .i64 S, .int .i64 L, .slice a xs.length cap], .int .u16 x, .int .u8 y] w fun e w' => e = .returned (.bool true) ∧ Ext w w' := by
  obtain ⟨x, rfl⟩ := Int.eq_ofNat_of_zero_le hx.1
  obtain ⟨y, rfl⟩ := Int.eq_ofNat_of_zero_le hy.1
  have E0 := Lib.hid ((Ext.refl w).alloc (.cells #[.int .i64 S, .int .i64 L, .slice a xs.length cap] 24))
  rcases fine_cases S L a cap xs w hlen hr with hf | ⟨S', L', ms, rfl, rfl, rfl, hv, hR, hf⟩
  · have HF := Lib.hid (hf _ E0.out)
    clear hf hr
    go_enter Try.func8, Try.ntmps8
    go_wp2_with fail
    refine HF.out.mono ?_
    rintro e w1 ⟨rfl, hb⟩
    have HE := Lib.hid (E0.out.trans hb); clear hb
    go_wp2_with fail
    refine (works18 _).mono ?_
    rintro e w2 ⟨rfl, hb⟩
    replace HE := Lib.hid (HE.out.trans hb); clear hb
    go_wp2
    go_ret
    exact ⟨rfl, HE.out⟩
  · cases hc : clash1 ms L' with
    | none =>
      cases ms with
      | nil => exact either8_none S' L' a cap x y (by omega) (by omega) w hv hR hf
      | cons m ms => exact either8_free S' L' a cap (m :: ms) x y (by omega) (by omega) w hv hR hf (by simp) hc
    | some p => exact either8_clash S' L' a cap ms x y (by omega) (by omega) w hv hR hf p.1 p.2 hc
end Go.Proofs.Ytlgdnbpboonhdaa
