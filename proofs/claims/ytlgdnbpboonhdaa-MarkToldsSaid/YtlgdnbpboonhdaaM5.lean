/- Contracts of the reference's check of an office. -/
import Derived.Test.YtlgdnbpboonhdaaM4
namespace Go.Proofs.Ytlgdnbpboonhdaa
open Go.RowKit
set_option linter.unusedVariables false
theorem check22 (S L : Int) (v : Value) (xs : List Int) (w : World) (hr : Reads w v xs) :
    Calls Try.prog 22 #[.agg #[.int .i64 S, .int .i64 L, v]] w fun e w' => e = .returned (.int .i64 (chk S L xs)) ∧ Ext w w' := by
  obtain ⟨hl, a, cap, rfl⟩ := hr.shape
  have hl2 : xs.length ≤ 9223372036854775807 := by omega
  have HR := Lib.hid hr; clear hr
  have p0 := OffAt.new w (.int .i64 S) (.int .i64 L) (.slice a xs.length cap) 24
  have e0 := (Ext.refl w).alloc (.cells #[.int .i64 S, .int .i64 L, .slice a xs.length cap] 24)
  have P0 := Lib.hid p0; have E0 := Lib.hid e0; clear p0 e0
  by_cases hS : (1 ≤ S ∧ S ≤ 10) ∧ 0 ≤ L ∧ L ≤ S
  · by_cases hm : 12 < xs.length
    · obtain ⟨⟨hS1, hS2⟩, hL1, hL2⟩ := hS
      go_enter Try.func22, Try.ntmps22
      go_wp2
      go_ret
      refine ⟨ret_int ?_, E0.out⟩
      rw [chk, if_pos (by omega), if_pos hm]
    · obtain ⟨⟨hS1, hS2⟩, hL1, hL2⟩ := hS
      have hf := full_lt S.toNat (by omega)
      go_enter Try.func22, Try.ntmps22
      go_wp2
      generalize (w.alloc (.cells #[.int .i64 S, .int .i64 L, .slice a xs.length cap] 24)) = W at *
      go_loopw [3] (fun i wr => ∃ k : Nat, k ≤ xs.length ∧ i = .int .i64 k ∧ Hid (Ext W wr) ∧ Hid (inR 1 (full S.toNat) (xs.take k) = true)) (fun i wr => xs.length - (intOf i).toNat)
      case atStart => exact ⟨0, Nat.zero_le _, rfl, Ext.refl _, rfl⟩
      case round =>
        obtain ⟨k, hk, rfl, hE, hI⟩ := hrel
        obtain ⟨g1, g2, g3⟩ := P0.out.ext hE.out
        by_cases hlt : k < xs.length
        · obtain ⟨b, off, x, rfl, hx, hck⟩ := (HR.out.ext (E0.out.trans hE.out)).at hlt
          have HX := Lib.hid hx; clear hx
          have hka : (0 : Int) ≤ (k : Int) := by omega
          have hkb : (k : Int) < (xs.length : Int) := by omega
          by_cases hx1 : x < 1
          · have hd : decide (x < 1) = true := by simpa using hx1
            go_wp2
            go_quiet (fail)
            go_wp2
            go_ret
            refine ⟨ret_int ?_, (E0.out.trans hE.out).drewN _⟩
            rw [chk, if_pos (by omega), if_neg hm, inR_false _ _ _ _ _ HX.out (Or.inl hx1)]; rfl
          · have hd : decide (x < 1) = false := by simpa using hx1
            by_cases hx2 : (full S.toNat : Int) < x
            all_goals
              go_wp2
              have HG0 := Lib.hid (E0.out.trans hE.out)
              go_region_held3 (fun X => X.cell? ⟨w.heap.size, 0, none⟩ = some (.int .i64 S) ∧ X.cell? ⟨w.heap.size, 1, none⟩ = some (.int .i64 L) ∧ X.cell? ⟨w.heap.size, 2, none⟩ = some (.slice (some ⟨b, off, none⟩) xs.length cap) ∧ X.cell? ⟨b, off + k, none⟩ = some (.int .i64 x) ∧ Hid (Ext wr X))
                (first | exact ⟨g1, g2, g3, hck, Ext.drew (Ext.refl _)⟩ | exact ⟨cell_ext (Ext.ofDrew hb) g1, cell_ext (Ext.ofDrew hb) g2, cell_ext (Ext.ofDrew hb) g3, cell_ext (Ext.ofDrew hb) hck, Ext.ofDrew hb⟩ | assumption)
                (first | (go_at_call 43; refine (all43_int _ _ _ _ ⟨hS1, hS2⟩).mono ?_; rintro e w' ⟨rfl, hb⟩))
              have HB := Lib.hid (Ext.ofDrew hb); clear hb
              go_wp2
            · go_ret
              refine ⟨ret_int ?_, HG0.out.trans HB.out⟩
              rw [chk, if_pos (by omega), if_neg hm, inR_false _ _ _ _ _ HX.out (Or.inr hx2)]; rfl
            · go_roundw
              case rel => exact ⟨k + 1, by omega, by go_num, hE.out.trans HB.out, (by rw [inR_snoc _ _ _ _ _ HX.out, hI.out]; simp; omega : _ = _)⟩
              case measure => simp [intOf]; omega
        · go_wp2
          go_ret
          have : k = xs.length := by omega
          subst this
          refine ⟨ret_int ?_, E0.out.trans hE.out⟩
          have := hI.out
          rw [List.take_of_length_le (Nat.le_refl _)] at this
          rw [chk, if_pos (by omega), if_neg hm, this]; rfl
  · have hc : chk S L xs = 3 := by rw [chk, if_neg]; omega
    rw [hc]
    have : S < 1 ∨ (¬ S < 1 ∧ 10 < S) ∨ (¬ S < 1 ∧ ¬ 10 < S ∧ L < 0) ∨ (¬ S < 1 ∧ ¬ 10 < S ∧ ¬ L < 0 ∧ S < L) := by omega
    rcases this with h1 | ⟨h1, h2⟩ | ⟨h1, h2, h3⟩ | ⟨h1, h2, h3, h4⟩
    all_goals
      go_enter Try.func22, Try.ntmps22
      go_wp2
      go_ret
      exact ⟨rfl, E0.out⟩
end Go.Proofs.Ytlgdnbpboonhdaa
