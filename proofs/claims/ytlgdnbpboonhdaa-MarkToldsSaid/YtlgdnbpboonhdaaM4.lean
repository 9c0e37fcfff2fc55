/- Contracts of the two checks of an office: each returns 'chk'. -/
import Derived.Test.YtlgdnbpboonhdaaM3
namespace Go.Proofs.Ytlgdnbpboonhdaa
open Go.RowKit
set_option linter.unusedVariables false
/-- The error of an office, as the document says it. -/
def chk (S L : Int) (xs : List Int) : Int :=
  if 1 ≤ S ∧ S ≤ 10 ∧ 0 ≤ L ∧ L ≤ S then if 12 < xs.length then 6 else if inR 1 (full S.toNat) xs then 0 else 2 else 3
theorem check21 (S L : Int) (v : Value) (xs : List Int) (w : World) (hr : Reads w v xs) :
    Calls Try.prog 21 #[.agg #[.int .i64 S, .int .i64 L, v]] w fun e w' => e = .returned (.int .i64 (chk S L xs)) ∧ Ext w w' := by
  obtain ⟨hl, a, cap, rfl⟩ := hr.shape
  have hl2 : xs.length ≤ 9223372036854775807 := by omega
  have HR := Lib.hid hr; clear hr
  have p0 := OffAt.new w (.int .i64 S) (.int .i64 L) (.slice a xs.length cap) 24
  have e0 := (Ext.refl w).alloc (.cells #[.int .i64 S, .int .i64 L, .slice a xs.length cap] 24)
  have P0 := Lib.hid p0; have E0 := Lib.hid e0; clear p0 e0
  by_cases hS : 1 ≤ S ∧ S ≤ 10
  · have hi1 : inR 1 10 [S] = true := by simp [inR]; omega
    by_cases hL : 0 ≤ L ∧ L ≤ S
    · have hi2 : inR 0 S [L] = true := by simp [inR]; omega
      by_cases hm : 12 < xs.length
      · go_enter Try.func21, Try.ntmps21
        go_wp2_with fail
        refine (within_any _ _ _ [S] _ ?_).mono ?_
        · exact Reads.new _ [S] _ _ (by simp) (by simp) _ rfl _ _ rfl
        rintro e w' ⟨rfl, rfl⟩
        go_wp2_with fail
        refine (within_any _ _ _ [L] _ ?_).mono ?_
        · exact Reads.new _ [L] _ _ (by simp) (by simp) _ rfl _ _ rfl
        rintro e w' ⟨rfl, rfl⟩
        go_wp2
        go_ret
        refine ⟨ret_int ?_, (E0.out.alloc _).alloc _⟩
        simp [chk, hS, hL, hm]
      · cases hI : inR 1 (full S.toNat) xs
        all_goals
          go_enter Try.func21, Try.ntmps21
          go_wp2_with fail
          refine (within_any _ _ _ [S] _ ?_).mono ?_
          · exact Reads.new _ [S] _ _ (by simp) (by simp) _ rfl _ _ rfl
          rintro e w' ⟨rfl, rfl⟩
          go_wp2_with fail
          refine (within_any _ _ _ [L] _ ?_).mono ?_
          · exact Reads.new _ [L] _ _ (by simp) (by simp) _ rfl _ _ rfl
          rintro e w' ⟨rfl, rfl⟩
          go_wp2_with fail
          have G0 := Lib.hid ((E0.out.alloc (.cells #[.int .i64 S] 3)).alloc (.cells #[.int .i64 L] 3))
          have G1 := (P0.out.ext ((Ext.refl _).alloc (.cells #[.int .i64 S] 3))).ext ((Ext.refl _).alloc (.cells #[.int .i64 L] 3))
          generalize (((w.alloc (.cells #[.int .i64 S, .int .i64 L, .slice a xs.length cap] 24)).alloc (.cells #[.int .i64 S] 3)).alloc (.cells #[.int .i64 L] 3)) = W at *
          obtain ⟨g1, g2, g3⟩ := G1
          go_region_held3 (fun X => X.cell? ⟨w.heap.size, 0, none⟩ = some (.int .i64 S) ∧ X.cell? ⟨w.heap.size, 1, none⟩ = some (.int .i64 L) ∧ X.cell? ⟨w.heap.size, 2, none⟩ = some (.slice a xs.length cap) ∧ Hid (Ext w X))
            (first | exact ⟨g1, g2, g3, Ext.drew G0.out⟩ | exact ⟨cell_ext (Ext.ofDrew hb) g1, cell_ext (Ext.ofDrew hb) g2, cell_ext (Ext.ofDrew hb) g3, Ext.trans G0.out (Ext.ofDrew hb)⟩ | assumption)
            (first | (go_at_call 58; refine (allStrokes_int _ _ _ _ hS).mono ?_; rintro e w' ⟨rfl, hb⟩) | (go_at_call 57; refine (within_any _ _ _ xs _ (HR.out.ext (Ext.trans G0.out (Ext.ofDrew hb)))).mono ?_; rintro e w' ⟨rfl, rfl⟩))
          have HB := Lib.hid (Ext.trans G0.out (Ext.ofDrew hb)); clear hb
          have HI := Lib.hid hI; clear hI
          go_wp2
          go_ret
          refine ⟨ret_int ?_, HB.out⟩
          simp [chk, hS, hL, hm, HI.out]
    · have hi2 : inR 0 S [L] = false := by cases h : inR 0 S [L]; rfl; simp [inR] at h; omega
      go_enter Try.func21, Try.ntmps21
      go_wp2_with fail
      refine (within_any _ _ _ [S] _ ?_).mono ?_
      · exact Reads.new _ [S] _ _ (by simp) (by simp) _ rfl _ _ rfl
      rintro e w' ⟨rfl, rfl⟩
      go_wp2_with fail
      refine (within_any _ _ _ [L] _ ?_).mono ?_
      · exact Reads.new _ [L] _ _ (by simp) (by simp) _ rfl _ _ rfl
      rintro e w' ⟨rfl, rfl⟩
      go_wp2
      go_ret
      refine ⟨ret_int ?_, (E0.out.alloc _).alloc _⟩
      rw [chk, if_neg]; omega
  · have hi1 : inR 1 10 [S] = false := by cases h : inR 1 10 [S]; rfl; simp [inR] at h; omega
    go_enter Try.func21, Try.ntmps21
    go_wp2_with fail
    refine (within_any _ _ _ [S] _ ?_).mono ?_
    · exact Reads.new _ [S] _ _ (by simp) (by simp) _ rfl _ _ rfl
    rintro e w' ⟨rfl, rfl⟩
    go_wp2
    go_ret
    refine ⟨ret_int ?_, (E0.out.alloc _)⟩
    rw [chk, if_neg]; omega
end Go.Proofs.Ytlgdnbpboonhdaa
