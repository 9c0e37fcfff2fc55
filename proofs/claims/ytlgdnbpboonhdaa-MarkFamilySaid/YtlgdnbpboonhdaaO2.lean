/- MarkOffices, by its contract. -/
import Derived.Test.YtlgdnbpboonhdaaO1
import Derived.Test.YtlgdnbpboonhdaaX2
namespace Go.Proofs.Ytlgdnbpboonhdaa
open Go.RowKit Go.Shelf Go.Maps
set_option linter.unusedVariables false
attribute [local go_sem] Oper.semAt_some
theorem of_and4 {A B C D : Prop} (h : A ∧ B ∧ C ∧ Hid D) : D := h.2.2.2.out
/-- The program's Owners and the reference's give the same list and the same error. -/
theorem owners_both (S L x : Int) (v : Value) (xs : List Int) (w : World) (hr : Reads w v xs) :
    ∃ (zs : List Int) (c : Int), (∀ W, Ext w W → Calls Try.prog 19 #[.agg #[.int .i64 S, .int .i64 L, v], .int .i64 x] W fun e w' => ∃ u, e = .returned (.tuple #[u, .int .i64 c]) ∧ Reads w' u zs ∧ Ext W w') ∧
      (∀ W, Ext w W → Calls Try.prog 20 #[.agg #[.int .i64 S, .int .i64 L, v], .int .i64 x] W fun e w' => ∃ u, e = .returned (.tuple #[u, .int .i64 c]) ∧ Reads w' u zs ∧ Ext W w') := by
  by_cases hc : chk S L xs = 0
  · obtain ⟨S', L', ms, rfl, rfl, rfl, hv⟩ := chk_zero hc
    by_cases hi : inR 0 (full S' : Int) [x] = false
    · refine ⟨[], 3, fun W hW => ?_, fun W hW => ?_⟩
      · exact (owners19_range S' L' x ms v W hv (hr.ext hW) hi).mono fun e w' ⟨h1, h2⟩ => ⟨_, h1, Reads.nil _, h2⟩
      · exact (owners20_range S' L' x ms v W hv (hr.ext hW) hi).mono fun e w' ⟨h1, h2⟩ => ⟨_, h1, Reads.nil _, h2⟩
    · have h2 : 0 ≤ x ∧ x ≤ (full S' : Int) := by simp [inR] at hi; omega
      obtain ⟨n, rfl⟩ := Int.eq_ofNat_of_zero_le h2.1
      refine ⟨ints (ownersL L' n ms), 0, fun W hW => ?_, fun W hW => ?_⟩
      · exact owners19_ok S' L' n ms v W hv (hr.ext hW) (by omega)
      · exact owners20_ok S' L' n ms v W hv (hr.ext hW) (by omega)
  · refine ⟨[], chk S L xs, fun W hW => ?_, fun W hW => ?_⟩
    · exact (owners19_err S L x xs v W (hr.ext hW) hc).mono fun e w' ⟨h1, h2⟩ => ⟨_, h1, Reads.nil _, h2⟩
    · exact (owners20_err S L x xs v W (hr.ext hW) hc).mono fun e w' ⟨h1, h2⟩ => ⟨_, h1, Reads.nil _, h2⟩
set_option maxRecDepth 100000 in
set_option maxHeartbeats 4000000 in
theorem offices3 (S L x : Int) (a : Option Addr) (cap : Nat) (xs : List Int) (w : World) (hlen : xs.length ≤ cap ∧ cap ≤ 9223372036854775807) (hr : xs.length ≤ 5000 → Reads w (.slice a xs.length cap) xs) :
    Calls Try.prog 3 #[.agg #[.int .i64 S, .int .i64 L, .slice a xs.length cap], .int .i64 x] w fun e w' => e = .returned (.bool true) ∧ Ext w w' := by
  have E0 := Lib.hid ((Ext.refl w).alloc (.cells #[.int .i64 S, .int .i64 L, .slice a xs.length cap] 24))
  have P0 := Lib.hid (OffAt.new w (.int .i64 S) (.int .i64 L) (.slice a xs.length cap) 24)
  by_cases h20 : 20 < xs.length
  · have hg : decide (20 < xs.length) = true := by simpa using h20
    have HG := Lib.hid hg
    have hn : xs.length ≤ 9223372036854775807 := by omega
    clear hr hg
    go_enter Try.func3, Try.ntmps3
    go_wp2_with fail
    refine (great17 S L _ _ _ _ hn).mono ?_
    rintro e w1 ⟨rfl, hb⟩
    have HE := Lib.hid (E0.out.trans hb); clear hb
    rw [HG.out]
    go_wp2_with fail
    refine (works18 _).mono ?_
    rintro e w2 ⟨rfl, hb⟩
    replace HE := Lib.hid (HE.out.trans hb); clear hb
    go_wp2
    go_ret
    exact ⟨rfl, HE.out⟩
  · have hR := hr (by omega)
    have hg : decide (20 < xs.length) = false := by simpa using h20
    have HG := Lib.hid hg
    have hn : xs.length ≤ 9223372036854775807 := by omega
    obtain ⟨zs, c, h19, h20⟩ := owners_both S L x _ xs w hR
    have H19 := Lib.hid h19; have H20 := Lib.hid h20; have HR := Lib.hid hR
    obtain ⟨ck, hck⟩ : ∃ ck, ck = chk S L xs := ⟨_, rfl⟩
    have h21 := fun W (hW : Ext w W) => check21 S L _ xs W (hR.ext hW)
    have h22 := fun W (hW : Ext w W) => check22 S L _ xs W (hR.ext hW)
    rw [← hck] at h21 h22
    have H21 := Lib.hid h21; have H22 := Lib.hid h22
    clear hr hg hR h19 h20 h21 h22 hck
    go_enter Try.func3, Try.ntmps3
    go_wp2_with fail
    refine (great17 S L _ _ _ _ hn).mono ?_
    rintro e w1 ⟨rfl, hb⟩
    obtain ⟨g1, g2, g3⟩ := P0.out.ext hb
    have HE := Lib.hid (E0.out.trans hb); clear hb
    rw [HG.out]
    go_wp2_with fail
    refine (H19.out _ HE.out).mono ?_
    rintro e w2 ⟨u, rfl, hu, hb⟩
    obtain ⟨g1, g2, g3⟩ := OffAt.ext ⟨g1, g2, g3⟩ hb
    replace HE := Lib.hid (HE.out.trans hb); clear hb
    obtain ⟨hz, a1, cap1, rfl⟩ := hu.shape
    have HU := Lib.hid hu; clear hu
    go_wp2_with fail
    refine (H20.out _ HE.out).mono ?_
    rintro e w3 ⟨u2, rfl, hu2, hb⟩
    obtain ⟨g1, g2, g3⟩ := OffAt.ext ⟨g1, g2, g3⟩ hb
    replace HE := Lib.hid (HE.out.trans hb)
    replace HU := Lib.hid (HU.out.ext hb); clear hb
    obtain ⟨hz2, a2, cap2, rfl⟩ := hu2.shape
    have HU2 := Lib.hid hu2; clear hu2
    have h23 := fun W (hW : Ext w3 W) => ints_any _ _ zs zs W (HU.out.ext hW) (HU2.out.ext hW)
    rw [show (zs == zs) = true from by simp] at h23
    have H23 := Lib.hid h23; clear h23
    go_wp2
    have KP : ∀ X X' : World, (X.cell? ⟨w.heap.size, 0, none⟩ = some (.int .i64 S) ∧ X.cell? ⟨w.heap.size, 1, none⟩ = some (.int .i64 L) ∧ X.cell? ⟨w.heap.size, 2, none⟩ = some (.slice a xs.length cap) ∧ Hid (Ext w3 X)) → Ext X X' → (X'.cell? ⟨w.heap.size, 0, none⟩ = some (.int .i64 S) ∧ X'.cell? ⟨w.heap.size, 1, none⟩ = some (.int .i64 L) ∧ X'.cell? ⟨w.heap.size, 2, none⟩ = some (.slice a xs.length cap) ∧ Hid (Ext w3 X')) :=
      fun X X' h hb => ⟨cell_ext hb h.1, cell_ext hb h.2.1, cell_ext hb h.2.2.1, Ext.trans h.2.2.2.out hb⟩
    have HKP := Lib.hid KP; clear KP
    go_region_held3 (fun X => X.cell? ⟨w.heap.size, 0, none⟩ = some (.int .i64 S) ∧ X.cell? ⟨w.heap.size, 1, none⟩ = some (.int .i64 L) ∧ X.cell? ⟨w.heap.size, 2, none⟩ = some (.slice a xs.length cap) ∧ Hid (Ext w3 X))
      (first | assumption | exact ⟨g1, g2, g3, Ext.drew (Ext.refl _)⟩ | exact HKP.out _ _ (by assumption) hb)
      (first | (go_at_call 21; refine (H21.out _ (HE.out.trans (of_and4 (by assumption)))).mono ?_; rintro e w' ⟨rfl, hb⟩)
             | (go_at_call 22; refine (H22.out _ (HE.out.trans (of_and4 (by assumption)))).mono ?_; rintro e w' ⟨rfl, hb⟩)
             | (go_at_call 23; refine (H23.out _ (of_and4 (by assumption))).mono ?_; rintro e w' ⟨rfl, hb⟩)
             | (go_at_call 18; refine (works18 _).mono ?_; rintro e w' ⟨rfl, hb⟩))
    all_goals
      rename_i hk
      have HK := Lib.hid (HE.out.trans (of_and4 hk))
      go_wp2
      go_ret
      exact ⟨rfl, HK.out⟩
end Go.Proofs.Ytlgdnbpboonhdaa
