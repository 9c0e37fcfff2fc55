/- MarkFamilies, by its contract. -/
import Derived.Test.YtlgdnbpboonhdaaG10
namespace Go.Proofs.Ytlgdnbpboonhdaa
open Go.RowKit Go.Shelf Go.Maps
set_option linter.unusedVariables false
attribute [local go_sem] Oper.semAt_some
theorem ask79_any (S L : Int) (xs ys : List Int) (v u : Value) (w : World) (hr : Reads w v xs) (hu : Reads w u ys) (hc : askC S L xs ys ≠ 0) :
    Calls Try.prog 79 #[.agg #[.int .i64 S, .int .i64 L, v], u] w fun e w' => e = .returned (.tuple #[.agg #[.pointer none, .slice none 0 0, .map none], .int .i64 (askC S L xs ys)]) ∧ Ext w w' := by
  unfold askC at hc ⊢
  by_cases h : chk S L xs = 0
  · obtain ⟨S', L', ms, rfl, rfl, rfl, hv⟩ := chk_zero h
    rw [if_neg (by simpa using h)] at hc ⊢
    by_cases hl : 12 < ys.length
    · rw [if_pos hl]
      exact ask79_many S' L' ms ys v u w hv hr hu hl
    · rw [if_neg hl] at hc ⊢
      cases hi : inR 1 (full ((S' : Int)).toNat : Int) ys
      · rw [if_neg (by simp)]
        exact ask79_range S' L' ms ys v u w hv hr hu (by omega) (by simpa using hi)
      · rw [if_pos hi] at hc; exact absurd rfl hc
  · rw [if_pos h]
    exact ask79_err S L xs ys v u w hr hu h
/-- The program's Family and the reference's give the same list and the same error. -/
theorem family_both (S L : Int) (v u : Value) (xs ys : List Int) (w : World) (hr : Reads w v xs) (hu : Reads w u ys) :
    ∃ (zs : List Int) (c : Int), (∀ W, Ext w W → Calls Try.prog 37 #[.agg #[.int .i64 S, .int .i64 L, v], u] W fun e w' => ∃ u', e = .returned (.tuple #[u', .int .i64 c]) ∧ Reads w' u' zs ∧ Ext W w') ∧
      (∀ W, Ext w W → Calls Try.prog 38 #[.agg #[.int .i64 S, .int .i64 L, v], u] W fun e w' => ∃ u', e = .returned (.tuple #[u', .int .i64 c]) ∧ Reads w' u' zs ∧ Ext W w') := by
  by_cases hc : askC S L xs ys = 0
  · obtain ⟨S', L', ms, qs, rfl, rfl, rfl, rfl, hv, hq⟩ := ask_zero hc
    refine ⟨ints (familyL ms L' qs), 0, fun W hW => ?_, fun W hW => ?_⟩
    · exact (family37_ok S' L' ms qs v u W hv (hr.ext hW) (hu.ext hW) hq).mono fun e w' ⟨u', h1, h2, h3⟩ => ⟨u', h1, h2.1, h3⟩
    · exact family38_ok S' L' ms qs v u W hv (hr.ext hW) (hu.ext hW) hq
  · refine ⟨[], askC S L xs ys, fun W hW => ?_, fun W hW => ?_⟩
    · exact (family37_of S L _ xs ys v u W (hr.ext hW) (hu.ext hW) hc (fun W2 h2 => ask79_any S L xs ys v u W2 (hr.ext (hW.trans h2)) (hu.ext (hW.trans h2)) hc)).mono fun e w' ⟨h1, h2⟩ => ⟨_, h1, Reads.nil _, h2⟩
    · exact (family38_err S L xs ys v u W (hr.ext hW) (hu.ext hW) hc).mono fun e w' ⟨h1, h2⟩ => ⟨_, h1, Reads.nil _, h2⟩
theorem check_both (S L : Int) (v u t : Value) (xs ys zs : List Int) (w : World) (hr : Reads w v xs) (hu : Reads w u ys) (ht : Reads w t zs) (hcap : CapOk t) :
    ∃ c : Int, (∀ W, Ext w W → Calls Try.prog 39 #[.agg #[.int .i64 S, .int .i64 L, v], u, t] W fun e w' => e = .returned (.int .i64 c) ∧ Ext W w') ∧
      (∀ W, Ext w W → Calls Try.prog 40 #[.agg #[.int .i64 S, .int .i64 L, v], u, t] W fun e w' => e = .returned (.int .i64 c) ∧ Ext W w') := by
  by_cases hc : askC S L xs ys = 0
  · obtain ⟨S', L', ms, qs, rfl, rfl, rfl, rfl, hv, hq⟩ := ask_zero hc
    exact ⟨checkFam ms L' qs zs, fun W hW => checkFam39_ok S' L' ms qs zs v u t W hv (hr.ext hW) (hu.ext hW) hq (ht.ext hW) hcap,
      fun W hW => checkFam40_ok S' L' ms qs zs v u t W hv (hr.ext hW) (hu.ext hW) hq (ht.ext hW)⟩
  · exact ⟨askC S L xs ys, fun W hW => checkFam39_of S L _ xs ys zs v u t W (hr.ext hW) (hu.ext hW) (ht.ext hW) hc (fun W2 h2 => ask79_any S L xs ys v u W2 (hr.ext (hW.trans h2)) (hu.ext (hW.trans h2)) hc),
      fun W hW => checkFam40_err S L xs ys zs v u t W (hr.ext hW) (hu.ext hW) (ht.ext hW) hc⟩
set_option maxRecDepth 100000 in
set_option maxHeartbeats 4000000 in
theorem families7 (S L : Int) (a a1 a2 : Option Addr) (cap cap1 cap2 : Nat) (xs ys zs : List Int) (w : World) (hlen : xs.length ≤ cap ∧ cap ≤ 9223372036854775807) (hr : xs.length ≤ 5000 → Reads w (.slice a xs.length cap) xs)
    (hlen1 : ys.length ≤ cap1 ∧ cap1 ≤ 9223372036854775807) (hr1 : ys.length ≤ 5000 → Reads w (.slice a1 ys.length cap1) ys) (hlen2 : zs.length ≤ cap2 ∧ cap2 ≤ 9223372036854775807) (hr2 : zs.length ≤ 5000 → Reads w (.slice a2 zs.length cap2) zs) :
    Calls Try.prog 7 #[.agg #[.int .i64 S, .int .i64 L, .slice a xs.length cap], .slice a1 ys.length cap1, .slice a2 zs.length cap2] w fun e w' => e = .returned (.bool true) ∧ Ext w w' := by
  have E0 := Lib.hid ((Ext.refl w).alloc (.cells #[.int .i64 S, .int .i64 L, .slice a xs.length cap] 24))
  have P0 := Lib.hid (OffAt.new w (.int .i64 S) (.int .i64 L) (.slice a xs.length cap) 24)
  have hn : xs.length ≤ 9223372036854775807 := by omega
  have HNN := Lib.hid hn
  by_cases h20 : 20 < xs.length
  · have hg : decide (20 < xs.length) = true := by simpa using h20
    have HG := Lib.hid hg
    clear hr hr1 hr2 hg
    go_enter Try.func7, Try.ntmps7
    go_wp2_with fail
    refine (great17 S L _ _ _ _ HNN.out).mono ?_
    rintro e w1 ⟨rfl, hb⟩
    have HE := Lib.hid (E0.out.trans hb); clear hb
    rw [HG.out]
    go_wp2_with fail
    refine (works18 _).mono ?_
    rintro e w2 ⟨rfl, hb⟩
    replace HE := Lib.hid (HE.out.trans hb); clear hb
    go_wp2
    go_ret
    exact ⟨rfl, HE.out⟩
  · have hg : decide (20 < xs.length) = false := by simpa using h20
    have HG := Lib.hid hg
    obtain ⟨ly, hly⟩ : ∃ ly, ly = ys.length := ⟨_, rfl⟩
    obtain ⟨lz, hlz⟩ : ∃ lz, lz = zs.length := ⟨_, rfl⟩
    by_cases hy20 : 20 < ly
    · have hd : decide ((20 : Int) < (ly : Int)) = true := decide_eq_true (by omega)
      rw [← hly, ← hlz]
      clear hr hr1 hr2 hg hly hlz
      go_enter Try.func7, Try.ntmps7
      go_wp2_with fail
      refine (great17 S L _ _ _ _ HNN.out).mono ?_
      rintro e w1 ⟨rfl, hb⟩
      have HE := Lib.hid (E0.out.trans hb); clear hb
      rw [HG.out]
      go_wp2_with fail
      refine (works18 _).mono ?_
      rintro e w2 ⟨rfl, hb⟩
      replace HE := Lib.hid (HE.out.trans hb); clear hb
      go_wp2
      go_ret
      exact ⟨rfl, HE.out⟩
    · have hd : decide ((20 : Int) < (ly : Int)) = false := decide_eq_false (by omega)
      have hdn : ¬ 20 < ly := hy20
      by_cases hz20 : 20 < lz
      · have hd2 : decide ((20 : Int) < (lz : Int)) = true := decide_eq_true (by omega)
        rw [← hly, ← hlz]
        clear hr hr1 hr2 hg hly hlz
        go_enter Try.func7, Try.ntmps7
        go_wp2_with fail
        refine (great17 S L _ _ _ _ HNN.out).mono ?_
        rintro e w1 ⟨rfl, hb⟩
        have HE := Lib.hid (E0.out.trans hb); clear hb
        rw [HG.out]
        go_wp2_with fail
        refine (works18 _).mono ?_
        rintro e w2 ⟨rfl, hb⟩
        replace HE := Lib.hid (HE.out.trans hb); clear hb
        go_wp2
        go_ret
        exact ⟨rfl, HE.out⟩
      · have hd2 : decide ((20 : Int) < (lz : Int)) = false := decide_eq_false (by omega)
        have hdn2 : ¬ 20 < lz := hz20
        have hR := hr (by omega)
        have hR1 := hr1 (by omega)
        have hR2 := hr2 (by omega)
        obtain ⟨fs, c, h37, h38⟩ := family_both S L _ _ xs ys w hR hR1
        obtain ⟨k, h39, h40⟩ := check_both S L _ _ _ xs ys zs w hR hR1 hR2 ⟨_, _, _, rfl, hlen2.1⟩
        rw [← hly, ← hlz] at *
        have H37 := Lib.hid h37; have H38 := Lib.hid h38; have H39 := Lib.hid h39; have H40 := Lib.hid h40
        obtain ⟨lx, hlx⟩ : ∃ lx, lx = xs.length := ⟨_, rfl⟩
        rw [← hlx] at H37 H38 H39 H40 P0 E0 HNN HG ⊢
        clear hr hr1 hr2 hg hR hR1 hR2 h37 h38 h39 h40 hly hlz hlx hlen hlen1 hlen2 hn h20
        go_enter Try.func7, Try.ntmps7
        go_wp2_with fail
        refine (great17 S L _ _ _ _ HNN.out).mono ?_
        rintro e w1 ⟨rfl, hb⟩
        obtain ⟨g1, g2, g3⟩ := P0.out.ext hb
        have HE := Lib.hid (E0.out.trans hb); clear hb
        rw [HG.out]
        go_wp2_with fail
        refine (H37.out _ HE.out).mono ?_
        rintro e w2 ⟨u, rfl, hu, hb⟩
        obtain ⟨g1, g2, g3⟩ := OffAt.ext ⟨g1, g2, g3⟩ hb
        replace HE := Lib.hid (HE.out.trans hb); clear hb
        obtain ⟨hz, b1, bcap1, rfl⟩ := hu.shape
        have HU := Lib.hid hu; clear hu
        go_wp2_with fail
        refine (H38.out _ HE.out).mono ?_
        rintro e w3 ⟨u2, rfl, hu2, hb⟩
        obtain ⟨g1, g2, g3⟩ := OffAt.ext ⟨g1, g2, g3⟩ hb
        replace HE := Lib.hid (HE.out.trans hb)
        replace HU := Lib.hid (HU.out.ext hb); clear hb
        obtain ⟨hz2, b2, bcap2, rfl⟩ := hu2.shape
        have HU2 := Lib.hid hu2; clear hu2
        have h23 := fun W (hW : Ext w3 W) => ints_any _ _ fs fs W (HU.out.ext hW) (HU2.out.ext hW)
        rw [show (fs == fs) = true from by simp] at h23
        have H23 := Lib.hid h23; clear h23
        go_wp2
        have KP : ∀ X X' : World, (X.cell? ⟨w.heap.size, 0, none⟩ = some (.int .i64 S) ∧ X.cell? ⟨w.heap.size, 1, none⟩ = some (.int .i64 L) ∧ X.cell? ⟨w.heap.size, 2, none⟩ = some (.slice a lx cap) ∧ Hid (Ext w3 X)) → Ext X X' → (X'.cell? ⟨w.heap.size, 0, none⟩ = some (.int .i64 S) ∧ X'.cell? ⟨w.heap.size, 1, none⟩ = some (.int .i64 L) ∧ X'.cell? ⟨w.heap.size, 2, none⟩ = some (.slice a lx cap) ∧ Hid (Ext w3 X')) :=
          fun X X' h hb => ⟨cell_ext hb h.1, cell_ext hb h.2.1, cell_ext hb h.2.2.1, Ext.trans h.2.2.2.out hb⟩
        have HKP := Lib.hid KP; clear KP
        go_region_held3 (fun X => X.cell? ⟨w.heap.size, 0, none⟩ = some (.int .i64 S) ∧ X.cell? ⟨w.heap.size, 1, none⟩ = some (.int .i64 L) ∧ X.cell? ⟨w.heap.size, 2, none⟩ = some (.slice a lx cap) ∧ Hid (Ext w3 X))
          (first | assumption | exact ⟨g1, g2, g3, Ext.drew (Ext.refl _)⟩ | exact HKP.out _ _ (by assumption) hb | fail)
          (first | (go_at_call 39; refine (H39.out _ (HE.out.trans (of_and4 (by assumption)))).mono ?_; rintro e w' ⟨rfl, hb⟩)
                 | (go_at_call 40; refine (H40.out _ (HE.out.trans (of_and4 (by assumption)))).mono ?_; rintro e w' ⟨rfl, hb⟩)
                 | (go_at_call 23; refine (H23.out _ (of_and4 (by assumption))).mono ?_; rintro e w' ⟨rfl, hb⟩)
                 | (go_at_call 18; refine (works18 _).mono ?_; rintro e w' ⟨rfl, hb⟩)
                 | fail)
        all_goals
          rename_i hk
          have HK := Lib.hid (HE.out.trans (of_and4 hk))
          go_wp2
          go_ret
          exact ⟨rfl, HK.out⟩
end Go.Proofs.Ytlgdnbpboonhdaa
