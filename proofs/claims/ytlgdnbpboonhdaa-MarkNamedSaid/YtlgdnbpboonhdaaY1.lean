/- MarkMargin, by its contract. -/
import Derived.Test.YtlgdnbpboonhdaaO7
import Derived.Test.YtlgdnbpboonhdaaX2
namespace Go.Proofs.Ytlgdnbpboonhdaa
open Go.RowKit Go.Shelf Go.Maps
set_option linter.unusedVariables false
attribute [local go_sem] Oper.semAt_some
theorem fine41_long (S L : Int) (a : Option Addr) (n cap : Nat) (w : World) (h : 20 < n) (hn : n ≤ 9223372036854775807) :
    Calls Try.prog 41 #[.agg #[.int .i64 S, .int .i64 L, .slice a n cap]] w fun e w' => e = .returned (.bool false) ∧ Ext w w' := by
  have E0 := Lib.hid ((Ext.refl w).alloc (.cells #[.int .i64 S, .int .i64 L, .slice a n cap] 24))
  have hg : decide (20 < n) = true := by simpa using h
  have HG := Lib.hid hg; clear hg
  go_enter Try.func41, Try.ntmps41
  go_wp2_with fail
  refine (great17 S L _ _ _ _ hn).mono ?_
  rintro e w' ⟨rfl, hb⟩
  have HB := Lib.hid hb; clear hb
  rw [HG.out]
  go_wp2
  go_ret
  exact ⟨rfl, E0.out.trans HB.out⟩
/-- What a law that asks 'fine' does with an office: it is not fine, or it is valid. -/
theorem fine_cases (S L : Int) (a : Option Addr) (cap : Nat) (xs : List Int) (w : World) (hlen : xs.length ≤ cap ∧ cap ≤ 9223372036854775807) (hr : xs.length ≤ 5000 → Reads w (.slice a xs.length cap) xs) :
    (∀ W, Ext w W → Calls Try.prog 41 #[.agg #[.int .i64 S, .int .i64 L, .slice a xs.length cap]] W fun e w' => e = .returned (.bool false) ∧ Ext W w') ∨
    ∃ (S' L' : Nat) (ms : List Nat), S = S' ∧ L = L' ∧ xs = ints ms ∧ Valid S' L' ms ∧ Reads w (.slice a xs.length cap) xs ∧
      ∀ W, Ext w W → Calls Try.prog 41 #[.agg #[.int .i64 S, .int .i64 L, .slice a xs.length cap]] W fun e w' => e = .returned (.bool true) ∧ Ext W w' := by
  by_cases h20 : 20 < xs.length
  · exact .inl fun W _ => fine41_long S L a _ cap W h20 (by omega)
  have hr := hr (by omega)
  by_cases hc : chk S L xs = 0
  · obtain ⟨S', L', ms, h1, h2, h3, h4⟩ := chk_zero hc
    refine .inr ⟨S', L', ms, h1, h2, h3, h4, hr, fun W hW => ?_⟩
    have := fine41 S L _ xs W (hr.ext hW)
    rwa [show decide (chk S L xs = 0) = true from decide_eq_true hc] at this
  · refine .inl fun W hW => ?_
    have := fine41 S L _ xs W (hr.ext hW)
    rwa [show decide (chk S L xs = 0) = false from decide_eq_false hc] at this
theorem marginL_top (S : Nat) (ms : List Nat) (ps : List (Nat × Nat)) : marginL S ms ps ≤ S := ((le_margin S ms ps _).1 (Int.le_refl _)).1
theorem apart_code (S L : Nat) (m : Int) (ms : List Nat) (v : Value) (w : World) (hv : Valid S L ms) (hr : Reads w v (ints ms)) (h : clash1 ms L = none ↔ (L : Int) ≤ m) :
    Calls Try.prog 26 #[.agg #[.int .i64 (S : Int), .int .i64 (L : Int), v]] w fun e w' => ∃ x y c, e = .returned (.tuple #[.int .i64 x, .int .i64 y, .int .i64 c]) ∧ c = (if (L : Int) ≤ m then 0 else 17) ∧ Ext w w' := by
  refine (apart26_ok S L ms v w hv hr).mono ?_
  rintro e w1 ⟨rfl, hb⟩
  refine ⟨_, _, _, rfl, ?_, hb⟩
  split
  · next hl => rw [h.2 hl]; rfl
  · next hl =>
    cases hc : clash1 ms L with
    | none => exact absurd (h.1 hc) hl
    | some p => rfl
set_option maxRecDepth 100000 in
set_option maxHeartbeats 4000000 in
theorem margin9 (S L : Int) (a : Option Addr) (cap : Nat) (xs : List Int) (w : World) (hlen : xs.length ≤ cap ∧ cap ≤ 9223372036854775807) (hr : xs.length ≤ 5000 → Reads w (.slice a xs.length cap) xs) :
    Calls Try.prog 9 #[.agg #[.int .i64 S, .int .i64 L, .slice a xs.length cap]] w fun e w' => e = .returned (.bool true) ∧ Ext w w' := by
  have E0 := Lib.hid ((Ext.refl w).alloc (.cells #[.int .i64 S, .int .i64 L, .slice a xs.length cap] 24))
  rcases fine_cases S L a cap xs w hlen hr with hf | ⟨S', L', ms, rfl, rfl, rfl, hv, hR, hf⟩
  · have HF := Lib.hid (hf _ E0.out)
    clear hf hr
    go_enter Try.func9, Try.ntmps9
    go_wp2_with fail
    refine HF.out.mono ?_
    rintro e w1 ⟨rfl, hb⟩
    have HE := Lib.hid (E0.out.trans hb); clear hb
    go_wp2_with fail
    refine (works18 _).mono ?_
    rintro e w2 ⟨rfl, hb⟩
    replace HE := Lib.hid (HE.out.trans hb); clear hb
    go_wp2
    go_ret
    exact ⟨rfl, HE.out⟩
  · obtain ⟨m, hm⟩ : ∃ m, m = marginL S' ms (pairsL ms.length) := ⟨_, rfl⟩
    have hm1 : -1 ≤ m := by rw [hm]; exact (marginL_bd _ _ _ hv.2.1).1
    have hm2 : m ≤ (S' : Int) := by rw [hm]; exact marginL_top _ _ _
    have hap : ∀ L2 : Nat, L2 ≤ S' → (clash1 ms L2 = none ↔ (L2 : Int) ≤ m) := fun L2 h => by rw [hm]; exact apart_margin S' L2 ms h
    have hS := hv.2.1
    have H28 := Lib.hid (fun W (hW : Ext w W) => margin28_ok S' L' ms _ W hv (hR.ext hW))
    have H26 := Lib.hid (fun (L2 : Nat) (h : L2 ≤ S') W (hW : Ext w W) => apart_code S' L2 m ms _ W ⟨hv.1, hv.2.1, h, hv.2.2.2.1, hv.2.2.2.2⟩ (hR.ext hW) (hap L2 h))
    have HF := Lib.hid (hf _ E0.out)
    have hB := heap_alloc_new w (.cells #[.int .i64 (S' : Int), .int .i64 (L' : Int), .slice a (ints ms).length cap] 24)
    have HB := Lib.hid hB; have HM := Lib.hid hm; have HAP := Lib.hid hap; have HV := Lib.hid hv
    clear hf hr hR hB hm hap hv
    go_enter Try.func9, Try.ntmps9
    go_wp2_with fail
    refine HF.out.mono ?_
    rintro e w1 ⟨rfl, hb⟩
    have HE := Lib.hid (E0.out.trans hb)
    replace HB := Lib.hid (block_ext hb HB.out); clear hb
    have b0 : w1.cell? ⟨w.heap.size, 0, none⟩ = some (.int .i64 (S' : Int)) := by rw [cell_of_row _ _ _ _ _ _ HB.out]; rfl
    have b1 : w1.cell? ⟨w.heap.size, 1, none⟩ = some (.int .i64 (L' : Int)) := by rw [cell_of_row _ _ _ _ _ _ HB.out]; rfl
    have b2 : w1.cell? ⟨w.heap.size, 2, none⟩ = some (.slice a (ints ms).length cap) := by rw [cell_of_row _ _ _ _ _ _ HB.out]; rfl
    go_wp2_with fail
    refine (H28.out _ HE.out).mono ?_
    rintro e w2 ⟨rfl, hb⟩
    rw [← HM.out]
    replace HE := Lib.hid (HE.out.trans hb)
    replace HB := Lib.hid (block_ext hb HB.out); clear hb b0 b1 b2
    have b0 : w2.cell? ⟨w.heap.size, 0, none⟩ = some (.int .i64 (S' : Int)) := by rw [cell_of_row _ _ _ _ _ _ HB.out]; rfl
    have b1 : w2.cell? ⟨w.heap.size, 1, none⟩ = some (.int .i64 (L' : Int)) := by rw [cell_of_row _ _ _ _ _ _ HB.out]; rfl
    have b2 : w2.cell? ⟨w.heap.size, 2, none⟩ = some (.slice a (ints ms).length cap) := by rw [cell_of_row _ _ _ _ _ _ HB.out]; rfl
    go_wp2_with fail
    refine (H26.out L' HV.out.2.2.1 _ HE.out).mono ?_
    rintro e w3 ⟨x1, y1, c1, rfl, hc1, hb⟩
    have HC1 := Lib.hid hc1; clear hc1
    replace HE := Lib.hid (HE.out.trans hb)
    replace HB := Lib.hid (block_ext hb HB.out); clear hb b0 b1 b2
    have b0 : w3.cell? ⟨w.heap.size, 0, none⟩ = some (.int .i64 (S' : Int)) := by rw [cell_of_row _ _ _ _ _ _ HB.out]; rfl
    have b1 : w3.cell? ⟨w.heap.size, 1, none⟩ = some (.int .i64 (L' : Int)) := by rw [cell_of_row _ _ _ _ _ _ HB.out]; rfl
    have b2 : w3.cell? ⟨w.heap.size, 2, none⟩ = some (.slice a (ints ms).length cap) := by rw [cell_of_row _ _ _ _ _ _ HB.out]; rfl
    have hE3 := (Ext.refl w3).alloc (.cells #[.int .i64 (S' : Int), .int .i64 (L' : Int), .slice a (ints ms).length cap] 24)
    have e0 := cell_ext hE3 b0
    have e1 := cell_ext hE3 b1
    have e2 := cell_ext hE3 b2
    have HX := Lib.hid hE3; clear hE3
    go_wp2_with fail
    · exfalso
      rename_i hcc
      have hc1 := HC1.out
      by_cases hl : (L' : Int) ≤ m
      · rw [if_pos hl] at hc1; rw [hc1] at hcc; simp [hl] at hcc
      · rw [if_neg hl] at hc1; rw [hc1] at hcc; simp [hl] at hcc
    · obtain ⟨k, rfl⟩ : ∃ k : Nat, m = (k : Int) := ⟨m.toNat, by omega⟩
      have hb4 := heap_alloc_new w3 (.cells #[.int .i64 (S' : Int), .int .i64 (k : Int), .slice a (ints ms).length cap] 24)
      have HB4 := Lib.hid hb4; clear hb4
      have hE4 := (Ext.refl w3).alloc (.cells #[.int .i64 (S' : Int), .int .i64 (k : Int), .slice a (ints ms).length cap] 24)
      have hn3 : w.heap.size ≤ w3.heap.size := HE.out.size
      refine (H26.out k (by omega) _ (HE.out.trans hE4)).mono ?_
      rintro e w4 ⟨x2, y2, c2, rfl, hc2, hb⟩
      obtain rfl : c2 = 0 := by rw [hc2, if_pos (by omega)]
      replace HE := Lib.hid ((HE.out.trans hE4).trans hb)
      replace HB := Lib.hid (block_ext (hE4.trans hb) HB.out)
      replace HB4 := Lib.hid (block_ext hb HB4.out)
      clear hb hE4 hc2 b0 b1 b2 e0 e1 e2
      have b0 : w4.cell? ⟨w.heap.size, 0, none⟩ = some (.int .i64 (S' : Int)) := by rw [cell_of_row _ _ _ _ _ _ HB.out]; rfl
      have b1 : w4.cell? ⟨w.heap.size, 1, none⟩ = some (.int .i64 (L' : Int)) := by rw [cell_of_row _ _ _ _ _ _ HB.out]; rfl
      have b2 : w4.cell? ⟨w.heap.size, 2, none⟩ = some (.slice a (ints ms).length cap) := by rw [cell_of_row _ _ _ _ _ _ HB.out]; rfl
      have e0 : w4.cell? ⟨w3.heap.size, 0, none⟩ = some (.int .i64 (S' : Int)) := by rw [cell_of_row _ _ _ _ _ _ HB4.out]; rfl
      have e1 : w4.cell? ⟨w3.heap.size, 1, none⟩ = some (.int .i64 (k : Int)) := by rw [cell_of_row _ _ _ _ _ _ HB4.out]; rfl
      have e2 : w4.cell? ⟨w3.heap.size, 2, none⟩ = some (.slice a (ints ms).length cap) := by rw [cell_of_row _ _ _ _ _ _ HB4.out]; rfl
      have f1 := frozen_of_row _ _ 1 _ _ HB4.out
      have HN := Lib.hid hn3; clear hn3
      go_wp2_with fail
      · rw [show ((k : Int) + 1) = ((k + 1 : Nat) : Int) from by omega]
        have hEs : Ext w (w4.setCell ⟨w3.heap.size, 1, none⟩ (.int .i64 ((k + 1 : Nat) : Int))) := Below.setCell HE.out HN.out _
        refine (H26.out (k + 1) (by omega) _ hEs).mono ?_
        rintro e w5 ⟨x3, y3, c3, rfl, hc3, hb⟩
        obtain rfl : c3 = 17 := by rw [hc3, if_neg (by omega)]
        replace HE := Lib.hid (hEs.trans hb)
        clear hb hEs hc3 b0 b1 b2 e0 e1 e2 f1
        go_wp2_with fail
        refine (works18 _).mono ?_
        rintro e w6 ⟨rfl, hb⟩
        replace HE := Lib.hid (HE.out.trans hb); clear hb
        go_wp2
        go_ret
        exact ⟨rfl, HE.out⟩
      · refine (works18 _).mono ?_
        rintro e w6 ⟨rfl, hb⟩
        replace HE := Lib.hid (HE.out.trans hb); clear hb
        go_wp2
        go_ret
        exact ⟨rfl, HE.out⟩
    · obtain ⟨k, hk⟩ : ∃ k : Nat, (k : Int) = m + 1 := ⟨(m + 1).toNat, by omega⟩
      rw [← hk]
      refine (H26.out k (by omega) _ (HE.out.trans ((Ext.refl w3).alloc _))).mono ?_
      rintro e w4 ⟨x2, y2, c2, rfl, hc2, hb⟩
      obtain rfl : c2 = 17 := by rw [hc2, if_neg (by omega)]
      replace HE := Lib.hid ((HE.out.trans ((Ext.refl w3).alloc _)).trans hb); clear hb hk hc2
      go_wp2_with fail
      refine (works18 _).mono ?_
      rintro e w5 ⟨rfl, hb⟩
      replace HE := Lib.hid (HE.out.trans hb); clear hb
      go_wp2
      go_ret
      exact ⟨rfl, HE.out⟩
end Go.Proofs.Ytlgdnbpboonhdaa
