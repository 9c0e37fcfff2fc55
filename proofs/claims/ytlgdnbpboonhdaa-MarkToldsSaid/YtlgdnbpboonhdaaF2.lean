/- The marks that are asked for: ask, where there are too many, or one is not in range. -/
import Derived.Test.YtlgdnbpboonhdaaF1
namespace Go.Proofs.Ytlgdnbpboonhdaa
open Go.RowKit Go.Shelf Go.Maps
set_option linter.unusedVariables false
attribute [local go_sem] Oper.semAt_some
theorem ask79_many (S L : Nat) (ms : List Nat) (ys : List Int) (v u : Value) (w : World) (hv : Valid S L ms) (hr : Reads w v (ints ms)) (hu : Reads w u ys) (hy : 12 < ys.length) :
    Calls Try.prog 79 #[.agg #[.int .i64 (S : Int), .int .i64 (L : Int), v], u] w fun e w' => e = .returned (.tuple #[.agg #[.pointer none, .slice none 0 0, .map none], .int .i64 6]) ∧ Ext w w' := by
  obtain ⟨hl, a, cap, rfl⟩ := hr.shape
  obtain ⟨hl', a', cap', rfl⟩ := hu.shape
  have E0 := Lib.hid ((((Ext.refl w).alloc (.cells #[.int .i64 (S : Int), .int .i64 (L : Int), .slice a (ints ms).length cap] 24)).alloc (.cells #[.slice a' ys.length cap'] 22)).alloc (.cells #[.pointer none, .slice none 0 0, .map none] 93))
  have HO := Lib.hid (open_ok S L ms _ (.slice none 0 0) [] _ hv (hr.ext E0.out) (Reads.nil _) rfl)
  have b1 := (Boxed.new (w.alloc (.cells #[.int .i64 (S : Int), .int .i64 (L : Int), .slice a (ints ms).length cap] 24)) 22 (.slice a' ys.length cap')).alloc (.cells #[.pointer none, .slice none 0 0, .map none] 93)
  rw [World.size_alloc] at b1
  have B1 := Lib.hid b1
  clear hr hu b1
  have hy2 : (12 : Int) < (ys.length : Int) := by omega
  go_enter Try.func79, Try.ntmps79
  go_wp2_with fail
  refine HO.out.mono ?_
  rintro e w' ⟨b, bt, rfl, hb1, hb2, hbne, ho, h3, hrow, hb⟩
  have HB := Lib.hid (E0.out.trans hb)
  have hB2 := block_ext hb (heap_alloc_new (((w.alloc (.cells #[.int .i64 S, .int .i64 L, .slice a (ints ms).length cap] 24)).alloc (.cells #[.slice a' ys.length cap'] 22))) (.cells #[.pointer none, .slice none 0 0, .map none] 93))
  rw [World.size_alloc, World.size_alloc] at hB2
  have f0 := frozen_of_row _ _ 0 _ _ hB2
  have f1 := frozen_of_row _ _ 1 _ _ hB2
  have f2 := frozen_of_row _ _ 2 _ _ hB2
  have c0 : w'.cell? ⟨w.heap.size + 1 + 1, 0, none⟩ = some (.pointer none) := by rw [cell_of_row _ _ _ _ _ _ hB2]; rfl
  have c1 : w'.cell? ⟨w.heap.size + 1 + 1, 1, none⟩ = some (.slice none 0 0) := by rw [cell_of_row _ _ _ _ _ _ hB2]; rfl
  have c2 : w'.cell? ⟨w.heap.size + 1 + 1, 2, none⟩ = some (.map none) := by rw [cell_of_row _ _ _ _ _ _ hB2]; rfl
  have c3 := cell_ext ((Ext.refl w').alloc (.cells #[.pointer (some ⟨b, 0, none⟩)] 63)) (Boxed.cell (block_ext hb B1.out))
  have HB2 := Lib.hid hB2
  have hsz : w.heap.size + 1 + 1 < w'.heap.size := (Array.getElem?_eq_some_iff.1 hB2).1
  clear hB2 hb ho h3 hrow hb1 hb2 hbne
  go_wp2
  refine bodyPost_ret (v := .tuple #[.agg #[.pointer none, .slice none 0 0, .map none], .int .i64 6]) ?_ rfl ⟨rfl, ?_⟩
  · exact results_cell93 Try.results79 _ _ (w.heap.size + 1 + 1) rfl ((Below.heap_alloc _ _ _ (by simpa using hsz)).trans (cells3_set HB2.out _ _ _))
  · exact (ext_set (ext_set (ext_set HB.out (by omega) _) (by omega) _) (by omega) _).alloc _
set_option maxRecDepth 100000 in
theorem ask79_range (S L : Nat) (ms : List Nat) (ys : List Int) (v u : Value) (w : World) (hv : Valid S L ms) (hr : Reads w v (ints ms)) (hu : Reads w u ys) (hy : ys.length ≤ 12) (hin : inR 1 (full S : Int) ys = false) :
    Calls Try.prog 79 #[.agg #[.int .i64 (S : Int), .int .i64 (L : Int), v], u] w fun e w' => e = .returned (.tuple #[.agg #[.pointer none, .slice none 0 0, .map none], .int .i64 3]) ∧ Ext w w' := by
  obtain ⟨hl, a, cap, rfl⟩ := hr.shape
  obtain ⟨hl', a', cap', rfl⟩ := hu.shape
  have E0 := Lib.hid ((((Ext.refl w).alloc (.cells #[.int .i64 (S : Int), .int .i64 (L : Int), .slice a (ints ms).length cap] 24)).alloc (.cells #[.slice a' ys.length cap'] 22)).alloc (.cells #[.pointer none, .slice none 0 0, .map none] 93))
  have P0 := Lib.hid ((OffAt.new w (.int .i64 S) (.int .i64 L) (.slice a (ints ms).length cap) 24).ext (((Ext.refl _).alloc (.cells #[.slice a' ys.length cap'] 22)).alloc (.cells #[.pointer none, .slice none 0 0, .map none] 93)))
  have HO := Lib.hid (open_ok S L ms _ (.slice none 0 0) [] _ hv (hr.ext E0.out) (Reads.nil _) rfl)
  have b1 := (Boxed.new (w.alloc (.cells #[.int .i64 (S : Int), .int .i64 (L : Int), .slice a (ints ms).length cap] 24)) 22 (.slice a' ys.length cap')).alloc (.cells #[.pointer none, .slice none 0 0, .map none] 93)
  rw [World.size_alloc] at b1
  have B1 := Lib.hid b1
  have HU := Lib.hid hu; have HIN := Lib.hid hin
  have hS1 := hv.1
  have hS2 := hv.2.1
  clear hr hu b1 hin
  have hy2 : (ys.length : Int) ≤ 12 := by omega
  go_enter Try.func79, Try.ntmps79
  go_wp2_with fail
  refine HO.out.mono ?_
  rintro e w' ⟨b, bt, rfl, hb1, hb2, hbne, ho, h3, hrow, hb⟩
  have HB := Lib.hid (E0.out.trans hb)
  obtain ⟨g1, g2, g3⟩ := P0.out.ext hb
  have hB2 := block_ext hb (heap_alloc_new (((w.alloc (.cells #[.int .i64 S, .int .i64 L, .slice a (ints ms).length cap] 24)).alloc (.cells #[.slice a' ys.length cap'] 22))) (.cells #[.pointer none, .slice none 0 0, .map none] 93))
  rw [World.size_alloc, World.size_alloc] at hB2
  have g4 := Boxed.cell (block_ext hb B1.out)
  have HB2 := Lib.hid hB2
  have hsz : w.heap.size + 1 + 1 < w'.heap.size := (Array.getElem?_eq_some_iff.1 hB2).1
  clear hB2 hb ho h3 hrow hb1 hb2 hbne
  have hmix : Try.prog.follows .mixedOrders = true := by kernel_rfl
  have g5 := cell_ext ((Ext.refl w').alloc (.cells #[.pointer (some ⟨b, 0, none⟩)] 63)) g4
  go_wp2
  have hA := (Ext.refl w').alloc (.cells #[.pointer (some ⟨b, 0, none⟩)] 63)
  replace g1 := cell_ext hA g1
  replace g2 := cell_ext hA g2
  replace g3 := cell_ext hA g3
  replace g4 := cell_ext hA g4
  replace HB := Lib.hid (HB.out.trans hA)
  replace HB2 := Lib.hid (block_ext hA HB2.out)
  have hsz2 : w.heap.size + 1 + 1 < (w'.alloc (.cells #[.pointer (some ⟨b, 0, none⟩)] 63)).heap.size := by simp; omega
  clear hA hsz
  generalize (w'.alloc (.cells #[.pointer (some ⟨b, 0, none⟩)] 63)) = W2 at *
  go_region_held3 (fun X => X.cell? ⟨w.heap.size, 0, none⟩ = some (.int .i64 S) ∧ X.cell? ⟨w.heap.size, 1, none⟩ = some (.int .i64 L) ∧ X.cell? ⟨w.heap.size, 2, none⟩ = some (.slice a (ints ms).length cap) ∧ X.cell? ⟨w.heap.size + 1, 0, none⟩ = some (.slice a' ys.length cap') ∧ Hid (Ext W2 X))
    (first | assumption | exact ⟨g1, g2, g3, g4, Ext.drew (Ext.refl _)⟩ | exact ⟨cell_ext (Ext.ofDrew hb) g1, cell_ext (Ext.ofDrew hb) g2, cell_ext (Ext.ofDrew hb) g3, cell_ext (Ext.ofDrew hb) g4, Ext.ofDrew hb⟩)
    (first | (go_at_call 58; refine (allStrokes_any _ _ _ _ hS1 hS2).mono ?_; rintro e w2 ⟨rfl, hb⟩)
            | (go_at_call 57; refine (within_any _ _ _ ys _ (HU.out.ext (HB.out.trans (Ext.ofDrew hb)))).mono ?_; rintro e w3 ⟨rfl, rfl⟩))
  all_goals
    rename_i hk
    obtain ⟨-, -, -, -, k5⟩ := hk
    rw [HIN.out]
    have hB2 := block_ext k5.out HB2.out
    have f0 := frozen_of_row _ _ 0 _ _ hB2
    have f1 := frozen_of_row _ _ 1 _ _ hB2
    have f2 := frozen_of_row _ _ 2 _ _ hB2
    have c0 : w2.cell? ⟨w.heap.size + 1 + 1, 0, none⟩ = some (.pointer none) := by rw [cell_of_row _ _ _ _ _ _ hB2]; rfl
    have c1 : w2.cell? ⟨w.heap.size + 1 + 1, 1, none⟩ = some (.slice none 0 0) := by rw [cell_of_row _ _ _ _ _ _ hB2]; rfl
    have c2 : w2.cell? ⟨w.heap.size + 1 + 1, 2, none⟩ = some (.map none) := by rw [cell_of_row _ _ _ _ _ _ hB2]; rfl
    have HB3 := Lib.hid hB2; have HE := Lib.hid (HB.out.trans k5.out)
    clear hB2 k5 hb
    go_wp2
    refine bodyPost_ret (v := .tuple #[.agg #[.pointer none, .slice none 0 0, .map none], .int .i64 3]) ?_ rfl ⟨rfl, ?_⟩
    · exact results_cell93 Try.results79 _ _ (w.heap.size + 1 + 1) rfl (cells3_set HB3.out _ _ _)
    · exact ext_set (ext_set (ext_set HE.out (by omega) _) (by omega) _) (by omega) _
end Go.Proofs.Ytlgdnbpboonhdaa
