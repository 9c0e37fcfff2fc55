/- The laws' helpers: Stem, Log, stem, Rule, logs. What Works checks, evaluated; a cutting that is returned is one by the definition. Works: all of the program's and of the reference's functions are there and answer as they should, once. The examples of the chapter. -/
import Derived.Test.YtcgheakadfjofaaE9
import Derived.Laws.Rows
import Derived.Test.YtcgheakadfjofaaD5
import Derived.Test.YtcgheakadfjofaaD7
import Derived.Test.YtcgheakadfjofaaD11
import Derived.Test.YtcgheakadfjofaaD15
import Derived.Test.YtcgheakadfjofaaD17
import Derived.Test.YtcgheakadfjofaaD8
namespace Go.Proofs.Ytcgheakadfjofaa
open Go.RowKit Go.Shelf
set_option linter.unusedVariables false
set_option linter.unusedSimpArgs false
attribute [local go_sem] Oper.semAt_some
set_option maxHeartbeats 1000000 in
theorem log46 (i j : Int) (w : World) : Calls Try.prog 46 #[.int .i64 i, .int .i64 j] w fun e w' => e = .returned (.agg #[.int .i64 i, .int .i64 j]) ∧ Ext w w' := by
  go_enter Try.func46, Try.ntmps46
  go_wp2
  refine bodyPost_ret (results_cell_row (P := Try.prog) Try.results46 _ _ w.heap.size 29 _ (0, 0) _ rfl (heap_alloc_new _ _) Try.underlying29 rfl (by kernel_rfl)) rfl ⟨rfl, (Ext.refl w).alloc _⟩
set_option maxHeartbeats 1000000 in
theorem stem44 (v : Value) (a : Option Addr) (n cap : Nat) (w : World) (hv : v = .slice a n cap) : Calls Try.prog 44 #[v] w fun e w' => e = .returned (.agg #[v, .slice none 0 0]) ∧ Ext w w' := by
  subst hv
  go_enter Try.func44, Try.ntmps44
  go_wp2
  refine bodyPost_ret (results_cell_row (P := Try.prog) Try.results44 _ _ w.heap.size 25 _ (0, 0) _ rfl (heap_alloc_new _ _) Try.underlying25 rfl (by kernel_rfl)) rfl ⟨rfl, (Ext.refl w).alloc _⟩
set_option maxHeartbeats 1000000 in
theorem rule48 (x : Int) (w : World) : Calls Try.prog 48 #[.int .i64 x] w fun e w' => e = .returned (.agg #[.int .i64 2, .int .i64 4, .int .i64 2, .int .i64 0, .int .i64 x, .int .i64 4, .int .i64 6]) ∧ Ext w w' := by
  go_enter Try.func48, Try.ntmps48
  go_wp2
  refine bodyPost_ret (results_cell_row (P := Try.prog) Try.results48 _ _ w.heap.size 27 _ (0, 0) _ rfl (heap_alloc_new _ _) Try.underlying27 rfl (by kernel_rfl)) rfl ⟨rfl, (Ext.refl w).alloc _⟩
set_option maxHeartbeats 1000000 in
theorem stem47 (w : World) : Calls Try.prog 47 #[] w fun e w' => (∃ b, e = .returned (.agg #[.slice (some ⟨b, 0, none⟩) 7 7, .slice none 0 0]) ∧ Reads w' (.slice (some ⟨b, 0, none⟩) 7 7) [10, 9, 9, 8, 8, 7, 7]) ∧ Ext w w' := by
  have h44 := Lib.hid (fun (W : World) (b : Nat) => stem44 (.slice (some ⟨b, 0, none⟩) 7 7) _ _ _ W rfl)
  have hr := Lib.hid (Reads.new (w.alloc (.cells #[.slice none 0 0, .slice none 0 0] 25)) [10, 9, 9, 8, 8, 7, 7] 2 (w.heap.size + 1) (by simp) (by simp) _ rfl 7 7 rfl)
  go_enter Try.func47, Try.ntmps47
  go_wp2_with fail
  refine (h44.out _ _).mono ?_
  rintro e w1 ⟨rfl, hb⟩
  have hE := Lib.hid (Ext.trans (Ext.alloc (Ext.alloc (Ext.refl w) _) _) hb)
  have hR := Lib.hid (hr.out.ext hb)
  have hB := Lib.hid (block_ext hb (block_ext (Ext.alloc (Ext.refl _) _) (heap_alloc_new w (.cells #[.slice none 0 0, .slice none 0 0] 25))))
  have c0 := cell_of_blk hB.out (o := 0) rfl; have c1 := cell_of_blk hB.out (o := 1) rfl
  have f0 := frozen_of_blk hB.out 0; have f1 := frozen_of_blk hB.out 1
  clear hb
  go_wp2
  have hX := fun v0 v1 => grown_new (grown_new hE.out (grown_set w1 w.heap.size 0 v0) (Nat.le_refl _)) (grown_set _ w.heap.size 1 v1) (Nat.le_refl _)
  have hY := fun v0 v1 => Lib.grownBy_trans (grown_set w1 w.heap.size 0 v0) (grown_set (w1.setCell ⟨w.heap.size, 0, none⟩ v0) w.heap.size 1 v1)
  refine bodyPost_ret (results_cell_row (P := Try.prog) Try.results47 _ _ w.heap.size 25 _ (0, 0) _ rfl (set_blk (cs := [_, _]) (set_blk (cs := [_, _]) hB.out _) _) Try.underlying25 rfl (by kernel_rfl)) rfl ⟨⟨w.heap.size + 1, rfl, ?_⟩, hX _ _⟩
  obtain ⟨hl, a, cap, e, hh⟩ := hR.out
  refine ⟨hl, a, cap, e, hh.imp id ?_⟩
  rintro ⟨B, off, rfl, hc⟩
  have hBB : B = w.heap.size + 1 := by cases e; rfl
  exact ⟨B, off, rfl, fun i hi => cell_grown (hY _ _) (by omega) (hc i hi)⟩
theorem logs49 (v : Value) (w : World) : Calls Try.prog 49 #[v] w fun e w' => e = .returned v ∧ Ext w w' := by
  go_enter Try.func49, Try.ntmps49
  go_wp2
  go_ret
  exact ⟨rfl, Ext.refl w⟩
end Go.Proofs.Ytcgheakadfjofaa
namespace Go.Proofs.Ytcgheakadfjofaa
set_option linter.unusedVariables false
set_option linter.unusedSimpArgs false
theorem cuts_all {f : Nat → Nat → Int} {lt : Nat → Nat → Bool} {n : Nat} : ∀ (l : List (Nat × Nat)) (i : Nat), Cuts f lt n i l → (∀ p ∈ l, i ≤ p.1 ∧ p.1 < p.2 ∧ p.2 ≤ n ∧ 0 < f p.1 p.2) ∧ oneB (lgI l) = true
  | [], _, _ => ⟨(fun p h => by cases h), rfl⟩
  | q :: l, i, ⟨h1, h2, h3, h4, h5, h6⟩ => by
    obtain ⟨a, b⟩ := cuts_all l q.2 h6
    refine ⟨fun p hp => ?_, ?_⟩
    · rcases List.mem_cons.1 hp with rfl | hp
      · exact ⟨h1, h2, h3, h4⟩
      · have := a p hp; omega
    · cases l with
      | nil => rfl
      | cons p l =>
        have := (a p (by simp)).1
        show (decide ((q.2 : Int) ≤ (p.1 : Int)) && oneB (lgI (p :: l))) = true
        rw [b, Bool.and_true]; exact decide_eq_true (by omega)
theorem cutE_cuts {th bd : List Int} {r : Rl} {n : Nat} {c : List (Nat × Nat)} (hb : bothE th bd r = 0) (hn : th.length = n + 1) (h61 : n ≤ 60) (h : Cuts (sF th bd r) allB n 0 c) : cutE th bd r (lgI c) = (sumF (sF th bd r) c, 0) := by
  obtain ⟨h1, h2⟩ := cuts_all c 0 h
  have hl := cuts_len c 0 h
  unfold cutE
  rw [if_neg (by simpa using hb), if_neg (by unfold lgI; rw [List.length_map]; omega), if_neg, if_neg (by rw [h2]; simp), if_neg]
  · congr 1
    unfold lgI sumF sF
    rw [List.map_map]; rfl
  · intro hh
    obtain ⟨p, hp, hz⟩ := List.any_eq_true.1 hh
    obtain ⟨q, hq, rfl⟩ := List.mem_map.1 hp
    have h3 := (h1 q hq).2.2.2
    unfold sF at h3
    have := of_decide_eq_true hz
    dsimp only at this
    omega
  · intro hh
    have : ((lgI c).all fun p => lieB th p.1 p.2) = true := by
      rw [List.all_eq_true]
      intro p hp
      obtain ⟨q, hq, rfl⟩ := List.mem_map.1 hp
      have h3 := h1 q hq
      unfold lieB inn
      simp; omega
    rw [this] at hh; cases hh
def thW : List Int := [10, 9, 9, 8, 8, 7, 7]
def rW (x : Int) : Rl := ⟨2, 4, 2, 0, x, 4, 6⟩
theorem w_both : bothE thW [] (rW 4) = 0 := by kernel_rfl
theorem w_feet1 : feetE thW [] (rW 4) 0 2 = (12, 0) := by kernel_rfl
theorem w_feet2 : feetE thW [3] (rW 4) 2 4 = (0, 18) := by kernel_rfl
theorem w_cut1 : cutE thW [] (rW 4) [(0, 2), (2, 6)] = (21, 0) := by kernel_rfl
theorem w_cut2 : (cutE thW [] (rW 4) [(0, 4), (2, 4)]) = (0, 16) := by kernel_rfl
theorem w_both3 : bothE thW [3] (rW 4) = 0 := by kernel_rfl
theorem w_best : bst (sF thW [3] (rW 4)) allB 6 0 = 16 := by kernel_rfl
theorem w_best0 : bst (sF thW [] (rW 4)) allB 6 0 = 24 := by kernel_rfl
theorem w_row : rowK (bst (sF thW [] (rW 4)) allB 6) 7 0 = [24, 12, 12, 4, 4, 0, 0] := by kernel_rfl
theorem w_pr1 : prE thW [] (rW 4) [24, 12, 12, 4, 4, 0, 0] = (24, 0) := by kernel_rfl
theorem w_pr2 : prE thW [] (rW 4) [23, 12, 12, 4, 4, 0, 0] = (0, 14) := by kernel_rfl
theorem w_count : countE [8, 8, 8, 8, 8, 8] [] (rW 4) = (5, 0) := by kernel_rfl
theorem w_kind : kindE thW [] (rW 4) 2 = (2, 0) := by kernel_rfl
theorem w_loss : lossE thW [] (rW 4) 3 = (8, 0) := by kernel_rfl
theorem w_btw : betweenE thW [] (rW 4) (rW 0) = ((96, 96), 0) := by kernel_rfl
end Go.Proofs.Ytcgheakadfjofaa
namespace Go.Proofs.Ytcgheakadfjofaa
open Go.RowKit Go.Shelf
set_option linter.unusedVariables false
set_option linter.unusedSimpArgs false
attribute [local go_sem] Oper.semAt_some
structure WkAt (X : World) (B b1 b2 : Nat) : Prop where
  s10 : X.cell? ⟨B, 0, none⟩ = some (.slice (some ⟨b1, 0, none⟩) 7 7)
  s11 : X.cell? ⟨B, 1, none⟩ = some (.slice none 0 0)
  s20 : X.cell? ⟨B + 1, 0, none⟩ = some (.slice (some ⟨b2, 0, none⟩) 7 7)
  s21 : X.cell? ⟨B + 1, 1, none⟩ = some (.slice (some ⟨B + 1 + 1 + 1 + 1, 0, none⟩) 1 1)
  p0 : X.cell? ⟨B + 1 + 1, 0, none⟩ = some (.int .i64 2)
  p1 : X.cell? ⟨B + 1 + 1, 1, none⟩ = some (.int .i64 4)
  p2 : X.cell? ⟨B + 1 + 1, 2, none⟩ = some (.int .i64 2)
  p3 : X.cell? ⟨B + 1 + 1, 3, none⟩ = some (.int .i64 0)
  p4 : X.cell? ⟨B + 1 + 1, 4, none⟩ = some (.int .i64 4)
  p5 : X.cell? ⟨B + 1 + 1, 5, none⟩ = some (.int .i64 4)
  p6 : X.cell? ⟨B + 1 + 1, 6, none⟩ = some (.int .i64 6)
  q0 : X.cell? ⟨B + 1 + 1 + 1, 0, none⟩ = some (.int .i64 2)
  q1 : X.cell? ⟨B + 1 + 1 + 1, 1, none⟩ = some (.int .i64 4)
  q2 : X.cell? ⟨B + 1 + 1 + 1, 2, none⟩ = some (.int .i64 2)
  q3 : X.cell? ⟨B + 1 + 1 + 1, 3, none⟩ = some (.int .i64 0)
  q4 : X.cell? ⟨B + 1 + 1 + 1, 4, none⟩ = some (.int .i64 0)
  q5 : X.cell? ⟨B + 1 + 1 + 1, 5, none⟩ = some (.int .i64 4)
  q6 : X.cell? ⟨B + 1 + 1 + 1, 6, none⟩ = some (.int .i64 6)
theorem WkAt.ext {X Y : World} {B b1 b2 : Nat} (h : WkAt X B b1 b2) (hb : Ext X Y) : WkAt Y B b1 b2 := ⟨cell_ext hb h.s10, cell_ext hb h.s11, cell_ext hb h.s20, cell_ext hb h.s21, cell_ext hb h.p0, cell_ext hb h.p1, cell_ext hb h.p2, cell_ext hb h.p3, cell_ext hb h.p4, cell_ext hb h.p5, cell_ext hb h.p6, cell_ext hb h.q0, cell_ext hb h.q1, cell_ext hb h.q2, cell_ext hb h.q3, cell_ext hb h.q4, cell_ext hb h.q5, cell_ext hb h.q6⟩
theorem ReadsLg.two (w : World) (a b c d : Int) : ReadsLg (w.alloc (.cells #[.int .i64 a, .int .i64 b, .int .i64 c, .int .i64 d] 29)) (.slice (some ⟨w.heap.size, 0, none⟩) 2 2) [(a, b), (c, d)] := by
  refine ⟨by simp, _, _, rfl, .inr ⟨w.heap.size, 0, rfl, fun i p hi => ?_⟩⟩
  match i, hi with
  | 0, hi => simp at hi; subst hi; exact ⟨World.cell?_alloc_at _ _ _ _ rfl, World.cell?_alloc_at _ _ _ _ rfl⟩
  | 1, hi => simp at hi; subst hi; exact ⟨World.cell?_alloc_at _ _ _ _ rfl, World.cell?_alloc_at _ _ _ _ rfl⟩
  | i + 2, hi => simp at hi
set_option maxRecDepth 100000 in
set_option maxHeartbeats 16000000 in
theorem works17 (w : World) : Calls Try.prog 17 #[] w fun e w' => e = .returned (.bool true) ∧ Ext w w' := by
  go_enter Try.func17, Try.ntmps17
  go_wp2_with fail
  refine (stem47 _).mono ?_
  rintro e w1 ⟨⟨b1, rfl, hr1⟩, hb1⟩
  have HR1 := Lib.hid hr1; have HB1 := Lib.hid hb1
  clear hr1 hb1
  go_wp2_with fail
  refine (stem47 _).mono ?_
  rintro e w2 ⟨⟨b2, rfl, hr2⟩, hb2⟩
  have HR2 := Lib.hid hr2; have HB2 := Lib.hid hb2
  clear hr2 hb2
  go_wp2_with fail
  refine (rule48 4 _).mono ?_
  rintro e w3 ⟨rfl, hb3⟩
  have HB3 := Lib.hid hb3
  clear hb3
  go_wp2_with fail
  refine (rule48 0 _).mono ?_
  rintro e w4 ⟨rfl, hb4⟩
  have HB4 := Lib.hid hb4
  clear hb4
  go_wp2
  obtain ⟨B, hB⟩ : ∃ B, B = w4.heap.size := ⟨_, rfl⟩
  rw [← hB]
  have hE5 : Ext w4 (((((w4.alloc (.cells #[.slice (some ⟨b1, 0, none⟩) 7 7, .slice none 0 0] 25)).alloc (.cells #[.slice (some ⟨b2, 0, none⟩) 7 7, .slice (some ⟨B + 1 + 1 + 1 + 1, 0, none⟩) 1 1] 25)).alloc (.cells #[.int .i64 2, .int .i64 4, .int .i64 2, .int .i64 0, .int .i64 4, .int .i64 4, .int .i64 6] 27)).alloc (.cells #[.int .i64 2, .int .i64 4, .int .i64 2, .int .i64 0, .int .i64 0, .int .i64 4, .int .i64 6] 27)).alloc (.cells #[.int .i64 3] 3)) := Ext.alloc (Ext.alloc (Ext.alloc (Ext.alloc (Ext.alloc (Ext.refl w4) _) _) _) _) _
  have hw5 : WkAt (((((w4.alloc (.cells #[.slice (some ⟨b1, 0, none⟩) 7 7, .slice none 0 0] 25)).alloc (.cells #[.slice (some ⟨b2, 0, none⟩) 7 7, .slice (some ⟨B + 1 + 1 + 1 + 1, 0, none⟩) 1 1] 25)).alloc (.cells #[.int .i64 2, .int .i64 4, .int .i64 2, .int .i64 0, .int .i64 4, .int .i64 4, .int .i64 6] 27)).alloc (.cells #[.int .i64 2, .int .i64 4, .int .i64 2, .int .i64 0, .int .i64 0, .int .i64 4, .int .i64 6] 27)).alloc (.cells #[.int .i64 3] 3)) B b1 b2 := by
    rw [hB]
    constructor
    iterate 2 exact cell_ext (Ext.alloc (Ext.alloc (Ext.alloc (Ext.alloc (Ext.refl _) _) _) _) _) (World.cell?_alloc_at _ _ _ _ (by simp))
    iterate 2 exact cell_ext (Ext.alloc (Ext.alloc (Ext.alloc (Ext.refl _) _) _) _) (World.cell?_alloc_at _ _ _ _ (by simp))
    iterate 7 exact cell_ext (Ext.alloc (Ext.alloc (Ext.refl _) _) _) (World.cell?_alloc_at _ _ _ _ (by simp))
    iterate 7 exact cell_ext (Ext.alloc (Ext.refl _) _) (World.cell?_alloc_at _ _ _ _ (by simp))
  have hr3 : Reads (((((w4.alloc (.cells #[.slice (some ⟨b1, 0, none⟩) 7 7, .slice none 0 0] 25)).alloc (.cells #[.slice (some ⟨b2, 0, none⟩) 7 7, .slice (some ⟨B + 1 + 1 + 1 + 1, 0, none⟩) 1 1] 25)).alloc (.cells #[.int .i64 2, .int .i64 4, .int .i64 2, .int .i64 0, .int .i64 4, .int .i64 4, .int .i64 6] 27)).alloc (.cells #[.int .i64 2, .int .i64 4, .int .i64 2, .int .i64 0, .int .i64 0, .int .i64 4, .int .i64 6] 27)).alloc (.cells #[.int .i64 3] 3)) (.slice (some ⟨B + 1 + 1 + 1 + 1, 0, none⟩) 1 1) [3] := Reads.new _ [3] 3 (B + 1 + 1 + 1 + 1) (by rw [hB]; simp) (by simp) _ rfl 1 1 rfl
  obtain ⟨W5, hW5⟩ : ∃ W5, (((((w4.alloc (.cells #[.slice (some ⟨b1, 0, none⟩) 7 7, .slice none 0 0] 25)).alloc (.cells #[.slice (some ⟨b2, 0, none⟩) 7 7, .slice (some ⟨B + 1 + 1 + 1 + 1, 0, none⟩) 1 1] 25)).alloc (.cells #[.int .i64 2, .int .i64 4, .int .i64 2, .int .i64 0, .int .i64 4, .int .i64 4, .int .i64 6] 27)).alloc (.cells #[.int .i64 2, .int .i64 4, .int .i64 2, .int .i64 0, .int .i64 0, .int .i64 4, .int .i64 6] 27)).alloc (.cells #[.int .i64 3] 3)) = W5 := ⟨_, rfl⟩
  rw [hW5] at hE5 hw5 hr3 ⊢
  clear hW5
  have HR1 := Lib.hid (HR1.out.ext (HB2.out.trans (HB3.out.trans (HB4.out.trans hE5))))
  have HR2 := Lib.hid (HR2.out.ext (HB3.out.trans (HB4.out.trans hE5)))
  have HR3 := Lib.hid hr3; have HW := Lib.hid hw5
  have HEW := Lib.hid (HB1.out.trans (HB2.out.trans (HB3.out.trans (HB4.out.trans hE5))))
  have HE0 := Lib.hid (Ext.refl W5)
  clear hE5 hw5 hr3 hB HB1 HB2 HB3 HB4
  have C18a := Lib.hid (show ∀ X : World, Ext W5 X → Calls Try.prog 18 #[.agg #[.slice (some ⟨b1, 0, none⟩) 7 7, .slice none 0 0], .agg #[.int .i64 2, .int .i64 4, .int .i64 2, .int .i64 0, .int .i64 4, .int .i64 4, .int .i64 6], .agg #[.int .i64 0, .int .i64 2]] X fun e w' => e = .returned (.tuple #[.int .i64 12, .int .i64 0]) ∧ Ext X w' from fun X h => by
    have := feet18 (.slice (some ⟨b1, 0, none⟩) 7 7) (.slice none 0 0) thW [] (rW 4) 0 2 X (HR1.out.ext h) (Reads.nil _)
    rw [w_feet1] at this
    exact this)
  have C18b := Lib.hid (show ∀ X : World, Ext W5 X → Calls Try.prog 18 #[.agg #[.slice (some ⟨b2, 0, none⟩) 7 7, .slice (some ⟨B + 1 + 1 + 1 + 1, 0, none⟩) 1 1], .agg #[.int .i64 2, .int .i64 4, .int .i64 2, .int .i64 0, .int .i64 4, .int .i64 4, .int .i64 6], .agg #[.int .i64 2, .int .i64 4]] X fun e w' => e = .returned (.tuple #[.int .i64 0, .int .i64 18]) ∧ Ext X w' from fun X h => by
    have := feet18 (.slice (some ⟨b2, 0, none⟩) 7 7) (.slice (some ⟨B + 1 + 1 + 1 + 1, 0, none⟩) 1 1) thW [3] (rW 4) 2 4 X (HR2.out.ext h) (HR3.out.ext h)
    rw [w_feet2] at this
    exact this)
  have C24a := Lib.hid (show ∀ (X : World) (v : Value), Ext W5 X → ReadsLg X v [(0, 2), (2, 6)] → Calls Try.prog 24 #[.agg #[.slice (some ⟨b1, 0, none⟩) 7 7, .slice none 0 0], .agg #[.int .i64 2, .int .i64 4, .int .i64 2, .int .i64 0, .int .i64 4, .int .i64 4, .int .i64 6], v] X fun e w' => e = .returned (.tuple #[.int .i64 21, .int .i64 0]) ∧ Ext X w' from fun X v h h2 => by
    have := cut24 (.slice (some ⟨b1, 0, none⟩) 7 7) (.slice none 0 0) v thW [] (rW 4) [(0, 2), (2, 6)] X (HR1.out.ext h) (Reads.nil _) h2
    rw [w_cut1] at this
    exact this)
  have C24b := Lib.hid (show ∀ (X : World) (v : Value), Ext W5 X → ReadsLg X v [(0, 4), (2, 4)] → Calls Try.prog 24 #[.agg #[.slice (some ⟨b1, 0, none⟩) 7 7, .slice none 0 0], .agg #[.int .i64 2, .int .i64 4, .int .i64 2, .int .i64 0, .int .i64 4, .int .i64 4, .int .i64 6], v] X fun e w' => e = .returned (.tuple #[.int .i64 0, .int .i64 16]) ∧ Ext X w' from fun X v h h2 => by
    have := cut24 (.slice (some ⟨b1, 0, none⟩) 7 7) (.slice none 0 0) v thW [] (rW 4) [(0, 4), (2, 4)] X (HR1.out.ext h) (Reads.nil _) h2
    rw [w_cut2] at this
    exact this)
  have C25 := Lib.hid (show ∀ (X : World) (v : Value) (c : List (Nat × Nat)), Ext W5 X → ReadsLg X v (lgI c) → Cuts (sF thW [] (rW 4)) allB 6 0 c → sumF (sF thW [] (rW 4)) c = bst (sF thW [] (rW 4)) allB 6 0 → Calls Try.prog 25 #[.agg #[.slice (some ⟨b1, 0, none⟩) 7 7, .slice none 0 0], .agg #[.int .i64 2, .int .i64 4, .int .i64 2, .int .i64 0, .int .i64 4, .int .i64 4, .int .i64 6], v] X fun e w' => e = .returned (.tuple #[.int .i64 24, .int .i64 0]) ∧ Ext X w' from fun X v c h h2 h3 h4 => by
    have := refcut25 (.slice (some ⟨b1, 0, none⟩) 7 7) (.slice none 0 0) v thW [] (rW 4) (lgI c) X (HR1.out.ext h) (Reads.nil _) h2
    rw [cutE_cuts (n := 6) w_both rfl (by omega) h3, h4, w_best0] at this
    exact this)
  have C29a := Lib.hid (show ∀ (X : World) (v : Value), Ext W5 X → Reads X v [24, 12, 12, 4, 4, 0, 0] → Calls Try.prog 29 #[.agg #[.slice (some ⟨b1, 0, none⟩) 7 7, .slice none 0 0], .agg #[.int .i64 2, .int .i64 4, .int .i64 2, .int .i64 0, .int .i64 4, .int .i64 4, .int .i64 6], v] X fun e w' => e = .returned (.tuple #[.int .i64 24, .int .i64 0]) ∧ Ext X w' from fun X v h h2 => by
    have := prices29 (.slice (some ⟨b1, 0, none⟩) 7 7) (.slice none 0 0) v thW [] [24, 12, 12, 4, 4, 0, 0] (rW 4) X (HR1.out.ext h) (Reads.nil _) h2
    rw [w_pr1] at this
    exact this)
  have C29b := Lib.hid (show ∀ (X : World) (v : Value), Ext W5 X → Reads X v [23, 12, 12, 4, 4, 0, 0] → Calls Try.prog 29 #[.agg #[.slice (some ⟨b1, 0, none⟩) 7 7, .slice none 0 0], .agg #[.int .i64 2, .int .i64 4, .int .i64 2, .int .i64 0, .int .i64 4, .int .i64 4, .int .i64 6], v] X fun e w' => e = .returned (.tuple #[.int .i64 0, .int .i64 14]) ∧ Ext X w' from fun X v h h2 => by
    have := prices29 (.slice (some ⟨b1, 0, none⟩) 7 7) (.slice none 0 0) v thW [] [23, 12, 12, 4, 4, 0, 0] (rW 4) X (HR1.out.ext h) (Reads.nil _) h2
    rw [w_pr2] at this
    exact this)
  have C30 := Lib.hid (show ∀ (X : World) (v : Value), Ext W5 X → Reads X v [24, 12, 12, 4, 4, 0, 0] → Calls Try.prog 30 #[.agg #[.slice (some ⟨b1, 0, none⟩) 7 7, .slice none 0 0], .agg #[.int .i64 2, .int .i64 4, .int .i64 2, .int .i64 0, .int .i64 4, .int .i64 4, .int .i64 6], v] X fun e w' => e = .returned (.tuple #[.int .i64 24, .int .i64 0]) ∧ Ext X w' from fun X v h h2 => by
    have := refprices30 (.slice (some ⟨b1, 0, none⟩) 7 7) (.slice none 0 0) v thW [] [24, 12, 12, 4, 4, 0, 0] (rW 4) X (HR1.out.ext h) (Reads.nil _) h2
    rw [w_pr1] at this
    exact this)
  have C26 := Lib.hid (show ∀ X : World, Ext W5 X → Calls Try.prog 26 #[.agg #[.slice (some ⟨b2, 0, none⟩) 7 7, .slice (some ⟨B + 1 + 1 + 1 + 1, 0, none⟩) 1 1], .agg #[.int .i64 2, .int .i64 4, .int .i64 2, .int .i64 0, .int .i64 4, .int .i64 4, .int .i64 6]] X fun e w' => e = .returned (.tuple #[.int .i64 16, .int .i64 0]) ∧ Ext X w' from fun X h => by
    have := best26 (.slice (some ⟨b2, 0, none⟩) 7 7) (.slice (some ⟨B + 1 + 1 + 1 + 1, 0, none⟩) 1 1) thW [3] (rW 4) X (HR2.out.ext h) (HR3.out.ext h)
    rw [w_both3, if_pos rfl, show thW.length - 1 = 6 from rfl, w_best] at this
    exact this)
  have C28 := Lib.hid (show ∀ X : World, Ext W5 X → Calls Try.prog 28 #[.agg #[.slice (some ⟨b1, 0, none⟩) 7 7, .slice none 0 0], .agg #[.int .i64 2, .int .i64 4, .int .i64 2, .int .i64 0, .int .i64 4, .int .i64 4, .int .i64 6]] X (CutPost X thW [] (rW 4) 0) from fun X h => by
    have := cut28 (.slice (some ⟨b1, 0, none⟩) 7 7) (.slice none 0 0) thW [] (rW 4) X (HR1.out.ext h) (Reads.nil _)
    rw [w_both] at this
    exact this)
  have C31 := Lib.hid (show ∀ X : World, Ext W5 X → Calls Try.prog 31 #[.agg #[.slice (some ⟨b1, 0, none⟩) 7 7, .slice none 0 0], .agg #[.int .i64 2, .int .i64 4, .int .i64 2, .int .i64 0, .int .i64 4, .int .i64 4, .int .i64 6]] X (PricesPost X thW [] (rW 4) 7 0) from fun X h => by
    have := prices31 (.slice (some ⟨b1, 0, none⟩) 7 7) (.slice none 0 0) thW [] (rW 4) 7 X (HR1.out.ext h) (Reads.nil _) rfl
    rw [w_both] at this
    exact this)
  have C32 := Lib.hid (show ∀ (X : World) (v : Value), Ext W5 X → Reads X v [8, 8, 8, 8, 8, 8] → Calls Try.prog 32 #[.agg #[v, .slice none 0 0], .agg #[.int .i64 2, .int .i64 4, .int .i64 2, .int .i64 0, .int .i64 4, .int .i64 4, .int .i64 6]] X fun e w' => e = .returned (.tuple #[.int .i64 5, .int .i64 0]) ∧ Ext X w' from fun X v h h2 => by
    have := count32 v (.slice none 0 0) [8, 8, 8, 8, 8, 8] [] (rW 4) X h2 (Reads.nil _)
    rw [w_count] at this
    exact this)
  have C34 := Lib.hid (show ∀ X : World, Ext W5 X → Calls Try.prog 34 #[.agg #[.slice (some ⟨b1, 0, none⟩) 7 7, .slice none 0 0], .agg #[.int .i64 2, .int .i64 4, .int .i64 2, .int .i64 0, .int .i64 4, .int .i64 4, .int .i64 6], .int .i64 2] X fun e w' => e = .returned (.tuple #[.int .i64 2, .int .i64 0]) ∧ Ext X w' from fun X h => by
    have := kind34 (some ⟨b1, 0, none⟩) 7 7 (.slice none 0 0) thW [] (rW 4) 2 X (HR1.out.ext h) (Reads.nil _)
    rw [w_kind] at this
    exact this)
  have C36 := Lib.hid (show ∀ X : World, Ext W5 X → Calls Try.prog 36 #[.agg #[.slice (some ⟨b1, 0, none⟩) 7 7, .slice none 0 0], .agg #[.int .i64 2, .int .i64 4, .int .i64 2, .int .i64 0, .int .i64 4, .int .i64 4, .int .i64 6], .int .i64 3] X fun e w' => e = .returned (.tuple #[.int .i64 8, .int .i64 0]) ∧ Ext X w' from fun X h => by
    have := loss36 (some ⟨b1, 0, none⟩) 7 7 (.slice none 0 0) thW [] (rW 4) 3 X (HR1.out.ext h) (by omega) (Reads.nil _)
    rw [w_loss] at this
    exact this)
  have C38 := Lib.hid (show ∀ X : World, Ext W5 X → Calls Try.prog 38 #[.agg #[.slice (some ⟨b1, 0, none⟩) 7 7, .slice none 0 0], .agg #[.int .i64 2, .int .i64 4, .int .i64 2, .int .i64 0, .int .i64 4, .int .i64 4, .int .i64 6], .agg #[.int .i64 2, .int .i64 4, .int .i64 2, .int .i64 0, .int .i64 0, .int .i64 4, .int .i64 6]] X fun e w' => e = .returned (.tuple #[.agg #[.int .i64 96, .int .i64 96], .int .i64 0]) ∧ Ext X w' from fun X h => by
    have := between38 (.slice (some ⟨b1, 0, none⟩) 7 7) (.slice none 0 0) thW [] (rW 4) (rW 0) X (HR1.out.ext h) (Reads.nil _)
    rw [w_btw] at this
    exact this)
  have HKP13 := Lib.hid (show ∀ X X' : World, (fun X : World => X.cell? ⟨B, 0, none⟩ = some (.slice (some ⟨b1, 0, none⟩) 7 7) ∧ X.cell? ⟨B, 1, none⟩ = some (.slice none 0 0) ∧ X.cell? ⟨B + 1 + 1, 0, none⟩ = some (.int .i64 2) ∧ X.cell? ⟨B + 1 + 1, 1, none⟩ = some (.int .i64 4) ∧ X.cell? ⟨B + 1 + 1, 2, none⟩ = some (.int .i64 2) ∧ X.cell? ⟨B + 1 + 1, 3, none⟩ = some (.int .i64 0) ∧ X.cell? ⟨B + 1 + 1, 4, none⟩ = some (.int .i64 4) ∧ X.cell? ⟨B + 1 + 1, 5, none⟩ = some (.int .i64 4) ∧ X.cell? ⟨B + 1 + 1, 6, none⟩ = some (.int .i64 6) ∧ Hid (Ext W5 X)) X → Ext X X' → (fun X : World => X.cell? ⟨B, 0, none⟩ = some (.slice (some ⟨b1, 0, none⟩) 7 7) ∧ X.cell? ⟨B, 1, none⟩ = some (.slice none 0 0) ∧ X.cell? ⟨B + 1 + 1, 0, none⟩ = some (.int .i64 2) ∧ X.cell? ⟨B + 1 + 1, 1, none⟩ = some (.int .i64 4) ∧ X.cell? ⟨B + 1 + 1, 2, none⟩ = some (.int .i64 2) ∧ X.cell? ⟨B + 1 + 1, 3, none⟩ = some (.int .i64 0) ∧ X.cell? ⟨B + 1 + 1, 4, none⟩ = some (.int .i64 4) ∧ X.cell? ⟨B + 1 + 1, 5, none⟩ = some (.int .i64 4) ∧ X.cell? ⟨B + 1 + 1, 6, none⟩ = some (.int .i64 6) ∧ Hid (Ext W5 X)) X' from fun X X' h hb => ⟨cell_ext hb h.1, cell_ext hb h.2.1, cell_ext hb h.2.2.1, cell_ext hb h.2.2.2.1, cell_ext hb h.2.2.2.2.1, cell_ext hb h.2.2.2.2.2.1, cell_ext hb h.2.2.2.2.2.2.1, cell_ext hb h.2.2.2.2.2.2.2.1, cell_ext hb h.2.2.2.2.2.2.2.2.1, Lib.hid (Ext.trans h.2.2.2.2.2.2.2.2.2.out hb)⟩)
  have HKP23 := Lib.hid (show ∀ X X' : World, (fun X : World => X.cell? ⟨B + 1, 0, none⟩ = some (.slice (some ⟨b2, 0, none⟩) 7 7) ∧ X.cell? ⟨B + 1, 1, none⟩ = some (.slice (some ⟨B + 1 + 1 + 1 + 1, 0, none⟩) 1 1) ∧ X.cell? ⟨B + 1 + 1, 0, none⟩ = some (.int .i64 2) ∧ X.cell? ⟨B + 1 + 1, 1, none⟩ = some (.int .i64 4) ∧ X.cell? ⟨B + 1 + 1, 2, none⟩ = some (.int .i64 2) ∧ X.cell? ⟨B + 1 + 1, 3, none⟩ = some (.int .i64 0) ∧ X.cell? ⟨B + 1 + 1, 4, none⟩ = some (.int .i64 4) ∧ X.cell? ⟨B + 1 + 1, 5, none⟩ = some (.int .i64 4) ∧ X.cell? ⟨B + 1 + 1, 6, none⟩ = some (.int .i64 6) ∧ Hid (Ext W5 X)) X → Ext X X' → (fun X : World => X.cell? ⟨B + 1, 0, none⟩ = some (.slice (some ⟨b2, 0, none⟩) 7 7) ∧ X.cell? ⟨B + 1, 1, none⟩ = some (.slice (some ⟨B + 1 + 1 + 1 + 1, 0, none⟩) 1 1) ∧ X.cell? ⟨B + 1 + 1, 0, none⟩ = some (.int .i64 2) ∧ X.cell? ⟨B + 1 + 1, 1, none⟩ = some (.int .i64 4) ∧ X.cell? ⟨B + 1 + 1, 2, none⟩ = some (.int .i64 2) ∧ X.cell? ⟨B + 1 + 1, 3, none⟩ = some (.int .i64 0) ∧ X.cell? ⟨B + 1 + 1, 4, none⟩ = some (.int .i64 4) ∧ X.cell? ⟨B + 1 + 1, 5, none⟩ = some (.int .i64 4) ∧ X.cell? ⟨B + 1 + 1, 6, none⟩ = some (.int .i64 6) ∧ Hid (Ext W5 X)) X' from fun X X' h hb => ⟨cell_ext hb h.1, cell_ext hb h.2.1, cell_ext hb h.2.2.1, cell_ext hb h.2.2.2.1, cell_ext hb h.2.2.2.2.1, cell_ext hb h.2.2.2.2.2.1, cell_ext hb h.2.2.2.2.2.2.1, cell_ext hb h.2.2.2.2.2.2.2.1, cell_ext hb h.2.2.2.2.2.2.2.2.1, Lib.hid (Ext.trans h.2.2.2.2.2.2.2.2.2.out hb)⟩)
  have HW3 := Lib.hid ((HW.out.ext HE0.out).ext (Ext.refl _).drew)
  have HEX := Lib.hid (HE0.out.drew)
  refine wp_region_order (fun X : World => X.cell? ⟨B, 0, none⟩ = some (.slice (some ⟨b1, 0, none⟩) 7 7) ∧ X.cell? ⟨B, 1, none⟩ = some (.slice none 0 0) ∧ X.cell? ⟨B + 1 + 1, 0, none⟩ = some (.int .i64 2) ∧ X.cell? ⟨B + 1 + 1, 1, none⟩ = some (.int .i64 4) ∧ X.cell? ⟨B + 1 + 1, 2, none⟩ = some (.int .i64 2) ∧ X.cell? ⟨B + 1 + 1, 3, none⟩ = some (.int .i64 0) ∧ X.cell? ⟨B + 1 + 1, 4, none⟩ = some (.int .i64 4) ∧ X.cell? ⟨B + 1 + 1, 5, none⟩ = some (.int .i64 4) ∧ X.cell? ⟨B + 1 + 1, 6, none⟩ = some (.int .i64 6) ∧ Hid (Ext W5 X)) [0, 1, 2, 3, 4, 5, 6, 7, 8] (by kernel_rfl) (by kernel_rfl) (by exact ⟨HW3.out.s10, HW3.out.s11, HW3.out.p0, HW3.out.p1, HW3.out.p2, HW3.out.p3, HW3.out.p4, HW3.out.p5, HW3.out.p6, HEX⟩) (fun hHeld => ?_)
  simp only [opsIn, List.filterMap_cons, List.filterMap_nil, List.getElem?_toArray, List.getElem?_cons_succ, List.getElem?_cons_zero]
  refine' text_chunk 2 (by kernel_rfl) hHeld ?ck1 ?cr1
  case ck1 =>
    intro W hSw
    have hSW := hSw
    try dsimp only at hSW
    clear hSw
    simp only [List.take_succ_cons, List.take_zero, List.drop_succ_cons, List.drop_zero]
    repeat (go_big_quiet_step (fail))
    exact wpQuiet_nil rfl
  simp only [List.take_succ_cons, List.take_zero, List.drop_succ_cons, List.drop_zero]
  refine text_call (by rfl) (by rfl) (fun K hK => ?_)
  go_simp
  (go_at_call 46; refine (log46 0 2 _).mono ?_; rintro e x1 ⟨rfl, hb1⟩)
  all_goals (try (go_wp2_with fail))
  refine hK.out _ _ (by exact HKP13.out _ _ hHeld hb1) (fun hHeld => ?_)
  clear hK K
  try simp only [Act.put, List.setIfInBounds_toArray, List.set_cons_zero, List.set_cons_succ]
  refine text_call (by rfl) (by rfl) (fun K hK => ?_)
  go_simp
  (go_at_call 18; refine (C18a.out _ hHeld.2.2.2.2.2.2.2.2.2.out).mono ?_; rintro e x2 ⟨rfl, hb2⟩)
  all_goals (try (go_wp2_with fail))
  refine hK.out _ _ (by exact HKP13.out _ _ hHeld hb2) (fun hHeld => ?_)
  clear hK K
  try simp only [Act.put, List.setIfInBounds_toArray, List.set_cons_zero, List.set_cons_succ]
  refine' text_chunk 5 (by kernel_rfl) hHeld ?ck2 ?cr2
  case ck2 =>
    intro W hSw
    have hSW := hSw
    try dsimp only at hSW
    clear hSw
    simp only [List.take_succ_cons, List.take_zero, List.drop_succ_cons, List.drop_zero]
    repeat (go_big_quiet_step (fail))
    exact wpQuiet_nil rfl
  simp only [List.take_succ_cons, List.take_zero, List.drop_succ_cons, List.drop_zero]
  refine text_done ?_
  have HE1 := hHeld.2.2.2.2.2.2.2.2.2
  clear hHeld HEX HW3
  clear hb1 hb2
  go_wp2
  have HW4 := Lib.hid ((HW.out.ext HE1.out).ext (Ext.refl _).drew)
  have HEX := Lib.hid (HE1.out.drew)
  refine wp_region_order (fun X : World => X.cell? ⟨B + 1, 0, none⟩ = some (.slice (some ⟨b2, 0, none⟩) 7 7) ∧ X.cell? ⟨B + 1, 1, none⟩ = some (.slice (some ⟨B + 1 + 1 + 1 + 1, 0, none⟩) 1 1) ∧ X.cell? ⟨B + 1 + 1, 0, none⟩ = some (.int .i64 2) ∧ X.cell? ⟨B + 1 + 1, 1, none⟩ = some (.int .i64 4) ∧ X.cell? ⟨B + 1 + 1, 2, none⟩ = some (.int .i64 2) ∧ X.cell? ⟨B + 1 + 1, 3, none⟩ = some (.int .i64 0) ∧ X.cell? ⟨B + 1 + 1, 4, none⟩ = some (.int .i64 4) ∧ X.cell? ⟨B + 1 + 1, 5, none⟩ = some (.int .i64 4) ∧ X.cell? ⟨B + 1 + 1, 6, none⟩ = some (.int .i64 6) ∧ Hid (Ext W5 X)) [0, 1, 2, 3, 4, 5, 6, 7, 8] (by kernel_rfl) (by kernel_rfl) (by exact ⟨HW4.out.s20, HW4.out.s21, HW4.out.p0, HW4.out.p1, HW4.out.p2, HW4.out.p3, HW4.out.p4, HW4.out.p5, HW4.out.p6, HEX⟩) (fun hHeld => ?_)
  simp only [opsIn, List.filterMap_cons, List.filterMap_nil, List.getElem?_toArray, List.getElem?_cons_succ, List.getElem?_cons_zero]
  refine' text_chunk 2 (by kernel_rfl) hHeld ?ck3 ?cr3
  case ck3 =>
    intro W hSw
    have hSW := hSw
    try dsimp only at hSW
    clear hSw
    simp only [List.take_succ_cons, List.take_zero, List.drop_succ_cons, List.drop_zero]
    repeat (go_big_quiet_step (fail))
    exact wpQuiet_nil rfl
  simp only [List.take_succ_cons, List.take_zero, List.drop_succ_cons, List.drop_zero]
  refine text_call (by rfl) (by rfl) (fun K hK => ?_)
  go_simp
  (go_at_call 46; refine (log46 2 4 _).mono ?_; rintro e x3 ⟨rfl, hb3⟩)
  all_goals (try (go_wp2_with fail))
  refine hK.out _ _ (by exact HKP23.out _ _ hHeld hb3) (fun hHeld => ?_)
  clear hK K
  try simp only [Act.put, List.setIfInBounds_toArray, List.set_cons_zero, List.set_cons_succ]
  refine text_call (by rfl) (by rfl) (fun K hK => ?_)
  go_simp
  (go_at_call 18; refine (C18b.out _ hHeld.2.2.2.2.2.2.2.2.2.out).mono ?_; rintro e x4 ⟨rfl, hb4⟩)
  all_goals (try (go_wp2_with fail))
  refine hK.out _ _ (by exact HKP23.out _ _ hHeld hb4) (fun hHeld => ?_)
  clear hK K
  try simp only [Act.put, List.setIfInBounds_toArray, List.set_cons_zero, List.set_cons_succ]
  refine' text_chunk 5 (by kernel_rfl) hHeld ?ck4 ?cr4
  case ck4 =>
    intro W hSw
    have hSW := hSw
    try dsimp only at hSW
    clear hSw
    simp only [List.take_succ_cons, List.take_zero, List.drop_succ_cons, List.drop_zero]
    repeat (go_big_quiet_step (fail))
    exact wpQuiet_nil rfl
  simp only [List.take_succ_cons, List.take_zero, List.drop_succ_cons, List.drop_zero]
  refine text_done ?_
  have HE2 := hHeld.2.2.2.2.2.2.2.2.2
  clear hHeld HEX HW4
  clear hb3 hb4
  go_wp2
  have HW5 := Lib.hid ((HW.out.ext HE2.out).ext (Ext.refl _).drew)
  have HEX := Lib.hid (HE2.out.drew)
  refine wp_region_order (fun X : World => X.cell? ⟨B, 0, none⟩ = some (.slice (some ⟨b1, 0, none⟩) 7 7) ∧ X.cell? ⟨B, 1, none⟩ = some (.slice none 0 0) ∧ X.cell? ⟨B + 1 + 1, 0, none⟩ = some (.int .i64 2) ∧ X.cell? ⟨B + 1 + 1, 1, none⟩ = some (.int .i64 4) ∧ X.cell? ⟨B + 1 + 1, 2, none⟩ = some (.int .i64 2) ∧ X.cell? ⟨B + 1 + 1, 3, none⟩ = some (.int .i64 0) ∧ X.cell? ⟨B + 1 + 1, 4, none⟩ = some (.int .i64 4) ∧ X.cell? ⟨B + 1 + 1, 5, none⟩ = some (.int .i64 4) ∧ X.cell? ⟨B + 1 + 1, 6, none⟩ = some (.int .i64 6) ∧ Hid (Ext W5 X)) [0, 1, 2, 3, 4, 5, 6, 7, 8, 9, 10, 11] (by kernel_rfl) (by kernel_rfl) (by exact ⟨HW5.out.s10, HW5.out.s11, HW5.out.p0, HW5.out.p1, HW5.out.p2, HW5.out.p3, HW5.out.p4, HW5.out.p5, HW5.out.p6, HEX⟩) (fun hHeld => ?_)
  simp only [opsIn, List.filterMap_cons, List.filterMap_nil, List.getElem?_toArray, List.getElem?_cons_succ, List.getElem?_cons_zero]
  refine' text_chunk 2 (by kernel_rfl) hHeld ?ck5 ?cr5
  case ck5 =>
    intro W hSw
    have hSW := hSw
    try dsimp only at hSW
    clear hSw
    simp only [List.take_succ_cons, List.take_zero, List.drop_succ_cons, List.drop_zero]
    repeat (go_big_quiet_step (fail))
    exact wpQuiet_nil rfl
  simp only [List.take_succ_cons, List.take_zero, List.drop_succ_cons, List.drop_zero]
  refine text_call (by rfl) (by rfl) (fun K hK => ?_)
  go_simp
  (go_at_call 46; refine (log46 0 2 _).mono ?_; rintro e x5 ⟨rfl, hb5⟩)
  all_goals (try (go_wp2_with fail))
  refine hK.out _ _ (by exact HKP13.out _ _ hHeld hb5) (fun hHeld => ?_)
  clear hK K
  try simp only [Act.put, List.setIfInBounds_toArray, List.set_cons_zero, List.set_cons_succ]
  refine text_call (by rfl) (by rfl) (fun K hK => ?_)
  go_simp
  (go_at_call 46; refine (log46 2 6 _).mono ?_; rintro e x6 ⟨rfl, hb6⟩)
  all_goals (try (go_wp2_with fail))
  refine hK.out _ _ (by exact HKP13.out _ _ hHeld hb6) (fun hHeld => ?_)
  clear hK K
  try simp only [Act.put, List.setIfInBounds_toArray, List.set_cons_zero, List.set_cons_succ]
  refine text_call (by rfl) (by rfl) (fun K hK => ?_)
  go_simp
  all_goals (try (go_wp2_with fail))
  refine hK.out _ _ (by exact HKP13.out _ _ hHeld (Ext.alloc (Ext.refl _) _)) (fun hHeld => ?_)
  clear hK K
  try simp only [Act.put, List.setIfInBounds_toArray, List.set_cons_zero, List.set_cons_succ]
  refine text_call (by rfl) (by rfl) (fun K hK => ?_)
  go_simp
  (go_at_call 49; refine (logs49 _ _).mono ?_; rintro e x7 ⟨rfl, hb7⟩; have hl5 := Lib.hid ((ReadsLg.two x6 0 2 2 6).ext hb7))
  all_goals (try (go_wp2_with fail))
  refine hK.out _ _ (by exact HKP13.out _ _ hHeld hb7) (fun hHeld => ?_)
  clear hK K
  try simp only [Act.put, List.setIfInBounds_toArray, List.set_cons_zero, List.set_cons_succ]
  refine text_call (by rfl) (by rfl) (fun K hK => ?_)
  go_simp
  (go_at_call 24; refine (C24a.out _ _ hHeld.2.2.2.2.2.2.2.2.2.out hl5.out).mono ?_; rintro e x8 ⟨rfl, hb8⟩)
  all_goals (try (go_wp2_with fail))
  refine hK.out _ _ (by exact HKP13.out _ _ hHeld hb8) (fun hHeld => ?_)
  clear hK K
  try simp only [Act.put, List.setIfInBounds_toArray, List.set_cons_zero, List.set_cons_succ]
  refine' text_chunk 5 (by kernel_rfl) hHeld ?ck6 ?cr6
  case ck6 =>
    intro W hSw
    have hSW := hSw
    try dsimp only at hSW
    clear hSw
    simp only [List.take_succ_cons, List.take_zero, List.drop_succ_cons, List.drop_zero]
    repeat (go_big_quiet_step (fail))
    exact wpQuiet_nil rfl
  simp only [List.take_succ_cons, List.take_zero, List.drop_succ_cons, List.drop_zero]
  refine text_done ?_
  have HE3 := hHeld.2.2.2.2.2.2.2.2.2
  clear hHeld HEX HW5
  clear hb5 hb6 hb7 hb8 hl5
  go_wp2
  have HW6 := Lib.hid ((HW.out.ext HE3.out).ext (Ext.refl _).drew)
  have HEX := Lib.hid (HE3.out.drew)
  refine wp_region_order (fun X : World => X.cell? ⟨B, 0, none⟩ = some (.slice (some ⟨b1, 0, none⟩) 7 7) ∧ X.cell? ⟨B, 1, none⟩ = some (.slice none 0 0) ∧ X.cell? ⟨B + 1 + 1, 0, none⟩ = some (.int .i64 2) ∧ X.cell? ⟨B + 1 + 1, 1, none⟩ = some (.int .i64 4) ∧ X.cell? ⟨B + 1 + 1, 2, none⟩ = some (.int .i64 2) ∧ X.cell? ⟨B + 1 + 1, 3, none⟩ = some (.int .i64 0) ∧ X.cell? ⟨B + 1 + 1, 4, none⟩ = some (.int .i64 4) ∧ X.cell? ⟨B + 1 + 1, 5, none⟩ = some (.int .i64 4) ∧ X.cell? ⟨B + 1 + 1, 6, none⟩ = some (.int .i64 6) ∧ Hid (Ext W5 X)) [0, 1, 2, 3, 4, 5, 6, 7, 8, 9, 10, 11] (by kernel_rfl) (by kernel_rfl) (by exact ⟨HW6.out.s10, HW6.out.s11, HW6.out.p0, HW6.out.p1, HW6.out.p2, HW6.out.p3, HW6.out.p4, HW6.out.p5, HW6.out.p6, HEX⟩) (fun hHeld => ?_)
  simp only [opsIn, List.filterMap_cons, List.filterMap_nil, List.getElem?_toArray, List.getElem?_cons_succ, List.getElem?_cons_zero]
  refine' text_chunk 2 (by kernel_rfl) hHeld ?ck7 ?cr7
  case ck7 =>
    intro W hSw
    have hSW := hSw
    try dsimp only at hSW
    clear hSw
    simp only [List.take_succ_cons, List.take_zero, List.drop_succ_cons, List.drop_zero]
    repeat (go_big_quiet_step (fail))
    exact wpQuiet_nil rfl
  simp only [List.take_succ_cons, List.take_zero, List.drop_succ_cons, List.drop_zero]
  refine text_call (by rfl) (by rfl) (fun K hK => ?_)
  go_simp
  (go_at_call 46; refine (log46 0 4 _).mono ?_; rintro e x9 ⟨rfl, hb9⟩)
  all_goals (try (go_wp2_with fail))
  refine hK.out _ _ (by exact HKP13.out _ _ hHeld hb9) (fun hHeld => ?_)
  clear hK K
  try simp only [Act.put, List.setIfInBounds_toArray, List.set_cons_zero, List.set_cons_succ]
  refine text_call (by rfl) (by rfl) (fun K hK => ?_)
  go_simp
  (go_at_call 46; refine (log46 2 4 _).mono ?_; rintro e x10 ⟨rfl, hb10⟩)
  all_goals (try (go_wp2_with fail))
  refine hK.out _ _ (by exact HKP13.out _ _ hHeld hb10) (fun hHeld => ?_)
  clear hK K
  try simp only [Act.put, List.setIfInBounds_toArray, List.set_cons_zero, List.set_cons_succ]
  refine text_call (by rfl) (by rfl) (fun K hK => ?_)
  go_simp
  all_goals (try (go_wp2_with fail))
  refine hK.out _ _ (by exact HKP13.out _ _ hHeld (Ext.alloc (Ext.refl _) _)) (fun hHeld => ?_)
  clear hK K
  try simp only [Act.put, List.setIfInBounds_toArray, List.set_cons_zero, List.set_cons_succ]
  refine text_call (by rfl) (by rfl) (fun K hK => ?_)
  go_simp
  (go_at_call 49; refine (logs49 _ _).mono ?_; rintro e x11 ⟨rfl, hb11⟩; have hl9 := Lib.hid ((ReadsLg.two x10 0 4 2 4).ext hb11))
  all_goals (try (go_wp2_with fail))
  refine hK.out _ _ (by exact HKP13.out _ _ hHeld hb11) (fun hHeld => ?_)
  clear hK K
  try simp only [Act.put, List.setIfInBounds_toArray, List.set_cons_zero, List.set_cons_succ]
  refine text_call (by rfl) (by rfl) (fun K hK => ?_)
  go_simp
  (go_at_call 24; refine (C24b.out _ _ hHeld.2.2.2.2.2.2.2.2.2.out hl9.out).mono ?_; rintro e x12 ⟨rfl, hb12⟩)
  all_goals (try (go_wp2_with fail))
  refine hK.out _ _ (by exact HKP13.out _ _ hHeld hb12) (fun hHeld => ?_)
  clear hK K
  try simp only [Act.put, List.setIfInBounds_toArray, List.set_cons_zero, List.set_cons_succ]
  refine' text_chunk 5 (by kernel_rfl) hHeld ?ck8 ?cr8
  case ck8 =>
    intro W hSw
    have hSW := hSw
    try dsimp only at hSW
    clear hSw
    simp only [List.take_succ_cons, List.take_zero, List.drop_succ_cons, List.drop_zero]
    repeat (go_big_quiet_step (fail))
    exact wpQuiet_nil rfl
  simp only [List.take_succ_cons, List.take_zero, List.drop_succ_cons, List.drop_zero]
  refine text_done ?_
  have HE4 := hHeld.2.2.2.2.2.2.2.2.2
  clear hHeld HEX HW6
  clear hb9 hb10 hb11 hb12 hl9
  have ⟨s10, s11, s20, s21, p0, p1, p2, p3, p4, p5, p6, q0, q1, q2, q3, q4, q5, q6⟩ := HW.out.ext HE4.out
  go_wp2_with fail
  refine (C26.out _ HE4.out).mono ?_
  rintro e y4 ⟨rfl, hb⟩
  have HE5 := Lib.hid (HE4.out.trans hb)
  clear hb
  clear s10 s11 s20 s21 p0 p1 p2 p3 p4 p5 p6 q0 q1 q2 q3 q4 q5 q6
  have ⟨s10, s11, s20, s21, p0, p1, p2, p3, p4, p5, p6, q0, q1, q2, q3, q4, q5, q6⟩ := HW.out.ext HE5.out
  go_wp2_with fail
  refine (C28.out _ HE5.out).mono ?_
  rintro e y5 ⟨hb, ⟨hz, -⟩ | ⟨-, vc, cc, rfl, hrc, hcu, hsu⟩⟩
  · exact absurd rfl hz
  obtain ⟨-, ac, capc, rfl⟩ := hrc.shape
  obtain ⟨mc, hmc⟩ : ∃ m, m = (lgI cc).length := ⟨_, rfl⟩
  rw [← hmc] at hrc ⊢
  have HE6 := Lib.hid (HE5.out.trans hb)
  have HRC := Lib.hid hrc; have HCU := Lib.hid hcu; have HSU := Lib.hid hsu
  clear hb hrc hcu hsu hmc
  clear s10 s11 s20 s21 p0 p1 p2 p3 p4 p5 p6 q0 q1 q2 q3 q4 q5 q6
  have ⟨s10, s11, s20, s21, p0, p1, p2, p3, p4, p5, p6, q0, q1, q2, q3, q4, q5, q6⟩ := HW.out.ext HE6.out
  go_wp2_with fail
  refine (C31.out _ HE6.out).mono ?_
  rintro e y6 (⟨hz, -⟩ | ⟨-, bp, rfl, hrow⟩)
  · exact absurd rfl hz
  have hb := hrow.ext0
  have HRP := Lib.hid (show Reads y6 (.slice (some ⟨bp, 0, none⟩) 7 7) [24, 12, 12, 4, 4, 0, 0] from by have h9 := hrow; rw [show (7 : Nat) - 1 = 6 from rfl, w_row] at h9; exact h9.reads (by simp) rfl 7)
  have HE7 := Lib.hid (HE6.out.trans hb)
  have HRC := Lib.hid (HRC.out.ext hb)
  have HX := Lib.hid (Ext.refl y6)
  clear hb hrow
  clear s10 s11 s20 s21 p0 p1 p2 p3 p4 p5 p6 q0 q1 q2 q3 q4 q5 q6
  have ⟨s10, s11, s20, s21, p0, p1, p2, p3, p4, p5, p6, q0, q1, q2, q3, q4, q5, q6⟩ := HW.out.ext HE7.out
  have hrn := Lib.hid (Reads.new y6 [24, 12, 12, 4, 4, 0, 0] 2 y6.heap.size rfl (by simp) _ rfl 7 7 rfl)
  go_wp2_with fail
  refine (C29a.out _ _ (Ext.alloc HE7.out _) hrn.out).mono ?_
  rintro e y7 ⟨rfl, hb⟩
  have HE8 := Lib.hid ((Ext.alloc HE7.out _).trans hb)
  have HX := Lib.hid ((Ext.alloc HX.out _).trans hb)
  clear hb hrn
  clear s10 s11 s20 s21 p0 p1 p2 p3 p4 p5 p6 q0 q1 q2 q3 q4 q5 q6
  have ⟨s10, s11, s20, s21, p0, p1, p2, p3, p4, p5, p6, q0, q1, q2, q3, q4, q5, q6⟩ := HW.out.ext HE8.out
  have hrn := Lib.hid (Reads.new y7 [23, 12, 12, 4, 4, 0, 0] 2 y7.heap.size rfl (by simp) _ rfl 7 7 rfl)
  go_wp2_with fail
  refine (C29b.out _ _ (Ext.alloc HE8.out _) hrn.out).mono ?_
  rintro e y8 ⟨rfl, hb⟩
  have HE9 := Lib.hid ((Ext.alloc HE8.out _).trans hb)
  have HX := Lib.hid ((Ext.alloc HX.out _).trans hb)
  clear hb hrn
  clear s10 s11 s20 s21 p0 p1 p2 p3 p4 p5 p6 q0 q1 q2 q3 q4 q5 q6
  go_wp2
  have HKP3 := Lib.hid (show ∀ X X' : World, (fun X : World => X.cell? ⟨B + 1 + 1, 0, none⟩ = some (.int .i64 2) ∧ X.cell? ⟨B + 1 + 1, 1, none⟩ = some (.int .i64 4) ∧ X.cell? ⟨B + 1 + 1, 2, none⟩ = some (.int .i64 2) ∧ X.cell? ⟨B + 1 + 1, 3, none⟩ = some (.int .i64 0) ∧ X.cell? ⟨B + 1 + 1, 4, none⟩ = some (.int .i64 4) ∧ X.cell? ⟨B + 1 + 1, 5, none⟩ = some (.int .i64 4) ∧ X.cell? ⟨B + 1 + 1, 6, none⟩ = some (.int .i64 6) ∧ Hid (Ext y6 X)) X → Ext X X' → (fun X : World => X.cell? ⟨B + 1 + 1, 0, none⟩ = some (.int .i64 2) ∧ X.cell? ⟨B + 1 + 1, 1, none⟩ = some (.int .i64 4) ∧ X.cell? ⟨B + 1 + 1, 2, none⟩ = some (.int .i64 2) ∧ X.cell? ⟨B + 1 + 1, 3, none⟩ = some (.int .i64 0) ∧ X.cell? ⟨B + 1 + 1, 4, none⟩ = some (.int .i64 4) ∧ X.cell? ⟨B + 1 + 1, 5, none⟩ = some (.int .i64 4) ∧ X.cell? ⟨B + 1 + 1, 6, none⟩ = some (.int .i64 6) ∧ Hid (Ext y6 X)) X' from fun X X' h hb => ⟨cell_ext hb h.1, cell_ext hb h.2.1, cell_ext hb h.2.2.1, cell_ext hb h.2.2.2.1, cell_ext hb h.2.2.2.2.1, cell_ext hb h.2.2.2.2.2.1, cell_ext hb h.2.2.2.2.2.2.1, Lib.hid (Ext.trans h.2.2.2.2.2.2.2.out hb)⟩)
  have HW12 := Lib.hid ((HW.out.ext HE9.out).ext (Ext.refl _).drew)
  have HEX := Lib.hid (HX.out.drew)
  refine wp_region_order (fun X : World => X.cell? ⟨B + 1 + 1, 0, none⟩ = some (.int .i64 2) ∧ X.cell? ⟨B + 1 + 1, 1, none⟩ = some (.int .i64 4) ∧ X.cell? ⟨B + 1 + 1, 2, none⟩ = some (.int .i64 2) ∧ X.cell? ⟨B + 1 + 1, 3, none⟩ = some (.int .i64 0) ∧ X.cell? ⟨B + 1 + 1, 4, none⟩ = some (.int .i64 4) ∧ X.cell? ⟨B + 1 + 1, 5, none⟩ = some (.int .i64 4) ∧ X.cell? ⟨B + 1 + 1, 6, none⟩ = some (.int .i64 6) ∧ Hid (Ext y6 X)) [2, 0, 1, 3, 4, 5, 6, 7, 8] (by kernel_rfl) (by kernel_rfl) (by exact ⟨HW12.out.p0, HW12.out.p1, HW12.out.p2, HW12.out.p3, HW12.out.p4, HW12.out.p5, HW12.out.p6, HEX⟩) (fun hHeld => ?_)
  simp only [opsIn, List.filterMap_cons, List.filterMap_nil, List.getElem?_toArray, List.getElem?_cons_succ, List.getElem?_cons_zero]
  refine' text_chunk 1 (by kernel_rfl) hHeld ?ck9 ?cr9
  case ck9 =>
    intro W hSw
    have hSW := hSw
    try dsimp only at hSW
    clear hSw
    simp only [List.take_succ_cons, List.take_zero, List.drop_succ_cons, List.drop_zero]
    repeat (go_big_quiet_step (fail))
    exact wpQuiet_nil rfl
  simp only [List.take_succ_cons, List.take_zero, List.drop_succ_cons, List.drop_zero]
  refine text_call (by rfl) (by rfl) (fun K hK => ?_)
  go_simp
  all_goals (try (go_wp2_with fail))
  refine hK.out _ _ (by exact HKP3.out _ _ hHeld (Ext.alloc (Ext.refl _) _)) (fun hHeld => ?_)
  clear hK K
  try simp only [Act.put, List.setIfInBounds_toArray, List.set_cons_zero, List.set_cons_succ]
  refine text_call (by rfl) (by rfl) (fun K hK => ?_)
  go_simp
  (go_at_call 44; refine (stem44 _ _ _ _ _ rfl).mono ?_; rintro e z1 ⟨rfl, hbz1⟩; have hr8 := Lib.hid ((Reads.new y8 [8, 8, 8, 8, 8, 8] 2 y8.heap.size rfl (by simp) _ rfl 6 6 rfl).ext (Ext.ofDrew hbz1)))
  all_goals (try (go_wp2_with fail))
  refine hK.out _ _ (by exact HKP3.out _ _ hHeld hbz1) (fun hHeld => ?_)
  clear hK K
  try simp only [Act.put, List.setIfInBounds_toArray, List.set_cons_zero, List.set_cons_succ]
  refine text_call (by rfl) (by rfl) (fun K hK => ?_)
  go_simp
  (go_at_call 32; refine (C32.out _ _ (HE7.out.trans hHeld.2.2.2.2.2.2.2.out) hr8.out).mono ?_; rintro e z2 ⟨rfl, hbz2⟩)
  all_goals (try (go_wp2_with fail))
  refine hK.out _ _ (by exact HKP3.out _ _ hHeld hbz2) (fun hHeld => ?_)
  clear hK K
  try simp only [Act.put, List.setIfInBounds_toArray, List.set_cons_zero, List.set_cons_succ]
  refine' text_chunk 5 (by kernel_rfl) hHeld ?ck10 ?cr10
  case ck10 =>
    intro W hSw
    have hSW := hSw
    try dsimp only at hSW
    clear hSw
    simp only [List.take_succ_cons, List.take_zero, List.drop_succ_cons, List.drop_zero]
    repeat (go_big_quiet_step (fail))
    exact wpQuiet_nil rfl
  simp only [List.take_succ_cons, List.take_zero, List.drop_succ_cons, List.drop_zero]
  refine text_done ?_
  have HX := hHeld.2.2.2.2.2.2.2
  have HE10 := Lib.hid (HE7.out.trans HX.out)
  clear hHeld HEX HW12 hbz1 hbz2 hr8
  have ⟨s10, s11, s20, s21, p0, p1, p2, p3, p4, p5, p6, q0, q1, q2, q3, q4, q5, q6⟩ := HW.out.ext HE10.out
  go_wp2_with fail
  refine (C34.out _ HE10.out).mono ?_
  rintro e y10 ⟨rfl, hb⟩
  have HE11 := Lib.hid (HE10.out.trans hb)
  have HX := Lib.hid (HX.out.trans hb)
  clear hb
  clear s10 s11 s20 s21 p0 p1 p2 p3 p4 p5 p6 q0 q1 q2 q3 q4 q5 q6
  have ⟨s10, s11, s20, s21, p0, p1, p2, p3, p4, p5, p6, q0, q1, q2, q3, q4, q5, q6⟩ := HW.out.ext HE11.out
  go_wp2_with fail
  refine (C36.out _ HE11.out).mono ?_
  rintro e y11 ⟨rfl, hb⟩
  have HE12 := Lib.hid (HE11.out.trans hb)
  have HX := Lib.hid (HX.out.trans hb)
  clear hb
  clear s10 s11 s20 s21 p0 p1 p2 p3 p4 p5 p6 q0 q1 q2 q3 q4 q5 q6
  have ⟨s10, s11, s20, s21, p0, p1, p2, p3, p4, p5, p6, q0, q1, q2, q3, q4, q5, q6⟩ := HW.out.ext HE12.out
  go_wp2_with fail
  refine (C38.out _ HE12.out).mono ?_
  rintro e y12 ⟨rfl, hb⟩
  have HE13 := Lib.hid (Ext.alloc (HE12.out.trans hb) (.cells #[.int .i64 96, .int .i64 96] 53))
  have HX := Lib.hid (Ext.alloc (HX.out.trans hb) (.cells #[.int .i64 96, .int .i64 96] 53))
  have U0 := Lib.hid (show (y12.alloc (.cells #[.int .i64 96, .int .i64 96] 53)).cell? ⟨y12.heap.size, 0, none⟩ = some (.int .i64 96) from World.cell?_alloc_at _ _ _ _ rfl)
  have U1 := Lib.hid (show (y12.alloc (.cells #[.int .i64 96, .int .i64 96] 53)).cell? ⟨y12.heap.size, 1, none⟩ = some (.int .i64 96) from World.cell?_alloc_at _ _ _ _ rfl)
  clear hb
  clear s10 s11 s20 s21 p0 p1 p2 p3 p4 p5 p6 q0 q1 q2 q3 q4 q5 q6
  have ⟨s10, s11, s20, s21, p0, p1, p2, p3, p4, p5, p6, q0, q1, q2, q3, q4, q5, q6⟩ := HW.out.ext HE13.out
  go_wp2_with fail
  refine (C25.out _ _ _ HE13.out (HRC.out.ext HX.out) HCU.out HSU.out).mono ?_
  rintro e y13 ⟨rfl, hb⟩
  have HE14 := Lib.hid (HE13.out.trans hb)
  have HX := Lib.hid (HX.out.trans hb)
  have U0 := Lib.hid (cell_ext hb U0.out); have U1 := Lib.hid (cell_ext hb U1.out)
  clear hb
  clear s10 s11 s20 s21 p0 p1 p2 p3 p4 p5 p6 q0 q1 q2 q3 q4 q5 q6
  have ⟨s10, s11, s20, s21, p0, p1, p2, p3, p4, p5, p6, q0, q1, q2, q3, q4, q5, q6⟩ := HW.out.ext HE14.out
  go_wp2_with fail
  refine (C30.out _ _ HE14.out (HRP.out.ext HX.out)).mono ?_
  rintro e y14 ⟨rfl, hb⟩
  have HE15 := Lib.hid (HE14.out.trans hb)
  have u0 := cell_ext hb U0.out; have u1 := cell_ext hb U1.out
  clear hb
  clear s10 s11 s20 s21 p0 p1 p2 p3 p4 p5 p6 q0 q1 q2 q3 q4 q5 q6
  go_wp2
  go_ret
  exact ⟨rfl, HEW.out.trans HE15.out⟩
end Go.Proofs.Ytcgheakadfjofaa
namespace Go.Proofs.Ytcgheakadfjofaa
open Go.RowKit Go.Shelf
set_option linter.unusedVariables false
set_option linter.unusedSimpArgs false
attribute [local go_sem] Oper.semAt_some
theorem k_feet1 : feetE thW [] (rW 4) 0 4 = (16, 0) := by kernel_rfl
theorem k_feet2 : feetE thW [] (rW 4) 0 3 = (0, 18) := by kernel_rfl
theorem k_pr : prE thW [] (rW 4) [30, 30, 30, 30, 30, 30, 30] = (0, 14) := by kernel_rfl
theorem k_count1 : countE thW [] (rW 4) = (1, 0) := by kernel_rfl
theorem k_count2 : countE thW [3] (rW 4) = (1, 0) := by kernel_rfl
theorem k_kind1 : kindE thW [] (rW 4) 3 = (0, 0) := by kernel_rfl
theorem k_kind2 : kindE thW [3] (rW 4) 4 = (2, 0) := by kernel_rfl
theorem k_kind3 : kindE thW [3] (rW 4) 3 = (0, 0) := by kernel_rfl
theorem k_kind4 : kindE [8, 8, 8, 8, 8, 8] [] (rW 4) 2 = (1, 0) := by kernel_rfl
theorem k_loss : lossE thW [] (rW 4) 2 = (0, 0) := by kernel_rfl
theorem k_btw : betweenE thW [] (rW 4) (rW 4) = ((24, 24), 0) := by kernel_rfl
structure KnAt (X : World) (B b1 b2 b8 : Nat) : Prop where
  s10 : X.cell? ⟨B, 0, none⟩ = some (.slice (some ⟨b1, 0, none⟩) 7 7)
  s11 : X.cell? ⟨B, 1, none⟩ = some (.slice none 0 0)
  s20 : X.cell? ⟨B + 1, 0, none⟩ = some (.slice (some ⟨b2, 0, none⟩) 7 7)
  s21 : X.cell? ⟨B + 1, 1, none⟩ = some (.slice (some ⟨B + 1 + 1 + 1 + 1, 0, none⟩) 1 1)
  s30 : X.cell? ⟨B + 1 + 1, 0, none⟩ = some (.slice (some ⟨b8, 0, none⟩) 6 6)
  s31 : X.cell? ⟨B + 1 + 1, 1, none⟩ = some (.slice none 0 0)
  p0 : X.cell? ⟨B + 1 + 1 + 1, 0, none⟩ = some (.int .i64 2)
  p1 : X.cell? ⟨B + 1 + 1 + 1, 1, none⟩ = some (.int .i64 4)
  p2 : X.cell? ⟨B + 1 + 1 + 1, 2, none⟩ = some (.int .i64 2)
  p3 : X.cell? ⟨B + 1 + 1 + 1, 3, none⟩ = some (.int .i64 0)
  p4 : X.cell? ⟨B + 1 + 1 + 1, 4, none⟩ = some (.int .i64 4)
  p5 : X.cell? ⟨B + 1 + 1 + 1, 5, none⟩ = some (.int .i64 4)
  p6 : X.cell? ⟨B + 1 + 1 + 1, 6, none⟩ = some (.int .i64 6)
theorem KnAt.ext {X Y : World} {B b1 b2 b8 : Nat} (h : KnAt X B b1 b2 b8) (hb : Ext X Y) : KnAt Y B b1 b2 b8 := ⟨cell_ext hb h.s10, cell_ext hb h.s11, cell_ext hb h.s20, cell_ext hb h.s21, cell_ext hb h.s30, cell_ext hb h.s31, cell_ext hb h.p0, cell_ext hb h.p1, cell_ext hb h.p2, cell_ext hb h.p3, cell_ext hb h.p4, cell_ext hb h.p5, cell_ext hb h.p6⟩
set_option maxRecDepth 100000 in
set_option maxHeartbeats 16000000 in
theorem known15 (w : World) : Calls Try.prog 15 #[] w fun e w' => e = .returned (.bool true) ∧ Ext w w' := by
  go_enter Try.func15, Try.ntmps15
  go_wp2_with fail
  refine (stem47 _).mono ?_
  rintro e w1 ⟨⟨b1, rfl, hr1⟩, hb1⟩
  have HR1 := Lib.hid hr1; have HB1 := Lib.hid hb1
  clear hr1 hb1
  go_wp2_with fail
  refine (stem47 _).mono ?_
  rintro e w2 ⟨⟨b2, rfl, hr2⟩, hb2⟩
  have HR2 := Lib.hid hr2; have HB2 := Lib.hid hb2
  clear hr2 hb2
  have HR8 := Lib.hid (Reads.new w2 [8, 8, 8, 8, 8, 8] 2 w2.heap.size rfl (by simp) _ rfl 6 6 rfl)
  go_wp2_with fail
  refine (stem44 _ _ _ _ _ rfl).mono ?_
  rintro e w3 ⟨rfl, hb3⟩
  have HB3 := Lib.hid ((Ext.alloc (Ext.refl w2) _).trans hb3)
  have HR8 := Lib.hid (HR8.out.ext hb3)
  clear hb3
  obtain ⟨b8, hb8⟩ : ∃ b8, b8 = w2.heap.size := ⟨_, rfl⟩
  rw [← hb8] at HR8 ⊢
  clear hb8
  go_wp2_with fail
  refine (rule48 4 _).mono ?_
  rintro e w4 ⟨rfl, hb4⟩
  have HB4 := Lib.hid hb4
  clear hb4
  go_wp2
  obtain ⟨B, hB⟩ : ∃ B, B = w4.heap.size := ⟨_, rfl⟩
  rw [← hB]
  have hE5 : Ext w4 (((((w4.alloc (.cells #[.slice (some ⟨b1, 0, none⟩) 7 7, .slice none 0 0] 25)).alloc (.cells #[.slice (some ⟨b2, 0, none⟩) 7 7, .slice (some ⟨B + 1 + 1 + 1 + 1, 0, none⟩) 1 1] 25)).alloc (.cells #[.slice (some ⟨b8, 0, none⟩) 6 6, .slice none 0 0] 25)).alloc (.cells #[.int .i64 2, .int .i64 4, .int .i64 2, .int .i64 0, .int .i64 4, .int .i64 4, .int .i64 6] 27)).alloc (.cells #[.int .i64 3] 3)) := Ext.alloc (Ext.alloc (Ext.alloc (Ext.alloc (Ext.alloc (Ext.refl w4) _) _) _) _) _
  have hw5 : KnAt (((((w4.alloc (.cells #[.slice (some ⟨b1, 0, none⟩) 7 7, .slice none 0 0] 25)).alloc (.cells #[.slice (some ⟨b2, 0, none⟩) 7 7, .slice (some ⟨B + 1 + 1 + 1 + 1, 0, none⟩) 1 1] 25)).alloc (.cells #[.slice (some ⟨b8, 0, none⟩) 6 6, .slice none 0 0] 25)).alloc (.cells #[.int .i64 2, .int .i64 4, .int .i64 2, .int .i64 0, .int .i64 4, .int .i64 4, .int .i64 6] 27)).alloc (.cells #[.int .i64 3] 3)) B b1 b2 b8 := by
    rw [hB]
    constructor
    iterate 2 exact cell_ext (Ext.alloc (Ext.alloc (Ext.alloc (Ext.alloc (Ext.refl _) _) _) _) _) (World.cell?_alloc_at _ _ _ _ (by simp))
    iterate 2 exact cell_ext (Ext.alloc (Ext.alloc (Ext.alloc (Ext.refl _) _) _) _) (World.cell?_alloc_at _ _ _ _ (by simp))
    iterate 2 exact cell_ext (Ext.alloc (Ext.alloc (Ext.refl _) _) _) (World.cell?_alloc_at _ _ _ _ (by simp))
    iterate 7 exact cell_ext (Ext.alloc (Ext.refl _) _) (World.cell?_alloc_at _ _ _ _ (by simp))
  have hr3 : Reads (((((w4.alloc (.cells #[.slice (some ⟨b1, 0, none⟩) 7 7, .slice none 0 0] 25)).alloc (.cells #[.slice (some ⟨b2, 0, none⟩) 7 7, .slice (some ⟨B + 1 + 1 + 1 + 1, 0, none⟩) 1 1] 25)).alloc (.cells #[.slice (some ⟨b8, 0, none⟩) 6 6, .slice none 0 0] 25)).alloc (.cells #[.int .i64 2, .int .i64 4, .int .i64 2, .int .i64 0, .int .i64 4, .int .i64 4, .int .i64 6] 27)).alloc (.cells #[.int .i64 3] 3)) (.slice (some ⟨B + 1 + 1 + 1 + 1, 0, none⟩) 1 1) [3] := Reads.new _ [3] 3 (B + 1 + 1 + 1 + 1) (by rw [hB]; simp) (by simp) _ rfl 1 1 rfl
  obtain ⟨W5, hW5⟩ : ∃ W5, (((((w4.alloc (.cells #[.slice (some ⟨b1, 0, none⟩) 7 7, .slice none 0 0] 25)).alloc (.cells #[.slice (some ⟨b2, 0, none⟩) 7 7, .slice (some ⟨B + 1 + 1 + 1 + 1, 0, none⟩) 1 1] 25)).alloc (.cells #[.slice (some ⟨b8, 0, none⟩) 6 6, .slice none 0 0] 25)).alloc (.cells #[.int .i64 2, .int .i64 4, .int .i64 2, .int .i64 0, .int .i64 4, .int .i64 4, .int .i64 6] 27)).alloc (.cells #[.int .i64 3] 3)) = W5 := ⟨_, rfl⟩
  rw [hW5] at hE5 hw5 hr3 ⊢
  clear hW5
  have HR1 := Lib.hid (HR1.out.ext (HB2.out.trans (HB3.out.trans (HB4.out.trans hE5))))
  have HR2 := Lib.hid (HR2.out.ext (HB3.out.trans (HB4.out.trans hE5)))
  have HR8 := Lib.hid (HR8.out.ext (HB4.out.trans hE5))
  have HR3 := Lib.hid hr3; have HW := Lib.hid hw5
  have HEW := Lib.hid (HB1.out.trans (HB2.out.trans (HB3.out.trans (HB4.out.trans hE5))))
  have HE0 := Lib.hid (Ext.refl W5)
  clear hE5 hw5 hr3 hB HB1 HB2 HB3 HB4
  have C18a := Lib.hid (show ∀ X : World, Ext W5 X → Calls Try.prog 18 #[.agg #[.slice (some ⟨b1, 0, none⟩) 7 7, .slice none 0 0], .agg #[.int .i64 2, .int .i64 4, .int .i64 2, .int .i64 0, .int .i64 4, .int .i64 4, .int .i64 6], .agg #[.int .i64 0, .int .i64 4]] X fun e w' => e = .returned (.tuple #[.int .i64 16, .int .i64 0]) ∧ Ext X w' from fun X h => by
    have := feet18 (.slice (some ⟨b1, 0, none⟩) 7 7) (.slice none 0 0) thW [] (rW 4) 0 4 X (HR1.out.ext h) (Reads.nil _)
    rw [k_feet1] at this
    exact this)
  have C18b := Lib.hid (show ∀ X : World, Ext W5 X → Calls Try.prog 18 #[.agg #[.slice (some ⟨b1, 0, none⟩) 7 7, .slice none 0 0], .agg #[.int .i64 2, .int .i64 4, .int .i64 2, .int .i64 0, .int .i64 4, .int .i64 4, .int .i64 6], .agg #[.int .i64 0, .int .i64 3]] X fun e w' => e = .returned (.tuple #[.int .i64 0, .int .i64 18]) ∧ Ext X w' from fun X h => by
    have := feet18 (.slice (some ⟨b1, 0, none⟩) 7 7) (.slice none 0 0) thW [] (rW 4) 0 3 X (HR1.out.ext h) (Reads.nil _)
    rw [k_feet2] at this
    exact this)
  have C26 := Lib.hid (show ∀ X : World, Ext W5 X → Calls Try.prog 26 #[.agg #[.slice (some ⟨b1, 0, none⟩) 7 7, .slice none 0 0], .agg #[.int .i64 2, .int .i64 4, .int .i64 2, .int .i64 0, .int .i64 4, .int .i64 4, .int .i64 6]] X fun e w' => e = .returned (.tuple #[.int .i64 24, .int .i64 0]) ∧ Ext X w' from fun X h => by
    have := best26 (.slice (some ⟨b1, 0, none⟩) 7 7) (.slice none 0 0) thW [] (rW 4) X (HR1.out.ext h) (Reads.nil _)
    rw [w_both, if_pos rfl, show thW.length - 1 = 6 from rfl, w_best0] at this
    exact this)
  have C29 := Lib.hid (show ∀ (X : World) (v : Value), Ext W5 X → Reads X v [30, 30, 30, 30, 30, 30, 30] → Calls Try.prog 29 #[.agg #[.slice (some ⟨b1, 0, none⟩) 7 7, .slice none 0 0], .agg #[.int .i64 2, .int .i64 4, .int .i64 2, .int .i64 0, .int .i64 4, .int .i64 4, .int .i64 6], v] X fun e w' => e = .returned (.tuple #[.int .i64 0, .int .i64 14]) ∧ Ext X w' from fun X v h h2 => by
    have := prices29 (.slice (some ⟨b1, 0, none⟩) 7 7) (.slice none 0 0) v thW [] [30, 30, 30, 30, 30, 30, 30] (rW 4) X (HR1.out.ext h) (Reads.nil _) h2
    rw [k_pr] at this
    exact this)
  have C32a := Lib.hid (show ∀ X : World, Ext W5 X → Calls Try.prog 32 #[.agg #[.slice (some ⟨b1, 0, none⟩) 7 7, .slice none 0 0], .agg #[.int .i64 2, .int .i64 4, .int .i64 2, .int .i64 0, .int .i64 4, .int .i64 4, .int .i64 6]] X fun e w' => e = .returned (.tuple #[.int .i64 1, .int .i64 0]) ∧ Ext X w' from fun X h => by
    have := count32 (.slice (some ⟨b1, 0, none⟩) 7 7) (.slice none 0 0) thW [] (rW 4) X (HR1.out.ext h) (Reads.nil _)
    rw [k_count1] at this
    exact this)
  have C32b := Lib.hid (show ∀ X : World, Ext W5 X → Calls Try.prog 32 #[.agg #[.slice (some ⟨b2, 0, none⟩) 7 7, .slice (some ⟨B + 1 + 1 + 1 + 1, 0, none⟩) 1 1], .agg #[.int .i64 2, .int .i64 4, .int .i64 2, .int .i64 0, .int .i64 4, .int .i64 4, .int .i64 6]] X fun e w' => e = .returned (.tuple #[.int .i64 1, .int .i64 0]) ∧ Ext X w' from fun X h => by
    have := count32 (.slice (some ⟨b2, 0, none⟩) 7 7) (.slice (some ⟨B + 1 + 1 + 1 + 1, 0, none⟩) 1 1) thW [3] (rW 4) X (HR2.out.ext h) (HR3.out.ext h)
    rw [k_count2] at this
    exact this)
  have C34a := Lib.hid (show ∀ X : World, Ext W5 X → Calls Try.prog 34 #[.agg #[.slice (some ⟨b1, 0, none⟩) 7 7, .slice none 0 0], .agg #[.int .i64 2, .int .i64 4, .int .i64 2, .int .i64 0, .int .i64 4, .int .i64 4, .int .i64 6], .int .i64 3] X fun e w' => e = .returned (.tuple #[.int .i64 0, .int .i64 0]) ∧ Ext X w' from fun X h => by
    have := kind34 (some ⟨b1, 0, none⟩) 7 7 (.slice none 0 0) thW [] (rW 4) 3 X (HR1.out.ext h) (Reads.nil _)
    rw [k_kind1] at this
    exact this)
  have C34b := Lib.hid (show ∀ X : World, Ext W5 X → Calls Try.prog 34 #[.agg #[.slice (some ⟨b2, 0, none⟩) 7 7, .slice (some ⟨B + 1 + 1 + 1 + 1, 0, none⟩) 1 1], .agg #[.int .i64 2, .int .i64 4, .int .i64 2, .int .i64 0, .int .i64 4, .int .i64 4, .int .i64 6], .int .i64 4] X fun e w' => e = .returned (.tuple #[.int .i64 2, .int .i64 0]) ∧ Ext X w' from fun X h => by
    have := kind34 (some ⟨b2, 0, none⟩) 7 7 (.slice (some ⟨B + 1 + 1 + 1 + 1, 0, none⟩) 1 1) thW [3] (rW 4) 4 X (HR2.out.ext h) (HR3.out.ext h)
    rw [k_kind2] at this
    exact this)
  have C34c := Lib.hid (show ∀ X : World, Ext W5 X → Calls Try.prog 34 #[.agg #[.slice (some ⟨b2, 0, none⟩) 7 7, .slice (some ⟨B + 1 + 1 + 1 + 1, 0, none⟩) 1 1], .agg #[.int .i64 2, .int .i64 4, .int .i64 2, .int .i64 0, .int .i64 4, .int .i64 4, .int .i64 6], .int .i64 3] X fun e w' => e = .returned (.tuple #[.int .i64 0, .int .i64 0]) ∧ Ext X w' from fun X h => by
    have := kind34 (some ⟨b2, 0, none⟩) 7 7 (.slice (some ⟨B + 1 + 1 + 1 + 1, 0, none⟩) 1 1) thW [3] (rW 4) 3 X (HR2.out.ext h) (HR3.out.ext h)
    rw [k_kind3] at this
    exact this)
  have C34d := Lib.hid (show ∀ X : World, Ext W5 X → Calls Try.prog 34 #[.agg #[.slice (some ⟨b8, 0, none⟩) 6 6, .slice none 0 0], .agg #[.int .i64 2, .int .i64 4, .int .i64 2, .int .i64 0, .int .i64 4, .int .i64 4, .int .i64 6], .int .i64 2] X fun e w' => e = .returned (.tuple #[.int .i64 1, .int .i64 0]) ∧ Ext X w' from fun X h => by
    have := kind34 (some ⟨b8, 0, none⟩) 6 6 (.slice none 0 0) [8, 8, 8, 8, 8, 8] [] (rW 4) 2 X (HR8.out.ext h) (Reads.nil _)
    rw [k_kind4] at this
    exact this)
  have C36 := Lib.hid (show ∀ X : World, Ext W5 X → Calls Try.prog 36 #[.agg #[.slice (some ⟨b1, 0, none⟩) 7 7, .slice none 0 0], .agg #[.int .i64 2, .int .i64 4, .int .i64 2, .int .i64 0, .int .i64 4, .int .i64 4, .int .i64 6], .int .i64 2] X fun e w' => e = .returned (.tuple #[.int .i64 0, .int .i64 0]) ∧ Ext X w' from fun X h => by
    have := loss36 (some ⟨b1, 0, none⟩) 7 7 (.slice none 0 0) thW [] (rW 4) 2 X (HR1.out.ext h) (by omega) (Reads.nil _)
    rw [k_loss] at this
    exact this)
  have C38 := Lib.hid (show ∀ X : World, Ext W5 X → Calls Try.prog 38 #[.agg #[.slice (some ⟨b1, 0, none⟩) 7 7, .slice none 0 0], .agg #[.int .i64 2, .int .i64 4, .int .i64 2, .int .i64 0, .int .i64 4, .int .i64 4, .int .i64 6], .agg #[.int .i64 2, .int .i64 4, .int .i64 2, .int .i64 0, .int .i64 4, .int .i64 4, .int .i64 6]] X fun e w' => e = .returned (.tuple #[.agg #[.int .i64 24, .int .i64 24], .int .i64 0]) ∧ Ext X w' from fun X h => by
    have := between38 (.slice (some ⟨b1, 0, none⟩) 7 7) (.slice none 0 0) thW [] (rW 4) (rW 4) X (HR1.out.ext h) (Reads.nil _)
    rw [k_btw] at this
    exact this)
  have HKP13 := Lib.hid (show ∀ X X' : World, (fun X : World => X.cell? ⟨B, 0, none⟩ = some (.slice (some ⟨b1, 0, none⟩) 7 7) ∧ X.cell? ⟨B, 1, none⟩ = some (.slice none 0 0) ∧ X.cell? ⟨B + 1 + 1 + 1, 0, none⟩ = some (.int .i64 2) ∧ X.cell? ⟨B + 1 + 1 + 1, 1, none⟩ = some (.int .i64 4) ∧ X.cell? ⟨B + 1 + 1 + 1, 2, none⟩ = some (.int .i64 2) ∧ X.cell? ⟨B + 1 + 1 + 1, 3, none⟩ = some (.int .i64 0) ∧ X.cell? ⟨B + 1 + 1 + 1, 4, none⟩ = some (.int .i64 4) ∧ X.cell? ⟨B + 1 + 1 + 1, 5, none⟩ = some (.int .i64 4) ∧ X.cell? ⟨B + 1 + 1 + 1, 6, none⟩ = some (.int .i64 6) ∧ Hid (Ext W5 X)) X → Ext X X' → (fun X : World => X.cell? ⟨B, 0, none⟩ = some (.slice (some ⟨b1, 0, none⟩) 7 7) ∧ X.cell? ⟨B, 1, none⟩ = some (.slice none 0 0) ∧ X.cell? ⟨B + 1 + 1 + 1, 0, none⟩ = some (.int .i64 2) ∧ X.cell? ⟨B + 1 + 1 + 1, 1, none⟩ = some (.int .i64 4) ∧ X.cell? ⟨B + 1 + 1 + 1, 2, none⟩ = some (.int .i64 2) ∧ X.cell? ⟨B + 1 + 1 + 1, 3, none⟩ = some (.int .i64 0) ∧ X.cell? ⟨B + 1 + 1 + 1, 4, none⟩ = some (.int .i64 4) ∧ X.cell? ⟨B + 1 + 1 + 1, 5, none⟩ = some (.int .i64 4) ∧ X.cell? ⟨B + 1 + 1 + 1, 6, none⟩ = some (.int .i64 6) ∧ Hid (Ext W5 X)) X' from fun X X' h hb => ⟨cell_ext hb h.1, cell_ext hb h.2.1, cell_ext hb h.2.2.1, cell_ext hb h.2.2.2.1, cell_ext hb h.2.2.2.2.1, cell_ext hb h.2.2.2.2.2.1, cell_ext hb h.2.2.2.2.2.2.1, cell_ext hb h.2.2.2.2.2.2.2.1, cell_ext hb h.2.2.2.2.2.2.2.2.1, Lib.hid (Ext.trans h.2.2.2.2.2.2.2.2.2.out hb)⟩)
  have HW3 := Lib.hid ((HW.out.ext HE0.out).ext (Ext.refl _).drew)
  have HEX := Lib.hid (HE0.out.drew)
  refine wp_region_order (fun X : World => X.cell? ⟨B, 0, none⟩ = some (.slice (some ⟨b1, 0, none⟩) 7 7) ∧ X.cell? ⟨B, 1, none⟩ = some (.slice none 0 0) ∧ X.cell? ⟨B + 1 + 1 + 1, 0, none⟩ = some (.int .i64 2) ∧ X.cell? ⟨B + 1 + 1 + 1, 1, none⟩ = some (.int .i64 4) ∧ X.cell? ⟨B + 1 + 1 + 1, 2, none⟩ = some (.int .i64 2) ∧ X.cell? ⟨B + 1 + 1 + 1, 3, none⟩ = some (.int .i64 0) ∧ X.cell? ⟨B + 1 + 1 + 1, 4, none⟩ = some (.int .i64 4) ∧ X.cell? ⟨B + 1 + 1 + 1, 5, none⟩ = some (.int .i64 4) ∧ X.cell? ⟨B + 1 + 1 + 1, 6, none⟩ = some (.int .i64 6) ∧ Hid (Ext W5 X)) [0, 1, 2, 3, 4, 5, 6, 7, 8] (by kernel_rfl) (by kernel_rfl) (by exact ⟨HW3.out.s10, HW3.out.s11, HW3.out.p0, HW3.out.p1, HW3.out.p2, HW3.out.p3, HW3.out.p4, HW3.out.p5, HW3.out.p6, HEX⟩) (fun hHeld => ?_)
  simp only [opsIn, List.filterMap_cons, List.filterMap_nil, List.getElem?_toArray, List.getElem?_cons_succ, List.getElem?_cons_zero]
  refine' text_chunk 2 (by kernel_rfl) hHeld ?ck1 ?cr1
  case ck1 =>
    intro W hSw
    have hSW := hSw
    try dsimp only at hSW
    clear hSw
    simp only [List.take_succ_cons, List.take_zero, List.drop_succ_cons, List.drop_zero]
    repeat (go_big_quiet_step (fail))
    exact wpQuiet_nil rfl
  simp only [List.take_succ_cons, List.take_zero, List.drop_succ_cons, List.drop_zero]
  refine text_call (by rfl) (by rfl) (fun K hK => ?_)
  go_simp
  (go_at_call 46; refine (log46 0 4 _).mono ?_; rintro e x1 ⟨rfl, hb1⟩)
  all_goals (try (go_wp2_with fail))
  refine hK.out _ _ (by exact HKP13.out _ _ hHeld hb1) (fun hHeld => ?_)
  clear hK K
  try simp only [Act.put, List.setIfInBounds_toArray, List.set_cons_zero, List.set_cons_succ]
  refine text_call (by rfl) (by rfl) (fun K hK => ?_)
  go_simp
  (go_at_call 18; refine (C18a.out _ hHeld.2.2.2.2.2.2.2.2.2.out).mono ?_; rintro e x2 ⟨rfl, hb2⟩)
  all_goals (try (go_wp2_with fail))
  refine hK.out _ _ (by exact HKP13.out _ _ hHeld hb2) (fun hHeld => ?_)
  clear hK K
  try simp only [Act.put, List.setIfInBounds_toArray, List.set_cons_zero, List.set_cons_succ]
  refine' text_chunk 5 (by kernel_rfl) hHeld ?ck2 ?cr2
  case ck2 =>
    intro W hSw
    have hSW := hSw
    try dsimp only at hSW
    clear hSw
    simp only [List.take_succ_cons, List.take_zero, List.drop_succ_cons, List.drop_zero]
    repeat (go_big_quiet_step (fail))
    exact wpQuiet_nil rfl
  simp only [List.take_succ_cons, List.take_zero, List.drop_succ_cons, List.drop_zero]
  refine text_done ?_
  have HE1 := hHeld.2.2.2.2.2.2.2.2.2
  clear hHeld HEX HW3
  clear hb1 hb2
  go_wp2
  have HW4 := Lib.hid ((HW.out.ext HE1.out).ext (Ext.refl _).drew)
  have HEX := Lib.hid (HE1.out.drew)
  refine wp_region_order (fun X : World => X.cell? ⟨B, 0, none⟩ = some (.slice (some ⟨b1, 0, none⟩) 7 7) ∧ X.cell? ⟨B, 1, none⟩ = some (.slice none 0 0) ∧ X.cell? ⟨B + 1 + 1 + 1, 0, none⟩ = some (.int .i64 2) ∧ X.cell? ⟨B + 1 + 1 + 1, 1, none⟩ = some (.int .i64 4) ∧ X.cell? ⟨B + 1 + 1 + 1, 2, none⟩ = some (.int .i64 2) ∧ X.cell? ⟨B + 1 + 1 + 1, 3, none⟩ = some (.int .i64 0) ∧ X.cell? ⟨B + 1 + 1 + 1, 4, none⟩ = some (.int .i64 4) ∧ X.cell? ⟨B + 1 + 1 + 1, 5, none⟩ = some (.int .i64 4) ∧ X.cell? ⟨B + 1 + 1 + 1, 6, none⟩ = some (.int .i64 6) ∧ Hid (Ext W5 X)) [0, 1, 2, 3, 4, 5, 6, 7, 8] (by kernel_rfl) (by kernel_rfl) (by exact ⟨HW4.out.s10, HW4.out.s11, HW4.out.p0, HW4.out.p1, HW4.out.p2, HW4.out.p3, HW4.out.p4, HW4.out.p5, HW4.out.p6, HEX⟩) (fun hHeld => ?_)
  simp only [opsIn, List.filterMap_cons, List.filterMap_nil, List.getElem?_toArray, List.getElem?_cons_succ, List.getElem?_cons_zero]
  refine' text_chunk 2 (by kernel_rfl) hHeld ?ck3 ?cr3
  case ck3 =>
    intro W hSw
    have hSW := hSw
    try dsimp only at hSW
    clear hSw
    simp only [List.take_succ_cons, List.take_zero, List.drop_succ_cons, List.drop_zero]
    repeat (go_big_quiet_step (fail))
    exact wpQuiet_nil rfl
  simp only [List.take_succ_cons, List.take_zero, List.drop_succ_cons, List.drop_zero]
  refine text_call (by rfl) (by rfl) (fun K hK => ?_)
  go_simp
  (go_at_call 46; refine (log46 0 3 _).mono ?_; rintro e x3 ⟨rfl, hb3⟩)
  all_goals (try (go_wp2_with fail))
  refine hK.out _ _ (by exact HKP13.out _ _ hHeld hb3) (fun hHeld => ?_)
  clear hK K
  try simp only [Act.put, List.setIfInBounds_toArray, List.set_cons_zero, List.set_cons_succ]
  refine text_call (by rfl) (by rfl) (fun K hK => ?_)
  go_simp
  (go_at_call 18; refine (C18b.out _ hHeld.2.2.2.2.2.2.2.2.2.out).mono ?_; rintro e x4 ⟨rfl, hb4⟩)
  all_goals (try (go_wp2_with fail))
  refine hK.out _ _ (by exact HKP13.out _ _ hHeld hb4) (fun hHeld => ?_)
  clear hK K
  try simp only [Act.put, List.setIfInBounds_toArray, List.set_cons_zero, List.set_cons_succ]
  refine' text_chunk 5 (by kernel_rfl) hHeld ?ck4 ?cr4
  case ck4 =>
    intro W hSw
    have hSW := hSw
    try dsimp only at hSW
    clear hSw
    simp only [List.take_succ_cons, List.take_zero, List.drop_succ_cons, List.drop_zero]
    repeat (go_big_quiet_step (fail))
    exact wpQuiet_nil rfl
  simp only [List.take_succ_cons, List.take_zero, List.drop_succ_cons, List.drop_zero]
  refine text_done ?_
  have HE2 := hHeld.2.2.2.2.2.2.2.2.2
  clear hHeld HEX HW4
  clear hb3 hb4
  have ⟨s10, s11, s20, s21, s30, s31, p0, p1, p2, p3, p4, p5, p6⟩ := HW.out.ext HE2.out
  go_wp2_with fail
  refine (C26.out _ HE2.out).mono ?_
  rintro e y2 ⟨rfl, hb⟩
  have HE3 := Lib.hid (HE2.out.trans hb)
  clear hb
  clear s10 s11 s20 s21 s30 s31 p0 p1 p2 p3 p4 p5 p6
  have ⟨s10, s11, s20, s21, s30, s31, p0, p1, p2, p3, p4, p5, p6⟩ := HW.out.ext HE3.out
  have hrn := Lib.hid (Reads.new y2 [30, 30, 30, 30, 30, 30, 30] 2 y2.heap.size rfl (by simp) _ rfl 7 7 rfl)
  go_wp2_with fail
  refine (C29.out _ _ (Ext.alloc HE3.out _) hrn.out).mono ?_
  rintro e y3 ⟨rfl, hb⟩
  have HE4 := Lib.hid ((Ext.alloc HE3.out _).trans hb)
  clear hb hrn
  clear s10 s11 s20 s21 s30 s31 p0 p1 p2 p3 p4 p5 p6
  have ⟨s10, s11, s20, s21, s30, s31, p0, p1, p2, p3, p4, p5, p6⟩ := HW.out.ext HE4.out
  go_wp2_with fail
  refine (C32a.out _ HE4.out).mono ?_
  rintro e y4 ⟨rfl, hb⟩
  have HE5 := Lib.hid (HE4.out.trans hb)
  clear hb
  clear s10 s11 s20 s21 s30 s31 p0 p1 p2 p3 p4 p5 p6
  have ⟨s10, s11, s20, s21, s30, s31, p0, p1, p2, p3, p4, p5, p6⟩ := HW.out.ext HE5.out
  go_wp2_with fail
  refine (C32b.out _ HE5.out).mono ?_
  rintro e y5 ⟨rfl, hb⟩
  have HE6 := Lib.hid (HE5.out.trans hb)
  clear hb
  clear s10 s11 s20 s21 s30 s31 p0 p1 p2 p3 p4 p5 p6
  have ⟨s10, s11, s20, s21, s30, s31, p0, p1, p2, p3, p4, p5, p6⟩ := HW.out.ext HE6.out
  go_wp2_with fail
  refine (C34a.out _ HE6.out).mono ?_
  rintro e y6 ⟨rfl, hb⟩
  have HE7 := Lib.hid (HE6.out.trans hb)
  clear hb
  clear s10 s11 s20 s21 s30 s31 p0 p1 p2 p3 p4 p5 p6
  have ⟨s10, s11, s20, s21, s30, s31, p0, p1, p2, p3, p4, p5, p6⟩ := HW.out.ext HE7.out
  go_wp2_with fail
  refine (C34b.out _ HE7.out).mono ?_
  rintro e y7 ⟨rfl, hb⟩
  have HE8 := Lib.hid (HE7.out.trans hb)
  clear hb
  clear s10 s11 s20 s21 s30 s31 p0 p1 p2 p3 p4 p5 p6
  have ⟨s10, s11, s20, s21, s30, s31, p0, p1, p2, p3, p4, p5, p6⟩ := HW.out.ext HE8.out
  go_wp2_with fail
  refine (C34c.out _ HE8.out).mono ?_
  rintro e y8 ⟨rfl, hb⟩
  have HE9 := Lib.hid (HE8.out.trans hb)
  clear hb
  clear s10 s11 s20 s21 s30 s31 p0 p1 p2 p3 p4 p5 p6
  have ⟨s10, s11, s20, s21, s30, s31, p0, p1, p2, p3, p4, p5, p6⟩ := HW.out.ext HE9.out
  go_wp2_with fail
  refine (C34d.out _ HE9.out).mono ?_
  rintro e y9 ⟨rfl, hb⟩
  have HE10 := Lib.hid (HE9.out.trans hb)
  clear hb
  clear s10 s11 s20 s21 s30 s31 p0 p1 p2 p3 p4 p5 p6
  have ⟨s10, s11, s20, s21, s30, s31, p0, p1, p2, p3, p4, p5, p6⟩ := HW.out.ext HE10.out
  go_wp2_with fail
  refine (C36.out _ HE10.out).mono ?_
  rintro e y10 ⟨rfl, hb⟩
  have HE11 := Lib.hid (HE10.out.trans hb)
  clear hb
  clear s10 s11 s20 s21 s30 s31 p0 p1 p2 p3 p4 p5 p6
  have ⟨s10, s11, s20, s21, s30, s31, p0, p1, p2, p3, p4, p5, p6⟩ := HW.out.ext HE11.out
  go_wp2_with fail
  refine (C38.out _ HE11.out).mono ?_
  rintro e y11 ⟨rfl, hb⟩
  have HE12 := Lib.hid (Ext.alloc (HE11.out.trans hb) (.cells #[.int .i64 24, .int .i64 24] 53))
  have u0 : (y11.alloc (.cells #[.int .i64 24, .int .i64 24] 53)).cell? ⟨y11.heap.size, 0, none⟩ = some (.int .i64 24) := World.cell?_alloc_at _ _ _ _ rfl
  have u1 : (y11.alloc (.cells #[.int .i64 24, .int .i64 24] 53)).cell? ⟨y11.heap.size, 1, none⟩ = some (.int .i64 24) := World.cell?_alloc_at _ _ _ _ rfl
  clear hb
  clear s10 s11 s20 s21 s30 s31 p0 p1 p2 p3 p4 p5 p6
  have HWK := Lib.hid (fun W : World => works17 W)
  go_wp2_with fail
  refine (HWK.out _).mono ?_
  rintro e y12 ⟨rfl, hb⟩
  have HE13 := Lib.hid (HE12.out.trans hb)
  clear hb u0 u1
  go_wp2
  go_ret
  exact ⟨rfl, HEW.out.trans HE13.out⟩
end Go.Proofs.Ytcgheakadfjofaa
