/- CheckRule, by its contract. -/
import Derived.Test.YtcgheakadfjofaaB5
namespace Go.Proofs.Ytcgheakadfjofaa
open Go.RowKit
set_option linter.unusedVariables false
set_option linter.unusedSimpArgs false
/-- A rule, as a value. -/
abbrev Rl.val (r : Rl) : Value := .agg #[.int .i64 r.lo, .int .i64 r.hi, .int .i64 r.st, .int .i64 r.tr, .int .i64 r.off, .int .i64 r.dv, .int .i64 r.tn]
/-- The cells of a rule that lies in block b. -/
def RuleAt (X : World) (b : Nat) (r : Rl) : Prop := X.cell? ⟨b, 0, none⟩ = some (.int .i64 r.lo) ∧ X.cell? ⟨b, 1, none⟩ = some (.int .i64 r.hi) ∧ X.cell? ⟨b, 2, none⟩ = some (.int .i64 r.st) ∧ X.cell? ⟨b, 3, none⟩ = some (.int .i64 r.tr) ∧ X.cell? ⟨b, 4, none⟩ = some (.int .i64 r.off) ∧ X.cell? ⟨b, 5, none⟩ = some (.int .i64 r.dv) ∧ X.cell? ⟨b, 6, none⟩ = some (.int .i64 r.tn)
theorem RuleAt.ext {w w' : World} {b : Nat} {r : Rl} (h : RuleAt w b r) (hb : Ext w w') : RuleAt w' b r := ⟨cell_ext hb h.1, cell_ext hb h.2.1, cell_ext hb h.2.2.1, cell_ext hb h.2.2.2.1, cell_ext hb h.2.2.2.2.1, cell_ext hb h.2.2.2.2.2.1, cell_ext hb h.2.2.2.2.2.2⟩
theorem RuleAt.new (w : World) (r : Rl) (T : TypeId) : RuleAt (w.alloc (.cells #[.int .i64 r.lo, .int .i64 r.hi, .int .i64 r.st, .int .i64 r.tr, .int .i64 r.off, .int .i64 r.dv, .int .i64 r.tn] T)) w.heap.size r := ⟨World.cell?_alloc_at _ _ _ _ rfl, World.cell?_alloc_at _ _ _ _ rfl, World.cell?_alloc_at _ _ _ _ rfl, World.cell?_alloc_at _ _ _ _ rfl, World.cell?_alloc_at _ _ _ _ rfl, World.cell?_alloc_at _ _ _ _ rfl, World.cell?_alloc_at _ _ _ _ rfl⟩
set_option maxRecDepth 100000 in
set_option maxHeartbeats 4000000 in
theorem rule22 (r : Rl) (w : World) : Calls Try.prog 22 #[r.val] w fun e w' => e = .returned (.int .i64 (ruleE r)) ∧ Ext w w' := by
  obtain ⟨res, hres⟩ : ∃ res, res = ruleE r := ⟨_, rfl⟩
  rw [← hres]
  have hR : res = if inn 1 60 [r.lo, r.hi] = false then 3 else if decide (r.hi < r.lo) = true then 3 else if inn 1 10 [r.st] = false then 3 else if inn 0 5 [r.tr] = false then 3 else if inn 0 20 [r.off] = false then 3 else if inn 1 100 [r.dv] = false then 3 else if inn 0 60 [r.tn] = false then 3 else 0 := by
    rw [hres]; unfold ruleE
    split
    · rename_i h
      first | (simp [inn, h]; done) | (simp [inn, h]; omega)
    · rename_i h
      simp only [inn, List.all_cons, List.all_nil, Bool.and_true]
      repeat (split; rfl)
      first | (simp_all; done) | (simp_all; omega)
  have E0 := Lib.hid ((Ext.refl w).alloc (.cells #[.int .i64 r.lo, .int .i64 r.hi, .int .i64 r.st, .int .i64 r.tr, .int .i64 r.off, .int .i64 r.dv, .int .i64 r.tn] 27))
  have R0 := Lib.hid (RuleAt.new w r 27)
  have h1 := fun (u : Value) (W : World) (h : Reads W u [r.lo, r.hi]) => within55 1 60 u [r.lo, r.hi] W h
  have h3 := fun (u : Value) (W : World) (h : Reads W u [r.st]) => within55 1 10 u [r.st] W h
  have h4 := fun (u : Value) (W : World) (h : Reads W u [r.tr]) => within55 0 5 u [r.tr] W h
  have h5 := fun (u : Value) (W : World) (h : Reads W u [r.off]) => within56 0 20 u [r.off] W h
  have h6 := fun (u : Value) (W : World) (h : Reads W u [r.dv]) => within56 1 100 u [r.dv] W h
  have h7 := fun (u : Value) (W : World) (h : Reads W u [r.tn]) => within56 0 60 u [r.tn] W h
  clear hres
  generalize inn 1 60 [r.lo, r.hi] = c1 at *
  generalize inn 1 10 [r.st] = c3 at *
  generalize inn 0 5 [r.tr] = c4 at *
  generalize inn 0 20 [r.off] = c5 at *
  generalize inn 1 100 [r.dv] = c6 at *
  generalize inn 0 60 [r.tn] = c7 at *
  cases c1
  · have H1 := Lib.hid h1; have H3 := Lib.hid h3; have H4 := Lib.hid h4; have H5 := Lib.hid h5; have H6 := Lib.hid h6; have H7 := Lib.hid h7
    clear h1 h3 h4 h5 h6 h7
    have HR := Lib.hid hR
    clear hR
    go_enter Try.func22, Try.ntmps22
    go_wp2_with fail
    refine (H1.out _ _ ?_).mono ?_
    · exact Reads.new _ [r.lo, r.hi] _ _ (by simp) (by simp) _ rfl 2 2 rfl
    rintro e w1 ⟨rfl, rfl⟩
    have E1 := Lib.hid (Ext.alloc E0.out (.cells #[.int .i64 r.lo, .int .i64 r.hi] 3))
    have R1 := Lib.hid (R0.out.ext (Ext.alloc (Ext.refl _) (.cells #[.int .i64 r.lo, .int .i64 r.hi] 3)))
    have ⟨g0, g1, g2, g3, g4, g5, g6⟩ := R1.out
    go_wp2
    go_ret
    exact ⟨ret_int (by rw [HR.out]; rfl), E1.out⟩
  · by_cases hgt : r.hi < r.lo
    · have H1 := Lib.hid h1; have H3 := Lib.hid h3; have H4 := Lib.hid h4; have H5 := Lib.hid h5; have H6 := Lib.hid h6; have H7 := Lib.hid h7
      clear h1 h3 h4 h5 h6 h7
      have HR := Lib.hid hR
      clear hR
      go_enter Try.func22, Try.ntmps22
      go_wp2_with fail
      refine (H1.out _ _ ?_).mono ?_
      · exact Reads.new _ [r.lo, r.hi] _ _ (by simp) (by simp) _ rfl 2 2 rfl
      rintro e w1 ⟨rfl, rfl⟩
      have E1 := Lib.hid (Ext.alloc E0.out (.cells #[.int .i64 r.lo, .int .i64 r.hi] 3))
      have R1 := Lib.hid (R0.out.ext (Ext.alloc (Ext.refl _) (.cells #[.int .i64 r.lo, .int .i64 r.hi] 3)))
      have ⟨g0, g1, g2, g3, g4, g5, g6⟩ := R1.out
      go_wp2
      go_ret
      exact ⟨ret_int (by rw [HR.out]; simp [hgt]), E1.out⟩
    · have hgd : decide (r.hi < r.lo) = false := decide_eq_false hgt
      rw [hgd] at hR
      have HGD := Lib.hid hgd
      clear hgd
      cases c3
      · have H1 := Lib.hid h1; have H3 := Lib.hid h3; have H4 := Lib.hid h4; have H5 := Lib.hid h5; have H6 := Lib.hid h6; have H7 := Lib.hid h7
        clear h1 h3 h4 h5 h6 h7
        have HR := Lib.hid hR
        clear hR
        go_enter Try.func22, Try.ntmps22
        go_wp2_with fail
        refine (H1.out _ _ ?_).mono ?_
        · exact Reads.new _ [r.lo, r.hi] _ _ (by simp) (by simp) _ rfl 2 2 rfl
        rintro e w1 ⟨rfl, rfl⟩
        have E1 := Lib.hid (Ext.alloc E0.out (.cells #[.int .i64 r.lo, .int .i64 r.hi] 3))
        have R1 := Lib.hid (R0.out.ext (Ext.alloc (Ext.refl _) (.cells #[.int .i64 r.lo, .int .i64 r.hi] 3)))
        have ⟨g0, g1, g2, g3, g4, g5, g6⟩ := R1.out
        clear g0 g1 g2 g3 g4 g5 g6
        go_wp2_with fail
        refine (H3.out _ _ ?_).mono ?_
        · exact Reads.new _ [r.st] _ _ (by simp) (by simp) _ rfl 1 1 rfl
        rintro e w1 ⟨rfl, rfl⟩
        have E3 := Lib.hid (Ext.alloc E1.out (.cells #[.int .i64 r.st] 3))
        have R3 := Lib.hid (R1.out.ext (Ext.alloc (Ext.refl _) (.cells #[.int .i64 r.st] 3)))
        have ⟨g0, g1, g2, g3, g4, g5, g6⟩ := R3.out
        go_wp2
        go_ret
        exact ⟨ret_int (by rw [HR.out]; rfl), E3.out⟩
      · cases c4
        · have H1 := Lib.hid h1; have H3 := Lib.hid h3; have H4 := Lib.hid h4; have H5 := Lib.hid h5; have H6 := Lib.hid h6; have H7 := Lib.hid h7
          clear h1 h3 h4 h5 h6 h7
          have HR := Lib.hid hR
          clear hR
          go_enter Try.func22, Try.ntmps22
          go_wp2_with fail
          refine (H1.out _ _ ?_).mono ?_
          · exact Reads.new _ [r.lo, r.hi] _ _ (by simp) (by simp) _ rfl 2 2 rfl
          rintro e w1 ⟨rfl, rfl⟩
          have E1 := Lib.hid (Ext.alloc E0.out (.cells #[.int .i64 r.lo, .int .i64 r.hi] 3))
          have R1 := Lib.hid (R0.out.ext (Ext.alloc (Ext.refl _) (.cells #[.int .i64 r.lo, .int .i64 r.hi] 3)))
          have ⟨g0, g1, g2, g3, g4, g5, g6⟩ := R1.out
          clear g0 g1 g2 g3 g4 g5 g6
          go_wp2_with fail
          refine (H3.out _ _ ?_).mono ?_
          · exact Reads.new _ [r.st] _ _ (by simp) (by simp) _ rfl 1 1 rfl
          rintro e w1 ⟨rfl, rfl⟩
          have E3 := Lib.hid (Ext.alloc E1.out (.cells #[.int .i64 r.st] 3))
          have R3 := Lib.hid (R1.out.ext (Ext.alloc (Ext.refl _) (.cells #[.int .i64 r.st] 3)))
          have ⟨g0, g1, g2, g3, g4, g5, g6⟩ := R3.out
          clear g0 g1 g2 g3 g4 g5 g6
          go_wp2_with fail
          refine (H4.out _ _ ?_).mono ?_
          · exact Reads.new _ [r.tr] _ _ (by simp) (by simp) _ rfl 1 1 rfl
          rintro e w1 ⟨rfl, rfl⟩
          have E4 := Lib.hid (Ext.alloc E3.out (.cells #[.int .i64 r.tr] 3))
          have R4 := Lib.hid (R3.out.ext (Ext.alloc (Ext.refl _) (.cells #[.int .i64 r.tr] 3)))
          have ⟨g0, g1, g2, g3, g4, g5, g6⟩ := R4.out
          go_wp2
          go_ret
          exact ⟨ret_int (by rw [HR.out]; rfl), E4.out⟩
        · cases c5
          · have H1 := Lib.hid h1; have H3 := Lib.hid h3; have H4 := Lib.hid h4; have H5 := Lib.hid h5; have H6 := Lib.hid h6; have H7 := Lib.hid h7
            clear h1 h3 h4 h5 h6 h7
            have HR := Lib.hid hR
            clear hR
            go_enter Try.func22, Try.ntmps22
            go_wp2_with fail
            refine (H1.out _ _ ?_).mono ?_
            · exact Reads.new _ [r.lo, r.hi] _ _ (by simp) (by simp) _ rfl 2 2 rfl
            rintro e w1 ⟨rfl, rfl⟩
            have E1 := Lib.hid (Ext.alloc E0.out (.cells #[.int .i64 r.lo, .int .i64 r.hi] 3))
            have R1 := Lib.hid (R0.out.ext (Ext.alloc (Ext.refl _) (.cells #[.int .i64 r.lo, .int .i64 r.hi] 3)))
            have ⟨g0, g1, g2, g3, g4, g5, g6⟩ := R1.out
            clear g0 g1 g2 g3 g4 g5 g6
            go_wp2_with fail
            refine (H3.out _ _ ?_).mono ?_
            · exact Reads.new _ [r.st] _ _ (by simp) (by simp) _ rfl 1 1 rfl
            rintro e w1 ⟨rfl, rfl⟩
            have E3 := Lib.hid (Ext.alloc E1.out (.cells #[.int .i64 r.st] 3))
            have R3 := Lib.hid (R1.out.ext (Ext.alloc (Ext.refl _) (.cells #[.int .i64 r.st] 3)))
            have ⟨g0, g1, g2, g3, g4, g5, g6⟩ := R3.out
            clear g0 g1 g2 g3 g4 g5 g6
            go_wp2_with fail
            refine (H4.out _ _ ?_).mono ?_
            · exact Reads.new _ [r.tr] _ _ (by simp) (by simp) _ rfl 1 1 rfl
            rintro e w1 ⟨rfl, rfl⟩
            have E4 := Lib.hid (Ext.alloc E3.out (.cells #[.int .i64 r.tr] 3))
            have R4 := Lib.hid (R3.out.ext (Ext.alloc (Ext.refl _) (.cells #[.int .i64 r.tr] 3)))
            have ⟨g0, g1, g2, g3, g4, g5, g6⟩ := R4.out
            clear g0 g1 g2 g3 g4 g5 g6
            go_wp2_with fail
            refine (H5.out _ _ ?_).mono ?_
            · exact Reads.new _ [r.off] _ _ (by simp) (by simp) _ rfl 1 1 rfl
            rintro e w1 ⟨rfl, rfl⟩
            have E5 := Lib.hid (Ext.alloc E4.out (.cells #[.int .i64 r.off] 2))
            have R5 := Lib.hid (R4.out.ext (Ext.alloc (Ext.refl _) (.cells #[.int .i64 r.off] 2)))
            have ⟨g0, g1, g2, g3, g4, g5, g6⟩ := R5.out
            go_wp2
            go_ret
            exact ⟨ret_int (by rw [HR.out]; rfl), E5.out⟩
          · cases c6
            · have H1 := Lib.hid h1; have H3 := Lib.hid h3; have H4 := Lib.hid h4; have H5 := Lib.hid h5; have H6 := Lib.hid h6; have H7 := Lib.hid h7
              clear h1 h3 h4 h5 h6 h7
              have HR := Lib.hid hR
              clear hR
              go_enter Try.func22, Try.ntmps22
              go_wp2_with fail
              refine (H1.out _ _ ?_).mono ?_
              · exact Reads.new _ [r.lo, r.hi] _ _ (by simp) (by simp) _ rfl 2 2 rfl
              rintro e w1 ⟨rfl, rfl⟩
              have E1 := Lib.hid (Ext.alloc E0.out (.cells #[.int .i64 r.lo, .int .i64 r.hi] 3))
              have R1 := Lib.hid (R0.out.ext (Ext.alloc (Ext.refl _) (.cells #[.int .i64 r.lo, .int .i64 r.hi] 3)))
              have ⟨g0, g1, g2, g3, g4, g5, g6⟩ := R1.out
              clear g0 g1 g2 g3 g4 g5 g6
              go_wp2_with fail
              refine (H3.out _ _ ?_).mono ?_
              · exact Reads.new _ [r.st] _ _ (by simp) (by simp) _ rfl 1 1 rfl
              rintro e w1 ⟨rfl, rfl⟩
              have E3 := Lib.hid (Ext.alloc E1.out (.cells #[.int .i64 r.st] 3))
              have R3 := Lib.hid (R1.out.ext (Ext.alloc (Ext.refl _) (.cells #[.int .i64 r.st] 3)))
              have ⟨g0, g1, g2, g3, g4, g5, g6⟩ := R3.out
              clear g0 g1 g2 g3 g4 g5 g6
              go_wp2_with fail
              refine (H4.out _ _ ?_).mono ?_
              · exact Reads.new _ [r.tr] _ _ (by simp) (by simp) _ rfl 1 1 rfl
              rintro e w1 ⟨rfl, rfl⟩
              have E4 := Lib.hid (Ext.alloc E3.out (.cells #[.int .i64 r.tr] 3))
              have R4 := Lib.hid (R3.out.ext (Ext.alloc (Ext.refl _) (.cells #[.int .i64 r.tr] 3)))
              have ⟨g0, g1, g2, g3, g4, g5, g6⟩ := R4.out
              clear g0 g1 g2 g3 g4 g5 g6
              go_wp2_with fail
              refine (H5.out _ _ ?_).mono ?_
              · exact Reads.new _ [r.off] _ _ (by simp) (by simp) _ rfl 1 1 rfl
              rintro e w1 ⟨rfl, rfl⟩
              have E5 := Lib.hid (Ext.alloc E4.out (.cells #[.int .i64 r.off] 2))
              have R5 := Lib.hid (R4.out.ext (Ext.alloc (Ext.refl _) (.cells #[.int .i64 r.off] 2)))
              have ⟨g0, g1, g2, g3, g4, g5, g6⟩ := R5.out
              clear g0 g1 g2 g3 g4 g5 g6
              go_wp2_with fail
              refine (H6.out _ _ ?_).mono ?_
              · exact Reads.new _ [r.dv] _ _ (by simp) (by simp) _ rfl 1 1 rfl
              rintro e w1 ⟨rfl, rfl⟩
              have E6 := Lib.hid (Ext.alloc E5.out (.cells #[.int .i64 r.dv] 2))
              have R6 := Lib.hid (R5.out.ext (Ext.alloc (Ext.refl _) (.cells #[.int .i64 r.dv] 2)))
              have ⟨g0, g1, g2, g3, g4, g5, g6⟩ := R6.out
              go_wp2
              go_ret
              exact ⟨ret_int (by rw [HR.out]; rfl), E6.out⟩
            · cases c7
              · have H1 := Lib.hid h1; have H3 := Lib.hid h3; have H4 := Lib.hid h4; have H5 := Lib.hid h5; have H6 := Lib.hid h6; have H7 := Lib.hid h7
                clear h1 h3 h4 h5 h6 h7
                have HR := Lib.hid hR
                clear hR
                go_enter Try.func22, Try.ntmps22
                go_wp2_with fail
                refine (H1.out _ _ ?_).mono ?_
                · exact Reads.new _ [r.lo, r.hi] _ _ (by simp) (by simp) _ rfl 2 2 rfl
                rintro e w1 ⟨rfl, rfl⟩
                have E1 := Lib.hid (Ext.alloc E0.out (.cells #[.int .i64 r.lo, .int .i64 r.hi] 3))
                have R1 := Lib.hid (R0.out.ext (Ext.alloc (Ext.refl _) (.cells #[.int .i64 r.lo, .int .i64 r.hi] 3)))
                have ⟨g0, g1, g2, g3, g4, g5, g6⟩ := R1.out
                clear g0 g1 g2 g3 g4 g5 g6
                go_wp2_with fail
                refine (H3.out _ _ ?_).mono ?_
                · exact Reads.new _ [r.st] _ _ (by simp) (by simp) _ rfl 1 1 rfl
                rintro e w1 ⟨rfl, rfl⟩
                have E3 := Lib.hid (Ext.alloc E1.out (.cells #[.int .i64 r.st] 3))
                have R3 := Lib.hid (R1.out.ext (Ext.alloc (Ext.refl _) (.cells #[.int .i64 r.st] 3)))
                have ⟨g0, g1, g2, g3, g4, g5, g6⟩ := R3.out
                clear g0 g1 g2 g3 g4 g5 g6
                go_wp2_with fail
                refine (H4.out _ _ ?_).mono ?_
                · exact Reads.new _ [r.tr] _ _ (by simp) (by simp) _ rfl 1 1 rfl
                rintro e w1 ⟨rfl, rfl⟩
                have E4 := Lib.hid (Ext.alloc E3.out (.cells #[.int .i64 r.tr] 3))
                have R4 := Lib.hid (R3.out.ext (Ext.alloc (Ext.refl _) (.cells #[.int .i64 r.tr] 3)))
                have ⟨g0, g1, g2, g3, g4, g5, g6⟩ := R4.out
                clear g0 g1 g2 g3 g4 g5 g6
                go_wp2_with fail
                refine (H5.out _ _ ?_).mono ?_
                · exact Reads.new _ [r.off] _ _ (by simp) (by simp) _ rfl 1 1 rfl
                rintro e w1 ⟨rfl, rfl⟩
                have E5 := Lib.hid (Ext.alloc E4.out (.cells #[.int .i64 r.off] 2))
                have R5 := Lib.hid (R4.out.ext (Ext.alloc (Ext.refl _) (.cells #[.int .i64 r.off] 2)))
                have ⟨g0, g1, g2, g3, g4, g5, g6⟩ := R5.out
                clear g0 g1 g2 g3 g4 g5 g6
                go_wp2_with fail
                refine (H6.out _ _ ?_).mono ?_
                · exact Reads.new _ [r.dv] _ _ (by simp) (by simp) _ rfl 1 1 rfl
                rintro e w1 ⟨rfl, rfl⟩
                have E6 := Lib.hid (Ext.alloc E5.out (.cells #[.int .i64 r.dv] 2))
                have R6 := Lib.hid (R5.out.ext (Ext.alloc (Ext.refl _) (.cells #[.int .i64 r.dv] 2)))
                have ⟨g0, g1, g2, g3, g4, g5, g6⟩ := R6.out
                clear g0 g1 g2 g3 g4 g5 g6
                go_wp2_with fail
                refine (H7.out _ _ ?_).mono ?_
                · exact Reads.new _ [r.tn] _ _ (by simp) (by simp) _ rfl 1 1 rfl
                rintro e w1 ⟨rfl, rfl⟩
                have E7 := Lib.hid (Ext.alloc E6.out (.cells #[.int .i64 r.tn] 2))
                have R7 := Lib.hid (R6.out.ext (Ext.alloc (Ext.refl _) (.cells #[.int .i64 r.tn] 2)))
                have ⟨g0, g1, g2, g3, g4, g5, g6⟩ := R7.out
                go_wp2
                go_ret
                exact ⟨ret_int (by rw [HR.out]; rfl), E7.out⟩
              · have H1 := Lib.hid h1; have H3 := Lib.hid h3; have H4 := Lib.hid h4; have H5 := Lib.hid h5; have H6 := Lib.hid h6; have H7 := Lib.hid h7
                clear h1 h3 h4 h5 h6 h7
                have HR := Lib.hid hR
                clear hR
                go_enter Try.func22, Try.ntmps22
                go_wp2_with fail
                refine (H1.out _ _ ?_).mono ?_
                · exact Reads.new _ [r.lo, r.hi] _ _ (by simp) (by simp) _ rfl 2 2 rfl
                rintro e w1 ⟨rfl, rfl⟩
                have E1 := Lib.hid (Ext.alloc E0.out (.cells #[.int .i64 r.lo, .int .i64 r.hi] 3))
                have R1 := Lib.hid (R0.out.ext (Ext.alloc (Ext.refl _) (.cells #[.int .i64 r.lo, .int .i64 r.hi] 3)))
                have ⟨g0, g1, g2, g3, g4, g5, g6⟩ := R1.out
                clear g0 g1 g2 g3 g4 g5 g6
                go_wp2_with fail
                refine (H3.out _ _ ?_).mono ?_
                · exact Reads.new _ [r.st] _ _ (by simp) (by simp) _ rfl 1 1 rfl
                rintro e w1 ⟨rfl, rfl⟩
                have E3 := Lib.hid (Ext.alloc E1.out (.cells #[.int .i64 r.st] 3))
                have R3 := Lib.hid (R1.out.ext (Ext.alloc (Ext.refl _) (.cells #[.int .i64 r.st] 3)))
                have ⟨g0, g1, g2, g3, g4, g5, g6⟩ := R3.out
                clear g0 g1 g2 g3 g4 g5 g6
                go_wp2_with fail
                refine (H4.out _ _ ?_).mono ?_
                · exact Reads.new _ [r.tr] _ _ (by simp) (by simp) _ rfl 1 1 rfl
                rintro e w1 ⟨rfl, rfl⟩
                have E4 := Lib.hid (Ext.alloc E3.out (.cells #[.int .i64 r.tr] 3))
                have R4 := Lib.hid (R3.out.ext (Ext.alloc (Ext.refl _) (.cells #[.int .i64 r.tr] 3)))
                have ⟨g0, g1, g2, g3, g4, g5, g6⟩ := R4.out
                clear g0 g1 g2 g3 g4 g5 g6
                go_wp2_with fail
                refine (H5.out _ _ ?_).mono ?_
                · exact Reads.new _ [r.off] _ _ (by simp) (by simp) _ rfl 1 1 rfl
                rintro e w1 ⟨rfl, rfl⟩
                have E5 := Lib.hid (Ext.alloc E4.out (.cells #[.int .i64 r.off] 2))
                have R5 := Lib.hid (R4.out.ext (Ext.alloc (Ext.refl _) (.cells #[.int .i64 r.off] 2)))
                have ⟨g0, g1, g2, g3, g4, g5, g6⟩ := R5.out
                clear g0 g1 g2 g3 g4 g5 g6
                go_wp2_with fail
                refine (H6.out _ _ ?_).mono ?_
                · exact Reads.new _ [r.dv] _ _ (by simp) (by simp) _ rfl 1 1 rfl
                rintro e w1 ⟨rfl, rfl⟩
                have E6 := Lib.hid (Ext.alloc E5.out (.cells #[.int .i64 r.dv] 2))
                have R6 := Lib.hid (R5.out.ext (Ext.alloc (Ext.refl _) (.cells #[.int .i64 r.dv] 2)))
                have ⟨g0, g1, g2, g3, g4, g5, g6⟩ := R6.out
                clear g0 g1 g2 g3 g4 g5 g6
                go_wp2_with fail
                refine (H7.out _ _ ?_).mono ?_
                · exact Reads.new _ [r.tn] _ _ (by simp) (by simp) _ rfl 1 1 rfl
                rintro e w1 ⟨rfl, rfl⟩
                have E7 := Lib.hid (Ext.alloc E6.out (.cells #[.int .i64 r.tn] 2))
                have R7 := Lib.hid (R6.out.ext (Ext.alloc (Ext.refl _) (.cells #[.int .i64 r.tn] 2)))
                have ⟨g0, g1, g2, g3, g4, g5, g6⟩ := R7.out
                go_wp2
                go_ret
                exact ⟨ret_int (by rw [HR.out]; rfl), E7.out⟩
end Go.Proofs.Ytcgheakadfjofaa
