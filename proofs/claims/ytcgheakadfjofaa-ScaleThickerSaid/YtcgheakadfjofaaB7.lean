/- CheckStem, CheckRule, open, by their contracts. CheckRule, by its contract. open, lies, by their contracts. -/
import Derived.Test.YtcgheakadfjofaaB4
import Derived.Test.YtcgheakadfjofaaB2
import Derived.Test.YtcgheakadfjofaaZ3
import Derived.Test.YtcgheakadfjofaaB3
namespace Go.Proofs.Ytcgheakadfjofaa
open Go.RowKit
set_option linter.unusedVariables false
set_option linter.unusedSimpArgs false
/-- The cells of a stem that lies in block b. -/
def StemAt (X : World) (b : Nat) (u v : Value) : Prop := X.cell? ⟨b, 0, none⟩ = some u ∧ X.cell? ⟨b, 1, none⟩ = some v
theorem StemAt.ext {w w' : World} {b : Nat} {u v : Value} (h : StemAt w b u v) (hb : Ext w w') : StemAt w' b u v := ⟨cell_ext hb h.1, cell_ext hb h.2⟩
theorem StemAt.new (w : World) (u v : Value) (T : TypeId) : StemAt (w.alloc (.cells #[u, v] T)) w.heap.size u v := ⟨World.cell?_alloc_at _ _ _ _ rfl, World.cell?_alloc_at _ _ _ _ rfl⟩
set_option maxRecDepth 100000 in
set_option maxHeartbeats 4000000 in
theorem stem20 (vt vb : Value) (th bd : List Int) (w : World) (ht : Reads w vt th) (hd : Reads w vb bd) :
    Calls Try.prog 20 #[.agg #[vt, vb]] w fun e w' => e = .returned (.int .i64 (stemE th bd)) ∧ Ext w w' := by
  obtain ⟨hl, a, cap, rfl⟩ := ht.shape
  obtain ⟨hl', a', cap', rfl⟩ := hd.shape
  obtain ⟨res, hres⟩ : ∃ res, res = stemE th bd := ⟨_, rfl⟩
  rw [← hres]
  obtain ⟨n, hn⟩ : ∃ n, n = th.length := ⟨_, rfl⟩
  obtain ⟨n', hn'⟩ : ∃ n', n' = bd.length := ⟨_, rfl⟩
  rw [← hn] at ht hl ⊢
  rw [← hn'] at hd hl' ⊢
  have hR : res = if inn 2 61 [(n : Int)] = false then 6 else if inn 0 60 th = false then 3 else if down th = false then 16 else if inn 0 ((n : Int) - 2) bd = false then 2 else if up bd = false then 2 else 0 := by
    rw [hres]; unfold stemE
    have e : inn 2 61 [(n : Int)] = false ↔ (th.length < 2 ∨ 61 < th.length) := by simp [inn]; omega
    by_cases h1 : th.length < 2 ∨ 61 < th.length
    · rw [if_pos h1, if_pos (e.2 h1)]
    · rw [if_neg h1, if_neg (fun h => h1 (e.1 h)), hn]
      split; · rfl
      split; · rfl
      cases inn 0 ((th.length : Int) - 2) bd <;> simp
  have E0 := Lib.hid ((Ext.refl w).alloc (.cells #[.slice a n cap, .slice a' n' cap'] 25))
  have P0 := Lib.hid (StemAt.new w (.slice a n cap) (.slice a' n' cap') 25)
  have HT := Lib.hid ht; have HD := Lib.hid hd
  have h55 := fun (u : Value) (W : World) (h : Reads W u [(n : Int)]) => within55 2 61 u [(n : Int)] W h
  have h56 := fun (W : World) (h : Ext w W) => within56 0 60 _ th W (ht.ext h)
  have h57 := fun (W : World) (h : Ext w W) => sorted57 _ th W (ht.ext h)
  have h55b := fun (W : World) (h : Ext w W) => within55 0 ((n : Int) - 2) _ bd W (hd.ext h)
  have h59 := fun (W : World) (h : Ext w W) => up59 _ bd W (hd.ext h)
  have hw1 : IntKind.i64.wrap ((n : Int) - 2) = (n : Int) - 2 := wrapi64 _ (by omega) (by omega)
  have HN := Lib.hid hn; have HRES := Lib.hid hres
  clear ht hd hn hn' hres
  generalize inn 2 61 [(n : Int)] = c1 at *
  generalize inn 0 60 th = c2 at *
  generalize down th = c3 at *
  generalize inn 0 ((n : Int) - 2) bd = c4 at *
  generalize up bd = c5 at *
  cases c1
  · have H55 := Lib.hid h55; have H56 := Lib.hid h56; have H57 := Lib.hid h57; have H55b := Lib.hid h55b; have H59 := Lib.hid h59; have HR := Lib.hid hR
    clear h55 h56 h57 h55b h59 hR
    go_enter Try.func20, Try.ntmps20
    go_wp2_with fail
    refine (H55.out _ _ ?_).mono ?_
    · exact Reads.new _ [(n : Int)] _ _ (by simp) (by simp) _ rfl 1 1 rfl
    rintro e w1 ⟨rfl, rfl⟩
    have E1 := Lib.hid (Ext.alloc E0.out (.cells #[.int .i64 (n : Int)] 3))
    obtain ⟨g1, g2⟩ := P0.out.ext (Ext.alloc (Ext.refl _) (.cells #[.int .i64 (n : Int)] 3))
    go_wp2
    go_ret
    exact ⟨ret_int (by rw [HR.out]; rfl), E1.out⟩
  · cases c2
    · have H55 := Lib.hid h55; have H56 := Lib.hid h56; have H57 := Lib.hid h57; have H55b := Lib.hid h55b; have H59 := Lib.hid h59; have HR := Lib.hid hR
      clear h55 h56 h57 h55b h59 hR
      go_enter Try.func20, Try.ntmps20
      go_wp2_with fail
      refine (H55.out _ _ ?_).mono ?_
      · exact Reads.new _ [(n : Int)] _ _ (by simp) (by simp) _ rfl 1 1 rfl
      rintro e w1 ⟨rfl, rfl⟩
      have E1 := Lib.hid (Ext.alloc E0.out (.cells #[.int .i64 (n : Int)] 3))
      obtain ⟨g1, g2⟩ := P0.out.ext (Ext.alloc (Ext.refl _) (.cells #[.int .i64 (n : Int)] 3))
      go_wp2_with fail
      refine (H56.out _ E1.out).mono ?_
      rintro e w1 ⟨rfl, rfl⟩
      go_wp2
      go_ret
      exact ⟨ret_int (by rw [HR.out]; rfl), E1.out⟩
    · cases c3
      · have H55 := Lib.hid h55; have H56 := Lib.hid h56; have H57 := Lib.hid h57; have H55b := Lib.hid h55b; have H59 := Lib.hid h59; have HR := Lib.hid hR
        clear h55 h56 h57 h55b h59 hR
        go_enter Try.func20, Try.ntmps20
        go_wp2_with fail
        refine (H55.out _ _ ?_).mono ?_
        · exact Reads.new _ [(n : Int)] _ _ (by simp) (by simp) _ rfl 1 1 rfl
        rintro e w1 ⟨rfl, rfl⟩
        have E1 := Lib.hid (Ext.alloc E0.out (.cells #[.int .i64 (n : Int)] 3))
        obtain ⟨g1, g2⟩ := P0.out.ext (Ext.alloc (Ext.refl _) (.cells #[.int .i64 (n : Int)] 3))
        go_wp2_with fail
        refine (H56.out _ E1.out).mono ?_
        rintro e w1 ⟨rfl, rfl⟩
        go_wp2_with fail
        refine (H57.out _ E1.out).mono ?_
        rintro e w2 ⟨rfl, hb⟩
        obtain ⟨g1, g2⟩ := StemAt.ext ⟨g1, g2⟩ hb
        have E2 := Lib.hid (E1.out.trans hb); clear hb
        go_wp2
        go_ret
        exact ⟨ret_int (by rw [HR.out]; rfl), E2.out⟩
      · cases c4
        · have H55 := Lib.hid h55; have H56 := Lib.hid h56; have H57 := Lib.hid h57; have H55b := Lib.hid h55b; have H59 := Lib.hid h59; have HR := Lib.hid hR
          clear h55 h56 h57 h55b h59 hR
          go_enter Try.func20, Try.ntmps20
          go_wp2_with fail
          refine (H55.out _ _ ?_).mono ?_
          · exact Reads.new _ [(n : Int)] _ _ (by simp) (by simp) _ rfl 1 1 rfl
          rintro e w1 ⟨rfl, rfl⟩
          have E1 := Lib.hid (Ext.alloc E0.out (.cells #[.int .i64 (n : Int)] 3))
          obtain ⟨g1, g2⟩ := P0.out.ext (Ext.alloc (Ext.refl _) (.cells #[.int .i64 (n : Int)] 3))
          go_wp2_with fail
          refine (H56.out _ E1.out).mono ?_
          rintro e w1 ⟨rfl, rfl⟩
          go_wp2_with fail
          refine (H57.out _ E1.out).mono ?_
          rintro e w2 ⟨rfl, hb⟩
          obtain ⟨g1, g2⟩ := StemAt.ext ⟨g1, g2⟩ hb
          have E2 := Lib.hid (E1.out.trans hb); clear hb
          go_wp2_with fail
          refine (H55b.out _ E2.out).mono ?_
          rintro e w3 ⟨rfl, rfl⟩
          go_wp2
          go_ret
          exact ⟨ret_int (by rw [HR.out]; rfl), E2.out⟩
        · cases c5
          · have H55 := Lib.hid h55; have H56 := Lib.hid h56; have H57 := Lib.hid h57; have H55b := Lib.hid h55b; have H59 := Lib.hid h59; have HR := Lib.hid hR
            clear h55 h56 h57 h55b h59 hR
            go_enter Try.func20, Try.ntmps20
            go_wp2_with fail
            refine (H55.out _ _ ?_).mono ?_
            · exact Reads.new _ [(n : Int)] _ _ (by simp) (by simp) _ rfl 1 1 rfl
            rintro e w1 ⟨rfl, rfl⟩
            have E1 := Lib.hid (Ext.alloc E0.out (.cells #[.int .i64 (n : Int)] 3))
            obtain ⟨g1, g2⟩ := P0.out.ext (Ext.alloc (Ext.refl _) (.cells #[.int .i64 (n : Int)] 3))
            go_wp2_with fail
            refine (H56.out _ E1.out).mono ?_
            rintro e w1 ⟨rfl, rfl⟩
            go_wp2_with fail
            refine (H57.out _ E1.out).mono ?_
            rintro e w2 ⟨rfl, hb⟩
            obtain ⟨g1, g2⟩ := StemAt.ext ⟨g1, g2⟩ hb
            have E2 := Lib.hid (E1.out.trans hb); clear hb
            go_wp2_with fail
            refine (H55b.out _ E2.out).mono ?_
            rintro e w3 ⟨rfl, rfl⟩
            go_wp2_with fail
            refine (H59.out _ E2.out).mono ?_
            rintro e w4 ⟨rfl, hb⟩
            have E3 := Lib.hid (E2.out.trans hb); clear hb
            go_wp2
            go_ret
            exact ⟨ret_int (by rw [HR.out]; rfl), E3.out⟩
          · have H55 := Lib.hid h55; have H56 := Lib.hid h56; have H57 := Lib.hid h57; have H55b := Lib.hid h55b; have H59 := Lib.hid h59; have HR := Lib.hid hR
            clear h55 h56 h57 h55b h59 hR
            go_enter Try.func20, Try.ntmps20
            go_wp2_with fail
            refine (H55.out _ _ ?_).mono ?_
            · exact Reads.new _ [(n : Int)] _ _ (by simp) (by simp) _ rfl 1 1 rfl
            rintro e w1 ⟨rfl, rfl⟩
            have E1 := Lib.hid (Ext.alloc E0.out (.cells #[.int .i64 (n : Int)] 3))
            obtain ⟨g1, g2⟩ := P0.out.ext (Ext.alloc (Ext.refl _) (.cells #[.int .i64 (n : Int)] 3))
            go_wp2_with fail
            refine (H56.out _ E1.out).mono ?_
            rintro e w1 ⟨rfl, rfl⟩
            go_wp2_with fail
            refine (H57.out _ E1.out).mono ?_
            rintro e w2 ⟨rfl, hb⟩
            obtain ⟨g1, g2⟩ := StemAt.ext ⟨g1, g2⟩ hb
            have E2 := Lib.hid (E1.out.trans hb); clear hb
            go_wp2_with fail
            refine (H55b.out _ E2.out).mono ?_
            rintro e w3 ⟨rfl, rfl⟩
            go_wp2_with fail
            refine (H59.out _ E2.out).mono ?_
            rintro e w4 ⟨rfl, hb⟩
            have E3 := Lib.hid (E2.out.trans hb); clear hb
            go_wp2
            go_ret
            exact ⟨ret_int (by rw [HR.out]; rfl), E3.out⟩
end Go.Proofs.Ytcgheakadfjofaa
namespace Go.Proofs.Ytcgheakadfjofaa
open Go.RowKit
set_option linter.unusedVariables false
set_option linter.unusedSimpArgs false
/-- A rule, as a value. -/
abbrev Rl.val (r : Rl) : Value := .agg #[.int .i64 r.lo, .int .i64 r.hi, .int .i64 r.st, .int .i64 r.tr, .int .i64 r.off, .int .i64 r.dv, .int .i64 r.tn]
/-- The cells of a rule that lies in block b. -/
def RuleAt (X : World) (b : Nat) (r : Rl) : Prop := X.cell? ⟨b, 0, none⟩ = some (.int .i64 r.lo) ∧ X.cell? ⟨b, 1, none⟩ = some (.int .i64 r.hi) ∧ X.cell? ⟨b, 2, none⟩ = some (.int .i64 r.st) ∧ X.cell? ⟨b, 3, none⟩ = some (.int .i64 r.tr) ∧ X.cell? ⟨b, 4, none⟩ = some (.int .i64 r.off) ∧ X.cell? ⟨b, 5, none⟩ = some (.int .i64 r.dv) ∧ X.cell? ⟨b, 6, none⟩ = some (.int .i64 r.tn)
theorem RuleAt.ext {w w' : World} {b : Nat} {r : Rl} (h : RuleAt w b r) (hb : Ext w w') : RuleAt w' b r := ⟨cell_ext hb h.1, cell_ext hb h.2.1, cell_ext hb h.2.2.1, cell_ext hb h.2.2.2.1, cell_ext hb h.2.2.2.2.1, cell_ext hb h.2.2.2.2.2.1, cell_ext hb h.2.2.2.2.2.2⟩
theorem RuleAt.new (w : World) (r : Rl) (T : TypeId) : RuleAt (w.alloc (.cells #[.int .i64 r.lo, .int .i64 r.hi, .int .i64 r.st, .int .i64 r.tr, .int .i64 r.off, .int .i64 r.dv, .int .i64 r.tn] T)) w.heap.size r := ⟨World.cell?_alloc_at _ _ _ _ rfl, World.cell?_alloc_at _ _ _ _ rfl, World.cell?_alloc_at _ _ _ _ rfl, World.cell?_alloc_at _ _ _ _ rfl, World.cell?_alloc_at _ _ _ _ rfl, World.cell?_alloc_at _ _ _ _ rfl, World.cell?_alloc_at _ _ _ _ rfl⟩
set_option maxRecDepth 100000 in
set_option maxHeartbeats 4000000 in
theorem rule22 (r : Rl) (w : World) : Calls Try.prog 22 #[r.val] w fun e w' => e = .returned (.int .i64 (ruleE r)) ∧ Ext w w' := by
  obtain ⟨res, hres⟩ : ∃ res, res = ruleE r := ⟨_, rfl⟩
  rw [← hres]
  have hR : res = if inn 1 60 [r.lo, r.hi] = false then 3 else if decide (r.hi < r.lo) = true then 3 else if inn 1 10 [r.st] = false then 3 else if inn 0 5 [r.tr] = false then 3 else if inn 0 20 [r.off] = false then 3 else if inn 1 100 [r.dv] = false then 3 else if inn 0 60 [r.tn] = false then 3 else 0 := by
    rw [hres]; unfold ruleE
    split
    · rename_i h
      first | (simp [inn, h]; done) | (simp [inn, h]; omega)
    · rename_i h
      simp only [inn, List.all_cons, List.all_nil, Bool.and_true]
      repeat (split; rfl)
      first | (simp_all; done) | (simp_all; omega)
  have E0 := Lib.hid ((Ext.refl w).alloc (.cells #[.int .i64 r.lo, .int .i64 r.hi, .int .i64 r.st, .int .i64 r.tr, .int .i64 r.off, .int .i64 r.dv, .int .i64 r.tn] 27))
  have R0 := Lib.hid (RuleAt.new w r 27)
  have h1 := fun (u : Value) (W : World) (h : Reads W u [r.lo, r.hi]) => within55 1 60 u [r.lo, r.hi] W h
  have h3 := fun (u : Value) (W : World) (h : Reads W u [r.st]) => within55 1 10 u [r.st] W h
  have h4 := fun (u : Value) (W : World) (h : Reads W u [r.tr]) => within55 0 5 u [r.tr] W h
  have h5 := fun (u : Value) (W : World) (h : Reads W u [r.off]) => within56 0 20 u [r.off] W h
  have h6 := fun (u : Value) (W : World) (h : Reads W u [r.dv]) => within56 1 100 u [r.dv] W h
  have h7 := fun (u : Value) (W : World) (h : Reads W u [r.tn]) => within56 0 60 u [r.tn] W h
  clear hres
  generalize inn 1 60 [r.lo, r.hi] = c1 at *
  generalize inn 1 10 [r.st] = c3 at *
  generalize inn 0 5 [r.tr] = c4 at *
  generalize inn 0 20 [r.off] = c5 at *
  generalize inn 1 100 [r.dv] = c6 at *
  generalize inn 0 60 [r.tn] = c7 at *
  cases c1
  · have H1 := Lib.hid h1; have H3 := Lib.hid h3; have H4 := Lib.hid h4; have H5 := Lib.hid h5; have H6 := Lib.hid h6; have H7 := Lib.hid h7
    clear h1 h3 h4 h5 h6 h7
    have HR := Lib.hid hR
    clear hR
    go_enter Try.func22, Try.ntmps22
    go_wp2_with fail
    refine (H1.out _ _ ?_).mono ?_
    · exact Reads.new _ [r.lo, r.hi] _ _ (by simp) (by simp) _ rfl 2 2 rfl
    rintro e w1 ⟨rfl, rfl⟩
    have E1 := Lib.hid (Ext.alloc E0.out (.cells #[.int .i64 r.lo, .int .i64 r.hi] 3))
    have R1 := Lib.hid (R0.out.ext (Ext.alloc (Ext.refl _) (.cells #[.int .i64 r.lo, .int .i64 r.hi] 3)))
    have ⟨g0, g1, g2, g3, g4, g5, g6⟩ := R1.out
    go_wp2
    go_ret
    exact ⟨ret_int (by rw [HR.out]; rfl), E1.out⟩
  · by_cases hgt : r.hi < r.lo
    · have H1 := Lib.hid h1; have H3 := Lib.hid h3; have H4 := Lib.hid h4; have H5 := Lib.hid h5; have H6 := Lib.hid h6; have H7 := Lib.hid h7
      clear h1 h3 h4 h5 h6 h7
      have HR := Lib.hid hR
      clear hR
      go_enter Try.func22, Try.ntmps22
      go_wp2_with fail
      refine (H1.out _ _ ?_).mono ?_
      · exact Reads.new _ [r.lo, r.hi] _ _ (by simp) (by simp) _ rfl 2 2 rfl
      rintro e w1 ⟨rfl, rfl⟩
      have E1 := Lib.hid (Ext.alloc E0.out (.cells #[.int .i64 r.lo, .int .i64 r.hi] 3))
      have R1 := Lib.hid (R0.out.ext (Ext.alloc (Ext.refl _) (.cells #[.int .i64 r.lo, .int .i64 r.hi] 3)))
      have ⟨g0, g1, g2, g3, g4, g5, g6⟩ := R1.out
      go_wp2
      go_ret
      exact ⟨ret_int (by rw [HR.out]; simp [hgt]), E1.out⟩
    · have hgd : decide (r.hi < r.lo) = false := decide_eq_false hgt
      rw [hgd] at hR
      have HGD := Lib.hid hgd
      clear hgd
      cases c3
      · have H1 := Lib.hid h1; have H3 := Lib.hid h3; have H4 := Lib.hid h4; have H5 := Lib.hid h5; have H6 := Lib.hid h6; have H7 := Lib.hid h7
        clear h1 h3 h4 h5 h6 h7
        have HR := Lib.hid hR
        clear hR
        go_enter Try.func22, Try.ntmps22
        go_wp2_with fail
        refine (H1.out _ _ ?_).mono ?_
        · exact Reads.new _ [r.lo, r.hi] _ _ (by simp) (by simp) _ rfl 2 2 rfl
        rintro e w1 ⟨rfl, rfl⟩
        have E1 := Lib.hid (Ext.alloc E0.out (.cells #[.int .i64 r.lo, .int .i64 r.hi] 3))
        have R1 := Lib.hid (R0.out.ext (Ext.alloc (Ext.refl _) (.cells #[.int .i64 r.lo, .int .i64 r.hi] 3)))
        have ⟨g0, g1, g2, g3, g4, g5, g6⟩ := R1.out
        clear g0 g1 g2 g3 g4 g5 g6
        go_wp2_with fail
        refine (H3.out _ _ ?_).mono ?_
        · exact Reads.new _ [r.st] _ _ (by simp) (by simp) _ rfl 1 1 rfl
        rintro e w1 ⟨rfl, rfl⟩
        have E3 := Lib.hid (Ext.alloc E1.out (.cells #[.int .i64 r.st] 3))
        have R3 := Lib.hid (R1.out.ext (Ext.alloc (Ext.refl _) (.cells #[.int .i64 r.st] 3)))
        have ⟨g0, g1, g2, g3, g4, g5, g6⟩ := R3.out
        go_wp2
        go_ret
        exact ⟨ret_int (by rw [HR.out]; rfl), E3.out⟩
      · cases c4
        · have H1 := Lib.hid h1; have H3 := Lib.hid h3; have H4 := Lib.hid h4; have H5 := Lib.hid h5; have H6 := Lib.hid h6; have H7 := Lib.hid h7
          clear h1 h3 h4 h5 h6 h7
          have HR := Lib.hid hR
          clear hR
          go_enter Try.func22, Try.ntmps22
          go_wp2_with fail
          refine (H1.out _ _ ?_).mono ?_
          · exact Reads.new _ [r.lo, r.hi] _ _ (by simp) (by simp) _ rfl 2 2 rfl
          rintro e w1 ⟨rfl, rfl⟩
          have E1 := Lib.hid (Ext.alloc E0.out (.cells #[.int .i64 r.lo, .int .i64 r.hi] 3))
          have R1 := Lib.hid (R0.out.ext (Ext.alloc (Ext.refl _) (.cells #[.int .i64 r.lo, .int .i64 r.hi] 3)))
          have ⟨g0, g1, g2, g3, g4, g5, g6⟩ := R1.out
          clear g0 g1 g2 g3 g4 g5 g6
          go_wp2_with fail
          refine (H3.out _ _ ?_).mono ?_
          · exact Reads.new _ [r.st] _ _ (by simp) (by simp) _ rfl 1 1 rfl
          rintro e w1 ⟨rfl, rfl⟩
          have E3 := Lib.hid (Ext.alloc E1.out (.cells #[.int .i64 r.st] 3))
          have R3 := Lib.hid (R1.out.ext (Ext.alloc (Ext.refl _) (.cells #[.int .i64 r.st] 3)))
          have ⟨g0, g1, g2, g3, g4, g5, g6⟩ := R3.out
          clear g0 g1 g2 g3 g4 g5 g6
          go_wp2_with fail
          refine (H4.out _ _ ?_).mono ?_
          · exact Reads.new _ [r.tr] _ _ (by simp) (by simp) _ rfl 1 1 rfl
          rintro e w1 ⟨rfl, rfl⟩
          have E4 := Lib.hid (Ext.alloc E3.out (.cells #[.int .i64 r.tr] 3))
          have R4 := Lib.hid (R3.out.ext (Ext.alloc (Ext.refl _) (.cells #[.int .i64 r.tr] 3)))
          have ⟨g0, g1, g2, g3, g4, g5, g6⟩ := R4.out
          go_wp2
          go_ret
          exact ⟨ret_int (by rw [HR.out]; rfl), E4.out⟩
        · cases c5
          · have H1 := Lib.hid h1; have H3 := Lib.hid h3; have H4 := Lib.hid h4; have H5 := Lib.hid h5; have H6 := Lib.hid h6; have H7 := Lib.hid h7
            clear h1 h3 h4 h5 h6 h7
            have HR := Lib.hid hR
            clear hR
            go_enter Try.func22, Try.ntmps22
            go_wp2_with fail
            refine (H1.out _ _ ?_).mono ?_
            · exact Reads.new _ [r.lo, r.hi] _ _ (by simp) (by simp) _ rfl 2 2 rfl
            rintro e w1 ⟨rfl, rfl⟩
            have E1 := Lib.hid (Ext.alloc E0.out (.cells #[.int .i64 r.lo, .int .i64 r.hi] 3))
            have R1 := Lib.hid (R0.out.ext (Ext.alloc (Ext.refl _) (.cells #[.int .i64 r.lo, .int .i64 r.hi] 3)))
            have ⟨g0, g1, g2, g3, g4, g5, g6⟩ := R1.out
            clear g0 g1 g2 g3 g4 g5 g6
            go_wp2_with fail
            refine (H3.out _ _ ?_).mono ?_
            · exact Reads.new _ [r.st] _ _ (by simp) (by simp) _ rfl 1 1 rfl
            rintro e w1 ⟨rfl, rfl⟩
            have E3 := Lib.hid (Ext.alloc E1.out (.cells #[.int .i64 r.st] 3))
            have R3 := Lib.hid (R1.out.ext (Ext.alloc (Ext.refl _) (.cells #[.int .i64 r.st] 3)))
            have ⟨g0, g1, g2, g3, g4, g5, g6⟩ := R3.out
            clear g0 g1 g2 g3 g4 g5 g6
            go_wp2_with fail
            refine (H4.out _ _ ?_).mono ?_
            · exact Reads.new _ [r.tr] _ _ (by simp) (by simp) _ rfl 1 1 rfl
            rintro e w1 ⟨rfl, rfl⟩
            have E4 := Lib.hid (Ext.alloc E3.out (.cells #[.int .i64 r.tr] 3))
            have R4 := Lib.hid (R3.out.ext (Ext.alloc (Ext.refl _) (.cells #[.int .i64 r.tr] 3)))
            have ⟨g0, g1, g2, g3, g4, g5, g6⟩ := R4.out
            clear g0 g1 g2 g3 g4 g5 g6
            go_wp2_with fail
            refine (H5.out _ _ ?_).mono ?_
            · exact Reads.new _ [r.off] _ _ (by simp) (by simp) _ rfl 1 1 rfl
            rintro e w1 ⟨rfl, rfl⟩
            have E5 := Lib.hid (Ext.alloc E4.out (.cells #[.int .i64 r.off] 2))
            have R5 := Lib.hid (R4.out.ext (Ext.alloc (Ext.refl _) (.cells #[.int .i64 r.off] 2)))
            have ⟨g0, g1, g2, g3, g4, g5, g6⟩ := R5.out
            go_wp2
            go_ret
            exact ⟨ret_int (by rw [HR.out]; rfl), E5.out⟩
          · cases c6
            · have H1 := Lib.hid h1; have H3 := Lib.hid h3; have H4 := Lib.hid h4; have H5 := Lib.hid h5; have H6 := Lib.hid h6; have H7 := Lib.hid h7
              clear h1 h3 h4 h5 h6 h7
              have HR := Lib.hid hR
              clear hR
              go_enter Try.func22, Try.ntmps22
              go_wp2_with fail
              refine (H1.out _ _ ?_).mono ?_
              · exact Reads.new _ [r.lo, r.hi] _ _ (by simp) (by simp) _ rfl 2 2 rfl
              rintro e w1 ⟨rfl, rfl⟩
              have E1 := Lib.hid (Ext.alloc E0.out (.cells #[.int .i64 r.lo, .int .i64 r.hi] 3))
              have R1 := Lib.hid (R0.out.ext (Ext.alloc (Ext.refl _) (.cells #[.int .i64 r.lo, .int .i64 r.hi] 3)))
              have ⟨g0, g1, g2, g3, g4, g5, g6⟩ := R1.out
              clear g0 g1 g2 g3 g4 g5 g6
              go_wp2_with fail
              refine (H3.out _ _ ?_).mono ?_
              · exact Reads.new _ [r.st] _ _ (by simp) (by simp) _ rfl 1 1 rfl
              rintro e w1 ⟨rfl, rfl⟩
              have E3 := Lib.hid (Ext.alloc E1.out (.cells #[.int .i64 r.st] 3))
              have R3 := Lib.hid (R1.out.ext (Ext.alloc (Ext.refl _) (.cells #[.int .i64 r.st] 3)))
              have ⟨g0, g1, g2, g3, g4, g5, g6⟩ := R3.out
              clear g0 g1 g2 g3 g4 g5 g6
              go_wp2_with fail
              refine (H4.out _ _ ?_).mono ?_
              · exact Reads.new _ [r.tr] _ _ (by simp) (by simp) _ rfl 1 1 rfl
              rintro e w1 ⟨rfl, rfl⟩
              have E4 := Lib.hid (Ext.alloc E3.out (.cells #[.int .i64 r.tr] 3))
              have R4 := Lib.hid (R3.out.ext (Ext.alloc (Ext.refl _) (.cells #[.int .i64 r.tr] 3)))
              have ⟨g0, g1, g2, g3, g4, g5, g6⟩ := R4.out
              clear g0 g1 g2 g3 g4 g5 g6
              go_wp2_with fail
              refine (H5.out _ _ ?_).mono ?_
              · exact Reads.new _ [r.off] _ _ (by simp) (by simp) _ rfl 1 1 rfl
              rintro e w1 ⟨rfl, rfl⟩
              have E5 := Lib.hid (Ext.alloc E4.out (.cells #[.int .i64 r.off] 2))
              have R5 := Lib.hid (R4.out.ext (Ext.alloc (Ext.refl _) (.cells #[.int .i64 r.off] 2)))
              have ⟨g0, g1, g2, g3, g4, g5, g6⟩ := R5.out
              clear g0 g1 g2 g3 g4 g5 g6
              go_wp2_with fail
              refine (H6.out _ _ ?_).mono ?_
              · exact Reads.new _ [r.dv] _ _ (by simp) (by simp) _ rfl 1 1 rfl
              rintro e w1 ⟨rfl, rfl⟩
              have E6 := Lib.hid (Ext.alloc E5.out (.cells #[.int .i64 r.dv] 2))
              have R6 := Lib.hid (R5.out.ext (Ext.alloc (Ext.refl _) (.cells #[.int .i64 r.dv] 2)))
              have ⟨g0, g1, g2, g3, g4, g5, g6⟩ := R6.out
              go_wp2
              go_ret
              exact ⟨ret_int (by rw [HR.out]; rfl), E6.out⟩
            · cases c7
              · have H1 := Lib.hid h1; have H3 := Lib.hid h3; have H4 := Lib.hid h4; have H5 := Lib.hid h5; have H6 := Lib.hid h6; have H7 := Lib.hid h7
                clear h1 h3 h4 h5 h6 h7
                have HR := Lib.hid hR
                clear hR
                go_enter Try.func22, Try.ntmps22
                go_wp2_with fail
                refine (H1.out _ _ ?_).mono ?_
                · exact Reads.new _ [r.lo, r.hi] _ _ (by simp) (by simp) _ rfl 2 2 rfl
                rintro e w1 ⟨rfl, rfl⟩
                have E1 := Lib.hid (Ext.alloc E0.out (.cells #[.int .i64 r.lo, .int .i64 r.hi] 3))
                have R1 := Lib.hid (R0.out.ext (Ext.alloc (Ext.refl _) (.cells #[.int .i64 r.lo, .int .i64 r.hi] 3)))
                have ⟨g0, g1, g2, g3, g4, g5, g6⟩ := R1.out
                clear g0 g1 g2 g3 g4 g5 g6
                go_wp2_with fail
                refine (H3.out _ _ ?_).mono ?_
                · exact Reads.new _ [r.st] _ _ (by simp) (by simp) _ rfl 1 1 rfl
                rintro e w1 ⟨rfl, rfl⟩
                have E3 := Lib.hid (Ext.alloc E1.out (.cells #[.int .i64 r.st] 3))
                have R3 := Lib.hid (R1.out.ext (Ext.alloc (Ext.refl _) (.cells #[.int .i64 r.st] 3)))
                have ⟨g0, g1, g2, g3, g4, g5, g6⟩ := R3.out
                clear g0 g1 g2 g3 g4 g5 g6
                go_wp2_with fail
                refine (H4.out _ _ ?_).mono ?_
                · exact Reads.new _ [r.tr] _ _ (by simp) (by simp) _ rfl 1 1 rfl
                rintro e w1 ⟨rfl, rfl⟩
                have E4 := Lib.hid (Ext.alloc E3.out (.cells #[.int .i64 r.tr] 3))
                have R4 := Lib.hid (R3.out.ext (Ext.alloc (Ext.refl _) (.cells #[.int .i64 r.tr] 3)))
                have ⟨g0, g1, g2, g3, g4, g5, g6⟩ := R4.out
                clear g0 g1 g2 g3 g4 g5 g6
                go_wp2_with fail
                refine (H5.out _ _ ?_).mono ?_
                · exact Reads.new _ [r.off] _ _ (by simp) (by simp) _ rfl 1 1 rfl
                rintro e w1 ⟨rfl, rfl⟩
                have E5 := Lib.hid (Ext.alloc E4.out (.cells #[.int .i64 r.off] 2))
                have R5 := Lib.hid (R4.out.ext (Ext.alloc (Ext.refl _) (.cells #[.int .i64 r.off] 2)))
                have ⟨g0, g1, g2, g3, g4, g5, g6⟩ := R5.out
                clear g0 g1 g2 g3 g4 g5 g6
                go_wp2_with fail
                refine (H6.out _ _ ?_).mono ?_
                · exact Reads.new _ [r.dv] _ _ (by simp) (by simp) _ rfl 1 1 rfl
                rintro e w1 ⟨rfl, rfl⟩
                have E6 := Lib.hid (Ext.alloc E5.out (.cells #[.int .i64 r.dv] 2))
                have R6 := Lib.hid (R5.out.ext (Ext.alloc (Ext.refl _) (.cells #[.int .i64 r.dv] 2)))
                have ⟨g0, g1, g2, g3, g4, g5, g6⟩ := R6.out
                clear g0 g1 g2 g3 g4 g5 g6
                go_wp2_with fail
                refine (H7.out _ _ ?_).mono ?_
                · exact Reads.new _ [r.tn] _ _ (by simp) (by simp) _ rfl 1 1 rfl
                rintro e w1 ⟨rfl, rfl⟩
                have E7 := Lib.hid (Ext.alloc E6.out (.cells #[.int .i64 r.tn] 2))
                have R7 := Lib.hid (R6.out.ext (Ext.alloc (Ext.refl _) (.cells #[.int .i64 r.tn] 2)))
                have ⟨g0, g1, g2, g3, g4, g5, g6⟩ := R7.out
                go_wp2
                go_ret
                exact ⟨ret_int (by rw [HR.out]; rfl), E7.out⟩
              · have H1 := Lib.hid h1; have H3 := Lib.hid h3; have H4 := Lib.hid h4; have H5 := Lib.hid h5; have H6 := Lib.hid h6; have H7 := Lib.hid h7
                clear h1 h3 h4 h5 h6 h7
                have HR := Lib.hid hR
                clear hR
                go_enter Try.func22, Try.ntmps22
                go_wp2_with fail
                refine (H1.out _ _ ?_).mono ?_
                · exact Reads.new _ [r.lo, r.hi] _ _ (by simp) (by simp) _ rfl 2 2 rfl
                rintro e w1 ⟨rfl, rfl⟩
                have E1 := Lib.hid (Ext.alloc E0.out (.cells #[.int .i64 r.lo, .int .i64 r.hi] 3))
                have R1 := Lib.hid (R0.out.ext (Ext.alloc (Ext.refl _) (.cells #[.int .i64 r.lo, .int .i64 r.hi] 3)))
                have ⟨g0, g1, g2, g3, g4, g5, g6⟩ := R1.out
                clear g0 g1 g2 g3 g4 g5 g6
                go_wp2_with fail
                refine (H3.out _ _ ?_).mono ?_
                · exact Reads.new _ [r.st] _ _ (by simp) (by simp) _ rfl 1 1 rfl
                rintro e w1 ⟨rfl, rfl⟩
                have E3 := Lib.hid (Ext.alloc E1.out (.cells #[.int .i64 r.st] 3))
                have R3 := Lib.hid (R1.out.ext (Ext.alloc (Ext.refl _) (.cells #[.int .i64 r.st] 3)))
                have ⟨g0, g1, g2, g3, g4, g5, g6⟩ := R3.out
                clear g0 g1 g2 g3 g4 g5 g6
                go_wp2_with fail
                refine (H4.out _ _ ?_).mono ?_
                · exact Reads.new _ [r.tr] _ _ (by simp) (by simp) _ rfl 1 1 rfl
                rintro e w1 ⟨rfl, rfl⟩
                have E4 := Lib.hid (Ext.alloc E3.out (.cells #[.int .i64 r.tr] 3))
                have R4 := Lib.hid (R3.out.ext (Ext.alloc (Ext.refl _) (.cells #[.int .i64 r.tr] 3)))
                have ⟨g0, g1, g2, g3, g4, g5, g6⟩ := R4.out
                clear g0 g1 g2 g3 g4 g5 g6
                go_wp2_with fail
                refine (H5.out _ _ ?_).mono ?_
                · exact Reads.new _ [r.off] _ _ (by simp) (by simp) _ rfl 1 1 rfl
                rintro e w1 ⟨rfl, rfl⟩
                have E5 := Lib.hid (Ext.alloc E4.out (.cells #[.int .i64 r.off] 2))
                have R5 := Lib.hid (R4.out.ext (Ext.alloc (Ext.refl _) (.cells #[.int .i64 r.off] 2)))
                have ⟨g0, g1, g2, g3, g4, g5, g6⟩ := R5.out
                clear g0 g1 g2 g3 g4 g5 g6
                go_wp2_with fail
                refine (H6.out _ _ ?_).mono ?_
                · exact Reads.new _ [r.dv] _ _ (by simp) (by simp) _ rfl 1 1 rfl
                rintro e w1 ⟨rfl, rfl⟩
                have E6 := Lib.hid (Ext.alloc E5.out (.cells #[.int .i64 r.dv] 2))
                have R6 := Lib.hid (R5.out.ext (Ext.alloc (Ext.refl _) (.cells #[.int .i64 r.dv] 2)))
                have ⟨g0, g1, g2, g3, g4, g5, g6⟩ := R6.out
                clear g0 g1 g2 g3 g4 g5 g6
                go_wp2_with fail
                refine (H7.out _ _ ?_).mono ?_
                · exact Reads.new _ [r.tn] _ _ (by simp) (by simp) _ rfl 1 1 rfl
                rintro e w1 ⟨rfl, rfl⟩
                have E7 := Lib.hid (Ext.alloc E6.out (.cells #[.int .i64 r.tn] 2))
                have R7 := Lib.hid (R6.out.ext (Ext.alloc (Ext.refl _) (.cells #[.int .i64 r.tn] 2)))
                have ⟨g0, g1, g2, g3, g4, g5, g6⟩ := R7.out
                go_wp2
                go_ret
                exact ⟨ret_int (by rw [HR.out]; rfl), E7.out⟩
end Go.Proofs.Ytcgheakadfjofaa
namespace Go.Proofs.Ytcgheakadfjofaa
open Go.RowKit
set_option linter.unusedVariables false
set_option linter.unusedSimpArgs false
def zeros : List Int := List.replicate 61 0
theorem heap_alloc_new (w : World) (o : Obj) : (w.alloc o).heap[w.heap.size]? = some o := by
  show (w.heap.push o)[w.heap.size]? = some o
  simp
set_option maxRecDepth 100000 in
theorem yard_new (vt vb : Value) (r : Rl) : ((((((((Try.zeroCells93.setIfInBounds 0 vt).setIfInBounds 1 vb).setIfInBounds 2 (.int .i64 r.lo)).setIfInBounds 3 (.int .i64 r.hi)).setIfInBounds 4 (.int .i64 r.st)).setIfInBounds 5 (.int .i64 r.tr)).setIfInBounds 6 (.int .i64 r.off)).setIfInBounds 7 (.int .i64 r.dv)).setIfInBounds 8 (.int .i64 r.tn) = (ycL vt vb r zeros).toArray := by kernel_rfl
/-- What open hands back. -/
def Opened (w : World) (vt vb : Value) (th bd : List Int) (r : Rl) (E : Int) (e : Ending) (w' : World) : Prop :=
  (E ≠ 0 ∧ e = .returned (.tuple #[.pointer none, .int .i64 E]) ∨ E = 0 ∧ ∃ b, e = .returned (.tuple #[.pointer (some ⟨b, 0, none⟩), .int .i64 0]) ∧ w.heap.size ≤ b ∧ YardAt w' b vt vb th bd r zeros) ∧ Ext w w'
set_option maxRecDepth 100000 in
set_option maxHeartbeats 4000000 in
theorem open50 (vt vb : Value) (th bd : List Int) (r : Rl) (w : World) (ht : Reads w vt th) (hd : Reads w vb bd) :
    Calls Try.prog 50 #[.agg #[vt, vb], r.val] w (Opened w vt vb th bd r (bothE th bd r)) := by
  obtain ⟨hl, a, cap, rfl⟩ := ht.shape
  obtain ⟨hl', a', cap', rfl⟩ := hd.shape
  obtain ⟨n, hn⟩ : ∃ n, n = th.length := ⟨_, rfl⟩
  obtain ⟨n', hn'⟩ : ∃ n', n' = bd.length := ⟨_, rfl⟩
  rw [← hn] at ht ⊢
  rw [← hn'] at hd ⊢
  have E0 := Lib.hid (Ext.alloc (Ext.alloc (Ext.refl w) (.cells #[.slice a n cap, .slice a' n' cap'] 25)) (.cells #[.int .i64 r.lo, .int .i64 r.hi, .int .i64 r.st, .int .i64 r.tr, .int .i64 r.off, .int .i64 r.dv, .int .i64 r.tn] 27))
  have P0 := Lib.hid ((StemAt.new w (.slice a n cap) (.slice a' n' cap') 25).ext (Ext.alloc (Ext.refl _) (.cells #[.int .i64 r.lo, .int .i64 r.hi, .int .i64 r.st, .int .i64 r.tr, .int .i64 r.off, .int .i64 r.dv, .int .i64 r.tn] 27)))
  have R0 := RuleAt.new (w.alloc (.cells #[.slice a n cap, .slice a' n' cap'] 25)) r 27
  rw [World.size_alloc] at R0
  have R0 := Lib.hid R0
  have h20 := fun (W : World) (h : Ext w W) => stem20 _ _ th bd W (ht.ext h) (hd.ext h)
  have h22 := fun (W : World) => rule22 r W
  have HT := Lib.hid ht; have HD := Lib.hid hd
  clear ht hd hn hn'
  unfold bothE
  generalize stemE th bd = sE at *
  generalize ruleE r = rE at *
  have H20 := Lib.hid h20; have H22 := Lib.hid h22
  clear h20 h22
  by_cases hs : sE = 0
  · subst hs
    rw [if_pos rfl]
    by_cases hr : rE = 0
    · subst hr
      go_enter Try.func50, Try.ntmps50
      have ⟨g1, g2⟩ := P0.out
      go_wp2_with fail
      refine (H20.out _ E0.out).mono ?_
      rintro e w1 ⟨rfl, hb⟩
      have E1 := Lib.hid (E0.out.trans hb)
      have P1 := Lib.hid (P0.out.ext hb)
      have R1 := Lib.hid (R0.out.ext hb)
      clear g1 g2 hb
      have ⟨r0, r1, r2, r3, r4, r5, r6⟩ := R1.out
      go_wp2_with fail
      refine (H22.out _).mono ?_
      rintro e w2 ⟨rfl, hb⟩
      have E2 := Lib.hid (E1.out.trans hb)
      have ⟨g1, g2⟩ := P1.out.ext hb
      clear r0 r1 r2 r3 r4 r5 r6
      have ⟨r0, r1, r2, r3, r4, r5, r6⟩ := R1.out.ext hb
      clear hb
      go_wp2
      rw [yard_new]
      go_ret2
      refine ⟨.inr ⟨rfl, w2.heap.size, rfl, E2.out.size, ?_⟩, E2.out.alloc _⟩
      exact ⟨heap_alloc_new _ _, HT.out.ext (E2.out.alloc _), HD.out.ext (E2.out.alloc _), rfl⟩
    · have hrb : (rE != 0) = true := by simpa using hr
      have HRN := Lib.hid hr
      clear hr
      go_enter Try.func50, Try.ntmps50
      have ⟨g1, g2⟩ := P0.out
      go_wp2_with fail
      refine (H20.out _ E0.out).mono ?_
      rintro e w1 ⟨rfl, hb⟩
      have E1 := Lib.hid (E0.out.trans hb)
      have R1 := Lib.hid (R0.out.ext hb)
      clear g1 g2 hb
      have ⟨r0, r1, r2, r3, r4, r5, r6⟩ := R1.out
      go_wp2_with fail
      refine (H22.out _).mono ?_
      rintro e w2 ⟨rfl, hb⟩
      have E2 := Lib.hid (E1.out.trans hb)
      clear r0 r1 r2 r3 r4 r5 r6 hb
      go_wp2
      go_ret2
      exact ⟨.inl ⟨HRN.out, rfl⟩, E2.out⟩
  · have hrb : (sE != 0) = true := by simpa using hs
    rw [if_neg hs]
    have HRN := Lib.hid hs
    clear hs
    go_enter Try.func50, Try.ntmps50
    have ⟨g1, g2⟩ := P0.out
    go_wp2_with fail
    refine (H20.out _ E0.out).mono ?_
    rintro e w1 ⟨rfl, hb⟩
    have E1 := Lib.hid (E0.out.trans hb)
    clear g1 g2 hb
    go_wp2
    go_ret2
    exact ⟨.inl ⟨HRN.out, rfl⟩, E1.out⟩
end Go.Proofs.Ytcgheakadfjofaa
