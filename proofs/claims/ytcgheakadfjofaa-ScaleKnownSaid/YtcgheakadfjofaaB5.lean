/- CheckStem, CheckRule, open, by their contracts. -/
import Derived.Test.YtcgheakadfjofaaB4
import Derived.Test.YtcgheakadfjofaaB2
import Derived.Test.YtcgheakadfjofaaZ2
namespace Go.Proofs.Ytcgheakadfjofaa
open Go.RowKit
set_option linter.unusedVariables false
set_option linter.unusedSimpArgs false
/-- The cells of a stem that lies in block b. -/
def StemAt (X : World) (b : Nat) (u v : Value) : Prop := X.cell? ⟨b, 0, none⟩ = some u ∧ X.cell? ⟨b, 1, none⟩ = some v
theorem StemAt.ext {w w' : World} {b : Nat} {u v : Value} (h : StemAt w b u v) (hb : Ext w w') : StemAt w' b u v := ⟨cell_ext hb h.1, cell_ext hb h.2⟩
theorem StemAt.new (w : World) (u v : Value) (T : TypeId) : StemAt (w.alloc (.cells #[u, v] T)) w.heap.size u v := ⟨World.cell?_alloc_at _ _ _ _ rfl, World.cell?_alloc_at _ _ _ _ rfl⟩
set_option maxRecDepth 100000 in
set_option maxHeartbeats 4000000 in
theorem stem20 (vt vb : Value) (th bd : List Int) (w : World) (ht : Reads w vt th) (hd : Reads w vb bd) :
    Calls Try.prog 20 #[.agg #[vt, vb]] w fun e w' => e = .returned (.int .i64 (stemE th bd)) ∧ Ext w w' := by
  obtain ⟨hl, a, cap, rfl⟩ := ht.shape
  obtain ⟨hl', a', cap', rfl⟩ := hd.shape
  obtain ⟨res, hres⟩ : ∃ res, res = stemE th bd := ⟨_, rfl⟩
  rw [← hres]
  obtain ⟨n, hn⟩ : ∃ n, n = th.length := ⟨_, rfl⟩
  obtain ⟨n', hn'⟩ : ∃ n', n' = bd.length := ⟨_, rfl⟩
  rw [← hn] at ht hl ⊢
  rw [← hn'] at hd hl' ⊢
  have hR : res = if inn 2 61 [(n : Int)] = false then 6 else if inn 0 60 th = false then 3 else if down th = false then 16 else if inn 0 ((n : Int) - 2) bd = false then 2 else if up bd = false then 2 else 0 := by
    rw [hres]; unfold stemE
    have e : inn 2 61 [(n : Int)] = false ↔ (th.length < 2 ∨ 61 < th.length) := by simp [inn]; omega
    by_cases h1 : th.length < 2 ∨ 61 < th.length
    · rw [if_pos h1, if_pos (e.2 h1)]
    · rw [if_neg h1, if_neg (fun h => h1 (e.1 h)), hn]
      split; · rfl
      split; · rfl
      cases inn 0 ((th.length : Int) - 2) bd <;> simp
  have E0 := Lib.hid ((Ext.refl w).alloc (.cells #[.slice a n cap, .slice a' n' cap'] 25))
  have P0 := Lib.hid (StemAt.new w (.slice a n cap) (.slice a' n' cap') 25)
  have HT := Lib.hid ht; have HD := Lib.hid hd
  have h55 := fun (u : Value) (W : World) (h : Reads W u [(n : Int)]) => within55 2 61 u [(n : Int)] W h
  have h56 := fun (W : World) (h : Ext w W) => within56 0 60 _ th W (ht.ext h)
  have h57 := fun (W : World) (h : Ext w W) => sorted57 _ th W (ht.ext h)
  have h55b := fun (W : World) (h : Ext w W) => within55 0 ((n : Int) - 2) _ bd W (hd.ext h)
  have h59 := fun (W : World) (h : Ext w W) => up59 _ bd W (hd.ext h)
  have hw1 : IntKind.i64.wrap ((n : Int) - 2) = (n : Int) - 2 := wrapi64 _ (by omega) (by omega)
  have HN := Lib.hid hn; have HRES := Lib.hid hres
  clear ht hd hn hn' hres
  generalize inn 2 61 [(n : Int)] = c1 at *
  generalize inn 0 60 th = c2 at *
  generalize down th = c3 at *
  generalize inn 0 ((n : Int) - 2) bd = c4 at *
  generalize up bd = c5 at *
  cases c1
  · have H55 := Lib.hid h55; have H56 := Lib.hid h56; have H57 := Lib.hid h57; have H55b := Lib.hid h55b; have H59 := Lib.hid h59; have HR := Lib.hid hR
    clear h55 h56 h57 h55b h59 hR
    go_enter Try.func20, Try.ntmps20
    go_wp2_with fail
    refine (H55.out _ _ ?_).mono ?_
    · exact Reads.new _ [(n : Int)] _ _ (by simp) (by simp) _ rfl 1 1 rfl
    rintro e w1 ⟨rfl, rfl⟩
    have E1 := Lib.hid (Ext.alloc E0.out (.cells #[.int .i64 (n : Int)] 3))
    obtain ⟨g1, g2⟩ := P0.out.ext (Ext.alloc (Ext.refl _) (.cells #[.int .i64 (n : Int)] 3))
    go_wp2
    go_ret
    exact ⟨ret_int (by rw [HR.out]; rfl), E1.out⟩
  · cases c2
    · have H55 := Lib.hid h55; have H56 := Lib.hid h56; have H57 := Lib.hid h57; have H55b := Lib.hid h55b; have H59 := Lib.hid h59; have HR := Lib.hid hR
      clear h55 h56 h57 h55b h59 hR
      go_enter Try.func20, Try.ntmps20
      go_wp2_with fail
      refine (H55.out _ _ ?_).mono ?_
      · exact Reads.new _ [(n : Int)] _ _ (by simp) (by simp) _ rfl 1 1 rfl
      rintro e w1 ⟨rfl, rfl⟩
      have E1 := Lib.hid (Ext.alloc E0.out (.cells #[.int .i64 (n : Int)] 3))
      obtain ⟨g1, g2⟩ := P0.out.ext (Ext.alloc (Ext.refl _) (.cells #[.int .i64 (n : Int)] 3))
      go_wp2_with fail
      refine (H56.out _ E1.out).mono ?_
      rintro e w1 ⟨rfl, rfl⟩
      go_wp2
      go_ret
      exact ⟨ret_int (by rw [HR.out]; rfl), E1.out⟩
    · cases c3
      · have H55 := Lib.hid h55; have H56 := Lib.hid h56; have H57 := Lib.hid h57; have H55b := Lib.hid h55b; have H59 := Lib.hid h59; have HR := Lib.hid hR
        clear h55 h56 h57 h55b h59 hR
        go_enter Try.func20, Try.ntmps20
        go_wp2_with fail
        refine (H55.out _ _ ?_).mono ?_
        · exact Reads.new _ [(n : Int)] _ _ (by simp) (by simp) _ rfl 1 1 rfl
        rintro e w1 ⟨rfl, rfl⟩
        have E1 := Lib.hid (Ext.alloc E0.out (.cells #[.int .i64 (n : Int)] 3))
        obtain ⟨g1, g2⟩ := P0.out.ext (Ext.alloc (Ext.refl _) (.cells #[.int .i64 (n : Int)] 3))
        go_wp2_with fail
        refine (H56.out _ E1.out).mono ?_
        rintro e w1 ⟨rfl, rfl⟩
        go_wp2_with fail
        refine (H57.out _ E1.out).mono ?_
        rintro e w2 ⟨rfl, hb⟩
        obtain ⟨g1, g2⟩ := StemAt.ext ⟨g1, g2⟩ hb
        have E2 := Lib.hid (E1.out.trans hb); clear hb
        go_wp2
        go_ret
        exact ⟨ret_int (by rw [HR.out]; rfl), E2.out⟩
      · cases c4
        · have H55 := Lib.hid h55; have H56 := Lib.hid h56; have H57 := Lib.hid h57; have H55b := Lib.hid h55b; have H59 := Lib.hid h59; have HR := Lib.hid hR
          clear h55 h56 h57 h55b h59 hR
          go_enter Try.func20, Try.ntmps20
          go_wp2_with fail
          refine (H55.out _ _ ?_).mono ?_
          · exact Reads.new _ [(n : Int)] _ _ (by simp) (by simp) _ rfl 1 1 rfl
          rintro e w1 ⟨rfl, rfl⟩
          have E1 := Lib.hid (Ext.alloc E0.out (.cells #[.int .i64 (n : Int)] 3))
          obtain ⟨g1, g2⟩ := P0.out.ext (Ext.alloc (Ext.refl _) (.cells #[.int .i64 (n : Int)] 3))
          go_wp2_with fail
          refine (H56.out _ E1.out).mono ?_
          rintro e w1 ⟨rfl, rfl⟩
          go_wp2_with fail
          refine (H57.out _ E1.out).mono ?_
          rintro e w2 ⟨rfl, hb⟩
          obtain ⟨g1, g2⟩ := StemAt.ext ⟨g1, g2⟩ hb
          have E2 := Lib.hid (E1.out.trans hb); clear hb
          go_wp2_with fail
          refine (H55b.out _ E2.out).mono ?_
          rintro e w3 ⟨rfl, rfl⟩
          go_wp2
          go_ret
          exact ⟨ret_int (by rw [HR.out]; rfl), E2.out⟩
        · cases c5
          · have H55 := Lib.hid h55; have H56 := Lib.hid h56; have H57 := Lib.hid h57; have H55b := Lib.hid h55b; have H59 := Lib.hid h59; have HR := Lib.hid hR
            clear h55 h56 h57 h55b h59 hR
            go_enter Try.func20, Try.ntmps20
            go_wp2_with fail
            refine (H55.out _ _ ?_).mono ?_
            · exact Reads.new _ [(n : Int)] _ _ (by simp) (by simp) _ rfl 1 1 rfl
            rintro e w1 ⟨rfl, rfl⟩
            have E1 := Lib.hid (Ext.alloc E0.out (.cells #[.int .i64 (n : Int)] 3))
            obtain ⟨g1, g2⟩ := P0.out.ext (Ext.alloc (Ext.refl _) (.cells #[.int .i64 (n : Int)] 3))
            go_wp2_with fail
            refine (H56.out _ E1.out).mono ?_
            rintro e w1 ⟨rfl, rfl⟩
            go_wp2_with fail
            refine (H57.out _ E1.out).mono ?_
            rintro e w2 ⟨rfl, hb⟩
            obtain ⟨g1, g2⟩ := StemAt.ext ⟨g1, g2⟩ hb
            have E2 := Lib.hid (E1.out.trans hb); clear hb
            go_wp2_with fail
            refine (H55b.out _ E2.out).mono ?_
            rintro e w3 ⟨rfl, rfl⟩
            go_wp2_with fail
            refine (H59.out _ E2.out).mono ?_
            rintro e w4 ⟨rfl, hb⟩
            have E3 := Lib.hid (E2.out.trans hb); clear hb
            go_wp2
            go_ret
            exact ⟨ret_int (by rw [HR.out]; rfl), E3.out⟩
          · have H55 := Lib.hid h55; have H56 := Lib.hid h56; have H57 := Lib.hid h57; have H55b := Lib.hid h55b; have H59 := Lib.hid h59; have HR := Lib.hid hR
            clear h55 h56 h57 h55b h59 hR
            go_enter Try.func20, Try.ntmps20
            go_wp2_with fail
            refine (H55.out _ _ ?_).mono ?_
            · exact Reads.new _ [(n : Int)] _ _ (by simp) (by simp) _ rfl 1 1 rfl
            rintro e w1 ⟨rfl, rfl⟩
            have E1 := Lib.hid (Ext.alloc E0.out (.cells #[.int .i64 (n : Int)] 3))
            obtain ⟨g1, g2⟩ := P0.out.ext (Ext.alloc (Ext.refl _) (.cells #[.int .i64 (n : Int)] 3))
            go_wp2_with fail
            refine (H56.out _ E1.out).mono ?_
            rintro e w1 ⟨rfl, rfl⟩
            go_wp2_with fail
            refine (H57.out _ E1.out).mono ?_
            rintro e w2 ⟨rfl, hb⟩
            obtain ⟨g1, g2⟩ := StemAt.ext ⟨g1, g2⟩ hb
            have E2 := Lib.hid (E1.out.trans hb); clear hb
            go_wp2_with fail
            refine (H55b.out _ E2.out).mono ?_
            rintro e w3 ⟨rfl, rfl⟩
            go_wp2_with fail
            refine (H59.out _ E2.out).mono ?_
            rintro e w4 ⟨rfl, hb⟩
            have E3 := Lib.hid (E2.out.trans hb); clear hb
            go_wp2
            go_ret
            exact ⟨ret_int (by rw [HR.out]; rfl), E3.out⟩
end Go.Proofs.Ytcgheakadfjofaa
