/- greatest, for between: the greatest worth of the parts that are let. greatest, for between: the greatest worth of the parts that are let. -/
import Derived.Test.YtcgheakadfjofaaB11
namespace Go.Proofs.Ytcgheakadfjofaa
open Go.RowKit Go.Shelf
set_option linter.unusedVariables false
set_option linter.unusedSimpArgs false
attribute [local go_sem] Oper.semAt_some
set_option maxRecDepth 100000 in
set_option maxHeartbeats 8000000 in
theorem great_most (F : Nat → Nat → Int) (n Bp By b i : Nat) (Bo Bb : Nat) (vt vb : Value) (th bd : List Int) (r : Rl) (ps : List Int) (lb : Nat × Int → Bool) (wv : Nat × Int → Int) (hv : Vw th bd r) (hF : F = sF th bd r) (hn : th.length = n + 1) (w₀ : World) (hy : YardAt w₀ b vt vb th bd r ps)
    (w : World) (hw : Ext w₀ w) (hi : i < 61) (hp : w.cell? ⟨Bp, 0, none⟩ = some (.int .i64 (i : Int))) (hq : w.cell? ⟨By, 0, none⟩ = some (.pointer (some ⟨b, 0, none⟩)))
    (hl : ∀ p ∈ partsL F n i, ∀ X, Ext w X → Calls Try.prog 81 #[.pointer (some ⟨b, 0, none⟩), .agg #[.int .i64 (i : Int), .int .i64 (p.1 : Int), .int .i64 p.2]] X fun e w' => e = .returned (.bool (lb p)) ∧ Ext X w')
    (hwv : ∀ p ∈ partsL F n i, lb p = true → ∀ X, Ext w X → Calls Try.prog 86 #[.agg #[.int .i64 (i : Int), .int .i64 (p.1 : Int), .int .i64 p.2], .pointer (some ⟨Bo, 0, none⟩), .pointer (some ⟨Bb, 0, none⟩)] X fun e w' => e = .returned (.int .i64 (wv p)) ∧ Ext X w') :
    Calls Try.prog 83 #[.func (.func 90) #[] #[.pointer (some ⟨Bp, 0, none⟩), .pointer (some ⟨By, 0, none⟩)], .func (.func 81) #[.pointer (some ⟨b, 0, none⟩)] #[], .func (.func 86) #[] #[.pointer (some ⟨Bo, 0, none⟩), .pointer (some ⟨Bb, 0, none⟩)]] w fun e w' => e = .returned (.int .i64 (gr (((partsL F n i).filter lb).map wv))) ∧ Ext w w' := by
  refine (callsIn_wide (n := 10)).1 ?_
  have lp := lt_of_cell hp
  have lq := lt_of_cell hq
  have HL := Lib.hid hl; have HWV := Lib.hid hwv; have HY := Lib.hid hy; have HV := Lib.hid hv; have HF := Lib.hid hF; have HN := Lib.hid hn
  clear hl hwv hy hv hF hn
  refine callsIn_of_wp_marks Try.func83 rfl trivial ?_ rfl
  simp only [Try.ntmps83, List.size_toArray, List.length_cons, List.length_nil, Nat.reduceAdd, Nat.reduceSub, Array.replicate_succ, Array.replicate_zero, List.push_toArray, List.append_toArray, List.nil_append, List.cons_append]
  gi_wp2
  have b4 := (((Boxed.new w 111 (.func (.func 81) #[.pointer (some ⟨b, 0, none⟩)] #[])).alloc (.cells #[.func (.func 86) #[] #[.pointer (some ⟨Bo, 0, none⟩), .pointer (some ⟨Bb, 0, none⟩)]] 121)).alloc (.cells #[.int .i64 0] 2)).alloc (.cells #[.bool false] 4)
  have b5 := ((Boxed.new (w.alloc (.cells #[.func (.func 81) #[.pointer (some ⟨b, 0, none⟩)] #[]] 111)) 121 (.func (.func 86) #[] #[.pointer (some ⟨Bo, 0, none⟩), .pointer (some ⟨Bb, 0, none⟩)])).alloc (.cells #[.int .i64 0] 2)).alloc (.cells #[.bool false] 4)
  have b2 := (Boxed.new ((w.alloc (.cells #[.func (.func 81) #[.pointer (some ⟨b, 0, none⟩)] #[]] 111)).alloc (.cells #[.func (.func 86) #[] #[.pointer (some ⟨Bo, 0, none⟩), .pointer (some ⟨Bb, 0, none⟩)]] 121)) 2 (.int .i64 0)).alloc (.cells #[.bool false] 4)
  have b3 := Boxed.new (((w.alloc (.cells #[.func (.func 81) #[.pointer (some ⟨b, 0, none⟩)] #[]] 111)).alloc (.cells #[.func (.func 86) #[] #[.pointer (some ⟨Bo, 0, none⟩), .pointer (some ⟨Bb, 0, none⟩)]] 121)).alloc (.cells #[.int .i64 0] 2)) 4 (.bool false)
  have hB0 : Below w.heap.size w ((((w.alloc (.cells #[.func (.func 81) #[.pointer (some ⟨b, 0, none⟩)] #[]] 111)).alloc (.cells #[.func (.func 86) #[] #[.pointer (some ⟨Bo, 0, none⟩), .pointer (some ⟨Bb, 0, none⟩)]] 121)).alloc (.cells #[.int .i64 0] 2)).alloc (.cells #[.bool false] 4)) := ((((Ext.refl w).alloc _).alloc _).alloc _).alloc _
  have hsz : ((((w.alloc (.cells #[.func (.func 81) #[.pointer (some ⟨b, 0, none⟩)] #[]] 111)).alloc (.cells #[.func (.func 86) #[] #[.pointer (some ⟨Bo, 0, none⟩), .pointer (some ⟨Bb, 0, none⟩)]] 121)).alloc (.cells #[.int .i64 0] 2)).alloc (.cells #[.bool false] 4)).heap.size = w.heap.size + 4 := by simp
  simp only [World.size_alloc] at b5 b2 b3
  obtain ⟨W0, hW0⟩ : ∃ W0, ((((w.alloc (.cells #[.func (.func 81) #[.pointer (some ⟨b, 0, none⟩)] #[]] 111)).alloc (.cells #[.func (.func 86) #[] #[.pointer (some ⟨Bo, 0, none⟩), .pointer (some ⟨Bb, 0, none⟩)]] 121)).alloc (.cells #[.int .i64 0] 2)).alloc (.cells #[.bool false] 4)) = W0 := ⟨_, rfl⟩
  rw [hW0] at b4 b5 b2 b3 hB0 hsz ⊢
  clear hW0
  refine wpIn_rangeFunc_ownH rfl (by omega) (gf := 90) (lb := #[.pointer (some ⟨Bp, 0, none⟩), .pointer (some ⟨By, 0, none⟩)]) rfl trivial (enters_of Try.func90 (by kernel_rfl) rfl)
    (parts_stops F n 9 Bp By b i vt vb th bd r ps [w.heap.size + 1 + 1, w.heap.size + 1 + 1 + 1] HV.out HF.out HN.out (by omega) w₀ HY.out W0 (hw.trans hB0) (by have := hw.size; simp; omega) (by simp; omega) hi (cell_ext hB0 hp) (cell_ext hB0 hq)) KeepC.trans (fun W l o o' _ h1 h2 h3 => KeepC.put h1 h2) (Below.refl _ _) (fun _ => rfl)
    (fun pre W => (Boxed W (w.heap.size + 1 + 1) 2 (.int .i64 ((accO F n i lb wv pre).getD 0)) ∧ Boxed W (w.heap.size + 1 + 1 + 1) 4 (.bool (accO F n i lb wv pre).isSome) ∧ Boxed W w.heap.size 111 (.func (.func 81) #[.pointer (some ⟨b, 0, none⟩)] #[]) ∧ Boxed W (w.heap.size + 1) 121 (.func (.func 86) #[] #[.pointer (some ⟨Bo, 0, none⟩), .pointer (some ⟨Bb, 0, none⟩)])) ∧ Below w.heap.size w W)
    (fun _ _ _ => False)
    ?hI (fun _ _ _ _ _ h _ _ => h) ⟨⟨b2, b3, b4, b5⟩, hB0⟩
    (fun x a' W => ∃ Bx, W0.heap.size ≤ Bx ∧ W.heap[Bx]? = some (.cells #[.int .i64 (i : Int), .int .i64 (x.1.1 : Int), .int .i64 x.1.2] 110 (0, 0)) ∧ a' = { tmps := #[.func (.func 90) #[] #[.pointer (some ⟨Bp, 0, none⟩), .pointer (some ⟨By, 0, none⟩)], .func (.func 81) #[.pointer (some ⟨b, 0, none⟩)] #[], .func (.func 86) #[] #[.pointer (some ⟨Bo, 0, none⟩), .pointer (some ⟨Bb, 0, none⟩)], undef, .pointer (some ⟨w.heap.size, 0, none⟩), .pointer (some ⟨w.heap.size + 1, 0, none⟩), .int .i64 0, .pointer (some ⟨w.heap.size + 1 + 1, 0, none⟩), .pointer (some ⟨w.heap.size + 1 + 1 + 1, 0, none⟩), .pointer (some ⟨Bx, 0, none⟩), undef, .func (.func 90) #[] #[.pointer (some ⟨Bp, 0, none⟩), .pointer (some ⟨By, 0, none⟩)], .agg #[.int .i64 (i : Int), .int .i64 (x.1.1 : Int), .int .i64 x.1.2], undef, undef, undef, undef, undef, undef, undef, undef, undef, undef, undef, undef, undef, undef, undef, undef], defers := [] })
    ?hAx ?assign ?body ?done ?stop
  case hI => exact OwnFrom.and (fun s A B row hs hg hr => ⟨boxed_turn hs.1 hg hr, boxed_turn hs.2.1 hg hr, boxed_turn hs.2.2.1 hg hr, boxed_turn hs.2.2.2 hg hr⟩) (ownFrom_below (Nat.le_refl _) hB0.size)
  case hAx => exact fun x a' s A B row hs hg hr => let ⟨Bx, h1, h2, h3⟩ := hs; ⟨Bx, h1, cells_turn h2 hg hr, h3⟩
  case assign =>
    rintro l pre x W K ⟨⟨q2, q3, q4, q5⟩, hB⟩ hK
    dsimp only [encT]
    gi_wp2
    exact hK _ _ ((KeepsOthers.alloc _ _).from _) (KeepC.ext ((Ext.refl W).alloc _)) ⟨⟨q2.alloc _, q3.alloc _, q4.alloc _, q5.alloc _⟩, hB.alloc hB.size _⟩ ⟨W.heap.size, hsz ▸ (by have := q3.lt; omega), heap_alloc_new _ _, rfl⟩
  case body =>
    rintro l pre x a' W hlw ⟨rr, hrl⟩ ⟨⟨q2, q3, q4, q5⟩, hB⟩ ⟨Bx, hBx, bX, rfl⟩ hlt
    have hsnoc := accO_snoc F n i lb wv pre x
    obtain ⟨⟨j, y⟩, hx⟩ := x
    dsimp only at bX hsnoc ⊢
    have HACC0 := Lib.hid hsnoc
    have Q2 := Lib.hid q2; have Q3 := Lib.hid q3; have Q4 := Lib.hid q4; have Q5 := Lib.hid q5; have QX := Lib.hid bX; have HB := Lib.hid hB
    have q4 := q4.cell; have q5 := q5.cell
    have x0 := cell_of_row _ _ 0 _ _ _ bX; have x1 := cell_of_row _ _ 1 _ _ _ bX; have x2 := cell_of_row _ _ 2 _ _ _ bX
    simp at x0 x1 x2
    clear bX hB hrl hsnoc b2 b3 b4 b5 q2 q3
    cases hlb : lb (j, y)
    · have HACC := Lib.hid (show accO F n i lb wv (pre ++ [⟨(j, y), hx⟩]) = accO F n i lb wv pre from by rw [HACC0.out, hlb]; rfl)
      clear HACC0
      gi_wp2_with fail
      refine ⟨trivial, (CallsIn.inRound l (callsIn_wide.2 (HL.out _ hx _ HB.out))).mono ?_⟩
      rintro e X1 ⟨rfl, hb⟩
      rw [hlb]
      have HB1 := Lib.hid (HB.out.trans (hb.mono HB.out.size))
      have q4 := Boxed.cell (block_ext hb Q4.out); have q5 := Boxed.cell (block_ext hb Q5.out); have q2 := Boxed.cell (block_ext hb Q2.out); have q3 := Boxed.cell (block_ext hb Q3.out)
      have HE1 := Lib.hid hb
      have x0 := cell_of_row _ _ 0 _ _ _ (block_ext hb QX.out); have x1 := cell_of_row _ _ 1 _ _ _ (block_ext hb QX.out); have x2 := cell_of_row _ _ 2 _ _ _ (block_ext hb QX.out)
      simp at x0 x1 x2
      clear hb
      gi_wp2
      have HEND := HE1; have HBE := HB1
      refine ⟨(ext_keeps HEND.out).from _, KeepC.ext HEND.out, ⟨⟨?_, ?_, ?_, ?_⟩, HBE.out⟩⟩
      · rw [HACC.out]; exact block_ext HEND.out Q2.out
      · rw [HACC.out]; exact block_ext HEND.out Q3.out
      · exact block_ext HEND.out Q4.out
      · exact block_ext HEND.out Q5.out
    · have HACC := Lib.hid (show accO F n i lb wv (pre ++ [⟨(j, y), hx⟩]) = grS (accO F n i lb wv pre) (wv (j, y)) from by rw [HACC0.out, hlb]; rfl)
      clear HACC0
      have hwk := HWV.out (j, y) hx hlb
      generalize wv (j, y) = wvx at *
      have HWV2 := Lib.hid hwk
      clear hwk
      cases ha : accO F n i lb wv pre
      · rw [ha] at HACC Q2 Q3
        dsimp only [Option.getD_none, Option.isSome_none, grS] at HACC Q2 Q3
        clear ha
        gi_wp2_with fail
        refine ⟨trivial, (CallsIn.inRound l (callsIn_wide.2 (HL.out _ hx _ HB.out))).mono ?_⟩
        rintro e X1 ⟨rfl, hb⟩
        rw [hlb]
        have HB1 := Lib.hid (HB.out.trans (hb.mono HB.out.size))
        have q4 := Boxed.cell (block_ext hb Q4.out); have q5 := Boxed.cell (block_ext hb Q5.out); have q2 := Boxed.cell (block_ext hb Q2.out); have q3 := Boxed.cell (block_ext hb Q3.out)
        have HE1 := Lib.hid hb
        have x0 := cell_of_row _ _ 0 _ _ _ (block_ext hb QX.out); have x1 := cell_of_row _ _ 1 _ _ _ (block_ext hb QX.out); have x2 := cell_of_row _ _ 2 _ _ _ (block_ext hb QX.out)
        simp at x0 x1 x2
        clear hb
        gi_wp2_with fail
        refine ⟨trivial, (CallsIn.inRound l (callsIn_wide.2 (HWV2.out _ HB1.out))).mono ?_⟩
        rintro e X2 ⟨rfl, hb⟩
        have HB2 := Lib.hid (HB1.out.trans (hb.mono HB1.out.size))
        have HE2 := Lib.hid (HE1.out.trans hb)
        clear q4 q5 q2 q3 x0 x1 x2 hb
        have b2 : Boxed X2 _ _ _ := block_ext HE2.out Q2.out
        have b3 : Boxed X2 _ _ _ := block_ext HE2.out Q3.out
        have b4 : Boxed X2 _ _ _ := block_ext HE2.out Q4.out
        have b5 : Boxed X2 _ _ _ := block_ext HE2.out Q5.out
        have q2 := b2.cell; have q3 := b3.cell; have f2 := b2.frozen; have f3 := b3.frozen
        have hs2 := b2.lt; have hs3 := b3.lt
        have P2 := Lib.hid b2; have P3 := Lib.hid b3; have P4 := Lib.hid b4; have P5 := Lib.hid b5
        clear b2 b3 b4 b5
        gi_wp2
        refine ⟨((ext_keeps HE2.out).trans ((KeepsOthers.setCell _ _ _).trans (KeepsOthers.setCell _ _ _))).from _, (KeepC.ext HE2.out).trans ((KeepC.set _ (by simp) _).trans (KeepC.set _ (by simp) _)), ⟨⟨?_, ?_, ?_, ?_⟩, ?_⟩⟩
        · rw [HACC.out]; exact (P2.out.set _).other (B' := w.heap.size + 1 + 1 + 1) (by omega) _
        · rw [HACC.out]; exact Boxed.set _ (P3.out.other (B' := w.heap.size + 1 + 1) (by omega) _)
        · exact (P4.out.other (B' := w.heap.size + 1 + 1) (by omega) _).other (B' := w.heap.size + 1 + 1 + 1) (by omega) _
        · exact (P5.out.other (B' := w.heap.size + 1 + 1) (by omega) _).other (B' := w.heap.size + 1 + 1 + 1) (by omega) _
        · exact (HB2.out.setCell (p := ⟨w.heap.size + 1 + 1, 0, none⟩) (by simp; omega) _).setCell (p := ⟨w.heap.size + 1 + 1 + 1, 0, none⟩) (by simp; omega) _
      · rename_i m
        rw [ha] at HACC Q2 Q3
        dsimp only [Option.getD_some, Option.isSome_some, grS] at HACC Q2 Q3
        clear ha
        by_cases hm : m < wvx
        · have HACC := Lib.hid (show accO F n i lb wv (pre ++ [⟨(j, y), hx⟩]) = some wvx from by rw [HACC.out, if_pos hm])
          gi_wp2_with fail
          refine ⟨trivial, (CallsIn.inRound l (callsIn_wide.2 (HL.out _ hx _ HB.out))).mono ?_⟩
          rintro e X1 ⟨rfl, hb⟩
          rw [hlb]
          have HB1 := Lib.hid (HB.out.trans (hb.mono HB.out.size))
          have q4 := Boxed.cell (block_ext hb Q4.out); have q5 := Boxed.cell (block_ext hb Q5.out); have q2 := Boxed.cell (block_ext hb Q2.out); have q3 := Boxed.cell (block_ext hb Q3.out)
          have HE1 := Lib.hid hb
          have x0 := cell_of_row _ _ 0 _ _ _ (block_ext hb QX.out); have x1 := cell_of_row _ _ 1 _ _ _ (block_ext hb QX.out); have x2 := cell_of_row _ _ 2 _ _ _ (block_ext hb QX.out)
          simp at x0 x1 x2
          clear hb
          gi_wp2_with fail
          refine ⟨trivial, (CallsIn.inRound l (callsIn_wide.2 (HWV2.out _ HB1.out))).mono ?_⟩
          rintro e X2 ⟨rfl, hb⟩
          have HB2 := Lib.hid (HB1.out.trans (hb.mono HB1.out.size))
          have HE2 := Lib.hid (HE1.out.trans hb)
          clear q4 q5 q2 q3 x0 x1 x2 hb
          have b2 : Boxed X2 _ _ _ := block_ext HE2.out Q2.out
          have b3 : Boxed X2 _ _ _ := block_ext HE2.out Q3.out
          have b4 : Boxed X2 _ _ _ := block_ext HE2.out Q4.out
          have b5 : Boxed X2 _ _ _ := block_ext HE2.out Q5.out
          have q2 := b2.cell; have q3 := b3.cell; have f2 := b2.frozen; have f3 := b3.frozen
          have hs2 := b2.lt; have hs3 := b3.lt
          have P2 := Lib.hid b2; have P3 := Lib.hid b3; have P4 := Lib.hid b4; have P5 := Lib.hid b5
          clear b2 b3 b4 b5
          gi_wp2
          refine ⟨((ext_keeps HE2.out).trans ((KeepsOthers.setCell _ _ _).trans (KeepsOthers.setCell _ _ _))).from _, (KeepC.ext HE2.out).trans ((KeepC.set _ (by simp) _).trans (KeepC.set _ (by simp) _)), ⟨⟨?_, ?_, ?_, ?_⟩, ?_⟩⟩
          · rw [HACC.out]; exact (P2.out.set _).other (B' := w.heap.size + 1 + 1 + 1) (by omega) _
          · rw [HACC.out]; exact Boxed.set _ (P3.out.other (B' := w.heap.size + 1 + 1) (by omega) _)
          · exact (P4.out.other (B' := w.heap.size + 1 + 1) (by omega) _).other (B' := w.heap.size + 1 + 1 + 1) (by omega) _
          · exact (P5.out.other (B' := w.heap.size + 1 + 1) (by omega) _).other (B' := w.heap.size + 1 + 1 + 1) (by omega) _
          · exact (HB2.out.setCell (p := ⟨w.heap.size + 1 + 1, 0, none⟩) (by simp; omega) _).setCell (p := ⟨w.heap.size + 1 + 1 + 1, 0, none⟩) (by simp; omega) _
        · have HACC := Lib.hid (show accO F n i lb wv (pre ++ [⟨(j, y), hx⟩]) = some m from by rw [HACC.out, if_neg hm])
          have hmd : decide (m < wvx) = false := decide_eq_false hm
          gi_wp2_with fail
          refine ⟨trivial, (CallsIn.inRound l (callsIn_wide.2 (HL.out _ hx _ HB.out))).mono ?_⟩
          rintro e X1 ⟨rfl, hb⟩
          rw [hlb]
          have HB1 := Lib.hid (HB.out.trans (hb.mono HB.out.size))
          have q4 := Boxed.cell (block_ext hb Q4.out); have q5 := Boxed.cell (block_ext hb Q5.out); have q2 := Boxed.cell (block_ext hb Q2.out); have q3 := Boxed.cell (block_ext hb Q3.out)
          have HE1 := Lib.hid hb
          have x0 := cell_of_row _ _ 0 _ _ _ (block_ext hb QX.out); have x1 := cell_of_row _ _ 1 _ _ _ (block_ext hb QX.out); have x2 := cell_of_row _ _ 2 _ _ _ (block_ext hb QX.out)
          simp at x0 x1 x2
          clear hb
          gi_wp2_with fail
          refine ⟨trivial, (CallsIn.inRound l (callsIn_wide.2 (HWV2.out _ HB1.out))).mono ?_⟩
          rintro e X2 ⟨rfl, hb⟩
          have HB2 := Lib.hid (HB1.out.trans (hb.mono HB1.out.size))
          have HE2 := Lib.hid (HE1.out.trans hb)
          clear q4 q5 q2 q3 x0 x1 x2 hb
          have b2 : Boxed X2 _ _ _ := block_ext HE2.out Q2.out
          have b3 : Boxed X2 _ _ _ := block_ext HE2.out Q3.out
          have b4 : Boxed X2 _ _ _ := block_ext HE2.out Q4.out
          have b5 : Boxed X2 _ _ _ := block_ext HE2.out Q5.out
          have q2 := b2.cell; have q3 := b3.cell; have f2 := b2.frozen; have f3 := b3.frozen
          have hs2 := b2.lt; have hs3 := b3.lt
          have P2 := Lib.hid b2; have P3 := Lib.hid b3; have P4 := Lib.hid b4; have P5 := Lib.hid b5
          clear b2 b3 b4 b5
          gi_wp2
          have HEND := HE2; have HBE := HB2
          refine ⟨(ext_keeps HEND.out).from _, KeepC.ext HEND.out, ⟨⟨?_, ?_, ?_, ?_⟩, HBE.out⟩⟩
          · rw [HACC.out]; exact block_ext HEND.out Q2.out
          · rw [HACC.out]; exact block_ext HEND.out Q3.out
          · exact block_ext HEND.out Q4.out
          · exact block_ext HEND.out Q5.out
  case done =>
    rintro D ys W hD hS ⟨⟨q2, q3, q4, q5⟩, hB⟩ hK
    have d2 := q2.cell
    have hfin : (accO F n i lb wv ys).getD 0 = gr (((partsL F n i).filter lb).map wv) := by unfold accO gr; rw [show pv F n i ys = partsL F n i from hS]
    rw [hfin] at d2
    have HK := Lib.hid hK; have HB := Lib.hid hB
    obtain ⟨G, hG⟩ : ∃ G, G = gr (((partsL F n i).filter lb).map wv) := ⟨_, rfl⟩
    rw [← hG] at d2
    have HG := Lib.hid hG
    clear hG hK q2 q3 q4 q5 hB hfin b2 b3 b4 b5
    gi_wp2
    refine ⟨by simp, .inl ⟨_, _, rfl, run_takeDeferred HK.out, ?_⟩⟩
    refine ⟨_, results_tmp rfl _ _ _, by rw [HG.out]; rfl, ?_⟩
    exact HB.out.trans (belowK_b (w := w) (Nat.le_refl _) _ D _ _ (by omega) HK.out rfl rfl)
  case stop =>
    rintro D c pre W _ _ h _
    exact h.elim
end Go.Proofs.Ytcgheakadfjofaa
namespace Go.Proofs.Ytcgheakadfjofaa
open Go.RowKit Go.Shelf
set_option linter.unusedVariables false
set_option linter.unusedSimpArgs false
attribute [local go_sem] Oper.semAt_some
set_option maxRecDepth 100000 in
set_option maxHeartbeats 8000000 in
theorem great_least (F : Nat → Nat → Int) (n Bp By b i : Nat) (Bo Bb : Nat) (vt vb : Value) (th bd : List Int) (r : Rl) (ps : List Int) (lb : Nat × Int → Bool) (wv : Nat × Int → Int) (hv : Vw th bd r) (hF : F = sF th bd r) (hn : th.length = n + 1) (w₀ : World) (hy : YardAt w₀ b vt vb th bd r ps)
    (w : World) (hw : Ext w₀ w) (hi : i < 61) (hp : w.cell? ⟨Bp, 0, none⟩ = some (.int .i64 (i : Int))) (hq : w.cell? ⟨By, 0, none⟩ = some (.pointer (some ⟨b, 0, none⟩)))
    (hl : ∀ p ∈ partsL F n i, ∀ X, Ext w X → Calls Try.prog 81 #[.pointer (some ⟨b, 0, none⟩), .agg #[.int .i64 (i : Int), .int .i64 (p.1 : Int), .int .i64 p.2]] X fun e w' => e = .returned (.bool (lb p)) ∧ Ext X w')
    (hwv : ∀ p ∈ partsL F n i, lb p = true → ∀ X, Ext w X → Calls Try.prog 88 #[.agg #[.int .i64 (i : Int), .int .i64 (p.1 : Int), .int .i64 p.2], .pointer (some ⟨Bo, 0, none⟩), .pointer (some ⟨Bb, 0, none⟩)] X fun e w' => e = .returned (.int .i64 (wv p)) ∧ Ext X w') :
    Calls Try.prog 83 #[.func (.func 90) #[] #[.pointer (some ⟨Bp, 0, none⟩), .pointer (some ⟨By, 0, none⟩)], .func (.func 81) #[.pointer (some ⟨b, 0, none⟩)] #[], .func (.func 88) #[] #[.pointer (some ⟨Bo, 0, none⟩), .pointer (some ⟨Bb, 0, none⟩)]] w fun e w' => e = .returned (.int .i64 (gr (((partsL F n i).filter lb).map wv))) ∧ Ext w w' := by
  refine (callsIn_wide (n := 10)).1 ?_
  have lp := lt_of_cell hp
  have lq := lt_of_cell hq
  have HL := Lib.hid hl; have HWV := Lib.hid hwv; have HY := Lib.hid hy; have HV := Lib.hid hv; have HF := Lib.hid hF; have HN := Lib.hid hn
  clear hl hwv hy hv hF hn
  refine callsIn_of_wp_marks Try.func83 rfl trivial ?_ rfl
  simp only [Try.ntmps83, List.size_toArray, List.length_cons, List.length_nil, Nat.reduceAdd, Nat.reduceSub, Array.replicate_succ, Array.replicate_zero, List.push_toArray, List.append_toArray, List.nil_append, List.cons_append]
  gi_wp2
  have b4 := (((Boxed.new w 111 (.func (.func 81) #[.pointer (some ⟨b, 0, none⟩)] #[])).alloc (.cells #[.func (.func 88) #[] #[.pointer (some ⟨Bo, 0, none⟩), .pointer (some ⟨Bb, 0, none⟩)]] 121)).alloc (.cells #[.int .i64 0] 2)).alloc (.cells #[.bool false] 4)
  have b5 := ((Boxed.new (w.alloc (.cells #[.func (.func 81) #[.pointer (some ⟨b, 0, none⟩)] #[]] 111)) 121 (.func (.func 88) #[] #[.pointer (some ⟨Bo, 0, none⟩), .pointer (some ⟨Bb, 0, none⟩)])).alloc (.cells #[.int .i64 0] 2)).alloc (.cells #[.bool false] 4)
  have b2 := (Boxed.new ((w.alloc (.cells #[.func (.func 81) #[.pointer (some ⟨b, 0, none⟩)] #[]] 111)).alloc (.cells #[.func (.func 88) #[] #[.pointer (some ⟨Bo, 0, none⟩), .pointer (some ⟨Bb, 0, none⟩)]] 121)) 2 (.int .i64 0)).alloc (.cells #[.bool false] 4)
  have b3 := Boxed.new (((w.alloc (.cells #[.func (.func 81) #[.pointer (some ⟨b, 0, none⟩)] #[]] 111)).alloc (.cells #[.func (.func 88) #[] #[.pointer (some ⟨Bo, 0, none⟩), .pointer (some ⟨Bb, 0, none⟩)]] 121)).alloc (.cells #[.int .i64 0] 2)) 4 (.bool false)
  have hB0 : Below w.heap.size w ((((w.alloc (.cells #[.func (.func 81) #[.pointer (some ⟨b, 0, none⟩)] #[]] 111)).alloc (.cells #[.func (.func 88) #[] #[.pointer (some ⟨Bo, 0, none⟩), .pointer (some ⟨Bb, 0, none⟩)]] 121)).alloc (.cells #[.int .i64 0] 2)).alloc (.cells #[.bool false] 4)) := ((((Ext.refl w).alloc _).alloc _).alloc _).alloc _
  have hsz : ((((w.alloc (.cells #[.func (.func 81) #[.pointer (some ⟨b, 0, none⟩)] #[]] 111)).alloc (.cells #[.func (.func 88) #[] #[.pointer (some ⟨Bo, 0, none⟩), .pointer (some ⟨Bb, 0, none⟩)]] 121)).alloc (.cells #[.int .i64 0] 2)).alloc (.cells #[.bool false] 4)).heap.size = w.heap.size + 4 := by simp
  simp only [World.size_alloc] at b5 b2 b3
  obtain ⟨W0, hW0⟩ : ∃ W0, ((((w.alloc (.cells #[.func (.func 81) #[.pointer (some ⟨b, 0, none⟩)] #[]] 111)).alloc (.cells #[.func (.func 88) #[] #[.pointer (some ⟨Bo, 0, none⟩), .pointer (some ⟨Bb, 0, none⟩)]] 121)).alloc (.cells #[.int .i64 0] 2)).alloc (.cells #[.bool false] 4)) = W0 := ⟨_, rfl⟩
  rw [hW0] at b4 b5 b2 b3 hB0 hsz ⊢
  clear hW0
  refine wpIn_rangeFunc_ownH rfl (by omega) (gf := 90) (lb := #[.pointer (some ⟨Bp, 0, none⟩), .pointer (some ⟨By, 0, none⟩)]) rfl trivial (enters_of Try.func90 (by kernel_rfl) rfl)
    (parts_stops F n 9 Bp By b i vt vb th bd r ps [w.heap.size + 1 + 1, w.heap.size + 1 + 1 + 1] HV.out HF.out HN.out (by omega) w₀ HY.out W0 (hw.trans hB0) (by have := hw.size; simp; omega) (by simp; omega) hi (cell_ext hB0 hp) (cell_ext hB0 hq)) KeepC.trans (fun W l o o' _ h1 h2 h3 => KeepC.put h1 h2) (Below.refl _ _) (fun _ => rfl)
    (fun pre W => (Boxed W (w.heap.size + 1 + 1) 2 (.int .i64 ((accO F n i lb wv pre).getD 0)) ∧ Boxed W (w.heap.size + 1 + 1 + 1) 4 (.bool (accO F n i lb wv pre).isSome) ∧ Boxed W w.heap.size 111 (.func (.func 81) #[.pointer (some ⟨b, 0, none⟩)] #[]) ∧ Boxed W (w.heap.size + 1) 121 (.func (.func 88) #[] #[.pointer (some ⟨Bo, 0, none⟩), .pointer (some ⟨Bb, 0, none⟩)])) ∧ Below w.heap.size w W)
    (fun _ _ _ => False)
    ?hI (fun _ _ _ _ _ h _ _ => h) ⟨⟨b2, b3, b4, b5⟩, hB0⟩
    (fun x a' W => ∃ Bx, W0.heap.size ≤ Bx ∧ W.heap[Bx]? = some (.cells #[.int .i64 (i : Int), .int .i64 (x.1.1 : Int), .int .i64 x.1.2] 110 (0, 0)) ∧ a' = { tmps := #[.func (.func 90) #[] #[.pointer (some ⟨Bp, 0, none⟩), .pointer (some ⟨By, 0, none⟩)], .func (.func 81) #[.pointer (some ⟨b, 0, none⟩)] #[], .func (.func 88) #[] #[.pointer (some ⟨Bo, 0, none⟩), .pointer (some ⟨Bb, 0, none⟩)], undef, .pointer (some ⟨w.heap.size, 0, none⟩), .pointer (some ⟨w.heap.size + 1, 0, none⟩), .int .i64 0, .pointer (some ⟨w.heap.size + 1 + 1, 0, none⟩), .pointer (some ⟨w.heap.size + 1 + 1 + 1, 0, none⟩), .pointer (some ⟨Bx, 0, none⟩), undef, .func (.func 90) #[] #[.pointer (some ⟨Bp, 0, none⟩), .pointer (some ⟨By, 0, none⟩)], .agg #[.int .i64 (i : Int), .int .i64 (x.1.1 : Int), .int .i64 x.1.2], undef, undef, undef, undef, undef, undef, undef, undef, undef, undef, undef, undef, undef, undef, undef, undef], defers := [] })
    ?hAx ?assign ?body ?done ?stop
  case hI => exact OwnFrom.and (fun s A B row hs hg hr => ⟨boxed_turn hs.1 hg hr, boxed_turn hs.2.1 hg hr, boxed_turn hs.2.2.1 hg hr, boxed_turn hs.2.2.2 hg hr⟩) (ownFrom_below (Nat.le_refl _) hB0.size)
  case hAx => exact fun x a' s A B row hs hg hr => let ⟨Bx, h1, h2, h3⟩ := hs; ⟨Bx, h1, cells_turn h2 hg hr, h3⟩
  case assign =>
    rintro l pre x W K ⟨⟨q2, q3, q4, q5⟩, hB⟩ hK
    dsimp only [encT]
    gi_wp2
    exact hK _ _ ((KeepsOthers.alloc _ _).from _) (KeepC.ext ((Ext.refl W).alloc _)) ⟨⟨q2.alloc _, q3.alloc _, q4.alloc _, q5.alloc _⟩, hB.alloc hB.size _⟩ ⟨W.heap.size, hsz ▸ (by have := q3.lt; omega), heap_alloc_new _ _, rfl⟩
  case body =>
    rintro l pre x a' W hlw ⟨rr, hrl⟩ ⟨⟨q2, q3, q4, q5⟩, hB⟩ ⟨Bx, hBx, bX, rfl⟩ hlt
    have hsnoc := accO_snoc F n i lb wv pre x
    obtain ⟨⟨j, y⟩, hx⟩ := x
    dsimp only at bX hsnoc ⊢
    have HACC0 := Lib.hid hsnoc
    have Q2 := Lib.hid q2; have Q3 := Lib.hid q3; have Q4 := Lib.hid q4; have Q5 := Lib.hid q5; have QX := Lib.hid bX; have HB := Lib.hid hB
    have q4 := q4.cell; have q5 := q5.cell
    have x0 := cell_of_row _ _ 0 _ _ _ bX; have x1 := cell_of_row _ _ 1 _ _ _ bX; have x2 := cell_of_row _ _ 2 _ _ _ bX
    simp at x0 x1 x2
    clear bX hB hrl hsnoc b2 b3 b4 b5 q2 q3
    cases hlb : lb (j, y)
    · have HACC := Lib.hid (show accO F n i lb wv (pre ++ [⟨(j, y), hx⟩]) = accO F n i lb wv pre from by rw [HACC0.out, hlb]; rfl)
      clear HACC0
      gi_wp2_with fail
      refine ⟨trivial, (CallsIn.inRound l (callsIn_wide.2 (HL.out _ hx _ HB.out))).mono ?_⟩
      rintro e X1 ⟨rfl, hb⟩
      rw [hlb]
      have HB1 := Lib.hid (HB.out.trans (hb.mono HB.out.size))
      have q4 := Boxed.cell (block_ext hb Q4.out); have q5 := Boxed.cell (block_ext hb Q5.out); have q2 := Boxed.cell (block_ext hb Q2.out); have q3 := Boxed.cell (block_ext hb Q3.out)
      have HE1 := Lib.hid hb
      have x0 := cell_of_row _ _ 0 _ _ _ (block_ext hb QX.out); have x1 := cell_of_row _ _ 1 _ _ _ (block_ext hb QX.out); have x2 := cell_of_row _ _ 2 _ _ _ (block_ext hb QX.out)
      simp at x0 x1 x2
      clear hb
      gi_wp2
      have HEND := HE1; have HBE := HB1
      refine ⟨(ext_keeps HEND.out).from _, KeepC.ext HEND.out, ⟨⟨?_, ?_, ?_, ?_⟩, HBE.out⟩⟩
      · rw [HACC.out]; exact block_ext HEND.out Q2.out
      · rw [HACC.out]; exact block_ext HEND.out Q3.out
      · exact block_ext HEND.out Q4.out
      · exact block_ext HEND.out Q5.out
    · have HACC := Lib.hid (show accO F n i lb wv (pre ++ [⟨(j, y), hx⟩]) = grS (accO F n i lb wv pre) (wv (j, y)) from by rw [HACC0.out, hlb]; rfl)
      clear HACC0
      have hwk := HWV.out (j, y) hx hlb
      generalize wv (j, y) = wvx at *
      have HWV2 := Lib.hid hwk
      clear hwk
      cases ha : accO F n i lb wv pre
      · rw [ha] at HACC Q2 Q3
        dsimp only [Option.getD_none, Option.isSome_none, grS] at HACC Q2 Q3
        clear ha
        gi_wp2_with fail
        refine ⟨trivial, (CallsIn.inRound l (callsIn_wide.2 (HL.out _ hx _ HB.out))).mono ?_⟩
        rintro e X1 ⟨rfl, hb⟩
        rw [hlb]
        have HB1 := Lib.hid (HB.out.trans (hb.mono HB.out.size))
        have q4 := Boxed.cell (block_ext hb Q4.out); have q5 := Boxed.cell (block_ext hb Q5.out); have q2 := Boxed.cell (block_ext hb Q2.out); have q3 := Boxed.cell (block_ext hb Q3.out)
        have HE1 := Lib.hid hb
        have x0 := cell_of_row _ _ 0 _ _ _ (block_ext hb QX.out); have x1 := cell_of_row _ _ 1 _ _ _ (block_ext hb QX.out); have x2 := cell_of_row _ _ 2 _ _ _ (block_ext hb QX.out)
        simp at x0 x1 x2
        clear hb
        gi_wp2_with fail
        refine ⟨trivial, (CallsIn.inRound l (callsIn_wide.2 (HWV2.out _ HB1.out))).mono ?_⟩
        rintro e X2 ⟨rfl, hb⟩
        have HB2 := Lib.hid (HB1.out.trans (hb.mono HB1.out.size))
        have HE2 := Lib.hid (HE1.out.trans hb)
        clear q4 q5 q2 q3 x0 x1 x2 hb
        have b2 : Boxed X2 _ _ _ := block_ext HE2.out Q2.out
        have b3 : Boxed X2 _ _ _ := block_ext HE2.out Q3.out
        have b4 : Boxed X2 _ _ _ := block_ext HE2.out Q4.out
        have b5 : Boxed X2 _ _ _ := block_ext HE2.out Q5.out
        have q2 := b2.cell; have q3 := b3.cell; have f2 := b2.frozen; have f3 := b3.frozen
        have hs2 := b2.lt; have hs3 := b3.lt
        have P2 := Lib.hid b2; have P3 := Lib.hid b3; have P4 := Lib.hid b4; have P5 := Lib.hid b5
        clear b2 b3 b4 b5
        gi_wp2
        refine ⟨((ext_keeps HE2.out).trans ((KeepsOthers.setCell _ _ _).trans (KeepsOthers.setCell _ _ _))).from _, (KeepC.ext HE2.out).trans ((KeepC.set _ (by simp) _).trans (KeepC.set _ (by simp) _)), ⟨⟨?_, ?_, ?_, ?_⟩, ?_⟩⟩
        · rw [HACC.out]; exact (P2.out.set _).other (B' := w.heap.size + 1 + 1 + 1) (by omega) _
        · rw [HACC.out]; exact Boxed.set _ (P3.out.other (B' := w.heap.size + 1 + 1) (by omega) _)
        · exact (P4.out.other (B' := w.heap.size + 1 + 1) (by omega) _).other (B' := w.heap.size + 1 + 1 + 1) (by omega) _
        · exact (P5.out.other (B' := w.heap.size + 1 + 1) (by omega) _).other (B' := w.heap.size + 1 + 1 + 1) (by omega) _
        · exact (HB2.out.setCell (p := ⟨w.heap.size + 1 + 1, 0, none⟩) (by simp; omega) _).setCell (p := ⟨w.heap.size + 1 + 1 + 1, 0, none⟩) (by simp; omega) _
      · rename_i m
        rw [ha] at HACC Q2 Q3
        dsimp only [Option.getD_some, Option.isSome_some, grS] at HACC Q2 Q3
        clear ha
        by_cases hm : m < wvx
        · have HACC := Lib.hid (show accO F n i lb wv (pre ++ [⟨(j, y), hx⟩]) = some wvx from by rw [HACC.out, if_pos hm])
          gi_wp2_with fail
          refine ⟨trivial, (CallsIn.inRound l (callsIn_wide.2 (HL.out _ hx _ HB.out))).mono ?_⟩
          rintro e X1 ⟨rfl, hb⟩
          rw [hlb]
          have HB1 := Lib.hid (HB.out.trans (hb.mono HB.out.size))
          have q4 := Boxed.cell (block_ext hb Q4.out); have q5 := Boxed.cell (block_ext hb Q5.out); have q2 := Boxed.cell (block_ext hb Q2.out); have q3 := Boxed.cell (block_ext hb Q3.out)
          have HE1 := Lib.hid hb
          have x0 := cell_of_row _ _ 0 _ _ _ (block_ext hb QX.out); have x1 := cell_of_row _ _ 1 _ _ _ (block_ext hb QX.out); have x2 := cell_of_row _ _ 2 _ _ _ (block_ext hb QX.out)
          simp at x0 x1 x2
          clear hb
          gi_wp2_with fail
          refine ⟨trivial, (CallsIn.inRound l (callsIn_wide.2 (HWV2.out _ HB1.out))).mono ?_⟩
          rintro e X2 ⟨rfl, hb⟩
          have HB2 := Lib.hid (HB1.out.trans (hb.mono HB1.out.size))
          have HE2 := Lib.hid (HE1.out.trans hb)
          clear q4 q5 q2 q3 x0 x1 x2 hb
          have b2 : Boxed X2 _ _ _ := block_ext HE2.out Q2.out
          have b3 : Boxed X2 _ _ _ := block_ext HE2.out Q3.out
          have b4 : Boxed X2 _ _ _ := block_ext HE2.out Q4.out
          have b5 : Boxed X2 _ _ _ := block_ext HE2.out Q5.out
          have q2 := b2.cell; have q3 := b3.cell; have f2 := b2.frozen; have f3 := b3.frozen
          have hs2 := b2.lt; have hs3 := b3.lt
          have P2 := Lib.hid b2; have P3 := Lib.hid b3; have P4 := Lib.hid b4; have P5 := Lib.hid b5
          clear b2 b3 b4 b5
          gi_wp2
          refine ⟨((ext_keeps HE2.out).trans ((KeepsOthers.setCell _ _ _).trans (KeepsOthers.setCell _ _ _))).from _, (KeepC.ext HE2.out).trans ((KeepC.set _ (by simp) _).trans (KeepC.set _ (by simp) _)), ⟨⟨?_, ?_, ?_, ?_⟩, ?_⟩⟩
          · rw [HACC.out]; exact (P2.out.set _).other (B' := w.heap.size + 1 + 1 + 1) (by omega) _
          · rw [HACC.out]; exact Boxed.set _ (P3.out.other (B' := w.heap.size + 1 + 1) (by omega) _)
          · exact (P4.out.other (B' := w.heap.size + 1 + 1) (by omega) _).other (B' := w.heap.size + 1 + 1 + 1) (by omega) _
          · exact (P5.out.other (B' := w.heap.size + 1 + 1) (by omega) _).other (B' := w.heap.size + 1 + 1 + 1) (by omega) _
          · exact (HB2.out.setCell (p := ⟨w.heap.size + 1 + 1, 0, none⟩) (by simp; omega) _).setCell (p := ⟨w.heap.size + 1 + 1 + 1, 0, none⟩) (by simp; omega) _
        · have HACC := Lib.hid (show accO F n i lb wv (pre ++ [⟨(j, y), hx⟩]) = some m from by rw [HACC.out, if_neg hm])
          have hmd : decide (m < wvx) = false := decide_eq_false hm
          gi_wp2_with fail
          refine ⟨trivial, (CallsIn.inRound l (callsIn_wide.2 (HL.out _ hx _ HB.out))).mono ?_⟩
          rintro e X1 ⟨rfl, hb⟩
          rw [hlb]
          have HB1 := Lib.hid (HB.out.trans (hb.mono HB.out.size))
          have q4 := Boxed.cell (block_ext hb Q4.out); have q5 := Boxed.cell (block_ext hb Q5.out); have q2 := Boxed.cell (block_ext hb Q2.out); have q3 := Boxed.cell (block_ext hb Q3.out)
          have HE1 := Lib.hid hb
          have x0 := cell_of_row _ _ 0 _ _ _ (block_ext hb QX.out); have x1 := cell_of_row _ _ 1 _ _ _ (block_ext hb QX.out); have x2 := cell_of_row _ _ 2 _ _ _ (block_ext hb QX.out)
          simp at x0 x1 x2
          clear hb
          gi_wp2_with fail
          refine ⟨trivial, (CallsIn.inRound l (callsIn_wide.2 (HWV2.out _ HB1.out))).mono ?_⟩
          rintro e X2 ⟨rfl, hb⟩
          have HB2 := Lib.hid (HB1.out.trans (hb.mono HB1.out.size))
          have HE2 := Lib.hid (HE1.out.trans hb)
          clear q4 q5 q2 q3 x0 x1 x2 hb
          have b2 : Boxed X2 _ _ _ := block_ext HE2.out Q2.out
          have b3 : Boxed X2 _ _ _ := block_ext HE2.out Q3.out
          have b4 : Boxed X2 _ _ _ := block_ext HE2.out Q4.out
          have b5 : Boxed X2 _ _ _ := block_ext HE2.out Q5.out
          have q2 := b2.cell; have q3 := b3.cell; have f2 := b2.frozen; have f3 := b3.frozen
          have hs2 := b2.lt; have hs3 := b3.lt
          have P2 := Lib.hid b2; have P3 := Lib.hid b3; have P4 := Lib.hid b4; have P5 := Lib.hid b5
          clear b2 b3 b4 b5
          gi_wp2
          have HEND := HE2; have HBE := HB2
          refine ⟨(ext_keeps HEND.out).from _, KeepC.ext HEND.out, ⟨⟨?_, ?_, ?_, ?_⟩, HBE.out⟩⟩
          · rw [HACC.out]; exact block_ext HEND.out Q2.out
          · rw [HACC.out]; exact block_ext HEND.out Q3.out
          · exact block_ext HEND.out Q4.out
          · exact block_ext HEND.out Q5.out
  case done =>
    rintro D ys W hD hS ⟨⟨q2, q3, q4, q5⟩, hB⟩ hK
    have d2 := q2.cell
    have hfin : (accO F n i lb wv ys).getD 0 = gr (((partsL F n i).filter lb).map wv) := by unfold accO gr; rw [show pv F n i ys = partsL F n i from hS]
    rw [hfin] at d2
    have HK := Lib.hid hK; have HB := Lib.hid hB
    obtain ⟨G, hG⟩ : ∃ G, G = gr (((partsL F n i).filter lb).map wv) := ⟨_, rfl⟩
    rw [← hG] at d2
    have HG := Lib.hid hG
    clear hG hK q2 q3 q4 q5 hB hfin b2 b3 b4 b5
    gi_wp2
    refine ⟨by simp, .inl ⟨_, _, rfl, run_takeDeferred HK.out, ?_⟩⟩
    refine ⟨_, results_tmp rfl _ _ _, by rw [HG.out]; rfl, ?_⟩
    exact HB.out.trans (belowK_b (w := w) (Nat.le_refl _) _ D _ _ (by omega) HK.out rfl rfl)
  case stop =>
    rintro D c pre W _ _ h _
    exact h.elim
end Go.Proofs.Ytcgheakadfjofaa
