/- The reference's Best. -/
import Derived.Test.YtcgheakadfjofaaD3
import Derived.Test.YtcgheakadfjofaaC7
import Derived.Deep.RegionHeld3
namespace Go.Proofs.Ytcgheakadfjofaa
open Go.RowKit Go.Shelf
set_option linter.unusedVariables false
set_option linter.unusedSimpArgs false
attribute [local go_sem] Oper.semAt_some
def bestV (th bd : List Int) (r : Rl) : Int := if bothE th bd r = 0 then bst (sF th bd r) allB (th.length - 1) 0 else 0
set_option maxRecDepth 100000 in
set_option maxHeartbeats 8000000 in
theorem refbest27 (vt vb : Value) (th bd : List Int) (r : Rl) (w : World) (ht : Reads w vt th) (hd : Reads w vb bd) :
    Calls Try.prog 27 #[.agg #[vt, vb], r.val] w fun e w' => e = .returned (.tuple #[.int .i64 (bestV th bd r), .int .i64 (bothE th bd r)]) ∧ Ext w w' := by
  have E0 := Lib.hid (Ext.alloc (Ext.alloc (Ext.refl w) (.cells #[vt, vb] 25)) (.cells #[.int .i64 r.lo, .int .i64 r.hi, .int .i64 r.st, .int .i64 r.tr, .int .i64 r.off, .int .i64 r.dv, .int .i64 r.tn] 27))
  have P0 := Lib.hid ((StemAt.new w (vt) (vb) 25).ext (Ext.alloc (Ext.refl _) (.cells #[.int .i64 r.lo, .int .i64 r.hi, .int .i64 r.st, .int .i64 r.tr, .int .i64 r.off, .int .i64 r.dv, .int .i64 r.tn] 27)))
  have R0 := RuleAt.new (w.alloc (.cells #[vt, vb] 25)) r 27
  rw [World.size_alloc] at R0
  have R0 := Lib.hid R0
  have H53 := Lib.hid (fun (W : World) (h : Ext w W) => refcheck53 _ _ th bd r W (ht.ext h) (hd.ext h))
  have hok : bothE th bd r = 0 → Vw th bd r ∧ ∃ m, th.length = m + 1 := fun h => by
    obtain ⟨h1, h2⟩ := bothE_ok.1 h
    exact ⟨h1.weak h2, th.length - 1, by have := h1.two; omega⟩
  have H63 := Lib.hid (show ∀ (W : World), Ext w W → bothE th bd r = 0 → Calls Try.prog 63 #[.agg #[vt, vb], r.val, .agg #[.int .i64 (-1), .int .i64 (-1)]] W (RestPost W (bst (sF th bd r) allB (th.length - 1)) (th.length - 1)) from fun W h h0 => by
    obtain ⟨h1, m, hm⟩ := hok h0
    have h2 := rest63 _ _ th bd r (-1) (-1) m W (ht.ext h) (hd.ext h) h1 hm
    rw [ltV_all] at h2
    rw [show th.length - 1 = m from by omega]
    exact h2)
  have hE := show bestV th bd r = if bothE th bd r = 0 then bst (sF th bd r) allB (th.length - 1) 0 else 0 from rfl
  generalize bestV th bd r = fe at *
  generalize bothE th bd r = BE at *
  obtain ⟨n, hn⟩ : ∃ n, n = th.length - 1 := ⟨_, rfl⟩
  rw [← hn] at H63 hE
  generalize bst (sF th bd r) allB n = q at *
  have HE := Lib.hid hE
  clear hok ht hd hE hn
  have ⟨g1, g2⟩ := P0.out
  have ⟨r0, r1, r2, r3, r4, r5, r6⟩ := R0.out
  go_enter Try.func27, Try.ntmps27
  go_wp2_with fail
  refine (H53.out _ E0.out).mono ?_
  rintro e w1 ⟨rfl, hb⟩
  have E2 := Lib.hid (E0.out.trans hb)
  have HB1 := Lib.hid hb
  clear hb g1 g2 r0 r1 r2 r3 r4 r5 r6
  have ⟨g1, g2⟩ := P0.out.ext (HB1.out)
  have ⟨r0, r1, r2, r3, r4, r5, r6⟩ := R0.out.ext (HB1.out)
  by_cases hz : BE = 0
  · have hzb : (BE != 0) = false := by simpa using hz
    have hre := Lib.hid (show fe = q 0 from by rw [HE.out, if_pos hz])
    have h63 := Lib.hid (fun W h => H63.out W h hz)
    have HZ := Lib.hid hz
    clear hz HE H63
    have HKP := Lib.hid (show ∀ X X' : World, (fun X : World => X.cell? ⟨w.heap.size, 0, none⟩ = some (vt) ∧ X.cell? ⟨w.heap.size, 1, none⟩ = some (vb) ∧ X.cell? ⟨w.heap.size + 1, 0, none⟩ = some (.int .i64 r.lo) ∧ X.cell? ⟨w.heap.size + 1, 1, none⟩ = some (.int .i64 r.hi) ∧ X.cell? ⟨w.heap.size + 1, 2, none⟩ = some (.int .i64 r.st) ∧ X.cell? ⟨w.heap.size + 1, 3, none⟩ = some (.int .i64 r.tr) ∧ X.cell? ⟨w.heap.size + 1, 4, none⟩ = some (.int .i64 r.off) ∧ X.cell? ⟨w.heap.size + 1, 5, none⟩ = some (.int .i64 r.dv) ∧ X.cell? ⟨w.heap.size + 1, 6, none⟩ = some (.int .i64 r.tn) ∧ Hid (Ext w X)) X → Ext X X' → (fun X : World => X.cell? ⟨w.heap.size, 0, none⟩ = some (vt) ∧ X.cell? ⟨w.heap.size, 1, none⟩ = some (vb) ∧ X.cell? ⟨w.heap.size + 1, 0, none⟩ = some (.int .i64 r.lo) ∧ X.cell? ⟨w.heap.size + 1, 1, none⟩ = some (.int .i64 r.hi) ∧ X.cell? ⟨w.heap.size + 1, 2, none⟩ = some (.int .i64 r.st) ∧ X.cell? ⟨w.heap.size + 1, 3, none⟩ = some (.int .i64 r.tr) ∧ X.cell? ⟨w.heap.size + 1, 4, none⟩ = some (.int .i64 r.off) ∧ X.cell? ⟨w.heap.size + 1, 5, none⟩ = some (.int .i64 r.dv) ∧ X.cell? ⟨w.heap.size + 1, 6, none⟩ = some (.int .i64 r.tn) ∧ Hid (Ext w X)) X' from fun X X' h hb => ⟨cell_ext hb h.1, cell_ext hb h.2.1, cell_ext hb h.2.2.1, cell_ext hb h.2.2.2.1, cell_ext hb h.2.2.2.2.1, cell_ext hb h.2.2.2.2.2.1, cell_ext hb h.2.2.2.2.2.2.1, cell_ext hb h.2.2.2.2.2.2.2.1, cell_ext hb h.2.2.2.2.2.2.2.2.1, Lib.hid (Ext.trans h.2.2.2.2.2.2.2.2.2.out hb)⟩)
    go_wp2
    refine wp_region_order (fun X : World => X.cell? ⟨w.heap.size, 0, none⟩ = some (vt) ∧ X.cell? ⟨w.heap.size, 1, none⟩ = some (vb) ∧ X.cell? ⟨w.heap.size + 1, 0, none⟩ = some (.int .i64 r.lo) ∧ X.cell? ⟨w.heap.size + 1, 1, none⟩ = some (.int .i64 r.hi) ∧ X.cell? ⟨w.heap.size + 1, 2, none⟩ = some (.int .i64 r.st) ∧ X.cell? ⟨w.heap.size + 1, 3, none⟩ = some (.int .i64 r.tr) ∧ X.cell? ⟨w.heap.size + 1, 4, none⟩ = some (.int .i64 r.off) ∧ X.cell? ⟨w.heap.size + 1, 5, none⟩ = some (.int .i64 r.dv) ∧ X.cell? ⟨w.heap.size + 1, 6, none⟩ = some (.int .i64 r.tn) ∧ Hid (Ext w X)) [0, 1, 2, 3, 4, 5, 6, 7] (by kernel_rfl) (by kernel_rfl) (by exact ⟨g1, g2, r0, r1, r2, r3, r4, r5, r6, Lib.hid E2.out.drew⟩) (fun hHeld => ?_)
    simp only [opsIn, List.filterMap_cons, List.filterMap_nil, List.getElem?_toArray, List.getElem?_cons_succ, List.getElem?_cons_zero]
    refine' text_chunk 2 (by kernel_rfl) hHeld ?ck1 ?cr1
    case ck1 =>
      intro W hSw
      have hSW := hSw
      try dsimp only at hSW
      clear hSw
      simp only [List.take_succ_cons, List.take_zero, List.drop_succ_cons, List.drop_zero]
      repeat (go_big_quiet_step (fail))
      exact wpQuiet_nil rfl
    simp only [List.take_succ_cons, List.take_zero, List.drop_succ_cons, List.drop_zero]
    refine text_call (by rfl) (by rfl) (fun K hK => ?_)
    go_simp
    (go_at_call 64; refine (all64 _).mono ?_; rintro e w5 ⟨rfl, hb⟩)
    all_goals (try (go_wp2_with fail))
    refine hK.out _ _ (by exact HKP.out _ _ hHeld hb) (fun hHeld => ?_)
    clear hK K
    try simp only [Act.put, List.setIfInBounds_toArray, List.set_cons_zero, List.set_cons_succ]
    refine text_call_more (by rfl) (by rfl) (fun K hK => ?_)
    go_simp
    (go_at_call 63; refine (h63.out _ (of_and10 hHeld)).mono ?_; rintro e w6 ⟨b, rfl, hro⟩; have hb := hro.ext0; have c0 := hro.cell (k := 0) (by rw [rowK_len]; omega); rw [rowK_get _ (Nat.zero_le _) (by omega)] at c0; clear hro)
    all_goals (try (go_wp2_with fail))
    refine hK.out (fun X : World => X.cell? ⟨b, 0, none⟩ = some (.int .i64 (q 0)) ∧ X.cell? ⟨w.heap.size, 0, none⟩ = some (vt) ∧ X.cell? ⟨w.heap.size, 1, none⟩ = some (vb) ∧ X.cell? ⟨w.heap.size + 1, 0, none⟩ = some (.int .i64 r.lo) ∧ X.cell? ⟨w.heap.size + 1, 1, none⟩ = some (.int .i64 r.hi) ∧ X.cell? ⟨w.heap.size + 1, 2, none⟩ = some (.int .i64 r.st) ∧ X.cell? ⟨w.heap.size + 1, 3, none⟩ = some (.int .i64 r.tr) ∧ X.cell? ⟨w.heap.size + 1, 4, none⟩ = some (.int .i64 r.off) ∧ X.cell? ⟨w.heap.size + 1, 5, none⟩ = some (.int .i64 r.dv) ∧ X.cell? ⟨w.heap.size + 1, 6, none⟩ = some (.int .i64 r.tn) ∧ Hid (Ext w X)) _ _ (fun W h => h.2) (by exact ⟨c0, HKP.out _ _ hHeld hb⟩) (fun hHeld => ?_)
    clear hK K
    try simp only [Act.put, List.setIfInBounds_toArray, List.set_cons_zero, List.set_cons_succ]
    refine' text_chunk 4 (by kernel_rfl) hHeld ?ck2 ?cr2
    case ck2 =>
      intro W hSw
      have hSW := hSw
      try dsimp only at hSW
      clear hSw
      simp only [List.take_succ_cons, List.take_zero, List.drop_succ_cons, List.drop_zero]
      repeat (go_big_quiet_step (fail))
      exact wpQuiet_nil rfl
    simp only [List.take_succ_cons, List.take_zero, List.drop_succ_cons, List.drop_zero]
    refine text_done ?_
    have HL := hHeld.2.2.2.2.2.2.2.2.2.2
    clear hHeld
    go_wp2
    go_ret2
    exact ⟨by rw [hre.out, HZ.out]; rfl, HL.out⟩
  · have hzb : (BE != 0) = true := by simpa using hz
    have hre := Lib.hid (show fe = 0 from by rw [HE.out, if_neg hz])
    clear hz HE H63
    go_wp2_with fail
    refine (H53.out _ E2.out).mono ?_
    rintro e w2 ⟨rfl, hb⟩
    have E3 := Lib.hid (E2.out.trans hb)
    clear hb
    go_wp2
    go_ret2
    exact ⟨by rw [hre.out]; rfl, E3.out⟩
end Go.Proofs.Ytcgheakadfjofaa
