/- The reference's upTo, and Loss. -/
import Derived.Test.YtcgheakadfjofaaP1
import Derived.Test.YtcgheakadfjofaaH5
namespace Go.Proofs.Ytcgheakadfjofaa
open Go.RowKit Go.Shelf
set_option linter.unusedVariables false
set_option linter.unusedSimpArgs false
attribute [local go_sem] Oper.semAt_some
set_option maxRecDepth 100000 in
set_option maxHeartbeats 4000000 in
theorem upto85 (vt vb : Value) (th bd : List Int) (r : Rl) (p : Nat) (w : World) (ht : Reads w vt th) (hd : Reads w vb bd) (hE : bothE th bd r = 0) (hp : p ≤ th.length - 1) :
    Calls Try.prog 85 #[.agg #[vt, vb], r.val, .int .i64 (p : Int)] w fun e w' => e = .returned (.int .i64 (bst (sF th bd r) allB p 0)) ∧ Ext w w' := by
  obtain ⟨hl, a, cap, rfl⟩ := ht.shape
  obtain ⟨q1, q2⟩ := vs_len hE
  obtain ⟨hvs, hvr⟩ := bothE_ok.1 hE
  have h92 := fun (W : World) (h : Ext w W) => behind92 _ _ th bd p W (ht.ext h) (hd.ext h) q1 q2
  have hbl := vs_badL hvs fun i => hitB (decide (p ≤ i)) bd i
  have hq := bst_behind (r := r) hvs rfl hp (p := fun i => hitB (decide (p ≤ i)) bd i) fun i => by rw [hitB_iff, decide_eq_true_eq]
  rw [← hq]
  generalize badL (th.length - 1) (fun i => hitB (decide (p ≤ i)) bd i) = bl at *
  have h63 : ∀ (W : World) (v : Value), Ext w W → Reads W v bl → Calls Try.prog 63 #[.agg #[.slice a th.length cap, v], r.val, .agg #[.int .i64 (-1), .int .i64 (-1)]] W (RestPost W (bst (sF th bl r) allB (th.length - 1)) (th.length - 1)) := fun W v h h1 => by
    have h2 := rest63 _ _ th bl r (-1) (-1) (th.length - 1) W (ht.ext h) h1 (hbl.weak hvr) (by omega)
    rw [ltV_all] at h2
    exact h2
  generalize bst (sF th bl r) allB (th.length - 1) = q at *
  obtain ⟨n, hn⟩ : ∃ n, n = th.length := ⟨_, rfl⟩
  rw [← hn] at h92 h63 hl ⊢
  obtain ⟨m, hm⟩ : ∃ m, m = n - 1 := ⟨_, rfl⟩
  rw [← hm] at h63
  have h92 := Lib.hid h92; have h63 := Lib.hid h63
  clear ht hd hE hp hvs hvr hbl hq hn hm q1 q2
  have E0 := Lib.hid (Ext.alloc (Ext.alloc (Ext.refl w) (.cells #[.slice a n cap, vb] 25)) (.cells #[.int .i64 r.lo, .int .i64 r.hi, .int .i64 r.st, .int .i64 r.tr, .int .i64 r.off, .int .i64 r.dv, .int .i64 r.tn] 27))
  have P0 := Lib.hid ((StemAt.new w (.slice a n cap) (vb) 25).ext (Ext.alloc (Ext.refl _) (.cells #[.int .i64 r.lo, .int .i64 r.hi, .int .i64 r.st, .int .i64 r.tr, .int .i64 r.off, .int .i64 r.dv, .int .i64 r.tn] 27)))
  have R0 := RuleAt.new (w.alloc (.cells #[.slice a n cap, vb] 25)) r 27
  rw [World.size_alloc] at R0
  have R0 := Lib.hid R0
  have ⟨g1, g2⟩ := P0.out
  have ⟨r0, r1, r2, r3, r4, r5, r6⟩ := R0.out
  go_enter Try.func85, Try.ntmps85
  go_wp2_with fail
  have HKP := Lib.hid (show ∀ X X' : World, (fun X : World => X.cell? ⟨w.heap.size, 0, none⟩ = some (.slice a n cap) ∧ X.cell? ⟨w.heap.size, 1, none⟩ = some (vb) ∧ X.cell? ⟨w.heap.size + 1, 0, none⟩ = some (.int .i64 r.lo) ∧ X.cell? ⟨w.heap.size + 1, 1, none⟩ = some (.int .i64 r.hi) ∧ X.cell? ⟨w.heap.size + 1, 2, none⟩ = some (.int .i64 r.st) ∧ X.cell? ⟨w.heap.size + 1, 3, none⟩ = some (.int .i64 r.tr) ∧ X.cell? ⟨w.heap.size + 1, 4, none⟩ = some (.int .i64 r.off) ∧ X.cell? ⟨w.heap.size + 1, 5, none⟩ = some (.int .i64 r.dv) ∧ X.cell? ⟨w.heap.size + 1, 6, none⟩ = some (.int .i64 r.tn) ∧ Hid (Ext w X)) X → Ext X X' → (fun X : World => X.cell? ⟨w.heap.size, 0, none⟩ = some (.slice a n cap) ∧ X.cell? ⟨w.heap.size, 1, none⟩ = some (vb) ∧ X.cell? ⟨w.heap.size + 1, 0, none⟩ = some (.int .i64 r.lo) ∧ X.cell? ⟨w.heap.size + 1, 1, none⟩ = some (.int .i64 r.hi) ∧ X.cell? ⟨w.heap.size + 1, 2, none⟩ = some (.int .i64 r.st) ∧ X.cell? ⟨w.heap.size + 1, 3, none⟩ = some (.int .i64 r.tr) ∧ X.cell? ⟨w.heap.size + 1, 4, none⟩ = some (.int .i64 r.off) ∧ X.cell? ⟨w.heap.size + 1, 5, none⟩ = some (.int .i64 r.dv) ∧ X.cell? ⟨w.heap.size + 1, 6, none⟩ = some (.int .i64 r.tn) ∧ Hid (Ext w X)) X' from fun X X' h hb => ⟨cell_ext hb h.1, cell_ext hb h.2.1, cell_ext hb h.2.2.1, cell_ext hb h.2.2.2.1, cell_ext hb h.2.2.2.2.1, cell_ext hb h.2.2.2.2.2.1, cell_ext hb h.2.2.2.2.2.2.1, cell_ext hb h.2.2.2.2.2.2.2.1, cell_ext hb h.2.2.2.2.2.2.2.2.1, Lib.hid (Ext.trans h.2.2.2.2.2.2.2.2.2.out hb)⟩)
  refine wp_region_order (fun X : World => X.cell? ⟨w.heap.size, 0, none⟩ = some (.slice a n cap) ∧ X.cell? ⟨w.heap.size, 1, none⟩ = some (vb) ∧ X.cell? ⟨w.heap.size + 1, 0, none⟩ = some (.int .i64 r.lo) ∧ X.cell? ⟨w.heap.size + 1, 1, none⟩ = some (.int .i64 r.hi) ∧ X.cell? ⟨w.heap.size + 1, 2, none⟩ = some (.int .i64 r.st) ∧ X.cell? ⟨w.heap.size + 1, 3, none⟩ = some (.int .i64 r.tr) ∧ X.cell? ⟨w.heap.size + 1, 4, none⟩ = some (.int .i64 r.off) ∧ X.cell? ⟨w.heap.size + 1, 5, none⟩ = some (.int .i64 r.dv) ∧ X.cell? ⟨w.heap.size + 1, 6, none⟩ = some (.int .i64 r.tn) ∧ Hid (Ext w X)) [0, 1, 2, 3, 6, 4, 5, 7, 8, 9, 10, 11] (by kernel_rfl) (by kernel_rfl) (by exact ⟨g1, g2, r0, r1, r2, r3, r4, r5, r6, Lib.hid E0.out.drew⟩) (fun hHeld => ?_)
  simp only [opsIn, List.filterMap_cons, List.filterMap_nil, List.getElem?_toArray, List.getElem?_cons_succ, List.getElem?_cons_zero]
  refine' text_chunk 5 (by kernel_rfl) hHeld ?ck1 ?cr1
  case ck1 =>
    intro W hSw
    have hSW := hSw
    try dsimp only at hSW
    clear hSw
    simp only [List.take_succ_cons, List.take_zero, List.drop_succ_cons, List.drop_zero]
    repeat (go_big_quiet_step (fail))
    exact wpQuiet_nil rfl
  simp only [List.take_succ_cons, List.take_zero, List.drop_succ_cons, List.drop_zero]
  refine text_call_more (by rfl) (by rfl) (fun K hK => ?_)
  go_simp
  (go_at_call 92; refine (h92.out _ (of_and10 hHeld)).mono ?_; rintro e w5 ⟨vv, rfl, hrd, hb⟩; obtain ⟨hl9, a9, cap9, rfl⟩ := hrd.shape; obtain ⟨n9, hn9⟩ : ∃ m, m = bl.length := ⟨_, rfl⟩; rw [← hn9] at hrd ⊢; clear hn9)
  all_goals (try (go_wp2_with fail))
  refine hK.out (fun X : World => Hid (Reads X (.slice a9 n9 cap9) bl) ∧ (fun X : World => X.cell? ⟨w.heap.size, 0, none⟩ = some (.slice a n cap) ∧ X.cell? ⟨w.heap.size, 1, none⟩ = some (vb) ∧ X.cell? ⟨w.heap.size + 1, 0, none⟩ = some (.int .i64 r.lo) ∧ X.cell? ⟨w.heap.size + 1, 1, none⟩ = some (.int .i64 r.hi) ∧ X.cell? ⟨w.heap.size + 1, 2, none⟩ = some (.int .i64 r.st) ∧ X.cell? ⟨w.heap.size + 1, 3, none⟩ = some (.int .i64 r.tr) ∧ X.cell? ⟨w.heap.size + 1, 4, none⟩ = some (.int .i64 r.off) ∧ X.cell? ⟨w.heap.size + 1, 5, none⟩ = some (.int .i64 r.dv) ∧ X.cell? ⟨w.heap.size + 1, 6, none⟩ = some (.int .i64 r.tn) ∧ Hid (Ext w X)) X) _ _ (fun W h => h.2) (by exact ⟨Lib.hid hrd, HKP.out _ _ hHeld hb⟩) (fun hHeld => ?_)
  clear hK K
  try simp only [Act.put, List.setIfInBounds_toArray, List.set_cons_zero, List.set_cons_succ]
  refine' text_chunk 1 (by kernel_rfl) hHeld ?ck2 ?cr2
  case ck2 =>
    intro W hSw
    have hSW := hSw
    try dsimp only at hSW
    clear hSw
    simp only [List.take_succ_cons, List.take_zero, List.drop_succ_cons, List.drop_zero]
    repeat (go_big_quiet_step (fail))
    exact wpQuiet_nil rfl
  simp only [List.take_succ_cons, List.take_zero, List.drop_succ_cons, List.drop_zero]
  refine text_call (by rfl) (by rfl) (fun K hK => ?_)
  go_simp
  (go_at_call 64; refine (all64 _).mono ?_; rintro e w6 ⟨rfl, hb⟩)
  all_goals (try (go_wp2_with fail))
  refine hK.out _ _ (by exact ⟨Lib.hid (hHeld.1.out.ext hb), HKP.out _ _ hHeld.2 hb⟩) (fun hHeld => ?_)
  clear hK K
  try simp only [Act.put, List.setIfInBounds_toArray, List.set_cons_zero, List.set_cons_succ]
  refine text_call_more (by rfl) (by rfl) (fun K hK => ?_)
  go_simp
  (go_at_call 63; refine (h63.out _ _ (of_and10 hHeld.2) hHeld.1.out).mono ?_; rintro e w7 ⟨b, rfl, hro⟩; have hb := hro.ext0; have c0 := hro.cell (k := 0) (by rw [rowK_len]; omega); rw [rowK_get _ (Nat.zero_le _) (by omega)] at c0; clear hro)
  all_goals (try (go_wp2_with fail))
  refine hK.out (fun X : World => X.cell? ⟨b, 0, none⟩ = some (.int .i64 (q 0)) ∧ Hid (Reads X (.slice a9 n9 cap9) bl) ∧ (fun X : World => X.cell? ⟨w.heap.size, 0, none⟩ = some (.slice a n cap) ∧ X.cell? ⟨w.heap.size, 1, none⟩ = some (vb) ∧ X.cell? ⟨w.heap.size + 1, 0, none⟩ = some (.int .i64 r.lo) ∧ X.cell? ⟨w.heap.size + 1, 1, none⟩ = some (.int .i64 r.hi) ∧ X.cell? ⟨w.heap.size + 1, 2, none⟩ = some (.int .i64 r.st) ∧ X.cell? ⟨w.heap.size + 1, 3, none⟩ = some (.int .i64 r.tr) ∧ X.cell? ⟨w.heap.size + 1, 4, none⟩ = some (.int .i64 r.off) ∧ X.cell? ⟨w.heap.size + 1, 5, none⟩ = some (.int .i64 r.dv) ∧ X.cell? ⟨w.heap.size + 1, 6, none⟩ = some (.int .i64 r.tn) ∧ Hid (Ext w X)) X) _ _ (fun W h => h.2) (by exact ⟨c0, Lib.hid (hHeld.1.out.ext hb), HKP.out _ _ hHeld.2 hb⟩) (fun hHeld => ?_)
  clear hK K
  try simp only [Act.put, List.setIfInBounds_toArray, List.set_cons_zero, List.set_cons_succ]
  refine' text_chunk 3 (by kernel_rfl) hHeld ?ck3 ?cr3
  case ck3 =>
    intro W hSw
    have hSW := hSw
    try dsimp only at hSW
    clear hSw
    simp only [List.take_succ_cons, List.take_zero, List.drop_succ_cons, List.drop_zero]
    repeat (go_big_quiet_step (fail))
    exact wpQuiet_nil rfl
  simp only [List.take_succ_cons, List.take_zero, List.drop_succ_cons, List.drop_zero]
  refine text_done ?_
  have HL := hHeld.2.2.2.2.2.2.2.2.2.2.2
  clear hHeld
  go_wp2
  go_ret
  exact ⟨rfl, HL.out⟩
set_option maxRecDepth 100000 in
set_option maxHeartbeats 4000000 in
theorem refloss37 (vt vb : Value) (th bd : List Int) (r : Rl) (p : Int) (w : World) (ht : Reads w vt th) (hd : Reads w vb bd) :
    Calls Try.prog 37 #[.agg #[vt, vb], r.val, .int .i64 p] w fun e w' => e = .returned (.tuple #[.int .i64 (lossE th bd r p).1, .int .i64 (lossE th bd r p).2]) ∧ Ext w w' := by
  obtain ⟨hl, a, cap, rfl⟩ := ht.shape
  have H73 := Lib.hid (fun (W : World) (h : Ext w W) => placed73 _ _ th bd r p W (ht.ext h) (hd.ext h))
  by_cases hz : placedE th bd r [p] = 0
  · obtain ⟨hE, hp0, hp1⟩ := placedE_one hz
    obtain ⟨p, rfl⟩ := Int.eq_ofNat_of_zero_le hp0
    obtain ⟨q1, q2⟩ := vs_len hE
    have hvw := (bothE_ok.1 hE).1.weak (bothE_ok.1 hE).2
    have h63 : ∀ (W : World), Ext w W → Calls Try.prog 63 #[.agg #[.slice a th.length cap, vb], r.val, .agg #[.int .i64 (-1), .int .i64 (-1)]] W (RestPost W (bst (sF th bd r) allB (th.length - 1)) (th.length - 1)) := fun W h => by
      have h2 := rest63 _ _ th bd r (-1) (-1) (th.length - 1) W (ht.ext h) (hd.ext h) hvw (by omega)
      rw [ltV_all] at h2
      exact h2
    have h63b : ∀ (W : World), Ext w W → Calls Try.prog 63 #[.agg #[.slice a th.length cap, vb], r.val, .agg #[.int .i64 (p : Int), .int .i64 (-1)]] W (RestPost W (bst (sF th bd r) (overB p) (th.length - 1)) (th.length - 1)) := fun W h => by
      have h2 := rest63 _ _ th bd r (p : Int) (-1) (th.length - 1) W (ht.ext h) (hd.ext h) hvw (by omega)
      rw [ltV_over] at h2
      exact h2
    have hle : (lossE th bd r (p : Int)) = (bst (sF th bd r) allB (th.length - 1) 0 - bst (sF th bd r) (overB p) (th.length - 1) 0, 0) := by
      rw [lossE_ok hE (by omega), bst_over (show p ≤ th.length - 1 by omega)]
      congr 1; omega
    have hb1 := bst_M (th := th) (bd := bd) (r := r) hvw (n := th.length - 1) (by omega) allB 0
    have hb2 := bst_M (th := th) (bd := bd) (r := r) hvw (n := th.length - 1) (by omega) (overB p) 0
    rw [hle]
    rw [hz] at H73
    generalize bst (sF th bd r) allB (th.length - 1) = q at *
    generalize bst (sF th bd r) (overB p) (th.length - 1) = q' at *
    have hw1 : IntKind.i64.wrap (q 0 - q' 0) = q 0 - q' 0 := wrapi64 _ (by omega) (by omega)
    obtain ⟨n, hn⟩ : ∃ n, n = th.length := ⟨_, rfl⟩
    rw [← hn] at H73 h63 h63b hl ⊢
    obtain ⟨m, hm⟩ : ∃ m, m = n - 1 := ⟨_, rfl⟩
    rw [← hm] at h63 h63b
    have h63 := Lib.hid h63; have h63b := Lib.hid h63b
    clear ht hd hE hp0 hp1 hvw hle hn hm q1 q2 hz
    have E0 := Lib.hid (Ext.alloc (Ext.alloc (Ext.refl w) (.cells #[.slice a n cap, vb] 25)) (.cells #[.int .i64 r.lo, .int .i64 r.hi, .int .i64 r.st, .int .i64 r.tr, .int .i64 r.off, .int .i64 r.dv, .int .i64 r.tn] 27))
    have P0 := Lib.hid ((StemAt.new w (.slice a n cap) (vb) 25).ext (Ext.alloc (Ext.refl _) (.cells #[.int .i64 r.lo, .int .i64 r.hi, .int .i64 r.st, .int .i64 r.tr, .int .i64 r.off, .int .i64 r.dv, .int .i64 r.tn] 27)))
    have R0 := RuleAt.new (w.alloc (.cells #[.slice a n cap, vb] 25)) r 27
    rw [World.size_alloc] at R0
    have R0 := Lib.hid R0
    have ⟨g1, g2⟩ := P0.out
    have ⟨r0, r1, r2, r3, r4, r5, r6⟩ := R0.out
    go_enter Try.func37, Try.ntmps37
    go_wp2_with fail
    refine (H73.out _ E0.out).mono ?_
    rintro e w1 ⟨rfl, hb⟩
    have E2 := Lib.hid (E0.out.trans hb)
    have HB1 := Lib.hid hb
    clear hb g1 g2 r0 r1 r2 r3 r4 r5 r6
    have ⟨g1, g2⟩ := P0.out.ext (HB1.out)
    have ⟨r0, r1, r2, r3, r4, r5, r6⟩ := R0.out.ext (HB1.out)
    have HKP := Lib.hid (show ∀ X X' : World, (fun X : World => X.cell? ⟨w.heap.size, 0, none⟩ = some (.slice a n cap) ∧ X.cell? ⟨w.heap.size, 1, none⟩ = some (vb) ∧ X.cell? ⟨w.heap.size + 1, 0, none⟩ = some (.int .i64 r.lo) ∧ X.cell? ⟨w.heap.size + 1, 1, none⟩ = some (.int .i64 r.hi) ∧ X.cell? ⟨w.heap.size + 1, 2, none⟩ = some (.int .i64 r.st) ∧ X.cell? ⟨w.heap.size + 1, 3, none⟩ = some (.int .i64 r.tr) ∧ X.cell? ⟨w.heap.size + 1, 4, none⟩ = some (.int .i64 r.off) ∧ X.cell? ⟨w.heap.size + 1, 5, none⟩ = some (.int .i64 r.dv) ∧ X.cell? ⟨w.heap.size + 1, 6, none⟩ = some (.int .i64 r.tn) ∧ Hid (Ext w X)) X → Ext X X' → (fun X : World => X.cell? ⟨w.heap.size, 0, none⟩ = some (.slice a n cap) ∧ X.cell? ⟨w.heap.size, 1, none⟩ = some (vb) ∧ X.cell? ⟨w.heap.size + 1, 0, none⟩ = some (.int .i64 r.lo) ∧ X.cell? ⟨w.heap.size + 1, 1, none⟩ = some (.int .i64 r.hi) ∧ X.cell? ⟨w.heap.size + 1, 2, none⟩ = some (.int .i64 r.st) ∧ X.cell? ⟨w.heap.size + 1, 3, none⟩ = some (.int .i64 r.tr) ∧ X.cell? ⟨w.heap.size + 1, 4, none⟩ = some (.int .i64 r.off) ∧ X.cell? ⟨w.heap.size + 1, 5, none⟩ = some (.int .i64 r.dv) ∧ X.cell? ⟨w.heap.size + 1, 6, none⟩ = some (.int .i64 r.tn) ∧ Hid (Ext w X)) X' from fun X X' h hb => ⟨cell_ext hb h.1, cell_ext hb h.2.1, cell_ext hb h.2.2.1, cell_ext hb h.2.2.2.1, cell_ext hb h.2.2.2.2.1, cell_ext hb h.2.2.2.2.2.1, cell_ext hb h.2.2.2.2.2.2.1, cell_ext hb h.2.2.2.2.2.2.2.1, cell_ext hb h.2.2.2.2.2.2.2.2.1, Lib.hid (Ext.trans h.2.2.2.2.2.2.2.2.2.out hb)⟩)
    go_wp2_with fail
    refine wp_region_order (fun X : World => X.cell? ⟨w.heap.size, 0, none⟩ = some (.slice a n cap) ∧ X.cell? ⟨w.heap.size, 1, none⟩ = some (vb) ∧ X.cell? ⟨w.heap.size + 1, 0, none⟩ = some (.int .i64 r.lo) ∧ X.cell? ⟨w.heap.size + 1, 1, none⟩ = some (.int .i64 r.hi) ∧ X.cell? ⟨w.heap.size + 1, 2, none⟩ = some (.int .i64 r.st) ∧ X.cell? ⟨w.heap.size + 1, 3, none⟩ = some (.int .i64 r.tr) ∧ X.cell? ⟨w.heap.size + 1, 4, none⟩ = some (.int .i64 r.off) ∧ X.cell? ⟨w.heap.size + 1, 5, none⟩ = some (.int .i64 r.dv) ∧ X.cell? ⟨w.heap.size + 1, 6, none⟩ = some (.int .i64 r.tn) ∧ Hid (Ext w X)) [0, 1, 6, 7, 8, 9, 2, 3, 4, 5, 10, 11, 12, 13, 14, 15] (by kernel_rfl) (by kernel_rfl) (by exact ⟨g1, g2, r0, r1, r2, r3, r4, r5, r6, Lib.hid E2.out.drew⟩) (fun hHeld => ?_)
    simp only [opsIn, List.filterMap_cons, List.filterMap_nil, List.getElem?_toArray, List.getElem?_cons_succ, List.getElem?_cons_zero]
    refine' text_chunk 6 (by kernel_rfl) hHeld ?ck4 ?cr4
    case ck4 =>
      intro W hSw
      have hSW := hSw
      try dsimp only at hSW
      clear hSw
      simp only [List.take_succ_cons, List.take_zero, List.drop_succ_cons, List.drop_zero]
      repeat (go_big_quiet_step (fail))
      exact wpQuiet_nil rfl
    simp only [List.take_succ_cons, List.take_zero, List.drop_succ_cons, List.drop_zero]
    refine text_call (by rfl) (by rfl) (fun K hK => ?_)
    go_simp
    (go_at_call 64; refine (all64 _).mono ?_; rintro e w5 ⟨rfl, hb⟩)
    all_goals (try (go_wp2_with fail))
    refine hK.out _ _ (by exact HKP.out _ _ hHeld hb) (fun hHeld => ?_)
    clear hK K
    try simp only [Act.put, List.setIfInBounds_toArray, List.set_cons_zero, List.set_cons_succ]
    refine text_call_more (by rfl) (by rfl) (fun K hK => ?_)
    go_simp
    (go_at_call 63; refine (h63.out _ (of_and10 hHeld)).mono ?_; rintro e w6 ⟨b, rfl, hro⟩; have hb := hro.ext0; have c0 := hro.cell (k := 0) (by rw [rowK_len]; omega); rw [rowK_get _ (Nat.zero_le _) (by omega)] at c0; clear hro)
    all_goals (try (go_wp2_with fail))
    refine hK.out (fun X : World => X.cell? ⟨b, 0, none⟩ = some (.int .i64 (q 0)) ∧ X.cell? ⟨w.heap.size, 0, none⟩ = some (.slice a n cap) ∧ X.cell? ⟨w.heap.size, 1, none⟩ = some (vb) ∧ X.cell? ⟨w.heap.size + 1, 0, none⟩ = some (.int .i64 r.lo) ∧ X.cell? ⟨w.heap.size + 1, 1, none⟩ = some (.int .i64 r.hi) ∧ X.cell? ⟨w.heap.size + 1, 2, none⟩ = some (.int .i64 r.st) ∧ X.cell? ⟨w.heap.size + 1, 3, none⟩ = some (.int .i64 r.tr) ∧ X.cell? ⟨w.heap.size + 1, 4, none⟩ = some (.int .i64 r.off) ∧ X.cell? ⟨w.heap.size + 1, 5, none⟩ = some (.int .i64 r.dv) ∧ X.cell? ⟨w.heap.size + 1, 6, none⟩ = some (.int .i64 r.tn) ∧ Hid (Ext w X)) _ _ (fun W h => h.2) (by exact ⟨c0, HKP.out _ _ hHeld hb⟩) (fun hHeld => ?_)
    clear hK K
    try simp only [Act.put, List.setIfInBounds_toArray, List.set_cons_zero, List.set_cons_succ]
    refine' text_chunk 2 (by kernel_rfl) hHeld ?ck5 ?cr5
    case ck5 =>
      intro W hSw
      have hSW := hSw
      try dsimp only at hSW
      clear hSw
      simp only [List.take_succ_cons, List.take_zero, List.drop_succ_cons, List.drop_zero]
      repeat (go_big_quiet_step (fail))
      exact wpQuiet_nil rfl
    simp only [List.take_succ_cons, List.take_zero, List.drop_succ_cons, List.drop_zero]
    refine text_call_more (by rfl) (by rfl) (fun K hK => ?_)
    go_simp
    (go_at_call 63; refine (h63b.out _ (of_and10 hHeld.2)).mono ?_; rintro e w7 ⟨b', rfl, hro⟩; have hb := hro.ext0; have c1 := hro.cell (k := 0) (by rw [rowK_len]; omega); rw [rowK_get _ (Nat.zero_le _) (by omega)] at c1; clear hro)
    all_goals (try (go_wp2_with fail))
    refine hK.out (fun X : World => X.cell? ⟨b', 0, none⟩ = some (.int .i64 (q' 0)) ∧ X.cell? ⟨b, 0, none⟩ = some (.int .i64 (q 0)) ∧ X.cell? ⟨w.heap.size, 0, none⟩ = some (.slice a n cap) ∧ X.cell? ⟨w.heap.size, 1, none⟩ = some (vb) ∧ X.cell? ⟨w.heap.size + 1, 0, none⟩ = some (.int .i64 r.lo) ∧ X.cell? ⟨w.heap.size + 1, 1, none⟩ = some (.int .i64 r.hi) ∧ X.cell? ⟨w.heap.size + 1, 2, none⟩ = some (.int .i64 r.st) ∧ X.cell? ⟨w.heap.size + 1, 3, none⟩ = some (.int .i64 r.tr) ∧ X.cell? ⟨w.heap.size + 1, 4, none⟩ = some (.int .i64 r.off) ∧ X.cell? ⟨w.heap.size + 1, 5, none⟩ = some (.int .i64 r.dv) ∧ X.cell? ⟨w.heap.size + 1, 6, none⟩ = some (.int .i64 r.tn) ∧ Hid (Ext w X)) _ _ (fun W h => h.2) (by exact ⟨c1, cell_ext hb hHeld.1, HKP.out _ _ hHeld.2 hb⟩) (fun hHeld => ?_)
    clear hK K
    try simp only [Act.put, List.setIfInBounds_toArray, List.set_cons_zero, List.set_cons_succ]
    refine' text_chunk 5 (by kernel_rfl) hHeld ?ck6 ?cr6
    case ck6 =>
      intro W hSw
      have hSW := hSw
      try dsimp only at hSW
      clear hSw
      simp only [List.take_succ_cons, List.take_zero, List.drop_succ_cons, List.drop_zero]
      repeat (go_big_quiet_step (fail))
      exact wpQuiet_nil rfl
    simp only [List.take_succ_cons, List.take_zero, List.drop_succ_cons, List.drop_zero]
    refine text_done ?_
    have HL := hHeld.2.2.2.2.2.2.2.2.2.2.2
    clear hHeld
    go_wp2
    go_ret2
    exact ⟨rfl, HL.out⟩
  · have hle : lossE th bd r p = (0, placedE th bd r [p]) := by unfold lossE; rw [if_pos hz]
    rw [hle]
    have hzb : (placedE th bd r [p] != 0) = true := by simpa using hz
    generalize placedE th bd r [p] = PE at *
    generalize th.length = n at *
    clear ht hd hz hle
    have E0 := Lib.hid (Ext.alloc (Ext.alloc (Ext.refl w) (.cells #[.slice a n cap, vb] 25)) (.cells #[.int .i64 r.lo, .int .i64 r.hi, .int .i64 r.st, .int .i64 r.tr, .int .i64 r.off, .int .i64 r.dv, .int .i64 r.tn] 27))
    have P0 := Lib.hid ((StemAt.new w (.slice a n cap) (vb) 25).ext (Ext.alloc (Ext.refl _) (.cells #[.int .i64 r.lo, .int .i64 r.hi, .int .i64 r.st, .int .i64 r.tr, .int .i64 r.off, .int .i64 r.dv, .int .i64 r.tn] 27)))
    have R0 := RuleAt.new (w.alloc (.cells #[.slice a n cap, vb] 25)) r 27
    rw [World.size_alloc] at R0
    have R0 := Lib.hid R0
    have ⟨g1, g2⟩ := P0.out
    have ⟨r0, r1, r2, r3, r4, r5, r6⟩ := R0.out
    go_enter Try.func37, Try.ntmps37
    go_wp2_with fail
    refine (H73.out _ E0.out).mono ?_
    rintro e w1 ⟨rfl, hb⟩
    have E2 := Lib.hid (E0.out.trans hb)
    have HB1 := Lib.hid hb
    clear hb g1 g2 r0 r1 r2 r3 r4 r5 r6
    have ⟨g1, g2⟩ := P0.out.ext (HB1.out)
    have ⟨r0, r1, r2, r3, r4, r5, r6⟩ := R0.out.ext (HB1.out)
    go_wp2_with fail
    refine (H73.out _ E2.out).mono ?_
    rintro e w2 ⟨rfl, hb⟩
    have E3 := Lib.hid (E2.out.trans hb)
    clear hb
    go_wp2
    go_ret2
    exact ⟨rfl, E3.out⟩
end Go.Proofs.Ytcgheakadfjofaa
