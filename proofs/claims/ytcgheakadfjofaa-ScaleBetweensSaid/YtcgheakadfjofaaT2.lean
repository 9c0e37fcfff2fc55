/- The reference's Between. -/
import Derived.Test.YtcgheakadfjofaaT1
import Derived.StillTailTactics
namespace Go.Proofs.Ytcgheakadfjofaa
open Go.RowKit Go.Shelf
set_option linter.unusedVariables false
set_option linter.unusedSimpArgs false
attribute [local go_sem] Oper.semAt_some
theorem far_ {X : World} {b o b' o' : Nat} {v u : Value} (h : X.cell? ⟨b, o, none⟩ = some v) (hne : b' ≠ b) : (X.setCell ⟨b', o', none⟩ u).cell? ⟨b, o, none⟩ = some v := (World.cell?_setCell_far X ⟨b', o', none⟩ ⟨b, o, none⟩ u hne).trans h
theorem made_tbl (n : Nat) : madeCells #[.int .i64 0, .int .i64 0] (n * 2) = (tblL (fun _ => (0, 0)) n).toArray := by
  apply Array.ext
  · rw [size_madeCells]; simp [tblL_len]
  · intro i h1 h2
    rcases Nat.mod_two_eq_zero_or_one i with h | h <;> simp [madeCells, tblL, h]
set_option maxRecDepth 100000 in
set_option maxHeartbeats 2000000 in
theorem refbetween39 (vt vb : Value) (th bd : List Int) (r r2 : Rl) (w : World) (ht : Reads w vt th) (hd : Reads w vb bd) (h2 : 2 ≤ th.length) :
    Calls Try.prog 39 #[.agg #[vt, vb], r.val, r2.val] w fun e w' => e = .returned (.tuple #[.agg #[.int .i64 (betweenE th bd r r2).1.1, .int .i64 (betweenE th bd r r2).1.2], .int .i64 (betweenE th bd r r2).2]) ∧ Ext w w' := by
  obtain ⟨hl, a, cap, rfl⟩ := ht.shape
  have C53 := Lib.hid (fun (W : World) (h : Ext w W) => refcheck53 _ _ th bd r W (ht.ext h) (hd.ext h))
  have C23 := Lib.hid (fun (W : World) => refrule23 r2 W)
  obtain ⟨n, hn⟩ : ∃ n, n = th.length := ⟨_, rfl⟩
  obtain ⟨m, hm⟩ : ∃ m, n = m + 1 := ⟨n - 1, by omega⟩
  have hm2 : th.length - 1 = m := by omega
  rw [← hn] at C53 ⊢
  rw [hm] at C53 ⊢
  have HE := Lib.hid (Ext.alloc (Ext.alloc (Ext.alloc (Ext.alloc (Ext.refl w) (.cells #[.slice a (m + 1) cap, vb] 25)) (.cells #[.int .i64 r.lo, .int .i64 r.hi, .int .i64 r.st, .int .i64 r.tr, .int .i64 r.off, .int .i64 r.dv, .int .i64 r.tn] 27)) (.cells #[.int .i64 r2.lo, .int .i64 r2.hi, .int .i64 r2.st, .int .i64 r2.tr, .int .i64 r2.off, .int .i64 r2.dv, .int .i64 r2.tn] 27)) (.cells #[.int .i64 0, .int .i64 0] 53))
  have HP := Lib.hid ((SR.new w (.slice a (m + 1) cap) vb r).ext (Ext.alloc (Ext.alloc (Ext.refl _) (.cells #[.int .i64 r2.lo, .int .i64 r2.hi, .int .i64 r2.st, .int .i64 r2.tr, .int .i64 r2.off, .int .i64 r2.dv, .int .i64 r2.tn] 27)) (.cells #[.int .i64 0, .int .i64 0] 53)))
  have hq0 := (RuleAt.new ((w.alloc (.cells #[.slice a (m + 1) cap, vb] 25)).alloc (.cells #[.int .i64 r.lo, .int .i64 r.hi, .int .i64 r.st, .int .i64 r.tr, .int .i64 r.off, .int .i64 r.dv, .int .i64 r.tn] 27)) r2 27).ext (Ext.alloc (Ext.refl _) (.cells #[.int .i64 0, .int .i64 0] 53))
  have hr0 := heap_alloc_new (((w.alloc (.cells #[.slice a (m + 1) cap, vb] 25)).alloc (.cells #[.int .i64 r.lo, .int .i64 r.hi, .int .i64 r.st, .int .i64 r.tr, .int .i64 r.off, .int .i64 r.dv, .int .i64 r.tn] 27)).alloc (.cells #[.int .i64 r2.lo, .int .i64 r2.hi, .int .i64 r2.st, .int .i64 r2.tr, .int .i64 r2.off, .int .i64 r2.dv, .int .i64 r2.tn] 27)) (.cells #[.int .i64 0, .int .i64 0] 53)
  simp only [World.size_alloc] at hq0 hr0
  have HQ := Lib.hid hq0; have HR := Lib.hid hr0
  clear hq0 hr0
  obtain ⟨⟨g1, g2⟩, r0, r1, r2_, r3, r4, r5, r6⟩ := HP.out
  obtain ⟨e0, e1, e2, e3, e4, e5, e6⟩ := HQ.out
  by_cases hE : bothE th bd r = 0
  case neg =>
    have hbe : betweenE th bd r r2 = ((0, 0), bothE th bd r) := by unfold betweenE; rw [if_pos hE]
    rw [hbe]
    have hbn : (bothE th bd r != 0) = true := by simpa using hE
    generalize bothE th bd r = BE at *
    clear ht hd hn hm hm2 hE hbe
    go_enter Try.func39, Try.ntmps39
    go_wp2_with fail
    refine (C53.out _ HE.out).mono ?_
    rintro e w1 ⟨rfl, hb⟩
    obtain ⟨⟨g1, g2⟩, r0, r1, r2_, r3, r4, r5, r6⟩ := HP.out.ext hb
    obtain ⟨e0, e1, e2, e3, e4, e5, e6⟩ := HQ.out.ext hb
    have HE := Lib.hid (HE.out.trans hb)
    have HP := Lib.hid (HP.out.ext hb)
    have HQ := Lib.hid (HQ.out.ext hb)
    have HR := Lib.hid (block_ext hb HR.out)
    clear hb
    go_wp2_with fail
    refine (C53.out _ HE.out).mono ?_
    rintro e w2 ⟨rfl, hb⟩
    obtain ⟨⟨g1, g2⟩, r0, r1, r2_, r3, r4, r5, r6⟩ := HP.out.ext hb
    obtain ⟨e0, e1, e2, e3, e4, e5, e6⟩ := HQ.out.ext hb
    have HE := Lib.hid (HE.out.trans hb)
    have HP := Lib.hid (HP.out.ext hb)
    have HQ := Lib.hid (HQ.out.ext hb)
    have HR := Lib.hid (block_ext hb HR.out)
    clear hb
    have p0 : w2.cell? ⟨w.heap.size + 1 + 1 + 1, 0, none⟩ = some (.int .i64 0) := cell_of_blk HR.out rfl
    have p1 : w2.cell? ⟨w.heap.size + 1 + 1 + 1, 1, none⟩ = some (.int .i64 0) := cell_of_blk HR.out rfl
    have f0 : w2.frozen? ⟨w.heap.size + 1 + 1 + 1, 0, none⟩ = false := frozen_of_blk HR.out 0
    have f1 : w2.frozen? ⟨w.heap.size + 1 + 1 + 1, 1, none⟩ = false := frozen_of_blk HR.out 1
    go_wp2
    have z0 : ((w2.setCell ⟨w.heap.size + 1 + 1 + 1, 0, none⟩ (.int .i64 0)).setCell ⟨w.heap.size + 1 + 1 + 1, 1, none⟩ (.int .i64 0)).heap[w.heap.size + 1 + 1 + 1]? = some (.cells #[.int .i64 0, .int .i64 0] 53 (0, 0)) := by
      have h1 := set_blk (cs := [.int .i64 0, .int .i64 0]) HR.out (o := 0) (.int .i64 0)
      exact set_blk h1 (o := 1) (.int .i64 0)
    have y0 : ((w2.setCell ⟨w.heap.size + 1 + 1 + 1, 0, none⟩ (.int .i64 0)).setCell ⟨w.heap.size + 1 + 1 + 1, 1, none⟩ (.int .i64 0)).cell? ⟨w.heap.size + 1 + 1 + 1, 0, none⟩ = some (.int .i64 0) := cell_of_blk z0 rfl
    have y1 : ((w2.setCell ⟨w.heap.size + 1 + 1 + 1, 0, none⟩ (.int .i64 0)).setCell ⟨w.heap.size + 1 + 1 + 1, 1, none⟩ (.int .i64 0)).cell? ⟨w.heap.size + 1 + 1 + 1, 1, none⟩ = some (.int .i64 0) := cell_of_blk z0 rfl
    exact bodyPost_ret (v := .tuple #[.agg #[.int .i64 0, .int .i64 0], .int .i64 BE]) (by simp [results, Try.results39, go_sem, y0, y1]) rfl ⟨rfl, (HE.out.setCell (p := ⟨w.heap.size + 1 + 1 + 1, 0, none⟩) (by show w.heap.size ≤ (w.heap.size + 1 + 1 + 1); omega) _).setCell (p := ⟨w.heap.size + 1 + 1 + 1, 1, none⟩) (by show w.heap.size ≤ (w.heap.size + 1 + 1 + 1); omega) _⟩
  by_cases hR : ruleE r2 = 0
  case neg =>
    have hbe : betweenE th bd r r2 = ((0, 0), ruleE r2) := by unfold betweenE; rw [if_neg (by simpa using hE), if_pos hR]
    rw [hbe]
    rw [hE] at C53
    have hbn : (ruleE r2 != 0) = true := by simpa using hR
    generalize ruleE r2 = BE at *
    clear ht hd hn hm hm2 hE hbe hR
    go_enter Try.func39, Try.ntmps39
    go_wp2_with fail
    refine (C53.out _ HE.out).mono ?_
    rintro e w1 ⟨rfl, hb⟩
    obtain ⟨⟨g1, g2⟩, r0, r1, r2_, r3, r4, r5, r6⟩ := HP.out.ext hb
    obtain ⟨e0, e1, e2, e3, e4, e5, e6⟩ := HQ.out.ext hb
    have HE := Lib.hid (HE.out.trans hb)
    have HP := Lib.hid (HP.out.ext hb)
    have HQ := Lib.hid (HQ.out.ext hb)
    have HR := Lib.hid (block_ext hb HR.out)
    clear hb
    go_wp2_with fail
    refine (C23.out _).mono ?_
    rintro e w2 ⟨rfl, hb⟩
    obtain ⟨⟨g1, g2⟩, r0, r1, r2_, r3, r4, r5, r6⟩ := HP.out.ext hb
    obtain ⟨e0, e1, e2, e3, e4, e5, e6⟩ := HQ.out.ext hb
    have HE := Lib.hid (HE.out.trans hb)
    have HP := Lib.hid (HP.out.ext hb)
    have HQ := Lib.hid (HQ.out.ext hb)
    have HR := Lib.hid (block_ext hb HR.out)
    clear hb
    go_wp2_with fail
    refine (C23.out _).mono ?_
    rintro e w3 ⟨rfl, hb⟩
    obtain ⟨⟨g1, g2⟩, r0, r1, r2_, r3, r4, r5, r6⟩ := HP.out.ext hb
    obtain ⟨e0, e1, e2, e3, e4, e5, e6⟩ := HQ.out.ext hb
    have HE := Lib.hid (HE.out.trans hb)
    have HP := Lib.hid (HP.out.ext hb)
    have HQ := Lib.hid (HQ.out.ext hb)
    have HR := Lib.hid (block_ext hb HR.out)
    clear hb
    have p0 : w3.cell? ⟨w.heap.size + 1 + 1 + 1, 0, none⟩ = some (.int .i64 0) := cell_of_blk HR.out rfl
    have p1 : w3.cell? ⟨w.heap.size + 1 + 1 + 1, 1, none⟩ = some (.int .i64 0) := cell_of_blk HR.out rfl
    have f0 : w3.frozen? ⟨w.heap.size + 1 + 1 + 1, 0, none⟩ = false := frozen_of_blk HR.out 0
    have f1 : w3.frozen? ⟨w.heap.size + 1 + 1 + 1, 1, none⟩ = false := frozen_of_blk HR.out 1
    go_wp2
    have z0 : ((w3.setCell ⟨w.heap.size + 1 + 1 + 1, 0, none⟩ (.int .i64 0)).setCell ⟨w.heap.size + 1 + 1 + 1, 1, none⟩ (.int .i64 0)).heap[w.heap.size + 1 + 1 + 1]? = some (.cells #[.int .i64 0, .int .i64 0] 53 (0, 0)) := by
      have h1 := set_blk (cs := [.int .i64 0, .int .i64 0]) HR.out (o := 0) (.int .i64 0)
      exact set_blk h1 (o := 1) (.int .i64 0)
    have y0 : ((w3.setCell ⟨w.heap.size + 1 + 1 + 1, 0, none⟩ (.int .i64 0)).setCell ⟨w.heap.size + 1 + 1 + 1, 1, none⟩ (.int .i64 0)).cell? ⟨w.heap.size + 1 + 1 + 1, 0, none⟩ = some (.int .i64 0) := cell_of_blk z0 rfl
    have y1 : ((w3.setCell ⟨w.heap.size + 1 + 1 + 1, 0, none⟩ (.int .i64 0)).setCell ⟨w.heap.size + 1 + 1 + 1, 1, none⟩ (.int .i64 0)).cell? ⟨w.heap.size + 1 + 1 + 1, 1, none⟩ = some (.int .i64 0) := cell_of_blk z0 rfl
    exact bodyPost_ret (v := .tuple #[.agg #[.int .i64 0, .int .i64 0], .int .i64 BE]) (by simp [results, Try.results39, go_sem, y0, y1]) rfl ⟨rfl, (HE.out.setCell (p := ⟨w.heap.size + 1 + 1 + 1, 0, none⟩) (by show w.heap.size ≤ (w.heap.size + 1 + 1 + 1); omega) _).setCell (p := ⟨w.heap.size + 1 + 1 + 1, 1, none⟩) (by show w.heap.size ≤ (w.heap.size + 1 + 1 + 1); omega) _⟩
  have hbe : betweenE th bd r r2 = (btwV (sF th bd r) (sF th bd r2) m 0, 0) := by rw [betweenE_ok hE hR, hm2]
  rw [hbe]
  obtain ⟨q1, q2⟩ := vs_len hE
  have hE2 : bothE th bd r2 = 0 := by rw [both_rule r2 hE, hR]
  have hvw := (bothE_ok.1 hE).1.weak (bothE_ok.1 hE).2
  have hvw2 := (bothE_ok.1 hE2).1.weak (bothE_ok.1 hE2).2
  have x63 : ∀ (W : World), Ext w W → Calls Try.prog 63 #[.agg #[.slice a th.length cap, vb], r.val, .agg #[.int .i64 (-1), .int .i64 (-1)]] W (RestPost W (bst (sF th bd r) allB m) m) := fun W h => by
    have h2 := rest63 _ _ th bd r (-1) (-1) m W (ht.ext h) (hd.ext h) hvw (by omega)
    rw [ltV_all] at h2
    exact h2
  have x45 : ∀ (i j : Nat) (W : World), Ext w W → i < j → j ≤ m → Calls Try.prog 45 #[.agg #[.slice a th.length cap, vb], r.val, .int .i64 (i : Int), .int .i64 (j : Int)] W fun e w' => e = .returned (.int .i64 (sF th bd r i j)) ∧ Ext W w' := fun i j W h h1 h2 =>
    refscale45 _ _ th bd r i j W (ht.ext h) (hd.ext h) hvw h1 (by omega)
  have x45b : ∀ (i j : Nat) (W : World), Ext w W → i < j → j ≤ m → Calls Try.prog 45 #[.agg #[.slice a th.length cap, vb], r2.val, .int .i64 (i : Int), .int .i64 (j : Int)] W fun e w' => e = .returned (.int .i64 (sF th bd r2 i j)) ∧ Ext W w' := fun i j W h h1 h2 =>
    refscale45 _ _ th bd r2 i j W (ht.ext h) (hd.ext h) hvw2 h1 (by omega)
  have hfb : ∀ i j, 0 ≤ sF th bd r i j ∧ sF th bd r i j ≤ 216000 := fun i j => scl_bd (bothE_ok.1 hE).1 (bothE_ok.1 hE).2 i j
  have hfb2 : ∀ i j, 0 ≤ sF th bd r2 i j ∧ sF th bd r2 i j ≤ 216000 := fun i j => scl_bd (bothE_ok.1 hE2).1 (bothE_ok.1 hE2).2 i j
  have hbb := btw_bd (r := r) hvw2 (n := m) (by omega)
  have hqb := bst_M (th := th) (bd := bd) (r := r) hvw (n := m) (by omega) allB
  have C43 := Lib.hid (fun (W : World) => long43 a th.length cap vb W hl)
  have hst := fun i t h => accR_step (sF th bd r) (sF th bd r2) m (i := i) (t := t) h
  have hsf := fun i => accR_self (sF th bd r) (sF th bd r2) m i
  have hal := fun i h => accR_all (f := sF th bd r) (g := sF th bd r2) (n := m) (i := i) h
  rw [hE] at C53
  rw [hR] at C23
  generalize hF : sF th bd r = F at *
  generalize hFF : sF th bd r2 = F2 at *
  rw [← hn, hm] at x63 x45 x45b C43 hl
  generalize bst F allB m = q at *
  have h63 := Lib.hid x63; have h45 := Lib.hid x45; have h45b := Lib.hid x45b; have HFB := Lib.hid hfb; have HFB2 := Lib.hid hfb2; have HBB := Lib.hid hbb; have HQB := Lib.hid hqb; have HST := Lib.hid hst; have HSF := Lib.hid hsf; have HAL := Lib.hid hal
  have hm60 : m ≤ 60 := by omega
  have hm1 : 1 ≤ m := by omega
  have hmk := make114 (m + 1) (by omega)
  rw [show ((m + 1 : Nat) : Int) = (m : Int) + 1 by omega] at hmk
  clear ht hd hn hm hm2 hE hbe hR q1 q2 hE2 hvw hvw2 x63 x45 x45b hfb hfb2 hbb hqb hF hFF hst hsf hal h2
  go_enter Try.func39, Try.ntmps39
  go_wp2_with fail
  refine (C53.out _ HE.out).mono ?_
  rintro e w1 ⟨rfl, hb⟩
  obtain ⟨⟨g1, g2⟩, r0, r1, r2_, r3, r4, r5, r6⟩ := HP.out.ext hb
  obtain ⟨e0, e1, e2, e3, e4, e5, e6⟩ := HQ.out.ext hb
  have HE := Lib.hid (HE.out.trans hb)
  have HP := Lib.hid (HP.out.ext hb)
  have HQ := Lib.hid (HQ.out.ext hb)
  have HR := Lib.hid (block_ext hb HR.out)
  clear hb
  go_wp2_with fail
  refine (C23.out _).mono ?_
  rintro e w2 ⟨rfl, hb⟩
  obtain ⟨⟨g1, g2⟩, r0, r1, r2_, r3, r4, r5, r6⟩ := HP.out.ext hb
  obtain ⟨e0, e1, e2, e3, e4, e5, e6⟩ := HQ.out.ext hb
  have HE := Lib.hid (HE.out.trans hb)
  have HP := Lib.hid (HP.out.ext hb)
  have HQ := Lib.hid (HQ.out.ext hb)
  have HR := Lib.hid (block_ext hb HR.out)
  clear hb
  have HKP := Lib.hid (show ∀ X X' : World, (fun X : World => X.cell? ⟨w.heap.size, 0, none⟩ = some (.slice a (m + 1) cap) ∧ X.cell? ⟨w.heap.size, 1, none⟩ = some (vb) ∧ X.cell? ⟨w.heap.size + 1, 0, none⟩ = some (.int .i64 r.lo) ∧ X.cell? ⟨w.heap.size + 1, 1, none⟩ = some (.int .i64 r.hi) ∧ X.cell? ⟨w.heap.size + 1, 2, none⟩ = some (.int .i64 r.st) ∧ X.cell? ⟨w.heap.size + 1, 3, none⟩ = some (.int .i64 r.tr) ∧ X.cell? ⟨w.heap.size + 1, 4, none⟩ = some (.int .i64 r.off) ∧ X.cell? ⟨w.heap.size + 1, 5, none⟩ = some (.int .i64 r.dv) ∧ X.cell? ⟨w.heap.size + 1, 6, none⟩ = some (.int .i64 r.tn) ∧ Hid (Ext w2 X)) X → Ext X X' → (fun X : World => X.cell? ⟨w.heap.size, 0, none⟩ = some (.slice a (m + 1) cap) ∧ X.cell? ⟨w.heap.size, 1, none⟩ = some (vb) ∧ X.cell? ⟨w.heap.size + 1, 0, none⟩ = some (.int .i64 r.lo) ∧ X.cell? ⟨w.heap.size + 1, 1, none⟩ = some (.int .i64 r.hi) ∧ X.cell? ⟨w.heap.size + 1, 2, none⟩ = some (.int .i64 r.st) ∧ X.cell? ⟨w.heap.size + 1, 3, none⟩ = some (.int .i64 r.tr) ∧ X.cell? ⟨w.heap.size + 1, 4, none⟩ = some (.int .i64 r.off) ∧ X.cell? ⟨w.heap.size + 1, 5, none⟩ = some (.int .i64 r.dv) ∧ X.cell? ⟨w.heap.size + 1, 6, none⟩ = some (.int .i64 r.tn) ∧ Hid (Ext w2 X)) X' from fun X X' h hb => ⟨cell_ext hb h.1, cell_ext hb h.2.1, cell_ext hb h.2.2.1, cell_ext hb h.2.2.2.1, cell_ext hb h.2.2.2.2.1, cell_ext hb h.2.2.2.2.2.1, cell_ext hb h.2.2.2.2.2.2.1, cell_ext hb h.2.2.2.2.2.2.2.1, cell_ext hb h.2.2.2.2.2.2.2.2.1, Lib.hid (Ext.trans h.2.2.2.2.2.2.2.2.2.out hb)⟩)
  go_wp2_with fail
  refine wp_region_order (fun X : World => X.cell? ⟨w.heap.size, 0, none⟩ = some (.slice a (m + 1) cap) ∧ X.cell? ⟨w.heap.size, 1, none⟩ = some (vb) ∧ X.cell? ⟨w.heap.size + 1, 0, none⟩ = some (.int .i64 r.lo) ∧ X.cell? ⟨w.heap.size + 1, 1, none⟩ = some (.int .i64 r.hi) ∧ X.cell? ⟨w.heap.size + 1, 2, none⟩ = some (.int .i64 r.st) ∧ X.cell? ⟨w.heap.size + 1, 3, none⟩ = some (.int .i64 r.tr) ∧ X.cell? ⟨w.heap.size + 1, 4, none⟩ = some (.int .i64 r.off) ∧ X.cell? ⟨w.heap.size + 1, 5, none⟩ = some (.int .i64 r.dv) ∧ X.cell? ⟨w.heap.size + 1, 6, none⟩ = some (.int .i64 r.tn) ∧ Hid (Ext w2 X)) [0, 1, 2, 3, 4] (by kernel_rfl) (by kernel_rfl) (by exact ⟨g1, g2, r0, r1, r2_, r3, r4, r5, r6, Lib.hid (Ext.drew (Ext.refl _))⟩) (fun hHeld => ?_)
  simp only [opsIn, List.filterMap_cons, List.filterMap_nil, List.getElem?_toArray, List.getElem?_cons_succ, List.getElem?_cons_zero]
  refine' text_chunk 2 (by kernel_rfl) hHeld ?ck1 ?cr1
  case ck1 =>
    intro W hSw
    have hSW := hSw
    try dsimp only at hSW
    clear hSw
    simp only [List.take_succ_cons, List.take_zero, List.drop_succ_cons, List.drop_zero]
    repeat (go_big_quiet_step (fail))
    exact wpQuiet_nil rfl
  simp only [List.take_succ_cons, List.take_zero, List.drop_succ_cons, List.drop_zero]
  refine text_call (by rfl) (by rfl) (fun K hK => ?_)
  go_simp
  (go_at_call 64; refine (all64 _).mono ?_; rintro e w6 ⟨rfl, hb⟩)
  all_goals (try (go_wp2_with fail))
  refine hK.out _ _ (by exact HKP.out _ _ hHeld hb) (fun hHeld => ?_)
  clear hK K
  try simp only [Act.put, List.setIfInBounds_toArray, List.set_cons_zero, List.set_cons_succ]
  refine text_call_more (by rfl) (by rfl) (fun K hK => ?_)
  go_simp
  (go_at_call 63; refine (h63.out _ (HE.out.trans (of_and10 hHeld))).mono ?_; rintro e w7 ⟨b, rfl, hro⟩; have hb := hro.ext0)
  all_goals (try (go_wp2_with fail))
  refine hK.out (fun X : World => Hid (RowOwn w2 X b (rowK q (m + 1) 0)) ∧ (fun X : World => X.cell? ⟨w.heap.size, 0, none⟩ = some (.slice a (m + 1) cap) ∧ X.cell? ⟨w.heap.size, 1, none⟩ = some (vb) ∧ X.cell? ⟨w.heap.size + 1, 0, none⟩ = some (.int .i64 r.lo) ∧ X.cell? ⟨w.heap.size + 1, 1, none⟩ = some (.int .i64 r.hi) ∧ X.cell? ⟨w.heap.size + 1, 2, none⟩ = some (.int .i64 r.st) ∧ X.cell? ⟨w.heap.size + 1, 3, none⟩ = some (.int .i64 r.tr) ∧ X.cell? ⟨w.heap.size + 1, 4, none⟩ = some (.int .i64 r.off) ∧ X.cell? ⟨w.heap.size + 1, 5, none⟩ = some (.int .i64 r.dv) ∧ X.cell? ⟨w.heap.size + 1, 6, none⟩ = some (.int .i64 r.tn) ∧ Hid (Ext w2 X)) X) _ _ (fun W h => h.2) (by exact ⟨Lib.hid ⟨hro.blk, Nat.le_trans (of_and10 hHeld).size hro.new, Ext.trans (of_and10 hHeld) hro.ext0⟩, HKP.out _ _ hHeld hb⟩) (fun hHeld => ?_)
  clear hK K
  try simp only [Act.put, List.setIfInBounds_toArray, List.set_cons_zero, List.set_cons_succ]
  refine' text_chunk 1 (by kernel_rfl) hHeld ?ck2 ?cr2
  case ck2 =>
    intro W hSw
    have hSW := hSw
    try dsimp only at hSW
    clear hSw
    simp only [List.take_succ_cons, List.take_zero, List.drop_succ_cons, List.drop_zero]
    repeat (go_big_quiet_step (fail))
    exact wpQuiet_nil rfl
  simp only [List.take_succ_cons, List.take_zero, List.drop_succ_cons, List.drop_zero]
  refine text_done ?_
  have HW2 := HE
  have HRO := Lib.hid hHeld.1.out
  have HX7 := Lib.hid (of_and10 hHeld.2)
  replace HE := Lib.hid (HE.out.trans HX7.out)
  replace HP := Lib.hid (HP.out.ext HX7.out)
  replace HQ := Lib.hid (HQ.out.ext HX7.out)
  replace HR := Lib.hid (block_ext HX7.out HR.out)
  clear hHeld g1 g2 r0 r1 r2_ r3 r4 r5 r6 e0 e1 e2 e3 e4 e5 e6
  obtain ⟨⟨g1, g2⟩, -⟩ := HP.out
  have HX0 := Lib.hid (Ext.alloc (Ext.refl w7) (.cells (madeCells #[.int .i64 0, .int .i64 0] ((m + 1) * 2)) 53))
  have HT0 := Lib.hid (show TblOwn w7 (w7.alloc (.cells (madeCells #[.int .i64 0, .int .i64 0] ((m + 1) * 2)) 53)) w7.heap.size (m + 1) (fun _ => (0, 0)) from ⟨by rw [← made_tbl]; exact heap_alloc_new _ _, Nat.le_refl _, HX0.out⟩)
  obtain ⟨⟨h1, h2⟩, -⟩ := HP.out.ext HX0.out
  have hw43 : IntKind.i64.wrap ((m : Int) + 1 - 1) = (m : Int) := by rw [show (m : Int) + 1 - 1 = (m : Int) by omega]; exact wrapi64 _ (by omega) (by omega)
  go_wp2_with fail
  refine (C43.out _).mono ?_
  rintro e w8 ⟨rfl, hb⟩
  replace HT0 := Lib.hid (HT0.out.turn hb)
  clear g1 g2 h1 h2 hb HX0 hmk
  have HLEN := Lib.hid (rowK_len q (m + 1))
  go_wp2_with fail
  go_loopw [10] (fun s wr => ∃ k : Nat, ∃ T : Nat → Int × Int, k ≤ m ∧ s = .int .i64 ((k : Int) - 1) ∧ Hid (TblOwn w7 wr w7.heap.size (m + 1) T) ∧ Hid (∀ x, k ≤ x → x ≤ m → T x = btwV F F2 m x)) (fun s wr => (intV s + 1).toNat)
  case atStart => exact ⟨m, _, Nat.le_refl _, rfl, HT0, Lib.hid (fun x h1 h2 => by rw [btwV_past h1])⟩
  case round =>
    clear HT0
    obtain ⟨k, T, hk, rfl, HY, HI⟩ := hrel
    by_cases hk0 : 1 ≤ k
    · obtain ⟨i, rfl⟩ : ∃ i, k = i + 1 := ⟨k - 1, by omega⟩
      rw [show (((i + 1 : Nat) : Int) - 1) = (i : Int) from by omega]
      have hi0 : (0 : Int) ≤ (i : Int) := by omega
      have hi1 : (i : Int) < (m : Int) + 1 := by omega
      have hi2 : (i : Int) + 1 < (m : Int) + 1 := by omega
      have hi3 : (0 : Int) ≤ (i : Int) + 1 := by omega
      have hit : ((i : Int) + 1).toNat = i + 1 := by omega
      have hit2 : (i : Int).toNat = i := by omega
      have hiw : IntKind.i64.wrap ((i : Int) + 1) = (i : Int) + 1 := wrapi64 _ (by omega) (by omega)
      have k0 := (HRO.out.ext HY.out.ext0).cell (k := i) (by rw [HLEN.out]; omega)
      have k1 := (HRO.out.ext HY.out.ext0).cell (k := i + 1) (by rw [HLEN.out]; omega)
      rw [rowK_get _ (by omega) (by omega)] at k0 k1
      have hsf := HSF.out i
      obtain ⟨bq, hbq⟩ : ∃ bq, bq = (q i == q (i + 1)) := ⟨_, rfl⟩
      have hA0 : (accR F F2 m i i).isSome = bq := by rw [hsf, hbq]; by_cases h : q i = q (i + 1) <;> simp [h]
      have hA1 : ∀ v, accR F F2 m i i = some v → btwV F F2 m (i + 1) = v := fun v h => by
        rw [hsf] at h
        split at h
        · exact Option.some.inj h
        · cases h
      have HA0 := Lib.hid hA0; have HA1 := Lib.hid hA1
      obtain ⟨x, hx⟩ : ∃ x, x = q i := ⟨_, rfl⟩
      obtain ⟨y, hy⟩ : ∃ y, y = q (i + 1) := ⟨_, rfl⟩
      rw [← hx] at k0 hbq
      rw [← hy] at k1 hbq
      have hd0 : (x == y) = bq := hbq.symm
      clear hx hy hbq hsf hA0 hA1
      go_wp2
      go_quiet (fail)
      have HY1 := Lib.hid (HY.out.turn ((Ext.refl wr).drewN nq))
      clear HY k0 k1 hd0
      obtain ⟨wq, hwq⟩ : ∃ x, x = wr.drewN nq := ⟨_, rfl⟩
      rw [← hwq] at HY1 ⊢
      clear hwq
      obtain ⟨a0, a1, a2, a3⟩ := HY1.out.at_ (j := i) (by omega)
      obtain ⟨b0, b1, -, -⟩ := HY1.out.at_ (j := i + 1) (by omega)
      obtain ⟨c0, c1⟩ := HY1.out.mid (i := i) (by omega) (T (i + 1)).1
      have HY2 := Lib.hid (HY1.out.put (i := i) (by omega) (T (i + 1)).1 (T (i + 1)).2)
      have HI2 := Lib.hid (show ∀ x, i + 1 ≤ x → x ≤ m → updT T i ((T (i + 1)).1, (T (i + 1)).2) x = btwV F F2 m x from fun x h1 h2 => by
        unfold updT; rw [if_neg (by omega)]; exact HI.out x h1 h2)
      have HA2 := Lib.hid (show ∀ v, accR F F2 m i i = some v → updT T i ((T (i + 1)).1, (T (i + 1)).2) i = v from fun v h => by
        unfold updT; rw [if_pos rfl]; rw [← HA1.out v h]; exact HI.out (i + 1) (Nat.le_refl _) (by omega))
      generalize updT T i ((T (i + 1)).1, (T (i + 1)).2) = T2 at HY2 HI2 HA2
      obtain ⟨t1, ht1⟩ : ∃ t, t = (T (i + 1)).1 := ⟨_, rfl⟩
      obtain ⟨t2, ht2⟩ : ∃ t, t = (T (i + 1)).2 := ⟨_, rfl⟩
      rw [← ht1] at b0 c0 c1 HY2
      rw [← ht2] at b1 HY2
      clear ht1 ht2 HY1 HI
      go_wp2_with fail
      go_loopw [11, 12] (fun s11 s12 wr => ∃ t : Nat, ∃ T : Nat → Int × Int, i ≤ t ∧ t ≤ m ∧ s12 = .int .i64 ((t : Int) + 1) ∧ s11 = .bool (accR F F2 m i t).isSome ∧ Hid (TblOwn w7 wr w7.heap.size (m + 1) T) ∧ Hid (∀ x, i + 1 ≤ x → x ≤ m → T x = btwV F F2 m x) ∧ Hid (∀ v, accR F F2 m i t = some v → T i = v)) (fun s11 s12 wr => ((m : Int) + 1 - intV s12).toNat)
      case atStart => exact ⟨i, T2, Nat.le_refl _, by omega, rfl, by rw [HA0.out], HY2, HI2, HA2⟩
      case round =>
        clear HY2 HI2 HA2 HA0 HA1 a0 a1 a2 a3 b0 b1 c0 c1
        obtain ⟨t, T, hit1, htm, rfl, rfl, HY, HI, HA⟩ := hrel
        obtain ⟨bt, hbt⟩ : ∃ bt, bt = (accR F F2 m i t).isSome := ⟨_, rfl⟩
        rw [← hbt]
        have HBT := Lib.hid hbt
        clear hbt
        obtain ⟨⟨g1, g2⟩, r0, r1, r2_, r3, r4, r5, r6⟩ := HP.out.ext HY.out.ext0
        have hta : (0 : Int) ≤ (t : Int) + 1 := by omega
        have htw : IntKind.i64.wrap ((t : Int) + 1) = (t : Int) + 1 := wrapi64 _ (by omega) (by omega)
        have htw2 : IntKind.i64.wrap ((t : Int) + 1 + 1) = (t : Int) + 1 + 1 := wrapi64 _ (by omega) (by omega)
        have htt : ((t : Int) + 1).toNat = t + 1 := by omega
        go_wp2_with fail
        refine (C43.out _).mono ?_
        rintro e w9 ⟨rfl, hb⟩
        have HY1 := Lib.hid (HY.out.turn hb)
        clear hb HY
        clear g1 g2 r0 r1 r2_ r3 r4 r5 r6
        by_cases hlt : t < m
        · have hd1 : decide ((t : Int) + 1 ≤ (m : Int)) = true := decide_eq_true (by omega)
          have htb : (t : Int) + 1 < (m : Int) + 1 := by omega
          obtain ⟨⟨g1, g2⟩, r0, r1, r2_, r3, r4, r5, r6⟩ := HP.out.ext HY1.out.ext0
          have h45a := h45.out i (t + 1) w9 (HE.out.trans HY1.out.ext0) (by omega) (by omega)
          rw [Int.natCast_add, Int.natCast_one] at h45a
          have hstep := HST.out i t hit1
          have hfb := HFB.out i (t + 1)
          have hgb := HFB2.out i (t + 1)
          have hqm := HQB.out (t + 1)
          obtain ⟨fv, hfv⟩ : ∃ fv, fv = F i (t + 1) := ⟨_, rfl⟩
          obtain ⟨qm, hqmv⟩ : ∃ qm, qm = q (t + 1) := ⟨_, rfl⟩
          obtain ⟨qi, hqiv⟩ : ∃ qi, qi = q i := ⟨_, rfl⟩
          rw [← hfv] at h45a hstep hfb
          rw [← hqmv, ← hqiv] at hstep
          rw [← hqmv] at hqm
          have HQM := Lib.hid hqmv; have HQI := Lib.hid hqiv; have HSTEP := Lib.hid hstep; have H45a := Lib.hid h45a
          clear hfv hqmv hqiv hstep h45a
          have hfw : IntKind.i64.wrap (fv + qm) = fv + qm := wrapi64 _ (by omega) (by omega)
          go_wp2_with fail
          refine H45a.out.mono ?_
          rintro e w10 ⟨rfl, hb⟩
          have HY2 := Lib.hid (HY1.out.turn hb)
          clear hb HY1 H45a
          clear g1 g2 r0 r1 r2_ r3 r4 r5 r6
          have k0 := (HRO.out.ext HY2.out.ext0).cell (k := i) (by rw [HLEN.out]; omega)
          have k1 := (HRO.out.ext HY2.out.ext0).cell (k := t + 1) (by rw [HLEN.out]; omega)
          rw [rowK_get _ (by omega) (by omega), ← HQI.out] at k0
          rw [rowK_get _ (by omega) (by omega), ← HQM.out] at k1
          by_cases hp : fv = 0
          · have hd2 : (fv == 0) = true := by simpa using hp
            have hre := Lib.hid (show accR F F2 m i (t + 1) = accR F F2 m i t from by rw [HSTEP.out, if_neg]; simp [hp])
            clear hp HSTEP
            go_wp2
            go_quiet (fail)
            have HY3 := Lib.hid (HY2.out.turn ((Ext.refl w10).drewN nq))
            go_wp2
            go_roundw
            case rel => exact ⟨t + 1, T, by omega, by omega, by go_num, by rw [hre.out, HBT.out], HY3, HI, Lib.hid (by rw [hre.out]; exact HA.out)⟩
            case measure => simp [intV]; omega
          have hd2 : (fv == 0) = false := by simpa using hp
          by_cases heq : qi = fv + qm
          case neg =>
            have hd3 : (qi != fv + qm) = true := by simpa using heq
            have hre := Lib.hid (show accR F F2 m i (t + 1) = accR F F2 m i t from by rw [HSTEP.out, if_neg]; simp; intro _ h; exact heq h.symm)
            clear hp heq HSTEP
            go_wp2
            go_quiet (fail)
            have HY3 := Lib.hid (HY2.out.turn ((Ext.refl w10).drewN nq))
            go_wp2
            go_roundw
            case rel => exact ⟨t + 1, T, by omega, by omega, by go_num, by rw [hre.out, HBT.out], HY3, HI, Lib.hid (by rw [hre.out]; exact HA.out)⟩
            case measure => simp [intV]; omega
          have hd3 : (qi != fv + qm) = false := by simpa using heq
          have hbb := HBB.out (t + 1)
          rw [← HI.out (t + 1) (by omega) (by omega)] at hbb
          have hre := Lib.hid (show accR F F2 m i (t + 1) = mrg (accR F F2 m i t) (F2 i (t + 1) + (T (t + 1)).1, F2 i (t + 1) + (T (t + 1)).2) from by
            rw [HSTEP.out, if_pos, HI.out (t + 1) (by omega) (by omega)]
            simp only [Bool.and_eq_true, decide_eq_true_eq]
            exact ⟨by omega, heq.symm⟩)
          clear hp heq HSTEP
          have H45b := Lib.hid (fun (W : World) (h : Ext w W) => h45b.out i (t + 1) W h (by omega) (by omega))
          obtain ⟨gv, hgv⟩ : ∃ gv, gv = F2 i (t + 1) := ⟨_, rfl⟩
          obtain ⟨t1, ht1⟩ : ∃ t1, t1 = (T (t + 1)).1 := ⟨_, rfl⟩
          obtain ⟨t2, ht2⟩ : ∃ t2, t2 = (T (t + 1)).2 := ⟨_, rfl⟩
          rw [← hgv] at H45b hre hgb
          rw [← ht1, ← ht2] at hre hbb
          rw [Int.natCast_add, Int.natCast_one] at H45b
          have HT1 := Lib.hid ht1; have HT2 := Lib.hid ht2
          clear hgv ht1 ht2
          go_wp2
          go_quiet (fail)
          have HY3 := Lib.hid (HY2.out.turn ((Ext.refl w10).drewN nq))
          clear HY2 k0 k1 hd2 hd3
          obtain ⟨wq2, hwq2⟩ : ∃ x, x = w10.drewN nq := ⟨_, rfl⟩
          rw [← hwq2] at HY3 ⊢
          clear hwq2
          obtain ⟨⟨g1, g2⟩, -⟩ := HP.out.ext HY3.out.ext0
          obtain ⟨e0, e1, e2, e3, e4, e5, e6⟩ := HQ.out.ext HY3.out.ext0
          go_wp2_with fail
          refine (H45b.out _ (HE.out.trans HY3.out.ext0)).mono ?_
          rintro e w11 ⟨rfl, hb⟩
          have HY4 := Lib.hid (HY3.out.turn hb)
          clear hb HY3 g1 g2 e0 e1 e2 e3 e4 e5 e6
          have hgw1 : IntKind.i64.wrap (gv + t1) = gv + t1 := wrapi64 _ (by omega) (by omega)
          have hgw2 : IntKind.i64.wrap (gv + t2) = gv + t2 := wrapi64 _ (by omega) (by omega)
          obtain ⟨b0, b1, -, -⟩ := HY4.out.at_ (j := t + 1) (by omega)
          obtain ⟨d0, d1, -, -⟩ := (HY4.out.turn (Ext.alloc (Ext.refl w11) (.cells #[.int .i64 0, .int .i64 0] 53))).at_ (j := t + 1) (by omega)
          rw [← HT1.out] at b0 d0
          rw [← HT2.out] at b1 d1
          have hnw := heap_alloc_new w11 (.cells #[.int .i64 0, .int .i64 0] 53)
          have p0 : (w11.alloc (.cells #[.int .i64 0, .int .i64 0] 53)).cell? ⟨w11.heap.size, 0, none⟩ = some (.int .i64 0) := cell_of_blk hnw rfl
          have p1 : (w11.alloc (.cells #[.int .i64 0, .int .i64 0] 53)).cell? ⟨w11.heap.size, 1, none⟩ = some (.int .i64 0) := cell_of_blk hnw rfl
          have f0 := frozen_of_blk hnw 0
          have f1 := frozen_of_blk hnw 1
          have HNW := Lib.hid hnw
          clear hnw
          go_wp2
          go_region
          have HY5 := Lib.hid (HY4.out.turn ((Ext.alloc (Ext.refl w11) (.cells #[.int .i64 (gv + t1), .int .i64 (gv + t2)] 53)).drew))
          have hnb := block_ext ((Ext.refl (w11.alloc (.cells #[.int .i64 (gv + t1), .int .i64 (gv + t2)] 53))).drew) (heap_alloc_new w11 (.cells #[.int .i64 (gv + t1), .int .i64 (gv + t2)] 53))
          have hlw := (Array.getElem?_eq_some_iff.1 HY4.out.blk).1
          clear HNW p0 p1 f0 f1 b0 b1 d0 d1 HY4 hgw1 hgw2
          obtain ⟨w12, hw12⟩ : ∃ x, x = (w11.alloc (.cells #[.int .i64 (gv + t1), .int .i64 (gv + t2)] 53)).drew := ⟨_, rfl⟩
          rw [← hw12] at HY5 hnb ⊢
          clear hw12
          have hne : w7.heap.size ≠ w11.heap.size := Nat.ne_of_lt hlw
          clear hlw
          generalize w11.heap.size = b15 at *
          obtain ⟨n1, hn1⟩ : ∃ n1, n1 = gv + t1 := ⟨_, rfl⟩
          obtain ⟨n2, hn2⟩ : ∃ n2, n2 = gv + t2 := ⟨_, rfl⟩
          rw [← hn1, ← hn2] at hre hnb ⊢
          clear hn1 hn2
          have p0 : w12.cell? ⟨b15, 0, none⟩ = some (.int .i64 n1) := cell_of_blk hnb rfl
          have p1 : w12.cell? ⟨b15, 1, none⟩ = some (.int .i64 n2) := cell_of_blk hnb rfl
          clear hnb
          obtain ⟨a0, a1, a2, a3⟩ := HY5.out.at_ (j := i) (by omega)
          rcases hac : accR F F2 m i t with _ | v
          · obtain rfl : bt = false := by rw [HBT.out, hac]; rfl
            rw [hac] at hre
            have HRE := Lib.hid (show accR F F2 m i (t + 1) = some (n1, n2) from hre.out)
            obtain ⟨c0, c1⟩ := HY5.out.mid (i := i) (by omega) n1
            have HY6 := Lib.hid (HY5.out.put (i := i) (by omega) n1 n2)
            have p0 : ((w12.setCell ⟨w7.heap.size, i * 2, none⟩ (.int .i64 n1)).setCell ⟨w7.heap.size, i * 2 + 1, none⟩ (.int .i64 n2)).cell? ⟨b15, 0, none⟩ = some (.int .i64 n1) := far_ (far_ p0 hne) hne
            have p1 : ((w12.setCell ⟨w7.heap.size, i * 2, none⟩ (.int .i64 n1)).setCell ⟨w7.heap.size, i * 2 + 1, none⟩ (.int .i64 n2)).cell? ⟨b15, 1, none⟩ = some (.int .i64 n2) := far_ (far_ p1 hne) hne
            clear hac hre HBT
            go_wp2
            clear a0 a1 a2 a3 c0 c1
            obtain ⟨w13, hw13⟩ : ∃ x, x = ((w12.setCell ⟨w7.heap.size, i * 2, none⟩ (.int .i64 n1)).setCell ⟨w7.heap.size, i * 2 + 1, none⟩ (.int .i64 n2)) := ⟨_, rfl⟩
            rw [← hw13] at HY6 p0 p1 ⊢
            clear hw13
            obtain ⟨a0, a1, a2, a3⟩ := HY6.out.at_ (j := i) (by omega)
            rw [show updT T i (n1, n2) i = (n1, n2) from if_pos rfl] at a0 a1
            simp only at a0 a1
            have hm1 : (if n1 < n1 then n1 else n1) = n1 := by simp
            have hm2 : (if n2 < n2 then n2 else n2) = n2 := by simp
            go_still_tail 19, (by kernel_rfl)
            change wpList _ _ _ _ _ w13.drew
            have HY7 := Lib.hid (HY6.out.turn (Ext.drew (Ext.refl _)))
            clear HY5 HY6 a0 a1 a2 a3 p0 p1
            generalize w13.drew = w14 at *
            obtain ⟨a0, a1, a2, a3⟩ := HY7.out.at_ (j := i) (by omega)
            obtain ⟨c0, c1⟩ := HY7.out.mid (i := i) (by omega) n1
            have HY8 := Lib.hid (HY7.out.put (i := i) (by omega) n1 n2)
            clear HY7
            go_wp2
            go_roundw
            case rel => exact ⟨t + 1, updT (updT T i (n1, n2)) i (n1, n2), by omega, by omega, by go_num, by rw [HRE.out]; rfl, HY8, Lib.hid (fun x h1 h2 => by unfold updT; rw [if_neg (by omega), if_neg (by omega)]; exact HI.out x h1 h2), Lib.hid (fun v h => by rw [HRE.out] at h; unfold updT; rw [if_pos rfl]; exact Option.some.inj h)⟩
            case measure => simp [intV]; omega
          · obtain rfl : bt = true := by rw [HBT.out, hac]; rfl
            rw [hac] at hre
            rw [HA.out v hac] at a0 a1
            obtain ⟨v1, v2⟩ := v
            simp only at a0 a1
            obtain ⟨mn, hmn⟩ : ∃ mn, mn = min v1 n1 := ⟨_, rfl⟩
            obtain ⟨mx, hmx⟩ : ∃ mx, mx = max v2 n2 := ⟨_, rfl⟩
            have HRE := Lib.hid (show accR F F2 m i (t + 1) = some (mn, mx) from by rw [hre.out, hmn, hmx]; rfl)
            have hm1 : (if n1 < v1 then n1 else v1) = mn := by omega
            have hm2 : (if v2 < n2 then n2 else v2) = mx := by omega
            clear hac hre HBT hmn hmx
            go_wp2
            go_still_tail 19, (by kernel_rfl)
            change wpList _ _ _ _ _ w12.drew
            have HY6 := Lib.hid (HY5.out.turn (Ext.drew (Ext.refl _)))
            clear HY5 a0 a1 a2 a3 p0 p1
            generalize w12.drew = w14 at *
            obtain ⟨a0, a1, a2, a3⟩ := HY6.out.at_ (j := i) (by omega)
            obtain ⟨c0, c1⟩ := HY6.out.mid (i := i) (by omega) mn
            have HY7 := Lib.hid (HY6.out.put (i := i) (by omega) mn mx)
            clear HY6
            go_wp2
            go_roundw
            case rel => exact ⟨t + 1, updT T i (mn, mx), by omega, by omega, by go_num, by rw [HRE.out]; rfl, HY7, Lib.hid (fun x h1 h2 => by unfold updT; rw [if_neg (by omega)]; exact HI.out x h1 h2), Lib.hid (fun v h => by rw [HRE.out] at h; unfold updT; rw [if_pos rfl]; exact Option.some.inj h)⟩
            case measure => simp [intV]; omega
        · obtain rfl : t = m := by omega
          have hd1 : decide ((t : Int) + 1 ≤ (t : Int)) = false := decide_eq_false (by omega)
          have HV := Lib.hid (HA.out _ (HAL.out i (by omega)))
          have HI2 := Lib.hid (show ∀ x, i ≤ x → x ≤ t → T x = btwV F F2 t x from fun x h1 h2 => by
            rcases Nat.lt_or_ge i x with h | h
            · exact HI.out x h h2
            · obtain rfl : x = i := by omega
              exact HV.out)
          have hiw2 : IntKind.i64.wrap ((i : Int) - 1) = (i : Int) - 1 := wrapi64 _ (by omega) (by omega)
          go_wp2
          go_roundw
          case rel => exact ⟨i, T, by omega, by go_num, HY1, HI2⟩
          case measure => simp [intV]
    · obtain rfl : k = 0 := by omega
      obtain ⟨a0, a1, -, -⟩ := HY.out.at_ (j := 0) (by omega)
      have hz := HI.out 0 (Nat.le_refl _) (by omega)
      rw [hz] at a0 a1
      have HE := Lib.hid (HE.out.trans HY.out.ext0)
      have HR := Lib.hid (block_ext HY.out.ext0 HR.out)
      clear hz
      have p0 : wr.cell? ⟨w.heap.size + 1 + 1 + 1, 0, none⟩ = some (.int .i64 0) := cell_of_blk HR.out rfl
      have p1 : wr.cell? ⟨w.heap.size + 1 + 1 + 1, 1, none⟩ = some (.int .i64 0) := cell_of_blk HR.out rfl
      have f0 : wr.frozen? ⟨w.heap.size + 1 + 1 + 1, 0, none⟩ = false := frozen_of_blk HR.out 0
      have f1 : wr.frozen? ⟨w.heap.size + 1 + 1 + 1, 1, none⟩ = false := frozen_of_blk HR.out 1
      go_wp2
      have z0 : ((wr.setCell ⟨w.heap.size + 1 + 1 + 1, 0, none⟩ (.int .i64 (btwV F F2 m 0).1)).setCell ⟨w.heap.size + 1 + 1 + 1, 1, none⟩ (.int .i64 (btwV F F2 m 0).2)).heap[w.heap.size + 1 + 1 + 1]? = some (.cells #[.int .i64 (btwV F F2 m 0).1, .int .i64 (btwV F F2 m 0).2] 53 (0, 0)) := by
        have h1 := set_blk (cs := [.int .i64 0, .int .i64 0]) HR.out (o := 0) (.int .i64 (btwV F F2 m 0).1)
        exact set_blk h1 (o := 1) (.int .i64 (btwV F F2 m 0).2)
      have y0 : ((wr.setCell ⟨w.heap.size + 1 + 1 + 1, 0, none⟩ (.int .i64 (btwV F F2 m 0).1)).setCell ⟨w.heap.size + 1 + 1 + 1, 1, none⟩ (.int .i64 (btwV F F2 m 0).2)).cell? ⟨w.heap.size + 1 + 1 + 1, 0, none⟩ = some (.int .i64 (btwV F F2 m 0).1) := cell_of_blk z0 rfl
      have y1 : ((wr.setCell ⟨w.heap.size + 1 + 1 + 1, 0, none⟩ (.int .i64 (btwV F F2 m 0).1)).setCell ⟨w.heap.size + 1 + 1 + 1, 1, none⟩ (.int .i64 (btwV F F2 m 0).2)).cell? ⟨w.heap.size + 1 + 1 + 1, 1, none⟩ = some (.int .i64 (btwV F F2 m 0).2) := cell_of_blk z0 rfl
      exact bodyPost_ret (v := .tuple #[.agg #[.int .i64 (btwV F F2 m 0).1, .int .i64 (btwV F F2 m 0).2], .int .i64 0]) (by simp [results, Try.results39, go_sem, y0, y1]) rfl ⟨rfl, (HE.out.setCell (p := ⟨w.heap.size + 1 + 1 + 1, 0, none⟩) (by show w.heap.size ≤ (w.heap.size + 1 + 1 + 1); omega) _).setCell (p := ⟨w.heap.size + 1 + 1 + 1, 1, none⟩) (by show w.heap.size ≤ (w.heap.size + 1 + 1 + 1); omega) _⟩
end Go.Proofs.Ytcgheakadfjofaa
