/- ScaleBetweens, by its contract. -/
import Derived.Test.YtcgheakadfjofaaT2
namespace Go.Proofs.Ytcgheakadfjofaa
open Go.RowKit Go.Shelf
set_option linter.unusedVariables false
set_option linter.unusedSimpArgs false
attribute [local go_sem] Oper.semAt_some
set_option maxRecDepth 100000 in
set_option maxHeartbeats 8000000 in
theorem refbetween39e (vt vb : Value) (th bd : List Int) (r r2 : Rl) (w : World) (ht : Reads w vt th) (hd : Reads w vb bd) (hE : bothE th bd r ≠ 0) :
    Calls Try.prog 39 #[.agg #[vt, vb], r.val, r2.val] w fun e w' => e = .returned (.tuple #[.agg #[.int .i64 (betweenE th bd r r2).1.1, .int .i64 (betweenE th bd r r2).1.2], .int .i64 (betweenE th bd r r2).2]) ∧ Ext w w' := by
  obtain ⟨hl, a, cap, rfl⟩ := ht.shape
  have C53 := Lib.hid (fun (W : World) (h : Ext w W) => refcheck53 _ _ th bd r W (ht.ext h) (hd.ext h))
  have C23 := Lib.hid (fun (W : World) => refrule23 r2 W)
  obtain ⟨n, hn⟩ : ∃ n, n = th.length := ⟨_, rfl⟩
  rw [← hn] at C53 ⊢
  have HE := Lib.hid (Ext.alloc (Ext.alloc (Ext.alloc (Ext.alloc (Ext.refl w) (.cells #[.slice a n cap, vb] 25)) (.cells #[.int .i64 r.lo, .int .i64 r.hi, .int .i64 r.st, .int .i64 r.tr, .int .i64 r.off, .int .i64 r.dv, .int .i64 r.tn] 27)) (.cells #[.int .i64 r2.lo, .int .i64 r2.hi, .int .i64 r2.st, .int .i64 r2.tr, .int .i64 r2.off, .int .i64 r2.dv, .int .i64 r2.tn] 27)) (.cells #[.int .i64 0, .int .i64 0] 53))
  have HP := Lib.hid ((SR.new w (.slice a n cap) vb r).ext (Ext.alloc (Ext.alloc (Ext.refl _) (.cells #[.int .i64 r2.lo, .int .i64 r2.hi, .int .i64 r2.st, .int .i64 r2.tr, .int .i64 r2.off, .int .i64 r2.dv, .int .i64 r2.tn] 27)) (.cells #[.int .i64 0, .int .i64 0] 53)))
  have hq0 := (RuleAt.new ((w.alloc (.cells #[.slice a n cap, vb] 25)).alloc (.cells #[.int .i64 r.lo, .int .i64 r.hi, .int .i64 r.st, .int .i64 r.tr, .int .i64 r.off, .int .i64 r.dv, .int .i64 r.tn] 27)) r2 27).ext (Ext.alloc (Ext.refl _) (.cells #[.int .i64 0, .int .i64 0] 53))
  have hr0 := heap_alloc_new (((w.alloc (.cells #[.slice a n cap, vb] 25)).alloc (.cells #[.int .i64 r.lo, .int .i64 r.hi, .int .i64 r.st, .int .i64 r.tr, .int .i64 r.off, .int .i64 r.dv, .int .i64 r.tn] 27)).alloc (.cells #[.int .i64 r2.lo, .int .i64 r2.hi, .int .i64 r2.st, .int .i64 r2.tr, .int .i64 r2.off, .int .i64 r2.dv, .int .i64 r2.tn] 27)) (.cells #[.int .i64 0, .int .i64 0] 53)
  simp only [World.size_alloc] at hq0 hr0
  have HQ := Lib.hid hq0; have HR := Lib.hid hr0
  clear hq0 hr0
  obtain ⟨⟨g1, g2⟩, r0, r1, r2_, r3, r4, r5, r6⟩ := HP.out
  obtain ⟨e0, e1, e2, e3, e4, e5, e6⟩ := HQ.out
  have hbe : betweenE th bd r r2 = ((0, 0), bothE th bd r) := by unfold betweenE; rw [if_pos hE]
  rw [hbe]
  have hbn : (bothE th bd r != 0) = true := by simpa using hE
  generalize bothE th bd r = BE at *
  clear ht hd hn hE hbe
  go_enter Try.func39, Try.ntmps39
  go_wp2_with fail
  refine (C53.out _ HE.out).mono ?_
  rintro e w1 ⟨rfl, hb⟩
  obtain ⟨⟨g1, g2⟩, r0, r1, r2_, r3, r4, r5, r6⟩ := HP.out.ext hb
  obtain ⟨e0, e1, e2, e3, e4, e5, e6⟩ := HQ.out.ext hb
  have HE := Lib.hid (HE.out.trans hb)
  have HP := Lib.hid (HP.out.ext hb)
  have HQ := Lib.hid (HQ.out.ext hb)
  have HR := Lib.hid (block_ext hb HR.out)
  clear hb
  go_wp2_with fail
  refine (C53.out _ HE.out).mono ?_
  rintro e w2 ⟨rfl, hb⟩
  obtain ⟨⟨g1, g2⟩, r0, r1, r2_, r3, r4, r5, r6⟩ := HP.out.ext hb
  obtain ⟨e0, e1, e2, e3, e4, e5, e6⟩ := HQ.out.ext hb
  have HE := Lib.hid (HE.out.trans hb)
  have HP := Lib.hid (HP.out.ext hb)
  have HQ := Lib.hid (HQ.out.ext hb)
  have HR := Lib.hid (block_ext hb HR.out)
  clear hb
  have p0 : w2.cell? ⟨w.heap.size + 1 + 1 + 1, 0, none⟩ = some (.int .i64 0) := cell_of_blk HR.out rfl
  have p1 : w2.cell? ⟨w.heap.size + 1 + 1 + 1, 1, none⟩ = some (.int .i64 0) := cell_of_blk HR.out rfl
  have f0 : w2.frozen? ⟨w.heap.size + 1 + 1 + 1, 0, none⟩ = false := frozen_of_blk HR.out 0
  have f1 : w2.frozen? ⟨w.heap.size + 1 + 1 + 1, 1, none⟩ = false := frozen_of_blk HR.out 1
  go_wp2
  have z0 : ((w2.setCell ⟨w.heap.size + 1 + 1 + 1, 0, none⟩ (.int .i64 0)).setCell ⟨w.heap.size + 1 + 1 + 1, 1, none⟩ (.int .i64 0)).heap[w.heap.size + 1 + 1 + 1]? = some (.cells #[.int .i64 0, .int .i64 0] 53 (0, 0)) := by
    have h1 := set_blk (cs := [.int .i64 0, .int .i64 0]) HR.out (o := 0) (.int .i64 0)
    exact set_blk h1 (o := 1) (.int .i64 0)
  have y0 : ((w2.setCell ⟨w.heap.size + 1 + 1 + 1, 0, none⟩ (.int .i64 0)).setCell ⟨w.heap.size + 1 + 1 + 1, 1, none⟩ (.int .i64 0)).cell? ⟨w.heap.size + 1 + 1 + 1, 0, none⟩ = some (.int .i64 0) := cell_of_blk z0 rfl
  have y1 : ((w2.setCell ⟨w.heap.size + 1 + 1 + 1, 0, none⟩ (.int .i64 0)).setCell ⟨w.heap.size + 1 + 1 + 1, 1, none⟩ (.int .i64 0)).cell? ⟨w.heap.size + 1 + 1 + 1, 1, none⟩ = some (.int .i64 0) := cell_of_blk z0 rfl
  exact bodyPost_ret (v := .tuple #[.agg #[.int .i64 0, .int .i64 0], .int .i64 BE]) (by simp [results, Try.results39, go_sem, y0, y1]) rfl ⟨rfl, (HE.out.setCell (p := ⟨w.heap.size + 1 + 1 + 1, 0, none⟩) (by show w.heap.size ≤ (w.heap.size + 1 + 1 + 1); omega) _).setCell (p := ⟨w.heap.size + 1 + 1 + 1, 1, none⟩) (by show w.heap.size ≤ (w.heap.size + 1 + 1 + 1); omega) _⟩
set_option maxRecDepth 100000 in
set_option maxHeartbeats 8000000 in
theorem refbetween39a (vt vb : Value) (th bd : List Int) (r r2 : Rl) (w : World) (ht : Reads w vt th) (hd : Reads w vb bd) :
    Calls Try.prog 39 #[.agg #[vt, vb], r.val, r2.val] w fun e w' => e = .returned (.tuple #[.agg #[.int .i64 (betweenE th bd r r2).1.1, .int .i64 (betweenE th bd r r2).1.2], .int .i64 (betweenE th bd r r2).2]) ∧ Ext w w' := by
  by_cases hE : bothE th bd r = 0
  · obtain ⟨q1, q2⟩ := vs_len hE
    exact refbetween39 vt vb th bd r r2 w ht hd (by omega)
  · exact refbetween39e vt vb th bd r r2 w ht hd hE
set_option maxRecDepth 100000 in
set_option maxHeartbeats 8000000 in
theorem betweens7 (a a' : Option Addr) (cap cap' : Nat) (th bd : List Int) (r r2 : Rl) (w : World) (hlen : th.length ≤ cap ∧ cap ≤ 9223372036854775807) (hlen' : bd.length ≤ cap' ∧ cap' ≤ 9223372036854775807) (hr : th.length ≤ 5000 → Reads w (.slice a th.length cap) th) (hr' : bd.length ≤ 5000 → Reads w (.slice a' bd.length cap') bd) :
    Calls Try.prog 7 #[.agg #[.slice a th.length cap, .slice a' bd.length cap'], r.val, r2.val] w fun e w' => e = .returned (.bool true) ∧ Ext w w' := by
  obtain ⟨n, hn⟩ : ∃ n, n = th.length := ⟨_, rfl⟩
  obtain ⟨n', hn'⟩ : ∃ n', n' = bd.length := ⟨_, rfl⟩
  rw [← hn] at hlen hr ⊢
  rw [← hn'] at hlen' hr' ⊢
  have HE := Lib.hid (Ext.alloc (Ext.alloc (Ext.alloc (Ext.refl w) (.cells #[.slice a n cap, .slice a' n' cap'] 25)) (.cells #[.int .i64 r.lo, .int .i64 r.hi, .int .i64 r.st, .int .i64 r.tr, .int .i64 r.off, .int .i64 r.dv, .int .i64 r.tn] 27)) (.cells #[.int .i64 r2.lo, .int .i64 r2.hi, .int .i64 r2.st, .int .i64 r2.tr, .int .i64 r2.off, .int .i64 r2.dv, .int .i64 r2.tn] 27))
  have HP := Lib.hid ((SR.new w (.slice a n cap) (.slice a' n' cap') r).ext (Ext.alloc (Ext.refl _) (.cells #[.int .i64 r2.lo, .int .i64 r2.hi, .int .i64 r2.st, .int .i64 r2.tr, .int .i64 r2.off, .int .i64 r2.dv, .int .i64 r2.tn] 27)))
  have hq := RuleAt.new ((w.alloc (.cells #[.slice a n cap, .slice a' n' cap'] 25)).alloc (.cells #[.int .i64 r.lo, .int .i64 r.hi, .int .i64 r.st, .int .i64 r.tr, .int .i64 r.off, .int .i64 r.dv, .int .i64 r.tn] 27)) r2 27
  simp only [World.size_alloc] at hq
  have HQ := Lib.hid hq
  clear hq
  have H16 := Lib.hid (fun (W : World) => great16 a a' n n' cap cap' W (by omega) (by omega))
  by_cases hg : 70 < n ∨ 70 < n'
  · have hG : (decide (70 < n) || decide (70 < n')) = true := by simpa using hg
    have HG := Lib.hid hG
    clear hr hr' hG hg hn hn'
    obtain ⟨⟨g1, g2⟩, r0, r1, r2_, r3, r4, r5, r6⟩ := HP.out
    obtain ⟨e0, e1, e2, e3, e4, e5, e6⟩ := HQ.out
    go_enter Try.func7, Try.ntmps7
    go_wp2_with fail
    refine (H16.out _).mono ?_
    rintro e w1 ⟨rfl, hb⟩
    obtain ⟨⟨g1, g2⟩, r0, r1, r2_, r3, r4, r5, r6⟩ := HP.out.ext hb
    obtain ⟨e0, e1, e2, e3, e4, e5, e6⟩ := HQ.out.ext hb
    have HE := Lib.hid (HE.out.trans hb)
    have HP := Lib.hid (HP.out.ext hb)
    have HQ := Lib.hid (HQ.out.ext hb)
    clear hb
    rw [HG.out]
    go_wp2_with fail
    refine (works17 _).mono ?_
    rintro e w9 ⟨rfl, hb⟩
    have HE := Lib.hid (HE.out.trans hb); clear hb
    go_wp2
    go_ret
    exact ⟨rfl, HE.out⟩
  have hG : (decide (70 < n) || decide (70 < n')) = false := by simpa using hg
  have HGR := Lib.hid hG
  have ht := hr (by omega)
  have hd := hr' (by omega)
  have C38 := Lib.hid (fun (W : World) (h : Ext w W) => between38 _ _ th bd r r2 W (ht.ext h) (hd.ext h))
  have C39 := Lib.hid (fun (W : World) (h : Ext w W) => refbetween39a _ _ th bd r r2 W (ht.ext h) (hd.ext h))
  generalize (betweenE th bd r r2).1.1 = G1 at C38 C39
  generalize (betweenE th bd r r2).1.2 = G2 at C38 C39
  generalize (betweenE th bd r r2).2 = EE at C38 C39
  clear hr hr' hG hg ht hd hn hn'
  obtain ⟨⟨g1, g2⟩, r0, r1, r2_, r3, r4, r5, r6⟩ := HP.out
  obtain ⟨e0, e1, e2, e3, e4, e5, e6⟩ := HQ.out
  go_enter Try.func7, Try.ntmps7
  go_wp2_with fail
  refine (H16.out _).mono ?_
  rintro e w1 ⟨rfl, hb⟩
  obtain ⟨⟨g1, g2⟩, r0, r1, r2_, r3, r4, r5, r6⟩ := HP.out.ext hb
  obtain ⟨e0, e1, e2, e3, e4, e5, e6⟩ := HQ.out.ext hb
  have HE := Lib.hid (HE.out.trans hb)
  have HP := Lib.hid (HP.out.ext hb)
  have HQ := Lib.hid (HQ.out.ext hb)
  clear hb
  rw [HGR.out]
  go_wp2_with fail
  refine (C38.out _ HE.out).mono ?_
  rintro e w3 ⟨rfl, hb⟩
  have hb := Ext.alloc hb (.cells #[.int .i64 G1, .int .i64 G2] 53)
  obtain ⟨⟨g1, g2⟩, r0, r1, r2_, r3, r4, r5, r6⟩ := HP.out.ext hb
  obtain ⟨e0, e1, e2, e3, e4, e5, e6⟩ := HQ.out.ext hb
  have HE := Lib.hid (HE.out.trans hb)
  have HP := Lib.hid (HP.out.ext hb)
  have HQ := Lib.hid (HQ.out.ext hb)
  have HG := Lib.hid (StemAt.new w3 (.int .i64 G1) (.int .i64 G2) 53)
  clear hb
  go_wp2_with fail
  refine (C39.out _ HE.out).mono ?_
  rintro e w4 ⟨rfl, hb⟩
  have hb := Ext.alloc hb (.cells #[.int .i64 G1, .int .i64 G2] 53)
  obtain ⟨⟨g1, g2⟩, r0, r1, r2_, r3, r4, r5, r6⟩ := HP.out.ext hb
  obtain ⟨e0, e1, e2, e3, e4, e5, e6⟩ := HQ.out.ext hb
  have HE := Lib.hid (HE.out.trans hb)
  have HP := Lib.hid (HP.out.ext hb)
  have HQ := Lib.hid (HQ.out.ext hb)
  have HG := Lib.hid (HG.out.ext hb)
  have HH := Lib.hid (StemAt.new w4 (.int .i64 G1) (.int .i64 G2) 53)
  clear hb
  obtain ⟨y0, y1⟩ := HG.out
  obtain ⟨z0, z1⟩ := HH.out
  go_wp2_with fail
  refine (works17 _).mono ?_
  rintro e w9 ⟨rfl, hb⟩
  have HE := Lib.hid (HE.out.trans hb); clear hb
  go_wp2
  go_ret
  exact ⟨rfl, HE.out⟩
end Go.Proofs.Ytcgheakadfjofaa
