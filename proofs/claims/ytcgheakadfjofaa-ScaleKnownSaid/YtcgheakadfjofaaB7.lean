/- open, lies, by their contracts. -/
import Derived.Test.YtcgheakadfjofaaB6
import Derived.Test.YtcgheakadfjofaaB3
namespace Go.Proofs.Ytcgheakadfjofaa
open Go.RowKit
set_option linter.unusedVariables false
set_option linter.unusedSimpArgs false
def zeros : List Int := List.replicate 61 0
theorem heap_alloc_new (w : World) (o : Obj) : (w.alloc o).heap[w.heap.size]? = some o := by
  show (w.heap.push o)[w.heap.size]? = some o
  simp
set_option maxRecDepth 100000 in
theorem yard_new (vt vb : Value) (r : Rl) : ((((((((Try.zeroCells93.setIfInBounds 0 vt).setIfInBounds 1 vb).setIfInBounds 2 (.int .i64 r.lo)).setIfInBounds 3 (.int .i64 r.hi)).setIfInBounds 4 (.int .i64 r.st)).setIfInBounds 5 (.int .i64 r.tr)).setIfInBounds 6 (.int .i64 r.off)).setIfInBounds 7 (.int .i64 r.dv)).setIfInBounds 8 (.int .i64 r.tn) = (ycL vt vb r zeros).toArray := by kernel_rfl
/-- What open hands back. -/
def Opened (w : World) (vt vb : Value) (th bd : List Int) (r : Rl) (E : Int) (e : Ending) (w' : World) : Prop :=
  (E ≠ 0 ∧ e = .returned (.tuple #[.pointer none, .int .i64 E]) ∨ E = 0 ∧ ∃ b, e = .returned (.tuple #[.pointer (some ⟨b, 0, none⟩), .int .i64 0]) ∧ w.heap.size ≤ b ∧ YardAt w' b vt vb th bd r zeros) ∧ Ext w w'
set_option maxRecDepth 100000 in
set_option maxHeartbeats 4000000 in
theorem open50 (vt vb : Value) (th bd : List Int) (r : Rl) (w : World) (ht : Reads w vt th) (hd : Reads w vb bd) :
    Calls Try.prog 50 #[.agg #[vt, vb], r.val] w (Opened w vt vb th bd r (bothE th bd r)) := by
  obtain ⟨hl, a, cap, rfl⟩ := ht.shape
  obtain ⟨hl', a', cap', rfl⟩ := hd.shape
  obtain ⟨n, hn⟩ : ∃ n, n = th.length := ⟨_, rfl⟩
  obtain ⟨n', hn'⟩ : ∃ n', n' = bd.length := ⟨_, rfl⟩
  rw [← hn] at ht ⊢
  rw [← hn'] at hd ⊢
  have E0 := Lib.hid (Ext.alloc (Ext.alloc (Ext.refl w) (.cells #[.slice a n cap, .slice a' n' cap'] 25)) (.cells #[.int .i64 r.lo, .int .i64 r.hi, .int .i64 r.st, .int .i64 r.tr, .int .i64 r.off, .int .i64 r.dv, .int .i64 r.tn] 27))
  have P0 := Lib.hid ((StemAt.new w (.slice a n cap) (.slice a' n' cap') 25).ext (Ext.alloc (Ext.refl _) (.cells #[.int .i64 r.lo, .int .i64 r.hi, .int .i64 r.st, .int .i64 r.tr, .int .i64 r.off, .int .i64 r.dv, .int .i64 r.tn] 27)))
  have R0 := RuleAt.new (w.alloc (.cells #[.slice a n cap, .slice a' n' cap'] 25)) r 27
  rw [World.size_alloc] at R0
  have R0 := Lib.hid R0
  have h20 := fun (W : World) (h : Ext w W) => stem20 _ _ th bd W (ht.ext h) (hd.ext h)
  have h22 := fun (W : World) => rule22 r W
  have HT := Lib.hid ht; have HD := Lib.hid hd
  clear ht hd hn hn'
  unfold bothE
  generalize stemE th bd = sE at *
  generalize ruleE r = rE at *
  have H20 := Lib.hid h20; have H22 := Lib.hid h22
  clear h20 h22
  by_cases hs : sE = 0
  · subst hs
    rw [if_pos rfl]
    by_cases hr : rE = 0
    · subst hr
      go_enter Try.func50, Try.ntmps50
      have ⟨g1, g2⟩ := P0.out
      go_wp2_with fail
      refine (H20.out _ E0.out).mono ?_
      rintro e w1 ⟨rfl, hb⟩
      have E1 := Lib.hid (E0.out.trans hb)
      have P1 := Lib.hid (P0.out.ext hb)
      have R1 := Lib.hid (R0.out.ext hb)
      clear g1 g2 hb
      have ⟨r0, r1, r2, r3, r4, r5, r6⟩ := R1.out
      go_wp2_with fail
      refine (H22.out _).mono ?_
      rintro e w2 ⟨rfl, hb⟩
      have E2 := Lib.hid (E1.out.trans hb)
      have ⟨g1, g2⟩ := P1.out.ext hb
      clear r0 r1 r2 r3 r4 r5 r6
      have ⟨r0, r1, r2, r3, r4, r5, r6⟩ := R1.out.ext hb
      clear hb
      go_wp2
      rw [yard_new]
      go_ret2
      refine ⟨.inr ⟨rfl, w2.heap.size, rfl, E2.out.size, ?_⟩, E2.out.alloc _⟩
      exact ⟨heap_alloc_new _ _, HT.out.ext (E2.out.alloc _), HD.out.ext (E2.out.alloc _), rfl⟩
    · have hrb : (rE != 0) = true := by simpa using hr
      have HRN := Lib.hid hr
      clear hr
      go_enter Try.func50, Try.ntmps50
      have ⟨g1, g2⟩ := P0.out
      go_wp2_with fail
      refine (H20.out _ E0.out).mono ?_
      rintro e w1 ⟨rfl, hb⟩
      have E1 := Lib.hid (E0.out.trans hb)
      have R1 := Lib.hid (R0.out.ext hb)
      clear g1 g2 hb
      have ⟨r0, r1, r2, r3, r4, r5, r6⟩ := R1.out
      go_wp2_with fail
      refine (H22.out _).mono ?_
      rintro e w2 ⟨rfl, hb⟩
      have E2 := Lib.hid (E1.out.trans hb)
      clear r0 r1 r2 r3 r4 r5 r6 hb
      go_wp2
      go_ret2
      exact ⟨.inl ⟨HRN.out, rfl⟩, E2.out⟩
  · have hrb : (sE != 0) = true := by simpa using hs
    rw [if_neg hs]
    have HRN := Lib.hid hs
    clear hs
    go_enter Try.func50, Try.ntmps50
    have ⟨g1, g2⟩ := P0.out
    go_wp2_with fail
    refine (H20.out _ E0.out).mono ?_
    rintro e w1 ⟨rfl, hb⟩
    have E1 := Lib.hid (E0.out.trans hb)
    clear g1 g2 hb
    go_wp2
    go_ret2
    exact ⟨.inl ⟨HRN.out, rfl⟩, E1.out⟩
end Go.Proofs.Ytcgheakadfjofaa
