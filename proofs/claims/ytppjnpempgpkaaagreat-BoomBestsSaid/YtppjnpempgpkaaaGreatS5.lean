/- Works: closed contracts of its calls. -/
import Derived.Test.YtppjnpempgpkaaaGreatS4
import Derived.Test.YtppjnpempgpkaaaGreatK8
import Derived.Test.YtppjnpempgpkaaaGreatJ3
import Derived.Test.YtppjnpempgpkaaaGreatSO
import Derived.Test.YtppjnpempgpkaaaGreatH7
import Derived.Test.YtppjnpempgpkaaaGreatH6
import Derived.Test.YtppjnpempgpkaaaGreatN3
import Derived.Test.YtppjnpempgpkaaaGreatK1
namespace Go.Proofs.YtppjnpempgpkaaaGreat
open Go.RowKit Go.Shelf
set_option linter.unusedVariables false
set_option linter.unusedSimpArgs false
attribute [local go_sem] Oper.semAt_some

theorem vp43 : VP 4 3 [5] [6] := ⟨by decide, by decide, by decide, by decide, ⟨by decide, by decide⟩, ⟨by decide, by decide⟩, by decide⟩
theorem vr43 : VP 4 3 [5, 7] [] := ⟨by decide, by decide, by decide, by decide, ⟨by decide, by decide⟩, ⟨by decide, by decide⟩, by decide⟩
theorem wk1 (X : World) (pa pb : Option Addr) (v : Value) (hw : Reads X (.slice pa 1 1) [5]) (hk : Reads X (.slice pb 1 1) [6]) (hx : Reads X v [4, 5]) : Calls Tryz.prog 27 #[.agg #[.int .i64 4, .int .i64 3, .slice pa 1 1, .slice pb 1 1], v] X fun e w' => e = .returned (.tuple #[.int .i64 6, .int .i64 0]) ∧ Ext X w' := by
  have h := sticks_ok 4 3 1 1 1 1 pa pb [5] [6] vp43 v X hw hk [4, 5] ⟨by decide, by decide⟩ hx
  rw [if_pos works_sticks.2.1, if_pos works_sticks.2.1, show stk (gp vp43) (memL [4, 5]) = 6 from works_sticks.1] at h
  exact h
theorem wk2 (X : World) (pa pb : Option Addr) (v : Value) (hw : Reads X (.slice pa 1 1) [5]) (hk : Reads X (.slice pb 1 1) [6]) (hx : Reads X v [5, 6]) : Calls Tryz.prog 27 #[.agg #[.int .i64 4, .int .i64 3, .slice pa 1 1, .slice pb 1 1], v] X fun e w' => e = .returned (.tuple #[.int .i64 0, .int .i64 19]) ∧ Ext X w' := by
  have h := sticks_ok 4 3 1 1 1 1 pa pb [5] [6] vp43 v X hw hk [5, 6] ⟨by decide, by decide⟩ hx
  have hn : ¬ encB [5] [6] [5, 6] = true := by rw [works_sticks.2.2]; decide
  rw [if_neg hn, if_neg hn] at h
  exact h
theorem wk3 (X : World) (ra : Option Addr) (hw : Reads X (.slice ra 2 2) [5, 7]) : Calls Tryz.prog 11 #[.agg #[.int .i64 4, .int .i64 3, .slice ra 2 2, .slice none 0 0]] X fun e w' => e = .returned (.tuple #[.int .i64 8, .int .i64 0]) ∧ Ext X w' := by
  have h := fewest_ok 4 3 2 2 0 0 ra none [5, 7] [] vr43 X hw (Reads.nil X)
  rw [show stk (gp vr43) (smallB (gp vr43) 64 [5, 7] (memL [])) = 8 from works_fewest] at h
  exact h
theorem wk4 (X : World) (ra : Option Addr) (hw : Reads X (.slice ra 2 2) [5, 7]) : Calls Tryz.prog 13 #[.agg #[.int .i64 4, .int .i64 3, .slice ra 2 2, .slice none 0 0]] X fun e w' => ∃ a c, e = .returned (.tuple #[.slice a 2 c, .int .i64 0]) ∧ Reads w' (.slice a 2 c) [5, 7] ∧ Ext X w' := by
  have h := small_ok 4 3 2 2 0 0 ra none [5, 7] [] vr43 X hw (Reads.nil X)
  rw [show (List.range (4 * 3)).filter (smallB (gp vr43) 64 [5, 7] (memL [])) = [5, 7] from works_small] at h
  exact h.mono fun e w' ⟨u, h1, h2, h3⟩ => by
    obtain ⟨_, a, c, rfl⟩ := h2.shape
    exact ⟨a, c, h1, h2, h3⟩
theorem wk5 (X : World) (ra : Option Addr) (hw : Reads X (.slice ra 2 2) [5, 7]) : Calls Tryz.prog 15 #[.agg #[.int .i64 4, .int .i64 3, .slice ra 2 2, .slice none 0 0]] X fun e w' => ∃ a c, e = .returned (.tuple #[.slice a 3 c, .int .i64 0]) ∧ Reads w' (.slice a 3 c) [5, 6, 7] ∧ Ext X w' := by
  have h := large_ok 4 3 2 2 0 0 ra none [5, 7] [] vr43 X hw (Reads.nil X)
  rw [show (List.range (4 * 3)).filter (largeB (gp vr43) 64 [5, 7] (memL [])) = [5, 6, 7] from works_large] at h
  exact h.mono fun e w' ⟨u, h1, h2, h3⟩ => by
    obtain ⟨_, a, c, rfl⟩ := h2.shape
    exact ⟨a, c, h1, h2, h3⟩
theorem wk6 (X : World) (ra : Option Addr) (hw : Reads X (.slice ra 2 2) [5, 7]) : Calls Tryz.prog 17 #[.agg #[.int .i64 4, .int .i64 3, .slice ra 2 2, .slice none 0 0], .int .i64 6] X fun e w' => e = .returned (.tuple #[.int .i64 1, .int .i64 0]) ∧ Ext X w' := by
  have h := kind_ok 4 3 2 2 0 0 ra none [5, 7] [] vr43 6 (by decide) X hw (Reads.nil X)
  rw [show kindK (smallB (gp vr43) 64 [5, 7] (memL []) 6) (largeB (gp vr43) 64 [5, 7] (memL []) 6) = 1 from works_kind] at h
  exact h
theorem wk7 (X : World) (pa pb : Option Addr) (v : Value) (hw : Reads X (.slice pa 1 1) [5]) (hk : Reads X (.slice pb 1 1) [6]) (hx : ReadsW X v [([5, 6], -1), ([5, 4], 2)]) : Calls Tryz.prog 24 #[.agg #[.int .i64 4, .int .i64 3, .slice pa 1 1, .slice pb 1 1], v] X fun e w' => e = .returned (.tuple #[.int .i64 2, .int .i64 0]) ∧ Ext X w' := by
  have h := checkWays_ok 4 3 1 1 1 1 pa pb [5] [6] vp43 v X hw hk _ hx (by decide)
  have e1 : chkW (gp vp43) 4 3 (natI [5]) (natI [6]) [([5, 6], -1), ([5, 4], 2)] = 0 := works_chkW.1
  rw [if_pos e1, e1] at h
  exact h
theorem wk8 (X : World) (pa pb : Option Addr) (v : Value) (hw : Reads X (.slice pa 1 1) [5]) (hk : Reads X (.slice pb 1 1) [6]) (hx : ReadsW X v [([5, 6], -1), ([5, 6], -1)]) : Calls Tryz.prog 24 #[.agg #[.int .i64 4, .int .i64 3, .slice pa 1 1, .slice pb 1 1], v] X fun e w' => e = .returned (.tuple #[.int .i64 0, .int .i64 11]) ∧ Ext X w' := by
  have h := checkWays_ok 4 3 1 1 1 1 pa pb [5] [6] vp43 v X hw hk _ hx (by decide)
  have e1 : chkW (gp vp43) 4 3 (natI [5]) (natI [6]) [([5, 6], -1), ([5, 6], -1)] = 11 := works_chkW.2
  rw [if_neg (by rw [e1]; decide), e1] at h
  exact h
theorem wk9 (X : World) (ra : Option Addr) (hw : Reads X (.slice ra 2 2) [5, 7]) : Calls Tryz.prog 23 #[.agg #[.int .i64 4, .int .i64 3, .slice ra 2 2, .slice none 0 0]] X fun e w' => ∃ u ls, e = .returned (.tuple #[u, .int .i64 0]) ∧ ReadsW w' u ls ∧ (ls.length = 8 ∧ chkW g43 4 3 (natI [5, 7]) (natI []) ls = 0) ∧ Ext X w' := by
  have h := ways_ok 4 3 2 2 0 0 ra none [5, 7] [] vr43 X hw (Reads.nil X)
  exact h.mono fun e w' ⟨u, h1, h2, h3⟩ => ⟨u, _, h1, h2, works_ways, h3⟩
theorem wc0 : ("EEWW".toUTF8 : ByteArray) = ⟨#[69, 69, 87, 87]⟩ := by decide +kernel
theorem wc1 : ("EENNWSWS".toUTF8 : ByteArray) = ⟨#[69, 69, 78, 78, 87, 83, 87, 83]⟩ := by decide +kernel
theorem wk10 (X : World) : Calls Tryz.prog 40 #[.agg #[.int .i64 0, .int .i64 0, .string ⟨#[69, 69, 87, 87]⟩]] X fun e w' => e = .returned (.int .i64 19) ∧ Ext X w' := by
  have h := checkChain_c 0 0 "EEWW".toUTF8 X
  rw [works_chain.1, wc0] at h
  exact h
theorem wk11 (X : World) : Calls Tryz.prog 41 #[.agg #[.int .i64 1, .int .i64 1, .string ⟨#[69, 69, 78, 78, 87, 83, 87, 83]⟩]] X fun e w' => ∃ a c, e = .returned (.tuple #[.slice a 3 c, .int .i64 0]) ∧ Reads w' (.slice a 3 c) [9, 10, 18] ∧ Ext X w' := by
  have h := enclosed_ok 1 1 "EENNWSWS".toUTF8 X works_chain.2.1
  rw [works_chain.2.2.1, wc1] at h
  exact h.mono fun e w' ⟨u, h1, h2, h3⟩ => by
    have hr := h2.reads (by decide)
    obtain ⟨_, a, c, rfl⟩ := hr.shape
    exact ⟨a, c, h1, hr, h3⟩
theorem wk12 (X : World) : Calls Tryz.prog 42 #[.agg #[.int .i64 1, .int .i64 1, .string ⟨#[69, 69, 78, 78, 87, 83, 87, 83]⟩]] X fun e w' => e = .returned (.tuple #[.int .i64 3, .bool true, .int .i64 0]) ∧ Ext X w' := by
  have h := area_ok 1 1 "EENNWSWS".toUTF8 X works_chain.2.1
  rw [works_chain.2.2.1, works_chain.2.2.2, wc1] at h
  exact h
theorem wk13 (X : World) : Calls Tryz.prog 43 #[.int .i64 10, .int .i64 8, .int .i64 8] X fun e w' => e = .returned (.tuple #[.int .i64 6, .int .i64 2, .int .i64 3, .int .i64 0]) ∧ Ext X w' := by
  have h := most_ok 10 8 8 X (by decide) (by decide) (by decide)
  rw [works_most] at h
  exact h
theorem wk14 (X : World) (ra : Option Addr) (v : Value) (ls : List WI) (hw : Reads X (.slice ra 2 2) [5, 7]) (hx : ReadsW X v ls) (h8 : ls.length = 8 ∧ chkW g43 4 3 (natI [5, 7]) (natI []) ls = 0) : Calls Tryz.prog 25 #[.agg #[.int .i64 4, .int .i64 3, .slice ra 2 2, .slice none 0 0], v] X fun e w' => e = .returned (.tuple #[.int .i64 8, .int .i64 0]) ∧ Ext X w' := by
  have h := rcheckWays_ok 4 3 2 2 0 0 ra none [5, 7] [] vr43 v X hw (Reads.nil X) ls hx (by omega)
  have e1 : chkW (gp vr43) 4 3 (natI [5, 7]) (natI []) ls = 0 := h8.2
  rw [if_pos e1, e1, h8.1] at h
  exact h
theorem reads_blk2 {X : World} {T : TypeId} {b : Nat} {x y : Int} (h : X.heap[b]? = some (.cells #[.int .i64 x, .int .i64 y] T (0, 0))) : Reads X (.slice (some ⟨b, 0, none⟩) 2 2) [x, y] := by
  refine ⟨by simp, _, _, rfl, ⟨by simp, by decide⟩, .inr ⟨b, 0, rfl, fun i hi => ?_⟩⟩
  match i, hi with
  | 0, hi => exact (cells2 h).1
  | 1, hi => exact (cells2 h).2
  | k + 2, hi => exact absurd hi (by simp)
theorem ReadsW.two {Y : World} {T : TypeId} {b : Nat} {u v : Value} {xs ys : List Int} {o1 o2 : Int} (hb : Y.heap[b]? = some (.cells #[u, .int .i64 o1, v, .int .i64 o2] T (0, 0))) (hx : Reads Y u xs) (hy : Reads Y v ys) : ReadsW Y (.slice (some ⟨b, 0, none⟩) 2 2) [(xs, o1), (ys, o2)] := by
  obtain ⟨c0, c1, c2, c3⟩ := cells4 hb
  refine ⟨by simp, _, _, rfl, ⟨by simp, by decide⟩, .inr ⟨b, 0, rfl, fun i x hi => ?_⟩⟩
  match i, hi with
  | 0, hi => simp at hi; subst hi; exact ⟨u, c0, hx, c1⟩
  | 1, hi => simp at hi; subst hi; exact ⟨v, c2, hy, c3⟩
  | k + 2, hi => simp at hi
theorem wkI (u v : Value) (xs : List Int) (X : World) (hx : Reads X u xs) (hy : Reads X v xs) : Calls Tryz.prog 19 #[u, v] X fun e w' => e = .returned (.bool true) ∧ Ext X w' := by
  have h := ints_c u v xs xs X hx hy
  rw [decide_eq_true rfl] at h
  exact h
end Go.Proofs.YtppjnpempgpkaaaGreat
