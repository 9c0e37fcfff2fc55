/- A stem in a block of a law's own, whose list of bad feet grows. -/
import Derived.Test.YtcgheakadfjofaaP1
namespace Go.Proofs.Ytcgheakadfjofaa
open Go.RowKit
set_option linter.unusedVariables false
set_option linter.unusedSimpArgs false
theorem lt_of_blk {w : World} {b : Nat} {o : Obj} (h : w.heap[b]? = some o) : b < w.heap.size := (Array.getElem?_eq_some_iff.1 h).1
theorem OwnI.grown {e : TypeId} {B b : Nat} {w w' : World} {v : Value} {xs : List Int} (h : OwnI e B w v xs) (hg : w.grownBy w' (some b)) (hb : b < B) : OwnI e B w' v xs := by
  obtain ⟨h1, h2⟩ := h
  refine ⟨h1, h2.imp id ?_⟩
  rintro ⟨g, cap, cur, rfl, hgb, hh, r⟩
  refine ⟨g, cap, cur, rfl, hgb, ?_, r⟩
  rw [hg.block g (lt_of_blk hh) (by intro h; cases h; omega)]
  exact hh
/-- A stem of the call's own: its thicknesses, and a list of bad feet of its own. -/
structure BadX (w2 W : World) (X : Nat) (tv bv : Value) (bs : List Int) : Prop where
  ext : Ext w2 W
  new : w2.heap.size ≤ X
  blk : W.heap[X]? = some (.cells #[tv, bv] 25 (0, 0))
  own : OwnI 3 (X + 1) W bv bs
theorem BadX.made {w2 w : World} (h : Ext w2 w) (tv : Value) : BadX w2 (w.alloc (.cells #[tv, .slice none 0 0] 25)) w.heap.size tv (.slice none 0 0) [] :=
  ⟨h.alloc _, h.size, heap_alloc_new _ _, OwnI.nil _ _ _⟩
theorem BadX.turn {w2 W W' : World} {X : Nat} {tv bv : Value} {bs : List Int} (h : BadX w2 W X tv bv bs) (hb : Ext W W') : BadX w2 W' X tv bv bs :=
  ⟨h.ext.trans hb, h.new, block_ext hb h.blk, h.own.ext hb⟩
theorem BadX.lt {w2 W : World} {X : Nat} {tv bv : Value} {bs : List Int} (h : BadX w2 W X tv bv bs) : X + 1 ≤ W.heap.size := lt_of_blk h.blk
theorem BadX.cells {w2 W : World} {X : Nat} {tv bv : Value} {bs : List Int} (h : BadX w2 W X tv bv bs) : W.cell? ⟨X, 0, none⟩ = some tv ∧ W.cell? ⟨X, 1, none⟩ = some bv ∧ W.frozen? ⟨X, 1, none⟩ = false :=
  ⟨cell_of_blk h.blk rfl, cell_of_blk h.blk rfl, frozen_of_blk h.blk 1⟩
/-- Behind the append, ahead of the store. -/
theorem BadX.mid {w2 W w6 : World} {X : Nat} {tv bv : Value} {bs : List Int} (h : BadX w2 W X tv bv bs) (hB : Below (X + 1) W w6) : w6.cell? ⟨X, 1, none⟩ = some bv ∧ w6.frozen? ⟨X, 1, none⟩ = false := by
  have hb : w6.heap[X]? = some (.cells #[tv, bv] 25 (0, 0)) := by rw [hB.block X (Nat.lt_succ_self X)]; exact h.blk
  exact ⟨cell_of_blk hb rfl, frozen_of_blk hb 1⟩
theorem BadX.put {w2 W w6 : World} {X : Nat} {tv bv v6 : Value} {bs bs' : List Int} (h : BadX w2 W X tv bv bs) (hB : Below (X + 1) W w6) (hO : OwnI 3 (X + 1) w6 v6 bs') : BadX w2 (w6.setCell ⟨X, 1, none⟩ v6) X tv v6 bs' := by
  have hb : w6.heap[X]? = some (.cells #[tv, bv] 25 (0, 0)) := by rw [hB.block X (Nat.lt_succ_self X)]; exact h.blk
  have h1 : Ext w2 w6 := Below.trans h.ext (hB.mono (Nat.le_succ_of_le h.new))
  refine ⟨grown_new h1 (grown_set w6 X 1 v6) h.new, h.new, ?_, hO.grown (grown_set w6 X 1 v6) (Nat.lt_succ_self X)⟩
  rw [set_blk hb]; rfl
end Go.Proofs.Ytcgheakadfjofaa
