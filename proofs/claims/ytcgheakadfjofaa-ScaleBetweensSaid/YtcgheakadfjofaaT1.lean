/- For the reference's Between: a table of ranges in memory, and the fold that its loop makes. -/
import Derived.Test.YtcgheakadfjofaaP4
namespace Go.Proofs.Ytcgheakadfjofaa
open Go.RowKit
set_option linter.unusedVariables false
set_option linter.unusedSimpArgs false
theorem info53 : (Try.prog.info? 53).map (fun i => (i.zero, i.size, i.bytes)) = some (some (.agg #[.int .i64 0, .int .i64 0]), 2, 16) := by kernel_rfl
theorem make114 (n : Nat) (h : n ≤ 100000) (w : World) : (Instr.makeSlice 114 (.int .i64 (n : Int)) (.int .i64 (n : Int))).run Try.prog w = .ok (.slice (some ⟨w.heap.size, 0, none⟩) n n) (w.alloc (.cells (madeCells #[.int .i64 0, .int .i64 0] (n * 2)) 53)) := by
  obtain ⟨i0, hi0, hz0, hz1, hz2⟩ := info_parts info53
  have hr := run_make (P := Try.prog) w 114 53 i0 _ Try.underlying114 hi0 hz0 .i64 .i64 n n (by omega) (Int.le_refl _) (by rw [hz2]; omega) (by omega)
  simp only [Int.toNat_natCast, hz1] at hr
  exact hr
/-- The cells of a table of n ranges. -/
def tblL (T : Nat → Int × Int) (n : Nat) : List Value := (List.range (n * 2)).map fun x => .int .i64 (if x % 2 = 0 then (T (x / 2)).1 else (T (x / 2)).2)
theorem tblL_len (T : Nat → Int × Int) (n : Nat) : (tblL T n).length = n * 2 := by simp [tblL]
theorem tblL_lo (T : Nat → Int × Int) {n j : Nat} (h : j < n) : (tblL T n)[j * 2]? = some (.int .i64 (T j).1) := by
  unfold tblL
  rw [List.getElem?_map, List.getElem?_range (by omega)]
  simp
theorem tblL_hi (T : Nat → Int × Int) {n j : Nat} (h : j < n) : (tblL T n)[j * 2 + 1]? = some (.int .i64 (T j).2) := by
  unfold tblL
  rw [List.getElem?_map, List.getElem?_range (by omega)]
  have e1 : (j * 2 + 1) % 2 = 1 := by omega
  have e2 : (j * 2 + 1) / 2 = j := by omega
  simp [e1, e2]
def updT (T : Nat → Int × Int) (i : Nat) (v : Int × Int) : Nat → Int × Int := fun j => if j = i then v else T j
theorem tblL_set (T : Nat → Int × Int) {n i : Nat} (h : i < n) (v : Int × Int) : ((tblL T n).set (i * 2) (.int .i64 v.1)).set (i * 2 + 1) (.int .i64 v.2) = tblL (updT T i v) n := by
  apply List.ext_getElem
  · simp [tblL]
  · intro x h1 h2
    rw [List.getElem_set, List.getElem_set]
    simp only [tblL, List.getElem_map, List.getElem_range, updT]
    by_cases e1 : i * 2 + 1 = x
    · subst e1
      rw [if_pos rfl, if_neg (by omega), show (i * 2 + 1) / 2 = i by omega, if_pos rfl]
    · rw [if_neg e1]
      by_cases e2 : i * 2 = x
      · subst e2
        rw [if_pos rfl, if_pos (by omega), show (i * 2) / 2 = i by omega, if_pos rfl]
      · rw [if_neg e2, if_neg (show ¬ x / 2 = i by omega)]
/-- A table of ranges in a block of its own. -/
structure TblOwn (w₀ W : World) (b n : Nat) (T : Nat → Int × Int) : Prop where
  blk : W.heap[b]? = some (.cells (tblL T n).toArray 53 (0, 0))
  new : w₀.heap.size ≤ b
  ext0 : Ext w₀ W
theorem TblOwn.turn {w₀ W W' : World} {b n : Nat} {T : Nat → Int × Int} (h : TblOwn w₀ W b n T) (hb : Ext W W') : TblOwn w₀ W' b n T := ⟨block_ext hb h.blk, h.new, h.ext0.trans hb⟩
theorem TblOwn.at_ {w₀ W : World} {b n : Nat} {T : Nat → Int × Int} (h : TblOwn w₀ W b n T) {j : Nat} (hj : j < n) : W.cell? ⟨b, j * 2, none⟩ = some (.int .i64 (T j).1) ∧ W.cell? ⟨b, j * 2 + 1, none⟩ = some (.int .i64 (T j).2) ∧ W.frozen? ⟨b, j * 2, none⟩ = false ∧ W.frozen? ⟨b, j * 2 + 1, none⟩ = false :=
  ⟨cell_of_blk h.blk (by rw [List.getElem?_toArray]; exact tblL_lo T hj), cell_of_blk h.blk (by rw [List.getElem?_toArray]; exact tblL_hi T hj), frozen_of_blk h.blk _, frozen_of_blk h.blk _⟩
theorem TblOwn.put {w₀ W : World} {b n : Nat} {T : Nat → Int × Int} (h : TblOwn w₀ W b n T) {i : Nat} (hi : i < n) (x y : Int) : TblOwn w₀ ((W.setCell ⟨b, i * 2, none⟩ (.int .i64 x)).setCell ⟨b, i * 2 + 1, none⟩ (.int .i64 y)) b n (updT T i (x, y)) := by
  refine ⟨?_, h.new, grown_new (grown_new h.ext0 (grown_set _ _ _ _) h.new) (grown_set _ _ _ _) h.new⟩
  rw [set_blk (set_blk h.blk (.int .i64 x)) (.int .i64 y), tblL_set T hi (x, y)]
theorem TblOwn.mid {w₀ W : World} {b n : Nat} {T : Nat → Int × Int} (h : TblOwn w₀ W b n T) {i : Nat} (hi : i < n) (x : Int) : (W.setCell ⟨b, i * 2, none⟩ (.int .i64 x)).cell? ⟨b, i * 2 + 1, none⟩ = some (.int .i64 (T i).2) ∧ (W.setCell ⟨b, i * 2, none⟩ (.int .i64 x)).frozen? ⟨b, i * 2 + 1, none⟩ = false := by
  have h1 := set_blk h.blk (o := i * 2) (.int .i64 x)
  refine ⟨cell_of_blk h1 ?_, frozen_of_blk h1 _⟩
  rw [List.getElem?_toArray, List.getElem?_set_ne (by omega)]
  exact tblL_hi T hi
/-- What the loop has found of a place, up to another place. -/
def accR (f g : Nat → Nat → Int) (n i t : Nat) : Option (Int × Int) :=
  ((((i + 1, 0) :: (logsT f allB t i).map fun j => (j, f i j)).filter (bestB f n i)).map fun p => (ggV g i p + (btwV f g n p.1).1, ggV g i p + (btwV f g n p.1).2)).foldl mrg none
theorem accR_self (f g : Nat → Nat → Int) (n i : Nat) : accR f g n i i = if bst f allB n i = bst f allB n (i + 1) then some (btwV f g n (i + 1)) else none := by
  unfold accR
  rw [logsT_self]
  by_cases h : bst f allB n i = bst f allB n (i + 1)
  · have hb : bestB f n i (i + 1, 0) = true := by simp [bestB, h]
    rw [if_pos h]
    simp [hb, ggV, mrg]
  · have hb : bestB f n i (i + 1, 0) = false := by simp [bestB]; omega
    rw [if_neg h]
    simp [hb]
theorem accR_step (f g : Nat → Nat → Int) (n : Nat) {i t : Nat} (h : i ≤ t) : accR f g n i (t + 1) = if (decide (0 < f i (t + 1)) && decide (f i (t + 1) + bst f allB n (t + 1) = bst f allB n i)) = true then mrg (accR f g n i t) (g i (t + 1) + (btwV f g n (t + 1)).1, g i (t + 1) + (btwV f g n (t + 1)).2) else accR f g n i t := by
  unfold accR
  rw [logsT_more f allB h]
  by_cases hp : 0 < f i (t + 1)
  · by_cases hb : f i (t + 1) + bst f allB n (t + 1) = bst f allB n i
    · have hbb : bestB f n i (t + 1, f i (t + 1)) = true := by simp [bestB, hb]
      have hg : ggV g i (t + 1, f i (t + 1)) = g i (t + 1) := by unfold ggV; rw [if_neg (by dsimp only; omega)]
      have e1 : (decide (0 < f i (t + 1)) && allB i (t + 1)) = true := by simp [hp, allB]
      have e2 : (decide (0 < f i (t + 1)) && decide (f i (t + 1) + bst f allB n (t + 1) = bst f allB n i)) = true := by simp [hp, hb]
      rw [if_pos e1, if_pos e2]
      rw [List.map_append, ← List.cons_append, List.filter_append, List.map_append, List.foldl_append]
      simp [hbb, hg]
    · have hbb : bestB f n i (t + 1, f i (t + 1)) = false := by simp [bestB, hb]
      have e1 : (decide (0 < f i (t + 1)) && allB i (t + 1)) = true := by simp [hp, allB]
      have e2 : ¬ (decide (0 < f i (t + 1)) && decide (f i (t + 1) + bst f allB n (t + 1) = bst f allB n i)) = true := by simp [hb]
      rw [if_pos e1, if_neg e2]
      rw [List.map_append, ← List.cons_append, List.filter_append, List.map_append, List.foldl_append]
      simp [hbb]
  · have e1 : ¬ (decide (0 < f i (t + 1)) && allB i (t + 1)) = true := by simp [hp]
    have e2 : ¬ (decide (0 < f i (t + 1)) && decide (f i (t + 1) + bst f allB n (t + 1) = bst f allB n i)) = true := by simp [hp]
    rw [if_neg e1, if_neg e2, List.append_nil]
theorem accR_all {f g : Nat → Nat → Int} {n i : Nat} (h : i < n) : accR f g n i n = some (btwV f g n i) := by
  have := btw_mrg (f := f) (g := g) h
  unfold partsL at this
  rw [if_pos h] at this
  exact this
end Go.Proofs.Ytcgheakadfjofaa
