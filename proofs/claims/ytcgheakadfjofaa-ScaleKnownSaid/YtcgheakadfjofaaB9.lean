/- The iterator parts: what it yields, for every loop body that keeps what lay before but for its own variables. -/
import Derived.RangeFuncNested
import Derived.RangeFuncBound
import Derived.RangeFuncCalls
import Derived.RangeFuncLeaves
import Derived.RangeFuncBox
import Derived.Shelf.Abstract
import Derived.Shelf.RegionOpen
import Derived.OwnWalkIn
import Derived.TacticsInMore
import Derived.LoopNIn
import Derived.LoopIn
import Derived.RegionIn
import Derived.Test.YtcgheakadfjofaaB8
namespace Go.Proofs.Ytcgheakadfjofaa
open Go.RowKit Go.Shelf
set_option linter.unusedVariables false
set_option linter.unusedSimpArgs false
attribute [local go_sem] Oper.semAt_some
/-- All cells but those of some blocks lie as they lay. -/
structure KeepC (rs : List Nat) (A B : World) : Prop where
  os : B.os = A.os
  tape : B.tape = A.tape
  output : B.output = A.output
  size : A.heap.size ≤ B.heap.size
  block : ∀ k o, A.heap[k]? = some o → o.isCells = true → k ∉ rs → B.heap[k]? = some o
theorem KeepC.refl (rs : List Nat) (A : World) : KeepC rs A A := ⟨rfl, rfl, rfl, Nat.le_refl _, fun _ _ h _ _ => h⟩
theorem KeepC.trans {rs : List Nat} {A B C : World} (h : KeepC rs A B) (k : KeepC rs B C) : KeepC rs A C :=
  ⟨k.os.trans h.os, k.tape.trans h.tape, k.output.trans h.output, Nat.le_trans h.size k.size, fun i o h1 h2 h3 => k.block i o (h.block i o h1 h2 h3) h2 h3⟩
theorem KeepC.ext {rs : List Nat} {A B : World} (h : Ext A B) : KeepC rs A B := ⟨h.os, h.tape, h.output, h.size, fun k o h1 _ _ => block_ext h h1⟩
theorem KeepC.drewN {rs : List Nat} {A B : World} (h : KeepC rs A B) (n : Nat) : KeepC rs A (B.drewN n) := ⟨h.os, h.tape, h.output, h.size, h.block⟩
theorem KeepC.put {rs : List Nat} {W : World} {l : Nat} {o o' : Obj} (hl : W.heap[l]? = some o) (hc : o.isCells = false) : KeepC rs W (W.putObj l o') := by
  refine ⟨rfl, rfl, rfl, by simp [World.putObj], fun k o1 h1 h2 _ => ?_⟩
  simp only [World.putObj, Array.getElem?_setIfInBounds]
  split
  · rename_i h; subst h; rw [hl] at h1; cases h1; rw [hc] at h2; cases h2
  · exact h1
theorem KeepC.set {rs : List Nat} (A : World) {b o : Nat} (hb : b ∈ rs) (v : Value) : KeepC rs A (A.setCell ⟨b, o, none⟩ v) := by
  refine ⟨rfl, rfl, rfl, by simp [World.setCell], fun k o1 h1 h2 h3 => ?_⟩
  show (A.heap.modify b _)[k]? = _
  rw [Array.getElem?_modify]
  rw [if_neg (fun e : b = k => h3 (by rw [← e]; exact hb))]
  exact h1
theorem cell_cells {w : World} {b o : Nat} {v : Value} (h : w.cell? ⟨b, o, none⟩ = some v) : ∃ ob, w.heap[b]? = some ob ∧ ob.isCells = true := by
  unfold World.cell? at h
  cases hb : w.heap[b]? with
  | none => simp [hb] at h
  | some ob => cases ob <;> simp_all [Obj.isCells]
theorem KeepC.cell {rs : List Nat} {A B : World} (h : KeepC rs A B) {g o : Nat} {v : Value} (hg : g ∉ rs) (hc : A.cell? ⟨g, o, none⟩ = some v) : B.cell? ⟨g, o, none⟩ = some v := by
  obtain ⟨ob, h1, h2⟩ := cell_cells hc
  have h3 := h.block g ob h1 h2 hg
  rw [← hc]
  simp only [World.cell?, h1, h3]
theorem Reads.keep {rs : List Nat} {w₀ W X : World} {v : Value} {xs : List Int} (h : Reads w₀ v xs) (hE : Ext w₀ W) (hk : KeepC rs W X) (hrs : ∀ r ∈ rs, w₀.heap.size ≤ r) : Reads X v xs := by
  obtain ⟨hl, a, cap, rfl, h⟩ := h
  refine ⟨hl, a, cap, rfl, h.imp id ?_⟩
  rintro ⟨b, off, rfl, hc⟩
  refine ⟨b, off, rfl, fun i hi => ?_⟩
  have h1 := hc i hi
  exact hk.cell (fun hm => by have := hrs b hm; have := lt_of_cell h1; omega) (cell_ext hE h1)
theorem YardAt.keep {rs : List Nat} {w₀ W X : World} {b : Nat} {vt vb : Value} {th bd : List Int} {r : Rl} {ps : List Int} (h : YardAt w₀ b vt vb th bd r ps) (hE : Ext w₀ W) (hk : KeepC rs W X) (hrs : ∀ r ∈ rs, w₀.heap.size ≤ r) : YardAt X b vt vb th bd r ps :=
  ⟨hk.block b _ (block_ext hE h.blk) rfl (fun hm => by have := hrs b hm; have := lt_of_cell h.cells.1; omega), h.th.keep hE hk hrs, h.bd.keep hE hk hrs, h.len⟩
theorem grown_ext {w X : World} (h : Ext w X) (row : Option Nat) : w.grownBy X row := ⟨h.os, h.tape, h.output, h.size, fun i hi _ => h.block i hi⟩
theorem parts80 (b i : Nat) (w : World) : Calls Try.prog 80 #[.pointer (some ⟨b, 0, none⟩), .int .i64 (i : Int)] w fun e w' =>
    e = .returned (.func (.func 90) #[] #[.pointer (some ⟨w.heap.size + 1, 0, none⟩), .pointer (some ⟨w.heap.size, 0, none⟩)]) ∧ w' = (w.alloc (.cells #[.pointer (some ⟨b, 0, none⟩)] 75)).alloc (.cells #[.int .i64 (i : Int)] 3) := by
  go_enter Try.func80, Try.ntmps80
  go_wp2
  go_ret
  exact ⟨rfl, rfl⟩
/-- The parts that begin at a place and end before another one. -/
def partsTo (F : Nat → Nat → Int) (i k : Nat) : List (Nat × Int) := if k ≤ i + 1 then [] else (i + 1, 0) :: ((List.range' (i + 1) (k - (i + 1))).filter fun j => decide (0 < F i j)).map fun j => (j, F i j)
theorem partsTo_first (F : Nat → Nat → Int) (i : Nat) : partsTo F i (i + 1) = [] := by simp [partsTo]
theorem partsTo_succ (F : Nat → Nat → Int) (i k : Nat) (h : i + 1 ≤ k) : partsTo F i (k + 1) = (partsTo F i k ++ (if k = i + 1 then [(k, 0)] else [])) ++ (if 0 < F i k then [(k, F i k)] else []) := by
  unfold partsTo
  rw [if_neg (show ¬ k + 1 ≤ i + 1 by omega), show k + 1 - (i + 1) = (k - (i + 1)) + 1 from by omega, List.range'_concat, show i + 1 + 1 * (k - (i + 1)) = k from by omega, List.filter_append, List.map_append]
  by_cases h1 : k = i + 1
  · subst h1
    by_cases h2 : 0 < F i (i + 1) <;> simp [h2]
  · rw [if_neg (show ¬ k ≤ i + 1 by omega), if_neg h1]
    by_cases h2 : 0 < F i k <;> simp [h2]
theorem partsTo_all (F : Nat → Nat → Int) (n i : Nat) : partsTo F i (n + 1) = partsL F n i := by
  unfold partsTo partsL logsT
  by_cases h : i < n
  · rw [if_neg (by omega), if_pos h, show n + 1 - (i + 1) = n - i from by omega]
    simp [allB]
  · rw [if_pos (by omega), if_neg h]
theorem partsTo_len (F : Nat → Nat → Int) (i k : Nat) : (partsTo F i k).length ≤ k := by
  unfold partsTo
  split
  · simp
  · have := List.length_filter_le (fun j => decide (0 < F i j)) (List.range' (i + 1) (k - (i + 1)))
    simp at this ⊢; omega
theorem partsTo_pre (F : Nat → Nat → Int) (i : Nat) {j k : Nat} (h : j ≤ k) : partsTo F i j <+: partsTo F i k := by
  obtain ⟨d, rfl⟩ : ∃ d, k = j + d := ⟨k - j, by omega⟩
  clear h
  induction d with
  | zero => exact List.prefix_refl _
  | succ d ih =>
    refine ih.trans ?_
    by_cases hj : i + 1 ≤ j + d
    · rw [show j + (d + 1) = j + d + 1 from rfl, partsTo_succ F i (j + d) hj, List.append_assoc]; exact List.prefix_append _ _
    · have : partsTo F i (j + d) = [] := by unfold partsTo; rw [if_pos (by omega)]
      rw [this]; exact List.nil_prefix
/-- A part that begins at a place. -/
abbrev PartOf (F : Nat → Nat → Int) (n i : Nat) := { p : Nat × Int // p ∈ partsL F n i }
def encT (F : Nat → Nat → Int) (n i : Nat) (x : PartOf F n i) : Array Value := #[.agg #[.int .i64 (i : Int), .int .i64 (x.1.1 : Int), .int .i64 x.1.2]]
def pv (F : Nat → Nat → Int) (n i : Nat) (ys : List (PartOf F n i)) : List (Nat × Int) := ys.map Subtype.val
theorem pv_snoc (F : Nat → Nat → Int) (n i : Nat) (ys : List (PartOf F n i)) (x : PartOf F n i) : pv F n i (ys ++ [x]) = pv F n i ys ++ [x.1] := by simp [pv]
theorem pv_len (F : Nat → Nat → Int) (n i : Nat) (ys : List (PartOf F n i)) : (pv F n i ys).length = ys.length := by simp [pv]
end Go.Proofs.Ytcgheakadfjofaa
