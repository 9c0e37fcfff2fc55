/- A list of int64 in a block of its own: made, stored in, read. -/
import Derived.Test.YtcgheakadfjofaaB16
import Derived.Deep.OwnRows
import Derived.Laws.OwnMore
import Derived.StillTailTactics
namespace Go.Proofs.Ytcgheakadfjofaa
open Go.RowKit Go.Shelf
set_option linter.unusedVariables false
set_option linter.unusedSimpArgs false
theorem Try.info2 : (Try.prog.info? 2).map (fun i => (i.zero, i.size, i.bytes)) = some (some (.int .i64 0), 1, 8) := by kernel_rfl
theorem make22 (n : Nat) (h : n ≤ 100000) (w : World) : (Instr.makeSlice 22 (.int .i64 (n : Int)) (.int .i64 (n : Int))).run Try.prog w = .ok (.slice (some ⟨w.heap.size, 0, none⟩) n n) (w.alloc (.cells (madeCells #[.int .i64 0] n) 2)) :=
  run_make_row' 22 2 (.int .i64 0) 8 Try.underlying22 Try.info2 rfl .i64 .i64 n (by omega) (by omega) w
theorem made_zero (n : Nat) : madeCells #[.int .i64 0] n = ((List.replicate n (0 : Int)).map (Value.int .i64)).toArray := by
  apply Array.toList_inj.1
  rw [toList_madeCells_one]
  simp
/-- A list of int64 in a block that is new since a world. -/
structure RowOwn (w₀ W : World) (b : Nat) (xs : List Int) : Prop where
  blk : W.heap[b]? = some (.cells (xs.map (Value.int .i64)).toArray 2 (0, 0))
  new : w₀.heap.size ≤ b
  ext0 : Ext w₀ W
theorem RowOwn.made {w₀ w : World} (h : Ext w₀ w) (n : Nat) : RowOwn w₀ (w.alloc (.cells (madeCells #[.int .i64 0] n) 2)) w.heap.size (List.replicate n 0) :=
  ⟨by rw [heap_alloc_new, made_zero], h.size, h.alloc _⟩
theorem RowOwn.ext {w₀ W W' : World} {b : Nat} {xs : List Int} (h : RowOwn w₀ W b xs) (hb : Ext W W') : RowOwn w₀ W' b xs := ⟨block_ext hb h.blk, h.new, h.ext0.trans hb⟩
theorem RowOwn.stored {w₀ W : World} {b : Nat} {xs : List Int} (h : RowOwn w₀ W b xs) (k : Nat) (x : Int) : RowOwn w₀ (W.setCell ⟨b, k, none⟩ (.int .i64 x)) b (xs.set k x) := by
  refine ⟨?_, h.new, grown_new h.ext0 (grown_set W b k (.int .i64 x)) h.new⟩
  rw [set_blk h.blk, List.map_set]
theorem RowOwn.cell {w₀ W : World} {b : Nat} {xs : List Int} (h : RowOwn w₀ W b xs) {k : Nat} (hk : k < xs.length) : W.cell? ⟨b, k, none⟩ = some (.int .i64 (xs.getD k 0)) :=
  cell_of_blk h.blk (by simp [List.getD, hk])
theorem RowOwn.free {w₀ W : World} {b : Nat} {xs : List Int} (h : RowOwn w₀ W b xs) (k : Nat) : W.frozen? ⟨b, k, none⟩ = false := frozen_of_blk h.blk k
theorem RowOwn.lt {w₀ W : World} {b : Nat} {xs : List Int} (h : RowOwn w₀ W b xs) : b < W.heap.size := (Array.getElem?_eq_some_iff.1 h.blk).1
theorem RowOwn.reads {w₀ W : World} {b : Nat} {xs : List Int} (h : RowOwn w₀ W b xs) (hl : xs.length ≤ 5000) {m : Nat} (hm : m = xs.length) (cap : Nat) : Reads W (.slice (some ⟨b, 0, none⟩) m cap) xs := by
  subst hm
  refine ⟨hl, _, cap, rfl, .inr ⟨b, 0, rfl, fun i hi => ?_⟩⟩
  have := h.cell hi
  rw [Nat.zero_add, this]
  simp [List.getD]
/-- The first n numbers, those from a place on given, the others 0. -/
def rowK (q : Nat → Int) (n k : Nat) : List Int := (List.range n).map fun j => if k ≤ j then q j else 0
theorem rowK_len (q : Nat → Int) (n k : Nat) : (rowK q n k).length = n := by simp [rowK]
theorem rowK_get (q : Nat → Int) {n k j : Nat} (h : k ≤ j) (hj : j < n) : (rowK q n k).getD j 0 = q j := by simp [rowK, List.getD, hj, h]
theorem rowK_start (q : Nat → Int) {n k : Nat} (h : n ≤ k) : rowK q n k = List.replicate n 0 := by
  apply List.ext_getElem (by simp [rowK])
  intro i h1 h2
  simp [rowK] at h1 ⊢
  intro h3; omega
theorem rowK_set (q : Nat → Int) {n k : Nat} (hk : k < n) : (rowK q n (k + 1)).set k (q k) = rowK q n k := by
  apply List.ext_getElem
  · simp [rowK]
  · intro i h1 h2
    rw [List.getElem_set]
    by_cases e : k = i
    · subst e; simp [rowK]
    · rw [if_neg e]
      simp [rowK]
      by_cases h3 : k + 1 ≤ i
      · rw [if_pos h3, if_pos (by omega)]
      · rw [if_neg h3, if_neg (by omega)]
theorem rowK_set2 (q : Nat → Int) {n k : Nat} (hk : k < n) (x : Int) : ((rowK q n (k + 1)).set k x).set k (q k) = rowK q n k := by
  rw [List.set_set, rowK_set q hk]
theorem rowK_zero (q : Nat → Int) {n k : Nat} (h : ∀ j, k ≤ j → j < n → q j = 0) : rowK q n k = List.replicate n 0 := by
  apply List.ext_getElem (by simp [rowK])
  intro i h1 h2
  simp [rowK] at h1 ⊢
  intro h3; exact h i h3 h1
theorem set_getD {xs : List Int} {k : Nat} (h : k < xs.length) (x : Int) : (xs.set k x).getD k 0 = x := by simp [List.getD, h]
theorem set_getD_ne {xs : List Int} {k j : Nat} (h : k ≠ j) (x : Int) : (xs.set k x).getD j 0 = xs.getD j 0 := by simp [List.getD, List.getElem?_set_ne h]
theorem Reads.get {w : World} {b off n cap : Nat} {xs : List Int} (h : Reads w (.slice (some ⟨b, off, none⟩) n cap) xs) {k : Nat} (hk : k < xs.length) : w.cell? ⟨b, off + k, none⟩ = some (.int .i64 (xs.getD k 0)) := by
  obtain ⟨b', off', x, e, hx, hc⟩ := h.at hk
  cases e
  rw [hc]; simp [List.getD, hx]
theorem still_tail {P : Program} {id : Nat} {Q : Exit → Act → World → Prop} {a : Act} {w : World} {l : List Oper} (n : Nat) (hm : P.follows .mixedOrders = true) (hB : Region.lexTailB .any l.toArray n = true)
    (h : ∀ W : World, W = w.drew → wpStill P l.toArray W (fun a' => wpList P l.toArray Q (l.drop n) a' W) (l.take n) a) : (Code.region id l.toArray true).wp P Q a w :=
  wp_region_still_tail n hm hB (h _ rfl)
end Go.Proofs.Ytcgheakadfjofaa
