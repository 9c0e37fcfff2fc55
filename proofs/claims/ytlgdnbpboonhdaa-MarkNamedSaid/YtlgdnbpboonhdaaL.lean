/- Lists of integers as slices in memory: what a slice reads as, and that it goes on reading so while new blocks are laid. -/
import Derived.Test.YtlgdnbpboonhdaaP
import Derived.WalkKit
import Derived.Deep.Draws
namespace Go.Proofs.Ytlgdnbpboonhdaa
open Go.RowKit
set_option linter.unusedVariables false

/-- Nothing that was there has turned; blocks may have come. -/
abbrev Ext (w w' : World) : Prop := Below w.heap.size w w'
theorem Ext.refl (w : World) : Ext w w := Below.refl _ _
theorem Ext.trans {a b c : World} (h : Ext a b) (k : Ext b c) : Ext a c := Below.trans h (k.mono h.size)

theorem lt_of_cell {w : World} {b o : Nat} {v : Value} (h : w.cell? ⟨b, o, none⟩ = some v) : b < w.heap.size := by
  apply Decidable.byContradiction; intro hn
  have : w.heap[b]? = none := by simp; omega
  simp [World.cell?, this] at h

/-- A slice of ints that reads as a list. -/
def Reads (w : World) (v : Value) (xs : List Int) : Prop :=
  xs.length ≤ 5000 ∧ ∃ a cap, v = .slice a xs.length cap ∧ ((a = none ∧ xs = []) ∨ ∃ b off, a = some ⟨b, off, none⟩ ∧ ∀ i, i < xs.length → w.cell? ⟨b, off + i, none⟩ = some (.int .i64 (xs[i]?.getD 0)))

theorem Reads.ext {w w' : World} {v : Value} {xs : List Int} (h : Reads w v xs) (hb : Ext w w') : Reads w' v xs := by
  obtain ⟨hl, a, cap, rfl, h⟩ := h
  refine ⟨hl, a, cap, rfl, h.imp id ?_⟩
  rintro ⟨b, off, rfl, hc⟩
  refine ⟨b, off, rfl, fun i hi => ?_⟩
  have h1 := hc i hi
  rw [hb.cell (p := ⟨b, off + i, none⟩) (lt_of_cell h1)]
  exact h1
theorem Reads.nil (w : World) : Reads w (.slice none 0 0) [] := ⟨by simp, none, 0, rfl, .inl ⟨rfl, rfl⟩⟩
theorem take_snoc {α : Type} {xs : List α} {k : Nat} {x : α} (h : xs[k]? = some x) : xs.take (k + 1) = xs.take k ++ [x] := by
  rw [List.take_add_one, h]; rfl
theorem get_some {α : Type} {xs : List α} {k : Nat} (h : k < xs.length) : ∃ x, xs[k]? = some x := ⟨xs[k], by simp [h]⟩
/-- Element k of a list in memory. -/
theorem Reads.at {w : World} {a : Option Addr} {n cap : Nat} {xs : List Int} (h : Reads w (.slice a n cap) xs) {k : Nat} (hk : k < xs.length) :
    ∃ b off x, a = some ⟨b, off, none⟩ ∧ xs[k]? = some x ∧ w.cell? ⟨b, off + k, none⟩ = some (.int .i64 x) := by
  obtain ⟨hl, a', cap', e, h⟩ := h
  cases e
  rcases h with ⟨rfl, rfl⟩ | ⟨b, off, rfl, hc⟩
  · simp at hk
  · refine ⟨b, off, xs[k], rfl, by simp [hk], ?_⟩
    have := hc k hk
    simpa [hk] using this
theorem Reads.shape {w : World} {v : Value} {xs : List Int} (h : Reads w v xs) : xs.length ≤ 5000 ∧ ∃ a cap, v = .slice a xs.length cap := ⟨h.1, let ⟨a, cap, e, _⟩ := h.2; ⟨a, cap, e⟩⟩
theorem cell_ext {w w' : World} (hb : Ext w w') {b o : Nat} {v : Value} (h : w.cell? ⟨b, o, none⟩ = some v) : w'.cell? ⟨b, o, none⟩ = some v := by
  rw [hb.cell (p := ⟨b, o, none⟩) (lt_of_cell h)]; exact h
theorem Ext.drew {w w' : World} (h : Ext w w') : Ext w w'.drew := Below.drew h
theorem Ext.drewN {w w' : World} (h : Ext w w') (n : Nat) : Ext w (w'.drewN n) := ⟨h.os, h.tape, h.output, h.size, h.block⟩
theorem Ext.ofDrew {w w' : World} (h : Ext w.drew w') : Ext w w' := ⟨h.os, h.tape, h.output, h.size, h.block⟩
theorem Ext.alloc {w w' : World} (h : Ext w w') (o : Obj) : Ext w (w'.alloc o) := Below.alloc h h.size o
theorem Reads.new (w : World) (xs : List Int) (T : TypeId) (n : Nat) (hn : n = w.heap.size) (hl : xs.length ≤ 5000) (cs : Array Value) (hcs : cs = (xs.map (Value.int .i64)).toArray) (m cap : Nat) (hm : m = xs.length) : Reads (w.alloc (.cells cs T)) (.slice (some ⟨n, 0, none⟩) m cap) xs := by
  subst hm; subst hcs
  refine ⟨hl, _, cap, rfl, .inr ⟨_, _, rfl, fun i hi => ?_⟩⟩
  rw [World.cell?_alloc_at _ _ _ _ hn]
  simp [hi]
/-- The cells of an office that lies in block b. -/
def OffAt (X : World) (b : Nat) (S L v : Value) : Prop := X.cell? ⟨b, 0, none⟩ = some S ∧ X.cell? ⟨b, 1, none⟩ = some L ∧ X.cell? ⟨b, 2, none⟩ = some v
theorem OffAt.ext {w w' : World} {b : Nat} {S L v : Value} (h : OffAt w b S L v) (hb : Ext w w') : OffAt w' b S L v := ⟨cell_ext hb h.1, cell_ext hb h.2.1, cell_ext hb h.2.2⟩
theorem OffAt.new (w : World) (S L v : Value) (T : TypeId) : OffAt (w.alloc (.cells #[S, L, v] T)) w.heap.size S L v :=
  ⟨World.cell?_alloc_at _ _ _ _ rfl, World.cell?_alloc_at _ _ _ _ rfl, World.cell?_alloc_at _ _ _ _ rfl⟩
end Go.Proofs.Ytlgdnbpboonhdaa
