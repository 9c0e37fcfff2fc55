/- What is noted of worn marks: a row of bools that turns, and what stays beside it; marks of loops over iterators, one behind another. -/
import Derived.Test.YtlgdnbpboonhdaaA2
import Derived.Lib.SliceRun
import Derived.Lib.LazyBuf
import Derived.Lib.BufferOwn
import Derived.RangeFuncLeaves
namespace Go.Proofs.Ytlgdnbpboonhdaa
open Go.RowKit Go.Shelf Go.Maps
set_option linter.unusedVariables false
/-- What is no bool stays. -/
def KeepsCells (w X : World) : Prop := ∀ g o v, (∀ t, v ≠ .bool t) → w.cell? ⟨g, o, none⟩ = some v → X.cell? ⟨g, o, none⟩ = some v
theorem KeepsCells.refl (w : World) : KeepsCells w w := fun _ _ _ _ h => h
theorem KeepsCells.trans {a b c : World} (h : KeepsCells a b) (k : KeepsCells b c) : KeepsCells a c := fun g o v hn hc => k g o v hn (h g o v hn hc)
theorem KeepsCells.ext {w X : World} (h : Ext w X) : KeepsCells w X := fun g o v _ hc => cell_ext h hc
theorem row_ne {w : World} {bt n g o : Nat} {T : Nat → Bool} {v : Value} (hr : w.rowIs bt 4 n (fun x => .bool (T x))) (hn : ∀ t, v ≠ .bool t) (hc : w.cell? ⟨g, o, none⟩ = some v) : g ≠ bt := by
  intro e
  subst e
  obtain ⟨c, hb, hs, hx⟩ := hr
  rw [cell_of_row _ _ _ _ _ _ hb] at hc
  obtain ⟨ho, _⟩ := Array.getElem?_eq_some_iff.1 hc
  rw [hx o (by omega)] at hc
  exact hn _ (Option.some.inj hc).symm
theorem KeepsCells.turned {w X : World} {bt n : Nat} {T : Nat → Bool} (hr : w.rowIs bt 4 n (fun x => .bool (T x))) (hg : w.grownBy X (some bt)) : KeepsCells w X := fun g o v hn hc =>
  hg.cell hc (fun e => row_ne hr hn hc (Option.some.inj e))
theorem Reads.keeps {w X : World} {v : Value} {xs : List Int} (h : Reads w v xs) (hk : KeepsCells w X) : Reads X v xs := by
  obtain ⟨hl, a, cap, rfl, h⟩ := h
  refine ⟨hl, a, cap, rfl, h.imp id ?_⟩
  rintro ⟨b, off, rfl, hc⟩
  exact ⟨b, off, rfl, fun i hi => hk _ _ _ (fun t e => by cases e) (hc i hi)⟩
theorem Valid.mlt {S L : Nat} {ms : List Nat} (h : Valid S L ms) {i m : Nat} (hm : ms[i]? = some m) : m ≤ full S := by
  have := h.2.2.2.2 m (List.mem_of_getElem? hm)
  omega
/-- A register with what is noted. -/
def RegT (w : World) (b S L bt : Nat) (v : Value) (ms : List Nat) (T : Nat → Bool) : Prop :=
  RegAt w b S L v ms ∧ w.cell? ⟨b, 3, none⟩ = some (.slice (some ⟨bt, 0, none⟩) (full S + 1) (full S + 1)) ∧ w.rowIs bt 4 (full S + 1) (fun x => .bool (T x))
theorem RegT.keeps {w X : World} {b S L bt : Nat} {v : Value} {ms : List Nat} {T T' : Nat → Bool} (h : RegT w b S L bt v ms T) (hv : ∀ t, v ≠ .bool t) (hk : KeepsCells w X) (hr : X.rowIs bt 4 (full S + 1) (fun x => .bool (T' x))) : RegT X b S L bt v ms T' := by
  obtain ⟨⟨⟨h0, h1, h2⟩, hR⟩, h3, h4⟩ := h
  exact ⟨⟨⟨hk _ _ _ (fun t e => by cases e) h0, hk _ _ _ (fun t e => by cases e) h1, hk _ _ _ hv h2⟩, hR.keeps hk⟩, hk _ _ _ (fun t e => by cases e) h3, hr⟩
theorem RegT.ext {w X : World} {b S L bt : Nat} {v : Value} {ms : List Nat} {T : Nat → Bool} (h : RegT w b S L bt v ms T) (hb : Ext w X) : RegT X b S L bt v ms T := by
  have hlt : bt < w.heap.size := by
    obtain ⟨c, hh, _⟩ := h.2.2
    exact (Array.getElem?_eq_some_iff.1 hh).1
  refine ⟨h.1.ext hb, cell_ext hb h.2.1, ?_⟩
  obtain ⟨c, hh, r⟩ := h.2.2
  exact ⟨c, (hb.block bt hlt).trans hh, r⟩
theorem RegT.lt {w : World} {b S L bt : Nat} {v : Value} {ms : List Nat} {T : Nat → Bool} (h : RegT w b S L bt v ms T) : bt < w.heap.size := by
  obtain ⟨c, hh, _⟩ := h.2.2
  exact (Array.getElem?_eq_some_iff.1 hh).1
theorem grown_ext {w X : World} (h : Ext w X) (row : Option Nat) : w.grownBy X row := ⟨h.os, h.tape, h.output, h.size, fun i hi _ => h.block i hi⟩
/-- Loops over iterators that have ended, one behind another: their marks. -/
def Marks (base : Nat) (ds : List Deferred) (W : World) : Prop :=
  ∃ Ds : List Nat, ds = Ds.map (fun D => { target := .collected D, args := #[] }) ∧ Ds.Nodup ∧ ∀ D ∈ Ds, base ≤ D ∧ W.heap[D]? = some (.deferred (some []))
theorem Marks.nil (base : Nat) (W : World) : Marks base [] W := ⟨[], rfl, List.nodup_nil, fun D h => by cases h⟩
theorem marks_leave {F : Fence} {n : Nat} {P : Program} {fn : Func} {tmps : Array Value} {R : Ending → World → Prop} {base : Nat} : ∀ (ds : List Deferred) (u : FrameMode) (W : World), u ≠ .run → base ≤ W.heap.size → Marks base ds W →
    (∀ W', Below base W W' → LeavesInM F n P fn tmps R [] u W') → LeavesInM F n P fn tmps R ds u W
  | [], u, W, hu, hb, hm, h => h W (Below.refl _ _)
  | d :: ds, u, W, hu, hb, ⟨Ds, e, hnd, hD⟩, h => by
    cases Ds with
    | nil => cases e
    | cons D Ds =>
      cases e
      obtain ⟨h1, h2⟩ := hD D (by simp)
      have hnd' := List.nodup_cons.1 hnd
      have hbel : Below base W (W.putObj D (.deferred none)) := ⟨rfl, rfl, rfl, by simp [World.putObj], fun k hk => World.putObj_heap_other (fun e => by omega)⟩
      refine ⟨hu, .inl ⟨D, _, rfl, run_takeDeferred h2, marks_leave _ u _ hu (by have := hbel.size; omega) ⟨Ds, rfl, hnd'.2, fun D' hD' => ?_⟩ (fun W' hW' => h W' (hbel.trans hW'))⟩⟩
      obtain ⟨h3, h4⟩ := hD D' (by simp [hD'])
      refine ⟨h3, ?_⟩
      rw [World.putObj_heap_other (fun e => hnd'.1 (by rw [← e]; exact hD'))]
      exact h4
/-- A mark more: the block is none of the elder marks' blocks, for it is a new one. -/
theorem Marks.cons {base : Nat} {ds : List Deferred} {W W' : World} {D : Nat} (h : Marks base ds W) (hD : W.heap.size ≤ D) (hb : base ≤ W.heap.size) (hk : W'.heap[D]? = some (.deferred (some []))) (hs : ∀ E, E < W.heap.size → W.heap[E]? = some (.deferred (some [])) → W'.heap[E]? = some (.deferred (some []))) :
    Marks base ({ target := .collected D, args := #[] } :: ds) W' := by
  obtain ⟨Ds, rfl, hnd, hDs⟩ := h
  have hlt : ∀ E ∈ Ds, E < W.heap.size := fun E hE => (Array.getElem?_eq_some_iff.1 (hDs E hE).2).1
  refine ⟨D :: Ds, rfl, List.nodup_cons.2 ⟨fun hm => by have := hlt D hm; omega, hnd⟩, fun E hE => ?_⟩
  rcases List.mem_cons.1 hE with rfl | hE
  · exact ⟨by omega, hk⟩
  · exact ⟨(hDs E hE).1, hs E (hlt E hE) (hDs E hE).2⟩
end Go.Proofs.Ytlgdnbpboonhdaa
