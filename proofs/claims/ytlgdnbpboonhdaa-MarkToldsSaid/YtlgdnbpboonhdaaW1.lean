/- A loop over an iterator that itself loops over another iterator: the outer loop's invariant must stand the inner loop's records. No round leaves early. -/
import Derived.Test.YtlgdnbpboonhdaaT2
namespace Go.Proofs.Ytlgdnbpboonhdaa
open Go.RowKit Go.Shelf Go.Maps
set_option linter.unusedVariables false
attribute [local go_sem] Oper.semAt_some
/-- All blocks but some lie as they lay. -/
structure KeepBut (rs : List Nat) (A B : World) : Prop where
  os : B.os = A.os
  tape : B.tape = A.tape
  output : B.output = A.output
  size : A.heap.size ≤ B.heap.size
  block : ∀ k, k < A.heap.size → k ∉ rs → B.heap[k]? = A.heap[k]?
theorem KeepBut.refl (rs : List Nat) (A : World) : KeepBut rs A A := ⟨rfl, rfl, rfl, Nat.le_refl _, fun _ _ _ => rfl⟩
theorem KeepBut.trans {rs : List Nat} {A B C : World} (h : KeepBut rs A B) (k : KeepBut rs B C) : KeepBut rs A C :=
  ⟨k.os.trans h.os, k.tape.trans h.tape, k.output.trans h.output, Nat.le_trans h.size k.size, fun i hi hn => (k.block i (Nat.lt_of_lt_of_le hi h.size) hn).trans (h.block i hi hn)⟩
theorem KeepBut.grown {rs : List Nat} {A B C : World} (h : KeepBut rs A B) {row : Option Nat} (hg : B.grownBy C row) (hr : ∀ r, row = some r → A.heap.size ≤ r ∨ r ∈ rs) : KeepBut rs A C :=
  ⟨hg.os.trans h.os, hg.tape.trans h.tape, hg.output.trans h.output, Nat.le_trans h.size hg.size, fun i hi hn => (hg.block i (Nat.lt_of_lt_of_le hi h.size) (fun e => by rcases hr i e.symm with h1 | h1; omega; exact hn h1)).trans (h.block i hi hn)⟩
theorem KeepBut.ext {rs : List Nat} {A B : World} (h : Ext A B) : KeepBut rs A B := ⟨h.os, h.tape, h.output, h.size, fun k hk _ => h.block k hk⟩
theorem KeepBut.set {rs : List Nat} (A : World) {b o : Nat} (hb : b ∈ rs) (v : Value) : KeepBut rs A (A.setCell ⟨b, o, none⟩ v) :=
  (KeepBut.refl rs A).grown (grown_setCell A b o v) (fun r e => by cases e; exact .inr hb)
theorem KeepBut.cell {rs : List Nat} {A B : World} (h : KeepBut rs A B) {g o : Nat} {v : Value} (hg : g ∉ rs) (hc : A.cell? ⟨g, o, none⟩ = some v) : B.cell? ⟨g, o, none⟩ = some v := by
  have hb := h.block g (lt_of_cell hc) hg
  rw [← hc]
  simp only [World.cell?, hb]
theorem ownFrom_keepBut {β : Type} {rs : List Nat} {w₀ : World} {B : Nat} (hB : w₀.heap.size ≤ B) : OwnFrom B (fun (_ : β) W => KeepBut rs w₀ W) :=
  fun _ _ _ _ hs hg hr => hs.grown hg (fun r e => .inl (Nat.le_trans hB (hr r e).1))
theorem OwnFrom.mono {β : Type} {B B' : Nat} {I : β → World → Prop} (h : OwnFrom B I) (hB : B ≤ B') : OwnFrom B' I :=
  fun s A C row hs hg hr => h s A C row hs hg (fun r e => ⟨Nat.le_trans hB (hr r e).1, (hr r e).2⟩)
/-- An iterator's word, where what the caller holds stands every block that is no cells. -/
def SeqAny {α : Type} (n gf : Nat) (lb : Array Value) (encs : α → Array Value) (Kp : World → World → Prop) (S : List α → Prop) (N : Nat) (w : World) : Prop :=
  ∀ (l : Nat) (J : List α → World → Prop) (W : World), Below w.heap.size w W → OwnFrom W.heap.size J →
    (∀ pre x X, J pre X → pre.length < N → YieldAt Fence.wide (n - 1) Try.prog l (encs x) X fun e Y => e = .returned (.bool true) ∧ J (pre ++ [x]) Y ∧ Kp X Y) →
    J [] W → CallsIn Fence.wide n Try.prog gf (#[.func (.yield l) #[] #[]] ++ lb) W fun e Y => (∃ v, e = .returned v) ∧ ∃ xs, S xs ∧ J xs Y
theorem KeepBut.put {rs : List Nat} {A B : World} {l : Nat} {o o' : Obj} (hl : A.heap[l]? = some o) (h : KeepBut rs (A.putObj l o') B) (hb : B.heap[l]? = some o') : KeepBut rs A (B.putObj l o) := by
  have hlt := (Array.getElem?_eq_some_iff.1 hb).1
  have hs : (A.putObj l o').heap.size = A.heap.size := by simp [World.putObj]
  refine ⟨h.os, h.tape, h.output, ?_, fun k hk hn => ?_⟩
  · have := h.size; rw [hs] at this; simpa [World.putObj] using this
  · by_cases e : k = l
    · subst e; rw [World.putObj_heap_same hlt, hl]
    · rw [World.putObj_heap_other e, h.block k (by rw [hs]; exact hk) hn, World.putObj_heap_other e]
theorem wp_seqAny {α : Type} {n : Nat} {g : Operand} {ps : Array Tmp} {assign body : Code} {Q : Exit → Act → World → Prop} {a : Act} {w w0 : World} {gf : Nat} {lb : Array Value} {encs : α → Array Value} {rs : List Nat} {S : List α → Prop} {N : Nat}
    (h1 : 1 ≤ n) (hg : a.eval g = .func (.func gf) #[] lb) (eg : ∀ args W, (callFunc gf args).run Try.prog W = .ok (.enter gf args) W) (hseq : SeqAny (n - 1) gf lb encs (KeepBut rs) S N w0) (hb0 : Below w0.heap.size w0 w) (hps : ∀ x, (encs x).size = ps.size)
    (hrs : ∀ r ∈ rs, r < w.heap.size)
    (I : List α → World → Prop) (hI : OwnFrom w.heap.size I) (h0 : I [] w) (a₁ : α → Act)
    (hassign : ∀ (l : Nat) (x : α) (W : World) (K : Act → World → Prop), K (a₁ x) W → assign.wpIn (Fence.wide.inRound l) (n - 1 - 1) Try.prog (Exit.then K (fun _ _ _ => False)) { tmps := (ps.zip (encs x)).foldl (fun t (p, v) => t.setIfInBounds p v) a.tmps, defers := [] } W)
    (hbody : ∀ (l : Nat) (pre : List α) (x : α) (W : World), w.heap.size ≤ l → I pre W → pre.length < N →
      body.wpIn (Fence.wide.inRound l) (n - 1 - 1) Try.prog (Exit.then (fun _ Y => KeepBut rs W Y ∧ I (pre ++ [x]) Y) (fun _ _ _ => False)) (a₁ x) W)
    (hdone : ∀ (D : Nat) (xs : List α) (W : World), w.heap.size ≤ D → S xs → I xs W → W.heap[D]? = some (.deferred (some [])) → Q .normal { a with defers := { target := .collected D, args := #[] } :: a.defers } W) :
    (Code.rangeFunc g ps assign body).wpIn Fence.wide n Try.prog Q a w := by
  refine wpIn_rangeFunc fun fn hfn => ?_
  -- the two blocks that the statement lays
  let R : LoopState → Loop := fun s => { state := s, pending := none, fn, tmps := a.tmps, params := ps, assign, body, defers := w.heap.size }
  have hE : Ext w ((w.alloc (.deferred (some []))).alloc (.loop (R .ready))) := ((Ext.refl w).alloc _).alloc _
  have hrec : ((w.alloc (.deferred (some []))).alloc (.loop (R .ready))).heap[w.heap.size + 1]? = some (.loop (R .ready)) := by
    have := heap_alloc_new (w.alloc (.deferred (some []))) (.loop (R .ready)); rwa [World.size_alloc] at this
  have hdef : ((w.alloc (.deferred (some []))).alloc (.loop (R .ready))).heap[w.heap.size]? = some (.deferred (some [])) :=
    (Below.heap_alloc _ _ _ (by simp)).trans (heap_alloc_new w _)
  have hI0 : I [] ((w.alloc (.deferred (some []))).alloc (.loop (R .ready))) := hI.alloc _ (hI.alloc _ h0)
  have hsz : ((w.alloc (.deferred (some []))).alloc (.loop (R .ready))).heap.size = w.heap.size + 2 := by simp
  have hrun : (Instr.enterLoop fn a.tmps ps assign body Fence.wide.round).run Try.prog w = .ok (w.heap.size + 1, [{ target := .collected w.heap.size, args := #[] }]) ((w.alloc (.deferred (some []))).alloc (.loop (R .ready))) := run_enterLoop_outer _ _ _ _ _
  generalize (w.alloc (.deferred (some []))).alloc (.loop (R .ready)) = W1 at hE hrec hdef hI0 hsz hrun
  refine ⟨w.heap.size + 1, _, W1, { target := .fn (.func gf) lb, args := #[.func (.yield (w.heap.size + 1)) #[] #[]] }, W1, gf, #[.func (.yield (w.heap.size + 1)) #[] #[]] ++ lb, W1, hrun, ?_, ?_, ?_, fun _ => h1, ?_⟩
  · simp only [resolve, hg]; simp [go_sem]
  · exact fun f' hf' => trivial
  · simp [invoke, go_sem, eg]
  have turn : ∀ {X Y : World} {row : Option Nat} {k : Nat} {o : Obj}, k < W1.heap.size → X.heap[k]? = some o → X.grownBy Y row → (∀ r, row = some r → W1.heap.size ≤ r ∧ ∃ o : Obj, X.heap[r]? = some o ∧ o.isCells = false) → Y.heap[k]? = some o :=
    fun hk hX hg' hr => (hg'.block _ (Array.getElem?_eq_some_iff.1 hX).1 (fun e => by have := (hr _ e.symm).1; omega)).trans hX
  refine (hseq (w.heap.size + 1) (fun pre X => I pre X ∧ X.heap[w.heap.size + 1]? = some (.loop (R .ready)) ∧ X.heap[w.heap.size]? = some (.deferred (some []))) W1 (hb0.trans (hE.mono hb0.size))
    (fun s X Y row hs hg' hr => ⟨hI s X Y row hs.1 hg' (fun r e => ⟨by have := (hr r e).1; omega, (hr r e).2⟩), turn (by omega) hs.2.1 hg' hr, turn (by omega) hs.2.2 hg' hr⟩) ?_ ⟨hI0, hrec, hdef⟩).mono ?_
  · rintro pre x X ⟨hi, hl, hd⟩ hlen
    refine ⟨_, _, _, _, run_yield hl (hps x), roundIn_of_wpIn hfn (hassign _ x X _ ⟨_, run_beginRound hl rfl, ?_⟩)⟩
    have hlX := (Array.getElem?_eq_some_iff.1 hl).1
    have hb := hbody (w.heap.size + 1) pre x _ (by omega) (hI.putObj (.loop { R .ready with state := .busy }) hi (by omega) hl rfl) hlen
    refine wpIn_mono hb ?_
    rintro e a3 Y hY
    cases e <;> try exact hY.elim
    obtain ⟨hk, hi3⟩ := hY
    have hlY : Y.heap[w.heap.size + 1]? = some (.loop { R .ready with state := .busy }) := by
      rw [hk.block _ (by simpa [World.putObj] using hlX) (fun h => by have := hrs _ h; omega)]; exact World.putObj_heap_same hlX
    have hdY : Y.heap[w.heap.size]? = some (.deferred (some [])) := by
      rw [hk.block _ (by simp [World.putObj]; omega) (fun h => by have := hrs _ h; omega), World.putObj_heap_other (by omega)]; exact hd
    exact ⟨_, _, run_endRound none hlY, rfl, ⟨hI.putObj _ hi3 (by omega) hlY rfl, World.putObj_heap_same (Array.getElem?_eq_some_iff.1 hlY).1, (World.putObj_heap_other (by omega)).trans hdY⟩, KeepBut.put hl hk hlY⟩
  · rintro e Y ⟨⟨v, rfl⟩, xs, hS, hi, hl, hd⟩
    exact ⟨_, _, run_endLoop hl (by simp [R]), hdone _ xs _ (Nat.le_refl _) hS (hI.putObj _ hi (by omega) hl rfl) ((World.putObj_heap_other (by omega)).trans hd)⟩
end Go.Proofs.Ytlgdnbpboonhdaa
