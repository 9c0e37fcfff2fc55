/- A loop over an iterator whose own loops may run over iterators: what a round may change is some blocks, but for their first cells. No round leaves early. The iterators logs, only: what they yield. The iterator only, over ints: what it yields; which logs can come behind a log. -/
import Derived.Test.YtclcippfodjfeaaC4
import Derived.RangeFuncNested
import Derived.RangeFuncBound
import Derived.RangeFuncCalls
import Derived.RangeFuncLeaves
import Derived.RangeFuncBox
import Derived.Shelf.Abstract
import Derived.Shelf.RegionOpen
import Derived.OwnWalkIn
import Derived.TacticsInMore
import Derived.LoopNIn
import Derived.LoopIn
import Derived.RegionIn
namespace Go.Proofs.Ytclcippfodjfeaa
open Go.RowKit Go.Shelf
set_option linter.unusedVariables false
set_option linter.unusedSimpArgs false
attribute [local go_sem] Oper.semAt_some
theorem cell_set_ne (A : World) {b o o' : Nat} (hne : (⟨b, o, none⟩ : Addr) ≠ ⟨b, o', none⟩) (v : Value) : (A.setCell ⟨b, o, none⟩ v).cell? ⟨b, o', none⟩ = A.cell? ⟨b, o', none⟩ := by
  have ho : o ≠ o' := fun e => hne (by rw [e])
  cases h : A.heap[b]? with
  | none =>
    have h2 : (A.setCell ⟨b, o, none⟩ v).heap[b]? = none := by
      show (A.heap.modify b _)[b]? = _
      rw [Array.getElem?_modify, if_pos rfl, h]; rfl
    simp only [World.cell?, h, h2]
  | some ob =>
    cases ob with
    | cells cs t fr =>
      have h1 : A.heap[b]? = some (.cells cs.toList.toArray t fr) := by rw [h]
      have h2 := set_blk h1 (o := o) v
      simp only [World.cell?, h, h2]
      simp [ho]
    | _ =>
      have h2 : ∀ ob', A.heap[b]? = some ob' → (∀ cs t fr, ob' ≠ .cells cs t fr) → (A.setCell ⟨b, o, none⟩ v).heap[b]? = some ob' := fun ob' h3 h4 => by
        show (A.heap.modify b _)[b]? = _
        rw [Array.getElem?_modify, if_pos rfl, h3]
        cases ob' <;> first | rfl | (exfalso; exact h4 _ _ _ rfl)
      have h3 := h2 _ h (fun _ _ _ e => by cases e)
      simp only [World.cell?, h, h3]
/-- All blocks but some lie as they lay; of these, the first cells. -/
structure Keep (rs : List Nat) (c : Nat) (A B : World) : Prop where
  os : B.os = A.os
  tape : B.tape = A.tape
  output : B.output = A.output
  size : A.heap.size ≤ B.heap.size
  block : ∀ k, k < A.heap.size → k ∉ rs → B.heap[k]? = A.heap[k]?
  head : ∀ b o v, b ∈ rs → o < c → A.cell? ⟨b, o, none⟩ = some v → B.cell? ⟨b, o, none⟩ = some v
theorem Keep.refl (rs : List Nat) (c : Nat) (A : World) : Keep rs c A A := ⟨rfl, rfl, rfl, Nat.le_refl _, fun _ _ _ => rfl, fun _ _ _ _ _ h => h⟩
theorem Keep.trans {rs : List Nat} {c : Nat} {A B C : World} (h : Keep rs c A B) (k : Keep rs c B C) : Keep rs c A C :=
  ⟨k.os.trans h.os, k.tape.trans h.tape, k.output.trans h.output, Nat.le_trans h.size k.size, fun i hi hn => (k.block i (Nat.lt_of_lt_of_le hi h.size) hn).trans (h.block i hi hn), fun b o v hb ho hv => k.head b o v hb ho (h.head b o v hb ho hv)⟩
theorem Keep.ext {rs : List Nat} {c : Nat} {A B : World} (h : Ext A B) : Keep rs c A B := ⟨h.os, h.tape, h.output, h.size, fun k hk _ => h.block k hk, fun b o v _ _ hv => cell_ext h hv⟩
theorem Keep.set {rs : List Nat} {c : Nat} (A : World) {b o : Nat} (hb : b ∈ rs) (ho : c ≤ o) (v : Value) : Keep rs c A (A.setCell ⟨b, o, none⟩ v) := by
  have hg := grown_set A b o v
  refine ⟨hg.os, hg.tape, hg.output, hg.size, fun k hk hn => hg.block k hk (fun e => hn (by cases e; exact hb)), fun b' o' v' hb' ho' hv => ?_⟩
  by_cases e : b' = b
  · subst e
    have hne : (⟨b', o, none⟩ : Addr) ≠ ⟨b', o', none⟩ := fun e => by cases e; omega
    exact (cell_set_ne A hne v).trans hv
  · exact far_ hv (fun h => e h.symm)
theorem Keep.cell {rs : List Nat} {c : Nat} {A B : World} (h : Keep rs c A B) {g o : Nat} {v : Value} (hg : g ∉ rs) (hc : A.cell? ⟨g, o, none⟩ = some v) : B.cell? ⟨g, o, none⟩ = some v := by
  have hb := h.block g (lt_of_cell hc) hg
  rw [← hc]
  simp only [World.cell?, hb]
theorem Keep.blk {rs : List Nat} {c : Nat} {A B : World} (h : Keep rs c A B) {g : Nat} {o : Obj} (hg : g ∉ rs) (hc : A.heap[g]? = some o) : B.heap[g]? = some o := (h.block g (lt_of_blk hc) hg).trans hc
theorem Keep.put {rs : List Nat} {c : Nat} {A B : World} {l : Nat} {o o' : Obj} (hlr : l ∉ rs) (hl : A.heap[l]? = some o) (h : Keep rs c (A.putObj l o') B) (hb : B.heap[l]? = some o') : Keep rs c A (B.putObj l o) := by
  have hlt := (Array.getElem?_eq_some_iff.1 hl).1
  have hs : (A.putObj l o').heap.size = A.heap.size := by simp [World.putObj]
  refine ⟨h.os, h.tape, h.output, ?_, fun k hk hn => ?_, fun b i v hb' ho hv => ?_⟩
  · have := h.size; rw [hs] at this; simpa [World.putObj] using this
  · by_cases e : k = l
    · subst e; rw [World.putObj_heap_same (Array.getElem?_eq_some_iff.1 hb).1, hl]
    · rw [World.putObj_heap_other e, h.block k (by rw [hs]; exact hk) hn, World.putObj_heap_other e]
  · have hne : b ≠ l := fun e => hlr (e ▸ hb')
    have h1 : (A.putObj l o').cell? ⟨b, i, none⟩ = some v := by
      rw [← hv]; simp only [World.cell?, World.putObj_heap_other hne]
    have h2 := h.head b i v hb' ho h1
    rw [← h2]; simp only [World.cell?, World.putObj_heap_other hne]
theorem ownFrom_keep {β : Type} {rs : List Nat} {c : Nat} {w₀ : World} {B : Nat} (hB : w₀.heap.size ≤ B) (hrs : ∀ r ∈ rs, r < w₀.heap.size) : OwnFrom B (fun (_ : β) W => Keep rs c w₀ W) :=
  fun _ A C row hs hg hr => ⟨hg.os.trans hs.os, hg.tape.trans hs.tape, hg.output.trans hs.output, Nat.le_trans hs.size hg.size, fun k hk hn => (hg.block k (Nat.lt_of_lt_of_le hk hs.size) (fun e => by have := (hr k e.symm).1; omega)).trans (hs.block k hk hn),
    fun b o v hb ho hv => by
      have h1 := hs.head b o v hb ho hv
      have h2 := hg.block b (lt_of_cell h1) (fun e => by have := (hr b e.symm).1; have := hrs b hb; omega)
      rw [← h1]; simp only [World.cell?, h2]⟩
/-- An iterator's word, where what the caller holds stands every block that is no cells. -/
def SeqAny {α : Type} (n gf : Nat) (lb : Array Value) (encs : α → Array Value) (Kp : World → World → Prop) (S : List α → Prop) (N : Nat) (w : World) : Prop :=
  ∀ (l : Nat) (J : List α → World → Prop) (W : World), Below w.heap.size w W → OwnFrom W.heap.size J →
    (∀ pre x X, J pre X → pre.length < N → YieldAt Fence.wide (n - 1) Try.prog l (encs x) X fun e Y => e = .returned (.bool true) ∧ J (pre ++ [x]) Y ∧ Kp X Y) →
    J [] W → CallsIn Fence.wide n Try.prog gf (#[.func (.yield l) #[] #[]] ++ lb) W fun e Y => (∃ v, e = .returned v) ∧ ∃ xs, S xs ∧ J xs Y
theorem wp_seqAny {α : Type} {n : Nat} {g : Operand} {ps : Array Tmp} {assign body : Code} {Q : Exit → Act → World → Prop} {a : Act} {w w0 : World} {gf : Nat} {lb : Array Value} {encs : α → Array Value} {rs : List Nat} {c : Nat} {S : List α → Prop} {N : Nat}
    (h1 : 1 ≤ n) (hg : a.eval g = .func (.func gf) #[] lb) (eg : ∀ args W, (callFunc gf args).run Try.prog W = .ok (.enter gf args) W) (hseq : SeqAny (n - 1) gf lb encs (Keep rs c) S N w0) (hb0 : Below w0.heap.size w0 w) (hps : ∀ x, (encs x).size = ps.size)
    (hrs : ∀ r ∈ rs, r < w.heap.size)
    (I : List α → World → Prop) (hI : OwnFrom w.heap.size I) (h0 : I [] w) (Ax : α → Act → World → Prop) (hAx : ∀ x a', OwnFrom w.heap.size (fun (_ : Unit) W => Ax x a' W))
    (hassign : ∀ (l : Nat) (pre : List α) (x : α) (W : World) (K : Act → World → Prop), w.heap.size ≤ l → I pre W → (∀ a' W', Keep rs c W W' → I pre W' → Ax x a' W' → K a' W') → assign.wpIn (Fence.wide.inRound l) (n - 1 - 1) Try.prog (Exit.then K (fun _ _ _ => False)) { tmps := (ps.zip (encs x)).foldl (fun t (p, v) => t.setIfInBounds p v) a.tmps, defers := [] } W)
    (hbody : ∀ (l : Nat) (pre : List α) (x : α) (a' : Act) (W : World), w.heap.size ≤ l → I pre W → Ax x a' W → pre.length < N →
      body.wpIn (Fence.wide.inRound l) (n - 1 - 1) Try.prog (Exit.then (fun _ Y => Keep rs c W Y ∧ I (pre ++ [x]) Y) (fun _ _ _ => False)) a' W)
    (hdone : ∀ (D : Nat) (xs : List α) (W : World), w.heap.size ≤ D → S xs → I xs W → W.heap[D]? = some (.deferred (some [])) → Q .normal { a with defers := { target := .collected D, args := #[] } :: a.defers } W) :
    (Code.rangeFunc g ps assign body).wpIn Fence.wide n Try.prog Q a w := by
  refine wpIn_rangeFunc fun fn hfn => ?_
  let R : LoopState → Loop := fun s => { state := s, pending := none, fn, tmps := a.tmps, params := ps, assign, body, defers := w.heap.size }
  have hE : Ext w ((w.alloc (.deferred (some []))).alloc (.loop (R .ready))) := ((Ext.refl w).alloc _).alloc _
  have hrec : ((w.alloc (.deferred (some []))).alloc (.loop (R .ready))).heap[w.heap.size + 1]? = some (.loop (R .ready)) := by
    have := heap_alloc_new (w.alloc (.deferred (some []))) (.loop (R .ready)); rwa [World.size_alloc] at this
  have hdef : ((w.alloc (.deferred (some []))).alloc (.loop (R .ready))).heap[w.heap.size]? = some (.deferred (some [])) :=
    (Below.heap_alloc _ _ _ (by simp)).trans (heap_alloc_new w _)
  have hI0 : I [] ((w.alloc (.deferred (some []))).alloc (.loop (R .ready))) := hI.alloc _ (hI.alloc _ h0)
  have hsz : ((w.alloc (.deferred (some []))).alloc (.loop (R .ready))).heap.size = w.heap.size + 2 := by simp
  have hrun : (Instr.enterLoop fn a.tmps ps assign body Fence.wide.round).run Try.prog w = .ok (w.heap.size + 1, [{ target := .collected w.heap.size, args := #[] }]) ((w.alloc (.deferred (some []))).alloc (.loop (R .ready))) := run_enterLoop_outer _ _ _ _ _
  generalize (w.alloc (.deferred (some []))).alloc (.loop (R .ready)) = W1 at hE hrec hdef hI0 hsz hrun
  refine ⟨w.heap.size + 1, _, W1, { target := .fn (.func gf) lb, args := #[.func (.yield (w.heap.size + 1)) #[] #[]] }, W1, gf, #[.func (.yield (w.heap.size + 1)) #[] #[]] ++ lb, W1, hrun, ?_, ?_, ?_, fun _ => h1, ?_⟩
  · simp only [resolve, hg]; simp [go_sem]
  · exact fun f' hf' => trivial
  · simp [invoke, go_sem, eg]
  have turn : ∀ {X Y : World} {row : Option Nat} {k : Nat} {o : Obj}, k < W1.heap.size → X.heap[k]? = some o → X.grownBy Y row → (∀ r, row = some r → W1.heap.size ≤ r ∧ ∃ o : Obj, X.heap[r]? = some o ∧ o.isCells = false) → Y.heap[k]? = some o :=
    fun hk hX hg' hr => (hg'.block _ (Array.getElem?_eq_some_iff.1 hX).1 (fun e => by have := (hr _ e.symm).1; omega)).trans hX
  have hl1 : w.heap.size + 1 ∉ rs := fun h => by have := hrs _ h; omega
  have hl0 : w.heap.size ∉ rs := fun h => by have := hrs _ h; omega
  refine (hseq (w.heap.size + 1) (fun pre X => I pre X ∧ X.heap[w.heap.size + 1]? = some (.loop (R .ready)) ∧ X.heap[w.heap.size]? = some (.deferred (some []))) W1 (hb0.trans (hE.mono hb0.size))
    (fun s X Y row hs hg' hr => ⟨hI s X Y row hs.1 hg' (fun r e => ⟨by have := (hr r e).1; omega, (hr r e).2⟩), turn (by omega) hs.2.1 hg' hr, turn (by omega) hs.2.2 hg' hr⟩) ?_ ⟨hI0, hrec, hdef⟩).mono ?_
  · rintro pre x X ⟨hi, hl, hd⟩ hlen
    refine ⟨_, _, _, _, run_yield hl (hps x), roundIn_of_wpIn hfn (hassign (w.heap.size + 1) pre x X _ (by omega) hi ?_)⟩
    intro a2 X2 hk2 hi2 hax2
    have hl2 := hk2.blk hl1 hl
    have hd2 := hk2.blk hl0 hd
    refine ⟨_, run_beginRound hl2 rfl, ?_⟩
    have hlX := (Array.getElem?_eq_some_iff.1 hl2).1
    have hb := hbody (w.heap.size + 1) pre x a2 _ (by omega) (hI.putObj (.loop { R .ready with state := .busy }) hi2 (by omega) hl2 rfl) ((hAx x a2).putObj (s := ()) _ hax2 (by omega) hl2 rfl) hlen
    refine wpIn_mono hb ?_
    rintro e a3 Y hY
    cases e <;> try exact hY.elim
    obtain ⟨hk, hi3⟩ := hY
    have hlY : Y.heap[w.heap.size + 1]? = some (.loop { R .ready with state := .busy }) := by
      rw [hk.block _ (by simpa [World.putObj] using hlX) hl1]; exact World.putObj_heap_same hlX
    have hdY : Y.heap[w.heap.size]? = some (.deferred (some [])) := by
      rw [hk.block _ (by simp [World.putObj]; omega) hl0, World.putObj_heap_other (by omega)]; exact hd2
    exact ⟨_, _, run_endRound none hlY, rfl, ⟨hI.putObj _ hi3 (by omega) hlY rfl, World.putObj_heap_same (Array.getElem?_eq_some_iff.1 hlY).1, (World.putObj_heap_other (by omega)).trans hdY⟩, hk2.trans (Keep.put hl1 hl2 hk hlY)⟩
  · rintro e Y ⟨⟨v, rfl⟩, xs, hS, hi, hl, hd⟩
    exact ⟨_, _, run_endLoop hl (by simp [R]), hdone _ xs _ (Nat.le_refl _) hS (hI.putObj _ hi (by omega) hl rfl) ((World.putObj_heap_other (by omega)).trans hd)⟩
theorem wp_seqAny1 {α : Type} {n : Nat} {g : Operand} {ps : Array Tmp} {assign body : Code} {Q : Exit → Act → World → Prop} {a : Act} {w w0 : World} {gf : Nat} {lb : Array Value} {encs : α → Array Value} {rs : List Nat} {c : Nat} {S : List α → Prop} {N : Nat}
    (h1 : 1 ≤ n) (hg : a.eval g = .func (.func gf) #[] lb) (eg : ∀ args W, (callFunc gf args).run Try.prog W = .ok (.enter gf args) W) (hseq : SeqAny (n - 1) gf lb encs (Keep rs c) S N w0) (hb0 : Below w0.heap.size w0 w) (hps : ∀ x, (encs x).size = ps.size)
    (hrs : ∀ r ∈ rs, r < w.heap.size)
    (I : List α → World → Prop) (hI : OwnFrom w.heap.size I) (h0 : I [] w) (af : α → Act)
    (hassign : ∀ (l : Nat) (x : α) (W : World) (K : Act → World → Prop), K (af x) W → assign.wpIn (Fence.wide.inRound l) (n - 1 - 1) Try.prog (Exit.then K (fun _ _ _ => False)) { tmps := (ps.zip (encs x)).foldl (fun t (p, v) => t.setIfInBounds p v) a.tmps, defers := [] } W)
    (hbody : ∀ (l : Nat) (pre : List α) (x : α) (W : World), w.heap.size ≤ l → I pre W → pre.length < N →
      body.wpIn (Fence.wide.inRound l) (n - 1 - 1) Try.prog (Exit.then (fun _ Y => Keep rs c W Y ∧ I (pre ++ [x]) Y) (fun _ _ _ => False)) (af x) W)
    (hdone : ∀ (D : Nat) (xs : List α) (W : World), w.heap.size ≤ D → S xs → I xs W → W.heap[D]? = some (.deferred (some [])) → Q .normal { a with defers := { target := .collected D, args := #[] } :: a.defers } W) :
    (Code.rangeFunc g ps assign body).wpIn Fence.wide n Try.prog Q a w :=
  wp_seqAny h1 hg eg hseq hb0 hps hrs I hI h0 (fun x a' _ => a' = af x) (fun _ _ _ _ _ _ hs _ _ => hs) (fun l pre x W K _ hI hK => hassign l x W K (hK _ _ (Keep.refl _ _ _) hI rfl)) (fun l pre x a' W hl hI hA hlen => by subst hA; exact hbody l pre x W hl hI hlen) hdone
theorem cells_turn {A B : World} {g : Nat} {cs : Array Value} {t : TypeId} {fr : Nat × Nat} (h : A.heap[g]? = some (.cells cs t fr)) {base : Nat} {row : Option Nat} (hg : A.grownBy B row) (hr : ∀ r, row = some r → base ≤ r ∧ ∃ o : Obj, A.heap[r]? = some o ∧ o.isCells = false) : B.heap[g]? = some (.cells cs t fr) :=
  (hg.block g (Array.getElem?_eq_some_iff.1 h).1 (fun e => by
    obtain ⟨_, o, ho, hc⟩ := hr g e.symm
    rw [h] at ho; cases ho; cases hc)).trans h
/-- The loop's variable is boxed each round. -/
theorem wp_seqAnyB {α : Type} {n : Nat} {g : Operand} {ps : Array Tmp} {assign body : Code} {Q : Exit → Act → World → Prop} {a : Act} {w w0 : World} {gf : Nat} {lb : Array Value} {encs : α → Array Value} {rs : List Nat} {c : Nat} {S : List α → Prop} {N : Nat}
    (h1 : 1 ≤ n) (hg : a.eval g = .func (.func gf) #[] lb) (eg : ∀ args W, (callFunc gf args).run Try.prog W = .ok (.enter gf args) W) (hseq : SeqAny (n - 1) gf lb encs (Keep rs c) S N w0) (hb0 : Below w0.heap.size w0 w) (hps : ∀ x, (encs x).size = ps.size)
    (hrs : ∀ r ∈ rs, r < w.heap.size)
    (I : List α → World → Prop) (hI : OwnFrom w.heap.size I) (h0 : I [] w) (hIE : ∀ pre W W', I pre W → Ext W W' → I pre W') (tb : TypeId) (bx : α → Array Value) (af : Nat → α → Act)
    (hassign : ∀ (l : Nat) (x : α) (W : World) (B : Nat) (K : Act → World → Prop), B = W.heap.size → K (af B x) (W.alloc (.cells (bx x) tb)) → assign.wpIn (Fence.wide.inRound l) (n - 1 - 1) Try.prog (Exit.then K (fun _ _ _ => False)) { tmps := (ps.zip (encs x)).foldl (fun t (p, v) => t.setIfInBounds p v) a.tmps, defers := [] } W)
    (hbody : ∀ (l : Nat) (pre : List α) (x : α) (Bx : Nat) (W : World), w.heap.size ≤ l → I pre W → w.heap.size ≤ Bx → W.heap[Bx]? = some (.cells (bx x) tb (0, 0)) → pre.length < N →
      body.wpIn (Fence.wide.inRound l) (n - 1 - 1) Try.prog (Exit.then (fun _ Y => Keep rs c W Y ∧ I (pre ++ [x]) Y) (fun _ _ _ => False)) (af Bx x) W)
    (hdone : ∀ (D : Nat) (xs : List α) (W : World), w.heap.size ≤ D → S xs → I xs W → W.heap[D]? = some (.deferred (some [])) → Q .normal { a with defers := { target := .collected D, args := #[] } :: a.defers } W) :
    (Code.rangeFunc g ps assign body).wpIn Fence.wide n Try.prog Q a w :=
  wp_seqAny h1 hg eg hseq hb0 hps hrs (fun pre W => I pre W ∧ w.heap.size ≤ W.heap.size) (fun s A B row hs hg hr => ⟨hI s A B row hs.1 hg hr, Nat.le_trans hs.2 hg.size⟩) ⟨h0, Nat.le_refl _⟩ (fun x a' W => ∃ Bx, w.heap.size ≤ Bx ∧ W.heap[Bx]? = some (.cells (bx x) tb (0, 0)) ∧ a' = af Bx x)
    (fun x a' s A B row hs hg hr => let ⟨Bx, h1, h2, h3⟩ := hs; ⟨Bx, h1, cells_turn h2 hg hr, h3⟩)
    (fun l pre x W K _ hI hK => hassign l x W W.heap.size K rfl (hK (af W.heap.size x) (W.alloc (.cells (bx x) tb)) (Keep.ext ((Ext.refl W).alloc _)) ⟨hIE _ _ _ hI.1 ((Ext.refl W).alloc _), by have := hI.2; simp; omega⟩ ⟨W.heap.size, hI.2, heap_alloc_new _ _, rfl⟩))
    (fun l pre x a' W hl hI hA hlen => by
      obtain ⟨Bx, h1, h2, rfl⟩ := hA
      refine wpIn_mono (hbody l pre x Bx W hl hI.1 h1 h2 hlen) ?_
      intro e a3 Y hY
      cases e <;> try exact hY
      exact ⟨hY.1, hY.2, Nat.le_trans hI.2 hY.1.size⟩)
    (fun D xs W hD hS hI hW => hdone D xs W hD hS hI.1 hW)
end Go.Proofs.Ytclcippfodjfeaa
namespace Go.Proofs.Ytclcippfodjfeaa
open Go.RowKit Go.Shelf
set_option linter.unusedVariables false
set_option linter.unusedSimpArgs false
attribute [local go_sem] Oper.semAt_some
abbrev Sub (q : Nat → Prop) := { k : Nat // q k }
def encF (q : Nat → Prop) (x : Sub q) : Array Value := #[.int .i64 (x.val : Int)]
def vF {q : Nat → Prop} (ys : List (Sub q)) : List Nat := ys.map Subtype.val
theorem vF_snoc {q : Nat → Prop} (ys : List (Sub q)) (x : Sub q) : vF (ys ++ [x]) = vF ys ++ [x.val] := by simp [vF]
theorem vF_len {q : Nat → Prop} (ys : List (Sub q)) : (vF ys).length = ys.length := by simp [vF]
theorem logs82 (v : Value) (w : World) : Calls Try.prog 82 #[.agg #[v]] w fun e w' =>
    e = .returned (.func (.func 95) #[] #[.pointer (some ⟨w.heap.size, 0, none⟩)]) ∧ w' = w.alloc (.cells #[v] 57) := by
  go_enter Try.func82, Try.ntmps82
  go_wp2
  go_ret
  exact ⟨rfl, rfl⟩
theorem only81 (va vm : Value) (w : World) (g1 : Nat) (c1 : Array Value) (e1 : va = .func (.func g1) #[] c1) (g2 : Nat) (r2 c2 : Array Value) (e2 : vm = .func (.func g2) r2 c2) : Calls Try.prog 81 #[va, vm] w fun e w' =>
    e = .returned (.func (.func 94) #[] #[.pointer (some ⟨w.heap.size, 0, none⟩), .pointer (some ⟨w.heap.size + 1, 0, none⟩)]) ∧ w' = (w.alloc (.cells #[va] 93)).alloc (.cells #[vm] 96) := by
  subst e1; subst e2
  go_enter Try.func81, Try.ntmps81
  go_wp2
  go_ret
  exact ⟨rfl, rfl⟩
set_option maxRecDepth 100000 in
set_option maxHeartbeats 4000000 in
/-- The iterator logs: all logs. -/
theorem logs95 (f Bl N n cap : Nat) (a : Option Addr) (rs : List Nat) (c : Nat) (w : World) (hf : 1 ≤ f) (hn : n ≤ N) (hn5 : n ≤ 5000) (hb : Boxed w Bl 57 (.slice a n cap)) :
    SeqAny f 95 #[.pointer (some ⟨Bl, 0, none⟩)] (encF (· < n)) (Keep rs c) (fun ys => vF ys = List.range n) N w := by
  intro l J W hW hJ hY h0
  have c1 := Boxed.cell (block_ext hW hb)
  have HY := Lib.hid hY; have HJ := Lib.hid hJ; have H0 := Lib.hid h0
  have hl3 : n ≤ 9223372036854775807 := by omega
  clear hY hJ h0 hb
  refine callsIn_of_wp Try.func95 rfl trivial ?_ rfl
  simp only [Try.ntmps95, List.size_toArray, List.length_cons, List.length_nil, Nat.reduceAdd, Nat.reduceSub, Array.replicate_succ, Array.replicate_zero, List.push_toArray, List.append_toArray, List.nil_append, List.cons_append]
  gi_wp2
  gi_loopw [7] (fun s wr => ∃ (pre : List (Sub (· < n))) (k : Nat), k ≤ n ∧ s = .int .i64 (k : Int) ∧ Hid (vF pre = List.range k) ∧ Hid (J pre wr))
    (fun s wr => n - (intOf s).toNat)
  case atStart => exact ⟨[], 0, Nat.zero_le _, by go_num, (by rfl : _ = _), H0.out⟩
  case round =>
    obtain ⟨pre, k, hk, rfl, hpv, hJw⟩ := hrel
    by_cases hlt : k < n
    · have hpl : pre.length < N := by
        have h1 := vF_len pre
        rw [hpv.out, List.length_range] at h1; omega
      obtain ⟨fn, tmps, assign, body, hy1, hR1⟩ := HY.out pre ⟨k, hlt⟩ wr hJw.out hpl
      have HR1 := Lib.hid hR1; clear hR1
      dsimp only [encF] at hy1
      have hka : (0 : Int) ≤ (k : Int) := by omega
      have hkb : (k : Int) < (n : Int) := by omega
      gi_wp2
      refine HR1.out.mono ?_
      rintro e W2 ⟨rfl, hJ2, hk2⟩
      have HJ2 := Lib.hid hJ2
      clear hJ2 hk2 HR1
      gi_wp2
      go_roundw
      case rel => exact ⟨pre ++ [(⟨k, hlt⟩ : Sub (· < n))], k + 1, by omega, by go_num, (by rw [vF_snoc, hpv.out, List.range_succ] : _ = _), HJ2.out⟩
      case measure => simp [intOf]; omega
    · obtain rfl : k = n := by omega
      gi_wp2
      go_end0
      exact ⟨⟨_, rfl⟩, pre, hpv.out, hJw.out⟩
end Go.Proofs.Ytclcippfodjfeaa
namespace Go.Proofs.Ytclcippfodjfeaa
open Go.RowKit Go.Shelf
set_option linter.unusedVariables false
set_option linter.unusedSimpArgs false
attribute [local go_sem] Oper.semAt_some
theorem KeepOf {rs : List Nat} {c : Nat} {A B : World} (h : Ext A B) : Keep rs c A B := Keep.ext h
theorem abides {α : Type} {B : Nat} {J : List α → World → Prop} (hJ : OwnFrom B J) {pre : List α} {A C : World} (h : J pre A) (hE : Ext A C) : J pre C := hJ pre A C none h ⟨hE.os, hE.tape, hE.output, hE.size, fun i hi _ => hE.block i hi⟩ (fun r e => by cases e)
theorem RoundIn.any {m m' l l0 : Nat} {P : Program} {f : FuncId} {tmps : Array Value} {assign body : Code} {w : World} {R : Ending → World → Prop} (h : RoundIn Fence.wide m P l f tmps assign body w R) : RoundIn (Fence.wide.inRound l0) m' P l f tmps assign body w R :=
  ⟨h.1, fun c cs hr => h.2 c cs (by simp [Fence.room, Fence.wide])⟩
def filtF {q : Nat → Prop} (p : Nat → Bool) (ys : List (Sub q)) : List (Sub fun k => q k ∧ p k = true) := ys.filterMap fun x => if h : p x.val = true then some ⟨x.val, x.2, h⟩ else none
theorem filtF_yes {q : Nat → Prop} (p : Nat → Bool) (ys : List (Sub q)) (x : Sub q) (h : p x.val = true) : filtF p (ys ++ [x]) = filtF p ys ++ [⟨x.val, x.2, h⟩] := by
  unfold filtF; rw [List.filterMap_append]; simp [h]
theorem filtF_no {q : Nat → Prop} (p : Nat → Bool) (ys : List (Sub q)) (x : Sub q) (h : p x.val = false) : filtF p (ys ++ [x]) = filtF p ys := by
  unfold filtF; rw [List.filterMap_append]; simp [h]
theorem filtF_vals {q : Nat → Prop} (p : Nat → Bool) (ys : List (Sub q)) : vF (filtF p ys) = (vF ys).filter p := by
  induction ys with
  | nil => rfl
  | cons y ys ih =>
    unfold filtF vF at ih ⊢
    rw [List.filterMap_cons, List.map_cons, List.filter_cons]
    by_cases h : p y.val = true
    · simp [h]; simpa using ih
    · simp [h]; simpa using ih
theorem filtF_len {q : Nat → Prop} (p : Nat → Bool) (ys : List (Sub q)) : (filtF p ys).length ≤ ys.length := List.length_filterMap_le _ _
set_option maxRecDepth 100000 in
set_option maxHeartbeats 4000000 in
/-- The iterator only: those that are meant. -/
theorem only94 (f Ba Bm N ga mf c : Nat) (q : Nat → Prop) (ca : Array Value) (p1 p2 : Addr) (rs : List Nat) (p : Nat → Bool) (L : List Nat) (w : World) (hf : 2 ≤ f) (hba : Boxed w Ba 93 (.func (.func ga) #[] ca)) (hbm : Boxed w Bm 96 (.func (.func mf) #[] #[.pointer (some p1), .pointer (some p2)]))
    (ega : ∀ args W, (callFunc ga args).run Try.prog W = .ok (.enter ga args) W) (egm : ∀ args W, (callFunc mf args).run Try.prog W = .ok (.enter mf args) W)
    (hrs : ∀ r ∈ rs, r < w.heap.size) (hna : Ba ∉ rs) (hnm : Bm ∉ rs)
    (hseq : SeqAny (f - 1) ga ca (encF q) (Keep rs c) (fun ys => vF ys = L) N w)
    (hm : ∀ (X : World) (x : Sub q), Keep rs c w X → Calls Try.prog mf #[.int .i64 (x.val : Int), .pointer (some p1), .pointer (some p2)] X fun e w' => e = .returned (.bool (p x.val)) ∧ Ext X w') :
    SeqAny f 94 #[.pointer (some ⟨Ba, 0, none⟩), .pointer (some ⟨Bm, 0, none⟩)] (encF fun k => q k ∧ p k = true) (Keep rs c) (fun ys => vF ys = L.filter p) N w := by
  intro l J W hW hJ hY h0
  have HY := Lib.hid hY; have HJ := Lib.hid hJ; have H0 := Lib.hid h0; have HRS := Lib.hid hrs; have HM := Lib.hid hm; have HSEQ := Lib.hid hseq; have HBM := Lib.hid hbm; have HNM := Lib.hid hnm
  have c1 := Boxed.cell (block_ext hW hba)
  have l1 := hba.lt; have l2 := hbm.lt; have l3 := hW.size
  clear hY hJ h0 hba hbm hrs hm hseq hna hnm
  refine callsIn_of_wp_marks Try.func94 rfl trivial ?_ rfl
  simp only [Try.ntmps94, List.size_toArray, List.length_cons, List.length_nil, Nat.reduceAdd, Nat.reduceSub, Array.replicate_succ, Array.replicate_zero, List.push_toArray, List.append_toArray, List.nil_append, List.cons_append]
  have hE1 : Ext W (W.alloc (.cells #[.func (.yield l) #[] #[]] 96)) := (Ext.refl W).alloc _
  have hy1 : Boxed (W.alloc (.cells #[.func (.yield l) #[] #[]] 96)) W.heap.size 96 (.func (.yield l) #[] #[]) := Boxed.new W 96 _
  have hz1 : (W.alloc (.cells #[.func (.yield l) #[] #[]] 96)).heap.size = W.heap.size + 1 := by simp
  have c1 := cell_ext hE1 c1
  gi_wp2
  generalize hW1 : W.alloc (.cells #[.func (.yield l) #[] #[]] 96) = W1 at *
  clear hW1
  refine wp_seqAny (by omega) (gf := ga) (lb := ca) (encs := encF q) (ps := #[6]) (rs := rs) (c := c) rfl ega HSEQ.out (Below.trans hW (hE1.mono hW.size)) (fun _ => rfl) (fun r hr => by have := HRS.out r hr; omega)
    (fun pre X => J (filtF p pre) X ∧ Keep rs c W1 X) ?hI ⟨abides HJ.out H0.out hE1, Keep.refl _ _ _⟩
    (fun x a' X => a' = { tmps := #[.func (.yield l) #[] #[], .pointer (some ⟨Ba, 0, none⟩), .pointer (some ⟨Bm, 0, none⟩), .pointer (some ⟨W.heap.size, 0, none⟩), .int .i64 (x.val : Int), .func (.func ga) #[] ca, .int .i64 (x.val : Int), undef, undef, undef, undef, undef, undef, undef, undef, undef], defers := [] })
    (fun x a' s A B row hs hg hr => hs) ?assign ?body ?done
  case hI => exact OwnFrom.and (fun s A B row hs hg hr => HJ.out _ A B row hs hg (fun r e => ⟨by have := (hr r e).1; omega, (hr r e).2⟩)) (ownFrom_keep (Nat.le_refl _) (fun r hr => by have := HRS.out r hr; omega))
  case assign =>
    rintro l' pre x X K hl' hI hK
    dsimp only [encF]
    gi_wp2
    exact hK _ _ (Keep.refl _ _ _) hI rfl
  case body =>
    rintro l' pre x A X hl' ⟨hJX, hKX⟩ rfl hlt2
    have nb : W.heap.size ∉ rs := fun h => by have := HRS.out _ h; omega
    have cm := hKX.cell HNM.out (cell_ext hE1 (Boxed.cell (block_ext hW HBM.out)))
    have cy := hKX.cell nb hy1.cell
    have hk0 : Keep rs c w X := (Keep.ext (hW.trans (hE1.mono hW.size))).trans hKX
    have hM := HM.out X x hk0
    have HKX := Lib.hid hKX; have HJX := Lib.hid hJX
    have hlen : (filtF p pre).length < N := Nat.lt_of_le_of_lt (filtF_len p pre) hlt2
    obtain ⟨pv, hpv⟩ : ∃ pv, pv = p x.val := ⟨_, rfl⟩
    rw [← hpv] at hM
    have HMM := Lib.hid hM; have HPV := Lib.hid hpv
    have HY1 := Lib.hid hy1
    have CY := Lib.hid (fun (Y : World) (h : Ext X Y) => cell_ext h cy)
    clear hKX hJX hk0 hM hpv hy1 c1
    try dsimp only
    cases pv
    · gi_wp2_with fail
      refine ⟨trivial, fun h => (by cases h), ?_⟩
      refine (CallsIn.inRound l' (callsIn_wide.2 HMM.out)).mono ?_
      rintro e w' ⟨rfl, hb⟩
      have HB := Lib.hid hb; clear hb
      gi_wp2
      refine ⟨fun f' h => (by cases h), ?_⟩
      gi_wp2
      refine ⟨Keep.ext HB.out, ?_, HKX.out.trans (Keep.ext HB.out)⟩
      rw [filtF_no p pre x (by rw [← HPV.out])]
      exact HJ.out _ _ _ none HJX.out ⟨HB.out.os, HB.out.tape, HB.out.output, HB.out.size, fun i hi _ => HB.out.block i hi⟩ (fun r e => by cases e)
    · gi_wp2_with fail
      refine ⟨trivial, fun h => (by cases h), ?_⟩
      refine (CallsIn.inRound l' (callsIn_wide.2 HMM.out)).mono ?_
      rintro e w' ⟨rfl, hb⟩
      have cy' := CY.out w' hb
      have hJ' : J (filtF p pre) w' := HJ.out _ _ _ none HJX.out ⟨hb.os, hb.tape, hb.output, hb.size, fun i hi _ => hb.block i hi⟩ (fun r e => by cases e)
      obtain ⟨fn, tmps, assign, body, hyy, hR⟩ := HY.out (filtF p pre) ⟨x.val, x.2, HPV.out.symm⟩ w' hJ' hlen
      have HR := Lib.hid (RoundIn.any (m' := f - 1 - 1 - 1) (l0 := l') hR)
      have HB := Lib.hid hb
      clear hb hR hJ'
      dsimp only [encF] at hyy
      gi_wp2_with fail
      refine ⟨fun h => (by cases h), ?_⟩
      refine HR.out.mono ?_
      rintro e W5 ⟨rfl, hJ5, hK5⟩
      have HJ5 := Lib.hid hJ5; have HK5 := Lib.hid ((Keep.ext HB.out).trans hK5)
      clear hJ5 hK5 HR
      gi_wp2
      refine ⟨HK5.out, ?_, HKX.out.trans HK5.out⟩
      rw [filtF_yes p pre x HPV.out.symm]
      exact HJ5.out
  case done =>
    rintro D ys X hD hS ⟨hJX, hKX⟩ hDW
    have hJ2 : J (filtF p ys) (X.putObj D (.deferred none)) := HJ.out.putObj _ hJX (by omega) hDW rfl
    have hS2 : vF (filtF p ys) = L.filter p := by rw [filtF_vals, hS]
    have HJ2 := Lib.hid hJ2; have HS2 := Lib.hid hS2; have HDW := Lib.hid hDW
    clear hJ2 hS2 hDW hJX hKX hS
    gi_wp2
    refine ⟨by simp, .inl ⟨_, _, rfl, run_takeDeferred HDW.out, ?_⟩⟩
    exact ⟨_, results_none rfl _ _ _, ⟨_, rfl⟩, _, HS2.out, HJ2.out⟩
set_option maxRecDepth 100000 in
set_option maxHeartbeats 4000000 in
/-- The iterator only: those that are meant. -/
theorem only94m (f Ba Bm N ga mf c : Nat) (q : Nat → Prop) (ca : Array Value) (p1 : Addr) (rs : List Nat) (p : Nat → Bool) (L : List Nat) (w : World) (hf : 2 ≤ f) (hba : Boxed w Ba 93 (.func (.func ga) #[] ca)) (hbm : Boxed w Bm 96 (.func (.func mf) #[.pointer (some p1)] #[]))
    (ega : ∀ args W, (callFunc ga args).run Try.prog W = .ok (.enter ga args) W) (egm : ∀ args W, (callFunc mf args).run Try.prog W = .ok (.enter mf args) W)
    (hrs : ∀ r ∈ rs, r < w.heap.size) (hna : Ba ∉ rs) (hnm : Bm ∉ rs)
    (hseq : SeqAny (f - 1) ga ca (encF q) (Keep rs c) (fun ys => vF ys = L) N w)
    (hm : ∀ (X : World) (x : Sub q), Keep rs c w X → Calls Try.prog mf #[.pointer (some p1), .int .i64 (x.val : Int)] X fun e w' => e = .returned (.bool (p x.val)) ∧ Ext X w') :
    SeqAny f 94 #[.pointer (some ⟨Ba, 0, none⟩), .pointer (some ⟨Bm, 0, none⟩)] (encF fun k => q k ∧ p k = true) (Keep rs c) (fun ys => vF ys = L.filter p) N w := by
  intro l J W hW hJ hY h0
  have HY := Lib.hid hY; have HJ := Lib.hid hJ; have H0 := Lib.hid h0; have HRS := Lib.hid hrs; have HM := Lib.hid hm; have HSEQ := Lib.hid hseq; have HBM := Lib.hid hbm; have HNM := Lib.hid hnm
  have c1 := Boxed.cell (block_ext hW hba)
  have l1 := hba.lt; have l2 := hbm.lt; have l3 := hW.size
  clear hY hJ h0 hba hbm hrs hm hseq hna hnm
  refine callsIn_of_wp_marks Try.func94 rfl trivial ?_ rfl
  simp only [Try.ntmps94, List.size_toArray, List.length_cons, List.length_nil, Nat.reduceAdd, Nat.reduceSub, Array.replicate_succ, Array.replicate_zero, List.push_toArray, List.append_toArray, List.nil_append, List.cons_append]
  have hE1 : Ext W (W.alloc (.cells #[.func (.yield l) #[] #[]] 96)) := (Ext.refl W).alloc _
  have hy1 : Boxed (W.alloc (.cells #[.func (.yield l) #[] #[]] 96)) W.heap.size 96 (.func (.yield l) #[] #[]) := Boxed.new W 96 _
  have hz1 : (W.alloc (.cells #[.func (.yield l) #[] #[]] 96)).heap.size = W.heap.size + 1 := by simp
  have c1 := cell_ext hE1 c1
  gi_wp2
  generalize hW1 : W.alloc (.cells #[.func (.yield l) #[] #[]] 96) = W1 at *
  clear hW1
  refine wp_seqAny (by omega) (gf := ga) (lb := ca) (encs := encF q) (ps := #[6]) (rs := rs) (c := c) rfl ega HSEQ.out (Below.trans hW (hE1.mono hW.size)) (fun _ => rfl) (fun r hr => by have := HRS.out r hr; omega)
    (fun pre X => J (filtF p pre) X ∧ Keep rs c W1 X) ?hI ⟨abides HJ.out H0.out hE1, Keep.refl _ _ _⟩
    (fun x a' X => a' = { tmps := #[.func (.yield l) #[] #[], .pointer (some ⟨Ba, 0, none⟩), .pointer (some ⟨Bm, 0, none⟩), .pointer (some ⟨W.heap.size, 0, none⟩), .int .i64 (x.val : Int), .func (.func ga) #[] ca, .int .i64 (x.val : Int), undef, undef, undef, undef, undef, undef, undef, undef, undef], defers := [] })
    (fun x a' s A B row hs hg hr => hs) ?assign ?body ?done
  case hI => exact OwnFrom.and (fun s A B row hs hg hr => HJ.out _ A B row hs hg (fun r e => ⟨by have := (hr r e).1; omega, (hr r e).2⟩)) (ownFrom_keep (Nat.le_refl _) (fun r hr => by have := HRS.out r hr; omega))
  case assign =>
    rintro l' pre x X K hl' hI hK
    dsimp only [encF]
    gi_wp2
    exact hK _ _ (Keep.refl _ _ _) hI rfl
  case body =>
    rintro l' pre x A X hl' ⟨hJX, hKX⟩ rfl hlt2
    have nb : W.heap.size ∉ rs := fun h => by have := HRS.out _ h; omega
    have cm := hKX.cell HNM.out (cell_ext hE1 (Boxed.cell (block_ext hW HBM.out)))
    have cy := hKX.cell nb hy1.cell
    have hk0 : Keep rs c w X := (Keep.ext (hW.trans (hE1.mono hW.size))).trans hKX
    have hM := HM.out X x hk0
    have HKX := Lib.hid hKX; have HJX := Lib.hid hJX
    have hlen : (filtF p pre).length < N := Nat.lt_of_le_of_lt (filtF_len p pre) hlt2
    obtain ⟨pv, hpv⟩ : ∃ pv, pv = p x.val := ⟨_, rfl⟩
    rw [← hpv] at hM
    have HMM := Lib.hid hM; have HPV := Lib.hid hpv
    have HY1 := Lib.hid hy1
    have CY := Lib.hid (fun (Y : World) (h : Ext X Y) => cell_ext h cy)
    clear hKX hJX hk0 hM hpv hy1 c1
    try dsimp only
    cases pv
    · gi_wp2_with fail
      refine ⟨trivial, fun h => (by cases h), ?_⟩
      refine (CallsIn.inRound l' (callsIn_wide.2 HMM.out)).mono ?_
      rintro e w' ⟨rfl, hb⟩
      have HB := Lib.hid hb; clear hb
      gi_wp2
      refine ⟨fun f' h => (by cases h), ?_⟩
      gi_wp2
      refine ⟨Keep.ext HB.out, ?_, HKX.out.trans (Keep.ext HB.out)⟩
      rw [filtF_no p pre x (by rw [← HPV.out])]
      exact HJ.out _ _ _ none HJX.out ⟨HB.out.os, HB.out.tape, HB.out.output, HB.out.size, fun i hi _ => HB.out.block i hi⟩ (fun r e => by cases e)
    · gi_wp2_with fail
      refine ⟨trivial, fun h => (by cases h), ?_⟩
      refine (CallsIn.inRound l' (callsIn_wide.2 HMM.out)).mono ?_
      rintro e w' ⟨rfl, hb⟩
      have cy' := CY.out w' hb
      have hJ' : J (filtF p pre) w' := HJ.out _ _ _ none HJX.out ⟨hb.os, hb.tape, hb.output, hb.size, fun i hi _ => hb.block i hi⟩ (fun r e => by cases e)
      obtain ⟨fn, tmps, assign, body, hyy, hR⟩ := HY.out (filtF p pre) ⟨x.val, x.2, HPV.out.symm⟩ w' hJ' hlen
      have HR := Lib.hid (RoundIn.any (m' := f - 1 - 1 - 1) (l0 := l') hR)
      have HB := Lib.hid hb
      clear hb hR hJ'
      dsimp only [encF] at hyy
      gi_wp2_with fail
      refine ⟨fun h => (by cases h), ?_⟩
      refine HR.out.mono ?_
      rintro e W5 ⟨rfl, hJ5, hK5⟩
      have HJ5 := Lib.hid hJ5; have HK5 := Lib.hid ((Keep.ext HB.out).trans hK5)
      clear hJ5 hK5 HR
      gi_wp2
      refine ⟨HK5.out, ?_, HKX.out.trans HK5.out⟩
      rw [filtF_yes p pre x HPV.out.symm]
      exact HJ5.out
  case done =>
    rintro D ys X hD hS ⟨hJX, hKX⟩ hDW
    have hJ2 : J (filtF p ys) (X.putObj D (.deferred none)) := HJ.out.putObj _ hJX (by omega) hDW rfl
    have hS2 : vF (filtF p ys) = L.filter p := by rw [filtF_vals, hS]
    have HJ2 := Lib.hid hJ2; have HS2 := Lib.hid hS2; have HDW := Lib.hid hDW
    clear hJ2 hS2 hDW hJX hKX hS
    gi_wp2
    refine ⟨by simp, .inl ⟨_, _, rfl, run_takeDeferred HDW.out, ?_⟩⟩
    exact ⟨_, results_none rfl _ _ _, ⟨_, rfl⟩, _, HS2.out, HJ2.out⟩
set_option maxHeartbeats 1000000 in
theorem behind92 (Bg Bl : Nat) (v : Value) (row : List Int) (i j : Nat) (w : World) (hr : Reads w v row) (hi : i < row.length) (hj : j < row.length) (hg : w.cell? ⟨Bg, 0, none⟩ = some (.int .i64 (i : Int))) (hl : w.cell? ⟨Bl, 0, none⟩ = some v) :
    Calls Try.prog 92 #[.int .i64 (j : Int), .pointer (some ⟨Bg, 0, none⟩), .pointer (some ⟨Bl, 0, none⟩)] w fun e w' => e = .returned (.bool (behB row i j)) ∧ Ext w w' := by
  obtain ⟨hl1, a, cap, rfl⟩ := hr.shape
  obtain ⟨b, off, x, rfl, hx, hcx⟩ := hr.at hi
  obtain ⟨b', off', y, hby, hy, hcy⟩ := hr.at hj
  cases hby
  have ex : rAt row i = x := tAt_some hx
  have ey : rAt row j = y := tAt_some hy
  unfold behB
  rw [ex, ey]
  have hia : (0 : Int) ≤ (i : Int) := by omega
  have hib : (i : Int) < (row.length : Int) := by omega
  have hja : (0 : Int) ≤ (j : Int) := by omega
  have hjb : (j : Int) < (row.length : Int) := by omega
  have t1 : (j : Int).toNat = j := by omega
  have t2 : (i : Int).toNat = i := by omega
  clear ex ey hx hy hr hl1 hi hj
  generalize row.length = n at *
  by_cases hij : i < j
  · have hd : decide ((i : Int) < (j : Int)) = true := decide_eq_true (by omega)
    have hd2 : decide (i < j) = true := decide_eq_true hij
    rw [hd2]
    go_enter Try.func92, Try.ntmps92
    go_wp2
    go_quiet (fail)
    go_wp2
    go_ret
    exact ⟨rfl, (Ext.refl w).drewN _⟩
  · have hd : decide ((i : Int) < (j : Int)) = false := decide_eq_false (by omega)
    have hd2 : decide (i < j) = false := decide_eq_false hij
    rw [hd2]
    go_enter Try.func92, Try.ntmps92
    go_wp2
    go_quiet (fail)
    go_wp2
    go_ret
    exact ⟨rfl, (Ext.refl w).drewN _⟩

/-- The blocks that behind lays. -/
def behW (w : World) (v : Value) (i : Int) : World :=
  ((((w.alloc (.cells #[v] 57)).alloc (.cells #[.int .i64 i] 3)).alloc (.cells #[v] 57)).alloc (.cells #[.func (.func 95) #[] #[.pointer (some ⟨w.heap.size + 2, 0, none⟩)]] 93)).alloc (.cells #[.func (.func 92) #[] #[.pointer (some ⟨w.heap.size + 1, 0, none⟩), .pointer (some ⟨w.heap.size, 0, none⟩)]] 96)
theorem behW_ext (w : World) (v : Value) (i : Int) : Ext w (behW w v i) := (((((Ext.refl w).alloc _).alloc _).alloc _).alloc _).alloc _
theorem behW_size (w : World) (v : Value) (i : Int) : (behW w v i).heap.size = w.heap.size + 5 := by simp [behW]
theorem behind75 (a : Option Addr) (n cap : Nat) (i : Int) (w : World) : Calls Try.prog 75 #[.agg #[.slice a n cap], .int .i64 i] w fun e w' =>
    e = .returned (.func (.func 94) #[] #[.pointer (some ⟨w.heap.size + 3, 0, none⟩), .pointer (some ⟨w.heap.size + 4, 0, none⟩)]) ∧ w' = behW w (.slice a n cap) i := by
  have h82 := logs82 (.slice a n cap) ((w.alloc (.cells #[.slice a n cap] 57)).alloc (.cells #[.int .i64 i] 3))
  have h81 := only81 (.func (.func 95) #[] #[.pointer (some ⟨w.heap.size + 2, 0, none⟩)]) (.func (.func 92) #[] #[.pointer (some ⟨w.heap.size + 1, 0, none⟩), .pointer (some ⟨w.heap.size, 0, none⟩)]) (((w.alloc (.cells #[.slice a n cap] 57)).alloc (.cells #[.int .i64 i] 3)).alloc (.cells #[.slice a n cap] 57)) 95 _ rfl 92 _ _ rfl
  have H82 := Lib.hid h82; have H81 := Lib.hid h81
  clear h82 h81
  go_enter Try.func75, Try.ntmps75
  go_wp2_with fail
  refine H82.out.mono ?_
  rintro e w1 ⟨rfl, rfl⟩
  simp only [World.size_alloc]
  go_wp2_with fail
  refine H81.out.mono ?_
  rintro e w1 ⟨rfl, rfl⟩
  simp only [World.size_alloc]
  go_wp2
  go_ret
  exact ⟨rfl, rfl⟩
theorem boxed_later {w w' : World} {b : Nat} {t : TypeId} {v : Value} (h : Boxed w b t v) (hE : Ext w w') : Boxed w' b t v := block_ext hE h
theorem Keep.boxed {rs : List Nat} {c : Nat} {A B : World} (h : Keep rs c A B) {b : Nat} {t : TypeId} {v : Value} (hb : b ∉ rs) (hx : Boxed A b t v) : Boxed B b t v := h.blk hb hx
/-- A list that lies below some blocks. -/
theorem Reads.keep {rs : List Nat} {c : Nat} {w A B : World} {v : Value} {xs : List Int} (h : Reads w v xs) (hE : Ext w A) (hk : Keep rs c A B) (hrs : ∀ r ∈ rs, w.heap.size ≤ r) : Reads B v xs := by
  obtain ⟨hl, a, cap, rfl, hcap, h⟩ := h
  refine ⟨hl, a, cap, rfl, hcap, h.imp id ?_⟩
  rintro ⟨b, off, rfl, hc⟩
  refine ⟨b, off, rfl, fun i hi => ?_⟩
  have h1 := hc i hi
  exact hk.cell (fun hm => by have := hrs _ hm; have := lt_of_cell h1; omega) (cell_ext hE h1)
theorem behind_seq (f N n cap i : Nat) (a : Option Addr) (row : List Int) (rs : List Nat) (c : Nat) (w : World) (hf : 2 ≤ f) (hln : n = row.length) (hn : n ≤ N) (hi : i < n) (hn5 : n ≤ 5000) (hrd : ∀ X, Keep rs c w X → Reads X (.slice a n cap) row) (hrs : ∀ r ∈ rs, r < w.heap.size) :
    SeqAny f 94 #[.pointer (some ⟨w.heap.size + 3, 0, none⟩), .pointer (some ⟨w.heap.size + 4, 0, none⟩)] (encF fun k => k < n ∧ behB row i k = true) (Keep rs c) (fun ys => vF ys = behindL row i) N (behW w (.slice a n cap) i) := by
  have b0 : Boxed (behW w (.slice a n cap) i) w.heap.size 57 (.slice a n cap) := ((((Boxed.new w 57 _).alloc _).alloc _).alloc _).alloc _
  have b1 : Boxed (behW w (.slice a n cap) i) (w.heap.size + 1) 3 (.int .i64 i) := by
    have := (((Boxed.new (w.alloc (.cells #[.slice a n cap] 57)) 3 (.int .i64 (i : Int))).alloc (.cells #[.slice a n cap] 57)).alloc (.cells #[.func (.func 95) #[] #[.pointer (some ⟨w.heap.size + 2, 0, none⟩)]] 93)).alloc (.cells #[.func (.func 92) #[] #[.pointer (some ⟨w.heap.size + 1, 0, none⟩), .pointer (some ⟨w.heap.size, 0, none⟩)]] 96)
    rw [World.size_alloc] at this; exact this
  have b2 : Boxed (behW w (.slice a n cap) i) (w.heap.size + 2) 57 (.slice a n cap) := by
    have := ((Boxed.new ((w.alloc (.cells #[.slice a n cap] 57)).alloc (.cells #[.int .i64 i] 3)) 57 (.slice a n cap)).alloc (.cells #[.func (.func 95) #[] #[.pointer (some ⟨w.heap.size + 2, 0, none⟩)]] 93)).alloc (.cells #[.func (.func 92) #[] #[.pointer (some ⟨w.heap.size + 1, 0, none⟩), .pointer (some ⟨w.heap.size, 0, none⟩)]] 96)
    rw [World.size_alloc, World.size_alloc] at this; exact this
  have b3 : Boxed (behW w (.slice a n cap) i) (w.heap.size + 3) 93 (.func (.func 95) #[] #[.pointer (some ⟨w.heap.size + 2, 0, none⟩)]) := by
    have := (Boxed.new (((w.alloc (.cells #[.slice a n cap] 57)).alloc (.cells #[.int .i64 i] 3)).alloc (.cells #[.slice a n cap] 57)) 93 (.func (.func 95) #[] #[.pointer (some ⟨w.heap.size + 2, 0, none⟩)])).alloc (.cells #[.func (.func 92) #[] #[.pointer (some ⟨w.heap.size + 1, 0, none⟩), .pointer (some ⟨w.heap.size, 0, none⟩)]] 96)
    rw [World.size_alloc, World.size_alloc, World.size_alloc] at this; exact this
  have b4 : Boxed (behW w (.slice a n cap) i) (w.heap.size + 4) 96 (.func (.func 92) #[] #[.pointer (some ⟨w.heap.size + 1, 0, none⟩), .pointer (some ⟨w.heap.size, 0, none⟩)]) := by
    have := Boxed.new ((((w.alloc (.cells #[.slice a n cap] 57)).alloc (.cells #[.int .i64 i] 3)).alloc (.cells #[.slice a n cap] 57)).alloc (.cells #[.func (.func 95) #[] #[.pointer (some ⟨w.heap.size + 2, 0, none⟩)]] 93)) 96 (.func (.func 92) #[] #[.pointer (some ⟨w.heap.size + 1, 0, none⟩), .pointer (some ⟨w.heap.size, 0, none⟩)])
    rw [World.size_alloc, World.size_alloc, World.size_alloc, World.size_alloc] at this; exact this
  have hsz := behW_size w (.slice a n cap) i
  have hE := behW_ext w (.slice a n cap) i
  have nin : ∀ k, w.heap.size ≤ k → k ∉ rs := fun k hk hm => by have := hrs k hm; omega
  have e : behindL row i = (List.range n).filter (behB row i) := by unfold behindL; rw [hln]
  rw [e]
  refine only94 f (w.heap.size + 3) (w.heap.size + 4) N 95 92 c (· < n) _ ⟨w.heap.size + 1, 0, none⟩ ⟨w.heap.size, 0, none⟩ rs (behB row i) (List.range n) _ hf b3 b4 (enters_of Try.func95 (by kernel_rfl) rfl) (enters_of Try.func92 (by kernel_rfl) rfl)
    (fun r hr => by have := hrs r hr; omega) (nin _ (by omega)) (nin _ (by omega))
    (logs95 (f - 1) (w.heap.size + 2) N n cap a rs c _ (by omega) hn (by omega) b2)
    (fun X x hk => ?_)
  · exact behind92 _ _ _ row i x.val X (hrd X ((Keep.ext hE).trans hk)) (by omega) (by have := x.2; omega) (hk.cell (nin _ (by omega)) b1.cell) (hk.cell (nin _ (by omega)) b0.cell)
end Go.Proofs.Ytclcippfodjfeaa
