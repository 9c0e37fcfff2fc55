/- Loops over iterators that yield a list of their own, and whose rounds may leave early: what a round may change is some blocks, and those of one kind of elements from some block on. -/
import Derived.Test.YtppjnpempgpkaaaGreatL
import Derived.RangeFuncNested
import Derived.RangeFuncBound
import Derived.RangeFuncCalls
import Derived.RangeFuncLeaves
import Derived.RangeFuncBox
import Derived.Shelf.Abstract
import Derived.Shelf.RegionOpen
import Derived.OwnWalkIn
import Derived.TacticsInMore
import Derived.LoopNIn
import Derived.LoopIn
import Derived.RegionIn
namespace Go.Proofs.YtppjnpempgpkaaaGreat
open Go.RowKit Go.Shelf
set_option linter.unusedVariables false
set_option linter.unusedSimpArgs false
attribute [local go_sem] Oper.semAt_some
structure KeepT (rs : List Nat) (b e : Nat) (A B : World) : Prop where
  os : B.os = A.os
  tape : B.tape = A.tape
  output : B.output = A.output
  size : A.heap.size ≤ B.heap.size
  block : ∀ k, k < A.heap.size → k ∉ rs → ¬ (b ≤ k ∧ ∃ cs fr, A.heap[k]? = some (.cells cs e fr)) → B.heap[k]? = A.heap[k]?
theorem KeepT.refl (rs : List Nat) (b e : Nat) (A : World) : KeepT rs b e A A := ⟨rfl, rfl, rfl, Nat.le_refl _, fun _ _ _ _ => rfl⟩
theorem KeepT.blkN {rs : List Nat} {b e : Nat} {A B : World} (h : KeepT rs b e A B) {g : Nat} {o : Obj} (hg : g ∉ rs) (hc : A.heap[g]? = some o) (ho : o.isCells = false) : B.heap[g]? = some o :=
  (h.block g (lt_of_blk hc) hg (fun ⟨_, cs, fr, h2⟩ => by rw [hc] at h2; cases h2; cases ho)).trans hc
theorem KeepT.boxed {rs : List Nat} {b e : Nat} {A B : World} (h : KeepT rs b e A B) {g : Nat} {t : TypeId} {v : Value} (hg : g ∉ rs) (hc : Boxed A g t v) (ht : t ≠ e) : Boxed B g t v :=
  (h.block g (lt_of_blk hc) hg (fun ⟨_, cs, fr, h2⟩ => by rw [show A.heap[g]? = _ from hc] at h2; cases h2; exact ht rfl)).trans hc
/-- A block of cells of another kind stays. -/
theorem KeepT.cells {rs : List Nat} {b e : Nat} {A B : World} (h : KeepT rs b e A B) {g : Nat} {t : TypeId} {cs : Array Value} {fr : Nat × Nat} (hg : g ∉ rs) (hc : A.heap[g]? = some (.cells cs t fr)) (ht : t ≠ e) : B.heap[g]? = some (.cells cs t fr) :=
  (h.block g (lt_of_blk hc) hg (fun ⟨_, cs', fr', h2⟩ => by rw [hc] at h2; cases h2; exact ht rfl)).trans hc
theorem KeepT.low {rs : List Nat} {b e : Nat} {A B : World} (h : KeepT rs b e A B) {g : Nat} (hlt : g < A.heap.size) (hg : g ∉ rs) (hb : g < b) : B.heap[g]? = A.heap[g]? := h.block g hlt hg (fun ⟨h2, _⟩ => by omega)
theorem KeepT.lowCell {rs : List Nat} {b e : Nat} {A B : World} (h : KeepT rs b e A B) {g o : Nat} {v : Value} (hc : A.cell? ⟨g, o, none⟩ = some v) (hg : g ∉ rs) (hb : g < b) : B.cell? ⟨g, o, none⟩ = some v := by
  have h2 := h.low (lt_of_cell hc) hg hb
  rw [← hc]; simp only [World.cell?, h2]
theorem KeepT.ext {rs : List Nat} {b e : Nat} {A B : World} (h : Ext A B) : KeepT rs b e A B := ⟨h.os, h.tape, h.output, h.size, fun k hk _ _ => h.block k hk⟩
theorem KeepT.trans {rs : List Nat} {b e : Nat} {A B C : World} (h : KeepT rs b e A B) (k : KeepT rs b e B C) : KeepT rs b e A C := by
  refine ⟨k.os.trans h.os, k.tape.trans h.tape, k.output.trans h.output, Nat.le_trans h.size k.size, fun i hi hm hn => ?_⟩
  · have h1 := h.block i hi hm hn
    rw [← h1]
    exact k.block i (Nat.lt_of_lt_of_le hi h.size) hm (fun ⟨h2, h3⟩ => hn ⟨h2, by rw [← h1]; exact h3⟩)
theorem KeepT.put {rs : List Nat} {b e : Nat} {A B : World} {l : Nat} {o o' : Obj} (hlr : l ∉ rs) (hl : A.heap[l]? = some o) (ho : o.isCells = false) (h : KeepT rs b e (A.putObj l o') B) (hb : B.heap[l]? = some o') : KeepT rs b e A (B.putObj l o) := by
  have hs : (A.putObj l o').heap.size = A.heap.size := by simp [World.putObj]
  refine ⟨h.os, h.tape, h.output, ?_, fun k hk hn hc => ?_⟩
  · have := h.size; rw [hs] at this; simpa [World.putObj] using this
  · by_cases e1 : k = l
    · subst e1; rw [World.putObj_heap_same (Array.getElem?_eq_some_iff.1 hb).1, hl]
    · rw [World.putObj_heap_other e1, h.block k (by rw [hs]; exact hk) hn (fun ⟨h2, h3⟩ => hc ⟨h2, by rw [World.putObj_heap_other e1] at h3; exact h3⟩), World.putObj_heap_other e1]
theorem ownFrom_keepT {β : Type} {rs : List Nat} {b e : Nat} {w₀ : World} {B : Nat} (hB : w₀.heap.size ≤ B) : OwnFrom B (fun (_ : β) W => KeepT rs b e w₀ W) :=
  fun _ A C row hs hg hr => ⟨hg.os.trans hs.os, hg.tape.trans hs.tape, hg.output.trans hs.output, Nat.le_trans hs.size hg.size, fun k hk hn hc => (hg.block k (Nat.lt_of_lt_of_le hk hs.size) (fun e => by have := (hr k e.symm).1; omega)).trans (hs.block k hk hn hc)⟩
theorem KeepT.set {rs : List Nat} {b e : Nat} (A : World) {g o : Nat} (hg : g ∈ rs) (v : Value) : KeepT rs b e A (A.setCell ⟨g, o, none⟩ v) := by
  have h := grown_set A g o v
  exact ⟨h.os, h.tape, h.output, h.size, fun k hk hn _ => h.block k hk (fun e => hn (by cases e; exact hg))⟩
theorem KeepT.drew {rs : List Nat} {b e : Nat} {A B : World} (h : KeepT rs b e A B) : KeepT rs b e A B.drew := ⟨h.os, h.tape, h.output, h.size, h.block⟩
theorem KeepT.drewL {rs : List Nat} {b e : Nat} {A B : World} (h : KeepT rs b e A B) : KeepT rs b e A.drew B := ⟨h.os, h.tape, h.output, h.size, h.block⟩
theorem KeepT.below {rs : List Nat} {e : Nat} {b : Nat} {w A B : World} (hE : Ext w A) (h : KeepT rs b e A B) (hrs : ∀ r ∈ rs, w.heap.size ≤ r) (hb : w.heap.size ≤ b) : Ext w B :=
  ⟨h.os.trans hE.os, h.tape.trans hE.tape, h.output.trans hE.output, Nat.le_trans hE.size h.size, fun k hk => (h.block k (Nat.lt_of_lt_of_le hk hE.size) (fun hm => by have := hrs k hm; omega) (fun ⟨h2, _⟩ => by omega)).trans (hE.block k hk)⟩
theorem KeepT.mono {rs rs' : List Nat} {b b' e : Nat} {A B : World} (h : KeepT rs b e A B) (hrs : ∀ r ∈ rs, r ∈ rs') (hb : b' ≤ b) : KeepT rs' b' e A B :=
  ⟨h.os, h.tape, h.output, h.size, fun k hk hn hc => h.block k hk (fun hm => hn (hrs k hm)) (fun ⟨h2, h3⟩ => hc ⟨Nat.le_trans hb h2, h3⟩)⟩
/-- The cells of what may not change stay. -/
def CellsT (rs : List Nat) (b e : Nat) (A B : World) : Prop := ∀ g cs t fr, A.heap[g]? = some (.cells cs t fr) → g ∉ rs → (t ≠ e ∨ g < b) → B.heap[g]? = some (.cells cs t fr)
theorem KeepT.cellsT {rs : List Nat} {b e : Nat} {A B : World} (h : KeepT rs b e A B) : CellsT rs b e A B := fun g cs t fr hg hn ht =>
  (h.block g (lt_of_blk hg) hn (fun ⟨h1, cs', fr', h2⟩ => by rw [hg] at h2; cases h2; rcases ht with h3 | h3; exact h3 rfl; omega)).trans hg
theorem CellsT.trans {rs : List Nat} {b e : Nat} {A B C : World} (h : CellsT rs b e A B) (k : CellsT rs b e B C) : CellsT rs b e A C := fun g cs t fr hg hn ht => k g cs t fr (h g cs t fr hg hn ht) hn ht
theorem CellsT.put {rs : List Nat} {b e : Nat} {A : World} {l : Nat} {o : Obj} (hl : A.heap[l]? = some o) (ho : o.isCells = false) (o' : Obj) : CellsT rs b e A (A.putObj l o') := fun g cs t fr hg hn ht => by
  rw [World.putObj_heap_other (fun e => by subst e; rw [hg] at hl; cases hl; cases ho)]; exact hg
theorem CellsT.cell {rs : List Nat} {b e : Nat} {A B : World} (h : CellsT rs b e A B) {g o : Nat} {cs : Array Value} {t : TypeId} {fr : Nat × Nat} (hg : A.heap[g]? = some (.cells cs t fr)) (hn : g ∉ rs) (ht : t ≠ e ∨ g < b) {v : Value} (hv : cs[o]? = some v) : B.cell? ⟨g, o, none⟩ = some v := cell_of_blk (h g cs t fr hg hn ht) hv
theorem cells_turn {A B : World} {g : Nat} {cs : Array Value} {t : TypeId} {fr : Nat × Nat} (h : A.heap[g]? = some (.cells cs t fr)) {base : Nat} {row : Option Nat} (hg : A.grownBy B row) (hr : ∀ r, row = some r → base ≤ r ∧ ∃ o : Obj, A.heap[r]? = some o ∧ o.isCells = false) : B.heap[g]? = some (.cells cs t fr) :=
  (hg.block g (Array.getElem?_eq_some_iff.1 h).1 (fun e => by
    obtain ⟨_, o, ho, hc⟩ := hr g e.symm
    rw [h] at ho; cases ho; cases hc)).trans h
theorem cell_turn {A B : World} {g o : Nat} {v : Value} (h : A.cell? ⟨g, o, none⟩ = some v) {base : Nat} {row : Option Nat} (hg : A.grownBy B row) (hr : ∀ r, row = some r → base ≤ r ∧ ∃ o : Obj, A.heap[r]? = some o ∧ o.isCells = false) : B.cell? ⟨g, o, none⟩ = some v := by
  obtain ⟨ob, h1, h2⟩ := cells_of_cell h
  dsimp only at h1
  have h3 : B.heap[g]? = A.heap[g]? := hg.block g (lt_of_cell h) (fun e => by
    obtain ⟨_, o', ho, hc⟩ := hr g e.symm
    rw [h1] at ho; cases ho; rw [h2] at hc; cases hc)
  rw [← h]; simp only [World.cell?, h3]
theorem abides {B : Nat} {J : Nat → World → Prop} (hJ : OwnFrom B J) {k : Nat} {A C : World} (h : J k A) (hE : Ext A C) : J k C := hJ k A C none h ⟨hE.os, hE.tape, hE.output, hE.size, fun i hi _ => hE.block i hi⟩ (fun r e => by cases e)
theorem RoundIn.any {m m' l l0 : Nat} {P : Program} {f : FuncId} {tmps : Array Value} {assign body : Code} {w : World} {R : Ending → World → Prop} (h : RoundIn Fence.wide m P l f tmps assign body w R) : RoundIn (Fence.wide.inRound l0) m' P l f tmps assign body w R :=
  ⟨h.1, fun c cs hr => h.2 c cs (by simp [Fence.room, Fence.wide])⟩
/-- An iterator's word: it yields a list; a round may leave. -/
def SeqL {α : Type} (n gf : Nat) (lb : Array Value) (encs : α → Array Value) (rs : List Nat) (b e : Nat) (L : List α) (w : World) : Prop :=
  ∀ (l : Nat) (J Jx : Nat → World → Prop) (W : World), Below w.heap.size w W → OwnFrom W.heap.size J → OwnFrom W.heap.size Jx →
    (∀ k x X, L[k]? = some x → J k X → YieldAt Fence.wide (n - 1) Tryz.prog l (encs x) X fun r Y => (r = .returned (.bool true) ∧ J (k + 1) Y ∧ KeepT rs b e X Y) ∨ (r = .returned (.bool false) ∧ Jx (k + 1) Y ∧ CellsT rs b e X Y)) →
    J 0 W → CallsIn Fence.wide n Tryz.prog gf (#[.func (.yield l) #[] #[]] ++ lb) W fun e Y => (∃ v, e = .returned v) ∧ (J L.length Y ∨ ∃ k, k < L.length ∧ Jx (k + 1) Y)
theorem SeqL.later {α : Type} {n gf : Nat} {lb : Array Value} {encs : α → Array Value} {rs : List Nat} {b e : Nat} {L : List α} {w w' : World} (h : SeqL n gf lb encs rs b e L w) (hE : Ext w w') : SeqL n gf lb encs rs b e L w' :=
  fun l J Jx W hW hJ hJx hY h0 => h l J Jx W (Below.trans hE (hW.mono hE.size)) hJ hJx hY h0
/-- How a round may be left. -/
def postL (Kp : World → World → Prop) (I : Nat → World → Prop) (Ix : Code → Nat → World → Prop) (k : Nat) (W : World) : Exit → Act → World → Prop
  | .normal, _, Y => Kp W Y ∧ I (k + 1) Y
  | .ret, _, Y => Kp W Y ∧ Ix .ret (k + 1) Y
  | .exit id, _, Y => Kp W Y ∧ Ix (.exit id) (k + 1) Y
  | _, _, _ => False
theorem wp_seqL {α : Type} {n : Nat} {g : Operand} {ps : Array Tmp} {assign body : Code} {Q : Exit → Act → World → Prop} {a : Act} {w w0 : World} {gf : Nat} {lb : Array Value} {encs : α → Array Value} {rs : List Nat} {b e : Nat} {L : List α}
    (h1 : 1 ≤ n) (hg : a.eval g = .func (.func gf) #[] lb) (eg : ∀ args W, (callFunc gf args).run Tryz.prog W = .ok (.enter gf args) W) (hseq : SeqL (n - 1) gf lb encs rs b e L w0) (hb0 : Below w0.heap.size w0 w) (hps : ∀ x, (encs x).size = ps.size)
    (hrs : ∀ r ∈ rs, r < w.heap.size)
    (I : Nat → World → Prop) (Ix : Code → Nat → World → Prop) (hI : OwnFrom w.heap.size I) (hIx : ∀ c, OwnFrom w.heap.size (Ix c)) (h0 : I 0 w) (Ax : α → Act → World → Prop) (hAx : ∀ x a', OwnFrom w.heap.size (fun (_ : Unit) W => Ax x a' W))
    (hassign : ∀ (l k : Nat) (x : α) (W : World) (K : Act → World → Prop), w.heap.size ≤ l → L[k]? = some x → I k W → (∀ a' W', KeepT rs b e W W' → I k W' → Ax x a' W' → K a' W') → assign.wpIn (Fence.wide.inRound l) (n - 1 - 1) Tryz.prog (Exit.then K (fun _ _ _ => False)) { tmps := (ps.zip (encs x)).foldl (fun t (p, v) => t.setIfInBounds p v) a.tmps, defers := [] } W)
    (hbody : ∀ (l k : Nat) (x : α) (a' : Act) (W : World), w.heap.size ≤ l → L[k]? = some x → I k W → Ax x a' W →
      body.wpIn (Fence.wide.inRound l) (n - 1 - 1) Tryz.prog (postL (KeepT rs b e) I Ix k W) a' W)
    (hdone : ∀ (D : Nat) (W : World), w.heap.size ≤ D → I L.length W → W.heap[D]? = some (.deferred (some [])) → Q .normal { a with defers := { target := .collected D, args := #[] } :: a.defers } W)
    (hstop : ∀ (D : Nat) (c : Code) (k : Nat) (W : World), w.heap.size ≤ D → k < L.length → Ix c (k + 1) W → W.heap[D]? = some (.deferred (some [])) → c.wpIn Fence.wide n Tryz.prog Q { a with defers := { target := .collected D, args := #[] } :: a.defers } W) :
    (Code.rangeFunc g ps assign body).wpIn Fence.wide n Tryz.prog Q a w := by
  refine wpIn_rangeFunc fun fn hfn => ?_
  let R : LoopState → Option Code → Loop := fun s p => { state := s, pending := p, fn, tmps := a.tmps, params := ps, assign, body, defers := w.heap.size }
  have hE : Ext w ((w.alloc (.deferred (some []))).alloc (.loop (R .ready none))) := ((Ext.refl w).alloc _).alloc _
  have hrec : ((w.alloc (.deferred (some []))).alloc (.loop (R .ready none))).heap[w.heap.size + 1]? = some (.loop (R .ready none)) := by
    have := heap_alloc_new (w.alloc (.deferred (some []))) (.loop (R .ready none)); rwa [World.size_alloc] at this
  have hdef : ((w.alloc (.deferred (some []))).alloc (.loop (R .ready none))).heap[w.heap.size]? = some (.deferred (some [])) :=
    (Below.heap_alloc _ _ _ (by simp)).trans (heap_alloc_new w _)
  have hI0 : I 0 ((w.alloc (.deferred (some []))).alloc (.loop (R .ready none))) := hI.alloc _ (hI.alloc _ h0)
  have hsz : ((w.alloc (.deferred (some []))).alloc (.loop (R .ready none))).heap.size = w.heap.size + 2 := by simp
  have hrun : (Instr.enterLoop fn a.tmps ps assign body Fence.wide.round).run Tryz.prog w = .ok (w.heap.size + 1, [{ target := .collected w.heap.size, args := #[] }]) ((w.alloc (.deferred (some []))).alloc (.loop (R .ready none))) := run_enterLoop_outer _ _ _ _ _
  generalize (w.alloc (.deferred (some []))).alloc (.loop (R .ready none)) = W1 at hE hrec hdef hI0 hsz hrun
  refine ⟨w.heap.size + 1, _, W1, { target := .fn (.func gf) lb, args := #[.func (.yield (w.heap.size + 1)) #[] #[]] }, W1, gf, #[.func (.yield (w.heap.size + 1)) #[] #[]] ++ lb, W1, hrun, ?_, ?_, ?_, fun _ => h1, ?_⟩
  · simp only [resolve, hg]; simp [go_sem]
  · exact fun f' hf' => trivial
  · simp [invoke, go_sem, eg]
  have turn : ∀ {X Y : World} {row : Option Nat} {k : Nat} {o : Obj}, k < W1.heap.size → X.heap[k]? = some o → X.grownBy Y row → (∀ r, row = some r → W1.heap.size ≤ r ∧ ∃ o : Obj, X.heap[r]? = some o ∧ o.isCells = false) → Y.heap[k]? = some o :=
    fun hk hX hg' hr => (hg'.block _ (Array.getElem?_eq_some_iff.1 hX).1 (fun e => by have := (hr _ e.symm).1; omega)).trans hX
  have hl1 : w.heap.size + 1 ∉ rs := fun h => by have := hrs _ h; omega
  have hl0 : w.heap.size ∉ rs := fun h => by have := hrs _ h; omega
  refine (hseq (w.heap.size + 1) (fun k X => I k X ∧ X.heap[w.heap.size + 1]? = some (.loop (R .ready none)) ∧ X.heap[w.heap.size]? = some (.deferred (some [])))
    (fun k X => ∃ c, Ix c k X ∧ X.heap[w.heap.size + 1]? = some (.loop (R .done (some c))) ∧ X.heap[w.heap.size]? = some (.deferred (some []))) W1 (hb0.trans (hE.mono hb0.size))
    (fun s X Y row hs hg' hr => ⟨hI s X Y row hs.1 hg' (fun r e => ⟨by have := (hr r e).1; omega, (hr r e).2⟩), turn (by omega) hs.2.1 hg' hr, turn (by omega) hs.2.2 hg' hr⟩)
    (fun s X Y row hs hg' hr => by
      obtain ⟨c, h2, h3, h4⟩ := hs
      exact ⟨c, hIx c s X Y row h2 hg' (fun r e => ⟨by have := (hr r e).1; omega, (hr r e).2⟩), turn (by omega) h3 hg' hr, turn (by omega) h4 hg' hr⟩) ?_ ⟨hI0, hrec, hdef⟩).mono ?_
  · rintro k x X hx ⟨hi, hl, hd⟩
    refine ⟨_, _, _, _, run_yield hl (hps x), roundIn_of_wpIn hfn (hassign (w.heap.size + 1) k x X _ (by omega) hx hi ?_)⟩
    intro a2 X2 hk2 hi2 hax2
    have hl2 := hk2.blkN hl1 hl rfl
    have hd2 := hk2.blkN hl0 hd rfl
    refine ⟨_, run_beginRound hl2 rfl, ?_⟩
    have hlX := (Array.getElem?_eq_some_iff.1 hl2).1
    have hb := hbody (w.heap.size + 1) k x a2 _ (by omega) hx (hI.putObj (.loop { R .ready none with state := .busy }) hi2 (by omega) hl2 rfl) ((hAx x a2).putObj (s := ()) _ hax2 (by omega) hl2 rfl)
    refine wpIn_mono hb ?_
    have cX : ∀ (jump : Option Code) (Y : World), KeepT rs b e (X2.putObj (w.heap.size + 1) (.loop { R .ready none with state := .busy })) Y → Y.heap[w.heap.size + 1]? = some (.loop { R .ready none with state := .busy }) →
        CellsT rs b e X (Y.putObj (w.heap.size + 1) (.loop (R .done jump))) := fun jump Y hk hY => ((hk2.cellsT.trans (CellsT.put hl2 rfl _)).trans hk.cellsT).trans (CellsT.put hY rfl _)
    have fin : ∀ (jump : Option Code) (Y : World), KeepT rs b e (X2.putObj (w.heap.size + 1) (.loop { R .ready none with state := .busy })) Y →
        (Instr.endRound (w.heap.size + 1) jump).run Tryz.prog Y = .ok (.bool jump.isNone) (Y.putObj (w.heap.size + 1) (.loop (R (if jump.isNone then .ready else .done) jump))) ∧ Y.heap[w.heap.size + 1]? = some (.loop { R .ready none with state := .busy }) ∧
        (Y.putObj (w.heap.size + 1) (.loop (R (if jump.isNone then .ready else .done) jump))).heap[w.heap.size + 1]? = some (.loop (R (if jump.isNone then .ready else .done) jump)) ∧
        (Y.putObj (w.heap.size + 1) (.loop (R (if jump.isNone then .ready else .done) jump))).heap[w.heap.size]? = some (.deferred (some [])) := fun jump Y hk => by
      have hlY : Y.heap[w.heap.size + 1]? = some (.loop { R .ready none with state := .busy }) := hk.blkN hl1 (World.putObj_heap_same hlX) rfl
      have hdY : Y.heap[w.heap.size]? = some (.deferred (some [])) := hk.blkN hl0 ((World.putObj_heap_other (by omega)).trans hd2) rfl
      exact ⟨run_endRound jump hlY, hlY, World.putObj_heap_same (Array.getElem?_eq_some_iff.1 hlY).1, (World.putObj_heap_other (by omega)).trans hdY⟩
    rintro e a3 Y hY
    cases e with
    | normal =>
      obtain ⟨hk, hi3⟩ := hY
      obtain ⟨q1, q2, q3, q4⟩ := fin none Y hk
      exact ⟨_, _, q1, .inl ⟨rfl, ⟨hI.putObj _ hi3 (by omega) q2 rfl, q3, q4⟩, hk2.trans (KeepT.put hl1 hl2 rfl hk q2)⟩⟩
    | ret =>
      obtain ⟨hk, hi3⟩ := hY
      obtain ⟨q1, q2, q3, q4⟩ := fin (some .ret) Y hk
      exact ⟨_, _, q1, .inr ⟨rfl, ⟨.ret, (hIx _).putObj _ hi3 (by omega) q2 rfl, q3, q4⟩, cX _ _ hk q2⟩⟩
    | exit id =>
      obtain ⟨hk, hi3⟩ := hY
      obtain ⟨q1, q2, q3, q4⟩ := fin (some (.exit id)) Y hk
      exact ⟨_, _, q1, .inr ⟨rfl, ⟨.exit id, (hIx _).putObj _ hi3 (by omega) q2 rfl, q3, q4⟩, cX _ _ hk q2⟩⟩
    | goto t => exact hY.elim
    | panic ch => exact hY.elim
    | outgrown => exact hY.elim
  · rintro e Y ⟨⟨v, rfl⟩, ⟨hi, hl, hd⟩ | ⟨k, hk, c, hi, hl, hd⟩⟩
    · exact ⟨_, _, run_endLoop hl (by simp [R]), hdone _ _ (Nat.le_refl _) (hI.putObj _ hi (by omega) hl rfl) ((World.putObj_heap_other (by omega)).trans hd)⟩
    · exact ⟨_, _, run_endLoop hl (by simp [R]), hstop _ c k _ (Nat.le_refl _) hk ((hIx c).putObj _ hi (by omega) hl rfl) ((World.putObj_heap_other (by omega)).trans hd)⟩
/-- Where the assignment makes no memory. -/
theorem wp_seqL1 {α : Type} {n : Nat} {g : Operand} {ps : Array Tmp} {assign body : Code} {Q : Exit → Act → World → Prop} {a : Act} {w w0 : World} {gf : Nat} {lb : Array Value} {encs : α → Array Value} {rs : List Nat} {b e : Nat} {L : List α}
    (h1 : 1 ≤ n) (hg : a.eval g = .func (.func gf) #[] lb) (eg : ∀ args W, (callFunc gf args).run Tryz.prog W = .ok (.enter gf args) W) (hseq : SeqL (n - 1) gf lb encs rs b e L w0) (hb0 : Below w0.heap.size w0 w) (hps : ∀ x, (encs x).size = ps.size)
    (hrs : ∀ r ∈ rs, r < w.heap.size)
    (I : Nat → World → Prop) (Ix : Code → Nat → World → Prop) (hI : OwnFrom w.heap.size I) (hIx : ∀ c, OwnFrom w.heap.size (Ix c)) (h0 : I 0 w) (af : α → Act)
    (hassign : ∀ (l : Nat) (x : α) (W : World) (K : Act → World → Prop), K (af x) W → assign.wpIn (Fence.wide.inRound l) (n - 1 - 1) Tryz.prog (Exit.then K (fun _ _ _ => False)) { tmps := (ps.zip (encs x)).foldl (fun t (p, v) => t.setIfInBounds p v) a.tmps, defers := [] } W)
    (hbody : ∀ (l k : Nat) (x : α) (W : World), w.heap.size ≤ l → L[k]? = some x → I k W → body.wpIn (Fence.wide.inRound l) (n - 1 - 1) Tryz.prog (postL (KeepT rs b e) I Ix k W) (af x) W)
    (hdone : ∀ (D : Nat) (W : World), w.heap.size ≤ D → I L.length W → W.heap[D]? = some (.deferred (some [])) → Q .normal { a with defers := { target := .collected D, args := #[] } :: a.defers } W)
    (hstop : ∀ (D : Nat) (c : Code) (k : Nat) (W : World), w.heap.size ≤ D → k < L.length → Ix c (k + 1) W → W.heap[D]? = some (.deferred (some [])) → c.wpIn Fence.wide n Tryz.prog Q { a with defers := { target := .collected D, args := #[] } :: a.defers } W) :
    (Code.rangeFunc g ps assign body).wpIn Fence.wide n Tryz.prog Q a w :=
  wp_seqL h1 hg eg hseq hb0 hps hrs I Ix hI hIx h0 (fun x a' _ => a' = af x) (fun _ _ _ _ _ _ hs _ _ => hs) (fun l k x W K _ _ hI hK => hassign l x W K (hK _ _ (KeepT.refl _ _ _ _) hI rfl)) (fun l k x a' W hl hx hI hA => by subst hA; exact hbody l k x W hl hx hI) hdone hstop
/-- Where the loop's variable is boxed in each round. -/
theorem wp_seqLB {α : Type} {n : Nat} {g : Operand} {ps : Array Tmp} {assign body : Code} {Q : Exit → Act → World → Prop} {a : Act} {w w0 : World} {gf : Nat} {lb : Array Value} {encs : α → Array Value} {rs : List Nat} {b e : Nat} {L : List α}
    (h1 : 1 ≤ n) (hg : a.eval g = .func (.func gf) #[] lb) (eg : ∀ args W, (callFunc gf args).run Tryz.prog W = .ok (.enter gf args) W) (hseq : SeqL (n - 1) gf lb encs rs b e L w0) (hb0 : Below w0.heap.size w0 w) (hps : ∀ x, (encs x).size = ps.size)
    (hrs : ∀ r ∈ rs, r < w.heap.size)
    (I : Nat → World → Prop) (Ix : Code → Nat → World → Prop) (hI : OwnFrom w.heap.size I) (hIx : ∀ c, OwnFrom w.heap.size (Ix c)) (h0 : I 0 w) (hIE : ∀ k W W', I k W → Ext W W' → I k W') (tb : TypeId) (bx : α → Array Value) (af : Nat → α → Act)
    (hassign : ∀ (l : Nat) (x : α) (W : World) (B : Nat) (K : Act → World → Prop), B = W.heap.size → K (af B x) (W.alloc (.cells (bx x) tb)) → assign.wpIn (Fence.wide.inRound l) (n - 1 - 1) Tryz.prog (Exit.then K (fun _ _ _ => False)) { tmps := (ps.zip (encs x)).foldl (fun t (p, v) => t.setIfInBounds p v) a.tmps, defers := [] } W)
    (hbody : ∀ (l k : Nat) (x : α) (Bx : Nat) (W : World), w.heap.size ≤ l → L[k]? = some x → I k W → w.heap.size ≤ Bx → W.heap[Bx]? = some (.cells (bx x) tb (0, 0)) → body.wpIn (Fence.wide.inRound l) (n - 1 - 1) Tryz.prog (postL (KeepT rs b e) I Ix k W) (af Bx x) W)
    (hdone : ∀ (D : Nat) (W : World), w.heap.size ≤ D → I L.length W → W.heap[D]? = some (.deferred (some [])) → Q .normal { a with defers := { target := .collected D, args := #[] } :: a.defers } W)
    (hstop : ∀ (D : Nat) (c : Code) (k : Nat) (W : World), w.heap.size ≤ D → k < L.length → Ix c (k + 1) W → W.heap[D]? = some (.deferred (some [])) → c.wpIn Fence.wide n Tryz.prog Q { a with defers := { target := .collected D, args := #[] } :: a.defers } W) :
    (Code.rangeFunc g ps assign body).wpIn Fence.wide n Tryz.prog Q a w :=
  wp_seqL h1 hg eg hseq hb0 hps hrs (fun k W => I k W ∧ w.heap.size ≤ W.heap.size) Ix (fun s A B row hs hg hr => ⟨hI s A B row hs.1 hg hr, Nat.le_trans hs.2 hg.size⟩) hIx ⟨h0, Nat.le_refl _⟩ (fun x a' W => ∃ Bx, w.heap.size ≤ Bx ∧ W.heap[Bx]? = some (.cells (bx x) tb (0, 0)) ∧ a' = af Bx x)
    (fun x a' s A B row hs hg hr => let ⟨Bx, h1, h2, h3⟩ := hs; ⟨Bx, h1, cells_turn h2 hg hr, h3⟩)
    (fun l k x W K _ _ hI hK => hassign l x W W.heap.size K rfl (hK (af W.heap.size x) (W.alloc (.cells (bx x) tb)) (KeepT.ext ((Ext.refl W).alloc _)) ⟨hIE _ _ _ hI.1 ((Ext.refl W).alloc _), by have := hI.2; simp; omega⟩ ⟨W.heap.size, hI.2, heap_alloc_new _ _, rfl⟩))
    (fun l k x a' W hl hx hI hA => by
      obtain ⟨Bx, h1, h2, rfl⟩ := hA
      refine wpIn_mono (hbody l k x Bx W hl hx hI.1 h1 h2) ?_
      intro e a3 Y hY
      cases e <;> try exact hY
      exact ⟨hY.1, hY.2, Nat.le_trans hI.2 hY.1.size⟩)
    (fun D W hD hI hW => hdone D W hD hI.1 hW) hstop
/-- A list that lies below what may change, or whose elements are of another kind. -/
theorem Reads.keepT {rs : List Nat} {b e : Nat} {w A B : World} {v : Value} {xs : List Int} (h : Reads w v xs) (hE : Ext w A) (hk : KeepT rs b e A B) (hrs : ∀ r ∈ rs, w.heap.size ≤ r) (hb : w.heap.size ≤ b) : Reads B v xs := h.ext (KeepT.below hE hk hrs hb)
/-- The marks of loops that have ended. -/
def Marks (base : Nat) (ds : List Deferred) (W : World) : Prop :=
  ∃ Ds : List Nat, ds = Ds.map (fun D => { target := .collected D, args := #[] }) ∧ Ds.Nodup ∧ ∀ D ∈ Ds, base ≤ D ∧ W.heap[D]? = some (.deferred (some []))
theorem Marks.nil (base : Nat) (W : World) : Marks base [] W := ⟨[], rfl, List.nodup_nil, fun D h => by cases h⟩
theorem marks_leaveJ {F : Fence} {n : Nat} {P : Program} {fn : Func} {tmps : Array Value} {R : Ending → World → Prop} {base : Nat} (J : World → Prop) (hJ : ∀ W D, J W → base ≤ D → W.heap[D]? = some (.deferred (some [])) → J (W.putObj D (.deferred none))) : ∀ (ds : List Deferred) (u : FrameMode) (W : World), u ≠ .run → J W → Marks base ds W →
    (∀ W', J W' → LeavesInM F n P fn tmps R [] u W') → LeavesInM F n P fn tmps R ds u W
  | [], u, W, hu, hj, hm, h => h W hj
  | d :: ds, u, W, hu, hj, ⟨Ds, e, hnd, hD⟩, h => by
    cases Ds with
    | nil => cases e
    | cons D Ds =>
      cases e
      obtain ⟨h1, h2⟩ := hD D (by simp)
      have hnd' := List.nodup_cons.1 hnd
      refine ⟨hu, .inl ⟨D, _, rfl, run_takeDeferred h2, marks_leaveJ J hJ _ u _ hu (hJ W D hj h1 h2) ⟨Ds, rfl, hnd'.2, fun D' hD' => ?_⟩ h⟩⟩
      obtain ⟨h3, h4⟩ := hD D' (by simp [hD'])
      refine ⟨h3, ?_⟩
      rw [World.putObj_heap_other (fun e => hnd'.1 (by rw [← e]; exact hD'))]
      exact h4
theorem Marks.keepT {rs : List Nat} {b e base : Nat} {ds : List Deferred} {W W' : World} (h : Marks base ds W) (hk : KeepT rs b e W W') (hrs : ∀ r ∈ rs, r < base) : Marks base ds W' := by
  obtain ⟨Ds, h1, h2, h3⟩ := h
  exact ⟨Ds, h1, h2, fun D hD => ⟨(h3 D hD).1, hk.blkN (fun hm => by have := hrs D hm; have := (h3 D hD).1; omega) (h3 D hD).2 rfl⟩⟩
theorem marks_inj : ∀ {a b : List Nat}, a.map (fun D => ({ target := .collected D, args := #[] } : Deferred)) = b.map (fun D => { target := .collected D, args := #[] }) → a = b
  | [], [], _ => rfl
  | [], _ :: _, h => by cases h
  | _ :: _, [], h => by cases h
  | x :: a, y :: b, h => by
    simp only [List.map_cons, List.cons.injEq, Deferred.mk.injEq, Target.collected.injEq, and_true] at h
    rw [h.1, marks_inj h.2]
theorem Marks.cons {base : Nat} {ds : List Deferred} {W W' : World} {D : Nat} (h : Marks base ds W') (h0 : Marks base ds W) (hD : W.heap.size ≤ D) (hb : base ≤ W.heap.size) (hk : W'.heap[D]? = some (.deferred (some []))) :
    Marks base ({ target := .collected D, args := #[] } :: ds) W' := by
  obtain ⟨Ds, rfl, hnd, hDs⟩ := h
  obtain ⟨Ds0, e, _, hDs0⟩ := h0
  have e2 : Ds = Ds0 := marks_inj e
  subst e2
  have hlt : ∀ E ∈ Ds, E < W.heap.size := fun E hE => (Array.getElem?_eq_some_iff.1 (hDs0 E hE).2).1
  refine ⟨D :: Ds, rfl, List.nodup_cons.2 ⟨fun hm => by have := hlt D hm; omega, hnd⟩, fun E hE => ?_⟩
  rcases List.mem_cons.1 hE with rfl | hE
  · exact ⟨by omega, hk⟩
  · exact hDs E hE
end Go.Proofs.YtppjnpempgpkaaaGreat
