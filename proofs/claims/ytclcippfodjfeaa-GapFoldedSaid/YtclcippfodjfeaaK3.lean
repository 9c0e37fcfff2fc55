/- Loops over iterators in whose rounds a list grows: blocks of one kind of elements may turn, from some block on. slices.AppendSeq and Collect over ints, by their contracts. Collect over Only over the elements of a list, by contract. -/
import Derived.Test.YtclcippfodjfeaaN9
import Derived.Test.YtclcippfodjfeaaN4
import Derived.Test.YtclcippfodjfeaaN14
namespace Go.Proofs.Ytclcippfodjfeaa
open Go.RowKit Go.Shelf
set_option linter.unusedVariables false
set_option linter.unusedSimpArgs false
attribute [local go_sem] Oper.semAt_some
structure KeepT (rs : List Nat) (b e : Nat) (A B : World) : Prop where
  os : B.os = A.os
  tape : B.tape = A.tape
  output : B.output = A.output
  size : A.heap.size ≤ B.heap.size
  block : ∀ k, k < A.heap.size → k ∉ rs → ¬ (b ≤ k ∧ ∃ cs fr, A.heap[k]? = some (.cells cs e fr)) → B.heap[k]? = A.heap[k]?
theorem KeepT.refl (rs : List Nat) (b e : Nat) (A : World) : KeepT rs b e A A := ⟨rfl, rfl, rfl, Nat.le_refl _, fun _ _ _ _ => rfl⟩
theorem KeepT.blkN {rs : List Nat} {b e : Nat} {A B : World} (h : KeepT rs b e A B) {g : Nat} {o : Obj} (hg : g ∉ rs) (hc : A.heap[g]? = some o) (ho : o.isCells = false) : B.heap[g]? = some o :=
  (h.block g (lt_of_blk hc) hg (fun ⟨_, cs, fr, h2⟩ => by rw [hc] at h2; cases h2; cases ho)).trans hc
theorem KeepT.boxed {rs : List Nat} {b e : Nat} {A B : World} (h : KeepT rs b e A B) {g : Nat} {t : TypeId} {v : Value} (hg : g ∉ rs) (hc : Boxed A g t v) (ht : t ≠ e) : Boxed B g t v :=
  (h.block g (lt_of_blk hc) hg (fun ⟨_, cs, fr, h2⟩ => by rw [show A.heap[g]? = _ from hc] at h2; cases h2; exact ht rfl)).trans hc
theorem KeepT.low {rs : List Nat} {b e : Nat} {A B : World} (h : KeepT rs b e A B) {g : Nat} (hlt : g < A.heap.size) (hg : g ∉ rs) (hb : g < b) : B.heap[g]? = A.heap[g]? := h.block g hlt hg (fun ⟨h2, _⟩ => by omega)
theorem KeepT.ext {rs : List Nat} {b e : Nat} {A B : World} (h : Ext A B) : KeepT rs b e A B := ⟨h.os, h.tape, h.output, h.size, fun k hk _ _ => h.block k hk⟩
theorem KeepT.trans {rs : List Nat} {b e : Nat} {A B C : World} (h : KeepT rs b e A B) (k : KeepT rs b e B C) : KeepT rs b e A C := by
  refine ⟨k.os.trans h.os, k.tape.trans h.tape, k.output.trans h.output, Nat.le_trans h.size k.size, fun i hi hm hn => ?_⟩
  · have h1 := h.block i hi hm hn
    rw [← h1]
    exact k.block i (Nat.lt_of_lt_of_le hi h.size) hm (fun ⟨h2, h3⟩ => hn ⟨h2, by rw [← h1]; exact h3⟩)
theorem KeepT.put {rs : List Nat} {b e : Nat} {A B : World} {l : Nat} {o o' : Obj} (hlr : l ∉ rs) (hl : A.heap[l]? = some o) (ho : o.isCells = false) (h : KeepT rs b e (A.putObj l o') B) (hb : B.heap[l]? = some o') : KeepT rs b e A (B.putObj l o) := by
  have hs : (A.putObj l o').heap.size = A.heap.size := by simp [World.putObj]
  refine ⟨h.os, h.tape, h.output, ?_, fun k hk hn hc => ?_⟩
  · have := h.size; rw [hs] at this; simpa [World.putObj] using this
  · by_cases e1 : k = l
    · subst e1; rw [World.putObj_heap_same (Array.getElem?_eq_some_iff.1 hb).1, hl]
    · rw [World.putObj_heap_other e1, h.block k (by rw [hs]; exact hk) hn (fun ⟨h2, h3⟩ => hc ⟨h2, by rw [World.putObj_heap_other e1] at h3; exact h3⟩), World.putObj_heap_other e1]
theorem ownFrom_keepT {β : Type} {rs : List Nat} {b e : Nat} {w₀ : World} {B : Nat} (hB : w₀.heap.size ≤ B) (hrs : ∀ r ∈ rs, r < w₀.heap.size) : OwnFrom B (fun (_ : β) W => KeepT rs b e w₀ W) :=
  fun _ A C row hs hg hr => ⟨hg.os.trans hs.os, hg.tape.trans hs.tape, hg.output.trans hs.output, Nat.le_trans hs.size hg.size, fun k hk hn hc => (hg.block k (Nat.lt_of_lt_of_le hk hs.size) (fun e => by have := (hr k e.symm).1; omega)).trans (hs.block k hk hn hc)⟩
theorem wp_seqT {α : Type} {n : Nat} {g : Operand} {ps : Array Tmp} {assign body : Code} {Q : Exit → Act → World → Prop} {a : Act} {w w0 : World} {gf : Nat} {lb : Array Value} {encs : α → Array Value} {rs : List Nat} {b e : Nat} {S : List α → Prop} {N : Nat}
    (h1 : 1 ≤ n) (hg : a.eval g = .func (.func gf) #[] lb) (eg : ∀ args W, (callFunc gf args).run Try.prog W = .ok (.enter gf args) W) (hseq : SeqAny (n - 1) gf lb encs (KeepT rs b e) S N w0) (hb0 : Below w0.heap.size w0 w) (hps : ∀ x, (encs x).size = ps.size)
    (hrs : ∀ r ∈ rs, r < w.heap.size)
    (I : List α → World → Prop) (hI : OwnFrom w.heap.size I) (h0 : I [] w) (Ax : α → Act → World → Prop) (hAx : ∀ x a', OwnFrom w.heap.size (fun (_ : Unit) W => Ax x a' W))
    (hassign : ∀ (l : Nat) (pre : List α) (x : α) (W : World) (K : Act → World → Prop), w.heap.size ≤ l → I pre W → (∀ a' W', KeepT rs b e W W' → I pre W' → Ax x a' W' → K a' W') → assign.wpIn (Fence.wide.inRound l) (n - 1 - 1) Try.prog (Exit.then K (fun _ _ _ => False)) { tmps := (ps.zip (encs x)).foldl (fun t (p, v) => t.setIfInBounds p v) a.tmps, defers := [] } W)
    (hbody : ∀ (l : Nat) (pre : List α) (x : α) (a' : Act) (W : World), w.heap.size ≤ l → I pre W → Ax x a' W → pre.length < N →
      body.wpIn (Fence.wide.inRound l) (n - 1 - 1) Try.prog (Exit.then (fun _ Y => KeepT rs b e W Y ∧ I (pre ++ [x]) Y) (fun _ _ _ => False)) a' W)
    (hdone : ∀ (D : Nat) (xs : List α) (W : World), w.heap.size ≤ D → S xs → I xs W → W.heap[D]? = some (.deferred (some [])) → Q .normal { a with defers := { target := .collected D, args := #[] } :: a.defers } W) :
    (Code.rangeFunc g ps assign body).wpIn Fence.wide n Try.prog Q a w := by
  refine wpIn_rangeFunc fun fn hfn => ?_
  let R : LoopState → Loop := fun s => { state := s, pending := none, fn, tmps := a.tmps, params := ps, assign, body, defers := w.heap.size }
  have hE : Ext w ((w.alloc (.deferred (some []))).alloc (.loop (R .ready))) := ((Ext.refl w).alloc _).alloc _
  have hrec : ((w.alloc (.deferred (some []))).alloc (.loop (R .ready))).heap[w.heap.size + 1]? = some (.loop (R .ready)) := by
    have := heap_alloc_new (w.alloc (.deferred (some []))) (.loop (R .ready)); rwa [World.size_alloc] at this
  have hdef : ((w.alloc (.deferred (some []))).alloc (.loop (R .ready))).heap[w.heap.size]? = some (.deferred (some [])) :=
    (Below.heap_alloc _ _ _ (by simp)).trans (heap_alloc_new w _)
  have hI0 : I [] ((w.alloc (.deferred (some []))).alloc (.loop (R .ready))) := hI.alloc _ (hI.alloc _ h0)
  have hsz : ((w.alloc (.deferred (some []))).alloc (.loop (R .ready))).heap.size = w.heap.size + 2 := by simp
  have hrun : (Instr.enterLoop fn a.tmps ps assign body Fence.wide.round).run Try.prog w = .ok (w.heap.size + 1, [{ target := .collected w.heap.size, args := #[] }]) ((w.alloc (.deferred (some []))).alloc (.loop (R .ready))) := run_enterLoop_outer _ _ _ _ _
  generalize (w.alloc (.deferred (some []))).alloc (.loop (R .ready)) = W1 at hE hrec hdef hI0 hsz hrun
  refine ⟨w.heap.size + 1, _, W1, { target := .fn (.func gf) lb, args := #[.func (.yield (w.heap.size + 1)) #[] #[]] }, W1, gf, #[.func (.yield (w.heap.size + 1)) #[] #[]] ++ lb, W1, hrun, ?_, ?_, ?_, fun _ => h1, ?_⟩
  · simp only [resolve, hg]; simp [go_sem]
  · exact fun f' hf' => trivial
  · simp [invoke, go_sem, eg]
  have turn : ∀ {X Y : World} {row : Option Nat} {k : Nat} {o : Obj}, k < W1.heap.size → X.heap[k]? = some o → X.grownBy Y row → (∀ r, row = some r → W1.heap.size ≤ r ∧ ∃ o : Obj, X.heap[r]? = some o ∧ o.isCells = false) → Y.heap[k]? = some o :=
    fun hk hX hg' hr => (hg'.block _ (Array.getElem?_eq_some_iff.1 hX).1 (fun e => by have := (hr _ e.symm).1; omega)).trans hX
  have hl1 : w.heap.size + 1 ∉ rs := fun h => by have := hrs _ h; omega
  have hl0 : w.heap.size ∉ rs := fun h => by have := hrs _ h; omega
  refine (hseq (w.heap.size + 1) (fun pre X => I pre X ∧ X.heap[w.heap.size + 1]? = some (.loop (R .ready)) ∧ X.heap[w.heap.size]? = some (.deferred (some []))) W1 (hb0.trans (hE.mono hb0.size))
    (fun s X Y row hs hg' hr => ⟨hI s X Y row hs.1 hg' (fun r e => ⟨by have := (hr r e).1; omega, (hr r e).2⟩), turn (by omega) hs.2.1 hg' hr, turn (by omega) hs.2.2 hg' hr⟩) ?_ ⟨hI0, hrec, hdef⟩).mono ?_
  · rintro pre x X ⟨hi, hl, hd⟩ hlen
    refine ⟨_, _, _, _, run_yield hl (hps x), roundIn_of_wpIn hfn (hassign (w.heap.size + 1) pre x X _ (by omega) hi ?_)⟩
    intro a2 X2 hk2 hi2 hax2
    have hl2 := hk2.blkN hl1 hl rfl
    have hd2 := hk2.blkN hl0 hd rfl
    refine ⟨_, run_beginRound hl2 rfl, ?_⟩
    have hlX := (Array.getElem?_eq_some_iff.1 hl2).1
    have hb := hbody (w.heap.size + 1) pre x a2 _ (by omega) (hI.putObj (.loop { R .ready with state := .busy }) hi2 (by omega) hl2 rfl) ((hAx x a2).putObj (s := ()) _ hax2 (by omega) hl2 rfl) hlen
    refine wpIn_mono hb ?_
    rintro e a3 Y hY
    cases e <;> try exact hY.elim
    obtain ⟨hk, hi3⟩ := hY
    have hlY : Y.heap[w.heap.size + 1]? = some (.loop { R .ready with state := .busy }) := by
      exact hk.blkN hl1 (World.putObj_heap_same hlX) rfl
    have hdY : Y.heap[w.heap.size]? = some (.deferred (some [])) := by
      exact hk.blkN hl0 ((World.putObj_heap_other (by omega)).trans hd2) rfl
    exact ⟨_, _, run_endRound none hlY, rfl, ⟨hI.putObj _ hi3 (by omega) hlY rfl, World.putObj_heap_same (Array.getElem?_eq_some_iff.1 hlY).1, (World.putObj_heap_other (by omega)).trans hdY⟩, hk2.trans (KeepT.put hl1 hl2 rfl hk hlY)⟩
  · rintro e Y ⟨⟨v, rfl⟩, xs, hS, hi, hl, hd⟩
    exact ⟨_, _, run_endLoop hl (by simp [R]), hdone _ xs _ (Nat.le_refl _) hS (hI.putObj _ hi (by omega) hl rfl) ((World.putObj_heap_other (by omega)).trans hd)⟩
theorem wp_seqT1 {α : Type} {n : Nat} {g : Operand} {ps : Array Tmp} {assign body : Code} {Q : Exit → Act → World → Prop} {a : Act} {w w0 : World} {gf : Nat} {lb : Array Value} {encs : α → Array Value} {rs : List Nat} {b e : Nat} {S : List α → Prop} {N : Nat}
    (h1 : 1 ≤ n) (hg : a.eval g = .func (.func gf) #[] lb) (eg : ∀ args W, (callFunc gf args).run Try.prog W = .ok (.enter gf args) W) (hseq : SeqAny (n - 1) gf lb encs (KeepT rs b e) S N w0) (hb0 : Below w0.heap.size w0 w) (hps : ∀ x, (encs x).size = ps.size)
    (hrs : ∀ r ∈ rs, r < w.heap.size)
    (I : List α → World → Prop) (hI : OwnFrom w.heap.size I) (h0 : I [] w) (af : α → Act)
    (hassign : ∀ (l : Nat) (x : α) (W : World) (K : Act → World → Prop), K (af x) W → assign.wpIn (Fence.wide.inRound l) (n - 1 - 1) Try.prog (Exit.then K (fun _ _ _ => False)) { tmps := (ps.zip (encs x)).foldl (fun t (p, v) => t.setIfInBounds p v) a.tmps, defers := [] } W)
    (hbody : ∀ (l : Nat) (pre : List α) (x : α) (W : World), w.heap.size ≤ l → I pre W → pre.length < N →
      body.wpIn (Fence.wide.inRound l) (n - 1 - 1) Try.prog (Exit.then (fun _ Y => KeepT rs b e W Y ∧ I (pre ++ [x]) Y) (fun _ _ _ => False)) (af x) W)
    (hdone : ∀ (D : Nat) (xs : List α) (W : World), w.heap.size ≤ D → S xs → I xs W → W.heap[D]? = some (.deferred (some [])) → Q .normal { a with defers := { target := .collected D, args := #[] } :: a.defers } W) :
    (Code.rangeFunc g ps assign body).wpIn Fence.wide n Try.prog Q a w :=
  wp_seqT h1 hg eg hseq hb0 hps hrs I hI h0 (fun x a' _ => a' = af x) (fun _ _ _ _ _ _ hs _ _ => hs) (fun l pre x W K _ hI hK => hassign l x W K (hK _ _ (KeepT.refl _ _ _ _) hI rfl)) (fun l pre x a' W hl hI hA hlen => by subst hA; exact hbody l pre x W hl hI hlen) hdone
set_option maxRecDepth 100000 in
set_option maxHeartbeats 4000000 in
/-- The iterator logs: all logs. -/
theorem logs95T (f Bl N n cap : Nat) (a : Option Addr) (rs : List Nat) (b e : Nat) (w : World) (hf : 1 ≤ f) (hn : n ≤ N) (hn5 : n ≤ 5000) (hb : Boxed w Bl 57 (.slice a n cap)) :
    SeqAny f 95 #[.pointer (some ⟨Bl, 0, none⟩)] (encF (· < n)) (KeepT rs b e) (fun ys => vF ys = List.range n) N w := by
  intro l J W hW hJ hY h0
  have c1 := Boxed.cell (block_ext hW hb)
  have HY := Lib.hid hY; have HJ := Lib.hid hJ; have H0 := Lib.hid h0
  have hl3 : n ≤ 9223372036854775807 := by omega
  clear hY hJ h0 hb
  refine callsIn_of_wp Try.func95 rfl trivial ?_ rfl
  simp only [Try.ntmps95, List.size_toArray, List.length_cons, List.length_nil, Nat.reduceAdd, Nat.reduceSub, Array.replicate_succ, Array.replicate_zero, List.push_toArray, List.append_toArray, List.nil_append, List.cons_append]
  gi_wp2
  gi_loopw [7] (fun s wr => ∃ (pre : List (Sub (· < n))) (k : Nat), k ≤ n ∧ s = .int .i64 (k : Int) ∧ Hid (vF pre = List.range k) ∧ Hid (J pre wr))
    (fun s wr => n - (intOf s).toNat)
  case atStart => exact ⟨[], 0, Nat.zero_le _, by go_num, (by rfl : _ = _), H0.out⟩
  case round =>
    obtain ⟨pre, k, hk, rfl, hpv, hJw⟩ := hrel
    by_cases hlt : k < n
    · have hpl : pre.length < N := by
        have h1 := vF_len pre
        rw [hpv.out, List.length_range] at h1; omega
      obtain ⟨fn, tmps, assign, body, hy1, hR1⟩ := HY.out pre ⟨k, hlt⟩ wr hJw.out hpl
      have HR1 := Lib.hid hR1; clear hR1
      dsimp only [encF] at hy1
      have hka : (0 : Int) ≤ (k : Int) := by omega
      have hkb : (k : Int) < (n : Int) := by omega
      gi_wp2
      refine HR1.out.mono ?_
      rintro e W2 ⟨rfl, hJ2, hk2⟩
      have HJ2 := Lib.hid hJ2
      clear hJ2 hk2 HR1
      gi_wp2
      go_roundw
      case rel => exact ⟨pre ++ [(⟨k, hlt⟩ : Sub (· < n))], k + 1, by omega, by go_num, (by rw [vF_snoc, hpv.out, List.range_succ] : _ = _), HJ2.out⟩
      case measure => simp [intOf]; omega
    · obtain rfl : k = n := by omega
      gi_wp2
      go_end0
      exact ⟨⟨_, rfl⟩, pre, hpv.out, hJw.out⟩
set_option maxRecDepth 100000 in
set_option maxHeartbeats 4000000 in
/-- The iterator only: those that are meant. -/
theorem only94T (f Ba Bm N ga mf b e : Nat) (he : e ≠ 96) (q : Nat → Prop) (ca : Array Value) (p1 p2 : Addr) (rs : List Nat) (p : Nat → Bool) (L : List Nat) (w : World) (hf : 2 ≤ f) (hba : Boxed w Ba 93 (.func (.func ga) #[] ca)) (hbm : Boxed w Bm 96 (.func (.func mf) #[] #[.pointer (some p1), .pointer (some p2)]))
    (ega : ∀ args W, (callFunc ga args).run Try.prog W = .ok (.enter ga args) W) (egm : ∀ args W, (callFunc mf args).run Try.prog W = .ok (.enter mf args) W)
    (hrs : ∀ r ∈ rs, r < w.heap.size) (hna : Ba ∉ rs) (hnm : Bm ∉ rs)
    (hseq : SeqAny (f - 1) ga ca (encF q) (KeepT rs b e) (fun ys => vF ys = L) N w)
    (hm : ∀ (X : World) (x : Sub q), KeepT rs b e w X → Calls Try.prog mf #[.int .i64 (x.val : Int), .pointer (some p1), .pointer (some p2)] X fun e w' => e = .returned (.bool (p x.val)) ∧ Ext X w') :
    SeqAny f 94 #[.pointer (some ⟨Ba, 0, none⟩), .pointer (some ⟨Bm, 0, none⟩)] (encF fun k => q k ∧ p k = true) (KeepT rs b e) (fun ys => vF ys = L.filter p) N w := by
  intro l J W hW hJ hY h0
  have HY := Lib.hid hY; have HJ := Lib.hid hJ; have H0 := Lib.hid h0; have HRS := Lib.hid hrs; have HM := Lib.hid hm; have HSEQ := Lib.hid hseq; have HBM := Lib.hid hbm; have HNM := Lib.hid hnm
  have c1 := Boxed.cell (block_ext hW hba)
  have l1 := hba.lt; have l2 := hbm.lt; have l3 := hW.size
  clear hY hJ h0 hba hbm hrs hm hseq hna hnm
  refine callsIn_of_wp_marks Try.func94 rfl trivial ?_ rfl
  simp only [Try.ntmps94, List.size_toArray, List.length_cons, List.length_nil, Nat.reduceAdd, Nat.reduceSub, Array.replicate_succ, Array.replicate_zero, List.push_toArray, List.append_toArray, List.nil_append, List.cons_append]
  have hE1 : Ext W (W.alloc (.cells #[.func (.yield l) #[] #[]] 96)) := (Ext.refl W).alloc _
  have hy1 : Boxed (W.alloc (.cells #[.func (.yield l) #[] #[]] 96)) W.heap.size 96 (.func (.yield l) #[] #[]) := Boxed.new W 96 _
  have hz1 : (W.alloc (.cells #[.func (.yield l) #[] #[]] 96)).heap.size = W.heap.size + 1 := by simp
  have c1 := cell_ext hE1 c1
  gi_wp2
  generalize hW1 : W.alloc (.cells #[.func (.yield l) #[] #[]] 96) = W1 at *
  clear hW1
  refine wp_seqT (by omega) (gf := ga) (lb := ca) (encs := encF q) (ps := #[6]) (rs := rs) (b := b) (e := e) rfl ega HSEQ.out (Below.trans hW (hE1.mono hW.size)) (fun _ => rfl) (fun r hr => by have := HRS.out r hr; omega)
    (fun pre X => J (filtF p pre) X ∧ KeepT rs b e W1 X) ?hI ⟨abides HJ.out H0.out hE1, KeepT.refl _ _ _ _⟩
    (fun x a' X => a' = { tmps := #[.func (.yield l) #[] #[], .pointer (some ⟨Ba, 0, none⟩), .pointer (some ⟨Bm, 0, none⟩), .pointer (some ⟨W.heap.size, 0, none⟩), .int .i64 (x.val : Int), .func (.func ga) #[] ca, .int .i64 (x.val : Int), undef, undef, undef, undef, undef, undef, undef, undef, undef], defers := [] })
    (fun x a' s A B row hs hg hr => hs) ?assign ?body ?done
  case hI => exact OwnFrom.and (fun s A B row hs hg hr => HJ.out _ A B row hs hg (fun r e => ⟨by have := (hr r e).1; omega, (hr r e).2⟩)) (ownFrom_keepT (Nat.le_refl _) (fun r hr => by have := HRS.out r hr; omega))
  case assign =>
    rintro l' pre x X K hl' hI hK
    dsimp only [encF]
    gi_wp2
    exact hK _ _ (KeepT.refl _ _ _ _) hI rfl
  case body =>
    rintro l' pre x A X hl' ⟨hJX, hKX⟩ rfl hlt2
    have nb : W.heap.size ∉ rs := fun h => by have := HRS.out _ h; omega
    have cm := (hKX.boxed HNM.out (block_ext hE1 (block_ext hW HBM.out)) (fun h => he h.symm)).cell
    have cy := (hKX.boxed nb hy1 (fun h => he h.symm)).cell
    have hk0 : KeepT rs b e w X := (KeepT.ext (hW.trans (hE1.mono hW.size))).trans hKX
    have hM := HM.out X x hk0
    have HKX := Lib.hid hKX; have HJX := Lib.hid hJX
    have hlen : (filtF p pre).length < N := Nat.lt_of_le_of_lt (filtF_len p pre) hlt2
    obtain ⟨pv, hpv⟩ : ∃ pv, pv = p x.val := ⟨_, rfl⟩
    rw [← hpv] at hM
    have HMM := Lib.hid hM; have HPV := Lib.hid hpv
    have HY1 := Lib.hid hy1
    have CY := Lib.hid (fun (Y : World) (h : Ext X Y) => cell_ext h cy)
    clear hKX hJX hk0 hM hpv hy1 c1
    try dsimp only
    cases pv
    · gi_wp2_with fail
      refine ⟨trivial, fun h => (by cases h), ?_⟩
      refine (CallsIn.inRound l' (callsIn_wide.2 HMM.out)).mono ?_
      rintro e w' ⟨rfl, hb⟩
      have HB := Lib.hid hb; clear hb
      gi_wp2
      refine ⟨fun f' h => (by cases h), ?_⟩
      gi_wp2
      refine ⟨KeepT.ext HB.out, ?_, HKX.out.trans (KeepT.ext HB.out)⟩
      rw [filtF_no p pre x (by rw [← HPV.out])]
      exact HJ.out _ _ _ none HJX.out ⟨HB.out.os, HB.out.tape, HB.out.output, HB.out.size, fun i hi _ => HB.out.block i hi⟩ (fun r e => by cases e)
    · gi_wp2_with fail
      refine ⟨trivial, fun h => (by cases h), ?_⟩
      refine (CallsIn.inRound l' (callsIn_wide.2 HMM.out)).mono ?_
      rintro e w' ⟨rfl, hb⟩
      have cy' := CY.out w' hb
      have hJ' : J (filtF p pre) w' := HJ.out _ _ _ none HJX.out ⟨hb.os, hb.tape, hb.output, hb.size, fun i hi _ => hb.block i hi⟩ (fun r e => by cases e)
      obtain ⟨fn, tmps, assign, body, hyy, hR⟩ := HY.out (filtF p pre) ⟨x.val, x.2, HPV.out.symm⟩ w' hJ' hlen
      have HR := Lib.hid (RoundIn.any (m' := f - 1 - 1 - 1) (l0 := l') hR)
      have HB := Lib.hid hb
      clear hb hR hJ'
      dsimp only [encF] at hyy
      gi_wp2_with fail
      refine ⟨fun h => (by cases h), ?_⟩
      refine HR.out.mono ?_
      rintro e W5 ⟨rfl, hJ5, hK5⟩
      have HJ5 := Lib.hid hJ5; have HK5 := Lib.hid ((KeepT.ext HB.out).trans hK5)
      clear hJ5 hK5 HR
      gi_wp2
      refine ⟨HK5.out, ?_, HKX.out.trans HK5.out⟩
      rw [filtF_yes p pre x HPV.out.symm]
      exact HJ5.out
  case done =>
    rintro D ys X hD hS ⟨hJX, hKX⟩ hDW
    have hJ2 : J (filtF p ys) (X.putObj D (.deferred none)) := HJ.out.putObj _ hJX (by omega) hDW rfl
    have hS2 : vF (filtF p ys) = L.filter p := by rw [filtF_vals, hS]
    have HJ2 := Lib.hid hJ2; have HS2 := Lib.hid hS2; have HDW := Lib.hid hDW
    clear hJ2 hS2 hDW hJX hKX hS
    gi_wp2
    refine ⟨by simp, .inl ⟨_, _, rfl, run_takeDeferred HDW.out, ?_⟩⟩
    exact ⟨_, results_none rfl _ _ _, ⟨_, rfl⟩, _, HS2.out, HJ2.out⟩
set_option maxRecDepth 100000 in
set_option maxHeartbeats 4000000 in
/-- The iterator only: those that are meant. -/
theorem only94mT (f Ba Bm N ga mf b e : Nat) (he : e ≠ 96) (q : Nat → Prop) (ca : Array Value) (p1 : Addr) (rs : List Nat) (p : Nat → Bool) (L : List Nat) (w : World) (hf : 2 ≤ f) (hba : Boxed w Ba 93 (.func (.func ga) #[] ca)) (hbm : Boxed w Bm 96 (.func (.func mf) #[.pointer (some p1)] #[]))
    (ega : ∀ args W, (callFunc ga args).run Try.prog W = .ok (.enter ga args) W) (egm : ∀ args W, (callFunc mf args).run Try.prog W = .ok (.enter mf args) W)
    (hrs : ∀ r ∈ rs, r < w.heap.size) (hna : Ba ∉ rs) (hnm : Bm ∉ rs)
    (hseq : SeqAny (f - 1) ga ca (encF q) (KeepT rs b e) (fun ys => vF ys = L) N w)
    (hm : ∀ (X : World) (x : Sub q), KeepT rs b e w X → Calls Try.prog mf #[.pointer (some p1), .int .i64 (x.val : Int)] X fun e w' => e = .returned (.bool (p x.val)) ∧ Ext X w') :
    SeqAny f 94 #[.pointer (some ⟨Ba, 0, none⟩), .pointer (some ⟨Bm, 0, none⟩)] (encF fun k => q k ∧ p k = true) (KeepT rs b e) (fun ys => vF ys = L.filter p) N w := by
  intro l J W hW hJ hY h0
  have HY := Lib.hid hY; have HJ := Lib.hid hJ; have H0 := Lib.hid h0; have HRS := Lib.hid hrs; have HM := Lib.hid hm; have HSEQ := Lib.hid hseq; have HBM := Lib.hid hbm; have HNM := Lib.hid hnm
  have c1 := Boxed.cell (block_ext hW hba)
  have l1 := hba.lt; have l2 := hbm.lt; have l3 := hW.size
  clear hY hJ h0 hba hbm hrs hm hseq hna hnm
  refine callsIn_of_wp_marks Try.func94 rfl trivial ?_ rfl
  simp only [Try.ntmps94, List.size_toArray, List.length_cons, List.length_nil, Nat.reduceAdd, Nat.reduceSub, Array.replicate_succ, Array.replicate_zero, List.push_toArray, List.append_toArray, List.nil_append, List.cons_append]
  have hE1 : Ext W (W.alloc (.cells #[.func (.yield l) #[] #[]] 96)) := (Ext.refl W).alloc _
  have hy1 : Boxed (W.alloc (.cells #[.func (.yield l) #[] #[]] 96)) W.heap.size 96 (.func (.yield l) #[] #[]) := Boxed.new W 96 _
  have hz1 : (W.alloc (.cells #[.func (.yield l) #[] #[]] 96)).heap.size = W.heap.size + 1 := by simp
  have c1 := cell_ext hE1 c1
  gi_wp2
  generalize hW1 : W.alloc (.cells #[.func (.yield l) #[] #[]] 96) = W1 at *
  clear hW1
  refine wp_seqT (by omega) (gf := ga) (lb := ca) (encs := encF q) (ps := #[6]) (rs := rs) (b := b) (e := e) rfl ega HSEQ.out (Below.trans hW (hE1.mono hW.size)) (fun _ => rfl) (fun r hr => by have := HRS.out r hr; omega)
    (fun pre X => J (filtF p pre) X ∧ KeepT rs b e W1 X) ?hI ⟨abides HJ.out H0.out hE1, KeepT.refl _ _ _ _⟩
    (fun x a' X => a' = { tmps := #[.func (.yield l) #[] #[], .pointer (some ⟨Ba, 0, none⟩), .pointer (some ⟨Bm, 0, none⟩), .pointer (some ⟨W.heap.size, 0, none⟩), .int .i64 (x.val : Int), .func (.func ga) #[] ca, .int .i64 (x.val : Int), undef, undef, undef, undef, undef, undef, undef, undef, undef], defers := [] })
    (fun x a' s A B row hs hg hr => hs) ?assign ?body ?done
  case hI => exact OwnFrom.and (fun s A B row hs hg hr => HJ.out _ A B row hs hg (fun r e => ⟨by have := (hr r e).1; omega, (hr r e).2⟩)) (ownFrom_keepT (Nat.le_refl _) (fun r hr => by have := HRS.out r hr; omega))
  case assign =>
    rintro l' pre x X K hl' hI hK
    dsimp only [encF]
    gi_wp2
    exact hK _ _ (KeepT.refl _ _ _ _) hI rfl
  case body =>
    rintro l' pre x A X hl' ⟨hJX, hKX⟩ rfl hlt2
    have nb : W.heap.size ∉ rs := fun h => by have := HRS.out _ h; omega
    have cm := (hKX.boxed HNM.out (block_ext hE1 (block_ext hW HBM.out)) (fun h => he h.symm)).cell
    have cy := (hKX.boxed nb hy1 (fun h => he h.symm)).cell
    have hk0 : KeepT rs b e w X := (KeepT.ext (hW.trans (hE1.mono hW.size))).trans hKX
    have hM := HM.out X x hk0
    have HKX := Lib.hid hKX; have HJX := Lib.hid hJX
    have hlen : (filtF p pre).length < N := Nat.lt_of_le_of_lt (filtF_len p pre) hlt2
    obtain ⟨pv, hpv⟩ : ∃ pv, pv = p x.val := ⟨_, rfl⟩
    rw [← hpv] at hM
    have HMM := Lib.hid hM; have HPV := Lib.hid hpv
    have HY1 := Lib.hid hy1
    have CY := Lib.hid (fun (Y : World) (h : Ext X Y) => cell_ext h cy)
    clear hKX hJX hk0 hM hpv hy1 c1
    try dsimp only
    cases pv
    · gi_wp2_with fail
      refine ⟨trivial, fun h => (by cases h), ?_⟩
      refine (CallsIn.inRound l' (callsIn_wide.2 HMM.out)).mono ?_
      rintro e w' ⟨rfl, hb⟩
      have HB := Lib.hid hb; clear hb
      gi_wp2
      refine ⟨fun f' h => (by cases h), ?_⟩
      gi_wp2
      refine ⟨KeepT.ext HB.out, ?_, HKX.out.trans (KeepT.ext HB.out)⟩
      rw [filtF_no p pre x (by rw [← HPV.out])]
      exact HJ.out _ _ _ none HJX.out ⟨HB.out.os, HB.out.tape, HB.out.output, HB.out.size, fun i hi _ => HB.out.block i hi⟩ (fun r e => by cases e)
    · gi_wp2_with fail
      refine ⟨trivial, fun h => (by cases h), ?_⟩
      refine (CallsIn.inRound l' (callsIn_wide.2 HMM.out)).mono ?_
      rintro e w' ⟨rfl, hb⟩
      have cy' := CY.out w' hb
      have hJ' : J (filtF p pre) w' := HJ.out _ _ _ none HJX.out ⟨hb.os, hb.tape, hb.output, hb.size, fun i hi _ => hb.block i hi⟩ (fun r e => by cases e)
      obtain ⟨fn, tmps, assign, body, hyy, hR⟩ := HY.out (filtF p pre) ⟨x.val, x.2, HPV.out.symm⟩ w' hJ' hlen
      have HR := Lib.hid (RoundIn.any (m' := f - 1 - 1 - 1) (l0 := l') hR)
      have HB := Lib.hid hb
      clear hb hR hJ'
      dsimp only [encF] at hyy
      gi_wp2_with fail
      refine ⟨fun h => (by cases h), ?_⟩
      refine HR.out.mono ?_
      rintro e W5 ⟨rfl, hJ5, hK5⟩
      have HJ5 := Lib.hid hJ5; have HK5 := Lib.hid ((KeepT.ext HB.out).trans hK5)
      clear hJ5 hK5 HR
      gi_wp2
      refine ⟨HK5.out, ?_, HKX.out.trans HK5.out⟩
      rw [filtF_yes p pre x HPV.out.symm]
      exact HJ5.out
  case done =>
    rintro D ys X hD hS ⟨hJX, hKX⟩ hDW
    have hJ2 : J (filtF p ys) (X.putObj D (.deferred none)) := HJ.out.putObj _ hJX (by omega) hDW rfl
    have hS2 : vF (filtF p ys) = L.filter p := by rw [filtF_vals, hS]
    have HJ2 := Lib.hid hJ2; have HS2 := Lib.hid hS2; have HDW := Lib.hid hDW
    clear hJ2 hS2 hDW hJX hKX hS
    gi_wp2
    refine ⟨by simp, .inl ⟨_, _, rfl, run_takeDeferred HDW.out, ?_⟩⟩
    exact ⟨_, results_none rfl _ _ _, ⟨_, rfl⟩, _, HS2.out, HJ2.out⟩
end Go.Proofs.Ytclcippfodjfeaa
namespace Go.Proofs.Ytclcippfodjfeaa
open Go.RowKit Go.Shelf
set_option linter.unusedVariables false
set_option linter.unusedSimpArgs false
attribute [local go_sem] Oper.semAt_some
theorem KeepT.set {rs : List Nat} {b e : Nat} (A : World) {g o : Nat} (hg : g ∈ rs) (v : Value) : KeepT rs b e A (A.setCell ⟨g, o, none⟩ v) := by
  have h := grown_set A g o v
  exact ⟨h.os, h.tape, h.output, h.size, fun k hk hn _ => h.block k hk (fun e => hn (by cases e; exact hg))⟩
theorem own_from {e B n z : Nat} {w : World} {v : Value} {xs : List Value} (h : w.ownsRow B e z v n xs) : ∀ g, v.ownBlock = some g → B ≤ g := by
  intro g hg
  rcases h.2 with ⟨rfl, -⟩ | ⟨gv, capv, cur, rfl, hgB, hv, -⟩
  · cases hg
  · have : gv = g := by simpa [Value.ownBlock] using hg
    omega
theorem KeepT.own {rs : List Nat} {B e : Nat} {A C : World} {v : Value} {n z : Nat} {xs : List Value} (h : A.ownsRow B e z v n xs) (hg : A.grownBy C v.ownBlock) (hb : ∀ g, v.ownBlock = some g → B ≤ g) : KeepT rs B e A C :=
  ⟨hg.os, hg.tape, hg.output, hg.size, fun k hk _ hc => hg.block k hk (fun e2 => by
    obtain ⟨c, h2⟩ := own_blk h e2.symm
    exact hc ⟨hb k e2.symm, c, _, h2⟩)⟩
theorem own_shape {e B n z : Nat} {w : World} {v : Value} {xs : List Value} (h : w.ownsRow B e z v n xs) : ∃ a cap, v = .slice a n cap := by
  obtain ⟨_, ⟨rfl, h0⟩ | ⟨g, cap, cur, rfl, hb, hh, hn, hc, hs, ht⟩⟩ := h
  · exact ⟨none, 0, by rw [h0]⟩
  · exact ⟨_, cap, rfl⟩
theorem OwnI.weakB {e : TypeId} {B C : Nat} {w : World} {v : Value} {xs : List Int} (h : OwnI e B w v xs) (hb : C ≤ B) : OwnI e C w v xs := by
  obtain ⟨q1, q2⟩ := h
  refine ⟨q1, q2.imp id ?_⟩
  rintro ⟨g, cap, cur, rfl, hgb, r⟩
  exact ⟨g, cap, cur, rfl, Nat.le_trans hb hgb, r⟩
theorem OwnI.putNot {e : TypeId} {B D : Nat} {w : World} {o o' : Obj} {v : Value} {xs : List Int} (h : OwnI e B w v xs) (hd : w.heap[D]? = some o) (ho : o.isCells = false) : OwnI e B (w.putObj D o') v xs := by
  obtain ⟨q1, q2⟩ := h
  refine ⟨q1, q2.imp id ?_⟩
  rintro ⟨g, cap, cur, rfl, hgb, hh, r⟩
  refine ⟨g, cap, cur, rfl, hgb, ?_, r⟩
  rw [World.putObj_heap_other (by rintro rfl; rw [hh] at hd; cases hd; cases ho)]
  exact hh
theorem KeepT.below {rs : List Nat} {e : Nat} {w A B : World} (hE : Ext w A) (h : KeepT rs A.heap.size e A B) (hrs : ∀ r ∈ rs, w.heap.size ≤ r) : Ext w B :=
  ⟨h.os.trans hE.os, h.tape.trans hE.tape, h.output.trans hE.output, Nat.le_trans hE.size h.size, fun k hk => (h.block k (Nat.lt_of_lt_of_le hk hE.size) (fun hm => by have := hrs k hm; omega) (fun ⟨h2, _⟩ => by have := hE.size; omega)).trans (hE.block k hk)⟩
set_option maxRecDepth 100000 in
set_option maxHeartbeats 4000000 in
theorem appendSeq93 (w : World) (ga N : Nat) (ca : Array Value) (q : Nat → Prop) (L : List Nat) (hN : N ≤ 4000) (hL : L.length ≤ N)
    (ega : ∀ args W, (callFunc ga args).run Try.prog W = .ok (.enter ga args) W)
    (hseq : ∀ W, Ext w W → w.heap.size + 1 = W.heap.size → SeqAny 11 ga ca (encF q) (KeepT [w.heap.size] W.heap.size 3) (fun ys => vF ys = L) N W) :
    Calls Try.prog 93 #[.slice none 0 0, .func (.func ga) #[] ca] w fun e w' => ∃ u, e = .returned u ∧ OwnI 3 w.heap.size w' u (natI L) ∧ Ext w w' := by
  refine (callsIn_wide (n := 12)).1 ?_
  obtain ⟨w1, hw1⟩ : ∃ w1, w1 = w.alloc (.cells #[.slice none 0 0] 23) := ⟨_, rfl⟩
  have hE1 : Ext w w1 := by rw [hw1]; exact (Ext.refl w).alloc _
  have hb1 : Boxed w1 w.heap.size 23 (.slice none 0 0) := by rw [hw1]; exact Boxed.new w 23 _
  have hz1 : w1.heap.size = w.heap.size + 1 := by rw [hw1]; simp
  have HSEQ := Lib.hid (hseq w1 hE1 hz1.symm)
  have HE1 := Lib.hid hE1; have HB1 := Lib.hid hb1; have HZ1 := Lib.hid hz1
  obtain ⟨i0, hi0, hz0, hzz, hz2⟩ := info_parts Try.info3
  have HI0 := Lib.hid hi0; have HI1 := Lib.hid hz0; have HI2 := Lib.hid hzz; have HI3 := Lib.hid hz2
  clear hseq hE1 hb1 hz1 hi0 hz0 hzz hz2
  refine callsIn_of_wp_marks Try.func93 rfl trivial ?_ rfl
  simp only [Try.ntmps93, List.size_toArray, List.length_cons, List.length_nil, Nat.reduceAdd, Nat.reduceSub, Array.replicate_succ, Array.replicate_zero, List.push_toArray, List.append_toArray, List.nil_append, List.cons_append]
  gi_wp2
  rw [← hw1]
  clear hw1
  refine wp_seqT1 (n := 12) (by omega) (gf := ga) (encs := encF q) (ps := #[7]) (rs := [w.heap.size]) (b := w1.heap.size) (e := 3) rfl ega HSEQ.out (Below.refl _ _) (fun _ => rfl) (by have := HZ1.out; simp; omega)
    (fun pre X => ∃ u, X.heap[w.heap.size]? = some (.cells #[u] 23 (0, 0)) ∧ OwnI 3 w1.heap.size X u (natI (vF pre)) ∧ KeepT [w.heap.size] w1.heap.size 3 w1 X) ?hI ?h0 ?af ?assign ?body ?done
  case hI =>
    rintro s A B row ⟨u, h1, h2, h3⟩ hg hr
    refine ⟨u, cells_turn h1 hg hr, ?_, ownFrom_keepT (β := Unit) (Nat.le_refl _) (by have := HZ1.out; simp; omega) () A B row h3 hg hr⟩
    obtain ⟨q1, q2⟩ := h2
    refine ⟨q1, q2.imp id ?_⟩
    rintro ⟨g, cap, cur, rfl, hgb, hh, r⟩
    exact ⟨g, cap, cur, rfl, hgb, cells_turn hh hg hr, r⟩
  case h0 => exact ⟨_, HB1.out, OwnI.nil _ _ _, KeepT.refl _ _ _ _⟩
  case assign =>
    rintro l2 x X K hK
    dsimp only [encF]
    gi_wp2
    exact hK
  case body =>
    rintro l2 pre x X hl2 ⟨u, h1, h2, h3⟩ hlt3
    obtain ⟨x, hx⟩ := x
    repeat (rename_i q; clear q)
    have hvs : natI (vF (pre ++ [⟨x, hx⟩])) = natI (vF pre) ++ [(x : Int)] := by rw [vF_snoc]; simp [natI]
    have hpl : (natI (vF pre)).length ≤ 4000 := by rw [natI_len, vF_len]; omega
    obtain ⟨xs, hxs⟩ : ∃ xs, xs = natI (vF pre) := ⟨_, rfl⟩
    rw [← hxs] at h2 hvs hpl
    have cu := cell_of_blk h1 (o := 0) rfl
    obtain ⟨au, capu, rfl, hcu⟩ := h2.shape
    have hEa : Ext X (X.alloc (.cells #[.int .i64 (x : Int)] 3)) := (Ext.refl X).alloc _
    have HOA := Lib.hid (h2.ext hEa)
    have hBA : (X.alloc (.cells #[.int .i64 (x : Int)] 3)).heap[w.heap.size]? = some (.cells #[.slice au xs.length capu] 23 (0, 0)) := block_ext hEa h1
    have HBA := Lib.hid hBA
    have HNB := Lib.hid (own_from HOA.out)
    have HB := Lib.hid h1; have HK := Lib.hid h3; have HVS := Lib.hid hvs; have HEA := Lib.hid hEa
    have hsz := h3.size
    obtain ⟨lx, hlx⟩ : ∃ lx, lx = xs.length := ⟨_, rfl⟩
    have HLX := Lib.hid hlx
    rw [← hlx] at cu hcu hpl HOA HB HBA HNB
    have hlx2 : lx ≤ 9223372036854775807 := by omega
    clear h1 h2 h3 hvs hxs hEa hlx hBA
    gi_wp2_with (gi_at_builtin; refine wpListIn_append_own _ rfl _ _ 23 rfl w1.heap.size 3 i0 (.int .i64 0) 1 8 Try.underlying23 HI0.out HI1.out HI2.out HI3.out rfl (by decide) (.slice au lx capu) xs.length (xs.map (Value.int .i64)) rfl HOA.out ⟨X.heap.size, 0, none⟩ 1 1 [.int .i64 (x : Int)] rfl rfl (fun j u hj => by
      match j, hj with
      | 0, hj => simp at hj; subst hj; rw [addr_add, World.cell?_alloc_at _ _ _ _ rfl]; rfl) (fun u hu => by simp at hu; subst hu; rfl) (by unfold maxLen; have := HLX.out; omega) (by have := HLX.out; omega) (by simp; omega) ?_; intro v7 w7 r1 r2 _; obtain ⟨a7, cap7, rfl⟩ := own_shape r1; have b7 := (r2.block w.heap.size (lt_of_blk HBA.out) (fun e => by have := HNB.out _ e.symm; have := HZ1.out; omega)).trans HBA.out; have c7 := cell_of_blk b7 (o := 0) rfl; have f7 := frozen_of_blk b7 0)
    have hkA : KeepT [w.heap.size] w1.heap.size 3 (X.alloc (.cells #[.int .i64 (x : Int)] 3)) w7 := KeepT.own (show World.ownsRow _ _ _ _ _ _ _ from HOA.out) r2 HNB.out
    have hkS : KeepT [w.heap.size] w1.heap.size 3 w7 (w7.setCell ⟨w.heap.size, 0, none⟩ (.slice a7 (xs.length + 1) cap7)) := KeepT.set w7 (by simp) _
    have hkX := ((KeepT.ext HEA.out).trans hkA).trans hkS
    refine ⟨hkX, _, boxed_set b7 _, ?_, HK.out.trans hkX⟩
    rw [HVS.out]
    refine OwnI.grown (b := w.heap.size) ?_ (grown_set _ _ _ _) (by have := HZ1.out; omega)
    unfold OwnI
    simpa using r1
  case done =>
    rintro D ys X hD hS ⟨u, h1, h2, h3⟩ hDW
    have hEX : Ext w X := KeepT.below HE1.out h3 (by simp)
    have cf := cell_of_blk h1 (o := 0) rfl
    have HF := Lib.hid (show OwnI 3 w1.heap.size X u (natI L) from by rw [← hS]; exact h2)
    have HEX := Lib.hid hEX; have HDW := Lib.hid hDW
    have hlD : w1.heap.size ≤ D := hD
    have HZ := HZ1.out
    clear h1 h2 h3 hEX hDW hS
    gi_wp2
    refine ⟨by simp, .inl ⟨_, _, rfl, run_takeDeferred HDW.out, ?_⟩⟩
    refine ⟨u, by simp [results, Try.results93, go_sem], u, rfl, ?_, ?_⟩
    · exact (HF.out.weakB (by omega)).putNot HDW.out rfl
    · have h := HEX.out
      exact ⟨h.os, h.tape, h.output, by have := h.size; simpa [World.putObj] using this, fun k hk => by rw [World.putObj_heap_other (by omega)]; exact h.block k hk⟩
set_option maxRecDepth 100000 in
set_option maxHeartbeats 4000000 in
theorem collect80 (w : World) (ga N : Nat) (ca : Array Value) (q : Nat → Prop) (L : List Nat) (hN : N ≤ 4000) (hL : L.length ≤ N)
    (ega : ∀ args W, (callFunc ga args).run Try.prog W = .ok (.enter ga args) W)
    (hseq : ∀ W, Ext w W → w.heap.size + 1 = W.heap.size → SeqAny 11 ga ca (encF q) (KeepT [w.heap.size] W.heap.size 3) (fun ys => vF ys = L) N W) :
    Calls Try.prog 80 #[.func (.func ga) #[] ca] w fun e w' => ∃ u, e = .returned u ∧ OwnI 3 w.heap.size w' u (natI L) ∧ Ext w w' := by
  have hc := appendSeq93 w ga N ca q L hN hL ega hseq
  have HC := Lib.hid hc
  clear hc hseq
  go_enter Try.func80, Try.ntmps80
  go_wp2_with fail
  refine (HC.out).mono ?_
  rintro e w' ⟨u, rfl, h1, h2⟩
  have H1 := Lib.hid h1; have H2 := Lib.hid h2
  clear h1 h2
  go_wp2
  go_ret
  exact ⟨u, rfl, H1.out, H2.out⟩
end Go.Proofs.Ytclcippfodjfeaa
namespace Go.Proofs.Ytclcippfodjfeaa
open Go.RowKit Go.Shelf
set_option linter.unusedVariables false
set_option linter.unusedSimpArgs false
theorem collect_only (w : World) (Bl Ba Bm n cap mf : Nat) (a : Option Addr) (p1 p2 : Addr) (p : Nat → Bool) (hn : n ≤ 4000) (hbl : Boxed w Bl 57 (.slice a n cap)) (hba : Boxed w Ba 93 (.func (.func 95) #[] #[.pointer (some ⟨Bl, 0, none⟩)]))
    (hbm : Boxed w Bm 96 (.func (.func mf) #[] #[.pointer (some p1), .pointer (some p2)])) (egm : ∀ args W, (callFunc mf args).run Try.prog W = .ok (.enter mf args) W)
    (hm : ∀ (X : World) (x : Nat), x < n → Ext w X → Calls Try.prog mf #[.int .i64 (x : Int), .pointer (some p1), .pointer (some p2)] X fun e w' => e = .returned (.bool (p x)) ∧ Ext X w') :
    Calls Try.prog 80 #[.func (.func 94) #[] #[.pointer (some ⟨Ba, 0, none⟩), .pointer (some ⟨Bm, 0, none⟩)]] w fun e w' => ∃ u, e = .returned u ∧ OwnI 3 w.heap.size w' u (natI ((List.range n).filter p)) ∧ Ext w w' := by
  have la := lt_of_blk (show w.heap[Ba]? = _ from hba); have lm := lt_of_blk (show w.heap[Bm]? = _ from hbm)
  refine collect80 w 94 n _ (fun k => k < n ∧ p k = true) _ hn (Nat.le_trans (List.length_filter_le _ _) (by simp)) (fun _ _ => rfl) fun W hW hz => ?_
  have hrs : ∀ r ∈ [w.heap.size], r < W.heap.size := by simp; omega
  refine only94T 11 Ba Bm n 95 mf W.heap.size 3 (by decide) (· < n) _ p1 p2 _ p _ W (by omega) (block_ext hW hba) (block_ext hW hbm) (fun _ _ => rfl) egm hrs (by simp; omega) (by simp; omega) (logs95T 10 Bl n n cap a _ _ _ W (by omega) (Nat.le_refl _) (by omega) (block_ext hW hbl)) ?_
  exact fun X x hk => hm X x.val x.property (KeepT.below hW hk (by simp))
theorem collect_onlym (w : World) (Bl Ba Bm n cap mf : Nat) (a : Option Addr) (p1 : Addr) (p : Nat → Bool) (hn : n ≤ 4000) (hbl : Boxed w Bl 57 (.slice a n cap)) (hba : Boxed w Ba 93 (.func (.func 95) #[] #[.pointer (some ⟨Bl, 0, none⟩)]))
    (hbm : Boxed w Bm 96 (.func (.func mf) #[.pointer (some p1)] #[])) (egm : ∀ args W, (callFunc mf args).run Try.prog W = .ok (.enter mf args) W)
    (hm : ∀ (X : World) (x : Nat), x < n → Ext w X → Calls Try.prog mf #[.pointer (some p1), .int .i64 (x : Int)] X fun e w' => e = .returned (.bool (p x)) ∧ Ext X w') :
    Calls Try.prog 80 #[.func (.func 94) #[] #[.pointer (some ⟨Ba, 0, none⟩), .pointer (some ⟨Bm, 0, none⟩)]] w fun e w' => ∃ u, e = .returned u ∧ OwnI 3 w.heap.size w' u (natI ((List.range n).filter p)) ∧ Ext w w' := by
  have la := lt_of_blk (show w.heap[Ba]? = _ from hba); have lm := lt_of_blk (show w.heap[Bm]? = _ from hbm)
  refine collect80 w 94 n _ (fun k => k < n ∧ p k = true) _ hn (Nat.le_trans (List.length_filter_le _ _) (by simp)) (fun _ _ => rfl) fun W hW hz => ?_
  have hrs : ∀ r ∈ [w.heap.size], r < W.heap.size := by simp; omega
  refine only94mT 11 Ba Bm n 95 mf W.heap.size 3 (by decide) (· < n) _ p1 _ p _ W (by omega) (block_ext hW hba) (block_ext hW hbm) (fun _ _ => rfl) egm hrs (by simp; omega) (by simp; omega) (logs95T 10 Bl n n cap a _ _ _ W (by omega) (Nat.le_refl _) (by omega) (block_ext hW hbl)) ?_
  exact fun X x hk => hm X x.val x.property (KeepT.below hW hk (by simp))
end Go.Proofs.Ytclcippfodjfeaa
