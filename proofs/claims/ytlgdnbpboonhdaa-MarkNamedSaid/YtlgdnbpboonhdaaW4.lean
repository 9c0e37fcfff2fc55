/- A loop over an iterator that itself loops over another iterator: the outer loop's invariant must stand the inner loop's records. No round leaves early. The iterator telling: what it yields. first at sets, and Keep. Keep, by its contract. -/
import Derived.Test.YtlgdnbpboonhdaaT3
import Derived.WalkMore
namespace Go.Proofs.Ytlgdnbpboonhdaa
open Go.RowKit Go.Shelf Go.Maps
set_option linter.unusedVariables false
attribute [local go_sem] Oper.semAt_some
/-- All blocks but some lie as they lay. -/
structure KeepBut (rs : List Nat) (A B : World) : Prop where
  os : B.os = A.os
  tape : B.tape = A.tape
  output : B.output = A.output
  size : A.heap.size ≤ B.heap.size
  block : ∀ k, k < A.heap.size → k ∉ rs → B.heap[k]? = A.heap[k]?
theorem KeepBut.refl (rs : List Nat) (A : World) : KeepBut rs A A := ⟨rfl, rfl, rfl, Nat.le_refl _, fun _ _ _ => rfl⟩
theorem KeepBut.trans {rs : List Nat} {A B C : World} (h : KeepBut rs A B) (k : KeepBut rs B C) : KeepBut rs A C :=
  ⟨k.os.trans h.os, k.tape.trans h.tape, k.output.trans h.output, Nat.le_trans h.size k.size, fun i hi hn => (k.block i (Nat.lt_of_lt_of_le hi h.size) hn).trans (h.block i hi hn)⟩
theorem KeepBut.grown {rs : List Nat} {A B C : World} (h : KeepBut rs A B) {row : Option Nat} (hg : B.grownBy C row) (hr : ∀ r, row = some r → A.heap.size ≤ r ∨ r ∈ rs) : KeepBut rs A C :=
  ⟨hg.os.trans h.os, hg.tape.trans h.tape, hg.output.trans h.output, Nat.le_trans h.size hg.size, fun i hi hn => (hg.block i (Nat.lt_of_lt_of_le hi h.size) (fun e => by rcases hr i e.symm with h1 | h1; omega; exact hn h1)).trans (h.block i hi hn)⟩
theorem KeepBut.ext {rs : List Nat} {A B : World} (h : Ext A B) : KeepBut rs A B := ⟨h.os, h.tape, h.output, h.size, fun k hk _ => h.block k hk⟩
theorem KeepBut.set {rs : List Nat} (A : World) {b o : Nat} (hb : b ∈ rs) (v : Value) : KeepBut rs A (A.setCell ⟨b, o, none⟩ v) :=
  (KeepBut.refl rs A).grown (grown_setCell A b o v) (fun r e => by cases e; exact .inr hb)
theorem KeepBut.cell {rs : List Nat} {A B : World} (h : KeepBut rs A B) {g o : Nat} {v : Value} (hg : g ∉ rs) (hc : A.cell? ⟨g, o, none⟩ = some v) : B.cell? ⟨g, o, none⟩ = some v := by
  have hb := h.block g (lt_of_cell hc) hg
  rw [← hc]
  simp only [World.cell?, hb]
theorem ownFrom_keepBut {β : Type} {rs : List Nat} {w₀ : World} {B : Nat} (hB : w₀.heap.size ≤ B) : OwnFrom B (fun (_ : β) W => KeepBut rs w₀ W) :=
  fun _ _ _ _ hs hg hr => hs.grown hg (fun r e => .inl (Nat.le_trans hB (hr r e).1))
theorem OwnFrom.mono {β : Type} {B B' : Nat} {I : β → World → Prop} (h : OwnFrom B I) (hB : B ≤ B') : OwnFrom B' I :=
  fun s A C row hs hg hr => h s A C row hs hg (fun r e => ⟨Nat.le_trans hB (hr r e).1, (hr r e).2⟩)
/-- An iterator's word, where what the caller holds stands every block that is no cells. -/
def SeqAny {α : Type} (n gf : Nat) (lb : Array Value) (encs : α → Array Value) (Kp : World → World → Prop) (S : List α → Prop) (N : Nat) (w : World) : Prop :=
  ∀ (l : Nat) (J : List α → World → Prop) (W : World), Below w.heap.size w W → OwnFrom W.heap.size J →
    (∀ pre x X, J pre X → pre.length < N → YieldAt Fence.wide (n - 1) Try.prog l (encs x) X fun e Y => e = .returned (.bool true) ∧ J (pre ++ [x]) Y ∧ Kp X Y) →
    J [] W → CallsIn Fence.wide n Try.prog gf (#[.func (.yield l) #[] #[]] ++ lb) W fun e Y => (∃ v, e = .returned v) ∧ ∃ xs, S xs ∧ J xs Y
theorem KeepBut.put {rs : List Nat} {A B : World} {l : Nat} {o o' : Obj} (hl : A.heap[l]? = some o) (h : KeepBut rs (A.putObj l o') B) (hb : B.heap[l]? = some o') : KeepBut rs A (B.putObj l o) := by
  have hlt := (Array.getElem?_eq_some_iff.1 hb).1
  have hs : (A.putObj l o').heap.size = A.heap.size := by simp [World.putObj]
  refine ⟨h.os, h.tape, h.output, ?_, fun k hk hn => ?_⟩
  · have := h.size; rw [hs] at this; simpa [World.putObj] using this
  · by_cases e : k = l
    · subst e; rw [World.putObj_heap_same hlt, hl]
    · rw [World.putObj_heap_other e, h.block k (by rw [hs]; exact hk) hn, World.putObj_heap_other e]
theorem wp_seqAny {α : Type} {n : Nat} {g : Operand} {ps : Array Tmp} {assign body : Code} {Q : Exit → Act → World → Prop} {a : Act} {w w0 : World} {gf : Nat} {lb : Array Value} {encs : α → Array Value} {rs : List Nat} {S : List α → Prop} {N : Nat}
    (h1 : 1 ≤ n) (hg : a.eval g = .func (.func gf) #[] lb) (eg : ∀ args W, (callFunc gf args).run Try.prog W = .ok (.enter gf args) W) (hseq : SeqAny (n - 1) gf lb encs (KeepBut rs) S N w0) (hb0 : Below w0.heap.size w0 w) (hps : ∀ x, (encs x).size = ps.size)
    (hrs : ∀ r ∈ rs, r < w.heap.size)
    (I : List α → World → Prop) (hI : OwnFrom w.heap.size I) (h0 : I [] w) (a₁ : α → Act)
    (hassign : ∀ (l : Nat) (x : α) (W : World) (K : Act → World → Prop), K (a₁ x) W → assign.wpIn (Fence.wide.inRound l) (n - 1 - 1) Try.prog (Exit.then K (fun _ _ _ => False)) { tmps := (ps.zip (encs x)).foldl (fun t (p, v) => t.setIfInBounds p v) a.tmps, defers := [] } W)
    (hbody : ∀ (l : Nat) (pre : List α) (x : α) (W : World), w.heap.size ≤ l → I pre W → pre.length < N →
      body.wpIn (Fence.wide.inRound l) (n - 1 - 1) Try.prog (Exit.then (fun _ Y => KeepBut rs W Y ∧ I (pre ++ [x]) Y) (fun _ _ _ => False)) (a₁ x) W)
    (hdone : ∀ (D : Nat) (xs : List α) (W : World), w.heap.size ≤ D → S xs → I xs W → W.heap[D]? = some (.deferred (some [])) → Q .normal { a with defers := { target := .collected D, args := #[] } :: a.defers } W) :
    (Code.rangeFunc g ps assign body).wpIn Fence.wide n Try.prog Q a w := by
  refine wpIn_rangeFunc fun fn hfn => ?_
  -- the two blocks that the statement lays
  let R : LoopState → Loop := fun s => { state := s, pending := none, fn, tmps := a.tmps, params := ps, assign, body, defers := w.heap.size }
  have hE : Ext w ((w.alloc (.deferred (some []))).alloc (.loop (R .ready))) := ((Ext.refl w).alloc _).alloc _
  have hrec : ((w.alloc (.deferred (some []))).alloc (.loop (R .ready))).heap[w.heap.size + 1]? = some (.loop (R .ready)) := by
    have := heap_alloc_new (w.alloc (.deferred (some []))) (.loop (R .ready)); rwa [World.size_alloc] at this
  have hdef : ((w.alloc (.deferred (some []))).alloc (.loop (R .ready))).heap[w.heap.size]? = some (.deferred (some [])) :=
    (Below.heap_alloc _ _ _ (by simp)).trans (heap_alloc_new w _)
  have hI0 : I [] ((w.alloc (.deferred (some []))).alloc (.loop (R .ready))) := hI.alloc _ (hI.alloc _ h0)
  have hsz : ((w.alloc (.deferred (some []))).alloc (.loop (R .ready))).heap.size = w.heap.size + 2 := by simp
  have hrun : (Instr.enterLoop fn a.tmps ps assign body Fence.wide.round).run Try.prog w = .ok (w.heap.size + 1, [{ target := .collected w.heap.size, args := #[] }]) ((w.alloc (.deferred (some []))).alloc (.loop (R .ready))) := run_enterLoop_outer _ _ _ _ _
  generalize (w.alloc (.deferred (some []))).alloc (.loop (R .ready)) = W1 at hE hrec hdef hI0 hsz hrun
  refine ⟨w.heap.size + 1, _, W1, { target := .fn (.func gf) lb, args := #[.func (.yield (w.heap.size + 1)) #[] #[]] }, W1, gf, #[.func (.yield (w.heap.size + 1)) #[] #[]] ++ lb, W1, hrun, ?_, ?_, ?_, fun _ => h1, ?_⟩
  · simp only [resolve, hg]; simp [go_sem]
  · exact fun f' hf' => trivial
  · simp [invoke, go_sem, eg]
  have turn : ∀ {X Y : World} {row : Option Nat} {k : Nat} {o : Obj}, k < W1.heap.size → X.heap[k]? = some o → X.grownBy Y row → (∀ r, row = some r → W1.heap.size ≤ r ∧ ∃ o : Obj, X.heap[r]? = some o ∧ o.isCells = false) → Y.heap[k]? = some o :=
    fun hk hX hg' hr => (hg'.block _ (Array.getElem?_eq_some_iff.1 hX).1 (fun e => by have := (hr _ e.symm).1; omega)).trans hX
  refine (hseq (w.heap.size + 1) (fun pre X => I pre X ∧ X.heap[w.heap.size + 1]? = some (.loop (R .ready)) ∧ X.heap[w.heap.size]? = some (.deferred (some []))) W1 (hb0.trans (hE.mono hb0.size))
    (fun s X Y row hs hg' hr => ⟨hI s X Y row hs.1 hg' (fun r e => ⟨by have := (hr r e).1; omega, (hr r e).2⟩), turn (by omega) hs.2.1 hg' hr, turn (by omega) hs.2.2 hg' hr⟩) ?_ ⟨hI0, hrec, hdef⟩).mono ?_
  · rintro pre x X ⟨hi, hl, hd⟩ hlen
    refine ⟨_, _, _, _, run_yield hl (hps x), roundIn_of_wpIn hfn (hassign _ x X _ ⟨_, run_beginRound hl rfl, ?_⟩)⟩
    have hlX := (Array.getElem?_eq_some_iff.1 hl).1
    have hb := hbody (w.heap.size + 1) pre x _ (by omega) (hI.putObj (.loop { R .ready with state := .busy }) hi (by omega) hl rfl) hlen
    refine wpIn_mono hb ?_
    rintro e a3 Y hY
    cases e <;> try exact hY.elim
    obtain ⟨hk, hi3⟩ := hY
    have hlY : Y.heap[w.heap.size + 1]? = some (.loop { R .ready with state := .busy }) := by
      rw [hk.block _ (by simpa [World.putObj] using hlX) (fun h => by have := hrs _ h; omega)]; exact World.putObj_heap_same hlX
    have hdY : Y.heap[w.heap.size]? = some (.deferred (some [])) := by
      rw [hk.block _ (by simp [World.putObj]; omega) (fun h => by have := hrs _ h; omega), World.putObj_heap_other (by omega)]; exact hd
    exact ⟨_, _, run_endRound none hlY, rfl, ⟨hI.putObj _ hi3 (by omega) hlY rfl, World.putObj_heap_same (Array.getElem?_eq_some_iff.1 hlY).1, (World.putObj_heap_other (by omega)).trans hdY⟩, KeepBut.put hl hk hlY⟩
  · rintro e Y ⟨⟨v, rfl⟩, xs, hS, hi, hl, hd⟩
    exact ⟨_, _, run_endLoop hl (by simp [R]), hdone _ xs _ (Nat.le_refl _) hS (hI.putObj _ hi (by omega) hl rfl) ((World.putObj_heap_other (by omega)).trans hd)⟩
end Go.Proofs.Ytlgdnbpboonhdaa
namespace Go.Proofs.Ytlgdnbpboonhdaa
open Go.RowKit Go.Shelf Go.Maps
set_option linter.unusedVariables false
attribute [local go_sem] Oper.semAt_some
theorem telling73 (b : Nat) (i : Int) (w : World) : Calls Try.prog 73 #[.pointer (some ⟨b, 0, none⟩), .int .i64 i] w fun e w' =>
    e = .returned (.func (.func 99) #[] #[.pointer (some ⟨w.heap.size, 0, none⟩), .pointer (some ⟨w.heap.size + 1, 0, none⟩)]) ∧ w' = (w.alloc (.cells #[.pointer (some ⟨b, 0, none⟩)] 63)).alloc (.cells #[.int .i64 i] 3) := by
  go_enter Try.func73, Try.ntmps73
  go_wp2
  go_ret
  exact ⟨rfl, rfl⟩
/-- No other owner's mark has all of a set. -/
def othB (ms : List Nat) (i x : Nat) : Bool := (List.range ms.length).all fun k => k == i || !sub x (mAt ms k)
def tellP (ms : List Nat) (S i : Nat) (ys : List (SubOf (mAt ms i))) : List (SubOf (mAt ms i)) := ys.filter fun x => othB ms i x.1
theorem tellP_snoc (ms : List Nat) (S i : Nat) (ys : List (SubOf (mAt ms i))) (x : SubOf (mAt ms i)) : tellP ms S i (ys ++ [x]) = if othB ms i x.1 = true then tellP ms S i ys ++ [x] else tellP ms S i ys := by
  unfold tellP
  rw [List.filter_append]
  by_cases h : othB ms i x.1 = true
  · simp [h]
  · simp [h]
theorem tellP_vals (ms : List Nat) (S i : Nat) (ys : List (SubOf (mAt ms i))) : vals (mAt ms i) (tellP ms S i ys) = (vals (mAt ms i) ys).filter (othB ms i) := by
  unfold tellP vals
  rw [List.filter_map]
  rfl
theorem tellP_len (ms : List Nat) (S i : Nat) (ys : List (SubOf (mAt ms i))) : (tellP ms S i ys).length ≤ ys.length := List.length_filter_le _ _
theorem RoundIn.any {m m' l l0 : Nat} {P : Program} {f : FuncId} {tmps : Array Value} {assign body : Code} {w : World} {R : Ending → World → Prop} (h : RoundIn Fence.wide m P l f tmps assign body w R) : RoundIn (Fence.wide.inRound l0) m' P l f tmps assign body w R :=
  ⟨h.1, fun c cs hr => h.2 c cs (by simp [Fence.room, Fence.wide])⟩
set_option maxRecDepth 100000 in
set_option maxHeartbeats 8000000 in
theorem telling99 (n Br Bo b S L i : Nat) (ms : List Nat) (v : Value) (w0 w : World) (rs : List Nat) (hn : 3 ≤ n) (hv : Valid S L ms) (hr : RegAt w0 b S L v ms) (hi : i < ms.length) (hBr : Boxed w0 Br 63 (.pointer (some ⟨b, 0, none⟩))) (hBo : Boxed w0 Bo 3 (.int .i64 (i : Int)))
    (hw0 : Ext w0 w) (hrs : ∀ r ∈ rs, w0.heap.size ≤ r ∧ r < w.heap.size) :
    SeqAny n 99 #[.pointer (some ⟨Br, 0, none⟩), .pointer (some ⟨Bo, 0, none⟩)] (encS (mAt ms i)) (KeepBut rs) (fun ys => vals (mAt ms i) ys = (wornL (mAt ms i) S).filter (othB ms i)) 1024 w := by
  intro l J W hW hJ hY h0
  obtain ⟨hl, a, cap, rfl⟩ := hr.2.shape
  have hW0 : Ext w0 W := hw0.trans hW
  obtain ⟨⟨h1, h2, h3⟩, hvv⟩ := hr.ext hW0
  have c1 := Boxed.cell (block_ext hW0 hBr)
  have c2 := Boxed.cell (block_ext hW0 hBo)
  have hmi : ms[i]? = some (mAt ms i) := by simp [mAt, hi]
  obtain ⟨b1, off, rfl, hl2, hcy⟩ := hvv.atN hmi
  rw [ints_length] at *
  have hka : (0 : Int) ≤ (i : Int) := by omega
  have hkb : (i : Int) < (ms.length : Int) := by omega
  refine callsIn_of_wp_marks Try.func99 rfl trivial ?_ rfl
  simp only [Try.ntmps99, List.size_toArray, List.length_cons, List.length_nil, Nat.reduceAdd, Nat.reduceSub, Array.replicate_succ, Array.replicate_zero, List.push_toArray, List.append_toArray, List.nil_append, List.cons_append]
  have HY := Lib.hid hY; have HJ := Lib.hid hJ; have H0 := Lib.hid h0; have HRS := Lib.hid hrs; have HV := Lib.hid hv; have HREG := Lib.hid (hr.ext hW0)
  have l1 := lt_of_cell hr.1.1; have l2 := hBr.lt; have l3 := hBo.lt
  have l4 : b1 < w0.heap.size := by
    obtain ⟨b1', off', e, -, hc0⟩ := hr.2.atN hmi
    cases e; exact lt_of_cell hc0
  have l5 := hw0.size; have l6 := hW.size
  clear hJ hY h0 hr hBr hBo hrs hv
  have hmix : Try.prog.follows .mixedOrders = true := by kernel_rfl
  gi_wp2
  refine wpIn_wide.2 (wp_scope_straight ((wpIn_wide (n := n)).1 ?_))
  gi_wp2
  apply wpIn_label
  gi_wp2
  gi_wp2
  refine wpIn_wide.2 ?_
  refine wp_region_still_tail 13 hmix (by kernel_rfl) ?_
  simp only [List.take_succ_cons, List.take_zero, List.drop_succ_cons, List.drop_zero]
  have hE1 : Ext W (World.drew (W.alloc (.cells #[.func (.yield l) #[] #[]] 71))) := ((Ext.refl W).alloc _).drew
  have hy1 : Boxed (World.drew (W.alloc (.cells #[.func (.yield l) #[] #[]] 71))) W.heap.size 71 (.func (.yield l) #[] #[]) := Boxed.new W 71 _
  have hz1 : (World.drew (W.alloc (.cells #[.func (.yield l) #[] #[]] 71))).heap.size = W.heap.size + 1 := by simp [World.drew]
  generalize hW1 : World.drew (W.alloc (.cells #[.func (.yield l) #[] #[]] 71)) = W1 at hE1 hy1 hz1
  have hW2 : ({ heap := (W.alloc (.cells #[.func (.yield l) #[] #[]] 71)).heap, tape := (W.alloc (.cells #[.func (.yield l) #[] #[]] 71)).tape, drawn := (W.alloc (.cells #[.func (.yield l) #[] #[]] 71)).drawn + 1, os := (W.alloc (.cells #[.func (.yield l) #[] #[]] 71)).os, output := (W.alloc (.cells #[.func (.yield l) #[] #[]] 71)).output } : World) = W1 := hW1
  rw [hW2]
  have c1 := cell_ext hE1 c1
  have c2 := cell_ext hE1 c2
  have h1 := cell_ext hE1 h1
  have h2 := cell_ext hE1 h2
  have h3 := cell_ext hE1 h3
  have hcy := cell_ext hE1 hcy
  have HZ1 := Lib.hid hz1
  clear hW1 hW2 hz1
  repeat still_step
  refine wpStill_nil ?_
  go_wp2_with (go_at_call 98; refine (worn98 (mAt ms i) S _).mono ?_; rintro e w2 ⟨rfl, rfl⟩)
  have bM := (Boxed.new W1 3 (.int .i64 (mAt ms i : Int))).alloc (.cells #[.int .i64 (S : Int)] 3)
  have bL := Boxed.new (W1.alloc (.cells #[.int .i64 (mAt ms i : Int)] 3)) 3 (.int .i64 (S : Int))
  have hE2 : Ext W1 ((W1.alloc (.cells #[.int .i64 (mAt ms i : Int)] 3)).alloc (.cells #[.int .i64 (S : Int)] 3)) := ((Ext.refl _).alloc _).alloc _
  have hsz2 : ((W1.alloc (.cells #[.int .i64 (mAt ms i : Int)] 3)).alloc (.cells #[.int .i64 (S : Int)] 3)).heap.size = W1.heap.size + 2 := by simp
  simp only [World.size_alloc] at bL
  obtain ⟨W0, hW0'⟩ : ∃ W0, (W1.alloc (.cells #[.int .i64 (mAt ms i : Int)] 3)).alloc (.cells #[.int .i64 (S : Int)] 3) = W0 := ⟨_, rfl⟩
  rw [hW0'] at bM bL hE2 hsz2 ⊢
  clear hW0'
  have hy2 : Boxed W0 W.heap.size 71 (.func (.yield l) #[] #[]) := block_ext hE2 hy1
  have c1 := cell_ext hE2 c1
  have c2 := cell_ext hE2 c2
  have h1 := cell_ext hE2 h1
  have h2 := cell_ext hE2 h2
  have h3 := cell_ext hE2 h3
  have hvv2 := hvv.ext (hE1.trans hE2)
  have hm1024 : mAt ms i < 1024 := HV.out.lt hmi
  have hJ0 : J (tellP ms S i []) W0 := HJ.out [] W W0 none H0.out (grown_ext (hE1.trans hE2) none) (fun r e => by cases e)
  gi_wp2
  refine wpIn_rangeFunc_ownH rfl (by omega) (gf := 107) (lb := #[.pointer (some ⟨W1.heap.size, 0, none⟩), .pointer (some ⟨W1.heap.size + 1, 0, none⟩)]) rfl trivial (enters_of Try.func107 (by kernel_rfl) rfl)
    (worn_stops (n - 1) W1.heap.size (W1.heap.size + 1) 0 (mAt ms i) S hm1024 (by omega) W0 bM.cell bL.cell) Kp2.trans (kp2_b (by omega) (by simp; omega)) (Below.refl _ _) (fun _ => rfl)
    (fun pre X => J (tellP ms S i pre) X ∧ KeepBut rs W0 X)
    (fun _ _ _ => False)
    ?hI (fun _ _ _ _ _ h _ _ => h) ⟨hJ0, KeepBut.refl _ _⟩
    (fun x a' X => a' = { tmps := #[.func (.yield l) #[] #[], .pointer (some ⟨Br, 0, none⟩), .pointer (some ⟨Bo, 0, none⟩), .pointer (some ⟨W.heap.size, 0, none⟩), .int .i64 (x.1 : Int), undef, undef, .pointer (some ⟨b, 0, none⟩), .pointer (some ⟨b, 0, none⟩), .pointer (some ⟨b, 0, none⟩), .pointer (some ⟨b, 2, none⟩), .slice (some ⟨b1, off, none⟩) ms.length cap,
      .int .i64 (i : Int), .pointer (some ⟨b1, off + i, none⟩), .int .i64 (mAt ms i : Int), .pointer (some ⟨b, 0, none⟩), .pointer (some ⟨b, 0, none⟩), .pointer (some ⟨b, 0, none⟩), .pointer (some ⟨b, 0, none⟩), .int .i64 (S : Int),
      .func (.func 107) #[] #[.pointer (some ⟨W1.heap.size, 0, none⟩), .pointer (some ⟨W1.heap.size + 1, 0, none⟩)], .int .i64 (x.1 : Int), undef, undef, undef, undef, undef, undef, undef, undef, undef, undef, undef, undef, undef, undef, undef, undef, undef, undef, undef, undef, undef, undef, undef, undef], defers := [] })
    ?hAx ?assign ?body ?done ?stop
  case hI => exact OwnFrom.and (fun s A B row hs hg hr => HJ.out _ A B row hs hg (fun r e => ⟨by have := (hr r e).1; have := HZ1.out; omega, (hr r e).2⟩)) (ownFrom_keepBut (Nat.le_refl _))
  case hAx => exact fun x a' s A B row hs hg hr => hs
  case assign =>
    rintro l' pre x X K hI hK
    dsimp only [encS]
    gi_wp2
    exact hK _ _ (KeepsFrom.refl _ _) (Kp2.refl _ _ _) hI rfl
  case body =>
    rintro l' pre x A X hl' ⟨r, hrl⟩ ⟨hJX, hKX⟩ rfl hlt2
    obtain ⟨x, hx⟩ := x
    have nb : ∀ g, g < W.heap.size + 1 → ((g < w0.heap.size) ∨ g = W.heap.size) → g ∉ rs := fun g hg h hm => by
      have := HRS.out g hm
      rcases h with h | h <;> omega
    have c1 := hKX.cell (nb _ (by omega) (.inl l2)) c1
    have c2 := hKX.cell (nb _ (by omega) (.inl l3)) c2
    have h3 := hKX.cell (nb _ (by omega) (.inl l1)) h3
    have cy := hKX.cell (nb _ (by omega) (.inr rfl)) hy2.cell
    have hcell : ∀ k m : Nat, ms[k]? = some m → X.cell? ⟨b1, off + k, none⟩ = some (.int .i64 (m : Int)) := fun k m hk => by
      obtain ⟨b1', off', e, -, hc0⟩ := hvv2.atN hk
      cases e
      exact hKX.cell (nb _ (by omega) (.inl l4)) hc0
    have HC := Lib.hid hcell; have HKX := Lib.hid hKX; have HJX := Lib.hid hJX; have HRL := Lib.hid hrl
    have hx1024 : x < 1024 := by have := sub_le _ _ hx; omega
    clear hcell hKX hJX hrl h1 h2 hcy hvv hvv2 nb bM bL hy2 hy1 hE1 hE2 hJ0
    have hdep : 1 ≤ n - 1 - 1 := by omega
    dsimp only
    gi_wp2
    gi_loop [28] (fun j => ∃ k : Nat, k ≤ ms.length ∧ j = .int .i64 (k : Int) ∧ Hid (∀ k', k' < k → (k' == i || !sub x (mAt ms k')) = true)) (fun j => ms.length - (RowKit.intOf j).toNat)
    case atStart => exact ⟨0, Nat.zero_le _, rfl, fun k' h => absurd h (Nat.not_lt_zero _)⟩
    case round =>
      obtain ⟨k, hk, rfl, hall⟩ := hrel
      by_cases hlt : k < ms.length
      · have hmk : ms[k]? = some (mAt ms k) := by simp [mAt, hlt]
        have ck := HC.out k _ hmk
        have hkc : (0 : Int) ≤ (k : Int) := by omega
        have hkd : (k : Int) < (ms.length : Int) := by omega
        have HMK := Lib.hid hmk; clear hmk
        by_cases hki : k = i
        · have hbn : ((k : Int) != (i : Int)) = false := by simp [hki]
          have HKI := Lib.hid hki; clear hki
          gi_wp2
          refine ⟨trivial, ?_⟩
          gi_wp2
          go_round
          case rel => exact ⟨k + 1, by omega, by go_num, fun k' h => by
            rcases Nat.lt_succ_iff_lt_or_eq.1 h with h | h
            · exact hall.out k' h
            · subst h; simp [HKI.out]⟩
          case measure => simp [RowKit.intOf]; omega
        · have hbn : ((k : Int) != (i : Int)) = true := by simp; omega
          have hmk1024 := HV.out.lt HMK.out
          cases hsb : sub x (mAt ms k)
          · have h88 := contains_any (mAt ms k) x hmk1024 hx1024 X
            rw [hsb] at h88
            have H88 := Lib.hid h88; have HSB := Lib.hid hsb; clear h88 hsb
            gi_wp2_with (refine ⟨trivial, ?_⟩; gi_at_call 88; refine (CallsIn.inRound l' (callsIn_wide.2 H88.out)).mono ?_; rintro e w' ⟨rfl, rfl⟩)
            go_round
            case rel => exact ⟨k + 1, by omega, by go_num, fun k' h => by
              rcases Nat.lt_succ_iff_lt_or_eq.1 h with h | h
              · exact hall.out k' h
              · subst h; simp [HSB.out]⟩
            case measure => simp [RowKit.intOf]; omega
          · have h88 := contains_any (mAt ms k) x hmk1024 hx1024 X
            rw [hsb] at h88
            have hno : othB ms i x = false := List.all_eq_false.2 ⟨k, List.mem_range.2 hlt, by simp [hsb, hki]⟩
            have H88 := Lib.hid h88; have HNO := Lib.hid hno; clear h88 hsb hno
            gi_wp2_with (refine ⟨trivial, ?_⟩; gi_at_call 88; refine (CallsIn.inRound l' (callsIn_wide.2 H88.out)).mono ?_; rintro e w' ⟨rfl, rfl⟩)
            refine ⟨KeepsFrom.refl _ _, Kp2.refl _ _ _, ?_, HKX.out⟩
            rw [tellP_snoc, if_neg (by rw [HNO.out]; simp)]
            exact HJX.out
      · obtain rfl : k = ms.length := by omega
        have hyes : othB ms i x = true := List.all_eq_true.2 fun k' h => hall.out k' (List.mem_range.1 h)
        obtain ⟨fn, tmps, assign, body, hy, hR⟩ := HY.out (tellP ms S i pre) ⟨x, hx⟩ X HJX.out (Nat.lt_of_le_of_lt (tellP_len _ _ _ _) hlt2)
        have HR := Lib.hid (RoundIn.any (m' := n - 1 - 1 - 1) (l0 := l') hR)
        have HYES := Lib.hid hyes
        clear hR hyes
        dsimp only [encS] at hy
        gi_wp2_with (refine (HR.out).mono ?_; rintro e W5 ⟨rfl, hJ5, hK5⟩)
        have hsz5 : X.heap.size ≤ W5.heap.size := hK5.size
        have hszX := HKX.out.size
        have hb2 : ∀ r ∈ rs, r < W1.heap.size := fun r hr => by have := HRS.out r hr; have := HZ1.out; omega
        refine ⟨⟨hsz5, fun k o hk hX hc => ?_⟩, ⟨⟨hK5.os, hK5.tape, hK5.output, hsz5, fun k hk => absurd hk (Nat.not_lt_zero _)⟩, fun r hr => ?_⟩, ?_, HKX.out.trans hK5⟩
        · exact (hK5.block k (Array.getElem?_eq_some_iff.1 hX).1 (fun hm => by have := hb2 k hm; omega)).trans hX
        · have hr2 : W1.heap.size ≤ r ∧ r < W1.heap.size + 2 := by
            simp at hr; omega
          exact hK5.block r (by omega) (fun hm => by have := hb2 r hm; omega)
        · rw [tellP_snoc, if_pos HYES.out]
          exact hJ5
  case done =>
    rintro D ys X hD hS ⟨hJX, hKX⟩ hDW
    have hJ2 : J (tellP ms S i ys) (X.putObj D (.deferred none)) := HJ.out.putObj _ hJX (by have := HZ1.out; omega) hDW rfl
    have hS2 : vals (mAt ms i) (tellP ms S i ys) = (wornL (mAt ms i) S).filter (othB ms i) := by rw [tellP_vals, show vals (mAt ms i) ys = wornL (mAt ms i) S from hS]
    have HJ2 := Lib.hid hJ2; have HS2 := Lib.hid hS2; have HDW := Lib.hid hDW
    clear hJ2 hS2 hDW hJX hKX hS hJ0 bM bL
    gi_wp2
    rw [Exit.noGoto_normal]
    gi_wp2
    refine ⟨by simp, .inl ⟨_, _, rfl, run_takeDeferred HDW.out, ?_⟩⟩
    exact ⟨_, results_none rfl _ _ _, ⟨_, rfl⟩, _, HS2.out, HJ2.out⟩
  case stop =>
    rintro D c pre X _ _ h _
    exact h.elim
end Go.Proofs.Ytlgdnbpboonhdaa
namespace Go.Proofs.Ytlgdnbpboonhdaa
open Go.RowKit Go.Shelf Go.Maps
set_option linter.unusedVariables false
attribute [local go_sem] Oper.semAt_some
/-- The order of sets, as the program reckons it. -/
def fewO (a b : Nat) : Int := orL [cmpI (pc a) (pc b), cmpI (bits .and .i64 b (bits .and .i64 ((a ^^^ b : Nat) : Int) (-((a ^^^ b : Nat) : Int)))) (bits .and .i64 a (bits .and .i64 ((a ^^^ b : Nat) : Int) (-((a ^^^ b : Nat) : Int))))]
def bestBy (acc : Option Nat) (x : Nat) : Option Nat := match acc with | none => some x | some p => if fewO x p < 0 then some x else some p
def firstBy (ys : List Nat) : Option Nat := ys.foldl bestBy none
theorem firstBy_snoc (ys : List Nat) (x : Nat) : firstBy (ys ++ [x]) = bestBy (firstBy ys) x := by simp [firstBy]
theorem firstBy_mem : ∀ (ys : List Nat) (p : Nat), firstBy ys = some p → p ∈ ys := by
  have : ∀ (ys : List Nat) (acc : Option Nat) (p : Nat), ys.foldl bestBy acc = some p → acc = some p ∨ p ∈ ys := by
    intro ys
    induction ys with
    | nil => intro acc p h; exact .inl h
    | cons x l ih =>
      intro acc p h
      rcases ih _ _ h with h1 | h1
      · unfold bestBy at h1
        cases acc with
        | none => simp at h1; exact .inr (by simp [h1])
        | some q =>
          dsimp only at h1
          split at h1
          · simp at h1; exact .inr (by simp [h1])
          · exact .inl h1
      · exact .inr (List.mem_cons_of_mem _ h1)
  intro ys p h
  rcases this ys none p h with h1 | h1
  · cases h1
  · exact h1
theorem vals_lt {m : Nat} (hm : m < 1024) {ys : List (SubOf m)} {x : Nat} (h : x ∈ vals m ys) : x < 1024 := by
  unfold vals at h
  obtain ⟨y, -, rfl⟩ := List.mem_map.1 h
  have := sub_le _ _ y.2
  omega
def Inv72 (w : World) (m : Nat) (pre : List (SubOf m)) (X : World) : Prop :=
  (Boxed X (w.heap.size + 1) 3 (.int .i64 (((firstBy (vals m pre)).getD 0 : Nat) : Int)) ∧ Boxed X (w.heap.size + 1 + 1) 4 (.bool (firstBy (vals m pre)).isSome) ∧ Boxed X w.heap.size 91 (.func (.func 74) #[] #[])) ∧ Below w.heap.size w X
theorem stored72 {w X : World} {m : Nat} {pre : List (SubOf m)} {x : SubOf m} {u : Value} {fb : Bool} (hf : firstBy (vals m (pre ++ [x])) = some x.1) (h1 : Boxed X (w.heap.size + 1) 3 u) (h2 : Boxed X (w.heap.size + 1 + 1) 4 (.bool fb)) (h0 : Boxed X w.heap.size 91 (.func (.func 74) #[] #[])) (hE : Below w.heap.size w X) :
    KeepBut [w.heap.size + 1, w.heap.size + 1 + 1] X ((X.setCell ⟨w.heap.size + 1, 0, none⟩ (.int .i64 (x.1 : Int))).setCell ⟨w.heap.size + 1 + 1, 0, none⟩ (.bool true)) ∧
    Inv72 w m (pre ++ [x]) ((X.setCell ⟨w.heap.size + 1, 0, none⟩ (.int .i64 (x.1 : Int))).setCell ⟨w.heap.size + 1 + 1, 0, none⟩ (.bool true)) := by
  refine ⟨(KeepBut.set X (by simp) _).trans (KeepBut.set _ (by simp) _), ⟨?_, ?_, ?_⟩, ?_⟩
  · rw [hf]
    show Boxed _ _ _ (.int .i64 (x.1 : Int))
    exact (h1.set _).other (by omega) _
  · rw [hf]
    exact (h2.other (by omega) _).set _
  · exact (h0.other (by omega) _).other (by omega) _
  · exact (hE.setCell (p := ⟨w.heap.size + 1, 0, none⟩) (by simp) _).setCell (p := ⟨w.heap.size + 1 + 1, 0, none⟩) (by simp; omega) _
set_option maxRecDepth 100000 in
set_option maxHeartbeats 4000000 in
theorem first72 (b S L i Br Bo : Nat) (ms : List Nat) (v : Value) (w : World) (hv : Valid S L ms) (hr : RegAt w b S L v ms) (hi : i < ms.length) (hBr : Boxed w Br 63 (.pointer (some ⟨b, 0, none⟩))) (hBo : Boxed w Bo 3 (.int .i64 (i : Int))) :
    Calls Try.prog 72 #[.func (.func 99) #[] #[.pointer (some ⟨Br, 0, none⟩), .pointer (some ⟨Bo, 0, none⟩)], .func (.func 74) #[] #[]] w fun e w' =>
      e = .returned (.tuple #[.int .i64 (((firstBy ((wornL (mAt ms i) S).filter (othB ms i))).getD 0 : Nat) : Int), .bool (firstBy ((wornL (mAt ms i) S).filter (othB ms i))).isSome]) ∧ Ext w w' := by
  refine (callsIn_wide (n := 10)).1 ?_
  refine callsIn_of_wp_marks Try.func72 rfl trivial ?_ rfl
  simp only [Try.ntmps72, List.size_toArray, List.length_cons, List.length_nil, Nat.reduceAdd, Nat.reduceSub, Array.replicate_succ, Array.replicate_zero, List.push_toArray, List.append_toArray, List.nil_append, List.cons_append]
  gi_wp2
  have hm1024 : mAt ms i < 1024 := hv.lt (k := i) (by simp [mAt, hi])
  have b0 := ((Boxed.new w 91 (.func (.func 74) #[] #[])).alloc (.cells #[.int .i64 0] 3)).alloc (.cells #[.bool false] 4)
  have b1 := (Boxed.new (w.alloc (.cells #[.func (.func 74) #[] #[]] 91)) 3 (.int .i64 0)).alloc (.cells #[.bool false] 4)
  have b2 := Boxed.new ((w.alloc (.cells #[.func (.func 74) #[] #[]] 91)).alloc (.cells #[.int .i64 0] 3)) 4 (.bool false)
  have hB0 : Ext w (((w.alloc (.cells #[.func (.func 74) #[] #[]] 91)).alloc (.cells #[.int .i64 0] 3)).alloc (.cells #[.bool false] 4)) := (((Ext.refl w).alloc _).alloc _).alloc _
  have hsz : (((w.alloc (.cells #[.func (.func 74) #[] #[]] 91)).alloc (.cells #[.int .i64 0] 3)).alloc (.cells #[.bool false] 4)).heap.size = w.heap.size + 3 := by simp
  simp only [World.size_alloc] at b1 b2
  obtain ⟨W0, hW0⟩ : ∃ W0, ((w.alloc (.cells #[.func (.func 74) #[] #[]] 91)).alloc (.cells #[.int .i64 0] 3)).alloc (.cells #[.bool false] 4) = W0 := ⟨_, rfl⟩
  rw [hW0] at b0 b1 b2 hB0 hsz ⊢
  clear hW0
  refine wp_seqAny (by omega) (gf := 99) (lb := #[.pointer (some ⟨Br, 0, none⟩), .pointer (some ⟨Bo, 0, none⟩)]) (rs := [w.heap.size + 1, w.heap.size + 1 + 1]) rfl (enters_of Try.func99 (by kernel_rfl) rfl)
    (telling99 9 Br Bo b S L i ms v w W0 [w.heap.size + 1, w.heap.size + 1 + 1] (by omega) hv hr hi hBr hBo hB0 (by intro r hr; simp at hr; omega)) (Below.refl _ _) (fun _ => rfl) (by intro r hr; simp at hr; omega)
    (Inv72 w (mAt ms i)) ?hI ⟨⟨b1, b2, b0⟩, hB0⟩
    (fun x => { tmps := #[.func (.func 99) #[] #[.pointer (some ⟨Br, 0, none⟩), .pointer (some ⟨Bo, 0, none⟩)], .func (.func 74) #[] #[], undef, .pointer (some ⟨w.heap.size, 0, none⟩), .int .i64 0, .bool false, .pointer (some ⟨w.heap.size + 1, 0, none⟩), .pointer (some ⟨w.heap.size + 1 + 1, 0, none⟩), .int .i64 (x.1 : Int), .func (.func 99) #[] #[.pointer (some ⟨Br, 0, none⟩), .pointer (some ⟨Bo, 0, none⟩)], .int .i64 (x.1 : Int), undef, undef, undef, undef, undef, undef, undef, undef, undef, undef, undef, undef], defers := [] })
    ?assign ?body ?done
  case hI => exact OwnFrom.and (fun s A B row hs hg hr => ⟨boxed_turn hs.1 hg hr, boxed_turn hs.2.1 hg hr, boxed_turn hs.2.2 hg hr⟩) (ownFrom_below (Nat.le_refl _) hB0.size)
  case assign =>
    rintro l x W K hK
    dsimp only [encS]
    gi_wp2
    exact hK
  case body =>
    rintro l pre x X hl ⟨⟨q1, q2, q0⟩, hE⟩ hlen
    obtain ⟨x, hx⟩ := x
    have hx1024 : x < 1024 := by have := sub_le _ _ hx; omega
    have hsn := firstBy_snoc (vals (mAt ms i) pre) x
    rw [show vals (mAt ms i) pre ++ [x] = vals (mAt ms i) (pre ++ [⟨x, hx⟩]) from (vals_snoc (mAt ms i) pre ⟨x, hx⟩).symm] at hsn
    obtain ⟨fb, hfb⟩ : ∃ fb, fb = firstBy (vals (mAt ms i) pre) := ⟨_, rfl⟩
    rw [← hfb] at q1 q2 hsn
    have c0 := q0.cell
    have c1 := q1.cell
    have c2 := q2.cell
    have f1 := q1.frozen
    have f2 := q2.frozen
    have Q0 := Lib.hid q0; have Q1 := Lib.hid q1; have Q2 := Lib.hid q2; have HE := Lib.hid hE; have HSN := Lib.hid hsn; have HFB := Lib.hid hfb
    clear q0 q1 q2 hE hsn hfb b0 b1 b2
    dsimp only
    cases fb with
    | none =>
      gi_wp2
      refine ⟨fun f h => (by cases h), ?_⟩
      gi_wp2
      exact stored72 (x := ⟨x, hx⟩) HSN.out Q1.out Q2.out Q0.out HE.out
    | some p =>
      have hp1024 : p < 1024 := vals_lt hm1024 (firstBy_mem _ _ HFB.out.symm)
      simp only [Option.getD_some, Option.isSome_some] at c1 c2
      have h74 := fewest74_any x p hx1024 hp1024 X
      obtain ⟨o, ho⟩ : ∃ o : Int, o = fewO x p := ⟨_, rfl⟩
      have H74 : Hid (Calls Try.prog 74 #[.int .i64 (x : Int), .int .i64 (p : Int)] X fun e w' => e = .returned (.int .i64 o) ∧ Ext X w') := by rw [ho]; exact h74
      have HO := Lib.hid ho
      clear h74 ho
      by_cases hneg : o < 0
      · gi_wp2_with (refine ⟨trivial, ?_⟩; gi_at_call 74; refine (CallsIn.inRound l (callsIn_wide.2 H74.out)).mono ?_; rintro e w' ⟨rfl, hb⟩; have f1 := Boxed.frozen (block_ext hb Q1.out); have f2 := Boxed.frozen (block_ext hb Q2.out); have c1 := cell_ext hb c1; have c2 := cell_ext hb c2; have HB := Lib.hid hb; clear hb)
        have hs : firstBy (vals (mAt ms i) (pre ++ [⟨x, hx⟩])) = some x := by
          rw [HSN.out]; simp [bestBy]; rw [← HO.out]; intro h; omega
        obtain ⟨k1, k2⟩ := stored72 (x := ⟨x, hx⟩) hs (block_ext HB.out Q1.out) (block_ext HB.out Q2.out) (block_ext HB.out Q0.out) (HE.out.trans (HB.out.mono HE.out.size))
        exact ⟨(KeepBut.ext HB.out).trans k1, k2⟩
      · gi_wp2_with (refine ⟨trivial, ?_⟩; gi_at_call 74; refine (CallsIn.inRound l (callsIn_wide.2 H74.out)).mono ?_; rintro e w' ⟨rfl, hb⟩; have HB := Lib.hid hb; clear hb)
        have hs : firstBy (vals (mAt ms i) (pre ++ [⟨x, hx⟩])) = some p := by
          rw [HSN.out]; simp [bestBy]; rw [← HO.out]; intro h; omega
        refine ⟨KeepBut.ext HB.out, ⟨?_, ?_, block_ext HB.out Q0.out⟩, HE.out.trans (HB.out.mono HE.out.size)⟩
        · rw [hs]; exact block_ext HB.out Q1.out
        · rw [hs]; exact block_ext HB.out Q2.out
  case done =>
    rintro D ys X hD hS ⟨⟨q1, q2, q0⟩, hE⟩ hDW
    rw [show vals (mAt ms i) ys = (wornL (mAt ms i) S).filter (othB ms i) from hS] at q1 q2
    have c1 := q1.cell
    have c2 := q2.cell
    obtain ⟨fb, hfb⟩ : ∃ fb, fb = firstBy ((wornL (mAt ms i) S).filter (othB ms i)) := ⟨_, rfl⟩
    rw [← hfb] at q1 q2 c1 c2
    have HFB := Lib.hid hfb
    have HDW := Lib.hid hDW; have HE := Lib.hid hE
    clear hDW hE hS q0 q1 q2 hfb b0 b1 b2
    have hmix : Try.prog.follows .mixedOrders = true := by kernel_rfl
    gi_wp2
    gi_region
    all_goals
      gi_wp2
      refine ⟨by simp, .inl ⟨_, _, rfl, run_takeDeferred (w := X.drew) HDW.out, ?_⟩⟩
      refine ⟨.tuple #[.int .i64 ((fb.getD 0 : Nat) : Int), .bool fb.isSome], ?_, ?_, ?_⟩
      · simp [results, Try.results72, go_sem]
      · rw [HFB.out]
      · exact (HE.out.drew).trans (belowK_b (w := w) (Nat.le_refl _) X.drew D _ _ (by omega) HDW.out rfl rfl)
end Go.Proofs.Ytlgdnbpboonhdaa
namespace Go.Proofs.Ytlgdnbpboonhdaa
open Go.RowKit Go.Shelf Go.Maps
set_option linter.unusedVariables false
attribute [local go_sem] Oper.semAt_some
def keepO (S : Nat) (ms : List Nat) (i : Nat) : Option Nat := firstBy ((wornL (mAt ms i) S).filter (othB ms i))
def keepV (o : Option Nat) : Int × Int := match o with | none => (0, 17) | some k => ((k : Int), 0)
theorem keep32_ok (S L i : Nat) (ms : List Nat) (v : Value) (w : World) (hv : Valid S L ms) (hr : Reads w v (ints ms)) (hi : i < ms.length) :
    Calls Try.prog 32 #[.agg #[.int .i64 (S : Int), .int .i64 (L : Int), v], .int .i64 (i : Int)] w fun e w' => e = .returned (.tuple #[.int .i64 (keepV (keepO S ms i)).1, .int .i64 (keepV (keepO S ms i)).2]) ∧ Ext w w' := by
  obtain ⟨hl, a, cap, rfl⟩ := hr.shape
  have E0 := Lib.hid (((Ext.refl w).alloc (.cells #[.int .i64 (S : Int), .int .i64 (L : Int), .slice a (ints ms).length cap] 24)).alloc (.cells #[.int .i64 (i : Int)] 3))
  have HO := Lib.hid (open_ok S L ms _ (.slice (some ⟨(w.alloc (.cells #[.int .i64 (S : Int), .int .i64 (L : Int), .slice a (ints ms).length cap] 24)).heap.size, 0, none⟩) 1 1) [(i : Int)] _ hv (hr.ext E0.out) (Reads.new (w.alloc (.cells #[.int .i64 (S : Int), .int .i64 (L : Int), .slice a (ints ms).length cap] 24)) _ 3 _ rfl (by simp) _ rfl 1 1 rfl) (by simp [inR]; omega))
  rw [World.size_alloc] at HO
  have HR := Lib.hid hr; have HV := Lib.hid hv
  clear hr hv
  go_enter Try.func32, Try.ntmps32
  go_wp2_with fail
  refine HO.out.mono ?_
  rintro e w' ⟨b, bt, rfl, hb1, hb2, hbne, ho, h3, hrow, hb⟩
  have HB := Lib.hid (E0.out.trans hb)
  have HT := Lib.hid (open_reg (HR.out.ext E0.out) hb ho h3 hrow).1
  clear hb ho h3 hrow hb1 hb2 hbne
  go_wp2_with fail
  refine (telling73 b (i : Int) _).mono ?_
  rintro e w2 ⟨rfl, rfl⟩
  have hE2 : Ext w' ((w'.alloc (.cells #[.pointer (some ⟨b, 0, none⟩)] 63)).alloc (.cells #[.int .i64 (i : Int)] 3)) := ((Ext.refl _).alloc _).alloc _
  have q0 := (Boxed.new w' 63 (.pointer (some ⟨b, 0, none⟩))).alloc (.cells #[.int .i64 (i : Int)] 3)
  have q1 := Boxed.new (w'.alloc (.cells #[.pointer (some ⟨b, 0, none⟩)] 63)) 3 (.int .i64 (i : Int))
  rw [World.size_alloc] at q1
  have H72 := Lib.hid (first72 b S L i w'.heap.size (w'.heap.size + 1) ms _ _ HV.out (HT.out.ext hE2) hi q0 q1)
  have HE2 := Lib.hid (HB.out.trans hE2)
  clear hE2 q0 q1
  go_wp2_with fail
  refine H72.out.mono ?_
  rintro e w3 ⟨rfl, hb⟩
  have HE3 := Lib.hid (HE2.out.trans hb)
  clear hb H72
  obtain ⟨o, ho⟩ : ∃ o, o = keepO S ms i := ⟨_, rfl⟩
  rw [show firstBy ((wornL (mAt ms i) S).filter (othB ms i)) = o from ho.symm]
  have HOO := Lib.hid ho; clear ho
  cases o with
  | none =>
    go_wp2
    go_ret2
    rw [← HOO.out]
    exact ⟨rfl, HE3.out⟩
  | some k =>
    go_wp2
    go_ret2
    rw [← HOO.out]
    exact ⟨rfl, HE3.out⟩
theorem keep32_arg (S L : Nat) (i : Int) (ms : List Nat) (v : Value) (w : World) (hv : Valid S L ms) (hr : Reads w v (ints ms)) (hi : inR 0 ((ms.length : Int) - 1) [i] = false) :
    Calls Try.prog 32 #[.agg #[.int .i64 (S : Int), .int .i64 (L : Int), v], .int .i64 i] w fun e w' => e = .returned (.tuple #[.int .i64 0, .int .i64 2]) ∧ Ext w w' := by
  obtain ⟨hl, a, cap, rfl⟩ := hr.shape
  have E0 := Lib.hid (((Ext.refl w).alloc (.cells #[.int .i64 (S : Int), .int .i64 (L : Int), .slice a (ints ms).length cap] 24)).alloc (.cells #[.int .i64 i] 3))
  have HO := Lib.hid (open_arg S L ms _ (.slice (some ⟨(w.alloc (.cells #[.int .i64 (S : Int), .int .i64 (L : Int), .slice a (ints ms).length cap] 24)).heap.size, 0, none⟩) 1 1) [i] _ hv (hr.ext E0.out) (Reads.new (w.alloc (.cells #[.int .i64 (S : Int), .int .i64 (L : Int), .slice a (ints ms).length cap] 24)) _ 3 _ rfl (by simp) _ rfl 1 1 rfl) hi)
  rw [World.size_alloc] at HO
  clear hr hv
  go_enter Try.func32, Try.ntmps32
  go_wp2_with fail
  refine HO.out.mono ?_
  rintro e w' ⟨rfl, hb⟩
  have HB := Lib.hid (E0.out.trans hb)
  clear hb
  go_wp2
  go_ret2
  exact ⟨rfl, HB.out⟩
theorem keep32_err (S L i : Int) (xs : List Int) (v : Value) (w : World) (hr : Reads w v xs) (hc : chk S L xs ≠ 0) :
    Calls Try.prog 32 #[.agg #[.int .i64 S, .int .i64 L, v], .int .i64 i] w fun e w' => e = .returned (.tuple #[.int .i64 0, .int .i64 (chk S L xs)]) ∧ Ext w w' := by
  obtain ⟨hl, a, cap, rfl⟩ := hr.shape
  have E0 := Lib.hid (((Ext.refl w).alloc (.cells #[.int .i64 S, .int .i64 L, .slice a xs.length cap] 24)).alloc (.cells #[.int .i64 i] 3))
  have H := Lib.hid (open_err S L xs _ (.slice (some ⟨w.heap.size + 1, 0, none⟩) 1 1) _ (hr.ext E0.out) hc)
  clear hr
  obtain ⟨c, hc'⟩ : ∃ c, c = chk S L xs := ⟨_, rfl⟩
  rw [← hc'] at hc H ⊢
  have hd : (c != 0) = true := by simpa using hc
  clear hc hc'
  go_enter Try.func32, Try.ntmps32
  go_wp2_with fail
  refine H.out.mono ?_
  rintro e w' ⟨rfl, hb⟩
  have HB := Lib.hid (E0.out.trans hb); clear hb
  go_wp2
  go_ret2
  exact ⟨rfl, HB.out⟩
end Go.Proofs.Ytlgdnbpboonhdaa
