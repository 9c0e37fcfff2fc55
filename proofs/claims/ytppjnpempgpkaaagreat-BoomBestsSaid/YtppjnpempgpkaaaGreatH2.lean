/- Iterators for consumers that never leave: laws; only, Collect over ints, by their contracts. -/
import Derived.Test.YtppjnpempgpkaaaGreatG2
import Derived.Test.YtppjnpempgpkaaaGreatF5
namespace Go.Proofs.YtppjnpempgpkaaaGreat
open Go.RowKit Go.Shelf
set_option linter.unusedVariables false
set_option linter.unusedSimpArgs false
attribute [local go_sem] Oper.semAt_some
/-- An iterator's word for a consumer that never leaves. -/
def SeqN {α : Type} (n gf : Nat) (lb : Array Value) (encs : α → Array Value) (rs : List Nat) (b e : Nat) (L : List α) (w : World) : Prop :=
  ∀ (l : Nat) (J : Nat → World → Prop) (W : World), Below w.heap.size w W → OwnFrom W.heap.size J →
    (∀ k x X, L[k]? = some x → J k X → YieldAt Fence.wide (n - 1) Tryz.prog l (encs x) X fun r Y => r = .returned (.bool true) ∧ J (k + 1) Y ∧ KeepT rs b e X Y) →
    J 0 W → CallsIn Fence.wide n Tryz.prog gf (#[.func (.yield l) #[] #[]] ++ lb) W fun e Y => (∃ v, e = .returned v) ∧ J L.length Y
theorem SeqN.later {α : Type} {n gf : Nat} {lb : Array Value} {encs : α → Array Value} {rs : List Nat} {b e : Nat} {L : List α} {w w' : World} (h : SeqN n gf lb encs rs b e L w) (hE : Ext w w') : SeqN n gf lb encs rs b e L w' :=
  fun l J W hW hJ hY h0 => h l J W (Below.trans hE (hW.mono hE.size)) hJ hY h0
theorem SeqL.never {α : Type} {n gf : Nat} {lb : Array Value} {encs : α → Array Value} {rs : List Nat} {b e : Nat} {L : List α} {w : World} (h : SeqL n gf lb encs rs b e L w) : SeqN n gf lb encs rs b e L w :=
  fun l J W hW hJ hY h0 => (h l J (fun _ _ => False) W hW hJ (fun _ _ _ _ h _ _ => h) (fun k x X hx hj => by
    obtain ⟨fn, tmps, assign, body, h1, h2⟩ := hY k x X hx hj
    exact ⟨fn, tmps, assign, body, h1, h2.mono fun r Y h => .inl h⟩) h0).mono fun e Y h => ⟨h.1, h.2.elim id fun ⟨_, _, h⟩ => h.elim⟩
/-- How a round ends. -/
def postN (Kp : World → World → Prop) (I : Nat → World → Prop) (k : Nat) (W : World) : Exit → Act → World → Prop
  | .normal, _, Y => Kp W Y ∧ I (k + 1) Y
  | _, _, _ => False
theorem wp_seqN {α : Type} {n : Nat} {g : Operand} {ps : Array Tmp} {assign body : Code} {Q : Exit → Act → World → Prop} {a : Act} {w w0 : World} {gf : Nat} {lb : Array Value} {encs : α → Array Value} {rs : List Nat} {b e : Nat} {L : List α}
    (h1 : 1 ≤ n) (hg : a.eval g = .func (.func gf) #[] lb) (eg : ∀ args W, (callFunc gf args).run Tryz.prog W = .ok (.enter gf args) W) (hseq : SeqN (n - 1) gf lb encs rs b e L w0) (hb0 : Below w0.heap.size w0 w) (hps : ∀ x, (encs x).size = ps.size)
    (hrs : ∀ r ∈ rs, r < w.heap.size)
    (I : Nat → World → Prop) (hI : OwnFrom w.heap.size I) (h0 : I 0 w) (Ax : α → Act → World → Prop) (hAx : ∀ x a', OwnFrom w.heap.size (fun (_ : Unit) W => Ax x a' W))
    (hassign : ∀ (l k : Nat) (x : α) (W : World) (K : Act → World → Prop), w.heap.size ≤ l → L[k]? = some x → I k W → (∀ a' W', KeepT rs b e W W' → I k W' → Ax x a' W' → K a' W') → assign.wpIn (Fence.wide.inRound l) (n - 1 - 1) Tryz.prog (Exit.then K (fun _ _ _ => False)) { tmps := (ps.zip (encs x)).foldl (fun t (p, v) => t.setIfInBounds p v) a.tmps, defers := [] } W)
    (hbody : ∀ (l k : Nat) (x : α) (a' : Act) (W : World), w.heap.size ≤ l → L[k]? = some x → I k W → Ax x a' W →
      body.wpIn (Fence.wide.inRound l) (n - 1 - 1) Tryz.prog (postN (KeepT rs b e) I k W) a' W)
    (hdone : ∀ (D : Nat) (W : World), w.heap.size ≤ D → I L.length W → W.heap[D]? = some (.deferred (some [])) → Q .normal { a with defers := { target := .collected D, args := #[] } :: a.defers } W) :
    (Code.rangeFunc g ps assign body).wpIn Fence.wide n Tryz.prog Q a w := by
  refine wpIn_rangeFunc fun fn hfn => ?_
  let R : LoopState → Option Code → Loop := fun s p => { state := s, pending := p, fn, tmps := a.tmps, params := ps, assign, body, defers := w.heap.size }
  have hE : Ext w ((w.alloc (.deferred (some []))).alloc (.loop (R .ready none))) := ((Ext.refl w).alloc _).alloc _
  have hrec : ((w.alloc (.deferred (some []))).alloc (.loop (R .ready none))).heap[w.heap.size + 1]? = some (.loop (R .ready none)) := by
    have := heap_alloc_new (w.alloc (.deferred (some []))) (.loop (R .ready none)); rwa [World.size_alloc] at this
  have hdef : ((w.alloc (.deferred (some []))).alloc (.loop (R .ready none))).heap[w.heap.size]? = some (.deferred (some [])) :=
    (Below.heap_alloc _ _ _ (by simp)).trans (heap_alloc_new w _)
  have hI0 : I 0 ((w.alloc (.deferred (some []))).alloc (.loop (R .ready none))) := hI.alloc _ (hI.alloc _ h0)
  have hsz : ((w.alloc (.deferred (some []))).alloc (.loop (R .ready none))).heap.size = w.heap.size + 2 := by simp
  have hrun : (Instr.enterLoop fn a.tmps ps assign body Fence.wide.round).run Tryz.prog w = .ok (w.heap.size + 1, [{ target := .collected w.heap.size, args := #[] }]) ((w.alloc (.deferred (some []))).alloc (.loop (R .ready none))) := run_enterLoop_outer _ _ _ _ _
  generalize (w.alloc (.deferred (some []))).alloc (.loop (R .ready none)) = W1 at hE hrec hdef hI0 hsz hrun
  refine ⟨w.heap.size + 1, _, W1, { target := .fn (.func gf) lb, args := #[.func (.yield (w.heap.size + 1)) #[] #[]] }, W1, gf, #[.func (.yield (w.heap.size + 1)) #[] #[]] ++ lb, W1, hrun, ?_, ?_, ?_, fun _ => h1, ?_⟩
  · simp only [resolve, hg]; simp [go_sem]
  · exact fun f' hf' => trivial
  · simp [invoke, go_sem, eg]
  have turn : ∀ {X Y : World} {row : Option Nat} {k : Nat} {o : Obj}, k < W1.heap.size → X.heap[k]? = some o → X.grownBy Y row → (∀ r, row = some r → W1.heap.size ≤ r ∧ ∃ o : Obj, X.heap[r]? = some o ∧ o.isCells = false) → Y.heap[k]? = some o :=
    fun hk hX hg' hr => (hg'.block _ (Array.getElem?_eq_some_iff.1 hX).1 (fun e => by have := (hr _ e.symm).1; omega)).trans hX
  have hl1 : w.heap.size + 1 ∉ rs := fun h => by have := hrs _ h; omega
  have hl0 : w.heap.size ∉ rs := fun h => by have := hrs _ h; omega
  refine (hseq (w.heap.size + 1) (fun k X => I k X ∧ X.heap[w.heap.size + 1]? = some (.loop (R .ready none)) ∧ X.heap[w.heap.size]? = some (.deferred (some [])))
    W1 (hb0.trans (hE.mono hb0.size))
    (fun s X Y row hs hg' hr => ⟨hI s X Y row hs.1 hg' (fun r e => ⟨by have := (hr r e).1; omega, (hr r e).2⟩), turn (by omega) hs.2.1 hg' hr, turn (by omega) hs.2.2 hg' hr⟩) ?_ ⟨hI0, hrec, hdef⟩).mono ?_
  · rintro k x X hx ⟨hi, hl, hd⟩
    refine ⟨_, _, _, _, run_yield hl (hps x), roundIn_of_wpIn hfn (hassign (w.heap.size + 1) k x X _ (by omega) hx hi ?_)⟩
    intro a2 X2 hk2 hi2 hax2
    have hl2 := hk2.blkN hl1 hl rfl
    have hd2 := hk2.blkN hl0 hd rfl
    refine ⟨_, run_beginRound hl2 rfl, ?_⟩
    have hlX := (Array.getElem?_eq_some_iff.1 hl2).1
    have hb := hbody (w.heap.size + 1) k x a2 _ (by omega) hx (hI.putObj (.loop { R .ready none with state := .busy }) hi2 (by omega) hl2 rfl) ((hAx x a2).putObj (s := ()) _ hax2 (by omega) hl2 rfl)
    refine wpIn_mono hb ?_
    have fin : ∀ (jump : Option Code) (Y : World), KeepT rs b e (X2.putObj (w.heap.size + 1) (.loop { R .ready none with state := .busy })) Y →
        (Instr.endRound (w.heap.size + 1) jump).run Tryz.prog Y = .ok (.bool jump.isNone) (Y.putObj (w.heap.size + 1) (.loop (R (if jump.isNone then .ready else .done) jump))) ∧ Y.heap[w.heap.size + 1]? = some (.loop { R .ready none with state := .busy }) ∧
        (Y.putObj (w.heap.size + 1) (.loop (R (if jump.isNone then .ready else .done) jump))).heap[w.heap.size + 1]? = some (.loop (R (if jump.isNone then .ready else .done) jump)) ∧
        (Y.putObj (w.heap.size + 1) (.loop (R (if jump.isNone then .ready else .done) jump))).heap[w.heap.size]? = some (.deferred (some [])) := fun jump Y hk => by
      have hlY : Y.heap[w.heap.size + 1]? = some (.loop { R .ready none with state := .busy }) := hk.blkN hl1 (World.putObj_heap_same hlX) rfl
      have hdY : Y.heap[w.heap.size]? = some (.deferred (some [])) := hk.blkN hl0 ((World.putObj_heap_other (by omega)).trans hd2) rfl
      exact ⟨run_endRound jump hlY, hlY, World.putObj_heap_same (Array.getElem?_eq_some_iff.1 hlY).1, (World.putObj_heap_other (by omega)).trans hdY⟩
    rintro e a3 Y hY
    cases e with
    | normal =>
      obtain ⟨hk, hi3⟩ := hY
      obtain ⟨q1, q2, q3, q4⟩ := fin none Y hk
      exact ⟨_, _, q1, rfl, ⟨hI.putObj _ hi3 (by omega) q2 rfl, q3, q4⟩, hk2.trans (KeepT.put hl1 hl2 rfl hk q2)⟩
    | ret => exact hY.elim
    | exit id => exact hY.elim
    | goto t => exact hY.elim
    | panic ch => exact hY.elim
    | outgrown => exact hY.elim
  · rintro e Y ⟨⟨v, rfl⟩, hi, hl, hd⟩
    exact ⟨_, _, run_endLoop hl (by simp [R]), hdone _ _ (Nat.le_refl _) (hI.putObj _ hi (by omega) hl rfl) ((World.putObj_heap_other (by omega)).trans hd)⟩
/-- Where the assignment makes no memory. -/
theorem wp_seqN1 {α : Type} {n : Nat} {g : Operand} {ps : Array Tmp} {assign body : Code} {Q : Exit → Act → World → Prop} {a : Act} {w w0 : World} {gf : Nat} {lb : Array Value} {encs : α → Array Value} {rs : List Nat} {b e : Nat} {L : List α}
    (h1 : 1 ≤ n) (hg : a.eval g = .func (.func gf) #[] lb) (eg : ∀ args W, (callFunc gf args).run Tryz.prog W = .ok (.enter gf args) W) (hseq : SeqN (n - 1) gf lb encs rs b e L w0) (hb0 : Below w0.heap.size w0 w) (hps : ∀ x, (encs x).size = ps.size)
    (hrs : ∀ r ∈ rs, r < w.heap.size)
    (I : Nat → World → Prop) (hI : OwnFrom w.heap.size I) (h0 : I 0 w) (af : α → Act)
    (hassign : ∀ (l : Nat) (x : α) (W : World) (K : Act → World → Prop), K (af x) W → assign.wpIn (Fence.wide.inRound l) (n - 1 - 1) Tryz.prog (Exit.then K (fun _ _ _ => False)) { tmps := (ps.zip (encs x)).foldl (fun t (p, v) => t.setIfInBounds p v) a.tmps, defers := [] } W)
    (hbody : ∀ (l k : Nat) (x : α) (W : World), w.heap.size ≤ l → L[k]? = some x → I k W → body.wpIn (Fence.wide.inRound l) (n - 1 - 1) Tryz.prog (postN (KeepT rs b e) I k W) (af x) W)
    (hdone : ∀ (D : Nat) (W : World), w.heap.size ≤ D → I L.length W → W.heap[D]? = some (.deferred (some [])) → Q .normal { a with defers := { target := .collected D, args := #[] } :: a.defers } W) :
    (Code.rangeFunc g ps assign body).wpIn Fence.wide n Tryz.prog Q a w :=
  wp_seqN h1 hg eg hseq hb0 hps hrs I hI h0 (fun x a' _ => a' = af x) (fun _ _ _ _ _ _ hs _ _ => hs) (fun l k x W K _ _ hI hK => hassign l x W K (hK _ _ (KeepT.refl _ _ _ _) hI rfl)) (fun l k x a' W hl hx hI hA => by subst hA; exact hbody l k x W hl hx hI) hdone
/-- Where the loop's variable is boxed in each round. -/
theorem wp_seqNB {α : Type} {n : Nat} {g : Operand} {ps : Array Tmp} {assign body : Code} {Q : Exit → Act → World → Prop} {a : Act} {w w0 : World} {gf : Nat} {lb : Array Value} {encs : α → Array Value} {rs : List Nat} {b e : Nat} {L : List α}
    (h1 : 1 ≤ n) (hg : a.eval g = .func (.func gf) #[] lb) (eg : ∀ args W, (callFunc gf args).run Tryz.prog W = .ok (.enter gf args) W) (hseq : SeqN (n - 1) gf lb encs rs b e L w0) (hb0 : Below w0.heap.size w0 w) (hps : ∀ x, (encs x).size = ps.size)
    (hrs : ∀ r ∈ rs, r < w.heap.size)
    (I : Nat → World → Prop) (hI : OwnFrom w.heap.size I) (h0 : I 0 w) (hIE : ∀ k W W', I k W → Ext W W' → I k W') (tb : TypeId) (bx : α → Array Value) (af : Nat → α → Act)
    (hassign : ∀ (l : Nat) (x : α) (W : World) (B : Nat) (K : Act → World → Prop), B = W.heap.size → K (af B x) (W.alloc (.cells (bx x) tb)) → assign.wpIn (Fence.wide.inRound l) (n - 1 - 1) Tryz.prog (Exit.then K (fun _ _ _ => False)) { tmps := (ps.zip (encs x)).foldl (fun t (p, v) => t.setIfInBounds p v) a.tmps, defers := [] } W)
    (hbody : ∀ (l k : Nat) (x : α) (Bx : Nat) (W : World), w.heap.size ≤ l → L[k]? = some x → I k W → w.heap.size ≤ Bx → W.heap[Bx]? = some (.cells (bx x) tb (0, 0)) → body.wpIn (Fence.wide.inRound l) (n - 1 - 1) Tryz.prog (postN (KeepT rs b e) I k W) (af Bx x) W)
    (hdone : ∀ (D : Nat) (W : World), w.heap.size ≤ D → I L.length W → W.heap[D]? = some (.deferred (some [])) → Q .normal { a with defers := { target := .collected D, args := #[] } :: a.defers } W) :
    (Code.rangeFunc g ps assign body).wpIn Fence.wide n Tryz.prog Q a w :=
  wp_seqN h1 hg eg hseq hb0 hps hrs (fun k W => I k W ∧ w.heap.size ≤ W.heap.size) (fun s A B row hs hg hr => ⟨hI s A B row hs.1 hg hr, Nat.le_trans hs.2 hg.size⟩) ⟨h0, Nat.le_refl _⟩ (fun x a' W => ∃ Bx, w.heap.size ≤ Bx ∧ W.heap[Bx]? = some (.cells (bx x) tb (0, 0)) ∧ a' = af Bx x)
    (fun x a' s A B row hs hg hr => let ⟨Bx, h1, h2, h3⟩ := hs; ⟨Bx, h1, cells_turn h2 hg hr, h3⟩)
    (fun l k x W K _ _ hI hK => hassign l x W W.heap.size K rfl (hK (af W.heap.size x) (W.alloc (.cells (bx x) tb)) (KeepT.ext ((Ext.refl W).alloc _)) ⟨hIE _ _ _ hI.1 ((Ext.refl W).alloc _), by have := hI.2; simp; omega⟩ ⟨W.heap.size, hI.2, heap_alloc_new _ _, rfl⟩))
    (fun l k x a' W hl hx hI hA => by
      obtain ⟨Bx, h1, h2, rfl⟩ := hA
      refine wpIn_mono (hbody l k x Bx W hl hx hI.1 h1 h2) ?_
      intro e a3 Y hY
      cases e <;> try exact hY
      exact ⟨hY.1, hY.2, Nat.le_trans hI.2 hY.1.size⟩)
    (fun D W hD hI hW => hdone D W hD hI.1 hW)

def cntP {α : Type} (p : α → Bool) (L : List α) (k : Nat) : Nat := ((L.take k).filter p).length
theorem cntP_yes {α : Type} {p : α → Bool} {L : List α} {k : Nat} {x : α} (h : L[k]? = some x) (hp : p x = true) : (L.filter p)[cntP p L k]? = some x ∧ cntP p L (k + 1) = cntP p L k + 1 := by
  have h1 : (L.take (k + 1)).filter p = (L.take k).filter p ++ [x] := by rw [take_snoc h, List.filter_append]; simp [hp]
  refine ⟨?_, by unfold cntP; rw [h1]; simp⟩
  have h2 : L.filter p = (L.take (k + 1)).filter p ++ (L.drop (k + 1)).filter p := by rw [← List.filter_append, List.take_append_drop]
  rw [h2, h1]
  unfold cntP
  simp
theorem cntP_no {α : Type} {p : α → Bool} {L : List α} {k : Nat} {x : α} (h : L[k]? = some x) (hp : p x = false) : cntP p L (k + 1) = cntP p L k := by
  unfold cntP
  rw [take_snoc h, List.filter_append]; simp [hp]
theorem boxed_set {X : World} {b : Nat} {t : TypeId} {v : Value} (h : X.heap[b]? = some (.cells #[v] t (0, 0))) (u : Value) : (X.setCell ⟨b, 0, none⟩ u).heap[b]? = some (.cells #[u] t (0, 0)) := by
  have := set_blk (cs := [v]) (o := 0) h u
  simpa using this
theorem only_c (ga mf : Nat) (ca : Array Value) (recv : Value) (w : World) : Calls Tryz.prog 87 #[.func (.func ga) #[] ca, .func (.func mf) #[recv] #[]] w fun e w' =>
    e = .returned (.func (.func 115) #[] #[.pointer (some ⟨w.heap.size, 0, none⟩), .pointer (some ⟨w.heap.size + 1, 0, none⟩)]) ∧ w' = (w.alloc (.cells #[.func (.func ga) #[] ca] 128)).alloc (.cells #[.func (.func mf) #[recv] #[]] 87) := by
  go_enter Tryz.func87, Tryz.ntmps87
  go_wp2
  go_ret
  exact ⟨rfl, rfl⟩
set_option maxRecDepth 100000 in
set_option maxHeartbeats 1000000 in
/-- The iterator only over ints: those that are meant. -/
theorem only_seq (f Ba Bm ga mf b e : Nat) (he : e ≠ 87 ∧ e ≠ 128) (ca : Array Value) (recv : Value) (rs : List Nat) (p : Nat → Bool) (L : List Nat) (w : World) (hf : 2 ≤ f) (hba : Boxed w Ba 128 (.func (.func ga) #[] ca)) (hbm : Boxed w Bm 87 (.func (.func mf) #[recv] #[]))
    (ega : ∀ args W, (callFunc ga args).run Tryz.prog W = .ok (.enter ga args) W) (egm : ∀ args W, (callFunc mf args).run Tryz.prog W = .ok (.enter mf args) W)
    (hrs : ∀ r ∈ rs, r < w.heap.size) (hna : Ba ∉ rs) (hnm : Bm ∉ rs)
    (hseq : SeqN (f - 1) ga ca encI rs b e L w)
    (hm : ∀ (X : World) (x : Nat), x ∈ L → KeepT rs b e w X → Calls Tryz.prog mf #[recv, .int .i64 (x : Int)] X fun e w' => e = .returned (.bool (p x)) ∧ Ext X w') :
    SeqN f 115 #[.pointer (some ⟨Ba, 0, none⟩), .pointer (some ⟨Bm, 0, none⟩)] encI rs b e (L.filter p) w := by
  intro l J W hW hJ hY h0
  have HY := Lib.hid hY; have HJ := Lib.hid hJ; have H0 := Lib.hid h0; have HRS := Lib.hid hrs; have HM := Lib.hid hm; have HSEQ := Lib.hid hseq; have HBM := Lib.hid hbm; have HNM := Lib.hid hnm
  have c1 := Boxed.cell (block_ext hW hba)
  have l1 := hba.lt; have l2 := hbm.lt; have l3 := hW.size
  clear hY hJ h0 hba hbm hrs hm hseq hna hnm
  refine callsIn_of_wp_marks Tryz.func115 rfl trivial ?_ rfl
  simp only [Tryz.ntmps115, List.size_toArray, List.length_cons, List.length_nil, Nat.reduceAdd, Nat.reduceSub, Array.replicate_succ, Array.replicate_zero, List.push_toArray, List.append_toArray, List.nil_append, List.cons_append]
  have hE1 : Ext W (W.alloc (.cells #[.func (.yield l) #[] #[]] 87)) := (Ext.refl W).alloc _
  have hy1 : Boxed (W.alloc (.cells #[.func (.yield l) #[] #[]] 87)) W.heap.size 87 (.func (.yield l) #[] #[]) := Boxed.new W 87 _
  have hz1 : (W.alloc (.cells #[.func (.yield l) #[] #[]] 87)).heap.size = W.heap.size + 1 := by simp
  have c1 := cell_ext hE1 c1
  gi_wp2
  generalize hW1 : W.alloc (.cells #[.func (.yield l) #[] #[]] 87) = W1 at *
  clear hW1
  refine wp_seqN1 (by omega) (gf := ga) (lb := ca) (encs := encI) (ps := #[6]) (rs := rs) (b := b) (e := e) rfl ega HSEQ.out (Below.trans hW (hE1.mono hW.size)) (fun _ => rfl) (fun r hr => by have := HRS.out r hr; omega)
    (fun k X => J (cntP p L k) X ∧ KeepT rs b e W1 X) ?hI ⟨abides HJ.out H0.out hE1, KeepT.refl _ _ _ _⟩ ?af ?assign ?body ?done
  case hI => exact OwnFrom.and (fun s A B row hs hg hr => HJ.out _ A B row hs hg (fun r e => ⟨by have := (hr r e).1; omega, (hr r e).2⟩)) (ownFrom_keepT (Nat.le_refl _))
  case assign =>
    rintro l' x X K hK
    dsimp only [encI]
    gi_wp2
    exact hK
  case body =>
    rintro l' k x X hl' hx ⟨hJX, hKX⟩
    have nb : W.heap.size ∉ rs := fun h => by have := HRS.out _ h; omega
    have cm := (hKX.boxed HNM.out (block_ext hE1 (block_ext hW HBM.out)) (fun h => he.1 h.symm)).cell
    have cy := (hKX.boxed nb hy1 (fun h => he.1 h.symm)).cell
    have hk0 : KeepT rs b e w X := (KeepT.ext (hW.trans (hE1.mono hW.size))).trans hKX
    have hM := HM.out X x (List.mem_of_getElem? hx) hk0
    have HX := Lib.hid hx
    have HKX := Lib.hid hKX; have HJX := Lib.hid hJX
    obtain ⟨pv, hpv⟩ : ∃ pv, pv = p x := ⟨_, rfl⟩
    rw [← hpv] at hM
    have HMM := Lib.hid hM; have HPV := Lib.hid hpv
    have HY1 := Lib.hid hy1
    have CY := Lib.hid (fun (Y : World) (h : Ext X Y) => cell_ext h cy)
    clear hKX hJX hk0 hM hpv hy1 c1 hx
    try dsimp only
    cases pv
    · gi_wp2_with fail
      refine ⟨trivial, fun h => (by cases h), ?_⟩
      refine (CallsIn.inRound l' (callsIn_wide.2 HMM.out)).mono ?_
      rintro e w' ⟨rfl, hb⟩
      have HB := Lib.hid hb; clear hb
      gi_wp2
      refine ⟨fun f' h => (by cases h), ?_⟩
      gi_wp2
      refine ⟨KeepT.ext HB.out, ?_, HKX.out.trans (KeepT.ext HB.out)⟩
      rw [cntP_no HX.out HPV.out.symm]
      exact HJ.out _ _ _ none HJX.out ⟨HB.out.os, HB.out.tape, HB.out.output, HB.out.size, fun i hi _ => HB.out.block i hi⟩ (fun r e => by cases e)
    · gi_wp2_with fail
      refine ⟨trivial, fun h => (by cases h), ?_⟩
      refine (CallsIn.inRound l' (callsIn_wide.2 HMM.out)).mono ?_
      rintro e w' ⟨rfl, hb⟩
      have cy' := CY.out w' hb
      have hJ' : J (cntP p L k) w' := HJ.out _ _ _ none HJX.out ⟨hb.os, hb.tape, hb.output, hb.size, fun i hi _ => hb.block i hi⟩ (fun r e => by cases e)
      obtain ⟨q1, q2⟩ := cntP_yes HX.out HPV.out.symm
      obtain ⟨fn, tmps, assign, body, hyy, hR⟩ := HY.out _ _ w' q1 hJ'
      have HR := Lib.hid (RoundIn.any (m' := f - 1 - 1 - 1) (l0 := l') hR)
      have HB := Lib.hid hb; have HQ2 := Lib.hid q2
      clear hb hR hJ' q1 q2
      dsimp only [encI] at hyy
      gi_wp2_with fail
      refine ⟨fun h => (by cases h), ?_⟩
      refine HR.out.mono ?_
      rintro e W5 ⟨rfl, hJ5, hK5⟩
      have HJ5 := Lib.hid hJ5; have HK5 := Lib.hid ((KeepT.ext HB.out).trans hK5)
      clear hJ5 hK5 HR
      gi_wp2
      refine ⟨HK5.out, ?_, HKX.out.trans HK5.out⟩
      rw [HQ2.out]
      exact HJ5.out
  case done =>
    rintro D X hD ⟨hJX, hKX⟩ hDW
    have hJ2 : J (L.filter p).length (X.putObj D (.deferred none)) := by
      have h := HJ.out.putObj (.deferred none) hJX (by omega) hDW rfl
      unfold cntP at h
      rwa [List.take_length] at h
    have HJ2 := Lib.hid hJ2; have HDW := Lib.hid hDW
    clear hJ2 hDW hJX hKX
    gi_wp2
    refine ⟨by simp, .inl ⟨_, _, rfl, run_takeDeferred HDW.out, ?_⟩⟩
    exact ⟨_, results_none rfl _ _ _, ⟨_, rfl⟩, HJ2.out⟩
theorem own_from {e B n z : Nat} {w : World} {v : Value} {xs : List Value} (h : w.ownsRow B e z v n xs) : ∀ g, v.ownBlock = some g → B ≤ g := by
  intro g hg
  rcases h.2 with ⟨rfl, -⟩ | ⟨gv, capv, cur, rfl, hgB, hv, -⟩
  · cases hg
  · have : gv = g := by simpa [Value.ownBlock] using hg
    omega
theorem own_blk' {e B n z : Nat} {w : World} {v : Value} {xs : List Value} (h : w.ownsRow B e z v n xs) {g : Nat} (hg : v.ownBlock = some g) : ∃ cs : Array Value, w.heap[g]? = some (Obj.cells cs e (0, 0)) := by
  rcases h.2 with ⟨rfl, -⟩ | ⟨gv, capv, cur, rfl, hgB, hv, -⟩
  · cases hg
  · have : gv = g := by simpa [Value.ownBlock] using hg
    subst this
    exact ⟨cur, hv⟩
theorem KeepT.own {rs : List Nat} {B e : Nat} {A C : World} {v : Value} {n z : Nat} {xs : List Value} (h : A.ownsRow B e z v n xs) (hg : A.grownBy C v.ownBlock) : KeepT rs B e A C :=
  ⟨hg.os, hg.tape, hg.output, hg.size, fun k hk _ hc => hg.block k hk (fun e2 => by
    obtain ⟨c, h2⟩ := own_blk' h e2.symm
    exact hc ⟨own_from h k e2.symm, c, _, h2⟩)⟩
theorem own_shape {e B n z : Nat} {w : World} {v : Value} {xs : List Value} (h : w.ownsRow B e z v n xs) : ∃ a cap, v = .slice a n cap := by
  obtain ⟨_, ⟨rfl, h0⟩ | ⟨g, cap, cur, rfl, hb, hh, hn, hc, hs, ht⟩⟩ := h
  · exact ⟨none, 0, by rw [h0]⟩
  · exact ⟨_, cap, rfl⟩
theorem OwnI.putNot {e : TypeId} {B D : Nat} {w : World} {o o' : Obj} {v : Value} {xs : List Int} (h : OwnI e B w v xs) (hd : w.heap[D]? = some o) (ho : o.isCells = false) : OwnI e B (w.putObj D o') v xs := by
  obtain ⟨q1, q2⟩ := h
  refine ⟨q1, q2.imp id ?_⟩
  rintro ⟨g, cap, cur, rfl, hgb, hh, r⟩
  refine ⟨g, cap, cur, rfl, hgb, ?_, r⟩
  rw [World.putObj_heap_other (by rintro rfl; rw [hh] at hd; cases hd; cases ho)]
  exact hh
set_option maxRecDepth 100000 in
set_option maxHeartbeats 1000000 in
theorem appendSeq_c (w : World) (ga : Nat) (ca : Array Value) (L : List Nat) (hL : L.length ≤ 4000)
    (ega : ∀ args W, (callFunc ga args).run Tryz.prog W = .ok (.enter ga args) W)
    (hseq : ∀ W, Ext w W → w.heap.size + 1 = W.heap.size → SeqN 11 ga ca encI [w.heap.size] W.heap.size 3 L W) :
    Calls Tryz.prog 114 #[.slice none 0 0, .func (.func ga) #[] ca] w fun e w' => ∃ u, e = .returned u ∧ OwnI 3 w.heap.size w' u (natI L) ∧ Ext w w' := by
  refine (callsIn_wide (n := 12)).1 ?_
  obtain ⟨w1, hw1⟩ : ∃ w1, w1 = w.alloc (.cells #[.slice none 0 0] 22) := ⟨_, rfl⟩
  have hE1 : Ext w w1 := by rw [hw1]; exact (Ext.refl w).alloc _
  have hb1 : Boxed w1 w.heap.size 22 (.slice none 0 0) := by rw [hw1]; exact Boxed.new w 22 _
  have hz1 : w1.heap.size = w.heap.size + 1 := by rw [hw1]; simp
  have HSEQ := Lib.hid (hseq w1 hE1 hz1.symm)
  have HE1 := Lib.hid hE1; have HB1 := Lib.hid hb1; have HZ1 := Lib.hid hz1
  obtain ⟨i0, hi0, hz0, hzz, hz2⟩ := info_parts Tryz.info3
  have HI0 := Lib.hid hi0; have HI1 := Lib.hid hz0; have HI2 := Lib.hid hzz; have HI3 := Lib.hid hz2
  clear hseq hE1 hb1 hz1 hi0 hz0 hzz hz2
  refine callsIn_of_wp_marks Tryz.func114 rfl trivial ?_ rfl
  simp only [Tryz.ntmps114, List.size_toArray, List.length_cons, List.length_nil, Nat.reduceAdd, Nat.reduceSub, Array.replicate_succ, Array.replicate_zero, List.push_toArray, List.append_toArray, List.nil_append, List.cons_append]
  gi_wp2
  rw [← hw1]
  clear hw1
  refine wp_seqN1 (n := 12) (by omega) (gf := ga) (encs := encI) (ps := #[7]) (rs := [w.heap.size]) (b := w1.heap.size) (e := 3) rfl ega HSEQ.out (Below.refl _ _) (fun _ => rfl) (by have := HZ1.out; simp; omega)
    (fun k X => ∃ u, X.heap[w.heap.size]? = some (.cells #[u] 22 (0, 0)) ∧ OwnI 3 w1.heap.size X u (natI (L.take k)) ∧ KeepT [w.heap.size] w1.heap.size 3 w1 X) ?hI ?h0 ?af ?assign ?body ?done
  case hI =>
    rintro s A B row ⟨u, h1, h2, h3⟩ hg hr
    refine ⟨u, cells_turn h1 hg hr, ?_, ownFrom_keepT (β := Unit) (Nat.le_refl _) () A B row h3 hg hr⟩
    obtain ⟨q1, q2⟩ := h2
    refine ⟨q1, q2.imp id ?_⟩
    rintro ⟨g, cap, cur, rfl, hgb, hh, r⟩
    exact ⟨g, cap, cur, rfl, hgb, cells_turn hh hg hr, r⟩
  case h0 => exact ⟨_, HB1.out, OwnI.nil _ _ _, KeepT.refl _ _ _ _⟩
  case assign =>
    rintro l2 x X K hK
    dsimp only [encI]
    gi_wp2
    exact hK
  case body =>
    rintro l2 k x X hl2 hx ⟨u, h1, h2, h3⟩
    repeat (rename_i q; clear q)
    have hvs : natI (L.take (k + 1)) = natI (L.take k) ++ [(x : Int)] := by rw [take_snoc hx]; simp [natI]
    have hpl : (natI (L.take k)).length ≤ 4000 := by rw [natI_len, List.length_take]; omega
    obtain ⟨xs, hxs⟩ : ∃ xs, xs = natI (L.take k) := ⟨_, rfl⟩
    rw [← hxs] at h2 hvs hpl
    have cu := cell_of_blk h1 (o := 0) rfl
    obtain ⟨au, capu, rfl, hcu⟩ := h2.shape
    have hEa : Ext X (X.alloc (.cells #[.int .i64 (x : Int)] 3)) := (Ext.refl X).alloc _
    have HOA := Lib.hid (h2.ext hEa)
    have hBA : (X.alloc (.cells #[.int .i64 (x : Int)] 3)).heap[w.heap.size]? = some (.cells #[.slice au xs.length capu] 22 (0, 0)) := block_ext hEa h1
    have HBA := Lib.hid hBA
    have HNB := Lib.hid (own_from HOA.out)
    have HB := Lib.hid h1; have HK := Lib.hid h3; have HVS := Lib.hid hvs; have HEA := Lib.hid hEa
    have hsz := h3.size
    obtain ⟨lx, hlx⟩ : ∃ lx, lx = xs.length := ⟨_, rfl⟩
    have HLX := Lib.hid hlx
    rw [← hlx] at cu hcu hpl HOA HB HBA HNB
    have hlx2 : lx ≤ 9223372036854775807 := by omega
    clear h1 h2 h3 hvs hxs hEa hlx hBA hx
    gi_wp2_with (gi_at_builtin; refine wpListIn_append_own _ rfl _ _ 22 rfl w1.heap.size 3 i0 (.int .i64 0) 1 8 Tryz.underlying22 HI0.out HI1.out HI2.out HI3.out rfl (by decide) (.slice au lx capu) xs.length (xs.map (Value.int .i64)) rfl HOA.out ⟨X.heap.size, 0, none⟩ 1 1 [.int .i64 (x : Int)] rfl rfl (fun j u hj => by
      match j, hj with
      | 0, hj => simp at hj; subst hj; rw [addr_add, World.cell?_alloc_at _ _ _ _ rfl]; rfl) (fun u hu => by simp at hu; subst hu; rfl) (by unfold maxLen; have := HLX.out; omega) (by have := HLX.out; omega) (by simp; omega) ?_; intro v7 w7 r1 r2 _; obtain ⟨a7, cap7, rfl⟩ := own_shape r1; have b7 := (r2.block w.heap.size (lt_of_blk HBA.out) (fun e => by have := HNB.out _ e.symm; have := HZ1.out; omega)).trans HBA.out; have c7 := cell_of_blk b7 (o := 0) rfl; have f7 := frozen_of_blk b7 0)
    have hkA : KeepT [w.heap.size] w1.heap.size 3 (X.alloc (.cells #[.int .i64 (x : Int)] 3)) w7 := KeepT.own (show World.ownsRow _ _ _ _ _ _ _ from HOA.out) r2
    have hkS : KeepT [w.heap.size] w1.heap.size 3 w7 (w7.setCell ⟨w.heap.size, 0, none⟩ (.slice a7 (xs.length + 1) cap7)) := KeepT.set w7 (by simp) _
    have hkX := ((KeepT.ext HEA.out).trans hkA).trans hkS
    refine ⟨hkX, _, boxed_set b7 _, ?_, HK.out.trans hkX⟩
    rw [HVS.out]
    refine OwnI.grown (b := w.heap.size) ?_ (grown_set _ _ _ _) (by have := HZ1.out; omega)
    unfold OwnI
    simpa using r1
  case done =>
    rintro D X hD ⟨u, h1, h2, h3⟩ hDW
    have hEX : Ext w X := KeepT.below HE1.out h3 (by simp) HE1.out.size
    have cf := cell_of_blk h1 (o := 0) rfl
    have HF := Lib.hid (show OwnI 3 w1.heap.size X u (natI L) from by rw [List.take_length] at h2; exact h2)
    have HEX := Lib.hid hEX; have HDW := Lib.hid hDW
    have hlD : w1.heap.size ≤ D := hD
    have HZ := HZ1.out
    clear h1 h2 h3 hEX hDW
    gi_wp2
    refine ⟨by simp, .inl ⟨_, _, rfl, run_takeDeferred HDW.out, ?_⟩⟩
    refine ⟨u, by simp [results, Tryz.results114, go_sem], u, rfl, ?_, ?_⟩
    · exact (ownI_weak HF.out (by omega)).putNot HDW.out rfl
    · have h := HEX.out
      exact ⟨h.os, h.tape, h.output, by have := h.size; simpa [World.putObj] using this, fun k hk => by rw [World.putObj_heap_other (by omega)]; exact h.block k hk⟩
theorem collect_c (w : World) (ga : Nat) (ca : Array Value) (L : List Nat) (hL : L.length ≤ 4000)
    (ega : ∀ args W, (callFunc ga args).run Tryz.prog W = .ok (.enter ga args) W)
    (hseq : ∀ W, Ext w W → w.heap.size + 1 = W.heap.size → SeqN 11 ga ca encI [w.heap.size] W.heap.size 3 L W) :
    Calls Tryz.prog 86 #[.func (.func ga) #[] ca] w fun e w' => ∃ u, e = .returned u ∧ OwnI 3 w.heap.size w' u (natI L) ∧ Ext w w' := by
  have hc := appendSeq_c w ga ca L hL ega hseq
  have HC := Lib.hid hc
  clear hc hseq
  go_enter Tryz.func86, Tryz.ntmps86
  go_wp2_with fail
  refine (HC.out).mono ?_
  rintro e w' ⟨u, rfl, h1, h2⟩
  have H1 := Lib.hid h1; have H2 := Lib.hid h2
  clear h1 h2
  go_wp2
  go_ret
  exact ⟨u, rfl, H1.out, H2.out⟩
theorem range_all {X : World} {b : Nat} {A : Array Value} {t : TypeId} {fr : Nat × Nat} (h : X.heap[b]? = some (.cells A t fr)) : X.rangeAt b 0 A.toList := by
  intro j x hx
  rw [Nat.zero_add]
  exact cell_of_blk h (by simpa using hx)
/-- The cells of a raft, increasing. -/
def cellsR (n : Nat) (rd : List Bool) : List Nat := (List.range n).filter (isR rd)
set_option maxRecDepth 100000 in
theorem cells_c (W H nw cw nk ck : Nat) (aw ak : Option Addr) {A : Array Value} {rd : List Bool} (hA : IsRaft A W H (.slice aw nw cw) (.slice ak nk ck) rd) (hW : 1 ≤ W ∧ W ≤ 8) (hH : 1 ≤ H ∧ H ≤ 8) (w : World) :
    Calls Tryz.prog 49 #[.agg A] w fun e w' => ∃ u, e = .returned u ∧ OwnI 3 w.heap.size w' u (natI (cellsR (W * H) rd)) ∧ Ext w w' := by
  have hn64 : W * H ≤ 64 := Nat.mul_le_mul hW.2 hH.2
  obtain ⟨w1, hw1⟩ : ∃ w1, w1 = w.alloc (.cells A 78) := ⟨_, rfl⟩
  have hE1 : Ext w w1 := by rw [hw1]; exact (Ext.refl w).alloc _
  have B1 := Lib.hid (show w1.heap[w.heap.size]? = some (.cells A 78 (0, 0)) from by rw [hw1]; exact heap_alloc_new w _)
  have HAC := Lib.hid (fun X => all_c W H nw cw nk ck aw ak X)
  have HOC := Lib.hid (fun X Bp => only_c 116 53 #[.pointer (some ⟨Bp, 0, none⟩)] (.agg A) X)
  have HCO := Lib.hid (fun (X : World) (Ba Bp : Nat) (h1 : X.heap[Bp]? = some (.cells #[.int .i64 (W : Int), .int .i64 (H : Int), .slice aw nw cw, .slice ak nk ck] 72 (0, 0))) (h2 : Boxed X Ba 128 (.func (.func 116) #[] #[.pointer (some ⟨Bp, 0, none⟩)])) (h3 : Boxed X (Ba + 1) 87 (.func (.func 53) #[.agg A] #[])) =>
    collect_c X 115 #[.pointer (some ⟨Ba, 0, none⟩), .pointer (some ⟨Ba + 1, 0, none⟩)] (cellsR (W * H) rd) (Nat.le_trans (List.length_filter_le _ _) (by simp; omega)) (enters_of Tryz.func115 (by kernel_rfl) rfl) fun Y hY hz => by
      have q1 := lt_of_blk h1; have q2 := h2.lt; have q3 := h3.lt
      refine only_seq 11 Ba (Ba + 1) 116 53 _ 3 (by decide) _ (.agg A) [X.heap.size] (isR rd) (List.range (W * H)) Y (by omega) (block_ext hY h2) (block_ext hY h3) (enters_of Tryz.func116 (by kernel_rfl) rfl) (enters_of Tryz.func53 (by kernel_rfl) rfl) (by simp; omega) (by simp; omega) (by simp; omega) ?_ ?_
      · exact (all_seq W H nw cw nk ck aw ak 10 Bp [X.heap.size] Y.heap.size 3 Y (by omega) hW hH (block_ext hY h1) (by simp; omega) (.inl (by decide))).never
      · intro Z x hx hk
        have hx2 := List.mem_range.1 hx
        have := holds_c hA (x : Int) (by omega) Z
        rwa [hld_nat] at this)
  have HI := Lib.hid hA.info; have HH := Lib.hid hA.head
  have HE1 := Lib.hid hE1; have HW1 := Lib.hid hw1
  clear hE1 hw1
  go_enter Tryz.func49, Tryz.ntmps49
  go_upto_region 1 with fail
  rw [← HW1.out]
  refine wp_region_order (fun Y : World => Y.heap[w.heap.size]? = some (.cells A 78 (0, 0))) [0, 1, 3, 4, 2, 5, 6, 7] (by kernel_rfl) (by kernel_rfl) (by exact (show w1.drew.heap[w.heap.size]? = some (.cells A 78 (0, 0)) from B1.out)) (fun hHeld => ?_)
  simp only [opsIn, List.filterMap_cons, List.filterMap_nil, List.getElem?_toArray, List.getElem?_cons_succ, List.getElem?_cons_zero]
  refine' text_chunk 2 (by kernel_rfl) hHeld ?ck1 ?cr1
  case ck1 =>
    intro W hSw
    have hSW := hSw
    try dsimp only at hSW
    clear hSw
    obtain ⟨h0, h1, h2, h3⟩ := HH.out
    have p0 := cell_of_blk hSW h0
    have p1 := cell_of_blk hSW h1
    have p2 := cell_of_blk hSW h2
    have p3 := cell_of_blk hSW h3
    clear h0 h1 h2 h3
    simp only [List.take_succ_cons, List.take_zero, List.drop_succ_cons, List.drop_zero]
    repeat (go_big_quiet_step (fail))
    exact wpQuiet_nil rfl
  simp only [List.take_succ_cons, List.take_zero, List.drop_succ_cons, List.drop_zero]
  refine text_take (by rfl) (by rfl) (fun W hW => exec_load_mid 78 (.tmp 1) rfl w.heap.size 0 rfl _ _ (range_all hW) Tryz.underlying78 rfl (by rw [HI.out]; rfl)) ?_
  try simp only [Act.put, List.setIfInBounds_toArray, List.set_cons_zero, List.set_cons_succ]
  refine' text_chunk 1 (by kernel_rfl) hHeld ?ck2 ?cr2
  case ck2 =>
    intro W hSw
    have hSW := hSw
    try dsimp only at hSW
    clear hSw
    skip
    simp only [List.take_succ_cons, List.take_zero, List.drop_succ_cons, List.drop_zero]
    repeat (go_big_quiet_step (fail))
    exact wpQuiet_nil rfl
  simp only [List.take_succ_cons, List.take_zero, List.drop_succ_cons, List.drop_zero]
  refine text_call (by rfl) (by rfl) (fun K hK => ?_)
  go_simp
  refine Calls.mono (HAC.out _) ?_
  intro e Y5 h1; obtain ⟨h1, hY5⟩ := h1; subst h1
  have HEY := Lib.hid (show Ext w1.drew Y5 from by rw [hY5]; exact (Ext.refl _).alloc _)
  have P5 := Lib.hid (show Y5.heap[w1.heap.size]? = some (.cells #[.int .i64 (W : Int), .int .i64 (H : Int), .slice aw nw cw, .slice ak nk ck] 72 (0, 0)) from by rw [hY5]; exact heap_alloc_new w1.drew _)
  have HZ5 := Lib.hid (show Y5.heap.size = w1.heap.size + 1 from by rw [hY5]; simp)
  clear hY5
  all_goals (try (go_wp2_with fail))
  refine hK.out _ _ (by exact block_ext HEY.out hHeld) (fun hHeld => ?_)
  clear hK K
  try simp only [Act.put, List.setIfInBounds_toArray, List.set_cons_zero, List.set_cons_succ]
  refine text_call (by rfl) (by rfl) (fun K hK => ?_)
  go_simp
  refine Calls.mono (HOC.out _ _) ?_
  intro e Y6 h1; obtain ⟨h1, hY6⟩ := h1; subst h1
  have HE6 := Lib.hid (show Ext Y5 Y6 from by rw [hY6]; exact ((Ext.refl _).alloc _).alloc _)
  have BA := Lib.hid (show Boxed Y6 Y5.heap.size 128 (.func (.func 116) #[] #[.pointer (some ⟨w1.heap.size, 0, none⟩)]) from by rw [hY6]; exact block_ext ((Ext.refl _).alloc _) (heap_alloc_new Y5 _))
  have BB := Lib.hid (show Boxed Y6 (Y5.heap.size + 1) 87 (.func (.func 53) #[.agg A] #[]) from by rw [hY6]; exact heap_alloc_at (Y5.alloc _) _ (by simp))
  clear hY6
  all_goals (try (go_wp2_with fail))
  refine hK.out _ _ (by exact block_ext HE6.out hHeld) (fun hHeld => ?_)
  clear hK K
  try simp only [Act.put, List.setIfInBounds_toArray, List.set_cons_zero, List.set_cons_succ]
  refine text_call (by rfl) (by rfl) (fun K hK => ?_)
  go_simp
  refine Calls.mono (HCO.out Y6 Y5.heap.size w1.heap.size (block_ext HE6.out P5.out) BA.out BB.out) ?_
  intro e Y7 h1; obtain ⟨u, h1, ho, he⟩ := h1; subst h1
  have HO7 := Lib.hid ho; have HE7 := Lib.hid he
  clear ho he
  all_goals (try (go_wp2_with fail))
  refine hK.out _ _ (by exact block_ext HE7.out hHeld) (fun hHeld => ?_)
  clear hK K
  try simp only [Act.put, List.setIfInBounds_toArray, List.set_cons_zero, List.set_cons_succ]
  refine' text_chunk 1 (by kernel_rfl) hHeld ?ck3 ?cr3
  case ck3 =>
    intro W hSw
    have hSW := hSw
    try dsimp only at hSW
    clear hSw
    skip
    simp only [List.take_succ_cons, List.take_zero, List.drop_succ_cons, List.drop_zero]
    repeat (go_big_quiet_step (fail))
    exact wpQuiet_nil rfl
  simp only [List.take_succ_cons, List.take_zero, List.drop_succ_cons, List.drop_zero]
  refine text_done ?_
  clear hHeld
  go_wp2
  go_ret
  exact ⟨u, rfl, ownI_weak HO7.out (by have := HE6.out.size; have := HEY.out.size; have := HE1.out.size; simp at *; omega), HE1.out.trans ((Ext.refl w1).drew.trans (HEY.out.trans (HE6.out.trans HE7.out)))⟩
end Go.Proofs.YtppjnpempgpkaaaGreat
