/- The net in memory: its block; marks and last links read and stored; marks cleared. -/
import Derived.Test.YtclcippfodjfeaaI7
import Derived.Deep.MidRow
import Derived.Laws.CopyRow
import Derived.Laws.StructEq
import Derived.DeepKeys4
import Derived.Deep.Cut
import Derived.Lib.SliceRun
namespace Go.Proofs.Ytclcippfodjfeaa
open Go.RowKit Go.Shelf
set_option linter.unusedVariables false
set_option linter.unusedSimpArgs false
def lkC (l : Lk) : List Value := [.int .i64 (l.1 : Int), .int .i64 (l.2 : Int)]
def lastC (last : List Lk) : List Value := last.flatMap lkC
theorem lastC_cons (l : Lk) (ls : List Lk) : lastC (l :: ls) = .int .i64 (l.1 : Int) :: .int .i64 (l.2 : Int) :: lastC ls := by simp [lastC, lkC]
theorem lastC_len (ls : List Lk) : (lastC ls).length = 2 * ls.length := by
  induction ls with
  | nil => rfl
  | cons l ls ih => rw [lastC_cons, List.length_cons, List.length_cons, List.length_cons, ih]; omega
theorem lastC_one : ∀ (ls : List Lk) (i : Nat), i < ls.length → (lastC ls)[2 * i]? = some (.int .i64 ((la ls i).1 : Int)) ∧ (lastC ls)[2 * i + 1]? = some (.int .i64 ((la ls i).2 : Int))
  | [], i, h => by simp at h
  | l :: ls, 0, h => by rw [lastC_cons]; simp [la]
  | l :: ls, i + 1, h => by
    have := lastC_one ls i (by simpa using h)
    rw [lastC_cons, show 2 * (i + 1) = 2 * i + 1 + 1 by omega, List.getElem?_cons_succ, List.getElem?_cons_succ, List.getElem?_cons_succ, List.getElem?_cons_succ]
    simpa [la] using this
theorem lastC_set : ∀ (ls : List Lk) (i : Nat) (l : Lk), ((lastC ls).set (2 * i) (.int .i64 (l.1 : Int))).set (2 * i + 1) (.int .i64 (l.2 : Int)) = lastC (ls.set i l)
  | [], i, l => by simp [lastC]
  | m :: ls, 0, l => by rw [lastC_cons]; simp [lastC_cons]
  | m :: ls, i + 1, l => by
    have := lastC_set ls i l
    rw [lastC_cons, show 2 * (i + 1) = 2 * i + 1 + 1 by omega, List.set_cons_succ, List.set_cons_succ, List.set_cons_succ, List.set_cons_succ, this, List.set_cons_succ, lastC_cons]
def netC (v : Value) (mf : Nat) (far : List Int) (last : List Lk) : List Value := v :: .map (some mf) :: (far.map (Value.int .i64) ++ lastC last)
structure NetB (W : World) (bn : Nat) (v : Value) (mf : Nat) (far : List Int) (last : List Lk) : Prop where
  l1 : far.length = 62
  l2 : last.length = 62
  blk : W.heap[bn]? = some (.cells (netC v mf far last).toArray 80 (0, 0))
variable {W W' : World} {bn : Nat} {v : Value} {mf : Nat} {far : List Int} {last : List Lk}
theorem NetB.lt (h : NetB W bn v mf far last) : bn < W.heap.size := lt_of_blk h.blk
theorem NetB.wanted (h : NetB W bn v mf far last) : W.cell? ⟨bn, 0, none⟩ = some v := cell_of_blk h.blk rfl
theorem NetB.flow (h : NetB W bn v mf far last) : W.cell? ⟨bn, 1, none⟩ = some (.map (some mf)) := cell_of_blk h.blk rfl
theorem fa_get {far : List Int} {i : Nat} (h : i < far.length) : far[i]? = some (fa far i) := by unfold fa; rw [List.getD_eq_getElem?_getD, List.getElem?_eq_getElem h]; rfl
theorem NetB.farAt (h : NetB W bn v mf far last) {i : Nat} (hi : i < 62) : W.cell? ⟨bn, 2 + i, none⟩ = some (.int .i64 (fa far i)) :=
  cell_of_blk h.blk (by
    rw [List.getElem?_toArray]
    unfold netC
    rw [show 2 + i = i + 1 + 1 by omega, List.getElem?_cons_succ, List.getElem?_cons_succ, List.getElem?_append_left (by simp [h.l1, hi]), List.getElem?_map, fa_get (by rw [h.l1]; exact hi)]; rfl)
theorem NetB.last1 (h : NetB W bn v mf far last) {i : Nat} (hi : i < 62) : W.cell? ⟨bn, 64 + 2 * i, none⟩ = some (.int .i64 ((la last i).1 : Int)) :=
  cell_of_blk h.blk (by
    rw [List.getElem?_toArray]
    unfold netC
    rw [show 64 + 2 * i = 62 + 2 * i + 1 + 1 by omega, List.getElem?_cons_succ, List.getElem?_cons_succ, List.getElem?_append_right (by simp [h.l1]), List.length_map, h.l1, show 62 + 2 * i - 62 = 2 * i by omega]
    exact (lastC_one last i (by rw [h.l2]; exact hi)).1)
theorem NetB.last2 (h : NetB W bn v mf far last) {i : Nat} (hi : i < 62) : W.cell? ⟨bn, 64 + 2 * i + 1, none⟩ = some (.int .i64 ((la last i).2 : Int)) :=
  cell_of_blk h.blk (by
    rw [List.getElem?_toArray]
    unfold netC
    rw [show 64 + 2 * i + 1 = 62 + 2 * i + 1 + 1 + 1 by omega, List.getElem?_cons_succ, List.getElem?_cons_succ, List.getElem?_append_right (by simp [h.l1]; omega), List.length_map, h.l1, show 62 + 2 * i + 1 - 62 = 2 * i + 1 by omega]
    exact (lastC_one last i (by rw [h.l2]; exact hi)).2)
theorem NetB.free (h : NetB W bn v mf far last) (o : Nat) : W.frozen? ⟨bn, o, none⟩ = false := frozen_of_blk h.blk o
theorem NetB.setFar (h : NetB W bn v mf far last) {i : Nat} (hi : i < 62) (x : Int) : NetB (W.setCell ⟨bn, 2 + i, none⟩ (.int .i64 x)) bn v mf (far.set i x) last := by
  refine ⟨by rw [List.length_set, h.l1], h.l2, ?_⟩
  rw [set_blk h.blk]
  unfold netC
  rw [show 2 + i = i + 1 + 1 by omega, List.set_cons_succ, List.set_cons_succ, List.set_append_left _ _ (by simp [h.l1, hi]), List.map_set]
theorem NetB.setLast (h : NetB W bn v mf far last) {i : Nat} (hi : i < 62) (l : Lk) : NetB ((W.setCell ⟨bn, 64 + 2 * i, none⟩ (.int .i64 (l.1 : Int))).setCell ⟨bn, 64 + 2 * i + 1, none⟩ (.int .i64 (l.2 : Int))) bn v mf far (last.set i l) := by
  refine ⟨h.l1, by rw [List.length_set, h.l2], ?_⟩
  rw [set_blk (set_blk h.blk (.int .i64 (l.1 : Int))) (.int .i64 (l.2 : Int))]
  unfold netC
  rw [show 64 + 2 * i + 1 = 62 + (2 * i + 1) + 1 + 1 by omega, show 64 + 2 * i = 62 + 2 * i + 1 + 1 by omega, List.set_cons_succ, List.set_cons_succ, List.set_cons_succ, List.set_cons_succ,
    List.set_append_right _ _ (by simp [h.l1]), List.set_append_right _ _ (by simp [h.l1]), List.length_map, h.l1, show 62 + 2 * i - 62 = 2 * i by omega, show 62 + (2 * i + 1) - 62 = 2 * i + 1 by omega, lastC_set]
theorem NetB.range (h : NetB W bn v mf far last) : W.rangeAt bn 2 (far.map (Value.int .i64)) := by
  intro j x hx
  have hj : j < 62 := by have := (List.getElem?_eq_some_iff.1 hx).1; simpa [h.l1] using this
  rw [List.getElem?_map, fa_get (by rw [h.l1]; exact hj)] at hx
  cases hx
  exact h.farAt hj
theorem NetB.same (h : NetB W bn v mf far last) (e : W'.heap[bn]? = W.heap[bn]?) : NetB W' bn v mf far last := ⟨h.l1, h.l2, e.trans h.blk⟩
theorem NetB.ext (h : NetB W bn v mf far last) (hE : Ext W W') : NetB W' bn v mf far last := h.same (hE.block bn h.lt)
theorem NetB.keep {rs : List Nat} {c : Nat} (h : NetB W bn v mf far last) (hk : Keep rs c W W') (hb : bn ∉ rs) : NetB W' bn v mf far last := h.same (hk.block bn h.lt hb)
theorem sets_blk3 {b : Nat} {t : TypeId} {fr : Nat × Nat} : ∀ (vs : List Value) (o : Nat) (w : World) (cs : List Value), w.heap[b]? = some (.cells cs.toArray t fr) → ∃ ds : List Value, ds.length = cs.length ∧ (w.setCells b o vs).heap[b]? = some (.cells ds.toArray t fr) ∧ ∀ i, ds[i]? = if o ≤ i ∧ i < o + vs.length ∧ i < cs.length then vs[i - o]? else cs[i]?
  | [], o, w, cs, h => ⟨cs, rfl, h, fun i => by rw [if_neg (by rw [List.length_nil]; omega)]⟩
  | x :: vs, o, w, cs, h => by
    obtain ⟨ds, h1, h2, h3⟩ := sets_blk3 vs (o + 1) _ _ (set_blk h (o := o) x)
    refine ⟨ds, by simpa using h1, h2, fun i => ?_⟩
    rw [h3 i]
    simp only [List.length_set, List.length_cons]
    by_cases e : i = o
    · subst e
      rw [if_neg (by omega)]
      by_cases hl : i < cs.length
      · rw [if_pos (by omega), Nat.sub_self]; simp [hl]
      · rw [if_neg (by omega), List.set_eq_of_length_le (by omega)]
    · by_cases hb : o + 1 ≤ i ∧ i < o + 1 + vs.length ∧ i < cs.length
      · rw [if_pos hb, if_pos (by omega), show i - o = i - (o + 1) + 1 by omega, List.getElem?_cons_succ]
      · rw [if_neg hb, if_neg (by omega), List.getElem?_set_ne (fun h => e h.symm)]
def zer62 : List Int := List.replicate 62 0
theorem NetB.cleared (h : NetB W bn v mf far last) : ∃ W1, (Builtin.clear_ #[23] 0 #[.slice (some ⟨bn, 2, none⟩) 62 62]).run Try.prog W = .ok (.tuple #[]) W1 ∧ NetB W1 bn v mf zer62 last ∧ Keep [bn] 2 W W1 := by
  have hr := Lib.run_clear_slice (P := Try.prog) W 23 3 0 (.int .i64 0) Try.underlying23 (fun w => by simp [zeroValue]; rfl) rfl rfl bn 2 62 62 (by omega) (fun j hj => by rw [h.farAt hj]; rfl) (fun j hj => h.free _)
  obtain ⟨ds, h1, h2, h3⟩ := sets_blk3 (List.replicate 62 (Value.int .i64 0)) 2 W _ h.blk
  refine ⟨_, hr, ⟨by simp [zer62], h.l2, ?_⟩, ?_⟩
  · rw [h2]
    have hl : (netC v mf far last).length = 188 := by simp [netC, h.l1, lastC_len, h.l2]
    have : ds = netC v mf zer62 last := by
      apply List.ext_getElem?
      intro i
      rw [h3 i, hl]
      simp only [List.length_replicate]
      match i with
      | 0 => rfl
      | 1 => rfl
      | i + 2 =>
        unfold netC
        rw [List.getElem?_cons_succ, List.getElem?_cons_succ, List.getElem?_cons_succ, List.getElem?_cons_succ]
        by_cases hi : i < 62
        · rw [if_pos (by omega), List.getElem?_append_left (by simp [zer62, hi]), show i + 2 - 2 = i by omega]
          simp [zer62, hi]
        · rw [if_neg (by omega), List.getElem?_append_right (by simp [h.l1]; omega), List.getElem?_append_right (by simp [zer62]; omega)]
          simp [zer62, h.l1]
    rw [this]
  · have key : ∀ (vs : List Value) (o : Nat) (w : World), 2 ≤ o → Keep [bn] 2 w (w.setCells bn o vs) := by
      intro vs
      induction vs with
      | nil => intro o w _; exact Keep.refl _ _ _
      | cons x vs ih => intro o w ho; exact (Keep.set w (by simp) ho x).trans (ih (o + 1) _ (by omega))
    exact key _ _ _ (by omega)
/-- A table of marks in a block of its own. -/
def MkB (W : World) (b : Nat) (xs : List Int) : Prop := xs.length = 62 ∧ W.heap[b]? = some (.cells (xs.map (Value.int .i64)).toArray 75 (0, 0))
section
variable {W W' : World}
theorem MkB.at {b : Nat} {xs : List Int} (h : MkB W b xs) {i : Nat} (hi : i < 62) : W.cell? ⟨b, i, none⟩ = some (.int .i64 (fa xs i)) :=
  cell_of_blk h.2 (by rw [List.getElem?_toArray, List.getElem?_map, fa_get (by rw [h.1]; exact hi)]; rfl)
theorem MkB.keep {b : Nat} {xs : List Int} {rs : List Nat} {c : Nat} (h : MkB W b xs) (hk : Keep rs c W W') (hb : b ∉ rs) : MkB W' b xs := ⟨h.1, hk.blk hb h.2⟩
theorem MkB.ext {b : Nat} {xs : List Int} (h : MkB W b xs) (hE : Ext W W') : MkB W' b xs := ⟨h.1, block_ext hE h.2⟩
theorem MkB.range {b : Nat} {xs : List Int} (h : MkB W b xs) : W.rangeAt b 0 (xs.map (Value.int .i64)) := by
  intro j x hx
  have hj : j < 62 := by have := (List.getElem?_eq_some_iff.1 hx).1; simpa [h.1] using this
  rw [List.getElem?_map, fa_get (by rw [h.1]; exact hj)] at hx
  cases hx
  rw [Nat.zero_add]; exact h.at hj
theorem zer_far0 : zer62.set 0 1 = far0 := rfl
theorem info75 : (Try.prog.info? 75).map (·.size) = some 62 := by kernel_rfl
theorem one75 (xs : List Int) : ((xs.map (Value.int .i64)).toArray).all (·.oneCell') = true := all_oneCell_toArray (fun v hv => by obtain ⟨x, -, rfl⟩ := List.mem_map.1 hv; rfl)
attribute [local go_sem] Oper.semAt_some
set_option maxRecDepth 100000 in
theorem alloc75 (w : World) : (Instr.alloc 75 true (.tuple #[])).run Try.prog w = .ok (.pointer (some ⟨w.heap.size, 0, none⟩)) (w.alloc (.cells (zer62.map (Value.int .i64)).toArray 75)) := by
  simp [go_sem]
  rfl
/-- A new variable of 62 numbers, and what is stored into it. -/
theorem wp_new75 {ops : Array Oper} {rest : List Oper} {o1 o2 : Oper} {a : Act} {w : World} {Q : Exit → Act → World → Prop} (g1 : o1.guard = none) (g2 : o2.guard = none) (p : Tmp) (y : Operand) (h1 : o1.op = .alloc 75) (h2 : o2.op = .store 75 (.tmp p) y) (d1 : o1.dst = some p)
    (xs : List Int) (hl : xs.length = 62) (hx : (a.put (some p) (.pointer (some ⟨w.heap.size, 0, none⟩))).eval (.tmp p) = .pointer (some ⟨w.heap.size, 0, none⟩))
    (hy : (a.put (some p) (.pointer (some ⟨w.heap.size, 0, none⟩))).eval y = .agg (xs.map (Value.int .i64)).toArray)
    (h : ∀ W' : World, MkB W' w.heap.size xs → Ext w W' → W'.heap.size = w.heap.size + 1 → wpList Try.prog ops Q rest ((a.put (some p) (.pointer (some ⟨w.heap.size, 0, none⟩))).put o2.dst undef) W') :
    wpList Try.prog ops Q (o1 :: o2 :: rest) a w := by
  refine wpList_plain g1 fun K hK => ?_
  unfold Oper.wp execOp
  rw [h1]
  simp only [Sem.run_bind, alloc75, Result.andThen_ok, Sem.run_pure]
  have hs : (w.alloc (.cells (zer62.map (Value.int .i64)).toArray 75)).heap[w.heap.size]? = some (.cells (zer62.map (Value.int .i64)).toArray 75 (0, 0)) := heap_alloc_new _ _
  have key : wpList Try.prog ops Q (o2 :: rest) (a.put (some p) (.pointer (some ⟨w.heap.size, 0, none⟩))) (w.alloc (.cells (zer62.map (Value.int .i64)).toArray 75)) := by
    refine wpList_store_row g2 75 (.tmp p) y h2 w.heap.size (xs.map (Value.int .i64)).toArray hx hy 75 _ hs ?_ ?_ (one75 xs) ?_
    · rw [info75]; simp [hl]
    · simp [zer62, hl]
    · refine h _ ⟨hl, ?_⟩ ?_ ?_
      · exact setRow_heap _ _ _ _ _ _ hs
      · refine ⟨rfl, rfl, rfl, by simp [World.setRow], fun k hk => ?_⟩
        have h9 := ((Ext.refl w).alloc (.cells (zer62.map (Value.int .i64)).toArray 75)).block k hk
        rw [← h9]
        simp [World.setRow, Array.getElem?_modify]
        intro e; omega
      · simp [World.setRow]
  have := hK _ _ key
  rw [Oper.upon_value, d1]
  exact this
end
section
theorem eqItems3 (w : World) (d : Nat) (xs ys : List Int) : ∀ is : List Nat, (∀ i ∈ is, i < xs.length ∧ i < ys.length) →
    (Op.eqItems (d + 1) 3 1 (xs.map (Value.int .i64)).toArray (ys.map (Value.int .i64)).toArray is).run Try.prog w = .ok (is.all fun i => fa xs i == fa ys i) w
  | [], _ => by simp [Op.eqItems]
  | i :: is, h => by
    have h1 := h i (by simp)
    have p : ∀ zs : List Int, i < zs.length → (part 3 (zs.map (Value.int .i64)).toArray (i * 1)).run Try.prog w = .ok (.int .i64 (fa zs i)) w := fun zs hz =>
      run_part_plain w (by kernel_rfl) (by rw [Nat.mul_one, List.getElem?_toArray, List.getElem?_map, fa_get hz]; rfl)
    simp only [Op.eqItems, Sem.run_bind, p xs h1.1, p ys h1.2, Result.andThen_ok, run_equalIn_int _ d 3 .i64 .i64 _ _ Try.underlying3, List.all_cons]
    cases he : fa xs i == fa ys i
    · simp
    · simp [eqItems3 w d xs ys is (fun j hj => h j (by simp [hj]))]
theorem all_fa {xs ys : List Int} (hx : xs.length = 62) (hy : ys.length = 62) : ((List.range 62).all fun i => fa xs i == fa ys i) = decide (xs = ys) := by
  rw [Bool.eq_iff_iff]
  simp only [List.all_eq_true, List.mem_range, beq_iff_eq, decide_eq_true_eq]
  constructor
  · intro h
    apply List.ext_getElem (by rw [hx, hy])
    intro i h1 h2
    have := h i (by omega)
    rw [fa, fa, List.getD_eq_getElem?_getD, List.getD_eq_getElem?_getD, List.getElem?_eq_getElem h1, List.getElem?_eq_getElem h2] at this
    exact this
  · rintro rfl i _; rfl
theorem neq75 (w : World) (xs ys : List Int) (hx : xs.length = 62) (hy : ys.length = 62) : (binOp .neq 75 (.agg (xs.map (Value.int .i64)).toArray) (.agg (ys.map (Value.int .i64)).toArray)).run Try.prog w = .ok (.bool (!decide (xs = ys))) w := by
  obtain ⟨i3, hi3⟩ : ∃ i, Try.prog.info? 3 = some i := Option.isSome_iff_exists.1 (by kernel_rfl)
  have h := run_equalIn_array (P := Try.prog) w 9999 (t := 75) (e := 3) (n := 62) (xs.map (Value.int .i64)).toArray (ys.map (Value.int .i64)).toArray Try.underlying75 hi3
  rw [show Try.prog.cellsOf 3 = 1 from by kernel_rfl, eqItems3 w 9998 xs ys _ (fun i hi => by rw [hx, hy]; simpa using hi), all_fa hx hy] at h
  rw [run_neq_struct, h]; rfl
theorem guard75 : Try.prog.eqGuardType Try.prog.depth 75 = false := by kernel_rfl
end
section
variable {W W' : World}
theorem run_neq75 {a : Act} {o : Oper} {x y : Operand} {y' : TypeId} {xs ys : List Int} (ho : o.op = .binOp .neq 75 x y y') (hx : a.eval x = .agg (xs.map (Value.int .i64)).toArray) (hy : a.eval y = .agg (ys.map (Value.int .i64)).toArray) (lx : xs.length = 62) (ly : ys.length = 62) (W : World) :
    (execOp a.eval o).run Try.prog W = .ok (.value (.bool (!decide (xs = ys)))) W := by
  unfold execOp
  rw [ho]
  simp only [hx, hy, Sem.run_bind, run_eqGuard_agg W .neq 75 x y _ _ guard75, neq75 W xs ys lx ly, Result.andThen_ok, Sem.run_pure]
theorem run_load75 {a : Act} {o : Oper} {x : Operand} {b off : Nat} {xs : List Int} (ho : o.op = .load 75 x) (hx : a.eval x = .pointer (some ⟨b, off, none⟩)) (lx : xs.length = 62) (W : World) (hr : W.rangeAt b off (xs.map (Value.int .i64))) :
    (execOp a.eval o).run Try.prog W = .ok (.value (.agg (xs.map (Value.int .i64)).toArray)) W := by
  unfold execOp
  simp only [ho, hx, Instr.loadAt, Instr.sureAddr, Sem.run_bind, Sem.run_pure, Result.andThen_ok, run_loadVar_mid W b off 75 _ _ hr Try.underlying75 rfl (by rw [info75, List.length_map, lx])]
/-- A table of marks is stored. -/
theorem wp_store75 {ops : Array Oper} {rest : List Oper} {o : Oper} {a : Act} {w : World} {Q : Exit → Act → World → Prop} (hgd : o.guard = none) (x y : Operand) (ho : o.op = .store 75 x y) (g : Nat) {xs old : List Int} (hx : a.eval x = .pointer (some ⟨g, 0, none⟩)) (hy : a.eval y = .agg (xs.map (Value.int .i64)).toArray)
    (hm : MkB w g old) (lx : xs.length = 62) (h : ∀ W' : World, MkB W' g xs → Keep [g] 0 w W' → wpList Try.prog ops Q rest (a.put o.dst undef) W') : wpList Try.prog ops Q (o :: rest) a w := by
  refine wpList_store_row hgd 75 x y ho g _ hx hy 75 _ hm.2 (by rw [info75]; simp [lx]) (by simp [hm.1, lx]) (one75 xs) ?_
  refine h _ ⟨lx, setRow_heap _ _ _ _ _ _ hm.2⟩ ⟨rfl, rfl, rfl, by simp [World.setRow], fun k hk hn => ?_, fun b i v _ ho => by omega⟩
  simp [World.setRow, Array.getElem?_modify]
  intro e; subst e; simp at hn
theorem Keep.putObj {rs : List Nat} {c : Nat} {A B : World} (h : Keep rs c A B) {D : Nat} (hD : A.heap.size ≤ D) (hr : ∀ r ∈ rs, r < A.heap.size) (o : Obj) : Keep rs c A (B.putObj D o) := by
  refine ⟨h.os, h.tape, h.output, by have := h.size; simpa [World.putObj] using this, fun k hk hn => ?_, fun b i v hb ho hv => ?_⟩
  · rw [World.putObj_heap_other (by omega)]; exact h.block k hk hn
  · have h2 := h.head b i v hb ho hv
    have := hr b hb
    rw [← h2]; simp only [World.cell?, World.putObj_heap_other (show b ≠ D by omega)]
theorem Marks.keepC {rs : List Nat} {c base : Nat} {ds : List Deferred} {W W' : World} (h : Marks base ds W) (hk : Keep rs c W W') (hrs : ∀ r ∈ rs, r < base ∨ ∃ cs t fr, W.heap[r]? = some (.cells cs t fr)) : Marks base ds W' := by
  obtain ⟨Ds, h1, h2, h3⟩ := h
  refine ⟨Ds, h1, h2, fun D hD => ⟨(h3 D hD).1, hk.blk (fun hm => ?_) (h3 D hD).2⟩⟩
  rcases hrs D hm with h4 | ⟨cs, t, fr, h4⟩
  · have := (h3 D hD).1; omega
  · rw [(h3 D hD).2] at h4; cases h4
theorem Keep.new {rs : List Nat} {c c' r : Nat} {A B C : World} (h : Keep rs c A B) (k : Keep [r] c' B C) (hr : A.heap.size ≤ r) (hn : r ∉ rs) : Keep rs c A C :=
  ⟨k.os.trans h.os, k.tape.trans h.tape, k.output.trans h.output, Nat.le_trans h.size k.size, fun i hi hm => (k.block i (Nat.lt_of_lt_of_le hi h.size) (by simp; omega)).trans (h.block i hi hm), fun b o v hb ho hv => k.cell (by simp; exact fun e => hn (e ▸ hb)) (h.head b o v hb ho hv)⟩
theorem step_c {row : List Int} (hn : row.length ≤ 30) {F : List Lk} {s : Lk × Int} (h : s ∈ stepsL row F) : -1 ≤ s.2 ∧ s.2 ≤ 1 := by
  obtain ⟨l, c, h1, h2⟩ := mem_steps.1 h
  have h3 := (link_sm hn h1).2.2
  dsimp only at h3
  rcases h2 with ⟨-, rfl⟩ | ⟨-, rfl⟩ <;> dsimp only <;> omega
theorem NetB.grow {bn : Nat} {v : Value} {mf : Nat} {far : List Int} {last : List Lk} {base : Nat} {row : Option Nat} (h : NetB W bn v mf far last) (hg : W.grownBy W' row) (hr : ∀ r, row = some r → base ≤ r ∧ ∃ o : Obj, W.heap[r]? = some o ∧ o.isCells = false) : NetB W' bn v mf far last :=
  ⟨h.l1, h.l2, cells_turn h.blk hg hr⟩
theorem MkB.grow {b : Nat} {xs : List Int} {base : Nat} {row : Option Nat} (h : MkB W b xs) (hg : W.grownBy W' row) (hr : ∀ r, row = some r → base ≤ r ∧ ∃ o : Obj, W.heap[r]? = some o ∧ o.isCells = false) : MkB W' b xs :=
  ⟨h.1, cells_turn h.2 hg hr⟩
end
/-- A net of a row that reads at some earlier world: its marks, its flow. -/
structure NetAt (w₀ W : World) (bn : Nat) (a : Option Addr) (n cap : Nat) (row : List Int) (mf nf : Nat) (F : List Lk) (far : List Int) (last : List Lk) : Prop where
  net : NetB W bn (.slice a n cap) mf far last
  flow : FMap W mf nf F
  ne : mf ≠ bn
  base : Below w₀.heap.size w₀ W
  bn0 : w₀.heap.size ≤ bn
  mf0 : w₀.heap.size ≤ mf
  row0 : Reads w₀ (.slice a n cap) row
  len : n = row.length
  le : n ≤ 30
theorem Below.keep {w₀ A B : World} {rs : List Nat} {c : Nat} (h : Below w₀.heap.size w₀ A) (hk : Keep rs c A B) (hrs : ∀ r ∈ rs, w₀.heap.size ≤ r) : Below w₀.heap.size w₀ B :=
  ⟨hk.os.trans h.os, hk.tape.trans h.tape, hk.output.trans h.output, Nat.le_trans h.size hk.size, fun k hkl => (hk.block k (Nat.lt_of_lt_of_le hkl h.size) (fun hm => by have := hrs k hm; omega)).trans (h.block k hkl)⟩
variable {w₀ : World} {a : Option Addr} {n cap nf : Nat} {row : List Int} {F : List Lk}
theorem NetAt.reads (h : NetAt w₀ W bn a n cap row mf nf F far last) : Reads W (.slice a n cap) row := h.row0.ext h.base
theorem NetAt.rd (h : NetAt w₀ W bn a n cap row mf nf F far last) : ∀ X, Keep [bn] 2 W X → Reads X (.slice a n cap) row := fun X hX => h.row0.ext (Below.keep h.base hX (fun r hr => by rw [List.mem_singleton.1 hr]; exact h.bn0))
theorem NetAt.keep {rs : List Nat} {c : Nat} (h : NetAt w₀ W bn a n cap row mf nf F far last) (hk : Keep rs c W W') (hb : bn ∉ rs) (hm : mf ∉ rs) (hrs : ∀ r ∈ rs, w₀.heap.size ≤ r) : NetAt w₀ W' bn a n cap row mf nf F far last :=
  { h with net := h.net.keep hk hb, flow := h.flow.keep hk hm, base := Below.keep h.base hk hrs }
theorem NetAt.ext (h : NetAt w₀ W bn a n cap row mf nf F far last) (hE : Ext W W') : NetAt w₀ W' bn a n cap row mf nf F far last := h.keep (Keep.ext (rs := []) (c := 0) hE) (by simp) (by simp) (by simp)
theorem NetAt.turn {far' : List Int} {last' : List Lk} {c : Nat} (h : NetAt w₀ W bn a n cap row mf nf F far last) (hk : Keep [bn] c W W') (hn : NetB W' bn (.slice a n cap) mf far' last') : NetAt w₀ W' bn a n cap row mf nf F far' last' :=
  { h with net := hn, flow := h.flow.keep hk (by simp; exact h.ne), base := Below.keep h.base hk (fun r hr => by rw [List.mem_singleton.1 hr]; exact h.bn0) }
theorem NetAt.flowed {nf' : Nat} {F' : List Lk} {c : Nat} (h : NetAt w₀ W bn a n cap row mf nf F far last) (hk : Keep [mf] c W W') (hn : FMap W' mf nf' F') : NetAt w₀ W' bn a n cap row mf nf' F' far last :=
  { h with net := h.net.keep hk (by simp; exact fun e => h.ne e.symm), flow := hn, base := Below.keep h.base hk (fun r hr => by rw [List.mem_singleton.1 hr]; exact h.mf0) }
theorem NetAt.putObj (h : NetAt w₀ W bn a n cap row mf nf F far last) {D : Nat} (hD : w₀.heap.size ≤ D) (hb : D ≠ bn) (hm : D ≠ mf) (o : Obj) : NetAt w₀ (W.putObj D o) bn a n cap row mf nf F far last :=
  { h with net := h.net.same (World.putObj_heap_other (fun e => hb e.symm)), flow := h.flow.same (World.putObj_heap_other (fun e => hm e.symm)),
           base := ⟨h.base.os, h.base.tape, h.base.output, by have := h.base.size; simpa [World.putObj] using this, fun k hk => by rw [World.putObj_heap_other (by omega)]; exact h.base.block k hk⟩ }
end Go.Proofs.Ytclcippfodjfeaa
