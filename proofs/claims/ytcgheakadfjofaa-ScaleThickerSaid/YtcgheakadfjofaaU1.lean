/- A list appended to an own one as a step of a drawn region; a stem in a block of a law's own, whose thicknesses are its own, too. -/
import Derived.Test.YtcgheakadfjofaaR1
import Derived.Maps.AppendAt
import Derived.Deep.AppendLies
namespace Go.Proofs.Ytcgheakadfjofaa
open Go.RowKit
set_option linter.unusedVariables false
set_option linter.unusedSimpArgs false
theorem appendS_run (w : World) (B : Nat) (xs ys : List Int) (v u : Value) (hown : OwnI 2 B w v xs) (hB : B ≤ w.heap.size) (hl : xs.length ≤ 5000) (hu : Reads w u ys) (ty : TypeId) :
    ∃ v' w', (Builtin.append_ #[22, 22] ty #[v, u]).run Try.prog w = .ok v' w' ∧ OwnI 2 B w' v' (xs ++ ys) ∧ w.grownBy w' v.ownBlock ∧ (v'.ownBlock = v.ownBlock ∨ v'.ownBlock = some w.heap.size) := by
  obtain ⟨hyl, ua, ucap, rfl, hu⟩ := hu
  rcases hu with ⟨rfl, rfl⟩ | ⟨b, off, rfl, hc⟩
  · refine ⟨v, w, ?_, by simpa using hown, ⟨rfl, rfl, rfl, Nat.le_refl _, fun _ _ _ => rfl⟩, .inl rfl⟩
    simpa using append_none22 v _ ucap _ B w hown ty
  · obtain ⟨i0, hi0, hz0, hz1, hz2⟩ := info_parts Try.info2
    obtain ⟨v', w', h1, h2, h3, -, h4⟩ := run_append_own_at (P := Try.prog) w B 22 ty 2 i0 (.int .i64 0) 1 8 Try.underlying22 hi0 hz0 hz1 hz2 rfl (by decide) v _ _ hown ⟨b, off, none⟩ ys.length ucap (ys.map (Value.int .i64)) (by simp) (by
      intro j u hj
      have hadd : (⟨b, off, none⟩ : Addr).add j = ⟨b, off + j, none⟩ := by unfold Addr.add; split <;> simp_all
      rw [List.getElem?_map] at hj
      cases hy : ys[j]? with
      | none => rw [hy] at hj; simp at hj
      | some y =>
        rw [hy] at hj
        simp at hj
        have hjl : j < ys.length := (List.getElem?_eq_some_iff.1 hy).1
        have := hc j hjl
        rw [hy] at this
        rw [hadd, this, ← hj]; rfl) (by
      intro u hu
      rw [List.mem_map] at hu
      obtain ⟨y, -, rfl⟩ := hu
      rfl) (by unfold maxLen; omega) (by omega) hB
    refine ⟨v', w', h1, ?_, h3, h4⟩
    unfold OwnI
    rw [List.length_append, List.map_append]
    exact h2
theorem step_appendSU {ops : Array Oper} {o : Oper} {a : Act} {K : Act → World → Prop} {Q : Exit → Act → World → Prop} {E : Prop} (hgd : o.guard = none) (s u : Operand)
    (ho : o.op = .call { callee := .builtin .append, args := #[s, u], argTypes := #[22, 22] }) (v : Value) (hs : a.eval s = v) (w : World) (B : Nat) (xs ys : List Int) (hown : OwnI 2 B w v xs) (hB : B ≤ w.heap.size) (hl : xs.length ≤ 5000)
    (uv : Value) (hu : a.eval u = uv) (hr : Reads w uv ys) (h : ∀ v' w', OwnI 2 B w' v' (xs ++ ys) → w.grownBy w' v.ownBlock → (v'.ownBlock = v.ownBlock ∨ v'.ownBlock = some w.heap.size) → K (a.put o.dst v') w') :
    if Region.wanted o (yielded ops a.tmps) = true then Oper.wp Try.prog o a w K Q else E := by
  have hw : Region.wanted o (yielded ops a.tmps) = true := by simp [Region.wanted, hgd]
  rw [if_pos hw]
  obtain ⟨v', w', hrun, h1, h2, h3⟩ := appendS_run w B xs ys v uv hown hB hl hr o.type
  unfold Oper.wp
  simp [execOp, ho, resolve, invoke, builtin, hs, hu, hrun, Result.andThen]
  exact h _ _ h1 h2 h3
/-- A stem of the call's own: its thicknesses are a list of its own, too. -/
structure ThkX (w2 W : World) (X g n cap : Nat) (bv : Value) (xs : List Int) : Prop where
  ext : Ext w2 W
  new : w2.heap.size ≤ X
  ne : X ≠ g
  len : n = xs.length
  blk : W.heap[X]? = some (.cells #[.slice (some ⟨g, 0, none⟩) n cap, bv] 25 (0, 0))
  own : OwnI 2 w2.heap.size W (.slice (some ⟨g, 0, none⟩) n cap) xs
theorem ThkX.turn {w2 W W' : World} {X g n cap : Nat} {bv : Value} {xs : List Int} (h : ThkX w2 W X g n cap bv xs) (hb : Ext W W') : ThkX w2 W' X g n cap bv xs :=
  ⟨h.ext.trans hb, h.new, h.ne, h.len, block_ext hb h.blk, h.own.ext hb⟩
theorem ThkX.row {w2 W : World} {X g n cap : Nat} {bv : Value} {xs : List Int} (h : ThkX w2 W X g n cap bv xs) : W.ownsRow w2.heap.size 2 1 (.slice (some ⟨g, 0, none⟩) n cap) n (xs.map (Value.int .i64)) := by
  have := h.own
  unfold OwnI at this
  rwa [← h.len] at this
theorem ThkX.cells {w2 W : World} {X g n cap : Nat} {bv : Value} {xs : List Int} (h : ThkX w2 W X g n cap bv xs) : W.cell? ⟨X, 0, none⟩ = some (.slice (some ⟨g, 0, none⟩) n cap) ∧ W.cell? ⟨X, 1, none⟩ = some bv :=
  ⟨cell_of_blk h.blk rfl, cell_of_blk h.blk rfl⟩
theorem ThkX.at_ {w2 W : World} {X g n cap : Nat} {bv : Value} {xs : List Int} (h : ThkX w2 W X g n cap bv xs) {j : Nat} (hj : j < n) : W.cell? ⟨g, j, none⟩ = some (.int .i64 (xs.getD j 0)) ∧ W.frozen? ⟨g, j, none⟩ = false := by
  have hr := h.row
  refine ⟨?_, hr.frozenAt j⟩
  rw [hr.cellAt j (by omega), List.getElem?_map]
  have : j < xs.length := by rw [← h.len]; exact hj
  simp [List.getD, this]
theorem ThkX.put {w2 W : World} {X g n cap : Nat} {bv : Value} {xs : List Int} (h : ThkX w2 W X g n cap bv xs) (j : Nat) (x : Int) : ThkX w2 (W.setCell ⟨g, j, none⟩ (.int .i64 x)) X g n cap bv (xs.set j x) := by
  have hr := h.row
  have hg : w2.heap.size ≤ g := (hr.lt g rfl).1
  refine ⟨grown_new h.ext (grown_set W g j (.int .i64 x)) hg, h.new, h.ne, by rw [List.length_set]; exact h.len, ?_, ?_⟩
  · rw [(grown_set W g j (.int .i64 x)).block X (lt_of_blk h.blk) (by intro e; cases e; exact h.ne rfl)]
    exact h.blk
  · unfold OwnI
    rw [List.length_set, List.map_set, ← h.len]
    exact (hr.stored j _).1
end Go.Proofs.Ytcgheakadfjofaa
