/- An office with one more mark (44). -/
import Derived.Test.YtlgdnbpboonhdaaV
import Derived.Laws.OwnMore
import Derived.Below
import Derived.Test.YtlgdnbpboonhdaaM12
namespace Go.Proofs.Ytlgdnbpboonhdaa
open Go.RowKit
set_option linter.unusedVariables false
theorem append_none (v : Value) (n c : Nat) (xs : List Value) (B : Nat) (w : World) (hown : w.ownsRow B 3 1 v n xs) (ty : TypeId) :
    (Builtin.append_ #[22, 22] ty #[v, .slice none 0 c]).run Try.prog w = .ok v w := by
  obtain ⟨i0, hi0, hz0, hz1, hz2⟩ := info_parts Try.info3
  rcases hown.2 with ⟨rfl, rfl⟩ | ⟨g, cap, cur, rfl, _, _, hnc, _⟩
  · simp [Builtin.append_, run_underlying Try.underlying22, sizeOf, typeInfo, hi0, Builtin.lenOf, Builtin.firstCells]
  · simp [Builtin.append_, run_underlying Try.underlying22, sizeOf, typeInfo, hi0, Builtin.lenOf, Builtin.firstCells, hnc, storeCells]
/-- The append of a list to an own one. -/
theorem appendS {ops : Array Oper} {rest : List Oper} {o : Oper} {a : Act} {Q : Exit → Act → World → Prop} (w : World) (B : Nat) (xs ys : List Int) (v u : Value) (s t : Operand) (hgd : o.guard = none)
    (ho : o.op = .call { callee := .builtin .append, args := #[s, t], argTypes := #[22, 22] }) (hs : a.eval s = v) (hown : Owns B w v xs) (hB : B ≤ w.heap.size) (hl : xs.length ≤ 5000)
    (hx : a.eval t = u) (hu : Reads w u ys)
    (h : ∀ v' w', Owns B w' v' (xs ++ ys) → Below B w w' → wpList Try.prog ops Q rest (a.put o.dst v') w') : wpList Try.prog ops Q (o :: rest) a w := by
  obtain ⟨hyl, ua, ucap, rfl, hu⟩ := hu
  rcases hu with ⟨rfl, rfl⟩ | ⟨b, off, rfl, hc⟩
  · refine wpList_plain hgd fun _ hK => ?_
    unfold Oper.wp execOp
    simp only [ho, resolve, invoke, builtin, Sem.run_bind, Sem.run_pure, Result.andThen_ok, List.map_toArray, List.map_cons, List.map_nil, hs, hx, List.length_nil, append_none v _ ucap _ B w hown]
    exact hK _ _ (h v w (by simpa using hown) (Below.refl _ _))
  · obtain ⟨i0, hi0, hz0, hz1, hz2⟩ := info_parts Try.info3
    refine wpList_append_own _ hgd s t 22 ho B 3 i0 (.int .i64 0) 1 8 Try.underlying22 hi0 hz0 hz1 hz2 rfl (by decide) v _ _ hs hown ⟨b, off, none⟩ ys.length ucap (ys.map (Value.int .i64)) hx (by simp) ?_ ?_ ?_ ?_ ?_ ?_
    · intro j u hj
      have hadd : (⟨b, off, none⟩ : Addr).add j = ⟨b, off + j, none⟩ := by unfold Addr.add; split <;> simp_all
      rw [List.getElem?_map] at hj
      cases hy : ys[j]? with
      | none => rw [hy] at hj; simp at hj
      | some y =>
        rw [hy] at hj
        simp at hj
        have hjl : j < ys.length := (List.getElem?_eq_some_iff.1 hy).1
        have := hc j hjl
        rw [hy] at this
        rw [hadd, this, ← hj]; rfl
    · intro u hu
      rw [List.mem_map] at hu
      obtain ⟨y, -, rfl⟩ := hu
      rfl
    · unfold maxLen; omega
    · omega
    · exact hB
    · intro v' w' h1 h2 _
      refine h v' w' ?_ ?_
      · unfold Owns
        rw [List.length_append, List.map_append]
        exact h1
      · exact (Below.refl B w).grown h2 (by omega) fun k hk => (hown.lt k hk).1
theorem results_cell24w {fn : Func} {p : Tmp} {k q : Int} {v : Value} (h : fn.results = #[.cell p 24]) (tmps : Array Value) (w : World) (b : Nat)
    (hp : tmps.getD p undef = .pointer (some ⟨b, 0, none⟩)) (hc : w.heap[b]? = some (.cells #[.int .i64 k, .int .i64 q, v] 24 (0, 0))) :
    (results fn tmps).run Try.prog w = .ok (.agg #[.int .i64 k, .int .i64 q, v]) w := by
  have hp' : tmps[p]?.getD undef = .pointer (some ⟨b, 0, none⟩) := by simpa using hp
  have c0 : w.cell? ⟨b, 0, none⟩ = some (.int .i64 k) := by rw [cell_of_row _ _ _ _ _ _ hc]; rfl
  have c1 : w.cell? ⟨b, 1, none⟩ = some (.int .i64 q) := by rw [cell_of_row _ _ _ _ _ _ hc]; rfl
  have c2 : w.cell? ⟨b, 2, none⟩ = some v := by rw [cell_of_row _ _ _ _ _ _ hc]; rfl
  simp [results, h, hp', asAddr, loadVar, isAgg, run_underlying Try.underlying24, go_sem, c0, c1, c2]
set_option maxRecDepth 100000 in
set_option maxHeartbeats 4000000 in
theorem with44 (S L x : Int) (xs : List Int) (v : Value) (w : World) (hr : Reads w v xs) (hl : xs.length ≤ 4000) :
    Calls Try.prog 44 #[.agg #[.int .i64 S, .int .i64 L, v], .int .i64 x] w fun e w' => ∃ u, e = .returned (.agg #[.int .i64 S, .int .i64 L, u]) ∧ Reads w' u (xs ++ [x]) ∧ Ext w w' := by
  obtain ⟨hl', a, cap, rfl⟩ := hr.shape
  have HR := Lib.hid hr; clear hr
  have hE1 := (Ext.refl w).alloc (.cells #[.int .i64 S, .int .i64 L, .slice a xs.length cap] 24)
  have hE2 := hE1.alloc (.cells #[.int .i64 0, .int .i64 0, .slice none 0 0] 24)
  have hE3 := hE2.alloc (.cells #[.int .i64 S, .int .i64 L, .slice a xs.length cap] 24)
  have hE4 := hE3.alloc (.cells #[] 3)
  have hb0 := heap_alloc_new w (.cells #[.int .i64 S, .int .i64 L, .slice a xs.length cap] 24)
  have hb1 := heap_alloc_new (w.alloc (.cells #[.int .i64 S, .int .i64 L, .slice a xs.length cap] 24)) (.cells #[.int .i64 0, .int .i64 0, .slice none 0 0] 24)
  have hb2 := heap_alloc_new ((w.alloc (.cells #[.int .i64 S, .int .i64 L, .slice a xs.length cap] 24)).alloc (.cells #[.int .i64 0, .int .i64 0, .slice none 0 0] 24)) (.cells #[.int .i64 S, .int .i64 L, .slice a xs.length cap] 24)
  have hO0 := World.ownsRow_made (((w.alloc (.cells #[.int .i64 S, .int .i64 L, .slice a xs.length cap] 24)).alloc (.cells #[.int .i64 0, .int .i64 0, .slice none 0 0] 24)).alloc (.cells #[.int .i64 S, .int .i64 L, .slice a xs.length cap] 24)) (base := w.heap.size + 3) (e := 3) (size := 1) #[] 0 (by simp [World.size_alloc]) (by simp) rfl
  replace hb1 := block_ext (((Ext.refl _).alloc (.cells #[.int .i64 S, .int .i64 L, .slice a xs.length cap] 24)).alloc (.cells #[] 3)) hb1
  replace hb2 := block_ext ((Ext.refl _).alloc (.cells #[] 3)) hb2
  simp only [World.size_alloc] at hb1 hb2 hO0
  have HE4 := Lib.hid hE4; have HO0 := Lib.hid hO0; have HB1 := Lib.hid hb1; have HB2 := Lib.hid hb2
  clear hE1 hE2 hE3 hE4 hb0 hb1 hb2 hO0
  go_enter Try.func44, Try.ntmps44
  go_wp2_with (at_builtin; first
    | (refine appendS _ (w.heap.size + 3) [] xs _ _ _ _ rfl rfl rfl HO0.out (by simp [World.size_alloc]) (by simp) rfl (HR.out.ext HE4.out) ?_
       intro v1 w3 hO3 hB3
       have HO3 := Lib.hid hO3
       have HB3 := Lib.hid hB3
       clear hO3 hB3)
    | (refine append1 w3 (w.heap.size + 3) _ x _ _ _ rfl rfl rfl HO3.out (Nat.le_trans (by simp [World.size_alloc]) HB3.out.size) (by simp; omega) rfl ?_
       intro v2 w4 hO4 hB4
       have HO4 := Lib.hid hO4
       have HB4 := Lib.hid hB4
       have k2 := (hB4.block (w.heap.size + 1 + 1) (by omega)).trans ((HB3.out.block (w.heap.size + 1 + 1) (by omega)).trans HB2.out)
       have k1 := (hB4.block (w.heap.size + 1) (by omega)).trans ((HB3.out.block (w.heap.size + 1) (by omega)).trans HB1.out)
       have K2 := Lib.hid k2
       have K1 := Lib.hid k1
       have c0 := cell_of_row _ _ 0 _ _ _ k2
       have c1 := cell_of_row _ _ 1 _ _ _ k2
       have c2 := cell_of_row _ _ 2 _ _ _ k2
       have f2 := frozen_of_row _ _ 2 _ _ k2
       have d0 := cell_of_row _ _ 0 _ _ _ k1
       have d1 := cell_of_row _ _ 1 _ _ _ k1
       have d2 := cell_of_row _ _ 2 _ _ _ k1
       have e0 := frozen_of_row _ _ 0 _ _ k1
       have e1 := frozen_of_row _ _ 1 _ _ k1
       have e2 := frozen_of_row _ _ 2 _ _ k1
       have r4 := hO4.reads (by simp; omega)
       rw [List.nil_append] at r4
       clear hO4 hB4 k1 k2
       simp at c0 c1 c2 d0 d1 d2
       obtain ⟨hl4, a4, cap4, rfl⟩ := r4.shape
       have R4 := Lib.hid r4
       clear r4))
  have HW := Lib.hid (show ∀ W : World, W = ((((w4.setCell ⟨w.heap.size + 1 + 1, 2, none⟩ (.slice a4 (xs.length + 1) cap4)).setCell ⟨w.heap.size + 1, 0, none⟩ (.int .i64 S)).setCell ⟨w.heap.size + 1, 1, none⟩ (.int .i64 L)).setCell ⟨w.heap.size + 1, 2, none⟩ (.slice a4 (xs.length + 1) cap4)) →
      W.heap[w.heap.size + 1]? = some (.cells #[.int .i64 S, .int .i64 L, .slice a4 (xs.length + 1) cap4] 24 (0, 0)) ∧ Reads W (.slice a4 (xs.length + 1) cap4) (xs ++ [x]) ∧ Ext w W from by
    rintro W rfl
    have q0 : (w4.setCell ⟨w.heap.size + 1 + 1, 2, none⟩ (.slice a4 (xs.length + 1) cap4)).heap[w.heap.size + 1]? = some (.cells #[.int .i64 0, .int .i64 0, .slice none 0 0] 24 (0, 0)) := by
      rw [heap_setCell_other _ _ _ _ (by simp)]; exact K1.out
    have q1 := heap_setCell_same _ _ 0 _ _ (.int .i64 S) q0
    have q2 := heap_setCell_same _ _ 1 _ _ (.int .i64 L) q1
    have q3 := heap_setCell_same _ _ 2 _ _ (.slice a4 (xs.length + 1) cap4) q2
    refine ⟨q3, ?_, ?_⟩
    · have h := HO4.out
      rcases h.2 with ⟨-, h0⟩ | ⟨g, cap', cur, hv, hbg, hgg, rest⟩
      · simp at h0
      · have ho : Owns (w.heap.size + 3) ((((w4.setCell ⟨w.heap.size + 1 + 1, 2, none⟩ (.slice a4 (xs.length + 1) cap4)).setCell ⟨w.heap.size + 1, 0, none⟩ (.int .i64 S)).setCell ⟨w.heap.size + 1, 1, none⟩ (.int .i64 L)).setCell ⟨w.heap.size + 1, 2, none⟩ (.slice a4 (xs.length + 1) cap4)) (.slice a4 (xs ++ [x]).length cap4) ([] ++ xs ++ [x]) := by
          refine ⟨h.1, .inr ⟨g, cap', cur, hv, hbg, ?_, rest⟩⟩
          rw [heap_setCell_other _ _ _ _ (by simp; omega), heap_setCell_other _ _ _ _ (by simp; omega), heap_setCell_other _ _ _ _ (by simp; omega), heap_setCell_other _ _ _ _ (by simp; omega)]
          exact hgg
        have := ho.reads (by simp; omega)
        simpa using this
    · have h4 : Ext w w4 := Below.trans HE4.out ((HB3.out.mono (by omega)).trans (HB4.out.mono (by omega)))
      exact (((h4.setCell (p := ⟨w.heap.size + 1 + 1, 2, none⟩) (by simp; omega) _).setCell (p := ⟨w.heap.size + 1, 0, none⟩) (by simp) _).setCell (p := ⟨w.heap.size + 1, 1, none⟩) (by simp) _).setCell (p := ⟨w.heap.size + 1, 2, none⟩) (by simp) _)
  obtain ⟨r1, r2, r3⟩ := HW.out _ rfl
  refine bodyPost_ret (v := .agg #[.int .i64 S, .int .i64 L, .slice a4 (xs.length + 1) cap4]) ?_ rfl ⟨_, rfl, r2, r3⟩
  exact results_cell24w rfl _ _ _ rfl r1
end Go.Proofs.Ytlgdnbpboonhdaa
