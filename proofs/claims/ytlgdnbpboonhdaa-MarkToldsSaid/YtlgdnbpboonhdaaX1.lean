/- The office of the chapter's examples, and what the functions answer there. -/
import Derived.Test.YtlgdnbpboonhdaaF7
import Derived.Test.YtlgdnbpboonhdaaM7
import Derived.Test.YtlgdnbpboonhdaaM14
namespace Go.Proofs.Ytlgdnbpboonhdaa
open Go.RowKit Go.Shelf Go.Maps
set_option linter.unusedVariables false
attribute [local go_sem] Oper.semAt_some
theorem results_cell24 {fn : Func} {p : Tmp} {x y z : Value} (h : fn.results = #[.cell p 24]) (tmps : Array Value) (w : World) (b : Nat)
    (hp : tmps.getD p undef = .pointer (some ⟨b, 0, none⟩)) (hc : w.heap[b]? = some (.cells #[x, y, z] 24 (0, 0))) :
    (results fn tmps).run Try.prog w = .ok (.agg #[x, y, z]) w := by
  have hp' : tmps[p]?.getD undef = .pointer (some ⟨b, 0, none⟩) := by simpa using hp
  have c0 : w.cell? ⟨b, 0, none⟩ = some x := by rw [cell_of_row _ _ _ _ _ _ hc]; rfl
  have c1 : w.cell? ⟨b, 1, none⟩ = some y := by rw [cell_of_row _ _ _ _ _ _ hc]; rfl
  have c2 : w.cell? ⟨b, 2, none⟩ = some z := by rw [cell_of_row _ _ _ _ _ _ hc]; rfl
  simp [results, h, hp', asAddr, loadVar, isAgg, run_underlying Try.underlying24, go_sem, c0, c1, c2]
theorem office55_3 (w : World) : Calls Try.prog 55 #[.int .i64 3] w fun e w' => ∃ a c, e = .returned (.agg #[.int .i64 5, .int .i64 1, .slice a 3 c]) ∧ Reads w' (.slice a 3 c) (ints [7, 25, 14]) ∧ Ext w w' := by
  go_enter Try.func55, Try.ntmps55
  go_wp2
  refine bodyPost_ret (v := .agg #[.int .i64 5, .int .i64 1, .slice (some ⟨w.heap.size + 1, 0, none⟩) 3 3]) ?_ rfl ⟨_, _, rfl, ?_, ((Ext.refl w).alloc _).alloc _⟩
  · exact results_cell24 Try.results55 _ _ w.heap.size rfl (block_ext ((Ext.refl _).alloc _) (heap_alloc_new w _))
  · exact Reads.new _ [7, 25, 14] 3 _ (by simp) (by simp) _ rfl _ _ rfl
theorem office55_2 (w : World) : Calls Try.prog 55 #[.int .i64 2] w fun e w' => ∃ a c, e = .returned (.agg #[.int .i64 5, .int .i64 1, .slice a 2 c]) ∧ Reads w' (.slice a 2 c) (ints [7, 25]) ∧ Ext w w' := by
  go_enter Try.func55, Try.ntmps55
  go_wp2
  refine bodyPost_ret (v := .agg #[.int .i64 5, .int .i64 1, .slice (some ⟨w.heap.size + 1, 0, none⟩) 2 3]) ?_ rfl ⟨_, _, rfl, ?_, ((Ext.refl w).alloc _).alloc _⟩
  · exact results_cell24 Try.results55 _ _ w.heap.size rfl (block_ext ((Ext.refl _).alloc _) (heap_alloc_new w _))
  · exact (Reads.new (w.alloc (.cells #[.int .i64 5, .int .i64 1, .slice (some ⟨w.heap.size + 1, 0, none⟩) 2 3] 24)) [7, 25, 14] 3 (w.heap.size + 1) (by simp) (by simp) _ rfl 3 3 rfl).take 2 (by omega)
theorem valid3 : Valid 5 1 [7, 25, 14] := by unfold Valid; decide
theorem valid2 : Valid 5 1 [7, 25] := by unfold Valid; decide
theorem validQ : Valid 5 1 [1, 2, 30, 12] := by unfold Valid; decide
theorem k_owners : ownersL 1 6 [7, 25, 14] = [0, 2] := by decide +kernel
theorem k_clash02 : clash2 [7, 25, 14] 1 0 2 = some 6 := by decide +kernel
theorem k_clash01 : clash2 [7, 25, 14] 1 0 1 = none := by decide +kernel
theorem k_apart3 : clash1 [7, 25, 14] 1 = some (0, 2) := by decide +kernel
theorem k_apart2 : clash1 [7, 25] 1 = none := by decide +kernel
theorem k_margin : marginL 5 [7, 25] (pairsL 2) = 1 := by decide +kernel
theorem k_told : toldV [7, 25, 14] 1 1 = 1 := by decide +kernel
theorem k_keep : keepO 5 [7, 25, 14] 2 = some 10 := by decide +kernel
theorem k_free : freeL 5 1 [7, 25] = [1, 2, 4, 8, 10, 12, 16, 18, 20, 30, 31] := by decide +kernel
theorem k_family : familyL [7, 25] 1 [1, 2, 30, 12] = [0, 2, 3] := by decide +kernel
theorem k_checkFam : checkFam [7, 25] 1 [1, 2, 30, 12] [0, 1] = 17 := by decide +kernel
end Go.Proofs.Ytlgdnbpboonhdaa
