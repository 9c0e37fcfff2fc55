/- When a chain is valid. -/
import Derived.Test.YtppjnpempgpkaaaK8
namespace Go.Proofs.Ytppjnpempgpkaaa
set_option linter.unusedVariables false
set_option linter.unusedSimpArgs false
theorem chk0_of {X Y : Int} {s : ByteArray} (h1 : 4 ≤ s.size ∧ s.size ≤ 80) (h2 : ∀ k ∈ dirs s, k < 4) (h3 : ∀ q ∈ pts (X, Y) (dirs s), onB q) (h4 : clsd (X, Y) (dirs s) = true) : chkC X Y s = 0 := by
  have hlen := dirs_len s
  have hne : dirs s ≠ [] := fun e => by rw [e] at hlen; simp at hlen; omega
  have hxy : onB (X, Y) := h3 _ (List.mem_of_getElem? (pts_head _ _))
  have hpt : ptsW (X, Y) (dirs s) = pts (X, Y) (dirs s) := ptsW_is _ _ 8 (by omega) (by unfold onB at hxy; dsimp only at hxy ⊢; omega)
  have hfin : finW (X, Y) (dirs s) = fin (X, Y) (dirs s) := by
    have e1 := ptsW_last (X, Y) (dirs s)
    rw [hpt, pts_last] at e1
    exact (Option.some.inj e1).symm
  have a1 : inn 4 80 [(s.size : Int)] = true := inn_one.2 (by omega)
  have a2 : s.data.toList.all okL = true := List.all_eq_true.2 fun b hb => by
    unfold okL
    exact decide_eq_true (h2 _ (List.mem_map.2 ⟨b, hb, rfl⟩))
  have a3 : (ptsW (X, Y) (dirs s)).all onB' = true := by
    rw [hpt]
    refine List.all_eq_true.2 fun q hq => ?_
    have := h3 q hq
    unfold onB at this
    unfold onB'
    exact decide_eq_true this
  have a4 : (decide ((ptsW (X, Y) (dirs s)).tail.Nodup) && decide (finW (X, Y) (dirs s) = (X, Y))) = true := by
    rw [hpt, hfin, ← clsd_later hne]; exact h4
  unfold chkC
  rw [a1, a2, a3, a4]
  rfl
end Go.Proofs.Ytppjnpempgpkaaa
