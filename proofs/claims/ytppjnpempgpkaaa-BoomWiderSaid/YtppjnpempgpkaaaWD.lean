/- BoomWider and BoomTogether: what they want of plain facts. -/
import Derived.Test.YtppjnpempgpkaaaP
namespace Go.Proofs.Ytppjnpempgpkaaa
set_option linter.unusedVariables false
set_option linter.unusedSimpArgs false
theorem widF_mono {W W' c d : Nat} (h0 : 0 < W) (h1 : W ≤ W') (h : c < d) : widF W W' c < widF W W' d := by
  unfold widF
  have a := Nat.mod_lt c h0
  have e1 := Nat.div_add_mod c W
  have e2 := Nat.div_add_mod d W
  have h2 : c / W ≤ d / W := Nat.div_le_div_right (Nat.le_of_lt h)
  rcases Nat.lt_or_eq_of_le h2 with h3 | h3
  · have h4 : (c / W + 1) * W' ≤ d / W * W' := Nat.mul_le_mul_right _ h3
    rw [Nat.add_mul, Nat.one_mul] at h4
    omega
  · rw [h3] at e1 ⊢
    omega
theorem widF_lst {W H W' H' : Nat} {l : List Nat} (h0 : 0 < W) (h1 : W ≤ W') (h2 : H ≤ H') (h : Lst (W * H) l) : Lst (W' * H') (l.map (widF W W')) := by
  obtain ⟨a, b⟩ := h
  refine ⟨?_, fun x hx => ?_⟩
  · rw [List.pairwise_map]
    exact a.imp fun h => widF_mono h0 h1 h
  · obtain ⟨c, hc, rfl⟩ := List.mem_map.1 hx
    exact widF_lt h1 h2 (b c hc)
theorem widVP {W H W' H' : Nat} {wn kn : List Nat} (hv : VP W H wn kn) (h1 : W ≤ W') (h2 : H ≤ H') (hW' : W' ≤ 8) (hH' : H' ≤ 8) : VP W' H' (wn.map (widF W W')) (kn.map (widF W W')) where
  w1 := Nat.le_trans hv.w1 h1
  w8 := hW'
  h1 := Nat.le_trans hv.h1 h2
  h8 := hH'
  want := widF_lst hv.w1 h1 h2 hv.want
  keep := widF_lst hv.w1 h1 h2 hv.keep
  dis := fun x hx hw => by
    obtain ⟨c, hc, rfl⟩ := List.mem_map.1 hx
    obtain ⟨d, hd, e⟩ := List.mem_map.1 hw
    have := widF_inj h1 (hv.want.lt d hd) (hv.keep.lt c hc) e
    subst this
    exact hv.dis d hc hd
theorem stk_none (G : Grid) : stk G (fun _ => false) = 0 := by
  unfold stk
  rw [List.countP_eq_zero]
  intro s hs
  simp [lv]
theorem wider {W H W' H' : Nat} {wn kn : List Nat} (hv : VP W H wn kn) (h1 : W ≤ W') (h2 : H ≤ H') (hv' : VP W' H' (wn.map (widF W W')) (kn.map (widF W W'))) :
    stk (gp hv') (smallB (gp hv') 64 (wn.map (widF W W')) (memL (kn.map (widF W W')))) ≤ stk (gp hv) (smallB (gp hv) 64 wn (memL kn)) ∧ (0 < stk (gp hv') (smallB (gp hv') 64 (wn.map (widF W W')) (memL (kn.map (widF W W')))) ↔ 0 < wn.length) := by
  have B := hv.pond.best
  have B' := hv'.pond.best
  generalize smallB (gp hv) 64 wn (memL kn) = s at *
  generalize smallB (gp hv') 64 (wn.map (widF W W')) (memL (kn.map (widF W W'))) = t at *
  refine ⟨?_, fun h => ?_, fun h => ?_⟩
  · have := B'.le (widW W H W' s) fun x hx => ⟨fun q => ?_, fun q => ?_⟩
    · rw [show stk (gp hv') (widW W H W' s) = stk (gp hv) s from wid_stk hv.w8 hv.h8 hv'.w8 hv'.h8 h1 h2 s] at this
      exact this
    · obtain ⟨c, hc, rfl⟩ := List.mem_map.1 (of_decide_eq_true q)
      rw [widW_at h1 (hv.want.lt c hc)]
      exact (B.es c (hv.want.lt c hc)).1 (decide_eq_true hc)
    · obtain ⟨c, hc, rfl⟩ := List.mem_map.1 (of_decide_eq_true q)
      rw [widW_at h1 (hv.keep.lt c hc)]
      exact (B.es c (hv.keep.lt c hc)).2 (decide_eq_true hc)
  · rcases Nat.eq_zero_or_pos wn.length with h3 | h3
    · exfalso
      have h4 : wn = [] := List.length_eq_zero_iff.1 h3
      subst h4
      have := B'.le (fun _ => false) fun x hx => ⟨fun q => by simp [wantB] at q, fun _ => rfl⟩
      rw [stk_none] at this
      omega
    · exact h3
  · obtain ⟨c, hc⟩ := List.exists_mem_of_length_pos h
    have h5 := hv'.want.lt (widF W W' c) (List.mem_map.2 ⟨c, hc, rfl⟩)
    exact stk_pos hv'.w8 hv'.h8 (W' * H') (by omega) h5 ((B'.es _ h5).1 (decide_eq_true (List.mem_map.2 ⟨c, hc, rfl⟩)))
end Go.Proofs.Ytppjnpempgpkaaa
