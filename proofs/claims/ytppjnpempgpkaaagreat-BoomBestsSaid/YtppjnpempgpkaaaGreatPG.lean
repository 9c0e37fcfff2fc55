/- BoomProved: ways that are apart are no more than the sticks of water; the best water as lists. Plain. -/
import Derived.Test.YtppjnpempgpkaaaGreatTA
import Derived.Test.YtppjnpempgpkaaaGreatJ3
namespace Go.Proofs.YtppjnpempgpkaaaGreat
set_option linter.unusedVariables false
set_option linter.unusedSimpArgs false
/-- The smallest and the largest best water as lists. -/
def smL {W H : Nat} {wn kn : List Nat} (hv : VP W H wn kn) : List Nat := (List.range (W * H)).filter (smallB (gp hv) 64 wn (memL kn))
def lgL {W H : Nat} {wn kn : List Nat} (hv : VP W H wn kn) : List Nat := (List.range (W * H)).filter (largeB (gp hv) 64 wn (memL kn))
theorem memL_filter {n : Nat} {f : Nat → Bool} {x : Nat} (h : x < n) : memL ((List.range n).filter f) x = f x := by
  unfold memL
  cases hf : f x with
  | true => exact decide_eq_true (List.mem_filter.2 ⟨List.mem_range.2 h, hf⟩)
  | false => exact decide_eq_false fun h => by rw [(List.mem_filter.1 h).2] at hf; cases hf
section
variable {W H : Nat} {wn kn : List Nat}
theorem sm_lst (hv : VP W H wn kn) : Lst (W * H) (smL hv) := filter_lst _ _
theorem lg_lst (hv : VP W H wn kn) : Lst (W * H) (lgL hv) := filter_lst _ _
theorem sm_stk (hv : VP W H wn kn) : stk (gp hv) (memL (smL hv)) = stk (gp hv) (smallB (gp hv) 64 wn (memL kn)) := stk_congr (gp hv) fun x hx => memL_filter hx
theorem lg_stk (hv : VP W H wn kn) : stk (gp hv) (memL (lgL hv)) = stk (gp hv) (smallB (gp hv) 64 wn (memL kn)) :=
  (stk_congr (gp hv) fun x hx => memL_filter hx).trans hv.pond.best.nl
theorem enc_of (hv : VP W H wn kn) {f : Nat → Bool} (h : Enc (W * H) (wantB wn) (memL kn) f) : encB wn kn ((List.range (W * H)).filter f) = true := by
  unfold encB
  rw [Bool.and_eq_true, List.all_eq_true, Bool.not_eq_true', List.any_eq_false]
  refine ⟨fun x hx => ?_, fun x hx => ?_⟩
  · have hl := hv.want.lt x hx
    rw [memL_filter hl]
    exact (h x hl).1 (decide_eq_true hx)
  · have hl := hv.keep.lt x hx
    rw [memL_filter hl, (h x hl).2 (decide_eq_true hx)]
    decide
theorem sm_enc (hv : VP W H wn kn) : encB wn kn (smL hv) = true := enc_of hv hv.pond.best.es
theorem lg_enc (hv : VP W H wn kn) : encB wn kn (lgL hv) = true := enc_of hv hv.pond.best.el
theorem enc_mem {ns : List Nat} (h : encB wn kn ns = true) : Enc (W * H) (wantB wn) (memL kn) (memL ns) := by
  unfold encB at h
  rw [Bool.and_eq_true, List.all_eq_true, Bool.not_eq_true', List.any_eq_false] at h
  intro x hx
  refine ⟨fun q => h.1 x (of_decide_eq_true q), fun q => ?_⟩
  have := h.2 x (of_decide_eq_true q)
  simpa using this
end
/-- The fewest sticks of a valid pond. -/
def fewN {W H : Nat} {wn kn : List Nat} (hv : VP W H wn kn) : Nat := stk (gp hv) (smallB (gp hv) 64 wn (memL kn))
end Go.Proofs.YtppjnpempgpkaaaGreat
