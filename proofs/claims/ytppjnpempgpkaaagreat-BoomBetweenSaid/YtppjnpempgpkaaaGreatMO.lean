/- BoomMore: one more cell that is wanted, or kept. Plain. -/
import Derived.Test.YtppjnpempgpkaaaGreatIN
import Derived.Test.YtppjnpempgpkaaaGreatFR
namespace Go.Proofs.YtppjnpempgpkaaaGreat
set_option linter.unusedVariables false
set_option linter.unusedSimpArgs false
section
variable {W H : Nat} {wn kn : List Nat}
theorem vpWant (hv : VP W H wn kn) {c : Nat} (h1 : c < W * H) (h2 : c ∉ wn) (h3 : c ∉ kn) : VP W H (insN c wn) kn where
  w1 := hv.w1
  w8 := hv.w8
  h1 := hv.h1
  h8 := hv.h8
  want := insN_lst hv.want h1 h2
  keep := hv.keep
  dis := fun x hx h => by
    rcases mem_insN.1 h with rfl | h
    · exact h3 hx
    · exact hv.dis x hx h
theorem vpKeep (hv : VP W H wn kn) {c : Nat} (h1 : c < W * H) (h2 : c ∉ wn) (h3 : c ∉ kn) : VP W H wn (insN c kn) where
  w1 := hv.w1
  w8 := hv.w8
  h1 := hv.h1
  h8 := hv.h8
  want := hv.want
  keep := insN_lst hv.keep h1 h3
  dis := fun x hx h => by
    rcases mem_insN.1 hx with rfl | hx
    · exact h2 h
    · exact hv.dis x hx h
theorem all_sub {n : Nat} {f g : Nat → Bool} (h : ∀ x, x < n → f x = true → g x = true) : (natI ((List.range n).filter f)).all (hasB (natI ((List.range n).filter g))) = true := by
  rw [List.all_eq_true]
  intro y hy
  obtain ⟨x, hx, rfl⟩ := List.mem_map.1 hy
  rw [hasB_nat]
  obtain ⟨h1, h2⟩ := List.mem_filter.1 hx
  exact decide_eq_true (List.mem_filter.2 ⟨h1, h x (List.mem_range.1 h1) h2⟩)
theorem more_all (hv : VP W H wn kn) {c : Nat} (hv1 : VP W H (insN c wn) kn) (hv2 : VP W H wn (insN c kn)) :
    fewN hv ≤ fewN hv1 ∧ fewN hv ≤ fewN hv2 ∧ min (fewN hv1) (fewN hv2) = fewN hv ∧ (natI (smL hv)).all (hasB (natI (smL hv1))) = true ∧ (natI (lgL hv)).all (hasB (natI (lgL hv1))) = true ∧ (natI (smL hv2)).all (hasB (natI (smL hv))) = true ∧ (natI (lgL hv2)).all (hasB (natI (lgL hv))) = true := by
  have B := hv.pond.best
  have B1 := hv1.pond.best
  have B2 := hv2.pond.best
  have hw : ∀ x, wantB (insN c wn) x = true ↔ wantB wn x = true ∨ x = c := fun x => by
    unfold wantB
    rw [decide_eq_true_iff, decide_eq_true_iff, mem_insN]
    exact Or.comm
  have hk : ∀ x, memL (insN c kn) x = true ↔ memL kn x = true ∨ x = c := fun x => by
    unfold memL
    rw [decide_eq_true_iff, decide_eq_true_iff, mem_insN]
    exact Or.comm
  have m1 := more_want (G := gp hv) B B1 fun x hx => (hw x).2 (.inl hx)
  have m2 := more_keep (G := gp hv) B B2 fun x hx => (hk x).2 (.inl hx)
  have m3 := more_one (G := gp hv) B B1 B2 hw hk
  exact ⟨m1.1, m2.1, m3, all_sub fun x hx q => (m1.2 x hx).1 q, all_sub fun x hx q => (m1.2 x hx).2 q, all_sub fun x hx q => (m2.2 x hx).1 q, all_sub fun x hx q => (m2.2 x hx).2 q⟩
theorem fre_mem {x k : Nat} : x ∈ freN wn kn k ↔ x < k ∧ x ∉ wn ∧ x ∉ kn := by
  unfold freN memL
  rw [List.mem_filter, List.mem_range, Bool.and_eq_true, Bool.not_eq_true', Bool.not_eq_true', decide_eq_false_iff_not, decide_eq_false_iff_not]
end
end Go.Proofs.YtppjnpempgpkaaaGreat
