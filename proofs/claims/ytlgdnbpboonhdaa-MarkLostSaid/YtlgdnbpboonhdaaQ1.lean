/- Plain facts: the margin, and marks that are apart. -/
import Derived.Test.YtlgdnbpboonhdaaA2
namespace Go.Proofs.Ytlgdnbpboonhdaa
set_option linter.unusedVariables false
theorem foldMin_le (f : Nat × Nat → Int) : ∀ (ps : List (Nat × Nat)) (a L : Int), L ≤ ps.foldl (fun a p => min a (f p)) a ↔ L ≤ a ∧ ∀ p ∈ ps, L ≤ f p
  | [], a, L => by simp
  | p :: l, a, L => by
    rw [List.foldl_cons, foldMin_le f l]
    simp only [List.mem_cons, forall_eq_or_imp]
    constructor
    · rintro ⟨h1, h2⟩; exact ⟨by omega, by omega, h2⟩
    · rintro ⟨h1, h2, h3⟩; exact ⟨by omega, h3⟩
theorem le_margin (S : Nat) (ms : List Nat) (ps : List (Nat × Nat)) (L : Int) : L ≤ marginL S ms ps ↔ L ≤ S ∧ ∀ p ∈ ps, L ≤ mg ms p := foldMin_le _ _ _ _
theorem clash1_none (ms : List Nat) (L : Nat) : clash1 ms L = none ↔ ∀ p ∈ pairsL ms.length, clB ms L p = false := by
  unfold clash1
  rw [List.find?_eq_none]
  simp
/-- Marks are apart just if Loss is not above the margin. -/
theorem apart_margin (S L : Nat) (ms : List Nat) (hL : L ≤ S) : clash1 ms L = none ↔ (L : Int) ≤ marginL S ms (pairsL ms.length) := by
  rw [clash1_none, le_margin]
  constructor
  · intro h
    refine ⟨by omega, fun p hp => ?_⟩
    have := h p hp
    unfold clB at this
    simp only [decide_eq_false_iff_not] at this
    unfold mg; omega
  · rintro ⟨-, h⟩ p hp
    have := h p hp
    unfold mg at this
    unfold clB
    simp only [decide_eq_false_iff_not]
    omega
end Go.Proofs.Ytlgdnbpboonhdaa
