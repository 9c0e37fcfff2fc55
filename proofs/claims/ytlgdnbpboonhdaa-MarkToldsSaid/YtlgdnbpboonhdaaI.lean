/- A region in whatever order, by a relation that each operation keeps: one walk an operation. -/
import Derived.Test.YtlgdnbpboonhdaaK
import Derived.OrdersIn
namespace Go.Proofs.Ytlgdnbpboonhdaa
open Go.RowKit
set_option linter.unusedVariables false
section
variable {F : Fence} {n : Nat} {P : Program} {ops : Array Oper} {Q : Exit → Act → World → Prop} {md : Region.Mode}
/-- If each operation that may come up keeps the relation, the region ends in it, whatever the order. -/
theorem wpAnyIn_inv (Inv : Nat → Array Bool → Act → World → Prop)
    (hstep : ∀ f listed a w i oi, Inv (f + 1) listed a w → ops[i]? = some oi → listed.getD i true = false → (∀ e ∈ oi.after, Region.binds md e = true → listed.getD e.on false = true) →
      ∀ K : Act → World → Prop, (∀ a' w', Inv f (listed.setIfInBounds i true) a' w' → K a' w') → wpOpIn F n P ops Q i K a w)
    (hend : ∀ f listed a w, Inv (f + 1) listed a w → Region.ready md ops listed ≠ [])
    (hzero : ∀ listed a w, Inv 0 listed a w → Region.ready md ops listed = [] ∧ Q .normal a w) :
    ∀ f listed a w, Inv f listed a w → wpAnyIn F n P md ops Q f listed a w
  | 0, listed, a, w, h => hzero listed a w h
  | f + 1, listed, a, w, h => by
    refine ⟨fun h0 => absurd h0 (hend f listed a w h), fun i hi => ?_⟩
    obtain ⟨h1, oi, h2, h3⟩ := mem_ready.1 hi
    exact hstep f listed a w i oi h h2 h1 h3 _ fun a' w' h' => wpAnyIn_inv Inv hstep hend hzero f _ a' w' h'
end
end Go.Proofs.Ytlgdnbpboonhdaa
