/- Lists of cells cut out of all cells. -/
import Derived.Test.YtppjnpempgpkaaaGreatP
namespace Go.Proofs.YtppjnpempgpkaaaGreat
set_option linter.unusedVariables false
set_option linter.unusedSimpArgs false
theorem filter_lst (n : Nat) (f : Nat → Bool) : Lst n ((List.range n).filter f) := ⟨List.pairwise_lt_range.filter _, fun x hx => List.mem_range.1 (List.mem_filter.1 hx).1⟩
theorem filter_len (n : Nat) (f : Nat → Bool) : ((List.range n).filter f).length ≤ n := by
  have := List.length_filter_le f (List.range n)
  rwa [List.length_range] at this
end Go.Proofs.YtppjnpempgpkaaaGreat
