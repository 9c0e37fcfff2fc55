/- BoomKnown: closed contracts of its calls. -/
import Derived.Test.YtppjnpempgpkaaaS5
import Derived.Test.YtppjnpempgpkaaaH7
import Derived.Test.YtppjnpempgpkaaaH6
import Derived.Test.YtppjnpempgpkaaaN3
import Derived.Test.YtppjnpempgpkaaaK1
namespace Go.Proofs.Ytppjnpempgpkaaa
open Go.RowKit Go.Shelf
set_option linter.unusedVariables false
set_option linter.unusedSimpArgs false
attribute [local go_sem] Oper.semAt_some

set_option maxRecDepth 100000 in
theorem known_sticks : stk g43 (memL [5]) = 4 ∧ encB [5] [6] [5] = true ∧ encB [5] [6] [4] = false := by decide +kernel
set_option maxRecDepth 100000 in
theorem known_fewest : stk g43 (smallB g43 64 [5] (memL [6])) = 4 := by decide +kernel
set_option maxRecDepth 100000 in
theorem known_kind : kindK (smallB g43 64 [5, 7] (memL []) 5) (largeB g43 64 [5, 7] (memL []) 5) = 2 ∧ kindK (smallB g43 64 [5, 7] (memL []) 4) (largeB g43 64 [5, 7] (memL []) 4) = 0 := by decide +kernel
set_option maxRecDepth 100000 in
theorem known_ways : chkW g43 4 3 (natI [5]) (natI [6]) [([5, 9], 1)] = 0 ∧ chkW g43 4 3 (natI [5]) (natI [6]) [([5, 9], 0)] = 16 := by decide +kernel
set_option maxRecDepth 100000 in
theorem known_most : mostB 9 8 8 = (2, 2) ∧ mostB 12 2 8 = (2, 4) := by decide +kernel
theorem kn1 (X : World) (pa pb : Option Addr) (v : Value) (hw : Reads X (.slice pa 1 1) [5]) (hk : Reads X (.slice pb 1 1) [6]) (hx : Reads X v [5]) : Calls Try.prog 14 #[.agg #[.int .i64 4, .int .i64 3, .slice pa 1 1, .slice pb 1 1], v] X fun e w' => e = .returned (.tuple #[.int .i64 4, .int .i64 0]) ∧ Ext X w' := by
  have h := sticks_ok 4 3 1 1 1 1 pa pb [5] [6] vp43 v X hw hk [5] ⟨by decide, by decide⟩ hx
  rw [if_pos known_sticks.2.1, if_pos known_sticks.2.1, show stk (gp vp43) (memL [5]) = 4 from known_sticks.1] at h
  exact h
theorem kn2 (X : World) (pa pb : Option Addr) (v : Value) (hw : Reads X (.slice pa 1 1) [5]) (hk : Reads X (.slice pb 1 1) [6]) (hx : Reads X v [4]) : Calls Try.prog 14 #[.agg #[.int .i64 4, .int .i64 3, .slice pa 1 1, .slice pb 1 1], v] X fun e w' => e = .returned (.tuple #[.int .i64 0, .int .i64 19]) ∧ Ext X w' := by
  have h := sticks_ok 4 3 1 1 1 1 pa pb [5] [6] vp43 v X hw hk [4] ⟨by decide, by decide⟩ hx
  have hn : ¬ encB [5] [6] [4] = true := by rw [known_sticks.2.2]; decide
  rw [if_neg hn, if_neg hn] at h
  exact h
theorem kn3 (X : World) (pa pb : Option Addr) (hw : Reads X (.slice pa 1 1) [5]) (hk : Reads X (.slice pb 1 1) [6]) : Calls Try.prog 22 #[.agg #[.int .i64 4, .int .i64 3, .slice pa 1 1, .slice pb 1 1]] X fun e w' => e = .returned (.tuple #[.int .i64 4, .int .i64 0]) ∧ Ext X w' := by
  have h := fewest_ok 4 3 1 1 1 1 pa pb [5] [6] vp43 X hw hk
  rw [show stk (gp vp43) (smallB (gp vp43) 64 [5] (memL [6])) = 4 from known_fewest] at h
  exact h
theorem kn4 (X : World) (ra : Option Addr) (hw : Reads X (.slice ra 2 2) [5, 7]) : Calls Try.prog 41 #[.agg #[.int .i64 4, .int .i64 3, .slice ra 2 2, .slice none 0 0], .int .i64 5] X fun e w' => e = .returned (.tuple #[.int .i64 2, .int .i64 0]) ∧ Ext X w' := by
  have h := kind_ok 4 3 2 2 0 0 ra none [5, 7] [] vr43 5 (by decide) X hw (Reads.nil X)
  rw [show kindK (smallB (gp vr43) 64 [5, 7] (memL []) 5) (largeB (gp vr43) 64 [5, 7] (memL []) 5) = 2 from known_kind.1] at h
  exact h
theorem kn5 (X : World) (ra : Option Addr) (hw : Reads X (.slice ra 2 2) [5, 7]) : Calls Try.prog 41 #[.agg #[.int .i64 4, .int .i64 3, .slice ra 2 2, .slice none 0 0], .int .i64 4] X fun e w' => e = .returned (.tuple #[.int .i64 0, .int .i64 0]) ∧ Ext X w' := by
  have h := kind_ok 4 3 2 2 0 0 ra none [5, 7] [] vr43 4 (by decide) X hw (Reads.nil X)
  rw [show kindK (smallB (gp vr43) 64 [5, 7] (memL []) 4) (largeB (gp vr43) 64 [5, 7] (memL []) 4) = 0 from known_kind.2] at h
  exact h
theorem kn6 (X : World) (pa pb : Option Addr) (v : Value) (hw : Reads X (.slice pa 1 1) [5]) (hk : Reads X (.slice pb 1 1) [6]) (hx : ReadsW X v [([5, 9], 1)]) : Calls Try.prog 19 #[.agg #[.int .i64 4, .int .i64 3, .slice pa 1 1, .slice pb 1 1], v] X fun e w' => e = .returned (.tuple #[.int .i64 1, .int .i64 0]) ∧ Ext X w' := by
  have h := checkWays_ok 4 3 1 1 1 1 pa pb [5] [6] vp43 v X hw hk _ hx (by decide)
  have e1 : chkW (gp vp43) 4 3 (natI [5]) (natI [6]) [([5, 9], 1)] = 0 := known_ways.1
  rw [if_pos e1, e1] at h
  exact h
theorem kn7 (X : World) (pa pb : Option Addr) (v : Value) (hw : Reads X (.slice pa 1 1) [5]) (hk : Reads X (.slice pb 1 1) [6]) (hx : ReadsW X v [([5, 9], 0)]) : Calls Try.prog 19 #[.agg #[.int .i64 4, .int .i64 3, .slice pa 1 1, .slice pb 1 1], v] X fun e w' => e = .returned (.tuple #[.int .i64 0, .int .i64 16]) ∧ Ext X w' := by
  have h := checkWays_ok 4 3 1 1 1 1 pa pb [5] [6] vp43 v X hw hk _ hx (by decide)
  have e1 : chkW (gp vp43) 4 3 (natI [5]) (natI [6]) [([5, 9], 0)] = 16 := known_ways.2
  rw [if_neg (by rw [e1]; decide), e1] at h
  exact h
set_option maxRecDepth 100000 in
theorem kn8 (X : World) : Calls Try.prog 25 #[.agg #[.int .i64 1, .int .i64 1, .string ⟨#[78, 69, 78, 69, 83, 83, 87, 87]⟩]] X fun e w' => e = .returned (.tuple #[.int .i64 3, .bool false, .int .i64 0]) ∧ Ext X w' := by
  have e0 : chkC 1 1 ⟨#[78, 69, 78, 69, 83, 83, 87, 87]⟩ = 0 ∧ (encl (sts (1, 1) (dirs ⟨#[78, 69, 78, 69, 83, 83, 87, 87]⟩))).length = 3 ∧ lftB (sts (1, 1) (dirs ⟨#[78, 69, 78, 69, 83, 83, 87, 87]⟩)) = false := by decide +kernel
  have h := area_ok 1 1 ⟨#[78, 69, 78, 69, 83, 83, 87, 87]⟩ X e0.1
  rw [e0.2.1, e0.2.2] at h
  exact h
set_option maxRecDepth 100000 in
theorem kn9 (X : World) : Calls Try.prog 27 #[.agg #[.int .i64 0, .int .i64 0, .string ⟨#[69, 78, 87, 83]⟩]] X fun e w' => e = .returned (.int .i64 0) ∧ Ext X w' := by
  have h := checkChain_c 0 0 ⟨#[69, 78, 87, 83]⟩ X
  rw [show chkC 0 0 ⟨#[69, 78, 87, 83]⟩ = 0 from by decide +kernel] at h
  exact h
set_option maxRecDepth 100000 in
theorem kn10 (X : World) : Calls Try.prog 27 #[.agg #[.int .i64 0, .int .i64 0, .string ⟨#[69, 78, 87]⟩]] X fun e w' => e = .returned (.int .i64 6) ∧ Ext X w' := by
  have h := checkChain_c 0 0 ⟨#[69, 78, 87]⟩ X
  rw [show chkC 0 0 ⟨#[69, 78, 87]⟩ = 6 from by decide +kernel] at h
  exact h
set_option maxRecDepth 100000 in
theorem kn11 (X : World) : Calls Try.prog 27 #[.agg #[.int .i64 0, .int .i64 0, .string ⟨#[69, 69, 78, 87]⟩]] X fun e w' => e = .returned (.int .i64 19) ∧ Ext X w' := by
  have h := checkChain_c 0 0 ⟨#[69, 69, 78, 87]⟩ X
  rw [show chkC 0 0 ⟨#[69, 69, 78, 87]⟩ = 19 from by decide +kernel] at h
  exact h
set_option maxRecDepth 100000 in
theorem kn12 (X : World) : Calls Try.prog 27 #[.agg #[.int .i64 0, .int .i64 0, .string ⟨#[69, 78, 87, 88]⟩]] X fun e w' => e = .returned (.int .i64 8) ∧ Ext X w' := by
  have h := checkChain_c 0 0 ⟨#[69, 78, 87, 88]⟩ X
  rw [show chkC 0 0 ⟨#[69, 78, 87, 88]⟩ = 8 from by decide +kernel] at h
  exact h
theorem kn13 (X : World) : Calls Try.prog 30 #[.int .i64 9, .int .i64 8, .int .i64 8] X fun e w' => e = .returned (.tuple #[.int .i64 4, .int .i64 2, .int .i64 2, .int .i64 0]) ∧ Ext X w' := by
  have h := most_ok 9 8 8 X (by decide) (by decide) (by decide)
  rw [known_most.1] at h
  exact h
theorem kn14 (X : World) : Calls Try.prog 30 #[.int .i64 12, .int .i64 2, .int .i64 8] X fun e w' => e = .returned (.tuple #[.int .i64 8, .int .i64 2, .int .i64 4, .int .i64 0]) ∧ Ext X w' := by
  have h := most_ok 12 2 8 X (by decide) (by decide) (by decide)
  rw [known_most.2] at h
  exact h
end Go.Proofs.Ytppjnpempgpkaaa
