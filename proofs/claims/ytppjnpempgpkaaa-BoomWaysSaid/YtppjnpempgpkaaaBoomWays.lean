/- BoomWays returns true for every pond and ways: which ways are apart is what the definition says, or the error; those that are returned are, as many as the fewest sticks. There is no condition. -/
import Derived.Test.YtppjnpempgpkaaaY0
import Derived.Test.YtppjnpempgpkaaaLW
import Derived.WalkKit
namespace Go.Proofs.Ytppjnpempgpkaaa.boomWays
open Go.ChangeShapes Go.WideShapes Go.ChangeAt Go.RowKit
set_option linter.unusedVariables false
theorem own : ownKnob Try.prog.godebug = none := by kernel_rfl
set_option maxRecDepth 100000 in
theorem lifted (os : Os) (started : os.Started) (H : Type) (enc : TypeId × Value → H) :
    ReturnsInHanded {} Try.checked os 4 .any (Rows.boomWaysSpec.pre6 enc Try.prog Try.f4 Rows.boomWaysRow.domain false) (Rows.boomWaysSpec.post enc Try.prog Try.f4 false true false false) := by
  refine returnsInHanded_of_change (C := Try.checked) own started (by kernel_rfl) Try.func4
    (ChangeSpec.witness6 (enc := enc) (C := Try.checked) false ⟨#[], #[.agg #[.int .i64 0, .int .i64 0, .slice none 0 0, .slice none 0 0], .slice none 0 0], []⟩ 8 (by kernel_rfl) (by kernel_rfl) (by kernel_rfl) (by kernel_rfl)) ?_
  intro W base args ds gs before hval0 hW hcnd _
  have hval : ∀ (j : Nat) t v, Try.f4.params[j]? = some t → args[j]? = some v → Value.okWide Try.prog W .any base t v := hval0
  have hW' := hW
  obtain ⟨p, q, hA0, hV, rfl, hfz, hnd⟩ := hW
  have hA : DataW.TrodAll enc Try.prog W 0 (fun _ => true) true Try.f4.params.toList args.toList ds p := hA0
  have hA1 := hA
  rw [Try.params4] at hA hval
  obtain ⟨v0, v1, d0, d1, q0, q1, rfl, rfl, hp, h0, h1⟩ := trodAll_two hA
  obtain ⟨rfl, rfl⟩ := trodVars_none hV
  simp only [List.append_nil] at hW'
  obtain ⟨x0, y0, a0, b0, ca0, cb0, wl0, kl0, rfl, hlw0, hlk0, hrw0, hrk0⟩ := open_pond (hval 0 24 v0 rfl rfl) h0
  obtain ⟨ls1, hl1, hr1⟩ := open_ways (hval 1 32 v1 rfl rfl) h1
  clear hA0 hval0 hA
  refine (waysLaw_c x0 y0 a0 b0 ca0 cb0 wl0 kl0 v1 ls1 W hrw0 hrk0 hl1 hr1).mono fun e W' ⟨he, hg⟩ => ?_
  subst he
  exact ⟨_, rfl, law_post (pa := p) (pv := []) hW' hg (List.append_nil _).symm (fun _ _ _ => (trodAll_cons_mk (shut_bool Try.underlying4 _) trodAll_mk0)) (args_again hA1 (by rw [Try.params4]; decide) hg) rfl⟩
theorem over : Rows.boomWaysRow.holds Try.pinned (OpenSpec.ofChange Rows.boomWaysSpec) :=
  OpenClaim.holds_of_wide 4 Try.f4 rfl rfl rfl rfl rfl rfl rfl ⟨rfl, rfl, rfl, rfl, rfl⟩ rfl rfl rfl rfl rfl (by kernel_rfl) Try.func4 (by kernel_rfl)
    (of_decide_eq_true (by kernel_rfl)) (by unfold Func.isWrapper; first | (rw [if_pos (by decide +kernel)]; kernel_rfl) | (rw [if_neg (by decide +kernel)]; exact ⟨rfl, rfl⟩))
    (fun os started H enc _ => lifted os started H enc)
theorem proved : Rows.BoomWaysSaid := over
#print axioms proved
end Go.Proofs.Ytppjnpempgpkaaa.boomWays
