/- BoomProved, the stage's theorem, returns true for every pond, water by bits, and ways: the ways that are returned are apart, and as many as the sticks of the smallest and of the largest best water; no given water that encloses has fewer sticks, and no given ways that are apart are more. There is no condition. -/
import Derived.Test.YtppjnpempgpkaaaGreatY0
import Derived.Test.YtppjnpempgpkaaaGreatLPR
import Derived.Test.YtppjnpempgpkaaaGreatY2
import Derived.WalkKit
namespace Go.Proofs.YtppjnpempgpkaaaGreat.boomProved
open Go.ChangeShapes Go.WideShapes Go.ChangeAt Go.RowKit
set_option linter.unusedVariables false
theorem own : ownKnob Tryz.prog.godebug = none := by kernel_rfl
set_option maxRecDepth 100000 in
theorem lifted (os : Os) (started : os.Started) (H : Type) (enc : TypeId × Value → H) :
    ReturnsInHanded {} Tryz.checked os 4 .any (Rows.boomProvedSpec.pre6 enc Tryz.prog Tryz.f4 Rows.boomProvedRow.domain false) (Rows.boomProvedSpec.post enc Tryz.prog Tryz.f4 false true false false) := by
  refine returnsInHanded_of_change (C := Tryz.checked) own started (by kernel_rfl) Tryz.func4
    (ChangeSpec.witness6 (enc := enc) (C := Tryz.checked) false ⟨#[], #[.agg #[.int .i64 0, .int .i64 0, .slice none 0 0, .slice none 0 0], .int .u64 0, .slice none 0 0], []⟩ 8 (by kernel_rfl) (by kernel_rfl) (by kernel_rfl) (by kernel_rfl)) ?_
  intro W base args ds gs before hval0 hW hcnd _
  have hval : ∀ (j : Nat) t v, Tryz.f4.params[j]? = some t → args[j]? = some v → Value.okWide Tryz.prog W .any base t v := hval0
  have hW' := hW
  obtain ⟨p, q, hA0, hV, rfl, hfz, hnd⟩ := hW
  have hA : DataW.TrodAll enc Tryz.prog W 0 (fun _ => true) true Tryz.f4.params.toList args.toList ds p := hA0
  have hA1 := hA
  rw [Tryz.params4] at hA hval
  obtain ⟨v0, v1, v2, d0, d1, d2, q0, q1, q2, rfl, rfl, hp, h0, h1, h2⟩ := trodAll_three hA
  obtain ⟨rfl, rfl⟩ := trodVars_none hV
  simp only [List.append_nil] at hW'
  obtain ⟨x0, y0, a0, b0, ca0, cb0, wl0, kl0, rfl, hlw0, hlk0, hrw0, hrk0⟩ := open_pond (hval 0 24 v0 rfl rfl) h0
  obtain ⟨x1, rfl, hx1⟩ := open_u64 (hval 1 35 v1 rfl rfl) h1
  obtain ⟨ls2, hl2, hr2⟩ := open_ways (hval 2 36 v2 rfl rfl) h2
  clear hA0 hval0 hA
  refine (proved_c x0 y0 a0 b0 ca0 cb0 wl0 kl0 x1 hx1 v2 ls2 W hrw0 hrk0 hl2 hr2).mono fun e W' ⟨he, hg⟩ => ?_
  subst he
  exact ⟨_, rfl, law_post (pa := p) (pv := []) hW' hg (List.append_nil _).symm (fun _ _ _ => (trodAll_cons_mk (shut_bool Tryz.underlying4 _) trodAll_mk0)) (args_again hA1 (by rw [Tryz.params4]; decide) hg) rfl⟩
theorem over : Rows.boomProvedRow.holds Tryz.pinned (OpenSpec.ofChange Rows.boomProvedSpec) :=
  OpenClaim.holds_of_wide 4 Tryz.f4 rfl rfl rfl rfl rfl rfl rfl ⟨rfl, rfl, rfl, rfl, rfl⟩ rfl rfl rfl rfl rfl (by kernel_rfl) Tryz.func4 (by kernel_rfl)
    (of_decide_eq_true (by kernel_rfl)) (by unfold Func.isWrapper; first | (rw [if_pos (by decide +kernel)]; kernel_rfl) | (rw [if_neg (by decide +kernel)]; exact ⟨rfl, rfl⟩))
    (fun os started H enc _ => lifted os started H enc)
theorem proved : Rows.BoomProvedSaid := over
#print axioms proved
end Go.Proofs.YtppjnpempgpkaaaGreat.boomProved
