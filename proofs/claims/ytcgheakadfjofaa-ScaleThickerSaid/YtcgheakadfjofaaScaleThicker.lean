/- ScaleThicker returns true for every stem, every rule, every list of numbers by which places are thicker, and every number that gives a foot. There is no condition. -/
import Derived.Test.YtcgheakadfjofaaY1
import Derived.Test.YtcgheakadfjofaaL10
import Derived.WalkKit
namespace Go.Proofs.Ytcgheakadfjofaa.scaleThicker
open Go.ChangeShapes Go.WideShapes Go.ChangeAt Go.RowKit
set_option linter.unusedVariables false
theorem own : ownKnob Try.prog.godebug = none := by kernel_rfl
set_option maxRecDepth 100000 in
theorem lifted (os : Os) (started : os.Started) (H : Type) (enc : TypeId × Value → H) :
    ReturnsInHanded {} Try.checked os 10 .any (Rows.scaleThickerSpec.pre6 enc Try.prog Try.f10 Rows.scaleThickerRow.domain false) (Rows.scaleThickerSpec.post enc Try.prog Try.f10 false true false false) := by
  refine returnsInHanded_of_change (C := Try.checked) own started (by kernel_rfl) Try.func10
    (ChangeSpec.witness6 (enc := enc) (C := Try.checked) false ⟨#[], #[.agg #[.slice none 0 0, .slice none 0 0], .agg #[.int .i64 0, .int .i64 0, .int .i64 0, .int .i64 0, .int .i64 0, .int .i64 0, .int .i64 0], .slice none 0 0, .int .u8 0], []⟩ 8 (by kernel_rfl) (by kernel_rfl) (by kernel_rfl) (by kernel_rfl)) ?_
  intro W base args ds gs before hval0 hW hcnd _
  have hval : ∀ (j : Nat) t v, Try.f10.params[j]? = some t → args[j]? = some v → Value.okWide Try.prog W .any base t v := hval0
  have hW' := hW
  obtain ⟨p, q, hA0, hV, rfl, hfz, hnd⟩ := hW
  have hA : DataW.TrodAll enc Try.prog W 0 (fun _ => true) true Try.f10.params.toList args.toList ds p := hA0
  have hA1 := hA
  rw [Try.params10] at hA hval
  obtain ⟨v0, v1, v2, v3, d0, d1, d2, d3, q0, q1, q2, q3, rfl, rfl, hp, h0, h1, h2, h3⟩ := trodAll_four hA
  obtain ⟨rfl, rfl⟩ := trodVars_none hV
  simp only [List.append_nil] at hW'
  obtain ⟨a, a', cap, cap', th, bd, rfl, hl, hl', hr, hr'⟩ := open_stem (hval 0 25 v0 rfl rfl) h0
  obtain ⟨r1, rfl⟩ := open_rule (hval 1 27 v1 rfl rfl) h1
  obtain ⟨a2, cap2, ns, rfl, hl2, hb2, hr2⟩ := open_list8 (hval 2 57 v2 rfl rfl) h2
  obtain ⟨x3, rfl, hb3⟩ := open_u8 (hval 3 5 v3 rfl rfl) h3
  clear hA0 hval0 hA
  refine (thick10 a a' cap cap' th bd r1 a2 cap2 ns x3 W hl hl' hr hr' hl2 hb2 hr2 hb3).mono fun e W' ⟨he, hg⟩ => ?_
  subst he
  exact ⟨_, rfl, law_post (pa := p) (pv := []) hW' hg (List.append_nil _).symm (fun _ _ _ => (trodAll_cons_mk (shut_bool Try.underlying4 _) trodAll_mk0)) (args_again hA1 (by rw [Try.params10]; decide) hg) rfl⟩
theorem over : Rows.scaleThickerRow.holds Try.pinned (OpenSpec.ofChange Rows.scaleThickerSpec) :=
  OpenClaim.holds_of_wide 10 Try.f10 rfl rfl rfl rfl rfl rfl rfl ⟨rfl, rfl, rfl, rfl, rfl⟩ rfl rfl rfl rfl rfl (by kernel_rfl) Try.func10 (by kernel_rfl)
    (of_decide_eq_true (by kernel_rfl)) (by unfold Func.isWrapper; first | (rw [if_pos (by decide +kernel)]; kernel_rfl) | (rw [if_neg (by decide +kernel)]; exact ⟨rfl, rfl⟩))
    (fun os started H enc _ => lifted os started H enc)
theorem proved : Rows.ScaleThickerSaid := over
#print axioms proved
end Go.Proofs.Ytcgheakadfjofaa.scaleThicker
