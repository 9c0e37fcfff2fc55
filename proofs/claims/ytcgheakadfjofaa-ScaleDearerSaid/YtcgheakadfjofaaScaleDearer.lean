/- ScaleDearer returns true for every stem, every rule, and all numbers. There is no condition. -/
import Derived.Test.YtcgheakadfjofaaY2
import Derived.Test.YtcgheakadfjofaaL11
import Derived.WalkKit
namespace Go.Proofs.Ytcgheakadfjofaa.scaleDearer
open Go.ChangeShapes Go.WideShapes Go.ChangeAt Go.RowKit
set_option linter.unusedVariables false
theorem own : ownKnob Try.prog.godebug = none := by kernel_rfl
set_option maxRecDepth 100000 in
theorem lifted (os : Os) (started : os.Started) (H : Type) (enc : TypeId × Value → H) :
    ReturnsInHanded {} Try.checked os 11 .any (Rows.scaleDearerSpec.pre6 enc Try.prog Try.f11 Rows.scaleDearerRow.domain false) (Rows.scaleDearerSpec.post enc Try.prog Try.f11 false true false false) := by
  refine returnsInHanded_of_change (C := Try.checked) own started (by kernel_rfl) Try.func11
    (ChangeSpec.witness6 (enc := enc) (C := Try.checked) false ⟨#[], #[.agg #[.slice none 0 0, .slice none 0 0], .agg #[.int .i64 0, .int .i64 0, .int .i64 0, .int .i64 0, .int .i64 0, .int .i64 0, .int .i64 0], .agg #[.int .u8 0, .int .u8 0], .agg #[.int .u8 0, .int .u8 0], .int .u8 0, .int .u8 0, .int .u8 0], []⟩ 8 (by kernel_rfl) (by kernel_rfl) (by kernel_rfl) (by kernel_rfl)) ?_
  intro W base args ds gs before hval0 hW hcnd _
  have hval : ∀ (j : Nat) t v, Try.f11.params[j]? = some t → args[j]? = some v → Value.okWide Try.prog W .any base t v := hval0
  have hW' := hW
  obtain ⟨p, q, hA0, hV, rfl, hfz, hnd⟩ := hW
  have hA : DataW.TrodAll enc Try.prog W 0 (fun _ => true) true Try.f11.params.toList args.toList ds p := hA0
  have hA1 := hA
  rw [Try.params11] at hA hval
  obtain ⟨v0, v1, v2, v3, v4, v5, v6, d0, d1, d2, d3, d4, d5, d6, q0, q1, q2, q3, q4, q5, q6, rfl, rfl, hp, h0, h1, h2, h3, h4, h5, h6⟩ := trodAll_n7 hA
  obtain ⟨rfl, rfl⟩ := trodVars_none hV
  simp only [List.append_nil] at hW'
  obtain ⟨a, a', cap, cap', th, bd, rfl, hl, hl', hr, hr'⟩ := open_stem (hval 0 25 v0 rfl rfl) h0
  obtain ⟨r1, rfl⟩ := open_rule (hval 1 27 v1 rfl rfl) h1
  obtain ⟨x2, y2, rfl, hx2, hy2⟩ := open_arr8 (hval 2 66 v2 rfl rfl) h2
  obtain ⟨x3, y3, rfl, hx3, hy3⟩ := open_arr8 (hval 3 66 v3 rfl rfl) h3
  obtain ⟨x4, rfl, hb4⟩ := open_u8 (hval 4 5 v4 rfl rfl) h4
  obtain ⟨x5, rfl, hb5⟩ := open_u8 (hval 5 5 v5 rfl rfl) h5
  obtain ⟨x6, rfl, hb6⟩ := open_u8 (hval 6 5 v6 rfl rfl) h6
  clear hA0 hval0 hA
  refine (dearer11 a a' cap cap' th bd r1 x2 y2 x3 y3 x4 x5 x6 W hl hl' hr hr' hx2 hx3 hb4 hb5 hb6).mono fun e W' ⟨he, hg⟩ => ?_
  subst he
  exact ⟨_, rfl, law_post (pa := p) (pv := []) hW' hg (List.append_nil _).symm (fun _ _ _ => (trodAll_cons_mk (shut_bool Try.underlying4 _) trodAll_mk0)) (args_again hA1 (by rw [Try.params11]; decide) hg) rfl⟩
theorem over : Rows.scaleDearerRow.holds Try.pinned (OpenSpec.ofChange Rows.scaleDearerSpec) :=
  OpenClaim.holds_of_wide 11 Try.f11 rfl rfl rfl rfl rfl rfl rfl ⟨rfl, rfl, rfl, rfl, rfl⟩ rfl rfl rfl rfl rfl (by kernel_rfl) Try.func11 (by kernel_rfl)
    (of_decide_eq_true (by kernel_rfl)) (by unfold Func.isWrapper; first | (rw [if_pos (by decide +kernel)]; kernel_rfl) | (rw [if_neg (by decide +kernel)]; exact ⟨rfl, rfl⟩))
    (fun os started H enc _ => lifted os started H enc)
theorem proved : Rows.ScaleDearerSaid := over
#print axioms proved
end Go.Proofs.Ytcgheakadfjofaa.scaleDearer
