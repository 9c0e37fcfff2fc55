/- Contracts of Margin. -/
import Derived.Test.YtlgdnbpboonhdaaR3
namespace Go.Proofs.Ytlgdnbpboonhdaa
open Go.RowKit
set_option linter.unusedVariables false
theorem margin28_ok (S L : Nat) (ms : List Nat) (v : Value) (w : World) (hv : Valid S L ms) (hr : Reads w v (ints ms)) :
    Calls Try.prog 28 #[.agg #[.int .i64 (S : Int), .int .i64 (L : Int), v]] w fun e w' => e = .returned (.tuple #[.int .i64 (marginL S ms (pairsL ms.length)), .int .i64 0]) ∧ Ext w w' := by
  obtain ⟨hl, a, cap, rfl⟩ := hr.shape
  have E0 := Lib.hid ((Ext.refl w).alloc (.cells #[.int .i64 (S : Int), .int .i64 (L : Int), .slice a (ints ms).length cap] 24))
  have HO := Lib.hid (open_ok S L ms _ (.slice none 0 0) [] _ hv (hr.ext E0.out) (Reads.nil _) rfl)
  have HR := Lib.hid hr; have HV := Lib.hid hv
  clear hr hv
  go_enter Try.func28, Try.ntmps28
  go_wp2_with fail
  refine HO.out.mono ?_
  rintro e w' ⟨b, bt, rfl, _, _, _, ho, _, _, hb⟩
  have HB := Lib.hid (E0.out.trans hb); have HOO := Lib.hid ho
  clear hb ho
  go_wp2_with fail
  refine (margin69 b S L ms _ _ HV.out ⟨HOO.out, HR.out.ext HB.out⟩).mono ?_
  rintro e w2 ⟨rfl, hb2⟩
  have HB2 := Lib.hid (HB.out.trans hb2); clear hb2
  go_wp2
  go_ret2
  exact ⟨rfl, HB2.out⟩
theorem margin28_err (S L : Int) (xs : List Int) (v : Value) (w : World) (hr : Reads w v xs) (hc : chk S L xs ≠ 0) :
    Calls Try.prog 28 #[.agg #[.int .i64 S, .int .i64 L, v]] w fun e w' => e = .returned (.tuple #[.int .i64 0, .int .i64 (chk S L xs)]) ∧ Ext w w' := by
  obtain ⟨hl, a, cap, rfl⟩ := hr.shape
  have E0 := Lib.hid ((Ext.refl w).alloc (.cells #[.int .i64 S, .int .i64 L, .slice a xs.length cap] 24))
  have H := Lib.hid (open_err S L xs _ (.slice none 0 0) _ (hr.ext E0.out) hc)
  clear hr
  obtain ⟨c, hc'⟩ : ∃ c, c = chk S L xs := ⟨_, rfl⟩
  rw [← hc'] at hc H ⊢
  have hd : (c != 0) = true := by simpa using hc
  clear hc hc'
  go_enter Try.func28, Try.ntmps28
  go_wp2_with fail
  refine H.out.mono ?_
  rintro e w' ⟨rfl, hb⟩
  have HB := Lib.hid (E0.out.trans hb); clear hb
  go_wp2
  go_ret2
  exact ⟨rfl, HB.out⟩
end Go.Proofs.Ytlgdnbpboonhdaa
