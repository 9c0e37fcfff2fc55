/- Keep, by its contract. -/
import Derived.Test.YtlgdnbpboonhdaaW3
namespace Go.Proofs.Ytlgdnbpboonhdaa
open Go.RowKit Go.Shelf Go.Maps
set_option linter.unusedVariables false
attribute [local go_sem] Oper.semAt_some
def keepO (S : Nat) (ms : List Nat) (i : Nat) : Option Nat := firstBy ((wornL (mAt ms i) S).filter (othB ms i))
def keepV (o : Option Nat) : Int × Int := match o with | none => (0, 17) | some k => ((k : Int), 0)
theorem keep32_ok (S L i : Nat) (ms : List Nat) (v : Value) (w : World) (hv : Valid S L ms) (hr : Reads w v (ints ms)) (hi : i < ms.length) :
    Calls Try.prog 32 #[.agg #[.int .i64 (S : Int), .int .i64 (L : Int), v], .int .i64 (i : Int)] w fun e w' => e = .returned (.tuple #[.int .i64 (keepV (keepO S ms i)).1, .int .i64 (keepV (keepO S ms i)).2]) ∧ Ext w w' := by
  obtain ⟨hl, a, cap, rfl⟩ := hr.shape
  have E0 := Lib.hid (((Ext.refl w).alloc (.cells #[.int .i64 (S : Int), .int .i64 (L : Int), .slice a (ints ms).length cap] 24)).alloc (.cells #[.int .i64 (i : Int)] 3))
  have HO := Lib.hid (open_ok S L ms _ (.slice (some ⟨(w.alloc (.cells #[.int .i64 (S : Int), .int .i64 (L : Int), .slice a (ints ms).length cap] 24)).heap.size, 0, none⟩) 1 1) [(i : Int)] _ hv (hr.ext E0.out) (Reads.new (w.alloc (.cells #[.int .i64 (S : Int), .int .i64 (L : Int), .slice a (ints ms).length cap] 24)) _ 3 _ rfl (by simp) _ rfl 1 1 rfl) (by simp [inR]; omega))
  rw [World.size_alloc] at HO
  have HR := Lib.hid hr; have HV := Lib.hid hv
  clear hr hv
  go_enter Try.func32, Try.ntmps32
  go_wp2_with fail
  refine HO.out.mono ?_
  rintro e w' ⟨b, bt, rfl, hb1, hb2, hbne, ho, h3, hrow, hb⟩
  have HB := Lib.hid (E0.out.trans hb)
  have HT := Lib.hid (open_reg (HR.out.ext E0.out) hb ho h3 hrow).1
  clear hb ho h3 hrow hb1 hb2 hbne
  go_wp2_with fail
  refine (telling73 b (i : Int) _).mono ?_
  rintro e w2 ⟨rfl, rfl⟩
  have hE2 : Ext w' ((w'.alloc (.cells #[.pointer (some ⟨b, 0, none⟩)] 63)).alloc (.cells #[.int .i64 (i : Int)] 3)) := ((Ext.refl _).alloc _).alloc _
  have q0 := (Boxed.new w' 63 (.pointer (some ⟨b, 0, none⟩))).alloc (.cells #[.int .i64 (i : Int)] 3)
  have q1 := Boxed.new (w'.alloc (.cells #[.pointer (some ⟨b, 0, none⟩)] 63)) 3 (.int .i64 (i : Int))
  rw [World.size_alloc] at q1
  have H72 := Lib.hid (first72 b S L i w'.heap.size (w'.heap.size + 1) ms _ _ HV.out (HT.out.ext hE2) hi q0 q1)
  have HE2 := Lib.hid (HB.out.trans hE2)
  clear hE2 q0 q1
  go_wp2_with fail
  refine H72.out.mono ?_
  rintro e w3 ⟨rfl, hb⟩
  have HE3 := Lib.hid (HE2.out.trans hb)
  clear hb H72
  obtain ⟨o, ho⟩ : ∃ o, o = keepO S ms i := ⟨_, rfl⟩
  rw [show firstBy ((wornL (mAt ms i) S).filter (othB ms i)) = o from ho.symm]
  have HOO := Lib.hid ho; clear ho
  cases o with
  | none =>
    go_wp2
    go_ret2
    rw [← HOO.out]
    exact ⟨rfl, HE3.out⟩
  | some k =>
    go_wp2
    go_ret2
    rw [← HOO.out]
    exact ⟨rfl, HE3.out⟩
theorem keep32_arg (S L : Nat) (i : Int) (ms : List Nat) (v : Value) (w : World) (hv : Valid S L ms) (hr : Reads w v (ints ms)) (hi : inR 0 ((ms.length : Int) - 1) [i] = false) :
    Calls Try.prog 32 #[.agg #[.int .i64 (S : Int), .int .i64 (L : Int), v], .int .i64 i] w fun e w' => e = .returned (.tuple #[.int .i64 0, .int .i64 2]) ∧ Ext w w' := by
  obtain ⟨hl, a, cap, rfl⟩ := hr.shape
  have E0 := Lib.hid (((Ext.refl w).alloc (.cells #[.int .i64 (S : Int), .int .i64 (L : Int), .slice a (ints ms).length cap] 24)).alloc (.cells #[.int .i64 i] 3))
  have HO := Lib.hid (open_arg S L ms _ (.slice (some ⟨(w.alloc (.cells #[.int .i64 (S : Int), .int .i64 (L : Int), .slice a (ints ms).length cap] 24)).heap.size, 0, none⟩) 1 1) [i] _ hv (hr.ext E0.out) (Reads.new (w.alloc (.cells #[.int .i64 (S : Int), .int .i64 (L : Int), .slice a (ints ms).length cap] 24)) _ 3 _ rfl (by simp) _ rfl 1 1 rfl) hi)
  rw [World.size_alloc] at HO
  clear hr hv
  go_enter Try.func32, Try.ntmps32
  go_wp2_with fail
  refine HO.out.mono ?_
  rintro e w' ⟨rfl, hb⟩
  have HB := Lib.hid (E0.out.trans hb)
  clear hb
  go_wp2
  go_ret2
  exact ⟨rfl, HB.out⟩
theorem keep32_err (S L i : Int) (xs : List Int) (v : Value) (w : World) (hr : Reads w v xs) (hc : chk S L xs ≠ 0) :
    Calls Try.prog 32 #[.agg #[.int .i64 S, .int .i64 L, v], .int .i64 i] w fun e w' => e = .returned (.tuple #[.int .i64 0, .int .i64 (chk S L xs)]) ∧ Ext w w' := by
  obtain ⟨hl, a, cap, rfl⟩ := hr.shape
  have E0 := Lib.hid (((Ext.refl w).alloc (.cells #[.int .i64 S, .int .i64 L, .slice a xs.length cap] 24)).alloc (.cells #[.int .i64 i] 3))
  have H := Lib.hid (open_err S L xs _ (.slice (some ⟨w.heap.size + 1, 0, none⟩) 1 1) _ (hr.ext E0.out) hc)
  clear hr
  obtain ⟨c, hc'⟩ : ∃ c, c = chk S L xs := ⟨_, rfl⟩
  rw [← hc'] at hc H ⊢
  have hd : (c != 0) = true := by simpa using hc
  clear hc hc'
  go_enter Try.func32, Try.ntmps32
  go_wp2_with fail
  refine H.out.mono ?_
  rintro e w' ⟨rfl, hb⟩
  have HB := Lib.hid (E0.out.trans hb); clear hb
  go_wp2
  go_ret2
  exact ⟨rfl, HB.out⟩
end Go.Proofs.Ytlgdnbpboonhdaa
