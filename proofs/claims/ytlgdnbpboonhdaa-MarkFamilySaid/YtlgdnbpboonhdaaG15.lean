/- For MarkFamily: a list of numbers of sixteen bits as an argument; Bits with its capacity; families in CheckFamily's form. -/
import Derived.Test.YtlgdnbpboonhdaaG13
import Derived.Test.YtlgdnbpboonhdaaG14
import Derived.Test.YtlgdnbpboonhdaaZ0
namespace Go.Proofs.Ytlgdnbpboonhdaa
open Go.RowKit Go.Shelf Go.Maps Go.WideShapes Go.ChangeShapes
set_option linter.unusedVariables false
attribute [local go_sem] Oper.semAt_some
theorem cells44Z : Try.prog.cellsOf 44 = 1 := by kernel_rfl
set_option maxRecDepth 100000 in
theorem spot_none16 {w : World} {r : Reach} {base : Nat} {a : Addr} {len cap : Nat} (h : Cell.okWide Try.prog w r base 54 (.slice (some a) len cap)) : a.spot = none := by
  simp only [Cell.okWide, Try.underlying54, Cell.ok, World.has] at h
  exact h.2.2.2.1
theorem wf16 {x : Int} (h : (Lit.int .u16 x).wf = true) : 0 ≤ x ∧ x ≤ 65535 := by simp [Lit.wf, IntKind.min, IntKind.max, IntKind.bits, IntKind.signed] at h; omega
set_option maxRecDepth 100000 in
/-- A list of numbers of sixteen bits as an argument. -/
theorem open_list16 {H : Type} {enc : TypeId × Value → H} {W : World} {v : Value} {d : DataW H} {p : List MemPlace} {r : Reach} {base : Nat} (ho : Value.okWide Try.prog W r base 54 v) (h : DataW.Trod enc Try.prog W 0 (fun _ => true) true 54 v d p) :
    ∃ a cap, ∃ xs : List Nat, v = .slice a xs.length cap ∧ (xs.length ≤ cap ∧ cap ≤ 9223372036854775807) ∧ (∀ x ∈ xs, x ≤ 65535) ∧ (xs.length ≤ 5000 → Reads16 W v xs) := by
  have ho2 : Cell.okWide Try.prog W r base 54 v := by
    simp only [Value.okWide, Try.underlying54] at ho
    exact ho
  obtain ⟨fuel, h⟩ := h
  have hv : v.cells.toList = [v] := by
    cases v <;> first | rfl | (exfalso; simp [Cell.okWide, Try.underlying54, Cell.ok] at ho2)
  rw [hv] at h
  rcases open_ints Try.underlying54 Try.underlying44 cells44Z h with ⟨hcs, -⟩ | ⟨a, len, cap, zs, hcs, -, hl, hm, hz, -, hcell, hwf⟩
  · simp at hcs
    exact ⟨none, 0, [], hcs, ⟨Nat.le_refl _, by omega⟩, fun x hx => (by cases hx), fun _ => by rw [hcs]; exact ⟨by simp, none, 0, rfl, .inl ⟨rfl, rfl⟩⟩⟩
  · simp at hcs
    simp only [if_true] at hz
    have hlen : ((zs.take len).map Int.toNat).length = len := by simp; omega
    have hb : ∀ x ∈ zs, 0 ≤ x ∧ x ≤ 65535 := fun x hx => wf16 (hwf x hx)
    refine ⟨some a, cap, (zs.take len).map Int.toNat, by rw [hlen]; exact hcs, ⟨by rw [hlen]; exact hl, by unfold maxLen at hm; omega⟩, fun x hx => ?_, fun h5 => ?_⟩
    · rw [List.mem_map] at hx
      obtain ⟨z, hz2, rfl⟩ := hx
      have := hb z (List.mem_of_mem_take hz2)
      omega
    · rw [hcs]
      rw [hcs] at ho2
      have hs := spot_none16 ho2
      obtain ⟨b, off, spot⟩ := a
      obtain rfl : spot = none := hs
      refine ⟨h5, _, cap, by rw [hlen], .inr ⟨b, off, rfl, fun i x hx => ?_⟩⟩
      have hil : i < len := by
        have := (List.getElem?_eq_some_iff.1 hx).1
        rwa [hlen] at this
      rw [List.getElem?_map, List.getElem?_take_of_lt hil] at hx
      cases hzi : zs[i]? with
      | none => rw [hzi] at hx; cases hx
      | some z =>
        rw [hzi] at hx
        simp at hx
        have hzb := hb z (List.mem_of_getElem? hzi)
        have hc := hcell i (by have := (List.getElem?_eq_some_iff.1 hzi).1; exact this)
        rw [List.getD_eq_getElem?_getD, hzi] at hc
        have hadd : (⟨b, off, none⟩ : Addr).add i = ⟨b, off + i, none⟩ := by unfold Addr.add; split <;> simp_all
        rw [hadd] at hc
        rw [hc, ← hx]
        simp
        omega
theorem numL_valid {S L : Nat} {ms ns : List Nat} (hv : Valid S L ms) : Valid S L (numL S ns) := by
  have hf1 : 1 ≤ full S := by
    have h1 := hv.1
    have : 2 ^ 1 ≤ 2 ^ S := Nat.pow_le_pow_right (by omega) h1
    unfold full; omega
  refine ⟨hv.1, hv.2.1, hv.2.2.1, by unfold numL; simp; omega, fun m hm => ?_⟩
  unfold numL at hm
  rw [List.mem_map] at hm
  obtain ⟨x, -, rfl⟩ := hm
  have := Nat.mod_lt x (show 0 < full S by omega)
  omega
/-- A sorted list of indexes passes CheckFamily's test of the indexes. -/
theorem sorted_ix {l : List Nat} {n : Nat} (hs : l.Pairwise (· < ·)) (hl : ∀ i ∈ l, i < n) : (inR 0 ((n : Int) - 1) (ints l) && inc (ints l)) = true := by
  refine ixTo_ok.1 fun j x _ hx => ?_
  obtain ⟨i, hi, rfl⟩ := ints_get hx
  have hi2 := hl i (List.mem_of_getElem? hi)
  refine ⟨by omega, fun y h0 hy => ?_⟩
  obtain ⟨k, hk, rfl⟩ := ints_get hy
  rw [List.pairwise_iff_getElem] at hs
  obtain ⟨h1, h2⟩ := List.getElem?_eq_some_iff.1 hi
  obtain ⟨h3, h4⟩ := List.getElem?_eq_some_iff.1 hk
  have := hs (j - 1) j h3 h1 (by omega)
  rw [h2, h4] at this
  omega
theorem check_family {S L : Nat} {ms qs l : List Nat} (hv : Valid S L ms) (hq : Valid S L qs) (h : FamOK ms L qs l) : checkFam ms L qs (ints l) = 0 :=
  cf0 hv hq (sorted_ix h.1 fun i hi => (h.2.1 i hi).1) h
theorem check_bits {S L : Nat} {ms qs : List Nat} (hv : Valid S L ms) (hq : Valid S L qs) {g : Nat} (hg : g < 2 ^ qs.length) : (checkFam ms L qs (ints (bitsL g)) = 0 ∧ FamOK ms L qs (bitsL g)) ∨ checkFam ms L qs (ints (bitsL g)) = 17 := by
  by_cases h : FamOK ms L qs (bitsL g)
  · exact .inl ⟨check_family hv hq h, h⟩
  · refine .inr (cf17 hv hq (bitsL_sorted g) (sorted_ix (bitsL_sorted g) fun i hi => ?_) h)
    have := (mem_bitsL g i).1 hi
    rw [bitB_test] at this
    exact bit_lt hg this.2
end Go.Proofs.Ytlgdnbpboonhdaa
