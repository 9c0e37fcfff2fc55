/- Numbers of eight bits as arguments: lists of them, and two of them in an array. -/
import Derived.Test.YtcgheakadfjofaaY0
import Derived.OpenShut
namespace Go.Proofs.Ytcgheakadfjofaa
open Go.RowKit Go.WideShapes Go.ChangeShapes Go.Deep Go.Joins
set_option linter.unusedVariables false
set_option linter.unusedSimpArgs false
/-- A slice of numbers of eight bits that reads as a list. -/
def Reads8 (w : World) (v : Value) (xs : List Nat) : Prop :=
  xs.length ≤ 5000 ∧ ∃ a cap, v = .slice a xs.length cap ∧ ((a = none ∧ xs = []) ∨ ∃ b off, a = some ⟨b, off, none⟩ ∧ ∀ (i x : Nat), xs[i]? = some x → w.cell? ⟨b, off + i, none⟩ = some (.int .u8 (x : Int)))
theorem Reads8.ext {w w' : World} {v : Value} {xs : List Nat} (h : Reads8 w v xs) (hb : Ext w w') : Reads8 w' v xs := by
  obtain ⟨hl, a, cap, rfl, h⟩ := h
  refine ⟨hl, a, cap, rfl, h.imp id ?_⟩
  rintro ⟨b, off, rfl, hc⟩
  exact ⟨b, off, rfl, fun i x hx => cell_ext hb (hc i x hx)⟩
theorem Reads8.at {w : World} {a : Option Addr} {n cap : Nat} {xs : List Nat} (h : Reads8 w (.slice a n cap) xs) {k x : Nat} (hk : xs[k]? = some x) : ∃ b off, a = some ⟨b, off, none⟩ ∧ w.cell? ⟨b, off + k, none⟩ = some (.int .u8 (x : Int)) := by
  obtain ⟨hl, a', cap', e, h⟩ := h
  cases e
  rcases h with ⟨rfl, rfl⟩ | ⟨b, off, rfl, hc⟩
  · simp at hk
  · exact ⟨b, off, rfl, hc k x hk⟩
theorem cells5Z : Try.prog.cellsOf 5 = 1 := by kernel_rfl
set_option maxRecDepth 100000 in
theorem spot_none8 {w : World} {r : Reach} {base : Nat} {a : Addr} {len cap : Nat} (h : Cell.okWide Try.prog w r base 57 (.slice (some a) len cap)) : a.spot = none := by
  simp only [Cell.okWide, Try.underlying57, Cell.ok, World.has] at h
  exact h.2.2.2.1
theorem of_wf8 {x : Int} (h : (Lit.int .u8 x).wf = true) : 0 ≤ x ∧ x ≤ 255 := by simp [Lit.wf, IntKind.min, IntKind.max, IntKind.bits, IntKind.signed] at h; omega
set_option maxRecDepth 100000 in
/-- A list of numbers of eight bits as an argument. -/
theorem open_list8 {H : Type} {enc : TypeId × Value → H} {W : World} {v : Value} {d : DataW H} {p : List MemPlace} {r : Reach} {base : Nat} (ho : Value.okWide Try.prog W r base 57 v) (h : DataW.Trod enc Try.prog W 0 (fun _ => true) true 57 v d p) :
    ∃ a cap, ∃ xs : List Nat, v = .slice a xs.length cap ∧ (xs.length ≤ cap ∧ cap ≤ 9223372036854775807) ∧ (∀ x ∈ xs, x ≤ 255) ∧ (xs.length ≤ 5000 → Reads8 W v xs) := by
  have ho2 : Cell.okWide Try.prog W r base 57 v := by
    simp only [Value.okWide, Try.underlying57] at ho
    exact ho
  obtain ⟨fuel, h⟩ := h
  have hv : v.cells.toList = [v] := by
    cases v <;> first | rfl | (exfalso; simp [Cell.okWide, Try.underlying57, Cell.ok] at ho2)
  rw [hv] at h
  rcases open_ints Try.underlying57 Try.underlying5 cells5Z h with ⟨hcs, -⟩ | ⟨a, len, cap, zs, hcs, -, hl, hm, hz, -, hcell, hwf⟩
  · simp at hcs
    exact ⟨none, 0, [], hcs, ⟨Nat.le_refl _, by omega⟩, fun x hx => (by cases hx), fun _ => by rw [hcs]; exact ⟨by simp, none, 0, rfl, .inl ⟨rfl, rfl⟩⟩⟩
  · simp at hcs
    simp only [if_true] at hz
    have hlen : ((zs.take len).map Int.toNat).length = len := by simp; omega
    have hb : ∀ x ∈ zs, 0 ≤ x ∧ x ≤ 255 := fun x hx => of_wf8 (hwf x hx)
    refine ⟨some a, cap, (zs.take len).map Int.toNat, by rw [hlen]; exact hcs, ⟨by rw [hlen]; exact hl, by unfold maxLen at hm; omega⟩, fun x hx => ?_, fun h5 => ?_⟩
    · rw [List.mem_map] at hx
      obtain ⟨z, hz2, rfl⟩ := hx
      have := hb z (List.mem_of_mem_take hz2)
      omega
    · rw [hcs]
      rw [hcs] at ho2
      have hs := spot_none8 ho2
      obtain ⟨b, off, spot⟩ := a
      obtain rfl : spot = none := hs
      refine ⟨h5, _, cap, by rw [hlen], .inr ⟨b, off, rfl, fun i x hx => ?_⟩⟩
      have hil : i < len := by
        have := (List.getElem?_eq_some_iff.1 hx).1
        rwa [hlen] at this
      rw [List.getElem?_map, List.getElem?_take_of_lt hil] at hx
      cases hzi : zs[i]? with
      | none => rw [hzi] at hx; cases hx
      | some z =>
        rw [hzi] at hx
        simp at hx
        have hzb := hb z (List.mem_of_getElem? hzi)
        have hc := hcell i (by have := (List.getElem?_eq_some_iff.1 hzi).1; exact this)
        rw [List.getD_eq_getElem?_getD, hzi] at hc
        have hadd : (⟨b, off, none⟩ : Addr).add i = ⟨b, off + i, none⟩ := by unfold Addr.add; split <;> simp_all
        rw [hadd] at hc
        rw [hc, ← hx]
        simp
        omega
set_option maxRecDepth 100000 in
/-- A number of eight bits as an argument. -/
theorem open_u8 {H : Type} {enc : TypeId × Value → H} {W : World} {v : Value} {d : DataW H} {p : List MemPlace} {r : Reach} {base : Nat} (ho : Value.okWide Try.prog W r base 5 v) (h : DataW.Trod enc Try.prog W 0 (fun _ => true) true 5 v d p) :
    ∃ x : Nat, v = .int .u8 (x : Int) ∧ x ≤ 255 := by
  obtain ⟨x, rfl, -, -, wf⟩ := open_int Try.underlying5 ho h
  have := of_wf8 wf
  obtain ⟨k, rfl⟩ := Int.eq_ofNat_of_zero_le this.1
  exact ⟨k, rfl, by omega⟩
theorem cells66Z : Try.prog.cellsOf 66 = 2 := by kernel_rfl
set_option maxRecDepth 100000 in
/-- Two numbers of eight bits in an array as an argument. -/
theorem open_arr8 {H : Type} {enc : TypeId × Value → H} {W : World} {v : Value} {d : DataW H} {p : List MemPlace} {r : Reach} {base : Nat} (ho : Value.okWide Try.prog W r base 66 v) (h : DataW.Trod enc Try.prog W 0 (fun _ => true) true 66 v d p) :
    ∃ x y : Nat, v = .agg #[.int .u8 (x : Int), .int .u8 (y : Int)] ∧ x ≤ 255 ∧ y ≤ 255 := by
  simp only [Value.okWide, Try.underlying66] at ho
  obtain ⟨cs, rfl, hsz, -⟩ := ho
  rw [cells66Z] at hsz
  obtain ⟨c0, c1, rfl⟩ := array2 hsz
  obtain ⟨fuel, h⟩ := h
  obtain ⟨xs, m, _, ex, _, hl, hel⟩ := DataW.trod_array Try.underlying66 h
  have h0 := hel 0 (by omega)
  have h1 := hel 1 (by omega)
  rw [cells5Z, List.getElem?_eq_getElem (by omega)] at h0 h1
  simp [Value.cells] at h0 h1
  obtain ⟨x0, e0, -, w0⟩ := DataW.trod_int Try.underlying5 h0
  obtain ⟨x1, e1, -, w1⟩ := DataW.trod_int Try.underlying5 h1
  simp at e0 e1
  subst e0 e1
  have b0 := of_wf8 w0
  have b1 := of_wf8 w1
  obtain ⟨k0, rfl⟩ := Int.eq_ofNat_of_zero_le b0.1
  obtain ⟨k1, rfl⟩ := Int.eq_ofNat_of_zero_le b1.1
  exact ⟨k0, k1, rfl, by omega, by omega⟩
end Go.Proofs.Ytcgheakadfjofaa
