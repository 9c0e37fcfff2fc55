/- Lists of ways as arguments of the laws. -/
import Derived.Test.YtppjnpempgpkaaaGreatY0
import Derived.Test.YtppjnpempgpkaaaGreatH4
namespace Go.Proofs.YtppjnpempgpkaaaGreat
open Go.RowKit Go.WideShapes Go.ChangeShapes Go.Deep Go.Joins
set_option linter.unusedVariables false
set_option linter.unusedSimpArgs false
/-- A slice of ways whose lengths can be read, however long. -/
def LensW (w : World) (v : Value) (ls : List WI) : Prop :=
  ∃ a cap, v = .slice a ls.length cap ∧ (ls.length ≤ cap ∧ cap ≤ 9223372036854775807) ∧ (ls = [] ∨ ∃ b off, a = some ⟨b, off, none⟩ ∧ ∀ i x, ls[i]? = some x → ∃ a' c', w.cell? ⟨b, off + i * 2, none⟩ = some (.slice a' x.1.length c'))
theorem spot_of_cell {w : World} {a : Addr} {v : Value} (h : w.cell? a = some v) : a.spot = none := by
  unfold World.cell? at h
  cases hb : w.heap[a.block]? with
  | none => rw [hb] at h; cases h
  | some o =>
    rw [hb] at h
    cases o with
    | cells c t f =>
      dsimp only at h
      cases hs : a.spot with
      | none => rfl
      | some x => rw [hs] at h; cases h
    | _ => cases h
theorem open_list_any {H : Type} {enc : TypeId × Value → H} {W : World} {fuel : Nat} {v : Value} {x : DataW H × List MemPlace} {t e : TypeId} (ht : Tryz.prog.underlying t = some (.slice e)) (he : Tryz.prog.underlying e = some (.int .i64)) (hc : Tryz.prog.cellsOf e = 1)
    (h : DataW.trod enc Tryz.prog W 0 (fun _ => true) true fuel t [v] = some x) :
    ∃ a cap, ∃ xs : List Int, v = .slice a xs.length cap ∧ (xs.length ≤ cap ∧ cap ≤ 9223372036854775807) ∧ (xs.length ≤ 5000 → Reads W v xs) := by
  rcases open_ints ht he hc h with ⟨hcs, -⟩ | ⟨a, len, cap, zs, hcs, -, hl, hm, hz, -, hcell, -⟩
  · simp at hcs
    exact ⟨none, 0, [], hcs, ⟨Nat.le_refl _, by omega⟩, fun _ => by rw [hcs]; exact Reads.nil W⟩
  · simp at hcs
    simp only [if_true] at hz
    have hlen : (zs.take len).length = len := by simp; omega
    refine ⟨some a, cap, zs.take len, by rw [hlen]; exact hcs, ⟨by rw [hlen]; exact hl, by unfold maxLen at hm; omega⟩, fun h5 => ?_⟩
    rw [hcs]
    by_cases h0 : len = 0
    · subst h0
      have : zs.take 0 = [] := rfl
      rw [this]
      exact ⟨by simp, _, cap, rfl, ⟨by simp, by unfold maxLen at hm; omega⟩, .inl rfl⟩
    · have hs1 := spot_of_cell (hcell 0 (by omega))
      rw [show a.add 0 = a from rfl] at hs1
      obtain ⟨b, off, spot⟩ := a
      obtain rfl : spot = none := hs1
      refine ⟨h5, _, cap, by rw [hlen], ⟨by rw [hlen]; exact hl, by unfold maxLen at hm; omega⟩, .inr ⟨b, off, rfl, fun i hi => ?_⟩⟩
      rw [hlen] at hi
      have := hcell i (by omega)
      rw [Addr.add_lit] at this
      rw [this, List.getElem?_take_of_lt hi, List.getD_eq_getElem?_getD]
theorem cellsWZ : Tryz.prog.cellsOf 60 = 2 := by kernel_rfl
theorem cellsLZ : Tryz.prog.cellsOf 22 = 1 := by kernel_rfl
set_option maxRecDepth 100000 in
theorem spot_noneW {w : World} {r : Reach} {base : Nat} {a : Addr} {len cap : Nat} (h : Cell.okWide Tryz.prog w r base 36 (.slice (some a) len cap)) : a.spot = none := by
  simp only [Cell.okWide, Tryz.underlying36, Cell.ok, World.has] at h
  exact h.2.2.2.1
set_option maxRecDepth 100000 in
/-- A list of ways as an argument. -/
theorem open_ways {H : Type} {enc : TypeId × Value → H} {W : World} {v : Value} {d : DataW H} {p : List MemPlace} {r : Reach} {base : Nat} (ho : Value.okWide Tryz.prog W r base 36 v) (h : DataW.Trod enc Tryz.prog W 0 (fun _ => true) true 36 v d p) :
    ∃ ls : List WI, LensW W v ls ∧ (ls.length ≤ 5000 → (∀ x ∈ ls, x.1.length ≤ 5000) → ReadsW W v ls) := by
  have ho2 : Cell.okWide Tryz.prog W r base 36 v := by
    simp only [Value.okWide, Tryz.underlying36] at ho
    exact ho
  obtain ⟨fuel, h⟩ := h
  have hv : v.cells.toList = [v] := by
    cases v <;> first | rfl | (exfalso; simp [Cell.okWide, Tryz.underlying36, Cell.ok] at ho2)
  rw [hv] at h
  rcases open_slice_pairs Tryz.underlying36 Tryz.underlying60 cellsWZ rfl rfl cellsLZ cellsIZ h with ⟨hcs, -⟩ | ⟨a, len, cap, m, n, V0, V1, D0, D1, P0, P1, hcs, -, hl, hm, hmm, -, hx⟩
  · simp at hcs
    subst hcs
    exact ⟨[], ⟨none, 0, rfl, by simp, .inl rfl⟩, fun _ _ => ⟨by simp, none, 0, rfl, by simp, .inl rfl⟩⟩
  · simp at hcs
    simp only [if_true] at hmm
    have each : ∀ i, i < m → ∃ q : WI, (∃ a' c', W.cell? (a.add (i * 2)) = some (.slice a' q.1.length c') ∧ (q.1.length ≤ 5000 → Reads W (.slice a' q.1.length c') q.1)) ∧ W.cell? (a.add (i * 2 + 1)) = some (.int .i64 q.2) := by
      intro i hi
      obtain ⟨h1, h2, h3, h4⟩ := hx i hi
      obtain ⟨a', c', xs, e0, -, hr⟩ := open_list_any Tryz.underlying22 Tryz.underlying3 cellsIZ h3
      obtain ⟨x1, e1, -, -⟩ := DataW.trod_int Tryz.underlying3 h4
      simp at e1
      rw [e0] at h1 hr
      rw [e1] at h2
      exact ⟨(xs, x1), ⟨a', c', h1, hr⟩, h2⟩
    obtain ⟨q, hq⟩ := choose_lt each
    have hlen : ((List.range len).map q).length = len := by simp
    have hs := spot_noneW (by rw [← hcs]; exact ho2)
    obtain ⟨b, off, spot⟩ := a
    obtain rfl : spot = none := hs
    have hat : ∀ i x, ((List.range len).map q)[i]? = some x → i < m ∧ x = q i := fun i x hi => by
      have hil : i < len := by
        have := (List.getElem?_eq_some_iff.1 hi).1
        rwa [hlen] at this
      simp [hil] at hi
      exact ⟨by omega, hi.symm⟩
    refine ⟨(List.range len).map q, ⟨_, cap, by rw [hlen]; exact hcs, ⟨by rw [hlen]; exact hl, by unfold maxLen at hm; omega⟩, .inr ⟨b, off, rfl, fun i x hi => ?_⟩⟩, fun h5 h6 => ?_⟩
    · obtain ⟨him, rfl⟩ := hat i x hi
      obtain ⟨⟨a', c', h1, -⟩, -⟩ := hq i him
      rw [Addr.add_lit] at h1
      exact ⟨a', c', h1⟩
    · refine ⟨h5, _, cap, by rw [hlen]; exact hcs, ⟨by rw [hlen]; exact hl, by unfold maxLen at hm; omega⟩, .inr ⟨b, off, rfl, fun i x hi => ?_⟩⟩
      have hxm := List.mem_of_getElem? hi
      obtain ⟨him, rfl⟩ := hat i x hi
      obtain ⟨⟨a', c', h1, hr⟩, h2⟩ := hq i him
      rw [Addr.add_lit] at h1 h2
      rw [← Nat.add_assoc] at h2
      exact ⟨_, h1, hr (h6 _ hxm), h2⟩
end Go.Proofs.YtppjnpempgpkaaaGreat
