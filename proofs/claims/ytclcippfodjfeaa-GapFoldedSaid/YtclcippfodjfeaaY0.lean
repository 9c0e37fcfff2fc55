/- The last step of a law's row, and the arguments of the laws of stage 3 opened: lists, numbers. -/
import Derived.Test.YtclcippfodjfeaaRows
import Derived.Test.YtclcippfodjfeaaC4
import Derived.ProofKit
import Derived.OpenShut
import Derived.ChangeSame
import Derived.ReadAgain
import Derived.ChangeSlices
import Derived.Lib.SmallJoins
import Derived.Deep.SlicePairs
import Derived.Deep.Slices
import Derived.Deep.Matrix
namespace Go.Proofs.Ytclcippfodjfeaa
open Go.RowKit Go.WideShapes Go.ChangeShapes Go.Deep Go.Joins
set_option linter.unusedVariables false
set_option linter.unusedSimpArgs false
theorem sameAt_ext {w w' : World} (h : Ext w w') {p : MemPlace} (hp : p.block < w.heap.size) : w.sameAt w' p := by
  cases p with
  | cell b o => exact h.cell (p := ⟨b, o, none⟩) hp
  | map b => exact h.block b hp
theorem carryAll {H : Type} {enc : TypeId × Value → H} {P : Program} {w w' : World} {base : Nat} {spare : Nat → Bool} {held : Bool} (h : Ext w w') : ∀ {ts : List TypeId} {vs : List Value} {ds : List (DataW H)} {ps : List MemPlace},
    DataW.TrodAll enc P w base spare held ts vs ds ps → (∀ p ∈ ps, p.block < w.heap.size) → DataW.TrodAll enc P w' base spare held ts vs ds ps
  | [], [], [], _, t, _ => t
  | _ :: _, _ :: _, _ :: _, _, ⟨p, q, ⟨n, h1⟩, h2, e⟩, hl => ⟨p, q, ⟨n, DataW.trod_carry n _ _ _ h1 (fun x hx => sameAt_ext h (hl x (by rw [e]; exact List.mem_append_left _ hx)))⟩, carryAll h h2 (fun x hx => hl x (by rw [e]; exact List.mem_append_right _ hx)), e⟩
theorem law_post {H : Type} {enc : TypeId × Value → H} {P : Program} {f : Func} {s : ChangeSpec} {apart fresh handsOn : Bool} {W W' : World} {args : Array Value} {v : Value} {ds gs : List (DataW H)} {before pa pv : List MemPlace}
    (hW : DataW.Whole enc P f.params.toList s.vars apart W args.toList ds gs before) (hE : Ext W W') (hsum : before = pa ++ pv)
    (hres : ∀ (b : Nat) (sp : Nat → Bool) (hd : Bool), DataW.TrodAll enc P W' b sp hd f.resultTypes.toList (v.resultList f.resultTypes.size) (s.fn H (ds ++ gs)).results [])
    (hargs : DataW.TrodAll enc P W' 0 (fun b => decide (b < W.heap.size)) true f.params.toList args.toList (s.fn H (ds ++ gs)).args pa)
    (hvars : DataW.TrodVars enc P W' (fun b => decide (b < W.heap.size)) s.vars (s.fn H (ds ++ gs)).vars pv) :
    s.post enc P f apart fresh handsOn false W args v W' := by
  refine ⟨ds, gs, before, [], pa, pv, hW, hres _ _ _, hargs, hvars, World.keptBut_mono (fun p hp => ⟨hp, ?_⟩) (hE.frame (· ∈ before)), fun h => by cases h⟩
  rw [hsum, List.mem_append] at hp
  exact .inr hp
theorem laidOutZ : laidOutB Try.prog = true := by kernel_rfl
theorem mapsRowedZ : mapsRowed Try.prog = true := by kernel_rfl
/-- The arguments read behind the call as they did. -/
theorem args_again {H : Type} {enc : TypeId × Value → H} {W W' : World} {ts : List TypeId} {vs : List Value} {ds : List (DataW H)} {ps : List MemPlace}
    (h : DataW.TrodAll enc Try.prog W 0 (fun _ => true) true ts vs ds ps) (hts : ∀ t ∈ ts, t < Try.prog.types.size) (hE : Ext W W') : DataW.TrodAll enc Try.prog W' 0 (fun b => decide (b < W.heap.size)) true ts vs ds ps :=
  carryAll hE (h.respare (kids_rows laidOutZ mapsRowedZ) (slices_full_of Try.prog (by kernel_rfl)) hts (fun p hp => decide_eq_true (h.lt p hp))) h.lt
theorem cells2Z : Try.prog.cellsOf 2 = 1 := by kernel_rfl
theorem cells3Z : Try.prog.cellsOf 3 = 1 := by kernel_rfl
set_option maxRecDepth 100000 in
theorem spot_none22 {w : World} {r : Reach} {base : Nat} {a : Addr} {len cap : Nat} (h : Cell.okWide Try.prog w r base 22 (.slice (some a) len cap)) : a.spot = none := by
  simp only [Cell.okWide, Try.underlying22, Cell.ok, World.has] at h
  exact h.2.2.2.1
set_option maxRecDepth 100000 in
theorem spot_none23 {w : World} {r : Reach} {base : Nat} {a : Addr} {len cap : Nat} (h : Cell.okWide Try.prog w r base 23 (.slice (some a) len cap)) : a.spot = none := by
  simp only [Cell.okWide, Try.underlying23, Cell.ok, World.has] at h
  exact h.2.2.2.1
theorem open_list_of {H : Type} {enc : TypeId × Value → H} {W : World} {fuel : Nat} {v : Value} {x : DataW H × List MemPlace} {t e : TypeId} (ht : Try.prog.underlying t = some (.slice e)) (he : Try.prog.underlying e = some (.int .i64)) (hc : Try.prog.cellsOf e = 1)
    (hs : ∀ a len cap, v = .slice (some a) len cap → a.spot = none) (h : DataW.trod enc Try.prog W 0 (fun _ => true) true fuel t [v] = some x) :
    ∃ a cap, ∃ xs : List Int, v = .slice a xs.length cap ∧ (xs.length ≤ cap ∧ cap ≤ 9223372036854775807) ∧ (xs.length ≤ 5000 → Reads W v xs) := by
  rcases open_ints ht he hc h with ⟨hcs, -⟩ | ⟨a, len, cap, zs, hcs, -, hl, hm, hz, -, hcell, -⟩
  · simp at hcs
    exact ⟨none, 0, [], hcs, ⟨Nat.le_refl _, by omega⟩, fun _ => by rw [hcs]; exact Reads.nil W⟩
  · simp at hcs
    simp only [if_true] at hz
    have hlen : (zs.take len).length = len := by simp; omega
    refine ⟨some a, cap, zs.take len, by rw [hlen]; exact hcs, ⟨by rw [hlen]; exact hl, by unfold maxLen at hm; omega⟩, fun h5 => ?_⟩
    have hs1 := hs _ _ _ hcs
    rw [hcs]
    obtain ⟨b, off, spot⟩ := a
    obtain rfl : spot = none := hs1
    by_cases h0 : len = 0
    · subst h0
      have : zs.take 0 = [] := rfl
      rw [this]
      exact ⟨by simp, _, cap, rfl, ⟨by simp, by unfold maxLen at hm; omega⟩, .inl rfl⟩
    · refine ⟨h5, _, cap, by rw [hlen], ⟨by rw [hlen]; exact hl, by unfold maxLen at hm; omega⟩, .inr ⟨b, off, rfl, fun i hi => ?_⟩⟩
      rw [hlen] at hi
      have := hcell i (by omega)
      rw [Addr.add_lit] at this
      rw [this, List.getElem?_take_of_lt hi, List.getD_eq_getElem?_getD]
set_option maxRecDepth 100000 in
/-- A list of int64 as an argument. -/
theorem open_list22 {H : Type} {enc : TypeId × Value → H} {W : World} {fuel : Nat} {v : Value} {x : DataW H × List MemPlace} {r : Reach} {base : Nat} (ho : Cell.okWide Try.prog W r base 22 v) (h : DataW.trod enc Try.prog W 0 (fun _ => true) true fuel 22 [v] = some x) :
    ∃ a cap, ∃ xs : List Int, v = .slice a xs.length cap ∧ (xs.length ≤ cap ∧ cap ≤ 9223372036854775807) ∧ (xs.length ≤ 5000 → Reads W v xs) :=
  open_list_of Try.underlying22 Try.underlying2 cells2Z (fun a len cap e => spot_none22 (by rw [← e]; exact ho)) h
set_option maxRecDepth 100000 in
theorem open_list23 {H : Type} {enc : TypeId × Value → H} {W : World} {fuel : Nat} {v : Value} {x : DataW H × List MemPlace} {r : Reach} {base : Nat} (ho : Cell.okWide Try.prog W r base 23 v) (h : DataW.trod enc Try.prog W 0 (fun _ => true) true fuel 23 [v] = some x) :
    ∃ a cap, ∃ xs : List Int, v = .slice a xs.length cap ∧ (xs.length ≤ cap ∧ cap ≤ 9223372036854775807) ∧ (xs.length ≤ 5000 → Reads W v xs) :=
  open_list_of Try.underlying23 Try.underlying3 cells3Z (fun a len cap e => spot_none23 (by rw [← e]; exact ho)) h
set_option maxRecDepth 100000 in
/-- A list of int64 as an argument. -/
theorem open_list_arg {H : Type} {enc : TypeId × Value → H} {W : World} {v : Value} {d : DataW H} {p : List MemPlace} {r : Reach} {base : Nat} (ho : Value.okWide Try.prog W r base 22 v) (h : DataW.Trod enc Try.prog W 0 (fun _ => true) true 22 v d p) :
    ∃ a cap, ∃ xs : List Int, v = .slice a xs.length cap ∧ (xs.length ≤ cap ∧ cap ≤ 9223372036854775807) ∧ (xs.length ≤ 5000 → Reads W v xs) := by
  have ho2 : Cell.okWide Try.prog W r base 22 v := by
    simp only [Value.okWide, Try.underlying22] at ho
    exact ho
  obtain ⟨fuel, h⟩ := h
  have hv : v.cells.toList = [v] := by
    cases v <;> first | rfl | (exfalso; simp [Cell.okWide, Try.underlying22, Cell.ok] at ho2)
  rw [hv] at h
  exact open_list22 ho2 h
set_option maxRecDepth 100000 in
/-- A list of int as an argument. -/
theorem open_list_arg23 {H : Type} {enc : TypeId × Value → H} {W : World} {v : Value} {d : DataW H} {p : List MemPlace} {r : Reach} {base : Nat} (ho : Value.okWide Try.prog W r base 23 v) (h : DataW.Trod enc Try.prog W 0 (fun _ => true) true 23 v d p) :
    ∃ a cap, ∃ xs : List Int, v = .slice a xs.length cap ∧ (xs.length ≤ cap ∧ cap ≤ 9223372036854775807) ∧ (xs.length ≤ 5000 → Reads W v xs) := by
  have ho2 : Cell.okWide Try.prog W r base 23 v := by
    simp only [Value.okWide, Try.underlying23] at ho
    exact ho
  obtain ⟨fuel, h⟩ := h
  have hv : v.cells.toList = [v] := by
    cases v <;> first | rfl | (exfalso; simp [Cell.okWide, Try.underlying23, Cell.ok] at ho2)
  rw [hv] at h
  exact open_list23 ho2 h
theorem of_wf8 {x : Int} (h : (Lit.int .u8 x).wf = true) : 0 ≤ x ∧ x ≤ 255 := by simp [Lit.wf, IntKind.min, IntKind.max, IntKind.bits, IntKind.signed] at h; omega
set_option maxRecDepth 100000 in
/-- A number of eight bits as an argument. -/
theorem open_u8 {H : Type} {enc : TypeId × Value → H} {W : World} {v : Value} {d : DataW H} {p : List MemPlace} {r : Reach} {base : Nat} (ho : Value.okWide Try.prog W r base 5 v) (h : DataW.Trod enc Try.prog W 0 (fun _ => true) true 5 v d p) :
    ∃ x : Nat, v = .int .u8 (x : Int) ∧ x ≤ 255 := by
  obtain ⟨x, rfl, -, -, wf⟩ := open_int Try.underlying5 ho h
  have := of_wf8 wf
  obtain ⟨k, rfl⟩ := Int.eq_ofNat_of_zero_le this.1
  exact ⟨k, rfl, by omega⟩
theorem cells23Z : Try.prog.cellsOf 23 = 1 := by kernel_rfl
set_option maxRecDepth 100000 in
theorem spot_none40 {w : World} {r : Reach} {base : Nat} {a : Addr} {len cap : Nat} (h : Cell.okWide Try.prog w r base 40 (.slice (some a) len cap)) : a.spot = none := by
  simp only [Cell.okWide, Try.underlying40, Cell.ok, World.has] at h
  exact h.2.2.2.1
theorem spot_of_cell {w : World} {a : Addr} {v : Value} (h : w.cell? a = some v) : a.spot = none := by
  unfold World.cell? at h
  cases hb : w.heap[a.block]? with
  | none => rw [hb] at h; cases h
  | some o =>
    rw [hb] at h
    cases o with
    | cells c t f =>
      dsimp only at h
      cases hs : a.spot with
      | none => rfl
      | some x => rw [hs] at h; cases h
    | _ => cases h
set_option maxRecDepth 100000 in
/-- A list of lists of int as an argument. -/
theorem open_rows40 {H : Type} {enc : TypeId × Value → H} {W : World} {v : Value} {d : DataW H} {p : List MemPlace} {r : Reach} {base : Nat} (ho : Value.okWide Try.prog W r base 40 v) (h : DataW.Trod enc Try.prog W 0 (fun _ => true) true 40 v d p) :
    ∃ a cap, ∃ rs : List (List Int), v = .slice a rs.length cap ∧ (rs.length ≤ cap ∧ cap ≤ 9223372036854775807) ∧
      (rs.length = 0 ∨ ∃ b off, a = some ⟨b, off, none⟩ ∧ ∀ i m, (rs.map List.length)[i]? = some m → ∃ a' cap', W.cell? ⟨b, off + i, none⟩ = some (.slice a' m cap')) ∧
      (rs.length ≤ 5000 → (∀ r ∈ rs, r.length ≤ 5000) → ReadsL W v rs) := by
  have ho2 : Cell.okWide Try.prog W r base 40 v := by
    simp only [Value.okWide, Try.underlying40] at ho
    exact ho
  obtain ⟨fuel, h⟩ := h
  have hv : v.cells.toList = [v] := by
    cases v <;> first | rfl | (exfalso; simp [Cell.okWide, Try.underlying40, Cell.ok] at ho2)
  rw [hv] at h
  rcases open_int_rows Try.underlying40 Try.underlying23 Try.underlying3 cells23Z cells3Z h with ⟨hcs, -⟩ | ⟨a, len, cap, A, L, C, Z, hcs, -, hl, hm, -, hx⟩
  · simp at hcs
    exact ⟨none, 0, [], hcs, ⟨Nat.le_refl _, by omega⟩, .inl rfl, fun _ _ => by rw [hcs]; exact ReadsL.nil W⟩
  · simp at hcs
    have hlen : ((List.range len).map fun r => (Z r).take (L r)).length = len := by simp
    have hrow : ∀ i, i < len → (((Z i).take (L i)).length = L i ∧ W.cell? (a.add i) = some (.slice (A i) (L i) (C i)) ∧ (((Z i).take (L i)).length ≤ 5000 → Reads W (.slice (A i) (L i) (C i)) ((Z i).take (L i)))) := fun i hi => by
      obtain ⟨h1, h2, h3, h4, -, h6, h7⟩ := hx i (by omega)
      have hz : ((Z i).take (L i)).length = L i := by rw [List.length_take]; omega
      refine ⟨hz, h1, fun h5 => ?_⟩
      by_cases h0 : L i = 0
      · have : (Z i).take (L i) = [] := by rw [h0]; rfl
        rw [this]
        exact ⟨by simp, A i, C i, by rw [h0]; rfl, ⟨by simp, by unfold maxLen at h3; omega⟩, .inl rfl⟩
      · cases hA : A i with
        | none => have := h6 hA; omega
        | some a' =>
          obtain ⟨-, h8⟩ := h7 a' hA
          have h9 := h8 0 (by omega)
          have hs := spot_of_cell h9
          rw [show a'.add 0 = a' from rfl] at hs
          obtain ⟨b, off, spot⟩ := a'
          obtain rfl : spot = none := hs
          refine ⟨h5, _, C i, by rw [hz], ⟨by rw [hz]; exact h2, by unfold maxLen at h3; omega⟩, .inr ⟨b, off, rfl, fun c hc => ?_⟩⟩
          rw [hz] at hc
          have := h8 c (by omega)
          rw [Addr.add_lit] at this
          rw [this, List.getElem?_take_of_lt hc, List.getD_eq_getElem?_getD]
    have hs := spot_none40 (by rw [← hcs]; exact ho2)
    obtain ⟨b, off, spot⟩ := a
    obtain rfl : spot = none := hs
    refine ⟨_, cap, (List.range len).map fun r => (Z r).take (L r), by rw [hlen]; exact hcs, ⟨by rw [hlen]; exact hl, by unfold maxLen at hm; omega⟩, .inr ⟨b, off, rfl, fun i m hi => ?_⟩, fun h5 h6 => ?_⟩
    · have hil : i < len := by
        have := (List.getElem?_eq_some_iff.1 hi).1
        simpa using this
      obtain ⟨h1, h2, -⟩ := hrow i hil
      rw [List.getElem?_map, List.getElem?_map, List.getElem?_range hil] at hi
      simp only [Option.map_some, Option.some.injEq] at hi
      rw [h1] at hi
      subst hi
      rw [Addr.add_lit] at h2
      exact ⟨_, _, h2⟩
    · rw [hcs]
      refine ⟨h5, _, cap, by rw [hlen], ⟨by rw [hlen]; exact hl, by unfold maxLen at hm; omega⟩, .inr ⟨b, off, rfl, fun i hi => ?_⟩⟩
      rw [hlen] at hi
      obtain ⟨h1, h2, h3⟩ := hrow i hi
      rw [Addr.add_lit] at h2
      refine ⟨_, h2, ?_⟩
      have e : ((List.range len).map fun r => (Z r).take (L r)).getD i [] = (Z i).take (L i) := by
        rw [List.getD_eq_getElem?_getD, List.getElem?_map, List.getElem?_range hi]; rfl
      rw [e]
      exact h3 (h6 _ (List.mem_map.2 ⟨i, List.mem_range.2 hi, rfl⟩))
end Go.Proofs.Ytclcippfodjfeaa
