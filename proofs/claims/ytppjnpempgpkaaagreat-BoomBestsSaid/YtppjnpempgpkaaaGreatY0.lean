/- The last step of a law's row, and the arguments of the laws of stage 4 opened: ponds, chains, lists, numbers. -/
import Derived.Test.YtppjnpempgpkaaaGreatRows
import Derived.Test.YtppjnpempgpkaaaGreatL
import Derived.ProofKit
import Derived.OpenShut
import Derived.ChangeSame
import Derived.ReadAgain
import Derived.ChangeSlices
import Derived.Lib.SmallJoins
import Derived.Deep.SlicePairs
import Derived.Deep.Slices
namespace Go.Proofs.YtppjnpempgpkaaaGreat
open Go.RowKit Go.WideShapes Go.ChangeShapes Go.Deep Go.Joins
set_option linter.unusedVariables false
set_option linter.unusedSimpArgs false
theorem sameAt_ext {w w' : World} (h : Ext w w') {p : MemPlace} (hp : p.block < w.heap.size) : w.sameAt w' p := by
  cases p with
  | cell b o => exact h.cell (p := ⟨b, o, none⟩) hp
  | map b => exact h.block b hp
theorem carryAll {H : Type} {enc : TypeId × Value → H} {P : Program} {w w' : World} {base : Nat} {spare : Nat → Bool} {held : Bool} (h : Ext w w') : ∀ {ts : List TypeId} {vs : List Value} {ds : List (DataW H)} {ps : List MemPlace},
    DataW.TrodAll enc P w base spare held ts vs ds ps → (∀ p ∈ ps, p.block < w.heap.size) → DataW.TrodAll enc P w' base spare held ts vs ds ps
  | [], [], [], _, t, _ => t
  | _ :: _, _ :: _, _ :: _, _, ⟨p, q, ⟨n, h1⟩, h2, e⟩, hl => ⟨p, q, ⟨n, DataW.trod_carry n _ _ _ h1 (fun x hx => sameAt_ext h (hl x (by rw [e]; exact List.mem_append_left _ hx)))⟩, carryAll h h2 (fun x hx => hl x (by rw [e]; exact List.mem_append_right _ hx)), e⟩
theorem law_post {H : Type} {enc : TypeId × Value → H} {P : Program} {f : Func} {s : ChangeSpec} {apart fresh handsOn : Bool} {W W' : World} {args : Array Value} {v : Value} {ds gs : List (DataW H)} {before pa pv : List MemPlace}
    (hW : DataW.Whole enc P f.params.toList s.vars apart W args.toList ds gs before) (hE : Ext W W') (hsum : before = pa ++ pv)
    (hres : ∀ (b : Nat) (sp : Nat → Bool) (hd : Bool), DataW.TrodAll enc P W' b sp hd f.resultTypes.toList (v.resultList f.resultTypes.size) (s.fn H (ds ++ gs)).results [])
    (hargs : DataW.TrodAll enc P W' 0 (fun b => decide (b < W.heap.size)) true f.params.toList args.toList (s.fn H (ds ++ gs)).args pa)
    (hvars : DataW.TrodVars enc P W' (fun b => decide (b < W.heap.size)) s.vars (s.fn H (ds ++ gs)).vars pv) :
    s.post enc P f apart fresh handsOn false W args v W' := by
  refine ⟨ds, gs, before, [], pa, pv, hW, hres _ _ _, hargs, hvars, World.keptBut_mono (fun p hp => ⟨hp, ?_⟩) (hE.frame (· ∈ before)), fun h => by cases h⟩
  rw [hsum, List.mem_append] at hp
  exact .inr hp
theorem laidOutZ : laidOutB Tryz.prog = true := by kernel_rfl
theorem mapsRowedZ : mapsRowed Tryz.prog = true := by kernel_rfl
/-- The arguments read behind the call as they did. -/
theorem args_again {H : Type} {enc : TypeId × Value → H} {W W' : World} {ts : List TypeId} {vs : List Value} {ds : List (DataW H)} {ps : List MemPlace}
    (h : DataW.TrodAll enc Tryz.prog W 0 (fun _ => true) true ts vs ds ps) (hts : ∀ t ∈ ts, t < Tryz.prog.types.size) (hE : Ext W W') : DataW.TrodAll enc Tryz.prog W' 0 (fun b => decide (b < W.heap.size)) true ts vs ds ps :=
  carryAll hE (h.respare (kids_rows laidOutZ mapsRowedZ) (slices_full_of Tryz.prog (by kernel_rfl)) hts (fun p hp => decide_eq_true (h.lt p hp))) h.lt
theorem cellsIZ : Tryz.prog.cellsOf 3 = 1 := by kernel_rfl
theorem cellsPZ : Tryz.prog.cellsOf 24 = 4 := by kernel_rfl
theorem cellsCZ : Tryz.prog.cellsOf 63 = 3 := by kernel_rfl
set_option maxRecDepth 100000 in
theorem spot_noneI {w : World} {r : Reach} {base : Nat} {a : Addr} {len cap : Nat} (h : Cell.okWide Tryz.prog w r base 22 (.slice (some a) len cap)) : a.spot = none := by
  simp only [Cell.okWide, Tryz.underlying22, Cell.ok, World.has] at h
  exact h.2.2.2.1
theorem open_list_of {H : Type} {enc : TypeId × Value → H} {W : World} {fuel : Nat} {v : Value} {x : DataW H × List MemPlace} {t e : TypeId} (ht : Tryz.prog.underlying t = some (.slice e)) (he : Tryz.prog.underlying e = some (.int .i64)) (hc : Tryz.prog.cellsOf e = 1)
    (hs : ∀ a len cap, v = .slice (some a) len cap → a.spot = none) (h : DataW.trod enc Tryz.prog W 0 (fun _ => true) true fuel t [v] = some x) :
    ∃ a cap, ∃ xs : List Int, v = .slice a xs.length cap ∧ (xs.length ≤ cap ∧ cap ≤ 9223372036854775807) ∧ (xs.length ≤ 5000 → Reads W v xs) := by
  rcases open_ints ht he hc h with ⟨hcs, -⟩ | ⟨a, len, cap, zs, hcs, -, hl, hm, hz, -, hcell, -⟩
  · simp at hcs
    exact ⟨none, 0, [], hcs, ⟨Nat.le_refl _, by omega⟩, fun _ => by rw [hcs]; exact Reads.nil W⟩
  · simp at hcs
    simp only [if_true] at hz
    have hlen : (zs.take len).length = len := by simp; omega
    refine ⟨some a, cap, zs.take len, by rw [hlen]; exact hcs, ⟨by rw [hlen]; exact hl, by unfold maxLen at hm; omega⟩, fun h5 => ?_⟩
    have hs1 := hs _ _ _ hcs
    rw [hcs]
    obtain ⟨b, off, spot⟩ := a
    obtain rfl : spot = none := hs1
    by_cases h0 : len = 0
    · subst h0
      have : zs.take 0 = [] := rfl
      rw [this]
      exact ⟨by simp, _, cap, rfl, ⟨by simp, by unfold maxLen at hm; omega⟩, .inl rfl⟩
    · refine ⟨h5, _, cap, by rw [hlen], ⟨by rw [hlen]; exact hl, by unfold maxLen at hm; omega⟩, .inr ⟨b, off, rfl, fun i hi => ?_⟩⟩
      rw [hlen] at hi
      have := hcell i (by omega)
      rw [Addr.add_lit] at this
      rw [this, List.getElem?_take_of_lt hi, List.getD_eq_getElem?_getD]
set_option maxRecDepth 100000 in
theorem open_listI {H : Type} {enc : TypeId × Value → H} {W : World} {fuel : Nat} {v : Value} {x : DataW H × List MemPlace} {r : Reach} {base : Nat} (ho : Cell.okWide Tryz.prog W r base 22 v) (h : DataW.trod enc Tryz.prog W 0 (fun _ => true) true fuel 22 [v] = some x) :
    ∃ a cap, ∃ xs : List Int, v = .slice a xs.length cap ∧ (xs.length ≤ cap ∧ cap ≤ 9223372036854775807) ∧ (xs.length ≤ 5000 → Reads W v xs) :=
  open_list_of Tryz.underlying22 Tryz.underlying3 cellsIZ (fun a len cap e => spot_noneI (by rw [← e]; exact ho)) h
set_option maxRecDepth 100000 in
/-- A list of int as an argument. -/
theorem open_list_arg {H : Type} {enc : TypeId × Value → H} {W : World} {v : Value} {d : DataW H} {p : List MemPlace} {r : Reach} {base : Nat} (ho : Value.okWide Tryz.prog W r base 22 v) (h : DataW.Trod enc Tryz.prog W 0 (fun _ => true) true 22 v d p) :
    ∃ a cap, ∃ xs : List Int, v = .slice a xs.length cap ∧ (xs.length ≤ cap ∧ cap ≤ 9223372036854775807) ∧ (xs.length ≤ 5000 → Reads W v xs) := by
  have ho2 : Cell.okWide Tryz.prog W r base 22 v := by
    simp only [Value.okWide, Tryz.underlying22] at ho
    exact ho
  obtain ⟨fuel, h⟩ := h
  have hv : v.cells.toList = [v] := by
    cases v <;> first | rfl | (exfalso; simp [Cell.okWide, Tryz.underlying22, Cell.ok] at ho2)
  rw [hv] at h
  exact open_listI ho2 h
theorem cellTypesPZ : Tryz.prog.cellTypes Tryz.prog.depth 24 = some [3, 3, 22, 22] := by kernel_rfl
set_option maxRecDepth 100000 in
/-- A pond as an argument. -/
theorem open_pond {H : Type} {enc : TypeId × Value → H} {W : World} {v : Value} {d : DataW H} {p : List MemPlace} {r : Reach} {base : Nat} (ho : Value.okWide Tryz.prog W r base 24 v) (h : DataW.Trod enc Tryz.prog W 0 (fun _ => true) true 24 v d p) :
    ∃ (x y : Int) (a a' : Option Addr) (cap cap' : Nat) (wl kl : List Int), v = .agg #[.int .i64 x, .int .i64 y, .slice a wl.length cap, .slice a' kl.length cap'] ∧ (wl.length ≤ cap ∧ cap ≤ 9223372036854775807) ∧ (kl.length ≤ cap' ∧ cap' ≤ 9223372036854775807) ∧ (wl.length ≤ 5000 → Reads W (.slice a wl.length cap) wl) ∧ (kl.length ≤ 5000 → Reads W (.slice a' kl.length cap') kl) := by
  have ho2 := ho
  obtain ⟨c0, c1, c2, c3, y0, y1, y2, y3, m, rfl, rfl, rfl, hy0, hy1, hy2, hy3⟩ := Joins.open_agg4 Tryz.underlying24 (by kernel_rfl) cellsPZ ho h
  simp only [Value.okWide, Tryz.underlying24] at ho2
  obtain ⟨cs, hcs, -, ts, hts, -, hall⟩ := ho2
  cases hcs
  rw [cellTypesPZ] at hts
  cases hts
  obtain ⟨u, hu, hc⟩ := hall 2 c2 (by simp)
  simp at hu
  subst hu
  obtain ⟨u, hu, hc'⟩ := hall 3 c3 (by simp)
  simp at hu
  subst hu
  obtain ⟨x0, e0, -, -⟩ := DataW.trod_int Tryz.underlying3 hy0
  obtain ⟨x1, e1, -, -⟩ := DataW.trod_int Tryz.underlying3 hy1
  simp at e0 e1
  subst e0 e1
  obtain ⟨a, cap, wl, rfl, h1, h2⟩ := open_listI hc hy2
  obtain ⟨a', cap', kl, rfl, h3, h4⟩ := open_listI hc' hy3
  exact ⟨x0, x1, a, a', cap, cap', wl, kl, rfl, h1, h3, h2, h4⟩
set_option maxRecDepth 100000 in
/-- A chain as an argument. -/
theorem open_chain {H : Type} {enc : TypeId × Value → H} {W : World} {v : Value} {d : DataW H} {p : List MemPlace} {r : Reach} {base : Nat} (ho : Value.okWide Tryz.prog W r base 63 v) (h : DataW.Trod enc Tryz.prog W 0 (fun _ => true) true 63 v d p) :
    ∃ (x y : Int) (s : ByteArray), v = .agg #[.int .i64 x, .int .i64 y, .string s] ∧ s.size ≤ 9223372036854775807 := by
  obtain ⟨c0, c1, c2, y0, y1, y2, m, rfl, rfl, rfl, hy0, hy1, hy2⟩ := Joins.open_agg3 Tryz.underlying63 (by kernel_rfl) cellsCZ ho h
  obtain ⟨x0, e0, -, -⟩ := DataW.trod_int Tryz.underlying3 hy0
  obtain ⟨x1, e1, -, -⟩ := DataW.trod_int Tryz.underlying3 hy1
  obtain ⟨s, e2, -, hs⟩ := DataW.trod_string Tryz.underlying9 hy2
  simp at e0 e1 e2
  subst e0 e1 e2
  exact ⟨x0, x1, s, rfl, by unfold maxLen at hs; exact hs⟩
end Go.Proofs.YtppjnpempgpkaaaGreat
