/- The last step of a law's row: the call has made blocks alone, so all that was read reads as it did. -/
import Derived.Test.YtlgdnbpboonhdaaRows
import Derived.Test.YtlgdnbpboonhdaaL
import Derived.ProofKit
import Derived.OpenShut
import Derived.ChangeSame
import Derived.ReadAgain
import Derived.ChangeSlices
import Derived.Lib.SmallJoins
namespace Go.Proofs.Ytlgdnbpboonhdaa
open Go.RowKit Go.WideShapes Go.ChangeShapes
set_option linter.unusedVariables false
theorem sameAt_ext {w w' : World} (h : Ext w w') {p : MemPlace} (hp : p.block < w.heap.size) : w.sameAt w' p := by
  cases p with
  | cell b o => exact h.cell (p := ⟨b, o, none⟩) hp
  | map b => exact h.block b hp
theorem carryAll {H : Type} {enc : TypeId × Value → H} {P : Program} {w w' : World} {base : Nat} {spare : Nat → Bool} {held : Bool} (h : Ext w w') : ∀ {ts : List TypeId} {vs : List Value} {ds : List (DataW H)} {ps : List MemPlace},
    DataW.TrodAll enc P w base spare held ts vs ds ps → (∀ p ∈ ps, p.block < w.heap.size) → DataW.TrodAll enc P w' base spare held ts vs ds ps
  | [], [], [], _, t, _ => t
  | _ :: _, _ :: _, _ :: _, _, ⟨p, q, ⟨n, h1⟩, h2, e⟩, hl => ⟨p, q, ⟨n, DataW.trod_carry n _ _ _ h1 (fun x hx => sameAt_ext h (hl x (by rw [e]; exact List.mem_append_left _ hx)))⟩, carryAll h h2 (fun x hx => hl x (by rw [e]; exact List.mem_append_right _ hx)), e⟩
theorem law_post {H : Type} {enc : TypeId × Value → H} {P : Program} {f : Func} {s : ChangeSpec} {apart fresh handsOn : Bool} {W W' : World} {args : Array Value} {v : Value} {ds gs : List (DataW H)} {before pa pv : List MemPlace}
    (hW : DataW.Whole enc P f.params.toList s.vars apart W args.toList ds gs before) (hE : Ext W W') (hsum : before = pa ++ pv)
    (hres : ∀ (b : Nat) (sp : Nat → Bool) (hd : Bool), DataW.TrodAll enc P W' b sp hd f.resultTypes.toList (v.resultList f.resultTypes.size) (s.fn H (ds ++ gs)).results [])
    (hargs : DataW.TrodAll enc P W' 0 (fun b => decide (b < W.heap.size)) true f.params.toList args.toList (s.fn H (ds ++ gs)).args pa)
    (hvars : DataW.TrodVars enc P W' (fun b => decide (b < W.heap.size)) s.vars (s.fn H (ds ++ gs)).vars pv) :
    s.post enc P f apart fresh handsOn false W args v W' := by
  refine ⟨ds, gs, before, [], pa, pv, hW, hres _ _ _, hargs, hvars, World.keptBut_mono (fun p hp => ⟨hp, ?_⟩) (hE.frame (· ∈ before)), fun h => by cases h⟩
  rw [hsum, List.mem_append] at hp
  exact .inr hp
theorem laidOutZ : laidOutB Try.prog = true := by kernel_rfl
theorem mapsRowedZ : mapsRowed Try.prog = true := by kernel_rfl
/-- The arguments read behind the call as they did. -/
theorem args_again {H : Type} {enc : TypeId × Value → H} {W W' : World} {ts : List TypeId} {vs : List Value} {ds : List (DataW H)} {ps : List MemPlace}
    (h : DataW.TrodAll enc Try.prog W 0 (fun _ => true) true ts vs ds ps) (hts : ∀ t ∈ ts, t < Try.prog.types.size) (hE : Ext W W') : DataW.TrodAll enc Try.prog W' 0 (fun b => decide (b < W.heap.size)) true ts vs ds ps :=
  carryAll hE (h.respare (kids_rows laidOutZ mapsRowedZ) (slices_full_of Try.prog (by kernel_rfl)) hts (fun p hp => decide_eq_true (h.lt p hp))) h.lt
theorem cells3Z : Try.prog.cellsOf 3 = 1 := by kernel_rfl
theorem cells24Z : Try.prog.cellsOf 24 = 3 := by kernel_rfl
set_option maxRecDepth 100000 in
theorem spot_none {w : World} {r : Reach} {base : Nat} {a : Addr} {len cap : Nat} (h : Cell.okWide Try.prog w r base 22 (.slice (some a) len cap)) : a.spot = none := by
  simp only [Cell.okWide, Try.underlying22, Cell.ok, World.has] at h
  exact h.2.2.2.1
set_option maxRecDepth 100000 in
/-- A list of integers as an argument. -/
theorem open_list {H : Type} {enc : TypeId × Value → H} {W : World} {fuel : Nat} {v : Value} {x : DataW H × List MemPlace} {r : Reach} {base : Nat} (ho : Cell.okWide Try.prog W r base 22 v) (h : DataW.trod enc Try.prog W 0 (fun _ => true) true fuel 22 [v] = some x) :
    ∃ a cap, ∃ xs : List Int, v = .slice a xs.length cap ∧ (xs.length ≤ cap ∧ cap ≤ 9223372036854775807) ∧ (xs.length ≤ 5000 → Reads W v xs) := by
  rcases open_ints Try.underlying22 Try.underlying3 cells3Z h with ⟨hcs, -⟩ | ⟨a, len, cap, zs, hcs, -, hl, hm, hz, -, hcell, -⟩
  · simp at hcs
    exact ⟨none, 0, [], hcs, ⟨Nat.le_refl _, by omega⟩, fun _ => by rw [hcs]; exact Reads.nil W⟩
  · simp at hcs
    simp only [if_true] at hz
    have hlen : (zs.take len).length = len := by simp; omega
    refine ⟨some a, cap, zs.take len, by rw [hlen]; exact hcs, ⟨by rw [hlen]; exact hl, by unfold maxLen at hm; omega⟩, fun h5 => ?_⟩
    rw [hcs]
    rw [hcs] at ho
    have hs := spot_none ho
    obtain ⟨b, off, spot⟩ := a
    obtain rfl : spot = none := hs
    by_cases h0 : len = 0
    · subst h0
      have : zs.take 0 = [] := rfl
      rw [this]
      exact ⟨by simp, _, cap, rfl, .inr ⟨b, off, rfl, fun i hi => by simp at hi⟩⟩
    · refine ⟨h5, _, cap, by rw [hlen], .inr ⟨b, off, rfl, fun i hi => ?_⟩⟩
      rw [hlen] at hi
      have := hcell i (by omega)
      rw [Addr.add_lit] at this
      rw [this, List.getElem?_take_of_lt hi, List.getD_eq_getElem?_getD]
theorem Try.cellTypes24 : Try.prog.cellTypes Try.prog.depth 24 = some [3, 3, 22] := by kernel_rfl
set_option maxRecDepth 100000 in
/-- An office as an argument. -/
theorem open_office {H : Type} {enc : TypeId × Value → H} {W : World} {v : Value} {d : DataW H} {p : List MemPlace} {r : Reach} {base : Nat} (ho : Value.okWide Try.prog W r base 24 v) (h : DataW.Trod enc Try.prog W 0 (fun _ => true) true 24 v d p) :
    ∃ (S L : Int) (a : Option Addr) (cap : Nat) (xs : List Int), v = .agg #[.int .i64 S, .int .i64 L, .slice a xs.length cap] ∧ (xs.length ≤ cap ∧ cap ≤ 9223372036854775807) ∧ (xs.length ≤ 5000 → Reads W (.slice a xs.length cap) xs) := by
  have ho2 := ho
  obtain ⟨c0, c1, c2, y0, y1, y2, m, rfl, rfl, rfl, hy0, hy1, hy2⟩ := Joins.open_agg3 Try.underlying24 (by kernel_rfl) cells24Z ho h
  obtain ⟨S, e0, -, -⟩ := DataW.trod_int Try.underlying3 hy0
  obtain ⟨L, e1, -, -⟩ := DataW.trod_int Try.underlying3 hy1
  simp at e0 e1
  subst e0 e1
  simp only [Value.okWide, Try.underlying24] at ho2
  obtain ⟨cs, hcs, -, ts, hts, -, hall⟩ := ho2
  cases hcs
  rw [Try.cellTypes24] at hts
  cases hts
  obtain ⟨u, hu, hc⟩ := hall 2 c2 (by simp)
  simp at hu
  subst hu
  obtain ⟨a, cap, xs, rfl, h1, h2⟩ := open_list hc hy2
  exact ⟨S, L, a, cap, xs, rfl, h1, h2⟩
end Go.Proofs.Ytlgdnbpboonhdaa
