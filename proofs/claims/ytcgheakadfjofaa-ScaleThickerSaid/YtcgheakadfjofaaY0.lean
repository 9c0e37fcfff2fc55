/- The last step of a law's row, and the arguments of the laws of stage 2 opened: stems, rules, logs, lists. -/
import Derived.Test.YtcgheakadfjofaaRows
import Derived.Test.YtcgheakadfjofaaC3
import Derived.Test.YtcgheakadfjofaaB7
import Derived.ProofKit
import Derived.OpenShut
import Derived.ChangeSame
import Derived.ReadAgain
import Derived.ChangeSlices
import Derived.Lib.SmallJoins
import Derived.Deep.SlicePairs
import Derived.Deep.Slices
namespace Go.Proofs.Ytcgheakadfjofaa
open Go.RowKit Go.WideShapes Go.ChangeShapes Go.Deep Go.Joins
set_option linter.unusedVariables false
theorem sameAt_ext {w w' : World} (h : Ext w w') {p : MemPlace} (hp : p.block < w.heap.size) : w.sameAt w' p := by
  cases p with
  | cell b o => exact h.cell (p := ⟨b, o, none⟩) hp
  | map b => exact h.block b hp
theorem carryAll {H : Type} {enc : TypeId × Value → H} {P : Program} {w w' : World} {base : Nat} {spare : Nat → Bool} {held : Bool} (h : Ext w w') : ∀ {ts : List TypeId} {vs : List Value} {ds : List (DataW H)} {ps : List MemPlace},
    DataW.TrodAll enc P w base spare held ts vs ds ps → (∀ p ∈ ps, p.block < w.heap.size) → DataW.TrodAll enc P w' base spare held ts vs ds ps
  | [], [], [], _, t, _ => t
  | _ :: _, _ :: _, _ :: _, _, ⟨p, q, ⟨n, h1⟩, h2, e⟩, hl => ⟨p, q, ⟨n, DataW.trod_carry n _ _ _ h1 (fun x hx => sameAt_ext h (hl x (by rw [e]; exact List.mem_append_left _ hx)))⟩, carryAll h h2 (fun x hx => hl x (by rw [e]; exact List.mem_append_right _ hx)), e⟩
theorem law_post {H : Type} {enc : TypeId × Value → H} {P : Program} {f : Func} {s : ChangeSpec} {apart fresh handsOn : Bool} {W W' : World} {args : Array Value} {v : Value} {ds gs : List (DataW H)} {before pa pv : List MemPlace}
    (hW : DataW.Whole enc P f.params.toList s.vars apart W args.toList ds gs before) (hE : Ext W W') (hsum : before = pa ++ pv)
    (hres : ∀ (b : Nat) (sp : Nat → Bool) (hd : Bool), DataW.TrodAll enc P W' b sp hd f.resultTypes.toList (v.resultList f.resultTypes.size) (s.fn H (ds ++ gs)).results [])
    (hargs : DataW.TrodAll enc P W' 0 (fun b => decide (b < W.heap.size)) true f.params.toList args.toList (s.fn H (ds ++ gs)).args pa)
    (hvars : DataW.TrodVars enc P W' (fun b => decide (b < W.heap.size)) s.vars (s.fn H (ds ++ gs)).vars pv) :
    s.post enc P f apart fresh handsOn false W args v W' := by
  refine ⟨ds, gs, before, [], pa, pv, hW, hres _ _ _, hargs, hvars, World.keptBut_mono (fun p hp => ⟨hp, ?_⟩) (hE.frame (· ∈ before)), fun h => by cases h⟩
  rw [hsum, List.mem_append] at hp
  exact .inr hp
theorem laidOutZ : laidOutB Try.prog = true := by kernel_rfl
theorem mapsRowedZ : mapsRowed Try.prog = true := by kernel_rfl
/-- The arguments read behind the call as they did. -/
theorem args_again {H : Type} {enc : TypeId × Value → H} {W W' : World} {ts : List TypeId} {vs : List Value} {ds : List (DataW H)} {ps : List MemPlace}
    (h : DataW.TrodAll enc Try.prog W 0 (fun _ => true) true ts vs ds ps) (hts : ∀ t ∈ ts, t < Try.prog.types.size) (hE : Ext W W') : DataW.TrodAll enc Try.prog W' 0 (fun b => decide (b < W.heap.size)) true ts vs ds ps :=
  carryAll hE (h.respare (kids_rows laidOutZ mapsRowedZ) (slices_full_of Try.prog (by kernel_rfl)) hts (fun p hp => decide_eq_true (h.lt p hp))) h.lt
theorem cells2Z : Try.prog.cellsOf 2 = 1 := by kernel_rfl
theorem cells3Z : Try.prog.cellsOf 3 = 1 := by kernel_rfl
theorem cells25Z : Try.prog.cellsOf 25 = 2 := by kernel_rfl
theorem cells27Z : Try.prog.cellsOf 27 = 7 := by kernel_rfl
theorem cells29Z : Try.prog.cellsOf 29 = 2 := by kernel_rfl
set_option maxRecDepth 100000 in
theorem spot_none22 {w : World} {r : Reach} {base : Nat} {a : Addr} {len cap : Nat} (h : Cell.okWide Try.prog w r base 22 (.slice (some a) len cap)) : a.spot = none := by
  simp only [Cell.okWide, Try.underlying22, Cell.ok, World.has] at h
  exact h.2.2.2.1
set_option maxRecDepth 100000 in
theorem spot_none23 {w : World} {r : Reach} {base : Nat} {a : Addr} {len cap : Nat} (h : Cell.okWide Try.prog w r base 23 (.slice (some a) len cap)) : a.spot = none := by
  simp only [Cell.okWide, Try.underlying23, Cell.ok, World.has] at h
  exact h.2.2.2.1
theorem open_list_of {H : Type} {enc : TypeId × Value → H} {W : World} {fuel : Nat} {v : Value} {x : DataW H × List MemPlace} {t e : TypeId} (ht : Try.prog.underlying t = some (.slice e)) (he : Try.prog.underlying e = some (.int .i64)) (hc : Try.prog.cellsOf e = 1)
    (hs : ∀ a len cap, v = .slice (some a) len cap → a.spot = none) (h : DataW.trod enc Try.prog W 0 (fun _ => true) true fuel t [v] = some x) :
    ∃ a cap, ∃ xs : List Int, v = .slice a xs.length cap ∧ (xs.length ≤ cap ∧ cap ≤ 9223372036854775807) ∧ (xs.length ≤ 5000 → Reads W v xs) := by
  rcases open_ints ht he hc h with ⟨hcs, -⟩ | ⟨a, len, cap, zs, hcs, -, hl, hm, hz, -, hcell, -⟩
  · simp at hcs
    exact ⟨none, 0, [], hcs, ⟨Nat.le_refl _, by omega⟩, fun _ => by rw [hcs]; exact Reads.nil W⟩
  · simp at hcs
    simp only [if_true] at hz
    have hlen : (zs.take len).length = len := by simp; omega
    refine ⟨some a, cap, zs.take len, by rw [hlen]; exact hcs, ⟨by rw [hlen]; exact hl, by unfold maxLen at hm; omega⟩, fun h5 => ?_⟩
    have hs1 := hs _ _ _ hcs
    rw [hcs]
    obtain ⟨b, off, spot⟩ := a
    obtain rfl : spot = none := hs1
    by_cases h0 : len = 0
    · subst h0
      have : zs.take 0 = [] := rfl
      rw [this]
      exact ⟨by simp, _, cap, rfl, .inr ⟨b, off, rfl, fun i hi => by simp at hi⟩⟩
    · refine ⟨h5, _, cap, by rw [hlen], .inr ⟨b, off, rfl, fun i hi => ?_⟩⟩
      rw [hlen] at hi
      have := hcell i (by omega)
      rw [Addr.add_lit] at this
      rw [this, List.getElem?_take_of_lt hi, List.getD_eq_getElem?_getD]
set_option maxRecDepth 100000 in
/-- A list of int64 as an argument. -/
theorem open_list22 {H : Type} {enc : TypeId × Value → H} {W : World} {fuel : Nat} {v : Value} {x : DataW H × List MemPlace} {r : Reach} {base : Nat} (ho : Cell.okWide Try.prog W r base 22 v) (h : DataW.trod enc Try.prog W 0 (fun _ => true) true fuel 22 [v] = some x) :
    ∃ a cap, ∃ xs : List Int, v = .slice a xs.length cap ∧ (xs.length ≤ cap ∧ cap ≤ 9223372036854775807) ∧ (xs.length ≤ 5000 → Reads W v xs) :=
  open_list_of Try.underlying22 Try.underlying2 cells2Z (fun a len cap e => spot_none22 (by rw [← e]; exact ho)) h
set_option maxRecDepth 100000 in
theorem open_list23 {H : Type} {enc : TypeId × Value → H} {W : World} {fuel : Nat} {v : Value} {x : DataW H × List MemPlace} {r : Reach} {base : Nat} (ho : Cell.okWide Try.prog W r base 23 v) (h : DataW.trod enc Try.prog W 0 (fun _ => true) true fuel 23 [v] = some x) :
    ∃ a cap, ∃ xs : List Int, v = .slice a xs.length cap ∧ (xs.length ≤ cap ∧ cap ≤ 9223372036854775807) ∧ (xs.length ≤ 5000 → Reads W v xs) :=
  open_list_of Try.underlying23 Try.underlying3 cells3Z (fun a len cap e => spot_none23 (by rw [← e]; exact ho)) h
theorem Try.cellTypes25 : Try.prog.cellTypes Try.prog.depth 25 = some [22, 23] := by kernel_rfl
set_option maxRecDepth 100000 in
/-- A stem as an argument. -/
theorem open_stem {H : Type} {enc : TypeId × Value → H} {W : World} {v : Value} {d : DataW H} {p : List MemPlace} {r : Reach} {base : Nat} (ho : Value.okWide Try.prog W r base 25 v) (h : DataW.Trod enc Try.prog W 0 (fun _ => true) true 25 v d p) :
    ∃ (a a' : Option Addr) (cap cap' : Nat) (th bd : List Int), v = .agg #[.slice a th.length cap, .slice a' bd.length cap'] ∧ (th.length ≤ cap ∧ cap ≤ 9223372036854775807) ∧ (bd.length ≤ cap' ∧ cap' ≤ 9223372036854775807) ∧ (th.length ≤ 5000 → Reads W (.slice a th.length cap) th) ∧ (bd.length ≤ 5000 → Reads W (.slice a' bd.length cap') bd) := by
  have ho2 := ho
  obtain ⟨c0, c1, y0, y1, m, rfl, rfl, rfl, hy0, hy1⟩ := Joins.open_agg2 Try.underlying25 (by kernel_rfl) cells25Z ho h
  simp only [Value.okWide, Try.underlying25] at ho2
  obtain ⟨cs, hcs, -, ts, hts, -, hall⟩ := ho2
  cases hcs
  rw [Try.cellTypes25] at hts
  cases hts
  obtain ⟨u, hu, hc⟩ := hall 0 c0 (by simp)
  simp at hu
  subst hu
  obtain ⟨u, hu, hc'⟩ := hall 1 c1 (by simp)
  simp at hu
  subst hu
  obtain ⟨a, cap, th, rfl, h1, h2⟩ := open_list22 hc hy0
  obtain ⟨a', cap', bd, rfl, h3, h4⟩ := open_list23 hc' hy1
  exact ⟨a, a', cap, cap', th, bd, rfl, h1, h3, h2, h4⟩
section
variable {H : Type} {enc : TypeId × Value → H} {P : Program} {w : World} {base : Nat} {spare : Nat → Bool} {held : Bool}
set_option maxRecDepth 100000 in
theorem open_agg7 {r : Reach} {b0 : Nat} {t : TypeId} {f0 f1 f2 f3 f4 f5 f6 : Field} {v : Value} {d : DataW H} {p : List MemPlace} (hs : P.underlying t = some (.struct #[f0, f1, f2, f3, f4, f5, f6])) (hone : oneCellFields P #[f0, f1, f2, f3, f4, f5, f6] = true) (hC : P.cellsOf t = 7)
    (hv : Value.okWide P w r b0 t v) (h : DataW.Trod enc P w base spare held t v d p) :
    ∃ (v0 v1 v2 v3 v4 v5 v6 : Value) (y0 y1 y2 y3 y4 y5 y6 : DataW H × List MemPlace) (n : Nat), v = .agg #[v0, v1, v2, v3, v4, v5, v6] ∧
      DataW.trod enc P w base spare held n f0.type [v0] = some y0 ∧ DataW.trod enc P w base spare held n f1.type [v1] = some y1 ∧ DataW.trod enc P w base spare held n f2.type [v2] = some y2 ∧ DataW.trod enc P w base spare held n f3.type [v3] = some y3 ∧ DataW.trod enc P w base spare held n f4.type [v4] = some y4 ∧ DataW.trod enc P w base spare held n f5.type [v5] = some y5 ∧ DataW.trod enc P w base spare held n f6.type [v6] = some y6 := by
  obtain ⟨cs, rfl, hsz⟩ := okWide_struct hs hv
  obtain ⟨l⟩ := cs
  match l, hsz.trans hC with
  | [c0, c1, c2, c3, c4, c5, c6], _ =>
    obtain ⟨fuel, hf⟩ := h
    obtain ⟨xs, n, _, hx, _, hlen, hg⟩ := DataW.trod_struct hs hf
    obtain ⟨o0, k0⟩ := hone_of hone 0 f0 rfl
    obtain ⟨o1, k1⟩ := hone_of hone 1 f1 rfl
    obtain ⟨o2, k2⟩ := hone_of hone 2 f2 rfl
    obtain ⟨o3, k3⟩ := hone_of hone 3 f3 rfl
    obtain ⟨o4, k4⟩ := hone_of hone 4 f4 rfl
    obtain ⟨o5, k5⟩ := hone_of hone 5 f5 rfl
    obtain ⟨o6, k6⟩ := hone_of hone 6 f6 rfl
    match xs, hlen with
    | [y0, y1, y2, y3, y4, y5, y6], _ =>
      exact ⟨c0, c1, c2, c3, c4, c5, c6, y0, y1, y2, y3, y4, y5, y6, n, rfl, by simpa [Value.cells, o0, k0] using hg 0 f0 rfl, by simpa [Value.cells, o1, k1] using hg 1 f1 rfl, by simpa [Value.cells, o2, k2] using hg 2 f2 rfl, by simpa [Value.cells, o3, k3] using hg 3 f3 rfl, by simpa [Value.cells, o4, k4] using hg 4 f4 rfl, by simpa [Value.cells, o5, k5] using hg 5 f5 rfl, by simpa [Value.cells, o6, k6] using hg 6 f6 rfl⟩
end
set_option maxRecDepth 100000 in
/-- A rule as an argument. -/
theorem open_rule {H : Type} {enc : TypeId × Value → H} {W : World} {v : Value} {d : DataW H} {p : List MemPlace} {r : Reach} {base : Nat} (ho : Value.okWide Try.prog W r base 27 v) (h : DataW.Trod enc Try.prog W 0 (fun _ => true) true 27 v d p) : ∃ r : Rl, v = r.val := by
  obtain ⟨c0, c1, c2, c3, c4, c5, c6, y0, y1, y2, y3, y4, y5, y6, m, rfl, h0, h1, h2, h3, h4, h5, h6⟩ := open_agg7 Try.underlying27 (by kernel_rfl) cells27Z ho h
  obtain ⟨x0, e0, -, -⟩ := DataW.trod_int Try.underlying3 h0
  obtain ⟨x1, e1, -, -⟩ := DataW.trod_int Try.underlying3 h1
  obtain ⟨x2, e2, -, -⟩ := DataW.trod_int Try.underlying3 h2
  obtain ⟨x3, e3, -, -⟩ := DataW.trod_int Try.underlying3 h3
  obtain ⟨x4, e4, -, -⟩ := DataW.trod_int Try.underlying2 h4
  obtain ⟨x5, e5, -, -⟩ := DataW.trod_int Try.underlying2 h5
  obtain ⟨x6, e6, -, -⟩ := DataW.trod_int Try.underlying2 h6
  simp at e0 e1 e2 e3 e4 e5 e6
  subst e0 e1 e2 e3 e4 e5 e6
  exact ⟨⟨x0, x1, x2, x3, x4, x5, x6⟩, rfl⟩
set_option maxRecDepth 100000 in
/-- A log as an argument. -/
theorem open_log {H : Type} {enc : TypeId × Value → H} {W : World} {v : Value} {d : DataW H} {p : List MemPlace} {r : Reach} {base : Nat} (ho : Value.okWide Try.prog W r base 29 v) (h : DataW.Trod enc Try.prog W 0 (fun _ => true) true 29 v d p) : ∃ i j : Int, v = .agg #[.int .i64 i, .int .i64 j] := by
  obtain ⟨c0, c1, y0, y1, m, rfl, -, -, h0, h1⟩ := Joins.open_agg2 Try.underlying29 (by kernel_rfl) cells29Z ho h
  obtain ⟨x0, e0, -, -⟩ := DataW.trod_int Try.underlying3 h0
  obtain ⟨x1, e1, -, -⟩ := DataW.trod_int Try.underlying3 h1
  simp at e0 e1
  subst e0 e1
  exact ⟨x0, x1, rfl⟩
set_option maxRecDepth 100000 in
/-- A list of int64 as an argument. -/
theorem open_list_arg {H : Type} {enc : TypeId × Value → H} {W : World} {v : Value} {d : DataW H} {p : List MemPlace} {r : Reach} {base : Nat} (ho : Value.okWide Try.prog W r base 22 v) (h : DataW.Trod enc Try.prog W 0 (fun _ => true) true 22 v d p) :
    ∃ a cap, ∃ xs : List Int, v = .slice a xs.length cap ∧ (xs.length ≤ cap ∧ cap ≤ 9223372036854775807) ∧ (xs.length ≤ 5000 → Reads W v xs) := by
  have ho2 : Cell.okWide Try.prog W r base 22 v := by
    simp only [Value.okWide, Try.underlying22] at ho
    exact ho
  obtain ⟨fuel, h⟩ := h
  have hv : v.cells.toList = [v] := by
    cases v <;> first | rfl | (exfalso; simp [Cell.okWide, Try.underlying22, Cell.ok] at ho2)
  rw [hv] at h
  exact open_list22 ho2 h
set_option maxRecDepth 100000 in
theorem spot_none38 {w : World} {r : Reach} {base : Nat} {a : Addr} {len cap : Nat} (h : Cell.okWide Try.prog w r base 38 (.slice (some a) len cap)) : a.spot = none := by
  simp only [Cell.okWide, Try.underlying38, Cell.ok, World.has] at h
  exact h.2.2.2.1
set_option maxRecDepth 100000 in
/-- A list of logs as an argument. -/
theorem open_logs {H : Type} {enc : TypeId × Value → H} {W : World} {v : Value} {d : DataW H} {p : List MemPlace} {r : Reach} {base : Nat} (ho : Value.okWide Try.prog W r base 38 v) (h : DataW.Trod enc Try.prog W 0 (fun _ => true) true 38 v d p) :
    ∃ a cap, ∃ ls : List (Int × Int), v = .slice a ls.length cap ∧ (ls.length ≤ cap ∧ cap ≤ 9223372036854775807) ∧ (ls.length ≤ 5000 → ReadsLg W v ls) := by
  have ho2 : Cell.okWide Try.prog W r base 38 v := by
    simp only [Value.okWide, Try.underlying38] at ho
    exact ho
  obtain ⟨fuel, h⟩ := h
  have hv : v.cells.toList = [v] := by
    cases v <;> first | rfl | (exfalso; simp [Cell.okWide, Try.underlying38, Cell.ok] at ho2)
  rw [hv] at h
  rcases open_slice_pairs Try.underlying38 Try.underlying29 cells29Z rfl rfl cells3Z cells3Z h with ⟨hcs, -⟩ | ⟨a, len, cap, m, n, V0, V1, D0, D1, P0, P1, hcs, -, hl, hm, hmm, -, hx⟩
  · simp at hcs
    exact ⟨none, 0, [], hcs, ⟨Nat.le_refl _, by omega⟩, fun _ => by rw [hcs]; exact ReadsLg.nil W⟩
  · simp at hcs
    simp only [if_true] at hmm
    have each : ∀ i, i < m → ∃ q : Int × Int, W.cell? (a.add (i * 2)) = some (.int .i64 q.1) ∧ W.cell? (a.add (i * 2 + 1)) = some (.int .i64 q.2) := by
      intro i hi
      obtain ⟨h1, h2, h3, h4⟩ := hx i hi
      obtain ⟨x0, e0, -, -⟩ := DataW.trod_int Try.underlying3 h3
      obtain ⟨x1, e1, -, -⟩ := DataW.trod_int Try.underlying3 h4
      simp at e0 e1
      rw [e0] at h1
      rw [e1] at h2
      exact ⟨(x0, x1), h1, h2⟩
    obtain ⟨q, hq⟩ := choose_lt each
    have hlen : ((List.range len).map q).length = len := by simp
    refine ⟨some a, cap, (List.range len).map q, by rw [hlen]; exact hcs, ⟨by rw [hlen]; exact hl, by unfold maxLen at hm; omega⟩, fun h5 => ?_⟩
    rw [hcs]
    rw [hcs] at ho2
    have hs := spot_none38 ho2
    obtain ⟨b, off, spot⟩ := a
    obtain rfl : spot = none := hs
    refine ⟨h5, _, cap, by rw [hlen], .inr ⟨b, off, rfl, fun i p hi => ?_⟩⟩
    have hil : i < len := by
      have := (List.getElem?_eq_some_iff.1 hi).1
      rwa [hlen] at this
    simp [hil] at hi
    subst hi
    have := hq i (by omega)
    rw [Addr.add_lit, Addr.add_lit, ← Nat.add_assoc] at this
    exact this
end Go.Proofs.Ytcgheakadfjofaa
