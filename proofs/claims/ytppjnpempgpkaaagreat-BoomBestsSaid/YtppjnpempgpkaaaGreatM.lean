/- Sets of pairs in memory: maps whose keys are sides, or corners. -/
import Derived.Test.YtppjnpempgpkaaaGreatL
import Derived.Test.YtppjnpempgpkaaaGreatP
import Derived.Maps.OwnIn
import Derived.Maps.OwnSet
import Derived.Maps.Views
import Derived.Maps.RangeWalk
import Derived.DeepKeys4
namespace Go.Proofs.YtppjnpempgpkaaaGreat
open Go.RowKit Go.Maps
set_option linter.unusedVariables false
set_option linter.unusedSimpArgs false
abbrev Lk := Int × Int
theorem laidOut : laidOutB Tryz.prog = true := by kernel_rfl
def ks (l : Lk) : Lit := .string (keyBytes [.int .i64 l.1, .int .i64 l.2])
def kv (l : Lk) : Value := .agg #[.int .i64 l.1, .int .i64 l.2]
def Sm (l : Lk) : Prop := (-1000 < l.1 ∧ l.1 < 1000) ∧ -1000 < l.2 ∧ l.2 < 1000
theorem wf_small (n : Int) (h : -1000000 < n ∧ n < 1000000) : (Lit.int .i64 n).wf = true := WalkArith.wf_i64 (by omega)
theorem cells3' : Tryz.prog.cellsOf 3 = 1 := by kernel_rfl
theorem ks_key (l : Lk) : WideAt.IsKeyLit (ks l) := trivial
/-- How an element reads: as it is. -/
def RH (v : Value) : Option (DataW Value × List MemPlace) := some (.held v, [])
def inF (F : List Lk) (l : Lk) : Bool := decide (l ∈ F)
theorem inF_cons (F : List Lk) (l m : Lk) : inF (l :: F) m = (decide (m = l) || inF F m) := by
  unfold inF
  rw [Bool.eq_iff_iff]
  simp
theorem inF_filter (F : List Lk) (l m : Lk) : inF (F.filter fun x => !decide (x = l)) m = (!decide (m = l) && inF F m) := by
  unfold inF
  rw [Bool.eq_iff_iff, Bool.and_eq_true, decide_eq_true_iff, decide_eq_true_iff, List.mem_filter, and_comm]
def FIs (D : DataW Value) (F : List Lk) : Prop := IsMap D ∧ (∀ l, Sm l → has D (ks l) = inF F l ∧ (inF F l = true → ∀ z, D.atKey (ks l) z = .held (.bool true))) ∧ ∀ l ∈ F, Sm l
theorem FIs.empty : FIs (.map []) [] := ⟨isMap_empty, fun l _ => ⟨rfl, fun h => by cases h⟩, fun l h => by cases h⟩
theorem keyLawS : WideMaps.KeyLaw Tryz.prog 124 := deep_law_laid laidOut (m := 3) (by omega) (of_decide_eq_true (by kernel_rfl)) (by kernel_rfl) (by kernel_rfl)
theorem keyedS : Keyed Tryz.prog 124 := Keyed.of_law keyLawS
theorem keyTypeS : Tryz.prog.keyType 124 = true := by kernel_rfl
theorem cellsS : Tryz.prog.cellsOf 124 = 2 := by kernel_rfl
theorem ks_eqS (l : Lk) (h : Sm l) : keyOf Tryz.prog 124 (kv l) = some (ks l) := by
  obtain ⟨i, j⟩ := l
  obtain ⟨⟨a1, a2⟩, a3, a4⟩ := h
  dsimp only at a1 a2 a3 a4
  have h1 := wf_small i (by omega)
  have h2 := wf_small j (by omega)
  obtain ⟨N, hN⟩ : ∃ N, N + 1 = Tryz.prog.types.size := ⟨Tryz.prog.types.size - 1, by kernel_rfl⟩
  unfold keyOf kv
  rw [← hN]
  simp [Tryz.underlying124, Tryz.underlying3, keyTypeS, Value.formed, cellsS, Program.keyLits, Value.cells, cells3', h1, h2, ks]
theorem ks_injS {l m : Lk} (hl : Sm l) (hm : Sm m) (h : ks l = ks m) : l = m := by
  have h1 := ks_eqS l hl
  have h2 := ks_eqS m hm
  rw [h] at h1
  have := keyedS.inj h1 h2
  simp [kv] at this
  exact Prod.ext this.1 this.2
theorem FIs.putS {D : DataW Value} {F : List Lk} (h : FIs D F) {l : Lk} (hl : Sm l) : FIs (D.put (ks l) (.held (.bool true))) (l :: F) := by
  refine ⟨h.1.put _ _, fun m hm => ?_, fun x hx => by rcases List.mem_cons.1 hx with rfl | hx; exact hl; exact h.2.2 x hx⟩
  rw [inF_cons]
  by_cases q : m = l
  · subst q
    refine ⟨by rw [has_put_same h.1 (ks_key _) _]; simp, fun _ z => atKey_put_same h.1 (ks_key _) _ _⟩
  · have hne : ks m ≠ ks l := fun hh => q (ks_injS hm hl hh)
    rw [has_put_other hne, decide_eq_false q, Bool.false_or]
    exact ⟨(h.2.1 m hm).1, fun ht z => by rw [atKey_put_other hne]; exact (h.2.1 m hm).2 ht z⟩
theorem FIs.delS {D : DataW Value} {F : List Lk} (h : FIs D F) {l : Lk} (hl : Sm l) : FIs (D.del (ks l)) (F.filter fun x => !decide (x = l)) := by
  refine ⟨h.1.del _, fun m hm => ?_, fun x hx => h.2.2 x (List.mem_filter.1 hx).1⟩
  rw [inF_filter]
  by_cases q : m = l
  · subst q
    refine ⟨by rw [has_del_same]; simp, fun ht => by simp at ht⟩
  · have hne : ks m ≠ ks l := fun hh => q (ks_injS hm hl hh)
    rw [has_del_other hne, decide_eq_false q, Bool.not_false, Bool.true_and]
    exact ⟨(h.2.1 m hm).1, fun ht z => by rw [atKey_del_other hne]; exact (h.2.1 m hm).2 ht z⟩
/-- A set of the call's own: a map of pairs. -/
def SMap (W : World) (b n : Nat) (F : List Lk) : Prop := ∃ D, W.ownsMap Tryz.prog 124 RH b n D ∧ FIs D F
theorem SMap.lt {W : World} {b n : Nat} {F : List Lk} (h : SMap W b n F) : b < W.heap.size := let ⟨_, h1, _⟩ := h; h1.lt
theorem SMap.made (w : World) : SMap (w.alloc (.map #[] 0)) w.heap.size 0 [] := ⟨_, World.ownsMap_made _ _ _ _, FIs.empty⟩
theorem SMap.more {W : World} {b n n' : Nat} {F : List Lk} (h : SMap W b n F) (hn : n ≤ n') : SMap W b n' F := let ⟨D, h1, h2⟩ := h; ⟨D, h1.mono hn, h2⟩
theorem SMap.blk {W : World} {b n : Nat} {F : List Lk} (h : SMap W b n F) : ∃ es ck, W.heap[b]? = some (.map es ck) := let ⟨_, ⟨es, ck, hh, _⟩, _⟩ := h; ⟨es, ck, hh⟩
theorem SMap.same {W W' : World} {b n : Nat} {F : List Lk} (h : SMap W b n F) (e : W'.heap[b]? = W.heap[b]?) : SMap W' b n F := by
  obtain ⟨D, ⟨es, ck, hh, r⟩, hm⟩ := h
  exact ⟨D, ⟨es, ck, e.trans hh, r⟩, hm⟩
theorem SMap.ext {W W' : World} {b n : Nat} {F : List Lk} (h : SMap W b n F) (e : Ext W W') : SMap W' b n F := h.same (e.block b h.lt)
theorem SMap.sm {W : World} {b n : Nat} {F : List Lk} (h : SMap W b n F) : ∀ l ∈ F, Sm l := let ⟨_, _, h2⟩ := h; h2.2.2
/-- What is asked of the set alone. -/
theorem SMap.congr {W : World} {b n : Nat} {F G : List Lk} (h : SMap W b n F) (hs : ∀ l ∈ G, Sm l) (e : ∀ l, inF F l = inF G l) : SMap W b n G := by
  obtain ⟨D, h1, h2, h3, h4⟩ := h
  exact ⟨D, h1, h2, fun l hl => by rw [← e l]; exact h3 l hl, hs⟩
theorem SMap.look {W : World} {b n : Nat} {F : List Lk} (h : SMap W b n F) (l : Lk) (hl : Sm l) : (Instr.lookup 113 (.map (some b)) (kv l) false).run Tryz.prog W = .ok (.bool (inF F l)) W := by
  obtain ⟨D, ho, hm⟩ := h
  obtain ⟨v', ps, hrun, hv'⟩ := ho.lookup keyedS (t := 113) Tryz.underlying113 (z := .bool false) (by simp [zeroValue]; rfl) (zd := .held (.bool false)) (zp := []) rfl (ks_eqS l hl)
  have hq := congrArg (Option.map Prod.fst) hv'
  simp only [RH, Option.map_some, Option.some.injEq] at hq
  obtain ⟨h1, h2⟩ := hm.2.1 l hl
  cases hi : inF F l with
  | true =>
    rw [h2 hi] at hq
    cases hq
    exact hrun
  | false =>
    rw [hi] at h1
    obtain ⟨es, rfl⟩ := hm.1
    have : es.find? (fun p => p.1.sameKey (ks l)) = none := by
      rw [List.find?_eq_none]; intro p hp hk
      have := List.any_eq_false.1 h1 p hp
      exact this hk
    simp only [DataW.atKey, this] at hq
    cases hq
    exact hrun
theorem SMap.put {W : World} {b n : Nat} {F : List Lk} (h : SMap W b n F) (hn : n < 1000000) (l : Lk) (hl : Sm l) :
    ∃ w', (Instr.mapUpdate 113 (.map (some b)) (kv l) (.bool true)).run Tryz.prog W = .ok () w' ∧ SMap w' b (n + 1) (l :: F) ∧ W.mapTurned w' b := by
  obtain ⟨D, ho, hm⟩ := h
  obtain ⟨w', h1, h2, h3⟩ := ho.store keyedS (t := 113) Tryz.underlying113 (by unfold maxLen; omega) (ks_eqS l hl) (val := .bool true) (d := .held (.bool true)) (ps := []) rfl
  exact ⟨w', h1, ⟨_, h2, hm.putS hl⟩, h3⟩
theorem SMap.del {W : World} {b n : Nat} {F : List Lk} (h : SMap W b n F) (l : Lk) (hl : Sm l) (ty : TypeId) :
    ∃ w', (Builtin.delete_ #[113, 124] ty #[.map (some b), kv l]).run Tryz.prog W = .ok (.tuple #[]) w' ∧ SMap w' b n (F.filter fun x => !decide (x = l)) ∧ W.mapTurned w' b := by
  obtain ⟨D, ho, hm⟩ := h
  obtain ⟨w', h1, h2, h3⟩ := ho.drop keyedS (t := 113) Tryz.underlying113 (ks_eqS l hl) ty
  exact ⟨w', h1, ⟨_, h2, hm.delS hl⟩, h3⟩
theorem keyLawC : WideMaps.KeyLaw Tryz.prog 146 := deep_law_laid laidOut (m := 3) (by omega) (of_decide_eq_true (by kernel_rfl)) (by kernel_rfl) (by kernel_rfl)
theorem keyedC : Keyed Tryz.prog 146 := Keyed.of_law keyLawC
theorem keyTypeC : Tryz.prog.keyType 146 = true := by kernel_rfl
theorem cellsC : Tryz.prog.cellsOf 146 = 2 := by kernel_rfl
theorem ks_eqC (l : Lk) (h : Sm l) : keyOf Tryz.prog 146 (kv l) = some (ks l) := by
  obtain ⟨i, j⟩ := l
  obtain ⟨⟨a1, a2⟩, a3, a4⟩ := h
  dsimp only at a1 a2 a3 a4
  have h1 := wf_small i (by omega)
  have h2 := wf_small j (by omega)
  obtain ⟨N, hN⟩ : ∃ N, N + 1 = Tryz.prog.types.size := ⟨Tryz.prog.types.size - 1, by kernel_rfl⟩
  unfold keyOf kv
  rw [← hN]
  simp [Tryz.underlying146, Tryz.underlying3, keyTypeC, Value.formed, cellsC, Program.keyLits, Value.cells, cells3', h1, h2, ks]
theorem ks_injC {l m : Lk} (hl : Sm l) (hm : Sm m) (h : ks l = ks m) : l = m := by
  have h1 := ks_eqC l hl
  have h2 := ks_eqC m hm
  rw [h] at h1
  have := keyedC.inj h1 h2
  simp [kv] at this
  exact Prod.ext this.1 this.2
theorem FIs.putC {D : DataW Value} {F : List Lk} (h : FIs D F) {l : Lk} (hl : Sm l) : FIs (D.put (ks l) (.held (.bool true))) (l :: F) := by
  refine ⟨h.1.put _ _, fun m hm => ?_, fun x hx => by rcases List.mem_cons.1 hx with rfl | hx; exact hl; exact h.2.2 x hx⟩
  rw [inF_cons]
  by_cases q : m = l
  · subst q
    refine ⟨by rw [has_put_same h.1 (ks_key _) _]; simp, fun _ z => atKey_put_same h.1 (ks_key _) _ _⟩
  · have hne : ks m ≠ ks l := fun hh => q (ks_injC hm hl hh)
    rw [has_put_other hne, decide_eq_false q, Bool.false_or]
    exact ⟨(h.2.1 m hm).1, fun ht z => by rw [atKey_put_other hne]; exact (h.2.1 m hm).2 ht z⟩
theorem FIs.delC {D : DataW Value} {F : List Lk} (h : FIs D F) {l : Lk} (hl : Sm l) : FIs (D.del (ks l)) (F.filter fun x => !decide (x = l)) := by
  refine ⟨h.1.del _, fun m hm => ?_, fun x hx => h.2.2 x (List.mem_filter.1 hx).1⟩
  rw [inF_filter]
  by_cases q : m = l
  · subst q
    refine ⟨by rw [has_del_same]; simp, fun ht => by simp at ht⟩
  · have hne : ks m ≠ ks l := fun hh => q (ks_injC hm hl hh)
    rw [has_del_other hne, decide_eq_false q, Bool.not_false, Bool.true_and]
    exact ⟨(h.2.1 m hm).1, fun ht z => by rw [atKey_del_other hne]; exact (h.2.1 m hm).2 ht z⟩
/-- A set of the call's own: a map of pairs. -/
def CMap (W : World) (b n : Nat) (F : List Lk) : Prop := ∃ D, W.ownsMap Tryz.prog 146 RH b n D ∧ FIs D F
theorem CMap.lt {W : World} {b n : Nat} {F : List Lk} (h : CMap W b n F) : b < W.heap.size := let ⟨_, h1, _⟩ := h; h1.lt
theorem CMap.made (w : World) : CMap (w.alloc (.map #[] 0)) w.heap.size 0 [] := ⟨_, World.ownsMap_made _ _ _ _, FIs.empty⟩
theorem CMap.more {W : World} {b n n' : Nat} {F : List Lk} (h : CMap W b n F) (hn : n ≤ n') : CMap W b n' F := let ⟨D, h1, h2⟩ := h; ⟨D, h1.mono hn, h2⟩
theorem CMap.blk {W : World} {b n : Nat} {F : List Lk} (h : CMap W b n F) : ∃ es ck, W.heap[b]? = some (.map es ck) := let ⟨_, ⟨es, ck, hh, _⟩, _⟩ := h; ⟨es, ck, hh⟩
theorem CMap.same {W W' : World} {b n : Nat} {F : List Lk} (h : CMap W b n F) (e : W'.heap[b]? = W.heap[b]?) : CMap W' b n F := by
  obtain ⟨D, ⟨es, ck, hh, r⟩, hm⟩ := h
  exact ⟨D, ⟨es, ck, e.trans hh, r⟩, hm⟩
theorem CMap.ext {W W' : World} {b n : Nat} {F : List Lk} (h : CMap W b n F) (e : Ext W W') : CMap W' b n F := h.same (e.block b h.lt)
theorem CMap.sm {W : World} {b n : Nat} {F : List Lk} (h : CMap W b n F) : ∀ l ∈ F, Sm l := let ⟨_, _, h2⟩ := h; h2.2.2
/-- What is asked of the set alone. -/
theorem CMap.congr {W : World} {b n : Nat} {F G : List Lk} (h : CMap W b n F) (hs : ∀ l ∈ G, Sm l) (e : ∀ l, inF F l = inF G l) : CMap W b n G := by
  obtain ⟨D, h1, h2, h3, h4⟩ := h
  exact ⟨D, h1, h2, fun l hl => by rw [← e l]; exact h3 l hl, hs⟩
theorem CMap.look {W : World} {b n : Nat} {F : List Lk} (h : CMap W b n F) (l : Lk) (hl : Sm l) : (Instr.lookup 150 (.map (some b)) (kv l) false).run Tryz.prog W = .ok (.bool (inF F l)) W := by
  obtain ⟨D, ho, hm⟩ := h
  obtain ⟨v', ps, hrun, hv'⟩ := ho.lookup keyedC (t := 150) Tryz.underlying150 (z := .bool false) (by simp [zeroValue]; rfl) (zd := .held (.bool false)) (zp := []) rfl (ks_eqC l hl)
  have hq := congrArg (Option.map Prod.fst) hv'
  simp only [RH, Option.map_some, Option.some.injEq] at hq
  obtain ⟨h1, h2⟩ := hm.2.1 l hl
  cases hi : inF F l with
  | true =>
    rw [h2 hi] at hq
    cases hq
    exact hrun
  | false =>
    rw [hi] at h1
    obtain ⟨es, rfl⟩ := hm.1
    have : es.find? (fun p => p.1.sameKey (ks l)) = none := by
      rw [List.find?_eq_none]; intro p hp hk
      have := List.any_eq_false.1 h1 p hp
      exact this hk
    simp only [DataW.atKey, this] at hq
    cases hq
    exact hrun
theorem CMap.put {W : World} {b n : Nat} {F : List Lk} (h : CMap W b n F) (hn : n < 1000000) (l : Lk) (hl : Sm l) :
    ∃ w', (Instr.mapUpdate 150 (.map (some b)) (kv l) (.bool true)).run Tryz.prog W = .ok () w' ∧ CMap w' b (n + 1) (l :: F) ∧ W.mapTurned w' b := by
  obtain ⟨D, ho, hm⟩ := h
  obtain ⟨w', h1, h2, h3⟩ := ho.store keyedC (t := 150) Tryz.underlying150 (by unfold maxLen; omega) (ks_eqC l hl) (val := .bool true) (d := .held (.bool true)) (ps := []) rfl
  exact ⟨w', h1, ⟨_, h2, hm.putC hl⟩, h3⟩
theorem CMap.del {W : World} {b n : Nat} {F : List Lk} (h : CMap W b n F) (l : Lk) (hl : Sm l) (ty : TypeId) :
    ∃ w', (Builtin.delete_ #[150, 146] ty #[.map (some b), kv l]).run Tryz.prog W = .ok (.tuple #[]) w' ∧ CMap w' b n (F.filter fun x => !decide (x = l)) ∧ W.mapTurned w' b := by
  obtain ⟨D, ho, hm⟩ := h
  obtain ⟨w', h1, h2, h3⟩ := ho.drop keyedC (t := 150) Tryz.underlying150 (ks_eqC l hl) ty
  exact ⟨w', h1, ⟨_, h2, hm.delC hl⟩, h3⟩
end Go.Proofs.YtppjnpempgpkaaaGreat
