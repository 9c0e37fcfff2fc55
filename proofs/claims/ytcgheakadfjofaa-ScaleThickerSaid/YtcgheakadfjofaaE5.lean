/- The map of spots: its keys, and what it holds. add, by its contract. A log appended to a list of logs that is full. note, by its contract. -/
import Derived.Test.YtcgheakadfjofaaC3
import Derived.Test.YtcgheakadfjofaaA5
import Derived.Test.YtcgheakadfjofaaD0
import Derived.Maps.OwnIn
import Derived.Maps.OwnSet
import Derived.Maps.Views
import Derived.Maps.RangeWalk
import Derived.DeepKeys4
import Derived.OrdersIn
import Derived.Sort.MapsRangeIn
import Derived.Lib.SlKeysI
import Derived.Test.YtcgheakadfjofaaB16
import Derived.ArgAppend
import Derived.Test.YtcgheakadfjofaaB9
namespace Go.Proofs.Ytcgheakadfjofaa
open Go.RowKit Go.Maps
set_option linter.unusedVariables false
set_option linter.unusedSimpArgs false
/-- A list of logs in memory that lies within its capacity. -/
def ReadsLc (w : World) (v : Value) (ls : List (Int × Int)) : Prop := ReadsLg w v ls ∧ ∃ a n cap, v = .slice a n cap ∧ n ≤ cap
theorem ReadsLc.ext {w w' : World} {v : Value} {ls : List (Int × Int)} (h : ReadsLc w v ls) (hb : Ext w w') : ReadsLc w' v ls := ⟨h.1.ext hb, h.2⟩
theorem ReadsLc.nil (w : World) : ReadsLc w (.slice none 0 0) [] := ⟨ReadsLg.nil w, _, _, _, rfl, Nat.le_refl _⟩
theorem ReadsLc.shape {w : World} {v : Value} {ls : List (Int × Int)} (h : ReadsLc w v ls) : ls.length ≤ 5000 ∧ ∃ a cap, v = .slice a ls.length cap ∧ ls.length ≤ cap := by
  obtain ⟨h1, a, cap, rfl⟩ := h.1.shape
  obtain ⟨a', n', cap', e, hc⟩ := h.2
  cases e
  exact ⟨h1, a, cap, rfl, hc⟩
theorem laidOut : laidOutB Try.prog = true := by kernel_rfl
theorem keyLaw103 : WideMaps.KeyLaw Try.prog 103 := deep_law_laid laidOut (m := 3) (by omega) (of_decide_eq_true (by kernel_rfl)) (by kernel_rfl) (by kernel_rfl)
theorem keyed103 : Keyed Try.prog 103 := Keyed.of_law keyLaw103
def ks (i : Nat) (e : Bool) : Lit := .string (keyBytes [.int .i64 (i : Int), .bool e])
def kv (i : Nat) (e : Bool) : Value := .agg #[.int .i64 (i : Int), .bool e]
theorem wf_small (n : Nat) (h : n < 1000000) : (Lit.int .i64 (n : Int)).wf = true := WalkArith.wf_i64 (by omega)
theorem keyType103 : Try.prog.keyType 103 = true := by kernel_rfl
theorem cells3' : Try.prog.cellsOf 3 = 1 := by kernel_rfl
theorem cells4' : Try.prog.cellsOf 4 = 1 := by kernel_rfl
theorem cells103 : Try.prog.cellsOf 103 = 2 := by kernel_rfl
theorem ks_eq (i : Nat) (e : Bool) (hi : i < 1000) : keyOf Try.prog 103 (kv i e) = some (ks i e) := by
  have h1 := wf_small i (by omega)
  obtain ⟨N, hN⟩ : ∃ N, N + 1 = Try.prog.types.size := ⟨Try.prog.types.size - 1, by kernel_rfl⟩
  unfold keyOf kv
  rw [← hN]
  simp [Try.underlying103, Try.underlying3, Try.underlying4, keyType103, Value.formed, cells103, Program.keyLits, Value.cells, cells3', cells4', h1, ks]
theorem ks_inj {i j : Nat} {e d : Bool} (hi : i < 1000) (hj : j < 1000) (h : ks i e = ks j d) : i = j ∧ e = d := by
  have h1 := ks_eq i e hi
  have h2 := ks_eq j d hj
  rw [h] at h1
  have := keyed103.inj h1 h2
  simp [kv] at this
  exact ⟨by omega, this.2⟩
theorem ks_key (i : Nat) (e : Bool) : WideAt.IsKeyLit (ks i e) := trivial
/-- How an element reads: as it is. -/
def RH (v : Value) : Option (DataW Value × List MemPlace) := some (.held v, [])
def lgI (c : List (Nat × Nat)) : List (Int × Int) := c.map fun p => ((p.1 : Int), (p.2 : Int))
def cutK (K : Kn) (i : Nat) (e : Bool) : List (Nat × Nat) := match K i e with | some k => k.2 | none => []
def updK (K : Kn) (i : Nat) (e : Bool) (x : Option (Bool × List (Nat × Nat))) : Kn := fun i' e' => if i' = i ∧ e' = e then x else K i' e'
def KIs (w : World) (D : DataW Value) (K : Kn) : Prop :=
  IsMap D ∧ (∀ i e, i < 1000 → has D (ks i e) = (K i e).isSome ∧ ∀ l c, K i e = some (l, c) → ∃ v, (∀ z, D.atKey (ks i e) z = .held (.agg #[.bool l, v])) ∧ ReadsLc w v (lgI c)) ∧
    ∀ kl, has D kl = true → ∃ i e, i < 1000 ∧ kl = ks i e
theorem KIs.empty (w : World) : KIs w (.map []) (fun _ _ => none) := ⟨isMap_empty, fun i e _ => ⟨rfl, fun l c h => by cases h⟩, fun kl h => by simp [has] at h⟩
theorem KIs.turn {w w' : World} {D : DataW Value} {K : Kn} (h : KIs w D K) (hr : ∀ v ls, ReadsLc w v ls → ReadsLc w' v ls) : KIs w' D K :=
  ⟨h.1, fun i e hi => ⟨(h.2.1 i e hi).1, fun l c hk => let ⟨v, h1, h2⟩ := (h.2.1 i e hi).2 l c hk; ⟨v, h1, hr _ _ h2⟩⟩, h.2.2⟩
theorem KIs.put {w : World} {D : DataW Value} {K : Kn} (h : KIs w D K) {i : Nat} (e : Bool) (hi : i < 1000) (l : Bool) {v : Value} {c : List (Nat × Nat)} (hv : ReadsLc w v (lgI c)) : KIs w (D.put (ks i e) (.held (.agg #[.bool l, v]))) (updK K i e (some (l, c))) := by
  refine ⟨h.1.put _ _, fun j d hj => ?_, fun kl hk => ?_⟩
  rotate_left
  · by_cases q : kl = ks i e
    · exact ⟨_, _, hi, q⟩
    · rw [has_put_other q] at hk; exact h.2.2 kl hk
  by_cases q : j = i ∧ d = e
  · obtain ⟨rfl, rfl⟩ := q
    unfold updK
    rw [if_pos ⟨rfl, rfl⟩]
    refine ⟨has_put_same h.1 (ks_key _ _) _, fun l' c' ht => ?_⟩
    cases ht
    exact ⟨v, fun z => atKey_put_same h.1 (ks_key _ _) _ _, hv⟩
  · have hne : ks j d ≠ ks i e := fun hh => q (ks_inj hj hi hh)
    unfold updK
    rw [if_neg q, has_put_other hne]
    refine ⟨(h.2.1 j d hj).1, fun l' c' ht => ?_⟩
    obtain ⟨v', h1, h2⟩ := (h.2.1 j d hj).2 l' c' ht
    exact ⟨v', fun z => by rw [atKey_put_other hne]; exact h1 z, h2⟩
theorem KIs.del {w : World} {D : DataW Value} {K : Kn} (h : KIs w D K) {i : Nat} (e : Bool) (hi : i < 1000) : KIs w (D.del (ks i e)) (updK K i e none) := by
  refine ⟨h.1.del _, fun j d hj => ?_, fun kl hk => ?_⟩
  rotate_left
  · by_cases q : kl = ks i e
    · exact ⟨_, _, hi, q⟩
    · rw [has_del_other q] at hk; exact h.2.2 kl hk
  by_cases q : j = i ∧ d = e
  · obtain ⟨rfl, rfl⟩ := q
    unfold updK
    rw [if_pos ⟨rfl, rfl⟩]
    exact ⟨has_del_same, fun l' c' ht => by cases ht⟩
  · have hne : ks j d ≠ ks i e := fun hh => q (ks_inj hj hi hh)
    unfold updK
    rw [if_neg q, has_del_other hne]
    refine ⟨(h.2.1 j d hj).1, fun l' c' ht => ?_⟩
    obtain ⟨v', h1, h2⟩ := (h.2.1 j d hj).2 l' c' ht
    exact ⟨v', fun z => by rw [atKey_del_other hne]; exact h1 z, h2⟩
/-- A list in memory stays while a map turns. -/
theorem ReadsLg.mapTurned {w w' : World} {b : Nat} {v : Value} {ls : List (Int × Int)} (h : ReadsLg w v ls) (ht : w.mapTurned w' b) : ReadsLg w' v ls := by
  have hg := ht.grown
  obtain ⟨es, ck, es', ck', hb, -⟩ := ht
  obtain ⟨hl, a, cap, rfl, h⟩ := h
  refine ⟨hl, a, cap, rfl, h.imp id ?_⟩
  rintro ⟨c, off, rfl, hc⟩
  refine ⟨c, off, rfl, fun i p hi => ?_⟩
  obtain ⟨h1, h2⟩ := hc i p hi
  have hne : c ≠ b := fun e => by
    subst e
    unfold World.cell? at h1
    rw [hb] at h1
    simp at h1
  have hlt := lt_of_cell h1
  have e : w'.heap[c]? = w.heap[c]? := hg.block c hlt (fun e => hne (Option.some.inj e))
  unfold World.cell? at h1 h2 ⊢
  dsimp only at h1 h2 ⊢
  rw [e]; exact ⟨h1, h2⟩
theorem ReadsLc.mapTurned {w w' : World} {b : Nat} {v : Value} {ls : List (Int × Int)} (h : ReadsLc w v ls) (ht : w.mapTurned w' b) : ReadsLc w' v ls := ⟨h.1.mapTurned ht, h.2⟩
/-- A map of the call's own. -/
def KMap (W : World) (b n : Nat) (K : Kn) : Prop := ∃ D, W.ownsMap Try.prog 103 RH b n D ∧ KIs W D K
theorem KMap.lt {W : World} {b n : Nat} {K : Kn} (h : KMap W b n K) : b < W.heap.size := let ⟨_, h1, _⟩ := h; h1.lt
theorem KMap.made (w : World) : KMap (w.alloc (.map #[] 0)) w.heap.size 0 (fun _ _ => none) := ⟨_, World.ownsMap_made _ _ _ _, KIs.empty _⟩
theorem KMap.more {W : World} {b n n' : Nat} {K : Kn} (h : KMap W b n K) (hn : n ≤ n') : KMap W b n' K := let ⟨D, h1, h2⟩ := h; ⟨D, h1.mono hn, h2⟩
theorem KMap.ext {W W' : World} {b n : Nat} {K : Kn} (h : KMap W b n K) (e : Ext W W') : KMap W' b n K := by
  have hlt := h.lt
  obtain ⟨D, ⟨es, ck, hh, r⟩, hm⟩ := h
  exact ⟨D, ⟨es, ck, (e.block b hlt).trans hh, r⟩, hm.turn fun v ls hv => hv.ext e⟩
theorem KIs.val {w : World} {D : DataW Value} {K : Kn} (hm : KIs w D K) (i : Nat) (e : Bool) (hi : i < 1000) : ∃ v, D.atKey (ks i e) (.held (.agg #[.bool false, .slice none 0 0])) = .held (.agg #[.bool (flK K i e), v]) ∧ ReadsLc w v (lgI (cutK K i e)) := by
  obtain ⟨h1, h2⟩ := hm.2.1 i e hi
  unfold flK cutK
  cases hK : K i e with
  | some k =>
    obtain ⟨l, c⟩ := k
    obtain ⟨u, hu, hr⟩ := h2 l c hK
    exact ⟨u, hu _, hr⟩
  | none =>
    have hf : has D (ks i e) = false := by rw [h1, hK]; rfl
    refine ⟨.slice none 0 0, ?_, ReadsLc.nil _⟩
    obtain ⟨es, rfl⟩ := hm.1
    have : es.find? (fun p => p.1.sameKey (ks i e)) = none := by
      rw [List.find?_eq_none]; intro p hp hk
      have := List.any_eq_false.1 hf p hp
      exact this hk
    simp only [DataW.atKey, this]
/-- 'v, ok := m[spot]', in any later world. -/
theorem KMap.look {W : World} {b n : Nat} {K : Kn} (h : KMap W b n K) (i : Nat) (e : Bool) (hi : i < 1000) :
    ∃ v, ReadsLc W v (lgI (cutK K i e)) ∧ ∀ W', Ext W W' → (Instr.lookup 100 (.map (some b)) (kv i e) true).run Try.prog W' = .ok (.tuple #[.agg #[.bool (flK K i e), v], .bool (K i e).isSome]) W' := by
  have hlt := h.lt
  obtain ⟨D, ⟨es, ck, hh, r⟩, hm⟩ := h
  obtain ⟨v, hv, hr⟩ := hm.val i e hi
  refine ⟨v, hr, fun W' hE => ?_⟩
  have ho' : W'.ownsMap Try.prog 103 RH b n D := ⟨es, ck, (hE.block b hlt).trans hh, r⟩
  obtain ⟨v', ps, hrun, hv'⟩ := ho'.look_ok keyed103 (t := 100) Try.underlying100 (z := .agg #[.bool false, .slice none 0 0]) (by simp [zeroValue]; rfl) (zd := .held (.agg #[.bool false, .slice none 0 0])) (zp := []) rfl (ks_eq i e hi)
  have hq := congrArg (Option.map Prod.fst) hv'
  simp only [RH, Option.map_some, Option.some.injEq] at hq
  rw [hv] at hq
  cases hq
  rw [hrun, (hm.2.1 i e hi).1]
/-- 'm[spot]'. -/
theorem KMap.look1 {W : World} {b n : Nat} {K : Kn} (h : KMap W b n K) (i : Nat) (e : Bool) (hi : i < 1000) :
    ∃ v, ReadsLc W v (lgI (cutK K i e)) ∧ ∀ W', Ext W W' → (Instr.lookup 100 (.map (some b)) (kv i e) false).run Try.prog W' = .ok (.agg #[.bool (flK K i e), v]) W' := by
  have hlt := h.lt
  obtain ⟨D, ⟨es, ck, hh, r⟩, hm⟩ := h
  obtain ⟨v, hv, hr⟩ := hm.val i e hi
  refine ⟨v, hr, fun W' hE => ?_⟩
  have ho' : W'.ownsMap Try.prog 103 RH b n D := ⟨es, ck, (hE.block b hlt).trans hh, r⟩
  obtain ⟨v', ps, hrun, hv'⟩ := ho'.lookup keyed103 (t := 100) Try.underlying100 (z := .agg #[.bool false, .slice none 0 0]) (by simp [zeroValue]; rfl) (zd := .held (.agg #[.bool false, .slice none 0 0])) (zp := []) rfl (ks_eq i e hi)
  have hq := congrArg (Option.map Prod.fst) hv'
  simp only [RH, Option.map_some, Option.some.injEq] at hq
  rw [hv] at hq
  cases hq
  exact hrun
/-- 'm[spot] = more'. -/
theorem KMap.put {W : World} {b n : Nat} {K : Kn} (h : KMap W b n K) (hn : n < 1000000) (i : Nat) (e : Bool) (hi : i < 1000) (l : Bool) {v : Value} {c : List (Nat × Nat)} (hv : ReadsLc W v (lgI c)) :
    ∃ w', (Instr.mapUpdate 100 (.map (some b)) (kv i e) (.agg #[.bool l, v])).run Try.prog W = .ok () w' ∧ KMap w' b (n + 1) (updK K i e (some (l, c))) ∧ W.mapTurned w' b := by
  obtain ⟨D, ho, hm⟩ := h
  obtain ⟨w', h1, h2, h3⟩ := ho.store keyed103 (t := 100) Try.underlying100 (by unfold maxLen; omega) (ks_eq i e hi) (val := .agg #[.bool l, v]) (d := .held (.agg #[.bool l, v])) (ps := []) rfl
  exact ⟨w', h1, ⟨_, h2, (hm.put e hi l hv).turn fun u ls hu => hu.mapTurned h3⟩, h3⟩
theorem addK_upd (K : Kn) (i : Nat) (e l : Bool) (c : List (Nat × Nat)) : addK K i e l c = updK K i e (some (match K i e with | some k => (k.1 || l, k.2) | none => (l, c))) := by
  funext i' e'
  unfold addK updK
  by_cases h : i' = i ∧ e' = e
  · rw [if_pos h, if_pos h]; cases K i e <;> rfl
  · rw [if_neg h, if_neg h]
end Go.Proofs.Ytcgheakadfjofaa
namespace Go.Proofs.Ytcgheakadfjofaa
open Go.RowKit Go.Maps Go.Shelf
set_option linter.unusedVariables false
set_option linter.unusedSimpArgs false
attribute [local go_sem] Oper.semAt_some
theorem wpList_put {ops : Array Oper} {rest : List Oper} {o : Oper} {a : Act} {Q : Exit → Act → World → Prop} (w : World)
    (hg : o.guard = none) (m x v : Operand) (hop : o.op = Op.mapUpdate 100 m x v) (b n : Nat) (K : Kn) (hm : a.eval m = .map (some b)) (hown : KMap w b n K) (hn : n < 1000000)
    (i : Nat) (e : Bool) (hi : i < 1000) (l : Bool) (u : Value) (c : List (Nat × Nat)) (hx : a.eval x = kv i e) (hv : a.eval v = .agg #[.bool l, u]) (hu : ReadsLc w u (lgI c))
    (hK : ∀ w', KMap w' b (n + 1) (updK K i e (some (l, c))) → w.mapTurned w' b → wpList Try.prog ops Q rest (a.put o.dst undef) w') :
    wpList Try.prog ops Q (o :: rest) a w := by
  refine wpList_plain hg fun K' hK' => ?_
  obtain ⟨w', hrun, r1, r2⟩ := hown.put hn i e hi l hu
  unfold Oper.wp
  simp [execOp, hop, hm, hx, hv, hrun, Result.andThen]
  exact hK' _ _ (hK w' r1 r2)
/-- A list stays while only a map's block and new blocks turn. -/
theorem ReadsLg.grown {w w' : World} {b : Nat} {v : Value} {ls : List (Int × Int)} (h : ReadsLg w v ls) (hb : ∃ es ck, w.heap[b]? = some (.map es ck)) (hg : w.grownBy w' (some b)) : ReadsLg w' v ls := by
  obtain ⟨es, ck, hb⟩ := hb
  obtain ⟨hl, a, cap, rfl, h⟩ := h
  refine ⟨hl, a, cap, rfl, h.imp id ?_⟩
  rintro ⟨c, off, rfl, hc⟩
  refine ⟨c, off, rfl, fun i p hi => ?_⟩
  obtain ⟨h1, h2⟩ := hc i p hi
  have hne : c ≠ b := fun e => by
    subst e
    unfold World.cell? at h1
    rw [hb] at h1
    simp at h1
  exact ⟨cell_grown hg hne h1, cell_grown hg hne h2⟩
theorem ReadsLc.grown {w w' : World} {b : Nat} {v : Value} {ls : List (Int × Int)} (h : ReadsLc w v ls) (hb : ∃ es ck, w.heap[b]? = some (.map es ck)) (hg : w.grownBy w' (some b)) : ReadsLc w' v ls := ⟨h.1.grown hb hg, h.2⟩
theorem KMap.blk {W : World} {b n : Nat} {K : Kn} (h : KMap W b n K) : ∃ es ck, W.heap[b]? = some (.map es ck) := let ⟨_, ⟨es, ck, hh, _⟩, _⟩ := h; ⟨es, ck, hh⟩
theorem KMap.isSome_none {K : Kn} {i : Nat} {e : Bool} (h : (K i e).isSome = false) : flK K i e = false ∧ cutK K i e = [] := by
  unfold flK cutK; cases hk : K i e with
  | none => exact ⟨rfl, rfl⟩
  | some k => rw [hk] at h; cases h
theorem addK_as (K : Kn) (i : Nat) (e l : Bool) (c : List (Nat × Nat)) : addK K i e l c = updK K i e (some (if (K i e).isSome = true then (flK K i e || l, cutK K i e) else (l, c))) := by
  rw [addK_upd]; unfold flK cutK; cases K i e <;> rfl
set_option maxRecDepth 100000 in
set_option maxHeartbeats 4000000 in
theorem add91 (b n : Nat) (K : Kn) (i : Nat) (e l : Bool) (v : Value) (c : List (Nat × Nat)) (w : World) (hm : KMap w b n K) (hn : n < 1000000) (hi : i < 1000) (hv : ReadsLc w v (lgI c)) :
    Calls Try.prog 91 #[.map (some b), kv i e, .agg #[.bool l, v]] w fun r w' => r = .returned (.tuple #[]) ∧ KMap w' b (n + 1) (addK K i e l c) ∧ w.grownBy w' (some b) := by
  obtain ⟨hl, a, cap, rfl, hcap⟩ := hv.shape
  have hml := hm.lt
  have E0 := Lib.hid (Ext.alloc (Ext.alloc (Ext.refl w) (.cells #[.int .i64 (i : Int), .bool e] 103)) (.cells #[.bool l, .slice a (lgI c).length cap] 99))
  obtain ⟨u, hu, hlook0⟩ := hm.look i e hi
  obtain ⟨hl', a', cap', rfl, hcap'⟩ := hu.shape
  have hlook := hlook0 _ E0.out
  clear hlook0
  have HG := Lib.hid (addK_as K i e l c)
  have HM := Lib.hid hm; have HV := Lib.hid hv; have HU := Lib.hid hu
  have HNO := fun h => KMap.isSome_none (K := K) (i := i) (e := e) h
  obtain ⟨nc, hnc⟩ : ∃ m, m = (lgI c).length := ⟨_, rfl⟩
  obtain ⟨nu, hnu⟩ : ∃ m, m = (lgI (cutK K i e)).length := ⟨_, rfl⟩
  rw [← hnc] at HV hl E0 hlook ⊢
  rw [← hnu] at HU hl' hlook
  clear hm hv hu hnc hnu hcap hcap'
  unfold kv at hlook ⊢
  generalize hks : (K i e).isSome = ks at *
  have HKS := Lib.hid hks
  generalize hfl : flK K i e = fl at *
  clear hks
  cases ks
  · obtain ⟨rfl, -⟩ := HNO rfl
    have HG2 := Lib.hid (show addK K i e l c = updK K i e (some (l, c)) from by rw [HG.out, if_neg (by simp)])
    clear HNO HG hfl
    go_enter Try.func91, Try.ntmps91
    go_wp2_with (first | (at_mapUpdate; refine wpList_put _ rfl _ _ _ rfl b n K rfl ?hown hn i e hi l _ c rfl rfl ?hu ?_) | fail)
    case hown => exact HM.out.ext (Ext.alloc E0.out _)
    case hu => exact HV.out.ext (Ext.alloc E0.out _)
    intro w' hk ht
    have HR := Lib.hid hk; have HT := Lib.hid (Lib.grownBy_trans (grown_ext (Ext.alloc E0.out (.cells #[.bool false, .slice a' nu cap'] 99)) (some b)) ht.grown)
    clear hk ht
    go_wp2
    go_end0
    exact ⟨rfl, by rw [HG2.out]; exact HR.out, HT.out⟩
  · have HG2 := Lib.hid (show addK K i e l c = updK K i e (some (fl || l, cutK K i e)) from by rw [HG.out, if_pos rfl])
    clear HNO HG hfl
    have hE := Lib.hid (fun (o o' o'' : Obj) => Ext.alloc (Ext.alloc (Ext.alloc (Ext.refl w) o) o') o'')
    cases fl
    · rw [Bool.false_or] at HG2
      go_enter Try.func91, Try.ntmps91
      go_wp2_with (first | (at_mapUpdate; refine wpList_put _ rfl _ _ _ rfl b n K rfl ?hown hn i e hi l _ (cutK K i e) rfl rfl ?hu ?_) | fail)
      case hown => exact HM.out.ext (hE.out _ _ _)
      case hu => exact HU.out.ext (hE.out _ _ _)
      intro w' hk ht
      have HR := Lib.hid hk; have HT := Lib.hid (Lib.grownBy_trans (grown_ext (hE.out _ _ _) (some b)) ht.grown)
      clear hk ht
      go_wp2
      go_end0
      exact ⟨rfl, by rw [HG2.out]; exact HR.out, HT.out⟩
    · rw [Bool.true_or] at HG2
      go_enter Try.func91, Try.ntmps91
      go_wp2_with (first | (at_mapUpdate; refine wpList_put _ rfl _ _ _ rfl b n K rfl ?hown hn i e hi true _ (cutK K i e) rfl rfl ?hu ?_) | fail)
      case hown => exact HM.out.ext (hE.out _ _ _)
      case hu => exact HU.out.ext (hE.out _ _ _)
      intro w' hk ht
      have HR := Lib.hid hk; have HT := Lib.hid (Lib.grownBy_trans (grown_ext (hE.out _ _ _) (some b)) ht.grown)
      clear hk ht
      go_wp2
      go_end0
      exact ⟨rfl, by rw [HG2.out]; exact HR.out, HT.out⟩
end Go.Proofs.Ytcgheakadfjofaa
namespace Go.Proofs.Ytcgheakadfjofaa
open Go.RowKit Go.Maps Go.Shelf
set_option linter.unusedVariables false
set_option linter.unusedSimpArgs false
attribute [local go_sem] Oper.semAt_some
theorem info29 : (Try.prog.info? 29).map (fun i => (i.zero, i.size, i.bytes)) = some (some (.agg #[.int .i64 0, .int .i64 0]), 2, 16) := by kernel_rfl
def flL : List (Int × Int) → List Value
  | [] => []
  | p :: l => .int .i64 p.1 :: .int .i64 p.2 :: flL l
theorem flL_length : ∀ l, (flL l).length = l.length * 2
  | [] => rfl
  | p :: l => by simp [flL, flL_length l]; omega
theorem flL_append : ∀ l m, flL (l ++ m) = flL l ++ flL m
  | [], m => rfl
  | p :: l, m => by simp [flL, flL_append l m]
theorem flL_get : ∀ (l : List (Int × Int)) (i : Nat) (p : Int × Int), l[i]? = some p → (flL l)[i * 2]? = some (.int .i64 p.1) ∧ (flL l)[i * 2 + 1]? = some (.int .i64 p.2)
  | [], i, p, h => by simp at h
  | q :: l, 0, p, h => by simp at h; subst h; simp [flL]
  | q :: l, i + 1, p, h => by
    have := flL_get l i p (by simpa using h)
    rw [show (i + 1) * 2 = i * 2 + 1 + 1 from by omega]
    simpa [flL] using this
theorem flL_inv : ∀ (l : List (Int × Int)) (j : Nat) (u : Value), (flL l)[j]? = some u → ∃ i p, l[i]? = some p ∧ (j = i * 2 ∧ u = .int .i64 p.1 ∨ j = i * 2 + 1 ∧ u = .int .i64 p.2)
  | [], j, u, h => by simp [flL] at h
  | q :: l, 0, u, h => ⟨0, q, rfl, .inl ⟨rfl, by simp [flL] at h; exact h.symm⟩⟩
  | q :: l, 1, u, h => ⟨0, q, rfl, .inr ⟨rfl, by simp [flL] at h; exact h.symm⟩⟩
  | q :: l, j + 2, u, h => by
    obtain ⟨i, p, h1, h2⟩ := flL_inv l j u (by simpa [flL] using h)
    exact ⟨i + 1, p, by simpa using h1, h2.imp (fun ⟨a, b⟩ => ⟨by omega, b⟩) (fun ⟨a, b⟩ => ⟨by omega, b⟩)⟩
theorem addr_add (b off j : Nat) : (⟨b, off, none⟩ : Addr).add j = ⟨b, off + j, none⟩ := by unfold Addr.add; split <;> simp_all
theorem ReadsLc.ofRow {w : World} {base : Nat} {v : Value} {ls : List (Int × Int)} (hl : ls.length ≤ 5000) (h : w.ownsRow base 29 2 v ls.length (flL ls)) : ReadsLc w v ls := by
  obtain ⟨h1, ⟨rfl, h2⟩ | ⟨g, cap, cur, rfl, h2, h3, h4, h5, h6, h7⟩⟩ := h
  · obtain rfl := List.eq_nil_of_length_eq_zero h2; exact ReadsLc.nil _
  · refine ⟨⟨hl, _, _, rfl, .inr ⟨g, 0, rfl, fun i p hi => ?_⟩⟩, _, _, _, rfl, h4⟩
    obtain ⟨e1, e2⟩ := flL_get ls i p hi
    have hil : i < ls.length := (List.getElem?_eq_some_iff.1 hi).1
    rw [← h7, List.getElem?_take_of_lt (by omega), Array.getElem?_toList] at e1 e2
    exact ⟨by rw [Nat.zero_add]; exact cell_of_blk h3 e1, by rw [Nat.zero_add]; exact cell_of_blk h3 e2⟩
theorem wp_appendLg {o : Oper} {a : Act} {K : Act → World → Prop} {Q : Exit → Act → World → Prop} (w : World) (s t : Operand) (ho : o.op = .call { callee := .builtin .append, args := #[s, t], argTypes := #[38, 38] })
    (c : List (Int × Int)) (ao : Option Addr) (n : Nat) (hs : a.eval s = .slice ao n n) (hn : n = c.length) (hc : ao = none ∧ n = 0 ∨ ∃ b off, ao = some ⟨b, off, none⟩ ∧ ∀ i p, c[i]? = some p → w.cell? ⟨b, off + i * 2, none⟩ = some (.int .i64 p.1) ∧ w.cell? ⟨b, off + i * 2 + 1, none⟩ = some (.int .i64 p.2)) (hl : c.length ≤ 4000)
    (B : Nat) (x : Int × Int) (hx : a.eval t = .slice (some ⟨B, 0, none⟩) 1 1) (h0 : w.cell? ⟨B, 0, none⟩ = some (.int .i64 x.1)) (h1 : w.cell? ⟨B, 1, none⟩ = some (.int .i64 x.2))
    (h : ∀ v' w', ReadsLc w' v' (c ++ [x]) → Ext w w' → K (a.put o.dst v') w') : o.wp Try.prog a w K Q := by
  subst hn
  obtain ⟨i0, hi0, hz0, hz1, hz2⟩ := info_parts info29
  have hnews : ∀ j u, (flL [x])[j]? = some u → w.cell? ((⟨B, 0, none⟩ : Addr).add j) = some u := fun j u hj => by
    rw [addr_add]
    match j, hj with
    | 0, hj => simp [flL] at hj; subst hj; exact h0
    | 1, hj => simp [flL] at hj; subst hj; exact h1
    | j + 2, hj => simp [flL] at hj
  have hone : ∀ u ∈ flL [x], u.oneCell' = true := fun u hu => by simp [flL] at hu; rcases hu with rfl | rfl <;> rfl
  have fin : ∀ v' w', w'.ownsRow w.heap.size 29 2 v' (c.length + 1) (flL c ++ flL [x]) → w.grownBy w' none → ReadsLc w' v' (c ++ [x]) ∧ Ext w w' := fun v' w' r1 r2 => by
    refine ⟨ReadsLc.ofRow (by simp; omega) (base := w.heap.size) ?_, ⟨r2.os, r2.tape, r2.output, r2.size, fun i hi => r2.block i hi (by simp)⟩⟩
    rw [flL_append, List.length_append]; exact r1
  rcases hc with ⟨rfl, hn⟩ | ⟨b, off, rfl, hc⟩
  · obtain rfl := List.eq_nil_of_length_eq_zero hn
    obtain ⟨v', w', hrun, r1, r2, _⟩ := run_append_own (P := Try.prog) w w.heap.size 38 o.type 29 i0 _ 2 16 Try.underlying38 hi0 hz0 hz1 hz2 rfl (by omega) (.slice none 0 0) 0 [] (World.ownsRow_nil w _ 29 2) ⟨B, 0, none⟩ 1 1 (flL [x]) rfl hnews hone (by unfold maxLen; omega) (by omega) (Nat.le_refl _)
    obtain ⟨f1, f2⟩ := fin v' w' r1 r2
    have hs' : a.eval s = .slice none 0 0 := hs
    unfold Oper.wp
    simp [execOp, ho, resolve, invoke, builtin, hs', hx, hrun, Result.andThen]
    exact h _ _ f1 f2
  · obtain ⟨v', w', hrun, r1, r2⟩ := run_append_arg_grows (P := Try.prog) w 38 o.type 29 i0 _ 2 16 Try.underlying38 hi0 hz0 hz1 hz2 rfl (by omega) ⟨b, off, none⟩ c.length c.length (flL c) (flL_length c) (fun j u hj => by
      rw [addr_add]
      obtain ⟨i, p, e1, ⟨rfl, rfl⟩ | ⟨rfl, rfl⟩⟩ := flL_inv c j u hj
      · exact (hc i p e1).1
      · exact (hc i p e1).2) ⟨B, 0, none⟩ 1 1 (flL [x]) rfl hnews (by omega) (by unfold maxLen; omega) (by omega)
    obtain ⟨f1, f2⟩ := fin v' w' r1 r2
    unfold Oper.wp
    simp [execOp, ho, resolve, invoke, builtin, hs, hx, hrun, Result.andThen]
    exact h _ _ f1 f2
end Go.Proofs.Ytcgheakadfjofaa
namespace Go.Proofs.Ytcgheakadfjofaa
open Go.RowKit Go.Maps Go.Shelf
set_option linter.unusedVariables false
set_option linter.unusedSimpArgs false
attribute [local go_sem] Oper.semAt_some
set_option maxRecDepth 100000 in
set_option maxHeartbeats 8000000 in
theorem note82 (b n : Nat) (K : Kn) (i j : Nat) (y : Int) (v : Value) (c : List (Nat × Nat)) (w : World) (hm : KMap w b n K) (hn : n + 2 < 1000000) (hi : i < 1000) (hj : j < 1000) (hv : ReadsLc w v (lgI c)) (hc : c.length ≤ 3000) :
    Calls Try.prog 82 #[.map (some b), .agg #[.int .i64 (i : Int), .int .i64 (j : Int), .int .i64 y], v] w fun e w' => e = .returned (.tuple #[]) ∧ KMap w' b (n + 2) (noteK K i (j, y) c) ∧ w.grownBy w' (some b) := by
  obtain ⟨hl, a, cap, rfl, hcap⟩ := hv.shape
  have hml := hm.lt
  have hbk := Lib.hid hm.blk
  have E0 := Lib.hid (Ext.alloc (Ext.refl w) (.cells #[.int .i64 (i : Int), .int .i64 (j : Int), .int .i64 y] 110))
  have D0 := Lib.hid (show (w.alloc (.cells #[.int .i64 (i : Int), .int .i64 (j : Int), .int .i64 y] 110)).cell? ⟨w.heap.size, 0, none⟩ = some (.int .i64 (i : Int)) from World.cell?_alloc_at _ _ _ _ rfl)
  have D1 := Lib.hid (show (w.alloc (.cells #[.int .i64 (i : Int), .int .i64 (j : Int), .int .i64 y] 110)).cell? ⟨w.heap.size, 1, none⟩ = some (.int .i64 (j : Int)) from World.cell?_alloc_at _ _ _ _ rfl)
  have D2 := Lib.hid (show (w.alloc (.cells #[.int .i64 (i : Int), .int .i64 (j : Int), .int .i64 y] 110)).cell? ⟨w.heap.size, 2, none⟩ = some (.int .i64 y) from World.cell?_alloc_at _ _ _ _ rfl)
  have h72 := fun W : World => waste72 i j y W
  have hnk := show noteK K i (j, y) c = addK (addK K i false (!decide (y = 0)) c) j true (!decide (y = 0)) (if y = 0 then c else c ++ [(i, j)]) from rfl
  obtain ⟨nc, hnc⟩ : ∃ m, m = (lgI c).length := ⟨_, rfl⟩
  have hlc : (lgI c).length ≤ 4000 := by unfold lgI; rw [List.length_map]; omega
  have HLC := Lib.hid hlc; have HNC := Lib.hid hnc
  have HM := Lib.hid hm; have HV0 := Lib.hid hv
  rw [← hnc] at HV0 hl hcap ⊢
  clear hm hv hnc hlc
  by_cases hy : y = 0
  · have hd : decide (y = 0) = true := decide_eq_true hy
    rw [hd, if_pos hy] at hnk
    have HN := Lib.hid hnk
    have H72 := Lib.hid (fun W : World => by have := h72 W; rw [hd] at this; exact this)
    clear hnk h72 hd hy
    have d0 := D0.out; have d1 := D1.out; have d2 := D2.out
    go_enter Try.func82, Try.ntmps82
    go_wp2_with fail
    refine (H72.out _).mono ?_
    rintro e w3 ⟨rfl, hb⟩
    have HE := Lib.hid (E0.out.trans hb)
    have D0 := Lib.hid (cell_ext hb D0.out); have D1 := Lib.hid (cell_ext hb D1.out); have D2 := Lib.hid (cell_ext hb D2.out)
    have HM := Lib.hid (HM.out.ext HE.out)
    have HV := Lib.hid (fun (X : World) (h : Hid (w3.grownBy X (some b))) => (HV0.out.ext HE.out).grown (HM.out.blk) h.out)
    have HA := Lib.hid (fun (X : World) (h : Hid (w3.grownBy X (some b))) => (HV0.out.ext HE.out).grown (HM.out.blk) h.out)
    clear d0 d1 d2 hb HV0 E0
    go_wp2
    refine wp_region_order (fun X : World => X.cell? ⟨w.heap.size, 0, none⟩ = some (.int .i64 (i : Int)) ∧ X.cell? ⟨w.heap.size, 1, none⟩ = some (.int .i64 (j : Int)) ∧ X.cell? ⟨w.heap.size, 2, none⟩ = some (.int .i64 y) ∧ Hid (World.grownBy w3 X (some b))) [0, 1, 2, 3, 4, 5, 8, 6, 7, 9, 10] (by kernel_rfl) (by kernel_rfl) (by exact ⟨D0.out, D1.out, D2.out, Lib.hid (grown_ext ((Ext.refl _).drew) (some b))⟩) (fun hHeld => ?_)
    simp only [opsIn, List.filterMap_cons, List.filterMap_nil, List.getElem?_toArray, List.getElem?_cons_succ, List.getElem?_cons_zero]
    refine' text_chunk 7 (by kernel_rfl) hHeld ?ck1 ?cr1
    case ck1 =>
      intro W hSw
      have hSW := hSw
      try dsimp only at hSW
      clear hSw
      simp only [List.take_succ_cons, List.take_zero, List.drop_succ_cons, List.drop_zero]
      repeat (go_big_quiet_step (fail))
      exact wpQuiet_nil rfl
    simp only [List.take_succ_cons, List.take_zero, List.drop_succ_cons, List.drop_zero]
    refine text_call (by rfl) (by rfl) (fun K hK => ?_)
    go_simp
    (go_at_call 72; refine (H72.out _).mono ?_; rintro e ww ⟨rfl, hb⟩; have hg := Lib.hid (Lib.grownBy_trans hHeld.2.2.2.out (grown_ext hb (some b))); have hkm := Lib.hid ((HM.out.ext (Ext.refl _).drew).ext hb))
    all_goals (try (go_wp2_with fail))
    refine hK.out _ _ (by exact ⟨cell_ext hb hHeld.1, cell_ext hb hHeld.2.1, cell_ext hb hHeld.2.2.1, hg⟩) (fun hHeld => ?_)
    clear hK K
    try simp only [Act.put, List.setIfInBounds_toArray, List.set_cons_zero, List.set_cons_succ]
    refine' text_chunk 2 (by kernel_rfl) hHeld ?ck2 ?cr2
    case ck2 =>
      intro W hSw
      have hSW := hSw
      try dsimp only at hSW
      clear hSw
      simp only [List.take_succ_cons, List.take_zero, List.drop_succ_cons, List.drop_zero]
      repeat (go_big_quiet_step (fail))
      exact wpQuiet_nil rfl
    simp only [List.take_succ_cons, List.take_zero, List.drop_succ_cons, List.drop_zero]
    refine text_call (by rfl) (by rfl) (fun K hK => ?_)
    go_simp
    (clear hb; go_at_call 91; refine (add91 b n _ i false false (.slice a nc cap) c _ hkm.out (by omega) (by omega) ?_).mono ?_; (exact HV.out _ hHeld.2.2.2); rintro e w4 ⟨rfl, hk4, hg3⟩)
    all_goals (try (go_wp2_with fail))
    refine hK.out _ _ (by exact ⟨cell_grown hg3 (by omega) hHeld.1, cell_grown hg3 (by omega) hHeld.2.1, cell_grown hg3 (by omega) hHeld.2.2.1, Lib.hid (Lib.grownBy_trans hHeld.2.2.2.out hg3)⟩) (fun hHeld => ?_)
    clear hK K
    try simp only [Act.put, List.setIfInBounds_toArray, List.set_cons_zero, List.set_cons_succ]
    refine text_done ?_
    have HK4 := Lib.hid hk4
    have HS4 := Lib.hid hHeld
    clear hk4 hHeld hkm hg hg3
    go_wp2
    refine wp_region_order (fun X : World => X.cell? ⟨w.heap.size, 0, none⟩ = some (.int .i64 (i : Int)) ∧ X.cell? ⟨w.heap.size, 1, none⟩ = some (.int .i64 (j : Int)) ∧ X.cell? ⟨w.heap.size, 2, none⟩ = some (.int .i64 y) ∧ Hid (World.grownBy w3 X (some b))) [0, 1, 2, 3, 4, 5, 8, 6, 7, 9, 10] (by kernel_rfl) (by kernel_rfl) (by exact ⟨HS4.out.1, HS4.out.2.1, HS4.out.2.2.1, Lib.hid (Lib.grownBy_trans HS4.out.2.2.2.out (grown_ext ((Ext.refl _).drew) (some b)))⟩) (fun hHeld => ?_)
    simp only [opsIn, List.filterMap_cons, List.filterMap_nil, List.getElem?_toArray, List.getElem?_cons_succ, List.getElem?_cons_zero]
    refine' text_chunk 7 (by kernel_rfl) hHeld ?ck3 ?cr3
    case ck3 =>
      intro W hSw
      have hSW := hSw
      try dsimp only at hSW
      clear hSw
      simp only [List.take_succ_cons, List.take_zero, List.drop_succ_cons, List.drop_zero]
      repeat (go_big_quiet_step (fail))
      exact wpQuiet_nil rfl
    simp only [List.take_succ_cons, List.take_zero, List.drop_succ_cons, List.drop_zero]
    refine text_call (by rfl) (by rfl) (fun K hK => ?_)
    go_simp
    (go_at_call 72; refine (H72.out _).mono ?_; rintro e ww ⟨rfl, hb⟩; have hg := Lib.hid (Lib.grownBy_trans hHeld.2.2.2.out (grown_ext hb (some b))); have hkm := Lib.hid ((HK4.out.ext (Ext.refl _).drew).ext hb))
    all_goals (try (go_wp2_with fail))
    refine hK.out _ _ (by exact ⟨cell_ext hb hHeld.1, cell_ext hb hHeld.2.1, cell_ext hb hHeld.2.2.1, hg⟩) (fun hHeld => ?_)
    clear hK K
    try simp only [Act.put, List.setIfInBounds_toArray, List.set_cons_zero, List.set_cons_succ]
    refine' text_chunk 2 (by kernel_rfl) hHeld ?ck4 ?cr4
    case ck4 =>
      intro W hSw
      have hSW := hSw
      try dsimp only at hSW
      clear hSw
      simp only [List.take_succ_cons, List.take_zero, List.drop_succ_cons, List.drop_zero]
      repeat (go_big_quiet_step (fail))
      exact wpQuiet_nil rfl
    simp only [List.take_succ_cons, List.take_zero, List.drop_succ_cons, List.drop_zero]
    refine text_call (by rfl) (by rfl) (fun K hK => ?_)
    go_simp
    (clear hb; go_at_call 91; refine (add91 b (n + 1) _ j true false (.slice a nc cap) c _ hkm.out (by omega) (by omega) ?_).mono ?_; (exact HV.out _ hHeld.2.2.2); rintro e w5 ⟨rfl, hk5, hg3⟩)
    all_goals (try (go_wp2_with fail))
    refine hK.out _ _ (by exact ⟨cell_grown hg3 (by omega) hHeld.1, cell_grown hg3 (by omega) hHeld.2.1, cell_grown hg3 (by omega) hHeld.2.2.1, Lib.hid (Lib.grownBy_trans hHeld.2.2.2.out hg3)⟩) (fun hHeld => ?_)
    clear hK K
    try simp only [Act.put, List.setIfInBounds_toArray, List.set_cons_zero, List.set_cons_succ]
    refine text_done ?_
    have HK5 := Lib.hid hk5
    have HS5 := Lib.hid hHeld
    clear hk5 hHeld hkm hg hg3
    go_wp2
    go_end0
    exact ⟨rfl, by rw [HN.out]; exact HK5.out, Lib.grownBy_trans (grown_ext HE.out (some b)) HS5.out.2.2.2.out⟩
  · have hd : decide (y = 0) = false := decide_eq_false hy
    rw [hd, if_neg hy] at hnk
    have HN := Lib.hid hnk
    have H72 := Lib.hid (fun W : World => by have := h72 W; rw [hd] at this; exact this)
    clear hnk h72 hd hy
    have d0 := D0.out; have d1 := D1.out; have d2 := D2.out
    go_enter Try.func82, Try.ntmps82
    go_wp2_with fail
    refine (H72.out _).mono ?_
    rintro e w2 ⟨rfl, hb⟩
    have HEB := Lib.hid (E0.out.trans hb)
    have C0 := Lib.hid (cell_ext hb D0.out); have C1 := Lib.hid (cell_ext hb D1.out); have C2 := Lib.hid (cell_ext hb D2.out)
    clear d0 d1 d2 hb E0 D0 D1 D2
    have hca : (nc : Int) ≤ (cap : Int) := by omega
    have HSH := Lib.hid (fun (X : World) (h : Ext w X) => show a = none ∧ nc = 0 ∨ ∃ b off, a = some ⟨b, off, none⟩ ∧ ∀ i p, (lgI c)[i]? = some p → X.cell? ⟨b, off + i * 2, none⟩ = some (.int .i64 p.1) ∧ X.cell? ⟨b, off + i * 2 + 1, none⟩ = some (.int .i64 p.2) from by
      obtain ⟨_, a', cap', e, hh⟩ := (HV0.out.ext h).1
      cases e
      rcases hh with ⟨rfl, h0⟩ | hh
      · exact .inl ⟨rfl, by rw [HNC.out, h0]; rfl⟩
      · exact .inr hh)
    go_wp2
    refine wp_region_order (fun X : World => X.cell? ⟨w.heap.size, 0, none⟩ = some (.int .i64 (i : Int)) ∧ X.cell? ⟨w.heap.size, 1, none⟩ = some (.int .i64 (j : Int)) ∧ X.cell? ⟨w.heap.size, 2, none⟩ = some (.int .i64 y) ∧ Hid (Ext w X)) [0, 1, 2, 3, 4, 5, 6, 7, 8, 9, 10] (by kernel_rfl) (by kernel_rfl) (by exact ⟨C0.out, C1.out, C2.out, Lib.hid (Ext.drew HEB.out)⟩) (fun hHeld => ?_)
    simp only [opsIn, List.filterMap_cons, List.filterMap_nil, List.getElem?_toArray, List.getElem?_cons_succ, List.getElem?_cons_zero]
    refine' text_chunk 2 (by kernel_rfl) hHeld ?ck5 ?cr5
    case ck5 =>
      intro W hSw
      have hSW := hSw
      try dsimp only at hSW
      clear hSw
      simp only [List.take_succ_cons, List.take_zero, List.drop_succ_cons, List.drop_zero]
      repeat (go_big_quiet_step (fail))
      exact wpQuiet_nil rfl
    simp only [List.take_succ_cons, List.take_zero, List.drop_succ_cons, List.drop_zero]
    refine' text_take (by rfl) (by rfl) ?ck6 ?cr6
    case ck6 => (intro W hSw; (try dsimp only at hSw); go_simp; all_goals with_reducible rfl)
    try simp only [Act.put, List.setIfInBounds_toArray, List.set_cons_zero, List.set_cons_succ]
    refine' text_chunk 1 (by kernel_rfl) hHeld ?ck7 ?cr7
    case ck7 =>
      intro W hSw
      have hSW := hSw
      try dsimp only at hSW
      clear hSw
      simp only [List.take_succ_cons, List.take_zero, List.drop_succ_cons, List.drop_zero]
      repeat (go_big_quiet_step (fail))
      exact wpQuiet_nil rfl
    simp only [List.take_succ_cons, List.take_zero, List.drop_succ_cons, List.drop_zero]
    refine' text_take (by rfl) (by rfl) ?ck8 ?cr8
    case ck8 => (intro W hSw; (try dsimp only at hSw); go_simp; all_goals with_reducible rfl)
    try simp only [Act.put, List.setIfInBounds_toArray, List.set_cons_zero, List.set_cons_succ]
    refine' text_chunk 3 (by kernel_rfl) hHeld ?ck9 ?cr9
    case ck9 =>
      intro W hSw
      have hSW := hSw
      try dsimp only at hSW
      clear hSw
      simp only [List.take_succ_cons, List.take_zero, List.drop_succ_cons, List.drop_zero]
      repeat (go_big_quiet_step (fail))
      exact wpQuiet_nil rfl
    simp only [List.take_succ_cons, List.take_zero, List.drop_succ_cons, List.drop_zero]
    refine text_call (by rfl) (by rfl) (fun K hK => ?_)
    go_simp
    all_goals (try (go_wp2_with fail))
    refine hK.out _ _ (by exact ⟨cell_ext (Ext.alloc (Ext.refl _) _) hHeld.1, cell_ext (Ext.alloc (Ext.refl _) _) hHeld.2.1, cell_ext (Ext.alloc (Ext.refl _) _) hHeld.2.2.1, Lib.hid (Ext.alloc hHeld.2.2.2.out _)⟩) (fun hHeld => ?_)
    clear hK K
    try simp only [Act.put, List.setIfInBounds_toArray, List.set_cons_zero, List.set_cons_succ]
    refine text_call_more (by rfl) (by rfl) (fun K' hK => ?_)
    refine wp_appendLg _ (.tmp 16) (.tmp 19) rfl (lgI c) a nc rfl HNC.out (HSH.out _ hHeld.2.2.2.out) HLC.out _ ((i : Int), (j : Int)) rfl (show (w2.alloc (.cells #[.int .i64 (i : Int), .int .i64 (j : Int)] 29)).cell? ⟨w2.heap.size, 0, none⟩ = some (.int .i64 (i : Int)) from World.cell?_alloc_at _ _ _ _ rfl) (show (w2.alloc (.cells #[.int .i64 (i : Int), .int .i64 (j : Int)] 29)).cell? ⟨w2.heap.size, 1, none⟩ = some (.int .i64 (j : Int)) from World.cell?_alloc_at _ _ _ _ rfl) ?_
    intro v2 w3 hr3 hb3
    obtain ⟨hl2, a2, cap2, rfl, -⟩ := hr3.shape
    obtain ⟨n2, hn2⟩ : ∃ m, m = (lgI c ++ [((i : Int), (j : Int))]).length := ⟨_, rfl⟩
    rw [← hn2] at hr3 hl2 ⊢
    clear hn2
    refine hK.out (fun X : World => X.cell? ⟨w.heap.size, 0, none⟩ = some (.int .i64 (i : Int)) ∧ X.cell? ⟨w.heap.size, 1, none⟩ = some (.int .i64 (j : Int)) ∧ X.cell? ⟨w.heap.size, 2, none⟩ = some (.int .i64 y) ∧ Hid (Ext w X) ∧ Hid (ReadsLc X (.slice a2 n2 cap2) (lgI c ++ [((i : Int), (j : Int))]))) _ _ (fun X h => ⟨h.1, h.2.1, h.2.2.1, h.2.2.2.1⟩) (by exact ⟨cell_ext hb3 hHeld.1, cell_ext hb3 hHeld.2.1, cell_ext hb3 hHeld.2.2.1, Lib.hid (Ext.trans hHeld.2.2.2.out hb3), Lib.hid hr3⟩) (fun hHeld => ?_)
    clear hK K' hr3 hb3
    try simp only [Act.put, List.setIfInBounds_toArray, List.set_cons_zero, List.set_cons_succ]
    refine' text_chunk 1 (by kernel_rfl) hHeld ?ck10 ?cr10
    case ck10 =>
      intro W hSw
      have hSW := hSw
      try dsimp only at hSW
      clear hSw
      simp only [List.take_succ_cons, List.take_zero, List.drop_succ_cons, List.drop_zero]
      repeat (go_big_quiet_step (fail))
      exact wpQuiet_nil rfl
    simp only [List.take_succ_cons, List.take_zero, List.drop_succ_cons, List.drop_zero]
    refine text_done ?_
    have HE := Lib.hid hHeld.2.2.2.1.out
    have D0 := Lib.hid hHeld.1; have D1 := Lib.hid hHeld.2.1; have D2 := Lib.hid hHeld.2.2.1
    have HM := Lib.hid (HM.out.ext HE.out)
    have HR3 := hHeld.2.2.2.2
    have HV := Lib.hid (fun (X : World) (h : Hid (w3.grownBy X (some b))) => (HV0.out.ext HE.out).grown (HM.out.blk) h.out)
    have hcc : lgI c ++ [((i : Int), (j : Int))] = lgI (c ++ [(i, j)]) := by unfold lgI; rw [List.map_append]; rfl
    rw [hcc] at HR3
    have HA := Lib.hid (fun (X : World) (h : Hid (w3.grownBy X (some b))) => (HR3.out).grown (HM.out.blk) h.out)
    clear hHeld hcc HV0 HSH HEB C0 C1 C2 HR3
    go_wp2
    refine wp_region_order (fun X : World => X.cell? ⟨w.heap.size, 0, none⟩ = some (.int .i64 (i : Int)) ∧ X.cell? ⟨w.heap.size, 1, none⟩ = some (.int .i64 (j : Int)) ∧ X.cell? ⟨w.heap.size, 2, none⟩ = some (.int .i64 y) ∧ Hid (World.grownBy w3 X (some b))) [0, 1, 2, 3, 4, 5, 8, 6, 7, 9, 10] (by kernel_rfl) (by kernel_rfl) (by exact ⟨D0.out, D1.out, D2.out, Lib.hid (grown_ext ((Ext.refl _).drew) (some b))⟩) (fun hHeld => ?_)
    simp only [opsIn, List.filterMap_cons, List.filterMap_nil, List.getElem?_toArray, List.getElem?_cons_succ, List.getElem?_cons_zero]
    refine' text_chunk 7 (by kernel_rfl) hHeld ?ck11 ?cr11
    case ck11 =>
      intro W hSw
      have hSW := hSw
      try dsimp only at hSW
      clear hSw
      simp only [List.take_succ_cons, List.take_zero, List.drop_succ_cons, List.drop_zero]
      repeat (go_big_quiet_step (fail))
      exact wpQuiet_nil rfl
    simp only [List.take_succ_cons, List.take_zero, List.drop_succ_cons, List.drop_zero]
    refine text_call (by rfl) (by rfl) (fun K hK => ?_)
    go_simp
    (go_at_call 72; refine (H72.out _).mono ?_; rintro e ww ⟨rfl, hb⟩; have hg := Lib.hid (Lib.grownBy_trans hHeld.2.2.2.out (grown_ext hb (some b))); have hkm := Lib.hid ((HM.out.ext (Ext.refl _).drew).ext hb))
    all_goals (try (go_wp2_with fail))
    refine hK.out _ _ (by exact ⟨cell_ext hb hHeld.1, cell_ext hb hHeld.2.1, cell_ext hb hHeld.2.2.1, hg⟩) (fun hHeld => ?_)
    clear hK K
    try simp only [Act.put, List.setIfInBounds_toArray, List.set_cons_zero, List.set_cons_succ]
    refine' text_chunk 2 (by kernel_rfl) hHeld ?ck12 ?cr12
    case ck12 =>
      intro W hSw
      have hSW := hSw
      try dsimp only at hSW
      clear hSw
      simp only [List.take_succ_cons, List.take_zero, List.drop_succ_cons, List.drop_zero]
      repeat (go_big_quiet_step (fail))
      exact wpQuiet_nil rfl
    simp only [List.take_succ_cons, List.take_zero, List.drop_succ_cons, List.drop_zero]
    refine text_call (by rfl) (by rfl) (fun K hK => ?_)
    go_simp
    (clear hb; go_at_call 91; refine (add91 b n _ i false true (.slice a nc cap) c _ hkm.out (by omega) (by omega) ?_).mono ?_; (exact HV.out _ hHeld.2.2.2); rintro e w4 ⟨rfl, hk4, hg3⟩)
    all_goals (try (go_wp2_with fail))
    refine hK.out _ _ (by exact ⟨cell_grown hg3 (by omega) hHeld.1, cell_grown hg3 (by omega) hHeld.2.1, cell_grown hg3 (by omega) hHeld.2.2.1, Lib.hid (Lib.grownBy_trans hHeld.2.2.2.out hg3)⟩) (fun hHeld => ?_)
    clear hK K
    try simp only [Act.put, List.setIfInBounds_toArray, List.set_cons_zero, List.set_cons_succ]
    refine text_done ?_
    have HK4 := Lib.hid hk4
    have HS4 := Lib.hid hHeld
    clear hk4 hHeld hkm hg hg3
    go_wp2
    refine wp_region_order (fun X : World => X.cell? ⟨w.heap.size, 0, none⟩ = some (.int .i64 (i : Int)) ∧ X.cell? ⟨w.heap.size, 1, none⟩ = some (.int .i64 (j : Int)) ∧ X.cell? ⟨w.heap.size, 2, none⟩ = some (.int .i64 y) ∧ Hid (World.grownBy w3 X (some b))) [0, 1, 2, 3, 4, 5, 8, 6, 7, 9, 10] (by kernel_rfl) (by kernel_rfl) (by exact ⟨HS4.out.1, HS4.out.2.1, HS4.out.2.2.1, Lib.hid (Lib.grownBy_trans HS4.out.2.2.2.out (grown_ext ((Ext.refl _).drew) (some b)))⟩) (fun hHeld => ?_)
    simp only [opsIn, List.filterMap_cons, List.filterMap_nil, List.getElem?_toArray, List.getElem?_cons_succ, List.getElem?_cons_zero]
    refine' text_chunk 7 (by kernel_rfl) hHeld ?ck13 ?cr13
    case ck13 =>
      intro W hSw
      have hSW := hSw
      try dsimp only at hSW
      clear hSw
      simp only [List.take_succ_cons, List.take_zero, List.drop_succ_cons, List.drop_zero]
      repeat (go_big_quiet_step (fail))
      exact wpQuiet_nil rfl
    simp only [List.take_succ_cons, List.take_zero, List.drop_succ_cons, List.drop_zero]
    refine text_call (by rfl) (by rfl) (fun K hK => ?_)
    go_simp
    (go_at_call 72; refine (H72.out _).mono ?_; rintro e ww ⟨rfl, hb⟩; have hg := Lib.hid (Lib.grownBy_trans hHeld.2.2.2.out (grown_ext hb (some b))); have hkm := Lib.hid ((HK4.out.ext (Ext.refl _).drew).ext hb))
    all_goals (try (go_wp2_with fail))
    refine hK.out _ _ (by exact ⟨cell_ext hb hHeld.1, cell_ext hb hHeld.2.1, cell_ext hb hHeld.2.2.1, hg⟩) (fun hHeld => ?_)
    clear hK K
    try simp only [Act.put, List.setIfInBounds_toArray, List.set_cons_zero, List.set_cons_succ]
    refine' text_chunk 2 (by kernel_rfl) hHeld ?ck14 ?cr14
    case ck14 =>
      intro W hSw
      have hSW := hSw
      try dsimp only at hSW
      clear hSw
      simp only [List.take_succ_cons, List.take_zero, List.drop_succ_cons, List.drop_zero]
      repeat (go_big_quiet_step (fail))
      exact wpQuiet_nil rfl
    simp only [List.take_succ_cons, List.take_zero, List.drop_succ_cons, List.drop_zero]
    refine text_call (by rfl) (by rfl) (fun K hK => ?_)
    go_simp
    (clear hb; go_at_call 91; refine (add91 b (n + 1) _ j true true (.slice a2 n2 cap2) (c ++ [(i, j)]) _ hkm.out (by omega) (by omega) ?_).mono ?_; (exact HA.out _ hHeld.2.2.2); rintro e w5 ⟨rfl, hk5, hg3⟩)
    all_goals (try (go_wp2_with fail))
    refine hK.out _ _ (by exact ⟨cell_grown hg3 (by omega) hHeld.1, cell_grown hg3 (by omega) hHeld.2.1, cell_grown hg3 (by omega) hHeld.2.2.1, Lib.hid (Lib.grownBy_trans hHeld.2.2.2.out hg3)⟩) (fun hHeld => ?_)
    clear hK K
    try simp only [Act.put, List.setIfInBounds_toArray, List.set_cons_zero, List.set_cons_succ]
    refine text_done ?_
    have HK5 := Lib.hid hk5
    have HS5 := Lib.hid hHeld
    clear hk5 hHeld hkm hg hg3
    go_wp2
    go_end0
    exact ⟨rfl, by rw [HN.out]; exact HK5.out, Lib.grownBy_trans (grown_ext HE.out (some b)) HS5.out.2.2.2.out⟩
end Go.Proofs.Ytcgheakadfjofaa
