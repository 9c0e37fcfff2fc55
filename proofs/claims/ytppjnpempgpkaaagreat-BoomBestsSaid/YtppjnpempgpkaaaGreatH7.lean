/- A list of ways with their edges, of the call's own. Sides taken out of the set, as the program does it and as the plain mathematics does. ways, by its contract. -/
import Derived.Test.YtppjnpempgpkaaaGreatF1
import Derived.Test.YtppjnpempgpkaaaGreatF5
import Derived.Test.YtppjnpempgpkaaaGreatH4
import Derived.Test.YtppjnpempgpkaaaGreatG2
import Derived.Test.YtppjnpempgpkaaaGreatE3
import Derived.Laws.CopyOwn
import Derived.Test.YtppjnpempgpkaaaGreatN3
namespace Go.Proofs.YtppjnpempgpkaaaGreat
open Go.RowKit Go.Shelf
set_option linter.unusedVariables false
set_option linter.unusedSimpArgs false
def wayO (ps : List (Value × Int)) : List Value := ps.flatMap fun s => [s.1, .int .i64 s.2]
theorem wayO_len (ps : List (Value × Int)) : (wayO ps).length = ps.length * 2 := by
  induction ps with
  | nil => rfl
  | cons s ps ih => unfold wayO at ih ⊢; rw [List.flatMap_cons, List.length_append, ih]; simp; omega
theorem wayO_snoc (ps : List (Value × Int)) (s : Value × Int) : wayO (ps ++ [s]) = wayO ps ++ [s.1, .int .i64 s.2] := by unfold wayO; rw [List.flatMap_append]; rfl
theorem wayO_at : ∀ (ps : List (Value × Int)) (i : Nat) (s : Value × Int), ps[i]? = some s → (wayO ps)[i * 2]? = some s.1 ∧ (wayO ps)[i * 2 + 1]? = some (.int .i64 s.2)
  | [], i, s, h => by simp at h
  | p :: ps, 0, s, h => by simp at h; subst h; exact ⟨rfl, rfl⟩
  | p :: ps, i + 1, s, h => by
    have := wayO_at ps i s (by simpa using h)
    rw [show (i + 1) * 2 = i * 2 + 1 + 1 from by omega]
    exact this
/-- A list of ways of the call's own. -/
structure WaysO (X : World) (base : Nat) (v : Value) (ps : List (Value × Int)) (L : List (List Nat × Option Nat)) : Prop where
  own : X.ownsRow base 60 2 v L.length (wayO ps)
  len : ps.length = L.length
  row : ∀ (i : Nat) (s : Value × Int) (w : List Nat × Option Nat), ps[i]? = some s → L[i]? = some w → Row3 X s.1 (natI w.1) ∧ s.2 = oI w.2
theorem WaysO.nil (X : World) (base : Nat) : WaysO X base (.slice none 0 0) [] [] := ⟨World.ownsRow_nil _ _ _ _, rfl, fun i s w h => by simp at h⟩
theorem WaysO.shape {X : World} {base : Nat} {v : Value} {ps : List (Value × Int)} {L : List (List Nat × Option Nat)} (h : WaysO X base v ps L) : ∃ a cap, v = .slice a L.length cap := by
  obtain ⟨_, ⟨rfl, h0⟩ | ⟨g, cap, cur, rfl, -⟩⟩ := h.own
  · exact ⟨none, 0, by rw [h0]⟩
  · exact ⟨_, cap, rfl⟩
theorem WaysO.stay {X Y : World} {base : Nat} {v : Value} {ps : List (Value × Int)} {L : List (List Nat × Option Nat)} (h : WaysO X base v ps L) (hs : Stay3 X Y) (hb : ∀ g, v.ownBlock = some g → Y.heap[g]? = X.heap[g]?) : WaysO Y base v ps L := by
  refine ⟨⟨h.own.1, h.own.2.imp id ?_⟩, h.len, fun i s w h1 h2 => ⟨(h.row i s w h1 h2).1.stay hs, (h.row i s w h1 h2).2⟩⟩
  rintro ⟨g, cap, cur, rfl, h1, h2, r⟩
  exact ⟨g, cap, cur, rfl, h1, (hb g rfl).trans h2, r⟩
theorem WaysO.lt {X : World} {base : Nat} {v : Value} {ps : List (Value × Int)} {L : List (List Nat × Option Nat)} (h : WaysO X base v ps L) {g : Nat} (hg : v.ownBlock = some g) : g < X.heap.size ∧ base ≤ g := by
  obtain ⟨_, ⟨rfl, h0⟩ | ⟨g', cap, cur, rfl, h1, h2, -⟩⟩ := h.own
  · cases hg
  · have : g' = g := by simpa [Value.ownBlock] using hg
    subst this
    exact ⟨lt_of_blk h2, h1⟩
theorem WaysO.ext {X Y : World} {base : Nat} {v : Value} {ps : List (Value × Int)} {L : List (List Nat × Option Nat)} (h : WaysO X base v ps L) (hE : Ext X Y) : WaysO Y base v ps L := h.stay (Stay3.ext hE) (fun g hg => hE.block g (h.lt hg).1)
theorem WaysO.blk {X : World} {base : Nat} {v : Value} {ps : List (Value × Int)} {L : List (List Nat × Option Nat)} (h : WaysO X base v ps L) {g : Nat} (hg : v.ownBlock = some g) : ∃ cur : Array Value, X.heap[g]? = some (Obj.cells cur 60 (0, 0)) := by
  obtain ⟨_, ⟨rfl, h0⟩ | ⟨g', cap, cur, rfl, h1, h2, -⟩⟩ := h.own
  · cases hg
  · have : g' = g := by simpa [Value.ownBlock] using hg
    subst this
    exact ⟨cur, h2⟩
theorem WaysO.turn {X Y : World} {base : Nat} {v : Value} {ps : List (Value × Int)} {L : List (List Nat × Option Nat)} (h : WaysO X base v ps L) {b2 : Nat} {row : Option Nat} (hg : X.grownBy Y row) (hr : ∀ r, row = some r → b2 ≤ r ∧ ∃ o : Obj, X.heap[r]? = some o ∧ o.isCells = false) : WaysO Y base v ps L :=
  h.stay (Stay3.turn hg hr) (fun g hgb => by obtain ⟨cur, hc⟩ := h.blk hgb; rw [hc]; exact cells_turn hc hg hr)
theorem WaysO.set {X : World} {base : Nat} {v : Value} {ps : List (Value × Int)} {L : List (List Nat × Option Nat)} (h : WaysO X base v ps L) {b o : Nat} {u : Value} {cs : Array Value} {t : TypeId} {fr : Nat × Nat} (hb : X.heap[b]? = some (.cells cs t fr)) (ht : t ≠ 3) (hne : v.ownBlock ≠ some b) : WaysO (X.setCell ⟨b, o, none⟩ u) base v ps L :=
  h.stay (Stay3.set (not3 hb ht)) (fun g hg => other_blk (grown_set X b o u) (fun e => hne (by rw [hg, e])) (h.lt hg).1)
theorem WaysO.set' {X : World} {base : Nat} {v : Value} {ps : List (Value × Int)} {L : List (List Nat × Option Nat)} (h : WaysO X base v ps L) {b o : Nat} {u : Value} {cs : Array Value} {t : TypeId} {fr : Nat × Nat} (hb : X.heap[b]? = some (.cells cs t fr)) (ht : t ≠ 3) (ht2 : t ≠ 60) : WaysO (X.setCell ⟨b, o, none⟩ u) base v ps L :=
  h.set hb ht (fun e => by obtain ⟨cur, hc⟩ := h.blk e; rw [hb] at hc; cases hc; exact ht2 rfl)
theorem WaysO.at {X : World} {base : Nat} {v : Value} {ps : List (Value × Int)} {L : List (List Nat × Option Nat)} (h : WaysO X base v ps L) {i : Nat} (hi : i < L.length) :
    ∃ g cap s w, v = .slice (some ⟨g, 0, none⟩) L.length cap ∧ X.cell? ⟨g, i * 2, none⟩ = some s ∧ X.cell? ⟨g, i * 2 + 1, none⟩ = some (.int .i64 (oI w.2)) ∧ L[i]? = some w ∧ Row3 X s (natI w.1) := by
  obtain ⟨_, ⟨rfl, h0⟩ | ⟨g, cap, cur, rfl, h1, h2, h3, h4, h5, h6⟩⟩ := h.own
  · omega
  · obtain ⟨s, hs⟩ := get_some (xs := ps) (k := i) (by rw [h.len]; exact hi)
    obtain ⟨w, hw⟩ := get_some hi
    obtain ⟨e1, e2⟩ := wayO_at ps i s hs
    rw [← h6, List.getElem?_take_of_lt (by omega), Array.getElem?_toList] at e1 e2
    obtain ⟨r1, r2⟩ := h.row i s w hs hw
    rw [r2] at e2
    exact ⟨g, cap, s.1, w, rfl, cell_of_blk h2 e1, cell_of_blk h2 e2, hw, r1⟩
theorem appendO_run {X : World} {base : Nat} {v : Value} {ps : List (Value × Int)} {L : List (List Nat × Option Nat)} (h : WaysO X base v ps L) (hB : base ≤ X.heap.size) (hl : L.length ≤ 1000) {s : Value} {w : List Nat} {o : Option Nat} (hr : Row3 X s (natI w)) (b : Nat) (h0 : X.cell? ⟨b, 0, none⟩ = some s) (h1 : X.cell? ⟨b, 1, none⟩ = some (.int .i64 (oI o))) (ty : TypeId) :
    ∃ v' X', (Builtin.append_ #[36, 36] ty #[v, .slice (some ⟨b, 0, none⟩) 1 1]).run Tryz.prog X = .ok v' X' ∧ WaysO X' base v' (ps ++ [(s, oI o)]) (L ++ [(w, o)]) ∧ X.grownBy X' v.ownBlock ∧ Stay3 X X' ∧ ∃ g cap, v' = .slice (some ⟨g, 0, none⟩) (L.length + 1) cap := by
  obtain ⟨i0, hi0, hz0, hz1, hz2⟩ := info_parts infoWay
  obtain ⟨q1, q2, g, cap, cur, rfl, q3, q4, q5⟩ := hr
  have hrow : Row3 X (.slice (some ⟨g, 0, none⟩) (natI w).length cap) (natI w) := ⟨q1, q2, g, cap, cur, rfl, q3, q4, q5⟩
  obtain ⟨v', X', hrun, r1, r2, r3⟩ := run_append_own (P := Tryz.prog) X base 36 ty 60 i0 _ 2 32 Tryz.underlying36 hi0 hz0 hz1 hz2 rfl (by decide) v _ _ h.own ⟨b, 0, none⟩ 1 1 [.slice (some ⟨g, 0, none⟩) (natI w).length cap, .int .i64 (oI o)] rfl (fun j u hj => by
    match j, hj with
    | 0, hj => simp at hj; subst hj; rw [addr_add]; exact h0
    | 1, hj => simp at hj; subst hj; rw [addr_add]; exact h1
    | j + 2, hj => simp at hj) (fun u hu => by simp at hu; rcases hu with rfl | rfl <;> rfl) (by unfold maxLen; omega) (by omega) hB
  have hst : Stay3 X X' := Stay3.grown r2 fun b' e => by obtain ⟨cur', hc⟩ := h.blk e; exact not3 hc (by decide)
  refine ⟨v', X', hrun, ⟨?_, by simp [h.len], fun i s' w' hs hw => ?_⟩, r2, hst, ?_⟩
  · rw [wayO_snoc, List.length_append]; exact r1
  · by_cases e : i < ps.length
    · rw [List.getElem?_append_left e] at hs
      rw [List.getElem?_append_left (by rw [← h.len]; exact e)] at hw
      exact ⟨(h.row i s' w' hs hw).1.stay hst, (h.row i s' w' hs hw).2⟩
    · rw [List.getElem?_append_right (by omega)] at hs
      rw [List.getElem?_append_right (by rw [← h.len]; omega)] at hw
      have hi : i - ps.length = 0 := by have := (List.getElem?_eq_some_iff.1 hs).1; simp at this; omega
      rw [hi] at hs
      rw [← h.len, hi] at hw
      simp at hs hw
      subst hs hw
      exact ⟨hrow.stay hst, rfl⟩
  · obtain ⟨_, ⟨rfl, h0⟩ | ⟨g', cap', cur', rfl, -⟩⟩ := r1
    · omega
    · exact ⟨g', cap', rfl⟩
end Go.Proofs.YtppjnpempgpkaaaGreat
namespace Go.Proofs.YtppjnpempgpkaaaGreat
open Go.RowKit Go.Shelf
set_option linter.unusedVariables false
set_option linter.unusedSimpArgs false
theorem delL_congr : ∀ (L : List Sd) {F F' : List Lk}, (∀ l, l ∈ F ↔ l ∈ F') → ∀ l, l ∈ delL F L ↔ l ∈ delL F' L
  | [], F, F', h => h
  | s :: L, F, F', h => by
    intro l
    show l ∈ delL (F.filter fun x => !decide (x = lkS s)) L ↔ l ∈ delL (F'.filter fun x => !decide (x = lkS s)) L
    exact delL_congr L (fun l => by simp [List.mem_filter, h l]) l
theorem del_one {F : List Sd} (hnd : F.Nodup) (s : Sd) : ∀ l, l ∈ ((F.map lkS).filter fun x => !decide (x = lkS s)) ↔ l ∈ (F.erase s).map lkS := by
  intro l
  rw [List.mem_filter, List.mem_map, List.mem_map]
  constructor
  · rintro ⟨⟨t, h3, rfl⟩, h4⟩
    have h5 : lkS t ≠ lkS s := by simpa using h4
    exact ⟨t, (List.Nodup.mem_erase_iff hnd).2 ⟨fun e => h5 (by rw [e]), h3⟩, rfl⟩
  · rintro ⟨t, h3, rfl⟩
    obtain ⟨h4, h5⟩ := (List.Nodup.mem_erase_iff hnd).1 h3
    exact ⟨⟨t, h5, rfl⟩, by simpa using fun e => h4 (lkS_inj e)⟩
theorem del_all : ∀ (L : List Sd) {F : List Sd}, F.Nodup → ∀ l, l ∈ delL (F.map lkS) L ↔ l ∈ (takeF F L).map lkS
  | [], F, _ => fun l => Iff.rfl
  | s :: L, F, h => by
    intro l
    show l ∈ delL ((F.map lkS).filter fun x => !decide (x = lkS s)) L ↔ l ∈ (takeF (F.erase s) L).map lkS
    rw [delL_congr L (del_one h s) l]
    exact del_all L (h.erase s) l
end Go.Proofs.YtppjnpempgpkaaaGreat
namespace Go.Proofs.YtppjnpempgpkaaaGreat
open Go.RowKit Go.Shelf
set_option linter.unusedVariables false
set_option linter.unusedSimpArgs false
attribute [local go_sem] Oper.semAt_some
def FrWO (bn : Nat) (v : Value) (aw : Option Addr) (nw cw i : Nat) (ds : List Deferred) (A : Act) : Prop := ∃ f : Nat → Value, A = { tmps := #[.pointer (some ⟨bn, 0, none⟩), f 1, f 2, v, f 4, f 5, f 6, f 7, f 8, f 9, f 10, f 11, f 12, f 13, .slice aw nw cw, .int .i64 (nw : Int), .int .i64 (i : Int), f 17, f 18, f 19, f 20, f 21, f 22, f 23, f 24, f 25, f 26, f 27, f 28, f 29, f 30, f 31, f 32, f 33, f 34, f 35, f 36, f 37, f 38, f 39, f 40, f 41, f 42, f 43, f 44, f 45, f 46, f 47, f 48, f 49, f 50, f 51, f 52, f 53], defers := ds }
set_option maxRecDepth 100000 in
theorem FrWO.mk {bn : Nat} {v : Value} {aw : Option Addr} {nw cw i : Nat} {ds : List Deferred} {x1 x2 x4 x5 x6 x7 x8 x9 x10 x11 x12 x13 x17 x18 x19 x20 x21 x22 x23 x24 x25 x26 x27 x28 x29 x30 x31 x32 x33 x34 x35 x36 x37 x38 x39 x40 x41 x42 x43 x44 x45 x46 x47 x48 x49 x50 x51 x52 x53 : Value} : FrWO bn v aw nw cw i ds { tmps := #[.pointer (some ⟨bn, 0, none⟩), x1, x2, v, x4, x5, x6, x7, x8, x9, x10, x11, x12, x13, .slice aw nw cw, .int .i64 (nw : Int), .int .i64 (i : Int), x17, x18, x19, x20, x21, x22, x23, x24, x25, x26, x27, x28, x29, x30, x31, x32, x33, x34, x35, x36, x37, x38, x39, x40, x41, x42, x43, x44, x45, x46, x47, x48, x49, x50, x51, x52, x53], defers := ds } := ⟨fun j => (#[undef, x1, x2, undef, x4, x5, x6, x7, x8, x9, x10, x11, x12, x13, undef, undef, undef, x17, x18, x19, x20, x21, x22, x23, x24, x25, x26, x27, x28, x29, x30, x31, x32, x33, x34, x35, x36, x37, x38, x39, x40, x41, x42, x43, x44, x45, x46, x47, x48, x49, x50, x51, x52, x53] : Array Value).getD j undef, rfl⟩
def FrWI (bn : Nat) (v : Value) (aw : Option Addr) (nw cw i c : Nat) (ds : List Deferred) (A : Act) : Prop := ∃ f : Nat → Value, A = { tmps := #[.pointer (some ⟨bn, 0, none⟩), f 1, f 2, v, f 4, .int .i64 (c : Int), f 6, f 7, f 8, f 9, f 10, f 11, f 12, f 13, .slice aw nw cw, .int .i64 (nw : Int), .int .i64 (i : Int), f 17, f 18, f 19, f 20, f 21, f 22, f 23, f 24, f 25, f 26, f 27, f 28, f 29, f 30, f 31, f 32, f 33, f 34, f 35, f 36, f 37, f 38, f 39, f 40, f 41, f 42, f 43, f 44, f 45, f 46, f 47, f 48, f 49, f 50, f 51, f 52, f 53], defers := ds }
set_option maxRecDepth 100000 in
theorem FrWI.mk {bn : Nat} {v : Value} {aw : Option Addr} {nw cw i c : Nat} {ds : List Deferred} {x1 x2 x4 x6 x7 x8 x9 x10 x11 x12 x13 x17 x18 x19 x20 x21 x22 x23 x24 x25 x26 x27 x28 x29 x30 x31 x32 x33 x34 x35 x36 x37 x38 x39 x40 x41 x42 x43 x44 x45 x46 x47 x48 x49 x50 x51 x52 x53 : Value} : FrWI bn v aw nw cw i c ds { tmps := #[.pointer (some ⟨bn, 0, none⟩), x1, x2, v, x4, .int .i64 (c : Int), x6, x7, x8, x9, x10, x11, x12, x13, .slice aw nw cw, .int .i64 (nw : Int), .int .i64 (i : Int), x17, x18, x19, x20, x21, x22, x23, x24, x25, x26, x27, x28, x29, x30, x31, x32, x33, x34, x35, x36, x37, x38, x39, x40, x41, x42, x43, x44, x45, x46, x47, x48, x49, x50, x51, x52, x53], defers := ds } := ⟨fun j => (#[undef, x1, x2, undef, x4, undef, x6, x7, x8, x9, x10, x11, x12, x13, undef, undef, undef, x17, x18, x19, x20, x21, x22, x23, x24, x25, x26, x27, x28, x29, x30, x31, x32, x33, x34, x35, x36, x37, x38, x39, x40, x41, x42, x43, x44, x45, x46, x47, x48, x49, x50, x51, x52, x53] : Array Value).getD j undef, rfl⟩

/-- One way is taken out. -/
theorem TI.step {G : Grid} {M : Nat} {wl : List Nat} {keep : Nat → Bool} (h : Pond G M wl keep) {F0 : List Sd} {v : Int} {c : Nat} (hc : c ∈ wl) {st : List Sd × List WY} (hi : TI G wl keep F0 v st) (ho : outs st.1 c = true) :
    ∃ w o, (find1 G M keep (memB st.1) [c]).2 = some (w, o) ∧ TI G wl keep F0 v (takeF st.1 (usesW G w o), st.2 ++ [(w, o)]) ∧ (takeF st.1 (usesW G w o)).length < st.1.length ∧ st.1.Nodup := by
  obtain ⟨b, hF, hv⟩ := hi.fl
  obtain ⟨w, o, e1, e2, e3, e4, e5, b', e6, e7⟩ := take_one h hF hc (outs_iff.1 ho)
  have hl := take_len e3 e4
  have hpos : 0 < (usesW G w o).length := List.length_pos_iff.2 e5
  refine ⟨w, o, e1, ⟨⟨b', e6, by simp; omega⟩, fun x hx => ?_, ?_, fun s hs => ?_, fun s hs => hi.rest s (take_mem hs)⟩, by omega, hF.nd⟩
  · rcases List.mem_append.1 hx with hx | hx
    · exact hi.ways x hx
    · simp at hx
      subst hx
      exact e2
  · show (sidesW G (st.2 ++ [(w, o)])).Nodup
    rw [sidesW_snoc, List.nodup_append]
    exact ⟨hi.nd, e3, fun a ha x hx e => (hi.sub a ha).2 (by rw [e]; exact e4 x hx)⟩
  · have hs : s ∈ sidesW G (st.2 ++ [(w, o)]) := hs
    rw [sidesW_snoc] at hs
    rcases List.mem_append.1 hs with hs | hs
    · exact ⟨(hi.sub s hs).1, fun hm => (hi.sub s hs).2 (take_mem hm)⟩
    · exact ⟨hi.rest s (e4 s hs), take_not hF.nd s hs⟩
theorem outs_four {F : List Sd} (h : ∀ s ∈ F, s.2 < 4) (c : Nat) : outs F c = (memB F (c, 0) || memB F (c, 1) || memB F (c, 2) || memB F (c, 3)) := by
  rw [Bool.eq_iff_iff, outs_iff]
  simp only [Bool.or_eq_true, memB_iff]
  constructor
  · rintro ⟨⟨d, k⟩, hs, e⟩
    have hk := h _ hs
    dsimp only at e hk
    subst e
    have hk' : k = 0 ∨ k = 1 ∨ k = 2 ∨ k = 3 := by omega
    rcases hk' with rfl | rfl | rfl | rfl <;> simp [hs]
  · rintro (((h1 | h1) | h1) | h1) <;> exact ⟨_, h1, rfl⟩
theorem make_ints (n : Nat) (h : n ≤ 100000) (w : World) : (Instr.makeSlice 22 (.int .i64 (n : Int)) (.int .i64 (n : Int))).run Tryz.prog w = .ok (.slice (some ⟨w.heap.size, 0, none⟩) n n) (w.alloc (.cells (madeCells #[.int .i64 0] (n * 1)) 3)) := by
  obtain ⟨i0, hi0, hz0, hz1, hz2⟩ := info_parts Tryz.info3
  have hr := run_make (P := Tryz.prog) w 22 3 i0 _ Tryz.underlying22 hi0 hz0 .i64 .i64 n n (by omega) (Int.le_refl _) (by rw [hz2]; omega) (by omega)
  simp only [Int.toNat_natCast, hz1] at hr
  exact hr
theorem sizes_int : (Tryz.prog.info? 3).map (·.size) = some 1 := by kernel_rfl
theorem wpList_copyI {ops : Array Oper} {rest : List Oper} {o : Oper} {a : Act} {Q : Exit → Act → World → Prop} (w : World) (hgd : o.guard = none) (d s : Operand) (ho : o.op = .call { callee := .builtin .copy, args := #[d, s], argTypes := #[22, 22] })
    (g m dcap : Nat) (sp : Option Addr) (scap : Nat) (hd : a.eval d = .slice (some ⟨g, 0, none⟩) m dcap) (hs : a.eval s = .slice sp m scap) (cur : Array Value) (hg : w.heap[g]? = some (.cells cur 3 (0, 0))) (hcur : cur.size = m) (xs : List Int) (hxs : Reads w (.slice sp m scap) xs) (hne : xs ≠ [])
    (h : wpList Tryz.prog ops Q rest (a.put o.dst (goInt m)) (w.setRow g (xs.map (Value.int .i64)).toArray)) : wpList Tryz.prog ops Q (o :: rest) a w := by
  have hm := hxs.len
  subst hm
  obtain ⟨h1, a', cap', e, h2, h3⟩ := hxs
  cases e
  obtain ⟨b, off, rfl, hc⟩ := h3.resolve_left hne
  refine wpList_copy_own hgd d s 22 22 ho 3 Tryz.underlying22 sizes_int g 0 xs.length dcap ⟨b, off, none⟩ xs.length scap hd hs cur 3 hg (xs.map (Value.int .i64)) (by rw [List.length_map]; exact (Nat.min_self _).symm) (fun j u hj => ?_) (by rw [List.length_map, hcur]; omega) (fun u hu => by obtain ⟨y, -, rfl⟩ := List.mem_map.1 hu; rfl) ?_
  · rw [List.getElem?_map] at hj
    obtain ⟨y, hy, rfl⟩ := Option.map_eq_some_iff.1 hj
    have hjl := (List.getElem?_eq_some_iff.1 hy).1
    rw [addr_add, hc j hjl, hy]
    rfl
  · have e2 : (cur.toList.take 0 ++ (xs.map (Value.int .i64) ++ cur.toList.drop (0 + (xs.map (Value.int .i64)).length))).toArray = (xs.map (Value.int .i64)).toArray := by
      rw [List.take_zero, List.nil_append, Nat.zero_add, List.length_map, List.drop_eq_nil_of_le (by rw [Array.length_toList, hcur]; exact Nat.le_refl _), List.append_nil]
    rw [e2, List.length_map]
    exact h
theorem mem_lk' (U : List Sd) (s : Sd) : inF (U.map lkS) (lkS s) = memB U s := by unfold memB inF; exact decide_eq_decide.2 inF_map
set_option maxRecDepth 100000 in
theorem sides_eq (g0 g1 g2 g3 : Bool) (V : World) : (Op.equalIn 10000 134 (.agg #[.bool g0, .bool g1, .bool g2, .bool g3]) (.agg #[.bool false, .bool false, .bool false, .bool false])).run Tryz.prog V = .ok (!(g0 || g1 || g2 || g3)) V := by
  cases g0 <;> cases g1 <;> cases g2 <;> cases g3 <;> first | rfl | kernel_rfl | simp [go_sem]
theorem WaysO.keepT {rs : List Nat} {b : Nat} {X Y : World} {base : Nat} {v : Value} {ps : List (Value × Int)} {L : List (List Nat × Option Nat)} (h : WaysO X base v ps L) (hk : KeepT rs b 0 X Y) (hr : ∀ r ∈ rs, ∀ (cs : Array Value) (t : TypeId), (t = 3 ∨ t = 60) → X.heap[r]? ≠ some (.cells cs t (0, 0))) : WaysO Y base v ps L :=
  h.stay (fun g cs hg => hk.cells (fun hm => hr g hm cs 3 (.inl rfl) hg) hg (by decide)) (fun g hg => by
    obtain ⟨cur, hc⟩ := h.blk hg
    rw [hc]
    exact hk.cells (fun hm => hr g hm cur _ (.inr rfl) hc) hc (by decide))
theorem stI_succ (G : Grid) (kn : List Nat) (F : List Sd) {wn : List Nat} {i c : Nat} (h : wn[i]? = some c) : (wn.take (i + 1)).foldl (fun st c => takeC G 64 (memL kn) c (st.1.length + 1) st) (F, []) = takeC G 64 (memL kn) c (((wn.take i).foldl (fun st c => takeC G 64 (memL kn) c (st.1.length + 1) st) (F, [])).1.length + 1) ((wn.take i).foldl (fun st c => takeC G 64 (memL kn) c (st.1.length + 1) st) (F, [])) := by
  rw [take_snoc h, List.foldl_append]; rfl
set_option maxRecDepth 100000 in
set_option maxHeartbeats 1000000 in
theorem ways_c (W H nw cw nk ck : Nat) (aw ak : Option Addr) (wn kn : List Nat) (hW : 1 ≤ W ∧ W ≤ 8) (hH : 1 ≤ H ∧ H ≤ 8) (G : Grid) (hGn : G.n = W * H) (hGb : G.bh = bhP W H) (hpd : Pond G 64 wn (memL kn)) (bn mo n : Nat) (F : List Sd) (b0 : Nat → Int) (hF : Fl G (wantB wn) (memL kn) F b0) (rd : List Bool) (w : World) (hnet : NetB w bn W H (.slice aw nw cw) (.slice ak nk ck) mo rd) (hmap : SMap w mo n (F.map lkS))
    (hrw : ∀ Y, KeepT [bn, mo] w.heap.size 0 w Y → Reads Y (.slice aw nw cw) (natI wn)) (hrk : ∀ Y, KeepT [bn, mo] w.heap.size 0 w Y → Reads Y (.slice ak nk ck) (natI kn)) :
    Calls Tryz.prog 56 #[.pointer (some ⟨bn, 0, none⟩)] w fun e w' => ∃ v ps, e = .returned v ∧ WaysO w' w.heap.size v ps (takeAll G 64 (memL kn) wn F).2 ∧ KeepT [bn, mo] w.heap.size 0 w w' := by
  have hn64 : W * H ≤ 64 := Nat.mul_le_mul hW.2 hH.2
  have hbn := hnet.lt
  have hmo := hmap.lt
  have hmb := mo_ne hnet hmap
  obtain ⟨n0, n1, n2, n3, n4⟩ := hnet.head
  have hnw : nw = wn.length := by have := (hrw w (KeepT.refl _ _ _ _)).len; rwa [natI_len] at this
  have hF256 : F.length ≤ 256 := by
    have h1 := len_le hF.nd (l₂ := allS G.n) (fun s hs => mem_allS.2 (hF.ok s hs))
    rw [allS_len, hGn] at h1
    omega
  have hwl : wn.length ≤ 64 := nodup_lt 64 hpd.wnd (fun x hx => Nat.lt_of_lt_of_le (hpd.wn x hx) hpd.le)
  have hnw63 : nw ≤ 9223372036854775807 := by omega
  obtain ⟨vv, hvv⟩ : ∃ vv, vv = val G.n (wantB wn) b0 := ⟨_, rfl⟩
  have HTI0 := Lib.hid (show TI G wn (memL kn) F vv (F, []) from ⟨⟨b0, hF, by rw [hvv]; simp⟩, fun w hw => (by cases hw), List.nodup_nil, fun s hs => (by cases hs), fun s hs => hs⟩)
  have HOKF := Lib.hid (show ∀ s ∈ F, s.1 < 64 ∧ s.2 < 4 from fun s hs => by
    obtain ⟨h1, h2⟩ := hF.ok s hs
    rw [hGn] at h1
    exact ⟨by omega, h2⟩)
  have HNET := Lib.hid hnet; have HMAP := Lib.hid hmap; have HRW := Lib.hid hrw; have HRK := Lib.hid hrk; have HPD := Lib.hid hpd; have HGN := Lib.hid hGn; have HGB := Lib.hid hGb; have HNW := Lib.hid hnw
  clear hnet hmap hrw hrk hpd hGn hGb hnw hF hvv
  go_enter Tryz.func56, Tryz.ntmps56
  go_wp2
  refine wp_loop_ghost (fun N A' X => ∃ (i : Nat) (v : Value) (ps : List (Value × Int)) (rd : List Bool) (st : List Sd × List WY), FrWO bn v aw nw cw i [] A' ∧ N + i = nw ∧ Hid (st = (wn.take i).foldl (fun st c => takeC G 64 (memL kn) c (st.1.length + 1) st) (F, [])) ∧ Hid (TI G wn (memL kn) F vv st) ∧ st.2.length + st.1.length ≤ 256 ∧ Hid (NetB X bn W H (.slice aw nw cw) (.slice ak nk ck) mo rd) ∧ Hid (SMap X mo n (st.1.map lkS)) ∧ Hid (WaysO X w.heap.size v ps st.2) ∧ Hid (KeepT [bn, mo] w.heap.size 0 w X)) nw ?start ?round
  case start => exact ⟨0, .slice none 0 0, [], rd, (F, []), FrWO.mk, rfl, Lib.hid rfl, HTI0, by simpa using hF256, HNET, HMAP, Lib.hid (WaysO.nil _ _), Lib.hid (KeepT.refl _ _ _ _)⟩
  case round =>
    clear n0 n1 n2 n3 n4 HNET HMAP HTI0 hF256
    rintro N A' X ⟨i, v, ps, rd, st, ⟨f, rfl⟩, hNi, hst, hti, hlen, hnt, hmp, hws, hK⟩
    by_cases hlt : i < nw
    · obtain ⟨b, off, x, hax, hx, hcx⟩ := (HRW.out X hK.out).at (k := i) (by rw [natI_len, ← HNW.out]; exact hlt)
      subst hax
      obtain ⟨c, hc⟩ := get_some (xs := wn) (k := i) (by rw [← HNW.out]; exact hlt)
      have hxc : x = (c : Int) := by
        have := natI_at hc
        rw [hx] at this
        exact Option.some.inj this
      subst hxc
      have HC := Lib.hid hc
      have hcw := List.mem_of_getElem? hc
      have HCW := Lib.hid hcw
      have hcn : c < W * H := by rw [← HGN.out]; exact HPD.out.wn c hcw
      have hka : (0 : Int) ≤ (i : Int) := by omega
      have hkb : (i : Int) < (nw : Int) := by omega
      have HTG := Lib.hid (show takeC G 64 (memL kn) c (st.1.length + 1) st = (wn.take (i + 1)).foldl (fun st c => takeC G 64 (memL kn) c (st.1.length + 1) st) (F, []) from by rw [stI_succ G kn F hc, ← hst.out])
      obtain ⟨M, rfl⟩ : ∃ M', N = M' + 1 := ⟨N - 1, by omega⟩
      obtain ⟨T, hT⟩ : ∃ T, T = st.1.length + 1 := ⟨_, rfl⟩
      rw [← hT] at HTG
      clear hc hx hcw
      go_wp2
      clear hcx
      refine wp_loop_ghost (fun f A' X => ∃ (v : Value) (ps : List (Value × Int)) (rd : List Bool) (st : List Sd × List WY), FrWI bn v (some ⟨b, off, none⟩) nw cw i c [] A' ∧ st.1.length < f ∧ Hid (takeC G 64 (memL kn) c f st = (wn.take (i + 1)).foldl (fun st c => takeC G 64 (memL kn) c (st.1.length + 1) st) (F, [])) ∧ Hid (TI G wn (memL kn) F vv st) ∧ st.2.length + st.1.length ≤ 256 ∧ Hid (NetB X bn W H (.slice (some ⟨b, off, none⟩) nw cw) (.slice ak nk ck) mo rd) ∧ Hid (SMap X mo n (st.1.map lkS)) ∧ Hid (WaysO X w.heap.size v ps st.2) ∧ Hid (KeepT [bn, mo] w.heap.size 0 w X)) T ?start2 ?round2
      case start2 => exact ⟨v, ps, rd, st, FrWI.mk, by omega, HTG, hti, hlen, hnt, hmp, hws, hK⟩
      case round2 =>
        clear HTG hti hlen hnt hmp hws hK hst hT
        rintro N2 A2 X ⟨v, ps, rd, st, ⟨f2, rfl⟩, hlf, htg, hti, hlen, hnt, hmp, hws, hK⟩
        have HLE := Lib.hid (leaving_c W H nw cw nk ck (some ⟨b, off, none⟩) ak c hW hH hcn bn mo n st.1 rd X hnt.out hmp.out)
        obtain ⟨g0, hg0⟩ : ∃ g, g = memB st.1 (c, 0) := ⟨_, rfl⟩
        obtain ⟨g1, hg1⟩ : ∃ g, g = memB st.1 (c, 1) := ⟨_, rfl⟩
        obtain ⟨g2, hg2⟩ : ∃ g, g = memB st.1 (c, 2) := ⟨_, rfl⟩
        obtain ⟨g3, hg3⟩ : ∃ g, g = memB st.1 (c, 3) := ⟨_, rfl⟩
        have ho := outs_four (F := st.1) (fun s hs => (HOKF.out s (hti.out.rest s hs)).2) c
        rw [← hg0, ← hg1, ← hg2, ← hg3] at HLE ho
        have HO := Lib.hid ho
        clear ho hg0 hg1 hg2 hg3
        have heq := sides_eq g0 g1 g2 g3
        obtain ⟨ob, hob⟩ : ∃ ob, ob = (g0 || g1 || g2 || g3) := ⟨_, rfl⟩
        rw [← hob] at HO
        simp only [← hob] at heq
        clear hob
        cases ob
        · go_wp2_with (first | (go_at_call 92; refine Calls.mono HLE.out ?_; intro e V1 h1; obtain ⟨h1, hV⟩ := h1; subst h1; have HV := Lib.hid hV; clear hV) | fail)
          have HN1 := Lib.hid (hnt.out.ext HV.out); have HM1 := Lib.hid (hmp.out.ext HV.out); have HS1 := Lib.hid (hws.out.ext HV.out); have HK1 := Lib.hid (hK.out.trans (KeepT.ext HV.out))
          clear hnt hmp hws hK heq HLE
          have hfin : st = (wn.take (i + 1)).foldl (fun st c => takeC G 64 (memL kn) c (st.1.length + 1) st) (F, []) := by
            rw [← htg.out]
            obtain ⟨f3, rfl⟩ : ∃ f3, N2 = f3 + 1 := ⟨N2 - 1, by omega⟩
            unfold takeC
            rw [HO.out]
            rfl
          have HFIN := Lib.hid hfin
          clear hfin htg
          have hw2 : IntKind.i64.wrap ((i : Int) + 1) = ((i + 1 : Nat) : Int) := by rw [wrapi64 _ (by omega) (by omega)]; push_cast; rfl
          go_wp2
          exact ⟨M, by omega, i + 1, v, ps, rd, st, FrWO.mk, by omega, HFIN, hti, hlen, HN1, HM1, HS1, HK1⟩
        · go_wp2_with (first | (go_at_call 92; refine Calls.mono HLE.out ?_; intro e V1 h1; obtain ⟨h1, hV⟩ := h1; subst h1; have HV := Lib.hid hV; clear hV) | fail)
          have HN1 := Lib.hid (hnt.out.ext HV.out); have HM1 := Lib.hid (hmp.out.ext HV.out); have HS1 := Lib.hid (hws.out.ext HV.out); have HK1 := Lib.hid (hK.out.trans (KeepT.ext HV.out))
          have hbx1 := HN1.out.lt
          have hmx1 := HM1.out.lt
          clear hnt hmp hws hK heq HLE
          obtain ⟨ws, o, hfd, hTI2, hsh, hnd⟩ := hti.out.step HPD.out HCW.out HO.out
          have hfo := found_ok HGN.out HGB.out HPD.out (src := [c]) (fun x hx => by simp at hx; subst hx; rw [HGN.out]; exact hcn) (by simp) hfd
          obtain ⟨V2, hV2⟩ : ∃ V2, V2 = V1.alloc (.cells #[.int .i64 (c : Int)] 3) := ⟨_, rfl⟩
          have hE2 : Ext V1 V2 := by rw [hV2]; exact (Ext.refl V1).alloc _
          have hRow : Row3 V2 (.slice (some ⟨V1.heap.size, 0, none⟩) 1 1) (natI [c]) := row3_one (by rw [hV2]; exact heap_alloc_new V1 _)
          have hn2 := HN1.out.ext hE2
          have hkw2 : KeepT [bn, mo] w.heap.size 0 w V2 := HK1.out.trans (KeepT.ext hE2)
          have hSE := searchUsed W H nw cw nk ck (some ⟨b, off, none⟩) ak bn mo (.slice (some ⟨V1.heap.size, 0, none⟩) 1 1) wn kn [c] hW hH G HGN.out HGB.out HPD.out (memB st.1) rd V2 hn2 (fun Z hZ => HRK.out Z (KeepT.comp hkw2 hZ (fun r hr => .inl (by simp at hr ⊢; exact .inl hr)) hkw2.size)) (fun Z hZ => (hRow.keepT hZ (by decide) (fun r hr => by rw [List.mem_singleton] at hr; subst hr; exact not3 hn2.blk (by decide))).reads) (fun x hx => by simp at hx; omega) (by simp)
            (fun Z s h1 h2 hZ hc => by
              have hb := hZ.low (g := mo) (Nat.lt_of_lt_of_le hmx1 hE2.size) (by simpa using fun e => hmb e.symm) (Nat.lt_of_lt_of_le hmx1 hE2.size)
              have h := isUsed_c bn mo n (st.1.map lkS) (lkS s) Z hc ((HM1.out.ext hE2).same hb) (sm_lkS h1 h2)
              rw [mem_lk'] at h
              exact h)
          have HSE := Lib.hid hSE
          have HFD := Lib.hid hfd; have HTI2 := Lib.hid hTI2; have HSH := Lib.hid hsh; have HND := Lib.hid hnd; have HFO := Lib.hid hfo
          have HN2 := Lib.hid hn2; have HM2 := Lib.hid (HM1.out.ext hE2); have HS2 := Lib.hid (HS1.out.ext hE2); have HK2 := Lib.hid hkw2; have HV2 := Lib.hid hV2
          have hszw : w.heap.size ≤ V2.heap.size := hkw2.size
          clear hV2 hE2 hRow hn2 hkw2 hSE hfd hTI2 hsh hnd hfo HN1 HM1 HS1 HK1
          go_upto_region 7 with (first | (go_at_call 81; rw [← HV2.out]; refine Calls.mono HSE.out ?_; intro e V3 h1; unfold SearchPost at h1; obtain ⟨h1, hn3, hk3⟩ := h1; obtain ⟨va, vn, vp, oo, fnd, h1, hmt⟩ := h1; subst h1; have HMT := Lib.hid hmt; have HN3 := Lib.hid hn3; have HK3 := Lib.hid hk3; clear hmt hn3 hk3) | fail)
          have hmt := HMT.out
          rw [HFD.out] at hmt
          dsimp only at hmt
          obtain ⟨rfl, hrow, ho2⟩ := hmt
          have ho3 : oo = oI o := ho2.trans (by cases o <;> rfl)
          clear ho2
          subst ho3
          obtain ⟨q1, q2, gr, capr, curr, hq, q3, q4, q5⟩ := hrow
          have hrow : Row3 V3 (.slice va vn vp) (natI ws) := ⟨q1, q2, gr, capr, curr, hq, q3, q4, q5⟩
          rw [natI_len] at hq
          injection hq with h1 h2 h3
          subst h1 h3
          have HVN := Lib.hid h2
          clear q1 q2 q3 q4 q5 h2
          have hvn : vn ≤ 64 := by rw [HVN.out]; exact HFO.out.len
          have hvn63 : vn ≤ 9223372036854775807 := by omega
          obtain ⟨V4, hV4⟩ : ∃ V4, V4 = V3.alloc (.cells #[.slice (some ⟨gr, 0, none⟩) vn vp, .int .i64 (oI o)] 60) := ⟨_, rfl⟩
          have hE4 : Ext V3 V4 := by rw [hV4]; exact (Ext.refl V3).alloc _
          have HB4 := Lib.hid (show V4.heap[V3.heap.size]? = some (.cells #[.slice (some ⟨gr, 0, none⟩) vn vp, .int .i64 (oI o)] 60 (0, 0)) from by rw [hV4]; exact heap_alloc_new V3 _)
          have HN4 := Lib.hid (HN3.out.ext hE4)
          have HM4 := Lib.hid ((HM2.out.same (HK3.out.low HM2.out.lt (by simpa using fun e => hmb e.symm) HM2.out.lt)).ext hE4)
          have HS4 := Lib.hid ((HS2.out.keepT HK3.out (fun r hr cs t ht h => by rw [List.mem_singleton] at hr; subst hr; rw [HN2.out.blk] at h; cases h; rcases ht with h | h <;> exact absurd h (by decide))).ext hE4)
          have HK4 := Lib.hid ((KeepT.comp HK2.out HK3.out (fun r hr => .inl (by simp at hr ⊢; exact .inl hr)) HK2.out.size).trans (KeepT.ext hE4))
          have HR4 := Lib.hid (hrow.stay (Stay3.ext hE4))
          have hz4 : V3.heap.size < V4.heap.size := lt_of_blk HB4.out
          have hz3 : w.heap.size ≤ V3.heap.size := Nat.le_trans hszw HK3.out.size
          have hbx4 := HN4.out.lt
          rw [← hV4]
          clear hV4 hE4 hrow HN3 HM2 HS2 HK2 HN2 HV2 HSE HMT
          have HTK := Lib.hid (take_c W H nw cw nk ck (some ⟨b, off, none⟩) ak G HGN.out HGB.out ws o (some ⟨gr, 0, none⟩) vn vp bn mo n (st.1.map lkS) _ V4 hW hH HFO.out.ne HFO.out.cell HFO.out.nbs HFO.out.edge HN4.out HM4.out (fun Y hY => (HR4.out.stay (fun g cs hg => hY g cs 3 (0, 0) hg (by
            intro hm
            obtain ⟨es, ck', hb⟩ := HM4.out.blk
            rw [List.mem_singleton] at hm
            rw [hm, hb] at hg
            cases hg) (.inl (by decide)))).reads))
          obtain ⟨d0, d1⟩ := cells2 HB4.out
          go_upto_region 8 with (first | (go_at_call 94; refine Calls.mono HTK.out ?_; intro e V5 h1; obtain ⟨h1, hm5, hk5⟩ := h1; obtain ⟨vr, h1⟩ := h1; subst h1; have HM5 := Lib.hid hm5; have HK5 := Lib.hid hk5; clear hm5 hk5) | fail)
          have hm4 := HM4.out.blk
          have HS5 := Lib.hid (HS4.out.keepT HK5.out (fun r hr cs t ht h => by rw [List.mem_singleton] at hr; subst hr; obtain ⟨es, ck', hb⟩ := hm4; rw [hb] at h; cases h))
          have HR5 := Lib.hid (HR4.out.keepT HK5.out (by decide) (fun r hr cs h => by rw [List.mem_singleton] at hr; subst hr; obtain ⟨es, ck', hb⟩ := hm4; rw [hb] at h; cases h))
          have HB5 := Lib.hid (HK5.out.cells (by intro hm; rw [List.mem_singleton] at hm; subst hm; obtain ⟨es, ck', hb⟩ := hm4; have := HB4.out; rw [hb] at this; cases this) HB4.out (by decide))
          have HN5 := Lib.hid (show NetB V5 bn W H (.slice (some ⟨b, off, none⟩) nw cw) (.slice ak nk ck) mo _ from ⟨HN4.out.len, HK5.out.cells (by simpa using hmb) HN4.out.blk (by decide)⟩)
          have HM6 := Lib.hid (show SMap V5 mo n ((takeF st.1 (usesW G ws o)).map lkS) from HM5.out.congr (fun l hl => by
            obtain ⟨s, hs, rfl⟩ := List.mem_map.1 hl
            obtain ⟨h1, h2⟩ := HOKF.out s (hti.out.rest s (take_mem hs))
            exact sm_lkS h1 h2) (inF_eq (del_all _ HND.out)))
          have HK6 := Lib.hid (show KeepT [bn, mo] w.heap.size 0 w V5 from KeepT.comp HK4.out HK5.out (fun r hr => .inl (by simp at hr ⊢; exact .inr hr)) HK4.out.size)
          have hz5 := HK5.out.size
          clear d0 d1 hm4 HS4 HR4 HB4 HN4 HM4 HM5 HK4 HK5 HTK
          obtain ⟨d0, d1⟩ := cells2 HB5.out
          have hmk := make_ints vn (by omega) V5
          have hsm := size_madeCells #[Value.int .i64 0] (vn * 1)
          obtain ⟨Z, hZ⟩ : ∃ Z, Z = madeCells #[Value.int .i64 0] (vn * 1) := ⟨_, rfl⟩
          rw [← hZ] at hmk hsm
          have HSM := Lib.hid hsm
          clear hZ hsm
          go_upto_region 9 with fail
          obtain ⟨V6, hV6⟩ : ∃ V6, V6 = V5.alloc (.cells Z 3) := ⟨_, rfl⟩
          have hE6 : Ext V5 V6 := by rw [hV6]; exact (Ext.refl V5).alloc _
          have HZ6 := Lib.hid (show V6.heap[V5.heap.size]? = some (.cells Z 3 (0, 0)) from by rw [hV6]; exact heap_alloc_new V5 _)
          have HB6 := Lib.hid (block_ext hE6 HB5.out); have HR6 := Lib.hid (HR5.out.stay (Stay3.ext hE6)); have HE6 := Lib.hid hE6
          have hz6 : V5.heap.size < V6.heap.size := lt_of_blk HZ6.out
          rw [← hV6]
          clear d0 d1 hmk hV6 hE6
          obtain ⟨d0, d1⟩ := cells2 HB6.out
          have hrd6 := HR6.out.reads
          go_upto_region 10 with (first | (refine wpList_copyI _ rfl (.tmp 41) (.tmp 43) rfl V5.heap.size vn vn (some ⟨gr, 0, none⟩) vp rfl rfl Z HZ6.out (by rw [HSM.out, Nat.mul_one]) (natI ws) hrd6 (by have := HFO.out.ne; simpa [natI] using this) ?_) | fail)
          obtain ⟨V7, hV7⟩ : ∃ V7, V7 = V6.setRow V5.heap.size ((natI ws).map (Value.int .i64)).toArray := ⟨_, rfl⟩
          rw [← hV7]
          have hE7 : Ext V5 V7 := by rw [hV7]; exact setRow_ext HE6.out (Nat.le_refl _) _
          have hz7 : V6.heap.size ≤ V7.heap.size := by rw [hV7, setRow_size]; exact Nat.le_refl _
          have HB7 := Lib.hid (show V7.heap[V3.heap.size]? = some (.cells #[.slice (some ⟨gr, 0, none⟩) vn vp, .int .i64 (oI o)] 60 (0, 0)) from block_ext hE7 HB5.out)
          have hr7 : Row3 V7 (.slice (some ⟨V5.heap.size, 0, none⟩) vn vn) (natI ws) := ⟨by rw [natI_len, ← HVN.out]; omega, by have := HFO.out.ne; simpa [natI] using this, V5.heap.size, vn, _, by rw [natI_len, ← HVN.out], by rw [hV7]; exact setRow_heap' V6 V5.heap.size _ Z 3 HZ6.out, ⟨by rw [natI_len, ← HVN.out]; exact Nat.le_refl _, by omega⟩, List.take_of_length_le (by simp)⟩
          have HR7 := Lib.hid hr7; have HE7 := Lib.hid hE7
          clear hV7 hE7 hr7 d0 d1 hrd6 HZ6 HB6 HR6 HE6
          obtain ⟨d0, d1⟩ := cells2 HB7.out
          have hE8 : Ext V5 (V7.alloc (.cells #[.slice (some ⟨V5.heap.size, 0, none⟩) vn vn, .int .i64 (oI o)] 60)) := HE7.out.alloc _
          have hb8 : (V7.alloc (.cells #[.slice (some ⟨V5.heap.size, 0, none⟩) vn vn, .int .i64 (oI o)] 60)).heap[V7.heap.size]? = some (.cells #[.slice (some ⟨V5.heap.size, 0, none⟩) vn vn, .int .i64 (oI o)] 60 (0, 0)) := heap_alloc_new V7 _
          have hlw : st.2.length ≤ 1000 := by omega
          obtain ⟨v9, X9, hrun, hW9, hg9, hst9, g9, cap9, hv9⟩ := appendO_run (HS5.out.ext hE8) (by have := hE8.size; omega) hlw (HR7.out.stay (Stay3.ext ((Ext.refl V7).alloc (.cells #[.slice (some ⟨V5.heap.size, 0, none⟩) vn vn, .int .i64 (oI o)] 60)))) (w := ws) (o := o) V7.heap.size (cells2 hb8).1 (cells2 hb8).2 36
          have hlt9 : ∀ g, v.ownBlock = some g → w.heap.size ≤ g := fun g e => ((HS5.out.ext hE8).lt e).2
          have HK9 := Lib.hid (show KeepT [bn, mo] w.heap.size 0 w X9 from (HK6.out.trans (KeepT.ext hE8)).grown_in hg9 (fun g e => .inr (hlt9 g e)))
          have hn8 := HN5.out.ext hE8
          have HN9 := Lib.hid (show NetB X9 bn W H (.slice (some ⟨b, off, none⟩) nw cw) (.slice ak nk ck) mo _ from ⟨hn8.len, (hg9.block bn hn8.lt (fun e => by have := hlt9 bn e.symm; omega)).trans hn8.blk⟩)
          have hm8 := HM6.out.ext hE8
          have HM9 := Lib.hid (hm8.same (hg9.block mo hm8.lt (fun e => by have := hlt9 mo e.symm; omega)))
          have HW9 := Lib.hid hW9
          have HTG9 := Lib.hid (show takeC G 64 (memL kn) c (N2 - 1) (takeF st.1 (usesW G ws o), st.2 ++ [(ws, o)]) = (wn.take (i + 1)).foldl (fun st c => takeC G 64 (memL kn) c (st.1.length + 1) st) (F, []) from by
            rw [← htg.out]
            obtain ⟨f3, rfl⟩ : ∃ f3, N2 = f3 + 1 := ⟨N2 - 1, by omega⟩
            conv => rhs; unfold takeC
            rw [HO.out, if_pos rfl, HFD.out]
            rfl)
          have hsh := HSH.out
          clear hE8 hb8 hlw hg9 hst9 hv9 hlt9 hn8 hm8 hW9
          go_wp2_with (first | (refine wpList_append_run rfl _ _ 36 rfl rfl rfl hrun ?_) | fail)
          exact ⟨N2 - 1, by omega, v9, _, _, (takeF st.1 (usesW G ws o), st.2 ++ [(ws, o)]), FrWI.mk, by dsimp only; omega, HTG9, HTI2, by dsimp only; rw [List.length_append, List.length_singleton]; omega, HN9, HM9, HW9, HK9⟩
    · obtain rfl : i = nw := by omega
      have hfin : st.2 = (takeAll G 64 (memL kn) wn F).2 := by
        rw [hst.out, HNW.out, List.take_length]
        rfl
      have HS := Lib.hid (show WaysO X w.heap.size v ps (takeAll G 64 (memL kn) wn F).2 from by rw [← hfin]; exact hws.out)
      clear hfin hst hti hnt hmp hws
      go_wp2
      go_ret
      first | exact ⟨v, rfl, ps, HS.out, hK.out⟩ | exact ⟨v, ps, rfl, HS.out, hK.out⟩ | exact ⟨v, ⟨ps, rfl, HS.out⟩, hK.out⟩
end Go.Proofs.YtppjnpempgpkaaaGreat
