/- Lists of cells in rows of their own, and lists of ways of the call's own that grow. What the search leaves; blocks that stay where some others turn. -/
import Derived.Test.YtppjnpempgpkaaaGreatD1
namespace Go.Proofs.YtppjnpempgpkaaaGreat
open Go.RowKit Go.Shelf
set_option linter.unusedVariables false
set_option linter.unusedSimpArgs false
/-- A list of integers in a row of its own. -/
def Row3 (X : World) (v : Value) (xs : List Int) : Prop :=
  xs.length ≤ 4100 ∧ xs ≠ [] ∧ ∃ (g cap : Nat) (cur : Array Value), v = .slice (some ⟨g, 0, none⟩) xs.length cap ∧ X.heap[g]? = some (Obj.cells cur 3 (0, 0)) ∧ (xs.length ≤ cap ∧ cap ≤ 9223372036854775807) ∧ cur.toList.take xs.length = xs.map (Value.int .i64)
/-- Rows of integers stay. -/
def Stay3 (A B : World) : Prop := ∀ (g : Nat) (cs : Array Value), A.heap[g]? = some (Obj.cells cs 3 (0, 0)) → B.heap[g]? = some (Obj.cells cs 3 (0, 0))
theorem Stay3.refl (A : World) : Stay3 A A := fun _ _ h => h
theorem Stay3.trans {A B C : World} (h : Stay3 A B) (k : Stay3 B C) : Stay3 A C := fun g cs hg => k g cs (h g cs hg)
theorem Stay3.ext {A B : World} (h : Ext A B) : Stay3 A B := fun g cs hg => block_ext h hg
theorem Stay3.grown {A B : World} {r : Option Nat} (h : A.grownBy B r) (hr : ∀ b, r = some b → ∀ cs : Array Value, A.heap[b]? ≠ some (Obj.cells cs 3 (0, 0))) : Stay3 A B := fun g cs hg =>
  (h.block g (lt_of_blk hg) (fun e => hr g e.symm cs hg)).trans hg
theorem Stay3.set {A : World} {b o : Nat} {v : Value} (hb : ∀ cs : Array Value, A.heap[b]? ≠ some (Obj.cells cs 3 (0, 0))) : Stay3 A (A.setCell ⟨b, o, none⟩ v) := Stay3.grown (grown_set A b o v) (fun b' e => by cases e; exact hb)
theorem not3 {A : World} {b : Nat} {cs : Array Value} {t : TypeId} {fr : Nat × Nat} (h : A.heap[b]? = some (.cells cs t fr)) (ht : t ≠ 3) : ∀ cs' : Array Value, A.heap[b]? ≠ some (Obj.cells cs' 3 (0, 0)) := fun cs' h2 => by rw [h] at h2; cases h2; exact ht rfl
theorem Stay3.turn {A B : World} {base : Nat} {row : Option Nat} (hg : A.grownBy B row) (hr : ∀ r, row = some r → base ≤ r ∧ ∃ o : Obj, A.heap[r]? = some o ∧ o.isCells = false) : Stay3 A B := fun g cs h => cells_turn h hg hr
theorem Row3.stay {A B : World} {v : Value} {xs : List Int} (h : Row3 A v xs) (hs : Stay3 A B) : Row3 B v xs := by
  obtain ⟨h1, h2, g, cap, cur, h3, h4, h5⟩ := h
  exact ⟨h1, h2, g, cap, cur, h3, hs _ _ h4, h5⟩
theorem Row3.reads {A : World} {v : Value} {xs : List Int} (h : Row3 A v xs) : Reads A v xs := by
  obtain ⟨h1, h2, g, cap, cur, rfl, h4, h5, h6⟩ := h
  refine ⟨by omega, _, cap, rfl, h5, .inr ⟨g, 0, rfl, fun i hi => ?_⟩⟩
  have h7 : (cur.toList.take xs.length)[i]? = some (.int .i64 (xs[i]?.getD 0)) := by rw [h6]; simp [hi]
  rw [List.getElem?_take_of_lt hi, Array.getElem?_toList] at h7
  rw [Nat.zero_add]
  exact cell_of_blk h4 h7
theorem OwnI.row3 {B : Nat} {A : World} {v : Value} {xs : List Int} (h : OwnI 3 B A v xs) (hl : xs.length ≤ 4100) (hne : xs ≠ []) : Row3 A v xs := by
  obtain ⟨_, h⟩ := h
  rcases h with ⟨rfl, h0⟩ | ⟨g, cap, cur, rfl, hb, hh, hn, hc, hs, ht⟩
  · exact absurd (List.eq_nil_of_length_eq_zero h0) hne
  · exact ⟨hl, hne, g, cap, cur, rfl, hh, ⟨hn, by unfold maxLen at hc; omega⟩, by simpa using ht⟩
theorem row3_one {A : World} {g : Nat} {x : Int} (h : A.heap[g]? = some (.cells #[.int .i64 x] 3 (0, 0))) : Row3 A (.slice (some ⟨g, 0, none⟩) 1 1) [x] := ⟨by simp, by simp, g, 1, _, rfl, h, by simp, rfl⟩
def wayC (ps : List Value) : List Value := ps.flatMap fun s => [s, .int .i64 (-1)]
theorem wayC_len (ps : List Value) : (wayC ps).length = ps.length * 2 := by
  induction ps with
  | nil => rfl
  | cons s ps ih => unfold wayC at ih ⊢; rw [List.flatMap_cons, List.length_append, ih]; simp; omega
theorem wayC_snoc (ps : List Value) (s : Value) : wayC (ps ++ [s]) = wayC ps ++ [s, .int .i64 (-1)] := by unfold wayC; rw [List.flatMap_append]; rfl
theorem wayC_at : ∀ (ps : List Value) (i : Nat) (s : Value), ps[i]? = some s → (wayC ps)[i * 2]? = some s ∧ (wayC ps)[i * 2 + 1]? = some (.int .i64 (-1))
  | [], i, s, h => by simp at h
  | p :: ps, 0, s, h => by simp at h; subst h; exact ⟨rfl, rfl⟩
  | p :: ps, i + 1, s, h => by
    have := wayC_at ps i s (by simpa using h)
    rw [show (i + 1) * 2 = i * 2 + 1 + 1 from by omega]
    exact this
/-- A list of ways of the call's own. -/
structure WaysAt (X : World) (base : Nat) (v : Value) (ps : List Value) (L : List (List Nat)) : Prop where
  own : X.ownsRow base 60 2 v L.length (wayC ps)
  len : ps.length = L.length
  row : ∀ (i : Nat) (s : Value) (w : List Nat), ps[i]? = some s → L[i]? = some w → Row3 X s (natI w)
theorem WaysAt.nil (X : World) (base : Nat) : WaysAt X base (.slice none 0 0) [] [] := ⟨World.ownsRow_nil _ _ _ _, rfl, fun i s w h => by simp at h⟩
theorem WaysAt.shape {X : World} {base : Nat} {v : Value} {ps : List Value} {L : List (List Nat)} (h : WaysAt X base v ps L) : ∃ a cap, v = .slice a L.length cap := by
  obtain ⟨_, ⟨rfl, h0⟩ | ⟨g, cap, cur, rfl, -⟩⟩ := h.own
  · exact ⟨none, 0, by rw [h0]⟩
  · exact ⟨_, cap, rfl⟩
theorem WaysAt.stay {X Y : World} {base : Nat} {v : Value} {ps : List Value} {L : List (List Nat)} (h : WaysAt X base v ps L) (hs : Stay3 X Y) (hb : ∀ g, v.ownBlock = some g → Y.heap[g]? = X.heap[g]?) : WaysAt Y base v ps L := by
  refine ⟨⟨h.own.1, h.own.2.imp id ?_⟩, h.len, fun i s w h1 h2 => (h.row i s w h1 h2).stay hs⟩
  rintro ⟨g, cap, cur, rfl, h1, h2, r⟩
  exact ⟨g, cap, cur, rfl, h1, (hb g rfl).trans h2, r⟩
theorem WaysAt.lt {X : World} {base : Nat} {v : Value} {ps : List Value} {L : List (List Nat)} (h : WaysAt X base v ps L) {g : Nat} (hg : v.ownBlock = some g) : g < X.heap.size ∧ base ≤ g := by
  obtain ⟨_, ⟨rfl, h0⟩ | ⟨g', cap, cur, rfl, h1, h2, -⟩⟩ := h.own
  · cases hg
  · have : g' = g := by simpa [Value.ownBlock] using hg
    subst this
    exact ⟨lt_of_blk h2, h1⟩
theorem WaysAt.ext {X Y : World} {base : Nat} {v : Value} {ps : List Value} {L : List (List Nat)} (h : WaysAt X base v ps L) (hE : Ext X Y) : WaysAt Y base v ps L := h.stay (Stay3.ext hE) (fun g hg => hE.block g (h.lt hg).1)
theorem WaysAt.blk {X : World} {base : Nat} {v : Value} {ps : List Value} {L : List (List Nat)} (h : WaysAt X base v ps L) {g : Nat} (hg : v.ownBlock = some g) : ∃ cur : Array Value, X.heap[g]? = some (Obj.cells cur 60 (0, 0)) := by
  obtain ⟨_, ⟨rfl, h0⟩ | ⟨g', cap, cur, rfl, h1, h2, -⟩⟩ := h.own
  · cases hg
  · have : g' = g := by simpa [Value.ownBlock] using hg
    subst this
    exact ⟨cur, h2⟩
theorem WaysAt.turn {X Y : World} {base : Nat} {v : Value} {ps : List Value} {L : List (List Nat)} (h : WaysAt X base v ps L) {b2 : Nat} {row : Option Nat} (hg : X.grownBy Y row) (hr : ∀ r, row = some r → b2 ≤ r ∧ ∃ o : Obj, X.heap[r]? = some o ∧ o.isCells = false) : WaysAt Y base v ps L :=
  h.stay (Stay3.turn hg hr) (fun g hgb => by obtain ⟨cur, hc⟩ := h.blk hgb; rw [hc]; exact cells_turn hc hg hr)
theorem WaysAt.set {X : World} {base : Nat} {v : Value} {ps : List Value} {L : List (List Nat)} (h : WaysAt X base v ps L) {b o : Nat} {u : Value} {cs : Array Value} {t : TypeId} {fr : Nat × Nat} (hb : X.heap[b]? = some (.cells cs t fr)) (ht : t ≠ 3) (hne : v.ownBlock ≠ some b) : WaysAt (X.setCell ⟨b, o, none⟩ u) base v ps L :=
  h.stay (Stay3.set (not3 hb ht)) (fun g hg => other_blk (grown_set X b o u) (fun e => hne (by rw [hg, e])) (h.lt hg).1)
theorem WaysAt.set' {X : World} {base : Nat} {v : Value} {ps : List Value} {L : List (List Nat)} (h : WaysAt X base v ps L) {b o : Nat} {u : Value} {cs : Array Value} {t : TypeId} {fr : Nat × Nat} (hb : X.heap[b]? = some (.cells cs t fr)) (ht : t ≠ 3) (ht2 : t ≠ 60) : WaysAt (X.setCell ⟨b, o, none⟩ u) base v ps L :=
  h.set hb ht (fun e => by obtain ⟨cur, hc⟩ := h.blk e; rw [hb] at hc; cases hc; exact ht2 rfl)
theorem WaysAt.at {X : World} {base : Nat} {v : Value} {ps : List Value} {L : List (List Nat)} (h : WaysAt X base v ps L) {i : Nat} (hi : i < L.length) :
    ∃ g cap s w, v = .slice (some ⟨g, 0, none⟩) L.length cap ∧ X.cell? ⟨g, i * 2, none⟩ = some s ∧ X.cell? ⟨g, i * 2 + 1, none⟩ = some (.int .i64 (-1)) ∧ L[i]? = some w ∧ Row3 X s (natI w) := by
  obtain ⟨_, ⟨rfl, h0⟩ | ⟨g, cap, cur, rfl, h1, h2, h3, h4, h5, h6⟩⟩ := h.own
  · omega
  · obtain ⟨s, hs⟩ := get_some (xs := ps) (k := i) (by rw [h.len]; exact hi)
    obtain ⟨w, hw⟩ := get_some hi
    obtain ⟨e1, e2⟩ := wayC_at ps i s hs
    rw [← h6, List.getElem?_take_of_lt (by omega), Array.getElem?_toList] at e1 e2
    exact ⟨g, cap, s, w, rfl, cell_of_blk h2 e1, cell_of_blk h2 e2, hw, h.row i s w hs hw⟩
theorem infoWay : (Tryz.prog.info? 60).map (fun i => (i.zero, i.size, i.bytes)) = some (some (.agg #[.slice none 0 0, .int .i64 0]), 2, 32) := by kernel_rfl
/-- A row of two ways or more is no block of two cells. -/
theorem WaysAt.ne {X : World} {base : Nat} {v : Value} {ps : List Value} {L : List (List Nat)} (h : WaysAt X base v ps L) (hl : 2 ≤ L.length) {b : Nat} {x y : Value} {t : TypeId} {fr : Nat × Nat} (hb : X.heap[b]? = some (.cells #[x, y] t fr)) : v.ownBlock ≠ some b := fun hg => by
  obtain ⟨h0, ⟨rfl, h0'⟩ | ⟨g, cap, cur, rfl, h1, h2, h3, h4, h5, h6⟩⟩ := h.own
  · omega
  · have : g = b := by simpa [Value.ownBlock] using hg
    subst this
    rw [hb] at h2
    cases h2
    simp at h5
    omega
theorem appendW_run {X : World} {base : Nat} {v : Value} {ps : List Value} {L : List (List Nat)} (h : WaysAt X base v ps L) (hB : base ≤ X.heap.size) (hl : L.length ≤ 1000) {s : Value} {w : List Nat} (hr : Row3 X s (natI w)) (b : Nat) (h0 : X.cell? ⟨b, 0, none⟩ = some s) (h1 : X.cell? ⟨b, 1, none⟩ = some (.int .i64 (-1))) (ty : TypeId) :
    ∃ v' X', (Builtin.append_ #[36, 36] ty #[v, .slice (some ⟨b, 0, none⟩) 1 1]).run Tryz.prog X = .ok v' X' ∧ WaysAt X' base v' (ps ++ [s]) (L ++ [w]) ∧ X.grownBy X' v.ownBlock ∧ Stay3 X X' ∧ ∃ g cap, v' = .slice (some ⟨g, 0, none⟩) (L.length + 1) cap := by
  obtain ⟨i0, hi0, hz0, hz1, hz2⟩ := info_parts infoWay
  obtain ⟨q1, q2, g, cap, cur, rfl, q3, q4, q5⟩ := hr
  have hrow : Row3 X (.slice (some ⟨g, 0, none⟩) (natI w).length cap) (natI w) := ⟨q1, q2, g, cap, cur, rfl, q3, q4, q5⟩
  obtain ⟨v', X', hrun, r1, r2, r3⟩ := run_append_own (P := Tryz.prog) X base 36 ty 60 i0 _ 2 32 Tryz.underlying36 hi0 hz0 hz1 hz2 rfl (by decide) v _ _ h.own ⟨b, 0, none⟩ 1 1 [.slice (some ⟨g, 0, none⟩) (natI w).length cap, .int .i64 (-1)] rfl (fun j u hj => by
    match j, hj with
    | 0, hj => simp at hj; subst hj; rw [addr_add]; exact h0
    | 1, hj => simp at hj; subst hj; rw [addr_add]; exact h1
    | j + 2, hj => simp at hj) (fun u hu => by simp at hu; rcases hu with rfl | rfl <;> rfl) (by unfold maxLen; omega) (by omega) hB
  have hst : Stay3 X X' := Stay3.grown r2 fun b' e => by obtain ⟨cur', hc⟩ := h.blk e; exact not3 hc (by decide)
  refine ⟨v', X', hrun, ⟨?_, by simp [h.len], fun i s' w' hs hw => ?_⟩, r2, hst, ?_⟩
  · rw [wayC_snoc, List.length_append]; exact r1
  · by_cases e : i < ps.length
    · rw [List.getElem?_append_left e] at hs
      rw [List.getElem?_append_left (by rw [← h.len]; exact e)] at hw
      exact (h.row i s' w' hs hw).stay hst
    · rw [List.getElem?_append_right (by omega)] at hs
      rw [List.getElem?_append_right (by rw [← h.len]; omega)] at hw
      have hi : i - ps.length = 0 := by have := (List.getElem?_eq_some_iff.1 hs).1; simp at this; omega
      rw [hi] at hs
      rw [← h.len, hi] at hw
      simp at hs hw
      subst hs hw
      exact hrow.stay hst
  · obtain ⟨_, ⟨rfl, h0⟩ | ⟨g', cap', cur', rfl, -⟩⟩ := r1
    · omega
    · exact ⟨g', cap', rfl⟩
end Go.Proofs.YtppjnpempgpkaaaGreat
namespace Go.Proofs.YtppjnpempgpkaaaGreat
open Go.RowKit Go.Shelf
set_option linter.unusedVariables false
set_option linter.unusedSimpArgs false
theorem KeepT.grown_in {rs : List Nat} {b e : Nat} {w A B : World} {r : Option Nat} (h : KeepT rs b e w A) (hg : A.grownBy B r) (hr : ∀ g, r = some g → g ∈ rs ∨ w.heap.size ≤ g) : KeepT rs b e w B :=
  ⟨hg.os.trans h.os, hg.tape.trans h.tape, hg.output.trans h.output, Nat.le_trans h.size hg.size, fun k hk hn hc => (hg.block k (Nat.lt_of_lt_of_le hk h.size) (fun e => by rcases hr k e.symm with h1 | h1; exact hn h1; omega)).trans (h.block k hk hn hc)⟩
theorem KeepT.set_in {rs : List Nat} {b e : Nat} {w A : World} (h : KeepT rs b e w A) {g : Nat} (hg : g ∈ rs ∨ w.heap.size ≤ g) (o : Nat) (v : Value) : KeepT rs b e w (A.setCell ⟨g, o, none⟩ v) := h.grown_in (grown_set A g o v) (fun g' e => by cases e; exact hg)
theorem KeepT.comp {rs rs' : List Nat} {b e b' e' : Nat} {w A B : World} (h : KeepT rs b e w A) (k : KeepT rs' b' e' A B) (hr : ∀ r ∈ rs', r ∈ rs ∨ w.heap.size ≤ r) (hb : w.heap.size ≤ b') : KeepT rs b e w B :=
  ⟨k.os.trans h.os, k.tape.trans h.tape, k.output.trans h.output, Nat.le_trans h.size k.size, fun i hi hn hc => (k.block i (Nat.lt_of_lt_of_le hi h.size) (fun hm => by rcases hr i hm with h1 | h1; exact hn h1; omega) (fun ⟨h2, _⟩ => by omega)).trans (h.block i hi hn hc)⟩
theorem KeepT.size_le {rs : List Nat} {b e : Nat} {A B : World} (h : KeepT rs b e A B) : A.heap.size ≤ B.heap.size := h.size
theorem wpList_append_run {ops : Array Oper} {rest : List Oper} {o : Oper} {a : Act} {w w' : World} {Q : Exit → Act → World → Prop} (hgd : o.guard = none) (s x : Operand) (t : TypeId) (ho : o.op = .call { callee := .builtin .append, args := #[s, x], argTypes := #[t, t] })
    {v sl v' : Value} (hs : a.eval s = v) (hx : a.eval x = sl) (hrun : (Builtin.append_ #[t, t] o.type #[v, sl]).run Tryz.prog w = .ok v' w') (h : wpList Tryz.prog ops Q rest (a.put o.dst v') w') : wpList Tryz.prog ops Q (o :: rest) a w :=
  wpList_plain hgd fun K hK => by
    unfold Oper.wp
    simp [execOp, ho, resolve, invoke, builtin, hs, hx, hrun, Result.andThen]
    exact hK _ _ h
theorem wp_append_run {o : Oper} {a : Act} {K : Act → World → Prop} {Q : Exit → Act → World → Prop} {w w' : World} (s x : Operand) (t : TypeId) (ho : o.op = .call { callee := .builtin .append, args := #[s, x], argTypes := #[t, t] })
    {v sl v' : Value} (hs : a.eval s = v) (hx : a.eval x = sl) (hrun : (Builtin.append_ #[t, t] o.type #[v, sl]).run Tryz.prog w = .ok v' w') (h : K (a.put o.dst v') w') : o.wp Tryz.prog a w K Q := by
  unfold Oper.wp
  simp [execOp, ho, resolve, invoke, builtin, hs, hx, hrun, Result.andThen]
  exact h
theorem Row3.keepT {rs : List Nat} {b e : Nat} {A B : World} {v : Value} {xs : List Int} (h : Row3 A v xs) (k : KeepT rs b e A B) (he : 3 ≠ e) (hr : ∀ r ∈ rs, ∀ cs : Array Value, A.heap[r]? ≠ some (Obj.cells cs 3 (0, 0))) : Row3 B v xs := h.stay (fun g cs hg => k.cells (fun hm => hr g hm cs hg) hg he)
theorem WaysAt.keepT {rs : List Nat} {X Y : World} {base : Nat} {v : Value} {ps : List Value} {L : List (List Nat)} (h : WaysAt X base v ps L) (hg : X.grownBy Y v.ownBlock) : KeepT rs base 60 X Y :=
  ⟨hg.os, hg.tape, hg.output, hg.size, fun k hk _ hc => hg.block k hk (fun e => hc (by obtain ⟨cur, h1⟩ := h.blk e.symm; exact ⟨(h.lt e.symm).2, cur, _, h1⟩))⟩
/-- What a search hands back and leaves: the way that is found, and the marks. -/
def SearchPost (G : Grid) (keep : Nat → Bool) (lt : Sd → Bool) (src : List Nat) (bn W H : Nat) (vw vk : Value) (mo : Nat) (w : World) (e : Ending) (w' : World) : Prop :=
  (∃ va vn vp o fnd, e = .returned (.tuple #[.agg #[.slice va vn vp, .int .i64 o], .bool fnd]) ∧
    match (find1 G 64 keep lt src).2 with
    | none => fnd = false
    | some (ws, oo) => fnd = true ∧ Row3 w' (.slice va vn vp) (natI ws) ∧ o = (match oo with | some k => (k : Int) | none => -1)) ∧
  NetB w' bn W H vw vk mo (find1 G 64 keep lt src).1.rd ∧ KeepT [bn] w.heap.size 0 w w'
theorem scan_cons (G : Grid) (lt : Sd → Bool) (w : List Nat) (c k : Nat) (ks : List Nat) (st : SS) : scan G lt w c (k :: ks) st = if lt (c, k) = true then (match G.bh (c, k) with
    | none => (st, some k)
    | some d => if isR st.rd d = true then scan G lt w c ks st else scan G lt w c ks ⟨st.ways ++ [w ++ [d]], st.rd.set d true⟩) else scan G lt w c ks st := by
  conv => lhs; unfold scan
  by_cases h : lt (c, k) = true
  · rw [if_pos h, if_pos h]
    cases hb : G.bh (c, k) <;> rfl
  · rw [if_neg h, if_neg h]
theorem scan_append (G : Grid) (lt : Sd → Bool) (w : List Nat) (c : Nat) : ∀ (ks ks' : List Nat) (st : SS), scan G lt w c (ks ++ ks') st = match scan G lt w c ks st with
    | (st', some k) => (st', some k)
    | (st', none) => scan G lt w c ks' st'
  | [], ks', st => rfl
  | k :: ks, ks', st => by
    rw [List.cons_append, scan_cons, scan_cons]
    by_cases h : lt (c, k) = true
    · rw [if_pos h, if_pos h]
      cases hb : G.bh (c, k) with
      | none => rfl
      | some d =>
        dsimp only
        by_cases hr : isR st.rd d = true
        · rw [if_pos hr, if_pos hr]; exact scan_append G lt w c ks ks' st
        · rw [if_neg hr, if_neg hr]; exact scan_append G lt w c ks ks' _
    · rw [if_neg h, if_neg h]; exact scan_append G lt w c ks ks' st
theorem scan_next {G : Grid} {lt : Sd → Bool} {w : List Nat} {c k : Nat} {st st' : SS} (hk : k < 4) (h : scan G lt w c ([0, 1, 2, 3].take k) st = (st', none)) : scan G lt w c ([0, 1, 2, 3].take (k + 1)) st = scan G lt w c [k] st' := by
  rw [take_snoc (at_four hk), scan_append, h]
theorem scan_stop {G : Grid} {lt : Sd → Bool} {w : List Nat} {c k : Nat} {st st' : SS} (hk : k < 4) (h : scan G lt w c ([0, 1, 2, 3].take k) st = (st', none)) (h1 : scan G lt w c [k] st' = (st', some k)) : scan G lt w c [0, 1, 2, 3] st = (st', some k) := by
  have h2 := scan_next hk h
  rw [h1] at h2
  rw [show ([0, 1, 2, 3] : List Nat) = [0, 1, 2, 3].take (k + 1) ++ [0, 1, 2, 3].drop (k + 1) from (List.take_append_drop _ _).symm, scan_append, h2]
theorem scan_no {G : Grid} {lt : Sd → Bool} {w : List Nat} {c k : Nat} {st : SS} (h : lt (c, k) = false) : scan G lt w c [k] st = (st, none) := by
  unfold scan; rw [if_neg (by rw [h]; simp)]; rfl
theorem scan_out {G : Grid} {lt : Sd → Bool} {w : List Nat} {c k : Nat} {st : SS} (h : lt (c, k) = true) (hb : G.bh (c, k) = none) : scan G lt w c [k] st = (st, some k) := by
  unfold scan; rw [if_pos h, hb]
theorem scan_old {G : Grid} {lt : Sd → Bool} {w : List Nat} {c k d : Nat} {st : SS} (h : lt (c, k) = true) (hb : G.bh (c, k) = some d) (hr : isR st.rd d = true) : scan G lt w c [k] st = (st, none) := by
  unfold scan; rw [if_pos h, hb]; dsimp only; rw [if_pos hr]; rfl
theorem scan_new {G : Grid} {lt : Sd → Bool} {w : List Nat} {c k d : Nat} {st : SS} (h : lt (c, k) = true) (hb : G.bh (c, k) = some d) (hr : isR st.rd d = false) : scan G lt w c [k] st = (⟨st.ways ++ [w ++ [d]], st.rd.set d true⟩, none) := by
  unfold scan; rw [if_pos h, hb]; dsimp only; rw [if_neg (by rw [hr]; simp)]; rfl
theorem srch_next {G : Grid} {keep : Nat → Bool} {lt : Sd → Bool} {M i : Nat} {st st' : SS} {w : List Nat} (hw : st.ways[i]? = some w) (hk : keep (lastN w) = false) (hs : scan G lt w (lastN w) [0, 1, 2, 3] st = (st', none)) : srch G keep lt (M + 1) i st = srch G keep lt M (i + 1) st' := by
  conv => lhs; unfold srch
  rw [hw]
  dsimp only
  rw [if_neg (by rw [hk]; simp), hs]
theorem srch_stop {G : Grid} {keep : Nat → Bool} {lt : Sd → Bool} {M i k : Nat} {st st' : SS} {w : List Nat} (hw : st.ways[i]? = some w) (hk : keep (lastN w) = false) (hs : scan G lt w (lastN w) [0, 1, 2, 3] st = (st', some k)) : srch G keep lt (M + 1) i st = (st', some (w, some k)) := by
  conv => lhs; unfold srch
  rw [hw]
  dsimp only
  rw [if_neg (by rw [hk]; simp), hs]
theorem wpIn_append_run {F : Fence} {n : Nat} {o : Oper} {a : Act} {K : Act → World → Prop} {Q : Exit → Act → World → Prop} {w w' : World} (hfn : ∀ f, F.fn f) (s x : Operand) (t : TypeId) (ho : o.op = .call { callee := .builtin .append, args := #[s, x], argTypes := #[t, t] })
    {v sl v' : Value} (hs : a.eval s = v) (hx : a.eval x = sl) (hrun : (Builtin.append_ #[t, t] o.type #[v, sl]).run Tryz.prog w = .ok v' w') (h : K (a.put o.dst v') w') : o.wpIn F n Tryz.prog a w K Q := by
  unfold Oper.wpIn
  refine ⟨fun f _ => hfn f, ?_⟩
  rw [Oper.semAt_eq _ _ _ (fun c hc => by rw [ho] at hc; cases hc)]
  simp [execOp, ho, resolve, invoke, builtin, hs, hx, hrun, Result.andThen]
  exact h
/-- One way is done. -/
theorem SI.next {G : Grid} {keep : Nat → Bool} {lt : Sd → Bool} {src : List Nat} {M i : Nat} {st st' : SS} {w : List Nat} (hM : G.n ≤ M) (hS : ∀ c ∈ src, c < G.n) (h : SI G keep lt src M i st) (hw : st.ways[i]? = some w) (hk : keep (lastN w) = false) (hs : scan G lt w (lastN w) [0, 1, 2, 3] st = (st', none)) : SI G keep lt src M (i + 1) st' := by
  obtain ⟨a1, a2, a3, a4, a5⟩ := scan_is hM hS [0, 1, 2, 3] st (fun k hk => by simp at hk; omega) h (List.mem_of_getElem? hw) hk
  rw [hs] at a1 a2 a3 a4 a5
  dsimp only at a1 a2 a3 a4 a5
  obtain ⟨t, ht⟩ := a2
  have hil : i < st.ways.length := (List.getElem?_eq_some_iff.1 hw).1
  refine ⟨a1.len, by rw [← ht, List.length_append]; omega, a1.gd, a1.cells, a1.mark, a1.nd, a1.srcs, fun j u hj hu => ?_⟩
  by_cases e : j = i
  · subst e
    rw [← ht, List.getElem?_append_left hil, hw] at hu
    cases hu
    exact ⟨hk, fun k hk4 hl => a5 rfl k (by simp; omega) hl⟩
  · exact a1.done j u (by omega) hu
end Go.Proofs.YtppjnpempgpkaaaGreat
