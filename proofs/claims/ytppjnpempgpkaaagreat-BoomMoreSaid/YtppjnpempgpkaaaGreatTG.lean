/- BoomTogether: what it wants of plain facts; two own lists in the boxes of two ponds. -/
import Derived.Test.YtppjnpempgpkaaaGreatFW
import Derived.Test.YtppjnpempgpkaaaGreatJ3
namespace Go.Proofs.YtppjnpempgpkaaaGreat
set_option linter.unusedVariables false
set_option linter.unusedSimpArgs false
def tqN (kn : List Nat) (b k : Nat) : List Nat := (List.range k).filter fun i => b.testBit i && !memL kn i
def tbN (wn kn : List Nat) (b k : Nat) : List Nat := (List.range k).filter fun i => (b.testBit i && !memL kn i) || memL wn i
theorem tqN_succ (kn : List Nat) (b k : Nat) : tqN kn b (k + 1) = tqN kn b k ++ if (b.testBit k && !memL kn k) = true then [k] else [] := by
  unfold tqN
  rw [List.range_succ, List.filter_append, List.filter_cons, List.filter_nil]
theorem tbN_succ (wn kn : List Nat) (b k : Nat) : tbN wn kn b (k + 1) = tbN wn kn b k ++ if ((b.testBit k && !memL kn k) || memL wn k) = true then [k] else [] := by
  unfold tbN
  rw [List.range_succ, List.filter_append, List.filter_cons, List.filter_nil]
theorem filter_lst (n : Nat) (f : Nat → Bool) : Lst n ((List.range n).filter f) := ⟨List.pairwise_lt_range.filter _, fun x hx => List.mem_range.1 (List.mem_filter.1 hx).1⟩
theorem filter_len (n : Nat) (f : Nat → Bool) : ((List.range n).filter f).length ≤ n := by
  have := List.length_filter_le f (List.range n)
  rwa [List.length_range] at this
theorem tq_vp {W H : Nat} {wn kn : List Nat} (hv : VP W H wn kn) (b : Nat) : VP W H (tqN kn b (W * H)) kn where
  w1 := hv.w1
  w8 := hv.w8
  h1 := hv.h1
  h8 := hv.h8
  want := filter_lst _ _
  keep := hv.keep
  dis := fun x hx h => by
    have h1 := (List.mem_filter.1 h).2
    rw [show memL kn x = true from decide_eq_true hx] at h1
    simp at h1
theorem tb_vp {W H : Nat} {wn kn : List Nat} (hv : VP W H wn kn) (b : Nat) : VP W H (tbN wn kn b (W * H)) kn where
  w1 := hv.w1
  w8 := hv.w8
  h1 := hv.h1
  h8 := hv.h8
  want := filter_lst _ _
  keep := hv.keep
  dis := fun x hx h => by
    have h1 := (List.mem_filter.1 h).2
    rw [show memL kn x = true from decide_eq_true hx, show memL wn x = false from decide_eq_false (hv.dis x hx)] at h1
    simp at h1
theorem together_all {W H : Nat} {wn kn : List Nat} (hv : VP W H wn kn) (b : Nat) :
    stk (gp (tb_vp hv b)) (smallB (gp (tb_vp hv b)) 64 (tbN wn kn b (W * H)) (memL kn)) ≤ stk (gp hv) (smallB (gp hv) 64 wn (memL kn)) + stk (gp (tq_vp hv b)) (smallB (gp (tq_vp hv b)) 64 (tqN kn b (W * H)) (memL kn)) ∧
    max (stk (gp hv) (smallB (gp hv) 64 wn (memL kn))) (stk (gp (tq_vp hv b)) (smallB (gp (tq_vp hv b)) 64 (tqN kn b (W * H)) (memL kn))) ≤ stk (gp (tb_vp hv b)) (smallB (gp (tb_vp hv b)) 64 (tbN wn kn b (W * H)) (memL kn)) := by
  have B1 := hv.pond.best
  have B2 := (tq_vp hv b).pond.best
  have B3 := (tb_vp hv b).pond.best
  refine together (G := gp hv) B1 B2 B3 fun x => ?_
  unfold wantB
  rw [decide_eq_true_iff, decide_eq_true_iff, decide_eq_true_iff]
  unfold tbN tqN
  rw [List.mem_filter, List.mem_filter]
  constructor
  · rintro ⟨h1, h2⟩
    rw [Bool.or_eq_true] at h2
    rcases h2 with h2 | h2
    · exact .inr ⟨h1, h2⟩
    · exact .inl (of_decide_eq_true h2)
  · rintro (h | ⟨h1, h2⟩)
    · exact ⟨List.mem_range.2 (hv.want.lt x h), by rw [show memL wn x = true from decide_eq_true h]; simp⟩
    · exact ⟨h1, by rw [h2]; rfl⟩
theorem wat_lst (W H : Nat) (wn kn : List Nat) (b : Nat) : Lst (W * H) (watN W H wn kn b (W * H)) := filter_lst _ _
theorem wat_mem {W H : Nat} {wn kn : List Nat} {b x : Nat} : x ∈ watN W H wn kn b (W * H) ↔ x < W * H ∧ memL kn x = false ∧ (b.testBit x = true ∨ memL wn x = true) := by
  unfold watN
  rw [List.mem_filter, List.mem_range, Bool.and_eq_true, Bool.not_eq_true', Bool.or_eq_true]
theorem wat_enc {W H : Nat} {wn kn : List Nat} (hv : VP W H wn kn) (b : Nat) : encB wn kn (watN W H wn kn b (W * H)) = true := by
  unfold encB
  rw [Bool.and_eq_true, List.all_eq_true, Bool.not_eq_true', List.any_eq_false]
  refine ⟨fun x hx => decide_eq_true (wat_mem.2 ⟨hv.want.lt x hx, decide_eq_false fun h => hv.dis x h hx, .inr (decide_eq_true hx)⟩), fun x hx h => ?_⟩
  have h1 := (wat_mem.1 (of_decide_eq_true h)).2.1
  rw [show memL kn x = true from decide_eq_true hx] at h1
  cases h1
theorem wat_sub {W H : Nat} {wn kn : List Nat} (hv : VP W H wn kn) (a b : Nat) :
    stk (gp hv) (memL (watN W H wn kn (a &&& b) (W * H))) + stk (gp hv) (memL (watN W H wn kn (a ||| b) (W * H))) ≤ stk (gp hv) (memL (watN W H wn kn a (W * H))) + stk (gp hv) (memL (watN W H wn kn b (W * H))) := by
  have h := stk_sub (gp hv) (memL (watN W H wn kn a (W * H))) (memL (watN W H wn kn b (W * H)))
  have e1 : (fun x => memL (watN W H wn kn a (W * H)) x && memL (watN W H wn kn b (W * H)) x) = memL (watN W H wn kn (a &&& b) (W * H)) := by
    funext x
    rw [Bool.eq_iff_iff, Bool.and_eq_true]
    unfold memL
    rw [decide_eq_true_iff, decide_eq_true_iff, decide_eq_true_iff, wat_mem, wat_mem, wat_mem, Nat.testBit_and, Bool.and_eq_true]
    constructor
    · rintro ⟨⟨p, q, r⟩, -, -, s⟩
      refine ⟨p, q, ?_⟩
      rcases r with r | r
      · rcases s with s | s
        · exact .inl ⟨r, s⟩
        · exact .inr s
      · exact .inr r
    · rintro ⟨p, q, ⟨r, s⟩ | r⟩
      · exact ⟨⟨p, q, .inl r⟩, p, q, .inl s⟩
      · exact ⟨⟨p, q, .inr r⟩, p, q, .inr r⟩
  have e2 : (fun x => memL (watN W H wn kn a (W * H)) x || memL (watN W H wn kn b (W * H)) x) = memL (watN W H wn kn (a ||| b) (W * H)) := by
    funext x
    rw [Bool.eq_iff_iff, Bool.or_eq_true]
    unfold memL
    rw [decide_eq_true_iff, decide_eq_true_iff, decide_eq_true_iff, wat_mem, wat_mem, wat_mem, Nat.testBit_or, Bool.or_eq_true]
    constructor
    · rintro (⟨p, q, r⟩ | ⟨p, q, r⟩)
      · rcases r with r | r
        · exact ⟨p, q, .inl (.inl r)⟩
        · exact ⟨p, q, .inr r⟩
      · rcases r with r | r
        · exact ⟨p, q, .inl (.inr r)⟩
        · exact ⟨p, q, .inr r⟩
    · rintro ⟨p, q, (r | r) | r⟩
      · exact .inl ⟨p, q, .inl r⟩
      · exact .inr ⟨p, q, .inl r⟩
      · exact .inl ⟨p, q, .inr r⟩
  rw [e1, e2] at h
  exact h
/-- The boxes of two ponds, the lists in them of the call's own, and not one list. -/
def TwoL (w Y : World) (g1 g2 : Nat) (A B : Value) (pc : Array Value) (kv u v : Value) (la lb : List Int) : Prop :=
  Y.heap[g1]? = some (.cells #[A, B, u, kv] 24 (0, 0)) ∧ Y.heap[g2]? = some (.cells #[A, B, v, kv] 24 (0, 0)) ∧ OwnI 3 (g2 + 1) Y u la ∧ OwnI 3 (g2 + 1) Y v lb ∧ (∀ g, u.ownBlock = some g → v.ownBlock ≠ some g) ∧ Y.heap[w.heap.size]? = some (.cells pc 24 (0, 0)) ∧ Ext w Y ∧ (w.heap.size < g1 ∧ g1 < g2)
section
variable {w Y : World} {g1 g2 : Nat} {A B : Value} {pc : Array Value} {kv u v : Value} {la lb : List Int}
theorem TwoL.ext {Z : World} (h : TwoL w Y g1 g2 A B pc kv u v la lb) (hE : Ext Y Z) : TwoL w Z g1 g2 A B pc kv u v la lb := by
  obtain ⟨h1, h2, h3, h4, h5, h6, h7, h8⟩ := h
  exact ⟨block_ext hE h1, block_ext hE h2, h3.ext hE, h4.ext hE, h5, block_ext hE h6, h7.trans hE, h8⟩
theorem set4c {X : World} {b : Nat} {a0 a1 a2 a3 : Value} {t : TypeId} (h : X.heap[b]? = some (.cells #[a0, a1, a2, a3] t (0, 0))) (v : Value) : (X.setCell ⟨b, 2, none⟩ v).heap[b]? = some (.cells #[a0, a1, v, a3] t (0, 0)) := by
  have h0 : X.heap[b]? = some (.cells [a0, a1, a2, a3].toArray t (0, 0)) := h
  have := set_blk (o := 2) h0 v
  simpa using this
theorem TwoL.grow1 (h : TwoL w Y g1 g2 A B pc kv u v la lb) (hl : la.length ≤ 20000) (x : Int) : ∃ (a : Option Addr) (n c : Nat) (X4 : World), (Builtin.append_ #[22, 22] 22 #[u, .slice (some ⟨Y.heap.size, 0, none⟩) 1 1]).run Tryz.prog (Y.alloc (.cells #[.int .i64 x] 3)) = .ok (.slice a n c) X4 ∧
    X4.heap[g1]? = some (.cells #[A, B, u, kv] 24 (0, 0)) ∧ TwoL w (X4.setCell ⟨g1, 2, none⟩ (.slice a n c)) g1 g2 A B pc kv (.slice a n c) v (la ++ [x]) lb := by
  obtain ⟨h1, h2, h3, h4, h5, h6, h7, h8, h9⟩ := h
  have hE3 : Ext Y (Y.alloc (.cells #[.int .i64 x] 3)) := (Ext.refl _).alloc _
  have hz3 : (Y.alloc (.cells #[.int .i64 x] 3)).cell? ⟨Y.heap.size, 0, none⟩ = some (.int .i64 x) := cell_of_blk (heap_alloc_new Y _) rfl
  have hlt2 := lt_of_blk h2
  obtain ⟨v4, X4, hrun, ho4, hg4, hn4⟩ := appendI_run2 (h3.ext hE3) (by have := hE3.size; omega) hl x Y.heap.size hz3 22
  have hob := own_from (h3.ext hE3)
  obtain ⟨a, c, e, -⟩ := ho4.shape
  subst e
  have k1 : X4.heap[g1]? = some (.cells #[A, B, u, kv] 24 (0, 0)) := (hg4.block g1 (lt_of_blk (block_ext hE3 h1)) (fun e => by have := hob _ e.symm; omega)).trans (block_ext hE3 h1)
  have k2 : X4.heap[g2]? = some (.cells #[A, B, v, kv] 24 (0, 0)) := (hg4.block g2 (lt_of_blk (block_ext hE3 h2)) (fun e => by have := hob _ e.symm; omega)).trans (block_ext hE3 h2)
  have k3 : OwnI 3 (g2 + 1) X4 v lb := World.ownsRow.kept (h4.ext hE3) hg4 (by
    cases e : v.ownBlock with
    | none => exact .inl rfl
    | some g => exact .inr fun h => h5 g h.symm e)
  have k4 : Ext w X4 := grown_any (h7.trans hE3) hg4 (fun g e => by have := hob g e; omega)
  have k5 : X4.heap[w.heap.size]? = some (.cells pc 24 (0, 0)) := (hg4.block w.heap.size (lt_of_blk (block_ext hE3 h6)) (fun e => by have := hob _ e.symm; omega)).trans (block_ext hE3 h6)
  have k6 : ∀ g, (Value.slice a (la ++ [x]).length c).ownBlock = some g → v.ownBlock ≠ some g := fun g e1 e2 => hn4 g (by have := (World.ownsRow.lt h4 g e2).2; have := hE3.size; omega) (fun e => h5 g e e2) e1
  have hgx : X4.grownBy (X4.setCell ⟨g1, 2, none⟩ (.slice a (la ++ [x]).length c)) (some g1) := grown_set _ _ _ _
  exact ⟨a, _, c, X4, hrun, k1, set4c k1 _, (other_blk hgx (by omega) (lt_of_blk k2)).trans k2, ho4.grown hgx (by omega), k3.grown hgx (by omega), k6, (other_blk hgx (by omega) (lt_of_blk k5)).trans k5, k4.set (by omega) _ _, h8, h9⟩
theorem TwoL.grow2 (h : TwoL w Y g1 g2 A B pc kv u v la lb) (hl : lb.length ≤ 20000) (x : Int) : ∃ (a : Option Addr) (n c : Nat) (X4 : World), (Builtin.append_ #[22, 22] 22 #[v, .slice (some ⟨Y.heap.size, 0, none⟩) 1 1]).run Tryz.prog (Y.alloc (.cells #[.int .i64 x] 3)) = .ok (.slice a n c) X4 ∧
    X4.heap[g2]? = some (.cells #[A, B, v, kv] 24 (0, 0)) ∧ TwoL w (X4.setCell ⟨g2, 2, none⟩ (.slice a n c)) g1 g2 A B pc kv u (.slice a n c) la (lb ++ [x]) := by
  obtain ⟨h1, h2, h3, h4, h5, h6, h7, h8, h9⟩ := h
  have hE3 : Ext Y (Y.alloc (.cells #[.int .i64 x] 3)) := (Ext.refl _).alloc _
  have hz3 : (Y.alloc (.cells #[.int .i64 x] 3)).cell? ⟨Y.heap.size, 0, none⟩ = some (.int .i64 x) := cell_of_blk (heap_alloc_new Y _) rfl
  have hlt2 := lt_of_blk h2
  obtain ⟨v4, X4, hrun, ho4, hg4, hn4⟩ := appendI_run2 (h4.ext hE3) (by have := hE3.size; omega) hl x Y.heap.size hz3 22
  have hob := own_from (h4.ext hE3)
  obtain ⟨a, c, e, -⟩ := ho4.shape
  subst e
  have k1 : X4.heap[g1]? = some (.cells #[A, B, u, kv] 24 (0, 0)) := (hg4.block g1 (lt_of_blk (block_ext hE3 h1)) (fun e => by have := hob _ e.symm; omega)).trans (block_ext hE3 h1)
  have k2 : X4.heap[g2]? = some (.cells #[A, B, v, kv] 24 (0, 0)) := (hg4.block g2 (lt_of_blk (block_ext hE3 h2)) (fun e => by have := hob _ e.symm; omega)).trans (block_ext hE3 h2)
  have k3 : OwnI 3 (g2 + 1) X4 u la := World.ownsRow.kept (h3.ext hE3) hg4 (by
    cases e : u.ownBlock with
    | none => exact .inl rfl
    | some g => exact .inr fun h => h5 g e h.symm)
  have k4 : Ext w X4 := grown_any (h7.trans hE3) hg4 (fun g e => by have := hob g e; omega)
  have k5 : X4.heap[w.heap.size]? = some (.cells pc 24 (0, 0)) := (hg4.block w.heap.size (lt_of_blk (block_ext hE3 h6)) (fun e => by have := hob _ e.symm; omega)).trans (block_ext hE3 h6)
  have k6 : ∀ g, u.ownBlock = some g → (Value.slice a (lb ++ [x]).length c).ownBlock ≠ some g := fun g e1 => hn4 g (by have := (World.ownsRow.lt h3 g e1).2; have := hE3.size; omega) (h5 g e1)
  have hgx : X4.grownBy (X4.setCell ⟨g2, 2, none⟩ (.slice a (lb ++ [x]).length c)) (some g2) := grown_set _ _ _ _
  exact ⟨a, _, c, X4, hrun, k2, (other_blk hgx (by omega) (lt_of_blk k1)).trans k1, set4c k2 _, k3.grown hgx (by omega), ho4.grown hgx (by omega), k6, (other_blk hgx (by omega) (lt_of_blk k5)).trans k5, k4.set (by omega) _ _, h8, h9⟩
end
end Go.Proofs.YtppjnpempgpkaaaGreat
