/- BoomTogether: what it wants of plain facts; two own lists in the boxes of two ponds. -/
import Derived.Test.YtppjnpempgpkaaaGreatTA
import Derived.Test.YtppjnpempgpkaaaGreatFW
import Derived.Test.YtppjnpempgpkaaaGreatJ3
namespace Go.Proofs.YtppjnpempgpkaaaGreat
set_option linter.unusedVariables false
set_option linter.unusedSimpArgs false
def tqN (kn : List Nat) (b k : Nat) : List Nat := (List.range k).filter fun i => b.testBit i && !memL kn i
def tbN (wn kn : List Nat) (b k : Nat) : List Nat := (List.range k).filter fun i => (b.testBit i && !memL kn i) || memL wn i
theorem tqN_succ (kn : List Nat) (b k : Nat) : tqN kn b (k + 1) = tqN kn b k ++ if (b.testBit k && !memL kn k) = true then [k] else [] := by
  unfold tqN
  rw [List.range_succ, List.filter_append, List.filter_cons, List.filter_nil]
theorem tbN_succ (wn kn : List Nat) (b k : Nat) : tbN wn kn b (k + 1) = tbN wn kn b k ++ if ((b.testBit k && !memL kn k) || memL wn k) = true then [k] else [] := by
  unfold tbN
  rw [List.range_succ, List.filter_append, List.filter_cons, List.filter_nil]
theorem tq_vp {W H : Nat} {wn kn : List Nat} (hv : VP W H wn kn) (b : Nat) : VP W H (tqN kn b (W * H)) kn where
  w1 := hv.w1
  w8 := hv.w8
  h1 := hv.h1
  h8 := hv.h8
  want := filter_lst _ _
  keep := hv.keep
  dis := fun x hx h => by
    have h1 := (List.mem_filter.1 h).2
    rw [show memL kn x = true from decide_eq_true hx] at h1
    simp at h1
theorem tb_vp {W H : Nat} {wn kn : List Nat} (hv : VP W H wn kn) (b : Nat) : VP W H (tbN wn kn b (W * H)) kn where
  w1 := hv.w1
  w8 := hv.w8
  h1 := hv.h1
  h8 := hv.h8
  want := filter_lst _ _
  keep := hv.keep
  dis := fun x hx h => by
    have h1 := (List.mem_filter.1 h).2
    rw [show memL kn x = true from decide_eq_true hx, show memL wn x = false from decide_eq_false (hv.dis x hx)] at h1
    simp at h1
theorem together_all {W H : Nat} {wn kn : List Nat} (hv : VP W H wn kn) (b : Nat) :
    stk (gp (tb_vp hv b)) (smallB (gp (tb_vp hv b)) 64 (tbN wn kn b (W * H)) (memL kn)) ≤ stk (gp hv) (smallB (gp hv) 64 wn (memL kn)) + stk (gp (tq_vp hv b)) (smallB (gp (tq_vp hv b)) 64 (tqN kn b (W * H)) (memL kn)) ∧
    max (stk (gp hv) (smallB (gp hv) 64 wn (memL kn))) (stk (gp (tq_vp hv b)) (smallB (gp (tq_vp hv b)) 64 (tqN kn b (W * H)) (memL kn))) ≤ stk (gp (tb_vp hv b)) (smallB (gp (tb_vp hv b)) 64 (tbN wn kn b (W * H)) (memL kn)) := by
  have B1 := hv.pond.best
  have B2 := (tq_vp hv b).pond.best
  have B3 := (tb_vp hv b).pond.best
  refine together (G := gp hv) B1 B2 B3 fun x => ?_
  unfold wantB
  rw [decide_eq_true_iff, decide_eq_true_iff, decide_eq_true_iff]
  unfold tbN tqN
  rw [List.mem_filter, List.mem_filter]
  constructor
  · rintro ⟨h1, h2⟩
    rw [Bool.or_eq_true] at h2
    rcases h2 with h2 | h2
    · exact .inr ⟨h1, h2⟩
    · exact .inl (of_decide_eq_true h2)
  · rintro (h | ⟨h1, h2⟩)
    · exact ⟨List.mem_range.2 (hv.want.lt x h), by rw [show memL wn x = true from decide_eq_true h]; simp⟩
    · exact ⟨h1, by rw [h2]; rfl⟩
theorem wat_lst (W H : Nat) (wn kn : List Nat) (b : Nat) : Lst (W * H) (watN W H wn kn b (W * H)) := filter_lst _ _
theorem wat_mem {W H : Nat} {wn kn : List Nat} {b x : Nat} : x ∈ watN W H wn kn b (W * H) ↔ x < W * H ∧ memL kn x = false ∧ (b.testBit x = true ∨ memL wn x = true) := by
  unfold watN
  rw [List.mem_filter, List.mem_range, Bool.and_eq_true, Bool.not_eq_true', Bool.or_eq_true]
theorem wat_enc {W H : Nat} {wn kn : List Nat} (hv : VP W H wn kn) (b : Nat) : encB wn kn (watN W H wn kn b (W * H)) = true := by
  unfold encB
  rw [Bool.and_eq_true, List.all_eq_true, Bool.not_eq_true', List.any_eq_false]
  refine ⟨fun x hx => decide_eq_true (wat_mem.2 ⟨hv.want.lt x hx, decide_eq_false fun h => hv.dis x h hx, .inr (decide_eq_true hx)⟩), fun x hx h => ?_⟩
  have h1 := (wat_mem.1 (of_decide_eq_true h)).2.1
  rw [show memL kn x = true from decide_eq_true hx] at h1
  cases h1
theorem wat_sub {W H : Nat} {wn kn : List Nat} (hv : VP W H wn kn) (a b : Nat) :
    stk (gp hv) (memL (watN W H wn kn (a &&& b) (W * H))) + stk (gp hv) (memL (watN W H wn kn (a ||| b) (W * H))) ≤ stk (gp hv) (memL (watN W H wn kn a (W * H))) + stk (gp hv) (memL (watN W H wn kn b (W * H))) := by
  have h := stk_sub (gp hv) (memL (watN W H wn kn a (W * H))) (memL (watN W H wn kn b (W * H)))
  have e1 : (fun x => memL (watN W H wn kn a (W * H)) x && memL (watN W H wn kn b (W * H)) x) = memL (watN W H wn kn (a &&& b) (W * H)) := by
    funext x
    rw [Bool.eq_iff_iff, Bool.and_eq_true]
    unfold memL
    rw [decide_eq_true_iff, decide_eq_true_iff, decide_eq_true_iff, wat_mem, wat_mem, wat_mem, Nat.testBit_and, Bool.and_eq_true]
    constructor
    · rintro ⟨⟨p, q, r⟩, -, -, s⟩
      refine ⟨p, q, ?_⟩
      rcases r with r | r
      · rcases s with s | s
        · exact .inl ⟨r, s⟩
        · exact .inr s
      · exact .inr r
    · rintro ⟨p, q, ⟨r, s⟩ | r⟩
      · exact ⟨⟨p, q, .inl r⟩, p, q, .inl s⟩
      · exact ⟨⟨p, q, .inr r⟩, p, q, .inr r⟩
  have e2 : (fun x => memL (watN W H wn kn a (W * H)) x || memL (watN W H wn kn b (W * H)) x) = memL (watN W H wn kn (a ||| b) (W * H)) := by
    funext x
    rw [Bool.eq_iff_iff, Bool.or_eq_true]
    unfold memL
    rw [decide_eq_true_iff, decide_eq_true_iff, decide_eq_true_iff, wat_mem, wat_mem, wat_mem, Nat.testBit_or, Bool.or_eq_true]
    constructor
    · rintro (⟨p, q, r⟩ | ⟨p, q, r⟩)
      · rcases r with r | r
        · exact ⟨p, q, .inl (.inl r)⟩
        · exact ⟨p, q, .inr r⟩
      · rcases r with r | r
        · exact ⟨p, q, .inl (.inr r)⟩
        · exact ⟨p, q, .inr r⟩
    · rintro ⟨p, q, (r | r) | r⟩
      · exact .inl ⟨p, q, .inl r⟩
      · exact .inr ⟨p, q, .inl r⟩
      · exact .inl ⟨p, q, .inr r⟩
  rw [e1, e2] at h
  exact h
end Go.Proofs.YtppjnpempgpkaaaGreat
