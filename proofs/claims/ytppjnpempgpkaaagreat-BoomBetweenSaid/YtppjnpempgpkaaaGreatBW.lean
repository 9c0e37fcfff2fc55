/- BoomBetween: plain. -/
import Derived.Test.YtppjnpempgpkaaaGreatMO
namespace Go.Proofs.YtppjnpempgpkaaaGreat
set_option linter.unusedVariables false
set_option linter.unusedSimpArgs false
def btK (bits : Nat) (s l : List Nat) (k : Nat) : List Nat := ((List.range k).filter fun i => bits.testBit i || memL s (l.getD i 0)).map fun i => l.getD i 0
theorem btK_succ (bits : Nat) (s l : List Nat) (k : Nat) : btK bits s l (k + 1) = btK bits s l k ++ if (bits.testBit k || memL s (l.getD k 0)) = true then [l.getD k 0] else [] := by
  unfold btK
  rw [List.range_succ, List.filter_append, List.map_append, List.filter_cons, List.filter_nil]
  by_cases h : (bits.testBit k || memL s (l.getD k 0)) = true
  · rw [if_pos h, if_pos h]; rfl
  · rw [if_neg h, if_neg h]; rfl
theorem btK_len (bits : Nat) (s l : List Nat) (k : Nat) : (btK bits s l k).length ≤ k := by
  unfold btK
  rw [List.length_map]
  exact filter_len k _
theorem btK_mem {bits : Nat} {s l : List Nat} {x : Nat} (h : x ∈ btK bits s l l.length) : x ∈ l := by
  obtain ⟨i, hi, rfl⟩ := List.mem_map.1 h
  have h1 := List.mem_range.1 (List.mem_filter.1 hi).1
  rw [List.getD_eq_getElem?_getD, List.getElem?_eq_getElem h1]
  exact List.getElem_mem h1
theorem btK_has {bits : Nat} {s l : List Nat} {x : Nat} (hs : x ∈ s) (hl : x ∈ l) : x ∈ btK bits s l l.length := by
  obtain ⟨i, hi, rfl⟩ := List.getElem_of_mem hl
  have e : l.getD i 0 = l[i] := by rw [List.getD_eq_getElem?_getD, List.getElem?_eq_getElem hi]; rfl
  refine List.mem_map.2 ⟨i, List.mem_filter.2 ⟨List.mem_range.2 hi, ?_⟩, e⟩
  rw [e, show memL s l[i] = true from decide_eq_true hs, Bool.or_true]
theorem btK_lst {bits m : Nat} {s l : List Nat} (h : Lst m l) : Lst m (btK bits s l l.length) := by
  refine ⟨?_, fun x hx => h.lt x (btK_mem hx)⟩
  unfold btK
  rw [List.pairwise_map]
  have h1 : ((List.range l.length).filter fun i => bits.testBit i || memL s (l.getD i 0)).Pairwise (· < ·) := List.pairwise_lt_range.filter _
  refine h1.imp_of_mem fun {a b} ha hb hab => ?_
  have la := List.mem_range.1 (List.mem_filter.1 ha).1
  have lb := List.mem_range.1 (List.mem_filter.1 hb).1
  rw [List.getD_eq_getElem?_getD, List.getD_eq_getElem?_getD, List.getElem?_eq_getElem la, List.getElem?_eq_getElem lb]
  exact List.pairwise_iff_getElem.1 h.up a b la lb hab
theorem all_has {a b : List Nat} (h : ∀ x ∈ a, x ∈ b) : (natI a).all (hasB (natI b)) = true := by
  rw [List.all_eq_true]
  intro y hy
  obtain ⟨x, hx, rfl⟩ := List.mem_map.1 hy
  rw [hasB_nat]
  exact decide_eq_true (h x hx)
section
variable {W H : Nat} {wn kn : List Nat}
theorem sm_in_lg (hv : VP W H wn kn) : ∀ x ∈ smL hv, x ∈ lgL hv := fun x hx => by
  obtain ⟨h1, h2⟩ := List.mem_filter.1 hx
  have B := hv.pond.best
  exact List.mem_filter.2 ⟨h1, (B.bt _ B.es B.ns x (List.mem_range.1 h1)).2 h2⟩
/-- Water that encloses has no fewer sticks; if as many, it lies between. -/
theorem between_of (hv : VP W H wn kn) {ns : List Nat} (hl : Lst (W * H) ns) (he : encB wn kn ns = true) : fewN hv ≤ stk (gp hv) (memL ns) ∧ (stk (gp hv) (memL ns) = fewN hv → (natI (smL hv)).all (hasB (natI ns)) = true ∧ (natI ns).all (hasB (natI (lgL hv))) = true) := by
  have B := hv.pond.best
  refine ⟨B.le _ (enc_mem he), fun e => ⟨all_has fun x hx => ?_, all_has fun x hx => ?_⟩⟩
  · obtain ⟨h1, h2⟩ := List.mem_filter.1 hx
    exact of_decide_eq_true ((B.bt _ (enc_mem he) e x (List.mem_range.1 h1)).1 h2)
  · have hlt := hl.lt x hx
    exact List.mem_filter.2 ⟨List.mem_range.2 hlt, (B.bt _ (enc_mem he) e x hlt).2 (decide_eq_true hx)⟩
theorem btK_enc (hv : VP W H wn kn) (bits : Nat) : encB wn kn (btK bits (smL hv) (lgL hv) (lgL hv).length) = true := by
  have h1 := enc_mem (W := W) (H := H) (sm_enc hv)
  have h2 := enc_mem (W := W) (H := H) (lg_enc hv)
  unfold encB
  rw [Bool.and_eq_true, List.all_eq_true, Bool.not_eq_true', List.any_eq_false]
  refine ⟨fun x hx => ?_, fun x hx h => ?_⟩
  · have hs : x ∈ smL hv := of_decide_eq_true ((h1 x (hv.want.lt x hx)).1 (decide_eq_true hx))
    exact decide_eq_true (btK_has hs (sm_in_lg hv x hs))
  · have hm := btK_mem (of_decide_eq_true h)
    have := (h2 x (hv.keep.lt x hx)).2 (decide_eq_true hx)
    rw [show memL (lgL hv) x = true from decide_eq_true hm] at this
    cases this
end
end Go.Proofs.YtppjnpempgpkaaaGreat
