/- BoomProved: ways that are apart are no more than the sticks of water; the best water as lists. Plain. -/
import Derived.Test.YtppjnpempgpkaaaGreatSW
import Derived.Test.YtppjnpempgpkaaaGreatTG
namespace Go.Proofs.YtppjnpempgpkaaaGreat
set_option linter.unusedVariables false
set_option linter.unusedSimpArgs false
theorem steps_of_nbs {W H : Nat} (hW : W ≤ 8) (hH : H ≤ 8) : ∀ {ws : List Nat}, Nbs W H ws → StepsOk (gridP W H hW hH) (fun _ => false) (fun _ => true) [] ws
  | [], _ => trivial
  | [_], _ => trivial
  | c :: d :: w, h => by
    obtain ⟨k, h1, h2⟩ := h 0 c d rfl rfl
    exact ⟨⟨k, h1, rfl, h2⟩, rfl, by simp, steps_of_nbs hW hH (ws := d :: w) fun i a b ha hb => h (i + 1) a b (by simpa using ha) (by simpa using hb)⟩
theorem way_path {W H : Nat} {wn kn : List Nat} (hv : VP W H wn kn) {x : WI} (h1 : longB x = true) (h2 : cellsB (W * H) x = true) (h3 : wayB W H (natI wn) (natI kn) x = true) {u : Nat → Bool} (hu : Enc (W * H) (wantB wn) (memL kn) u) :
    ∃ c e, Pth (gp hv) c (usesW (gp hv) (toW x).1 (toW x).2) e ∧ u c = true ∧ inW u e = false := by
  have hok := wok_of hv.w8 hv.h8 h1 h2 h3
  have hne := hok.ne
  have hnb := hok.nbs
  have hcl := hok.cells
  have hed := hok.edge
  have e1 := hok.e1
  unfold wayB at h3
  rw [Bool.and_eq_true, Bool.and_eq_true] at h3
  obtain ⟨-, h4, h5⟩ := h3
  have ho : (toW x).2 = if x.2 = -1 then none else some x.2.toNat := rfl
  rw [e1] at h4
  unfold endB at h5
  rw [e1] at h5
  generalize (toW x).1 = ws at *
  generalize (toW x).2 = o at *
  have hlast : lastN ws < W * H := hcl _ (by
    obtain ⟨n, hn⟩ : ∃ n, ws.length = n + 1 := ⟨ws.length - 1, by have := List.length_pos_iff.2 hne; omega⟩
    unfold lastN
    cases hg : ws.getLast? with
    | none => rw [List.getLast?_eq_none_iff] at hg; exact absurd hg hne
    | some y => exact List.mem_of_getLast? hg)
  have hhd : ws.headD 0 ∈ wn := by
    cases ws with
    | nil => exact absurd rfl hne
    | cons c cs =>
      have : tAt (natI (c :: cs)) 0 = (c : Int) := rfl
      rw [this, hasB_nat, decide_eq_true_iff] at h4
      exact h4
  have hfin : o = none ∨ ∃ k, o = some k ∧ k < 4 ∧ (fun _ : Sd => true) (lastN ws, k) = true ∧ (fun _ : Nat => false) (lastN ws) = false ∧ (gp hv).bh (lastN ws, k) = none := by
    by_cases hx : x.2 = -1
    · left; rw [ho, if_pos hx]
    · right
      rw [if_neg hx] at ho h5
      refine ⟨_, ho, hed _ ho, rfl, rfl, ?_⟩
      rw [lastI_nat hne, Int.toNat_natCast, decide_eq_true_iff] at h5
      unfold nx at h5
      show bhP W H (lastN ws, x.2.toNat) = none
      cases hb : bhP W H (lastN ws, x.2.toNat) with
      | none => rfl
      | some d => rw [hb] at h5; simp at h5
  obtain ⟨hp, -, -⟩ := uses_is (G := gp hv) (keep := fun _ => false) (lt := fun _ => true) (src := []) (fun _ => trivial) o hne (steps_of_nbs hv.w8 hv.h8 hnb) hcl hfin
  refine ⟨_, _, hp, (hu _ (hv.want.lt _ hhd)).1 (decide_eq_true hhd), ?_⟩
  by_cases hx : x.2 = -1
  · rw [if_pos hx] at ho h5
    rw [ho, if_pos rfl]
    show u (lastN ws) = false
    rw [lastI_nat hne, hasB_nat, decide_eq_true_iff] at h5
    exact (hu _ hlast).2 (decide_eq_true h5)
  · rw [if_neg hx] at ho
    rw [ho, if_neg (by simp)]
    rfl
/-- Given ways that are apart are no more than the sticks of water that encloses. -/
theorem given_le {W H : Nat} {wn kn : List Nat} (hv : VP W H wn kn) {ls : List WI} (h : chkW (gp hv) W H (natI wn) (natI kn) ls = 0) {u : Nat → Bool} (hu : Enc (W * H) (wantB wn) (memL kn) u) : ls.length ≤ stk (gp hv) u := by
  unfold chkW at h
  by_cases h1 : 256 < ls.length ∨ ls.all longB = false
  · rw [if_pos h1] at h; cases h
  rw [if_neg h1] at h
  by_cases h2 : ls.all (cellsB (W * H)) = false
  · rw [if_pos h2] at h; cases h
  rw [if_neg h2] at h
  by_cases h3 : ls.all (wayB W H (natI wn) (natI kn)) = false
  · rw [if_pos h3] at h; cases h
  rw [if_neg h3] at h
  by_cases h4 : apB (gp hv) ls = false
  · rw [if_pos h4] at h; cases h
  rw [not_or, Bool.not_eq_false] at h1
  rw [Bool.not_eq_false] at h2 h3 h4
  have hp : ∀ x ∈ ls, ∃ c e, Pth (gp hv) c (usesW (gp hv) (toW x).1 (toW x).2) e ∧ u c = true ∧ inW u e = false := fun x hx => way_path hv (List.all_eq_true.1 h1.2 x hx) (List.all_eq_true.1 h2 x hx) (List.all_eq_true.1 h3 x hx) hu
  have hfl : (ls.map fun x => usesW (gp hv) (toW x).1 (toW x).2).flatten = sidesW (gp hv) (ls.map toW) := by
    unfold sidesW
    rw [List.flatMap_def, List.map_map]
    rfl
  have hok : ∀ s ∈ (ls.map fun x => usesW (gp hv) (toW x).1 (toW x).2).flatten, s.1 < (gp hv).n ∧ s.2 < 4 := fun s hs => by
    obtain ⟨ss, h5, h6⟩ := List.mem_flatten.1 hs
    obtain ⟨x, hx, rfl⟩ := List.mem_map.1 h5
    obtain ⟨c, e, h7, -⟩ := hp x hx
    exact h7.ok s h6
  have hnd : (ls.map fun x => usesW (gp hv) (toW x).1 (toW x).2).flatten.Nodup := by
    rw [hfl] at hok ⊢
    exact apF_nodup hok h4
  have := paths_le hnd hok fun ss hss => by
    obtain ⟨x, hx, rfl⟩ := List.mem_map.1 hss
    exact hp x hx
  rwa [List.length_map] at this
/-- The smallest and the largest best water as lists. -/
def smL {W H : Nat} {wn kn : List Nat} (hv : VP W H wn kn) : List Nat := (List.range (W * H)).filter (smallB (gp hv) 64 wn (memL kn))
def lgL {W H : Nat} {wn kn : List Nat} (hv : VP W H wn kn) : List Nat := (List.range (W * H)).filter (largeB (gp hv) 64 wn (memL kn))
theorem memL_filter {n : Nat} {f : Nat → Bool} {x : Nat} (h : x < n) : memL ((List.range n).filter f) x = f x := by
  unfold memL
  cases hf : f x with
  | true => exact decide_eq_true (List.mem_filter.2 ⟨List.mem_range.2 h, hf⟩)
  | false => exact decide_eq_false fun h => by rw [(List.mem_filter.1 h).2] at hf; cases hf
section
variable {W H : Nat} {wn kn : List Nat}
theorem sm_lst (hv : VP W H wn kn) : Lst (W * H) (smL hv) := filter_lst _ _
theorem lg_lst (hv : VP W H wn kn) : Lst (W * H) (lgL hv) := filter_lst _ _
theorem sm_stk (hv : VP W H wn kn) : stk (gp hv) (memL (smL hv)) = stk (gp hv) (smallB (gp hv) 64 wn (memL kn)) := stk_congr (gp hv) fun x hx => memL_filter hx
theorem lg_stk (hv : VP W H wn kn) : stk (gp hv) (memL (lgL hv)) = stk (gp hv) (smallB (gp hv) 64 wn (memL kn)) :=
  (stk_congr (gp hv) fun x hx => memL_filter hx).trans hv.pond.best.nl
theorem enc_of (hv : VP W H wn kn) {f : Nat → Bool} (h : Enc (W * H) (wantB wn) (memL kn) f) : encB wn kn ((List.range (W * H)).filter f) = true := by
  unfold encB
  rw [Bool.and_eq_true, List.all_eq_true, Bool.not_eq_true', List.any_eq_false]
  refine ⟨fun x hx => ?_, fun x hx => ?_⟩
  · have hl := hv.want.lt x hx
    rw [memL_filter hl]
    exact (h x hl).1 (decide_eq_true hx)
  · have hl := hv.keep.lt x hx
    rw [memL_filter hl, (h x hl).2 (decide_eq_true hx)]
    decide
theorem sm_enc (hv : VP W H wn kn) : encB wn kn (smL hv) = true := enc_of hv hv.pond.best.es
theorem lg_enc (hv : VP W H wn kn) : encB wn kn (lgL hv) = true := enc_of hv hv.pond.best.el
theorem enc_mem {ns : List Nat} (h : encB wn kn ns = true) : Enc (W * H) (wantB wn) (memL kn) (memL ns) := by
  unfold encB at h
  rw [Bool.and_eq_true, List.all_eq_true, Bool.not_eq_true', List.any_eq_false] at h
  intro x hx
  refine ⟨fun q => h.1 x (of_decide_eq_true q), fun q => ?_⟩
  have := h.2 x (of_decide_eq_true q)
  simpa using this
end
end Go.Proofs.YtppjnpempgpkaaaGreat
