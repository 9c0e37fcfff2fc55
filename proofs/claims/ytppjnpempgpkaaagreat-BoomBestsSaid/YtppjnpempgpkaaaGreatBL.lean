/- BoomBests: all best waters of the reference say what the smallest and the largest are. Plain. -/
import Derived.Test.YtppjnpempgpkaaaGreatAM
import Derived.Test.YtppjnpempgpkaaaGreatPG
namespace Go.Proofs.YtppjnpempgpkaaaGreat
set_option linter.unusedVariables false
set_option linter.unusedSimpArgs false
section
variable {W H : Nat} {wn kn : List Nat}
theorem stB_li (hv : VP W H wn kn) (F : List Nat) : ∀ b, LI (fun ns => (stk (gp hv) (memL ns) : Int)) ((List.range b).map fun z => wofN wn F z (W * H)) (stB hv F b)
  | 0 => LI.start _
  | b + 1 => by
    rw [stB_succ, List.range_succ, List.map_append]
    exact LI.step _ (fun ns => Int.natCast_nonneg _) (stB_li hv F b) _
theorem tkB_iff {F : List Nat} {b i : Nat} : tkB F b i F.length = true ↔ ∃ j, j < F.length ∧ F[j]? = some i ∧ b.testBit j = true := by
  unfold tkB
  rw [List.any_eq_true]
  constructor
  · rintro ⟨j, hj, h⟩
    rw [Bool.and_eq_true, decide_eq_true_iff] at h
    have hj := List.mem_range.1 hj
    refine ⟨j, hj, ?_, h.2⟩
    have := h.1
    rw [List.getD_eq_getElem?_getD, List.getElem?_eq_getElem hj] at this
    rw [List.getElem?_eq_getElem hj, ← this]; rfl
  · rintro ⟨j, hj, h1, h2⟩
    refine ⟨j, List.mem_range.2 hj, ?_⟩
    rw [Bool.and_eq_true, decide_eq_true_iff, List.getD_eq_getElem?_getD, h1]
    exact ⟨rfl, h2⟩
theorem wof_mem {F : List Nat} {b m x : Nat} : x ∈ wofN wn F b m ↔ x < m ∧ (x ∈ wn ∨ tkB F b x F.length = true) := by
  unfold wofN
  rw [List.mem_filter, List.mem_range, Bool.or_eq_true]
  unfold memL
  rw [decide_eq_true_iff]
theorem wof_enc (hv : VP W H wn kn) (b : Nat) : encB wn kn (wofN wn (freN wn kn (W * H)) b (W * H)) = true := by
  unfold encB
  rw [Bool.and_eq_true, List.all_eq_true, Bool.not_eq_true', List.any_eq_false]
  refine ⟨fun x hx => decide_eq_true (wof_mem.2 ⟨hv.want.lt x hx, .inl hx⟩), fun x hx h => ?_⟩
  obtain ⟨h1, h2 | h2⟩ := wof_mem.1 (of_decide_eq_true h)
  · exact hv.dis x hx h2
  · obtain ⟨j, -, h3, -⟩ := tkB_iff.1 h2
    exact (fre_mem.1 (List.mem_of_getElem? h3)).2.2 hx
/-- Each water that encloses is one of those that are tried. -/
theorem wof_all (hv : VP W H wn kn) {u : Nat → Bool} (hu : Enc (W * H) (wantB wn) (memL kn) u) : ∃ b, b < 2 ^ (freN wn kn (W * H)).length ∧ ∀ x, x < W * H → memL (wofN wn (freN wn kn (W * H)) b (W * H)) x = u x := by
  obtain ⟨F, hF⟩ : ∃ F, F = freN wn kn (W * H) := ⟨_, rfl⟩
  obtain ⟨b, hb, hbits⟩ := bits_of (fun j => u (F.getD j 0)) F.length
  rw [← hF]
  refine ⟨b, hb, fun x hx => ?_⟩
  have hnd : F.Nodup := by rw [hF]; exact List.nodup_range.filter _
  unfold memL
  rw [Bool.eq_iff_iff, decide_eq_true_iff, wof_mem]
  constructor
  · rintro ⟨-, h | h⟩
    · exact (hu x hx).1 (decide_eq_true h)
    · obtain ⟨j, hj, h1, h2⟩ := tkB_iff.1 h
      rw [hbits j hj, List.getD_eq_getElem?_getD, h1] at h2
      exact h2
  · intro h
    refine ⟨hx, ?_⟩
    by_cases hw : x ∈ wn
    · exact .inl hw
    · right
      have hk : x ∉ kn := fun hk => by rw [(hu x hx).2 (decide_eq_true hk)] at h; cases h
      have hm : x ∈ F := by rw [hF]; exact fre_mem.2 ⟨hx, hw, hk⟩
      obtain ⟨j, hj, e⟩ := List.getElem_of_mem hm
      have h1 : F[j]? = some x := by rw [List.getElem?_eq_getElem hj, e]
      refine tkB_iff.2 ⟨j, hj, h1, ?_⟩
      rw [hbits j hj, List.getD_eq_getElem?_getD, h1]
      exact h
theorem allB_facts (hv : VP W H wn kn) : (∃ ns, ns ∈ allB hv) ∧ (∀ ns ∈ allB hv, Lst (W * H) ns ∧ Enc (W * H) (wantB wn) (memL kn) (memL ns) ∧ stk (gp hv) (memL ns) = fewN hv) ∧ ∀ u, Enc (W * H) (wantB wn) (memL kn) u → stk (gp hv) u = fewN hv → ∃ ns ∈ allB hv, ∀ x, x < W * H → memL ns x = u x := by
  obtain ⟨F, hF⟩ : ∃ F, F = freN wn kn (W * H) := ⟨_, rfl⟩
  have hl := stB_li hv F (2 ^ F.length)
  have hall : allB hv = (stB hv F (2 ^ F.length)).2 := by rw [hF]; rfl
  generalize stB hv F (2 ^ F.length) = st at *
  have B := hv.pond.best
  have hone : ∀ b, b < 2 ^ F.length → wofN wn F b (W * H) ∈ (List.range (2 ^ F.length)).map fun z => wofN wn F z (W * H) := fun b hb => List.mem_map.2 ⟨b, List.mem_range.2 hb, rfl⟩
  have henc : ∀ ns ∈ (List.range (2 ^ F.length)).map (fun z => wofN wn F z (W * H)), Lst (W * H) ns ∧ Enc (W * H) (wantB wn) (memL kn) (memL ns) := fun ns hns => by
    obtain ⟨b, -, rfl⟩ := List.mem_map.1 hns
    exact ⟨wof_lst _ _ _ _, by rw [hF]; exact enc_mem (wof_enc hv b)⟩
  obtain ⟨b0, hb0, hs0⟩ := wof_all hv B.es
  rw [← hF] at hb0 hs0
  have hst0 : stk (gp hv) (memL (wofN wn F b0 (W * H))) = fewN hv := stk_congr (gp hv) hs0
  have hmin : st.1 = (fewN hv : Int) := by
    have h1 := hl.le _ (hone b0 hb0)
    obtain ⟨h2, v, hv1, hv2⟩ := hl.pos (fun e => by have := hone b0 hb0; rw [e] at this; cases this)
    have h3 := B.le _ (henc v hv1).2
    have h4 : fewN hv = stk (gp hv) (smallB (gp hv) 64 wn (memL kn)) := rfl
    omega
  have hmem : ∀ ns, ns ∈ allB hv ↔ ns ∈ (List.range (2 ^ F.length)).map (fun z => wofN wn F z (W * H)) ∧ stk (gp hv) (memL ns) = fewN hv := fun ns => by
    rw [hall, hl.out, List.mem_filter, decide_eq_true_iff, hmin]
    constructor
    · rintro ⟨a, b⟩; exact ⟨a, by omega⟩
    · rintro ⟨a, b⟩; exact ⟨a, by omega⟩
  refine ⟨⟨_, (hmem _).2 ⟨hone b0 hb0, hst0⟩⟩, fun ns hns => ?_, fun u hu hn => ?_⟩
  · obtain ⟨h1, h2⟩ := (hmem ns).1 hns
    exact ⟨(henc ns h1).1, (henc ns h1).2, h2⟩
  · obtain ⟨b, hb, hx⟩ := wof_all hv hu
    rw [← hF] at hb hx
    exact ⟨_, (hmem _).2 ⟨hone b hb, by rw [← hn]; exact stk_congr (gp hv) hx⟩, hx⟩
/-- The kind of a cell, as the reference counts it. -/
theorem kind_is (hv : VP W H wn kn) {x : Nat} (hx : x < W * H) : kindV ((allB hv).map natI) (x : Int) = kindK (smallB (gp hv) 64 wn (memL kn) x) (largeB (gp hv) 64 wn (memL kn) x) := by
  obtain ⟨⟨n0, hn0⟩, h1, h2⟩ := allB_facts hv
  obtain ⟨ha, hb⟩ := all_best (G := gp hv) hv.pond.best (out := (allB hv).map memL) (fun w hw => by
    obtain ⟨ns, hns, rfl⟩ := List.mem_map.1 hw
    exact ⟨(h1 ns hns).2.1, (h1 ns hns).2.2⟩) (fun u hu hn => by
    obtain ⟨ns, hns, he⟩ := h2 u hu hn
    exact ⟨_, List.mem_map.2 ⟨ns, hns, rfl⟩, he⟩) hx
  have hc : cntB ((allB hv).map natI) (x : Int) = (allB hv).countP fun ns => memL ns x := by
    unfold cntB
    rw [List.countP_map]
    refine List.countP_congr fun ns _ => ?_
    show hasB (natI ns) (x : Int) = true ↔ _
    rw [hasB_nat]
    exact Iff.rfl
  unfold kindV kindK
  rw [hc, List.length_map]
  have hs : ((allB hv).countP (fun ns => memL ns x) = (allB hv).length) ↔ smallB (gp hv) 64 wn (memL kn) x = true := by
    rw [ha, List.countP_eq_length]
    constructor
    · intro h w hw
      obtain ⟨ns, hns, rfl⟩ := List.mem_map.1 hw
      exact h ns hns
    · intro h ns hns
      exact h _ (List.mem_map.2 ⟨ns, hns, rfl⟩)
  have hg : ((allB hv).countP (fun ns => memL ns x) = 0) ↔ ¬ largeB (gp hv) 64 wn (memL kn) x = true := by
    rw [hb, List.countP_eq_zero]
    constructor
    · rintro h ⟨w, hw, he⟩
      obtain ⟨ns, hns, rfl⟩ := List.mem_map.1 hw
      exact h ns hns he
    · intro h ns hns he
      exact h ⟨_, List.mem_map.2 ⟨ns, hns, rfl⟩, he⟩
  by_cases q1 : smallB (gp hv) 64 wn (memL kn) x = true
  · rw [if_pos (hs.2 q1), if_pos q1]
  · rw [if_neg (fun h => q1 (hs.1 h)), if_neg q1]
    by_cases q2 : largeB (gp hv) 64 wn (memL kn) x = true
    · rw [if_neg (fun h => hg.1 h q2), if_pos q2]
    · rw [if_pos (hg.2 q2), if_neg q2]
theorem among_small (hv : VP W H wn kn) : amN ((allB hv).map natI) 2 (W * H) = smL hv := by
  unfold amN smL
  refine List.filter_congr fun x hx => ?_
  rw [kind_is hv (List.mem_range.1 hx)]
  unfold kindK
  cases smallB (gp hv) 64 wn (memL kn) x <;> cases largeB (gp hv) 64 wn (memL kn) x <;> rfl
theorem among_large (hv : VP W H wn kn) : amN ((allB hv).map natI) 1 (W * H) = lgL hv := by
  have B := hv.pond.best
  unfold amN lgL
  refine List.filter_congr fun x hx => ?_
  have hsl : smallB (gp hv) 64 wn (memL kn) x = true → largeB (gp hv) 64 wn (memL kn) x = true := (B.bt _ B.es B.ns x (List.mem_range.1 hx)).2
  rw [kind_is hv (List.mem_range.1 hx)]
  unfold kindK
  revert hsl
  cases smallB (gp hv) 64 wn (memL kn) x <;> cases largeB (gp hv) 64 wn (memL kn) x <;> intro hsl <;> first | rfl | (exfalso; revert hsl; decide)
end
end Go.Proofs.YtppjnpempgpkaaaGreat
