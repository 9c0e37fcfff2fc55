/- The ways that are returned: right, apart, as many as the fewest sticks. Plain. -/
import Derived.Test.YtppjnpempgpkaaaGreatR6
import Derived.Test.YtppjnpempgpkaaaGreatJ3
namespace Go.Proofs.YtppjnpempgpkaaaGreat
set_option linter.unusedVariables false
set_option linter.unusedSimpArgs false
theorem StepsOk.at {G : Grid} {keep : Nat → Bool} {lt : Sd → Bool} {src : List Nat} : ∀ {w : List Nat}, StepsOk G keep lt src w → ∀ {i c d : Nat}, w[i]? = some c → w[i + 1]? = some d → ∃ k, k < 4 ∧ G.bh (c, k) = some d
  | [], _, i, c, d, hc, _ => by simp at hc
  | [x], _, i, c, d, _, hd => by simp at hd
  | x :: y :: w, h, 0, c, d, hc, hd => by
    simp at hc hd
    subst hc hd
    obtain ⟨⟨k, hk, -, hb⟩, -⟩ := h
    exact ⟨k, hk, hb⟩
  | x :: y :: w, h, i + 1, c, d, hc, hd => StepsOk.at (w := y :: w) h.2.2.2 (i := i) (by simpa using hc) (by simpa using hd)
theorem step_of_nbs {W H : Nat} (hW : W ≤ 8) (hH : H ≤ 8) {ws : List Nat} (hc : ∀ x ∈ ws, x < W * H) (h : Nbs W H ws) : stepB W H (natI ws) (ws.length - 1) = true := by
  unfold stepB
  rw [List.all_eq_true]
  intro i hi
  rw [List.mem_range] at hi
  obtain ⟨c, hci⟩ := get_some (xs := ws) (k := i) (by omega)
  obtain ⟨d, hdi⟩ := get_some (xs := ws) (k := i + 1) (by omega)
  obtain ⟨k, hk, hb⟩ := h i c d hci hdi
  rw [tAt_some (natI_at hci), tAt_some (natI_at hdi), Int.toNat_natCast, decide_eq_true_iff]
  have h1 := btI_btw (G := gridP W H hW hH) hW hH rfl rfl (hc c (List.mem_of_getElem? hci)) hk hb
  have := h1.2
  rw [h1.1]
  omega
section
variable {W H : Nat} {wn kn : List Nat}
theorem wayR_fine (hv : VP W H wn kn) {y : WY} (h : WayR (gp hv) wn (memL kn) y.1 y.2) : longB (inI y) = true ∧ cellsB (W * H) (inI y) = true ∧ wayB W H (natI wn) (natI kn) (inI y) = true := by
  obtain ⟨ws, o⟩ := y
  obtain ⟨hne, hhd, hnd, hcl, hst, hfin⟩ := h
  dsimp only at hne hhd hnd hcl hst hfin
  have hcl : ∀ x ∈ ws, x < W * H := hcl
  have h64 := hv.n64
  have hlen : ws.length ≤ 64 := nodup_lt 64 hnd fun x hx => by have := hcl x hx; omega
  have hpos : 0 < ws.length := List.length_pos_iff.2 hne
  have hst : StepsOk (gridP W H hv.w8 hv.h8) (fun _ => false) (fun _ => true) [] ws := hst
  refine ⟨?_, ?_, ?_⟩
  · unfold longB inI
    dsimp only
    rw [natI_len, Bool.and_eq_true, decide_eq_true_iff, decide_eq_true_iff]
    omega
  · unfold cellsB inI
    dsimp only
    rw [Bool.and_eq_true, inn_mem, Bool.and_eq_true, decide_eq_true_iff, decide_eq_true_iff]
    refine ⟨fun x hx => ?_, ?_⟩
    · unfold natI at hx
      obtain ⟨c, hc, rfl⟩ := List.mem_map.1 hx
      have := hcl c hc
      omega
    · rcases hfin with ⟨rfl, -⟩ | ⟨k, rfl, hk, -⟩
      · simp [oI]
      · simp [oI] <;> omega
  · unfold wayB inI
    dsimp only
    rw [natI_len, step_of_nbs hv.w8 hv.h8 hcl (fun i c d hc hd => StepsOk.at hst hc hd), Bool.true_and, Bool.and_eq_true]
    constructor
    · obtain ⟨c, cs, rfl⟩ : ∃ c cs, ws = c :: cs := by
        cases ws with
        | nil => exact absurd rfl hne
        | cons c cs => exact ⟨c, cs, rfl⟩
      have e : tAt (natI (c :: cs)) 0 = (c : Int) := tAt_some rfl
      rw [e, hasB_nat, decide_eq_true_iff]
      exact hhd
    · unfold endB
      dsimp only
      rcases hfin with ⟨rfl, hk⟩ | ⟨k, rfl, hk, hb⟩
      · rw [if_pos (show oI none = -1 from rfl), lastI_nat hne, hasB_nat]
        exact hk
      · rw [if_neg (by simp [oI] <;> omega), decide_eq_true_iff, lastI_nat hne]
        show nx W H (lastN ws : Int).toNat ((k : Int)).toNat = -1
        rw [Int.toNat_natCast, Int.toNat_natCast]
        unfold nx
        have hb : bhP W H (lastN ws, k) = none := hb
        rw [hb]
/-- A way uses a side, and sides are few. -/
theorem uses_some {G : Grid} {o : Option Nat} : ∀ {ws : List Nat}, ws ≠ [] → (o = none → 1 < ws.length) → usesW G ws o ≠ []
  | [], h, _ => absurd rfl h
  | [c], _, h => by
    cases o with
    | none => exact absurd (h rfl) (by simp)
    | some k => simp [usesW]
  | c :: d :: w, _, _ => by simp [usesW]
theorem flat_long {α β : Type} {f : α → List β} : ∀ {L : List α}, (∀ x ∈ L, f x ≠ []) → L.length ≤ (L.flatMap f).length
  | [], _ => by simp
  | x :: L, h => by
    have h1 := flat_long (f := f) (L := L) fun y hy => h y (by simp [hy])
    have h2 : 0 < (f x).length := List.length_pos_iff.2 (h x (by simp))
    rw [List.flatMap_cons, List.length_append, List.length_cons]
    omega
theorem sides_few {G : Grid} {l : List Sd} (hn : l.Nodup) (ho : ∀ s ∈ l, okS G s) : l.length ≤ 4 * G.n := by
  have h1 : (l.map fun s : Sd => 4 * s.1 + s.2).Nodup := nd_map_on (fun s hs t ht e => by
    have h2 := ho s hs; have h3 := ho t ht
    obtain ⟨a, b⟩ := s; obtain ⟨c, d⟩ := t
    unfold okS at h2 h3
    dsimp only at h2 h3 e
    exact Prod.ext (by show a = c; omega) (by show b = d; omega)) hn
  have h4 := nodup_lt (4 * G.n) h1 fun x hx => by
    obtain ⟨s, hs, rfl⟩ := List.mem_map.1 hx
    have h2 := ho s hs
    unfold okS at h2
    omega
  rw [List.length_map] at h4
  exact h4
theorem ways_few (hv : VP W H wn kn) {L : List WY} (h2 : ∀ w ∈ L, WayR (gp hv) wn (memL kn) w.1 w.2) (h3 : (sidesW (gp hv) L).Nodup) (hok : ∀ t ∈ sidesW (gp hv) L, okS (gp hv) t) : L.length ≤ 256 := by
  have h1 : L.length ≤ (sidesW (gp hv) L).length := flat_long fun y hy => uses_some (h2 y hy).ne fun ho => by
    obtain ⟨ws, o⟩ := y
    have hw := h2 _ hy
    dsimp only at ho hw ⊢
    subst ho
    match ws, hw with
    | [], hw => exact absurd rfl hw.ne
    | [c], hw =>
      exfalso
      have hc : c ∈ wn := hw.hd
      rcases hw.fin with ⟨-, hk⟩ | ⟨k, hk, -⟩
      · have hk : c ∈ kn := by
          have : memL kn c = true := by simpa [lastN] using hk
          exact of_decide_eq_true this
        exact hv.dis c hk hc
      · cases hk
    | c :: d :: l, _ => simp
  have h4 := sides_few h3 hok
  have h5 : (gp hv).n = W * H := rfl
  have := hv.n64
  omega
/-- The ways that are returned. -/
theorem ways_fine (hv : VP W H wn kn) : chkW (gp hv) W H (natI wn) (natI kn) ((takeAll (gp hv) 64 (memL kn) wn (flowF (gp hv) 64 wn (memL kn))).2.map inI) = 0 ∧ ((takeAll (gp hv) 64 (memL kn) wn (flowF (gp hv) 64 wn (memL kn))).2.map inI).length = stk (gp hv) (smallB (gp hv) 64 wn (memL kn)) ∧ ((takeAll (gp hv) 64 (memL kn) wn (flowF (gp hv) 64 wn (memL kn))).2.map inI).length ≤ 256 := by
  have hp := hv.pond
  obtain ⟨b, hF, ⟨-, hb⟩, -⟩ := best_is hp
  obtain ⟨h1, h2, h3, h4⟩ := ways_is hp hF
  generalize (takeAll (gp hv) 64 (memL kn) wn (flowF (gp hv) 64 wn (memL kn))).2 = L at *
  have hfine := fun y hy => wayR_fine hv (h2 y hy)
  have hok : ∀ t ∈ sidesW (gp hv) L, okS (gp hv) t := fun t ht => hF.ok t (h4 t ht)
  have hlen : (L.map inI).length = stk (gp hv) (smallB (gp hv) 64 wn (memL kn)) := by rw [List.length_map]; omega
  have hcn : ((sidesW (gp hv) L).map (cn (gp hv))).Nodup := nd_map_on (fun s hs t ht e => by
    rcases (cn_eq (hok t ht) (hok s hs)).1 e with h5 | ⟨d, h6, h7⟩
    · exact h5
    · exfalso
      rw [h7] at hs
      exact hF.anti t (h4 t ht) d h6 (h4 _ hs)) h3
  have hne : ∀ y ∈ L, y.1 ≠ [] ∧ ∀ x ∈ y.1, True := fun y hy => ⟨(h2 y hy).ne, fun _ _ => trivial⟩
  have h256 : L.length ≤ 256 := ways_few hv h2 h3 hok
  have hto : (L.map inI).map toW = L := by
    rw [List.map_map]
    refine (List.map_congr_left fun y hy => ?_).trans (List.map_id _)
    exact toW_inI fun k hk => by
      rcases (h2 y hy).fin with ⟨q, -⟩ | ⟨j, q, hj, -⟩
      · rw [hk] at q; cases q
      · rw [hk] at q; cases q; exact hj
  refine ⟨?_, hlen, by rw [List.length_map]; exact h256⟩
  unfold chkW
  have e1 : (L.map inI).all longB = true := List.all_eq_true.2 fun x hx => by
    obtain ⟨y, hy, rfl⟩ := List.mem_map.1 hx
    exact (hfine y hy).1
  have e2 : (L.map inI).all (cellsB (W * H)) = true := List.all_eq_true.2 fun x hx => by
    obtain ⟨y, hy, rfl⟩ := List.mem_map.1 hx
    exact (hfine y hy).2.1
  have e3 : (L.map inI).all (wayB W H (natI wn) (natI kn)) = true := List.all_eq_true.2 fun x hx => by
    obtain ⟨y, hy, rfl⟩ := List.mem_map.1 hx
    exact (hfine y hy).2.2
  have e4 : apB (gp hv) (L.map inI) = true := by
    unfold apB
    rw [hto]
    exact (apF_iff (fun t ht => by cases ht) hok).2 ⟨hcn, fun t _ => by simp⟩
  rw [e1, e2, e3, e4, if_neg (by rw [List.length_map]; simp; omega), if_neg (by decide), if_neg (by decide), if_neg (by decide)]
end
end Go.Proofs.YtppjnpempgpkaaaGreat
