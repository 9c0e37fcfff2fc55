/- Ways that are apart: as the program asks it, and as the reference does. The error of ways; plain forms. -/
import Derived.Test.YtppjnpempgpkaaaGreatAA
import Derived.Test.YtppjnpempgpkaaaGreatP
import Derived.Test.YtppjnpempgpkaaaGreatF5
namespace Go.Proofs.YtppjnpempgpkaaaGreat
set_option linter.unusedVariables false
set_option linter.unusedSimpArgs false
/-- A side as one of the cell behind it is used. -/
def tnB (G : Grid) (U : List Sd) (s : Sd) : Bool := match G.bh s with
  | some d => memB U (d, opp s.2)
  | none => false
/-- No side is used twice, in the one direction or the other. -/
def apF (G : Grid) : List Sd → List Sd → Bool
  | _, [] => true
  | U, s :: L => !(memB U s || tnB G U s) && apF G (s :: U) L
/-- The lesser one of both names of a side. -/
def cn (G : Grid) (s : Sd) : Nat := match G.bh s with
  | some d => min (4 * s.1 + s.2) (4 * d + opp s.2)
  | none => 4 * s.1 + s.2
def okS (G : Grid) (s : Sd) : Prop := s.1 < G.n ∧ s.2 < 4
theorem cn_eq {G : Grid} {s t : Sd} (hs : okS G s) (ht : okS G t) : cn G t = cn G s ↔ t = s ∨ ∃ d, G.bh s = some d ∧ t = (d, opp s.2) := by
  obtain ⟨c, k⟩ := s
  obtain ⟨e, j⟩ := t
  obtain ⟨h1, h2⟩ := hs
  obtain ⟨h3, h4⟩ := ht
  dsimp only at h1 h2 h3 h4
  have ho := @opp_lt k
  have hp := @opp_lt j
  unfold cn
  dsimp only
  constructor
  · intro h
    cases hb : G.bh (c, k) with
    | none =>
      cases hd : G.bh (e, j) with
      | none =>
        rw [hb, hd] at h; dsimp only at h
        exact .inl (Prod.ext (by show e = c; omega) (by show j = k; omega))
      | some d =>
        rw [hb, hd] at h; dsimp only at h
        obtain ⟨q1, q2⟩ := G.back e j d h3 h4 hd
        by_cases hm : 4 * e + j ≤ 4 * d + opp j
        · rw [Nat.min_eq_left hm] at h
          have e1 : e = c := by omega
          have e2 : j = k := by omega
          subst e1 e2; rw [hb] at hd; cases hd
        · rw [Nat.min_eq_right (show 4 * d + opp j ≤ 4 * e + j by omega)] at h
          have e1 : d = c := by omega
          have e2 : opp j = k := by omega
          rw [e1, e2, hb] at q2; cases q2
    | some d =>
      obtain ⟨q1, q2⟩ := G.back c k d h1 h2 hb
      cases hd : G.bh (e, j) with
      | none =>
        rw [hb, hd] at h; dsimp only at h
        by_cases hm : 4 * c + k ≤ 4 * d + opp k
        · rw [Nat.min_eq_left hm] at h
          have e1 : e = c := by omega
          have e2 : j = k := by omega
          subst e1 e2; rw [hb] at hd; cases hd
        · rw [Nat.min_eq_right (show 4 * d + opp k ≤ 4 * c + k by omega)] at h
          have e1 : e = d := by omega
          have e2 : j = opp k := by omega
          exact .inr ⟨d, rfl, Prod.ext e1 e2⟩
      | some f =>
        obtain ⟨r1, r2⟩ := G.back e j f h3 h4 hd
        rw [hb, hd] at h; dsimp only at h
        by_cases hm : 4 * c + k ≤ 4 * d + opp k
        · rw [Nat.min_eq_left hm] at h
          by_cases hn : 4 * e + j ≤ 4 * f + opp j
          · rw [Nat.min_eq_left hn] at h
            exact .inl (Prod.ext (by show e = c; omega) (by show j = k; omega))
          · rw [Nat.min_eq_right (show 4 * f + opp j ≤ 4 * e + j by omega)] at h
            have e1 : f = c := by omega
            have e2 : opp j = k := by omega
            rw [e1, e2, hb] at r2
            have e3 : d = e := Option.some.inj r2
            exact .inr ⟨d, rfl, Prod.ext e3.symm (by show j = opp k; rw [← e2]; exact (opp_opp h4).symm)⟩
        · rw [Nat.min_eq_right (show 4 * d + opp k ≤ 4 * c + k by omega)] at h
          by_cases hn : 4 * e + j ≤ 4 * f + opp j
          · rw [Nat.min_eq_left hn] at h
            exact .inr ⟨d, rfl, Prod.ext (by show e = d; omega) (by show j = opp k; omega)⟩
          · rw [Nat.min_eq_right (show 4 * f + opp j ≤ 4 * e + j by omega)] at h
            have e1 : f = d := by omega
            have e2 : opp j = opp k := by omega
            rw [e1, e2, q2] at r2
            have e3 : c = e := Option.some.inj r2
            refine .inl (Prod.ext e3.symm ?_)
            show j = k
            rw [← opp_opp h4, ← opp_opp h2, e2]
  · rintro (h | ⟨d, hb, h⟩)
    · cases h; rfl
    · obtain ⟨q1, q2⟩ := G.back c k d h1 h2 hb
      cases h
      rw [q2, hb]
      dsimp only
      rw [opp_opp h2]
      exact Nat.min_comm _ _
theorem clash_iff {G : Grid} {U : List Sd} {s : Sd} (hU : ∀ t ∈ U, okS G t) (hs : okS G s) : (memB U s || tnB G U s) = true ↔ cn G s ∈ U.map (cn G) := by
  rw [Bool.or_eq_true, memB_iff, List.mem_map]
  constructor
  · rintro (h | h)
    · exact ⟨s, h, rfl⟩
    · unfold tnB at h
      cases hb : G.bh s with
      | none => rw [hb] at h; cases h
      | some d =>
        rw [hb] at h
        have := memB_iff.1 h
        exact ⟨_, this, (cn_eq hs (hU _ this)).2 (.inr ⟨d, hb, rfl⟩)⟩
  · rintro ⟨t, ht, e⟩
    rcases (cn_eq hs (hU t ht)).1 e with rfl | ⟨d, hb, rfl⟩
    · exact .inl ht
    · refine .inr ?_
      unfold tnB
      rw [hb]
      exact memB_iff.2 ht
theorem apF_iff {G : Grid} : ∀ {L U : List Sd}, (∀ t ∈ U, okS G t) → (∀ t ∈ L, okS G t) → (apF G U L = true ↔ (L.map (cn G)).Nodup ∧ ∀ t ∈ L, cn G t ∉ U.map (cn G))
  | [], U, _, _ => by simp [apF]
  | s :: L, U, hU, hL => by
    have hs := hL s (by simp)
    have hL' : ∀ t ∈ L, okS G t := fun t ht => hL t (by simp [ht])
    have hU' : ∀ t ∈ s :: U, okS G t := fun t ht => by
      rcases List.mem_cons.1 ht with rfl | h
      · exact hs
      · exact hU t h
    unfold apF
    rw [Bool.and_eq_true, apF_iff hU' hL', List.map_cons (l := L), List.nodup_cons, Bool.not_eq_true', ← Bool.not_eq_true, clash_iff hU hs]
    constructor
    · rintro ⟨h1, h2, h3⟩
      refine ⟨⟨fun hm => ?_, h2⟩, fun t ht => ?_⟩
      · obtain ⟨t, ht, e⟩ := List.mem_map.1 hm
        exact h3 t ht (by rw [List.map_cons, e]; simp)
      · rcases List.mem_cons.1 ht with rfl | ht
        · exact h1
        · exact fun hm => h3 t ht (by rw [List.map_cons]; exact List.mem_cons_of_mem _ hm)
    · rintro ⟨⟨h1, h2⟩, h3⟩
      refine ⟨h3 s (by simp), h2, fun t ht hm => ?_⟩
      rw [List.map_cons] at hm
      rcases List.mem_cons.1 hm with e | hm
      · exact h1 (List.mem_map.2 ⟨t, ht, e⟩)
      · exact h3 t (by simp [ht]) hm
theorem apF_snoc {G : Grid} : ∀ {L U : List Sd} {s : Sd}, apF G U (L ++ [s]) = (apF G U L && !(memB (L.reverse ++ U) s || tnB G (L.reverse ++ U) s))
  | [], U, s => by simp [apF]
  | t :: L, U, s => by
    show (!(memB U t || tnB G U t) && apF G (t :: U) (L ++ [s])) = _
    rw [apF_snoc, ← Bool.and_assoc]
    simp [apF]
theorem apF_stop {G : Grid} : ∀ {L R U : List Sd} {s : Sd}, (memB (L.reverse ++ U) s || tnB G (L.reverse ++ U) s) = true → apF G U (L ++ s :: R) = false
  | [], R, U, s, h => by
    show (!(memB U s || tnB G U s) && _) = false
    rw [show (memB U s || tnB G U s) = true from h]; rfl
  | t :: L, R, U, s, h => by
    show (!(memB U t || tnB G U t) && apF G (t :: U) (L ++ s :: R)) = false
    rw [apF_stop (by simpa using h), Bool.and_false]
theorem memB_congr {U V : List Sd} (h : ∀ s, s ∈ U ↔ s ∈ V) (s : Sd) : memB U s = memB V s := by unfold memB; exact decide_eq_decide.2 (h s)
theorem tnB_congr {G : Grid} {U V : List Sd} (h : ∀ s, s ∈ U ↔ s ∈ V) (s : Sd) : tnB G U s = tnB G V s := by
  unfold tnB
  cases G.bh s with
  | none => rfl
  | some d => exact memB_congr h _
/-- Sides of a flow are apart. -/
theorem apF_flow {G : Grid} {F : List Sd} (hok : ∀ s ∈ F, okS G s) (hanti : ∀ s ∈ F, ∀ d, G.bh s = some d → (d, opp s.2) ∉ F) {L : List Sd} (hn : L.Nodup) (hs : ∀ s ∈ L, s ∈ F) : apF G [] L = true := by
  refine (apF_iff (fun t ht => by cases ht) (fun t ht => hok t (hs t ht))).2 ⟨?_, fun t _ => by simp⟩
  refine nd_map_on (fun a ha b hb e => ?_) hn
  rcases (cn_eq (hok b (hs b hb)) (hok a (hs a ha))).1 e with h | ⟨d, h1, h2⟩
  · exact h
  · exact absurd (hs a ha) (by rw [h2]; exact hanti b (hs b hb) d h1)
theorem apF_nodup {G : Grid} {L : List Sd} (hok : ∀ s ∈ L, okS G s) (h : apF G [] L = true) : L.Nodup :=
  nd_of_map (cn G) ((apF_iff (fun t ht => by cases ht) hok).1 h).1
end Go.Proofs.YtppjnpempgpkaaaGreat
namespace Go.Proofs.YtppjnpempgpkaaaGreat
set_option linter.unusedVariables false
set_option linter.unusedSimpArgs false
/-- A way as it is given: its cells and its edge. -/
abbrev WI := List Int × Int
def longB (w : WI) : Bool := decide (1 ≤ w.1.length) && decide (w.1.length ≤ 64)
def cellsB (n : Nat) (w : WI) : Bool := inn 0 ((n : Int) - 1) w.1 && (decide (-1 ≤ w.2) && decide (w.2 ≤ 3))
/-- Cells of which each is a neighbour of the one before, up to the k-th. -/
def stepB (W H : Nat) (xs : List Int) (k : Nat) : Bool := (List.range k).all fun i => decide (btI W H (tAt xs i).toNat (tAt xs (i + 1)) < 4)
theorem stepB_succ (W H : Nat) (xs : List Int) (k : Nat) : stepB W H xs (k + 1) = (stepB W H xs k && decide (btI W H (tAt xs k).toNat (tAt xs (k + 1)) < 4)) := by unfold stepB; simp [List.range_succ]
theorem stepB_no {W H : Nat} {xs : List Int} {k n : Nat} (hk : k < n) (h : ¬ btI W H (tAt xs k).toNat (tAt xs (k + 1)) < 4) : stepB W H xs n = false := by
  unfold stepB
  rw [List.all_eq_false]
  exact ⟨k, List.mem_range.2 hk, by simpa using h⟩
def lastI (xs : List Int) : Int := tAt xs (xs.length - 1)
def endB (W H : Nat) (kn : List Int) (w : WI) : Bool := if w.2 = -1 then hasB kn (lastI w.1) else decide (nx W H (lastI w.1).toNat w.2.toNat = -1)
def wayB (W H : Nat) (wn kn : List Int) (w : WI) : Bool := stepB W H w.1 (w.1.length - 1) && (hasB wn (tAt w.1 0) && endB W H kn w)
/-- The cells of a way as numbers. -/
def toW (w : WI) : WY := (w.1.map Int.toNat, if w.2 = -1 then none else some w.2.toNat)
def apB (G : Grid) (ls : List WI) : Bool := apF G [] (sidesW G (ls.map toW))
/-- The error of ways of a valid pond. -/
def chkW (G : Grid) (W H : Nat) (wn kn : List Int) (ls : List WI) : Int :=
  if 256 < ls.length ∨ ls.all longB = false then 6 else if ls.all (cellsB (W * H)) = false then 2 else if ls.all (wayB W H wn kn) = false then 16 else if apB G ls = false then 11 else 0
theorem toW_cells {n : Nat} {w : WI} (h : cellsB n w = true) : w.1 = natI (toW w).1 ∧ (∀ x ∈ (toW w).1, x < n) ∧ w.2 = oI (toW w).2 ∧ ∀ k, (toW w).2 = some k → k < 4 := by
  unfold cellsB at h
  rw [Bool.and_eq_true, inn_mem, Bool.and_eq_true, decide_eq_true_iff, decide_eq_true_iff] at h
  obtain ⟨h1, h2, h3⟩ := h
  refine ⟨?_, ?_, ?_, ?_⟩
  · unfold natI toW
    rw [List.map_map]
    refine (List.map_id _).symm.trans (List.map_congr_left fun x hx => ?_)
    have := h1 x hx
    simp; omega
  · unfold toW
    intro x hx
    obtain ⟨y, hy, rfl⟩ := List.mem_map.1 hx
    have := h1 y hy
    omega
  · unfold toW oI
    by_cases e : w.2 = -1
    · simp [e]
    · simp [e]; omega
  · unfold toW
    intro k hk
    by_cases e : w.2 = -1
    · simp [e] at hk
    · simp [e] at hk; omega
theorem stepB_nbs {W H : Nat} (hW : W ≤ 8) (hH : H ≤ 8) {ws : List Nat} (hc : ∀ x ∈ ws, x < W * H) (h : stepB W H (natI ws) (ws.length - 1) = true) : Nbs W H ws := by
  intro i c d hi hd
  unfold stepB at h
  rw [List.all_eq_true] at h
  have hlt := (List.getElem?_eq_some_iff.1 hd).1
  have h1 := h i (List.mem_range.2 (by omega))
  rw [decide_eq_true_iff, tAt_some (natI_at hi), tAt_some (natI_at hd), Int.toNat_natCast] at h1
  have hcl := hc c (List.mem_of_getElem? hi)
  have : ∃ k, k < 4 ∧ nx W H c k = (d : Int) := by
    unfold btI at h1
    by_cases q0 : nx W H c 0 = (d : Int)
    · exact ⟨0, by omega, q0⟩
    · by_cases q1 : nx W H c 1 = (d : Int)
      · exact ⟨1, by omega, q1⟩
      · by_cases q2 : nx W H c 2 = (d : Int)
        · exact ⟨2, by omega, q2⟩
        · by_cases q3 : nx W H c 3 = (d : Int)
          · exact ⟨3, by omega, q3⟩
          · rw [if_neg q0, if_neg q1, if_neg q2, if_neg q3] at h1; omega
  obtain ⟨k, hk, e⟩ := this
  exact ⟨k, hk, nx_some e⟩
theorem lastI_nat {ws : List Nat} (h : ws ≠ []) : lastI (natI ws) = (lastN ws : Int) := by
  unfold lastI
  obtain ⟨n, hn⟩ : ∃ n, ws.length = n + 1 := ⟨ws.length - 1, by have := List.length_pos_iff.2 h; omega⟩
  have := lastN_at hn
  rw [natI_len, hn, Nat.add_sub_cancel, tAt_some this]
end Go.Proofs.YtppjnpempgpkaaaGreat
