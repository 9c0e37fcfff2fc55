/- What a log scales in a part of a stem, in a stem that is thicker, longer, or worse, and by another rule; what follows for best cuttings. Plain numbers. -/
import Derived.Test.YtcgheakadfjofaaA4
namespace Go.Proofs.Ytcgheakadfjofaa
set_option linter.unusedVariables false
set_option linter.unusedSimpArgs false

/-- What a log with two places scales. -/
def sF (th bd : List Int) (r : Rl) (i j : Nat) : Int := scl th bd r (i : Int) (j : Int)
theorem any_congr {α : Type} {l l' : List α} {p q : α → Bool} (h : (∃ a ∈ l, p a = true) ↔ ∃ a ∈ l', q a = true) : l.any p = l'.any q := by
  rw [Bool.eq_iff_iff, List.any_eq_true, List.any_eq_true]; exact h
/-- Equal thickness at the end, equal bad feet between: a log scales the same. -/
theorem scl_congr {th th' bd bd' : List Int} {r : Rl} {i j i' j' : Int} (hd : j - i = j' - i') (ht : th.getD j.toNat 0 = th'.getD j'.toNat 0) (hb : (∃ b ∈ bd, i ≤ b ∧ b < j) ↔ ∃ b ∈ bd', i' ≤ b ∧ b < j') : scl th bd r i j = scl th' bd' r i' j' := by
  have e : bd.any (fun b => decide (i ≤ b) && decide (b < j)) = bd'.any (fun b => decide (i' ≤ b) && decide (b < j')) := any_congr (by simpa using hb)
  unfold scl
  rw [e, ht, hd]
theorem take_getD {th : List Int} {m j : Nat} (h : j < m) : (th.take m).getD j 0 = th.getD j 0 := by
  simp [List.getD, h]
theorem drop_getD {th : List Int} {m j : Nat} : (th.drop m).getD j 0 = th.getD (m + j) 0 := by
  simp [List.getD, List.getElem?_drop]
theorem sF_take {th bd : List Int} {r : Rl} {m i j : Nat} (h : j < m) : sF (th.take m) bd r i j = sF th bd r i j :=
  scl_congr rfl (take_getD (by simpa using h)) Iff.rfl
theorem bst_shift {f : Nat → Nat → Int} {n p : Nat} : ∀ i, bst (fun a b => f (p + a) (p + b)) allB n i = bst f allB (p + n) (p + i) :=
  back_ind (n := n) _ (fun i h => by rw [bst_past h, bst_past (by omega)]) fun i h ih => by
    apply Int.le_antisymm
    · rcases bst_cases (f := fun a b => f (p + a) (p + b)) (lt := allB) h with e | ⟨j, a, b, c, d, e⟩
      · rw [e, ih (i + 1) (by omega)]; exact bst_waste (i := p + i) (by omega)
      · rw [e, ih j a]; exact bst_log (by omega) (by omega) c rfl
    · rcases bst_cases (f := f) (lt := allB) (n := p + n) (i := p + i) (by omega) with e | ⟨j, a, b, c, d, e⟩
      · rw [e, show p + i + 1 = p + (i + 1) from rfl, ← ih (i + 1) (by omega)]; exact bst_waste h
      · obtain ⟨j', rfl⟩ : ∃ j', j = p + j' := ⟨j - p, by omega⟩
        rw [e, ← ih j' (by omega)]
        exact bst_log (f := fun a b => f (p + a) (p + b)) (by omega) (by omega) c rfl
/-- Some log of a cutting lies over a place if it scales more than what lies before and behind the place. -/
theorem some_over {f : Nat → Nat → Int} {n a : Nat} (ha : a ≤ n) {l : List (Nat × Nat)} (h : Cuts f allB n 0 l) (hs : bst f allB a 0 + bst f allB n a < sumF f l) : ∃ p ∈ l, p.1 < a ∧ a < p.2 := by
  apply Classical.byContradiction
  intro hn
  have key : ∀ (l : List (Nat × Nat)) (i : Nat), Cuts f allB n i l → (∀ p ∈ l, ¬ (p.1 < a ∧ a < p.2)) → Cuts f (overB a) n i l := by
    intro l
    induction l with
    | nil => intro i _ _; trivial
    | cons q l ih =>
      rintro i ⟨h1, h2, h3, h4, h5, h6⟩ hq
      refine ⟨h1, h2, h3, h4, ?_, ih _ h6 fun p hp => hq p (by simp [hp])⟩
      have := hq q (by simp)
      simp only [overB, Bool.not_eq_true', Bool.and_eq_false_iff, decide_eq_false_iff_not]; omega
  have h1 := cuts_le l 0 (key l 0 h fun p hp hh => hn ⟨p, hp, hh⟩)
  rw [bst_over ha] at h1
  omega
/-- A place that is cut in some best cutting is inside of none of its logs. -/
theorem may_loss {f : Nat → Nat → Int} {n a : Nat} (h : MayCut f n a) : bst f allB a 0 + bst f allB n a = bst f allB n 0 := by
  obtain ⟨i, j, h1, h2, h3, h4, h5, h6⟩ := h
  rcases h6 with rfl | rfl
  · exact rch_pre h1
  · exact rch_pre (.log h1 h2 h3 h4 h5)
/-- In a best cutting a place that is cut in none is not cut, and one that is cut in all is. -/
theorem best_touch {f : Nat → Nat → Int} {n x : Nat} {l : List (Nat × Nat)} (h : Cuts f allB n 0 l) (hs : sumF f l = bst f allB n 0) :
    (cutsB f n x = false → ∀ p ∈ l, p.1 ≠ x ∧ p.2 ≠ x) ∧ (bst f (atB x) n 0 < bst f allB n 0 → ∃ p ∈ l, p.1 = x ∨ p.2 = x) := by
  have hm := best_mem l 0 .zero h hs
  constructor
  · intro hc p hp
    obtain ⟨a, b, c, d, e⟩ := hm p hp
    have hn : ¬ MayCut f n x := fun hh => by rw [cutsB_iff.2 hh] at hc; cases hc
    exact ⟨fun e1 => hn ⟨p.1, p.2, a, b, c, d, e, .inl e1⟩, fun e1 => hn ⟨p.1, p.2, a, b, c, d, e, .inr e1⟩⟩
  · intro hlt
    apply Classical.byContradiction
    intro hn
    have := cuts_le l 0 (cuts_at (x := x) l 0 h fun p hp => ⟨fun e => hn ⟨p, hp, .inl e⟩, fun e => hn ⟨p, hp, .inr e⟩⟩)
    omega
/-- A thicker end scales no less. -/
theorem scl_thick {th th' bd : List Int} {r : Rl} (hr : Vr r) {i j : Int} (h : th.getD j.toNat 0 ≤ th'.getD j.toNat 0) (hp : 0 < scl th bd r i j) : scl th bd r i j ≤ scl th' bd r i j := by
  obtain ⟨a, b, c, d, e, f, g, i', j', k, l, m, n⟩ := hr
  unfold scl at hp ⊢
  split at hp; · omega
  rename_i h1
  split at hp; · omega
  rename_i h2
  rw [if_neg h1, if_neg h2, if_neg h1, if_neg (by omega)]
  apply Int.ediv_le_ediv (by omega)
  apply Int.mul_le_mul_of_nonneg_right _ (by omega)
  apply Int.mul_le_mul <;> omega
/-- More bad feet: a log scales no more. -/
theorem scl_bad {th bd bd' : List Int} {r : Rl} {i j : Int} (hs : ∀ b ∈ bd, b ∈ bd') (hp : 0 < scl th bd' r i j) : scl th bd' r i j = scl th bd r i j := by
  unfold scl at hp ⊢
  split at hp; · omega
  rename_i h1
  have h3 : ¬ bd.any (fun b => decide (i ≤ b) && decide (b < j)) = true := fun h => h1 (by
    obtain ⟨b, hb, hc⟩ := List.any_eq_true.1 h
    exact List.any_eq_true.2 ⟨b, hs b hb, hc⟩)
  rw [if_neg h1, if_neg h3]
/-- A rule that lets more. -/
theorem scl_wide {th bd : List Int} {r : Rl} {lo hi : Int} (h1 : lo ≤ r.lo) (h2 : r.hi ≤ hi) {i j : Int} (hp : 0 < scl th bd r i j) : scl th bd r i j = scl th bd { r with lo := lo, hi := hi } i j := by
  unfold scl at hp ⊢
  split at hp; · omega
  rename_i h3
  split at hp; · omega
  rename_i h4
  dsimp only
  rw [if_neg h3, if_neg h4, if_neg h3, if_neg (by omega)]
/-- A dearer rule. -/
theorem scl_dear {th bd : List Int} {r : Rl} (hr : Vr r) {off dv tn : Int} (h1 : r.off ≤ off) (h2 : r.dv ≤ dv) (h3 : r.tn ≤ tn) {i j : Int} (hp : 0 < scl th bd { r with off := off, dv := dv, tn := tn } i j) : scl th bd { r with off := off, dv := dv, tn := tn } i j ≤ scl th bd r i j := by
  obtain ⟨a, b, c, d, e, f, g, i', j', k, l, m, n⟩ := hr
  unfold scl at hp ⊢
  dsimp only at hp ⊢
  split at hp; · omega
  rename_i h4
  split at hp; · omega
  rename_i h5
  rw [if_neg h4, if_neg h5, if_neg h4, if_neg (by omega)]
  generalize th.getD j.toNat 0 = t at *
  have l0 : 0 ≤ j - i - r.tr := by omega
  generalize j - i - r.tr = ln at *
  have s1 : 0 ≤ max 0 (t - off) := by omega
  have s2 : max 0 (t - off) ≤ max 0 (t - r.off) := by omega
  generalize max 0 (t - off) = s at *
  generalize max 0 (t - r.off) = s' at *
  have m1 : s * s ≤ s' * s' := Int.mul_le_mul s2 s2 s1 (by omega)
  have m2 : s * s * ln ≤ s' * s' * ln := Int.mul_le_mul_of_nonneg_right m1 l0
  have m3 : 0 ≤ s' * s' * ln := Int.mul_nonneg (Int.mul_nonneg (by omega) (by omega)) l0
  refine Int.le_trans (Int.ediv_le_ediv (by omega) m2) ?_
  have hd : 0 < dv := by omega
  have hq : 0 ≤ s' * s' * ln / dv := Int.ediv_nonneg m3 (by omega)
  rw [Int.le_ediv_iff_mul_le (by omega)]
  have h6 : s' * s' * ln / dv * dv ≤ s' * s' * ln := Int.ediv_mul_le _ (by omega)
  have h7 : s' * s' * ln / dv * r.dv ≤ s' * s' * ln / dv * dv := Int.mul_le_mul_of_nonneg_left h2 hq
  omega
end Go.Proofs.Ytcgheakadfjofaa
