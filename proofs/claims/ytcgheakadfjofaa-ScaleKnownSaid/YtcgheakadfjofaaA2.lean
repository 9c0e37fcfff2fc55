/- What is left of a cutting before a place, over a place, and at no place; how many best cuttings there are; what they scale by another rule. Plain numbers. -/
import Derived.Test.YtcgheakadfjofaaA1
namespace Go.Proofs.Ytcgheakadfjofaa
set_option linter.unusedVariables false
set_option linter.unusedSimpArgs false

def allB : Nat → Nat → Bool := fun _ _ => true
/-- No log over a place. -/
def overB (a : Nat) : Nat → Nat → Bool := fun i j => !(decide (i < a) && decide (a < j))
/-- No log that begins or ends at a place. -/
def atB (a : Nat) : Nat → Nat → Bool := fun i j => decide (i ≠ a) && decide (j ≠ a)

theorem bst_congr {f f' : Nat → Nat → Int} {lt lt' : Nat → Nat → Bool} {n : Nat} (h : ∀ i j, i < j → j ≤ n → f i j = f' i j ∧ lt i j = lt' i j) {i : Nat} (hi : i ≤ n) : bst f lt n i = bst f' lt' n i :=
  Int.le_antisymm (bst_mono (fun i j a b _ d => ⟨Int.le_of_eq (h i j a b).1, by rw [← (h i j a b).2]; exact d⟩) i hi)
    (bst_mono (fun i j a b _ d => ⟨Int.le_of_eq (h i j a b).1.symm, by rw [(h i j a b).2]; exact d⟩) i hi)
/-- What lies before a place, and what lies behind it. -/
theorem bst_split_le {f : Nat → Nat → Int} {lt lt' : Nat → Nat → Bool} {n a : Nat} (ha : a ≤ n) (h : ∀ i j, i < j → j ≤ a → lt' i j = true → lt i j = true) : ∀ i, i ≤ a → bst f lt' a i + bst f lt n a ≤ bst f lt n i := by
  intro i hi
  have := bst_least (f := f) (lt := lt') (n := a) (q := fun i => bst f lt n i - bst f lt n a) (by simp) (fun i hi => by
    have := bst_waste (f := f) (lt := lt) (n := n) (i := i) (by omega); omega) (fun i j h1 h2 h3 h4 => by
    have := bst_log (f := f) (lt := lt) (n := n) h1 (by omega) h3 (h i j h1 h2 h4); omega) i hi
  omega
theorem bst_over {f : Nat → Nat → Int} {n a : Nat} (ha : a ≤ n) : bst f (overB a) n 0 = bst f allB a 0 + bst f allB n a := by
  apply Int.le_antisymm
  · have := bst_least (f := f) (lt := overB a) (n := n) (q := fun i => if i ≤ a then bst f allB a i + bst f allB n a else bst f allB n i)
      (by split
          · rename_i h
            have e : a = n := by omega
            rw [e, bst_past (Nat.le_refl n)]; simp
          · rw [bst_past (Nat.le_refl n)]; exact Int.le_refl _)
      (fun i hi => by
        by_cases h1 : i + 1 ≤ a
        · rw [if_pos h1, if_pos (by omega)]
          have := bst_waste (f := f) (lt := allB) (n := a) (i := i) (by omega); omega
        · rw [if_neg h1]
          by_cases h2 : i ≤ a
          · rw [if_pos h2]
            have e : i = a := by omega
            subst e
            rw [bst_past (Nat.le_refl i)]
            have := bst_waste (f := f) (lt := allB) hi; omega
          · rw [if_neg h2]; exact bst_waste hi)
      (fun i j hi hj hf hl => by
        simp only [overB, Bool.not_eq_true', Bool.and_eq_false_iff, decide_eq_false_iff_not] at hl
        by_cases h1 : j ≤ a
        · rw [if_pos h1, if_pos (by omega)]
          have := bst_log (f := f) (lt := allB) (n := a) hi h1 hf rfl; omega
        · rw [if_neg h1]
          by_cases h2 : i ≤ a
          · rw [if_pos h2]
            have e : i = a := by omega
            subst e
            rw [bst_past (Nat.le_refl i)]
            have := bst_log (f := f) (lt := allB) hi hj hf rfl; omega
          · rw [if_neg h2]; exact bst_log hi hj hf rfl) 0 (by omega)
    simpa using this
  · have h1 := bst_split_le (f := f) (lt := overB a) (lt' := allB) ha (fun i j h1 h2 _ => by simp only [overB, Bool.not_eq_true', Bool.and_eq_false_iff, decide_eq_false_iff_not]; omega) 0 (by omega)
    have h2 : bst f allB n a ≤ bst f (overB a) n a :=
      bst_least_from (q := fun i => bst f (overB a) n i) (bst_nonneg _ _ _ _) (fun i _ hi => bst_waste hi)
        (fun i j ha hi hj hf _ => bst_log hi hj hf (by simp only [overB, Bool.not_eq_true', Bool.and_eq_false_iff, decide_eq_false_iff_not]; omega)) a (Nat.le_refl _) ha
    omega

/-- The places that parts of best cuttings lead to. -/
inductive Rch (f : Nat → Nat → Int) (n : Nat) : Nat → Prop
  | zero : Rch f n 0
  | waste {i : Nat} : Rch f n i → i < n → bst f allB n (i + 1) = bst f allB n i → Rch f n (i + 1)
  | log {i j : Nat} : Rch f n i → i < j → j ≤ n → 0 < f i j → f i j + bst f allB n j = bst f allB n i → Rch f n j
theorem cuts_snoc {f : Nat → Nat → Int} {lt : Nat → Nat → Bool} {n : Nat} {i j : Nat} (hij : i < j) (hf : 0 < f i j) (hl : lt i j = true) (hn : j ≤ n) : ∀ (l : List (Nat × Nat)) (a : Nat), a ≤ i → Cuts f lt i a l → Cuts f lt n a (l ++ [(i, j)])
  | [], a, ha, _ => ⟨ha, hij, hn, hf, hl, trivial⟩
  | p :: l, a, ha, ⟨h1, h2, h3, h4, h5, h6⟩ => ⟨h1, h2, by omega, h4, h5, cuts_snoc hij hf hl hn l _ h3 h6⟩
theorem cuts_more {f : Nat → Nat → Int} {lt : Nat → Nat → Bool} {n m : Nat} (h : n ≤ m) : ∀ {l : List (Nat × Nat)} {a : Nat}, Cuts f lt n a l → Cuts f lt m a l
  | [], _, _ => trivial
  | p :: l, a, ⟨h1, h2, h3, h4, h5, h6⟩ => ⟨h1, h2, by omega, h4, h5, cuts_more h h6⟩
theorem sumF_append (f : Nat → Nat → Int) (l m : List (Nat × Nat)) : sumF f (l ++ m) = sumF f l + sumF f m := by
  simp [sumF, List.sum_append]
theorem rch_le {f : Nat → Nat → Int} {n i : Nat} (h : Rch f n i) : i ≤ n := by cases h <;> omega
theorem rch_pre {f : Nat → Nat → Int} {n i : Nat} (h : Rch f n i) : bst f allB i 0 + bst f allB n i = bst f allB n 0 := by
  have hle := rch_le h
  have h0 := bst_split_le (f := f) (lt := allB) (lt' := allB) hle (fun _ _ _ _ _ => rfl) 0 (by omega)
  apply Int.le_antisymm h0
  clear h0
  induction h with
  | zero => rw [bst_past (Nat.le_refl 0)]; omega
  | @waste i hi hn he ih =>
    have := ih (by omega)
    have h1 := bst_split_le (f := f) (lt := allB) (lt' := allB) (n := i + 1) (a := i) (by omega) (fun _ _ _ _ _ => rfl) 0 (by omega)
    have := bst_nonneg f allB (i + 1) i
    omega
  | @log i j hi hij hn hf he ih =>
    have := ih (by omega)
    have h1 := bst_split_le (f := f) (lt := allB) (lt' := allB) (n := j) (a := i) (by omega) (fun _ _ _ _ _ => rfl) 0 (by omega)
    have h2 := bst_log (f := f) (lt := allB) (n := j) hij (Nat.le_refl _) hf rfl
    have := bst_nonneg f allB j j
    omega
theorem rch_waste {f : Nat → Nat → Int} {n : Nat} : ∀ (d a : Nat), Rch f n a → a + d ≤ n → bst f allB n (a + d) = bst f allB n a → Rch f n (a + d)
  | 0, a, h, _, _ => h
  | d + 1, a, h, hn, he => by
    have h1 := bst_anti (f := f) (lt := allB) (n := n) (show a ≤ a + 1 by omega)
    have h2 := bst_anti (f := f) (lt := allB) (n := n) (show a + 1 ≤ a + (d + 1) by omega)
    have := rch_waste d (a + 1) (.waste h (by omega) (by omega)) (by omega) (by rw [show a + 1 + d = a + (d + 1) from by omega]; omega)
    rwa [show a + 1 + d = a + (d + 1) from by omega] at this
theorem rch_cuts {f : Nat → Nat → Int} {n i : Nat} (hin : i ≤ n) : ∀ (l : List (Nat × Nat)) (a : Nat), a ≤ i → Rch f n a → Cuts f allB i a l → bst f allB n a ≤ sumF f l + bst f allB n i → Rch f n i
  | [], a, ha, hr, _, hs => by
    have h1 := bst_anti (f := f) (lt := allB) (n := n) ha
    have := rch_waste (i - a) a hr (by omega) (by rw [show a + (i - a) = i from by omega]; simp only [sumF, List.map_nil, List.sum_nil] at hs; omega)
    rwa [show a + (i - a) = i from by omega] at this
  | p :: l, a, ha, hr, ⟨h1, h2, h3, h4, h5, h6⟩, hs => by
    have e1 := cuts_le l _ h6
    have e2 := bst_split_le (f := f) (lt := allB) (lt' := allB) (n := n) (a := i) hin (fun _ _ _ _ _ => rfl) p.2 h3
    have e3 := bst_log (f := f) (lt := allB) (n := n) h2 (by omega) h4 rfl
    have e4 := bst_anti (f := f) (lt := allB) (n := n) h1
    have e5 : sumF f (p :: l) = f p.1 p.2 + sumF f l := by simp [sumF]
    have hr1 : Rch f n p.1 := by
      have := rch_waste (p.1 - a) a hr (by omega) (by rw [show a + (p.1 - a) = p.1 from by omega]; omega)
      rwa [show a + (p.1 - a) = p.1 from by omega] at this
    exact rch_cuts hin l p.2 h3 (.log hr1 h2 (by omega) h4 (by omega)) h6 (by omega)
theorem rch_iff {f : Nat → Nat → Int} {n i : Nat} (hi : i ≤ n) : Rch f n i ↔ bst f allB i 0 + bst f allB n i = bst f allB n 0 := by
  constructor
  · exact rch_pre
  · intro h
    obtain ⟨l, h1, h2⟩ := cuts_best f allB i 0
    exact rch_cuts hi l 0 (by omega) .zero h1 (by omega)

/-- How many best cuttings of logs that are let there are from a place on, at most M. -/
def cnt (M : Int) (f : Nat → Nat → Int) (lt : Nat → Nat → Bool) (n : Nat) : Nat → Nat → Int
  | 0, _ => 1
  | k + 1, i => ((logsT f lt n i).filter fun j => decide (f i j + bst f allB n j = bst f allB n i)).foldl (fun m j => min M (m + cnt M f lt n k j)) (if bst f allB n i = bst f allB n (i + 1) then cnt M f lt n k (i + 1) else 0)
def cntV (M : Int) (f : Nat → Nat → Int) (lt : Nat → Nat → Bool) (n i : Nat) : Int := cnt M f lt n (n - i) i
theorem cnt_at {M : Int} {f : Nat → Nat → Int} {lt : Nat → Nat → Bool} {n : Nat} : ∀ k i, n = i + k → cnt M f lt n k i = cntV M f lt n i := by
  intro k i h; unfold cntV; rw [show n - i = k from by omega]
end Go.Proofs.Ytcgheakadfjofaa
