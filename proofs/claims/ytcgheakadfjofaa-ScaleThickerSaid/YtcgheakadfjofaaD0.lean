/- Plain mathematics for the reference: one log more, and a stem whose feet behind a place are bad. -/
import Derived.Test.YtcgheakadfjofaaA5
namespace Go.Proofs.Ytcgheakadfjofaa
set_option linter.unusedVariables false
set_option linter.unusedSimpArgs false
theorem logsT_self (f : Nat → Nat → Int) (lt : Nat → Nat → Bool) (i : Nat) : logsT f lt i i = [] := logsT_nil (Nat.le_refl _)
theorem logsT_more (f : Nat → Nat → Int) (lt : Nat → Nat → Bool) {k i : Nat} (h : i ≤ k) : logsT f lt (k + 1) i = logsT f lt k i ++ (if (decide (0 < f i (k + 1)) && lt i (k + 1)) = true then [k + 1] else []) := by
  unfold logsT
  rw [show k + 1 - i = (k - i) + 1 from by omega, List.range'_concat, List.filter_append]
  congr 1
  rw [show i + 1 + 1 * (k - i) = k + 1 from by omega]
  by_cases hc : (decide (0 < f i (k + 1)) && lt i (k + 1)) = true
  · simp [hc]
  · simp only [Bool.not_eq_true] at hc
    simp [hc]
/-- What is best from a place on, once the logs up to an end have been looked at. -/
def inB1 (f : Nat → Nat → Int) (lt : Nat → Nat → Bool) (q : Nat → Int) (i k : Nat) : Int := (logsT f lt k i).foldl (fun m j => max m (f i j + q j)) (q (i + 1))
theorem inB1_self (f : Nat → Nat → Int) (lt : Nat → Nat → Bool) (q : Nat → Int) (i : Nat) : inB1 f lt q i i = q (i + 1) := by unfold inB1; rw [logsT_self]; rfl
theorem inB1_more (f : Nat → Nat → Int) (lt : Nat → Nat → Bool) (q : Nat → Int) {i k : Nat} (h : i ≤ k) : inB1 f lt q i (k + 1) = if (decide (0 < f i (k + 1)) && lt i (k + 1)) = true then max (inB1 f lt q i k) (f i (k + 1) + q (k + 1)) else inB1 f lt q i k := by
  unfold inB1
  rw [logsT_more f lt h, List.foldl_append]
  split <;> rfl
theorem inB1_all {f : Nat → Nat → Int} {lt : Nat → Nat → Bool} {n i : Nat} (h : i < n) : inB1 f lt (bst f lt n) i n = bst f lt n i := (bst_step h).symm
theorem inB1_bd {f : Nat → Nat → Int} {lt : Nat → Nat → Bool} {q : Nat → Int} {M N : Int} (hq : ∀ j, 0 ≤ q j ∧ q j ≤ N) (hf : ∀ i j, f i j ≤ M) (hM : 0 ≤ M) (i : Nat) : ∀ k, 0 ≤ inB1 f lt q i k ∧ inB1 f lt q i k ≤ M + N := by
  intro k
  unfold inB1
  refine ⟨Int.le_trans (hq (i + 1)).1 (foldl_max_ge (fun j => f i j + q j) _ _).1, ?_⟩
  rcases foldl_max_is (fun j => f i j + q j) (logsT f lt k i) (q (i + 1)) with h | ⟨x, hx, h⟩
  · rw [h]; have := (hq (i + 1)).2; omega
  · rw [h]; have := (hq x).2; have := hf i x; omega
/-- How many best cuttings from a place on, once the logs up to an end have been looked at. -/
def inC (M : Int) (f : Nat → Nat → Int) (lt : Nat → Nat → Bool) (n : Nat) (c : Nat → Int) (i k : Nat) : Int :=
  ((logsT f lt k i).filter fun j => decide (f i j + bst f allB n j = bst f allB n i)).foldl (fun m j => min M (m + c j)) (if bst f allB n i = bst f allB n (i + 1) then c (i + 1) else 0)
theorem inC_self (M : Int) (f : Nat → Nat → Int) (lt : Nat → Nat → Bool) (n : Nat) (c : Nat → Int) (i : Nat) : inC M f lt n c i i = if bst f allB n i = bst f allB n (i + 1) then c (i + 1) else 0 := by unfold inC; rw [logsT_self]; rfl
theorem inC_more (M : Int) (f : Nat → Nat → Int) (lt : Nat → Nat → Bool) (n : Nat) (c : Nat → Int) {i k : Nat} (h : i ≤ k) : inC M f lt n c i (k + 1) = if (decide (0 < f i (k + 1)) && lt i (k + 1)) = true ∧ f i (k + 1) + bst f allB n (k + 1) = bst f allB n i then min M (inC M f lt n c i k + c (k + 1)) else inC M f lt n c i k := by
  unfold inC
  rw [logsT_more f lt h, List.filter_append, List.foldl_append]
  by_cases h1 : (decide (0 < f i (k + 1)) && lt i (k + 1)) = true
  · have e1 : (if (decide (0 < f i (k + 1)) && lt i (k + 1)) = true then [k + 1] else []) = [k + 1] := if_pos h1
    rw [e1]
    by_cases h2 : f i (k + 1) + bst f allB n (k + 1) = bst f allB n i
    · rw [if_pos (show (decide (0 < f i (k + 1)) && lt i (k + 1)) = true ∧ f i (k + 1) + bst f allB n (k + 1) = bst f allB n i from ⟨h1, h2⟩)]; simp [h2]
    · rw [if_neg (show ¬ ((decide (0 < f i (k + 1)) && lt i (k + 1)) = true ∧ f i (k + 1) + bst f allB n (k + 1) = bst f allB n i) from fun h => h2 h.2)]; simp [h2]
  · have e1 : (if (decide (0 < f i (k + 1)) && lt i (k + 1)) = true then [k + 1] else []) = [] := if_neg h1
    rw [e1, if_neg (show ¬ ((decide (0 < f i (k + 1)) && lt i (k + 1)) = true ∧ f i (k + 1) + bst f allB n (k + 1) = bst f allB n i) from fun h => h1 h.1)]; rfl
theorem inC_all {M : Int} {f : Nat → Nat → Int} {lt : Nat → Nat → Bool} {n i : Nat} (h : i < n) : inC M f lt n (cntV M f lt n) i n = cntV M f lt n i := (cntV_step h).symm
theorem inC_bd {M : Int} (hM : 0 < M) {f : Nat → Nat → Int} {lt : Nat → Nat → Bool} {n : Nat} {c : Nat → Int} (hc : ∀ j, 0 ≤ c j ∧ c j ≤ M) (i k : Nat) : 0 ≤ inC M f lt n c i k ∧ inC M f lt n c i k ≤ M := by
  unfold inC
  obtain ⟨h1, h2, -⟩ := foldl_min_bd hM c ((logsT f lt k i).filter fun j => decide (f i j + bst f allB n j = bst f allB n i)) (if bst f allB n i = bst f allB n (i + 1) then c (i + 1) else 0) (fun x _ => (hc x).1) (by split; exact (hc _).1; omega) (by split; exact (hc _).2; omega)
  exact ⟨h1, h2⟩
/-- The bad feet of a stem, and all feet behind a place. -/
def behindL (bd : List Int) (n a : Nat) : List Int := ((List.range n).filter fun i => decide (a ≤ i) || bd.any fun b => decide (b = (i : Int))).map Int.ofNat
theorem behind_mem {bd : List Int} {n a : Nat} {x : Int} : x ∈ behindL bd n a ↔ ∃ i : Nat, i < n ∧ x = i ∧ (a ≤ i ∨ (i : Int) ∈ bd) := by
  simp only [behindL, List.mem_map, List.mem_filter, List.mem_range, Bool.or_eq_true, decide_eq_true_eq, List.any_eq_true]
  constructor
  · rintro ⟨i, ⟨h1, h2⟩, rfl⟩
    refine ⟨i, h1, rfl, h2.imp id ?_⟩
    rintro ⟨b, h3, rfl⟩; exact h3
  · rintro ⟨i, h1, rfl, h2⟩
    exact ⟨i, ⟨h1, h2.imp id fun h => ⟨_, h, rfl⟩⟩, rfl⟩
theorem bst_cut {f : Nat → Nat → Int} {n a : Nat} (ha : a ≤ n) : bst (fun i j => if j ≤ a then f i j else 0) allB n 0 = bst f allB a 0 := by
  apply Int.le_antisymm
  · have := bst_least (f := fun i j => if j ≤ a then f i j else 0) (lt := allB) (n := n) (q := fun i => if i ≤ a then bst f allB a i else 0)
      (by (try dsimp only); split; exact bst_nonneg _ _ _ _; exact Int.le_refl _)
      (fun i hi => by
        try dsimp only
        by_cases h1 : i + 1 ≤ a
        · rw [if_pos h1, if_pos (by omega)]; exact bst_waste (by omega)
        · rw [if_neg h1]; split; exact bst_nonneg _ _ _ _; exact Int.le_refl _)
      (fun i j h1 h2 h3 _ => by
        try dsimp only at h3 ⊢
        by_cases h4 : j ≤ a
        · rw [if_pos h4] at h3 ⊢; rw [if_pos h4, if_pos (by omega)]
          exact bst_log h1 h4 h3 rfl
        · rw [if_neg h4] at h3; omega) 0 (by omega)
    simpa using this
  · exact bst_least (f := f) (lt := allB) (n := a) (q := fun i => bst (fun i j => if j ≤ a then f i j else 0) allB n i) (bst_nonneg _ _ _ _)
      (fun i hi => bst_waste (by omega))
      (fun i j h1 h2 h3 _ => by
        have := bst_log (f := fun i j => if j ≤ a then f i j else 0) (lt := allB) (n := n) h1 (by omega) (by (try dsimp only); rw [if_pos h2]; exact h3) rfl
        rw [if_pos h2] at this; exact this) 0 (by omega)
theorem sF_behind {th bd : List Int} {r : Rl} {n a i j : Nat} (hb : ∀ b ∈ bd, 0 ≤ b ∧ b < (n : Int)) (hij : i < j) (hj : j ≤ n) : sF th (behindL bd n a) r i j = if j ≤ a then sF th bd r i j else 0 := by
  by_cases h : j ≤ a
  · rw [if_pos h]
    refine scl_congr rfl rfl ⟨?_, ?_⟩
    · rintro ⟨b, h1, h2, h3⟩
      obtain ⟨k, h4, rfl, h5⟩ := behind_mem.1 h1
      rcases h5 with h5 | h5
      · omega
      · exact ⟨_, h5, h2, h3⟩
    · rintro ⟨b, h1, h2, h3⟩
      have := hb b h1
      refine ⟨b, behind_mem.2 ⟨b.toNat, by omega, by omega, .inr ?_⟩, h2, h3⟩
      rw [Int.toNat_of_nonneg (by omega)]; exact h1
  · rw [if_neg h]
    unfold sF scl
    rw [if_pos]
    exact List.any_eq_true.2 ⟨((j - 1 : Nat) : Int), behind_mem.2 ⟨j - 1, by omega, rfl, .inl (by omega)⟩, by simp; omega⟩
theorem upto_best {th bd : List Int} {r : Rl} {n a : Nat} (hb : ∀ b ∈ bd, 0 ≤ b ∧ b < (n : Int)) (ha : a ≤ n) : bst (sF th (behindL bd n a) r) allB n 0 = bst (sF th bd r) allB a 0 := by
  rw [← bst_cut (f := sF th bd r) ha]
  exact bst_congr (fun i j h1 h2 => ⟨sF_behind hb h1 h2, rfl⟩) (Nat.zero_le _)
theorem up_of_pairwise : ∀ {l : List Int}, l.Pairwise (· < ·) → up l = true
  | [], _ => rfl
  | [_], _ => rfl
  | a :: b :: l, h => by
    have h1 := (List.pairwise_cons.1 h)
    simp only [up, Bool.and_eq_true, decide_eq_true_eq]
    exact ⟨h1.1 b (by simp), up_of_pairwise h1.2⟩
theorem behind_up (bd : List Int) (n a : Nat) : up (behindL bd n a) = true := by
  refine up_of_pairwise ?_
  unfold behindL
  refine List.Pairwise.map _ (fun x y h => ?_) ((List.pairwise_lt_range (n := n)).filter _)
  exact Int.ofNat_lt.2 h
end Go.Proofs.Ytcgheakadfjofaa
