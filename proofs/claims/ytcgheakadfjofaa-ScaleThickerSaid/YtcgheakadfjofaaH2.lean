/- Plain facts on bad feet: lists of all feet that are meant; a stem with more bad feet. -/
import Derived.Test.YtcgheakadfjofaaA5
namespace Go.Proofs.Ytcgheakadfjofaa
set_option linter.unusedVariables false
/-- All feet below n that are meant. -/
def badL (n : Nat) (p : Nat → Bool) : List Int := ((List.range n).filter p).map fun i : Nat => (i : Int)
theorem badL_succ (n : Nat) (p : Nat → Bool) : badL (n + 1) p = badL n p ++ (if p n = true then [(n : Int)] else []) := by
  unfold badL
  rw [List.range_succ, List.filter_append, List.map_append]
  congr 1
  by_cases h : p n = true <;> simp [h]
theorem mem_badL {n : Nat} {p : Nat → Bool} {b : Int} : b ∈ badL n p ↔ ∃ i : Nat, i < n ∧ p i = true ∧ b = i := by
  unfold badL
  simp only [List.mem_map, List.mem_filter, List.mem_range]
  constructor
  · rintro ⟨i, ⟨h1, h2⟩, rfl⟩; exact ⟨i, h1, h2, rfl⟩
  · rintro ⟨i, h1, h2, rfl⟩; exact ⟨i, ⟨h1, h2⟩, rfl⟩
theorem badL_len (n : Nat) (p : Nat → Bool) : (badL n p).length ≤ n := by
  unfold badL
  rw [List.length_map]
  exact Nat.le_trans (List.length_filter_le _ _) (by simp)
theorem up_pair : ∀ l : List Int, l.Pairwise (· < ·) → up l = true
  | [], _ => rfl
  | [_], _ => rfl
  | x :: y :: l, h => by
    have h1 := List.pairwise_cons.1 h
    have := up_pair (y :: l) h1.2
    have h2 := h1.1 y (by simp)
    simp [up, this, h2]
theorem badL_up (n : Nat) (p : Nat → Bool) : up (badL n p) = true := by
  apply up_pair
  unfold badL
  rw [List.pairwise_map]
  have := (List.pairwise_lt_range (n := n)).filter p
  exact this.imp (fun h => by omega)
theorem vs_badL {th bd : List Int} (h : Vs th bd) (p : Nat → Bool) : Vs th (badL (th.length - 1) p) := by
  have h2 := h.two
  refine ⟨h.two, h.most, h.thick, h.down, fun x hx => ?_, badL_up _ _⟩
  obtain ⟨i, hi, -, rfl⟩ := mem_badL.1 hx
  omega
theorem both_badL {th bd : List Int} {r : Rl} (h : bothE th bd r = 0) (p : Nat → Bool) : bothE th (badL (th.length - 1) p) r = 0 := by
  obtain ⟨h1, h2⟩ := bothE_ok.1 h
  exact bothE_ok.2 ⟨vs_badL h1 p, h2⟩
/-- With more bad feet a stem scales no more. -/
theorem bst_badL {th bd : List Int} {r : Rl} (h : Vs th bd) {p : Nat → Bool} (hp : ∀ i : Nat, (i : Int) ∈ bd → p i = true) (n : Nat) : bst (sF th (badL (th.length - 1) p) r) allB n 0 ≤ bst (sF th bd r) allB n 0 := by
  refine bst_mono (fun i j _ _ hq _ => ⟨Int.le_of_eq (scl_bad (fun b hb => ?_) hq), rfl⟩) 0 (Nat.zero_le _)
  have := h.bad b hb
  obtain ⟨k, rfl⟩ := Int.eq_ofNat_of_zero_le this.1
  exact mem_badL.2 ⟨k, by have := h.two; omega, hp k hb, rfl⟩
theorem scl_hit {th bd : List Int} {r : Rl} {i j b : Int} (hb : b ∈ bd) (h1 : i ≤ b) (h2 : b < j) : scl th bd r i j = 0 := by
  unfold scl
  rw [if_pos]
  exact List.any_eq_true.2 ⟨b, hb, by simp [h1, h2]⟩
/-- A foot that is in no right log may be bad, too. -/
theorem sF_waste {th bd : List Int} {r : Rl} (h : Vs th bd) {p : Nat → Bool} {a n : Nat} (hn : n = th.length - 1) (ha : a < n) (hp : ∀ i : Nat, p i = true ↔ i = a ∨ (i : Int) ∈ bd)
    (hu : ∀ i j : Nat, i ≤ a → a < j → j ≤ n → sF th bd r i j = 0) {i j : Nat} (hij : i < j) (hj : j ≤ n) : sF th (badL n p) r i j = sF th bd r i j := by
  subst hn
  by_cases hin : i ≤ a ∧ a < j
  · rw [hu i j hin.1 hin.2 hj]
    exact scl_hit (mem_badL.2 ⟨a, ha, (hp a).2 (.inl rfl), rfl⟩) (by omega) (by omega)
  · unfold sF
    refine scl_congr rfl rfl ⟨?_, ?_⟩
    · rintro ⟨b, hb, h1, h2⟩
      obtain ⟨k, hk, hk2, rfl⟩ := mem_badL.1 hb
      rcases (hp k).1 hk2 with rfl | hk3
      · exfalso; apply hin; omega
      · exact ⟨k, hk3, h1, h2⟩
    · rintro ⟨b, hb, h1, h2⟩
      have := h.bad b hb
      obtain ⟨k, rfl⟩ := Int.eq_ofNat_of_zero_le this.1
      exact ⟨k, mem_badL.2 ⟨k, by have := h.two; omega, (hp k).2 (.inr hb), rfl⟩, h1, h2⟩
/-- With all feet behind a place bad, what is scaled is what is scaled up to it. -/
theorem bst_behind {th bd : List Int} {r : Rl} (h : Vs th bd) {p : Nat → Bool} {a n : Nat} (hn : n = th.length - 1) (ha : a ≤ n) (hp : ∀ i : Nat, p i = true ↔ a ≤ i ∨ (i : Int) ∈ bd) : bst (sF th (badL n p) r) allB n 0 = bst (sF th bd r) allB a 0 := by
  subst hn
  have h1 : ∀ i j : Nat, i < j → j ≤ a → sF th (badL (th.length - 1) p) r i j = sF th bd r i j := fun i j hij hj => by
    unfold sF
    refine scl_congr rfl rfl ⟨?_, ?_⟩
    · rintro ⟨b, hb, h1, h2⟩
      obtain ⟨k, hk, hk2, rfl⟩ := mem_badL.1 hb
      rcases (hp k).1 hk2 with hk3 | hk3
      · omega
      · exact ⟨k, hk3, h1, h2⟩
    · rintro ⟨b, hb, h1, h2⟩
      have := h.bad b hb
      obtain ⟨k, rfl⟩ := Int.eq_ofNat_of_zero_le this.1
      exact ⟨k, mem_badL.2 ⟨k, by have := h.two; omega, (hp k).2 (.inr hb), rfl⟩, h1, h2⟩
  have h2 : ∀ i j : Nat, i < j → a < j → j ≤ th.length - 1 → sF th (badL (th.length - 1) p) r i j = 0 := fun i j hij h3 hj =>
    scl_hit (mem_badL.2 ⟨j - 1, by omega, (hp (j - 1)).2 (.inl (by omega)), rfl⟩) (by omega) (by omega)
  rw [← bst_congr (f := sF th (badL (th.length - 1) p) r) (lt := allB) (fun i j a b => ⟨h1 i j a b, rfl⟩) (Nat.zero_le a)]
  apply Int.le_antisymm
  · refine bst_least (q := fun i => bst (sF th (badL (th.length - 1) p) r) allB a i) (bst_nonneg _ _ _ _) (fun i hi => ?_) (fun i j hij hj hf _ => ?_) 0 (Nat.zero_le _)
    · exact bst_anti (Nat.le_succ i)
    · by_cases hja : j ≤ a
      · exact bst_log hij hja hf rfl
      · rw [h2 i j hij (by omega) hj] at hf
        cases hf
  · have := bst_split_le (f := sF th (badL (th.length - 1) p) r) (lt := allB) (lt' := allB) ha (fun _ _ _ _ _ => rfl) 0 (Nat.zero_le _)
    have h3 := bst_nonneg (sF th (badL (th.length - 1) p) r) allB (th.length - 1) a
    omega
theorem logsT_congr {f f' : Nat → Nat → Int} {lt : Nat → Nat → Bool} {n i : Nat} (h : ∀ j, i < j → j ≤ n → f i j = f' i j) : logsT f lt n i = logsT f' lt n i := by
  unfold logsT
  apply List.filter_congr
  intro j hj
  rw [List.mem_range'_1] at hj
  rw [h j (by omega) (by omega)]
theorem cnt_congr {M : Int} {f f' : Nat → Nat → Int} {lt : Nat → Nat → Bool} {n : Nat} (h : ∀ i j, i < j → j ≤ n → f i j = f' i j) : ∀ k i, i ≤ n → cnt M f lt n k i = cnt M f' lt n k i
  | 0, _, _ => rfl
  | k + 1, i, hi => by
    have hb : ∀ j, j ≤ n → bst f allB n j = bst f' allB n j := fun j hj => bst_congr (fun a b c d => ⟨h a b c d, rfl⟩) hj
    unfold cnt
    rw [logsT_congr (fun j a b => h i j a b)]
    by_cases hin : i < n
    · rw [hb i hi, hb (i + 1) hin, cnt_congr h k (i + 1) hin]
      have hf : (logsT f' lt n i).filter (fun j => decide (f i j + bst f allB n j = bst f' allB n i)) = (logsT f' lt n i).filter (fun j => decide (f' i j + bst f' allB n j = bst f' allB n i)) := by
        apply List.filter_congr
        intro j hj
        have := mem_logsT.1 hj
        rw [h i j this.1 this.2.1, hb j this.2.1]
      rw [hf]
      apply foldl_congr_mem
      intro j hj b
      have := mem_logsT.1 (List.mem_filter.1 hj).1
      rw [cnt_congr h k j this.2.1]
    · have hi2 : n ≤ i := by omega
      rw [logsT_nil hi2, hb i hi, bst_past (f := f) (lt := allB) (show n ≤ i + 1 by omega), bst_past (f := f') (lt := allB) (show n ≤ i + 1 by omega), cnt_past (f := f) (lt := lt) k (i + 1) (by omega), cnt_past (f := f') (lt := lt) k (i + 1) (by omega)]
      rfl
theorem cntV_congr {M : Int} {f f' : Nat → Nat → Int} {lt : Nat → Nat → Bool} {n i : Nat} (h : ∀ i j, i < j → j ≤ n → f i j = f' i j) (hi : i ≤ n) : cntV M f lt n i = cntV M f' lt n i := cnt_congr h _ _ hi
end Go.Proofs.Ytcgheakadfjofaa
