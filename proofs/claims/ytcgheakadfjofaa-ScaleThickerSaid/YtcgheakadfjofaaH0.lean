/- Plain facts for the laws of stage 2: prices that are returned are right. -/
import Derived.Test.YtcgheakadfjofaaD7
import Derived.Test.YtcgheakadfjofaaD8
namespace Go.Proofs.Ytcgheakadfjofaa
set_option linter.unusedVariables false
theorem vs_len {th bd : List Int} {r : Rl} (h : bothE th bd r = 0) : 2 ≤ th.length ∧ th.length ≤ 61 := by
  have := (bothE_ok.1 h).1
  exact ⟨this.two, this.most⟩
/-- The prices that are returned are right. -/
theorem prE_best {th bd : List Int} {r : Rl} (h : bothE th bd r = 0) : prE th bd r (rowK (bst (sF th bd r) allB (th.length - 1)) th.length 0) = (bst (sF th bd r) allB (th.length - 1) 0, 0) := by
  obtain ⟨h2, h61⟩ := vs_len h
  obtain ⟨hs, hr⟩ := bothE_ok.1 h
  have hbd : ∀ i, i < th.length → 0 ≤ bst (sF th bd r) allB (th.length - 1) i ∧ bst (sF th bd r) allB (th.length - 1) i ≤ 1099511627776 := fun i hi => by
    refine ⟨bst_nonneg _ _ _ i, ?_⟩
    have := bst_bound (f := sF th bd r) (lt := allB) (n := th.length - 1) (M := 216000) (by omega) (fun i j => (scl_bd hs hr i j).2) i (by omega)
    omega
  unfold prE
  rw [if_neg (by simpa using h), if_neg (by rw [rowK_len]; simp), if_neg, if_neg]
  · rw [rowK_get _ (Nat.le_refl 0) (by omega)]
  · rw [Bool.not_eq_false, rightB_iff]
    have hg : ∀ i, i ≤ th.length - 1 → (rowK (bst (sF th bd r) allB (th.length - 1)) th.length 0).getD i 0 = bst (sF th bd r) allB (th.length - 1) i := fun i hi => rowK_get _ (Nat.zero_le _) (by omega)
    refine ⟨fun i hi => ?_, fun i j a b c => ?_⟩
    · dsimp only; rw [hg i (by omega), hg (i + 1) (by omega)]; exact right_best.1 i hi
    · dsimp only; rw [hg i (by omega), hg j b]; exact right_best.2 i j a b c
  · rw [Bool.not_eq_false, inn_iff]
    intro x hx
    unfold rowK at hx
    obtain ⟨i, hi, rfl⟩ := List.mem_map.1 hx
    rw [if_pos (Nat.zero_le _)]
    exact hbd i (List.mem_range.1 hi)
/-- Right prices begin with no less than a best cutting scales. -/
theorem prE_ge {th bd ps : List Int} {r : Rl} (h : bothE th bd r = 0) (hp : (prE th bd r ps).2 = 0) : bst (sF th bd r) allB (th.length - 1) 0 ≤ (prE th bd r ps).1 := by
  obtain ⟨h2, h61⟩ := vs_len h
  unfold prE at hp ⊢
  rw [if_neg (by simpa using h)] at hp ⊢
  split at hp
  · cases hp
  · rename_i hl
    rw [if_neg hl]
    split at hp
    · cases hp
    · rename_i hi
      rw [if_neg hi]
      split at hp
      · cases hp
      · rename_i hrt
        rw [if_neg hrt]
        rw [Bool.not_eq_false] at hrt hi
        have hl' : ps.length = th.length := Decidable.byContradiction hl
        have hR := rightB_iff.1 hrt
        refine right_le hR ?_ (Nat.zero_le _)
        exact (getD_in (inn_iff.1 hi) (by omega)).1
end Go.Proofs.Ytcgheakadfjofaa
