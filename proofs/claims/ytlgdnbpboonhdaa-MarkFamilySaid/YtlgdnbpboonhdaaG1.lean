/- Plain facts: what the search gives is the first one of the greatest good families. -/
import Derived.Test.YtlgdnbpboonhdaaF7
namespace Go.Proofs.Ytlgdnbpboonhdaa
set_option linter.unusedVariables false
set_option linter.unnecessarySimpa false
/-- Strokes of a family that are good behind another one. -/
def goodS (g : Nat × Nat → Option Nat) : List Nat → List Nat → Bool
  | _, [] => true
  | fam, i :: s => fitsB g fam i && goodS g (fam ++ [i]) s
/-- A list before another one of the same length. -/
def lexlt : List Nat → List Nat → Bool
  | [], _ => false
  | _ :: _, [] => false
  | a :: s, b :: t => if a = b then lexlt s t else decide (a < b)
theorem lexlt_append (p : List Nat) : ∀ s t, lexlt (p ++ s) (p ++ t) = lexlt s t := by
  induction p with
  | nil => intro s t; rfl
  | cons a p ih => intro s t; simp [lexlt, ih]
def SearchSpec (g : Nat × Nat → Option Nat) (fam r best res : List Nat) : Prop :=
  (res = best ∨ best.length < res.length ∧ ∃ s, s ≠ [] ∧ s.Sublist r ∧ goodS g fam s = true ∧ res = fam ++ s) ∧
  (∀ s, s ≠ [] → s.Sublist r → goodS g fam s = true → (fam ++ s).length ≤ res.length) ∧
  (res ≠ best → ∀ s, s.Sublist r → goodS g fam s = true → (fam ++ s).length = res.length → res = fam ++ s ∨ lexlt res (fam ++ s) = true)
theorem SearchSpec.le {g : Nat × Nat → Option Nat} {fam r best res : List Nat} (h : SearchSpec g fam r best res) : best.length ≤ res.length := by
  rcases h.1 with h | h
  · rw [h]; exact Nat.le_refl _
  · omega
theorem search_spec (g : Nat × Nat → Option Nat) : ∀ (r fam best : List Nat), r.Pairwise (· < ·) → fam.length ≤ best.length → SearchSpec g fam r best (searchL g fam r best)
  | [], fam, best, _, hl => by
    unfold searchL
    refine ⟨.inl rfl, fun s hs hsub _ => ?_, fun h => absurd rfl h⟩
    rw [List.sublist_nil] at hsub
    exact absurd hsub hs
  | i :: r, fam, best, hp, hl => by
    rw [List.pairwise_cons] at hp
    unfold searchL
    by_cases hpr : fam.length + (r.length + 1) ≤ best.length
    · rw [if_pos hpr]
      refine ⟨.inl rfl, fun s hs hsub _ => ?_, fun h => absurd rfl h⟩
      have := hsub.length_le
      simp at this ⊢
      omega
    · rw [if_neg hpr]
      -- the branch with i
      obtain ⟨b1, hb1⟩ : ∃ b1, b1 = (if fitsB g fam i = true then searchL g (fam ++ [i]) r (updL (fam ++ [i]) best) else best) := ⟨_, rfl⟩
      rw [← hb1]
      have hul : (fam ++ [i]).length ≤ (updL (fam ++ [i]) best).length := by
        unfold updL; split <;> omega
      have hub : best.length ≤ (updL (fam ++ [i]) best).length := by
        unfold updL; split <;> omega
      have I1 := search_spec g r (fam ++ [i]) (updL (fam ++ [i]) best) hp.2 hul
      have hb1le : best.length ≤ b1.length := by
        rw [hb1]; split
        · exact Nat.le_trans hub I1.le
        · exact Nat.le_refl _
      have I2 := search_spec g r fam b1 hp.2 (Nat.le_trans hl hb1le)
      generalize searchL g fam r b1 = res at I2 ⊢
      have key1 : ∀ s, s.Sublist r → goodS g fam (i :: s) = true → (fam ++ (i :: s)).length ≤ b1.length := by
        intro s hs hg
        simp only [goodS, Bool.and_eq_true] at hg
        rw [hb1, if_pos hg.1]
        cases s with
        | nil => exact Nat.le_trans (by simpa using hul) I1.le
        | cons a s =>
          have := I1.2.1 (a :: s) (by simp) hs hg.2
          simpa using this
      refine ⟨?_, ?_, ?_⟩
      · -- what it is
        rcases I2.1 with h2 | ⟨h2, s, hs1, hs2, hs3, hs4⟩
        · rw [h2, hb1]
          split
          · next hf =>
            rcases I1.1 with h1 | ⟨h1, s, hs1, hs2, hs3, hs4⟩
            · rw [h1]
              unfold updL
              split
              · next hlt => exact .inr ⟨hlt, [i], by simp, by simpa using List.nil_sublist r, by simp [goodS, hf], rfl⟩
              · exact .inl rfl
            · refine .inr ⟨by omega, i :: s, by simp, by simpa using hs2, by simp [goodS, hf, hs3], by rw [hs4]; simp⟩
          · exact .inl rfl
        · exact .inr ⟨by omega, s, hs1, hs2.trans (List.sublist_cons_self _ _), hs3, hs4⟩
      · intro s hs hsub hg
        cases hsub with
        | cons _ h => exact I2.2.1 s hs h hg
        | cons_cons _ h => exact Nat.le_trans (key1 _ h hg) I2.le
      · intro hne s hsub hg hlen
        rcases I2.1 with h2 | ⟨h2, t, ht1, ht2, ht3, ht4⟩
        · -- the best one has i, or is the old one
          have hne1 : b1 ≠ best := by rw [← h2]; exact hne
          rw [h2]
          rw [h2] at hlen
          have hf : fitsB g fam i = true := by
            cases hf : fitsB g fam i
            · rw [hf] at hb1; exact absurd hb1 hne1
            · rfl
          rw [if_pos hf] at hb1
          rcases I1.1 with h1 | ⟨h1, t, ht1, ht2, ht3, ht4⟩
          · rw [← hb1] at h1
            have hup : b1 = fam ++ [i] := by
              rw [h1]; unfold updL
              split
              · rfl
              · next hn => rw [h1] at hne1; unfold updL at hne1; rw [if_neg hn] at hne1; exact absurd rfl hne1
            rw [hup] at hlen ⊢
            have hsl : s.length = 1 := by simpa using hlen
            match s, hsl, hsub with
            | [k], _, hsub =>
              rw [lexlt_append]
              have hk : k ∈ i :: r := hsub.subset (by simp)
              rw [List.mem_cons] at hk
              rcases hk with rfl | hk
              · exact .inl rfl
              · have := hp.1 k hk
                right; simp only [lexlt]; rw [if_neg (by omega)]; exact decide_eq_true this
          · rw [← hb1] at h1 ht4
            cases hsub with
            | cons _ h =>
              right
              rw [ht4, List.append_assoc, lexlt_append]
              cases s with
              | nil =>
                rw [ht4] at hlen
                simp at hlen
              | cons k s =>
                have hk : k ∈ r := h.subset (by simp)
                have := hp.1 k hk
                simp only [List.singleton_append, lexlt]
                rw [if_neg (by omega)]; exact decide_eq_true this
            | @cons_cons s' _ _ h =>
              simp only [goodS, Bool.and_eq_true] at hg
              have hne2 : searchL g (fam ++ [i]) r (updL (fam ++ [i]) best) ≠ updL (fam ++ [i]) best := by
                rw [← hb1]; intro e; rw [e] at h1; omega
              have := I1.2.2 hne2 s' h hg.2 (by rw [← hb1]; simpa using hlen)
              rw [← hb1] at this
              simpa using this
        · -- the best one has no i
          have hne2 : res ≠ b1 := by intro e; rw [e] at h2; omega
          cases hsub with
          | cons _ h => exact I2.2.2 hne2 s h hg hlen
          | cons_cons _ h =>
            have := key1 _ h hg
            omega
/-- What the search from the beginning gives: the first one of the greatest good families. -/
theorem search_best (g : Nat × Nat → Option Nat) (fi : List Nat) (hp : fi.Pairwise (· < ·)) :
    (searchL g [] fi []).Sublist fi ∧ goodS g [] (searchL g [] fi []) = true ∧
      ∀ s, s.Sublist fi → goodS g [] s = true → s.length ≤ (searchL g [] fi []).length ∧ (s.length = (searchL g [] fi []).length → s = searchL g [] fi [] ∨ lexlt (searchL g [] fi []) s = true) := by
  have h := search_spec g fi [] [] hp (Nat.le_refl _)
  generalize searchL g [] fi [] = res at h ⊢
  obtain ⟨h1, h2, h3⟩ := h
  refine ⟨?_, ?_, fun s hs hg => ⟨?_, fun hl => ?_⟩⟩
  · rcases h1 with rfl | ⟨-, s, -, hs, -, rfl⟩
    · exact List.nil_sublist _
    · simpa using hs
  · rcases h1 with rfl | ⟨-, s, -, -, hs, rfl⟩
    · rfl
    · simpa using hs
  · cases s with
    | nil => exact Nat.zero_le _
    | cons a s => simpa using h2 (a :: s) (by simp) hs hg
  · by_cases hne : res = []
    · rw [hne] at hl ⊢
      exact .inl (List.eq_nil_of_length_eq_zero hl)
    · rcases h3 hne s hs hg (by simpa using hl) with h | h
      · left; simpa using h.symm
      · right; simpa using h
end Go.Proofs.Ytlgdnbpboonhdaa
