/- Plain facts on the sets that are contained in a set, from the greatest down. Plain facts on the sets that are contained in a set, from the greatest down. -/
import Derived.Test.YtlgdnbpboonhdaaP
namespace Go.Proofs.Ytlgdnbpboonhdaa
open Go.RowKit
set_option linter.unusedVariables false
/-- The sets that are contained in m, from s down. -/
def subsFrom (m : Nat) : Nat → Nat → List Nat
  | 0, _ => []
  | f + 1, s => s :: bif Nat.beq s 0 then [] else subsFrom m f (Nat.land (Nat.sub s 1) m)
def subs (m : Nat) : List Nat := subsFrom m 1024 m
def down (m : Nat) : Nat → List Nat
  | 0 => bif Nat.beq (Nat.land 0 m) 0 then [0] else []
  | k + 1 => bif Nat.beq (Nat.land (Nat.succ k) m) (Nat.succ k) then (Nat.succ k) :: down m k else down m k
def eqL : List Nat → List Nat → Bool
  | [], [] => true
  | x :: l, y :: r => bif Nat.beq x y then eqL l r else false
  | _, _ => false
def allTo (p : Nat → Bool) : Nat → Bool
  | 0 => true
  | k + 1 => bif p k then allTo p k else false
set_option maxRecDepth 1000000 in
theorem subs_down_all : allTo (fun m => eqL (subs m) (down m m)) 1024 = true := by decide +kernel
end Go.Proofs.Ytlgdnbpboonhdaa
namespace Go.Proofs.Ytlgdnbpboonhdaa
open Go.RowKit
set_option linter.unusedVariables false
theorem allTo_spec (p : Nat → Bool) : ∀ n, allTo p n = true → ∀ k, k < n → p k = true
  | 0, _, k, hk => by omega
  | n + 1, h, k, hk => by
    simp only [allTo] at h
    cases hp : p n
    · rw [hp] at h; simp at h
    · rw [hp] at h
      by_cases e : k = n
      · rw [e]; exact hp
      · exact allTo_spec p n (by simpa using h) k (by omega)
theorem eqL_spec : ∀ a b, eqL a b = true → a = b
  | [], [], _ => rfl
  | x :: l, y :: r, h => by
    simp only [eqL] at h
    cases hxy : Nat.beq x y
    · rw [hxy] at h; simp at h
    · rw [hxy] at h
      rw [Nat.eq_of_beq_eq_true hxy, eqL_spec l r (by simpa using h)]
  | [], _ :: _, h => by simp [eqL] at h
  | _ :: _, [], h => by simp [eqL] at h
theorem subs_down (m : Nat) (h : m < 1024) : subs m = down m m := eqL_spec _ _ (allTo_spec _ _ subs_down_all m h)
theorem beq_sub (a m : Nat) : Nat.beq (Nat.land a m) a = sub a m := by
  rw [Bool.eq_iff_iff]
  simp only [sub, beq_iff_eq]
  exact ⟨fun h => Nat.eq_of_beq_eq_true h, fun h => by have h' : Nat.land a m = a := h; rw [h']; exact Nat.beq_refl a⟩
theorem mem_down (m x : Nat) : ∀ k, x ∈ down m k ↔ x ≤ k ∧ sub x m = true
  | 0 => by
    simp only [down, beq_sub]
    cases h : sub 0 m
    · simp; intro e; subst e; exact h
    · simp; intro e; subst e; exact h
  | k + 1 => by
    simp only [down, beq_sub]
    cases h : sub (Nat.succ k) m
    · simp only [cond_false, mem_down m x k]
      constructor
      · rintro ⟨h1, h2⟩; exact ⟨by omega, h2⟩
      · rintro ⟨h1, h2⟩
        refine ⟨?_, h2⟩
        by_cases e : x = k + 1
        · subst e; rw [h] at h2; cases h2
        · omega
    · simp only [cond_true, List.mem_cons, mem_down m x k]
      constructor
      · rintro (rfl | ⟨h1, h2⟩)
        · exact ⟨Nat.le_refl _, h⟩
        · exact ⟨by omega, h2⟩
      · rintro ⟨h1, h2⟩
        by_cases e : x = k + 1
        · exact Or.inl e
        · exact Or.inr ⟨by omega, h2⟩
theorem mem_subs (m x : Nat) (h : m < 1024) : x ∈ subs m ↔ sub x m = true := by
  rw [subs_down m h, mem_down]
  exact ⟨fun h => h.2, fun h => ⟨sub_le _ _ h, h⟩⟩
/-- What is left of a mark, whichever of its strokes are lost, at most so many, from the greatest down. -/
def wornL (m most : Nat) : List Nat := (subs m).filter fun s => decide (pc (dif m s) ≤ most)
theorem mem_wornL (m most x : Nat) (h : m < 1024) : x ∈ wornL m most ↔ cb most x m = true := by
  unfold wornL cb
  rw [List.mem_filter, mem_subs m x h]
  simp only [decide_eq_true_eq, Bool.and_eq_true]
  constructor
  · rintro ⟨h1, h2⟩
    rw [dif_of_sub x m h1 h] at h2
    exact ⟨h1, by omega⟩
  · rintro ⟨h1, h2⟩
    rw [dif_of_sub x m h1 h]
    exact ⟨h1, by omega⟩
/-- What is still to come from s on. -/
theorem subsFrom_len (m : Nat) : ∀ f s, (subsFrom m f s).length ≤ f
  | 0, _ => by simp [subsFrom]
  | f + 1, s => by
    simp only [subsFrom, List.length_cons]
    cases h : Nat.beq s 0
    · simpa using subsFrom_len m f _
    · simp
theorem wornL_len (m most : Nat) : (wornL m most).length ≤ 1024 := by
  unfold wornL
  have h1 := List.length_filter_le (fun s => decide (pc (dif m s) ≤ most)) (subs m)
  have h2 : (subs m).length ≤ 1024 := subsFrom_len m 1024 m
  omega
/-- With more room nothing changes: s steps are enough from s on. -/
theorem subsFrom_more (m : Nat) : ∀ f s, s < f → subsFrom m (f + 1) s = subsFrom m f s
  | 0, s, h => by omega
  | f + 1, s, h => by
    rw [subsFrom]
    conv => rhs; rw [subsFrom]
    cases hs : Nat.beq s 0
    · simp only [cond_false]
      have h0 : s ≠ 0 := by intro e; rw [e] at hs; cases hs
      have hlt : Nat.land (Nat.sub s 1) m < f := by
        have : Nat.land (Nat.sub s 1) m ≤ Nat.sub s 1 := Nat.and_le_left
        have h3 : Nat.sub s 1 = s - 1 := rfl
        omega
      rw [subsFrom_more m f _ hlt]
    · rfl
theorem subsFrom_enough (m s : Nat) : ∀ f, s < f → subsFrom m f s = subsFrom m (s + 1) s := by
  intro f hf
  induction f with
  | zero => omega
  | succ f ih =>
    by_cases h : s < f
    · rw [subsFrom_more m f s h, ih h]
    · obtain rfl : f = s := by omega
      rfl
/-- From s on: s, and from the next one on. -/
theorem subs_step (m s : Nat) (h0 : s ≠ 0) : subsFrom m (s + 1) s = s :: subsFrom m (((s - 1) &&& m) + 1) ((s - 1) &&& m) := by
  rw [subsFrom]
  cases hs : Nat.beq s 0
  · simp only [cond_false]
    have hlt : Nat.land (Nat.sub s 1) m < s := by
      have : Nat.land (Nat.sub s 1) m ≤ Nat.sub s 1 := Nat.and_le_left
      have h3 : Nat.sub s 1 = s - 1 := rfl
      omega
    rw [subsFrom_enough m _ s hlt]; rfl
  · exact absurd (Nat.eq_of_beq_eq_true hs) h0
theorem subs_zero (m : Nat) : subsFrom m 1 0 = [0] := rfl
end Go.Proofs.Ytlgdnbpboonhdaa
