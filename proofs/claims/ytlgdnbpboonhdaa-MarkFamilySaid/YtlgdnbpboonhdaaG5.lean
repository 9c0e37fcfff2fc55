/- The reference's CheckFamily. -/
import Derived.Test.YtlgdnbpboonhdaaG4
namespace Go.Proofs.Ytlgdnbpboonhdaa
open Go.RowKit Go.Shelf Go.Maps
set_option linter.unusedVariables false
attribute [local go_sem] Oper.semAt_some
/-- The first numbers are indexes of so many, in increasing order. -/
def ixTo (n : Nat) (fam : List Int) (k : Nat) : Prop := ∀ j x, j < k → fam[j]? = some x → (0 ≤ x ∧ x < n) ∧ ∀ y, 0 < j → fam[j - 1]? = some y → y < x
theorem ixTo_succ {n k : Nat} {fam : List Int} {x : Int} (h : ixTo n fam k) (hx : fam[k]? = some x) (h1 : 0 ≤ x ∧ x < n) (h2 : ∀ y, 0 < k → fam[k - 1]? = some y → y < x) : ixTo n fam (k + 1) := by
  intro j z hj hz
  rcases Nat.lt_or_ge j k with h3 | h3
  · exact h j z h3 hz
  · obtain rfl : j = k := by omega
    rw [hx] at hz; cases hz
    exact ⟨h1, h2⟩
theorem ixTo_ok {n : Nat} {fam : List Int} : ixTo n fam fam.length ↔ (inR 0 ((n : Int) - 1) fam && inc fam) = true := by
  rw [Bool.and_eq_true]
  unfold inR inc
  rw [List.all_eq_true, List.all_eq_true]
  constructor
  · intro h
    refine ⟨fun x hx => ?_, fun i hi => ?_⟩
    · obtain ⟨j, hj⟩ := List.getElem?_of_mem hx
      have := (h j x (List.getElem?_eq_some_iff.1 hj).1 hj).1
      rw [Bool.and_eq_true, decide_eq_true_iff, decide_eq_true_iff]
      omega
    · rw [List.mem_range'_1] at hi
      obtain ⟨x, hx⟩ := get_some (show i < fam.length by omega)
      obtain ⟨y, hy⟩ := get_some (show i - 1 < fam.length by omega)
      rw [hx, hy, decide_eq_true_iff]
      exact (h i x (by omega) hx).2 y (by omega) hy
  · rintro ⟨h1, h2⟩ j x hj hx
    refine ⟨?_, fun y h0 hy => ?_⟩
    · have := h1 x (List.mem_of_getElem? hx)
      rw [Bool.and_eq_true, decide_eq_true_iff, decide_eq_true_iff] at this
      omega
    · have := h2 j (by rw [List.mem_range'_1]; omega)
      rw [hx, hy, decide_eq_true_iff] at this
      exact this
theorem ixTo_not {n k : Nat} {fam : List Int} {x : Int} (hx : fam[k]? = some x) (h : ¬ ((0 ≤ x ∧ x < n) ∧ ∀ y, 0 < k → fam[k - 1]? = some y → y < x)) : (inR 0 ((n : Int) - 1) fam && inc fam) = false := by
  rw [Bool.eq_false_iff]
  intro hc
  exact h ((ixTo_ok.2 hc) k x (List.getElem?_eq_some_iff.1 hx).1 hx)
theorem ixTo_nats {n : Nat} {fam : List Int} (h : ixTo n fam fam.length) : ∃ l : List Nat, fam = ints l ∧ l.Pairwise (· < ·) ∧ ∀ i ∈ l, i < n := by
  have h0 : ∀ x ∈ fam, 0 ≤ x := by
    intro x hx
    obtain ⟨j, hj⟩ := List.getElem?_of_mem hx
    exact (h j x (List.getElem?_eq_some_iff.1 hj).1 hj).1.1
  refine ⟨fam.map Int.toNat, ints_toNat fam h0, ?_, ?_⟩
  · rw [List.pairwise_iff_getElem]
    have key : ∀ d i (hi : i < fam.length) (hj : i + d + 1 < fam.length), fam[i].toNat < fam[i + d + 1].toNat := by
      intro d
      induction d with
      | zero =>
        intro i hi hj
        have h1 := (h (i + 1) fam[i + 1] hj (by simp [hj])).2 fam[i] (by omega) (by simp [hi])
        have h2 := h0 fam[i] (List.getElem_mem hi)
        simp only [Nat.add_zero]
        omega
      | succ d ih =>
        intro i hi hj
        have h1 := ih i hi (by omega)
        have h2 := (h (i + d + 1 + 1) fam[i + d + 1 + 1] (by omega) (by simp [show i + d + 1 + 1 < fam.length by omega])).2 fam[i + d + 1] (by omega) (by simp [show i + d + 1 < fam.length by omega])
        have h3 := h0 fam[i + d + 1] (List.getElem_mem _)
        have : fam[i + (d + 1) + 1] = fam[i + d + 1 + 1] := by congr 1
        rw [this]
        omega
    intro i j hi hj hij
    rw [List.length_map] at hi hj
    have := key (j - i - 1) i hi (by omega)
    simp only [List.getElem_map]
    have he : i + (j - i - 1) + 1 = j := by omega
    simp only [he] at this
    exact this
  · intro i hi
    rw [List.mem_map] at hi
    obtain ⟨x, hx, rfl⟩ := hi
    obtain ⟨j, hj⟩ := List.getElem?_of_mem hx
    have := (h j x (List.getElem?_eq_some_iff.1 hj).1 hj).1
    omega
theorem apL_none (L : Int) (ms : List Nat) : apL L ms = none ↔ ms.Pairwise (fun a b => cl L a b = false) := by
  unfold apL
  rw [List.find?_eq_none, List.pairwise_iff_getElem]
  constructor
  · intro h i j hi hj hij
    have := h (i, j) (pairs_mem _ _ _ hij hj)
    unfold clP mAt at this
    simpa [hi, hj] using this
  · rintro h ⟨i, j⟩ hp
    have hp := mem_pairsL.1 hp
    simp only at hp
    have hi : i < ms.length := by omega
    have hj : j < ms.length := by omega
    have := h i j hi hj hp.1
    unfold clP mAt
    simp [hi, hj, this]
theorem ask_zero {S L : Int} {xs ys : List Int} (h : askC S L xs ys = 0) : ∃ (S' L' : Nat) (ms qs : List Nat), S = S' ∧ L = L' ∧ xs = ints ms ∧ ys = ints qs ∧ Valid S' L' ms ∧ Valid S' L' qs := by
  unfold askC at h
  by_cases hc : chk S L xs = 0
  · obtain ⟨S', L', ms, rfl, rfl, rfl, hv⟩ := chk_zero hc
    rw [if_neg (by simpa using hc)] at h
    by_cases hl : 12 < ys.length
    · rw [if_pos hl] at h; cases h
    · rw [if_neg hl] at h
      by_cases hi : inR 1 (full ((S' : Int)).toNat : Int) ys = true
      · have hi2 := hi
        unfold inR at hi2
        rw [List.all_eq_true] at hi2
        have hb : ∀ x ∈ ys, 1 ≤ x ∧ x ≤ (full S' : Int) := by
          intro x hx
          have := hi2 x hx
          rw [Bool.and_eq_true, decide_eq_true_iff, decide_eq_true_iff] at this
          simpa using this
        refine ⟨S', L', ms, ys.map Int.toNat, rfl, rfl, rfl, ints_toNat ys fun x hx => by have := hb x hx; omega, hv, hv.1, hv.2.1, hv.2.2.1, by simp; omega, fun m hm => ?_⟩
        rw [List.mem_map] at hm
        obtain ⟨x, hx, rfl⟩ := hm
        have := hb x hx
        omega
      · rw [if_neg hi] at h; cases h
  · rw [if_pos hc] at h; exact absurd h hc
end Go.Proofs.Ytlgdnbpboonhdaa
