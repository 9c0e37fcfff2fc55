/- Plain facts for MarkFree: the free marks in their order; apart with one more mark. -/
import Derived.Test.YtlgdnbpboonhdaaE5
import Derived.Test.YtlgdnbpboonhdaaE3
namespace Go.Proofs.Ytlgdnbpboonhdaa
open Go.RowKit Go.Shelf Go.Maps
set_option linter.unusedVariables false
theorem mem_freeL {S L : Nat} {ms : List Nat} (hv : Valid S L ms) (x : Nat) : x ∈ freeL S L ms ↔ (1 ≤ x ∧ x ≤ full S) ∧ freeTo L ms x ms.length = true := by
  rw [freeL_eq hv, mem_pickL]
  constructor
  · rintro ⟨⟨h1, h2⟩, h3⟩; exact ⟨⟨h1, by omega⟩, h3⟩
  · rintro ⟨⟨h1, h2⟩, h3⟩; exact ⟨⟨h1, by omega⟩, h3⟩
theorem freeL_lt {S L : Nat} {ms : List Nat} {j a b : Nat} (h1 : (freeL S L ms)[j]? = some a) (h2 : (freeL S L ms)[j + 1]? = some b) : a < b := by
  have hp : (freeL S L ms).Pairwise (· < ·) := by
    unfold freeL pickL
    exact List.Pairwise.filter _ List.pairwise_lt_range'
  rw [List.pairwise_iff_getElem] at hp
  obtain ⟨h3, h4⟩ := List.getElem?_eq_some_iff.1 h1
  obtain ⟨h5, h6⟩ := List.getElem?_eq_some_iff.1 h2
  have := hp j (j + 1) h3 h5 (by omega)
  rwa [h4, h6] at this
theorem freeL_len (S L : Nat) (ms : List Nat) : (freeL S L ms).length ≤ full S := pickL_len _ _ _
/-- Whether a number is one of the first ones of a list. -/
def hasB (l : List Nat) (m j : Nat) : Bool := (l.take j).any fun x => x == m
theorem hasB_zero (l : List Nat) (m : Nat) : hasB l m 0 = false := by simp [hasB]
theorem hasB_succ (l : List Nat) (m j x : Nat) (h : l[j]? = some x) : hasB l m (j + 1) = (hasB l m j || x == m) := by
  unfold hasB; rw [take_snoc h, List.any_append]; simp
theorem hasB_all {S L : Nat} {ms : List Nat} (hv : Valid S L ms) (m : Nat) (h1 : 1 ≤ m) (h2 : m ≤ full S) : hasB (freeL S L ms) m (freeL S L ms).length = freeTo L ms m ms.length := by
  unfold hasB
  rw [List.take_length, Bool.eq_iff_iff, List.any_eq_true]
  constructor
  · rintro ⟨x, hx, he⟩
    rw [beq_iff_eq] at he
    subst he
    exact ((mem_freeL hv x).1 hx).2
  · intro h
    exact ⟨m, (mem_freeL hv m).2 ⟨⟨h1, h2⟩, h⟩, by simp⟩
def codeB (b : Bool) : Int := if b then 0 else 17
theorem apart_b (S L : Nat) (ms : List Nat) (A : Bool) (v : Value) (w : World) (hv : Valid S L ms) (hr : Reads w v (ints ms)) (h : clash1 ms L = none ↔ A = true) :
    Calls Try.prog 26 #[.agg #[.int .i64 (S : Int), .int .i64 (L : Int), v]] w fun e w' => ∃ x y, e = .returned (.tuple #[.int .i64 x, .int .i64 y, .int .i64 (codeB A)]) ∧ Ext w w' := by
  refine (apart26_ok S L ms v w hv hr).mono ?_
  rintro e w1 ⟨rfl, hb⟩
  have : (apart3 (clash1 ms L)).2.2 = codeB A := by
    cases hA : A
    · rw [hA] at h
      cases hc : clash1 ms L with
      | none => exact absurd (h.1 hc) (by simp)
      | some p => rfl
    · rw [h.2 hA]; rfl
  exact ⟨(apart3 (clash1 ms L)).1, (apart3 (clash1 ms L)).2.1, by rw [this], hb⟩
theorem with44_n (S L : Int) (m : Nat) (ms : List Nat) (v : Value) (w : World) (hr : Reads w v (ints ms)) (hl : ms.length ≤ 4000) :
    Calls Try.prog 44 #[.agg #[.int .i64 S, .int .i64 L, v], .int .i64 (m : Int)] w fun e w' => ∃ u, e = .returned (.agg #[.int .i64 S, .int .i64 L, u]) ∧ Reads w' u (ints (ms ++ [m])) ∧ Ext w w' := by
  refine (with44 S L m (ints ms) v w hr (by rw [ints_length]; exact hl)).mono ?_
  rintro e w1 ⟨u, rfl, hu, hb⟩
  exact ⟨u, rfl, by simpa [ints] using hu, hb⟩
end Go.Proofs.Ytlgdnbpboonhdaa
