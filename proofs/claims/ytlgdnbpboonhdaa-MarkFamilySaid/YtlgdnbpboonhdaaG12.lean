/- Plain facts for MarkFamily: a mark less, given families, all of them apart. -/
import Derived.Test.YtlgdnbpboonhdaaG8
import Derived.Test.YtlgdnbpboonhdaaE3
namespace Go.Proofs.Ytlgdnbpboonhdaa
open Go.RowKit Go.Shelf Go.Maps
set_option linter.unusedVariables false
theorem mAt_dropLast (qs : List Nat) (i : Nat) (h : i < qs.length - 1) : mAt qs.dropLast i = mAt qs i := by
  unfold mAt
  rw [List.getElem?_dropLast, if_pos h]
theorem famOK_drop {ms : List Nat} {L : Nat} {qs l : List Nat} (h : ∀ i ∈ l, i < qs.length - 1) : FamOK ms L qs.dropLast l ↔ FamOK ms L qs l := by
  unfold FamOK
  have h2 : (∀ i ∈ l, i < qs.dropLast.length ∧ freeTo L ms (mAt qs.dropLast i) ms.length = true) ↔ (∀ i ∈ l, i < qs.length ∧ freeTo L ms (mAt qs i) ms.length = true) := by
    constructor
    · intro hh i hi
      have := hh i hi
      rw [mAt_dropLast qs i (h i hi)] at this
      exact ⟨by have := h i hi; omega, this.2⟩
    · intro hh i hi
      have := hh i hi
      rw [mAt_dropLast qs i (h i hi)]
      exact ⟨by rw [List.length_dropLast]; exact h i hi, this.2⟩
  rw [h2]
  constructor
  · rintro ⟨h1, h3, h4⟩
    exact ⟨h1, h3, (pairwise_in (fun a ha b hb _ => by rw [mAt_dropLast qs a (h a ha), mAt_dropLast qs b (h b hb)]) h1).1 h4⟩
  · rintro ⟨h1, h3, h4⟩
    exact ⟨h1, h3, (pairwise_in (fun a ha b hb _ => by rw [mAt_dropLast qs a (h a ha), mAt_dropLast qs b (h b hb)]) h1).2 h4⟩
theorem valid_drop {S L : Nat} {qs : List Nat} (hq : Valid S L qs) : Valid S L qs.dropLast :=
  ⟨hq.1, hq.2.1, hq.2.2.1, by have := hq.2.2.2.1; simp; omega, fun m hm => hq.2.2.2.2 m ((List.dropLast_sublist qs).subset hm)⟩
theorem famOK_sub {ms : List Nat} {L : Nat} {qs l k : List Nat} (h : FamOK ms L qs l) (hs : k.Sublist l) : FamOK ms L qs k :=
  ⟨List.Pairwise.sublist hs h.1, fun i hi => h.2.1 i (hs.subset hi), List.Pairwise.sublist hs h.2.2⟩
/-- With one mark more there are no fewer in the family, and at most one more. -/
theorem family_more {S L : Nat} {ms qs : List Nat} (hv : Valid S L ms) (hq : Valid S L qs) :
    (familyL ms L qs.dropLast).length ≤ (familyL ms L qs).length ∧ (familyL ms L qs).length ≤ (familyL ms L qs.dropLast).length + 1 := by
  obtain ⟨h1, h2⟩ := family_best hv hq
  obtain ⟨h3, h4⟩ := family_best hv (valid_drop hq)
  constructor
  · refine (h2 _ ((famOK_drop fun i hi => ?_).1 h3)).1
    have := (h3.2.1 i hi).1
    rwa [List.length_dropLast] at this
  · have hlt : ∀ i ∈ (familyL ms L qs).dropLast, i < qs.length - 1 := by
      intro i hi
      obtain ⟨j, hj⟩ := List.getElem?_of_mem hi
      rw [List.getElem?_dropLast] at hj
      split at hj
      · next hjl =>
        have hs := h1.1
        rw [List.pairwise_iff_getElem] at hs
        have hjl2 := (List.getElem?_eq_some_iff.1 hj).1
        have h5 := hs j ((familyL ms L qs).length - 1) hjl2 (by omega) hjl
        have h6 := (h1.2.1 _ (List.getElem_mem (show (familyL ms L qs).length - 1 < (familyL ms L qs).length by omega))).1
        have h7 := (List.getElem?_eq_some_iff.1 hj).2
        omega
      · cases hj
    have := (h4 _ ((famOK_drop hlt).2 (famOK_sub h1 (List.dropLast_sublist _)))).1
    rw [List.length_dropLast] at this
    omega
theorem lexlt_irrefl : ∀ a : List Nat, lexlt a a = false
  | [] => rfl
  | x :: a => by simp [lexlt, lexlt_irrefl a]
theorem lexlt_asymm : ∀ a b : List Nat, lexlt a b = true → lexlt b a = false
  | [], _, h => by simp [lexlt] at h
  | _ :: _, [], h => rfl
  | x :: a, y :: b, h => by
    simp only [lexlt] at h ⊢
    by_cases he : x = y
    · rw [if_pos he] at h
      rw [if_pos he.symm]
      exact lexlt_asymm a b h
    · rw [if_neg he, decide_eq_true_iff] at h
      rw [if_neg (fun e => he e.symm)]
      exact decide_eq_false (by omega)
/-- No given family has more marks than the one that is returned, nor as many before it. -/
theorem family_given {S L : Nat} {ms qs l : List Nat} (hv : Valid S L ms) (hq : Valid S L qs) (hl : FamOK ms L qs l) : l.length ≤ (familyL ms L qs).length ∧ (l.length = (familyL ms L qs).length → lexlt l (familyL ms L qs) = false) := by
  obtain ⟨h1, h2⟩ := (family_best hv hq).2 l hl
  refine ⟨h1, fun h => ?_⟩
  rcases h2 h with h3 | h3
  · rw [h3]; exact lexlt_irrefl _
  · exact lexlt_asymm _ _ h3
theorem mAt_app_left (a b : List Nat) (i : Nat) (h : i < a.length) : mAt (a ++ b) i = mAt a i := by
  unfold mAt; rw [List.getElem?_append_left h]
theorem mAt_app_right (a b : List Nat) (i : Nat) (h : a.length ≤ i) : mAt (a ++ b) i = mAt b (i - a.length) := by
  unfold mAt; rw [List.getElem?_append_right h]
theorem valid_app {S L : Nat} {ms qs l : List Nat} (hv : Valid S L ms) (hq : Valid S L qs) (hl : ∀ i ∈ l, i < qs.length) (hn : ms.length + l.length ≤ 12) : Valid S L (ms ++ l.map (mAt qs)) := by
  refine ⟨hv.1, hv.2.1, hv.2.2.1, by simp; omega, fun m hm => ?_⟩
  rw [List.mem_append] at hm
  rcases hm with hm | hm
  · exact hv.2.2.2.2 m hm
  · rw [List.mem_map] at hm
    obtain ⟨i, hi, rfl⟩ := hm
    obtain ⟨q, hq2⟩ := get_some (hl i hi)
    rw [mAt_of hq2]
    exact hq.2.2.2.2 q (List.mem_of_getElem? hq2)
/-- A family and marks that are apart are apart together. -/
theorem apart_together {S L : Nat} {ms qs l : List Nat} (hv : Valid S L ms) (hq : Valid S L qs) (h : clash1 ms L = none) (hl : FamOK ms L qs l) (hn : ms.length + l.length ≤ 12) : clash1 (ms ++ l.map (mAt qs)) L = none := by
  rw [clash_none (valid_app hv hq (fun i hi => (hl.2.1 i hi).1) hn)]
  have hA := (clash_none hv).1 h
  have hlen : (ms ++ l.map (mAt qs)).length = ms.length + l.length := by simp
  rw [hlen]
  have hat : ∀ j (hj : j < l.length), mAt (l.map (mAt qs)) j = mAt qs l[j] := by
    intro j hj
    unfold mAt
    simp [hj]
  have hfr : ∀ j (hj : j < l.length) i, i < ms.length → cl L (mAt qs l[j]) (mAt ms i) = false := fun j hj i hi =>
    (freeTo_all L ms _ ms.length).1 (hl.2.1 _ (List.getElem_mem hj)).2 i hi
  have hpw := hl.2.2
  rw [List.pairwise_iff_getElem] at hpw
  intro i k hi hk hne
  rcases Nat.lt_or_ge i ms.length with h1 | h1
  · rw [mAt_app_left _ _ _ h1]
    rcases Nat.lt_or_ge k ms.length with h2 | h2
    · rw [mAt_app_left _ _ _ h2]; exact hA i k h1 h2 hne
    · rw [mAt_app_right _ _ _ h2, hat _ (by omega), cl_comm]
      exact hfr _ (by omega) i h1
  · rw [mAt_app_right _ _ _ h1, hat _ (by omega)]
    rcases Nat.lt_or_ge k ms.length with h2 | h2
    · rw [mAt_app_left _ _ _ h2]
      exact hfr _ (by omega) k h2
    · rw [mAt_app_right _ _ _ h2, hat _ (by omega)]
      rcases Nat.lt_or_ge i k with h3 | h3
      · exact hpw _ _ (by omega) (by omega) (by omega)
      · rw [cl_comm]
        exact hpw _ _ (by omega) (by omega) (by omega)
end Go.Proofs.Ytlgdnbpboonhdaa
