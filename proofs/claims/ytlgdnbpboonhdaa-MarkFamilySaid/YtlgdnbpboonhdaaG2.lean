/- Plain facts: families by their marks, and the family that is returned among them. -/
import Derived.Test.YtlgdnbpboonhdaaG1
import Derived.Test.YtlgdnbpboonhdaaU1
import Derived.Test.YtlgdnbpboonhdaaO7
namespace Go.Proofs.Ytlgdnbpboonhdaa
open Go.RowKit Go.Shelf Go.Maps
set_option linter.unusedVariables false
theorem sorted_sublist : ∀ (t s : List Nat), t.Pairwise (· < ·) → s.Pairwise (· < ·) → (∀ x ∈ s, x ∈ t) → s.Sublist t
  | _, [], _, _, _ => List.nil_sublist _
  | [], a :: s, _, _, h => by have := h a (by simp); cases this
  | b :: t, a :: s, ht, hs, h => by
    rw [List.pairwise_cons] at ht hs
    have ha := h a (by simp)
    rw [List.mem_cons] at ha
    rcases ha with rfl | ha
    · refine List.Sublist.cons_cons _ (sorted_sublist t s ht.2 hs.2 fun x hx => ?_)
      have h1 := h x (by simp [hx])
      rw [List.mem_cons] at h1
      rcases h1 with rfl | h1
      · exact absurd (hs.1 x hx) (by omega)
      · exact h1
    · refine List.Sublist.cons _ (sorted_sublist t (a :: s) ht.2 (by rw [List.pairwise_cons]; exact hs) fun x hx => ?_)
      have h1 := h x hx
      rw [List.mem_cons] at h1
      rcases h1 with rfl | h1
      · have h2 := ht.1 a ha
        rw [List.mem_cons] at hx
        rcases hx with rfl | hx
        · exact ha
        · have := hs.1 x hx; omega
      · exact h1
theorem fitsB_iff (g : Nat × Nat → Option Nat) (fam : List Nat) (i : Nat) : fitsB g fam i = true ↔ ∀ m ∈ fam, g (m, i) = none := by
  unfold fitsB
  rw [List.all_eq_true]
  simp only [Option.isNone_iff_eq_none]
theorem goodS_iff (g : Nat × Nat → Option Nat) : ∀ (s fam : List Nat), goodS g fam s = true ↔ (∀ x ∈ s, ∀ m ∈ fam, g (m, x) = none) ∧ s.Pairwise (fun a b => g (a, b) = none)
  | [], fam => by simp [goodS]
  | i :: s, fam => by
    simp only [goodS, Bool.and_eq_true, goodS_iff g s, fitsB_iff, List.pairwise_cons, List.mem_cons, List.mem_append, forall_eq_or_imp]
    constructor
    · rintro ⟨h1, h2, h3⟩
      exact ⟨⟨h1, fun x hx m hm => h2 x hx m (.inl hm)⟩, fun x hx => h2 x hx i (.inr (by simp)), h3⟩
    · rintro ⟨⟨h1, h2⟩, h3, h4⟩
      refine ⟨h1, fun x hx m hm => ?_, h4⟩
      rcases hm with hm | hm
      · exact h2 x hx m hm
      · have : m = i := by simpa using hm
        rw [this]; exact h3 x hx
/-- A family: indexes in increasing order, of free marks, no two of which clash. -/
def FamOK (ms : List Nat) (L : Nat) (qs l : List Nat) : Prop :=
  l.Pairwise (· < ·) ∧ (∀ i ∈ l, i < qs.length ∧ freeTo L ms (mAt qs i) ms.length = true) ∧ l.Pairwise (fun a b => cl L (mAt qs a) (mAt qs b) = false)
theorem freeIx_eq {S L : Nat} {ms qs : List Nat} (hv : Valid S L ms) (hq : Valid S L qs) : freeIx ms L qs = pickL 0 qs.length fun i => freeTo L ms (mAt qs i) ms.length := by
  unfold freeIx
  congr 1
  funext i
  exact untaken_free hv _ (mAt_lt2 hq i)
theorem mem_freeIx {S L : Nat} {ms qs : List Nat} (hv : Valid S L ms) (hq : Valid S L qs) (i : Nat) : i ∈ freeIx ms L qs ↔ i < qs.length ∧ freeTo L ms (mAt qs i) ms.length = true := by
  rw [freeIx_eq hv hq]
  unfold pickL
  rw [List.mem_filter, List.mem_range'_1]
  constructor
  · rintro ⟨h1, h2⟩; exact ⟨by omega, h2⟩
  · rintro ⟨h1, h2⟩; exact ⟨by omega, h2⟩
theorem freeIx_sorted (ms : List Nat) (L : Nat) (qs : List Nat) : (freeIx ms L qs).Pairwise (· < ·) := by
  unfold freeIx pickL
  exact List.Pairwise.filter _ List.pairwise_lt_range'
theorem askF_none {S L : Nat} {ms qs : List Nat} (hv : Valid S L ms) (hq : Valid S L qs) {a b : Nat} (ha : a ∈ freeIx ms L qs) (hb : b ∈ freeIx ms L qs) (hab : a < b) :
    askF ms L qs (a, b) = none ↔ cl L (mAt qs a) (mAt qs b) = false := by
  have hbl := ((mem_freeIx hv hq b).1 hb).1
  have hp := pairs_mem _ _ _ hab hbl
  unfold askF clF
  rw [if_pos ⟨ha, hb⟩, ← clP_clB hq (L2 := L)]
  unfold clP
  simp only [hp, true_and]
  cases cl L (mAt qs a) (mAt qs b)
  · simp
  · simp
theorem pairwise_in {p q : Nat → Nat → Prop} : ∀ {l : List Nat}, (∀ a ∈ l, ∀ b ∈ l, a < b → (p a b ↔ q a b)) → l.Pairwise (· < ·) → (l.Pairwise p ↔ l.Pairwise q)
  | [], _, _ => by simp
  | a :: l, h, hs => by
    rw [List.pairwise_cons] at hs
    rw [List.pairwise_cons, List.pairwise_cons, pairwise_in (fun x hx y hy => h x (by simp [hx]) y (by simp [hy])) hs.2]
    constructor
    · rintro ⟨h1, h2⟩; exact ⟨fun b hb => (h a (by simp) b (by simp [hb]) (hs.1 b hb)).1 (h1 b hb), h2⟩
    · rintro ⟨h1, h2⟩; exact ⟨fun b hb => (h a (by simp) b (by simp [hb]) (hs.1 b hb)).2 (h1 b hb), h2⟩
theorem famOK_iff {S L : Nat} {ms qs : List Nat} (hv : Valid S L ms) (hq : Valid S L qs) (l : List Nat) : FamOK ms L qs l ↔ l.Sublist (freeIx ms L qs) ∧ goodS (askF ms L qs) [] l = true := by
  have key : l.Sublist (freeIx ms L qs) → (goodS (askF ms L qs) [] l = true ↔ l.Pairwise (fun a b => cl L (mAt qs a) (mAt qs b) = false)) := by
    intro hs
    rw [goodS_iff]
    simp only [List.not_mem_nil, false_implies, implies_true, true_and]
    exact pairwise_in (fun a ha b hb hab => askF_none hv hq (hs.subset ha) (hs.subset hb) hab) (List.Pairwise.sublist hs (freeIx_sorted ms L qs))
  constructor
  · rintro ⟨h1, h2, h3⟩
    have hs := sorted_sublist _ l (freeIx_sorted ms L qs) h1 fun x hx => (mem_freeIx hv hq x).2 (h2 x hx)
    exact ⟨hs, (key hs).2 h3⟩
  · rintro ⟨hs, hg⟩
    exact ⟨List.Pairwise.sublist hs (freeIx_sorted ms L qs), fun i hi => (mem_freeIx hv hq i).1 (hs.subset hi), (key hs).1 hg⟩
/-- The family that is returned is one, and the first one of the greatest. -/
theorem family_best {S L : Nat} {ms qs : List Nat} (hv : Valid S L ms) (hq : Valid S L qs) :
    FamOK ms L qs (familyL ms L qs) ∧ ∀ l, FamOK ms L qs l → l.length ≤ (familyL ms L qs).length ∧ (l.length = (familyL ms L qs).length → l = familyL ms L qs ∨ lexlt (familyL ms L qs) l = true) := by
  have h := search_best (askF ms L qs) (freeIx ms L qs) (freeIx_sorted ms L qs)
  unfold familyL
  exact ⟨(famOK_iff hv hq _).2 ⟨h.1, h.2.1⟩, fun l hl => h.2.2 l ((famOK_iff hv hq l).1 hl).1 ((famOK_iff hv hq l).1 hl).2⟩
/-- What CheckFamily says, by the marks. -/
theorem famB_iff {S L : Nat} {ms qs : List Nat} (hv : Valid S L ms) (hq : Valid S L qs) (l : List Nat) (hl : l.Pairwise (· < ·)) : famB (freeIx ms L qs) (askF ms L qs) l = true ↔ FamOK ms L qs l := by
  unfold famB
  rw [List.all_eq_true]
  constructor
  · intro h
    have hk : ∀ k (hk : k < l.length), l[k] ∈ freeIx ms L qs ∧ ∀ m ∈ l.take k, askF ms L qs (m, l[k]) = none := by
      intro k hk
      have := h k (List.mem_range.2 hk)
      have hm : mAt l k = l[k] := by unfold mAt; simp [hk]
      rw [hm, Bool.and_eq_true, fitsB_iff] at this
      exact ⟨of_decide_eq_true this.1, this.2⟩
    have hmem : ∀ x ∈ l, x ∈ freeIx ms L qs := by
      intro x hx
      obtain ⟨k, hk', rfl⟩ := List.getElem_of_mem hx
      exact (hk k hk').1
    rw [famOK_iff hv hq]
    refine ⟨sorted_sublist _ l (freeIx_sorted ms L qs) hl hmem, ?_⟩
    rw [goodS_iff]
    refine ⟨fun x _ m hm => (by cases hm), ?_⟩
    rw [List.pairwise_iff_getElem]
    intro i j hi hj hij
    refine (hk j hj).2 _ ?_
    rw [List.mem_take_iff_getElem]
    exact ⟨i, by omega, rfl⟩
  · intro h
    obtain ⟨hs, hg⟩ := (famOK_iff hv hq l).1 h
    rw [goodS_iff] at hg
    intro k hk
    rw [List.mem_range] at hk
    have hm : mAt l k = l[k] := by unfold mAt; simp [hk]
    rw [hm, Bool.and_eq_true, fitsB_iff]
    refine ⟨decide_eq_true (hs.subset (List.getElem_mem hk)), fun m hm => ?_⟩
    rw [List.mem_take_iff_getElem] at hm
    obtain ⟨i, hi, rfl⟩ := hm
    have := hg.2
    rw [List.pairwise_iff_getElem] at this
    exact this i k (by omega) hk (by omega)
end Go.Proofs.Ytlgdnbpboonhdaa
