/- Plain facts: sets of indexes as numbers, their lists, and the best one of them. -/
import Derived.Test.YtlgdnbpboonhdaaG7
namespace Go.Proofs.Ytlgdnbpboonhdaa
open Go.RowKit Go.Shelf Go.Maps
set_option linter.unusedVariables false
theorem bitB_test (n i : Nat) : bitB n i = n.testBit i := by
  unfold bitB
  rw [Nat.testBit_eq_decide_div_mod_eq, Bool.eq_iff_iff]
  simp
theorem mem_bitsL (n i : Nat) : i ∈ bitsL n ↔ i < 12 ∧ bitB n i = true := by
  unfold bitsL pickL
  rw [List.mem_filter, List.mem_range'_1]
  constructor
  · rintro ⟨h1, h2⟩; exact ⟨by omega, h2⟩
  · rintro ⟨h1, h2⟩; exact ⟨by omega, h2⟩
theorem bitsL_sorted (n : Nat) : (bitsL n).Pairwise (· < ·) := by
  unfold bitsL pickL
  exact List.Pairwise.filter _ List.pairwise_lt_range'
theorem sorted_ext {a b : List Nat} (ha : a.Pairwise (· < ·)) (hb : b.Pairwise (· < ·)) (h : ∀ x, x ∈ a ↔ x ∈ b) : a = b :=
  (sorted_sublist b a hb ha fun x hx => (h x).1 hx).eq_of_length_le (sorted_sublist a b ha hb fun x hx => (h x).2 hx).length_le
def setOf (l : List Nat) : Nat := l.foldr (fun i s => 2 ^ i ||| s) 0
theorem setOf_bit (i : Nat) : ∀ l : List Nat, bitB (setOf l) i = decide (i ∈ l)
  | [] => by simp [setOf, bitB]
  | a :: l => by
    have ih := setOf_bit i l
    rw [bitB_test] at ih ⊢
    show (2 ^ a ||| setOf l).testBit i = _
    rw [Nat.testBit_or, ih, Nat.testBit_two_pow, Bool.eq_iff_iff, Bool.or_eq_true, decide_eq_true_iff, decide_eq_true_iff, decide_eq_true_iff, List.mem_cons]
    exact ⟨fun h => h.imp Eq.symm id, fun h => h.imp Eq.symm id⟩
theorem setOf_lt (n : Nat) : ∀ l : List Nat, (∀ i ∈ l, i < n) → setOf l < 2 ^ n
  | [], _ => Nat.two_pow_pos n
  | a :: l, h => by
    show 2 ^ a ||| setOf l < 2 ^ n
    exact Nat.or_lt_two_pow (Nat.pow_lt_pow_right (by omega) (h a (by simp))) (setOf_lt n l fun i hi => h i (by simp [hi]))
theorem bits_setOf {l : List Nat} (hl : l.Pairwise (· < ·)) (h : ∀ i ∈ l, i < 12) : bitsL (setOf l) = l := by
  refine sorted_ext (bitsL_sorted _) hl fun x => ?_
  rw [mem_bitsL, setOf_bit, decide_eq_true_iff]
  exact ⟨fun h => h.2, fun hx => ⟨h x hx, hx⟩⟩
theorem pickL_cons (lo n : Nat) (p : Nat → Bool) : pickL lo (n + 1) p = (if p lo then [lo] else []) ++ pickL (lo + 1) n p := by
  unfold pickL
  rw [List.range'_succ, List.filter_cons]
  split <;> rfl
theorem pickL_ge (lo n : Nat) (p : Nat → Bool) : ∀ x ∈ pickL lo n p, lo ≤ x := by
  intro x hx
  unfold pickL at hx
  rw [List.mem_filter, List.mem_range'_1] at hx
  exact hx.1.1
theorem lexlt_fst (a b : Nat) : ∀ m k, lexlt (pickL k m (bitB a)) (pickL k m (bitB b)) = true → fst m k a b = true
  | 0, k, h => by simp [pickL, lexlt] at h
  | m + 1, k, h => by
    rw [pickL_cons, pickL_cons] at h
    by_cases he : a / 2 ^ k % 2 = b / 2 ^ k % 2
    · rw [fst_eq m k a b he]
      have hbb : bitB a k = bitB b k := by unfold bitB; rw [he]
      rw [hbb, lexlt_append] at h
      exact lexlt_fst a b m (k + 1) h
    · rw [fst_ne m k a b he]
      show bitB a k = true
      cases ha : bitB a k
      · exfalso
        have hb : bitB b k = true := by
          cases hb : bitB b k
          · exfalso
            unfold bitB at ha hb
            have h1 : a / 2 ^ k % 2 < 2 := Nat.mod_lt _ (by decide)
            have h2 : b / 2 ^ k % 2 < 2 := Nat.mod_lt _ (by decide)
            simp at ha hb
            omega
          · rfl
        rw [ha, hb] at h
        simp only [Bool.false_eq_true, if_false, List.nil_append, if_true, List.singleton_append] at h
        cases hp : pickL (k + 1) m (bitB a) with
        | nil => rw [hp] at h; simp [lexlt] at h
        | cons x xs =>
          have hx := pickL_ge (k + 1) m (bitB a) x (by rw [hp]; simp)
          rw [hp] at h
          simp only [lexlt] at h
          rw [if_neg (by omega), decide_eq_true_iff] at h
          omega
      · rfl
/-- With which others a mark that is asked for clashes, and whether it is not free. -/
def clW (ms : List Nat) (L : Nat) (qs : List Nat) (i k : Nat) : Bool := if k = i then !freeTo L ms (mAt qs i) ms.length else cl L (mAt qs i) (mAt qs k)
def cTo (p : Nat → Bool) : Nat → Nat
  | 0 => 0
  | k + 1 => cTo p k + if p k then 2 ^ k else 0
theorem cTo_lt (p : Nat → Bool) : ∀ k, cTo p k < 2 ^ k
  | 0 => by simp [cTo]
  | k + 1 => by
    have := cTo_lt p k
    rw [Nat.pow_succ]
    unfold cTo
    split <;> omega
theorem cTo_bit (p : Nat → Bool) (i : Nat) : ∀ k, (cTo p k).testBit i = (decide (i < k) && p i)
  | 0 => by simp [cTo]
  | k + 1 => by
    have ih := cTo_bit p i k
    have hlt := cTo_lt p k
    unfold cTo
    cases hp : p k
    · simp only [Bool.false_eq_true, if_false, Nat.add_zero]
      rw [ih, Bool.eq_iff_iff]
      simp only [Bool.and_eq_true, decide_eq_true_iff]
      constructor
      · rintro ⟨h1, h2⟩; exact ⟨by omega, h2⟩
      · rintro ⟨h1, h2⟩
        refine ⟨?_, h2⟩
        rcases Nat.lt_or_ge i k with h3 | h3
        · exact h3
        · obtain rfl : i = k := by omega
          rw [hp] at h2; cases h2
    · simp only [if_true]
      rw [Nat.add_comm, ← Nat.one_mul (2 ^ k), Nat.mul_comm, Nat.two_pow_add_eq_or_of_lt hlt 1, Nat.testBit_or, ih, Nat.mul_one, Nat.testBit_two_pow, Bool.eq_iff_iff]
      simp only [Bool.or_eq_true, Bool.and_eq_true, decide_eq_true_iff]
      constructor
      · rintro (h | ⟨h1, h2⟩)
        · subst h; exact ⟨by omega, hp⟩
        · exact ⟨by omega, h2⟩
      · rintro ⟨h1, h2⟩
        rcases Nat.lt_or_ge i k with h3 | h3
        · exact .inr ⟨h3, h2⟩
        · exact .inl (by omega)
/-- A set of indexes is good: each of its marks clashes with none of the others, and is free. -/
def goodB (c : List Nat) (s k : Nat) : Bool := (List.range k).all fun i => !bitB s i || (mAt c i &&& s) == 0
theorem goodB_succ (c : List Nat) (s k : Nat) : goodB c s (k + 1) = (goodB c s k && (!bitB s k || (mAt c k &&& s) == 0)) := by
  simp [goodB, List.range_succ]
def clashL (ms : List Nat) (L : Nat) (qs : List Nat) : List Nat := (List.range qs.length).map fun i => cTo (clW ms L qs i) qs.length
theorem clashL_at (ms : List Nat) (L : Nat) (qs : List Nat) (i : Nat) (hi : i < qs.length) : (clashL ms L qs)[i]? = some (cTo (clW ms L qs i) qs.length) := by
  unfold clashL
  rw [List.getElem?_map, List.getElem?_range hi]; rfl
theorem and_zero (a b : Nat) : a &&& b = 0 ↔ ∀ i, a.testBit i = true → b.testBit i = false := by
  constructor
  · intro h i ha
    have := congrArg (fun n => n.testBit i) h
    simp only [Nat.testBit_and, Nat.zero_testBit, ha, Bool.true_and] at this
    exact this
  · intro h
    apply Nat.eq_of_testBit_eq
    intro i
    rw [Nat.testBit_and, Nat.zero_testBit]
    cases ha : a.testBit i
    · rfl
    · rw [h i ha]; rfl
theorem bit_lt {s n i : Nat} (hs : s < 2 ^ n) (h : s.testBit i = true) : i < n := by
  rcases Nat.lt_or_ge i n with h1 | h1
  · exact h1
  · rw [Nat.testBit_lt_two_pow (Nat.lt_of_lt_of_le hs (Nat.pow_le_pow_right (by omega) h1))] at h; cases h
theorem goodB_fam {ms : List Nat} {L : Nat} {qs : List Nat} {s : Nat} (hq : qs.length ≤ 12) (hs : s < 2 ^ qs.length) : goodB (clashL ms L qs) s qs.length = true ↔ FamOK ms L qs (bitsL s) := by
  have hm : ∀ x, x ∈ bitsL s ↔ s.testBit x = true := by
    intro x
    rw [mem_bitsL, bitB_test]
    exact ⟨fun h => h.2, fun h => ⟨by have := bit_lt hs h; omega, h⟩⟩
  unfold goodB
  rw [List.all_eq_true]
  have hc : ∀ i, i < qs.length → ((!bitB s i || (mAt (clashL ms L qs) i &&& s) == 0) = true ↔ (s.testBit i = true → ∀ k, k < qs.length → s.testBit k = true → clW ms L qs i k = false)) := by
    intro i hi
    rw [mAt_of (clashL_at ms L qs i hi), bitB_test, Bool.or_eq_true, Bool.not_eq_true', beq_iff_eq, and_zero]
    constructor
    · rintro (h | h) h1 k hk h2
      · rw [h] at h1; cases h1
      · cases hw : clW ms L qs i k
        · rfl
        · have := h k (by rw [cTo_bit, hw]; simp [hk])
          rw [this] at h2; cases h2
    · intro h
      cases hb : s.testBit i
      · exact .inl rfl
      · refine .inr fun k hk => ?_
        rw [cTo_bit, Bool.and_eq_true, decide_eq_true_iff] at hk
        cases h2 : s.testBit k
        · rfl
        · rw [h hb k hk.1 h2] at hk; cases hk.2
  constructor
  · intro h
    have h' : ∀ i, s.testBit i = true → ∀ k, s.testBit k = true → clW ms L qs i k = false := fun i hi k hk =>
      (hc i (bit_lt hs hi)).1 (h i (List.mem_range.2 (bit_lt hs hi))) hi k (bit_lt hs hk) hk
    refine ⟨bitsL_sorted s, fun i hi => ?_, ?_⟩
    · have h1 := (hm i).1 hi
      refine ⟨bit_lt hs h1, ?_⟩
      have := h' i h1 i h1
      unfold clW at this
      rw [if_pos rfl] at this
      simpa using this
    · have := bitsL_sorted s
      rw [List.pairwise_iff_getElem] at this ⊢
      intro i j hi hj hij
      have h1 := (hm _).1 (List.getElem_mem hi)
      have h2 := (hm _).1 (List.getElem_mem hj)
      have h3 := this i j hi hj hij
      have h4 := h' _ h1 _ h2
      unfold clW at h4
      rwa [if_neg (by omega)] at h4
  · rintro ⟨h1, h2, h3⟩ i hi
    rw [List.mem_range] at hi
    refine (hc i hi).2 fun hbi k hk hbk => ?_
    unfold clW
    by_cases he : k = i
    · rw [if_pos he]
      have := (h2 i ((hm i).2 hbi)).2
      rw [this]; rfl
    · rw [if_neg he]
      have hmi := (hm i).2 hbi
      have hmk := (hm k).2 hbk
      obtain ⟨a, ha, hai⟩ := List.getElem_of_mem hmi
      obtain ⟨b, hb, hbk2⟩ := List.getElem_of_mem hmk
      rw [List.pairwise_iff_getElem] at h3
      rcases Nat.lt_trichotomy a b with h4 | h4 | h4
      · have := h3 a b ha hb h4
        rwa [hai, hbk2] at this
      · subst h4; rw [hai] at hbk2; exact absurd hbk2.symm he
      · have := h3 b a hb ha h4
        rw [hai, hbk2] at this
        rw [cl_comm]; exact this
/-- A set is better than another one: more indexes, or as many and before it. -/
def betterB (a b : Nat) : Bool := decide ((bitsL b).length < (bitsL a).length) || (decide ((bitsL a).length = (bitsL b).length) && fst 12 0 a b)
/-- The best of the good sets is the family that is returned. -/
theorem best_family {S L : Nat} {ms qs : List Nat} (hv : Valid S L ms) (hq : Valid S L qs) {best : Nat} (hb : best < 2 ^ qs.length) (hg : goodB (clashL ms L qs) best qs.length = true)
    (hbest : ∀ s, s < 2 ^ qs.length → goodB (clashL ms L qs) s qs.length = true → betterB s best = false) : bitsL best = familyL ms L qs := by
  have hq12 := hq.2.2.2.1
  obtain ⟨h1, h2⟩ := family_best hv hq
  have hB := (goodB_fam hq12 hb).1 hg
  obtain ⟨h3, h4⟩ := h2 _ hB
  have hin : ∀ i ∈ familyL ms L qs, i < qs.length := fun i hi => (h1.2.1 i hi).1
  have hbs : bitsL (setOf (familyL ms L qs)) = familyL ms L qs := bits_setOf h1.1 fun i hi => by have := hin i hi; omega
  have hsl := setOf_lt qs.length (familyL ms L qs) hin
  have h5 := hbest _ hsl ((goodB_fam hq12 hsl).2 (by rw [hbs]; exact h1))
  unfold betterB at h5
  rw [hbs, Bool.or_eq_false_iff, Bool.and_eq_false_iff, decide_eq_false_iff_not, decide_eq_false_iff_not] at h5
  have hlen : (bitsL best).length = (familyL ms L qs).length := by omega
  rcases h4 hlen with h | h
  · exact h
  · exfalso
    rcases h5.2 with h6 | h6
    · exact h6 hlen.symm
    · have h7 := lexlt_fst (setOf (familyL ms L qs)) best 12 0 (by
        have e1 : pickL 0 12 (bitB (setOf (familyL ms L qs))) = familyL ms L qs := hbs
        rw [e1]; exact h)
      rw [h7] at h6; cases h6
end Go.Proofs.Ytlgdnbpboonhdaa
