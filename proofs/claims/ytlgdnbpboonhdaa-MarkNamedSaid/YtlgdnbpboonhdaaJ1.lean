/- Plain facts for MarkNamed: sets of strokes that have other names. -/
import Derived.Test.YtlgdnbpboonhdaaU5
import Derived.Test.YtlgdnbpboonhdaaU9
import Derived.Test.YtlgdnbpboonhdaaV1
namespace Go.Proofs.Ytlgdnbpboonhdaa
open Go.RowKit
set_option linter.unusedVariables false
theorem nodup_len : ∀ (a b : List Nat), a.Nodup → (∀ x ∈ a, x ∈ b) → a.length ≤ b.length
  | [], b, _, _ => Nat.zero_le _
  | x :: a, b, hn, hs => by
    have hx : x ∈ b := hs x (by simp)
    have hn2 := List.nodup_cons.1 hn
    have h := nodup_len a (b.erase x) hn2.2 (fun y hy => (List.mem_erase_of_ne (fun e => hn2.1 (by rw [← e]; exact hy))).2 (hs y (List.mem_cons_of_mem _ hy)))
    rw [List.length_erase_of_mem hx] at h
    have : 0 < b.length := List.length_pos_of_mem hx
    simp only [List.length_cons]
    omega
theorem map_nodup {f : Nat → Nat} : ∀ {l : List Nat}, l.Nodup → (∀ x ∈ l, ∀ y ∈ l, f x = f y → x = y) → (l.map f).Nodup
  | [], _, _ => List.nodup_nil
  | x :: l, hn, hi => by
    have hn2 := List.nodup_cons.1 hn
    rw [List.map_cons, List.nodup_cons]
    refine ⟨fun hm => ?_, map_nodup hn2.2 fun a ha b hb => hi a (List.mem_cons_of_mem _ ha) b (List.mem_cons_of_mem _ hb)⟩
    obtain ⟨y, hy, he⟩ := List.mem_map.1 hm
    have := hi y (List.mem_cons_of_mem _ hy) x (by simp) he
    rw [this] at hy
    exact hn2.1 hy
/-- Two lists of as many, as one goes into the other and all of it is met. -/
theorem map_len {f : Nat → Nat} {a b : List Nat} (ha : a.Nodup) (hb : b.Nodup) (hi : ∀ x ∈ a, ∀ y ∈ a, f x = f y → x = y) (h1 : ∀ x ∈ a, f x ∈ b) (h2 : ∀ y ∈ b, ∃ x ∈ a, f x = y) : a.length = b.length := by
  have e1 := nodup_len (a.map f) b (map_nodup ha hi) (fun y hy => by
    obtain ⟨x, hx, rfl⟩ := List.mem_map.1 hy
    exact h1 x hx)
  have e2 := nodup_len b (a.map f) hb (fun y hy => by
    obtain ⟨x, hx, rfl⟩ := h2 y hy
    exact List.mem_map_of_mem hx)
  rw [List.length_map] at e1 e2
  omega
/-- New names of the first strokes. -/
structure IsName (S : Nat) (σ : List Nat) : Prop where
  len : σ.length = S
  nodup : σ.Nodup
  lt : ∀ x ∈ σ, x < S
theorem IsName.start (S : Nat) : IsName S (List.range S) := ⟨List.length_range, List.nodup_range, fun _ h => List.mem_range.1 h⟩
theorem mAt_mem {σ : List Nat} {i : Nat} (h : i < σ.length) : mAt σ i ∈ σ := by
  unfold mAt
  rw [List.getElem?_eq_getElem h]
  exact List.getElem_mem h
theorem IsName.at_lt {S : Nat} {σ : List Nat} (h : IsName S σ) {i : Nat} (hi : i < S) : mAt σ i < S := h.lt _ (mAt_mem (by rw [h.len]; exact hi))
theorem IsName.inj {S : Nat} {σ : List Nat} (h : IsName S σ) {i k : Nat} (hi : i < S) (hk : k < S) (he : mAt σ i = mAt σ k) : i = k := by
  unfold mAt at he
  rw [List.getElem?_eq_getElem (by rw [h.len]; exact hi), List.getElem?_eq_getElem (by rw [h.len]; exact hk)] at he
  exact (List.getElem_inj h.nodup).1 he
theorem IsName.surj {S : Nat} {σ : List Nat} (h : IsName S σ) {j : Nat} (hj : j < S) : ∃ i, i < S ∧ mAt σ i = j := by
  have hm : j ∈ σ := by
    apply Classical.byContradiction
    intro hn
    have h1 := nodup_len (j :: σ) (List.range S) (List.nodup_cons.2 ⟨hn, h.nodup⟩) (fun x hx => by
      rcases List.mem_cons.1 hx with rfl | hx
      · exact List.mem_range.2 hj
      · exact List.mem_range.2 (h.lt x hx))
    rw [List.length_cons, h.len, List.length_range] at h1
    omega
  obtain ⟨i, hi, he⟩ := List.getElem_of_mem hm
  refine ⟨i, by rw [← h.len]; exact hi, ?_⟩
  unfold mAt
  rw [List.getElem?_eq_getElem hi, he]
  rfl
/-- Two names exchanged. -/
def swapL (σ : List Nat) (a b : Nat) : List Nat := (σ.set a (mAt σ b)).set b (mAt σ a)
theorem swap_at (σ : List Nat) (a b i : Nat) (ha : a < σ.length) (hb : b < σ.length) : mAt (swapL σ a b) i = if i = b then mAt σ a else if i = a then mAt σ b else mAt σ i := by
  unfold swapL
  show (((σ.set a (mAt σ b)).set b (mAt σ a))[i]?).getD 0 = _
  rw [List.getElem?_set, List.getElem?_set, List.length_set]
  by_cases h1 : b = i
  · subst h1; simp [hb]
  · have h1' : ¬ i = b := fun h => h1 h.symm
    by_cases h2 : a = i
    · subst h2; simp [ha, h1, h1']
    · have h2' : ¬ i = a := fun h => h2 h.symm
      rw [if_neg h1, if_neg h2, if_neg h1', if_neg h2']
      rfl
theorem IsName.swap {S : Nat} {σ : List Nat} (h : IsName S σ) {a b : Nat} (ha : a < S) (hb : b < S) : IsName S (swapL σ a b) := by
  have hl : (swapL σ a b).length = S := by unfold swapL; rw [List.length_set, List.length_set, h.len]
  have hat := fun i => swap_at σ a b i (by rw [h.len]; exact ha) (by rw [h.len]; exact hb)
  refine ⟨hl, ?_, ?_⟩
  · rw [List.nodup_iff_pairwise_ne, List.pairwise_iff_getElem]
    intro i k hi hk hik he
    have e1 : mAt (swapL σ a b) i = mAt (swapL σ a b) k := by
      unfold mAt
      rw [List.getElem?_eq_getElem hi, List.getElem?_eq_getElem hk, he]
    rw [hat, hat] at e1
    rw [hl] at hi hk
    split at e1 <;> split at e1 <;> (try split at e1) <;> (try split at e1) <;> first
      | omega
      | (have := h.inj (by assumption) (by assumption) e1; omega)
  · intro x hx
    obtain ⟨i, hi, rfl⟩ := List.getElem_of_mem hx
    have e1 : (swapL σ a b)[i] = mAt (swapL σ a b) i := by unfold mAt; rw [List.getElem?_eq_getElem hi]; rfl
    rw [e1, hat]
    rw [hl] at hi
    split
    · exact h.at_lt ha
    · split
      · exact h.at_lt hb
      · exact h.at_lt hi
/-- A set whose strokes have other names, as far as its first strokes go. -/
def nmTo (σ : List Nat) (x : Nat) : Nat → Nat
  | 0 => 0
  | k + 1 => if x.testBit k then nmTo σ x k ||| 2 ^ mAt σ k else nmTo σ x k
theorem nm_bit (σ : List Nat) (x j : Nat) : ∀ k, (nmTo σ x k).testBit j = true ↔ ∃ i, i < k ∧ x.testBit i = true ∧ mAt σ i = j
  | 0 => by simp [nmTo]
  | k + 1 => by
    have ih := nm_bit σ x j k
    unfold nmTo
    cases hb : x.testBit k
    · rw [if_neg (by simp), ih]
      constructor
      · rintro ⟨i, h1, h2, h3⟩; exact ⟨i, by omega, h2, h3⟩
      · rintro ⟨i, h1, h2, h3⟩
        rcases Nat.lt_or_eq_of_le (Nat.le_of_lt_succ h1) with h | rfl
        · exact ⟨i, h, h2, h3⟩
        · rw [hb] at h2; cases h2
    · rw [if_pos rfl, Nat.testBit_or, Bool.or_eq_true, ih, Nat.testBit_two_pow, decide_eq_true_iff]
      constructor
      · rintro (⟨i, h1, h2, h3⟩ | h)
        · exact ⟨i, by omega, h2, h3⟩
        · exact ⟨k, by omega, hb, h⟩
      · rintro ⟨i, h1, h2, h3⟩
        rcases Nat.lt_or_eq_of_le (Nat.le_of_lt_succ h1) with h | rfl
        · exact .inl ⟨i, h, h2, h3⟩
        · exact .inr h3
theorem testBit_ge {n S j : Nat} (h : n < 2 ^ S) (hj : S ≤ j) : n.testBit j = false := Nat.testBit_lt_two_pow (Nat.lt_of_lt_of_le h (Nat.pow_le_pow_right (by decide) hj))
theorem lt_of_bits {n S : Nat} (h : ∀ j, n.testBit j = true → j < S) : n < 2 ^ S := by
  apply Nat.lt_pow_two_of_testBit
  intro j hj
  cases hb : n.testBit j
  · rfl
  · have := h j hb; omega
theorem nmTo_lt {S : Nat} {σ : List Nat} (h : IsName S σ) (x k : Nat) (hk : k ≤ S) : nmTo σ x k < 2 ^ S := lt_of_bits fun j hj => by
  obtain ⟨i, h1, -, h3⟩ := (nm_bit σ x j k).1 hj
  rw [← h3]; exact h.at_lt (by omega)
/-- One more stroke. -/
theorem nmTo_add {S : Nat} {σ : List Nat} (h : IsName S σ) (hS : S ≤ 10) (x k : Nat) (hk : k < S) (hb : x.testBit k = true) : nmTo σ x k + 2 ^ mAt σ k = nmTo σ x (k + 1) := by
  have h0 : nmTo σ x k < 2 ^ S := nmTo_lt h x k (by omega)
  have h1 : (2 : Nat) ^ S ≤ 2 ^ 10 := Nat.pow_le_pow_right (by decide) hS
  have h2 : (2 : Nat) ^ mAt σ k < 2 ^ S := Nat.pow_lt_pow_right (by decide) (h.at_lt hk)
  have e : nmTo σ x (k + 1) = nmTo σ x k ||| 2 ^ mAt σ k := by
    show (if x.testBit k = true then _ else _) = _
    rw [if_pos hb]
  rw [e]
  refine add_or _ _ (Nat.lt_of_lt_of_le h0 h1) (Nat.lt_of_lt_of_le h2 h1) ?_
  apply Nat.eq_of_testBit_eq
  intro j
  rw [Nat.testBit_and, Nat.zero_testBit, Nat.testBit_two_pow]
  by_cases hj : mAt σ k = j
  · cases hx : (nmTo σ x k).testBit j
    · rfl
    · exfalso
      obtain ⟨i, h3, -, h5⟩ := (nm_bit σ x j k).1 hx
      have := h.inj (by omega) hk (h5.trans hj.symm)
      omega
  · simp [hj]
section
variable {S : Nat} {σ : List Nat} (h : IsName S σ)
include h
theorem nm_lt (x : Nat) : nmTo σ x S < 2 ^ S := nmTo_lt h x S (Nat.le_refl _)
theorem nm_at (x : Nat) {i : Nat} (hi : i < S) : (nmTo σ x S).testBit (mAt σ i) = x.testBit i := by
  rw [Bool.eq_iff_iff, nm_bit]
  constructor
  · rintro ⟨k, h1, h2, h3⟩
    have := h.inj h1 hi h3
    rw [← this]; exact h2
  · intro hb; exact ⟨i, hi, hb, rfl⟩
theorem nm_ext {a b : Nat} (ha : a < 2 ^ S) (hb : b < 2 ^ S) (he : ∀ i, i < S → a.testBit (mAt σ i) = b.testBit (mAt σ i)) : a = b := by
  apply Nat.eq_of_testBit_eq
  intro j
  by_cases hj : j < S
  · obtain ⟨i, hi, rfl⟩ := h.surj hj
    exact he i hi
  · rw [testBit_ge ha (by omega), testBit_ge hb (by omega)]
theorem nm_and (a b : Nat) : nmTo σ (a &&& b) S = nmTo σ a S &&& nmTo σ b S := by
  refine nm_ext h (nm_lt h _) (Nat.and_lt_two_pow _ (nm_lt h b)) fun i hi => ?_
  rw [nm_at h _ hi, Nat.testBit_and, Nat.testBit_and, nm_at h _ hi, nm_at h _ hi]
theorem nm_dif (a b : Nat) : nmTo σ (dif a b) S = dif (nmTo σ a S) (nmTo σ b S) := by
  unfold dif
  refine nm_ext h (nm_lt h _) (Nat.xor_lt_two_pow (nm_lt h a) (Nat.and_lt_two_pow _ (nm_lt h b))) fun i hi => ?_
  rw [nm_at h _ hi, Nat.testBit_xor, Nat.testBit_xor, Nat.testBit_and, Nat.testBit_and, nm_at h _ hi, nm_at h _ hi]
theorem nm_inj {a b : Nat} (ha : a < 2 ^ S) (hb : b < 2 ^ S) (he : nmTo σ a S = nmTo σ b S) : a = b := by
  apply Nat.eq_of_testBit_eq
  intro j
  by_cases hj : j < S
  · rw [← nm_at h a hj, ← nm_at h b hj, he]
  · rw [testBit_ge ha (by omega), testBit_ge hb (by omega)]
omit h in
theorem nm_zero (k : Nat) : nmTo σ 0 k = 0 := by
  induction k with
  | zero => rfl
  | succ k ih => simp [nmTo, ih]
theorem nm_sub {a b : Nat} (ha : a < 2 ^ S) (hb : b < 2 ^ S) : sub (nmTo σ a S) (nmTo σ b S) = sub a b := by
  rw [Bool.eq_iff_iff, sub_spec, sub_spec, ← nm_and h]
  constructor
  · intro he; exact nm_inj h (Nat.and_lt_two_pow _ hb) ha he
  · intro he; rw [he]
omit h in
theorem pcTo_len (n : Nat) : ∀ i, pcTo i n = ((List.range i).filter fun j => n.testBit j).length
  | 0 => rfl
  | i + 1 => by
    rw [List.range_succ, List.filter_append, List.length_append, ← pcTo_len n i]
    show pcTo i n + n / 2 ^ i % 2 = _
    congr 1
    rw [List.filter_cons, Nat.testBit_eq_decide_div_mod_eq]
    have : n / 2 ^ i % 2 = 0 ∨ n / 2 ^ i % 2 = 1 := by omega
    rcases this with h | h <;> rw [h] <;> simp
theorem pc_nm (hS : S ≤ 10) {a : Nat} (ha : a < 2 ^ S) : pc (nmTo σ a S) = pc a := by
  rw [← pcTo10, ← pcTo10, pcTo_len, pcTo_len]
  symm
  have hmem : ∀ x, x ∈ (List.range 10).filter (fun j => a.testBit j) → x < S ∧ a.testBit x = true := by
    intro x hx
    rw [List.mem_filter] at hx
    refine ⟨?_, hx.2⟩
    apply Classical.byContradiction
    intro hn
    have := testBit_ge ha (by omega : S ≤ x)
    rw [hx.2] at this; cases this
  refine map_len (f := mAt σ) (List.nodup_range.filter _) (List.nodup_range.filter _) (fun x hx y hy he => h.inj (hmem x hx).1 (hmem y hy).1 he) (fun x hx => ?_) (fun y hy => ?_)
  · obtain ⟨h1, h2⟩ := hmem x hx
    have := h.at_lt h1
    rw [List.mem_filter, nm_at h a h1]
    exact ⟨List.mem_range.2 (by omega), h2⟩
  · rw [List.mem_filter] at hy
    obtain ⟨i, h1, h2, h3⟩ := (nm_bit σ a y S).1 hy.2
    exact ⟨i, List.mem_filter.2 ⟨List.mem_range.2 (by omega), h2⟩, h3⟩
/-- Each set is one with other names. -/
theorem nm_surj {y : Nat} (hy : y < 2 ^ S) : ∃ x, x < 2 ^ S ∧ nmTo σ x S = y := by
  have hex : ∀ k, ∃ x, x < 2 ^ k ∧ ∀ i, x.testBit i = (decide (i < k) && y.testBit (mAt σ i)) := by
    intro k
    induction k with
    | zero => exact ⟨0, by simp, fun i => by simp⟩
    | succ k ih =>
      obtain ⟨x, hx, hb⟩ := ih
      refine ⟨x ||| (if y.testBit (mAt σ k) then 2 ^ k else 0), ?_, fun i => ?_⟩
      · apply Nat.or_lt_two_pow
        · exact Nat.lt_of_lt_of_le hx (Nat.pow_le_pow_right (by decide) (by omega))
        · split
          · exact Nat.pow_lt_pow_right (by decide) (by omega)
          · exact Nat.two_pow_pos _
      · rw [Nat.testBit_or, hb]
        by_cases hi : i = k
        · subst hi
          cases hc : y.testBit (mAt σ i) <;> simp
        · have h1 : decide (i < k + 1) = decide (i < k) := by rw [decide_eq_decide]; omega
          rw [h1]
          split
          · rw [Nat.testBit_two_pow]
            simp [show ¬ k = i from fun e => hi e.symm]
          · simp
  obtain ⟨x, hx, hb⟩ := hex S
  refine ⟨x, hx, ?_⟩
  refine nm_ext h (nm_lt h x) hy fun i hi => ?_
  rw [nm_at h x hi, hb]
  simp [hi]
theorem nm_cb (hS : S ≤ 10) (L : Int) {w m : Nat} (hw : w < 2 ^ S) (hm : m < 2 ^ S) : cb L (nmTo σ w S) (nmTo σ m S) = cb L w m := by
  have h1 : (2 : Nat) ^ S ≤ 2 ^ 10 := Nat.pow_le_pow_right (by decide) hS
  have h2 := nm_lt h m
  rw [Bool.eq_iff_iff, cb_iff _ _ _ (by omega), cb_iff _ _ _ (by omega), nm_sub h hw hm, pc_nm h hS hw, pc_nm h hS hm]
theorem nm_cl (hS : S ≤ 10) (L : Int) {a b : Nat} (ha : a < 2 ^ S) (hb : b < 2 ^ S) : cl L (nmTo σ a S) (nmTo σ b S) = cl L a b := by
  unfold cl
  rw [← nm_and h, nm_cb h hS L (Nat.and_lt_two_pow _ hb) ha, nm_cb h hS L (Nat.and_lt_two_pow _ hb) hb]
end
/-- An office with other names. -/
def nmL (σ : List Nat) (S : Nat) (ms : List Nat) : List Nat := ms.map fun m => nmTo σ m S
theorem nmL_len (σ : List Nat) (S : Nat) (ms : List Nat) : (nmL σ S ms).length = ms.length := by simp [nmL]
theorem nmL_at (σ : List Nat) (S : Nat) (ms : List Nat) (i : Nat) : mAt (nmL σ S ms) i = nmTo σ (mAt ms i) S := by
  unfold mAt nmL
  rw [List.getElem?_map]
  cases ms[i]?
  · exact (nm_zero _).symm
  · rfl
theorem two_full (S : Nat) : full S < 2 ^ S := by have := Nat.two_pow_pos S; unfold full; omega
theorem Valid.at2 {S L : Nat} {ms : List Nat} (hv : Valid S L ms) (i : Nat) : mAt ms i < 2 ^ S := by
  have h2 := two_full S
  by_cases hi : i < ms.length
  · have := (hv.2.2.2.2 _ (mAt_mem hi)).2; omega
  · unfold mAt
    rw [List.getElem?_eq_none (by omega)]
    exact Nat.two_pow_pos S
section
variable {S L : Nat} {ms σ : List Nat} (h : IsName S σ) (hv : Valid S L ms)
include h hv
theorem nm_valid : Valid S L (nmL σ S ms) := by
  refine ⟨hv.1, hv.2.1, hv.2.2.1, by rw [nmL_len]; exact hv.2.2.2.1, fun x hx => ?_⟩
  obtain ⟨m, hm, rfl⟩ := List.mem_map.1 hx
  obtain ⟨h1, h2⟩ := hv.2.2.2.2 m hm
  have h3 := two_full S
  have h4 := nm_lt h m
  have h5 : nmTo σ m S ≠ 0 := fun e => by
    have := nm_inj h (show m < 2 ^ S by omega) (Nat.two_pow_pos S) (e.trans (nm_zero S).symm)
    omega
  unfold full at *
  omega
theorem nm_owners {x : Nat} (hx : x < 2 ^ S) : ownersL L (nmTo σ x S) (nmL σ S ms) = ownersL L x ms := by
  unfold ownersL
  rw [nmL_len]
  congr 1
  funext i
  have := nmL_at σ S ms i
  unfold mAt at this
  rw [this]
  exact nm_cb h hv.2.1 L hx (hv.at2 i)
theorem nm_margin : marginL S (nmL σ S ms) (pairsL (nmL σ S ms).length) = marginL S ms (pairsL ms.length) := by
  rw [nmL_len]
  unfold marginL
  have e : mg (nmL σ S ms) = mg ms := by
    funext p
    have h1 := hv.at2 p.1
    have h2 := hv.at2 p.2
    have l1 : ∀ a b, a < 2 ^ S → dif a b < 2 ^ S := fun a b ha => by
      unfold dif
      exact Nat.xor_lt_two_pow ha (by rw [Nat.and_comm]; exact Nat.and_lt_two_pow _ ha)
    unfold mg dA dB
    rw [nmL_at, nmL_at, ← nm_and h, ← nm_dif h, ← nm_dif h, pc_nm h hv.2.1 (l1 _ _ h1), pc_nm h hv.2.1 (l1 _ _ h2)]
  rw [e]
theorem nm_freeTo {m : Nat} (hm : m < 2 ^ S) : freeTo L (nmL σ S ms) (nmTo σ m S) (nmL σ S ms).length = freeTo L ms m ms.length := by
  rw [nmL_len]
  unfold freeTo
  congr 1
  funext i
  rw [nmL_at, nm_cl h hv.2.1 L hm (hv.at2 i)]
theorem nm_free : (freeL S L (nmL σ S ms)).length = (freeL S L ms).length := by
  have h3 := two_full S
  have hp := Nat.two_pow_pos S
  rw [freeL_eq hv, freeL_eq (nm_valid h hv)]
  symm
  have hmem : ∀ x, x ∈ pickL 1 (full S) (fun m => freeTo L ms m ms.length) → x < 2 ^ S := by
    intro x hx
    rw [mem_pickL] at hx
    unfold full at *; omega
  refine map_len (f := fun x => nmTo σ x S) (List.Pairwise.filter _ List.nodup_range') (List.Pairwise.filter _ List.nodup_range') (fun x hx y hy he => nm_inj h (hmem x hx) (hmem y hy) he) (fun x hx => ?_) (fun y hy => ?_)
  · have hx2 := hmem x hx
    rw [mem_pickL] at hx ⊢
    have h5 : nmTo σ x S ≠ 0 := fun e => by
      have := nm_inj h hx2 hp (e.trans (nm_zero S).symm)
      omega
    have h4 := nm_lt h x
    refine ⟨by unfold full; omega, ?_⟩
    rw [nm_freeTo h hv hx2]
    exact hx.2
  · rw [mem_pickL] at hy
    obtain ⟨x, hx, rfl⟩ := nm_surj h (show y < 2 ^ S by unfold full at *; omega)
    refine ⟨x, ?_, rfl⟩
    rw [nm_freeTo h hv hx] at hy
    rw [mem_pickL]
    have h5 : x ≠ 0 := fun e => by
      rw [e, nm_zero] at hy
      omega
    exact ⟨by unfold full at *; omega, hy.2⟩
theorem nm_othN (i : Nat) {x : Nat} (hx : x < 2 ^ S) : othN (nmL σ S ms) L i (nmL σ S ms).length (nmTo σ x S) = othN ms L i ms.length x := by
  rw [nmL_len]
  unfold othN noteTo
  congr 1
  funext k
  rw [nmL_at, nm_cb h hv.2.1 L hx (hv.at2 k)]
theorem nm_told (i : Nat) : toldV (nmL σ S ms) L i = toldV ms L i := by
  have hS10 : (2 : Nat) ^ S ≤ 2 ^ 10 := Nat.pow_le_pow_right (by decide) hv.2.1
  have hm := hv.at2 i
  have hm1 : mAt ms i < 1024 := by omega
  have hm2 : nmTo σ (mAt ms i) S < 1024 := by have := nm_lt h (mAt ms i); omega
  have l1 : ∀ a b, a < 2 ^ S → dif a b < 2 ^ S := fun a b ha => by
    unfold dif
    exact Nat.xor_lt_two_pow ha (by rw [Nat.and_comm]; exact Nat.and_lt_two_pow _ ha)
  apply Int.le_antisymm
  · refine (le_told ms L i _).2 ⟨(told_bd _ _ _).2, fun x hx ho => ?_⟩
    rw [mem_wornL _ _ _ hm1] at hx
    have hxs := ((cb_iff _ _ _ hm1).1 hx).1
    have hx2 : x < 2 ^ S := Nat.lt_of_le_of_lt (sub_le _ _ hxs) hm
    have := ((le_told (nmL σ S ms) L i _).1 (Int.le_refl _)).2 (nmTo σ x S) (by rw [nmL_at, mem_wornL _ _ _ hm2, nm_cb h hv.2.1 _ hx2 hm]; exact hx) (by rw [nm_othN h hv i hx2]; exact ho)
    rw [nmL_at, ← nm_dif h, pc_nm h hv.2.1 (l1 _ _ hm)] at this
    exact this
  · refine (le_told _ L i _).2 ⟨(told_bd _ _ _).2, fun y hy ho => ?_⟩
    rw [nmL_at, mem_wornL _ _ _ hm2] at hy
    have hys := ((cb_iff _ _ _ hm2).1 hy).1
    obtain ⟨x, hx, rfl⟩ := nm_surj h (Nat.lt_of_le_of_lt (sub_le _ _ hys) (nm_lt h _))
    rw [nm_cb h hv.2.1 _ hx hm] at hy
    rw [nm_othN h hv i hx] at ho
    have := ((le_told ms L i _).1 (Int.le_refl _)).2 x (by rw [mem_wornL _ _ _ hm1]; exact hy) ho
    rw [nmL_at, ← nm_dif h, pc_nm h hv.2.1 (l1 _ _ hm)]
    exact this
theorem nm_tells (i : Nat) {x : Nat} (hx : x < 2 ^ S) : tellsB (nmL σ S ms) i (nmTo σ x S) = tellsB ms i x := by
  unfold tellsB othB
  rw [nmL_at, nm_sub h hx (hv.at2 i), nmL_len]
  congr 2
  funext k
  rw [nmL_at, nm_sub h hx (hv.at2 k)]
omit h hv in
theorem key_pc {a b : Nat} (hk : key a ≤ key b) : pc a ≤ pc b := by
  unfold key at hk
  omega
/-- The strokes that tell an owner are as many, or there are none. -/
theorem nm_keep {i : Nat} (hi : i < ms.length) : (keepO S ms i = none ∧ keepO S (nmL σ S ms) i = none) ∨ ∃ k j, keepO S ms i = some k ∧ keepO S (nmL σ S ms) i = some j ∧ k < 1024 ∧ j < 1024 ∧ pc k = pc j := by
  have hS10 : (2 : Nat) ^ S ≤ 2 ^ 10 := Nat.pow_le_pow_right (by decide) hv.2.1
  have hv2 := nm_valid h hv
  have e1 : ms[i]? = some (mAt ms i) := by unfold mAt; rw [List.getElem?_eq_getElem hi]; rfl
  have e2 : (nmL σ S ms)[i]? = some (nmTo σ (mAt ms i) S) := by rw [← nmL_at]; unfold mAt; rw [List.getElem?_eq_getElem (by rw [nmL_len]; exact hi)]; rfl
  have f1 := keepO_first hv i e1
  have f2 := keepO_first hv2 i e2
  have hm := hv.at2 i
  have hm2 := nm_lt h (mAt ms i)
  have to : ∀ x, x ∈ tellL ms i (mAt ms i + 1) → x < 2 ^ S ∧ nmTo σ x S ∈ tellL (nmL σ S ms) i (nmTo σ (mAt ms i) S + 1) := by
    intro x hx
    rw [mem_tellL] at hx
    have hx2 : x < 2 ^ S := by omega
    refine ⟨hx2, ?_⟩
    rw [mem_tellL, nm_tells h hv i hx2]
    refine ⟨?_, hx.2⟩
    have h5 := hx.2
    unfold tellsB at h5
    rw [Bool.and_eq_true] at h5
    have := sub_le _ _ (by rw [nm_sub h hx2 hm]; exact h5.1 : sub (nmTo σ x S) (nmTo σ (mAt ms i) S) = true)
    omega
  have back : ∀ y, y ∈ tellL (nmL σ S ms) i (nmTo σ (mAt ms i) S + 1) → ∃ x, x < 2 ^ S ∧ nmTo σ x S = y ∧ x ∈ tellL ms i (mAt ms i + 1) := by
    intro y hy
    rw [mem_tellL] at hy
    obtain ⟨x, hx, rfl⟩ := nm_surj h (show y < 2 ^ S by omega)
    refine ⟨x, hx, rfl, ?_⟩
    have h5 := hy.2
    rw [nm_tells h hv i hx] at h5
    rw [mem_tellL]
    refine ⟨?_, h5⟩
    unfold tellsB at h5
    rw [Bool.and_eq_true] at h5
    have := sub_le _ _ h5.1
    omega
  cases hk : keepO S ms i with
  | none =>
    rw [hk] at f1
    have f1' : tellL ms i (mAt ms i + 1) = [] := f1
    cases hj : keepO S (nmL σ S ms) i with
    | none => exact .inl ⟨rfl, rfl⟩
    | some j =>
      exfalso
      rw [hj] at f2
      obtain ⟨x, -, -, hx⟩ := back j f2.1
      rw [f1'] at hx; cases hx
  | some k =>
    rw [hk] at f1
    obtain ⟨hk2, hk3⟩ := to k f1.1
    cases hj : keepO S (nmL σ S ms) i with
    | none =>
      exfalso
      rw [hj] at f2
      have f2' : tellL (nmL σ S ms) i (nmTo σ (mAt ms i) S + 1) = [] := f2
      rw [f2'] at hk3; cases hk3
    | some j =>
      rw [hj] at f2
      refine .inr ⟨k, j, rfl, rfl, by omega, ?_, ?_⟩
      · have := (mem_tellL _ _ _ _).1 f2.1; omega
      · obtain ⟨x, hx, hxe, hxm⟩ := back j f2.1
        have h1 := key_pc (f1.2 x hxm)
        have h2 := key_pc (f2.2 _ hk3)
        rw [pc_nm h hv.2.1 hk2] at h2
        rw [← hxe, pc_nm h hv.2.1 hx] at h2 ⊢
        omega
end
end Go.Proofs.Ytlgdnbpboonhdaa
