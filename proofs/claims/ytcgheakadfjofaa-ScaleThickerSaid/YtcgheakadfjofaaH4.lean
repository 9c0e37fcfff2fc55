/- Plain facts for ScaleSplit and ScaleThicker: parts of a stem, a thicker stem, one with a foot more. -/
import Derived.Test.YtcgheakadfjofaaH2
namespace Go.Proofs.Ytcgheakadfjofaa
set_option linter.unusedVariables false
theorem up_iff : ∀ l : List Int, up l = true ↔ l.Pairwise (· < ·)
  | [] => by simp [up]
  | [_] => by simp [up]
  | x :: y :: l => by
    rw [List.pairwise_cons, ← up_iff (y :: l)]
    simp only [up, Bool.and_eq_true, decide_eq_true_eq]
    constructor
    · rintro ⟨h1, h2⟩
      refine ⟨fun z hz => ?_, h2⟩
      rcases List.mem_cons.1 hz with rfl | hz
      · exact h1
      · have := (List.pairwise_cons.1 ((up_iff (y :: l)).1 h2)).1 z hz
        omega
    · rintro ⟨h1, h2⟩
      exact ⟨h1 y (by simp), h2⟩
theorem down_iff : ∀ l : List Int, down l = true ↔ l.Pairwise (fun x y => y ≤ x)
  | [] => by simp [down]
  | [_] => by simp [down]
  | x :: y :: l => by
    rw [List.pairwise_cons, ← down_iff (y :: l)]
    simp only [down, Bool.and_eq_true, decide_eq_true_eq]
    constructor
    · rintro ⟨h1, h2⟩
      refine ⟨fun z hz => ?_, h2⟩
      rcases List.mem_cons.1 hz with rfl | hz
      · exact h1
      · have := (List.pairwise_cons.1 ((down_iff (y :: l)).1 h2)).1 z hz
        omega
    · rintro ⟨h1, h2⟩
      exact ⟨h1 y (by simp), h2⟩
/-- The bad feet of a part. -/
def prtB (bd : List Int) (a b : Int) : List Int := (bd.filter fun x => decide (a ≤ x) && decide (x < b)).map fun x => x - a
theorem prtB_nil (a b : Int) : prtB [] a b = [] := rfl
theorem prtB_snoc (bd : List Int) (x a b : Int) : prtB (bd ++ [x]) a b = prtB bd a b ++ (if (decide (a ≤ x) && decide (x < b)) = true then [x - a] else []) := by
  unfold prtB
  rw [List.filter_append, List.map_append]
  congr 1
  by_cases h : (decide (a ≤ x) && decide (x < b)) = true <;> simp [h]
theorem prtB_len (bd : List Int) (a b : Int) : (prtB bd a b).length ≤ bd.length := by
  unfold prtB
  rw [List.length_map]
  exact List.length_filter_le _ _
theorem mem_prtB {bd : List Int} {a b y : Int} : y ∈ prtB bd a b ↔ ∃ x ∈ bd, a ≤ x ∧ x < b ∧ y = x - a := by
  unfold prtB
  simp only [List.mem_map, List.mem_filter, Bool.and_eq_true, decide_eq_true_eq]
  constructor
  · rintro ⟨x, ⟨h1, h2, h3⟩, rfl⟩; exact ⟨x, h1, h2, h3, rfl⟩
  · rintro ⟨x, h1, h2, h3, rfl⟩; exact ⟨x, ⟨h1, h2, h3⟩, rfl⟩
theorem prtB_up {bd : List Int} (h : up bd = true) (a b : Int) : up (prtB bd a b) = true := by
  rw [up_iff] at h ⊢
  unfold prtB
  rw [List.pairwise_map]
  exact (h.filter _).imp (fun h => by omega)
theorem vs_take {th bd : List Int} (h : Vs th bd) {p : Nat} (h0 : 0 < p) (hp : p < th.length - 1) : Vs (th.take (p + 1)) (prtB bd 0 p) := by
  have hl : (th.take (p + 1)).length = p + 1 := by rw [List.length_take]; omega
  refine ⟨by omega, by have := h.most; omega, fun x hx => h.thick x (List.mem_of_mem_take hx), ?_, fun x hx => ?_, prtB_up h.up _ _⟩
  · exact (down_iff _).2 (((down_iff _).1 h.down).sublist (List.take_sublist _ _))
  · obtain ⟨y, hy, h1, h2, rfl⟩ := mem_prtB.1 hx
    omega
theorem vs_drop {th bd : List Int} (h : Vs th bd) {p n : Nat} (hn : n = th.length - 1) (hp : p < n) : Vs (th.drop p) (prtB bd p n) := by
  have hl : (th.drop p).length = n + 1 - p := by rw [List.length_drop]; have := h.two; omega
  refine ⟨by omega, by have := h.most; omega, fun x hx => h.thick x (List.mem_of_mem_drop hx), ?_, fun x hx => ?_, prtB_up h.up _ _⟩
  · exact (down_iff _).2 (((down_iff _).1 h.down).sublist (List.drop_sublist _ _))
  · obtain ⟨y, hy, h1, h2, rfl⟩ := mem_prtB.1 hx
    omega
theorem bst_takeP {th bd : List Int} {r : Rl} {p : Nat} : bst (sF (th.take (p + 1)) (prtB bd 0 p) r) allB p 0 = bst (sF th bd r) allB p 0 := by
  refine bst_congr (fun i j h1 h2 => ⟨?_, rfl⟩) (Nat.zero_le _)
  unfold sF
  refine scl_congr rfl ?_ ⟨?_, ?_⟩
  · rw [Int.toNat_natCast]; exact take_getD (by omega)
  · rintro ⟨b, hb, h3, h4⟩
    obtain ⟨y, hy, h5, h6, rfl⟩ := mem_prtB.1 hb
    exact ⟨y, hy, by omega, by omega⟩
  · rintro ⟨b, hb, h3, h4⟩
    exact ⟨b, mem_prtB.2 ⟨b, hb, by omega, by omega, by omega⟩, h3, h4⟩
theorem bst_dropP {th bd : List Int} {r : Rl} {p n : Nat} (hp : p ≤ n) : bst (sF (th.drop p) (prtB bd p n) r) allB (n - p) 0 = bst (sF th bd r) allB n p := by
  have h1 : bst (sF (th.drop p) (prtB bd p n) r) allB (n - p) 0 = bst (fun a b => sF th bd r (p + a) (p + b)) allB (n - p) 0 := by
    refine bst_congr (fun i j h1 h2 => ⟨?_, rfl⟩) (Nat.zero_le _)
    unfold sF
    refine scl_congr (by omega) ?_ ⟨?_, ?_⟩
    · rw [Int.toNat_natCast, Int.toNat_natCast]; exact drop_getD
    · rintro ⟨b, hb, h3, h4⟩
      obtain ⟨y, hy, h5, h6, rfl⟩ := mem_prtB.1 hb
      exact ⟨y, hy, by omega, by omega⟩
    · rintro ⟨b, hb, h3, h4⟩
      exact ⟨b - p, mem_prtB.2 ⟨b, hb, by omega, by omega, rfl⟩, by omega, by omega⟩
  rw [h1, bst_shift]
  congr 1; omega
/-- A foot more at the stump. -/
theorem vs_more {th bd : List Int} (h : Vs th bd) (hl : th.length ≠ 61) : Vs (th.getD 0 0 :: th) (bd.map fun b => b + 1) := by
  have h2 := h.two
  have hm := h.most
  refine ⟨by simp; omega, by simp; omega, fun x hx => ?_, ?_, fun x hx => ?_, ?_⟩
  · rcases List.mem_cons.1 hx with rfl | hx
    · exact getD_in h.thick (by omega)
    · exact h.thick x hx
  · match th, h2, h.down with
    | x :: y :: l, _, hd => simp only [List.getD_cons_zero, down, Bool.and_eq_true, decide_eq_true_eq] at hd ⊢; exact ⟨Int.le_refl _, hd⟩
  · obtain ⟨b, hb, rfl⟩ := List.mem_map.1 hx
    have := h.bad b hb
    simp; omega
  · rw [up_iff, List.pairwise_map]
    exact ((up_iff _).1 h.up).imp (fun h => by omega)
theorem bst_more {th bd : List Int} {r : Rl} (x : Int) (n : Nat) : bst (sF th bd r) allB n 0 ≤ bst (sF (x :: th) (bd.map fun b => b + 1) r) allB (n + 1) 0 := by
  have h1 : bst (sF th bd r) allB n 0 = bst (fun a b => sF (x :: th) (bd.map fun b => b + 1) r (1 + a) (1 + b)) allB n 0 := by
    refine bst_congr (fun i j h1 h2 => ⟨?_, rfl⟩) (Nat.zero_le _)
    unfold sF
    refine scl_congr (by omega) ?_ ⟨?_, ?_⟩
    · rw [Int.toNat_natCast, Int.toNat_natCast, Nat.add_comm 1 j]; simp
    · rintro ⟨b, hb, h3, h4⟩
      exact ⟨b + 1, List.mem_map.2 ⟨b, hb, rfl⟩, by omega, by omega⟩
    · rintro ⟨b, hb, h3, h4⟩
      obtain ⟨y, hy, rfl⟩ := List.mem_map.1 hb
      exact ⟨y, hy, by omega, by omega⟩
  rw [h1, bst_shift, Nat.add_comm 1 n]
  exact bst_anti (Nat.zero_le _)
/-- By how much all places from k on are thicker than the next one more, together. -/
def ovK (m : Nat → Int) (n k : Nat) : Int := ((List.range' k (n - k)).map m).sum
theorem ovK_end (m : Nat → Int) (n : Nat) : ovK m n n = 0 := by simp [ovK]
theorem ovK_step (m : Nat → Int) {n k : Nat} (h : k < n) : ovK m n k = m k + ovK m n (k + 1) := by
  unfold ovK
  rw [show n - k = (n - (k + 1)) + 1 from by omega, List.range'_succ]
  simp
theorem ovK_nonneg {m : Nat → Int} (hm : ∀ i, 0 ≤ m i) (n k : Nat) : 0 ≤ ovK m n k := by
  unfold ovK
  generalize List.range' k (n - k) = l
  induction l with
  | nil => simp
  | cons a l ih => have := hm a; simp; omega
theorem ovK_le {m : Nat → Int} {M : Int} (hm : ∀ i, m i ≤ M) (n k : Nat) : ovK m n k ≤ M * ((n - k : Nat) : Int) := by
  unfold ovK
  have : ∀ l : List Nat, (l.map m).sum ≤ M * (l.length : Int) := fun l => by
    induction l with
    | nil => simp
    | cons a l ih =>
      have := hm a
      simp only [List.map_cons, List.sum_cons, List.length_cons]
      have h2 : M * ((l.length + 1 : Nat) : Int) = M * (l.length : Int) + M := by push_cast; rw [Int.mul_add]; simp
      omega
  have := this (List.range' k (n - k))
  rwa [List.length_range'] at this
/-- The thicker stem's places, from k on; before it the stem's own. -/
def thkK (th : List Int) (m : Nat → Int) (k : Nat) : List Int := (List.range th.length).map fun i => if k ≤ i then min 60 (th.getD i 0 + ovK m th.length i) else th.getD i 0
theorem thkK_len (th : List Int) (m : Nat → Int) (k : Nat) : (thkK th m k).length = th.length := by simp [thkK]
theorem thkK_end (th : List Int) (m : Nat → Int) : thkK th m th.length = th := by
  apply List.ext_getElem
  · simp [thkK]
  · intro i h1 h2
    simp only [thkK, List.getElem_map, List.getElem_range]
    rw [if_neg (by omega)]
    simp [List.getD, h2]
theorem thkK_get (th : List Int) (m : Nat → Int) {k i : Nat} (hi : i < th.length) : (thkK th m k).getD i 0 = if k ≤ i then min 60 (th.getD i 0 + ovK m th.length i) else th.getD i 0 := by
  simp [thkK, List.getD, hi]
theorem thkK_set (th : List Int) (m : Nat → Int) {k : Nat} (hk : k < th.length) : (thkK th m (k + 1)).set k (min 60 (th.getD k 0 + ovK m th.length k)) = thkK th m k := by
  apply List.ext_getElem
  · simp [thkK]
  · intro i h1 h2
    have hi : i < th.length := by rwa [thkK_len] at h2
    rw [List.getElem_set]
    simp only [thkK, List.getElem_map, List.getElem_range]
    by_cases e : k = i
    · subst e; simp
    · rw [if_neg e]
      by_cases h : k ≤ i
      · rw [if_pos (show k + 1 ≤ i by omega), if_pos h]
      · rw [if_neg (show ¬ k + 1 ≤ i by omega), if_neg h]
theorem vs_thk {th bd : List Int} (h : Vs th bd) {m : Nat → Int} (hm : ∀ i, 0 ≤ m i) : Vs (thkK th m 0) bd := by
  have h2 := h.two
  refine ⟨by rw [thkK_len]; exact h.two, by rw [thkK_len]; exact h.most, fun x hx => ?_, ?_, fun x hx => by rw [thkK_len]; exact h.bad x hx, h.up⟩
  · unfold thkK at hx
    obtain ⟨i, hi, rfl⟩ := List.mem_map.1 hx
    have h1 := getD_in h.thick (List.mem_range.1 hi)
    have := ovK_nonneg hm th.length i
    rw [if_pos (Nat.zero_le _)]
    omega
  · rw [down_iff]
    unfold thkK
    rw [List.pairwise_map]
    have hd := (down_iff _).1 h.down
    have hb : ∀ i d, i + d < th.length → th.getD (i + d) 0 ≤ th.getD i 0 := fun i d hi => by
      cases d with
      | zero => exact Int.le_refl _
      | succ d =>
        have := List.pairwise_iff_getElem.1 hd i (i + (d + 1)) (by omega) hi (by omega)
        simp only [List.getD, List.getElem?_eq_getElem hi, List.getElem?_eq_getElem (show i < th.length by omega), Option.getD_some]
        exact this
    have ho : ∀ i d, i + d ≤ th.length → ovK m th.length (i + d) ≤ ovK m th.length i := fun i d => by
      induction d with
      | zero => intro _; exact Int.le_refl _
      | succ d ih =>
        intro hi
        have h1 := ih (by omega)
        have h3 := ovK_step m (show i + d < th.length by omega)
        have := hm (i + d)
        rw [show i + (d + 1) = i + d + 1 from by omega]
        omega
    refine List.Pairwise.imp_of_mem ?_ (List.pairwise_lt_range (n := th.length))
    intro a b ha hb2 hab
    have hb3 := List.mem_range.1 hb2
    have q1 := hb a (b - a) (by omega)
    have q2 := ho a (b - a) (by omega)
    rw [show a + (b - a) = b from by omega] at q1 q2
    rw [if_pos (Nat.zero_le _), if_pos (Nat.zero_le _)]
    omega
/-- A stem that is nowhere less thick scales no less. -/
theorem bst_thk {th bd : List Int} {r : Rl} (h : Vs th bd) (hr : Vr r) {m : Nat → Int} (hm : ∀ i, 0 ≤ m i) {n : Nat} (hn : n < th.length) : bst (sF th bd r) allB n 0 ≤ bst (sF (thkK th m 0) bd r) allB n 0 := by
  refine bst_mono (fun i j _ hj hp _ => ⟨?_, rfl⟩) 0 (Nat.zero_le _)
  refine scl_thick hr ?_ hp
  rw [Int.toNat_natCast, thkK_get th m (by omega), if_pos (Nat.zero_le _)]
  have := ovK_nonneg hm th.length j
  have h1 := getD_in h.thick (show j < th.length by omega)
  omega
end Go.Proofs.Ytcgheakadfjofaa
