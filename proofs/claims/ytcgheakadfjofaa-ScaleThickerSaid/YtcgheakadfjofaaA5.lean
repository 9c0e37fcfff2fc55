/- Stems, rules, and what cuttings scale: the plain numbers. No program is looked at here. What is left of a cutting before a place, over a place, and at no place; how many best cuttings there are; what they scale by another rule. Plain numbers. How many best cuttings there are, which places they cut, and what they scale by another rule. Plain numbers. The greatest of a list as the program finds it; what best cuttings scale by another rule; which prices are right. Plain numbers. What a log scales in a part of a stem, in a stem that is thicker, longer, or worse, and by another rule; what follows for best cuttings. Plain numbers. -/
import Derived.Below
import Derived.Lib.Hide
namespace Go.Proofs.Ytcgheakadfjofaa
set_option linter.unusedVariables false
set_option linter.unusedSimpArgs false

/-- A rule. -/
structure Rl where
  lo : Int
  hi : Int
  st : Int
  tr : Int
  off : Int
  dv : Int
  tn : Int

/-- What a log scales; 0: it is not right. -/
def scl (th bd : List Int) (r : Rl) (i j : Int) : Int :=
  if bd.any (fun b => decide (i ≤ b) && decide (b < j)) = true then 0 else
  if j - i - r.tr < r.lo ∨ r.hi < j - i - r.tr ∨ (j - i - r.tr) % r.st ≠ 0 ∨ th.getD j.toNat 0 < r.tn then 0 else
  max 0 (th.getD j.toNat 0 - r.off) * max 0 (th.getD j.toNat 0 - r.off) * (j - i - r.tr) / r.dv

/-- Each number is at most the one before it. -/
def down : List Int → Bool
  | [] => true
  | [_] => true
  | x :: y :: l => decide (y ≤ x) && down (y :: l)
/-- Each number is greater than the one before it. -/
def up : List Int → Bool
  | [] => true
  | [_] => true
  | x :: y :: l => decide (x < y) && up (y :: l)
def inn (lo hi : Int) (l : List Int) : Bool := l.all fun x => decide (lo ≤ x) && decide (x ≤ hi)

def stemE (th bd : List Int) : Int :=
  if th.length < 2 ∨ 61 < th.length then 6
  else if inn 0 60 th = false then 3
  else if down th = false then 16
  else if inn 0 ((th.length : Int) - 2) bd = false ∨ up bd = false then 2
  else 0
def ruleE (r : Rl) : Int :=
  if 1 ≤ r.lo ∧ r.lo ≤ r.hi ∧ r.hi ≤ 60 ∧ 1 ≤ r.st ∧ r.st ≤ 10 ∧ 0 ≤ r.tr ∧ r.tr ≤ 5 ∧ 0 ≤ r.off ∧ r.off ≤ 20 ∧ 1 ≤ r.dv ∧ r.dv ≤ 100 ∧ 0 ≤ r.tn ∧ r.tn ≤ 60 then 0 else 3
def bothE (th bd : List Int) (r : Rl) : Int := if stemE th bd = 0 then ruleE r else stemE th bd

/-- A stem is valid. -/
structure Vs (th bd : List Int) : Prop where
  two : 2 ≤ th.length
  most : th.length ≤ 61
  thick : ∀ x ∈ th, 0 ≤ x ∧ x ≤ 60
  down : down th = true
  bad : ∀ x ∈ bd, 0 ≤ x ∧ x ≤ (th.length : Int) - 2
  up : up bd = true
/-- A rule is valid. -/
structure Vr (r : Rl) : Prop where
  lo : 1 ≤ r.lo
  lohi : r.lo ≤ r.hi
  hi : r.hi ≤ 60
  st : 1 ≤ r.st
  st2 : r.st ≤ 10
  tr : 0 ≤ r.tr
  tr2 : r.tr ≤ 5
  off : 0 ≤ r.off
  off2 : r.off ≤ 20
  dv : 1 ≤ r.dv
  dv2 : r.dv ≤ 100
  tn : 0 ≤ r.tn
  tn2 : r.tn ≤ 60
theorem inn_iff {lo hi : Int} {l : List Int} : inn lo hi l = true ↔ ∀ x ∈ l, lo ≤ x ∧ x ≤ hi := by simp [inn]
theorem inn_cons (lo hi x : Int) (l : List Int) : inn lo hi (x :: l) = (decide (lo ≤ x) && decide (x ≤ hi) && inn lo hi l) := rfl
theorem stemE_ok {th bd : List Int} : stemE th bd = 0 ↔ Vs th bd := by
  unfold stemE
  constructor
  · intro h
    split at h; · simp at h
    split at h; · simp at h
    split at h; · simp at h
    split at h; · simp at h
    rename_i h1 h2 h3 h4
    exact ⟨by omega, by omega, inn_iff.1 (by simpa using h2), by simpa using h3, inn_iff.1 (by cases h : inn 0 ((th.length : Int) - 2) bd <;> simp_all), by cases h : up bd <;> simp_all⟩
  · intro h
    have h1 := h.two; have h2 := h.most
    rw [if_neg (by omega), if_neg (by rw [inn_iff.2 h.thick]; simp), if_neg (by rw [h.down]; simp), if_neg (by rw [inn_iff.2 h.bad, h.up]; simp)]
theorem ruleE_ok {r : Rl} : ruleE r = 0 ↔ Vr r := by
  unfold ruleE
  constructor
  · intro h
    split at h
    · rename_i h1
      obtain ⟨a, b, c, d, e, f, g, i, j, k, l, m, n⟩ := h1
      exact ⟨a, b, c, d, e, f, g, i, j, k, l, m, n⟩
    · simp at h
  · intro ⟨a, b, c, d, e, f, g, i, j, k, l, m, n⟩
    rw [if_pos ⟨a, b, c, d, e, f, g, i, j, k, l, m, n⟩]
theorem bothE_ok {th bd : List Int} {r : Rl} : bothE th bd r = 0 ↔ Vs th bd ∧ Vr r := by
  unfold bothE
  split
  · rename_i h; rw [ruleE_ok]; exact ⟨fun k => ⟨stemE_ok.1 h, k⟩, fun k => k.2⟩
  · rename_i h; exact ⟨fun k => absurd k h, fun k => absurd (stemE_ok.2 k.1) h⟩

theorem getD_in {th : List Int} {lo hi : Int} (h : ∀ x ∈ th, lo ≤ x ∧ x ≤ hi) {k : Nat} (hk : k < th.length) : lo ≤ th.getD k 0 ∧ th.getD k 0 ≤ hi := by
  have := h th[k] (List.getElem_mem hk)
  simpa [List.getD, hk] using this
theorem getD_le {th : List Int} {lo hi : Int} (h : ∀ x ∈ th, lo ≤ x ∧ x ≤ hi) (hl : lo ≤ 0) (hh : 0 ≤ hi) (k : Nat) : lo ≤ th.getD k 0 ∧ th.getD k 0 ≤ hi := by
  by_cases hk : k < th.length
  · exact getD_in h hk
  · simp [List.getD, List.getElem?_eq_none (Nat.le_of_not_lt hk)]; omega
theorem scl_bd {th bd : List Int} {r : Rl} (hs : Vs th bd) (hr : Vr r) (i j : Int) : 0 ≤ scl th bd r i j ∧ scl th bd r i j ≤ 216000 := by
  unfold scl
  split; · omega
  split; · omega
  rename_i h1 h2
  obtain ⟨a, b, c, d, e, f, g, i', j', k, l, m, n⟩ := hr
  have ht := getD_le (hs.thick) (by omega) (by omega) j.toNat
  generalize th.getD j.toNat 0 = t at *
  have s1 : 0 ≤ max 0 (t - r.off) := by omega
  have s2 : max 0 (t - r.off) ≤ 60 := by omega
  generalize max 0 (t - r.off) = s at *
  have l1 : 0 ≤ j - i - r.tr := by omega
  have l2 : j - i - r.tr ≤ 60 := by omega
  generalize j - i - r.tr = ln at *
  have p1 : 0 ≤ s * s := Int.mul_nonneg s1 s1
  have p2 : s * s ≤ 60 * 60 := Int.mul_le_mul s2 s2 s1 (by omega)
  have p3 : 0 ≤ s * s * ln := Int.mul_nonneg p1 l1
  have p4 : s * s * ln ≤ 3600 * 60 := Int.mul_le_mul p2 l2 l1 (by omega)
  refine ⟨Int.ediv_nonneg p3 (by omega), ?_⟩
  exact Int.le_trans (Int.ediv_le_self _ p3) (by omega)

-- The best from a place on.
/-- The places where right logs end that begin at a place and are let. -/
def logsT (f : Nat → Nat → Int) (lt : Nat → Nat → Bool) (n i : Nat) : List Nat := (List.range' (i + 1) (n - i)).filter fun j => decide (0 < f i j) && lt i j
def pr (f : Nat → Nat → Int) (lt : Nat → Nat → Bool) (n : Nat) : Nat → Nat → Int
  | 0, _ => 0
  | k + 1, i => (logsT f lt n i).foldl (fun m j => max m (f i j + pr f lt n k j)) (pr f lt n k (i + 1))
/-- What a best cutting of logs that are let scales from a place on. -/
def bst (f : Nat → Nat → Int) (lt : Nat → Nat → Bool) (n i : Nat) : Int := pr f lt n (n - i) i
theorem mem_logsT {f : Nat → Nat → Int} {lt : Nat → Nat → Bool} {n i j : Nat} : j ∈ logsT f lt n i ↔ i < j ∧ j ≤ n ∧ 0 < f i j ∧ lt i j = true := by
  simp only [logsT, List.mem_filter, List.mem_range'_1, Bool.and_eq_true, decide_eq_true_eq]
  constructor
  · rintro ⟨⟨h1, h2⟩, h3, h4⟩; exact ⟨by omega, by omega, h3, h4⟩
  · rintro ⟨h1, h2, h3, h4⟩; exact ⟨⟨by omega, by omega⟩, h3, h4⟩
theorem logsT_nil {f : Nat → Nat → Int} {lt : Nat → Nat → Bool} {n i : Nat} (h : n ≤ i) : logsT f lt n i = [] := by
  simp [logsT, Nat.sub_eq_zero_of_le h]
theorem pr_past (f : Nat → Nat → Int) (lt : Nat → Nat → Bool) (n : Nat) : ∀ k i, n ≤ i → pr f lt n k i = 0
  | 0, _, _ => rfl
  | k + 1, i, h => by rw [pr, logsT_nil h]; exact pr_past f lt n k (i + 1) (by omega)
theorem foldl_congr_mem {α : Type} {β : Type} {g h : β → α → β} : ∀ (l : List α) (a : β), (∀ x ∈ l, ∀ b, g b x = h b x) → l.foldl g a = l.foldl h a
  | [], _, _ => rfl
  | x :: l, a, hh => by
    rw [List.foldl_cons, List.foldl_cons, hh x (by simp)]
    exact foldl_congr_mem l _ fun y hy => hh y (by simp [hy])
theorem pr_one (f : Nat → Nat → Int) (lt : Nat → Nat → Bool) (n : Nat) : ∀ k i, n ≤ i + k → pr f lt n (k + 1) i = pr f lt n k i := by
  intro k
  induction k with
  | zero => intro i h; rw [pr_past _ _ _ _ _ (by omega), pr_past _ _ _ _ _ (by omega)]
  | succ k ih =>
    intro i h
    by_cases hi : n ≤ i
    · rw [pr_past _ _ _ _ _ hi, pr_past _ _ _ _ _ hi]
    · have e1 : pr f lt n (k + 1 + 1) i = (logsT f lt n i).foldl (fun m j => max m (f i j + pr f lt n (k + 1) j)) (pr f lt n (k + 1) (i + 1)) := rfl
      have e2 : pr f lt n (k + 1) i = (logsT f lt n i).foldl (fun m j => max m (f i j + pr f lt n k j)) (pr f lt n k (i + 1)) := rfl
      rw [e1, e2, ih (i + 1) (by omega)]
      exact foldl_congr_mem _ _ fun j hj b => by rw [ih j (by have := (mem_logsT.1 hj).1; omega)]
theorem pr_fuel (f : Nat → Nat → Int) (lt : Nat → Nat → Bool) (n i : Nat) : ∀ d, pr f lt n (n - i + d) i = bst f lt n i
  | 0 => rfl
  | d + 1 => by rw [← Nat.add_assoc, pr_one _ _ _ _ _ (by omega)]; exact pr_fuel f lt n i d
theorem pr_at {f : Nat → Nat → Int} {lt : Nat → Nat → Bool} {n k i : Nat} (h : n ≤ i + k) : pr f lt n k i = bst f lt n i := by
  have := pr_fuel f lt n i (k - (n - i))
  rwa [show n - i + (k - (n - i)) = k from by omega] at this
theorem bst_past {f : Nat → Nat → Int} {lt : Nat → Nat → Bool} {n i : Nat} (h : n ≤ i) : bst f lt n i = 0 := pr_past _ _ _ _ _ h
theorem bst_step {f : Nat → Nat → Int} {lt : Nat → Nat → Bool} {n i : Nat} (h : i < n) : bst f lt n i = (logsT f lt n i).foldl (fun m j => max m (f i j + bst f lt n j)) (bst f lt n (i + 1)) := by
  obtain ⟨d, hd⟩ : ∃ d, n - i = d + 1 := ⟨n - i - 1, by omega⟩
  have h0 : bst f lt n i = pr f lt n (d + 1) i := by unfold bst; rw [hd]
  rw [h0, pr, pr_at (by omega)]
  exact foldl_congr_mem _ _ fun j hj b => by rw [pr_at (by have := (mem_logsT.1 hj).1; omega)]
theorem foldl_max_ge {α : Type} (g : α → Int) : ∀ (l : List α) (a : Int), a ≤ l.foldl (fun m j => max m (g j)) a ∧ ∀ x ∈ l, g x ≤ l.foldl (fun m j => max m (g j)) a
  | [], a => ⟨Int.le_refl _, fun _ h => by cases h⟩
  | y :: l, a => by
    obtain ⟨h1, h2⟩ := foldl_max_ge g l (max a (g y))
    rw [List.foldl_cons]
    refine ⟨by omega, fun x hx => ?_⟩
    rcases List.mem_cons.1 hx with rfl | hx
    · omega
    · exact h2 x hx
theorem foldl_max_is {α : Type} (g : α → Int) : ∀ (l : List α) (a : Int), l.foldl (fun m j => max m (g j)) a = a ∨ ∃ x ∈ l, l.foldl (fun m j => max m (g j)) a = g x
  | [], a => .inl rfl
  | y :: l, a => by
    rw [List.foldl_cons]
    rcases foldl_max_is g l (max a (g y)) with h | ⟨x, hx, h⟩
    · rw [h]
      rcases Int.le_total a (g y) with h1 | h1
      · exact .inr ⟨y, by simp, by omega⟩
      · exact .inl (by omega)
    · exact .inr ⟨x, by simp [hx], h⟩
theorem bst_waste {f : Nat → Nat → Int} {lt : Nat → Nat → Bool} {n i : Nat} (h : i < n) : bst f lt n (i + 1) ≤ bst f lt n i := by
  rw [bst_step h]; exact (foldl_max_ge _ _ _).1
theorem bst_log {f : Nat → Nat → Int} {lt : Nat → Nat → Bool} {n i j : Nat} (h : i < j) (hj : j ≤ n) (hf : 0 < f i j) (hl : lt i j = true) : f i j + bst f lt n j ≤ bst f lt n i := by
  rw [bst_step (i := i) (by omega)]; exact (foldl_max_ge (fun j => f i j + bst f lt n j) _ _).2 j (mem_logsT.2 ⟨h, hj, hf, hl⟩)
theorem bst_cases {f : Nat → Nat → Int} {lt : Nat → Nat → Bool} {n i : Nat} (h : i < n) : bst f lt n i = bst f lt n (i + 1) ∨ ∃ j, i < j ∧ j ≤ n ∧ 0 < f i j ∧ lt i j = true ∧ bst f lt n i = f i j + bst f lt n j := by
  rw [bst_step h]
  rcases foldl_max_is (fun j => f i j + bst f lt n j) (logsT f lt n i) (bst f lt n (i + 1)) with h1 | ⟨x, hx, h1⟩
  · exact .inl h1
  · obtain ⟨a, b, c, d⟩ := mem_logsT.1 hx
    exact .inr ⟨x, a, b, c, d, h1⟩
/-- From the last place back. -/
theorem back_ind {n : Nat} (p : Nat → Prop) (h0 : ∀ i, n ≤ i → p i) (hs : ∀ i, i < n → (∀ j, i < j → p j) → p i) : ∀ i, p i := by
  have : ∀ d i, n ≤ i + d → p i := by
    intro d
    induction d with
    | zero => intro i h; exact h0 i h
    | succ d ih =>
      intro i h
      by_cases hi : n ≤ i
      · exact h0 i hi
      · exact hs i (by omega) fun j hj => ih j (by omega)
  exact fun i => this n i (by omega)
theorem bst_nonneg (f : Nat → Nat → Int) (lt : Nat → Nat → Bool) (n : Nat) : ∀ i, 0 ≤ bst f lt n i :=
  back_ind (n := n) _ (fun i h => by rw [bst_past h]; exact Int.le_refl _) fun i h ih => Int.le_trans (ih (i + 1) (by omega)) (bst_waste h)
/-- Right prices are no less. -/
theorem bst_least {f : Nat → Nat → Int} {lt : Nat → Nat → Bool} {n : Nat} {q : Nat → Int} (h0 : 0 ≤ q n) (h1 : ∀ i, i < n → q (i + 1) ≤ q i) (h2 : ∀ i j, i < j → j ≤ n → 0 < f i j → lt i j = true → f i j + q j ≤ q i) : ∀ i, i ≤ n → bst f lt n i ≤ q i :=
  back_ind (n := n) (fun i => i ≤ n → bst f lt n i ≤ q i) (fun i h hn => by rw [bst_past h]; rw [show i = n from by omega]; exact h0) fun i h ih hn => by
    rcases bst_cases (f := f) (lt := lt) h with e | ⟨j, a, b, c, d, e⟩
    · rw [e]; exact Int.le_trans (ih (i + 1) (by omega) (by omega)) (h1 i h)
    · rw [e]; have := ih j a b; have := h2 i j a b c d; omega
theorem bst_least_from {f : Nat → Nat → Int} {lt : Nat → Nat → Bool} {n a : Nat} {q : Nat → Int} (h0 : 0 ≤ q n) (h1 : ∀ i, a ≤ i → i < n → q (i + 1) ≤ q i) (h2 : ∀ i j, a ≤ i → i < j → j ≤ n → 0 < f i j → lt i j = true → f i j + q j ≤ q i) : ∀ i, a ≤ i → i ≤ n → bst f lt n i ≤ q i :=
  back_ind (n := n) (fun i => a ≤ i → i ≤ n → bst f lt n i ≤ q i) (fun i h ha hn => by rw [bst_past h]; rw [show i = n from by omega]; exact h0) fun i h ih ha hn => by
    rcases bst_cases (f := f) (lt := lt) h with e | ⟨j, x, b, c, d, e⟩
    · rw [e]; exact Int.le_trans (ih (i + 1) (by omega) (by omega) (by omega)) (h1 i ha h)
    · rw [e]; have := ih j x (by omega) b; have := h2 i j ha x b c d; omega
theorem bst_mono {f f' : Nat → Nat → Int} {lt lt' : Nat → Nat → Bool} {n : Nat} (h : ∀ i j, i < j → j ≤ n → 0 < f i j → lt i j = true → f i j ≤ f' i j ∧ lt' i j = true) : ∀ i, i ≤ n → bst f lt n i ≤ bst f' lt' n i :=
  bst_least (bst_nonneg _ _ _ _) (fun i hi => bst_waste hi) fun i j hi hj hf hl => by
    obtain ⟨h1, h2⟩ := h i j hi hj hf hl
    have := bst_log (f := f') (lt := lt') hi hj (by omega) h2
    omega
theorem bst_bound {f : Nat → Nat → Int} {lt : Nat → Nat → Bool} {n : Nat} {M : Int} (hM : 0 ≤ M) (h : ∀ i j, f i j ≤ M) : ∀ i, i ≤ n → bst f lt n i ≤ M * ((n : Int) - i) :=
  bst_least (by simp) (fun i hi => by
    have : M * ((n : Int) - (i + 1 : Nat)) ≤ M * ((n : Int) - i) := Int.mul_le_mul_of_nonneg_left (by omega) hM
    exact this) fun i j hi hj hf hl => by
    have h1 := h i j
    have h2 : M * ((n : Int) - j) + M * 1 ≤ M * ((n : Int) - i) := by
      rw [← Int.mul_add]; exact Int.mul_le_mul_of_nonneg_left (by omega) hM
    omega
/-- Logs that are let, one after another, from a place on. -/
def Cuts (f : Nat → Nat → Int) (lt : Nat → Nat → Bool) (n : Nat) : Nat → List (Nat × Nat) → Prop
  | _, [] => True
  | i, p :: l => i ≤ p.1 ∧ p.1 < p.2 ∧ p.2 ≤ n ∧ 0 < f p.1 p.2 ∧ lt p.1 p.2 = true ∧ Cuts f lt n p.2 l
def sumF (f : Nat → Nat → Int) (l : List (Nat × Nat)) : Int := (l.map fun p => f p.1 p.2).sum
theorem bst_anti {f : Nat → Nat → Int} {lt : Nat → Nat → Bool} {n : Nat} {i j : Nat} (h : i ≤ j) : bst f lt n j ≤ bst f lt n i := by
  obtain ⟨d, rfl⟩ : ∃ d, j = i + d := ⟨j - i, by omega⟩
  clear h
  induction d with
  | zero => exact Int.le_refl _
  | succ d ih =>
    refine Int.le_trans ?_ ih
    by_cases hn : i + d < n
    · exact bst_waste hn
    · rw [bst_past (show n ≤ i + (d + 1) from by omega)]; exact bst_nonneg _ _ _ _
theorem cuts_le {f : Nat → Nat → Int} {lt : Nat → Nat → Bool} {n : Nat} : ∀ (l : List (Nat × Nat)) (i : Nat), Cuts f lt n i l → sumF f l ≤ bst f lt n i
  | [], i, _ => bst_nonneg _ _ _ _
  | p :: l, i, ⟨h1, h2, h3, h4, h5, h6⟩ => by
    have a := cuts_le l _ h6
    have b := bst_log (lt := lt) h2 h3 h4 h5
    have c : bst f lt n p.1 ≤ bst f lt n i := bst_anti h1
    simp only [sumF, List.map_cons, List.sum_cons] at a ⊢
    omega
theorem cuts_weak {f : Nat → Nat → Int} {lt : Nat → Nat → Bool} {n i i' : Nat} (h : i' ≤ i) : ∀ {l : List (Nat × Nat)}, Cuts f lt n i l → Cuts f lt n i' l
  | [], _ => trivial
  | p :: l, ⟨h1, h2⟩ => ⟨by omega, h2⟩
theorem cuts_best (f : Nat → Nat → Int) (lt : Nat → Nat → Bool) (n : Nat) : ∀ i, ∃ l, Cuts f lt n i l ∧ sumF f l = bst f lt n i :=
  back_ind (n := n) _ (fun i h => ⟨[], trivial, by rw [bst_past h]; rfl⟩) fun i h ih => by
    rcases bst_cases (f := f) (lt := lt) h with e | ⟨j, a, b, c, d, e⟩
    · obtain ⟨l, h1, h2⟩ := ih (i + 1) (by omega)
      exact ⟨l, cuts_weak (by omega) h1, by rw [e, h2]⟩
    · obtain ⟨l, h1, h2⟩ := ih j a
      exact ⟨(i, j) :: l, ⟨Nat.le_refl _, a, b, c, d, h1⟩, by rw [e, ← h2]; simp [sumF]⟩
end Go.Proofs.Ytcgheakadfjofaa
namespace Go.Proofs.Ytcgheakadfjofaa
set_option linter.unusedVariables false
set_option linter.unusedSimpArgs false

def allB : Nat → Nat → Bool := fun _ _ => true
/-- No log over a place. -/
def overB (a : Nat) : Nat → Nat → Bool := fun i j => !(decide (i < a) && decide (a < j))
/-- No log that begins or ends at a place. -/
def atB (a : Nat) : Nat → Nat → Bool := fun i j => decide (i ≠ a) && decide (j ≠ a)

theorem bst_congr {f f' : Nat → Nat → Int} {lt lt' : Nat → Nat → Bool} {n : Nat} (h : ∀ i j, i < j → j ≤ n → f i j = f' i j ∧ lt i j = lt' i j) {i : Nat} (hi : i ≤ n) : bst f lt n i = bst f' lt' n i :=
  Int.le_antisymm (bst_mono (fun i j a b _ d => ⟨Int.le_of_eq (h i j a b).1, by rw [← (h i j a b).2]; exact d⟩) i hi)
    (bst_mono (fun i j a b _ d => ⟨Int.le_of_eq (h i j a b).1.symm, by rw [(h i j a b).2]; exact d⟩) i hi)
/-- What lies before a place, and what lies behind it. -/
theorem bst_split_le {f : Nat → Nat → Int} {lt lt' : Nat → Nat → Bool} {n a : Nat} (ha : a ≤ n) (h : ∀ i j, i < j → j ≤ a → lt' i j = true → lt i j = true) : ∀ i, i ≤ a → bst f lt' a i + bst f lt n a ≤ bst f lt n i := by
  intro i hi
  have := bst_least (f := f) (lt := lt') (n := a) (q := fun i => bst f lt n i - bst f lt n a) (by simp) (fun i hi => by
    have := bst_waste (f := f) (lt := lt) (n := n) (i := i) (by omega); omega) (fun i j h1 h2 h3 h4 => by
    have := bst_log (f := f) (lt := lt) (n := n) h1 (by omega) h3 (h i j h1 h2 h4); omega) i hi
  omega
theorem bst_over {f : Nat → Nat → Int} {n a : Nat} (ha : a ≤ n) : bst f (overB a) n 0 = bst f allB a 0 + bst f allB n a := by
  apply Int.le_antisymm
  · have := bst_least (f := f) (lt := overB a) (n := n) (q := fun i => if i ≤ a then bst f allB a i + bst f allB n a else bst f allB n i)
      (by split
          · rename_i h
            have e : a = n := by omega
            rw [e, bst_past (Nat.le_refl n)]; simp
          · rw [bst_past (Nat.le_refl n)]; exact Int.le_refl _)
      (fun i hi => by
        by_cases h1 : i + 1 ≤ a
        · rw [if_pos h1, if_pos (by omega)]
          have := bst_waste (f := f) (lt := allB) (n := a) (i := i) (by omega); omega
        · rw [if_neg h1]
          by_cases h2 : i ≤ a
          · rw [if_pos h2]
            have e : i = a := by omega
            subst e
            rw [bst_past (Nat.le_refl i)]
            have := bst_waste (f := f) (lt := allB) hi; omega
          · rw [if_neg h2]; exact bst_waste hi)
      (fun i j hi hj hf hl => by
        simp only [overB, Bool.not_eq_true', Bool.and_eq_false_iff, decide_eq_false_iff_not] at hl
        by_cases h1 : j ≤ a
        · rw [if_pos h1, if_pos (by omega)]
          have := bst_log (f := f) (lt := allB) (n := a) hi h1 hf rfl; omega
        · rw [if_neg h1]
          by_cases h2 : i ≤ a
          · rw [if_pos h2]
            have e : i = a := by omega
            subst e
            rw [bst_past (Nat.le_refl i)]
            have := bst_log (f := f) (lt := allB) hi hj hf rfl; omega
          · rw [if_neg h2]; exact bst_log hi hj hf rfl) 0 (by omega)
    simpa using this
  · have h1 := bst_split_le (f := f) (lt := overB a) (lt' := allB) ha (fun i j h1 h2 _ => by simp only [overB, Bool.not_eq_true', Bool.and_eq_false_iff, decide_eq_false_iff_not]; omega) 0 (by omega)
    have h2 : bst f allB n a ≤ bst f (overB a) n a :=
      bst_least_from (q := fun i => bst f (overB a) n i) (bst_nonneg _ _ _ _) (fun i _ hi => bst_waste hi)
        (fun i j ha hi hj hf _ => bst_log hi hj hf (by simp only [overB, Bool.not_eq_true', Bool.and_eq_false_iff, decide_eq_false_iff_not]; omega)) a (Nat.le_refl _) ha
    omega

/-- The places that parts of best cuttings lead to. -/
inductive Rch (f : Nat → Nat → Int) (n : Nat) : Nat → Prop
  | zero : Rch f n 0
  | waste {i : Nat} : Rch f n i → i < n → bst f allB n (i + 1) = bst f allB n i → Rch f n (i + 1)
  | log {i j : Nat} : Rch f n i → i < j → j ≤ n → 0 < f i j → f i j + bst f allB n j = bst f allB n i → Rch f n j
theorem cuts_snoc {f : Nat → Nat → Int} {lt : Nat → Nat → Bool} {n : Nat} {i j : Nat} (hij : i < j) (hf : 0 < f i j) (hl : lt i j = true) (hn : j ≤ n) : ∀ (l : List (Nat × Nat)) (a : Nat), a ≤ i → Cuts f lt i a l → Cuts f lt n a (l ++ [(i, j)])
  | [], a, ha, _ => ⟨ha, hij, hn, hf, hl, trivial⟩
  | p :: l, a, ha, ⟨h1, h2, h3, h4, h5, h6⟩ => ⟨h1, h2, by omega, h4, h5, cuts_snoc hij hf hl hn l _ h3 h6⟩
theorem cuts_more {f : Nat → Nat → Int} {lt : Nat → Nat → Bool} {n m : Nat} (h : n ≤ m) : ∀ {l : List (Nat × Nat)} {a : Nat}, Cuts f lt n a l → Cuts f lt m a l
  | [], _, _ => trivial
  | p :: l, a, ⟨h1, h2, h3, h4, h5, h6⟩ => ⟨h1, h2, by omega, h4, h5, cuts_more h h6⟩
theorem sumF_append (f : Nat → Nat → Int) (l m : List (Nat × Nat)) : sumF f (l ++ m) = sumF f l + sumF f m := by
  simp [sumF, List.sum_append]
theorem rch_le {f : Nat → Nat → Int} {n i : Nat} (h : Rch f n i) : i ≤ n := by cases h <;> omega
theorem rch_pre {f : Nat → Nat → Int} {n i : Nat} (h : Rch f n i) : bst f allB i 0 + bst f allB n i = bst f allB n 0 := by
  have hle := rch_le h
  have h0 := bst_split_le (f := f) (lt := allB) (lt' := allB) hle (fun _ _ _ _ _ => rfl) 0 (by omega)
  apply Int.le_antisymm h0
  clear h0
  induction h with
  | zero => rw [bst_past (Nat.le_refl 0)]; omega
  | @waste i hi hn he ih =>
    have := ih (by omega)
    have h1 := bst_split_le (f := f) (lt := allB) (lt' := allB) (n := i + 1) (a := i) (by omega) (fun _ _ _ _ _ => rfl) 0 (by omega)
    have := bst_nonneg f allB (i + 1) i
    omega
  | @log i j hi hij hn hf he ih =>
    have := ih (by omega)
    have h1 := bst_split_le (f := f) (lt := allB) (lt' := allB) (n := j) (a := i) (by omega) (fun _ _ _ _ _ => rfl) 0 (by omega)
    have h2 := bst_log (f := f) (lt := allB) (n := j) hij (Nat.le_refl _) hf rfl
    have := bst_nonneg f allB j j
    omega
theorem rch_waste {f : Nat → Nat → Int} {n : Nat} : ∀ (d a : Nat), Rch f n a → a + d ≤ n → bst f allB n (a + d) = bst f allB n a → Rch f n (a + d)
  | 0, a, h, _, _ => h
  | d + 1, a, h, hn, he => by
    have h1 := bst_anti (f := f) (lt := allB) (n := n) (show a ≤ a + 1 by omega)
    have h2 := bst_anti (f := f) (lt := allB) (n := n) (show a + 1 ≤ a + (d + 1) by omega)
    have := rch_waste d (a + 1) (.waste h (by omega) (by omega)) (by omega) (by rw [show a + 1 + d = a + (d + 1) from by omega]; omega)
    rwa [show a + 1 + d = a + (d + 1) from by omega] at this
theorem rch_cuts {f : Nat → Nat → Int} {n i : Nat} (hin : i ≤ n) : ∀ (l : List (Nat × Nat)) (a : Nat), a ≤ i → Rch f n a → Cuts f allB i a l → bst f allB n a ≤ sumF f l + bst f allB n i → Rch f n i
  | [], a, ha, hr, _, hs => by
    have h1 := bst_anti (f := f) (lt := allB) (n := n) ha
    have := rch_waste (i - a) a hr (by omega) (by rw [show a + (i - a) = i from by omega]; simp only [sumF, List.map_nil, List.sum_nil] at hs; omega)
    rwa [show a + (i - a) = i from by omega] at this
  | p :: l, a, ha, hr, ⟨h1, h2, h3, h4, h5, h6⟩, hs => by
    have e1 := cuts_le l _ h6
    have e2 := bst_split_le (f := f) (lt := allB) (lt' := allB) (n := n) (a := i) hin (fun _ _ _ _ _ => rfl) p.2 h3
    have e3 := bst_log (f := f) (lt := allB) (n := n) h2 (by omega) h4 rfl
    have e4 := bst_anti (f := f) (lt := allB) (n := n) h1
    have e5 : sumF f (p :: l) = f p.1 p.2 + sumF f l := by simp [sumF]
    have hr1 : Rch f n p.1 := by
      have := rch_waste (p.1 - a) a hr (by omega) (by rw [show a + (p.1 - a) = p.1 from by omega]; omega)
      rwa [show a + (p.1 - a) = p.1 from by omega] at this
    exact rch_cuts hin l p.2 h3 (.log hr1 h2 (by omega) h4 (by omega)) h6 (by omega)
theorem rch_iff {f : Nat → Nat → Int} {n i : Nat} (hi : i ≤ n) : Rch f n i ↔ bst f allB i 0 + bst f allB n i = bst f allB n 0 := by
  constructor
  · exact rch_pre
  · intro h
    obtain ⟨l, h1, h2⟩ := cuts_best f allB i 0
    exact rch_cuts hi l 0 (by omega) .zero h1 (by omega)

/-- How many best cuttings of logs that are let there are from a place on, at most M. -/
def cnt (M : Int) (f : Nat → Nat → Int) (lt : Nat → Nat → Bool) (n : Nat) : Nat → Nat → Int
  | 0, _ => 1
  | k + 1, i => ((logsT f lt n i).filter fun j => decide (f i j + bst f allB n j = bst f allB n i)).foldl (fun m j => min M (m + cnt M f lt n k j)) (if bst f allB n i = bst f allB n (i + 1) then cnt M f lt n k (i + 1) else 0)
def cntV (M : Int) (f : Nat → Nat → Int) (lt : Nat → Nat → Bool) (n i : Nat) : Int := cnt M f lt n (n - i) i
theorem cnt_at {M : Int} {f : Nat → Nat → Int} {lt : Nat → Nat → Bool} {n : Nat} : ∀ k i, n = i + k → cnt M f lt n k i = cntV M f lt n i := by
  intro k i h; unfold cntV; rw [show n - i = k from by omega]
end Go.Proofs.Ytcgheakadfjofaa
namespace Go.Proofs.Ytcgheakadfjofaa
set_option linter.unusedVariables false
set_option linter.unusedSimpArgs false

theorem cnt_past {M : Int} {f : Nat → Nat → Int} {lt : Nat → Nat → Bool} {n : Nat} : ∀ k i, n ≤ i → cnt M f lt n k i = 1
  | 0, _, _ => rfl
  | k + 1, i, h => by
    rw [cnt, logsT_nil h, bst_past h, bst_past (show n ≤ i + 1 from by omega)]
    exact cnt_past k (i + 1) (by omega)
theorem cnt_one {M : Int} {f : Nat → Nat → Int} {lt : Nat → Nat → Bool} {n : Nat} : ∀ k i, n ≤ i + k → cnt M f lt n (k + 1) i = cnt M f lt n k i := by
  intro k
  induction k with
  | zero => intro i h; rw [cnt_past _ _ (by omega), cnt_past _ _ (by omega)]
  | succ k ih =>
    intro i h
    by_cases hi : n ≤ i
    · rw [cnt_past _ _ hi, cnt_past _ _ hi]
    · have e1 : cnt M f lt n (k + 1 + 1) i = ((logsT f lt n i).filter fun j => decide (f i j + bst f allB n j = bst f allB n i)).foldl (fun m j => min M (m + cnt M f lt n (k + 1) j)) (if bst f allB n i = bst f allB n (i + 1) then cnt M f lt n (k + 1) (i + 1) else 0) := rfl
      have e2 : cnt M f lt n (k + 1) i = ((logsT f lt n i).filter fun j => decide (f i j + bst f allB n j = bst f allB n i)).foldl (fun m j => min M (m + cnt M f lt n k j)) (if bst f allB n i = bst f allB n (i + 1) then cnt M f lt n k (i + 1) else 0) := rfl
      rw [e1, e2, ih (i + 1) (by omega)]
      exact foldl_congr_mem _ _ fun j hj b => by rw [ih j (by have := (mem_logsT.1 (List.mem_filter.1 hj).1).1; omega)]
theorem cnt_fuel {M : Int} {f : Nat → Nat → Int} {lt : Nat → Nat → Bool} {n k i : Nat} (h : n ≤ i + k) : cnt M f lt n k i = cntV M f lt n i := by
  have : ∀ d, cnt M f lt n (n - i + d) i = cntV M f lt n i := by
    intro d
    induction d with
    | zero => rfl
    | succ d ih => rw [← Nat.add_assoc, cnt_one _ _ (by omega)]; exact ih
  have h2 := this (k - (n - i))
  rwa [show n - i + (k - (n - i)) = k from by omega] at h2
theorem cntV_past {M : Int} {f : Nat → Nat → Int} {lt : Nat → Nat → Bool} {n i : Nat} (h : n ≤ i) : cntV M f lt n i = 1 := cnt_past _ _ h
theorem cntV_step {M : Int} {f : Nat → Nat → Int} {lt : Nat → Nat → Bool} {n i : Nat} (h : i < n) :
    cntV M f lt n i = ((logsT f lt n i).filter fun j => decide (f i j + bst f allB n j = bst f allB n i)).foldl (fun m j => min M (m + cntV M f lt n j)) (if bst f allB n i = bst f allB n (i + 1) then cntV M f lt n (i + 1) else 0) := by
  obtain ⟨d, hd⟩ : ∃ d, n - i = d + 1 := ⟨n - i - 1, by omega⟩
  have h0 : cntV M f lt n i = cnt M f lt n (d + 1) i := by unfold cntV; rw [hd]
  rw [h0, cnt, cnt_fuel (by omega)]
  exact foldl_congr_mem _ _ fun j hj b => by rw [cnt_fuel (by have := (mem_logsT.1 (List.mem_filter.1 hj).1).1; omega)]
theorem foldl_min_bd {α : Type} {M : Int} (hM : 0 < M) (g : α → Int) : ∀ (l : List α) (a : Int), (∀ x ∈ l, 0 ≤ g x) → 0 ≤ a → a ≤ M →
    0 ≤ l.foldl (fun m j => min M (m + g j)) a ∧ l.foldl (fun m j => min M (m + g j)) a ≤ M ∧ (0 < l.foldl (fun m j => min M (m + g j)) a ↔ 0 < a ∨ ∃ x ∈ l, 0 < g x)
  | [], a, _, h, h2 => ⟨h, h2, by simp⟩
  | y :: l, a, hg, h, h2 => by
    have hy := hg y (by simp)
    obtain ⟨h3, h4, h5⟩ := foldl_min_bd hM g l (min M (a + g y)) (fun x hx => hg x (by simp [hx])) (by omega) (by omega)
    refine ⟨h3, h4, h5.trans ?_⟩
    constructor
    · rintro (h6 | ⟨x, hx, h6⟩)
      · by_cases ha : 0 < a
        · exact .inl ha
        · exact .inr ⟨y, by simp, by omega⟩
      · exact .inr ⟨x, by simp [hx], h6⟩
    · rintro (h6 | ⟨x, hx, h6⟩)
      · exact .inl (by omega)
      · rcases List.mem_cons.1 hx with rfl | hx
        · exact .inl (by omega)
        · exact .inr ⟨x, hx, h6⟩
theorem cntV_bd {M : Int} (hM : 0 < M) {f : Nat → Nat → Int} {lt : Nat → Nat → Bool} {n : Nat} : ∀ i, 0 ≤ cntV M f lt n i ∧ cntV M f lt n i ≤ M ∧ (0 < cntV M f lt n i ↔ bst f lt n i = bst f allB n i) :=
  back_ind (n := n) _ (fun i h => by rw [cntV_past h, bst_past h, bst_past h]; simp; omega) fun i h ih => by
    rw [cntV_step h]
    have hmono : ∀ j, j ≤ n → bst f lt n j ≤ bst f allB n j := bst_mono fun _ _ _ _ _ _ => ⟨Int.le_refl _, rfl⟩
    obtain ⟨h3, h4, h5⟩ := foldl_min_bd hM (fun j => cntV M f lt n j) ((logsT f lt n i).filter fun j => decide (f i j + bst f allB n j = bst f allB n i)) (if bst f allB n i = bst f allB n (i + 1) then cntV M f lt n (i + 1) else 0)
      (fun x hx => (ih x (mem_logsT.1 (List.mem_filter.1 hx).1).1).1) (by split; exact (ih (i + 1) (by omega)).1; omega) (by split; exact (ih (i + 1) (by omega)).2.1; omega)
    refine ⟨h3, h4, h5.trans ?_⟩
    have hw := bst_waste (f := f) (lt := lt) h
    have hm0 := hmono i (by omega)
    have hm1 := hmono (i + 1) (by omega)
    constructor
    · rintro (h6 | ⟨x, hx, h6⟩)
      · split at h6
        · rename_i he
          have := (ih (i + 1) (by omega)).2.2.1 h6
          omega
        · omega
      · obtain ⟨hx1, hx2⟩ := List.mem_filter.1 hx
        obtain ⟨a, b, c, d⟩ := mem_logsT.1 hx1
        have e1 := of_decide_eq_true hx2
        have e2 := (ih x a).2.2.1 h6
        have e3 := bst_log a b c d
        omega
    · intro he
      rcases bst_cases (f := f) (lt := lt) h with h6 | ⟨j, a, b, c, d, h6⟩
      · left
        have := bst_waste (f := f) (lt := allB) h
        rw [if_pos (by omega)]
        exact (ih (i + 1) (by omega)).2.2.2 (by omega)
      · right
        have e3 := bst_log (f := f) (lt := allB) a b c rfl
        have e4 := hmono j b
        exact ⟨j, List.mem_filter.2 ⟨mem_logsT.2 ⟨a, b, c, d⟩, decide_eq_true (by omega)⟩, (ih j a).2.2.2 (by omega)⟩

/-- Each log of a best cutting begins where best cuttings lead, and is a part of one. -/
theorem best_mem {f : Nat → Nat → Int} {n : Nat} : ∀ (l : List (Nat × Nat)) (a : Nat), Rch f n a → Cuts f allB n a l → sumF f l = bst f allB n a → ∀ p ∈ l, Rch f n p.1 ∧ p.1 < p.2 ∧ p.2 ≤ n ∧ 0 < f p.1 p.2 ∧ f p.1 p.2 + bst f allB n p.2 = bst f allB n p.1
  | [], _, _, _, _ => fun _ h => by cases h
  | q :: l, a, hr, ⟨h1, h2, h3, h4, h5, h6⟩, hs => by
    have e1 := cuts_le l _ h6
    have e3 := bst_log (f := f) (lt := allB) (n := n) h2 (by omega) h4 rfl
    have e4 := bst_anti (f := f) (lt := allB) (n := n) h1
    have e5 : sumF f (q :: l) = f q.1 q.2 + sumF f l := by simp [sumF]
    have hr1 : Rch f n q.1 := by
      have := rch_waste (q.1 - a) a hr (by omega) (by rw [show a + (q.1 - a) = q.1 from by omega]; omega)
      rwa [show a + (q.1 - a) = q.1 from by omega] at this
    have hr2 : Rch f n q.2 := .log hr1 h2 h3 h4 (by omega)
    have ih := best_mem l q.2 hr2 h6 (by omega)
    intro p hp
    rcases List.mem_cons.1 hp with rfl | hp
    · exact ⟨hr1, h2, h3, h4, by omega⟩
    · exact ih p hp
/-- A place is cut in some best cutting. -/
def MayCut (f : Nat → Nat → Int) (n at_ : Nat) : Prop := ∃ i j, Rch f n i ∧ i < j ∧ j ≤ n ∧ 0 < f i j ∧ f i j + bst f allB n j = bst f allB n i ∧ (i = at_ ∨ j = at_)
theorem cuts_at {f : Nat → Nat → Int} {n x : Nat} : ∀ (l : List (Nat × Nat)) (a : Nat), Cuts f allB n a l → (∀ p ∈ l, p.1 ≠ x ∧ p.2 ≠ x) → Cuts f (atB x) n a l
  | [], _, _, _ => trivial
  | q :: l, a, ⟨h1, h2, h3, h4, h5, h6⟩, h => ⟨h1, h2, h3, h4, by have := h q (by simp); simp [atB, this.1, this.2], cuts_at l _ h6 fun p hp => h p (by simp [hp])⟩
theorem always_may {f : Nat → Nat → Int} {n x : Nat} (h : bst f (atB x) n 0 < bst f allB n 0) : MayCut f n x := by
  obtain ⟨l, h1, h2⟩ := cuts_best f allB n 0
  have hm := best_mem l 0 .zero h1 h2
  apply Classical.byContradiction
  intro hn
  have := cuts_le l 0 (cuts_at (x := x) l 0 h1 fun p hp => by
    obtain ⟨a, b, c, d, e⟩ := hm p hp
    exact ⟨fun e1 => hn ⟨p.1, p.2, a, b, c, d, e, .inl e1⟩, fun e1 => hn ⟨p.1, p.2, a, b, c, d, e, .inr e1⟩⟩)
  omega
/-- As the definition asks for it. -/
def cutsB (f : Nat → Nat → Int) (n x : Nat) : Bool := (List.range (n + 1)).any fun i => (List.range' (i + 1) (n - i)).any fun j => decide (0 < f i j) && (i == x || j == x) && decide (bst f allB i 0 + f i j + bst f allB n j = bst f allB n 0)
theorem cutsB_iff {f : Nat → Nat → Int} {n x : Nat} : cutsB f n x = true ↔ MayCut f n x := by
  simp only [cutsB, List.any_eq_true, List.mem_range, List.mem_range'_1, Bool.and_eq_true, decide_eq_true_eq, Bool.or_eq_true, beq_iff_eq]
  constructor
  · rintro ⟨i, hi, j, ⟨h1, h2⟩, ⟨h3, h4⟩, h5⟩
    have e1 := bst_split_le (f := f) (lt := allB) (lt' := allB) (n := n) (a := i) (by omega) (fun _ _ _ _ _ => rfl) 0 (by omega)
    have e3 := bst_log (f := f) (lt := allB) (n := n) (show i < j by omega) (by omega) h3 rfl
    exact ⟨i, j, (rch_iff (by omega)).2 (by omega), by omega, by omega, h3, by omega, h4⟩
  · rintro ⟨i, j, h1, h2, h3, h4, h5, h6⟩
    have := rch_pre h1
    exact ⟨i, by omega, j, ⟨by omega, by omega⟩, ⟨h4, h6⟩, by omega⟩

/-- The parts that begin at a place: where each ends, and what it scales. -/
def partsL (f : Nat → Nat → Int) (n i : Nat) : List (Nat × Int) := if i < n then (i + 1, 0) :: (logsT f allB n i).map fun j => (j, f i j) else []
theorem mem_partsL {f : Nat → Nat → Int} {n i : Nat} {p : Nat × Int} : p ∈ partsL f n i ↔ i < n ∧ p = (i + 1, 0) ∨ i < p.1 ∧ p.1 ≤ n ∧ 0 < p.2 ∧ p.2 = f i p.1 := by
  unfold partsL
  split
  · rename_i h
    simp only [List.mem_cons, List.mem_map, mem_logsT]
    constructor
    · rintro (rfl | ⟨j, ⟨a, b, c, d⟩, rfl⟩)
      · exact .inl ⟨h, rfl⟩
      · exact .inr ⟨a, b, c, rfl⟩
    · rintro (⟨_, rfl⟩ | ⟨a, b, c, d⟩)
      · exact .inl rfl
      · exact .inr ⟨p.1, ⟨a, b, by omega, rfl⟩, by rw [← d]⟩
  · rename_i h
    simp; omega
/-- A part of best cuttings. -/
def bestB (f : Nat → Nat → Int) (n i : Nat) (p : Nat × Int) : Bool := decide (p.2 + bst f allB n p.1 = bst f allB n i)
/-- What is known of the spots: whether a log begins (false) or ends (true) there, and a cutting up to there. -/
abbrev Kn := Nat → Bool → Option (Bool × List (Nat × Nat))
def addK (K : Kn) (i : Nat) (e : Bool) (l : Bool) (c : List (Nat × Nat)) : Kn := fun i' e' => if i' = i ∧ e' = e then (match K i e with | some k => some (k.1 || l, k.2) | none => some (l, c)) else K i' e'
def noteK (K : Kn) (i : Nat) (p : Nat × Int) (c : List (Nat × Nat)) : Kn :=
  addK (addK K i false (!decide (p.2 = 0)) c) p.1 true (!decide (p.2 = 0)) (if p.2 = 0 then c else c ++ [(i, p.1)])
def placeK (f : Nat → Nat → Int) (n : Nat) (K : Kn) (i : Nat) (ps : List (Nat × Int)) (c : List (Nat × Nat)) : Kn := (ps.filter (bestB f n i)).foldl (fun K p => noteK K i p c) K
def stepK (f : Nat → Nat → Int) (n : Nat) (K : Kn) (i : Nat) : Kn := match K i true with
  | none => K
  | some k => placeK f n K i (partsL f n i) k.2
def K0 : Kn := fun i e => if i = 0 ∧ e = true then some (false, []) else none
def walkK (f : Nat → Nat → Int) (n m : Nat) : Kn := (List.range m).foldl (stepK f n) K0
def flK (K : Kn) (i : Nat) (e : Bool) : Bool := match K i e with | some k => k.1 | none => false
theorem addK_same (K : Kn) (i : Nat) (e l : Bool) (c : List (Nat × Nat)) : ∃ c', addK K i e l c i e = some (flK K i e || l, c') ∧ ((∃ l', K i e = some (l', c')) ∨ K i e = none ∧ c' = c) := by
  unfold addK flK
  rw [if_pos ⟨rfl, rfl⟩]
  cases h : K i e with
  | none => exact ⟨c, by simp, .inr ⟨rfl, rfl⟩⟩
  | some k => exact ⟨k.2, rfl, .inl ⟨k.1, rfl⟩⟩
theorem addK_other {K : Kn} {i : Nat} {e l : Bool} {c : List (Nat × Nat)} {i' : Nat} {e' : Bool} (h : ¬ (i' = i ∧ e' = e)) : addK K i e l c i' e' = K i' e' := by
  unfold addK; rw [if_neg h]
/-- What holds of the spots once some parts have been noted. -/
structure KOk (f : Nat → Nat → Int) (n : Nat) (E : Nat → Nat → Int → Prop) (K : Kn) : Prop where
  cut : ∀ j l c, K j true = some (l, c) → Rch f n j ∧ Cuts f allB j 0 c ∧ sumF f c + bst f allB n j = bst f allB n 0
  zero : (K 0 true).isSome
  has : ∀ i j x, E i j x → (K j true).isSome
  ends : ∀ j, flK K j true = true ↔ ∃ i x, E i j x ∧ x ≠ 0
  begins : ∀ i, flK K i false = true ↔ ∃ j x, E i j x ∧ x ≠ 0
theorem KOk.start (f : Nat → Nat → Int) (n : Nat) : KOk f n (fun _ _ _ => False) K0 where
  cut := fun j l c h => by
    unfold K0 at h
    split at h
    · rename_i h1
      obtain ⟨rfl, -⟩ := h1
      cases h
      exact ⟨.zero, trivial, by simp [sumF]⟩
    · cases h
  zero := rfl
  has := fun _ _ _ h => h.elim
  ends := fun j => by unfold flK K0; by_cases h : j = 0 <;> simp [h]
  begins := fun j => by unfold flK K0; split <;> simp_all
theorem KOk.note {f : Nat → Nat → Int} {n : Nat} {E : Nat → Nat → Int → Prop} {K : Kn} (h : KOk f n E K) {i : Nat} {p : Nat × Int} (hp : p ∈ partsL f n i) (hb : bestB f n i p = true) {l0 : Bool} {c : List (Nat × Nat)} (hc : Rch f n i ∧ Cuts f allB i 0 c ∧ sumF f c + bst f allB n i = bst f allB n 0) :
    KOk f n (fun a b x => E a b x ∨ a = i ∧ b = p.1 ∧ x = p.2) (noteK K i p c) := by
  obtain ⟨j, x⟩ := p
  have hbe : x + bst f allB n j = bst f allB n i := of_decide_eq_true hb
  obtain ⟨hr, hcu, hsu⟩ := hc
  have hij : i < j ∧ j ≤ n ∧ (x = 0 ∧ j = i + 1 ∨ 0 < x ∧ x = f i j) := by
    rcases mem_partsL.1 hp with ⟨h1, h2⟩ | ⟨h1, h2, h3, h4⟩
    · cases h2; exact ⟨by omega, by omega, .inl ⟨rfl, rfl⟩⟩
    · exact ⟨h1, h2, .inr ⟨h3, h4⟩⟩
  obtain ⟨hij, hjn, hx⟩ := hij
  have hnew : Rch f n j ∧ Cuts f allB j 0 (if x = 0 then c else c ++ [(i, j)]) ∧ sumF f (if x = 0 then c else c ++ [(i, j)]) + bst f allB n j = bst f allB n 0 := by
    rcases hx with ⟨rfl, rfl⟩ | ⟨h1, rfl⟩
    · rw [if_pos rfl]
      exact ⟨.waste hr (by omega) (by omega), cuts_more (by omega) hcu, by omega⟩
    · rw [if_neg (by omega)]
      exact ⟨.log hr hij hjn h1 hbe, cuts_snoc hij h1 rfl (Nat.le_refl _) c 0 (by omega) hcu, by rw [sumF_append]; simp [sumF] at *; omega⟩
  have hx0 : (!decide (x = 0)) = true ↔ x ≠ 0 := by simp
  unfold noteK
  dsimp only
  generalize (!decide (x = 0)) = lb at hx0
  generalize (if x = 0 then c else c ++ [(i, j)]) = c2 at hnew
  have hA : ∀ j' , addK K i false lb c j' true = K j' true := fun j' => addK_other (by simp)
  have hmain : ∀ j', ¬ j' = j → addK (addK K i false lb c) j true lb c2 j' true = K j' true := fun j' hne => by rw [addK_other (by simp [hne]), hA]
  obtain ⟨c', hs1, hs2⟩ := addK_same (addK K i false lb c) j true lb c2
  have hfl : flK (addK K i false lb c) j true = flK K j true := by unfold flK; rw [hA]
  rw [hfl] at hs1
  rw [hA] at hs2
  constructor
  · intro j' l c'' hk
    by_cases hj' : j' = j
    · subst hj'
      rw [hs1] at hk
      cases hk
      rcases hs2 with ⟨l', h1⟩ | ⟨_, rfl⟩
      · exact h.cut _ _ _ h1
      · exact hnew
    · rw [hmain _ hj'] at hk
      exact h.cut _ _ _ hk
  · by_cases hj' : 0 = j
    · omega
    · rw [hmain _ hj']; exact h.zero
  · rintro a b y (he | ⟨rfl, rfl, rfl⟩)
    · by_cases hj' : b = j
      · subst hj'; rw [hs1]; rfl
      · rw [hmain _ hj']; exact h.has _ _ _ he
    · rw [hs1]; rfl
  · intro j'
    by_cases hj' : j' = j
    · subst hj'
      have e : flK (addK (addK K i false lb c) j' true lb c2) j' true = (flK K j' true || lb) := by unfold flK; rw [hs1]; rfl
      rw [e, Bool.or_eq_true, h.ends, hx0]
      constructor
      · rintro (⟨a, y, h1, h2⟩ | h1)
        · exact ⟨a, y, .inl h1, h2⟩
        · exact ⟨i, x, .inr ⟨rfl, rfl, rfl⟩, h1⟩
      · rintro ⟨a, y, (h1 | ⟨rfl, _, rfl⟩), h2⟩
        · exact .inl ⟨a, y, h1, h2⟩
        · exact .inr h2
    · have e : flK (addK (addK K i false lb c) j true lb c2) j' true = flK K j' true := by unfold flK; rw [hmain _ hj']
      rw [e, h.ends]
      constructor
      · rintro ⟨a, y, h1, h2⟩; exact ⟨a, y, .inl h1, h2⟩
      · rintro ⟨a, y, (h1 | ⟨_, h3, _⟩), h2⟩
        · exact ⟨a, y, h1, h2⟩
        · exact absurd h3 hj'
  · intro i'
    have e0 : addK (addK K i false lb c) j true lb c2 i' false = addK K i false lb c i' false := addK_other (by simp)
    have e1 : flK (addK (addK K i false lb c) j true lb c2) i' false = flK (addK K i false lb c) i' false := by unfold flK; rw [e0]
    rw [e1]
    by_cases hi' : i' = i
    · subst hi'
      obtain ⟨c'', hs3, _⟩ := addK_same K i' false lb c
      have e : flK (addK K i' false lb c) i' false = (flK K i' false || lb) := by unfold flK; rw [hs3]; rfl
      rw [e, Bool.or_eq_true, h.begins, hx0]
      constructor
      · rintro (⟨a, y, h1, h2⟩ | h1)
        · exact ⟨a, y, .inl h1, h2⟩
        · exact ⟨j, x, .inr ⟨rfl, rfl, rfl⟩, h1⟩
      · rintro ⟨a, y, (h1 | ⟨_, rfl, rfl⟩), h2⟩
        · exact .inl ⟨a, y, h1, h2⟩
        · exact .inr h2
    · have e : flK (addK K i false lb c) i' false = flK K i' false := by unfold flK; rw [addK_other (by simp [hi'])]
      rw [e, h.begins]
      constructor
      · rintro ⟨a, y, h1, h2⟩; exact ⟨a, y, .inl h1, h2⟩
      · rintro ⟨a, y, (h1 | ⟨h3, _, _⟩), h2⟩
        · exact ⟨a, y, h1, h2⟩
        · exact absurd h3 hi'
theorem KOk.congr {f : Nat → Nat → Int} {n : Nat} {E E' : Nat → Nat → Int → Prop} {K : Kn} (h : KOk f n E K) (he : ∀ a b x, E a b x ↔ E' a b x) : KOk f n E' K := by
  have : E = E' := by funext a b x; exact propext (he a b x)
  rwa [← this]
theorem KOk.place {f : Nat → Nat → Int} {n i : Nat} {c : List (Nat × Nat)} (hc : Rch f n i ∧ Cuts f allB i 0 c ∧ sumF f c + bst f allB n i = bst f allB n 0) : ∀ (ps : List (Nat × Int)) {E : Nat → Nat → Int → Prop} {K : Kn}, (∀ p ∈ ps, p ∈ partsL f n i) → KOk f n E K →
    KOk f n (fun a b x => E a b x ∨ a = i ∧ (b, x) ∈ ps ∧ bestB f n i (b, x) = true) (placeK f n K i ps c)
  | [], E, K, _, h => by
    show KOk f n _ K
    exact h.congr fun a b x => by simp
  | p :: ps, E, K, hps, h => by
    unfold placeK
    rw [List.filter_cons]
    by_cases hb : bestB f n i p = true
    · rw [if_pos hb, List.foldl_cons]
      have h1 := h.note (l0 := true) (hps p (by simp)) hb hc
      have h2 := KOk.place hc ps (fun q hq => hps q (by simp [hq])) h1
      refine h2.congr fun a b x => ?_
      constructor
      · rintro ((h3 | ⟨rfl, rfl, rfl⟩) | ⟨rfl, h3, h4⟩)
        · exact .inl h3
        · exact .inr ⟨rfl, by simp, hb⟩
        · exact .inr ⟨rfl, by simp [h3], h4⟩
      · rintro (h3 | ⟨rfl, h3, h4⟩)
        · exact .inl (.inl h3)
        · rcases List.mem_cons.1 h3 with h5 | h5
          · exact .inl (.inr ⟨rfl, by rw [← h5], by rw [← h5]⟩)
          · exact .inr ⟨rfl, h5, h4⟩
    · rw [if_neg hb]
      have h2 := KOk.place hc ps (fun q hq => hps q (by simp [hq])) h
      refine h2.congr fun a b x => ?_
      constructor
      · rintro (h3 | ⟨rfl, h3, h4⟩)
        · exact .inl h3
        · exact .inr ⟨rfl, by simp [h3], h4⟩
      · rintro (h3 | ⟨rfl, h3, h4⟩)
        · exact .inl h3
        · rcases List.mem_cons.1 h3 with h5 | h5
          · rw [h5] at h4; exact absurd h4 hb
          · exact .inr ⟨rfl, h5, h4⟩
/-- The parts of best cuttings that begin before a place. -/
def EB (f : Nat → Nat → Int) (n m : Nat) (a b : Nat) (x : Int) : Prop := a < m ∧ Rch f n a ∧ (b, x) ∈ partsL f n a ∧ bestB f n a (b, x) = true
theorem rch_pred {f : Nat → Nat → Int} {n j : Nat} (h : Rch f n j) (h0 : j ≠ 0) : ∃ i x, i < j ∧ EB f n (i + 1) i j x := by
  cases h with
  | zero => exact absurd rfl h0
  | @waste i hi hn he => exact ⟨i, 0, by omega, by omega, hi, mem_partsL.2 (.inl ⟨hn, rfl⟩), decide_eq_true (by dsimp only; omega)⟩
  | @log i _ hi hij hn hf he => exact ⟨i, f i j, hij, by omega, hi, mem_partsL.2 (.inr ⟨hij, hn, hf, rfl⟩), decide_eq_true he⟩
theorem walk_ok (f : Nat → Nat → Int) (n : Nat) : ∀ m, KOk f n (EB f n m) (walkK f n m)
  | 0 => (KOk.start f n).congr fun a b x => by simp [EB]
  | m + 1 => by
    have ih := walk_ok f n m
    have e : walkK f n (m + 1) = stepK f n (walkK f n m) m := by unfold walkK; rw [List.range_succ, List.foldl_append]; rfl
    rw [e]
    unfold stepK
    cases hk : walkK f n m m true with
    | none =>
      refine ih.congr fun a b x => ?_
      constructor
      · rintro ⟨h1, h2⟩; exact ⟨by omega, h2⟩
      · rintro ⟨h1, h2, h3, h4⟩
        refine ⟨?_, h2, h3, h4⟩
        rcases Nat.lt_succ_iff_lt_or_eq.1 h1 with h5 | rfl
        · exact h5
        · by_cases h0 : a = 0
          · subst h0; have := ih.zero; rw [hk] at this; cases this
          · obtain ⟨i, y, h6, h7⟩ := rch_pred h2 h0
            have := ih.has i a y ⟨h6, h7.2⟩
            rw [hk] at this; cases this
    | some k =>
      obtain ⟨l, c⟩ := k
      have hc := ih.cut m l c hk
      refine (KOk.place hc (partsL f n m) (fun _ h => h) ih).congr fun a b x => ?_
      constructor
      · rintro (⟨h1, h2⟩ | ⟨rfl, h3, h4⟩)
        · exact ⟨by omega, h2⟩
        · exact ⟨by omega, hc.1, h3, h4⟩
      · rintro ⟨h1, h2, h3, h4⟩
        rcases Nat.lt_succ_iff_lt_or_eq.1 h1 with h5 | rfl
        · exact .inl ⟨h5, h2, h3, h4⟩
        · exact .inr ⟨rfl, h3, h4⟩
theorem rch_last {f : Nat → Nat → Int} {n : Nat} : Rch f n n := (rch_iff (Nat.le_refl _)).2 (by rw [bst_past (f := f) (lt := allB) (Nat.le_refl n)]; omega)
/-- The cutting that the walk finds is a best one. -/
theorem walk_cut (f : Nat → Nat → Int) (n : Nat) : ∃ l c, walkK f n (n + 1) n true = some (l, c) ∧ Cuts f allB n 0 c ∧ sumF f c = bst f allB n 0 := by
  have h := walk_ok f n (n + 1)
  have hs : (walkK f n (n + 1) n true).isSome := by
    by_cases h0 : n = 0
    · subst h0; exact h.zero
    · obtain ⟨i, y, h6, h7⟩ := rch_pred (rch_last (f := f) (n := n)) h0
      exact h.has i n y ⟨by omega, h7.2⟩
  obtain ⟨⟨l, c⟩, hk⟩ := Option.isSome_iff_exists.1 hs
  obtain ⟨-, h2, h3⟩ := h.cut _ _ _ hk
  rw [bst_past (f := f) (lt := allB) (Nat.le_refl n)] at h3
  exact ⟨l, c, hk, h2, by omega⟩
theorem walk_may (f : Nat → Nat → Int) (n x : Nat) : (flK (walkK f n (n + 1)) x false || flK (walkK f n (n + 1)) x true) = cutsB f n x := by
  have h := walk_ok f n (n + 1)
  rw [Bool.eq_iff_iff, Bool.or_eq_true, h.begins, h.ends, cutsB_iff]
  have key : ∀ i j y, EB f n (n + 1) i j y ∧ y ≠ 0 ↔ Rch f n i ∧ i < j ∧ j ≤ n ∧ 0 < f i j ∧ f i j + bst f allB n j = bst f allB n i ∧ y = f i j := by
    intro i j y
    constructor
    · rintro ⟨⟨h1, h2, h3, h4⟩, h5⟩
      rcases mem_partsL.1 h3 with ⟨_, h6⟩ | ⟨h6, h7, h8, h9⟩
      · cases h6; exact absurd rfl h5
      · dsimp only at *; subst h9; exact ⟨h2, h6, h7, h8, of_decide_eq_true h4, rfl⟩
    · rintro ⟨h1, h2, h3, h4, h5, rfl⟩
      exact ⟨⟨by omega, h1, mem_partsL.2 (.inr ⟨h2, h3, h4, rfl⟩), decide_eq_true h5⟩, by omega⟩
  unfold MayCut
  constructor
  · rintro (⟨j, y, h1⟩ | ⟨i, y, h1⟩)
    · obtain ⟨a, b, c, d, e, _⟩ := (key _ _ _).1 h1; exact ⟨x, j, a, b, c, d, e, .inl rfl⟩
    · obtain ⟨a, b, c, d, e, _⟩ := (key _ _ _).1 h1; exact ⟨i, x, a, b, c, d, e, .inr rfl⟩
  · rintro ⟨i, j, a, b, c, d, e, (rfl | rfl)⟩
    · exact .inl ⟨j, f i j, (key _ _ _).2 ⟨a, b, c, d, e, rfl⟩⟩
    · exact .inr ⟨i, f i j, (key _ _ _).2 ⟨a, b, c, d, e, rfl⟩⟩
/-- How often a place is cut. -/
def kindV (f : Nat → Nat → Int) (n x : Nat) : Int := if cutsB f n x = false then 0 else if bst f (atB x) n 0 < bst f allB n 0 then 2 else 1
theorem kind_ref {M : Int} (hM : 0 < M) (f : Nat → Nat → Int) (n x : Nat) : (if cntV M f (atB x) n 0 = 0 then 2 else if cutsB f n x = true then 1 else 0) = kindV f n x := by
  obtain ⟨h1, h2, h3⟩ := cntV_bd hM (f := f) (lt := atB x) (n := n) 0
  have hm : bst f (atB x) n 0 ≤ bst f allB n 0 := bst_mono (fun _ _ _ _ _ _ => ⟨Int.le_refl _, rfl⟩) 0 (by omega)
  unfold kindV
  by_cases h : cntV M f (atB x) n 0 = 0
  · have h4 : bst f (atB x) n 0 < bst f allB n 0 := by
      rcases Int.lt_or_eq_of_le hm with h5 | h5
      · exact h5
      · have := h3.2 h5; omega
    rw [if_pos h, if_neg (by rw [cutsB_iff.2 (always_may h4)]; simp), if_pos h4]
  · have h5 := h3.1 (by omega)
    rw [if_neg h]
    cases hc : cutsB f n x
    · simp
    · simp; omega
end Go.Proofs.Ytcgheakadfjofaa
namespace Go.Proofs.Ytcgheakadfjofaa
set_option linter.unusedVariables false
set_option linter.unusedSimpArgs false

def grS (acc : Option Int) (w : Int) : Option Int := match acc with | none => some w | some m => some (if m < w then w else m)
/-- The greatest of a list, 0 of none. -/
def gr (l : List Int) : Int := (l.foldl grS none).getD 0
theorem grS_some : ∀ (l : List Int) (a : Int), l.foldl grS (some a) = some (l.foldl (fun m x => max m x) a)
  | [], _ => rfl
  | x :: l, a => by
    rw [List.foldl_cons, List.foldl_cons]
    have : grS (some a) x = some (max a x) := by simp only [grS]; congr 1; split <;> omega
    rw [this, grS_some l]
theorem gr_cons (x : Int) (l : List Int) : gr (x :: l) = l.foldl (fun m x => max m x) x := by
  unfold gr; rw [List.foldl_cons, show grS none x = some x from rfl, grS_some]; rfl
theorem gr_snoc (l : List Int) (x : Int) : (l ++ [x]).foldl grS none = grS (l.foldl grS none) x := by simp
theorem gr_ge {l : List Int} {x : Int} (h : x ∈ l) : x ≤ gr l := by
  cases l with
  | nil => cases h
  | cons y l =>
    rw [gr_cons]
    have := foldl_max_ge (fun x : Int => x) l y
    rcases List.mem_cons.1 h with rfl | h
    · exact this.1
    · exact this.2 x h
theorem gr_mem {l : List Int} (h : l ≠ []) : gr l ∈ l := by
  cases l with
  | nil => exact absurd rfl h
  | cons y l =>
    rw [gr_cons]
    rcases foldl_max_is (fun x : Int => x) l y with h1 | ⟨x, hx, h1⟩
    · rw [h1]; simp
    · rw [h1]; simp [hx]
/-- A part is let if it is waste, or its log is let. -/
def letP (lt : Nat → Nat → Bool) (i : Nat) (p : Nat × Int) : Bool := decide (p.2 = 0) || lt i p.1
theorem filter_map_comm {α β : Type} (g : α → β) (p : β → Bool) (l : List α) : (l.map g).filter p = (l.filter fun a => p (g a)).map g := by
  induction l with
  | nil => rfl
  | cons a l ih => simp only [List.map_cons, List.filter_cons]; split <;> simp [ih]
theorem foldl_map' {α β γ : Type} (g : α → β) (h : γ → β → γ) : ∀ (l : List α) (a : γ), (l.map g).foldl h a = l.foldl (fun c x => h c (g x)) a
  | [], _ => rfl
  | x :: l, a => by rw [List.map_cons, List.foldl_cons, List.foldl_cons, foldl_map' g h l]
theorem logs_let (f : Nat → Nat → Int) (lt : Nat → Nat → Bool) (n i : Nat) : (logsT f allB n i).filter (fun j => letP lt i (j, f i j)) = logsT f lt n i := by
  unfold logsT
  rw [List.filter_filter]
  apply List.filter_congr
  intro j _
  simp only [letP, allB, Bool.and_true]
  by_cases h : 0 < f i j
  · have : ¬ f i j = 0 := by omega
    simp [h, this]
  · simp [h]
/-- The price of a place, as the program makes it. -/
theorem price_step {f : Nat → Nat → Int} {lt : Nat → Nat → Bool} {n i : Nat} {q : Nat → Int} (hi : i < n) : gr (((partsL f n i).filter (letP lt i)).map fun p => p.2 + q p.1) = (logsT f lt n i).foldl (fun m j => max m (f i j + q j)) (q (i + 1)) := by
  unfold partsL
  rw [if_pos hi, List.filter_cons, if_pos (by simp [letP]), List.map_cons, gr_cons, filter_map_comm, logs_let, List.map_map, foldl_map']
  simp only [Int.zero_add]
  rfl
theorem price_bst {f : Nat → Nat → Int} {lt : Nat → Nat → Bool} {n i : Nat} {q : Nat → Int} (hi : i < n) (hq : ∀ j, i < j → j ≤ n → q j = bst f lt n j) : gr (((partsL f n i).filter (letP lt i)).map fun p => p.2 + q p.1) = bst f lt n i := by
  rw [price_step hi, bst_step hi, hq (i + 1) (by omega) (by omega)]
  exact foldl_congr_mem _ _ fun j hj b => by rw [hq j (mem_logsT.1 hj).1 (mem_logsT.1 hj).2.1]
/-- The prices are right. -/
def RightP (f : Nat → Nat → Int) (n : Nat) (q : Nat → Int) : Prop := (∀ i, i < n → q (i + 1) ≤ q i) ∧ ∀ i j, i < j → j ≤ n → 0 < f i j → f i j + q j ≤ q i
/-- By how much a price is too low. -/
def lackV (f : Nat → Nat → Int) (n : Nat) (q : Nat → Int) (i : Nat) : Int := max 0 (gr ((partsL f n i).map fun p => p.2 + q p.1) - q i)
theorem filter_true {α : Type} (l : List α) (p : α → Bool) (h : ∀ a ∈ l, p a = true) : l.filter p = l := List.filter_eq_self.2 h
theorem right_iff {f : Nat → Nat → Int} {n : Nat} {q : Nat → Int} (h0 : 0 ≤ q n) : RightP f n q ↔ ∀ i, i ≤ n → lackV f n q i = 0 := by
  have hstep : ∀ i, i < n → gr ((partsL f n i).map fun p => p.2 + q p.1) = (logsT f allB n i).foldl (fun m j => max m (f i j + q j)) (q (i + 1)) := fun i hi => by
    rw [← price_step (lt := allB) hi, filter_true _ _ fun p _ => by simp [letP, allB]]
  constructor
  · rintro ⟨h1, h2⟩ i hi
    unfold lackV
    by_cases h : i < n
    · rw [hstep i h]
      rcases foldl_max_is (fun j => f i j + q j) (logsT f allB n i) (q (i + 1)) with e | ⟨j, hj, e⟩
      · rw [e]; have := h1 i h; omega
      · rw [e]; obtain ⟨a, b, c, d⟩ := mem_logsT.1 hj; have := h2 i j a b c; omega
    · have e : i = n := by omega
      subst e
      have : partsL f i i = [] := by unfold partsL; rw [if_neg (by omega)]
      rw [this]
      show max 0 (0 - q i) = 0
      omega
  · intro h
    refine ⟨fun i hi => ?_, fun i j hi hj hf => ?_⟩
    · have h1 := h i (by omega)
      unfold lackV at h1
      rw [hstep i hi] at h1
      have := (foldl_max_ge (fun j => f i j + q j) (logsT f allB n i) (q (i + 1))).1
      omega
    · have h1 := h i (by omega)
      unfold lackV at h1
      rw [hstep i (by omega)] at h1
      have := (foldl_max_ge (fun j => f i j + q j) (logsT f allB n i) (q (i + 1))).2 j (mem_logsT.2 ⟨hi, hj, hf, rfl⟩)
      omega
theorem right_best {f : Nat → Nat → Int} {n : Nat} : RightP f n (bst f allB n) := ⟨fun i hi => bst_waste hi, fun i j a b c => bst_log a b c rfl⟩
theorem right_le {f : Nat → Nat → Int} {n : Nat} {q : Nat → Int} (h : RightP f n q) (h0 : 0 ≤ q n) {i : Nat} (hi : i ≤ n) : bst f allB n i ≤ q i := bst_least h0 h.1 (fun i j a b c _ => h.2 i j a b c) i hi

/-- What a part scales by another rule. -/
def ggV (g : Nat → Nat → Int) (i : Nat) (p : Nat × Int) : Int := if p.2 = 0 then 0 else g i p.1
/-- From the least to the greatest that best cuttings scale by another rule from a place on. -/
def btw (f g : Nat → Nat → Int) (n : Nat) : Nat → Nat → Int × Int
  | 0, _ => (0, 0)
  | k + 1, i => (-(gr (((partsL f n i).filter (bestB f n i)).map fun p => -ggV g i p - (btw f g n k p.1).1)), gr (((partsL f n i).filter (bestB f n i)).map fun p => ggV g i p + (btw f g n k p.1).2))
def btwV (f g : Nat → Nat → Int) (n i : Nat) : Int × Int := btw f g n (n - i) i
theorem partsL_past {f : Nat → Nat → Int} {n i : Nat} (h : n ≤ i) : partsL f n i = [] := by unfold partsL; rw [if_neg (by omega)]
theorem btw_past {f g : Nat → Nat → Int} {n : Nat} : ∀ k i, n ≤ i → btw f g n k i = (0, 0)
  | 0, _, _ => rfl
  | k + 1, i, h => by rw [btw, partsL_past h]; rfl
theorem mem_parts_gt {f : Nat → Nat → Int} {n i : Nat} {p : Nat × Int} (h : p ∈ partsL f n i) : i < p.1 ∧ p.1 ≤ n := by
  rcases mem_partsL.1 h with ⟨h1, rfl⟩ | ⟨h1, h2, _⟩
  · dsimp only; omega
  · exact ⟨h1, h2⟩
theorem btw_one {f g : Nat → Nat → Int} {n : Nat} : ∀ k i, n ≤ i + k → btw f g n (k + 1) i = btw f g n k i := by
  intro k
  induction k with
  | zero => intro i h; rw [btw_past _ _ (by omega), btw_past _ _ (by omega)]
  | succ k ih =>
    intro i h
    have e1 : btw f g n (k + 1 + 1) i = (-(gr (((partsL f n i).filter (bestB f n i)).map fun p => -ggV g i p - (btw f g n (k + 1) p.1).1)), gr (((partsL f n i).filter (bestB f n i)).map fun p => ggV g i p + (btw f g n (k + 1) p.1).2)) := rfl
    have e2 : btw f g n (k + 1) i = (-(gr (((partsL f n i).filter (bestB f n i)).map fun p => -ggV g i p - (btw f g n k p.1).1)), gr (((partsL f n i).filter (bestB f n i)).map fun p => ggV g i p + (btw f g n k p.1).2)) := rfl
    have e3 : ∀ p ∈ (partsL f n i).filter (bestB f n i), btw f g n (k + 1) p.1 = btw f g n k p.1 := fun p hp => ih p.1 (by have := mem_parts_gt (List.mem_filter.1 hp).1; omega)
    rw [e1, e2, List.map_congr_left (g := fun p => -ggV g i p - (btw f g n k p.1).1) fun p hp => by rw [e3 p hp], List.map_congr_left (f := fun p => ggV g i p + (btw f g n (k + 1) p.1).2) (g := fun p => ggV g i p + (btw f g n k p.1).2) fun p hp => by rw [e3 p hp]]
theorem btw_fuel {f g : Nat → Nat → Int} {n k i : Nat} (h : n ≤ i + k) : btw f g n k i = btwV f g n i := by
  have : ∀ d, btw f g n (n - i + d) i = btwV f g n i := by
    intro d
    induction d with
    | zero => rfl
    | succ d ih => rw [← Nat.add_assoc, btw_one _ _ (by omega)]; exact ih
  have h2 := this (k - (n - i))
  rwa [show n - i + (k - (n - i)) = k from by omega] at h2
theorem btwV_past {f g : Nat → Nat → Int} {n i : Nat} (h : n ≤ i) : btwV f g n i = (0, 0) := btw_past _ _ h
theorem btwV_step {f g : Nat → Nat → Int} {n i : Nat} (h : i < n) :
    btwV f g n i = (-(gr (((partsL f n i).filter (bestB f n i)).map fun p => -ggV g i p - (btwV f g n p.1).1)), gr (((partsL f n i).filter (bestB f n i)).map fun p => ggV g i p + (btwV f g n p.1).2)) := by
  obtain ⟨d, hd⟩ : ∃ d, n - i = d + 1 := ⟨n - i - 1, by omega⟩
  have h0 : btwV f g n i = btw f g n (d + 1) i := by unfold btwV; rw [hd]
  have e3 : ∀ p ∈ (partsL f n i).filter (bestB f n i), btw f g n d p.1 = btwV f g n p.1 := fun p hp => btw_fuel (by have := mem_parts_gt (List.mem_filter.1 hp).1; omega)
  rw [h0, btw, List.map_congr_left (g := fun p => -ggV g i p - (btwV f g n p.1).1) fun p hp => by rw [e3 p hp], List.map_congr_left (f := fun p => ggV g i p + (btw f g n d p.1).2) (g := fun p => ggV g i p + (btwV f g n p.1).2) fun p hp => by rw [e3 p hp]]
/-- The parts of best cuttings that begin at a place: there is one. -/
theorem best_some {f : Nat → Nat → Int} {n i : Nat} (h : i < n) : (partsL f n i).filter (bestB f n i) ≠ [] := by
  intro e
  have hn : ∀ p ∈ partsL f n i, ¬ bestB f n i p = true := fun p hp hb => by have := List.mem_filter.2 ⟨hp, hb⟩; rw [e] at this; cases this
  rcases bst_cases (f := f) (lt := allB) h with h1 | ⟨j, a, b, c, _, h1⟩
  · exact hn (i + 1, 0) (mem_partsL.2 (.inl ⟨h, rfl⟩)) (decide_eq_true (by dsimp only; omega))
  · exact hn (j, f i j) (mem_partsL.2 (.inr ⟨a, b, c, rfl⟩)) (decide_eq_true (by dsimp only; omega))
theorem btw_in {f g : Nat → Nat → Int} {n i : Nat} (h : i < n) {p : Nat × Int} (hp : p ∈ partsL f n i) (hb : bestB f n i p = true) :
    (btwV f g n i).1 ≤ ggV g i p + (btwV f g n p.1).1 ∧ ggV g i p + (btwV f g n p.1).2 ≤ (btwV f g n i).2 := by
  have hm := List.mem_filter.2 ⟨hp, hb⟩
  rw [btwV_step h]
  have h1 := gr_ge (List.mem_map.2 ⟨p, hm, rfl⟩ : -ggV g i p - (btwV f g n p.1).1 ∈ ((partsL f n i).filter (bestB f n i)).map fun p => -ggV g i p - (btwV f g n p.1).1)
  have h2 := gr_ge (List.mem_map.2 ⟨p, hm, rfl⟩ : ggV g i p + (btwV f g n p.1).2 ∈ ((partsL f n i).filter (bestB f n i)).map fun p => ggV g i p + (btwV f g n p.1).2)
  dsimp only
  omega
theorem btw_cuts {f g : Nat → Nat → Int} {n : Nat} : ∀ i, i ≤ n → ∀ l, Cuts f allB n i l → sumF f l = bst f allB n i → (btwV f g n i).1 ≤ sumF g l ∧ sumF g l ≤ (btwV f g n i).2 :=
  back_ind (n := n) _ (fun i h hn l hl hs => by
    rw [btwV_past h]
    cases l with
    | nil => simp [sumF]
    | cons p l => obtain ⟨h1, h2, h3, _⟩ := hl; omega) fun i h ih hn l hl hs => by
    have waste : Cuts f allB n (i + 1) l → (btwV f g n i).1 ≤ sumF g l ∧ sumF g l ≤ (btwV f g n i).2 := fun hl1 => by
      have e1 := cuts_le l _ hl1
      have e2 := bst_waste (f := f) (lt := allB) h
      have e3 := btw_in (f := f) (g := g) h (p := (i + 1, 0)) (mem_partsL.2 (.inl ⟨h, rfl⟩)) (decide_eq_true (by dsimp only; omega))
      have e4 := ih (i + 1) (by omega) (by omega) l hl1 (by omega)
      simp only [ggV, if_pos] at e3
      omega
    cases l with
    | nil => exact waste trivial
    | cons p l =>
      obtain ⟨h1, h2, h3, h4, h5, h6⟩ := hl
      by_cases hp : p.1 = i
      · have e1 := cuts_le l _ h6
        have e2 := bst_log (f := f) (lt := allB) (n := n) h2 h3 h4 rfl
        have e5 : sumF f (p :: l) = f p.1 p.2 + sumF f l := by simp [sumF]
        have e6 : sumF g (p :: l) = g p.1 p.2 + sumF g l := by simp [sumF]
        rw [hp] at e2 e5 e6 h4 h2
        have e3 := btw_in (f := f) (g := g) h (p := (p.2, f i p.2)) (mem_partsL.2 (.inr ⟨h2, h3, h4, rfl⟩)) (decide_eq_true (by dsimp only; omega))
        have e4 := ih p.2 h2 h3 l h6 (by omega)
        simp only [ggV, if_neg (show ¬ f i p.2 = 0 by omega)] at e3
        omega
      · exact waste ⟨by omega, h2, h3, h4, h5, h6⟩
/-- Both ends are what some best cutting scales. -/
theorem btw_ends {f g : Nat → Nat → Int} {n : Nat} : ∀ i, i ≤ n → (∃ l, Cuts f allB n i l ∧ sumF f l = bst f allB n i ∧ sumF g l = (btwV f g n i).1) ∧ ∃ l, Cuts f allB n i l ∧ sumF f l = bst f allB n i ∧ sumF g l = (btwV f g n i).2 := by
  have step : ∀ i, i < n → ∀ p ∈ (partsL f n i).filter (bestB f n i), ∀ l, Cuts f allB n p.1 l → sumF f l = bst f allB n p.1 → ∃ l', Cuts f allB n i l' ∧ sumF f l' = bst f allB n i ∧ sumF g l' = ggV g i p + sumF g l := by
    intro i hi p hp l h1 h2
    obtain ⟨hp1, hp2⟩ := List.mem_filter.1 hp
    have hb : p.2 + bst f allB n p.1 = bst f allB n i := of_decide_eq_true hp2
    rcases mem_partsL.1 hp1 with ⟨_, rfl⟩ | ⟨a, b, c, d⟩
    · exact ⟨l, cuts_weak (by omega) h1, by dsimp only at hb h2; omega, by simp [ggV]⟩
    · refine ⟨(i, p.1) :: l, ⟨Nat.le_refl _, a, b, by rw [← d]; exact c, rfl, h1⟩, ?_, ?_⟩
      · simp only [sumF, List.map_cons, List.sum_cons] at h2 ⊢; omega
      · unfold ggV; rw [if_neg (by omega)]; simp [sumF]
  refine back_ind (n := n) _ (fun i h hn => ?_) fun i h ih hn => ?_
  · rw [btwV_past h, bst_past h]; exact ⟨⟨[], trivial, rfl, rfl⟩, ⟨[], trivial, rfl, rfl⟩⟩
  · rw [btwV_step h]
    constructor
    · have := gr_mem (l := ((partsL f n i).filter (bestB f n i)).map fun p => -ggV g i p - (btwV f g n p.1).1) (by simp only [ne_eq, List.map_eq_nil_iff]; exact best_some h)
      obtain ⟨p, hp, e⟩ := List.mem_map.1 this
      have hgt := mem_parts_gt (List.mem_filter.1 hp).1
      obtain ⟨l, h1, h2, h3⟩ := (ih p.1 hgt.1 hgt.2).1
      obtain ⟨l', h4, h5, h6⟩ := step i h p hp l h1 h2
      exact ⟨l', h4, h5, by dsimp only; omega⟩
    · have := gr_mem (l := ((partsL f n i).filter (bestB f n i)).map fun p => ggV g i p + (btwV f g n p.1).2) (by simp only [ne_eq, List.map_eq_nil_iff]; exact best_some h)
      obtain ⟨p, hp, e⟩ := List.mem_map.1 this
      have hgt := mem_parts_gt (List.mem_filter.1 hp).1
      obtain ⟨l, h1, h2, h3⟩ := (ih p.1 hgt.1 hgt.2).2
      obtain ⟨l', h4, h5, h6⟩ := step i h p hp l h1 h2
      exact ⟨l', h4, h5, by dsimp only; omega⟩
theorem sumF_le_bst {g : Nat → Nat → Int} (hg : ∀ i j, 0 ≤ g i j) {f : Nat → Nat → Int} {lt : Nat → Nat → Bool} {n : Nat} : ∀ (l : List (Nat × Nat)) (i : Nat), i ≤ n → Cuts f lt n i l → sumF g l ≤ bst g allB n i
  | [], i, _, _ => bst_nonneg _ _ _ _
  | p :: l, i, hn, ⟨h1, h2, h3, h4, h5, h6⟩ => by
    have a := sumF_le_bst hg l p.2 h3 h6
    have c : bst g allB n p.1 ≤ bst g allB n i := bst_anti h1
    have e6 : sumF g (p :: l) = g p.1 p.2 + sumF g l := by simp [sumF]
    rcases Int.lt_or_le 0 (g p.1 p.2) with h | h
    · have b := bst_log (lt := allB) h2 h3 h rfl; omega
    · have b := bst_anti (f := g) (lt := allB) (n := n) (show p.1 ≤ p.2 by omega); omega
/-- The fold that the definition asks for. -/
def mrg (acc : Option (Int × Int)) (own : Int × Int) : Option (Int × Int) := some (match acc with | none => own | some a => (min a.1 own.1, max a.2 own.2))
theorem mrg_some : ∀ (l : List (Int × Int)) (a : Int × Int), l.foldl mrg (some a) = some (-((l.map fun q => -q.1).foldl (fun m x => max m x) (-a.1)), (l.map fun q => q.2).foldl (fun m x => max m x) a.2)
  | [], a => by simp
  | q :: l, a => by
    rw [List.foldl_cons, show mrg (some a) q = some (min a.1 q.1, max a.2 q.2) from rfl, mrg_some l]
    simp only [List.map_cons, List.foldl_cons]
    rw [show max (-a.1) (-q.1) = -(min a.1 q.1) from by omega]
theorem mrg_gr {l : List (Int × Int)} (h : l ≠ []) : l.foldl mrg none = some (-(gr (l.map fun q => -q.1)), gr (l.map fun q => q.2)) := by
  cases l with
  | nil => exact absurd rfl h
  | cons q l =>
    rw [List.foldl_cons, show mrg none q = some q from rfl, mrg_some, List.map_cons, List.map_cons, gr_cons, gr_cons]
theorem btw_mrg {f g : Nat → Nat → Int} {n i : Nat} (h : i < n) : (((partsL f n i).filter (bestB f n i)).map fun p => (ggV g i p + (btwV f g n p.1).1, ggV g i p + (btwV f g n p.1).2)).foldl mrg none = some (btwV f g n i) := by
  rw [mrg_gr (by simp only [ne_eq, List.map_eq_nil_iff]; exact best_some h), btwV_step h, List.map_map, List.map_map]
  congr 4
  apply List.map_congr_left
  intro p _
  simp only [Function.comp]
  omega
end Go.Proofs.Ytcgheakadfjofaa
namespace Go.Proofs.Ytcgheakadfjofaa
set_option linter.unusedVariables false
set_option linter.unusedSimpArgs false

/-- What a log with two places scales. -/
def sF (th bd : List Int) (r : Rl) (i j : Nat) : Int := scl th bd r (i : Int) (j : Int)
theorem any_congr {α : Type} {l l' : List α} {p q : α → Bool} (h : (∃ a ∈ l, p a = true) ↔ ∃ a ∈ l', q a = true) : l.any p = l'.any q := by
  rw [Bool.eq_iff_iff, List.any_eq_true, List.any_eq_true]; exact h
/-- Equal thickness at the end, equal bad feet between: a log scales the same. -/
theorem scl_congr {th th' bd bd' : List Int} {r : Rl} {i j i' j' : Int} (hd : j - i = j' - i') (ht : th.getD j.toNat 0 = th'.getD j'.toNat 0) (hb : (∃ b ∈ bd, i ≤ b ∧ b < j) ↔ ∃ b ∈ bd', i' ≤ b ∧ b < j') : scl th bd r i j = scl th' bd' r i' j' := by
  have e : bd.any (fun b => decide (i ≤ b) && decide (b < j)) = bd'.any (fun b => decide (i' ≤ b) && decide (b < j')) := any_congr (by simpa using hb)
  unfold scl
  rw [e, ht, hd]
theorem take_getD {th : List Int} {m j : Nat} (h : j < m) : (th.take m).getD j 0 = th.getD j 0 := by
  simp [List.getD, h]
theorem drop_getD {th : List Int} {m j : Nat} : (th.drop m).getD j 0 = th.getD (m + j) 0 := by
  simp [List.getD, List.getElem?_drop]
theorem sF_take {th bd : List Int} {r : Rl} {m i j : Nat} (h : j < m) : sF (th.take m) bd r i j = sF th bd r i j :=
  scl_congr rfl (take_getD (by simpa using h)) Iff.rfl
theorem bst_shift {f : Nat → Nat → Int} {n p : Nat} : ∀ i, bst (fun a b => f (p + a) (p + b)) allB n i = bst f allB (p + n) (p + i) :=
  back_ind (n := n) _ (fun i h => by rw [bst_past h, bst_past (by omega)]) fun i h ih => by
    apply Int.le_antisymm
    · rcases bst_cases (f := fun a b => f (p + a) (p + b)) (lt := allB) h with e | ⟨j, a, b, c, d, e⟩
      · rw [e, ih (i + 1) (by omega)]; exact bst_waste (i := p + i) (by omega)
      · rw [e, ih j a]; exact bst_log (by omega) (by omega) c rfl
    · rcases bst_cases (f := f) (lt := allB) (n := p + n) (i := p + i) (by omega) with e | ⟨j, a, b, c, d, e⟩
      · rw [e, show p + i + 1 = p + (i + 1) from rfl, ← ih (i + 1) (by omega)]; exact bst_waste h
      · obtain ⟨j', rfl⟩ : ∃ j', j = p + j' := ⟨j - p, by omega⟩
        rw [e, ← ih j' (by omega)]
        exact bst_log (f := fun a b => f (p + a) (p + b)) (by omega) (by omega) c rfl
/-- Some log of a cutting lies over a place if it scales more than what lies before and behind the place. -/
theorem some_over {f : Nat → Nat → Int} {n a : Nat} (ha : a ≤ n) {l : List (Nat × Nat)} (h : Cuts f allB n 0 l) (hs : bst f allB a 0 + bst f allB n a < sumF f l) : ∃ p ∈ l, p.1 < a ∧ a < p.2 := by
  apply Classical.byContradiction
  intro hn
  have key : ∀ (l : List (Nat × Nat)) (i : Nat), Cuts f allB n i l → (∀ p ∈ l, ¬ (p.1 < a ∧ a < p.2)) → Cuts f (overB a) n i l := by
    intro l
    induction l with
    | nil => intro i _ _; trivial
    | cons q l ih =>
      rintro i ⟨h1, h2, h3, h4, h5, h6⟩ hq
      refine ⟨h1, h2, h3, h4, ?_, ih _ h6 fun p hp => hq p (by simp [hp])⟩
      have := hq q (by simp)
      simp only [overB, Bool.not_eq_true', Bool.and_eq_false_iff, decide_eq_false_iff_not]; omega
  have h1 := cuts_le l 0 (key l 0 h fun p hp hh => hn ⟨p, hp, hh⟩)
  rw [bst_over ha] at h1
  omega
/-- A place that is cut in some best cutting is inside of none of its logs. -/
theorem may_loss {f : Nat → Nat → Int} {n a : Nat} (h : MayCut f n a) : bst f allB a 0 + bst f allB n a = bst f allB n 0 := by
  obtain ⟨i, j, h1, h2, h3, h4, h5, h6⟩ := h
  rcases h6 with rfl | rfl
  · exact rch_pre h1
  · exact rch_pre (.log h1 h2 h3 h4 h5)
/-- In a best cutting a place that is cut in none is not cut, and one that is cut in all is. -/
theorem best_touch {f : Nat → Nat → Int} {n x : Nat} {l : List (Nat × Nat)} (h : Cuts f allB n 0 l) (hs : sumF f l = bst f allB n 0) :
    (cutsB f n x = false → ∀ p ∈ l, p.1 ≠ x ∧ p.2 ≠ x) ∧ (bst f (atB x) n 0 < bst f allB n 0 → ∃ p ∈ l, p.1 = x ∨ p.2 = x) := by
  have hm := best_mem l 0 .zero h hs
  constructor
  · intro hc p hp
    obtain ⟨a, b, c, d, e⟩ := hm p hp
    have hn : ¬ MayCut f n x := fun hh => by rw [cutsB_iff.2 hh] at hc; cases hc
    exact ⟨fun e1 => hn ⟨p.1, p.2, a, b, c, d, e, .inl e1⟩, fun e1 => hn ⟨p.1, p.2, a, b, c, d, e, .inr e1⟩⟩
  · intro hlt
    apply Classical.byContradiction
    intro hn
    have := cuts_le l 0 (cuts_at (x := x) l 0 h fun p hp => ⟨fun e => hn ⟨p, hp, .inl e⟩, fun e => hn ⟨p, hp, .inr e⟩⟩)
    omega
/-- A thicker end scales no less. -/
theorem scl_thick {th th' bd : List Int} {r : Rl} (hr : Vr r) {i j : Int} (h : th.getD j.toNat 0 ≤ th'.getD j.toNat 0) (hp : 0 < scl th bd r i j) : scl th bd r i j ≤ scl th' bd r i j := by
  obtain ⟨a, b, c, d, e, f, g, i', j', k, l, m, n⟩ := hr
  unfold scl at hp ⊢
  split at hp; · omega
  rename_i h1
  split at hp; · omega
  rename_i h2
  rw [if_neg h1, if_neg h2, if_neg h1, if_neg (by omega)]
  apply Int.ediv_le_ediv (by omega)
  apply Int.mul_le_mul_of_nonneg_right _ (by omega)
  apply Int.mul_le_mul <;> omega
/-- More bad feet: a log scales no more. -/
theorem scl_bad {th bd bd' : List Int} {r : Rl} {i j : Int} (hs : ∀ b ∈ bd, b ∈ bd') (hp : 0 < scl th bd' r i j) : scl th bd' r i j = scl th bd r i j := by
  unfold scl at hp ⊢
  split at hp; · omega
  rename_i h1
  have h3 : ¬ bd.any (fun b => decide (i ≤ b) && decide (b < j)) = true := fun h => h1 (by
    obtain ⟨b, hb, hc⟩ := List.any_eq_true.1 h
    exact List.any_eq_true.2 ⟨b, hs b hb, hc⟩)
  rw [if_neg h1, if_neg h3]
/-- A rule that lets more. -/
theorem scl_wide {th bd : List Int} {r : Rl} {lo hi : Int} (h1 : lo ≤ r.lo) (h2 : r.hi ≤ hi) {i j : Int} (hp : 0 < scl th bd r i j) : scl th bd r i j = scl th bd { r with lo := lo, hi := hi } i j := by
  unfold scl at hp ⊢
  split at hp; · omega
  rename_i h3
  split at hp; · omega
  rename_i h4
  dsimp only
  rw [if_neg h3, if_neg h4, if_neg h3, if_neg (by omega)]
/-- A dearer rule. -/
theorem scl_dear {th bd : List Int} {r : Rl} (hr : Vr r) {off dv tn : Int} (h1 : r.off ≤ off) (h2 : r.dv ≤ dv) (h3 : r.tn ≤ tn) {i j : Int} (hp : 0 < scl th bd { r with off := off, dv := dv, tn := tn } i j) : scl th bd { r with off := off, dv := dv, tn := tn } i j ≤ scl th bd r i j := by
  obtain ⟨a, b, c, d, e, f, g, i', j', k, l, m, n⟩ := hr
  unfold scl at hp ⊢
  dsimp only at hp ⊢
  split at hp; · omega
  rename_i h4
  split at hp; · omega
  rename_i h5
  rw [if_neg h4, if_neg h5, if_neg h4, if_neg (by omega)]
  generalize th.getD j.toNat 0 = t at *
  have l0 : 0 ≤ j - i - r.tr := by omega
  generalize j - i - r.tr = ln at *
  have s1 : 0 ≤ max 0 (t - off) := by omega
  have s2 : max 0 (t - off) ≤ max 0 (t - r.off) := by omega
  generalize max 0 (t - off) = s at *
  generalize max 0 (t - r.off) = s' at *
  have m1 : s * s ≤ s' * s' := Int.mul_le_mul s2 s2 s1 (by omega)
  have m2 : s * s * ln ≤ s' * s' * ln := Int.mul_le_mul_of_nonneg_right m1 l0
  have m3 : 0 ≤ s' * s' * ln := Int.mul_nonneg (Int.mul_nonneg (by omega) (by omega)) l0
  refine Int.le_trans (Int.ediv_le_ediv (by omega) m2) ?_
  have hd : 0 < dv := by omega
  have hq : 0 ≤ s' * s' * ln / dv := Int.ediv_nonneg m3 (by omega)
  rw [Int.le_ediv_iff_mul_le (by omega)]
  have h6 : s' * s' * ln / dv * dv ≤ s' * s' * ln := Int.ediv_mul_le _ (by omega)
  have h7 : s' * s' * ln / dv * r.dv ≤ s' * s' * ln / dv * dv := Int.mul_le_mul_of_nonneg_left h2 hq
  omega
end Go.Proofs.Ytcgheakadfjofaa
