/- Stems, rules, and what cuttings scale: the plain numbers. No program is looked at here. -/
import Derived.Below
import Derived.Lib.Hide
namespace Go.Proofs.Ytcgheakadfjofaa
set_option linter.unusedVariables false
set_option linter.unusedSimpArgs false

/-- A rule. -/
structure Rl where
  lo : Int
  hi : Int
  st : Int
  tr : Int
  off : Int
  dv : Int
  tn : Int

/-- What a log scales; 0: it is not right. -/
def scl (th bd : List Int) (r : Rl) (i j : Int) : Int :=
  if bd.any (fun b => decide (i ≤ b) && decide (b < j)) = true then 0 else
  if j - i - r.tr < r.lo ∨ r.hi < j - i - r.tr ∨ (j - i - r.tr) % r.st ≠ 0 ∨ th.getD j.toNat 0 < r.tn then 0 else
  max 0 (th.getD j.toNat 0 - r.off) * max 0 (th.getD j.toNat 0 - r.off) * (j - i - r.tr) / r.dv

/-- Each number is at most the one before it. -/
def down : List Int → Bool
  | [] => true
  | [_] => true
  | x :: y :: l => decide (y ≤ x) && down (y :: l)
/-- Each number is greater than the one before it. -/
def up : List Int → Bool
  | [] => true
  | [_] => true
  | x :: y :: l => decide (x < y) && up (y :: l)
def inn (lo hi : Int) (l : List Int) : Bool := l.all fun x => decide (lo ≤ x) && decide (x ≤ hi)

def stemE (th bd : List Int) : Int :=
  if th.length < 2 ∨ 61 < th.length then 6
  else if inn 0 60 th = false then 3
  else if down th = false then 16
  else if inn 0 ((th.length : Int) - 2) bd = false ∨ up bd = false then 2
  else 0
def ruleE (r : Rl) : Int :=
  if 1 ≤ r.lo ∧ r.lo ≤ r.hi ∧ r.hi ≤ 60 ∧ 1 ≤ r.st ∧ r.st ≤ 10 ∧ 0 ≤ r.tr ∧ r.tr ≤ 5 ∧ 0 ≤ r.off ∧ r.off ≤ 20 ∧ 1 ≤ r.dv ∧ r.dv ≤ 100 ∧ 0 ≤ r.tn ∧ r.tn ≤ 60 then 0 else 3
def bothE (th bd : List Int) (r : Rl) : Int := if stemE th bd = 0 then ruleE r else stemE th bd

/-- A stem is valid. -/
structure Vs (th bd : List Int) : Prop where
  two : 2 ≤ th.length
  most : th.length ≤ 61
  thick : ∀ x ∈ th, 0 ≤ x ∧ x ≤ 60
  down : down th = true
  bad : ∀ x ∈ bd, 0 ≤ x ∧ x ≤ (th.length : Int) - 2
  up : up bd = true
/-- A rule is valid. -/
structure Vr (r : Rl) : Prop where
  lo : 1 ≤ r.lo
  lohi : r.lo ≤ r.hi
  hi : r.hi ≤ 60
  st : 1 ≤ r.st
  st2 : r.st ≤ 10
  tr : 0 ≤ r.tr
  tr2 : r.tr ≤ 5
  off : 0 ≤ r.off
  off2 : r.off ≤ 20
  dv : 1 ≤ r.dv
  dv2 : r.dv ≤ 100
  tn : 0 ≤ r.tn
  tn2 : r.tn ≤ 60
theorem inn_iff {lo hi : Int} {l : List Int} : inn lo hi l = true ↔ ∀ x ∈ l, lo ≤ x ∧ x ≤ hi := by simp [inn]
theorem inn_cons (lo hi x : Int) (l : List Int) : inn lo hi (x :: l) = (decide (lo ≤ x) && decide (x ≤ hi) && inn lo hi l) := rfl
theorem stemE_ok {th bd : List Int} : stemE th bd = 0 ↔ Vs th bd := by
  unfold stemE
  constructor
  · intro h
    split at h; · simp at h
    split at h; · simp at h
    split at h; · simp at h
    split at h; · simp at h
    rename_i h1 h2 h3 h4
    exact ⟨by omega, by omega, inn_iff.1 (by simpa using h2), by simpa using h3, inn_iff.1 (by cases h : inn 0 ((th.length : Int) - 2) bd <;> simp_all), by cases h : up bd <;> simp_all⟩
  · intro h
    have h1 := h.two; have h2 := h.most
    rw [if_neg (by omega), if_neg (by rw [inn_iff.2 h.thick]; simp), if_neg (by rw [h.down]; simp), if_neg (by rw [inn_iff.2 h.bad, h.up]; simp)]
theorem ruleE_ok {r : Rl} : ruleE r = 0 ↔ Vr r := by
  unfold ruleE
  constructor
  · intro h
    split at h
    · rename_i h1
      obtain ⟨a, b, c, d, e, f, g, i, j, k, l, m, n⟩ := h1
      exact ⟨a, b, c, d, e, f, g, i, j, k, l, m, n⟩
    · simp at h
  · intro ⟨a, b, c, d, e, f, g, i, j, k, l, m, n⟩
    rw [if_pos ⟨a, b, c, d, e, f, g, i, j, k, l, m, n⟩]
theorem bothE_ok {th bd : List Int} {r : Rl} : bothE th bd r = 0 ↔ Vs th bd ∧ Vr r := by
  unfold bothE
  split
  · rename_i h; rw [ruleE_ok]; exact ⟨fun k => ⟨stemE_ok.1 h, k⟩, fun k => k.2⟩
  · rename_i h; exact ⟨fun k => absurd k h, fun k => absurd (stemE_ok.2 k.1) h⟩

theorem getD_in {th : List Int} {lo hi : Int} (h : ∀ x ∈ th, lo ≤ x ∧ x ≤ hi) {k : Nat} (hk : k < th.length) : lo ≤ th.getD k 0 ∧ th.getD k 0 ≤ hi := by
  have := h th[k] (List.getElem_mem hk)
  simpa [List.getD, hk] using this
theorem getD_le {th : List Int} {lo hi : Int} (h : ∀ x ∈ th, lo ≤ x ∧ x ≤ hi) (hl : lo ≤ 0) (hh : 0 ≤ hi) (k : Nat) : lo ≤ th.getD k 0 ∧ th.getD k 0 ≤ hi := by
  by_cases hk : k < th.length
  · exact getD_in h hk
  · simp [List.getD, List.getElem?_eq_none (Nat.le_of_not_lt hk)]; omega
theorem scl_bd {th bd : List Int} {r : Rl} (hs : Vs th bd) (hr : Vr r) (i j : Int) : 0 ≤ scl th bd r i j ∧ scl th bd r i j ≤ 216000 := by
  unfold scl
  split; · omega
  split; · omega
  rename_i h1 h2
  obtain ⟨a, b, c, d, e, f, g, i', j', k, l, m, n⟩ := hr
  have ht := getD_le (hs.thick) (by omega) (by omega) j.toNat
  generalize th.getD j.toNat 0 = t at *
  have s1 : 0 ≤ max 0 (t - r.off) := by omega
  have s2 : max 0 (t - r.off) ≤ 60 := by omega
  generalize max 0 (t - r.off) = s at *
  have l1 : 0 ≤ j - i - r.tr := by omega
  have l2 : j - i - r.tr ≤ 60 := by omega
  generalize j - i - r.tr = ln at *
  have p1 : 0 ≤ s * s := Int.mul_nonneg s1 s1
  have p2 : s * s ≤ 60 * 60 := Int.mul_le_mul s2 s2 s1 (by omega)
  have p3 : 0 ≤ s * s * ln := Int.mul_nonneg p1 l1
  have p4 : s * s * ln ≤ 3600 * 60 := Int.mul_le_mul p2 l2 l1 (by omega)
  refine ⟨Int.ediv_nonneg p3 (by omega), ?_⟩
  exact Int.le_trans (Int.ediv_le_self _ p3) (by omega)

-- The best from a place on.
/-- The places where right logs end that begin at a place and are let. -/
def logsT (f : Nat → Nat → Int) (lt : Nat → Nat → Bool) (n i : Nat) : List Nat := (List.range' (i + 1) (n - i)).filter fun j => decide (0 < f i j) && lt i j
def pr (f : Nat → Nat → Int) (lt : Nat → Nat → Bool) (n : Nat) : Nat → Nat → Int
  | 0, _ => 0
  | k + 1, i => (logsT f lt n i).foldl (fun m j => max m (f i j + pr f lt n k j)) (pr f lt n k (i + 1))
/-- What a best cutting of logs that are let scales from a place on. -/
def bst (f : Nat → Nat → Int) (lt : Nat → Nat → Bool) (n i : Nat) : Int := pr f lt n (n - i) i
theorem mem_logsT {f : Nat → Nat → Int} {lt : Nat → Nat → Bool} {n i j : Nat} : j ∈ logsT f lt n i ↔ i < j ∧ j ≤ n ∧ 0 < f i j ∧ lt i j = true := by
  simp only [logsT, List.mem_filter, List.mem_range'_1, Bool.and_eq_true, decide_eq_true_eq]
  constructor
  · rintro ⟨⟨h1, h2⟩, h3, h4⟩; exact ⟨by omega, by omega, h3, h4⟩
  · rintro ⟨h1, h2, h3, h4⟩; exact ⟨⟨by omega, by omega⟩, h3, h4⟩
theorem logsT_nil {f : Nat → Nat → Int} {lt : Nat → Nat → Bool} {n i : Nat} (h : n ≤ i) : logsT f lt n i = [] := by
  simp [logsT, Nat.sub_eq_zero_of_le h]
theorem pr_past (f : Nat → Nat → Int) (lt : Nat → Nat → Bool) (n : Nat) : ∀ k i, n ≤ i → pr f lt n k i = 0
  | 0, _, _ => rfl
  | k + 1, i, h => by rw [pr, logsT_nil h]; exact pr_past f lt n k (i + 1) (by omega)
theorem foldl_congr_mem {α : Type} {β : Type} {g h : β → α → β} : ∀ (l : List α) (a : β), (∀ x ∈ l, ∀ b, g b x = h b x) → l.foldl g a = l.foldl h a
  | [], _, _ => rfl
  | x :: l, a, hh => by
    rw [List.foldl_cons, List.foldl_cons, hh x (by simp)]
    exact foldl_congr_mem l _ fun y hy => hh y (by simp [hy])
theorem pr_one (f : Nat → Nat → Int) (lt : Nat → Nat → Bool) (n : Nat) : ∀ k i, n ≤ i + k → pr f lt n (k + 1) i = pr f lt n k i := by
  intro k
  induction k with
  | zero => intro i h; rw [pr_past _ _ _ _ _ (by omega), pr_past _ _ _ _ _ (by omega)]
  | succ k ih =>
    intro i h
    by_cases hi : n ≤ i
    · rw [pr_past _ _ _ _ _ hi, pr_past _ _ _ _ _ hi]
    · have e1 : pr f lt n (k + 1 + 1) i = (logsT f lt n i).foldl (fun m j => max m (f i j + pr f lt n (k + 1) j)) (pr f lt n (k + 1) (i + 1)) := rfl
      have e2 : pr f lt n (k + 1) i = (logsT f lt n i).foldl (fun m j => max m (f i j + pr f lt n k j)) (pr f lt n k (i + 1)) := rfl
      rw [e1, e2, ih (i + 1) (by omega)]
      exact foldl_congr_mem _ _ fun j hj b => by rw [ih j (by have := (mem_logsT.1 hj).1; omega)]
theorem pr_fuel (f : Nat → Nat → Int) (lt : Nat → Nat → Bool) (n i : Nat) : ∀ d, pr f lt n (n - i + d) i = bst f lt n i
  | 0 => rfl
  | d + 1 => by rw [← Nat.add_assoc, pr_one _ _ _ _ _ (by omega)]; exact pr_fuel f lt n i d
theorem pr_at {f : Nat → Nat → Int} {lt : Nat → Nat → Bool} {n k i : Nat} (h : n ≤ i + k) : pr f lt n k i = bst f lt n i := by
  have := pr_fuel f lt n i (k - (n - i))
  rwa [show n - i + (k - (n - i)) = k from by omega] at this
theorem bst_past {f : Nat → Nat → Int} {lt : Nat → Nat → Bool} {n i : Nat} (h : n ≤ i) : bst f lt n i = 0 := pr_past _ _ _ _ _ h
theorem bst_step {f : Nat → Nat → Int} {lt : Nat → Nat → Bool} {n i : Nat} (h : i < n) : bst f lt n i = (logsT f lt n i).foldl (fun m j => max m (f i j + bst f lt n j)) (bst f lt n (i + 1)) := by
  obtain ⟨d, hd⟩ : ∃ d, n - i = d + 1 := ⟨n - i - 1, by omega⟩
  have h0 : bst f lt n i = pr f lt n (d + 1) i := by unfold bst; rw [hd]
  rw [h0, pr, pr_at (by omega)]
  exact foldl_congr_mem _ _ fun j hj b => by rw [pr_at (by have := (mem_logsT.1 hj).1; omega)]
theorem foldl_max_ge {α : Type} (g : α → Int) : ∀ (l : List α) (a : Int), a ≤ l.foldl (fun m j => max m (g j)) a ∧ ∀ x ∈ l, g x ≤ l.foldl (fun m j => max m (g j)) a
  | [], a => ⟨Int.le_refl _, fun _ h => by cases h⟩
  | y :: l, a => by
    obtain ⟨h1, h2⟩ := foldl_max_ge g l (max a (g y))
    rw [List.foldl_cons]
    refine ⟨by omega, fun x hx => ?_⟩
    rcases List.mem_cons.1 hx with rfl | hx
    · omega
    · exact h2 x hx
theorem foldl_max_is {α : Type} (g : α → Int) : ∀ (l : List α) (a : Int), l.foldl (fun m j => max m (g j)) a = a ∨ ∃ x ∈ l, l.foldl (fun m j => max m (g j)) a = g x
  | [], a => .inl rfl
  | y :: l, a => by
    rw [List.foldl_cons]
    rcases foldl_max_is g l (max a (g y)) with h | ⟨x, hx, h⟩
    · rw [h]
      rcases Int.le_total a (g y) with h1 | h1
      · exact .inr ⟨y, by simp, by omega⟩
      · exact .inl (by omega)
    · exact .inr ⟨x, by simp [hx], h⟩
theorem bst_waste {f : Nat → Nat → Int} {lt : Nat → Nat → Bool} {n i : Nat} (h : i < n) : bst f lt n (i + 1) ≤ bst f lt n i := by
  rw [bst_step h]; exact (foldl_max_ge _ _ _).1
theorem bst_log {f : Nat → Nat → Int} {lt : Nat → Nat → Bool} {n i j : Nat} (h : i < j) (hj : j ≤ n) (hf : 0 < f i j) (hl : lt i j = true) : f i j + bst f lt n j ≤ bst f lt n i := by
  rw [bst_step (i := i) (by omega)]; exact (foldl_max_ge (fun j => f i j + bst f lt n j) _ _).2 j (mem_logsT.2 ⟨h, hj, hf, hl⟩)
theorem bst_cases {f : Nat → Nat → Int} {lt : Nat → Nat → Bool} {n i : Nat} (h : i < n) : bst f lt n i = bst f lt n (i + 1) ∨ ∃ j, i < j ∧ j ≤ n ∧ 0 < f i j ∧ lt i j = true ∧ bst f lt n i = f i j + bst f lt n j := by
  rw [bst_step h]
  rcases foldl_max_is (fun j => f i j + bst f lt n j) (logsT f lt n i) (bst f lt n (i + 1)) with h1 | ⟨x, hx, h1⟩
  · exact .inl h1
  · obtain ⟨a, b, c, d⟩ := mem_logsT.1 hx
    exact .inr ⟨x, a, b, c, d, h1⟩
/-- From the last place back. -/
theorem back_ind {n : Nat} (p : Nat → Prop) (h0 : ∀ i, n ≤ i → p i) (hs : ∀ i, i < n → (∀ j, i < j → p j) → p i) : ∀ i, p i := by
  have : ∀ d i, n ≤ i + d → p i := by
    intro d
    induction d with
    | zero => intro i h; exact h0 i h
    | succ d ih =>
      intro i h
      by_cases hi : n ≤ i
      · exact h0 i hi
      · exact hs i (by omega) fun j hj => ih j (by omega)
  exact fun i => this n i (by omega)
theorem bst_nonneg (f : Nat → Nat → Int) (lt : Nat → Nat → Bool) (n : Nat) : ∀ i, 0 ≤ bst f lt n i :=
  back_ind (n := n) _ (fun i h => by rw [bst_past h]; exact Int.le_refl _) fun i h ih => Int.le_trans (ih (i + 1) (by omega)) (bst_waste h)
/-- Right prices are no less. -/
theorem bst_least {f : Nat → Nat → Int} {lt : Nat → Nat → Bool} {n : Nat} {q : Nat → Int} (h0 : 0 ≤ q n) (h1 : ∀ i, i < n → q (i + 1) ≤ q i) (h2 : ∀ i j, i < j → j ≤ n → 0 < f i j → lt i j = true → f i j + q j ≤ q i) : ∀ i, i ≤ n → bst f lt n i ≤ q i :=
  back_ind (n := n) (fun i => i ≤ n → bst f lt n i ≤ q i) (fun i h hn => by rw [bst_past h]; rw [show i = n from by omega]; exact h0) fun i h ih hn => by
    rcases bst_cases (f := f) (lt := lt) h with e | ⟨j, a, b, c, d, e⟩
    · rw [e]; exact Int.le_trans (ih (i + 1) (by omega) (by omega)) (h1 i h)
    · rw [e]; have := ih j a b; have := h2 i j a b c d; omega
theorem bst_least_from {f : Nat → Nat → Int} {lt : Nat → Nat → Bool} {n a : Nat} {q : Nat → Int} (h0 : 0 ≤ q n) (h1 : ∀ i, a ≤ i → i < n → q (i + 1) ≤ q i) (h2 : ∀ i j, a ≤ i → i < j → j ≤ n → 0 < f i j → lt i j = true → f i j + q j ≤ q i) : ∀ i, a ≤ i → i ≤ n → bst f lt n i ≤ q i :=
  back_ind (n := n) (fun i => a ≤ i → i ≤ n → bst f lt n i ≤ q i) (fun i h ha hn => by rw [bst_past h]; rw [show i = n from by omega]; exact h0) fun i h ih ha hn => by
    rcases bst_cases (f := f) (lt := lt) h with e | ⟨j, x, b, c, d, e⟩
    · rw [e]; exact Int.le_trans (ih (i + 1) (by omega) (by omega) (by omega)) (h1 i ha h)
    · rw [e]; have := ih j x (by omega) b; have := h2 i j ha x b c d; omega
theorem bst_mono {f f' : Nat → Nat → Int} {lt lt' : Nat → Nat → Bool} {n : Nat} (h : ∀ i j, i < j → j ≤ n → 0 < f i j → lt i j = true → f i j ≤ f' i j ∧ lt' i j = true) : ∀ i, i ≤ n → bst f lt n i ≤ bst f' lt' n i :=
  bst_least (bst_nonneg _ _ _ _) (fun i hi => bst_waste hi) fun i j hi hj hf hl => by
    obtain ⟨h1, h2⟩ := h i j hi hj hf hl
    have := bst_log (f := f') (lt := lt') hi hj (by omega) h2
    omega
theorem bst_bound {f : Nat → Nat → Int} {lt : Nat → Nat → Bool} {n : Nat} {M : Int} (hM : 0 ≤ M) (h : ∀ i j, f i j ≤ M) : ∀ i, i ≤ n → bst f lt n i ≤ M * ((n : Int) - i) :=
  bst_least (by simp) (fun i hi => by
    have : M * ((n : Int) - (i + 1 : Nat)) ≤ M * ((n : Int) - i) := Int.mul_le_mul_of_nonneg_left (by omega) hM
    exact this) fun i j hi hj hf hl => by
    have h1 := h i j
    have h2 : M * ((n : Int) - j) + M * 1 ≤ M * ((n : Int) - i) := by
      rw [← Int.mul_add]; exact Int.mul_le_mul_of_nonneg_left (by omega) hM
    omega
/-- Logs that are let, one after another, from a place on. -/
def Cuts (f : Nat → Nat → Int) (lt : Nat → Nat → Bool) (n : Nat) : Nat → List (Nat × Nat) → Prop
  | _, [] => True
  | i, p :: l => i ≤ p.1 ∧ p.1 < p.2 ∧ p.2 ≤ n ∧ 0 < f p.1 p.2 ∧ lt p.1 p.2 = true ∧ Cuts f lt n p.2 l
def sumF (f : Nat → Nat → Int) (l : List (Nat × Nat)) : Int := (l.map fun p => f p.1 p.2).sum
theorem bst_anti {f : Nat → Nat → Int} {lt : Nat → Nat → Bool} {n : Nat} {i j : Nat} (h : i ≤ j) : bst f lt n j ≤ bst f lt n i := by
  obtain ⟨d, rfl⟩ : ∃ d, j = i + d := ⟨j - i, by omega⟩
  clear h
  induction d with
  | zero => exact Int.le_refl _
  | succ d ih =>
    refine Int.le_trans ?_ ih
    by_cases hn : i + d < n
    · exact bst_waste hn
    · rw [bst_past (show n ≤ i + (d + 1) from by omega)]; exact bst_nonneg _ _ _ _
theorem cuts_le {f : Nat → Nat → Int} {lt : Nat → Nat → Bool} {n : Nat} : ∀ (l : List (Nat × Nat)) (i : Nat), Cuts f lt n i l → sumF f l ≤ bst f lt n i
  | [], i, _ => bst_nonneg _ _ _ _
  | p :: l, i, ⟨h1, h2, h3, h4, h5, h6⟩ => by
    have a := cuts_le l _ h6
    have b := bst_log (lt := lt) h2 h3 h4 h5
    have c : bst f lt n p.1 ≤ bst f lt n i := bst_anti h1
    simp only [sumF, List.map_cons, List.sum_cons] at a ⊢
    omega
theorem cuts_weak {f : Nat → Nat → Int} {lt : Nat → Nat → Bool} {n i i' : Nat} (h : i' ≤ i) : ∀ {l : List (Nat × Nat)}, Cuts f lt n i l → Cuts f lt n i' l
  | [], _ => trivial
  | p :: l, ⟨h1, h2⟩ => ⟨by omega, h2⟩
theorem cuts_best (f : Nat → Nat → Int) (lt : Nat → Nat → Bool) (n : Nat) : ∀ i, ∃ l, Cuts f lt n i l ∧ sumF f l = bst f lt n i :=
  back_ind (n := n) _ (fun i h => ⟨[], trivial, by rw [bst_past h]; rfl⟩) fun i h ih => by
    rcases bst_cases (f := f) (lt := lt) h with e | ⟨j, a, b, c, d, e⟩
    · obtain ⟨l, h1, h2⟩ := ih (i + 1) (by omega)
      exact ⟨l, cuts_weak (by omega) h1, by rw [e, h2]⟩
    · obtain ⟨l, h1, h2⟩ := ih j a
      exact ⟨(i, j) :: l, ⟨Nat.le_refl _, a, b, c, d, h1⟩, by rw [e, ← h2]; simp [sumF]⟩
end Go.Proofs.Ytcgheakadfjofaa
