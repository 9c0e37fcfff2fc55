/- How many best cuttings there are, which places they cut, and what they scale by another rule. Plain numbers. -/
import Derived.Test.YtcgheakadfjofaaA2
namespace Go.Proofs.Ytcgheakadfjofaa
set_option linter.unusedVariables false
set_option linter.unusedSimpArgs false

theorem cnt_past {M : Int} {f : Nat → Nat → Int} {lt : Nat → Nat → Bool} {n : Nat} : ∀ k i, n ≤ i → cnt M f lt n k i = 1
  | 0, _, _ => rfl
  | k + 1, i, h => by
    rw [cnt, logsT_nil h, bst_past h, bst_past (show n ≤ i + 1 from by omega)]
    exact cnt_past k (i + 1) (by omega)
theorem cnt_one {M : Int} {f : Nat → Nat → Int} {lt : Nat → Nat → Bool} {n : Nat} : ∀ k i, n ≤ i + k → cnt M f lt n (k + 1) i = cnt M f lt n k i := by
  intro k
  induction k with
  | zero => intro i h; rw [cnt_past _ _ (by omega), cnt_past _ _ (by omega)]
  | succ k ih =>
    intro i h
    by_cases hi : n ≤ i
    · rw [cnt_past _ _ hi, cnt_past _ _ hi]
    · have e1 : cnt M f lt n (k + 1 + 1) i = ((logsT f lt n i).filter fun j => decide (f i j + bst f allB n j = bst f allB n i)).foldl (fun m j => min M (m + cnt M f lt n (k + 1) j)) (if bst f allB n i = bst f allB n (i + 1) then cnt M f lt n (k + 1) (i + 1) else 0) := rfl
      have e2 : cnt M f lt n (k + 1) i = ((logsT f lt n i).filter fun j => decide (f i j + bst f allB n j = bst f allB n i)).foldl (fun m j => min M (m + cnt M f lt n k j)) (if bst f allB n i = bst f allB n (i + 1) then cnt M f lt n k (i + 1) else 0) := rfl
      rw [e1, e2, ih (i + 1) (by omega)]
      exact foldl_congr_mem _ _ fun j hj b => by rw [ih j (by have := (mem_logsT.1 (List.mem_filter.1 hj).1).1; omega)]
theorem cnt_fuel {M : Int} {f : Nat → Nat → Int} {lt : Nat → Nat → Bool} {n k i : Nat} (h : n ≤ i + k) : cnt M f lt n k i = cntV M f lt n i := by
  have : ∀ d, cnt M f lt n (n - i + d) i = cntV M f lt n i := by
    intro d
    induction d with
    | zero => rfl
    | succ d ih => rw [← Nat.add_assoc, cnt_one _ _ (by omega)]; exact ih
  have h2 := this (k - (n - i))
  rwa [show n - i + (k - (n - i)) = k from by omega] at h2
theorem cntV_past {M : Int} {f : Nat → Nat → Int} {lt : Nat → Nat → Bool} {n i : Nat} (h : n ≤ i) : cntV M f lt n i = 1 := cnt_past _ _ h
theorem cntV_step {M : Int} {f : Nat → Nat → Int} {lt : Nat → Nat → Bool} {n i : Nat} (h : i < n) :
    cntV M f lt n i = ((logsT f lt n i).filter fun j => decide (f i j + bst f allB n j = bst f allB n i)).foldl (fun m j => min M (m + cntV M f lt n j)) (if bst f allB n i = bst f allB n (i + 1) then cntV M f lt n (i + 1) else 0) := by
  obtain ⟨d, hd⟩ : ∃ d, n - i = d + 1 := ⟨n - i - 1, by omega⟩
  have h0 : cntV M f lt n i = cnt M f lt n (d + 1) i := by unfold cntV; rw [hd]
  rw [h0, cnt, cnt_fuel (by omega)]
  exact foldl_congr_mem _ _ fun j hj b => by rw [cnt_fuel (by have := (mem_logsT.1 (List.mem_filter.1 hj).1).1; omega)]
theorem foldl_min_bd {α : Type} {M : Int} (hM : 0 < M) (g : α → Int) : ∀ (l : List α) (a : Int), (∀ x ∈ l, 0 ≤ g x) → 0 ≤ a → a ≤ M →
    0 ≤ l.foldl (fun m j => min M (m + g j)) a ∧ l.foldl (fun m j => min M (m + g j)) a ≤ M ∧ (0 < l.foldl (fun m j => min M (m + g j)) a ↔ 0 < a ∨ ∃ x ∈ l, 0 < g x)
  | [], a, _, h, h2 => ⟨h, h2, by simp⟩
  | y :: l, a, hg, h, h2 => by
    have hy := hg y (by simp)
    obtain ⟨h3, h4, h5⟩ := foldl_min_bd hM g l (min M (a + g y)) (fun x hx => hg x (by simp [hx])) (by omega) (by omega)
    refine ⟨h3, h4, h5.trans ?_⟩
    constructor
    · rintro (h6 | ⟨x, hx, h6⟩)
      · by_cases ha : 0 < a
        · exact .inl ha
        · exact .inr ⟨y, by simp, by omega⟩
      · exact .inr ⟨x, by simp [hx], h6⟩
    · rintro (h6 | ⟨x, hx, h6⟩)
      · exact .inl (by omega)
      · rcases List.mem_cons.1 hx with rfl | hx
        · exact .inl (by omega)
        · exact .inr ⟨x, hx, h6⟩
theorem cntV_bd {M : Int} (hM : 0 < M) {f : Nat → Nat → Int} {lt : Nat → Nat → Bool} {n : Nat} : ∀ i, 0 ≤ cntV M f lt n i ∧ cntV M f lt n i ≤ M ∧ (0 < cntV M f lt n i ↔ bst f lt n i = bst f allB n i) :=
  back_ind (n := n) _ (fun i h => by rw [cntV_past h, bst_past h, bst_past h]; simp; omega) fun i h ih => by
    rw [cntV_step h]
    have hmono : ∀ j, j ≤ n → bst f lt n j ≤ bst f allB n j := bst_mono fun _ _ _ _ _ _ => ⟨Int.le_refl _, rfl⟩
    obtain ⟨h3, h4, h5⟩ := foldl_min_bd hM (fun j => cntV M f lt n j) ((logsT f lt n i).filter fun j => decide (f i j + bst f allB n j = bst f allB n i)) (if bst f allB n i = bst f allB n (i + 1) then cntV M f lt n (i + 1) else 0)
      (fun x hx => (ih x (mem_logsT.1 (List.mem_filter.1 hx).1).1).1) (by split; exact (ih (i + 1) (by omega)).1; omega) (by split; exact (ih (i + 1) (by omega)).2.1; omega)
    refine ⟨h3, h4, h5.trans ?_⟩
    have hw := bst_waste (f := f) (lt := lt) h
    have hm0 := hmono i (by omega)
    have hm1 := hmono (i + 1) (by omega)
    constructor
    · rintro (h6 | ⟨x, hx, h6⟩)
      · split at h6
        · rename_i he
          have := (ih (i + 1) (by omega)).2.2.1 h6
          omega
        · omega
      · obtain ⟨hx1, hx2⟩ := List.mem_filter.1 hx
        obtain ⟨a, b, c, d⟩ := mem_logsT.1 hx1
        have e1 := of_decide_eq_true hx2
        have e2 := (ih x a).2.2.1 h6
        have e3 := bst_log a b c d
        omega
    · intro he
      rcases bst_cases (f := f) (lt := lt) h with h6 | ⟨j, a, b, c, d, h6⟩
      · left
        have := bst_waste (f := f) (lt := allB) h
        rw [if_pos (by omega)]
        exact (ih (i + 1) (by omega)).2.2.2 (by omega)
      · right
        have e3 := bst_log (f := f) (lt := allB) a b c rfl
        have e4 := hmono j b
        exact ⟨j, List.mem_filter.2 ⟨mem_logsT.2 ⟨a, b, c, d⟩, decide_eq_true (by omega)⟩, (ih j a).2.2.2 (by omega)⟩

/-- Each log of a best cutting begins where best cuttings lead, and is a part of one. -/
theorem best_mem {f : Nat → Nat → Int} {n : Nat} : ∀ (l : List (Nat × Nat)) (a : Nat), Rch f n a → Cuts f allB n a l → sumF f l = bst f allB n a → ∀ p ∈ l, Rch f n p.1 ∧ p.1 < p.2 ∧ p.2 ≤ n ∧ 0 < f p.1 p.2 ∧ f p.1 p.2 + bst f allB n p.2 = bst f allB n p.1
  | [], _, _, _, _ => fun _ h => by cases h
  | q :: l, a, hr, ⟨h1, h2, h3, h4, h5, h6⟩, hs => by
    have e1 := cuts_le l _ h6
    have e3 := bst_log (f := f) (lt := allB) (n := n) h2 (by omega) h4 rfl
    have e4 := bst_anti (f := f) (lt := allB) (n := n) h1
    have e5 : sumF f (q :: l) = f q.1 q.2 + sumF f l := by simp [sumF]
    have hr1 : Rch f n q.1 := by
      have := rch_waste (q.1 - a) a hr (by omega) (by rw [show a + (q.1 - a) = q.1 from by omega]; omega)
      rwa [show a + (q.1 - a) = q.1 from by omega] at this
    have hr2 : Rch f n q.2 := .log hr1 h2 h3 h4 (by omega)
    have ih := best_mem l q.2 hr2 h6 (by omega)
    intro p hp
    rcases List.mem_cons.1 hp with rfl | hp
    · exact ⟨hr1, h2, h3, h4, by omega⟩
    · exact ih p hp
/-- A place is cut in some best cutting. -/
def MayCut (f : Nat → Nat → Int) (n at_ : Nat) : Prop := ∃ i j, Rch f n i ∧ i < j ∧ j ≤ n ∧ 0 < f i j ∧ f i j + bst f allB n j = bst f allB n i ∧ (i = at_ ∨ j = at_)
theorem cuts_at {f : Nat → Nat → Int} {n x : Nat} : ∀ (l : List (Nat × Nat)) (a : Nat), Cuts f allB n a l → (∀ p ∈ l, p.1 ≠ x ∧ p.2 ≠ x) → Cuts f (atB x) n a l
  | [], _, _, _ => trivial
  | q :: l, a, ⟨h1, h2, h3, h4, h5, h6⟩, h => ⟨h1, h2, h3, h4, by have := h q (by simp); simp [atB, this.1, this.2], cuts_at l _ h6 fun p hp => h p (by simp [hp])⟩
theorem always_may {f : Nat → Nat → Int} {n x : Nat} (h : bst f (atB x) n 0 < bst f allB n 0) : MayCut f n x := by
  obtain ⟨l, h1, h2⟩ := cuts_best f allB n 0
  have hm := best_mem l 0 .zero h1 h2
  apply Classical.byContradiction
  intro hn
  have := cuts_le l 0 (cuts_at (x := x) l 0 h1 fun p hp => by
    obtain ⟨a, b, c, d, e⟩ := hm p hp
    exact ⟨fun e1 => hn ⟨p.1, p.2, a, b, c, d, e, .inl e1⟩, fun e1 => hn ⟨p.1, p.2, a, b, c, d, e, .inr e1⟩⟩)
  omega
/-- As the definition asks for it. -/
def cutsB (f : Nat → Nat → Int) (n x : Nat) : Bool := (List.range (n + 1)).any fun i => (List.range' (i + 1) (n - i)).any fun j => decide (0 < f i j) && (i == x || j == x) && decide (bst f allB i 0 + f i j + bst f allB n j = bst f allB n 0)
theorem cutsB_iff {f : Nat → Nat → Int} {n x : Nat} : cutsB f n x = true ↔ MayCut f n x := by
  simp only [cutsB, List.any_eq_true, List.mem_range, List.mem_range'_1, Bool.and_eq_true, decide_eq_true_eq, Bool.or_eq_true, beq_iff_eq]
  constructor
  · rintro ⟨i, hi, j, ⟨h1, h2⟩, ⟨h3, h4⟩, h5⟩
    have e1 := bst_split_le (f := f) (lt := allB) (lt' := allB) (n := n) (a := i) (by omega) (fun _ _ _ _ _ => rfl) 0 (by omega)
    have e3 := bst_log (f := f) (lt := allB) (n := n) (show i < j by omega) (by omega) h3 rfl
    exact ⟨i, j, (rch_iff (by omega)).2 (by omega), by omega, by omega, h3, by omega, h4⟩
  · rintro ⟨i, j, h1, h2, h3, h4, h5, h6⟩
    have := rch_pre h1
    exact ⟨i, by omega, j, ⟨by omega, by omega⟩, ⟨h4, h6⟩, by omega⟩

/-- The parts that begin at a place: where each ends, and what it scales. -/
def partsL (f : Nat → Nat → Int) (n i : Nat) : List (Nat × Int) := if i < n then (i + 1, 0) :: (logsT f allB n i).map fun j => (j, f i j) else []
theorem mem_partsL {f : Nat → Nat → Int} {n i : Nat} {p : Nat × Int} : p ∈ partsL f n i ↔ i < n ∧ p = (i + 1, 0) ∨ i < p.1 ∧ p.1 ≤ n ∧ 0 < p.2 ∧ p.2 = f i p.1 := by
  unfold partsL
  split
  · rename_i h
    simp only [List.mem_cons, List.mem_map, mem_logsT]
    constructor
    · rintro (rfl | ⟨j, ⟨a, b, c, d⟩, rfl⟩)
      · exact .inl ⟨h, rfl⟩
      · exact .inr ⟨a, b, c, rfl⟩
    · rintro (⟨_, rfl⟩ | ⟨a, b, c, d⟩)
      · exact .inl rfl
      · exact .inr ⟨p.1, ⟨a, b, by omega, rfl⟩, by rw [← d]⟩
  · rename_i h
    simp; omega
/-- A part of best cuttings. -/
def bestB (f : Nat → Nat → Int) (n i : Nat) (p : Nat × Int) : Bool := decide (p.2 + bst f allB n p.1 = bst f allB n i)
/-- What is known of the spots: whether a log begins (false) or ends (true) there, and a cutting up to there. -/
abbrev Kn := Nat → Bool → Option (Bool × List (Nat × Nat))
def addK (K : Kn) (i : Nat) (e : Bool) (l : Bool) (c : List (Nat × Nat)) : Kn := fun i' e' => if i' = i ∧ e' = e then (match K i e with | some k => some (k.1 || l, k.2) | none => some (l, c)) else K i' e'
def noteK (K : Kn) (i : Nat) (p : Nat × Int) (c : List (Nat × Nat)) : Kn :=
  addK (addK K i false (!decide (p.2 = 0)) c) p.1 true (!decide (p.2 = 0)) (if p.2 = 0 then c else c ++ [(i, p.1)])
def placeK (f : Nat → Nat → Int) (n : Nat) (K : Kn) (i : Nat) (ps : List (Nat × Int)) (c : List (Nat × Nat)) : Kn := (ps.filter (bestB f n i)).foldl (fun K p => noteK K i p c) K
def stepK (f : Nat → Nat → Int) (n : Nat) (K : Kn) (i : Nat) : Kn := match K i true with
  | none => K
  | some k => placeK f n K i (partsL f n i) k.2
def K0 : Kn := fun i e => if i = 0 ∧ e = true then some (false, []) else none
def walkK (f : Nat → Nat → Int) (n m : Nat) : Kn := (List.range m).foldl (stepK f n) K0
def flK (K : Kn) (i : Nat) (e : Bool) : Bool := match K i e with | some k => k.1 | none => false
theorem addK_same (K : Kn) (i : Nat) (e l : Bool) (c : List (Nat × Nat)) : ∃ c', addK K i e l c i e = some (flK K i e || l, c') ∧ ((∃ l', K i e = some (l', c')) ∨ K i e = none ∧ c' = c) := by
  unfold addK flK
  rw [if_pos ⟨rfl, rfl⟩]
  cases h : K i e with
  | none => exact ⟨c, by simp, .inr ⟨rfl, rfl⟩⟩
  | some k => exact ⟨k.2, rfl, .inl ⟨k.1, rfl⟩⟩
theorem addK_other {K : Kn} {i : Nat} {e l : Bool} {c : List (Nat × Nat)} {i' : Nat} {e' : Bool} (h : ¬ (i' = i ∧ e' = e)) : addK K i e l c i' e' = K i' e' := by
  unfold addK; rw [if_neg h]
/-- What holds of the spots once some parts have been noted. -/
structure KOk (f : Nat → Nat → Int) (n : Nat) (E : Nat → Nat → Int → Prop) (K : Kn) : Prop where
  cut : ∀ j l c, K j true = some (l, c) → Rch f n j ∧ Cuts f allB j 0 c ∧ sumF f c + bst f allB n j = bst f allB n 0
  zero : (K 0 true).isSome
  has : ∀ i j x, E i j x → (K j true).isSome
  ends : ∀ j, flK K j true = true ↔ ∃ i x, E i j x ∧ x ≠ 0
  begins : ∀ i, flK K i false = true ↔ ∃ j x, E i j x ∧ x ≠ 0
theorem KOk.start (f : Nat → Nat → Int) (n : Nat) : KOk f n (fun _ _ _ => False) K0 where
  cut := fun j l c h => by
    unfold K0 at h
    split at h
    · rename_i h1
      obtain ⟨rfl, -⟩ := h1
      cases h
      exact ⟨.zero, trivial, by simp [sumF]⟩
    · cases h
  zero := rfl
  has := fun _ _ _ h => h.elim
  ends := fun j => by unfold flK K0; by_cases h : j = 0 <;> simp [h]
  begins := fun j => by unfold flK K0; split <;> simp_all
theorem KOk.note {f : Nat → Nat → Int} {n : Nat} {E : Nat → Nat → Int → Prop} {K : Kn} (h : KOk f n E K) {i : Nat} {p : Nat × Int} (hp : p ∈ partsL f n i) (hb : bestB f n i p = true) {l0 : Bool} {c : List (Nat × Nat)} (hc : Rch f n i ∧ Cuts f allB i 0 c ∧ sumF f c + bst f allB n i = bst f allB n 0) :
    KOk f n (fun a b x => E a b x ∨ a = i ∧ b = p.1 ∧ x = p.2) (noteK K i p c) := by
  obtain ⟨j, x⟩ := p
  have hbe : x + bst f allB n j = bst f allB n i := of_decide_eq_true hb
  obtain ⟨hr, hcu, hsu⟩ := hc
  have hij : i < j ∧ j ≤ n ∧ (x = 0 ∧ j = i + 1 ∨ 0 < x ∧ x = f i j) := by
    rcases mem_partsL.1 hp with ⟨h1, h2⟩ | ⟨h1, h2, h3, h4⟩
    · cases h2; exact ⟨by omega, by omega, .inl ⟨rfl, rfl⟩⟩
    · exact ⟨h1, h2, .inr ⟨h3, h4⟩⟩
  obtain ⟨hij, hjn, hx⟩ := hij
  have hnew : Rch f n j ∧ Cuts f allB j 0 (if x = 0 then c else c ++ [(i, j)]) ∧ sumF f (if x = 0 then c else c ++ [(i, j)]) + bst f allB n j = bst f allB n 0 := by
    rcases hx with ⟨rfl, rfl⟩ | ⟨h1, rfl⟩
    · rw [if_pos rfl]
      exact ⟨.waste hr (by omega) (by omega), cuts_more (by omega) hcu, by omega⟩
    · rw [if_neg (by omega)]
      exact ⟨.log hr hij hjn h1 hbe, cuts_snoc hij h1 rfl (Nat.le_refl _) c 0 (by omega) hcu, by rw [sumF_append]; simp [sumF] at *; omega⟩
  have hx0 : (!decide (x = 0)) = true ↔ x ≠ 0 := by simp
  unfold noteK
  dsimp only
  generalize (!decide (x = 0)) = lb at hx0
  generalize (if x = 0 then c else c ++ [(i, j)]) = c2 at hnew
  have hA : ∀ j' , addK K i false lb c j' true = K j' true := fun j' => addK_other (by simp)
  have hmain : ∀ j', ¬ j' = j → addK (addK K i false lb c) j true lb c2 j' true = K j' true := fun j' hne => by rw [addK_other (by simp [hne]), hA]
  obtain ⟨c', hs1, hs2⟩ := addK_same (addK K i false lb c) j true lb c2
  have hfl : flK (addK K i false lb c) j true = flK K j true := by unfold flK; rw [hA]
  rw [hfl] at hs1
  rw [hA] at hs2
  constructor
  · intro j' l c'' hk
    by_cases hj' : j' = j
    · subst hj'
      rw [hs1] at hk
      cases hk
      rcases hs2 with ⟨l', h1⟩ | ⟨_, rfl⟩
      · exact h.cut _ _ _ h1
      · exact hnew
    · rw [hmain _ hj'] at hk
      exact h.cut _ _ _ hk
  · by_cases hj' : 0 = j
    · omega
    · rw [hmain _ hj']; exact h.zero
  · rintro a b y (he | ⟨rfl, rfl, rfl⟩)
    · by_cases hj' : b = j
      · subst hj'; rw [hs1]; rfl
      · rw [hmain _ hj']; exact h.has _ _ _ he
    · rw [hs1]; rfl
  · intro j'
    by_cases hj' : j' = j
    · subst hj'
      have e : flK (addK (addK K i false lb c) j' true lb c2) j' true = (flK K j' true || lb) := by unfold flK; rw [hs1]; rfl
      rw [e, Bool.or_eq_true, h.ends, hx0]
      constructor
      · rintro (⟨a, y, h1, h2⟩ | h1)
        · exact ⟨a, y, .inl h1, h2⟩
        · exact ⟨i, x, .inr ⟨rfl, rfl, rfl⟩, h1⟩
      · rintro ⟨a, y, (h1 | ⟨rfl, _, rfl⟩), h2⟩
        · exact .inl ⟨a, y, h1, h2⟩
        · exact .inr h2
    · have e : flK (addK (addK K i false lb c) j true lb c2) j' true = flK K j' true := by unfold flK; rw [hmain _ hj']
      rw [e, h.ends]
      constructor
      · rintro ⟨a, y, h1, h2⟩; exact ⟨a, y, .inl h1, h2⟩
      · rintro ⟨a, y, (h1 | ⟨_, h3, _⟩), h2⟩
        · exact ⟨a, y, h1, h2⟩
        · exact absurd h3 hj'
  · intro i'
    have e0 : addK (addK K i false lb c) j true lb c2 i' false = addK K i false lb c i' false := addK_other (by simp)
    have e1 : flK (addK (addK K i false lb c) j true lb c2) i' false = flK (addK K i false lb c) i' false := by unfold flK; rw [e0]
    rw [e1]
    by_cases hi' : i' = i
    · subst hi'
      obtain ⟨c'', hs3, _⟩ := addK_same K i' false lb c
      have e : flK (addK K i' false lb c) i' false = (flK K i' false || lb) := by unfold flK; rw [hs3]; rfl
      rw [e, Bool.or_eq_true, h.begins, hx0]
      constructor
      · rintro (⟨a, y, h1, h2⟩ | h1)
        · exact ⟨a, y, .inl h1, h2⟩
        · exact ⟨j, x, .inr ⟨rfl, rfl, rfl⟩, h1⟩
      · rintro ⟨a, y, (h1 | ⟨_, rfl, rfl⟩), h2⟩
        · exact .inl ⟨a, y, h1, h2⟩
        · exact .inr h2
    · have e : flK (addK K i false lb c) i' false = flK K i' false := by unfold flK; rw [addK_other (by simp [hi'])]
      rw [e, h.begins]
      constructor
      · rintro ⟨a, y, h1, h2⟩; exact ⟨a, y, .inl h1, h2⟩
      · rintro ⟨a, y, (h1 | ⟨h3, _, _⟩), h2⟩
        · exact ⟨a, y, h1, h2⟩
        · exact absurd h3 hi'
theorem KOk.congr {f : Nat → Nat → Int} {n : Nat} {E E' : Nat → Nat → Int → Prop} {K : Kn} (h : KOk f n E K) (he : ∀ a b x, E a b x ↔ E' a b x) : KOk f n E' K := by
  have : E = E' := by funext a b x; exact propext (he a b x)
  rwa [← this]
theorem KOk.place {f : Nat → Nat → Int} {n i : Nat} {c : List (Nat × Nat)} (hc : Rch f n i ∧ Cuts f allB i 0 c ∧ sumF f c + bst f allB n i = bst f allB n 0) : ∀ (ps : List (Nat × Int)) {E : Nat → Nat → Int → Prop} {K : Kn}, (∀ p ∈ ps, p ∈ partsL f n i) → KOk f n E K →
    KOk f n (fun a b x => E a b x ∨ a = i ∧ (b, x) ∈ ps ∧ bestB f n i (b, x) = true) (placeK f n K i ps c)
  | [], E, K, _, h => by
    show KOk f n _ K
    exact h.congr fun a b x => by simp
  | p :: ps, E, K, hps, h => by
    unfold placeK
    rw [List.filter_cons]
    by_cases hb : bestB f n i p = true
    · rw [if_pos hb, List.foldl_cons]
      have h1 := h.note (l0 := true) (hps p (by simp)) hb hc
      have h2 := KOk.place hc ps (fun q hq => hps q (by simp [hq])) h1
      refine h2.congr fun a b x => ?_
      constructor
      · rintro ((h3 | ⟨rfl, rfl, rfl⟩) | ⟨rfl, h3, h4⟩)
        · exact .inl h3
        · exact .inr ⟨rfl, by simp, hb⟩
        · exact .inr ⟨rfl, by simp [h3], h4⟩
      · rintro (h3 | ⟨rfl, h3, h4⟩)
        · exact .inl (.inl h3)
        · rcases List.mem_cons.1 h3 with h5 | h5
          · exact .inl (.inr ⟨rfl, by rw [← h5], by rw [← h5]⟩)
          · exact .inr ⟨rfl, h5, h4⟩
    · rw [if_neg hb]
      have h2 := KOk.place hc ps (fun q hq => hps q (by simp [hq])) h
      refine h2.congr fun a b x => ?_
      constructor
      · rintro (h3 | ⟨rfl, h3, h4⟩)
        · exact .inl h3
        · exact .inr ⟨rfl, by simp [h3], h4⟩
      · rintro (h3 | ⟨rfl, h3, h4⟩)
        · exact .inl h3
        · rcases List.mem_cons.1 h3 with h5 | h5
          · rw [h5] at h4; exact absurd h4 hb
          · exact .inr ⟨rfl, h5, h4⟩
/-- The parts of best cuttings that begin before a place. -/
def EB (f : Nat → Nat → Int) (n m : Nat) (a b : Nat) (x : Int) : Prop := a < m ∧ Rch f n a ∧ (b, x) ∈ partsL f n a ∧ bestB f n a (b, x) = true
theorem rch_pred {f : Nat → Nat → Int} {n j : Nat} (h : Rch f n j) (h0 : j ≠ 0) : ∃ i x, i < j ∧ EB f n (i + 1) i j x := by
  cases h with
  | zero => exact absurd rfl h0
  | @waste i hi hn he => exact ⟨i, 0, by omega, by omega, hi, mem_partsL.2 (.inl ⟨hn, rfl⟩), decide_eq_true (by dsimp only; omega)⟩
  | @log i _ hi hij hn hf he => exact ⟨i, f i j, hij, by omega, hi, mem_partsL.2 (.inr ⟨hij, hn, hf, rfl⟩), decide_eq_true he⟩
theorem walk_ok (f : Nat → Nat → Int) (n : Nat) : ∀ m, KOk f n (EB f n m) (walkK f n m)
  | 0 => (KOk.start f n).congr fun a b x => by simp [EB]
  | m + 1 => by
    have ih := walk_ok f n m
    have e : walkK f n (m + 1) = stepK f n (walkK f n m) m := by unfold walkK; rw [List.range_succ, List.foldl_append]; rfl
    rw [e]
    unfold stepK
    cases hk : walkK f n m m true with
    | none =>
      refine ih.congr fun a b x => ?_
      constructor
      · rintro ⟨h1, h2⟩; exact ⟨by omega, h2⟩
      · rintro ⟨h1, h2, h3, h4⟩
        refine ⟨?_, h2, h3, h4⟩
        rcases Nat.lt_succ_iff_lt_or_eq.1 h1 with h5 | rfl
        · exact h5
        · by_cases h0 : a = 0
          · subst h0; have := ih.zero; rw [hk] at this; cases this
          · obtain ⟨i, y, h6, h7⟩ := rch_pred h2 h0
            have := ih.has i a y ⟨h6, h7.2⟩
            rw [hk] at this; cases this
    | some k =>
      obtain ⟨l, c⟩ := k
      have hc := ih.cut m l c hk
      refine (KOk.place hc (partsL f n m) (fun _ h => h) ih).congr fun a b x => ?_
      constructor
      · rintro (⟨h1, h2⟩ | ⟨rfl, h3, h4⟩)
        · exact ⟨by omega, h2⟩
        · exact ⟨by omega, hc.1, h3, h4⟩
      · rintro ⟨h1, h2, h3, h4⟩
        rcases Nat.lt_succ_iff_lt_or_eq.1 h1 with h5 | rfl
        · exact .inl ⟨h5, h2, h3, h4⟩
        · exact .inr ⟨rfl, h3, h4⟩
theorem rch_last {f : Nat → Nat → Int} {n : Nat} : Rch f n n := (rch_iff (Nat.le_refl _)).2 (by rw [bst_past (f := f) (lt := allB) (Nat.le_refl n)]; omega)
/-- The cutting that the walk finds is a best one. -/
theorem walk_cut (f : Nat → Nat → Int) (n : Nat) : ∃ l c, walkK f n (n + 1) n true = some (l, c) ∧ Cuts f allB n 0 c ∧ sumF f c = bst f allB n 0 := by
  have h := walk_ok f n (n + 1)
  have hs : (walkK f n (n + 1) n true).isSome := by
    by_cases h0 : n = 0
    · subst h0; exact h.zero
    · obtain ⟨i, y, h6, h7⟩ := rch_pred (rch_last (f := f) (n := n)) h0
      exact h.has i n y ⟨by omega, h7.2⟩
  obtain ⟨⟨l, c⟩, hk⟩ := Option.isSome_iff_exists.1 hs
  obtain ⟨-, h2, h3⟩ := h.cut _ _ _ hk
  rw [bst_past (f := f) (lt := allB) (Nat.le_refl n)] at h3
  exact ⟨l, c, hk, h2, by omega⟩
theorem walk_may (f : Nat → Nat → Int) (n x : Nat) : (flK (walkK f n (n + 1)) x false || flK (walkK f n (n + 1)) x true) = cutsB f n x := by
  have h := walk_ok f n (n + 1)
  rw [Bool.eq_iff_iff, Bool.or_eq_true, h.begins, h.ends, cutsB_iff]
  have key : ∀ i j y, EB f n (n + 1) i j y ∧ y ≠ 0 ↔ Rch f n i ∧ i < j ∧ j ≤ n ∧ 0 < f i j ∧ f i j + bst f allB n j = bst f allB n i ∧ y = f i j := by
    intro i j y
    constructor
    · rintro ⟨⟨h1, h2, h3, h4⟩, h5⟩
      rcases mem_partsL.1 h3 with ⟨_, h6⟩ | ⟨h6, h7, h8, h9⟩
      · cases h6; exact absurd rfl h5
      · dsimp only at *; subst h9; exact ⟨h2, h6, h7, h8, of_decide_eq_true h4, rfl⟩
    · rintro ⟨h1, h2, h3, h4, h5, rfl⟩
      exact ⟨⟨by omega, h1, mem_partsL.2 (.inr ⟨h2, h3, h4, rfl⟩), decide_eq_true h5⟩, by omega⟩
  unfold MayCut
  constructor
  · rintro (⟨j, y, h1⟩ | ⟨i, y, h1⟩)
    · obtain ⟨a, b, c, d, e, _⟩ := (key _ _ _).1 h1; exact ⟨x, j, a, b, c, d, e, .inl rfl⟩
    · obtain ⟨a, b, c, d, e, _⟩ := (key _ _ _).1 h1; exact ⟨i, x, a, b, c, d, e, .inr rfl⟩
  · rintro ⟨i, j, a, b, c, d, e, (rfl | rfl)⟩
    · exact .inl ⟨j, f i j, (key _ _ _).2 ⟨a, b, c, d, e, rfl⟩⟩
    · exact .inr ⟨i, f i j, (key _ _ _).2 ⟨a, b, c, d, e, rfl⟩⟩
/-- How often a place is cut. -/
def kindV (f : Nat → Nat → Int) (n x : Nat) : Int := if cutsB f n x = false then 0 else if bst f (atB x) n 0 < bst f allB n 0 then 2 else 1
theorem kind_ref {M : Int} (hM : 0 < M) (f : Nat → Nat → Int) (n x : Nat) : (if cntV M f (atB x) n 0 = 0 then 2 else if cutsB f n x = true then 1 else 0) = kindV f n x := by
  obtain ⟨h1, h2, h3⟩ := cntV_bd hM (f := f) (lt := atB x) (n := n) 0
  have hm : bst f (atB x) n 0 ≤ bst f allB n 0 := bst_mono (fun _ _ _ _ _ _ => ⟨Int.le_refl _, rfl⟩) 0 (by omega)
  unfold kindV
  by_cases h : cntV M f (atB x) n 0 = 0
  · have h4 : bst f (atB x) n 0 < bst f allB n 0 := by
      rcases Int.lt_or_eq_of_le hm with h5 | h5
      · exact h5
      · have := h3.2 h5; omega
    rw [if_pos h, if_neg (by rw [cutsB_iff.2 (always_may h4)]; simp), if_pos h4]
  · have h5 := h3.1 (by omega)
    rw [if_neg h]
    cases hc : cutsB f n x
    · simp
    · simp; omega
end Go.Proofs.Ytcgheakadfjofaa
