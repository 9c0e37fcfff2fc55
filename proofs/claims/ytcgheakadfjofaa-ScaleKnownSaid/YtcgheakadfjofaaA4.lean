/- The greatest of a list as the program finds it; what best cuttings scale by another rule; which prices are right. Plain numbers. -/
import Derived.Test.YtcgheakadfjofaaA3
namespace Go.Proofs.Ytcgheakadfjofaa
set_option linter.unusedVariables false
set_option linter.unusedSimpArgs false

def grS (acc : Option Int) (w : Int) : Option Int := match acc with | none => some w | some m => some (if m < w then w else m)
/-- The greatest of a list, 0 of none. -/
def gr (l : List Int) : Int := (l.foldl grS none).getD 0
theorem grS_some : ∀ (l : List Int) (a : Int), l.foldl grS (some a) = some (l.foldl (fun m x => max m x) a)
  | [], _ => rfl
  | x :: l, a => by
    rw [List.foldl_cons, List.foldl_cons]
    have : grS (some a) x = some (max a x) := by simp only [grS]; congr 1; split <;> omega
    rw [this, grS_some l]
theorem gr_cons (x : Int) (l : List Int) : gr (x :: l) = l.foldl (fun m x => max m x) x := by
  unfold gr; rw [List.foldl_cons, show grS none x = some x from rfl, grS_some]; rfl
theorem gr_snoc (l : List Int) (x : Int) : (l ++ [x]).foldl grS none = grS (l.foldl grS none) x := by simp
theorem gr_ge {l : List Int} {x : Int} (h : x ∈ l) : x ≤ gr l := by
  cases l with
  | nil => cases h
  | cons y l =>
    rw [gr_cons]
    have := foldl_max_ge (fun x : Int => x) l y
    rcases List.mem_cons.1 h with rfl | h
    · exact this.1
    · exact this.2 x h
theorem gr_mem {l : List Int} (h : l ≠ []) : gr l ∈ l := by
  cases l with
  | nil => exact absurd rfl h
  | cons y l =>
    rw [gr_cons]
    rcases foldl_max_is (fun x : Int => x) l y with h1 | ⟨x, hx, h1⟩
    · rw [h1]; simp
    · rw [h1]; simp [hx]
/-- A part is let if it is waste, or its log is let. -/
def letP (lt : Nat → Nat → Bool) (i : Nat) (p : Nat × Int) : Bool := decide (p.2 = 0) || lt i p.1
theorem filter_map_comm {α β : Type} (g : α → β) (p : β → Bool) (l : List α) : (l.map g).filter p = (l.filter fun a => p (g a)).map g := by
  induction l with
  | nil => rfl
  | cons a l ih => simp only [List.map_cons, List.filter_cons]; split <;> simp [ih]
theorem foldl_map' {α β γ : Type} (g : α → β) (h : γ → β → γ) : ∀ (l : List α) (a : γ), (l.map g).foldl h a = l.foldl (fun c x => h c (g x)) a
  | [], _ => rfl
  | x :: l, a => by rw [List.map_cons, List.foldl_cons, List.foldl_cons, foldl_map' g h l]
theorem logs_let (f : Nat → Nat → Int) (lt : Nat → Nat → Bool) (n i : Nat) : (logsT f allB n i).filter (fun j => letP lt i (j, f i j)) = logsT f lt n i := by
  unfold logsT
  rw [List.filter_filter]
  apply List.filter_congr
  intro j _
  simp only [letP, allB, Bool.and_true]
  by_cases h : 0 < f i j
  · have : ¬ f i j = 0 := by omega
    simp [h, this]
  · simp [h]
/-- The price of a place, as the program makes it. -/
theorem price_step {f : Nat → Nat → Int} {lt : Nat → Nat → Bool} {n i : Nat} {q : Nat → Int} (hi : i < n) : gr (((partsL f n i).filter (letP lt i)).map fun p => p.2 + q p.1) = (logsT f lt n i).foldl (fun m j => max m (f i j + q j)) (q (i + 1)) := by
  unfold partsL
  rw [if_pos hi, List.filter_cons, if_pos (by simp [letP]), List.map_cons, gr_cons, filter_map_comm, logs_let, List.map_map, foldl_map']
  simp only [Int.zero_add]
  rfl
theorem price_bst {f : Nat → Nat → Int} {lt : Nat → Nat → Bool} {n i : Nat} {q : Nat → Int} (hi : i < n) (hq : ∀ j, i < j → j ≤ n → q j = bst f lt n j) : gr (((partsL f n i).filter (letP lt i)).map fun p => p.2 + q p.1) = bst f lt n i := by
  rw [price_step hi, bst_step hi, hq (i + 1) (by omega) (by omega)]
  exact foldl_congr_mem _ _ fun j hj b => by rw [hq j (mem_logsT.1 hj).1 (mem_logsT.1 hj).2.1]
/-- The prices are right. -/
def RightP (f : Nat → Nat → Int) (n : Nat) (q : Nat → Int) : Prop := (∀ i, i < n → q (i + 1) ≤ q i) ∧ ∀ i j, i < j → j ≤ n → 0 < f i j → f i j + q j ≤ q i
/-- By how much a price is too low. -/
def lackV (f : Nat → Nat → Int) (n : Nat) (q : Nat → Int) (i : Nat) : Int := max 0 (gr ((partsL f n i).map fun p => p.2 + q p.1) - q i)
theorem filter_true {α : Type} (l : List α) (p : α → Bool) (h : ∀ a ∈ l, p a = true) : l.filter p = l := List.filter_eq_self.2 h
theorem right_iff {f : Nat → Nat → Int} {n : Nat} {q : Nat → Int} (h0 : 0 ≤ q n) : RightP f n q ↔ ∀ i, i ≤ n → lackV f n q i = 0 := by
  have hstep : ∀ i, i < n → gr ((partsL f n i).map fun p => p.2 + q p.1) = (logsT f allB n i).foldl (fun m j => max m (f i j + q j)) (q (i + 1)) := fun i hi => by
    rw [← price_step (lt := allB) hi, filter_true _ _ fun p _ => by simp [letP, allB]]
  constructor
  · rintro ⟨h1, h2⟩ i hi
    unfold lackV
    by_cases h : i < n
    · rw [hstep i h]
      rcases foldl_max_is (fun j => f i j + q j) (logsT f allB n i) (q (i + 1)) with e | ⟨j, hj, e⟩
      · rw [e]; have := h1 i h; omega
      · rw [e]; obtain ⟨a, b, c, d⟩ := mem_logsT.1 hj; have := h2 i j a b c; omega
    · have e : i = n := by omega
      subst e
      have : partsL f i i = [] := by unfold partsL; rw [if_neg (by omega)]
      rw [this]
      show max 0 (0 - q i) = 0
      omega
  · intro h
    refine ⟨fun i hi => ?_, fun i j hi hj hf => ?_⟩
    · have h1 := h i (by omega)
      unfold lackV at h1
      rw [hstep i hi] at h1
      have := (foldl_max_ge (fun j => f i j + q j) (logsT f allB n i) (q (i + 1))).1
      omega
    · have h1 := h i (by omega)
      unfold lackV at h1
      rw [hstep i (by omega)] at h1
      have := (foldl_max_ge (fun j => f i j + q j) (logsT f allB n i) (q (i + 1))).2 j (mem_logsT.2 ⟨hi, hj, hf, rfl⟩)
      omega
theorem right_best {f : Nat → Nat → Int} {n : Nat} : RightP f n (bst f allB n) := ⟨fun i hi => bst_waste hi, fun i j a b c => bst_log a b c rfl⟩
theorem right_le {f : Nat → Nat → Int} {n : Nat} {q : Nat → Int} (h : RightP f n q) (h0 : 0 ≤ q n) {i : Nat} (hi : i ≤ n) : bst f allB n i ≤ q i := bst_least h0 h.1 (fun i j a b c _ => h.2 i j a b c) i hi

/-- What a part scales by another rule. -/
def ggV (g : Nat → Nat → Int) (i : Nat) (p : Nat × Int) : Int := if p.2 = 0 then 0 else g i p.1
/-- From the least to the greatest that best cuttings scale by another rule from a place on. -/
def btw (f g : Nat → Nat → Int) (n : Nat) : Nat → Nat → Int × Int
  | 0, _ => (0, 0)
  | k + 1, i => (-(gr (((partsL f n i).filter (bestB f n i)).map fun p => -ggV g i p - (btw f g n k p.1).1)), gr (((partsL f n i).filter (bestB f n i)).map fun p => ggV g i p + (btw f g n k p.1).2))
def btwV (f g : Nat → Nat → Int) (n i : Nat) : Int × Int := btw f g n (n - i) i
theorem partsL_past {f : Nat → Nat → Int} {n i : Nat} (h : n ≤ i) : partsL f n i = [] := by unfold partsL; rw [if_neg (by omega)]
theorem btw_past {f g : Nat → Nat → Int} {n : Nat} : ∀ k i, n ≤ i → btw f g n k i = (0, 0)
  | 0, _, _ => rfl
  | k + 1, i, h => by rw [btw, partsL_past h]; rfl
theorem mem_parts_gt {f : Nat → Nat → Int} {n i : Nat} {p : Nat × Int} (h : p ∈ partsL f n i) : i < p.1 ∧ p.1 ≤ n := by
  rcases mem_partsL.1 h with ⟨h1, rfl⟩ | ⟨h1, h2, _⟩
  · dsimp only; omega
  · exact ⟨h1, h2⟩
theorem btw_one {f g : Nat → Nat → Int} {n : Nat} : ∀ k i, n ≤ i + k → btw f g n (k + 1) i = btw f g n k i := by
  intro k
  induction k with
  | zero => intro i h; rw [btw_past _ _ (by omega), btw_past _ _ (by omega)]
  | succ k ih =>
    intro i h
    have e1 : btw f g n (k + 1 + 1) i = (-(gr (((partsL f n i).filter (bestB f n i)).map fun p => -ggV g i p - (btw f g n (k + 1) p.1).1)), gr (((partsL f n i).filter (bestB f n i)).map fun p => ggV g i p + (btw f g n (k + 1) p.1).2)) := rfl
    have e2 : btw f g n (k + 1) i = (-(gr (((partsL f n i).filter (bestB f n i)).map fun p => -ggV g i p - (btw f g n k p.1).1)), gr (((partsL f n i).filter (bestB f n i)).map fun p => ggV g i p + (btw f g n k p.1).2)) := rfl
    have e3 : ∀ p ∈ (partsL f n i).filter (bestB f n i), btw f g n (k + 1) p.1 = btw f g n k p.1 := fun p hp => ih p.1 (by have := mem_parts_gt (List.mem_filter.1 hp).1; omega)
    rw [e1, e2, List.map_congr_left (g := fun p => -ggV g i p - (btw f g n k p.1).1) fun p hp => by rw [e3 p hp], List.map_congr_left (f := fun p => ggV g i p + (btw f g n (k + 1) p.1).2) (g := fun p => ggV g i p + (btw f g n k p.1).2) fun p hp => by rw [e3 p hp]]
theorem btw_fuel {f g : Nat → Nat → Int} {n k i : Nat} (h : n ≤ i + k) : btw f g n k i = btwV f g n i := by
  have : ∀ d, btw f g n (n - i + d) i = btwV f g n i := by
    intro d
    induction d with
    | zero => rfl
    | succ d ih => rw [← Nat.add_assoc, btw_one _ _ (by omega)]; exact ih
  have h2 := this (k - (n - i))
  rwa [show n - i + (k - (n - i)) = k from by omega] at h2
theorem btwV_past {f g : Nat → Nat → Int} {n i : Nat} (h : n ≤ i) : btwV f g n i = (0, 0) := btw_past _ _ h
theorem btwV_step {f g : Nat → Nat → Int} {n i : Nat} (h : i < n) :
    btwV f g n i = (-(gr (((partsL f n i).filter (bestB f n i)).map fun p => -ggV g i p - (btwV f g n p.1).1)), gr (((partsL f n i).filter (bestB f n i)).map fun p => ggV g i p + (btwV f g n p.1).2)) := by
  obtain ⟨d, hd⟩ : ∃ d, n - i = d + 1 := ⟨n - i - 1, by omega⟩
  have h0 : btwV f g n i = btw f g n (d + 1) i := by unfold btwV; rw [hd]
  have e3 : ∀ p ∈ (partsL f n i).filter (bestB f n i), btw f g n d p.1 = btwV f g n p.1 := fun p hp => btw_fuel (by have := mem_parts_gt (List.mem_filter.1 hp).1; omega)
  rw [h0, btw, List.map_congr_left (g := fun p => -ggV g i p - (btwV f g n p.1).1) fun p hp => by rw [e3 p hp], List.map_congr_left (f := fun p => ggV g i p + (btw f g n d p.1).2) (g := fun p => ggV g i p + (btwV f g n p.1).2) fun p hp => by rw [e3 p hp]]
/-- The parts of best cuttings that begin at a place: there is one. -/
theorem best_some {f : Nat → Nat → Int} {n i : Nat} (h : i < n) : (partsL f n i).filter (bestB f n i) ≠ [] := by
  intro e
  have hn : ∀ p ∈ partsL f n i, ¬ bestB f n i p = true := fun p hp hb => by have := List.mem_filter.2 ⟨hp, hb⟩; rw [e] at this; cases this
  rcases bst_cases (f := f) (lt := allB) h with h1 | ⟨j, a, b, c, _, h1⟩
  · exact hn (i + 1, 0) (mem_partsL.2 (.inl ⟨h, rfl⟩)) (decide_eq_true (by dsimp only; omega))
  · exact hn (j, f i j) (mem_partsL.2 (.inr ⟨a, b, c, rfl⟩)) (decide_eq_true (by dsimp only; omega))
theorem btw_in {f g : Nat → Nat → Int} {n i : Nat} (h : i < n) {p : Nat × Int} (hp : p ∈ partsL f n i) (hb : bestB f n i p = true) :
    (btwV f g n i).1 ≤ ggV g i p + (btwV f g n p.1).1 ∧ ggV g i p + (btwV f g n p.1).2 ≤ (btwV f g n i).2 := by
  have hm := List.mem_filter.2 ⟨hp, hb⟩
  rw [btwV_step h]
  have h1 := gr_ge (List.mem_map.2 ⟨p, hm, rfl⟩ : -ggV g i p - (btwV f g n p.1).1 ∈ ((partsL f n i).filter (bestB f n i)).map fun p => -ggV g i p - (btwV f g n p.1).1)
  have h2 := gr_ge (List.mem_map.2 ⟨p, hm, rfl⟩ : ggV g i p + (btwV f g n p.1).2 ∈ ((partsL f n i).filter (bestB f n i)).map fun p => ggV g i p + (btwV f g n p.1).2)
  dsimp only
  omega
theorem btw_cuts {f g : Nat → Nat → Int} {n : Nat} : ∀ i, i ≤ n → ∀ l, Cuts f allB n i l → sumF f l = bst f allB n i → (btwV f g n i).1 ≤ sumF g l ∧ sumF g l ≤ (btwV f g n i).2 :=
  back_ind (n := n) _ (fun i h hn l hl hs => by
    rw [btwV_past h]
    cases l with
    | nil => simp [sumF]
    | cons p l => obtain ⟨h1, h2, h3, _⟩ := hl; omega) fun i h ih hn l hl hs => by
    have waste : Cuts f allB n (i + 1) l → (btwV f g n i).1 ≤ sumF g l ∧ sumF g l ≤ (btwV f g n i).2 := fun hl1 => by
      have e1 := cuts_le l _ hl1
      have e2 := bst_waste (f := f) (lt := allB) h
      have e3 := btw_in (f := f) (g := g) h (p := (i + 1, 0)) (mem_partsL.2 (.inl ⟨h, rfl⟩)) (decide_eq_true (by dsimp only; omega))
      have e4 := ih (i + 1) (by omega) (by omega) l hl1 (by omega)
      simp only [ggV, if_pos] at e3
      omega
    cases l with
    | nil => exact waste trivial
    | cons p l =>
      obtain ⟨h1, h2, h3, h4, h5, h6⟩ := hl
      by_cases hp : p.1 = i
      · have e1 := cuts_le l _ h6
        have e2 := bst_log (f := f) (lt := allB) (n := n) h2 h3 h4 rfl
        have e5 : sumF f (p :: l) = f p.1 p.2 + sumF f l := by simp [sumF]
        have e6 : sumF g (p :: l) = g p.1 p.2 + sumF g l := by simp [sumF]
        rw [hp] at e2 e5 e6 h4 h2
        have e3 := btw_in (f := f) (g := g) h (p := (p.2, f i p.2)) (mem_partsL.2 (.inr ⟨h2, h3, h4, rfl⟩)) (decide_eq_true (by dsimp only; omega))
        have e4 := ih p.2 h2 h3 l h6 (by omega)
        simp only [ggV, if_neg (show ¬ f i p.2 = 0 by omega)] at e3
        omega
      · exact waste ⟨by omega, h2, h3, h4, h5, h6⟩
/-- Both ends are what some best cutting scales. -/
theorem btw_ends {f g : Nat → Nat → Int} {n : Nat} : ∀ i, i ≤ n → (∃ l, Cuts f allB n i l ∧ sumF f l = bst f allB n i ∧ sumF g l = (btwV f g n i).1) ∧ ∃ l, Cuts f allB n i l ∧ sumF f l = bst f allB n i ∧ sumF g l = (btwV f g n i).2 := by
  have step : ∀ i, i < n → ∀ p ∈ (partsL f n i).filter (bestB f n i), ∀ l, Cuts f allB n p.1 l → sumF f l = bst f allB n p.1 → ∃ l', Cuts f allB n i l' ∧ sumF f l' = bst f allB n i ∧ sumF g l' = ggV g i p + sumF g l := by
    intro i hi p hp l h1 h2
    obtain ⟨hp1, hp2⟩ := List.mem_filter.1 hp
    have hb : p.2 + bst f allB n p.1 = bst f allB n i := of_decide_eq_true hp2
    rcases mem_partsL.1 hp1 with ⟨_, rfl⟩ | ⟨a, b, c, d⟩
    · exact ⟨l, cuts_weak (by omega) h1, by dsimp only at hb h2; omega, by simp [ggV]⟩
    · refine ⟨(i, p.1) :: l, ⟨Nat.le_refl _, a, b, by rw [← d]; exact c, rfl, h1⟩, ?_, ?_⟩
      · simp only [sumF, List.map_cons, List.sum_cons] at h2 ⊢; omega
      · unfold ggV; rw [if_neg (by omega)]; simp [sumF]
  refine back_ind (n := n) _ (fun i h hn => ?_) fun i h ih hn => ?_
  · rw [btwV_past h, bst_past h]; exact ⟨⟨[], trivial, rfl, rfl⟩, ⟨[], trivial, rfl, rfl⟩⟩
  · rw [btwV_step h]
    constructor
    · have := gr_mem (l := ((partsL f n i).filter (bestB f n i)).map fun p => -ggV g i p - (btwV f g n p.1).1) (by simp only [ne_eq, List.map_eq_nil_iff]; exact best_some h)
      obtain ⟨p, hp, e⟩ := List.mem_map.1 this
      have hgt := mem_parts_gt (List.mem_filter.1 hp).1
      obtain ⟨l, h1, h2, h3⟩ := (ih p.1 hgt.1 hgt.2).1
      obtain ⟨l', h4, h5, h6⟩ := step i h p hp l h1 h2
      exact ⟨l', h4, h5, by dsimp only; omega⟩
    · have := gr_mem (l := ((partsL f n i).filter (bestB f n i)).map fun p => ggV g i p + (btwV f g n p.1).2) (by simp only [ne_eq, List.map_eq_nil_iff]; exact best_some h)
      obtain ⟨p, hp, e⟩ := List.mem_map.1 this
      have hgt := mem_parts_gt (List.mem_filter.1 hp).1
      obtain ⟨l, h1, h2, h3⟩ := (ih p.1 hgt.1 hgt.2).2
      obtain ⟨l', h4, h5, h6⟩ := step i h p hp l h1 h2
      exact ⟨l', h4, h5, by dsimp only; omega⟩
theorem sumF_le_bst {g : Nat → Nat → Int} (hg : ∀ i j, 0 ≤ g i j) {f : Nat → Nat → Int} {lt : Nat → Nat → Bool} {n : Nat} : ∀ (l : List (Nat × Nat)) (i : Nat), i ≤ n → Cuts f lt n i l → sumF g l ≤ bst g allB n i
  | [], i, _, _ => bst_nonneg _ _ _ _
  | p :: l, i, hn, ⟨h1, h2, h3, h4, h5, h6⟩ => by
    have a := sumF_le_bst hg l p.2 h3 h6
    have c : bst g allB n p.1 ≤ bst g allB n i := bst_anti h1
    have e6 : sumF g (p :: l) = g p.1 p.2 + sumF g l := by simp [sumF]
    rcases Int.lt_or_le 0 (g p.1 p.2) with h | h
    · have b := bst_log (lt := allB) h2 h3 h rfl; omega
    · have b := bst_anti (f := g) (lt := allB) (n := n) (show p.1 ≤ p.2 by omega); omega
/-- The fold that the definition asks for. -/
def mrg (acc : Option (Int × Int)) (own : Int × Int) : Option (Int × Int) := some (match acc with | none => own | some a => (min a.1 own.1, max a.2 own.2))
theorem mrg_some : ∀ (l : List (Int × Int)) (a : Int × Int), l.foldl mrg (some a) = some (-((l.map fun q => -q.1).foldl (fun m x => max m x) (-a.1)), (l.map fun q => q.2).foldl (fun m x => max m x) a.2)
  | [], a => by simp
  | q :: l, a => by
    rw [List.foldl_cons, show mrg (some a) q = some (min a.1 q.1, max a.2 q.2) from rfl, mrg_some l]
    simp only [List.map_cons, List.foldl_cons]
    rw [show max (-a.1) (-q.1) = -(min a.1 q.1) from by omega]
theorem mrg_gr {l : List (Int × Int)} (h : l ≠ []) : l.foldl mrg none = some (-(gr (l.map fun q => -q.1)), gr (l.map fun q => q.2)) := by
  cases l with
  | nil => exact absurd rfl h
  | cons q l =>
    rw [List.foldl_cons, show mrg none q = some q from rfl, mrg_some, List.map_cons, List.map_cons, gr_cons, gr_cons]
theorem btw_mrg {f g : Nat → Nat → Int} {n i : Nat} (h : i < n) : (((partsL f n i).filter (bestB f n i)).map fun p => (ggV g i p + (btwV f g n p.1).1, ggV g i p + (btwV f g n p.1).2)).foldl mrg none = some (btwV f g n i) := by
  rw [mrg_gr (by simp only [ne_eq, List.map_eq_nil_iff]; exact best_some h), btwV_step h, List.map_map, List.map_map]
  congr 4
  apply List.map_congr_left
  intro p _
  simp only [Function.comp]
  omega
end Go.Proofs.Ytcgheakadfjofaa
