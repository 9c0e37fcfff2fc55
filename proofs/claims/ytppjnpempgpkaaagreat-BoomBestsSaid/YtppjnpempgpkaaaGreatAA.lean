/- Plain mathematics of water, ways and chains. -/
namespace Go.Proofs.YtppjnpempgpkaaaGreat
set_option linter.unusedVariables false
set_option linter.unusedSimpArgs false
/-- A side of a cell: the cell, and at which of its four edges. -/
abbrev Sd := Nat × Nat
def opp (k : Nat) : Nat := (k + 2) % 4
/-- Cells, and what is behind each side. -/
structure Grid where
  n : Nat
  bh : Sd → Option Nat
  back : ∀ c k d, c < n → k < 4 → bh (c, k) = some d → d < n ∧ bh (d, opp k) = some c
  one : ∀ c k k' d, c < n → k < 4 → k' < 4 → bh (c, k) = some d → bh (c, k') = some d → k = k'
  ne : ∀ c k d, c < n → k < 4 → bh (c, k) = some d → d ≠ c
theorem opp_lt {k : Nat} : opp k < 4 := Nat.mod_lt _ (by decide)
theorem opp_opp {k : Nat} (h : k < 4) : opp (opp k) = k := by unfold opp; omega
/-- Whether what is behind is in the water. -/
def inW (w : Nat → Bool) : Option Nat → Bool
  | some d => w d
  | none => false
def lv (G : Grid) (w : Nat → Bool) (s : Sd) : Bool := w s.1 && !inW w (G.bh s)
def sidesOf (c : Nat) : List Sd := [(c, 0), (c, 1), (c, 2), (c, 3)]
def allS (n : Nat) : List Sd := (List.range n).flatMap sidesOf
theorem mem_allS {n : Nat} {s : Sd} : s ∈ allS n ↔ s.1 < n ∧ s.2 < 4 := by
  obtain ⟨c, k⟩ := s
  unfold allS sidesOf
  rw [List.mem_flatMap]
  constructor
  · rintro ⟨a, ha, h⟩
    have ha := List.mem_range.1 ha
    simp only [List.mem_cons, Prod.mk.injEq, List.not_mem_nil, or_false] at h
    dsimp only
    omega
  · rintro ⟨h1, h2⟩
    refine ⟨c, List.mem_range.2 h1, ?_⟩
    dsimp only at h2
    simp only [List.mem_cons, Prod.mk.injEq, List.not_mem_nil, or_false, true_and]
    omega
theorem len_le {α : Type} [DecidableEq α] : ∀ {l₁ l₂ : List α}, l₁.Nodup → (∀ x ∈ l₁, x ∈ l₂) → l₁.length ≤ l₂.length
  | [], _, _, _ => Nat.zero_le _
  | a :: l₁, l₂, h, hs => by
    rw [List.nodup_cons] at h
    have ha := hs a (by simp)
    have h1 := len_le (l₁ := l₁) (l₂ := l₂.erase a) h.2 fun x hx => (List.mem_erase_of_ne (fun e => h.1 (by rw [← e]; exact hx))).2 (hs x (by simp [hx]))
    have h2 := List.length_erase_of_mem ha
    have h3 := List.length_pos_of_mem ha
    rw [List.length_cons]
    omega
theorem len_back {α : Type} [DecidableEq α] {l₁ l₂ : List α} (h : l₁.Nodup) (hs : ∀ x ∈ l₁, x ∈ l₂) (hl : l₂.length ≤ l₁.length) : ∀ x ∈ l₂, x ∈ l₁ := fun x hx => by
  apply Decidable.byContradiction
  intro hn
  have := len_le (l₁ := x :: l₁) (l₂ := l₂) (List.nodup_cons.2 ⟨hn, h⟩) fun y hy => by
    rcases List.mem_cons.1 hy with rfl | hy
    · exact hx
    · exact hs y hy
  rw [List.length_cons] at this
  omega
theorem nd_of_map {α β : Type} (f : α → β) {l : List α} (h : (l.map f).Nodup) : l.Nodup := (List.pairwise_map.1 h).imp fun h e => h (congrArg f e)
theorem nd_map_on {α β : Type} {f : α → β} : ∀ {l : List α}, (∀ a ∈ l, ∀ b ∈ l, f a = f b → a = b) → l.Nodup → (l.map f).Nodup
  | [], _, _ => List.nodup_nil
  | a :: l, hi, h => by
    rw [List.nodup_cons] at h
    rw [List.map_cons, List.nodup_cons]
    refine ⟨fun hm => ?_, nd_map_on (fun x hx y hy => hi x (by simp [hx]) y (by simp [hy])) h.2⟩
    obtain ⟨b, hb, e⟩ := List.mem_map.1 hm
    have := hi b (by simp [hb]) a (by simp) e
    subst this
    exact h.1 hb
theorem nodup_flat {α β : Type} {f : α → List β} : ∀ {l : List α}, l.Nodup → (∀ a ∈ l, (f a).Nodup) → (∀ a ∈ l, ∀ b ∈ l, a ≠ b → ∀ x ∈ f a, x ∉ f b) → (l.flatMap f).Nodup
  | [], _, _, _ => List.nodup_nil
  | a :: l, h, h1, h2 => by
    rw [List.nodup_cons] at h
    rw [List.flatMap_cons, List.nodup_append]
    refine ⟨h1 a (by simp), nodup_flat h.2 (fun b hb => h1 b (by simp [hb])) (fun b hb c hc => h2 b (by simp [hb]) c (by simp [hc])), fun x hx y hy e => ?_⟩
    subst e
    obtain ⟨b, hb, hx2⟩ := List.mem_flatMap.1 hy
    exact h2 a (by simp) b (by simp [hb]) (fun e => h.1 (by rw [e]; exact hb)) x hx hx2
theorem allS_nodup (n : Nat) : (allS n).Nodup := by
  refine nodup_flat List.nodup_range (fun a _ => ?_) (fun a _ b _ hab x hx hx2 => ?_)
  · unfold sidesOf
    simp [List.nodup_cons]
  · unfold sidesOf at hx hx2
    simp only [List.mem_cons, List.not_mem_nil, or_false] at hx hx2
    have h1 : x.1 = a := by rcases hx with rfl | rfl | rfl | rfl <;> rfl
    have h2 : x.1 = b := by rcases hx2 with rfl | rfl | rfl | rfl <;> rfl
    exact hab (h1.symm.trans h2)
/-- How many sticks water has. -/
def stk (G : Grid) (w : Nat → Bool) : Nat := (allS G.n).countP (lv G w)
theorem countP_le_of {α : Type} (p q : α → Bool) : ∀ l : List α, (∀ x ∈ l, p x = true → q x = true) → l.countP p ≤ l.countP q
  | [], _ => Nat.le_refl _
  | a :: l, h => by
    have ih := countP_le_of p q l (fun x hx => h x (by simp [hx]))
    rw [List.countP_cons, List.countP_cons]
    have := h a (by simp)
    cases hp : p a <;> cases hq : q a <;> simp_all <;> omega
theorem countP_add {α : Type} (p q r t : α → Bool) : ∀ l : List α, (∀ x ∈ l, (p x).toNat + (q x).toNat ≤ (r x).toNat + (t x).toNat) → l.countP p + l.countP q ≤ l.countP r + l.countP t
  | [], _ => Nat.le_refl _
  | a :: l, h => by
    have ih := countP_add p q r t l (fun x hx => h x (by simp [hx]))
    have := h a (by simp)
    rw [List.countP_cons, List.countP_cons, List.countP_cons, List.countP_cons]
    cases hp : p a <;> cases hq : q a <;> cases hr : r a <;> cases ht : t a <;> simp_all <;> omega
/-- What is in both, and what is in one of two waters, have together no more sticks. -/
theorem stk_sub (G : Grid) (u v : Nat → Bool) : stk G (fun x => u x && v x) + stk G (fun x => u x || v x) ≤ stk G u + stk G v := by
  refine countP_add _ _ _ _ _ fun s _ => ?_
  unfold lv
  cases hb : G.bh s with
  | none =>
    simp only [inW]
    generalize u s.1 = a
    generalize v s.1 = b
    cases a <;> cases b <;> decide
  | some d =>
    simp only [inW]
    generalize u s.1 = a
    generalize v s.1 = b
    generalize u d = a'
    generalize v d = b'
    cases a <;> cases b <;> cases a' <;> cases b' <;> decide
theorem stk_congr (G : Grid) {u v : Nat → Bool} (h : ∀ x, x < G.n → u x = v x) : stk G u = stk G v := by
  unfold stk
  refine List.countP_congr fun s hs => ?_
  obtain ⟨h1, h2⟩ := mem_allS.1 hs
  unfold lv
  rw [h s.1 h1]
  cases hb : G.bh s with
  | none => simp [inW]
  | some d => simp [inW, h d (G.back s.1 s.2 d h1 h2 hb).1]
/-- The value behind a side; 0 beyond. -/
def fo (f : Nat → Int) : Option Nat → Int
  | some d => f d
  | none => 0
def dif (G : Grid) (f : Nat → Int) (F : List Sd) : Int := (F.map fun s => f s.1 - fo f (G.bh s)).sum
def wsum (n : Nat) (b f : Nat → Int) : Int := ((List.range n).map fun x => b x * f x).sum
/-- Sides over which ways go: from cells that are wanted to those that are kept out, or beyond. b: how many ways begin at a cell, less those that end there. -/
structure Fl (G : Grid) (want keep : Nat → Bool) (F : List Sd) (b : Nat → Int) : Prop where
  nd : F.Nodup
  ok : ∀ s ∈ F, s.1 < G.n ∧ s.2 < 4
  anti : ∀ s ∈ F, ∀ d, G.bh s = some d → (d, opp s.2) ∉ F
  bal : ∀ f : Nat → Int, dif G f F = wsum G.n b f
  free : ∀ x, want x = false → keep x = false → b x = 0
  into : ∀ s ∈ F, ∀ d, G.bh s = some d → want d = false
  out : ∀ s ∈ F, keep s.1 = false
def bi (b : Bool) : Int := if b then 1 else 0
/-- How many ways there are. -/
def val (n : Nat) (want : Nat → Bool) (b : Nat → Int) : Int := wsum n b fun x => bi (want x)
/-- Water encloses what is wanted, and leaves out what is kept out. -/
def Enc (n : Nat) (want keep w : Nat → Bool) : Prop := ∀ x, x < n → (want x = true → w x = true) ∧ (keep x = true → w x = false)
theorem wsum_congr {n : Nat} {b f g : Nat → Int} (h : ∀ x, x < n → b x * f x = b x * g x) : wsum n b f = wsum n b g := by
  unfold wsum
  congr 1
  exact List.map_congr_left fun x hx => h x (List.mem_range.1 hx)
theorem fo_bi (w : Nat → Bool) (o : Option Nat) : fo (fun x => bi (w x)) o = bi (inW w o) := by cases o <;> rfl
/-- The sides of a list that leave water. -/
theorem dif_bi (G : Grid) (w : Nat → Bool) (F : List Sd) : dif G (fun x => bi (w x)) F = (F.countP (lv G w) : Int) - (F.countP fun s => !w s.1 && inW w (G.bh s)) := by
  unfold dif
  induction F with
  | nil => rfl
  | cons s F ih =>
    rw [List.map_cons, List.sum_cons, ih, List.countP_cons, List.countP_cons, fo_bi]
    unfold lv
    dsimp only
    generalize w s.1 = a
    generalize inW w (G.bh s) = b
    cases a <;> cases b <;> simp [bi] <;> omega
theorem Fl.val_eq {G : Grid} {want keep : Nat → Bool} {F : List Sd} {b : Nat → Int} (h : Fl G want keep F b) {w : Nat → Bool} (hw : Enc G.n want keep w) : val G.n want b = (F.countP (lv G w) : Int) - (F.countP fun s => !w s.1 && inW w (G.bh s)) := by
  rw [← dif_bi, h.bal]
  unfold val
  refine wsum_congr fun x hx => ?_
  obtain ⟨h1, h2⟩ := hw x hx
  cases hwx : want x with
  | true => rw [h1 hwx]
  | false =>
    cases hk : keep x with
    | true => rw [h2 hk]
    | false => rw [h.free x hwx hk]; simp
theorem countP_sub {α : Type} [DecidableEq α] (p : α → Bool) : ∀ {F L : List α}, F.Nodup → (∀ x ∈ F, x ∈ L) → F.countP p ≤ L.countP p := by
  intro F L hF hs
  rw [List.countP_eq_length_filter, List.countP_eq_length_filter]
  exact len_le (hF.filter _) fun x hx => by
    obtain ⟨h1, h2⟩ := List.mem_filter.1 hx
    exact List.mem_filter.2 ⟨hs x h1, h2⟩
/-- No water that encloses has fewer sticks than there are ways. -/
theorem Fl.le {G : Grid} {want keep : Nat → Bool} {F : List Sd} {b : Nat → Int} (h : Fl G want keep F b) {w : Nat → Bool} (hw : Enc G.n want keep w) : val G.n want b ≤ stk G w := by
  rw [h.val_eq hw]
  have := countP_sub (lv G w) h.nd (fun s hs => mem_allS.2 (h.ok s hs))
  unfold stk
  omega
/-- If nothing more can leave the water, it is best. -/
theorem Fl.tight {G : Grid} {want keep : Nat → Bool} {F : List Sd} {b : Nat → Int} (h : Fl G want keep F b) {w : Nat → Bool} (hw : Enc G.n want keep w) (h1 : ∀ s, s.1 < G.n → s.2 < 4 → lv G w s = true → s ∈ F) (h2 : ∀ s ∈ F, w s.1 = false → inW w (G.bh s) = false) : val G.n want b = stk G w := by
  rw [h.val_eq hw]
  have e1 : (F.countP fun s => !w s.1 && inW w (G.bh s)) = 0 := by
    rw [List.countP_eq_zero]
    intro s hs
    cases hw1 : w s.1 with
    | true => simp
    | false => simp [h2 s hs hw1]
  have e2 : stk G w ≤ F.countP (lv G w) := by
    unfold stk
    rw [List.countP_eq_length_filter, List.countP_eq_length_filter]
    exact len_le ((allS_nodup G.n).filter _) fun s hs => by
      obtain ⟨q1, q2⟩ := List.mem_filter.1 hs
      obtain ⟨q3, q4⟩ := mem_allS.1 q1
      exact List.mem_filter.2 ⟨h1 s q3 q4 q2, q2⟩
  have e3 := countP_sub (lv G w) h.nd (fun s hs => mem_allS.2 (h.ok s hs))
  unfold stk at *
  omega
/-- What is best lets nothing more leave. -/
theorem Fl.best {G : Grid} {want keep : Nat → Bool} {F : List Sd} {b : Nat → Int} (h : Fl G want keep F b) {w : Nat → Bool} (hw : Enc G.n want keep w) (he : val G.n want b = stk G w) : (∀ s, s.1 < G.n → s.2 < 4 → lv G w s = true → s ∈ F) ∧ ∀ s ∈ F, w s.1 = false → inW w (G.bh s) = false := by
  rw [h.val_eq hw] at he
  have e3 := countP_sub (lv G w) h.nd (fun s hs => mem_allS.2 (h.ok s hs))
  have e4 : F.countP (lv G w) = stk G w := by unfold stk at *; omega
  have e5 : (F.countP fun s => !w s.1 && inW w (G.bh s)) = 0 := by unfold stk at *; omega
  refine ⟨fun s q1 q2 q3 => ?_, fun s hs hws => ?_⟩
  · have hsub : F.filter (lv G w) ⊆ (allS G.n).filter (lv G w) := fun x hx => by
      obtain ⟨q4, q5⟩ := List.mem_filter.1 hx
      exact List.mem_filter.2 ⟨mem_allS.2 (h.ok x q4), q5⟩
    have hl : ((allS G.n).filter (lv G w)).length ≤ (F.filter (lv G w)).length := by
      rw [← List.countP_eq_length_filter, ← List.countP_eq_length_filter]
      unfold stk at e4
      omega
    have hm := len_back (h.nd.filter (lv G w)) (fun x hx => hsub hx) hl s
    exact (List.mem_filter.1 (hm (List.mem_filter.2 ⟨mem_allS.2 ⟨q1, q2⟩, q3⟩))).1
  · rw [List.countP_eq_zero] at e5
    have := e5 s hs
    rw [hws] at this
    simpa using this
end Go.Proofs.YtppjnpempgpkaaaGreat
namespace Go.Proofs.YtppjnpempgpkaaaGreat
set_option linter.unusedVariables false
set_option linter.unusedSimpArgs false
/-- Cells that are reached over sides that are let. -/
inductive Rch (G : Grid) (lt : Sd → Bool) (src : Nat → Prop) : Nat → Prop
  | base {c : Nat} : src c → Rch G lt src c
  | step {c k d : Nat} : Rch G lt src c → k < 4 → lt (c, k) = true → G.bh (c, k) = some d → Rch G lt src d
theorem Rch.trans {G : Grid} {lt : Sd → Bool} {src : Nat → Prop} {c y : Nat} (h : Rch G lt src c) (h2 : Rch G lt (· = c) y) : Rch G lt src y := by
  induction h2 with
  | base e => subst e; exact h
  | step _ hk hl hb ih => exact .step ih hk hl hb
theorem Rch.lt {G : Grid} {lt : Sd → Bool} {src : Nat → Prop} (hs : ∀ c, src c → c < G.n) {c : Nat} (h : Rch G lt src c) : c < G.n := by
  induction h with
  | base e => exact hs _ e
  | step _ hk _ hb ih => exact (G.back _ _ _ ih hk hb).1
def fre (F : List Sd) (s : Sd) : Bool := !decide (s ∈ F)
theorem fre_iff {F : List Sd} {s : Sd} : fre F s = true ↔ s ∉ F := by unfold fre; simp
section
variable {G : Grid} {want keep : Nat → Bool} {F : List Sd} {b : Nat → Int}
/-- The cells that one more way could reach are best water, if it comes to no end. -/
theorem small_tight (h : Fl G want keep F b) (hwn : ∀ x, want x = true → x < G.n) {w : Nat → Bool} (hw : ∀ x, w x = true ↔ Rch G (fre F) (fun c => want c = true) x)
    (hk : ∀ x, w x = true → keep x = false) (ho : ∀ x k, w x = true → k < 4 → (x, k) ∉ F → G.bh (x, k) ≠ none) : Enc G.n want keep w ∧ val G.n want b = stk G w := by
  have henc : Enc G.n want keep w := fun x _ => ⟨fun h1 => (hw x).2 (.base h1), fun h1 => by
    cases hx : w x with
    | false => rfl
    | true => rw [hk x hx] at h1; cases h1⟩
  refine ⟨henc, h.tight henc (fun s q1 q2 q3 => ?_) fun s hs hws => ?_⟩
  · apply Classical.byContradiction
    intro hn
    unfold lv at q3
    rw [Bool.and_eq_true] at q3
    cases hb : G.bh s with
    | none => exact ho s.1 s.2 q3.1 q2 hn hb
    | some d =>
      have h1 : w d = true := (hw d).2 (.step (k := s.2) ((hw s.1).1 q3.1) q2 (fre_iff.2 hn) hb)
      rw [hb] at q3
      simp [inW, h1] at q3
  · cases hb : G.bh s with
    | none => rfl
    | some d =>
      cases hd : w d with
      | false => exact hd
      | true =>
        obtain ⟨o1, o2⟩ := h.ok s hs
        obtain ⟨g1, g2⟩ := G.back s.1 s.2 d o1 o2 hb
        have h1 : w s.1 = true := (hw s.1).2 (.step (k := opp s.2) ((hw d).1 hd) opp_lt (fre_iff.2 (h.anti s hs d hb)) g2)
        rw [hws] at h1; cases h1
/-- No best water lacks a cell that one more way could reach. -/
theorem small_least (h : Fl G want keep F b) (hwn : ∀ x, want x = true → x < G.n) {u : Nat → Bool} (hu : Enc G.n want keep u) (he : val G.n want b = stk G u) {x : Nat} (hx : Rch G (fre F) (fun c => want c = true) x) : u x = true := by
  obtain ⟨h1, h2⟩ := h.best hu he
  induction hx with
  | base e => exact (hu _ (hwn _ e)).1 e
  | @step c k d hc hk hl hb ih =>
    have hcn := hc.lt hwn
    cases hd : u d with
    | true => rfl
    | false =>
      exact absurd (h1 (c, k) hcn hk (by unfold lv; rw [ih, hb]; simp [inW, hd])) (fre_iff.1 hl)
/-- From a cell some end is reached. -/
def Fnd (G : Grid) (keep : Nat → Bool) (lt : Sd → Bool) (x : Nat) : Prop := ∃ y, Rch G lt (· = x) y ∧ (keep y = true ∨ ∃ k, k < 4 ∧ lt (y, k) = true ∧ G.bh (y, k) = none)
theorem Fnd.step {lt : Sd → Bool} {x k d : Nat} (hk : k < 4) (hl : lt (x, k) = true) (hb : G.bh (x, k) = some d) (h : Fnd G keep lt d) : Fnd G keep lt x := by
  obtain ⟨y, h1, h2⟩ := h
  exact ⟨y, Rch.trans (.step (.base rfl) hk hl hb) h1, h2⟩
theorem large_tight (h : Fl G want keep F b) (hwn : ∀ x, want x = true → x < G.n) {w : Nat → Bool} (hw : ∀ x, w x = true ↔ x < G.n ∧ ¬ Fnd G keep (fre F) x) (hno : ∀ x, want x = true → ¬ Fnd G keep (fre F) x) : Enc G.n want keep w ∧ val G.n want b = stk G w := by
  have henc : Enc G.n want keep w := fun x hx => ⟨fun h1 => (hw x).2 ⟨hx, hno x h1⟩, fun h1 => by
    cases hx : w x with
    | false => rfl
    | true => exact absurd ⟨x, .base rfl, .inl h1⟩ ((hw x).1 hx).2⟩
  have hfn : ∀ x, x < G.n → w x = false → Fnd G keep (fre F) x := fun x hx hf => by
    apply Classical.byContradiction
    intro hn
    rw [(hw x).2 ⟨hx, hn⟩] at hf; cases hf
  refine ⟨henc, h.tight henc (fun s q1 q2 q3 => ?_) fun s hs hws => ?_⟩
  · apply Classical.byContradiction
    intro hn
    unfold lv at q3
    rw [Bool.and_eq_true] at q3
    have hl := ((hw s.1).1 q3.1).2
    cases hb : G.bh s with
    | none => exact hl ⟨s.1, .base rfl, .inr ⟨s.2, q2, fre_iff.2 hn, hb⟩⟩
    | some d =>
      rw [hb] at q3
      have hd : w d = false := by
        cases hd : w d with
        | false => rfl
        | true => simp [inW, hd] at q3
      exact hl (Fnd.step q2 (fre_iff.2 hn) hb (hfn d (G.back s.1 s.2 d q1 q2 hb).1 hd))
  · cases hb : G.bh s with
    | none => rfl
    | some d =>
      cases hd : w d with
      | false => exact hd
      | true =>
        obtain ⟨o1, o2⟩ := h.ok s hs
        obtain ⟨g1, g2⟩ := G.back s.1 s.2 d o1 o2 hb
        exact absurd (Fnd.step opp_lt (fre_iff.2 (h.anti s hs d hb)) g2 (hfn s.1 o1 hws)) ((hw d).1 hd).2
theorem large_most (h : Fl G want keep F b) {u : Nat → Bool} (hu : Enc G.n want keep u) (he : val G.n want b = stk G u) {x : Nat} (hxn : x < G.n) (hx : u x = true) : ¬ Fnd G keep (fre F) x := by
  obtain ⟨h1, h2⟩ := h.best hu he
  have hin : ∀ y, Rch G (fre F) (· = x) y → u y = true ∧ y < G.n := fun y hy => by
    induction hy with
    | base e => exact ⟨by rw [e]; exact hx, by rw [e]; exact hxn⟩
    | @step c k d hc hk hl hb ih =>
      refine ⟨?_, (G.back c k d ih.2 hk hb).1⟩
      cases hd : u d with
      | true => rfl
      | false => exact absurd (h1 (c, k) ih.2 hk (by unfold lv; rw [ih.1, hb]; simp [inW, hd])) (fre_iff.1 hl)
  rintro ⟨y, hy, hend⟩
  obtain ⟨q1, q2⟩ := hin y hy
  rcases hend with hk | ⟨k, hk, hl, hb⟩
  · rw [(hu y q2).2 hk] at q1; cases q1
  · exact absurd (h1 (y, k) q2 hk (by unfold lv; rw [q1, hb]; rfl)) (fre_iff.1 hl)
end
/-- Sides one behind another, from a cell to what is behind the last one. -/
inductive Pth (G : Grid) : Nat → List Sd → Option Nat → Prop
  | nil {c : Nat} : Pth G c [] (some c)
  | out {c k : Nat} : c < G.n → k < 4 → G.bh (c, k) = none → Pth G c [(c, k)] none
  | cons {c k d : Nat} {ss : List Sd} {e : Option Nat} : c < G.n → k < 4 → G.bh (c, k) = some d → Pth G d ss e → Pth G c ((c, k) :: ss) e
theorem Pth.tele {G : Grid} (f : Nat → Int) {c : Nat} {ss : List Sd} {e : Option Nat} (h : Pth G c ss e) : dif G f ss = f c - fo f e := by
  unfold dif
  induction h with
  | nil => simp [fo]
  | out h1 h2 hb => simp [hb, fo]
  | cons h1 h2 hb _ ih =>
    rw [List.map_cons, List.sum_cons, ih, hb]
    show _ - fo f (some _) + _ = _
    simp only [fo]
    omega
theorem Pth.ok {G : Grid} {c : Nat} {ss : List Sd} {e : Option Nat} (h : Pth G c ss e) : ∀ s ∈ ss, s.1 < G.n ∧ s.2 < 4 := by
  induction h with
  | nil => intro s hs; cases hs
  | out h1 h2 hb => intro s hs; simp at hs; subst hs; exact ⟨h1, h2⟩
  | cons h1 h2 hb _ ih =>
    intro s hs
    rcases List.mem_cons.1 hs with rfl | hs
    · exact ⟨h1, h2⟩
    · exact ih s hs
/-- A way goes over a side: the side behind is free again if another way used it. -/
def tg (G : Grid) (F : List Sd) (s : Sd) : List Sd := match G.bh s with
  | some d => if decide ((d, opp s.2) ∈ F) then F.erase (d, opp s.2) else s :: F
  | none => s :: F
theorem dif_cons (G : Grid) (f : Nat → Int) (s : Sd) (F : List Sd) : dif G f (s :: F) = f s.1 - fo f (G.bh s) + dif G f F := by unfold dif; rw [List.map_cons, List.sum_cons]
theorem dif_erase (G : Grid) (f : Nat → Int) {s : Sd} : ∀ {F : List Sd}, s ∈ F → dif G f (F.erase s) = dif G f F - (f s.1 - fo f (G.bh s))
  | x :: F, h => by
    by_cases e : x = s
    · subst e
      rw [List.erase_cons_head, dif_cons]; omega
    · have h2 : s ∈ F := by
        rcases List.mem_cons.1 h with h | h
        · exact absurd h.symm e
        · exact h
      rw [List.erase_cons_tail (by simpa using e), dif_cons, dif_cons, dif_erase G f h2]; omega
theorem tg_dif (G : Grid) (f : Nat → Int) (F : List Sd) {s : Sd} (h1 : s.1 < G.n) (h2 : s.2 < 4) : dif G f (tg G F s) = dif G f F + (f s.1 - fo f (G.bh s)) := by
  unfold tg
  cases hb : G.bh s with
  | none => rw [dif_cons, hb]; omega
  | some d =>
    dsimp only
    split
    · rename_i hm
      have hm : (d, opp s.2) ∈ F := by simpa using hm
      rw [dif_erase G f hm, (G.back s.1 s.2 d h1 h2 hb).2]
      simp only [fo]; omega
    · rw [dif_cons, hb]; omega
/-- What the sides of a way leave right. -/
structure Half (G : Grid) (want keep : Nat → Bool) (F : List Sd) : Prop where
  nd : F.Nodup
  ok : ∀ s ∈ F, s.1 < G.n ∧ s.2 < 4
  anti : ∀ s ∈ F, ∀ d, G.bh s = some d → (d, opp s.2) ∉ F
  into : ∀ s ∈ F, ∀ d, G.bh s = some d → want d = false
  out : ∀ s ∈ F, keep s.1 = false
theorem tg_mem {G : Grid} {F : List Sd} {s t : Sd} (h : t ∈ tg G F s) : t = s ∨ t ∈ F := by
  unfold tg at h
  cases hb : G.bh s with
  | none => rw [hb] at h; simpa using h
  | some d =>
    rw [hb] at h
    dsimp only at h
    split at h
    · exact .inr (List.mem_of_mem_erase h)
    · simpa using h
theorem Half.tg {G : Grid} {want keep : Nat → Bool} {F : List Sd} (h : Half G want keep F) {s : Sd} (h1 : s.1 < G.n) (h2 : s.2 < 4) (hf : s ∉ F) (hw : ∀ d, G.bh s = some d → want d = false) (hk : keep s.1 = false) : Half G want keep (tg G F s) := by
  have hmem := fun t (ht : t ∈ YtppjnpempgpkaaaGreat.tg G F s) => tg_mem ht
  refine ⟨?_, fun t ht => ?_, fun t ht d hb => ?_, fun t ht => ?_, fun t ht => ?_⟩
  · unfold YtppjnpempgpkaaaGreat.tg
    cases hb : G.bh s with
    | none => exact List.nodup_cons.2 ⟨hf, h.nd⟩
    | some d =>
      dsimp only
      split
      · exact h.nd.erase _
      · exact List.nodup_cons.2 ⟨hf, h.nd⟩
  · rcases hmem t ht with rfl | ht
    · exact ⟨h1, h2⟩
    · exact h.ok t ht
  · intro hc
    rcases hmem t ht with rfl | ht2
    · rcases hmem _ hc with e | hc2
      · have := congrArg Prod.fst e
        exact G.ne t.1 t.2 d h1 h2 hb this
      · unfold YtppjnpempgpkaaaGreat.tg at ht
        rw [hb] at ht
        dsimp only at ht
        rw [if_pos (by simpa using hc2)] at ht
        exact hf (List.mem_of_mem_erase ht)
    · rcases hmem _ hc with e | hc2
      · obtain ⟨o1, o2⟩ := h.ok t ht2
        obtain ⟨g1, g2⟩ := G.back t.1 t.2 d o1 o2 hb
        have e1 : s = (d, opp t.2) := e.symm
        have hbs : G.bh s = some t.1 := by rw [e1]; exact g2
        have hts : (t.1, opp s.2) = t := by
          rw [e1]
          show (t.1, opp (opp t.2)) = t
          rw [opp_opp o2]
        unfold YtppjnpempgpkaaaGreat.tg at ht
        rw [hbs] at ht
        dsimp only at ht
        rw [hts, if_pos (by simpa using ht2)] at ht
        exact (h.nd.not_mem_erase) ht
      · exact h.anti t ht2 d hb hc2
  · rcases hmem t ht with rfl | ht
    · exact hw
    · exact h.into t ht
  · rcases hmem t ht with rfl | ht
    · exact hk
    · exact h.out t ht
/-- A way is added: the sides are free, their cells different; it comes into no cell that is wanted, and leaves none that is kept out. -/
theorem half_path {G : Grid} {want keep : Nat → Bool} : ∀ {ss : List Sd} {F : List Sd}, Half G want keep F → (∀ s ∈ ss, s.1 < G.n ∧ s.2 < 4) → (ss.map Prod.fst).Nodup → (∀ s ∈ ss, s ∉ F ∧ (∀ d, G.bh s = some d → want d = false) ∧ keep s.1 = false) →
    Half G want keep (ss.foldl (tg G) F) ∧ ∀ f, dif G f (ss.foldl (tg G) F) = dif G f F + dif G f ss
  | [], F, h, _, _, _ => ⟨h, fun f => by simp [dif]⟩
  | s :: ss, F, h, hok, hnd, hs => by
    rw [List.map_cons, List.nodup_cons] at hnd
    obtain ⟨q1, q2, q3⟩ := hs s (by simp)
    obtain ⟨o1, o2⟩ := hok s (by simp)
    have h1 := h.tg o1 o2 q1 q2 q3
    obtain ⟨r1, r2⟩ := half_path (ss := ss) h1 (fun t ht => hok t (by simp [ht])) hnd.2 (fun t ht => by
      obtain ⟨p1, p2, p3⟩ := hs t (by simp [ht])
      refine ⟨fun hm => ?_, p2, p3⟩
      rcases tg_mem hm with e | hm
      · exact hnd.1 (List.mem_map.2 ⟨t, ht, by rw [e]⟩)
      · exact p1 hm)
    refine ⟨r1, fun f => ?_⟩
    rw [List.foldl_cons, r2 f, tg_dif G f F o1 o2, dif_cons]; omega
end Go.Proofs.YtppjnpempgpkaaaGreat
namespace Go.Proofs.YtppjnpempgpkaaaGreat
set_option linter.unusedVariables false
set_option linter.unusedSimpArgs false
def lastN (w : List Nat) : Nat := w.getLast?.getD 0
theorem lastN_snoc (w : List Nat) (d : Nat) : lastN (w ++ [d]) = d := by simp [lastN]
structure SS where
  ways : List (List Nat)
  rd : List Bool
def isR (rd : List Bool) (c : Nat) : Bool := rd.getD c false
theorem isR_set {rd : List Bool} {d c : Nat} (hd : d < rd.length) : isR (rd.set d true) c = (decide (d = c) || isR rd c) := by
  unfold isR
  rw [List.getD_eq_getElem?_getD, List.getD_eq_getElem?_getD, List.getElem?_set]
  by_cases e : d = c
  · subst e; simp [hd]
  · simp [e]
/-- The neighbours of a way's end, one after another. -/
def scan (G : Grid) (lt : Sd → Bool) (w : List Nat) (c : Nat) : List Nat → SS → SS × Option Nat
  | [], st => (st, none)
  | k :: ks, st => if lt (c, k) = true then (match G.bh (c, k) with
      | none => (st, some k)
      | some d => if isR st.rd d = true then scan G lt w c ks st else scan G lt w c ks ⟨st.ways ++ [w ++ [d]], st.rd.set d true⟩)
    else scan G lt w c ks st
def srch (G : Grid) (keep : Nat → Bool) (lt : Sd → Bool) : Nat → Nat → SS → SS × Option (List Nat × Option Nat)
  | 0, _, st => (st, none)
  | f + 1, i, st => match st.ways[i]? with
    | none => (st, none)
    | some w => if keep (lastN w) = true then (st, some (w, none)) else (match scan G lt w (lastN w) [0, 1, 2, 3] st with
        | (st', some k) => (st', some (w, some k))
        | (st', none) => srch G keep lt f (i + 1) st')
def start (M : Nat) (src : List Nat) : SS := ⟨src.map fun c => [c], src.foldl (fun rd c => rd.set c true) (List.replicate M false)⟩
/-- A way from one of the first cells, over sides that are let; its cells are different, and only its last one may be kept out. -/
inductive Gd (G : Grid) (keep : Nat → Bool) (lt : Sd → Bool) (src : List Nat) : List Nat → Prop
  | one {c : Nat} : c ∈ src → Gd G keep lt src [c]
  | more {w : List Nat} {d k : Nat} : Gd G keep lt src w → keep (lastN w) = false → k < 4 → lt (lastN w, k) = true → G.bh (lastN w, k) = some d → d ∉ w → d ∉ src → Gd G keep lt src (w ++ [d])
theorem Gd.ne {G : Grid} {keep : Nat → Bool} {lt : Sd → Bool} {src w : List Nat} (h : Gd G keep lt src w) : w ≠ [] := by cases h <;> simp
theorem Gd.rch {G : Grid} {keep : Nat → Bool} {lt : Sd → Bool} {src w : List Nat} (h : Gd G keep lt src w) : Rch G lt (· ∈ src) (lastN w) := by
  induction h with
  | one hc => exact .base (by simpa [lastN] using hc)
  | more _ _ hk hl hb _ _ ih => rw [lastN_snoc]; exact .step ih hk hl hb
/-- Where the search stands, ways before i done. -/
structure SI (G : Grid) (keep : Nat → Bool) (lt : Sd → Bool) (src : List Nat) (M i : Nat) (st : SS) : Prop where
  len : st.rd.length = M
  le : i ≤ st.ways.length
  gd : ∀ w ∈ st.ways, Gd G keep lt src w
  cells : ∀ w ∈ st.ways, ∀ x ∈ w, isR st.rd x = true
  mark : ∀ c, isR st.rd c = true → ∃ w ∈ st.ways, lastN w = c
  nd : (st.ways.map lastN).Nodup
  srcs : ∀ c ∈ src, isR st.rd c = true
  done : ∀ j w, j < i → st.ways[j]? = some w → keep (lastN w) = false ∧ ∀ k, k < 4 → lt (lastN w, k) = true → ∃ d, G.bh (lastN w, k) = some d ∧ isR st.rd d = true
theorem Gd.last_mem {G : Grid} {keep : Nat → Bool} {lt : Sd → Bool} {src w : List Nat} (h : Gd G keep lt src w) : lastN w ∈ w := by
  cases h with
  | one _ => simp [lastN]
  | more => rw [lastN_snoc]; simp
theorem isR_lt {rd : List Bool} {c : Nat} (h : isR rd c = true) : c < rd.length := by
  unfold isR at h
  rw [List.getD_eq_getElem?_getD] at h
  apply Decidable.byContradiction
  intro hn
  rw [List.getElem?_eq_none (by omega)] at h
  cases h
section
variable {G : Grid} {keep : Nat → Bool} {lt : Sd → Bool} {src : List Nat} {M : Nat}
/-- One cell more is marked. -/
theorem SI.push {i k d : Nat} {st : SS} {w : List Nat} (h : SI G keep lt src M i st) (hw : w ∈ st.ways) (hk : keep (lastN w) = false) (hk4 : k < 4) (hl : lt (lastN w, k) = true) (hb : G.bh (lastN w, k) = some d) (hd : d < M) (hn : isR st.rd d = false) : SI G keep lt src M i ⟨st.ways ++ [w ++ [d]], st.rd.set d true⟩ := by
  have hset := fun c => isR_set (rd := st.rd) (d := d) (c := c) (by rw [h.len]; exact hd)
  have hmono : ∀ c, isR st.rd c = true → isR (st.rd.set d true) c = true := fun c hc => by rw [hset, hc]; simp
  refine ⟨by simpa using h.len, by have := h.le; simp; omega, fun v hv => ?_, fun v hv x hx => ?_, fun c hc => ?_, ?_, fun c hc => hmono c (h.srcs c hc), fun j v hj hv => ?_⟩
  · rcases List.mem_append.1 hv with hv | hv
    · exact h.gd v hv
    · simp at hv
      subst hv
      refine .more (h.gd w hw) hk hk4 hl hb (fun hm => ?_) (fun hm => ?_)
      · have := h.cells w hw d hm; rw [hn] at this; cases this
      · have := h.srcs d hm; rw [hn] at this; cases this
  · rcases List.mem_append.1 hv with hv | hv
    · exact hmono x (h.cells v hv x hx)
    · simp at hv
      subst hv
      rcases List.mem_append.1 hx with hx | hx
      · exact hmono x (h.cells w hw x hx)
      · simp at hx
        subst hx
        show isR (st.rd.set x true) x = true
        rw [hset]; simp
  · show ∃ v ∈ st.ways ++ [w ++ [d]], lastN v = c
    have hc : isR (st.rd.set d true) c = true := hc
    rw [hset] at hc
    by_cases e : d = c
    · exact ⟨w ++ [d], by simp, by rw [lastN_snoc]; exact e⟩
    · rw [decide_eq_false e, Bool.false_or] at hc
      obtain ⟨v, hv, he⟩ := h.mark c hc
      exact ⟨v, by simp [hv], he⟩
  · show ((st.ways ++ [w ++ [d]]).map lastN).Nodup
    rw [List.map_append, List.nodup_append]
    refine ⟨h.nd, by simp, fun a ha x hx e => ?_⟩
    simp at hx
    rw [lastN_snoc] at hx
    subst hx
    obtain ⟨v, hv, he⟩ := List.mem_map.1 ha
    have := h.cells v hv (lastN v) (h.gd v hv).last_mem
    rw [he, e, hn] at this
    cases this
  · have hv : (st.ways ++ [w ++ [d]])[j]? = some v := hv
    by_cases hjl : j < st.ways.length
    · rw [List.getElem?_append_left hjl] at hv
      obtain ⟨q1, q2⟩ := h.done j v hj hv
      exact ⟨q1, fun k hk hl => by
        obtain ⟨d', r1, r2⟩ := q2 k hk hl
        exact ⟨d', r1, hmono d' r2⟩⟩
    · have := h.le; omega
theorem Gd.cell (hs : ∀ c ∈ src, c < G.n) {w : List Nat} (hg : Gd G keep lt src w) : ∀ x ∈ w, x < G.n := by
  induction hg with
  | one hc => intro x hx; simp at hx; subst hx; exact hs _ hc
  | @more w d k hg hk hk4 hl hb hn hd ih =>
    intro x hx
    rcases List.mem_append.1 hx with hx | hx
    · exact ih x hx
    · simp at hx
      subst hx
      exact (G.back _ _ _ (ih _ hg.last_mem) hk4 hb).1
theorem scan_is (hM : G.n ≤ M) (hS : ∀ c ∈ src, c < G.n) {i : Nat} {w : List Nat} : ∀ (ks : List Nat) (st : SS), (∀ k ∈ ks, k < 4) → SI G keep lt src M i st → w ∈ st.ways → keep (lastN w) = false →
    SI G keep lt src M i (scan G lt w (lastN w) ks st).1 ∧ st.ways <+: (scan G lt w (lastN w) ks st).1.ways ∧ (∀ c, isR st.rd c = true → isR (scan G lt w (lastN w) ks st).1.rd c = true) ∧
    (∀ k, (scan G lt w (lastN w) ks st).2 = some k → k ∈ ks ∧ lt (lastN w, k) = true ∧ G.bh (lastN w, k) = none) ∧
    ((scan G lt w (lastN w) ks st).2 = none → ∀ k ∈ ks, lt (lastN w, k) = true → ∃ d, G.bh (lastN w, k) = some d ∧ isR (scan G lt w (lastN w) ks st).1.rd d = true)
  | [], st, _, h, hw, hk => ⟨h, List.prefix_refl _, fun _ hc => hc, fun k hk => (by cases hk), fun _ k hk => by cases hk⟩
  | k :: ks, st, hks, h, hw, hk => by
    have hk4 := hks k (by simp)
    have hks' : ∀ k ∈ ks, k < 4 := fun x hx => hks x (by simp [hx])
    unfold scan
    by_cases hl : lt (lastN w, k) = true
    · rw [if_pos hl]
      cases hb : G.bh (lastN w, k) with
      | none =>
        dsimp only
        exact ⟨h, List.prefix_refl _, fun _ hc => hc, fun k' e => by cases e; exact ⟨by simp, hl, hb⟩, fun e => by cases e⟩
      | some d =>
        dsimp only
        by_cases hr : isR st.rd d = true
        · rw [if_pos hr]
          obtain ⟨a1, a2, a3, a4, a5⟩ := scan_is hM hS ks st hks' h hw hk
          refine ⟨a1, a2, a3, fun k' e => ?_, fun e k' hk' hl' => ?_⟩
          · obtain ⟨b1, b2⟩ := a4 k' e
            exact ⟨by simp [b1], b2⟩
          · rcases List.mem_cons.1 hk' with rfl | hk'
            · exact ⟨d, hb, a3 d hr⟩
            · exact a5 e k' hk' hl'
        · rw [if_neg hr]
          have hdM := Nat.lt_of_lt_of_le (G.back _ _ _ ((h.gd w hw).cell hS _ (h.gd w hw).last_mem) hk4 hb).1 hM
          have hp := h.push hw hk hk4 hl hb hdM (by simpa using hr)
          have hset := fun c => isR_set (rd := st.rd) (d := d) (c := c) (by rw [h.len]; exact hdM)
          obtain ⟨a1, a2, a3, a4, a5⟩ := scan_is hM hS ks ⟨st.ways ++ [w ++ [d]], st.rd.set d true⟩ hks' hp (by simp [hw]) hk
          refine ⟨a1, (List.prefix_append _ _).trans a2, fun c hc => a3 c (by show isR (st.rd.set d true) c = true; rw [hset, hc]; simp), fun k' e => ?_, fun e k' hk' hl' => ?_⟩
          · obtain ⟨b1, b2⟩ := a4 k' e
            exact ⟨by simp [b1], b2⟩
          · rcases List.mem_cons.1 hk' with rfl | hk'
            · exact ⟨d, hb, a3 d (by show isR (st.rd.set d true) d = true; rw [hset]; simp)⟩
            · exact a5 e k' hk' hl'
    · rw [if_neg hl]
      obtain ⟨a1, a2, a3, a4, a5⟩ := scan_is hM hS ks st hks' h hw hk
      refine ⟨a1, a2, a3, fun k' e => ?_, fun e k' hk' hl' => ?_⟩
      · obtain ⟨b1, b2⟩ := a4 k' e
        exact ⟨by simp [b1], b2⟩
      · rcases List.mem_cons.1 hk' with rfl | hk'
        · exact absurd hl' hl
        · exact a5 e k' hk' hl'
theorem nodup_le : ∀ (M : Nat) {l : List Nat}, l.Nodup → (∀ x ∈ l, x < M) → l.length ≤ M := fun M l h1 h2 => by
  have := len_le (l₂ := List.range M) h1 (fun x hx => List.mem_range.2 (h2 x hx))
  simpa using this
theorem SI.few (hM : G.n ≤ M) (hS : ∀ c ∈ src, c < G.n) {i : Nat} {st : SS} (h : SI G keep lt src M i st) : st.ways.length ≤ M := by
  have := nodup_le M h.nd (fun x hx => by
    obtain ⟨w, hw, rfl⟩ := List.mem_map.1 hx
    exact Nat.lt_of_lt_of_le ((h.gd w hw).cell hS _ (h.gd w hw).last_mem) hM)
  simpa using this
/-- What the search gives. -/
theorem srch_is (hM : G.n ≤ M) (hS : ∀ c ∈ src, c < G.n) : ∀ (f i : Nat) (st : SS), SI G keep lt src M i st → M < f + i →
    (∀ w o, (srch G keep lt f i st).2 = some (w, o) → Gd G keep lt src w ∧ (∀ x ∈ w, x < M) ∧ ((o = none ∧ keep (lastN w) = true) ∨ ∃ k, o = some k ∧ keep (lastN w) = false ∧ k < 4 ∧ lt (lastN w, k) = true ∧ G.bh (lastN w, k) = none)) ∧
    ((srch G keep lt f i st).2 = none → (∀ c, isR (srch G keep lt f i st).1.rd c = true ↔ Rch G lt (· ∈ src) c) ∧ ∀ c, isR (srch G keep lt f i st).1.rd c = true → keep c = false ∧ ∀ k, k < 4 → lt (c, k) = true → G.bh (c, k) ≠ none) ∧ (srch G keep lt f i st).1.rd.length = M
  | 0, i, st, h, hf => by
    have := h.few hM hS; have := h.le
    omega
  | f + 1, i, st, h, hf => by
    unfold srch
    cases hw : st.ways[i]? with
    | none =>
      dsimp only
      have hi : i = st.ways.length := by have := h.le; have := List.getElem?_eq_none_iff.1 hw; omega
      have hcl : ∀ c, isR st.rd c = true → keep c = false ∧ ∀ k, k < 4 → lt (c, k) = true → ∃ d, G.bh (c, k) = some d ∧ isR st.rd d = true := fun c hc => by
        obtain ⟨w, hw, rfl⟩ := h.mark c hc
        obtain ⟨j, hj, hjw⟩ := List.getElem_of_mem hw
        exact h.done j w (by omega) (by rw [List.getElem?_eq_getElem hj, hjw])
      refine ⟨fun w o e => (by cases e), fun _ => ⟨fun c => ⟨fun hc => ?_, fun hc => ?_⟩, fun c hc => ⟨(hcl c hc).1, fun k hk hl hn => ?_⟩⟩, h.len⟩
      · obtain ⟨w, hw, rfl⟩ := h.mark c hc
        exact (h.gd w hw).rch
      · induction hc with
        | base e => exact h.srcs _ e
        | step _ hk hl hb ih =>
          obtain ⟨d', r1, r2⟩ := (hcl _ ih).2 _ hk hl
          rw [hb] at r1; cases r1; exact r2
      · obtain ⟨d', r1, -⟩ := (hcl c hc).2 k hk hl
        rw [hn] at r1; cases r1
    | some w =>
      dsimp only
      have hwm := List.mem_of_getElem? hw
      have hlt : ∀ x ∈ w, x < M := fun x hx => by have := isR_lt (h.cells w hwm x hx); rw [h.len] at this; exact this
      by_cases hk : keep (lastN w) = true
      · rw [if_pos hk]
        exact ⟨fun w' o e => by cases e; exact ⟨h.gd w hwm, hlt, .inl ⟨rfl, hk⟩⟩, fun e => (by cases e), h.len⟩
      · rw [if_neg hk]
        have hk : keep (lastN w) = false := by simpa using hk
        obtain ⟨a1, a2, a3, a4, a5⟩ := scan_is hM hS [0, 1, 2, 3] st (fun k hk => by simp at hk; omega) h hwm hk
        generalize hsc : scan G lt w (lastN w) [0, 1, 2, 3] st = r at a1 a2 a3 a4 a5
        obtain ⟨st', o⟩ := r
        cases o with
        | some k =>
          dsimp only
          obtain ⟨b1, b2, b3⟩ := a4 k rfl
          exact ⟨fun w' o e => by cases e; exact ⟨h.gd w hwm, hlt, .inr ⟨k, rfl, hk, by simp at b1; omega, b2, b3⟩⟩, fun e => (by cases e), a1.len⟩
        | none =>
          dsimp only at a1 a2 a3 a5 ⊢
          have hil : i < st.ways.length := (List.getElem?_eq_some_iff.1 hw).1
          have hpre : st'.ways[i]? = some w := by
            obtain ⟨t, ht⟩ := a2
            rw [← ht, List.getElem?_append_left hil]; exact hw
          refine srch_is hM hS f (i + 1) st' { a1 with le := (List.getElem?_eq_some_iff.1 hpre).1, done := fun j v hj hv => ?_ } (by omega)
          by_cases e : j = i
          · subst e
            rw [hpre] at hv
            cases hv
            exact ⟨hk, fun k hk4 hl => a5 rfl k (by simp; omega) hl⟩
          · exact a1.done j v (by omega) hv
theorem fold_set (M : Nat) : ∀ (src : List Nat) (rd : List Bool), rd.length = M → (∀ c ∈ src, c < M) → (src.foldl (fun rd c => rd.set c true) rd).length = M ∧ ∀ c, isR (src.foldl (fun rd c => rd.set c true) rd) c = (decide (c ∈ src) || isR rd c)
  | [], rd, h, _ => ⟨h, fun c => by simp⟩
  | a :: src, rd, h, hs => by
    have ha := hs a (by simp)
    obtain ⟨h1, h2⟩ := fold_set M src (rd.set a true) (by simpa using h) (fun c hc => hs c (by simp [hc]))
    refine ⟨h1, fun c => ?_⟩
    rw [List.foldl_cons, h2 c, isR_set (by rw [h]; exact ha)]
    by_cases e : c = a
    · subst e; simp
    · have : ¬ a = c := fun h => e h.symm
      simp [e, this]
theorem start_is (hs : ∀ c ∈ src, c < M) (hnd : src.Nodup) : SI G keep lt src M 0 (start M src) := by
  obtain ⟨h1, h2⟩ := fold_set M src (List.replicate M false) (by simp) hs
  have h3 : ∀ c, isR (start M src).rd c = decide (c ∈ src) := fun c => by
    show isR (src.foldl _ _) c = _
    rw [h2 c]
    have : isR (List.replicate M false) c = false := by
      unfold isR
      rw [List.getD_eq_getElem?_getD, List.getElem?_replicate]
      split <;> rfl
    rw [this, Bool.or_false]
  refine ⟨h1, Nat.zero_le _, fun w hw => ?_, fun w hw x hx => ?_, fun c hc => ?_, ?_, fun c hc => by rw [h3]; simpa using hc, fun j w hj => by omega⟩
  · obtain ⟨c, hc, rfl⟩ := List.mem_map.1 hw
    exact .one hc
  · obtain ⟨c, hc, rfl⟩ := List.mem_map.1 hw
    simp at hx
    subst hx
    rw [h3]; simpa using hc
  · rw [h3] at hc
    exact ⟨[c], List.mem_map.2 ⟨c, by simpa using hc, rfl⟩, by simp [lastN]⟩
  · show ((src.map fun c => [c]).map lastN).Nodup
    rw [List.map_map]
    have : (lastN ∘ fun c => [c]) = id := by funext c; simp [lastN]
    rw [this, List.map_id]; exact hnd
end
end Go.Proofs.YtppjnpempgpkaaaGreat
namespace Go.Proofs.YtppjnpempgpkaaaGreat
set_option linter.unusedVariables false
set_option linter.unusedSimpArgs false
/-- At which edge of a cell another one is. -/
def btw (G : Grid) (c d : Nat) : Nat := if G.bh (c, 0) = some d then 0 else if G.bh (c, 1) = some d then 1 else if G.bh (c, 2) = some d then 2 else 3
theorem btw_is {G : Grid} {c k d : Nat} (hc : c < G.n) (hk : k < 4) (hb : G.bh (c, k) = some d) : btw G c d = k := by
  have h := fun k' (hk' : k' < 4) (hb' : G.bh (c, k') = some d) => G.one c k' k d hc hk' hk hb' hb
  unfold btw
  split
  · rename_i e; exact h 0 (by omega) e
  · rename_i e0
    split
    · rename_i e; exact h 1 (by omega) e
    · rename_i e1
      split
      · rename_i e; exact h 2 (by omega) e
      · rename_i e2
        match k, hk with
        | 0, _ => exact absurd hb e0
        | 1, _ => exact absurd hb e1
        | 2, _ => exact absurd hb e2
        | 3, _ => rfl
/-- The sides that a way uses. -/
def usesW (G : Grid) : List Nat → Option Nat → List Sd
  | [], _ => []
  | [c], o => (match o with | some k => [(c, k)] | none => [])
  | c :: d :: w, o => (c, btw G c d) :: usesW G (d :: w) o
/-- Cells one behind another. -/
def StepsOk (G : Grid) (keep : Nat → Bool) (lt : Sd → Bool) (src : List Nat) : List Nat → Prop
  | c :: d :: w => (∃ k, k < 4 ∧ lt (c, k) = true ∧ G.bh (c, k) = some d) ∧ keep c = false ∧ d ∉ src ∧ StepsOk G keep lt src (d :: w)
  | _ => True
section
variable {G : Grid} {keep : Nat → Bool} {lt : Sd → Bool} {src : List Nat}
theorem lastN_cons (c d : Nat) (w : List Nat) : lastN (c :: d :: w) = lastN (d :: w) := by simp [lastN]
theorem StepsOk.snoc {d k : Nat} (hk4 : k < 4) (hd : d ∉ src) : ∀ {w : List Nat}, w ≠ [] → StepsOk G keep lt src w → keep (lastN w) = false → lt (lastN w, k) = true → G.bh (lastN w, k) = some d → StepsOk G keep lt src (w ++ [d])
  | [c], _, _, hk, hl, hb => by
    refine ⟨⟨k, hk4, ?_, ?_⟩, ?_, hd, trivial⟩
    · simpa [lastN] using hl
    · simpa [lastN] using hb
    · simpa [lastN] using hk
  | c :: e :: w, _, h, hk, hl, hb => by
    rw [lastN_cons] at hk hl hb
    exact ⟨h.1, h.2.1, h.2.2.1, StepsOk.snoc hk4 hd (by simp) h.2.2.2 hk hl hb⟩
theorem Gd.steps {w : List Nat} (h : Gd G keep lt src w) : StepsOk G keep lt src w ∧ w.Nodup ∧ ∃ c t, w = c :: t ∧ c ∈ src := by
  induction h with
  | @one c hc => exact ⟨trivial, by simp, c, [], rfl, hc⟩
  | @more w d k hg hk hk4 hl hb hn hs ih =>
    obtain ⟨h1, h2, c, t, rfl, h4⟩ := ih
    refine ⟨StepsOk.snoc hk4 hs (by simp) h1 hk hl hb, ?_, c, t ++ [d], rfl, h4⟩
    rw [List.nodup_append]
    exact ⟨h2, by simp, fun a ha x hx e => hn (by simp at hx; subst hx; rw [← e]; exact ha)⟩
/-- The sides of a way that was found. -/
theorem uses_is (hsrc : ∀ s : Sd, True) : ∀ {w : List Nat} (o : Option Nat), w ≠ [] → StepsOk G keep lt src w → (∀ x ∈ w, x < G.n) →
    (o = none ∨ ∃ k, o = some k ∧ k < 4 ∧ lt (lastN w, k) = true ∧ keep (lastN w) = false ∧ G.bh (lastN w, k) = none) →
    Pth G (w.headD 0) (usesW G w o) (if o = none then some (lastN w) else none) ∧ (∀ s ∈ usesW G w o, lt s = true ∧ keep s.1 = false ∧ ∀ d, G.bh s = some d → d ∉ src) ∧ (usesW G w o).map Prod.fst <+: w
  | [c], o, _, _, hn, ho => by
    have hc := hn c (by simp)
    rcases ho with rfl | ⟨k, rfl, h1, h2, h3, h4⟩
    · exact ⟨by simpa [lastN, usesW] using Pth.nil, fun s hs => (by cases hs), List.nil_prefix⟩
    · have e : lastN [c] = c := by simp [lastN]
      rw [e] at h2 h3 h4
      refine ⟨by simpa [usesW] using Pth.out hc h1 h4, fun s hs => ?_, List.prefix_refl _⟩
      simp [usesW] at hs
      subst hs
      exact ⟨h2, h3, fun d hd => by rw [h4] at hd; cases hd⟩
  | c :: e :: w, o, _, h, hn, ho => by
    obtain ⟨⟨k, hk4, hl, hb⟩, hk, hd, hs⟩ := h
    have hc := hn c (by simp)
    have hbt := btw_is hc hk4 hb
    rw [lastN_cons] at ho ⊢
    obtain ⟨h1, h2, h3⟩ := uses_is hsrc (w := e :: w) o (by simp) hs (fun x hx => hn x (by simp [hx])) ho
    refine ⟨?_, fun s hs' => ?_, ?_⟩
    · show Pth G c ((c, btw G c e) :: usesW G (e :: w) o) _
      rw [hbt]
      exact .cons hc hk4 hb h1
    · rcases List.mem_cons.1 hs' with rfl | hs'
      · rw [hbt]
        exact ⟨hl, hk, fun d' hd' => by rw [hb] at hd'; cases hd'; exact hd⟩
      · exact h2 s hs'
    · show (c :: (usesW G (e :: w) o).map Prod.fst) <+: c :: e :: w
      exact (List.cons_prefix_cons).2 ⟨rfl, h3⟩
end
theorem wsum_pt (b f : Nat → Int) (c : Nat) (v : Int) : ∀ n, c < n → wsum n (fun x => b x + if x = c then v else 0) f = wsum n b f + v * f c := by
  have h0 : ∀ n, n ≤ c → wsum n (fun x => b x + if x = c then v else 0) f = wsum n b f := fun n hn => by
    unfold wsum
    congr 1
    refine List.map_congr_left fun x hx => ?_
    have := List.mem_range.1 hx
    show (b x + if x = c then v else 0) * f x = b x * f x
    rw [if_neg (by omega)]; simp
  intro n
  induction n with
  | zero => intro h; omega
  | succ n ih =>
    intro h
    have e : ∀ b : Nat → Int, wsum (n + 1) b f = wsum n b f + b n * f n := fun b => by
      unfold wsum
      rw [List.range_succ, List.map_append, List.sum_append]
      simp
    rw [e, e]
    by_cases hc : c = n
    · subst hc
      rw [h0 c (Nat.le_refl _), if_pos rfl, Int.add_mul]; omega
    · rw [ih (by omega), if_neg (by omega)]
      have : (b n + 0) * f n = b n * f n := by rw [Int.add_zero]
      rw [this]; omega
theorem Fl.half {G : Grid} {want keep : Nat → Bool} {F : List Sd} {b : Nat → Int} (h : Fl G want keep F b) : Half G want keep F := ⟨h.nd, h.ok, h.anti, h.into, h.out⟩
/-- One way more. -/
theorem Fl.add {G : Grid} {want keep : Nat → Bool} {F : List Sd} {b : Nat → Int} (h : Fl G want keep F b) (hdis : ∀ x, want x = true → keep x = false) {c : Nat} {ss : List Sd} {e : Option Nat} (hp : Pth G c ss e) (hc : c < G.n) (hcw : want c = true) (he : ∀ y, e = some y → y < G.n ∧ keep y = true)
    (hnd : (ss.map Prod.fst).Nodup) (hs : ∀ s ∈ ss, s ∉ F ∧ (∀ d, G.bh s = some d → want d = false) ∧ keep s.1 = false) : ∃ b', Fl G want keep (ss.foldl (tg G) F) b' ∧ val G.n want b' = val G.n want b + 1 := by
  obtain ⟨h1, h2⟩ := half_path h.half hp.ok hnd hs
  have hfree : ∀ x, want x = false → keep x = false → x ≠ c := fun x hw _ ex => by rw [ex, hcw] at hw; cases hw
  cases e with
  | none =>
    refine ⟨fun x => b x + if x = c then 1 else 0, ⟨h1.nd, h1.ok, h1.anti, fun f => ?_, fun x hw hk => ?_, h1.into, h1.out⟩, ?_⟩
    · rw [h2 f, h.bal f, hp.tele f, wsum_pt b f c 1 G.n hc]
      simp only [fo]; omega
    · rw [h.free x hw hk, if_neg (hfree x hw hk)]; rfl
    · unfold val
      rw [wsum_pt b _ c 1 G.n hc, hcw]
      simp [bi]
  | some y =>
    obtain ⟨hy, hyk⟩ := he y rfl
    have hyw : want y = false := by
      cases hwy : want y with
      | false => rfl
      | true => rw [hdis y hwy] at hyk; cases hyk
    refine ⟨fun x => (b x + if x = c then 1 else 0) + if x = y then -1 else 0, ⟨h1.nd, h1.ok, h1.anti, fun f => ?_, fun x hw hk => ?_, h1.into, h1.out⟩, ?_⟩
    · rw [h2 f, h.bal f, hp.tele f, wsum_pt (fun x => b x + if x = c then 1 else 0) f y (-1) G.n hy, wsum_pt b f c 1 G.n hc]
      simp only [fo]; omega
    · have : x ≠ y := fun e => by rw [e, hyk] at hk; cases hk
      rw [h.free x hw hk, if_neg (hfree x hw hk), if_neg this]; rfl
    · unfold val
      rw [wsum_pt (fun x => b x + if x = c then 1 else 0) _ y (-1) G.n hy, wsum_pt b _ c 1 G.n hc, hcw, hyw]
      simp [bi]
end Go.Proofs.YtppjnpempgpkaaaGreat
namespace Go.Proofs.YtppjnpempgpkaaaGreat
set_option linter.unusedVariables false
set_option linter.unusedSimpArgs false
/-- A valid pond: what is wanted, and what is kept out. -/
structure Pond (G : Grid) (M : Nat) (wl : List Nat) (keep : Nat → Bool) : Prop where
  le : G.n ≤ M
  wn : ∀ c ∈ wl, c < G.n
  wnd : wl.Nodup
  dis : ∀ c ∈ wl, keep c = false
  kn : ∀ c, keep c = true → c < G.n
def wantB (wl : List Nat) (c : Nat) : Bool := decide (c ∈ wl)
def find1 (G : Grid) (M : Nat) (keep : Nat → Bool) (lt : Sd → Bool) (src : List Nat) : SS × Option (List Nat × Option Nat) := srch G keep lt (M + 1) 0 (start M src)
def netF (G : Grid) (M : Nat) (wl : List Nat) (keep : Nat → Bool) : Nat → List Sd → List Sd
  | 0, F => F
  | f + 1, F => match (find1 G M keep (fre F) wl).2 with
    | none => F
    | some (w, o) => netF G M wl keep f ((usesW G w o).foldl (tg G) F)
section
variable {G : Grid} {M : Nat} {wl : List Nat} {keep : Nat → Bool}
theorem Pond.search (h : Pond G M wl keep) (lt : Sd → Bool) {src : List Nat} (hs : ∀ c ∈ src, c < G.n) (hnd : src.Nodup) :
    (∀ w o, (find1 G M keep lt src).2 = some (w, o) → Gd G keep lt src w ∧ ((o = none ∧ keep (lastN w) = true) ∨ ∃ k, o = some k ∧ keep (lastN w) = false ∧ k < 4 ∧ lt (lastN w, k) = true ∧ G.bh (lastN w, k) = none)) ∧
    ((find1 G M keep lt src).2 = none → (∀ c, isR (find1 G M keep lt src).1.rd c = true ↔ Rch G lt (· ∈ src) c) ∧ ∀ c, isR (find1 G M keep lt src).1.rd c = true → keep c = false ∧ ∀ k, k < 4 → lt (c, k) = true → G.bh (c, k) ≠ none) ∧ (find1 G M keep lt src).1.rd.length = M := by
  obtain ⟨h1, h2, h3⟩ := srch_is h.le hs (M + 1) 0 (start M src) (start_is (G := G) (keep := keep) (lt := lt) (fun c hc => Nat.lt_of_lt_of_le (hs c hc) h.le) hnd) (by omega)
  exact ⟨fun w o e => ⟨(h1 w o e).1, (h1 w o e).2.2⟩, h2, h3⟩
theorem wantB_iff {c : Nat} : wantB wl c = true ↔ c ∈ wl := by unfold wantB; simp
/-- A way that is found is added. -/
theorem Pond.step (h : Pond G M wl keep) {F : List Sd} {b : Nat → Int} (hF : Fl G (wantB wl) keep F b) {w : List Nat} {o : Option Nat} (hf : (find1 G M keep (fre F) wl).2 = some (w, o)) : ∃ b', Fl G (wantB wl) keep ((usesW G w o).foldl (tg G) F) b' ∧ val G.n (wantB wl) b' = val G.n (wantB wl) b + 1 := by
  obtain ⟨hg, ho⟩ := (h.search (fre F) h.wn h.wnd).1 w o hf
  obtain ⟨hst, hnd, c, t, hw, hc⟩ := hg.steps
  have hcells := hg.cell h.wn
  obtain ⟨u1, u2, u3⟩ := uses_is (fun _ => trivial) o hg.ne hst hcells (by
    rcases ho with ⟨h1, -⟩ | ⟨k, h1, h2, h3, h4, h5⟩
    · exact .inl h1
    · exact .inr ⟨k, h1, h3, h4, h2, h5⟩)
  have hhd : w.headD 0 = c := by rw [hw]; rfl
  rw [hhd] at u1
  refine hF.add (fun x hx => h.dis x (wantB_iff.1 hx)) u1 (h.wn c hc) (wantB_iff.2 hc) (fun y hy => ?_) (u3.sublist.nodup hnd) fun s hs => ?_
  · rcases ho with ⟨h1, h2⟩ | ⟨k, h1, -⟩
    · rw [if_pos h1] at hy
      cases hy
      exact ⟨hcells _ hg.last_mem, h2⟩
    · rw [if_neg (by rw [h1]; simp)] at hy; cases hy
  · obtain ⟨q1, q2, q3⟩ := u2 s hs
    exact ⟨fre_iff.1 q1, fun d hd => by
      have := q3 d hd
      cases hwd : wantB wl d with
      | false => rfl
      | true => exact absurd (wantB_iff.1 hwd) this, q2⟩
theorem enc_want (h : Pond G M wl keep) : Enc G.n (wantB wl) keep (wantB wl) := fun x _ => ⟨fun h => h, fun hk => by
  cases hw : wantB wl x with
  | false => rfl
  | true => rw [h.dis x (wantB_iff.1 hw)] at hk; cases hk⟩
theorem netF_is (h : Pond G M wl keep) : ∀ (f : Nat) {F : List Sd} {b : Nat → Int}, Fl G (wantB wl) keep F b → (stk G (wantB wl) : Int) < val G.n (wantB wl) b + f → ∃ b', Fl G (wantB wl) keep (netF G M wl keep f F) b' ∧ (find1 G M keep (fre (netF G M wl keep f F)) wl).2 = none
  | 0, F, b, hF, hlt => by have := hF.le (enc_want h); omega
  | f + 1, F, b, hF, hlt => by
    unfold netF
    cases hs : (find1 G M keep (fre F) wl).2 with
    | none => exact ⟨b, hF, hs⟩
    | some r =>
      obtain ⟨w, o⟩ := r
      dsimp only
      obtain ⟨b', h1, h2⟩ := h.step hF hs
      exact netF_is h f h1 (by omega)
theorem Fl.zero (G : Grid) (want keep : Nat → Bool) : Fl G want keep [] (fun _ => 0) := by
  refine ⟨List.nodup_nil, fun s h => (by cases h), fun s h => (by cases h), fun f => ?_, fun _ _ _ => rfl, fun s h => (by cases h), fun s h => by cases h⟩
  unfold dif wsum
  have : ∀ l : List Nat, (l.map fun x => (0 : Int) * f x).sum = 0 := by
    intro l
    induction l with
    | nil => rfl
    | cons a l ih => rw [List.map_cons, List.sum_cons, ih]; simp
  rw [this]; rfl
theorem find_fnd (h : Pond G M wl keep) (lt : Sd → Bool) {c : Nat} (hc : c < G.n) : (find1 G M keep lt [c]).2 = none ↔ ¬ Fnd G keep lt c := by
  have hs := h.search lt (src := [c]) (fun x hx => by simp at hx; subst hx; exact hc) (by simp)
  have hsrc : (fun x => x ∈ [c]) = (fun x => x = c) := by funext x; simp
  constructor
  · intro hn
    obtain ⟨h1, h2⟩ := hs.2.1 hn
    rintro ⟨y, hy, hend⟩
    have hy2 := (h1 y).2 (by rw [show (fun x => x ∈ [c]) = (· = c) from hsrc]; exact hy)
    obtain ⟨q1, q2⟩ := h2 y hy2
    rcases hend with hk | ⟨k, hk, hl, hb⟩
    · rw [q1] at hk; cases hk
    · exact q2 k hk hl hb
  · intro hn
    cases hf : (find1 G M keep lt [c]).2 with
    | none => rfl
    | some r =>
      obtain ⟨w, o⟩ := r
      obtain ⟨hg, ho⟩ := hs.1 w o hf
      have hr := hg.rch
      rw [show (fun x => x ∈ [c]) = (· = c) from hsrc] at hr
      refine absurd ⟨lastN w, hr, ?_⟩ hn
      rcases ho with ⟨-, h1⟩ | ⟨k, -, -, h2, h3, h4⟩
      · exact .inl h1
      · exact .inr ⟨k, h2, h3, h4⟩
/-- The net of a pond. -/
def flowF (G : Grid) (M : Nat) (wl : List Nat) (keep : Nat → Bool) : List Sd := netF G M wl keep (stk G (wantB wl) + 1) []
def smallB (G : Grid) (M : Nat) (wl : List Nat) (keep : Nat → Bool) (c : Nat) : Bool := isR (find1 G M keep (fre (flowF G M wl keep)) wl).1.rd c
def largeB (G : Grid) (M : Nat) (wl : List Nat) (keep : Nat → Bool) (c : Nat) : Bool := decide (c < G.n) && (find1 G M keep (fre (flowF G M wl keep)) [c]).2.isNone
/-- The smallest and the largest best water. -/
theorem best_is (h : Pond G M wl keep) : ∃ b, Fl G (wantB wl) keep (flowF G M wl keep) b ∧
    (Enc G.n (wantB wl) keep (smallB G M wl keep) ∧ val G.n (wantB wl) b = stk G (smallB G M wl keep)) ∧ (Enc G.n (wantB wl) keep (largeB G M wl keep) ∧ val G.n (wantB wl) b = stk G (largeB G M wl keep)) ∧
    ∀ u, Enc G.n (wantB wl) keep u → stk G (smallB G M wl keep) ≤ stk G u ∧ (stk G u = stk G (smallB G M wl keep) → ∀ x, x < G.n → (smallB G M wl keep x = true → u x = true) ∧ (u x = true → largeB G M wl keep x = true)) := by
  obtain ⟨b, hF, hn⟩ := netF_is h (stk G (wantB wl) + 1) (Fl.zero G (wantB wl) keep) (by
    have h0 : val G.n (wantB wl) (fun _ => 0) = 0 := by
      have := (Fl.zero G (wantB wl) keep).bal fun x => bi (wantB wl x)
      unfold val
      rw [← this]; rfl
    rw [h0]; omega)
  have hF : Fl G (wantB wl) keep (flowF G M wl keep) b := hF
  have hn : (find1 G M keep (fre (flowF G M wl keep)) wl).2 = none := hn
  obtain ⟨s1, s2⟩ := (h.search (fre (flowF G M wl keep)) h.wn h.wnd).2.1 hn
  have hwn : ∀ x, wantB wl x = true → x < G.n := fun x hx => h.wn x (wantB_iff.1 hx)
  have hsm : ∀ x, smallB G M wl keep x = true ↔ Rch G (fre (flowF G M wl keep)) (fun c => wantB wl c = true) x := fun x => by
    have e : (fun c => wantB wl c = true) = (fun c => c ∈ wl) := by funext c; exact propext wantB_iff
    rw [e]; exact s1 x
  have hs := small_tight hF hwn hsm (fun x hx => (s2 x hx).1) (fun x k hx hk hf => (s2 x hx).2 k hk (fre_iff.2 hf))
  have hlg : ∀ x, largeB G M wl keep x = true ↔ x < G.n ∧ ¬ Fnd G keep (fre (flowF G M wl keep)) x := fun x => by
    unfold largeB
    rw [Bool.and_eq_true, decide_eq_true_eq, Option.isNone_iff_eq_none]
    constructor
    · rintro ⟨q1, q2⟩; exact ⟨q1, (find_fnd h _ q1).1 q2⟩
    · rintro ⟨q1, q2⟩; exact ⟨q1, (find_fnd h _ q1).2 q2⟩
  have hno : ∀ x, wantB wl x = true → ¬ Fnd G keep (fre (flowF G M wl keep)) x := fun x hx => by
    rintro ⟨y, hy, hend⟩
    have hry : Rch G (fre (flowF G M wl keep)) (fun c => wantB wl c = true) y := Rch.trans (.base hx) hy
    have hy2 := (hsm y).2 hry
    obtain ⟨q1, q2⟩ := s2 y hy2
    rcases hend with hk | ⟨k, hk, hl, hb⟩
    · rw [q1] at hk; cases hk
    · exact q2 k hk hl hb
  have hl := large_tight hF hwn hlg hno
  refine ⟨b, hF, hs, hl, fun u hu => ⟨?_, fun he x hx => ⟨fun hsx => ?_, fun hux => ?_⟩⟩⟩
  · have := hF.le hu
    have := hs.2
    omega
  · exact small_least hF hwn hu (by rw [he]; exact hs.2) ((hsm x).1 hsx)
  · exact (hlg x).2 ⟨hx, large_most hF hu (by rw [he]; exact hs.2) hx hux⟩
end
end Go.Proofs.YtppjnpempgpkaaaGreat
namespace Go.Proofs.YtppjnpempgpkaaaGreat
set_option linter.unusedVariables false
set_option linter.unusedSimpArgs false
def bhP (W H : Nat) (s : Sd) : Option Nat := match s.2 with
  | 0 => if s.1 % W + 1 < W then some (s.1 + 1) else none
  | 1 => if s.1 / W + 1 < H then some (s.1 + W) else none
  | 2 => if 0 < s.1 % W then some (s.1 - 1) else none
  | 3 => if 0 < s.1 / W then some (s.1 - W) else none
  | _ => none
def gridOk : Bool := (List.range 9).all fun W => (List.range 9).all fun H => (List.range (W * H)).all fun c => (List.range 4).all fun k => match bhP W H (c, k) with
  | none => true
  | some d => Nat.blt d (W * H) && (match bhP W H (d, opp k) with | some x => Nat.beq x c | none => false) && !Nat.beq d c && (List.range 4).all fun k' => Nat.beq k k' || (match bhP W H (c, k') with | some x => !Nat.beq x d | none => true)
set_option maxRecDepth 100000 in
theorem grid_ok : gridOk = true := by decide +kernel
theorem grid_at {W H c k d : Nat} (hW : W ≤ 8) (hH : H ≤ 8) (hc : c < W * H) (hk : k < 4) (hb : bhP W H (c, k) = some d) : d < W * H ∧ bhP W H (d, opp k) = some c ∧ d ≠ c ∧ ∀ k', k' < 4 → bhP W H (c, k') = some d → k = k' := by
  have h := grid_ok
  unfold gridOk at h
  have h1 := List.all_eq_true.1 h W (List.mem_range.2 (by omega))
  have h2 := List.all_eq_true.1 h1 H (List.mem_range.2 (by omega))
  have h3 := List.all_eq_true.1 h2 c (List.mem_range.2 hc)
  have h4 := List.all_eq_true.1 h3 k (List.mem_range.2 hk)
  rw [hb] at h4
  simp only [Bool.and_eq_true] at h4
  obtain ⟨⟨⟨q1, q2⟩, q3⟩, q4⟩ := h4
  refine ⟨Nat.le_of_ble_eq_true q1, ?_, fun e => ?_, fun k' hk' hb' => ?_⟩
  · cases hx : bhP W H (d, opp k) with
    | none => rw [hx] at q2; cases q2
    | some x => rw [hx] at q2; rw [Nat.eq_of_beq_eq_true q2]
  · subst e; simp at q3
  · have q5 := List.all_eq_true.1 q4 k' (List.mem_range.2 hk')
    rw [hb'] at q5
    simp only [Bool.or_eq_true] at q5
    rcases q5 with q5 | q5
    · exact Nat.eq_of_beq_eq_true q5
    · simp at q5
/-- The grid of a pond. -/
def gridP (W H : Nat) (hW : W ≤ 8) (hH : H ≤ 8) : Grid where
  n := W * H
  bh := bhP W H
  back := fun c k d hc hk hb => ⟨(grid_at hW hH hc hk hb).1, (grid_at hW hH hc hk hb).2.1⟩
  one := fun c k k' d hc hk hk' hb hb' => (grid_at hW hH hc hk hb).2.2.2 k' hk' hb'
  ne := fun c k d hc hk hb => (grid_at hW hH hc hk hb).2.2.1
end Go.Proofs.YtppjnpempgpkaaaGreat
namespace Go.Proofs.YtppjnpempgpkaaaGreat
set_option linter.unusedVariables false
set_option linter.unusedSimpArgs false
def takeF (F ss : List Sd) : List Sd := ss.foldl List.erase F
theorem take_mem : ∀ {ss F : List Sd} {s : Sd}, s ∈ takeF F ss → s ∈ F
  | [], _, _, h => h
  | x :: ss, F, s, h => List.mem_of_mem_erase (take_mem (ss := ss) h)
theorem take_nodup : ∀ {ss F : List Sd}, F.Nodup → (takeF F ss).Nodup
  | [], _, h => h
  | x :: ss, F, h => take_nodup (ss := ss) (h.erase x)
theorem take_not : ∀ {ss F : List Sd}, F.Nodup → ∀ s ∈ ss, s ∉ takeF F ss
  | x :: ss, F, h, s, hs, hm => by
    rcases List.mem_cons.1 hs with rfl | hs
    · exact h.not_mem_erase (take_mem (ss := ss) hm)
    · exact take_not (ss := ss) (h.erase x) s hs hm
theorem take_keep : ∀ {ss F : List Sd} {s : Sd}, s ∈ F → s ∉ ss → s ∈ takeF F ss
  | [], _, _, h, _ => h
  | x :: ss, F, s, h, hn => by
    have h1 : s ≠ x := fun e => hn (by simp [e])
    exact take_keep (ss := ss) ((List.mem_erase_of_ne h1).2 h) (fun hm => hn (by simp [hm]))
theorem take_dif (G : Grid) (f : Nat → Int) : ∀ {ss F : List Sd}, ss.Nodup → (∀ s ∈ ss, s ∈ F) → dif G f (takeF F ss) = dif G f F - dif G f ss
  | [], F, _, _ => by show dif G f F = _; simp [dif]
  | x :: ss, F, hn, hs => by
    rw [List.nodup_cons] at hn
    have hx := hs x (by simp)
    show dif G f (takeF (F.erase x) ss) = _
    rw [take_dif G f hn.2 (fun s h => (List.mem_erase_of_ne (fun e => hn.1 (by rw [← e]; exact h))).2 (hs s (by simp [h]))), dif_erase G f hx, dif_cons]
    omega
theorem take_len : ∀ {ss F : List Sd}, ss.Nodup → (∀ s ∈ ss, s ∈ F) → (takeF F ss).length + ss.length = F.length
  | [], F, _, _ => rfl
  | x :: ss, F, hn, hs => by
    rw [List.nodup_cons] at hn
    have hx := hs x (by simp)
    have h1 := take_len (ss := ss) (F := F.erase x) hn.2 (fun s h => (List.mem_erase_of_ne (fun e => hn.1 (by rw [← e]; exact h))).2 (hs s (by simp [h])))
    have h2 := List.length_erase_of_mem hx
    have h3 : 0 < F.length := List.length_pos_of_mem hx
    show (takeF (F.erase x) ss).length + (ss.length + 1) = _
    omega
def memB (F : List Sd) (s : Sd) : Bool := decide (s ∈ F)
theorem memB_iff {F : List Sd} {s : Sd} : memB F s = true ↔ s ∈ F := by unfold memB; simp
section
variable {G : Grid} {want keep : Nat → Bool} {F : List Sd} {b : Nat → Int}
/-- What leaves a cell that is wanted is its balance. -/
theorem out_bal (h : Fl G want keep F b) {c : Nat} (hc : c < G.n) (hw : want c = true) : b c = (F.countP fun s => decide (s.1 = c) : Nat) := by
  have h1 := h.bal fun x => bi (decide (x = c))
  rw [dif_bi] at h1
  have e1 : (F.countP fun s => !decide (s.1 = c) && inW (fun x => decide (x = c)) (G.bh s)) = 0 := by
    rw [List.countP_eq_zero]
    intro s hs
    cases hb : G.bh s with
    | none => simp [inW]
    | some d =>
      have : d ≠ c := fun e => by have := h.into s hs d hb; rw [e, hw] at this; cases this
      simp [inW, this]
  have e2 : F.countP (lv G fun x => decide (x = c)) = F.countP fun s => decide (s.1 = c) := by
    refine List.countP_congr fun s hs => ?_
    unfold lv
    cases hb : G.bh s with
    | none => simp [inW]
    | some d =>
      have : d ≠ c := fun e => by have := h.into s hs d hb; rw [e, hw] at this; cases this
      simp [inW, this]
  have e3 : wsum G.n b (fun x => bi (decide (x = c))) = b c := by
    have : wsum G.n b (fun x => bi (decide (x = c))) = wsum G.n (fun x => 0 + if x = c then b c else 0) (fun _ => 1) := by
      unfold wsum
      congr 1
      refine List.map_congr_left fun x _ => ?_
      by_cases e : x = c
      · subst e; simp [bi]
      · simp [bi, e]
    rw [this, wsum_pt (fun _ => 0) (fun _ => 1) c (b c) G.n hc]
    have h0 : wsum G.n (fun _ => 0) (fun _ => 1) = 0 := by
      unfold wsum
      have : ∀ l : List Nat, (l.map fun _ => (0 : Int) * 1).sum = 0 := by
        intro l
        induction l with
        | nil => rfl
        | cons a l ih => rw [List.map_cons, List.sum_cons, ih]; rfl
      exact this _
    rw [h0]; omega
  rw [e1, e2, e3] at h1
  simpa using h1.symm
open Classical in
/-- From a cell that is wanted, and that a way leaves, an end is reached over sides of ways. -/
theorem way_on (h : Fl G want keep F b) {c : Nat} (hc : c < G.n) (hw : want c = true) (hl : ∃ s ∈ F, s.1 = c) : Fnd G keep (memB F) c := by
  apply Classical.byContradiction
  intro hn
  obtain ⟨r, hr⟩ : ∃ r : Nat → Bool, ∀ y, r y = true ↔ Rch G (memB F) (· = c) y := ⟨fun y => decide (Rch G (memB F) (· = c) y), fun y => by simp⟩
  have hrn : ∀ y, r y = true → y < G.n := fun y hy => Rch.lt (fun x hx => by rw [hx]; exact hc) ((hr y).1 hy)
  have hcl : ∀ s ∈ F, r s.1 = true → ∃ d, G.bh s = some d ∧ r d = true := fun s hs hrs => by
    obtain ⟨o1, o2⟩ := h.ok s hs
    cases hb : G.bh s with
    | none => exact absurd ⟨s.1, (hr s.1).1 hrs, .inr ⟨s.2, o2, memB_iff.2 hs, hb⟩⟩ hn
    | some d => exact ⟨d, rfl, (hr d).2 (.step ((hr s.1).1 hrs) o2 (memB_iff.2 hs) hb)⟩
  have h1 := h.bal fun x => bi (r x)
  rw [dif_bi] at h1
  have e1 : F.countP (lv G r) = 0 := by
    rw [List.countP_eq_zero]
    intro s hs
    unfold lv
    cases hrs : r s.1 with
    | false => simp
    | true =>
      obtain ⟨d, q1, q2⟩ := hcl s hs hrs
      rw [q1]; simp [inW, q2]
  have hone : ∀ x, r x = true → want x = true → x = c := fun x hx hwx => by
    cases (hr x).1 hx with
    | base e => exact e
    | @step y k _ hy hk hl2 hb =>
      have := h.into (y, k) (memB_iff.1 hl2) x hb
      rw [hwx] at this; cases this
  have e3 : wsum G.n b (fun x => bi (r x)) = b c := by
    have : wsum G.n b (fun x => bi (r x)) = wsum G.n (fun x => 0 + if x = c then b c else 0) (fun _ => 1) := by
      unfold wsum
      congr 1
      refine List.map_congr_left fun x _ => ?_
      by_cases e : x = c
      · subst e
        have : r x = true := (hr x).2 (.base rfl)
        simp [bi, this]
      · cases hrx : r x with
        | false => simp [bi, e, hrx]
        | true =>
          have hwx : want x = false := by
            cases hwx : want x with
            | false => rfl
            | true => exact absurd (hone x hrx hwx) e
          have hkx : keep x = false := by
            cases hkx : keep x with
            | false => rfl
            | true => exact absurd ⟨x, (hr x).1 hrx, .inl hkx⟩ hn
          simp [bi, e, h.free x hwx hkx]
    rw [this, wsum_pt (fun _ => 0) (fun _ => 1) c (b c) G.n hc]
    have h0 : wsum G.n (fun _ => 0) (fun _ => 1) = 0 := by
      unfold wsum
      have : ∀ l : List Nat, (l.map fun _ => (0 : Int) * 1).sum = 0 := by
        intro l
        induction l with
        | nil => rfl
        | cons a l ih => rw [List.map_cons, List.sum_cons, ih]; rfl
      exact this _
    rw [h0]; omega
  rw [e1, e3, out_bal h hc hw] at h1
  have hpos : 0 < F.countP fun s => decide (s.1 = c) := by
    obtain ⟨s, hs, he⟩ := hl
    exact List.countP_pos_iff.2 ⟨s, hs, by simpa using he⟩
  omega
/-- One way is taken out. -/
theorem Fl.take (h : Fl G want keep F b) (hdis : ∀ x, want x = true → keep x = false) {c : Nat} {ss : List Sd} {e : Option Nat} (hp : Pth G c ss e) (hc : c < G.n) (hcw : want c = true) (he : ∀ y, e = some y → y < G.n ∧ keep y = true)
    (hnd : ss.Nodup) (hs : ∀ s ∈ ss, s ∈ F) : ∃ b', Fl G want keep (takeF F ss) b' ∧ val G.n want b' = val G.n want b - 1 := by
  have hfree : ∀ x, want x = false → keep x = false → x ≠ c := fun x hw _ ex => by rw [ex, hcw] at hw; cases hw
  have hh : Half G want keep (takeF F ss) := ⟨take_nodup h.nd, fun s q => h.ok s (take_mem q), fun s q d hb hm => h.anti s (take_mem q) d hb (take_mem hm), fun s q => h.into s (take_mem q), fun s q => h.out s (take_mem q)⟩
  cases e with
  | none =>
    refine ⟨fun x => b x + if x = c then -1 else 0, ⟨hh.nd, hh.ok, hh.anti, fun f => ?_, fun x hw hk => ?_, hh.into, hh.out⟩, ?_⟩
    · rw [take_dif G f hnd hs, h.bal f, hp.tele f, wsum_pt b f c (-1) G.n hc]
      simp only [fo]; omega
    · rw [h.free x hw hk, if_neg (hfree x hw hk)]; rfl
    · unfold val
      rw [wsum_pt b _ c (-1) G.n hc, hcw]
      simp [bi]; omega
  | some y =>
    obtain ⟨hy, hyk⟩ := he y rfl
    have hyw : want y = false := by
      cases hwy : want y with
      | false => rfl
      | true => rw [hdis y hwy] at hyk; cases hyk
    refine ⟨fun x => (b x + if x = c then -1 else 0) + if x = y then 1 else 0, ⟨hh.nd, hh.ok, hh.anti, fun f => ?_, fun x hw hk => ?_, hh.into, hh.out⟩, ?_⟩
    · rw [take_dif G f hnd hs, h.bal f, hp.tele f, wsum_pt (fun x => b x + if x = c then -1 else 0) f y 1 G.n hy, wsum_pt b f c (-1) G.n hc]
      simp only [fo]; omega
    · have : x ≠ y := fun e => by rw [e, hyk] at hk; cases hk
      rw [h.free x hw hk, if_neg (hfree x hw hk), if_neg this]; rfl
    · unfold val
      rw [wsum_pt (fun x => b x + if x = c then -1 else 0) _ y 1 G.n hy, wsum_pt b _ c (-1) G.n hc, hcw, hyw]
      simp [bi]; omega
end
end Go.Proofs.YtppjnpempgpkaaaGreat
namespace Go.Proofs.YtppjnpempgpkaaaGreat
set_option linter.unusedVariables false
set_option linter.unusedSimpArgs false
theorem cross_one {G : Grid} {w : Nat → Bool} {c : Nat} {ss : List Sd} {e : Option Nat} (hp : Pth G c ss e) (h1 : w c = true) (h2 : inW w e = false) : 1 ≤ ss.countP (lv G w) := by
  have h := hp.tele fun x => bi (w x)
  rw [dif_bi, fo_bi, h1, h2] at h
  simp only [bi] at h
  simp at h
  omega
theorem paths_len {G : Grid} {w : Nat → Bool} : ∀ {L : List (List Sd)}, (∀ ss ∈ L, ∃ c e, Pth G c ss e ∧ w c = true ∧ inW w e = false) → L.length ≤ L.flatten.countP (lv G w)
  | [], _ => Nat.le_refl _
  | ss :: L, h => by
    have ih := paths_len (L := L) fun x hx => h x (by simp [hx])
    obtain ⟨c, e, h1, h2, h3⟩ := h ss (by simp)
    have := cross_one h1 h2 h3
    rw [List.flatten_cons, List.countP_append, List.length_cons]
    omega
/-- Ways that use no side twice are no more than the sticks of water that has the first cells of all, and none of the last ones. -/
theorem paths_le {G : Grid} {w : Nat → Bool} {L : List (List Sd)} (hn : L.flatten.Nodup) (ho : ∀ s ∈ L.flatten, s.1 < G.n ∧ s.2 < 4) (h : ∀ ss ∈ L, ∃ c e, Pth G c ss e ∧ w c = true ∧ inW w e = false) : L.length ≤ stk G w :=
  Nat.le_trans (paths_len h) (countP_sub (lv G w) hn fun s hs => mem_allS.2 (ho s hs))
/-- A way. -/
structure WayR (G : Grid) (wl : List Nat) (keep : Nat → Bool) (w : List Nat) (o : Option Nat) : Prop where
  ne : w ≠ []
  hd : w.headD 0 ∈ wl
  nd : w.Nodup
  cells : ∀ x ∈ w, x < G.n
  steps : StepsOk G (fun _ => false) (fun _ => true) [] w
  fin : (o = none ∧ keep (lastN w) = true) ∨ ∃ k, o = some k ∧ k < 4 ∧ G.bh (lastN w, k) = none
theorem StepsOk.any {G : Grid} {keep : Nat → Bool} {lt : Sd → Bool} {src : List Nat} : ∀ {w : List Nat}, StepsOk G keep lt src w → StepsOk G (fun _ => false) (fun _ => true) [] w
  | [], _ => trivial
  | [_], _ => trivial
  | c :: d :: w, h => by
    obtain ⟨⟨k, h1, h2, h3⟩, h4, h5, h6⟩ := h
    exact ⟨⟨k, h1, rfl, h3⟩, rfl, by simp, StepsOk.any h6⟩
section
variable {G : Grid} {M : Nat} {wl : List Nat} {keep : Nat → Bool}
theorem take_one (h : Pond G M wl keep) {F : List Sd} {b : Nat → Int} (hF : Fl G (wantB wl) keep F b) {c : Nat} (hc : c ∈ wl) (hl : ∃ s ∈ F, s.1 = c) :
    ∃ w o, (find1 G M keep (memB F) [c]).2 = some (w, o) ∧ WayR G wl keep w o ∧ (usesW G w o).Nodup ∧ (∀ s ∈ usesW G w o, s ∈ F) ∧ usesW G w o ≠ [] ∧
      (∃ b', Fl G (wantB wl) keep (takeF F (usesW G w o)) b' ∧ val G.n (wantB wl) b' = val G.n (wantB wl) b - 1) := by
  have hcn := h.wn c hc
  have hsrc : ∀ x ∈ [c], x < G.n := fun x hx => by simp at hx; subst hx; exact hcn
  have hfnd := way_on hF hcn (wantB_iff.2 hc) hl
  have hsr := h.search (memB F) hsrc (by simp)
  cases hf : (find1 G M keep (memB F) [c]).2 with
  | none => exact absurd hfnd ((find_fnd h _ hcn).1 hf)
  | some r =>
    obtain ⟨w, o⟩ := r
    obtain ⟨hg, ho⟩ := hsr.1 w o hf
    obtain ⟨hst, hnd, c', t, hw, hc'⟩ := hg.steps
    simp at hc'
    subst hc'
    have hcells := hg.cell hsrc
    obtain ⟨u1, u2, u3⟩ := uses_is (fun _ => trivial) o hg.ne hst hcells (by
      rcases ho with ⟨h1, -⟩ | ⟨k, h1, h2, h3, h4, h5⟩
      · exact .inl h1
      · exact .inr ⟨k, h1, h3, h4, h2, h5⟩)
    have hhd : w.headD 0 = c' := by rw [hw]; rfl
    rw [hhd] at u1
    have hun : ((usesW G w o).map Prod.fst).Nodup := u3.sublist.nodup hnd
    have huN : (usesW G w o).Nodup := nd_of_map Prod.fst hun
    have hus : ∀ s ∈ usesW G w o, s ∈ F := fun s hs => memB_iff.1 (u2 s hs).1
    refine ⟨w, o, rfl, ⟨hg.ne, by rw [hhd]; exact hc, hnd, hcells, hst.any, ?_⟩, huN, hus, ?_, ?_⟩
    · rcases ho with h1 | ⟨k, h1, h2, h3, h4, h5⟩
      · exact .inl h1
      · exact .inr ⟨k, h1, h3, h5⟩
    · intro hnil
      rw [hnil] at u1
      rcases ho with ⟨h1, h2⟩ | ⟨k, h1, h2, -⟩
      · rw [if_pos h1] at u1
        cases u1
        rw [h.dis _ hc] at h2; cases h2
      · rw [if_neg (by rw [h1]; simp)] at u1
        cases u1
    · refine hF.take (fun x hx => h.dis x (wantB_iff.1 hx)) u1 hcn (wantB_iff.2 hc) (fun y hy => ?_) huN hus
      rcases ho with ⟨h1, h2⟩ | ⟨k, h1, -⟩
      · rw [if_pos h1] at hy
        cases hy
        exact ⟨hcells _ hg.last_mem, h2⟩
      · rw [if_neg (by rw [h1]; simp)] at hy; cases hy
abbrev WY := List Nat × Option Nat
/-- Whether a way leaves a cell. -/
def outs (F : List Sd) (c : Nat) : Bool := F.any fun s => decide (s.1 = c)
theorem outs_iff {F : List Sd} {c : Nat} : outs F c = true ↔ ∃ s ∈ F, s.1 = c := by unfold outs; simp
def takeC (G : Grid) (M : Nat) (keep : Nat → Bool) (c : Nat) : Nat → List Sd × List WY → List Sd × List WY
  | 0, st => st
  | f + 1, st => if outs st.1 c = true then (match (find1 G M keep (memB st.1) [c]).2 with
      | none => st
      | some (w, o) => takeC G M keep c f (takeF st.1 (usesW G w o), st.2 ++ [(w, o)])) else st
def sidesW (G : Grid) (l : List WY) : List Sd := l.flatMap fun w => usesW G w.1 w.2
/-- Where the taking stands: F0 is what there was. -/
structure TI (G : Grid) (wl : List Nat) (keep : Nat → Bool) (F0 : List Sd) (v : Int) (st : List Sd × List WY) : Prop where
  fl : ∃ b, Fl G (wantB wl) keep st.1 b ∧ val G.n (wantB wl) b + st.2.length = v
  ways : ∀ w ∈ st.2, WayR G wl keep w.1 w.2
  nd : (sidesW G st.2).Nodup
  sub : ∀ s ∈ sidesW G st.2, s ∈ F0 ∧ s ∉ st.1
  rest : ∀ s ∈ st.1, s ∈ F0
theorem sidesW_snoc (G : Grid) (l : List WY) (w : WY) : sidesW G (l ++ [w]) = sidesW G l ++ usesW G w.1 w.2 := by unfold sidesW; rw [List.flatMap_append]; simp
theorem takeC_is (h : Pond G M wl keep) {F0 : List Sd} {v : Int} {c : Nat} (hc : c ∈ wl) : ∀ (f : Nat) {st : List Sd × List WY}, TI G wl keep F0 v st → st.1.length < f → TI G wl keep F0 v (takeC G M keep c f st) ∧ outs (takeC G M keep c f st).1 c = false ∧ ∀ s ∈ (takeC G M keep c f st).1, s ∈ st.1
  | 0, st, _, hlt => by omega
  | f + 1, st, hi, hlt => by
    unfold takeC
    cases ho : outs st.1 c with
    | false => rw [if_neg (by simp)]; exact ⟨hi, ho, fun s hs => hs⟩
    | true =>
      rw [if_pos rfl]
      obtain ⟨b, hF, hv⟩ := hi.fl
      obtain ⟨w, o, e1, e2, e3, e4, e5, b', e6, e7⟩ := take_one h hF hc (outs_iff.1 ho)
      rw [e1]
      dsimp only
      have hl := take_len e3 e4
      have hpos : 0 < (usesW G w o).length := List.length_pos_iff.2 e5
      suffices hTI : TI G wl keep F0 v (takeF st.1 (usesW G w o), st.2 ++ [(w, o)]) by
        obtain ⟨r1, r2, r3⟩ := takeC_is h hc f hTI (by dsimp only; omega)
        exact ⟨r1, r2, fun s hs => take_mem (r3 s hs)⟩
      refine ⟨⟨b', e6, by simp; omega⟩, fun x hx => ?_, ?_, fun s hs => ?_, fun s hs => hi.rest s (take_mem hs)⟩
      · rcases List.mem_append.1 hx with hx | hx
        · exact hi.ways x hx
        · simp at hx
          subst hx
          exact e2
      · show (sidesW G (st.2 ++ [(w, o)])).Nodup
        rw [sidesW_snoc, List.nodup_append]
        exact ⟨hi.nd, e3, fun a ha x hx e => (hi.sub a ha).2 (by rw [e]; exact e4 x hx)⟩
      · have hs : s ∈ sidesW G (st.2 ++ [(w, o)]) := hs
        rw [sidesW_snoc] at hs
        rcases List.mem_append.1 hs with hs | hs
        · exact ⟨(hi.sub s hs).1, fun hm => (hi.sub s hs).2 (take_mem hm)⟩
        · exact ⟨hi.rest s (e4 s hs), take_not hF.nd s hs⟩
def takeAll (G : Grid) (M : Nat) (keep : Nat → Bool) (wl : List Nat) (F : List Sd) : List Sd × List WY := wl.foldl (fun st c => takeC G M keep c (st.1.length + 1) st) (F, [])
theorem takeAll_fold (h : Pond G M wl keep) {F0 : List Sd} {v : Int} : ∀ (l : List Nat) {st : List Sd × List WY}, (∀ c ∈ l, c ∈ wl) → TI G wl keep F0 v st → TI G wl keep F0 v (l.foldl (fun st c => takeC G M keep c (st.1.length + 1) st) st) ∧ (∀ c ∈ l, outs (l.foldl (fun st c => takeC G M keep c (st.1.length + 1) st) st).1 c = false) ∧ ∀ s ∈ (l.foldl (fun st c => takeC G M keep c (st.1.length + 1) st) st).1, s ∈ st.1
  | [], st, _, hi => ⟨hi, fun c hc => (by cases hc), fun s hs => hs⟩
  | a :: l, st, hl, hi => by
    obtain ⟨a1, a2, a3⟩ := takeC_is h (hl a (by simp)) (st.1.length + 1) hi (by omega)
    obtain ⟨b1, b2, b3⟩ := takeAll_fold h l (fun c hc => hl c (by simp [hc])) a1
    refine ⟨b1, fun c hc => ?_, fun s hs => a3 s (b3 s hs)⟩
    rcases List.mem_cons.1 hc with rfl | hc
    · cases ho : outs (List.foldl (fun st c => takeC G M keep c (st.1.length + 1) st) st (c :: l)).1 c with
      | false => rfl
      | true =>
        obtain ⟨s, hs, he⟩ := outs_iff.1 ho
        have := outs_iff.2 ⟨s, b3 s hs, he⟩
        rw [a2] at this; cases this
    · exact b2 c hc
theorem wsum_zero {n : Nat} {b f : Nat → Int} (h : ∀ x, x < n → b x * f x = 0) : wsum n b f = 0 := by
  unfold wsum
  have : ∀ l : List Nat, (∀ x ∈ l, x < n) → (l.map fun x => b x * f x).sum = 0 := by
    intro l
    induction l with
    | nil => intro _; rfl
    | cons a l ih =>
      intro hl
      rw [List.map_cons, List.sum_cons, ih fun x hx => hl x (by simp [hx]), h a (hl a (by simp))]; rfl
  exact this _ fun x hx => List.mem_range.1 hx
/-- The ways that are returned. -/
theorem ways_is (h : Pond G M wl keep) {F : List Sd} {b : Nat → Int} (hF : Fl G (wantB wl) keep F b) : ((takeAll G M keep wl F).2.length : Int) = val G.n (wantB wl) b ∧ (∀ w ∈ (takeAll G M keep wl F).2, WayR G wl keep w.1 w.2) ∧ (sidesW G (takeAll G M keep wl F).2).Nodup ∧ ∀ s ∈ sidesW G (takeAll G M keep wl F).2, s ∈ F := by
  obtain ⟨r1, r2, r3⟩ := takeAll_fold h (F0 := F) (v := val G.n (wantB wl) b) wl (st := (F, [])) (fun c hc => hc) ⟨⟨b, hF, by simp⟩, fun w hw => (by cases hw), List.nodup_nil, fun s hs => (by cases hs), fun s hs => hs⟩
  obtain ⟨b', h1, h2⟩ := r1.fl
  have h0 : val G.n (wantB wl) b' = 0 := by
    unfold val
    refine wsum_zero fun x hx => ?_
    cases hw : wantB wl x with
    | false => simp [bi]
    | true =>
      have ho := r2 x (wantB_iff.1 hw)
      have hb := out_bal h1 hx hw
      have : (List.countP (fun s => decide (s.1 = x)) (List.foldl (fun st c => takeC G M keep c (st.1.length + 1) st) (F, []) wl).1) = 0 := by
        rw [List.countP_eq_zero]
        intro s hs hd
        have := outs_iff.2 ⟨s, hs, by simpa using hd⟩
        rw [ho] at this; cases this
      rw [hb, this]; simp
  refine ⟨?_, r1.ways, r1.nd, fun s hs => (r1.sub s hs).1⟩
  have h2 : val G.n (wantB wl) b' + ((takeAll G M keep wl F).2.length : Int) = val G.n (wantB wl) b := h2
  omega
end
end Go.Proofs.YtppjnpempgpkaaaGreat
namespace Go.Proofs.YtppjnpempgpkaaaGreat
set_option linter.unusedVariables false
set_option linter.unusedSimpArgs false
/-- The smallest and the largest best water, and their sticks. -/
structure Best (G : Grid) (want keep s l : Nat → Bool) (n : Nat) : Prop where
  es : Enc G.n want keep s
  el : Enc G.n want keep l
  ns : stk G s = n
  nl : stk G l = n
  le : ∀ u, Enc G.n want keep u → n ≤ stk G u
  bt : ∀ u, Enc G.n want keep u → stk G u = n → ∀ x, x < G.n → (s x = true → u x = true) ∧ (u x = true → l x = true)
theorem Pond.best {G : Grid} {M : Nat} {wl : List Nat} {keep : Nat → Bool} (h : Pond G M wl keep) : Best G (wantB wl) keep (smallB G M wl keep) (largeB G M wl keep) (stk G (smallB G M wl keep)) := by
  obtain ⟨b, h1, h2, h3, h4⟩ := best_is h
  exact ⟨h2.1, h3.1, rfl, by have := h2.2; have := h3.2; omega, fun u hu => (h4 u hu).1, fun u hu he => (h4 u hu).2 he⟩
section
variable {G : Grid} {want keep want' keep' s l t m u v : Nat → Bool} {n a b : Nat}
theorem enc_and (h : Enc G.n want keep u) (h' : Enc G.n want' keep' v) (hw : ∀ x, want x = true → want' x = true) : Enc G.n want keep (fun x => u x && v x) := fun x hx => ⟨fun q => by
  show (u x && v x) = true
  rw [(h x hx).1 q, (h' x hx).1 (hw x q)]; rfl, fun q => by
  show (u x && v x) = false
  rw [(h x hx).2 q]; rfl⟩
theorem enc_or (h : Enc G.n want keep u) (h' : Enc G.n want' keep' v) (hk : ∀ x, keep' x = true → keep x = true) : Enc G.n want' keep' (fun x => u x || v x) := fun x hx => ⟨fun q => by
  show (u x || v x) = true
  rw [(h' x hx).1 q]; simp, fun q => by
  show (u x || v x) = false
  rw [(h' x hx).2 q, (h x hx).2 (hk x q)]; rfl⟩
/-- With more wanted there is no less. -/
theorem more_want (h : Best G want keep s l n) (h' : Best G want' keep t m a) (hw : ∀ x, want x = true → want' x = true) : n ≤ a ∧ ∀ x, x < G.n → (s x = true → t x = true) ∧ (l x = true → m x = true) := by
  have hle : ∀ u, Enc G.n want' keep u → Enc G.n want keep u := fun u hu x hx => ⟨fun q => (hu x hx).1 (hw x q), (hu x hx).2⟩
  refine ⟨by have := h.le t (hle t h'.es); have := h'.ns; omega, fun x hx => ⟨fun q => ?_, fun q => ?_⟩⟩
  · have h1 := stk_sub G s t
    have e1 := enc_and (G := G) h.es h'.es hw
    have e2 := enc_or (G := G) h.es h'.es (fun x hx => hx)
    have b1 := h.le _ e1
    have b2 := h'.le _ e2
    have := h.ns
    have := h'.ns
    have q2 := ((h.bt _ e1 (by omega)) x hx).1 q
    rw [Bool.and_eq_true] at q2
    exact q2.2
  · have h1 := stk_sub G l m
    have e1 := enc_and (G := G) h.el h'.el hw
    have e2 := enc_or (G := G) h.el h'.el (fun x hx => hx)
    have b1 := h.le _ e1
    have b2 := h'.le _ e2
    have := h.nl
    have := h'.nl
    exact ((h'.bt _ e2 (by omega)) x hx).2 (by show (l x || m x) = true; rw [q]; rfl)
/-- With more kept out there is no more. -/
theorem more_keep (h : Best G want keep s l n) (h' : Best G want keep' t m a) (hk : ∀ x, keep x = true → keep' x = true) : n ≤ a ∧ ∀ x, x < G.n → (t x = true → s x = true) ∧ (m x = true → l x = true) := by
  have hle : ∀ u, Enc G.n want keep' u → Enc G.n want keep u := fun u hu x hx => ⟨(hu x hx).1, fun q => (hu x hx).2 (hk x q)⟩
  refine ⟨by have := h.le t (hle t h'.es); have := h'.ns; omega, fun x hx => ⟨fun q => ?_, fun q => ?_⟩⟩
  · have h1 := stk_sub G t s
    have e1 := enc_and (G := G) h'.es h.es (fun x hx => hx)
    have e2 := enc_or (G := G) h'.es h.es hk
    have b1 := h'.le _ e1
    have b2 := h.le _ e2
    have := h.ns
    have := h'.ns
    have q2 := ((h'.bt _ e1 (by omega)) x hx).1 q
    rw [Bool.and_eq_true] at q2
    exact q2.2
  · have h1 := stk_sub G m l
    have e1 := enc_and (G := G) h'.el h.el (fun x hx => hx)
    have e2 := enc_or (G := G) h'.el h.el hk
    have b1 := h'.le _ e1
    have b2 := h.le _ e2
    have := h.nl
    have := h'.nl
    exact ((h.bt _ e2 (by omega)) x hx).2 (by show (m x || l x) = true; rw [q]; rfl)
/-- A cell more is wanted, or kept out: one of both needs no more sticks. -/
theorem more_one (h : Best G want keep s l n) (h1 : Best G want' keep t m a) (h2 : Best G want keep' u v b) {c : Nat} (hw : ∀ x, want' x = true ↔ want x = true ∨ x = c) (hk : ∀ x, keep' x = true ↔ keep x = true ∨ x = c) : min a b = n := by
  have q1 := (more_want h h1 fun x hx => (hw x).2 (.inl hx)).1
  have q2 := (more_keep h h2 fun x hx => (hk x).2 (.inl hx)).1
  have e : a ≤ n ∨ b ≤ n := by
    cases hs : s c with
    | true =>
      have := h1.le s fun x hx => ⟨fun q => by
        rcases (hw x).1 q with q | q
        · exact (h.es x hx).1 q
        · rw [q]; exact hs, (h.es x hx).2⟩
      have := h.ns
      omega
    | false =>
      have := h2.le s fun x hx => ⟨(h.es x hx).1, fun q => by
        rcases (hk x).1 q with q | q
        · exact (h.es x hx).2 q
        · rw [q]; exact hs⟩
      have := h.ns
      omega
  omega
/-- What two ponds want, enclosed together. -/
theorem together (h : Best G want keep s l n) (h1 : Best G want' keep t m a) {w2 : Nat → Bool} (h2 : Best G w2 keep u v b) (hw : ∀ x, w2 x = true ↔ want x = true ∨ want' x = true) : b ≤ n + a ∧ max n a ≤ b := by
  have e1 : Enc G.n w2 keep (fun x => s x || t x) := fun x hx => ⟨fun q => by
    show (s x || t x) = true
    rcases (hw x).1 q with q | q
    · rw [(h.es x hx).1 q]; rfl
    · rw [(h1.es x hx).1 q]; simp, fun q => by
    show (s x || t x) = false
    rw [(h.es x hx).2 q, (h1.es x hx).2 q]; rfl⟩
  have q1 := h2.le _ e1
  have q2 := stk_sub G s t
  have q3 := h.ns
  have q4 := h1.ns
  have q5 := (more_want h h2 fun x hx => (hw x).2 (.inl hx)).1
  have q6 := (more_want h1 h2 fun x hx => (hw x).2 (.inr hx)).1
  omega
/-- The least and the greatest best water are but one each. -/
theorem best_one (h : Best G want keep s l n) (h' : Best G want keep t m a) : n = a ∧ ∀ x, x < G.n → s x = t x ∧ l x = m x := by
  have e : n = a := by
    have := h.le t h'.es
    have := h'.le s h.es
    have := h.ns
    have := h'.ns
    omega
  subst e
  refine ⟨rfl, fun x hx => ?_⟩
  have a1 := (h.bt t h'.es h'.ns x hx).1
  have a2 := (h'.bt s h.es h.ns x hx).1
  have a3 := (h.bt m h'.el h'.nl x hx).2
  have a4 := (h'.bt l h.el h.nl x hx).2
  constructor
  · cases hs : s x <;> cases ht : t x <;> simp_all
  · cases hs : l x <;> cases ht : m x <;> simp_all
/-- A grid seen another way. -/
structure Iso (G G' : Grid) where
  φ : Nat → Nat
  ψ : Nat → Nat
  σ : Nat → Nat
  to : ∀ c, c < G.n → φ c < G'.n ∧ ψ (φ c) = c
  fro : ∀ c, c < G'.n → ψ c < G.n ∧ φ (ψ c) = c
  si : ∀ k, k < 4 → σ k < 4 ∧ σ (σ k) = k
  bh : ∀ c k, c < G.n → k < 4 → G'.bh (φ c, σ k) = (G.bh (c, k)).map φ
theorem Iso.stk {G G' : Grid} (i : Iso G G') {w w' : Nat → Bool} (hw : ∀ c, c < G.n → w' (i.φ c) = w c) : YtppjnpempgpkaaaGreat.stk G' w' = YtppjnpempgpkaaaGreat.stk G w := by
  have hp : ((allS G.n).map fun s => (i.φ s.1, i.σ s.2)).Perm (allS G'.n) := by
    have hnd : ((allS G.n).map fun s => (i.φ s.1, i.σ s.2)).Nodup := by
      refine nd_map_on ?_ (allS_nodup _)
      intro s hs t ht e
      obtain ⟨a1, a2⟩ := mem_allS.1 hs
      obtain ⟨b1, b2⟩ := mem_allS.1 ht
      have e1 : i.φ s.1 = i.φ t.1 := congrArg Prod.fst e
      have e2 : i.σ s.2 = i.σ t.2 := congrArg Prod.snd e
      refine Prod.ext ?_ ?_
      · rw [← (i.to s.1 a1).2, e1, (i.to t.1 b1).2]
      · rw [← (i.si s.2 a2).2, e2, (i.si t.2 b2).2]
    rw [List.perm_ext_iff_of_nodup hnd (allS_nodup _)]
    intro t
    constructor
    · intro h
      obtain ⟨s, hs, rfl⟩ := List.mem_map.1 h
      obtain ⟨a1, a2⟩ := mem_allS.1 hs
      exact mem_allS.2 ⟨(i.to _ a1).1, (i.si _ a2).1⟩
    · intro h
      obtain ⟨a1, a2⟩ := mem_allS.1 h
      exact List.mem_map.2 ⟨(i.ψ t.1, i.σ t.2), mem_allS.2 ⟨(i.fro _ a1).1, (i.si _ a2).1⟩, Prod.ext (i.fro _ a1).2 (i.si _ a2).2⟩
  unfold YtppjnpempgpkaaaGreat.stk
  rw [← hp.countP_eq, List.countP_map]
  refine List.countP_congr fun s hs => ?_
  obtain ⟨a1, a2⟩ := mem_allS.1 hs
  show lv G' w' (i.φ s.1, i.σ s.2) = true ↔ lv G w s = true
  unfold lv
  rw [i.bh s.1 s.2 a1 a2, hw s.1 a1]
  cases hb : G.bh (s.1, s.2) with
  | none => exact Iff.rfl
  | some d =>
    show (w s.1 && !w' (i.φ d)) = true ↔ (w s.1 && !w d) = true
    rw [hw d (G.back s.1 s.2 d a1 a2 hb).1]
theorem Iso.best {G G' : Grid} (i : Iso G G') {want keep s l want' keep' : Nat → Bool} {n : Nat} (h : Best G want keep s l n) (hw : ∀ c, c < G.n → want' (i.φ c) = want c) (hk : ∀ c, c < G.n → keep' (i.φ c) = keep c) : Best G' want' keep' (fun c => s (i.ψ c)) (fun c => l (i.ψ c)) n := by
  have hb : ∀ u : Nat → Bool, Enc G'.n want' keep' u → Enc G.n want keep (fun c => u (i.φ c)) ∧ YtppjnpempgpkaaaGreat.stk G' u = YtppjnpempgpkaaaGreat.stk G (fun c => u (i.φ c)) := fun u hu => by
    refine ⟨fun x hx => ?_, i.stk fun c _ => rfl⟩
    have := hu (i.φ x) (i.to x hx).1
    rw [hw x hx, hk x hx] at this
    exact this
  have hf : ∀ u : Nat → Bool, Enc G.n want keep u → Enc G'.n want' keep' (fun c => u (i.ψ c)) ∧ YtppjnpempgpkaaaGreat.stk G' (fun c => u (i.ψ c)) = YtppjnpempgpkaaaGreat.stk G u := fun u hu => by
    refine ⟨fun x hx => ?_, i.stk fun c hc => by show u (i.ψ (i.φ c)) = u c; rw [(i.to c hc).2]⟩
    obtain ⟨a1, a2⟩ := i.fro x hx
    have := hu (i.ψ x) a1
    rw [← hw _ a1, ← hk _ a1, a2] at this
    exact this
  refine ⟨(hf s h.es).1, (hf l h.el).1, by rw [(hf s h.es).2]; exact h.ns, by rw [(hf l h.el).2]; exact h.nl, fun u hu => ?_, fun u hu he x hx => ?_⟩
  · rw [(hb u hu).2]; exact h.le _ (hb u hu).1
  · obtain ⟨a1, a2⟩ := i.fro x hx
    have := h.bt _ (hb u hu).1 (by rw [← (hb u hu).2]; exact he) (i.ψ x) a1
    rw [a2] at this
    exact this
end
end Go.Proofs.YtppjnpempgpkaaaGreat
namespace Go.Proofs.YtppjnpempgpkaaaGreat
set_option linter.unusedVariables false
set_option linter.unusedSimpArgs false
def mirF (W c : Nat) : Nat := c / W * W + W - 1 - c % W
def mirS (k : Nat) : Nat := if k = 0 then 2 else if k = 2 then 0 else k
def acrF (W H c : Nat) : Nat := c % W * H + c / W
def acrS (k : Nat) : Nat := if k = 0 then 1 else if k = 1 then 0 else if k = 2 then 3 else if k = 3 then 2 else k
def isoOk : Bool := (List.range 9).all fun W => (List.range 9).all fun H => (List.range (W * H)).all fun c =>
  (Nat.blt (mirF W c) (W * H) && Nat.beq (mirF W (mirF W c)) c && Nat.blt (acrF W H c) (H * W) && Nat.beq (acrF H W (acrF W H c)) c) &&
    (List.range 4).all fun k => decide (bhP W H (mirF W c, mirS k) = (bhP W H (c, k)).map (mirF W)) && decide (bhP H W (acrF W H c, acrS k) = (bhP W H (c, k)).map (acrF W H))
set_option maxRecDepth 100000 in
theorem iso_ok : isoOk = true := by decide +kernel
theorem iso_at {W H c : Nat} (hW : W ≤ 8) (hH : H ≤ 8) (hc : c < W * H) : (mirF W c < W * H ∧ mirF W (mirF W c) = c) ∧ (acrF W H c < H * W ∧ acrF H W (acrF W H c) = c) ∧
    ∀ k, k < 4 → bhP W H (mirF W c, mirS k) = (bhP W H (c, k)).map (mirF W) ∧ bhP H W (acrF W H c, acrS k) = (bhP W H (c, k)).map (acrF W H) := by
  have h := iso_ok
  unfold isoOk at h
  have h1 := List.all_eq_true.1 h W (List.mem_range.2 (by omega))
  have h2 := List.all_eq_true.1 h1 H (List.mem_range.2 (by omega))
  have h3 := List.all_eq_true.1 h2 c (List.mem_range.2 hc)
  simp only [Bool.and_eq_true] at h3
  obtain ⟨⟨⟨⟨q1, q2⟩, q3⟩, q4⟩, q5⟩ := h3
  refine ⟨⟨Nat.le_of_ble_eq_true q1, Nat.eq_of_beq_eq_true q2⟩, ⟨Nat.le_of_ble_eq_true q3, Nat.eq_of_beq_eq_true q4⟩, fun k hk => ?_⟩
  have q6 := List.all_eq_true.1 q5 k (List.mem_range.2 hk)
  rw [Bool.and_eq_true] at q6
  exact ⟨of_decide_eq_true q6.1, of_decide_eq_true q6.2⟩
def mirI (W H : Nat) (hW : W ≤ 8) (hH : H ≤ 8) : Iso (gridP W H hW hH) (gridP W H hW hH) where
  φ := mirF W
  ψ := mirF W
  σ := mirS
  to := fun c hc => (iso_at hW hH hc).1
  fro := fun c hc => (iso_at hW hH hc).1
  si := fun k hk => by
    have : k = 0 ∨ k = 1 ∨ k = 2 ∨ k = 3 := by omega
    rcases this with rfl | rfl | rfl | rfl <;> decide
  bh := fun c k hc hk => ((iso_at hW hH hc).2.2 k hk).1
def acrI (W H : Nat) (hW : W ≤ 8) (hH : H ≤ 8) : Iso (gridP W H hW hH) (gridP H W hH hW) where
  φ := acrF W H
  ψ := acrF H W
  σ := acrS
  to := fun c hc => (iso_at hW hH hc).2.1
  fro := fun c hc => (iso_at hH hW hc).2.1
  si := fun k hk => by
    have : k = 0 ∨ k = 1 ∨ k = 2 ∨ k = 3 := by omega
    rcases this with rfl | rfl | rfl | rfl <;> decide
  bh := fun c k hc hk => ((iso_at hW hH hc).2.2 k hk).2
theorem co {W x : Nat} (y : Nat) (hx : x < W) : (y * W + x) % W = x ∧ (y * W + x) / W = y := by
  rw [Nat.mul_comm]
  refine ⟨by rw [Nat.mul_add_mod]; exact Nat.mod_eq_of_lt hx, ?_⟩
  rw [Nat.mul_add_div (by omega), Nat.div_eq_of_lt hx, Nat.add_zero]
theorem co_lt {W H x y : Nat} (hx : x < W) (hy : y < H) : y * W + x < W * H := by
  have : (y + 1) * W ≤ H * W := Nat.mul_le_mul_right W hy
  rw [Nat.add_mul, Nat.one_mul] at this
  rw [Nat.mul_comm W H]
  omega
theorem co_of {W H c : Nat} (hc : c < W * H) : c % W < W ∧ c / W < H ∧ c / W * W + c % W = c := by
  have hW : 0 < W := by
    rcases Nat.eq_zero_or_pos W with h | h
    · subst h; simp at hc
    · exact h
  refine ⟨Nat.mod_lt _ hW, Nat.div_lt_of_lt_mul hc, ?_⟩
  rw [Nat.mul_comm]; exact Nat.div_add_mod c W
/-- Where a cell of a pond lies in a wider one. -/
def widF (W W' c : Nat) : Nat := c / W * W' + c % W
/-- Water of a pond in a wider one. -/
def widW (W H W' : Nat) (w : Nat → Bool) (d : Nat) : Bool := decide (d % W' < W) && decide (d / W' < H) && w (d / W' * W + d % W')
theorem widF_lt {W H W' H' c : Nat} (h1 : W ≤ W') (h2 : H ≤ H') (hc : c < W * H) : widF W W' c < W' * H' := by
  obtain ⟨a, b, _⟩ := co_of hc
  exact co_lt (Nat.lt_of_lt_of_le a h1) (Nat.lt_of_lt_of_le b h2)
theorem widW_at {W H W' c : Nat} {w : Nat → Bool} (h1 : W ≤ W') (hc : c < W * H) : widW W H W' w (widF W W' c) = w c := by
  obtain ⟨a, b, e⟩ := co_of hc
  obtain ⟨q1, q2⟩ := co (W := W') (c / W) (Nat.lt_of_lt_of_le a h1)
  unfold widW widF
  rw [q1, q2, e]
  simp [a, b]
theorem widF_inj {W H W' c d : Nat} (h1 : W ≤ W') (hc : c < W * H) (hd : d < W * H) (e : widF W W' c = widF W W' d) : c = d := by
  obtain ⟨a, b, e1⟩ := co_of hc
  obtain ⟨a', b', e2⟩ := co_of hd
  obtain ⟨q1, q2⟩ := co (W := W') (c / W) (Nat.lt_of_lt_of_le a h1)
  obtain ⟨q3, q4⟩ := co (W := W') (d / W) (Nat.lt_of_lt_of_le a' h1)
  unfold widF at e
  rw [e] at q1 q2
  rw [← e1, ← e2, ← q1, ← q2, q3, q4]
theorem widW_of {W H W' d : Nat} {w : Nat → Bool} (h : widW W H W' w d = true) : ∃ c, c < W * H ∧ w c = true ∧ widF W W' c = d := by
  unfold widW at h
  simp only [Bool.and_eq_true, decide_eq_true_eq] at h
  obtain ⟨⟨a, b⟩, c⟩ := h
  refine ⟨d / W' * W + d % W', co_lt a b, c, ?_⟩
  obtain ⟨q1, q2⟩ := co (W := W) (d / W') a
  unfold widF
  rw [q1, q2, Nat.mul_comm]
  exact Nat.div_add_mod d W'
theorem wid_in {W H W' H' c k : Nat} {w : Nat → Bool} (h1 : W ≤ W') (h2 : H ≤ H') (hc : c < W * H) (hk : k < 4) : inW (widW W H W' w) (bhP W' H' (widF W W' c, k)) = inW w (bhP W H (c, k)) := by
  obtain ⟨a, b, e⟩ := co_of hc
  obtain ⟨q1, q2⟩ := co (W := W') (c / W) (Nat.lt_of_lt_of_le a h1)
  have hat : ∀ x y, x < W' → widW W H W' w (y * W' + x) = (decide (x < W) && decide (y < H) && w (y * W + x)) := fun x y hx => by
    obtain ⟨r1, r2⟩ := co (W := W') y hx
    unfold widW
    rw [r1, r2]
  generalize hx : c % W = x at *
  generalize hy : c / W = y at *
  have hF : widF W W' c = y * W' + x := by unfold widF; rw [hx, hy]
  have hk4 : k = 0 ∨ k = 1 ∨ k = 2 ∨ k = 3 := by omega
  rw [hF]
  unfold bhP
  dsimp only
  rw [q1, q2, hx, hy]
  rcases hk4 with rfl | rfl | rfl | rfl
  · show inW (widW W H W' w) (if x + 1 < W' then some (y * W' + x + 1) else none) = inW w (if x + 1 < W then some (c + 1) else none)
    by_cases c1 : x + 1 < W
    · rw [if_pos c1, if_pos (by omega)]
      show widW W H W' w (y * W' + (x + 1)) = w (c + 1)
      rw [hat _ _ (by omega), ← e]
      simp [c1, b, Nat.add_assoc]
    · rw [if_neg c1]
      by_cases c2 : x + 1 < W'
      · rw [if_pos c2]
        show widW W H W' w (y * W' + (x + 1)) = false
        rw [hat _ _ (by omega)]
        simp [c1]
      · rw [if_neg c2]; rfl
  · show inW (widW W H W' w) (if y + 1 < H' then some (y * W' + x + W') else none) = inW w (if y + 1 < H then some (c + W) else none)
    by_cases c1 : y + 1 < H
    · rw [if_pos c1, if_pos (by omega)]
      show widW W H W' w (y * W' + x + W') = w (c + W)
      have e1 : y * W' + x + W' = (y + 1) * W' + x := by rw [Nat.add_mul, Nat.one_mul]; omega
      have e2 : c + W = (y + 1) * W + x := by rw [Nat.add_mul, Nat.one_mul]; omega
      rw [e1, e2, hat _ _ (by omega)]
      simp [c1, a]
    · rw [if_neg c1]
      by_cases c2 : y + 1 < H'
      · rw [if_pos c2]
        show widW W H W' w (y * W' + x + W') = false
        have e1 : y * W' + x + W' = (y + 1) * W' + x := by rw [Nat.add_mul, Nat.one_mul]; omega
        rw [e1, hat _ _ (by omega)]
        simp [c1]
      · rw [if_neg c2]; rfl
  · show inW (widW W H W' w) (if 0 < x then some (y * W' + x - 1) else none) = inW w (if 0 < x then some (c - 1) else none)
    by_cases c1 : 0 < x
    · rw [if_pos c1, if_pos c1]
      show widW W H W' w (y * W' + x - 1) = w (c - 1)
      have e1 : y * W' + x - 1 = y * W' + (x - 1) := by omega
      have e2 : c - 1 = y * W + (x - 1) := by omega
      rw [e1, e2, hat _ _ (by omega)]
      have c2 : x - 1 < W := by omega
      simp [c2, b]
    · rw [if_neg c1, if_neg c1]; rfl
  · show inW (widW W H W' w) (if 0 < y then some (y * W' + x - W') else none) = inW w (if 0 < y then some (c - W) else none)
    by_cases c1 : 0 < y
    · rw [if_pos c1, if_pos c1]
      obtain ⟨z, rfl⟩ : ∃ z, y = z + 1 := ⟨y - 1, by omega⟩
      show widW W H W' w ((z + 1) * W' + x - W') = w (c - W)
      have e1 : (z + 1) * W' + x - W' = z * W' + x := by rw [Nat.add_mul, Nat.one_mul]; omega
      have e2 : c - W = z * W + x := by rw [← e, Nat.add_mul, Nat.one_mul]; omega
      rw [e1, e2, hat _ _ (by omega)]
      have c2 : z < H := by omega
      simp [c2, a]
    · rw [if_neg c1, if_neg c1]; rfl
/-- Water has as many sticks in a wider pond. -/
theorem wid_stk {W H W' H' : Nat} (hW : W ≤ 8) (hH : H ≤ 8) (hW' : W' ≤ 8) (hH' : H' ≤ 8) (h1 : W ≤ W') (h2 : H ≤ H') (w : Nat → Bool) : stk (gridP W' H' hW' hH') (widW W H W' w) = stk (gridP W H hW hH) w := by
  have hp : (((allS (W * H)).filter (lv (gridP W H hW hH) w)).map fun s => (widF W W' s.1, s.2)).Perm ((allS (W' * H')).filter (lv (gridP W' H' hW' hH') (widW W H W' w))) := by
    have hnd : (((allS (W * H)).filter (lv (gridP W H hW hH) w)).map fun s => (widF W W' s.1, s.2)).Nodup := by
      refine nd_map_on ?_ ((allS_nodup _).filter _)
      intro s hs t ht e
      have e1 : widF W W' s.1 = widF W W' t.1 := congrArg Prod.fst e
      have e2 : s.2 = t.2 := (Prod.mk.inj e).2
      exact Prod.ext (widF_inj h1 (mem_allS.1 (List.mem_filter.1 hs).1).1 (mem_allS.1 (List.mem_filter.1 ht).1).1 e1) e2
    have hlv : ∀ s : Sd, s.1 < W * H → s.2 < 4 → lv (gridP W' H' hW' hH') (widW W H W' w) (widF W W' s.1, s.2) = lv (gridP W H hW hH) w s := fun s a b => by
      show (widW W H W' w (widF W W' s.1) && !inW (widW W H W' w) (bhP W' H' (widF W W' s.1, s.2))) = (w s.1 && !inW w (bhP W H (s.1, s.2)))
      rw [widW_at h1 a, wid_in h1 h2 a b]
    rw [List.perm_ext_iff_of_nodup hnd ((allS_nodup _).filter _)]
    intro t
    constructor
    · intro h
      obtain ⟨s, hs, rfl⟩ := List.mem_map.1 h
      obtain ⟨a, b⟩ := List.mem_filter.1 hs
      obtain ⟨a1, a2⟩ := mem_allS.1 a
      exact List.mem_filter.2 ⟨mem_allS.2 ⟨widF_lt h1 h2 a1, a2⟩, by rw [hlv s a1 a2]; exact b⟩
    · intro h
      obtain ⟨a, b⟩ := List.mem_filter.1 h
      obtain ⟨a1, a2⟩ := mem_allS.1 a
      have hb := b
      unfold lv at hb
      rw [Bool.and_eq_true] at hb
      obtain ⟨c, hc, hwc, he⟩ := widW_of hb.1
      have et : t = (widF W W' c, t.2) := Prod.ext he.symm rfl
      refine List.mem_map.2 ⟨(c, t.2), List.mem_filter.2 ⟨mem_allS.2 ⟨hc, a2⟩, ?_⟩, et.symm⟩
      rw [← hlv (c, t.2) hc a2, ← et]
      exact b
  have := hp.length_eq
  rw [List.length_map, ← List.countP_eq_length_filter, ← List.countP_eq_length_filter] at this
  exact this.symm
/-- Some stick is needed if there is water. -/
theorem stk_pos {W H : Nat} (hW : W ≤ 8) (hH : H ≤ 8) {w : Nat → Bool} : ∀ (n : Nat) {c : Nat}, W * H ≤ c + n → c < W * H → w c = true → 0 < stk (gridP W H hW hH) w
  | 0, c, hn, hc, _ => by omega
  | n + 1, c, hn, hc, hw => by
    cases hl : lv (gridP W H hW hH) w (c, 1) with
    | true =>
      unfold stk
      exact List.countP_pos_iff.2 ⟨(c, 1), mem_allS.2 ⟨hc, (show (1 : Nat) < 4 by decide)⟩, hl⟩
    | false =>
      have hl2 : (w c && !inW w (bhP W H (c, 1))) = false := hl
      rw [hw, Bool.true_and] at hl2
      obtain ⟨a, b, _⟩ := co_of hc
      have hl2 : (!inW w (if c / W + 1 < H then some (c + W) else none)) = false := hl2
      split at hl2
      · rename_i hy
        have hd : w (c + W) = true := by simpa [inW] using hl2
        have hd2 : c + W < W * H := (grid_at hW hH hc (k := 1) (by decide) (d := c + W) (show (if c / W + 1 < H then some (c + W) else none) = some (c + W) from if_pos hy)).1
        exact stk_pos hW hH n (by omega) hd2 hd
      · simp [inW] at hl2
end Go.Proofs.YtppjnpempgpkaaaGreat
namespace Go.Proofs.YtppjnpempgpkaaaGreat
set_option linter.unusedVariables false
set_option linter.unusedSimpArgs false
/-- What is in all best waters is in the smallest one, what is in some in the largest one. -/
theorem all_best {G : Grid} {want keep s l : Nat → Bool} {n : Nat} (h : Best G want keep s l n) {out : List (Nat → Bool)} (ho : ∀ w ∈ out, Enc G.n want keep w ∧ stk G w = n) (hc : ∀ u, Enc G.n want keep u → stk G u = n → ∃ w ∈ out, ∀ x, x < G.n → w x = u x) {x : Nat} (hx : x < G.n) :
    (s x = true ↔ ∀ w ∈ out, w x = true) ∧ (l x = true ↔ ∃ w ∈ out, w x = true) := by
  refine ⟨⟨fun hs w hw => ?_, fun ha => ?_⟩, ⟨fun hl => ?_, fun ⟨w, hw, hwx⟩ => ?_⟩⟩
  · exact (h.bt w (ho w hw).1 (ho w hw).2 x hx).1 hs
  · obtain ⟨w, hw, he⟩ := hc s h.es h.ns
    rw [← he x hx]; exact ha w hw
  · obtain ⟨w, hw, he⟩ := hc l h.el h.nl
    exact ⟨w, hw, by rw [he x hx]; exact hl⟩
  · exact (h.bt w (ho w hw).1 (ho w hw).2 x hx).2 hwx
/-- Any choice is told by bits. -/
theorem bits_of (f : Nat → Bool) : ∀ m, ∃ b, b < 2 ^ m ∧ ∀ k, k < m → b.testBit k = f k
  | 0 => ⟨0, by decide, fun k hk => by omega⟩
  | m + 1 => by
    obtain ⟨b, h1, h2⟩ := bits_of f m
    have hp : 2 ^ (m + 1) = 2 ^ m + 2 ^ m := by rw [Nat.pow_succ]; omega
    cases hf : f m with
    | false =>
      refine ⟨b, by omega, fun k hk => ?_⟩
      by_cases e : k = m
      · subst e
        rw [hf]; exact Nat.testBit_lt_two_pow h1
      · exact h2 k (by omega)
    | true =>
      refine ⟨2 ^ m + b, by omega, fun k hk => ?_⟩
      by_cases e : k = m
      · subst e
        rw [hf, Nat.testBit_two_pow_add_eq, Nat.testBit_lt_two_pow h1]; rfl
      · rw [Nat.testBit_two_pow_add_gt (by omega)]
        exact h2 k (by omega)
section
variable {α : Type} (g : α → Int)
/-- The least so far, and all that are as little. -/
def leastS (st : Int × List α) (w : α) : Int × List α := if st.1 < 0 ∨ g w < st.1 then (g w, [w]) else if g w = st.1 then (st.1, st.2 ++ [w]) else st
structure LI (ws : List α) (st : Int × List α) : Prop where
  nil : ws = [] → st = (-1, [])
  pos : ws ≠ [] → 0 ≤ st.1 ∧ ∃ w ∈ ws, g w = st.1
  le : ∀ w ∈ ws, st.1 ≤ g w
  out : st.2 = ws.filter fun w => decide (g w = st.1)
theorem LI.start : LI g [] (-1, []) := ⟨fun _ => rfl, fun h => absurd rfl h, fun w h => (by cases h), rfl⟩
theorem LI.step (hg : ∀ w, 0 ≤ g w) {ws : List α} {st : Int × List α} (h : LI g ws st) (w : α) : LI g (ws ++ [w]) (leastS g st w) := by
  have hw := hg w
  unfold leastS
  by_cases h1 : st.1 < 0 ∨ g w < st.1
  · rw [if_pos h1]
    have hgt : ∀ v ∈ ws, g w < g v := fun v hv => by
      have h2 := h.le v hv
      have h3 := (h.pos (fun e => by rw [e] at hv; cases hv)).1
      omega
    refine ⟨fun e => by simp at e, fun _ => ⟨hw, w, by simp, rfl⟩, fun v hv => ?_, ?_⟩
    · rcases List.mem_append.1 hv with hv | hv
      · have := hgt v hv; dsimp only; omega
      · simp at hv; subst hv; exact Int.le_refl _
    · have e : ws.filter (fun v => decide (g v = g w)) = [] := by
        rw [List.filter_eq_nil_iff]
        intro v hv
        have := hgt v hv
        simp; omega
      dsimp only
      rw [List.filter_append, e]; simp
  · rw [if_neg h1]
    have hne : ws ≠ [] := fun e => by
      have := h.nil e
      rw [this] at h1
      simp at h1
    obtain ⟨h2, v, hv, h3⟩ := h.pos hne
    by_cases h4 : g w = st.1
    · rw [if_pos h4]
      refine ⟨fun e => by simp at e, fun _ => ⟨h2, v, by simp [hv], h3⟩, fun u hu => ?_, ?_⟩
      · rcases List.mem_append.1 hu with hu | hu
        · exact h.le u hu
        · simp at hu; subst hu; dsimp only; omega
      · dsimp only
        rw [List.filter_append, ← h.out]; simp [h4]
    · rw [if_neg h4]
      refine ⟨fun e => by simp at e, fun _ => ⟨h2, v, by simp [hv], h3⟩, fun u hu => ?_, ?_⟩
      · rcases List.mem_append.1 hu with hu | hu
        · exact h.le u hu
        · simp at hu; subst hu; omega
      · rw [List.filter_append, ← h.out]; simp [h4]
end
end Go.Proofs.YtppjnpempgpkaaaGreat
namespace Go.Proofs.YtppjnpempgpkaaaGreat
set_option linter.unusedVariables false
set_option linter.unusedSimpArgs false
abbrev Pt := Int × Int
def mvx (k : Nat) : Int := if k = 0 then 1 else if k = 2 then -1 else 0
def mvy (k : Nat) : Int := if k = 1 then 1 else if k = 3 then -1 else 0
def mv (p : Pt) (k : Nat) : Pt := (p.1 + mvx k, p.2 + mvy k)
/-- A stick: its first corner, and where it leads. -/
abbrev Stk := Pt × Nat
def sm (f : Stk → Int) (l : List Stk) : Int := (l.map f).sum
theorem sm_nil (f : Stk → Int) : sm f [] = 0 := rfl
theorem sm_cons (f : Stk → Int) (s : Stk) (l : List Stk) : sm f (s :: l) = f s + sm f l := by unfold sm; rw [List.map_cons, List.sum_cons]
theorem sm_congr {f g : Stk → Int} : ∀ {l : List Stk}, (∀ s ∈ l, f s = g s) → sm f l = sm g l
  | [], _ => rfl
  | s :: l, h => by rw [sm_cons, sm_cons, h s (by simp), sm_congr fun t ht => h t (by simp [ht])]
theorem sm_sub (f g : Stk → Int) : ∀ l : List Stk, sm (fun s => f s - g s) l = sm f l - sm g l
  | [] => rfl
  | s :: l => by rw [sm_cons, sm_cons, sm_cons, sm_sub f g l]; omega
theorem sm_zero {f : Stk → Int} {l : List Stk} (h : ∀ s ∈ l, f s = 0) : sm f l = 0 := by
  rw [sm_congr h]
  induction l with
  | nil => rfl
  | cons s l ih => rw [sm_cons, ih fun t ht => h t (by simp [ht])]; rfl
theorem sm_ev {a b : Stk} (hab : a ≠ b) : ∀ {l : List Stk}, l.Nodup → sm (fun s => if s = a then 1 else if s = b then -1 else 0) l = (if a ∈ l then 1 else 0) - (if b ∈ l then 1 else 0)
  | [], _ => by simp [sm]
  | s :: l, h => by
    rw [List.nodup_cons] at h
    rw [sm_cons, sm_ev hab h.2]
    have hba : b ≠ a := fun e => hab e.symm
    by_cases e1 : s = a
    · subst e1
      simp [h.1, hba]
      omega
    · by_cases e2 : s = b
      · subst e2
        simp [h.1, hab, hba]
        omega
      · have e3 : a ≠ s := fun e => e1 e.symm
        have e4 : b ≠ s := fun e => e2 e.symm
        simp [e1, e2, e3, e4]
/-- A chain that comes back, over corners that are all different. -/
structure Lp (l : List Stk) : Prop where
  lt : ∀ s ∈ l, s.2 < 4
  nd : (l.map Prod.fst).Nodup
  cl : ∀ g : Pt → Int, sm (fun s => g (mv s.1 s.2) - g s.1) l = 0
  nx : ∀ i (h : i < l.length), ∃ j, ∃ h' : j < l.length, (j = i + 1 ∨ i + 1 = l.length ∧ j = 0) ∧ (l[j]'h').1 = mv (l[i]'h).1 (l[i]'h).2
  long : 3 ≤ l.length
theorem four {k : Nat} (h : k < 4) : k = 0 ∨ k = 1 ∨ k = 2 ∨ k = 3 := by omega
theorem mv_ne {P : Pt} {k : Nat} (h : k < 4) : mv P k ≠ P := by
  intro e
  have e1 := congrArg Prod.fst e
  have e2 := congrArg Prod.snd e
  rcases four h with rfl | rfl | rfl | rfl <;> simp [mv, mvx, mvy] at e1 e2 <;> omega
theorem mv_mv {P : Pt} {k : Nat} (h : k < 4) : mv (mv P k) (opp k) = P := by
  obtain ⟨x, y⟩ := P
  rcases four h with rfl | rfl | rfl | rfl <;> simp [mv, mvx, mvy, opp, Prod.mk.injEq] <;> omega
section
variable {l : List Stk}
theorem Lp.nodup (h : Lp l) : l.Nodup := nd_of_map Prod.fst h.nd
theorem Lp.idx (h : Lp l) {i j : Nat} (hi : i < l.length) (hj : j < l.length) (e : (l[i]'hi).1 = (l[j]'hj).1) : i = j := by
  have hp := List.pairwise_iff_getElem.1 (List.pairwise_map.1 h.nd)
  rcases Nat.lt_trichotomy i j with q | q | q
  · exact absurd e (hp i j hi hj q)
  · exact q
  · exact absurd e.symm (hp j i hj hi q)
theorem Lp.from_inj (h : Lp l) {s t : Stk} (hs : s ∈ l) (ht : t ∈ l) (e : s.1 = t.1) : s = t := by
  obtain ⟨i, hi, rfl⟩ := List.getElem_of_mem hs
  obtain ⟨j, hj, rfl⟩ := List.getElem_of_mem ht
  have := h.idx hi hj e
  subst this; rfl
theorem Lp.to_inj (h : Lp l) {s t : Stk} (hs : s ∈ l) (ht : t ∈ l) (e : mv s.1 s.2 = mv t.1 t.2) : s = t := by
  obtain ⟨i, hi, rfl⟩ := List.getElem_of_mem hs
  obtain ⟨j, hj, rfl⟩ := List.getElem_of_mem ht
  obtain ⟨i', hi', a1, a2⟩ := h.nx i hi
  obtain ⟨j', hj', b1, b2⟩ := h.nx j hj
  have := h.idx hi' hj' (by rw [a2, b2, e])
  have hij : i = j := by omega
  subst hij; rfl
theorem Lp.nxt (h : Lp l) {s : Stk} (hs : s ∈ l) : ∃ t ∈ l, t.1 = mv s.1 s.2 := by
  obtain ⟨i, hi, rfl⟩ := List.getElem_of_mem hs
  obtain ⟨i', hi', a1, a2⟩ := h.nx i hi
  exact ⟨_, List.getElem_mem hi', a2⟩
theorem Lp.norev (h : Lp l) {s : Stk} (hs : s ∈ l) : (mv s.1 s.2, opp s.2) ∉ l := by
  intro ht
  have hlt := h.lt s hs
  obtain ⟨i, hi, he⟩ := List.getElem_of_mem hs
  obtain ⟨j, hj, hf⟩ := List.getElem_of_mem ht
  obtain ⟨i', hi', a1, a2⟩ := h.nx i hi
  obtain ⟨j', hj', b1, b2⟩ := h.nx j hj
  have e1 := h.idx hi' hj (by rw [a2, hf, he])
  have e2 := h.idx hj' hi (by rw [b2, hf, he]; exact mv_mv hlt)
  have := h.long
  omega
/-- The net number of sticks that lead from a corner. -/
def ev (P : Pt) (k : Nat) (s : Stk) : Int := if s = (P, k) then 1 else if s = (mv P k, opp k) then -1 else 0
def nt (l : List Stk) (P : Pt) (k : Nat) : Int := sm (ev P k) l
theorem Lp.nt_eq (h : Lp l) {P : Pt} {k : Nat} (hk : k < 4) : nt l P k = (if (P, k) ∈ l then 1 else 0) - (if (mv P k, opp k) ∈ l then 1 else 0) :=
  sm_ev (fun e => mv_ne hk (congrArg Prod.fst e).symm) h.nodup
/-- How often a cell is gone round: what is up less what is down, on its right. -/
def wv (x y : Int) (s : Stk) : Int := if x < s.1.1 then (if s.2 = 1 ∧ s.1.2 = y then 1 else if s.2 = 3 ∧ s.1.2 = y + 1 then -1 else 0) else 0
def Wd (l : List Stk) (x y : Int) : Int := sm (wv x y) l
/-- The cell between two sides of a corner. -/
def quad (P : Pt) (k : Nat) : Pt := (if k = 0 ∨ k = 3 then P.1 else P.1 - 1, if k = 0 ∨ k = 1 then P.2 else P.2 - 1)
def Wq (l : List Stk) (P : Pt) (k : Nat) : Int := Wd l (quad P k).1 (quad P k).2
theorem pt1 (x y : Int) {s : Stk} (h : s.2 < 4) : wv (x - 1) y s - wv x y s = ev (x, y) 1 s := by
  obtain ⟨⟨X, Y⟩, j⟩ := s
  rcases four h with e | e | e | e <;> dsimp only at e <;> subst e <;> simp [wv, ev, mv, mvx, mvy, opp] <;> (repeat' split) <;> omega
theorem pt3 (x y : Int) {s : Stk} (h : s.2 < 4) : wv x (y - 1) s - wv (x - 1) (y - 1) s = ev (x, y) 3 s := by
  obtain ⟨⟨X, Y⟩, j⟩ := s
  rcases four h with e | e | e | e <;> dsimp only at e <;> subst e <;> simp [wv, ev, mv, mvx, mvy, opp] <;> (repeat' split) <;> omega
def gt (x y : Int) (p : Pt) : Int := if x < p.1 ∧ p.2 = y then 1 else 0
theorem pt0 (x y : Int) {s : Stk} (h : s.2 < 4) : wv x y s - wv x (y - 1) s - ev (x, y) 0 s = gt x y s.1 - gt x y (mv s.1 s.2) := by
  obtain ⟨⟨X, Y⟩, j⟩ := s
  rcases four h with e | e | e | e <;> dsimp only at e <;> subst e <;> simp [wv, ev, mv, mvx, mvy, opp, gt] <;> (repeat' split) <;> omega
theorem pt2 (x y : Int) {s : Stk} (h : s.2 < 4) : wv (x - 1) (y - 1) s - wv (x - 1) y s - ev (x, y) 2 s = gt (x - 1) y (mv s.1 s.2) - gt (x - 1) y s.1 := by
  obtain ⟨⟨X, Y⟩, j⟩ := s
  rcases four h with e | e | e | e <;> dsimp only at e <;> subst e <;> simp [wv, ev, mv, mvx, mvy, opp, gt] <;> (repeat' split) <;> omega
theorem Lp.quad_step (h : Lp l) {P : Pt} {k : Nat} (hk : k < 4) : Wq l P k - Wq l P ((k + 3) % 4) = nt l P k := by
  obtain ⟨x, y⟩ := P
  have hlt := h.lt
  rcases four hk with rfl | rfl | rfl | rfl
  · show Wd l x y - Wd l x (y - 1) = nt l (x, y) 0
    have h1 : sm (fun s => wv x y s - wv x (y - 1) s - ev (x, y) 0 s) l = 0 := by
      rw [sm_congr fun s hs => pt0 x y (hlt s hs), sm_sub, ← h.cl (gt x y), sm_sub]
      have := h.cl (gt x y)
      rw [sm_sub] at this
      omega
    rw [sm_sub, sm_sub] at h1
    unfold Wd nt
    omega
  · show Wd l (x - 1) y - Wd l x y = nt l (x, y) 1
    unfold Wd nt
    rw [← sm_sub]
    exact sm_congr fun s hs => pt1 x y (hlt s hs)
  · show Wd l (x - 1) (y - 1) - Wd l (x - 1) y = nt l (x, y) 2
    have h1 : sm (fun s => wv (x - 1) (y - 1) s - wv (x - 1) y s - ev (x, y) 2 s) l = 0 := by
      rw [sm_congr fun s hs => pt2 x y (hlt s hs)]
      exact h.cl (gt (x - 1) y)
    rw [sm_sub, sm_sub] at h1
    unfold Wd nt
    omega
  · show Wd l x (y - 1) - Wd l (x - 1) (y - 1) = nt l (x, y) 3
    unfold Wd nt
    rw [← sm_sub]
    exact sm_congr fun s hs => pt3 x y (hlt s hs)
/-- How often what is on the right of a stick is gone round. -/
def Rv (l : List Stk) (s : Stk) : Int := Wq l s.1 ((s.2 + 3) % 4)
theorem quad_shift {P : Pt} {d : Nat} (hd : d < 4) : quad P ((d + 3) % 4) = quad (mv P d) (opp d) := by
  obtain ⟨x, y⟩ := P
  rcases four hd with rfl | rfl | rfl | rfl <;> simp [quad, mv, mvx, mvy, opp] <;> omega
theorem Lp.turn (h : Lp l) {s t : Stk} (hs : s ∈ l) (ht : t ∈ l) (e : t.1 = mv s.1 s.2) : Rv l t = Rv l s := by
  have hd := h.lt s hs
  have he := h.lt t ht
  have hne : t.2 ≠ opp s.2 := fun e2 => h.norev hs (by
    have : t = (mv s.1 s.2, opp s.2) := Prod.ext e e2
    rw [← this]; exact ht)
  have hz : ∀ k, k < 4 → k ≠ t.2 → k ≠ opp s.2 → Wq l t.1 k = Wq l t.1 ((k + 3) % 4) := fun k hk h1 h2 => by
    have h3 := h.quad_step (P := t.1) hk
    have h4 : (t.1, k) ∉ l := fun hm => h1 (congrArg Prod.snd (h.from_inj hm ht rfl))
    have h5 : (mv t.1 k, opp k) ∉ l := fun hm => by
      have := h.to_inj hm hs (by show mv (mv t.1 k) (opp k) = _; rw [mv_mv hk, e])
      apply h2
      rw [← this]
      exact (opp_opp hk).symm
    rw [h.nt_eq hk, if_neg h4, if_neg h5] at h3
    omega
  have hR : Rv l s = Wq l t.1 (opp s.2) := by
    unfold Rv Wq
    rw [quad_shift hd, e]
  rw [hR]
  show Wq l t.1 ((t.2 + 3) % 4) = _
  have z0 := hz 0 (by omega)
  have z1 := hz 1 (by omega)
  have z2 := hz 2 (by omega)
  have z3 := hz 3 (by omega)
  simp only [Nat.reduceAdd, Nat.reduceMod] at z0 z1 z2 z3
  generalize Wq l t.1 = f at z0 z1 z2 z3 ⊢
  generalize t.2 = b at *
  generalize s.2 = a at *
  rcases four hd with rfl | rfl | rfl | rfl <;> rcases four he with rfl | rfl | rfl | rfl <;> simp [opp] at * <;> omega
theorem Lp.all (h : Lp l) : ∀ i (hi : i < l.length), Rv l (l[i]'hi) = Rv l (l[0]'(by have := h.long; omega))
  | 0, hi => rfl
  | i + 1, hi => by
    obtain ⟨j, hj, a1, a2⟩ := h.nx i (by omega)
    have hji : j = i + 1 := by omega
    subst hji
    rw [h.turn (List.getElem_mem _) (List.getElem_mem hj) a2]
    exact h.all i (by omega)
theorem Lp.left (h : Lp l) {s : Stk} (hs : s ∈ l) : Wq l s.1 s.2 = Rv l s + 1 := by
  have h1 := h.quad_step (P := s.1) (h.lt s hs)
  rw [h.nt_eq (h.lt s hs), if_pos (show (s.1, s.2) ∈ l from hs), if_neg (h.norev hs)] at h1
  unfold Rv
  omega
/-- All that is gone round is gone round once, to the same side. -/
theorem Lp.vals (h : Lp l) (hb : ∀ s ∈ l, s.1.1 ≤ 8) : ∃ r : Int, (r = 0 ∨ r = -1) ∧ (∀ s ∈ l, Rv l s = r ∧ Wq l s.1 s.2 = r + 1) ∧ ∀ x y, Wd l x y = r ∨ Wd l x y = r + 1 := by
  have h0 : 0 < l.length := by have := h.long; omega
  refine ⟨Rv l (l[0]'h0), ?_⟩
  generalize hr : Rv l (l[0]'h0) = r
  have hR : ∀ s ∈ l, Rv l s = r ∧ Wq l s.1 s.2 = r + 1 := fun s hs => by
    have : Rv l s = r := by
      obtain ⟨i, hi, rfl⟩ := List.getElem_of_mem hs
      rw [h.all i hi]; exact hr
    exact ⟨this, by rw [h.left hs, this]⟩
  have hfar : ∀ x y, 8 ≤ x → Wd l x y = 0 := fun x y hx => sm_zero fun s hs => by
    have := hb s hs
    unfold wv
    rw [if_neg (by omega)]
  have hP : ∀ (n : Nat) (y : Int), Wd l (8 - n) y = 0 ∨ (r = 0 ∨ r = -1) ∧ (Wd l (8 - n) y = r ∨ Wd l (8 - n) y = r + 1) := fun n y => by
    induction n with
    | zero => exact .inl (hfar _ _ (by simp))
    | succ n ih =>
      have e : (8 : Int) - (n + 1 : Nat) = 8 - n - 1 := by omega
      rw [e]
      generalize (8 : Int) - n = x at ih ⊢
      have q := h.quad_step (P := (x, y)) (k := 1) (by omega)
      rw [h.nt_eq (by omega)] at q
      change Wd l (x - 1) y - Wd l x y = _ at q
      by_cases m1 : ((x, y), 1) ∈ l
      · obtain ⟨a1, a2⟩ := hR _ m1
        have b1 : Wd l x y = r := by
          rw [← a1]
          unfold Rv Wq
          simp [quad]
        have b2 : Wd l (x - 1) y = r + 1 := by
          rw [← a2]
          unfold Wq
          simp [quad]
        omega
      · by_cases m2 : (mv (x, y) 1, opp 1) ∈ l
        · obtain ⟨a1, a2⟩ := hR _ m2
          have b1 : Wd l (x - 1) y = r := by
            rw [← a1]
            unfold Rv Wq
            simp [quad, mv, mvx, mvy, opp]
          have b2 : Wd l x y = r + 1 := by
            rw [← a2]
            unfold Wq
            simp [quad, mv, mvx, mvy, opp]
          omega
        · rw [if_neg m1, if_neg m2] at q
          have : Wd l (x - 1) y = Wd l x y := by omega
          rw [this]; exact ih
  have hP2 : ∀ x y, Wd l x y = 0 ∨ (r = 0 ∨ r = -1) ∧ (Wd l x y = r ∨ Wd l x y = r + 1) := fun x y => by
    by_cases hx : 8 ≤ x
    · exact .inl (hfar x y hx)
    · have := hP (8 - x).toNat y
      have e : (8 : Int) - ((8 - x).toNat : Int) = x := by omega
      rw [e] at this
      exact this
  have hr2 : r = 0 ∨ r = -1 := by
    obtain ⟨a1, a2⟩ := hR _ (List.getElem_mem h0)
    unfold Rv Wq at a1
    rcases hP2 _ _ with q | q
    · rw [a1] at q; exact .inl q
    · exact q.1
  refine ⟨hr2, hR, fun x y => ?_⟩
  rcases hP2 x y with q | q
  · omega
  · exact q.2
end
end Go.Proofs.YtppjnpempgpkaaaGreat
namespace Go.Proofs.YtppjnpempgpkaaaGreat
set_option linter.unusedVariables false
set_option linter.unusedSimpArgs false
def sts : Pt → List Nat → List Stk
  | _, [] => []
  | p, k :: ks => (p, k) :: sts (mv p k) ks
def fin : Pt → List Nat → Pt
  | p, [] => p
  | p, k :: ks => fin (mv p k) ks
theorem sts_len : ∀ (p : Pt) (ks : List Nat), (sts p ks).length = ks.length
  | _, [] => rfl
  | p, k :: ks => by unfold sts; rw [List.length_cons, List.length_cons, sts_len]
theorem sts_mem : ∀ {p : Pt} {ks : List Nat} {s : Stk}, s ∈ sts p ks → s.2 ∈ ks
  | p, k :: ks, s, h => by
    unfold sts at h
    rcases List.mem_cons.1 h with rfl | h
    · simp
    · exact List.mem_cons_of_mem _ (sts_mem h)
theorem sts_tele (g : Pt → Int) : ∀ (p : Pt) (ks : List Nat), sm (fun s => g (mv s.1 s.2) - g s.1) (sts p ks) = g (fin p ks) - g p
  | p, [] => by unfold sts fin; rw [sm_nil]; omega
  | p, k :: ks => by
    unfold sts fin
    rw [sm_cons, sts_tele g (mv p k) ks]
    dsimp only
    omega
theorem sts_nx : ∀ (ks : List Nat) (p : Pt) (i : Nat) (h : i < (sts p ks).length), (∃ h' : i + 1 < (sts p ks).length, ((sts p ks)[i + 1]'h').1 = mv ((sts p ks)[i]'h).1 ((sts p ks)[i]'h).2) ∨ (i + 1 = (sts p ks).length ∧ mv ((sts p ks)[i]'h).1 ((sts p ks)[i]'h).2 = fin p ks)
  | [], p, i, h => by unfold sts at h; simp at h
  | [k], p, 0, h => .inr ⟨rfl, rfl⟩
  | [k], p, i + 1, h => by simp [sts] at h
  | k :: k' :: ks, p, 0, h => .inl ⟨by simp [sts], rfl⟩
  | k :: k' :: ks, p, i + 1, h => by
    have h2 : i < (sts (mv p k) (k' :: ks)).length := by
      rw [sts_len] at h ⊢
      simpa using h
    rcases sts_nx (k' :: ks) (mv p k) i h2 with ⟨a, b⟩ | ⟨a, b⟩
    · refine .inl ⟨?_, b⟩
      rw [sts_len] at a ⊢
      simpa using a
    · refine .inr ⟨?_, b⟩
      rw [sts_len] at a ⊢
      simpa using a
/-- Letters that lead back, over corners that are all different. -/
theorem lp_of {p : Pt} {ks : List Nat} (hk : ∀ k ∈ ks, k < 4) (hf : fin p ks = p) (hn : ((sts p ks).map Prod.fst).Nodup) (h3 : 3 ≤ ks.length) : Lp (sts p ks) where
  lt := fun s hs => hk _ (sts_mem hs)
  nd := hn
  cl := fun g => by rw [sts_tele, hf]; omega
  nx := fun i hi => by
    have h0 : 0 < (sts p ks).length := by rw [sts_len]; omega
    rcases sts_nx ks p i hi with ⟨a, b⟩ | ⟨a, b⟩
    · exact ⟨i + 1, a, .inl rfl, b⟩
    · refine ⟨0, h0, .inr ⟨a, rfl⟩, ?_⟩
      rw [b, hf]
      cases ks with
      | nil => simp at h3
      | cons k ks => rfl
  long := by rw [sts_len]; exact h3
/-- Corners of the widest pond. -/
def onB (p : Pt) : Prop := (0 ≤ p.1 ∧ p.1 ≤ 8) ∧ 0 ≤ p.2 ∧ p.2 ≤ 8
section
variable {l : List Stk}
theorem Lp.beyond (h : Lp l) (hb : ∀ s ∈ l, onB s.1) {x y : Int} (ho : ¬ ((0 ≤ x ∧ x < 8) ∧ 0 ≤ y ∧ y < 8)) : Wd l x y = 0 := by
  have hto : ∀ s ∈ l, onB (mv s.1 s.2) := fun s hs => by
    obtain ⟨t, ht, e⟩ := h.nxt hs
    rw [← e]; exact hb t ht
  by_cases hx : x < 0
  · rw [← h.cl fun p => if y < p.2 then 1 else 0]
    refine sm_congr fun s hs => ?_
    have h1 := hb s hs
    have h2 := h.lt s hs
    obtain ⟨⟨X, Y⟩, j⟩ := s
    unfold onB at h1
    dsimp only at h1 h2
    unfold wv
    dsimp only
    rw [if_pos (by omega)]
    rcases four h2 with rfl | rfl | rfl | rfl <;> simp [mv, mvy] <;> (repeat' split) <;> omega
  · refine sm_zero fun s hs => ?_
    have h1 := hb s hs
    have h2 := h.lt s hs
    have h3 := hto s hs
    obtain ⟨⟨X, Y⟩, j⟩ := s
    unfold onB at h1 h3
    dsimp only at h1 h2 h3
    unfold wv
    dsimp only
    rcases four h2 with rfl | rfl | rfl | rfl <;> simp [mv, mvx, mvy] at h3 ⊢ <;> omega
def cx (c : Nat) : Int := (c % 8 : Nat)
def cy (c : Nat) : Int := (c / 8 : Nat)
/-- A sum over all cells. -/
def isum (f : Nat → Int) : Int := ((List.range 64).map f).sum
def greenOk : Bool := (List.range 9).all fun X => (List.range 9).all fun Y => (List.range 4).all fun k => !decide (0 ≤ (Y : Int) + mvy k ∧ (Y : Int) + mvy k ≤ 8) || decide (isum (fun c => wv (cx c) (cy c) (((X : Int), (Y : Int)), k)) = X * mvy k)
set_option maxRecDepth 100000 in
theorem green_ok : greenOk = true := by decide +kernel
theorem green_at {s : Stk} (h1 : onB s.1) (h2 : s.2 < 4) (h3 : onB (mv s.1 s.2)) : isum (fun c => wv (cx c) (cy c) s) = s.1.1 * mvy s.2 := by
  obtain ⟨⟨X, Y⟩, k⟩ := s
  unfold onB mv at h3
  unfold onB at h1
  dsimp only at h1 h2 h3 ⊢
  have h := green_ok
  unfold greenOk at h
  have q1 := List.all_eq_true.1 h X.toNat (List.mem_range.2 (by omega))
  have q2 := List.all_eq_true.1 q1 Y.toNat (List.mem_range.2 (by omega))
  have q3 := List.all_eq_true.1 q2 k (List.mem_range.2 h2)
  have eX : ((X.toNat : Nat) : Int) = X := by omega
  have eY : ((Y.toNat : Nat) : Int) = Y := by omega
  rw [eX, eY, Bool.or_eq_true] at q3
  rcases q3 with q3 | q3
  · rw [Bool.not_eq_true', decide_eq_false_iff_not] at q3
    exact absurd h3.2 q3
  · exact of_decide_eq_true q3
theorem sm_add (f g : Stk → Int) : ∀ l : List Stk, sm (fun s => f s + g s) l = sm f l + sm g l
  | [] => rfl
  | s :: l => by rw [sm_cons, sm_cons, sm_cons, sm_add f g l]; omega
theorem lsum_sm (F : Nat → Stk → Int) (l : List Stk) : ∀ L : List Nat, (L.map fun c => sm (F c) l).sum = sm (fun s => (L.map fun c => F c s).sum) l
  | [] => (sm_zero fun s _ => rfl).symm
  | c :: L => by
    rw [List.map_cons, List.sum_cons, lsum_sm F l L, ← sm_add]
    rfl
/-- Green: what is on the left of what is up, less that of what is down. -/
theorem Lp.green (h : Lp l) (hb : ∀ s ∈ l, onB s.1) : sm (fun s => s.1.1 * mvy s.2) l = isum fun c => Wd l (cx c) (cy c) := by
  unfold isum Wd
  rw [lsum_sm (fun c => wv (cx c) (cy c)) l]
  refine sm_congr fun s hs => ?_
  obtain ⟨t, ht, e⟩ := h.nxt hs
  exact (green_at (hb s hs) (h.lt s hs) (by rw [← e]; exact hb t ht)).symm
/-- The cells that a chain goes round. -/
def wat (l : List Stk) (c : Nat) : Bool := !decide (Wd l (cx c) (cy c) = 0)
theorem sum_one {f : Nat → Int} (h : ∀ c, f c = 0 ∨ f c = 1) : ∀ L : List Nat, (L.map f).sum = ((L.countP fun c => !decide (f c = 0) : Nat) : Int)
  | [] => rfl
  | c :: L => by
    rw [List.map_cons, List.sum_cons, sum_one h L, List.countP_cons]
    rcases h c with e | e <;> rw [e] <;> simp <;> omega
theorem sum_neg {f : Nat → Int} (h : ∀ c, f c = -1 ∨ f c = 0) : ∀ L : List Nat, (L.map f).sum = -((L.countP fun c => !decide (f c = 0) : Nat) : Int)
  | [] => rfl
  | c :: L => by
    rw [List.map_cons, List.sum_cons, sum_neg h L, List.countP_cons]
    rcases h c with e | e <;> rw [e] <;> simp <;> omega
/-- The stick on a side, with the cell on its left. -/
def stOf (s : Sd) : Stk := match s.2 with
  | 0 => ((cx s.1 + 1, cy s.1), 1)
  | 1 => ((cx s.1 + 1, cy s.1 + 1), 2)
  | 2 => ((cx s.1, cy s.1 + 1), 3)
  | _ => ((cx s.1, cy s.1), 0)
def rvOf (s : Sd) : Stk := (mv (stOf s).1 (stOf s).2, opp (stOf s).2)
/-- What is behind a side, by its column and row. -/
def nb (s : Sd) : Pt := match s.2 with
  | 0 => (cx s.1 + 1, cy s.1)
  | 1 => (cx s.1, cy s.1 + 1)
  | 2 => (cx s.1 - 1, cy s.1)
  | _ => (cx s.1, cy s.1 - 1)
theorem stOf_lt (s : Sd) : (stOf s).2 < 4 := by
  unfold stOf; split <;> (dsimp only; omega)
theorem stOf_quad {s : Sd} (h : s.2 < 4) : quad (stOf s).1 (stOf s).2 = (cx s.1, cy s.1) ∧ quad (stOf s).1 (((stOf s).2 + 3) % 4) = nb s := by
  obtain ⟨c, k⟩ := s
  dsimp only at h
  rcases four h with rfl | rfl | rfl | rfl <;> simp [stOf, nb, quad] <;> omega
def G8 : Grid := gridP 8 8 (by decide) (by decide)
theorem Lp.behind (h : Lp l) (hb : ∀ s ∈ l, onB s.1) {s : Sd} (h1 : s.1 < 64) (h2 : s.2 < 4) : inW (wat l) (G8.bh s) = !decide (Wd l (nb s).1 (nb s).2 = 0) := by
  have hout := fun x y => h.beyond hb (x := x) (y := y)
  obtain ⟨c, k⟩ := s
  dsimp only at h1 h2
  show inW (wat l) (bhP 8 8 (c, k)) = _
  rcases four h2 with rfl | rfl | rfl | rfl
  · show inW (wat l) (if c % 8 + 1 < 8 then some (c + 1) else none) = !decide (Wd l (cx c + 1) (cy c) = 0)
    split
    · show (!decide (Wd l (cx (c + 1)) (cy (c + 1)) = 0)) = _
      have e1 : cx (c + 1) = cx c + 1 := by unfold cx; omega
      have e2 : cy (c + 1) = cy c := by unfold cy; omega
      rw [e1, e2]
    · rw [hout _ _ (by unfold cx; omega)]; rfl
  · show inW (wat l) (if c / 8 + 1 < 8 then some (c + 8) else none) = !decide (Wd l (cx c) (cy c + 1) = 0)
    split
    · show (!decide (Wd l (cx (c + 8)) (cy (c + 8)) = 0)) = _
      have e1 : cx (c + 8) = cx c := by unfold cx; omega
      have e2 : cy (c + 8) = cy c + 1 := by unfold cy; omega
      rw [e1, e2]
    · rw [hout _ _ (by unfold cy; omega)]; rfl
  · show inW (wat l) (if 0 < c % 8 then some (c - 1) else none) = !decide (Wd l (cx c - 1) (cy c) = 0)
    split
    · show (!decide (Wd l (cx (c - 1)) (cy (c - 1)) = 0)) = _
      have e1 : cx (c - 1) = cx c - 1 := by unfold cx; omega
      have e2 : cy (c - 1) = cy c := by unfold cy; omega
      rw [e1, e2]
    · rw [hout _ _ (by unfold cx; omega)]; rfl
  · show inW (wat l) (if 0 < c / 8 then some (c - 8) else none) = !decide (Wd l (cx c) (cy c - 1) = 0)
    split
    · show (!decide (Wd l (cx (c - 8)) (cy (c - 8)) = 0)) = _
      have e1 : cx (c - 8) = cx c := by unfold cx; omega
      have e2 : cy (c - 8) = cy c - 1 := by unfold cy; omega
      rw [e1, e2]
    · rw [hout _ _ (by unfold cy; omega)]; rfl
theorem Lp.diff (h : Lp l) {s : Sd} (h2 : s.2 < 4) : Wd l (cx s.1) (cy s.1) - Wd l (nb s).1 (nb s).2 = (if stOf s ∈ l then 1 else 0) - (if rvOf s ∈ l then 1 else 0) := by
  obtain ⟨q1, q2⟩ := stOf_quad h2
  have h3 := h.quad_step (P := (stOf s).1) (stOf_lt s)
  rw [h.nt_eq (stOf_lt s)] at h3
  unfold Wq at h3
  rw [q1, q2] at h3
  exact h3
theorem Lp.rv (h : Lp l) {s : Sd} (hs : rvOf s ∈ l) : stOf s ∉ l := fun hm => h.norev hm hs
theorem stOf_inj {s t : Sd} (h1 : s.2 < 4) (h2 : t.2 < 4) (e : stOf s = stOf t) : s = t := by
  obtain ⟨c, k⟩ := s
  obtain ⟨d, j⟩ := t
  dsimp only at h1 h2
  rcases four h1 with rfl | rfl | rfl | rfl <;> rcases four h2 with rfl | rfl | rfl | rfl <;> simp [stOf, cx, cy] at e ⊢ <;> omega
theorem rvOf_inj {s t : Sd} (h1 : s.2 < 4) (h2 : t.2 < 4) (e : rvOf s = rvOf t) : s = t := by
  refine stOf_inj h1 h2 ?_
  have e1 := congrArg Prod.fst e
  have e2 := congrArg Prod.snd e
  have e3 : opp (opp (stOf s).2) = opp (opp (stOf t).2) := congrArg opp e2
  rw [opp_opp (stOf_lt s), opp_opp (stOf_lt t)] at e3
  refine Prod.ext ?_ e3
  have e4 : mv (rvOf s).1 (rvOf s).2 = mv (rvOf t).1 (rvOf t).2 := by rw [e]
  unfold rvOf at e4
  rw [mv_mv (stOf_lt s), mv_mv (stOf_lt t)] at e4
  exact e4
theorem side_of {x y : Int} (h : (0 ≤ x ∧ x < 8) ∧ 0 ≤ y ∧ y < 8) : ∃ c, c < 64 ∧ cx c = x ∧ cy c = y := ⟨(8 * y + x).toNat, by omega, by unfold cx; omega, by unfold cy; omega⟩
theorem stOf_on {t : Stk} (ht : t.2 < 4) (h : (0 ≤ (quad t.1 t.2).1 ∧ (quad t.1 t.2).1 < 8) ∧ 0 ≤ (quad t.1 t.2).2 ∧ (quad t.1 t.2).2 < 8) : ∃ s : Sd, s.1 < 64 ∧ s.2 < 4 ∧ stOf s = t := by
  obtain ⟨c, hc, e1, e2⟩ := side_of h
  obtain ⟨⟨x, y⟩, j⟩ := t
  refine ⟨(c, (j + 3) % 4), hc, Nat.mod_lt _ (by decide), ?_⟩
  dsimp only at ht
  rcases four ht with rfl | rfl | rfl | rfl <;> simp [quad] at e1 e2 <;> simp [stOf, e1, e2]
theorem stk_len (L : List Sd) (hL : L.Nodup) (φ : Sd → Stk) (p : Sd → Bool) (hl : l.Nodup) (hi : ∀ s ∈ L, ∀ t ∈ L, φ s = φ t → s = t) (hp : ∀ s ∈ L, p s = true → φ s ∈ l) (hs : ∀ t ∈ l, ∃ s ∈ L, p s = true ∧ φ s = t) : L.countP p = l.length := by
  have hnd : ((L.filter p).map φ).Nodup := by
    refine nd_map_on ?_ (hL.filter _)
    intro a ha b hb e
    exact hi a (List.mem_filter.1 ha).1 b (List.mem_filter.1 hb).1 e
  have h1 : ((L.filter p).map φ).length ≤ l.length := len_le hnd (fun x hx => by
    obtain ⟨s, hs, rfl⟩ := List.mem_map.1 hx
    obtain ⟨a, b⟩ := List.mem_filter.1 hs
    exact hp s a b)
  have h2 : l.length ≤ ((L.filter p).map φ).length := len_le hl (fun t ht => by
    obtain ⟨s, a, b, rfl⟩ := hs t ht
    exact List.mem_map.2 ⟨s, List.mem_filter.2 ⟨a, b⟩, rfl⟩)
  rw [List.length_map] at h1 h2
  rw [List.countP_eq_length_filter]
  omega
/-- The sticks of the water are those of the chain; some of it is gone round, all to the same side. -/
theorem Lp.done (h : Lp l) (hb : ∀ s ∈ l, onB s.1) : stk G8 (wat l) = l.length ∧ 0 < (List.range 64).countP (wat l) ∧
    ((∀ x y, Wd l x y = 0 ∨ Wd l x y = 1) ∧ sm (fun s => s.1.1 * mvy s.2) l = ((List.range 64).countP (wat l) : Nat) ∨
      (∀ x y, Wd l x y = -1 ∨ Wd l x y = 0) ∧ sm (fun s => s.1.1 * mvy s.2) l = -((List.range 64).countP (wat l) : Nat)) := by
  obtain ⟨r, hr, hR, hv⟩ := h.vals fun s hs => (hb s hs).1.2
  have hlv : ∀ s ∈ allS 64, lv G8 (wat l) s = true ↔ Wd l (cx s.1) (cy s.1) ≠ 0 ∧ Wd l (nb s).1 (nb s).2 = 0 := fun s hs => by
    obtain ⟨a1, a2⟩ := mem_allS.1 hs
    unfold lv
    rw [h.behind hb a1 a2]
    unfold wat
    simp
  have h0 : 0 < l.length := by have := h.long; omega
  have hin : ∀ x y, Wd l x y ≠ 0 → (0 ≤ x ∧ x < 8) ∧ 0 ≤ y ∧ y < 8 := fun x y hne => Decidable.byContradiction fun hn => hne (h.beyond hb hn)
  have hpos : ∀ x y, Wd l x y ≠ 0 → 0 < (List.range 64).countP (wat l) := fun x y hne => by
    obtain ⟨c, hc, e1, e2⟩ := side_of (hin x y hne)
    refine List.countP_pos_iff.2 ⟨c, List.mem_range.2 hc, ?_⟩
    unfold wat
    rw [e1, e2]
    simp [hne]
  obtain ⟨z1, z2⟩ := hR _ (List.getElem_mem h0)
  unfold Rv Wq at z1
  unfold Wq at z2
  rcases hr with rfl | rfl
  · refine ⟨?_, hpos _ _ (by rw [z2]; decide), .inl ⟨fun x y => by simpa using hv x y, ?_⟩⟩
    · show (allS 64).countP _ = _
      refine stk_len (allS 64) (allS_nodup 64) stOf _ h.nodup (fun s hs t ht e => stOf_inj (mem_allS.1 hs).2 (mem_allS.1 ht).2 e) (fun s hs hp => ?_) fun t ht => ?_
      · obtain ⟨b1, b2⟩ := (hlv s hs).1 hp
        have hd := h.diff (mem_allS.1 hs).2
        have hc := hv (cx s.1) (cy s.1)
        apply Decidable.byContradiction
        intro hn
        rw [if_neg hn] at hd
        split at hd <;> omega
      · obtain ⟨c1, c2⟩ := hR t ht
        obtain ⟨s, d1, d2, rfl⟩ := stOf_on (h.lt t ht) (hin _ _ (by unfold Wq at c2; rw [c2]; decide))
        refine ⟨s, mem_allS.2 ⟨d1, d2⟩, (hlv s (mem_allS.2 ⟨d1, d2⟩)).2 ?_, rfl⟩
        obtain ⟨q1, q2⟩ := stOf_quad d2
        unfold Rv at c1
        unfold Wq at c1 c2
        rw [q1] at c2
        rw [q2] at c1
        dsimp only at c2
        omega
    · rw [h.green hb]
      exact sum_one (fun c => by simpa using hv (cx c) (cy c)) _
  · refine ⟨?_, hpos _ _ (by rw [z1]; decide), .inr ⟨fun x y => by simpa using hv x y, ?_⟩⟩
    · show (allS 64).countP _ = _
      refine stk_len (allS 64) (allS_nodup 64) rvOf _ h.nodup (fun s hs t ht e => rvOf_inj (mem_allS.1 hs).2 (mem_allS.1 ht).2 e) (fun s hs hp => ?_) fun t ht => ?_
      · obtain ⟨b1, b2⟩ := (hlv s hs).1 hp
        have hd := h.diff (mem_allS.1 hs).2
        have hc := hv (cx s.1) (cy s.1)
        apply Decidable.byContradiction
        intro hn
        rw [if_neg hn] at hd
        split at hd <;> omega
      · obtain ⟨c1, c2⟩ := hR t ht
        have hlt := h.lt t ht
        unfold Rv Wq at c1
        unfold Wq at c2
        rw [quad_shift hlt] at c1
        obtain ⟨s, d1, d2, e⟩ := stOf_on (t := (mv t.1 t.2, opp t.2)) opp_lt (hin _ _ (by show Wd l _ _ ≠ 0; rw [c1]; decide))
        have e2 : rvOf s = t := by
          unfold rvOf
          rw [e]
          exact Prod.ext (mv_mv hlt) (opp_opp hlt)
        refine ⟨s, mem_allS.2 ⟨d1, d2⟩, (hlv s (mem_allS.2 ⟨d1, d2⟩)).2 ?_, e2⟩
        have hd := h.diff d2
        rw [e2, if_neg (h.rv (by rw [e2]; exact ht)), if_pos ht] at hd
        have hc := hv (cx s.1) (cy s.1)
        have hn := hv (nb s).1 (nb s).2
        omega
    · rw [h.green hb]
      exact sum_neg (fun c => by simpa using hv (cx c) (cy c)) _
end
end Go.Proofs.YtppjnpempgpkaaaGreat
namespace Go.Proofs.YtppjnpempgpkaaaGreat
set_option linter.unusedVariables false
set_option linter.unusedSimpArgs false
section
variable {l : List Stk}
/-- What goes on from each stick to the next one is so for all of them. -/
theorem Lp.spread (h : Lp l) (Q : Stk → Prop) (hq : ∀ u ∈ l, ∀ v ∈ l, v.1 = mv u.1 u.2 → Q u → Q v) {s : Stk} (hs : s ∈ l) (h0 : Q s) : ∀ t ∈ l, Q t := by
  have hstep : ∀ i (hi : i < l.length), Q (l[i]'hi) → ∀ n (hn : i + n < l.length), Q (l[i + n]'hn) := fun i hi hqi n => by
    induction n with
    | zero => intro _; exact hqi
    | succ n ih =>
      intro hn
      obtain ⟨j, hj, a1, a2⟩ := h.nx (i + n) (by omega)
      have e : j = i + n + 1 := by omega
      subst e
      exact hq _ (List.getElem_mem _) _ (List.getElem_mem hj) a2 (ih (by omega))
  obtain ⟨i, hi, rfl⟩ := List.getElem_of_mem hs
  have hl : Q (l[i + (l.length - 1 - i)]'(by omega)) := hstep i hi h0 _ (by omega)
  obtain ⟨j, hj, a1, a2⟩ := h.nx (i + (l.length - 1 - i)) (by omega)
  have e : j = 0 := by omega
  subst e
  have hz : Q (l[0]'hj) := hq _ (List.getElem_mem _) _ (List.getElem_mem hj) a2 hl
  intro t ht
  obtain ⟨k, hk, rfl⟩ := List.getElem_of_mem ht
  have := hstep 0 hj hz k (by omega)
  simpa using this
theorem Lp.east (h : Lp l) {s t : Stk} (hs : s ∈ l) (ht : t ∈ l) {x : Int} (h1 : s.1.1 ≤ x) (h2 : x < t.1.1) : (∃ e ∈ l, e.2 = 0 ∧ e.1.1 = x) ∧ ∃ e ∈ l, e.2 = 2 ∧ e.1.1 = x + 1 := by
  constructor
  · apply Classical.byContradiction
    intro hn
    have := h.spread (fun u => u.1.1 ≤ x) (fun u hu v hv e hx => by
      have hlt := h.lt u hu
      rw [e]
      have hne : ¬ (u.2 = 0 ∧ u.1.1 = x) := fun q => hn ⟨u, hu, q⟩
      unfold mv mvx
      dsimp only at hx ⊢
      split
      · omega
      · split <;> omega) hs h1 t ht
    omega
  · apply Classical.byContradiction
    intro hn
    have := h.spread (fun u => x < u.1.1) (fun u hu v hv e hx => by
      have hlt := h.lt u hu
      rw [e]
      have hne : ¬ (u.2 = 2 ∧ u.1.1 = x + 1) := fun q => hn ⟨u, hu, q⟩
      unfold mv mvx
      dsimp only at hx ⊢
      split
      · omega
      · split <;> omega) ht h2 s hs
    omega
theorem Lp.north (h : Lp l) {s t : Stk} (hs : s ∈ l) (ht : t ∈ l) {x : Int} (h1 : s.1.2 ≤ x) (h2 : x < t.1.2) : (∃ e ∈ l, e.2 = 1 ∧ e.1.2 = x) ∧ ∃ e ∈ l, e.2 = 3 ∧ e.1.2 = x + 1 := by
  constructor
  · apply Classical.byContradiction
    intro hn
    have := h.spread (fun u => u.1.2 ≤ x) (fun u hu v hv e hx => by
      have hlt := h.lt u hu
      rw [e]
      have hne : ¬ (u.2 = 1 ∧ u.1.2 = x) := fun q => hn ⟨u, hu, q⟩
      unfold mv mvy
      dsimp only at hx ⊢
      split
      · omega
      · split <;> omega) hs h1 t ht
    omega
  · apply Classical.byContradiction
    intro hn
    have := h.spread (fun u => x < u.1.2) (fun u hu v hv e hx => by
      have hlt := h.lt u hu
      rw [e]
      have hne : ¬ (u.2 = 3 ∧ u.1.2 = x + 1) := fun q => hn ⟨u, hu, q⟩
      unfold mv mvy
      dsimp only at hx ⊢
      split
      · omega
      · split <;> omega) ht h2 s hs
    omega
theorem many (φ : Stk → Int) (p : Stk → Bool) (lo hi : Int) (h : ∀ x, lo ≤ x → x < hi → ∃ e ∈ l, p e = true ∧ φ e = x) : hi - lo ≤ (l.countP p : Nat) := by
  have h1 : ((List.range (hi - lo).toNat).map fun n : Nat => lo + (n : Int)).Nodup := by
    refine nd_map_on ?_ List.nodup_range
    intro a _ b _ e
    omega
  have h2 : ((List.range (hi - lo).toNat).map fun n : Nat => lo + (n : Int)).length ≤ ((l.filter p).map φ).length := len_le h1 (fun x hx => by
    obtain ⟨n, hn, rfl⟩ := List.mem_map.1 hx
    have := List.mem_range.1 hn
    obtain ⟨e, he, h3, h4⟩ := h (lo + n) (by omega) (by omega)
    exact List.mem_map.2 ⟨e, List.mem_filter.2 ⟨he, h3⟩, h4⟩)
  rw [List.length_map, List.length_map, List.length_range, ← List.countP_eq_length_filter] at h2
  omega
theorem four_sum : ∀ l : List Stk, l.countP (fun s => decide (s.2 = 0)) + l.countP (fun s => decide (s.2 = 1)) + l.countP (fun s => decide (s.2 = 2)) + l.countP (fun s => decide (s.2 = 3)) ≤ l.length
  | [] => Nat.le_refl _
  | s :: l => by
    have ih := four_sum l
    rw [List.countP_cons, List.countP_cons, List.countP_cons, List.countP_cons, List.length_cons]
    obtain ⟨p, k⟩ := s
    dsimp only
    by_cases h0 : k = 0
    · subst h0; simp; omega
    · by_cases h1 : k = 1
      · subst h1; simp; omega
      · by_cases h2 : k = 2
        · subst h2; simp; omega
        · by_cases h3 : k = 3
          · subst h3; simp; omega
          · simp [h0, h1, h2, h3]; omega
/-- No chain is shorter than the box around its corners. -/
theorem Lp.box (h : Lp l) {a b c d : Stk} (ha : a ∈ l) (hb : b ∈ l) (hc : c ∈ l) (hd : d ∈ l) : 2 * ((b.1.1 - a.1.1) + (d.1.2 - c.1.2)) ≤ l.length := by
  have h0 := many (l := l) (fun s => s.1.1) (fun s => decide (s.2 = 0)) a.1.1 b.1.1 fun x h1 h2 => by
    obtain ⟨⟨e, he, q1, q2⟩, -⟩ := h.east ha hb h1 h2
    exact ⟨e, he, by simpa using q1, q2⟩
  have h2 := many (l := l) (fun s => s.1.1 - 1) (fun s => decide (s.2 = 2)) a.1.1 b.1.1 fun x h1 h2 => by
    obtain ⟨-, e, he, q1, q2⟩ := h.east ha hb h1 h2
    exact ⟨e, he, by simpa using q1, by omega⟩
  have h1 := many (l := l) (fun s => s.1.2) (fun s => decide (s.2 = 1)) c.1.2 d.1.2 fun x h1 h2 => by
    obtain ⟨⟨e, he, q1, q2⟩, -⟩ := h.north hc hd h1 h2
    exact ⟨e, he, by simpa using q1, q2⟩
  have h3 := many (l := l) (fun s => s.1.2 - 1) (fun s => decide (s.2 = 3)) c.1.2 d.1.2 fun x h1 h2 => by
    obtain ⟨-, e, he, q1, q2⟩ := h.north hc hd h1 h2
    exact ⟨e, he, by simpa using q1, by omega⟩
  have h4 := four_sum l
  omega
/-- What is gone round lies in the box around the corners. -/
theorem Lp.inside (h : Lp l) {x0 x1 y0 y1 : Int} (hx : ∀ s ∈ l, (x0 ≤ s.1.1 ∧ s.1.1 ≤ x1) ∧ y0 ≤ s.1.2 ∧ s.1.2 ≤ y1) {x y : Int} (hne : Wd l x y ≠ 0) : (x0 ≤ x ∧ x < x1) ∧ y0 ≤ y ∧ y < y1 := by
  apply Decidable.byContradiction
  intro ho
  apply hne
  have hto : ∀ s ∈ l, (x0 ≤ (mv s.1 s.2).1 ∧ (mv s.1 s.2).1 ≤ x1) ∧ y0 ≤ (mv s.1 s.2).2 ∧ (mv s.1 s.2).2 ≤ y1 := fun s hs => by
    obtain ⟨t, ht, e⟩ := h.nxt hs
    rw [← e]; exact hx t ht
  by_cases hxl : x < x0
  · rw [← h.cl fun p => if y < p.2 then 1 else 0]
    refine sm_congr fun s hs => ?_
    have h1 := hx s hs
    have h2 := h.lt s hs
    obtain ⟨⟨X, Y⟩, j⟩ := s
    dsimp only at h1 h2
    unfold wv
    dsimp only
    rw [if_pos (by omega)]
    rcases four h2 with rfl | rfl | rfl | rfl <;> simp [mv, mvy] <;> (repeat' split) <;> omega
  · refine sm_zero fun s hs => ?_
    have h1 := hx s hs
    have h2 := h.lt s hs
    have h3 := hto s hs
    obtain ⟨⟨X, Y⟩, j⟩ := s
    dsimp only at h1 h2 h3
    unfold wv
    dsimp only
    rcases four h2 with rfl | rfl | rfl | rfl <;> simp [mv, mvx, mvy] at h3 ⊢ <;> omega
end
def boxL (x y : Nat) : List Nat := List.replicate x 0 ++ List.replicate y 1 ++ List.replicate x 2 ++ List.replicate y 3
def onB' (p : Pt) : Bool := decide ((0 ≤ p.1 ∧ p.1 ≤ 8) ∧ 0 ≤ p.2 ∧ p.2 ≤ 8)
def boxOk : Bool := (List.range 8).all fun i => (List.range 8).all fun j => decide (fin (0, 0) (boxL (i + 1) (j + 1)) = (0, 0)) && decide (((sts (0, 0) (boxL (i + 1) (j + 1))).map Prod.fst).Nodup) && (sts (0, 0) (boxL (i + 1) (j + 1))).all (fun s => onB' s.1) && decide (sm (fun s => s.1.1 * mvy s.2) (sts (0, 0) (boxL (i + 1) (j + 1))) = (((i + 1) * (j + 1) : Nat) : Int))
set_option maxRecDepth 100000 in
theorem box_ok : boxOk = true := by decide +kernel
theorem box_is {x y : Nat} (h1 : 1 ≤ x ∧ x ≤ 8) (h2 : 1 ≤ y ∧ y ≤ 8) : Lp (sts (0, 0) (boxL x y)) ∧ (∀ s ∈ sts (0, 0) (boxL x y), onB s.1) ∧ sm (fun s => s.1.1 * mvy s.2) (sts (0, 0) (boxL x y)) = ((x * y : Nat) : Int) := by
  obtain ⟨i, rfl⟩ : ∃ i, x = i + 1 := ⟨x - 1, by omega⟩
  obtain ⟨j, rfl⟩ : ∃ j, y = j + 1 := ⟨y - 1, by omega⟩
  have h := box_ok
  unfold boxOk at h
  have q1 := List.all_eq_true.1 h i (List.mem_range.2 (by omega))
  have q2 := List.all_eq_true.1 q1 j (List.mem_range.2 (by omega))
  rw [Bool.and_eq_true, Bool.and_eq_true, Bool.and_eq_true] at q2
  obtain ⟨⟨⟨a, b⟩, c⟩, d⟩ := q2
  refine ⟨lp_of (fun k hk => ?_) (of_decide_eq_true a) (of_decide_eq_true b) ?_, fun s hs => (by have q := List.all_eq_true.1 c s hs; unfold onB' at q; unfold onB; exact of_decide_eq_true q), of_decide_eq_true d⟩
  · unfold boxL at hk
    simp only [List.mem_append, List.mem_replicate] at hk
    omega
  · unfold boxL
    simp only [List.length_append, List.length_replicate]
    omega
end Go.Proofs.YtppjnpempgpkaaaGreat
