/- How many logs of a row so many pockets take at most: the lines of its tableau say it (Greene's theorem). The net of a row, as plain lists: its links, the steps of a further pocket, how far a pocket is at each spot, and how these marks come to stand. Pockets as links of a net: what a further one changes. The turning of a flow, and the runs that prove it: how many logs so many pockets take at most. The longest run, the first one of several: as the program finds it, and as the reference does. Turnings that are checked, places, how many pockets are needed: as the program and as the reference find them. The shape of a row, sent pocket by pocket, and its properties: more, turned, joined, folded. The shape of a row from its end. The longest part of a row whose numbers are increasing; runs that are checked; what is asked of shapes. Runs that are checked: lists of logs, whose numbers decrease, that part a row. -/
namespace Go.Proofs.Ytclcippfodjfeaa
set_option linter.unusedVariables false
set_option linter.unusedSimpArgs false
/-- A log with its pocket. -/
abbrev Lg := Int × Option Nat
def RL (p q : Lg) : Prop := ∀ c, p.2 = some c → q.2 = some c → p.1 ≤ q.1
def okL (l : List Lg) : Prop := l.Pairwise RL
def inK (k : Nat) (l : List Lg) : Prop := ∀ p ∈ l, ∀ c, p.2 = some c → c < k
def cntL (l : List Lg) : Nat := l.countP fun p => p.2.isSome
/-- A row of which a right turning into so many pockets takes so many logs. -/
def Takes (w : List Int) (k s : Nat) : Prop := ∃ l : List Lg, l.map Prod.fst = w ∧ okL l ∧ inK k l ∧ cntL l = s
theorem ok_split (u m v : List Lg) : okL (u ++ (m ++ v)) ↔ okL u ∧ okL m ∧ okL v ∧ (∀ p ∈ u, ∀ q ∈ m, RL p q) ∧ (∀ p ∈ u, ∀ q ∈ v, RL p q) ∧ (∀ p ∈ m, ∀ q ∈ v, RL p q) := by
  unfold okL
  rw [List.pairwise_append, List.pairwise_append]
  constructor
  · rintro ⟨h1, ⟨h2, h3, h4⟩, h5⟩
    exact ⟨h1, h2, h3, fun p hp q hq => h5 p hp q (List.mem_append_left _ hq), fun p hp q hq => h5 p hp q (List.mem_append_right _ hq), h4⟩
  · rintro ⟨h1, h2, h3, h4, h5, h6⟩
    refine ⟨h1, ⟨h2, h3, h6⟩, fun p hp q hq => ?_⟩
    rcases List.mem_append.1 hq with h | h
    · exact h4 p hp q h
    · exact h5 p hp q h
def swp (C D : Nat) (o : Option Nat) : Option Nat := if o = some C then some D else if o = some D then some C else o
theorem swp_inv (C D : Nat) (o : Option Nat) : swp C D (swp C D o) = o := by
  unfold swp
  by_cases h1 : o = some C
  · by_cases h : D = C
    · simp [h1, h]
    · simp [h1, h]
  · by_cases h2 : o = some D
    · simp [h1, h2]
    · simp [h1, h2]
theorem swp_some (C D : Nat) (o : Option Nat) : (swp C D o).isSome = o.isSome := by
  unfold swp
  split
  · rename_i h; rw [h]; rfl
  · split
    · rename_i h; rw [h]; rfl
    · rfl
def swL (C D : Nat) (v : List Lg) : List Lg := v.map fun p => (p.1, swp C D p.2)
theorem swL_fst (C D : Nat) (v : List Lg) : (swL C D v).map Prod.fst = v.map Prod.fst := by simp [swL, Function.comp_def]
theorem swL_ok (C D : Nat) {v : List Lg} (h : okL v) : okL (swL C D v) := by
  unfold okL swL
  rw [List.pairwise_map]
  refine List.Pairwise.imp ?_ h
  intro p q hpq c h1 h2
  dsimp only at h1 h2 ⊢
  have e : p.2 = q.2 := by rw [← swp_inv C D p.2, ← swp_inv C D q.2, h1, h2]
  cases hp : p.2 with
  | none => rw [hp] at h1; have := congrArg Option.isSome h1; rw [swp_some] at this; simp at this
  | some d => exact hpq d hp (by rw [← e, hp])
theorem swL_cnt (C D : Nat) (v : List Lg) : cntL (swL C D v) = cntL v := by
  unfold cntL swL
  rw [List.countP_map]
  congr 1
  funext p
  exact swp_some C D p.2
theorem swL_in {C D k : Nat} (hC : C < k) (hD : D < k) {v : List Lg} (h : inK k v) : inK k (swL C D v) := by
  intro p hp c hc
  obtain ⟨q, hq, rfl⟩ := List.mem_map.1 hp
  dsimp only at hc
  unfold swp at hc
  split at hc
  · cases hc; exact hD
  · split at hc
    · cases hc; exact hC
    · exact h q hq c hc
theorem swL_mem {C D : Nat} {v : List Lg} {p : Lg} (h : p ∈ swL C D v) : (∃ q ∈ v, q.1 = p.1 ∧ q.2 = some C ∧ p.2 = some D) ∨ (∃ q ∈ v, q.1 = p.1 ∧ q.2 = some D ∧ p.2 = some C) ∨ (p ∈ v ∧ p.2 ≠ some C ∧ p.2 ≠ some D) := by
  obtain ⟨q, hq, rfl⟩ := List.mem_map.1 h
  by_cases h1 : q.2 = some C
  · refine .inl ⟨q, hq, rfl, h1, ?_⟩
    simp [swp, h1]
  · by_cases h2 : q.2 = some D
    · refine .inr (.inl ⟨q, hq, rfl, h2, ?_⟩)
      simp only [swp, h1, h2]
      simp
    · refine .inr (.inr ⟨?_, ?_, ?_⟩)
      · have : (q.1, swp C D q.2) = q := by simp [swp, h1, h2]
        rw [this]; exact hq
      · simp [swp, h1, h2]
      · simp [swp, h1, h2]
theorem cnt_app (u v : List Lg) : cntL (u ++ v) = cntL u + cntL v := List.countP_append
theorem in_app {k : Nat} {u v : List Lg} : inK k (u ++ v) ↔ inK k u ∧ inK k v := by
  unfold inK
  constructor
  · intro h; exact ⟨fun p hp => h p (List.mem_append_left _ hp), fun p hp => h p (List.mem_append_right _ hp)⟩
  · rintro ⟨h1, h2⟩ p hp
    rcases List.mem_append.1 hp with h | h
    · exact h1 p h
    · exact h2 p h
theorem in_three {k : Nat} {a b c : Lg} : inK k [a, b, c] ↔ (∀ x, a.2 = some x → x < k) ∧ (∀ x, b.2 = some x → x < k) ∧ (∀ x, c.2 = some x → x < k) := by
  simp [inK]
theorem ok_three {a b c : Lg} : okL [a, b, c] ↔ RL a b ∧ RL a c ∧ RL b c := by
  simp [okL, and_assoc]
theorem cnt_three (a b c : Lg) : cntL [a, b, c] = (if a.2.isSome then 1 else 0) + (if b.2.isSome then 1 else 0) + (if c.2.isSome then 1 else 0) := by
  simp [cntL, List.countP_cons]; omega
theorem split_word {u v : List Int} {a b c : Int} {l : List Lg} (h : l.map Prod.fst = u ++ ([a, b, c] ++ v)) : ∃ (lu lv : List Lg) (d e f : Option Nat), l = lu ++ ([(a, d), (b, e), (c, f)] ++ lv) ∧ lu.map Prod.fst = u ∧ lv.map Prod.fst = v := by
  obtain ⟨lu, l1, rfl, h1, h2⟩ := List.map_eq_append_iff.1 h
  obtain ⟨lm, lv, rfl, h3, h4⟩ := List.map_eq_append_iff.1 h2
  match lm, h3 with
  | [(p, d), (q, e), (r, f)], h3 =>
    simp at h3
    obtain ⟨rfl, rfl, rfl⟩ := h3
    exact ⟨lu, lv, d, e, f, rfl, h1, h4⟩
/-- Two logs that are exchanged, beside a third one. -/
inductive Kn : List Int → List Int → Prop
  | a (u v : List Int) (x y z : Int) (h1 : x < y) (h2 : y ≤ z) : Kn (u ++ ([y, z, x] ++ v)) (u ++ ([y, x, z] ++ v))
  | b (u v : List Int) (x y z : Int) (h1 : x ≤ y) (h2 : y < z) : Kn (u ++ ([x, z, y] ++ v)) (u ++ ([z, x, y] ++ v))
theorem RL.le {p q : Lg} (h : p.1 ≤ q.1) : RL p q := fun _ _ _ => h
theorem RL.none_left {x : Int} {q : Lg} : RL (x, none) q := fun _ h _ => by cases h
theorem RL.none_right {x : Int} {q : Lg} : RL q (x, none) := fun _ _ h => by cases h
theorem RL.ne {p q : Lg} (h : ∀ c, p.2 = some c → q.2 = some c → False) : RL p q := fun c h1 h2 => (h c h1 h2).elim
/-- Exchange keeps what can be taken: all labels stay. -/
theorem takes_keep {u v : List Int} {a b c a' b' c' : Int} {k s : Nat}
    (hperm : ∀ d e f : Option Nat, ∃ d' e' f' : Option Nat, okL [(a, d), (b, e), (c, f)] → okL [(a', d'), (b', e'), (c', f')] ∧ (∀ p, p ∈ [((a', d') : Lg), (b', e'), (c', f')] → p ∈ [((a, d) : Lg), (b, e), (c, f)]) ∧ cntL [(a', d'), (b', e'), (c', f')] = cntL [(a, d), (b, e), (c, f)])
    (h : Takes (u ++ ([a, b, c] ++ v)) k s) : Takes (u ++ ([a', b', c'] ++ v)) k s := by
  obtain ⟨l, h1, h2, h3, h4⟩ := h
  obtain ⟨lu, lv, d, e, f, rfl, rfl, rfl⟩ := split_word h1
  obtain ⟨g1, g2, g3, g4, g5, g6⟩ := (ok_split _ _ _).1 h2
  obtain ⟨d', e', f', hp⟩ := hperm d e f
  obtain ⟨p1, p2, p3⟩ := hp g2
  rw [in_app, in_app] at h3
  refine ⟨lu ++ ([(a', d'), (b', e'), (c', f')] ++ lv), by simp, (ok_split _ _ _).2 ⟨g1, p1, g3, fun p hp q hq => g4 p hp q (p2 q hq), g5, fun p hp q hq => g6 p (p2 p hp) q hq⟩, ?_, ?_⟩
  · rw [in_app, in_app]
    exact ⟨h3.1, fun p hp => h3.2.1 p (p2 p hp), h3.2.2⟩
  · rw [← h4, cnt_app, cnt_app, cnt_app, cnt_app, p3]
theorem Kn.to {w w' : List Int} (h : Kn w w') {k s : Nat} : Takes w k s ↔ Takes w' k s := by
  cases h with
  | a u v x y z h1 h2 =>
    constructor
    · refine takes_keep fun d e f => ⟨d, f, e, fun ho => ?_⟩
      rw [ok_three] at ho
      refine ⟨ok_three.2 ⟨ho.2.1, ho.1, RL.le (by dsimp only; omega)⟩, fun p hp => by (simp at hp ⊢; rcases hp with h | h | h <;> simp [h]), by rw [cnt_three, cnt_three]; dsimp only; omega⟩
    · rintro ⟨l, e1, e2, e3, e4⟩
      obtain ⟨lu, lv, d, e, f, rfl, rfl, rfl⟩ := split_word e1
      obtain ⟨g1, g2, g3, g4, g5, g6⟩ := (ok_split _ _ _).1 e2
      rw [ok_three] at g2
      rw [in_app, in_app, in_three] at e3
      obtain ⟨k1, ⟨k2, k3, k4⟩, k5⟩ := e3
      dsimp only at k2 k3 k4
      -- the second one and the third one are in one pocket, or not
      by_cases hc : ∃ C, e = some C ∧ f = some C
      · obtain ⟨C, rfl, rfl⟩ := hc
        have uC : ∀ p ∈ lu, p.2 = some C → p.1 ≤ x := fun p hp hC => g4 p hp (x, some C) (by simp) C hC rfl
        have vC : ∀ q ∈ lv, q.2 = some C → z ≤ q.1 := fun q hq hC => g6 (z, some C) (by simp) q hq C rfl hC
        cases d with
        | none =>
          refine ⟨lu ++ ([(y, some C), (z, some C), (x, none)] ++ lv), by simp, (ok_split _ _ _).2 ⟨g1, ?_, g3, ?_, g5, ?_⟩, ?_, ?_⟩
          · exact ok_three.2 ⟨RL.le h2, RL.none_right, RL.none_right⟩
          · intro p hp q hq
            simp at hq
            rcases hq with rfl | rfl | rfl
            · intro c hc1 hc2; cases hc2; have := uC p hp hc1; dsimp only; omega
            · intro c hc1 hc2; cases hc2; have := uC p hp hc1; dsimp only; omega
            · exact RL.none_right
          · intro p hp q hq
            simp at hp
            rcases hp with rfl | rfl | rfl
            · intro c hc1 hc2; cases hc1; have := vC q hq hc2; dsimp only; omega
            · intro c hc1 hc2; cases hc1; have := vC q hq hc2; dsimp only; omega
            · exact RL.none_left
          · rw [in_app, in_app, in_three]
            exact ⟨k1, ⟨k3, k4, fun c hc => by cases hc⟩, k5⟩
          · rw [← e4, cnt_app, cnt_app, cnt_app, cnt_app, cnt_three, cnt_three]; simp
        | some D =>
          have hDC : D ≠ C := fun e => by subst e; have := g2.1 D rfl rfl; dsimp only at this; omega
          have uD : ∀ p ∈ lu, p.2 = some D → p.1 ≤ y := fun p hp hD => g4 p hp (y, some D) (by simp) D hD rfl
          have vD : ∀ q ∈ lv, q.2 = some D → y ≤ q.1 := fun q hq hD => g6 (y, some D) (by simp) q hq D rfl hD
          have hCk := k3 C rfl
          have hDk := k2 D rfl
          refine ⟨lu ++ ([(y, some D), (z, some D), (x, some C)] ++ swL C D lv), by simp [swL_fst], (ok_split _ _ _).2 ⟨g1, ?_, swL_ok C D g3, ?_, ?_, ?_⟩, ?_, ?_⟩
          · exact ok_three.2 ⟨RL.le h2, RL.ne fun c a b => by cases a; cases b; exact hDC rfl, RL.ne fun c a b => by cases a; cases b; exact hDC rfl⟩
          · intro p hp q hq
            simp at hq
            rcases hq with rfl | rfl | rfl
            · intro c hc1 hc2; cases hc2; have := uD p hp hc1; dsimp only; omega
            · intro c hc1 hc2; cases hc2; have := uD p hp hc1; dsimp only; omega
            · intro c hc1 hc2; cases hc2; have := uC p hp hc1; dsimp only; omega
          · intro p hp q hq c hc1 hc2
            rcases swL_mem hq with ⟨q0, hq0, e1, e2, e3⟩ | ⟨q0, hq0, e1, e2, e3⟩ | ⟨hq0, e2, e3⟩
            · rw [e3] at hc2; cases hc2; have := vC q0 hq0 e2; have := uD p hp hc1; omega
            · rw [e3] at hc2; cases hc2; have := vD q0 hq0 e2; have := uC p hp hc1; omega
            · exact g5 p hp q hq0 c hc1 hc2
          · intro p hp q hq c hc1 hc2
            simp at hp
            rcases swL_mem hq with ⟨q0, hq0, e1, e2, e3⟩ | ⟨q0, hq0, e1, e2, e3⟩ | ⟨hq0, e2, e3⟩
            · rw [e3] at hc2; cases hc2
              have := vC q0 hq0 e2
              rcases hp with rfl | rfl | rfl
              · dsimp only; omega
              · dsimp only; omega
              · cases hc1; exact absurd rfl hDC
            · rw [e3] at hc2; cases hc2
              have := vD q0 hq0 e2
              rcases hp with rfl | rfl | rfl
              · cases hc1; exact absurd rfl hDC
              · cases hc1; exact absurd rfl hDC
              · dsimp only; omega
            · exfalso
              rcases hp with rfl | rfl | rfl
              · cases hc1; exact e3 hc2
              · cases hc1; exact e3 hc2
              · cases hc1; exact e2 hc2
          · rw [in_app, in_app, in_three]
            exact ⟨k1, ⟨k2, k2, k3⟩, swL_in hCk hDk k5⟩
          · rw [← e4, cnt_app, cnt_app, cnt_app, cnt_app, cnt_three, cnt_three, swL_cnt]; simp
      · refine ⟨lu ++ ([(y, d), (z, f), (x, e)] ++ lv), by simp, (ok_split _ _ _).2 ⟨g1, ok_three.2 ⟨g2.2.1, g2.1, RL.ne fun c a b => hc ⟨c, b, a⟩⟩, g3, ?_, g5, ?_⟩, ?_, ?_⟩
        · intro p hp q hq
          refine g4 p hp q ?_
          simp at hq ⊢
          rcases hq with h | h | h <;> simp [h]
        · intro p hp q hq
          refine g6 p ?_ q hq
          simp at hp ⊢
          rcases hp with h | h | h <;> simp [h]
        · rw [in_app, in_app, in_three]
          exact ⟨k1, ⟨k2, k4, k3⟩, k5⟩
        · rw [← e4, cnt_app, cnt_app, cnt_app, cnt_app, cnt_three, cnt_three]; dsimp only; omega
  | b u v x y z h1 h2 =>
    constructor
    · rintro ⟨l, e1, e2, e3, e4⟩
      obtain ⟨lu, lv, e, f, d, rfl, rfl, rfl⟩ := split_word e1
      obtain ⟨g1, g2, g3, g4, g5, g6⟩ := (ok_split _ _ _).1 e2
      rw [ok_three] at g2
      rw [in_app, in_app, in_three] at e3
      obtain ⟨k1, ⟨k2, k3, k4⟩, k5⟩ := e3
      dsimp only at k2 k3 k4
      by_cases hc : ∃ C, e = some C ∧ f = some C
      · obtain ⟨C, rfl, rfl⟩ := hc
        have uC : ∀ p ∈ lu, p.2 = some C → p.1 ≤ x := fun p hp hC => g4 p hp (x, some C) (by simp) C hC rfl
        have vC : ∀ q ∈ lv, q.2 = some C → z ≤ q.1 := fun q hq hC => g6 (z, some C) (by simp) q hq C rfl hC
        cases d with
        | none =>
          refine ⟨lu ++ ([(z, none), (x, some C), (y, some C)] ++ lv), by simp, (ok_split _ _ _).2 ⟨g1, ?_, g3, ?_, g5, ?_⟩, ?_, ?_⟩
          · exact ok_three.2 ⟨RL.none_left, RL.none_left, RL.le h1⟩
          · intro p hp q hq
            simp at hq
            rcases hq with rfl | rfl | rfl
            · exact RL.none_right
            · intro c hc1 hc2; cases hc2; have := uC p hp hc1; dsimp only; omega
            · intro c hc1 hc2; cases hc2; have := uC p hp hc1; dsimp only; omega
          · intro p hp q hq
            simp at hp
            rcases hp with rfl | rfl | rfl
            · exact RL.none_left
            · intro c hc1 hc2; cases hc1; have := vC q hq hc2; dsimp only; omega
            · intro c hc1 hc2; cases hc1; have := vC q hq hc2; dsimp only; omega
          · rw [in_app, in_app, in_three]
            exact ⟨k1, ⟨fun c hc => (by cases hc), k2, k3⟩, k5⟩
          · rw [← e4, cnt_app, cnt_app, cnt_app, cnt_app, cnt_three, cnt_three]; simp
        | some D =>
          have hDC : D ≠ C := fun e => by subst e; have := g2.2.2 D rfl rfl; dsimp only at this; omega
          have uD : ∀ p ∈ lu, p.2 = some D → p.1 ≤ y := fun p hp hD => g4 p hp (y, some D) (by simp) D hD rfl
          have vD : ∀ q ∈ lv, q.2 = some D → y ≤ q.1 := fun q hq hD => g6 (y, some D) (by simp) q hq D rfl hD
          have hCk := k2 C rfl
          have hDk := k4 D rfl
          refine ⟨lu ++ ([(z, some D), (x, some C), (y, some C)] ++ swL C D lv), by simp [swL_fst], (ok_split _ _ _).2 ⟨g1, ?_, swL_ok C D g3, ?_, ?_, ?_⟩, ?_, ?_⟩
          · exact ok_three.2 ⟨RL.ne fun c a b => by cases a; cases b; exact hDC rfl, RL.ne fun c a b => by cases a; cases b; exact hDC rfl, RL.le h1⟩
          · intro p hp q hq
            simp at hq
            rcases hq with rfl | rfl | rfl
            · intro c hc1 hc2; cases hc2; have := uD p hp hc1; dsimp only; omega
            · intro c hc1 hc2; cases hc2; have := uC p hp hc1; dsimp only; omega
            · intro c hc1 hc2; cases hc2; have := uC p hp hc1; dsimp only; omega
          · intro p hp q hq c hc1 hc2
            rcases swL_mem hq with ⟨q0, hq0, e1, e2, e3⟩ | ⟨q0, hq0, e1, e2, e3⟩ | ⟨hq0, e2, e3⟩
            · rw [e3] at hc2; cases hc2; have := vC q0 hq0 e2; have := uD p hp hc1; omega
            · rw [e3] at hc2; cases hc2; have := vD q0 hq0 e2; have := uC p hp hc1; omega
            · exact g5 p hp q hq0 c hc1 hc2
          · intro p hp q hq c hc1 hc2
            simp at hp
            rcases swL_mem hq with ⟨q0, hq0, e1, e2, e3⟩ | ⟨q0, hq0, e1, e2, e3⟩ | ⟨hq0, e2, e3⟩
            · rw [e3] at hc2; cases hc2
              have := vC q0 hq0 e2
              rcases hp with rfl | rfl | rfl
              · dsimp only; omega
              · cases hc1; exact absurd rfl hDC
              · cases hc1; exact absurd rfl hDC
            · rw [e3] at hc2; cases hc2
              have := vD q0 hq0 e2
              rcases hp with rfl | rfl | rfl
              · cases hc1; exact absurd rfl hDC
              · dsimp only; omega
              · dsimp only; omega
            · exfalso
              rcases hp with rfl | rfl | rfl
              · cases hc1; exact e3 hc2
              · cases hc1; exact e2 hc2
              · cases hc1; exact e2 hc2
          · rw [in_app, in_app, in_three]
            exact ⟨k1, ⟨k4, k2, k2⟩, swL_in hCk hDk k5⟩
          · rw [← e4, cnt_app, cnt_app, cnt_app, cnt_app, cnt_three, cnt_three, swL_cnt]; simp
      · refine ⟨lu ++ ([(z, f), (x, e), (y, d)] ++ lv), by simp, (ok_split _ _ _).2 ⟨g1, ok_three.2 ⟨RL.ne fun c a b => hc ⟨c, b, a⟩, g2.2.2, g2.2.1⟩, g3, ?_, g5, ?_⟩, ?_, ?_⟩
        · intro p hp q hq
          refine g4 p hp q ?_
          simp at hq ⊢
          rcases hq with h | h | h <;> simp [h]
        · intro p hp q hq
          refine g6 p ?_ q hq
          simp at hp ⊢
          rcases hp with h | h | h <;> simp [h]
        · rw [in_app, in_app, in_three]
          exact ⟨k1, ⟨k3, k2, k4⟩, k5⟩
        · rw [← e4, cnt_app, cnt_app, cnt_app, cnt_app, cnt_three, cnt_three]; dsimp only; omega
    · refine takes_keep fun d e f => ⟨e, d, f, fun ho => ?_⟩
      rw [ok_three] at ho
      refine ⟨ok_three.2 ⟨RL.le (by dsimp only; omega), ho.2.2, ho.2.1⟩, fun p hp => by (simp at hp ⊢; rcases hp with h | h | h <;> simp [h]), by rw [cnt_three, cnt_three]; dsimp only; omega⟩
/-- Rows of which as many logs can be taken, by exchanges. -/
inductive KE : List Int → List Int → Prop
  | refl (w : List Int) : KE w w
  | tail {w w' w'' : List Int} (h : KE w w') (k : Kn w' w'' ∨ Kn w'' w') : KE w w''
theorem KE.takes {w w' : List Int} (h : KE w w') {k s : Nat} : Takes w k s ↔ Takes w' k s := by
  induction h with
  | refl => exact Iff.rfl
  | tail _ hk ih => exact ih.trans (hk.elim (fun h => h.to) (fun h => h.to.symm))
theorem KE.trans {a b c : List Int} (h : KE a b) (k : KE b c) : KE a c := by
  induction k with
  | refl => exact h
  | tail _ hk ih => exact .tail ih hk
theorem Kn.ctx {w w' : List Int} (h : Kn w w') (p q : List Int) : Kn (p ++ (w ++ q)) (p ++ (w' ++ q)) := by
  cases h with
  | a u v x y z h1 h2 =>
    have := Kn.a (p ++ u) (v ++ q) x y z h1 h2
    simpa [List.append_assoc] using this
  | b u v x y z h1 h2 =>
    have := Kn.b (p ++ u) (v ++ q) x y z h1 h2
    simpa [List.append_assoc] using this
theorem KE.ctx {w w' : List Int} (h : KE w w') (p q : List Int) : KE (p ++ (w ++ q)) (p ++ (w' ++ q)) := by
  induction h with
  | refl => exact .refl _
  | tail _ hk ih => exact .tail ih (hk.imp (fun h => h.ctx p q) (fun h => h.ctx p q))
theorem KE.cons {w w' : List Int} (h : KE w w') (x : Int) : KE (x :: w) (x :: w') := by
  have := h.ctx [x] []
  simpa using this
theorem KE.a3 (x y z : Int) (v : List Int) (h1 : x < y) (h2 : y ≤ z) : KE (y :: z :: x :: v) (y :: x :: z :: v) := .tail (.refl _) (.inl (Kn.a [] v x y z h1 h2))
theorem KE.b3 (x y z : Int) (v : List Int) (h1 : x ≤ y) (h2 : y < z) : KE (x :: z :: y :: v) (z :: x :: y :: v) := .tail (.refl _) (.inl (Kn.b [] v x y z h1 h2))
/-- A number put into a line; what it pushes out. -/
def insRow (n : Int) : List Int → List Int × Option Int
  | [] => ([n], none)
  | x :: xs => if x ≤ n then (x :: (insRow n xs).1, (insRow n xs).2) else (n :: xs, some x)
def insTab : Int → List (List Int) → List (List Int)
  | n, [] => [[n]]
  | n, r :: t => match (insRow n r).2 with
    | none => (insRow n r).1 :: t
    | some m => (insRow n r).1 :: insTab m t
def tab (row : List Int) : List (List Int) := row.foldl (fun t n => insTab n t) []
theorem tab_snoc (row : List Int) (n : Int) : tab (row ++ [n]) = insTab n (tab row) := by simp [tab]
def inc (r : List Int) : Prop := r.Pairwise (· ≤ ·)
theorem ins_none {n : Int} : ∀ {r : List Int}, (insRow n r).2 = none → (insRow n r).1 = r ++ [n] ∧ ∀ x ∈ r, x ≤ n
  | [], _ => by simp [insRow]
  | x :: xs, h => by
    unfold insRow at h ⊢
    split
    · rename_i hx
      rw [if_pos hx] at h
      obtain ⟨h1, h2⟩ := ins_none h
      refine ⟨by simp [h1], fun y hy => ?_⟩
      rcases List.mem_cons.1 hy with rfl | hy
      · exact hx
      · exact h2 y hy
    · rename_i hx
      rw [if_neg hx] at h; cases h
theorem ins_some {n m : Int} : ∀ {r : List Int}, (insRow n r).2 = some m → n < m ∧ m ∈ r ∧ ∃ h t, (insRow n r).1 = h :: t ∧ h ≤ n
  | [], h => by simp [insRow] at h
  | x :: xs, h => by
    unfold insRow at h ⊢
    by_cases hx : x ≤ n
    · rw [if_pos hx] at h ⊢
      obtain ⟨h1, h2, -⟩ := ins_some h
      exact ⟨h1, List.mem_cons_of_mem _ h2, x, _, rfl, hx⟩
    · rw [if_neg hx] at h ⊢
      cases h
      exact ⟨by omega, by simp, n, xs, rfl, Int.le_refl _⟩
theorem ins_mem {n y : Int} : ∀ {r : List Int}, y ∈ (insRow n r).1 → y = n ∨ y ∈ r
  | [], h => by simp [insRow] at h; exact .inl h
  | x :: xs, h => by
    unfold insRow at h
    split at h
    · rcases List.mem_cons.1 h with rfl | h
      · exact .inr (by simp)
      · exact (ins_mem h).imp id (List.mem_cons_of_mem _)
    · rcases List.mem_cons.1 h with rfl | h
      · exact .inl rfl
      · exact .inr (List.mem_cons_of_mem _ h)
theorem ins_inc {n : Int} : ∀ {r : List Int}, inc r → inc (insRow n r).1
  | [], _ => by simp [insRow, inc]
  | x :: xs, h => by
    have h2 := List.pairwise_cons.1 h
    unfold insRow
    split
    · rename_i hx
      refine List.pairwise_cons.2 ⟨fun y hy => ?_, ins_inc h2.2⟩
      rcases ins_mem hy with rfl | hy
      · exact hx
      · exact h2.1 y hy
    · rename_i hx
      refine List.pairwise_cons.2 ⟨fun y hy => ?_, h2.2⟩
      have := h2.1 y hy; omega
theorem push_back {n x : Int} (hn : n < x) : ∀ {xs : List Int}, inc (x :: xs) → KE (x :: (xs ++ [n])) (x :: n :: xs)
  | [], _ => .refl _
  | z :: zs, h => by
    have h1 := List.pairwise_cons.1 h
    have hz := h1.1 z (by simp)
    have ih := push_back (n := n) (x := z) (by omega) h1.2
    exact (ih.cons x).trans (KE.a3 n x z zs hn hz)
theorem ins_ke {n m : Int} : ∀ {r : List Int}, inc r → (insRow n r).2 = some m → KE (r ++ [n]) (m :: (insRow n r).1)
  | [], _, h => by simp [insRow] at h
  | x :: xs, hi, h => by
    have h2 := List.pairwise_cons.1 hi
    unfold insRow at h ⊢
    by_cases hx : x ≤ n
    · rw [if_pos hx] at h ⊢
      have ih := ins_ke h2.2 h
      obtain ⟨h3, h4, hh, ht, h5, h6⟩ := ins_some h
      refine (ih.cons x).trans ?_
      dsimp only
      rw [h5]
      refine KE.b3 x hh m ht ?_ (by omega)
      have : hh ∈ (insRow n xs).1 := by rw [h5]; simp
      rcases ins_mem this with rfl | h7
      · exact hx
      · exact h2.1 _ h7
    · rw [if_neg hx] at h ⊢
      cases h
      exact push_back (by omega) hi
/-- The numbers of a tableau, its last line first. -/
def rw : List (List Int) → List Int
  | [] => []
  | r :: t => rw t ++ r
theorem insTab_inc {n : Int} : ∀ {n : Int} {t : List (List Int)}, (∀ r ∈ t, inc r) → ∀ r ∈ insTab n t, inc r
  | n, [], _, r, hr => by simp [insTab] at hr; subst hr; simp [inc]
  | n, s :: t, h, r, hr => by
    have hs := ins_inc (n := n) (h s (by simp))
    have ht : ∀ r ∈ t, inc r := fun r hr => h r (List.mem_cons_of_mem _ hr)
    unfold insTab at hr
    split at hr
    · rcases List.mem_cons.1 hr with rfl | hr
      · exact hs
      · exact ht r hr
    · rcases List.mem_cons.1 hr with rfl | hr
      · exact hs
      · exact insTab_inc (n := 0) ht r hr
theorem insTab_ke : ∀ {n : Int} {t : List (List Int)}, (∀ r ∈ t, inc r) → KE (rw t ++ [n]) (rw (insTab n t))
  | n, [], _ => .refl _
  | n, s :: t, h => by
    have hs := h s (by simp)
    have ht : ∀ r ∈ t, inc r := fun r hr => h r (List.mem_cons_of_mem _ hr)
    unfold insTab
    cases hc : (insRow n s).2 with
    | none =>
      dsimp only
      show KE ((rw t ++ s) ++ [n]) (rw t ++ (insRow n s).1)
      rw [(ins_none hc).1, List.append_assoc]
      exact .refl _
    | some m =>
      dsimp only
      show KE ((rw t ++ s) ++ [n]) (rw (insTab m t) ++ (insRow n s).1)
      have h1 := (ins_ke hs hc).ctx (rw t) []
      have h2 := (insTab_ke (n := m) ht).ctx [] (insRow n s).1
      simp only [List.append_nil, List.nil_append] at h1 h2
      rw [List.append_assoc]
      refine h1.trans ?_
      have e : rw t ++ m :: (insRow n s).1 = rw t ++ [m] ++ (insRow n s).1 := by simp
      rw [e]
      exact h2
theorem tab_both (row : List Int) : (∀ r ∈ tab row, inc r) ∧ KE row (rw (tab row)) := by
  have : ∀ n, (∀ r ∈ tab (row.take n), inc r) ∧ KE (row.take n) (rw (tab (row.take n))) := by
    intro n
    induction n with
    | zero => simp [tab, rw]; exact .refl _
    | succ n ih =>
      by_cases hn : n < row.length
      · have e : row.take (n + 1) = row.take n ++ [row[n]] := by rw [List.take_succ_eq_append_getElem hn]
        rw [e, tab_snoc]
        refine ⟨insTab_inc (n := 0) ih.1, ?_⟩
        have h1 := ih.2.ctx [] [row[n]]
        simp only [List.nil_append] at h1
        exact h1.trans (insTab_ke ih.1)
      · rw [List.take_of_length_le (by omega)]
        rw [List.take_of_length_le (by omega)] at ih
        exact ih
  have h := this row.length
  rwa [List.take_length] at h
/-- One line above another one: no longer, and greater everywhere. -/
def Above : List Int → List Int → Prop
  | _, [] => True
  | [], _ :: _ => False
  | x :: r, y :: s => x < y ∧ Above r s
theorem Above.nil (r : List Int) : Above r [] := by cases r <;> trivial
theorem above_snoc {n : Int} : ∀ {r s : List Int}, Above r s → Above (r ++ [n]) s
  | r, [], _ => Above.nil _
  | [], y :: s, h => h.elim
  | x :: r, y :: s, h => ⟨h.1, above_snoc h.2⟩
theorem above_ins {n m : Int} : ∀ {r s : List Int}, (insRow n r).2 = some m → Above r s → Above (insRow n r).1 s
  | r, [], _, _ => Above.nil _
  | [], y :: s, _, h => h.elim
  | x :: r, y :: s, hc, h => by
    unfold insRow at hc ⊢
    by_cases hx : x ≤ n
    · rw [if_pos hx] at hc ⊢
      exact ⟨h.1, above_ins hc h.2⟩
    · rw [if_neg hx] at hc ⊢
      have := h.1
      exact ⟨by omega, h.2⟩
theorem above_both {n m : Int} : ∀ {r s : List Int}, (insRow n r).2 = some m → Above r s → Above (insRow n r).1 (insRow m s).1
  | [], _, hc, _ => by simp [insRow] at hc
  | x :: r, s, hc, h => by
    have hlt := (ins_some hc).1
    unfold insRow at hc
    by_cases hx : x ≤ n
    · rw [if_pos hx] at hc
      have e : (insRow n (x :: r)).1 = x :: (insRow n r).1 := by simp [insRow, hx]
      rw [e]
      match s, h with
      | [], _ => exact ⟨by omega, Above.nil _⟩
      | y :: ys, h =>
        by_cases hy : y ≤ m
        · have e2 : (insRow m (y :: ys)).1 = y :: (insRow m ys).1 := by simp [insRow, hy]
          rw [e2]
          exact ⟨h.1, above_both hc h.2⟩
        · have e2 : (insRow m (y :: ys)).1 = m :: ys := by simp [insRow, hy]
          rw [e2]
          exact ⟨by omega, above_ins hc h.2⟩
    · rw [if_neg hx] at hc
      injection hc with hc
      subst hc
      have e : (insRow n (x :: r)).1 = n :: r := by simp [insRow, hx]
      rw [e]
      match s, h with
      | [], _ => exact ⟨by omega, Above.nil _⟩
      | y :: ys, h =>
        have hxy := h.1
        have e2 : (insRow x (y :: ys)).1 = x :: ys := by simp [insRow, show ¬ y ≤ x by omega]
        rw [e2]
        exact ⟨by omega, h.2⟩
/-- A tableau: lines that are not empty, one above the next. -/
def Tb : List (List Int) → Prop
  | [] => True
  | [r] => r ≠ []
  | r :: s :: t => r ≠ [] ∧ Above r s ∧ Tb (s :: t)
theorem Tb.head {r : List Int} {t : List (List Int)} (h : Tb (r :: t)) : r ≠ [] := by
  cases t with
  | nil => exact h
  | cons s t => exact h.1
theorem Tb.tail {r : List Int} {t : List (List Int)} (h : Tb (r :: t)) : Tb t := by
  cases t with
  | nil => trivial
  | cons s t => exact h.2.2
theorem ins_ne (n : Int) (r : List Int) : (insRow n r).1 ≠ [] := by
  cases r with
  | nil => simp [insRow]
  | cons x xs => unfold insRow; split <;> simp
theorem insTab_tb : ∀ {n : Int} {t : List (List Int)}, Tb t → Tb (insTab n t)
  | n, [], _ => by simp [insTab, Tb]
  | n, [r], h => by
    unfold insTab
    cases hc : (insRow n r).2 with
    | none => exact ins_ne n r
    | some m =>
      refine ⟨ins_ne n r, ?_, by simp [insTab, Tb]⟩
      have := above_both hc (Above.nil r)
      simpa [insRow] using this
  | n, r :: s :: t, h => by
    unfold insTab
    cases hc : (insRow n r).2 with
    | none =>
      refine ⟨ins_ne n r, ?_, h.2.2⟩
      rw [(ins_none hc).1]
      exact above_snoc h.2.1
    | some m =>
      have ih := insTab_tb (n := m) h.2.2
      unfold insTab at ih ⊢
      cases hc2 : (insRow m s).2 with
      | none =>
        simp only [hc2] at ih ⊢
        exact ⟨ins_ne n r, above_both hc h.2.1, ih⟩
      | some q =>
        simp only [hc2] at ih ⊢
        exact ⟨ins_ne n r, above_both hc h.2.1, ih⟩
theorem tab_tb (row : List Int) : Tb (tab row) := by
  unfold tab
  have : ∀ (l : List Int) (t : List (List Int)), Tb t → Tb (l.foldl (fun t n => insTab n t) t) := by
    intro l
    induction l with
    | nil => intro t h; exact h
    | cons x l ih => intro t h; exact ih _ (insTab_tb h)
  exact this row [] trivial
/-- How many numbers the first lines have. -/
def sumk : Nat → List (List Int) → Nat
  | 0, _ => 0
  | _ + 1, [] => 0
  | k + 1, r :: t => r.length + sumk k t
/-- The first lines can be taken, each into a pocket. -/
def labT (k : Nat) : Nat → List (List Int) → List Lg
  | _, [] => []
  | i, r :: t => labT k (i + 1) t ++ r.map fun x => (x, if i < k then some i else none)
theorem labT_fst (k : Nat) : ∀ (i : Nat) (t : List (List Int)), (labT k i t).map Prod.fst = rw t
  | _, [] => rfl
  | i, r :: t => by simp [labT, rw, labT_fst k (i + 1) t, Function.comp_def]
theorem labT_ge (k : Nat) : ∀ (i : Nat) (t : List (List Int)) (p : Lg), p ∈ labT k i t → ∀ c, p.2 = some c → i ≤ c ∧ c < k
  | _, [], p, h, _, _ => by simp [labT] at h
  | i, r :: t, p, h, c, hc => by
    rcases List.mem_append.1 h with h | h
    · have := labT_ge k (i + 1) t p h c hc; omega
    · obtain ⟨x, -, rfl⟩ := List.mem_map.1 h
      dsimp only at hc
      split at hc
      · cases hc; omega
      · cases hc
theorem labT_ok (k : Nat) : ∀ (i : Nat) (t : List (List Int)), (∀ r ∈ t, inc r) → okL (labT k i t)
  | _, [], _ => List.Pairwise.nil
  | i, r :: t, h => by
    unfold labT okL
    rw [List.pairwise_append]
    refine ⟨labT_ok k (i + 1) t (fun r hr => h r (List.mem_cons_of_mem _ hr)), ?_, ?_⟩
    · rw [List.pairwise_map]
      exact List.Pairwise.imp (fun hxy => RL.le hxy) (h r (by simp))
    · intro p hp q hq c h1 h2
      exfalso
      have := (labT_ge k (i + 1) t p hp c h1).1
      obtain ⟨x, -, rfl⟩ := List.mem_map.1 hq
      dsimp only at h2
      split at h2
      · cases h2; omega
      · cases h2
theorem sumk_nil (k : Nat) : sumk k [] = 0 := by cases k <;> rfl
theorem labT_cnt (k : Nat) : ∀ (i : Nat) (t : List (List Int)), cntL (labT k i t) = sumk (k - i) t
  | _, [] => by simp [labT, cntL, sumk_nil]
  | i, r :: t => by
    unfold labT
    rw [cnt_app, labT_cnt k (i + 1) t]
    unfold cntL
    rw [List.countP_map]
    by_cases hi : i < k
    · obtain ⟨j, hj⟩ : ∃ j, k - i = j + 1 := ⟨k - i - 1, by omega⟩
      rw [hj, show k - (i + 1) = j by omega]
      have e : ((fun p : Lg => p.2.isSome) ∘ fun x => ((x, if i < k then some i else none) : Lg)) = fun _ => true := by funext x; simp [hi]
      rw [e, List.countP_true]
      show sumk j t + r.length = r.length + sumk j t
      omega
    · rw [show k - i = 0 by omega, show k - (i + 1) = 0 by omega]
      have e : ((fun p : Lg => p.2.isSome) ∘ fun x => ((x, if i < k then some i else none) : Lg)) = fun _ => false := by funext x; simp [hi]
      rw [e, List.countP_false]
      simp [sumk]
theorem takes_tab {t : List (List Int)} (h : ∀ r ∈ t, inc r) (k : Nat) : Takes (rw t) k (sumk k t) :=
  ⟨labT k 0 t, labT_fst k 0 t, labT_ok k 0 t h, fun p hp c hc => (labT_ge k 0 t p hp c hc).2, labT_cnt k 0 t⟩
/-- No more can: of each column at most one for each pocket. -/
def rwL : List (List Lg) → List Lg
  | [] => []
  | r :: t => rwL t ++ r
theorem rwL_of : ∀ {t : List (List Int)} {l : List Lg}, l.map Prod.fst = rw t → ∃ L : List (List Lg), L.map (fun r => r.map Prod.fst) = t ∧ l = rwL L
  | [], l, h => ⟨[], rfl, by simpa [rw, rwL] using h⟩
  | r :: t, l, h => by
    obtain ⟨l1, l2, rfl, h1, h2⟩ := List.map_eq_append_iff.1 (show l.map Prod.fst = rw t ++ r from h)
    obtain ⟨L, h3, rfl⟩ := rwL_of h1
    exact ⟨l2 :: L, by simp [h2, h3], rfl⟩
def heads : List (List Lg) → List Lg
  | [] => []
  | [] :: t => heads t
  | (p :: _) :: t => heads t ++ [p]
def tls : List (List Lg) → List (List Lg)
  | [] => []
  | r :: t => match r.tail with
    | [] => []
    | q :: s => (q :: s) :: tls t
abbrev fstL (L : List (List Lg)) : List (List Int) := L.map fun r => r.map Prod.fst
theorem tb_short {L : List (List Lg)} (h : Tb (fstL L)) {r : List Lg} {t : List (List Lg)} (e : L = r :: t) (hr : r.length ≤ 1) : ∀ s ∈ t, s.length = 1 := by
  subst e
  induction t generalizing r with
  | nil => intro s hs; cases hs
  | cons s t ih =>
    have h1 : r.map Prod.fst ≠ [] ∧ Above (r.map Prod.fst) (s.map Prod.fst) ∧ Tb (fstL (s :: t)) := h
    have hs : s.length = 1 := by
      match r, s, hr, h1 with
      | r, [], hr, h1 => exact absurd rfl h1.2.2.head
      | [], y :: s, hr, h1 => exact absurd rfl h1.1
      | [x], [y], hr, h1 => rfl
      | [x], y :: z :: s, hr, h1 => exact h1.2.1.2.elim
      | x :: x' :: r, y :: s, hr, h1 => simp at hr
    intro q hq
    rcases List.mem_cons.1 hq with rfl | hq
    · exact hs
    · exact ih (by omega) h1.2.2 q hq
theorem heads_len : ∀ {L : List (List Lg)}, (∀ r ∈ L, r.length = 1) → cntL (rwL L) = cntL (heads L) ∧ ∀ k, sumk k (fstL L) = min k L.length
  | [], _ => ⟨rfl, fun k => by rw [show fstL [] = [] from rfl, sumk_nil]; simp⟩
  | r :: t, h => by
    obtain ⟨h1, h2⟩ := heads_len (L := t) (fun s hs => h s (List.mem_cons_of_mem _ hs))
    match r, h r (by simp) with
    | [p], _ =>
      refine ⟨by rw [show rwL ([p] :: t) = rwL t ++ [p] from rfl, show heads ([p] :: t) = heads t ++ [p] from rfl, cnt_app, cnt_app, h1], fun k => ?_⟩
      cases k with
      | zero => simp [sumk]
      | succ k =>
        show 1 + sumk k (fstL t) = _
        rw [h2 k]
        simp only [List.length_cons]
        omega
theorem tls_parts : ∀ {L : List (List Lg)}, Tb (fstL L) → cntL (rwL L) = cntL (heads L) + cntL (rwL (tls L)) ∧ (∀ k, sumk k (fstL L) = min k L.length + sumk k (fstL (tls L))) ∧ Tb (fstL (tls L)) ∧ (L ≠ [] → (rwL (tls L)).length < (rwL L).length)
  | [], _ => ⟨rfl, fun k => by simp [sumk_nil, tls], trivial, fun h => absurd rfl h⟩
  | r :: t, h => by
    match hr : r, h with
    | [], h => exact absurd rfl h.head
    | [p], h =>
      have hs := tb_short h rfl (by simp)
      obtain ⟨h1, h2⟩ := heads_len (L := [p] :: t) (fun s hm => by
        rcases List.mem_cons.1 hm with rfl | hm
        · rfl
        · exact hs s hm)
      refine ⟨by rw [h1]; rfl, fun k => by rw [h2 k]; simp [tls, sumk_nil], trivial, fun _ => ?_⟩
      show 0 < (rwL t ++ [p]).length
      simp
    | p :: q :: s, h =>
      obtain ⟨h1, h2, h3, h4⟩ := tls_parts (L := t) h.tail
      have e : tls ((p :: q :: s) :: t) = (q :: s) :: tls t := rfl
      rw [e]
      refine ⟨?_, fun k => ?_, ?_, fun _ => ?_⟩
      · rw [show rwL ((p :: q :: s) :: t) = rwL t ++ (p :: q :: s) from rfl, show heads ((p :: q :: s) :: t) = heads t ++ [p] from rfl, show rwL ((q :: s) :: tls t) = rwL (tls t) ++ (q :: s) from rfl, show (p :: q :: s) = [p] ++ (q :: s) from rfl]
        rw [cnt_app, cnt_app, cnt_app, cnt_app, h1]
        omega
      · cases k with
        | zero => simp [sumk]
        | succ k =>
          show (p.1 :: q.1 :: s.map Prod.fst).length + sumk k (fstL t) = _ + ((q.1 :: s.map Prod.fst).length + sumk k (fstL (tls t)))
          rw [h2 k]
          simp only [List.length_cons]
          omega
      · match t, h, h3 with
        | [], _, _ => exact (by simp [tls, Tb] : Tb (fstL ((q :: s) :: tls [])))
        | r2 :: t2, h, h3 =>
          have ha : Above (p.1 :: q.1 :: s.map Prod.fst) (r2.map Prod.fst) := h.2.1
          match r2, h, h3, ha with
          | [], h, _, _ => exact absurd rfl h.tail.head
          | [x], _, _, _ => exact (by simp [tls, Tb] : Tb (fstL ((q :: s) :: tls ([x] :: t2))))
          | x :: y :: r2, _, h3, ha => exact ⟨by simp, ha.2, h3⟩
      · show (rwL (tls t) ++ (q :: s)).length < (rwL t ++ (p :: q :: s)).length
        simp only [List.length_append, List.length_cons]
        by_cases ht : t = []
        · subst ht; simp [tls, rwL]
        · have := h4 ht; omega
theorem rwL_heads : ∀ (L : List (List Lg)), (heads L).Sublist (rwL L) ∧ (rwL (tls L)).Sublist (rwL L)
  | [] => ⟨List.Sublist.refl _, List.Sublist.refl _⟩
  | r :: t => by
    obtain ⟨h1, h2⟩ := rwL_heads t
    match r with
    | [] => exact ⟨by simpa [heads, rwL] using h1, List.nil_sublist _⟩
    | [p] => exact ⟨h1.append (List.Sublist.refl _), List.nil_sublist _⟩
    | p :: q :: s => exact ⟨h1.append ((List.nil_sublist (q :: s)).cons_cons p), h2.append (List.sublist_cons_self p (q :: s))⟩
theorem tb_heads : ∀ {L : List (List Lg)}, Tb (fstL L) → (heads L).Pairwise (fun p q => q.1 < p.1) ∧ (heads L).length = L.length ∧ ∀ r t p s, L = r :: t → r = p :: s → ∀ q ∈ heads L, p.1 ≤ q.1
  | [], _ => ⟨List.Pairwise.nil, rfl, fun r t p s h => by cases h⟩
  | r :: t, h => by
    match r, h with
    | [], h => exact absurd rfl h.head
    | p :: s, h =>
      obtain ⟨h1, h2, h3⟩ := tb_heads (L := t) h.tail
      have hlt : ∀ q ∈ heads t, p.1 < q.1 := by
        match t, h, h3 with
        | [], _, _ => intro q hq; cases hq
        | r2 :: t2, h, h3 =>
          match r2, h, h3 with
          | [], h, _ => exact absurd rfl h.tail.head
          | x :: r2, h, h3 =>
            intro q hq
            have h4 := h3 _ _ _ _ rfl rfl q hq
            have h5 : p.1 < x.1 := h.2.1.1
            omega
      refine ⟨?_, ?_, ?_⟩
      · show (heads t ++ [p]).Pairwise _
        rw [List.pairwise_append]
        exact ⟨h1, by simp, fun a ha b hb => by simp at hb; subst hb; exact hlt a ha⟩
      · show (heads t ++ [p]).length = _
        simp [h2]
      · intro r' t' p' s' e1 e2 q hq
        cases e1; cases e2
        rcases List.mem_append.1 (show q ∈ heads t ++ [p] from hq) with hq | hq
        · have := hlt q hq; omega
        · simp at hq; subst hq; exact Int.le_refl _
/-- Labels that are all different are no more than there are. -/
theorem distinct_le {k : Nat} : ∀ (l : List Lg), l.Pairwise (fun p q => ∀ c, p.2 = some c → q.2 ≠ some c) → inK k l → cntL l ≤ k := by
  intro l hp hk
  have key : ∀ (l : List Lg) (s : List Nat), l.Pairwise (fun p q => ∀ c, p.2 = some c → q.2 ≠ some c) → (∀ p ∈ l, ∀ c, p.2 = some c → c ∈ s) → cntL l ≤ s.length := by
    intro l
    induction l with
    | nil => intro s _ _; simp [cntL]
    | cons p l ih =>
      intro s hp hs
      have hp2 := List.pairwise_cons.1 hp
      cases hc : p.2 with
      | none =>
        have := ih s hp2.2 (fun q hq => hs q (List.mem_cons_of_mem _ hq))
        have e : cntL (p :: l) = cntL l := by simp [cntL, hc]
        omega
      | some c =>
        have hcs := hs p (by simp) c hc
        have := ih (s.erase c) hp2.2 (fun q hq d hd => by
          have hne : d ≠ c := fun e => hp2.1 q hq c hc (by rw [hd, e])
          exact (List.mem_erase_of_ne hne).2 (hs q (List.mem_cons_of_mem _ hq) d hd))
        rw [List.length_erase_of_mem hcs] at this
        have h0 := List.length_pos_of_mem hcs
        have e : cntL (p :: l) = cntL l + 1 := by simp [cntL, hc]
        omega
  have := key l (List.range k) hp (fun p hp c hc => List.mem_range.2 (hk p hp c hc))
  rwa [List.length_range] at this
theorem cnt_le (l : List Lg) : cntL l ≤ l.length := List.countP_le_length
theorem tab_most {k : Nat} : ∀ (N : Nat) {L : List (List Lg)}, (rwL L).length ≤ N → Tb (fstL L) → okL (rwL L) → inK k (rwL L) → cntL (rwL L) ≤ sumk k (fstL L) := by
  intro N
  induction N with
  | zero =>
    intro L hN _ _ _
    have := cnt_le (rwL L)
    omega
  | succ N ih =>
    intro L hN hT ho hk
    by_cases hL : L = []
    · subst hL; simp [rwL, cntL]
    · obtain ⟨h1, h2, h3, h4⟩ := tls_parts hT
      obtain ⟨s1, s2⟩ := rwL_heads L
      obtain ⟨p1, p2, -⟩ := tb_heads hT
      have h5 := ih (L := tls L) (by have := h4 hL; omega) h3 (List.Pairwise.sublist s2 ho) (fun p hp => hk p (s2.subset hp))
      have h6 : cntL (heads L) ≤ k := by
        refine distinct_le _ ?_ (fun p hp => hk p (s1.subset hp))
        have h7 := List.Pairwise.sublist s1 ho
        refine List.Pairwise.imp₂ ?_ p1 h7
        intro p q h8 h9 c h10 h11
        have := h9 c h10 h11
        omega
      have h7 := cnt_le (heads L)
      rw [h1, h2 k]
      omega
/-- Greene's theorem. -/
theorem greene_le {row : List Int} {k s : Nat} (h : Takes row k s) : s ≤ sumk k (tab row) := by
  obtain ⟨hi, hk⟩ := tab_both row
  obtain ⟨l, h1, h2, h3, rfl⟩ := hk.takes.1 h
  obtain ⟨L, h4, rfl⟩ := rwL_of h1
  have := tab_most (k := k) _ (Nat.le_refl _) (by rw [show fstL L = tab row from h4]; exact tab_tb row) h2 h3
  rwa [show fstL L = tab row from h4] at this
theorem greene_ge (row : List Int) (k : Nat) : Takes row k (sumk k (tab row)) := by
  obtain ⟨hi, hk⟩ := tab_both row
  exact hk.takes.2 (takes_tab hi k)
end Go.Proofs.Ytclcippfodjfeaa
namespace Go.Proofs.Ytclcippfodjfeaa
set_option linter.unusedVariables false
set_option linter.unusedSimpArgs false
abbrev Lk := Nat × Nat
def bef (i : Nat) : Nat := 2 + 2 * i
def aft (i : Nat) : Nat := 3 + 2 * i
def rAt (row : List Int) (i : Nat) : Int := row.getD i 0
def behB (row : List Int) (i j : Nat) : Bool := decide (i < j) && decide (rAt row i ≤ rAt row j)
def behindL (row : List Int) (i : Nat) : List Nat := (List.range row.length).filter (behB row i)
def linksOf (row : List Int) (i : Nat) : List (Lk × Nat) := ((0, bef i), 0) :: ((bef i, aft i), 1) :: ((aft i, 1), 0) :: (behindL row i).map fun j => ((aft i, bef j), 0)
def linksL (row : List Int) : List (Lk × Nat) := ((0, 1), 0) :: (List.range row.length).flatMap (linksOf row)
def turn (l : Lk) : Lk := (l.2, l.1)
def inF (F : List Lk) (l : Lk) : Bool := F.any fun x => x.1 == l.1 && x.2 == l.2
theorem inF_iff (F : List Lk) (l : Lk) : inF F l = true ↔ l ∈ F := by
  unfold inF
  rw [List.any_eq_true]
  constructor
  · rintro ⟨x, hx, h⟩
    simp at h
    have : x = l := Prod.ext h.1 h.2
    rw [← this]; exact hx
  · intro h; exact ⟨l, h, by simp⟩
theorem inF_no (F : List Lk) (l : Lk) : inF F l = false ↔ l ∉ F := by
  rw [← inF_iff, Bool.not_eq_true]
def stepsOf (F : List Lk) (x : Lk × Nat) : List (Lk × Int) := (if inF F x.1 then [(turn x.1, -(x.2 : Int))] else []) ++ (if inF F x.1 && decide (0 < x.2) then [] else [(x.1, (x.2 : Int))])
def stepsL (row : List Int) (F : List Lk) : List (Lk × Int) := (linksL row).flatMap (stepsOf F)
theorem mem_links {row : List Int} {l : Lk} {c : Nat} : (l, c) ∈ linksL row ↔ (l = (0, 1) ∧ c = 0) ∨ ∃ i, i < row.length ∧ ((l = (0, bef i) ∧ c = 0) ∨ (l = (bef i, aft i) ∧ c = 1) ∨ (l = (aft i, 1) ∧ c = 0) ∨ ∃ j, j < row.length ∧ i < j ∧ rAt row i ≤ rAt row j ∧ l = (aft i, bef j) ∧ c = 0) := by
  unfold linksL linksOf behindL behB
  simp only [List.mem_cons, Prod.mk.injEq, List.mem_flatMap, List.mem_range, List.mem_map, List.mem_filter, Bool.and_eq_true, decide_eq_true_eq]
  constructor
  · rintro (h | ⟨i, hi, h | h | h | ⟨j, ⟨hj, h1, h2⟩, h3, h4⟩⟩)
    · exact .inl h
    · exact .inr ⟨i, hi, .inl h⟩
    · exact .inr ⟨i, hi, .inr (.inl h)⟩
    · exact .inr ⟨i, hi, .inr (.inr (.inl h))⟩
    · exact .inr ⟨i, hi, .inr (.inr (.inr ⟨j, hj, h1, h2, h3.symm, h4.symm⟩))⟩
  · rintro (h | ⟨i, hi, h | h | h | ⟨j, hj, h1, h2, h3, h4⟩⟩)
    · exact .inl h
    · exact .inr ⟨i, hi, .inl h⟩
    · exact .inr ⟨i, hi, .inr (.inl h)⟩
    · exact .inr ⟨i, hi, .inr (.inr (.inl h))⟩
    · exact .inr ⟨i, hi, .inr (.inr (.inr ⟨j, ⟨hj, h1, h2⟩, h3.symm, h4.symm⟩))⟩
theorem mem_steps {row : List Int} {F : List Lk} {s : Lk × Int} : s ∈ stepsL row F ↔ ∃ l c, (l, c) ∈ linksL row ∧ ((l ∈ F ∧ s = (turn l, -(c : Int))) ∨ (¬ (l ∈ F ∧ 0 < c) ∧ s = (l, (c : Int)))) := by
  unfold stepsL
  rw [List.mem_flatMap]
  constructor
  · rintro ⟨⟨l, c⟩, h1, h2⟩
    refine ⟨l, c, h1, ?_⟩
    unfold stepsOf at h2
    rcases List.mem_append.1 h2 with h | h
    · split at h
      · rename_i hf
        exact .inl ⟨(inF_iff _ _).1 hf, by simpa using h⟩
      · cases h
    · split at h
      · cases h
      · rename_i hf
        refine .inr ⟨fun hh => hf ?_, by simpa using h⟩
        rw [Bool.and_eq_true, decide_eq_true_iff]
        exact ⟨(inF_iff _ _).2 hh.1, hh.2⟩
  · rintro ⟨l, c, h1, h2⟩
    refine ⟨(l, c), h1, ?_⟩
    unfold stepsOf
    rcases h2 with ⟨h2, rfl⟩ | ⟨h2, rfl⟩
    · rw [if_pos ((inF_iff _ _).2 h2)]
      simp
    · have : ¬ (inF F l && decide (0 < c)) = true := fun hh => by
        rw [Bool.and_eq_true, decide_eq_true_iff] at hh
        exact h2 ⟨(inF_iff _ _).1 hh.1, hh.2⟩
      rw [List.mem_append]
      right
      rw [if_neg this]
      simp
/-- Marks, and the last links. -/
abbrev St := List Int × List Lk
def fa (f : List Int) (v : Nat) : Int := f.getD v 0
def la (l : List Lk) (v : Nat) : Lk := l.getD v (0, 0)
theorem fa_set (f : List Int) (i v : Nat) (x : Int) (hi : i < f.length) : fa (f.set i x) v = if v = i then x else fa f v := by
  unfold fa
  rw [List.getD_eq_getElem?_getD, List.getD_eq_getElem?_getD, List.getElem?_set]
  by_cases h : i = v
  · subst h; simp [hi]
  · rw [if_neg h, if_neg (fun e => h e.symm)]
theorem la_set (f : List Lk) (i v : Nat) (x : Lk) (hi : i < f.length) : la (f.set i x) v = if v = i then x else la f v := by
  unfold la
  rw [List.getD_eq_getElem?_getD, List.getD_eq_getElem?_getD, List.getElem?_set]
  by_cases h : i = v
  · subst h; simp [hi]
  · rw [if_neg h, if_neg (fun e => h e.symm)]
def upd (rd : List Int) (st : St) (s : Lk × Int) : St := if decide (0 < fa rd s.1.1) && decide (fa st.1 s.1.2 < fa rd s.1.1 + s.2) then (st.1.set s.1.2 (fa rd s.1.1 + s.2), st.2.set s.1.2 s.1) else st
def roundM (ss : List (Lk × Int)) (st : St) : St := ss.foldl (upd st.1) st
/-- Rounds, until marks stay. -/
def measF (ss : List (Lk × Int)) : Nat → St → Option St
  | 0, _ => none
  | k + 1, st => if (roundM ss st).1 == st.1 then some (roundM ss st) else measF ss k (roundM ss st)
def far0 : List Int := (List.replicate 62 0).set 0 1
def meas (row : List Int) (F last : List Lk) : Option St := measF (stepsL row F) 2000 (far0, last)
/-- The links of the best way to a spot, from its end on. -/
def pathF : Nat → List Lk → Nat → Option (List Lk)
  | 0, _, _ => none
  | k + 1, last, v => if v == 0 then some [] else (pathF k last (la last v).1).map fun ps => la last v :: ps
def tog (F : List Lk) (l : Lk) : List Lk := if inF F (turn l) then F.filter (fun x => !(x.1 == l.2 && x.2 == l.1)) else l :: F
/-- Pockets that are sent, one after another. -/
def sendF (row : List Int) : Nat → List Lk → List Lk → Option (List Int × List Lk × List Lk)
  | 0, F, last => some ([], F, last)
  | m + 1, F, last => (meas row F last).bind fun st =>
    if fa st.1 1 == fa st.1 0 then some ([], F, st.2)
    else (pathF 4000 st.2 1).bind fun ps => (sendF row m (ps.foldl tog F) st.2).map fun x => ((fa st.1 1 - fa st.1 0) :: x.1, x.2)
def last0 : List Lk := List.replicate 62 (0, 0)
/-- Marks that no step exceeds. -/
structure Pot (ss : List (Lk × Int)) (p : Nat → Int) : Prop where
  zero : p 0 = 1
  step : ∀ s ∈ ss, p s.1.1 + s.2 ≤ p s.1.2
structure Iv (ss : List (Lk × Int)) (p : Nat → Int) (rd : List Int) (st : St) (r : Nat → Nat) (k : Nat) : Prop where
  l1 : st.1.length = 62
  l2 : st.2.length = 62
  bd : ∀ v, fa st.1 v = 0 ∨ (1 ≤ fa st.1 v ∧ fa st.1 v ≤ p v)
  z : fa st.1 0 = 1
  ge : ∀ v, fa rd v ≤ fa st.1 v
  r0 : r 0 = 0
  rk : ∀ v, r v ≤ k + 1
  re : ∀ v, fa st.1 v = fa rd v → r v ≤ k
  q : ∀ v, v ≠ 0 → 0 < fa st.1 v → ∃ c, (la st.2 v, c) ∈ ss ∧ (la st.2 v).2 = v ∧ 0 < fa st.1 (la st.2 v).1 ∧ ((fa st.1 (la st.2 v).1 + c = fa st.1 v ∧ r (la st.2 v).1 < r v) ∨ fa st.1 v < fa st.1 (la st.2 v).1 + c)
theorem Iv.next {ss : List (Lk × Int)} {p : Nat → Int} {rd : List Int} {st : St} {r : Nat → Nat} {k : Nat} (h : Iv ss p rd st r k) : Iv ss p st.1 st r (k + 1) :=
  { h with ge := fun v => Int.le_refl _, rk := fun v => by have := h.rk v; omega, re := fun v _ => h.rk v }
theorem Iv.upd {ss : List (Lk × Int)} {p : Nat → Int} (hp : Pot ss p) (hs : ∀ s ∈ ss, s.1.2 < 62) {rd : List Int} {st : St} {r : Nat → Nat} {k : Nat} (h : Iv ss p rd st r k) {s : Lk × Int} (hm : s ∈ ss) :
    ∃ r', Iv ss p rd (upd rd st s) r' k := by
  unfold Ytclcippfodjfeaa.upd
  split
  · rename_i hc
    rw [Bool.and_eq_true, decide_eq_true_iff, decide_eq_true_iff] at hc
    obtain ⟨⟨u, v⟩, c⟩ := s
    dsimp only at hc ⊢
    obtain ⟨hc1, hc2⟩ := hc
    have hv : v < 62 := hs _ hm
    have hst := hp.step _ hm
    dsimp only at hst
    have hur := h.ge u
    have hub := h.bd u
    have hvb := h.bd v
    have hv0 : v ≠ 0 := fun e => by
      subst e
      have := h.z; have := hp.zero
      rcases hub with h1 | h1 <;> omega
    have huv : u ≠ v := fun e => by
      subst e
      omega
    have f1 : ∀ y, fa (st.1.set v (fa rd u + c)) y = if y = v then fa rd u + c else fa st.1 y := fun y => fa_set _ _ _ _ (by rw [h.l1]; exact hv)
    have f2 : ∀ y, la (st.2.set v (u, v)) y = if y = v then (u, v) else la st.2 y := fun y => la_set _ _ _ _ (by rw [h.l2]; exact hv)
    refine ⟨fun y => if y = v then k + 1 else r y, ?_⟩
    refine { l1 := by simp [h.l1], l2 := by simp [h.l2], bd := fun y => ?_, z := ?_, ge := fun y => ?_, r0 := ?_, rk := fun y => ?_, re := fun y hy => ?_, q := fun y hy0 hy => ?_ }
    · dsimp only
      rw [f1]
      by_cases hy : y = v
      · subst hy
        rw [if_pos rfl]
        right
        rcases hub with h1 | h1 <;> rcases hvb with h2 | h2 <;> constructor <;> omega
      · rw [if_neg hy]; exact h.bd y
    · dsimp only
      rw [f1, if_neg (fun e => hv0 e.symm)]; exact h.z
    · dsimp only
      rw [f1]
      by_cases hy : y = v
      · subst hy; rw [if_pos rfl]; have := h.ge y; omega
      · rw [if_neg hy]; exact h.ge y
    · rw [if_neg (fun e => hv0 e.symm)]; exact h.r0
    · split
      · omega
      · exact h.rk y
    · dsimp only at hy ⊢
      rw [f1] at hy
      by_cases hyv : y = v
      · subst hyv; rw [if_pos rfl] at hy; have := h.ge y; omega
      · rw [if_neg hyv] at hy ⊢; exact h.re y hy
    · dsimp only at hy ⊢
      rw [f1] at hy
      rw [f2]
      by_cases hyv : y = v
      · subst hyv
        rw [if_pos rfl] at hy ⊢
        refine ⟨c, hm, rfl, ?_, ?_⟩
        · dsimp only; rw [f1, if_neg huv]; omega
        · dsimp only
          rw [f1, if_neg huv, f1, if_pos rfl, if_neg huv, if_pos rfl]
          by_cases he : fa st.1 u = fa rd u
          · left
            refine ⟨by omega, ?_⟩
            have := h.re u he
            omega
          · right; omega
      · rw [if_neg hyv] at hy ⊢
        obtain ⟨c', g1, g2, g3, g4⟩ := h.q y hy0 hy
        refine ⟨c', g1, g2, ?_, ?_⟩
        · rw [f1]
          split
          · omega
          · exact g3
        · rw [f1, f1 y, if_neg hyv, if_neg hyv]
          by_cases he : (la st.2 y).1 = v
          · rw [if_pos he, if_pos he]
            rw [he] at g4
            right
            rcases g4 with ⟨g4, -⟩ | g4 <;> omega
          · rw [if_neg he, if_neg he]
            exact g4
  · exact ⟨r, h⟩
theorem Iv.fold {ss : List (Lk × Int)} {p : Nat → Int} (hp : Pot ss p) (hs : ∀ s ∈ ss, s.1.2 < 62) {rd : List Int} {k : Nat} : ∀ (l : List (Lk × Int)) {st : St} {r : Nat → Nat}, Iv ss p rd st r k → (∀ s ∈ l, s ∈ ss) →
    ∃ r', Iv ss p rd (l.foldl (Ytclcippfodjfeaa.upd rd) st) r' k
  | [], _, r, h, _ => ⟨r, h⟩
  | s :: l, st, r, h, hl => by
    obtain ⟨r', h'⟩ := h.upd hp hs (hl s (by simp))
    exact Iv.fold hp hs l h' (fun x hx => hl x (List.mem_cons_of_mem _ hx))
theorem upd_ge {rd : List Int} {st : St} {s : Lk × Int} (hl : st.1.length = 62) (v : Nat) : (upd rd st s).1.length = 62 ∧ fa st.1 v ≤ fa (upd rd st s).1 v := by
  unfold upd
  split
  · rename_i hc
    rw [Bool.and_eq_true, decide_eq_true_iff, decide_eq_true_iff] at hc
    refine ⟨by simp [hl], ?_⟩
    dsimp only
    by_cases hs : s.1.2 < 62
    · rw [fa_set _ _ _ _ (by rw [hl]; exact hs)]
      split
      · rename_i e; rw [e]; omega
      · exact Int.le_refl _
    · rw [List.set_eq_of_length_le (by omega)]; exact Int.le_refl _
  · exact ⟨hl, Int.le_refl _⟩
theorem fold_ge {rd : List Int} (v : Nat) : ∀ (l : List (Lk × Int)) {st : St}, st.1.length = 62 → (l.foldl (upd rd) st).1.length = 62 ∧ fa st.1 v ≤ fa (l.foldl (upd rd) st).1 v
  | [], _, h => ⟨h, Int.le_refl _⟩
  | s :: l, st, h => by
    have h1 := upd_ge (rd := rd) (s := s) h v
    have h2 := fold_ge (rd := rd) v l h1.1
    exact ⟨h2.1, Int.le_trans h1.2 h2.2⟩
/-- Behind a round no step exceeds what the marks were. -/
theorem fold_step {rd : List Int} : ∀ (l : List (Lk × Int)) {st : St}, st.1.length = 62 → ∀ s ∈ l, s.1.2 < 62 → 0 < fa rd s.1.1 → fa rd s.1.1 + s.2 ≤ fa (l.foldl (upd rd) st).1 s.1.2
  | [], _, _, s, hs, _, _ => by cases hs
  | x :: l, st, h, s, hs, hv, hu => by
    have h1 := upd_ge (rd := rd) (s := x) h s.1.2
    rcases List.mem_cons.1 hs with rfl | hs
    · have h2 := fold_ge (rd := rd) s.1.2 l h1.1
      refine Int.le_trans ?_ h2.2
      unfold upd
      split
      · dsimp only
        rw [fa_set _ _ _ _ (by rw [h]; exact hv), if_pos rfl]; exact Int.le_refl _
      · rename_i hc
        rw [Bool.and_eq_true, decide_eq_true_iff, decide_eq_true_iff] at hc
        omega
    · exact fold_step l h1.1 s hs hv hu
/-- Marks that stand. -/
structure Done (ss : List (Lk × Int)) (p : Nat → Int) (st : St) : Prop where
  l1 : st.1.length = 62
  l2 : st.2.length = 62
  bd : ∀ v, fa st.1 v = 0 ∨ (1 ≤ fa st.1 v ∧ fa st.1 v ≤ p v)
  z : fa st.1 0 = 1
  fix : ∀ s ∈ ss, 0 < fa st.1 s.1.1 → fa st.1 s.1.1 + s.2 ≤ fa st.1 s.1.2
  tree : ∃ r : Nat → Nat, (∀ v, r v ≤ 2001) ∧ ∀ v, v ≠ 0 → 0 < fa st.1 v → ∃ c, (la st.2 v, c) ∈ ss ∧ (la st.2 v).2 = v ∧ 0 < fa st.1 (la st.2 v).1 ∧ fa st.1 (la st.2 v).1 + c = fa st.1 v ∧ r (la st.2 v).1 < r v
theorem sum_more : ∀ (a b : List Int), a.length = b.length → (∀ v, fa a v ≤ fa b v) → a = b ∨ a.sum + 1 ≤ b.sum
  | [], [], _, _ => .inl rfl
  | [], _ :: _, h, _ => by simp at h
  | _ :: _, [], h, _ => by simp at h
  | x :: a, y :: b, h, hv => by
    have h0 : x ≤ y := hv 0
    rcases sum_more a b (by simpa using h) (fun v => hv (v + 1)) with rfl | h1
    · by_cases e : x = y
      · subst e; exact .inl rfl
      · right; simp only [List.sum_cons]; omega
    · right; simp only [List.sum_cons]; omega
theorem sum_le {B : Int} : ∀ (a : List Int), (∀ v, fa a v ≤ B) → a.sum ≤ B * a.length
  | [], _ => by simp
  | x :: a, h => by
    have h0 : x ≤ B := h 0
    have := sum_le a (fun v => h (v + 1))
    simp only [List.sum_cons, List.length_cons]
    rw [Int.natCast_add, Int.mul_add]
    omega
theorem meas_some {ss : List (Lk × Int)} {p : Nat → Int} (hp : Pot ss p) (hs : ∀ s ∈ ss, s.1.2 < 62) (hB : ∀ v, p v ≤ 31) :
    ∀ (f : Nat) {st : St} {r : Nat → Nat} {k : Nat}, Iv ss p st.1 st r k → 62 * 31 - st.1.sum < f → k + f ≤ 2000 → ∃ st', measF ss f st = some st' ∧ Done ss p st' := by
  intro f
  induction f with
  | zero =>
    intro st r k h hf _
    have := sum_le (B := 31) st.1 (fun v => by rcases h.bd v with h1 | h1 <;> have := hB v <;> omega)
    rw [h.l1] at this
    omega
  | succ f ih =>
    intro st r k h hf hk
    obtain ⟨r', h'⟩ := Iv.fold hp hs ss h (fun _ h => h)
    have hge := fun v => (fold_ge (rd := st.1) v ss h.l1).2
    have hlen := (fold_ge (rd := st.1) 0 ss h.l1).1
    unfold measF
    by_cases he : (roundM ss st).1 = st.1
    · rw [if_pos (by simpa using he)]
      refine ⟨_, rfl, ?_⟩
      have hfix : ∀ s ∈ ss, 0 < fa (roundM ss st).1 s.1.1 → fa (roundM ss st).1 s.1.1 + s.2 ≤ fa (roundM ss st).1 s.1.2 := by
        intro s hm hu
        have := fold_step (rd := st.1) ss h.l1 s hm (hs s hm) (by rw [← he]; exact hu)
        rw [he] at hu ⊢
        have e2 : fa (ss.foldl (upd st.1) st).1 s.1.2 = fa st.1 s.1.2 := congrArg (fun x => fa x s.1.2) he
        omega
      refine { l1 := h'.l1, l2 := h'.l2, bd := h'.bd, z := h'.z, fix := hfix, tree := ⟨r', fun v => by have := h'.rk v; omega, fun v hv0 hv => ?_⟩ }
      obtain ⟨c, g1, g2, g3, g4⟩ := h'.q v hv0 hv
      refine ⟨c, g1, g2, g3, ?_⟩
      rcases g4 with g4 | g4
      · exact g4
      · have := hfix _ g1 g3
        dsimp only at this
        rw [g2] at this
        have g5 : fa (roundM ss st).1 v < fa (roundM ss st).1 (la (roundM ss st).2 v).1 + c := g4
        have g6 : fa (roundM ss st).1 (la (roundM ss st).2 v).1 + c ≤ fa (roundM ss st).1 v := this
        omega
    · rw [if_neg (by simpa using he)]
      refine ih h'.next ?_ (by omega)
      rcases sum_more st.1 (roundM ss st).1 (by rw [h.l1]; exact hlen.symm) hge with e | e
      · exact absurd e.symm he
      · omega
theorem far0_len : far0.length = 62 := by simp [far0]
theorem fa_far0 (v : Nat) : fa far0 v = if v = 0 then 1 else 0 := by
  unfold far0
  rw [fa_set _ _ _ _ (by simp)]
  split
  · rfl
  · unfold fa
    rw [List.getD_eq_getElem?_getD, List.getElem?_replicate]
    split <;> rfl
theorem far0_sum : far0.sum = 1 := by decide +kernel
theorem iv_start {ss : List (Lk × Int)} {p : Nat → Int} (hp : Pot ss p) {last : List Lk} (hl : last.length = 62) : Iv ss p far0 (far0, last) (fun _ => 0) 0 := by
  refine { l1 := far0_len, l2 := hl, bd := fun v => ?_, z := ?_, ge := fun v => Int.le_refl _, r0 := rfl, rk := fun v => by omega, re := fun v _ => Nat.le_refl _, q := fun v hv0 hv => ?_ }
  · dsimp only
    rw [fa_far0]
    split
    · rename_i e; subst e; right; rw [hp.zero]; omega
    · exact .inl rfl
  · dsimp only; rw [fa_far0, if_pos rfl]
  · dsimp only at hv
    rw [fa_far0, if_neg hv0] at hv; omega
theorem steps_lt {row : List Int} (hn : row.length ≤ 30) {F : List Lk} : ∀ s ∈ stepsL row F, s.1.1 < 62 ∧ s.1.2 < 62 := by
  intro s hs
  obtain ⟨l, c, h1, h2⟩ := mem_steps.1 hs
  have h3 : l.1 < 62 ∧ l.2 < 62 := by
    rcases mem_links.1 h1 with ⟨rfl, -⟩ | ⟨i, hi, ⟨rfl, -⟩ | ⟨rfl, -⟩ | ⟨rfl, -⟩ | ⟨j, hj, -, -, rfl, -⟩⟩ <;> simp [bef, aft] <;> omega
  rcases h2 with ⟨-, rfl⟩ | ⟨-, rfl⟩
  · exact ⟨h3.2, h3.1⟩
  · exact h3
theorem meas_ok {row : List Int} (hn : row.length ≤ 30) {F last : List Lk} (hl : last.length = 62) {p : Nat → Int} (hp : Pot (stepsL row F) p) (hB : ∀ v, p v ≤ 31) : ∃ st, meas row F last = some st ∧ Done (stepsL row F) p st :=
  meas_some hp (fun s hs => (steps_lt hn s hs).2) hB 2000 (iv_start hp hl) (by show 62 * 31 - far0.sum < _; rw [far0_sum]; omega) (by omega)
/-- A best way: its links from its end on. -/
inductive Way (st : St) (ss : List (Lk × Int)) (r : Nat → Nat) : Nat → List Lk → Prop
  | nil : Way st ss r 0 []
  | cons {l : Lk} {ps : List Lk} {c : Int} (h0 : l.2 ≠ 0) (h1 : (l, c) ∈ ss) (h2 : fa st.1 l.1 + c = fa st.1 l.2) (h3 : r l.1 < r l.2) (h4 : 0 < fa st.1 l.1) (h : Way st ss r l.1 ps) : Way st ss r l.2 (l :: ps)
theorem path_some {ss : List (Lk × Int)} {p : Nat → Int} {st : St} (h : Done ss p st) : ∃ r : Nat → Nat, ∀ v, 0 < fa st.1 v → ∃ ps, pathF 4000 st.2 v = some ps ∧ Way st ss r v ps := by
  obtain ⟨r, hr, ht⟩ := h.tree
  refine ⟨r, ?_⟩
  have key : ∀ (f v : Nat), r v < f → 0 < fa st.1 v → ∃ ps, pathF f st.2 v = some ps ∧ Way st ss r v ps := by
    intro f
    induction f with
    | zero => intro v hv; omega
    | succ f ih =>
      intro v hv hp
      by_cases h0 : v = 0
      · subst h0; exact ⟨[], rfl, .nil⟩
      · obtain ⟨c, g1, g2, g3, g4, g5⟩ := ht v h0 hp
        obtain ⟨ps, h1, h2⟩ := ih (la st.2 v).1 (by omega) g3
        refine ⟨la st.2 v :: ps, ?_, ?_⟩
        · unfold pathF
          rw [if_neg (by simpa using h0), h1]; rfl
        · have := Way.cons (st := st) (ss := ss) (r := r) (l := la st.2 v) (ps := ps) (c := c) (by rw [g2]; exact h0) g1 (by rw [g2]; exact g4) (by rw [g2]; exact g5) g3 h2
          rwa [g2] at this
  exact fun v hp => key 4000 v (by have := hr v; omega) hp
end Go.Proofs.Ytclcippfodjfeaa
namespace Go.Proofs.Ytclcippfodjfeaa
set_option linter.unusedVariables false
set_option linter.unusedSimpArgs false
theorem nodup_len {α : Type} [DecidableEq α] : ∀ (a b : List α), a.Nodup → (∀ x ∈ a, x ∈ b) → a.length ≤ b.length
  | [], b, _, _ => Nat.zero_le _
  | x :: a, b, hn, hs => by
    have hx : x ∈ b := hs x (by simp)
    have hn2 := List.nodup_cons.1 hn
    have h := nodup_len a (b.erase x) hn2.2 (fun y hy => (List.mem_erase_of_ne (fun e => by subst e; exact hn2.1 hy)).2 (hs y (List.mem_cons_of_mem _ hy)))
    rw [List.length_erase_of_mem hx] at h
    have : 0 < b.length := List.length_pos_of_mem hx
    simp only [List.length_cons]
    omega
theorem filter_le_one {α : Type} [DecidableEq α] {F : List α} (hF : F.Nodup) (p : α → Bool) (x : α) (h : ∀ y ∈ F, p y = true → y = x) : F.countP p ≤ 1 := by
  rw [List.countP_eq_length_filter]
  exact nodup_len (F.filter p) [x] (hF.filter _) (fun y hy => by
    rw [List.mem_filter] at hy
    simp [h y hy.1 hy.2])
theorem two_le_count {α : Type} [DecidableEq α] {F : List α} (p : α → Bool) {a b : α} (ha : a ∈ F) (hb : b ∈ F) (hne : a ≠ b) (pa : p a = true) (pb : p b = true) : 2 ≤ F.countP p := by
  rw [List.countP_eq_length_filter]
  exact nodup_len [a, b] (F.filter p) (by simp [hne]) (fun y hy => by
    simp at hy
    rcases hy with rfl | rfl
    · exact List.mem_filter.2 ⟨ha, pa⟩
    · exact List.mem_filter.2 ⟨hb, pb⟩)
/-- Links that pockets go by, so many. -/
structure Flow (row : List Int) (F : List Lk) (m : Nat) : Prop where
  nd : F.Nodup
  lk : ∀ l ∈ F, l ≠ (0, 1) ∧ ∃ c, (l, c) ∈ linksL row
  net : ∀ f : Nat → Int, (F.map fun l => f l.2 - f l.1).sum = m * (f 1 - f 0)
def isLog (l : Lk) : Bool := l.1 % 2 == 0 && l.1 != 0
def tk (F : List Lk) : Nat := F.countP isLog
theorem link_cost {row : List Int} {l : Lk} {c : Nat} (h : (l, c) ∈ linksL row) : c = if isLog l then 1 else 0 := by
  rcases mem_links.1 h with ⟨rfl, rfl⟩ | ⟨i, hi, ⟨rfl, rfl⟩ | ⟨rfl, rfl⟩ | ⟨rfl, rfl⟩ | ⟨j, hj, -, -, rfl, rfl⟩⟩ <;> simp [isLog, bef, aft] <;> omega
theorem link_dir {row : List Int} {l : Lk} {c : Nat} (h : (l, c) ∈ linksL row) : l.1 ≠ 1 ∧ l.2 ≠ 0 ∧ (l.1 = 0 ∨ l.2 = 1 ∨ l.1 < l.2) := by
  rcases mem_links.1 h with ⟨rfl, rfl⟩ | ⟨i, hi, ⟨rfl, rfl⟩ | ⟨rfl, rfl⟩ | ⟨rfl, rfl⟩ | ⟨j, hj, hij, -, rfl, rfl⟩⟩ <;> simp [bef, aft] <;> omega
theorem link_turn {row : List Int} {l : Lk} {c c' : Nat} (h : (l, c) ∈ linksL row) (h' : (turn l, c') ∈ linksL row) : False := by
  have h1 := link_dir h
  have h2 := link_dir h'
  unfold turn at h2
  dsimp only at h2
  omega
theorem link_bef {row : List Int} {l : Lk} {c i : Nat} (h : (l, c) ∈ linksL row) (e : l.1 = bef i) : l = (bef i, aft i) ∧ i < row.length := by
  rcases mem_links.1 h with ⟨rfl, -⟩ | ⟨k, hk, ⟨rfl, -⟩ | ⟨rfl, -⟩ | ⟨rfl, -⟩ | ⟨j, hj, -, -, rfl, -⟩⟩ <;> unfold bef aft at * <;> simp at e ⊢ <;> omega
theorem link_aft {row : List Int} {l : Lk} {c i : Nat} (h : (l, c) ∈ linksL row) (e : l.2 = aft i) : l = (bef i, aft i) ∧ i < row.length := by
  rcases mem_links.1 h with ⟨rfl, -⟩ | ⟨k, hk, ⟨rfl, -⟩ | ⟨rfl, -⟩ | ⟨rfl, -⟩ | ⟨j, hj, -, -, rfl, -⟩⟩ <;> unfold bef aft at * <;> simp at e ⊢ <;> omega
theorem turn_turn (l : Lk) : turn (turn l) = l := rfl
section
variable {row : List Int} {F : List Lk} {m : Nat}
theorem sum_ind (F : List Lk) (v : Nat) : (F.map fun l => (if l.2 = v then (1 : Int) else 0) - (if l.1 = v then 1 else 0)).sum = (F.countP (fun l => l.2 == v) : Int) - F.countP (fun l => l.1 == v) := by
  induction F with
  | nil => rfl
  | cons x F ih =>
    simp only [List.map_cons, List.sum_cons, List.countP_cons, ih, beq_iff_eq]
    split <;> split <;> omega
theorem Flow.deg (h : Flow row F m) {v : Nat} (hv : 2 ≤ v) : F.countP (fun l => l.2 == v) = F.countP (fun l => l.1 == v) := by
  have h1 := h.net (fun u => if u = v then 1 else 0)
  have h2 := sum_ind F v
  rw [if_neg (by omega), if_neg (by omega)] at h1
  simp only [Int.sub_self, Int.mul_zero] at h1
  rw [h1] at h2
  omega
theorem Flow.out_of_in (h : Flow row F m) {l : Lk} (hl : l ∈ F) (hv : 2 ≤ l.2) : ∃ l' ∈ F, l'.1 = l.2 := by
  have h1 := h.deg hv
  have h2 : 0 < F.countP (fun x => x.2 == l.2) := List.countP_pos_iff.2 ⟨l, hl, by simp⟩
  obtain ⟨l', h3, h4⟩ := List.countP_pos_iff.1 (show 0 < F.countP (fun x => x.1 == l.2) by omega)
  exact ⟨l', h3, by simpa using h4⟩
theorem Flow.in_of_out (h : Flow row F m) {l : Lk} (hl : l ∈ F) (hv : 2 ≤ l.1) : ∃ l' ∈ F, l'.2 = l.1 := by
  have h1 := h.deg hv
  have h2 : 0 < F.countP (fun x => x.1 == l.1) := List.countP_pos_iff.2 ⟨l, hl, by simp⟩
  obtain ⟨l', h3, h4⟩ := List.countP_pos_iff.1 (show 0 < F.countP (fun x => x.2 == l.1) by omega)
  exact ⟨l', h3, by simpa using h4⟩
theorem Flow.thr_of_in (h : Flow row F m) {l : Lk} {i : Nat} (hl : l ∈ F) (e : l.2 = bef i) : (bef i, aft i) ∈ F := by
  obtain ⟨l', h1, h2⟩ := h.out_of_in hl (by rw [e]; unfold bef; omega)
  obtain ⟨-, c, hc⟩ := h.lk l' h1
  have := (link_bef hc (h2.trans e)).1
  rw [← this]; exact h1
theorem Flow.thr_of_out (h : Flow row F m) {l : Lk} {i : Nat} (hl : l ∈ F) (e : l.1 = aft i) : (bef i, aft i) ∈ F := by
  obtain ⟨l', h1, h2⟩ := h.in_of_out hl (by rw [e]; unfold aft; omega)
  obtain ⟨-, c, hc⟩ := h.lk l' h1
  have := (link_aft hc (h2.trans e)).1
  rw [← this]; exact h1
theorem Flow.in_one (h : Flow row F m) {l l' : Lk} {i : Nat} (hl : l ∈ F) (hl' : l' ∈ F) (e : l.2 = bef i) (e' : l'.2 = bef i) : l = l' := by
  apply Classical.byContradiction
  intro hne
  have h1 := two_le_count (fun x : Lk => x.2 == bef i) hl hl' hne (by simpa using e) (by simpa using e')
  rw [h.deg (by unfold bef; omega)] at h1
  have h2 := filter_le_one h.nd (fun x : Lk => x.1 == bef i) (bef i, aft i) (fun y hy he => by
    obtain ⟨-, c, hc⟩ := h.lk y hy
    exact (link_bef hc (by simpa using he)).1)
  omega
theorem Flow.out_one (h : Flow row F m) {l l' : Lk} {i : Nat} (hl : l ∈ F) (hl' : l' ∈ F) (e : l.1 = aft i) (e' : l'.1 = aft i) : l = l' := by
  apply Classical.byContradiction
  intro hne
  have h1 := two_le_count (fun x : Lk => x.1 == aft i) hl hl' hne (by simpa using e) (by simpa using e')
  rw [← h.deg (by unfold aft; omega)] at h1
  have h2 := filter_le_one h.nd (fun x : Lk => x.2 == aft i) (bef i, aft i) (fun y hy he => by
    obtain ⟨-, c, hc⟩ := h.lk y hy
    exact (link_aft hc (by simpa using he)).1)
  omega
theorem Flow.out_of_thr (h : Flow row F m) {i : Nat} (ht : (bef i, aft i) ∈ F) : ∃ l ∈ F, l.1 = aft i := h.out_of_in ht (by unfold aft; dsimp only; omega)
theorem Flow.in_of_thr (h : Flow row F m) {i : Nat} (ht : (bef i, aft i) ∈ F) : ∃ l ∈ F, l.2 = bef i := h.in_of_out ht (by unfold bef; simp)
end
/-- All spots of logs are reached. -/
theorem reached {row : List Int} {F : List Lk} {m : Nat} {p : Nat → Int} {st : St} (h : Flow row F m) (hd : Done (stepsL row F) p st) {l : Lk} {c : Nat} (hl : (l, c) ∈ linksL row) : 0 < fa st.1 l.1 ∧ 0 < fa st.1 l.2 := by
  have fwd : ∀ l, (l, 0) ∈ linksL row → (l, (0 : Int)) ∈ stepsL row F := fun l hl => mem_steps.2 ⟨l, 0, hl, .inr ⟨by omega, rfl⟩⟩
  have h0 := hd.z
  have hb : ∀ i, i < row.length → 0 < fa st.1 (bef i) := fun i hi => by
    have := hd.fix _ (fwd (0, bef i) (mem_links.2 (.inr ⟨i, hi, .inl ⟨rfl, rfl⟩⟩))) (by dsimp only; omega)
    dsimp only at this; omega
  have h1 : 0 < fa st.1 1 := by
    have := hd.fix _ (fwd (0, 1) (mem_links.2 (.inl ⟨rfl, rfl⟩))) (by dsimp only; omega)
    dsimp only at this; omega
  have ha : ∀ i, i < row.length → 0 < fa st.1 (aft i) := fun i hi => by
    have hl : ((bef i, aft i), 1) ∈ linksL row := mem_links.2 (.inr ⟨i, hi, .inr (.inl ⟨rfl, rfl⟩)⟩)
    by_cases ht : (bef i, aft i) ∈ F
    · obtain ⟨l', h2, h3⟩ := h.out_of_thr ht
      obtain ⟨-, c', h4⟩ := h.lk l' h2
      have hs := hd.fix _ (mem_steps.2 ⟨l', c', h4, .inl ⟨h2, rfl⟩⟩)
      unfold turn at hs
      dsimp only at hs
      rw [h3] at hs
      have hc := link_cost h4
      rw [show isLog l' = false by simp [isLog, h3, aft]] at hc
      simp at hc
      subst hc
      have h5 : 0 < fa st.1 l'.2 := by
        rcases mem_links.1 h4 with ⟨rfl, -⟩ | ⟨k, hk, ⟨rfl, -⟩ | ⟨rfl, -⟩ | ⟨rfl, -⟩ | ⟨j, hj, -, -, rfl, -⟩⟩
        · exact h1
        · exact hb k hk
        · exfalso; unfold bef aft at h3; dsimp only at h3; omega
        · exact h1
        · exact hb j hj
      have := hs h5
      omega
    · have := hd.fix _ (mem_steps.2 ⟨_, 1, hl, .inr ⟨fun hh => ht hh.1, rfl⟩⟩) (hb i hi)
      dsimp only at this
      have := hb i hi
      omega
  rcases mem_links.1 hl with ⟨rfl, -⟩ | ⟨k, hk, ⟨rfl, -⟩ | ⟨rfl, -⟩ | ⟨rfl, -⟩ | ⟨j, hj, -, -, rfl, -⟩⟩
  · exact ⟨by show 0 < fa st.1 0; omega, h1⟩
  · exact ⟨by show 0 < fa st.1 0; omega, hb k hk⟩
  · exact ⟨hb k hk, ha k hk⟩
  · exact ⟨ha k hk, h1⟩
  · exact ⟨ha k hk, hb j hj⟩
theorem way_mem {st : St} {ss : List (Lk × Int)} {r : Nat → Nat} {v : Nat} {ps : List Lk} (h : Way st ss r v ps) : ∀ l ∈ ps, (∃ c, (l, c) ∈ ss ∧ fa st.1 l.1 + c = fa st.1 l.2) ∧ r l.2 ≤ r v ∧ r l.1 < r l.2 := by
  induction h with
  | nil => intro l hl; cases hl
  | cons h0 h1 h2 h3 h4 h ih =>
    intro x hx
    rcases List.mem_cons.1 hx with rfl | hx
    · exact ⟨⟨_, h1, h2⟩, Nat.le_refl _, h3⟩
    · obtain ⟨g1, g2, g3⟩ := ih x hx
      exact ⟨g1, by omega, g3⟩
theorem step_cases {row : List Int} {F : List Lk} {s : Lk} {c : Int} (h : (s, c) ∈ stepsL row F) : (∃ l c0, (l, c0) ∈ linksL row ∧ l ∈ F ∧ s = turn l ∧ c = -(c0 : Int)) ∨ (∃ c0 : Nat, (s, c0) ∈ linksL row ∧ ¬ (s ∈ F ∧ 0 < c0) ∧ c = c0) := by
  obtain ⟨l, c0, h1, h2⟩ := mem_steps.1 h
  rcases h2 with ⟨h2, h3⟩ | ⟨h2, h3⟩
  · cases h3; exact .inl ⟨l, c0, h1, h2, rfl, rfl⟩
  · cases h3; exact .inr ⟨c0, h1, h2, rfl⟩
theorem way_cons {st : St} {ss : List (Lk × Int)} {r : Nat → Nat} {v : Nat} {ps : List Lk} (h : Way st ss r v ps) (hv : v ≠ 0) : ∃ l c, l.2 = v ∧ (l, c) ∈ ss ∧ r l.1 < r l.2 := by
  cases h with
  | nil => exact absurd rfl hv
  | cons h0 h1 h2 h3 h4 h => exact ⟨_, _, rfl, h1, h3⟩
/-- A best way goes by no link that a pocket already goes by. -/
theorem way_good {row : List Int} {F : List Lk} {m : Nat} (hF : Flow row F m) {st : St} {r : Nat → Nat} {v : Nat} {ps : List Lk} (h : Way st (stepsL row F) r v ps)
    (hn : v = 1 ∨ ∃ x c, ((v, x), c) ∈ stepsL row F ∧ x ≠ 0) : ∀ l ∈ ps, turn l ∈ F ∨ (l ∉ F ∧ turn l ∉ F ∧ ∃ c : Nat, (l, c) ∈ linksL row) := by
  induction h with
  | nil => intro l hl; cases hl
  | @cons l ps c h0 h1 h2 h3 h4 h ih =>
    have ih := ih (.inr ⟨l.2, c, h1, h0⟩)
    intro x hx
    rcases List.mem_cons.1 hx with rfl | hx
    · rcases step_cases h1 with ⟨l0, c0, g1, g2, g3, -⟩ | ⟨c0, g1, g2, -⟩
      · left; rw [g3]; exact g2
      · right
        have ht : turn x ∉ F := fun hh => by
          obtain ⟨-, c', hc'⟩ := hF.lk _ hh
          exact link_turn g1 hc'
        refine ⟨fun hxF => ?_, ht, c0, g1⟩
        have hc0 : c0 = 0 := by
          apply Classical.byContradiction
          intro hh
          exact g2 ⟨hxF, by omega⟩
        subst hc0
        -- the step before, where the link leads from behind a log
        have back : ∀ i, x.1 = aft i → False := by
          intro i hi
          obtain ⟨l', c', e, k1, k3⟩ := way_cons h (by rw [hi]; unfold aft; omega)
          rw [hi] at e
          rcases step_cases k1 with ⟨l0, c1, q1, q2, q3, -⟩ | ⟨c1, q1, q2, -⟩
          · have e2 : l0.1 = aft i := by rw [q3] at e; exact e
            have e3 := hF.out_one q2 hxF e2 hi
            rw [e3] at q3
            rw [q3] at k3
            unfold turn at k3
            dsimp only at k3
            omega
          · obtain ⟨e2, -⟩ := link_aft q1 e
            have := hF.thr_of_out hxF hi
            rw [e2] at q2 q1
            have hc1 := link_cost q1
            refine q2 ⟨this, ?_⟩
            rw [hc1, show isLog (bef i, aft i) = true by simp [isLog, bef]]
            simp
        obtain ⟨hne, -⟩ := hF.lk x hxF
        rcases mem_links.1 g1 with ⟨e, -⟩ | ⟨i, hi, ⟨e, -⟩ | ⟨-, e⟩ | ⟨e, -⟩ | ⟨j, hj, -, -, e, -⟩⟩
        · exact hne e
        · -- from the begin into a log
          have e2 : x.2 = bef i := by rw [e]
          rcases hn with hn | ⟨y, cy, hy, hy0⟩
          · rw [hn] at e2; unfold bef at e2; omega
          · rw [e2] at hy
            rcases step_cases hy with ⟨l0, c1, q1, q2, q3, -⟩ | ⟨c1, q1, q2, -⟩
            · have e3 : l0 = (y, bef i) := by rw [← turn_turn l0, ← q3]; rfl
              have := hF.in_one q2 hxF (by rw [e3]) e2
              rw [e3, e] at this
              exact hy0 (congrArg Prod.fst this)
            · obtain ⟨e3, -⟩ := link_bef q1 rfl
              have := hF.thr_of_in hxF e2
              rw [e3] at q1 q2
              have hc1 := link_cost q1
              refine q2 ⟨this, ?_⟩
              rw [hc1, show isLog (bef i, aft i) = true by simp [isLog, bef]]
              simp
        · cases e
        · exact back i (by rw [e])
        · exact back i (by rw [e])
    · exact ih x hx
theorem tog_mem {F : List Lk} {l x : Lk} : x ∈ tog F l ↔ (turn l ∈ F ∧ x ∈ F ∧ x ≠ turn l) ∨ (turn l ∉ F ∧ (x = l ∨ x ∈ F)) := by
  unfold tog
  by_cases h : turn l ∈ F
  · rw [if_pos ((inF_iff _ _).2 h), List.mem_filter]
    have e : (!(x.1 == l.2 && x.2 == l.1)) = true ↔ x ≠ turn l := by
      rw [Bool.not_eq_true', Bool.eq_false_iff, ne_eq, ne_eq]
      refine not_congr ?_
      rw [Bool.and_eq_true, beq_iff_eq, beq_iff_eq]
      constructor
      · rintro ⟨h1, h2⟩; exact Prod.ext h1 h2
      · rintro rfl; exact ⟨rfl, rfl⟩
    rw [e]
    constructor
    · rintro ⟨h1, h2⟩; exact .inl ⟨h, h1, h2⟩
    · rintro (⟨-, h1, h2⟩ | ⟨h1, -⟩)
      · exact ⟨h1, h2⟩
      · exact absurd h h1
  · rw [if_neg (fun hh => h ((inF_iff _ _).1 hh)), List.mem_cons]
    constructor
    · intro h1; exact .inr ⟨h, h1⟩
    · rintro (⟨h1, -⟩ | ⟨-, h1⟩)
      · exact absurd h1 h
      · exact h1
theorem tog_nodup {F : List Lk} (hF : F.Nodup) {l : Lk} (h : turn l ∈ F ∨ l ∉ F) : (tog F l).Nodup := by
  unfold tog
  split
  · exact hF.filter _
  · rename_i h1
    rcases h with h | h
    · exact absurd ((inF_iff _ _).2 h) h1
    · exact List.nodup_cons.2 ⟨h, hF⟩
theorem sum_without {g : Lk → Int} {x : Lk} : ∀ {F : List Lk}, F.Nodup → x ∈ F → (F.map g).sum = ((F.filter fun y => !(y.1 == x.1 && y.2 == x.2)).map g).sum + g x
  | [], _, h => by cases h
  | y :: F, hn, h => by
    have hn2 := List.nodup_cons.1 hn
    have e : ∀ y : Lk, (!(y.1 == x.1 && y.2 == x.2)) = decide (y ≠ x) := by
      intro y
      rw [Bool.eq_iff_iff, Bool.not_eq_true', Bool.eq_false_iff, decide_eq_true_iff, ne_eq, ne_eq]
      refine not_congr ?_
      rw [Bool.and_eq_true, beq_iff_eq, beq_iff_eq]
      constructor
      · rintro ⟨h1, h2⟩; exact Prod.ext h1 h2
      · rintro rfl; exact ⟨rfl, rfl⟩
    by_cases hy : y = x
    · subst hy
      rw [List.filter_cons, e y, if_neg (by simp)]
      have : F.filter (fun z => !(z.1 == y.1 && z.2 == y.2)) = F := by
        apply List.filter_eq_self.2
        intro z hz
        rw [e z, decide_eq_true_iff]
        intro hzy; rw [hzy] at hz; exact hn2.1 hz
      rw [this, List.map_cons, List.sum_cons]
      omega
    · have hx : x ∈ F := by
        rcases List.mem_cons.1 h with h | h
        · exact absurd h.symm hy
        · exact h
      have ih := sum_without (g := g) hn2.2 hx
      rw [List.filter_cons, e y, if_pos (by simpa using hy), List.map_cons, List.map_cons, List.sum_cons, List.sum_cons, ih]
      omega
theorem count_sum (p : Lk → Bool) : ∀ F : List Lk, ((F.countP p : Nat) : Int) = (F.map fun l => if p l then (1 : Int) else 0).sum
  | [] => rfl
  | x :: F => by
    rw [List.countP_cons, List.map_cons, List.sum_cons, ← count_sum p F]
    split <;> omega
theorem tog_sum {F : List Lk} (hF : F.Nodup) {l : Lk} (g : Lk → Int) (h : turn l ∈ F ∨ (l ∉ F ∧ turn l ∉ F)) : ((tog F l).map g).sum = (F.map g).sum + if turn l ∈ F then - g (turn l) else g l := by
  unfold tog
  by_cases ht : turn l ∈ F
  · rw [if_pos ((inF_iff _ _).2 ht), if_pos ht]
    have := sum_without (g := g) hF ht
    unfold turn at this ⊢
    dsimp only at this
    omega
  · rw [if_neg (fun hh => ht ((inF_iff _ _).1 hh)), if_neg ht, List.map_cons, List.sum_cons]
    omega
/-- What a way changes. -/
structure Turned (row : List Int) (F G H : List Lk) (st : St) (v : Nat) (ps : List Lk) : Prop where
  nd : H.Nodup
  net : ∀ f : Nat → Int, (H.map fun l => f l.2 - f l.1).sum = (G.map fun l => f l.2 - f l.1).sum + (f v - f 0)
  tk : (tk H : Int) = tk G + (fa st.1 v - fa st.1 0)
  mem : ∀ x ∈ H, x ∈ G ∨ (x ∈ ps ∧ turn x ∉ F)
  gone : ∀ x ∈ G, x ∈ H ∨ (turn x ∈ ps ∧ x ∈ F)
theorem way_turned {row : List Int} {F : List Lk} {m : Nat} (hF : Flow row F m) {st : St} {r : Nat → Nat} {v : Nat} {ps : List Lk} (h : Way st (stepsL row F) r v ps) :
    ∀ (G : List Lk), G.Nodup → (∀ x : Lk, r x.1 ≤ r v → r x.2 ≤ r v → (x ∈ G ↔ x ∈ F)) → (∀ l ∈ ps, turn l ∈ F ∨ (l ∉ F ∧ turn l ∉ F ∧ ∃ c : Nat, (l, c) ∈ linksL row)) →
    Turned row F G (ps.foldl tog G) st v ps := by
  induction h with
  | nil => intro G hG _ _; exact ⟨hG, fun f => by simp, by simp, fun x hx => .inl hx, fun x hx => .inl hx⟩
  | @cons l ps c h0 h1 h2 h3 h4 h ih =>
    intro G hG hA hgood
    have hl := hgood l (by simp)
    have a1 : l ∈ G ↔ l ∈ F := hA l (by omega) (by omega)
    have a2 : turn l ∈ G ↔ turn l ∈ F := hA (turn l) (by unfold turn; dsimp only; omega) (by unfold turn; dsimp only; omega)
    have hl2 : turn l ∈ G ∨ (l ∉ G ∧ turn l ∉ G) := by
      rw [a1, a2]
      rcases hl with hl | ⟨hl, hl', -⟩
      · exact .inl hl
      · exact .inr ⟨hl, hl'⟩
    have hG' : (tog G l).Nodup := tog_nodup hG (hl2.imp id (fun h => h.1))
    have ih := ih (tog G l) hG' (fun x hx1 hx2 => by
      rw [← hA x (by omega) (by omega), tog_mem]
      have n1 : x ≠ l := fun e => by subst e; omega
      have n2 : x ≠ turn l := fun e => by subst e; unfold turn at hx1; dsimp only at hx1; omega
      constructor
      · rintro (⟨-, h, -⟩ | ⟨-, h | h⟩)
        · exact h
        · exact absurd h n1
        · exact h
      · intro hx
        by_cases ht : turn l ∈ G
        · exact .inl ⟨ht, hx, n2⟩
        · exact .inr ⟨ht, .inr hx⟩) (fun x hx => hgood x (List.mem_cons_of_mem _ hx))
    have hcost : (if turn l ∈ G then - (if isLog (turn l) then (1 : Int) else 0) else (if isLog l then 1 else 0)) = c := by
      rcases step_cases h1 with ⟨l0, c0, g1, g2, g3, g4⟩ | ⟨c0, g1, g2, g4⟩
      · have e : turn l = l0 := by rw [g3]; rfl
        rw [if_pos (a2.2 (by rw [e]; exact g2)), e, g4, link_cost g1]
        split <;> rfl
      · have : turn l ∉ G := fun hh => by
          obtain ⟨-, c', hc'⟩ := hF.lk _ (a2.1 hh)
          exact link_turn g1 hc'
        rw [if_neg this, g4, link_cost g1]
        split <;> rfl
    refine ⟨ih.nd, fun f => ?_, ?_, fun x hx => ?_, fun x hx => ?_⟩
    · rw [List.foldl_cons, ih.net f, tog_sum hG _ hl2]
      have e : (if turn l ∈ G then -(f (turn l).2 - f (turn l).1) else f l.2 - f l.1) = f l.2 - f l.1 := by
        unfold turn
        dsimp only
        split <;> omega
      rw [e]
      omega
    · rw [List.foldl_cons, ih.tk]
      have e := tog_sum hG (fun l => if isLog l then (1 : Int) else 0) hl2
      rw [← count_sum, ← count_sum] at e
      unfold Ytclcippfodjfeaa.tk
      rw [e, hcost]
      omega
    · rcases ih.mem x hx with hx | ⟨hx, hx2⟩
      · rcases tog_mem.1 hx with ⟨-, hx, -⟩ | ⟨ht, hx | hx⟩
        · exact .inl hx
        · subst hx; exact .inr ⟨by simp, fun hh => ht (a2.2 hh)⟩
        · exact .inl hx
      · exact .inr ⟨List.mem_cons_of_mem _ hx, hx2⟩
    · by_cases hxt : turn l ∈ G ∧ x = turn l
      · right
        obtain ⟨ht, rfl⟩ := hxt
        exact ⟨by rw [turn_turn]; simp, a2.1 ht⟩
      · have hx' : x ∈ tog G l := by
          rw [tog_mem]
          by_cases ht : turn l ∈ G
          · exact .inl ⟨ht, hx, fun e => hxt ⟨ht, e⟩⟩
          · exact .inr ⟨ht, .inr hx⟩
        rcases ih.gone x hx' with h | ⟨h, h'⟩
        · exact .inl h
        · exact .inr ⟨List.mem_cons_of_mem _ h, h'⟩
/-- One pocket more. -/
theorem flow_next {row : List Int} {F : List Lk} {m : Nat} (hF : Flow row F m) {p : Nat → Int} {st : St} (hd : Done (stepsL row F) p st) (hne : fa st.1 1 ≠ fa st.1 0) :
    ∃ ps, pathF 4000 st.2 1 = some ps ∧ Flow row (ps.foldl tog F) (m + 1) ∧ Pot (stepsL row (ps.foldl tog F)) (fa st.1) ∧ (tk (ps.foldl tog F) : Int) = tk F + (fa st.1 1 - fa st.1 0) := by
  obtain ⟨r, hr⟩ := path_some hd
  have h01 : ((0, 1), 0) ∈ linksL row := mem_links.2 (.inl ⟨rfl, rfl⟩)
  obtain ⟨ps, h1, h2⟩ := hr 1 (reached hF hd h01).2
  have hg := way_good hF h2 (.inl rfl)
  have hT := way_turned hF h2 F hF.nd (fun x _ _ => Iff.rfl) hg
  refine ⟨ps, h1, ⟨hT.nd, fun l hl => ?_, fun f => ?_⟩, ⟨hd.z, fun s hs => ?_⟩, hT.tk⟩
  · rcases hT.mem l hl with h | ⟨h, ht⟩
    · exact hF.lk l h
    · rcases hg l h with h3 | ⟨-, -, c, h3⟩
      · exact absurd h3 ht
      · refine ⟨fun e => ?_, c, h3⟩
        obtain ⟨⟨c', h4, h5⟩, -⟩ := way_mem h2 l h
        rw [e] at h4 h5
        rcases step_cases h4 with ⟨l0, c0, g1, g2, g3, -⟩ | ⟨c0, g1, g2, g4⟩
        · have e3 : l0 = (1, 0) := by rw [← turn_turn l0, ← g3]; rfl
          have := link_dir g1
          rw [e3] at this
          exact this.1 rfl
        · have := link_cost g1
          simp [isLog] at this
          subst this
          dsimp only at h5
          omega
  · rw [hT.net f, hF.net f, Int.natCast_add, Int.add_mul]
    omega
  · obtain ⟨l, c, g1, g2⟩ := mem_steps.1 hs
    obtain ⟨q1, q2⟩ := reached hF hd g1
    rcases g2 with ⟨g2, rfl⟩ | ⟨g2, rfl⟩
    · -- back over a link that a pocket goes by
      rcases hT.mem l g2 with h | ⟨h, ht⟩
      · exact hd.fix _ (mem_steps.2 ⟨l, c, g1, .inl ⟨h, rfl⟩⟩) q2
      · obtain ⟨⟨c', h4, h5⟩, -⟩ := way_mem h2 l h
        rcases step_cases h4 with ⟨l0, c0, k1, k2, k3, -⟩ | ⟨c0, k1, k2, k4⟩
        · exact absurd (by rw [k3]; exact k2) ht
        · have e1 := link_cost g1
          have e2 := link_cost k1
          rw [← e1] at e2
          unfold turn
          dsimp only
          omega
    · dsimp only
      by_cases hl : l ∈ F ∧ 0 < c
      · rcases hT.gone l hl.1 with h | ⟨h, -⟩
        · exact absurd ⟨h, hl.2⟩ g2
        · obtain ⟨⟨c', h4, h5⟩, -⟩ := way_mem h2 _ h
          rcases step_cases h4 with ⟨l0, c0, k1, k2, k3, k4⟩ | ⟨c0, k1, k2, k4⟩
          · have e : l0 = l := by rw [← turn_turn l0, ← k3]; rfl
            rw [e] at k1
            have e1 := link_cost g1
            have e2 := link_cost k1
            rw [← e1] at e2
            unfold turn at h5
            dsimp only at h5
            omega
          · exact (link_turn g1 k1).elim
      · exact hd.fix _ (mem_steps.2 ⟨l, c, g1, .inr ⟨hl, rfl⟩⟩) q1
/-- Without pockets. -/
def p0 (n v : Nat) : Int := if 62 ≤ v then 0 else if v = 0 then 1 else if v = 1 then (n : Int) + 1 else (((v - 2) / 2 + 1 + v % 2 : Nat) : Int)
theorem p0_le {n : Nat} (hn : n ≤ 30) (v : Nat) : p0 n v ≤ 31 := by
  unfold p0
  split
  · omega
  · split
    · omega
    · split
      · omega
      · omega
theorem flow_nil (row : List Int) : Flow row [] 0 := ⟨List.nodup_nil, fun l h => (by cases h), fun f => by simp⟩
theorem pot_nil {row : List Int} (hn : row.length ≤ 30) : Pot (stepsL row []) (p0 row.length) := by
  refine ⟨by simp [p0], fun s hs => ?_⟩
  obtain ⟨l, c, h1, h2⟩ := mem_steps.1 hs
  rcases h2 with ⟨h2, -⟩ | ⟨-, rfl⟩
  · cases h2
  · have pb : ∀ i, i < row.length → p0 row.length (bef i) = (i : Int) + 1 := fun i hi => by
      unfold p0 bef
      rw [if_neg (by omega), if_neg (by omega), if_neg (by omega)]
      omega
    have pa : ∀ i, i < row.length → p0 row.length (aft i) = (i : Int) + 2 := fun i hi => by
      unfold p0 aft
      rw [if_neg (by omega), if_neg (by omega), if_neg (by omega)]
      omega
    have pz : p0 row.length 0 = 1 := by simp [p0]
    have po : p0 row.length 1 = (row.length : Int) + 1 := by simp [p0]
    dsimp only
    rcases mem_links.1 h1 with ⟨rfl, rfl⟩ | ⟨i, hi, ⟨rfl, rfl⟩ | ⟨rfl, rfl⟩ | ⟨rfl, rfl⟩ | ⟨j, hj, hij, -, rfl, rfl⟩⟩
    · dsimp only; rw [pz, po]; omega
    · dsimp only; rw [pz, pb i hi]; omega
    · dsimp only; rw [pb i hi, pa i hi]; omega
    · dsimp only; rw [pa i hi, po]; omega
    · dsimp only; rw [pa i hi, pb j hj]; omega
/-- What sending gives. -/
structure Sent (row : List Int) (m : Nat) (F : List Lk) (more : List Int) (F' la' : List Lk) (k : Nat) (p0 : Nat → Int) : Prop where
  flow : Flow row F' (k + more.length)
  len : la'.length = 62
  pot : ∃ p, Pot (stepsL row F') p ∧ (∀ v, p v ≤ 31) ∧ (more = [] → p = p0) ∧ ∀ x, more.getLast? = some x → p 1 = p 0 + x
  le : more.length ≤ m
  pos : ∀ x ∈ more, 1 ≤ x
  tk : (tk F' : Int) = tk F + more.sum
  stop : more.length < m → ∃ st p, Done (stepsL row F') p st ∧ fa st.1 1 = fa st.1 0
theorem send_ok {row : List Int} (hn : row.length ≤ 30) : ∀ (m : Nat) (F last : List Lk) (k : Nat) (p : Nat → Int), Flow row F k → Pot (stepsL row F) p → (∀ v, p v ≤ 31) → last.length = 62 →
    ∃ more F' la', sendF row m F last = some (more, F', la') ∧ Sent row m F more F' la' k p := by
  intro m
  induction m with
  | zero =>
    intro F last k p hF hp hB hl
    exact ⟨[], F, last, rfl, ⟨hF, hl, ⟨p, hp, hB, fun _ => rfl, fun x h => (by cases h)⟩, Nat.le_refl _, fun x h => (by cases h), by simp, fun h => (by simp at h)⟩⟩
  | succ m ih =>
    intro F last k p hF hp hB hl
    obtain ⟨st, h1, hd⟩ := meas_ok hn hl hp hB
    by_cases he : fa st.1 1 = fa st.1 0
    · refine ⟨[], F, st.2, ?_, ⟨hF, hd.l2, ⟨p, hp, hB, fun _ => rfl, fun x h => (by cases h)⟩, Nat.zero_le _, fun x h => (by cases h), by simp, fun _ => ⟨st, p, hd, he⟩⟩⟩
      unfold sendF
      rw [h1]
      simp [he]
    · obtain ⟨ps, h2, h3, h4, h5⟩ := flow_next hF hd he
      obtain ⟨more, F', la', h6, h7⟩ := ih (ps.foldl tog F) st.2 (k + 1) (fa st.1) h3 h4 (fun v => by
        rcases hd.bd v with h | h
        · omega
        · have := hB v; omega) hd.l2
      have hge : fa st.1 0 ≤ fa st.1 1 := by
        have h01 : ((0, 1), 0) ∈ linksL row := mem_links.2 (.inl ⟨rfl, rfl⟩)
        have := hd.fix _ (mem_steps.2 ⟨(0, 1), 0, h01, .inr ⟨by omega, rfl⟩⟩) (by have := hd.z; dsimp only; omega)
        dsimp only at this; omega
      have hpot : ∃ p2, Pot (stepsL row F') p2 ∧ (∀ v, p2 v ≤ 31) ∧ ((fa st.1 1 - fa st.1 0) :: more = [] → p2 = p) ∧ ∀ x, ((fa st.1 1 - fa st.1 0) :: more).getLast? = some x → p2 1 = p2 0 + x := by
        obtain ⟨p2, k1, k2, k3, k4⟩ := h7.pot
        refine ⟨p2, k1, k2, fun h => (by cases h), fun x hx => ?_⟩
        cases hm : more with
        | nil =>
          rw [hm] at hx
          simp at hx
          rw [k3 hm]
          omega
        | cons y l =>
          rw [hm, List.getLast?_cons_cons] at hx
          exact k4 x (by rw [hm]; exact hx)
      refine ⟨(fa st.1 1 - fa st.1 0) :: more, F', la', ?_, ⟨?_, h7.len, hpot, ?_, ?_, ?_, ?_⟩⟩
      · unfold sendF
        rw [h1]
        simp [he, h2, h6]
      · have := h7.flow
        simp only [List.length_cons]
        rwa [show k + (more.length + 1) = k + 1 + more.length by omega]
      · have := h7.le
        simp only [List.length_cons]; omega
      · intro x hx
        rcases List.mem_cons.1 hx with rfl | hx
        · omega
        · exact h7.pos x hx
      · rw [h7.tk, h5, List.sum_cons]; omega
      · intro h
        simp only [List.length_cons] at h
        exact h7.stop (by omega)
end Go.Proofs.Ytclcippfodjfeaa
namespace Go.Proofs.Ytclcippfodjfeaa
set_option linter.unusedVariables false
set_option linter.unusedSimpArgs false
theorem count_one {l : List Nat} {j : Nat} (hn : l.Nodup) (hj : j ∈ l) : l.count j = 1 := by
  have h1 : l.count j ≤ 1 := by
    rw [List.count_eq_countP]
    exact filter_le_one hn (fun x => x == j) j (fun y _ h => by simpa using h)
  have h2 := List.count_pos_iff.2 hj
  omega
def tAt (t : List Int) (i : Nat) : Int := t.getD i 0
theorem tAt_set (t : List Int) (i v : Nat) (x : Int) (hi : i < t.length) : tAt (t.set i x) v = if v = i then x else tAt t v := fa_set t i v x hi
/-- The logs behind a log take over its pocket, over links that a pocket goes by. -/
def tIn (row : List Int) (F : List Lk) (i : Nat) (t : List Int) (js : List Nat) : List Int := js.foldl (fun t j => if inF F (aft i, bef j) then t.set j (tAt t i) else t) t
def tOne (F : List Lk) (i : Nat) (x : List Int × Nat) : List Int × Nat := if inF F (0, bef i) then (x.1.set i x.2, x.2 + 1) else x
def tStep (row : List Int) (F : List Lk) (x : List Int × Nat) (i : Nat) : List Int × Nat := (tIn row F i (tOne F i x).1 (behindL row i), (tOne F i x).2)
def turnTo (row : List Int) (F : List Lk) (k : Nat) : List Int × Nat := (List.range k).foldl (tStep row F) (List.replicate row.length (-1), 0)
def turnM (row : List Int) (F : List Lk) : List Int := (turnTo row F row.length).1
theorem turnTo_succ (row : List Int) (F : List Lk) (k : Nat) : turnTo row F (k + 1) = tStep row F (turnTo row F k) k := by
  unfold turnTo
  rw [List.range_succ, List.foldl_append]
  rfl
theorem tIn_snoc (row : List Int) (F : List Lk) (i : Nat) (t : List Int) (js : List Nat) (j : Nat) : tIn row F i t (js ++ [j]) = if inF F (aft i, bef j) then (tIn row F i t js).set j (tAt (tIn row F i t js) i) else tIn row F i t js := by
  unfold tIn
  rw [List.foldl_append]
  rfl
theorem tIn_len (row : List Int) (F : List Lk) (i : Nat) : ∀ (js : List Nat) (t : List Int), (tIn row F i t js).length = t.length
  | [], t => rfl
  | j :: js, t => by
    show (tIn row F i (if inF F (aft i, bef j) then t.set j (tAt t i) else t) js).length = _
    rw [tIn_len row F i js]
    split
    · simp
    · rfl
/-- Logs that pockets take so far: logs before i are done. -/
structure Tn (row : List Int) (F : List Lk) (i : Nat) (x : List Int × Nat) : Prop where
  len : x.1.length = row.length
  bd : ∀ j, j < row.length → -1 ≤ tAt x.1 j ∧ tAt x.1 j < x.2
  has : ∀ j, j < row.length → (0 ≤ tAt x.1 j ↔ ((0, bef j) ∈ F ∧ j < i) ∨ ∃ h, h < i ∧ (aft h, bef j) ∈ F)
  top : ∀ j, j < row.length → i ≤ j → 0 ≤ tAt x.1 j → ∀ k, k < row.length → tAt x.1 k = tAt x.1 j → k ≤ j ∧ rAt row k ≤ rAt row j
  inc : ∀ j k, j < row.length → k < row.length → k < j → 0 ≤ tAt x.1 j → tAt x.1 k = tAt x.1 j → rAt row k ≤ rAt row j
  cnt : x.2 = ((List.range i).countP fun h => inF F (0, bef h))
section
variable {row : List Int} {F : List Lk} {m : Nat} (hF : Flow row F m)
include hF
omit hF in
theorem tn_start : Tn row F 0 (List.replicate row.length (-1), 0) := by
  have h : ∀ j, j < row.length → tAt (List.replicate row.length (-1 : Int)) j = -1 := fun j hj => by
    unfold tAt
    rw [List.getD_eq_getElem?_getD, List.getElem?_replicate, if_pos hj]; rfl
  refine ⟨by simp, fun j hj => ?_, fun j hj => ?_, fun j hj _ h0 => ?_, fun j k hj _ _ h0 => ?_, rfl⟩
  · dsimp only; rw [h j hj]; exact ⟨by omega, by omega⟩
  · dsimp only; rw [h j hj]
    constructor
    · intro h; omega
    · rintro (⟨-, h⟩ | ⟨h, h1, -⟩) <;> omega
  · dsimp only at h0; rw [h j hj] at h0; omega
  · dsimp only at h0; rw [h j hj] at h0; omega
theorem flow_link_aft {h j : Nat} (hl : (aft h, bef j) ∈ F) : h < j ∧ j < row.length ∧ rAt row h ≤ rAt row j := by
  obtain ⟨-, c, hc⟩ := hF.lk _ hl
  rcases mem_links.1 hc with ⟨e, -⟩ | ⟨i, hi, ⟨e, -⟩ | ⟨e, -⟩ | ⟨e, -⟩ | ⟨k, hk, hik, hr, e, -⟩⟩
  · have := congrArg Prod.fst e; unfold aft at this; dsimp only at this; omega
  · have := congrArg Prod.fst e; unfold aft at this; dsimp only at this; omega
  · have := congrArg Prod.fst e; unfold aft bef at this; dsimp only at this; omega
  · have := congrArg Prod.snd e; unfold bef at this; dsimp only at this; omega
  · have e1 := congrArg Prod.fst e
    have e2 := congrArg Prod.snd e
    unfold aft bef at e1 e2
    dsimp only at e1 e2
    have : h = i := by omega
    have : j = k := by omega
    subst_vars
    exact ⟨hik, hk, hr⟩
omit hF in
/-- A pocket begins with a log, or not. -/
theorem tn_one {i : Nat} (hi : i < row.length) {x : List Int × Nat} (h : Tn row F i x) :
    let y := tOne F i x
    y.1.length = row.length ∧ (∀ j, j < row.length → -1 ≤ tAt y.1 j ∧ tAt y.1 j < y.2) ∧
    (∀ j, j < row.length → (0 ≤ tAt y.1 j ↔ ((0, bef j) ∈ F ∧ j < i + 1) ∨ ∃ h, h < i ∧ (aft h, bef j) ∈ F)) ∧
    (∀ j, j < row.length → i ≤ j → 0 ≤ tAt y.1 j → ∀ k, k < row.length → tAt y.1 k = tAt y.1 j → k ≤ j ∧ rAt row k ≤ rAt row j) ∧
    (∀ j k, j < row.length → k < row.length → k < j → 0 ≤ tAt y.1 j → tAt y.1 k = tAt y.1 j → rAt row k ≤ rAt row j) ∧
    y.2 = ((List.range (i + 1)).countP fun h => inF F (0, bef h)) := by
  unfold tOne
  have hc : (List.range (i + 1)).countP (fun h => inF F (0, bef h)) = x.2 + if inF F (0, bef i) then 1 else 0 := by
    rw [List.range_succ, List.countP_append, ← h.cnt]
    simp [List.countP_cons]
  by_cases hf : inF F (0, bef i) = true
  · rw [if_pos hf] at hc ⊢
    have hf2 := (inF_iff _ _).1 hf
    have fs : ∀ j, tAt (x.1.set i (x.2 : Int)) j = if j = i then (x.2 : Int) else tAt x.1 j := fun j => tAt_set _ _ _ _ (by rw [h.len]; exact hi)
    refine ⟨by simp [h.len], fun j hj => ?_, fun j hj => ?_, fun j hj hij h0 k hk he => ?_, fun j k hj hk hkj h0 he => ?_, hc.symm⟩
    · dsimp only
      rw [fs]
      have := h.bd j hj
      split <;> omega
    · dsimp only
      rw [fs]
      by_cases e : j = i
      · subst e
        rw [if_pos rfl]
        exact ⟨fun _ => .inl ⟨hf2, by omega⟩, fun _ => by omega⟩
      · rw [if_neg e, h.has j hj]
        constructor
        · rintro (⟨h1, h2⟩ | h1)
          · exact .inl ⟨h1, by omega⟩
          · exact .inr h1
        · rintro (⟨h1, h2⟩ | h1)
          · exact .inl ⟨h1, by omega⟩
          · exact .inr h1
    · dsimp only at he h0
      rw [fs] at h0
      rw [fs, fs j] at he
      have b1 := h.bd k hk
      have b2 := h.bd j hj
      by_cases e : j = i
      · subst e
        rw [if_pos rfl] at he
        split at he
        · rename_i e2; subst e2; exact ⟨Nat.le_refl _, Int.le_refl _⟩
        · omega
      · rw [if_neg e] at he h0
        split at he
        · omega
        · exact h.top j hj (by omega) h0 k hk he
    · dsimp only at he h0
      rw [fs] at h0
      rw [fs, fs j] at he
      have b1 := h.bd k hk
      have b2 := h.bd j hj
      split at he
      · split at he
        · omega
        · rename_i e1 e2
          rw [if_neg e2] at h0
          omega
      · split at he
        · omega
        · rename_i e1 e2
          rw [if_neg e2] at h0
          exact h.inc j k hj hk hkj h0 he
  · rw [if_neg hf] at hc ⊢
    have hf2 : (0, bef i) ∉ F := fun hh => hf ((inF_iff _ _).2 hh)
    refine ⟨h.len, h.bd, fun j hj => ?_, h.top, h.inc, by rw [hc]; omega⟩
    rw [h.has j hj]
    constructor
    · rintro (⟨h1, h2⟩ | h1)
      · exact .inl ⟨h1, by omega⟩
      · exact .inr h1
    · rintro (⟨h1, h2⟩ | h1)
      · refine .inl ⟨h1, ?_⟩
        rcases Nat.lt_or_eq_of_le (Nat.le_of_lt_succ h2) with h3 | rfl
        · exact h3
        · exact absurd h1 hf2
      · exact .inr h1
omit hF in
theorem tIn_at (i : Nat) : ∀ (js : List Nat) (t : List Int), t.length = row.length → (∀ j ∈ js, i < j ∧ j < row.length) → ∀ j, tAt (tIn row F i t js) j = if j ∈ js ∧ (aft i, bef j) ∈ F then tAt t i else tAt t j
  | [], t, _, _, j => by simp [tIn]
  | a :: js, t, hl, hjs, j => by
    have ha := hjs a (by simp)
    have e : tIn row F i t (a :: js) = tIn row F i (if inF F (aft i, bef a) then t.set a (tAt t i) else t) js := rfl
    rw [e, tIn_at i js _ (by split <;> simp [hl]) (fun b hb => hjs b (List.mem_cons_of_mem _ hb)) j]
    by_cases hf : (aft i, bef a) ∈ F
    · have e2 : ∀ j, tAt (t.set a (tAt t i)) j = if j = a then tAt t i else tAt t j := fun j => tAt_set _ _ _ _ (by rw [hl]; exact ha.2)
      have e3 : tAt (t.set a (tAt t i)) i = tAt t i := by rw [e2, if_neg (by omega)]
      rw [if_pos ((inF_iff _ _).2 hf), e3, e2]
      by_cases hj : j = a
      · subst hj
        simp [hf]
      · simp [hj]
    · rw [if_neg (fun hh => hf ((inF_iff _ _).1 hh))]
      by_cases hj : j = a
      · subst hj
        simp [hf]
      · simp [hj]
theorem tn_step {i : Nat} (hi : i < row.length) {x : List Int × Nat} (h : Tn row F i x) : Tn row F (i + 1) (tStep row F x i) := by
  obtain ⟨g1, g2, g3, g4, g5, g6⟩ := tn_one hi h
  obtain ⟨y, hy⟩ : ∃ y, y = tOne F i x := ⟨_, rfl⟩
  rw [← hy] at g1 g2 g3 g4 g5 g6
  have ht : tStep row F x i = (tIn row F i y.1 (behindL row i), y.2) := by unfold tStep; rw [← hy]
  rw [ht]
  have mb : ∀ j, j ∈ behindL row i ↔ j < row.length ∧ i < j ∧ rAt row i ≤ rAt row j := fun j => by
    unfold behindL behB
    rw [List.mem_filter, List.mem_range, Bool.and_eq_true, decide_eq_true_iff, decide_eq_true_iff]
  have fs : ∀ j, tAt (tIn row F i y.1 (behindL row i)) j = if (aft i, bef j) ∈ F then tAt y.1 i else tAt y.1 j := fun j => by
    rw [tIn_at i _ _ g1 (fun j hj => ⟨((mb j).1 hj).2.1, ((mb j).1 hj).1⟩)]
    by_cases hf : (aft i, bef j) ∈ F
    · obtain ⟨q1, q2, q3⟩ := flow_link_aft hF hf
      rw [if_pos ⟨(mb j).2 ⟨q2, q1, q3⟩, hf⟩, if_pos hf]
    · rw [if_neg (fun hh => hf hh.2), if_neg hf]
  -- a log from which a link leads has a pocket
  have hi0 : ∀ j, (aft i, bef j) ∈ F → 0 ≤ tAt y.1 i := fun j hf => by
    rw [g3 i hi]
    obtain ⟨l, q1, q2⟩ := hF.in_of_thr (hF.thr_of_out hf rfl)
    obtain ⟨-, c, hc⟩ := hF.lk l q1
    rcases mem_links.1 hc with ⟨e, -⟩ | ⟨k, hk, ⟨e, -⟩ | ⟨e, -⟩ | ⟨e, -⟩ | ⟨k', hk', h1, h2, e, -⟩⟩
    · rw [e] at q2; unfold bef at q2; dsimp only at q2; omega
    · rw [e] at q2
      have : k = i := by unfold bef at q2; dsimp only at q2; omega
      subst this
      rw [e] at q1
      exact .inl ⟨q1, by omega⟩
    · rw [e] at q2; unfold bef aft at q2; dsimp only at q2; omega
    · rw [e] at q2; unfold bef at q2; dsimp only at q2; omega
    · rw [e] at q2
      have : k' = i := by unfold bef at q2; dsimp only at q2; omega
      subst this
      rw [e] at q1
      exact .inr ⟨k, h1, q1⟩
  have one : ∀ j k, (aft i, bef j) ∈ F → (aft i, bef k) ∈ F → j = k := fun j k h1 h2 => by
    have := hF.out_one h1 h2 rfl rfl
    have := congrArg Prod.snd this
    unfold bef at this; dsimp only at this; omega
  refine ⟨by rw [tIn_len]; exact g1, fun j hj => ?_, fun j hj => ?_, fun j hj hij h0 k hk he => ?_, fun j k hj hk hkj h0 he => ?_, g6⟩
  · dsimp only
    rw [fs]
    split
    · exact g2 i hi
    · exact g2 j hj
  · dsimp only
    rw [fs]
    split
    · rename_i hf
      exact ⟨fun _ => .inr ⟨i, by omega, hf⟩, fun _ => hi0 j hf⟩
    · rename_i hf
      rw [g3 j hj]
      constructor
      · rintro (h1 | ⟨q, h1, h2⟩)
        · exact .inl h1
        · exact .inr ⟨q, by omega, h2⟩
      · rintro (h1 | ⟨q, h1, h2⟩)
        · exact .inl h1
        · refine .inr ⟨q, ?_, h2⟩
          rcases Nat.lt_or_eq_of_le (Nat.le_of_lt_succ h1) with h3 | rfl
          · exact h3
          · exact absurd h2 hf
  · dsimp only at h0 he
    rw [fs] at h0
    rw [fs, fs j] at he
    by_cases hf : (aft i, bef j) ∈ F
    · rw [if_pos hf] at he h0
      obtain ⟨q1, q2, q3⟩ := flow_link_aft hF hf
      by_cases hk2 : (aft i, bef k) ∈ F
      · have := one j k hf hk2; subst this; exact ⟨Nat.le_refl _, Int.le_refl _⟩
      · rw [if_neg hk2] at he
        have := g4 i hi (Nat.le_refl _) h0 k hk he
        exact ⟨by omega, by omega⟩
    · rw [if_neg hf] at he h0
      by_cases hk2 : (aft i, bef k) ∈ F
      · rw [if_pos hk2] at he
        -- then i and j are in one pocket, and j comes behind i
        have := g4 i hi (Nat.le_refl _) (by omega) j hj he.symm
        omega
      · rw [if_neg hk2] at he
        exact g4 j hj (by omega) h0 k hk he
  · dsimp only at h0 he
    rw [fs] at h0
    rw [fs, fs j] at he
    by_cases hf : (aft i, bef j) ∈ F
    · rw [if_pos hf] at he h0
      obtain ⟨q1, q2, q3⟩ := flow_link_aft hF hf
      by_cases hk2 : (aft i, bef k) ∈ F
      · have := one j k hf hk2; omega
      · rw [if_neg hk2] at he
        have := g4 i hi (Nat.le_refl _) h0 k hk he
        omega
    · rw [if_neg hf] at he h0
      by_cases hk2 : (aft i, bef k) ∈ F
      · rw [if_pos hk2] at he
        have := g4 i hi (Nat.le_refl _) (by omega) j hj he.symm
        obtain ⟨q1, -, -⟩ := flow_link_aft hF hk2
        omega
      · rw [if_neg hk2] at he
        exact g5 j k hj hk hkj h0 he
theorem tn_to : ∀ i, i ≤ row.length → Tn row F i (turnTo row F i)
  | 0, _ => tn_start
  | i + 1, h => by
    rw [turnTo_succ]
    exact tn_step hF (by omega) (tn_to i (by omega))
/-- Logs that pockets take are those that pockets go through. -/
theorem turn_has {j : Nat} (hj : j < row.length) : 0 ≤ tAt (turnM row F) j ↔ (bef j, aft j) ∈ F := by
  have h := tn_to hF row.length (Nat.le_refl _)
  unfold turnM
  rw [h.has j hj]
  constructor
  · rintro (⟨h1, -⟩ | ⟨q, -, h1⟩)
    · exact hF.thr_of_in h1 rfl
    · exact hF.thr_of_in h1 rfl
  · intro ht
    obtain ⟨l, q1, q2⟩ := hF.in_of_thr ht
    obtain ⟨-, c, hc⟩ := hF.lk l q1
    rcases mem_links.1 hc with ⟨e, -⟩ | ⟨k, hk, ⟨e, -⟩ | ⟨e, -⟩ | ⟨e, -⟩ | ⟨k', hk', h1, h2, e, -⟩⟩
    · rw [e] at q2; unfold bef at q2; dsimp only at q2; omega
    · rw [e] at q2
      have : k = j := by unfold bef at q2; dsimp only at q2; omega
      subst this
      rw [e] at q1
      exact .inl ⟨q1, hk⟩
    · rw [e] at q2; unfold bef aft at q2; dsimp only at q2; omega
    · rw [e] at q2; unfold bef at q2; dsimp only at q2; omega
    · rw [e] at q2
      have : k' = j := by unfold bef at q2; dsimp only at q2; omega
      subst this
      rw [e] at q1
      exact .inr ⟨k, hk, q1⟩
theorem out_zero : F.countP (fun l => l.1 == 0) = m := by
  have h1 := hF.net (fun u => if u = 0 then 1 else 0)
  have h2 := sum_ind F 0
  rw [h2] at h1
  have h3 : F.countP (fun l => l.2 == 0) = 0 := by
    rw [List.countP_eq_zero]
    intro l hl
    obtain ⟨-, c, hc⟩ := hF.lk l hl
    have := (link_dir hc).2.1
    simpa using this
  rw [h3] at h1
  simp at h1
  omega
theorem pockets_le (i : Nat) : ((List.range i).countP fun h => inF F (0, bef h)) ≤ m := by
  rw [← out_zero hF, List.countP_eq_length_filter, List.countP_eq_length_filter]
  have h1 : (((List.range i).filter fun h => inF F (0, bef h)).map fun h => ((0, bef h) : Lk)).length ≤ (F.filter fun l => l.1 == 0).length := by
    refine nodup_len _ _ ?_ ?_
    · refine List.Pairwise.map _ ?_ (List.nodup_range.filter _)
      intro a b hab e
      have := congrArg Prod.snd e
      unfold bef at this; dsimp only at this; omega
    · intro x hx
      obtain ⟨h, hh, rfl⟩ := List.mem_map.1 hx
      rw [List.mem_filter] at hh
      exact List.mem_filter.2 ⟨(inF_iff _ _).1 hh.2, rfl⟩
  rwa [List.length_map] at h1
theorem thr_count : F.countP isLog = ((List.range row.length).filter fun j => inF F (bef j, aft j)).length := by
  rw [List.countP_eq_length_filter]
  have hb : ∀ a b, bef a = bef b → a = b := fun a b h => by unfold bef at h; omega
  have e1 : (F.filter isLog).length ≤ (((List.range row.length).filter fun j => inF F (bef j, aft j)).map fun j => ((bef j, aft j) : Lk)).length := by
    refine nodup_len _ _ (hF.nd.filter _) ?_
    intro l hl
    rw [List.mem_filter] at hl
    obtain ⟨-, c, hc⟩ := hF.lk l hl.1
    rcases mem_links.1 hc with ⟨e, -⟩ | ⟨k, hk, ⟨e, -⟩ | ⟨e, -⟩ | ⟨e, -⟩ | ⟨k', hk', h1, h2, e, -⟩⟩
    · rw [e] at hl; simp [isLog] at hl
    · rw [e] at hl; simp [isLog] at hl
    · rw [e] at hl ⊢
      exact List.mem_map.2 ⟨k, List.mem_filter.2 ⟨List.mem_range.2 hk, (inF_iff _ _).2 hl.1⟩, rfl⟩
    · rw [e] at hl; simp [isLog, aft] at hl
    · rw [e] at hl; simp [isLog, aft] at hl
  have e2 : (((List.range row.length).filter fun j => inF F (bef j, aft j)).map fun j => ((bef j, aft j) : Lk)).length ≤ (F.filter isLog).length := by
    refine nodup_len _ _ ?_ ?_
    · refine List.Pairwise.map _ ?_ (List.nodup_range.filter _)
      intro a b hab e
      exact hab (hb a b (congrArg Prod.fst e))
    · intro x hx
      obtain ⟨j, hj, rfl⟩ := List.mem_map.1 hx
      rw [List.mem_filter] at hj
      exact List.mem_filter.2 ⟨(inF_iff _ _).1 hj.2, by simp [isLog, bef]⟩
  rw [List.length_map] at e1 e2
  omega
end
/-- A turning, right: numbers from -1 on, below many; logs of a pocket increase. -/
structure Right (row : List Int) (many : Nat) (t : List Int) : Prop where
  len : t.length = row.length
  bd : ∀ j, j < row.length → -1 ≤ tAt t j ∧ tAt t j < many
  inc : ∀ j k, j < row.length → k < j → 0 ≤ tAt t j → tAt t k = tAt t j → rAt row k ≤ rAt row j
def takenB (t : List Int) : Nat := t.countP fun x => decide (0 ≤ x)
theorem turn_right {row : List Int} {F : List Lk} {m : Nat} (hF : Flow row F m) {many : Nat} (hm : m ≤ many) : Right row many (turnM row F) ∧ takenB (turnM row F) = tk F := by
  have h := tn_to hF row.length (Nat.le_refl _)
  have hp := pockets_le hF row.length
  refine ⟨⟨h.len, fun j hj => ?_, fun j k hj hkj h0 he => h.inc j k hj (by omega) hkj h0 he⟩, ?_⟩
  · have := h.bd j hj
    have := h.cnt
    unfold turnM
    omega
  · unfold tk takenB
    rw [thr_count hF]
    have hl : (turnM row F).length = row.length := h.len
    have e : turnM row F = (List.range row.length).map (tAt (turnM row F)) := by
      apply List.ext_getElem
      · simp [hl]
      · intro j h1 h2
        simp only [List.getElem_map, List.getElem_range]
        unfold tAt
        rw [List.getD_eq_getElem?_getD, List.getElem?_eq_getElem h1]; rfl
    rw [e, List.countP_map, List.countP_eq_length_filter]
    congr 1
    apply List.filter_congr
    intro j hj
    have := turn_has hF (List.mem_range.1 hj)
    simp only [Function.comp]
    rw [Bool.eq_iff_iff, decide_eq_true_iff, this, inF_iff]
/-- A right turning takes logs, as the definition says. -/
theorem right_takes {row : List Int} {many : Nat} {t : List Int} (h : Right row many t) : Takes row many (takenB t) := by
  refine ⟨(List.range row.length).map fun j => (rAt row j, if 0 ≤ tAt t j then some (tAt t j).toNat else none), ?_, ?_, ?_, ?_⟩
  · rw [List.map_map]
    apply List.ext_getElem
    · simp
    · intro j h1 h2
      simp only [List.getElem_map, List.getElem_range, Function.comp]
      unfold rAt
      rw [List.getD_eq_getElem?_getD, List.getElem?_eq_getElem h2]; rfl
  · unfold okL
    rw [List.pairwise_map]
    have : (List.range row.length).Pairwise (fun a b => a < b ∧ b < row.length) := by
      rw [List.pairwise_iff_getElem]
      intro i j hi hj hij
      simp at hi hj ⊢
      exact ⟨hij, hj⟩
    refine List.Pairwise.imp ?_ this
    intro a b ⟨hab, hb⟩ c h1 h2
    dsimp only at h1 h2 ⊢
    split at h1
    · split at h2
      · simp at h1 h2
        exact h.inc b a hb hab (by assumption) (by omega)
      · cases h2
    · cases h1
  · intro p hp c hc
    obtain ⟨j, hj, rfl⟩ := List.mem_map.1 hp
    have := h.bd j (List.mem_range.1 hj)
    dsimp only at hc
    split at hc
    · simp at hc; omega
    · cases hc
  · unfold cntL takenB
    rw [List.countP_map]
    have e : t = (List.range row.length).map (tAt t) := by
      apply List.ext_getElem
      · simp [h.len]
      · intro j h1 h2
        simp only [List.getElem_map, List.getElem_range]
        unfold tAt
        rw [List.getD_eq_getElem?_getD, List.getElem?_eq_getElem h1]; rfl
    conv => rhs; rw [e, List.countP_map]
    congr 1
    funext j
    simp only [Function.comp]
    by_cases h0 : 0 ≤ tAt t j
    · rw [if_pos h0, decide_eq_true h0]; rfl
    · rw [if_neg h0, decide_eq_false h0]; rfl
/-- A run: logs, increasing, whose numbers decrease. -/
def IsRun (row : List Int) (r : List Nat) : Prop := r.Pairwise (fun a b => a < b ∧ b < row.length ∧ rAt row b < rAt row a) ∧ ∀ x ∈ r, x < row.length
def runB (many : Nat) (rs : List (List Nat)) : Nat := (rs.map fun r => min many r.length).sum
/-- Runs part a row. -/
def Parts (row : List Int) (rs : List (List Nat)) : Prop := ∀ j, j < row.length → rs.flatten.count j = 1
/-- No right turning takes more logs of a run than there are pockets. -/
theorem run_le {row : List Int} {many : Nat} {t : List Int} (h : Right row many t) {r : List Nat} (hr : IsRun row r) : r.countP (fun j => decide (0 ≤ tAt t j)) ≤ min many r.length := by
  refine Nat.le_min.2 ⟨?_, List.countP_le_length⟩
  have h1 : r.countP (fun j => decide (0 ≤ tAt t j)) = cntL (r.map fun j => ((0 : Int), if 0 ≤ tAt t j then some (tAt t j).toNat else none)) := by
    unfold cntL
    rw [List.countP_map]
    congr 1
    funext j
    simp only [Function.comp]
    by_cases h0 : 0 ≤ tAt t j
    · rw [if_pos h0, decide_eq_true h0]; rfl
    · rw [if_neg h0, decide_eq_false h0]; rfl
  rw [h1]
  refine distinct_le _ ?_ ?_
  · rw [List.pairwise_map]
    refine List.Pairwise.imp ?_ hr.1
    intro a b ⟨h2, h3, h4⟩ c h5 h6
    dsimp only at h5 h6
    split at h5
    · split at h6
      · simp at h5 h6
        have := h.inc b a h3 h2 (by assumption) (by omega)
        omega
      · cases h6
    · cases h5
  · intro p hp c hc
    obtain ⟨j, hj, rfl⟩ := List.mem_map.1 hp
    have := h.bd j (hr.2 j hj)
    dsimp only at hc
    split at hc
    · simp at hc; omega
    · cases hc
theorem count_parts {row : List Int} {rs : List (List Nat)} (hp : Parts row rs) (hin : ∀ r ∈ rs, ∀ x ∈ r, x < row.length) (p : Nat → Bool) : (List.range row.length).countP p = (rs.map fun r => r.countP p).sum := by
  have e : rs.flatten.countP p = (rs.map fun r => r.countP p).sum := by rw [List.countP_flatten]
  rw [← e]
  refine (List.Perm.countP_eq p ?_)
  rw [List.perm_iff_count]
  intro j
  by_cases hj : j < row.length
  · rw [hp j hj, count_one List.nodup_range (List.mem_range.2 hj)]
  · rw [List.count_eq_zero.2 (by simpa using hj), List.count_eq_zero.2]
    intro hh
    obtain ⟨r, h1, h2⟩ := List.mem_flatten.1 hh
    exact hj (hin r h1 j h2)
/-- No right turning takes more logs than the bound of runs that part the row. -/
theorem weak {row : List Int} {many : Nat} {t : List Int} (h : Right row many t) {rs : List (List Nat)} (hr : ∀ r ∈ rs, IsRun row r) (hp : Parts row rs) : takenB t ≤ runB many rs := by
  have e : takenB t = (List.range row.length).countP fun j => decide (0 ≤ tAt t j) := by
    unfold takenB
    have e : t = (List.range row.length).map (tAt t) := by
      apply List.ext_getElem
      · simp [h.len]
      · intro j h1 h2
        simp only [List.getElem_map, List.getElem_range]
        unfold tAt
        rw [List.getD_eq_getElem?_getD, List.getElem?_eq_getElem h1]; rfl
    conv => lhs; rw [e, List.countP_map]
    rfl
  rw [e, count_parts hp (fun r h => (hr r h).2)]
  unfold runB
  clear hp
  induction rs with
  | nil => exact Nat.le_refl _
  | cons r rs ih =>
    have h1 := run_le h (hr r (by simp))
    have h2 := ih (fun r h => hr r (List.mem_cons_of_mem _ h))
    simp only [List.map_cons, List.sum_cons]
    omega
/-- A turning of what can be taken. -/
theorem takes_right {row : List Int} {k s : Nat} (h : Takes row k s) : ∃ t, Right row k t ∧ takenB t = s := by
  obtain ⟨l, g1, g2, g3, g4⟩ := h
  obtain ⟨t, ht⟩ : ∃ t : List Int, t = l.map fun p => match p.2 with | none => -1 | some c => (c : Int) := ⟨_, rfl⟩
  have hlen : l.length = row.length := by rw [← g1, List.length_map]
  have hat : ∀ j (hj : j < l.length), tAt t j = match l[j].2 with | none => -1 | some c => (c : Int) := fun j hj => by
    unfold tAt
    rw [ht, List.getD_eq_getElem?_getD, List.getElem?_map, List.getElem?_eq_getElem hj]; rfl
  have hrt : ∀ j (hj : j < l.length), rAt row j = l[j].1 := fun j hj => by
    unfold rAt
    rw [← g1, List.getD_eq_getElem?_getD, List.getElem?_map, List.getElem?_eq_getElem hj]; rfl
  refine ⟨t, ⟨by rw [ht, List.length_map, hlen], fun j hj => ?_, fun j i hj hkj h0 he => ?_⟩, ?_⟩
  · rw [hat j (by omega)]
    cases hc : (l[j]'(by omega)).2 with
    | none => exact ⟨by show (-1 : Int) ≤ -1; omega, by show (-1 : Int) < _; omega⟩
    | some c =>
      have := g3 _ (List.getElem_mem (by omega : j < l.length)) c hc
      exact ⟨by show (-1 : Int) ≤ (c : Int); omega, by show (c : Int) < _; omega⟩
  · rw [hat j (by omega)] at h0 he
    rw [hat i (by omega)] at he
    have h6 := (List.pairwise_iff_getElem.1 g2) i j (by omega) (by omega) hkj
    rw [hrt j (by omega), hrt i (by omega)]
    cases hc : (l[j]'(by omega)).2 with
    | none => rw [hc] at h0; have : (0 : Int) ≤ -1 := h0; omega
    | some c =>
      rw [hc] at he
      cases hc2 : (l[i]'(by omega)).2 with
      | none => rw [hc2] at he; have : (-1 : Int) = (c : Int) := he; omega
      | some c2 =>
        rw [hc2] at he
        have h7 : (c2 : Int) = (c : Int) := he
        have h8 : c2 = c := by omega
        subst h8
        exact h6 c2 hc2 hc
  · rw [← g4]
    unfold takenB cntL
    rw [ht, List.countP_map]
    congr 1
    funext p
    obtain ⟨x, o⟩ := p
    cases o with
    | none => rfl
    | some c => exact decide_eq_true (show (0 : Int) ≤ (c : Int) by omega)
/-- Marks that no step exceeds, and that begin at any number. -/
def Fea (ss : List (Lk × Int)) (p : Nat → Int) : Prop := ∀ s ∈ ss, p s.1.1 + s.2 ≤ p s.1.2
/-- The runs of marks. -/
def rises (p : Nat → Int) (i : Nat) : Bool := decide (p (bef i) < p (aft i))
def runAt (n : Nat) (p : Nat → Int) (mark : Int) : List Nat := (List.range n).filter fun i => rises p i && (p (bef i) == mark)
def runsM (n : Nat) (p : Nat → Int) : List (List Nat) := ((List.range (p 1 - p 0).toNat).map fun (k : Nat) => runAt n p (p 0 + (k : Int))) ++ ((List.range n).filter fun i => !rises p i).map fun i => [i]
theorem fea_done {row : List Int} {F : List Lk} {m : Nat} {p : Nat → Int} {st : St} (hF : Flow row F m) (hd : Done (stepsL row F) p st) : Fea (stepsL row F) (fa st.1) := by
  intro s hs
  refine hd.fix s hs ?_
  obtain ⟨l, c, h1, h2⟩ := mem_steps.1 hs
  have := reached hF hd h1
  rcases h2 with ⟨-, rfl⟩ | ⟨-, rfl⟩
  · exact this.2
  · exact this.1
section
variable {row : List Int} {F : List Lk} {m : Nat} {p : Nat → Int} (hF : Flow row F m) (hd : Fea (stepsL row F) p)
include hd
theorem mark_link {l : Lk} (hl : (l, 0) ∈ linksL row) : p l.1 ≤ p l.2 := by
  have := hd _ (mem_steps.2 ⟨l, 0, hl, .inr ⟨by omega, rfl⟩⟩)
  dsimp only at this; omega
include hF in
theorem mark_flow {l : Lk} (hl : l ∈ F) : p l.2 - p l.1 ≤ if isLog l then 1 else 0 := by
  obtain ⟨-, c, hc⟩ := hF.lk l hl
  have := hd _ (mem_steps.2 ⟨l, c, hc, .inl ⟨hl, rfl⟩⟩)
  have e := link_cost hc
  unfold turn at this
  dsimp only at this
  split at e <;> subst e <;> simp [*] <;> omega
theorem mark_bd {i : Nat} (hi : i < row.length) : p 0 ≤ p (bef i) ∧ p (aft i) ≤ p 1 :=
  ⟨mark_link hd (l := (0, bef i)) (mem_links.2 (.inr ⟨i, hi, .inl ⟨rfl, rfl⟩⟩)), mark_link hd (l := (aft i, 1)) (mem_links.2 (.inr ⟨i, hi, .inr (.inr (.inl ⟨rfl, rfl⟩))⟩))⟩
theorem run_at (mark : Int) : IsRun row (runAt row.length p mark) := by
  refine ⟨?_, fun x hx => List.mem_range.1 (List.mem_filter.1 hx).1⟩
  unfold runAt
  rw [List.pairwise_filter]
  have : (List.range row.length).Pairwise (fun a b => a < b ∧ b < row.length) := by
    rw [List.pairwise_iff_getElem]
    intro i j hi hj hij
    simp at hi hj ⊢
    exact ⟨hij, hj⟩
  refine List.Pairwise.imp ?_ this
  intro a b ⟨hab, hb⟩ h1 h2
  rw [Bool.and_eq_true, beq_iff_eq] at h1 h2
  refine ⟨hab, hb, ?_⟩
  apply Classical.byContradiction
  intro hn
  have := mark_link hd (l := (aft a, bef b)) (mem_links.2 (.inr ⟨a, by omega, .inr (.inr (.inr ⟨b, hb, hab, by omega, rfl, rfl⟩))⟩))
  have h3 := of_decide_eq_true h1.1
  dsimp only at this
  omega
theorem runs_run : ∀ r ∈ runsM row.length p, IsRun row r := by
  intro r hr
  rcases List.mem_append.1 hr with hr | hr
  · obtain ⟨k, -, rfl⟩ := List.mem_map.1 hr
    exact run_at hd _
  · obtain ⟨i, hi, rfl⟩ := List.mem_map.1 hr
    exact ⟨by simp, fun x hx => by simp at hx; subst hx; exact List.mem_range.1 (List.mem_filter.1 hi).1⟩
omit hd in
theorem count_map_one (n : Nat) (q : Nat → Bool) (j : Nat) (hj : j < n) : (((List.range n).filter q).map fun i => [i]).flatten.count j = if q j then 1 else 0 := by
  have : (((List.range n).filter q).map fun i => [i]).flatten = (List.range n).filter q := by
    induction (List.range n).filter q with
    | nil => rfl
    | cons a l ih => simp [ih]
  rw [this]
  split
  · rename_i h
    exact count_one (List.nodup_range.filter _) (List.mem_filter.2 ⟨List.mem_range.2 hj, h⟩)
  · rename_i h
    exact List.count_eq_zero.2 (fun hh => h (List.mem_filter.1 hh).2)
omit hd in
theorem count_marks (n : Nat) (p : Nat → Int) (j : Nat) (hj : j < n) (hr : rises p j = true) : ∀ K : Nat, ((List.range K).map fun (k : Nat) => runAt n p (p 0 + (k : Int))).flatten.count j = if p 0 ≤ p (bef j) ∧ p (bef j) < p 0 + (K : Int) then 1 else 0
  | 0 => by
    rw [if_neg (by omega)]; rfl
  | K + 1 => by
    rw [List.range_succ, List.map_append, List.flatten_append, List.count_append, count_marks n p j hj hr K]
    have e : ([K].map fun (k : Nat) => runAt n p (p 0 + (k : Int))).flatten = runAt n p (p 0 + (K : Int)) := by simp
    rw [e]
    have e2 : (runAt n p (p 0 + (K : Int))).count j = if p (bef j) = p 0 + (K : Int) then 1 else 0 := by
      unfold runAt
      split
      · rename_i h
        exact count_one (List.nodup_range.filter _) (List.mem_filter.2 ⟨List.mem_range.2 hj, by simp [hr, h]⟩)
      · rename_i h
        exact List.count_eq_zero.2 (fun hh => h (by
          have := (List.mem_filter.1 hh).2
          rw [Bool.and_eq_true, beq_iff_eq] at this
          exact this.2))
    rw [e2]
    split <;> split <;> (try split) <;> omega
theorem runs_part : Parts row (runsM row.length p) := by
  intro j hj
  unfold runsM
  rw [List.flatten_append, List.count_append, count_map_one _ _ _ hj]
  have hb := mark_bd hd hj
  cases hr : rises p j with
  | true =>
    have h1 := of_decide_eq_true hr
    rw [count_marks _ _ _ hj hr, if_pos (by omega)]
    simp
  | false =>
    have : ((List.range (p 1 - p 0).toNat).map fun (k : Nat) => runAt row.length p (p 0 + (k : Int))).flatten.count j = 0 := by
      refine List.count_eq_zero.2 (fun hh => ?_)
      obtain ⟨r, h1, h2⟩ := List.mem_flatten.1 hh
      obtain ⟨k, -, rfl⟩ := List.mem_map.1 h1
      have := (List.mem_filter.1 h2).2
      rw [hr] at this
      cases this
    rw [this]
    simp
theorem stays_thr {i : Nat} (hi : i < row.length) (hr : rises p i = false) : (bef i, aft i) ∈ F := by
  apply Classical.byContradiction
  intro hn
  have hl : ((bef i, aft i), 1) ∈ linksL row := mem_links.2 (.inr ⟨i, hi, .inr (.inl ⟨rfl, rfl⟩)⟩)
  have := hd _ (mem_steps.2 ⟨_, 1, hl, .inr ⟨fun hh => hn hh.1, rfl⟩⟩)
  have h2 := of_decide_eq_false hr
  dsimp only at this
  omega
include hF in
/-- Pockets take at least so many logs. -/
theorem flow_ge : m * (p 1 - p 0) + (((List.range row.length).filter fun i => !rises p i).length : Int) ≤ (tk F : Int) := by
  have h1 := hF.net p
  have h2 : ∀ G : List Lk, (∀ l ∈ G, l ∈ F) → (G.map fun l => p l.2 - p l.1).sum ≤ (G.countP (fun l => isLog l && decide (p l.1 < p l.2)) : Int) := by
    intro G
    induction G with
    | nil => intro _; simp
    | cons l G ih =>
      intro hG
      have h3 := ih (fun x hx => hG x (List.mem_cons_of_mem _ hx))
      have h4 := mark_flow hF hd (hG l (by simp))
      rw [List.map_cons, List.sum_cons, List.countP_cons]
      by_cases hc : isLog l && decide (p l.1 < p l.2)
      · rw [if_pos hc]
        split at h4 <;> omega
      · rw [if_neg hc]
        rw [Bool.and_eq_true, decide_eq_true_iff] at hc
        split at h4
        · have : ¬ p l.1 < p l.2 := fun h => hc ⟨by assumption, h⟩
          omega
        · omega
  have h3 := h2 F (fun _ h => h)
  rw [h1] at h3
  have h4 : F.countP (fun l => isLog l && decide (p l.1 < p l.2)) + F.countP (fun l => isLog l && !decide (p l.1 < p l.2)) = tk F := by
    unfold tk
    clear h1 h2 h3 hF hd
    induction F with
    | nil => rfl
    | cons l G ih =>
      simp only [List.countP_cons]
      cases isLog l <;> cases decide (p l.1 < p l.2) <;> simp <;> omega
  have h5 : ((List.range row.length).filter fun i => !rises p i).length ≤ F.countP (fun l => isLog l && !decide (p l.1 < p l.2)) := by
    rw [List.countP_eq_length_filter]
    have := nodup_len (((List.range row.length).filter fun i => !rises p i).map fun j => ((bef j, aft j) : Lk)) (F.filter fun l => isLog l && !decide (p l.1 < p l.2)) (by
      refine List.Pairwise.map _ ?_ (List.nodup_range.filter _)
      intro a b hab e
      have := congrArg Prod.fst e
      unfold bef at this; dsimp only at this; omega) (by
      intro x hx
      obtain ⟨j, hj, rfl⟩ := List.mem_map.1 hx
      rw [List.mem_filter] at hj
      have h6 : rises p j = false := by simpa using hj.2
      refine List.mem_filter.2 ⟨stays_thr hd (List.mem_range.1 hj.1) h6, ?_⟩
      rw [Bool.and_eq_true]
      exact ⟨by simp [isLog, bef], by show (!rises p j) = true; rw [h6]; rfl⟩)
    rwa [List.length_map] at this
  omega
theorem mark_01 : p 0 ≤ p 1 := mark_link hd (l := (0, 1)) (mem_links.2 (.inl ⟨rfl, rfl⟩))
include hF in
/-- The bound of the runs of marks is no more than what pockets take. -/
theorem bound_le {many : Nat} (hm : m = many ∨ p 1 = p 0) : runB many (runsM row.length p) ≤ tk F := by
  have h1 := flow_ge hF hd
  have h0 := mark_01 hd
  have h2 : ∀ (rs : List (List Nat)), runB many rs ≤ many * rs.length := by
    intro rs
    unfold runB
    induction rs with
    | nil => simp
    | cons r rs ih =>
      simp only [List.map_cons, List.sum_cons, List.length_cons, Nat.mul_add]
      omega
  have h3 : ∀ (l : List Nat), runB many (l.map fun i => [i]) ≤ l.length := by
    intro l
    unfold runB
    induction l with
    | nil => simp
    | cons r rs ih =>
      simp only [List.map_cons, List.sum_cons, List.length_cons] at ih ⊢
      simp only [List.length_nil] at ih ⊢
      omega
  have h4 : runB many (runsM row.length p) = runB many ((List.range (p 1 - p 0).toNat).map fun (k : Nat) => runAt row.length p (p 0 + (k : Int))) + runB many (((List.range row.length).filter fun i => !rises p i).map fun i => [i]) := by
    unfold runB runsM
    rw [List.map_append, List.sum_append]
  rw [h4]
  have h5 := h2 ((List.range (p 1 - p 0).toNat).map fun (k : Nat) => runAt row.length p (p 0 + (k : Int)))
  have h6 := h3 ((List.range row.length).filter fun i => !rises p i)
  rw [List.length_map, List.length_range] at h5
  rcases hm with rfl | hm
  · have e : ((m * (p 1 - p 0).toNat : Nat) : Int) = m * (p 1 - p 0) := by
      rw [Int.natCast_mul, Int.toNat_of_nonneg (by omega)]
    omega
  · rw [hm, Int.sub_self] at h5 h1
    rw [Int.mul_zero] at h1
    rw [Int.toNat_zero, Nat.mul_zero] at h5
    rw [hm, Int.sub_self, Int.toNat_zero]
    omega
include hF in
/-- As many logs as pockets take, at most. -/
theorem flow_most {many : Nat} (hm : m = many ∨ (p 1 = p 0 ∧ m ≤ many)) : tk F = sumk many (tab row) ∧ runB many (runsM row.length p) = tk F := by
  have hle : m ≤ many := by rcases hm with rfl | h; exact Nat.le_refl _; exact h.2
  obtain ⟨h1, h2⟩ := turn_right hF hle
  have h3 := weak h1 (runs_run hd) (runs_part hd)
  have h4 := bound_le hF hd (many := many) (hm.imp id (fun h => h.1))
  have h5 := greene_le (right_takes h1)
  rw [h2] at h3 h5
  refine ⟨?_, by omega⟩
  -- what the tableau's first lines say can be taken, so that it is no more than the bound
  obtain ⟨t, hR, h7⟩ := takes_right (greene_ge row many)
  have h6 := weak hR (runs_run hd) (runs_part hd)
  omega
end
end Go.Proofs.Ytclcippfodjfeaa
namespace Go.Proofs.Ytclcippfodjfeaa
set_option linter.unusedVariables false
set_option linter.unusedSimpArgs false
/-- The lexicographic order. -/
def lexC : List Nat → List Nat → Int
  | [], [] => 0
  | [], _ :: _ => -1
  | _ :: _, [] => 1
  | x :: a, y :: b => if x < y then -1 else if y < x then 1 else lexC a b
theorem lexC_self : ∀ a : List Nat, lexC a a = 0
  | [] => rfl
  | x :: a => by unfold lexC; rw [if_neg (by omega), if_neg (by omega)]; exact lexC_self a
theorem lexC_eq : ∀ {a b : List Nat}, lexC a b = 0 → a = b
  | [], [], _ => rfl
  | [], _ :: _, h => by simp [lexC] at h
  | _ :: _, [], h => by simp [lexC] at h
  | x :: a, y :: b, h => by
    unfold lexC at h
    split at h
    · cases h
    · split at h
      · cases h
      · rw [lexC_eq h, show x = y by omega]
theorem lexC_neg : ∀ a b : List Nat, lexC a b < 0 ↔ 0 < lexC b a
  | [], [] => by simp [lexC]
  | [], _ :: _ => by simp [lexC]
  | _ :: _, [] => by simp [lexC]
  | x :: a, y :: b => by
    unfold lexC
    by_cases h1 : x < y
    · rw [if_pos h1, if_neg (by omega), if_pos h1]; omega
    · rw [if_neg h1]
      by_cases h2 : y < x
      · rw [if_pos h2, if_pos h2]; omega
      · rw [if_neg h2, if_neg h2, if_neg h1]; exact lexC_neg a b
theorem lexC_trans : ∀ {a b c : List Nat}, lexC a b ≤ 0 → lexC b c ≤ 0 → lexC a c ≤ 0
  | [], _, [], _, _ => by simp [lexC]
  | [], _, _ :: _, _, _ => by simp [lexC]
  | _ :: _, [], _, h, _ => by simp [lexC] at h
  | x :: a, y :: b, [], _, h => by simp [lexC] at h
  | x :: a, y :: b, z :: c, h1, h2 => by
    unfold lexC at h1 h2 ⊢
    split at h1
    · split at h2
      · rw [if_pos (by omega)]; omega
      · split at h2
        · omega
        · rw [if_pos (by omega)]; omega
    · split at h1
      · omega
      · split at h2
        · rw [if_pos (by omega)]; omega
        · split at h2
          · omega
          · rw [if_neg (by omega), if_neg (by omega)]; exact lexC_trans h1 h2
theorem lexC_snoc (i : Nat) : ∀ {a b : List Nat}, a.length = b.length → lexC a b ≤ 0 → lexC (a ++ [i]) (b ++ [i]) ≤ 0
  | [], [], _, _ => by rw [lexC_self]; omega
  | [], _ :: _, h, _ => by simp at h
  | _ :: _, [], h, _ => by simp at h
  | x :: a, y :: b, h, h1 => by
    simp only [List.cons_append]
    unfold lexC at h1 ⊢
    split at h1
    · rw [if_pos (by omega)]; omega
    · split at h1
      · omega
      · rw [if_neg (by omega), if_neg (by omega)]; exact lexC_snoc i (by simpa using h) h1
/-- The order of lists by how long they are, from the longest one on, and then the lexicographic one. -/
def lfO (a b : List Nat) : Int := if b.length < a.length then -1 else if a.length < b.length then 1 else lexC a b
theorem lfO_le {a b : List Nat} : lfO a b ≤ 0 ↔ b.length ≤ a.length ∧ (b.length = a.length → lexC a b ≤ 0) := by
  unfold lfO
  split
  · constructor
    · intro _; exact ⟨by omega, fun h => by omega⟩
    · intro _; omega
  · split
    · constructor
      · intro h; omega
      · intro h; omega
    · constructor
      · intro h; exact ⟨by omega, fun _ => h⟩
      · intro h; exact h.2 (by omega)
theorem lfO_neg (a b : List Nat) : lfO a b < 0 ↔ 0 < lfO b a := by
  unfold lfO
  by_cases h1 : b.length < a.length
  · rw [if_pos h1, if_neg (by omega), if_pos h1]; omega
  · rw [if_neg h1]
    by_cases h2 : a.length < b.length
    · rw [if_pos h2, if_pos h2]; omega
    · rw [if_neg h2, if_neg h2, if_neg h1]; exact lexC_neg a b
theorem lfO_self (a : List Nat) : lfO a a = 0 := by
  unfold lfO; rw [if_neg (by omega), if_neg (by omega)]; exact lexC_self a
theorem lfO_trans {a b c : List Nat} (h1 : lfO a b ≤ 0) (h2 : lfO b c ≤ 0) : lfO a c ≤ 0 := by
  rw [lfO_le] at *
  refine ⟨by omega, fun h => ?_⟩
  exact lexC_trans (h1.2 (by omega)) (h2.2 (by omega))
theorem lfO_eq {a b : List Nat} (h1 : lfO a b ≤ 0) (h2 : lfO b a ≤ 0) : a = b := by
  rw [lfO_le] at *
  have e := h1.2 (by omega)
  have e2 := h2.2 (by omega)
  have : ¬ lexC a b < 0 := fun h => by rw [lexC_neg] at h; omega
  exact lexC_eq (by omega)
/-- The first one in the order; nothing of nothing. -/
def bestBy (acc : Option (List Nat)) (x : List Nat) : Option (List Nat) := match acc with | none => some x | some p => if lfO x p < 0 then some x else some p
def bestO (l : List (List Nat)) : Option (List Nat) := l.foldl bestBy none
def bestL (l : List (List Nat)) : List Nat := (bestO l).getD []
theorem bestO_snoc (l : List (List Nat)) (x : List Nat) : bestO (l ++ [x]) = bestBy (bestO l) x := by simp [bestO]
theorem best_spec : ∀ (l : List (List Nat)), (l = [] ∧ bestO l = none) ∨ ∃ p, bestO l = some p ∧ p ∈ l ∧ ∀ x ∈ l, lfO p x ≤ 0 := by
  have key : ∀ (n : Nat) (l : List (List Nat)), l.length = n → (l = [] ∧ bestO l = none) ∨ ∃ p, bestO l = some p ∧ p ∈ l ∧ ∀ x ∈ l, lfO p x ≤ 0 := by
    intro n
    induction n with
    | zero => intro l h; have := List.eq_nil_of_length_eq_zero h; subst this; exact .inl ⟨rfl, rfl⟩
    | succ n ih =>
      intro l h
      obtain ⟨m, x, rfl⟩ : ∃ m x, l = m ++ [x] := ⟨l.dropLast, l.getLast (fun e => by subst e; simp at h), (List.dropLast_concat_getLast _).symm⟩
      right
      rw [bestO_snoc]
      rcases ih m (by simpa using h) with ⟨rfl, h2⟩ | ⟨p, h2, h3, h4⟩
      · rw [h2]
        exact ⟨x, rfl, by simp, fun y hy => by simp at hy; subst hy; rw [lfO_self]; omega⟩
      · rw [h2]
        unfold bestBy
        dsimp only
        split
        · rename_i hx
          refine ⟨x, rfl, by simp, fun y hy => ?_⟩
          rcases List.mem_append.1 hy with hy | hy
          · exact lfO_trans (by omega) (h4 y hy)
          · simp at hy; subst hy; rw [lfO_self]; omega
        · rename_i hx
          refine ⟨p, rfl, by simp [h3], fun y hy => ?_⟩
          rcases List.mem_append.1 hy with hy | hy
          · exact h4 y hy
          · simp at hy; subst hy
            have : ¬ 0 < lfO p y := fun h => hx ((lfO_neg y p).2 h)
            omega
  exact fun l => key l.length l rfl
/-- The last log of a run. -/
def lastR (r : List Nat) : Nat := r.getLast?.getD 0
def canEnd (row : List Int) (i : Nat) (r : List Nat) : Bool := decide (rAt row i < rAt row (lastR r))
def endM (row : List Int) (i : Nat) (rs : List (List Nat)) : List Nat := bestL (rs.filter (canEnd row i)) ++ [i]
def runsTo (row : List Int) : Nat → List (List Nat)
  | 0 => []
  | k + 1 => runsTo row k ++ [endM row k (runsTo row k)]
def longM (row : List Int) : List Nat := bestL (runsTo row row.length)
theorem lastR_snoc (r : List Nat) (i : Nat) : lastR (r ++ [i]) = i := by simp [lastR]
theorem snoc_of {r : List Nat} (h : r ≠ []) : ∃ q, r = q ++ [lastR r] := by
  refine ⟨r.dropLast, ?_⟩
  have := (List.dropLast_concat_getLast h).symm
  unfold lastR
  rw [List.getLast?_eq_some_getLast h]
  exact this
theorem runs_len (row : List Int) (k : Nat) : (runsTo row k).length = k := by
  induction k with
  | zero => rfl
  | succ k ih => simp [runsTo, ih]
/-- A run is one of a shorter run and a later log that can end it. -/
theorem run_snoc {row : List Int} {q : List Nat} {i : Nat} : IsRun row (q ++ [i]) ↔ IsRun row q ∧ i < row.length ∧ (q ≠ [] → lastR q < i ∧ rAt row i < rAt row (lastR q)) := by
  unfold IsRun
  rw [List.pairwise_append]
  constructor
  · rintro ⟨⟨h1, -, h2⟩, h3⟩
    refine ⟨⟨h1, fun x hx => h3 x (List.mem_append_left _ hx)⟩, h3 i (by simp), fun hq => ?_⟩
    obtain ⟨p, hp⟩ := snoc_of hq
    have := h2 (lastR q) (by rw [hp]; simp [lastR_snoc]) i (by simp)
    exact ⟨this.1, this.2.2⟩
  · rintro ⟨⟨h1, h2⟩, h3, h4⟩
    refine ⟨⟨h1, by simp, fun a ha b hb => ?_⟩, fun x hx => ?_⟩
    · simp at hb; subst hb
      have hq : q ≠ [] := fun e => by subst e; cases ha
      obtain ⟨h5, h6⟩ := h4 hq
      obtain ⟨p, hp⟩ := snoc_of hq
      rw [hp] at ha h1
      rcases List.mem_append.1 ha with ha | ha
      · have := (List.pairwise_append.1 h1).2.2 a ha (lastR q) (by simp)
        exact ⟨by omega, h3, by omega⟩
      · simp at ha; subst ha; exact ⟨h5, h3, h6⟩
    · rcases List.mem_append.1 hx with hx | hx
      · exact h2 x hx
      · simp at hx; subst hx; exact h3
/-- The best run of those that end with a log. -/
structure BestEnd (row : List Int) (i : Nat) (e : List Nat) : Prop where
  ne : e ≠ []
  run : IsRun row e
  last : lastR e = i
  best : ∀ r, IsRun row r → r ≠ [] → lastR r = i → lfO e r ≤ 0
theorem runs_get {row : List Int} {k : Nat} : ∀ {i : Nat}, i < k → (runsTo row k)[i]? = some (endM row i (runsTo row i)) := by
  induction k with
  | zero => intro i h; omega
  | succ k ih =>
    intro i h
    show (runsTo row k ++ [endM row k (runsTo row k)])[i]? = _
    rcases Nat.lt_or_eq_of_le (Nat.le_of_lt_succ h) with h1 | rfl
    · rw [List.getElem?_append_left (by rw [runs_len]; exact h1)]; exact ih h1
    · rw [List.getElem?_append_right (by rw [runs_len]; exact Nat.le_refl _), runs_len]; simp
theorem runs_mem {row : List Int} {k : Nat} {e : List Nat} : e ∈ runsTo row k ↔ ∃ i, i < k ∧ e = endM row i (runsTo row i) := by
  rw [List.mem_iff_getElem?]
  constructor
  · rintro ⟨i, h⟩
    have hi : i < k := by have := (List.getElem?_eq_some_iff.1 h).1; rwa [runs_len] at this
    rw [runs_get hi] at h
    cases h; exact ⟨i, hi, rfl⟩
  · rintro ⟨i, hi, rfl⟩; exact ⟨i, runs_get hi⟩
theorem end_best {row : List Int} : ∀ (k i : Nat), i < k → i < row.length → BestEnd row i (endM row i (runsTo row i)) := by
  intro k
  induction k with
  | zero => intro i h; omega
  | succ k ih =>
    intro i hik hi
    have hE : ∀ j, j < i → BestEnd row j (endM row j (runsTo row j)) := fun j hj => ih j (by omega) (by omega)
    have hb := best_spec ((runsTo row i).filter (canEnd row i))
    obtain ⟨b, hbe⟩ : ∃ b, b = bestL ((runsTo row i).filter (canEnd row i)) := ⟨_, rfl⟩
    have e : endM row i (runsTo row i) = b ++ [i] := by unfold endM; rw [hbe]
    rw [e]
    have hbr : IsRun row b ∧ (b ≠ [] → lastR b < i ∧ rAt row i < rAt row (lastR b)) := by
      unfold bestL at hbe
      rcases hb with ⟨-, h1⟩ | ⟨p, h1, h2, -⟩
      · rw [h1] at hbe
        subst hbe
        exact ⟨⟨List.Pairwise.nil, fun x hx => by cases hx⟩, fun h => absurd rfl h⟩
      · rw [h1] at hbe
        have : b = p := hbe
        subst this
        rw [List.mem_filter, runs_mem] at h2
        obtain ⟨⟨j, hj, rfl⟩, h3⟩ := h2
        have h4 := hE j hj
        refine ⟨h4.run, fun _ => ?_⟩
        rw [h4.last]
        refine ⟨hj, ?_⟩
        have := of_decide_eq_true h3
        rwa [h4.last] at this
    refine ⟨by simp, run_snoc.2 ⟨hbr.1, hi, hbr.2⟩, lastR_snoc _ _, fun r hr hne hl => ?_⟩
    obtain ⟨q, hq⟩ := snoc_of hne
    rw [hl] at hq
    subst hq
    obtain ⟨hq1, -, hq2⟩ := run_snoc.1 hr
    by_cases hqn : q = []
    · subst hqn
      rw [lfO_le]
      refine ⟨by simp, fun h => ?_⟩
      have : b = [] := by
        cases b with
        | nil => rfl
        | cons x l => simp at h
      rw [this, lexC_self]
      omega
    · obtain ⟨h5, h6⟩ := hq2 hqn
      have h7 := hE (lastR q) h5
      have h8 := h7.best q hq1 hqn rfl
      have h9 : endM row (lastR q) (runsTo row (lastR q)) ∈ (runsTo row i).filter (canEnd row i) := by
        rw [List.mem_filter, runs_mem]
        refine ⟨⟨_, h5, rfl⟩, ?_⟩
        unfold canEnd
        rw [h7.last]
        exact decide_eq_true h6
      have h10 : lfO b (endM row (lastR q) (runsTo row (lastR q))) ≤ 0 := by
        rcases hb with ⟨h1, -⟩ | ⟨p, h1, -, h2⟩
        · rw [h1] at h9; cases h9
        · have : b = p := by rw [hbe]; unfold bestL; rw [h1]; rfl
          rw [this]; exact h2 _ h9
      have h11 := lfO_trans h10 h8
      rw [lfO_le] at h11 ⊢
      simp only [List.length_append, List.length_cons, List.length_nil]
      exact ⟨by omega, fun h => lexC_snoc i (by omega) (h11.2 (by omega))⟩
/-- The longest run, the first one of several. -/
structure IsLong (row : List Int) (r : List Nat) : Prop where
  run : IsRun row r
  best : ∀ r', IsRun row r' → lfO r r' ≤ 0
theorem IsLong.unique {row : List Int} {a b : List Nat} (ha : IsLong row a) (hb : IsLong row b) : a = b := lfO_eq (ha.best b hb.run) (hb.best a ha.run)
theorem run_nil (row : List Int) : IsRun row [] := ⟨List.Pairwise.nil, fun x hx => by cases hx⟩
theorem lfO_nil (a : List Nat) : lfO a [] ≤ 0 := by
  rw [lfO_le]
  refine ⟨by simp, fun h => ?_⟩
  have : a = [] := List.eq_nil_of_length_eq_zero h.symm
  subst this; simp [lexC]
theorem long_is (row : List Int) : IsLong row (longM row) := by
  have hE : ∀ j, j < row.length → BestEnd row j (endM row j (runsTo row j)) := fun j hj => end_best (j + 1) j (by omega) hj
  have hb := best_spec (runsTo row row.length)
  unfold longM bestL
  rcases hb with ⟨h0, h1⟩ | ⟨p, h1, h2, h3⟩
  · rw [h1]
    have hn : row.length = 0 := by rw [← runs_len row row.length, h0]; rfl
    refine ⟨run_nil row, fun r hr => ?_⟩
    have : r = [] := by
      cases r with
      | nil => rfl
      | cons x l => have := hr.2 x (by simp); omega
    subst this
    exact lfO_nil _
  · rw [h1]
    show IsLong row p
    obtain ⟨j, hj, hp⟩ := runs_mem.1 h2
    refine ⟨by rw [hp]; exact (hE j hj).run, fun r hr => ?_⟩
    by_cases hrn : r = []
    · subst hrn; exact lfO_nil _
    · have hl : lastR r < row.length := by
        obtain ⟨q, hq⟩ := snoc_of hrn
        exact hr.2 _ (by rw [hq]; simp [lastR_snoc])
      exact lfO_trans (h3 _ (runs_mem.2 ⟨_, hl, rfl⟩)) ((hE _ hl).best r hr hrn rfl)
/-- The reference: how long a run from a log on can be. -/
def lgIn (row : List Int) (i : Nat) (long : List Int) (ks : List Nat) : Int := ks.foldl (fun a k => if rAt row k < rAt row i then max a (tAt long k + 1) else a) 1
/-- Logs from n - k on are done. -/
def lgTo (row : List Int) : Nat → List Int
  | 0 => List.replicate row.length 0
  | k + 1 => (lgTo row k).set (row.length - (k + 1)) (lgIn row (row.length - (k + 1)) (lgTo row k) (List.range' (row.length - k) k))
def bestTo (row : List Int) : Nat → Int
  | 0 => 0
  | k + 1 => max (bestTo row k) (tAt (lgTo row (k + 1)) (row.length - (k + 1)))
def outS (row : List Int) (long : List Int) (best : Int) (o : List Nat) (i : Nat) : List Nat := if tAt long i = best - (o.length : Int) ∧ (o = [] ∨ rAt row i < rAt row (lastR o)) then o ++ [i] else o
def outTo (row : List Int) (long : List Int) (best : Int) (k : Nat) : List Nat := (List.range k).foldl (outS row long best) []
def longR (row : List Int) : List Nat := outTo row (lgTo row row.length) (bestTo row row.length) row.length
/-- A run from a log on. -/
def FromL (row : List Int) (i : Nat) (c : Int) : Prop := (∃ r, IsRun row (i :: r) ∧ ((i :: r).length : Int) = c) ∧ ∀ r, IsRun row (i :: r) → ((i :: r).length : Int) ≤ c
theorem run_cons {row : List Int} {i k : Nat} {r : List Nat} : IsRun row (i :: k :: r) ↔ IsRun row (k :: r) ∧ i < k ∧ rAt row k < rAt row i := by
  unfold IsRun
  rw [List.pairwise_cons]
  constructor
  · rintro ⟨⟨h1, h2⟩, h3⟩
    exact ⟨⟨h2, fun x hx => h3 x (List.mem_cons_of_mem _ hx)⟩, (h1 k (by simp)).1, (h1 k (by simp)).2.2⟩
  · rintro ⟨⟨h1, h2⟩, h3, h4⟩
    have hk := h2 k (by simp)
    refine ⟨⟨fun x hx => ?_, h1⟩, fun x hx => ?_⟩
    · rcases List.mem_cons.1 hx with rfl | hx
      · exact ⟨h3, hk, h4⟩
      · have := (List.pairwise_cons.1 h1).1 x hx
        exact ⟨by omega, this.2.1, by omega⟩
    · rcases List.mem_cons.1 hx with rfl | hx
      · omega
      · exact h2 x hx
theorem lgIn_spec {row : List Int} {i : Nat} (hi : i < row.length) {long : List Int} : ∀ (ks : List Nat), (∀ k ∈ ks, i < k ∧ k < row.length ∧ FromL row k (tAt long k)) →
    (∃ r, IsRun row (i :: r) ∧ ((i :: r).length : Int) = lgIn row i long ks) ∧ ∀ k r, k ∈ ks → IsRun row (i :: k :: r) → ((i :: k :: r).length : Int) ≤ lgIn row i long ks ∧ 1 ≤ lgIn row i long ks := by
  intro ks hks
  have key : ∀ (n : Nat) (ks : List Nat), ks.length = n → (∀ k ∈ ks, i < k ∧ k < row.length ∧ FromL row k (tAt long k)) →
    (∃ r, IsRun row (i :: r) ∧ ((i :: r).length : Int) = lgIn row i long ks) ∧ (∀ k r, k ∈ ks → IsRun row (i :: k :: r) → ((i :: k :: r).length : Int) ≤ lgIn row i long ks) ∧ 1 ≤ lgIn row i long ks := by
    intro n
    induction n with
    | zero =>
      intro ks h _
      have := List.eq_nil_of_length_eq_zero h
      subst this
      refine ⟨⟨[], ⟨by simp, fun x hx => (by simp at hx; subst hx; exact hi)⟩, rfl⟩, fun k r h => (by cases h), by show (1 : Int) ≤ 1; omega⟩
    | succ n ih =>
      intro l h hl
      obtain ⟨m, x, rfl⟩ : ∃ m x, l = m ++ [x] := ⟨l.dropLast, l.getLast (fun e => by subst e; simp at h), (List.dropLast_concat_getLast _).symm⟩
      obtain ⟨⟨r, h1, h2⟩, h3, h4⟩ := ih m (by simpa using h) (fun k hk => hl k (List.mem_append_left _ hk))
      obtain ⟨hx1, hx2, ⟨⟨rx, hx3, hx4⟩, hx5⟩⟩ := hl x (by simp)
      have e : lgIn row i long (m ++ [x]) = if rAt row x < rAt row i then max (lgIn row i long m) (tAt long x + 1) else lgIn row i long m := by
        unfold lgIn; rw [List.foldl_append]; rfl
      rw [e]
      split
      · rename_i hlt
        refine ⟨?_, fun k r hk hr => ?_, by omega⟩
        · by_cases hc : tAt long x + 1 ≤ lgIn row i long m
          · exact ⟨r, h1, by rw [h2]; omega⟩
          · refine ⟨x :: rx, run_cons.2 ⟨hx3, hx1, hlt⟩, ?_⟩
            simp only [List.length_cons] at hx4 ⊢
            omega
        · rcases List.mem_append.1 hk with hk | hk
          · have := h3 k r hk hr; omega
          · simp at hk; subst hk
            have := hx5 r (run_cons.1 hr).1
            simp only [List.length_cons] at this ⊢
            omega
      · rename_i hlt
        refine ⟨⟨r, h1, h2⟩, fun k r hk hr => ?_, h4⟩
        rcases List.mem_append.1 hk with hk | hk
        · exact h3 k r hk hr
        · simp at hk; subst hk
          exact absurd (run_cons.1 hr).2.2 hlt
  obtain ⟨h1, h2, h3⟩ := key ks.length ks rfl hks
  exact ⟨h1, fun k r hk hr => ⟨h2 k r hk hr, h3⟩⟩
theorem lgIn_ge (row : List Int) (i : Nat) (long : List Int) : ∀ (ks : List Nat) (a : Int), a ≤ ks.foldl (fun a k => if rAt row k < rAt row i then max a (tAt long k + 1) else a) a
  | [], a => Int.le_refl _
  | k :: ks, a => by
    rw [List.foldl_cons]
    refine Int.le_trans ?_ (lgIn_ge row i long ks _)
    split <;> omega
theorem lgTo_len (row : List Int) (k : Nat) : (lgTo row k).length = row.length := by
  induction k with
  | zero => simp [lgTo]
  | succ k ih => simp [lgTo, ih]
theorem lg_spec {row : List Int} : ∀ k, k ≤ row.length → ∀ i, row.length - k ≤ i → i < row.length → FromL row i (tAt (lgTo row k) i) := by
  intro k
  induction k with
  | zero => intro _ i h1 h2; omega
  | succ k ih =>
    intro hk i h1 h2
    have e : ∀ j, tAt (lgTo row (k + 1)) j = if j = row.length - (k + 1) then lgIn row (row.length - (k + 1)) (lgTo row k) (List.range' (row.length - k) k) else tAt (lgTo row k) j := fun j => by
      show tAt ((lgTo row k).set _ _) j = _
      exact tAt_set _ _ _ _ (by rw [lgTo_len]; omega)
    rw [e]
    split
    · rename_i hi
      subst hi
      have hks : ∀ j ∈ List.range' (row.length - k) k, row.length - (k + 1) < j ∧ j < row.length ∧ FromL row j (tAt (lgTo row k) j) := fun j hj => by
        rw [List.mem_range'_1] at hj
        exact ⟨by omega, by omega, ih (by omega) j (by omega) (by omega)⟩
      obtain ⟨g1, g2⟩ := lgIn_spec h2 _ hks
      refine ⟨g1, fun r hr => ?_⟩
      cases r with
      | nil =>
        have := lgIn_ge row (row.length - (k + 1)) (lgTo row k) (List.range' (row.length - k) k) 1
        unfold lgIn
        simpa using this
      | cons j r =>
        have hj := (run_cons.1 hr).2.1
        have hjl := hr.2 j (by simp)
        exact (g2 j r (by rw [List.mem_range'_1]; omega) hr).1
    · exact ih (by omega) i (by omega) h2
theorem lg_same {row : List Int} (i : Nat) : ∀ k k', k ≤ k' → k' ≤ row.length → row.length - k ≤ i → i < row.length → tAt (lgTo row k') i = tAt (lgTo row k) i := by
  intro k k' h h1 h2 h3
  obtain ⟨⟨r, q1, q2⟩, q3⟩ := lg_spec k (by omega) i h2 h3
  obtain ⟨⟨r', q1', q2'⟩, q3'⟩ := lg_spec k' h1 i (by omega) h3
  have := q3 r' q1'
  have := q3' r q1
  omega
theorem best_ge {row : List Int} : ∀ k, k ≤ row.length → ∀ i, row.length - k ≤ i → i < row.length → tAt (lgTo row row.length) i ≤ bestTo row k := by
  intro k
  induction k with
  | zero => intro _ i h1 h2; omega
  | succ k ih =>
    intro hk i h1 h2
    unfold bestTo
    by_cases hi : i = row.length - (k + 1)
    · subst hi
      rw [lg_same _ (k + 1) row.length hk (Nat.le_refl _) (Nat.le_refl _) h2]
      omega
    · have := ih (by omega) i (by omega) h2; omega
theorem best_is {row : List Int} : ∀ k, k ≤ row.length → (bestTo row k = 0) ∨ ∃ i, i < row.length ∧ bestTo row k = tAt (lgTo row row.length) i := by
  intro k
  induction k with
  | zero => intro _; exact .inl rfl
  | succ k ih =>
    intro hk
    have e := lg_same (row := row) (row.length - (k + 1)) (k + 1) row.length hk (Nat.le_refl _) (Nat.le_refl _) (by omega)
    unfold bestTo
    rcases Int.le_total (bestTo row k) (tAt (lgTo row (k + 1)) (row.length - (k + 1))) with h | h
    · right; exact ⟨row.length - (k + 1), by omega, by rw [e]; omega⟩
    · rcases ih (by omega) with h1 | ⟨i, h1, h2⟩
      · left; omega
      · right; exact ⟨i, h1, by omega⟩
/-- What is put out so far. -/
structure Out (row : List Int) (best : Int) (i : Nat) (o : List Nat) : Prop where
  run : IsRun row o
  lt : ∀ x ∈ o, x < i
  rest : (o.length : Int) = best ∨ ∃ r, r ≠ [] ∧ IsRun row (o ++ r) ∧ ((o ++ r).length : Int) = best ∧ ∀ x ∈ r, i ≤ x
  first : ∀ r', IsRun row r' → (r'.length : Int) = best → (∃ a b x y, x < y ∧ o.take a.length = a ∧ (∃ u, o = a ++ x :: u) ∧ r' = a ++ y :: b) ∨ ∃ q, r' = o ++ q ∧ ∀ x ∈ q, i ≤ x
theorem out_step {row : List Int} {best : Int} (hb : ∀ r, IsRun row r → (r.length : Int) ≤ best) {i : Nat} (hi : i < row.length) {o : List Nat} (h : Out row best i o) : Out row best (i + 1) (outS row (lgTo row row.length) best o i) := by
  have hf := lg_spec row.length (Nat.le_refl _) i (by omega) hi
  have happ : ∀ {o r : List Nat}, IsRun row (o ++ r) → IsRun row r := fun {o r} hr => ⟨(List.pairwise_append.1 hr.1).2.1, fun x hx => hr.2 x (List.mem_append_right _ hx)⟩
  have hjoin : ∀ {r : List Nat}, IsRun row (i :: r) → (o = [] ∨ rAt row i < rAt row (lastR o)) → IsRun row (o ++ i :: r) := fun {r} hr ho => by
    refine ⟨List.pairwise_append.2 ⟨h.run.1, hr.1, fun a ha b hb => ?_⟩, fun x hx => ?_⟩
    · have hne : o ≠ [] := fun e => by subst e; cases ha
      have hlo : rAt row i < rAt row (lastR o) := ho.resolve_left hne
      obtain ⟨p, hp⟩ := snoc_of hne
      have h1 : a ≤ lastR o ∧ rAt row (lastR o) ≤ rAt row a := by
        rw [hp] at ha
        rcases List.mem_append.1 ha with ha | ha
        · have h2 := h.run.1
          rw [hp] at h2
          have := (List.pairwise_append.1 h2).2.2 a ha (lastR o) (by simp)
          exact ⟨by omega, by omega⟩
        · simp at ha; subst ha; exact ⟨Nat.le_refl _, Int.le_refl _⟩
      have h3 := h.lt (lastR o) (by conv => lhs; rw [hp]
                                    simp [lastR_snoc])
      have h4 : i ≤ b ∧ rAt row b ≤ rAt row i := by
        rcases List.mem_cons.1 hb with rfl | hb
        · exact ⟨Nat.le_refl _, Int.le_refl _⟩
        · have := (List.pairwise_cons.1 hr.1).1 b hb
          exact ⟨by omega, by omega⟩
      exact ⟨by omega, hr.2 b hb, by omega⟩
    · rcases List.mem_append.1 hx with hx | hx
      · exact h.run.2 x hx
      · exact hr.2 x hx
  have hend : ∀ {q : List Nat} {x : Nat}, IsRun row (o ++ x :: q) → o = [] ∨ rAt row x < rAt row (lastR o) := fun {q x} hr => by
    by_cases hne : o = []
    · exact .inl hne
    · right
      obtain ⟨p, hp⟩ := snoc_of hne
      exact ((List.pairwise_append.1 hr.1).2.2 (lastR o) (by conv => lhs; rw [hp]
                                                             simp [lastR_snoc]) x (by simp)).2.2
  unfold outS
  split
  · rename_i hc
    obtain ⟨⟨r, h1, h2⟩, h3⟩ := hf
    have hjr := hjoin h1 hc.2
    refine ⟨?_, fun x hx => ?_, ?_, fun r' hr' hl' => ?_⟩
    · exact ⟨by have := hjr.1; rw [show o ++ i :: r = (o ++ [i]) ++ r by simp] at this; exact (List.pairwise_append.1 this).1, fun x hx => hjr.2 x (by
        rw [show o ++ i :: r = (o ++ [i]) ++ r by simp]; exact List.mem_append_left _ hx)⟩
    · rcases List.mem_append.1 hx with hx | hx
      · have := h.lt x hx; omega
      · simp at hx; omega
    · by_cases hr0 : r = []
      · left
        subst hr0
        simp only [List.length_cons, List.length_nil, List.length_append] at h2 ⊢
        omega
      · right
        refine ⟨r, hr0, by rw [List.append_assoc]; exact hjr, ?_, fun x hx => ?_⟩
        · simp only [List.length_cons, List.length_append, List.length_nil] at h2 ⊢
          omega
        · have := (List.pairwise_cons.1 h1.1).1 x hx
          omega
    · rcases h.first r' hr' hl' with ⟨a, b, x, y, q1, q2, ⟨u, q3⟩, q4⟩ | ⟨q, q1, q2⟩
      · left
        refine ⟨a, b, x, y, q1, ?_, ⟨u ++ [i], by rw [q3]; simp⟩, q4⟩
        rw [q3]; simp
      · match q, q1, q2 with
        | [], q1, q2 =>
          exfalso
          rw [List.append_nil] at q1
          rw [q1] at hl'
          simp only [List.length_cons] at h2
          omega
        | y :: q, q1, q2 =>
          have hy := q2 y (by simp)
          by_cases hyi : y = i
          · subst hyi
            right
            refine ⟨q, by rw [q1]; simp, fun x hx => ?_⟩
            rw [q1] at hr'
            have := (List.pairwise_cons.1 (happ hr').1).1 x hx
            omega
          · left
            exact ⟨o, q, i, y, by omega, by simp, ⟨[], by simp⟩, q1⟩
  · rename_i hc
    -- a longest run that goes on with this log would have let it in
    have hno : ∀ {q : List Nat}, IsRun row (o ++ i :: q) → ((o ++ i :: q).length : Int) = best → False := fun {q} hr hl => by
      apply hc
      have ho := hend hr
      refine ⟨?_, ho⟩
      obtain ⟨⟨r, h1, h2⟩, h3⟩ := hf
      have h4 := h3 q (happ hr)
      have h5 := hb _ (hjoin h1 ho)
      simp only [List.length_append, List.length_cons] at h2 h4 h5 hl
      omega
    refine ⟨h.run, fun x hx => by have := h.lt x hx; omega, ?_, fun r' hr' hl' => ?_⟩
    · rcases h.rest with h1 | ⟨r, h1, h2, h3, h4⟩
      · exact .inl h1
      · right
        refine ⟨r, h1, h2, h3, fun x hx => ?_⟩
        have hx4 := h4 x hx
        apply Classical.byContradiction
        intro hn
        have hxi : x = i := by omega
        match r, h1, h2, h3, h4, hx with
        | y :: r, _, h2, h3, h4, hx =>
          have hy := h4 y (by simp)
          have : y = i := by
            rcases List.mem_cons.1 hx with e | hx
            · omega
            · have := (List.pairwise_cons.1 (happ h2).1).1 x hx
              omega
          subst this
          exact hno h2 h3
    · rcases h.first r' hr' hl' with h1 | ⟨q, q1, q2⟩
      · exact .inl h1
      · right
        refine ⟨q, q1, fun x hx => ?_⟩
        have hx2 := q2 x hx
        apply Classical.byContradiction
        intro hn
        have hxi : x = i := by omega
        match q, q1, q2, hx with
        | y :: q, q1, q2, hx =>
          have hy := q2 y (by simp)
          rw [q1] at hr' hl'
          have : y = i := by
            rcases List.mem_cons.1 hx with e | hx
            · omega
            · have := (List.pairwise_cons.1 (happ hr').1).1 x hx
              omega
          subst this
          exact hno hr' hl'
theorem lexC_first : ∀ (a u b : List Nat) (x y : Nat), x < y → lexC (a ++ x :: u) (a ++ y :: b) ≤ 0
  | [], u, b, x, y, h => by simp only [List.nil_append]; unfold lexC; rw [if_pos h]; omega
  | z :: a, u, b, x, y, h => by simp only [List.cons_append]; unfold lexC; rw [if_neg (by omega), if_neg (by omega)]; exact lexC_first a u b x y h
theorem longR_is (row : List Int) : IsLong row (longR row) := by
  obtain ⟨best, hbe⟩ : ∃ b, b = bestTo row row.length := ⟨_, rfl⟩
  have hb : ∀ r, IsRun row r → (r.length : Int) ≤ best := by
    intro r hr
    cases r with
    | nil =>
      have : (0 : Int) ≤ best := by
        rw [hbe]
        have : ∀ k, 0 ≤ bestTo row k := fun k => by
          induction k with
          | zero => exact Int.le_refl _
          | succ k ih => unfold bestTo; omega
        exact this _
      simpa using this
    | cons i r =>
      have hi := hr.2 i (by simp)
      have h1 := (lg_spec row.length (Nat.le_refl _) i (by omega) hi).2 r hr
      have h2 := best_ge row.length (Nat.le_refl _) i (by omega) hi
      omega
  have hex : ∃ r, IsRun row r ∧ (r.length : Int) = best := by
    rcases best_is (row := row) row.length (Nat.le_refl _) with h | ⟨i, hi, h⟩
    · exact ⟨[], run_nil row, by rw [hbe, h]; rfl⟩
    · obtain ⟨⟨r, h1, h2⟩, -⟩ := lg_spec row.length (Nat.le_refl _) i (by omega) hi
      exact ⟨i :: r, h1, by rw [hbe, h]; exact h2⟩
  have hO : ∀ k, k ≤ row.length → Out row best k (outTo row (lgTo row row.length) best k) := by
    intro k
    induction k with
    | zero =>
      intro _
      refine ⟨run_nil row, fun x hx => (by cases hx), ?_, fun r' _ _ => .inr ⟨r', rfl, fun x _ => Nat.zero_le _⟩⟩
      obtain ⟨r, h1, h2⟩ := hex
      by_cases hr : r = []
      · left; subst hr; exact h2
      · right; exact ⟨r, hr, h1, h2, fun x _ => Nat.zero_le _⟩
    | succ k ih =>
      intro hk
      have e : outTo row (lgTo row row.length) best (k + 1) = outS row (lgTo row row.length) best (outTo row (lgTo row row.length) best k) k := by
        unfold outTo; rw [List.range_succ, List.foldl_append]; rfl
      rw [e]
      exact out_step hb (by omega) (ih (by omega))
  have h := hO row.length (Nat.le_refl _)
  have e : longR row = outTo row (lgTo row row.length) best row.length := by unfold longR; rw [hbe]
  rw [e]
  have hlen : ((outTo row (lgTo row row.length) best row.length).length : Int) = best := by
    rcases h.rest with h1 | ⟨r, h1, h2, h3, h4⟩
    · exact h1
    · exfalso
      match r, h1, h2, h4 with
      | y :: r, _, h2, h4 =>
        have := h4 y (by simp)
        have := h2.2 y (by simp)
        omega
  refine ⟨h.run, fun r' hr' => ?_⟩
  rw [lfO_le]
  have h1 := hb r' hr'
  refine ⟨by omega, fun hl => ?_⟩
  rcases h.first r' hr' (by omega) with ⟨a, b, x, y, q1, -, ⟨u, q3⟩, q4⟩ | ⟨q, q1, q2⟩
  · rw [q3, q4]; exact lexC_first a u b x y q1
  · have : q = [] := by
      have := congrArg List.length q1
      rw [List.length_append] at this
      exact List.eq_nil_of_length_eq_zero (by omega)
    rw [q1, this, List.append_nil, lexC_self]; omega
/-- Both find the same run. -/
theorem long_eq (row : List Int) : longM row = longR row := (long_is row).unique (longR_is row)
end Go.Proofs.Ytclcippfodjfeaa
namespace Go.Proofs.Ytclcippfodjfeaa
set_option linter.unusedVariables false
set_option linter.unusedSimpArgs false
def rowB (row : List Int) : Bool := row.all fun x => decide (1 ≤ x) && decide (x ≤ 1099511627776)
/-- The error of a row. -/
def chkR (row : List Int) : Int := if 30 < row.length then 6 else if rowB row = true then 0 else 3
theorem chkR_ok {row : List Int} : chkR row = 0 ↔ row.length ≤ 30 ∧ ∀ x ∈ row, 1 ≤ x ∧ x ≤ 1099511627776 := by
  unfold chkR rowB
  split
  · constructor
    · intro h; cases h
    · intro h; omega
  · split
    · rename_i h1 h2
      rw [List.all_eq_true] at h2
      refine ⟨fun _ => ⟨by omega, fun x hx => by simpa using h2 x hx⟩, fun _ => rfl⟩
    · rename_i h1 h2
      constructor
      · intro h; cases h
      · intro h
        exfalso
        apply h2
        rw [List.all_eq_true]
        intro x hx
        simpa using h.2 x hx
/-- The error of a row and a number of pockets. -/
def askE (row : List Int) (many : Int) : Int := if chkR row ≠ 0 then chkR row else if 0 ≤ many ∧ many ≤ 30 then 0 else 2
def okAt (row t : List Int) (i : Nat) : Bool := decide (tAt t i < 0) || (List.range i).all fun k => !(tAt t k == tAt t i && decide (rAt row i < rAt row k))
def okTo (row t : List Int) (k : Nat) : Bool := (List.range k).all (okAt row t)
def cntTo (t : List Int) (k : Nat) : Nat := (t.take k).countP fun x => decide (0 ≤ x)
def turnV (row : List Int) (many : Int) (t : List Int) : Int × Int :=
  if askE row many ≠ 0 then (0, askE row many) else if t.length ≠ row.length then (0, 15) else if (t.all fun x => decide (-1 ≤ x) && decide (x ≤ many - 1)) = false then (0, 3) else if okTo row t t.length = false then (0, 16) else ((cntTo t t.length : Int), 0)
theorem okTo_succ (row t : List Int) (k : Nat) : okTo row t (k + 1) = (okTo row t k && okAt row t k) := by simp [okTo, List.range_succ]
theorem take_snocI {t : List Int} {k : Nat} (h : k < t.length) : t.take (k + 1) = t.take k ++ [tAt t k] := by
  rw [List.take_succ_eq_append_getElem h]
  congr 2
  unfold tAt
  rw [List.getD_eq_getElem?_getD, List.getElem?_eq_getElem h]; rfl
theorem cntTo_succ {t : List Int} {k : Nat} (h : k < t.length) : cntTo t (k + 1) = cntTo t k + if 0 ≤ tAt t k then 1 else 0 := by
  unfold cntTo
  rw [take_snocI h, List.countP_append]
  simp [List.countP_cons]
theorem cntTo_le (t : List Int) (k : Nat) : cntTo t k ≤ k := by
  unfold cntTo
  exact Nat.le_trans List.countP_le_length (by simp; omega)
/-- As the program checks a turning: when the last log of each pocket is wanted. -/
structure Tak (row t : List Int) (k : Nat) (last : List Int) : Prop where
  len : last.length = 30
  ge : ∀ j, j < k → 0 ≤ tAt t j → rAt row j ≤ tAt last (tAt t j).toNat
  is : ∀ p, p < 30 → tAt last p = 0 ∨ ∃ j, j < k ∧ tAt t j = (p : Int) ∧ tAt last p = rAt row j
theorem tak_start (row t : List Int) : Tak row t 0 (List.replicate 30 0) :=
  ⟨by simp, fun j h => by omega, fun p hp => .inl (by unfold tAt; rw [List.getD_eq_getElem?_getD, List.getElem?_replicate, if_pos hp]; rfl)⟩
theorem tak_skip {row t : List Int} {k : Nat} {last : List Int} (h : Tak row t k last) (hk : tAt t k < 0) : Tak row t (k + 1) last :=
  ⟨h.len, fun j hj h0 => h.ge j (by rcases Nat.lt_or_eq_of_le (Nat.le_of_lt_succ hj) with h1 | rfl; exact h1; omega) h0, fun p hp => (h.is p hp).imp id fun ⟨j, h1, h2⟩ => ⟨j, by omega, h2⟩⟩
theorem tak_no {row t : List Int} {k : Nat} {last : List Int} (h : Tak row t k last) (h0 : 0 ≤ tAt t k) (h30 : tAt t k < 30) (hlt : rAt row k < tAt last (tAt t k).toNat) (hpos : 0 < rAt row k) : okAt row t k = false := by
  unfold okAt
  rw [Bool.or_eq_false_iff]
  refine ⟨by simpa using h0, ?_⟩
  rw [List.all_eq_false]
  rcases h.is (tAt t k).toNat (by omega) with h1 | ⟨j, h1, h2, h3⟩
  · omega
  · refine ⟨j, List.mem_range.2 h1, ?_⟩
    rw [h3] at hlt
    have : tAt t j = tAt t k := by omega
    simp [this, hlt]
theorem tak_yes {row t : List Int} {k : Nat} {last : List Int} (h : Tak row t k last) (h0 : 0 ≤ tAt t k) (h30 : tAt t k < 30) (hge : tAt last (tAt t k).toNat ≤ rAt row k) : okAt row t k = true ∧ Tak row t (k + 1) (last.set (tAt t k).toNat (rAt row k)) := by
  have hs : ∀ p, tAt (last.set (tAt t k).toNat (rAt row k)) p = if p = (tAt t k).toNat then rAt row k else tAt last p := fun p => tAt_set _ _ _ _ (by rw [h.len]; omega)
  refine ⟨?_, ⟨by simp [h.len], fun j hj hj0 => ?_, fun p hp => ?_⟩⟩
  · unfold okAt
    rw [Bool.or_eq_true]
    right
    rw [List.all_eq_true]
    intro j hj
    have h1 := List.mem_range.1 hj
    rw [Bool.not_eq_true', Bool.eq_false_iff]
    intro hh
    rw [Bool.and_eq_true, beq_iff_eq, decide_eq_true_iff] at hh
    have := h.ge j h1 (by omega)
    rw [hh.1] at this
    omega
  · rw [hs]
    rcases Nat.lt_or_eq_of_le (Nat.le_of_lt_succ hj) with h1 | rfl
    · have := h.ge j h1 hj0
      split
      · rename_i e; rw [e] at this; omega
      · exact this
    · rw [if_pos rfl]; exact Int.le_refl _
  · rw [hs]
    split
    · rename_i e
      right
      exact ⟨k, by omega, by omega, rfl⟩
    · exact (h.is p hp).imp id fun ⟨j, h1, h2⟩ => ⟨j, by omega, h2⟩
/-- A turning that is checked is right. -/
theorem right_of {row t : List Int} {many : Nat} (hl : t.length = row.length) (hb : (t.all fun x => decide (-1 ≤ x) && decide (x ≤ (many : Int) - 1)) = true) (ho : okTo row t t.length = true) : Right row many t := by
  rw [List.all_eq_true] at hb
  have hm : ∀ j, j < t.length → tAt t j ∈ t := fun j hj => by
    unfold tAt
    rw [List.getD_eq_getElem?_getD, List.getElem?_eq_getElem hj]
    exact List.getElem_mem hj
  refine ⟨hl, fun j hj => ?_, fun j k hj hkj h0 he => ?_⟩
  · have := hb _ (hm j (by omega))
    simp at this; omega
  · unfold okTo at ho
    rw [List.all_eq_true] at ho
    have h1 := ho j (List.mem_range.2 (by omega))
    unfold okAt at h1
    rw [Bool.or_eq_true, List.all_eq_true] at h1
    rcases h1 with h1 | h1
    · have := of_decide_eq_true h1; omega
    · have h2 := h1 k (List.mem_range.2 hkj)
      rw [Bool.not_eq_true', Bool.eq_false_iff] at h2
      apply Classical.byContradiction
      intro hn
      exact h2 (by simp [he]; omega)
theorem of_right {row t : List Int} {many : Nat} (h : Right row many t) : (t.all fun x => decide (-1 ≤ x) && decide (x ≤ (many : Int) - 1)) = true ∧ okTo row t t.length = true := by
  constructor
  · rw [List.all_eq_true]
    intro x hx
    obtain ⟨j, hj, rfl⟩ := List.getElem_of_mem hx
    have := h.bd j (by rw [← h.len]; exact hj)
    have e : tAt t j = t[j] := by unfold tAt; rw [List.getD_eq_getElem?_getD, List.getElem?_eq_getElem hj]; rfl
    rw [e] at this
    simp; omega
  · unfold okTo
    rw [List.all_eq_true]
    intro j hj
    have hj2 := List.mem_range.1 hj
    unfold okAt
    rw [Bool.or_eq_true, List.all_eq_true]
    by_cases h0 : tAt t j < 0
    · exact .inl (decide_eq_true h0)
    · right
      intro k hk
      have hk2 := List.mem_range.1 hk
      rw [Bool.not_eq_true', Bool.eq_false_iff]
      intro hh
      rw [Bool.and_eq_true, beq_iff_eq, decide_eq_true_iff] at hh
      have := h.inc j k (by rw [← h.len]; exact hj2) hk2 (by omega) hh.1
      omega
theorem cnt_taken (t : List Int) : cntTo t t.length = takenB t := by unfold cntTo takenB; rw [List.take_length]
theorem turnV_right {row t : List Int} {many : Nat} (hr : chkR row = 0) (hm : many ≤ 30) (h : Right row many t) : turnV row many t = ((takenB t : Int), 0) := by
  have ha : askE row many = 0 := by unfold askE; rw [if_neg (by simpa using hr), if_pos (by omega)]
  obtain ⟨h1, h2⟩ := of_right h
  unfold turnV
  rw [if_neg (by simpa using ha), if_neg (by simpa using h.len), if_neg (by rw [h1]; simp), if_neg (by rw [h2]; simp), cnt_taken]
theorem right_turnV {row t : List Int} {many : Nat} (hr : chkR row = 0) (hm : many ≤ 30) (h : (turnV row many t).2 = 0) : Right row many t ∧ turnV row many t = ((takenB t : Int), 0) := by
  have ha : askE row many = 0 := by unfold askE; rw [if_neg (by simpa using hr), if_pos (by omega)]
  unfold turnV at h ⊢
  rw [if_neg (by simpa using ha)] at h ⊢
  by_cases h1 : t.length = row.length
  · rw [if_neg (by simpa using h1)] at h ⊢
    by_cases h2 : (t.all fun x => decide (-1 ≤ x) && decide (x ≤ (many : Int) - 1)) = true
    · rw [if_neg (by rw [h2]; simp)] at h ⊢
      by_cases h3 : okTo row t t.length = true
      · rw [if_neg (by rw [h3]; simp)] at h ⊢
        exact ⟨right_of h1 h2 h3, by rw [cnt_taken]⟩
      · rw [if_pos (by simpa using h3)] at h; cases h
    · rw [if_pos (by simpa using h2)] at h; cases h
  · rw [if_pos h1] at h; cases h
/-- The first pocket that can take a log. -/
def firstP (last : List Int) (x : Int) : Nat := (last.takeWhile fun y => decide (x < y)).length
theorem firstP_le (last : List Int) (x : Int) : firstP last x ≤ last.length := (List.takeWhile_sublist _).length_le
theorem firstP_before : ∀ {last : List Int} {x : Int} {q : Nat}, q < firstP last x → x < tAt last q
  | [], x, q, h => by simp [firstP] at h
  | y :: l, x, q, h => by
    unfold firstP at h
    rw [List.takeWhile_cons] at h
    split at h
    · rename_i hy
      cases q with
      | zero => exact of_decide_eq_true hy
      | succ q =>
        simp only [List.length_cons] at h
        exact firstP_before (last := l) (by unfold firstP; omega)
    · simp at h
theorem firstP_at : ∀ {last : List Int} {x : Int}, firstP last x < last.length → tAt last (firstP last x) ≤ x
  | [], x, h => by simp at h
  | y :: l, x, h => by
    unfold firstP at h ⊢
    rw [List.takeWhile_cons] at h ⊢
    split at h
    · rename_i hy
      rw [if_pos hy]
      simp only [List.length_cons] at h ⊢
      exact firstP_at (last := l) (by unfold firstP; omega)
    · rename_i hy
      rw [if_neg hy]
      show y ≤ x
      have : ¬ x < y := fun hh => hy (decide_eq_true hh)
      omega
theorem firstP_of {last : List Int} {x : Int} {p : Nat} (h1 : ∀ q, q < p → x < tAt last q) (h2 : p = last.length ∨ (p < last.length ∧ tAt last p ≤ x)) : firstP last x = p := by
  rcases Nat.lt_trichotomy (firstP last x) p with h | h | h
  · have h3 : firstP last x < last.length := by rcases h2 with h2 | h2 <;> omega
    have := firstP_at h3
    have := h1 _ h
    omega
  · exact h
  · have := firstP_before h
    have := firstP_le last x
    rcases h2 with h2 | h2 <;> omega
def plLast (last : List Int) (x : Int) : List Int := if firstP last x = last.length then last ++ [x] else last.set (firstP last x) x
/-- When the last log of each pocket is wanted, and where logs are turned. -/
def plTo (row : List Int) : Nat → List Int × List Nat
  | 0 => ([], [])
  | k + 1 => (plLast (plTo row k).1 (rAt row k), (plTo row k).2 ++ [firstP (plTo row k).1 (rAt row k)])
def placeM (row : List Int) : List Nat := (plTo row row.length).2
theorem pl_len (row : List Int) (k : Nat) : (plTo row k).2.length = k := by
  induction k with
  | zero => rfl
  | succ k ih => simp [plTo, ih]
theorem pl_last_le (row : List Int) (k : Nat) : (plTo row k).1.length ≤ k := by
  induction k with
  | zero => exact Nat.le_refl _
  | succ k ih =>
    show (plLast _ _).length ≤ _
    unfold plLast
    split
    · simp; omega
    · simp; omega
def nAt (o : List Nat) (i : Nat) : Nat := o.getD i 0
theorem nAt_snoc_lt {o : List Nat} {x i : Nat} (h : i < o.length) : nAt (o ++ [x]) i = nAt o i := by
  unfold nAt
  rw [List.getD_eq_getElem?_getD, List.getD_eq_getElem?_getD, List.getElem?_append_left h]
theorem nAt_snoc_eq (o : List Nat) (x : Nat) : nAt (o ++ [x]) o.length = x := by
  unfold nAt
  rw [List.getD_eq_getElem?_getD, List.getElem?_append_right (Nat.le_refl _)]
  simp
/-- Logs placed so far. -/
structure Pl (row : List Int) (k : Nat) (last : List Int) (o : List Nat) : Prop where
  len : o.length = k
  lt : ∀ i, i < k → nAt o i < last.length
  le : ∀ i, i < k → rAt row i ≤ tAt last (nAt o i)
  is : ∀ p, p < last.length → ∃ i, i < k ∧ nAt o i = p ∧ tAt last p = rAt row i
  inc : ∀ i j, i < k → j < i → nAt o j = nAt o i → rAt row j ≤ rAt row i
  why : ∀ i, i < k → 0 < nAt o i → ∃ j, j < i ∧ nAt o j + 1 = nAt o i ∧ rAt row i < rAt row j
theorem pl_step {row : List Int} {k : Nat} {last : List Int} {o : List Nat} (h : Pl row k last o) : Pl row (k + 1) (plLast last (rAt row k)) (o ++ [firstP last (rAt row k)]) := by
  obtain ⟨p, hp⟩ : ∃ p, p = firstP last (rAt row k) := ⟨_, rfl⟩
  have hple : p ≤ last.length := by rw [hp]; exact firstP_le _ _
  have hbef : ∀ q, q < p → rAt row k < tAt last q := fun q hq => firstP_before (by rw [← hp]; exact hq)
  have hat : p < last.length → tAt last p ≤ rAt row k := fun hlt => by rw [hp] at hlt ⊢; exact firstP_at hlt
  have o1 : ∀ i, i < k → nAt (o ++ [p]) i = nAt o i := fun i hi => nAt_snoc_lt (by rw [h.len]; exact hi)
  have o2 : nAt (o ++ [p]) k = p := by have := nAt_snoc_eq o p; rwa [h.len] at this
  have hl : (plLast last (rAt row k)).length = max last.length (p + 1) := by
    unfold plLast
    rw [← hp]
    split
    · simp; omega
    · simp; omega
  have hv : ∀ q, tAt (plLast last (rAt row k)) q = if q = p then rAt row k else tAt last q := fun q => by
    unfold plLast
    rw [← hp]
    by_cases he : p = last.length
    · rw [if_pos he]
      unfold tAt
      rw [List.getD_eq_getElem?_getD, List.getD_eq_getElem?_getD]
      by_cases hq : q = p
      · rw [if_pos hq, hq, he, List.getElem?_append_right (Nat.le_refl _)]; simp
      · rw [if_neg hq]
        rcases Nat.lt_or_ge q last.length with h1 | h1
        · rw [List.getElem?_append_left h1]
        · rw [List.getElem?_eq_none (by simp; omega), List.getElem?_eq_none (by omega)]
    · rw [if_neg he]
      exact tAt_set _ _ _ _ (by omega)
  rw [← hp]
  refine ⟨by simp [h.len], fun i hi => ?_, fun i hi => ?_, fun q hq => ?_, fun i j hi hj he => ?_, fun i hi h0 => ?_⟩
  · rw [hl]
    rcases Nat.lt_or_eq_of_le (Nat.le_of_lt_succ hi) with h1 | rfl
    · rw [o1 i h1]; have := h.lt i h1; omega
    · rw [o2]; omega
  · rw [hv]
    rcases Nat.lt_or_eq_of_le (Nat.le_of_lt_succ hi) with h1 | rfl
    · rw [o1 i h1]
      have h2 := h.le i h1
      split
      · rename_i e
        have := hat (by have := h.lt i h1; omega)
        rw [e] at h2; omega
      · exact h2
    · rw [o2, if_pos rfl]; exact Int.le_refl _
  · rw [hv]
    by_cases hqp : q = p
    · exact ⟨k, by omega, by rw [o2, hqp], by rw [if_pos hqp]⟩
    · rw [if_neg hqp]
      obtain ⟨i, h1, h2, h3⟩ := h.is q (by rw [hl] at hq; omega)
      exact ⟨i, by omega, by rw [o1 i h1]; exact h2, h3⟩
  · rcases Nat.lt_or_eq_of_le (Nat.le_of_lt_succ hi) with h1 | rfl
    · rw [o1 i h1, o1 j (by omega)] at he
      exact h.inc i j h1 hj he
    · rw [o2, o1 j hj] at he
      have h2 := h.le j hj
      have h3 := h.lt j hj
      rw [he] at h2 h3
      have := hat h3
      omega
  · rcases Nat.lt_or_eq_of_le (Nat.le_of_lt_succ hi) with h1 | rfl
    · rw [o1 i h1] at h0 ⊢
      obtain ⟨j, h2, h3, h4⟩ := h.why i h1 h0
      exact ⟨j, h2, by rw [o1 j (by omega)]; exact h3, h4⟩
    · rw [o2] at h0 ⊢
      obtain ⟨j, h2, h3, h4⟩ := h.is (p - 1) (by omega)
      refine ⟨j, h2, by rw [o1 j h2]; omega, ?_⟩
      have := hbef (p - 1) (by omega)
      omega
theorem pl_is (row : List Int) : ∀ k, Pl row k (plTo row k).1 (plTo row k).2
  | 0 => ⟨rfl, fun i h => by omega, fun i h => by omega, fun p h => by simp [plTo] at h, fun i j h => by omega, fun i h => by omega⟩
  | k + 1 => pl_step (pl_is row k)
/-- How many pockets are needed. -/
def fewM (row : List Int) : Nat := (plTo row row.length).1.length
def placeI (row : List Int) : List Int := (placeM row).map fun (n : Nat) => (n : Int)
theorem placeI_at {row : List Int} {i : Nat} (hi : i < row.length) : tAt (placeI row) i = (nAt (placeM row) i : Int) := by
  have hl : i < (placeM row).length := by unfold placeM; rw [pl_len]; exact hi
  unfold tAt placeI nAt
  rw [List.getD_eq_getElem?_getD, List.getD_eq_getElem?_getD, List.getElem?_map, List.getElem?_eq_getElem hl]; rfl
theorem place_right (row : List Int) : Right row (fewM row) (placeI row) ∧ takenB (placeI row) = row.length := by
  have h := pl_is row row.length
  refine ⟨⟨by unfold placeI placeM; rw [List.length_map, pl_len], fun j hj => ?_, fun j k hj hkj h0 he => ?_⟩, ?_⟩
  · rw [placeI_at hj]
    have := h.lt j hj
    unfold fewM placeM at *
    omega
  · rw [placeI_at hj, placeI_at (by omega)] at he
    exact h.inc j k hj hkj (by unfold placeM at he; omega)
  · unfold takenB placeI
    rw [List.countP_map]
    have : ((fun x : Int => decide (0 ≤ x)) ∘ fun (n : Nat) => (n : Int)) = fun _ => true := by funext n; simp
    rw [this, List.countP_true]
    unfold placeM; rw [pl_len]
/-- A log in a pocket ends a run with a log of each pocket before. -/
theorem place_run (row : List Int) : ∀ (p i : Nat), i < row.length → nAt (placeM row) i = p → ∃ r, IsRun row r ∧ lastR r = i ∧ r.length = p + 1 := by
  intro p
  induction p with
  | zero =>
    intro i hi _
    exact ⟨[i], ⟨by simp, fun x hx => by simp at hx; subst hx; exact hi⟩, rfl, rfl⟩
  | succ p ih =>
    intro i hi hp
    obtain ⟨j, h1, h2, h3⟩ := (pl_is row row.length).why i hi (by show 0 < nAt (placeM row) i; omega)
    have h4 : nAt (placeM row) j + 1 = nAt (placeM row) i := h2
    obtain ⟨r, q1, q2, q3⟩ := ih j (by omega) (by omega)
    refine ⟨r ++ [i], run_snoc.2 ⟨q1, hi, fun _ => by rw [q2]; exact ⟨h1, h3⟩⟩, lastR_snoc _ _, by simp [q3]⟩
/-- No run has more logs than there are pockets into which all are turned. -/
theorem run_all_le {row : List Int} {many : Nat} {t : List Int} (h : Right row many t) (ha : takenB t = row.length) {r : List Nat} (hr : IsRun row r) : r.length ≤ many := by
  have h1 := run_le h hr
  have h2 : ∀ j, j < row.length → 0 ≤ tAt t j := by
    unfold takenB at ha
    rw [← h.len, List.countP_eq_length] at ha
    intro j hj
    have hjt : j < t.length := by rw [h.len]; exact hj
    have := ha _ (List.getElem_mem hjt)
    unfold tAt
    rw [List.getD_eq_getElem?_getD, List.getElem?_eq_getElem hjt]
    exact of_decide_eq_true this
  have h3 : r.countP (fun j => decide (0 ≤ tAt t j)) = r.length := by
    rw [List.countP_eq_length]
    intro j hj
    exact decide_eq_true (h2 j (hr.2 j hj))
  omega
theorem few_long (row : List Int) : fewM row = (longM row).length := by
  have hl := long_is row
  obtain ⟨h1, h2⟩ := place_right row
  have h3 := run_all_le h1 h2 hl.run
  have h4 : fewM row ≤ (longM row).length := by
    by_cases h0 : fewM row = 0
    · omega
    · obtain ⟨i, q1, q2, -⟩ := (pl_is row row.length).is (fewM row - 1) (by unfold fewM at *; omega)
      obtain ⟨r, r1, r2, r3⟩ := place_run row (fewM row - 1) i q1 q2
      have := (lfO_le.1 (hl.best r r1)).1
      omega
  omega
/-- The lines of the tableau have all logs. -/
theorem Kn.len {w w' : List Int} (h : Kn w w') : w.length = w'.length := by cases h <;> simp
theorem KE.len {w w' : List Int} (h : KE w w') : w.length = w'.length := by
  induction h with
  | refl => rfl
  | tail _ hk ih => rw [ih]; rcases hk with h | h; exact h.len; exact h.len.symm
theorem rw_len : ∀ t : List (List Int), (rw t).length = sumk t.length t
  | [] => rfl
  | r :: t => by
    show (rw t ++ r).length = r.length + sumk t.length t
    rw [List.length_append, rw_len t]; omega
theorem tab_len (row : List Int) : sumk (tab row).length (tab row) = row.length := by rw [← rw_len, ← (tab_both row).2.len]
theorem sumk_mono : ∀ (k : Nat) (t : List (List Int)), sumk k t ≤ sumk (k + 1) t
  | 0, [] => Nat.le_refl _
  | 0, r :: t => Nat.zero_le _
  | k + 1, [] => Nat.le_refl _
  | k + 1, r :: t => by
    show r.length + sumk k t ≤ r.length + sumk (k + 1) t
    have := sumk_mono k t; omega
theorem sumk_le {j k : Nat} (h : j ≤ k) (t : List (List Int)) : sumk j t ≤ sumk k t := by
  induction k with
  | zero => have : j = 0 := by omega
            subst this; exact Nat.le_refl _
  | succ k ih =>
    by_cases e : j = k + 1
    · subst e; exact Nat.le_refl _
    · exact Nat.le_trans (ih (by omega)) (sumk_mono k t)
theorem sumk_all : ∀ (k : Nat) (t : List (List Int)), t.length ≤ k → sumk k t = sumk t.length t
  | k, [], _ => sumk_nil k
  | 0, r :: t, h => by simp at h
  | k + 1, r :: t, h => by
    show r.length + sumk k t = r.length + sumk t.length t
    rw [sumk_all k t (by simpa using h)]
/-- Lines that are not empty: fewer have fewer numbers. -/
theorem sumk_less : ∀ {t : List (List Int)}, (∀ r ∈ t, r ≠ []) → ∀ k, k < t.length → sumk k t < sumk t.length t
  | [], _, k, h => by simp at h
  | r :: t, hn, k, h => by
    have hr : 0 < r.length := List.length_pos_iff.2 (hn r (by simp))
    cases k with
    | zero => show 0 < r.length + sumk t.length t; omega
    | succ k =>
      show r.length + sumk k t < r.length + sumk t.length t
      have := sumk_less (fun r hr => hn r (List.mem_cons_of_mem _ hr)) k (by simpa using h)
      omega
theorem Tb.ne : ∀ {t : List (List Int)}, Tb t → ∀ r ∈ t, r ≠ []
  | [], _, r, h => by cases h
  | s :: t, h, r, hr => by
    rcases List.mem_cons.1 hr with rfl | hr
    · exact h.head
    · exact Tb.ne h.tail r hr
/-- As many pockets are needed as the tableau has lines. -/
theorem few_tab (row : List Int) : fewM row = (tab row).length := by
  obtain ⟨h1, h2⟩ := place_right row
  have h3 := greene_le (right_takes h1)
  rw [h2] at h3
  have h4 : (tab row).length ≤ fewM row := by
    apply Classical.byContradiction
    intro hn
    have := sumk_less (Tb.ne (tab_tb row)) (fewM row) (by omega)
    rw [tab_len] at this
    omega
  obtain ⟨t, h5, h6⟩ := takes_right (greene_ge row (tab row).length)
  rw [tab_len] at h6
  have h7 := run_all_le h5 h6 (long_is row).run
  rw [← few_long] at h7
  omega
end Go.Proofs.Ytclcippfodjfeaa
namespace Go.Proofs.Ytclcippfodjfeaa
set_option linter.unusedVariables false
set_option linter.unusedSimpArgs false
def shapeL (row : List Int) : List Nat := (tab row).map List.length
theorem sumk_take : ∀ (k : Nat) (t : List (List Int)), sumk k t = ((t.map List.length).take k).sum
  | 0, _ => by simp [sumk]
  | k + 1, [] => by simp [sumk]
  | k + 1, r :: t => by
    show r.length + sumk k t = _
    rw [sumk_take k t]; simp
/-- Sums of the first ones say which numbers there are, if all are at least 1. -/
theorem sums_eq : ∀ {a b : List Nat}, (∀ x ∈ a, 1 ≤ x) → (∀ x ∈ b, 1 ≤ x) → (∀ k, (a.take k).sum = (b.take k).sum) → a = b
  | [], [], _, _, _ => rfl
  | [], y :: b, _, hb, h => by have := h 1; have := hb y (by simp); simp at *; omega
  | x :: a, [], ha, _, h => by have := h 1; have := ha x (by simp); simp at *; omega
  | x :: a, y :: b, ha, hb, h => by
    have h1 := h 1
    simp at h1
    subst h1
    rw [sums_eq (fun z hz => ha z (List.mem_cons_of_mem _ hz)) (fun z hz => hb z (List.mem_cons_of_mem _ hz)) (fun k => by have := h (k + 1); simpa using this)]
theorem shape_pos (row : List Int) : ∀ x ∈ shapeL row, 1 ≤ x := by
  intro x hx
  obtain ⟨r, hr, rfl⟩ := List.mem_map.1 hx
  exact List.length_pos_iff.2 (Tb.ne (tab_tb row) r hr)
theorem shape_len (row : List Int) : (shapeL row).length = fewM row := by unfold shapeL; rw [List.length_map, few_tab]
theorem shape_sum (row : List Int) : (shapeL row).sum = row.length := by
  have := tab_len row
  rw [sumk_take, List.take_of_length_le (by simp)] at this
  exact this
theorem above_len : ∀ {r s : List Int}, Above r s → s.length ≤ r.length
  | _, [], _ => Nat.zero_le _
  | [], _ :: _, h => h.elim
  | x :: r, y :: s, h => by have := above_len h.2; simp; omega
theorem tb_down : ∀ {t : List (List Int)}, Tb t → (t.map List.length).Pairwise (fun a b => b ≤ a)
  | [], _ => List.Pairwise.nil
  | [r], _ => by simp
  | r :: s :: t, h => by
    have ih := tb_down (t := s :: t) h.2.2
    have h1 := above_len h.2.1
    rw [List.map_cons, List.pairwise_cons]
    refine ⟨fun x hx => ?_, ih⟩
    rw [List.map_cons] at hx ih
    rcases List.mem_cons.1 hx with rfl | hx
    · exact h1
    · have := (List.pairwise_cons.1 ih).1 x hx; omega
theorem shape_down (row : List Int) : (shapeL row).Pairwise (fun a b => b ≤ a) := tb_down (tab_tb row)
/-- Sending fewer pockets. -/
theorem send_take {row : List Int} : ∀ (m : Nat) {F last : List Lk} {more : List Int} {F' la' : List Lk}, sendF row m F last = some (more, F', la') → ∀ j, j ≤ m → ∃ F'' la'', sendF row j F last = some (more.take j, F'', la'')
  | 0, F, last, more, F', la', h, j, hj => by
    have : j = 0 := by omega
    subst this
    exact ⟨F, last, by simp [sendF]⟩
  | m + 1, F, last, more, F', la', h, 0, hj => ⟨F, last, by simp [sendF]⟩
  | m + 1, F, last, more, F', la', h, j + 1, hj => by
    unfold sendF at h ⊢
    cases hm : meas row F last with
    | none => rw [hm] at h; cases h
    | some st =>
      rw [hm] at h
      simp only [Option.bind_some] at h ⊢
      by_cases he : (fa st.1 1 == fa st.1 0) = true
      · rw [if_pos he] at h ⊢
        cases h
        exact ⟨F, st.2, by simp⟩
      · rw [if_neg he] at h ⊢
        cases hp : pathF 4000 st.2 1 with
        | none => rw [hp] at h; cases h
        | some ps =>
          rw [hp] at h
          simp only [Option.bind_some] at h ⊢
          cases hs : sendF row m (ps.foldl tog F) st.2 with
          | none => rw [hs] at h; cases h
          | some x =>
            rw [hs] at h
            obtain ⟨mo, F2, la2⟩ := x
            simp only [Option.map_some, Option.some.injEq, Prod.mk.injEq] at h
            obtain ⟨rfl, -, -⟩ := h
            obtain ⟨F'', la'', h2⟩ := send_take m hs j (by omega)
            exact ⟨F'', la'', by rw [h2]; simp⟩
theorem send_start {row : List Int} (hn : row.length ≤ 30) (m : Nat) : ∃ more F la, sendF row m [] last0 = some (more, F, la) ∧ Sent row m [] more F la 0 (p0 row.length) :=
  send_ok hn m [] last0 0 (p0 row.length) (flow_nil row) (pot_nil hn) (fun v => p0_le hn v) (by simp [last0])
theorem sent_sum {row : List Int} (hn : row.length ≤ 30) {m : Nat} {more : List Int} {F la : List Lk} {q : Nat → Int} (h : Sent row m [] more F la 0 q) : more.sum = sumk m (tab row) ∧ (tk F : Int) = sumk m (tab row) ∧ (more.length < m → (tab row).length ≤ more.length) := by
  have hF := h.flow
  rw [Nat.zero_add] at hF
  have htk : (tk F : Int) = more.sum := by have := h.tk; simpa [tk] using this
  by_cases hlt : more.length < m
  · obtain ⟨st, p, hd, he⟩ := h.stop hlt
    have hd2 := fea_done hF hd
    have h1 := (flow_most hF hd2 (many := m) (.inr ⟨he, by omega⟩)).1
    have h2 := (flow_most hF hd2 (many := more.length) (.inl rfl)).1
    have h3 := (flow_most hF hd2 (many := more.length + (tab row).length) (.inr ⟨he, by omega⟩)).1
    refine ⟨by omega, by omega, fun _ => ?_⟩
    apply Classical.byContradiction
    intro hn
    have h4 := sumk_less (Tb.ne (tab_tb row)) more.length (by omega)
    have h5 := sumk_all (more.length + (tab row).length) (tab row) (by omega)
    omega
  · have hm : more.length = m := by have := h.le; omega
    obtain ⟨p, hp, hB, -⟩ := h.pot
    rw [hm] at hF
    have h1 := (flow_most hF (p := p) hp.step (many := m) (.inl rfl)).1
    exact ⟨by omega, by omega, fun h => absurd h hlt⟩
theorem sums_eqI {a : List Int} {b : List Nat} (ha : ∀ x ∈ a, 1 ≤ x) (hb : ∀ x ∈ b, 1 ≤ x) (h : ∀ k, (a.take k).sum = ((b.take k).sum : Nat)) : a = b.map fun (n : Nat) => (n : Int) := by
  have e : a = (a.map Int.toNat).map fun (n : Nat) => (n : Int) := by
    rw [List.map_map]
    conv => lhs; rw [← List.map_id a]
    apply List.map_congr_left
    intro x hx
    have := ha x hx
    simp; omega
  rw [e]
  congr 1
  refine sums_eq (fun x hx => ?_) hb (fun k => ?_)
  · obtain ⟨y, hy, rfl⟩ := List.mem_map.1 hx
    have := ha y hy; omega
  · have h1 := h k
    rw [e, ← List.map_take] at h1
    have : ∀ l : List Nat, (l.map fun (n : Nat) => (n : Int)).sum = (l.sum : Nat) := by
      intro l
      induction l with
      | nil => rfl
      | cons x l ih => simp [ih]
    rw [this] at h1
    omega
/-- What pockets take that are sent one after another. -/
theorem send_shape {row : List Int} (hn : row.length ≤ 30) (m : Nat) : ∃ F la, sendF row m [] last0 = some (((shapeL row).take m).map fun (n : Nat) => (n : Int), F, la) ∧ Flow row F ((shapeL row).take m).length ∧ la.length = 62 ∧ tk F = sumk m (tab row) ∧
    ∃ p, Pot (stepsL row F) p ∧ (∀ v, p v ≤ 31) ∧ ∀ x, ((shapeL row).take m).getLast? = some x → p 1 = p 0 + (x : Int) := by
  obtain ⟨more, F, la, h1, h2⟩ := send_start hn m
  have hs := sent_sum hn h2
  have hmore : more = ((shapeL row).take m).map fun (n : Nat) => (n : Int) := by
    refine sums_eqI h2.pos (fun x hx => shape_pos row x (List.mem_of_mem_take hx)) fun k => ?_
    rw [List.take_take, ← show sumk (min k m) (tab row) = ((shapeL row).take (min k m)).sum from sumk_take _ _]
    by_cases hk : k ≤ m
    · obtain ⟨F2, la2, h3⟩ := send_take m h1 k hk
      obtain ⟨more3, F3, la3, h4, h5⟩ := send_start hn k
      rw [h3] at h4
      cases h4
      have := (sent_sum hn h5).1
      rw [Nat.min_eq_left hk]
      exact this
    · rw [Nat.min_eq_right (by omega), List.take_of_length_le (by have := h2.le; omega)]
      exact hs.1
  have hlen : more.length = ((shapeL row).take m).length := by rw [hmore, List.length_map]
  refine ⟨F, la, by rw [h1, hmore], ?_, h2.len, by have := hs.2.1; omega, ?_⟩
  · have := h2.flow; rwa [Nat.zero_add, hlen] at this
  · obtain ⟨p, hp1, hp2, -, hp3⟩ := h2.pot
    refine ⟨p, hp1, hp2, fun x hx => hp3 x ?_⟩
    rw [hmore, List.getLast?_map, hx]; rfl
/-- All pockets that take logs are sent, if as many are sent as there are logs. -/
theorem shape_take_all (row : List Int) : (shapeL row).take row.length = shapeL row := by
  apply List.take_of_length_le
  rw [shape_len]
  exact pl_last_le row row.length
/-- One log more. -/
theorem ins_sum : ∀ (k : Nat) (n : Int) (t : List (List Int)), sumk k t ≤ sumk k (insTab n t) ∧ sumk k (insTab n t) ≤ sumk k t + 1
  | 0, _, _ => by simp [sumk]
  | k + 1, n, [] => by
    show sumk (k + 1) [] ≤ ([n] : List Int).length + sumk k [] ∧ ([n] : List Int).length + sumk k [] ≤ sumk (k + 1) [] + 1
    rw [sumk_nil, sumk_nil]; simp
  | k + 1, n, r :: t => by
    unfold insTab
    cases hc : (insRow n r).2 with
    | none =>
      dsimp only
      show r.length + sumk k t ≤ (insRow n r).1.length + sumk k t ∧ (insRow n r).1.length + sumk k t ≤ r.length + sumk k t + 1
      rw [(ins_none hc).1]; simp; omega
    | some m =>
      dsimp only
      show r.length + sumk k t ≤ (insRow n r).1.length + sumk k (insTab m t) ∧ (insRow n r).1.length + sumk k (insTab m t) ≤ r.length + sumk k t + 1
      have : ∀ {r : List Int} {m : Int}, (insRow n r).2 = some m → (insRow n r).1.length = r.length := by
        intro r
        induction r with
        | nil => intro m h; simp [insRow] at h
        | cons x xs ih =>
          intro m h
          unfold insRow at h ⊢
          split
          · rename_i hx
            rw [if_pos hx] at h
            simp [ih h]
          · rfl
      rw [this hc]
      have := ins_sum k m t
      omega
theorem ins_len : ∀ (n : Int) (t : List (List Int)), t.length ≤ (insTab n t).length ∧ (insTab n t).length ≤ t.length + 1
  | n, [] => by simp [insTab]
  | n, r :: t => by
    unfold insTab
    cases hc : (insRow n r).2 with
    | none => simp
    | some m => have := ins_len m t; simp; omega
theorem more_one (row : List Int) (x : Int) (k : Nat) : sumk k (tab row) ≤ sumk k (tab (row ++ [x])) ∧ sumk k (tab (row ++ [x])) ≤ sumk k (tab row) + 1 := by rw [tab_snoc]; exact ins_sum k x _
theorem few_one (row : List Int) (x : Int) : fewM row ≤ fewM (row ++ [x]) ∧ fewM (row ++ [x]) ≤ fewM row + 1 := by rw [few_tab, few_tab, tab_snoc]; exact ins_len x _
/-- A row from its end, the order of numbers turned round. -/
def backN (K : Int) (row : List Int) : List Int := row.reverse.map fun x => K - x
theorem back_back (K : Int) (row : List Int) : backN K (backN K row) = row := by
  unfold backN
  rw [← List.map_reverse, List.reverse_reverse, List.map_map]
  conv => rhs; rw [← List.map_id row]
  apply List.map_congr_left
  intro x _
  simp; omega
theorem takes_back {K : Int} {row : List Int} {k s : Nat} (h : Takes row k s) : Takes (backN K row) k s := by
  obtain ⟨l, h1, h2, h3, h4⟩ := h
  refine ⟨l.reverse.map fun p => (K - p.1, p.2), ?_, ?_, ?_, ?_⟩
  · unfold backN
    rw [← h1, ← List.map_reverse, List.map_map, List.map_map]
    rfl
  · unfold okL
    rw [List.pairwise_map, List.pairwise_reverse]
    refine List.Pairwise.imp ?_ h2
    intro p q hpq c e1 e2
    have := hpq c e2 e1
    dsimp only
    omega
  · intro p hp c hc
    obtain ⟨q, hq, rfl⟩ := List.mem_map.1 hp
    exact h3 q (List.mem_reverse.1 hq) c hc
  · rw [← h4]
    unfold cntL
    rw [List.countP_map, List.countP_reverse]
    rfl
theorem sumk_back (K : Int) (row : List Int) (k : Nat) : sumk k (tab (backN K row)) = sumk k (tab row) := by
  have h1 := greene_le (takes_back (K := K) (greene_ge row k))
  have h2 := greene_le (takes_back (K := K) (greene_ge (backN K row) k))
  rw [back_back] at h2
  omega
theorem shape_back (K : Int) (row : List Int) : shapeL (backN K row) = shapeL row :=
  sums_eq (shape_pos _) (shape_pos _) fun k => by
    have := sumk_back K row k
    rwa [sumk_take, sumk_take] at this
theorem back_len (K : Int) (row : List Int) : (backN K row).length = row.length := by simp [backN]
theorem back_at {K : Int} {row : List Int} {i : Nat} (hi : i < row.length) : rAt (backN K row) i = K - rAt row (row.length - 1 - i) := by
  unfold rAt backN
  rw [List.getD_eq_getElem?_getD, List.getD_eq_getElem?_getD, List.getElem?_map, List.getElem?_reverse hi, List.getElem?_eq_getElem (by omega)]
  rfl
theorem run_back {K : Int} {row : List Int} {r : List Nat} (h : IsRun row r) : IsRun (backN K row) (r.reverse.map fun i => row.length - 1 - i) := by
  refine ⟨?_, fun x hx => ?_⟩
  · rw [List.pairwise_map, List.pairwise_reverse]
    have hm : ∀ x ∈ r, x < row.length := h.2
    refine List.Pairwise.imp_of_mem ?_ h.1
    intro a b ha hb ⟨h1, h2, h3⟩
    have := hm a ha
    rw [back_len, back_at (by omega), back_at (by omega)]
    rw [show row.length - 1 - (row.length - 1 - a) = a by omega, show row.length - 1 - (row.length - 1 - b) = b by omega]
    exact ⟨by omega, by omega, by omega⟩
  · obtain ⟨i, hi, rfl⟩ := List.mem_map.1 hx
    have := h.2 i (List.mem_reverse.1 hi)
    rw [back_len]; omega
/-- Two rows, one after the other. -/
theorem few_le_of {row row' : List Int} (h : ∀ r, IsRun row r → ∃ r', IsRun row' r' ∧ r.length ≤ r'.length) : fewM row ≤ fewM row' := by
  rw [few_long, few_long]
  obtain ⟨r', h1, h2⟩ := h _ (long_is row).run
  have := (lfO_le.1 ((long_is row').best r' h1)).1
  omega
theorem rAt_left {a b : List Int} {i : Nat} (h : i < a.length) : rAt (a ++ b) i = rAt a i := by
  unfold rAt
  rw [List.getD_eq_getElem?_getD, List.getD_eq_getElem?_getD, List.getElem?_append_left h]
theorem rAt_right (a b : List Int) (i : Nat) : rAt (a ++ b) (a.length + i) = rAt b i := by
  unfold rAt
  rw [List.getD_eq_getElem?_getD, List.getD_eq_getElem?_getD, List.getElem?_append_right (by omega)]
  rw [show a.length + i - a.length = i by omega]
theorem run_left {a b : List Int} {r : List Nat} (h : IsRun a r) : IsRun (a ++ b) r := by
  refine ⟨?_, fun x hx => by have := h.2 x hx; simp; omega⟩
  refine List.Pairwise.imp_of_mem ?_ h.1
  intro x y hx hy ⟨h1, h2, h3⟩
  rw [rAt_left h2, rAt_left (h.2 x hx)]
  exact ⟨h1, by simp; omega, h3⟩
theorem run_right {a b : List Int} {r : List Nat} (h : IsRun b r) : IsRun (a ++ b) (r.map fun i => a.length + i) := by
  refine ⟨?_, fun x hx => ?_⟩
  · rw [List.pairwise_map]
    refine List.Pairwise.imp ?_ h.1
    intro x y ⟨h1, h2, h3⟩
    rw [rAt_right, rAt_right]
    exact ⟨by omega, by simp; omega, h3⟩
  · obtain ⟨i, hi, rfl⟩ := List.mem_map.1 hx
    have := h.2 i hi
    simp; omega
theorem run_split {a b : List Int} {r : List Nat} (h : IsRun (a ++ b) r) : ∃ r1 r2, IsRun a r1 ∧ IsRun b r2 ∧ r.length = r1.length + r2.length ∧ ((∀ i j, i < a.length → j < b.length → rAt a i ≤ rAt b j) → r1 = [] ∨ r2 = []) := by
  have hlt : ∀ x ∈ r, x < a.length + b.length := fun x hx => by have := h.2 x hx; rwa [List.length_append] at this
  refine ⟨r.filter fun x => decide (x < a.length), (r.filter fun x => !decide (x < a.length)).map fun x => x - a.length, ⟨?_, fun x hx => ?_⟩, ⟨?_, fun x hx => ?_⟩, ?_, fun hle => ?_⟩
  · rw [List.pairwise_filter]
    refine List.Pairwise.imp ?_ h.1
    intro x y ⟨h1, h2, h3⟩ hx hy
    have hx := of_decide_eq_true hx
    have hy := of_decide_eq_true hy
    rw [rAt_left hx, rAt_left hy] at h3
    exact ⟨h1, hy, h3⟩
  · rw [List.mem_filter] at hx
    exact of_decide_eq_true hx.2
  · rw [List.pairwise_map, List.pairwise_filter]
    refine List.Pairwise.imp ?_ h.1
    intro x y ⟨h1, h2, h3⟩ hx hy
    have hx : ¬ x < a.length := by simpa using hx
    have hy : ¬ y < a.length := by simpa using hy
    have e1 := rAt_right a b (x - a.length)
    have e2 := rAt_right a b (y - a.length)
    rw [show a.length + (x - a.length) = x by omega] at e1
    rw [show a.length + (y - a.length) = y by omega] at e2
    rw [e1, e2] at h3
    rw [List.length_append] at h2
    exact ⟨by omega, by omega, h3⟩
  · obtain ⟨y, hy, rfl⟩ := List.mem_map.1 hx
    rw [List.mem_filter] at hy
    have := hlt y hy.1
    have h2 : ¬ y < a.length := by simpa using hy.2
    omega
  · rw [List.length_map]
    clear hlt h
    induction r with
    | nil => rfl
    | cons x r ih =>
      simp only [List.filter_cons, List.length_cons]
      by_cases hx : x < a.length
      · simp [hx, ih]; omega
      · simp [hx, ih]; omega
  · apply Classical.byContradiction
    intro hn
    rw [not_or] at hn
    obtain ⟨x, hx⟩ := List.exists_mem_of_ne_nil _ hn.1
    obtain ⟨z, hz⟩ := List.exists_mem_of_ne_nil _ hn.2
    obtain ⟨y, hy, rfl⟩ := List.mem_map.1 hz
    rw [List.mem_filter] at hx hy
    have hx2 := of_decide_eq_true hx.2
    have hy2 : ¬ y < a.length := by simpa using hy.2
    obtain ⟨i, hi, ei⟩ := List.getElem_of_mem hx.1
    obtain ⟨j, hj, ej⟩ := List.getElem_of_mem hy.1
    have hp := List.pairwise_iff_getElem.1 h.1
    have hyl := hlt y hy.1
    have e2 := rAt_right a b (y - a.length)
    rw [show a.length + (y - a.length) = y by omega] at e2
    rcases Nat.lt_trichotomy i j with hij | hij | hij
    · have := (hp i j hi hj hij).2.2
      rw [ei, ej, rAt_left hx2, e2] at this
      have := hle x (y - a.length) hx2 (by omega)
      omega
    · subst hij; omega
    · have := (hp j i hj hi hij).1
      rw [ei, ej] at this
      omega
theorem few_joined (a b : List Int) : fewM (a ++ b) ≤ fewM a + fewM b ∧ fewM a ≤ fewM (a ++ b) ∧ fewM b ≤ fewM (a ++ b) ∧ ((∀ i j, i < a.length → j < b.length → rAt a i ≤ rAt b j) → fewM (a ++ b) = max (fewM a) (fewM b)) := by
  have h1 : fewM a ≤ fewM (a ++ b) := few_le_of fun r hr => ⟨r, run_left hr, Nat.le_refl _⟩
  have h2 : fewM b ≤ fewM (a ++ b) := few_le_of fun r hr => ⟨_, run_right hr, by simp⟩
  obtain ⟨r1, r2, q1, q2, q3, q4⟩ := run_split (long_is (a ++ b)).run
  have e1 := (lfO_le.1 ((long_is a).best r1 q1)).1
  have e2 := (lfO_le.1 ((long_is b).best r2 q2)).1
  rw [← few_long] at e1 e2 q3
  refine ⟨by omega, h1, h2, fun hle => ?_⟩
  rcases q4 hle with rfl | rfl
  · simp at q3; omega
  · simp at q3; omega
/-- Runs as pockets of the row from its end. -/
theorem runs_takes {row : List Int} {rs : List (List Nat)} (hr : ∀ r ∈ rs, IsRun row r) (hd : rs.flatten.Nodup) : Takes row.reverse rs.length rs.flatten.length := by
  -- the run in which a log is
  obtain ⟨f, hf⟩ : ∃ f : Nat → Option Nat, f = fun j => rs.findIdx? fun r => r.contains j := ⟨_, rfl⟩
  have hfs : ∀ j c, f j = some c → ∃ h : c < rs.length, j ∈ rs[c] := fun j c h => by
    rw [hf] at h
    dsimp only at h
    rw [List.findIdx?_eq_some_iff_getElem] at h
    obtain ⟨h1, h2, -⟩ := h
    exact ⟨h1, by simpa using h2⟩
  have hfn : ∀ j, (f j).isSome = true ↔ j ∈ rs.flatten := fun j => by
    rw [hf]
    dsimp only
    rw [List.findIdx?_isSome, List.any_eq_true, List.mem_flatten]
    simp
  refine ⟨((List.range row.length).map fun j => ((rAt row j, f j) : Lg)).reverse, ?_, ?_, ?_, ?_⟩
  · rw [List.map_reverse, List.map_map]
    congr 1
    apply List.ext_getElem
    · simp
    · intro j h1 h2
      simp only [List.getElem_map, List.getElem_range, Function.comp]
      unfold rAt
      rw [List.getD_eq_getElem?_getD, List.getElem?_eq_getElem h2]; rfl
  · unfold okL
    rw [List.pairwise_reverse, List.pairwise_map]
    have : (List.range row.length).Pairwise (fun a b => a < b ∧ b < row.length) := by
      rw [List.pairwise_iff_getElem]
      intro i j hi hj hij
      simp at hi hj ⊢
      exact ⟨hij, hj⟩
    refine List.Pairwise.imp ?_ this
    intro a b ⟨hab, hb⟩ c h1 h2
    dsimp only at h1 h2 ⊢
    obtain ⟨hc, m1⟩ := hfs b c h1
    obtain ⟨hc2, m2⟩ := hfs a c h2
    have hrun := (hr _ (List.getElem_mem hc)).1
    obtain ⟨i, hi, ei⟩ := List.getElem_of_mem m1
    obtain ⟨k, hk, ek⟩ := List.getElem_of_mem m2
    have hp := List.pairwise_iff_getElem.1 hrun
    rcases Nat.lt_trichotomy i k with hik | hik | hik
    · have := (hp i k hi hk hik).1
      rw [ei, ek] at this; omega
    · subst hik; rw [ei] at ek; omega
    · have := (hp k i hk hi hik).2.2
      rw [ei, ek] at this; omega
  · intro p hp c hc
    obtain ⟨j, -, rfl⟩ := List.mem_map.1 (List.mem_reverse.1 hp)
    obtain ⟨h, -⟩ := hfs j c hc
    exact h
  · unfold cntL
    rw [List.countP_reverse, List.countP_map, List.countP_eq_length_filter]
    have hmem : ∀ j, j ∈ (List.range row.length).filter ((fun p : Lg => p.2.isSome) ∘ fun j => (rAt row j, f j)) ↔ j ∈ rs.flatten := fun j => by
      rw [List.mem_filter, List.mem_range]
      simp only [Function.comp]
      rw [hfn]
      constructor
      · exact fun h => h.2
      · intro h
        obtain ⟨r, h1, h2⟩ := List.mem_flatten.1 h
        exact ⟨(hr r h1).2 j h2, h⟩
    have h1 := nodup_len _ _ (List.nodup_range.filter ((fun p : Lg => p.2.isSome) ∘ fun j => (rAt row j, f j))) (fun j hj => (hmem j).1 hj)
    have h2 := nodup_len _ _ hd (fun j hj => (hmem j).2 hj)
    omega
end Go.Proofs.Ytclcippfodjfeaa
namespace Go.Proofs.Ytclcippfodjfeaa
set_option linter.unusedVariables false
set_option linter.unusedSimpArgs false
/-- How many of the first k columns' numbers lines have. -/
def colS (row : List Int) (k : Nat) : Nat := ((shapeL row).map fun x => min x k).sum
theorem fea_min {ss : List (Lk × Int)} {p q : Nat → Int} (hp : Fea ss p) (hq : Fea ss q) (c : Int) : Fea ss fun v => min (q v) (p v + c) := by
  intro s hs
  have h1 := hp s hs
  have h2 := hq s hs
  dsimp only
  omega
theorem down_take : ∀ {l : List Nat} {m k : Nat}, l.Pairwise (fun a b => b ≤ a) → (∀ i (h : i < l.length), i < m → k ≤ l[i]) → (∀ i (h : i < l.length), m ≤ i → l[i] ≤ k) → m ≤ l.length → (l.map fun x => min x k).sum + (l.take m).sum = m * k + l.sum
  | [], m, k, _, _, _, hm => by simp at hm; subst hm; simp
  | x :: l, 0, k, hp, h1, h2, hm => by
    have hx := h2 0 (by simp) (Nat.zero_le _)
    have ih := down_take (l := l) (m := 0) (k := k) (List.pairwise_cons.1 hp).2 (fun i h hi => by omega) (fun i h _ => h2 (i + 1) (by simpa using h) (Nat.zero_le _)) (Nat.zero_le _)
    simp only [List.getElem_cons_zero] at hx
    simp only [List.map_cons, List.sum_cons, List.take_zero, List.sum_nil, Nat.add_zero, Nat.zero_mul, Nat.zero_add] at ih ⊢
    omega
  | x :: l, m + 1, k, hp, h1, h2, hm => by
    have hx := h1 0 (by simp) (Nat.zero_lt_succ _)
    have ih := down_take (l := l) (m := m) (k := k) (List.pairwise_cons.1 hp).2 (fun i h hi => h1 (i + 1) (by simpa using h) (by omega)) (fun i h hi => h2 (i + 1) (by simpa using h) (by omega)) (by simpa using hm)
    simp only [List.getElem_cons_zero] at hx
    simp only [List.map_cons, List.sum_cons, List.take_succ_cons] at ih ⊢
    rw [Nat.add_mul, Nat.one_mul]
    omega
/-- How many lines have at least so many numbers. -/
def cntGe (row : List Int) (k : Nat) : Nat := (shapeL row).countP fun x => decide (k ≤ x)
theorem down_count : ∀ {l : List Nat} {k : Nat}, l.Pairwise (fun a b => b ≤ a) → ∀ i (h : i < l.length), i < l.countP (fun x => decide (k ≤ x)) ↔ k ≤ l[i]
  | [], _, _, i, h => by simp at h
  | x :: l, k, hp, i, h => by
    have hp2 := List.pairwise_cons.1 hp
    rw [List.countP_cons]
    cases i with
    | zero =>
      simp only [List.getElem_cons_zero]
      by_cases hx : k ≤ x
      · simp [hx]
      · have : l.countP (fun x => decide (k ≤ x)) = 0 := by
          rw [List.countP_eq_zero]
          intro y hy
          have := hp2.1 y hy
          simp; omega
        simp [hx, this]
    | succ i =>
      simp only [List.getElem_cons_succ]
      have ih := down_count (k := k) hp2.2 i (by simpa using h)
      by_cases hx : k ≤ x
      · simp [hx]; exact ih
      · have hil : i < l.length := by simpa using h
        have hy := hp2.1 l[i] (List.getElem_mem hil)
        have : l.countP (fun x => decide (k ≤ x)) = 0 := by
          rw [List.countP_eq_zero]
          intro y hy
          have := hp2.1 y hy
          simp; omega
        simp [hx, this]; omega
theorem colS_eq (row : List Int) (k : Nat) : colS row k + sumk (cntGe row k) (tab row) = cntGe row k * k + row.length := by
  have h := down_take (l := shapeL row) (m := cntGe row k) (k := k) (shape_down row) (fun i h hi => (down_count (shape_down row) i h).1 hi) (fun i h hi => by
    have := (down_count (k := k) (shape_down row) i h)
    unfold cntGe at hi
    omega) (by unfold cntGe; exact List.countP_le_length)
  rw [shape_sum] at h
  rw [sumk_take]
  exact h
theorem colS_step (row : List Int) (k : Nat) : colS row (k + 1) = colS row k + cntGe row (k + 1) := by
  unfold colS cntGe
  induction shapeL row with
  | nil => rfl
  | cons x l ih =>
    simp only [List.map_cons, List.sum_cons, List.countP_cons, ih]
    by_cases hx : k + 1 ≤ x
    · simp [hx]; omega
    · simp [hx]; omega
/-- No more than that can be taken from the row's end. -/
theorem col_le {row : List Int} (hd : row.Nodup) (k : Nat) : sumk k (tab row.reverse) ≤ colS row k := by
  obtain ⟨t, ht, hs⟩ := takes_right (greene_ge row.reverse k)
  obtain ⟨u, hu, hus⟩ := takes_right (greene_ge row (cntGe row k))
  have hne : ∀ i j, i < row.length → j < row.length → rAt row i = rAt row j → i = j := fun i j hi hj he => by
    unfold rAt at he
    rw [List.getD_eq_getElem?_getD, List.getD_eq_getElem?_getD, List.getElem?_eq_getElem hi, List.getElem?_eq_getElem hj] at he
    exact (List.getElem_inj hd).1 he
  have hrev : ∀ i, i < row.length → rAt row.reverse i = rAt row (row.length - 1 - i) := fun i hi => by
    unfold rAt
    rw [List.getD_eq_getElem?_getD, List.getD_eq_getElem?_getD, List.getElem?_reverse hi]
  -- a log that the one takes: by its two pockets it is told, or the other one lets it by
  obtain ⟨A, hA⟩ : ∃ A, A = (List.range row.length).filter fun i => decide (0 ≤ tAt t (row.length - 1 - i)) := ⟨_, rfl⟩
  have hlen : A.length = sumk k (tab row.reverse) := by
    have e : takenB t = (List.range row.length).countP fun i => decide (0 ≤ tAt t i) := by
      unfold takenB
      have e : t = (List.range row.length).map (tAt t) := by
        apply List.ext_getElem
        · have := ht.len; simp at this; simp [this]
        · intro j h1 h2
          simp only [List.getElem_map, List.getElem_range]
          unfold tAt
          rw [List.getD_eq_getElem?_getD, List.getElem?_eq_getElem h1]; rfl
      conv => lhs; rw [e, List.countP_map]
      rfl
    rw [← hs, e, hA, ← List.countP_eq_length_filter]
    have e2 : (List.range row.length).countP (fun i => decide (0 ≤ tAt t (row.length - 1 - i))) = ((List.range row.length).map fun i => row.length - 1 - i).countP (fun i => decide (0 ≤ tAt t i)) := by rw [List.countP_map]; rfl
    rw [e2]
    apply List.Perm.countP_eq
    rw [List.perm_iff_count]
    intro j
    by_cases hj : j < row.length
    · rw [count_one (j := j) (l := List.range row.length) List.nodup_range (List.mem_range.2 hj), count_one]
      · refine List.Pairwise.map _ ?_ (List.Pairwise.and_mem.1 List.nodup_range)
        intro a b ⟨ha, hb, hab⟩ e
        have := List.mem_range.1 ha
        have := List.mem_range.1 hb
        omega
      · exact List.mem_map.2 ⟨row.length - 1 - j, List.mem_range.2 (by omega), by omega⟩
    · have z1 : (List.range row.length).count j = 0 := List.count_eq_zero.2 (by simpa using hj)
      rw [z1, List.count_eq_zero.2]
      intro hh
      obtain ⟨i, hi, e⟩ := List.mem_map.1 hh
      have := List.mem_range.1 hi
      omega
  obtain ⟨B, hB⟩ : ∃ B : List (Int × Int × Nat), B = ((List.range (cntGe row k)).flatMap fun (c : Nat) => (List.range k).map fun (d : Nat) => (((c : Int), (d : Int), 0) : Int × Int × Nat)) ++ ((List.range row.length).filter fun i => decide (tAt u i < 0)).map fun i => (-1, -1, i) := ⟨_, rfl⟩
  have hBl : B.length = cntGe row k * k + (row.length - sumk (cntGe row k) (tab row)) := by
    have e1 : ((List.range (cntGe row k)).flatMap fun (c : Nat) => (List.range k).map fun (d : Nat) => (((c : Int), (d : Int), 0) : Int × Int × Nat)).length = cntGe row k * k := by
      generalize cntGe row k = c
      induction c with
      | zero => simp
      | succ c ih => rw [List.range_succ, List.flatMap_append, List.length_append, ih]; simp [Nat.add_mul]
    have e2 : takenB u + ((List.range row.length).filter fun i => decide (tAt u i < 0)).length = row.length := by
      have e : takenB u = (List.range row.length).countP fun i => decide (0 ≤ tAt u i) := by
        unfold takenB
        have e : u = (List.range row.length).map (tAt u) := by
          apply List.ext_getElem
          · simp [hu.len]
          · intro j h1 h2
            simp only [List.getElem_map, List.getElem_range]
            unfold tAt
            rw [List.getD_eq_getElem?_getD, List.getElem?_eq_getElem h1]; rfl
        conv => lhs; rw [e, List.countP_map]
        rfl
      rw [e, ← List.countP_eq_length_filter]
      have : ∀ l : List Nat, l.countP (fun i => decide (0 ≤ tAt u i)) + l.countP (fun i => decide (tAt u i < 0)) = l.length := by
        intro l
        induction l with
        | nil => rfl
        | cons a l ih =>
          simp only [List.countP_cons, List.length_cons]
          by_cases h0 : 0 ≤ tAt u a
          · simp [h0, show ¬ tAt u a < 0 by omega]; omega
          · simp [h0, show tAt u a < 0 by omega]; omega
      rw [this, List.length_range]
    rw [hB, List.length_append, e1, List.length_map]
    omega
  obtain ⟨g, hg⟩ : ∃ g : Nat → Int × Int × Nat, g = fun i => if tAt u i < 0 then (-1, -1, i) else (tAt u i, tAt t (row.length - 1 - i), 0) := ⟨_, rfl⟩
  have hmap : (A.map g).length ≤ B.length := by
    refine nodup_len _ _ ?_ ?_
    · have hAn : A.Nodup := by rw [hA]; exact List.nodup_range.filter _
      refine List.Pairwise.map _ ?_ (List.Pairwise.and_mem.1 hAn)
      intro a b ⟨ha, hb, hab⟩ e
      rw [hA, List.mem_filter] at ha hb
      have ha1 := List.mem_range.1 ha.1
      have hb1 := List.mem_range.1 hb.1
      have ha2 := of_decide_eq_true ha.2
      have hb2 := of_decide_eq_true hb.2
      rw [hg] at e
      dsimp only at e
      apply hab
      by_cases h1 : tAt u a < 0
      · rw [if_pos h1] at e
        by_cases h2 : tAt u b < 0
        · rw [if_pos h2] at e
          exact congrArg (fun x => x.2.2) e
        · rw [if_neg h2] at e
          have := congrArg (fun x => x.1) e
          dsimp only at this
          omega
      · rw [if_neg h1] at e
        by_cases h2 : tAt u b < 0
        · rw [if_pos h2] at e
          have := congrArg (fun x => x.1) e
          dsimp only at this
          omega
        · rw [if_neg h2] at e
          have e1 : tAt u a = tAt u b := congrArg (fun x => x.1) e
          have e2 : tAt t (row.length - 1 - a) = tAt t (row.length - 1 - b) := congrArg (fun x => x.2.1) e
          have tl := ht.inc
          rw [List.length_reverse] at tl
          rcases Nat.lt_trichotomy a b with hlt | hlt | hlt
          · have q1 := hu.inc b a hb1 hlt (by omega) e1
            have q2 := tl (row.length - 1 - a) (row.length - 1 - b) (by omega) (by omega) ha2 e2.symm
            rw [hrev _ (by omega), hrev _ (by omega), show row.length - 1 - (row.length - 1 - b) = b by omega, show row.length - 1 - (row.length - 1 - a) = a by omega] at q2
            exact hne a b ha1 hb1 (by omega)
          · exact hlt
          · have q1 := hu.inc a b ha1 hlt (by omega) e1.symm
            have q2 := tl (row.length - 1 - b) (row.length - 1 - a) (by omega) (by omega) hb2 e2
            rw [hrev _ (by omega), hrev _ (by omega), show row.length - 1 - (row.length - 1 - b) = b by omega, show row.length - 1 - (row.length - 1 - a) = a by omega] at q2
            exact hne a b ha1 hb1 (by omega)
    · intro x hx
      obtain ⟨i, hi, rfl⟩ := List.mem_map.1 hx
      rw [hA, List.mem_filter] at hi
      have hi1 := List.mem_range.1 hi.1
      have hi2 := of_decide_eq_true hi.2
      rw [hg, hB]
      dsimp only
      rw [List.mem_append]
      by_cases h1 : tAt u i < 0
      · right
        rw [if_pos h1]
        exact List.mem_map.2 ⟨i, List.mem_filter.2 ⟨hi.1, decide_eq_true h1⟩, rfl⟩
      · left
        rw [if_neg h1]
        have b1 := hu.bd i hi1
        have b2 := ht.bd (row.length - 1 - i) (by rw [List.length_reverse]; omega)
        rw [List.mem_flatMap]
        refine ⟨(tAt u i).toNat, List.mem_range.2 (by omega), List.mem_map.2 ⟨(tAt t (row.length - 1 - i)).toNat, List.mem_range.2 (by omega), ?_⟩⟩
        rw [Int.toNat_of_nonneg (by omega), Int.toNat_of_nonneg (by omega)]
  rw [List.length_map, hlen, hBl] at hmap
  have h1 := colS_eq row k
  have h2 : sumk (cntGe row k) (tab row) ≤ row.length := by rw [← tab_len row]; rcases Nat.le_total (cntGe row k) (tab row).length with h | h
                                                            · exact sumk_le h _
                                                            · rw [sumk_all _ _ h]; exact Nat.le_refl _
  omega
/-- That much can be taken from the row's end. -/
theorem col_ge {row : List Int} (hn : row.length ≤ 30) (k : Nat) (hk : 1 ≤ k) (hm : 1 ≤ cntGe row k) : colS row k ≤ sumk k (tab row.reverse) := by
  obtain ⟨m, hme⟩ : ∃ m, m = cntGe row k := ⟨_, rfl⟩
  rw [← hme] at hm
  have hml : m ≤ (shapeL row).length := by rw [hme]; exact List.countP_le_length
  have hmn : m ≤ row.length := by have := shape_len row; have := pl_last_le row row.length; unfold fewM at *; omega
  obtain ⟨F, la, h1, hF, hl, htk, q, hq, hqB, hqx⟩ := send_shape hn m
  have hlen : ((shapeL row).take m).length = m := by rw [List.length_take]; omega
  rw [hlen] at hF
  have hlast : ((shapeL row).take m).getLast? = some ((shapeL row)[m - 1]'(by omega)) := by
    rw [List.getLast?_eq_getElem?, hlen, List.getElem?_take_of_lt (by omega), List.getElem?_eq_getElem (by omega)]
  have hq1 := hqx _ hlast
  have hx1 : k ≤ (shapeL row)[m - 1]'(by omega) := (down_count (shape_down row) (m - 1) (by omega)).1 (by unfold cntGe at hme; omega)
  obtain ⟨st, -, hd⟩ := meas_ok hn hl hq hqB
  have hp := fea_done hF hd
  -- the slope of the marks of the next pocket is no greater
  have hp1 : fa st.1 1 - fa st.1 0 ≤ k := by
    by_cases he : fa st.1 1 = fa st.1 0
    · omega
    · obtain ⟨ps, -, h3, h4, h5⟩ := flow_next hF hd he
      have h6 := (flow_most h3 h4.step (many := m + 1) (.inl rfl)).1
      have hsl : (shapeL row).length = (tab row).length := by simp [shapeL]
      rw [h6, htk] at h5
      rw [sumk_take, sumk_take] at h5
      by_cases hml2 : m < (shapeL row).length
      · have e : (shapeL row).take (m + 1) = (shapeL row).take m ++ [(shapeL row)[m]] := by rw [List.take_succ_eq_append_getElem hml2]
        unfold shapeL at e hml2
        rw [e, List.sum_append] at h5
        have := (down_count (k := k) (shape_down row) m hml2)
        have h7 : ¬ k ≤ (shapeL row)[m] := fun h => by have := this.2 h; unfold cntGe at hme; omega
        unfold shapeL at h7
        simp at h5 h7
        omega
      · have : ((tab row).map List.length).take (m + 1) = ((tab row).map List.length).take m := by
          unfold shapeL at hml2
          rw [List.take_of_length_le (by omega), List.take_of_length_le (by omega)]
        rw [this] at h5
        omega
  obtain ⟨c, hc⟩ : ∃ c : Int, c = (k : Int) - (fa st.1 1 - fa st.1 0) := ⟨_, rfl⟩
  have hz := hd.z
  have hq0 := hq.zero
  obtain ⟨π, hπ⟩ : ∃ π : Nat → Int, π = fun v => min (q v) (fa st.1 v + c) := ⟨_, rfl⟩
  have hfe : Fea (stepsL row F) π := by rw [hπ]; exact fea_min hp hq.step c
  have hπ0 : π 0 = 1 := by rw [hπ]; dsimp only; omega
  have hπ1 : π 1 = 1 + (k : Int) := by rw [hπ]; dsimp only; omega
  have h8 := flow_ge hF hfe
  obtain ⟨rs, hrs⟩ : ∃ rs, rs = (List.range k).map fun (j : Nat) => runAt row.length π (π 0 + (j : Int)) := ⟨_, rfl⟩
  have hrl : rs.length = k := by rw [hrs]; simp
  have hrun : ∀ r ∈ rs, IsRun row r := fun r hr => by
    rw [hrs] at hr
    obtain ⟨j, -, rfl⟩ := List.mem_map.1 hr
    exact run_at hfe _
  have hcnt : ∀ j, j < row.length → rises π j = true → rs.flatten.count j = 1 := fun j hj hr => by
    have := count_marks row.length π j hj hr k
    have hb := mark_bd hfe hj
    have hlt := of_decide_eq_true hr
    rw [hrs, this, if_pos (by omega)]
  have hnr : ∀ j, j ∈ rs.flatten → j < row.length ∧ rises π j = true := fun j hj => by
    obtain ⟨r, hr, hjr⟩ := List.mem_flatten.1 hj
    rw [hrs] at hr
    obtain ⟨i, -, rfl⟩ := List.mem_map.1 hr
    unfold runAt at hjr
    rw [List.mem_filter, Bool.and_eq_true] at hjr
    exact ⟨List.mem_range.1 hjr.1, hjr.2.1⟩
  have hnd : rs.flatten.Nodup := by
    rw [List.nodup_iff_count]
    intro j
    by_cases hj : j ∈ rs.flatten
    · obtain ⟨h9, h10⟩ := hnr j hj
      rw [hcnt j h9 h10]; exact Nat.le_refl _
    · rw [List.count_eq_zero.2 hj]; omega
  have hfl : rs.flatten.length + ((List.range row.length).filter fun i => !rises π i).length = row.length := by
    have e1 : rs.flatten.length = ((List.range row.length).filter fun i => rises π i).length := by
      have a1 := nodup_len rs.flatten ((List.range row.length).filter fun i => rises π i) hnd (fun j hj => List.mem_filter.2 ⟨List.mem_range.2 (hnr j hj).1, (hnr j hj).2⟩)
      have a2 := nodup_len ((List.range row.length).filter fun i => rises π i) rs.flatten (List.nodup_range.filter _) (fun j hj => by
        rw [List.mem_filter, List.mem_range] at hj
        have := hcnt j hj.1 hj.2
        exact List.count_pos_iff.1 (by omega))
      omega
    rw [e1]
    have : ∀ l : List Nat, (l.filter fun i => rises π i).length + (l.filter fun i => !rises π i).length = l.length := by
      intro l
      induction l with
      | nil => rfl
      | cons a l ih => simp only [List.filter_cons, List.length_cons]; cases rises π a <;> simp <;> omega
    rw [this, List.length_range]
  have h11 := greene_le (runs_takes hrun hnd)
  rw [hrl] at h11
  have h12 := colS_eq row k
  rw [← hme] at h12
  rw [hπ1, hπ0, htk] at h8
  have e3 : ((m * k : Nat) : Int) = (m : Int) * (1 + (k : Int) - 1) := by
    rw [show (1 : Int) + (k : Int) - 1 = (k : Int) by omega, Int.natCast_mul]
  omega
/-- The k-th number of the shape from the row's end is how many numbers of the shape are at least k. -/
theorem folded {row : List Int} (hd : row.Nodup) (hn : row.length ≤ 30) (k : Nat) : sumk k (tab row.reverse) = colS row k := by
  have h1 := col_le hd k
  have h2 : colS row k ≤ sumk k (tab row.reverse) := by
    -- from where on no line has as many numbers, all are taken
    induction k with
    | zero =>
      have : colS row 0 = 0 := by
        unfold colS
        induction shapeL row with
        | nil => rfl
        | cons a l ih => rw [List.map_cons, List.sum_cons, ih, Nat.min_zero]
      omega
    | succ k ih =>
      by_cases hm : 1 ≤ cntGe row (k + 1)
      · exact col_ge hn (k + 1) (by omega) hm
      · have h3 := colS_step row k
        have h4 := ih (col_le hd k)
        have h5 := sumk_mono k (tab row.reverse)
        omega
  omega
end Go.Proofs.Ytclcippfodjfeaa
namespace Go.Proofs.Ytclcippfodjfeaa
set_option linter.unusedVariables false
set_option linter.unusedSimpArgs false
/-- Logs, increasing, whose numbers are increasing. -/
def IsInc (row : List Int) (r : List Nat) : Prop := r.Pairwise (fun a b => a < b ∧ rAt row a ≤ rAt row b) ∧ ∀ x ∈ r, x < row.length
theorem inc_snoc {row : List Int} {q : List Nat} {i : Nat} : IsInc row (q ++ [i]) ↔ IsInc row q ∧ i < row.length ∧ (q ≠ [] → lastR q < i ∧ rAt row (lastR q) ≤ rAt row i) := by
  unfold IsInc
  rw [List.pairwise_append]
  constructor
  · rintro ⟨⟨h1, -, h2⟩, h3⟩
    refine ⟨⟨h1, fun x hx => h3 x (List.mem_append_left _ hx)⟩, h3 i (by simp), fun hq => ?_⟩
    obtain ⟨p, hp⟩ := snoc_of hq
    exact h2 (lastR q) (by rw [hp]; simp [lastR_snoc]) i (by simp)
  · rintro ⟨⟨h1, h2⟩, h3, h4⟩
    refine ⟨⟨h1, by simp, fun a ha b hb => ?_⟩, fun x hx => ?_⟩
    · simp at hb; subst hb
      have hq : q ≠ [] := fun e => by subst e; cases ha
      obtain ⟨h5, h6⟩ := h4 hq
      obtain ⟨p, hp⟩ := snoc_of hq
      rw [hp] at ha h1
      rcases List.mem_append.1 ha with ha | ha
      · have := (List.pairwise_append.1 h1).2.2 a ha (lastR q) (by simp)
        exact ⟨by omega, by omega⟩
      · simp at ha; subst ha; exact ⟨h5, h6⟩
    · rcases List.mem_append.1 hx with hx | hx
      · exact h2 x hx
      · simp at hx; subst hx; exact h3
/-- Such a part is what one pocket takes. -/
theorem inc_takes {row : List Int} {r : List Nat} (h : IsInc row r) : Takes row 1 r.length := by
  have hn : r.Nodup := List.Pairwise.imp (fun h => by omega) h.1
  refine ⟨(List.range row.length).map fun j => (rAt row j, if r.contains j then some 0 else none), ?_, ?_, ?_, ?_⟩
  · rw [List.map_map]
    apply List.ext_getElem
    · simp
    · intro j h1 h2
      simp only [List.getElem_map, List.getElem_range, Function.comp]
      unfold rAt
      rw [List.getD_eq_getElem?_getD, List.getElem?_eq_getElem h2]; rfl
  · unfold okL
    rw [List.pairwise_map]
    have : (List.range row.length).Pairwise (fun a b => a < b ∧ b < row.length) := by
      rw [List.pairwise_iff_getElem]
      intro i j hi hj hij
      simp at hi hj ⊢
      exact ⟨hij, hj⟩
    refine List.Pairwise.imp ?_ this
    intro a b ⟨hab, hb⟩ c h1 h2
    dsimp only at h1 h2 ⊢
    split at h1
    · split at h2
      · rename_i ha hb
        have ha : a ∈ r := by simpa using ha
        have hb : b ∈ r := by simpa using hb
        obtain ⟨i, hi, ei⟩ := List.getElem_of_mem ha
        obtain ⟨k, hk, ek⟩ := List.getElem_of_mem hb
        have hp := List.pairwise_iff_getElem.1 h.1
        rcases Nat.lt_trichotomy i k with hik | hik | hik
        · have := (hp i k hi hk hik).2
          rw [ei, ek] at this; exact this
        · subst hik; rw [ei] at ek; omega
        · have := (hp k i hk hi hik).1
          rw [ei, ek] at this; omega
      · cases h2
    · cases h1
  · intro p hp c hc
    obtain ⟨j, -, rfl⟩ := List.mem_map.1 hp
    dsimp only at hc
    split at hc
    · simp at hc; omega
    · cases hc
  · unfold cntL
    rw [List.countP_map, List.countP_eq_length_filter]
    have hmem : ∀ j, j ∈ (List.range row.length).filter ((fun p : Lg => p.2.isSome) ∘ fun j => (rAt row j, if r.contains j then some 0 else none)) ↔ j ∈ r := fun j => by
      rw [List.mem_filter, List.mem_range]
      simp only [Function.comp]
      constructor
      · rintro ⟨-, h2⟩
        split at h2
        · rename_i h3; simpa using h3
        · simp at h2
      · intro hj
        refine ⟨h.2 j hj, ?_⟩
        rw [if_pos (by simpa using hj)]; rfl
    have h1 := nodup_len _ _ (List.nodup_range.filter ((fun p : Lg => p.2.isSome) ∘ fun j => (rAt row j, if r.contains j then some 0 else none))) (fun j hj => (hmem j).1 hj)
    have h2 := nodup_len _ _ hn (fun j hj => (hmem j).2 hj)
    omega
theorem takes_inc {row : List Int} {s : Nat} (h : Takes row 1 s) : ∃ r, IsInc row r ∧ r.length = s := by
  obtain ⟨t, ht, hs⟩ := takes_right h
  refine ⟨(List.range row.length).filter fun j => decide (0 ≤ tAt t j), ⟨?_, fun x hx => List.mem_range.1 (List.mem_filter.1 hx).1⟩, ?_⟩
  · rw [List.pairwise_filter]
    have : (List.range row.length).Pairwise (fun a b => a < b ∧ b < row.length) := by
      rw [List.pairwise_iff_getElem]
      intro i j hi hj hij
      simp at hi hj ⊢
      exact ⟨hij, hj⟩
    refine List.Pairwise.imp ?_ this
    intro a b ⟨hab, hb⟩ h1 h2
    have h1 := of_decide_eq_true h1
    have h2 := of_decide_eq_true h2
    have b1 := ht.bd a (by omega)
    have b2 := ht.bd b hb
    exact ⟨hab, ht.inc b a hb hab h2 (by omega)⟩
  · rw [← hs]
    unfold takenB
    have e : t = (List.range row.length).map (tAt t) := by
      apply List.ext_getElem
      · simp [ht.len]
      · intro j h1 h2
        simp only [List.getElem_map, List.getElem_range]
        unfold tAt
        rw [List.getD_eq_getElem?_getD, List.getElem?_eq_getElem h1]; rfl
    conv => rhs; rw [e, List.countP_map, List.countP_eq_length_filter]
    rfl
/-- How long such a part that ends with a log can be, as a law finds it. -/
def upIn (row : List Int) (i : Nat) (long : List Int) (k : Nat) : Int := (List.range k).foldl (fun a k => if rAt row k ≤ rAt row i then max a (tAt long k + 1) else a) 1
def upTo (row : List Int) : Nat → List Int
  | 0 => List.replicate row.length 0
  | k + 1 => (upTo row k).set k (upIn row k (upTo row k) k)
def upBest (row : List Int) : Nat → Int
  | 0 => 0
  | k + 1 => max (upBest row k) (tAt (upTo row (k + 1)) k)
theorem upTo_len (row : List Int) (k : Nat) : (upTo row k).length = row.length := by
  induction k with
  | zero => simp [upTo]
  | succ k ih => simp [upTo, ih]
/-- The longest part that ends with a log. -/
def EndL (row : List Int) (i : Nat) (c : Int) : Prop := (∃ r, IsInc row (r ++ [i]) ∧ ((r ++ [i]).length : Int) = c) ∧ ∀ r, IsInc row (r ++ [i]) → ((r ++ [i]).length : Int) ≤ c
theorem upIn_spec {row : List Int} {i : Nat} (hi : i < row.length) {long : List Int} : ∀ k, k ≤ i → (∀ j, j < k → EndL row j (tAt long j)) →
    (∃ r, IsInc row (r ++ [i]) ∧ ((r ++ [i]).length : Int) = upIn row i long k) ∧ (∀ q j, j < k → IsInc row (q ++ [j] ++ [i]) → ((q ++ [j] ++ [i]).length : Int) ≤ upIn row i long k) ∧ 1 ≤ upIn row i long k := by
  intro k
  induction k with
  | zero =>
    intro _ _
    refine ⟨⟨[], inc_snoc.2 ⟨⟨List.Pairwise.nil, fun x hx => (by cases hx)⟩, hi, fun h => absurd rfl h⟩, rfl⟩, fun q j hj => by omega, by show (1 : Int) ≤ 1; omega⟩
  | succ k ih =>
    intro hk hl
    obtain ⟨⟨r, h1, h2⟩, h3, h4⟩ := ih (by omega) (fun j hj => hl j (by omega))
    obtain ⟨⟨rx, hx3, hx4⟩, hx5⟩ := hl k (by omega)
    have e : upIn row i long (k + 1) = if rAt row k ≤ rAt row i then max (upIn row i long k) (tAt long k + 1) else upIn row i long k := by
      unfold upIn; rw [List.range_succ, List.foldl_append]; rfl
    rw [e]
    split
    · rename_i hle
      refine ⟨?_, fun q j hj hr => ?_, by omega⟩
      · by_cases hc : tAt long k + 1 ≤ upIn row i long k
        · exact ⟨r, h1, by rw [h2]; omega⟩
        · refine ⟨rx ++ [k], inc_snoc.2 ⟨hx3, hi, fun _ => by rw [lastR_snoc]; exact ⟨by omega, hle⟩⟩, ?_⟩
          simp only [List.length_append, List.length_cons, List.length_nil] at hx4 ⊢
          omega
      · rcases Nat.lt_or_eq_of_le (Nat.le_of_lt_succ hj) with h5 | rfl
        · have := h3 q j h5 hr; omega
        · have := hx5 q (inc_snoc.1 hr).1
          simp only [List.length_append, List.length_cons, List.length_nil] at this ⊢
          omega
    · rename_i hle
      refine ⟨⟨r, h1, h2⟩, fun q j hj hr => ?_, h4⟩
      rcases Nat.lt_or_eq_of_le (Nat.le_of_lt_succ hj) with h5 | rfl
      · exact h3 q j h5 hr
      · have := ((inc_snoc.1 hr).2.2 (by simp)).2
        rw [lastR_snoc] at this
        exact absurd this hle
theorem up_spec {row : List Int} : ∀ k, k ≤ row.length → ∀ i, i < k → EndL row i (tAt (upTo row k) i) := by
  intro k
  induction k with
  | zero => intro _ i h; omega
  | succ k ih =>
    intro hk i hi
    have e : ∀ j, tAt (upTo row (k + 1)) j = if j = k then upIn row k (upTo row k) k else tAt (upTo row k) j := fun j => by
      show tAt ((upTo row k).set _ _) j = _
      exact tAt_set _ _ _ _ (by rw [upTo_len]; omega)
    rw [e]
    split
    · rename_i he
      subst he
      obtain ⟨g1, g2, g3⟩ := upIn_spec (i := i) (by omega) i (Nat.le_refl _) (fun j hj => ih (by omega) j hj)
      refine ⟨g1, fun r hr => ?_⟩
      by_cases hr0 : r = []
      · subst hr0
        simp only [List.nil_append, List.length_cons, List.length_nil]
        omega
      · obtain ⟨q, hq⟩ := snoc_of hr0
        have := ((inc_snoc.1 hr).2.2 hr0).1
        rw [hq] at hr ⊢
        exact g2 q (lastR r) this hr
    · exact ih (by omega) i (by omega)
theorem up_same {row : List Int} (i : Nat) : ∀ k k', k ≤ k' → k' ≤ row.length → i < k → tAt (upTo row k') i = tAt (upTo row k) i := by
  intro k k' h h1 h2
  obtain ⟨⟨r, q1, q2⟩, q3⟩ := up_spec k (Nat.le_trans h h1) i h2
  obtain ⟨⟨r', q1', q2'⟩, q3'⟩ := up_spec k' h1 i (Nat.lt_of_lt_of_le h2 h)
  have := q3 r' q1'
  have := q3' r q1
  omega
theorem upBest_ge {row : List Int} : ∀ k, k ≤ row.length → 0 ≤ upBest row k ∧ ∀ i, i < k → tAt (upTo row row.length) i ≤ upBest row k := by
  intro k
  induction k with
  | zero => intro _; exact ⟨Int.le_refl _, fun i h => by omega⟩
  | succ k ih =>
    intro hk
    obtain ⟨h0, h1⟩ := ih (by omega)
    have e := up_same (row := row) k (k + 1) row.length hk (Nat.le_refl _) (by omega)
    unfold upBest
    refine ⟨by omega, fun i hi => ?_⟩
    rcases Nat.lt_or_eq_of_le (Nat.le_of_lt_succ hi) with h2 | rfl
    · have := h1 i h2; omega
    · rw [e]; omega
theorem upBest_is {row : List Int} : ∀ k, k ≤ row.length → upBest row k = 0 ∨ ∃ i, i < k ∧ upBest row k = tAt (upTo row row.length) i := by
  intro k
  induction k with
  | zero => intro _; exact .inl rfl
  | succ k ih =>
    intro hk
    have e := up_same (row := row) k (k + 1) row.length hk (Nat.le_refl _) (by omega)
    unfold upBest
    rcases Int.le_total (upBest row k) (tAt (upTo row (k + 1)) k) with h | h
    · right; exact ⟨k, by omega, by rw [e]; omega⟩
    · rcases ih (by omega) with h1 | ⟨i, h1, h2⟩
      · left; omega
      · right; exact ⟨i, by omega, by omega⟩
/-- It is what one pocket takes. -/
theorem up_one (row : List Int) : upBest row row.length = (sumk 1 (tab row) : Nat) := by
  have h1 : upBest row row.length ≤ (sumk 1 (tab row) : Nat) := by
    rcases upBest_is (row := row) row.length (Nat.le_refl _) with h | ⟨i, hi, h⟩
    · omega
    · obtain ⟨⟨r, q1, q2⟩, -⟩ := up_spec row.length (Nat.le_refl _) i hi
      have := greene_le (inc_takes q1)
      omega
  obtain ⟨r, q1, q2⟩ := takes_inc (greene_ge row 1)
  have h2 : (r.length : Int) ≤ upBest row row.length := by
    obtain ⟨h0, h3⟩ := upBest_ge (row := row) row.length (Nat.le_refl _)
    by_cases hr : r = []
    · subst hr; simpa using h0
    · obtain ⟨q, hq⟩ := snoc_of hr
      have hl : lastR r < row.length := q1.2 _ (by
        have : lastR r ∈ q ++ [lastR r] := by simp
        rwa [← hq] at this)
      have h4 := (up_spec row.length (Nat.le_refl _) (lastR r) hl).2 q (by rw [← hq]; exact q1)
      rw [← hq] at h4
      have := h3 _ hl
      omega
  omega
theorem shape_zero {row : List Int} (h : row ≠ []) : (shapeL row)[0]? = some (sumk 1 (tab row)) := by
  have hl : 0 < (tab row).length := by
    apply Nat.pos_of_ne_zero
    intro h0
    have := tab_len row
    rw [h0] at this
    have : 0 < row.length := List.length_pos_iff.2 h
    simp [sumk] at *
    omega
  unfold shapeL
  cases ht : tab row with
  | nil => rw [ht] at hl; simp at hl
  | cons r t => simp [sumk]
end Go.Proofs.Ytclcippfodjfeaa
namespace Go.Proofs.Ytclcippfodjfeaa
set_option linter.unusedVariables false
set_option linter.unusedSimpArgs false
/-- All numbers are from lo to hi. -/
def inn (lo hi : Int) (xs : List Int) : Bool := xs.all fun x => decide (lo ≤ x) && decide (x ≤ hi)
theorem inn_snoc (lo hi : Int) (xs : List Int) (x : Int) : inn lo hi (xs ++ [x]) = (inn lo hi xs && (decide (lo ≤ x) && decide (x ≤ hi))) := by simp [inn]
theorem inn_false {lo hi : Int} {xs : List Int} {k : Nat} {x : Int} (h : xs[k]? = some x) (hx : x < lo ∨ hi < x) : inn lo hi xs = false := by
  unfold inn
  rw [List.all_eq_false]
  refine ⟨x, List.mem_of_getElem? h, ?_⟩
  rw [Bool.and_eq_true, decide_eq_true_iff, decide_eq_true_iff]
  omega
/-- Each number is greater than the one before it. -/
def upTo1 (xs : List Int) (k : Nat) : Bool := (List.range k).all fun i => i == 0 || decide (tAt xs (i - 1) < tAt xs i)
def upB (xs : List Int) : Bool := upTo1 xs xs.length
theorem upTo1_succ (xs : List Int) (k : Nat) : upTo1 xs (k + 1) = (upTo1 xs k && (k == 0 || decide (tAt xs (k - 1) < tAt xs k))) := by simp [upTo1, List.range_succ]
theorem upTo1_no {xs : List Int} {k n : Nat} (hk : k < n) (h0 : k ≠ 0) (h : tAt xs k ≤ tAt xs (k - 1)) : upTo1 xs n = false := by
  unfold upTo1
  rw [List.all_eq_false]
  exact ⟨k, List.mem_range.2 hk, by simp [h0]; omega⟩
def listB (n : Nat) (run : List Int) : Bool := inn 0 ((n : Int) - 1) run && upB run
def decTo (row run : List Int) (k : Nat) : Bool := (List.range k).all fun i => i == 0 || decide (rAt row (tAt run i).toNat < rAt row (tAt run (i - 1)).toNat)
def decB (row run : List Int) : Bool := decTo row run run.length
theorem decTo_succ (row run : List Int) (k : Nat) : decTo row run (k + 1) = (decTo row run k && (k == 0 || decide (rAt row (tAt run k).toNat < rAt row (tAt run (k - 1)).toNat))) := by simp [decTo, List.range_succ]
theorem decTo_no {row run : List Int} {k n : Nat} (hk : k < n) (h0 : k ≠ 0) (h : rAt row (tAt run (k - 1)).toNat ≤ rAt row (tAt run k).toNat) : decTo row run n = false := by
  unfold decTo
  rw [List.all_eq_false]
  exact ⟨k, List.mem_range.2 hk, by simp [h0]; omega⟩
/-- The error of a run. -/
def risE (row run : List Int) : Int := if listB row.length run = false then 3 else if decB row run = false then 16 else 0
def runE (row run : List Int) : Int := if chkR row ≠ 0 then chkR row else risE row run
def toN (run : List Int) : List Nat := run.map Int.toNat
theorem tAt_get {xs : List Int} {i : Nat} (h : i < xs.length) : xs[i] = tAt xs i := by unfold tAt; rw [List.getD_eq_getElem?_getD, List.getElem?_eq_getElem h]; rfl
theorem inn_at {lo hi : Int} {xs : List Int} : inn lo hi xs = true ↔ ∀ i, i < xs.length → lo ≤ tAt xs i ∧ tAt xs i ≤ hi := by
  unfold inn
  rw [List.all_eq_true]
  constructor
  · intro h i hi
    have := h _ (List.getElem_mem hi)
    rw [tAt_get hi] at this
    simpa using this
  · intro h x hx
    obtain ⟨i, hi, rfl⟩ := List.getElem_of_mem hx
    rw [tAt_get hi]
    simpa using h i hi
theorem step_all {xs : List Int} {R : Int → Int → Prop} (ht : ∀ a b c, R a b → R b c → R a c) (h : ∀ i, 0 < i → i < xs.length → R (tAt xs (i - 1)) (tAt xs i)) : ∀ d i, i + d + 1 < xs.length → R (tAt xs i) (tAt xs (i + d + 1)) := by
  intro d
  induction d with
  | zero => intro i hi; have := h (i + 1) (by omega) (by omega); simpa using this
  | succ d ih =>
    intro i hi
    have h1 := ih i (by omega)
    have h2 := h (i + d + 2) (by omega) (by omega)
    exact ht _ _ _ h1 h2
/-- A list that is checked is a run. -/
theorem risE_ok {row run : List Int} : risE row run = 0 ↔ IsRun row (toN run) ∧ ∀ x ∈ run, 0 ≤ x := by
  have hl : (toN run).length = run.length := by simp [toN]
  have hg : ∀ i (h : i < (toN run).length), (toN run)[i] = (tAt run i).toNat := fun i h => by
    have h' : i < run.length := by rw [hl] at h; exact h
    have h2 := tAt_get h'
    simp [toN, h2]
  unfold risE
  constructor
  · intro h
    have h1 : listB row.length run = true := by
      cases hc : listB row.length run
      · rw [hc, if_pos rfl] at h; cases h
      · rfl
    rw [h1, if_neg (by simp)] at h
    have h2 : decB row run = true := by
      cases hc : decB row run
      · rw [hc, if_pos rfl] at h; cases h
      · rfl
    unfold listB at h1
    rw [Bool.and_eq_true, inn_at] at h1
    obtain ⟨h3, h4⟩ := h1
    have hup : ∀ i, 0 < i → i < run.length → tAt run (i - 1) < tAt run i := fun i h0 hi => by
      unfold upB upTo1 at h4
      rw [List.all_eq_true] at h4
      have := h4 i (List.mem_range.2 hi)
      rw [Bool.or_eq_true, beq_iff_eq, decide_eq_true_iff] at this
      rcases this with h | h
      · omega
      · exact h
    have hdn : ∀ i, 0 < i → i < run.length → rAt row (tAt run i).toNat < rAt row (tAt run (i - 1)).toNat := fun i h0 hi => by
      unfold decB decTo at h2
      rw [List.all_eq_true] at h2
      have := h2 i (List.mem_range.2 hi)
      rw [Bool.or_eq_true, beq_iff_eq, decide_eq_true_iff] at this
      rcases this with h | h
      · omega
      · exact h
    have a1 := step_all (R := fun a b => a < b) (fun _ _ _ h1 h2 => Int.lt_trans h1 h2) hup
    have a2 := step_all (R := fun a b => rAt row b.toNat < rAt row a.toNat) (fun _ _ _ h1 h2 => Int.lt_trans h2 h1) hdn
    refine ⟨⟨?_, fun x hx => ?_⟩, fun x hx => ?_⟩
    · rw [List.pairwise_iff_getElem]
      intro i j hi hj hij
      rw [hg i hi, hg j hj]
      rw [hl] at hi hj
      have b1 := a1 (j - i - 1) i (by omega)
      have b2 := a2 (j - i - 1) i (by omega)
      rw [show i + (j - i - 1) + 1 = j by omega] at b1 b2
      have c1 := h3 i hi
      have c2 := h3 j hj
      exact ⟨by omega, by omega, b2⟩
    · obtain ⟨i, hi, rfl⟩ := List.getElem_of_mem hx
      rw [hg i hi]
      rw [hl] at hi
      have := h3 i hi
      omega
    · obtain ⟨i, hi, rfl⟩ := List.getElem_of_mem hx
      rw [tAt_get hi]
      exact (h3 i hi).1
  · rintro ⟨⟨h1, h2⟩, h3⟩
    rw [List.pairwise_iff_getElem] at h1
    have hn : ∀ i, i < run.length → 0 ≤ tAt run i := fun i hi => by rw [← tAt_get hi]; exact h3 _ (List.getElem_mem hi)
    have hlt : ∀ i, i < run.length → (tAt run i).toNat < row.length := fun i hi => by
      have := h2 _ (List.getElem_mem (by rw [hl]; exact hi : i < (toN run).length))
      rwa [hg] at this
    have h4 : listB row.length run = true := by
      unfold listB
      rw [Bool.and_eq_true, inn_at]
      refine ⟨fun i hi => ?_, ?_⟩
      · have := hn i hi; have := hlt i hi; omega
      · unfold upB upTo1
        rw [List.all_eq_true]
        intro i hi
        have hi := List.mem_range.1 hi
        rw [Bool.or_eq_true, beq_iff_eq, decide_eq_true_iff]
        by_cases h0 : i = 0
        · exact .inl h0
        · right
          have := (h1 (i - 1) i (by rw [hl]; omega) (by rw [hl]; exact hi) (by omega)).1
          rw [hg, hg] at this
          have := hn i hi
          have := hn (i - 1) (by omega)
          omega
    have h5 : decB row run = true := by
      unfold decB decTo
      rw [List.all_eq_true]
      intro i hi
      have hi := List.mem_range.1 hi
      rw [Bool.or_eq_true, beq_iff_eq, decide_eq_true_iff]
      by_cases h0 : i = 0
      · exact .inl h0
      · right
        have := (h1 (i - 1) i (by rw [hl]; omega) (by rw [hl]; exact hi) (by omega)).2.2
        rwa [hg, hg] at this
    rw [h4, h5]; rfl
/-- In how many lists, and how often, a log is. -/
def inCnt (runs : List (List Int)) (j : Nat) : Nat := (runs.map fun r => (toN r).count j).sum
def partB (n : Nat) (runs : List (List Int)) : Bool := (List.range n).all fun j => inCnt runs j == 1
theorem inCnt_flat (runs : List (List Int)) (j : Nat) : inCnt runs j = (runs.map toN).flatten.count j := by
  unfold inCnt
  rw [List.count_flatten, List.map_map]
  rfl
theorem partB_iff {row : List Int} {runs : List (List Int)} : partB row.length runs = true ↔ Parts row (runs.map toN) := by
  unfold partB Parts
  rw [List.all_eq_true]
  constructor
  · intro h j hj
    have := h j (List.mem_range.2 hj)
    rw [beq_iff_eq, inCnt_flat] at this
    exact this
  · intro h j hj
    rw [beq_iff_eq, inCnt_flat]
    exact h j (List.mem_range.1 hj)
def boundI (many : Int) (runs : List (List Int)) : Int := (runs.map fun r => min many (r.length : Int)).sum
theorem boundI_runB (many : Nat) : ∀ runs : List (List Int), boundI many runs = (runB many (runs.map toN) : Nat)
  | [] => rfl
  | r :: runs => by
    have ih := boundI_runB many runs
    unfold boundI runB at ih ⊢
    simp only [List.map_cons, List.sum_cons]
    rw [ih]
    simp [toN]
    omega
/-- The bound of runs, or the error. -/
def runsV (row : List Int) (many : Int) (runs : List (List Int)) : Int × Int :=
  if askE row many ≠ 0 then (0, askE row many) else if 30 < runs.length then (0, 6) else if (runs.all fun r => listB row.length r) = false then (0, 3) else if (runs.all fun r => decB row r) = false then (0, 16) else if partB row.length runs = false then (0, 14) else (boundI many runs, 0)
theorem runsV_ok {row : List Int} {many : Nat} {runs : List (List Int)} (hr : chkR row = 0) (hm : many ≤ 30) (h : (runsV row many runs).2 = 0) : (∀ r ∈ runs.map toN, IsRun row r) ∧ Parts row (runs.map toN) ∧ runsV row many runs = (((runB many (runs.map toN) : Nat) : Int), (0 : Int)) := by
  have ha : askE row many = 0 := by unfold askE; rw [if_neg (by simpa using hr), if_pos (by omega)]
  unfold runsV at h ⊢
  rw [if_neg (by simpa using ha)] at h ⊢
  by_cases h1 : 30 < runs.length
  · rw [if_pos h1] at h; cases h
  · rw [if_neg h1] at h ⊢
    by_cases h2 : (runs.all fun r => listB row.length r) = true
    · rw [if_neg (by rw [h2]; simp)] at h ⊢
      by_cases h3 : (runs.all fun r => decB row r) = true
      · rw [if_neg (by rw [h3]; simp)] at h ⊢
        by_cases h4 : partB row.length runs = true
        · rw [if_neg (by rw [h4]; simp)] at h ⊢
          refine ⟨fun r hr => ?_, partB_iff.1 h4, by rw [boundI_runB]⟩
          obtain ⟨q, hq, rfl⟩ := List.mem_map.1 hr
          rw [List.all_eq_true] at h2 h3
          exact (risE_ok.1 (by unfold risE; rw [h2 q hq, h3 q hq]; rfl)).1
        · rw [if_pos (by simpa using h4)] at h; cases h
      · rw [if_pos (by simpa using h3)] at h; cases h
    · rw [if_pos (by simpa using h2)] at h; cases h
theorem runsV_of {row : List Int} {many : Nat} {runs : List (List Int)} (hr : chkR row = 0) (hm : many ≤ 30) (hl : runs.length ≤ 30) (h1 : ∀ r ∈ runs, IsRun row (toN r) ∧ ∀ x ∈ r, 0 ≤ x) (h2 : Parts row (runs.map toN)) : runsV row many runs = (((runB many (runs.map toN) : Nat) : Int), (0 : Int)) := by
  have ha : askE row many = 0 := by unfold askE; rw [if_neg (by simpa using hr), if_pos (by omega)]
  have h3 : ∀ r ∈ runs, listB row.length r = true ∧ decB row r = true := fun r hr => by
    have := risE_ok.2 (h1 r hr)
    unfold risE at this
    cases ha : listB row.length r
    · rw [ha, if_pos rfl] at this; cases this
    · rw [ha, if_neg (by simp)] at this
      cases hb : decB row r
      · rw [hb, if_pos rfl] at this; cases this
      · exact ⟨rfl, rfl⟩
  have h4 : (runs.all fun r => listB row.length r) = true := List.all_eq_true.2 fun r hr => (h3 r hr).1
  have h5 : (runs.all fun r => decB row r) = true := List.all_eq_true.2 fun r hr => (h3 r hr).2
  unfold runsV
  rw [if_neg (by simpa using ha), if_neg (by omega), if_neg (by rw [h4]; simp), if_neg (by rw [h5]; simp), if_neg (by rw [partB_iff.2 h2]; simp), boundI_runB]
theorem tk_le {row : List Int} {F : List Lk} {m : Nat} (hF : Flow row F m) : tk F ≤ row.length := by
  unfold tk
  rw [thr_count hF]
  exact Nat.le_trans (List.length_filter_le _ _) (by simp)
/-- No more runs than logs. -/
theorem runs_few {row : List Int} {F : List Lk} {m : Nat} {p : Nat → Int} {st : St} (hF : Flow row F m) (hd : Done (stepsL row F) p st) (h : 1 ≤ m ∨ F = []) : (runsM row.length (fa st.1)).length ≤ row.length := by
  have hfe := fea_done hF hd
  have h0 := mark_01 hfe
  have hlen : (runsM row.length (fa st.1)).length = (fa st.1 1 - fa st.1 0).toNat + ((List.range row.length).filter fun i => !rises (fa st.1) i).length := by
    unfold runsM
    rw [List.length_append, List.length_map, List.length_map, List.length_range]
  rw [hlen]
  rcases h with h | h
  · have h1 := flow_ge hF hfe
    have h2 := tk_le hF
    have h3 : fa st.1 1 - fa st.1 0 ≤ m * (fa st.1 1 - fa st.1 0) := by
      have := Int.mul_le_mul_of_nonneg_right (show (1 : Int) ≤ m by omega) (show 0 ≤ fa st.1 1 - fa st.1 0 by omega)
      omega
    omega
  · subst h
    have h1 : (List.range row.length).filter (fun i => !rises (fa st.1) i) = [] := by
      rw [List.filter_eq_nil_iff]
      intro i hi hr
      have := stays_thr hfe (List.mem_range.1 hi) (by simpa using hr)
      cases this
    rw [h1]
    by_cases he : fa st.1 1 = fa st.1 0
    · rw [he]; simp
    · obtain ⟨ps, -, h3, -, h5⟩ := flow_next hF hd he
      have h6 := tk_le h3
      have h7 : tk ([] : List Lk) = 0 := rfl
      rw [h7] at h5
      simp only [List.length_nil]
      omega
end Go.Proofs.Ytclcippfodjfeaa
