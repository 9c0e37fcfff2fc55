/- Chains: their corners, what the program counts and what the reference counts. -/
import Derived.Test.YtppjnpempgpkaaaGreatAA
namespace Go.Proofs.YtppjnpempgpkaaaGreat
set_option linter.unusedVariables false
set_option linter.unusedSimpArgs false
/-- The corners of a chain. -/
def pts : Pt → List Nat → List Pt
  | p, [] => [p]
  | p, k :: ks => p :: pts (mv p k) ks
theorem pts_eq : ∀ (p : Pt) (ks : List Nat), pts p ks = (sts p ks).map Prod.fst ++ [fin p ks]
  | p, [] => rfl
  | p, k :: ks => by unfold pts sts fin; rw [pts_eq (mv p k) ks]; rfl
theorem pts_len (p : Pt) (ks : List Nat) : (pts p ks).length = ks.length + 1 := by rw [pts_eq]; simp [sts_len]
theorem pts_head (p : Pt) (ks : List Nat) : (pts p ks)[0]? = some p := by cases ks <;> rfl
theorem fin_snoc : ∀ (p : Pt) (ks : List Nat) (k : Nat), fin p (ks ++ [k]) = mv (fin p ks) k
  | p, [], k => rfl
  | p, j :: ks, k => by show fin (mv p j) (ks ++ [k]) = _; rw [fin_snoc]; rfl
theorem sts_snoc : ∀ (p : Pt) (ks : List Nat) (k : Nat), sts p (ks ++ [k]) = sts p ks ++ [(fin p ks, k)]
  | p, [], k => rfl
  | p, j :: ks, k => by show (p, j) :: sts (mv p j) (ks ++ [k]) = _; rw [sts_snoc]; rfl
theorem pts_snoc (p : Pt) (ks : List Nat) (k : Nat) : pts p (ks ++ [k]) = pts p ks ++ [mv (fin p ks) k] := by
  rw [pts_eq, pts_eq, sts_snoc, fin_snoc]; simp
theorem pts_last (p : Pt) (ks : List Nat) : (pts p ks)[ks.length]? = some (fin p ks) := by
  rw [pts_eq, List.getElem?_append_right (by simp [sts_len])]
  simp [sts_len]
theorem fin_take_at : ∀ (p : Pt) (ks : List Nat) (i : Nat), i ≤ ks.length → (pts p ks)[i]? = some (fin p (ks.take i))
  | p, [], 0, _ => rfl
  | p, k :: ks, 0, _ => rfl
  | p, k :: ks, i + 1, h => by
    show (pts (mv p k) ks)[i]? = _
    rw [fin_take_at (mv p k) ks i (by simpa using h)]
    rfl
theorem sts_at : ∀ (p : Pt) (ks : List Nat) (i k : Nat), ks[i]? = some k → (sts p ks)[i]? = some (fin p (ks.take i), k)
  | p, j :: ks, 0, k, h => by simp at h; subst h; rfl
  | p, j :: ks, i + 1, k, h => by
    show (sts (mv p j) ks)[i]? = _
    rw [sts_at (mv p j) ks i k (by simpa using h)]
    rfl
theorem fin_take_succ (p : Pt) {ks : List Nat} {i k : Nat} (h : ks[i]? = some k) : fin p (ks.take (i + 1)) = mv (fin p (ks.take i)) k := by
  rw [List.take_add_one, h]; exact fin_snoc p _ k
/-- A chain is closed, its corners are different. -/
def clsd (p : Pt) (ks : List Nat) : Bool := decide (fin p ks = p) && decide (((sts p ks).map Prod.fst).Nodup)
theorem clsd_iff {p : Pt} {ks : List Nat} : clsd p ks = true ↔ fin p ks = p ∧ ((sts p ks).map Prod.fst).Nodup := by unfold clsd; simp
/-- As the program asks: later corners are different, the last one is the first one. -/
theorem clsd_later {p : Pt} {ks : List Nat} (h : ks ≠ []) : clsd p ks = (decide ((pts p ks).tail.Nodup) && decide (fin p ks = p)) := by
  obtain ⟨k, ks, rfl⟩ : ∃ k ks', ks = k :: ks' := by cases ks with
    | nil => exact absurd rfl h
    | cons k ks => exact ⟨k, ks, rfl⟩
  unfold clsd
  by_cases hf : fin p (k :: ks) = p
  · have hp : (pts p (k :: ks)).tail.Perm ((sts p (k :: ks)).map Prod.fst) := by
      rw [pts_eq, hf]
      show (((sts (mv p k) ks).map Prod.fst) ++ [p]).Perm (p :: (sts (mv p k) ks).map Prod.fst)
      exact List.perm_append_comm
    rw [decide_eq_true hf, Bool.true_and, Bool.and_true, decide_eq_decide]
    exact hp.nodup_iff.symm
  · rw [decide_eq_false hf, Bool.false_and, Bool.and_false]
theorem clsd_lp {p : Pt} {ks : List Nat} (hk : ∀ k ∈ ks, k < 4) (h3 : 3 ≤ ks.length) (h : clsd p ks = true) : Lp (sts p ks) := lp_of hk (clsd_iff.1 h).1 (clsd_iff.1 h).2 h3
/-- What a stick adds to the count of a cell, in the program. -/
def rw8 (c : Nat) (s : Stk) : Int := if s.1.1 ≤ cx c then (if s.2 = 1 ∧ s.1.2 = cy c then -1 else if s.2 = 3 ∧ s.1.2 = cy c + 1 then 1 else 0) else 0
theorem Lp.rw8 {l : List Stk} (h : Lp l) (c : Nat) : sm (YtppjnpempgpkaaaGreat.rw8 c) l = Wd l (cx c) (cy c) := by
  have h1 := h.cl fun q => if cy c < q.2 then 1 else 0
  have h2 : sm (fun s => wv (cx c) (cy c) s - YtppjnpempgpkaaaGreat.rw8 c s) l = 0 := by
    rw [← h1]
    refine sm_congr fun s hs => ?_
    have h2 := h.lt s hs
    obtain ⟨⟨X, Y⟩, j⟩ := s
    dsimp only at h2
    unfold wv YtppjnpempgpkaaaGreat.rw8
    dsimp only
    rcases four h2 with rfl | rfl | rfl | rfl <;> simp [mv, mvy] <;> (repeat' split) <;> omega
  rw [sm_sub] at h2
  unfold Wd
  omega
/-- What a stick adds to the crossings of a cell, in the reference. -/
def crs (c : Nat) (s : Stk) : Int := if cx c < s.1.1 ∧ (s.2 = 1 ∧ s.1.2 = cy c ∨ s.2 = 3 ∧ s.1.2 = cy c + 1) then 1 else 0
theorem crs_mod (c : Nat) : ∀ l : List Stk, (sm (crs c) l - Wd l (cx c) (cy c)) % 2 = 0 ∧ 0 ≤ sm (crs c) l
  | [] => by simp [sm, Wd]
  | s :: l => by
    have ih := crs_mod c l
    unfold Wd at ih ⊢
    rw [sm_cons, sm_cons]
    have : (crs c s = wv (cx c) (cy c) s ∨ crs c s = wv (cx c) (cy c) s + 2) ∧ 0 ≤ crs c s := by
      unfold crs wv
      obtain ⟨⟨X, Y⟩, j⟩ := s
      dsimp only
      by_cases hX : cx c < X
      · by_cases h1 : j = 1 ∧ Y = cy c
        · simp [hX, h1]
        · by_cases h3 : j = 3 ∧ Y = cy c + 1
          · simp [hX, h3]
          · simp [hX, h1, h3]
      · simp [hX]
    omega
theorem Lp.odd {l : List Stk} (h : Lp l) (hb : ∀ s ∈ l, onB s.1) (c : Nat) : decide (sm (crs c) l % 2 = 1) = wat l c := by
  obtain ⟨r, hr, -, hv⟩ := h.vals fun s hs => (hb s hs).1.2
  have h1 := crs_mod c l
  have h2 := hv (cx c) (cy c)
  unfold wat
  by_cases h0 : Wd l (cx c) (cy c) = 0
  · rw [decide_eq_true h0]
    exact decide_eq_false (by omega)
  · rw [decide_eq_false h0]
    exact decide_eq_true (by omega)
/-- The cells that a chain encloses, how many, and on which side. -/
def encl (l : List Stk) : List Nat := (List.range 64).filter (wat l)
def lftB (l : List Stk) : Bool := (List.range 64).any fun c => decide (0 < Wd l (cx c) (cy c))
def area (l : List Stk) : Int := sm (fun s => s.1.1 * mvy s.2) l
theorem Lp.area {l : List Stk} (h : Lp l) (hb : ∀ s ∈ l, onB s.1) : ((encl l).length : Int) = max (YtppjnpempgpkaaaGreat.area l) (-YtppjnpempgpkaaaGreat.area l) ∧ lftB l = decide (0 < YtppjnpempgpkaaaGreat.area l) ∧ stk G8 (wat l) = l.length := by
  obtain ⟨h1, h2, h3⟩ := h.done hb
  have hl : (encl l).length = (List.range 64).countP (wat l) := by unfold encl; rw [List.countP_eq_length_filter]
  have hpos : ∃ c, c < 64 ∧ wat l c = true := by
    obtain ⟨c, hc, hw⟩ := List.countP_pos_iff.1 h2
    exact ⟨c, List.mem_range.1 hc, hw⟩
  rw [hl]
  unfold YtppjnpempgpkaaaGreat.area
  generalize (List.range 64).countP (wat l) = n at *
  rcases h3 with ⟨h3, h4⟩ | ⟨h3, h4⟩
  · refine ⟨by rw [h4]; omega, ?_, h1⟩
    rw [decide_eq_true (by rw [h4]; omega)]
    obtain ⟨c, hc, hw⟩ := hpos
    unfold lftB
    rw [List.any_eq_true]
    refine ⟨c, List.mem_range.2 hc, ?_⟩
    unfold wat at hw
    have := h3 (cx c) (cy c)
    simp at hw ⊢
    omega
  · refine ⟨by rw [h4]; omega, ?_, h1⟩
    rw [decide_eq_false (by rw [h4]; omega)]
    unfold lftB
    rw [List.any_eq_false]
    intro c hc
    have := h3 (cx c) (cy c)
    simp
    omega
end Go.Proofs.YtppjnpempgpkaaaGreat
