/- Lists or errors, in one form, for the contracts of the laws. What the laws of stage 3 ask of rows, turnings and runs: plain facts. -/
import Derived.Test.YtclcippfodjfeaaF2
import Derived.Test.YtclcippfodjfeaaR9
import Derived.Test.YtclcippfodjfeaaR6
import Derived.Test.YtclcippfodjfeaaR7
import Derived.Test.YtclcippfodjfeaaW1
namespace Go.Proofs.Ytclcippfodjfeaa
open Go.RowKit
set_option linter.unusedVariables false
set_option linter.unusedSimpArgs false
def errL {α : Type} (c : Int) (xs : List α) : List α := if c = 0 then xs else []
theorem errL_ok {α : Type} (xs : List α) : errL 0 xs = xs := rfl
def ListE (w : World) (c : Int) (xs : List Int) (e : Ending) (w' : World) : Prop := ∃ a n cap, e = .returned (.tuple #[.slice a n cap, .int .i64 c]) ∧ Reads w' (.slice a n cap) (errL c xs) ∧ Ext w w'
theorem listRef_of {W : World} {f : Nat} {args : Array Value} {c : Int} {xs : List Int} (h : Calls Try.prog f args W (ListRef W c xs)) : Calls Try.prog f args W (ListE W c xs) :=
  h.mono fun e w' ⟨h1, h2⟩ => by
    rcases h1 with ⟨h, rfl⟩ | ⟨rfl, u, rfl, hr⟩
    · exact ⟨none, 0, 0, rfl, by unfold errL; rw [if_neg h]; exact Reads.nil w', h2⟩
    · obtain ⟨_, a, cap, rfl⟩ := hr.shape
      exact ⟨a, _, cap, rfl, hr, h2⟩
theorem place31r (v : Value) (row : List Int) (W : World) (h : Reads W v row) : Calls Try.prog 31 #[v] W (ListE W (chkR row) (placeI row)) :=
  (place31 v row W h).mono fun e w' ⟨h1, h2⟩ => by
    rcases h1 with ⟨h, rfl⟩ | ⟨h0, b, hb, rfl, hr⟩
    · exact ⟨none, 0, 0, rfl, by unfold errL; rw [if_neg h]; exact Reads.nil w', h2⟩
    · rw [h0]; unfold ListE; rw [errL_ok]
      have hl : (placeI row).length ≤ 5000 := by rw [place_len]; exact h.1
      exact ⟨_, _, _, rfl, hr.reads hl rfl ⟨Nat.le_refl _, by omega⟩, h2⟩
theorem refRun34n (v : Value) (row : List Int) (W : World) (h : Reads W v row) : Calls Try.prog 34 #[v] W (ListE W (chkR row) (natI (longM row))) := by
  have := refRun34 v row W h
  rw [← long_eq] at this
  exact listRef_of this
theorem turn29ok (v : Value) (row : List Int) (many : Int) (W : World) (h : Reads W v row) (ha : askE row many = 0) : Calls Try.prog 29 #[v, .int .i64 many] W fun e w' => ∃ t a n cap, turnV row many t = (mostV row many, 0) ∧ e = .returned (.tuple #[.slice a n cap, .int .i64 0]) ∧ Reads w' (.slice a n cap) t ∧ Ext W w' :=
  (turning29 v row many W h).mono fun e w' ⟨t, h1, h2⟩ => by
    obtain ⟨h3, h4⟩ := h1 ha
    obtain ⟨hc, -, m, rfl, hm⟩ := ask_ok ha
    rw [ha] at h2
    rcases h2.1 with ⟨h, -⟩ | ⟨-, u, rfl, hr⟩
    · exact absurd rfl h
    · obtain ⟨_, a, cap, rfl⟩ := hr.shape
      refine ⟨t, a, _, cap, ?_, rfl, hr, h2.2⟩
      rw [← h4]
      exact turnV_right hc hm (by simpa using h3)
theorem turn29no (v : Value) (row : List Int) (many : Int) (W : World) (h : Reads W v row) (ha : askE row many ≠ 0) : Calls Try.prog 29 #[v, .int .i64 many] W fun e w' => e = .returned (.tuple #[.slice none 0 0, .int .i64 (askE row many)]) ∧ Ext W w' :=
  (turning29 v row many W h).mono fun e w' ⟨t, h1, h2⟩ => by
    rcases h2.1 with ⟨-, h3⟩ | ⟨h3, -⟩
    · exact ⟨h3, h2.2⟩
    · exact absurd h3 ha
theorem runs40ok (v : Value) (row : List Int) (many : Int) (W : World) (h : Reads W v row) (ha : askE row many = 0) : Calls Try.prog 40 #[v, .int .i64 many] W fun e w' => ∃ t a n cap, (n ≤ 30 ∧ runsV row many t = (mostV row many, 0)) ∧ e = .returned (.tuple #[.slice a n cap, .int .i64 0]) ∧ ReadsL w' (.slice a n cap) t ∧ Ext W w' :=
  (runs40 v row many W h).mono fun e w' ⟨t, h1, h2⟩ => by
    obtain ⟨h3, h4⟩ := h1 ha
    rw [ha] at h2
    rcases h2.1 with ⟨h, -⟩ | ⟨-, u, rfl, hr⟩
    · exact absurd rfl h
    · obtain ⟨_, a, cap, rfl, -⟩ := hr.shape
      exact ⟨t, a, _, cap, ⟨h3, h4⟩, rfl, hr, h2.2⟩
theorem runs40no (v : Value) (row : List Int) (many : Int) (W : World) (h : Reads W v row) (ha : askE row many ≠ 0) : Calls Try.prog 40 #[v, .int .i64 many] W fun e w' => e = .returned (.tuple #[.slice none 0 0, .int .i64 (askE row many)]) ∧ Ext W w' :=
  (runs40 v row many W h).mono fun e w' ⟨t, h1, h2⟩ => by
    rcases h2.1 with ⟨-, h3⟩ | ⟨h3, -⟩
    · exact ⟨h3, h2.2⟩
    · exact absurd h3 ha
theorem turn20 (v vt : Value) (row t : List Int) (many x c : Int) (W : World) (h : Reads W v row) (ht : Reads W vt t) (e : turnV row many t = (x, c)) : Calls Try.prog 20 #[v, .int .i64 many, vt] W fun e w' => e = .returned (.tuple #[.int .i64 x, .int .i64 c]) ∧ Ext W w' := by
  have := refTurning20 v vt row t many W h ht
  rwa [e] at this
theorem turn19 (v vt : Value) (row t : List Int) (many x c : Int) (W : World) (h : Reads W v row) (ht : Reads W vt t) (e : turnV row many t = (x, c)) : Calls Try.prog 19 #[v, .int .i64 many, vt] W fun e w' => e = .returned (.tuple #[.int .i64 x, .int .i64 c]) ∧ Ext W w' := by
  have := checkTurning19 v vt row t many W h ht
  rwa [e] at this
theorem runs39 (v vt : Value) (row : List Int) (t : List (List Int)) (many x c : Int) (W : World) (h : Reads W v row) (ht : ReadsL W vt t) (e : runsV row many t = (x, c)) : Calls Try.prog 39 #[v, .int .i64 many, vt] W fun e w' => e = .returned (.tuple #[.int .i64 x, .int .i64 c]) ∧ Ext W w' := by
  have := refRuns39 v vt row many t W h ht
  rwa [e] at this
theorem runs38 (v vt : Value) (row : List Int) (t : List (List Int)) (many x c : Int) (W : World) (h : Reads W v row) (ht : ReadsL W vt t) (e : runsV row many t = (x, c)) : Calls Try.prog 38 #[v, .int .i64 many, vt] W fun e w' => e = .returned (.tuple #[.int .i64 x, .int .i64 c]) ∧ Ext W w' := by
  have := checkRuns38 v vt row many t W h ht
  rwa [e] at this
end Go.Proofs.Ytclcippfodjfeaa
namespace Go.Proofs.Ytclcippfodjfeaa
open Go.RowKit
set_option linter.unusedVariables false
set_option linter.unusedSimpArgs false
theorem ask_nat {row : List Int} (hc : chkR row = 0) {m : Nat} (hm : m ≤ 30) : askE row (m : Int) = 0 := by
  unfold askE; rw [if_neg (by simpa using hc), if_pos (by omega)]
theorem runE_ok {row run : List Int} (hc : chkR row = 0) : runE row run = 0 ↔ IsRun row (toN run) ∧ ∀ x ∈ run, 0 ≤ x := by
  unfold runE; rw [if_neg (by simpa using hc)]; exact risE_ok
theorem longI_len (row : List Int) : (natI (longM row)).length = (tab row).length := by rw [natI_len, ← few_long, few_tab]
theorem runE_long {row : List Int} (hc : chkR row = 0) : runE row (natI (longM row)) = 0 := (runE_ok hc).2 ⟨by rw [toN_natI]; exact (long_is row).run, natI_nn _⟩
theorem tab_ne (row : List Int) : ∀ r ∈ tab row, r ≠ [] := fun r hr => by
  have := shape_pos row r.length (List.mem_map.2 ⟨r, hr, rfl⟩)
  intro h; rw [h] at this; simp at this
theorem tab_le30 {row : List Int} (hc : chkR row = 0) : (tab row).length ≤ row.length := by
  have h := tab_len row
  have h2 : ∀ r ∈ tab row, r ≠ [] := (tab_ne row)
  have h3 : ∀ t : List (List Int), (∀ r ∈ t, r ≠ []) → t.length ≤ sumk t.length t := by
    intro t
    induction t with
    | nil => intro _; simp
    | cons a t ih =>
      intro h
      have h4 := ih (fun r hr => h r (by simp [hr]))
      have h5 : 1 ≤ a.length := List.length_pos_iff.2 (h a (by simp))
      show t.length + 1 ≤ a.length + sumk t.length t
      omega
  have := h3 (tab row) h2
  omega
theorem most_all {row : List Int} {m : Nat} : mostV row (m : Int) = row.length ↔ (tab row).length ≤ m := by
  rw [mostV_sumk]
  constructor
  · intro h
    apply Decidable.byContradiction
    intro hn
    have := sumk_less (tab_ne row) m (by omega)
    rw [tab_len] at this
    omega
  · intro h
    rw [sumk_all m (tab row) h, tab_len]
theorem run_few {row run : List Int} (hc : chkR row = 0) (h : runE row run = 0) : run.length ≤ (tab row).length := by
  obtain ⟨h1, -⟩ := (runE_ok hc).1 h
  have := (lfO_le.1 ((long_is row).best _ h1)).1
  rw [← few_tab, few_long]
  unfold toN at this
  simpa using this
theorem turn_most {row t : List Int} {m : Nat} (hc : chkR row = 0) (hm : m ≤ 30) (h : (turnV row m t).2 = 0) : (turnV row m t).1 ≤ mostV row m := by
  obtain ⟨h1, h2⟩ := right_turnV hc hm h
  have := greene_le (right_takes h1)
  rw [h2, mostV_sumk]
  show ((takenB t : Nat) : Int) ≤ _
  omega
theorem most_le {row : List Int} {m : Nat} : mostV row (m : Int) ≤ row.length := by
  rw [mostV_sumk]
  have h1 := tab_len row
  have h2 : sumk m (tab row) ≤ sumk (max m (tab row).length) (tab row) := sumk_le (Nat.le_max_left _ _) _
  rw [sumk_all (max m (tab row).length) _ (Nat.le_max_right _ _), h1] at h2
  omega
theorem turn_less {row t : List Int} {m : Nat} (hc : chkR row = 0) (hm : m ≤ 30) (h : (turnV row m t).2 = 0) : (turnV row m t).1 < row.length ∨ (tab row).length ≤ m := by
  have h1 := turn_most hc hm h
  have h2 := most_le (row := row) (m := m)
  by_cases h3 : mostV row (m : Int) = row.length
  · exact .inr (most_all.1 h3)
  · exact .inl (by omega)
theorem runs_most {row : List Int} {rs : List (List Int)} {m : Nat} (hc : chkR row = 0) (hm : m ≤ 30) (h : (runsV row m rs).2 = 0) : mostV row m ≤ (runsV row m rs).1 := by
  obtain ⟨h1, h2, h3⟩ := runsV_ok hc hm h
  obtain ⟨t, h4, h5⟩ := takes_right (greene_ge row m)
  have := weak h4 h1 h2
  rw [h3, mostV_sumk, ← h5]
  show _ ≤ ((runB m (rs.map toN) : Nat) : Int)
  omega
theorem wide_small {rs : List (List Int)} (h : wideB (rs.map List.length) = false) : rs.length ≤ 40 ∧ ∀ r ∈ rs, r.length ≤ 5000 := by
  unfold wideB at h
  simp only [Bool.or_eq_false_iff, decide_eq_false_iff_not, List.length_map] at h
  refine ⟨by omega, fun r hr => ?_⟩
  have := h.2
  rw [List.any_eq_false] at this
  have h3 := this r.length (List.mem_map.2 ⟨r, hr, rfl⟩)
  simp at h3
  omega
theorem rows_wide (a : Option Addr) (cap : Nat) (rs : List (List Int)) (w : World) (h : rs.length = 0 ∨ ∃ b off, a = some ⟨b, off, none⟩ ∧ ∀ i m, (rs.map List.length)[i]? = some m → ∃ a' cap', w.cell? ⟨b, off + i, none⟩ = some (.slice a' m cap')) :
    ∀ W, Ext w W → Calls Try.prog 37 #[.slice a rs.length cap] W fun e w' => e = .returned (.bool (wideB (rs.map List.length))) ∧ W = w' := fun W hE =>
  wide37 a rs.length cap (rs.map List.length) (by simp) W (fun _ => h.imp id (fun ⟨b, off, ha, hc⟩ => ⟨b, off, ha, fun i m hi => by
    obtain ⟨a', cap', h1⟩ := hc i m hi
    exact ⟨a', cap', cell_ext hE h1⟩⟩))
end Go.Proofs.Ytclcippfodjfeaa
