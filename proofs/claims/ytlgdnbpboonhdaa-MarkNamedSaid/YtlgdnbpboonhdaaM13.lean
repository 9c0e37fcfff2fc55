/- Arrays of twelve numbers: how two compare, and what the greatest of those that are lost is. -/
import Derived.Test.YtlgdnbpboonhdaaM12
import Derived.Test.YtlgdnbpboonhdaaM8
import Derived.Laws.StructEq
import Derived.ChangeKeysEq
namespace Go.Proofs.Ytlgdnbpboonhdaa
open Go.RowKit
set_option linter.unusedVariables false
/-- The twelve numbers that are lost. -/
def lostL (i k : Nat) (d e : Int) : List Int := ((List.replicate 12 0).set i d).set k e
theorem lostL_length (i k : Nat) (d e : Int) : (lostL i k d e).length = 12 := by simp [lostL]
theorem lostA (i k : Nat) (d e : Int) : (z12.setIfInBounds i (.int .i64 d)).setIfInBounds k (.int .i64 e) = ((lostL i k d e).map (Value.int .i64)).toArray := by
  have hz : z12 = ((List.replicate 12 (0 : Int)).map (Value.int .i64)).toArray := rfl
  rw [hz]
  simp [lostL, List.map_set]
theorem mem_lostL (i k : Nat) (d e x : Int) (hx : x ∈ lostL i k d e) : x = 0 ∨ x = d ∨ x = e := by
  rcases List.mem_or_eq_of_mem_set hx with hx | rfl
  · rcases List.mem_or_eq_of_mem_set hx with hx | rfl
    · exact Or.inl (List.eq_of_mem_replicate hx)
    · exact Or.inr (Or.inl rfl)
  · exact Or.inr (Or.inr rfl)
theorem d_mem_lostL (i k : Nat) (d e : Int) (hi : i < 12) (hk : k < 12) (hne : i ≠ k) : d ∈ lostL i k d e ∧ e ∈ lostL i k d e := by
  constructor
  · refine List.mem_of_getElem? (i := i) ?_
    unfold lostL
    rw [List.getElem?_set_ne (by omega), List.getElem?_set_self (by simpa using hi)]
  · refine List.mem_of_getElem? (i := k) ?_
    unfold lostL
    rw [List.getElem?_set_self (by simpa using hk)]
theorem foldl_max_mem : ∀ (xs : List Int) (x : Int), xs.foldl max x ∈ x :: xs
  | [], x => by simp
  | y :: l, x => by
    have := foldl_max_mem l (max x y)
    simp only [List.foldl_cons]
    rcases List.mem_cons.1 this with h | h
    · rw [h]
      by_cases hxy : x ≤ y
      · rw [Int.max_eq_right hxy]; simp
      · rw [Int.max_eq_left (by omega)]; simp
    · simp [h]
theorem foldl_max_ge : ∀ (xs : List Int) (x : Int), ∀ y ∈ x :: xs, y ≤ xs.foldl max x
  | [], x, y, h => by simp at h; subst h; exact Int.le_refl _
  | z :: l, x, y, h => by
    simp only [List.foldl_cons]
    rcases List.mem_cons.1 h with rfl | h
    · have := foldl_max_ge l (max y z) (max y z) (by simp); omega
    · rcases List.mem_cons.1 h with rfl | h
      · have := foldl_max_ge l (max x y) (max x y) (by simp); omega
      · exact foldl_max_ge l (max x z) y (by simp [h])
theorem max_lost (i k : Nat) (d e : Int) (hi : i < 12) (hk : k < 12) (hne : i ≠ k) (hd : 0 ≤ d) (he : 0 ≤ e) (x0 : Int) (xs : List Int) (h : lostL i k d e = x0 :: xs) : xs.foldl max x0 = max d e := by
  have h1 := foldl_max_mem xs x0
  have h2 := foldl_max_ge xs x0
  rw [← h] at h1 h2
  have h3 := mem_lostL i k d e _ h1
  have h4 := d_mem_lostL i k d e hi hk hne
  have h5 := h2 d h4.1
  have h6 := h2 e h4.2
  omega
theorem zero_lost (i k : Nat) (d e : Int) (hi : i < 12) (hk : k < 12) (hne : i ≠ k) : (lostL i k d e).all (· == 0) = decide (d = 0 ∧ e = 0) := by
  rw [Bool.eq_iff_iff]
  simp only [List.all_eq_true, decide_eq_true_eq, beq_iff_eq]
  constructor
  · intro h
    have h4 := d_mem_lostL i k d e hi hk hne
    exact ⟨h _ h4.1, h _ h4.2⟩
  · rintro ⟨rfl, rfl⟩ x hx
    have := mem_lostL i k 0 0 x hx
    omega
theorem Try.infoSome3 : ∃ i, Try.prog.info? 3 = some i := by
  obtain ⟨i, hi, _⟩ := info_parts Try.info3
  exact ⟨i, hi⟩
theorem Try.cells3 : Try.prog.cellsOf 3 = 1 := by kernel_rfl
theorem part3 (xs : List Int) (j : Nat) (h : j < xs.length) (w : World) : (part 3 (xs.map (Value.int .i64)).toArray j).run Try.prog w = .ok (.int .i64 (xs.getD j 0)) w := by
  simp [part, isAgg, run_underlying Try.underlying3, h]
theorem eqItems3 (d : Nat) (xs ys : List Int) (w : World) : ∀ is : List Nat, (∀ j ∈ is, j < xs.length ∧ j < ys.length) →
    (Op.eqItems (d + 1) 3 1 (xs.map (Value.int .i64)).toArray (ys.map (Value.int .i64)).toArray is).run Try.prog w = .ok (is.all fun j => xs.getD j 0 == ys.getD j 0) w
  | [], _ => by simp [Op.eqItems]
  | j :: is, h => by
    have hj := h j (by simp)
    have ih := eqItems3 d xs ys w is fun i hi => h i (by simp [hi])
    have p1 := part3 xs j hj.1 w
    have p2 := part3 ys j hj.2 w
    have p3 := run_equalIn_int (P := Try.prog) w d 3 .i64 .i64 (xs.getD j 0) (ys.getD j 0) Try.underlying3
    simp only [Op.eqItems, Nat.mul_one, Sem.run_bind, p1, p2, p3, Result.andThen_ok, List.all_cons]
    cases hb : (xs.getD j 0 == ys.getD j 0)
    · simp
    · simpa using ih
theorem repl_getD (N j : Nat) : (List.replicate N (0 : Int)).getD j 0 = 0 := by
  simp only [List.getD, List.getElem?_replicate]; split <;> rfl
theorem all12 (xs : List Int) (h : xs.length = 12) : ((List.range 12).all fun j => xs.getD j 0 == (List.replicate 12 (0 : Int)).getD j 0) = xs.all (· == 0) := by
  simp only [repl_getD]
  rw [Bool.eq_iff_iff]
  simp only [List.all_eq_true, List.mem_range, beq_iff_eq]
  constructor
  · intro hh x hx
    obtain ⟨j, hj, rfl⟩ := List.mem_iff_getElem.1 hx
    have := hh j (by omega)
    simpa [List.getD, hj] using this
  · intro hh j hj
    have hx : j < xs.length := by omega
    have := hh xs[j] (List.getElem_mem hx)
    simp [List.getD, hx, this]
theorem eql12 (xs : List Int) (h : xs.length = 12) (w : World) : (binOp .eql 102 (.agg (xs.map (Value.int .i64)).toArray) (.agg z12)).run Try.prog w = .ok (.bool (xs.all (· == 0))) w := by
  obtain ⟨i, hi⟩ := Try.infoSome3
  have hz : z12 = ((List.replicate 12 (0 : Int)).map (Value.int .i64)).toArray := rfl
  obtain ⟨D, hD⟩ : ∃ D, 10000 = D + 1 + 1 := ⟨9998, rfl⟩
  rw [run_eql_struct, hz, hD, run_equalIn_array w (D + 1) _ _ Try.underlying102 hi, Try.cells3, eqItems3 D xs (List.replicate 12 0) w (List.range 12) (fun j hj => by simp at hj; simp; omega)]
  clear hD
  have key : ((List.range 12).all fun j => xs.getD j 0 == (List.replicate 12 (0 : Int)).getD j 0) = xs.all (· == 0) := all12 xs h
  rw [key]
  rfl
end Go.Proofs.Ytlgdnbpboonhdaa
