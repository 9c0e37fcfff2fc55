/- Plain facts for MarkKept: a mark's first strokes that tell it, strokes joined, a worn mark by a number. -/
import Derived.Test.YtlgdnbpboonhdaaU7
import Derived.Test.YtlgdnbpboonhdaaY1
namespace Go.Proofs.Ytlgdnbpboonhdaa
open Go.RowKit Go.Shelf Go.Maps
set_option linter.unusedVariables false
attribute [local go_sem] Oper.semAt_some
theorem wornMod (x S : Nat) (h1 : 1 ≤ S) (h2 : S ≤ 10) : (x : Int) % wrap64 (2 ^ S) = ((x % 2 ^ S : Nat) : Int) := by
  have : S = 1 ∨ S = 2 ∨ S = 3 ∨ S = 4 ∨ S = 5 ∨ S = 6 ∨ S = 7 ∨ S = 8 ∨ S = 9 ∨ S = 10 := by omega
  rcases this with rfl | rfl | rfl | rfl | rfl | rfl | rfl | rfl | rfl | rfl <;> simp [wrap64]
theorem wornNz (S : Nat) (h1 : 1 ≤ S) (h2 : S ≤ 10) : ¬ wrap64 (2 ^ S) = 0 := by
  have : S = 1 ∨ S = 2 ∨ S = 3 ∨ S = 4 ∨ S = 5 ∨ S = 6 ∨ S = 7 ∨ S = 8 ∨ S = 9 ∨ S = 10 := by omega
  rcases this with rfl | rfl | rfl | rfl | rfl | rfl | rfl | rfl | rfl | rfl <;> simp [wrap64]
theorem wornLe (x S : Nat) : x % 2 ^ S ≤ full S := by
  have := Nat.mod_lt x (Nat.two_pow_pos S)
  unfold full; omega
theorem or_nat (a b : Nat) (ha : a < 2147483648) (hb : b < 2147483648) : bits .or .i64 (a : Int) (b : Int) = ((a ||| b : Nat) : Int) := by
  have hx : a ||| b < 2 ^ 31 := Nat.or_lt_two_pow (by omega) (by omega)
  show IntKind.i64.wrap ((BitVec.ofInt 64 (a : Int) ||| BitVec.ofInt 64 (b : Int)).toNat : Int) = _
  rw [BitVec.toNat_or, ofInt_i64 a (by omega), ofInt_i64 b (by omega), wrapi64]
  omega
theorem keepO_first {S L : Nat} {ms : List Nat} (hv : Valid S L ms) (i : Nat) {m : Nat} (hm : ms[i]? = some m) : IsFirst (tellL ms i (m + 1)) (keepO S ms i) := by
  have hm2 := hv.lt hm
  have h := first_isFirst (tellL ms i (m + 1)) (fun x hx => by
    unfold tellL at hx
    rw [List.mem_filter, List.mem_range] at hx
    omega)
  rw [keepO_of hv i hm h]
  exact h
theorem mem_tellL (ms : List Nat) (i k x : Nat) : x ∈ tellL ms i k ↔ x < k ∧ tellsB ms i x = true := by
  unfold tellL; rw [List.mem_filter, List.mem_range]
theorem sub_or (k o m : Nat) (h1 : sub k m = true) (h2 : sub o m = true) : sub (k ||| o) m = true := by
  rw [sub_spec] at *
  rw [Nat.and_or_distrib_right, h1, h2]
theorem sub_or_left (k o m : Nat) (h : sub (k ||| o) m = true) : sub k m = true := by
  refine sub_trans k (k ||| o) m ?_ h
  rw [sub_spec]
  apply Nat.eq_of_testBit_eq
  intro j
  rw [Nat.testBit_and, Nat.testBit_or]
  cases k.testBit j <;> rfl
theorem tells_more (ms : List Nat) (i k o : Nat) (h : tellsB ms i k = true) (ho : sub o (mAt ms i) = true) : tellsB ms i (k ||| o) = true := by
  unfold tellsB othB at *
  rw [Bool.and_eq_true, List.all_eq_true] at *
  refine ⟨sub_or _ _ _ h.1 ho, fun j hj => ?_⟩
  have h1 := h.2 j hj
  rw [Bool.or_eq_true] at *
  rcases h1 with h1 | h1
  · exact .inl h1
  · refine .inr ?_
    rw [Bool.not_eq_true', Bool.eq_false_iff] at *
    exact fun hc => h1 (sub_or_left _ _ _ hc)
end Go.Proofs.Ytlgdnbpboonhdaa
