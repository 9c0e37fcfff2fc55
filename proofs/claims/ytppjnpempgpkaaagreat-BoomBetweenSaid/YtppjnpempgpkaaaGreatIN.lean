/- Cells put into sorted lists. -/
import Derived.Test.YtppjnpempgpkaaaGreatBE
import Derived.Test.YtppjnpempgpkaaaGreatWT
namespace Go.Proofs.YtppjnpempgpkaaaGreat
set_option linter.unusedVariables false
set_option linter.unusedSimpArgs false
def insN (n : Nat) : List Nat → List Nat
  | [] => [n]
  | x :: l => if n < x then n :: x :: l else x :: insN n l
theorem insN_cons (n x : Nat) (l : List Nat) : insN n (x :: l) = if n < x then n :: x :: l else x :: insN n l := rfl
theorem insL_nat (n : Nat) : ∀ l : List Nat, insL (n : Int) (natI l) = natI (insN n l)
  | [] => rfl
  | x :: l => by
    show (if (n : Int) < (x : Int) then (n : Int) :: (x : Int) :: natI l else (x : Int) :: insL (n : Int) (natI l)) = _
    rw [insN_cons, insL_nat n l]
    by_cases h : n < x
    · rw [if_pos h, if_pos (by omega)]; rfl
    · rw [if_neg h, if_neg (by omega)]; rfl
theorem mem_insN {n x : Nat} : ∀ {l : List Nat}, x ∈ insN n l ↔ x = n ∨ x ∈ l
  | [] => by simp [insN]
  | y :: l => by
    rw [insN_cons]
    by_cases h : n < y
    · rw [if_pos h, List.mem_cons]
    · rw [if_neg h, List.mem_cons, mem_insN, List.mem_cons]
      constructor
      · rintro (a | a | a)
        · exact .inr (.inl a)
        · exact .inl a
        · exact .inr (.inr a)
      · rintro (a | a | a)
        · exact .inr (.inl a)
        · exact .inl a
        · exact .inr (.inr a)
theorem insN_up {n : Nat} : ∀ {l : List Nat}, l.Pairwise (· < ·) → n ∉ l → (insN n l).Pairwise (· < ·)
  | [], _, _ => by simp [insN]
  | y :: l, h, hn => by
    rw [List.pairwise_cons] at h
    rw [insN_cons]
    by_cases hy : n < y
    · rw [if_pos hy, List.pairwise_cons, List.pairwise_cons]
      refine ⟨fun z hz => ?_, h⟩
      rcases List.mem_cons.1 hz with rfl | hz
      · exact hy
      · exact Nat.lt_trans hy (h.1 z hz)
    · rw [if_neg hy, List.pairwise_cons]
      refine ⟨fun z hz => ?_, insN_up h.2 (fun q => hn (List.mem_cons_of_mem _ q))⟩
      rcases mem_insN.1 hz with rfl | hz
      · have : z ≠ y := fun e => hn (by rw [e]; exact List.mem_cons_self ..)
        omega
      · exact h.1 z hz
theorem insN_lst {m n : Nat} {l : List Nat} (h : Lst m l) (hn : n < m) (hl : n ∉ l) : Lst m (insN n l) :=
  ⟨insN_up h.up hl, fun x hx => by
    rcases mem_insN.1 hx with rfl | hx
    · exact hn
    · exact h.lt x hx⟩
end Go.Proofs.YtppjnpempgpkaaaGreat
