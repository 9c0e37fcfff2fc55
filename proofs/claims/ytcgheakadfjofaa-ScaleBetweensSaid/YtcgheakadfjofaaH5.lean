/- Plain facts for ScaleCut and ScaleBetween. -/
import Derived.Test.YtcgheakadfjofaaF4
namespace Go.Proofs.Ytcgheakadfjofaa
set_option linter.unusedVariables false
theorem placedE_ok {th bd : List Int} {r : Rl} (h : bothE th bd r = 0) {p : Nat} (hp : p ≤ th.length - 1) : placedE th bd r [(p : Int)] = 0 := by
  have h2 := (bothE_ok.1 h).1.two
  unfold placedE
  rw [if_pos h, if_pos]
  rw [inn_iff]
  intro x hx
  simp at hx
  subst hx
  omega
theorem kindE_ok {th bd : List Int} {r : Rl} (h : bothE th bd r = 0) {p : Nat} (hp : p ≤ th.length - 1) : kindE th bd r p = (kindV (sF th bd r) (th.length - 1) p, 0) := by
  unfold kindE
  rw [if_neg (by rw [placedE_ok h hp]; simp), Int.toNat_natCast]
theorem lossE_ok {th bd : List Int} {r : Rl} (h : bothE th bd r = 0) {p : Nat} (hp : p ≤ th.length - 1) : lossE th bd r p = (bst (sF th bd r) allB (th.length - 1) 0 - bst (sF th bd r) allB (th.length - 1) p - bst (sF th bd r) allB p 0, 0) := by
  unfold lossE
  rw [if_neg (by rw [placedE_ok h hp]; simp), Int.toNat_natCast]
theorem loss_nonneg {f : Nat → Nat → Int} {n p : Nat} (hp : p ≤ n) : 0 ≤ bst f allB n 0 - bst f allB n p - bst f allB p 0 := by
  have := bst_split_le (f := f) (lt := allB) (lt' := allB) hp (fun _ _ _ _ _ => rfl) 0 (Nat.zero_le _)
  omega
theorem kind_bd (f : Nat → Nat → Int) (n p : Nat) : 0 ≤ kindV f n p ∧ kindV f n p ≤ 2 := by
  unfold kindV
  split
  · omega
  · split <;> omega
theorem kind_loss {f : Nat → Nat → Int} {n p : Nat} (h : kindV f n p ≠ 0) : bst f allB n 0 - bst f allB n p - bst f allB p 0 = 0 := by
  have hc : cutsB f n p = true := by
    cases e : cutsB f n p
    · exfalso; apply h; unfold kindV; rw [if_pos e]
    · rfl
  have := may_loss (cutsB_iff.1 hc)
  omega
/-- Some log of a cutting begins or ends at a place. -/
def touchB (c : List (Int × Int)) (p : Int) : Bool := c.any fun q => q.1 == p || q.2 == p
theorem touchB_snoc (c : List (Int × Int)) (q : Int × Int) (p : Int) : touchB (c ++ [q]) p = (touchB c p || (q.1 == p || q.2 == p)) := by simp [touchB]
theorem touch_lgI {c : List (Nat × Nat)} {p : Nat} : touchB (lgI c) p = true ↔ ∃ q ∈ c, q.1 = p ∨ q.2 = p := by
  unfold touchB lgI
  simp only [List.any_map, List.any_eq_true, Function.comp, Bool.or_eq_true, beq_iff_eq, Int.natCast_inj]
theorem kind_touch {f : Nat → Nat → Int} {n p : Nat} {c : List (Nat × Nat)} (h : Cuts f allB n 0 c) (hs : sumF f c = bst f allB n 0) : (kindV f n p = 0 → touchB (lgI c) p = false) ∧ (kindV f n p = 2 → touchB (lgI c) p = true) := by
  obtain ⟨h1, h2⟩ := best_touch (x := p) h hs
  constructor
  · intro hk
    have hc : cutsB f n p = false := by
      unfold kindV at hk
      split at hk
      · assumption
      · split at hk <;> omega
    rw [Bool.eq_false_iff]
    intro ht
    obtain ⟨q, hq, he⟩ := touch_lgI.1 ht
    have := h1 hc q hq
    omega
  · intro hk
    unfold kindV at hk
    split at hk
    · omega
    · split at hk
      · exact touch_lgI.2 (h2 (by assumption))
      · omega
theorem betweenE_ok {th bd : List Int} {r r2 : Rl} (h : bothE th bd r = 0) (h2 : ruleE r2 = 0) : betweenE th bd r r2 = (btwV (sF th bd r) (sF th bd r2) (th.length - 1) 0, 0) := by
  unfold betweenE
  rw [if_neg (by simpa using h), if_neg (by simpa using h2)]
theorem btw_self (f : Nat → Nat → Int) (n : Nat) : btwV f f n 0 = (bst f allB n 0, bst f allB n 0) := by
  obtain ⟨⟨l, h1, h2, h3⟩, l', h4, h5, h6⟩ := btw_ends (f := f) (g := f) 0 (Nat.zero_le n)
  apply Prod.ext
  · dsimp only; omega
  · dsimp only; omega
theorem btw_bds {f g : Nat → Nat → Int} (hg : ∀ i j, 0 ≤ g i j) (n : Nat) : 0 ≤ (btwV f g n 0).1 ∧ (btwV f g n 0).1 ≤ (btwV f g n 0).2 ∧ (btwV f g n 0).2 ≤ bst g allB n 0 := by
  obtain ⟨⟨l, h1, h2, h3⟩, l', h4, h5, h6⟩ := btw_ends (f := f) (g := g) 0 (Nat.zero_le n)
  have h7 := btw_cuts (g := g) 0 (Nat.zero_le n) l h1 h2
  have h8 := sumF_le_bst hg l' 0 (Nat.zero_le n) h4
  have h9 : ∀ l : List (Nat × Nat), 0 ≤ sumF g l := fun l => by
    unfold sumF
    induction l with
    | nil => simp
    | cons a l ih => have := hg a.1 a.2; simp; omega
  have := h9 l
  omega
end Go.Proofs.Ytcgheakadfjofaa
