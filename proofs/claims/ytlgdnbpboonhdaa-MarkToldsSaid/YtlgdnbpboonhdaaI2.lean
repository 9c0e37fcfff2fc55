/- A region in whatever order, by a relation that each operation keeps: what may come up is never nothing before all have come. -/
import Derived.Test.YtlgdnbpboonhdaaI
namespace Go.Proofs.Ytlgdnbpboonhdaa
open Go.RowKit
set_option linter.unusedVariables false
def backB (md : Region.Mode) (ops : Array Oper) : Bool := (List.range ops.size).all fun i =>
  match ops[i]? with
  | some o => o.after.toList.all fun e => !Region.binds md e || decide (e.on < i)
  | none => true
theorem backB_spec {md : Region.Mode} {ops : Array Oper} (h : backB md ops = true) {i : Nat} {o : Oper} (ho : ops[i]? = some o) {e} (he : e ∈ o.after) (hb : Region.binds md e = true) : e.on < i := by
  have hi : i < ops.size := (Array.getElem?_eq_some_iff.1 ho).1
  have h1 := List.all_eq_true.1 h i (List.mem_range.2 hi)
  rw [ho] at h1
  have h2 := List.all_eq_true.1 h1 e (Array.mem_toList_iff.2 he)
  rw [hb] at h2
  simpa using h2
theorem exists_least (p : Nat → Prop) [DecidablePred p] : ∀ n, p n → ∃ m, p m ∧ ∀ k, k < m → ¬ p k := by
  intro n
  induction n using Nat.strongRecOn with
  | _ n ih =>
    intro hn
    by_cases h : ∃ k, k < n ∧ p k
    · obtain ⟨k, hk, hp⟩ := h
      exact ih k hk hp
    · exact ⟨n, hn, fun k hk hp => h ⟨k, hk, hp⟩⟩
theorem ready_some {md : Region.Mode} {ops : Array Oper} (h : backB md ops = true) {listed : Array Bool} (hs : listed.size = ops.size) {n : Nat} (hn : listed[n]? = some false) : Region.ready md ops listed ≠ [] := by
  obtain ⟨m, hm, hl⟩ := exists_least (fun k => listed[k]? = some false) n hn
  have hlt := (Array.getElem?_eq_some_iff.1 hm).1
  have hmem : m ∈ Region.ready md ops listed := by
    refine mem_ready.2 ⟨by simp [hm], ops[m], by simp [← hs, hlt], fun e he hb => ?_⟩
    have h1 := backB_spec h (i := m) (by simp [← hs, hlt]) he hb
    have h2 := hl e.on h1
    have h3 : e.on < listed.size := by omega
    cases h4 : listed[e.on] with
    | true => simp [h3, h4]
    | false => exact absurd (by simp [h3, h4]) h2
  intro e
  rw [e] at hmem
  cases hmem
section
variable {F : Fence} {n : Nat} {P : Program} {ops : Array Oper} {Q : Exit → Act → World → Prop} {md : Region.Mode}
theorem wpAnyIn_inv2 (Inv : Array Bool → Act → World → Prop) (hback : backB md ops = true) (hsize : ∀ listed a w, Inv listed a w → listed.size = ops.size)
    (hstep : ∀ listed a w i oi, Inv listed a w → ops[i]? = some oi → listed[i]? = some false → (∀ e ∈ oi.after, Region.binds md e = true → listed[e.on]? = some true) →
      ∀ K : Act → World → Prop, (∀ a' w', Inv (listed.setIfInBounds i true) a' w' → K a' w') → wpOpIn F n P ops Q i K a w)
    (hdone : ∀ listed a w, Inv listed a w → listed = Array.replicate ops.size true → Q .normal a w) :
    ∀ f listed a w, listed.toList.count false = f → Inv listed a w → wpAnyIn F n P md ops Q f listed a w := by
  intro f
  induction f with
  | zero =>
    intro listed a w hc h
    have hall : ∀ b ∈ listed.toList, b = true := fun b hb => by
      have := List.count_eq_zero.1 hc
      cases b with
      | true => rfl
      | false => exact absurd hb this
    have hs := hsize _ _ _ h
    have he : listed = Array.replicate ops.size true := by
      apply Array.ext
      · simp [hs]
      · intro i h1 h2
        simp
        exact hall _ (Array.mem_toList_iff.2 (Array.getElem_mem h1))
    refine ⟨?_, hdone _ _ _ h he⟩
    cases hr : Region.ready md ops listed with
    | nil => rfl
    | cons x l =>
      have hx : x ∈ Region.ready md ops listed := by rw [hr]; simp
      obtain ⟨h1, oi, h2, _⟩ := mem_ready.1 hx
      have hi := (Array.getElem?_eq_some_iff.1 h2).1
      rw [he] at h1
      simp [hi] at h1
  | succ f ih =>
    intro listed a w hc h
    have hs := hsize _ _ _ h
    have hex : ∃ n1 : Nat, listed[n1]? = some false := by
      have hm : false ∈ listed.toList := List.count_pos_iff.1 (by omega)
      obtain ⟨n1, hn, he⟩ := List.getElem_of_mem hm
      exact ⟨n1, by rw [Array.getElem?_eq_some_iff]; exact ⟨by simpa using hn, by simpa using he⟩⟩
    obtain ⟨n0, hn0⟩ := hex
    refine ⟨fun h0 => absurd h0 (ready_some hback hs hn0), fun i hi => ?_⟩
    obtain ⟨h1, oi, h2, h3⟩ := mem_ready.1 hi
    have hi' := (Array.getElem?_eq_some_iff.1 h2).1
    have hli : i < listed.size := by omega
    have hlf : listed[i]? = some false := by simpa [hli] using h1
    refine hstep listed a w i oi h h2 hlf (fun e he hb => ?_) _ fun a' w' h' => ih _ a' w' ?_ h'
    · have h4 := h3 e he hb
      have h5 := backB_spec hback h2 he hb
      have h6 : e.on < listed.size := by omega
      simpa [h6] using h4
    · simp only [Array.toList_setIfInBounds]
      have hget : listed.toList[i]'(by simpa using hli) = false := by
        have := (Array.getElem?_eq_some_iff.1 hlf).2
        simpa using this
      rw [List.count_set (by simpa using hli), hget]
      simp at hc ⊢
      omega
end
end Go.Proofs.Ytlgdnbpboonhdaa
