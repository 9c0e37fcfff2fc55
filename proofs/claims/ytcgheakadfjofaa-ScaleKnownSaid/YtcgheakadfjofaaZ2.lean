/- A walk through a region in the order of its text: several operations at once that only read. -/
import Derived.Test.YtcgheakadfjofaaZ1
import Derived.BigQuiet
namespace Go.Proofs.Ytcgheakadfjofaa
open Go.RowKit
set_option linter.unusedVariables false
set_option linter.unusedSimpArgs false
/-- It only reads: what it gives is a value. -/
def readB (o : Oper) : Bool := match o.op with
  | .move _ | .assign _ | .pick _ _ _ | .nilCheck _ | .binOp _ _ _ _ _ | .unOp _ _ _ | .convert _ _ _ | .fieldAddr _ _ _ | .field _ _ _ | .indexAddr _ _ _ | .index _ _ _ | .extract _ _ | .slice _ _ _ _ _ | .build _ _ | .load _ _ | .makeFunc _ _ _ => true
  | _ => false
def VOnly (P : Program) (s : Sem Next) : Prop := ∀ w n w', s.run P w = .ok n w' → ∃ u, n = .value u
theorem VOnly.bind {P : Program} {α : Type} {s : Sem α} {f : α → Sem Next} (h : ∀ a, VOnly P (f a)) : VOnly P (s >>= f) := by
  intro w n w' hr
  rw [Sem.run_bind] at hr
  cases hs : s.run P w with
  | ok u w1 => rw [hs] at hr; exact h u w1 n w' hr
  | halt x w1 => rw [hs] at hr; simp at hr
theorem VOnly.pure {P : Program} (v : Value) : VOnly P (Pure.pure (Next.value v)) := by
  intro w n w' hr; simp at hr; exact ⟨v, hr.1.symm⟩
theorem VOnly.panic {P : Program} (e : RuntimeError) : VOnly P (runtimePanic e) := by
  have hp : ∀ v : Value, VOnly P (goPanic v) := fun v w n w' hr => by simp at hr
  unfold runtimePanic
  refine VOnly.bind fun p => ?_
  cases e
  all_goals dsimp only
  all_goals first
    | exact hp _
    | exact VOnly.bind fun _ => VOnly.bind fun _ => hp _
    | fail
theorem VOnly.unsup {P : Program} (e : Unsupported) : VOnly P (unsupported e) := by
  intro w n w' hr; simp at hr
theorem read_value {P : Program} {ρ : Operand → Value} {o : Oper} (ho : readB o = true) : VOnly P (execOp ρ o) := by
  unfold readB at ho
  unfold execOp
  split at ho
  rotate_right
  · simp at ho
  all_goals rename_i heq
  all_goals try (rw [heq]; dsimp only)
  all_goals try exact VOnly.pure _
  all_goals try exact VOnly.bind fun _ => VOnly.pure _
  split
  all_goals try exact VOnly.panic _
  all_goals try exact VOnly.pure _
  split
  all_goals try exact VOnly.panic _
  all_goals try exact VOnly.pure _
  refine VOnly.bind fun _ => VOnly.bind fun _ => ?_
  split
  · exact VOnly.bind fun _ => VOnly.pure _
  · exact VOnly.pure _
section
variable {P : Program} {ops : Array Oper} {Q : Exit → Act → World → Prop} {S : World → Prop}
/-- Distinct slots. -/
def partB (chunk : List Oper) (n : Nat) : Bool := chunk.all (fun o => readB o && takeB o && (match o.dst with | some d => decide (d < n) | none => false)) && decide ((chunk.map (·.dst)).Nodup)
theorem put_size (a : Act) (d : Option Tmp) (v : Value) : (a.put d v).tmps.size = a.tmps.size := by
  cases d <;> simp [Act.put]
theorem put_other {a : Act} {d : Tmp} {d' : Option Tmp} {v : Value} (h : some d ≠ d') : (a.put d' v).tmps[d]? = a.tmps[d]? := by
  cases d' with
  | none => rfl
  | some e =>
    simp only [Act.put]
    rw [Array.getElem?_setIfInBounds_ne (by intro h1; exact h (by rw [h1]))]
theorem put_same {a : Act} {d : Tmp} {v : Value} (h : d < a.tmps.size) : (a.put (some d) v).tmps[d]? = some v := by
  simp only [Act.put]
  rw [Array.getElem?_setIfInBounds_self_of_lt h]
theorem quiet_other (W : World) (aEnd : Act) (d : Tmp) : ∀ (chunk : List Oper) (a : Act), (∀ o ∈ chunk, o.dst ≠ some d) → wpQuiet P ops (fun w' => ∃ n, w' = W.drewN n) (fun a' => a' = aEnd) chunk a → a.tmps[d]? = aEnd.tmps[d]?
  | [], a, _, h => by have : a = aEnd := h; rw [this]
  | o :: rest, a, hd, h => by
    unfold wpQuiet at h
    have hne : some d ≠ o.dst := fun e => hd o (by simp) e.symm
    split at h
    · obtain ⟨v, -, h2⟩ := h
      rw [← put_other hne (v := v)]
      exact quiet_other W aEnd d rest _ (fun o' ho => hd o' (by simp [ho])) h2
    · rw [← put_other hne (v := undef)]
      exact quiet_other W aEnd d rest _ (fun o' ho => hd o' (by simp [ho])) h
theorem text_chunk_aux (aEnd : Act) (rest : List Oper) (w w1 : World) (hS1 : S w1) (hr : wpText P ops Q S rest aEnd w) :
    ∀ (chunk : List Oper) (a : Act), partB chunk a.tmps.size = true → (∀ W, S W → wpQuiet P ops (fun w' => ∃ n, w' = W.drewN n) (fun a' => a' = aEnd) chunk a) → wpText P ops Q S (chunk ++ rest) a w
  | [], a, _, h => by have : a = aEnd := h w1 hS1; rw [this]; exact hr
  | o :: chunk, a, hp, h => by
    obtain ⟨h1, h2⟩ := (Bool.and_eq_true _ _).mp hp
    have h2 := of_decide_eq_true h2
    rw [List.map_cons, List.nodup_cons] at h2
    have h1' := List.all_eq_true.1 h1
    have ho := h1' o (by simp)
    simp only [Bool.and_eq_true] at ho
    obtain ⟨⟨ho1, ho2⟩, ho3⟩ := ho
    have hpart : partB chunk a.tmps.size = true := by
      unfold partB
      rw [Bool.and_eq_true]
      exact ⟨List.all_eq_true.2 fun o' ho' => h1' o' (by simp [ho']), decide_eq_true h2.2⟩
    show wpText P ops Q S (o :: (chunk ++ rest)) a w
    by_cases hw : Region.wanted o (yielded ops a.tmps) = true
    · cases hd : o.dst with
      | none => rw [hd] at ho3; simp at ho3
      | some d =>
        rw [hd] at ho3
        have hdlt : d < a.tmps.size := of_decide_eq_true ho3
        -- the value is what the frame holds at the end
        have key : ∀ W, S W → ∃ v, (execOp a.eval o).run P W = .ok (.value v) W ∧ aEnd.tmps[d]? = some v ∧ wpQuiet P ops (fun w' => ∃ n, w' = W.drewN n) (fun a' => a' = aEnd) chunk (a.put o.dst v) := fun W hW => by
          have hq := h W hW
          unfold wpQuiet at hq
          rw [if_pos hw] at hq
          obtain ⟨v, hv, hq2⟩ := hq
          have hv0 := hv W ⟨0, rfl⟩
          unfold Oper.quietAt at hv0
          cases hr : (execOp a.eval o).run P W with
          | halt x w' => rw [hr] at hv0; exact hv0.elim
          | ok n w' =>
            obtain ⟨u, rfl⟩ := read_value ho1 W n w' hr
            rw [hr] at hv0
            obtain ⟨hw', hu⟩ := hv0
            subst hu
            refine ⟨u, by rw [hw'], ?_, hq2⟩
            have := quiet_other W aEnd d chunk (a.put o.dst u) (fun o' ho' e => h2.1 (by rw [hd, ← e]; exact List.mem_map_of_mem ho')) hq2
            rw [← this, hd]
            exact put_same hdlt
        obtain ⟨v, -, hv, -⟩ := key w1 hS1
        refine text_take (v := v) hw ho2 (fun W hW => ?_) ?_
        · obtain ⟨v', h3, h4, -⟩ := key W hW
          rw [hv] at h4
          cases h4
          exact h3
        · refine text_chunk_aux aEnd rest w w1 hS1 hr chunk _ (by rw [put_size]; exact hpart) fun W hW => ?_
          obtain ⟨v', h3, h4, h5⟩ := key W hW
          rw [hv] at h4
          cases h4
          exact h5
    · have hw' : Region.wanted o (yielded ops a.tmps) = false := by simpa using hw
      refine text_skip hw' (text_chunk_aux aEnd rest w w1 hS1 hr chunk _ (by rw [put_size]; exact hpart) fun W hW => ?_)
      have hq := h W hW
      unfold wpQuiet at hq
      rw [if_neg hw] at hq
      exact hq
/-- Several operations at once. -/
theorem text_chunk (n : Nat) {l : List Oper} {a aEnd : Act} {w : World} (hp : partB (l.take n) a.tmps.size = true) (hS : S w) (h : ∀ W, S W → wpQuiet P ops (fun w' => ∃ n, w' = W.drewN n) (fun a' => a' = aEnd) (l.take n) a) (hr : wpText P ops Q S (l.drop n) aEnd w) : wpText P ops Q S l a w := by
  have := text_chunk_aux aEnd (l.drop n) w w hS hr (l.take n) a hp h
  rwa [List.take_append_drop] at this
end
end Go.Proofs.Ytcgheakadfjofaa
