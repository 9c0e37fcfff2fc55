/- The map from pairs of owners to worn marks: its keys. -/
import Derived.Test.YtlgdnbpboonhdaaR3
import Derived.Maps.OwnIn
import Derived.Maps.OwnSet
import Derived.Maps.Views
import Derived.DeepKeys4
namespace Go.Proofs.Ytlgdnbpboonhdaa
open Go.RowKit Go.Maps
set_option linter.unusedVariables false
theorem laidOut : laidOutB Try.prog = true := by kernel_rfl
theorem keyLaw76 : WideMaps.KeyLaw Try.prog 76 := deep_law_laid laidOut (m := 3) (by omega) (of_decide_eq_true (by kernel_rfl)) (by kernel_rfl) (by kernel_rfl)
theorem keyed76 : Keyed Try.prog 76 := Keyed.of_law keyLaw76
def kp (p : Nat × Nat) : Lit := .string (keyBytes [.int .i64 (p.1 : Int), .int .i64 (p.2 : Int)])
theorem wf_small (n : Nat) (h : n < 1000000) : (Lit.int .i64 (n : Int)).wf = true := WalkArith.wf_i64 (by omega)
theorem keyType76 : Try.prog.keyType 76 = true := by kernel_rfl
theorem cells76 : Try.prog.cellsOf 76 = 2 := by kernel_rfl
theorem kp_eq (a b : Nat) (ha : a < 1000) (hb : b < 1000) : keyOf Try.prog 76 (.agg #[.int .i64 (a : Int), .int .i64 (b : Int)]) = some (kp (a, b)) := by
  have h1 := wf_small a (by omega)
  have h2 := wf_small b (by omega)
  obtain ⟨N, hN⟩ : ∃ N, N + 1 = Try.prog.types.size := ⟨Try.prog.types.size - 1, by kernel_rfl⟩
  unfold keyOf
  rw [← hN]
  simp [Try.underlying76, Try.underlying3, keyType76, Value.formed, cells76, Program.keyLits, Value.cells, Try.cells3, h1, h2, kp]
theorem kp_inj {a b c d : Nat} (ha : a < 1000) (hb : b < 1000) (hc : c < 1000) (hd : d < 1000) (h : kp (a, b) = kp (c, d)) : (a, b) = (c, d) := by
  have h1 := kp_eq a b ha hb
  have h2 := kp_eq c d hc hd
  rw [h] at h1
  have := keyed76.inj h1 h2
  simp at this
  simp; omega
theorem kp_key (p : Nat × Nat) : WideAt.IsKeyLit (kp p) := trivial
/-- What a datum of a map holds, by pairs. -/
def MapIs (D : DataW Unit) (f : Nat × Nat → Option Nat) : Prop :=
  IsMap D ∧ (∀ a b, a < 1000 → b < 1000 → has D (kp (a, b)) = (f (a, b)).isSome ∧ ∀ s, f (a, b) = some s → D.atKey (kp (a, b)) (.lit (.int .i64 0)) = .lit (.int .i64 (s : Int))) ∧
    ∀ kl, has D kl = true → ∃ p : Nat × Nat, p.1 < 1000 ∧ p.2 < 1000 ∧ kl = kp p
theorem MapIs.empty : MapIs (.map []) (fun _ => none) := ⟨isMap_empty, fun a b _ _ => ⟨rfl, fun s h => by cases h⟩, fun kl h => by simp [has] at h⟩
theorem MapIs.put {D : DataW Unit} {f : Nat × Nat → Option Nat} (h : MapIs D f) (p : Nat × Nat) (hp : p.1 < 1000 ∧ p.2 < 1000) (s : Nat) : MapIs (D.put (kp p) (.lit (.int .i64 (s : Int)))) (fun q => if q = p then some s else f q) := by
  obtain ⟨pa, pb⟩ := p
  refine ⟨h.1.put _ _, fun a b ha hb => ?_, fun kl hk => ?_⟩
  rotate_left
  · by_cases e : kl = kp (pa, pb)
    · exact ⟨_, hp.1, hp.2, e⟩
    · rw [has_put_other e] at hk; exact h.2.2 kl hk
  by_cases e : (a, b) = (pa, pb)
  · rw [e]
    simp only [if_true]
    refine ⟨has_put_same h.1 (kp_key _) _, fun t ht => ?_⟩
    cases ht
    exact atKey_put_same h.1 (kp_key _) _ _
  · have hne : kp (a, b) ≠ kp (pa, pb) := fun hh => e (kp_inj ha hb hp.1 hp.2 hh)
    simp only [if_neg e]
    rw [has_put_other hne]
    refine ⟨(h.2.1 a b ha hb).1, fun t ht => ?_⟩
    rw [atKey_put_other hne]
    exact (h.2.1 a b ha hb).2 t ht
theorem MapIs.del {D : DataW Unit} {f : Nat × Nat → Option Nat} (h : MapIs D f) (p : Nat × Nat) (hp : p.1 < 1000 ∧ p.2 < 1000) : MapIs (D.del (kp p)) (fun q => if q = p then none else f q) := by
  obtain ⟨pa, pb⟩ := p
  refine ⟨h.1.del _, fun a b ha hb => ?_, fun kl hk => ?_⟩
  rotate_left
  · by_cases e : kl = kp (pa, pb)
    · exact ⟨_, hp.1, hp.2, e⟩
    · rw [has_del_other e] at hk; exact h.2.2 kl hk
  by_cases e : (a, b) = (pa, pb)
  · rw [e]
    simp only [if_true]
    exact ⟨has_del_same, fun t ht => by cases ht⟩
  · have hne : kp (a, b) ≠ kp (pa, pb) := fun hh => e (kp_inj ha hb hp.1 hp.2 hh)
    simp only [if_neg e]
    rw [has_del_other hne]
    refine ⟨(h.2.1 a b ha hb).1, fun t ht => ?_⟩
    rw [atKey_del_other hne]
    exact (h.2.1 a b ha hb).2 t ht
/-- A map of the call's own, from pairs to worn marks. -/
def ClMap (W : World) (b n : Nat) (f : Nat × Nat → Option Nat) : Prop := ∃ D, W.ownsMap Try.prog 76 (plainElem (H := Unit) Try.prog 3) b n D ∧ MapIs D f
theorem ClMap.made (w : World) : ClMap (w.alloc (.map #[] 0)) w.heap.size 0 (fun _ => none) := ⟨_, World.ownsMap_made _ _ _ _, MapIs.empty⟩
theorem ClMap.block {W W' : World} {b n : Nat} {f : Nat × Nat → Option Nat} (h : ClMap W b n f) (e : W'.heap[b]? = W.heap[b]?) : ClMap W' b n f := by
  obtain ⟨D, ⟨es, ck, hh, r⟩, hm⟩ := h
  exact ⟨D, ⟨es, ck, e.trans hh, r⟩, hm⟩
theorem ClMap.lt {W : World} {b n : Nat} {f : Nat × Nat → Option Nat} (h : ClMap W b n f) : b < W.heap.size := by
  obtain ⟨D, ⟨es, ck, hh, r⟩, hm⟩ := h
  exact (Array.getElem?_eq_some_iff.1 hh).1
theorem ClMap.ext {W W' : World} {b n : Nat} {f : Nat × Nat → Option Nat} (h : ClMap W b n f) (e : Ext W W') : ClMap W' b n f := h.block (e.block b h.lt)
theorem ClMap.more {W : World} {b n n' : Nat} {f : Nat × Nat → Option Nat} (h : ClMap W b n f) (hn : n ≤ n') : ClMap W b n' f := by
  obtain ⟨D, ⟨es, ck, hh, hf, hs, r⟩, hm⟩ := h
  exact ⟨D, ⟨es, ck, hh, hf, Nat.le_trans hs hn, r⟩, hm⟩
theorem ClMap.put {W : World} {b n : Nat} {f : Nat × Nat → Option Nat} (h : ClMap W b n f) (hn : n < 1000) (p : Nat × Nat) (hp : p.1 < 1000 ∧ p.2 < 1000) (s : Nat) (hs : s < 1000000) :
    ∃ w', (Instr.mapUpdate 73 (.map (some b)) (.agg #[.int .i64 (p.1 : Int), .int .i64 (p.2 : Int)]) (.int .i64 (s : Int))).run Try.prog W = .ok () w' ∧ ClMap w' b (n + 1) (fun q => if q = p then some s else f q) ∧ W.grownBy w' (some b) := by
  obtain ⟨D, ho, hm⟩ := h
  obtain ⟨w', h1, h2, h3⟩ := ho.update keyed76 Try.underlying73 (by unfold maxLen; omega) (kp_eq p.1 p.2 hp.1 hp.2) (plainElem_int (H := Unit) Try.underlying3 (wf_small s hs))
  exact ⟨w', h1, ⟨_, h2, hm.put p hp s⟩, h3⟩
end Go.Proofs.Ytlgdnbpboonhdaa
