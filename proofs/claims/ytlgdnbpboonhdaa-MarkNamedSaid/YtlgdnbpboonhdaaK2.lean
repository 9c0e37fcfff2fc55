/- The map from pairs of owners to worn marks: its keys. A region in whatever order, by a relation that each operation keeps: one walk an operation. A region in whatever order, by a relation that each operation keeps: what may come up is never nothing before all have come. The map from pairs to worn marks: looking up, and its keys one after another. -/
import Derived.Test.YtlgdnbpboonhdaaR3
import Derived.Maps.OwnIn
import Derived.Maps.OwnSet
import Derived.Maps.Views
import Derived.DeepKeys4
import Derived.OrdersIn
import Derived.Sort.MapsRangeIn
import Derived.Lib.SlKeysI
import Derived.RangeFuncSeq
namespace Go.Proofs.Ytlgdnbpboonhdaa
open Go.RowKit Go.Maps
set_option linter.unusedVariables false
theorem laidOut : laidOutB Try.prog = true := by kernel_rfl
theorem keyLaw76 : WideMaps.KeyLaw Try.prog 76 := deep_law_laid laidOut (m := 3) (by omega) (of_decide_eq_true (by kernel_rfl)) (by kernel_rfl) (by kernel_rfl)
theorem keyed76 : Keyed Try.prog 76 := Keyed.of_law keyLaw76
def kp (p : Nat × Nat) : Lit := .string (keyBytes [.int .i64 (p.1 : Int), .int .i64 (p.2 : Int)])
theorem wf_small (n : Nat) (h : n < 1000000) : (Lit.int .i64 (n : Int)).wf = true := WalkArith.wf_i64 (by omega)
theorem keyType76 : Try.prog.keyType 76 = true := by kernel_rfl
theorem cells76 : Try.prog.cellsOf 76 = 2 := by kernel_rfl
theorem kp_eq (a b : Nat) (ha : a < 1000) (hb : b < 1000) : keyOf Try.prog 76 (.agg #[.int .i64 (a : Int), .int .i64 (b : Int)]) = some (kp (a, b)) := by
  have h1 := wf_small a (by omega)
  have h2 := wf_small b (by omega)
  obtain ⟨N, hN⟩ : ∃ N, N + 1 = Try.prog.types.size := ⟨Try.prog.types.size - 1, by kernel_rfl⟩
  unfold keyOf
  rw [← hN]
  simp [Try.underlying76, Try.underlying3, keyType76, Value.formed, cells76, Program.keyLits, Value.cells, Try.cells3, h1, h2, kp]
theorem kp_inj {a b c d : Nat} (ha : a < 1000) (hb : b < 1000) (hc : c < 1000) (hd : d < 1000) (h : kp (a, b) = kp (c, d)) : (a, b) = (c, d) := by
  have h1 := kp_eq a b ha hb
  have h2 := kp_eq c d hc hd
  rw [h] at h1
  have := keyed76.inj h1 h2
  simp at this
  simp; omega
theorem kp_key (p : Nat × Nat) : WideAt.IsKeyLit (kp p) := trivial
/-- What a datum of a map holds, by pairs. -/
def MapIs (D : DataW Unit) (f : Nat × Nat → Option Nat) : Prop :=
  IsMap D ∧ (∀ a b, a < 1000 → b < 1000 → has D (kp (a, b)) = (f (a, b)).isSome ∧ ∀ s, f (a, b) = some s → D.atKey (kp (a, b)) (.lit (.int .i64 0)) = .lit (.int .i64 (s : Int))) ∧
    ∀ kl, has D kl = true → ∃ p : Nat × Nat, p.1 < 1000 ∧ p.2 < 1000 ∧ kl = kp p
theorem MapIs.empty : MapIs (.map []) (fun _ => none) := ⟨isMap_empty, fun a b _ _ => ⟨rfl, fun s h => by cases h⟩, fun kl h => by simp [has] at h⟩
theorem MapIs.put {D : DataW Unit} {f : Nat × Nat → Option Nat} (h : MapIs D f) (p : Nat × Nat) (hp : p.1 < 1000 ∧ p.2 < 1000) (s : Nat) : MapIs (D.put (kp p) (.lit (.int .i64 (s : Int)))) (fun q => if q = p then some s else f q) := by
  obtain ⟨pa, pb⟩ := p
  refine ⟨h.1.put _ _, fun a b ha hb => ?_, fun kl hk => ?_⟩
  rotate_left
  · by_cases e : kl = kp (pa, pb)
    · exact ⟨_, hp.1, hp.2, e⟩
    · rw [has_put_other e] at hk; exact h.2.2 kl hk
  by_cases e : (a, b) = (pa, pb)
  · rw [e]
    simp only [if_true]
    refine ⟨has_put_same h.1 (kp_key _) _, fun t ht => ?_⟩
    cases ht
    exact atKey_put_same h.1 (kp_key _) _ _
  · have hne : kp (a, b) ≠ kp (pa, pb) := fun hh => e (kp_inj ha hb hp.1 hp.2 hh)
    simp only [if_neg e]
    rw [has_put_other hne]
    refine ⟨(h.2.1 a b ha hb).1, fun t ht => ?_⟩
    rw [atKey_put_other hne]
    exact (h.2.1 a b ha hb).2 t ht
theorem MapIs.del {D : DataW Unit} {f : Nat × Nat → Option Nat} (h : MapIs D f) (p : Nat × Nat) (hp : p.1 < 1000 ∧ p.2 < 1000) : MapIs (D.del (kp p)) (fun q => if q = p then none else f q) := by
  obtain ⟨pa, pb⟩ := p
  refine ⟨h.1.del _, fun a b ha hb => ?_, fun kl hk => ?_⟩
  rotate_left
  · by_cases e : kl = kp (pa, pb)
    · exact ⟨_, hp.1, hp.2, e⟩
    · rw [has_del_other e] at hk; exact h.2.2 kl hk
  by_cases e : (a, b) = (pa, pb)
  · rw [e]
    simp only [if_true]
    exact ⟨has_del_same, fun t ht => by cases ht⟩
  · have hne : kp (a, b) ≠ kp (pa, pb) := fun hh => e (kp_inj ha hb hp.1 hp.2 hh)
    simp only [if_neg e]
    rw [has_del_other hne]
    refine ⟨(h.2.1 a b ha hb).1, fun t ht => ?_⟩
    rw [atKey_del_other hne]
    exact (h.2.1 a b ha hb).2 t ht
/-- A map of the call's own, from pairs to worn marks. -/
def ClMap (W : World) (b n : Nat) (f : Nat × Nat → Option Nat) : Prop := ∃ D, W.ownsMap Try.prog 76 (plainElem (H := Unit) Try.prog 3) b n D ∧ MapIs D f
theorem ClMap.made (w : World) : ClMap (w.alloc (.map #[] 0)) w.heap.size 0 (fun _ => none) := ⟨_, World.ownsMap_made _ _ _ _, MapIs.empty⟩
theorem ClMap.block {W W' : World} {b n : Nat} {f : Nat × Nat → Option Nat} (h : ClMap W b n f) (e : W'.heap[b]? = W.heap[b]?) : ClMap W' b n f := by
  obtain ⟨D, ⟨es, ck, hh, r⟩, hm⟩ := h
  exact ⟨D, ⟨es, ck, e.trans hh, r⟩, hm⟩
theorem ClMap.lt {W : World} {b n : Nat} {f : Nat × Nat → Option Nat} (h : ClMap W b n f) : b < W.heap.size := by
  obtain ⟨D, ⟨es, ck, hh, r⟩, hm⟩ := h
  exact (Array.getElem?_eq_some_iff.1 hh).1
theorem ClMap.ext {W W' : World} {b n : Nat} {f : Nat × Nat → Option Nat} (h : ClMap W b n f) (e : Ext W W') : ClMap W' b n f := h.block (e.block b h.lt)
theorem ClMap.more {W : World} {b n n' : Nat} {f : Nat × Nat → Option Nat} (h : ClMap W b n f) (hn : n ≤ n') : ClMap W b n' f := by
  obtain ⟨D, ⟨es, ck, hh, hf, hs, r⟩, hm⟩ := h
  exact ⟨D, ⟨es, ck, hh, hf, Nat.le_trans hs hn, r⟩, hm⟩
theorem ClMap.put {W : World} {b n : Nat} {f : Nat × Nat → Option Nat} (h : ClMap W b n f) (hn : n < 1000) (p : Nat × Nat) (hp : p.1 < 1000 ∧ p.2 < 1000) (s : Nat) (hs : s < 1000000) :
    ∃ w', (Instr.mapUpdate 73 (.map (some b)) (.agg #[.int .i64 (p.1 : Int), .int .i64 (p.2 : Int)]) (.int .i64 (s : Int))).run Try.prog W = .ok () w' ∧ ClMap w' b (n + 1) (fun q => if q = p then some s else f q) ∧ W.grownBy w' (some b) := by
  obtain ⟨D, ho, hm⟩ := h
  obtain ⟨w', h1, h2, h3⟩ := ho.update keyed76 Try.underlying73 (by unfold maxLen; omega) (kp_eq p.1 p.2 hp.1 hp.2) (plainElem_int (H := Unit) Try.underlying3 (wf_small s hs))
  exact ⟨w', h1, ⟨_, h2, hm.put p hp s⟩, h3⟩
end Go.Proofs.Ytlgdnbpboonhdaa
namespace Go.Proofs.Ytlgdnbpboonhdaa
open Go.RowKit
set_option linter.unusedVariables false
section
variable {F : Fence} {n : Nat} {P : Program} {ops : Array Oper} {Q : Exit → Act → World → Prop} {md : Region.Mode}
/-- If each operation that may come up keeps the relation, the region ends in it, whatever the order. -/
theorem wpAnyIn_inv (Inv : Nat → Array Bool → Act → World → Prop)
    (hstep : ∀ f listed a w i oi, Inv (f + 1) listed a w → ops[i]? = some oi → listed.getD i true = false → (∀ e ∈ oi.after, Region.binds md e = true → listed.getD e.on false = true) →
      ∀ K : Act → World → Prop, (∀ a' w', Inv f (listed.setIfInBounds i true) a' w' → K a' w') → wpOpIn F n P ops Q i K a w)
    (hend : ∀ f listed a w, Inv (f + 1) listed a w → Region.ready md ops listed ≠ [])
    (hzero : ∀ listed a w, Inv 0 listed a w → Region.ready md ops listed = [] ∧ Q .normal a w) :
    ∀ f listed a w, Inv f listed a w → wpAnyIn F n P md ops Q f listed a w
  | 0, listed, a, w, h => hzero listed a w h
  | f + 1, listed, a, w, h => by
    refine ⟨fun h0 => absurd h0 (hend f listed a w h), fun i hi => ?_⟩
    obtain ⟨h1, oi, h2, h3⟩ := mem_ready.1 hi
    exact hstep f listed a w i oi h h2 h1 h3 _ fun a' w' h' => wpAnyIn_inv Inv hstep hend hzero f _ a' w' h'
end
end Go.Proofs.Ytlgdnbpboonhdaa
namespace Go.Proofs.Ytlgdnbpboonhdaa
open Go.RowKit
set_option linter.unusedVariables false
def backB (md : Region.Mode) (ops : Array Oper) : Bool := (List.range ops.size).all fun i =>
  match ops[i]? with
  | some o => o.after.toList.all fun e => !Region.binds md e || decide (e.on < i)
  | none => true
theorem backB_spec {md : Region.Mode} {ops : Array Oper} (h : backB md ops = true) {i : Nat} {o : Oper} (ho : ops[i]? = some o) {e} (he : e ∈ o.after) (hb : Region.binds md e = true) : e.on < i := by
  have hi : i < ops.size := (Array.getElem?_eq_some_iff.1 ho).1
  have h1 := List.all_eq_true.1 h i (List.mem_range.2 hi)
  rw [ho] at h1
  have h2 := List.all_eq_true.1 h1 e (Array.mem_toList_iff.2 he)
  rw [hb] at h2
  simpa using h2
theorem exists_least (p : Nat → Prop) [DecidablePred p] : ∀ n, p n → ∃ m, p m ∧ ∀ k, k < m → ¬ p k := by
  intro n
  induction n using Nat.strongRecOn with
  | _ n ih =>
    intro hn
    by_cases h : ∃ k, k < n ∧ p k
    · obtain ⟨k, hk, hp⟩ := h
      exact ih k hk hp
    · exact ⟨n, hn, fun k hk hp => h ⟨k, hk, hp⟩⟩
theorem ready_some {md : Region.Mode} {ops : Array Oper} (h : backB md ops = true) {listed : Array Bool} (hs : listed.size = ops.size) {n : Nat} (hn : listed[n]? = some false) : Region.ready md ops listed ≠ [] := by
  obtain ⟨m, hm, hl⟩ := exists_least (fun k => listed[k]? = some false) n hn
  have hlt := (Array.getElem?_eq_some_iff.1 hm).1
  have hmem : m ∈ Region.ready md ops listed := by
    refine mem_ready.2 ⟨by simp [hm], ops[m], by simp [← hs, hlt], fun e he hb => ?_⟩
    have h1 := backB_spec h (i := m) (by simp [← hs, hlt]) he hb
    have h2 := hl e.on h1
    have h3 : e.on < listed.size := by omega
    cases h4 : listed[e.on] with
    | true => simp [h3, h4]
    | false => exact absurd (by simp [h3, h4]) h2
  intro e
  rw [e] at hmem
  cases hmem
section
variable {F : Fence} {n : Nat} {P : Program} {ops : Array Oper} {Q : Exit → Act → World → Prop} {md : Region.Mode}
theorem wpAnyIn_inv2 (Inv : Array Bool → Act → World → Prop) (hback : backB md ops = true) (hsize : ∀ listed a w, Inv listed a w → listed.size = ops.size)
    (hstep : ∀ listed a w i oi, Inv listed a w → ops[i]? = some oi → listed[i]? = some false → (∀ e ∈ oi.after, Region.binds md e = true → listed[e.on]? = some true) →
      ∀ K : Act → World → Prop, (∀ a' w', Inv (listed.setIfInBounds i true) a' w' → K a' w') → wpOpIn F n P ops Q i K a w)
    (hdone : ∀ listed a w, Inv listed a w → listed = Array.replicate ops.size true → Q .normal a w) :
    ∀ f listed a w, listed.toList.count false = f → Inv listed a w → wpAnyIn F n P md ops Q f listed a w := by
  intro f
  induction f with
  | zero =>
    intro listed a w hc h
    have hall : ∀ b ∈ listed.toList, b = true := fun b hb => by
      have := List.count_eq_zero.1 hc
      cases b with
      | true => rfl
      | false => exact absurd hb this
    have hs := hsize _ _ _ h
    have he : listed = Array.replicate ops.size true := by
      apply Array.ext
      · simp [hs]
      · intro i h1 h2
        simp
        exact hall _ (Array.mem_toList_iff.2 (Array.getElem_mem h1))
    refine ⟨?_, hdone _ _ _ h he⟩
    cases hr : Region.ready md ops listed with
    | nil => rfl
    | cons x l =>
      have hx : x ∈ Region.ready md ops listed := by rw [hr]; simp
      obtain ⟨h1, oi, h2, _⟩ := mem_ready.1 hx
      have hi := (Array.getElem?_eq_some_iff.1 h2).1
      rw [he] at h1
      simp [hi] at h1
  | succ f ih =>
    intro listed a w hc h
    have hs := hsize _ _ _ h
    have hex : ∃ n1 : Nat, listed[n1]? = some false := by
      have hm : false ∈ listed.toList := List.count_pos_iff.1 (by omega)
      obtain ⟨n1, hn, he⟩ := List.getElem_of_mem hm
      exact ⟨n1, by rw [Array.getElem?_eq_some_iff]; exact ⟨by simpa using hn, by simpa using he⟩⟩
    obtain ⟨n0, hn0⟩ := hex
    refine ⟨fun h0 => absurd h0 (ready_some hback hs hn0), fun i hi => ?_⟩
    obtain ⟨h1, oi, h2, h3⟩ := mem_ready.1 hi
    have hi' := (Array.getElem?_eq_some_iff.1 h2).1
    have hli : i < listed.size := by omega
    have hlf : listed[i]? = some false := by simpa [hli] using h1
    refine hstep listed a w i oi h h2 hlf (fun e he hb => ?_) _ fun a' w' h' => ih _ a' w' ?_ h'
    · have h4 := h3 e he hb
      have h5 := backB_spec hback h2 he hb
      have h6 : e.on < listed.size := by omega
      simpa [h6] using h4
    · simp only [Array.toList_setIfInBounds]
      have hget : listed.toList[i]'(by simpa using hli) = false := by
        have := (Array.getElem?_eq_some_iff.1 hlf).2
        simpa using this
      rw [List.count_set (by simpa using hli), hget]
      simp at hc ⊢
      omega
end
end Go.Proofs.Ytlgdnbpboonhdaa
namespace Go.Proofs.Ytlgdnbpboonhdaa
open Go.RowKit Go.Maps Go.Sort
set_option linter.unusedVariables false
def kv (p : Nat × Nat) : Value := .agg #[.int .i64 (p.1 : Int), .int .i64 (p.2 : Int)]
theorem kv_key {p : Nat × Nat} (h : p.1 < 1000 ∧ p.2 < 1000) : keyOf Try.prog 76 (kv p) = some (kp p) := kp_eq p.1 p.2 h.1 h.2
/-- 'v, ok := m[pair]'. -/
theorem ClMap.look {W : World} {b n : Nat} {f : Nat × Nat → Option Nat} (h : ClMap W b n f) (p : Nat × Nat) (hp : p.1 < 1000 ∧ p.2 < 1000) :
    ∃ c : Int, (Instr.lookup 73 (.map (some b)) (kv p) true).run Try.prog W = .ok (.tuple #[.int .i64 c, .bool (f p).isSome]) W ∧ ∀ s, f p = some s → c = (s : Int) := by
  obtain ⟨D, ho, hm⟩ := h
  obtain ⟨v, ps, hrun, hv⟩ := ho.look_ok keyed76 (t := 73) Try.underlying73 (z := .int .i64 0) (by simp [zeroValue]; rfl) (plainElem_int (H := Unit) Try.underlying3 (by decide)) (kv_key hp)
  obtain ⟨c, rfl, hc, -⟩ := plainElem_int_inv Try.underlying3 hv
  obtain ⟨h1, h2⟩ := hm.2.1 p.1 p.2 hp.1 hp.2
  refine ⟨c, by rw [hrun, h1], fun s hs => ?_⟩
  have h3 := h2 s hs
  have h4 := congrArg Prod.fst hc
  dsimp only at h4
  rw [show (p.1, p.2) = p from rfl] at h3
  rw [h3] at h4
  simpa using h4.symm
/-- The relation's word: no pair twice; a pair is on the list just where the map has it and it is no longer to come. -/
def Collected (f : Nat × Nat → Option Nat) (left : Lit → Bool) (ss : List (Nat × Nat)) : Prop :=
  ss.Nodup ∧ ∀ p, p ∈ ss ↔ ((p.1 < 1000 ∧ p.2 < 1000) ∧ (f p).isSome = true ∧ left (kp p) = false)
theorem Collected.start {D : DataW Unit} {f : Nat × Nat → Option Nat} (h : MapIs D f) : Collected f (has D) [] := by
  refine ⟨List.nodup_nil, fun p => ?_⟩
  simp only [List.not_mem_nil, false_iff, not_and]
  intro hp hs
  rw [(h.2.1 p.1 p.2 hp.1 hp.2).1, hs]
  simp
theorem kp_inj' {p q : Nat × Nat} (hp : p.1 < 1000 ∧ p.2 < 1000) (hq : q.1 < 1000 ∧ q.2 < 1000) (h : kp p = kp q) : p = q := kp_inj hp.1 hp.2 hq.1 hq.2 h
theorem sameKey_kp (p q : Nat × Nat) : (kp p).sameKey (kp q) = true ↔ kp p = kp q := by
  simp [kp, Lit.sameKey]
theorem Collected.step {D : DataW Unit} {f : Nat × Nat → Option Nat} {left : Lit → Bool} {ss : List (Nat × Nat)} (h : Collected f left ss) (hm : MapIs D f) {p : Nat × Nat} (hp : p.1 < 1000 ∧ p.2 < 1000) (hlk : left (kp p) = true) (hh : has D (kp p) = true) :
    (f p).isSome = true ∧ Collected f (fun z => left z && !z.sameKey (kp p)) (ss ++ [p]) := by
  have hs : (f p).isSome = true := by rw [← (hm.2.1 p.1 p.2 hp.1 hp.2).1]; exact hh
  have hnew : p ∉ ss := fun hx => by have := ((h.2 p).1 hx).2.2; rw [hlk] at this; cases this
  refine ⟨hs, List.nodup_append.2 ⟨h.1, by simp, fun a ha b hb => by simp at hb; subst hb; exact fun e => hnew (e ▸ ha)⟩, fun q => ?_⟩
  rw [List.mem_append, List.mem_singleton, h.2 q]
  by_cases e : q = p
  · subst e; simp [hp, hs, (sameKey_kp q q).2 rfl]
  · simp only [e, or_false, Bool.and_eq_false_iff, Bool.not_eq_false', sameKey_kp]
    constructor
    · rintro ⟨a, b, c⟩; exact ⟨a, b, .inl c⟩
    · rintro ⟨a, b, c | c⟩
      · exact ⟨a, b, c⟩
      · exact absurd (kp_inj' a hp c) e
/-- All the pairs of a map, each once. -/
def AllOf (f : Nat × Nat → Option Nat) (ys : List (Nat × Nat)) : Prop := ys.Nodup ∧ ∀ p, p ∈ ys ↔ ((p.1 < 1000 ∧ p.2 < 1000) ∧ (f p).isSome = true)
theorem Collected.all {f : Nat × Nat → Option Nat} {left : Lit → Bool} {ss : List (Nat × Nat)} (h : Collected f left ss) (hl : ∀ kl, left kl = false) : AllOf f ss :=
  ⟨h.1, fun p => by rw [h.2 p, hl]; simp⟩
theorem Collected.some {f : Nat × Nat → Option Nat} {left : Lit → Bool} {ss : List (Nat × Nat)} (h : Collected f left ss) : ∀ p ∈ ss, (p.1 < 1000 ∧ p.2 < 1000) ∧ (f p).isSome = true := fun p hp => ⟨((h.2 p).1 hp).1, ((h.2 p).1 hp).2.1⟩
set_option maxRecDepth 100000 in
set_option maxHeartbeats 4000000 in
theorem keys94 (f l Bm b nn : Nat) (g : Nat × Nat → Option Nat) (hf : 1 ≤ f) (J Jx : List (Nat × Nat) → World → Prop) (W : World)
    (hJ : AbidesFrom W.heap.size J)
    (hY : ∀ pre x W1, J pre W1 → pre.length < nn → YieldAt Fence.wide (f - 1) Try.prog l #[kv x] W1 fun e W' =>
      (e = .returned (.bool true) ∧ J (pre ++ [x]) W' ∧ KeepsWalks W1 W') ∨ (e = .returned (.bool false) ∧ Jx (pre ++ [x]) W'))
    (hm : W.cell? ⟨Bm, 0, none⟩ = some (.map (some b))) (hown : ClMap W b nn g) (h0 : J [] W) :
    CallsIn Fence.wide f Try.prog 94 #[.func (.yield l) #[] #[], .pointer (some ⟨Bm, 0, none⟩)] W fun e W' => (∃ v, e = .returned v) ∧
      ((∃ ys, AllOf g ys ∧ J ys W') ∨ (∃ pre, (∀ p ∈ pre, (p.1 < 1000 ∧ p.2 < 1000) ∧ (g p).isSome = true) ∧ Jx pre W')) := by
  obtain ⟨D0, hown, hMI⟩ := hown
  have HM := Lib.hid hMI
  refine callsIn_of_wp Try.func94 rfl trivial ?_ rfl
  simp only [Try.ntmps94, List.size_toArray, List.length_cons, List.length_nil, Nat.reduceAdd, Nat.reduceSub, Array.replicate_succ, Array.replicate_zero, List.push_toArray, List.append_toArray, List.nil_append, List.cons_append]
  gi_wp2_with (first
    | (gi_at_range; refine wpListIn_range_own _ rfl _ 73 rfl 76 3 keyed76 Try.underlying73 _ b nn _ rfl hown ?_; intro w0 hrg0 hg0 hs0)
    | gi_in)
  go_frame
  gi_loopw [3] (fun _ wr => ∃ (left : Lit → Bool) (cnt : Nat) (ss : List (Nat × Nat)), wr.ranges Try.prog 76 (plainElem (H := Unit) Try.prog 3) b W.heap.size nn D0 left cnt ∧ Collected g left ss ∧ J ss wr ∧ ss.length + cnt ≤ nn)
    (fun _ wr => wr.rangeLeft b W.heap.size)
  case atStart =>
    refine ⟨_, _, [], hrg0, Collected.start HM.out, hJ [] W w0 none h0 hg0 (fun r e => by cases e), ?_⟩
    have := hown.size_le
    simpa using this
  case round =>
    obtain ⟨left, cnt, ss, hrg, hC, hJs, hcnt⟩ := hrel
    gi_wp2_with (first
      | (gi_at_next; refine wpListIn_next_ranges _ rfl _ rfl 76 keyed76 (plainElem (H := Unit) Try.prog 3) (fun v : Value => v) (fun v : Value => v) (fun key kl hk => ⟨key, rfl⟩) (fun v _ _ => ⟨v, rfl⟩) b W.heap.size nn _ _ _ rfl hrg ?_ ?_)
      | gi_in)
    · intro hc0 hl0
      gi_wp2
      go_end0
      exact ⟨⟨_, rfl⟩, .inl ⟨ss, hC.all hl0, hJs⟩⟩
    · intro x c kl yd yp w2 cnt2 hkey hlk hv hat hrg2 hlt hg2 hs2 hen
      have hh := has_true_of_atKey hat
      obtain ⟨p, hp1, hp2, rfl⟩ := HM.out.2.2 kl hh
      obtain rfl : x = kv p := keyed76.inj hkey (kv_key ⟨hp1, hp2⟩)
      obtain ⟨hs, hC2⟩ := hC.step HM.out ⟨hp1, hp2⟩ hlk hh
      have hJ2 : J ss w2 := hJ ss wr w2 (some W.heap.size) hJs hg2 (fun r e => by cases e; exact ⟨Nat.le_refl _, hrg.iter_walk⟩)
      have hJ2 := hJ ss w2 (w2.alloc (.cells #[.int .i64 (p.1 : Int), .int .i64 (p.2 : Int)] 76)) none hJ2 (World.grownBy_alloc _ _ none) (fun r e => by cases e)
      obtain ⟨fn, tmps, assign, body, hy, hR⟩ := hY ss p _ hJ2 (by omega)
      have HRR := Lib.hid hR
      have hle := hrg.left_eq
      clear hs2 hR hC hrg hg2 hJs hJ2 hat hh hv
      obtain ⟨i, k⟩ := p
      dsimp only [kv] at hen hy ⊢
      gi_wp2
      refine HRR.out.mono ?_
      rintro e W3 (⟨rfl, hJ3, hk3⟩ | ⟨rfl, hJx3⟩)
      · have HJ3 := Lib.hid hJ3; have HK3 := Lib.hid hk3; clear hJ3 hk3 HRR
        have HS := Lib.hid hs; have HC2 := Lib.hid hC2
        have hcn : (ss ++ [(i, k)]).length + cnt2 ≤ nn := by rw [List.length_append]; simp; omega
        clear hs hC2
        gi_wp2
        have hrg3 := hrg2.of_walks ((KeepsWalks.alloc _ _).trans HK3.out)
        go_roundw
        case rel => exact ⟨_, cnt2, ss ++ [(i, k)], hrg3, HC2.out, HJ3.out, hcn⟩
        case measure => rw [hrg3.left_eq, hle]; exact hlt
      · have HJx3 := Lib.hid hJx3; clear hJx3 HRR
        have HS := Lib.hid hs; have HC2 := Lib.hid hC2
        clear hs hC2
        gi_wp2
        refine bodyPost_ret (results_none rfl _ _ _) rfl ?_
        exact ⟨⟨_, rfl⟩, .inr ⟨_, HC2.out.some, HJx3.out⟩⟩
theorem keys_stops (f Bm b nn : Nat) (g : Nat × Nat → Option Nat) (hf : 1 ≤ f) (w : World) (hm : w.cell? ⟨Bm, 0, none⟩ = some (.map (some b))) (hown : ClMap w b nn g) :
    SeqStopsK Fence.wide f Try.prog 94 #[.pointer (some ⟨Bm, 0, none⟩)] (fun x => #[kv x]) KeepsWalks (AllOf g) (fun pre => ∀ p ∈ pre, (p.1 < 1000 ∧ p.2 < 1000) ∧ (g p).isSome = true) nn w := fun l J Jx W hW hJ _ hY h0 =>
  keys94 f l Bm b nn g hf J Jx W hJ hY (cell_ext hW hm) (hown.ext hW) h0
theorem keys66 (mb : Option Nat) (w : World) : Calls Try.prog 66 #[.map mb] w fun e w' => e = .returned (.func (.func 94) #[] #[.pointer (some ⟨w.heap.size, 0, none⟩)]) ∧ w' = w.alloc (.cells #[.map mb] 73) := by
  go_enter Try.func66, Try.ntmps66
  go_wp2
  go_ret
  exact ⟨rfl, rfl⟩
end Go.Proofs.Ytlgdnbpboonhdaa
