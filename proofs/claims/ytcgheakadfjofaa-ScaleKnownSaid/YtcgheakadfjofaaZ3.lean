/- A region that draws its order may be walked in any order of its own that its edges allow, where what only reads may be taken before its turn. -/
import Derived.Test.YtcgheakadfjofaaZ2
namespace Go.Proofs.Ytcgheakadfjofaa
open Go.RowKit
set_option linter.unusedVariables false
set_option linter.unusedSimpArgs false
def lst (n : Nat) (done : List Nat) : Array Bool := ((List.range n).map fun k => done.any fun d => Nat.beq d k).toArray
def inB (done : List Nat) (k : Nat) : Bool := done.any fun d => Nat.beq d k
theorem inB_iff {done : List Nat} {k : Nat} : inB done k = true ↔ k ∈ done := by
  unfold inB
  rw [List.any_eq_true]
  constructor
  · rintro ⟨d, h1, h2⟩; rw [← Nat.eq_of_beq_eq_true h2]; exact h1
  · intro h; exact ⟨k, h, Nat.beq_refl k⟩
theorem lst_size (n : Nat) (done : List Nat) : (lst n done).size = n := by simp [lst]
theorem lst_get {n : Nat} {done : List Nat} {k : Nat} (h : k < n) (b : Bool) : (lst n done).getD k b = inB done k := by
  have h1 : (lst n done)[k]? = some (inB done k) := by
    unfold lst inB
    rw [List.getElem?_toArray, List.getElem?_map, List.getElem?_range h]
    rfl
  rw [Array.getD_eq_getD_getElem?, h1]
  rfl
theorem lst_set {n : Nat} {done : List Nat} {i : Nat} (h : i < n) : (lst n done).setIfInBounds i true = lst n (i :: done) := by
  apply Array.ext
  · simp [lst]
  · intro k h1 h2
    have hk : k < n := by simpa [lst] using h2
    rw [Array.getElem_setIfInBounds (by rw [lst_size]; exact hk)]
    by_cases e : i = k
    · subst e
      rw [if_pos rfl]
      simp [lst]
    · rw [if_neg e]
      have hne : Nat.beq i k = false := by
        cases hb : Nat.beq i k with
        | false => rfl
        | true => exact absurd (Nat.eq_of_beq_eq_true hb) e
      simp [lst, hne]
theorem lst_nil (n : Nat) : lst n [] = Array.replicate n false := by
  apply Array.ext
  · simp [lst]
  · intro k h1 h2; simp [lst]
def okRest2 (md : Region.Mode) (ops : Array Oper) (l : List Oper) : List Oper → Nat → Bool
  | [], _ => true
  | o :: rest, j => okAt md ops l j o && okRest2 md ops l rest (j + 1)
theorem okRest2_at {md : Region.Mode} {ops : Array Oper} {l : List Oper} : ∀ {rest : List Oper} {j : Nat}, okRest2 md ops l rest j = true → ∀ {k : Nat} {o : Oper}, rest[k]? = some o → okAt md ops l (j + k) o = true
  | [], _, _, k, o, h => by simp at h
  | a :: rest, j, h, k, o, hk => by
    simp only [okRest2, Bool.and_eq_true] at h
    cases k with
    | zero => simp at hk; subst hk; exact h.1
    | succ k =>
      simp only [List.getElem?_cons_succ] at hk
      rw [show j + (k + 1) = j + 1 + k from by omega]
      exact okRest2_at h.2 hk
theorem ok2_pair {md : Region.Mode} {ops : Array Oper} (h : okRest2 md ops ops.toList ops.toList 0 = true) {i j : Nat} {x y : Oper} (hij : i ≠ j) (hx : ops[i]? = some x) (hy : ops[j]? = some y) (hni : ¬ ∃ e ∈ x.after, Region.binds md e = true ∧ e.on = j) :
    (∃ e ∈ y.after, Region.binds md e = true ∧ e.on = i) ∨ x.apart ops y = true := by
  have hx' : ops.toList[i]? = some x := by rw [Array.getElem?_toList]; exact hx
  have hy' : ops.toList[j]? = some y := by rw [Array.getElem?_toList]; exact hy
  have ax := okRest2_at h hx'
  have ay := okRest2_at h hy'
  rw [Nat.zero_add] at ax ay
  simp only [okAt, Bool.and_eq_true] at ax ay
  obtain ⟨⟨ax1, ax2⟩, -⟩ := ax
  obtain ⟨⟨ay1, ay2⟩, -⟩ := ay
  apply Classical.byContradiction
  intro hn
  have hn1 : ¬ ∃ e ∈ y.after, Region.binds md e = true ∧ e.on = i := fun h => hn (.inl h)
  have hfx : ∀ d, x.dst = some d → findD d ops.toList 0 = some i := fun d hd => by
    rw [hd] at ax1
    dsimp only at ax1
    unfold isAt at ax1
    split at ax1
    · rename_i k hk; rw [hk, Nat.eq_of_beq_eq_true ax1]
    · cases ax1
  have hfy : ∀ d, y.dst = some d → findD d ops.toList 0 = some j := fun d hd => by
    rw [hd] at ay1
    dsimp only at ay1
    unfold isAt at ay1
    split at ay1
    · rename_i k hk; rw [hk, Nat.eq_of_beq_eq_true ay1]
    · cases ay1
  apply hn
  right
  unfold Oper.apart
  rw [Bool.and_eq_true]
  constructor
  · cases hd : x.dst with
    | none => rfl
    | some d =>
      have hf := hfx d hd
      dsimp only
      rw [Bool.and_eq_true]
      constructor
      · rw [Bool.not_eq_true', ← Bool.not_eq_true]
        intro hc
        have hm : d ∈ y.looksAt ops := by simpa using hc
        have h1 := List.all_eq_true.1 ay2 d hm
        rw [hf] at h1
        dsimp only at h1
        rw [Bool.or_eq_true, Bool.and_eq_true, Bool.and_eq_true] at h1
        rcases h1 with ⟨_, h2⟩ | ⟨_, h2⟩
        · exact hn1 (waitsB_spec h2)
        · rw [hx] at h2; exact hni (waitsB_spec h2)
      · rw [bne_iff_ne]
        intro hc
        have := hfy d hc
        rw [hf] at this
        cases this
        exact hij rfl
  · cases hd : y.dst with
    | none => rfl
    | some d =>
      have hf := hfy d hd
      dsimp only
      rw [Bool.not_eq_true', ← Bool.not_eq_true]
      intro hc
      have hm : d ∈ x.looksAt ops := by simpa using hc
      have h1 := List.all_eq_true.1 ax2 d hm
      rw [hf] at h1
      dsimp only at h1
      rw [Bool.or_eq_true, Bool.and_eq_true, Bool.and_eq_true] at h1
      rcases h1 with ⟨_, h2⟩ | ⟨_, h2⟩
      · exact hni (waitsB_spec h2)
      · rw [hy] at h2; exact hn1 (waitsB_spec h2)
def ordOk (md : Region.Mode) (ops : Array Oper) : List Nat → List Nat → Bool
  | [], done => (List.range ops.size).all fun k => inB done k
  | i :: rest, done => (match ops[i]? with
    | some o => !inB done i && (o.after.toList.all fun e => !Region.binds md e || inB done e.on) &&
        (takeB o || (List.range ops.size).all fun j => inB done j || Nat.beq j i || (match ops[j]? with | some o' => o'.after.toList.any fun e => Region.binds md e && !inB done e.on | none => true))
    | none => false) && ordOk md ops rest (i :: done)
def orderB (md : Region.Mode) (ops : Array Oper) (ord : List Nat) : Bool := Region.noSelect ops && okRest2 md ops ops.toList ops.toList 0 && Nat.beq ord.length ops.size && ordOk md ops ord []
def opsIn (ops : Array Oper) (ord : List Nat) : List Oper := ord.filterMap fun i => ops[i]?
section
variable {P : Program} {ops : Array Oper} {Q : Exit → Act → World → Prop} {S : World → Prop}
theorem order_any {md : Region.Mode} (hs : Region.noSelect ops = true) (hp : okRest2 md ops ops.toList ops.toList 0 = true) (hQ : ∀ c a d v w, Q (.panic c) (Act.put a d v) w → Q (.panic c) a w) :
    ∀ (rest : List Nat) (S : World → Prop) (done : List Nat) (a : Act) (w : World), ordOk md ops rest done = true → (∀ k ∈ done, k < ops.size) → S w → wpText P ops Q S (opsIn ops rest) a w → wpAnyH P md ops Q S rest.length (lst ops.size done) a w
  | [], S, done, a, w, ho, hd, hS, h => by
    refine ⟨?_, h⟩
    unfold Region.ready
    rw [List.filter_eq_nil_iff]
    intro i hi
    have hi' := List.mem_range.1 hi
    have h1 := List.all_eq_true.1 ho i hi
    simp [lst_get hi', h1]
  | i :: rest, S, done, a, w, ho, hd, hS, h => by
    simp only [ordOk, Bool.and_eq_true] at ho
    obtain ⟨ho1, ho2⟩ := ho
    cases hi : ops[i]? with
    | none => rw [hi] at ho1; cases ho1
    | some o =>
      rw [hi] at ho1
      simp only [Bool.and_eq_true] at ho1
      obtain ⟨⟨h1, h2⟩, h3⟩ := ho1
      have hin : i < ops.size := (Array.getElem?_eq_some_iff.1 hi).1
      have hnd : inB done i = false := by simpa using h1
      have hops : opsIn ops (i :: rest) = o :: opsIn ops rest := by simp [opsIn, hi]
      rw [hops] at h
      have hback : ∀ e ∈ o.after, Region.binds md e = true → inB done e.on = true := fun e he hb => by
        have := List.all_eq_true.1 h2 e (Array.mem_toList_iff.2 he)
        rw [hb, Bool.not_true, Bool.false_or] at this
        exact this
      have hready : i ∈ Region.ready md ops (lst ops.size done) := by
        refine mem_ready.2 ⟨by rw [lst_get hin]; exact hnd, o, hi, fun e he hb => ?_⟩
        have h4 := hback e he hb
        rw [lst_get (hd _ (inB_iff.1 h4))]; exact h4
      have ih' : ∀ (S : World → Prop) a' w', S w' → wpText P ops Q S (opsIn ops rest) a' w' → wpAnyH P md ops Q S rest.length ((lst ops.size done).setIfInBounds i true) a' w' := fun S a' w' h4 h5 => by
        rw [lst_set hin]
        exact order_any hs hp hQ rest S (i :: done) a' w' ho2 (fun k hk => by rcases List.mem_cons.1 hk with rfl | hk; exact hin; exact hd k hk) h4 h5
      have h : if Region.wanted o (yielded ops a.tmps) = true then (if takeB o = true then ∃ v, (∀ W, S W → (execOp a.eval o).run P W = .ok (.value v) W) ∧ wpText P ops Q S (opsIn ops rest) (a.put o.dst v) w else Oper.wp P o a w (fun a' w' => ∃ S' : World → Prop, (∀ W, S' W → S W) ∧ S' w' ∧ wpText P ops Q S' (opsIn ops rest) a' w') Q) else wpText P ops Q S (opsIn ops rest) (a.put o.dst undef) w := h
      show wpAnyH P md ops Q S (rest.length + 1) _ a w
      by_cases ht : takeB o = true
      · have hf : Region.free md ops (lst ops.size done) i = true := by
          unfold Region.free
          rw [hi]
          dsimp only
          rw [List.all_eq_true]
          intro j hj
          have hjn := List.mem_range.1 hj
          by_cases hji : j = i
          · subst hji; simp
          · rw [lst_get hjn]
            cases hdj : inB done j with
            | true => simp
            | false =>
              cases hoj : ops[j]? with
              | none => simp
              | some oj =>
                rcases ok2_pair hp (Ne.symm hji) hi hoj (fun ⟨e, he, hb, hon⟩ => by have := hback e he hb; rw [hon, hdj] at this; cases this) with ⟨e, he, hb, hon⟩ | h5
                · have : oj.after.any (fun e => Region.binds md e && e.on == i) = true := Array.any_eq_true'.2 ⟨e, he, by simp [hb, hon]⟩
                  simp [this]
                · simp [h5]
        by_cases hw : Region.wanted o (yielded ops a.tmps) = true
        · rw [if_pos hw, if_pos ht] at h
          obtain ⟨v, hy, h5⟩ := h
          exact wpAnyH_take hi hs hf (by simpa using hready) (fun c a w => hQ c a _ _ w) (Or.inl ⟨hw, hy⟩) hS (ih' _ _ _ hS h5)
        · rw [if_neg hw] at h
          exact wpAnyH_take hi hs hf (by simpa using hready) (fun c a w => hQ c a _ _ w) (Or.inr ⟨by simpa using hw, rfl⟩) hS (ih' _ _ _ hS h)
      · have h6 : (List.range ops.size).all (fun j => inB done j || Nat.beq j i || (match ops[j]? with | some o' => o'.after.toList.any fun e => Region.binds md e && !inB done e.on | none => true)) = true := by
          rcases (Bool.or_eq_true _ _).mp h3 with h6 | h6
          · exact absurd h6 ht
          · exact h6
        have honly : ∀ k, k ∈ Region.ready md ops (lst ops.size done) → k = i := fun k hk => by
          obtain ⟨h7, ok, hok, h8⟩ := mem_ready.1 hk
          have hkn := (Array.getElem?_eq_some_iff.1 hok).1
          rw [lst_get hkn] at h7
          have h9 := List.all_eq_true.1 h6 k (List.mem_range.2 hkn)
          rw [h7, hok, Bool.false_or, Bool.or_eq_true] at h9
          rcases h9 with h9 | h9
          · exact Nat.eq_of_beq_eq_true h9
          · obtain ⟨e, he, h10⟩ := List.any_eq_true.1 h9
            simp only [Bool.and_eq_true] at h10
            have h11 := h8 e (Array.mem_toList_iff.1 he) h10.1
            have h12 : inB done e.on = false := by simpa using h10.2
            by_cases hen : e.on < ops.size
            · rw [lst_get hen, h12] at h11; cases h11
            · rw [Array.getD_eq_getD_getElem?, Array.getElem?_eq_none (by rw [lst_size]; omega)] at h11; cases h11
        have hnd2 : (Region.ready md ops (lst ops.size done)).Nodup := List.Pairwise.filter _ List.nodup_range
        have hr : Region.ready md ops (lst ops.size done) = [i] := by
          match hr : Region.ready md ops (lst ops.size done), hready, hnd2, honly with
          | [], hm, _, _ => cases hm
          | [x], _, _, ho1 => rw [ho1 x (by simp)]
          | x :: y :: l, _, hd, ho1 =>
            have h1 := ho1 x (by simp)
            have h2 := ho1 y (by simp)
            rw [h1, h2] at hd
            simp at hd
        refine wpAnyH_all hr (by simp) fun j hj => ?_
        have hj' : j = i := by simpa using hj
        subst hj'
        unfold wpOp
        rw [hi]
        dsimp only
        by_cases hw : Region.wanted o (yielded ops a.tmps) = true
        · rw [if_pos hw, if_neg ht] at h
          rw [if_pos hw]
          exact .inl (Oper.wp_mono (fun a' w' ⟨S', h3, h4, h5⟩ => ⟨h3 _ h4, wpAnyH_weak h3 _ _ _ _ (ih' _ _ _ h4 h5)⟩) h)
        · rw [if_neg hw] at h
          rw [if_neg hw]
          exact ⟨hS, ih' _ _ _ hS h⟩
/-- The region, in an order that its edges allow. -/
theorem wp_region_order {id : Nat} {a : Act} {w : World} (S : World → Prop) (ord : List Nat) (hm : P.follows .mixedOrders = true) (hb : orderB .any ops ord = true) (hS : S w.drew) (h : S w.drew → wpText P ops (NoPanic Q) S (opsIn ops ord) a w.drew) : (Code.region id ops true).wp P Q a w := by
  simp only [orderB, Bool.and_eq_true] at hb
  obtain ⟨⟨⟨h1, h2⟩, h3⟩, h4⟩ := hb
  exact wp_region_noPanic (wp_region_held_drew hm hS fun h0 => by
    have := order_any h1 h2 (fun _ _ _ _ _ h => h) ord S [] a w.drew h4 (fun k hk => by cases hk) h0 (h h0)
    rw [lst_nil, Nat.eq_of_beq_eq_true h3] at this
    exact this)
end
end Go.Proofs.Ytcgheakadfjofaa
