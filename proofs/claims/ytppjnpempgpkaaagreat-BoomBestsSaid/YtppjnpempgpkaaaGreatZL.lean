/- A region that draws its order, and holds calls that make memory, and operations whose guard may not be met: it may be walked in the order of its text, where each load reads what a condition on the world names, and each call keeps that condition. A walk through a region in the order of its text: several operations at once that only read. A region that draws its order may be walked in any order of its own that its edges allow, where what only reads may be taken before its turn. Drawn regions within a fence, whose calls may be calls of a loop's body: walked in an order that the edges allow. Drawn regions within a fence, before whose last operation all others come: what was held of the world need not hold behind it. -/
import Derived.Deep.RegionHeld3
import Derived.Lib.Hide
import Derived.BigQuiet
import Derived.OrdersIn
import Derived.OrdersHeld
import Derived.RangeFuncCalls
import Derived.TacticsIn
namespace Go.Proofs.YtppjnpempgpkaaaGreat
open Go.RowKit
set_option linter.unusedVariables false
set_option linter.unusedSimpArgs false
/-- It may be taken before its turn. -/
def takeB (o : Oper) : Bool := match o.op with
  | .move _ | .assign _ | .pick _ _ _ | .nilCheck _ | .binOp _ _ _ _ _ | .unOp _ _ _ | .convert _ _ _ | .fieldAddr _ _ _ | .field _ _ _ | .indexAddr _ _ _ | .index _ _ _ | .extract _ _ | .slice _ _ _ _ _ | .build _ _ | .load _ _ | .makeFunc _ _ _ => true
  | .call c => (match c.callee with | .builtin b => b == .len || b == .cap || b == .min || b == .max | _ => false)
  | _ => false
def laidTo (n i : Nat) : Array Bool := (List.replicate i true ++ List.replicate (n - i) false).toArray
def TextOk (md : Region.Mode) (ops : Array Oper) : Prop := Region.noSelect ops = true ∧ ∀ i o, ops[i]? = some o →
  if takeB o = true then Region.free md ops (laidTo ops.size i) i = true ∧ (Region.ready md ops (laidTo ops.size i)).contains i = true else Region.ready md ops (laidTo ops.size i) = [i]
theorem laidTo_size (n i : Nat) (h : i ≤ n) : (laidTo n i).size = n := by simp [laidTo]; omega
theorem laidTo_set (n i : Nat) (h : i < n) : (laidTo n i).setIfInBounds i true = laidTo n (i + 1) := by
  unfold laidTo
  rw [List.setIfInBounds_toArray]
  congr 1
  rw [List.set_append_right _ _ (by simp)]
  rw [List.length_replicate, Nat.sub_self, show n - i = (n - (i + 1)) + 1 from by omega, List.replicate_succ, List.set_cons_zero, List.replicate_succ', List.append_assoc]
  rfl
theorem laidTo_zero (n : Nat) : laidTo n 0 = Array.replicate n false := by simp [laidTo]
def findD (t : Nat) : List Oper → Nat → Option Nat
  | [], _ => none
  | o :: l, k => match o.dst with
    | some d => (match Nat.beq d t with | true => some k | false => findD t l (k + 1))
    | none => findD t l (k + 1)
def waitsB (md : Region.Mode) (o : Oper) (i : Nat) : Bool := o.after.toList.any fun e => Region.binds md e && Nat.beq e.on i
def isAt (x : Option Nat) (j : Nat) : Bool := match x with | some i => Nat.beq i j | none => false
def okAtR (md : Region.Mode) (ops : Array Oper) (l : List Oper) (j : Nat) (o : Oper) : Bool :=
  (match o.dst with | some d => isAt (findD d l 0) j | none => true) &&
  ((o.looksAt ops).all fun t => match findD t l 0 with
    | some i => (Nat.blt i j && waitsB md o i) || (Nat.blt j i && (match ops[i]? with | some o' => waitsB md o' j | none => false))
    | none => true) &&
  (o.after.toList.all fun e => !Region.binds md e || Nat.blt e.on j)
def okRest (md : Region.Mode) (ops : Array Oper) (l : List Oper) : List Oper → Nat → Bool
  | [], _ => true
  | o :: rest, j => okAtR md ops l j o && (takeB o || rest.all fun o' => o'.after.toList.any fun e => Region.binds md e && Nat.ble j e.on) && okRest md ops l rest (j + 1)
/-- The region's edges order whatever of it touches the same slots. -/
def okAll (md : Region.Mode) (ops : Array Oper) : Bool := Region.noSelect ops && okRest md ops ops.toList ops.toList 0
theorem okRest_at {md : Region.Mode} {ops : Array Oper} {l : List Oper} : ∀ {rest : List Oper} {j : Nat}, okRest md ops l rest j = true → ∀ {k : Nat} {o : Oper}, rest[k]? = some o →
    okAtR md ops l (j + k) o = true ∧ (takeB o = true ∨ ∀ (m : Nat) (o' : Oper), k < m → rest[m]? = some o' → ∃ e ∈ o'.after.toList, Region.binds md e = true ∧ j + k ≤ e.on)
  | [], _, _, k, o, h => by simp at h
  | a :: rest, j, h, k, o, hk => by
    simp only [okRest, Bool.and_eq_true] at h
    obtain ⟨⟨h1, h2⟩, h3⟩ := h
    cases k with
    | zero =>
      simp at hk
      subst hk
      refine ⟨h1, ?_⟩
      rw [Bool.or_eq_true] at h2
      refine h2.imp id fun h4 m o' hm ho' => ?_
      obtain ⟨m', rfl⟩ : ∃ m', m = m' + 1 := ⟨m - 1, by omega⟩
      simp only [List.getElem?_cons_succ] at ho'
      have h5 := List.all_eq_true.1 h4 o' (List.mem_of_getElem? ho')
      obtain ⟨e, he, h6⟩ := List.any_eq_true.1 h5
      simp only [Bool.and_eq_true] at h6
      exact ⟨e, he, h6.1, Nat.le_of_ble_eq_true h6.2⟩
    | succ k =>
      simp only [List.getElem?_cons_succ] at hk
      obtain ⟨h4, h5⟩ := okRest_at h3 hk
      rw [show j + (k + 1) = j + 1 + k from by omega]
      refine ⟨h4, h5.imp id fun h6 m o' hm ho' => ?_⟩
      obtain ⟨m', rfl⟩ : ∃ m', m = m' + 1 := ⟨m - 1, by omega⟩
      simp only [List.getElem?_cons_succ] at ho'
      exact h6 m' o' (by omega) ho'
theorem waitsB_spec {md : Region.Mode} {o : Oper} {i : Nat} (h : waitsB md o i = true) : ∃ e ∈ o.after, Region.binds md e = true ∧ e.on = i := by
  obtain ⟨e, he, h1⟩ := List.any_eq_true.1 h
  simp only [Bool.and_eq_true] at h1
  exact ⟨e, Array.mem_toList_iff.1 he, h1.1, Nat.eq_of_beq_eq_true h1.2⟩
theorem okAll_pair {md : Region.Mode} {ops : Array Oper} (h : okAll md ops = true) {i j : Nat} {x y : Oper} (hij : i < j) (hx : ops[i]? = some x) (hy : ops[j]? = some y) :
    (∃ e ∈ y.after, Region.binds md e = true ∧ e.on = i) ∨ x.apart ops y = true := by
  simp only [okAll, Bool.and_eq_true] at h
  have hx' : ops.toList[i]? = some x := by rw [Array.getElem?_toList]; exact hx
  have hy' : ops.toList[j]? = some y := by rw [Array.getElem?_toList]; exact hy
  obtain ⟨ax, -⟩ := okRest_at h.2 hx'
  obtain ⟨ay, -⟩ := okRest_at h.2 hy'
  rw [Nat.zero_add] at ax ay
  simp only [okAtR, Bool.and_eq_true] at ax ay
  obtain ⟨⟨ax1, ax2⟩, -⟩ := ax
  obtain ⟨⟨ay1, ay2⟩, -⟩ := ay
  apply Classical.byContradiction
  intro hn
  have hn1 : ¬ ∃ e ∈ y.after, Region.binds md e = true ∧ e.on = i := fun h => hn (.inl h)
  have hfx : ∀ d, x.dst = some d → findD d ops.toList 0 = some i := fun d hd => by
    rw [hd] at ax1
    dsimp only at ax1
    unfold isAt at ax1
    split at ax1
    · rename_i k hk; rw [hk, Nat.eq_of_beq_eq_true ax1]
    · cases ax1
  have hfy : ∀ d, y.dst = some d → findD d ops.toList 0 = some j := fun d hd => by
    rw [hd] at ay1
    dsimp only at ay1
    unfold isAt at ay1
    split at ay1
    · rename_i k hk; rw [hk, Nat.eq_of_beq_eq_true ay1]
    · cases ay1
  apply hn
  right
  unfold Oper.apart
  rw [Bool.and_eq_true]
  constructor
  · cases hd : x.dst with
    | none => rfl
    | some d =>
      have hf := hfx d hd
      dsimp only
      rw [Bool.and_eq_true]
      constructor
      · rw [Bool.not_eq_true', ← Bool.not_eq_true]
        intro hc
        have hm : d ∈ y.looksAt ops := by simpa using hc
        have h1 := List.all_eq_true.1 ay2 d hm
        rw [hf] at h1
        dsimp only at h1
        rw [Bool.or_eq_true, Bool.and_eq_true, Bool.and_eq_true] at h1
        rcases h1 with ⟨_, h2⟩ | ⟨h2, _⟩
        · exact hn1 (waitsB_spec h2)
        · have := Nat.le_of_ble_eq_true h2; omega
      · rw [bne_iff_ne]
        intro hc
        have := hfy d hc
        rw [hf] at this
        cases this
        omega
  · cases hd : y.dst with
    | none => rfl
    | some d =>
      have hf := hfy d hd
      dsimp only
      rw [Bool.not_eq_true', ← Bool.not_eq_true]
      intro hc
      have hm : d ∈ x.looksAt ops := by simpa using hc
      have h1 := List.all_eq_true.1 ax2 d hm
      rw [hf] at h1
      dsimp only at h1
      rw [Bool.or_eq_true, Bool.and_eq_true, Bool.and_eq_true] at h1
      rcases h1 with ⟨h2, _⟩ | ⟨_, h2⟩
      · have := Nat.le_of_ble_eq_true h2; omega
      · rw [hy] at h2
        exact hn1 (waitsB_spec h2)
theorem laidTo_lt {n i j : Nat} (hj : j < i) (b : Bool) : (laidTo n i).getD j b = true := by
  unfold laidTo; simp [hj, List.getElem?_append]
theorem laidTo_ge {n i j : Nat} (hj : i ≤ j) (hn : j < n) (b : Bool) : (laidTo n i).getD j b = false := by
  unfold laidTo
  simp [List.getElem?_append, Nat.not_lt.2 hj]
  rw [List.getElem?_replicate, if_pos (by omega)]; rfl
theorem okAll_text {md : Region.Mode} {ops : Array Oper} (h : okAll md ops = true) : TextOk md ops := by
  have h0 := h
  simp only [okAll, Bool.and_eq_true] at h0
  refine ⟨h0.1, fun i o ho => ?_⟩
  have hi : i < ops.size := (Array.getElem?_eq_some_iff.1 ho).1
  have ho' : ops.toList[i]? = some o := by rw [Array.getElem?_toList]; exact ho
  obtain ⟨a1, a2⟩ := okRest_at h0.2 ho'
  rw [Nat.zero_add] at a1 a2
  simp only [okAtR, Bool.and_eq_true] at a1
  obtain ⟨-, aback⟩ := a1
  have hready : i ∈ Region.ready md ops (laidTo ops.size i) := by
    refine mem_ready.2 ⟨laidTo_ge (Nat.le_refl _) hi _, o, ho, fun e he hb => ?_⟩
    have h1 := List.all_eq_true.1 aback e (Array.mem_toList_iff.2 he)
    rw [hb, Bool.not_true, Bool.false_or] at h1
    exact laidTo_lt (Nat.le_of_ble_eq_true h1) _
  split
  · refine ⟨?_, by simpa using hready⟩
    unfold Region.free
    rw [ho]
    dsimp only
    rw [List.all_eq_true]
    intro j hj
    have hjn := List.mem_range.1 hj
    rcases Nat.lt_trichotomy j i with h1 | h1 | h1
    · rw [laidTo_lt h1]; simp
    · subst h1; simp
    · cases hoj : ops[j]? with
      | none => simp
      | some oj =>
        rcases okAll_pair h h1 ho hoj with ⟨e, he, hb, hon⟩ | h2
        · have : oj.after.any (fun e => Region.binds md e && e.on == i) = true := Array.any_eq_true'.2 ⟨e, he, by simp [hb, hon]⟩
          simp [this]
        · simp [h2]
  · rename_i ht
    rcases a2 with a2 | a2
    · exact absurd a2 ht
    · have honly : ∀ k, k ∈ Region.ready md ops (laidTo ops.size i) → k = i := fun k hk => by
        obtain ⟨h1, ok, hok, h2⟩ := mem_ready.1 hk
        have hkn := (Array.getElem?_eq_some_iff.1 hok).1
        rcases Nat.lt_trichotomy k i with h3 | h3 | h3
        · rw [laidTo_lt h3] at h1; cases h1
        · exact h3
        · obtain ⟨e, he, hb, hon⟩ := a2 k ok h3 (by rw [Array.getElem?_toList]; exact hok)
          have h4 := h2 e (Array.mem_toList_iff.1 he) hb
          by_cases hen : e.on < ops.size
          · rw [laidTo_ge hon hen] at h4; cases h4
          · rw [Array.getD_eq_getD_getElem?, Array.getElem?_eq_none (by rw [laidTo_size _ _ (Nat.le_of_lt hi)]; omega)] at h4; cases h4
      -- a sublist of the range in which i alone is left
      have hnd : (Region.ready md ops (laidTo ops.size i)).Nodup := List.Pairwise.filter _ List.nodup_range
      match hr : Region.ready md ops (laidTo ops.size i), hready, hnd, honly with
      | [], hm, _, _ => cases hm
      | [x], _, _, ho1 => rw [ho1 x (by simp)]
      | x :: y :: l, _, hd, ho1 =>
        have h1 := ho1 x (by simp)
        have h2 := ho1 y (by simp)
        rw [h1, h2] at hd
        simp at hd
section
variable {P : Program} {ops : Array Oper} {Q : Exit → Act → World → Prop} {S : World → Prop}
def wpText (P : Program) (ops : Array Oper) (Q : Exit → Act → World → Prop) : (World → Prop) → List Oper → Act → World → Prop
  | _, [], a, w => Q .normal a w
  | S, o :: rest, a, w =>
    if Region.wanted o (yielded ops a.tmps) = true then
      (if takeB o = true then ∃ v, (∀ W, S W → (execOp a.eval o).run P W = .ok (.value v) W) ∧ wpText P ops Q S rest (a.put o.dst v) w
       else Oper.wp P o a w (fun a' w' => ∃ S' : World → Prop, (∀ W, S' W → S W) ∧ S' w' ∧ wpText P ops Q S' rest a' w') Q)
    else wpText P ops Q S rest (a.put o.dst undef) w
theorem wpAnyH_weak {P : Program} {md : Region.Mode} {ops : Array Oper} {Q : Exit → Act → World → Prop} {S S' : World → Prop} (hS : ∀ W, S' W → S W) : ∀ (n : Nat) (l : Array Bool) (a : Act) (w : World), wpAnyH P md ops Q S' n l a w → wpAnyH P md ops Q S n l a w
  | 0, _, _, _, h => h
  | n + 1, l, a, w, h => ⟨h.1, fun i hi => wpOp_mono (fun a' w' h' => ⟨hS _ h'.1, wpAnyH_weak hS n _ a' w' h'.2⟩) (h.2 i hi)⟩
theorem text_any {md : Region.Mode} (hb : TextOk md ops) (hQ : ∀ c a d v w, Q (.panic c) (Act.put a d v) w → Q (.panic c) a w) :
    ∀ (rest : List Oper) (S : World → Prop) (pre : List Oper) (a : Act) (w : World), ops.toList = pre ++ rest → S w → wpText P ops Q S rest a w → wpAnyH P md ops Q S rest.length (laidTo ops.size pre.length) a w := by
  obtain ⟨hs, hall⟩ := hb
  intro rest
  induction rest with
  | nil =>
    intro S pre a w he hS h
    have hn : pre.length = ops.size := by rw [← Array.length_toList, he]; simp
    refine ⟨?_, h⟩
    unfold Region.ready
    rw [List.filter_eq_nil_iff]
    intro i hi
    have hi' := List.mem_range.1 hi
    have : (laidTo ops.size pre.length).getD i true = true := by
      rw [hn]; unfold laidTo; rw [Nat.sub_self]; simp [hi']
    simp [this]
  | cons o rest ih =>
    intro S pre a w he hS h
    have hn : pre.length < ops.size := by rw [← Array.length_toList, he]; simp
    have hi : ops[pre.length]? = some o := by
      rw [← Array.getElem?_toList, he]; simp
    have hk := hall pre.length o hi
    have ih' : ∀ (S : World → Prop) a' w', S w' → wpText P ops Q S rest a' w' → wpAnyH P md ops Q S rest.length ((laidTo ops.size pre.length).setIfInBounds pre.length true) a' w' := fun S a' w' h1 h2 => by
      have := ih S (pre ++ [o]) a' w' (by rw [he]; simp) h1 h2
      rw [laidTo_set _ _ hn]
      simpa using this
    have h : if Region.wanted o (yielded ops a.tmps) = true then (if takeB o = true then ∃ v, (∀ W, S W → (execOp a.eval o).run P W = .ok (.value v) W) ∧ wpText P ops Q S rest (a.put o.dst v) w else Oper.wp P o a w (fun a' w' => ∃ S' : World → Prop, (∀ W, S' W → S W) ∧ S' w' ∧ wpText P ops Q S' rest a' w') Q) else wpText P ops Q S rest (a.put o.dst undef) w := h
    show wpAnyH P md ops Q S (rest.length + 1) _ a w
    by_cases ht : takeB o = true
    · rw [if_pos ht] at hk
      obtain ⟨hf, hr⟩ := hk
      by_cases hw : Region.wanted o (yielded ops a.tmps) = true
      · rw [if_pos hw, if_pos ht] at h
        obtain ⟨v, hy, h2⟩ := h
        exact wpAnyH_take hi hs hf hr (fun c a w => hQ c a _ _ w) (Or.inl ⟨hw, hy⟩) hS (ih' _ _ _ hS h2)
      · rw [if_neg hw] at h
        exact wpAnyH_take hi hs hf hr (fun c a w => hQ c a _ _ w) (Or.inr ⟨by simpa using hw, rfl⟩) hS (ih' _ _ _ hS h)
    · rw [if_neg ht] at hk
      have hr : Region.ready md ops (laidTo ops.size pre.length) = [pre.length] := hk
      refine wpAnyH_all hr (by simp) fun j hj => ?_
      have hj' : j = pre.length := by simpa using hj
      subst hj'
      unfold wpOp
      rw [hi]
      dsimp only
      by_cases hw : Region.wanted o (yielded ops a.tmps) = true
      · rw [if_pos hw, if_neg ht] at h
        rw [if_pos hw]
        exact .inl (Oper.wp_mono (fun a' w' ⟨S', h3, h4, h5⟩ => ⟨h3 _ h4, wpAnyH_weak h3 _ _ _ _ (ih' _ _ _ h4 h5)⟩) h)
      · rw [if_neg hw] at h
        rw [if_neg hw]
        exact ⟨hS, ih' _ _ _ hS h⟩
/-- The region, in the order of its text. -/
theorem wp_region_text {id : Nat} {a : Act} {w : World} (S : World → Prop) (hm : P.follows .mixedOrders = true) (hb : okAll .any ops = true) (hS : S w.drew) (h : S w.drew → wpText P ops (NoPanic Q) S ops.toList a w.drew) : (Code.region id ops true).wp P Q a w :=
  wp_region_noPanic (wp_region_held_drew hm hS fun h0 => by
    have := text_any (okAll_text hb) (fun _ _ _ _ _ h => h) ops.toList S [] a w.drew rfl h0 (h h0)
    simpa [laidTo_zero] using this)
variable {o : Oper} {rest : List Oper} {a : Act} {w : World}
theorem text_skip (hw : Region.wanted o (yielded ops a.tmps) = false) (h : wpText P ops Q S rest (a.put o.dst undef) w) : wpText P ops Q S (o :: rest) a w := by
  unfold wpText; rw [if_neg (by rw [hw]; simp)]; exact h
theorem text_take {v : Value} (hw : Region.wanted o (yielded ops a.tmps) = true) (ht : takeB o = true) (hy : ∀ W, S W → (execOp a.eval o).run P W = .ok (.value v) W) (h : wpText P ops Q S rest (a.put o.dst v) w) : wpText P ops Q S (o :: rest) a w := by
  unfold wpText; rw [if_pos hw, if_pos ht]; exact ⟨v, hy, h⟩
theorem text_call (hw : Region.wanted o (yielded ops a.tmps) = true) (ht : takeB o = false) (h : ∀ K : Act → World → Prop, Shut (∀ a w, S w → (S w → wpText P ops Q S rest a w) → K a w) → Oper.wp P o a w K Q) : wpText P ops Q S (o :: rest) a w := by
  unfold wpText; rw [if_pos hw, if_neg (by rw [ht]; simp)]
  exact h _ fun a w h1 h2 => ⟨S, fun _ h => h, h1, h2 h1⟩
/-- Behind a call more can be said of all worlds to come. -/
theorem text_call_more (hw : Region.wanted o (yielded ops a.tmps) = true) (ht : takeB o = false) (h : ∀ K : Act → World → Prop, Shut (∀ (S' : World → Prop) a w, (∀ W, S' W → S W) → S' w → (S' w → wpText P ops Q S' rest a w) → K a w) → Oper.wp P o a w K Q) : wpText P ops Q S (o :: rest) a w := by
  unfold wpText; rw [if_pos hw, if_neg (by rw [ht]; simp)]
  exact h _ fun S' a w h0 h1 h2 => ⟨S', h0, h1, h2 h1⟩
theorem text_done {Q : Exit → Act → World → Prop} (h : Q .normal a w) : wpText P ops (NoPanic Q) S [] a w := h
end
end Go.Proofs.YtppjnpempgpkaaaGreat
namespace Go.Proofs.YtppjnpempgpkaaaGreat
open Go.RowKit
set_option linter.unusedVariables false
set_option linter.unusedSimpArgs false
/-- It only reads: what it gives is a value. -/
def readB (o : Oper) : Bool := match o.op with
  | .move _ | .assign _ | .pick _ _ _ | .nilCheck _ | .binOp _ _ _ _ _ | .unOp _ _ _ | .convert _ _ _ | .fieldAddr _ _ _ | .field _ _ _ | .indexAddr _ _ _ | .index _ _ _ | .extract _ _ | .slice _ _ _ _ _ | .build _ _ | .load _ _ | .makeFunc _ _ _ => true
  | _ => false
def VOnly (P : Program) (s : Sem Next) : Prop := ∀ w n w', s.run P w = .ok n w' → ∃ u, n = .value u
theorem VOnly.bind {P : Program} {α : Type} {s : Sem α} {f : α → Sem Next} (h : ∀ a, VOnly P (f a)) : VOnly P (s >>= f) := by
  intro w n w' hr
  rw [Sem.run_bind] at hr
  cases hs : s.run P w with
  | ok u w1 => rw [hs] at hr; exact h u w1 n w' hr
  | halt x w1 => rw [hs] at hr; simp at hr
theorem VOnly.pure {P : Program} (v : Value) : VOnly P (Pure.pure (Next.value v)) := by
  intro w n w' hr; simp at hr; exact ⟨v, hr.1.symm⟩
theorem VOnly.panic {P : Program} (e : RuntimeError) : VOnly P (runtimePanic e) := by
  have hp : ∀ v : Value, VOnly P (goPanic v) := fun v w n w' hr => by simp at hr
  unfold runtimePanic
  refine VOnly.bind fun p => ?_
  cases e
  all_goals dsimp only
  all_goals first
    | exact hp _
    | exact VOnly.bind fun _ => VOnly.bind fun _ => hp _
    | fail
theorem VOnly.unsup {P : Program} (e : Unsupported) : VOnly P (unsupported e) := by
  intro w n w' hr; simp at hr
theorem read_value {P : Program} {ρ : Operand → Value} {o : Oper} (ho : readB o = true) : VOnly P (execOp ρ o) := by
  unfold readB at ho
  unfold execOp
  split at ho
  rotate_right
  · simp at ho
  all_goals rename_i heq
  all_goals try (rw [heq]; dsimp only)
  all_goals try exact VOnly.pure _
  all_goals try exact VOnly.bind fun _ => VOnly.pure _
  split
  all_goals try exact VOnly.panic _
  all_goals try exact VOnly.pure _
  split
  all_goals try exact VOnly.panic _
  all_goals try exact VOnly.pure _
  refine VOnly.bind fun _ => VOnly.bind fun _ => ?_
  split
  · exact VOnly.bind fun _ => VOnly.pure _
  · exact VOnly.pure _
section
variable {P : Program} {ops : Array Oper} {Q : Exit → Act → World → Prop} {S : World → Prop}
/-- Distinct slots. -/
def partBR (chunk : List Oper) (n : Nat) : Bool := chunk.all (fun o => readB o && takeB o && (match o.dst with | some d => decide (d < n) | none => false)) && decide ((chunk.map (·.dst)).Nodup)
theorem put_size (a : Act) (d : Option Tmp) (v : Value) : (a.put d v).tmps.size = a.tmps.size := by
  cases d <;> simp [Act.put]
theorem put_other {a : Act} {d : Tmp} {d' : Option Tmp} {v : Value} (h : some d ≠ d') : (a.put d' v).tmps[d]? = a.tmps[d]? := by
  cases d' with
  | none => rfl
  | some e =>
    simp only [Act.put]
    rw [Array.getElem?_setIfInBounds_ne (by intro h1; exact h (by rw [h1]))]
theorem put_same {a : Act} {d : Tmp} {v : Value} (h : d < a.tmps.size) : (a.put (some d) v).tmps[d]? = some v := by
  simp only [Act.put]
  rw [Array.getElem?_setIfInBounds_self_of_lt h]
theorem quiet_other (W : World) (aEnd : Act) (d : Tmp) : ∀ (chunk : List Oper) (a : Act), (∀ o ∈ chunk, o.dst ≠ some d) → wpQuiet P ops (fun w' => ∃ n, w' = W.drewN n) (fun a' => a' = aEnd) chunk a → a.tmps[d]? = aEnd.tmps[d]?
  | [], a, _, h => by have : a = aEnd := h; rw [this]
  | o :: rest, a, hd, h => by
    unfold wpQuiet at h
    have hne : some d ≠ o.dst := fun e => hd o (by simp) e.symm
    split at h
    · obtain ⟨v, -, h2⟩ := h
      rw [← put_other hne (v := v)]
      exact quiet_other W aEnd d rest _ (fun o' ho => hd o' (by simp [ho])) h2
    · rw [← put_other hne (v := undef)]
      exact quiet_other W aEnd d rest _ (fun o' ho => hd o' (by simp [ho])) h
theorem text_chunk_aux (aEnd : Act) (rest : List Oper) (w w1 : World) (hS1 : S w1) (hr : wpText P ops Q S rest aEnd w) :
    ∀ (chunk : List Oper) (a : Act), partBR chunk a.tmps.size = true → (∀ W, S W → wpQuiet P ops (fun w' => ∃ n, w' = W.drewN n) (fun a' => a' = aEnd) chunk a) → wpText P ops Q S (chunk ++ rest) a w
  | [], a, _, h => by have : a = aEnd := h w1 hS1; rw [this]; exact hr
  | o :: chunk, a, hp, h => by
    obtain ⟨h1, h2⟩ := (Bool.and_eq_true _ _).mp hp
    have h2 := of_decide_eq_true h2
    rw [List.map_cons, List.nodup_cons] at h2
    have h1' := List.all_eq_true.1 h1
    have ho := h1' o (by simp)
    simp only [Bool.and_eq_true] at ho
    obtain ⟨⟨ho1, ho2⟩, ho3⟩ := ho
    have hpart : partBR chunk a.tmps.size = true := by
      unfold partBR
      rw [Bool.and_eq_true]
      exact ⟨List.all_eq_true.2 fun o' ho' => h1' o' (by simp [ho']), decide_eq_true h2.2⟩
    show wpText P ops Q S (o :: (chunk ++ rest)) a w
    by_cases hw : Region.wanted o (yielded ops a.tmps) = true
    · cases hd : o.dst with
      | none => rw [hd] at ho3; simp at ho3
      | some d =>
        rw [hd] at ho3
        have hdlt : d < a.tmps.size := of_decide_eq_true ho3
        -- the value is what the frame holds at the end
        have key : ∀ W, S W → ∃ v, (execOp a.eval o).run P W = .ok (.value v) W ∧ aEnd.tmps[d]? = some v ∧ wpQuiet P ops (fun w' => ∃ n, w' = W.drewN n) (fun a' => a' = aEnd) chunk (a.put o.dst v) := fun W hW => by
          have hq := h W hW
          unfold wpQuiet at hq
          rw [if_pos hw] at hq
          obtain ⟨v, hv, hq2⟩ := hq
          have hv0 := hv W ⟨0, rfl⟩
          unfold Oper.quietAt at hv0
          cases hr : (execOp a.eval o).run P W with
          | halt x w' => rw [hr] at hv0; exact hv0.elim
          | ok n w' =>
            obtain ⟨u, rfl⟩ := read_value ho1 W n w' hr
            rw [hr] at hv0
            obtain ⟨hw', hu⟩ := hv0
            subst hu
            refine ⟨u, by rw [hw'], ?_, hq2⟩
            have := quiet_other W aEnd d chunk (a.put o.dst u) (fun o' ho' e => h2.1 (by rw [hd, ← e]; exact List.mem_map_of_mem ho')) hq2
            rw [← this, hd]
            exact put_same hdlt
        obtain ⟨v, -, hv, -⟩ := key w1 hS1
        refine text_take (v := v) hw ho2 (fun W hW => ?_) ?_
        · obtain ⟨v', h3, h4, -⟩ := key W hW
          rw [hv] at h4
          cases h4
          exact h3
        · refine text_chunk_aux aEnd rest w w1 hS1 hr chunk _ (by rw [put_size]; exact hpart) fun W hW => ?_
          obtain ⟨v', h3, h4, h5⟩ := key W hW
          rw [hv] at h4
          cases h4
          exact h5
    · have hw' : Region.wanted o (yielded ops a.tmps) = false := by simpa using hw
      refine text_skip hw' (text_chunk_aux aEnd rest w w1 hS1 hr chunk _ (by rw [put_size]; exact hpart) fun W hW => ?_)
      have hq := h W hW
      unfold wpQuiet at hq
      rw [if_neg hw] at hq
      exact hq
/-- Several operations at once. -/
theorem text_chunk (n : Nat) {l : List Oper} {a aEnd : Act} {w : World} (hp : partBR (l.take n) a.tmps.size = true) (hS : S w) (h : ∀ W, S W → wpQuiet P ops (fun w' => ∃ n, w' = W.drewN n) (fun a' => a' = aEnd) (l.take n) a) (hr : wpText P ops Q S (l.drop n) aEnd w) : wpText P ops Q S l a w := by
  have := text_chunk_aux aEnd (l.drop n) w w hS hr (l.take n) a hp h
  rwa [List.take_append_drop] at this
end
end Go.Proofs.YtppjnpempgpkaaaGreat
namespace Go.Proofs.YtppjnpempgpkaaaGreat
open Go.RowKit
set_option linter.unusedVariables false
set_option linter.unusedSimpArgs false
def lst (n : Nat) (done : List Nat) : Array Bool := ((List.range n).map fun k => done.any fun d => Nat.beq d k).toArray
def inB (done : List Nat) (k : Nat) : Bool := done.any fun d => Nat.beq d k
theorem inB_iff {done : List Nat} {k : Nat} : inB done k = true ↔ k ∈ done := by
  unfold inB
  rw [List.any_eq_true]
  constructor
  · rintro ⟨d, h1, h2⟩; rw [← Nat.eq_of_beq_eq_true h2]; exact h1
  · intro h; exact ⟨k, h, Nat.beq_refl k⟩
theorem lst_size (n : Nat) (done : List Nat) : (lst n done).size = n := by simp [lst]
theorem lst_get {n : Nat} {done : List Nat} {k : Nat} (h : k < n) (b : Bool) : (lst n done).getD k b = inB done k := by
  have h1 : (lst n done)[k]? = some (inB done k) := by
    unfold lst inB
    rw [List.getElem?_toArray, List.getElem?_map, List.getElem?_range h]
    rfl
  rw [Array.getD_eq_getD_getElem?, h1]
  rfl
theorem lst_set {n : Nat} {done : List Nat} {i : Nat} (h : i < n) : (lst n done).setIfInBounds i true = lst n (i :: done) := by
  apply Array.ext
  · simp [lst]
  · intro k h1 h2
    have hk : k < n := by simpa [lst] using h2
    rw [Array.getElem_setIfInBounds (by rw [lst_size]; exact hk)]
    by_cases e : i = k
    · subst e
      rw [if_pos rfl]
      simp [lst]
    · rw [if_neg e]
      have hne : Nat.beq i k = false := by
        cases hb : Nat.beq i k with
        | false => rfl
        | true => exact absurd (Nat.eq_of_beq_eq_true hb) e
      simp [lst, hne]
theorem lst_nil (n : Nat) : lst n [] = Array.replicate n false := by
  apply Array.ext
  · simp [lst]
  · intro k h1 h2; simp [lst]
def okRest2 (md : Region.Mode) (ops : Array Oper) (l : List Oper) : List Oper → Nat → Bool
  | [], _ => true
  | o :: rest, j => okAtR md ops l j o && okRest2 md ops l rest (j + 1)
theorem okRest2_at {md : Region.Mode} {ops : Array Oper} {l : List Oper} : ∀ {rest : List Oper} {j : Nat}, okRest2 md ops l rest j = true → ∀ {k : Nat} {o : Oper}, rest[k]? = some o → okAtR md ops l (j + k) o = true
  | [], _, _, k, o, h => by simp at h
  | a :: rest, j, h, k, o, hk => by
    simp only [okRest2, Bool.and_eq_true] at h
    cases k with
    | zero => simp at hk; subst hk; exact h.1
    | succ k =>
      simp only [List.getElem?_cons_succ] at hk
      rw [show j + (k + 1) = j + 1 + k from by omega]
      exact okRest2_at h.2 hk
theorem ok2_pair {md : Region.Mode} {ops : Array Oper} (h : okRest2 md ops ops.toList ops.toList 0 = true) {i j : Nat} {x y : Oper} (hij : i ≠ j) (hx : ops[i]? = some x) (hy : ops[j]? = some y) (hni : ¬ ∃ e ∈ x.after, Region.binds md e = true ∧ e.on = j) :
    (∃ e ∈ y.after, Region.binds md e = true ∧ e.on = i) ∨ x.apart ops y = true := by
  have hx' : ops.toList[i]? = some x := by rw [Array.getElem?_toList]; exact hx
  have hy' : ops.toList[j]? = some y := by rw [Array.getElem?_toList]; exact hy
  have ax := okRest2_at h hx'
  have ay := okRest2_at h hy'
  rw [Nat.zero_add] at ax ay
  simp only [okAtR, Bool.and_eq_true] at ax ay
  obtain ⟨⟨ax1, ax2⟩, -⟩ := ax
  obtain ⟨⟨ay1, ay2⟩, -⟩ := ay
  apply Classical.byContradiction
  intro hn
  have hn1 : ¬ ∃ e ∈ y.after, Region.binds md e = true ∧ e.on = i := fun h => hn (.inl h)
  have hfx : ∀ d, x.dst = some d → findD d ops.toList 0 = some i := fun d hd => by
    rw [hd] at ax1
    dsimp only at ax1
    unfold isAt at ax1
    split at ax1
    · rename_i k hk; rw [hk, Nat.eq_of_beq_eq_true ax1]
    · cases ax1
  have hfy : ∀ d, y.dst = some d → findD d ops.toList 0 = some j := fun d hd => by
    rw [hd] at ay1
    dsimp only at ay1
    unfold isAt at ay1
    split at ay1
    · rename_i k hk; rw [hk, Nat.eq_of_beq_eq_true ay1]
    · cases ay1
  apply hn
  right
  unfold Oper.apart
  rw [Bool.and_eq_true]
  constructor
  · cases hd : x.dst with
    | none => rfl
    | some d =>
      have hf := hfx d hd
      dsimp only
      rw [Bool.and_eq_true]
      constructor
      · rw [Bool.not_eq_true', ← Bool.not_eq_true]
        intro hc
        have hm : d ∈ y.looksAt ops := by simpa using hc
        have h1 := List.all_eq_true.1 ay2 d hm
        rw [hf] at h1
        dsimp only at h1
        rw [Bool.or_eq_true, Bool.and_eq_true, Bool.and_eq_true] at h1
        rcases h1 with ⟨_, h2⟩ | ⟨_, h2⟩
        · exact hn1 (waitsB_spec h2)
        · rw [hx] at h2; exact hni (waitsB_spec h2)
      · rw [bne_iff_ne]
        intro hc
        have := hfy d hc
        rw [hf] at this
        cases this
        exact hij rfl
  · cases hd : y.dst with
    | none => rfl
    | some d =>
      have hf := hfy d hd
      dsimp only
      rw [Bool.not_eq_true', ← Bool.not_eq_true]
      intro hc
      have hm : d ∈ x.looksAt ops := by simpa using hc
      have h1 := List.all_eq_true.1 ax2 d hm
      rw [hf] at h1
      dsimp only at h1
      rw [Bool.or_eq_true, Bool.and_eq_true, Bool.and_eq_true] at h1
      rcases h1 with ⟨_, h2⟩ | ⟨_, h2⟩
      · exact hni (waitsB_spec h2)
      · rw [hy] at h2; exact hn1 (waitsB_spec h2)
def ordOk (md : Region.Mode) (ops : Array Oper) : List Nat → List Nat → Bool
  | [], done => (List.range ops.size).all fun k => inB done k
  | i :: rest, done => (match ops[i]? with
    | some o => !inB done i && (o.after.toList.all fun e => !Region.binds md e || inB done e.on) &&
        (takeB o || (List.range ops.size).all fun j => inB done j || Nat.beq j i || (match ops[j]? with | some o' => o'.after.toList.any fun e => Region.binds md e && !inB done e.on | none => true))
    | none => false) && ordOk md ops rest (i :: done)
def orderB (md : Region.Mode) (ops : Array Oper) (ord : List Nat) : Bool := Region.noSelect ops && okRest2 md ops ops.toList ops.toList 0 && Nat.beq ord.length ops.size && ordOk md ops ord []
def opsIn (ops : Array Oper) (ord : List Nat) : List Oper := ord.filterMap fun i => ops[i]?
section
variable {P : Program} {ops : Array Oper} {Q : Exit → Act → World → Prop} {S : World → Prop}
theorem order_any {md : Region.Mode} (hs : Region.noSelect ops = true) (hp : okRest2 md ops ops.toList ops.toList 0 = true) (hQ : ∀ c a d v w, Q (.panic c) (Act.put a d v) w → Q (.panic c) a w) :
    ∀ (rest : List Nat) (S : World → Prop) (done : List Nat) (a : Act) (w : World), ordOk md ops rest done = true → (∀ k ∈ done, k < ops.size) → S w → wpText P ops Q S (opsIn ops rest) a w → wpAnyH P md ops Q S rest.length (lst ops.size done) a w
  | [], S, done, a, w, ho, hd, hS, h => by
    refine ⟨?_, h⟩
    unfold Region.ready
    rw [List.filter_eq_nil_iff]
    intro i hi
    have hi' := List.mem_range.1 hi
    have h1 := List.all_eq_true.1 ho i hi
    simp [lst_get hi', h1]
  | i :: rest, S, done, a, w, ho, hd, hS, h => by
    simp only [ordOk, Bool.and_eq_true] at ho
    obtain ⟨ho1, ho2⟩ := ho
    cases hi : ops[i]? with
    | none => rw [hi] at ho1; cases ho1
    | some o =>
      rw [hi] at ho1
      simp only [Bool.and_eq_true] at ho1
      obtain ⟨⟨h1, h2⟩, h3⟩ := ho1
      have hin : i < ops.size := (Array.getElem?_eq_some_iff.1 hi).1
      have hnd : inB done i = false := by simpa using h1
      have hops : opsIn ops (i :: rest) = o :: opsIn ops rest := by simp [opsIn, hi]
      rw [hops] at h
      have hback : ∀ e ∈ o.after, Region.binds md e = true → inB done e.on = true := fun e he hb => by
        have := List.all_eq_true.1 h2 e (Array.mem_toList_iff.2 he)
        rw [hb, Bool.not_true, Bool.false_or] at this
        exact this
      have hready : i ∈ Region.ready md ops (lst ops.size done) := by
        refine mem_ready.2 ⟨by rw [lst_get hin]; exact hnd, o, hi, fun e he hb => ?_⟩
        have h4 := hback e he hb
        rw [lst_get (hd _ (inB_iff.1 h4))]; exact h4
      have ih' : ∀ (S : World → Prop) a' w', S w' → wpText P ops Q S (opsIn ops rest) a' w' → wpAnyH P md ops Q S rest.length ((lst ops.size done).setIfInBounds i true) a' w' := fun S a' w' h4 h5 => by
        rw [lst_set hin]
        exact order_any hs hp hQ rest S (i :: done) a' w' ho2 (fun k hk => by rcases List.mem_cons.1 hk with rfl | hk; exact hin; exact hd k hk) h4 h5
      have h : if Region.wanted o (yielded ops a.tmps) = true then (if takeB o = true then ∃ v, (∀ W, S W → (execOp a.eval o).run P W = .ok (.value v) W) ∧ wpText P ops Q S (opsIn ops rest) (a.put o.dst v) w else Oper.wp P o a w (fun a' w' => ∃ S' : World → Prop, (∀ W, S' W → S W) ∧ S' w' ∧ wpText P ops Q S' (opsIn ops rest) a' w') Q) else wpText P ops Q S (opsIn ops rest) (a.put o.dst undef) w := h
      show wpAnyH P md ops Q S (rest.length + 1) _ a w
      by_cases ht : takeB o = true
      · have hf : Region.free md ops (lst ops.size done) i = true := by
          unfold Region.free
          rw [hi]
          dsimp only
          rw [List.all_eq_true]
          intro j hj
          have hjn := List.mem_range.1 hj
          by_cases hji : j = i
          · subst hji; simp
          · rw [lst_get hjn]
            cases hdj : inB done j with
            | true => simp
            | false =>
              cases hoj : ops[j]? with
              | none => simp
              | some oj =>
                rcases ok2_pair hp (Ne.symm hji) hi hoj (fun ⟨e, he, hb, hon⟩ => by have := hback e he hb; rw [hon, hdj] at this; cases this) with ⟨e, he, hb, hon⟩ | h5
                · have : oj.after.any (fun e => Region.binds md e && e.on == i) = true := Array.any_eq_true'.2 ⟨e, he, by simp [hb, hon]⟩
                  simp [this]
                · simp [h5]
        by_cases hw : Region.wanted o (yielded ops a.tmps) = true
        · rw [if_pos hw, if_pos ht] at h
          obtain ⟨v, hy, h5⟩ := h
          exact wpAnyH_take hi hs hf (by simpa using hready) (fun c a w => hQ c a _ _ w) (Or.inl ⟨hw, hy⟩) hS (ih' _ _ _ hS h5)
        · rw [if_neg hw] at h
          exact wpAnyH_take hi hs hf (by simpa using hready) (fun c a w => hQ c a _ _ w) (Or.inr ⟨by simpa using hw, rfl⟩) hS (ih' _ _ _ hS h)
      · have h6 : (List.range ops.size).all (fun j => inB done j || Nat.beq j i || (match ops[j]? with | some o' => o'.after.toList.any fun e => Region.binds md e && !inB done e.on | none => true)) = true := by
          rcases (Bool.or_eq_true _ _).mp h3 with h6 | h6
          · exact absurd h6 ht
          · exact h6
        have honly : ∀ k, k ∈ Region.ready md ops (lst ops.size done) → k = i := fun k hk => by
          obtain ⟨h7, ok, hok, h8⟩ := mem_ready.1 hk
          have hkn := (Array.getElem?_eq_some_iff.1 hok).1
          rw [lst_get hkn] at h7
          have h9 := List.all_eq_true.1 h6 k (List.mem_range.2 hkn)
          rw [h7, hok, Bool.false_or, Bool.or_eq_true] at h9
          rcases h9 with h9 | h9
          · exact Nat.eq_of_beq_eq_true h9
          · obtain ⟨e, he, h10⟩ := List.any_eq_true.1 h9
            simp only [Bool.and_eq_true] at h10
            have h11 := h8 e (Array.mem_toList_iff.1 he) h10.1
            have h12 : inB done e.on = false := by simpa using h10.2
            by_cases hen : e.on < ops.size
            · rw [lst_get hen, h12] at h11; cases h11
            · rw [Array.getD_eq_getD_getElem?, Array.getElem?_eq_none (by rw [lst_size]; omega)] at h11; cases h11
        have hnd2 : (Region.ready md ops (lst ops.size done)).Nodup := List.Pairwise.filter _ List.nodup_range
        have hr : Region.ready md ops (lst ops.size done) = [i] := by
          match hr : Region.ready md ops (lst ops.size done), hready, hnd2, honly with
          | [], hm, _, _ => cases hm
          | [x], _, _, ho1 => rw [ho1 x (by simp)]
          | x :: y :: l, _, hd, ho1 =>
            have h1 := ho1 x (by simp)
            have h2 := ho1 y (by simp)
            rw [h1, h2] at hd
            simp at hd
        refine wpAnyH_all hr (by simp) fun j hj => ?_
        have hj' : j = i := by simpa using hj
        subst hj'
        unfold wpOp
        rw [hi]
        dsimp only
        by_cases hw : Region.wanted o (yielded ops a.tmps) = true
        · rw [if_pos hw, if_neg ht] at h
          rw [if_pos hw]
          exact .inl (Oper.wp_mono (fun a' w' ⟨S', h3, h4, h5⟩ => ⟨h3 _ h4, wpAnyH_weak h3 _ _ _ _ (ih' _ _ _ h4 h5)⟩) h)
        · rw [if_neg hw] at h
          rw [if_neg hw]
          exact ⟨hS, ih' _ _ _ hS h⟩
/-- The region, in an order that its edges allow. -/
theorem wp_region_order {id : Nat} {a : Act} {w : World} (S : World → Prop) (ord : List Nat) (hm : P.follows .mixedOrders = true) (hb : orderB .any ops ord = true) (hS : S w.drew) (h : S w.drew → wpText P ops (NoPanic Q) S (opsIn ops ord) a w.drew) : (Code.region id ops true).wp P Q a w := by
  simp only [orderB, Bool.and_eq_true] at hb
  obtain ⟨⟨⟨h1, h2⟩, h3⟩, h4⟩ := hb
  exact wp_region_noPanic (wp_region_held_drew hm hS fun h0 => by
    have := order_any h1 h2 (fun _ _ _ _ _ h => h) ord S [] a w.drew h4 (fun k hk => by cases hk) h0 (h h0)
    rw [lst_nil, Nat.eq_of_beq_eq_true h3] at this
    exact this)
end
end Go.Proofs.YtppjnpempgpkaaaGreat
namespace Go.Proofs.YtppjnpempgpkaaaGreat
open Go.RowKit
set_option linter.unusedVariables false
set_option linter.unusedSimpArgs false
/-- Q, but False at a panic, and where memory is outgrown. -/
def NoPO (Q : Exit → Act → World → Prop) : Exit → Act → World → Prop
  | .panic _, _, _ => False
  | .outgrown, _, _ => False
  | e, a, w => Q e a w
theorem noPO_out {Q : Exit → Act → World → Prop} : ¬ LetsOut (NoPO Q) := fun ⟨_, _, h⟩ => h
def noDefer (ops : Array Oper) : Bool := ops.toList.all fun o => match o.op with | .defer _ => false | _ => true
theorem noDefer_at {ops : Array Oper} (h : noDefer ops = true) {i : Nat} {o : Oper} (hi : ops[i]? = some o) : ∀ c, o.op ≠ .defer c := by
  intro c e
  have := List.all_eq_true.1 h o (Array.mem_toList_iff.2 (Array.mem_of_getElem? hi))
  rw [e] at this; cases this
section
variable {F : Fence} {n : Nat} {P : Program} {ops : Array Oper} {Q : Exit → Act → World → Prop} {md : Region.Mode} {S : World → Prop}
theorem op_noPO {o : Oper} {a : Act} {w : World} {K : Act → World → Prop} (h : o.wpIn F n P a w K (NoPO Q)) : o.wpIn F n P a w K Q := by
  refine ⟨h.1, ?_⟩
  have h2 := h.2
  generalize (o.semAt F.round a.eval).run P w = r at h2 ⊢
  cases r with
  | ok x w' =>
    cases x with
    | value v => exact h2
    | skip => exact h2
    | defer d => exact h2
    | enter f args => exact ⟨h2.1, CallsIn.mono h2.2 fun e w'' he => by
        cases e with
        | returned v => exact he
        | panicked c => exact he.elim
        | outgrown => exact (noPO_out he).elim⟩
    | row row args => exact h2
    | round l f tmps assign body => exact ⟨h2.1, RoundIn.mono h2.2 fun e w'' he => by
        cases e with
        | returned v => exact he
        | panicked c => exact he.elim
        | outgrown => exact (noPO_out he).elim⟩
    | _ => exact False.elim h2
  | halt x w' =>
    cases x with
    | panic v => exact False.elim h2
    | _ => exact False.elim h2
theorem any_noPO : ∀ (fuel : Nat) (listed : Array Bool) (a : Act) (w : World), wpAnyIn F n P md ops (NoPO Q) fuel listed a w → wpAnyIn F n P md ops Q fuel listed a w
  | 0, _, _, _, h => h
  | fuel + 1, listed, a, w, h => by
    refine ⟨fun h0 => h.1 h0, fun i hi => ?_⟩
    have h1 := h.2 i hi
    unfold wpOpIn at h1 ⊢
    cases ho : ops[i]? with
    | none => rw [ho] at h1; exact any_noPO fuel _ _ _ h1
    | some o =>
      rw [ho] at h1
      dsimp only at h1 ⊢
      split
      · rename_i hw
        rw [if_pos hw] at h1
        exact op_noPO (Oper.wpIn_mono (fun a' w' hk => any_noPO fuel _ a' w' hk) h1)
      · rename_i hw
        rw [if_neg hw] at h1
        exact ⟨h1.1, any_noPO fuel _ _ _ h1.2⟩
theorem yieldsIf_opIn (hfn : ∀ f, F.fn f) (hnd0 : noDefer ops = true) {i : Nat} {o : Oper} {v : Value} {a : Act} (hi : ops[i]? = some o) (hy : YieldsIf P ops S o v a)
    {K : Act → World → Prop} {w : World} (hS : S w) (h : K (a.put o.dst v) w) : wpOpIn F n P ops Q i K a w := by
  unfold Go.wpOpIn
  simp only [hi]
  rcases hy with ⟨hw, hv⟩ | ⟨hw, rfl⟩
  · simp only [hw, if_true, Oper.wpIn, Oper.semAt_eq F.round _ _ (noDefer_at hnd0 hi), hv w hS, Oper.uponIn]; exact ⟨fun f _ => hfn f, h⟩
  · simp only [hw, Bool.false_eq_true, if_false]; exact ⟨fun f _ => hfn f, h⟩
theorem wpOpIn_putIf (hfn : ∀ f, F.fn f) (hnd0 : noDefer ops = true) {j : Nat} {oi oj : Oper} {v : Value} (hj : ops[j]? = some oj) (hap : oi.apart ops oj = true)
    (hsi : ∀ cs b, oi.op ≠ .select cs b) (hsj : ∀ cs b, oj.op ≠ .select cs b)
    (hQ : ∀ c a w, Q (.panic c) (a.put oi.dst v) w → Q (.panic c) a w) {K : Act → World → Prop} {a : Act} {w : World}
    (hy : YieldsIf P ops S oi v a) (h : wpOpIn F n P ops Q j K (a.put oi.dst v) w) :
    wpOpIn F n P ops Q j (fun a' w' => YieldsIf P ops S oi v a' ∧ K (a'.put oi.dst v) w') a w := by
  obtain ⟨h1, h2, h3⟩ := Oper.apart_spec hap
  have hsem := fun (ρ : Operand → Value) => Oper.semAt_eq F.round ρ oj (noDefer_at hnd0 hj)
  have keep : ∀ (a : Act), YieldsIf P ops S oi v a → ∀ u, YieldsIf P ops S oi v (a.put oj.dst u) := fun a hy u =>
    hy.of_same (execOp_put oi hsi a oj.dst u h3) (wanted_put oi a oj.dst u h3)
  have keepD : ∀ d, YieldsIf P ops S oi v { a with defers := d :: a.defers } := fun d => hy.of_same rfl rfl
  unfold wpOpIn at *
  simp only [hj] at *
  rw [wanted_put oj a oi.dst v h1] at h
  split
  · rename_i hw
    simp only [hw, if_true] at h
    unfold Oper.wpIn at *
    refine ⟨fun f _ => hfn f, ?_⟩
    have h := h.2
    rw [hsem, execOp_put oj hsj a oi.dst v h1] at h
    rw [hsem]
    generalize (execOp a.eval oj).run P w = r at *
    cases r with
    | ok x w' =>
      cases x <;> simp only [Oper.uponIn] at h ⊢
      case value u => exact ⟨keep a hy u, by rw [← Act.put_comm a v u h2]; exact h⟩
      case skip => exact ⟨keep a hy _, by rw [← Act.put_comm a v undef h2]; exact h⟩
      case defer d =>
        refine ⟨keep _ (keepD d) _, ?_⟩
        rw [← Act.put_comm _ v undef h2, ← Act.put_defers]
        exact h
      case enter f args =>
        refine ⟨h.1, CallsIn.mono h.2 fun e w'' he => ?_⟩
        cases e with
        | returned u => exact ⟨keep a hy u, by rw [← Act.put_comm a v u h2]; exact he⟩
        | panicked c => exact hQ _ _ _ he
        | outgrown => exact he
      case row row args => exact ⟨h.1, RowsIn.mono h.2 fun u w'' he => ⟨keep a hy u, by rw [← Act.put_comm a v u h2]; exact he⟩⟩
      case round l f tmps assign body =>
        refine ⟨h.1, RoundIn.mono h.2 fun e w'' he => ?_⟩
        cases e with
        | returned u => exact ⟨keep a hy u, by rw [← Act.put_comm a v u h2]; exact he⟩
        | panicked c => exact hQ _ _ _ he
        | outgrown => exact he
    | halt x w' =>
      cases x <;> simp only [Oper.uponIn] at h ⊢
      case panic u => exact hQ _ _ _ h
  · rename_i hw
    simp only [hw] at h
    exact ⟨fun f _ => hfn f, keep a hy _, by rw [← Act.put_comm a v undef h2]; exact h.2⟩
def wpAnyHI (F : Fence) (n : Nat) (P : Program) (md : Region.Mode) (ops : Array Oper) (Q : Exit → Act → World → Prop) (S : World → Prop) : Nat → Array Bool → Act → World → Prop
  | 0, listed, a, w => Region.ready md ops listed = [] ∧ Q .normal a w
  | fuel + 1, listed, a, w =>
    (Region.ready md ops listed = [] → Q .normal a w) ∧
    ∀ i ∈ Region.ready md ops listed, wpOpIn F n P ops Q i (fun a' w' => S w' ∧ wpAnyHI F n P md ops Q S fuel (listed.setIfInBounds i true) a' w') a w
theorem wpAnyIn_of_held : ∀ (fuel : Nat) (listed : Array Bool) (a : Act) (w : World), wpAnyHI F n P md ops Q S fuel listed a w → wpAnyIn F n P md ops Q fuel listed a w
  | 0, _, _, _, h => h
  | fuel + 1, _, _, _, h => ⟨h.1, fun i hi => wpOpIn_mono (fun a' w' h' => wpAnyIn_of_held fuel _ a' w' h'.2) (h.2 i hi)⟩
theorem wpAnyHI_weak {S' : World → Prop} (hS : ∀ W, S' W → S W) : ∀ (k : Nat) (l : Array Bool) (a : Act) (w : World), wpAnyHI F n P md ops Q S' k l a w → wpAnyHI F n P md ops Q S k l a w
  | 0, _, _, _, h => h
  | k + 1, l, a, w, h => ⟨h.1, fun i hi => wpOpIn_mono (fun a' w' h' => ⟨hS _ h'.1, wpAnyHI_weak hS k _ a' w' h'.2⟩) (h.2 i hi)⟩
theorem wpAnyHI_first (hfn : ∀ f, F.fn f) (hnd0 : noDefer ops = true) {i : Nat} {oi : Oper} {v : Value} (hi : ops[i]? = some oi) (hsel : ∀ (j : Nat) (o : Oper) cs b, ops[j]? = some o → o.op ≠ .select cs b)
    (hQ : ∀ c a w, Q (.panic c) (a.put oi.dst v) w → Q (.panic c) a w) :
    ∀ (fuel : Nat) (listed : Array Bool) (a : Act) (w : World),
      (∀ j oj, ops[j]? = some oj → j ≠ i → listed.getD j true = false → (∀ e ∈ oj.after, Region.binds md e = true → e.on ≠ i) → oi.apart ops oj = true) →
      i ∈ Region.ready md ops listed → YieldsIf P ops S oi v a → S w →
      wpAnyHI F n P md ops Q S fuel (listed.setIfInBounds i true) (a.put oi.dst v) w → wpAnyHI F n P md ops Q S (fuel + 1) listed a w := by
  intro fuel
  induction fuel with
  | zero =>
    intro listed a w _ hr hy hS H
    refine ⟨fun h => (by rw [h] at hr; cases hr), fun j hj => ?_⟩
    by_cases hji : j = i
    · subst hji; exact yieldsIf_opIn hfn hnd0 hi hy hS ⟨hS, H⟩
    · have := ready_mono hj hji
      rw [H.1] at this
      cases this
  | succ fuel ih =>
    intro listed a w hfree hr hy hS H
    refine ⟨fun h => (by rw [h] at hr; cases hr), fun j hj => ?_⟩
    by_cases hji : j = i
    · subst hji; exact yieldsIf_opIn hfn hnd0 hi hy hS ⟨hS, H⟩
    · have h1 := H.2 j (ready_mono hj hji)
      obtain ⟨hjun, oj, hoj, hall⟩ := mem_ready.1 hj
      have hnot : ∀ e ∈ oj.after, Region.binds md e = true → e.on ≠ i := fun e he hb heq => by
        have h1 := hall e he hb
        have h0 := (mem_ready.1 hr).1
        rw [heq] at h1
        rcases Nat.lt_or_ge i listed.size with h' | h'
        · simp [h'] at h0 h1; rw [h0] at h1; cases h1
        · simp [Array.getElem?_eq_none h'] at h1
      have h2 := wpOpIn_putIf hfn hnd0 hoj (hfree j oj hoj hji hjun hnot) (fun cs b => hsel i oi cs b hi) (fun cs b => hsel j oj cs b hoj) hQ hy h1
      have hfree' : ∀ k ok, ops[k]? = some ok → k ≠ i → (listed.setIfInBounds j true).getD k true = false →
          (∀ e ∈ ok.after, Region.binds md e = true → e.on ≠ i) → oi.apart ops ok = true := fun k ok hk hki hun hno => by
        refine hfree k ok hk hki ?_ hno
        by_cases hjk : j = k
        · subst hjk; exact hjun
        · rw [getD_set_ne true hjk] at hun; exact hun
      refine wpOpIn_mono (fun a' w' h3 => ⟨h3.2.1, ih (listed.setIfInBounds j true) a' w' hfree' (ready_mono hr (Ne.symm hji)) h3.1 h3.2.1 ?_⟩) h2
      rw [Array.setIfInBounds_comm _ _ hji]
      exact h3.2.2
theorem wpAnyHI_take (hfn : ∀ f, F.fn f) (hnd0 : noDefer ops = true) {i : Nat} {oi : Oper} {v : Value} {fuel : Nat} {listed : Array Bool} {a : Act} {w : World} (hi : ops[i]? = some oi)
    (hs : Region.noSelect ops = true) (hf : Region.free md ops listed i = true) (hr : (Region.ready md ops listed).contains i = true)
    (hQ : ∀ c a w, Q (.panic c) (a.put oi.dst v) w → Q (.panic c) a w) (hy : YieldsIf P ops S oi v a) (hS : S w)
    (h : wpAnyHI F n P md ops Q S fuel (listed.setIfInBounds i true) (a.put oi.dst v) w) : wpAnyHI F n P md ops Q S (fuel + 1) listed a w :=
  wpAnyHI_first hfn hnd0 hi (Region.noSelect_spec hs) hQ fuel listed a w (Region.free_spec hi hf) (by simpa using hr) hy hS h
theorem wpAnyHI_all {rs : List Nat} {fuel : Nat} {listed : Array Bool} {a : Act} {w : World} (hr : Region.ready md ops listed = rs) (hne : rs ≠ [])
    (h : ∀ i ∈ rs, wpOpIn F n P ops Q i (fun a' w' => S w' ∧ wpAnyHI F n P md ops Q S fuel (listed.setIfInBounds i true) a' w') a w) : wpAnyHI F n P md ops Q S (fuel + 1) listed a w :=
  ⟨fun h0 => absurd (hr ▸ h0) hne, hr ▸ h⟩
end
def wpTextI (F : Fence) (n : Nat) (P : Program) (ops : Array Oper) (Q : Exit → Act → World → Prop) (tk : Oper → Bool) : (World → Prop) → List Oper → Act → World → Prop
  | _, [], a, w => Q .normal a w
  | S, o :: rest, a, w =>
    if Region.wanted o (yielded ops a.tmps) = true then
      (if tk o = true then ∃ v, (∀ W, S W → (execOp a.eval o).run P W = .ok (.value v) W) ∧ wpTextI F n P ops Q tk S rest (a.put o.dst v) w
       else Oper.wpIn F n P o a w (fun a' w' => ∃ S' : World → Prop, (∀ W, S' W → S W) ∧ S' w' ∧ wpTextI F n P ops Q tk S' rest a' w') Q)
    else wpTextI F n P ops Q tk S rest (a.put o.dst undef) w
def ordOkT (tk : Oper → Bool) (md : Region.Mode) (ops : Array Oper) : List Nat → List Nat → Bool
  | [], done => (List.range ops.size).all fun k => inB done k
  | i :: rest, done => (match ops[i]? with
    | some o => !inB done i && (o.after.toList.all fun e => !Region.binds md e || inB done e.on) &&
        (tk o || (List.range ops.size).all fun j => inB done j || Nat.beq j i || (match ops[j]? with | some o' => o'.after.toList.any fun e => Region.binds md e && !inB done e.on | none => true))
    | none => false) && ordOkT tk md ops rest (i :: done)
def orderBT (tk : Oper → Bool) (md : Region.Mode) (ops : Array Oper) (ord : List Nat) : Bool := Region.noSelect ops && okRest2 md ops ops.toList ops.toList 0 && Nat.beq ord.length ops.size && ordOkT tk md ops ord []
section
variable {F : Fence} {n : Nat} {P : Program} {ops : Array Oper} {Q : Exit → Act → World → Prop} {S : World → Prop} {tk : Oper → Bool}
theorem order_anyI {md : Region.Mode} (hfn : ∀ f, F.fn f) (hnd0 : noDefer ops = true) (hs : Region.noSelect ops = true) (hp : okRest2 md ops ops.toList ops.toList 0 = true) (hQ : ∀ c a d v w, Q (.panic c) (Act.put a d v) w → Q (.panic c) a w) :
    ∀ (rest : List Nat) (S : World → Prop) (done : List Nat) (a : Act) (w : World), ordOkT tk md ops rest done = true → (∀ k ∈ done, k < ops.size) → S w → wpTextI F n P ops Q tk S (opsIn ops rest) a w → wpAnyHI F n P md ops Q S rest.length (lst ops.size done) a w
  | [], S, done, a, w, ho, hd, hS, h => by
    refine ⟨?_, h⟩
    unfold Region.ready
    rw [List.filter_eq_nil_iff]
    intro i hi
    have hi' := List.mem_range.1 hi
    have h1 := List.all_eq_true.1 ho i hi
    simp [lst_get hi', h1]
  | i :: rest, S, done, a, w, ho, hd, hS, h => by
    simp only [ordOkT, Bool.and_eq_true] at ho
    obtain ⟨ho1, ho2⟩ := ho
    cases hi : ops[i]? with
    | none => rw [hi] at ho1; cases ho1
    | some o =>
      rw [hi] at ho1
      simp only [Bool.and_eq_true] at ho1
      obtain ⟨⟨h1, h2⟩, h3⟩ := ho1
      have hin : i < ops.size := (Array.getElem?_eq_some_iff.1 hi).1
      have hnd : inB done i = false := by simpa using h1
      have hops : opsIn ops (i :: rest) = o :: opsIn ops rest := by simp [opsIn, hi]
      rw [hops] at h
      have hback : ∀ e ∈ o.after, Region.binds md e = true → inB done e.on = true := fun e he hb => by
        have := List.all_eq_true.1 h2 e (Array.mem_toList_iff.2 he)
        rw [hb, Bool.not_true, Bool.false_or] at this
        exact this
      have hready : i ∈ Region.ready md ops (lst ops.size done) := by
        refine mem_ready.2 ⟨by rw [lst_get hin]; exact hnd, o, hi, fun e he hb => ?_⟩
        have h4 := hback e he hb
        rw [lst_get (hd _ (inB_iff.1 h4))]; exact h4
      have ih' : ∀ (S : World → Prop) a' w', S w' → wpTextI F n P ops Q tk S (opsIn ops rest) a' w' → wpAnyHI F n P md ops Q S rest.length ((lst ops.size done).setIfInBounds i true) a' w' := fun S a' w' h4 h5 => by
        rw [lst_set hin]
        exact order_anyI hfn hnd0 hs hp hQ rest S (i :: done) a' w' ho2 (fun k hk => by rcases List.mem_cons.1 hk with rfl | hk; exact hin; exact hd k hk) h4 h5
      have h : if Region.wanted o (yielded ops a.tmps) = true then (if tk o = true then ∃ v, (∀ W, S W → (execOp a.eval o).run P W = .ok (.value v) W) ∧ wpTextI F n P ops Q tk S (opsIn ops rest) (a.put o.dst v) w else Oper.wpIn F n P o a w (fun a' w' => ∃ S' : World → Prop, (∀ W, S' W → S W) ∧ S' w' ∧ wpTextI F n P ops Q tk S' (opsIn ops rest) a' w') Q) else wpTextI F n P ops Q tk S (opsIn ops rest) (a.put o.dst undef) w := h
      show wpAnyHI F n P md ops Q S (rest.length + 1) _ a w
      by_cases ht : tk o = true
      · have hf : Region.free md ops (lst ops.size done) i = true := by
          unfold Region.free
          rw [hi]
          dsimp only
          rw [List.all_eq_true]
          intro j hj
          have hjn := List.mem_range.1 hj
          by_cases hji : j = i
          · subst hji; simp
          · rw [lst_get hjn]
            cases hdj : inB done j with
            | true => simp
            | false =>
              cases hoj : ops[j]? with
              | none => simp
              | some oj =>
                rcases ok2_pair hp (Ne.symm hji) hi hoj (fun ⟨e, he, hb, hon⟩ => by have := hback e he hb; rw [hon, hdj] at this; cases this) with ⟨e, he, hb, hon⟩ | h5
                · have : oj.after.any (fun e => Region.binds md e && e.on == i) = true := Array.any_eq_true'.2 ⟨e, he, by simp [hb, hon]⟩
                  simp [this]
                · simp [h5]
        by_cases hw : Region.wanted o (yielded ops a.tmps) = true
        · rw [if_pos hw, if_pos ht] at h
          obtain ⟨v, hy, h5⟩ := h
          exact wpAnyHI_take hfn hnd0 hi hs hf (by simpa using hready) (fun c a w => hQ c a _ _ w) (Or.inl ⟨hw, hy⟩) hS (ih' _ _ _ hS h5)
        · rw [if_neg hw] at h
          exact wpAnyHI_take hfn hnd0 hi hs hf (by simpa using hready) (fun c a w => hQ c a _ _ w) (Or.inr ⟨by simpa using hw, rfl⟩) hS (ih' _ _ _ hS h)
      · have h6 : (List.range ops.size).all (fun j => inB done j || Nat.beq j i || (match ops[j]? with | some o' => o'.after.toList.any fun e => Region.binds md e && !inB done e.on | none => true)) = true := by
          rcases (Bool.or_eq_true _ _).mp h3 with h6 | h6
          · exact absurd h6 ht
          · exact h6
        have honly : ∀ k, k ∈ Region.ready md ops (lst ops.size done) → k = i := fun k hk => by
          obtain ⟨h7, ok, hok, h8⟩ := mem_ready.1 hk
          have hkn := (Array.getElem?_eq_some_iff.1 hok).1
          rw [lst_get hkn] at h7
          have h9 := List.all_eq_true.1 h6 k (List.mem_range.2 hkn)
          rw [h7, hok, Bool.false_or, Bool.or_eq_true] at h9
          rcases h9 with h9 | h9
          · exact Nat.eq_of_beq_eq_true h9
          · obtain ⟨e, he, h10⟩ := List.any_eq_true.1 h9
            simp only [Bool.and_eq_true] at h10
            have h11 := h8 e (Array.mem_toList_iff.1 he) h10.1
            have h12 : inB done e.on = false := by simpa using h10.2
            by_cases hen : e.on < ops.size
            · rw [lst_get hen, h12] at h11; cases h11
            · rw [Array.getD_eq_getD_getElem?, Array.getElem?_eq_none (by rw [lst_size]; omega)] at h11; cases h11
        have hnd2 : (Region.ready md ops (lst ops.size done)).Nodup := List.Pairwise.filter _ List.nodup_range
        have hr : Region.ready md ops (lst ops.size done) = [i] := by
          match hr : Region.ready md ops (lst ops.size done), hready, hnd2, honly with
          | [], hm, _, _ => cases hm
          | [x], _, _, ho1 => rw [ho1 x (by simp)]
          | x :: y :: l, _, hd, ho1 =>
            have h1 := ho1 x (by simp)
            have h2 := ho1 y (by simp)
            rw [h1, h2] at hd
            simp at hd
        refine wpAnyHI_all hr (by simp) fun j hj => ?_
        have hj' : j = i := by simpa using hj
        subst hj'
        unfold wpOpIn
        rw [hi]
        dsimp only
        by_cases hw : Region.wanted o (yielded ops a.tmps) = true
        · rw [if_pos hw, if_neg ht] at h
          rw [if_pos hw]
          exact (Oper.wpIn_mono (fun a' w' ⟨S', h3, h4, h5⟩ => ⟨h3 _ h4, wpAnyHI_weak h3 _ _ _ _ (ih' _ _ _ h4 h5)⟩) h)
        · rw [if_neg hw] at h
          rw [if_neg hw]
          exact ⟨fun f _ => hfn f, hS, ih' _ _ _ hS h⟩
variable {o : Oper} {rest : List Oper} {a : Act} {w : World}
theorem textI_skip (hw : Region.wanted o (yielded ops a.tmps) = false) (h : wpTextI F n P ops Q tk S rest (a.put o.dst undef) w) : wpTextI F n P ops Q tk S (o :: rest) a w := by
  unfold wpTextI; rw [if_neg (by rw [hw]; simp)]; exact h
theorem textI_take {v : Value} (hw : Region.wanted o (yielded ops a.tmps) = true) (ht : tk o = true) (hy : ∀ W, S W → (execOp a.eval o).run P W = .ok (.value v) W) (h : wpTextI F n P ops Q tk S rest (a.put o.dst v) w) : wpTextI F n P ops Q tk S (o :: rest) a w := by
  unfold wpTextI; rw [if_pos hw, if_pos ht]; exact ⟨v, hy, h⟩
theorem textI_call (hw : Region.wanted o (yielded ops a.tmps) = true) (ht : tk o = false) (h : ∀ K : Act → World → Prop, Shut (∀ a w, S w → (S w → wpTextI F n P ops Q tk S rest a w) → K a w) → Oper.wpIn F n P o a w K Q) : wpTextI F n P ops Q tk S (o :: rest) a w := by
  unfold wpTextI; rw [if_pos hw, if_neg (by rw [ht]; simp)]
  exact h _ fun a w h1 h2 => ⟨S, fun _ h => h, h1, h2 h1⟩
/-- Behind a call more can be said of all worlds to come. -/
theorem textI_call_more (hw : Region.wanted o (yielded ops a.tmps) = true) (ht : tk o = false) (h : ∀ K : Act → World → Prop, Shut (∀ (S' : World → Prop) a w, (∀ W, S' W → S W) → S' w → (S' w → wpTextI F n P ops Q tk S' rest a w) → K a w) → Oper.wpIn F n P o a w K Q) : wpTextI F n P ops Q tk S (o :: rest) a w := by
  unfold wpTextI; rw [if_pos hw, if_neg (by rw [ht]; simp)]
  exact h _ fun S' a w h0 h1 h2 => ⟨S', h0, h1, h2 h1⟩
def partBT (tk : Oper → Bool) (chunk : List Oper) (n : Nat) : Bool := chunk.all (fun o => readB o && tk o && (match o.dst with | some d => decide (d < n) | none => false)) && decide ((chunk.map (·.dst)).Nodup)
theorem textI_chunk_aux (aEnd : Act) (rest : List Oper) (w w1 : World) (hS1 : S w1) (hr : wpTextI F n P ops Q tk S rest aEnd w) :
    ∀ (chunk : List Oper) (a : Act), partBT tk chunk a.tmps.size = true → (∀ W, S W → wpQuiet P ops (fun w' => ∃ n, w' = W.drewN n) (fun a' => a' = aEnd) chunk a) → wpTextI F n P ops Q tk S (chunk ++ rest) a w
  | [], a, _, h => by have : a = aEnd := h w1 hS1; rw [this]; exact hr
  | o :: chunk, a, hp, h => by
    obtain ⟨h1, h2⟩ := (Bool.and_eq_true _ _).mp hp
    have h2 := of_decide_eq_true h2
    rw [List.map_cons, List.nodup_cons] at h2
    have h1' := List.all_eq_true.1 h1
    have ho := h1' o (by simp)
    simp only [Bool.and_eq_true] at ho
    obtain ⟨⟨ho1, ho2⟩, ho3⟩ := ho
    have hpart : partBT tk chunk a.tmps.size = true := by
      unfold partBT
      rw [Bool.and_eq_true]
      exact ⟨List.all_eq_true.2 fun o' ho' => h1' o' (by simp [ho']), decide_eq_true h2.2⟩
    show wpTextI F n P ops Q tk S (o :: (chunk ++ rest)) a w
    by_cases hw : Region.wanted o (yielded ops a.tmps) = true
    · cases hd : o.dst with
      | none => rw [hd] at ho3; simp at ho3
      | some d =>
        rw [hd] at ho3
        have hdlt : d < a.tmps.size := of_decide_eq_true ho3
        -- the value is what the frame holds at the end
        have key : ∀ W, S W → ∃ v, (execOp a.eval o).run P W = .ok (.value v) W ∧ aEnd.tmps[d]? = some v ∧ wpQuiet P ops (fun w' => ∃ n, w' = W.drewN n) (fun a' => a' = aEnd) chunk (a.put o.dst v) := fun W hW => by
          have hq := h W hW
          unfold wpQuiet at hq
          rw [if_pos hw] at hq
          obtain ⟨v, hv, hq2⟩ := hq
          have hv0 := hv W ⟨0, rfl⟩
          unfold Oper.quietAt at hv0
          cases hr : (execOp a.eval o).run P W with
          | halt x w' => rw [hr] at hv0; exact hv0.elim
          | ok n w' =>
            obtain ⟨u, rfl⟩ := read_value ho1 W n w' hr
            rw [hr] at hv0
            obtain ⟨hw', hu⟩ := hv0
            subst hu
            refine ⟨u, by rw [hw'], ?_, hq2⟩
            have := quiet_other W aEnd d chunk (a.put o.dst u) (fun o' ho' e => h2.1 (by rw [hd, ← e]; exact List.mem_map_of_mem ho')) hq2
            rw [← this, hd]
            exact put_same hdlt
        obtain ⟨v, -, hv, -⟩ := key w1 hS1
        refine textI_take (v := v) hw ho2 (fun W hW => ?_) ?_
        · obtain ⟨v', h3, h4, -⟩ := key W hW
          rw [hv] at h4
          cases h4
          exact h3
        · refine textI_chunk_aux aEnd rest w w1 hS1 hr chunk _ (by rw [put_size]; exact hpart) fun W hW => ?_
          obtain ⟨v', h3, h4, h5⟩ := key W hW
          rw [hv] at h4
          cases h4
          exact h5
    · have hw' : Region.wanted o (yielded ops a.tmps) = false := by simpa using hw
      refine textI_skip hw' (textI_chunk_aux aEnd rest w w1 hS1 hr chunk _ (by rw [put_size]; exact hpart) fun W hW => ?_)
      have hq := h W hW
      unfold wpQuiet at hq
      rw [if_neg hw] at hq
      exact hq
/-- Several operations at once. -/
theorem textI_chunk (m : Nat) {l : List Oper} {a aEnd : Act} {w : World} (hp : partBT tk (l.take m) a.tmps.size = true) (hS : S w) (h : ∀ W, S W → wpQuiet P ops (fun w' => ∃ n, w' = W.drewN n) (fun a' => a' = aEnd) (l.take m) a) (hr : wpTextI F n P ops Q tk S (l.drop m) aEnd w) : wpTextI F n P ops Q tk S l a w := by
  have := textI_chunk_aux aEnd (l.drop m) w w hS hr (l.take m) a hp h
  rwa [List.take_append_drop] at this
theorem wpIn_order {id : Nat} (hfn : ∀ f, F.fn f) (S : World → Prop) (ord : List Nat) (hm : P.follows .mixedOrders = true) (hd : noDefer ops = true) (hb : orderBT tk .any ops ord = true) (hS : S w.drew) (h : S w.drew → wpTextI F n P ops (NoPO Q) tk S (opsIn ops ord) a w.drew) : (Code.region id ops true).wpIn F n P Q a w := by
  simp only [orderBT, Bool.and_eq_true] at hb
  obtain ⟨⟨⟨h1, h2⟩, h3⟩, h4⟩ := hb
  have := order_anyI (F := F) (n := n) hfn hd h1 h2 (fun _ _ _ _ _ h => h.elim) ord S [] a w.drew h4 (fun k hk => by cases hk) hS (h hS)
  rw [lst_nil, Nat.eq_of_beq_eq_true h3] at this
  exact wpIn_region_any hm (any_noPO _ _ _ _ (wpAnyIn_of_held _ _ _ _ this))
theorem textI_done (h : Q .normal a w) : wpTextI F n P ops (NoPO Q) tk S [] a w := h
end
/-- All that yields a value, but what writes these slots. -/
def takeBut (ds : List Nat) (o : Oper) : Bool := takeB o && !(ds.any fun d => match o.dst with | some e => Nat.beq d e | none => false)
end Go.Proofs.YtppjnpempgpkaaaGreat
namespace Go.Proofs.YtppjnpempgpkaaaGreat
open Go.RowKit
set_option linter.unusedVariables false
set_option linter.unusedSimpArgs false
def wpAnyHL (F : Fence) (n : Nat) (P : Program) (md : Region.Mode) (ops : Array Oper) (Q : Exit → Act → World → Prop) (S : World → Prop) (z : Nat) : Nat → Array Bool → Act → World → Prop
  | 0, listed, a, w => Region.ready md ops listed = [] ∧ Q .normal a w
  | fuel + 1, listed, a, w =>
    (Region.ready md ops listed = [] → Q .normal a w) ∧
    ∀ i ∈ Region.ready md ops listed, wpOpIn F n P ops Q i (fun a' w' => (i ≠ z → S w') ∧ wpAnyHL F n P md ops Q S z fuel (listed.setIfInBounds i true) a' w') a w
section
variable {F : Fence} {n : Nat} {P : Program} {ops : Array Oper} {Q : Exit → Act → World → Prop} {md : Region.Mode} {S : World → Prop} {z : Nat}
theorem wpAnyIn_of_heldL : ∀ (fuel : Nat) (listed : Array Bool) (a : Act) (w : World), wpAnyHL F n P md ops Q S z fuel listed a w → wpAnyIn F n P md ops Q fuel listed a w
  | 0, _, _, _, h => h
  | fuel + 1, _, _, _, h => ⟨h.1, fun i hi => wpOpIn_mono (fun a' w' h' => wpAnyIn_of_heldL fuel _ a' w' h'.2) (h.2 i hi)⟩
theorem wpAnyHL_weak {S' : World → Prop} (hS : ∀ W, S' W → S W) : ∀ (k : Nat) (l : Array Bool) (a : Act) (w : World), wpAnyHL F n P md ops Q S' z k l a w → wpAnyHL F n P md ops Q S z k l a w
  | 0, _, _, _, h => h
  | k + 1, l, a, w, h => ⟨h.1, fun i hi => wpOpIn_mono (fun a' w' h' => ⟨fun hz => hS _ (h'.1 hz), wpAnyHL_weak hS k _ a' w' h'.2⟩) (h.2 i hi)⟩
theorem ready_not_listed {listed : Array Bool} {i j : Nat} (hr : i ∈ Region.ready md ops listed) (h : listed.getD i false = true) : False := by
  have h0 := (mem_ready.1 hr).1
  rcases Nat.lt_or_ge i listed.size with h' | h'
  · simp [h'] at h0 h; rw [h0] at h; cases h
  · simp [Array.getElem?_eq_none h'] at h
theorem wpAnyHL_first (hfn : ∀ f, F.fn f) (hnd0 : noDefer ops = true) {i : Nat} {oi : Oper} {v : Value} (hi : ops[i]? = some oi) (hz : ∃ oz, ops[z]? = some oz ∧ ∃ e ∈ oz.after, Region.binds md e = true ∧ e.on = i) (hsel : ∀ (j : Nat) (o : Oper) cs b, ops[j]? = some o → o.op ≠ .select cs b)
    (hQ : ∀ c a w, Q (.panic c) (a.put oi.dst v) w → Q (.panic c) a w) :
    ∀ (fuel : Nat) (listed : Array Bool) (a : Act) (w : World),
      (∀ j oj, ops[j]? = some oj → j ≠ i → listed.getD j true = false → (∀ e ∈ oj.after, Region.binds md e = true → e.on ≠ i) → oi.apart ops oj = true) →
      i ∈ Region.ready md ops listed → YieldsIf P ops S oi v a → S w →
      wpAnyHL F n P md ops Q S z fuel (listed.setIfInBounds i true) (a.put oi.dst v) w → wpAnyHL F n P md ops Q S z (fuel + 1) listed a w := by
  intro fuel
  induction fuel with
  | zero =>
    intro listed a w _ hr hy hS H
    refine ⟨fun h => (by rw [h] at hr; cases hr), fun j hj => ?_⟩
    by_cases hji : j = i
    · subst hji; exact yieldsIf_opIn hfn hnd0 hi hy hS ⟨fun _ => hS, H⟩
    · have := ready_mono hj hji
      rw [H.1] at this
      cases this
  | succ fuel ih =>
    intro listed a w hfree hr hy hS H
    refine ⟨fun h => (by rw [h] at hr; cases hr), fun j hj => ?_⟩
    by_cases hji : j = i
    · subst hji; exact yieldsIf_opIn hfn hnd0 hi hy hS ⟨fun _ => hS, H⟩
    · have h1 := H.2 j (ready_mono hj hji)
      obtain ⟨hjun, oj, hoj, hall⟩ := mem_ready.1 hj
      have hun : ∀ e ∈ oj.after, Region.binds md e = true → e.on = i → False := fun e he hb heq => by
        have h1 := hall e he hb
        rw [heq] at h1
        exact ready_not_listed (j := 0) hr h1
      have hjz : j ≠ z := by
        rintro rfl
        obtain ⟨oz, hoz, e, he, hb, heq⟩ := hz
        rw [hoj] at hoz
        cases hoz
        exact hun e he hb heq
      have h2 := wpOpIn_putIf hfn hnd0 hoj (hfree j oj hoj hji hjun (fun e he hb heq => hun e he hb heq)) (fun cs b => hsel i oi cs b hi) (fun cs b => hsel j oj cs b hoj) hQ hy h1
      have hfree' : ∀ k ok, ops[k]? = some ok → k ≠ i → (listed.setIfInBounds j true).getD k true = false →
          (∀ e ∈ ok.after, Region.binds md e = true → e.on ≠ i) → oi.apart ops ok = true := fun k ok hk hki hun hno => by
        refine hfree k ok hk hki ?_ hno
        by_cases hjk : j = k
        · subst hjk; exact hjun
        · rw [getD_set_ne true hjk] at hun; exact hun
      refine wpOpIn_mono (fun a' w' h3 => ⟨fun _ => h3.2.1 hjz, ih (listed.setIfInBounds j true) a' w' hfree' (ready_mono hr (Ne.symm hji)) h3.1 (h3.2.1 hjz) ?_⟩) h2
      rw [Array.setIfInBounds_comm _ _ hji]
      exact h3.2.2
theorem wpAnyHL_take (hfn : ∀ f, F.fn f) (hnd0 : noDefer ops = true) {i : Nat} {oi : Oper} {v : Value} {fuel : Nat} {listed : Array Bool} {a : Act} {w : World} (hi : ops[i]? = some oi) (hz : ∃ oz, ops[z]? = some oz ∧ ∃ e ∈ oz.after, Region.binds md e = true ∧ e.on = i)
    (hs : Region.noSelect ops = true) (hf : Region.free md ops listed i = true) (hr : (Region.ready md ops listed).contains i = true)
    (hQ : ∀ c a w, Q (.panic c) (a.put oi.dst v) w → Q (.panic c) a w) (hy : YieldsIf P ops S oi v a) (hS : S w)
    (h : wpAnyHL F n P md ops Q S z fuel (listed.setIfInBounds i true) (a.put oi.dst v) w) : wpAnyHL F n P md ops Q S z (fuel + 1) listed a w :=
  wpAnyHL_first hfn hnd0 hi hz (Region.noSelect_spec hs) hQ fuel listed a w (Region.free_spec hi hf) (by simpa using hr) hy hS h
theorem wpAnyHL_all {rs : List Nat} {fuel : Nat} {listed : Array Bool} {a : Act} {w : World} (hr : Region.ready md ops listed = rs) (hne : rs ≠ [])
    (h : ∀ i ∈ rs, wpOpIn F n P ops Q i (fun a' w' => (i ≠ z → S w') ∧ wpAnyHL F n P md ops Q S z fuel (listed.setIfInBounds i true) a' w') a w) : wpAnyHL F n P md ops Q S z (fuel + 1) listed a w :=
  ⟨fun h0 => absurd (hr ▸ h0) hne, hr ▸ h⟩
end
def wpTextL (F : Fence) (n : Nat) (P : Program) (ops : Array Oper) (Q : Exit → Act → World → Prop) (tk : Oper → Bool) : (World → Prop) → List Oper → Act → World → Prop
  | _, [], a, w => Q .normal a w
  | S, o :: rest, a, w =>
    if Region.wanted o (yielded ops a.tmps) = true then
      (if tk o = true then ∃ v, (∀ W, S W → (execOp a.eval o).run P W = .ok (.value v) W) ∧ wpTextL F n P ops Q tk S rest (a.put o.dst v) w
       else Oper.wpIn F n P o a w (fun a' w' => ∃ S' : World → Prop, (∀ W, S' W → S W) ∧ (rest ≠ [] → S' w') ∧ wpTextL F n P ops Q tk S' rest a' w') Q)
    else wpTextL F n P ops Q tk S rest (a.put o.dst undef) w
/-- The operation z is no reading, and all others come before it. -/
def lastOk (tk : Oper → Bool) (md : Region.Mode) (ops : Array Oper) (z : Nat) : Bool := match ops[z]? with
  | some o => !tk o && o.guard.isNone && (List.range ops.size).all fun j => Nat.beq j z || o.after.toList.any fun e => Region.binds md e && Nat.beq e.on j
  | none => false
def endsIn (z : Nat) : List Nat → Bool
  | [] => true
  | i :: rest => (match rest with | [] => Nat.beq i z | _ :: _ => !Nat.beq i z) && endsIn z rest
def orderBL (tk : Oper → Bool) (md : Region.Mode) (ops : Array Oper) (ord : List Nat) (z : Nat) : Bool := orderBT tk md ops ord && lastOk tk md ops z && endsIn z ord
section
variable {F : Fence} {n : Nat} {P : Program} {ops : Array Oper} {Q : Exit → Act → World → Prop} {S : World → Prop} {tk : Oper → Bool} {z : Nat}
theorem endsIn_ne {i : Nat} {rest : List Nat} (h : endsIn z (i :: rest) = true) (hi : i ≠ z) : rest ≠ [] := by
  rintro rfl
  simp only [endsIn, Bool.and_true] at h
  exact hi (Nat.eq_of_beq_eq_true h)
theorem endsIn_tail {i : Nat} {rest : List Nat} (h : endsIn z (i :: rest) = true) : endsIn z rest = true := by
  simp only [endsIn, Bool.and_eq_true] at h
  exact h.2
theorem order_anyL {md : Region.Mode} (hfn : ∀ f, F.fn f) (hnd0 : noDefer ops = true) (hs : Region.noSelect ops = true) (hp : okRest2 md ops ops.toList ops.toList 0 = true) (hl : lastOk tk md ops z = true) (hQ : ∀ c a d v w, Q (.panic c) (Act.put a d v) w → Q (.panic c) a w) :
    ∀ (rest : List Nat) (S : World → Prop) (done : List Nat) (a : Act) (w : World), ordOkT tk md ops rest done = true → endsIn z rest = true → (∀ k ∈ done, k < ops.size) → (rest ≠ [] → S w) → wpTextL F n P ops Q tk S (opsIn ops rest) a w → wpAnyHL F n P md ops Q S z rest.length (lst ops.size done) a w
  | [], S, done, a, w, ho, _, hd, hS, h => by
    refine ⟨?_, h⟩
    unfold Region.ready
    rw [List.filter_eq_nil_iff]
    intro i hi
    have hi' := List.mem_range.1 hi
    have h1 := List.all_eq_true.1 ho i hi
    simp [lst_get hi', h1]
  | i :: rest, S, done, a, w, ho, hen0, hd, hS0, h => by
    have hS := hS0 (by simp)
    have hen := hen0
    simp only [ordOkT, Bool.and_eq_true] at ho
    obtain ⟨ho1, ho2⟩ := ho
    cases hi : ops[i]? with
    | none => rw [hi] at ho1; cases ho1
    | some o =>
      rw [hi] at ho1
      simp only [Bool.and_eq_true] at ho1
      obtain ⟨⟨h1, h2⟩, h3⟩ := ho1
      have hin : i < ops.size := (Array.getElem?_eq_some_iff.1 hi).1
      have hnd : inB done i = false := by simpa using h1
      have hops : opsIn ops (i :: rest) = o :: opsIn ops rest := by simp [opsIn, hi]
      rw [hops] at h
      have hrest : i ≠ z → opsIn ops rest ≠ [] := fun hiz => by
        have hr := endsIn_ne hen hiz
        cases rest with
        | nil => exact absurd rfl hr
        | cons j rest' =>
          simp only [ordOkT, Bool.and_eq_true] at ho2
          cases hj : ops[j]? with
          | none => rw [hj] at ho2; exact absurd ho2.1 (by simp)
          | some oj => simp [opsIn, hj]
      have hback : ∀ e ∈ o.after, Region.binds md e = true → inB done e.on = true := fun e he hb => by
        have := List.all_eq_true.1 h2 e (Array.mem_toList_iff.2 he)
        rw [hb, Bool.not_true, Bool.false_or] at this
        exact this
      have hready : i ∈ Region.ready md ops (lst ops.size done) := by
        refine mem_ready.2 ⟨by rw [lst_get hin]; exact hnd, o, hi, fun e he hb => ?_⟩
        have h4 := hback e he hb
        rw [lst_get (hd _ (inB_iff.1 h4))]; exact h4
      have ih' : ∀ (S : World → Prop) a' w', (rest ≠ [] → S w') → wpTextL F n P ops Q tk S (opsIn ops rest) a' w' → wpAnyHL F n P md ops Q S z rest.length ((lst ops.size done).setIfInBounds i true) a' w' := fun S a' w' h4 h5 => by
        rw [lst_set hin]
        exact order_anyL hfn hnd0 hs hp hl hQ rest S (i :: done) a' w' ho2 (endsIn_tail hen) (fun k hk => by rcases List.mem_cons.1 hk with rfl | hk; exact hin; exact hd k hk) h4 h5
      have h : if Region.wanted o (yielded ops a.tmps) = true then (if tk o = true then ∃ v, (∀ W, S W → (execOp a.eval o).run P W = .ok (.value v) W) ∧ wpTextL F n P ops Q tk S (opsIn ops rest) (a.put o.dst v) w else Oper.wpIn F n P o a w (fun a' w' => ∃ S' : World → Prop, (∀ W, S' W → S W) ∧ (opsIn ops rest ≠ [] → S' w') ∧ wpTextL F n P ops Q tk S' (opsIn ops rest) a' w') Q) else wpTextL F n P ops Q tk S (opsIn ops rest) (a.put o.dst undef) w := h
      show wpAnyHL F n P md ops Q S z (rest.length + 1) _ a w
      by_cases ht : tk o = true
      · have hf : Region.free md ops (lst ops.size done) i = true := by
          unfold Region.free
          rw [hi]
          dsimp only
          rw [List.all_eq_true]
          intro j hj
          have hjn := List.mem_range.1 hj
          by_cases hji : j = i
          · subst hji; simp
          · rw [lst_get hjn]
            cases hdj : inB done j with
            | true => simp
            | false =>
              cases hoj : ops[j]? with
              | none => simp
              | some oj =>
                rcases ok2_pair hp (Ne.symm hji) hi hoj (fun ⟨e, he, hb, hon⟩ => by have := hback e he hb; rw [hon, hdj] at this; cases this) with ⟨e, he, hb, hon⟩ | h5
                · have : oj.after.any (fun e => Region.binds md e && e.on == i) = true := Array.any_eq_true'.2 ⟨e, he, by simp [hb, hon]⟩
                  simp [this]
                · simp [h5]
        have hz : ∃ oz, ops[z]? = some oz ∧ ∃ e ∈ oz.after, Region.binds md e = true ∧ e.on = i := by
          unfold lastOk at hl
          cases hzo : ops[z]? with
          | none => rw [hzo] at hl; cases hl
          | some oz =>
            rw [hzo] at hl
            simp only [Bool.and_eq_true] at hl
            have h9 := List.all_eq_true.1 hl.2 i (List.mem_range.2 hin)
            rw [Bool.or_eq_true] at h9
            rcases h9 with h9 | h9
            · have := Nat.eq_of_beq_eq_true h9
              subst this
              rw [hi] at hzo
              cases hzo
              rw [ht] at hl
              exact absurd hl.1.1 (by simp)
            · obtain ⟨e, he, h10⟩ := List.any_eq_true.1 h9
              simp only [Bool.and_eq_true] at h10
              exact ⟨oz, rfl, e, Array.mem_toList_iff.1 he, h10.1, Nat.eq_of_beq_eq_true h10.2⟩
        by_cases hw : Region.wanted o (yielded ops a.tmps) = true
        · rw [if_pos hw, if_pos ht] at h
          obtain ⟨v, hy, h5⟩ := h
          exact wpAnyHL_take hfn hnd0 hi hz hs hf (by simpa using hready) (fun c a w => hQ c a _ _ w) (Or.inl ⟨hw, hy⟩) hS (ih' _ _ _ (fun _ => hS) h5)
        · rw [if_neg hw] at h
          exact wpAnyHL_take hfn hnd0 hi hz hs hf (by simpa using hready) (fun c a w => hQ c a _ _ w) (Or.inr ⟨by simpa using hw, rfl⟩) hS (ih' _ _ _ (fun _ => hS) h)
      · have h6 : (List.range ops.size).all (fun j => inB done j || Nat.beq j i || (match ops[j]? with | some o' => o'.after.toList.any fun e => Region.binds md e && !inB done e.on | none => true)) = true := by
          rcases (Bool.or_eq_true _ _).mp h3 with h6 | h6
          · exact absurd h6 ht
          · exact h6
        have honly : ∀ k, k ∈ Region.ready md ops (lst ops.size done) → k = i := fun k hk => by
          obtain ⟨h7, ok, hok, h8⟩ := mem_ready.1 hk
          have hkn := (Array.getElem?_eq_some_iff.1 hok).1
          rw [lst_get hkn] at h7
          have h9 := List.all_eq_true.1 h6 k (List.mem_range.2 hkn)
          rw [h7, hok, Bool.false_or, Bool.or_eq_true] at h9
          rcases h9 with h9 | h9
          · exact Nat.eq_of_beq_eq_true h9
          · obtain ⟨e, he, h10⟩ := List.any_eq_true.1 h9
            simp only [Bool.and_eq_true] at h10
            have h11 := h8 e (Array.mem_toList_iff.1 he) h10.1
            have h12 : inB done e.on = false := by simpa using h10.2
            by_cases hen : e.on < ops.size
            · rw [lst_get hen, h12] at h11; cases h11
            · rw [Array.getD_eq_getD_getElem?, Array.getElem?_eq_none (by rw [lst_size]; omega)] at h11; cases h11
        have hnd2 : (Region.ready md ops (lst ops.size done)).Nodup := List.Pairwise.filter _ List.nodup_range
        have hr : Region.ready md ops (lst ops.size done) = [i] := by
          match hr : Region.ready md ops (lst ops.size done), hready, hnd2, honly with
          | [], hm, _, _ => cases hm
          | [x], _, _, ho1 => rw [ho1 x (by simp)]
          | x :: y :: l, _, hd, ho1 =>
            have h1 := ho1 x (by simp)
            have h2 := ho1 y (by simp)
            rw [h1, h2] at hd
            simp at hd
        refine wpAnyHL_all hr (by simp) fun j hj => ?_
        have hj' : j = i := by simpa using hj
        subst hj'
        unfold wpOpIn
        rw [hi]
        dsimp only
        by_cases hw : Region.wanted o (yielded ops a.tmps) = true
        · rw [if_pos hw, if_neg ht] at h
          rw [if_pos hw]
          exact (Oper.wpIn_mono (fun a' w' ⟨S', h3, h4, h5⟩ => ⟨fun hz => h3 _ (h4 (hrest hz)), wpAnyHL_weak h3 _ _ _ _ (ih' _ _ _ (fun hne => h4 (by
            cases rest with
            | nil => exact absurd rfl hne
            | cons j2 rest' =>
              refine hrest ?_
              simp only [endsIn, Bool.and_eq_true, Bool.not_eq_true'] at hen0
              intro e
              rw [e, Nat.beq_refl] at hen0
              exact absurd hen0.1 (by simp))) h5)⟩) h)
        · rw [if_neg hw] at h
          rw [if_neg hw]
          exact ⟨fun f _ => hfn f, fun _ => hS, ih' _ _ _ (fun _ => hS) h⟩
variable {o : Oper} {rest : List Oper} {a : Act} {w : World}
theorem textL_skip (hw : Region.wanted o (yielded ops a.tmps) = false) (h : wpTextL F n P ops Q tk S rest (a.put o.dst undef) w) : wpTextL F n P ops Q tk S (o :: rest) a w := by
  unfold wpTextL; rw [if_neg (by rw [hw]; simp)]; exact h
theorem textL_take {v : Value} (hw : Region.wanted o (yielded ops a.tmps) = true) (ht : tk o = true) (hy : ∀ W, S W → (execOp a.eval o).run P W = .ok (.value v) W) (h : wpTextL F n P ops Q tk S rest (a.put o.dst v) w) : wpTextL F n P ops Q tk S (o :: rest) a w := by
  unfold wpTextL; rw [if_pos hw, if_pos ht]; exact ⟨v, hy, h⟩
theorem textL_call (hw : Region.wanted o (yielded ops a.tmps) = true) (ht : tk o = false) (h : ∀ K : Act → World → Prop, Shut (∀ a w, S w → (S w → wpTextL F n P ops Q tk S rest a w) → K a w) → Oper.wpIn F n P o a w K Q) : wpTextL F n P ops Q tk S (o :: rest) a w := by
  unfold wpTextL; rw [if_pos hw, if_neg (by rw [ht]; simp)]
  exact h _ fun a w h1 h2 => ⟨S, fun _ h => h, fun _ => h1, h2 h1⟩
/-- Behind a call more can be said of all worlds to come. -/
theorem textL_call_more (hw : Region.wanted o (yielded ops a.tmps) = true) (ht : tk o = false) (h : ∀ K : Act → World → Prop, Shut (∀ (S' : World → Prop) a w, (∀ W, S' W → S W) → S' w → (S' w → wpTextL F n P ops Q tk S' rest a w) → K a w) → Oper.wpIn F n P o a w K Q) : wpTextL F n P ops Q tk S (o :: rest) a w := by
  unfold wpTextL; rw [if_pos hw, if_neg (by rw [ht]; simp)]
  exact h _ fun S' a w h0 h1 h2 => ⟨S', h0, fun _ => h1, h2 h1⟩
/-- The last operation. -/
theorem textL_last (hw : Region.wanted o (yielded ops a.tmps) = true) (ht : tk o = false) (h : ∀ K : Act → World → Prop, Shut (∀ a w, Q .normal a w → K a w) → Oper.wpIn F n P o a w K Q) : wpTextL F n P ops Q tk S [o] a w := by
  unfold wpTextL; rw [if_pos hw, if_neg (by rw [ht]; simp)]
  exact h _ fun a w h2 => ⟨S, fun _ h => h, fun h => absurd rfl h, h2⟩
theorem textL_chunk_aux (aEnd : Act) (rest : List Oper) (w w1 : World) (hS1 : S w1) (hr : wpTextL F n P ops Q tk S rest aEnd w) :
    ∀ (chunk : List Oper) (a : Act), partBT tk chunk a.tmps.size = true → (∀ W, S W → wpQuiet P ops (fun w' => ∃ n, w' = W.drewN n) (fun a' => a' = aEnd) chunk a) → wpTextL F n P ops Q tk S (chunk ++ rest) a w
  | [], a, _, h => by have : a = aEnd := h w1 hS1; rw [this]; exact hr
  | o :: chunk, a, hp, h => by
    obtain ⟨h1, h2⟩ := (Bool.and_eq_true _ _).mp hp
    have h2 := of_decide_eq_true h2
    rw [List.map_cons, List.nodup_cons] at h2
    have h1' := List.all_eq_true.1 h1
    have ho := h1' o (by simp)
    simp only [Bool.and_eq_true] at ho
    obtain ⟨⟨ho1, ho2⟩, ho3⟩ := ho
    have hpart : partBT tk chunk a.tmps.size = true := by
      unfold partBT
      rw [Bool.and_eq_true]
      exact ⟨List.all_eq_true.2 fun o' ho' => h1' o' (by simp [ho']), decide_eq_true h2.2⟩
    show wpTextL F n P ops Q tk S (o :: (chunk ++ rest)) a w
    by_cases hw : Region.wanted o (yielded ops a.tmps) = true
    · cases hd : o.dst with
      | none => rw [hd] at ho3; simp at ho3
      | some d =>
        rw [hd] at ho3
        have hdlt : d < a.tmps.size := of_decide_eq_true ho3
        -- the value is what the frame holds at the end
        have key : ∀ W, S W → ∃ v, (execOp a.eval o).run P W = .ok (.value v) W ∧ aEnd.tmps[d]? = some v ∧ wpQuiet P ops (fun w' => ∃ n, w' = W.drewN n) (fun a' => a' = aEnd) chunk (a.put o.dst v) := fun W hW => by
          have hq := h W hW
          unfold wpQuiet at hq
          rw [if_pos hw] at hq
          obtain ⟨v, hv, hq2⟩ := hq
          have hv0 := hv W ⟨0, rfl⟩
          unfold Oper.quietAt at hv0
          cases hr : (execOp a.eval o).run P W with
          | halt x w' => rw [hr] at hv0; exact hv0.elim
          | ok n w' =>
            obtain ⟨u, rfl⟩ := read_value ho1 W n w' hr
            rw [hr] at hv0
            obtain ⟨hw', hu⟩ := hv0
            subst hu
            refine ⟨u, by rw [hw'], ?_, hq2⟩
            have := quiet_other W aEnd d chunk (a.put o.dst u) (fun o' ho' e => h2.1 (by rw [hd, ← e]; exact List.mem_map_of_mem ho')) hq2
            rw [← this, hd]
            exact put_same hdlt
        obtain ⟨v, -, hv, -⟩ := key w1 hS1
        refine textL_take (v := v) hw ho2 (fun W hW => ?_) ?_
        · obtain ⟨v', h3, h4, -⟩ := key W hW
          rw [hv] at h4
          cases h4
          exact h3
        · refine textL_chunk_aux aEnd rest w w1 hS1 hr chunk _ (by rw [put_size]; exact hpart) fun W hW => ?_
          obtain ⟨v', h3, h4, h5⟩ := key W hW
          rw [hv] at h4
          cases h4
          exact h5
    · have hw' : Region.wanted o (yielded ops a.tmps) = false := by simpa using hw
      refine textL_skip hw' (textL_chunk_aux aEnd rest w w1 hS1 hr chunk _ (by rw [put_size]; exact hpart) fun W hW => ?_)
      have hq := h W hW
      unfold wpQuiet at hq
      rw [if_neg hw] at hq
      exact hq
/-- Several operations at once. -/
theorem textL_chunk (m : Nat) {l : List Oper} {a aEnd : Act} {w : World} (hp : partBT tk (l.take m) a.tmps.size = true) (hS : S w) (h : ∀ W, S W → wpQuiet P ops (fun w' => ∃ n, w' = W.drewN n) (fun a' => a' = aEnd) (l.take m) a) (hr : wpTextL F n P ops Q tk S (l.drop m) aEnd w) : wpTextL F n P ops Q tk S l a w := by
  have := textL_chunk_aux aEnd (l.drop m) w w hS hr (l.take m) a hp h
  rwa [List.take_append_drop] at this
theorem wpIn_orderL {id : Nat} (hfn : ∀ f, F.fn f) (S : World → Prop) (ord : List Nat) (z : Nat) (hm : P.follows .mixedOrders = true) (hd : noDefer ops = true) (hb : orderBL tk .any ops ord z = true) (hS : S w.drew) (h : S w.drew → wpTextL F n P ops (NoPO Q) tk S (opsIn ops ord) a w.drew) : (Code.region id ops true).wpIn F n P Q a w := by
  simp only [orderBL, orderBT, Bool.and_eq_true] at hb
  obtain ⟨⟨⟨⟨⟨h1, h2⟩, h3⟩, h4⟩, h5⟩, h6⟩ := hb
  have := order_anyL (F := F) (n := n) hfn hd h1 h2 h5 (fun _ _ _ _ _ h => h.elim) ord S [] a w.drew h4 h6 (fun k hk => by cases hk) (fun _ => hS) (h hS)
  rw [lst_nil, Nat.eq_of_beq_eq_true h3] at this
  exact wpIn_region_any hm (any_noPO _ _ _ _ (wpAnyIn_of_heldL _ _ _ _ this))
theorem wp_wide {K : Act → World → Prop} (h : o.wp P a w K Q) : o.wpIn Fence.wide n P a w K Q := by
  unfold Oper.wp at h
  unfold Oper.wpIn
  refine ⟨fun _ _ => trivial, ?_⟩
  rw [show Fence.wide.round = none from rfl, Oper.semAt_none]
  generalize (execOp a.eval o).run P w = r at h ⊢
  cases r with
  | ok x w' =>
    cases x with
    | enter f args => exact ⟨fun h => (by cases h), callsIn_wide.2 h⟩
    | row row args => exact ⟨fun h => (by cases h), fun c cs hr => let ⟨v, w'', r, s⟩ := h c cs; ⟨v, w'', r, stepsIn_wide.2 s⟩⟩
    | value _ => exact h
    | skip => exact h
    | defer _ => exact h
    | _ => exact False.elim h
  | halt x w' =>
    cases x <;> first | exact h | exact False.elim h
theorem textL_callW (hw : Region.wanted o (yielded ops a.tmps) = true) (ht : tk o = false) (h : ∀ K : Act → World → Prop, Shut (∀ a w, S w → (S w → wpTextL Fence.wide n P ops Q tk S rest a w) → K a w) → Oper.wp P o a w K Q) : wpTextL Fence.wide n P ops Q tk S (o :: rest) a w :=
  textL_call hw ht fun K hK => wp_wide (h K hK)
theorem textL_call_moreW (hw : Region.wanted o (yielded ops a.tmps) = true) (ht : tk o = false) (h : ∀ K : Act → World → Prop, Shut (∀ (S' : World → Prop) a w, (∀ W, S' W → S W) → S' w → (S' w → wpTextL Fence.wide n P ops Q tk S' rest a w) → K a w) → Oper.wp P o a w K Q) : wpTextL Fence.wide n P ops Q tk S (o :: rest) a w :=
  textL_call_more hw ht fun K hK => wp_wide (h K hK)
theorem textL_lastW (hw : Region.wanted o (yielded ops a.tmps) = true) (ht : tk o = false) (h : ∀ K : Act → World → Prop, Shut (∀ a w, Q .normal a w → K a w) → Oper.wp P o a w K (NoPO Q)) : wpTextL Fence.wide n P ops (NoPO Q) tk S [o] a w :=
  textL_last hw ht fun K hK => wp_wide (h K hK)
theorem wp_orderL {id : Nat} (S : World → Prop) (ord : List Nat) (z : Nat) (hm : P.follows .mixedOrders = true) (hd : noDefer ops = true) (hb : orderBL takeB .any ops ord z = true) (hS : S w.drew) (h : S w.drew → wpTextL Fence.wide 12 P ops (NoPO Q) takeB S (opsIn ops ord) a w.drew) : (Code.region id ops true).wp P Q a w :=
  wpIn_wide.1 (wpIn_orderL (fun _ => trivial) S ord z hm hd hb hS h)
theorem textL_done (h : Q .normal a w) : wpTextL F n P ops (NoPO Q) tk S [] a w := h
end
end Go.Proofs.YtppjnpempgpkaaaGreat
