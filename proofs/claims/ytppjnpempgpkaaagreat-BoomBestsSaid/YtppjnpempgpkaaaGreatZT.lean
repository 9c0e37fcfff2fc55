/- Drawn regions whose orders part: a tree of orders. -/
import Derived.Test.YtppjnpempgpkaaaGreatZL
namespace Go.Proofs.YtppjnpempgpkaaaGreat
open Go.RowKit
set_option linter.unusedVariables false
set_option linter.unusedSimpArgs false
/-- Orders as a tree: a rest in one order, a reader ahead, or two operations of which either may come next. -/
inductive Tr where
  | lin (l : List Nat)
  | pre (i : Nat) (r : Tr)
  | alt (i : Nat) (r : Tr) (j : Nat) (s : Tr)
def Tr.fuel : Tr → Nat
  | .lin l => l.length
  | .pre _ r => r.fuel + 1
  | .alt _ r _ _ => r.fuel + 1
def backOk (md : Region.Mode) (ops : Array Oper) (done : List Nat) (i : Nat) : Bool := match ops[i]? with
  | some o => !inB done i && (o.after.toList.all fun e => !Region.binds md e || inB done e.on)
  | none => false
def trOk (md : Region.Mode) (ops : Array Oper) : Tr → List Nat → Bool
  | .lin l, done => ordOk md ops l done
  | .pre i r, done => backOk md ops done i && ((match ops[i]? with | some o => takeB o | none => false) && trOk md ops r (i :: done))
  | .alt i r j s, done => backOk md ops done i && (backOk md ops done j && ((Nat.beq r.fuel s.fuel && (List.range ops.size).all fun k => inB done k || Nat.beq k i || Nat.beq k j || (match ops[k]? with | some o' => o'.after.toList.any fun e => Region.binds md e && !inB done e.on | none => true)) && (trOk md ops r (i :: done) && trOk md ops s (j :: done))))
section
variable {P : Program} {ops : Array Oper} {Q : Exit → Act → World → Prop} {S : World → Prop}
def wpTree (P : Program) (ops : Array Oper) (Q : Exit → Act → World → Prop) : Tr → (World → Prop) → Act → World → Prop
  | .lin l, S, a, w => wpText P ops Q S (opsIn ops l) a w
  | .pre i r, S, a, w => ∃ o, ops[i]? = some o ∧ Region.wanted o (yielded ops a.tmps) = true ∧ ∃ v, (∀ W, S W → (execOp a.eval o).run P W = .ok (.value v) W) ∧ wpTree P ops Q r S (a.put o.dst v) w
  | .alt i r j s, S, a, w => (∃ o, ops[i]? = some o ∧ Region.wanted o (yielded ops a.tmps) = true ∧ Oper.wp P o a w (fun a' w' => ∃ S' : World → Prop, (∀ W, S' W → S W) ∧ S' w' ∧ wpTree P ops Q r S' a' w') Q) ∧ (∃ o, ops[j]? = some o ∧ Region.wanted o (yielded ops a.tmps) = true ∧ Oper.wp P o a w (fun a' w' => ∃ S' : World → Prop, (∀ W, S' W → S W) ∧ S' w' ∧ wpTree P ops Q s S' a' w') Q)
theorem back_ready {md : Region.Mode} {done : List Nat} {i : Nat} (hd : ∀ k ∈ done, k < ops.size) (h : backOk md ops done i = true) : ∃ o, ops[i]? = some o ∧ i < ops.size ∧ inB done i = false ∧ (∀ e ∈ o.after, Region.binds md e = true → inB done e.on = true) ∧ i ∈ Region.ready md ops (lst ops.size done) := by
  unfold backOk at h
  cases hi : ops[i]? with
  | none => rw [hi] at h; cases h
  | some o =>
    rw [hi] at h
    simp only [Bool.and_eq_true] at h
    obtain ⟨h1, h2⟩ := h
    have hin : i < ops.size := (Array.getElem?_eq_some_iff.1 hi).1
    have hnd : inB done i = false := by simpa using h1
    have hback : ∀ e ∈ o.after, Region.binds md e = true → inB done e.on = true := fun e he hb => by
      have := List.all_eq_true.1 h2 e (Array.mem_toList_iff.2 he)
      rw [hb, Bool.not_true, Bool.false_or] at this
      exact this
    refine ⟨o, rfl, hin, hnd, hback, mem_ready.2 ⟨by rw [lst_get hin]; exact hnd, o, hi, fun e he hb => ?_⟩⟩
    have h4 := hback e he hb
    rw [lst_get (hd _ (inB_iff.1 h4))]; exact h4
theorem tree_any {md : Region.Mode} (hs : Region.noSelect ops = true) (hp : okRest2 md ops ops.toList ops.toList 0 = true) (hQ : ∀ c a d v w, Q (.panic c) (Act.put a d v) w → Q (.panic c) a w) :
    ∀ (t : Tr) (S : World → Prop) (done : List Nat) (a : Act) (w : World), trOk md ops t done = true → (∀ k ∈ done, k < ops.size) → S w → wpTree P ops Q t S a w → wpAnyH P md ops Q S t.fuel (lst ops.size done) a w
  | .lin l, S, done, a, w, ho, hd, hS, h => order_any hs hp hQ l S done a w ho hd hS h
  | .pre i r, S, done, a, w, ho, hd, hS, h => by
    simp only [trOk, Bool.and_eq_true] at ho
    obtain ⟨h1, h3, ho2⟩ := ho
    obtain ⟨o, hi, hin, hnd, hback, hready⟩ := back_ready hd h1
    rw [hi] at h3
    have ht : takeB o = true := h3
    obtain ⟨o', hi', hw, v, hy, h5⟩ := h
    rw [hi] at hi'; cases hi'
    have hf : Region.free md ops (lst ops.size done) i = true := by
      unfold Region.free
      rw [hi]
      dsimp only
      rw [List.all_eq_true]
      intro j hj
      have hjn := List.mem_range.1 hj
      by_cases hji : j = i
      · subst hji; simp
      · rw [lst_get hjn]
        cases hdj : inB done j with
        | true => simp
        | false =>
          cases hoj : ops[j]? with
          | none => simp
          | some oj =>
            rcases ok2_pair hp (Ne.symm hji) hi hoj (fun ⟨e, he, hb, hon⟩ => by have := hback e he hb; rw [hon, hdj] at this; cases this) with ⟨e, he, hb, hon⟩ | h5
            · have : oj.after.any (fun e => Region.binds md e && e.on == i) = true := Array.any_eq_true'.2 ⟨e, he, by simp [hb, hon]⟩
              simp [this]
            · simp [h5]
    refine wpAnyH_take hi hs hf (by simpa using hready) (fun c a w => hQ c a _ _ w) (Or.inl ⟨hw, hy⟩) hS ?_
    rw [lst_set hin]
    exact tree_any hs hp hQ r S (i :: done) _ w ho2 (fun k hk => by rcases List.mem_cons.1 hk with rfl | hk; exact hin; exact hd k hk) hS h5
  | .alt i r j s, S, done, a, w, ho, hd, hS, h => by
    simp only [trOk, Bool.and_eq_true] at ho
    obtain ⟨h1, h2, ⟨hfu, h6⟩, ho1, ho2⟩ := ho
    have hfu2 : r.fuel = s.fuel := Nat.eq_of_beq_eq_true hfu
    obtain ⟨oi, hi, hiin, hind, hiback, hiready⟩ := back_ready hd h1
    obtain ⟨oj, hj, hjin, hjnd, hjback, hjready⟩ := back_ready hd h2
    have honly : ∀ k, k ∈ Region.ready md ops (lst ops.size done) → k = i ∨ k = j := fun k hk => by
      obtain ⟨h7, ok, hok, h8⟩ := mem_ready.1 hk
      have hkn := (Array.getElem?_eq_some_iff.1 hok).1
      rw [lst_get hkn] at h7
      have h9 := List.all_eq_true.1 h6 k (List.mem_range.2 hkn)
      rw [h7, hok, Bool.false_or, Bool.or_eq_true, Bool.or_eq_true] at h9
      rcases h9 with (h9 | h9) | h9
      · exact .inl (Nat.eq_of_beq_eq_true h9)
      · exact .inr (Nat.eq_of_beq_eq_true h9)
      · obtain ⟨e, he, h10⟩ := List.any_eq_true.1 h9
        simp only [Bool.and_eq_true] at h10
        have h11 := h8 e (Array.mem_toList_iff.1 he) h10.1
        have h12 : inB done e.on = false := by simpa using h10.2
        by_cases hen : e.on < ops.size
        · rw [lst_get hen, h12] at h11; cases h11
        · rw [Array.getD_eq_getD_getElem?, Array.getElem?_eq_none (by rw [lst_size]; omega)] at h11; cases h11
    obtain ⟨⟨o1, hi', hw1, hp1⟩, o2, hj', hw2, hp2⟩ := h
    rw [hi] at hi'; cases hi'
    rw [hj] at hj'; cases hj'
    have iha : ∀ (S : World → Prop) a' w', S w' → wpTree P ops Q r S a' w' → wpAnyH P md ops Q S r.fuel ((lst ops.size done).setIfInBounds i true) a' w' := fun S a' w' h4 h5 => by
      rw [lst_set hiin]
      exact tree_any hs hp hQ r S (i :: done) a' w' ho1 (fun k hk => by rcases List.mem_cons.1 hk with rfl | hk; exact hiin; exact hd k hk) h4 h5
    have ihb : ∀ (S : World → Prop) a' w', S w' → wpTree P ops Q s S a' w' → wpAnyH P md ops Q S r.fuel ((lst ops.size done).setIfInBounds j true) a' w' := fun S a' w' h4 h5 => by
      rw [lst_set hjin, hfu2]
      exact tree_any hs hp hQ s S (j :: done) a' w' ho2 (fun k hk => by rcases List.mem_cons.1 hk with rfl | hk; exact hjin; exact hd k hk) h4 h5
    show wpAnyH P md ops Q S (r.fuel + 1) _ a w
    refine wpAnyH_all rfl (fun e => by rw [e] at hiready; cases hiready) fun k hk => ?_
    have hcase := honly k hk
    unfold wpOp
    rcases hcase with rfl | rfl
    · rw [hi]
      dsimp only
      rw [if_pos hw1]
      exact .inl (Oper.wp_mono (fun a' w' ⟨S', h3, h4, h5⟩ => ⟨h3 _ h4, wpAnyH_weak h3 _ _ _ _ (iha _ _ _ h4 h5)⟩) hp1)
    · rw [hj]
      dsimp only
      rw [if_pos hw2]
      exact .inl (Oper.wp_mono (fun a' w' ⟨S', h3, h4, h5⟩ => ⟨h3 _ h4, wpAnyH_weak h3 _ _ _ _ (ihb _ _ _ h4 h5)⟩) hp2)
def treeB (md : Region.Mode) (ops : Array Oper) (t : Tr) : Bool := Region.noSelect ops && okRest2 md ops ops.toList ops.toList 0 && Nat.beq t.fuel ops.size && trOk md ops t []
/-- The region, in a tree of orders that its edges allow. -/
theorem wp_region_tree {id : Nat} {a : Act} {w : World} (S : World → Prop) (t : Tr) (hm : P.follows .mixedOrders = true) (hb : treeB .any ops t = true) (hS : S w.drew) (h : S w.drew → wpTree P ops (NoPanic Q) t S a w.drew) : (Code.region id ops true).wp P Q a w := by
  simp only [treeB, Bool.and_eq_true] at hb
  obtain ⟨⟨⟨h1, h2⟩, h3⟩, h4⟩ := hb
  exact wp_region_noPanic (wp_region_held_drew hm hS fun h0 => by
    have := tree_any h1 h2 (fun _ _ _ _ _ h => h) t S [] a w.drew h4 (fun k hk => by cases hk) h0 (h h0)
    rw [lst_nil, Nat.eq_of_beq_eq_true h3] at this
    exact this)
variable {o : Oper} {a : Act} {w : World} {i j : Nat} {r s : Tr}
theorem tree_pre {aEnd : Act} (hi : ops[i]? = some o) (hw : Region.wanted o (yielded ops a.tmps) = true) (ht : takeB o = true) (hp : partBR [o] a.tmps.size = true) (hS : S w) (h : ∀ W, S W → wpQuiet P ops (fun w' => ∃ n, w' = W.drewN n) (fun a' => a' = aEnd) [o] a) (hr : wpTree P ops Q r S aEnd w) : wpTree P ops Q (.pre i r) S a w := by
  have h1 : wpText P ops (fun _ a' _ => a' = aEnd) S [o] a w := text_chunk_aux (Q := fun _ a' _ => a' = aEnd) aEnd [] w w hS rfl [o] a hp h
  unfold wpText at h1
  rw [if_pos hw, if_pos ht] at h1
  obtain ⟨v, hy, h2⟩ := h1
  have h3 : a.put o.dst v = aEnd := h2
  exact ⟨o, hi, hw, v, hy, by rw [h3]; exact hr⟩
theorem tree_alt {o' : Oper} (hi : ops[i]? = some o) (hw : Region.wanted o (yielded ops a.tmps) = true) (hj : ops[j]? = some o') (hw' : Region.wanted o' (yielded ops a.tmps) = true)
    (h : ∀ K : Act → World → Prop, Shut (∀ a w, S w → (S w → wpTree P ops Q r S a w) → K a w) → Oper.wp P o a w K Q)
    (h' : ∀ K : Act → World → Prop, Shut (∀ a w, S w → (S w → wpTree P ops Q s S a w) → K a w) → Oper.wp P o' a w K Q) : wpTree P ops Q (.alt i r j s) S a w :=
  ⟨⟨o, hi, hw, h _ fun a w h1 h2 => ⟨S, fun _ h => h, h1, h2 h1⟩⟩, o', hj, hw', h' _ fun a w h1 h2 => ⟨S, fun _ h => h, h1, h2 h1⟩⟩
theorem tree_lin {l : List Nat} (h : wpText P ops Q S (opsIn ops l) a w) : wpTree P ops Q (.lin l) S a w := h
def Tr.pres : List Nat → Tr → Tr
  | [], r => r
  | i :: l, r => .pre i (Tr.pres l r)
def plainB (ops : Array Oper) (l : List Nat) : Bool := l.all fun i => match ops[i]? with | some o => o.guard.isNone && takeB o | none => false
/-- Readers ahead, at once. -/
theorem tree_pres {aEnd : Act} : ∀ (l : List Nat) (n : Nat) {a : Act}, plainB ops l = true → partBR (opsIn ops l) a.tmps.size = true → l.length ≤ n → S w → (∀ W, S W → wpQuiet P ops (fun w' => ∃ n, w' = W.drewN n) (fun a' => a' = aEnd) ((opsIn ops l).take n) a) → wpTree P ops Q r S aEnd w → wpTree P ops Q (Tr.pres l r) S a w := by
  intro l n a hb hp hn hS h hr
  rw [List.take_of_length_le (show (opsIn ops l).length ≤ n from Nat.le_trans (List.length_filterMap_le _ _) hn)] at h
  have h1 : wpText P ops (fun _ a' _ => a' = aEnd) S (opsIn ops l) a w := by
    have := text_chunk_aux (Q := fun _ a' _ => a' = aEnd) aEnd [] w w hS rfl (opsIn ops l) a hp h
    rwa [List.append_nil] at this
  clear h hp
  induction l generalizing a with
  | nil => have h2 : a = aEnd := h1; rw [h2]; exact hr
  | cons i l ih =>
    simp only [plainB, List.all_cons, Bool.and_eq_true] at hb
    obtain ⟨hb1, hb2⟩ := hb
    cases hi : ops[i]? with
    | none => rw [hi] at hb1; cases hb1
    | some o =>
      rw [hi] at hb1
      simp only [Bool.and_eq_true] at hb1
      have hw : Region.wanted o (yielded ops a.tmps) = true := by
        unfold Region.wanted
        cases hg : o.guard with
        | none => rfl
        | some g => rw [hg] at hb1; simp at hb1
      have he : opsIn ops (i :: l) = o :: opsIn ops l := by simp [opsIn, hi]
      rw [he] at h1
      unfold wpText at h1
      rw [if_pos hw, if_pos hb1.2] at h1
      obtain ⟨v, hy, h2⟩ := h1
      exact ⟨o, hi, hw, v, hy, ih hb2 (by rw [List.length_cons] at hn; omega) h2⟩
end
end Go.Proofs.YtppjnpempgpkaaaGreat
