/- A drawn region in which two operations (a call, and an allocation that nothing holds back) may come in either order. -/
import Derived.Test.YtppjnpempgpkaaaGreatZL
namespace Go.Proofs.YtppjnpempgpkaaaGreat
open Go.RowKit
set_option linter.unusedVariables false
set_option linter.unusedSimpArgs false
def preOk (tk : Oper → Bool) (md : Region.Mode) (ops : Array Oper) : List Nat → List Nat → Bool
  | [], done => true
  | i :: rest, done => (match ops[i]? with
    | some o => !inB done i && (o.after.toList.all fun e => !Region.binds md e || inB done e.on) && tk o
    | none => false) && preOk tk md ops rest (i :: done)
def readyB (md : Region.Mode) (ops : Array Oper) (done : List Nat) (i j : Nat) : Bool := match Region.ready md ops (lst ops.size done) with
  | [x, y] => Nat.beq x i && Nat.beq y j
  | _ => false
def order2B (tk : Oper → Bool) (md : Region.Mode) (ops : Array Oper) (pre : List Nat) (i : Nat) (la : List Nat) (j : Nat) (lb : List Nat) : Bool :=
  Region.noSelect ops && okRest2 md ops ops.toList ops.toList 0 && Nat.beq (pre.length + (la.length + 1)) ops.size && Nat.beq lb.length la.length && preOk tk md ops pre [] && readyB md ops pre.reverse i j &&
    (match ops[i]? with | some o => !tk o | none => false) && (match ops[j]? with | some o => !tk o | none => false) && ordOkT tk md ops la (i :: pre.reverse) && ordOkT tk md ops lb (j :: pre.reverse) && pre.all (fun k => Nat.blt k ops.size)
section
variable {F : Fence} {n : Nat} {P : Program} {ops : Array Oper} {Q : Exit → Act → World → Prop} {S : World → Prop} {tk : Oper → Bool} {a : Act} {w : World}
theorem node_ok {md : Region.Mode} (hfn : ∀ f, F.fn f) (hnd0 : noDefer ops = true) (hs : Region.noSelect ops = true) (hp : okRest2 md ops ops.toList ops.toList 0 = true) (hQ : ∀ c a d v w, Q (.panic c) (Act.put a d v) w → Q (.panic c) a w)
    {i : Nat} {la done : List Nat} {o : Oper} (hi : ops[i]? = some o) (ht : tk o = false) (hd : ∀ k ∈ done, k < ops.size) (ho : ordOkT tk md ops la (i :: done) = true) (hS : S w) (h : wpTextI F n P ops Q tk S (opsIn ops (i :: la)) a w) :
    wpOpIn F n P ops Q i (fun a' w' => S w' ∧ wpAnyHI F n P md ops Q S la.length ((lst ops.size done).setIfInBounds i true) a' w') a w := by
  have hin : i < ops.size := (Array.getElem?_eq_some_iff.1 hi).1
  have hops : opsIn ops (i :: la) = o :: opsIn ops la := by simp [opsIn, hi]
  rw [hops] at h
  have ih' : ∀ (S : World → Prop) a' w', S w' → wpTextI F n P ops Q tk S (opsIn ops la) a' w' → wpAnyHI F n P md ops Q S la.length ((lst ops.size done).setIfInBounds i true) a' w' := fun S a' w' h4 h5 => by
    rw [lst_set hin]
    exact order_anyI hfn hnd0 hs hp hQ la S (i :: done) a' w' ho (fun k hk => by rcases List.mem_cons.1 hk with rfl | hk; exact hin; exact hd k hk) h4 h5
  unfold wpTextI at h
  unfold wpOpIn
  rw [hi]
  dsimp only
  by_cases hw : Region.wanted o (yielded ops a.tmps) = true
  · rw [if_pos hw, if_neg (by rw [ht]; simp)] at h
    rw [if_pos hw]
    exact (Oper.wpIn_mono (fun a' w' ⟨S', h3, h4, h5⟩ => ⟨h3 _ h4, wpAnyHI_weak h3 _ _ _ _ (ih' _ _ _ h4 h5)⟩) h)
  · rw [if_neg hw] at h
    rw [if_neg hw]
    exact ⟨fun f _ => hfn f, hS, ih' _ _ _ hS h⟩
theorem order_both {md : Region.Mode} (hfn : ∀ f, F.fn f) (hnd0 : noDefer ops = true) (hs : Region.noSelect ops = true) (hp : okRest2 md ops ops.toList ops.toList 0 = true) (hQ : ∀ c a d v w, Q (.panic c) (Act.put a d v) w → Q (.panic c) a w)
    {i j : Nat} {la lb : List Nat} {oi oj : Oper} (hi : ops[i]? = some oi) (hj : ops[j]? = some oj) (hti : tk oi = false) (htj : tk oj = false) (hlen : lb.length = la.length) :
    ∀ (pre done : List Nat) (a : Act) (w : World), preOk tk md ops pre done = true → (∀ k ∈ done, k < ops.size) → Region.ready md ops (lst ops.size (pre.reverse ++ done)) = [i, j] → ordOkT tk md ops la (i :: (pre.reverse ++ done)) = true → ordOkT tk md ops lb (j :: (pre.reverse ++ done)) = true →
      S w → wpTextI F n P ops Q tk S (opsIn ops (pre ++ i :: la)) a w → wpTextI F n P ops Q tk S (opsIn ops (pre ++ j :: lb)) a w → wpAnyHI F n P md ops Q S (pre.length + (la.length + 1)) (lst ops.size done) a w
  | [], done, a, w, _, hd, hr, hla, hlb, hS, h1, h2 => by
    simp only [List.reverse_nil, List.nil_append] at hr hla hlb h1 h2
    rw [List.length_nil, Nat.zero_add]
    refine wpAnyHI_all hr (by simp) fun q hq => ?_
    simp only [List.mem_cons, List.not_mem_nil, or_false] at hq
    rcases hq with rfl | rfl
    · exact node_ok hfn hnd0 hs hp hQ hi hti hd hla hS h1
    · rw [← hlen]; exact node_ok hfn hnd0 hs hp hQ hj htj hd hlb hS h2
  | k :: rest, done, a, w, ho, hd, hr, hla, hlb, hS, h1, h2 => by
    simp only [preOk, Bool.and_eq_true] at ho
    obtain ⟨ho1, ho2⟩ := ho
    cases hk : ops[k]? with
    | none => rw [hk] at ho1; cases ho1
    | some o =>
      rw [hk] at ho1
      simp only [Bool.and_eq_true] at ho1
      obtain ⟨⟨g1, g2⟩, ht⟩ := ho1
      have hin : k < ops.size := (Array.getElem?_eq_some_iff.1 hk).1
      have hnd : inB done k = false := by simpa using g1
      have e1 : opsIn ops (k :: rest ++ i :: la) = o :: opsIn ops (rest ++ i :: la) := by simp [opsIn, hk]
      have e2 : opsIn ops (k :: rest ++ j :: lb) = o :: opsIn ops (rest ++ j :: lb) := by simp [opsIn, hk]
      rw [e1] at h1
      rw [e2] at h2
      have hback : ∀ e ∈ o.after, Region.binds md e = true → inB done e.on = true := fun e he hb => by
        have := List.all_eq_true.1 g2 e (Array.mem_toList_iff.2 he)
        rw [hb, Bool.not_true, Bool.false_or] at this
        exact this
      have hready : k ∈ Region.ready md ops (lst ops.size done) := by
        refine mem_ready.2 ⟨by rw [lst_get hin]; exact hnd, o, hk, fun e he hb => ?_⟩
        have h4 := hback e he hb
        rw [lst_get (hd _ (inB_iff.1 h4))]; exact h4
      have hf : Region.free md ops (lst ops.size done) k = true := by
        unfold Region.free
        rw [hk]
        dsimp only
        rw [List.all_eq_true]
        intro q hq
        have hqn := List.mem_range.1 hq
        by_cases hqk : q = k
        · subst hqk; simp
        · rw [lst_get hqn]
          cases hdq : inB done q with
          | true => simp
          | false =>
            cases hoq : ops[q]? with
            | none => simp
            | some oq =>
              rcases ok2_pair hp (Ne.symm hqk) hk hoq (fun ⟨e, he, hb, hon⟩ => by have := hback e he hb; rw [hon, hdq] at this; cases this) with ⟨e, he, hb, hon⟩ | h5
              · have : oq.after.any (fun e => Region.binds md e && e.on == k) = true := Array.any_eq_true'.2 ⟨e, he, by simp [hb, hon]⟩
                simp [this]
              · simp [h5]
      have ih' : ∀ a' w', S w' → wpTextI F n P ops Q tk S (opsIn ops (rest ++ i :: la)) a' w' → wpTextI F n P ops Q tk S (opsIn ops (rest ++ j :: lb)) a' w' → wpAnyHI F n P md ops Q S (rest.length + (la.length + 1)) ((lst ops.size done).setIfInBounds k true) a' w' := fun a' w' h4 h5 h6 => by
        rw [lst_set hin]
        refine order_both hfn hnd0 hs hp hQ hi hj hti htj hlen rest (k :: done) a' w' ho2 (fun q hq => by rcases List.mem_cons.1 hq with rfl | hq; exact hin; exact hd q hq) ?_ ?_ ?_ h4 h5 h6
        · simpa using hr
        · simpa using hla
        · simpa using hlb
      rw [List.length_cons, show rest.length + 1 + (la.length + 1) = (rest.length + (la.length + 1)) + 1 from by omega]
      unfold wpTextI at h1 h2
      by_cases hw : Region.wanted o (yielded ops a.tmps) = true
      · rw [if_pos hw, if_pos ht] at h1 h2
        obtain ⟨v, hy, h5⟩ := h1
        obtain ⟨v', hy', h6⟩ := h2
        have hv : v' = v := by
          have q1 := hy w hS
          rw [hy' w hS] at q1
          injection q1 with q2
          injection q2
        subst hv
        exact wpAnyHI_take hfn hnd0 hk hs hf (by simpa using hready) (fun c a w => hQ c a _ _ w) (Or.inl ⟨hw, hy⟩) hS (ih' _ _ hS h5 h6)
      · rw [if_neg hw] at h1 h2
        exact wpAnyHI_take hfn hnd0 hk hs hf (by simpa using hready) (fun c a w => hQ c a _ _ w) (Or.inr ⟨by simpa using hw, rfl⟩) hS (ih' _ _ hS h1 h2)
theorem wpIn_order2 {id : Nat} (hfn : ∀ f, F.fn f) (S : World → Prop) (pre : List Nat) (i : Nat) (la : List Nat) (j : Nat) (lb : List Nat) (hm : P.follows .mixedOrders = true) (hd : noDefer ops = true) (hb : order2B tk .any ops pre i la j lb = true) (hS : S w.drew)
    (h1 : S w.drew → wpTextI F n P ops (NoPO Q) tk S (opsIn ops (pre ++ i :: la)) a w.drew) (h2 : S w.drew → wpTextI F n P ops (NoPO Q) tk S (opsIn ops (pre ++ j :: lb)) a w.drew) : (Code.region id ops true).wpIn F n P Q a w := by
  simp only [order2B, Bool.and_eq_true] at hb
  obtain ⟨⟨⟨⟨⟨⟨⟨⟨⟨⟨b1, b2⟩, b3⟩, b4⟩, b5⟩, b6⟩, b7⟩, b8⟩, b9⟩, b10⟩, b11⟩ := hb
  cases hi : ops[i]? with
  | none => rw [hi] at b7; cases b7
  | some oi =>
    cases hj : ops[j]? with
    | none => rw [hj] at b8; cases b8
    | some oj =>
      rw [hi] at b7
      rw [hj] at b8
      have hr : Region.ready .any ops (lst ops.size (pre.reverse ++ [])) = [i, j] := by
        rw [List.append_nil]
        unfold readyB at b6
        split at b6
        · rename_i x y he
          rw [Bool.and_eq_true] at b6
          rw [he, Nat.eq_of_beq_eq_true b6.1, Nat.eq_of_beq_eq_true b6.2]
        · cases b6
      have := order_both (F := F) (n := n) (P := P) (Q := NoPO Q) (S := S) (tk := tk) hfn hd b1 b2 (fun _ _ _ _ _ h => h.elim) hi hj (by simpa using b7) (by simpa using b8) (Nat.eq_of_beq_eq_true b4) pre [] a w.drew b5 (fun k hk => by cases hk) hr (by simpa using b9) (by simpa using b10) hS (h1 hS) (h2 hS)
      rw [lst_nil, Nat.eq_of_beq_eq_true b3] at this
      exact wpIn_region_any hm (any_noPO _ _ _ _ (wpAnyIn_of_held _ _ _ _ this))
end
end Go.Proofs.YtppjnpempgpkaaaGreat
