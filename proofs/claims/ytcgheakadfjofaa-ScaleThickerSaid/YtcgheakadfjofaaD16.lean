/- A region that draws its order inside the body of a range over a function. Drawn regions in an order, where some operations that read are carried out at the very world. count: how many best cuttings there are. -/
import Derived.Test.YtcgheakadfjofaaZ3
import Derived.OrdersIn
import Derived.RangeFuncCalls
import Derived.TacticsIn
import Derived.Test.YtcgheakadfjofaaD10
import Derived.Test.YtcgheakadfjofaaB19
import Derived.Test.YtcgheakadfjofaaD3
namespace Go.Proofs.Ytcgheakadfjofaa
open Go.RowKit
set_option linter.unusedVariables false
/-- Q, but False at a panic, and where memory is outgrown. -/
def NoPO (Q : Exit → Act → World → Prop) : Exit → Act → World → Prop
  | .panic _, _, _ => False
  | .outgrown, _, _ => False
  | e, a, w => Q e a w
theorem noPO_out {Q : Exit → Act → World → Prop} : ¬ LetsOut (NoPO Q) := fun ⟨_, _, h⟩ => h
theorem rowsIn_round {P : Program} {n l : Nat} {row : String} {args : Array Value} {w : World} {R : Value → World → Prop} (h : Rows P row args w R) : RowsIn (Fence.wide.inRound l) n P row args w R :=
  fun c cs _ => let ⟨v, w', r, s⟩ := h c cs; ⟨v, w', r, stepsIn_wide.2 s⟩
theorem op_round {P : Program} {Q : Exit → Act → World → Prop} {n l : Nat} {o : Oper} {a : Act} {w : World} {K K' : Act → World → Prop} (hd : ∀ c, o.op ≠ .defer c) (hK : ∀ a w, K a w → K' a w) (h : o.wp P a w K (NoPO Q)) : o.wpIn (Fence.wide.inRound l) n P a w K' Q := by
  refine ⟨fun f _ => trivial, ?_⟩
  rw [show (Fence.wide.inRound l).round = some l from rfl, Oper.semAt_some l _ _ hd]
  unfold Oper.wp at h
  generalize (execOp a.eval o).run P w = r at h
  cases r with
  | ok x w' =>
    cases x with
    | value v => exact hK _ _ h
    | skip => exact hK _ _ h
    | defer d => exact hK _ _ h
    | enter f args =>
      refine ⟨fun e => (by cases e), CallsIn.inRound l (callsIn_wide.2 (Calls.mono (show Calls P f args w' _ from h) fun e w'' he => ?_))⟩
      cases e with
      | returned v => exact hK _ _ he
      | panicked c => exact he.elim
      | outgrown => exact (noPO_out he).elim
    | row row args => exact ⟨fun e => (by cases e), rowsIn_round (show Rows P row args w' _ from Rows.mono h fun v w'' hv => hK _ _ hv)⟩
    | _ => exact False.elim h
  | halt x w' =>
    cases x with
    | panic v => exact False.elim h
    | _ => exact False.elim h
def noDefer (ops : Array Oper) : Bool := ops.toList.all fun o => match o.op with | .defer _ => false | _ => true
theorem noDefer_at {ops : Array Oper} (h : noDefer ops = true) {i : Nat} {o : Oper} (hi : ops[i]? = some o) : ∀ c, o.op ≠ .defer c := by
  intro c e
  have := List.all_eq_true.1 h o (Array.mem_toList_iff.2 (Array.mem_of_getElem? hi))
  rw [e] at this; cases this
theorem any_round {P : Program} {Q : Exit → Act → World → Prop} {n l : Nat} {md : Region.Mode} {ops : Array Oper} (hd : noDefer ops = true) : ∀ (fuel : Nat) (listed : Array Bool) (a : Act) (w : World),
    wpAny P md ops (NoPO Q) fuel listed a w → wpAnyIn (Fence.wide.inRound l) n P md ops Q fuel listed a w
  | 0, _, _, _, h => h
  | fuel + 1, listed, a, w, h => by
    refine ⟨fun h0 => h.1 h0, fun i hi => ?_⟩
    have h1 := h.2 i hi
    unfold wpOp at h1
    unfold wpOpIn
    cases ho : ops[i]? with
    | none => rw [ho] at h1; exact any_round hd fuel _ _ _ h1
    | some o =>
      rw [ho] at h1
      dsimp only at h1 ⊢
      split
      · rename_i hw
        rw [if_pos hw] at h1
        rcases h1 with h1 | ⟨_, h1⟩
        · exact op_round (noDefer_at hd ho) (fun a' w' hk => any_round hd fuel _ a' w' hk) h1
        · exact (noPO_out h1).elim
      · rename_i hw
        rw [if_neg hw] at h1
        exact ⟨fun f _ => trivial, any_round hd fuel _ _ _ h1⟩
/-- The region, in an order that its edges allow, in a round. -/
theorem wpIn_round_order {P : Program} {ops : Array Oper} {Q : Exit → Act → World → Prop} {n l : Nat} {id : Nat} {a : Act} {w : World} (S : World → Prop) (ord : List Nat) (hm : P.follows .mixedOrders = true) (hd : noDefer ops = true) (hb : orderB .any ops ord = true) (hS : S w.drew) (h : S w.drew → wpText P ops (NoPO Q) S (opsIn ops ord) a w.drew) : (Code.region id ops true).wpIn (Fence.wide.inRound l) n P Q a w := by
  simp only [orderB, Bool.and_eq_true] at hb
  obtain ⟨⟨⟨h1, h2⟩, h3⟩, h4⟩ := hb
  have := order_any h1 h2 (fun _ _ _ _ _ h => h.elim) ord S [] a w.drew h4 (fun k hk => by cases hk) hS (h hS)
  rw [lst_nil, Nat.eq_of_beq_eq_true h3] at this
  exact wpIn_region_any hm (any_round hd _ _ _ _ (wpAny_of_held _ _ _ _ this))
theorem text_doneO {P : Program} {ops : Array Oper} {Q : Exit → Act → World → Prop} {S : World → Prop} {a : Act} {w : World} (h : Q .normal a w) : wpText P ops (NoPO Q) S [] a w := h
end Go.Proofs.Ytcgheakadfjofaa
namespace Go.Proofs.Ytcgheakadfjofaa
open Go.RowKit
set_option linter.unusedVariables false
def wpTextT (P : Program) (ops : Array Oper) (Q : Exit → Act → World → Prop) (tk : Oper → Bool) : (World → Prop) → List Oper → Act → World → Prop
  | _, [], a, w => Q .normal a w
  | S, o :: rest, a, w =>
    if Region.wanted o (yielded ops a.tmps) = true then
      (if tk o = true then ∃ v, (∀ W, S W → (execOp a.eval o).run P W = .ok (.value v) W) ∧ wpTextT P ops Q tk S rest (a.put o.dst v) w
       else Oper.wp P o a w (fun a' w' => ∃ S' : World → Prop, (∀ W, S' W → S W) ∧ S' w' ∧ wpTextT P ops Q tk S' rest a' w') Q)
    else wpTextT P ops Q tk S rest (a.put o.dst undef) w
def ordOkT (tk : Oper → Bool) (md : Region.Mode) (ops : Array Oper) : List Nat → List Nat → Bool
  | [], done => (List.range ops.size).all fun k => inB done k
  | i :: rest, done => (match ops[i]? with
    | some o => !inB done i && (o.after.toList.all fun e => !Region.binds md e || inB done e.on) &&
        (tk o || (List.range ops.size).all fun j => inB done j || Nat.beq j i || (match ops[j]? with | some o' => o'.after.toList.any fun e => Region.binds md e && !inB done e.on | none => true))
    | none => false) && ordOkT tk md ops rest (i :: done)
def orderBT (tk : Oper → Bool) (md : Region.Mode) (ops : Array Oper) (ord : List Nat) : Bool := Region.noSelect ops && okRest2 md ops ops.toList ops.toList 0 && Nat.beq ord.length ops.size && ordOkT tk md ops ord []
section
variable {P : Program} {ops : Array Oper} {Q : Exit → Act → World → Prop} {S : World → Prop} {tk : Oper → Bool}
theorem order_anyT {md : Region.Mode} (hs : Region.noSelect ops = true) (hp : okRest2 md ops ops.toList ops.toList 0 = true) (hQ : ∀ c a d v w, Q (.panic c) (Act.put a d v) w → Q (.panic c) a w) :
    ∀ (rest : List Nat) (S : World → Prop) (done : List Nat) (a : Act) (w : World), ordOkT tk md ops rest done = true → (∀ k ∈ done, k < ops.size) → S w → wpTextT P ops Q tk S (opsIn ops rest) a w → wpAnyH P md ops Q S rest.length (lst ops.size done) a w
  | [], S, done, a, w, ho, hd, hS, h => by
    refine ⟨?_, h⟩
    unfold Region.ready
    rw [List.filter_eq_nil_iff]
    intro i hi
    have hi' := List.mem_range.1 hi
    have h1 := List.all_eq_true.1 ho i hi
    simp [lst_get hi', h1]
  | i :: rest, S, done, a, w, ho, hd, hS, h => by
    simp only [ordOkT, Bool.and_eq_true] at ho
    obtain ⟨ho1, ho2⟩ := ho
    cases hi : ops[i]? with
    | none => rw [hi] at ho1; cases ho1
    | some o =>
      rw [hi] at ho1
      simp only [Bool.and_eq_true] at ho1
      obtain ⟨⟨h1, h2⟩, h3⟩ := ho1
      have hin : i < ops.size := (Array.getElem?_eq_some_iff.1 hi).1
      have hnd : inB done i = false := by simpa using h1
      have hops : opsIn ops (i :: rest) = o :: opsIn ops rest := by simp [opsIn, hi]
      rw [hops] at h
      have hback : ∀ e ∈ o.after, Region.binds md e = true → inB done e.on = true := fun e he hb => by
        have := List.all_eq_true.1 h2 e (Array.mem_toList_iff.2 he)
        rw [hb, Bool.not_true, Bool.false_or] at this
        exact this
      have hready : i ∈ Region.ready md ops (lst ops.size done) := by
        refine mem_ready.2 ⟨by rw [lst_get hin]; exact hnd, o, hi, fun e he hb => ?_⟩
        have h4 := hback e he hb
        rw [lst_get (hd _ (inB_iff.1 h4))]; exact h4
      have ih' : ∀ (S : World → Prop) a' w', S w' → wpTextT P ops Q tk S (opsIn ops rest) a' w' → wpAnyH P md ops Q S rest.length ((lst ops.size done).setIfInBounds i true) a' w' := fun S a' w' h4 h5 => by
        rw [lst_set hin]
        exact order_anyT hs hp hQ rest S (i :: done) a' w' ho2 (fun k hk => by rcases List.mem_cons.1 hk with rfl | hk; exact hin; exact hd k hk) h4 h5
      have h : if Region.wanted o (yielded ops a.tmps) = true then (if tk o = true then ∃ v, (∀ W, S W → (execOp a.eval o).run P W = .ok (.value v) W) ∧ wpTextT P ops Q tk S (opsIn ops rest) (a.put o.dst v) w else Oper.wp P o a w (fun a' w' => ∃ S' : World → Prop, (∀ W, S' W → S W) ∧ S' w' ∧ wpTextT P ops Q tk S' (opsIn ops rest) a' w') Q) else wpTextT P ops Q tk S (opsIn ops rest) (a.put o.dst undef) w := h
      show wpAnyH P md ops Q S (rest.length + 1) _ a w
      by_cases ht : tk o = true
      · have hf : Region.free md ops (lst ops.size done) i = true := by
          unfold Region.free
          rw [hi]
          dsimp only
          rw [List.all_eq_true]
          intro j hj
          have hjn := List.mem_range.1 hj
          by_cases hji : j = i
          · subst hji; simp
          · rw [lst_get hjn]
            cases hdj : inB done j with
            | true => simp
            | false =>
              cases hoj : ops[j]? with
              | none => simp
              | some oj =>
                rcases ok2_pair hp (Ne.symm hji) hi hoj (fun ⟨e, he, hb, hon⟩ => by have := hback e he hb; rw [hon, hdj] at this; cases this) with ⟨e, he, hb, hon⟩ | h5
                · have : oj.after.any (fun e => Region.binds md e && e.on == i) = true := Array.any_eq_true'.2 ⟨e, he, by simp [hb, hon]⟩
                  simp [this]
                · simp [h5]
        by_cases hw : Region.wanted o (yielded ops a.tmps) = true
        · rw [if_pos hw, if_pos ht] at h
          obtain ⟨v, hy, h5⟩ := h
          exact wpAnyH_take hi hs hf (by simpa using hready) (fun c a w => hQ c a _ _ w) (Or.inl ⟨hw, hy⟩) hS (ih' _ _ _ hS h5)
        · rw [if_neg hw] at h
          exact wpAnyH_take hi hs hf (by simpa using hready) (fun c a w => hQ c a _ _ w) (Or.inr ⟨by simpa using hw, rfl⟩) hS (ih' _ _ _ hS h)
      · have h6 : (List.range ops.size).all (fun j => inB done j || Nat.beq j i || (match ops[j]? with | some o' => o'.after.toList.any fun e => Region.binds md e && !inB done e.on | none => true)) = true := by
          rcases (Bool.or_eq_true _ _).mp h3 with h6 | h6
          · exact absurd h6 ht
          · exact h6
        have honly : ∀ k, k ∈ Region.ready md ops (lst ops.size done) → k = i := fun k hk => by
          obtain ⟨h7, ok, hok, h8⟩ := mem_ready.1 hk
          have hkn := (Array.getElem?_eq_some_iff.1 hok).1
          rw [lst_get hkn] at h7
          have h9 := List.all_eq_true.1 h6 k (List.mem_range.2 hkn)
          rw [h7, hok, Bool.false_or, Bool.or_eq_true] at h9
          rcases h9 with h9 | h9
          · exact Nat.eq_of_beq_eq_true h9
          · obtain ⟨e, he, h10⟩ := List.any_eq_true.1 h9
            simp only [Bool.and_eq_true] at h10
            have h11 := h8 e (Array.mem_toList_iff.1 he) h10.1
            have h12 : inB done e.on = false := by simpa using h10.2
            by_cases hen : e.on < ops.size
            · rw [lst_get hen, h12] at h11; cases h11
            · rw [Array.getD_eq_getD_getElem?, Array.getElem?_eq_none (by rw [lst_size]; omega)] at h11; cases h11
        have hnd2 : (Region.ready md ops (lst ops.size done)).Nodup := List.Pairwise.filter _ List.nodup_range
        have hr : Region.ready md ops (lst ops.size done) = [i] := by
          match hr : Region.ready md ops (lst ops.size done), hready, hnd2, honly with
          | [], hm, _, _ => cases hm
          | [x], _, _, ho1 => rw [ho1 x (by simp)]
          | x :: y :: l, _, hd, ho1 =>
            have h1 := ho1 x (by simp)
            have h2 := ho1 y (by simp)
            rw [h1, h2] at hd
            simp at hd
        refine wpAnyH_all hr (by simp) fun j hj => ?_
        have hj' : j = i := by simpa using hj
        subst hj'
        unfold wpOp
        rw [hi]
        dsimp only
        by_cases hw : Region.wanted o (yielded ops a.tmps) = true
        · rw [if_pos hw, if_neg ht] at h
          rw [if_pos hw]
          exact .inl (Oper.wp_mono (fun a' w' ⟨S', h3, h4, h5⟩ => ⟨h3 _ h4, wpAnyH_weak h3 _ _ _ _ (ih' _ _ _ h4 h5)⟩) h)
        · rw [if_neg hw] at h
          rw [if_neg hw]
          exact ⟨hS, ih' _ _ _ hS h⟩
variable {o : Oper} {rest : List Oper} {a : Act} {w : World}
theorem textT_skip (hw : Region.wanted o (yielded ops a.tmps) = false) (h : wpTextT P ops Q tk S rest (a.put o.dst undef) w) : wpTextT P ops Q tk S (o :: rest) a w := by
  unfold wpTextT; rw [if_neg (by rw [hw]; simp)]; exact h
theorem textT_take {v : Value} (hw : Region.wanted o (yielded ops a.tmps) = true) (ht : tk o = true) (hy : ∀ W, S W → (execOp a.eval o).run P W = .ok (.value v) W) (h : wpTextT P ops Q tk S rest (a.put o.dst v) w) : wpTextT P ops Q tk S (o :: rest) a w := by
  unfold wpTextT; rw [if_pos hw, if_pos ht]; exact ⟨v, hy, h⟩
theorem textT_call (hw : Region.wanted o (yielded ops a.tmps) = true) (ht : tk o = false) (h : ∀ K : Act → World → Prop, Shut (∀ a w, S w → (S w → wpTextT P ops Q tk S rest a w) → K a w) → Oper.wp P o a w K Q) : wpTextT P ops Q tk S (o :: rest) a w := by
  unfold wpTextT; rw [if_pos hw, if_neg (by rw [ht]; simp)]
  exact h _ fun a w h1 h2 => ⟨S, fun _ h => h, h1, h2 h1⟩
/-- Behind a call more can be said of all worlds to come. -/
theorem textT_call_more (hw : Region.wanted o (yielded ops a.tmps) = true) (ht : tk o = false) (h : ∀ K : Act → World → Prop, Shut (∀ (S' : World → Prop) a w, (∀ W, S' W → S W) → S' w → (S' w → wpTextT P ops Q tk S' rest a w) → K a w) → Oper.wp P o a w K Q) : wpTextT P ops Q tk S (o :: rest) a w := by
  unfold wpTextT; rw [if_pos hw, if_neg (by rw [ht]; simp)]
  exact h _ fun S' a w h0 h1 h2 => ⟨S', h0, h1, h2 h1⟩
def partBT (tk : Oper → Bool) (chunk : List Oper) (n : Nat) : Bool := chunk.all (fun o => readB o && tk o && (match o.dst with | some d => decide (d < n) | none => false)) && decide ((chunk.map (·.dst)).Nodup)
theorem textT_chunk_aux (aEnd : Act) (rest : List Oper) (w w1 : World) (hS1 : S w1) (hr : wpTextT P ops Q tk S rest aEnd w) :
    ∀ (chunk : List Oper) (a : Act), partBT tk chunk a.tmps.size = true → (∀ W, S W → wpQuiet P ops (fun w' => ∃ n, w' = W.drewN n) (fun a' => a' = aEnd) chunk a) → wpTextT P ops Q tk S (chunk ++ rest) a w
  | [], a, _, h => by have : a = aEnd := h w1 hS1; rw [this]; exact hr
  | o :: chunk, a, hp, h => by
    obtain ⟨h1, h2⟩ := (Bool.and_eq_true _ _).mp hp
    have h2 := of_decide_eq_true h2
    rw [List.map_cons, List.nodup_cons] at h2
    have h1' := List.all_eq_true.1 h1
    have ho := h1' o (by simp)
    simp only [Bool.and_eq_true] at ho
    obtain ⟨⟨ho1, ho2⟩, ho3⟩ := ho
    have hpart : partBT tk chunk a.tmps.size = true := by
      unfold partBT
      rw [Bool.and_eq_true]
      exact ⟨List.all_eq_true.2 fun o' ho' => h1' o' (by simp [ho']), decide_eq_true h2.2⟩
    show wpTextT P ops Q tk S (o :: (chunk ++ rest)) a w
    by_cases hw : Region.wanted o (yielded ops a.tmps) = true
    · cases hd : o.dst with
      | none => rw [hd] at ho3; simp at ho3
      | some d =>
        rw [hd] at ho3
        have hdlt : d < a.tmps.size := of_decide_eq_true ho3
        -- the value is what the frame holds at the end
        have key : ∀ W, S W → ∃ v, (execOp a.eval o).run P W = .ok (.value v) W ∧ aEnd.tmps[d]? = some v ∧ wpQuiet P ops (fun w' => ∃ n, w' = W.drewN n) (fun a' => a' = aEnd) chunk (a.put o.dst v) := fun W hW => by
          have hq := h W hW
          unfold wpQuiet at hq
          rw [if_pos hw] at hq
          obtain ⟨v, hv, hq2⟩ := hq
          have hv0 := hv W ⟨0, rfl⟩
          unfold Oper.quietAt at hv0
          cases hr : (execOp a.eval o).run P W with
          | halt x w' => rw [hr] at hv0; exact hv0.elim
          | ok n w' =>
            obtain ⟨u, rfl⟩ := read_value ho1 W n w' hr
            rw [hr] at hv0
            obtain ⟨hw', hu⟩ := hv0
            subst hu
            refine ⟨u, by rw [hw'], ?_, hq2⟩
            have := quiet_other W aEnd d chunk (a.put o.dst u) (fun o' ho' e => h2.1 (by rw [hd, ← e]; exact List.mem_map_of_mem ho')) hq2
            rw [← this, hd]
            exact put_same hdlt
        obtain ⟨v, -, hv, -⟩ := key w1 hS1
        refine textT_take (v := v) hw ho2 (fun W hW => ?_) ?_
        · obtain ⟨v', h3, h4, -⟩ := key W hW
          rw [hv] at h4
          cases h4
          exact h3
        · refine textT_chunk_aux aEnd rest w w1 hS1 hr chunk _ (by rw [put_size]; exact hpart) fun W hW => ?_
          obtain ⟨v', h3, h4, h5⟩ := key W hW
          rw [hv] at h4
          cases h4
          exact h5
    · have hw' : Region.wanted o (yielded ops a.tmps) = false := by simpa using hw
      refine textT_skip hw' (textT_chunk_aux aEnd rest w w1 hS1 hr chunk _ (by rw [put_size]; exact hpart) fun W hW => ?_)
      have hq := h W hW
      unfold wpQuiet at hq
      rw [if_neg hw] at hq
      exact hq
/-- Several operations at once. -/
theorem textT_chunk (n : Nat) {l : List Oper} {a aEnd : Act} {w : World} (hp : partBT tk (l.take n) a.tmps.size = true) (hS : S w) (h : ∀ W, S W → wpQuiet P ops (fun w' => ∃ n, w' = W.drewN n) (fun a' => a' = aEnd) (l.take n) a) (hr : wpTextT P ops Q tk S (l.drop n) aEnd w) : wpTextT P ops Q tk S l a w := by
  have := textT_chunk_aux aEnd (l.drop n) w w hS hr (l.take n) a hp h
  rwa [List.take_append_drop] at this
theorem wpIn_round_orderT {n l : Nat} {id : Nat} (S : World → Prop) (ord : List Nat) (hm : P.follows .mixedOrders = true) (hd : noDefer ops = true) (hb : orderBT tk .any ops ord = true) (hS : S w.drew) (h : S w.drew → wpTextT P ops (NoPO Q) tk S (opsIn ops ord) a w.drew) : (Code.region id ops true).wpIn (Fence.wide.inRound l) n P Q a w := by
  simp only [orderBT, Bool.and_eq_true] at hb
  obtain ⟨⟨⟨h1, h2⟩, h3⟩, h4⟩ := hb
  have := order_anyT h1 h2 (fun _ _ _ _ _ h => h.elim) ord S [] a w.drew h4 (fun k hk => by cases hk) hS (h hS)
  rw [lst_nil, Nat.eq_of_beq_eq_true h3] at this
  exact wpIn_region_any hm (any_round hd _ _ _ _ (wpAny_of_held _ _ _ _ this))
theorem textT_doneO (h : Q .normal a w) : wpTextT P ops (NoPO Q) tk S [] a w := h
end
/-- All that yields a value, but what writes these slots. -/
def takeBut (ds : List Nat) (o : Oper) : Bool := takeB o && !(ds.any fun d => match o.dst with | some e => Nat.beq d e | none => false)
end Go.Proofs.Ytcgheakadfjofaa
namespace Go.Proofs.Ytcgheakadfjofaa
open Go.RowKit Go.Shelf
set_option linter.unusedVariables false
set_option linter.unusedSimpArgs false
attribute [local go_sem] Oper.semAt_some
/-- The marks of loops that have ended. -/
def Marks (base : Nat) (ds : List Deferred) (W : World) : Prop :=
  ∃ Ds : List Nat, ds = Ds.map (fun D => { target := .collected D, args := #[] }) ∧ Ds.Nodup ∧ ∀ D ∈ Ds, base ≤ D ∧ W.heap[D]? = some (.deferred (some []))
theorem Marks.nil (base : Nat) (W : World) : Marks base [] W := ⟨[], rfl, List.nodup_nil, fun D h => by cases h⟩
theorem marks_leave {F : Fence} {n : Nat} {P : Program} {fn : Func} {tmps : Array Value} {R : Ending → World → Prop} {base : Nat} : ∀ (ds : List Deferred) (u : FrameMode) (W : World), u ≠ .run → base ≤ W.heap.size → Marks base ds W →
    (∀ W', Below base W W' → LeavesInM F n P fn tmps R [] u W') → LeavesInM F n P fn tmps R ds u W
  | [], u, W, hu, hb, hm, h => h W (Below.refl _ _)
  | d :: ds, u, W, hu, hb, ⟨Ds, e, hnd, hD⟩, h => by
    cases Ds with
    | nil => cases e
    | cons D Ds =>
      cases e
      obtain ⟨h1, h2⟩ := hD D (by simp)
      have hnd' := List.nodup_cons.1 hnd
      have hbel : Below base W (W.putObj D (.deferred none)) := ⟨rfl, rfl, rfl, by simp [World.putObj], fun k hk => World.putObj_heap_other (fun e => by omega)⟩
      refine ⟨hu, .inl ⟨D, _, rfl, run_takeDeferred h2, marks_leave _ u _ hu (by have := hbel.size; omega) ⟨Ds, rfl, hnd'.2, fun D' hD' => ?_⟩ (fun W' hW' => h W' (hbel.trans hW'))⟩⟩
      obtain ⟨h3, h4⟩ := hD D' (by simp [hD'])
      refine ⟨h3, ?_⟩
      rw [World.putObj_heap_other (fun e => hnd'.1 (by rw [← e]; exact hD'))]
      exact h4
/-- A mark more: the block is none of the elder marks' blocks, for it is a new one. -/
theorem Marks.cons {base : Nat} {ds : List Deferred} {W W' : World} {D : Nat} (h : Marks base ds W) (hD : W.heap.size ≤ D) (hb : base ≤ W.heap.size) (hk : W'.heap[D]? = some (.deferred (some []))) (hs : ∀ E, E < W.heap.size → W.heap[E]? = some (.deferred (some [])) → W'.heap[E]? = some (.deferred (some []))) :
    Marks base ({ target := .collected D, args := #[] } :: ds) W' := by
  obtain ⟨Ds, rfl, hnd, hDs⟩ := h
  have hlt : ∀ E ∈ Ds, E < W.heap.size := fun E hE => (Array.getElem?_eq_some_iff.1 (hDs E hE).2).1
  refine ⟨D :: Ds, rfl, List.nodup_cons.2 ⟨fun hm => by have := hlt D hm; omega, hnd⟩, fun E hE => ?_⟩
  rcases List.mem_cons.1 hE with rfl | hE
  · exact ⟨by omega, hk⟩
  · exact ⟨(hDs E hE).1, hs E (hlt E hE) (hDs E hE).2⟩
theorem Marks.ext {base : Nat} {ds : List Deferred} {W W' : World} (h : Marks base ds W) (hE : Ext W W') : Marks base ds W' := by
  obtain ⟨Ds, h1, h2, h3⟩ := h
  exact ⟨Ds, h1, h2, fun D hD => ⟨(h3 D hD).1, (hE.block D (Array.getElem?_eq_some_iff.1 (h3 D hD).2).1).trans (h3 D hD).2⟩⟩
def KeepsDef (A B : World) : Prop := A.heap.size ≤ B.heap.size ∧ ∀ E, E < A.heap.size → A.heap[E]? = some (.deferred (some [])) → B.heap[E]? = some (.deferred (some []))
theorem KeepsDef.refl (A : World) : KeepsDef A A := ⟨Nat.le_refl _, fun _ _ h => h⟩
theorem KeepsDef.trans {A B C : World} (h : KeepsDef A B) (k : KeepsDef B C) : KeepsDef A C := ⟨Nat.le_trans h.1 k.1, fun E hE hh => k.2 E (Nat.lt_of_lt_of_le hE h.1) (h.2 E hE hh)⟩
theorem KeepsDef.others {A B : World} (h : KeepsOthers A B) : KeepsDef A B := ⟨h.size, fun E _ hE => h.same E _ hE rfl⟩
theorem KeepsDef.turn {W0 A B : World} (h : KeepsDef W0 A) {base : Nat} (hb : W0.heap.size ≤ base) {row : Option Nat} (hg : A.grownBy B row) (hr : ∀ r, row = some r → base ≤ r ∧ ∃ o : Obj, A.heap[r]? = some o ∧ o.isCells = false) : KeepsDef W0 B :=
  ⟨Nat.le_trans h.1 hg.size, fun E hE hh => (hg.block E (Nat.lt_of_lt_of_le hE h.1) (fun e => by have := (hr E e.symm).1; omega)).trans (h.2 E hE hh)⟩
/-- The fold of the program's count over the parts. -/
def cStep (M : Int) (c : Nat → Int) (m : Int) (p : Nat × Int) : Int := if M < m + c p.1 then M else m + c p.1
def cAcc (M : Int) (f : Nat → Nat → Int) (n i : Nat) (c : Nat → Int) (ps : List (Nat × Int)) : Int := (ps.filter (bestB f n i)).foldl (cStep M c) 0
theorem cAcc_snoc (M : Int) (f : Nat → Nat → Int) (n i : Nat) (c : Nat → Int) (ps : List (Nat × Int)) (p : Nat × Int) : cAcc M f n i c (ps ++ [p]) = if bestB f n i p = true then cStep M c (cAcc M f n i c ps) p else cAcc M f n i c ps := by
  unfold cAcc
  rw [List.filter_append, List.foldl_append]
  by_cases h : bestB f n i p = true
  · rw [if_pos h]; simp [h]
  · rw [if_neg h]; simp [h]
theorem cAcc_bd {M : Int} (hM : 0 ≤ M) {f : Nat → Nat → Int} {n i : Nat} {c : Nat → Int} (hc : ∀ j, 0 ≤ c j) (ps : List (Nat × Int)) : 0 ≤ cAcc M f n i c ps ∧ cAcc M f n i c ps ≤ M := by
  have : ∀ (l : List (Nat × Int)) (m : Int), 0 ≤ m → m ≤ M → 0 ≤ l.foldl (cStep M c) m ∧ l.foldl (cStep M c) m ≤ M := by
    intro l
    induction l with
    | nil => intro m h1 h2; exact ⟨h1, h2⟩
    | cons p l ih =>
      intro m h1 h2
      have := hc p.1
      refine ih _ ?_ ?_ <;> unfold cStep <;> split <;> omega
  exact this _ 0 (Int.le_refl _) hM
theorem cAcc_all {M : Int} (hM : 0 < M) {f : Nat → Nat → Int} {n i : Nat} (h : i < n) : cAcc M f n i (cntV M f allB n) (partsL f n i) = cntV M f allB n i := by
  have hst : ∀ m p, cStep M (cntV M f allB n) m p = min M (m + cntV M f allB n p.1) := fun m p => by unfold cStep; split <;> omega
  have hb := cntV_bd hM (f := f) (lt := allB) (n := n) (i + 1)
  rw [cntV_step h]
  unfold cAcc partsL
  rw [if_pos h, List.filter_cons]
  have hL : ∀ m : Int, (((logsT f allB n i).map fun j => (j, f i j)).filter (bestB f n i)).foldl (cStep M (cntV M f allB n)) m = ((logsT f allB n i).filter fun j => decide (f i j + bst f allB n j = bst f allB n i)).foldl (fun m j => min M (m + cntV M f allB n j)) m := fun m => by
    rw [filter_map_comm, foldl_map']
    have e : (fun c x => cStep M (cntV M f allB n) c (x, f i x)) = fun m j => min M (m + cntV M f allB n j) := by funext m j; exact hst m _
    rw [e]; rfl
  by_cases h0 : bst f allB n i = bst f allB n (i + 1)
  · have e : bestB f n i (i + 1, 0) = true := decide_eq_true (by rw [h0]; simp)
    have hb1 := hb.1; have hb2 := hb.2.1
    rw [if_pos e, if_pos h0, List.foldl_cons, hL, hst]
    dsimp only
    congr 1; omega
  · have e : bestB f n i (i + 1, 0) = false := decide_eq_false (by simp; exact fun h => h0 h.symm)
    rw [if_neg (by rw [e]; simp), if_neg h0, hL]
def Fr67 (b B B4 : Nat) (ds : List Deferred) (A : Act) : Prop :=
  ∃ x2 x5 x6 x7 x8 x9 x10 x11 x12 x13 x14 x15 x16 x17 x18 x19 x20 x21 x22 x23 x24 x25 x26 x27 x28 x29 x30 x31 x32 x33 x34 x35 x36 x37 x38 x39 x40 x41 x42 x43 x44 x45 x46 : Value, A = { tmps := #[.pointer (some ⟨b, 0, none⟩), .pointer (some ⟨B, 0, none⟩), x2, .pointer (some ⟨B + 1, 0, none⟩), .pointer (some ⟨B4, 0, none⟩), x5, x6, x7, x8, x9, x10, x11, x12, x13, x14, x15, x16, x17, x18, x19, x20, x21, x22, x23, x24, x25, x26, x27, x28, x29, x30, x31, x32, x33, x34, x35, x36, x37, x38, x39, x40, x41, x42, x43, x44, x45, x46], defers := ds }
theorem Fr67.mk {b B B4 : Nat} {ds : List Deferred} {x2 x5 x6 x7 x8 x9 x10 x11 x12 x13 x14 x15 x16 x17 x18 x19 x20 x21 x22 x23 x24 x25 x26 x27 x28 x29 x30 x31 x32 x33 x34 x35 x36 x37 x38 x39 x40 x41 x42 x43 x44 x45 x46 : Value} : Fr67 b B B4 ds { tmps := #[.pointer (some ⟨b, 0, none⟩), .pointer (some ⟨B, 0, none⟩), x2, .pointer (some ⟨B + 1, 0, none⟩), .pointer (some ⟨B4, 0, none⟩), x5, x6, x7, x8, x9, x10, x11, x12, x13, x14, x15, x16, x17, x18, x19, x20, x21, x22, x23, x24, x25, x26, x27, x28, x29, x30, x31, x32, x33, x34, x35, x36, x37, x38, x39, x40, x41, x42, x43, x44, x45, x46], defers := ds } := ⟨x2, x5, x6, x7, x8, x9, x10, x11, x12, x13, x14, x15, x16, x17, x18, x19, x20, x21, x22, x23, x24, x25, x26, x27, x28, x29, x30, x31, x32, x33, x34, x35, x36, x37, x38, x39, x40, x41, x42, x43, x44, x45, x46, rfl⟩
def slotB (A : Act) (i : Nat) : Nat := match A.tmps.getD i undef with | .pointer (some a) => a.block | _ => 0
def msr (A : Act) (W : World) : Nat := match (W.cell? ⟨slotB A 4, 0, none⟩) with | some (.int _ z) => (z + 1).toNat | _ => 0
theorem msr_of {A : Act} {W : World} {B : Nat} {k : Nat} (h : slotB A 4 = B) (hc : W.cell? ⟨B, 0, none⟩ = some (.int .i64 ((k : Int) - 1))) : msr A W = k := by
  unfold msr; rw [h, hc]; simp
theorem far {X : World} {b o b' o' : Nat} {v u : Value} (h : X.cell? ⟨b, o, none⟩ = some v) (hne : b' ≠ b) : (X.setCell ⟨b', o', none⟩ u).cell? ⟨b, o, none⟩ = some v := (World.cell?_setCell_far X ⟨b', o', none⟩ ⟨b, o, none⟩ u hne).trans h
theorem tab_turn {w₀ A B : World} {b : Nat} {xs : List Int} (h : TabOwn w₀ A b xs) {base : Nat} (hb : w₀.heap.size ≤ base) {row : Option Nat} (hg : A.grownBy B row) (hr : ∀ r, row = some r → base ≤ r ∧ ∃ o : Obj, A.heap[r]? = some o ∧ o.isCells = false) : TabOwn w₀ B b xs :=
  ⟨cells_turn h.blk hg hr, h.new, ⟨hg.os.trans h.ext0.os, hg.tape.trans h.ext0.tape, hg.output.trans h.ext0.output, Nat.le_trans h.ext0.size hg.size, fun i hi => (hg.block i (Nat.lt_of_lt_of_le hi h.ext0.size) (fun e => by have := (hr i e.symm).1; omega)).trans (h.ext0.block i hi)⟩⟩
def qC (M : Int) (f : Nat → Nat → Int) (n : Nat) (j : Nat) : Int := if j ≤ n then cntV M f allB n j else 0
theorem psK_len (q : Nat → Int) (k : Nat) : (psK q k).length = 61 := by simp [psK]
theorem psK_at (q : Nat → Int) (k : Nat) {i : Nat} (h : i < (psK q k).length) : (psK q k)[i] = if k ≤ i then q i else 0 := by simp [psK]
theorem boxed3 (w : World) (o o' o'' : Obj) : (((w.alloc o).alloc o').alloc o'').heap[w.heap.size + 1 + 1]? = some o'' := by
  have := heap_alloc_new ((w.alloc o).alloc o') o''
  simpa [World.size_alloc] using this
theorem boxed2 (w : World) (o o' o'' : Obj) : (((w.alloc o).alloc o').alloc o'').heap[w.heap.size + 1]? = some o' := by
  have := block_ext (Ext.alloc (Ext.refl _) o'') (heap_alloc_new (w.alloc o) o')
  simpa [World.size_alloc] using this
theorem zset_psK {M : Int} {f : Nat → Nat → Int} {n : Nat} (hn : n < 61) : zeros.set n 1 = psK (qC M f n) n := by
  apply List.ext_getElem
  · rw [List.length_set, psK_len]; unfold zeros; rw [List.length_replicate]
  · intro i h1 h2
    rw [List.getElem_set, psK_at]
    by_cases e : n = i
    · subst e; rw [if_pos rfl, if_pos (Nat.le_refl _)]; unfold qC; rw [if_pos (Nat.le_refl _), cntV_past (Nat.le_refl _)]
    · rw [if_neg e]
      have hz : ∀ (h : i < zeros.length), zeros[i] = 0 := fun h => by
        have h3 : zeros[i]? = some 0 := by unfold zeros at h ⊢; rw [List.length_replicate] at h; rw [List.getElem?_replicate_of_lt h]
        exact Option.some.inj ((List.getElem?_eq_getElem h).symm.trans h3)
      rw [hz]
      split
      · unfold qC; rw [if_neg (by omega)]
      · rfl
set_option maxRecDepth 100000 in
set_option maxHeartbeats 8000000 in
theorem count67 (n b : Nat) (vt vb : Value) (th bd : List Int) (r : Rl) (hv : Vw th bd r) (hn : th.length = n + 1) (w : World) (hy : YardAt w b vt vb th bd r (bestP th bd r)) :
    Calls Try.prog 67 #[.pointer (some ⟨b, 0, none⟩)] w fun e w' => e = .returned (.int .i64 (cntV 1099511627777 (sF th bd r) allB n 0)) ∧ Ext w w' := by
  refine (callsIn_wide (n := 10)).1 ?_
  obtain ⟨hl, a, cap, rfl⟩ := hy.th.shape
  obtain ⟨c0, -⟩ := hy.cells
  have hn61 := hv.most
  rw [hn] at c0 hl hn61 hy
  have c0u := fun (o o' : Obj) => cell_ext (Ext.alloc (Ext.alloc (Ext.refl w) o) o') c0
  have hw1 : IntKind.i64.wrap ((n : Int) + 1 - 1) = (n : Int) := by rw [show (n : Int) + 1 - 1 = n from by omega]; exact wrapi64 _ (by omega) (by omega)
  have hw2 : IntKind.i64.wrap ((n : Int) + 1 - 2) = (n : Int) - 1 := by rw [show (n : Int) + 1 - 2 = n - 1 from by omega]; exact wrapi64 _ (by omega) (by omega)
  have hn0 : (0 : Int) ≤ (n : Int) := by omega
  have hn1 : (n : Int) < 61 := by omega
  have hblt : b < w.heap.size := lt_of_cell c0
  have hz : (List.replicate 61 (Value.int .i64 0))[n]? = some (.int .i64 0) := by rw [List.getElem?_replicate_of_lt (by omega)]
  simp only [List.replicate] at hz
  have c0s := fun (o o' : Obj) (v : Value) => ((World.cell?_setCell_far ((w.alloc o).alloc o') ⟨w.heap.size + 1, n, none⟩ ⟨b, 0, none⟩ v (by show w.heap.size + 1 ≠ b; omega)).trans (c0u o o'))
  have HN := Lib.hid hn; have HY := Lib.hid hy; have HV := Lib.hid hv
  have HFB := Lib.hid (show ∀ i p, p ∈ partsL (sF th bd r) n i → p.1 < 61 ∧ 0 ≤ p.2 ∧ p.2 ≤ 1099511627776 from fun i p hp => part_bd hv hp hn)
  have HPB := Lib.hid (show ∀ j, 0 ≤ (bestP th bd r).getD j 0 ∧ (bestP th bd r).getD j 0 ≤ 1099511627776 from fun j => by
    unfold bestP
    exact psK_bd _ 1099511627776 (by omega) (fun j => by have := bst_M hv (n := th.length - 1) (by omega) allB j; omega) 0 j)
  obtain ⟨M, hM⟩ : ∃ M : Int, M = 1099511627777 := ⟨_, rfl⟩
  rw [← hM]
  have hM0 : 0 < M := by omega
  obtain ⟨F, hF⟩ : ∃ F, F = sF th bd r := ⟨_, rfl⟩
  rw [← hF] at HFB ⊢
  have HZ := Lib.hid (zset_psK (M := M) (f := F) (show n < 61 by omega))
  have hq0 : cntV M F allB n 0 = qC M F n 0 := by unfold qC; rw [if_pos (Nat.zero_le _)]
  have hqb := fun j => (show 0 ≤ qC M F n j ∧ qC M F n j ≤ M from by
    have h1 := (cntV_bd hM0 (f := F) (lt := allB) (n := n) j).1
    have h2 := (cntV_bd hM0 (f := F) (lt := allB) (n := n) j).2.1
    unfold qC; split <;> omega)
  have hca := fun i (h : i < n) => (show cAcc M F n i (qC M F n) (partsL F n i) = qC M F n i from by
    have h1 := cAcc_all hM0 (f := F) h
    have h2 : cAcc M F n i (qC M F n) (partsL F n i) = cAcc M F n i (cntV M F allB n) (partsL F n i) := by
      unfold cAcc
      refine foldl_congr_mem _ _ fun p hp m => ?_
      have := (mem_parts_gt (List.mem_filter.1 hp).1).2
      unfold cStep qC
      rw [if_pos this]
    rw [h2, h1]; unfold qC; rw [if_pos (by omega)])
  rw [hq0]
  obtain ⟨q, hq⟩ : ∃ q, q = qC M F n := ⟨_, rfl⟩
  rw [← hq] at HZ hqb hca ⊢
  have HQB := Lib.hid hqb; have HCA := Lib.hid hca; have HMM := Lib.hid hM; have HF := Lib.hid hF
  have HCB := Lib.hid (fun i l => cAcc_bd (Int.le_of_lt hM0) (f := F) (n := n) (i := i) (c := q) (fun j => (hqb j).1) l)
  obtain ⟨W1, hW1⟩ : ∃ W1, W1 = w.alloc (.cells #[.pointer (some ⟨b, 0, none⟩)] 75) := ⟨_, rfl⟩
  have hs1 : W1.heap.size = w.heap.size + 1 := by rw [hW1]; simp
  have E1 := Lib.hid (show Ext w W1 from by rw [hW1]; exact Ext.alloc (Ext.refl w) _)
  have HB1 := Lib.hid (show Boxed W1 w.heap.size 75 (.pointer (some ⟨b, 0, none⟩)) from by rw [hW1]; exact heap_alloc_new _ _)
  have HW1 := Lib.hid hW1
  have HS1 := Lib.hid hs1
  clear hM hM0 hF hq0 hqb hca hq hn hy hv hW1
  refine callsIn_of_wp_marks Try.func67 rfl trivial ?_ rfl
  simp only [Try.ntmps67, List.size_toArray, List.length_cons, List.length_nil, Nat.reduceAdd, Nat.reduceSub, Array.replicate_succ, Array.replicate_zero, List.push_toArray, List.append_toArray, List.nil_append, List.cons_append]
  gi_wp2
  clear c0u c0s hz c0
  refine wpIn_loop (fun A W => ∃ (k : Nat) (ds : List Deferred) (B4 : Nat), k ≤ n ∧ Fr67 b w.heap.size B4 ds A ∧ slotB A 4 = B4 ∧ Hid (TabOwn W1 W (w.heap.size + 1) (psK q k)) ∧ Hid (Boxed W B4 3 (.int .i64 ((k : Int) - 1))) ∧ w.heap.size + 1 < B4 ∧ Hid (Marks (w.heap.size + 1) ds W))
    (fun A W => msr A W) ?start ?round
  case start =>
    refine ⟨n, [], _, Nat.le_refl _, Fr67.mk, rfl, Lib.hid ⟨?_, by rw [HS1.out]; exact Nat.le_refl _, ?_⟩, Lib.hid ?_, by omega, Lib.hid (Marks.nil _ _)⟩
    · rw [← HZ.out, List.map_set]; exact boxed2 _ _ _ _
    · rw [HW1.out]; exact Ext.alloc (Ext.alloc (Ext.refl _) _) _
    · exact boxed3 _ _ _ _
  case round =>
    rintro A W ⟨k, ds, B4, hk, ⟨x2, x5, x6, x7, x8, x9, x10, x11, x12, x13, x14, x15, x16, x17, x18, x19, x20, x21, x22, x23, x24, x25, x26, x27, x28, x29, x30, x31, x32, x33, x34, x35, x36, x37, x38, x39, x40, x41, x42, x43, x44, x45, x46, rfl⟩, -, hT, hB4, hlB, hM⟩
    have hsz := hT.out.ext0.size
    by_cases hk0 : 1 ≤ k
    · obtain ⟨i, rfl⟩ : ∃ i, k = i + 1 := ⟨k - 1, by omega⟩
      have HB40 := Lib.hid hB4.out.cell
      rw [show (((i + 1 : Nat) : Int) - 1) = (i : Int) from by omega] at hB4
      have hi0 : (0 : Int) ≤ (i : Int) := by omega
      have hi61 : (i : Int) < 61 := by omega
      have hit : (i : Int).toNat = i := by omega
      have hiw : IntKind.i64.wrap ((i : Int) - 1) = (i : Int) - 1 := wrapi64 _ (by omega) (by omega)
      have b4 := hB4.out.cell
      have b1 := Boxed.cell (block_ext hT.out.ext0 HB1.out)
      gi_wp2_with fail
      refine ⟨trivial, (callsIn_wide.2 (parts80 b i _)).mono ?_⟩
      rintro e w2 ⟨rfl, rfl⟩
      gi_wp2
      have hE0 : Ext W ((W.alloc (.cells #[.pointer (some ⟨b, 0, none⟩)] 75)).alloc (.cells #[.int .i64 (i : Int)] 3)) := Ext.alloc (Ext.alloc (Ext.refl W) _) _
      have cBy : ((W.alloc (.cells #[.pointer (some ⟨b, 0, none⟩)] 75)).alloc (.cells #[.int .i64 (i : Int)] 3)).cell? ⟨W.heap.size, 0, none⟩ = some (.pointer (some ⟨b, 0, none⟩)) := cell_ext (Ext.alloc (Ext.refl _) _) (World.cell?_alloc_at _ _ _ _ rfl)
      have cBp : ((W.alloc (.cells #[.pointer (some ⟨b, 0, none⟩)] 75)).alloc (.cells #[.int .i64 (i : Int)] 3)).cell? ⟨W.heap.size + 1, 0, none⟩ = some (.int .i64 (i : Int)) := World.cell?_alloc_at _ _ _ _ (by simp)
      have hs0 : ((W.alloc (.cells #[.pointer (some ⟨b, 0, none⟩)] 75)).alloc (.cells #[.int .i64 (i : Int)] 3)).heap.size = W.heap.size + 2 := by simp
      obtain ⟨W0, hW0⟩ : ∃ W0, (W.alloc (.cells #[.pointer (some ⟨b, 0, none⟩)] 75)).alloc (.cells #[.int .i64 (i : Int)] 3) = W0 := ⟨_, rfl⟩
      rw [hW0] at hE0 cBy cBp hs0 ⊢
      clear hW0
      have hT0 := hT.out.ext hE0
      have hB0 : Boxed W0 B4 3 (.int .i64 (i : Int)) := block_ext hE0 hB4.out
      have hM0 := hM.out.ext hE0
      have hlt4 := hB0.lt
      have hs1 := HS1.out
      have hsw : W1.heap.size ≤ W.heap.size := hsz
      have hbw := hB4.out.lt
      refine wpIn_rangeFunc_ownH rfl (by omega) (gf := 90) (lb := #[.pointer (some ⟨W.heap.size + 1, 0, none⟩), .pointer (some ⟨W.heap.size, 0, none⟩)]) rfl trivial (enters_of Try.func90 (by kernel_rfl) rfl)
        (parts_stops F n 9 (W.heap.size + 1) W.heap.size b i _ vb th bd r _ [w.heap.size + 1] HV.out HF.out HN.out (by omega) W1 (HY.out.ext E1.out) W0 hT0.ext0 (fun r hr => by obtain rfl := List.mem_singleton.1 hr; omega) ⟨fun h => by have := List.mem_singleton.1 h; omega, fun h => by have := List.mem_singleton.1 h; omega⟩ (by omega) cBp cBy) KeepC.trans (fun W l o o' _ h1 h2 h3 => KeepC.put h1 h2) (Below.refl _ _) (fun _ => rfl)
        (fun pre W' => TabOwn W1 W' (w.heap.size + 1) ((psK q (i + 1)).set i (cAcc M F n i q (pv F n i pre))) ∧ (Boxed W' B4 3 (.int .i64 (i : Int)) ∧ KeepsDef W0 W'))
        (fun _ _ _ => False)
        ?hI (fun _ _ _ _ _ h _ _ => h) ⟨?h0, hB0, KeepsDef.refl _⟩
        (fun x a' W' => ∃ Bx, W0.heap.size ≤ Bx ∧ W'.heap[Bx]? = some (.cells #[.int .i64 (i : Int), .int .i64 (x.1.1 : Int), .int .i64 x.1.2] 110 (0, 0)) ∧ a' = { tmps := #[.pointer (some ⟨b, 0, none⟩), .pointer (some ⟨w.heap.size, 0, none⟩), x2, .pointer (some ⟨w.heap.size + 1, 0, none⟩), .pointer (some ⟨B4, 0, none⟩), .pointer (some ⟨Bx, 0, none⟩), x6, x7, x8, x9, x10, x11, x12, x13, x14, x15, x16, x17, x18, x19, x20, .int .i64 (i : Int), .bool true, x23, x24, .pointer (some ⟨b, 0, none⟩), .int .i64 (i : Int), .func (.func 90) #[] #[.pointer (some ⟨W.heap.size + 1, 0, none⟩), .pointer (some ⟨W.heap.size, 0, none⟩)], .agg #[.int .i64 (i : Int), .int .i64 (x.1.1 : Int), .int .i64 x.1.2], x29, x30, x31, x32, x33, x34, x35, x36, x37, x38, x39, x40, x41, x42, x43, x44, x45, x46], defers := [] })
        ?hAx ?assign ?body ?done ?stop
      case hI => exact OwnFrom.and (fun s A B row hs hg hr => tab_turn hs (by omega) hg hr) (OwnFrom.and (fun s A B row hs hg hr => boxed_turn hs hg hr) (fun s A B row hs hg hr => hs.turn (Nat.le_refl _) hg hr))
      case h0 =>
        have h1 : cAcc M F n i q (pv F n i []) = 0 := rfl
        have h2 : (psK q (i + 1)).set i 0 = psK q (i + 1) := by
          apply List.ext_getElem (by simp)
          intro j h3 h4
          rw [List.getElem_set]
          by_cases e : i = j
          · subst e; rw [if_pos rfl, psK_at, if_neg (by omega)]
          · rw [if_neg e]
        rw [h1, h2]; exact hT0
      case hAx => exact fun x a' s A B row hs hg hr => let ⟨Bx, h1, h2, h3⟩ := hs; ⟨Bx, h1, cells_turn h2 hg hr, h3⟩
      case assign =>
        rintro l pre x W' K ⟨h1, h2, h3⟩ hK
        dsimp only [encT]
        gi_wp2
        have hEA := (Ext.refl W').alloc (.cells #[.int .i64 (i : Int), .int .i64 (x.1.1 : Int), .int .i64 x.1.2] 110)
        exact hK _ _ ((KeepsOthers.alloc _ _).from _) (KeepC.ext hEA) ⟨h1.ext hEA, h2.alloc _, h3.trans (KeepsDef.others (KeepsOthers.alloc _ _))⟩ ⟨W'.heap.size, by have := h3.1; omega, heap_alloc_new _ _, rfl⟩
      case body =>
        rintro l pre x a' W' hlw ⟨rr, hrl⟩ ⟨h1, h2, h3⟩ ⟨Bx, hBx, bX, rfl⟩ hlt
        have hsnoc := cAcc_snoc M F n i q (pv F n i pre) x.1
        have hpv := pv_snoc F n i pre x
        have hcb := HCB.out i (pv F n i pre)
        obtain ⟨⟨j, y⟩, hx⟩ := x
        dsimp only at bX hsnoc hpv ⊢
        have HPV := Lib.hid hpv
        have hxb := HFB.out i (j, y) hx
        have hgt := mem_parts_gt hx
        dsimp only at hxb hgt
        have y81 := best81 b _ vb th bd r _ i j y W' ((HY.out.ext E1.out).ext h1.ext0) (by omega) hxb.1 hxb.2 (HPB.out _)
        rw [best_bool HN.out (by omega) hxb.1, ← HF.out] at y81
        have hqj := HQB.out j
        obtain ⟨ac, hac⟩ : ∃ ac, ac = cAcc M F n i q (pv F n i pre) := ⟨_, rfl⟩
        rw [← hac] at h1 hsnoc hcb
        have HT := Lib.hid h1; have HBb := Lib.hid h2; have HKD := Lib.hid h3; have HX := Lib.hid bX; have HRL := Lib.hid hrl
        have b1 := Boxed.cell (block_ext h1.ext0 HB1.out)
        have p0 : W'.cell? ⟨Bx, 0, none⟩ = some (.int .i64 (i : Int)) := cell_of_blk bX rfl
        have p1 : W'.cell? ⟨Bx, 1, none⟩ = some (.int .i64 (j : Int)) := cell_of_blk bX rfl
        have p2 : W'.cell? ⟨Bx, 2, none⟩ = some (.int .i64 y) := cell_of_blk bX rfl
        have hbxl := (Array.getElem?_eq_some_iff.1 bX).1
        clear h1 h2 h3 bX hrl hpv hac
        cases hbb : bestB F n i (j, y)
        · rw [hbb] at y81 hsnoc
          have HSN := Lib.hid hsnoc
          have H81 := Lib.hid y81
          clear y81 hsnoc hbb
          gi_wp2_with fail
          refine ⟨trivial, (CallsIn.inRound l (callsIn_wide.2 H81.out)).mono ?_⟩
          rintro e X1 ⟨rfl, hb⟩
          have HEX := Lib.hid hb
          clear hb b1 p0 p1 p2
          gi_wp2
          refine ⟨(ext_keeps HEX.out).from _, KeepC.ext HEX.out, ⟨?_, block_ext HEX.out HBb.out, HKD.out.trans (KeepsDef.others (ext_keeps HEX.out))⟩⟩
          rw [HPV.out, HSN.out]; exact HT.out.ext HEX.out
        · rw [hbb] at y81 hsnoc
          have HSN := Lib.hid hsnoc
          have H81 := Lib.hid y81
          clear y81 hsnoc hbb
          gi_wp2_with fail
          refine ⟨trivial, (CallsIn.inRound l (callsIn_wide.2 H81.out)).mono ?_⟩
          rintro e X1 ⟨rfl, hb⟩
          have HT1 := Lib.hid (HT.out.ext hb)
          have hD := (Ext.refl X1).drew
          have HT2 := Lib.hid (HT1.out.ext hD)
          have HEX := Lib.hid hb
          have HEX2 := Lib.hid (Ext.trans hb hD)
          have r1 := cell_ext hb p1
          have b4x : Boxed X1 B4 3 (.int .i64 (i : Int)) := block_ext hb HBb.out
          have b4c := b4x.cell
          have hjl : (j : Int) < 61 := by omega
          have hj0 : (0 : Int) ≤ (j : Int) := by omega
          have hjt : (j : Int).toNat = j := by omega
          have ki := HT1.out.cell (k := i) (by rw [List.length_set, psK_len]; omega)
          have kj := HT1.out.cell (k := j) (by rw [List.length_set, psK_len]; omega)
          rw [set_getD (by rw [psK_len]; omega)] at ki
          rw [set_getD_ne (by omega), psK_get q (by omega) (by omega)] at kj
          have kf := HT1.out.free i
          obtain ⟨qj, hqjv⟩ : ∃ qj, qj = q j := ⟨_, rfl⟩
          rw [← hqjv] at kj hqj
          have HQJ := Lib.hid hqjv
          have hMv := HMM.out
          have hcw : IntKind.i64.wrap (ac + qj) = ac + qj := wrapi64 _ (by omega) (by omega)
          have d1 := cell_ext hD r1
          have d2 := cell_ext hD b4c
          have d3 := cell_ext hD ki
          have d4 := cell_ext hD kj
          have d5 := HT2.out.free i
          have KJ2 := Lib.hid (show ∀ v, (X1.drew.setCell ⟨w.heap.size + 1, i, none⟩ (.int .i64 v)).cell? ⟨w.heap.size + 1, j, none⟩ = some (.int .i64 qj) from fun v => by
            have h9 := (HT2.out.stored i v).cell (k := j) (by rw [List.length_set, List.length_set, psK_len]; omega)
            rw [set_getD_ne (by omega), set_getD_ne (by omega), psK_get q (by omega) (by omega), ← HQJ.out] at h9
            exact h9)
          have B4D := Lib.hid (show Boxed X1.drew B4 3 (.int .i64 (i : Int)) from block_ext hD b4x)
          clear hb b1 p0 p1 p2 hqjv b4x hMv
          have hsn0 := HSN.out
          have e2 : cStep M q ac (j, y) = if 1099511627777 < ac + qj then 1099511627777 else ac + qj := by
            unfold cStep; dsimp only; rw [← HQJ.out, HMM.out]
          rw [if_pos (by trivial), e2] at hsn0
          clear e2
          have HSN0 := Lib.hid hsn0
          clear hsn0
          by_cases hmn : 1099511627777 < ac + qj
          · have hve := HSN0.out
            rw [if_pos hmn] at hve
            have HVE := Lib.hid hve
            clear hve
            gi_wp2
            refine wpIn_round_orderT (tk := takeBut [35]) (fun X : World => X.cell? ⟨B4, 0, none⟩ = some (.int .i64 (i : Int)) ∧ X.cell? ⟨Bx, 1, none⟩ = some (.int .i64 (j : Int)) ∧ X.cell? ⟨w.heap.size + 1, j, none⟩ = some (.int .i64 qj)) [0, 1, 2, 4, 5, 6, 7, 8, 3, 9, 10, 11, 12] (by kernel_rfl) (by kernel_rfl) (by kernel_rfl) (by exact ⟨d2, d1, d4⟩) (fun hHeld => ?_)
            simp only [opsIn, List.filterMap_cons, List.filterMap_nil, List.getElem?_toArray, List.getElem?_cons_succ, List.getElem?_cons_zero]
            refine' textT_chunk 8 (by kernel_rfl) hHeld ?ck1 ?cr1
            case ck1 =>
              intro W hSw
              have hSW := hSw
              try dsimp only at hSW
              clear hSw
              simp only [List.take_succ_cons, List.take_zero, List.drop_succ_cons, List.drop_zero]
              repeat (go_big_quiet_step (fail))
              exact wpQuiet_nil rfl
            simp only [List.take_succ_cons, List.take_zero, List.drop_succ_cons, List.drop_zero]
            refine textT_call (by rfl) (by rfl) (fun K hK => ?_)
            go_simp
            all_goals (try (go_wp2_with fail))
            refine hK.out _ _ (by exact hHeld) (fun hHeld => ?_)
            clear hK K
            try simp only [Act.put, List.setIfInBounds_toArray, List.set_cons_zero, List.set_cons_succ]
            refine' textT_chunk 1 (by kernel_rfl) hHeld ?ck2 ?cr2
            case ck2 =>
              intro W hSw
              have hSW := hSw
              try dsimp only at hSW
              clear hSw
              simp only [List.take_succ_cons, List.take_zero, List.drop_succ_cons, List.drop_zero]
              repeat (go_big_quiet_step (fail))
              exact wpQuiet_nil rfl
            simp only [List.take_succ_cons, List.take_zero, List.drop_succ_cons, List.drop_zero]
            refine' textT_take (by rfl) (by rfl) ?ck3 ?cr3
            case ck3 => (intro W hSw; (try dsimp only at hSw); go_simp; all_goals with_reducible rfl)
            try simp only [Act.put, List.setIfInBounds_toArray, List.set_cons_zero, List.set_cons_succ]
            refine' textT_chunk 1 (by kernel_rfl) hHeld ?ck4 ?cr4
            case ck4 =>
              intro W hSw
              have hSW := hSw
              try dsimp only at hSW
              clear hSw
              simp only [List.take_succ_cons, List.take_zero, List.drop_succ_cons, List.drop_zero]
              repeat (go_big_quiet_step (fail))
              exact wpQuiet_nil rfl
            simp only [List.take_succ_cons, List.take_zero, List.drop_succ_cons, List.drop_zero]
            refine textT_call (by rfl) (by rfl) (fun K hK => ?_)
            go_simp
            all_goals (try (go_wp2_with fail))
            refine hK.out _ _ (by exact ⟨far hHeld.1 (by omega), far hHeld.2.1 (by omega), KJ2.out _⟩) (fun hHeld => ?_)
            clear hK K
            try simp only [Act.put, List.setIfInBounds_toArray, List.set_cons_zero, List.set_cons_succ]
            refine textT_doneO ?_
            clear hHeld
            have hst := HT2.out.stored i (1099511627777)
            rw [List.set_set] at hst
            have hb5 : Boxed (X1.drew.setCell ⟨w.heap.size + 1, i, none⟩ (.int .i64 (1099511627777))) B4 3 (.int .i64 (i : Int)) := (other_blk (grown_set X1.drew (w.heap.size + 1) i (.int .i64 (1099511627777))) (by omega) (Boxed.lt B4D.out)).trans B4D.out
            have HST := Lib.hid hst; have HB5 := Lib.hid hb5
            clear hst hb5
            refine ⟨((ext_keeps HEX2.out).trans (KeepsOthers.setCell X1.drew ⟨w.heap.size + 1, i, none⟩ (.int .i64 (1099511627777)))).from _, (KeepC.ext HEX2.out).trans (KeepC.set X1.drew (by simp) (.int .i64 (1099511627777))), ⟨?_, HB5.out, (HKD.out.trans (KeepsDef.others (ext_keeps HEX2.out))).trans (KeepsDef.others (KeepsOthers.setCell X1.drew ⟨w.heap.size + 1, i, none⟩ (.int .i64 (1099511627777))))⟩⟩
            rw [HPV.out, HVE.out]
            exact HST.out
          · have hve := HSN0.out
            rw [if_neg hmn] at hve
            have HVE := Lib.hid hve
            clear hve
            gi_wp2
            refine wpIn_round_orderT (tk := takeBut [35]) (fun X : World => X.cell? ⟨B4, 0, none⟩ = some (.int .i64 (i : Int)) ∧ X.cell? ⟨Bx, 1, none⟩ = some (.int .i64 (j : Int)) ∧ X.cell? ⟨w.heap.size + 1, j, none⟩ = some (.int .i64 qj)) [0, 1, 2, 4, 5, 6, 7, 8, 3, 9, 10, 11, 12] (by kernel_rfl) (by kernel_rfl) (by kernel_rfl) (by exact ⟨d2, d1, d4⟩) (fun hHeld => ?_)
            simp only [opsIn, List.filterMap_cons, List.filterMap_nil, List.getElem?_toArray, List.getElem?_cons_succ, List.getElem?_cons_zero]
            refine' textT_chunk 8 (by kernel_rfl) hHeld ?ck5 ?cr5
            case ck5 =>
              intro W hSw
              have hSW := hSw
              try dsimp only at hSW
              clear hSw
              simp only [List.take_succ_cons, List.take_zero, List.drop_succ_cons, List.drop_zero]
              repeat (go_big_quiet_step (fail))
              exact wpQuiet_nil rfl
            simp only [List.take_succ_cons, List.take_zero, List.drop_succ_cons, List.drop_zero]
            refine textT_call (by rfl) (by rfl) (fun K hK => ?_)
            go_simp
            all_goals (try (go_wp2_with fail))
            refine hK.out _ _ (by exact hHeld) (fun hHeld => ?_)
            clear hK K
            try simp only [Act.put, List.setIfInBounds_toArray, List.set_cons_zero, List.set_cons_succ]
            refine' textT_chunk 1 (by kernel_rfl) hHeld ?ck6 ?cr6
            case ck6 =>
              intro W hSw
              have hSW := hSw
              try dsimp only at hSW
              clear hSw
              simp only [List.take_succ_cons, List.take_zero, List.drop_succ_cons, List.drop_zero]
              repeat (go_big_quiet_step (fail))
              exact wpQuiet_nil rfl
            simp only [List.take_succ_cons, List.take_zero, List.drop_succ_cons, List.drop_zero]
            refine' textT_take (by rfl) (by rfl) ?ck7 ?cr7
            case ck7 => (intro W hSw; (try dsimp only at hSw); go_simp; all_goals with_reducible rfl)
            try simp only [Act.put, List.setIfInBounds_toArray, List.set_cons_zero, List.set_cons_succ]
            refine' textT_chunk 1 (by kernel_rfl) hHeld ?ck8 ?cr8
            case ck8 =>
              intro W hSw
              have hSW := hSw
              try dsimp only at hSW
              clear hSw
              simp only [List.take_succ_cons, List.take_zero, List.drop_succ_cons, List.drop_zero]
              repeat (go_big_quiet_step (fail))
              exact wpQuiet_nil rfl
            simp only [List.take_succ_cons, List.take_zero, List.drop_succ_cons, List.drop_zero]
            refine textT_call (by rfl) (by rfl) (fun K hK => ?_)
            go_simp
            all_goals (try (go_wp2_with fail))
            refine hK.out _ _ (by exact ⟨far hHeld.1 (by omega), far hHeld.2.1 (by omega), KJ2.out _⟩) (fun hHeld => ?_)
            clear hK K
            try simp only [Act.put, List.setIfInBounds_toArray, List.set_cons_zero, List.set_cons_succ]
            refine textT_doneO ?_
            clear hHeld
            have hst := HT2.out.stored i (ac + qj)
            rw [List.set_set] at hst
            have hb5 : Boxed (X1.drew.setCell ⟨w.heap.size + 1, i, none⟩ (.int .i64 (ac + qj))) B4 3 (.int .i64 (i : Int)) := (other_blk (grown_set X1.drew (w.heap.size + 1) i (.int .i64 (ac + qj))) (by omega) (Boxed.lt B4D.out)).trans B4D.out
            have HST := Lib.hid hst; have HB5 := Lib.hid hb5
            clear hst hb5
            refine ⟨((ext_keeps HEX2.out).trans (KeepsOthers.setCell X1.drew ⟨w.heap.size + 1, i, none⟩ (.int .i64 (ac + qj)))).from _, (KeepC.ext HEX2.out).trans (KeepC.set X1.drew (by simp) (.int .i64 (ac + qj))), ⟨?_, HB5.out, (HKD.out.trans (KeepsDef.others (ext_keeps HEX2.out))).trans (KeepsDef.others (KeepsOthers.setCell X1.drew ⟨w.heap.size + 1, i, none⟩ (.int .i64 (ac + qj))))⟩⟩
            rw [HPV.out, HVE.out]
            exact HST.out
      case done =>
        rintro D ys W' hD hS ⟨h1, h2, h3⟩ hDW
        have hfin := HCA.out i (by omega)
        rw [show pv F n i ys = partsL F n i from hS, hfin, psK_set q (by omega)] at h1
        have hM2 := Marks.cons hM0 hD (by omega) hDW h3.2
        have HT2 := Lib.hid h1; have HM2 := Lib.hid hM2
        have b4 := h2.cell
        have HB2 := Lib.hid h2
        clear h1 hM2 hDW hM0 hT0 hB0 cBy cBp hT hB4 hM hfin
        have hs3 := h3.1
        clear h3
        gi_wp2
        have hEA := (Ext.refl W').alloc (.cells #[.int .i64 ((i : Int) - 1)] 3)
        refine ⟨⟨i, _, W'.heap.size, by omega, Fr67.mk, rfl, Lib.hid (HT2.out.ext hEA), Lib.hid (heap_alloc_new _ _), by omega, Lib.hid (HM2.out.ext hEA)⟩, ?_⟩
        rw [msr_of (B := W'.heap.size) (k := i) rfl (World.cell?_alloc_at _ _ _ _ rfl), msr_of (B := B4) (k := i + 1) rfl HB40.out]
        omega
      case stop =>
        rintro D c pre W _ _ h _
        exact h.elim
    · obtain rfl : k = 0 := by omega
      have b4 := hB4.out.cell
      have k0 := hT.out.cell (k := 0) (by rw [psK_len]; omega)
      rw [psK_get q (Nat.le_refl _) (by omega)] at k0
      obtain ⟨z, hz⟩ : ∃ z, z = q 0 := ⟨_, rfl⟩
      rw [← hz] at k0
      have HZ0 := Lib.hid hz
      clear hz
      have hs1 := HS1.out
      have HE2 := Lib.hid (E1.out.trans hT.out.ext0)
      gi_wp2
      refine marks_leave _ _ _ (by simp) (by omega) hM.out (fun W' hW' => ?_)
      refine ⟨_, results_tmp rfl _ _ _, by rw [← HZ0.out]; rfl, ?_⟩
      exact Below.trans HE2.out (hW'.mono (by omega))
end Go.Proofs.Ytcgheakadfjofaa
