/- Pieces of longest: what can end a run, a run that is begun or gone on with, the list of runs. longest, by its contract. longest, by its contract. -/
import Derived.Test.YtclcippfodjfeaaN11
import Derived.Test.YtclcippfodjfeaaN4
import Derived.Test.YtclcippfodjfeaaT3
import Derived.Test.YtclcippfodjfeaaN6
namespace Go.Proofs.Ytclcippfodjfeaa
open Go.RowKit Go.Shelf
set_option linter.unusedVariables false
set_option linter.unusedSimpArgs false
attribute [local go_sem] Oper.semAt_some
/-- The best run that ends with a log. -/
def endR (row : List Int) (i : Nat) : List Nat := endM row i (runsTo row i)
theorem runs_map (row : List Int) (k : Nat) : runsTo row k = (List.range k).map (endR row) := by
  apply List.ext_getElem?
  intro i
  by_cases h : i < k
  · rw [runs_get h, List.getElem?_map, List.getElem?_range h]; rfl
  · rw [List.getElem?_eq_none (by rw [runs_len]; omega), List.getElem?_eq_none (by simp; omega)]
theorem endR_last (row : List Int) (i : Nat) : ∃ q, endR row i = q ++ [i] := ⟨_, rfl⟩
theorem runs_filter (row : List Int) (k : Nat) (p : List Nat → Bool) : (runsTo row k).filter p = ((List.range k).filter fun i => p (endR row i)).map (endR row) := by
  rw [runs_map, List.filter_map]; rfl
set_option maxRecDepth 100000 in
theorem end69 (Bl Bg : Nat) (v vq : Value) (row : List Int) (i k : Nat) (w : World) (hr : Reads w v row) (hq : Reads w vq (natI (endR row i))) (hi : i < row.length) (hk : k < row.length) (hl : w.cell? ⟨Bl, 0, none⟩ = some v) (hg : w.cell? ⟨Bg, 0, none⟩ = some (.int .i64 (k : Int))) :
    Calls Try.prog 69 #[vq, .pointer (some ⟨Bl, 0, none⟩), .pointer (some ⟨Bg, 0, none⟩)] w fun e w' => e = .returned (.bool (canEnd row k (endR row i))) ∧ Ext w w' := by
  obtain ⟨q, hq2⟩ := endR_last row i
  have hca : canEnd row k (endR row i) = decide (rAt row k < rAt row i) := by unfold canEnd; rw [hq2, lastR_snoc]
  have H70 := Lib.hid (canEnd70 v vq row (natI (endR row i)) q.length k i w hr hq (by rw [hq2]; simp [natI]) hk hi (by rw [hq2]; simp [natI, tAt]))
  obtain ⟨hl1, a, cap, rfl⟩ := hr.shape
  obtain ⟨hl2, aq, capq, rfl⟩ := hq.shape
  rw [hca]
  obtain ⟨n, hn⟩ : ∃ n, n = row.length := ⟨_, rfl⟩
  obtain ⟨nq, hnq⟩ : ∃ n, n = (natI (endR row i)).length := ⟨_, rfl⟩
  rw [← hn] at hl H70
  rw [← hnq] at H70 ⊢
  clear hq2 hca hr hq hn hnq hl1 hl2
  go_enter Try.func69, Try.ntmps69
  go_wp2_with fail
  refine H70.out.mono ?_
  rintro e w1 ⟨rfl, hb⟩
  have HB := Lib.hid hb; clear hb
  go_wp2
  go_ret
  exact ⟨rfl, HB.out⟩
/-- A number behind a list whose slice is full: a new list. -/
theorem append_new (w : World) (a : Option Addr) (xs : List Int) (n cap : Nat) (x : Int) (h : Reads w (.slice a n cap) xs) (b : Nat) (hx : w.cell? ⟨b, 0, none⟩ = some (.int .i64 x)) (ty : TypeId) :
    ∃ v' w', (Builtin.append_ #[23, 23] ty #[.slice a n n, .slice (some ⟨b, 0, none⟩) 1 1]).run Try.prog w = .ok v' w' ∧ OwnI 3 w.heap.size w' v' (xs ++ [x]) ∧ Ext w w' := by
  have hn := h.len
  obtain ⟨hl, a', cap', e, -, hc⟩ := h
  cases e
  rcases hc with rfl | ⟨b0, off, rfl, hcell⟩
  · cases a with
    | none => exact appendI_run w w.heap.size [] x (.slice none 0 0) (OwnI.nil _ _ _) (Nat.le_refl _) (by simp) b hx ty
    | some ad =>
      obtain ⟨i0, hi0, hz0, hz1, hz2⟩ := info_parts Try.info3
      obtain ⟨v', w', hrun, h1, h2⟩ := run_append_arg_grows (P := Try.prog) (w := w) 23 ty 3 i0 (.int .i64 0) 1 8 Try.underlying23 hi0 hz0 hz1 hz2 rfl (by decide) ad 0 0 [] rfl (fun j u hj => by simp at hj) ⟨b, 0, none⟩ 1 1 [.int .i64 x] rfl (fun j u hj => by
        match j, hj with
        | 0, hj => simp at hj; subst hj; rw [addr_add]; exact hx) (by omega) (by unfold maxLen; omega) (by omega)
      refine ⟨v', w', hrun, ?_, ⟨h2.os, h2.tape, h2.output, h2.size, fun k hk => h2.block k hk (fun e => by cases e)⟩⟩
      unfold OwnI; simpa using h1
  · obtain ⟨i0, hi0, hz0, hz1, hz2⟩ := info_parts Try.info3
    obtain ⟨v', w', hrun, h1, h2⟩ := run_append_arg_grows (P := Try.prog) (w := w) 23 ty 3 i0 (.int .i64 0) 1 8 Try.underlying23 hi0 hz0 hz1 hz2 rfl (by decide) ⟨b0, off, none⟩ xs.length xs.length (xs.map (Value.int .i64)) (by simp) (fun j u hj => by
      have hjl : j < xs.length := by have := (List.getElem?_eq_some_iff.1 hj).1; simpa using this
      rw [List.getElem?_map] at hj
      have := hcell j hjl
      rw [addr_add, this]
      rw [List.getElem?_eq_getElem hjl] at hj ⊢
      simpa using hj) ⟨b, 0, none⟩ 1 1 [.int .i64 x] rfl (fun j u hj => by
      match j, hj with
      | 0, hj => simp at hj; subst hj; rw [addr_add]; exact hx) (by omega) (by unfold maxLen; omega) (by omega)
    refine ⟨v', w', hrun, ?_, ⟨h2.os, h2.tape, h2.output, h2.size, fun k hk => h2.block k hk (fun e => by cases e)⟩⟩
    unfold OwnI; simpa using h1
end Go.Proofs.Ytclcippfodjfeaa
namespace Go.Proofs.Ytclcippfodjfeaa
open Go.RowKit Go.Shelf
set_option linter.unusedVariables false
set_option linter.unusedSimpArgs false
attribute [local go_sem] Oper.semAt_some
/-- A list of the call's own, of lists of its own. -/
structure OwnH (B : Nat) (w : World) (v : Value) (n : Nat) (hs : List Value) (rows : Nat → List Nat) : Prop where
  own : w.ownsRow B 23 1 v n hs
  row : ∀ (i : Nat) (h : Value), hs[i]? = some h → OwnI 3 B w h (natI (rows i))
def hdOf (hs : List Value) (i : Nat) : Value := hs.getD i (.slice none 0 0)
theorem OwnH.len {B n : Nat} {w : World} {v : Value} {hs : List Value} {rows : Nat → List Nat} (h : OwnH B w v n hs rows) : hs.length = n := by have := h.own.1; omega
theorem OwnH.nil (B : Nat) (w : World) (rows : Nat → List Nat) : OwnH B w (.slice none 0 0) 0 [] rows := ⟨World.ownsRow_nil _ _ _ _, fun i h h1 => by simp at h1⟩
theorem OwnH.ext {B n : Nat} {w w' : World} {v : Value} {hs : List Value} {rows : Nat → List Nat} (h : OwnH B w v n hs rows) (hb : Ext w w') : OwnH B w' v n hs rows := ⟨ownsRow_ext h.own hb, fun i hd h1 => (h.row i hd h1).ext hb⟩
theorem OwnH.shape {B n : Nat} {w : World} {v : Value} {hs : List Value} {rows : Nat → List Nat} (h : OwnH B w v n hs rows) : ∃ a cap, v = .slice a n cap := by
  obtain ⟨_, ⟨rfl, h0⟩ | ⟨g, cap, cur, rfl, hb, hh, hn, hc, hs, ht⟩⟩ := h.own
  · exact ⟨none, 0, by rw [h0]⟩
  · exact ⟨_, cap, rfl⟩
theorem hdOf_some {hs : List Value} {i : Nat} (h : i < hs.length) : hs[i]? = some (hdOf hs i) := by unfold hdOf; rw [List.getD_eq_getElem?_getD, List.getElem?_eq_getElem h]; rfl
theorem OwnH.at {B n : Nat} {w : World} {a : Option Addr} {cap : Nat} {hs : List Value} {rows : Nat → List Nat} (h : OwnH B w (.slice a n cap) n hs rows) {i : Nat} (hi : i < n) : ∃ g, a = some ⟨g, 0, none⟩ ∧ g < w.heap.size ∧ w.cell? ⟨g, i, none⟩ = some (hdOf hs i) := by
  have hl := h.len
  rcases h.own.2 with ⟨h1, h2⟩ | ⟨g, cap', cur, h1, hB, hg, _⟩
  · exfalso; omega
  · cases h1
    refine ⟨g, rfl, lt_of_blk hg, ?_⟩
    rw [World.ownsRow.cellAt h.own i (by omega)]
    exact hdOf_some (by omega)
theorem OwnI.mono {e : TypeId} {B B' : Nat} {w : World} {v : Value} {xs : List Int} (h : OwnI e B' w v xs) (hB : B ≤ B') : OwnI e B w v xs := by
  obtain ⟨h1, h2⟩ := h
  refine ⟨h1, h2.imp id ?_⟩
  rintro ⟨g, cap, cur, rfl, hgb, r⟩
  exact ⟨g, cap, cur, rfl, by omega, r⟩
theorem OwnI.other {e : TypeId} {B : Nat} {w w' : World} {v u : Value} {xs : List Int} {n : Nat} {hs : List Value} {z : Nat} (h : OwnI e B w v xs) (hu : w.ownsRow z 23 1 u n hs) (he : e ≠ 23) (hg : w.grownBy w' u.ownBlock) : OwnI e B w' v xs := by
  refine own_stay h hg ?_
  cases hv : v.ownBlock with
  | none => exact .inl rfl
  | some g =>
    right; right
    intro e2
    obtain ⟨c1, h1⟩ := own_blk h hv
    obtain ⟨c2, h2⟩ := own_blk hu e2.symm
    rw [h1] at h2
    cases h2
    exact he rfl
/-- 'append(runs, run)'. -/
theorem appendH_run (w : World) (B : Nat) (n : Nat) (hs : List Value) (rows : Nat → List Nat) (v h : Value) (hown : OwnH B w v n hs rows) (hB : B ≤ w.heap.size) (hl : n ≤ 5000) (b : Nat) (hx : w.cell? ⟨b, 0, none⟩ = some h) (h1 : h.oneCell' = true) (hi : OwnI 3 B w h (natI (rows n))) (ty : TypeId) :
    ∃ v' w', (Builtin.append_ #[40, 40] ty #[v, .slice (some ⟨b, 0, none⟩) 1 1]).run Try.prog w = .ok v' w' ∧ OwnH B w' v' (n + 1) (hs ++ [h]) rows ∧ Below B w w' ∧ ∀ (g : Nat) (cs : Array Value) (t : TypeId), t ≠ 23 → w.heap[g]? = some (.cells cs t (0, 0)) → w'.heap[g]? = some (.cells cs t (0, 0)) := by
  obtain ⟨i0, hi0, hz0, hz1, hz2⟩ : ∃ i, Try.prog.info? 23 = some i ∧ i.zero = some (.slice none 0 0) ∧ i.size = 1 ∧ i.bytes = 24 := by
    obtain ⟨i, hi⟩ : ∃ i, Try.prog.info? 23 = some i := Option.isSome_iff_exists.1 (by kernel_rfl)
    have : (Try.prog.info? 23).map (fun i => (i.zero, i.size, i.bytes)) = some (some (.slice none 0 0), 1, 24) := by kernel_rfl
    rw [hi] at this
    simp at this
    exact ⟨i, hi, this.1, this.2.1, this.2.2⟩
  obtain ⟨v', w', hrun, r1, r2, _⟩ := run_append_own (P := Try.prog) w B 40 ty 23 i0 (.slice none 0 0) 1 24 Try.underlying40 hi0 hz0 hz1 hz2 rfl (by decide) v _ _ hown.own ⟨b, 0, none⟩ 1 1 [h] rfl (fun j u hj => by
    match j, hj with
    | 0, hj => simp at hj; subst hj; rw [addr_add]; exact hx) (fun u hu => by simp at hu; subst hu; exact h1) (by unfold maxLen; omega) (by omega) hB
  have hlen := hown.len
  refine ⟨v', w', hrun, ⟨r1, fun i hd hi2 => ?_⟩, ?_, fun g cs t ht hg => ?_⟩
  · by_cases e : i < n
    · rw [List.getElem?_append_left (by omega)] at hi2
      exact (hown.row i hd hi2).other hown.own (by decide) r2
    · rw [List.getElem?_append_right (by omega)] at hi2
      have : i = n := by
        have := (List.getElem?_eq_some_iff.1 hi2).1
        simp at this; omega
      subst this
      rw [show i - hs.length = 0 by omega] at hi2
      simp at hi2
      subst hi2
      exact hi.other hown.own (by decide) r2
  · exact (Below.refl B w).grown r2 hB fun k hk => by
      rcases hown.own.2 with ⟨rfl, -⟩ | ⟨g, cap, cur, rfl, hgB, hh, -⟩
      · cases hk
      · have : g = k := by simpa [Value.ownBlock] using hk
        omega
  · refine (r2.block g (lt_of_blk hg) fun e => ?_).trans hg
    obtain ⟨c2, h2⟩ := own_blk hown.own e.symm
    rw [hg] at h2
    cases h2
    exact ht rfl
theorem endR_len (row : List Int) : ∀ (m i : Nat), i ≤ m → (endR row i).length ≤ i + 1 := by
  intro m
  induction m with
  | zero =>
    intro i hi
    obtain rfl : i = 0 := by omega
    simp [endR, endM, runsTo, bestL, bestO]
  | succ m ih =>
    intro i hi
    have hb : ∀ l : List (List Nat), (∀ r ∈ l, r.length ≤ i) → (bestL l).length ≤ i := fun l hl => by
      rcases best_spec l with ⟨rfl, h⟩ | ⟨p, h1, h2, -⟩
      · simp [bestL, bestO]
      · unfold bestL; rw [h1]; exact hl p h2
    show (bestL _ ++ [i]).length ≤ i + 1
    rw [List.length_append]
    have := hb ((runsTo row i).filter (canEnd row i)) (fun r hr => by
      have h1 := (List.mem_filter.1 hr).1
      rw [runs_map, List.mem_map] at h1
      obtain ⟨j, hj, rfl⟩ := h1
      rw [List.mem_range] at hj
      have := ih j (by omega)
      omega)
    simp; omega
theorem bestL_len {row : List Int} {k : Nat} (l : List (List Nat)) (hl : ∀ r ∈ l, ∃ j, j < k ∧ r = endR row j) : (bestL l).length ≤ k := by
  rcases best_spec l with ⟨rfl, h⟩ | ⟨p, h1, h2, -⟩
  · simp [bestL, bestO]
  · unfold bestL; rw [h1]
    obtain ⟨j, hj, rfl⟩ := hl p h2
    have := endR_len row j j (Nat.le_refl _)
    show (endR row j).length ≤ k
    omega
theorem oper_append40 {o : Oper} {a : Act} {K : Act → World → Prop} {Q : Exit → Act → World → Prop} {w w' : World} {v x v' : Value} (s u : Operand) (ho : o.op = .call { callee := .builtin .append, args := #[s, u], argTypes := #[40, 40] }) (hs : a.eval s = v) (hu : a.eval u = x)
    (hrun : (Builtin.append_ #[40, 40] o.type #[v, x]).run Try.prog w = .ok v' w') (h : K (a.put o.dst v') w') : Oper.wp Try.prog o a w K Q := by
  unfold Oper.wp
  simp [execOp, ho, resolve, invoke, builtin, hs, hu, hrun, Result.andThen]
  exact h
end Go.Proofs.Ytclcippfodjfeaa
namespace Go.Proofs.Ytclcippfodjfeaa
open Go.RowKit Go.Shelf
set_option linter.unusedVariables false
set_option linter.unusedSimpArgs false
attribute [local go_sem] Oper.semAt_some
/-- What best finds reads as the best list. -/
theorem fnd_reads {hd : Nat → Value} {rows : Nat → List Nat} {q : Nat → Prop} {l : List Nat} {fnd : Bool} {hv : Value} {w : World} (h : Fnd hd rows q l fnd hv) (hr : ∀ i, q i → Reads w (hd i) (natI (rows i))) : Reads w hv (natI (bestL (l.map rows))) := by
  unfold bestL
  rcases h with ⟨-, h1, rfl⟩ | ⟨i, hq, -, -, h1, rfl⟩
  · rw [h1]; exact Reads.nil w
  · rw [h1]; exact hr i hq
theorem copy_all (w : World) (g n cap : Nat) (a : Option Addr) (xs : List Int) (h : Reads w (.slice a n cap) xs) (hg : ArrI w g 3 (List.replicate n 0)) (ty : TypeId) :
    ∃ w', (Builtin.copy_ #[23, 23] ty #[.slice (some ⟨g, 0, none⟩) n n, .slice a n cap]).run Try.prog w = .ok (.int .i64 (n : Int)) w' ∧ ArrI w' g 3 xs ∧ Keep [g] 0 w w' := by
  have hn := h.len
  obtain ⟨hl, a', cap', e, -, hc⟩ := h
  cases e
  rcases hc with rfl | ⟨b, off, rfl, hcell⟩
  · have hrun := run_copy_none (P := Try.prog) w 23 23 ty 3 (some ⟨g, 0, none⟩) a 0 0 0 cap Try.underlying23 size3 rfl
    exact ⟨w, hrun, hg, Keep.refl _ _ _⟩
  · have hrun := run_copy_row (P := Try.prog) w 23 23 ty 3 g 0 xs.length xs.length ⟨b, off, none⟩ xs.length cap (intC (List.replicate xs.length 0)).toArray 3 (intC xs) Try.underlying23 size3 hg (by simp [intC]) (fun i v hv => by
      have hi : i < xs.length := by have := (List.getElem?_eq_some_iff.1 hv).1; simpa [intC] using this
      unfold intC at hv
      rw [List.getElem?_map] at hv
      rw [addr_add, hcell i hi]
      rw [List.getElem?_eq_getElem hi] at hv ⊢
      simpa using hv) (by simp [intC]) (fun v hv => by obtain ⟨z, -, rfl⟩ := List.mem_map.1 hv; rfl)
    have hl2 : (goInt (intC xs).length : Value) = .int .i64 (xs.length : Int) := by simp [intC]; rfl
    rw [hl2] at hrun
    have hd : (List.take 0 (intC (List.replicate xs.length 0)).toArray.toList ++ intC xs ++ List.drop (0 + (intC xs).length) (intC (List.replicate xs.length 0)).toArray.toList).toArray = (intC xs).toArray := by simp [intC]
    rw [hd] at hrun
    exact ⟨_, hrun, setRow_heap _ _ _ _ _ _ hg, rfl, rfl, rfl, by simp, fun q hq hn => setRow_other _ _ _ _ (by simpa using hn), fun _ _ _ _ ho => by omega⟩
set_option maxRecDepth 100000 in
set_option maxHeartbeats 4000000 in
theorem longest54 (a : Option Addr) (n cap : Nat) (row : List Int) (w : World) (hr : Reads w (.slice a n cap) row) (hn : n ≤ 30) :
    Calls Try.prog 54 #[.agg #[.slice a n cap]] w (OwnList w (natI (longM row))) := by
  have hlr := hr.len
  have HR := Lib.hid hr; have HLR := Lib.hid hlr
  have hE0 : Ext w (w.alloc (.cells #[.slice a n cap] 57)) := (Ext.refl w).alloc _
  have hb0 : Boxed (w.alloc (.cells #[.slice a n cap] 57)) w.heap.size 57 (.slice a n cap) := Boxed.new w 57 _
  have HE0 := Lib.hid hE0; have HB0 := Lib.hid hb0
  have cb := hb0.cell
  clear hr hlr hE0 hb0
  go_enter Try.func54, Try.ntmps54
  go_wp2
  clear cb
  go_loopw [3, 11] (fun vr i wr => ∃ (k : Nat) (hs : List Value), k ≤ n ∧ i = .int .i64 (k : Int) ∧ Hid (OwnH (w.heap.size + 1) wr vr k hs (endR row)) ∧ Hid (Boxed wr w.heap.size 57 (.slice a n cap)) ∧ Hid (Ext w wr)) (fun vr i wr => n - (intV i).toNat)
  case atStart => exact ⟨0, [], Nat.zero_le _, rfl, OwnH.nil _ _ _, HB0, HE0⟩
  case round =>
    obtain ⟨k, hs, hk, rfl, hO, hB, hE⟩ := hrel
    obtain ⟨av, capv, rfl⟩ := hO.out.shape
    have hwr := hE.out.size
    have hszb := hB.out.lt
    have HRH := Lib.hid (show ∀ X, Ext wr X → ∀ i, i < k → Reads X (hdOf hs i) (natI (endR row i)) from fun X hX i hi => ((hO.out.row i _ (hdOf_some (by rw [hO.out.len]; exact hi))).reads (by rw [natI_len]; have := endR_len row i i (Nat.le_refl _); omega)).ext hX)
    by_cases hlt : k < n
    · have k0 : (0 : Int) ≤ (k : Int) := by omega
      have k1 : (k : Int) < (n : Int) := by omega
      obtain ⟨w5, hw5⟩ : ∃ w5, w5 = (((wr.alloc (.cells #[.int .i64 (k : Int)] 3)).alloc (.cells #[.slice av k capv] 40)).alloc (.cells #[.func (.func 87) #[] #[.pointer (some ⟨wr.heap.size + 1, 0, none⟩)]] 83)).alloc (.cells #[.func (.func 69) #[] #[.pointer (some ⟨w.heap.size, 0, none⟩), .pointer (some ⟨wr.heap.size, 0, none⟩)]] 69) := ⟨_, rfl⟩
      have hE5 : Ext wr w5 := by rw [hw5]; exact ((((Ext.refl wr).alloc _).alloc _).alloc _).alloc _
      have hz5 : w5.heap.size = wr.heap.size + 4 := by rw [hw5]; simp
      have b0 : Boxed w5 wr.heap.size 3 (.int .i64 (k : Int)) := by rw [hw5]; exact (((Boxed.new wr 3 _).alloc _).alloc _).alloc _
      have b1 : Boxed w5 (wr.heap.size + 1) 40 (.slice av k capv) := by
        rw [hw5]
        have := ((Boxed.new (wr.alloc (.cells #[.int .i64 (k : Int)] 3)) 40 (.slice av k capv)).alloc (.cells #[.func (.func 87) #[] #[.pointer (some ⟨wr.heap.size + 1, 0, none⟩)]] 83)).alloc (.cells #[.func (.func 69) #[] #[.pointer (some ⟨w.heap.size, 0, none⟩), .pointer (some ⟨wr.heap.size, 0, none⟩)]] 69)
        rw [World.size_alloc] at this; exact this
      have b2 : Boxed w5 (wr.heap.size + 1 + 1) 83 (.func (.func 87) #[] #[.pointer (some ⟨wr.heap.size + 1, 0, none⟩)]) := by
        rw [hw5]
        have := (Boxed.new ((wr.alloc (.cells #[.int .i64 (k : Int)] 3)).alloc (.cells #[.slice av k capv] 40)) 83 (.func (.func 87) #[] #[.pointer (some ⟨wr.heap.size + 1, 0, none⟩)])).alloc (.cells #[.func (.func 69) #[] #[.pointer (some ⟨w.heap.size, 0, none⟩), .pointer (some ⟨wr.heap.size, 0, none⟩)]] 69)
        rw [World.size_alloc, World.size_alloc] at this; exact this
      have b3 : Boxed w5 (wr.heap.size + 1 + 1 + 1) 69 (.func (.func 69) #[] #[.pointer (some ⟨w.heap.size, 0, none⟩), .pointer (some ⟨wr.heap.size, 0, none⟩)]) := by
        rw [hw5]
        have := Boxed.new (((wr.alloc (.cells #[.int .i64 (k : Int)] 3)).alloc (.cells #[.slice av k capv] 40)).alloc (.cells #[.func (.func 87) #[] #[.pointer (some ⟨wr.heap.size + 1, 0, none⟩)]] 83)) 69 (.func (.func 69) #[] #[.pointer (some ⟨w.heap.size, 0, none⟩), .pointer (some ⟨wr.heap.size, 0, none⟩)])
        rw [World.size_alloc, World.size_alloc, World.size_alloc] at this; exact this
      have hbl := boxed_later hB.out hE5
      have C66 := Lib.hid (best66 w5 86 n #[.pointer (some ⟨wr.heap.size + 1 + 1, 0, none⟩), .pointer (some ⟨wr.heap.size + 1 + 1 + 1, 0, none⟩)] (hdOf hs) (endR row) (fun i => i < k ∧ canEnd row k (endR row i) = true) ((List.range k).filter fun i => canEnd row k (endR row i)) (enters_of Try.func86 (by kernel_rfl) rfl)
        (fun W hW hsz => only86 11 (wr.heap.size + 1 + 1) (wr.heap.size + 1 + 1 + 1) n 87 69 0 (hdOf hs) (· < k) #[.pointer (some ⟨wr.heap.size + 1, 0, none⟩)] ⟨w.heap.size, 0, none⟩ ⟨wr.heap.size, 0, none⟩ [w5.heap.size + 1, w5.heap.size + 1 + 1] (fun i => canEnd row k (endR row i)) (List.range k) W (by omega) (boxed_later b2 hW) (boxed_later b3 hW) (enters_of Try.func87 (by kernel_rfl) rfl) (enters_of Try.func69 (by kernel_rfl) rfl)
          (by simp; omega) (by simp; omega) (by simp; omega)
          (values87 10 (wr.heap.size + 1) n k capv av (hdOf hs) [w5.heap.size + 1, w5.heap.size + 1 + 1] 0 W (by omega) (by omega) (by omega) (boxed_later b1 hW) (fun X hX i hi => by
            obtain ⟨g, hg, hgl, hc⟩ := hO.out.at hi
            refine ⟨g, 0, hg, ?_⟩
            rw [Nat.zero_add]
            exact hX.cell (by simp; omega) (cell_ext hW (cell_ext hE5 hc))) (by simp; omega))
          (fun X x hX => by
            have hEX : Ext w5 X := Below.keep hW hX (by simp; omega)
            exact end69 w.heap.size wr.heap.size _ _ row x.val k X (HR.out.ext (hE.out.trans (hE5.trans hEX))) (HRH.out X (hE5.trans hEX) x.val x.2) (by rw [← HLR.out]; have := x.2; omega) (by rw [← HLR.out]; exact hlt) (boxed_later hbl hEX).cell (boxed_later b0 hEX).cell))
        (fun i hi => HRH.out w5 hE5 i hi.1))
      have HB5 := Lib.hid b0; have HBL5 := Lib.hid hbl; have HE5 := Lib.hid hE5
      clear b0 b1 b2 b3 hbl hE5
      go_wp2_with fail
      refine (values68 av k capv _).mono ?_
      rintro e w2 ⟨rfl, rfl⟩
      simp only [World.size_alloc]
      go_wp2_with fail
      refine (only67 _ _ _ 87 _ rfl 69 _ _ rfl).mono ?_
      rintro e w3 ⟨rfl, rfl⟩
      simp only [World.size_alloc]
      rw [← hw5]
      clear hw5
      go_wp2_with fail
      refine C66.out.mono ?_
      rintro e w6 ⟨fnd, hv, rfl, hF, hE6⟩
      have hrv := fnd_reads hF (fun i hi => HRH.out w6 (HE5.out.trans hE6) i hi.1)
      rw [← runs_filter] at hrv
      have hen : natI (endR row k) = natI (bestL ((runsTo row k).filter (canEnd row k))) ++ [(k : Int)] := by
        show natI (bestL _ ++ [k]) = _
        simp [natI]
      generalize hbs : natI (bestL ((runsTo row k).filter (canEnd row k))) = bs at hrv hen
      obtain ⟨hl5, ah, caph, rfl⟩ := hrv.shape
      obtain ⟨lh, hlh⟩ : ∃ lh, lh = bs.length := ⟨_, rfl⟩
      rw [← hlh] at hrv ⊢
      have hlh5 : lh ≤ 9223372036854775807 := by omega
      have hcap := hrv.cap.1
      rw [← hlh] at hcap
      have hcap2 : (lh : Int) ≤ (caph : Int) := by omega
      have hcap3 : (0 : Int) ≤ (lh : Int) := by omega
      have hEa : Ext w6 (w6.alloc (.cells #[.int .i64 (k : Int)] 3)).drew := ((Ext.refl w6).alloc _).drew
      have hsa : (w6.alloc (.cells #[.int .i64 (k : Int)] 3)).drew.heap.size = w6.heap.size + 1 := by simp
      obtain ⟨v7, w7, hrun, hO7, hE7⟩ := append_new (w6.alloc (.cells #[.int .i64 (k : Int)] 3)).drew ah bs lh caph (k : Int) (hrv.ext hEa) w6.heap.size (World.cell?_alloc_at _ _ _ _ rfl) 23
      rw [← hen] at hO7
      have hs6 := HE5.out.size; have hs66 := hE6.size; have hs7 := hE7.size
      have hO7b : OwnI 3 (w.heap.size + 1) w7 v7 (natI (endR row k)) := hO7.mono (by omega)
      obtain ⟨a7, cap7, rfl, hc7⟩ := hO7.shape
      obtain ⟨l7, hl7⟩ : ∃ l7, l7 = (natI (endR row k)).length := ⟨_, rfl⟩
      rw [← hl7] at hO7b hrun hc7
      have hEr7 : Ext wr w7 := HE5.out.trans (hE6.trans (hEa.trans hE7))
      obtain ⟨v9, w9, hrun2, hO9, hB9, hK9⟩ := appendH_run (w7.alloc (.cells #[.slice a7 l7 cap7] 23)) (w.heap.size + 1) k hs (endR row) (.slice av k capv) (.slice a7 l7 cap7) (hO.out.ext (hEr7.trans ((Ext.refl w7).alloc _))) (by simp; omega) (by omega) w7.heap.size (World.cell?_alloc_at _ _ _ _ rfl) rfl (hO7b.ext ((Ext.refl w7).alloc _)) 40
      have hb6 := boxed_later HB5.out hE6
      have hb7 := boxed_later hb6 (hEa.trans hE7)
      have hb8 := boxed_later hb7 ((Ext.refl w7).alloc (.cells #[.slice a7 l7 cap7] 23))
      have hb9 := hK9 _ _ _ (by decide) hb8
      have c6 : w6.cell? ⟨wr.heap.size, 0, none⟩ = some (.int .i64 (k : Int)) := cell_of_blk hb6 rfl
      have c6a := cell_ext hEa c6
      have c7 : w7.cell? ⟨wr.heap.size, 0, none⟩ = some (.int .i64 (k : Int)) := cell_of_blk hb7 rfl
      have c8 := cell_ext ((Ext.refl w7).alloc (.cells #[.slice a7 l7 cap7] 23)) c7
      have c9 : w9.cell? ⟨wr.heap.size, 0, none⟩ = some (.int .i64 (k : Int)) := cell_of_blk hb9 rfl
      have HO9 := Lib.hid hO9
      have HBL9 := Lib.hid (show Boxed w9 w.heap.size 57 (.slice a n cap) from (hB9.block _ (by omega)).trans (boxed_later HBL5.out (hE6.trans (hEa.trans (hE7.trans ((Ext.refl w7).alloc _))))))
      have HE9 := Lib.hid (show Ext w w9 from by
        have h1 := hE.out.trans (hEr7.trans ((Ext.refl w7).alloc (.cells #[.slice a7 l7 cap7] 23)))
        exact Below.trans h1 (hB9.mono (by omega)))
      clear hbs hrv hen hl5 hlh hEa hsa hO7 hE7 hs6 hs66 hs7 hO7b hc7 hl7 hEr7 hO9 hB9 hK9 hb6 hb7 hb8 hb9 hF hE6 C66
      go_upto_region 6 with fail
      refine wp_region_order (fun X : World => X.cell? ⟨wr.heap.size, 0, none⟩ = some (.int .i64 (k : Int))) [0, 1, 2, 3, 4, 5, 6, 7, 8, 9, 10, 11, 12] (by kernel_rfl) (by kernel_rfl) (by exact c6) (fun hHeld => ?_)
      simp only [opsIn, List.filterMap_cons, List.filterMap_nil, List.getElem?_toArray, List.getElem?_cons_succ, List.getElem?_cons_zero]
      refine' text_chunk 3 (by kernel_rfl) hHeld ?ck1 ?cr1
      case ck1 =>
        intro W hSw
        have hSW := hSw
        try dsimp only at hSW
        clear hSw
        simp only [List.take_succ_cons, List.take_zero, List.drop_succ_cons, List.drop_zero]
        repeat (go_big_quiet_step (fail))
        exact wpQuiet_nil rfl
      simp only [List.take_succ_cons, List.take_zero, List.drop_succ_cons, List.drop_zero]
      refine' text_take (by rfl) (by rfl) ?tk1 ?tr1
      case tk1 => (intro W hSw; (try dsimp only at hSw); go_simp; all_goals with_reducible rfl)
      try simp only [Act.put, List.setIfInBounds_toArray, List.set_cons_zero, List.set_cons_succ]
      refine' text_chunk 1 (by kernel_rfl) hHeld ?ck2 ?cr2
      case ck2 =>
        intro W hSw
        have hSW := hSw
        try dsimp only at hSW
        clear hSw
        simp only [List.take_succ_cons, List.take_zero, List.drop_succ_cons, List.drop_zero]
        repeat (go_big_quiet_step (fail))
        exact wpQuiet_nil rfl
      simp only [List.take_succ_cons, List.take_zero, List.drop_succ_cons, List.drop_zero]
      refine' text_take (by rfl) (by rfl) ?tk2 ?tr2
      case tk2 => (intro W hSw; (try dsimp only at hSw); go_simp; all_goals with_reducible rfl)
      try simp only [Act.put, List.setIfInBounds_toArray, List.set_cons_zero, List.set_cons_succ]
      refine' text_chunk 2 (by kernel_rfl) hHeld ?ck3 ?cr3
      case ck3 =>
        intro W hSw
        have hSW := hSw
        try dsimp only at hSW
        clear hSw
        simp only [List.take_succ_cons, List.take_zero, List.drop_succ_cons, List.drop_zero]
        repeat (go_big_quiet_step (fail))
        exact wpQuiet_nil rfl
      simp only [List.take_succ_cons, List.take_zero, List.drop_succ_cons, List.drop_zero]
      refine text_call (by rfl) (by rfl) (fun K hK => ?_)
      go_simp
      all_goals (try (go_wp2_with fail))
      refine hK.out _ _ (by exact c6a) (fun hHeld => ?_)
      clear hK K
      try simp only [Act.put, List.setIfInBounds_toArray, List.set_cons_zero, List.set_cons_succ]
      refine text_call (by rfl) (by rfl) (fun K hK => ?_)
      refine oper_append _ _ rfl rfl rfl hrun ?_
      refine hK.out _ _ (by exact c7) (fun hHeld => ?_)
      clear hK K hrun
      try simp only [Act.put, List.setIfInBounds_toArray, List.set_cons_zero, List.set_cons_succ]
      refine text_call (by rfl) (by rfl) (fun K hK => ?_)
      go_simp
      all_goals (try (go_wp2_with fail))
      refine hK.out _ _ (by exact c8) (fun hHeld => ?_)
      clear hK K
      try simp only [Act.put, List.setIfInBounds_toArray, List.set_cons_zero, List.set_cons_succ]
      refine text_call (by rfl) (by rfl) (fun K hK => ?_)
      refine oper_append40 _ _ rfl rfl rfl hrun2 ?_
      refine hK.out _ _ (by exact c9) (fun hHeld => ?_)
      clear hK K hrun2
      try simp only [Act.put, List.setIfInBounds_toArray, List.set_cons_zero, List.set_cons_succ]
      refine' text_chunk 1 (by kernel_rfl) hHeld ?ck4 ?cr4
      case ck4 =>
        intro W hSw
        have hSW := hSw
        try dsimp only at hSW
        clear hSw
        simp only [List.take_succ_cons, List.take_zero, List.drop_succ_cons, List.drop_zero]
        repeat (go_big_quiet_step (fail))
        exact wpQuiet_nil rfl
      simp only [List.take_succ_cons, List.take_zero, List.drop_succ_cons, List.drop_zero]
      refine text_done ?_
      clear hHeld c6 c6a c7 c8 c9
      go_wp2
      go_roundw
      case rel => exact ⟨k + 1, _, by omega, by go_num, HO9.out, HBL9.out, HE9.out⟩
      case measure => simp [intV]; omega
    · obtain rfl : k = n := by omega
      obtain ⟨w1, hw1⟩ : ∃ w1, w1 = wr.alloc (.cells #[.slice av k capv] 40) := ⟨_, rfl⟩
      have hE1 : Ext wr w1 := by rw [hw1]; exact (Ext.refl wr).alloc _
      have b1 : Boxed w1 wr.heap.size 40 (.slice av k capv) := by rw [hw1]; exact Boxed.new wr 40 _
      have hz1 : w1.heap.size = wr.heap.size + 1 := by rw [hw1]; simp
      have C66 := Lib.hid (best66 w1 87 k #[.pointer (some ⟨wr.heap.size, 0, none⟩)] (hdOf hs) (endR row) (· < k) (List.range k) (enters_of Try.func87 (by kernel_rfl) rfl)
        (fun W hW hsz => values87 11 wr.heap.size k k capv av (hdOf hs) [w1.heap.size + 1, w1.heap.size + 1 + 1] 0 W (by omega) (Nat.le_refl _) (by omega) (boxed_later b1 hW) (fun X hX i hi => by
            obtain ⟨g, hg, hgl, hc⟩ := hO.out.at hi
            refine ⟨g, 0, hg, ?_⟩
            rw [Nat.zero_add]
            exact hX.cell (by simp; omega) (cell_ext hW (cell_ext hE1 hc))) (by simp; omega))
        (fun i hi => HRH.out w1 hE1 i hi))
      have HE1 := Lib.hid (hE.out.trans hE1); have HEr := Lib.hid hE1
      clear b1 hE1
      go_wp2_with fail
      refine (values68 av k capv _).mono ?_
      rintro e w2 ⟨rfl, rfl⟩
      rw [← hw1]
      clear hw1 hz1
      go_wp2_with fail
      refine C66.out.mono ?_
      rintro e w6 ⟨fnd, hv, rfl, hF, hE6⟩
      have hrv := fnd_reads hF (fun i hi => HRH.out w6 (HEr.out.trans hE6) i hi)
      rw [← runs_map] at hrv
      have hlm : bestL (runsTo row k) = longM row := by unfold longM; rw [HLR.out]
      rw [hlm] at hrv
      have hlen : (longM row).length ≤ k := by rw [← hlm, runs_map]; exact bestL_len _ (fun r hr => by obtain ⟨j, hj, rfl⟩ := List.mem_map.1 hr; exact ⟨j, List.mem_range.1 hj, rfl⟩)
      obtain ⟨bs, hbs⟩ : ∃ bs, bs = natI (longM row) := ⟨_, rfl⟩
      rw [← natI_len, ← hbs] at hlen
      rw [← hbs] at hrv ⊢
      obtain ⟨hl5, ah, caph, rfl⟩ := hrv.shape
      obtain ⟨lh, hlh⟩ : ∃ lh, lh = bs.length := ⟨_, rfl⟩
      rw [← hlh] at hrv hlen ⊢
      have hmk := make23 lh (by omega) w6
      have hA := ArrI.made w6 lh 3
      obtain ⟨w8, hcp, hA8, hK8⟩ := copy_all (w6.alloc (.cells (madeCells #[.int .i64 0] lh) 3)) w6.heap.size lh caph ah bs (hrv.ext ((Ext.refl w6).alloc _)) hA 3
      have HA8 := Lib.hid hA8; have HLH := Lib.hid hlh; have HBS := Lib.hid hbs
      have hs6 := hE6.size; have hs1 := HE1.out.size
      have HE8 := Lib.hid (Below.keep ((HE1.out.trans hE6).trans ((Ext.refl w6).alloc (.cells (madeCells #[.int .i64 0] lh) 3))) hK8 (by simp; omega))
      have HS6 := Lib.hid (show w.heap.size ≤ w6.heap.size from by omega)
      clear hrv hlm hbs hl5 hlh hA hA8 hK8 hF hE6 C66 hs6 hs1
      go_wp2
      go_ret
      exact ⟨w6.heap.size, HS6.out, by rw [← HBS.out, ← HLH.out]; rfl, by rw [← HBS.out]; exact HA8.out, HE8.out⟩
end Go.Proofs.Ytclcippfodjfeaa
