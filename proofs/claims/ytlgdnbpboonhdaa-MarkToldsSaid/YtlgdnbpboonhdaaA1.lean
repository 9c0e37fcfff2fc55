/- The first pair of a map, in the order of pairs. -/
import Derived.Test.YtlgdnbpboonhdaaK2
import Derived.Test.YtlgdnbpboonhdaaR4
namespace Go.Proofs.Ytlgdnbpboonhdaa
open Go.RowKit Go.Shelf Go.Maps
set_option linter.unusedVariables false
attribute [local go_sem] Oper.semAt_some
def lexO (p q : Nat × Nat) : Int := orL [cmpI p.1 q.1, cmpI p.2 q.2]
/-- What stands in the loop's two variables behind some pairs. -/
def BestIs (ys : List (Nat × Nat)) (found : Bool) (p : Nat × Nat) : Prop := (ys = [] ∧ found = false ∧ p = (0, 0)) ∨ (found = true ∧ p ∈ ys ∧ ∀ q ∈ ys, 0 ≤ lexO q p)
theorem cellsOf76 : Try.prog.cellsOf 76 = 2 := by kernel_rfl
theorem lexO_neg (p q : Nat × Nat) : lexO p q < 0 ↔ (p.1 < q.1 ∨ p.1 = q.1 ∧ p.2 < q.2) := by
  unfold lexO
  simp only [orL, cmpI]
  split <;> split <;> simp_all <;> omega
theorem BestIs.first {x : Nat × Nat} : BestIs ([] ++ [x]) true x := .inr ⟨rfl, by simp, fun q hq => by
  simp at hq; subst hq
  have := lexO_neg q q
  omega⟩
theorem BestIs.better {ys : List (Nat × Nat)} {p x : Nat × Nat} (hp : p ∈ ys) (h : ∀ q ∈ ys, 0 ≤ lexO q p) (hx : lexO x p < 0) : BestIs (ys ++ [x]) true x := .inr ⟨rfl, by simp, fun q hq => by
  rcases List.mem_append.1 hq with hq | hq
  · have h1 := h q hq
    have h2 := lexO_neg q p
    have h3 := lexO_neg x p
    have h4 := lexO_neg q x
    omega
  · simp at hq; subst hq
    have := lexO_neg q q
    omega⟩
theorem BestIs.same {ys : List (Nat × Nat)} {p x : Nat × Nat} (hp : p ∈ ys) (h : ∀ q ∈ ys, 0 ≤ lexO q p) (hx : ¬ lexO x p < 0) : BestIs (ys ++ [x]) true p := .inr ⟨rfl, by simp [hp], fun q hq => by
  rcases List.mem_append.1 hq with hq | hq
  · exact h q hq
  · simp at hq; subst hq; omega⟩
theorem results_cell76 {fn : Func} {p t : Tmp} {k q : Int} (h : fn.results = #[.cell p 76, .tmp t]) (tmps : Array Value) (w : World) (b : Nat)
    (hp : tmps.getD p undef = .pointer (some ⟨b, 0, none⟩)) (hc : w.heap[b]? = some (.cells #[.int .i64 k, .int .i64 q] 76 (0, 0))) :
    (results fn tmps).run Try.prog w = .ok (.tuple #[.agg #[.int .i64 k, .int .i64 q], tmps.getD t undef]) w := by
  have hp' : tmps[p]?.getD undef = .pointer (some ⟨b, 0, none⟩) := by simpa using hp
  have c0 : w.cell? ⟨b, 0, none⟩ = some (.int .i64 k) := by rw [cell_of_row _ _ _ _ _ _ hc]; rfl
  have c1 : w.cell? ⟨b, 1, none⟩ = some (.int .i64 q) := by rw [cell_of_row _ _ _ _ _ _ hc]; rfl
  simp [results, h, hp', asAddr, loadVar, isAgg, run_underlying Try.underlying76, go_sem, c0, c1]
theorem ext_walks {w w' : World} (h : Ext w w') : KeepsWalks w w' := ⟨h.size, fun k o hk _ => block_ext h hk⟩
theorem set_other {W : World} {b c o : Nat} {v : Value} (h : c ≠ b) : (W.setCell ⟨b, o, none⟩ v).heap[c]? = W.heap[c]? := by
  show (W.heap.modify b _)[c]? = _
  rw [Array.getElem?_modify]
  simp [Ne.symm h]
theorem cells2_set {W : World} {b : Nat} {u v : Value} {t : TypeId} {fr : Nat × Nat} (h : W.heap[b]? = some (.cells #[u, v] t fr)) (u' v' : Value) :
    ((W.setCell ⟨b, 0, none⟩ u').setCell ⟨b, 1, none⟩ v').heap[b]? = some (.cells #[u', v'] t fr) := by
  have h1 : (W.setCell ⟨b, 0, none⟩ u').heap[b]? = some (.cells #[u', v] t fr) := by
    show (W.heap.modify b _)[b]? = _
    rw [Array.getElem?_modify, h]
    simp
  show ((W.setCell ⟨b, 0, none⟩ u').heap.modify b _)[b]? = _
  rw [Array.getElem?_modify, h1]
  simp
def Inv65 (w : World) (pre : List (Nat × Nat)) (W : World) : Prop :=
  (∃ (found : Bool) (x y : Nat), BestIs pre found (x, y) ∧ W.heap[w.heap.size + 1 + 1]? = some (.cells #[.int .i64 (x : Int), .int .i64 (y : Int)] 76 (0, 0)) ∧ Boxed W (w.heap.size + 1 + 1 + 1) 4 (.bool found) ∧
      Boxed W w.heap.size 83 (.func (.func 67) #[] #[]) ∧ W.heap[w.heap.size + 1]? = some (.cells #[.int .i64 ((0 : Nat) : Int), .int .i64 ((0 : Nat) : Int)] 76 (0, 0))) ∧ Below w.heap.size w W
theorem stored65 {w W : World} {y z i k : Nat} {fb : Bool} {ys : List (Nat × Nat)} (hb : BestIs ys true (i, k)) (h0 : Boxed W w.heap.size 83 (.func (.func 67) #[] #[]))
    (h1 : W.heap[w.heap.size + 1]? = some (.cells #[.int .i64 ((0 : Nat) : Int), .int .i64 ((0 : Nat) : Int)] 76 (0, 0))) (h2 : W.heap[w.heap.size + 1 + 1]? = some (.cells #[.int .i64 (y : Int), .int .i64 (z : Int)] 76 (0, 0)))
    (h3 : Boxed W (w.heap.size + 1 + 1 + 1) 4 (.bool fb)) (hE : Below w.heap.size w W) :
    KeepsOthers W (((W.setCell ⟨w.heap.size + 1 + 1, 0, none⟩ (.int .i64 (i : Int))).setCell ⟨w.heap.size + 1 + 1, 1, none⟩ (.int .i64 (k : Int))).setCell ⟨w.heap.size + 1 + 1 + 1, 0, none⟩ (.bool true)) ∧
    KeepsWalks W (((W.setCell ⟨w.heap.size + 1 + 1, 0, none⟩ (.int .i64 (i : Int))).setCell ⟨w.heap.size + 1 + 1, 1, none⟩ (.int .i64 (k : Int))).setCell ⟨w.heap.size + 1 + 1 + 1, 0, none⟩ (.bool true)) ∧
    Inv65 w ys (((W.setCell ⟨w.heap.size + 1 + 1, 0, none⟩ (.int .i64 (i : Int))).setCell ⟨w.heap.size + 1 + 1, 1, none⟩ (.int .i64 (k : Int))).setCell ⟨w.heap.size + 1 + 1 + 1, 0, none⟩ (.bool true)) := by
  refine ⟨((KeepsOthers.setCell _ _ _).trans (KeepsOthers.setCell _ _ _)).trans (KeepsOthers.setCell _ _ _), ((KeepsWalks.setCell _ _ _).trans (KeepsWalks.setCell _ _ _)).trans (KeepsWalks.setCell _ _ _), ⟨true, i, k, hb, ?_, ?_, ?_, ?_⟩, ?_⟩
  · rw [set_other (by omega)]
    exact cells2_set h2 _ _
  · refine Boxed.set (v := .bool fb) (.bool true) ?_
    show _ = _
    rw [set_other (by omega), set_other (by omega)]
    exact h3
  · show _ = _
    rw [set_other (by omega), set_other (by omega), set_other (by omega)]
    exact h0
  · rw [set_other (by omega), set_other (by omega), set_other (by omega)]
    exact h1
  · exact ((hE.setCell (p := ⟨w.heap.size + 1 + 1, 0, none⟩) (by simp; omega) _).setCell (p := ⟨w.heap.size + 1 + 1, 1, none⟩) (by simp; omega) _).setCell (p := ⟨w.heap.size + 1 + 1 + 1, 0, none⟩) (by simp; omega) _
set_option maxRecDepth 100000 in
set_option maxHeartbeats 4000000 in
theorem first65 (Bm b nn : Nat) (g : Nat × Nat → Option Nat) (w : World) (hm : w.cell? ⟨Bm, 0, none⟩ = some (.map (some b))) (hown : ClMap w b nn g) :
    Calls Try.prog 65 #[.func (.func 94) #[] #[.pointer (some ⟨Bm, 0, none⟩)], .func (.func 67) #[] #[]] w fun e w' => ∃ ys found p, AllOf g ys ∧ BestIs ys found p ∧ e = .returned (.tuple #[kv p, .bool found]) ∧ Ext w w' := by
  refine (callsIn_wide (n := 10)).1 ?_
  have HM := Lib.hid hm
  have HO := Lib.hid hown
  clear hm hown
  refine callsIn_of_wp_marks Try.func65 rfl trivial ?_ rfl
  simp only [Try.ntmps65, List.size_toArray, List.length_cons, List.length_nil, Nat.reduceAdd, Nat.reduceSub, Array.replicate_succ, Array.replicate_zero, List.push_toArray, List.append_toArray, List.nil_append, List.cons_append]
  gi_wp2
  have b0 := (((Boxed.new w 83 (.func (.func 67) #[] #[])).alloc (.cells #[.int .i64 0, .int .i64 0] 76)).alloc (.cells #[.int .i64 0, .int .i64 0] 76)).alloc (.cells #[.bool false] 4)
  have b3 := Boxed.new (((w.alloc (.cells #[.func (.func 67) #[] #[]] 83)).alloc (.cells #[.int .i64 0, .int .i64 0] 76)).alloc (.cells #[.int .i64 0, .int .i64 0] 76)) 4 (.bool false)
  have b1 : ((((w.alloc (.cells #[.func (.func 67) #[] #[]] 83)).alloc (.cells #[.int .i64 0, .int .i64 0] 76)).alloc (.cells #[.int .i64 0, .int .i64 0] 76)).alloc (.cells #[.bool false] 4)).heap[w.heap.size + 1]? = some (.cells #[.int .i64 ((0 : Nat) : Int), .int .i64 ((0 : Nat) : Int)] 76 (0, 0)) := by
    refine (Below.heap_alloc _ _ _ (by simp)).trans ((Below.heap_alloc _ _ _ (by simp)).trans ?_)
    have := heap_alloc_new (w.alloc (.cells #[.func (.func 67) #[] #[]] 83)) (.cells #[.int .i64 0, .int .i64 0] 76)
    rwa [World.size_alloc] at this
  have b2 : ((((w.alloc (.cells #[.func (.func 67) #[] #[]] 83)).alloc (.cells #[.int .i64 0, .int .i64 0] 76)).alloc (.cells #[.int .i64 0, .int .i64 0] 76)).alloc (.cells #[.bool false] 4)).heap[w.heap.size + 1 + 1]? = some (.cells #[.int .i64 ((0 : Nat) : Int), .int .i64 ((0 : Nat) : Int)] 76 (0, 0)) := by
    refine (Below.heap_alloc _ _ _ (by simp)).trans ?_
    have := heap_alloc_new ((w.alloc (.cells #[.func (.func 67) #[] #[]] 83)).alloc (.cells #[.int .i64 0, .int .i64 0] 76)) (.cells #[.int .i64 0, .int .i64 0] 76)
    rwa [World.size_alloc, World.size_alloc] at this
  have hB0 : Below w.heap.size w ((((w.alloc (.cells #[.func (.func 67) #[] #[]] 83)).alloc (.cells #[.int .i64 0, .int .i64 0] 76)).alloc (.cells #[.int .i64 0, .int .i64 0] 76)).alloc (.cells #[.bool false] 4)) := ((((Ext.refl w).alloc _).alloc _).alloc _).alloc _
  have hsz : ((((w.alloc (.cells #[.func (.func 67) #[] #[]] 83)).alloc (.cells #[.int .i64 0, .int .i64 0] 76)).alloc (.cells #[.int .i64 0, .int .i64 0] 76)).alloc (.cells #[.bool false] 4)).heap.size = w.heap.size + 4 := by simp
  simp only [World.size_alloc] at b3
  obtain ⟨W0, hW0⟩ : ∃ W0, (((w.alloc (.cells #[.func (.func 67) #[] #[]] 83)).alloc (.cells #[.int .i64 0, .int .i64 0] 76)).alloc (.cells #[.int .i64 0, .int .i64 0] 76)).alloc (.cells #[.bool false] 4) = W0 := ⟨_, rfl⟩
  rw [hW0] at b0 b1 b2 b3 hB0 hsz ⊢
  clear hW0
  refine wpIn_rangeFunc_ownH rfl (by omega) (gf := 94) (lb := #[.pointer (some ⟨Bm, 0, none⟩)]) rfl trivial (enters_of Try.func94 (by kernel_rfl) rfl)
    (keys_stops 9 Bm b nn g (by omega) W0 (cell_ext hB0 HM.out) (HO.out.ext hB0)) KeepsWalks.trans (fun W l o o' _ h1 h2 h3 => KeepsWalks.putObj o' h1 h3) (Below.refl _ _) (fun _ => rfl)
    (Inv65 w)
    (fun _ _ _ => False)
    ?hI (fun _ _ _ _ _ h _ _ => h) ⟨⟨false, 0, 0, .inl ⟨rfl, rfl, rfl⟩, b2, b3, b0, b1⟩, hB0⟩
    (fun x a' W => ∃ Bx, W0.heap.size ≤ Bx ∧ W.heap[Bx]? = some (.cells #[.int .i64 (x.1 : Int), .int .i64 (x.2 : Int)] 76 (0, 0)) ∧ a' = { tmps := #[.func (.func 94) #[] #[.pointer (some ⟨Bm, 0, none⟩)], .func (.func 67) #[] #[], undef, .pointer (some ⟨w.heap.size, 0, none⟩), .pointer (some ⟨w.heap.size + 1, 0, none⟩), .bool false, .pointer (some ⟨w.heap.size + 1 + 1, 0, none⟩), .pointer (some ⟨w.heap.size + 1 + 1 + 1, 0, none⟩), .pointer (some ⟨Bx, 0, none⟩), .func (.func 94) #[] #[.pointer (some ⟨Bm, 0, none⟩)], .agg #[.int .i64 (x.1 : Int), .int .i64 (x.2 : Int)], undef, undef, undef, undef, undef, undef, undef, undef, undef, undef, undef, undef], defers := [] })
    ?hAx ?assign ?body ?done ?stop
  case hI => exact OwnFrom.and (fun s A B row hs hg hr => let ⟨found, x, y, h1, h2, h3, h4, h5⟩ := hs; ⟨found, x, y, h1, cells_turn h2 hg hr, boxed_turn h3 hg hr, boxed_turn h4 hg hr, cells_turn h5 hg hr⟩) (ownFrom_below (Nat.le_refl _) hB0.size)
  case hAx => exact fun x a' s A B row hs hg hr => let ⟨Bx, h1, h2, h3⟩ := hs; ⟨Bx, h1, cells_turn h2 hg hr, h3⟩
  case assign =>
    rintro l pre x W K ⟨⟨found, y, z, hbest, q2, q3, q0, q1⟩, hB⟩ hK
    obtain ⟨i, k⟩ := x
    dsimp only [kv]
    gi_wp2
    have h3l := q3.lt
    have h2l := (Array.getElem?_eq_some_iff.1 q2).1
    have h1l := (Array.getElem?_eq_some_iff.1 q1).1
    exact hK _ _ ((KeepsOthers.alloc _ _).from _) (KeepsWalks.alloc _ _) ⟨⟨found, y, z, hbest, (Below.heap_alloc _ _ _ h2l).trans q2, q3.alloc _, q0.alloc _, (Below.heap_alloc _ _ _ h1l).trans q1⟩, hB.alloc hB.size _⟩ ⟨W.heap.size, by omega, heap_alloc_new _ _, rfl⟩
  case body =>
    rintro l pre x a' W hl ⟨r, hrl⟩ ⟨⟨found, y, z, hbest, q2, q3, q0, q1⟩, hB⟩ ⟨Bx, hBx, bX, rfl⟩ hlt
    obtain ⟨i, k⟩ := x
    dsimp only at bX ⊢
    have c0 := q0.cell
    have c3 := q3.cell
    have f3 := q3.frozen
    have cX0 : W.cell? ⟨Bx, 0, none⟩ = some (.int .i64 (i : Int)) := by rw [cell_of_row _ _ _ _ _ _ bX]; rfl
    have cX1 : W.cell? ⟨Bx, 1, none⟩ = some (.int .i64 (k : Int)) := by rw [cell_of_row _ _ _ _ _ _ bX]; rfl
    have c20 : W.cell? ⟨w.heap.size + 1 + 1, 0, none⟩ = some (.int .i64 (y : Int)) := by rw [cell_of_row _ _ _ _ _ _ q2]; rfl
    have c21 : W.cell? ⟨w.heap.size + 1 + 1, 1, none⟩ = some (.int .i64 (z : Int)) := by rw [cell_of_row _ _ _ _ _ _ q2]; rfl
    have Q0 := Lib.hid q0; have Q1 := Lib.hid q1; have Q2 := Lib.hid q2; have Q3 := Lib.hid q3; have HE := Lib.hid hB; have HRL := Lib.hid hrl; have HBX := Lib.hid bX
    clear q0 q1 q2 q3 hB hrl bX b0 b1 b2 b3
    rcases hbest with ⟨rfl, rfl, hz⟩ | ⟨rfl, hp, hall⟩
    · have f20 := frozen_of_row _ _ 0 _ _ Q2.out
      have f21 := frozen_of_row _ _ 1 _ _ Q2.out
      gi_wp2
      refine ⟨fun f h => (by cases h), ?_⟩
      gi_wp2
      obtain ⟨k1, k2, k3⟩ := stored65 (BestIs.first (x := (i, k))) Q0.out Q1.out Q2.out Q3.out HE.out
      exact ⟨k1.from _, k2, k3⟩
    · have HP := Lib.hid hp; have HA := Lib.hid hall
      clear hp hall
      obtain ⟨o, ho⟩ : ∃ o : Int, o = lexO (i, k) (y, z) := ⟨_, rfl⟩
      have H67 := Lib.hid (inOrder67_any (i : Int) (k : Int) (y : Int) (z : Int) W)
      rw [show orL [cmpI (i : Int) (y : Int), cmpI (k : Int) (z : Int)] = o from ho.symm] at H67
      have HO' := Lib.hid ho
      clear ho
      by_cases hneg : o < 0
      · gi_wp2_with (refine ⟨trivial, ?_⟩; gi_at_call 67; refine (CallsIn.inRound l (callsIn_wide.2 H67.out)).mono ?_; rintro e w' ⟨rfl, hb⟩; have cX0 := cell_ext hb cX0; have cX1 := cell_ext hb cX1; have f20 := frozen_of_row _ _ 0 _ _ (block_ext hb Q2.out); have f21 := frozen_of_row _ _ 1 _ _ (block_ext hb Q2.out); have f3 := Boxed.frozen (block_ext hb Q3.out); have c20 := cell_ext hb c20; have c21 := cell_ext hb c21; have c3 := cell_ext hb c3; have HB := Lib.hid hb; clear hb)
        obtain ⟨k1, k2, k3⟩ := stored65 (BestIs.better HP.out HA.out (by rw [← HO'.out]; exact hneg)) (block_ext HB.out Q0.out) (block_ext HB.out Q1.out) (block_ext HB.out Q2.out) (block_ext HB.out Q3.out) (HE.out.trans (HB.out.mono HE.out.size))
        exact ⟨((ext_keeps HB.out).trans k1).from _, (ext_walks HB.out).trans k2, k3⟩
      · gi_wp2_with (refine ⟨trivial, ?_⟩; gi_at_call 67; refine (CallsIn.inRound l (callsIn_wide.2 H67.out)).mono ?_; rintro e w' ⟨rfl, hb⟩; have HB := Lib.hid hb; clear hb)
        exact ⟨(ext_keeps HB.out).from _, ext_walks HB.out, ⟨true, y, z, BestIs.same HP.out HA.out (by rw [← HO'.out]; omega), block_ext HB.out Q2.out, block_ext HB.out Q3.out, block_ext HB.out Q0.out, block_ext HB.out Q1.out⟩, HE.out.trans (HB.out.mono HE.out.size)⟩
  case done =>
    rintro D ys W hD hS ⟨⟨found, y, z, hbest, q2, q3, q0, q1⟩, hB⟩ hK
    have c3 := q3.cell
    have c20 : W.cell? ⟨w.heap.size + 1 + 1, 0, none⟩ = some (.int .i64 (y : Int)) := by rw [cell_of_row _ _ _ _ _ _ q2]; rfl
    have c21 : W.cell? ⟨w.heap.size + 1 + 1, 1, none⟩ = some (.int .i64 (z : Int)) := by rw [cell_of_row _ _ _ _ _ _ q2]; rfl
    have c10 : W.cell? ⟨w.heap.size + 1, 0, none⟩ = some (.int .i64 ((0 : Nat) : Int)) := by rw [cell_of_row _ _ _ _ _ _ q1]; rfl
    have c11 : W.cell? ⟨w.heap.size + 1, 1, none⟩ = some (.int .i64 ((0 : Nat) : Int)) := by rw [cell_of_row _ _ _ _ _ _ q1]; rfl
    have f10 := frozen_of_row _ _ 0 _ _ q1
    have f11 := frozen_of_row _ _ 1 _ _ q1
    have HK := Lib.hid hK; have Q1 := Lib.hid q1; have HB := Lib.hid hB; have HBE := Lib.hid hbest; have HS := Lib.hid hS
    clear hK q1 q2 q0 q3 hB hbest hS b0 b1 b2 b3
    have hmix : Try.prog.follows .mixedOrders = true := by kernel_rfl
    gi_wp2
    gi_region
    all_goals
      gi_wp2
      have hK' : ((W.setCell ⟨w.heap.size + 1, 0, none⟩ (.int .i64 (y : Int))).setCell ⟨w.heap.size + 1, 1, none⟩ (.int .i64 (z : Int))).drew.heap[D]? = some (.deferred (some [])) := ((KeepsOthers.setCell _ _ _).trans (KeepsOthers.setCell _ _ _)).same D _ HK.out rfl
      refine ⟨by simp, .inl ⟨_, _, rfl, run_takeDeferred hK', ?_⟩⟩
      have r1 := cells2_set Q1.out (.int .i64 (y : Int)) (.int .i64 (z : Int))
      refine ⟨_, results_cell76 rfl _ _ _ rfl ?_, ⟨ys, found, (y, z), HS.out, HBE.out, rfl, ?_⟩⟩
      · simp only [World.putObj, Array.getElem?_setIfInBounds]
        rw [if_neg (by omega)]
        exact r1
      · exact ((HB.out.setCell (p := ⟨w.heap.size + 1, 0, none⟩) (by simp) _).setCell (p := ⟨w.heap.size + 1, 1, none⟩) (by simp) _).drew.trans (belowK_b (w := w) (Nat.le_refl _) _ D _ _ (by omega) hK' rfl rfl)
  case stop =>
    rintro D c pre W _ _ h _
    exact h.elim
end Go.Proofs.Ytlgdnbpboonhdaa
