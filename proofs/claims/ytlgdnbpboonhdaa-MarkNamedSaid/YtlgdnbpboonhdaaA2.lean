/- The first pair of a map, in the order of pairs. Apart and Clash, by their contracts. What is noted of worn marks: a row of bools that turns, and what stays beside it; marks of loops over iterators, one behind another. -/
import Derived.Test.YtlgdnbpboonhdaaK2
import Derived.Test.YtlgdnbpboonhdaaR4
import Derived.Lib.SliceRun
import Derived.Lib.LazyBuf
import Derived.Lib.BufferOwn
import Derived.RangeFuncLeaves
namespace Go.Proofs.Ytlgdnbpboonhdaa
open Go.RowKit Go.Shelf Go.Maps
set_option linter.unusedVariables false
attribute [local go_sem] Oper.semAt_some
def lexO (p q : Nat × Nat) : Int := orL [cmpI p.1 q.1, cmpI p.2 q.2]
/-- What stands in the loop's two variables behind some pairs. -/
def BestIs (ys : List (Nat × Nat)) (found : Bool) (p : Nat × Nat) : Prop := (ys = [] ∧ found = false ∧ p = (0, 0)) ∨ (found = true ∧ p ∈ ys ∧ ∀ q ∈ ys, 0 ≤ lexO q p)
theorem cellsOf76 : Try.prog.cellsOf 76 = 2 := by kernel_rfl
theorem lexO_neg (p q : Nat × Nat) : lexO p q < 0 ↔ (p.1 < q.1 ∨ p.1 = q.1 ∧ p.2 < q.2) := by
  unfold lexO
  simp only [orL, cmpI]
  split <;> split <;> simp_all <;> omega
theorem BestIs.first {x : Nat × Nat} : BestIs ([] ++ [x]) true x := .inr ⟨rfl, by simp, fun q hq => by
  simp at hq; subst hq
  have := lexO_neg q q
  omega⟩
theorem BestIs.better {ys : List (Nat × Nat)} {p x : Nat × Nat} (hp : p ∈ ys) (h : ∀ q ∈ ys, 0 ≤ lexO q p) (hx : lexO x p < 0) : BestIs (ys ++ [x]) true x := .inr ⟨rfl, by simp, fun q hq => by
  rcases List.mem_append.1 hq with hq | hq
  · have h1 := h q hq
    have h2 := lexO_neg q p
    have h3 := lexO_neg x p
    have h4 := lexO_neg q x
    omega
  · simp at hq; subst hq
    have := lexO_neg q q
    omega⟩
theorem BestIs.same {ys : List (Nat × Nat)} {p x : Nat × Nat} (hp : p ∈ ys) (h : ∀ q ∈ ys, 0 ≤ lexO q p) (hx : ¬ lexO x p < 0) : BestIs (ys ++ [x]) true p := .inr ⟨rfl, by simp [hp], fun q hq => by
  rcases List.mem_append.1 hq with hq | hq
  · exact h q hq
  · simp at hq; subst hq; omega⟩
theorem results_cell76 {fn : Func} {p t : Tmp} {k q : Int} (h : fn.results = #[.cell p 76, .tmp t]) (tmps : Array Value) (w : World) (b : Nat)
    (hp : tmps.getD p undef = .pointer (some ⟨b, 0, none⟩)) (hc : w.heap[b]? = some (.cells #[.int .i64 k, .int .i64 q] 76 (0, 0))) :
    (results fn tmps).run Try.prog w = .ok (.tuple #[.agg #[.int .i64 k, .int .i64 q], tmps.getD t undef]) w := by
  have hp' : tmps[p]?.getD undef = .pointer (some ⟨b, 0, none⟩) := by simpa using hp
  have c0 : w.cell? ⟨b, 0, none⟩ = some (.int .i64 k) := by rw [cell_of_row _ _ _ _ _ _ hc]; rfl
  have c1 : w.cell? ⟨b, 1, none⟩ = some (.int .i64 q) := by rw [cell_of_row _ _ _ _ _ _ hc]; rfl
  simp [results, h, hp', asAddr, loadVar, isAgg, run_underlying Try.underlying76, go_sem, c0, c1]
theorem ext_walks {w w' : World} (h : Ext w w') : KeepsWalks w w' := ⟨h.size, fun k o hk _ => block_ext h hk⟩
theorem set_other {W : World} {b c o : Nat} {v : Value} (h : c ≠ b) : (W.setCell ⟨b, o, none⟩ v).heap[c]? = W.heap[c]? := by
  show (W.heap.modify b _)[c]? = _
  rw [Array.getElem?_modify]
  simp [Ne.symm h]
theorem cells2_set {W : World} {b : Nat} {u v : Value} {t : TypeId} {fr : Nat × Nat} (h : W.heap[b]? = some (.cells #[u, v] t fr)) (u' v' : Value) :
    ((W.setCell ⟨b, 0, none⟩ u').setCell ⟨b, 1, none⟩ v').heap[b]? = some (.cells #[u', v'] t fr) := by
  have h1 : (W.setCell ⟨b, 0, none⟩ u').heap[b]? = some (.cells #[u', v] t fr) := by
    show (W.heap.modify b _)[b]? = _
    rw [Array.getElem?_modify, h]
    simp
  show ((W.setCell ⟨b, 0, none⟩ u').heap.modify b _)[b]? = _
  rw [Array.getElem?_modify, h1]
  simp
def Inv65 (w : World) (pre : List (Nat × Nat)) (W : World) : Prop :=
  (∃ (found : Bool) (x y : Nat), BestIs pre found (x, y) ∧ W.heap[w.heap.size + 1 + 1]? = some (.cells #[.int .i64 (x : Int), .int .i64 (y : Int)] 76 (0, 0)) ∧ Boxed W (w.heap.size + 1 + 1 + 1) 4 (.bool found) ∧
      Boxed W w.heap.size 83 (.func (.func 67) #[] #[]) ∧ W.heap[w.heap.size + 1]? = some (.cells #[.int .i64 ((0 : Nat) : Int), .int .i64 ((0 : Nat) : Int)] 76 (0, 0))) ∧ Below w.heap.size w W
theorem stored65 {w W : World} {y z i k : Nat} {fb : Bool} {ys : List (Nat × Nat)} (hb : BestIs ys true (i, k)) (h0 : Boxed W w.heap.size 83 (.func (.func 67) #[] #[]))
    (h1 : W.heap[w.heap.size + 1]? = some (.cells #[.int .i64 ((0 : Nat) : Int), .int .i64 ((0 : Nat) : Int)] 76 (0, 0))) (h2 : W.heap[w.heap.size + 1 + 1]? = some (.cells #[.int .i64 (y : Int), .int .i64 (z : Int)] 76 (0, 0)))
    (h3 : Boxed W (w.heap.size + 1 + 1 + 1) 4 (.bool fb)) (hE : Below w.heap.size w W) :
    KeepsOthers W (((W.setCell ⟨w.heap.size + 1 + 1, 0, none⟩ (.int .i64 (i : Int))).setCell ⟨w.heap.size + 1 + 1, 1, none⟩ (.int .i64 (k : Int))).setCell ⟨w.heap.size + 1 + 1 + 1, 0, none⟩ (.bool true)) ∧
    KeepsWalks W (((W.setCell ⟨w.heap.size + 1 + 1, 0, none⟩ (.int .i64 (i : Int))).setCell ⟨w.heap.size + 1 + 1, 1, none⟩ (.int .i64 (k : Int))).setCell ⟨w.heap.size + 1 + 1 + 1, 0, none⟩ (.bool true)) ∧
    Inv65 w ys (((W.setCell ⟨w.heap.size + 1 + 1, 0, none⟩ (.int .i64 (i : Int))).setCell ⟨w.heap.size + 1 + 1, 1, none⟩ (.int .i64 (k : Int))).setCell ⟨w.heap.size + 1 + 1 + 1, 0, none⟩ (.bool true)) := by
  refine ⟨((KeepsOthers.setCell _ _ _).trans (KeepsOthers.setCell _ _ _)).trans (KeepsOthers.setCell _ _ _), ((KeepsWalks.setCell _ _ _).trans (KeepsWalks.setCell _ _ _)).trans (KeepsWalks.setCell _ _ _), ⟨true, i, k, hb, ?_, ?_, ?_, ?_⟩, ?_⟩
  · rw [set_other (by omega)]
    exact cells2_set h2 _ _
  · refine Boxed.set (v := .bool fb) (.bool true) ?_
    show _ = _
    rw [set_other (by omega), set_other (by omega)]
    exact h3
  · show _ = _
    rw [set_other (by omega), set_other (by omega), set_other (by omega)]
    exact h0
  · rw [set_other (by omega), set_other (by omega), set_other (by omega)]
    exact h1
  · exact ((hE.setCell (p := ⟨w.heap.size + 1 + 1, 0, none⟩) (by simp; omega) _).setCell (p := ⟨w.heap.size + 1 + 1, 1, none⟩) (by simp; omega) _).setCell (p := ⟨w.heap.size + 1 + 1 + 1, 0, none⟩) (by simp; omega) _
set_option maxRecDepth 100000 in
set_option maxHeartbeats 4000000 in
theorem first65 (Bm b nn : Nat) (g : Nat × Nat → Option Nat) (w : World) (hm : w.cell? ⟨Bm, 0, none⟩ = some (.map (some b))) (hown : ClMap w b nn g) :
    Calls Try.prog 65 #[.func (.func 94) #[] #[.pointer (some ⟨Bm, 0, none⟩)], .func (.func 67) #[] #[]] w fun e w' => ∃ ys found p, AllOf g ys ∧ BestIs ys found p ∧ e = .returned (.tuple #[kv p, .bool found]) ∧ Ext w w' := by
  refine (callsIn_wide (n := 10)).1 ?_
  have HM := Lib.hid hm
  have HO := Lib.hid hown
  clear hm hown
  refine callsIn_of_wp_marks Try.func65 rfl trivial ?_ rfl
  simp only [Try.ntmps65, List.size_toArray, List.length_cons, List.length_nil, Nat.reduceAdd, Nat.reduceSub, Array.replicate_succ, Array.replicate_zero, List.push_toArray, List.append_toArray, List.nil_append, List.cons_append]
  gi_wp2
  have b0 := (((Boxed.new w 83 (.func (.func 67) #[] #[])).alloc (.cells #[.int .i64 0, .int .i64 0] 76)).alloc (.cells #[.int .i64 0, .int .i64 0] 76)).alloc (.cells #[.bool false] 4)
  have b3 := Boxed.new (((w.alloc (.cells #[.func (.func 67) #[] #[]] 83)).alloc (.cells #[.int .i64 0, .int .i64 0] 76)).alloc (.cells #[.int .i64 0, .int .i64 0] 76)) 4 (.bool false)
  have b1 : ((((w.alloc (.cells #[.func (.func 67) #[] #[]] 83)).alloc (.cells #[.int .i64 0, .int .i64 0] 76)).alloc (.cells #[.int .i64 0, .int .i64 0] 76)).alloc (.cells #[.bool false] 4)).heap[w.heap.size + 1]? = some (.cells #[.int .i64 ((0 : Nat) : Int), .int .i64 ((0 : Nat) : Int)] 76 (0, 0)) := by
    refine (Below.heap_alloc _ _ _ (by simp)).trans ((Below.heap_alloc _ _ _ (by simp)).trans ?_)
    have := heap_alloc_new (w.alloc (.cells #[.func (.func 67) #[] #[]] 83)) (.cells #[.int .i64 0, .int .i64 0] 76)
    rwa [World.size_alloc] at this
  have b2 : ((((w.alloc (.cells #[.func (.func 67) #[] #[]] 83)).alloc (.cells #[.int .i64 0, .int .i64 0] 76)).alloc (.cells #[.int .i64 0, .int .i64 0] 76)).alloc (.cells #[.bool false] 4)).heap[w.heap.size + 1 + 1]? = some (.cells #[.int .i64 ((0 : Nat) : Int), .int .i64 ((0 : Nat) : Int)] 76 (0, 0)) := by
    refine (Below.heap_alloc _ _ _ (by simp)).trans ?_
    have := heap_alloc_new ((w.alloc (.cells #[.func (.func 67) #[] #[]] 83)).alloc (.cells #[.int .i64 0, .int .i64 0] 76)) (.cells #[.int .i64 0, .int .i64 0] 76)
    rwa [World.size_alloc, World.size_alloc] at this
  have hB0 : Below w.heap.size w ((((w.alloc (.cells #[.func (.func 67) #[] #[]] 83)).alloc (.cells #[.int .i64 0, .int .i64 0] 76)).alloc (.cells #[.int .i64 0, .int .i64 0] 76)).alloc (.cells #[.bool false] 4)) := ((((Ext.refl w).alloc _).alloc _).alloc _).alloc _
  have hsz : ((((w.alloc (.cells #[.func (.func 67) #[] #[]] 83)).alloc (.cells #[.int .i64 0, .int .i64 0] 76)).alloc (.cells #[.int .i64 0, .int .i64 0] 76)).alloc (.cells #[.bool false] 4)).heap.size = w.heap.size + 4 := by simp
  simp only [World.size_alloc] at b3
  obtain ⟨W0, hW0⟩ : ∃ W0, (((w.alloc (.cells #[.func (.func 67) #[] #[]] 83)).alloc (.cells #[.int .i64 0, .int .i64 0] 76)).alloc (.cells #[.int .i64 0, .int .i64 0] 76)).alloc (.cells #[.bool false] 4) = W0 := ⟨_, rfl⟩
  rw [hW0] at b0 b1 b2 b3 hB0 hsz ⊢
  clear hW0
  refine wpIn_rangeFunc_ownH rfl (by omega) (gf := 94) (lb := #[.pointer (some ⟨Bm, 0, none⟩)]) rfl trivial (enters_of Try.func94 (by kernel_rfl) rfl)
    (keys_stops 9 Bm b nn g (by omega) W0 (cell_ext hB0 HM.out) (HO.out.ext hB0)) KeepsWalks.trans (fun W l o o' _ h1 h2 h3 => KeepsWalks.putObj o' h1 h3) (Below.refl _ _) (fun _ => rfl)
    (Inv65 w)
    (fun _ _ _ => False)
    ?hI (fun _ _ _ _ _ h _ _ => h) ⟨⟨false, 0, 0, .inl ⟨rfl, rfl, rfl⟩, b2, b3, b0, b1⟩, hB0⟩
    (fun x a' W => ∃ Bx, W0.heap.size ≤ Bx ∧ W.heap[Bx]? = some (.cells #[.int .i64 (x.1 : Int), .int .i64 (x.2 : Int)] 76 (0, 0)) ∧ a' = { tmps := #[.func (.func 94) #[] #[.pointer (some ⟨Bm, 0, none⟩)], .func (.func 67) #[] #[], undef, .pointer (some ⟨w.heap.size, 0, none⟩), .pointer (some ⟨w.heap.size + 1, 0, none⟩), .bool false, .pointer (some ⟨w.heap.size + 1 + 1, 0, none⟩), .pointer (some ⟨w.heap.size + 1 + 1 + 1, 0, none⟩), .pointer (some ⟨Bx, 0, none⟩), .func (.func 94) #[] #[.pointer (some ⟨Bm, 0, none⟩)], .agg #[.int .i64 (x.1 : Int), .int .i64 (x.2 : Int)], undef, undef, undef, undef, undef, undef, undef, undef, undef, undef, undef, undef], defers := [] })
    ?hAx ?assign ?body ?done ?stop
  case hI => exact OwnFrom.and (fun s A B row hs hg hr => let ⟨found, x, y, h1, h2, h3, h4, h5⟩ := hs; ⟨found, x, y, h1, cells_turn h2 hg hr, boxed_turn h3 hg hr, boxed_turn h4 hg hr, cells_turn h5 hg hr⟩) (ownFrom_below (Nat.le_refl _) hB0.size)
  case hAx => exact fun x a' s A B row hs hg hr => let ⟨Bx, h1, h2, h3⟩ := hs; ⟨Bx, h1, cells_turn h2 hg hr, h3⟩
  case assign =>
    rintro l pre x W K ⟨⟨found, y, z, hbest, q2, q3, q0, q1⟩, hB⟩ hK
    obtain ⟨i, k⟩ := x
    dsimp only [kv]
    gi_wp2
    have h3l := q3.lt
    have h2l := (Array.getElem?_eq_some_iff.1 q2).1
    have h1l := (Array.getElem?_eq_some_iff.1 q1).1
    exact hK _ _ ((KeepsOthers.alloc _ _).from _) (KeepsWalks.alloc _ _) ⟨⟨found, y, z, hbest, (Below.heap_alloc _ _ _ h2l).trans q2, q3.alloc _, q0.alloc _, (Below.heap_alloc _ _ _ h1l).trans q1⟩, hB.alloc hB.size _⟩ ⟨W.heap.size, by omega, heap_alloc_new _ _, rfl⟩
  case body =>
    rintro l pre x a' W hl ⟨r, hrl⟩ ⟨⟨found, y, z, hbest, q2, q3, q0, q1⟩, hB⟩ ⟨Bx, hBx, bX, rfl⟩ hlt
    obtain ⟨i, k⟩ := x
    dsimp only at bX ⊢
    have c0 := q0.cell
    have c3 := q3.cell
    have f3 := q3.frozen
    have cX0 : W.cell? ⟨Bx, 0, none⟩ = some (.int .i64 (i : Int)) := by rw [cell_of_row _ _ _ _ _ _ bX]; rfl
    have cX1 : W.cell? ⟨Bx, 1, none⟩ = some (.int .i64 (k : Int)) := by rw [cell_of_row _ _ _ _ _ _ bX]; rfl
    have c20 : W.cell? ⟨w.heap.size + 1 + 1, 0, none⟩ = some (.int .i64 (y : Int)) := by rw [cell_of_row _ _ _ _ _ _ q2]; rfl
    have c21 : W.cell? ⟨w.heap.size + 1 + 1, 1, none⟩ = some (.int .i64 (z : Int)) := by rw [cell_of_row _ _ _ _ _ _ q2]; rfl
    have Q0 := Lib.hid q0; have Q1 := Lib.hid q1; have Q2 := Lib.hid q2; have Q3 := Lib.hid q3; have HE := Lib.hid hB; have HRL := Lib.hid hrl; have HBX := Lib.hid bX
    clear q0 q1 q2 q3 hB hrl bX b0 b1 b2 b3
    rcases hbest with ⟨rfl, rfl, hz⟩ | ⟨rfl, hp, hall⟩
    · have f20 := frozen_of_row _ _ 0 _ _ Q2.out
      have f21 := frozen_of_row _ _ 1 _ _ Q2.out
      gi_wp2
      refine ⟨fun f h => (by cases h), ?_⟩
      gi_wp2
      obtain ⟨k1, k2, k3⟩ := stored65 (BestIs.first (x := (i, k))) Q0.out Q1.out Q2.out Q3.out HE.out
      exact ⟨k1.from _, k2, k3⟩
    · have HP := Lib.hid hp; have HA := Lib.hid hall
      clear hp hall
      obtain ⟨o, ho⟩ : ∃ o : Int, o = lexO (i, k) (y, z) := ⟨_, rfl⟩
      have H67 := Lib.hid (inOrder67_any (i : Int) (k : Int) (y : Int) (z : Int) W)
      rw [show orL [cmpI (i : Int) (y : Int), cmpI (k : Int) (z : Int)] = o from ho.symm] at H67
      have HO' := Lib.hid ho
      clear ho
      by_cases hneg : o < 0
      · gi_wp2_with (refine ⟨trivial, ?_⟩; gi_at_call 67; refine (CallsIn.inRound l (callsIn_wide.2 H67.out)).mono ?_; rintro e w' ⟨rfl, hb⟩; have cX0 := cell_ext hb cX0; have cX1 := cell_ext hb cX1; have f20 := frozen_of_row _ _ 0 _ _ (block_ext hb Q2.out); have f21 := frozen_of_row _ _ 1 _ _ (block_ext hb Q2.out); have f3 := Boxed.frozen (block_ext hb Q3.out); have c20 := cell_ext hb c20; have c21 := cell_ext hb c21; have c3 := cell_ext hb c3; have HB := Lib.hid hb; clear hb)
        obtain ⟨k1, k2, k3⟩ := stored65 (BestIs.better HP.out HA.out (by rw [← HO'.out]; exact hneg)) (block_ext HB.out Q0.out) (block_ext HB.out Q1.out) (block_ext HB.out Q2.out) (block_ext HB.out Q3.out) (HE.out.trans (HB.out.mono HE.out.size))
        exact ⟨((ext_keeps HB.out).trans k1).from _, (ext_walks HB.out).trans k2, k3⟩
      · gi_wp2_with (refine ⟨trivial, ?_⟩; gi_at_call 67; refine (CallsIn.inRound l (callsIn_wide.2 H67.out)).mono ?_; rintro e w' ⟨rfl, hb⟩; have HB := Lib.hid hb; clear hb)
        exact ⟨(ext_keeps HB.out).from _, ext_walks HB.out, ⟨true, y, z, BestIs.same HP.out HA.out (by rw [← HO'.out]; omega), block_ext HB.out Q2.out, block_ext HB.out Q3.out, block_ext HB.out Q0.out, block_ext HB.out Q1.out⟩, HE.out.trans (HB.out.mono HE.out.size)⟩
  case done =>
    rintro D ys W hD hS ⟨⟨found, y, z, hbest, q2, q3, q0, q1⟩, hB⟩ hK
    have c3 := q3.cell
    have c20 : W.cell? ⟨w.heap.size + 1 + 1, 0, none⟩ = some (.int .i64 (y : Int)) := by rw [cell_of_row _ _ _ _ _ _ q2]; rfl
    have c21 : W.cell? ⟨w.heap.size + 1 + 1, 1, none⟩ = some (.int .i64 (z : Int)) := by rw [cell_of_row _ _ _ _ _ _ q2]; rfl
    have c10 : W.cell? ⟨w.heap.size + 1, 0, none⟩ = some (.int .i64 ((0 : Nat) : Int)) := by rw [cell_of_row _ _ _ _ _ _ q1]; rfl
    have c11 : W.cell? ⟨w.heap.size + 1, 1, none⟩ = some (.int .i64 ((0 : Nat) : Int)) := by rw [cell_of_row _ _ _ _ _ _ q1]; rfl
    have f10 := frozen_of_row _ _ 0 _ _ q1
    have f11 := frozen_of_row _ _ 1 _ _ q1
    have HK := Lib.hid hK; have Q1 := Lib.hid q1; have HB := Lib.hid hB; have HBE := Lib.hid hbest; have HS := Lib.hid hS
    clear hK q1 q2 q0 q3 hB hbest hS b0 b1 b2 b3
    have hmix : Try.prog.follows .mixedOrders = true := by kernel_rfl
    gi_wp2
    gi_region
    all_goals
      gi_wp2
      have hK' : ((W.setCell ⟨w.heap.size + 1, 0, none⟩ (.int .i64 (y : Int))).setCell ⟨w.heap.size + 1, 1, none⟩ (.int .i64 (z : Int))).drew.heap[D]? = some (.deferred (some [])) := ((KeepsOthers.setCell _ _ _).trans (KeepsOthers.setCell _ _ _)).same D _ HK.out rfl
      refine ⟨by simp, .inl ⟨_, _, rfl, run_takeDeferred hK', ?_⟩⟩
      have r1 := cells2_set Q1.out (.int .i64 (y : Int)) (.int .i64 (z : Int))
      refine ⟨_, results_cell76 rfl _ _ _ rfl ?_, ⟨ys, found, (y, z), HS.out, HBE.out, rfl, ?_⟩⟩
      · simp only [World.putObj, Array.getElem?_setIfInBounds]
        rw [if_neg (by omega)]
        exact r1
      · exact ((HB.out.setCell (p := ⟨w.heap.size + 1, 0, none⟩) (by simp) _).setCell (p := ⟨w.heap.size + 1, 1, none⟩) (by simp) _).drew.trans (belowK_b (w := w) (Nat.le_refl _) _ D _ _ (by omega) hK' rfl rfl)
  case stop =>
    rintro D c pre W _ _ h _
    exact h.elim
end Go.Proofs.Ytlgdnbpboonhdaa
namespace Go.Proofs.Ytlgdnbpboonhdaa
open Go.RowKit Go.Shelf Go.Maps
set_option linter.unusedVariables false
theorem mem_rowTo {i k : Nat} {p : Nat × Nat} : p ∈ rowTo i k ↔ p.1 = i ∧ i < p.2 ∧ p.2 < k := by
  unfold rowTo
  simp only [List.mem_map, List.mem_range'_1]
  constructor
  · rintro ⟨j, hj, rfl⟩; simp; omega
  · rintro ⟨rfl, h1, h2⟩; exact ⟨p.2, by omega, rfl⟩
theorem mem_pairsL {n : Nat} {p : Nat × Nat} : p ∈ pairsL n ↔ p.1 < p.2 ∧ p.2 < n := by
  unfold pairsL rowsTo
  simp only [List.mem_flatMap, List.mem_range, mem_rowTo]
  constructor
  · rintro ⟨j, hj, rfl, h1, h2⟩; omega
  · rintro ⟨h1, h2⟩; exact ⟨p.1, by omega, rfl, h1, h2⟩
theorem pairs_sorted (n : Nat) (h : n ≤ 12) : (pairsL n).Pairwise (fun p q => lexO p q < 0) := by
  have : ∀ n, n < 13 → (pairsL n).Pairwise (fun p q => lexO p q < 0) := by decide +kernel
  exact this n (by omega)
/-- The first two owners whose marks clash. -/
def clash1 (ms : List Nat) (L : Nat) : Option (Nat × Nat) := (pairsL ms.length).find? (clB ms L)
theorem clF_some (ms : List Nat) (L : Nat) (p : Nat × Nat) : (clF ms L (pairsL ms.length) p).isSome = true ↔ p ∈ pairsL ms.length ∧ clB ms L p = true := by
  unfold clF; split <;> simp_all
theorem clash1_best (ms : List Nat) (L : Nat) (hn : ms.length ≤ 12) (ys : List (Nat × Nat)) (found : Bool) (p : Nat × Nat) (ha : AllOf (clF ms L (pairsL ms.length)) ys) (hb : BestIs ys found p) :
    clash1 ms L = (if found = true then some p else none) ∧ (found = false → p = (0, 0)) := by
  have hall : ∀ q, q ∈ ys ↔ q ∈ pairsL ms.length ∧ clB ms L q = true := fun q => by
    rw [ha.2 q, clF_some]
    constructor
    · exact fun h => h.2
    · exact fun h => ⟨by have := mem_pairsL.1 h.1; omega, h⟩
  rcases hb with ⟨rfl, rfl, rfl⟩ | ⟨rfl, hp, hmin⟩
  · refine ⟨?_, fun _ => rfl⟩
    simp only [Bool.false_eq_true, if_false]
    refine List.find?_eq_none.2 fun q hq hc => ?_
    have := (hall q).2 ⟨hq, hc⟩
    simp at this
  · refine ⟨?_, fun h => by cases h⟩
    simp only [if_true]
    obtain ⟨hp1, hp2⟩ := (hall p).1 hp
    obtain ⟨xs, bs, hs⟩ := List.append_of_mem hp1
    refine List.find?_eq_some_iff_append.2 ⟨hp2, xs, bs, hs, fun x hx => ?_⟩
    have hsort := pairs_sorted ms.length hn
    rw [hs] at hsort
    have h1 := (List.pairwise_append.1 hsort).2.2 x hx p (by simp)
    cases hc : clB ms L x with
    | false => rfl
    | true =>
      have h2 := hmin x ((hall x).2 ⟨by rw [hs]; simp [hx], hc⟩)
      omega
def apart3 : Option (Nat × Nat) → Int × Int × Int
  | none => (0, 0, 0)
  | some p => (p.1, p.2, 17)
set_option maxRecDepth 100000 in
set_option maxHeartbeats 4000000 in
theorem apart26_ok (S L : Nat) (ms : List Nat) (v : Value) (w : World) (hv : Valid S L ms) (hr : Reads w v (ints ms)) :
    Calls Try.prog 26 #[.agg #[.int .i64 (S : Int), .int .i64 (L : Int), v]] w fun e w' => e = .returned (.tuple #[.int .i64 (apart3 (clash1 ms L)).1, .int .i64 (apart3 (clash1 ms L)).2.1, .int .i64 (apart3 (clash1 ms L)).2.2]) ∧ Ext w w' := by
  obtain ⟨hl, a, cap, rfl⟩ := hr.shape
  have E0 := Lib.hid ((Ext.refl w).alloc (.cells #[.int .i64 (S : Int), .int .i64 (L : Int), .slice a (ints ms).length cap] 24))
  have HO := Lib.hid (open_ok S L ms _ (.slice none 0 0) [] _ hv (hr.ext E0.out) (Reads.nil _) rfl)
  have HR := Lib.hid hr; have HV := Lib.hid hv
  clear hr hv
  go_enter Try.func26, Try.ntmps26
  go_wp2_with fail
  refine HO.out.mono ?_
  rintro e w' ⟨b, bt, rfl, _, _, _, ho, _, _, hb⟩
  have HB := Lib.hid (E0.out.trans hb); have HOO := Lib.hid ho
  clear hb ho
  go_wp2_with fail
  refine (clashing62 b S L ms _ _ HV.out ⟨HOO.out, HR.out.ext HB.out⟩).mono ?_
  rintro e w2 ⟨B, rfl, hB, hmap, hb2⟩
  have HB2 := Lib.hid (HB.out.trans hb2); have HM := Lib.hid hmap; clear hb2 hmap
  go_wp2_with fail
  refine (keys66 (some B) w2).mono ?_
  rintro e w3 ⟨rfl, rfl⟩
  have hm1 := (Boxed.new w2 73 (.map (some B))).cell
  have hext : Ext w2 (w2.alloc (.cells #[.map (some B)] 73)) := (Ext.refl _).alloc _
  go_wp2_with fail
  refine (first65 w2.heap.size B 200 _ _ hm1 (HM.out.ext hext)).mono ?_
  rintro e w4 ⟨ys, found, p, hall, hbest, rfl, hb4⟩
  have HB4 := Lib.hid ((HB2.out.trans hext).trans hb4)
  obtain ⟨hc1, hc2⟩ := clash1_best ms L HV.out.2.2.2.1 ys found p hall hbest
  clear hm1 hext hb4 hall hbest
  obtain ⟨i, k⟩ := p
  have HC1 := Lib.hid hc1; have HC2 := Lib.hid hc2
  clear hc1 hc2
  dsimp only [kv]
  cases found with
  | false =>
    go_wp2
    refine bodyPost_ret (results_tmp3 rfl _ _ _) rfl ?_
    rw [HC1.out]
    exact ⟨rfl, Ext.alloc HB4.out _⟩
  | true =>
    have hmix : Try.prog.follows .mixedOrders = true := by kernel_rfl
    go_wp2
    go_region
    all_goals
      go_wp2
      refine bodyPost_ret (results_tmp3 rfl _ _ _) rfl ?_
      rw [HC1.out]
      exact ⟨rfl, (Ext.alloc HB4.out _).drew⟩
theorem apart26_err (S L : Int) (xs : List Int) (v : Value) (w : World) (hr : Reads w v xs) (hc : chk S L xs ≠ 0) :
    Calls Try.prog 26 #[.agg #[.int .i64 S, .int .i64 L, v]] w fun e w' => e = .returned (.tuple #[.int .i64 0, .int .i64 0, .int .i64 (chk S L xs)]) ∧ Ext w w' := by
  obtain ⟨hl, a, cap, rfl⟩ := hr.shape
  have E0 := Lib.hid ((Ext.refl w).alloc (.cells #[.int .i64 S, .int .i64 L, .slice a xs.length cap] 24))
  have H := Lib.hid (open_err S L xs _ (.slice none 0 0) _ (hr.ext E0.out) hc)
  clear hr
  obtain ⟨c, hc'⟩ : ∃ c, c = chk S L xs := ⟨_, rfl⟩
  rw [← hc'] at hc H ⊢
  have hd : (c != 0) = true := by simpa using hc
  clear hc hc'
  go_enter Try.func26, Try.ntmps26
  go_wp2_with fail
  refine H.out.mono ?_
  rintro e w' ⟨rfl, hb⟩
  have HB := Lib.hid (E0.out.trans hb); clear hb
  go_wp2
  refine bodyPost_ret (results_tmp3 rfl _ _ _) rfl ?_
  exact ⟨rfl, HB.out⟩
def clash2 (ms : List Nat) (L i k : Nat) : Option Nat := clF ms L (pairsL ms.length) (min i k, max i k)
def clashV : Option Nat → Int × Int
  | none => (0, 5)
  | some s => (s, 0)
set_option maxRecDepth 100000 in
set_option maxHeartbeats 4000000 in
theorem clash24_ok (S L i k : Nat) (ms : List Nat) (v : Value) (w : World) (hv : Valid S L ms) (hr : Reads w v (ints ms)) (hi : i < ms.length) (hk : k < ms.length) (hne : i ≠ k) :
    Calls Try.prog 24 #[.agg #[.int .i64 (S : Int), .int .i64 (L : Int), v], .int .i64 (i : Int), .int .i64 (k : Int)] w fun e w' => e = .returned (.tuple #[.int .i64 (clashV (clash2 ms L i k)).1, .int .i64 (clashV (clash2 ms L i k)).2]) ∧ Ext w w' := by
  obtain ⟨hl, a, cap, rfl⟩ := hr.shape
  have hn := hv.2.2.2.1
  have E0 := Lib.hid (((Ext.refl w).alloc (.cells #[.int .i64 (S : Int), .int .i64 (L : Int), .slice a (ints ms).length cap] 24)).alloc (.cells #[.int .i64 (i : Int), .int .i64 (k : Int)] 3))
  have HO := Lib.hid (open_ok S L ms _ (.slice (some ⟨(w.alloc (.cells #[.int .i64 (S : Int), .int .i64 (L : Int), .slice a (ints ms).length cap] 24)).heap.size, 0, none⟩) 2 2) [(i : Int), (k : Int)] _ hv (hr.ext E0.out) (Reads.new (w.alloc (.cells #[.int .i64 (S : Int), .int .i64 (L : Int), .slice a (ints ms).length cap] 24)) _ 3 _ rfl (by simp) _ rfl 2 2 rfl) (by simp [inR]; omega))
  rw [World.size_alloc] at HO
  have HR := Lib.hid hr; have HV := Lib.hid hv
  have hik : (i : Int) ≠ (k : Int) := by omega
  have hd : ((i : Int) == (k : Int)) = false := by simpa using hik
  clear hr hv
  go_enter Try.func24, Try.ntmps24
  go_wp2_with fail
  refine HO.out.mono ?_
  rintro e w' ⟨b, bt, rfl, _, _, _, ho, _, _, hb⟩
  have HB := Lib.hid (E0.out.trans hb); have HOO := Lib.hid ho
  clear hb ho
  go_wp2_with fail
  refine (clashing62 b S L ms _ _ HV.out ⟨HOO.out, HR.out.ext HB.out⟩).mono ?_
  rintro e w2 ⟨B, rfl, hB, hmap, hb2⟩
  have HB2 := Lib.hid (HB.out.trans hb2)
  have hmin : ∃ p q : Nat, (min i k, max i k) = (p, q) ∧ p < q ∧ q < ms.length ∧ ((p = i ∧ q = k) ∨ (p = k ∧ q = i)) := by
    rcases Nat.lt_or_gt_of_ne hne with h | h
    · exact ⟨i, k, by rw [Nat.min_eq_left (by omega), Nat.max_eq_right (by omega)], h, hk, .inl ⟨rfl, rfl⟩⟩
    · exact ⟨k, i, by rw [Nat.min_eq_right (by omega), Nat.max_eq_left (by omega)], h, hi, .inr ⟨rfl, rfl⟩⟩
  obtain ⟨p, q, hpq, hlt, hql, hcase⟩ := hmin
  have HCL : Hid (clash2 ms L i k = clF ms L (pairsL ms.length) (p, q)) := Lib.hid (by unfold clash2; rw [hpq])
  obtain ⟨c, hrun, hc⟩ := hmap.look (p, q) ⟨by simp; omega, by simp; omega⟩
  obtain ⟨o, ho⟩ : ∃ o, o = clF ms L (pairsL ms.length) (p, q) := ⟨_, rfl⟩
  rw [← ho] at hrun hc HCL
  have HC := Lib.hid hc
  dsimp only [kv] at hrun
  clear hb2 hmap hc hpq ho
  cases o with
  | none =>
    rcases hcase with ⟨rfl, rfl⟩ | ⟨rfl, rfl⟩
    all_goals
      go_wp2
      all_goals first
        | (exfalso; omega)
        | (go_ret2; rw [HCL.out]; exact ⟨rfl, HB2.out⟩)
  | some s =>
    obtain rfl := HC.out s rfl
    rcases hcase with ⟨rfl, rfl⟩ | ⟨rfl, rfl⟩
    all_goals
      go_wp2
      all_goals first
        | (exfalso; omega)
        | (go_ret2; rw [HCL.out]; exact ⟨rfl, HB2.out⟩)
theorem clash24_same (S L i : Nat) (ms : List Nat) (v : Value) (w : World) (hv : Valid S L ms) (hr : Reads w v (ints ms)) (hi : i < ms.length) :
    Calls Try.prog 24 #[.agg #[.int .i64 (S : Int), .int .i64 (L : Int), v], .int .i64 (i : Int), .int .i64 (i : Int)] w fun e w' => e = .returned (.tuple #[.int .i64 0, .int .i64 16]) ∧ Ext w w' := by
  obtain ⟨hl, a, cap, rfl⟩ := hr.shape
  have E0 := Lib.hid (((Ext.refl w).alloc (.cells #[.int .i64 (S : Int), .int .i64 (L : Int), .slice a (ints ms).length cap] 24)).alloc (.cells #[.int .i64 (i : Int), .int .i64 (i : Int)] 3))
  have HO := Lib.hid (open_ok S L ms _ (.slice (some ⟨(w.alloc (.cells #[.int .i64 (S : Int), .int .i64 (L : Int), .slice a (ints ms).length cap] 24)).heap.size, 0, none⟩) 2 2) [(i : Int), (i : Int)] _ hv (hr.ext E0.out) (Reads.new (w.alloc (.cells #[.int .i64 (S : Int), .int .i64 (L : Int), .slice a (ints ms).length cap] 24)) _ 3 _ rfl (by simp) _ rfl 2 2 rfl) (by simp [inR]; omega))
  rw [World.size_alloc] at HO
  clear hr hv
  go_enter Try.func24, Try.ntmps24
  go_wp2_with fail
  refine HO.out.mono ?_
  rintro e w' ⟨b, bt, rfl, _, _, _, ho, _, _, hb⟩
  have HB := Lib.hid (E0.out.trans hb)
  clear hb ho
  go_wp2
  go_ret2
  exact ⟨rfl, HB.out⟩
theorem clash24_arg (S L : Nat) (i k : Int) (ms : List Nat) (v : Value) (w : World) (hv : Valid S L ms) (hr : Reads w v (ints ms)) (hi : inR 0 ((ms.length : Int) - 1) [i, k] = false) :
    Calls Try.prog 24 #[.agg #[.int .i64 (S : Int), .int .i64 (L : Int), v], .int .i64 i, .int .i64 k] w fun e w' => e = .returned (.tuple #[.int .i64 0, .int .i64 2]) ∧ Ext w w' := by
  obtain ⟨hl, a, cap, rfl⟩ := hr.shape
  have E0 := Lib.hid (((Ext.refl w).alloc (.cells #[.int .i64 (S : Int), .int .i64 (L : Int), .slice a (ints ms).length cap] 24)).alloc (.cells #[.int .i64 i, .int .i64 k] 3))
  have HO := Lib.hid (open_arg S L ms _ (.slice (some ⟨(w.alloc (.cells #[.int .i64 (S : Int), .int .i64 (L : Int), .slice a (ints ms).length cap] 24)).heap.size, 0, none⟩) 2 2) [i, k] _ hv (hr.ext E0.out) (Reads.new (w.alloc (.cells #[.int .i64 (S : Int), .int .i64 (L : Int), .slice a (ints ms).length cap] 24)) _ 3 _ rfl (by simp) _ rfl 2 2 rfl) hi)
  rw [World.size_alloc] at HO
  clear hr hv
  go_enter Try.func24, Try.ntmps24
  go_wp2_with fail
  refine HO.out.mono ?_
  rintro e w' ⟨rfl, hb⟩
  have HB := Lib.hid (E0.out.trans hb)
  clear hb
  go_wp2
  go_ret2
  exact ⟨rfl, HB.out⟩
theorem clash24_err (S L i k : Int) (xs : List Int) (v : Value) (w : World) (hr : Reads w v xs) (hc : chk S L xs ≠ 0) :
    Calls Try.prog 24 #[.agg #[.int .i64 S, .int .i64 L, v], .int .i64 i, .int .i64 k] w fun e w' => e = .returned (.tuple #[.int .i64 0, .int .i64 (chk S L xs)]) ∧ Ext w w' := by
  obtain ⟨hl, a, cap, rfl⟩ := hr.shape
  have E0 := Lib.hid (((Ext.refl w).alloc (.cells #[.int .i64 S, .int .i64 L, .slice a xs.length cap] 24)).alloc (.cells #[.int .i64 i, .int .i64 k] 3))
  have H := Lib.hid (open_err S L xs _ (.slice (some ⟨w.heap.size + 1, 0, none⟩) 2 2) _ (hr.ext E0.out) hc)
  clear hr
  obtain ⟨c, hc'⟩ : ∃ c, c = chk S L xs := ⟨_, rfl⟩
  rw [← hc'] at hc H ⊢
  have hd : (c != 0) = true := by simpa using hc
  clear hc hc'
  go_enter Try.func24, Try.ntmps24
  go_wp2_with fail
  refine H.out.mono ?_
  rintro e w' ⟨rfl, hb⟩
  have HB := Lib.hid (E0.out.trans hb); clear hb
  go_wp2
  go_ret2
  exact ⟨rfl, HB.out⟩
end Go.Proofs.Ytlgdnbpboonhdaa
namespace Go.Proofs.Ytlgdnbpboonhdaa
open Go.RowKit Go.Shelf Go.Maps
set_option linter.unusedVariables false
/-- What is no bool stays. -/
def KeepsCells (w X : World) : Prop := ∀ g o v, (∀ t, v ≠ .bool t) → w.cell? ⟨g, o, none⟩ = some v → X.cell? ⟨g, o, none⟩ = some v
theorem KeepsCells.refl (w : World) : KeepsCells w w := fun _ _ _ _ h => h
theorem KeepsCells.trans {a b c : World} (h : KeepsCells a b) (k : KeepsCells b c) : KeepsCells a c := fun g o v hn hc => k g o v hn (h g o v hn hc)
theorem KeepsCells.ext {w X : World} (h : Ext w X) : KeepsCells w X := fun g o v _ hc => cell_ext h hc
theorem row_ne {w : World} {bt n g o : Nat} {T : Nat → Bool} {v : Value} (hr : w.rowIs bt 4 n (fun x => .bool (T x))) (hn : ∀ t, v ≠ .bool t) (hc : w.cell? ⟨g, o, none⟩ = some v) : g ≠ bt := by
  intro e
  subst e
  obtain ⟨c, hb, hs, hx⟩ := hr
  rw [cell_of_row _ _ _ _ _ _ hb] at hc
  obtain ⟨ho, _⟩ := Array.getElem?_eq_some_iff.1 hc
  rw [hx o (by omega)] at hc
  exact hn _ (Option.some.inj hc).symm
theorem KeepsCells.turned {w X : World} {bt n : Nat} {T : Nat → Bool} (hr : w.rowIs bt 4 n (fun x => .bool (T x))) (hg : w.grownBy X (some bt)) : KeepsCells w X := fun g o v hn hc =>
  hg.cell hc (fun e => row_ne hr hn hc (Option.some.inj e))
theorem Reads.keeps {w X : World} {v : Value} {xs : List Int} (h : Reads w v xs) (hk : KeepsCells w X) : Reads X v xs := by
  obtain ⟨hl, a, cap, rfl, h⟩ := h
  refine ⟨hl, a, cap, rfl, h.imp id ?_⟩
  rintro ⟨b, off, rfl, hc⟩
  exact ⟨b, off, rfl, fun i hi => hk _ _ _ (fun t e => by cases e) (hc i hi)⟩
theorem Valid.mlt {S L : Nat} {ms : List Nat} (h : Valid S L ms) {i m : Nat} (hm : ms[i]? = some m) : m ≤ full S := by
  have := h.2.2.2.2 m (List.mem_of_getElem? hm)
  omega
/-- A register with what is noted. -/
def RegT (w : World) (b S L bt : Nat) (v : Value) (ms : List Nat) (T : Nat → Bool) : Prop :=
  RegAt w b S L v ms ∧ w.cell? ⟨b, 3, none⟩ = some (.slice (some ⟨bt, 0, none⟩) (full S + 1) (full S + 1)) ∧ w.rowIs bt 4 (full S + 1) (fun x => .bool (T x))
theorem RegT.keeps {w X : World} {b S L bt : Nat} {v : Value} {ms : List Nat} {T T' : Nat → Bool} (h : RegT w b S L bt v ms T) (hv : ∀ t, v ≠ .bool t) (hk : KeepsCells w X) (hr : X.rowIs bt 4 (full S + 1) (fun x => .bool (T' x))) : RegT X b S L bt v ms T' := by
  obtain ⟨⟨⟨h0, h1, h2⟩, hR⟩, h3, h4⟩ := h
  exact ⟨⟨⟨hk _ _ _ (fun t e => by cases e) h0, hk _ _ _ (fun t e => by cases e) h1, hk _ _ _ hv h2⟩, hR.keeps hk⟩, hk _ _ _ (fun t e => by cases e) h3, hr⟩
theorem RegT.ext {w X : World} {b S L bt : Nat} {v : Value} {ms : List Nat} {T : Nat → Bool} (h : RegT w b S L bt v ms T) (hb : Ext w X) : RegT X b S L bt v ms T := by
  have hlt : bt < w.heap.size := by
    obtain ⟨c, hh, _⟩ := h.2.2
    exact (Array.getElem?_eq_some_iff.1 hh).1
  refine ⟨h.1.ext hb, cell_ext hb h.2.1, ?_⟩
  obtain ⟨c, hh, r⟩ := h.2.2
  exact ⟨c, (hb.block bt hlt).trans hh, r⟩
theorem RegT.lt {w : World} {b S L bt : Nat} {v : Value} {ms : List Nat} {T : Nat → Bool} (h : RegT w b S L bt v ms T) : bt < w.heap.size := by
  obtain ⟨c, hh, _⟩ := h.2.2
  exact (Array.getElem?_eq_some_iff.1 hh).1
theorem grown_ext {w X : World} (h : Ext w X) (row : Option Nat) : w.grownBy X row := ⟨h.os, h.tape, h.output, h.size, fun i hi _ => h.block i hi⟩
/-- Loops over iterators that have ended, one behind another: their marks. -/
def Marks (base : Nat) (ds : List Deferred) (W : World) : Prop :=
  ∃ Ds : List Nat, ds = Ds.map (fun D => { target := .collected D, args := #[] }) ∧ Ds.Nodup ∧ ∀ D ∈ Ds, base ≤ D ∧ W.heap[D]? = some (.deferred (some []))
theorem Marks.nil (base : Nat) (W : World) : Marks base [] W := ⟨[], rfl, List.nodup_nil, fun D h => by cases h⟩
theorem marks_leave {F : Fence} {n : Nat} {P : Program} {fn : Func} {tmps : Array Value} {R : Ending → World → Prop} {base : Nat} : ∀ (ds : List Deferred) (u : FrameMode) (W : World), u ≠ .run → base ≤ W.heap.size → Marks base ds W →
    (∀ W', Below base W W' → LeavesInM F n P fn tmps R [] u W') → LeavesInM F n P fn tmps R ds u W
  | [], u, W, hu, hb, hm, h => h W (Below.refl _ _)
  | d :: ds, u, W, hu, hb, ⟨Ds, e, hnd, hD⟩, h => by
    cases Ds with
    | nil => cases e
    | cons D Ds =>
      cases e
      obtain ⟨h1, h2⟩ := hD D (by simp)
      have hnd' := List.nodup_cons.1 hnd
      have hbel : Below base W (W.putObj D (.deferred none)) := ⟨rfl, rfl, rfl, by simp [World.putObj], fun k hk => World.putObj_heap_other (fun e => by omega)⟩
      refine ⟨hu, .inl ⟨D, _, rfl, run_takeDeferred h2, marks_leave _ u _ hu (by have := hbel.size; omega) ⟨Ds, rfl, hnd'.2, fun D' hD' => ?_⟩ (fun W' hW' => h W' (hbel.trans hW'))⟩⟩
      obtain ⟨h3, h4⟩ := hD D' (by simp [hD'])
      refine ⟨h3, ?_⟩
      rw [World.putObj_heap_other (fun e => hnd'.1 (by rw [← e]; exact hD'))]
      exact h4
/-- A mark more: the block is none of the elder marks' blocks, for it is a new one. -/
theorem Marks.cons {base : Nat} {ds : List Deferred} {W W' : World} {D : Nat} (h : Marks base ds W) (hD : W.heap.size ≤ D) (hb : base ≤ W.heap.size) (hk : W'.heap[D]? = some (.deferred (some []))) (hs : ∀ E, E < W.heap.size → W.heap[E]? = some (.deferred (some [])) → W'.heap[E]? = some (.deferred (some []))) :
    Marks base ({ target := .collected D, args := #[] } :: ds) W' := by
  obtain ⟨Ds, rfl, hnd, hDs⟩ := h
  have hlt : ∀ E ∈ Ds, E < W.heap.size := fun E hE => (Array.getElem?_eq_some_iff.1 (hDs E hE).2).1
  refine ⟨D :: Ds, rfl, List.nodup_cons.2 ⟨fun hm => by have := hlt D hm; omega, hnd⟩, fun E hE => ?_⟩
  rcases List.mem_cons.1 hE with rfl | hE
  · exact ⟨by omega, hk⟩
  · exact ⟨(hDs E hE).1, hs E (hlt E hE) (hDs E hE).2⟩
end Go.Proofs.Ytlgdnbpboonhdaa
