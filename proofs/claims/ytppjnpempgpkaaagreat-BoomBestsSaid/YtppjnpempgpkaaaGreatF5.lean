/- uses by its contract; take, by its contract. add, by its contract. The set of sides as the program keeps it, and as the plain mathematics does. newNet, by its contract. small, by its contract. -/
import Derived.Test.YtppjnpempgpkaaaGreatF1
import Derived.Test.YtppjnpempgpkaaaGreatE0
import Derived.Test.YtppjnpempgpkaaaGreatC2
import Derived.Test.YtppjnpempgpkaaaGreatE2
import Derived.Test.YtppjnpempgpkaaaGreatB5
namespace Go.Proofs.YtppjnpempgpkaaaGreat
open Go.RowKit Go.Shelf
set_option linter.unusedVariables false
set_option linter.unusedSimpArgs false
attribute [local go_sem] Oper.semAt_some
theorem uses_c (W H nw cw nk ck : Nat) (aw ak : Option Addr) (a : Option Addr) (nn cap : Nat) (o : Int) (w : World) : Calls Tryz.prog 98 #[.agg #[.int .i64 (W : Int), .int .i64 (H : Int), .slice aw nw cw, .slice ak nk ck], .agg #[.slice a nn cap, .int .i64 o]] w fun e w' =>
    e = .returned (.func (.func 118) #[] #[.pointer (some ⟨w.heap.size + 1, 0, none⟩), .pointer (some ⟨w.heap.size, 0, none⟩)]) ∧ w' = (w.alloc (.cells #[.int .i64 (W : Int), .int .i64 (H : Int), .slice aw nw cw, .slice ak nk ck] 72)).alloc (.cells #[.slice a nn cap, .int .i64 o] 60) := by
  go_enter Tryz.func98, Tryz.ntmps98
  go_wp2
  go_ret
  exact ⟨rfl, rfl⟩
def lkS (s : Sd) : Lk := ((s.1 : Int), (s.2 : Int))
theorem btw_lt (G : Grid) (c d : Nat) : btw G c d < 4 := by
  unfold btw
  split
  · omega
  · split
    · omega
    · split <;> omega
theorem usesW_small {G : Grid} {o : Option Nat} (ho : ∀ k, o = some k → k < 4) : ∀ {ws : List Nat} {s : Sd}, s ∈ usesW G ws o → s.1 ∈ ws ∧ s.2 < 4
  | [], s, h => by cases h
  | [c], s, h => by
    cases o with
    | none => cases h
    | some k => simp [usesW] at h; subst h; exact ⟨by simp, ho k rfl⟩
  | c :: d :: ws, s, h => by
    have h : s ∈ (c, btw G c d) :: usesW G (d :: ws) o := h
    rcases List.mem_cons.1 h with rfl | h
    · exact ⟨by simp, btw_lt G c d⟩
    · obtain ⟨h1, h2⟩ := usesW_small ho h
      exact ⟨List.mem_cons_of_mem _ h1, h2⟩
theorem sm_lkS {s : Sd} (h1 : s.1 < 64) (h2 : s.2 < 4) : Sm (lkS s) := ⟨⟨by show (-1000 : Int) < (s.1 : Int); omega, by show (s.1 : Int) < 1000; omega⟩, by show (-1000 : Int) < (s.2 : Int); omega, by show (s.2 : Int) < 1000; omega⟩
theorem wpIn_delete_run {F : Fence} {n : Nat} {o : Oper} {a : Act} {K : Act → World → Prop} {Q : Exit → Act → World → Prop} {w w' : World} (hfn : ∀ f, F.fn f) (s x : Operand) (t u : TypeId) (ho : o.op = .call { callee := .builtin .delete, args := #[s, x], argTypes := #[t, u] })
    {v sl v' : Value} (hs : a.eval s = v) (hx : a.eval x = sl) (hrun : (Builtin.delete_ #[t, u] o.type #[v, sl]).run Tryz.prog w = .ok v' w') (h : K (a.put o.dst v') w') : o.wpIn F n Tryz.prog a w K Q := by
  unfold Oper.wpIn
  refine ⟨fun f _ => hfn f, ?_⟩
  rw [Oper.semAt_eq _ _ _ (fun c hc => by rw [ho] at hc; cases hc)]
  simp [execOp, ho, resolve, invoke, builtin, hs, hx, hrun, Result.andThen]
  exact h
def delL (F : List Lk) (ss : List Sd) : List Lk := ss.foldl (fun F s => F.filter fun x => !decide (x = lkS s)) F
theorem delL_snoc (F : List Lk) (ss : List Sd) (s : Sd) : delL F (ss ++ [s]) = (delL F ss).filter fun x => !decide (x = lkS s) := by unfold delL; rw [List.foldl_append]; rfl
theorem mo_ne {w : World} {bn W H : Nat} {vw vk : Value} {mo n : Nat} {rd : List Bool} {F : List Lk} (h : NetB w bn W H vw vk mo rd) (hm : SMap w mo n F) : bn ≠ mo := fun e => by
  obtain ⟨es, ck, h1⟩ := hm.blk
  have := h.blk
  rw [e, h1] at this
  cases this
set_option maxRecDepth 100000 in
set_option maxHeartbeats 1000000 in
theorem take_c (W H nw cw nk ck : Nat) (aw ak : Option Addr) (G : Grid) (hGn : G.n = W * H) (hGb : G.bh = bhP W H) (ws : List Nat) (o : Option Nat) (a : Option Addr) (nn cap : Nat) (bn mo n : Nat) (F : List Lk) (rd : List Bool) (w : World) (hW : 1 ≤ W ∧ W ≤ 8) (hH : 1 ≤ H ∧ H ≤ 8) (hne : ws ≠ []) (hcells : ∀ x ∈ ws, x < W * H) (hnb : Nbs W H ws) (ho : ∀ k, o = some k → k < 4)
    (hnet : NetB w bn W H (.slice aw nw cw) (.slice ak nk ck) mo rd) (hmap : SMap w mo n F) (hread : ∀ Y, CellsT [mo] w.heap.size 0 w Y → Reads Y (.slice a nn cap) (natI ws)) :
    Calls Tryz.prog 94 #[.pointer (some ⟨bn, 0, none⟩), .agg #[.slice a nn cap, .int .i64 (oI o)]] w fun e w' => (∃ v, e = .returned v) ∧ SMap w' mo n (delL F (usesW G ws o)) ∧ KeepT [mo] w.heap.size 0 w w' := by
  have hn64 : W * H ≤ 64 := Nat.mul_le_mul hW.2 hH.2
  obtain ⟨L, hL⟩ : ∃ L, L = usesW G ws o := ⟨_, rfl⟩
  have HL := Lib.hid hL
  rw [← hL]
  clear hL
  have hmb := mo_ne hnet hmap
  have hbn := hnet.lt
  have hmo := hmap.lt
  obtain ⟨w1, hw1⟩ : ∃ w1, w1 = (w.alloc (.cells #[.pointer (some ⟨bn, 0, none⟩)] 79)).alloc (.cells #[.slice a nn cap, .int .i64 (oI o)] 60) := ⟨_, rfl⟩
  have hE1 : Ext w w1 := by rw [hw1]; exact ((Ext.refl w).alloc _).alloc _
  have B0 := Lib.hid (show w1.heap[w.heap.size]? = some (.cells #[.pointer (some ⟨bn, 0, none⟩)] 79 (0, 0)) from by rw [hw1]; exact block_ext ((Ext.refl _).alloc _) (heap_alloc_new w _))
  have B1 := Lib.hid (show w1.heap[w.heap.size + 1]? = some (.cells #[.slice a nn cap, .int .i64 (oI o)] 60 (0, 0)) from by rw [hw1]; exact heap_alloc_at (w.alloc _) _ (by simp))
  have N1 := Lib.hid (hnet.ext hE1); have M1 := Lib.hid (hmap.ext hE1); have HE1 := Lib.hid hE1; have HW1 := Lib.hid hw1
  have HRD := Lib.hid hread; have HGN := Lib.hid hGn; have HGB := Lib.hid hGb; have HNB := Lib.hid hnb; have HCL := Lib.hid hcells
  have HUC := Lib.hid (fun X => uses_c W H nw cw nk ck aw ak a nn cap (oI o) X)
  have HSM := Lib.hid (show ∀ s ∈ usesW G ws o, Sm (lkS s) from fun s hs => by
    obtain ⟨h1, h2⟩ := usesW_small ho hs
    exact sm_lkS (by have := hcells _ h1; omega) h2)
  clear hw1 hE1 hnet hmap hread hGn hGb hnb hcells ho
  refine (callsIn_wide (n := 12)).1 ?_
  refine callsIn_of_wp_marks Tryz.func94 rfl trivial ?_ rfl
  simp only [Tryz.ntmps94, List.size_toArray, List.length_cons, List.length_nil, Nat.reduceAdd, Nat.reduceSub, Array.replicate_succ, Array.replicate_zero, List.push_toArray, List.append_toArray, List.nil_append, List.cons_append]
  gi_upto_region 1 with fail
  rw [← HW1.out]
  refine wpIn_order (tk := takeB) (fun f => trivial) (fun Y : World => Y.heap[w.heap.size]? = some (.cells #[.pointer (some ⟨bn, 0, none⟩)] 79 (0, 0)) ∧ Y.heap[w.heap.size + 1]? = some (.cells #[.slice a nn cap, .int .i64 (oI o)] 60 (0, 0)) ∧ NetB Y bn W H (.slice aw nw cw) (.slice ak nk ck) mo rd) [0, 1, 2, 3, 4, 5] (by kernel_rfl) (by kernel_rfl) (by kernel_rfl) (by exact ⟨B0.out, B1.out, N1.out.ext (Ext.refl _).drew⟩) (fun hHeld => ?_)
  simp only [opsIn, List.filterMap_cons, List.filterMap_nil, List.getElem?_toArray, List.getElem?_cons_succ, List.getElem?_cons_zero]
  refine' textI_chunk 5 (by kernel_rfl) hHeld ?ck1 ?cr1
  case ck1 =>
    intro W hSw
    have hSW := hSw
    try dsimp only at hSW
    clear hSw
    obtain ⟨s1, s2, s3⟩ := hSW
    obtain ⟨n0, n1, n2, n3, n4⟩ := s3.head
    obtain ⟨d0, d1⟩ := cells2 s2
    have p0 := cell_of_blk s1 (o := 0) rfl
    simp only [List.take_succ_cons, List.take_zero, List.drop_succ_cons, List.drop_zero]
    repeat (go_big_quiet_step (fail))
    exact wpQuiet_nil rfl
  simp only [List.take_succ_cons, List.take_zero, List.drop_succ_cons, List.drop_zero]
  refine textI_call (by rfl) (by rfl) (fun K hK => ?_)
  go_simp
  refine ⟨trivial, (callsIn_wide.2 (HUC.out _)).mono ?_⟩
  rintro e Y5 ⟨rfl, hY5⟩
  have HEE := Lib.hid (show Ext w1.drew Y5 from by rw [hY5]; exact ((Ext.refl w1.drew).alloc _).alloc _)
  have B5P := Lib.hid (show Y5.heap[w1.heap.size]? = some (.cells #[.int .i64 (W : Int), .int .i64 (H : Int), .slice aw nw cw, .slice ak nk ck] 72 (0, 0)) from by rw [hY5]; exact block_ext ((Ext.refl _).alloc _) (heap_alloc_new w1.drew _))
  have B5W := Lib.hid (show Y5.heap[w1.heap.size + 1]? = some (.cells #[.slice a nn cap, .int .i64 (oI o)] 60 (0, 0)) from by rw [hY5]; exact heap_alloc_at (w1.drew.alloc _) _ (by simp))
  have HE5 := Lib.hid ((Ext.refl w1).drew.trans HEE.out)
  clear hY5
  all_goals (try (gi_wp2_with fail))
  refine hK.out _ _ (by exact ⟨block_ext HEE.out hHeld.1, block_ext HEE.out hHeld.2.1, hHeld.2.2.ext HEE.out⟩) (fun hHeld => ?_)
  clear hK K
  try simp only [Act.put, List.setIfInBounds_toArray, List.set_cons_zero, List.set_cons_succ]
  refine textI_done ?_

  have hz1 : w.heap.size + 1 < w1.heap.size := lt_of_blk B1.out
  clear hHeld HEE HUC
  have B05 := Lib.hid (block_ext HE5.out B0.out); have N5 := Lib.hid (N1.out.ext HE5.out); have M5 := Lib.hid (M1.out.ext HE5.out)
  have HK5 := Lib.hid (show KeepT [mo] w.heap.size 0 w Y5 from KeepT.ext (HE1.out.trans HE5.out))
  have hz5 : w1.heap.size < Y5.heap.size := lt_of_blk B5P.out
  have HSEQ := Lib.hid (uses_seq W H nw cw nk ck aw ak G HGN.out HGB.out ws o (.slice a nn cap) 11 (w1.heap.size + 1) w1.heap.size [mo] w.heap.size 0 Y5 (by omega) hW hH hne HCL.out HNB.out B5W.out B5P.out (fun Y hY => HRD.out Y ((KeepT.ext (HE1.out.trans HE5.out)).cellsT.trans hY)) (by simp; omega) (by simp; omega) (by simp; omega) (.inl (by decide)) (.inl (by decide)) (by decide))
  gi_wp2
  rw [← HL.out] at HSEQ HSM
  refine wp_seqLB (n := 12) (by omega) (gf := 118) (encs := encS) (ps := #[11]) (rs := [mo]) (b := w.heap.size) (e := 0) rfl (enters_of Tryz.func118 (by kernel_rfl) rfl) HSEQ.out (Below.refl _ _) (fun _ => rfl) (by simp; omega)
    (fun k Y => SMap Y mo n (delL F (L.take k)) ∧ KeepT [mo] w.heap.size 0 Y5 Y) (fun q k Y => False) ?hI ?hIx ?h0 ?hIE 124 (fun s => #[.int .i64 (s.1 : Int), .int .i64 (s.2 : Int)]) ?af ?assign ?body ?done ?stop
  case hI =>
    rintro s A B row ⟨h1, h2⟩ hg hr
    obtain ⟨es, ck, hb⟩ := h1.blk
    refine ⟨h1.same (hg.block mo h1.lt (fun e => ?_)), ownFrom_keepT (β := Unit) (Nat.le_refl _) () A B row h2 hg hr⟩
    obtain ⟨h3, -⟩ := hr mo (by first | exact e | exact e.symm)
    omega
  case hIx => rintro q s A B row h hg hr; exact h
  case h0 => exact ⟨M5.out, KeepT.refl _ _ _ _⟩
  case hIE =>
    rintro k A B ⟨h1, h2⟩ hE
    exact ⟨h1.ext hE, h2.trans (KeepT.ext hE)⟩
  case assign =>
    rintro l2 x A B K hB hK
    dsimp only [encS]
    gi_wp2
    first | rw [← hB] | skip
    exact hK
  case body =>
    rintro l2 k x Bx X hl2 hx ⟨hm, hK⟩ hBx hbx
    obtain ⟨w', hrun, hm', ht⟩ := (hm.ext (Ext.refl X).drew).del (lkS x) (HSM.out x (List.mem_of_getElem? hx)) 0
    have g0 := hK.cells (by simp; omega) B05.out (by decide)
    have g1 : NetB X bn W H (.slice aw nw cw) (.slice ak nk ck) mo rd := ⟨N5.out.len, hK.cells (by simpa using hmb) N5.out.blk (by decide)⟩
    gi_upto_region 3 with fail
    refine wpIn_order (tk := takeB) (fun _ => trivial) (fun Y : World => Y.heap[w.heap.size]? = some (.cells #[.pointer (some ⟨bn, 0, none⟩)] 79 (0, 0)) ∧ NetB Y bn W H (.slice aw nw cw) (.slice ak nk ck) mo rd ∧ Y.heap[Bx]? = some (.cells #[.int .i64 (x.1 : Int), .int .i64 (x.2 : Int)] 124 (0, 0))) [0, 1, 2, 3, 4, 5] (by kernel_rfl) (by kernel_rfl) (by kernel_rfl) (by exact ⟨g0, g1.ext (Ext.refl _).drew, hbx⟩) (fun hHeld => ?_)
    simp only [opsIn, List.filterMap_cons, List.filterMap_nil, List.getElem?_toArray, List.getElem?_cons_succ, List.getElem?_cons_zero]
    refine' textI_chunk 5 (by kernel_rfl) hHeld ?ckA ?crA
    case ckA =>
      intro W hSw
      have hSW := hSw
      try dsimp only at hSW
      clear hSw
      obtain ⟨s1, s2, s3⟩ := hSW
      have p0 := cell_of_blk s1 (o := 0) rfl
      obtain ⟨n0, n1, n2, n3, n4⟩ := s2.head
      obtain ⟨d0, d1⟩ := cells2 s3
      simp only [List.take_succ_cons, List.take_zero, List.drop_succ_cons, List.drop_zero]
      repeat (go_big_quiet_step (fail))
      exact wpQuiet_nil rfl
    simp only [List.take_succ_cons, List.take_zero, List.drop_succ_cons, List.drop_zero]
    refine textI_call_more (by rfl) (by rfl) (fun K hK2 => ?_)
    refine wpIn_delete_run (F := Fence.wide.inRound l2) (v := .map (some mo)) (sl := kv (lkS x)) (v' := .tuple #[]) (w' := w') (fun _ => by trivial) (.tmp 15) (.tmp 16) 113 124 rfl ?_ ?_ ?_ ?_
    rfl
    rfl
    exact hrun
    have hg := ht.grown
    have hK1 : KeepT [mo] w.heap.size 0 X w' := (KeepT.refl _ _ _ X).drew.trans ((KeepT.refl _ _ _ _).grown_in hg (fun g e => by cases e; exact .inl (by simp)))
    have HK1 := Lib.hid hK1
    have HM1 := Lib.hid hm'
    have HK2 := Lib.hid (hK.trans hK1)
    refine hK2.out (fun Y => Y = w') _ _ (fun Y hY => by rw [hY]; exact ⟨HK2.out.cells (by simp; omega) B05.out (by decide), ⟨N5.out.len, HK2.out.cells (by simpa using hmb) N5.out.blk (by decide)⟩, HK1.out.cells (by simp; omega) hbx (by decide)⟩) rfl (fun hHeld => ?_)
    clear hK2 K
    try simp only [Act.put, List.setIfInBounds_toArray, List.set_cons_zero, List.set_cons_succ]
    refine textI_done ?_
    clear hg hK1 hm' ht hrun hm hK g0 g1 hHeld
    gi_wp2
    refine ⟨HK1.out, ?_, HK2.out⟩
    rw [take_snoc hx, delL_snoc]
    exact HM1.out
  case done =>
    rintro D X hD ⟨hm, hK⟩ hDW
    rw [List.take_length] at hm
    have GD := Lib.hid hDW; have GM := Lib.hid hm; have GK := Lib.hid (HK5.out.trans hK)
    clear hm hK hDW
    gi_wp2
    refine ⟨by simp, .inl ⟨_, _, rfl, run_takeDeferred GD.out, ?_⟩⟩
    refine ⟨_, by first | (simp [results, Tryz.results94, go_sem]; done) | (simp [results, Tryz.results94, go_sem]; rfl), ⟨_, rfl⟩, GM.out.same (World.putObj_heap_other (by omega)), GK.out.grown_in (grownBy_putObj' _ D (.deferred none)) (fun g e => by cases e; exact .inr (by omega))⟩
  case stop => rintro D q k X hD hk h hDW; exact h.elim
end Go.Proofs.YtppjnpempgpkaaaGreat
namespace Go.Proofs.YtppjnpempgpkaaaGreat
open Go.RowKit Go.Shelf
set_option linter.unusedVariables false
set_option linter.unusedSimpArgs false
attribute [local go_sem] Oper.semAt_some
def lkT (W H : Nat) (s : Sd) : Lk := (nx W H s.1 s.2, (opp s.2 : Int))
theorem sm_lkT {W H : Nat} {s : Sd} (hW : 1 ≤ W ∧ W ≤ 8) (hH : 1 ≤ H ∧ H ≤ 8) (h1 : s.1 < W * H) (h2 : s.2 < 4) : Sm (lkT W H s) := by
  have hn64 : W * H ≤ 64 := Nat.mul_le_mul hW.2 hH.2
  have h4 := opp_lt (k := s.2)
  rcases nx_bound hW.2 hH.2 h1 h2 with h | ⟨d, h, -, hd⟩
  · exact ⟨⟨by show -1000 < nx W H s.1 s.2; omega, by show nx W H s.1 s.2 < 1000; omega⟩, by show (-1000 : Int) < (opp s.2 : Int); omega, by show (opp s.2 : Int) < 1000; omega⟩
  · exact ⟨⟨by show -1000 < nx W H s.1 s.2; omega, by show nx W H s.1 s.2 < 1000; omega⟩, by show (-1000 : Int) < (opp s.2 : Int); omega, by show (opp s.2 : Int) < 1000; omega⟩
theorem wpIn_put_run {F : Fence} {n : Nat} {o : Oper} {a : Act} {K : Act → World → Prop} {Q : Exit → Act → World → Prop} {w w' : World} (hfn : ∀ f, F.fn f) (ty : TypeId) (s x y : Operand) (ho : o.op = .mapUpdate ty s x y)
    {v sl u : Value} (hs : a.eval s = v) (hx : a.eval x = sl) (hy : a.eval y = u) (hrun : (Instr.mapUpdate ty v sl u).run Tryz.prog w = .ok () w') (h : K (a.put o.dst undef) w') : o.wpIn F n Tryz.prog a w K Q := by
  unfold Oper.wpIn
  refine ⟨fun f _ => hfn f, ?_⟩
  rw [Oper.semAt_eq _ _ _ (fun c hc => by rw [ho] at hc; cases hc)]
  simp [execOp, ho, hs, hx, hy, hrun, Result.andThen]
  exact h
def addS (W H : Nat) (F : List Lk) (s : Sd) : List Lk := if inF F (lkT W H s) = true then F.filter fun x => !decide (x = lkT W H s) else lkS s :: F
def addL (W H : Nat) (F : List Lk) (ss : List Sd) : List Lk := ss.foldl (addS W H) F
theorem addL_snoc (W H : Nat) (F : List Lk) (ss : List Sd) (s : Sd) : addL W H F (ss ++ [s]) = addS W H (addL W H F ss) s := by unfold addL; rw [List.foldl_append]; rfl
set_option maxRecDepth 100000 in
set_option maxHeartbeats 1000000 in
theorem add_c (W H nw cw nk ck : Nat) (aw ak : Option Addr) (G : Grid) (hGn : G.n = W * H) (hGb : G.bh = bhP W H) (ws : List Nat) (o : Option Nat) (a : Option Addr) (nn cap : Nat) (bn mo n : Nat) (F : List Lk) (rd : List Bool) (w : World) (hW : 1 ≤ W ∧ W ≤ 8) (hH : 1 ≤ H ∧ H ≤ 8) (hne : ws ≠ []) (hcells : ∀ x ∈ ws, x < W * H) (hnb : Nbs W H ws) (ho : ∀ k, o = some k → k < 4)
    (hn6 : n + (usesW G ws o).length < 1000000) (hnet : NetB w bn W H (.slice aw nw cw) (.slice ak nk ck) mo rd) (hmap : SMap w mo n F) (hread : ∀ Y, CellsT [mo] w.heap.size 0 w Y → Reads Y (.slice a nn cap) (natI ws)) :
    Calls Tryz.prog 83 #[.pointer (some ⟨bn, 0, none⟩), .agg #[.slice a nn cap, .int .i64 (oI o)]] w fun e w' => (∃ v, e = .returned v) ∧ SMap w' mo (n + (usesW G ws o).length) (addL W H F (usesW G ws o)) ∧ KeepT [mo] w.heap.size 0 w w' := by
  have hn64 : W * H ≤ 64 := Nat.mul_le_mul hW.2 hH.2
  obtain ⟨L, hL⟩ : ∃ L, L = usesW G ws o := ⟨_, rfl⟩
  have HL := Lib.hid hL
  rw [← hL] at hn6 ⊢
  clear hL
  have hmb := mo_ne hnet hmap
  have hbn := hnet.lt
  have hmo := hmap.lt
  obtain ⟨w1, hw1⟩ : ∃ w1, w1 = (w.alloc (.cells #[.pointer (some ⟨bn, 0, none⟩)] 79)).alloc (.cells #[.slice a nn cap, .int .i64 (oI o)] 60) := ⟨_, rfl⟩
  have hE1 : Ext w w1 := by rw [hw1]; exact ((Ext.refl w).alloc _).alloc _
  have B0 := Lib.hid (show w1.heap[w.heap.size]? = some (.cells #[.pointer (some ⟨bn, 0, none⟩)] 79 (0, 0)) from by rw [hw1]; exact block_ext ((Ext.refl _).alloc _) (heap_alloc_new w _))
  have B1 := Lib.hid (show w1.heap[w.heap.size + 1]? = some (.cells #[.slice a nn cap, .int .i64 (oI o)] 60 (0, 0)) from by rw [hw1]; exact heap_alloc_at (w.alloc _) _ (by simp))
  have N1 := Lib.hid (hnet.ext hE1); have M1 := Lib.hid (hmap.ext hE1); have HE1 := Lib.hid hE1; have HW1 := Lib.hid hw1
  have HRD := Lib.hid hread; have HGN := Lib.hid hGn; have HGB := Lib.hid hGb; have HNB := Lib.hid hnb; have HCL := Lib.hid hcells
  have HUC := Lib.hid (fun X => uses_c W H nw cw nk ck aw ak a nn cap (oI o) X)
  have HSS := Lib.hid (show ∀ s ∈ usesW G ws o, s.1 < W * H ∧ s.2 < 4 from fun s hs => by
    obtain ⟨h1, h2⟩ := usesW_small ho hs
    exact ⟨hcells _ h1, h2⟩)
  clear hw1 hE1 hnet hmap hread hGn hGb hnb hcells ho
  refine (callsIn_wide (n := 12)).1 ?_
  refine callsIn_of_wp_marks Tryz.func83 rfl trivial ?_ rfl
  simp only [Tryz.ntmps83, List.size_toArray, List.length_cons, List.length_nil, Nat.reduceAdd, Nat.reduceSub, Array.replicate_succ, Array.replicate_zero, List.push_toArray, List.append_toArray, List.nil_append, List.cons_append]
  gi_upto_region 1 with fail
  rw [← HW1.out]
  refine wpIn_order (tk := takeB) (fun f => trivial) (fun Y : World => Y.heap[w.heap.size]? = some (.cells #[.pointer (some ⟨bn, 0, none⟩)] 79 (0, 0)) ∧ Y.heap[w.heap.size + 1]? = some (.cells #[.slice a nn cap, .int .i64 (oI o)] 60 (0, 0)) ∧ NetB Y bn W H (.slice aw nw cw) (.slice ak nk ck) mo rd) [0, 1, 2, 3, 4, 5] (by kernel_rfl) (by kernel_rfl) (by kernel_rfl) (by exact ⟨B0.out, B1.out, N1.out.ext (Ext.refl _).drew⟩) (fun hHeld => ?_)
  simp only [opsIn, List.filterMap_cons, List.filterMap_nil, List.getElem?_toArray, List.getElem?_cons_succ, List.getElem?_cons_zero]
  refine' textI_chunk 5 (by kernel_rfl) hHeld ?ck1 ?cr1
  case ck1 =>
    intro W hSw
    have hSW := hSw
    try dsimp only at hSW
    clear hSw
    obtain ⟨s1, s2, s3⟩ := hSW
    obtain ⟨n0, n1, n2, n3, n4⟩ := s3.head
    obtain ⟨d0, d1⟩ := cells2 s2
    have p0 := cell_of_blk s1 (o := 0) rfl
    simp only [List.take_succ_cons, List.take_zero, List.drop_succ_cons, List.drop_zero]
    repeat (go_big_quiet_step (fail))
    exact wpQuiet_nil rfl
  simp only [List.take_succ_cons, List.take_zero, List.drop_succ_cons, List.drop_zero]
  refine textI_call (by rfl) (by rfl) (fun K hK => ?_)
  go_simp
  refine ⟨trivial, (callsIn_wide.2 (HUC.out _)).mono ?_⟩
  rintro e Y5 ⟨rfl, hY5⟩
  have HEE := Lib.hid (show Ext w1.drew Y5 from by rw [hY5]; exact ((Ext.refl w1.drew).alloc _).alloc _)
  have B5P := Lib.hid (show Y5.heap[w1.heap.size]? = some (.cells #[.int .i64 (W : Int), .int .i64 (H : Int), .slice aw nw cw, .slice ak nk ck] 72 (0, 0)) from by rw [hY5]; exact block_ext ((Ext.refl _).alloc _) (heap_alloc_new w1.drew _))
  have B5W := Lib.hid (show Y5.heap[w1.heap.size + 1]? = some (.cells #[.slice a nn cap, .int .i64 (oI o)] 60 (0, 0)) from by rw [hY5]; exact heap_alloc_at (w1.drew.alloc _) _ (by simp))
  have HE5 := Lib.hid ((Ext.refl w1).drew.trans HEE.out)
  clear hY5
  all_goals (try (gi_wp2_with fail))
  refine hK.out _ _ (by exact ⟨block_ext HEE.out hHeld.1, block_ext HEE.out hHeld.2.1, hHeld.2.2.ext HEE.out⟩) (fun hHeld => ?_)
  clear hK K
  try simp only [Act.put, List.setIfInBounds_toArray, List.set_cons_zero, List.set_cons_succ]
  refine textI_done ?_

  have hz1 : w.heap.size + 1 < w1.heap.size := lt_of_blk B1.out
  clear hHeld HEE HUC
  have B05 := Lib.hid (block_ext HE5.out B0.out); have N5 := Lib.hid (N1.out.ext HE5.out); have M5 := Lib.hid (M1.out.ext HE5.out)
  have HK5 := Lib.hid (show KeepT [mo] w.heap.size 0 w Y5 from KeepT.ext (HE1.out.trans HE5.out))
  have hz5 : w1.heap.size < Y5.heap.size := lt_of_blk B5P.out
  have HSEQ := Lib.hid (uses_seq W H nw cw nk ck aw ak G HGN.out HGB.out ws o (.slice a nn cap) 11 (w1.heap.size + 1) w1.heap.size [mo] w.heap.size 0 Y5 (by omega) hW hH hne HCL.out HNB.out B5W.out B5P.out (fun Y hY => HRD.out Y ((KeepT.ext (HE1.out.trans HE5.out)).cellsT.trans hY)) (by simp; omega) (by simp; omega) (by simp; omega) (.inl (by decide)) (.inl (by decide)) (by decide))
  gi_wp2
  rw [← HL.out] at HSEQ HSS
  refine wp_seqLB (n := 12) (by omega) (gf := 118) (encs := encS) (ps := #[11]) (rs := [mo]) (b := w.heap.size) (e := 0) rfl (enters_of Tryz.func118 (by kernel_rfl) rfl) HSEQ.out (Below.refl _ _) (fun _ => rfl) (by simp; omega)
    (fun k Y => SMap Y mo (n + k) (addL W H F (L.take k)) ∧ KeepT [mo] w.heap.size 0 Y5 Y) (fun q k Y => False) ?hI ?hIx ?h0 ?hIE 124 (fun s => #[.int .i64 (s.1 : Int), .int .i64 (s.2 : Int)]) ?af ?assign ?body ?done ?stop
  case hI =>
    rintro s A B row ⟨h1, h2⟩ hg hr
    obtain ⟨es, ck, hb⟩ := h1.blk
    refine ⟨h1.same (hg.block mo h1.lt (fun e => ?_)), ownFrom_keepT (β := Unit) (Nat.le_refl _) () A B row h2 hg hr⟩
    obtain ⟨h3, -⟩ := hr mo (by first | exact e | exact e.symm)
    omega
  case hIx => rintro q s A B row h hg hr; exact h
  case h0 => exact ⟨M5.out, KeepT.refl _ _ _ _⟩
  case hIE =>
    rintro k A B ⟨h1, h2⟩ hE
    exact ⟨h1.ext hE, h2.trans (KeepT.ext hE)⟩
  case assign =>
    rintro l2 x A B K hB hK
    dsimp only [encS]
    gi_wp2
    first | rw [← hB] | skip
    exact hK
  case body =>
    rintro l2 k x Bx X hl2 hx ⟨hm, hK⟩ hBx hbx
    have g0 := hK.cells (by simp; omega) B05.out (by decide)
    have g1 : NetB X bn W H (.slice aw nw cw) (.slice ak nk ck) mo rd := ⟨N5.out.len, hK.cells (by simpa using hmb) N5.out.blk (by decide)⟩
    have hkl : k < L.length := (List.getElem?_eq_some_iff.1 hx).1
    obtain ⟨hx1, hx2⟩ := HSS.out x (List.mem_of_getElem? hx)
    have HTU := Lib.hid (fun (Y : World) => turned_c W H nw cw nk ck aw ak x.1 x.2 Y hW hH hx1 hx2)
    obtain ⟨fl, hfl⟩ : ∃ fl, fl = inF (addL W H F (L.take k)) (lkT W H x) := ⟨_, rfl⟩
    have HLK := Lib.hid (fun (Z : World) (h : Ext X Z) => (hm.ext h).look (lkT W H x) (sm_lkT hW hH hx1 hx2))
    rw [← hfl] at HLK
    have HFL := Lib.hid hfl; have HX := Lib.hid hx; have HM := Lib.hid hm; have HK := Lib.hid hK; have BX := Lib.hid hbx; have G0 := Lib.hid g0; have G1 := Lib.hid g1
    clear hfl hx hm hK hbx g0 g1
    gi_upto_region 3 with fail
    refine wpIn_order (tk := takeB) (fun _ => trivial) (fun Y : World => Y.heap[w.heap.size]? = some (.cells #[.pointer (some ⟨bn, 0, none⟩)] 79 (0, 0)) ∧ NetB Y bn W H (.slice aw nw cw) (.slice ak nk ck) mo rd ∧ Y.heap[Bx]? = some (.cells #[.int .i64 (x.1 : Int), .int .i64 (x.2 : Int)] 124 (0, 0))) [0, 1, 2, 3, 4, 5, 6, 7, 8, 9, 10] (by kernel_rfl) (by kernel_rfl) (by kernel_rfl) (by exact ⟨G0.out, G1.out.ext (Ext.refl _).drew, BX.out⟩) (fun hHeld => ?_)
    simp only [opsIn, List.filterMap_cons, List.filterMap_nil, List.getElem?_toArray, List.getElem?_cons_succ, List.getElem?_cons_zero]
    refine' textI_chunk 9 (by kernel_rfl) hHeld ?ck2 ?cr2
    case ck2 =>
      intro W hSw
      have hSW := hSw
      try dsimp only at hSW
      clear hSw
      obtain ⟨s1, s2, s3⟩ := hSW
      have p0 := cell_of_blk s1 (o := 0) rfl
      obtain ⟨n0, n1, n2, n3, n4⟩ := s2.head
      obtain ⟨d0, d1⟩ := cells2 s3
      simp only [List.take_succ_cons, List.take_zero, List.drop_succ_cons, List.drop_zero]
      repeat (go_big_quiet_step (fail))
      exact wpQuiet_nil rfl
    simp only [List.take_succ_cons, List.take_zero, List.drop_succ_cons, List.drop_zero]
    refine textI_call (by rfl) (by rfl) (fun K hK => ?_)
    go_simp
    refine ⟨trivial, (CallsIn.inRound l2 (callsIn_wide.2 (HTU.out _))).mono ?_⟩
    rintro e V1 ⟨rfl, he1⟩
    have HEE := Lib.hid he1
    have HV1 := Lib.hid ((Ext.refl X).drew.trans he1)
    clear he1
    all_goals (try (gi_wp2_with fail))
    refine hK.out _ _ (by exact ⟨block_ext HEE.out hHeld.1, hHeld.2.1.ext HEE.out, block_ext HEE.out hHeld.2.2⟩) (fun hHeld => ?_)
    clear hK K
    try simp only [Act.put, List.setIfInBounds_toArray, List.set_cons_zero, List.set_cons_succ]
    have hL : (Instr.lookup 113 (.map (some mo)) (kv (lkT W H x)) false).run Tryz.prog V1 = .ok (.bool fl) V1 := HLK.out V1 HV1.out
    refine textI_call (by rfl) (by rfl) (fun K hK => ?_)
    unfold kv lkT at hL
    dsimp only at hL
    go_simp
    all_goals (try (gi_wp2_with fail))
    refine hK.out _ _ (by exact hHeld) (fun hHeld => ?_)
    clear hK K hL
    try simp only [Act.put, List.setIfInBounds_toArray, List.set_cons_zero, List.set_cons_succ]
    refine textI_done ?_
    have Q0 := Lib.hid hHeld.1; have Q1 := Lib.hid hHeld.2.1; have QX := Lib.hid hHeld.2.2
    clear hHeld HEE
    cases fl
    · have hv1 := HV1.out.trans (Ext.refl V1).drew
      obtain ⟨w', hrun, hm', ht⟩ := (HM.out.ext hv1).put (by omega) (lkS x) (sm_lkS (by omega) hx2)
      have HRUN := Lib.hid hrun
      gi_upto_region 5 with fail
      refine wpIn_order (tk := takeB) (fun _ => trivial) (fun Y : World => Y.heap[w.heap.size]? = some (.cells #[.pointer (some ⟨bn, 0, none⟩)] 79 (0, 0)) ∧ NetB Y bn W H (.slice aw nw cw) (.slice ak nk ck) mo rd ∧ Y.heap[Bx]? = some (.cells #[.int .i64 (x.1 : Int), .int .i64 (x.2 : Int)] 124 (0, 0))) [0, 1, 2, 3, 4, 5] (by kernel_rfl) (by kernel_rfl) (by kernel_rfl) (by exact ⟨Q0.out, Q1.out.ext (Ext.refl _).drew, QX.out⟩) (fun hHeld => ?_)
      simp only [opsIn, List.filterMap_cons, List.filterMap_nil, List.getElem?_toArray, List.getElem?_cons_succ, List.getElem?_cons_zero]
      refine' textI_chunk 5 (by kernel_rfl) hHeld ?ck3 ?cr3
      case ck3 =>
        intro W hSw
        have hSW := hSw
        try dsimp only at hSW
        clear hSw
        obtain ⟨s1, s2, s3⟩ := hSW
        have p0 := cell_of_blk s1 (o := 0) rfl
        obtain ⟨n0, n1, n2, n3, n4⟩ := s2.head
        obtain ⟨d0, d1⟩ := cells2 s3
        simp only [List.take_succ_cons, List.take_zero, List.drop_succ_cons, List.drop_zero]
        repeat (go_big_quiet_step (fail))
        exact wpQuiet_nil rfl
      simp only [List.take_succ_cons, List.take_zero, List.drop_succ_cons, List.drop_zero]
      refine textI_call_more (by rfl) (by rfl) (fun K hK2 => ?_)
      refine wpIn_put_run (F := Fence.wide.inRound l2) (v := .map (some mo)) (sl := kv (lkS x)) (u := .bool true) (w' := w') (fun _ => by trivial) _ (.tmp 36) (.tmp 37) (.const (.bool true)) rfl ?_ ?_ ?_ ?_ ?_
      rfl
      rfl
      rfl
      exact HRUN.out
      have hg := ht.grown
      have hK1 : KeepT [mo] w.heap.size 0 X w' := (KeepT.ext (hv1)).trans ((KeepT.refl _ _ _ _).grown_in hg (fun g e => by cases e; exact .inl (by simp)))
      have HK1 := Lib.hid hK1
      have HM1 := Lib.hid hm'
      have HK2 := Lib.hid (HK.out.trans hK1)
      refine hK2.out (fun Y => Y = w') _ _ (fun Y hY => by rw [hY]; exact ⟨HK2.out.cells (by simp; omega) B05.out (by decide), ⟨N5.out.len, HK2.out.cells (by simpa using hmb) N5.out.blk (by decide)⟩, HK1.out.cells (by simp; omega) BX.out (by decide)⟩) rfl (fun hHeld => ?_)
      clear hK2 K
      try simp only [Act.put, List.setIfInBounds_toArray, List.set_cons_zero, List.set_cons_succ]
      refine textI_done ?_
      clear hg hK1 hm' ht hrun hHeld
      gi_wp2
      refine ⟨HK1.out, ?_, HK2.out⟩
      rw [take_snoc HX.out, addL_snoc]
      rw [show addS W H (addL W H F (L.take k)) x = lkS x :: addL W H F (L.take k) from by unfold addS; rw [← HFL.out]; rfl]
      exact HM1.out
    · gi_upto_region 4 with fail
      refine wpIn_order (tk := takeB) (fun _ => trivial) (fun Y : World => Y.heap[w.heap.size]? = some (.cells #[.pointer (some ⟨bn, 0, none⟩)] 79 (0, 0)) ∧ NetB Y bn W H (.slice aw nw cw) (.slice ak nk ck) mo rd ∧ Y.heap[Bx]? = some (.cells #[.int .i64 (x.1 : Int), .int .i64 (x.2 : Int)] 124 (0, 0))) [0, 1, 2, 3, 4, 5, 6, 7, 8, 9, 10] (by kernel_rfl) (by kernel_rfl) (by kernel_rfl) (by exact ⟨Q0.out, Q1.out.ext (Ext.refl _).drew, QX.out⟩) (fun hHeld => ?_)
      simp only [opsIn, List.filterMap_cons, List.filterMap_nil, List.getElem?_toArray, List.getElem?_cons_succ, List.getElem?_cons_zero]
      refine' textI_chunk 9 (by kernel_rfl) hHeld ?ck4 ?cr4
      case ck4 =>
        intro W hSw
        have hSW := hSw
        try dsimp only at hSW
        clear hSw
        obtain ⟨s1, s2, s3⟩ := hSW
        have p0 := cell_of_blk s1 (o := 0) rfl
        obtain ⟨n0, n1, n2, n3, n4⟩ := s2.head
        obtain ⟨d0, d1⟩ := cells2 s3
        simp only [List.take_succ_cons, List.take_zero, List.drop_succ_cons, List.drop_zero]
        repeat (go_big_quiet_step (fail))
        exact wpQuiet_nil rfl
      simp only [List.take_succ_cons, List.take_zero, List.drop_succ_cons, List.drop_zero]
      refine textI_call (by rfl) (by rfl) (fun K hK => ?_)
      go_simp
      refine ⟨trivial, (CallsIn.inRound l2 (callsIn_wide.2 (HTU.out _))).mono ?_⟩
      rintro e V2 ⟨rfl, he1⟩
      have HEE := Lib.hid he1
      have HV2 := Lib.hid ((Ext.refl V1).drew.trans he1)
      clear he1
      all_goals (try (gi_wp2_with fail))
      refine hK.out _ _ (by exact ⟨block_ext HEE.out hHeld.1, hHeld.2.1.ext HEE.out, block_ext HEE.out hHeld.2.2⟩) (fun hHeld => ?_)
      clear hK K
      try simp only [Act.put, List.setIfInBounds_toArray, List.set_cons_zero, List.set_cons_succ]
      have hv1 := HV1.out.trans HV2.out
      obtain ⟨w', hrun, hm', ht⟩ := (HM.out.ext hv1).del (lkT W H x) (sm_lkT hW hH hx1 hx2) 0
      have HRUN := Lib.hid hrun
      refine textI_call_more (by rfl) (by rfl) (fun K hK2 => ?_)
      refine wpIn_delete_run (F := Fence.wide.inRound l2) (v := .map (some mo)) (sl := kv (lkT W H x)) (v' := .tuple #[]) (w' := w') (fun _ => by trivial) (.tmp 26) (.tmp 32) 113 124 rfl ?_ ?_ ?_ ?_
      rfl
      rfl
      exact HRUN.out
      have hg := ht.grown
      have hK1 : KeepT [mo] w.heap.size 0 X w' := (KeepT.ext (hv1)).trans ((KeepT.refl _ _ _ _).grown_in hg (fun g e => by cases e; exact .inl (by simp)))
      have HK1 := Lib.hid hK1
      have HM1 := Lib.hid hm'
      have HK2 := Lib.hid (HK.out.trans hK1)
      refine hK2.out (fun Y => Y = w') _ _ (fun Y hY => by rw [hY]; exact ⟨HK2.out.cells (by simp; omega) B05.out (by decide), ⟨N5.out.len, HK2.out.cells (by simpa using hmb) N5.out.blk (by decide)⟩, HK1.out.cells (by simp; omega) BX.out (by decide)⟩) rfl (fun hHeld => ?_)
      clear hK2 K
      try simp only [Act.put, List.setIfInBounds_toArray, List.set_cons_zero, List.set_cons_succ]
      refine textI_done ?_
      clear hg hK1 hm' ht hrun hHeld
      gi_wp2
      refine ⟨HK1.out, ?_, HK2.out⟩
      rw [take_snoc HX.out, addL_snoc]
      rw [show addS W H (addL W H F (L.take k)) x = (addL W H F (L.take k)).filter fun y => !decide (y = lkT W H x) from by unfold addS; rw [← HFL.out]; rfl]
      exact HM1.out.more (by omega)
  case done =>
    rintro D X hD ⟨hm, hK⟩ hDW
    rw [List.take_length] at hm
    have GD := Lib.hid hDW; have GM := Lib.hid hm; have GK := Lib.hid (HK5.out.trans hK)
    clear hm hK hDW
    gi_wp2
    refine ⟨by simp, .inl ⟨_, _, rfl, run_takeDeferred GD.out, ?_⟩⟩
    refine ⟨_, by first | (simp [results, Tryz.results83, go_sem]; done) | (simp [results, Tryz.results83, go_sem]; rfl), ⟨_, rfl⟩, GM.out.same (World.putObj_heap_other (by omega)), GK.out.grown_in (grownBy_putObj' _ D (.deferred none)) (fun g e => by cases e; exact .inr (by omega))⟩
  case stop => rintro D q k X hD hk h hDW; exact h.elim
end Go.Proofs.YtppjnpempgpkaaaGreat
namespace Go.Proofs.YtppjnpempgpkaaaGreat
open Go.RowKit Go.Shelf
set_option linter.unusedVariables false
set_option linter.unusedSimpArgs false
theorem lkS_inj {s t : Sd} (h : lkS s = lkS t) : s = t := by
  obtain ⟨a, b⟩ := s
  obtain ⟨c, d⟩ := t
  unfold lkS at h
  simp only [Prod.mk.injEq] at h
  rw [Prod.mk.injEq]
  omega
theorem inF_iff {F : List Lk} {l : Lk} : inF F l = true ↔ l ∈ F := by unfold inF; simp
theorem inF_map {F : List Sd} {s : Sd} : lkS s ∈ F.map lkS ↔ s ∈ F := by
  rw [List.mem_map]
  exact ⟨fun ⟨t, h1, h2⟩ => lkS_inj h2 ▸ h1, fun h => ⟨s, h, rfl⟩⟩
theorem inF_eq {F F' : List Lk} (h : ∀ l, l ∈ F ↔ l ∈ F') (l : Lk) : inF F l = inF F' l := by
  unfold inF; rw [decide_eq_decide]; exact h l
theorem addS_congr {W H : Nat} {F F' : List Lk} (h : ∀ l, l ∈ F ↔ l ∈ F') (s : Sd) : ∀ l, l ∈ addS W H F s ↔ l ∈ addS W H F' s := by
  intro l
  unfold addS
  rw [inF_eq h]
  split
  · simp [List.mem_filter, h l]
  · simp [h l]
theorem addL_congr {W H : Nat} : ∀ (L : List Sd) {F F' : List Lk}, (∀ l, l ∈ F ↔ l ∈ F') → ∀ l, l ∈ addL W H F L ↔ l ∈ addL W H F' L
  | [], F, F', h => h
  | s :: L, F, F', h => by
    intro l
    show l ∈ addL W H (addS W H F s) L ↔ l ∈ addL W H (addS W H F' s) L
    exact addL_congr L (addS_congr h s) l
theorem add_one {G : Grid} {W H : Nat} (hW : W ≤ 8) (hH : H ≤ 8) (hGn : G.n = W * H) (hGb : G.bh = bhP W H) {F : List Sd} (hnd : F.Nodup) {s : Sd} (h1 : s.1 < W * H) (h2 : s.2 < 4) : ∀ l, l ∈ addS W H (F.map lkS) s ↔ l ∈ (tg G F s).map lkS := by
  intro l
  obtain ⟨c, k⟩ := s
  unfold addS tg
  rcases nx_bound hW hH h1 h2 with h | ⟨d, h, hb, hd⟩
  · have hno : inF (F.map lkS) (lkT W H (c, k)) = false := by
      unfold inF
      rw [decide_eq_false_iff_not, List.mem_map]
      rintro ⟨t, -, ht⟩
      unfold lkS lkT at ht
      simp only [Prod.mk.injEq] at ht
      have := ht.1
      rw [h] at this
      omega
    rw [if_neg (by rw [hno]; simp), show G.bh (c, k) = none from by rw [hGb]; exact nx_none h]
    simp
  · have e : lkT W H (c, k) = lkS (d, opp k) := by
      unfold lkS lkT
      rw [show nx W H c k = (d : Int) from h]
    rw [e, show G.bh (c, k) = some d from by rw [hGb]; exact hb]
    dsimp only
    by_cases hm : (d, opp k) ∈ F
    · rw [if_pos (inF_iff.2 (inF_map.2 hm)), if_pos (decide_eq_true hm), List.mem_filter, List.mem_map, List.mem_map]
      constructor
      · rintro ⟨⟨t, h3, rfl⟩, h4⟩
        have h5 : lkS t ≠ lkS (d, opp k) := by simpa using h4
        exact ⟨t, (List.Nodup.mem_erase_iff hnd).2 ⟨fun e => h5 (by rw [e]), h3⟩, rfl⟩
      · rintro ⟨t, h3, rfl⟩
        obtain ⟨h4, h5⟩ := (List.Nodup.mem_erase_iff hnd).1 h3
        exact ⟨⟨t, h5, rfl⟩, by simpa using fun e => h4 (lkS_inj e)⟩
    · rw [if_neg (fun h => hm (inF_map.1 (inF_iff.1 h))), if_neg (by simpa using hm)]
      simp
theorem tg_nodup {G : Grid} {F : List Sd} (hnd : F.Nodup) {s : Sd} (hs : s ∉ F) : (tg G F s).Nodup ∧ ∀ t, t ∈ tg G F s → t = s ∨ t ∈ F := by
  unfold tg
  split
  · split
    · exact ⟨hnd.erase _, fun t ht => .inr (List.mem_of_mem_erase ht)⟩
    · exact ⟨List.nodup_cons.2 ⟨hs, hnd⟩, fun t ht => List.mem_cons.1 ht⟩
  · exact ⟨List.nodup_cons.2 ⟨hs, hnd⟩, fun t ht => List.mem_cons.1 ht⟩
theorem add_all {G : Grid} {W H : Nat} (hW : W ≤ 8) (hH : H ≤ 8) (hGn : G.n = W * H) (hGb : G.bh = bhP W H) : ∀ (L : List Sd) {F : List Sd}, F.Nodup → L.Nodup → (∀ s ∈ L, s ∉ F) → (∀ s ∈ L, s.1 < W * H ∧ s.2 < 4) → ∀ l, l ∈ addL W H (F.map lkS) L ↔ l ∈ (L.foldl (tg G) F).map lkS
  | [], F, _, _, _, _ => fun l => Iff.rfl
  | s :: L, F, hF, hL, hn, hv => by
    intro l
    obtain ⟨hv1, hv2⟩ := hv s (by simp)
    obtain ⟨h1, h2⟩ := tg_nodup (G := G) hF (hn s (by simp))
    obtain ⟨h3, h4⟩ := List.nodup_cons.1 hL
    show l ∈ addL W H (addS W H (F.map lkS) s) L ↔ l ∈ (L.foldl (tg G) (tg G F s)).map lkS
    rw [addL_congr L (add_one hW hH hGn hGb hF hv1 hv2) l]
    exact add_all hW hH hGn hGb L h1 h4 (fun t ht hm => by
      rcases h2 t hm with rfl | h5
      · exact h3 ht
      · exact hn t (by simp [ht]) h5) (fun t ht => hv t (by simp [ht])) l
end Go.Proofs.YtppjnpempgpkaaaGreat
namespace Go.Proofs.YtppjnpempgpkaaaGreat
open Go.RowKit Go.Shelf
set_option linter.unusedVariables false
set_option linter.unusedSimpArgs false
attribute [local go_sem] Oper.semAt_some
theorem steps_nbs {G : Grid} {W H : Nat} (hGb : G.bh = bhP W H) {keep : Nat → Bool} {lt : Sd → Bool} {src : List Nat} : ∀ {ws : List Nat}, StepsOk G keep lt src ws → Nbs W H ws
  | [], _ => fun i c d h1 h2 => by simp at h1
  | [x], _ => fun i c d h1 h2 => by simp at h2
  | x :: y :: ws, h => fun i c d h1 h2 => by
    obtain ⟨⟨k, hk, -, hb⟩, -, -, h3⟩ := h
    cases i with
    | zero => simp at h1 h2; subst h1 h2; exact ⟨k, hk, by rw [← hGb]; exact hb⟩
    | succ i => exact steps_nbs hGb h3 i c d (by simpa using h1) (by simpa using h2)
/-- What is right about a way that a search finds. -/
structure FoundOk (G : Grid) (W H : Nat) (lt : Sd → Bool) (w : List Nat) (o : Option Nat) : Prop where
  ne : w ≠ []
  cell : ∀ x ∈ w, x < W * H
  nbs : Nbs W H w
  edge : ∀ k, o = some k → k < 4
  nd : (usesW G w o).Nodup
  lets : ∀ s ∈ usesW G w o, lt s = true
  len : w.length ≤ 64
theorem found_ok {G : Grid} {W H : Nat} (hGn : G.n = W * H) (hGb : G.bh = bhP W H) {wl : List Nat} {keep : Nat → Bool} (h : Pond G 64 wl keep) {lt : Sd → Bool} {src : List Nat} (hs : ∀ c ∈ src, c < G.n) (hnd : src.Nodup) {w : List Nat} {o : Option Nat} (hf : (find1 G 64 keep lt src).2 = some (w, o)) : FoundOk G W H lt w o := by
  obtain ⟨hg, ho⟩ := (h.search lt hs hnd).1 w o hf
  obtain ⟨hst, hwn, -⟩ := hg.steps
  have hcells := hg.cell hs
  obtain ⟨u1, u2, u3⟩ := uses_is (fun _ => trivial) o hg.ne hst hcells (by
    rcases ho with ⟨h1, -⟩ | ⟨k, h1, h2, h3, h4, h5⟩
    · exact .inl h1
    · exact .inr ⟨k, h1, h3, h4, h2, h5⟩)
  refine ⟨hg.ne, fun x hx => by rw [← hGn]; exact hcells x hx, steps_nbs hGb hst, fun k hk => ?_, List.Pairwise.of_map Prod.fst (fun a b h e => h (by rw [e])) (u3.sublist.nodup hwn), fun s hs => (u2 s hs).1, nodup_le 64 hwn fun x hx => Nat.lt_of_lt_of_le (hcells x hx) h.le⟩
  rcases ho with ⟨h1, -⟩ | ⟨k', h1, -, h3, -⟩
  · rw [h1] at hk; cases hk
  · rw [h1] at hk; cases hk; exact h3
theorem usesW_le (G : Grid) (o : Option Nat) (ws : List Nat) : (usesW G ws o).length ≤ ws.length := by
  cases o with
  | none => rw [usesW_none]; omega
  | some k =>
    by_cases h : ws = []
    · subst h; exact Nat.le_refl _
    · rw [(usesW_some G k ws h).1]; exact Nat.le_refl _
theorem allS_len (n : Nat) : (allS n).length = 4 * n := by
  unfold allS
  induction n with
  | zero => rfl
  | succ n ih => rw [List.range_succ, List.flatMap_append, List.length_append, ih]; simp [sidesOf]; omega
theorem stk_le (G : Grid) (w : Nat → Bool) : stk G w ≤ 4 * G.n := by unfold stk; rw [← allS_len]; exact List.countP_le_length
def FrNet (W H nw cw nk ck : Nat) (aw ak : Option Addr) (b0 bn : Nat) (A : Act) : Prop := ∃ f : Nat → Value, A = { tmps := #[.agg #[.int .i64 (W : Int), .int .i64 (H : Int), .slice aw nw cw, .slice ak nk ck], .pointer (some ⟨b0, 0, none⟩), .pointer none, .pointer (some ⟨bn, 0, none⟩), f 4, f 5, f 6, f 7, f 8, f 9, f 10, f 11, f 12, f 13, f 14, f 15, f 16, f 17, f 18, f 19, f 20, f 21, f 22, f 23, f 24, f 25, f 26, f 27, f 28], defers := [] }
theorem FrNet.mk {W H nw cw nk ck : Nat} {aw ak : Option Addr} {b0 bn : Nat} {x4 x5 x6 x7 x8 x9 x10 x11 x12 x13 x14 x15 x16 x17 x18 x19 x20 x21 x22 x23 x24 x25 x26 x27 x28 : Value} : FrNet W H nw cw nk ck aw ak b0 bn { tmps := #[.agg #[.int .i64 (W : Int), .int .i64 (H : Int), .slice aw nw cw, .slice ak nk ck], .pointer (some ⟨b0, 0, none⟩), .pointer none, .pointer (some ⟨bn, 0, none⟩), x4, x5, x6, x7, x8, x9, x10, x11, x12, x13, x14, x15, x16, x17, x18, x19, x20, x21, x22, x23, x24, x25, x26, x27, x28], defers := [] } := ⟨fun j => (#[undef, undef, undef, undef, x4, x5, x6, x7, x8, x9, x10, x11, x12, x13, x14, x15, x16, x17, x18, x19, x20, x21, x22, x23, x24, x25, x26, x27, x28] : Array Value).getD j undef, rfl⟩
set_option maxRecDepth 100000 in
set_option maxHeartbeats 1000000 in
theorem newNet_c (W H nw cw nk ck : Nat) (aw ak : Option Addr) (wn kn : List Nat) (hW : 1 ≤ W ∧ W ≤ 8) (hH : 1 ≤ H ∧ H ≤ 8) (G : Grid) (hGn : G.n = W * H) (hGb : G.bh = bhP W H) (hpd : Pond G 64 wn (memL kn)) (w : World) (hrw : Reads w (.slice aw nw cw) (natI wn)) (hrk : Reads w (.slice ak nk ck) (natI kn)) :
    Calls Tryz.prog 45 #[.agg #[.int .i64 (W : Int), .int .i64 (H : Int), .slice aw nw cw, .slice ak nk ck]] w fun e w' => ∃ bn mo n rd, e = .returned (.pointer (some ⟨bn, 0, none⟩)) ∧ w.heap.size ≤ bn ∧ w.heap.size ≤ mo ∧ NetB w' bn W H (.slice aw nw cw) (.slice ak nk ck) mo rd ∧ SMap w' mo n ((flowF G 64 wn (memL kn)).map lkS) ∧ n < 100000 ∧ Ext w w' := by
  have hn64 : W * H ≤ 64 := Nat.mul_le_mul hW.2 hH.2
  obtain ⟨mo, hmo⟩ : ∃ mo, mo = w.heap.size + 1 := ⟨_, rfl⟩
  obtain ⟨bn, hbn⟩ : ∃ bn, bn = w.heap.size + 1 + 1 := ⟨_, rfl⟩
  obtain ⟨A0, hA0⟩ : ∃ A0, A0 = (netC W H (.slice aw nw cw) (.slice ak nk ck) (w.heap.size + 1) no64).toArray := ⟨_, rfl⟩
  have HA0 := Lib.hid hA0
  obtain ⟨X0, hX0⟩ : ∃ X0, X0 = ((w.alloc (.cells #[.int .i64 (W : Int), .int .i64 (H : Int), .slice aw nw cw, .slice ak nk ck] 72)).alloc (.map #[] 0)).alloc (.cells A0 115) := ⟨_, rfl⟩
  have hE0 : Ext w X0 := by rw [hX0]; exact (((Ext.refl w).alloc _).alloc _).alloc _
  have N0 := Lib.hid (show NetB X0 bn W H (.slice aw nw cw) (.slice ak nk ck) mo no64 from ⟨rfl, by rw [hX0, hmo, ← hA0]; exact heap_alloc_at _ _ (by rw [hbn]; simp)⟩)
  have M0 := Lib.hid (show SMap X0 mo 0 (([] : List Sd).map lkS) from by
    have := (SMap.made (w.alloc (.cells #[.int .i64 (W : Int), .int .i64 (H : Int), .slice aw nw cw, .slice ak nk ck] 72))).ext ((Ext.refl _).alloc (.cells A0 115))
    rw [hX0, hmo]
    simpa using this)
  have HE0 := Lib.hid hE0; have HX0 := Lib.hid hX0
  have HBN := Lib.hid (show w.heap.size ≤ bn ∧ w.heap.size ≤ mo ∧ bn ≠ mo from by omega)
  have HRW := Lib.hid hrw; have HRK := Lib.hid hrk; have HPD := Lib.hid hpd; have HGN := Lib.hid hGn; have HGB := Lib.hid hGb
  have hmm := @run_makeMap Tryz.prog
  obtain ⟨aw', haw⟩ : ∃ aw', aw' = aw := ⟨_, rfl⟩
  have hnw : nw ≤ 5000 := by have h := hrw.shape; have h2 := hrw.len; have h1 := h.1; omega
  clear hX0 hE0 hA0 haw aw' hrw hrk hpd hGn hGb
  go_enter Tryz.func45, Tryz.ntmps45
  go_wp2_with (first | (refine wpList_build rfl 115 _ rfl (by kernel_rfl) ?_; rw [show (Tryz.prog.built 115 (Array.map _ _).toList).getD #[] = A0 from HA0.out ▸ by kernel_rfl]) | fail)
  rw [← HX0.out, ← hbn]
  clear hmm hbn hmo
  obtain ⟨T, hT⟩ : ∃ T, T = stk G (wantB wn) + 1 := ⟨_, rfl⟩
  have HT := Lib.hid hT
  have hT2 : T ≤ 257 := by rw [hT]; have := stk_le G (wantB wn); rw [HGN.out] at this; omega
  have h0 : val G.n (wantB wn) (fun _ => 0) = 0 := by
    have := (Fl.zero G (wantB wn) (memL kn)).bal fun x => bi (wantB wn x)
    unfold val
    rw [← this]; rfl
  have HLT0 := Lib.hid (show (stk G (wantB wn) : Int) < val G.n (wantB wn) (fun _ => 0) + (T : Int) from by rw [hT, h0]; omega)
  clear hT h0
  refine wp_loop_ghost (fun N A X => ∃ (F : List Sd) (b : Nat → Int) (rd : List Bool) (n : Nat), FrNet W H nw cw nk ck aw ak w.heap.size bn A ∧ Hid (netF G 64 wn (memL kn) N F = flowF G 64 wn (memL kn)) ∧ Hid (Fl G (wantB wn) (memL kn) F b) ∧ Hid ((stk G (wantB wn) : Int) < val G.n (wantB wn) b + N) ∧ n + 65 * N ≤ 65 * T ∧ Hid (NetB X bn W H (.slice aw nw cw) (.slice ak nk ck) mo rd) ∧ Hid (SMap X mo n (F.map lkS)) ∧ Hid (Ext w X)) T ?start ?round
  case start => exact ⟨[], fun _ => 0, no64, 0, FrNet.mk, Lib.hid (by rw [HT.out]; rfl), Lib.hid (Fl.zero _ _ _), HLT0, by omega, N0, M0, HE0⟩
  case round =>
    clear N0 M0 HE0 HX0 HA0
    rintro N A X ⟨F, b, rd, n, ⟨f, rfl⟩, HNF, HFl, HLT, hnN, HN, HM, HE⟩
    have hbnX := HN.out.lt
    have hmoX := HM.out.lt
    have HSE := Lib.hid (fun (Y : World) (hY : Ext X Y) => searchFree W H nw cw nk ck aw ak bn mo (.slice aw nw cw) wn kn wn hW hH G HGN.out HGB.out HPD.out (fre F) rd Y (HN.out.ext hY) (fun Z hZ => HRK.out.ext (KeepT.below (HE.out.trans hY) hZ (by simpa using HBN.out.1) ((HE.out.trans hY).size))) (fun Z hZ => HRW.out.ext (KeepT.below (HE.out.trans hY) hZ (by simpa using HBN.out.1) ((HE.out.trans hY).size))) (fun c hc => by rw [← HGN.out]; exact HPD.out.wn c hc) HPD.out.wnd
      (fun Z s h1 h2 hZ hc => by
        have hb := hZ.low (g := mo) (Nat.lt_of_lt_of_le hmoX hY.size) (by have := HBN.out.2.2; simp; omega) (Nat.lt_of_lt_of_le hmoX hY.size)
        have h := isFree_c bn mo n (F.map lkS) (lkS s) Z hc ((HM.out.ext hY).same hb) (sm_lkS h1 h2)
        rw [show (!inF (F.map lkS) (lkS s)) = fre F s from by unfold fre inF; rw [decide_eq_decide.2 inF_map]] at h
        exact h))
    obtain ⟨n0, n1, n2, n3, n4⟩ := HN.out.head
    have hN0 : N ≠ 0 := fun e => by
      have h1 := HFl.out.le (enc_want HPD.out)
      have h2 := HLT.out
      rw [e] at h2
      omega
    obtain ⟨M, rfl⟩ : ∃ M, N = M + 1 := ⟨N - 1, by omega⟩
    clear hN0
    go_upto_region 3 with (first | (go_at_call 81; refine Calls.mono (HSE.out X (Ext.refl X)) ?_; intro e V1 h1; unfold SearchPost at h1; obtain ⟨h1, hn1, hk1⟩ := h1; obtain ⟨va, vn, vp, oo, fnd, h1, hmt⟩ := h1; subst h1; have HMT := Lib.hid hmt; have HN1 := Lib.hid hn1; have HK1 := Lib.hid hk1; clear hmt hn1 hk1) | fail)
    obtain ⟨V3, hV3⟩ : ∃ V3, V3 = V1.alloc (.cells #[.slice va vn vp, .int .i64 oo] 60) := ⟨_, rfl⟩
    have hE3 : Ext V1 V3 := by rw [hV3]; exact (Ext.refl _).alloc _
    have HB := Lib.hid (show V3.heap[V1.heap.size]? = some (.cells #[.slice va vn vp, .int .i64 oo] 60 (0, 0)) from by rw [hV3]; exact heap_alloc_new V1 _)
    have HN3 := Lib.hid (HN1.out.ext hE3); have HK3 := Lib.hid (HK1.out.trans (KeepT.ext hE3)); have HE3 := Lib.hid hE3
    have hmb : mo ≠ bn := fun e => HBN.out.2.2 e.symm
    have HM3 := Lib.hid (HM.out.same (HK3.out.low hmoX (by simpa using hmb) hmoX))
    have HX3 := Lib.hid (KeepT.below HE.out HK3.out (by simpa using HBN.out.1) HE.out.size)
    have hmt := HMT.out
    rw [← hV3]
    clear hV3 hE3 n0 n1 n2 n3 n4
    cases hf : (find1 G 64 (memL kn) (fre F) wn).2 with
    | none =>
      rw [hf] at hmt
      dsimp only at hmt
      subst hmt
      have hfl : flowF G 64 wn (memL kn) = F := by rw [← HNF.out]; unfold netF; rw [hf]
      have HFL := Lib.hid hfl
      clear hf hfl
      go_wp2
      go_ret
      have hfin : SMap V3 mo n ((flowF G 64 wn (memL kn)).map lkS) := by rw [HFL.out]; exact HM3.out
      have hlt : n < 100000 := by omega
      first
      | exact ⟨bn, rfl, HBN.out.1, mo, HBN.out.2.1, n, ⟨_, HN3.out⟩, hfin, hlt, HX3.out⟩
      | exact ⟨bn, rfl, HBN.out.1, mo, HBN.out.2.1, ⟨_, HN3.out⟩, n, hfin, hlt, HX3.out⟩
      | exact ⟨bn, rfl, HBN.out.1, mo, HBN.out.2.1, ⟨_, HN3.out⟩, ⟨n, hfin, hlt⟩, HX3.out⟩
      | trace_state
    | some r =>
      obtain ⟨ws, o⟩ := r
      rw [hf] at hmt
      dsimp only at hmt
      obtain ⟨rfl, hrow, ho⟩ := hmt
      have ho2 : oo = oI o := ho.trans (by cases o <;> rfl)
      clear ho
      subst ho2
      have hfo := found_ok HGN.out HGB.out HPD.out HPD.out.wn HPD.out.wnd hf
      obtain ⟨b', hFl', hval⟩ := HPD.out.step HFl.out hf
      obtain ⟨L, hL⟩ : ∃ L, L = usesW G ws o := ⟨_, rfl⟩
      have hLl : L.length ≤ 64 := by rw [hL]; exact Nat.le_trans (usesW_le G o ws) hfo.len
      have hAD := add_c W H nw cw nk ck aw ak G HGN.out HGB.out ws o va vn vp bn mo n (F.map lkS) _ V3 hW hH hfo.ne hfo.cell hfo.nbs hfo.edge (by rw [← hL]; omega) HN3.out HM3.out (fun Y hY => ((hrow.stay (Stay3.ext HE3.out)).stay (fun g cs hg => hY g cs 3 (0, 0) hg (by
        intro hm
        obtain ⟨es, ck', hb⟩ := HM3.out.blk
        rw [List.mem_singleton] at hm
        rw [hm, hb] at hg
        cases hg) (.inl (by decide)))).reads)
      rw [← hL] at hAD hFl'
      have hset := add_all hW.2 hH.2 HGN.out HGB.out L HFl.out.nd (by rw [hL]; exact hfo.nd) (fun s hs => fre_iff.1 (hfo.lets s (by rw [← hL]; exact hs))) (fun s hs => by
        obtain ⟨h1, h2⟩ := usesW_small hfo.edge (show s ∈ usesW G ws o from by rw [← hL]; exact hs)
        exact ⟨hfo.cell _ h1, h2⟩)
      have hnf : netF G 64 wn (memL kn) M (L.foldl (tg G) F) = flowF G 64 wn (memL kn) := by rw [← HNF.out, hL]; conv => rhs; unfold netF; rw [hf]
      have HAD := Lib.hid hAD; have HFl' := Lib.hid hFl'; have HV := Lib.hid hval; have HSET := Lib.hid hset; have HNF' := Lib.hid hnf
      obtain ⟨s0, s1⟩ := cells2 HB.out
      clear hAD hFl' hval hset hnf hfo hrow hf hL
      go_wp2_with (first | (go_at_call 83; refine Calls.mono HAD.out ?_; intro e V4 h1; obtain ⟨h1, hm4, hk4⟩ := h1; obtain ⟨v, h1⟩ := h1; subst h1; have HM4 := Lib.hid hm4; have HK4 := Lib.hid hk4; clear hm4 hk4) | fail)
      exact ⟨M, by omega, L.foldl (tg G) F, b', _, n + L.length, FrNet.mk, HNF', HFl', Lib.hid (by have := HLT.out; have := HV.out; omega), by omega, Lib.hid ⟨HN3.out.len, HK4.out.cells (by simpa using fun e => hmb e.symm) HN3.out.blk (by decide)⟩, Lib.hid (HM4.out.congr (fun l hl => by
        obtain ⟨s, hs, rfl⟩ := List.mem_map.1 hl
        obtain ⟨h1, h2⟩ := HFl'.out.ok s hs
        rw [HGN.out] at h1
        exact sm_lkS (by omega) h2) (inF_eq HSET.out)), Lib.hid (KeepT.below HX3.out HK4.out (by simpa using HBN.out.2.1) HX3.out.size)⟩
end Go.Proofs.YtppjnpempgpkaaaGreat
namespace Go.Proofs.YtppjnpempgpkaaaGreat
open Go.RowKit Go.Shelf
set_option linter.unusedVariables false
set_option linter.unusedSimpArgs false
attribute [local go_sem] Oper.semAt_some
theorem rd_letters {rd : List Bool} (h : rd.length = 64) : ∃ f : Nat → Bool, rd = (List.range 64).map f := by
  refine ⟨fun i => rd.getD i false, ?_⟩
  refine List.ext_getElem (by simp [h]) fun i h1 h2 => ?_
  simp [List.getD_eq_getElem?_getD, List.getElem?_eq_getElem h1]
set_option maxRecDepth 100000 in
theorem raft_built (W H : Nat) (vw vk : Value) {rd : List Bool} (h : rd.length = 64) : Tryz.prog.built 78 [(0, .agg #[.int .i64 (W : Int), .int .i64 (H : Int), vw, vk]), (1, .agg (rd.map Value.bool).toArray)] = some (rc W H vw vk rd).toArray := by
  obtain ⟨f, rfl⟩ := rd_letters h
  kernel_rfl
theorem infoMarks : (Tryz.prog.info? 76).map (·.size) = some 64 := by kernel_rfl
theorem exec_load_mid {W : World} {o : Oper} {a : Act} (ty : TypeId) (x : Operand) (ho : o.op = .load ty x) (b p : Nat) (hx : a.eval x = .pointer (some ⟨b, p, none⟩)) (cs : List Value) (d : TypeDesc) (hc : W.rangeAt b p cs)
    (hu : Tryz.prog.underlying ty = some d) (hd : d.isRow = true) (hi : (Tryz.prog.info? ty).map (·.size) = some cs.length) : (execOp a.eval o).run Tryz.prog W = .ok (.value (.agg cs.toArray)) W := by
  unfold execOp
  simp only [ho, hx, Instr.loadAt, Instr.sureAddr, Sem.run_bind, Sem.run_pure, Result.andThen_ok, run_loadVar_mid W b p ty cs d hc hu hd hi]
theorem exec_build {W : World} {o : Oper} {a : Act} (t : TypeId) (parts : Array (Nat × Operand)) (ho : o.op = .build t parts) (cells : Array Value) (h : Tryz.prog.built t (parts.map fun (i, x) => (i, a.eval x)).toList = some cells) : (execOp a.eval o).run Tryz.prog W = .ok (.value (.agg cells)) W := by
  unfold execOp
  simp only [ho, Sem.run_bind, run_build W t _ cells h, Result.andThen_ok]
  rfl
theorem KeepT.setRow {rs : List Nat} {b e : Nat} {w A : World} (h : KeepT rs b e w A) {g : Nat} (hg : g ∈ rs ∨ w.heap.size ≤ g) (cells : Array Value) : KeepT rs b e w (A.setRow g cells) :=
  ⟨h.os, h.tape, h.output, by rw [setRow_size]; exact h.size, fun k hk hn hc => (setRow_other (fun e => by subst e; rcases hg with h1 | h1; exact hn h1; omega) cells).trans (h.block k hk hn hc)⟩
set_option maxRecDepth 100000 in
set_option maxHeartbeats 1000000 in
theorem small_c (W H nw cw nk ck : Nat) (aw ak : Option Addr) (wn kn : List Nat) (hW : 1 ≤ W ∧ W ≤ 8) (hH : 1 ≤ H ∧ H ≤ 8) (G : Grid) (hGn : G.n = W * H) (hGb : G.bh = bhP W H) (hpd : Pond G 64 wn (memL kn)) (bn mo n : Nat) (F : List Sd) (rd : List Bool) (w : World) (hnet : NetB w bn W H (.slice aw nw cw) (.slice ak nk ck) mo rd) (hmap : SMap w mo n (F.map lkS))
    (hrw : ∀ Y, KeepT [bn] w.heap.size 0 w Y → Reads Y (.slice aw nw cw) (natI wn)) (hrk : ∀ Y, KeepT [bn] w.heap.size 0 w Y → Reads Y (.slice ak nk ck) (natI kn)) :
    Calls Tryz.prog 46 #[.pointer (some ⟨bn, 0, none⟩)] w fun e w' => ∃ A, e = .returned (.agg A) ∧ IsRaft A W H (.slice aw nw cw) (.slice ak nk ck) (find1 G 64 (memL kn) (fre F) wn).1.rd ∧ NetB w' bn W H (.slice aw nw cw) (.slice ak nk ck) mo (find1 G 64 (memL kn) (fre F) wn).1.rd ∧ KeepT [bn] w.heap.size 0 w w' := by
  obtain ⟨rn, hrn⟩ : ∃ rn, rn = (find1 G 64 (memL kn) (fre F) wn).1.rd := ⟨_, rfl⟩
  rw [← hrn]
  have HRN := Lib.hid hrn
  clear hrn
  have hbn := hnet.lt
  have hmo := hmap.lt
  have hmb := mo_ne hnet hmap
  obtain ⟨w1, hw1⟩ : ∃ w1, w1 = w.alloc (.cells zR 78) := ⟨_, rfl⟩
  have hE1 : Ext w w1 := by rw [hw1]; exact (Ext.refl w).alloc _
  have HZR := Lib.hid (show w1.heap[w.heap.size]? = some (.cells zR 78 (0, 0)) from by rw [hw1]; exact heap_alloc_new w _)
  have HN := Lib.hid (hnet.ext hE1); have HE1 := Lib.hid hE1; have HW1 := Lib.hid hw1
  have HSE := Lib.hid (searchFree W H nw cw nk ck aw ak bn mo (.slice aw nw cw) wn kn wn hW hH G hGn hGb hpd (fre F) rd w1 HN.out (fun Z hZ => hrk Z (KeepT.comp (KeepT.ext hE1) hZ (fun r hr => .inl hr) hE1.size)) (fun Z hZ => hrw Z (KeepT.comp (KeepT.ext hE1) hZ (fun r hr => .inl hr) hE1.size)) (fun c hc => by rw [← hGn]; exact hpd.wn c hc) hpd.wnd
    (fun Z s h1 h2 hZ hc => by
      have hb := hZ.low (g := mo) (Nat.lt_of_lt_of_le hmo hE1.size) (by simpa using fun e => hmb e.symm) (Nat.lt_of_lt_of_le hmo hE1.size)
      have h := isFree_c bn mo n (F.map lkS) (lkS s) Z hc ((hmap.ext hE1).same hb) (sm_lkS h1 h2)
      rw [show (!inF (F.map lkS) (lkS s)) = fre F s from by unfold fre inF; rw [decide_eq_decide.2 inF_map]] at h
      exact h))
  obtain ⟨n0, n1, n2, n3, n4⟩ := HN.out.head
  clear hw1 hE1 hnet hmap hrw hrk hpd
  go_enter Tryz.func46, Tryz.ntmps46
  go_upto_region 1 with (first | (refine wp_allocRow rfl 78 rfl alloc_raft ?_) | fail)
  rw [← HW1.out]
  go_upto_region 2 with (first | (go_at_call 81; refine Calls.mono HSE.out ?_; intro e V1 h1; unfold SearchPost at h1; obtain ⟨h1, hn1, hk1⟩ := h1; obtain ⟨va, vn, vp, oo, fnd, h1, hmt⟩ := h1; subst h1; have HN1 := Lib.hid hn1; have HK1 := Lib.hid hk1; clear hmt hn1 hk1) | fail)
  rw [← HRN.out] at HN1
  clear HSE n0 n1 n2 n3 n4
  obtain ⟨A, hA⟩ : ∃ A, A = (rc W H (.slice aw nw cw) (.slice ak nk ck) rn).toArray := ⟨_, rfl⟩
  have hIA : IsRaft A W H (.slice aw nw cw) (.slice ak nk ck) rn := ⟨hA, HN1.out.len⟩
  have HIA := Lib.hid hIA; have HIN := Lib.hid hIA.info; have HON := Lib.hid hIA.one; have HSZ := Lib.hid (show zR.size = A.size from by rw [hIA.size]; rfl)
  have HBU := Lib.hid (raft_built W H (.slice aw nw cw) (.slice ak nk ck) HN1.out.len)
  rw [← hA] at HBU
  clear hA hIA
  have HZ1 := Lib.hid (HK1.out.cells (by simp; omega) HZR.out (by decide))
  refine wp_region_order (fun Y : World => NetB Y bn W H (.slice aw nw cw) (.slice ak nk ck) mo rn) [0, 1, 2, 3, 4, 5, 6, 7, 8, 9] (by kernel_rfl) (by kernel_rfl) (by exact HN1.out.ext (Ext.refl _).drew) (fun hHeld => ?_)
  simp only [opsIn, List.filterMap_cons, List.filterMap_nil, List.getElem?_toArray, List.getElem?_cons_succ, List.getElem?_cons_zero]
  refine' text_chunk 7 (by kernel_rfl) hHeld ?ck1 ?cr1
  case ck1 =>
    intro W hSw
    have hSW := hSw
    try dsimp only at hSW
    clear hSw
    obtain ⟨n0, n1, n2, n3, n4⟩ := hSW.head
    simp only [List.take_succ_cons, List.take_zero, List.drop_succ_cons, List.drop_zero]
    repeat (go_big_quiet_step (fail))
    exact wpQuiet_nil rfl
  simp only [List.take_succ_cons, List.take_zero, List.drop_succ_cons, List.drop_zero]
  refine text_take (by rfl) (by rfl) (fun W hW => exec_load_mid 76 (.tmp 19) rfl bn 5 rfl _ _ hW.range Tryz.underlying76 rfl (by rw [infoMarks, List.length_map, hW.len])) ?_
  try simp only [Act.put, List.setIfInBounds_toArray, List.set_cons_zero, List.set_cons_succ]
  refine text_take (by rfl) (by rfl) (fun W hW => exec_build 78 _ rfl A (by first | exact HBU.out | (simp; exact HBU.out) | (simp [go_sem]; exact HBU.out) | (simp [Act.eval]; exact HBU.out))) ?_
  try simp only [Act.put, List.setIfInBounds_toArray, List.set_cons_zero, List.set_cons_succ]
  refine text_call_more (by rfl) (by rfl) (fun K hK => ?_)
  refine wp_store_row 78 (.tmp 2) (.tmp 21) rfl w.heap.size A rfl rfl 78 zR HZ1.out HIN.out HSZ.out HON.out ?_
  have HN2 := Lib.hid (show NetB (V1.drew.setRow w.heap.size A) bn W H (.slice aw nw cw) (.slice ak nk ck) mo rn from ⟨HN1.out.len, (setRow_other (by omega) A).trans HN1.out.blk⟩)
  refine hK.out (fun Y => Y = V1.drew.setRow w.heap.size A) _ _ (fun Y hY => by rw [hY]; exact HN2.out) rfl (fun hHeld => ?_)
  clear hK K hHeld
  try simp only [Act.put, List.setIfInBounds_toArray, List.set_cons_zero, List.set_cons_succ]
  refine text_done ?_
  go_wp2
  refine bodyPost_ret (v := .agg A) ?_ rfl ⟨A, rfl, HIA.out, HN2.out, ((KeepT.comp (KeepT.ext HE1.out) HK1.out (fun r hr => .inl hr) HE1.out.size).drew).setRow (.inr (Nat.le_refl _)) A⟩
  exact results_cell_row (P := Tryz.prog) (fn := Tryz.f46) Tryz.results46 _ _ _ _ _ _ _ rfl (setRow_heap' _ _ _ _ _ HZ1.out) Tryz.underlying78 rfl HIN.out
end Go.Proofs.YtppjnpempgpkaaaGreat
